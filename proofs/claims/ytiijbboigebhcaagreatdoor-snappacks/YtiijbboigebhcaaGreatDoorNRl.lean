import Derived.Test.YtiijbboigebhcaaGreatDoorNRd
namespace Go.Proofs.YtiijbboigebhcaaGreatDoor
open Go.RowKit Crc

theorem ownsRow_succN {w : World} {base z n : Nat} {e : TypeId} {v : Value} {xs : List Value} (h : w.ownsRow base e z v (n + 1) xs) : ∃ g cap, v = .slice (some ⟨g, 0, none⟩) (n + 1) cap := by
  rcases h.2 with ⟨_, h0⟩ | ⟨g, cap, _, rfl, _⟩
  · omega
  · exact ⟨g, cap, rfl⟩
theorem cells_newN (W : World) (xs : List Value) (t : TypeId) : ∀ (j : Nat) (u : Value), xs[j]? = some u → (W.alloc (.cells xs.toArray t)).cell? (Addr.add ⟨W.heap.size, 0, none⟩ j) = some u := fun j u h => by
  rw [add_at, block_cell (alloc_atN W _), Nat.zero_add]
  simpa using h
theorem infoAc : (Tryz.prog.info? 63).map (fun i => (i.zero, i.size, i.bytes)) = some (some (.agg #[.int .u64 0, .int .u64 0, .int .u64 0, .int .u64 0]), 4, 32) := by kernel_rfl
set_option maxRecDepth 10000 in
set_option maxHeartbeats 1600000 in
theorem readList_Ac {lim p : Nat} {w : World} {s : RS} (h : RdP lim w (some ⟨p, 0, none⟩) s) : Calls Tryz.prog 115 #[.pointer (some ⟨p, 0, none⟩), .int .i64 64, .func (.func 116) #[] #[]] w fun e w' => ∃ ao cap, e = .returned (.slice ao (rdC rdAc 64 s).1.length cap) ∧ Hid (Rw w.heap.size w' 63 4 Ac.cells (.slice ao (rdC rdAc 64 s).1.length cap) (rdC rdAc 64 s).1 ∧ At_ lim p w (rdC rdAc 64 s).2 w') := by
  obtain ⟨i0, hi0, hz0, hz1, hz2⟩ := info_parts infoAc
  have hpw := (At_.start h).pos.2
  have HC := hide (cnt_at (At_.start h) 64 (by omega) (by omega))
  have HLE := hide (cV_le s 64)
  have HLN := hide (rdL_len rdAc (cS s 64))
  have HE : Hid (rdC rdAc 64 s = rdL rdAc (cS s 64) (cV s 64)) := rfl
  generalize rdC rdAc 64 s = rc at *
  generalize cV s 64 = n at *
  clear h
  generalize cS s 64 = s1 at *
  have hn : n ≤ 64 := HLE.out
  go_enter Tryz.func115, Tryz.ntmps115
  go_wp2_with fail
  refine HC.out.mono ?_
  rintro e w1 ⟨rfl, H1⟩
  go_wp2
  go_loopw [7, 11] (fun v i wr => ∃ k : Nat, k ≤ n ∧ i = .int .i64 k ∧ ∃ ao cap, v = .slice ao k cap ∧ Hid (Rw w.heap.size wr 63 4 Ac.cells (.slice ao k cap) (rdL rdAc s1 k).1 ∧ At_ lim p w (rdL rdAc s1 k).2 wr)) (fun _ i _ => n - (intOf i).toNat)
  case atStart => exact ⟨0, by omega, rfl, none, 0, rfl, Rw.nil _ _ _ _ _, H1.out⟩
  case round =>
    obtain ⟨k, hk, rfl, ao, cap, rfl, HS⟩ := hrel
    clear H1 HC
    by_cases hlt : k < n
    · have HRV : Hid (Calls Tryz.prog 116 #[.pointer (some ⟨p, 0, none⟩)] wr fun e w1 => ∃ (a : Nat) (b : Nat) (c : Nat) (d : Nat), e = .returned (.agg #[.int .u64 (a : Int), .int .u64 (b : Int), .int .u64 (c : Int), .int .u64 (d : Int)]) ∧ Hid ((rdAc (rdL rdAc s1 k).2).1.cells = [.int .u64 (a : Int), .int .u64 (b : Int), .int .u64 (c : Int), .int .u64 (d : Int)] ∧ At_ lim p wr (rdAc (rdL rdAc s1 k).2).2 w1)) :=
        (readAccount_any HS.out.2.1).mono fun _ _ ⟨he, G⟩ => ⟨_, _, _, _, he, rfl, G.out⟩
      go_wp2_with fail
      refine HRV.out.mono ?_
      rintro e w2 ⟨a, b, c, d, rfl, G2⟩
      have hsz := Nat.le_trans HS.out.2.2.size G2.out.2.2.size
      have HOW : Hid (∀ o, (w2.alloc o).ownsRow w.heap.size 63 4 (.slice ao k cap) k (flat Ac.cells (rdL rdAc s1 k).1)) := fun o => by
        have r := (HS.out.1.kept G2.out.2.2 (.inr (fun e => absurd (World.ownsRow.lt HS.out.1 p e).1 (Nat.not_le.2 hpw)))).quiet (World.grownBy_alloc w2 o none)
        unfold Rw at r
        rw [HLN.out k] at r
        exact r
      have HNX : Hid (∀ (v' : Value) (w3 : World) (o : Obj), w3.ownsRow w.heap.size 63 4 v' (k + 1) (flat Ac.cells (rdL rdAc s1 k).1 ++ [.int .u64 (a : Int), .int .u64 (b : Int), .int .u64 (c : Int), .int .u64 (d : Int)]) → (w2.alloc o).grownBy w3 (Value.slice ao k cap).ownBlock → Rw w.heap.size w3 63 4 Ac.cells v' (rdL rdAc s1 (k + 1)).1 ∧ At_ lim p w (rdL rdAc s1 (k + 1)).2 w3) := fun v' w3 o ho hg => by
        refine ⟨?_, ?_⟩
        · unfold Rw
          rw [HLN.out (k + 1), rdL, flat_snoc, G2.out.1]
          exact ho
        · have a1 := (HS.out.2.trans G2.out.2).alloc o
          cases hb : (Value.slice ao k cap).ownBlock with
          | none => rw [hb] at hg; exact a1.quiet hg
          | some g => rw [hb] at hg; exact a1.box hpw (World.ownsRow.lt HS.out.1 g hb).1 hg
      clear HRV
      go_wp2_with (first
        | (at_builtin; refine wpList_append_own _ rfl (.tmp 13) (.tmp 17) 23 rfl w.heap.size 63 i0 (.agg #[.int .u64 0, .int .u64 0, .int .u64 0, .int .u64 0]) 4 32 Tryz.underlying23 hi0 hz0 hz1 hz2 rfl (by decide) (.slice ao k cap) k (flat Ac.cells (rdL rdAc s1 k).1) rfl (HOW.out _) ⟨w2.heap.size, 0, none⟩ 1 1 [.int .u64 (a : Int), .int .u64 (b : Int), .int .u64 (c : Int), .int .u64 (d : Int)] rfl rfl (cells_newN _ _ _) (by simp [Value.oneCell']) (by unfold maxLen; omega) (by omega) (Nat.le_trans hsz (by simp)) ?_; intro v' w3 ho hg _; obtain ⟨g', cap', rfl⟩ := ownsRow_succN ho; have NX := hide (HNX.out _ _ _ ho hg); clear ho hg))
      go_roundw
      case rel => exact ⟨k + 1, by omega, by go_num, _, _, rfl, NX.out⟩
      case measure => simp [intOf]; omega
    · obtain rfl : k = n := by omega
      have hl : rc.1.length = k := by rw [HE.out]; exact HLN.out k
      have FIN := HS.out
      rw [← HE.out] at FIN
      have HF := hide FIN
      clear FIN HS
      go_wp2
      go_ret
      exact ⟨ao, cap, by rw [hl]; rfl, by rw [hl]; exact HF.out⟩
theorem infoHo : (Tryz.prog.info? 65).map (fun i => (i.zero, i.size, i.bytes)) = some (some (.agg #[.int .u64 0, .int .u64 0, .int .u64 0]), 3, 24) := by kernel_rfl
set_option maxRecDepth 10000 in
set_option maxHeartbeats 1600000 in
theorem readList_Ho {lim p : Nat} {w : World} {s : RS} (h : RdP lim w (some ⟨p, 0, none⟩) s) : Calls Tryz.prog 117 #[.pointer (some ⟨p, 0, none⟩), .int .i64 64, .func (.func 118) #[] #[]] w fun e w' => ∃ ao cap, e = .returned (.slice ao (rdC rdHo 64 s).1.length cap) ∧ Hid (Rw w.heap.size w' 65 3 Ho.cells (.slice ao (rdC rdHo 64 s).1.length cap) (rdC rdHo 64 s).1 ∧ At_ lim p w (rdC rdHo 64 s).2 w') := by
  obtain ⟨i0, hi0, hz0, hz1, hz2⟩ := info_parts infoHo
  have hpw := (At_.start h).pos.2
  have HC := hide (cnt_at (At_.start h) 64 (by omega) (by omega))
  have HLE := hide (cV_le s 64)
  have HLN := hide (rdL_len rdHo (cS s 64))
  have HE : Hid (rdC rdHo 64 s = rdL rdHo (cS s 64) (cV s 64)) := rfl
  generalize rdC rdHo 64 s = rc at *
  generalize cV s 64 = n at *
  clear h
  generalize cS s 64 = s1 at *
  have hn : n ≤ 64 := HLE.out
  go_enter Tryz.func117, Tryz.ntmps117
  go_wp2_with fail
  refine HC.out.mono ?_
  rintro e w1 ⟨rfl, H1⟩
  go_wp2
  go_loopw [7, 11] (fun v i wr => ∃ k : Nat, k ≤ n ∧ i = .int .i64 k ∧ ∃ ao cap, v = .slice ao k cap ∧ Hid (Rw w.heap.size wr 65 3 Ho.cells (.slice ao k cap) (rdL rdHo s1 k).1 ∧ At_ lim p w (rdL rdHo s1 k).2 wr)) (fun _ i _ => n - (intOf i).toNat)
  case atStart => exact ⟨0, by omega, rfl, none, 0, rfl, Rw.nil _ _ _ _ _, H1.out⟩
  case round =>
    obtain ⟨k, hk, rfl, ao, cap, rfl, HS⟩ := hrel
    clear H1 HC
    by_cases hlt : k < n
    · have HRV : Hid (Calls Tryz.prog 118 #[.pointer (some ⟨p, 0, none⟩)] wr fun e w1 => ∃ (a : Nat) (b : Nat) (c : Nat), e = .returned (.agg #[.int .u64 (a : Int), .int .u64 (b : Int), .int .u64 (c : Int)]) ∧ Hid ((rdHo (rdL rdHo s1 k).2).1.cells = [.int .u64 (a : Int), .int .u64 (b : Int), .int .u64 (c : Int)] ∧ At_ lim p wr (rdHo (rdL rdHo s1 k).2).2 w1)) :=
        (readHold_any HS.out.2.1).mono fun _ _ ⟨he, G⟩ => ⟨_, _, _, he, rfl, G.out⟩
      go_wp2_with fail
      refine HRV.out.mono ?_
      rintro e w2 ⟨a, b, c, rfl, G2⟩
      have hsz := Nat.le_trans HS.out.2.2.size G2.out.2.2.size
      have HOW : Hid (∀ o, (w2.alloc o).ownsRow w.heap.size 65 3 (.slice ao k cap) k (flat Ho.cells (rdL rdHo s1 k).1)) := fun o => by
        have r := (HS.out.1.kept G2.out.2.2 (.inr (fun e => absurd (World.ownsRow.lt HS.out.1 p e).1 (Nat.not_le.2 hpw)))).quiet (World.grownBy_alloc w2 o none)
        unfold Rw at r
        rw [HLN.out k] at r
        exact r
      have HNX : Hid (∀ (v' : Value) (w3 : World) (o : Obj), w3.ownsRow w.heap.size 65 3 v' (k + 1) (flat Ho.cells (rdL rdHo s1 k).1 ++ [.int .u64 (a : Int), .int .u64 (b : Int), .int .u64 (c : Int)]) → (w2.alloc o).grownBy w3 (Value.slice ao k cap).ownBlock → Rw w.heap.size w3 65 3 Ho.cells v' (rdL rdHo s1 (k + 1)).1 ∧ At_ lim p w (rdL rdHo s1 (k + 1)).2 w3) := fun v' w3 o ho hg => by
        refine ⟨?_, ?_⟩
        · unfold Rw
          rw [HLN.out (k + 1), rdL, flat_snoc, G2.out.1]
          exact ho
        · have a1 := (HS.out.2.trans G2.out.2).alloc o
          cases hb : (Value.slice ao k cap).ownBlock with
          | none => rw [hb] at hg; exact a1.quiet hg
          | some g => rw [hb] at hg; exact a1.box hpw (World.ownsRow.lt HS.out.1 g hb).1 hg
      clear HRV
      go_wp2_with (first
        | (at_builtin; refine wpList_append_own _ rfl (.tmp 13) (.tmp 17) 24 rfl w.heap.size 65 i0 (.agg #[.int .u64 0, .int .u64 0, .int .u64 0]) 3 24 Tryz.underlying24 hi0 hz0 hz1 hz2 rfl (by decide) (.slice ao k cap) k (flat Ho.cells (rdL rdHo s1 k).1) rfl (HOW.out _) ⟨w2.heap.size, 0, none⟩ 1 1 [.int .u64 (a : Int), .int .u64 (b : Int), .int .u64 (c : Int)] rfl rfl (cells_newN _ _ _) (by simp [Value.oneCell']) (by unfold maxLen; omega) (by omega) (Nat.le_trans hsz (by simp)) ?_; intro v' w3 ho hg _; obtain ⟨g', cap', rfl⟩ := ownsRow_succN ho; have NX := hide (HNX.out _ _ _ ho hg); clear ho hg))
      go_roundw
      case rel => exact ⟨k + 1, by omega, by go_num, _, _, rfl, NX.out⟩
      case measure => simp [intOf]; omega
    · obtain rfl : k = n := by omega
      have hl : rc.1.length = k := by rw [HE.out]; exact HLN.out k
      have FIN := HS.out
      rw [← HE.out] at FIN
      have HF := hide FIN
      clear FIN HS
      go_wp2
      go_ret
      exact ⟨ao, cap, by rw [hl]; rfl, by rw [hl]; exact HF.out⟩
theorem infoEn : (Tryz.prog.info? 67).map (fun i => (i.zero, i.size, i.bytes)) = some (some (.agg #[.int .u64 0, .int .i64 0, .int .u64 0, .int .u64 0, .int .u64 0]), 5, 40) := by kernel_rfl
set_option maxRecDepth 10000 in
set_option maxHeartbeats 1600000 in
theorem readList_En {lim p : Nat} {w : World} {s : RS} (h : RdP lim w (some ⟨p, 0, none⟩) s) : Calls Tryz.prog 119 #[.pointer (some ⟨p, 0, none⟩), .int .i64 64, .func (.func 120) #[] #[]] w fun e w' => ∃ ao cap, e = .returned (.slice ao (rdC rdEn 64 s).1.length cap) ∧ Hid (Rw w.heap.size w' 67 5 En.cells (.slice ao (rdC rdEn 64 s).1.length cap) (rdC rdEn 64 s).1 ∧ At_ lim p w (rdC rdEn 64 s).2 w') := by
  obtain ⟨i0, hi0, hz0, hz1, hz2⟩ := info_parts infoEn
  have hpw := (At_.start h).pos.2
  have HC := hide (cnt_at (At_.start h) 64 (by omega) (by omega))
  have HLE := hide (cV_le s 64)
  have HLN := hide (rdL_len rdEn (cS s 64))
  have HE : Hid (rdC rdEn 64 s = rdL rdEn (cS s 64) (cV s 64)) := rfl
  generalize rdC rdEn 64 s = rc at *
  generalize cV s 64 = n at *
  clear h
  generalize cS s 64 = s1 at *
  have hn : n ≤ 64 := HLE.out
  go_enter Tryz.func119, Tryz.ntmps119
  go_wp2_with fail
  refine HC.out.mono ?_
  rintro e w1 ⟨rfl, H1⟩
  go_wp2
  go_loopw [7, 11] (fun v i wr => ∃ k : Nat, k ≤ n ∧ i = .int .i64 k ∧ ∃ ao cap, v = .slice ao k cap ∧ Hid (Rw w.heap.size wr 67 5 En.cells (.slice ao k cap) (rdL rdEn s1 k).1 ∧ At_ lim p w (rdL rdEn s1 k).2 wr)) (fun _ i _ => n - (intOf i).toNat)
  case atStart => exact ⟨0, by omega, rfl, none, 0, rfl, Rw.nil _ _ _ _ _, H1.out⟩
  case round =>
    obtain ⟨k, hk, rfl, ao, cap, rfl, HS⟩ := hrel
    clear H1 HC
    by_cases hlt : k < n
    · have HRV : Hid (Calls Tryz.prog 120 #[.pointer (some ⟨p, 0, none⟩)] wr fun e w1 => ∃ (a : Nat) (k0 : Int) (b : Nat) (c : Nat) (d : Nat), e = .returned (.agg #[.int .u64 (a : Int), .int .i64 k0, .int .u64 (b : Int), .int .u64 (c : Int), .int .u64 (d : Int)]) ∧ Hid ((rdEn (rdL rdEn s1 k).2).1.cells = [.int .u64 (a : Int), .int .i64 k0, .int .u64 (b : Int), .int .u64 (c : Int), .int .u64 (d : Int)] ∧ At_ lim p wr (rdEn (rdL rdEn s1 k).2).2 w1)) :=
        (readEntry_any HS.out.2.1).mono fun _ _ ⟨he, G⟩ => ⟨_, _, _, _, _, he, rfl, G.out⟩
      go_wp2_with fail
      refine HRV.out.mono ?_
      rintro e w2 ⟨a, k0, b, c, d, rfl, G2⟩
      have hsz := Nat.le_trans HS.out.2.2.size G2.out.2.2.size
      have HOW : Hid (∀ o, (w2.alloc o).ownsRow w.heap.size 67 5 (.slice ao k cap) k (flat En.cells (rdL rdEn s1 k).1)) := fun o => by
        have r := (HS.out.1.kept G2.out.2.2 (.inr (fun e => absurd (World.ownsRow.lt HS.out.1 p e).1 (Nat.not_le.2 hpw)))).quiet (World.grownBy_alloc w2 o none)
        unfold Rw at r
        rw [HLN.out k] at r
        exact r
      have HNX : Hid (∀ (v' : Value) (w3 : World) (o : Obj), w3.ownsRow w.heap.size 67 5 v' (k + 1) (flat En.cells (rdL rdEn s1 k).1 ++ [.int .u64 (a : Int), .int .i64 k0, .int .u64 (b : Int), .int .u64 (c : Int), .int .u64 (d : Int)]) → (w2.alloc o).grownBy w3 (Value.slice ao k cap).ownBlock → Rw w.heap.size w3 67 5 En.cells v' (rdL rdEn s1 (k + 1)).1 ∧ At_ lim p w (rdL rdEn s1 (k + 1)).2 w3) := fun v' w3 o ho hg => by
        refine ⟨?_, ?_⟩
        · unfold Rw
          rw [HLN.out (k + 1), rdL, flat_snoc, G2.out.1]
          exact ho
        · have a1 := (HS.out.2.trans G2.out.2).alloc o
          cases hb : (Value.slice ao k cap).ownBlock with
          | none => rw [hb] at hg; exact a1.quiet hg
          | some g => rw [hb] at hg; exact a1.box hpw (World.ownsRow.lt HS.out.1 g hb).1 hg
      clear HRV
      go_wp2_with (first
        | (at_builtin; refine wpList_append_own _ rfl (.tmp 13) (.tmp 17) 25 rfl w.heap.size 67 i0 (.agg #[.int .u64 0, .int .i64 0, .int .u64 0, .int .u64 0, .int .u64 0]) 5 40 Tryz.underlying25 hi0 hz0 hz1 hz2 rfl (by decide) (.slice ao k cap) k (flat En.cells (rdL rdEn s1 k).1) rfl (HOW.out _) ⟨w2.heap.size, 0, none⟩ 1 1 [.int .u64 (a : Int), .int .i64 k0, .int .u64 (b : Int), .int .u64 (c : Int), .int .u64 (d : Int)] rfl rfl (cells_newN _ _ _) (by simp [Value.oneCell']) (by unfold maxLen; omega) (by omega) (Nat.le_trans hsz (by simp)) ?_; intro v' w3 ho hg _; obtain ⟨g', cap', rfl⟩ := ownsRow_succN ho; have NX := hide (HNX.out _ _ _ ho hg); clear ho hg))
      go_roundw
      case rel => exact ⟨k + 1, by omega, by go_num, _, _, rfl, NX.out⟩
      case measure => simp [intOf]; omega
    · obtain rfl : k = n := by omega
      have hl : rc.1.length = k := by rw [HE.out]; exact HLN.out k
      have FIN := HS.out
      rw [← HE.out] at FIN
      have HF := hide FIN
      clear FIN HS
      go_wp2
      go_ret
      exact ⟨ao, cap, by rw [hl]; rfl, by rw [hl]; exact HF.out⟩
end Go.Proofs.YtiijbboigebhcaaGreatDoor
