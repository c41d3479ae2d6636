import Derived.Test.YtiijbboigebhcaaGreatDoorNRdS
namespace Go.Proofs.YtiijbboigebhcaaGreatDoor
open Go.RowKit Crc

theorem rows_neN {w : World} {b1 b2 s1 s2 n1 n2 : Nat} {t1 t2 : TypeId} {v1 v2 : Value} {x1 x2 : List Value} (h1 : w.ownsRow b1 t1 s1 v1 n1 x1) (h2 : w.ownsRow b2 t2 s2 v2 n2 x2) (hne : t1 ≠ t2) : v1.ownBlock = none ∨ v1.ownBlock ≠ v2.ownBlock := by
  rcases h1.2 with ⟨rfl, _⟩ | ⟨g, cap, cur, rfl, _, hg, _⟩
  · exact .inl rfl
  · refine .inr (fun e => ?_)
    rcases h2.2 with ⟨rfl, _⟩ | ⟨g', cap', cur', rfl, _, hg', _⟩
    · cases e
    · cases e
      rw [hg] at hg'
      cases hg'
      exact hne rfl
/-- Sessions in a list of their own, their data in lists of their own, apart from one another. -/
structure OwnSs (base : Nat) (w : World) (v : Value) (L : List Sn) : Prop where
  row : Rw base w 61 5 Sn.cells v L
  own : ∀ x ∈ L, Owns base w x.sl x.D
  ap : L.Pairwise fun a b => a.sl.ownBlock = none ∨ a.sl.ownBlock ≠ b.sl.ownBlock
theorem OwnSs.kept {base : Nat} {w w' : World} {v : Value} {L : List Sn} {row : Option Nat} (h : OwnSs base w v L) (hg : w.grownBy w' row) (hr : ∀ g, row = some g → g < base) : OwnSs base w' v L := by
  have key : ∀ u : Value, (∀ g, u.ownBlock = some g → base ≤ g) → u.ownBlock = none ∨ u.ownBlock ≠ row := fun u hu => by
    cases e : u.ownBlock with
    | none => exact .inl rfl
    | some g => exact .inr (fun e2 => by have := hu g e; have := hr g e2.symm; omega)
  exact ⟨h.row.kept hg (key v (fun g e => (World.ownsRow.lt h.row g e).1)), fun x hx => (h.own x hx).kept hg (key x.sl (fun g e => ((h.own x hx).1.lt g e).1)), h.ap⟩
theorem OwnSs.quiet {base : Nat} {w w' : World} {v : Value} {L : List Sn} (h : OwnSs base w v L) (hg : w.grownBy w' none) : OwnSs base w' v L := h.kept hg (fun g e => by cases e)
theorem OwnSs.lower {base base' : Nat} {w : World} {v : Value} {L : List Sn} (h : OwnSs base w v L) (hb : base' ≤ base) : OwnSs base' w v L := ⟨h.row.lower hb, fun x hx => (h.own x hx).lower hb, h.ap⟩
/-- One more. -/
theorem OwnSs.snoc {base : Nat} {w w1 w3 : World} {v v' : Value} {L : List Sn} {x : Sn} {m : Nat} (h : OwnSs base w v L) (hg : w.grownBy w1 (some m)) (hm : m < base) (ho : Owns w.heap.size w1 x.sl x.D) (hb : base ≤ w.heap.size) (o : Obj) (hr : w3.ownsRow base 61 5 v' (L.length + 1) (flat Sn.cells L ++ x.cells)) (hg3 : (w1.alloc o).grownBy w3 v.ownBlock) : OwnSs base w3 v' (L ++ [x]) := by
  have h1 := (h.kept hg (fun g e => by cases e; exact hm)).quiet (World.grownBy_alloc w1 o none)
  have o1 : Owns w.heap.size (w1.alloc o) x.sl x.D := ho.quiet (World.grownBy_alloc w1 o none)
  refine ⟨?_, fun y hy => ?_, ?_⟩
  · unfold Rw
    rw [flat_snoc]
    simpa using hr
  · rcases List.mem_append.1 hy with hy | hy
    · exact (h1.own y hy).kept hg3 (rows_neN (h1.own y hy).1 h1.row (by decide))
    · obtain rfl := List.mem_singleton.1 hy
      exact (o1.lower hb).kept hg3 (rows_neN o1.1 h1.row (by decide))
  · refine List.pairwise_append.2 ⟨h.ap, List.pairwise_singleton _ _, fun a ha b hb2 => ?_⟩
    obtain rfl := List.mem_singleton.1 hb2
    cases e : a.sl.ownBlock with
    | none => exact .inl rfl
    | some g =>
      refine .inr (fun e2 => ?_)
      have q1 := ((h.own a ha).1.lt g e).2
      have q2 := (ho.1.lt g e2.symm).1
      omega
def pvS (x : Nat × Nat × Nat × Nat × List Nat) : Nat × Nat × Nat × Int × List Nat := (x.1, x.2.1, x.2.2.1, wrap64 (x.2.2.2.1 : Int), x.2.2.2.2)
theorem infoSn : (Tryz.prog.info? 61).map (fun i => (i.zero, i.size, i.bytes)) = some (some (.agg #[.int .u64 0, .int .u64 0, .int .u64 0, .int .i64 0, .slice none 0 0]), 5, 56) := by kernel_rfl
set_option maxRecDepth 10000 in
set_option maxHeartbeats 1600000 in
theorem readList_Sn {lim p : Nat} {w : World} {s : RS} (h : RdP lim w (some ⟨p, 0, none⟩) s) : Calls Tryz.prog 79 #[.pointer (some ⟨p, 0, none⟩), .int .i64 16, .func (.func 80) #[] #[]] w fun e w' => ∃ ao n cap, e = .returned (.slice ao n cap) ∧ Hid (∃ L : List Sn, L.length = n ∧ OwnSs w.heap.size w' (.slice ao n cap) L ∧ L.map Sn.val = (rdC rdSn 16 s).1.map pvS ∧ At_ lim p w (rdC rdSn 16 s).2 w') := by
  obtain ⟨i0, hi0, hz0, hz1, hz2⟩ := info_parts infoSn
  have hpw := (At_.start h).pos.2
  have HC := hide (cnt_at (At_.start h) 16 (by omega) (by omega))
  have HLE := hide (cV_le s 16)
  have HE : Hid (rdC rdSn 16 s = rdL rdSn (cS s 16) (cV s 16)) := rfl
  generalize rdC rdSn 16 s = rc at *
  generalize cV s 16 = n at *
  clear h
  generalize cS s 16 = s1 at *
  have hn : n ≤ 16 := HLE.out
  go_enter Tryz.func79, Tryz.ntmps79
  go_wp2_with fail
  refine HC.out.mono ?_
  rintro e w1 ⟨rfl, H1⟩
  go_wp2
  go_loopw [7, 11] (fun v i wr => ∃ k : Nat, k ≤ n ∧ i = .int .i64 k ∧ ∃ ao cap, v = .slice ao k cap ∧ Hid (∃ L : List Sn, L.length = k ∧ OwnSs w.heap.size wr (.slice ao k cap) L ∧ L.map Sn.val = (rdL rdSn s1 k).1.map pvS ∧ At_ lim p w (rdL rdSn s1 k).2 wr)) (fun _ i _ => n - (intOf i).toNat)
  case atStart => exact ⟨0, by omega, rfl, none, 0, rfl, [], rfl, ⟨Rw.nil _ _ _ _ _, fun x hx => (by cases hx), .nil⟩, rfl, H1.out⟩
  case round =>
    obtain ⟨k, hk, rfl, ao, cap, rfl, HS⟩ := hrel
    obtain ⟨L, hL⟩ := HS.out
    have HL := hide hL
    clear H1 HC hL HS
    by_cases hlt : k < n
    · have HRV := hide (readSession_any HL.out.2.2.2.1)
      go_wp2_with fail
      refine HRV.out.mono ?_
      rintro e w2 ⟨a, b, c, d, vo, m, vc, rfl, G2⟩
      have hsz := Nat.le_trans HL.out.2.2.2.2.size G2.out.2.2.2.2.2.2.2.size
      have HOW : Hid (∀ o, (w2.alloc o).ownsRow w.heap.size 61 5 (.slice ao k cap) k (flat Sn.cells L)) := fun o => by
        have r := ((HL.out.2.1.kept G2.out.2.2.2.2.2.2.2 (fun g e => by cases e; exact hpw)).quiet (World.grownBy_alloc w2 o none)).row
        unfold Rw at r
        rw [HL.out.1] at r
        exact r
      have HNX : Hid (∀ (v' : Value) (w3 : World) (o : Obj), w3.ownsRow w.heap.size 61 5 v' (k + 1) (flat Sn.cells L ++ [.int .u64 (a : Int), .int .u64 (b : Int), .int .u64 (c : Int), .int .i64 d, .slice vo m vc]) → (w2.alloc o).grownBy w3 (Value.slice ao k cap).ownBlock → ∃ L' : List Sn, L'.length = k + 1 ∧ OwnSs w.heap.size w3 v' L' ∧ L'.map Sn.val = (rdL rdSn s1 (k + 1)).1.map pvS ∧ At_ lim p w (rdL rdSn s1 (k + 1)).2 w3) := fun v' w3 o ho hg => by
        obtain ⟨e1, e2, e3, e4, e5, e6, e7⟩ := G2.out
        obtain ⟨l1, l2, l3, l4⟩ := HL.out
        refine ⟨L ++ [⟨a, b, c, d, vo, m, vc, (rdSn (rdL rdSn s1 k).2).1.2.2.2.2⟩], by simp [l1], ?_, ?_, ?_⟩
        · exact l2.snoc e7.2 hpw (x := ⟨a, b, c, d, vo, m, vc, (rdSn (rdL rdSn s1 k).2).1.2.2.2.2⟩) e6 l4.2.size o (by rw [l1]; exact ho) hg
        · rw [List.map_append, l3, rdL, List.map_append, e1, e2, e3, e4]
          rfl
        · have a1 := (l4.trans e7).alloc o
          cases hb : (Value.slice ao k cap).ownBlock with
          | none => rw [hb] at hg; exact a1.quiet hg
          | some g => rw [hb] at hg; exact a1.box hpw (World.ownsRow.lt l2.row g hb).1 hg
      clear HRV
      go_wp2_with (first
        | (at_builtin; refine wpList_append_own _ rfl (.tmp 13) (.tmp 17) 31 rfl w.heap.size 61 i0 (.agg #[.int .u64 0, .int .u64 0, .int .u64 0, .int .i64 0, .slice none 0 0]) 5 56 Tryz.underlying31 hi0 hz0 hz1 hz2 rfl (by decide) (.slice ao k cap) k (flat Sn.cells L) rfl (HOW.out _) ⟨w2.heap.size, 0, none⟩ 1 1 [.int .u64 (a : Int), .int .u64 (b : Int), .int .u64 (c : Int), .int .i64 d, .slice vo m vc] rfl rfl (cells_newN _ _ _) (by simp [Value.oneCell']) (by unfold maxLen; omega) (by omega) (Nat.le_trans hsz (by simp)) ?_; intro v' w3 ho hg _; obtain ⟨g', cap', rfl⟩ := ownsRow_succN ho; have NX := hide (HNX.out _ _ _ ho hg); clear ho hg))
      go_roundw
      case rel => exact ⟨k + 1, by omega, by go_num, _, _, rfl, NX.out⟩
      case measure => simp [intOf]; omega
    · obtain rfl : k = n := by omega
      have FIN := HL.out
      rw [← HE.out] at FIN
      have HF := hide FIN
      clear FIN HL
      go_wp2
      go_ret
      exact ⟨ao, k, cap, rfl, L, HF.out⟩
end Go.Proofs.YtiijbboigebhcaaGreatDoor
