import Derived.Test.YtgaalaoflaklgaaGreatM13
import Derived.Test.YtgaalaoflaklgaaGreatM7
namespace Go.Proofs.YtgaalaoflaklgaaGreat
open Go.RowKit Crc

set_option maxRecDepth 10000 in
set_option maxHeartbeats 800000 in
theorem big_any (v s : Nat) (vi si : Int) (w : World) (hvi : vi = (v : Int)) (hsi : si = (s : Int)) (hs : s ≤ 8) :
    Calls Tryz.prog 69 #[.int .u64 vi, .int .i64 si] w fun e w' => ∃ v', e = .returned v' ∧ Owns w.heap.size w' v' (big v s) ∧ Below w.heap.size w w' := by
  obtain ⟨i0, hi, hz0, hz1, hz2⟩ := info_parts Tryz.info5
  subst hvi
  subst hsi
  go_enter Tryz.func69, Tryz.ntmps69
  go_wp2
  go_loopw [5, 6] (fun sl i wr => ∃ j : Nat, j ≤ s ∧ i = .int .i64 ((s : Int) - 1 - (j : Int)) ∧ Hid (Owns w.heap.size wr sl (bigTo v s j)) ∧ Below w.heap.size w wr) (fun _ i _ => (intOf i + 1).toNat)
  case atStart => exact ⟨0, by omega, by go_num, Owns.nil _ _, Below.refl _ _⟩
  case round =>
    obtain ⟨j, hj, rfl, HO, hnx⟩ := hrel
    have hsize := hnx.size
    by_cases hlt : j < s
    · obtain ⟨i, hi'⟩ : ∃ i : Nat, i + j + 1 = s := ⟨s - 1 - j, by omega⟩
      have he : (s : Int) - 1 - (j : Int) = (i : Int) := by omega
      have HI : Hid (i = s - 1 - j) := by show _ = _; omega
      have hi8 : i ≤ 7 := by omega
      have HTS : Hid (bigTo v s (j + 1) = bigTo v s j ++ [v / 2 ^ (8 * i) % 256]) := by
        show _ = _
        simp only [bigTo]
        rw [← HI.out]
      have HTL : Hid ((bigTo v s j).length = j) := big_len v s j
      have HHO : Hid (wr.ownsRow w.heap.size 5 1 u5 j (vals (bigTo v s j))) := by
        show wr.ownsRow _ _ _ _ _ _
        have := HO.out.1; rw [HTL.out] at this; exact this
      clear hi'
      go_wp2_with (first
        | (at_builtin; refine wpList_append_own _ rfl (.tmp 13) (.tmp 20) 29 rfl w.heap.size 5 i0 (.int .u8 0) 1 1 Tryz.underlying29 hi hz0 hz1 hz2 rfl (by decide) u5 j (vals (bigTo v s j)) rfl (HHO.out.alloc _) ⟨wr.heap.size, 0, none⟩ 1 1 [.int .u8 ((v : Int) / (2 : Int) ^ (8 * i) % (256 : Int))] rfl rfl (cell_one_new _ _ _) (Shade.one _ rfl) (by unfold maxLen; omega) (by omega) (by simp; omega) ?_; intro v' w1 hown1 hgrow1 _))
      go_roundw
      case rel =>
        refine ⟨j + 1, by omega, by have := HI.out; go_num, ?_, (hnx.alloc (by omega) _).grown hgrow1 (by simp; omega) (fun j hj => (HHO.out.lt j hj).1)⟩
        show Owns _ _ _ _
        rw [HTS.out]
        exact HO.out.snoc (Nat.mod_lt _ (by omega)) (by rw [HTL.out]; omega) (by rw [HTL.out, big_byte]; exact hown1)
      case measure => simp [intOf]; omega
    · obtain rfl : j = s := by omega
      go_wp2
      go_ret
      exact ⟨_, rfl, HO.out, hnx⟩


set_option maxRecDepth 10000 in
set_option maxHeartbeats 800000 in
theorem refNumB (v0 : Nat) (vi : Int) (w : World) (hvi : vi = (v0 : Int)) (hv0 : v0 < 18446744073709551616) :
    Calls Tryz.prog 70 #[.int .u64 vi] w fun e w' => ∃ v', e = .returned v' ∧ Owns w.heap.size w' v' (numB v0) ∧ Below w.heap.size w w' := by
  obtain ⟨i0, hi, hz0, hz1, hz2⟩ := info_parts Tryz.info5
  subst hvi
  go_enter Tryz.func70, Tryz.ntmps70
  go_wp2
  go_loopw [0, 3] (fun i sl wr => ∃ v j : Nat, v < 18446744073709551616 ∧ j ≤ 10 ∧ i = .int .u64 v ∧ Hid (∃ L, Owns w.heap.size wr sl L ∧ L.length = j ∧ numB v0 = L ++ numB v ∧ v < 128 ^ (10 - j)) ∧ Below w.heap.size w wr) (fun i _ _ => (intOf i).toNat)
  case atStart => exact ⟨v0, 0, hv0, by omega, rfl, ⟨[], Owns.nil _ _, rfl, rfl, by omega⟩, Below.refl _ _⟩
  case round =>
    obtain ⟨v, j, hv, hj, rfl, HL, hnx⟩ := hrel
    have hsize := hnx.size
    obtain ⟨L, hO, hlj, hnb, hvp⟩ := HL.out
    have HO := hide hO
    have HHO : Hid (wr.ownsRow w.heap.size 5 1 u3 j (vals L)) := by
      show wr.ownsRow _ _ _ _ _ _
      have := hO.1; rw [hlj] at this; exact this
    have HLJ := hide hlj
    clear hO
    by_cases hb : v < 128
    · have HF : Hid (numB v0 = L ++ [v]) := by show _ = _; rw [hnb, numB_small v hb]
      have d : decide ((127 : Int) < (v : Int)) = false := by simp; omega
      have d' : decide (127 < v) = false := by simp; omega
      have hw8 : IntKind.u8.wrap (v : Int) = (v : Int) := by simp [IntKind.wrap, IntKind.bits, IntKind.signed]; omega
      clear HL hnb hlj hvp
      go_wp2_with (first
        | (at_builtin; refine wpList_append_own _ rfl (.tmp 15) (.tmp 18) 29 rfl w.heap.size 5 i0 (.int .u8 0) 1 1 Tryz.underlying29 hi hz0 hz1 hz2 rfl (by decide) u3 j (vals L) rfl (HHO.out.alloc _) ⟨wr.heap.size, 0, none⟩ 1 1 [.int .u8 (v : Int)] rfl rfl (by first | exact cell_one_new _ _ _ | (rw [show ((v : Int) % 256) = (v : Int) by omega]; exact cell_one_new _ _ _)) (Shade.one _ rfl) (by unfold maxLen; omega) (by omega) (by simp; omega) ?_; intro v' w1 hown1 hgrow1 _))
      go_ret
      refine ⟨v', rfl, ?_, (hnx.alloc (by omega) _).grown hgrow1 (by simp; omega) (fun j hj => (HHO.out.lt j hj).1)⟩
      rw [HF.out]
      exact HO.out.snoc (by omega) (by rw [HLJ.out]; omega) (by rw [HLJ.out]; exact hown1)
    · have hj9 : j < 10 := by
        rcases Nat.lt_or_ge j 10 with h | h
        · exact h
        · obtain rfl : j = 10 := by omega
          have h2 : v < 128 ^ 0 := hvp
          rw [Nat.pow_zero] at h2
          omega
      obtain ⟨x, hx⟩ : ∃ x, x = v % 128 := ⟨_, rfl⟩
      obtain ⟨y, hy⟩ : ∃ y, y = v / 128 := ⟨_, rfl⟩
      have hx128 : x < 128 := by omega
      have hxi : (v : Int) % 128 = (x : Int) := by omega
      have hyi : (v : Int) / 128 = (y : Int) := by omega
      have HF : Hid (Owns w.heap.size wr u3 L → ∀ w1 v', Owns w.heap.size w1 v' (L ++ [x + 128]) → ∃ L', Owns w.heap.size w1 v' L' ∧ L'.length = j + 1 ∧ numB v0 = L' ++ numB y ∧ y < 128 ^ (10 - (j + 1))) := by
        intro _ w1 v' h
        refine ⟨L ++ [x + 128], h, by simp [hlj], ?_, ?_⟩
        · rw [hnb, numB_big v hb hv, ← hx, ← hy, List.append_assoc]
          rfl
        · rw [show 10 - j = (10 - (j + 1)) + 1 by omega, Nat.pow_succ] at hvp
          rw [hy]
          exact Nat.div_lt_of_lt_mul (by rw [Nat.mul_comm]; exact hvp)
      have hylt : y < v := by omega
      have hy64 : y < 18446744073709551616 := by omega
      have d : decide ((127 : Int) < (v : Int)) = true := by simp; omega
      have d' : decide (127 < v) = true := by simp; omega
      have hw8 : IntKind.u8.wrap (x : Int) = (x : Int) := by simp [IntKind.wrap, IntKind.bits, IntKind.signed]; omega
      obtain ⟨z, hz⟩ : ∃ z, z = x + 128 := ⟨_, rfl⟩
      have hxe : ((x : Int) + 128) = (z : Int) := by omega
      have hx256 : (z : Int) < 256 := by omega
      have HZ := hide hz
      clear HL hnb hlj hvp hx hy hb hz
      go_wp2_with (first
        | (at_builtin; refine wpList_append_own _ rfl (.tmp 6) (.tmp 11) 29 rfl w.heap.size 5 i0 (.int .u8 0) 1 1 Tryz.underlying29 hi hz0 hz1 hz2 rfl (by decide) u3 j (vals L) rfl (HHO.out.alloc _) ⟨wr.heap.size, 0, none⟩ 1 1 [.int .u8 (z : Int)] rfl rfl (cell_one_new _ _ _) (Shade.one _ rfl) (by unfold maxLen; omega) (by omega) (by simp; omega) ?_; intro v' w1 hown1 hgrow1 _))
      go_roundw
      case rel =>
        refine ⟨y, j + 1, hy64, by omega, rfl, HF.out HO.out _ _ ?_, (hnx.alloc (by omega) _).grown hgrow1 (by simp; omega) (fun j hj => (HHO.out.lt j hj).1)⟩
        rw [← HZ.out]
        exact HO.out.snoc (by omega) (by rw [HLJ.out]; omega) (by rw [HLJ.out]; exact hown1)
      case measure => simp [intOf]; omega

theorem ownx_far {base : Nat} {w : World} {v : Value} {B : List Nat} (h : Owns base w v B) : ∀ g, v.ownBlock = some g → base ≤ g := by
  intro g hg
  obtain ⟨a0, c0, rfl, _, (⟨rfl, _⟩ | ⟨g', rfl, hb, _⟩)⟩ := h.form
  · cases hg
  · have : g' = g := by simpa [Value.ownBlock] using hg
    omega
/-- The reference's writer as it lies. -/
def RefW (base : Nat) (w : World) (p : Nat) (s : WS) : Prop :=
  ∃ v, w.heap[p]? = some (.cells #[.bool s.made, .int .i64 s.most, v, .int .i64 s.why, .int .i64 s.place] 116 (0, 0)) ∧ Owns base w v s.L ∧ v.ownBlock ≠ some p
theorem RefW.below {base p : Nat} {w w' : World} {s : WS} (h : RefW base w p s) (hb : Below w.heap.size w w') : RefW base w' p s := by
  obtain ⟨v, hbk, hO, hne⟩ := h
  exact ⟨v, (hb.block p (block_lt hbk)).trans hbk, hO.quiet (below_none hb), hne⟩
theorem RefW.plt {base p : Nat} {w : World} {s : WS} (h : RefW base w p s) : p < w.heap.size := by obtain ⟨v, hbk, _⟩ := h; exact block_lt hbk

set_option maxRecDepth 10000 in
set_option maxHeartbeats 1600000 in
theorem refPut_any {base p flim : Nat} {w : World} {s : WS} (hW : RefW base w p s) (hi : s.Inv) (hbs : base ≤ w.heap.size) (fo : Option Addr) (fn fc : Nat) (F : List Nat) (y : Int) (hF : Shows flim w fo fn fc F) (hfl : flim ≤ w.heap.size) :
    Calls Tryz.prog 68 #[.pointer (some ⟨p, 0, none⟩), .slice fo fn fc, .int .i64 y] w fun e w' => e = .returned (.tuple #[]) ∧ Hid (RefW base w' p (s.put F y) ∧ Tch 2 w w' p) := by
  have HW := hide hW
  obtain ⟨v, hb, hO, hne⟩ := hW
  obtain ⟨ao, cap, rfl, hS, _⟩ := hO.form
  have c0 := block_cell hb 0
  have c1 := block_cell hb 1
  have c2 := block_cell hb 2
  have c3 := block_cell hb 3
  have c4 := block_cell hb 4
  simp at c0 c1 c2 c3 c4
  have f2 := block_free hb 2
  have f3 := block_free hb 3
  have f4 := block_free hb 4
  have hn47 := hF.2.2.1
  have HFN : Hid (fn = F.length) := hF.1
  have HJ : Hid (∀ q, s.L.length + fn ≤ 140737488355328 → Calls Tryz.prog 71 #[.slice ao s.L.length cap, .slice fo fn fc] (w.drewN q) fun e w' => ∃ v, e = .returned v ∧ Owns w.heap.size w' v (s.L ++ F) ∧ Below w.heap.size w w') := by
    intro q hl
    refine (join_any (hS.world (w' := w.drewN q) rfl) (Nat.le_refl _) (hF.world (w' := w.drewN q) rfl) hfl hl).mono ?_
    rintro e w' ⟨v, rfl, h1, h2⟩
    exact ⟨v, rfl, h1, h2.os, h2.tape, h2.output, h2.size, h2.block⟩
  have HST : Hid (∀ w2 v', Below w.heap.size w w2 → Owns w.heap.size w2 v' (s.L ++ F) → (w2.cell? ⟨p, 2, none⟩ = some (.slice ao s.L.length cap) ∧ w2.frozen? ⟨p, 2, none⟩ = false) ∧ RefW base (w2.setCell ⟨p, 2, none⟩ v') p { s with L := s.L ++ F } ∧ Tch 2 w (w2.setCell ⟨p, 2, none⟩ v') p) := by
    intro w2 v' hbl hO2
    have hb2 := (hbl.block p (block_lt hb)).trans hb
    have hne' : v'.ownBlock ≠ some p := fun e => by have := ownx_far hO2 p e; have := block_lt hb; omega
    have hb3 : (w2.setCell ⟨p, 2, none⟩ v').heap[p]? = some (.cells #[.bool s.made, .int .i64 s.most, v', .int .i64 s.why, .int .i64 s.place] 116 (0, 0)) := by
      rw [heap_setCell_same w2 p 2 _ _ v' hb2]; rfl
    have hk2 := block_cell hb2 2
    simp at hk2
    refine ⟨⟨hk2, block_free hb2 2⟩, ⟨v', hb3, (hO2.lower hbs).kept (grown_set _ _ _ _) (.inr hne'), hne'⟩, hbl.os, hbl.tape, hbl.output, by simpa using hbl.size, fun k hk hf => ?_, fun k hk => ?_⟩
    · have h3 := heap_setCell_other w2 ⟨p, 2, none⟩ k v' (fun e => hf (.inl (by simpa using e)))
      exact h3.trans (hbl.block k hk)
    · rcases hk with rfl | ⟨u, hu, hg⟩
      · exact .inl (.inl rfl)
      · have h4 := block_cell hb3 2
        rw [hu] at h4
        simp at h4
        subst h4
        exact .inr (ownx_far hO2 k hg)
  have HNO : Hid (∀ q y', RefW base (((w.drewN q).setCell ⟨p, 3, none⟩ (.int .i64 y')).setCell ⟨p, 4, none⟩ (.int .i64 (s.L.length : Int))) p { s with place := (s.L.length : Int), why := y' } ∧ Tch 2 w (((w.drewN q).setCell ⟨p, 3, none⟩ (.int .i64 y')).setCell ⟨p, 4, none⟩ (.int .i64 (s.L.length : Int))) p) := by
    intro q y'
    have hb1 : ((w.drewN q).setCell ⟨p, 3, none⟩ (.int .i64 y')).heap[p]? = some (.cells #[.bool s.made, .int .i64 s.most, .slice ao s.L.length cap, .int .i64 y', .int .i64 s.place] 116 (0, 0)) := by
      rw [heap_setCell_same (w.drewN q) p 3 _ _ _ (show (w.drewN q).heap[p]? = _ from hb)]; simp
    have hb2 : (((w.drewN q).setCell ⟨p, 3, none⟩ (.int .i64 y')).setCell ⟨p, 4, none⟩ (.int .i64 (s.L.length : Int))).heap[p]? = some (.cells #[.bool s.made, .int .i64 s.most, .slice ao s.L.length cap, .int .i64 y', .int .i64 (s.L.length : Int)] 116 (0, 0)) := by
      rw [heap_setCell_same _ p 4 _ _ _ hb1]; simp
    have hg : w.grownBy (((w.drewN q).setCell ⟨p, 3, none⟩ (.int .i64 y')).setCell ⟨p, 4, none⟩ (.int .i64 (s.L.length : Int))) (some p) := grown_trans (row := some p) (grown_trans (a := w) (b := w.drewN q) (row := some p) ⟨rfl, rfl, rfl, Nat.le_refl _, fun _ _ _ => rfl⟩ (grown_set (w.drewN q) _ _ _)) (grown_set _ _ _ _)
    refine ⟨⟨_, hb2, hO.kept hg (.inr hne), hne⟩, Tch.row hg ?_⟩
    have h4 := block_cell hb2 2
    simp at h4
    rw [h4, c2]
  clear hb hO hne hS hF
  by_cases hs : s.sound
  · have hmm := hi hs.1
    rw [hs.1] at c0
    rw [hs.2] at c3
    by_cases hy : y = 0
    · subst hy
      by_cases hfit : ((s.L.length + fn : Nat) : Int) ≤ s.most
      · have HPT : Hid (s.put F 0 = { s with L := s.L ++ F }) := WS.put_takes ⟨hs, rfl, by rw [← HFN.out]; exact hfit⟩
        rw [HPT.out]
        have HJ2 := hide (fun q => HJ.out q (by omega))
        generalize hn : s.L.length = n at *
        have hd : decide (s.most < (n : Int) + (fn : Int)) = false := by simp; omega
        have hlen : (n : Int) + (fn : Int) ≤ 65507 := by omega
        clear hs hi hn HJ HNO HFN hfit HW HPT
        go_enter Tryz.func68, Tryz.ntmps68
        go_wp2_with fail
        go_quiet (fail)
        go_wp2_with fail
        refine (HJ2.out _).mono ?_
        rintro e w2 ⟨v', rfl, hO2, hb2⟩
        obtain ⟨⟨k2, k2f⟩, hr⟩ := HST.out w2 v' hb2 hO2
        obtain ⟨a', c', rfl, _, _⟩ := hO2.form
        have HR := hide hr
        clear hr hO2 hb2 HST
        generalize (s.L ++ F).length = m at *
        go_wp2
        go_end0
        exact ⟨rfl, HR.out⟩
      · have HPT : Hid (s.put F 0 = { s with place := (s.L.length : Int), why := 21 }) := WS.put_long hs (by rw [← HFN.out]; omega)
        rw [HPT.out]
        generalize hn : s.L.length = n at *
        have hd : decide (s.most < (n : Int) + (fn : Int)) = true := by simp; omega
        have hlen : (n : Int) ≤ 65507 := by omega
        clear hs hi hn HJ HST HFN hfit HW HPT
        go_enter Tryz.func68, Tryz.ntmps68
        go_wp2_with fail
        go_quiet (fail)
        go_wp2
        refine bodyPost_ret (v := .tuple #[]) (by simp [results, Tryz.results68, go_sem]) rfl ⟨rfl, HNO.out _ _⟩
    · have HPT := hide (WS.put_own hs F hy)
      rw [HPT.out]
      have hyb : (y == 0) = false := by simp [hy]
      have hyb' : (y != 0) = true := by simp [hy]
      generalize hn : s.L.length = n at *
      clear hs hi hn HJ HST HFN HW HPT hy
      go_enter Tryz.func68, Tryz.ntmps68
      go_wp2_with fail
      go_quiet (fail)
      go_wp2
      refine bodyPost_ret (v := .tuple #[]) (by simp [results, Tryz.results68, go_sem]) rfl ⟨rfl, HNO.out _ _⟩
  · have HPN := hide (WS.put_not hs F y)
    rw [HPN.out]
    have HO : Hid (s.made = false ∨ s.made = true ∧ (s.why != 0) = true) := by
      show _ ∨ _
      unfold WS.sound at hs
      cases hm : s.made with
      | false => exact .inl rfl
      | true => exact .inr ⟨rfl, by rw [hm] at hs; simpa using hs⟩
    have HRW : Hid (RefW base w p s ∧ Tch 2 w w p) := ⟨HW.out, Tch.refl _ _ _⟩
    clear hs hi HJ HST HFN HW HPN HNO
    rcases HO.out with hm | ⟨hm, hw⟩
    · rw [hm] at c0
      clear hm
      go_enter Tryz.func68, Tryz.ntmps68
      go_wp2
      refine bodyPost_ret (v := .tuple #[]) (by simp [results, Tryz.results68, go_sem]) rfl ⟨rfl, HRW.out⟩
    · rw [hm] at c0
      generalize hwy : s.why = wy at *
      clear hm hwy
      go_enter Tryz.func68, Tryz.ntmps68
      go_wp2
      refine bodyPost_ret (v := .tuple #[]) (by simp [results, Tryz.results68, go_sem]) rfl ⟨rfl, HRW.out⟩
end Go.Proofs.YtgaalaoflaklgaaGreat
