import Derived.Test.YtneginefcloceaaBPe
namespace Go.Proofs.Ytneginefcloceaa
open Go.RowKit

/-- What New answers. -/
def NewR (w : World) (c : Cf) (e : Ending) (w' : World) : Prop := ∃ a ev, e = .returned (.tuple #[.pointer a, ev]) ∧ Hid (Below w.heap.size w w' ∧ ((badOf c.oks = -1 ∧ ev = .nilIface ∧ PG w' a c) ∨ ∃ k : Nat, badOf c.oks = (k : Int) ∧ a = none ∧ Chain w'.heap.size w' [⟨ballotN, (k : Int)⟩] ev 180))
set_option maxRecDepth 10000 in
set_option maxHeartbeats 800000 in
theorem new_any (c : Cf) (hin : c.In) (w : World) : Calls Try.prog 38 #[.agg c.cells] w (NewR w c) := by
  obtain ⟨W1, hW1⟩ : ∃ W1, w.alloc (.cells c.cells 42) = W1 := ⟨_, rfl⟩
  have B1 : Hid (Below w.heap.size w W1) := by rw [← hW1]; exact (Below.refl _ w).alloc (Nat.le_refl _) _
  have C1 : Hid (W1.heap[w.heap.size]? = some (.cells c.cells 42 (0, 0))) := by rw [← hW1]; exact alloc_atK _ _
  have HC := hide (fun (W : World) (h : W.heap[w.heap.size]? = some (.cells c.cells 42 (0, 0))) => cfg_cells h)
  have HW1 := hide hW1
  have HF := hide (fields_any c W1)
  have HBO := hide (bnds_oks c hin)
  have HBL : Hid (c.bnds.length = 10) := rfl
  have HOL : Hid (c.oks.length = 10) := rfl
  have HRF := hide (fun W k => refusalB (w := W) k 180)
  have HP : Hid (∀ W : World, Below w.heap.size w W → W.heap[w.heap.size]? = some (.cells c.cells 42 (0, 0)) → Below w.heap.size w (W.alloc (.cells c.cells 119)) ∧ PG (W.alloc (.cells c.cells 119)) (some ⟨W.heap.size, 0, none⟩) c) := fun W h _ => ⟨h.alloc h.size _, _, rfl, alloc_atK _ _⟩
  clear hin hW1
  unfold NewR
  generalize c.oks = bs at *
  generalize c.bnds = L at *
  obtain ⟨z0, z1, z2, z3, z4, z5, z6, z7, z8, z9⟩ := HC.out W1 C1.out
  unfold Cf.cells at HW1 HF HP C1 HC ⊢
  generalize c.f = f at *
  generalize c.mb = mb at *
  generalize (c.delay : Int) = d at *
  generalize (c.win : Int) = wn at *
  generalize (c.every : Int) = ev at *
  generalize (c.beat : Int) = bt at *
  generalize (c.ep : Int) = ep at *
  generalize (c.em : Int) = em at *
  generalize (c.mn : Int) = mn at *
  generalize (c.ms : Int) = ms at *
  go_enter Try.func38, Try.ntmps38
  go_upto_region 1 with fail
  rw [HW1.out]
  clear HW1
  go_wp2_with fail
  refine HF.out.mono ?_
  rintro e w2 ⟨rfl, b2⟩
  have I2 : Hid (Below w.heap.size w w2 ∧ w2.heap[w.heap.size]? = some (.cells #[.int .i64 f, .int .i64 mb, .int .u64 d, .int .u64 wn, .int .u64 ev, .int .u64 bt, .int .u64 ep, .int .u64 em, .int .u64 mn, .int .u64 ms] 42 (0, 0))) := ⟨B1.out.trans (b2.mono B1.out.size), (b2.block _ (block_lt C1.out)).trans C1.out⟩
  clear z0 z1 z2 z3 z4 z5 z6 z7 z8 z9 b2 HF B1 C1
  go_wp2_with fail
  go_loopw [8] (fun i wr => ∃ k : Nat, k ≤ 10 ∧ i = .int .i64 k ∧ Hid ((∀ j, j < k → bs.getD j true = true) ∧ Below w.heap.size w wr ∧ wr.heap[w.heap.size]? = some (.cells #[.int .i64 f, .int .i64 mb, .int .u64 d, .int .u64 wn, .int .u64 ev, .int .u64 bt, .int .u64 ep, .int .u64 em, .int .u64 mn, .int .u64 ms] 42 (0, 0)))) (fun i _ => 10 - (intOf i).toNat)
  case atStart => exact ⟨0, by omega, rfl, fun j hj => absurd hj (by omega), I2.out⟩
  case round =>
    clear I2
    obtain ⟨k, hk, rfl, HJ⟩ := hrel
    by_cases hlt : k < 10
    · obtain ⟨⟨v, lo, hi⟩, hLk, hix⟩ : ∃ p : Int × Int × Int, L[k]? = some p ∧ ∀ w, (Instr.index 125 (.agg (bcells L).toArray) (.int .i64 (k : Int))).run Try.prog w = .ok (.agg #[.int .u64 p.1, .int .u64 p.2.1, .int .u64 p.2.2]) w := by
        obtain ⟨p, h1, _⟩ := bnds_at L HBL.out k hlt default
        refine ⟨p, h1, fun w => ?_⟩
        obtain ⟨p', h1', h2⟩ := bnds_at L HBL.out k hlt w
        rw [h1] at h1'
        cases h1'
        exact h2
      have HBK : Hid (bs.getD k true = bok (v, lo, hi)) := by
        show _ = _
        rw [← HBO.out, List.getD_eq_getElem?_getD, List.getElem?_map, hLk]
        rfl
      clear hLk
      have HX : Hid (∀ W : World, Below wr.heap.size wr W → Below w.heap.size w W ∧ W.heap[w.heap.size]? = some (.cells #[.int .i64 f, .int .i64 mb, .int .u64 d, .int .u64 wn, .int .u64 ev, .int .u64 bt, .int .u64 ep, .int .u64 em, .int .u64 mn, .int .u64 ms] 42 (0, 0))) := fun W h => ⟨HJ.out.2.1.trans (h.mono HJ.out.2.1.size), (h.block _ (block_lt HJ.out.2.2)).trans HJ.out.2.2⟩
      have HBX : Hid (∀ o, Below wr.heap.size wr (wr.alloc o)) := fun o => (Below.refl _ _).alloc (Nat.le_refl _) _
      simp only at hix
      by_cases h1 : v < lo
      · go_wp2_with fail
        refine (HRF.out _ _).mono ?_
        rintro e w3 ⟨g, rfl, G3⟩
        have FIN : Hid (Below w.heap.size w w3 ∧ Chain w3.heap.size w3 [⟨ballotN, (k : Int)⟩] (.iface 127 (.pointer (some ⟨g, 0, none⟩))) 180) := by
          have hb := (HX.out _ (HBX.out (.cells #[.int .u64 v, .int .u64 lo, .int .u64 hi] 124))).1
          exact ⟨hb.trans (G3.out.2.mono hb.size), G3.out.1⟩
        clear G3 HX HBX HRF
        go_wp2
        try rw [Exit.noGoto_ret]
        go_ret2
        refine ⟨none, _, rfl, FIN.out.1, .inr ⟨k, badOf_at (by rw [HOL.out]; exact hlt) ?_ HJ.out.1, rfl, FIN.out.2⟩⟩
        rw [HBK.out]
        simp [bok]; omega
      · by_cases h2 : v > hi
        · go_wp2_with fail
          refine (HRF.out _ _).mono ?_
          rintro e w3 ⟨g, rfl, G3⟩
          have FIN : Hid (Below w.heap.size w w3 ∧ Chain w3.heap.size w3 [⟨ballotN, (k : Int)⟩] (.iface 127 (.pointer (some ⟨g, 0, none⟩))) 180) := by
            have hb := (HX.out _ (HBX.out (.cells #[.int .u64 v, .int .u64 lo, .int .u64 hi] 124))).1
            exact ⟨hb.trans (G3.out.2.mono hb.size), G3.out.1⟩
          clear G3 HX HBX HRF
          go_wp2
          try rw [Exit.noGoto_ret]
          go_ret2
          refine ⟨none, _, rfl, FIN.out.1, .inr ⟨k, badOf_at (by rw [HOL.out]; exact hlt) ?_ HJ.out.1, rfl, FIN.out.2⟩⟩
          rw [HBK.out]
          simp [bok]; omega
        · have HOK : Hid (bs.getD k true = true) := by
            show _ = _
            rw [HBK.out]
            simp [bok]; omega
          go_wp2
          go_roundw
          case rel =>
            refine ⟨k + 1, by omega, by go_num, fun j hj => ?_, (HX.out _ (HBX.out _)).1, (HX.out _ (HBX.out _)).2⟩
            by_cases e : j = k
            · rw [e]; exact HOK.out
            · exact HJ.out.1 j (by omega)
          case measure => simp [intOf]; omega
    · have FIN : Hid (badOf bs = -1) := badOf_no (fun j hj => HJ.out.1 j (by rw [HOL.out] at hj; omega))
      obtain ⟨z0, z1, z2, z3, z4, z5, z6, z7, z8, z9⟩ := HC.out wr HJ.out.2.2
      have G := hide (HP.out wr HJ.out.2.1 HJ.out.2.2)
      clear HC HP HJ HRF
      go_wp2
      go_ret2
      exact ⟨_, _, rfl, G.out.1, .inl ⟨FIN.out, rfl, G.out.2⟩⟩
theorem newP_ok (c : Cf) (hin : c.In) (hk : badOf c.oks = -1) (W : World) : Calls Try.prog 38 #[.agg c.cells] W fun e w' => ∃ a, PNewP W (.pointer a) [] 0 e w' ∧ Hid (PG w' a c) :=
  (new_any c hin W).mono fun _ _ ⟨a, ev, h1, h2⟩ => by
    rcases h2.out.2 with ⟨_, h3, h4⟩ | ⟨k, h3, _⟩
    · exact ⟨a, ⟨ev, h1, .inl ⟨h3, rfl, rfl⟩, h2.out.1⟩, h4⟩
    · rw [hk] at h3; omega
theorem newP_bad (c : Cf) (hin : c.In) (k : Nat) (hk : badOf c.oks = (k : Int)) (W : World) : Calls Try.prog 38 #[.agg c.cells] W fun e w' => ∃ a, PNewP W (.pointer a) [⟨ballotN, (k : Int)⟩] 180 e w' ∧ Hid (a = none) :=
  (new_any c hin W).mono fun _ _ ⟨a, ev, h1, h2⟩ => by
    rcases h2.out.2 with ⟨h3, _⟩ | ⟨k', h3, h4, h5⟩
    · rw [hk] at h3; omega
    · have e : k' = k := by omega
      rw [e] at h5
      exact ⟨a, ⟨ev, h1, .inr ⟨h5, by simp, by simp, by omega⟩, h2.out.1⟩, h4⟩
theorem badOf_cases (c : Cf) : badOf c.oks = -1 ∨ ∃ k : Nat, badOf c.oks = (k : Int) := by
  unfold badOf
  split
  · exact .inr ⟨_, rfl⟩
  · exact .inl rfl
end Go.Proofs.Ytneginefcloceaa
