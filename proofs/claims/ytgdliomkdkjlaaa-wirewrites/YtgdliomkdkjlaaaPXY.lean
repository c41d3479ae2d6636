import Derived.Test.YtgdliomkdkjlaaaPXX
namespace Go.Proofs.Ytgdliomkdkjlaaa
open Go.RowKit Crc

theorem KeepW.below {base : Nat} {w w' : World} (h : KeepW base w w') : Below base w w' := h w (Below.refl _ _)
theorem Shows.belowB {base : Nat} {w w' : World} {ao : Option Addr} {n cap : Nat} {B : List Nat} (h : Shows base w ao n cap B) (hb : Below base w w') : Shows base w' ao n cap B := by
  obtain ⟨h1, h2, h3, h4, b, off, h5, h6, h7⟩ := h
  refine ⟨h1, h2, h3, h4, b, off, h5, h6, fun i hi => ?_⟩
  rw [← h7 i hi]
  exact hb.cell (p := ⟨b, off + i, none⟩) (h6 (by omega))
theorem Lent.keepAt {w w' : World} {gc n : Nat} {B : List Nat} (h : Lent w gc n B) (hk : w'.heap[gc]? = w.heap[gc]?) : Lent w' gc n B := by
  obtain ⟨h0, h1, h2⟩ := h
  refine ⟨h0, h1, ?_⟩
  rcases h2 with h2 | ⟨g, cap, cur, hv, hbg, hg, hr⟩
  · exact .inl h2
  · have e : g = gc := by
      simp only [Value.slice.injEq, Option.some.injEq, Addr.mk.injEq, and_true] at hv
      exact hv.1.symm
    exact .inr ⟨g, cap, cur, hv, hbg, (by rw [e] at hg ⊢; exact hk.trans hg), hr⟩
theorem Lent.ownsW {w : World} {gc n : Nat} {B : List Nat} (h : Lent w gc n B) (hB : ∀ x ∈ B, x < 256) (hl : n ≤ 140737488355328) : Owns gc w (.slice (some ⟨gc, 0, none⟩) n (n + 4)) B := by
  obtain ⟨h1, h2, h3⟩ := h
  subst h1
  rcases h3 with ⟨h4, _⟩ | ⟨g, cap, cur, hv, hbg, hg, hnc, hcm, hcs, htake⟩
  · cases h4
  · simp only [Value.slice.injEq, Option.some.injEq, Addr.mk.injEq, and_true, true_and] at hv
    obtain ⟨rfl, rfl⟩ := hv
    refine ⟨⟨by simp [vals], .inr ⟨gc, B.length + 4, cur, rfl, hbg, hg, by omega, hcm, hcs, ?_⟩⟩, hB, hl⟩
    have h5 : cur.toList.take (B.length * 1) = (cur.toList.take ((B.length + 4) * 1)).take (B.length * 1) := by
      rw [List.take_take]
      congr 1
      omega
    rw [h5, htake]
    unfold vals
    rw [List.map_append, List.take_left' (by simp)]

theorem PairW.progBelow {base pv : Nat} {po : Option Addr} {w w1 : World} {s : WS} (h : PairW base pv po w s) (ht : TchP w w1 po) : Below base w w1 := by
  obtain ⟨⟨ho, hta, hou, hs⟩, hk, _⟩ := ht.keep h
  exact ⟨ho, hta, hou, hs, fun k hk' => hk k (by have := h.base_le; omega) (fun e => by have := (h.footP e).1; omega)⟩

theorem lay8_prog {base pv : Nat} {po : Option Addr} {w1 : World} {s : WS} (hP : PairW base pv po w1 s) (gc bn : Nat) (B : List Nat) (M : Int) (hL : Lent w1 gc bn B) (hB : ∀ x ∈ B, x < 256) (hbn : bn ≤ 140737488351232) (hf : ¬ FootP w1 po gc) :
    Calls Try.prog 40 #[.pointer po, .slice (some ⟨gc, 0, none⟩) bn (bn + 4), .int .i64 M] w1 fun e w2 => e = .returned (.tuple #[]) ∧ Hid (WrP base w2 po (s.put (numB bn ++ B) (cntY bn M)) ∧ TchP w1 w2 po) := by
  refine wBlobP hP.prog hP.inv hP.base_le _ bn (bn + 4) B M (hL.shows hB (by omega)) ?_
  intro p u g hp hu hg b off hb e
  have e1 : gc = b := by
    simp only [Option.some.injEq, Addr.mk.injEq, and_true] at hb
    exact hb.1
  subst e1
  subst e
  exact hf ⟨p, hp, .inr ⟨u, hu, hg⟩⟩
theorem lay8_ref {base pv : Nat} {po : Option Addr} {w1 w2 : World} {s : WS} (hP : PairW base pv po w1 s) (bo : Option Addr) (bn bc : Nat) (B : List Nat) (M : Int) (hS : Shows base w1 bo bn bc B) (hbn : bn ≤ 140737488351232) (h2 : WrP base w2 po (s.put (numB bn ++ B) (cntY bn M)) ∧ TchP w1 w2 po) :
    Calls Try.prog 41 #[.pointer (some ⟨pv, 0, none⟩), .slice bo bn bc, .int .i64 M] w2 fun e w3 => e = .returned (.tuple #[]) ∧ Hid (PairW base pv po w3 (s.put (numB bn ++ B) (cntY bn M)) ∧ KeepW base w1 w3 ∧ ∀ k, k < w1.heap.size → ¬ FootP w1 po k → ¬ Foot w1 pv 2 k → w3.heap[k]? = w1.heap[k]? ∧ ¬ FootP w3 po k ∧ ¬ Foot w3 pv 2 k) := by
  have hr := hP.refAt h2.2
  refine (refWBlob hr.1 hP.inv hr.2.1 bo bn bc B M (hS.belowB (hP.progBelow h2.2)) hr.2.1 hbn).mono ?_
  rintro e w3 ⟨rfl, h3⟩
  exact ⟨rfl, hP.next h2.1 h2.2 h3.out.1 h3.out.2⟩

set_option maxRecDepth 10000 in
set_option maxHeartbeats 800000 in
theorem lay_8 {base pv : Nat} {po : Option Addr} {w : World} {s : WS} (N : Nat) (I M : Int) (bo : Option Addr) (bn bc : Nat) (B : List Nat) (S : ByteArray) (hP : PairW base pv po w s) (hS : Shows base w bo bn bc B) (hbn : bn ≤ 140737488351232) :
    Calls Try.prog 7 #[.pointer po, .pointer (some ⟨pv, 0, none⟩), .agg #[.int .i64 8, .int .u64 (N : Int), .int .i64 I, .slice bo bn bc, .string S, .int .i64 M]] w fun e w' => e = .returned (.bool true) ∧ ResW base pv po w w' := by
  have hA := hP.alloc (opB 8 N I M bo bn bc S)
  have hSA := hS.belowB hA.2.below
  have HB := hide hS.2.2.2.1
  have HNB : Hid (bn = B.length) := hS.1
  have HLD : Hid (Calls Try.prog 10 #[.slice bo bn bc] (w.alloc (opB 8 N I M bo bn bc S)) fun e w1 => e = .returned (.slice (some ⟨w.heap.size + 1, 0, none⟩) bn (bn + 4)) ∧ w1.heap[w.heap.size]? = some (opB 8 N I M bo bn bc S) ∧ Hid (Lent w1 (w.heap.size + 1) bn B ∧ PairW base pv po w1 s ∧ KeepW base w w1 ∧ Shows base w1 bo bn bc B ∧ (∀ k, w.heap.size ≤ k → ¬ FootP w1 po k ∧ ¬ Foot w1 pv 2 k) ∧ w.heap.size + 1 < w1.heap.size)) := by
    refine (lend_sh hSA hA.1.base_le).mono ?_
    rintro e w1 ⟨rfl, h1, h2⟩
    have hsz : (w.alloc (opB 8 N I M bo bn bc S)).heap.size = w.heap.size + 1 := by simp
    have h3 := hA.1.below h2
    have hk := hA.2.trans h3.2
    rw [hsz] at h1 h2 ⊢
    exact ⟨rfl, (h2.block w.heap.size (by omega)).trans (heap_alloc_new w _), h1, h3.1, hk, hS.belowB hk.below,
      fun k hk => hP.fresh (below_none ((below_alloc w _).trans (h2.mono (by omega)))) hk, owned_lt2 h1.2⟩
  have HPR : Hid (∀ w1, Lent w1 (w.heap.size + 1) bn B → PairW base pv po w1 s → ¬ FootP w1 po (w.heap.size + 1) → _) := fun w1 h1 h2 h3 => lay8_prog h2 (w.heap.size + 1) bn B M h1 HB.out hbn h3
  have HRF : Hid (∀ w1 w2, PairW base pv po w1 s → Shows base w1 bo bn bc B → WrP base w2 po (s.put (numB bn ++ B) (cntY bn M)) ∧ TchP w1 w2 po → _) := fun w1 w2 h1 h2 h3 => lay8_ref (w2 := w2) h1 bo bn bc B M h2 hbn h3
  have HBS : Hid (base ≤ w.heap.size) := hP.base_le
  clear hA hSA hP hS
  go_enter Try.func7, Try.ntmps7
  go_wp2_with fail
  refine HLD.out.mono ?_
  rintro e w1 ⟨rfl, hb1, H1⟩
  have HB1 := hide hb1
  have c3 := block_cell hb1 3
  have c5 := block_cell hb1 5
  simp at c3 c5
  have HP1 := hide (HPR.out w1 H1.out.1 H1.out.2.1 (H1.out.2.2.2.2.1 _ (by omega)).1)
  clear hb1 HLD HPR
  go_wp2_with fail
  refine HP1.out.mono ?_
  rintro e w2 ⟨rfl, H2⟩
  have HB2 : Hid (w2.heap[w.heap.size]? = some (opB 8 N I M bo bn bc S)) := ((H2.out.2.keep H1.out.2.1).2.1 _ (by have := H1.out.2.2.2.2.2; omega) (H1.out.2.2.2.2.1 _ (Nat.le_refl _)).1).trans HB1.out
  clear c3 c5
  have c3 := block_cell HB2.out 3
  have c5 := block_cell HB2.out 5
  simp at c3 c5
  have HR2 := hide (HRF.out w1 w2 H1.out.2.1 H1.out.2.2.2.1 H2.out)
  clear HP1 HRF
  go_wp2_with fail
  refine HR2.out.mono ?_
  rintro e w3 ⟨rfl, H3⟩
  have HG3 := hide (H3.out.2.2 (w.heap.size + 1) H1.out.2.2.2.2.2 (H1.out.2.2.2.2.1 _ (by omega)).1 (H1.out.2.2.2.2.1 _ (by omega)).2)
  have HB3 : Hid (w3.heap[w.heap.size]? = some (opB 8 N I M bo bn bc S)) := (H3.out.2.2 _ (by have := H1.out.2.2.2.2.2; omega) (H1.out.2.2.2.2.1 _ (Nat.le_refl _)).1 (H1.out.2.2.2.2.1 _ (Nat.le_refl _)).2).1.trans HB1.out
  have HL3 := hide (H1.out.1.keepAt HG3.out.1)
  have HS3 := hide (H1.out.2.2.2.1.belowB H3.out.2.1.below)
  clear c3 c5
  have c3 := block_cell HB3.out 3
  simp at c3
  have HKP := hide (kept_sh HS3.out HL3.out)
  have HSP := hide (fun q => spoil_any ((HL3.out.ownsW HB.out (by omega)).drew q) (by have := HNB.out; omega) 3 3 rfl (by omega))
  clear HR2 HB2 HB3
  go_wp2_with fail
  refine HKP.out.mono ?_
  rintro e w4 ⟨rfl, q, rfl⟩
  go_wp2_with fail
  refine (HSP.out q).mono ?_
  rintro e w5 ⟨rfl, h5⟩
  have H5 : Hid ((w3.drewN q).grownBy w5 (some (w.heap.size + 1))) := h5
  clear h5 HSP HKP
  go_wp2
  go_ret
  refine ⟨rfl, ?_⟩
  have hd := H3.out.1.drewN q
  have hw := hd.1.wrote H5.out (fun g e => by
    cases e
    exact ⟨by have := HBS.out; omega, HG3.out.2.1, HG3.out.2.2⟩)
  exact ⟨⟨_, hw.1⟩, ((H1.out.2.2.1.trans H3.out.2.1).trans hd.2).trans hw.2⟩
end Go.Proofs.Ytgdliomkdkjlaaa
