import Derived.Test.YthbpacilceemlaaPXX
namespace Go.Proofs.Ythbpacilceemlaa
open Go.RowKit Crc

theorem KeepW.below {base : Nat} {w w' : World} (h : KeepW base w w') : Below base w w' := h w (Below.refl _ _)
theorem Shows.belowB {base : Nat} {w w' : World} {ao : Option Addr} {n cap : Nat} {B : List Nat} (h : Shows base w ao n cap B) (hb : Below base w w') : Shows base w' ao n cap B := by
  obtain ⟨h1, h2, h3, h4, b, off, h5, h6, h7⟩ := h
  refine ⟨h1, h2, h3, h4, b, off, h5, h6, fun i hi => ?_⟩
  rw [← h7 i hi]
  exact hb.cell (p := ⟨b, off + i, none⟩) (h6 (by omega))
theorem Lent.keepAt {w w' : World} {gc n : Nat} {B : List Nat} (h : Lent w gc n B) (hk : w'.heap[gc]? = w.heap[gc]?) : Lent w' gc n B := by
  obtain ⟨h0, h1, h2⟩ := h
  refine ⟨h0, h1, ?_⟩
  rcases h2 with h2 | ⟨g, cap, cur, hv, hbg, hg, hr⟩
  · exact .inl h2
  · have e : g = gc := by
      simp only [Value.slice.injEq, Option.some.injEq, Addr.mk.injEq, and_true] at hv
      exact hv.1.symm
    exact .inr ⟨g, cap, cur, hv, hbg, (by rw [e] at hg ⊢; exact hk.trans hg), hr⟩
theorem Lent.ownsW {w : World} {gc n : Nat} {B : List Nat} (h : Lent w gc n B) (hB : ∀ x ∈ B, x < 256) (hl : n ≤ 140737488355328) : Owns gc w (.slice (some ⟨gc, 0, none⟩) n (n + 4)) B := by
  obtain ⟨h1, h2, h3⟩ := h
  subst h1
  rcases h3 with ⟨h4, _⟩ | ⟨g, cap, cur, hv, hbg, hg, hnc, hcm, hcs, htake⟩
  · cases h4
  · simp only [Value.slice.injEq, Option.some.injEq, Addr.mk.injEq, and_true, true_and] at hv
    obtain ⟨rfl, rfl⟩ := hv
    refine ⟨⟨by simp [vals], .inr ⟨gc, B.length + 4, cur, rfl, hbg, hg, by omega, hcm, hcs, ?_⟩⟩, hB, hl⟩
    have h5 : cur.toList.take (B.length * 1) = (cur.toList.take ((B.length + 4) * 1)).take (B.length * 1) := by
      rw [List.take_take]
      congr 1
      omega
    rw [h5, htake]
    unfold vals
    rw [List.map_append, List.take_left' (by simp)]

theorem PairW.progBelow {base pv : Nat} {po : Option Addr} {w w1 : World} {s : WS} (h : PairW base pv po w s) (ht : TchP w w1 po) : Below base w w1 := by
  obtain ⟨⟨ho, hta, hou, hs⟩, hk, _⟩ := ht.keep h
  exact ⟨ho, hta, hou, hs, fun k hk' => hk k (by have := h.base_le; omega) (fun e => by have := (h.footP e).1; omega)⟩

theorem lay8_prog {base pv : Nat} {po : Option Addr} {w1 : World} {s : WS} (hP : PairW base pv po w1 s) (gc bn : Nat) (B : List Nat) (M : Int) (hL : Lent w1 gc bn B) (hB : ∀ x ∈ B, x < 256) (hbn : bn ≤ 140737488351232) (hf : ¬ FootP w1 po gc) :
    Calls Try.prog 47 #[.pointer po, .slice (some ⟨gc, 0, none⟩) bn (bn + 4), .int .i64 M] w1 fun e w2 => e = .returned (.tuple #[]) ∧ Hid (WrP base w2 po (s.put (numB bn ++ B) (cntY bn M)) ∧ TchP w1 w2 po) := by
  refine wBlobP hP.prog hP.inv hP.base_le _ bn (bn + 4) B M (hL.shows hB (by omega)) ?_
  intro p u g hp hu hg b off hb e
  have e1 : gc = b := by
    simp only [Option.some.injEq, Addr.mk.injEq, and_true] at hb
    exact hb.1
  subst e1
  subst e
  exact hf ⟨p, hp, .inr ⟨u, hu, hg⟩⟩
theorem lay8_ref {base pv : Nat} {po : Option Addr} {w1 w2 : World} {s : WS} (hP : PairW base pv po w1 s) (bo : Option Addr) (bn bc : Nat) (B : List Nat) (M : Int) (hS : Shows base w1 bo bn bc B) (hbn : bn ≤ 140737488351232) (h2 : WrP base w2 po (s.put (numB bn ++ B) (cntY bn M)) ∧ TchP w1 w2 po) :
    Calls Try.prog 48 #[.pointer (some ⟨pv, 0, none⟩), .slice bo bn bc, .int .i64 M] w2 fun e w3 => e = .returned (.tuple #[]) ∧ Hid (PairW base pv po w3 (s.put (numB bn ++ B) (cntY bn M)) ∧ KeepW base w1 w3 ∧ ∀ k, k < w1.heap.size → ¬ FootP w1 po k → ¬ Foot w1 pv 2 k → w3.heap[k]? = w1.heap[k]? ∧ ¬ FootP w3 po k ∧ ¬ Foot w3 pv 2 k) := by
  have hr := hP.refAt h2.2
  refine (refWBlob hr.1 hP.inv hr.2.1 bo bn bc B M (hS.belowB (hP.progBelow h2.2)) hr.2.1 hbn).mono ?_
  rintro e w3 ⟨rfl, h3⟩
  exact ⟨rfl, hP.next h2.1 h2.2 h3.out.1 h3.out.2⟩

set_option maxRecDepth 10000 in
set_option maxHeartbeats 800000 in
theorem lay_8 {base pv : Nat} {po : Option Addr} {w : World} {s : WS} (N : Nat) (I M : Int) (bo : Option Addr) (bn bc : Nat) (B : List Nat) (S : ByteArray) (hP : PairW base pv po w s) (hS : Shows base w bo bn bc B) (hbn : bn ≤ 140737488351232) :
    Calls Try.prog 8 #[.pointer po, .pointer (some ⟨pv, 0, none⟩), .agg #[.int .i64 8, .int .u64 (N : Int), .int .i64 I, .slice bo bn bc, .string S, .int .i64 M]] w fun e w' => e = .returned (.bool true) ∧ ResW base pv po w w' := by
  have hA := hP.alloc (opB 8 N I M bo bn bc S)
  have hSA := hS.belowB hA.2.below
  have HB := hide hS.2.2.2.1
  have HNB : Hid (bn = B.length) := hS.1
  have HLD : Hid (Calls Try.prog 11 #[.slice bo bn bc] (w.alloc (opB 8 N I M bo bn bc S)) fun e w1 => e = .returned (.slice (some ⟨w.heap.size + 1, 0, none⟩) bn (bn + 4)) ∧ w1.heap[w.heap.size]? = some (opB 8 N I M bo bn bc S) ∧ Hid (Lent w1 (w.heap.size + 1) bn B ∧ PairW base pv po w1 s ∧ KeepW base w w1 ∧ Shows base w1 bo bn bc B ∧ (∀ k, w.heap.size ≤ k → ¬ FootP w1 po k ∧ ¬ Foot w1 pv 2 k) ∧ w.heap.size + 1 < w1.heap.size)) := by
    refine (lend_sh hSA hA.1.base_le).mono ?_
    rintro e w1 ⟨rfl, h1, h2⟩
    have hsz : (w.alloc (opB 8 N I M bo bn bc S)).heap.size = w.heap.size + 1 := by simp
    have h3 := hA.1.below h2
    have hk := hA.2.trans h3.2
    rw [hsz] at h1 h2 ⊢
    exact ⟨rfl, (h2.block w.heap.size (by omega)).trans (heap_alloc_new w _), h1, h3.1, hk, hS.belowB hk.below,
      fun k hk => hP.fresh (below_none ((below_alloc w _).trans (h2.mono (by omega)))) hk, owned_lt2 h1.2⟩
  have HPR : Hid (∀ w1, Lent w1 (w.heap.size + 1) bn B → PairW base pv po w1 s → ¬ FootP w1 po (w.heap.size + 1) → _) := fun w1 h1 h2 h3 => lay8_prog h2 (w.heap.size + 1) bn B M h1 HB.out hbn h3
  have HRF : Hid (∀ w1 w2, PairW base pv po w1 s → Shows base w1 bo bn bc B → WrP base w2 po (s.put (numB bn ++ B) (cntY bn M)) ∧ TchP w1 w2 po → _) := fun w1 w2 h1 h2 h3 => lay8_ref (w2 := w2) h1 bo bn bc B M h2 hbn h3
  have HBS : Hid (base ≤ w.heap.size) := hP.base_le
  clear hA hSA hP hS
  go_enter Try.func8, Try.ntmps8
  go_wp2_with fail
  refine HLD.out.mono ?_
  rintro e w1 ⟨rfl, hb1, H1⟩
  have HB1 := hide hb1
  have c3 := block_cell hb1 3
  have c5 := block_cell hb1 5
  simp at c3 c5
  have HP1 := hide (HPR.out w1 H1.out.1 H1.out.2.1 (H1.out.2.2.2.2.1 _ (by omega)).1)
  clear hb1 HLD HPR
  go_wp2_with fail
  refine HP1.out.mono ?_
  rintro e w2 ⟨rfl, H2⟩
  have HB2 : Hid (w2.heap[w.heap.size]? = some (opB 8 N I M bo bn bc S)) := ((H2.out.2.keep H1.out.2.1).2.1 _ (by have := H1.out.2.2.2.2.2; omega) (H1.out.2.2.2.2.1 _ (Nat.le_refl _)).1).trans HB1.out
  clear c3 c5
  have c3 := block_cell HB2.out 3
  have c5 := block_cell HB2.out 5
  simp at c3 c5
  have HR2 := hide (HRF.out w1 w2 H1.out.2.1 H1.out.2.2.2.1 H2.out)
  clear HP1 HRF
  go_wp2_with fail
  refine HR2.out.mono ?_
  rintro e w3 ⟨rfl, H3⟩
  have HG3 := hide (H3.out.2.2 (w.heap.size + 1) H1.out.2.2.2.2.2 (H1.out.2.2.2.2.1 _ (by omega)).1 (H1.out.2.2.2.2.1 _ (by omega)).2)
  have HB3 : Hid (w3.heap[w.heap.size]? = some (opB 8 N I M bo bn bc S)) := (H3.out.2.2 _ (by have := H1.out.2.2.2.2.2; omega) (H1.out.2.2.2.2.1 _ (Nat.le_refl _)).1 (H1.out.2.2.2.2.1 _ (Nat.le_refl _)).2).1.trans HB1.out
  have HL3 := hide (H1.out.1.keepAt HG3.out.1)
  have HS3 := hide (H1.out.2.2.2.1.belowB H3.out.2.1.below)
  clear c3 c5
  have c3 := block_cell HB3.out 3
  simp at c3
  have HKP := hide (kept_sh HS3.out HL3.out)
  have HSP := hide (fun q => spoil_any ((HL3.out.ownsW HB.out (by omega)).drew q) (by have := HNB.out; omega) 3 3 rfl (by omega))
  clear HR2 HB2 HB3
  go_wp2_with fail
  refine HKP.out.mono ?_
  rintro e w4 ⟨rfl, q, rfl⟩
  go_wp2_with fail
  refine (HSP.out q).mono ?_
  rintro e w5 ⟨rfl, h5⟩
  have H5 : Hid ((w3.drewN q).grownBy w5 (some (w.heap.size + 1))) := h5
  clear h5 HSP HKP
  go_wp2
  go_ret
  refine ⟨rfl, ?_⟩
  have hd := H3.out.1.drewN q
  have hw := hd.1.wrote H5.out (fun g e => by
    cases e
    exact ⟨by have := HBS.out; omega, HG3.out.2.1, HG3.out.2.2⟩)
  exact ⟨⟨_, hw.1⟩, ((H1.out.2.2.1.trans H3.out.2.1).trans hd.2).trans hw.2⟩
end Go.Proofs.Ythbpacilceemlaa
namespace Go.Proofs.Ythbpacilceemlaa
open Go.RowKit Crc

theorem refBytes_any {base p : Nat} {w : World} {s : WS} (hW : RefW base w p s) (hz : s.sound → s.place = 0) :
    Calls Try.prog 51 #[.pointer (some ⟨p, 0, none⟩)] w fun e w' => ∃ v, e = .returned (.tuple #[v, .agg #[.int .i64 s.errC, .int .i64 s.errA]]) ∧ Hid (Owns w.heap.size w' v s.shown ∧ Below w.heap.size w w') := by
  by_cases hs : s.sound
  · have h1 : s.errC = 0 := WS.errC_sound hs
    have h2 : s.errA = 0 := by unfold WS.errA; rw [if_pos hs.1]; exact hz hs
    have h3 : s.shown = s.L := by unfold WS.shown; rw [if_pos hs]
    rw [h1, h2, h3]
    refine (refBytes_sound hW hs).mono ?_
    rintro e w' ⟨v, rfl, h⟩
    exact ⟨v, rfl, h⟩
  · have h3 : s.shown = [] := by unfold WS.shown; rw [if_neg hs]
    rw [h3]
    refine (refBytes_not hW hs).mono ?_
    rintro e w' ⟨rfl, h⟩
    exact ⟨_, rfl, Owns.nil _ _, h⟩
theorem WS.shown_len {s : WS} (h : s.Inv) : s.shown.length ≤ 65507 := by
  unfold WS.shown
  split
  · rename_i hs
    have := h hs.1
    omega
  · simp

set_option maxRecDepth 10000 in
set_option maxHeartbeats 1600000 in
theorem written_any {base pv : Nat} {po : Option Addr} {w : World} {s : WS} (hP : PairW base pv po w s) :
    Calls Try.prog 10 #[.pointer po, .pointer (some ⟨pv, 0, none⟩)] w fun e w' => e = .returned (.bool true) ∧ PairW base pv po w' s ∧ KeepW base w w' ∧ Below w.heap.size w w' := by
  have HRB := hide (refBytes_any hP.ref hP.place)
  have HPB : Hid (∀ wx, PairW base pv po wx s → Calls Try.prog 24 #[.pointer po] wx fun e w' => ∃ v x, e = .returned (.tuple #[v, x]) ∧ Hid (Owns wx.heap.size w' v s.shown ∧ ErrV w' x s.errC s.errA ∧ Below wx.heap.size wx w')) := fun wx h => wBytesP h.prog h.place
  have HSL := hide (WS.shown_len hP.inv)
  have HP := hide hP
  generalize s.errC = ec at *
  generalize s.errA = ea at *
  generalize s.shown = X at *
  clear hP
  go_enter Try.func10, Try.ntmps10
  go_wp2_with fail
  refine HRB.out.mono ?_
  rintro e w1 ⟨v1, rfl, H1⟩
  obtain ⟨ab, cb, rfl, hsb, _⟩ := H1.out.1.form
  have HS1 := hide hsb
  clear hsb HRB
  generalize hxl : X.length = n at *
  have HXL := hide hxl
  clear hxl
  have HINI : Hid (PairW base pv po (w1.alloc (.cells #[.int .i64 ec, .int .i64 ea] 34)) s ∧ KeepW base w (w1.alloc (.cells #[.int .i64 ec, .int .i64 ea] 34)) ∧ Shows w1.heap.size (w1.alloc (.cells #[.int .i64 ec, .int .i64 ea] 34)) ab n cb X ∧ w1.heap.size < (w1.alloc (.cells #[.int .i64 ec, .int .i64 ea] 34)).heap.size ∧ Below w.heap.size w (w1.alloc (.cells #[.int .i64 ec, .int .i64 ea] 34))) := by
    have h1 := HP.out.below H1.out.2
    have h2 := h1.1.alloc (.cells #[.int .i64 ec, .int .i64 ea] 34)
    exact ⟨h2.1, h1.2.trans h2.2, HS1.out.kept (World.grownBy_alloc _ _ none) (fun g e => by cases e), by simp, H1.out.2.alloc H1.out.2.size _⟩
  clear H1 HS1
  go_wp2
  go_loopw [7] (fun i wr => (i = .int .i64 0 ∨ i = .int .i64 1 ∨ i = .int .i64 2) ∧ wr.cell? ⟨w1.heap.size, 0, none⟩ = some (.int .i64 ec) ∧ wr.cell? ⟨w1.heap.size, 1, none⟩ = some (.int .i64 ea) ∧ Hid (PairW base pv po wr s ∧ KeepW base w wr ∧ Shows w1.heap.size wr ab n cb X ∧ w1.heap.size < wr.heap.size ∧ Below w.heap.size w wr)) (fun i _ => 2 - (intOf i).toNat)
  case atStart => exact ⟨.inl rfl, by simp, by simp, HINI.out⟩
  case round =>
    obtain ⟨hi, a0, a1, HR⟩ := hrel
    have HRND : Hid (∀ mk : Nat, mk < 200 → ∀ w2 v x, Owns wr.heap.size w2 v X ∧ ErrV w2 x ec ea ∧ Below wr.heap.size wr w2 → ∀ q w5, (w2.drewN q).grownBy w5 v.ownBlock → (w5.cell? ⟨w1.heap.size, 0, none⟩ = some (.int .i64 ec) ∧ w5.cell? ⟨w1.heap.size, 1, none⟩ = some (.int .i64 ea) ∧ Hid (PairW base pv po w5 s ∧ KeepW base w w5 ∧ Shows w1.heap.size w5 ab n cb X ∧ w1.heap.size < w5.heap.size ∧ Below w.heap.size w w5))) := by
      intro mk hmk w2 v x ⟨hO, _, hb⟩ q w5 hg
      obtain ⟨hPr, hK, hS, hlt, hBw⟩ := HR.out
      have hg' : w2.grownBy w5 v.ownBlock := ⟨hg.os, hg.tape, hg.output, hg.size, hg.block⟩
      have hfar := ownx_far hO
      have hgr : wr.grownBy w5 v.ownBlock := ⟨hg'.os.trans hb.os, hg'.tape.trans hb.tape, hg'.output.trans hb.output, Nat.le_trans hb.size hg'.size, fun k hk hne => (hg'.block k (Nat.lt_of_lt_of_le hk hb.size) hne).trans (hb.block k hk)⟩
      have hq := hPr.quiet hgr (fun g e => hfar g e)
      exact ⟨hgr.cell a0 (fun e => by have : wr.heap.size ≤ w1.heap.size := hfar _ e.symm; omega), hgr.cell a1 (fun e => by have : wr.heap.size ≤ w1.heap.size := hfar _ e.symm; omega), hq.1, hK.trans hq.2, hS.kept hgr (fun g e => by have := hfar g e; omega), Nat.lt_of_lt_of_le hlt hgr.size, hBw.grown hgr hBw.size (fun k hk => Nat.le_trans hBw.size (hfar k hk))⟩
    have HB2 : Hid (∀ w2, Below wr.heap.size wr w2 → w2.cell? ⟨w1.heap.size, 0, none⟩ = some (.int .i64 ec) ∧ w2.cell? ⟨w1.heap.size, 1, none⟩ = some (.int .i64 ea) ∧ Shows w1.heap.size w2 ab n cb X) := by
      intro w2 hb
      obtain ⟨hPr, hK, hS, hlt, _⟩ := HR.out
      exact ⟨(hb.cell (p := ⟨w1.heap.size, 0, none⟩) hlt).trans a0, (hb.cell (p := ⟨w1.heap.size, 1, none⟩) hlt).trans a1, hS.kept (below_none hb) (fun g e => by cases e)⟩
    have HBY := hide (HPB.out wr HR.out.1)
    rcases hi with rfl | rfl | rfl
    · go_wp2_with fail
      refine HBY.out.mono ?_
      rintro e w2 ⟨v, x, rfl, H2⟩
      obtain ⟨a2, c2, rfl, hs2, _⟩ := H2.out.1.form
      have HN := hide (HRND.out 11 (by omega) w2 _ x H2.out)
      obtain ⟨b0, b1, hsb⟩ := HB2.out w2 H2.out.2.2
      have HSM := hide (fun q => same_any (hs2.world (w' := w2.drewN q) rfl) (hsb.world (w' := w2.drewN q) rfl))
      have HTD := hide (told_any H2.out.2.1)
      have HSP := hide (fun q => spoil_any (H2.out.1.drew q) (by have := HSL.out; have := HXL.out; omega) 11 11 rfl (by omega))
      rw [HXL.out] at HSM HN HSP ⊢
      clear hs2 hsb H2 HRND HB2 HBY
      go_wp2_with fail
      refine HTD.out.mono ?_
      rintro e w3 ⟨rfl, q1, rfl⟩
      go_wp2_with fail
      refine (HSM.out q1).mono ?_
      rintro e w4 ⟨rfl, q2, rfl⟩
      go_wp2_with fail
      refine (HSP.out _).mono ?_
      rintro e w5 ⟨rfl, h5⟩
      have H5 := hide (HN.out _ w5 h5)
      clear h5 HN HSP
      go_wp2
      go_roundw
      case rel => exact ⟨.inr (.inl (by go_num)), H5.out⟩
      case measure => simp [intOf]
    · go_wp2_with fail
      refine HBY.out.mono ?_
      rintro e w2 ⟨v, x, rfl, H2⟩
      obtain ⟨a2, c2, rfl, hs2, _⟩ := H2.out.1.form
      have HN := hide (HRND.out 12 (by omega) w2 _ x H2.out)
      obtain ⟨b0, b1, hsb⟩ := HB2.out w2 H2.out.2.2
      have HSM := hide (fun q => same_any (hs2.world (w' := w2.drewN q) rfl) (hsb.world (w' := w2.drewN q) rfl))
      have HTD := hide (told_any H2.out.2.1)
      have HSP := hide (fun q => spoil_any (H2.out.1.drew q) (by have := HSL.out; have := HXL.out; omega) 12 12 rfl (by omega))
      rw [HXL.out] at HSM HN HSP ⊢
      clear hs2 hsb H2 HRND HB2 HBY
      go_wp2_with fail
      refine HTD.out.mono ?_
      rintro e w3 ⟨rfl, q1, rfl⟩
      go_wp2_with fail
      refine (HSM.out q1).mono ?_
      rintro e w4 ⟨rfl, q2, rfl⟩
      go_wp2_with fail
      refine (HSP.out _).mono ?_
      rintro e w5 ⟨rfl, h5⟩
      have H5 := hide (HN.out _ w5 h5)
      clear h5 HN HSP
      go_wp2
      go_roundw
      case rel => exact ⟨.inr (.inr (by go_num)), H5.out⟩
      case measure => simp [intOf]
    · go_wp2
      go_ret
      exact ⟨rfl, HR.out.1, HR.out.2.1, HR.out.2.2.2.2⟩
end Go.Proofs.Ythbpacilceemlaa
