import Derived.Test.YtgdliomkdkjlaaaPXY
namespace Go.Proofs.Ytgdliomkdkjlaaa
open Go.RowKit Crc

theorem refBytes_any {base p : Nat} {w : World} {s : WS} (hW : RefW base w p s) (hz : s.sound → s.place = 0) :
    Calls Try.prog 44 #[.pointer (some ⟨p, 0, none⟩)] w fun e w' => ∃ v, e = .returned (.tuple #[v, .agg #[.int .i64 s.errC, .int .i64 s.errA]]) ∧ Hid (Owns w.heap.size w' v s.shown ∧ Below w.heap.size w w') := by
  by_cases hs : s.sound
  · have h1 : s.errC = 0 := WS.errC_sound hs
    have h2 : s.errA = 0 := by unfold WS.errA; rw [if_pos hs.1]; exact hz hs
    have h3 : s.shown = s.L := by unfold WS.shown; rw [if_pos hs]
    rw [h1, h2, h3]
    refine (refBytes_sound hW hs).mono ?_
    rintro e w' ⟨v, rfl, h⟩
    exact ⟨v, rfl, h⟩
  · have h3 : s.shown = [] := by unfold WS.shown; rw [if_neg hs]
    rw [h3]
    refine (refBytes_not hW hs).mono ?_
    rintro e w' ⟨rfl, h⟩
    exact ⟨_, rfl, Owns.nil _ _, h⟩
theorem WS.shown_len {s : WS} (h : s.Inv) : s.shown.length ≤ 65507 := by
  unfold WS.shown
  split
  · rename_i hs
    have := h hs.1
    omega
  · simp

set_option maxRecDepth 10000 in
set_option maxHeartbeats 1600000 in
theorem written_any {base pv : Nat} {po : Option Addr} {w : World} {s : WS} (hP : PairW base pv po w s) :
    Calls Try.prog 9 #[.pointer po, .pointer (some ⟨pv, 0, none⟩)] w fun e w' => e = .returned (.bool true) ∧ PairW base pv po w' s ∧ KeepW base w w' ∧ Below w.heap.size w w' := by
  have HRB := hide (refBytes_any hP.ref hP.place)
  have HPB : Hid (∀ wx, PairW base pv po wx s → Calls Try.prog 23 #[.pointer po] wx fun e w' => ∃ v x, e = .returned (.tuple #[v, x]) ∧ Hid (Owns wx.heap.size w' v s.shown ∧ ErrV w' x s.errC s.errA ∧ Below wx.heap.size wx w')) := fun wx h => wBytesP h.prog h.place
  have HSL := hide (WS.shown_len hP.inv)
  have HP := hide hP
  generalize s.errC = ec at *
  generalize s.errA = ea at *
  generalize s.shown = X at *
  clear hP
  go_enter Try.func9, Try.ntmps9
  go_wp2_with fail
  refine HRB.out.mono ?_
  rintro e w1 ⟨v1, rfl, H1⟩
  obtain ⟨ab, cb, rfl, hsb, _⟩ := H1.out.1.form
  have HS1 := hide hsb
  clear hsb HRB
  generalize hxl : X.length = n at *
  have HXL := hide hxl
  clear hxl
  have HINI : Hid (PairW base pv po (w1.alloc (.cells #[.int .i64 ec, .int .i64 ea] 34)) s ∧ KeepW base w (w1.alloc (.cells #[.int .i64 ec, .int .i64 ea] 34)) ∧ Shows w1.heap.size (w1.alloc (.cells #[.int .i64 ec, .int .i64 ea] 34)) ab n cb X ∧ w1.heap.size < (w1.alloc (.cells #[.int .i64 ec, .int .i64 ea] 34)).heap.size ∧ Below w.heap.size w (w1.alloc (.cells #[.int .i64 ec, .int .i64 ea] 34))) := by
    have h1 := HP.out.below H1.out.2
    have h2 := h1.1.alloc (.cells #[.int .i64 ec, .int .i64 ea] 34)
    exact ⟨h2.1, h1.2.trans h2.2, HS1.out.kept (World.grownBy_alloc _ _ none) (fun g e => by cases e), by simp, H1.out.2.alloc H1.out.2.size _⟩
  clear H1 HS1
  go_wp2
  go_loopw [7] (fun i wr => (i = .int .i64 0 ∨ i = .int .i64 1 ∨ i = .int .i64 2) ∧ wr.cell? ⟨w1.heap.size, 0, none⟩ = some (.int .i64 ec) ∧ wr.cell? ⟨w1.heap.size, 1, none⟩ = some (.int .i64 ea) ∧ Hid (PairW base pv po wr s ∧ KeepW base w wr ∧ Shows w1.heap.size wr ab n cb X ∧ w1.heap.size < wr.heap.size ∧ Below w.heap.size w wr)) (fun i _ => 2 - (intOf i).toNat)
  case atStart => exact ⟨.inl rfl, by simp, by simp, HINI.out⟩
  case round =>
    obtain ⟨hi, a0, a1, HR⟩ := hrel
    have HRND : Hid (∀ mk : Nat, mk < 200 → ∀ w2 v x, Owns wr.heap.size w2 v X ∧ ErrV w2 x ec ea ∧ Below wr.heap.size wr w2 → ∀ q w5, (w2.drewN q).grownBy w5 v.ownBlock → (w5.cell? ⟨w1.heap.size, 0, none⟩ = some (.int .i64 ec) ∧ w5.cell? ⟨w1.heap.size, 1, none⟩ = some (.int .i64 ea) ∧ Hid (PairW base pv po w5 s ∧ KeepW base w w5 ∧ Shows w1.heap.size w5 ab n cb X ∧ w1.heap.size < w5.heap.size ∧ Below w.heap.size w w5))) := by
      intro mk hmk w2 v x ⟨hO, _, hb⟩ q w5 hg
      obtain ⟨hPr, hK, hS, hlt, hBw⟩ := HR.out
      have hg' : w2.grownBy w5 v.ownBlock := ⟨hg.os, hg.tape, hg.output, hg.size, hg.block⟩
      have hfar := ownx_far hO
      have hgr : wr.grownBy w5 v.ownBlock := ⟨hg'.os.trans hb.os, hg'.tape.trans hb.tape, hg'.output.trans hb.output, Nat.le_trans hb.size hg'.size, fun k hk hne => (hg'.block k (Nat.lt_of_lt_of_le hk hb.size) hne).trans (hb.block k hk)⟩
      have hq := hPr.quiet hgr (fun g e => hfar g e)
      exact ⟨hgr.cell a0 (fun e => by have : wr.heap.size ≤ w1.heap.size := hfar _ e.symm; omega), hgr.cell a1 (fun e => by have : wr.heap.size ≤ w1.heap.size := hfar _ e.symm; omega), hq.1, hK.trans hq.2, hS.kept hgr (fun g e => by have := hfar g e; omega), Nat.lt_of_lt_of_le hlt hgr.size, hBw.grown hgr hBw.size (fun k hk => Nat.le_trans hBw.size (hfar k hk))⟩
    have HB2 : Hid (∀ w2, Below wr.heap.size wr w2 → w2.cell? ⟨w1.heap.size, 0, none⟩ = some (.int .i64 ec) ∧ w2.cell? ⟨w1.heap.size, 1, none⟩ = some (.int .i64 ea) ∧ Shows w1.heap.size w2 ab n cb X) := by
      intro w2 hb
      obtain ⟨hPr, hK, hS, hlt, _⟩ := HR.out
      exact ⟨(hb.cell (p := ⟨w1.heap.size, 0, none⟩) hlt).trans a0, (hb.cell (p := ⟨w1.heap.size, 1, none⟩) hlt).trans a1, hS.kept (below_none hb) (fun g e => by cases e)⟩
    have HBY := hide (HPB.out wr HR.out.1)
    rcases hi with rfl | rfl | rfl
    · go_wp2_with fail
      refine HBY.out.mono ?_
      rintro e w2 ⟨v, x, rfl, H2⟩
      obtain ⟨a2, c2, rfl, hs2, _⟩ := H2.out.1.form
      have HN := hide (HRND.out 11 (by omega) w2 _ x H2.out)
      obtain ⟨b0, b1, hsb⟩ := HB2.out w2 H2.out.2.2
      have HSM := hide (fun q => same_any (hs2.world (w' := w2.drewN q) rfl) (hsb.world (w' := w2.drewN q) rfl))
      have HTD := hide (told_any H2.out.2.1)
      have HSP := hide (fun q => spoil_any (H2.out.1.drew q) (by have := HSL.out; have := HXL.out; omega) 11 11 rfl (by omega))
      rw [HXL.out] at HSM HN HSP ⊢
      clear hs2 hsb H2 HRND HB2 HBY
      go_wp2_with fail
      refine HTD.out.mono ?_
      rintro e w3 ⟨rfl, q1, rfl⟩
      go_wp2_with fail
      refine (HSM.out q1).mono ?_
      rintro e w4 ⟨rfl, q2, rfl⟩
      go_wp2_with fail
      refine (HSP.out _).mono ?_
      rintro e w5 ⟨rfl, h5⟩
      have H5 := hide (HN.out _ w5 h5)
      clear h5 HN HSP
      go_wp2
      go_roundw
      case rel => exact ⟨.inr (.inl (by go_num)), H5.out⟩
      case measure => simp [intOf]
    · go_wp2_with fail
      refine HBY.out.mono ?_
      rintro e w2 ⟨v, x, rfl, H2⟩
      obtain ⟨a2, c2, rfl, hs2, _⟩ := H2.out.1.form
      have HN := hide (HRND.out 12 (by omega) w2 _ x H2.out)
      obtain ⟨b0, b1, hsb⟩ := HB2.out w2 H2.out.2.2
      have HSM := hide (fun q => same_any (hs2.world (w' := w2.drewN q) rfl) (hsb.world (w' := w2.drewN q) rfl))
      have HTD := hide (told_any H2.out.2.1)
      have HSP := hide (fun q => spoil_any (H2.out.1.drew q) (by have := HSL.out; have := HXL.out; omega) 12 12 rfl (by omega))
      rw [HXL.out] at HSM HN HSP ⊢
      clear hs2 hsb H2 HRND HB2 HBY
      go_wp2_with fail
      refine HTD.out.mono ?_
      rintro e w3 ⟨rfl, q1, rfl⟩
      go_wp2_with fail
      refine (HSM.out q1).mono ?_
      rintro e w4 ⟨rfl, q2, rfl⟩
      go_wp2_with fail
      refine (HSP.out _).mono ?_
      rintro e w5 ⟨rfl, h5⟩
      have H5 := hide (HN.out _ w5 h5)
      clear h5 HN HSP
      go_wp2
      go_roundw
      case rel => exact ⟨.inr (.inr (by go_num)), H5.out⟩
      case measure => simp [intOf]
    · go_wp2
      go_ret
      exact ⟨rfl, HR.out.1, HR.out.2.1, HR.out.2.2.2.2⟩
end Go.Proofs.Ytgdliomkdkjlaaa
