import Derived.Test.YtcfenjpdjogmdaaLT33
namespace Go.Proofs.Ytcfenjpdjogmdaa
open Go.RowKit

section
variable {B p a b : Nat} {w0 : World} {Z0 : SZ} {S0 : LS} {n : Nat} {w : World} {S : LS}
set_option maxRecDepth 10000 in
set_option maxHeartbeats 1600000 in
/-- A hold is put, whether it is there or not. -/
theorem setHoldNM (h : Run B p a b w0 Z0 S0 n w S) (hr : n < 999) (hn : S.hol.length ≤ 64) (x : Ho) (hx : x.id < 18446744073709551616) (hz : x.am ≠ 0) {l : List Ho} (hb : ∀ y, byK Ho.id l y = if y = x.id then some x else byK Ho.id S.hol y) (hl : l.length = if (byK Ho.id S.hol x.id).isSome = true then S.hol.length else S.hol.length + 1) :
    Calls Try.prog 51 #[.pointer (some ⟨p, 0, none⟩), .agg x.arr] w fun e w' => e = .returned (.tuple #[]) ∧ Hid (Run B p a b w0 Z0 S0 (n + 1) w' { S with hol := l } ∧ Fl w w') := by
  obtain ⟨mk, ch, hlg⟩ := h.lg
  have c1 := hlg.c.2.2.1
  have cl := hlg.lt.1
  have HP : Hid (Calls Try.prog 64 #[.map (some b), .int .u64 (x.id : Nat), .agg x.arr] (w.alloc (.cells x.arr 83)).drew fun e w' => ∃ v, e = .returned v ∧ w'.cell? ⟨p, 2, none⟩ = some (.map (some b)) ∧ (w'.cell? ⟨w.heap.size, 0, none⟩ = some (.int .u64 (x.id : Nat)) ∧ w'.cell? ⟨w.heap.size, 1, none⟩ = some (.int .u64 (x.fr : Nat)) ∧ w'.cell? ⟨w.heap.size, 2, none⟩ = some (.int .u64 (x.am : Nat))) ∧ Hid (Mid B p a b w0 Z0 S0 n (.H x.id (byK Ho.id S.hol x.id)) w w.heap.size (.cells x.arr 83 (0, 0)) v w' { S with hol := l })) := by
    have hb0 : Below w.heap.size w (w.alloc (.cells x.arr 83)).drew := ((Below.refl _ w).alloc (Nat.le_refl _) _).drew
    have h0 := h.kept hb0
    have hl0 := hlg.kept hb0
    have q0 : (w.alloc (.cells x.arr 83)).drew.heap[w.heap.size]? = some (.cells x.arr 83 (0, 0)) := alloc_atK _ _
    refine (putH hl0.hol x hx (by unfold maxLen; omega)).mono ?_
    rintro e w' ⟨v, rfl, G⟩
    obtain ⟨gb, ht, hg⟩ := G.out
    have ht' : THm w' b l.length (byK Ho.id l) := ht.congr hl.symm (fun y => (hb y).symm)
    have hne : w.heap.size ≠ b := fun e => by have := hlg.lt.2.2; omega
    have q1 := (hg.block _ (block_lt q0) (fun e => hne (Option.some.inj e))).trans q0
    have hs := h0.step (S' := { S with hol := l }) (ex' := [.H x.id (byK Ho.id S.hol x.id)]) hg (fun q e => .inr (.inr (Option.some.inj e).symm)) (fun mk' ch' hl' => hl'.toH ht' hg) (undo_H x.id (some x) hb (by rw [hl]; unfold cntO; cases e : (byK Ho.id S.hol x.id).isSome <;> simp) by_pos)
    exact ⟨v, rfl, (hl0.toH ht' hg).c.2.2.1, ⟨block_cell q1 0, block_cell q1 1, block_cell q1 2⟩, hs.1, (Fl.below hb0).trans hs.2, ⟨hx, gb⟩, q1⟩
  have HNW : Hid (∀ w1 v, Hid (Mid B p a b w0 Z0 S0 n (.H x.id (byK Ho.id S.hol x.id)) w w.heap.size (.cells x.arr 83 (0, 0)) v w1 { S with hol := l }) → Calls Try.prog 48 #[.pointer (some ⟨p, 324, none⟩), v] w1 fun e w' => e = .returned (.tuple #[]) ∧ w'.cell? ⟨p, 2, none⟩ = some (.map (some b)) ∧ (w'.cell? ⟨w.heap.size, 0, none⟩ = some (.int .u64 (x.id : Nat)) ∧ w'.cell? ⟨w.heap.size, 1, none⟩ = some (.int .u64 (x.fr : Nat)) ∧ w'.cell? ⟨w.heap.size, 2, none⟩ = some (.int .u64 (x.am : Nat))) ∧ Hid (Run B p a b w0 Z0 S0 (n + 1) w' { S with hol := l } ∧ Fl w w')) := fun w1 v hG => by
    refine (noteM rfl ⟨by decide, by decide, by decide⟩ hr hG.out).mono ?_
    rintro e w' ⟨rfl, ⟨_, q1, q2⟩, G⟩
    exact ⟨rfl, q1, ⟨block_cell q2 0, block_cell q2 1, block_cell q2 2⟩, G⟩
  have g0 : ((x.am : Int) == 0) = false := by simp; omega
  clear h hn hx hb hl hz hlg hr
  unfold Ho.arr at *
  generalize (x.id : Int) = X0 at *
  generalize (x.fr : Int) = X1 at *
  generalize (x.am : Int) = X2 at *
  go_enter Try.func51, Try.ntmps51
  go_wp2_with fail
  go_region_held (fun w' => w'.cell? ⟨p, 2, none⟩ = some (.map (some b)) ∧ (w'.cell? ⟨w.heap.size, 0, none⟩ = some (.int .u64 X0) ∧ w'.cell? ⟨w.heap.size, 1, none⟩ = some (.int .u64 X1) ∧ w'.cell? ⟨w.heap.size, 2, none⟩ = some (.int .u64 X2))) (go_keep)
    (first | (go_at_call 64; refine HP.out.mono ?_; rintro e w1 ⟨v, rfl, h1, h2, HG⟩; have HN := hide (HNW.out _ _ HG)) | (go_at_call 48; refine HN.out.mono ?_; rintro e w2 ⟨rfl, h3, h4, HE⟩))
  go_wp2
  go_end0
  exact ⟨rfl, HE⟩
set_option maxRecDepth 10000 in
set_option maxHeartbeats 1600000 in
/-- A hold that has nothing left is gone. -/
theorem setHoldZM (h : Run B p a b w0 Z0 S0 n w S) (hr : n < 999) (hu : UpK Ho.id S.hol) (x : Ho) (hx : x.id < 18446744073709551616) (hz : x.am = 0) {y : Ho} (hy : byK Ho.id S.hol x.id = some y) :
    Calls Try.prog 51 #[.pointer (some ⟨p, 0, none⟩), .agg x.arr] w fun e w' => e = .returned (.tuple #[]) ∧ Hid (Run B p a b w0 Z0 S0 (n + 1) w' { S with hol := remK Ho.id S.hol x.id } ∧ Fl w w') := by
  obtain ⟨mk, ch, hlg⟩ := h.lg
  have c1 := hlg.c.2.2.1
  have cl := hlg.lt.1
  have HP : Hid (Calls Try.prog 63 #[.map (some b), .int .u64 (x.id : Nat)] (w.alloc (.cells x.arr 83)).drew fun e w' => ∃ v, e = .returned v ∧ w'.cell? ⟨p, 2, none⟩ = some (.map (some b)) ∧ (w'.cell? ⟨w.heap.size, 0, none⟩ = some (.int .u64 (x.id : Nat)) ∧ w'.cell? ⟨w.heap.size, 1, none⟩ = some (.int .u64 (x.fr : Nat)) ∧ w'.cell? ⟨w.heap.size, 2, none⟩ = some (.int .u64 (x.am : Nat))) ∧ Hid (Mid B p a b w0 Z0 S0 n (.H x.id (byK Ho.id S.hol x.id)) w w.heap.size (.cells x.arr 83 (0, 0)) v w' { S with hol := remK Ho.id S.hol x.id })) := by
    have hb0 : Below w.heap.size w (w.alloc (.cells x.arr 83)).drew := ((Below.refl _ w).alloc (Nat.le_refl _) _).drew
    have h0 := h.kept hb0
    have hl0 := hlg.kept hb0
    have q0 : (w.alloc (.cells x.arr 83)).drew.heap[w.heap.size]? = some (.cells x.arr 83 (0, 0)) := alloc_atK _ _
    have hlen := remK_len hu (x := x.id) (by rw [hy]; rfl)
    refine (dropH (n := (remK Ho.id S.hol x.id).length) (by rw [hlen]; exact hl0.hol) hx hy).mono ?_
    rintro e w' ⟨v, rfl, G⟩
    obtain ⟨gb, ht, hg⟩ := G.out
    have ht' : THm w' b (remK Ho.id S.hol x.id).length (byK Ho.id (remK Ho.id S.hol x.id)) := ht.congr rfl (fun y => (byK_rem _ _ y).symm)
    have hne : w.heap.size ≠ b := fun e => by have := hlg.lt.2.2; omega
    have q1 := (hg.block _ (block_lt q0) (fun e => hne (Option.some.inj e))).trans q0
    have hs := h0.step (S' := { S with hol := remK Ho.id S.hol x.id }) (ex' := [.H x.id (byK Ho.id S.hol x.id)]) hg (fun q e => .inr (.inr (Option.some.inj e).symm)) (fun mk' ch' hl' => hl'.toH ht' hg) (undo_H x.id none (fun y => byK_rem _ _ y) (by unfold cntO; rw [hy]; simp; omega) by_pos)
    exact ⟨v, rfl, (hl0.toH ht' hg).c.2.2.1, ⟨block_cell q1 0, block_cell q1 1, block_cell q1 2⟩, hs.1, (Fl.below hb0).trans hs.2, ⟨hx, gb⟩, q1⟩
  have HNW : Hid (∀ w1 v, Hid (Mid B p a b w0 Z0 S0 n (.H x.id (byK Ho.id S.hol x.id)) w w.heap.size (.cells x.arr 83 (0, 0)) v w1 { S with hol := remK Ho.id S.hol x.id }) → Calls Try.prog 48 #[.pointer (some ⟨p, 324, none⟩), v] w1 fun e w' => e = .returned (.tuple #[]) ∧ w'.cell? ⟨p, 2, none⟩ = some (.map (some b)) ∧ (w'.cell? ⟨w.heap.size, 0, none⟩ = some (.int .u64 (x.id : Nat)) ∧ w'.cell? ⟨w.heap.size, 1, none⟩ = some (.int .u64 (x.fr : Nat)) ∧ w'.cell? ⟨w.heap.size, 2, none⟩ = some (.int .u64 (x.am : Nat))) ∧ Hid (Run B p a b w0 Z0 S0 (n + 1) w' { S with hol := remK Ho.id S.hol x.id } ∧ Fl w w')) := fun w1 v hG => by
    refine (noteM rfl ⟨by decide, by decide, by decide⟩ hr hG.out).mono ?_
    rintro e w' ⟨rfl, ⟨_, q1, q2⟩, G⟩
    exact ⟨rfl, q1, ⟨block_cell q2 0, block_cell q2 1, block_cell q2 2⟩, G⟩
  have g0 : ((x.am : Int) == 0) = true := by simp; omega
  clear h hu hx hy hz hlg hr
  unfold Ho.arr at *
  generalize (x.id : Int) = X0 at *
  generalize (x.fr : Int) = X1 at *
  generalize (x.am : Int) = X2 at *
  go_enter Try.func51, Try.ntmps51
  go_wp2_with fail
  go_region_held (fun w' => w'.cell? ⟨p, 2, none⟩ = some (.map (some b)) ∧ (w'.cell? ⟨w.heap.size, 0, none⟩ = some (.int .u64 X0) ∧ w'.cell? ⟨w.heap.size, 1, none⟩ = some (.int .u64 X1) ∧ w'.cell? ⟨w.heap.size, 2, none⟩ = some (.int .u64 X2))) (go_keep)
    (first | (go_at_call 63; refine HP.out.mono ?_; rintro e w1 ⟨v, rfl, h1, h2, HG⟩; have HN := hide (HNW.out _ _ HG)) | (go_at_call 48; refine HN.out.mono ?_; rintro e w2 ⟨rfl, h3, h4, HE⟩))
  go_wp2
  refine bodyPost_ret (results_none rfl _ _ _) rfl ?_
  exact ⟨rfl, HE⟩
/-- setHold of a hold that is there. -/
theorem setHoldM (h : Run B p a b w0 Z0 S0 n w S) (hr : n < 999) (hok : S.Ok) (x : Ho) (hx : x.id < 18446744073709551616) {y : Ho} (hy : byK Ho.id S.hol x.id = some y) :
    Calls Try.prog 51 #[.pointer (some ⟨p, 0, none⟩), .agg x.arr] w fun e w' => e = .returned (.tuple #[]) ∧ Hid (Run B p a b w0 Z0 S0 (n + 1) w' (S.setH x) ∧ Fl w w') := by
  by_cases hz : x.am = 0
  · have e : S.setH x = { S with hol := remK Ho.id S.hol x.id } := by unfold LS.setH; rw [if_pos hz]
    rw [e]
    exact setHoldZM h hr hok.uh x hx hz hy
  · have e : S.setH x = { S with hol := repK Ho.id S.hol x } := by unfold LS.setH; rw [if_neg hz]
    rw [e]
    exact setHoldNM h hr hok.lh x hx hz (byK_rep (by rw [hy]; rfl)) (by rw [repK_len, hy]; rfl)
/-- setAccount of an account that is there. -/
theorem setAccEM (h : Run B p a b w0 Z0 S0 n w S) (hr : n < 999) (hok : S.Ok) (x : Ac) (hx : x.id < 18446744073709551616) {y : Ac} (hy : byK Ac.id S.acc x.id = some y) :
    Calls Try.prog 45 #[.pointer (some ⟨p, 0, none⟩), .agg x.arr] w fun e w' => e = .returned (.tuple #[]) ∧ Hid (Run B p a b w0 Z0 S0 (n + 1) w' (S.setA x) ∧ Fl w w') :=
  setAccM h hr hok.la x hx (byK_rep (by rw [hy]; rfl)) (by rw [repK_len, hy]; rfl)
end
end Go.Proofs.Ytcfenjpdjogmdaa
namespace Go.Proofs.Ytcfenjpdjogmdaa
open Go.RowKit

set_option maxRecDepth 10000 in
set_option maxHeartbeats 3200000 in
theorem createM {w : World} {B p a b : Nat} {Z : SZ} {S : LS} (hM : LM w B p a b Z S) (hz0 : Z.cs.length ≤ 100000000000) (hok : S.Ok) {id ow cp : Nat} (hi : id < 18446744073709551616) (ho : ow < 18446744073709551616) (hc : cp < 18446744073709551616) {c : Nat} {S' : LS} (hS : S.creates id ow cp = (c, S')) :
    Calls Try.prog 20 #[.pointer (some ⟨p, 0, none⟩), .int .u64 (id : Nat), .int .u64 (ow : Nat), .int .u64 (cp : Nat)] w fun e w' => e = .returned (.int .i64 (c : Nat)) ∧ Hid (Run B p a b w Z S 48 w' S') := by
  have h := hM.lg
  have hR0 := Run.start hM hz0
  clear hM hz0
  have HS := hide hS
  clear hS
  have c1 := h.c.2.1
  have cl := h.lt.1
  have HM := hide (madeG h)
  have hlk := h.acc.look_ok hi
  obtain ⟨old, hold⟩ : ∃ old, byK Ac.id S.acc id = old := ⟨_, rfl⟩
  obtain ⟨W1, hW1⟩ : ∃ W1, w.alloc (.cells (old.getD Ac.zero).arr 80) = W1 := ⟨_, rfl⟩
  have b1 : Below w.heap.size w W1 := by rw [← hW1]; exact (Below.refl _ w).alloc (Nat.le_refl _) _
  have h1 := h.kept b1
  have f1 := hR0.kept b1
  clear hR0
  have d1 := h1.c.2.1
  have dl := h1.lt.1
  obtain ⟨n, hn⟩ : ∃ n, S.acc.length = n := ⟨_, rfl⟩
  have hlen := h1.acc.len 3
  rw [hn] at hlen
  have HL := hide h1
  have HO := hide hok
  have HF1 := hide f1
  have HW1 := hide hW1
  have HOLD := hide hold
  have HN := hide hn
  have HFU := hide (fullG h1 hok 1 (by decide))
  have HI := hide (And.intro hi (And.intro ho hc))
  rw [hold] at hlk
  clear h hok b1 h1 f1 hW1 hold hn hi ho hc
  unfold Ac.arr at hlk HW1
  go_enter Try.func20, Try.ntmps20
  go_wp2_with fail
  refine HM.out.mono ?_
  rintro e w1 ⟨rfl, rfl⟩
  clear HM
  go_upto_region 4 with fail
  rw [HW1.out]
  clear HW1 hlk c1 cl
  by_cases h0 : id = 0
  · have e : S.creates id ow cp = (40, S) := by unfold LS.creates; rw [if_pos h0]
    have HR := hide (pair_inv (e.symm.trans HS.out))
    have HE : Hid (Run B p a b w1 Z S 48 W1 S) := HF1.out.le (by omega)
    subst h0
    clear e HFU
    go_wp2
    go_ret
    exact ⟨by rw [HR.out.1]; rfl, by rw [HR.out.2]; exact HE.out⟩
  have g0 : ((id : Int) == 0) = false := by simp; omega
  rcases old with _ | y
  · by_cases hln : 64 ≤ n
    · have e : S.creates id ow cp = (43, S) := by unfold LS.creates; rw [if_neg h0, HOLD.out, if_neg (by simp), HN.out, if_pos (.inl hln)]
      have HR := hide (pair_inv (e.symm.trans HS.out))
      have HE : Hid (Run B p a b w1 Z S 48 W1 S) := HF1.out.le (by omega)
      have g1 : decide ((n : Int) ≥ 64) = true := decide_eq_true (by omega)
      clear e HFU h0
      go_wp2
      go_ret
      exact ⟨by rw [HR.out.1]; rfl, by rw [HR.out.2]; exact HE.out⟩
    have g1 : decide ((n : Int) ≥ 64) = false := decide_eq_false (by omega)
    have g1' : decide ((64 : Int) ≤ (n : Int)) = false := decide_eq_false (by omega)
    by_cases hf : S.full 1 = true
    · have e : S.creates id ow cp = (43, S) := by unfold LS.creates; rw [if_neg h0, HOLD.out, if_neg (by simp), HN.out, if_pos (.inr hf)]
      have HR := hide (pair_inv (e.symm.trans HS.out))
      rw [hf] at HFU
      have HE : Hid (Run B p a b w1 Z S 48 W1 S) := HF1.out.le (by omega)
      clear e h0 hln hf
      go_wp2_with fail
      refine HFU.out.mono ?_
      rintro e w2 ⟨rfl, rfl⟩
      go_wp2
      go_ret
      exact ⟨by rw [HR.out.1]; rfl, by rw [HR.out.2]; exact HE.out⟩
    · have e : S.creates id ow cp = (0, ({ S with acc := insK Ac.id S.acc ⟨id, ow, 0, cp⟩ } : LS).line 1 id 0 cp) := by unfold LS.creates; rw [if_neg h0, HOLD.out, if_neg (by simp), HN.out, if_neg (by rw [not_or]; exact ⟨hln, hf⟩)]
      have HR := hide (pair_inv (e.symm.trans HS.out))
      have hf' : S.full 1 = false := by simpa using hf
      rw [hf'] at HFU
      have hins : ∀ y, byK Ac.id (insK Ac.id S.acc ⟨id, ow, 0, cp⟩) y = if y = (⟨id, ow, 0, cp⟩ : Ac).id then some ⟨id, ow, 0, cp⟩ else byK Ac.id S.acc y := byK_ins HOLD.out
      have HSA := hide (setAccM HF1.out (by omega) (by rw [HN.out]; omega) ⟨id, ow, 0, cp⟩ HI.out.1 hins (by rw [insK_len, HOLD.out]; rfl))
      have HO2 : Hid (({ S with acc := insK Ac.id S.acc ⟨id, ow, 0, cp⟩ } : LS).Ok) := HO.out.insA (a := ⟨id, ow, 0, cp⟩) ⟨HI.out.1, HI.out.2.1, by show 0 < _; decide, HI.out.2.2⟩ (Nat.zero_le _) h0 HOLD.out (by rw [HN.out]; omega)
      clear e h0 hln hf hf' hins
      go_wp2_with fail
      refine HFU.out.mono ?_
      rintro e w2 ⟨rfl, rfl⟩
      clear HFU
      go_wp2_with fail
      refine HSA.out.mono ?_
      rintro e w3 ⟨rfl, G3⟩
      have HLW := hide (lwriteM G3.out.1 (by omega) HO2.out 1 id 0 cp)
      clear HSA G3 hlen d1 dl
      go_wp2_with fail
      refine HLW.out.mono ?_
      rintro e w4 ⟨rfl, G4⟩
      have HE : Hid (Run B p a b w1 Z S 48 w4 (({ S with acc := insK Ac.id S.acc ⟨id, ow, 0, cp⟩ } : LS).line 1 id 0 cp)) := G4.out.1.le (by omega)
      clear HLW G4
      go_wp2
      go_ret
      exact ⟨by rw [HR.out.1]; rfl, by rw [HR.out.2]; exact HE.out⟩
  · have e : S.creates id ow cp = (41, S) := by unfold LS.creates; rw [if_neg h0, HOLD.out, if_pos (show (some y).isSome = true from rfl)]
    have HR := hide (pair_inv (e.symm.trans HS.out))
    have HE : Hid (Run B p a b w1 Z S 48 W1 S) := HF1.out.le (by omega)
    clear e HFU h0
    go_wp2
    go_ret
    exact ⟨by rw [HR.out.1]; rfl, by rw [HR.out.2]; exact HE.out⟩
set_option maxRecDepth 10000 in
set_option maxHeartbeats 6400000 in
theorem closeM {w : World} {B p a b : Nat} {Z : SZ} {S : LS} (hM : LM w B p a b Z S) (hz0 : Z.cs.length ≤ 100000000000) (hok : S.Ok) {id : Nat} (hi : id < 18446744073709551616) {c : Nat} {S' : LS} (hS : S.closes id = (c, S')) :
    Calls Try.prog 21 #[.pointer (some ⟨p, 0, none⟩), .int .u64 (id : Nat)] w fun e w' => e = .returned (.int .i64 (c : Nat)) ∧ Hid (Run B p a b w Z S 48 w' S') := by
  have h := hM.lg
  have hR0 := Run.start hM hz0
  clear hM hz0
  have HS := hide hS
  have c1 := h.c.2.1
  have cl := h.lt.1
  have HM := hide (madeG h)
  have hlk := h.acc.look_ok hi
  obtain ⟨oa, hoa⟩ : ∃ oa, byK Ac.id S.acc id = oa := ⟨_, rfl⟩
  obtain ⟨W1, hW1⟩ : ∃ W1, w.alloc (.cells (oa.getD Ac.zero).arr 80) = W1 := ⟨_, rfl⟩
  have b1 : Below w.heap.size w W1 := by rw [← hW1]; exact (Below.refl _ w).alloc (Nat.le_refl _) _
  have q1 : W1.heap[w.heap.size]? = some (.cells (oa.getD Ac.zero).arr 80 (0, 0)) := by rw [← hW1]; exact alloc_atK _ _
  have h1 := h.kept b1
  have f1 := hR0.kept b1
  clear hR0
  have el := h1.lt.1
  have HL := hide h1
  have HO := hide hok
  have HF1 := hide f1
  have HW1 := hide hW1
  have HA := hide hoa
  have HQ1 := hide q1
  have HI := hide hi
  have HHO := hide (holdsOfG h1 hok id)
  rw [hoa] at hlk
  clear h hok b1 h1 f1 hW1 hoa hi q1 hS
  unfold Ac.arr at hlk HW1 HQ1
  go_enter Try.func21, Try.ntmps21
  go_wp2_with fail
  refine HM.out.mono ?_
  rintro e w1 ⟨rfl, rfl⟩
  clear HM
  go_upto_region 4 with fail
  rw [HW1.out]
  clear HW1 hlk c1 cl
  by_cases h0 : id = 0
  · have e : S.closes id = (40, S) := by unfold LS.closes; rw [if_pos h0]
    have HR := hide (pair_inv (e.symm.trans HS.out))
    have HE : Hid (Run B p a b w1 Z S 48 W1 S) := HF1.out.le (by omega)
    clear e HHO
    subst h0
    go_wp2
    go_ret
    exact ⟨by rw [HR.out.1]; rfl, by rw [HR.out.2]; exact HE.out⟩
  have g0 : ((id : Int) == 0) = false := by simp; omega
  rcases oa with _ | y
  · have e : S.closes id = (42, S) := by unfold LS.closes; rw [if_neg h0, HA.out]
    have HR := hide (pair_inv (e.symm.trans HS.out))
    have HE : Hid (Run B p a b w1 Z S 48 W1 S) := HF1.out.le (by omega)
    clear e h0 HHO
    go_wp2
    go_ret
    exact ⟨by rw [HR.out.1]; rfl, by rw [HR.out.2]; exact HE.out⟩
  have x2 := block_cell HQ1.out 2
  have xl := block_lt HQ1.out
  simp at x2
  by_cases hb : y.ba = 0
  rotate_left
  · have g1 : ((y.ba : Int) == 0) = false := by simp; omega
    have g1' : ((y.ba : Int) != 0) = true := by simp; omega
    have e : S.closes id = (48, S) := by unfold LS.closes; rw [if_neg h0, HA.out]; dsimp only; rw [if_pos (.inl hb)]
    have HR := hide (pair_inv (e.symm.trans HS.out))
    have HE : Hid (Run B p a b w1 Z S 48 W1 S) := HF1.out.le (by omega)
    clear e h0 hb HHO
    go_wp2
    go_ret
    exact ⟨by rw [HR.out.1]; rfl, by rw [HR.out.2]; exact HE.out⟩
  have g1 : ((y.ba : Int) == 0) = true := by simp; omega
  have g1' : ((y.ba : Int) != 0) = false := by simp; omega
  obtain ⟨any, hany⟩ : ∃ any, (S.hol.any (fun h => h.fr == id)) = any := ⟨_, rfl⟩
  rw [hany] at HHO
  have HANY := hide hany
  rcases any with _ | _
  rotate_left
  · have e : S.closes id = (48, S) := by unfold LS.closes; rw [if_neg h0, HA.out]; dsimp only; rw [if_pos (.inr HANY.out)]
    have HR := hide (pair_inv (e.symm.trans HS.out))
    clear e h0 hb hany
    go_wp2_with fail
    refine HHO.out.mono ?_
    rintro e w3 ⟨rfl, G3⟩
    have HE : Hid (Run B p a b w1 Z S 48 w3 S) := (HF1.out.kept G3.out).le (by omega)
    go_wp2
    go_ret
    exact ⟨by rw [HR.out.1]; rfl, by rw [HR.out.2]; exact HE.out⟩
  have hno : ¬ (y.ba ≠ 0 ∨ S.hol.any (fun h => h.fr == id) = true) := by rw [HANY.out]; simp [hb]
  by_cases hfl : S.full 1 = true
  · have e : S.closes id = (43, S) := by unfold LS.closes; rw [if_neg h0, HA.out]; dsimp only; rw [if_neg hno, if_pos hfl]
    have HR := hide (pair_inv (e.symm.trans HS.out))
    clear e h0 hb hany hno
    go_wp2_with fail
    refine HHO.out.mono ?_
    rintro e w3 ⟨rfl, G3⟩
    have h3 := HL.out.kept G3.out
    have HFU := hide (fullG h3 HO.out 1 (by decide))
    rw [hfl] at HFU
    have HE : Hid (Run B p a b w1 Z S 48 w3 S) := (HF1.out.kept G3.out).le (by omega)
    have el := h3.lt.1
    clear hfl h3
    go_wp2_with fail
    refine HFU.out.mono ?_
    rintro e w4 ⟨rfl, rfl⟩
    go_wp2
    go_ret
    exact ⟨by rw [HR.out.1]; rfl, by rw [HR.out.2]; exact HE.out⟩
  have hfl' : S.full 1 = false := by simpa using hfl
  have e : S.closes id = (0, ({ S with acc := remK Ac.id S.acc id } : LS).line 2 id 0 0) := by unfold LS.closes; rw [if_neg h0, HA.out]; dsimp only; rw [if_neg hno, if_neg hfl]
  have HR := hide (pair_inv (e.symm.trans HS.out))
  have HFL := hide hfl'
  clear e h0 hb hany hno hfl hfl'
  go_wp2_with fail
  refine HHO.out.mono ?_
  rintro e w3 ⟨rfl, G3⟩
  have h3 := HL.out.kept G3.out
  have HL3 := hide h3
  have HF3 := hide (HF1.out.kept G3.out)
  have HFU := hide (fullG h3 HO.out 1 (by decide))
  rw [HFL.out] at HFU
  have el := h3.lt.1
  clear HHO G3 h3 HL HF1 x2 xl HQ1 g0 g1 g1'
  go_wp2_with fail
  refine HFU.out.mono ?_
  rintro e w4 ⟨rfl, rfl⟩
  clear HFU
  have c1 := HL3.out.c.2.1
  have HP : Hid (Calls Try.prog 49 #[.map (some a), .int .u64 (id : Nat)] w4.drew fun e w' => ∃ v, e = .returned v ∧ w'.cell? ⟨p, 1, none⟩ = some (.map (some a)) ∧ Hid (RunX B p a b w1 Z S 0 [.A id (byK Ac.id S.acc id)] w' { S with acc := remK Ac.id S.acc id } ∧ Bk.Ok w' p a b (.A id (byK Ac.id S.acc id)) v)) := by
    have hb0 : Below w4.heap.size w4 w4.drew := (Below.refl _ _).drew
    have h0 := HF3.out.kept hb0
    have hl0 := HL3.out.kept hb0
    have hlen := remK_len HO.out.ua (x := id) (by rw [HA.out]; rfl)
    refine (dropA (n := (remK Ac.id S.acc id).length) (by rw [hlen]; exact hl0.acc) HI.out HA.out).mono ?_
    rintro e w' ⟨v, rfl, G⟩
    obtain ⟨gb, ht, hg⟩ := G.out
    have ht' : TAm w' a (remK Ac.id S.acc id).length (byK Ac.id (remK Ac.id S.acc id)) := ht.congr rfl (fun y => (byK_rem _ _ y).symm)
    have hs := h0.step (S' := { S with acc := remK Ac.id S.acc id }) (ex' := [.A id (byK Ac.id S.acc id)]) hg (fun q e => .inr (.inl (Option.some.inj e).symm)) (fun mk' ch' hl' => hl'.toA ht' hg) (undo_A id none (fun y => byK_rem _ _ y) (by unfold cntO; rw [HA.out]; simp; omega) by_pos)
    exact ⟨v, rfl, (hl0.toA ht' hg).c.2.1, hs.1, HI.out, gb⟩
  have HNW : Hid (∀ w5 v, Hid (RunX B p a b w1 Z S 0 [.A id (byK Ac.id S.acc id)] w5 { S with acc := remK Ac.id S.acc id } ∧ Bk.Ok w5 p a b (.A id (byK Ac.id S.acc id)) v) → Calls Try.prog 48 #[.pointer (some ⟨p, 324, none⟩), v] w5 fun e w' => e = .returned (.tuple #[]) ∧ w'.cell? ⟨p, 1, none⟩ = some (.map (some a)) ∧ Hid (Run B p a b w1 Z S (0 + 1) w' { S with acc := remK Ac.id S.acc id })) := fun w5 v hG => by
    refine (noteX hG.out.1 (by omega) hG.out.2).mono ?_
    rintro e w' ⟨rfl, G⟩
    obtain ⟨mk, ch, hl⟩ := G.out.1.lg
    exact ⟨rfl, hl.c.2.1, G.out.1⟩
  go_upto_region 12 with fail
  go_region_held (fun w' => w'.cell? ⟨p, 1, none⟩ = some (.map (some a))) (go_keep)
    (first | (go_at_call 49; refine HP.out.mono ?_; rintro e w5 ⟨v, rfl, h1, HG⟩; have HN := hide (HNW.out _ _ HG)) | (go_at_call 48; refine HN.out.mono ?_; rintro e w6 ⟨rfl, h3, HG6⟩))
  have HO7 : Hid (({ S with acc := remK Ac.id S.acc id } : LS).Ok) := HO.out.remA id
  have HLW := hide (lwriteM HG6.out (by omega) HO7.out 2 id 0 0)
  clear HP HN HL3 HF3 h1 h3 HG HG6 c1 HNW
  go_wp2_with fail
  refine HLW.out.mono ?_
  rintro e w8 ⟨rfl, G8⟩
  have HE : Hid (Run B p a b w1 Z S 48 w8 S') := by
    rw [HR.out.2]
    exact G8.out.1.le (by omega)
  clear HLW G8
  go_wp2
  go_ret
  exact ⟨by rw [HR.out.1]; rfl, HE.out⟩
end Go.Proofs.Ytcfenjpdjogmdaa
namespace Go.Proofs.Ytcfenjpdjogmdaa
open Go.RowKit

set_option maxRecDepth 10000 in
set_option maxHeartbeats 6400000 in
theorem holdM {w : World} {B p a b : Nat} {Z : SZ} {S : LS} (hM : LM w B p a b Z S) (hz0 : Z.cs.length ≤ 100000000000) (hok : S.Ok) {x f m : Nat} (hx : x < 18446744073709551616) (hf : f < 18446744073709551616) (hm : m < 18446744073709551616) {c : Nat} {S' : LS} (hS : S.holds x f m = (c, S')) :
    Calls Try.prog 23 #[.pointer (some ⟨p, 0, none⟩), .int .u64 (x : Nat), .int .u64 (f : Nat), .int .u64 (m : Nat)] w fun e w' => e = .returned (.int .i64 (c : Nat)) ∧ Hid (Run B p a b w Z S 48 w' S') := by
  have h := hM.lg
  have hR0 := Run.start hM hz0
  clear hM hz0
  have HS := hide hS
  have c2 := h.c.2.2.1
  have cl := h.lt.1
  have HM := hide (madeG h)
  have hlk := h.hol.look_ok hx
  obtain ⟨oa, hoa⟩ : ∃ oa, byK Ho.id S.hol x = oa := ⟨_, rfl⟩
  obtain ⟨ob, hob⟩ : ∃ ob, byK Ac.id S.acc f = ob := ⟨_, rfl⟩
  obtain ⟨W1, hW1⟩ : ∃ W1, w.alloc (.cells (oa.getD Ho.zero).arr 83) = W1 := ⟨_, rfl⟩
  have b1 : Below w.heap.size w W1 := by rw [← hW1]; exact (Below.refl _ w).alloc (Nat.le_refl _) _
  have s1 : W1.heap.size = w.heap.size + 1 := by rw [← hW1]; simp
  have h1 := h.kept b1
  have hlk1 := h1.acc.look_ok hf
  have d1 := h1.c.2.1
  have dl := h1.lt.1
  obtain ⟨W2, hW2⟩ : ∃ W2, W1.alloc (.cells (ob.getD Ac.zero).arr 80) = W2 := ⟨_, rfl⟩
  have b2 : Below W1.heap.size W1 W2 := by rw [← hW2]; exact (Below.refl _ W1).alloc (Nat.le_refl _) _
  have q2 : W2.heap[W1.heap.size]? = some (.cells (ob.getD Ac.zero).arr 80 (0, 0)) := by rw [← hW2]; exact alloc_atK _ _
  have h2 := h1.kept b2
  have bb := b1.trans (b2.mono b1.size)
  have f2 := hR0.kept bb
  have HR0 := hide hR0
  have HBB := hide bb
  clear hR0
  have e2 := h2.c.2.2.1
  have el := h2.lt.1
  obtain ⟨n, hn⟩ : ∃ n, S.hol.length = n := ⟨_, rfl⟩
  have hlen := h2.hol.len 3
  rw [hn] at hlen
  have HL := hide h2
  have HO := hide hok
  have HN := hide hn
  have HF2 := hide f2
  have HW1 := hide hW1
  have HW2 := hide hW2
  have HA := hide hoa
  have HB := hide hob
  have HQ2 := hide q2
  have HS1 := hide s1
  have HI := hide (And.intro hx (And.intro hf hm))
  have HLT := hide h.lt
  have HFU := hide (fullG h2 hok 1 (by decide))
  rw [hoa] at hlk
  rw [hob] at hlk1
  clear h hok b1 b2 bb h1 h2 f2 hW1 hW2 hoa hob hf hx hm q2 s1 hS hn
  unfold Ho.arr at hlk HW1
  unfold Ac.arr at hlk1 HW2 HQ2
  go_enter Try.func23, Try.ntmps23
  go_wp2_with fail
  refine HM.out.mono ?_
  rintro e w1 ⟨rfl, rfl⟩
  clear HM
  go_upto_region 4 with fail
  rw [HW1.out]
  clear HW1 hlk c2 cl
  go_upto_region 5 with fail
  rw [HW2.out]
  clear HW2 hlk1 d1 dl
  by_cases h0 : x = 0
  · have e : S.holds x f m = (40, S) := by unfold LS.holds; rw [if_pos (.inl h0)]
    have HR := hide (pair_inv (e.symm.trans HS.out))
    have HE : Hid (Run B p a b w1 Z S 48 W2 S) := HF2.out.le (by omega)
    clear e HFU
    subst h0
    go_wp2
    go_ret
    exact ⟨by rw [HR.out.1]; rfl, by rw [HR.out.2]; exact HE.out⟩
  have g0 : ((x : Int) == 0) = false := by simp; omega
  by_cases h1 : f = 0
  · have e : S.holds x f m = (40, S) := by unfold LS.holds; rw [if_pos (.inr h1)]
    have HR := hide (pair_inv (e.symm.trans HS.out))
    have HE : Hid (Run B p a b w1 Z S 48 W2 S) := HF2.out.le (by omega)
    clear e HFU
    subst h1
    go_wp2
    go_ret
    exact ⟨by rw [HR.out.1]; rfl, by rw [HR.out.2]; exact HE.out⟩
  have g1 : ((f : Int) == 0) = false := by simp; omega
  have hz : ¬ (x = 0 ∨ f = 0) := by omega
  rcases oa with _ | y
  rotate_left
  · have e : S.holds x f m = (41, S) := by unfold LS.holds; rw [if_neg hz, HA.out, if_pos (show (some y).isSome = true from rfl)]
    have HR := hide (pair_inv (e.symm.trans HS.out))
    have HE : Hid (Run B p a b w1 Z S 48 W2 S) := HF2.out.le (by omega)
    clear e hz h0 h1 HFU
    go_wp2
    go_ret
    exact ⟨by rw [HR.out.1]; rfl, by rw [HR.out.2]; exact HE.out⟩
  rcases ob with _ | z
  · have e : S.holds x f m = (42, S) := by unfold LS.holds; rw [if_neg hz, HA.out, if_neg (by simp), HB.out]
    have HR := hide (pair_inv (e.symm.trans HS.out))
    have HE : Hid (Run B p a b w1 Z S 48 W2 S) := HF2.out.le (by omega)
    clear e hz h0 h1 HFU
    go_wp2
    go_ret
    exact ⟨by rw [HR.out.1]; rfl, by rw [HR.out.2]; exact HE.out⟩
  by_cases hm0 : m = 0
  · have e : S.holds x f m = (44, S) := by unfold LS.holds; rw [if_neg hz, HA.out, if_neg (by simp), HB.out]; dsimp only; rw [if_pos hm0]
    have HR := hide (pair_inv (e.symm.trans HS.out))
    have HE : Hid (Run B p a b w1 Z S 48 W2 S) := HF2.out.le (by omega)
    clear e hz h0 h1 HFU
    subst hm0
    go_wp2
    go_ret
    exact ⟨by rw [HR.out.1]; rfl, by rw [HR.out.2]; exact HE.out⟩
  have g3 : ((m : Int) == 0) = false := by simp; omega
  have y0 := block_cell HQ2.out 0
  have y1 := block_cell HQ2.out 1
  have y2 := block_cell HQ2.out 2
  have y3 := block_cell HQ2.out 3
  have yl := block_lt HQ2.out
  have yf := block_free HQ2.out 2
  simp at y0 y1 y2 y3
  by_cases hfu : z.ba < m
  · have g4 : decide (z.ba < m) = true := decide_eq_true hfu
    have e : S.holds x f m = (46, S) := by unfold LS.holds; rw [if_neg hz, HA.out, if_neg (by simp), HB.out]; dsimp only; rw [if_neg hm0, if_pos hfu]
    have HR := hide (pair_inv (e.symm.trans HS.out))
    have HE : Hid (Run B p a b w1 Z S 48 W2 S) := HF2.out.le (by omega)
    clear e hz h0 h1 hm0 hfu HFU
    go_wp2
    go_ret
    exact ⟨by rw [HR.out.1]; rfl, by rw [HR.out.2]; exact HE.out⟩
  have g4 : decide (z.ba < m) = false := decide_eq_false hfu
  by_cases hln : 64 ≤ n
  · have g5 : decide ((n : Int) ≥ 64) = true := decide_eq_true (by omega)
    have g5' : decide ((64 : Int) ≤ (n : Int)) = true := decide_eq_true (by omega)
    have e : S.holds x f m = (43, S) := by unfold LS.holds; rw [if_neg hz, HA.out, if_neg (by simp), HB.out]; dsimp only; rw [if_neg hm0, if_neg hfu, HN.out, if_pos (.inl hln)]
    have HR := hide (pair_inv (e.symm.trans HS.out))
    have HE : Hid (Run B p a b w1 Z S 48 W2 S) := HF2.out.le (by omega)
    clear e hz h0 h1 hm0 hfu HFU
    go_wp2
    go_ret
    exact ⟨by rw [HR.out.1]; rfl, by rw [HR.out.2]; exact HE.out⟩
  have g5 : decide ((n : Int) ≥ 64) = false := decide_eq_false (by omega)
  have g5' : decide ((64 : Int) ≤ (n : Int)) = false := decide_eq_false (by omega)
  by_cases hfl : S.full 1 = true
  · have e : S.holds x f m = (43, S) := by unfold LS.holds; rw [if_neg hz, HA.out, if_neg (by simp), HB.out]; dsimp only; rw [if_neg hm0, if_neg hfu, HN.out, if_pos (.inr hfl)]
    have HR := hide (pair_inv (e.symm.trans HS.out))
    have HE : Hid (Run B p a b w1 Z S 48 W2 S) := HF2.out.le (by omega)
    rw [hfl] at HFU
    clear e hz h0 h1 hm0 hfu hfl
    go_wp2_with fail
    refine HFU.out.mono ?_
    rintro e w4 ⟨rfl, rfl⟩
    go_wp2
    go_ret
    exact ⟨by rw [HR.out.1]; rfl, by rw [HR.out.2]; exact HE.out⟩
  have hfl' : S.full 1 = false := by simpa using hfl
  have e : S.holds x f m = (0, ({ S.setA { z with ba := z.ba - m } with hol := insK Ho.id S.hol ⟨x, f, m⟩ } : LS).line 4 f x m) := by unfold LS.holds; rw [if_neg hz, HA.out, if_neg (by simp), HB.out]; dsimp only; rw [if_neg hm0, if_neg hfu, HN.out, if_neg (by rw [not_or]; exact ⟨hln, hfl⟩)]
  have HR := hide (pair_inv (e.symm.trans HS.out))
  rw [hfl'] at HFU
  have HNE : Hid (x ≠ 0 ∧ f ≠ 0 ∧ m ≠ 0 ∧ m ≤ z.ba ∧ n < 64) := ⟨h0, h1, hm0, by omega, by omega⟩
  clear e hz h0 h1 hm0 hfu hfl hfl' hln
  go_wp2_with fail
  refine HFU.out.mono ?_
  rintro e w4 ⟨rfl, rfl⟩
  clear HFU g0 g1 g3 g4 g5 g5' e2 hlen
  obtain ⟨v1, hv1⟩ : ∃ v1, z.ba - m = v1 := ⟨_, rfl⟩
  have hzin := HO.out.ia z (byK_mem HB.out).1
  have hzc := HO.out.ca z (byK_mem HB.out).1
  have hwr1 : IntKind.u64.wrap ((z.ba : Int) - (m : Int)) = (v1 : Int) := by
    have := hzin.h2
    have := HNE.out.2.2.2.1
    rw [IntWalk.u64_in _ ⟨by omega, by omega⟩]
    omega
  have HV := hide hv1
  obtain ⟨W5, hW5⟩ : ∃ W5, (w4.setCell ⟨W1.heap.size, 2, none⟩ (.int .u64 (v1 : Int))) = W5 := ⟨_, rfl⟩
  have m2 := set_at HQ2.out 2 (.int .u64 (v1 : Int))
  have gB := grown_set w4 W1.heap.size 2 (.int .u64 (v1 : Int))
  have hFr5 : Run B p a b w1 Z S 0 W5 S := by
    refine HR0.out.kept ?_
    have hs1 := HS1.out
    rw [← hW5]
    exact HBB.out.grown gB HBB.out.size (fun j e => by cases e; omega)
  rw [hW5] at m2
  simp at m2
  have ez := (byK_mem HB.out).2
  have HSA1 := hide (setAccEM hFr5 (by omega) HO.out { z with ba := v1 } hzin.h0 (y := z) (by show byK Ac.id S.acc z.id = _; rw [ez]; exact HB.out))
  have HW5 := hide hW5
  have HF5 := hide hFr5
  have HM2 := hide m2
  have HOA : Hid ((S.setA { z with ba := v1 }).Ok) := HO.out.setA (a := { z with ba := v1 }) ⟨hzin.h0, hzin.h1, by have := hzin.h2; show v1 < _; omega, hzin.h3⟩ (by show v1 ≤ z.cp; omega) (by show z.id ≠ 0; rw [ez]; exact HNE.out.2.1)
  unfold Ac.arr at HSA1
  dsimp only at HSA1
  clear gB m2 hFr5 hW5 ez hv1 hzin hzc HQ2 HF2 HL HS1
  go_upto_region 18 with fail
  rw [HW5.out]
  clear HW5 y0 y1 y2 y3 yl yf hwr1
  have p0 := block_cell HM2.out 0
  have p1 := block_cell HM2.out 1
  have p2 := block_cell HM2.out 2
  have p3 := block_cell HM2.out 3
  have pl := block_lt HM2.out
  simp at p0 p1 p2 p3
  go_wp2_with fail
  refine HSA1.out.mono ?_
  rintro e w6 ⟨rfl, G6⟩
  have HSH := hide (setHoldNM G6.out.1 (by omega) (by show S.hol.length ≤ 64; exact HO.out.lh) ⟨x, f, m⟩ HI.out.1 HNE.out.2.2.1 (l := insK Ho.id S.hol ⟨x, f, m⟩) (byK_ins HA.out) (by rw [insK_len]; show _ = if (byK Ho.id S.hol x).isSome = true then _ else _; rw [HA.out]; rfl))
  have HO7 : Hid (({ S.setA { z with ba := v1 } with hol := insK Ho.id S.hol ⟨x, f, m⟩ } : LS).Ok) := HOA.out.insH (a := ⟨x, f, m⟩) ⟨HI.out.1, HI.out.2.1, HI.out.2.2⟩ ⟨HNE.out.1, HNE.out.2.2.1⟩ HA.out (by show S.hol.length < 64; rw [HN.out]; exact HNE.out.2.2.2.2)
  unfold Ho.arr at HSH
  dsimp only at HSH
  clear p0 p1 p2 p3 pl HSA1 G6 HM2 HF5
  go_wp2_with fail
  refine HSH.out.mono ?_
  rintro e w7 ⟨rfl, G7⟩
  have HLW := hide (lwriteM G7.out.1 (by omega) HO7.out 4 f x m)
  clear HSH G7
  go_wp2_with fail
  refine HLW.out.mono ?_
  rintro e w8 ⟨rfl, G8⟩
  have HE : Hid (Run B p a b w1 Z S 48 w8 S') := by
    rw [HR.out.2, HV.out]
    exact G8.out.1.le (by omega)
  clear HLW G8
  go_wp2
  go_ret
  exact ⟨by rw [HR.out.1]; rfl, HE.out⟩
end Go.Proofs.Ytcfenjpdjogmdaa
