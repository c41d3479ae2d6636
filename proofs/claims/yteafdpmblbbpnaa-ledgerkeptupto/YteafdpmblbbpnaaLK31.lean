import Derived.Test.YteafdpmblbbpnaaLK30
namespace Go.Proofs.Yteafdpmblbbpnaa
open Go.RowKit

set_option maxRecDepth 10000 in
set_option maxHeartbeats 1600000 in
/-- A hold is put, whether it is there or not. -/
theorem setHoldN {w : World} {p a b : Nat} {ch : Value} {S : LS} (h : LG w p a b nilS ch S) (hn : S.hol.length ≤ 64) (x : Ho) (hx : x.id < 18446744073709551616) (hz : x.am ≠ 0) {l : List Ho} (hb : ∀ y, byK Ho.id l y = if y = x.id then some x else byK Ho.id S.hol y) (hl : l.length = if (byK Ho.id S.hol x.id).isSome = true then S.hol.length else S.hol.length + 1) :
    Calls Try.prog 51 #[.pointer (some ⟨p, 0, none⟩), .agg x.arr] w fun e w' => e = .returned (.tuple #[]) ∧ Hid (LgP w w' p a b ch { S with hol := l }) := by
  have c1 := h.c.2.2.1
  have cl := h.lt.1
  have HP : Hid (Calls Try.prog 63 #[.map (some b), .int .u64 (x.id : Nat), .agg x.arr] (w.alloc (.cells x.arr 75)).drew fun e w' => ∃ v, e = .returned v ∧ w'.cell? ⟨p, 2, none⟩ = some (.map (some b)) ∧ (w'.cell? ⟨w.heap.size, 0, none⟩ = some (.int .u64 (x.id : Nat)) ∧ w'.cell? ⟨w.heap.size, 1, none⟩ = some (.int .u64 (x.fr : Nat)) ∧ w'.cell? ⟨w.heap.size, 2, none⟩ = some (.int .u64 (x.am : Nat))) ∧ Hid (LG w' p a b nilS ch { S with hol := l } ∧ Fr3 w w' p a b)) := by
    have hg0 : w.grownBy (w.alloc (.cells x.arr 75)).drew none := ⟨rfl, rfl, rfl, by show w.heap.size ≤ (w.alloc _).heap.size; simp, (World.grownBy_alloc w (.cells x.arr 75) none).block⟩
    have h0 := h.other hg0 (by simp) (by simp) (by simp)
    have q0 : (w.alloc (.cells x.arr 75)).drew.heap[w.heap.size]? = some (.cells x.arr 75 (0, 0)) := alloc_atK _ _
    refine (putH h0.hol x hx (by unfold maxLen; omega)).mono ?_
    rintro e w' ⟨v, rfl, G⟩
    obtain ⟨_, ht, hg⟩ := G.out
    have ht' : THm w' b l.length (byK Ho.id l) := ht.congr hl.symm (fun y => (hb y).symm)
    have hL := h0.toH ht' hg
    have hne : w.heap.size ≠ b := fun e => by have := h.lt.2.2; omega
    have q1 := (hg.block _ (block_lt q0) (fun e => hne (Option.some.inj e))).trans q0
    exact ⟨v, rfl, hL.c.2.2.1, ⟨block_cell q1 0, block_cell q1 1, block_cell q1 2⟩, hL, (Fr3.of hg0 (fun r e => by cases e)).trans (Fr3.of hg (fun r e => .inr (.inr (Option.some.inj e).symm)))⟩
  have g0 : ((x.am : Int) == 0) = false := by simp; omega
  clear h hn hx hb hl hz
  unfold Ho.arr at *
  generalize (x.id : Int) = X0 at *
  generalize (x.fr : Int) = X1 at *
  generalize (x.am : Int) = X2 at *
  go_enter Try.func51, Try.ntmps51
  go_wp2_with fail
  go_region_held (fun w' => w'.cell? ⟨p, 2, none⟩ = some (.map (some b)) ∧ (w'.cell? ⟨w.heap.size, 0, none⟩ = some (.int .u64 X0) ∧ w'.cell? ⟨w.heap.size, 1, none⟩ = some (.int .u64 X1) ∧ w'.cell? ⟨w.heap.size, 2, none⟩ = some (.int .u64 X2))) (go_keep)
    (first | (go_at_call 63; refine HP.out.mono ?_; rintro e w1 ⟨v, rfl, h1, h2, HG⟩; have HN := hide (note0 HG.out.1.c.2.2.2.2.1 v)) | (go_at_call 48; refine HN.out.mono ?_; rintro e w2 ⟨rfl, rfl⟩))
  go_wp2
  go_end0
  exact ⟨rfl, HG.out⟩
set_option maxRecDepth 10000 in
set_option maxHeartbeats 1600000 in
/-- A hold that has nothing left is gone. -/
theorem setHoldZ {w : World} {p a b : Nat} {ch : Value} {S : LS} (h : LG w p a b nilS ch S) (hu : UpK Ho.id S.hol) (x : Ho) (hx : x.id < 18446744073709551616) (hz : x.am = 0) {y : Ho} (hy : byK Ho.id S.hol x.id = some y) :
    Calls Try.prog 51 #[.pointer (some ⟨p, 0, none⟩), .agg x.arr] w fun e w' => e = .returned (.tuple #[]) ∧ Hid (LgP w w' p a b ch { S with hol := remK Ho.id S.hol x.id }) := by
  have c1 := h.c.2.2.1
  have cl := h.lt.1
  have HP : Hid (Calls Try.prog 62 #[.map (some b), .int .u64 (x.id : Nat)] (w.alloc (.cells x.arr 75)).drew fun e w' => ∃ v, e = .returned v ∧ w'.cell? ⟨p, 2, none⟩ = some (.map (some b)) ∧ (w'.cell? ⟨w.heap.size, 0, none⟩ = some (.int .u64 (x.id : Nat)) ∧ w'.cell? ⟨w.heap.size, 1, none⟩ = some (.int .u64 (x.fr : Nat)) ∧ w'.cell? ⟨w.heap.size, 2, none⟩ = some (.int .u64 (x.am : Nat))) ∧ Hid (LG w' p a b nilS ch { S with hol := remK Ho.id S.hol x.id } ∧ Fr3 w w' p a b)) := by
    have hg0 : w.grownBy (w.alloc (.cells x.arr 75)).drew none := ⟨rfl, rfl, rfl, by show w.heap.size ≤ (w.alloc _).heap.size; simp, (World.grownBy_alloc w (.cells x.arr 75) none).block⟩
    have h0 := h.other hg0 (by simp) (by simp) (by simp)
    have q0 : (w.alloc (.cells x.arr 75)).drew.heap[w.heap.size]? = some (.cells x.arr 75 (0, 0)) := alloc_atK _ _
    have hlen := remK_len hu (x := x.id) (by rw [hy]; rfl)
    refine (dropH (n := (remK Ho.id S.hol x.id).length) (by rw [hlen]; exact h0.hol) hx hy).mono ?_
    rintro e w' ⟨v, rfl, G⟩
    obtain ⟨_, ht, hg⟩ := G.out
    have ht' : THm w' b (remK Ho.id S.hol x.id).length (byK Ho.id (remK Ho.id S.hol x.id)) := ht.congr rfl (fun y => (byK_rem _ _ y).symm)
    have hL := h0.toH ht' hg
    have hne : w.heap.size ≠ b := fun e => by have := h.lt.2.2; omega
    have q1 := (hg.block _ (block_lt q0) (fun e => hne (Option.some.inj e))).trans q0
    exact ⟨v, rfl, hL.c.2.2.1, ⟨block_cell q1 0, block_cell q1 1, block_cell q1 2⟩, hL, (Fr3.of hg0 (fun r e => by cases e)).trans (Fr3.of hg (fun r e => .inr (.inr (Option.some.inj e).symm)))⟩
  have g0 : ((x.am : Int) == 0) = true := by simp; omega
  clear h hu hx hy hz
  unfold Ho.arr at *
  generalize (x.id : Int) = X0 at *
  generalize (x.fr : Int) = X1 at *
  generalize (x.am : Int) = X2 at *
  go_enter Try.func51, Try.ntmps51
  go_wp2_with fail
  go_region_held (fun w' => w'.cell? ⟨p, 2, none⟩ = some (.map (some b)) ∧ (w'.cell? ⟨w.heap.size, 0, none⟩ = some (.int .u64 X0) ∧ w'.cell? ⟨w.heap.size, 1, none⟩ = some (.int .u64 X1) ∧ w'.cell? ⟨w.heap.size, 2, none⟩ = some (.int .u64 X2))) (go_keep)
    (first | (go_at_call 62; refine HP.out.mono ?_; rintro e w1 ⟨v, rfl, h1, h2, HG⟩; have HN := hide (note0 HG.out.1.c.2.2.2.2.1 v)) | (go_at_call 48; refine HN.out.mono ?_; rintro e w2 ⟨rfl, rfl⟩))
  go_wp2
  refine bodyPost_ret (results_none rfl _ _ _) rfl ?_
  exact ⟨rfl, HG.out⟩
/-- setHold of a hold that is there. -/
theorem setHoldG {w : World} {p a b : Nat} {ch : Value} {S : LS} (h : LG w p a b nilS ch S) (hok : S.Ok) (x : Ho) (hx : x.id < 18446744073709551616) {y : Ho} (hy : byK Ho.id S.hol x.id = some y) :
    Calls Try.prog 51 #[.pointer (some ⟨p, 0, none⟩), .agg x.arr] w fun e w' => e = .returned (.tuple #[]) ∧ Hid (LgP w w' p a b ch (S.setH x)) := by
  by_cases hz : x.am = 0
  · have e : S.setH x = { S with hol := remK Ho.id S.hol x.id } := by unfold LS.setH; rw [if_pos hz]
    rw [e]
    exact setHoldZ h hok.uh x hx hz hy
  · have e : S.setH x = { S with hol := repK Ho.id S.hol x } := by unfold LS.setH; rw [if_neg hz]
    rw [e]
    exact setHoldN h hok.lh x hx hz (byK_rep (by rw [hy]; rfl)) (by rw [repK_len, hy]; rfl)
/-- setAccount of an account that is there. -/
theorem setAccE {w : World} {p a b : Nat} {ch : Value} {S : LS} (h : LG w p a b nilS ch S) (hok : S.Ok) (x : Ac) (hx : x.id < 18446744073709551616) {y : Ac} (hy : byK Ac.id S.acc x.id = some y) :
    Calls Try.prog 45 #[.pointer (some ⟨p, 0, none⟩), .agg x.arr] w fun e w' => e = .returned (.tuple #[]) ∧ Hid (LgP w w' p a b ch (S.setA x)) :=
  setAccG h hok.la x hx (byK_rep (by rw [hy]; rfl)) (by rw [repK_len, hy]; rfl)
end Go.Proofs.Yteafdpmblbbpnaa
namespace Go.Proofs.Yteafdpmblbbpnaa
open Go.RowKit

set_option maxRecDepth 10000 in
set_option maxHeartbeats 6400000 in
theorem holdG {w : World} {p a b : Nat} {ch : Value} {S : LS} (h : LG w p a b nilS ch S) (hok : S.Ok) {x f m : Nat} (hx : x < 18446744073709551616) (hf : f < 18446744073709551616) (hm : m < 18446744073709551616) {c : Nat} {S' : LS} (hS : S.holds x f m = (c, S')) :
    Calls Try.prog 27 #[.pointer (some ⟨p, 0, none⟩), .int .u64 (x : Nat), .int .u64 (f : Nat), .int .u64 (m : Nat)] w fun e w' => e = .returned (.int .i64 (c : Nat)) ∧ Hid (LgP w w' p a b ch S') := by
  have HS := hide hS
  have c2 := h.c.2.2.1
  have cl := h.lt.1
  have HM := hide (madeG h)
  have hlk := h.hol.look_ok hx
  obtain ⟨oa, hoa⟩ : ∃ oa, byK Ho.id S.hol x = oa := ⟨_, rfl⟩
  obtain ⟨ob, hob⟩ : ∃ ob, byK Ac.id S.acc f = ob := ⟨_, rfl⟩
  obtain ⟨W1, hW1⟩ : ∃ W1, w.alloc (.cells (oa.getD Ho.zero).arr 75) = W1 := ⟨_, rfl⟩
  have b1 : Below w.heap.size w W1 := by rw [← hW1]; exact (Below.refl _ w).alloc (Nat.le_refl _) _
  have s1 : W1.heap.size = w.heap.size + 1 := by rw [← hW1]; simp
  have h1 := h.kept b1
  have hlk1 := h1.acc.look_ok hf
  have d1 := h1.c.2.1
  have dl := h1.lt.1
  obtain ⟨W2, hW2⟩ : ∃ W2, W1.alloc (.cells (ob.getD Ac.zero).arr 50) = W2 := ⟨_, rfl⟩
  have b2 : Below W1.heap.size W1 W2 := by rw [← hW2]; exact (Below.refl _ W1).alloc (Nat.le_refl _) _
  have q2 : W2.heap[W1.heap.size]? = some (.cells (ob.getD Ac.zero).arr 50 (0, 0)) := by rw [← hW2]; exact alloc_atK _ _
  have h2 := h1.kept b2
  have bb := b1.trans (b2.mono b1.size)
  have f2 : Fr3 w W2 p a b := Fr3.below bb
  have e2 := h2.c.2.2.1
  have el := h2.lt.1
  obtain ⟨n, hn⟩ : ∃ n, S.hol.length = n := ⟨_, rfl⟩
  have hlen := h2.hol.len 3
  rw [hn] at hlen
  have HL := hide h2
  have HO := hide hok
  have HN := hide hn
  have HF2 := hide f2
  have HW1 := hide hW1
  have HW2 := hide hW2
  have HA := hide hoa
  have HB := hide hob
  have HQ2 := hide q2
  have HS1 := hide s1
  have HI := hide (And.intro hx (And.intro hf hm))
  have HLT := hide h.lt
  have HFU := hide (fullG h2 hok 1 (by decide))
  rw [hoa] at hlk
  rw [hob] at hlk1
  clear h hok b1 b2 bb h1 h2 f2 hW1 hW2 hoa hob hf hx hm q2 s1 hS hn
  unfold Ho.arr at hlk HW1
  unfold Ac.arr at hlk1 HW2 HQ2
  go_enter Try.func27, Try.ntmps27
  go_wp2_with fail
  refine HM.out.mono ?_
  rintro e w1 ⟨rfl, rfl⟩
  clear HM
  go_upto_region 4 with fail
  rw [HW1.out]
  clear HW1 hlk c2 cl
  go_upto_region 5 with fail
  rw [HW2.out]
  clear HW2 hlk1 d1 dl
  by_cases h0 : x = 0
  · have e : S.holds x f m = (40, S) := by unfold LS.holds; rw [if_pos (.inl h0)]
    have HR := hide (pair_inv (e.symm.trans HS.out))
    have HE : Hid (LgP w1 W2 p a b ch S) := ⟨HL.out, HF2.out⟩
    clear e HFU
    subst h0
    go_wp2
    go_ret
    exact ⟨by rw [HR.out.1]; rfl, by rw [HR.out.2]; exact HE.out⟩
  have g0 : ((x : Int) == 0) = false := by simp; omega
  by_cases h1 : f = 0
  · have e : S.holds x f m = (40, S) := by unfold LS.holds; rw [if_pos (.inr h1)]
    have HR := hide (pair_inv (e.symm.trans HS.out))
    have HE : Hid (LgP w1 W2 p a b ch S) := ⟨HL.out, HF2.out⟩
    clear e HFU
    subst h1
    go_wp2
    go_ret
    exact ⟨by rw [HR.out.1]; rfl, by rw [HR.out.2]; exact HE.out⟩
  have g1 : ((f : Int) == 0) = false := by simp; omega
  have hz : ¬ (x = 0 ∨ f = 0) := by omega
  rcases oa with _ | y
  rotate_left
  · have e : S.holds x f m = (41, S) := by unfold LS.holds; rw [if_neg hz, HA.out, if_pos (show (some y).isSome = true from rfl)]
    have HR := hide (pair_inv (e.symm.trans HS.out))
    have HE : Hid (LgP w1 W2 p a b ch S) := ⟨HL.out, HF2.out⟩
    clear e hz h0 h1 HFU
    go_wp2
    go_ret
    exact ⟨by rw [HR.out.1]; rfl, by rw [HR.out.2]; exact HE.out⟩
  rcases ob with _ | z
  · have e : S.holds x f m = (42, S) := by unfold LS.holds; rw [if_neg hz, HA.out, if_neg (by simp), HB.out]
    have HR := hide (pair_inv (e.symm.trans HS.out))
    have HE : Hid (LgP w1 W2 p a b ch S) := ⟨HL.out, HF2.out⟩
    clear e hz h0 h1 HFU
    go_wp2
    go_ret
    exact ⟨by rw [HR.out.1]; rfl, by rw [HR.out.2]; exact HE.out⟩
  by_cases hm0 : m = 0
  · have e : S.holds x f m = (44, S) := by unfold LS.holds; rw [if_neg hz, HA.out, if_neg (by simp), HB.out]; dsimp only; rw [if_pos hm0]
    have HR := hide (pair_inv (e.symm.trans HS.out))
    have HE : Hid (LgP w1 W2 p a b ch S) := ⟨HL.out, HF2.out⟩
    clear e hz h0 h1 HFU
    subst hm0
    go_wp2
    go_ret
    exact ⟨by rw [HR.out.1]; rfl, by rw [HR.out.2]; exact HE.out⟩
  have g3 : ((m : Int) == 0) = false := by simp; omega
  have y0 := block_cell HQ2.out 0
  have y1 := block_cell HQ2.out 1
  have y2 := block_cell HQ2.out 2
  have y3 := block_cell HQ2.out 3
  have yl := block_lt HQ2.out
  have yf := block_free HQ2.out 2
  simp at y0 y1 y2 y3
  by_cases hfu : z.ba < m
  · have g4 : decide (z.ba < m) = true := decide_eq_true hfu
    have e : S.holds x f m = (46, S) := by unfold LS.holds; rw [if_neg hz, HA.out, if_neg (by simp), HB.out]; dsimp only; rw [if_neg hm0, if_pos hfu]
    have HR := hide (pair_inv (e.symm.trans HS.out))
    have HE : Hid (LgP w1 W2 p a b ch S) := ⟨HL.out, HF2.out⟩
    clear e hz h0 h1 hm0 hfu HFU
    go_wp2
    go_ret
    exact ⟨by rw [HR.out.1]; rfl, by rw [HR.out.2]; exact HE.out⟩
  have g4 : decide (z.ba < m) = false := decide_eq_false hfu
  by_cases hln : 64 ≤ n
  · have g5 : decide ((n : Int) ≥ 64) = true := decide_eq_true (by omega)
    have g5' : decide ((64 : Int) ≤ (n : Int)) = true := decide_eq_true (by omega)
    have e : S.holds x f m = (43, S) := by unfold LS.holds; rw [if_neg hz, HA.out, if_neg (by simp), HB.out]; dsimp only; rw [if_neg hm0, if_neg hfu, HN.out, if_pos (.inl hln)]
    have HR := hide (pair_inv (e.symm.trans HS.out))
    have HE : Hid (LgP w1 W2 p a b ch S) := ⟨HL.out, HF2.out⟩
    clear e hz h0 h1 hm0 hfu HFU
    go_wp2
    go_ret
    exact ⟨by rw [HR.out.1]; rfl, by rw [HR.out.2]; exact HE.out⟩
  have g5 : decide ((n : Int) ≥ 64) = false := decide_eq_false (by omega)
  have g5' : decide ((64 : Int) ≤ (n : Int)) = false := decide_eq_false (by omega)
  by_cases hfl : S.full 1 = true
  · have e : S.holds x f m = (43, S) := by unfold LS.holds; rw [if_neg hz, HA.out, if_neg (by simp), HB.out]; dsimp only; rw [if_neg hm0, if_neg hfu, HN.out, if_pos (.inr hfl)]
    have HR := hide (pair_inv (e.symm.trans HS.out))
    have HE : Hid (LgP w1 W2 p a b ch S) := ⟨HL.out, HF2.out⟩
    rw [hfl] at HFU
    clear e hz h0 h1 hm0 hfu hfl
    go_wp2_with fail
    refine HFU.out.mono ?_
    rintro e w4 ⟨rfl, rfl⟩
    go_wp2
    go_ret
    exact ⟨by rw [HR.out.1]; rfl, by rw [HR.out.2]; exact HE.out⟩
  have hfl' : S.full 1 = false := by simpa using hfl
  have e : S.holds x f m = (0, ({ S.setA { z with ba := z.ba - m } with hol := insK Ho.id S.hol ⟨x, f, m⟩ } : LS).line 4 f x m) := by unfold LS.holds; rw [if_neg hz, HA.out, if_neg (by simp), HB.out]; dsimp only; rw [if_neg hm0, if_neg hfu, HN.out, if_neg (by rw [not_or]; exact ⟨hln, hfl⟩)]
  have HR := hide (pair_inv (e.symm.trans HS.out))
  rw [hfl'] at HFU
  have HNE : Hid (x ≠ 0 ∧ f ≠ 0 ∧ m ≠ 0 ∧ m ≤ z.ba ∧ n < 64) := ⟨h0, h1, hm0, by omega, by omega⟩
  clear e hz h0 h1 hm0 hfu hfl hfl' hln
  go_wp2_with fail
  refine HFU.out.mono ?_
  rintro e w4 ⟨rfl, rfl⟩
  clear HFU g0 g1 g3 g4 g5 g5' e2 hlen
  obtain ⟨v1, hv1⟩ : ∃ v1, z.ba - m = v1 := ⟨_, rfl⟩
  have hzin := HO.out.ia z (byK_mem HB.out).1
  have hzc := HO.out.ca z (byK_mem HB.out).1
  have hwr1 : IntKind.u64.wrap ((z.ba : Int) - (m : Int)) = (v1 : Int) := by
    have := hzin.h2
    have := HNE.out.2.2.2.1
    rw [IntWalk.u64_in _ ⟨by omega, by omega⟩]
    omega
  have HV := hide hv1
  obtain ⟨W5, hW5⟩ : ∃ W5, (w4.setCell ⟨W1.heap.size, 2, none⟩ (.int .u64 (v1 : Int))) = W5 := ⟨_, rfl⟩
  have m2 := set_at HQ2.out 2 (.int .u64 (v1 : Int))
  have gB := grown_set w4 W1.heap.size 2 (.int .u64 (v1 : Int))
  have nn : ∀ q, q = p ∨ q = a ∨ q = b → q < W1.heap.size := fun q hq => by
    obtain ⟨l1, l2, l3⟩ := HLT.out
    have := HS1.out
    rcases hq with e | e | e <;> omega
  have h5 : LG W5 p a b nilS ch S := by
    rw [← hW5]
    refine HL.out.other gB ?_ ?_ ?_
    · exact fun e => by have := nn p (.inl rfl); have := Option.some.inj e; omega
    · exact fun e => by have := nn a (.inr (.inl rfl)); have := Option.some.inj e; omega
    · exact fun e => by have := nn b (.inr (.inr rfl)); have := Option.some.inj e; omega
  have hFr5 : Fr3 w1 W5 p a b := by
    have f3 := HF2.out
    have hs1 := HS1.out
    refine ⟨?_, ?_, ?_, ?_, fun k hk n1 n2 n3 => ?_⟩
    · rw [← hW5]; exact f3.os
    · rw [← hW5]; exact f3.tape
    · rw [← hW5]; exact f3.output
    · rw [← hW5]; exact Nat.le_trans f3.size gB.size
    · rw [← hW5]
      exact (gB.block k (Nat.lt_of_lt_of_le hk f3.size) (fun e => by have := Option.some.inj e; omega)).trans (f3.block k hk n1 n2 n3)
  rw [hW5] at m2
  simp at m2
  have ez := (byK_mem HB.out).2
  have HSA1 := hide (setAccE h5 HO.out { z with ba := v1 } hzin.h0 (y := z) (by show byK Ac.id S.acc z.id = _; rw [ez]; exact HB.out))
  have HW5 := hide hW5
  have HF5 := hide hFr5
  have HM2 := hide m2
  have HOA : Hid ((S.setA { z with ba := v1 }).Ok) := HO.out.setA (a := { z with ba := v1 }) ⟨hzin.h0, hzin.h1, by have := hzin.h2; show v1 < _; omega, hzin.h3⟩ (by show v1 ≤ z.cp; omega) (by show z.id ≠ 0; rw [ez]; exact HNE.out.2.1)
  unfold Ac.arr at HSA1
  dsimp only at HSA1
  clear gB m2 nn h5 hFr5 hW5 ez hv1 hzin hzc HQ2 HF2 HL HS1
  go_upto_region 18 with fail
  rw [HW5.out]
  clear HW5 y0 y1 y2 y3 yl yf hwr1
  have p0 := block_cell HM2.out 0
  have p1 := block_cell HM2.out 1
  have p2 := block_cell HM2.out 2
  have p3 := block_cell HM2.out 3
  have pl := block_lt HM2.out
  simp at p0 p1 p2 p3
  go_wp2_with fail
  refine HSA1.out.mono ?_
  rintro e w6 ⟨rfl, G6⟩
  have HF6 := hide (HF5.out.trans G6.out.2)
  have HSH := hide (setHoldN G6.out.1 (by show S.hol.length ≤ 64; exact HO.out.lh) ⟨x, f, m⟩ HI.out.1 HNE.out.2.2.1 (l := insK Ho.id S.hol ⟨x, f, m⟩) (byK_ins HA.out) (by rw [insK_len]; show _ = if (byK Ho.id S.hol x).isSome = true then _ else _; rw [HA.out]; rfl))
  have HO7 : Hid (({ S.setA { z with ba := v1 } with hol := insK Ho.id S.hol ⟨x, f, m⟩ } : LS).Ok) := HOA.out.insH (a := ⟨x, f, m⟩) ⟨HI.out.1, HI.out.2.1, HI.out.2.2⟩ ⟨HNE.out.1, HNE.out.2.2.1⟩ HA.out (by show S.hol.length < 64; rw [HN.out]; exact HNE.out.2.2.2.2)
  unfold Ho.arr at HSH
  dsimp only at HSH
  clear p0 p1 p2 p3 pl HSA1 G6 HM2 HF5
  go_wp2_with fail
  refine HSH.out.mono ?_
  rintro e w7 ⟨rfl, G7⟩
  have HLW := hide (lwriteG G7.out.1 HO7.out 4 f x m)
  have HF7 := hide (HF6.out.trans G7.out.2)
  clear HSH G7 HF6
  go_wp2_with fail
  refine HLW.out.mono ?_
  rintro e w8 ⟨rfl, G8⟩
  have HE : Hid (LgP w1 w8 p a b ch S') := by
    rw [HR.out.2, HV.out]
    exact ⟨G8.out.1, HF7.out.trans G8.out.2⟩
  clear HLW G8 HF7
  go_wp2
  go_ret
  exact ⟨by rw [HR.out.1]; rfl, HE.out⟩
end Go.Proofs.Yteafdpmblbbpnaa
