import Derived.Test.YteafdpmblbbpnaaLK49
import Derived.Test.YteafdpmblbbpnaaLK18
import Derived.Test.YteafdpmblbbpnaaLK46
namespace Go.Proofs.Yteafdpmblbbpnaa
open Go.RowKit

theorem Hos.below {W W' : World} {b off : Nat} {l : List Ho} (h : Hos W b off l) {B : Nat} (hb : Below B W W') (hl : 0 < l.length → b < B) : Hos W' b off l := ⟨h.ok, fun i x hi => by
  have e := hb.block b (hl (by have := (List.getElem?_eq_some_iff.1 hi).1; omega))
  obtain ⟨c0, c1, c2⟩ := h.at_ i x hi
  exact ⟨(cell_same e _).trans c0, (cell_same e _).trans c1, (cell_same e _).trans c2⟩⟩
theorem Jns.below {W W' : World} {b off : Nat} {l : List Jn} (h : Jns W b off l) {B : Nat} (hb : Below B W W') (hl : 0 < l.length → b < B) : Jns W' b off l := ⟨h.ok, fun i x hi => by
  have e := hb.block b (hl (by have := (List.getElem?_eq_some_iff.1 hi).1; omega))
  obtain ⟨c0, c1, c2, c3, c4⟩ := h.at_ i x hi
  exact ⟨(cell_same e _).trans c0, (cell_same e _).trans c1, (cell_same e _).trans c2, (cell_same e _).trans c3, (cell_same e _).trans c4⟩⟩
set_option maxRecDepth 10000 in
set_option maxHeartbeats 1600000 in
theorem sameH {w : World} {b off b' off' : Nat} {ao ao' : Option Addr} (n cap cap' : Nat) {l : List Ho} (hn : n = l.length) (h : Hos w b off l) (h' : Hos w b' off' l) (hao : 0 < n → ao = some ⟨b, off, none⟩ ∧ ao' = some ⟨b', off', none⟩) (hbw : 0 < n → b < w.heap.size ∧ b' < w.heap.size) (hle : n ≤ 4398046510976) :
    Calls Try.prog 35 #[.slice ao n cap, .slice ao' n cap'] w fun e w' => e = .returned (.bool true) ∧ Hid (Below w.heap.size w w') := by
  have HA := hide hao
  have HC := hide h
  have HC' := hide h'
  have HB := hide hbw
  have HN := hide hn
  clear h h' hao hbw hn
  go_enter Try.func35, Try.ntmps35
  go_wp2
  go_loopw [5] (fun i wr => ∃ k : Nat, k ≤ n ∧ i = .int .i64 k ∧ Hid (Below w.heap.size w wr)) (fun i _ => n - (intOf i).toNat)
  case atStart => exact ⟨0, by omega, rfl, Below.refl _ _⟩
  case round =>
    obtain ⟨k, hk, rfl, HB1⟩ := hrel
    by_cases hlt : k < n
    · obtain ⟨a, ha⟩ : ∃ a, l[k]? = some a := ⟨_, List.getElem?_eq_getElem (by have := HN.out; omega)⟩
      obtain ⟨c0, c1, c2⟩ := (HC.out.below HB1.out (fun hp => (HB.out (by have := HN.out; omega)).1)).at_ k a ha
      obtain ⟨d0, d1, d2⟩ := (HC'.out.below HB1.out (fun hp => (HB.out (by have := HN.out; omega)).2)).at_ k a ha
      obtain ⟨rfl, rfl⟩ := HA.out (by omega)
      have hl1 : b < wr.heap.size := Nat.lt_of_lt_of_le (HB.out (by omega)).1 HB1.out.size
      have hl2 : b' < wr.heap.size := Nat.lt_of_lt_of_le (HB.out (by omega)).2 HB1.out.size
      clear ha
      obtain ⟨x0, x1, x2⟩ := a
      simp only at c0 c1 c2 d0 d1 d2
      go_wp2_with fail
      go_quiet (fail)
      go_wp2
      go_roundw
      case rel => exact ⟨k + 1, by omega, by go_num, below_dA HB1.out _⟩
      case measure => simp [intOf]; omega
    · obtain rfl : k = n := by omega
      go_wp2
      go_ret
      exact ⟨rfl, HB1.out⟩
set_option maxRecDepth 10000 in
set_option maxHeartbeats 1600000 in
theorem sameJ {w : World} {b off b' off' : Nat} {ao ao' : Option Addr} (n cap cap' : Nat) {l : List Jn} (hn : n = l.length) (h : Jns w b off l) (h' : Jns w b' off' l) (hao : 0 < n → ao = some ⟨b, off, none⟩ ∧ ao' = some ⟨b', off', none⟩) (hbw : 0 < n → b < w.heap.size ∧ b' < w.heap.size) (hle : n ≤ 4398046510976) :
    Calls Try.prog 36 #[.slice ao n cap, .slice ao' n cap'] w fun e w' => e = .returned (.bool true) ∧ Hid (Below w.heap.size w w') := by
  have HA := hide hao
  have HC := hide h
  have HC' := hide h'
  have HB := hide hbw
  have HN := hide hn
  clear h h' hao hbw hn
  go_enter Try.func36, Try.ntmps36
  go_wp2
  go_loopw [5] (fun i wr => ∃ k : Nat, k ≤ n ∧ i = .int .i64 k ∧ Hid (Below w.heap.size w wr)) (fun i _ => n - (intOf i).toNat)
  case atStart => exact ⟨0, by omega, rfl, Below.refl _ _⟩
  case round =>
    obtain ⟨k, hk, rfl, HB1⟩ := hrel
    by_cases hlt : k < n
    · obtain ⟨a, ha⟩ : ∃ a, l[k]? = some a := ⟨_, List.getElem?_eq_getElem (by have := HN.out; omega)⟩
      obtain ⟨c0, c1, c2, c3, c4⟩ := (HC.out.below HB1.out (fun hp => (HB.out (by have := HN.out; omega)).1)).at_ k a ha
      obtain ⟨d0, d1, d2, d3, d4⟩ := (HC'.out.below HB1.out (fun hp => (HB.out (by have := HN.out; omega)).2)).at_ k a ha
      obtain ⟨rfl, rfl⟩ := HA.out (by omega)
      have hl1 : b < wr.heap.size := Nat.lt_of_lt_of_le (HB.out (by omega)).1 HB1.out.size
      have hl2 : b' < wr.heap.size := Nat.lt_of_lt_of_le (HB.out (by omega)).2 HB1.out.size
      clear ha
      obtain ⟨x0, x1, x2, x3, x4⟩ := a
      simp only at c0 c1 c2 c3 c4 d0 d1 d2 d3 d4
      go_wp2_with fail
      go_quiet (fail)
      go_wp2
      go_roundw
      case rel => exact ⟨k + 1, by omega, by go_num, below_dA HB1.out _⟩
      case measure => simp [intOf]; omega
    · obtain rfl : k = n := by omega
      go_wp2
      go_ret
      exact ⟨rfl, HB1.out⟩
/-- An image's lists, as they lie. -/
structure ImJ (W : World) (A : List Ac) (H : List Ho) (J : List Jn) (ao ho jo : Option Addr) (ga gh gj : Nat) : Prop extends Im W A H ao ho ga gh where
  jo_ : 0 < J.length → jo = some ⟨gj, 0, none⟩ ∧ gj < W.heap.size
  j : Jns W gj 0 J
theorem ImJ.below {W W' : World} {A : List Ac} {H : List Ho} {J : List Jn} {ao ho jo : Option Addr} {ga gh gj : Nat} (h : ImJ W A H J ao ho jo ga gh gj) (hb : Below W.heap.size W W') : ImJ W' A H J ao ho jo ga gh gj :=
  ⟨h.toIm.below hb, fun hp => ⟨(h.jo_ hp).1, Nat.lt_of_lt_of_le (h.jo_ hp).2 hb.size⟩, h.j.below hb (fun hp => (h.jo_ hp).2)⟩
theorem imj_of {W V : World} {A : List Ac} {H : List Ho} {J : List Jn} {ao ho jo : Option Addr} {cap hcap jcap : Nat} (h : ImR W V A H J ao cap ho hcap jo jcap) (ia : ∀ x ∈ A, x.In) (ih : ∀ x ∈ H, x.In) (ij : ∀ x ∈ J, x.In) : ∃ ga gh gj, ImJ V A H J ao ho jo ga gh gj := by
  obtain ⟨ga, gh, h1, _, _⟩ := im_of_rows h.ra h.rh ia ih
  obtain ⟨gj, h2, _, h3⟩ := jn_of_row h.rj ij
  exact ⟨ga, gh, gj, h1, h2, h3⟩
set_option maxRecDepth 10000 in
set_option maxHeartbeats 3200000 in
/-- sameImage of two images that are alike. -/
theorem sameImageI {w : World} {A : List Ac} {H : List Ho} {J : List Jn} {ao ho jo ao' ho' jo' : Option Addr} {ga gh gj ga' gh' gj' : Nat} (h : ImJ w A H J ao ho jo ga gh gj) (h' : ImJ w A H J ao' ho' jo' ga' gh' gj') (hA : A.length ≤ 64) (hH : H.length ≤ 64) (hJ : J.length ≤ 64) (t x : Int) (cap hcap jcap cap' hcap' jcap' : Nat) :
    Calls Try.prog 13 #[.agg #[.int .u64 t, .int .u64 x, .slice ao A.length cap, .slice ho H.length hcap, .slice jo J.length jcap], .agg #[.int .u64 t, .int .u64 x, .slice ao' A.length cap', .slice ho' H.length hcap', .slice jo' J.length jcap']] w fun e w' => e = .returned (.bool true) ∧ Hid (Below w.heap.size w w') := by
  obtain ⟨W1, hW1⟩ : ∃ W1, (w.alloc (.cells #[.int .u64 t, .int .u64 x, .slice ao A.length cap, .slice ho H.length hcap, .slice jo J.length jcap] 31)).alloc (.cells #[.int .u64 t, .int .u64 x, .slice ao' A.length cap', .slice ho' H.length hcap', .slice jo' J.length jcap'] 31) = W1 := ⟨_, rfl⟩
  have b1 : Below w.heap.size w W1 := by rw [← hW1]; exact ((Below.refl _ w).alloc (Nat.le_refl _) _).alloc (by simp) _
  have e1 : (w.alloc (.cells #[.int .u64 t, .int .u64 x, .slice ao A.length cap, .slice ho H.length hcap, .slice jo J.length jcap] 31)).heap.size = w.heap.size + 1 := by simp
  have q2 : W1.heap[w.heap.size + 1]? = some (.cells #[.int .u64 t, .int .u64 x, .slice ao' A.length cap', .slice ho' H.length hcap', .slice jo' J.length jcap'] 31 (0, 0)) := by rw [← hW1, ← e1]; exact alloc_atK _ _
  have q1 : W1.heap[w.heap.size]? = some (.cells #[.int .u64 t, .int .u64 x, .slice ao A.length cap, .slice ho H.length hcap, .slice jo J.length jcap] 31 (0, 0)) := by rw [← hW1]; exact ((World.grownBy_alloc _ _ none).block _ (by simp) (by simp)).trans (alloc_atK _ _)
  have HQ : Hid (∀ V, Below W1.heap.size W1 V → (V.cell? ⟨w.heap.size, 0, none⟩ = some (.int .u64 t) ∧ V.cell? ⟨w.heap.size, 1, none⟩ = some (.int .u64 x) ∧ V.cell? ⟨w.heap.size, 2, none⟩ = some (.slice ao A.length cap) ∧ V.cell? ⟨w.heap.size, 3, none⟩ = some (.slice ho H.length hcap) ∧ V.cell? ⟨w.heap.size, 4, none⟩ = some (.slice jo J.length jcap) ∧ w.heap.size < V.heap.size) ∧ V.cell? ⟨w.heap.size + 1, 0, none⟩ = some (.int .u64 t) ∧ V.cell? ⟨w.heap.size + 1, 1, none⟩ = some (.int .u64 x) ∧ V.cell? ⟨w.heap.size + 1, 2, none⟩ = some (.slice ao' A.length cap') ∧ V.cell? ⟨w.heap.size + 1, 3, none⟩ = some (.slice ho' H.length hcap') ∧ V.cell? ⟨w.heap.size + 1, 4, none⟩ = some (.slice jo' J.length jcap') ∧ w.heap.size + 1 < V.heap.size) := fun V hV => by
    have c1 := (hV.block _ (block_lt q1)).trans q1
    have c2 := (hV.block _ (block_lt q2)).trans q2
    exact ⟨⟨block_cell c1 0, block_cell c1 1, block_cell c1 2, block_cell c1 3, block_cell c1 4, block_lt c1⟩, block_cell c2 0, block_cell c2 1, block_cell c2 2, block_cell c2 3, block_cell c2 4, block_lt c2⟩
  have HA1 : Hid (∀ V, Below W1.heap.size W1 V → Calls Try.prog 34 #[.slice ao A.length cap, .slice ao' A.length cap'] V fun e w' => e = .returned (.bool true) ∧ Hid (Below V.heap.size V w')) := fun V hV => by
    have k := (h.below b1).below hV
    have k' := (h'.below b1).below hV
    exact sameA A.length cap cap' rfl k.a k'.a (fun hp => ⟨(k.ao hp).1, (k'.ao hp).1⟩) (fun hp => ⟨(k.ao hp).2, (k'.ao hp).2⟩) (by omega)
  have HA2 : Hid (∀ V, Below W1.heap.size W1 V → Calls Try.prog 35 #[.slice ho H.length hcap, .slice ho' H.length hcap'] V fun e w' => e = .returned (.bool true) ∧ Hid (Below V.heap.size V w')) := fun V hV => by
    have k := (h.below b1).below hV
    have k' := (h'.below b1).below hV
    exact sameH H.length hcap hcap' rfl k.h k'.h (fun hp => ⟨(k.ho hp).1, (k'.ho hp).1⟩) (fun hp => ⟨(k.ho hp).2, (k'.ho hp).2⟩) (by omega)
  have HA3 : Hid (∀ V, Below W1.heap.size W1 V → Calls Try.prog 36 #[.slice jo J.length jcap, .slice jo' J.length jcap'] V fun e w' => e = .returned (.bool true) ∧ Hid (Below V.heap.size V w')) := fun V hV => by
    have k := (h.below b1).below hV
    have k' := (h'.below b1).below hV
    exact sameJ J.length jcap jcap' rfl k.j k'.j (fun hp => ⟨(k.jo_ hp).1, (k'.jo_ hp).1⟩) (fun hp => ⟨(k.jo_ hp).2, (k'.jo_ hp).2⟩) (by omega)
  have HB1 := hide b1
  have HW1 := hide hW1
  clear h h' hA hH hJ b1 e1 q1 q2 hW1
  generalize A.length = LA at *
  generalize H.length = LH at *
  generalize J.length = LJ at *
  go_enter Try.func13, Try.ntmps13
  go_upto_region 1 with fail
  rw [HW1.out]
  clear HW1
  obtain ⟨⟨x0, x1, x2, x3, x4, xl⟩, y0, y1, y2, y3, y4, yl⟩ := HQ.out W1 (Below.refl _ _)
  have HC1 := hide (HA1.out W1 (Below.refl _ _))
  go_wp2_with fail
  refine HC1.out.mono ?_
  rintro e w2 ⟨rfl, G2⟩
  have HC2 := hide (HA2.out w2 G2.out)
  clear x0 x1 x2 x3 x4 xl y0 y1 y2 y3 y4 yl HC1
  obtain ⟨⟨x0, x1, x2, x3, x4, xl⟩, y0, y1, y2, y3, y4, yl⟩ := HQ.out w2 G2.out
  go_wp2_with fail
  refine HC2.out.mono ?_
  rintro e w3 ⟨rfl, G3⟩
  have HG3 : Hid (Below W1.heap.size W1 w3) := G2.out.trans (G3.out.mono G2.out.size)
  have HC3 := hide (HA3.out w3 HG3.out)
  clear x0 x1 x2 x3 x4 xl y0 y1 y2 y3 y4 yl HC2 G2 G3
  obtain ⟨⟨x0, x1, x2, x3, x4, xl⟩, y0, y1, y2, y3, y4, yl⟩ := HQ.out w3 HG3.out
  go_wp2_with fail
  refine HC3.out.mono ?_
  rintro e w4 ⟨rfl, G4⟩
  have HE : Hid (Below w.heap.size w w4) := HB1.out.trans ((HG3.out.trans (G4.out.mono HG3.out.size)).mono HB1.out.size)
  clear HC3 G4 HG3 HQ HA1 HA2 HA3
  go_wp2
  go_ret
  exact ⟨rfl, HE⟩
end Go.Proofs.Yteafdpmblbbpnaa
namespace Go.Proofs.Yteafdpmblbbpnaa
open Go.RowKit

theorem TAm.same {W W' : World} {mb n : Nat} {m : Nat → Option Ac} (h : TAm W mb n m) (hb : W'.heap[mb]? = W.heap[mb]?) : TAm W' mb n m := by
  obtain ⟨D, ⟨es, k, h1, h2⟩, h3⟩ := h
  exact ⟨D, ⟨es, k, hb.trans h1, h2⟩, h3⟩
theorem THm.same {W W' : World} {mb n : Nat} {m : Nat → Option Ho} (h : THm W mb n m) (hb : W'.heap[mb]? = W.heap[mb]?) : THm W' mb n m := by
  obtain ⟨D, ⟨es, k, h1, h2⟩, h3⟩ := h
  exact ⟨D, ⟨es, k, hb.trans h1, h2⟩, h3⟩
theorem LG.same {W W' : World} {p a b : Nat} {mk ch : Value} {S : LS} (h : LG W p a b mk ch S) (h1 : W'.heap[p]? = W.heap[p]?) (h2 : W'.heap[a]? = W.heap[a]?) (h3 : W'.heap[b]? = W.heap[b]?) : LG W' p a b mk ch S := by
  obtain ⟨cs, q1, q2⟩ := h.blk
  exact ⟨⟨cs, h1.trans q1, q2⟩, h.acc.same h2, h.hol.same h3, h.ne⟩
theorem row_same {W W' : World} {B s n : Nat} {t : TypeId} {v : Value} {xs : List Value} (h : W.ownsRow B t s v n xs) (hb : ∀ k, v.ownBlock = some k → W'.heap[k]? = W.heap[k]?) : W'.ownsRow B t s v n xs := by
  refine ⟨h.1, ?_⟩
  rcases h.2 with h | ⟨g, cp, cur, rfl, q1, q2, q3⟩
  · exact .inl h
  · exact .inr ⟨g, cp, cur, rfl, q1, (hb g rfl).trans q2, q3⟩
theorem LM.same {W W' : World} {B p a b : Nat} {Z : SZ} {S : LS} (h : LM W B p a b Z S) (hp : ∀ k, k = p ∨ k = a ∨ k = b ∨ Z.mv.ownBlock = some k ∨ Z.cv.ownBlock = some k → W'.heap[k]? = W.heap[k]?) (hf : Fl W W') : LM W' B p a b Z S := by
  obtain ⟨xs, hc, hd⟩ := h.cr
  exact ⟨h.lg.same (hp p (.inl rfl)) (hp a (.inr (.inl rfl))) (hp b (.inr (.inr (.inl rfl)))), row_same h.mr (fun k e => hp k (.inr (.inr (.inr (.inl e))))), ⟨xs, row_same hc (fun k e => hp k (.inr (.inr (.inr (.inr e))))), fun i d v hi hv => (hd i d v hi hv).fl hf⟩, h.lo⟩
/-- Another ledger's blocks are none of its rows. -/
theorem LM.far {W : World} {B p a b p' a' b' : Nat} {Z : SZ} {S S' : LS} {mk ch : Value} (h : LM W B p a b Z S) (h' : LG W p' a' b' mk ch S') : ∀ q, q = p' ∨ q = a' ∨ q = b' → Z.mv.ownBlock ≠ some q ∧ Z.cv.ownBlock ≠ some q := by
  obtain ⟨xs, hc, _⟩ := h.cr
  intro q hq
  obtain ⟨cs, h1, _⟩ := h'.blk
  obtain ⟨es, k, h2⟩ := h'.acc.obj
  obtain ⟨es', k', h3⟩ := h'.hol.obj
  have key : ∀ {t : TypeId} {n : Nat} {v : Value} {ys : List Value}, W.ownsRow B t 1 v n ys → t ≠ 71 → v.ownBlock ≠ some q := fun {t n v ys} hr ht e => by
    rcases hr.2 with ⟨rfl, _⟩ | ⟨g, cp, cur, rfl, _, hg, _⟩
    · cases e
    · cases e
      rcases hq with rfl | rfl | rfl
      · rw [h1] at hg; cases hg; exact ht rfl
      · rw [h2] at hg; cases hg
      · rw [h3] at hg; cases hg
  exact ⟨key h.mr (by decide), key hc (by decide)⟩
theorem Fr3.fl {W W' : World} {p a b : Nat} {mk ch : Value} {S : LS} (h : Fr3 W W' p a b) (hl : LG W p a b mk ch S) : Fl W W' := by
  obtain ⟨cs, h1, _⟩ := hl.blk
  obtain ⟨es, k, h2⟩ := hl.acc.obj
  obtain ⟨es', k', h3⟩ := hl.hol.obj
  refine ⟨h.size, fun q cs' t hq t1 t2 t3 => (h.block q (block_lt hq) (fun e => ?_) (fun e => ?_) (fun e => ?_)).trans hq⟩
  · subst e; rw [h1] at hq; cases hq; exact t1 rfl
  · subst e; rw [h2] at hq; cases hq
  · subst e; rw [h3] at hq; cases hq
/-- Two ledgers: one with marks, at S; one without, at S'. -/
structure Tw (w : World) (p a b p' a' b' m N : Nat) (S S' : LS) (V : World) : Prop where
  bel : Below w.heap.size w V
  l : ∃ Z, LM V w.heap.size p a b Z S ∧ Z.ms.length = m ∧ Z.cs.length ≤ N
  k : LG V p' a' b' nilS nilS S'
  ne : p < p' ∧ a < p' ∧ b < p' ∧ p < a' ∧ a < a' ∧ b < a' ∧ p < b' ∧ a < b' ∧ b < b' ∧ w.heap.size ≤ p' ∧ w.heap.size ≤ a' ∧ w.heap.size ≤ b'
section
variable {w : World} {p a b p' a' b' m N : Nat} {S S' S1 : LS} {V V' : World}
theorem Tw.kept (h : Tw w p a b p' a' b' m N S S' V) (hb : Below V.heap.size V V') : Tw w p a b p' a' b' m N S S' V' := by
  obtain ⟨Z, h1, h2⟩ := h.l
  exact ⟨h.bel.trans (hb.mono h.bel.size), ⟨Z, h1.kept hb, h2⟩, h.k.kept hb, h.ne⟩
theorem Tw.le {M : Nat} (h : Tw w p a b p' a' b' m N S S' V) (hM : N ≤ M) : Tw w p a b p' a' b' m M S S' V := by
  obtain ⟨Z, h1, h2, h3⟩ := h.l
  exact ⟨h.bel, ⟨Z, h1, h2, by omega⟩, h.k, h.ne⟩
/-- The first ledger goes on. -/
theorem Tw.ltr (h : Tw w p a b p' a' b' m N S S' V) {Z Z' : SZ} {M : Nat} (hZ : LM V w.heap.size p a b Z S) (hl : LM V' w.heap.size p a b Z' S1) (ht : Tr V V' p a b Z Z') (hN : Z'.cs.length ≤ M) : Tw w p a b p' a' b' Z'.ms.length M S1 S' V' := by
  obtain ⟨n1, n2, n3, n4, n5, n6, n7, n8, n9, n10, n11, n12⟩ := h.ne
  have hf := hZ.far h.k
  have lt := h.k.lt
  have lo := hZ.lo
  obtain ⟨xs, hc, _⟩ := hZ.cr
  have row : ∀ {t : TypeId} {n k : Nat} {v : Value} {ys : List Value}, V.ownsRow w.heap.size t 1 v n ys → v.ownBlock = some k → w.heap.size ≤ k := fun {t n k v ys} hr e => (hr.lt k e).1
  refine ⟨⟨ht.os.trans h.bel.os, ht.tape.trans h.bel.tape, ht.output.trans h.bel.output, Nat.le_trans h.bel.size ht.size, fun k hk => (ht.block k (Nat.lt_of_lt_of_le hk h.bel.size) (by omega) (by omega) (by omega) (fun e => by have := row hZ.mr e; omega) (fun e => by have := row hc e; omega)).trans (h.bel.block k hk)⟩, ⟨Z', hl, rfl, hN⟩, h.k.same (ht.block _ lt.1 (by omega) (by omega) (by omega) (hf _ (.inl rfl)).1 (hf _ (.inl rfl)).2) (ht.block _ lt.2.1 (by omega) (by omega) (by omega) (hf _ (.inr (.inl rfl))).1 (hf _ (.inr (.inl rfl))).2) (ht.block _ lt.2.2 (by omega) (by omega) (by omega) (hf _ (.inr (.inr rfl))).1 (hf _ (.inr (.inr rfl))).2), h.ne⟩
/-- The second ledger goes on. -/
theorem Tw.ktr (h : Tw w p a b p' a' b' m N S S' V) (hk : LgP V V' p' a' b' nilS S1) : Tw w p a b p' a' b' m N S S1 V' := by
  obtain ⟨n1, n2, n3, n4, n5, n6, n7, n8, n9, n10, n11, n12⟩ := h.ne
  obtain ⟨Z, hZ, hm, hN⟩ := h.l
  have hf := hZ.far h.k
  have lt := hZ.lg.lt
  obtain ⟨xs, hc, _⟩ := hZ.cr
  have row : ∀ {t : TypeId} {n k : Nat} {v : Value} {ys : List Value}, V.ownsRow w.heap.size t 1 v n ys → v.ownBlock = some k → k < V.heap.size := fun {t n k v ys} hr e => (hr.lt k e).2
  have hl := hZ.same (W' := V') (fun k e => by
    rcases e with rfl | rfl | rfl | e | e
    · exact hk.2.block _ lt.1 (by omega) (by omega) (by omega)
    · exact hk.2.block _ lt.2.1 (by omega) (by omega) (by omega)
    · exact hk.2.block _ lt.2.2 (by omega) (by omega) (by omega)
    · exact hk.2.block _ (row hZ.mr e) (fun e' => (hf k (.inl e')).1 e) (fun e' => (hf k (.inr (.inl e'))).1 e) (fun e' => (hf k (.inr (.inr e'))).1 e)
    · exact hk.2.block _ (row hc e) (fun e' => (hf k (.inl e')).2 e) (fun e' => (hf k (.inr (.inl e'))).2 e) (fun e' => (hf k (.inr (.inr e'))).2 e)) (hk.2.fl h.k)
  exact ⟨hk.2.bel h.bel n10 n11 n12, ⟨Z, hl, hm, hN⟩, hk.1, h.ne⟩
end
end Go.Proofs.Yteafdpmblbbpnaa
