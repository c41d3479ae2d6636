import Derived.Test.YteafdpmblbbpnaaLS30
namespace Go.Proofs.Yteafdpmblbbpnaa
open Go.RowKit

/-- What a line of the journal did to the ledger. -/
structure Ln (S : LS) (e : Jn) (T : LS) : Prop where
  s : S.Ok
  t : T.Ok
  tot : T.tot = S.tot
  sq : e.sq = S.nx
  nx : T.nx = S.nx + 1
  rg : T.rg = fun k => if k = S.nx % 64 then e else S.rg k
  ein : e.In
  did : (e.kd = 1 ∧ byK Ac.id S.acc e.fr = none ∧ (∃ ow, T.acc = insK Ac.id S.acc ⟨e.fr, ow, 0, e.am⟩) ∧ T.hol = S.hol)
    ∨ (e.kd = 2 ∧ (∃ a, byK Ac.id S.acc e.fr = some a ∧ a.ba = 0) ∧ T.acc = remK Ac.id S.acc e.fr ∧ T.hol = S.hol)
    ∨ (e.kd = 3 ∧ e.fr ≠ e.tw ∧ (∃ a b, byK Ac.id S.acc e.fr = some a ∧ byK Ac.id S.acc e.tw = some b ∧ e.am ≤ a.ba ∧ e.am ≤ b.cp - b.ba ∧ T.acc = repK Ac.id (repK Ac.id S.acc { a with ba := a.ba - e.am }) { b with ba := b.ba + e.am }) ∧ T.hol = S.hol)
    ∨ (e.kd = 4 ∧ e.am ≠ 0 ∧ byK Ho.id S.hol e.tw = none ∧ (∃ a, byK Ac.id S.acc e.fr = some a ∧ e.am ≤ a.ba ∧ T.acc = repK Ac.id S.acc { a with ba := a.ba - e.am }) ∧ T.hol = insK Ho.id S.hol ⟨e.tw, e.fr, e.am⟩)
    ∨ (e.kd = 5 ∧ (∃ h b, byK Ho.id S.hol e.fr = some h ∧ byK Ac.id S.acc e.tw = some b ∧ e.am ≤ h.am ∧ e.am ≤ b.cp - b.ba ∧ T.acc = repK Ac.id S.acc { b with ba := b.ba + e.am } ∧ T.hol = if h.am - e.am = 0 then remK Ho.id S.hol h.id else repK Ho.id S.hol { h with am := h.am - e.am }))
def prA (a : Ac) : Nat × Nat := (a.ba, a.cp)
/-- These accounts (owners aside) and holds, in whatever order, are the ledger's. -/
structure RepS (A : List Ac) (H : List Ho) (S : LS) : Prop where
  na : NdK Ac.id A
  nh : NdK Ho.id H
  la : A.length = S.acc.length
  lh : H.length = S.hol.length
  ba : ∀ x, (byK Ac.id A x).map prA = (byK Ac.id S.acc x).map prA
  bh : ∀ x, byK Ho.id H x = byK Ho.id S.hol x
theorem RepS.own {S : LS} (h : S.Ok) : RepS S.acc S.hol S := ⟨h.ua.nd, h.uh.nd, rfl, rfl, fun _ => rfl, fun _ => rfl⟩
theorem RepS.acc {A : List Ac} {H : List Ho} {S : LS} (h : RepS A H S) {x : Nat} {a : Ac} (ha : byK Ac.id S.acc x = some a) : ∃ b, byK Ac.id A x = some b ∧ b.id = x ∧ b.ba = a.ba ∧ b.cp = a.cp := by
  have := h.ba x
  rw [ha] at this
  cases e : byK Ac.id A x with
  | none => rw [e] at this; cases this
  | some b =>
    rw [e] at this
    simp only [Option.map_some, Option.some.injEq, prA, Prod.mk.injEq] at this
    exact ⟨b, rfl, (byK_mem e).2, this.1, this.2⟩
theorem RepS.no {A : List Ac} {H : List Ho} {S : LS} (h : RepS A H S) {x : Nat} (ha : byK Ac.id S.acc x = none) : byK Ac.id A x = none := by
  have := h.ba x
  rw [ha] at this
  cases e : byK Ac.id A x with
  | none => rfl
  | some b => rw [e] at this; cases this
theorem ho_pos {S : LS} (h : S.Ok) {A : List Ac} {H : List Ho} (hr : RepS A H S) : ∀ x ∈ H, x.am ≠ 0 := fun x hx => by
  have e := hr.nh.by hx
  rw [hr.bh] at e
  exact (h.zh x (byK_mem e).1).2
theorem fm_some {α : Type} {f : α → Option α} : ∀ {l : List α} (_ : ∀ a ∈ l, f a = some a), l.filterMap f = l
  | [], _ => rfl
  | a :: r, h => by rw [List.filterMap_cons, h a (by simp)]; simp only; rw [fm_some (fun y hy => h y (List.mem_cons_of_mem _ hy))]
theorem fm_full {α : Type} {f : α → Option α} : ∀ {l : List α} (_ : ∀ a ∈ l, (f a).isSome = true), (l.filterMap f).length = l.length
  | [], _ => rfl
  | a :: r, h => by
    obtain ⟨b, hb⟩ := Option.isSome_iff_exists.1 (h a (by simp))
    rw [List.filterMap_cons, hb]
    simp only [List.length_cons]
    rw [fm_full (fun y hy => h y (List.mem_cons_of_mem _ hy))]
theorem nd_snoc {α : Type} {key : α → Nat} {l : List α} (h : NdK key l) {a : α} (hn : byK key l (key a) = none) : NdK key (l ++ [a]) := by
  refine List.pairwise_append.2 ⟨h, by simp, fun x hx y hy => ?_⟩
  obtain rfl : y = a := by simpa using hy
  exact byK_none hn x hx
theorem map_or {α β : Type} (f : α → β) (a b : Option α) : (a.or b).map f = (a.map f).or (b.map f) := by cases a <;> rfl
set_option maxHeartbeats 800000 in
/-- The fold goes along with the ledger. -/
theorem fold_step {A : List Ac} {H : List Ho} {S T : LS} {e : Jn} (h : RepS A H S) (hl : Ln S e T) : ∃ A' H', foldF e A H = (A', H', true) ∧ RepS A' H' T := by
  have hz := ho_pos hl.s h
  have keep : e.kd ≠ 5 → H.filterMap (fHf e) = H := fun k => fm_some (fun y hy => by
    unfold fHf foldH
    rw [if_neg (show ¬ (y.id = e.fr ∧ e.kd = 5) from fun h => k h.2), if_neg (hz y hy)])
  have hT := foldT_all e H (A.foldl (foldA e) ⟨false, false, []⟩).tk h.nh
  have hO := foldA_out e A ⟨false, false, []⟩
  have hK := foldA_tk e A ⟨false, false, []⟩ h.na
  rw [List.nil_append] at hO
  have nA := h.na.fm (fAf_key e)
  have bA := byK_fm (fAf_key e) h.na
  rcases hl.did with ⟨k, hno, ⟨ow, hacc⟩, hhol⟩ | ⟨k, ⟨a, ha, ha0⟩, hacc, hhol⟩ | ⟨k, hne, ⟨a, b, ha, hb, h1, h2, hacc⟩, hhol⟩ | ⟨k, hm, hno, ⟨a, ha, h1, hacc⟩, hhol⟩ | ⟨k, x, b, hx, hb, h1, h2, hacc, hhol⟩
  · -- an account is made
    have fs : ∀ a, fAf e a = some a := fun a => by unfold fAf fAm2 fAm1 fA1 fA2 fA3; simp [k]
    have eA : A.filterMap (fAf e) = A := fm_some (fun a _ => fs a)
    have hnoA := h.no hno
    refine ⟨A ++ [⟨e.fr, 0, 0, e.am⟩], H, by unfold foldF; rw [if_pos k, hO, eA, keep (by omega)], nd_snoc h.na hnoA, h.nh, ?_, by rw [hhol]; exact h.lh, fun y => ?_, fun y => by rw [hhol]; exact h.bh y⟩
    · rw [hacc, insK_len, List.length_append, h.la]; rfl
    · rw [hacc, byK_app, byK_one, map_or, h.ba]
      rw [byK_ins hno]
      by_cases e1 : y = e.fr
      · rw [if_pos e1, e1, hno, if_pos rfl]; rfl
      · rw [if_neg e1, if_neg (fun h => e1 h.symm)]
        cases (byK Ac.id S.acc y) <;> rfl
  · -- an account is taken away
    obtain ⟨a', ha', ei, eb, ec⟩ := h.acc ha
    have fs : ∀ y, fAf e y = if y.id = e.fr then none else some y := fun y => by
      unfold fAf fAm2 fAm1 fA1 fA2 fA3
      by_cases e1 : y.id = e.fr <;> simp [k, e1]
    have hG := foldA_gv2 e k A ⟨false, false, []⟩ h.na
    rw [ha'] at hG hK
    dsimp only at hG hK
    rw [if_neg (by omega), if_pos k, eb, ha0] at hK
    have hT2 : H.foldl (foldT e) (A.foldl (foldA e) ⟨false, false, []⟩).tk = true := by
      rw [hT, hK]
      split
      · rw [if_neg (by omega)]; rfl
      · rfl
    refine ⟨A.filterMap (fAf e), H, by unfold foldF; rw [if_neg (by omega), if_neg (by omega), hO, keep (by omega), hT2, hG]; rfl, nA, h.nh, ?_, by rw [hhol]; exact h.lh, fun y => ?_, fun y => by rw [hhol]; exact h.bh y⟩
    · have hlen := fm_len (fAf_key e) (x := e.fr) h.na (fun y _ hn => by
        rw [fs] at hn
        by_cases e1 : y.id = e.fr
        · exact e1
        · rw [if_neg e1] at hn; cases hn)
      rw [ha'] at hlen
      have : fAf e a' = none := by rw [fs, if_pos ei]
      simp [this] at hlen
      have := remK_len hl.s.ua (x := e.fr) (by rw [ha]; rfl)
      have := h.la
      rw [hacc]
      omega
    · rw [bA, hacc, byK_rem]
      by_cases e1 : y = e.fr
      · rw [if_pos e1, e1, ha']
        have : fAf e a' = none := by rw [fs, if_pos ei]
        simp [this]
      · rw [if_neg e1, ← h.ba]
        cases e2 : byK Ac.id A y with
        | none => rfl
        | some z =>
          have : fAf e z = some z := by rw [fs, if_neg (by rw [(byK_mem e2).2]; exact e1)]
          simp [this]
  · -- a payment
    obtain ⟨a', ha', ei, eb, ec⟩ := h.acc ha
    obtain ⟨b', hb', fi, fb, fc⟩ := h.acc hb
    have hma := (byK_mem ha)
    have hmb := (byK_mem hb)
    have ia := hl.s.ia a hma.1
    have ib := hl.s.ia b hmb.1
    have ia2 := ia.h2
    have ib3 := ib.h3
    have ib2 := ib.h2
    have cb := hl.s.ca b hmb.1
    have fs : ∀ y, fAf e y = some (if y.id = e.fr then { y with ba := subW y.ba e.am } else if y.id = e.tw then { y with ba := addW y.ba e.am } else y) := fun y => by
      unfold fAf fAm2 fAm1 fA1 fA2 fA3
      by_cases e1 : y.id = e.fr
      · have : ¬ e.fr = e.tw := hne
        simp [k, e1, this]
      · have : ¬ e.tw = e.fr := fun h => hne h.symm
        by_cases e2 : y.id = e.tw
        · simp [k, e2, this]
        · simp [k, e1, e2]
    have hG := foldA_gv e (fun _ => hne) (by omega) A ⟨false, false, []⟩ h.na
    rw [hb'] at hG
    rw [ha'] at hK
    dsimp only at hK hG
    rw [if_pos (by omega), eb, decide_eq_true h1] at hK
    rw [if_pos (by omega), fb, fc, subW_le cb ib3, decide_eq_true h2] at hG
    have hT2 : H.foldl (foldT e) (A.foldl (foldA e) ⟨false, false, []⟩).tk = true := by
      rw [hT, hK]
      split
      · rw [if_neg (by omega)]
      · rfl
    refine ⟨A.filterMap (fAf e), H, by unfold foldF; rw [if_neg (by omega), if_neg (by omega), hO, keep (by omega), hT2, hG]; rfl, nA, h.nh, ?_, by rw [hhol]; exact h.lh, fun y => ?_, fun y => by rw [hhol]; exact h.bh y⟩
    · have hlen := fm_full (l := A) (f := fAf e) (fun y _ => by rw [fs]; rfl)
      rw [hacc, repK_len, repK_len, hlen, h.la]
    · rw [bA, hacc]
      have p1 : (byK Ac.id S.acc a.id).isSome = true := by rw [hma.2, ha]; rfl
      have q1 : byK Ac.id (repK Ac.id S.acc { a with ba := a.ba - e.am }) b.id = some b := by
        rw [byK_rep (key := Ac.id) (a := ⟨a.id, a.ow, a.ba - e.am, a.cp⟩) p1, hmb.2, if_neg (show ¬ e.tw = a.id by rw [hma.2]; exact fun h => hne h.symm)]
        exact hb
      rw [byK_rep (by show (byK Ac.id _ b.id).isSome = true; rw [q1]; rfl), byK_rep (key := Ac.id) (a := ⟨a.id, a.ow, a.ba - e.am, a.cp⟩) p1]
      show _ = Option.map prA (if y = b.id then some { b with ba := b.ba + e.am } else if y = a.id then some { a with ba := a.ba - e.am } else byK Ac.id S.acc y)
      rw [hma.2, hmb.2]
      by_cases e1 : y = e.fr
      · rw [if_neg (by rw [e1]; exact hne), if_pos e1, e1, ha']
        simp [fs a', ei, prA, eb, ec, subW_le h1 ia2]
      · by_cases e2 : y = e.tw
        · rw [if_pos e2, e2, hb']
          simp [fs b', fi, prA, fb, fc, addW_le (show b.ba + e.am < 18446744073709551616 by omega), show ¬ e.tw = e.fr from fun h => hne h.symm]
        · rw [if_neg e2, if_neg e1, ← h.ba]
          cases e3 : byK Ac.id A y with
          | none => rfl
          | some z =>
            have := (byK_mem e3).2
            simp [fs z, this, e1, e2]
  · -- a hold
    obtain ⟨a', ha', ei, eb, ec⟩ := h.acc ha
    have hma := (byK_mem ha)
    have ia2 := (hl.s.ia a hma.1).h2
    have fs : ∀ y, fAf e y = some (if y.id = e.fr then { y with ba := subW y.ba e.am } else y) := fun y => by
      unfold fAf fAm2 fAm1 fA1 fA2 fA3
      by_cases e1 : y.id = e.fr <;> simp [k, e1]
    rw [ha'] at hK
    dsimp only at hK
    rw [if_pos (by omega), eb, decide_eq_true h1] at hK
    have hT2 : H.foldl (foldT e) (A.foldl (foldA e) ⟨false, false, []⟩).tk = true := by
      rw [hT, hK]
      split
      · rw [if_neg (by omega)]
      · rfl
    have hnoH : byK Ho.id H e.tw = none := by rw [h.bh]; exact hno
    refine ⟨A.filterMap (fAf e), H ++ [⟨e.tw, e.fr, e.am⟩], by unfold foldF; rw [if_neg (by omega), if_pos k, hO, keep (by omega), hT2], nA, nd_snoc h.nh hnoH, ?_, by rw [hhol, insK_len, List.length_append, h.lh]; rfl, fun y => ?_, fun y => ?_⟩
    · have hlen := fm_full (l := A) (f := fAf e) (fun y _ => by rw [fs]; rfl)
      rw [hacc, repK_len, hlen, h.la]
    · rw [bA, hacc, byK_rep (by show (byK Ac.id S.acc a.id).isSome = true; rw [hma.2, ha]; rfl)]
      show _ = Option.map prA (if y = a.id then some { a with ba := a.ba - e.am } else byK Ac.id S.acc y)
      rw [hma.2]
      by_cases e1 : y = e.fr
      · rw [if_pos e1, e1, ha']
        simp [fs a', ei, prA, eb, ec, subW_le h1 ia2]
      · rw [if_neg e1, ← h.ba]
        cases e3 : byK Ac.id A y with
        | none => rfl
        | some z =>
          have := (byK_mem e3).2
          simp [fs z, this, e1]
    · rw [hhol, byK_app, byK_one, byK_ins hno, h.bh]
      by_cases e1 : y = e.tw
      · rw [if_pos e1, e1, hno, if_pos rfl]; rfl
      · rw [if_neg e1, if_neg (fun h => e1 h.symm)]
        cases (byK Ho.id S.hol y) <;> rfl
  · -- a payment out of a hold
    obtain ⟨b', hb', fi, fb, fc⟩ := h.acc hb
    have hx' : byK Ho.id H e.fr = some x := by rw [h.bh]; exact hx
    have hmx := (byK_mem hx)
    have hmb := (byK_mem hb)
    have ib := hl.s.ia b hmb.1
    have ib3 := ib.h3
    have ix := (hl.s.ih x hmx.1).h2
    have cb := hl.s.ca b hmb.1
    have fs : ∀ y, fAf e y = some (if y.id = e.tw then { y with ba := addW y.ba e.am } else y) := fun y => by
      unfold fAf fAm2 fAm1 fA1 fA2 fA3
      by_cases e1 : y.id = e.tw <;> simp [k, e1]
    have hG := foldA_gv e (fun k3 => by omega) (by omega) A ⟨false, false, []⟩ h.na
    rw [hb'] at hG
    dsimp only at hG
    rw [if_pos (by omega), fb, fc, subW_le cb ib3, decide_eq_true h2] at hG
    have hT2 : H.foldl (foldT e) (A.foldl (foldA e) ⟨false, false, []⟩).tk = true := by
      rw [hT, hx']
      dsimp only
      rw [if_pos k, decide_eq_true h1]
    have nH := h.nh.fm (fHf_key e)
    have bH := byK_fm (fHf_key e) h.nh
    have hfx : fHf e x = if x.am - e.am = 0 then none else some { x with am := x.am - e.am } := by
      have e1 : foldH e x = { x with am := x.am - e.am } := by
        unfold foldH
        rw [if_pos ⟨hmx.2, k⟩, subW_le h1 ix]
      unfold fHf
      rw [e1]
    have hfo : ∀ y ∈ H, y.id ≠ e.fr → fHf e y = some y := fun y hy hne => by
      have e1 : foldH e y = y := by
        unfold foldH
        rw [if_neg (fun h => hne h.1)]
      unfold fHf
      rw [e1, if_neg (hz y hy)]
    refine ⟨A.filterMap (fAf e), H.filterMap (fHf e), by unfold foldF; rw [if_neg (by omega), if_neg (by omega), hO, hT2, hG]; rfl, nA, nH, ?_, ?_, fun y => ?_, fun y => ?_⟩
    · have hlen := fm_full (l := A) (f := fAf e) (fun y _ => by rw [fs]; rfl)
      rw [hacc, repK_len, hlen, h.la]
    · have hlen := fm_len (fHf_key e) (x := e.fr) h.nh (fun y hy hn => by
        by_cases e1 : y.id = e.fr
        · exact e1
        · rw [hfo y hy e1] at hn; cases hn)
      rw [hx'] at hlen
      simp only [Option.bind_some, hfx, Option.isSome_some, and_true] at hlen
      rw [hhol]
      by_cases e0 : x.am - e.am = 0
      · rw [if_pos e0] at hlen ⊢
        have := remK_len hl.s.uh (x := x.id) (by rw [hmx.2, hx]; rfl)
        have := h.lh
        simp at hlen
        omega
      · rw [if_neg e0] at hlen ⊢
        rw [repK_len]
        have := h.lh
        rw [if_neg (by simp)] at hlen
        omega
    · rw [bA, hacc, byK_rep (by show (byK Ac.id S.acc b.id).isSome = true; rw [hmb.2, hb]; rfl)]
      show _ = Option.map prA (if y = b.id then some { b with ba := b.ba + e.am } else byK Ac.id S.acc y)
      rw [hmb.2]
      by_cases e1 : y = e.tw
      · rw [if_pos e1, e1, hb']
        simp [fs b', fi, prA, fb, fc, addW_le (show b.ba + e.am < 18446744073709551616 by omega)]
      · rw [if_neg e1, ← h.ba]
        cases e3 : byK Ac.id A y with
        | none => rfl
        | some z =>
          have := (byK_mem e3).2
          simp [fs z, this, e1]
    · rw [bH, hhol]
      by_cases e1 : y = e.fr
      · rw [e1, hx']
        simp only [Option.bind_some, hfx]
        by_cases e0 : x.am - e.am = 0
        · rw [if_pos e0, if_pos e0, byK_rem, if_pos hmx.2.symm]
        · rw [if_neg e0, if_neg e0, byK_rep (by show (byK Ho.id S.hol x.id).isSome = true; rw [hmx.2, hx]; rfl), if_pos (show e.fr = x.id from hmx.2.symm)]
      · have : (byK Ho.id H y).bind (fHf e) = byK Ho.id H y := by
          cases e3 : byK Ho.id H y with
          | none => rfl
          | some z =>
            have := byK_mem e3
            simp [hfo z this.1 (by rw [this.2]; exact e1)]
        rw [this, h.bh]
        by_cases e0 : x.am - e.am = 0
        · rw [if_pos e0, byK_rem, if_neg (by rw [hmx.2]; exact e1)]
        · rw [if_neg e0, byK_rep (by show (byK Ho.id S.hol x.id).isSome = true; rw [hmx.2, hx]; rfl), if_neg (show ¬ y = x.id by rw [hmx.2]; exact e1)]
end Go.Proofs.Yteafdpmblbbpnaa
namespace Go.Proofs.Yteafdpmblbbpnaa
open Go.RowKit

theorem line_in {S : LS} (h : S.Ok) {kd fr tw am : Nat} (h1 : kd < 9223372036854775808) (h2 : fr < 18446744073709551616) (h3 : tw < 18446744073709551616) (h4 : am < 18446744073709551616) : (⟨S.nx, kd, fr, tw, am⟩ : Jn).In := ⟨by show S.nx < _; have := h.n1; omega, h1, h2, h3, h4⟩
theorem creates_ln {S T : LS} (h : S.Ok) {id ow cp : Nat} (h0 : id < 18446744073709551616) (h1 : ow < 18446744073709551616) (h2 : cp < 18446744073709551616) (hS : S.creates id ow cp = (0, T)) : Ln S ⟨S.nx, 1, id, 0, cp⟩ T := by
  have hT := h.creates h0 h1 h2
  rw [hS] at hT
  unfold LS.creates at hS
  split at hS
  · cases hS
  split at hS
  · cases hS
  split at hS
  · cases hS
  rename_i c0 c1 c2
  cases hS
  exact ⟨h, hT, rfl, rfl, rfl, rfl, line_in h (by decide) h0 (by decide) h2, .inl ⟨rfl, by simpa using c1, ⟨ow, rfl⟩, rfl⟩⟩
theorem closes_ln {S T : LS} (h : S.Ok) {id : Nat} (h0 : id < 18446744073709551616) (hS : S.closes id = (0, T)) : Ln S ⟨S.nx, 2, id, 0, 0⟩ T := by
  have hT := h.closes h0
  rw [hS] at hT
  unfold LS.closes at hS
  split at hS
  · cases hS
  split at hS
  · cases hS
  rename_i a ha
  split at hS
  · cases hS
  rename_i c1
  split at hS
  · cases hS
  rw [not_or] at c1
  cases hS
  exact ⟨h, hT, rfl, rfl, rfl, rfl, line_in h (by decide) h0 (by decide) (by decide), .inr (.inl ⟨rfl, ⟨a, ha, by have := c1.1; omega⟩, rfl, rfl⟩)⟩
theorem moves_ln {S T : LS} (h : S.Ok) {f t m : Nat} (h0 : f < 18446744073709551616) (h1 : t < 18446744073709551616) (h2 : m < 18446744073709551616) (hS : S.moves f t m = (0, T)) : Ln S ⟨S.nx, 3, f, t, m⟩ T := by
  have hT := h.moves (m := m) h0 h1
  rw [hS] at hT
  unfold LS.moves at hS
  split at hS
  · cases hS
  split at hS
  · rename_i a b ha hb
    split at hS
    · cases hS
    split at hS
    · cases hS
    split at hS
    · cases hS
    split at hS
    · cases hS
    split at hS
    · cases hS
    rename_i c1 c2 c3 c4 c5
    cases hS
    exact ⟨h, hT, rfl, rfl, rfl, rfl, line_in h (by decide) h0 h1 h2, .inr (.inr (.inl ⟨rfl, c1, ⟨a, b, ha, hb, by show m ≤ a.ba; omega, by show m ≤ b.cp - b.ba; omega, rfl⟩, rfl⟩))⟩
  · cases hS
theorem holds_ln {S T : LS} (h : S.Ok) {x f m : Nat} (h0 : x < 18446744073709551616) (h1 : f < 18446744073709551616) (h2 : m < 18446744073709551616) (hS : S.holds x f m = (0, T)) : Ln S ⟨S.nx, 4, f, x, m⟩ T := by
  have hT := h.holds (m := m) h0 h1
  rw [hS] at hT
  unfold LS.holds at hS
  split at hS
  · cases hS
  split at hS
  · cases hS
  split at hS
  · cases hS
  rename_i a ha
  split at hS
  · cases hS
  split at hS
  · cases hS
  split at hS
  · cases hS
  rename_i c1 _ c3 c4 c5
  cases hS
  exact ⟨h, hT, rfl, rfl, rfl, rfl, line_in h (by decide) h1 h0 h2, .inr (.inr (.inr (.inl ⟨rfl, c3, by simpa using c1, ⟨a, ha, by show m ≤ a.ba; omega, rfl⟩, rfl⟩)))⟩
theorem paysOut_ln {S : LS} (h : S.Ok) {x t m : Nat} (h0 : x < 18446744073709551616) (h1 : t < 18446744073709551616) (h2 : m < 18446744073709551616) {y : Ho} {a : Ac} (hy : byK Ho.id S.hol x = some y) (ha : byK Ac.id S.acc t = some a) (hm : m ≤ y.am) (hc : m ≤ a.cp - a.ba) (hf : S.full 1 = false) : Ln S ⟨S.nx, 5, x, t, m⟩ (S.paysOut x t m) := by
  have hT := h.paysOut h0 h1 hy ha hc hf
  refine ⟨h, hT, rfl, rfl, rfl, rfl, line_in h (by decide) h0 h1 h2, .inr (.inr (.inr (.inr ⟨rfl, y, a, hy, ha, hm, hc, ?_, ?_⟩)))⟩
  · unfold LS.paysOut
    rw [hy, ha]
    rfl
  · unfold LS.paysOut
    rw [hy, ha]
    rfl
theorem pays_ln {S T : LS} (h : S.Ok) {x t m : Nat} (h0 : x < 18446744073709551616) (h1 : t < 18446744073709551616) (h2 : m < 18446744073709551616) (hS : S.pays x t m = (0, T)) : Ln S ⟨S.nx, 5, x, t, m⟩ T := by
  unfold LS.pays at hS
  split at hS
  · cases hS
  split at hS
  · rename_i y a hy ha
    split at hS
    · cases hS
    split at hS
    · cases hS
    split at hS
    · cases hS
    split at hS
    · cases hS
    rename_i c2 c3 c4 c5
    cases hS
    exact paysOut_ln h h0 h1 h2 hy ha (by omega) (by omega) (by simpa using c5)
  · cases hS
/-- The lines that lead from one ledger to another. -/
inductive Rn : LS → List Jn → LS → Prop where
  | nil (S : LS) : Rn S [] S
  | snoc {S T U : LS} {es : List Jn} {e : Jn} : Rn S es T → Ln T e U → Rn S (es ++ [e]) U
theorem Rn.one {S T : LS} {e : Jn} (h : Ln S e T) : Rn S [e] T := Rn.snoc (es := []) (.nil S) h
theorem Rn.trans {S T : LS} {es : List Jn} (h : Rn S es T) : ∀ {fs : List Jn} {U : LS}, Rn T fs U → Rn S (es ++ fs) U := by
  intro fs U h2
  induction h2 with
  | nil => simpa using h
  | snoc _ hl ih => rw [← List.append_assoc]; exact .snoc ih hl
theorem Rn.nx {S T : LS} {es : List Jn} (h : Rn S es T) : T.nx = S.nx + es.length := by
  induction h with
  | nil => rfl
  | snoc _ hl ih => rw [hl.nx, ih, List.length_append]; rfl
theorem Rn.ok {S T : LS} {es : List Jn} (h : Rn S es T) (hS : S.Ok) : T.Ok := by
  cases h with
  | nil => exact hS
  | snoc _ hl => exact hl.t
/-- Line i has its number. -/
theorem Rn.sq {S T : LS} {es : List Jn} (h : Rn S es T) : ∀ (i : Nat) (e : Jn), es[i]? = some e → e.sq = S.nx + i ∧ e.In := by
  induction h with
  | nil => intro i e he; simp at he
  | @snoc T U es e' hr hl ih =>
    intro i e he
    by_cases hi : i < es.length
    · rw [List.getElem?_append_left hi] at he
      exact ih i e he
    · have hi2 := (List.getElem?_eq_some_iff.1 he).1
      rw [List.length_append] at hi2
      simp only [List.length_cons, List.length_nil] at hi2
      obtain rfl : i = es.length := by omega
      rw [List.getElem?_append_right (Nat.le_refl _), Nat.sub_self] at he
      simp at he
      subst he
      exact ⟨by rw [hl.sq, hr.nx], hl.ein⟩
/-- The last 64 lines stand in the ring. -/
theorem Rn.ring {S T : LS} {es : List Jn} (h : Rn S es T) : ∀ (i : Nat) (e : Jn), es[i]? = some e → es.length ≤ i + 64 → T.rg ((S.nx + i) % 64) = e := by
  induction h with
  | nil => intro i e he; simp at he
  | @snoc T U es e' hr hl ih =>
    intro i e he h64
    rw [List.length_append] at h64
    simp only [List.length_cons, List.length_nil] at h64
    rw [hl.rg]
    by_cases hi : i < es.length
    · rw [List.getElem?_append_left hi] at he
      show (if (S.nx + i) % 64 = T.nx % 64 then e' else T.rg ((S.nx + i) % 64)) = e
      rw [hr.nx, if_neg (by omega)]
      exact ih i e he (by omega)
    · have hi2 := (List.getElem?_eq_some_iff.1 he).1
      rw [List.length_append] at hi2
      simp only [List.length_cons, List.length_nil] at hi2
      obtain rfl : i = es.length := by omega
      rw [List.getElem?_append_right (Nat.le_refl _), Nat.sub_self] at he
      simp at he
      show (if (S.nx + es.length) % 64 = T.nx % 64 then e' else _) = e
      rw [hr.nx, if_pos rfl]
      exact he
/-- The journal as it is told. -/
def LS.jl (S : LS) : List Jn := (List.range (min (S.nx - 1) 64)).map (fun i => S.rg ((S.nx - min (S.nx - 1) 64 + i) % 64))
theorem LS.jl_len (S : LS) : S.jl.length = min (S.nx - 1) 64 := by unfold LS.jl; simp
theorem LS.jl_at (S : LS) {i : Nat} (h : i < min (S.nx - 1) 64) : S.jl[i]? = some (S.rg ((S.nx - min (S.nx - 1) 64 + i) % 64)) := by
  unfold LS.jl
  rw [List.getElem?_map, List.getElem?_range h]
  rfl
theorem LS.jl_in {S : LS} (h : S.Ok) : ∀ x ∈ S.jl, x.In := fun x hx => by
  unfold LS.jl at hx
  obtain ⟨i, _, rfl⟩ := List.mem_map.1 hx
  exact h.ij _
/-- As long as nothing has fallen out, the journal is the lines. -/
theorem Rn.jl {S T : LS} {es : List Jn} (h : Rn S es T) (h1 : S.nx = 1) (hl : es.length ≤ 64) : T.jl = es := by
  have hn := h.nx
  have em : min (T.nx - 1) 64 = es.length := by omega
  refine List.ext_getElem? (fun i => ?_)
  by_cases hi : i < es.length
  · rw [T.jl_at (by omega), em]
    obtain ⟨e, he⟩ : ∃ e, es[i]? = some e := ⟨_, List.getElem?_eq_getElem hi⟩
    have := h.ring i e he (by omega)
    rw [h1] at this
    rw [he, show T.nx - es.length + i = 1 + i by omega, this]
  · rw [List.getElem?_eq_none (by rw [T.jl_len]; omega), List.getElem?_eq_none (by omega)]
/-- The fold goes along with all lines. -/
theorem Rn.fold {S T : LS} {es : List Jn} (h : Rn S es T) {A : List Ac} {H : List Ho} (h0 : RepS A H S) : ∃ AH : Nat → List Ac × List Ho, AH 0 = (A, H) ∧ (∀ (i : Nat) (e : Jn), es[i]? = some e → foldF e (AH i).1 (AH i).2 = ((AH (i + 1)).1, (AH (i + 1)).2, true)) ∧ RepS (AH es.length).1 (AH es.length).2 T := by
  induction h with
  | nil => exact ⟨fun _ => (A, H), rfl, fun i e he => by simp at he, h0⟩
  | @snoc T U es e' hr hl ih =>
    obtain ⟨AH, z0, z1, z2⟩ := ih
    obtain ⟨A', H', q1, q2⟩ := fold_step z2 hl
    refine ⟨fun i => if i ≤ es.length then AH i else (A', H'), by show (if 0 ≤ es.length then AH 0 else _) = _; rw [if_pos (Nat.zero_le _)]; exact z0, fun i e he => ?_, ?_⟩
    · by_cases hi : i < es.length
      · rw [List.getElem?_append_left hi] at he
        simp only
        rw [if_pos (by omega), if_pos (by omega)]
        exact z1 i e he
      · have hi2 := (List.getElem?_eq_some_iff.1 he).1
        rw [List.length_append] at hi2
        simp only [List.length_cons, List.length_nil] at hi2
        obtain rfl : i = es.length := by omega
        rw [List.getElem?_append_right (Nat.le_refl _), Nat.sub_self] at he
        simp at he
        subst he
        simp only
        rw [if_pos (Nat.le_refl _), if_neg (by omega)]
        exact q1
    · rw [List.length_append]
      simp only [List.length_cons, List.length_nil]
      rw [if_neg (by omega)]
      exact q2
theorem settles_rn {S T : LS} (h : S.Ok) {id : Nat} (hi : id < 18446744073709551616) {l : List Sh} (hin : ∀ s ∈ l, s.In) (hS : S.settles id l = (0, T)) : ∃ es, es.length = l.length ∧ Rn S es T ∧ l.length ≤ 16 := by
  have hS0 := hS
  unfold LS.settles at hS
  split at hS
  · cases hS
  rename_i c0
  split at hS
  · cases hS
  rename_i x hx
  split at hS
  · cases hS
  rename_i c1
  by_cases hf : S.sf x l = 0
  · have hy := LS.settles_yes c0 hx c1 hf
    have hT : T = l.foldl (fun S s => S.paysOut id s.tw s.am) S := by
      have := hS0.symm.trans hy.1
      cases this
      rfl
    have hkn := LS.known hy.2.1
    have key : ∀ k, k ≤ l.length → ∃ es, es.length = k ∧ Rn S es ((l.take k).foldl (fun S s => S.paysOut id s.tw s.am) S) ∧ Stp S id x.am l k ((l.take k).foldl (fun S s => S.paysOut id s.tw s.am) S) := by
      intro k
      induction k with
      | zero => intro _; exact ⟨[], rfl, .nil S, Stp.start h hx⟩
      | succ k ih =>
        intro hk
        obtain ⟨es, e1, e2, e3⟩ := ih (by omega)
        obtain ⟨y, hyk⟩ : ∃ y, l[k]? = some y := ⟨_, List.getElem?_eq_getElem (by omega)⟩
        have hyin := hin y (List.mem_of_getElem? hyk)
        obtain ⟨⟨hh, zz, d1, d2, d3, d4⟩, hstp⟩ := e3.next hyk hi hyin hkn hy.2.2.1 (fun t ht => LS.fit_le hy.2.2.2.1 t ht) hy.2.2.2.2
        have hfu : ((l.take k).foldl (fun S s => S.paysOut id s.tw s.am) S).full 1 = false := by
          have h1 := hy.2.2.2.2
          unfold LS.full at h1 ⊢
          have h2 := of_decide_eq_false h1
          have := e3.nx
          exact decide_eq_false (by omega)
        have hln := paysOut_ln e3.ok hi hyin.h0 hyin.h1 d1 d2 d3 d4 hfu
        have e5 : (l.take (k + 1)).foldl (fun S s => S.paysOut id s.tw s.am) S = ((l.take k).foldl (fun S s => S.paysOut id s.tw s.am) S).paysOut id y.tw y.am := by
          have e5 : l.take (k + 1) = l.take k ++ [y] := by rw [List.take_add_one, hyk]; rfl
          rw [e5, List.foldl_append]
          rfl
        rw [e5]
        exact ⟨_, by rw [List.length_append, e1]; rfl, .snoc e2 hln, hstp⟩
    obtain ⟨es, e1, e2, _⟩ := key l.length (Nat.le_refl _)
    rw [List.take_length] at e2
    exact ⟨es, e1, by rw [hT]; exact e2, by omega⟩
  · have := LS.settles_no c0 hx c1 hf
    rw [this] at hS0
    have := congrArg Prod.fst hS0
    exact absurd this hf
/-- A step of a script: its answer and the ledger behind it. -/
def LS.step (S : LS) (k a b c : Nat) (l : List Sh) : Nat × LS :=
  if k = 1 then S.creates a b c else if k = 2 then S.closes a else if k = 3 then S.moves a b c else if k = 4 then S.holds a b c else if k = 5 then S.pays a b c else S.settles a l
theorem step_rn {S T : LS} (h : S.Ok) {k a b c : Nat} {l : List Sh} (ha : a < 18446744073709551616) (hb : b < 18446744073709551616) (hc : c < 18446744073709551616) (hin : ∀ s ∈ l, s.In) (hS : S.step k a b c l = (0, T)) : ∃ es, es.length = (if k = 1 ∨ k = 2 ∨ k = 3 ∨ k = 4 ∨ k = 5 then 1 else l.length) ∧ Rn S es T ∧ es.length ≤ 16 := by
  unfold LS.step at hS
  by_cases k1 : k = 1
  · rw [if_pos k1] at hS; exact ⟨_, by simp [k1], Rn.one (creates_ln h ha hb hc hS), by simp⟩
  rw [if_neg k1] at hS
  by_cases k2 : k = 2
  · rw [if_pos k2] at hS; exact ⟨_, by simp [k2], Rn.one (closes_ln h ha hS), by simp⟩
  rw [if_neg k2] at hS
  by_cases k3 : k = 3
  · rw [if_pos k3] at hS; exact ⟨_, by simp [k3], Rn.one (moves_ln h ha hb hc hS), by simp⟩
  rw [if_neg k3] at hS
  by_cases k4 : k = 4
  · rw [if_pos k4] at hS; exact ⟨_, by simp [k4], Rn.one (holds_ln h ha hb hc hS), by simp⟩
  rw [if_neg k4] at hS
  by_cases k5 : k = 5
  · rw [if_pos k5] at hS; exact ⟨_, by simp [k5], Rn.one (pays_ln h ha hb hc hS), by simp⟩
  rw [if_neg k5] at hS
  obtain ⟨es, e1, e2, e3⟩ := settles_rn h ha hin hS
  exact ⟨es, by rw [e1, if_neg (by omega)], e2, by omega⟩
end Go.Proofs.Yteafdpmblbbpnaa
