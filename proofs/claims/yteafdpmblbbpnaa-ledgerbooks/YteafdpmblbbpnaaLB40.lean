import Derived.Test.YteafdpmblbbpnaaLB39
namespace Go.Proofs.Yteafdpmblbbpnaa
open Go.RowKit

/-- What a line of the journal did to the ledger. -/
structure Ln (S : LS) (e : Jn) (T : LS) : Prop where
  s : S.Ok
  t : T.Ok
  tot : T.tot = S.tot
  sq : e.sq = S.nx
  nx : T.nx = S.nx + 1
  rg : T.rg = fun k => if k = S.nx % 64 then e else S.rg k
  ein : e.In
  did : (e.kd = 1 ∧ byK Ac.id S.acc e.fr = none ∧ (∃ ow, T.acc = insK Ac.id S.acc ⟨e.fr, ow, 0, e.am⟩) ∧ T.hol = S.hol)
    ∨ (e.kd = 2 ∧ (∃ a, byK Ac.id S.acc e.fr = some a ∧ a.ba = 0) ∧ T.acc = remK Ac.id S.acc e.fr ∧ T.hol = S.hol)
    ∨ (e.kd = 3 ∧ e.fr ≠ e.tw ∧ (∃ a b, byK Ac.id S.acc e.fr = some a ∧ byK Ac.id S.acc e.tw = some b ∧ e.am ≤ a.ba ∧ e.am ≤ b.cp - b.ba ∧ T.acc = repK Ac.id (repK Ac.id S.acc { a with ba := a.ba - e.am }) { b with ba := b.ba + e.am }) ∧ T.hol = S.hol)
    ∨ (e.kd = 4 ∧ e.am ≠ 0 ∧ byK Ho.id S.hol e.tw = none ∧ (∃ a, byK Ac.id S.acc e.fr = some a ∧ e.am ≤ a.ba ∧ T.acc = repK Ac.id S.acc { a with ba := a.ba - e.am }) ∧ T.hol = insK Ho.id S.hol ⟨e.tw, e.fr, e.am⟩)
    ∨ (e.kd = 5 ∧ (∃ h b, byK Ho.id S.hol e.fr = some h ∧ byK Ac.id S.acc e.tw = some b ∧ e.am ≤ h.am ∧ e.am ≤ b.cp - b.ba ∧ T.acc = repK Ac.id S.acc { b with ba := b.ba + e.am } ∧ T.hol = if h.am - e.am = 0 then remK Ho.id S.hol h.id else repK Ho.id S.hol { h with am := h.am - e.am }))
def prA (a : Ac) : Nat × Nat := (a.ba, a.cp)
/-- These accounts (owners aside) and holds, in whatever order, are the ledger's. -/
structure RepS (A : List Ac) (H : List Ho) (S : LS) : Prop where
  na : NdK Ac.id A
  nh : NdK Ho.id H
  la : A.length = S.acc.length
  lh : H.length = S.hol.length
  ba : ∀ x, (byK Ac.id A x).map prA = (byK Ac.id S.acc x).map prA
  bh : ∀ x, byK Ho.id H x = byK Ho.id S.hol x
theorem RepS.own {S : LS} (h : S.Ok) : RepS S.acc S.hol S := ⟨h.ua.nd, h.uh.nd, rfl, rfl, fun _ => rfl, fun _ => rfl⟩
theorem RepS.acc {A : List Ac} {H : List Ho} {S : LS} (h : RepS A H S) {x : Nat} {a : Ac} (ha : byK Ac.id S.acc x = some a) : ∃ b, byK Ac.id A x = some b ∧ b.id = x ∧ b.ba = a.ba ∧ b.cp = a.cp := by
  have := h.ba x
  rw [ha] at this
  cases e : byK Ac.id A x with
  | none => rw [e] at this; cases this
  | some b =>
    rw [e] at this
    simp only [Option.map_some, Option.some.injEq, prA, Prod.mk.injEq] at this
    exact ⟨b, rfl, (byK_mem e).2, this.1, this.2⟩
theorem RepS.no {A : List Ac} {H : List Ho} {S : LS} (h : RepS A H S) {x : Nat} (ha : byK Ac.id S.acc x = none) : byK Ac.id A x = none := by
  have := h.ba x
  rw [ha] at this
  cases e : byK Ac.id A x with
  | none => rfl
  | some b => rw [e] at this; cases this
theorem ho_pos {S : LS} (h : S.Ok) {A : List Ac} {H : List Ho} (hr : RepS A H S) : ∀ x ∈ H, x.am ≠ 0 := fun x hx => by
  have e := hr.nh.by hx
  rw [hr.bh] at e
  exact (h.zh x (byK_mem e).1).2
theorem fm_some {α : Type} {f : α → Option α} : ∀ {l : List α} (_ : ∀ a ∈ l, f a = some a), l.filterMap f = l
  | [], _ => rfl
  | a :: r, h => by rw [List.filterMap_cons, h a (by simp)]; simp only; rw [fm_some (fun y hy => h y (List.mem_cons_of_mem _ hy))]
theorem fm_full {α : Type} {f : α → Option α} : ∀ {l : List α} (_ : ∀ a ∈ l, (f a).isSome = true), (l.filterMap f).length = l.length
  | [], _ => rfl
  | a :: r, h => by
    obtain ⟨b, hb⟩ := Option.isSome_iff_exists.1 (h a (by simp))
    rw [List.filterMap_cons, hb]
    simp only [List.length_cons]
    rw [fm_full (fun y hy => h y (List.mem_cons_of_mem _ hy))]
theorem nd_snoc {α : Type} {key : α → Nat} {l : List α} (h : NdK key l) {a : α} (hn : byK key l (key a) = none) : NdK key (l ++ [a]) := by
  refine List.pairwise_append.2 ⟨h, by simp, fun x hx y hy => ?_⟩
  obtain rfl : y = a := by simpa using hy
  exact byK_none hn x hx
theorem map_or {α β : Type} (f : α → β) (a b : Option α) : (a.or b).map f = (a.map f).or (b.map f) := by cases a <;> rfl
set_option maxHeartbeats 800000 in
/-- The fold goes along with the ledger. -/
theorem fold_step {A : List Ac} {H : List Ho} {S T : LS} {e : Jn} (h : RepS A H S) (hl : Ln S e T) : ∃ A' H', foldF e A H = (A', H', true) ∧ RepS A' H' T := by
  have hz := ho_pos hl.s h
  have keep : e.kd ≠ 5 → H.filterMap (fHf e) = H := fun k => fm_some (fun y hy => by
    unfold fHf foldH
    rw [if_neg (show ¬ (y.id = e.fr ∧ e.kd = 5) from fun h => k h.2), if_neg (hz y hy)])
  have hT := foldT_all e H (A.foldl (foldA e) ⟨false, false, []⟩).tk h.nh
  have hO := foldA_out e A ⟨false, false, []⟩
  have hK := foldA_tk e A ⟨false, false, []⟩ h.na
  rw [List.nil_append] at hO
  have nA := h.na.fm (fAf_key e)
  have bA := byK_fm (fAf_key e) h.na
  rcases hl.did with ⟨k, hno, ⟨ow, hacc⟩, hhol⟩ | ⟨k, ⟨a, ha, ha0⟩, hacc, hhol⟩ | ⟨k, hne, ⟨a, b, ha, hb, h1, h2, hacc⟩, hhol⟩ | ⟨k, hm, hno, ⟨a, ha, h1, hacc⟩, hhol⟩ | ⟨k, x, b, hx, hb, h1, h2, hacc, hhol⟩
  · -- an account is made
    have fs : ∀ a, fAf e a = some a := fun a => by unfold fAf fAm2 fAm1 fA1 fA2 fA3; simp [k]
    have eA : A.filterMap (fAf e) = A := fm_some (fun a _ => fs a)
    have hnoA := h.no hno
    refine ⟨A ++ [⟨e.fr, 0, 0, e.am⟩], H, by unfold foldF; rw [if_pos k, hO, eA, keep (by omega)], nd_snoc h.na hnoA, h.nh, ?_, by rw [hhol]; exact h.lh, fun y => ?_, fun y => by rw [hhol]; exact h.bh y⟩
    · rw [hacc, insK_len, List.length_append, h.la]; rfl
    · rw [hacc, byK_app, byK_one, map_or, h.ba]
      rw [byK_ins hno]
      by_cases e1 : y = e.fr
      · rw [if_pos e1, e1, hno, if_pos rfl]; rfl
      · rw [if_neg e1, if_neg (fun h => e1 h.symm)]
        cases (byK Ac.id S.acc y) <;> rfl
  · -- an account is taken away
    obtain ⟨a', ha', ei, eb, ec⟩ := h.acc ha
    have fs : ∀ y, fAf e y = if y.id = e.fr then none else some y := fun y => by
      unfold fAf fAm2 fAm1 fA1 fA2 fA3
      by_cases e1 : y.id = e.fr <;> simp [k, e1]
    have hG := foldA_gv2 e k A ⟨false, false, []⟩ h.na
    rw [ha'] at hG hK
    dsimp only at hG hK
    rw [if_neg (by omega), if_pos k, eb, ha0] at hK
    have hT2 : H.foldl (foldT e) (A.foldl (foldA e) ⟨false, false, []⟩).tk = true := by
      rw [hT, hK]
      split
      · rw [if_neg (by omega)]; rfl
      · rfl
    refine ⟨A.filterMap (fAf e), H, by unfold foldF; rw [if_neg (by omega), if_neg (by omega), hO, keep (by omega), hT2, hG]; rfl, nA, h.nh, ?_, by rw [hhol]; exact h.lh, fun y => ?_, fun y => by rw [hhol]; exact h.bh y⟩
    · have hlen := fm_len (fAf_key e) (x := e.fr) h.na (fun y _ hn => by
        rw [fs] at hn
        by_cases e1 : y.id = e.fr
        · exact e1
        · rw [if_neg e1] at hn; cases hn)
      rw [ha'] at hlen
      have : fAf e a' = none := by rw [fs, if_pos ei]
      simp [this] at hlen
      have := remK_len hl.s.ua (x := e.fr) (by rw [ha]; rfl)
      have := h.la
      rw [hacc]
      omega
    · rw [bA, hacc, byK_rem]
      by_cases e1 : y = e.fr
      · rw [if_pos e1, e1, ha']
        have : fAf e a' = none := by rw [fs, if_pos ei]
        simp [this]
      · rw [if_neg e1, ← h.ba]
        cases e2 : byK Ac.id A y with
        | none => rfl
        | some z =>
          have : fAf e z = some z := by rw [fs, if_neg (by rw [(byK_mem e2).2]; exact e1)]
          simp [this]
  · -- a payment
    obtain ⟨a', ha', ei, eb, ec⟩ := h.acc ha
    obtain ⟨b', hb', fi, fb, fc⟩ := h.acc hb
    have hma := (byK_mem ha)
    have hmb := (byK_mem hb)
    have ia := hl.s.ia a hma.1
    have ib := hl.s.ia b hmb.1
    have ia2 := ia.h2
    have ib3 := ib.h3
    have ib2 := ib.h2
    have cb := hl.s.ca b hmb.1
    have fs : ∀ y, fAf e y = some (if y.id = e.fr then { y with ba := subW y.ba e.am } else if y.id = e.tw then { y with ba := addW y.ba e.am } else y) := fun y => by
      unfold fAf fAm2 fAm1 fA1 fA2 fA3
      by_cases e1 : y.id = e.fr
      · have : ¬ e.fr = e.tw := hne
        simp [k, e1, this]
      · have : ¬ e.tw = e.fr := fun h => hne h.symm
        by_cases e2 : y.id = e.tw
        · simp [k, e2, this]
        · simp [k, e1, e2]
    have hG := foldA_gv e (fun _ => hne) (by omega) A ⟨false, false, []⟩ h.na
    rw [hb'] at hG
    rw [ha'] at hK
    dsimp only at hK hG
    rw [if_pos (by omega), eb, decide_eq_true h1] at hK
    rw [if_pos (by omega), fb, fc, subW_le cb ib3, decide_eq_true h2] at hG
    have hT2 : H.foldl (foldT e) (A.foldl (foldA e) ⟨false, false, []⟩).tk = true := by
      rw [hT, hK]
      split
      · rw [if_neg (by omega)]
      · rfl
    refine ⟨A.filterMap (fAf e), H, by unfold foldF; rw [if_neg (by omega), if_neg (by omega), hO, keep (by omega), hT2, hG]; rfl, nA, h.nh, ?_, by rw [hhol]; exact h.lh, fun y => ?_, fun y => by rw [hhol]; exact h.bh y⟩
    · have hlen := fm_full (l := A) (f := fAf e) (fun y _ => by rw [fs]; rfl)
      rw [hacc, repK_len, repK_len, hlen, h.la]
    · rw [bA, hacc]
      have p1 : (byK Ac.id S.acc a.id).isSome = true := by rw [hma.2, ha]; rfl
      have q1 : byK Ac.id (repK Ac.id S.acc { a with ba := a.ba - e.am }) b.id = some b := by
        rw [byK_rep (key := Ac.id) (a := ⟨a.id, a.ow, a.ba - e.am, a.cp⟩) p1, hmb.2, if_neg (show ¬ e.tw = a.id by rw [hma.2]; exact fun h => hne h.symm)]
        exact hb
      rw [byK_rep (by show (byK Ac.id _ b.id).isSome = true; rw [q1]; rfl), byK_rep (key := Ac.id) (a := ⟨a.id, a.ow, a.ba - e.am, a.cp⟩) p1]
      show _ = Option.map prA (if y = b.id then some { b with ba := b.ba + e.am } else if y = a.id then some { a with ba := a.ba - e.am } else byK Ac.id S.acc y)
      rw [hma.2, hmb.2]
      by_cases e1 : y = e.fr
      · rw [if_neg (by rw [e1]; exact hne), if_pos e1, e1, ha']
        simp [fs a', ei, prA, eb, ec, subW_le h1 ia2]
      · by_cases e2 : y = e.tw
        · rw [if_pos e2, e2, hb']
          simp [fs b', fi, prA, fb, fc, addW_le (show b.ba + e.am < 18446744073709551616 by omega), show ¬ e.tw = e.fr from fun h => hne h.symm]
        · rw [if_neg e2, if_neg e1, ← h.ba]
          cases e3 : byK Ac.id A y with
          | none => rfl
          | some z =>
            have := (byK_mem e3).2
            simp [fs z, this, e1, e2]
  · -- a hold
    obtain ⟨a', ha', ei, eb, ec⟩ := h.acc ha
    have hma := (byK_mem ha)
    have ia2 := (hl.s.ia a hma.1).h2
    have fs : ∀ y, fAf e y = some (if y.id = e.fr then { y with ba := subW y.ba e.am } else y) := fun y => by
      unfold fAf fAm2 fAm1 fA1 fA2 fA3
      by_cases e1 : y.id = e.fr <;> simp [k, e1]
    rw [ha'] at hK
    dsimp only at hK
    rw [if_pos (by omega), eb, decide_eq_true h1] at hK
    have hT2 : H.foldl (foldT e) (A.foldl (foldA e) ⟨false, false, []⟩).tk = true := by
      rw [hT, hK]
      split
      · rw [if_neg (by omega)]
      · rfl
    have hnoH : byK Ho.id H e.tw = none := by rw [h.bh]; exact hno
    refine ⟨A.filterMap (fAf e), H ++ [⟨e.tw, e.fr, e.am⟩], by unfold foldF; rw [if_neg (by omega), if_pos k, hO, keep (by omega), hT2], nA, nd_snoc h.nh hnoH, ?_, by rw [hhol, insK_len, List.length_append, h.lh]; rfl, fun y => ?_, fun y => ?_⟩
    · have hlen := fm_full (l := A) (f := fAf e) (fun y _ => by rw [fs]; rfl)
      rw [hacc, repK_len, hlen, h.la]
    · rw [bA, hacc, byK_rep (by show (byK Ac.id S.acc a.id).isSome = true; rw [hma.2, ha]; rfl)]
      show _ = Option.map prA (if y = a.id then some { a with ba := a.ba - e.am } else byK Ac.id S.acc y)
      rw [hma.2]
      by_cases e1 : y = e.fr
      · rw [if_pos e1, e1, ha']
        simp [fs a', ei, prA, eb, ec, subW_le h1 ia2]
      · rw [if_neg e1, ← h.ba]
        cases e3 : byK Ac.id A y with
        | none => rfl
        | some z =>
          have := (byK_mem e3).2
          simp [fs z, this, e1]
    · rw [hhol, byK_app, byK_one, byK_ins hno, h.bh]
      by_cases e1 : y = e.tw
      · rw [if_pos e1, e1, hno, if_pos rfl]; rfl
      · rw [if_neg e1, if_neg (fun h => e1 h.symm)]
        cases (byK Ho.id S.hol y) <;> rfl
  · -- a payment out of a hold
    obtain ⟨b', hb', fi, fb, fc⟩ := h.acc hb
    have hx' : byK Ho.id H e.fr = some x := by rw [h.bh]; exact hx
    have hmx := (byK_mem hx)
    have hmb := (byK_mem hb)
    have ib := hl.s.ia b hmb.1
    have ib3 := ib.h3
    have ix := (hl.s.ih x hmx.1).h2
    have cb := hl.s.ca b hmb.1
    have fs : ∀ y, fAf e y = some (if y.id = e.tw then { y with ba := addW y.ba e.am } else y) := fun y => by
      unfold fAf fAm2 fAm1 fA1 fA2 fA3
      by_cases e1 : y.id = e.tw <;> simp [k, e1]
    have hG := foldA_gv e (fun k3 => by omega) (by omega) A ⟨false, false, []⟩ h.na
    rw [hb'] at hG
    dsimp only at hG
    rw [if_pos (by omega), fb, fc, subW_le cb ib3, decide_eq_true h2] at hG
    have hT2 : H.foldl (foldT e) (A.foldl (foldA e) ⟨false, false, []⟩).tk = true := by
      rw [hT, hx']
      dsimp only
      rw [if_pos k, decide_eq_true h1]
    have nH := h.nh.fm (fHf_key e)
    have bH := byK_fm (fHf_key e) h.nh
    have hfx : fHf e x = if x.am - e.am = 0 then none else some { x with am := x.am - e.am } := by
      have e1 : foldH e x = { x with am := x.am - e.am } := by
        unfold foldH
        rw [if_pos ⟨hmx.2, k⟩, subW_le h1 ix]
      unfold fHf
      rw [e1]
    have hfo : ∀ y ∈ H, y.id ≠ e.fr → fHf e y = some y := fun y hy hne => by
      have e1 : foldH e y = y := by
        unfold foldH
        rw [if_neg (fun h => hne h.1)]
      unfold fHf
      rw [e1, if_neg (hz y hy)]
    refine ⟨A.filterMap (fAf e), H.filterMap (fHf e), by unfold foldF; rw [if_neg (by omega), if_neg (by omega), hO, hT2, hG]; rfl, nA, nH, ?_, ?_, fun y => ?_, fun y => ?_⟩
    · have hlen := fm_full (l := A) (f := fAf e) (fun y _ => by rw [fs]; rfl)
      rw [hacc, repK_len, hlen, h.la]
    · have hlen := fm_len (fHf_key e) (x := e.fr) h.nh (fun y hy hn => by
        by_cases e1 : y.id = e.fr
        · exact e1
        · rw [hfo y hy e1] at hn; cases hn)
      rw [hx'] at hlen
      simp only [Option.bind_some, hfx, Option.isSome_some, and_true] at hlen
      rw [hhol]
      by_cases e0 : x.am - e.am = 0
      · rw [if_pos e0] at hlen ⊢
        have := remK_len hl.s.uh (x := x.id) (by rw [hmx.2, hx]; rfl)
        have := h.lh
        simp at hlen
        omega
      · rw [if_neg e0] at hlen ⊢
        rw [repK_len]
        have := h.lh
        rw [if_neg (by simp)] at hlen
        omega
    · rw [bA, hacc, byK_rep (by show (byK Ac.id S.acc b.id).isSome = true; rw [hmb.2, hb]; rfl)]
      show _ = Option.map prA (if y = b.id then some { b with ba := b.ba + e.am } else byK Ac.id S.acc y)
      rw [hmb.2]
      by_cases e1 : y = e.tw
      · rw [if_pos e1, e1, hb']
        simp [fs b', fi, prA, fb, fc, addW_le (show b.ba + e.am < 18446744073709551616 by omega)]
      · rw [if_neg e1, ← h.ba]
        cases e3 : byK Ac.id A y with
        | none => rfl
        | some z =>
          have := (byK_mem e3).2
          simp [fs z, this, e1]
    · rw [bH, hhol]
      by_cases e1 : y = e.fr
      · rw [e1, hx']
        simp only [Option.bind_some, hfx]
        by_cases e0 : x.am - e.am = 0
        · rw [if_pos e0, if_pos e0, byK_rem, if_pos hmx.2.symm]
        · rw [if_neg e0, if_neg e0, byK_rep (by show (byK Ho.id S.hol x.id).isSome = true; rw [hmx.2, hx]; rfl), if_pos (show e.fr = x.id from hmx.2.symm)]
      · have : (byK Ho.id H y).bind (fHf e) = byK Ho.id H y := by
          cases e3 : byK Ho.id H y with
          | none => rfl
          | some z =>
            have := byK_mem e3
            simp [hfo z this.1 (by rw [this.2]; exact e1)]
        rw [this, h.bh]
        by_cases e0 : x.am - e.am = 0
        · rw [if_pos e0, byK_rem, if_neg (by rw [hmx.2]; exact e1)]
        · rw [if_neg e0, byK_rep (by show (byK Ho.id S.hol x.id).isSome = true; rw [hmx.2, hx]; rfl), if_neg (show ¬ y = x.id by rw [hmx.2]; exact e1)]
end Go.Proofs.Yteafdpmblbbpnaa
