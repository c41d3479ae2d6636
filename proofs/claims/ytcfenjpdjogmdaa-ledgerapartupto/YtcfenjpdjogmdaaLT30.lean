import Derived.Test.YtcfenjpdjogmdaaLT29
namespace Go.Proofs.Ytcfenjpdjogmdaa
open Go.RowKit

theorem shSum_take {l : List Sh} {k : Nat} {s : Sh} (h : l[k]? = some s) : shSum (l.take (k + 1)) = shSum (l.take k) + s.am := by
  have e1 : l.take (k + 1) = l.take k ++ [s] := by rw [List.take_add_one, h]; rfl
  rw [e1]
  simp [shSum]
theorem shSum_le (l : List Sh) (k : Nat) : shSum (l.take k) + shSum (l.drop k) = shSum l := by
  have e : shSum (l.take k ++ l.drop k) = shSum (l.take k) + shSum (l.drop k) := by unfold shSum; rw [List.map_append, List.sum_append]
  rw [List.take_append_drop] at e
  exact e.symm
/-- What is left for the shares behind k: something. -/
theorem shSum_lt {l : List Sh} (hp : ∀ s ∈ l, s.am ≠ 0) {k : Nat} (hk : k < l.length) : shSum (l.take k) < shSum l := by
  have h1 := shSum_le l k
  obtain ⟨s, hs⟩ : ∃ s, l[k]? = some s := ⟨_, List.getElem?_eq_getElem hk⟩
  have h2 := shSum_take hs
  have h3 := shSum_le l (k + 1)
  have := hp s (List.mem_of_getElem? hs)
  omega
/-- Behind k payments of a Settle of hold h, which had am. -/
structure Stp (S : LS) (h am : Nat) (l : List Sh) (k : Nat) (T : LS) : Prop where
  ok : T.Ok
  nx : T.nx = S.nx + k
  kn : ∀ t, (byK Ac.id T.acc t).isSome = (byK Ac.id S.acc t).isSome
  rm : ∀ t, T.room t + shOf (l.take k) t = S.room t
  ho : k < l.length → ∃ y, byK Ho.id T.hol h = some y ∧ y.am + shSum (l.take k) = am
theorem Stp.next {S T : LS} {h am : Nat} {l : List Sh} {k : Nat} (H : Stp S h am l k T) {s : Sh} (hs : l[k]? = some s) (hh : h < 18446744073709551616) (hsi : s.In) (hkn : ∀ s ∈ l, s.tw ≠ 0 ∧ (byK Ac.id S.acc s.tw).isSome = true ∧ s.am ≠ 0) (hsum : shSum l = am) (hfit : ∀ t, (byK Ac.id S.acc t).isSome = true → shOf l t ≤ S.room t) (hfull : S.full l.length = false) :
    (∃ y z, byK Ho.id T.hol h = some y ∧ byK Ac.id T.acc s.tw = some z ∧ s.am ≤ y.am ∧ s.am ≤ z.cp - z.ba) ∧ Stp S h am l (k + 1) (T.paysOut h s.tw s.am) := by
  have hk := (List.getElem?_eq_some_iff.1 hs).1
  obtain ⟨y, hy, hya⟩ := H.ho hk
  have hks := hkn s (List.mem_of_getElem? hs)
  obtain ⟨z, hz⟩ := Option.isSome_iff_exists.1 ((H.kn s.tw).trans hks.2.1)
  have hst := shSum_take hs
  have hle := shSum_le l (k + 1)
  have h1 : s.am ≤ y.am := by omega
  have hrm := H.rm s.tw
  have hrz : T.room s.tw = z.cp - z.ba := by unfold LS.room; rw [hz]; rfl
  have hso := shOf_take hs s.tw
  rw [if_pos rfl] at hso
  have hsl := shOf_le l (k + 1) s.tw
  have hft := hfit s.tw hks.2.1
  have h2 : s.am ≤ z.cp - z.ba := by omega
  have hn0 := H.ok.n0
  have hn1 := H.ok.n1
  have hfu : T.full 1 = false := by
    unfold LS.full at hfull ⊢
    have := H.nx
    have hf := of_decide_eq_false hfull
    exact decide_eq_false (by omega)
  have ez := (byK_mem hz).2
  have ey := (byK_mem hy).2
  have hacc : ∀ t, byK Ac.id (T.paysOut h s.tw s.am).acc t = if t = s.tw then some { z with ba := z.ba + s.am } else byK Ac.id T.acc t := by
    intro t
    have e : (T.paysOut h s.tw s.am).acc = repK Ac.id T.acc { z with ba := z.ba + s.am } := by unfold LS.paysOut; rw [hy, hz]; rfl
    rw [e, byK_rep (by show (byK Ac.id T.acc z.id).isSome = true; rw [ez, hz]; rfl)]
    show (if t = z.id then _ else _) = _
    rw [ez]
  refine ⟨⟨y, z, hy, hz, h1, h2⟩, H.ok.paysOut hh hsi.h0 hy hz h2 hfu, ?_, fun t => ?_, fun t => ?_, fun hk1 => ?_⟩
  · show T.nx + 1 = _
    have := H.nx
    omega
  · rw [hacc]
    by_cases e : t = s.tw
    · rw [if_pos e, e, hks.2.1]; rfl
    · rw [if_neg e]; exact H.kn t
  · have hso' := shOf_take hs t
    have hr := H.rm t
    by_cases e : t = s.tw
    · have hr' : (T.paysOut h s.tw s.am).room t = z.cp - (z.ba + s.am) := by unfold LS.room; rw [hacc, if_pos e]; rfl
      rw [hr']
      rw [e] at hr hso' ⊢
      rw [if_pos rfl] at hso'
      omega
    · have hr' : (T.paysOut h s.tw s.am).room t = T.room t := by unfold LS.room; rw [hacc, if_neg e]
      rw [hr']
      rw [if_neg (fun e' => e e'.symm)] at hso'
      omega
  · have hlt := shSum_lt (fun s hs => (hkn s hs).2.2) hk1
    have hne : ¬ y.am - s.am = 0 := by omega
    have e : (T.paysOut h s.tw s.am).hol = repK Ho.id T.hol { y with am := y.am - s.am } := by
      unfold LS.paysOut
      rw [hy, hz]
      show (LS.setH T { y with am := y.am - s.am }).hol = _
      unfold LS.setH
      rw [if_neg hne]
    refine ⟨{ y with am := y.am - s.am }, ?_, ?_⟩
    · rw [e, byK_rep (by show (byK Ho.id T.hol y.id).isSome = true; rw [ey, hy]; rfl), if_pos (show h = y.id from ey.symm)]
    · show y.am - s.am + shSum (l.take (k + 1)) = am
      omega
theorem Stp.start {S : LS} {h : Nat} {x : Ho} {l : List Sh} (hok : S.Ok) (hx : byK Ho.id S.hol h = some x) : Stp S h x.am l 0 S :=
  ⟨hok, rfl, fun _ => rfl, fun _ => rfl, fun _ => ⟨x, hx, rfl⟩⟩
end Go.Proofs.Ytcfenjpdjogmdaa
namespace Go.Proofs.Ytcfenjpdjogmdaa
open Go.RowKit

/-- No two have one number. -/
def NdK {α : Type} (key : α → Nat) (l : List α) : Prop := l.Pairwise (fun x y => key x ≠ key y)
section Keyed
variable {α : Type} {key : α → Nat}
theorem UpK.nd {l : List α} (h : UpK key l) : NdK key l := List.Pairwise.imp (fun h => Nat.ne_of_lt h) h
theorem NdK.tail {a : α} {l : List α} (h : NdK key (a :: l)) : NdK key l := (List.pairwise_cons.1 h).2
theorem NdK.head {a : α} {l : List α} (h : NdK key (a :: l)) : ∀ y ∈ l, key y ≠ key a := fun y hy => ((List.pairwise_cons.1 h).1 y hy).symm
theorem NdK.by : ∀ {l : List α} (_ : NdK key l) {a : α} (_ : a ∈ l), byK key l (key a) = some a
  | y :: r, h, a, ha => by
    rw [byK_cons]
    rcases List.mem_cons.1 ha with e | e
    · subst e; rw [if_pos rfl]
    · have := h.head a e
      rw [if_neg (by omega)]
      exact NdK.by h.tail e
theorem byK_app (l r : List α) (x : Nat) : byK key (l ++ r) x = (byK key l x).or (byK key r x) := by
  unfold byK
  rw [List.find?_append]
theorem byK_one (a : α) (x : Nat) : byK key [a] x = if key a = x then some a else none := by rw [byK_cons, byK_nil]
theorem fm_keys {f : α → Option α} (hf : ∀ a b, f a = some b → key b = key a) {l : List α} {b : α} (h : b ∈ l.filterMap f) : ∃ a ∈ l, key a = key b := by
  obtain ⟨a, ha, e⟩ := List.mem_filterMap.1 h
  exact ⟨a, ha, (hf a b e).symm⟩
theorem NdK.fm {f : α → Option α} (hf : ∀ a b, f a = some b → key b = key a) : ∀ {l : List α} (_ : NdK key l), NdK key (l.filterMap f)
  | [], _ => by simp [NdK]
  | a :: r, h => by
    have ih := NdK.fm hf h.tail
    rw [List.filterMap_cons]
    split
    · exact ih
    · rename_i b hb
      refine List.pairwise_cons.2 ⟨fun y hy => ?_, ih⟩
      obtain ⟨z, hz, e⟩ := fm_keys hf hy
      have := h.head z hz
      have := hf a b hb
      omega
theorem byK_fm {f : α → Option α} (hf : ∀ a b, f a = some b → key b = key a) : ∀ {l : List α} (_ : NdK key l) (x : Nat), byK key (l.filterMap f) x = (byK key l x).bind f
  | [], _, x => by simp [byK_nil]
  | a :: r, h, x => by
    have ih := byK_fm hf h.tail x
    rw [List.filterMap_cons, byK_cons]
    by_cases e : key a = x
    · rw [if_pos e]
      split
      · rename_i hb
        rw [ih, byK_far (fun y hy => by have := h.head y hy; omega)]
        simp [hb]
      · rename_i b hb
        rw [byK_cons, if_pos ((hf a b hb).trans e)]
        simp [hb]
    · rw [if_neg e]
      split
      · exact ih
      · rename_i b hb
        rw [byK_cons, if_neg (by rw [hf a b hb]; exact e)]
        exact ih
theorem fm_len {f : α → Option α} (hf : ∀ a b, f a = some b → key b = key a) {x : Nat} : ∀ {l : List α} (_ : NdK key l) (_ : ∀ a ∈ l, f a = none → key a = x), (l.filterMap f).length + (if ((byK key l x).bind f).isNone = true ∧ (byK key l x).isSome = true then 1 else 0) = l.length
  | [], _, _ => by simp [byK_nil]
  | a :: r, h, hn => by
    have ih := fm_len hf h.tail (x := x) (fun y hy => hn y (List.mem_cons_of_mem _ hy))
    rw [List.filterMap_cons, byK_cons]
    by_cases e : key a = x
    · have hr : byK key r x = none := byK_far (fun y hy => by have := h.head y hy; omega)
      rw [hr] at ih
      rw [if_pos e]
      split
      · rename_i hb
        simp [hb] at ih ⊢
        omega
      · rename_i b hb
        simp [hb] at ih ⊢
        omega
    · rw [if_neg e]
      split
      · rename_i hb
        exact absurd (hn a (by simp) hb) e
      · simp only [List.length_cons]
        omega
end Keyed
def subW (a m : Nat) : Nat := (a + 18446744073709551616 - m) % 18446744073709551616
def addW (a m : Nat) : Nat := (a + m) % 18446744073709551616
theorem subW_le {a m : Nat} (h : m ≤ a) (h1 : a < 18446744073709551616) : subW a m = a - m := by unfold subW; omega
theorem addW_le {a m : Nat} (h : a + m < 18446744073709551616) : addW a m = a + m := by unfold addW; omega
/-- What the fold has behind some accounts. -/
structure Fz where
  (tk gv : Bool)
  out : List Ac
def fA1 (e : Jn) (a : Ac) : Bool := a.id == e.fr && (e.kd == 3 || e.kd == 4)
def fA2 (e : Jn) (a : Ac) : Bool := a.id == e.tw && (e.kd == 3 || e.kd == 5)
def fA3 (e : Jn) (a : Ac) : Bool := a.id == e.fr && e.kd == 2
def fAm1 (e : Jn) (a : Ac) : Ac := if fA1 e a = true then { a with ba := subW a.ba e.am } else a
def fAm2 (e : Jn) (a : Ac) : Ac := if fA2 e a = true then { a with ba := addW a.ba e.am } else a
def fAf (e : Jn) (a : Ac) : Option Ac := if fA3 e a = true then none else some (fAm2 e (fAm1 e a))
def foldA (e : Jn) (z : Fz) (a : Ac) : Fz :=
  let tk := if fA1 e a = true then decide (e.am ≤ a.ba) else z.tk
  let gv := if fA2 e a = true then decide (e.am ≤ subW (fAm1 e a).cp (fAm1 e a).ba) else z.gv
  if fA3 e a = true then ⟨(fAm2 e (fAm1 e a)).ba == 0, true, z.out⟩ else ⟨tk, gv, z.out ++ [fAm2 e (fAm1 e a)]⟩
theorem fAm1_id (e : Jn) (a : Ac) : (fAm1 e a).id = a.id ∧ (fAm1 e a).ow = a.ow ∧ (fAm1 e a).cp = a.cp := by unfold fAm1; split <;> exact ⟨rfl, rfl, rfl⟩
theorem fAm2_id (e : Jn) (a : Ac) : (fAm2 e a).id = a.id ∧ (fAm2 e a).ow = a.ow ∧ (fAm2 e a).cp = a.cp := by unfold fAm2; split <;> exact ⟨rfl, rfl, rfl⟩
theorem fAf_key (e : Jn) (a b : Ac) (h : fAf e a = some b) : b.id = a.id := by
  unfold fAf at h
  split at h
  · cases h
  · cases h
    rw [(fAm2_id e _).1, (fAm1_id e _).1]
theorem foldA_out (e : Jn) : ∀ (l : List Ac) (z : Fz), (l.foldl (foldA e) z).out = z.out ++ l.filterMap (fAf e)
  | [], z => by simp
  | a :: r, z => by
    rw [List.foldl_cons, foldA_out e r, List.filterMap_cons]
    unfold foldA fAf
    by_cases h : fA3 e a = true
    · simp [h]
    · simp [h]
def foldH (e : Jn) (h : Ho) : Ho := if h.id = e.fr ∧ e.kd = 5 then { h with am := subW h.am e.am } else h
def fHf (e : Jn) (h : Ho) : Option Ho := if (foldH e h).am = 0 then none else some (foldH e h)
/-- What the holds leave of the first flag. -/
def foldT (e : Jn) (t : Bool) (h : Ho) : Bool := if h.id = e.fr ∧ e.kd = 5 then decide (e.am ≤ h.am) else t
theorem foldH_id (e : Jn) (h : Ho) : (foldH e h).id = h.id ∧ (foldH e h).fr = h.fr := by unfold foldH; split <;> exact ⟨rfl, rfl⟩
theorem fHf_key (e : Jn) (a b : Ho) (h : fHf e a = some b) : b.id = a.id := by
  unfold fHf at h
  split at h
  · cases h
  · cases h
    exact (foldH_id e a).1
/-- The whole fold. -/
def foldF (e : Jn) (A : List Ac) (H : List Ho) : List Ac × List Ho × Bool :=
  let z := A.foldl (foldA e) ⟨false, false, []⟩
  let t := H.foldl (foldT e) z.tk
  let h := H.filterMap (fHf e)
  if e.kd = 1 then (z.out ++ [⟨e.fr, 0, 0, e.am⟩], h, true) else if e.kd = 4 then (z.out, h ++ [⟨e.tw, e.fr, e.am⟩], t) else (z.out, h, t && z.gv)
/-- The flags behind all accounts. -/
theorem foldA_tk (e : Jn) : ∀ (l : List Ac) (z : Fz) (_ : NdK Ac.id l), (l.foldl (foldA e) z).tk = match byK Ac.id l e.fr with
    | some a => if e.kd = 3 ∨ e.kd = 4 then decide (e.am ≤ a.ba) else if e.kd = 2 then a.ba == 0 else z.tk
    | none => z.tk
  | [], z, _ => by rw [byK_nil]; rfl
  | a :: r, z, h => by
    rw [List.foldl_cons, foldA_tk e r _ h.tail, byK_cons]
    by_cases e1 : a.id = e.fr
    · rw [if_pos e1, byK_far (fun y hy => by have := h.head y hy; omega)]
      unfold foldA fAm2 fAm1 fA3 fA2 fA1
      by_cases k3 : e.kd = 3
      · simp [e1, k3]
      · by_cases k4 : e.kd = 4
        · simp [e1, k4]
        · by_cases k2 : e.kd = 2
          · simp [e1, k2]
          · simp [e1, k2, k3, k4]
    · rw [if_neg e1]
      have : (foldA e z a).tk = z.tk := by
        unfold foldA fAm2 fAm1 fA3 fA2 fA1
        simp [e1]
      rw [this]
theorem foldA_gv (e : Jn) (hne : e.kd = 3 → e.fr ≠ e.tw) (k2 : e.kd ≠ 2) : ∀ (l : List Ac) (z : Fz) (_ : NdK Ac.id l), (l.foldl (foldA e) z).gv = match byK Ac.id l e.tw with
    | some a => if e.kd = 3 ∨ e.kd = 5 then decide (e.am ≤ subW a.cp a.ba) else z.gv
    | none => z.gv
  | [], z, _ => by rw [byK_nil]; rfl
  | a :: r, z, h => by
    rw [List.foldl_cons, foldA_gv e hne k2 r _ h.tail, byK_cons]
    by_cases e1 : a.id = e.tw
    · rw [if_pos e1, byK_far (fun y hy => by have := h.head y hy; omega)]
      unfold foldA fAm2 fAm1 fA3 fA2 fA1
      by_cases k3 : e.kd = 3
      · have : ¬ e.tw = e.fr := fun h => hne k3 h.symm
        simp [e1, k3, this]
      · by_cases k5 : e.kd = 5
        · simp [e1, k5]
        · simp [e1, k2, k3, k5]
    · rw [if_neg e1]
      have : (foldA e z a).gv = z.gv := by
        unfold foldA fAm2 fAm1 fA3 fA2 fA1
        simp [e1, k2]
      rw [this]
theorem foldA_gv2 (e : Jn) (k2 : e.kd = 2) : ∀ (l : List Ac) (z : Fz) (_ : NdK Ac.id l), (l.foldl (foldA e) z).gv = match byK Ac.id l e.fr with
    | some _ => true
    | none => z.gv
  | [], z, _ => by rw [byK_nil]; rfl
  | a :: r, z, h => by
    rw [List.foldl_cons, foldA_gv2 e k2 r _ h.tail, byK_cons]
    by_cases e1 : a.id = e.fr
    · rw [if_pos e1, byK_far (fun y hy => by have := h.head y hy; omega)]
      unfold foldA fAm2 fAm1 fA3 fA2 fA1
      simp [e1, k2]
    · rw [if_neg e1]
      have : (foldA e z a).gv = z.gv := by
        unfold foldA fAm2 fAm1 fA3 fA2 fA1
        simp [e1, k2]
      rw [this]
theorem foldT_all (e : Jn) : ∀ (l : List Ho) (t : Bool) (_ : NdK Ho.id l), l.foldl (foldT e) t = match byK Ho.id l e.fr with
    | some a => if e.kd = 5 then decide (e.am ≤ a.am) else t
    | none => t
  | [], t, _ => by rw [byK_nil]; rfl
  | a :: r, t, h => by
    rw [List.foldl_cons, foldT_all e r _ h.tail, byK_cons]
    by_cases e1 : a.id = e.fr
    · rw [if_pos e1, byK_far (fun y hy => by have := h.head y hy; omega)]
      unfold foldT
      by_cases k5 : e.kd = 5
      · simp [e1, k5]
      · simp [k5]
    · rw [if_neg e1]
      unfold foldT
      simp [e1]
end Go.Proofs.Ytcfenjpdjogmdaa
namespace Go.Proofs.Ytcfenjpdjogmdaa
open Go.RowKit

/-- What a line of the journal did to the ledger. -/
structure Ln (S : LS) (e : Jn) (T : LS) : Prop where
  s : S.Ok
  t : T.Ok
  tot : T.tot = S.tot
  sq : e.sq = S.nx
  nx : T.nx = S.nx + 1
  rg : T.rg = fun k => if k = S.nx % 64 then e else S.rg k
  ein : e.In
  did : (e.kd = 1 ∧ byK Ac.id S.acc e.fr = none ∧ (∃ ow, T.acc = insK Ac.id S.acc ⟨e.fr, ow, 0, e.am⟩) ∧ T.hol = S.hol)
    ∨ (e.kd = 2 ∧ (∃ a, byK Ac.id S.acc e.fr = some a ∧ a.ba = 0) ∧ T.acc = remK Ac.id S.acc e.fr ∧ T.hol = S.hol)
    ∨ (e.kd = 3 ∧ e.fr ≠ e.tw ∧ (∃ a b, byK Ac.id S.acc e.fr = some a ∧ byK Ac.id S.acc e.tw = some b ∧ e.am ≤ a.ba ∧ e.am ≤ b.cp - b.ba ∧ T.acc = repK Ac.id (repK Ac.id S.acc { a with ba := a.ba - e.am }) { b with ba := b.ba + e.am }) ∧ T.hol = S.hol)
    ∨ (e.kd = 4 ∧ e.am ≠ 0 ∧ byK Ho.id S.hol e.tw = none ∧ (∃ a, byK Ac.id S.acc e.fr = some a ∧ e.am ≤ a.ba ∧ T.acc = repK Ac.id S.acc { a with ba := a.ba - e.am }) ∧ T.hol = insK Ho.id S.hol ⟨e.tw, e.fr, e.am⟩)
    ∨ (e.kd = 5 ∧ (∃ h b, byK Ho.id S.hol e.fr = some h ∧ byK Ac.id S.acc e.tw = some b ∧ e.am ≤ h.am ∧ e.am ≤ b.cp - b.ba ∧ T.acc = repK Ac.id S.acc { b with ba := b.ba + e.am } ∧ T.hol = if h.am - e.am = 0 then remK Ho.id S.hol h.id else repK Ho.id S.hol { h with am := h.am - e.am }))
def prA (a : Ac) : Nat × Nat := (a.ba, a.cp)
/-- These accounts (owners aside) and holds, in whatever order, are the ledger's. -/
structure RepS (A : List Ac) (H : List Ho) (S : LS) : Prop where
  na : NdK Ac.id A
  nh : NdK Ho.id H
  la : A.length = S.acc.length
  lh : H.length = S.hol.length
  ba : ∀ x, (byK Ac.id A x).map prA = (byK Ac.id S.acc x).map prA
  bh : ∀ x, byK Ho.id H x = byK Ho.id S.hol x
theorem RepS.own {S : LS} (h : S.Ok) : RepS S.acc S.hol S := ⟨h.ua.nd, h.uh.nd, rfl, rfl, fun _ => rfl, fun _ => rfl⟩
theorem RepS.acc {A : List Ac} {H : List Ho} {S : LS} (h : RepS A H S) {x : Nat} {a : Ac} (ha : byK Ac.id S.acc x = some a) : ∃ b, byK Ac.id A x = some b ∧ b.id = x ∧ b.ba = a.ba ∧ b.cp = a.cp := by
  have := h.ba x
  rw [ha] at this
  cases e : byK Ac.id A x with
  | none => rw [e] at this; cases this
  | some b =>
    rw [e] at this
    simp only [Option.map_some, Option.some.injEq, prA, Prod.mk.injEq] at this
    exact ⟨b, rfl, (byK_mem e).2, this.1, this.2⟩
theorem RepS.no {A : List Ac} {H : List Ho} {S : LS} (h : RepS A H S) {x : Nat} (ha : byK Ac.id S.acc x = none) : byK Ac.id A x = none := by
  have := h.ba x
  rw [ha] at this
  cases e : byK Ac.id A x with
  | none => rfl
  | some b => rw [e] at this; cases this
theorem ho_pos {S : LS} (h : S.Ok) {A : List Ac} {H : List Ho} (hr : RepS A H S) : ∀ x ∈ H, x.am ≠ 0 := fun x hx => by
  have e := hr.nh.by hx
  rw [hr.bh] at e
  exact (h.zh x (byK_mem e).1).2
theorem fm_some {α : Type} {f : α → Option α} : ∀ {l : List α} (_ : ∀ a ∈ l, f a = some a), l.filterMap f = l
  | [], _ => rfl
  | a :: r, h => by rw [List.filterMap_cons, h a (by simp)]; simp only; rw [fm_some (fun y hy => h y (List.mem_cons_of_mem _ hy))]
theorem fm_full {α : Type} {f : α → Option α} : ∀ {l : List α} (_ : ∀ a ∈ l, (f a).isSome = true), (l.filterMap f).length = l.length
  | [], _ => rfl
  | a :: r, h => by
    obtain ⟨b, hb⟩ := Option.isSome_iff_exists.1 (h a (by simp))
    rw [List.filterMap_cons, hb]
    simp only [List.length_cons]
    rw [fm_full (fun y hy => h y (List.mem_cons_of_mem _ hy))]
theorem nd_snoc {α : Type} {key : α → Nat} {l : List α} (h : NdK key l) {a : α} (hn : byK key l (key a) = none) : NdK key (l ++ [a]) := by
  refine List.pairwise_append.2 ⟨h, by simp, fun x hx y hy => ?_⟩
  obtain rfl : y = a := by simpa using hy
  exact byK_none hn x hx
theorem map_or {α β : Type} (f : α → β) (a b : Option α) : (a.or b).map f = (a.map f).or (b.map f) := by cases a <;> rfl
set_option maxHeartbeats 800000 in
/-- The fold goes along with the ledger. -/
theorem fold_step {A : List Ac} {H : List Ho} {S T : LS} {e : Jn} (h : RepS A H S) (hl : Ln S e T) : ∃ A' H', foldF e A H = (A', H', true) ∧ RepS A' H' T := by
  have hz := ho_pos hl.s h
  have keep : e.kd ≠ 5 → H.filterMap (fHf e) = H := fun k => fm_some (fun y hy => by
    unfold fHf foldH
    rw [if_neg (show ¬ (y.id = e.fr ∧ e.kd = 5) from fun h => k h.2), if_neg (hz y hy)])
  have hT := foldT_all e H (A.foldl (foldA e) ⟨false, false, []⟩).tk h.nh
  have hO := foldA_out e A ⟨false, false, []⟩
  have hK := foldA_tk e A ⟨false, false, []⟩ h.na
  rw [List.nil_append] at hO
  have nA := h.na.fm (fAf_key e)
  have bA := byK_fm (fAf_key e) h.na
  rcases hl.did with ⟨k, hno, ⟨ow, hacc⟩, hhol⟩ | ⟨k, ⟨a, ha, ha0⟩, hacc, hhol⟩ | ⟨k, hne, ⟨a, b, ha, hb, h1, h2, hacc⟩, hhol⟩ | ⟨k, hm, hno, ⟨a, ha, h1, hacc⟩, hhol⟩ | ⟨k, x, b, hx, hb, h1, h2, hacc, hhol⟩
  · -- an account is made
    have fs : ∀ a, fAf e a = some a := fun a => by unfold fAf fAm2 fAm1 fA1 fA2 fA3; simp [k]
    have eA : A.filterMap (fAf e) = A := fm_some (fun a _ => fs a)
    have hnoA := h.no hno
    refine ⟨A ++ [⟨e.fr, 0, 0, e.am⟩], H, by unfold foldF; rw [if_pos k, hO, eA, keep (by omega)], nd_snoc h.na hnoA, h.nh, ?_, by rw [hhol]; exact h.lh, fun y => ?_, fun y => by rw [hhol]; exact h.bh y⟩
    · rw [hacc, insK_len, List.length_append, h.la]; rfl
    · rw [hacc, byK_app, byK_one, map_or, h.ba]
      rw [byK_ins hno]
      by_cases e1 : y = e.fr
      · rw [if_pos e1, e1, hno, if_pos rfl]; rfl
      · rw [if_neg e1, if_neg (fun h => e1 h.symm)]
        cases (byK Ac.id S.acc y) <;> rfl
  · -- an account is taken away
    obtain ⟨a', ha', ei, eb, ec⟩ := h.acc ha
    have fs : ∀ y, fAf e y = if y.id = e.fr then none else some y := fun y => by
      unfold fAf fAm2 fAm1 fA1 fA2 fA3
      by_cases e1 : y.id = e.fr <;> simp [k, e1]
    have hG := foldA_gv2 e k A ⟨false, false, []⟩ h.na
    rw [ha'] at hG hK
    dsimp only at hG hK
    rw [if_neg (by omega), if_pos k, eb, ha0] at hK
    have hT2 : H.foldl (foldT e) (A.foldl (foldA e) ⟨false, false, []⟩).tk = true := by
      rw [hT, hK]
      split
      · rw [if_neg (by omega)]; rfl
      · rfl
    refine ⟨A.filterMap (fAf e), H, by unfold foldF; rw [if_neg (by omega), if_neg (by omega), hO, keep (by omega), hT2, hG]; rfl, nA, h.nh, ?_, by rw [hhol]; exact h.lh, fun y => ?_, fun y => by rw [hhol]; exact h.bh y⟩
    · have hlen := fm_len (fAf_key e) (x := e.fr) h.na (fun y _ hn => by
        rw [fs] at hn
        by_cases e1 : y.id = e.fr
        · exact e1
        · rw [if_neg e1] at hn; cases hn)
      rw [ha'] at hlen
      have : fAf e a' = none := by rw [fs, if_pos ei]
      simp [this] at hlen
      have := remK_len hl.s.ua (x := e.fr) (by rw [ha]; rfl)
      have := h.la
      rw [hacc]
      omega
    · rw [bA, hacc, byK_rem]
      by_cases e1 : y = e.fr
      · rw [if_pos e1, e1, ha']
        have : fAf e a' = none := by rw [fs, if_pos ei]
        simp [this]
      · rw [if_neg e1, ← h.ba]
        cases e2 : byK Ac.id A y with
        | none => rfl
        | some z =>
          have : fAf e z = some z := by rw [fs, if_neg (by rw [(byK_mem e2).2]; exact e1)]
          simp [this]
  · -- a payment
    obtain ⟨a', ha', ei, eb, ec⟩ := h.acc ha
    obtain ⟨b', hb', fi, fb, fc⟩ := h.acc hb
    have hma := (byK_mem ha)
    have hmb := (byK_mem hb)
    have ia := hl.s.ia a hma.1
    have ib := hl.s.ia b hmb.1
    have ia2 := ia.h2
    have ib3 := ib.h3
    have ib2 := ib.h2
    have cb := hl.s.ca b hmb.1
    have fs : ∀ y, fAf e y = some (if y.id = e.fr then { y with ba := subW y.ba e.am } else if y.id = e.tw then { y with ba := addW y.ba e.am } else y) := fun y => by
      unfold fAf fAm2 fAm1 fA1 fA2 fA3
      by_cases e1 : y.id = e.fr
      · have : ¬ e.fr = e.tw := hne
        simp [k, e1, this]
      · have : ¬ e.tw = e.fr := fun h => hne h.symm
        by_cases e2 : y.id = e.tw
        · simp [k, e2, this]
        · simp [k, e1, e2]
    have hG := foldA_gv e (fun _ => hne) (by omega) A ⟨false, false, []⟩ h.na
    rw [hb'] at hG
    rw [ha'] at hK
    dsimp only at hK hG
    rw [if_pos (by omega), eb, decide_eq_true h1] at hK
    rw [if_pos (by omega), fb, fc, subW_le cb ib3, decide_eq_true h2] at hG
    have hT2 : H.foldl (foldT e) (A.foldl (foldA e) ⟨false, false, []⟩).tk = true := by
      rw [hT, hK]
      split
      · rw [if_neg (by omega)]
      · rfl
    refine ⟨A.filterMap (fAf e), H, by unfold foldF; rw [if_neg (by omega), if_neg (by omega), hO, keep (by omega), hT2, hG]; rfl, nA, h.nh, ?_, by rw [hhol]; exact h.lh, fun y => ?_, fun y => by rw [hhol]; exact h.bh y⟩
    · have hlen := fm_full (l := A) (f := fAf e) (fun y _ => by rw [fs]; rfl)
      rw [hacc, repK_len, repK_len, hlen, h.la]
    · rw [bA, hacc]
      have p1 : (byK Ac.id S.acc a.id).isSome = true := by rw [hma.2, ha]; rfl
      have q1 : byK Ac.id (repK Ac.id S.acc { a with ba := a.ba - e.am }) b.id = some b := by
        rw [byK_rep (key := Ac.id) (a := ⟨a.id, a.ow, a.ba - e.am, a.cp⟩) p1, hmb.2, if_neg (show ¬ e.tw = a.id by rw [hma.2]; exact fun h => hne h.symm)]
        exact hb
      rw [byK_rep (by show (byK Ac.id _ b.id).isSome = true; rw [q1]; rfl), byK_rep (key := Ac.id) (a := ⟨a.id, a.ow, a.ba - e.am, a.cp⟩) p1]
      show _ = Option.map prA (if y = b.id then some { b with ba := b.ba + e.am } else if y = a.id then some { a with ba := a.ba - e.am } else byK Ac.id S.acc y)
      rw [hma.2, hmb.2]
      by_cases e1 : y = e.fr
      · rw [if_neg (by rw [e1]; exact hne), if_pos e1, e1, ha']
        simp [fs a', ei, prA, eb, ec, subW_le h1 ia2]
      · by_cases e2 : y = e.tw
        · rw [if_pos e2, e2, hb']
          simp [fs b', fi, prA, fb, fc, addW_le (show b.ba + e.am < 18446744073709551616 by omega), show ¬ e.tw = e.fr from fun h => hne h.symm]
        · rw [if_neg e2, if_neg e1, ← h.ba]
          cases e3 : byK Ac.id A y with
          | none => rfl
          | some z =>
            have := (byK_mem e3).2
            simp [fs z, this, e1, e2]
  · -- a hold
    obtain ⟨a', ha', ei, eb, ec⟩ := h.acc ha
    have hma := (byK_mem ha)
    have ia2 := (hl.s.ia a hma.1).h2
    have fs : ∀ y, fAf e y = some (if y.id = e.fr then { y with ba := subW y.ba e.am } else y) := fun y => by
      unfold fAf fAm2 fAm1 fA1 fA2 fA3
      by_cases e1 : y.id = e.fr <;> simp [k, e1]
    rw [ha'] at hK
    dsimp only at hK
    rw [if_pos (by omega), eb, decide_eq_true h1] at hK
    have hT2 : H.foldl (foldT e) (A.foldl (foldA e) ⟨false, false, []⟩).tk = true := by
      rw [hT, hK]
      split
      · rw [if_neg (by omega)]
      · rfl
    have hnoH : byK Ho.id H e.tw = none := by rw [h.bh]; exact hno
    refine ⟨A.filterMap (fAf e), H ++ [⟨e.tw, e.fr, e.am⟩], by unfold foldF; rw [if_neg (by omega), if_pos k, hO, keep (by omega), hT2], nA, nd_snoc h.nh hnoH, ?_, by rw [hhol, insK_len, List.length_append, h.lh]; rfl, fun y => ?_, fun y => ?_⟩
    · have hlen := fm_full (l := A) (f := fAf e) (fun y _ => by rw [fs]; rfl)
      rw [hacc, repK_len, hlen, h.la]
    · rw [bA, hacc, byK_rep (by show (byK Ac.id S.acc a.id).isSome = true; rw [hma.2, ha]; rfl)]
      show _ = Option.map prA (if y = a.id then some { a with ba := a.ba - e.am } else byK Ac.id S.acc y)
      rw [hma.2]
      by_cases e1 : y = e.fr
      · rw [if_pos e1, e1, ha']
        simp [fs a', ei, prA, eb, ec, subW_le h1 ia2]
      · rw [if_neg e1, ← h.ba]
        cases e3 : byK Ac.id A y with
        | none => rfl
        | some z =>
          have := (byK_mem e3).2
          simp [fs z, this, e1]
    · rw [hhol, byK_app, byK_one, byK_ins hno, h.bh]
      by_cases e1 : y = e.tw
      · rw [if_pos e1, e1, hno, if_pos rfl]; rfl
      · rw [if_neg e1, if_neg (fun h => e1 h.symm)]
        cases (byK Ho.id S.hol y) <;> rfl
  · -- a payment out of a hold
    obtain ⟨b', hb', fi, fb, fc⟩ := h.acc hb
    have hx' : byK Ho.id H e.fr = some x := by rw [h.bh]; exact hx
    have hmx := (byK_mem hx)
    have hmb := (byK_mem hb)
    have ib := hl.s.ia b hmb.1
    have ib3 := ib.h3
    have ix := (hl.s.ih x hmx.1).h2
    have cb := hl.s.ca b hmb.1
    have fs : ∀ y, fAf e y = some (if y.id = e.tw then { y with ba := addW y.ba e.am } else y) := fun y => by
      unfold fAf fAm2 fAm1 fA1 fA2 fA3
      by_cases e1 : y.id = e.tw <;> simp [k, e1]
    have hG := foldA_gv e (fun k3 => by omega) (by omega) A ⟨false, false, []⟩ h.na
    rw [hb'] at hG
    dsimp only at hG
    rw [if_pos (by omega), fb, fc, subW_le cb ib3, decide_eq_true h2] at hG
    have hT2 : H.foldl (foldT e) (A.foldl (foldA e) ⟨false, false, []⟩).tk = true := by
      rw [hT, hx']
      dsimp only
      rw [if_pos k, decide_eq_true h1]
    have nH := h.nh.fm (fHf_key e)
    have bH := byK_fm (fHf_key e) h.nh
    have hfx : fHf e x = if x.am - e.am = 0 then none else some { x with am := x.am - e.am } := by
      have e1 : foldH e x = { x with am := x.am - e.am } := by
        unfold foldH
        rw [if_pos ⟨hmx.2, k⟩, subW_le h1 ix]
      unfold fHf
      rw [e1]
    have hfo : ∀ y ∈ H, y.id ≠ e.fr → fHf e y = some y := fun y hy hne => by
      have e1 : foldH e y = y := by
        unfold foldH
        rw [if_neg (fun h => hne h.1)]
      unfold fHf
      rw [e1, if_neg (hz y hy)]
    refine ⟨A.filterMap (fAf e), H.filterMap (fHf e), by unfold foldF; rw [if_neg (by omega), if_neg (by omega), hO, hT2, hG]; rfl, nA, nH, ?_, ?_, fun y => ?_, fun y => ?_⟩
    · have hlen := fm_full (l := A) (f := fAf e) (fun y _ => by rw [fs]; rfl)
      rw [hacc, repK_len, hlen, h.la]
    · have hlen := fm_len (fHf_key e) (x := e.fr) h.nh (fun y hy hn => by
        by_cases e1 : y.id = e.fr
        · exact e1
        · rw [hfo y hy e1] at hn; cases hn)
      rw [hx'] at hlen
      simp only [Option.bind_some, hfx, Option.isSome_some, and_true] at hlen
      rw [hhol]
      by_cases e0 : x.am - e.am = 0
      · rw [if_pos e0] at hlen ⊢
        have := remK_len hl.s.uh (x := x.id) (by rw [hmx.2, hx]; rfl)
        have := h.lh
        simp at hlen
        omega
      · rw [if_neg e0] at hlen ⊢
        rw [repK_len]
        have := h.lh
        rw [if_neg (by simp)] at hlen
        omega
    · rw [bA, hacc, byK_rep (by show (byK Ac.id S.acc b.id).isSome = true; rw [hmb.2, hb]; rfl)]
      show _ = Option.map prA (if y = b.id then some { b with ba := b.ba + e.am } else byK Ac.id S.acc y)
      rw [hmb.2]
      by_cases e1 : y = e.tw
      · rw [if_pos e1, e1, hb']
        simp [fs b', fi, prA, fb, fc, addW_le (show b.ba + e.am < 18446744073709551616 by omega)]
      · rw [if_neg e1, ← h.ba]
        cases e3 : byK Ac.id A y with
        | none => rfl
        | some z =>
          have := (byK_mem e3).2
          simp [fs z, this, e1]
    · rw [bH, hhol]
      by_cases e1 : y = e.fr
      · rw [e1, hx']
        simp only [Option.bind_some, hfx]
        by_cases e0 : x.am - e.am = 0
        · rw [if_pos e0, if_pos e0, byK_rem, if_pos hmx.2.symm]
        · rw [if_neg e0, if_neg e0, byK_rep (by show (byK Ho.id S.hol x.id).isSome = true; rw [hmx.2, hx]; rfl), if_pos (show e.fr = x.id from hmx.2.symm)]
      · have : (byK Ho.id H y).bind (fHf e) = byK Ho.id H y := by
          cases e3 : byK Ho.id H y with
          | none => rfl
          | some z =>
            have := byK_mem e3
            simp [hfo z this.1 (by rw [this.2]; exact e1)]
        rw [this, h.bh]
        by_cases e0 : x.am - e.am = 0
        · rw [if_pos e0, byK_rem, if_neg (by rw [hmx.2]; exact e1)]
        · rw [if_neg e0, byK_rep (by show (byK Ho.id S.hol x.id).isSome = true; rw [hmx.2, hx]; rfl), if_neg (show ¬ y = x.id by rw [hmx.2]; exact e1)]
end Go.Proofs.Ytcfenjpdjogmdaa
