import Derived.Test.YtgaalaoflaklgaaGreatRFsW
import Derived.Test.YtgaalaoflaklgaaGreatRBkA
import Derived.Test.YtgaalaoflaklgaaGreatRBkB
import Derived.Test.YtgaalaoflaklgaaGreatM40
namespace Go.Proofs.YtgaalaoflaklgaaGreat
open Go.RowKit Crc

theorem blank_any (num : Nat) (node : Int) (slot st : Nat) (ro : Option Addr) (n rc : Nat) (do_ : Option Addr) (m dc : Nat) : BkP num node slot st ro n rc do_ m dc := fun cs hcs w => by
  by_cases h : st = 0
  · exact blank_z num node slot st ro n rc do_ m dc cs hcs w h
  · exact blank_s num node slot st ro n rc do_ m dc cs hcs w h
/-- The fields that a record has, looked over in their order. -/
def fb4 (u1 u2 u5 u10 : Bool) (y1 y2 y5 y10 : Int) (b1 b2 b5 b10 : Bool) : Int × Int :=
  if u1 = true ∧ y1 ≠ 0 then (1, y1) else if u1 = false ∧ b1 = false then (1, 29) else
  if u2 = true ∧ y2 ≠ 0 then (2, y2) else if u2 = false ∧ b2 = false then (2, 29) else
  if u5 = true ∧ y5 ≠ 0 then (5, y5) else if u5 = false ∧ b5 = false then (5, 29) else
  if u10 = true ∧ y10 ≠ 0 then (10, y10) else if u10 = false ∧ b10 = false then (10, 29) else (0, 0)
theorem fb_eq (u1 u2 u5 u10 : Bool) (y1 y2 y5 y10 : Int) (b1 b2 b5 b10 : Bool) : fbGo [false, u1, u2, false, false, u5, false, false, false, false, u10, false, false, false, false, false] [0, y1, y2, 0, 0, y5, 0, 0, 0, 0, y10, 0, 0, 0, 0, 0] [false, b1, b2, true, true, b5, true, true, true, true, b10, true, true, true, true, true] 15 1 = fb4 u1 u2 u5 u10 y1 y2 y5 y10 b1 b2 b5 b10 := by
  simp [fbGo, fb4, List.getD]
def plc (a : Int) : Int := if a = 5 then 3 else if a = 10 then 4 else a
/-- What is found is what the document names. -/
def FbOk (r : Int × Int) (c a : Int) : Prop := r.2 = c ∧ (c ≠ 0 → plc r.1 = a)
theorem fbok (x c a : Int) (h : plc x = a) : FbOk (x, c) c a := ⟨rfl, fun _ => h⟩
theorem bnd_no {slot : Nat} (h : 1099511627776 < slot) : bndY slot 0 1099511627776 = 29 := by unfold bndY; rw [if_pos (.inr h)]
theorem bnd_ok {slot : Nat} (h : ¬ 1099511627776 < slot) : bndY slot 0 1099511627776 = 0 := by unfold bndY; rw [if_neg (by omega)]
theorem bool_ff {b : Bool} {p : Prop} (h : b = true ↔ p) (hp : ¬ p) : b = false := by
  cases b
  · rfl
  · exact absurd (h.1 rfl) hp
section
variable {num : Nat} {node : Int} {slot st : Nat} {rs : List Rq} {m : Nat} {b1 b2 b5 b10 : Bool}
/-- Behind the ballot and the slot. -/
theorem fb_tail {k : Int} {u5 u10 : Bool} {y5 y10 : Int} (h5 : if u5 = true then y5 = rC3 k st rs else (b5 = false ↔ rC3 k st rs = 29) ∧ (b5 = true ↔ rC3 k st rs = 0)) (h10 : if u10 = true then y10 = rC4 k m else (b10 = false ↔ rC4 k m = 29) ∧ (b10 = true ↔ rC4 k m = 0)) :
    FbOk (if u5 = true ∧ y5 ≠ 0 then (5, y5) else if u5 = false ∧ b5 = false then (5, 29) else if u10 = true ∧ y10 ≠ 0 then (10, y10) else if u10 = false ∧ b10 = false then (10, 29) else (0, 0)) (if rC3 k st rs ≠ 0 then (rC3 k st rs, 3) else if rC4 k m ≠ 0 then (rC4 k m, 4) else ((0, 0) : Int × Int)).1 (if rC3 k st rs ≠ 0 then (rC3 k st rs, 3) else if rC4 k m ≠ 0 then (rC4 k m, 4) else ((0, 0) : Int × Int)).2 := by
  have t2 : FbOk (if u10 = true ∧ y10 ≠ 0 then (10, y10) else if u10 = false ∧ b10 = false then (10, 29) else (0, 0)) (if rC4 k m ≠ 0 then (rC4 k m, 4) else ((0, 0) : Int × Int)).1 (if rC4 k m ≠ 0 then (rC4 k m, 4) else ((0, 0) : Int × Int)).2 := by
    cases u10 with
    | true =>
      rw [if_pos rfl] at h10
      subst h10
      by_cases h : rC4 k m ≠ 0
      · rw [if_pos ⟨rfl, h⟩, if_pos h]; exact fbok _ _ _ rfl
      · rw [if_neg (fun e => h e.2), if_neg (by simp), if_neg h]; exact fbok _ _ _ rfl
    | false =>
      rw [if_neg (by simp)] at h10
      rw [if_neg (by simp)]
      cases hb : b10 with
      | false =>
        have e := h10.1.1 hb
        rw [if_pos ⟨rfl, rfl⟩, e, if_pos (by decide)]; exact fbok _ _ _ rfl
      | true =>
        have e := h10.2.1 hb
        rw [if_neg (by simp), e, if_neg (by decide)]; exact fbok _ _ _ rfl
  cases u5 with
  | true =>
    rw [if_pos rfl] at h5
    subst h5
    by_cases h : rC3 k st rs ≠ 0
    · rw [if_pos ⟨rfl, h⟩, if_pos h]; exact fbok _ _ _ rfl
    · rw [if_neg (fun e => h e.2), if_neg (by simp), if_neg h]; exact t2
  | false =>
    rw [if_neg (by simp)] at h5
    rw [if_neg (by simp)]
    cases hb : b5 with
    | false =>
      have e := h5.1.1 hb
      rw [if_pos ⟨rfl, rfl⟩, e, if_pos (by decide)]; exact fbok _ _ _ rfl
    | true =>
      have e := h5.2.1 hb
      rw [if_neg (by simp), e, if_neg (show ¬ (0 : Int) ≠ 0 by decide)]; exact t2
theorem fb_all {k : Int} (hk : ¬ (k < 1 ∨ 5 < k)) {u1 u2 u5 u10 : Bool} {y1 y2 y5 y10 : Int} (h1 : if u1 = true then y1 = (if rB1 k num node then 29 else 0) else (b1 = false ↔ rB1 k num node)) (h2 : if u2 = true then y2 = (if rB2 k slot then 29 else 0) else (b2 = false ↔ rB2 k slot)) (h5 : if u5 = true then y5 = rC3 k st rs else (b5 = false ↔ rC3 k st rs = 29) ∧ (b5 = true ↔ rC3 k st rs = 0)) (h10 : if u10 = true then y10 = rC4 k m else (b10 = false ↔ rC4 k m = 29) ∧ (b10 = true ↔ rC4 k m = 0)) :
    FbOk (fb4 u1 u2 u5 u10 y1 y2 y5 y10 b1 b2 b5 b10) (rNo k num node slot st rs m).1 (rNo k num node slot st rs m).2 := by
  have t := fb_tail (k := k) h5 h10
  unfold fb4 rNo
  rw [if_neg hk]
  revert t
  generalize (if u5 = true ∧ y5 ≠ 0 then ((5, y5) : Int × Int) else if u5 = false ∧ b5 = false then (5, 29) else if u10 = true ∧ y10 ≠ 0 then (10, y10) else if u10 = false ∧ b10 = false then (10, 29) else (0, 0)) = T
  generalize (if rC3 k st rs ≠ 0 then (rC3 k st rs, 3) else if rC4 k m ≠ 0 then (rC4 k m, 4) else ((0, 0) : Int × Int)) = N
  intro t
  have t2 : FbOk (if u2 = true ∧ y2 ≠ 0 then (2, y2) else if u2 = false ∧ b2 = false then (2, 29) else T) (if rB2 k slot then ((29, 2) : Int × Int) else N).1 (if rB2 k slot then ((29, 2) : Int × Int) else N).2 := by
    by_cases hB : rB2 k slot
    · rw [if_pos hB]
      rw [if_pos hB] at h2
      cases u2 with
      | true =>
        rw [if_pos rfl] at h2
        subst h2
        rw [if_pos ⟨rfl, by decide⟩]; exact fbok _ _ _ rfl
      | false =>
        rw [if_neg (by simp)] at h2
        rw [if_neg (by simp), if_pos ⟨rfl, h2.2 hB⟩]; exact fbok _ _ _ rfl
    · rw [if_neg hB]
      rw [if_neg hB] at h2
      cases u2 with
      | true =>
        rw [if_pos rfl] at h2
        subst h2
        rw [if_neg (by simp), if_neg (by simp)]; exact t
      | false =>
        rw [if_neg (by simp)] at h2
        rw [if_neg (by simp), if_neg (fun e => hB (h2.1 e.2))]; exact t
  by_cases hB : rB1 k num node
  · rw [if_pos hB]
    rw [if_pos hB] at h1
    cases u1 with
    | true =>
      rw [if_pos rfl] at h1
      subst h1
      rw [if_pos ⟨rfl, by decide⟩]; exact fbok _ _ _ rfl
    | false =>
      rw [if_neg (by simp)] at h1
      rw [if_neg (by simp), if_pos ⟨rfl, h1.2 hB⟩]; exact fbok _ _ _ rfl
  · rw [if_neg hB]
    rw [if_neg hB] at h1
    cases u1 with
    | true =>
      rw [if_pos rfl] at h1
      subst h1
      rw [if_neg (by simp), if_neg (by simp)]; exact t2
    | false =>
      rw [if_neg (by simp)] at h1
      rw [if_neg (by simp), if_neg (fun e => hB (h1.1 e.2))]; exact t2
end
theorem bool_not {b : Bool} {p : Prop} (h : b = true ↔ p) : b = false ↔ ¬ p := by
  cases b
  · exact ⟨fun _ hp => Bool.noConfusion (h.2 hp), fun _ => rfl⟩
  · exact ⟨fun e => Bool.noConfusion e, fun hp => absurd (h.1 rfl) hp⟩
section
variable {num : Nat} {node : Int} {slot st : Nat} {rs : List Rq} {n m : Nat} {b1 b2 b5 b10 : Bool}
theorem f1_used {k : Int} (hk : k ≤ 3) : balY num node = (if rB1 k num node then 29 else 0) := by
  have e : rB1 k num node ↔ balBad num node := by unfold rB1; rw [if_pos hk]
  unfold balY
  by_cases h : balBad num node
  · rw [if_pos h, if_pos (e.2 h)]
  · rw [if_neg h, if_neg (fun x => h (e.1 x))]
theorem f1_not {k : Int} (hk : ¬ k ≤ 3) (h : b1 = true ↔ num = 0 ∧ node = 0) : b1 = false ↔ rB1 k num node := by
  unfold rB1
  rw [if_neg hk, bool_not h]
  omega
theorem f2_used {k : Int} (hk : ¬ (k = 1 ∨ k = 3)) : bndY slot 0 1099511627776 = (if rB2 k slot then 29 else 0) := by
  by_cases h : 1099511627776 < slot
  · rw [bnd_no h, if_pos (.inl h)]
  · rw [bnd_ok h, if_neg (fun e => e.elim h (fun e => hk e.1))]
theorem f2_not {k : Int} (hk : k = 1 ∨ k = 3) (h : b2 = true ↔ slot = 0) : b2 = false ↔ rB2 k slot := by
  unfold rB2
  rw [bool_not h]
  constructor
  · intro e; exact .inr ⟨hk, e⟩
  · intro e; rcases e with e | e
    · omega
    · exact e.2
theorem f5_not {k : Int} (hk : k ≠ 2) (hn : rs.length = n) (h : b5 = true ↔ st = 0 ∧ n = 0) : (b5 = false ↔ rC3 k st rs = 29) ∧ (b5 = true ↔ rC3 k st rs = 0) := by
  obtain ⟨r1, r2⟩ := rC3_not hk (st := st) (rs := rs)
  by_cases hz : st = 0 ∧ n = 0
  · have e := r2 hz.1 (hn.trans hz.2)
    rw [e, h.2 hz]; simp
  · have e := r1 (by rw [hn]; omega)
    have hb : b5 = false := (bool_not h).2 hz
    rw [e, hb]; simp
theorem f10_not {k : Int} (hk : k ≠ 5) (h : b10 = true ↔ m = 0) : (b10 = false ↔ rC4 k m = 29) ∧ (b10 = true ↔ rC4 k m = 0) := by
  obtain ⟨r1, r2⟩ := rC4_not hk (m := m)
  by_cases hz : m = 0
  · rw [r2 hz, h.2 hz]; simp
  · have hb : b10 = false := (bool_not h).2 hz
    rw [r1 (by omega), hb]; simp
theorem f10_used : cntY m 40000 = rC4 5 m := by
  by_cases h : 40000 < m
  · rw [rC4_5.1 h]; unfold cntY; rw [if_pos (.inr (by omega))]
  · rw [rC4_5.2 h]; unfold cntY; rw [if_neg (by omega)]
theorem first_no {k : Int} (hf : fsOf k ≠ []) (hn : rs.length = n) (h1 : b1 = true ↔ num = 0 ∧ node = 0) (h2 : b2 = true ↔ slot = 0) (h5 : b5 = true ↔ st = 0 ∧ n = 0) (h10 : b10 = true ↔ m = 0) :
    FbOk (fbGo (ckAll num node slot st rs m (fsOf k) (U0, Y0)).1 (ckAll num node slot st rs m (fsOf k) (U0, Y0)).2 [false, b1, b2, true, true, b5, true, true, true, true, b10, true, true, true, true, true] 15 1) (rNo k num node slot st rs m).1 (rNo k num node slot st rs m).2 := by
  unfold fsOf at hf ⊢
  by_cases hk1 : k = 1 ∨ k = 3
  · rw [if_pos hk1]
    have e := fb_eq true false false false (balY num node) 0 0 0 b1 b2 b5 b10
    refine (show FbOk (fbGo _ _ _ 15 1) _ _ from ?_)
    show FbOk (fbGo [false, true, false, false, false, false, false, false, false, false, false, false, false, false, false, false] [0, balY num node, 0, 0, 0, 0, 0, 0, 0, 0, 0, 0, 0, 0, 0, 0] _ 15 1) _ _
    rw [e]
    exact fb_all (by omega) (by rw [if_pos rfl]; exact f1_used (by omega)) (by rw [if_neg (by simp)]; exact f2_not hk1 h2) (by rw [if_neg (by simp)]; exact f5_not (by omega) hn h5) (by rw [if_neg (by simp)]; exact f10_not (by omega) h10)
  · rw [if_neg hk1] at hf ⊢
    by_cases hk2 : k = 2
    · subst hk2
      rw [if_pos rfl]
      have e := fb_eq true true true false (balY num node) (bndY slot 0 1099511627776) (bFault st rs).2 0 b1 b2 b5 b10
      show FbOk (fbGo [false, true, true, false, false, true, false, false, false, false, false, false, false, false, false, false] [0, balY num node, bndY slot 0 1099511627776, 0, 0, (bFault st rs).2, 0, 0, 0, 0, 0, 0, 0, 0, 0, 0] _ 15 1) _ _
      rw [e]
      exact fb_all (by omega) (by rw [if_pos rfl]; exact f1_used (by omega)) (by rw [if_pos rfl]; exact f2_used (by omega)) (by rw [if_pos rfl]; exact (if_pos rfl : rC3 2 st rs = _).symm) (by rw [if_neg (by simp)]; exact f10_not (by omega) h10)
    · rw [if_neg hk2] at hf ⊢
      by_cases hk4 : k = 4
      · subst hk4
        rw [if_pos rfl]
        have e := fb_eq false true false false 0 (bndY slot 0 1099511627776) 0 0 b1 b2 b5 b10
        show FbOk (fbGo [false, false, true, false, false, false, false, false, false, false, false, false, false, false, false, false] [0, 0, bndY slot 0 1099511627776, 0, 0, 0, 0, 0, 0, 0, 0, 0, 0, 0, 0, 0] _ 15 1) _ _
        rw [e]
        exact fb_all (by omega) (by rw [if_neg (by simp)]; exact f1_not (by omega) h1) (by rw [if_pos rfl]; exact f2_used (by omega)) (by rw [if_neg (by simp)]; exact f5_not (by omega) hn h5) (by rw [if_neg (by simp)]; exact f10_not (by omega) h10)
      · rw [if_neg hk4] at hf ⊢
        by_cases hk5 : k = 5
        · subst hk5
          rw [if_pos rfl]
          have e := fb_eq false true false true 0 (bndY slot 0 1099511627776) 0 (cntY m 40000) b1 b2 b5 b10
          show FbOk (fbGo [false, false, true, false, false, false, false, false, false, false, true, false, false, false, false, false] [0, 0, bndY slot 0 1099511627776, 0, 0, 0, 0, 0, 0, 0, cntY m 40000, 0, 0, 0, 0, 0] _ 15 1) _ _
          rw [e]
          exact fb_all (by omega) (by rw [if_neg (by simp)]; exact f1_not (by omega) h1) (by rw [if_pos rfl]; exact f2_used (by omega)) (by rw [if_neg (by simp)]; exact f5_not (by omega) hn h5) (by rw [if_pos rfl]; exact f10_used)
        · rw [if_neg hk5] at hf
          exact absurd rfl hf
end
end Go.Proofs.YtgaalaoflaklgaaGreat
