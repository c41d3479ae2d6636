import Derived.Test.YtldhafpeigdloaaGreatDoorM32
import Derived.Test.YtldhafpeigdloaaGreatDoorRBkA
import Derived.Test.YtldhafpeigdloaaGreatDoorRBkB
import Derived.Test.YtldhafpeigdloaaGreatDoorM33
import Derived.Test.YtldhafpeigdloaaGreatDoorM34
import Derived.Test.YtldhafpeigdloaaGreatDoorM25
import Derived.Test.YtldhafpeigdloaaGreatDoorM13
import Derived.Test.YtldhafpeigdloaaGreatDoorM26
import Derived.Deep.RegionHeld
namespace Go.Proofs.YtldhafpeigdloaaGreatDoor
open Go.RowKit Crc

theorem blank_any (num : Nat) (node : Int) (slot st : Nat) (ro : Option Addr) (n rc : Nat) (do_ : Option Addr) (m dc : Nat) : BkP num node slot st ro n rc do_ m dc := fun cs hcs w => by
  by_cases h : st = 0
  · exact blank_z num node slot st ro n rc do_ m dc cs hcs w h
  · exact blank_s num node slot st ro n rc do_ m dc cs hcs w h
/-- The fields that a record has, looked over in their order. -/
def fb4 (u1 u2 u5 u10 : Bool) (y1 y2 y5 y10 : Int) (b1 b2 b5 b10 : Bool) : Int × Int :=
  if u1 = true ∧ y1 ≠ 0 then (1, y1) else if u1 = false ∧ b1 = false then (1, 29) else
  if u2 = true ∧ y2 ≠ 0 then (2, y2) else if u2 = false ∧ b2 = false then (2, 29) else
  if u5 = true ∧ y5 ≠ 0 then (5, y5) else if u5 = false ∧ b5 = false then (5, 29) else
  if u10 = true ∧ y10 ≠ 0 then (10, y10) else if u10 = false ∧ b10 = false then (10, 29) else (0, 0)
theorem fb_eq (u1 u2 u5 u10 : Bool) (y1 y2 y5 y10 : Int) (b1 b2 b5 b10 : Bool) : fbGo [false, u1, u2, false, false, u5, false, false, false, false, u10, false, false, false, false, false] [0, y1, y2, 0, 0, y5, 0, 0, 0, 0, y10, 0, 0, 0, 0, 0] [false, b1, b2, true, true, b5, true, true, true, true, b10, true, true, true, true, true] 15 1 = fb4 u1 u2 u5 u10 y1 y2 y5 y10 b1 b2 b5 b10 := by
  simp [fbGo, fb4, List.getD]
def plc (a : Int) : Int := if a = 5 then 3 else if a = 10 then 4 else a
/-- What is found is what the document names. -/
def FbOk (r : Int × Int) (c a : Int) : Prop := r.2 = c ∧ (c ≠ 0 → plc r.1 = a)
theorem fbok (x c a : Int) (h : plc x = a) : FbOk (x, c) c a := ⟨rfl, fun _ => h⟩
theorem bnd_no {slot : Nat} (h : 1099511627776 < slot) : bndY slot 0 1099511627776 = 29 := by unfold bndY; rw [if_pos (.inr h)]
theorem bnd_ok {slot : Nat} (h : ¬ 1099511627776 < slot) : bndY slot 0 1099511627776 = 0 := by unfold bndY; rw [if_neg (by omega)]
theorem bool_ff {b : Bool} {p : Prop} (h : b = true ↔ p) (hp : ¬ p) : b = false := by
  cases b
  · rfl
  · exact absurd (h.1 rfl) hp
section
variable {num : Nat} {node : Int} {slot st : Nat} {rs : List Rq} {m : Nat} {b1 b2 b5 b10 : Bool}
/-- Behind the ballot and the slot. -/
theorem fb_tail {k : Int} {u5 u10 : Bool} {y5 y10 : Int} (h5 : if u5 = true then y5 = rC3 k st rs else (b5 = false ↔ rC3 k st rs = 29) ∧ (b5 = true ↔ rC3 k st rs = 0)) (h10 : if u10 = true then y10 = rC4 k m else (b10 = false ↔ rC4 k m = 29) ∧ (b10 = true ↔ rC4 k m = 0)) :
    FbOk (if u5 = true ∧ y5 ≠ 0 then (5, y5) else if u5 = false ∧ b5 = false then (5, 29) else if u10 = true ∧ y10 ≠ 0 then (10, y10) else if u10 = false ∧ b10 = false then (10, 29) else (0, 0)) (if rC3 k st rs ≠ 0 then (rC3 k st rs, 3) else if rC4 k m ≠ 0 then (rC4 k m, 4) else ((0, 0) : Int × Int)).1 (if rC3 k st rs ≠ 0 then (rC3 k st rs, 3) else if rC4 k m ≠ 0 then (rC4 k m, 4) else ((0, 0) : Int × Int)).2 := by
  have t2 : FbOk (if u10 = true ∧ y10 ≠ 0 then (10, y10) else if u10 = false ∧ b10 = false then (10, 29) else (0, 0)) (if rC4 k m ≠ 0 then (rC4 k m, 4) else ((0, 0) : Int × Int)).1 (if rC4 k m ≠ 0 then (rC4 k m, 4) else ((0, 0) : Int × Int)).2 := by
    cases u10 with
    | true =>
      rw [if_pos rfl] at h10
      subst h10
      by_cases h : rC4 k m ≠ 0
      · rw [if_pos ⟨rfl, h⟩, if_pos h]; exact fbok _ _ _ rfl
      · rw [if_neg (fun e => h e.2), if_neg (by simp), if_neg h]; exact fbok _ _ _ rfl
    | false =>
      rw [if_neg (by simp)] at h10
      rw [if_neg (by simp)]
      cases hb : b10 with
      | false =>
        have e := h10.1.1 hb
        rw [if_pos ⟨rfl, rfl⟩, e, if_pos (by decide)]; exact fbok _ _ _ rfl
      | true =>
        have e := h10.2.1 hb
        rw [if_neg (by simp), e, if_neg (by decide)]; exact fbok _ _ _ rfl
  cases u5 with
  | true =>
    rw [if_pos rfl] at h5
    subst h5
    by_cases h : rC3 k st rs ≠ 0
    · rw [if_pos ⟨rfl, h⟩, if_pos h]; exact fbok _ _ _ rfl
    · rw [if_neg (fun e => h e.2), if_neg (by simp), if_neg h]; exact t2
  | false =>
    rw [if_neg (by simp)] at h5
    rw [if_neg (by simp)]
    cases hb : b5 with
    | false =>
      have e := h5.1.1 hb
      rw [if_pos ⟨rfl, rfl⟩, e, if_pos (by decide)]; exact fbok _ _ _ rfl
    | true =>
      have e := h5.2.1 hb
      rw [if_neg (by simp), e, if_neg (show ¬ (0 : Int) ≠ 0 by decide)]; exact t2
theorem fb_all {k : Int} (hk : ¬ (k < 1 ∨ 5 < k)) {u1 u2 u5 u10 : Bool} {y1 y2 y5 y10 : Int} (h1 : if u1 = true then y1 = (if rB1 k num node then 29 else 0) else (b1 = false ↔ rB1 k num node)) (h2 : if u2 = true then y2 = (if rB2 k slot then 29 else 0) else (b2 = false ↔ rB2 k slot)) (h5 : if u5 = true then y5 = rC3 k st rs else (b5 = false ↔ rC3 k st rs = 29) ∧ (b5 = true ↔ rC3 k st rs = 0)) (h10 : if u10 = true then y10 = rC4 k m else (b10 = false ↔ rC4 k m = 29) ∧ (b10 = true ↔ rC4 k m = 0)) :
    FbOk (fb4 u1 u2 u5 u10 y1 y2 y5 y10 b1 b2 b5 b10) (rNo k num node slot st rs m).1 (rNo k num node slot st rs m).2 := by
  have t := fb_tail (k := k) h5 h10
  unfold fb4 rNo
  rw [if_neg hk]
  revert t
  generalize (if u5 = true ∧ y5 ≠ 0 then ((5, y5) : Int × Int) else if u5 = false ∧ b5 = false then (5, 29) else if u10 = true ∧ y10 ≠ 0 then (10, y10) else if u10 = false ∧ b10 = false then (10, 29) else (0, 0)) = T
  generalize (if rC3 k st rs ≠ 0 then (rC3 k st rs, 3) else if rC4 k m ≠ 0 then (rC4 k m, 4) else ((0, 0) : Int × Int)) = N
  intro t
  have t2 : FbOk (if u2 = true ∧ y2 ≠ 0 then (2, y2) else if u2 = false ∧ b2 = false then (2, 29) else T) (if rB2 k slot then ((29, 2) : Int × Int) else N).1 (if rB2 k slot then ((29, 2) : Int × Int) else N).2 := by
    by_cases hB : rB2 k slot
    · rw [if_pos hB]
      rw [if_pos hB] at h2
      cases u2 with
      | true =>
        rw [if_pos rfl] at h2
        subst h2
        rw [if_pos ⟨rfl, by decide⟩]; exact fbok _ _ _ rfl
      | false =>
        rw [if_neg (by simp)] at h2
        rw [if_neg (by simp), if_pos ⟨rfl, h2.2 hB⟩]; exact fbok _ _ _ rfl
    · rw [if_neg hB]
      rw [if_neg hB] at h2
      cases u2 with
      | true =>
        rw [if_pos rfl] at h2
        subst h2
        rw [if_neg (by simp), if_neg (by simp)]; exact t
      | false =>
        rw [if_neg (by simp)] at h2
        rw [if_neg (by simp), if_neg (fun e => hB (h2.1 e.2))]; exact t
  by_cases hB : rB1 k num node
  · rw [if_pos hB]
    rw [if_pos hB] at h1
    cases u1 with
    | true =>
      rw [if_pos rfl] at h1
      subst h1
      rw [if_pos ⟨rfl, by decide⟩]; exact fbok _ _ _ rfl
    | false =>
      rw [if_neg (by simp)] at h1
      rw [if_neg (by simp), if_pos ⟨rfl, h1.2 hB⟩]; exact fbok _ _ _ rfl
  · rw [if_neg hB]
    rw [if_neg hB] at h1
    cases u1 with
    | true =>
      rw [if_pos rfl] at h1
      subst h1
      rw [if_neg (by simp), if_neg (by simp)]; exact t2
    | false =>
      rw [if_neg (by simp)] at h1
      rw [if_neg (by simp), if_neg (fun e => hB (h1.1 e.2))]; exact t2
end
theorem bool_not {b : Bool} {p : Prop} (h : b = true ↔ p) : b = false ↔ ¬ p := by
  cases b
  · exact ⟨fun _ hp => Bool.noConfusion (h.2 hp), fun _ => rfl⟩
  · exact ⟨fun e => Bool.noConfusion e, fun hp => absurd (h.1 rfl) hp⟩
section
variable {num : Nat} {node : Int} {slot st : Nat} {rs : List Rq} {n m : Nat} {b1 b2 b5 b10 : Bool}
theorem f1_used {k : Int} (hk : k ≤ 3) : balY num node = (if rB1 k num node then 29 else 0) := by
  have e : rB1 k num node ↔ balBad num node := by unfold rB1; rw [if_pos hk]
  unfold balY
  by_cases h : balBad num node
  · rw [if_pos h, if_pos (e.2 h)]
  · rw [if_neg h, if_neg (fun x => h (e.1 x))]
theorem f1_not {k : Int} (hk : ¬ k ≤ 3) (h : b1 = true ↔ num = 0 ∧ node = 0) : b1 = false ↔ rB1 k num node := by
  unfold rB1
  rw [if_neg hk, bool_not h]
  omega
theorem f2_used {k : Int} (hk : ¬ (k = 1 ∨ k = 3)) : bndY slot 0 1099511627776 = (if rB2 k slot then 29 else 0) := by
  by_cases h : 1099511627776 < slot
  · rw [bnd_no h, if_pos (.inl h)]
  · rw [bnd_ok h, if_neg (fun e => e.elim h (fun e => hk e.1))]
theorem f2_not {k : Int} (hk : k = 1 ∨ k = 3) (h : b2 = true ↔ slot = 0) : b2 = false ↔ rB2 k slot := by
  unfold rB2
  rw [bool_not h]
  constructor
  · intro e; exact .inr ⟨hk, e⟩
  · intro e; rcases e with e | e
    · omega
    · exact e.2
theorem f5_not {k : Int} (hk : k ≠ 2) (hn : rs.length = n) (h : b5 = true ↔ st = 0 ∧ n = 0) : (b5 = false ↔ rC3 k st rs = 29) ∧ (b5 = true ↔ rC3 k st rs = 0) := by
  obtain ⟨r1, r2⟩ := rC3_not hk (st := st) (rs := rs)
  by_cases hz : st = 0 ∧ n = 0
  · have e := r2 hz.1 (hn.trans hz.2)
    rw [e, h.2 hz]; simp
  · have e := r1 (by rw [hn]; omega)
    have hb : b5 = false := (bool_not h).2 hz
    rw [e, hb]; simp
theorem f10_not {k : Int} (hk : k ≠ 5) (h : b10 = true ↔ m = 0) : (b10 = false ↔ rC4 k m = 29) ∧ (b10 = true ↔ rC4 k m = 0) := by
  obtain ⟨r1, r2⟩ := rC4_not hk (m := m)
  by_cases hz : m = 0
  · rw [r2 hz, h.2 hz]; simp
  · have hb : b10 = false := (bool_not h).2 hz
    rw [r1 (by omega), hb]; simp
theorem f10_used : cntY m 40000 = rC4 5 m := by
  by_cases h : 40000 < m
  · rw [rC4_5.1 h]; unfold cntY; rw [if_pos (.inr (by omega))]
  · rw [rC4_5.2 h]; unfold cntY; rw [if_neg (by omega)]
theorem first_no {k : Int} (hf : fsOf k ≠ []) (hn : rs.length = n) (h1 : b1 = true ↔ num = 0 ∧ node = 0) (h2 : b2 = true ↔ slot = 0) (h5 : b5 = true ↔ st = 0 ∧ n = 0) (h10 : b10 = true ↔ m = 0) :
    FbOk (fbGo (ckAll num node slot st rs m (fsOf k) (U0, Y0)).1 (ckAll num node slot st rs m (fsOf k) (U0, Y0)).2 [false, b1, b2, true, true, b5, true, true, true, true, b10, true, true, true, true, true] 15 1) (rNo k num node slot st rs m).1 (rNo k num node slot st rs m).2 := by
  unfold fsOf at hf ⊢
  by_cases hk1 : k = 1 ∨ k = 3
  · rw [if_pos hk1]
    have e := fb_eq true false false false (balY num node) 0 0 0 b1 b2 b5 b10
    refine (show FbOk (fbGo _ _ _ 15 1) _ _ from ?_)
    show FbOk (fbGo [false, true, false, false, false, false, false, false, false, false, false, false, false, false, false, false] [0, balY num node, 0, 0, 0, 0, 0, 0, 0, 0, 0, 0, 0, 0, 0, 0] _ 15 1) _ _
    rw [e]
    exact fb_all (by omega) (by rw [if_pos rfl]; exact f1_used (by omega)) (by rw [if_neg (by simp)]; exact f2_not hk1 h2) (by rw [if_neg (by simp)]; exact f5_not (by omega) hn h5) (by rw [if_neg (by simp)]; exact f10_not (by omega) h10)
  · rw [if_neg hk1] at hf ⊢
    by_cases hk2 : k = 2
    · subst hk2
      rw [if_pos rfl]
      have e := fb_eq true true true false (balY num node) (bndY slot 0 1099511627776) (bFault st rs).2 0 b1 b2 b5 b10
      show FbOk (fbGo [false, true, true, false, false, true, false, false, false, false, false, false, false, false, false, false] [0, balY num node, bndY slot 0 1099511627776, 0, 0, (bFault st rs).2, 0, 0, 0, 0, 0, 0, 0, 0, 0, 0] _ 15 1) _ _
      rw [e]
      exact fb_all (by omega) (by rw [if_pos rfl]; exact f1_used (by omega)) (by rw [if_pos rfl]; exact f2_used (by omega)) (by rw [if_pos rfl]; exact (if_pos rfl : rC3 2 st rs = _).symm) (by rw [if_neg (by simp)]; exact f10_not (by omega) h10)
    · rw [if_neg hk2] at hf ⊢
      by_cases hk4 : k = 4
      · subst hk4
        rw [if_pos rfl]
        have e := fb_eq false true false false 0 (bndY slot 0 1099511627776) 0 0 b1 b2 b5 b10
        show FbOk (fbGo [false, false, true, false, false, false, false, false, false, false, false, false, false, false, false, false] [0, 0, bndY slot 0 1099511627776, 0, 0, 0, 0, 0, 0, 0, 0, 0, 0, 0, 0, 0] _ 15 1) _ _
        rw [e]
        exact fb_all (by omega) (by rw [if_neg (by simp)]; exact f1_not (by omega) h1) (by rw [if_pos rfl]; exact f2_used (by omega)) (by rw [if_neg (by simp)]; exact f5_not (by omega) hn h5) (by rw [if_neg (by simp)]; exact f10_not (by omega) h10)
      · rw [if_neg hk4] at hf ⊢
        by_cases hk5 : k = 5
        · subst hk5
          rw [if_pos rfl]
          have e := fb_eq false true false true 0 (bndY slot 0 1099511627776) 0 (cntY m 40000) b1 b2 b5 b10
          show FbOk (fbGo [false, false, true, false, false, false, false, false, false, false, true, false, false, false, false, false] [0, 0, bndY slot 0 1099511627776, 0, 0, 0, 0, 0, 0, 0, cntY m 40000, 0, 0, 0, 0, 0] _ 15 1) _ _
          rw [e]
          exact fb_all (by omega) (by rw [if_neg (by simp)]; exact f1_not (by omega) h1) (by rw [if_pos rfl]; exact f2_used (by omega)) (by rw [if_neg (by simp)]; exact f5_not (by omega) hn h5) (by rw [if_pos rfl]; exact f10_used)
        · rw [if_neg hk5] at hf
          exact absurd rfl hf
end
end Go.Proofs.YtldhafpeigdloaaGreatDoor
namespace Go.Proofs.YtldhafpeigdloaaGreatDoor
open Go.RowKit Crc

def Fd.wok (f : Fd) (node : Int) (nd : Nat) (rs : List Rq) : Prop := match f with
  | .ballot => node = (nd : Int) ∧ nd < 256
  | .slot => True
  | .batch => rs.length ≤ 8 ∧ ∀ r ∈ rs, r.cn ≤ 700
  | .snap => True
/-- What lies beside the writer. -/
structure Wx (base num slot st : Nat) (ro : Option Addr) (rs : List Rq) (b off n : Nat) (do_ : Option Addr) (m dc : Nat) (D : List Nat) (w : World) : Prop where
  hnum : num < 18446744073709551616
  hslot : slot < 18446744073709551616
  hst : st < 18446744073709551616
  hR : Rqs base w ro rs b off
  hn : rs.length = n
  hco : ∀ r ∈ rs, ∀ b off, r.co = some ⟨b, off, none⟩ → b < base
  hS : Shows base w do_ m dc D
  hdo : ∀ b off, do_ = some ⟨b, off, none⟩ → b < base
theorem Wx.below {base num slot st : Nat} {ro : Option Addr} {rs : List Rq} {b off n : Nat} {do_ : Option Addr} {m dc : Nat} {D : List Nat} {w w' : World} (h : Wx base num slot st ro rs b off n do_ m dc D w) (hb : Below base w w') : Wx base num slot st ro rs b off n do_ m dc D w' :=
  ⟨h.hnum, h.hslot, h.hst, h.hR.below hb, h.hn, h.hco, h.hS.belowL hb, h.hdo⟩
/-- While the fields are written. -/
structure Wl (fs : List Fd) (base p num nd slot st : Nat) (rs : List Rq) (m : Nat) (D : List Nat) (s : WS) (w : World) (k : Nat) (wr : World) : Prop where
  wrs : WrS base wr p (layAll num nd slot st rs m D (fs.take k) s)
  inv : (layAll num nd slot st rs m D (fs.take k) s).Inv
  kk : (layAll num nd slot st rs m D (fs.take k) s).K = s.K
  tch : Tch 4 w wr p
theorem layAll_snoc (num nd slot st : Nat) (rs : List Rq) (m : Nat) (D : List Nat) (fs : List Fd) (f : Fd) (s : WS) : layAll num nd slot st rs m D (fs ++ [f]) s = f.lay num nd slot st rs m D (layAll num nd slot st rs m D fs s) := by simp [layAll]
theorem Wl.next {fs : List Fd} {base p num nd slot st : Nat} {rs : List Rq} {m : Nat} {D : List Nat} {s : WS} {w : World} {k : Nat} {wr w1 : World} {f : Fd} (h : Wl fs base p num nd slot st rs m D s w k wr) (hf : fs[k]? = some f) (h1 : WrS base w1 p (f.lay num nd slot st rs m D (layAll num nd slot st rs m D (fs.take k) s))) (h2 : Tch 4 wr w1 p) : Wl fs base p num nd slot st rs m D s w (k + 1) w1 := by
  have e : layAll num nd slot st rs m D (fs.take (k + 1)) s = f.lay num nd slot st rs m D (layAll num nd slot st rs m D (fs.take k) s) := by
    rw [List.take_add_one, hf]
    exact layAll_snoc num nd slot st rs m D (fs.take k) f s
  refine ⟨by rw [e]; exact h1, by rw [e]; exact lay_inv _ _ _ _ _ _ _ f h.inv, by rw [e, lay_K]; exact h.kk, h.tch.trans h2⟩

end Go.Proofs.YtldhafpeigdloaaGreatDoor
namespace Go.Proofs.YtldhafpeigdloaaGreatDoor
open Go.RowKit Crc

theorem newW (w : World) : Calls Tryz.prog 29 #[.int .i64 65507] w fun e w' => e = .returned (.pointer (some ⟨w.heap.size, 0, none⟩)) ∧ w' = w.alloc (.cells #[.bool true, .int .i64 0, .int .i64 0, .int .i64 65507, .slice none 0 0] 89) :=
  (newWriter_any 65507 w).mono (fun _ _ h => ⟨h.1, h.2⟩)
theorem fin_nw {w W : World} {num : Nat} {node : Int} {slot st : Nat} {ro : Option Addr} {n rc : Nat} {do_ : Option Addr} {m dc : Nat} (hb : Below w.heap.size w W) :
    WrS w.heap.size (W.alloc (.cells (List.toArray ([.bool true, .int .i64 0, .int .i64 0, .int .i64 65507, .slice none 0 0] ++ (msgR num node slot st (.slice ro n rc) (.slice do_ m dc)))) 93)) W.heap.size ⟨true, 0, 0, 65507, [], ⟨93, (msgR num node slot st (.slice ro n rc) (.slice do_ m dc))⟩⟩ ∧ Below w.heap.size w (W.alloc (.cells (List.toArray ([.bool true, .int .i64 0, .int .i64 0, .int .i64 65507, .slice none 0 0] ++ (msgR num node slot st (.slice ro n rc) (.slice do_ m dc)))) 93)) ∧ w.heap.size ≤ W.heap.size :=
  ⟨⟨.slice none 0 0, alloc_at _ _, Owns.nil _ _, by simp [Value.ownBlock]⟩, hb.alloc hb.size _, hb.size⟩
theorem build_fw (num : Nat) (node : Int) (slot st : Nat) (ro : Option Addr) (n rc : Nat) (do_ : Option Addr) (m dc : Nat) (w : World) : (Instr.build 93 #[(0, .agg #[.bool true, .int .i64 0, .int .i64 0, .int .i64 65507, .slice none 0 0]), (1, .agg (msgR num node slot st (.slice ro n rc) (.slice do_ m dc)).toArray)]).run Tryz.prog w = .ok (.agg (List.toArray ([.bool true, .int .i64 0, .int .i64 0, .int .i64 65507, .slice none 0 0] ++ (msgR num node slot st (.slice ro n rc) (.slice do_ m dc))))) w := by kernel_rfl
theorem build_ck (num : Nat) (node : Int) (slot st : Nat) (ro : Option Addr) (n rc : Nat) (do_ : Option Addr) (m dc : Nat) (w : World) : (Instr.build 53 #[(0, .agg (msgR num node slot st (.slice ro n rc) (.slice do_ m dc)).toArray)]).run Tryz.prog w = .ok (.agg ((msgR num node slot st (.slice ro n rc) (.slice do_ m dc)) ++ ((List.replicate 16 false).map Value.bool ++ (List.replicate 16 (0 : Int)).map (Value.int .i64))).toArray) w := by kernel_rfl
end Go.Proofs.YtldhafpeigdloaaGreatDoor
namespace Go.Proofs.YtldhafpeigdloaaGreatDoor
open Go.RowKit Crc

set_option maxRecDepth 10000 in
set_option maxHeartbeats 1600000 in
theorem newFW_any (num : Nat) (node : Int) (slot st : Nat) (ro : Option Addr) (n rc : Nat) (do_ : Option Addr) (m dc : Nat) (w : World) :
    Calls Tryz.prog 15 #[.agg (msgR num node slot st (.slice ro n rc) (.slice do_ m dc)).toArray] w fun e w' => ∃ p, e = .returned (.pointer (some ⟨p, 0, none⟩)) ∧ Hid (WrS w.heap.size w' p ⟨true, 0, 0, 65507, [], ⟨93, (msgR num node slot st (.slice ro n rc) (.slice do_ m dc))⟩⟩ ∧ Below w.heap.size w w' ∧ w.heap.size ≤ p) := by
  have HBD := hide (build_fw num node slot st ro n rc do_ m dc)
  have HSZ : Hid ((Tryz.prog.info? 36).map (·.size) = some (List.length (msgR num node slot st (.slice ro n rc) (.slice do_ m dc)))) := by show _ = _; rw [msgR_len]; kernel_rfl
  have HFN : Hid (∀ W : World, Below w.heap.size w W → WrS w.heap.size (W.alloc (.cells (List.toArray ([.bool true, .int .i64 0, .int .i64 0, .int .i64 65507, .slice none 0 0] ++ (msgR num node slot st (.slice ro n rc) (.slice do_ m dc)))) 93)) W.heap.size ⟨true, 0, 0, 65507, [], ⟨93, (msgR num node slot st (.slice ro n rc) (.slice do_ m dc))⟩⟩ ∧ Below w.heap.size w (W.alloc (.cells (List.toArray ([.bool true, .int .i64 0, .int .i64 0, .int .i64 65507, .slice none 0 0] ++ (msgR num node slot st (.slice ro n rc) (.slice do_ m dc)))) 93)) ∧ w.heap.size ≤ W.heap.size) := fun W hb => fin_nw hb
  generalize (msgR num node slot st (.slice ro n rc) (.slice do_ m dc)) = cs at *
  obtain ⟨W, hW⟩ : ∃ W, w.alloc (.cells cs.toArray 36) = W := ⟨_, rfl⟩
  have q0 : W.heap[w.heap.size]? = some (.cells cs.toArray 36 (0, 0)) := by rw [← hW]; exact alloc_at _ _
  have rg : Hid (W.drew.rangeAt w.heap.size 0 cs) := fun j v hv => by
    show W.cell? ⟨w.heap.size, 0 + j, none⟩ = some v
    rw [Nat.zero_add, block_cell q0 j, List.getElem?_toArray]; exact hv
  have B0 : Hid (Below w.heap.size w W) := by show Below _ _ _; rw [← hW]; exact below_alloc1 w _
  have HW := hide hW
  clear hW q0
  go_enter Tryz.func15, Tryz.ntmps15
  go_wp2_with fail
  rw [HW.out]
  clear HW
  refine wp_region_held_drew (S := fun w' => w'.rangeAt w.heap.size 0 cs) (by kernel_rfl) rg.out (fun hH => ?_)
  refine wpAnyH_take (i := 3) (oi := _) (v := .agg cs.toArray) rfl (by kernel_rfl) (by kernel_rfl) (by kernel_rfl) (fun _ _ _ h => h) (yieldsIf_load_mid (by rfl) 36 _ rfl w.heap.size 0 rfl cs _ (fun _ h => h) Tryz.underlying36 rfl HSZ.out) hH ?_
  simp only [Act.put, List.setIfInBounds_toArray]
  refine wpAnyH_ready (rs := [0]) (by kernel_rfl) (by simp) ?_
  refine AllReadyH.cons rfl (fun K hK => ?_) AllReadyH.nil
  go_simp
  go_wp2_with (go_at_call 29; refine (newW _).mono ?_; rintro e w1 ⟨rfl, rfl⟩)
  refine hK.out _ _ (World.rangeAt_alloc hH _) (fun hH1 => ?_)
  clear hK K
  refine wpAnyH_ready (rs := [1]) (by kernel_rfl) (by simp) ?_
  refine AllReadyH.cons rfl (fun K hK => ?_) AllReadyH.nil
  go_simp
  refine hK.out _ _ (hH1) (fun hH2 => ?_)
  clear hK K
  refine wpAnyH_ready (rs := [2]) (by kernel_rfl) (by simp) ?_
  refine AllReadyH.cons rfl (fun K hK => ?_) AllReadyH.nil
  go_simp
  refine hK.out _ _ (hH2) (fun hH3 => ?_)
  clear hK K
  refine wpAnyH_ready (rs := [4]) (by kernel_rfl) (by simp) ?_
  refine AllReadyH.cons rfl (fun K hK => ?_) AllReadyH.nil
  rw [if_pos (by rfl)]
  refine op_pure (exec_build (t := 93) (parts := #[(0, .tmp 5), (1, .tmp 6)]) rfl (by have h := HBD.out; simpa [Act.eval] using h _)) ?_
  refine hK.out _ _ hH3 (fun hH4 => ?_)
  clear hK K
  refine wpAnyH_ready (rs := [5]) (by kernel_rfl) (by simp) ?_
  refine AllReadyH.cons rfl (fun K hK => ?_) AllReadyH.nil
  go_simp
  refine hK.out _ _ (World.rangeAt_alloc hH4 _) (fun hH5 => ?_)
  clear hK K
  refine wpAnyH_ready (rs := [6]) (by kernel_rfl) (by simp) ?_
  refine AllReadyH.cons rfl (fun K hK => ?_) AllReadyH.nil
  go_simp
  refine hK.out _ _ (hH5) (fun hH6 => ?_)
  clear hK K
  refine wpAnyH_done (by kernel_rfl) ?_ _
  go_wp2
  go_ret
  refine ⟨_, rfl, ?_⟩
  have b1 : Below w.heap.size w (W.alloc (.cells #[.bool true, .int .i64 0, .int .i64 0, .int .i64 65507, .slice none 0 0] 89)) := B0.out.alloc B0.out.size _
  have e : (W.alloc (.cells #[.bool true, .int .i64 0, .int .i64 0, .int .i64 65507, .slice none 0 0] 89)).heap.size = W.heap.size + 1 := by simp
  have h := HFN.out _ b1
  rw [e] at h
  exact ⟨h.1, ⟨h.2.1.os, h.2.1.tape, h.2.1.output, h.2.1.size, h.2.1.block⟩, h.2.2⟩
end Go.Proofs.YtldhafpeigdloaaGreatDoor
namespace Go.Proofs.YtldhafpeigdloaaGreatDoor
open Go.RowKit Crc

theorem build_msg (num : Nat) (node : Int) (slot st : Nat) (ro : Option Addr) (n rc : Nat) (do_ : Option Addr) (m dc : Nat) (w : World) : (Instr.build 36 #[(1, .agg #[.int .u64 (num : Int), .int .i64 node]), (2, .int .u64 (slot : Int)), (5, .agg #[.int .u64 (st : Int), .slice ro n rc]), (10, .slice do_ m dc)]).run Tryz.prog w = .ok (.agg (msgR num node slot st (.slice ro n rc) (.slice do_ m dc)).toArray) w := by kernel_rfl
theorem Box.ofBelow {j p base : Nat} {I : World → WS → Prop} {s : WS} {w w' : World} {o : Obj} (M : Mach j p base I) (h : I w s) (hb : Below w.heap.size w w') (hat : w'.heap[w.heap.size]? = some o) : Box j p w' w.heap.size o := by
  refine ⟨fun hf => ?_, hat⟩
  have := (M.lt _ _ h _ ((Foot.old hb (M.plt h)).1 hf)).2
  omega
theorem fsOf_nil {k : Int} : fsOf k = [] ↔ k < 1 ∨ 5 < k := by
  unfold fsOf
  constructor
  · intro h
    split at h
    · cases h
    · split at h
      · cases h
      · split at h
        · cases h
        · split at h
          · cases h
          · omega
  · intro h
    rw [if_neg (by omega), if_neg (by omega), if_neg (by omega), if_neg (by omega)]
theorem rNo_kind {k : Int} {num : Nat} {node : Int} {slot st : Nat} {rs : List Rq} {m : Nat} (h : fsOf k = []) : rNo k num node slot st rs m = (25, 0) := by
  unfold rNo
  rw [if_pos (fsOf_nil.1 h)]
theorem setCells_block {t : TypeId} (b : Nat) : ∀ (vs : List Value) (o : Nat) (w : World) (C : Array Value), w.heap[b]? = some (.cells C t (0, 0)) → ∃ C' : Array Value, (w.setCells b o vs).heap[b]? = some (.cells C' t (0, 0)) ∧ C'.size = C.size
  | [], _, w, C, h => ⟨C, h, rfl⟩
  | v :: r, o, w, C, h => by
    rw [World.setCells]
    have h1 := heap_setCell_same w b o _ _ v h
    obtain ⟨C', h2, h3⟩ := setCells_block b r (o + 1) _ _ h1
    exact ⟨C', h2, by rw [h3]; simp⟩
theorem block_of_range {W : World} {b : Nat} {C : Array Value} {t : TypeId} {cs : List Value} (hb : W.heap[b]? = some (.cells C t (0, 0))) (hs : C.size = cs.length) (hr : W.rangeAt b 0 cs) : W.heap[b]? = some (.cells cs.toArray t (0, 0)) := by
  have e : C = cs.toArray := by
    refine Array.ext (by simpa using hs) (fun i h1 h2 => ?_)
    have h3 := hr i _ (List.getElem?_eq_getElem (by simpa using h2))
    rw [Nat.zero_add, block_cell hb i, Array.getElem?_eq_getElem h1] at h3
    simpa using h3
  rw [← e]
  exact hb
/-- A struct that is stored into a box of its own: the box. -/
theorem wpList_store_box {P : Program} {ops : Array Oper} {rest : List Oper} {op : Oper} {a : Act} {w : World} {Z : Array Value} {t : TypeId} {Q : Exit → Act → World → Prop} (hgd : op.guard = none) (ty : TypeId) (x y : Operand) (ho : op.op = .store ty x y)
    (cs : List Value) (hx : a.eval x = .pointer (some ⟨w.heap.size, 0, none⟩)) (hy : a.eval y = .agg cs.toArray)
    (hz : cs.length = Z.size) (hi : (P.info? ty).map (·.size) = some cs.length) (h1 : ∀ v ∈ cs, v.oneCell' = true)
    (h : ∀ W, w.grownBy W none → W.heap[w.heap.size]? = some (.cells cs.toArray t (0, 0)) → wpList P ops Q rest (a.put op.dst undef) W) : wpList P ops Q (op :: rest) a (w.alloc (.cells Z t)) := by
  have ht : (w.alloc (.cells Z t)).there w.heap.size 0 cs.length := there_new (by omega)
  refine wpList_store_mid hgd ty x y ho w.heap.size 0 cs.toArray hx hy (by simpa using ht) (by simpa using hi) (all_oneCell_toArray h1) ?_
  have g := grown_setCells w.heap.size cs.toArray.toList 0 (w.alloc (.cells Z t))
  obtain ⟨C', h2, h3⟩ := setCells_block w.heap.size cs.toArray.toList 0 (w.alloc (.cells Z t)) Z (alloc_at _ _)
  exact h _ (grown_new g) (block_of_range h2 (by omega) (World.rangeAt_setCells_same _ _ _ _ ht))
end Go.Proofs.YtldhafpeigdloaaGreatDoor
