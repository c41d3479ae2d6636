import Derived.Test.YtlnfkooimpmahaaGreatRRnA
import Derived.Test.YtlnfkooimpmahaaGreatRRnB
import Derived.Test.YtlnfkooimpmahaaGreatRRnC
import Derived.Test.YtlnfkooimpmahaaGreatRRnD
import Derived.Test.YtlnfkooimpmahaaGreatM27
import Derived.Test.YtlnfkooimpmahaaGreatRFsW
import Derived.Test.YtlnfkooimpmahaaGreatRBkA
import Derived.Test.YtlnfkooimpmahaaGreatRBkB
namespace Go.Proofs.YtlnfkooimpmahaaGreat
open Go.RowKit Crc

theorem rC3_not {k : Int} (hk : k ≠ 2) {st : Nat} {rs : List Rq} : (st ≠ 0 ∨ rs.length ≠ 0 → rC3 k st rs = 29) ∧ (st = 0 → rs.length = 0 → rC3 k st rs = 0) := by
  unfold rC3
  rw [if_neg hk]
  exact ⟨fun h => if_pos h, fun h1 h2 => if_neg (fun h => h.elim (fun h => h h1) (fun h => h h2))⟩
theorem rC4_not {k : Int} (hk : k ≠ 5) {m : Nat} : (0 < m → rC4 k m = 29) ∧ (m = 0 → rC4 k m = 0) := by
  unfold rC4
  refine ⟨fun h => if_pos ⟨hk, h⟩, fun h => ?_⟩
  rw [if_neg (fun e => by omega), if_neg (by omega)]
theorem rC4_5 {m : Nat} : (40000 < m → rC4 5 m = 21) ∧ (¬ 40000 < m → rC4 5 m = 0) := by
  unfold rC4
  rw [if_neg (fun e => e.1 rfl)]
  exact ⟨fun h => if_pos h, fun h => if_neg h⟩
theorem recNo_any {w : World} {k : Int} {num : Nat} {node : Int} {slot st : Nat} {ro : Option Addr} {rs : List Rq} {b off : Nat} {rc n : Nat} {do_ : Option Addr} {m dc : Nat} (h : Rqs w.heap.size w ro rs b off) (hn : rs.length = n) :
    NoP w k num node slot st ro n rc do_ m dc (rNo k num node slot st rs m).1 (rNo k num node slot st rs m).2 := by
  unfold rNo
  by_cases hk : k < 1 ∨ 5 < k
  · rw [if_pos hk]
    rcases hk with hk | hk
    · exact rn_lo hk
    · exact rn_hi hk
  · rw [if_neg hk]
    have hk5 : k = 1 ∨ k = 2 ∨ k = 3 ∨ k = 4 ∨ k = 5 := by omega
    by_cases hB : rB1 k num node
    · rw [if_pos hB]
      unfold rB1 at hB
      rcases hk5 with rfl | rfl | rfl | rfl | rfl
      · rw [if_pos (by decide)] at hB; exact rn_1b hB
      · rw [if_pos (by decide)] at hB; exact rn_2b hB
      · rw [if_pos (by decide)] at hB; exact rn_3b hB
      · rw [if_neg (by decide)] at hB
        by_cases h1 : num = 0
        · exact rn_4b2 h1 (by rcases hB with h | h; exact absurd h1 h; exact h)
        · exact rn_4b1 h1
      · rw [if_neg (by decide)] at hB
        by_cases h1 : num = 0
        · exact rn_5b2 h1 (by rcases hB with h | h; exact absurd h1 h; exact h)
        · exact rn_5b1 h1
    · rw [if_neg hB]
      by_cases hS : rB2 k slot
      · rw [if_pos hS]
        unfold rB1 at hB
        unfold rB2 at hS
        rcases hk5 with rfl | rfl | rfl | rfl | rfl
        · rw [if_pos (by decide)] at hB
          by_cases h3 : 1099511627776 < slot
          · exact rn_1s1 hB h3
          · exact rn_1s2 hB h3 (by rcases hS with h | h; exact absurd h h3; exact h.2)
        · rw [if_pos (by decide)] at hB
          exact rn_2s1 hB (by rcases hS with h | h; exact h; exact absurd h.1 (by decide))
        · rw [if_pos (by decide)] at hB
          by_cases h3 : 1099511627776 < slot
          · exact rn_3s1 hB h3
          · exact rn_3s2 hB h3 (by rcases hS with h | h; exact absurd h h3; exact h.2)
        · rw [if_neg (by decide)] at hB
          exact rn_4s1 (Classical.not_not.1 (fun e => hB (.inl e))) (Classical.not_not.1 (fun e => hB (.inr e))) (by rcases hS with h | h; exact h; exact absurd h.1 (by decide))
        · rw [if_neg (by decide)] at hB
          exact rn_5s1 (Classical.not_not.1 (fun e => hB (.inl e))) (Classical.not_not.1 (fun e => hB (.inr e))) (by rcases hS with h | h; exact h; exact absurd h.1 (by decide))
      · rw [if_neg hS]
        unfold rB1 at hB
        unfold rB2 at hS
        have hS1 : ¬ 1099511627776 < slot := fun e => hS (.inl e)
        rcases hk5 with rfl | rfl | rfl | rfl | rfl
        · rw [if_pos (by decide)] at hB
          have hS2 : slot = 0 := Classical.not_not.1 (fun e => hS (.inr ⟨by decide, e⟩))
          by_cases h4 : st = 0
          · by_cases h5 : n = 0
            · rw [(rC3_not (by decide)).2 h4 (hn.trans h5), if_neg (by decide)]
              by_cases h6 : m = 0
              · rw [(rC4_not (by decide)).2 h6, if_neg (by decide)]; exact rn_1o hB hS2 h4 h5 h6
              · rw [(rC4_not (by decide)).1 (by omega), if_pos (by decide)]; exact rn_1d hB hS2 h4 h5 (by omega)
            · rw [(rC3_not (by decide)).1 (.inr (by omega)), if_pos (by decide)]; exact rn_1t2 hB hS2 h4 h5
          · rw [(rC3_not (by decide)).1 (.inl h4), if_pos (by decide)]; exact rn_1t1 hB hS2 h4
        · rw [if_pos (by decide)] at hB
          have e3 : rC3 2 st rs = (bFault st rs).2 := if_pos rfl
          rw [e3]
          by_cases hf : (bFault st rs).2 = 0
          · rw [if_neg (by rw [hf]; decide)]
            by_cases h6 : m = 0
            · rw [(rC4_not (by decide)).2 h6, if_neg (by decide)]; exact rn_2o h hn hB hS1 hf h6
            · rw [(rC4_not (by decide)).1 (by omega), if_pos (by decide)]; exact rn_2d h hn hB hS1 hf (by omega)
          · rw [if_pos hf]; exact rn_2t h hn hB hS1 hf
        · rw [if_pos (by decide)] at hB
          have hS2 : slot = 0 := Classical.not_not.1 (fun e => hS (.inr ⟨by decide, e⟩))
          by_cases h4 : st = 0
          · by_cases h5 : n = 0
            · rw [(rC3_not (by decide)).2 h4 (hn.trans h5), if_neg (by decide)]
              by_cases h6 : m = 0
              · rw [(rC4_not (by decide)).2 h6, if_neg (by decide)]; exact rn_3o hB hS2 h4 h5 h6
              · rw [(rC4_not (by decide)).1 (by omega), if_pos (by decide)]; exact rn_3d hB hS2 h4 h5 (by omega)
            · rw [(rC3_not (by decide)).1 (.inr (by omega)), if_pos (by decide)]; exact rn_3t2 hB hS2 h4 h5
          · rw [(rC3_not (by decide)).1 (.inl h4), if_pos (by decide)]; exact rn_3t1 hB hS2 h4
        · rw [if_neg (by decide)] at hB
          have h1 : num = 0 := Classical.not_not.1 (fun e => hB (.inl e))
          have h2 : node = 0 := Classical.not_not.1 (fun e => hB (.inr e))
          by_cases h4 : st = 0
          · by_cases h5 : n = 0
            · rw [(rC3_not (by decide)).2 h4 (hn.trans h5), if_neg (by decide)]
              by_cases h6 : m = 0
              · rw [(rC4_not (by decide)).2 h6, if_neg (by decide)]; exact rn_4o h1 h2 hS1 h4 h5 h6
              · rw [(rC4_not (by decide)).1 (by omega), if_pos (by decide)]; exact rn_4d h1 h2 hS1 h4 h5 (by omega)
            · rw [(rC3_not (by decide)).1 (.inr (by omega)), if_pos (by decide)]; exact rn_4t2 h1 h2 hS1 h4 h5
          · rw [(rC3_not (by decide)).1 (.inl h4), if_pos (by decide)]; exact rn_4t1 h1 h2 hS1 h4
        · rw [if_neg (by decide)] at hB
          have h1 : num = 0 := Classical.not_not.1 (fun e => hB (.inl e))
          have h2 : node = 0 := Classical.not_not.1 (fun e => hB (.inr e))
          by_cases h4 : st = 0
          · by_cases h5 : n = 0
            · rw [(rC3_not (by decide)).2 h4 (hn.trans h5), if_neg (by decide)]
              by_cases h6 : 40000 < m
              · rw [rC4_5.1 h6, if_pos (by decide)]; exact rn_5d h1 h2 hS1 h4 h5 h6
              · rw [rC4_5.2 h6, if_neg (by decide)]; exact rn_5o h1 h2 hS1 h4 h5 h6
            · rw [(rC3_not (by decide)).1 (.inr (by omega)), if_pos (by decide)]; exact rn_5t2 h1 h2 hS1 h4 h5
          · rw [(rC3_not (by decide)).1 (.inl h4), if_pos (by decide)]; exact rn_5t1 h1 h2 hS1 h4
end Go.Proofs.YtlnfkooimpmahaaGreat
namespace Go.Proofs.YtlnfkooimpmahaaGreat
open Go.RowKit Crc

section
variable (num nd slot st : Nat) (rs : List Rq) (m : Nat) (D : List Nat)
/-- A field as it is laid down. -/
def Fd.lay (f : Fd) (s : WS) : WS := match f with
  | .ballot => (s.put (numB num) 0).put (big nd 1) 0
  | .slot => s.put (numB slot) 0
  | .batch => layB s st rs
  | .snap => s.put (numB m ++ D) (cntY m 40000)
def Fd.enc (f : Fd) : List Nat := match f with
  | .ballot => numB num ++ big nd 1
  | .slot => numB slot
  | .batch => encL st rs
  | .snap => numB m ++ D
def Fd.fit (f : Fd) : Prop := match f with
  | .ballot => True
  | .slot => True
  | .batch => rs.length ≤ 8 ∧ ∀ r ∈ rs, r.cn ≤ 700 ∧ r.cn = r.C.length
  | .snap => m ≤ 40000 ∧ m = D.length
def Fd.room : Fd → Nat
  | .ballot => 11
  | .slot => 10
  | .batch => 5900
  | .snap => 40010
def layAll (fs : List Fd) (s : WS) : WS := fs.foldl (fun s f => f.lay num nd slot st rs m D s) s
def encAll (fs : List Fd) : List Nat := (fs.map (Fd.enc num nd slot st rs m D)).flatten
end
theorem enc_le : ∀ (rs : List Rq), (∀ r ∈ rs, r.cn ≤ 700 ∧ r.cn = r.C.length) → (rs.map encR).flatten.length ≤ 730 * rs.length
  | [], _ => by simp
  | r :: t, h => by
    have ih := enc_le t (fun x hx => h x (by simp [hx]))
    obtain ⟨h1, h2⟩ := h r (by simp)
    have l1 := numTo_len 9 r.cl
    have l2 := numTo_len 9 r.sq
    have l3 := numTo_len 9 r.cn
    simp only [List.map_cons, List.flatten_cons, List.length_append, encR, List.length_cons, numB] at ih ⊢
    omega
theorem big_one (v : Nat) : (big v 1).length = 1 := big_len v 1 1
theorem layB_at {s : WS} {st : Nat} {rs : List Rq} (hs : s.sound) (hl : ((s.L.length + 5900 : Nat) : Int) ≤ s.most) (h8 : rs.length ≤ 8) (hr : ∀ r ∈ rs, r.cn ≤ 700 ∧ r.cn = r.C.length) : layB s st rs = { s with L := s.L ++ encL st rs } := by
  have l1 : (numB st).length ≤ 10 := numTo_len 9 st
  have l2 : (numB rs.length).length ≤ 10 := numTo_len 9 rs.length
  unfold layB
  have e1 := put_fits (s := s) (F := numB st) hs (by omega)
  rw [e1]
  have e2 := put_fits (s := { s with L := s.L ++ numB st }) (F := numB rs.length) hs (by simp only [List.length_append]; omega)
  rw [e2]
  have e3 := layGo_ok rs { s with L := s.L ++ numB st ++ numB rs.length } hs (by simp only [List.length_append]; omega) (fun r hx => ⟨(hr r hx).1, (hr r hx).2, numTo_len 9 _, numTo_len 9 _, numTo_len 9 _⟩)
  rw [e3]
  simp [encL, List.append_assoc]
section
variable {num nd slot st : Nat} {rs : List Rq} {m : Nat} {D : List Nat}
theorem lay_fits (f : Fd) {s : WS} (hs : s.sound) (hl : ((s.L.length + f.room : Nat) : Int) ≤ s.most) (hf : f.fit rs m D) : f.lay num nd slot st rs m D s = { s with L := s.L ++ f.enc num nd slot st rs m D } ∧ (f.enc num nd slot st rs m D).length ≤ f.room := by
  cases f with
  | ballot =>
    have l1 : (numB num).length ≤ 10 := numTo_len 9 num
    have l2 := big_one nd
    simp only [Fd.room] at hl
    have e1 := put_fits (s := s) (F := numB num) hs (by omega)
    have e2 := put_fits (s := { s with L := s.L ++ numB num }) (F := big nd 1) hs (by simp only [List.length_append]; omega)
    refine ⟨?_, ?_⟩
    · show (s.put (numB num) 0).put (big nd 1) 0 = _
      rw [e1, e2]
      simp [Fd.enc]
    · simp only [Fd.enc, Fd.room, List.length_append]; omega
  | slot =>
    have l1 : (numB slot).length ≤ 10 := numTo_len 9 slot
    simp only [Fd.room] at hl
    exact ⟨put_fits hs (by omega), l1⟩
  | batch =>
    simp only [Fd.room] at hl
    refine ⟨layB_at hs hl hf.1 hf.2, ?_⟩
    have l1 : (numB st).length ≤ 10 := numTo_len 9 st
    have l2 : (numB rs.length).length ≤ 10 := numTo_len 9 rs.length
    have l3 := enc_le rs hf.2
    have l4 := hf.1
    simp only [Fd.enc, Fd.room, encL, List.length_append]
    omega
  | snap =>
    have l1 : (numB m).length ≤ 10 := numTo_len 9 m
    obtain ⟨h1, h2⟩ := hf
    simp only [Fd.room] at hl
    refine ⟨?_, ?_⟩
    · show s.put (numB m ++ D) (cntY m 40000) = _
      rw [show cntY (m : Int) 40000 = 0 by unfold cntY; rw [if_neg (by omega)]]
      exact put_fits hs (by simp only [List.length_append]; omega)
    · simp only [Fd.enc, Fd.room, List.length_append]; omega
theorem layAll_fits : ∀ (fs : List Fd) (s : WS), s.sound → ((s.L.length + (fs.map Fd.room).sum : Nat) : Int) ≤ s.most → (∀ f ∈ fs, f.fit rs m D) → layAll num nd slot st rs m D fs s = { s with L := s.L ++ encAll num nd slot st rs m D fs }
  | [], s, _, _, _ => by simp [layAll, encAll]
  | f :: t, s, hs, hl, hf => by
    simp only [List.map_cons, List.sum_cons] at hl
    obtain ⟨e1, e2⟩ := lay_fits (num := num) (nd := nd) (slot := slot) (st := st) f hs (by omega) (hf f (by simp))
    have ih := layAll_fits t { s with L := s.L ++ f.enc num nd slot st rs m D } hs (by simp only [List.length_append]; omega) (fun x hx => hf x (by simp [hx]))
    show layAll num nd slot st rs m D t (f.lay num nd slot st rs m D s) = _
    rw [e1, ih]
    simp [encAll, List.append_assoc]
end
/-- A record's bytes. -/
def encRec (k num nd slot st : Nat) (rs : List Rq) (m : Nat) (D : List Nat) : List Nat := big k 1 ++ encAll num nd slot st rs m D (fsOf k)
def rRes (k : Int) (num : Nat) (node : Int) (slot st : Nat) (rs : List Rq) (m : Nat) (D : List Nat) : List Nat := if (rNo k num node slot st rs m).1 = 0 then encRec k.toNat num node.toNat slot st rs m D else []
theorem room_le (k : Int) : ((fsOf k).map Fd.room).sum ≤ 60000 := by
  unfold fsOf
  split
  · decide
  · split
    · decide
    · split
      · decide
      · split <;> decide
/-- What a record that may be laid down is. -/
structure RecOk (k : Int) (num : Nat) (node : Int) (slot st : Nat) (rs : List Rq) (m : Nat) : Prop where
  k1 : 1 ≤ k
  k5 : k ≤ 5
  bal : k ≤ 3 → ¬ balBad num node
  bal0 : 3 < k → num = 0 ∧ node = 0
  slot : slot ≤ 1099511627776
  bat : k = 2 → (bFault st rs).2 = 0
  dat : m ≤ 40000
theorem rNo_ok {k : Int} {num : Nat} {node : Int} {slot st : Nat} {rs : List Rq} {m : Nat} (h : (rNo k num node slot st rs m).1 = 0) : RecOk k num node slot st rs m ∧ (rNo k num node slot st rs m).2 = 0 := by
  unfold rNo at h ⊢
  by_cases hk : k < 1 ∨ 5 < k
  · rw [if_pos hk] at h; cases h
  · rw [if_neg hk] at h ⊢
    by_cases hB : rB1 k num node
    · rw [if_pos hB] at h; cases h
    · rw [if_neg hB] at h ⊢
      by_cases hS : rB2 k slot
      · rw [if_pos hS] at h; cases h
      · rw [if_neg hS] at h ⊢
        by_cases h3 : rC3 k st rs ≠ 0
        · rw [if_pos h3] at h; exact absurd h h3
        · rw [if_neg h3] at h ⊢
          by_cases h4 : rC4 k m ≠ 0
          · rw [if_pos h4] at h; exact absurd h h4
          · rw [if_neg h4]
            have h3 := Classical.not_not.1 h3
            have h4 := Classical.not_not.1 h4
            refine ⟨⟨by omega, by omega, fun e => ?_, fun e => ?_, ?_, fun e => ?_, ?_⟩, rfl⟩
            · unfold rB1 at hB; rw [if_pos e] at hB; exact hB
            · unfold rB1 at hB; rw [if_neg (by omega)] at hB
              exact ⟨Classical.not_not.1 (fun x => hB (.inl x)), Classical.not_not.1 (fun x => hB (.inr x))⟩
            · have : ¬ 1099511627776 < slot := fun x => hS (.inl x)
              omega
            · subst e; exact h3
            · unfold rC4 at h4
              by_cases hx : k ≠ 5 ∧ 0 < m
              · rw [if_pos hx] at h4; cases h4
              · rw [if_neg hx] at h4
                by_cases hy : 40000 < m
                · rw [if_pos hy] at h4; cases h4
                · omega
theorem RecOk.fit {k : Int} {num : Nat} {node : Int} {slot st : Nat} {rs : List Rq} {m : Nat} {D : List Nat} (h : RecOk k num node slot st rs m) (hc : ∀ r ∈ rs, r.cn = r.C.length) (hd : m = D.length) : ∀ f ∈ fsOf k, f.fit rs m D := by
  intro f hf
  cases f with
  | ballot => trivial
  | slot => trivial
  | snap => exact ⟨h.dat, hd⟩
  | batch =>
    have hk : k = 2 := by
      unfold fsOf at hf
      split at hf
      · simp at hf
      · split at hf
        · assumption
        · split at hf
          · simp at hf
          · split at hf <;> simp at hf
    obtain ⟨h1, h2, h3⟩ := bFault_ok (h.bat hk)
    exact ⟨h2, fun r hr => ⟨(h3 r hr).2, hc r hr⟩⟩
/-- Both writers come to the same bytes. -/
theorem layRec_ok {k : Int} {num : Nat} {node : Int} {slot st : Nat} {rs : List Rq} {m : Nat} {D : List Nat} {s : WS} (h : RecOk k num node slot st rs m) (hc : ∀ r ∈ rs, r.cn = r.C.length) (hd : m = D.length) (h1 : s.made = true) (h2 : s.why = 0) (h3 : s.most = 65507) (h4 : s.L = []) : layAll num node.toNat slot st rs m D (fsOf k) (s.put (big k.toNat 1) 0) = { s with L := encRec k.toNat num node.toNat slot st rs m D } := by
  have l1 := big_one k.toNat
  have hr := room_le k
  have e1 := put_fits (s := s) (F := big k.toNat 1) ⟨h1, h2⟩ (by rw [h3, h4]; simp only [List.length_nil]; omega)
  rw [e1]
  have e2 := layAll_fits (num := num) (nd := node.toNat) (slot := slot) (st := st) (fsOf k) { s with L := s.L ++ big k.toNat 1 } ⟨h1, h2⟩ (by simp only [h4, List.nil_append]; omega) (h.fit hc hd)
  have hk : ((k.toNat : Nat) : Int) = k := Int.toNat_of_nonneg (by have := h.k1; omega)
  rw [e2]
  simp only [h4, List.nil_append, encRec, hk]
end Go.Proofs.YtlnfkooimpmahaaGreat
namespace Go.Proofs.YtlnfkooimpmahaaGreat
open Go.RowKit Crc

theorem blank_any (num : Nat) (node : Int) (slot st : Nat) (ro : Option Addr) (n rc : Nat) (do_ : Option Addr) (m dc : Nat) : BkP num node slot st ro n rc do_ m dc := fun cs hcs w => by
  by_cases h : st = 0
  · exact blank_z num node slot st ro n rc do_ m dc cs hcs w h
  · exact blank_s num node slot st ro n rc do_ m dc cs hcs w h
/-- The fields that a record has, looked over in their order. -/
def fb4 (u1 u2 u5 u10 : Bool) (y1 y2 y5 y10 : Int) (b1 b2 b5 b10 : Bool) : Int × Int :=
  if u1 = true ∧ y1 ≠ 0 then (1, y1) else if u1 = false ∧ b1 = false then (1, 29) else
  if u2 = true ∧ y2 ≠ 0 then (2, y2) else if u2 = false ∧ b2 = false then (2, 29) else
  if u5 = true ∧ y5 ≠ 0 then (5, y5) else if u5 = false ∧ b5 = false then (5, 29) else
  if u10 = true ∧ y10 ≠ 0 then (10, y10) else if u10 = false ∧ b10 = false then (10, 29) else (0, 0)
theorem fb_eq (u1 u2 u5 u10 : Bool) (y1 y2 y5 y10 : Int) (b1 b2 b5 b10 : Bool) : fbGo [false, u1, u2, false, false, u5, false, false, false, false, u10, false, false, false, false, false] [0, y1, y2, 0, 0, y5, 0, 0, 0, 0, y10, 0, 0, 0, 0, 0] [false, b1, b2, true, true, b5, true, true, true, true, b10, true, true, true, true, true] 15 1 = fb4 u1 u2 u5 u10 y1 y2 y5 y10 b1 b2 b5 b10 := by
  simp [fbGo, fb4, List.getD]
def plc (a : Int) : Int := if a = 5 then 3 else if a = 10 then 4 else a
/-- What is found is what the document names. -/
def FbOk (r : Int × Int) (c a : Int) : Prop := r.2 = c ∧ (c ≠ 0 → plc r.1 = a)
theorem fbok (x c a : Int) (h : plc x = a) : FbOk (x, c) c a := ⟨rfl, fun _ => h⟩
theorem bnd_no {slot : Nat} (h : 1099511627776 < slot) : bndY slot 0 1099511627776 = 29 := by unfold bndY; rw [if_pos (.inr h)]
theorem bnd_ok {slot : Nat} (h : ¬ 1099511627776 < slot) : bndY slot 0 1099511627776 = 0 := by unfold bndY; rw [if_neg (by omega)]
theorem bool_ff {b : Bool} {p : Prop} (h : b = true ↔ p) (hp : ¬ p) : b = false := by
  cases b
  · rfl
  · exact absurd (h.1 rfl) hp
section
variable {num : Nat} {node : Int} {slot st : Nat} {rs : List Rq} {m : Nat} {b1 b2 b5 b10 : Bool}
/-- Behind the ballot and the slot. -/
theorem fb_tail {k : Int} {u5 u10 : Bool} {y5 y10 : Int} (h5 : if u5 = true then y5 = rC3 k st rs else (b5 = false ↔ rC3 k st rs = 29) ∧ (b5 = true ↔ rC3 k st rs = 0)) (h10 : if u10 = true then y10 = rC4 k m else (b10 = false ↔ rC4 k m = 29) ∧ (b10 = true ↔ rC4 k m = 0)) :
    FbOk (if u5 = true ∧ y5 ≠ 0 then (5, y5) else if u5 = false ∧ b5 = false then (5, 29) else if u10 = true ∧ y10 ≠ 0 then (10, y10) else if u10 = false ∧ b10 = false then (10, 29) else (0, 0)) (if rC3 k st rs ≠ 0 then (rC3 k st rs, 3) else if rC4 k m ≠ 0 then (rC4 k m, 4) else ((0, 0) : Int × Int)).1 (if rC3 k st rs ≠ 0 then (rC3 k st rs, 3) else if rC4 k m ≠ 0 then (rC4 k m, 4) else ((0, 0) : Int × Int)).2 := by
  have t2 : FbOk (if u10 = true ∧ y10 ≠ 0 then (10, y10) else if u10 = false ∧ b10 = false then (10, 29) else (0, 0)) (if rC4 k m ≠ 0 then (rC4 k m, 4) else ((0, 0) : Int × Int)).1 (if rC4 k m ≠ 0 then (rC4 k m, 4) else ((0, 0) : Int × Int)).2 := by
    cases u10 with
    | true =>
      rw [if_pos rfl] at h10
      subst h10
      by_cases h : rC4 k m ≠ 0
      · rw [if_pos ⟨rfl, h⟩, if_pos h]; exact fbok _ _ _ rfl
      · rw [if_neg (fun e => h e.2), if_neg (by simp), if_neg h]; exact fbok _ _ _ rfl
    | false =>
      rw [if_neg (by simp)] at h10
      rw [if_neg (by simp)]
      cases hb : b10 with
      | false =>
        have e := h10.1.1 hb
        rw [if_pos ⟨rfl, rfl⟩, e, if_pos (by decide)]; exact fbok _ _ _ rfl
      | true =>
        have e := h10.2.1 hb
        rw [if_neg (by simp), e, if_neg (by decide)]; exact fbok _ _ _ rfl
  cases u5 with
  | true =>
    rw [if_pos rfl] at h5
    subst h5
    by_cases h : rC3 k st rs ≠ 0
    · rw [if_pos ⟨rfl, h⟩, if_pos h]; exact fbok _ _ _ rfl
    · rw [if_neg (fun e => h e.2), if_neg (by simp), if_neg h]; exact t2
  | false =>
    rw [if_neg (by simp)] at h5
    rw [if_neg (by simp)]
    cases hb : b5 with
    | false =>
      have e := h5.1.1 hb
      rw [if_pos ⟨rfl, rfl⟩, e, if_pos (by decide)]; exact fbok _ _ _ rfl
    | true =>
      have e := h5.2.1 hb
      rw [if_neg (by simp), e, if_neg (show ¬ (0 : Int) ≠ 0 by decide)]; exact t2
theorem fb_all {k : Int} (hk : ¬ (k < 1 ∨ 5 < k)) {u1 u2 u5 u10 : Bool} {y1 y2 y5 y10 : Int} (h1 : if u1 = true then y1 = (if rB1 k num node then 29 else 0) else (b1 = false ↔ rB1 k num node)) (h2 : if u2 = true then y2 = (if rB2 k slot then 29 else 0) else (b2 = false ↔ rB2 k slot)) (h5 : if u5 = true then y5 = rC3 k st rs else (b5 = false ↔ rC3 k st rs = 29) ∧ (b5 = true ↔ rC3 k st rs = 0)) (h10 : if u10 = true then y10 = rC4 k m else (b10 = false ↔ rC4 k m = 29) ∧ (b10 = true ↔ rC4 k m = 0)) :
    FbOk (fb4 u1 u2 u5 u10 y1 y2 y5 y10 b1 b2 b5 b10) (rNo k num node slot st rs m).1 (rNo k num node slot st rs m).2 := by
  have t := fb_tail (k := k) h5 h10
  unfold fb4 rNo
  rw [if_neg hk]
  revert t
  generalize (if u5 = true ∧ y5 ≠ 0 then ((5, y5) : Int × Int) else if u5 = false ∧ b5 = false then (5, 29) else if u10 = true ∧ y10 ≠ 0 then (10, y10) else if u10 = false ∧ b10 = false then (10, 29) else (0, 0)) = T
  generalize (if rC3 k st rs ≠ 0 then (rC3 k st rs, 3) else if rC4 k m ≠ 0 then (rC4 k m, 4) else ((0, 0) : Int × Int)) = N
  intro t
  have t2 : FbOk (if u2 = true ∧ y2 ≠ 0 then (2, y2) else if u2 = false ∧ b2 = false then (2, 29) else T) (if rB2 k slot then ((29, 2) : Int × Int) else N).1 (if rB2 k slot then ((29, 2) : Int × Int) else N).2 := by
    by_cases hB : rB2 k slot
    · rw [if_pos hB]
      rw [if_pos hB] at h2
      cases u2 with
      | true =>
        rw [if_pos rfl] at h2
        subst h2
        rw [if_pos ⟨rfl, by decide⟩]; exact fbok _ _ _ rfl
      | false =>
        rw [if_neg (by simp)] at h2
        rw [if_neg (by simp), if_pos ⟨rfl, h2.2 hB⟩]; exact fbok _ _ _ rfl
    · rw [if_neg hB]
      rw [if_neg hB] at h2
      cases u2 with
      | true =>
        rw [if_pos rfl] at h2
        subst h2
        rw [if_neg (by simp), if_neg (by simp)]; exact t
      | false =>
        rw [if_neg (by simp)] at h2
        rw [if_neg (by simp), if_neg (fun e => hB (h2.1 e.2))]; exact t
  by_cases hB : rB1 k num node
  · rw [if_pos hB]
    rw [if_pos hB] at h1
    cases u1 with
    | true =>
      rw [if_pos rfl] at h1
      subst h1
      rw [if_pos ⟨rfl, by decide⟩]; exact fbok _ _ _ rfl
    | false =>
      rw [if_neg (by simp)] at h1
      rw [if_neg (by simp), if_pos ⟨rfl, h1.2 hB⟩]; exact fbok _ _ _ rfl
  · rw [if_neg hB]
    rw [if_neg hB] at h1
    cases u1 with
    | true =>
      rw [if_pos rfl] at h1
      subst h1
      rw [if_neg (by simp), if_neg (by simp)]; exact t2
    | false =>
      rw [if_neg (by simp)] at h1
      rw [if_neg (by simp), if_neg (fun e => hB (h1.1 e.2))]; exact t2
end
theorem bool_not {b : Bool} {p : Prop} (h : b = true ↔ p) : b = false ↔ ¬ p := by
  cases b
  · exact ⟨fun _ hp => Bool.noConfusion (h.2 hp), fun _ => rfl⟩
  · exact ⟨fun e => Bool.noConfusion e, fun hp => absurd (h.1 rfl) hp⟩
section
variable {num : Nat} {node : Int} {slot st : Nat} {rs : List Rq} {n m : Nat} {b1 b2 b5 b10 : Bool}
theorem f1_used {k : Int} (hk : k ≤ 3) : balY num node = (if rB1 k num node then 29 else 0) := by
  have e : rB1 k num node ↔ balBad num node := by unfold rB1; rw [if_pos hk]
  unfold balY
  by_cases h : balBad num node
  · rw [if_pos h, if_pos (e.2 h)]
  · rw [if_neg h, if_neg (fun x => h (e.1 x))]
theorem f1_not {k : Int} (hk : ¬ k ≤ 3) (h : b1 = true ↔ num = 0 ∧ node = 0) : b1 = false ↔ rB1 k num node := by
  unfold rB1
  rw [if_neg hk, bool_not h]
  omega
theorem f2_used {k : Int} (hk : ¬ (k = 1 ∨ k = 3)) : bndY slot 0 1099511627776 = (if rB2 k slot then 29 else 0) := by
  by_cases h : 1099511627776 < slot
  · rw [bnd_no h, if_pos (.inl h)]
  · rw [bnd_ok h, if_neg (fun e => e.elim h (fun e => hk e.1))]
theorem f2_not {k : Int} (hk : k = 1 ∨ k = 3) (h : b2 = true ↔ slot = 0) : b2 = false ↔ rB2 k slot := by
  unfold rB2
  rw [bool_not h]
  constructor
  · intro e; exact .inr ⟨hk, e⟩
  · intro e; rcases e with e | e
    · omega
    · exact e.2
theorem f5_not {k : Int} (hk : k ≠ 2) (hn : rs.length = n) (h : b5 = true ↔ st = 0 ∧ n = 0) : (b5 = false ↔ rC3 k st rs = 29) ∧ (b5 = true ↔ rC3 k st rs = 0) := by
  obtain ⟨r1, r2⟩ := rC3_not hk (st := st) (rs := rs)
  by_cases hz : st = 0 ∧ n = 0
  · have e := r2 hz.1 (hn.trans hz.2)
    rw [e, h.2 hz]; simp
  · have e := r1 (by rw [hn]; omega)
    have hb : b5 = false := (bool_not h).2 hz
    rw [e, hb]; simp
theorem f10_not {k : Int} (hk : k ≠ 5) (h : b10 = true ↔ m = 0) : (b10 = false ↔ rC4 k m = 29) ∧ (b10 = true ↔ rC4 k m = 0) := by
  obtain ⟨r1, r2⟩ := rC4_not hk (m := m)
  by_cases hz : m = 0
  · rw [r2 hz, h.2 hz]; simp
  · have hb : b10 = false := (bool_not h).2 hz
    rw [r1 (by omega), hb]; simp
theorem f10_used : cntY m 40000 = rC4 5 m := by
  by_cases h : 40000 < m
  · rw [rC4_5.1 h]; unfold cntY; rw [if_pos (.inr (by omega))]
  · rw [rC4_5.2 h]; unfold cntY; rw [if_neg (by omega)]
theorem first_no {k : Int} (hf : fsOf k ≠ []) (hn : rs.length = n) (h1 : b1 = true ↔ num = 0 ∧ node = 0) (h2 : b2 = true ↔ slot = 0) (h5 : b5 = true ↔ st = 0 ∧ n = 0) (h10 : b10 = true ↔ m = 0) :
    FbOk (fbGo (ckAll num node slot st rs m (fsOf k) (U0, Y0)).1 (ckAll num node slot st rs m (fsOf k) (U0, Y0)).2 [false, b1, b2, true, true, b5, true, true, true, true, b10, true, true, true, true, true] 15 1) (rNo k num node slot st rs m).1 (rNo k num node slot st rs m).2 := by
  unfold fsOf at hf ⊢
  by_cases hk1 : k = 1 ∨ k = 3
  · rw [if_pos hk1]
    have e := fb_eq true false false false (balY num node) 0 0 0 b1 b2 b5 b10
    refine (show FbOk (fbGo _ _ _ 15 1) _ _ from ?_)
    show FbOk (fbGo [false, true, false, false, false, false, false, false, false, false, false, false, false, false, false, false] [0, balY num node, 0, 0, 0, 0, 0, 0, 0, 0, 0, 0, 0, 0, 0, 0] _ 15 1) _ _
    rw [e]
    exact fb_all (by omega) (by rw [if_pos rfl]; exact f1_used (by omega)) (by rw [if_neg (by simp)]; exact f2_not hk1 h2) (by rw [if_neg (by simp)]; exact f5_not (by omega) hn h5) (by rw [if_neg (by simp)]; exact f10_not (by omega) h10)
  · rw [if_neg hk1] at hf ⊢
    by_cases hk2 : k = 2
    · subst hk2
      rw [if_pos rfl]
      have e := fb_eq true true true false (balY num node) (bndY slot 0 1099511627776) (bFault st rs).2 0 b1 b2 b5 b10
      show FbOk (fbGo [false, true, true, false, false, true, false, false, false, false, false, false, false, false, false, false] [0, balY num node, bndY slot 0 1099511627776, 0, 0, (bFault st rs).2, 0, 0, 0, 0, 0, 0, 0, 0, 0, 0] _ 15 1) _ _
      rw [e]
      exact fb_all (by omega) (by rw [if_pos rfl]; exact f1_used (by omega)) (by rw [if_pos rfl]; exact f2_used (by omega)) (by rw [if_pos rfl]; exact (if_pos rfl : rC3 2 st rs = _).symm) (by rw [if_neg (by simp)]; exact f10_not (by omega) h10)
    · rw [if_neg hk2] at hf ⊢
      by_cases hk4 : k = 4
      · subst hk4
        rw [if_pos rfl]
        have e := fb_eq false true false false 0 (bndY slot 0 1099511627776) 0 0 b1 b2 b5 b10
        show FbOk (fbGo [false, false, true, false, false, false, false, false, false, false, false, false, false, false, false, false] [0, 0, bndY slot 0 1099511627776, 0, 0, 0, 0, 0, 0, 0, 0, 0, 0, 0, 0, 0] _ 15 1) _ _
        rw [e]
        exact fb_all (by omega) (by rw [if_neg (by simp)]; exact f1_not (by omega) h1) (by rw [if_pos rfl]; exact f2_used (by omega)) (by rw [if_neg (by simp)]; exact f5_not (by omega) hn h5) (by rw [if_neg (by simp)]; exact f10_not (by omega) h10)
      · rw [if_neg hk4] at hf ⊢
        by_cases hk5 : k = 5
        · subst hk5
          rw [if_pos rfl]
          have e := fb_eq false true false true 0 (bndY slot 0 1099511627776) 0 (cntY m 40000) b1 b2 b5 b10
          show FbOk (fbGo [false, false, true, false, false, false, false, false, false, false, true, false, false, false, false, false] [0, 0, bndY slot 0 1099511627776, 0, 0, 0, 0, 0, 0, 0, cntY m 40000, 0, 0, 0, 0, 0] _ 15 1) _ _
          rw [e]
          exact fb_all (by omega) (by rw [if_neg (by simp)]; exact f1_not (by omega) h1) (by rw [if_pos rfl]; exact f2_used (by omega)) (by rw [if_neg (by simp)]; exact f5_not (by omega) hn h5) (by rw [if_pos rfl]; exact f10_used)
        · rw [if_neg hk5] at hf
          exact absurd rfl hf
end
end Go.Proofs.YtlnfkooimpmahaaGreat
