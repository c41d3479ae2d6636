import Derived.Test.YtgaalaoflaklgaaGreatRRnA
import Derived.Test.YtgaalaoflaklgaaGreatRRnB
import Derived.Test.YtgaalaoflaklgaaGreatRRnC
import Derived.Test.YtgaalaoflaklgaaGreatRRnD
import Derived.Test.YtgaalaoflaklgaaGreatM30
namespace Go.Proofs.YtgaalaoflaklgaaGreat
open Go.RowKit Crc

theorem rC3_not {k : Int} (hk : k ≠ 2) {st : Nat} {rs : List Rq} : (st ≠ 0 ∨ rs.length ≠ 0 → rC3 k st rs = 29) ∧ (st = 0 → rs.length = 0 → rC3 k st rs = 0) := by
  unfold rC3
  rw [if_neg hk]
  exact ⟨fun h => if_pos h, fun h1 h2 => if_neg (fun h => h.elim (fun h => h h1) (fun h => h h2))⟩
theorem rC4_not {k : Int} (hk : k ≠ 5) {m : Nat} : (0 < m → rC4 k m = 29) ∧ (m = 0 → rC4 k m = 0) := by
  unfold rC4
  refine ⟨fun h => if_pos ⟨hk, h⟩, fun h => ?_⟩
  rw [if_neg (fun e => by omega), if_neg (by omega)]
theorem rC4_5 {m : Nat} : (40000 < m → rC4 5 m = 21) ∧ (¬ 40000 < m → rC4 5 m = 0) := by
  unfold rC4
  rw [if_neg (fun e => e.1 rfl)]
  exact ⟨fun h => if_pos h, fun h => if_neg h⟩
theorem recNo_any {w : World} {k : Int} {num : Nat} {node : Int} {slot st : Nat} {ro : Option Addr} {rs : List Rq} {b off : Nat} {rc n : Nat} {do_ : Option Addr} {m dc : Nat} (h : Rqs w.heap.size w ro rs b off) (hn : rs.length = n) :
    NoP w k num node slot st ro n rc do_ m dc (rNo k num node slot st rs m).1 (rNo k num node slot st rs m).2 := by
  unfold rNo
  by_cases hk : k < 1 ∨ 5 < k
  · rw [if_pos hk]
    rcases hk with hk | hk
    · exact rn_lo hk
    · exact rn_hi hk
  · rw [if_neg hk]
    have hk5 : k = 1 ∨ k = 2 ∨ k = 3 ∨ k = 4 ∨ k = 5 := by omega
    by_cases hB : rB1 k num node
    · rw [if_pos hB]
      unfold rB1 at hB
      rcases hk5 with rfl | rfl | rfl | rfl | rfl
      · rw [if_pos (by decide)] at hB; exact rn_1b hB
      · rw [if_pos (by decide)] at hB; exact rn_2b hB
      · rw [if_pos (by decide)] at hB; exact rn_3b hB
      · rw [if_neg (by decide)] at hB
        by_cases h1 : num = 0
        · exact rn_4b2 h1 (by rcases hB with h | h; exact absurd h1 h; exact h)
        · exact rn_4b1 h1
      · rw [if_neg (by decide)] at hB
        by_cases h1 : num = 0
        · exact rn_5b2 h1 (by rcases hB with h | h; exact absurd h1 h; exact h)
        · exact rn_5b1 h1
    · rw [if_neg hB]
      by_cases hS : rB2 k slot
      · rw [if_pos hS]
        unfold rB1 at hB
        unfold rB2 at hS
        rcases hk5 with rfl | rfl | rfl | rfl | rfl
        · rw [if_pos (by decide)] at hB
          by_cases h3 : 1099511627776 < slot
          · exact rn_1s1 hB h3
          · exact rn_1s2 hB h3 (by rcases hS with h | h; exact absurd h h3; exact h.2)
        · rw [if_pos (by decide)] at hB
          exact rn_2s1 hB (by rcases hS with h | h; exact h; exact absurd h.1 (by decide))
        · rw [if_pos (by decide)] at hB
          by_cases h3 : 1099511627776 < slot
          · exact rn_3s1 hB h3
          · exact rn_3s2 hB h3 (by rcases hS with h | h; exact absurd h h3; exact h.2)
        · rw [if_neg (by decide)] at hB
          exact rn_4s1 (Classical.not_not.1 (fun e => hB (.inl e))) (Classical.not_not.1 (fun e => hB (.inr e))) (by rcases hS with h | h; exact h; exact absurd h.1 (by decide))
        · rw [if_neg (by decide)] at hB
          exact rn_5s1 (Classical.not_not.1 (fun e => hB (.inl e))) (Classical.not_not.1 (fun e => hB (.inr e))) (by rcases hS with h | h; exact h; exact absurd h.1 (by decide))
      · rw [if_neg hS]
        unfold rB1 at hB
        unfold rB2 at hS
        have hS1 : ¬ 1099511627776 < slot := fun e => hS (.inl e)
        rcases hk5 with rfl | rfl | rfl | rfl | rfl
        · rw [if_pos (by decide)] at hB
          have hS2 : slot = 0 := Classical.not_not.1 (fun e => hS (.inr ⟨by decide, e⟩))
          by_cases h4 : st = 0
          · by_cases h5 : n = 0
            · rw [(rC3_not (by decide)).2 h4 (hn.trans h5), if_neg (by decide)]
              by_cases h6 : m = 0
              · rw [(rC4_not (by decide)).2 h6, if_neg (by decide)]; exact rn_1o hB hS2 h4 h5 h6
              · rw [(rC4_not (by decide)).1 (by omega), if_pos (by decide)]; exact rn_1d hB hS2 h4 h5 (by omega)
            · rw [(rC3_not (by decide)).1 (.inr (by omega)), if_pos (by decide)]; exact rn_1t2 hB hS2 h4 h5
          · rw [(rC3_not (by decide)).1 (.inl h4), if_pos (by decide)]; exact rn_1t1 hB hS2 h4
        · rw [if_pos (by decide)] at hB
          have e3 : rC3 2 st rs = (bFault st rs).2 := if_pos rfl
          rw [e3]
          by_cases hf : (bFault st rs).2 = 0
          · rw [if_neg (by rw [hf]; decide)]
            by_cases h6 : m = 0
            · rw [(rC4_not (by decide)).2 h6, if_neg (by decide)]; exact rn_2o h hn hB hS1 hf h6
            · rw [(rC4_not (by decide)).1 (by omega), if_pos (by decide)]; exact rn_2d h hn hB hS1 hf (by omega)
          · rw [if_pos hf]; exact rn_2t h hn hB hS1 hf
        · rw [if_pos (by decide)] at hB
          have hS2 : slot = 0 := Classical.not_not.1 (fun e => hS (.inr ⟨by decide, e⟩))
          by_cases h4 : st = 0
          · by_cases h5 : n = 0
            · rw [(rC3_not (by decide)).2 h4 (hn.trans h5), if_neg (by decide)]
              by_cases h6 : m = 0
              · rw [(rC4_not (by decide)).2 h6, if_neg (by decide)]; exact rn_3o hB hS2 h4 h5 h6
              · rw [(rC4_not (by decide)).1 (by omega), if_pos (by decide)]; exact rn_3d hB hS2 h4 h5 (by omega)
            · rw [(rC3_not (by decide)).1 (.inr (by omega)), if_pos (by decide)]; exact rn_3t2 hB hS2 h4 h5
          · rw [(rC3_not (by decide)).1 (.inl h4), if_pos (by decide)]; exact rn_3t1 hB hS2 h4
        · rw [if_neg (by decide)] at hB
          have h1 : num = 0 := Classical.not_not.1 (fun e => hB (.inl e))
          have h2 : node = 0 := Classical.not_not.1 (fun e => hB (.inr e))
          by_cases h4 : st = 0
          · by_cases h5 : n = 0
            · rw [(rC3_not (by decide)).2 h4 (hn.trans h5), if_neg (by decide)]
              by_cases h6 : m = 0
              · rw [(rC4_not (by decide)).2 h6, if_neg (by decide)]; exact rn_4o h1 h2 hS1 h4 h5 h6
              · rw [(rC4_not (by decide)).1 (by omega), if_pos (by decide)]; exact rn_4d h1 h2 hS1 h4 h5 (by omega)
            · rw [(rC3_not (by decide)).1 (.inr (by omega)), if_pos (by decide)]; exact rn_4t2 h1 h2 hS1 h4 h5
          · rw [(rC3_not (by decide)).1 (.inl h4), if_pos (by decide)]; exact rn_4t1 h1 h2 hS1 h4
        · rw [if_neg (by decide)] at hB
          have h1 : num = 0 := Classical.not_not.1 (fun e => hB (.inl e))
          have h2 : node = 0 := Classical.not_not.1 (fun e => hB (.inr e))
          by_cases h4 : st = 0
          · by_cases h5 : n = 0
            · rw [(rC3_not (by decide)).2 h4 (hn.trans h5), if_neg (by decide)]
              by_cases h6 : 40000 < m
              · rw [rC4_5.1 h6, if_pos (by decide)]; exact rn_5d h1 h2 hS1 h4 h5 h6
              · rw [rC4_5.2 h6, if_neg (by decide)]; exact rn_5o h1 h2 hS1 h4 h5 h6
            · rw [(rC3_not (by decide)).1 (.inr (by omega)), if_pos (by decide)]; exact rn_5t2 h1 h2 hS1 h4 h5
          · rw [(rC3_not (by decide)).1 (.inl h4), if_pos (by decide)]; exact rn_5t1 h1 h2 hS1 h4
end Go.Proofs.YtgaalaoflaklgaaGreat
namespace Go.Proofs.YtgaalaoflaklgaaGreat
open Go.RowKit Crc

section
variable (num nd slot st : Nat) (rs : List Rq) (m : Nat) (D : List Nat)
/-- A field as it is laid down. -/
def Fd.lay (f : Fd) (s : WS) : WS := match f with
  | .ballot => (s.put (numB num) 0).put (big nd 1) 0
  | .slot => s.put (numB slot) 0
  | .batch => layB s st rs
  | .snap => s.put (numB m ++ D) (cntY m 40000)
def Fd.enc (f : Fd) : List Nat := match f with
  | .ballot => numB num ++ big nd 1
  | .slot => numB slot
  | .batch => encL st rs
  | .snap => numB m ++ D
def Fd.fit (f : Fd) : Prop := match f with
  | .ballot => True
  | .slot => True
  | .batch => rs.length ≤ 8 ∧ ∀ r ∈ rs, r.cn ≤ 700 ∧ r.cn = r.C.length
  | .snap => m ≤ 40000 ∧ m = D.length
def Fd.room : Fd → Nat
  | .ballot => 11
  | .slot => 10
  | .batch => 5900
  | .snap => 40010
def layAll (fs : List Fd) (s : WS) : WS := fs.foldl (fun s f => f.lay num nd slot st rs m D s) s
def encAll (fs : List Fd) : List Nat := (fs.map (Fd.enc num nd slot st rs m D)).flatten
end
theorem enc_le : ∀ (rs : List Rq), (∀ r ∈ rs, r.cn ≤ 700 ∧ r.cn = r.C.length) → (rs.map encR).flatten.length ≤ 730 * rs.length
  | [], _ => by simp
  | r :: t, h => by
    have ih := enc_le t (fun x hx => h x (by simp [hx]))
    obtain ⟨h1, h2⟩ := h r (by simp)
    have l1 := numTo_len 9 r.cl
    have l2 := numTo_len 9 r.sq
    have l3 := numTo_len 9 r.cn
    simp only [List.map_cons, List.flatten_cons, List.length_append, encR, List.length_cons, numB] at ih ⊢
    omega
theorem big_one (v : Nat) : (big v 1).length = 1 := big_len v 1 1
theorem layB_at {s : WS} {st : Nat} {rs : List Rq} (hs : s.sound) (hl : ((s.L.length + 5900 : Nat) : Int) ≤ s.most) (h8 : rs.length ≤ 8) (hr : ∀ r ∈ rs, r.cn ≤ 700 ∧ r.cn = r.C.length) : layB s st rs = { s with L := s.L ++ encL st rs } := by
  have l1 : (numB st).length ≤ 10 := numTo_len 9 st
  have l2 : (numB rs.length).length ≤ 10 := numTo_len 9 rs.length
  unfold layB
  have e1 := put_fits (s := s) (F := numB st) hs (by omega)
  rw [e1]
  have e2 := put_fits (s := { s with L := s.L ++ numB st }) (F := numB rs.length) hs (by simp only [List.length_append]; omega)
  rw [e2]
  have e3 := layGo_ok rs { s with L := s.L ++ numB st ++ numB rs.length } hs (by simp only [List.length_append]; omega) (fun r hx => ⟨(hr r hx).1, (hr r hx).2, numTo_len 9 _, numTo_len 9 _, numTo_len 9 _⟩)
  rw [e3]
  simp [encL, List.append_assoc]
section
variable {num nd slot st : Nat} {rs : List Rq} {m : Nat} {D : List Nat}
theorem lay_fits (f : Fd) {s : WS} (hs : s.sound) (hl : ((s.L.length + f.room : Nat) : Int) ≤ s.most) (hf : f.fit rs m D) : f.lay num nd slot st rs m D s = { s with L := s.L ++ f.enc num nd slot st rs m D } ∧ (f.enc num nd slot st rs m D).length ≤ f.room := by
  cases f with
  | ballot =>
    have l1 : (numB num).length ≤ 10 := numTo_len 9 num
    have l2 := big_one nd
    simp only [Fd.room] at hl
    have e1 := put_fits (s := s) (F := numB num) hs (by omega)
    have e2 := put_fits (s := { s with L := s.L ++ numB num }) (F := big nd 1) hs (by simp only [List.length_append]; omega)
    refine ⟨?_, ?_⟩
    · show (s.put (numB num) 0).put (big nd 1) 0 = _
      rw [e1, e2]
      simp [Fd.enc]
    · simp only [Fd.enc, Fd.room, List.length_append]; omega
  | slot =>
    have l1 : (numB slot).length ≤ 10 := numTo_len 9 slot
    simp only [Fd.room] at hl
    exact ⟨put_fits hs (by omega), l1⟩
  | batch =>
    simp only [Fd.room] at hl
    refine ⟨layB_at hs hl hf.1 hf.2, ?_⟩
    have l1 : (numB st).length ≤ 10 := numTo_len 9 st
    have l2 : (numB rs.length).length ≤ 10 := numTo_len 9 rs.length
    have l3 := enc_le rs hf.2
    have l4 := hf.1
    simp only [Fd.enc, Fd.room, encL, List.length_append]
    omega
  | snap =>
    have l1 : (numB m).length ≤ 10 := numTo_len 9 m
    obtain ⟨h1, h2⟩ := hf
    simp only [Fd.room] at hl
    refine ⟨?_, ?_⟩
    · show s.put (numB m ++ D) (cntY m 40000) = _
      rw [show cntY (m : Int) 40000 = 0 by unfold cntY; rw [if_neg (by omega)]]
      exact put_fits hs (by simp only [List.length_append]; omega)
    · simp only [Fd.enc, Fd.room, List.length_append]; omega
theorem layAll_fits : ∀ (fs : List Fd) (s : WS), s.sound → ((s.L.length + (fs.map Fd.room).sum : Nat) : Int) ≤ s.most → (∀ f ∈ fs, f.fit rs m D) → layAll num nd slot st rs m D fs s = { s with L := s.L ++ encAll num nd slot st rs m D fs }
  | [], s, _, _, _ => by simp [layAll, encAll]
  | f :: t, s, hs, hl, hf => by
    simp only [List.map_cons, List.sum_cons] at hl
    obtain ⟨e1, e2⟩ := lay_fits (num := num) (nd := nd) (slot := slot) (st := st) f hs (by omega) (hf f (by simp))
    have ih := layAll_fits t { s with L := s.L ++ f.enc num nd slot st rs m D } hs (by simp only [List.length_append]; omega) (fun x hx => hf x (by simp [hx]))
    show layAll num nd slot st rs m D t (f.lay num nd slot st rs m D s) = _
    rw [e1, ih]
    simp [encAll, List.append_assoc]
end
/-- A record's bytes. -/
def encRec (k num nd slot st : Nat) (rs : List Rq) (m : Nat) (D : List Nat) : List Nat := big k 1 ++ encAll num nd slot st rs m D (fsOf k)
def rRes (k : Int) (num : Nat) (node : Int) (slot st : Nat) (rs : List Rq) (m : Nat) (D : List Nat) : List Nat := if (rNo k num node slot st rs m).1 = 0 then encRec k.toNat num node.toNat slot st rs m D else []
theorem room_le (k : Int) : ((fsOf k).map Fd.room).sum ≤ 60000 := by
  unfold fsOf
  split
  · decide
  · split
    · decide
    · split
      · decide
      · split <;> decide
/-- What a record that may be laid down is. -/
structure RecOk (k : Int) (num : Nat) (node : Int) (slot st : Nat) (rs : List Rq) (m : Nat) : Prop where
  k1 : 1 ≤ k
  k5 : k ≤ 5
  bal : k ≤ 3 → ¬ balBad num node
  bal0 : 3 < k → num = 0 ∧ node = 0
  slot : slot ≤ 1099511627776
  bat : k = 2 → (bFault st rs).2 = 0
  dat : m ≤ 40000
theorem rNo_ok {k : Int} {num : Nat} {node : Int} {slot st : Nat} {rs : List Rq} {m : Nat} (h : (rNo k num node slot st rs m).1 = 0) : RecOk k num node slot st rs m ∧ (rNo k num node slot st rs m).2 = 0 := by
  unfold rNo at h ⊢
  by_cases hk : k < 1 ∨ 5 < k
  · rw [if_pos hk] at h; cases h
  · rw [if_neg hk] at h ⊢
    by_cases hB : rB1 k num node
    · rw [if_pos hB] at h; cases h
    · rw [if_neg hB] at h ⊢
      by_cases hS : rB2 k slot
      · rw [if_pos hS] at h; cases h
      · rw [if_neg hS] at h ⊢
        by_cases h3 : rC3 k st rs ≠ 0
        · rw [if_pos h3] at h; exact absurd h h3
        · rw [if_neg h3] at h ⊢
          by_cases h4 : rC4 k m ≠ 0
          · rw [if_pos h4] at h; exact absurd h h4
          · rw [if_neg h4]
            have h3 := Classical.not_not.1 h3
            have h4 := Classical.not_not.1 h4
            refine ⟨⟨by omega, by omega, fun e => ?_, fun e => ?_, ?_, fun e => ?_, ?_⟩, rfl⟩
            · unfold rB1 at hB; rw [if_pos e] at hB; exact hB
            · unfold rB1 at hB; rw [if_neg (by omega)] at hB
              exact ⟨Classical.not_not.1 (fun x => hB (.inl x)), Classical.not_not.1 (fun x => hB (.inr x))⟩
            · have : ¬ 1099511627776 < slot := fun x => hS (.inl x)
              omega
            · subst e; exact h3
            · unfold rC4 at h4
              by_cases hx : k ≠ 5 ∧ 0 < m
              · rw [if_pos hx] at h4; cases h4
              · rw [if_neg hx] at h4
                by_cases hy : 40000 < m
                · rw [if_pos hy] at h4; cases h4
                · omega
theorem RecOk.fit {k : Int} {num : Nat} {node : Int} {slot st : Nat} {rs : List Rq} {m : Nat} {D : List Nat} (h : RecOk k num node slot st rs m) (hc : ∀ r ∈ rs, r.cn = r.C.length) (hd : m = D.length) : ∀ f ∈ fsOf k, f.fit rs m D := by
  intro f hf
  cases f with
  | ballot => trivial
  | slot => trivial
  | snap => exact ⟨h.dat, hd⟩
  | batch =>
    have hk : k = 2 := by
      unfold fsOf at hf
      split at hf
      · simp at hf
      · split at hf
        · assumption
        · split at hf
          · simp at hf
          · split at hf <;> simp at hf
    obtain ⟨h1, h2, h3⟩ := bFault_ok (h.bat hk)
    exact ⟨h2, fun r hr => ⟨(h3 r hr).2, hc r hr⟩⟩
/-- Both writers come to the same bytes. -/
theorem layRec_ok {k : Int} {num : Nat} {node : Int} {slot st : Nat} {rs : List Rq} {m : Nat} {D : List Nat} {s : WS} (h : RecOk k num node slot st rs m) (hc : ∀ r ∈ rs, r.cn = r.C.length) (hd : m = D.length) (h1 : s.made = true) (h2 : s.why = 0) (h3 : s.most = 65507) (h4 : s.L = []) : layAll num node.toNat slot st rs m D (fsOf k) (s.put (big k.toNat 1) 0) = { s with L := encRec k.toNat num node.toNat slot st rs m D } := by
  have l1 := big_one k.toNat
  have hr := room_le k
  have e1 := put_fits (s := s) (F := big k.toNat 1) ⟨h1, h2⟩ (by rw [h3, h4]; simp only [List.length_nil]; omega)
  rw [e1]
  have e2 := layAll_fits (num := num) (nd := node.toNat) (slot := slot) (st := st) (fsOf k) { s with L := s.L ++ big k.toNat 1 } ⟨h1, h2⟩ (by simp only [h4, List.nil_append]; omega) (h.fit hc hd)
  have hk : ((k.toNat : Nat) : Int) = k := Int.toNat_of_nonneg (by have := h.k1; omega)
  rw [e2]
  simp only [h4, List.nil_append, encRec, hk]
end Go.Proofs.YtgaalaoflaklgaaGreat
namespace Go.Proofs.YtgaalaoflaklgaaGreat
open Go.RowKit Crc

theorem encR_val {r : Rq} (h : r.cn = r.C.length) : encR r = encV r.val := by unfold encR encV Rq.val; rw [h]
theorem encL_val (st : Nat) : ∀ (rs : List Rq), (∀ r ∈ rs, r.cn = r.C.length) → encL st rs = encVs st (rs.map Rq.val) := by
  intro rs h
  unfold encL encVs
  rw [List.length_map, List.map_map]
  congr 3
  exact List.map_congr_left (fun r hr => encR_val (h r hr))
theorem why_val {r : Rq} (h : r.cn = r.C.length) (h1 : r.cl < 18446744073709551616) (h2 : r.sq < 18446744073709551616) : r.why = 0 ↔ VOk r.val := by
  unfold Rq.why VOk Rq.val
  by_cases a : r.cl < 256
  · rw [if_pos a]; simp; omega
  · rw [if_neg a]
    by_cases b : 700 < r.cn
    · rw [if_pos b]; simp; omega
    · rw [if_neg b]; simp; omega
theorem bGo_why : ∀ (rs : List Rq) (i : Nat), (bGo rs i).2 = 0 ↔ ∀ r ∈ rs, r.why = 0
  | [], _ => by simp [bGo]
  | r :: t, i => by
    rw [bGo]
    by_cases h : r.why = 0
    · rw [if_pos h, bGo_why t]; simp [h]
    · rw [if_neg h]; simp [h]
/-- Requests with sound numbers. -/
def Num (rs : List Rq) : Prop := ∀ r ∈ rs, r.cn = r.C.length ∧ r.cl < 18446744073709551616 ∧ r.sq < 18446744073709551616
theorem Rqs.nums {lim : Nat} {w : World} {ro : Option Addr} {rs : List Rq} {b off : Nat} (h : Rqs lim w ro rs b off) : Num rs := fun r hr => ⟨(h.ok r hr).hC.1, (h.ok r hr).hc, (h.ok r hr).hs⟩
theorem bFault_iff {st : Nat} {rs : List Rq} (h : Num rs) : (bFault st rs).2 = 0 ↔ VsOk st (rs.map Rq.val) := by
  unfold bFault VsOk
  rw [List.length_map]
  by_cases a : 1099511627776 < st
  · rw [if_pos a]; simp; omega
  · rw [if_neg a]
    by_cases b : 8 < rs.length
    · rw [if_pos b]; simp; omega
    · rw [if_neg b, bGo_why]
      simp only [List.mem_map]
      constructor
      · intro hw
        refine ⟨by omega, by omega, ?_⟩
        rintro v ⟨r, hr, rfl⟩
        exact (why_val (h r hr).1 (h r hr).2.1 (h r hr).2.2).1 (hw r hr)
      · rintro ⟨_, _, hv⟩ r hr
        exact (why_val (h r hr).1 (h r hr).2.1 (h r hr).2.2).2 (hv _ ⟨r, hr, rfl⟩)

/-- A batch that may be is read back. -/
theorem batch_fwd {st : Nat} {rs : List Rq} (h : Num rs) (ok : (bFault st rs).2 = 0) : (bEnd (RS1 (bRes st rs))).endC = 0 ∧ (numAt (RS1 (bRes st rs)).rest).1 = st ∧ bVals (RS1 (bRes st rs)) = rs.map Rq.val := by
  have e : bRes st rs = encVs st (rs.map Rq.val) := by unfold bRes; rw [if_pos ok]; exact encL_val st rs (fun r hr => (h r hr).1)
  obtain ⟨a, b, c, d⟩ := bat_fwd (s := RS1 (bRes st rs)) (R := []) (rs1_rest _).1 ((bFault_iff h).1 ok) (by rw [(rs1_rest _).2, List.append_nil]; exact e)
  exact ⟨rest_end c d, a, b⟩
/-- What is read as a batch is laid down just so. -/
theorem batch_inv {B : List Nat} (hb : ∀ x ∈ B, x < 256) (h : (bEnd (RS1 B)).endC = 0) {rs : List Rq} (hv : rs.map Rq.val = bVals (RS1 B)) (hn : Num rs) : (bFault (numAt (RS1 B).rest).1 rs).2 = 0 ∧ bRes (numAt (RS1 B).rest).1 rs = B := by
  obtain ⟨h1, h2⟩ := end_rest h
  obtain ⟨a, b⟩ := bat_inv (s := RS1 B) hb (rs1_rest B).1 h1
  rw [h2, List.append_nil] at a
  rw [← hv] at a b
  have ok := (bFault_iff hn).2 b
  refine ⟨ok, ?_⟩
  unfold bRes
  rw [if_pos ok, encL_val _ rs (fun r hr => (hn r hr).1)]
  exact a.symm

theorem rNo_iff {k : Int} {num : Nat} {node : Int} {slot st : Nat} {rs : List Rq} {m : Nat} : (rNo k num node slot st rs m).1 = 0 ↔ 1 ≤ k ∧ k ≤ 5 ∧ ¬ rB1 k num node ∧ ¬ rB2 k slot ∧ rC3 k st rs = 0 ∧ rC4 k m = 0 := by
  unfold rNo
  by_cases hk : k < 1 ∨ 5 < k
  · rw [if_pos hk]; simp; omega
  · rw [if_neg hk]
    by_cases h1 : rB1 k num node
    · rw [if_pos h1]; simp [h1]
    · rw [if_neg h1]
      by_cases h2 : rB2 k slot
      · rw [if_pos h2]; simp [h2]
      · rw [if_neg h2]
        by_cases h3 : rC3 k st rs ≠ 0
        · rw [if_pos h3]; simp [h3]
        · rw [if_neg h3]
          by_cases h4 : rC4 k m ≠ 0
          · rw [if_pos h4]; simp [h4]
          · rw [if_neg h4]
            simp only [ne_eq, Decidable.not_not] at h3 h4
            simp [h1, h2, h3, h4]; omega
/-- What a record that may be is. -/
theorem rec_full {k : Int} {num : Nat} {node : Int} {slot st : Nat} {rs : List Rq} {D : List Nat} (hn : Num rs) : (rNo k num node slot st rs D.length).1 = 0 ↔ 0 ≤ node ∧ 1 ≤ k ∧ Rv.Ok k.toNat ⟨num, node.toNat, slot, st, rs.map Rq.val, D⟩ := by
  rw [rNo_iff]
  unfold rB1 rB2 rC3 rC4 balBad
  constructor
  · rintro ⟨h1, h2, h3, h4, h5, h6⟩
    have hm : D.length ≤ 40000 ∧ (k ≠ 5 → D.length = 0) := by
      by_cases a : k ≠ 5 ∧ 0 < D.length
      · rw [if_pos a] at h6; cases h6
      · rw [if_neg a] at h6
        by_cases b : 40000 < D.length
        · rw [if_pos b] at h6; cases h6
        · omega
    have hb : VsOk st (rs.map Rq.val) ∧ (k ≠ 2 → st = 0 ∧ rs.length = 0) := by
      by_cases a : k = 2
      · rw [if_pos a] at h5; exact ⟨(bFault_iff hn).1 h5, fun x => absurd a x⟩
      · rw [if_neg a] at h5
        by_cases b : st ≠ 0 ∨ rs.length ≠ 0
        · rw [if_pos b] at h5; cases h5
        · have e1 : st = 0 := by omega
          have e2 : rs = [] := List.eq_nil_of_length_eq_zero (by omega)
          rw [e1, e2]
          exact ⟨vs0, fun _ => ⟨rfl, rfl⟩⟩
    have hc : 0 ≤ node ∧ num ≤ 1099511627776 ∧ node ≤ 6 ∧ (3 < k → num = 0 ∧ node = 0) := by
      by_cases a : k ≤ 3
      · rw [if_pos a] at h3; omega
      · rw [if_neg a] at h3; omega
    refine ⟨hc.1, h1, by omega, by omega, ⟨hc.2.1, by show node.toNat ≤ 6; omega⟩, fun x => ⟨(hc.2.2.2 (by omega)).1, by show node.toNat = 0; have := (hc.2.2.2 (by omega)).2; omega⟩, by show slot ≤ _; omega, fun x => by show slot = 0; omega, hb.1, fun x => ⟨(hb.2 (by omega)).1, by show rs.map _ = []; rw [List.eq_nil_of_length_eq_zero (hb.2 (by omega)).2]; rfl⟩, hm.1, fun x => List.eq_nil_of_length_eq_zero (hm.2 (by omega))⟩
  · rintro ⟨h0, h1, ok⟩
    obtain ⟨-, k5, ⟨q1, q2⟩, q3, q4, q5, q6, q7, q8, q9⟩ := ok
    dsimp only at *
    refine ⟨h1, by omega, ?_, by omega, ?_, ?_⟩
    · by_cases a : k ≤ 3
      · rw [if_pos a]; omega
      · rw [if_neg a]; have := q3 (by omega); omega
    · by_cases a : k = 2
      · rw [if_pos a]; exact (bFault_iff hn).2 q6
      · rw [if_neg a]
        have := q7 (by omega)
        have e : rs.length = 0 := by have := congrArg List.length this.2; simpa using this
        rw [if_neg (by omega)]
    · by_cases a : k = 5
      · rw [if_neg (by omega), if_neg (by omega)]
      · rw [q9 (by omega)]; simp
theorem rRes_bytes {k : Int} {num : Nat} {node : Int} {slot st : Nat} {rs : List Rq} {D : List Nat} (hn : Num rs) (ok : (rNo k num node slot st rs D.length).1 = 0) : rRes k num node slot st rs D.length D = Rv.bytes k.toNat ⟨num, node.toNat, slot, st, rs.map Rq.val, D⟩ := by
  obtain ⟨_, h1, h2⟩ := (rec_full hn).1 ok
  have k5 := h2.k5
  unfold rRes
  rw [if_pos ok]
  unfold encRec encAll Rv.bytes
  rw [fs_case]
  by_cases c1 : k.toNat = 1 ∨ k.toNat = 3
  · rw [if_pos c1, if_pos c1]
    simp [Fd.enc]
  · rw [if_neg c1, if_neg c1]
    by_cases c2 : k.toNat = 2
    · rw [if_pos c2, if_pos c2]
      simp [Fd.enc, encL_val st rs (fun r hr => (hn r hr).1)]
    · rw [if_neg c2, if_neg c2]
      by_cases c4 : k.toNat = 4
      · rw [if_pos c4, if_pos c4]
        simp [Fd.enc]
      · rw [if_neg c4, if_neg c4, if_pos (by omega)]
        simp [Fd.enc]
/-- A record that may be is read back. -/
theorem record_fwd {k : Int} {num : Nat} {node : Int} {slot st : Nat} {rs : List Rq} {D : List Nat} (hn : Num rs) (ok : (rNo k num node slot st rs D.length).1 = 0) {F : List Nat} (hF : rRes k num node slot st rs D.length D = F) : recC F = 0 ∧ ((recK F : Nat) : Int) = k ∧ recV F = ⟨num, node.toNat, slot, st, rs.map Rq.val, D⟩ ∧ 0 ≤ node := by
  obtain ⟨h0, h1, h2⟩ := (rec_full hn).1 ok
  rw [rRes_bytes hn ok] at hF
  obtain ⟨a, b, c⟩ := rec_fwd h2
  rw [hF] at a b c
  exact ⟨a, by rw [b]; omega, c, h0⟩
/-- What is read as a record is laid down just so. -/
theorem record_inv {B : List Nat} (hb : ∀ x ∈ B, x < 256) (h : recC B = 0) {num node slot st : Nat} {rs : List Rq} {D : List Nat} (hv : (⟨num, node, slot, st, rs.map Rq.val, D⟩ : Rv) = recV B) (hn : Num rs) : (rNo (recK B) num node slot st rs D.length).1 = 0 ∧ rRes (recK B) num node slot st rs D.length D = B := by
  obtain ⟨a, b⟩ := rec_inv hb h
  rw [← hv] at a b
  have ok : (rNo (recK B) num node slot st rs D.length).1 = 0 := (rec_full hn).2 ⟨by omega, by have := b.k1; omega, by simpa using b⟩
  refine ⟨ok, ?_⟩
  rw [rRes_bytes hn ok]
  simpa using a.symm
end Go.Proofs.YtgaalaoflaklgaaGreat
