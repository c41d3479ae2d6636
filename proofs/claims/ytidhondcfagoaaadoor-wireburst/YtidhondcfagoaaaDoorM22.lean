import Derived.Test.YtidhondcfagoaaaDoorM21
namespace Go.Proofs.YtidhondcfagoaaaDoor
open Go.RowKit Crc

end Go.Proofs.YtidhondcfagoaaaDoor
namespace Go.Proofs.YtidhondcfagoaaaDoor
open Go.RowKit Crc

theorem bGo_ok : ∀ (rs : List Rq) (i : Nat), (bGo rs i).2 = 0 → ∀ r ∈ rs, r.why = 0
  | [], _, _, r, hr => by cases hr
  | x :: t, i, h, r, hr => by
    by_cases hx : x.why = 0
    · rw [bGo, if_pos hx] at h
      rcases List.mem_cons.1 hr with rfl | hr
      · exact hx
      · exact bGo_ok t (i + 1) h r hr
    · rw [bGo, if_neg hx] at h
      exact absurd h hx
theorem Rq.why_ok {r : Rq} (h : r.why = 0) : 256 ≤ r.cl ∧ r.cn ≤ 700 := by
  unfold Rq.why at h
  by_cases h1 : r.cl < 256
  · rw [if_pos h1] at h; cases h
  · by_cases h2 : 700 < r.cn
    · rw [if_neg h1, if_pos h2] at h; cases h
    · omega
theorem bFault_ok {stamp : Nat} {rs : List Rq} (h : (bFault stamp rs).2 = 0) : stamp ≤ 1099511627776 ∧ rs.length ≤ 8 ∧ ∀ r ∈ rs, 256 ≤ r.cl ∧ r.cn ≤ 700 := by
  unfold bFault at h
  by_cases h1 : 1099511627776 < stamp
  · rw [if_pos h1] at h; cases h
  · by_cases h2 : 8 < rs.length
    · rw [if_neg h1, if_pos h2] at h; cases h
    · rw [if_neg h1, if_neg h2] at h
      exact ⟨by omega, by omega, fun r hr => Rq.why_ok (bGo_ok rs 0 h r hr)⟩

def encR (r : Rq) : List Nat := numB r.cl ++ (numB r.sq ++ (numB r.cn ++ r.C))
def encL (stamp : Nat) (rs : List Rq) : List Nat := numB stamp ++ (numB rs.length ++ (rs.map encR).flatten)

theorem put_fits {s : WS} (hs : s.sound) {F : List Nat} (h : ((s.L.length + F.length : Nat) : Int) ≤ s.most) : s.put F 0 = { s with L := s.L ++ F } := WS.put_takes ⟨hs, rfl, h⟩

theorem layGo_ok : ∀ (rs : List Rq) (s : WS), s.sound → ((s.L.length + 730 * rs.length : Nat) : Int) ≤ s.most → (∀ r ∈ rs, r.cn ≤ 700 ∧ r.cn = r.C.length ∧ (numB r.cl).length ≤ 10 ∧ (numB r.sq).length ≤ 10 ∧ (numB r.cn).length ≤ 10) → layGo s rs = { s with L := s.L ++ (rs.map encR).flatten }
  | [], s, _, _, _ => by simp [layGo]
  | r :: t, s, hs, hl, hr => by
    obtain ⟨h1, h2, h3, h4, h5⟩ := hr r (by simp)
    simp only [List.length_cons] at hl
    rw [layGo]
    have e1 := put_fits (s := s) (F := numB r.cl) hs (by omega)
    rw [e1]
    have e2 := put_fits (s := { s with L := s.L ++ numB r.cl }) (F := numB r.sq) hs (by simp only [List.length_append]; omega)
    rw [e2, show cntY (r.cn : Int) 700 = 0 by unfold cntY; rw [if_neg (by omega)]]
    have e3 := put_fits (s := { s with L := s.L ++ numB r.cl ++ numB r.sq }) (F := numB r.cn ++ r.C) hs (by simp only [List.length_append]; omega)
    rw [e3]
    have e4 := layGo_ok t { s with L := s.L ++ numB r.cl ++ numB r.sq ++ (numB r.cn ++ r.C) } hs (by simp only [List.length_append]; omega) (fun x hx => hr x (by simp [hx]))
    rw [e4]
    simp [encR, List.append_assoc]

end Go.Proofs.YtidhondcfagoaaaDoor
