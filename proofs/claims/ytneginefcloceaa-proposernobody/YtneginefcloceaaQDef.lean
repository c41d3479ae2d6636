import Derived.Test.YtneginefcloceaaPBase
namespace Go.Proofs.Ytneginefcloceaa
open Go.RowKit Crc

/-- A request as it lies. -/
structure Rq where
  (cl sq : Nat) (co : Option Addr) (cn cc : Nat) (C : List Nat)
def Rq.cells (r : Rq) : Array Value := #[.int .u64 (r.cl : Int), .int .u64 (r.sq : Int), .slice r.co r.cn r.cc]
structure Rq.Ok (lim : Nat) (w : World) (r : Rq) : Prop where
  hc : r.cl < 18446744073709551616
  hs : r.sq < 18446744073709551616
  hC : Shows lim w r.co r.cn r.cc r.C
/-- Requests as they lie, one behind the other. -/
structure Rqs (lim : Nat) (w : World) (ro : Option Addr) (rs : List Rq) (b off : Nat) : Prop where
  ad : 0 < rs.length → ro = some ⟨b, off, none⟩
  lt : 0 < rs.length → b < lim
  le : rs.length ≤ 3518437208883
  at_ : ∀ (i : Nat) (r : Rq), rs[i]? = some r → ∀ j v, r.cells[j]? = some v → w.cell? ⟨b, off + i * 3 + j, none⟩ = some v
  ok : ∀ r ∈ rs, r.Ok lim w
theorem Shows.belowL {lim : Nat} {w w' : World} {ao : Option Addr} {n cap : Nat} {B : List Nat} (h : Shows lim w ao n cap B) (hb : Below lim w w') : Shows lim w' ao n cap B := by
  obtain ⟨h1, h2, h3, h4, b, off, h5, h6, h7⟩ := h
  exact ⟨h1, h2, h3, h4, b, off, h5, h6, fun i hi => (hb.cell (p := ⟨b, _, none⟩) (h6 (by omega))).trans (h7 i hi)⟩
theorem Rq.Ok.below {lim : Nat} {w w' : World} {r : Rq} (h : r.Ok lim w) (hb : Below lim w w') : r.Ok lim w' := ⟨h.hc, h.hs, h.hC.belowL hb⟩
theorem Rqs.below {lim : Nat} {w w' : World} {ro : Option Addr} {rs : List Rq} {b off : Nat} (h : Rqs lim w ro rs b off) (hb : Below lim w w') : Rqs lim w' ro rs b off :=
  ⟨h.ad, h.lt, h.le, fun i r hr j v hv => (hb.cell (p := ⟨b, _, none⟩) (h.lt (by have := (List.getElem?_eq_some_iff.1 hr).1; omega))).trans (h.at_ i r hr j v hv), fun r hr => (h.ok r hr).below hb⟩
/-- The request at a place. -/
theorem Rqs.get {lim : Nat} {w : World} {ro : Option Addr} {rs : List Rq} {b off : Nat} (h : Rqs lim w ro rs b off) {k : Nat} (hk : k < rs.length) :
    ∃ r, rs[k]? = some r ∧ rs.drop k = r :: rs.drop (k + 1) ∧ r.Ok lim w ∧ b < lim ∧ ro = some ⟨b, off, none⟩ ∧ w.cell? ⟨b, off + k * 3, none⟩ = some (.int .u64 (r.cl : Int)) ∧ w.cell? ⟨b, off + k * 3 + 1, none⟩ = some (.int .u64 (r.sq : Int)) ∧ w.cell? ⟨b, off + k * 3 + 2, none⟩ = some (.slice r.co r.cn r.cc) := by
  have hg : rs[k]? = some rs[k] := List.getElem?_eq_getElem hk
  exact ⟨rs[k], hg, List.drop_eq_getElem_cons hk, h.ok _ (List.getElem_mem hk), h.lt (by omega), h.ad (by omega), h.at_ k _ hg 0 _ rfl, h.at_ k _ hg 1 _ rfl, h.at_ k _ hg 2 _ rfl⟩

/-- Why a request may not be; why a batch may not be, and where. -/
def Rq.why (r : Rq) : Int := if r.cl < 256 then 29 else if 700 < r.cn then 21 else 0
def bGo : List Rq → Nat → Nat × Int
  | [], _ => (0, 0)
  | r :: t, i => if r.why = 0 then bGo t (i + 1) else (2 + i, r.why)
def bFault (stamp : Nat) (rs : List Rq) : Nat × Int := if 1099511627776 < stamp then (0, 29) else if 8 < rs.length then (1, 21) else bGo rs 0

theorem below_alloc1 (w : World) (o : Obj) : Below w.heap.size w (w.alloc o) := (Below.refl _ w).alloc (Nat.le_refl _) o
end Go.Proofs.Ytneginefcloceaa
