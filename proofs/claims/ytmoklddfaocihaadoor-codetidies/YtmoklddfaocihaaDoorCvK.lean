import Derived.Test.YtmoklddfaocihaaDoorCvJ
import Derived.Lib.OthersKept
namespace Go.Proofs.YtmoklddfaocihaaDoor
open Go.RowKit

def iv (b : Bool) : Value := .int .i64 (if b then 1 else 0)
/-- A list of kinds that is shown. -/
def KL (lim : Nat) (w : World) (v : Value) (l : List Bool) : Prop := ∃ ao cap b off, v = .slice ao l.length cap ∧ l.length ≤ cap ∧ (0 < l.length → ao = some ⟨b, off, none⟩ ∧ b < lim) ∧ ∀ j x, l[j]? = some x → w.cell? ⟨b, off + j, none⟩ = some (iv x)
theorem KL.kept {lim k : Nat} {w w' : World} {v : Value} {l : List Bool} (h : KL lim w v l) (hb : Below k w w') (hk : lim ≤ k) : KL lim w' v l := by
  obtain ⟨ao, cap, b, off, h1, h2, h3, h4⟩ := h
  exact ⟨ao, cap, b, off, h1, h2, h3, fun j x hx => (hb.cell (p := ⟨b, _, none⟩) (by have := (h3 (by have := (List.getElem?_eq_some_iff.1 hx).1; omega)).2; show b < k; omega)).trans (h4 j x hx)⟩
theorem KL.wide {lim lim' : Nat} {w : World} {v : Value} {l : List Bool} (h : KL lim w v l) (hl : lim ≤ lim') : KL lim' w v l := by
  obtain ⟨ao, cap, b, off, h1, h2, h3, h4⟩ := h
  exact ⟨ao, cap, b, off, h1, h2, fun e => ⟨(h3 e).1, Nat.lt_of_lt_of_le (h3 e).2 hl⟩, h4⟩
theorem KL.own {base : Nat} {w : World} {v : Value} {l : List Bool} (h : w.ownsRow base 3 1 v l.length (l.map iv)) : KL w.heap.size w v l := by
  rcases h.2 with ⟨h1, h0⟩ | ⟨g, cap, cur, h1, hb, hc, hnc, _, hsz, htk⟩
  · have : l = [] := List.eq_nil_of_length_eq_zero h0
    subst this
    exact ⟨none, 0, 0, 0, h1, Nat.le_refl _, fun h => by simp at h, fun j x hx => by simp at hx⟩
  · refine ⟨_, cap, g, 0, h1, hnc, fun _ => ⟨rfl, block_lt hc⟩, fun j x hx => ?_⟩
    have hj := (List.getElem?_eq_some_iff.1 hx).1
    have h2 : (l.map iv)[j]? = some (iv x) := by rw [List.getElem?_map, hx]; rfl
    rw [← htk, List.getElem?_take, if_pos (by omega)] at h2
    rw [Nat.zero_add, block_cell hc j]
    simpa using h2
theorem Tryd.infoI : (Tryd.prog.info? 3).map (fun i => (i.zero, i.size, i.bytes)) = some (some (.int .i64 0), 1, 8) := by kernel_rfl
/-- What Verify answers. -/
def Vy (W : World) (r : Except (Int × Int) Kn) (e : Ending) (w' : World) : Prop := match r with
  | .ok _ => e = .returned .nilIface ∧ Hid (Below W.heap.size W w')
  | .error (a, y) => ∃ g, e = .returned (.iface 96 (.pointer (some ⟨g, 0, none⟩))) ∧ Hid (Ft w'.heap.size w' (.iface 96 (.pointer (some ⟨g, 0, none⟩))) a y ∧ Below W.heap.size W w')
set_option maxRecDepth 10000 in
set_option maxHeartbeats 1600000 in
theorem verifyC {W : World} {g : Pg} {p : Pv} (h : g.Ok p W.heap.size W) (hT : Tab W) :
    Calls Tryd.prog 40 #[.agg (g.cs p).toArray] W (Vy W (verF p)) := by
  obtain ⟨W1, hW1⟩ : ∃ W1, W.alloc (.cells (g.cs p).toArray 27) = W1 := ⟨_, rfl⟩
  have B1 : Below W.heap.size W W1 := by rw [← hW1]; exact below_alloc1 W _
  have A1 : W1.heap[W.heap.size]? = some (.cells (g.cs p).toArray 27 (0, 0)) := by rw [← hW1]; exact alloc_atK _ _
  have HWK := hide (walkedC ((h.kept B1 (Nat.le_refl _)).wide B1.size) (hT.below B1 hT.z))
  have z0 := block_cell A1 0
  have z1 := block_cell A1 1
  have z2 := block_cell A1 2
  have z3 := block_cell A1 3
  have z4 := block_cell A1 4
  have z5 := block_cell A1 5
  have z6 := block_cell A1 6
  have z7 := block_cell A1 7
  have z8 := block_cell A1 8
  have zl := block_lt A1
  simp [Pg.cs] at z0 z1 z2 z3 z4 z5 z6 z7 z8
  have HB1 := hide B1
  have HW1 := hide hW1
  clear h hT B1 A1 hW1
  have HCS : Hid (g.cs p = [.slice g.ca p.nc g.cc, .slice g.sa p.ns g.sc, .int .i64 (p.en 0), .int .i64 (p.en 1), .int .i64 (p.en 2), .int .i64 (p.en 3), .int .i64 (p.en 4), .int .i64 (p.en 5), .slice g.ia p.n g.ic]) := rfl
  rw [HCS.out] at HW1 HWK ⊢
  generalize verF p = r at *
  go_enter Tryd.func40, Tryd.ntmps40
  go_upto_region 1 with fail
  rw [HW1.out]
  go_wp2_with fail
  refine HWK.out.mono ?_
  intro e w2 hh
  cases r with
  | ok k =>
    obtain ⟨hb, rfl, G⟩ := hh
    have HD := hide (HB1.out.trans (G.out.2.mono HB1.out.size))
    go_wp2
    go_ret
    exact ⟨rfl, HD⟩
  | error y =>
    obtain ⟨a, y⟩ := y
    obtain ⟨g', rfl, G⟩ := hh
    have HD : Hid (Ft w2.heap.size w2 (.iface 96 (.pointer (some ⟨g', 0, none⟩))) a y ∧ Below W.heap.size W w2) := ⟨G.out.1, HB1.out.trans (G.out.2.mono HB1.out.size)⟩
    go_wp2
    go_ret
    exact ⟨g', rfl, HD⟩
theorem ktx_at (l : List Bool) (j : Nat) (h : j < (ktx l).size) (hl : j < l.length) : ((ktx l)[j]'h).toNat = ltr l[j] := by
  have e : (ktx l)[j]'h = UInt8.ofNat (ltr l[j]) := by
    show (ktx l).data[j] = _
    unfold ktx txt
    simp
  rw [e]
  cases l[j] <;> rfl
/-- What Shape answers. -/
def shF (p : Pv) (at_ : Int) : Except (Int × Int) (List Bool × Bool) := match verF p with
  | .error y => .error y
  | .ok k => if isPl at_ p.n = true then .ok (kin (k at_.toNat), (k at_.toNat).isSome) else .error (at_, 84)
def Sh (W : World) (r : Except (Int × Int) (List Bool × Bool)) (e : Ending) (w' : World) : Prop := match r with
  | .ok (l, b) => ∃ v, e = .returned (.tuple #[v, .bool b, .nilIface]) ∧ Hid (KL w'.heap.size w' v l ∧ Below W.heap.size W w')
  | .error (a, y) => ∃ g, e = .returned (.tuple #[.slice none 0 0, .bool false, .iface 96 (.pointer (some ⟨g, 0, none⟩))]) ∧ Hid (Ft w'.heap.size w' (.iface 96 (.pointer (some ⟨g, 0, none⟩))) a y ∧ Below W.heap.size W w')
theorem iter_grown (w : World) (k : Nat) (s : ByteArray) (n : Nat) : w.grownBy (w.iterAt k s n) (some k) := ⟨rfl, rfl, rfl, by rw [Lib.iterAt_size]; exact Nat.le_refl _, fun i _ hne => Lib.iterAt_other w k i s n (fun e => hne (by rw [e]))⟩
end Go.Proofs.YtmoklddfaocihaaDoor
