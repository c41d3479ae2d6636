import Derived.Test.YthfiafjhnidlkaaBNok
namespace Go.Proofs.Ythfiafjhnidlkaa
open Go.RowKit

/-- An error that is told so: none, or a chain of faults. -/
def ErrP (w : World) (L : List Lk) (c : Int) (v : Value) : Prop := (v = .nilIface ∧ L = [] ∧ c = 0) ∨ (Chain w.heap.size w L v c ∧ 0 < L.length ∧ L.length ≤ 11 ∧ c ≠ 0)
theorem ErrP.below {w w' : World} {L : List Lk} {c : Int} {v : Value} (h : ErrP w L c v) (hb : Below w.heap.size w w') : ErrP w' L c v := by
  rcases h with h | ⟨h1, h2⟩
  · exact .inl h
  · exact .inr ⟨(Chain.below hb h1).wide hb.size, h2⟩
/-- A value and an error. -/
def PNewP (w : World) (gp : Value) (L : List Lk) (c : Int) (e : Ending) (w' : World) : Prop := ∃ ev, e = .returned (.tuple #[gp, ev]) ∧ Hid (ErrP w' L c ev ∧ Below w.heap.size w w')
theorem cfg_cells {W : World} {n : Nat} {c : Cf} {t : TypeId} (h : W.heap[n]? = some (.cells c.cells t (0, 0))) :
    W.cell? ⟨n, 0, none⟩ = some (.int .i64 c.f) ∧ W.cell? ⟨n, 1, none⟩ = some (.int .i64 c.mb) ∧ W.cell? ⟨n, 2, none⟩ = some (.int .u64 (c.delay : Nat)) ∧ W.cell? ⟨n, 3, none⟩ = some (.int .u64 (c.win : Nat)) ∧ W.cell? ⟨n, 4, none⟩ = some (.int .u64 (c.every : Nat)) ∧ W.cell? ⟨n, 5, none⟩ = some (.int .u64 (c.beat : Nat)) ∧ W.cell? ⟨n, 6, none⟩ = some (.int .u64 (c.ep : Nat)) ∧ W.cell? ⟨n, 7, none⟩ = some (.int .u64 (c.em : Nat)) ∧ W.cell? ⟨n, 8, none⟩ = some (.int .u64 (c.mn : Nat)) ∧ W.cell? ⟨n, 9, none⟩ = some (.int .u64 (c.ms : Nat)) :=
  ⟨block_cell h 0, block_cell h 1, block_cell h 2, block_cell h 3, block_cell h 4, block_cell h 5, block_cell h 6, block_cell h 7, block_cell h 8, block_cell h 9⟩
set_option maxRecDepth 10000 in
set_option maxHeartbeats 800000 in
/-- groups, where both refuse alike (gp, hp: nil) or both take (gp, hp: none of them nil): X, Y: what holds of the program's group and of the reference's. -/
theorem groups_any (c : Cf) (w : World) (L : List Lk) (k : Int) (pa ha : World → Option Addr → Prop) (hL : L.length ≤ 11)
    (hP : ∀ W, Calls Try.prog 43 #[.agg c.cells] W fun e w' => ∃ a, PNewP W (.pointer a) L k e w' ∧ Hid (pa w' a))
    (hR : ∀ W, Calls Try.prog 44 #[.agg c.cells] W fun e w' => ∃ a, RNewP W (.pointer a) L k e w' ∧ Hid (ha w' a))
    (kp : ∀ W W' a, pa W a → Below W.heap.size W W' → pa W' a) (kh : ∀ W W' a, ha W a → Below W.heap.size W W' → ha W' a)
    (hn : ∀ W W' a b, pa W a → ha W' b → a.isNone = b.isNone) :
    Calls Try.prog 20 #[.agg c.cells] w fun e w' => ∃ a b, e = .returned (.tuple #[.pointer a, .pointer b, .bool true]) ∧ Hid (pa w' a ∧ ha w' b ∧ Below w.heap.size w w') := by
  unfold PNewP at hP
  unfold RNewP at hR
  have HP := hide hP
  have HR := hide hR
  have KP := hide kp
  have KH := hide kh
  have HN := hide hn
  clear hP hR kp kh hn
  obtain ⟨W1, hW1⟩ : ∃ W1, w.alloc (.cells c.cells 24) = W1 := ⟨_, rfl⟩
  have B1 : Hid (Below w.heap.size w W1) := by rw [← hW1]; exact (Below.refl _ w).alloc (Nat.le_refl _) _
  have C1 : Hid (W1.heap[w.heap.size]? = some (.cells c.cells 24 (0, 0))) := by rw [← hW1]; exact alloc_atK _ _
  have Z : Hid (∀ W, Below W1.heap.size W1 W → W.heap[w.heap.size]? = some (.cells c.cells 24 (0, 0))) := fun W hb => (hb.block _ (block_lt C1.out)).trans C1.out
  have HC := hide (fun (W : World) (h : W.heap[w.heap.size]? = some (.cells c.cells 24 (0, 0))) => cfg_cells h)
  obtain ⟨z0, z1, z2, z3, z4, z5, z6, z7, z8, z9⟩ := HC.out W1 C1.out
  have HW1 := hide hW1
  clear hW1
  unfold Cf.cells at *
  generalize c.f = f at *
  generalize c.mb = mb at *
  generalize (c.delay : Int) = d at *
  generalize (c.win : Int) = wn at *
  generalize (c.every : Int) = ev at *
  generalize (c.beat : Int) = bt at *
  generalize (c.ep : Int) = ep at *
  generalize (c.em : Int) = em at *
  generalize (c.mn : Int) = mn at *
  generalize (c.ms : Int) = ms at *
  go_enter Try.func20, Try.ntmps20
  go_upto_region 1 with fail
  rw [HW1.out]
  clear HW1
  go_wp2_with fail
  refine (HP.out W1).mono ?_
  rintro e w2 ⟨a, ⟨er, rfl, G2⟩, X2⟩
  have B2 := hide G2.out.2
  have E2 := hide G2.out.1
  clear G2 z0 z1 z2 z3 z4 z5 z6 z7 z8 z9 HP
  obtain ⟨z0, z1, z2, z3, z4, z5, z6, z7, z8, z9⟩ := HC.out w2 (Z.out w2 B2.out)
  go_wp2_with fail
  refine (HR.out w2).mono ?_
  rintro e w3 ⟨b, ⟨fo, fc, rfl, G3⟩, X3⟩
  obtain ⟨⟨fb, fof, hf⟩, hb3⟩ := G3.out
  have B3 := hide (B2.out.trans (hb3.mono B2.out.size))
  have E3 := hide (E2.out.below hb3)
  have P3 := hide (KP.out _ _ _ X2.out hb3)
  have HF := hide hf
  have HAB := hide (HN.out _ _ _ _ X2.out X3.out)
  clear G3 X2 hf hb3 HR E2 B2 HC Z C1 z0 z1 z2 z3 z4 z5 z6 z7 z8 z9
  have HI : Hid (∀ o, Calls Try.prog 29 #[er, .agg #[.slice fo L.length fc, .int .i64 k]] (w3.alloc o) fun e w' => e = .returned (.bool true) ∧ Hid (Below w3.heap.size w3 w')) := fun o => by
    have bo : Below w3.heap.size w3 (w3.alloc o) := (Below.refl _ w3).alloc (Nat.le_refl _) o
    exact (is_any L.length fc rfl (E3.out.below bo) ((HF.out.below bo).wide bo.size)).mono (fun _ _ h => ⟨h.1, bo.trans (h.2.out.mono bo.size)⟩)
  have hll : Hid (L.length ≤ 11) := hL
  clear hL
  generalize L.length = ln at *
  go_wp2_with fail
  refine (HI.out _).mono ?_
  rintro e w4 ⟨rfl, hb4⟩
  have FIN := hide (And.intro (KP.out _ _ _ P3.out hb4.out) (And.intro (KH.out _ _ _ X3.out hb4.out) (B1.out.trans ((B3.out.trans (hb4.out.mono B3.out.size)).mono B1.out.size))))
  have HAB1 := HAB.out
  clear HAB hb4 HI P3 X3 B3 B1 E3 HF
  cases a with
  | none =>
    cases b with
    | none =>
      clear HAB1
      go_wp2
      exact bodyPost_ret (v := .tuple #[.pointer none, .pointer none, .bool true]) (by simp [results, Try.results20, go_sem]) rfl ⟨none, none, rfl, FIN.out⟩
    | some b => cases HAB1
  | some a =>
    cases b with
    | none => cases HAB1
    | some b =>
      clear HAB1
      go_wp2
      exact bodyPost_ret (v := .tuple #[.pointer (some a), .pointer (some b), .bool true]) (by simp [results, Try.results20, go_sem]) rfl ⟨some a, some b, rfl, FIN.out⟩
end Go.Proofs.Ythfiafjhnidlkaa
