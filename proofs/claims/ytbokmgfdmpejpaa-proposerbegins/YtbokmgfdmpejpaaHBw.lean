import Derived.Test.YtbokmgfdmpejpaaHBg
import Derived.Test.YtbokmgfdmpejpaaHLk
namespace Go.Proofs.Ytbokmgfdmpejpaa
open Go.RowKit

/-- Both are nil, or like tells that they are alike. -/
def LikeP (W : World) (a b : Option Addr) : Prop := (a = none ∧ b = none) ∨ ∃ p q, a = some ⟨p, 0, none⟩ ∧ b = some ⟨q, 0, none⟩ ∧ Calls Try.prog 10 #[.pointer (some ⟨p, 0, none⟩), .pointer (some ⟨q, 0, none⟩)] W fun e w' => e = .returned (.bool true) ∧ Hid (Below W.heap.size W w')
set_option maxRecDepth 10000 in
set_option maxHeartbeats 1600000 in
theorem begins_any (c : Cf) (me : Int) (sl : Value) (w : World) (L : List Lk) (k : Int) (pa ha : World → Option Addr → Prop) (hL : L.length ≤ 11)
    (hP : ∀ W, Below w.heap.size w W → Calls Try.prog 7 #[.agg c.cells, .int .i64 me] W fun e w' => ∃ a, PNewP W (.pointer a) L k e w' ∧ Hid (pa w' a))
    (hR : ∀ W, Below w.heap.size w W → Calls Try.prog 8 #[.agg c.cells, .int .i64 me] W fun e w' => ∃ a, RNewP W (.pointer a) L k e w' ∧ Hid (ha w' a))
    (kp : ∀ W W' a, pa W a → Below W.heap.size W W' → pa W' a) (kh : ∀ W W' a, ha W a → Below W.heap.size W W' → ha W' a)
    (hn : ∀ W a b, pa W a → ha W b → LikeP W a b)
    (hB : ∀ W, Below w.heap.size w W → Calls Try.prog 11 #[.agg c.cells, .int .i64 me, sl] W fun e w' => ∃ a b, e = .returned (.tuple #[.pointer a, .pointer b, .bool true]) ∧ Hid (LikeP w' a b ∧ Below W.heap.size W w')) :
    Calls Try.prog 3 #[.agg c.cells, .int .i64 me, sl] w fun e w' => e = .returned (.bool true) ∧ Below w.heap.size w w' := by
  unfold PNewP at hP
  unfold RNewP at hR
  have HP := hide hP
  have HR := hide hR
  have KP := hide kp
  have KH := hide kh
  have HN := hide hn
  have HB := hide hB
  clear hP hR kp kh hn hB
  obtain ⟨W1, hW1⟩ : ∃ W1, w.alloc (.cells c.cells 24) = W1 := ⟨_, rfl⟩
  have B1 : Hid (Below w.heap.size w W1) := by rw [← hW1]; exact (Below.refl _ w).alloc (Nat.le_refl _) _
  have C1 : Hid (W1.heap[w.heap.size]? = some (.cells c.cells 24 (0, 0))) := by rw [← hW1]; exact alloc_atK _ _
  have Z : Hid (∀ W, Below W1.heap.size W1 W → W.heap[w.heap.size]? = some (.cells c.cells 24 (0, 0))) := fun W hb => (hb.block _ (block_lt C1.out)).trans C1.out
  have HC := hide (fun (W : World) (h : W.heap[w.heap.size]? = some (.cells c.cells 24 (0, 0))) => cfg_cells h)
  obtain ⟨z0, z1, z2, z3, z4, z5, z6, z7, z8, z9⟩ := HC.out W1 C1.out
  have HW1 := hide hW1
  clear hW1
  unfold Cf.cells at *
  generalize c.f = f at *
  generalize c.mb = mb at *
  generalize (c.delay : Int) = d at *
  generalize (c.win : Int) = wn at *
  generalize (c.every : Int) = ev at *
  generalize (c.beat : Int) = bt at *
  generalize (c.ep : Int) = ep at *
  generalize (c.em : Int) = em at *
  generalize (c.mn : Int) = mn at *
  generalize (c.ms : Int) = ms at *
  go_enter Try.func3, Try.ntmps3
  go_upto_region 1 with fail
  rw [HW1.out]
  clear HW1
  go_wp2_with fail
  refine (HP.out W1 B1.out).mono ?_
  rintro e w2 ⟨a, ⟨er, rfl, G2⟩, X2⟩
  have B2 := hide G2.out.2
  have E2 := hide G2.out.1
  clear G2 z0 z1 z2 z3 z4 z5 z6 z7 z8 z9 HP
  obtain ⟨z0, z1, z2, z3, z4, z5, z6, z7, z8, z9⟩ := HC.out w2 (Z.out w2 B2.out)
  go_wp2_with fail
  refine (HR.out w2 (B1.out.trans (B2.out.mono B1.out.size))).mono ?_
  rintro e w3 ⟨b, ⟨fo, fc, rfl, G3⟩, X3⟩
  obtain ⟨⟨fb, fof, hf⟩, hb3⟩ := G3.out
  have B3 := hide (B2.out.trans (hb3.mono B2.out.size))
  have E3 := hide (E2.out.below hb3)
  have P3 := hide (KP.out _ _ _ X2.out hb3)
  have HF := hide hf
  clear G3 X2 hf hb3 HR E2 B2 C1 z0 z1 z2 z3 z4 z5 z6 z7 z8 z9
  have HI : Hid (∀ o, Calls Try.prog 9 #[er, .agg #[.slice fo L.length fc, .int .i64 k]] (w3.alloc o) fun e w' => e = .returned (.bool true) ∧ Hid (Below w3.heap.size w3 w')) := fun o => by
    have bo : Below w3.heap.size w3 (w3.alloc o) := (Below.refl _ w3).alloc (Nat.le_refl _) o
    exact (is_any L.length fc rfl (E3.out.below bo) ((HF.out.below bo).wide bo.size)).mono (fun _ _ h => ⟨h.1, bo.trans (h.2.out.mono bo.size)⟩)
  have hll : Hid (L.length ≤ 11) := hL
  clear hL
  generalize L.length = ln at *
  go_wp2_with fail
  refine (HI.out _).mono ?_
  rintro e w4 ⟨rfl, hb4⟩
  have LK := hide (HN.out _ _ _ (KP.out _ _ _ P3.out hb4.out) (KH.out _ _ _ X3.out hb4.out))
  have B4 := hide (B3.out.trans (hb4.out.mono B3.out.size))
  clear hb4 HI P3 X3 B3 E3 HF KP KH HN
  rcases LK.out with ⟨e1, e2⟩ | ⟨p1, q1, e1, e2, hl1⟩
  · subst e1 e2
    clear LK
    obtain ⟨z0, z1, z2, z3, z4, z5, z6, z7, z8, z9⟩ := HC.out _ (Z.out _ B4.out)
    go_wp2_with fail
    refine (HB.out _ (B1.out.trans ((B4.out).mono B1.out.size))).mono ?_
    rintro e w7 ⟨a2, b2, rfl, G7⟩
    have B7 := hide ((B1.out.trans ((B4.out).mono B1.out.size)).trans (G7.out.2.mono (B1.out.trans ((B4.out).mono B1.out.size)).size))
    clear z0 z1 z2 z3 z4 z5 z6 z7 z8 z9 HB
    rcases G7.out.1 with ⟨e1, e2⟩ | ⟨p2, q2, e1, e2, hl2⟩
    · subst e1 e2
      clear G7
      go_wp2
      go_ret
      exact ⟨rfl, B7.out⟩
    · subst e1 e2
      have LK2 := hide hl2
      clear G7 hl2
      go_wp2_with fail
      refine LK2.out.mono ?_
      rintro e w8 ⟨rfl, b8⟩
      go_wp2
      go_ret
      exact ⟨rfl, B7.out.trans (b8.out.mono B7.out.size)⟩
  · subst e1 e2
    have LK1 := hide hl1
    clear LK hl1
    go_wp2_with fail
    refine LK1.out.mono ?_
    rintro e w5 ⟨rfl, b5⟩
    have B5 := hide (B4.out.trans (b5.out.mono B4.out.size))
    clear b5
    obtain ⟨z0, z1, z2, z3, z4, z5, z6, z7, z8, z9⟩ := HC.out _ (Z.out _ B5.out)
    go_wp2_with fail
    refine (HB.out _ (B1.out.trans ((B5.out).mono B1.out.size))).mono ?_
    rintro e w7 ⟨a2, b2, rfl, G7⟩
    have B7 := hide ((B1.out.trans ((B5.out).mono B1.out.size)).trans (G7.out.2.mono (B1.out.trans ((B5.out).mono B1.out.size)).size))
    clear z0 z1 z2 z3 z4 z5 z6 z7 z8 z9 HB
    rcases G7.out.1 with ⟨e1, e2⟩ | ⟨p2, q2, e1, e2, hl2⟩
    · subst e1 e2
      clear G7
      go_wp2
      go_ret
      exact ⟨rfl, B7.out⟩
    · subst e1 e2
      have LK2 := hide hl2
      clear G7 hl2
      go_wp2_with fail
      refine LK2.out.mono ?_
      rintro e w8 ⟨rfl, b8⟩
      go_wp2
      go_ret
      exact ⟨rfl, B7.out.trans (b8.out.mono B7.out.size)⟩
end Go.Proofs.Ytbokmgfdmpejpaa
