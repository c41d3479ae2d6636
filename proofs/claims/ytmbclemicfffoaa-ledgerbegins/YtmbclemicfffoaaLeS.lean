import Derived.Test.YtmbclemicfffoaaLeR
import Derived.Deep.DeepCutAuto
namespace Go.Proofs.Ytmbclemicfffoaa
open Go.RowKit

set_option maxRecDepth 100000 in
set_option maxHeartbeats 8000000 in
theorem begins_walk {w : World} {b0 off : Nat} {ao : Option Addr} (n cap : Nat) {l : List Ac} (hn : n = l.length) (hA : Acs w b0 off l) (hao : 0 < n → ao = some ⟨b0, off, none⟩) (hbw : 0 < n → b0 < w.heap.size) (hle : n ≤ 4398046510976) :
    Calls Try.prog 3 #[.slice ao n cap] w fun e w' => e = .returned (.bool true) ∧ Below w.heap.size w w' := by
  have HBG := hide (beginA n cap hn hA hao hbw hle)
  have HN := hide hn
  have HA := hide hA
  have HAO := hide hao
  have HBW := hide hbw
  clear hn hA hao hbw
  go_enter Try.func3, Try.ntmps3
  go_wp2_with fail
  refine HBG.out.mono ?_
  rintro e W1 ⟨v, v', rfl, G⟩
  obtain ⟨hb1, hbeg⟩ := G.out
  have HB1 := hide hb1
  clear G HBG hb1
  rcases hbeg with ⟨rfl, rfl⟩ | ⟨h64, hgood, p, a, b, q, B, _, rfl, rfl, hlp, hbk⟩
  · go_wp2
    go_ret
    exact ⟨rfl, HB1.out⟩
  have HD := hide hgood.dis
  have HG := hide hgood
  have HLP := hide hlp
  have HBK := hide hbk
  have H64 := hide h64
  obtain ⟨SI, hSI⟩ : ∃ SI : Int, (sumA l : Int) = SI := ⟨_, rfl⟩
  have HY0 : Hid (Below W1.heap.size W1 W1.drew) := hide ((Below.refl _ W1).drew)
  have KP : Hid (∀ V : World, Hid (Below W1.heap.size W1 V) → V.heap[q]? = W1.heap[q]?) := fun V hV => by
    obtain ⟨_, _, h1, _⟩ := HBK.out.v
    exact hV.out.block _ (block_lt h1)
  have KC : Hid (∀ V : World, V.heap[q]? = W1.heap[q]? → V.cell? ⟨q, 3, none⟩ = some (.int .u64 SI) ∧ q < V.heap.size) := fun V hV => by
    obtain ⟨_, _, h1, _⟩ := HBK.out.v
    have h2 := hV.trans h1
    rw [hSI] at h2
    exact ⟨block_cell h2 3, block_lt h2⟩
  have KL : Hid (∀ V, Hid (Below W1.heap.size W1 V) → Calls Try.prog 5 #[.pointer (some ⟨p, 0, none⟩), .pointer (some ⟨q, 0, none⟩)] V fun e w' => e = .returned (.bool true) ∧ Hid (Below V.heap.size V w')) := fun V hV => likeA (HLP.out.kept hV.out) (HBK.out.kept hV.out) HD.out HA.out.ok H64.out
  have KN : Hid (∀ V V1 : World, Hid (Below W1.heap.size W1 V) → Hid (Below V.heap.size V V1) → Hid (Below W1.heap.size W1 V1)) := fun V V1 hV h1 => hide (hV.out.trans (h1.out.mono hV.out.size))
  have KT : Hid (∀ V, Hid (Below W1.heap.size W1 V) → Calls Try.prog 6 #[.pointer (some ⟨p, 0, none⟩)] V fun e w' => e = .returned (.int .u64 SI) ∧ w' = V) := fun V hV => by
    rw [← hSI]
    exact totalA (HLP.out.kept hV.out)
  have KAC : Hid (∀ (V : World) (x : Ac), Below W1.heap.size W1 V → x ∈ l → Calls Try.prog 7 #[.pointer (some ⟨p, 0, none⟩), .int .u64 (x.id : Int)] V fun e w' => e = .returned (.tuple #[.agg x.arr, .int .i64 0]) ∧ Hid (Below V.heap.size V w')) := fun V x hV hx => by
    obtain ⟨i, hi⟩ := List.getElem?_of_mem hx
    exact accountA (HLP.out.kept hV) (HA.out.ok x hx).h0 (fault_zero (HG.out i x (List.getElem?_eq_some_iff.1 hi).1 hi)).1 (HD.out.by hx)
  clear hgood hlp hbk h64 hSI HG HLP HBK HD H64
  go_upto_region 4 with fail
  refine wp_region_L 12 (fun _ => True) (fun V => V.heap[q]? = W1.heap[q]?) (by kernel_rfl) trivial rfl (fun hS0 => ?_)
  refine wpAnyL_take (i := 0) (oi := { dst := some 22, op := Op.move (Operand.tmp 3), type := 23, pos := "exact.go:153", after := #[], guard := none }) (v := .pointer (some ⟨p, 0, none⟩)) rfl (by decide) (by kernel_rfl) (by kernel_rfl) (by kernel_rfl) (fun _ _ _ h => h) (Or.inl ⟨by rfl, fun w2 hSw => ?_⟩) hS0 (fun hS1 => ?_)
  · obtain ⟨r0, r1⟩ := KC.out _ hSw
    go_simp
  simp only [Act.put, List.setIfInBounds_toArray, List.set_cons_zero, List.set_cons_succ]
  clear hS0
  refine wpAnyL_take (i := 1) (oi := { dst := some 23, op := Op.move (Operand.tmp 4), type := 24, pos := "exact.go:153", after := #[], guard := none }) (v := .pointer (some ⟨q, 0, none⟩)) rfl (by decide) (by kernel_rfl) (by kernel_rfl) (by kernel_rfl) (fun _ _ _ h => h) (Or.inl ⟨by rfl, fun w2 hSw => ?_⟩) hS1 (fun hS2 => ?_)
  · obtain ⟨r0, r1⟩ := KC.out _ hSw
    go_simp
  simp only [Act.put, List.setIfInBounds_toArray, List.set_cons_zero, List.set_cons_succ]
  clear hS1
  refine wpAnyL_one (i := 2) (o := { dst := some 24, op := Op.call { callee := Callee.value (Operand.func 5), args := #[Operand.tmp 22, Operand.tmp 23], argTypes := #[23, 24] }, type := 4, pos := "exact.go:153", after := #[{ on := 0, ground := Ground.data }, { on := 1, ground := Ground.data }], guard := none }) (by kernel_rfl) rfl (fun K hK => ?_)
  clear hS2
  go_simp
  go_at_call 5
  refine (KL.out _ HY0).mono ?_
  rintro e V1 ⟨rfl, G1⟩
  have HY1 := KN.out _ _ HY0 G1
  refine hK.out _ _ ⟨fun _ => trivial, KP.out _ HY1⟩ ?_
  clear hK K
  refine wpAnyL_one (i := 3) (o := { dst := some 25, op := Op.unOp UnOp.not 4 (Operand.tmp 24), type := 4, pos := "exact.go:153", after := #[{ on := 2, ground := Ground.data }], guard := none }) (by kernel_rfl) rfl (fun K hK => ?_)
  go_simp
  refine hK.out _ _ ⟨fun _ => trivial, KP.out _ HY1⟩ ?_
  clear hK K
  refine wpAnyL_one (i := 4) (o := { dst := some 26, op := Op.move (Operand.tmp 25), type := 4, pos := "exact.go:153", after := #[{ on := 3, ground := Ground.data }, { on := 2, ground := Ground.chain }], guard := none }) (by kernel_rfl) rfl (fun K hK => ?_)
  go_simp
  refine hK.out _ _ ⟨fun _ => trivial, KP.out _ HY1⟩ ?_
  clear hK K
  refine wpAnyL_take (i := 5) (oi := { dst := some 27, op := Op.move (Operand.tmp 3), type := 23, pos := "exact.go:153", after := #[{ on := 4, ground := Ground.guard }], guard := some (4, false) }) (v := .pointer (some ⟨p, 0, none⟩)) rfl (by decide) (by kernel_rfl) (by kernel_rfl) (by kernel_rfl) (fun _ _ _ h => h) (Or.inl ⟨by rfl, fun w2 hSw => ?_⟩) ⟨fun _ => trivial, KP.out _ HY1⟩ (fun hS10 => ?_)
  · obtain ⟨r0, r1⟩ := KC.out _ hSw
    go_simp
  simp only [Act.put, List.setIfInBounds_toArray, List.set_cons_zero, List.set_cons_succ]
  refine wpAnyL_take (i := 7) (oi := { dst := some 29, op := Op.move (Operand.tmp 4), type := 24, pos := "exact.go:153", after := #[{ on := 4, ground := Ground.guard }], guard := some (4, false) }) (v := .pointer (some ⟨q, 0, none⟩)) rfl (by decide) (by kernel_rfl) (by kernel_rfl) (by kernel_rfl) (fun _ _ _ h => h) (Or.inl ⟨by rfl, fun w2 hSw => ?_⟩) hS10 (fun hS11 => ?_)
  · obtain ⟨r0, r1⟩ := KC.out _ hSw
    go_simp
  simp only [Act.put, List.setIfInBounds_toArray, List.set_cons_zero, List.set_cons_succ]
  clear hS10
  refine wpAnyL_take (i := 8) (oi := { dst := some 30, op := Op.nilCheck (Operand.tmp 29), type := 0, pos := "exact.go:153", after := #[{ on := 7, ground := Ground.data }, { on := 4, ground := Ground.guard }], guard := some (4, false) }) (v := .pointer (some ⟨q, 0, none⟩)) rfl (by decide) (by kernel_rfl) (by kernel_rfl) (by kernel_rfl) (fun _ _ _ h => h) (Or.inl ⟨by rfl, fun w2 hSw => ?_⟩) hS11 (fun hS12 => ?_)
  · obtain ⟨r0, r1⟩ := KC.out _ hSw
    go_simp
  simp only [Act.put, List.setIfInBounds_toArray, List.set_cons_zero, List.set_cons_succ]
  clear hS11
  refine wpAnyL_take (i := 9) (oi := { dst := some 31, op := Op.fieldAddr 35 (Operand.tmp 30) 3, type := 0, pos := "exact.go:153", after := #[{ on := 8, ground := Ground.data }, { on := 4, ground := Ground.guard }], guard := some (4, false) }) (v := .pointer (some ⟨q, 3, none⟩)) rfl (by decide) (by kernel_rfl) (by kernel_rfl) (by kernel_rfl) (fun _ _ _ h => h) (Or.inl ⟨by rfl, fun w2 hSw => ?_⟩) hS12 (fun hS13 => ?_)
  · obtain ⟨r0, r1⟩ := KC.out _ hSw
    go_simp
  simp only [Act.put, List.setIfInBounds_toArray, List.set_cons_zero, List.set_cons_succ]
  clear hS12
  refine wpAnyL_take (i := 10) (oi := { dst := some 32, op := Op.load 28 (Operand.tmp 31), type := 28, pos := "exact.go:153", after := #[{ on := 9, ground := Ground.data }, { on := 4, ground := Ground.guard }], guard := some (4, false) }) (v := .int .u64 SI) rfl (by decide) (by kernel_rfl) (by kernel_rfl) (by kernel_rfl) (fun _ _ _ h => h) (Or.inl ⟨by rfl, fun w2 hSw => ?_⟩) hS13 (fun hS14 => ?_)
  · obtain ⟨r0, r1⟩ := KC.out _ hSw
    go_simp
  simp only [Act.put, List.setIfInBounds_toArray, List.set_cons_zero, List.set_cons_succ]
  clear hS13
  refine wpAnyL_one (i := 6) (o := { dst := some 28, op := Op.call { callee := Callee.value (Operand.func 6), args := #[Operand.tmp 27], argTypes := #[23] }, type := 28, pos := "exact.go:153", after := #[{ on := 5, ground := Ground.data }, { on := 4, ground := Ground.chain }, { on := 4, ground := Ground.guard }], guard := some (4, false) }) (by kernel_rfl) rfl (fun K hK => ?_)
  clear hS14
  go_simp
  go_at_call 6
  refine (KT.out _ HY1).mono ?_
  rintro e V2 ⟨rfl, rfl⟩
  refine hK.out _ _ ⟨fun _ => trivial, KP.out _ HY1⟩ ?_
  clear hK K
  refine wpAnyL_one (i := 11) (o := { dst := some 33, op := Op.binOp BinOp.neq 28 (Operand.tmp 28) (Operand.tmp 32) 28, type := 4, pos := "exact.go:153", after := #[{ on := 6, ground := Ground.data }, { on := 10, ground := Ground.data }, { on := 4, ground := Ground.guard }], guard := some (4, false) }) (by kernel_rfl) rfl (fun K hK => ?_)
  go_simp
  refine hK.out _ _ ⟨fun _ => trivial, KP.out _ HY1⟩ ?_
  clear hK K
  refine wpAnyL_one (i := 12) (o := { dst := some 34, op := Op.pick (Operand.tmp 26) (Operand.const (Value.bool true)) (Operand.tmp 33), type := 4, pos := "exact.go:153", after := #[{ on := 4, ground := Ground.data }, { on := 11, ground := Ground.data }], guard := none }) (by kernel_rfl) rfl (fun K hK => ?_)
  go_simp
  refine hK.out _ _ ⟨fun _ => trivial, KP.out _ HY1⟩ ?_
  clear hK K
  refine wpAnyL_done (by kernel_rfl) ?_ _
  have HS0 := HY1
  clear KC KP KL KT KN HY0 HY1 G1
  go_wp2
  go_loopw [6] (fun i wr => ∃ k : Nat, k ≤ n ∧ i = .int .i64 k ∧ Hid (Below W1.heap.size W1 wr)) (fun i _ => n - (intOf i).toNat)
  case atStart => exact ⟨0, by omega, rfl, HS0.out⟩
  case round =>
    clear HS0
    obtain ⟨k, hk, rfl, HS⟩ := hrel
    by_cases hlt : k < n
    · obtain ⟨x, hx⟩ : ∃ x, l[k]? = some x := ⟨_, List.getElem?_eq_getElem (by have := HN.out; omega)⟩
      have hb := HB1.out.trans (HS.out.mono HB1.out.size)
      obtain ⟨c0, c1, c2, c3⟩ := (HA.out.below hb (fun hp => HBW.out (by have := HN.out; omega))).four hx
      obtain rfl := HAO.out (by omega)
      have cl : b0 < wr.heap.size := Nat.lt_of_lt_of_le (HBW.out (by omega)) hb.size
      have HAC := hide (KAC.out wr x HS.out (List.mem_of_getElem? hx))
      have KX : Hid (∀ V, Below wr.heap.size wr V → V.cell? ⟨b0, off + k * 4, none⟩ = some (.int .u64 (x.id : Int)) ∧ V.cell? ⟨b0, off + k * 4 + 1, none⟩ = some (.int .u64 (x.ow : Int)) ∧ V.cell? ⟨b0, off + k * 4 + 2, none⟩ = some (.int .u64 (x.ba : Int)) ∧ V.cell? ⟨b0, off + k * 4 + 3, none⟩ = some (.int .u64 (x.cp : Int)) ∧ b0 < V.heap.size) := fun V hV => by
        have hb2 := hb.trans (hV.mono hb.size)
        obtain ⟨d0, d1, d2, d3⟩ := (HA.out.below hb2 (fun hp => HBW.out (by have := HN.out; omega))).four hx
        exact ⟨d0, d1, d2, d3, Nat.lt_of_lt_of_le (HBW.out (by omega)) hb2.size⟩
      have hq := fun V => acc_neq (x.id : Int) (x.ow : Int) (x.ba : Int) (x.cp : Int) V
      unfold Ac.arr at HAC
      clear hx hb c1 c2 c3
      generalize (x.id : Int) = X0 at *
      generalize (x.ow : Int) = X1 at *
      generalize (x.ba : Int) = X2 at *
      generalize (x.cp : Int) = X3 at *
      go_wp2_with fail
      refine HAC.out.mono ?_
      rintro e w2 ⟨rfl, G2⟩
      obtain ⟨W3, hW3⟩ : ∃ W3, w2.alloc (.cells #[.int .u64 X0, .int .u64 X1, .int .u64 X2, .int .u64 X3] 37) = W3 := ⟨_, rfl⟩
      have b3 : Below w2.heap.size w2 W3 := by rw [← hW3]; exact (Below.refl _ _).alloc (Nat.le_refl _) _
      have C3 : W3.heap[w2.heap.size]? = some (.cells #[.int .u64 X0, .int .u64 X1, .int .u64 X2, .int .u64 X3] 37 (0, 0)) := by rw [← hW3]; exact alloc_atK _ _
      have hb23 : Below wr.heap.size wr W3 := G2.out.trans (b3.mono G2.out.size)
      have HNX : Hid (∀ q2, Below W1.heap.size W1 (W3.drewN q2)) := fun q2 => below_dA (HS.out.trans (hb23.mono HS.out.size)) q2
      clear c0 cl
      obtain ⟨c0, c1, c2, c3, cl⟩ := KX.out W3 hb23
      have x0 := block_cell C3 0
      have x1 := block_cell C3 1
      have x2 := block_cell C3 2
      have x3 := block_cell C3 3
      have xl := block_lt C3
      simp at x0 x1 x2 x3
      have HW3 := hide hW3
      clear hW3 b3 C3 hb23 G2 HAC KX HS
      go_upto_region 10 with fail
      rw [HW3.out]
      clear HW3
      generalize w2.heap.size = tb at *
      go_quiet (fail)
      go_wp2
      go_roundw
      case rel => exact ⟨k + 1, by omega, by go_num, HNX.out _⟩
      case measure => simp [intOf]; omega
    · obtain rfl : k = n := by omega
      have HE : Hid (Below w.heap.size w wr) := HB1.out.trans (HS.out.mono HB1.out.size)
      clear HS
      go_wp2
      go_ret
      exact ⟨rfl, HE.out⟩
end Go.Proofs.Ytmbclemicfffoaa
