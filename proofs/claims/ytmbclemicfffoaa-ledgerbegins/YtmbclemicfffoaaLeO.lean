import Derived.Test.YtmbclemicfffoaaLeJ
import Derived.Test.YtmbclemicfffoaaLeN
namespace Go.Proofs.Ytmbclemicfffoaa
open Go.RowKit

def set5 (V : World) (r : Nat) (u0 u1 u2 u3 u4 : Value) : World := ((((V.setCell ⟨r, 0, none⟩ u0).setCell ⟨r, 1, none⟩ u1).setCell ⟨r, 2, none⟩ u2).setCell ⟨r, 3, none⟩ u3).setCell ⟨r, 4, none⟩ u4
theorem set5_g (V : World) (r : Nat) (u0 u1 u2 u3 u4 : Value) : V.grownBy (set5 V r u0 u1 u2 u3 u4) (some r) := grown_two (grown_two (grown_two (grown_two (grown_set _ r 0 u0) (grown_set _ r 1 u1)) (grown_set _ r 2 u2)) (grown_set _ r 3 u3)) (grown_set _ r 4 u4)
/-- An image of a ledger that has only accounts. -/
def ImgP (w : World) (l : List Ac) (s n : Nat) (e : Ending) (w' : World) : Prop := ∃ ao cap, e = .returned (.agg #[.int .u64 (s : Nat), .int .u64 1, .slice ao n cap, .slice none 0 0, .slice none 0 0]) ∧ Hid (w'.ownsRow w.heap.size 37 4 (.slice ao n cap) n (acells (srt l)) ∧ Below w.heap.size w w' ∧ (n = 0 → ao = none ∧ cap = 0))
set_option maxRecDepth 10000 in
set_option maxHeartbeats 8000000 in
theorem imageA {w : World} {p a b : Nat} {l : List Ac} {s : Nat} (h : LP w p a b l s) (hd : Dis l) (hin : ∀ x ∈ l, x.In) (hl : l.length ≤ 64) :
    Calls Try.prog 13 #[.pointer (some ⟨p, 0, none⟩)] w (ImgP w l s l.length) := by
  unfold ImgP
  obtain ⟨n, hn⟩ : ∃ n, l.length = n := ⟨_, rfl⟩
  obtain ⟨W1, hW1⟩ : ∃ W1, w.alloc (.cells #[.int .u64 0, .int .u64 0, .slice none 0 0, .slice none 0 0, .slice none 0 0] 55) = W1 := ⟨_, rfl⟩
  have b1 : Below w.heap.size w W1 := by rw [← hW1]; exact (Below.refl _ w).alloc (Nat.le_refl _) _
  have C1 : Hid (W1.heap[w.heap.size]? = some (.cells #[.int .u64 0, .int .u64 0, .slice none 0 0, .slice none 0 0, .slice none 0 0] 55 (0, 0))) := by rw [← hW1]; exact alloc_atK _ _
  have H1 := hide (h.kept b1)
  have HPR : Hid (p ≠ w.heap.size) := fun e => by
    obtain ⟨cs, hc, _⟩ := h.blk
    have := block_lt hc
    omega
  have HM := hide (madeA H1.out)
  have HY0 : Hid (Below W1.heap.size W1 W1.drew) := hide ((Below.refl _ W1).drew)
  have KC : Hid (∀ V : World, V.heap[p]? = W1.heap[p]? → V.cell? ⟨p, 0, none⟩ = some (.int .u64 (s : Int)) ∧ V.cell? ⟨p, 1, none⟩ = some (.map (some a)) ∧ V.cell? ⟨p, 2, none⟩ = some (.map (some b)) ∧ V.cell? ⟨p, 3, none⟩ = some (.int .u64 1) ∧ p < V.heap.size) := fun V hV => by
    obtain ⟨cs, h1, h2, h3, h4, h5⟩ := H1.out.blk
    have hc := hV.trans h1
    exact ⟨(block_cell hc 0).trans h2, (block_cell hc 1).trans h3, (block_cell hc 2).trans h4, (block_cell hc 3).trans h5, block_lt hc⟩
  have KPE : Hid (∀ V : World, Below W1.heap.size W1 V → V.heap[p]? = W1.heap[p]?) := fun V hV => hV.block _ H1.out.c.2.2.2.2
  have KR : Hid (∀ V, Hid (Below W1.heap.size W1 V) → Calls Try.prog 29 #[.map (some a)] V fun e w' => ∃ ao cap, e = .returned (.slice ao n cap) ∧ Hid (w'.ownsRow V.heap.size 37 4 (.slice ao n cap) n (acells (srt l)) ∧ Below V.heap.size V w' ∧ (n = 0 → ao = none ∧ cap = 0))) := fun V hV => by
    rw [← hn]
    exact risingA (H1.out.kept hV.out).acc hd hin hl
  have KH : Hid (∀ V, Hid (Below W1.heap.size W1 V) → Calls Try.prog 30 #[.map (some b)] V fun e w' => e = .returned (.slice none 0 0) ∧ w' = V) := fun V hV => risingH (H1.out.kept hV.out).hol
  have KJ : Hid (∀ V, Hid (Below W1.heap.size W1 V) → Calls Try.prog 31 #[.pointer (some ⟨p, 3, none⟩)] V fun e w' => e = .returned (.slice none 0 0) ∧ w' = V) := fun V hV => linesA (H1.out.kept hV.out).c.2.2.2.1 (H1.out.kept hV.out).c.2.2.2.2
  have KN1 : Hid (∀ (V : World) (ao : Option Addr) (cap : Nat) (V1 : World), Hid (Below W1.heap.size W1 V) → Hid (V1.ownsRow V.heap.size 37 4 (.slice ao n cap) n (acells (srt l)) ∧ Below V.heap.size V V1 ∧ (n = 0 → ao = none ∧ cap = 0)) → Hid (Hid (Below W1.heap.size W1 V1) ∧ V1.heap[p]? = W1.heap[p]? ∧ V1.ownsRow w.heap.size 37 4 (.slice ao n cap) n (acells (srt l)) ∧ (n = 0 → ao = none ∧ cap = 0))) := fun V ao cap V1 hV h1 => by
    have hb := hV.out.trans (h1.out.2.1.mono hV.out.size)
    exact ⟨hb, KPE.out _ hb, row_lower h1.out.1 (Nat.le_trans b1.size hV.out.size), h1.out.2.2⟩
  have KC1 : Hid (∀ V, Hid (Below W1.heap.size W1 V) → V.heap[w.heap.size]? = some (.cells #[.int .u64 0, .int .u64 0, .slice none 0 0, .slice none 0 0, .slice none 0 0] 55 (0, 0))) := fun V hV => (hV.out.block _ (block_lt C1.out)).trans C1.out
  have KY : Hid (∀ V, Hid (Below W1.heap.size W1 V) → V.cell? ⟨w.heap.size, 0, none⟩ = some (.int .u64 0) ∧ V.cell? ⟨w.heap.size, 1, none⟩ = some (.int .u64 0) ∧ V.cell? ⟨w.heap.size, 2, none⟩ = some (.slice none 0 0) ∧ V.cell? ⟨w.heap.size, 3, none⟩ = some (.slice none 0 0) ∧ V.cell? ⟨w.heap.size, 4, none⟩ = some (.slice none 0 0) ∧ w.heap.size < V.heap.size ∧ V.frozen? ⟨w.heap.size, 0, none⟩ = false ∧ V.frozen? ⟨w.heap.size, 1, none⟩ = false ∧ V.frozen? ⟨w.heap.size, 2, none⟩ = false ∧ V.frozen? ⟨w.heap.size, 3, none⟩ = false ∧ V.frozen? ⟨w.heap.size, 4, none⟩ = false) := fun V hV => by
    have hc := KC1.out V hV
    exact ⟨block_cell hc 0, block_cell hc 1, block_cell hc 2, block_cell hc 3, block_cell hc 4, block_lt hc, block_free hc 0, block_free hc 1, block_free hc 2, block_free hc 3, block_free hc 4⟩
  have KZ : Hid (∀ (V : World) (u0 u1 u2 u3 u4 : Value), V.heap[p]? = W1.heap[p]? → (set5 V w.heap.size u0 u1 u2 u3 u4).heap[p]? = W1.heap[p]?) := fun V u0 u1 u2 u3 u4 hV => ((set5_g V w.heap.size u0 u1 u2 u3 u4).block p (KC.out V hV).2.2.2.2 (fun e => HPR.out (Option.some.inj e))).trans hV
  have KE : Hid (∀ (V : World) (ao : Option Addr) (cap : Nat) (u0 u1 u2 u3 u4 : Value), Hid (Hid (Below W1.heap.size W1 V) ∧ V.heap[p]? = W1.heap[p]? ∧ V.ownsRow w.heap.size 37 4 (.slice ao n cap) n (acells (srt l)) ∧ (n = 0 → ao = none ∧ cap = 0)) → Hid ((set5 V w.heap.size u0 u1 u2 u3 u4).ownsRow w.heap.size 37 4 (.slice ao n cap) n (acells (srt l)) ∧ Below w.heap.size w (set5 V w.heap.size u0 u1 u2 u3 u4) ∧ (n = 0 → ao = none ∧ cap = 0))) := fun V ao cap u0 u1 u2 u3 u4 hV => by
    have hg := set5_g V w.heap.size u0 u1 u2 u3 u4
    have hb := b1.trans (hV.out.1.out.mono b1.size)
    exact ⟨hV.out.2.2.1.kept hg (.inr (row_ne_cells hV.out.2.2.1 (KC1.out V hV.out.1) (by decide))), hb.grown hg hb.size (fun j e => by cases e; exact Nat.le_refl _), hV.out.2.2.2⟩
  unfold set5 at KZ KE
  have HW1 := hide hW1
  rw [hn]
  clear h hd hin hl hn hW1 b1 C1 H1 KC1 KPE HPR
  generalize (s : Int) = SI at *
  go_enter Try.func13, Try.ntmps13
  go_upto_region 1 with fail
  rw [HW1.out]
  clear HW1
  go_wp2_with fail
  refine HM.out.mono ?_
  rintro e w1 ⟨rfl, e9⟩
  rw [e9]
  clear e9
  go_upto_region 3 with fail
  refine wp_region_L 24 (fun _ => True) (fun V => V.heap[p]? = W1.heap[p]?) (by kernel_rfl) trivial rfl (fun hS0 => ?_)
  refine wpAnyL_take (i := 0) (oi := { dst := some 7, op := Op.move (Operand.tmp 0), type := 23, pos := "query.go:79", after := #[], guard := none }) (v := .pointer (some ⟨p, 0, none⟩)) rfl (by decide) (by kernel_rfl) (by kernel_rfl) (by kernel_rfl) (fun _ _ _ h => h) (Or.inl ⟨by rfl, fun w2 hSw => ?_⟩) hS0 (fun hS1 => ?_)
  · obtain ⟨r0, r1, r2, r3, r4⟩ := KC.out _ hSw
    go_simp
  simp only [Act.put, List.setIfInBounds_toArray, List.set_cons_zero, List.set_cons_succ]
  clear hS0
  refine wpAnyL_take (i := 1) (oi := { dst := some 8, op := Op.nilCheck (Operand.tmp 7), type := 0, pos := "query.go:79", after := #[{ on := 0, ground := Ground.data }], guard := none }) (v := .pointer (some ⟨p, 0, none⟩)) rfl (by decide) (by kernel_rfl) (by kernel_rfl) (by kernel_rfl) (fun _ _ _ h => h) (Or.inl ⟨by rfl, fun w2 hSw => ?_⟩) hS1 (fun hS2 => ?_)
  · obtain ⟨r0, r1, r2, r3, r4⟩ := KC.out _ hSw
    go_simp
  simp only [Act.put, List.setIfInBounds_toArray, List.set_cons_zero, List.set_cons_succ]
  clear hS1
  refine wpAnyL_take (i := 2) (oi := { dst := some 9, op := Op.fieldAddr 71 (Operand.tmp 8) 0, type := 0, pos := "query.go:79", after := #[{ on := 1, ground := Ground.data }], guard := none }) (v := .pointer (some ⟨p, 0, none⟩)) rfl (by decide) (by kernel_rfl) (by kernel_rfl) (by kernel_rfl) (fun _ _ _ h => h) (Or.inl ⟨by rfl, fun w2 hSw => ?_⟩) hS2 (fun hS3 => ?_)
  · obtain ⟨r0, r1, r2, r3, r4⟩ := KC.out _ hSw
    go_simp
  simp only [Act.put, List.setIfInBounds_toArray, List.set_cons_zero, List.set_cons_succ]
  clear hS2
  refine wpAnyL_take (i := 3) (oi := { dst := some 10, op := Op.load 28 (Operand.tmp 9), type := 28, pos := "query.go:79", after := #[{ on := 2, ground := Ground.data }], guard := none }) (v := .int .u64 SI) rfl (by decide) (by kernel_rfl) (by kernel_rfl) (by kernel_rfl) (fun _ _ _ h => h) (Or.inl ⟨by rfl, fun w2 hSw => ?_⟩) hS3 (fun hS4 => ?_)
  · obtain ⟨r0, r1, r2, r3, r4⟩ := KC.out _ hSw
    go_simp
  simp only [Act.put, List.setIfInBounds_toArray, List.set_cons_zero, List.set_cons_succ]
  clear hS3
  refine wpAnyL_take (i := 4) (oi := { dst := some 11, op := Op.move (Operand.tmp 0), type := 23, pos := "query.go:79", after := #[], guard := none }) (v := .pointer (some ⟨p, 0, none⟩)) rfl (by decide) (by kernel_rfl) (by kernel_rfl) (by kernel_rfl) (fun _ _ _ h => h) (Or.inl ⟨by rfl, fun w2 hSw => ?_⟩) hS4 (fun hS5 => ?_)
  · obtain ⟨r0, r1, r2, r3, r4⟩ := KC.out _ hSw
    go_simp
  simp only [Act.put, List.setIfInBounds_toArray, List.set_cons_zero, List.set_cons_succ]
  clear hS4
  refine wpAnyL_take (i := 5) (oi := { dst := some 12, op := Op.nilCheck (Operand.tmp 11), type := 0, pos := "query.go:79", after := #[{ on := 4, ground := Ground.data }], guard := none }) (v := .pointer (some ⟨p, 0, none⟩)) rfl (by decide) (by kernel_rfl) (by kernel_rfl) (by kernel_rfl) (fun _ _ _ h => h) (Or.inl ⟨by rfl, fun w2 hSw => ?_⟩) hS5 (fun hS6 => ?_)
  · obtain ⟨r0, r1, r2, r3, r4⟩ := KC.out _ hSw
    go_simp
  simp only [Act.put, List.setIfInBounds_toArray, List.set_cons_zero, List.set_cons_succ]
  clear hS5
  refine wpAnyL_take (i := 6) (oi := { dst := some 13, op := Op.fieldAddr 71 (Operand.tmp 12) 3, type := 0, pos := "query.go:79", after := #[{ on := 5, ground := Ground.data }], guard := none }) (v := .pointer (some ⟨p, 3, none⟩)) rfl (by decide) (by kernel_rfl) (by kernel_rfl) (by kernel_rfl) (fun _ _ _ h => h) (Or.inl ⟨by rfl, fun w2 hSw => ?_⟩) hS6 (fun hS7 => ?_)
  · obtain ⟨r0, r1, r2, r3, r4⟩ := KC.out _ hSw
    go_simp
  simp only [Act.put, List.setIfInBounds_toArray, List.set_cons_zero, List.set_cons_succ]
  clear hS6
  refine wpAnyL_take (i := 7) (oi := { dst := some 14, op := Op.fieldAddr 66 (Operand.tmp 13) 0, type := 0, pos := "query.go:79", after := #[{ on := 6, ground := Ground.data }], guard := none }) (v := .pointer (some ⟨p, 3, none⟩)) rfl (by decide) (by kernel_rfl) (by kernel_rfl) (by kernel_rfl) (fun _ _ _ h => h) (Or.inl ⟨by rfl, fun w2 hSw => ?_⟩) hS7 (fun hS8 => ?_)
  · obtain ⟨r0, r1, r2, r3, r4⟩ := KC.out _ hSw
    go_simp
  simp only [Act.put, List.setIfInBounds_toArray, List.set_cons_zero, List.set_cons_succ]
  clear hS7
  refine wpAnyL_take (i := 8) (oi := { dst := some 15, op := Op.load 28 (Operand.tmp 14), type := 28, pos := "query.go:79", after := #[{ on := 7, ground := Ground.data }], guard := none }) (v := .int .u64 1) rfl (by decide) (by kernel_rfl) (by kernel_rfl) (by kernel_rfl) (fun _ _ _ h => h) (Or.inl ⟨by rfl, fun w2 hSw => ?_⟩) hS8 (fun hS9 => ?_)
  · obtain ⟨r0, r1, r2, r3, r4⟩ := KC.out _ hSw
    go_simp
  simp only [Act.put, List.setIfInBounds_toArray, List.set_cons_zero, List.set_cons_succ]
  clear hS8
  refine wpAnyL_take (i := 9) (oi := { dst := some 16, op := Op.move (Operand.tmp 0), type := 23, pos := "query.go:79", after := #[], guard := none }) (v := .pointer (some ⟨p, 0, none⟩)) rfl (by decide) (by kernel_rfl) (by kernel_rfl) (by kernel_rfl) (fun _ _ _ h => h) (Or.inl ⟨by rfl, fun w2 hSw => ?_⟩) hS9 (fun hS10 => ?_)
  · obtain ⟨r0, r1, r2, r3, r4⟩ := KC.out _ hSw
    go_simp
  simp only [Act.put, List.setIfInBounds_toArray, List.set_cons_zero, List.set_cons_succ]
  clear hS9
  refine wpAnyL_take (i := 10) (oi := { dst := some 17, op := Op.nilCheck (Operand.tmp 16), type := 0, pos := "query.go:79", after := #[{ on := 9, ground := Ground.data }], guard := none }) (v := .pointer (some ⟨p, 0, none⟩)) rfl (by decide) (by kernel_rfl) (by kernel_rfl) (by kernel_rfl) (fun _ _ _ h => h) (Or.inl ⟨by rfl, fun w2 hSw => ?_⟩) hS10 (fun hS11 => ?_)
  · obtain ⟨r0, r1, r2, r3, r4⟩ := KC.out _ hSw
    go_simp
  simp only [Act.put, List.setIfInBounds_toArray, List.set_cons_zero, List.set_cons_succ]
  clear hS10
  refine wpAnyL_take (i := 11) (oi := { dst := some 18, op := Op.fieldAddr 71 (Operand.tmp 17) 1, type := 0, pos := "query.go:79", after := #[{ on := 10, ground := Ground.data }], guard := none }) (v := .pointer (some ⟨p, 1, none⟩)) rfl (by decide) (by kernel_rfl) (by kernel_rfl) (by kernel_rfl) (fun _ _ _ h => h) (Or.inl ⟨by rfl, fun w2 hSw => ?_⟩) hS11 (fun hS12 => ?_)
  · obtain ⟨r0, r1, r2, r3, r4⟩ := KC.out _ hSw
    go_simp
  simp only [Act.put, List.setIfInBounds_toArray, List.set_cons_zero, List.set_cons_succ]
  clear hS11
  refine wpAnyL_take (i := 12) (oi := { dst := some 19, op := Op.load 60 (Operand.tmp 18), type := 60, pos := "query.go:79", after := #[{ on := 11, ground := Ground.data }], guard := none }) (v := .map (some a)) rfl (by decide) (by kernel_rfl) (by kernel_rfl) (by kernel_rfl) (fun _ _ _ h => h) (Or.inl ⟨by rfl, fun w2 hSw => ?_⟩) hS12 (fun hS13 => ?_)
  · obtain ⟨r0, r1, r2, r3, r4⟩ := KC.out _ hSw
    go_simp
  simp only [Act.put, List.setIfInBounds_toArray, List.set_cons_zero, List.set_cons_succ]
  clear hS12
  refine wpAnyL_take (i := 14) (oi := { dst := some 21, op := Op.move (Operand.tmp 0), type := 23, pos := "query.go:79", after := #[], guard := none }) (v := .pointer (some ⟨p, 0, none⟩)) rfl (by decide) (by kernel_rfl) (by kernel_rfl) (by kernel_rfl) (fun _ _ _ h => h) (Or.inl ⟨by rfl, fun w2 hSw => ?_⟩) hS13 (fun hS14 => ?_)
  · obtain ⟨r0, r1, r2, r3, r4⟩ := KC.out _ hSw
    go_simp
  simp only [Act.put, List.setIfInBounds_toArray, List.set_cons_zero, List.set_cons_succ]
  clear hS13
  refine wpAnyL_take (i := 15) (oi := { dst := some 22, op := Op.nilCheck (Operand.tmp 21), type := 0, pos := "query.go:79", after := #[{ on := 14, ground := Ground.data }], guard := none }) (v := .pointer (some ⟨p, 0, none⟩)) rfl (by decide) (by kernel_rfl) (by kernel_rfl) (by kernel_rfl) (fun _ _ _ h => h) (Or.inl ⟨by rfl, fun w2 hSw => ?_⟩) hS14 (fun hS15 => ?_)
  · obtain ⟨r0, r1, r2, r3, r4⟩ := KC.out _ hSw
    go_simp
  simp only [Act.put, List.setIfInBounds_toArray, List.set_cons_zero, List.set_cons_succ]
  clear hS14
  refine wpAnyL_take (i := 16) (oi := { dst := some 23, op := Op.fieldAddr 71 (Operand.tmp 22) 2, type := 0, pos := "query.go:79", after := #[{ on := 15, ground := Ground.data }], guard := none }) (v := .pointer (some ⟨p, 2, none⟩)) rfl (by decide) (by kernel_rfl) (by kernel_rfl) (by kernel_rfl) (fun _ _ _ h => h) (Or.inl ⟨by rfl, fun w2 hSw => ?_⟩) hS15 (fun hS16 => ?_)
  · obtain ⟨r0, r1, r2, r3, r4⟩ := KC.out _ hSw
    go_simp
  simp only [Act.put, List.setIfInBounds_toArray, List.set_cons_zero, List.set_cons_succ]
  clear hS15
  refine wpAnyL_take (i := 17) (oi := { dst := some 24, op := Op.load 61 (Operand.tmp 23), type := 61, pos := "query.go:79", after := #[{ on := 16, ground := Ground.data }], guard := none }) (v := .map (some b)) rfl (by decide) (by kernel_rfl) (by kernel_rfl) (by kernel_rfl) (fun _ _ _ h => h) (Or.inl ⟨by rfl, fun w2 hSw => ?_⟩) hS16 (fun hS17 => ?_)
  · obtain ⟨r0, r1, r2, r3, r4⟩ := KC.out _ hSw
    go_simp
  simp only [Act.put, List.setIfInBounds_toArray, List.set_cons_zero, List.set_cons_succ]
  clear hS16
  refine wpAnyL_take (i := 19) (oi := { dst := some 26, op := Op.move (Operand.tmp 0), type := 23, pos := "query.go:79", after := #[], guard := none }) (v := .pointer (some ⟨p, 0, none⟩)) rfl (by decide) (by kernel_rfl) (by kernel_rfl) (by kernel_rfl) (fun _ _ _ h => h) (Or.inl ⟨by rfl, fun w2 hSw => ?_⟩) hS17 (fun hS18 => ?_)
  · obtain ⟨r0, r1, r2, r3, r4⟩ := KC.out _ hSw
    go_simp
  simp only [Act.put, List.setIfInBounds_toArray, List.set_cons_zero, List.set_cons_succ]
  clear hS17
  refine wpAnyL_take (i := 20) (oi := { dst := some 27, op := Op.nilCheck (Operand.tmp 26), type := 0, pos := "query.go:79", after := #[{ on := 19, ground := Ground.data }], guard := none }) (v := .pointer (some ⟨p, 0, none⟩)) rfl (by decide) (by kernel_rfl) (by kernel_rfl) (by kernel_rfl) (fun _ _ _ h => h) (Or.inl ⟨by rfl, fun w2 hSw => ?_⟩) hS18 (fun hS19 => ?_)
  · obtain ⟨r0, r1, r2, r3, r4⟩ := KC.out _ hSw
    go_simp
  simp only [Act.put, List.setIfInBounds_toArray, List.set_cons_zero, List.set_cons_succ]
  clear hS18
  refine wpAnyL_take (i := 21) (oi := { dst := some 28, op := Op.fieldAddr 71 (Operand.tmp 27) 3, type := 0, pos := "query.go:79", after := #[{ on := 20, ground := Ground.data }], guard := none }) (v := .pointer (some ⟨p, 3, none⟩)) rfl (by decide) (by kernel_rfl) (by kernel_rfl) (by kernel_rfl) (fun _ _ _ h => h) (Or.inl ⟨by rfl, fun w2 hSw => ?_⟩) hS19 (fun hS20 => ?_)
  · obtain ⟨r0, r1, r2, r3, r4⟩ := KC.out _ hSw
    go_simp
  simp only [Act.put, List.setIfInBounds_toArray, List.set_cons_zero, List.set_cons_succ]
  clear hS19
  refine wpAnyL_one (i := 13) (o := { dst := some 20, op := Op.call { callee := Callee.value (Operand.func 29), args := #[Operand.tmp 19], argTypes := #[60] }, type := 22, pos := "query.go:82", after := #[{ on := 12, ground := Ground.data }], guard := none }) (by kernel_rfl) rfl (fun K hK => ?_)
  clear hS20
  go_simp
  go_at_call 29
  refine (KR.out _ HY0).mono ?_
  rintro e V1 ⟨ao6, cap6, rfl, G6⟩
  have HY1 := KN1.out _ _ _ _ HY0 G6
  refine hK.out _ _ ⟨fun _ => trivial, HY1.out.2.1⟩ ?_
  clear hK K
  refine wpAnyL_one (i := 18) (o := { dst := some 25, op := Op.call { callee := Callee.value (Operand.func 30), args := #[Operand.tmp 24], argTypes := #[61] }, type := 30, pos := "query.go:83", after := #[{ on := 17, ground := Ground.data }, { on := 13, ground := Ground.chain }], guard := none }) (by kernel_rfl) rfl (fun K hK => ?_)
  go_simp
  go_at_call 30
  refine (KH.out _ HY1.out.1).mono ?_
  rintro e V2 ⟨rfl, rfl⟩
  refine hK.out _ _ ⟨fun _ => trivial, HY1.out.2.1⟩ ?_
  clear hK K
  refine wpAnyL_one (i := 22) (o := { dst := some 29, op := Op.call { callee := Callee.value (Operand.func 31), args := #[Operand.tmp 28], argTypes := #[66] }, type := 31, pos := "query.go:84", after := #[{ on := 21, ground := Ground.data }, { on := 18, ground := Ground.chain }], guard := none }) (by kernel_rfl) rfl (fun K hK => ?_)
  go_simp
  go_at_call 31
  refine (KJ.out _ HY1.out.1).mono ?_
  rintro e V3 ⟨rfl, rfl⟩
  refine hK.out _ _ ⟨fun _ => trivial, HY1.out.2.1⟩ ?_
  clear hK K
  refine wpAnyL_one (i := 23) (o := { dst := some 30, op := Op.build 55 #[(0, Operand.tmp 10), (1, Operand.tmp 15), (2, Operand.tmp 20), (3, Operand.tmp 25), (4, Operand.tmp 29)], type := 55, pos := "query.go:79", after := #[{ on := 3, ground := Ground.data }, { on := 8, ground := Ground.data }, { on := 13, ground := Ground.data }, { on := 18, ground := Ground.data }, { on := 22, ground := Ground.data }], guard := none }) (by kernel_rfl) rfl (fun K hK => ?_)
  go_simp
  refine hK.out _ _ ⟨fun _ => trivial, HY1.out.2.1⟩ ?_
  clear hK K
  obtain ⟨y0, y1, y2, y3, y4, yl, f0, f1, f2, f3, f4⟩ := KY.out _ HY1.out.1
  refine wpAnyL_one (i := 24) (o := { dst := none, op := Op.store 55 (Operand.tmp 2) (Operand.tmp 30), type := 0, pos := "query.go:79", after := #[{ on := 23, ground := Ground.data }, { on := 22, ground := Ground.chain }, { on := 0, ground := Ground.phase }, { on := 1, ground := Ground.phase }, { on := 2, ground := Ground.phase }, { on := 3, ground := Ground.phase }, { on := 4, ground := Ground.phase }, { on := 5, ground := Ground.phase }, { on := 6, ground := Ground.phase }, { on := 7, ground := Ground.phase }, { on := 8, ground := Ground.phase }, { on := 9, ground := Ground.phase }, { on := 10, ground := Ground.phase }, { on := 11, ground := Ground.phase }, { on := 12, ground := Ground.phase }, { on := 13, ground := Ground.phase }, { on := 14, ground := Ground.phase }, { on := 15, ground := Ground.phase }, { on := 16, ground := Ground.phase }, { on := 17, ground := Ground.phase }, { on := 18, ground := Ground.phase }, { on := 19, ground := Ground.phase }, { on := 20, ground := Ground.phase }, { on := 21, ground := Ground.phase }, { on := 22, ground := Ground.phase }, { on := 23, ground := Ground.phase }], guard := none }) (by kernel_rfl) rfl (fun K hK => ?_)
  go_simp
  refine hK.out _ _ ⟨fun _ => trivial, KZ.out _ _ _ _ _ _ HY1.out.2.1⟩ ?_
  clear hK K
  refine wpAnyL_done (by kernel_rfl) ?_ _
  have HEN := hide (KE.out _ _ _ (.int .u64 SI) (.int .u64 1) (.slice ao6 n cap6) (.slice none 0 0) (.slice none 0 0) HY1)
  clear KC KR KH KJ KN1 KY KZ KE HY0 HM
  go_wp2
  refine bodyPost_ret (v := .agg #[.int .u64 SI, .int .u64 1, .slice ao6 n cap6, .slice none 0 0, .slice none 0 0]) (by simp [results, Try.results13, go_sem, y0, y1, y2, y3, y4]) rfl ⟨ao6, cap6, rfl, HEN.out⟩
set_option maxRecDepth 10000 in
set_option maxHeartbeats 1600000 in
theorem nextA {w : World} {p : Nat} (c4 : w.cell? ⟨p, 4, none⟩ = some (.int .u64 1)) (c5 : w.cell? ⟨p, 5, none⟩ = some (.slice none 0 0)) :
    Calls Try.prog 35 #[.pointer (some ⟨p, 0, none⟩)] w fun e w' => e = .returned (.int .u64 1) ∧ Hid (Below w.heap.size w w') := by
  have HD : Hid (∀ q, Below w.heap.size w (w.drewN q)) := fun q => below_dA (Below.refl _ _) q
  go_enter Try.func35, Try.ntmps35
  go_wp2_with fail
  go_quiet (fail)
  go_wp2
  go_ret
  exact ⟨rfl, HD.out _⟩
set_option maxRecDepth 10000 in
set_option maxHeartbeats 8000000 in
theorem rimageA {w : World} {p B : Nat} {l : List Ac} {s : Nat} (h : Bk w p B (srt l) s) (hin : ∀ x ∈ srt l, x.In) (hm : (srt l).length ≤ 64) :
    Calls Try.prog 15 #[.pointer (some ⟨p, 0, none⟩)] w fun e w' => ∃ ao cap, e = .returned (.agg #[.int .u64 (s : Nat), .int .u64 1, .slice ao (srt l).length cap, .slice none 0 0, .slice none 0 0]) ∧ Hid (w'.ownsRow w.heap.size 37 4 (.slice ao (srt l).length cap) (srt l).length (acells (srt l)) ∧ Below w.heap.size w w') := by
  obtain ⟨mm, hmm⟩ : ∃ mm, (srt l).length = mm := ⟨_, rfl⟩
  obtain ⟨W1, hW1⟩ : ∃ W1, w.alloc (.cells #[.int .u64 0, .int .u64 0, .slice none 0 0, .slice none 0 0, .slice none 0 0] 55) = W1 := ⟨_, rfl⟩
  have b1 : Below w.heap.size w W1 := by rw [← hW1]; exact (Below.refl _ w).alloc (Nat.le_refl _) _
  have C1 : Hid (W1.heap[w.heap.size]? = some (.cells #[.int .u64 0, .int .u64 0, .slice none 0 0, .slice none 0 0, .slice none 0 0] 55 (0, 0))) := by rw [← hW1]; exact alloc_atK _ _
  have H1 := hide (h.kept b1)
  have HNW := hide (nowA H1.out hin hm)
  rw [hmm] at HNW ⊢
  have HB1 := hide b1
  have HW1 := hide hW1
  have HPW : Hid (p < w.heap.size) := by
    obtain ⟨_, _, hb, _⟩ := h.v
    exact block_lt hb
  have HMM := hide hmm
  clear h hin hm hW1 b1 hmm
  go_enter Try.func15, Try.ntmps15
  go_upto_region 1 with fail
  rw [HW1.out]
  clear HW1
  go_wp2_with fail
  refine HNW.out.mono ?_
  rintro e w2 ⟨ao', cap', rfl, G2⟩
  obtain ⟨W3, hW3⟩ : ∃ W3, w2.alloc (.cells #[.slice ao' mm cap', .slice none 0 0] 91) = W3 := ⟨_, rfl⟩
  have b3 : Below w2.heap.size w2 W3 := by rw [← hW3]; exact (Below.refl _ _).alloc (Nat.le_refl _) _
  have b13 : Below W1.heap.size W1 W3 := G2.out.2.trans (b3.mono G2.out.2.size)
  have C3 : Hid (W3.heap[w2.heap.size]? = some (.cells #[.slice ao' mm cap', .slice none 0 0] 91 (0, 0))) := by rw [← hW3]; exact alloc_atK _ _
  have HRW : Hid (W3.ownsRow w.heap.size 37 4 (.slice ao' mm cap') mm (acells (srt l))) := hide (row_lower (row_quietT G2.out.1 (below_none b3)) HB1.out.size)
  have H3 := hide (H1.out.kept b13)
  have C13 := hide ((b13.block _ (block_lt C1.out)).trans C1.out)
  have HBW := hide (HB1.out.trans (b13.mono HB1.out.size))
  have HNB : Hid (w.heap.size < w2.heap.size) := hide (by have := block_lt C1.out; have := G2.out.2.size; omega)
  have HW3 := hide hW3
  clear hW3 b3 b13 G2 HNW H1 C1 HB1
  go_upto_region 2 with fail
  rw [HW3.out]
  clear HW3
  generalize w2.heap.size = nb at *
  obtain ⟨ao9, cap9, hbk, -⟩ := H3.out.v
  have HBK := hide hbk
  have q2 := block_cell hbk 2
  have q5 := block_cell hbk 5
  have ql := block_lt hbk
  simp at q2 q5
  clear hbk
  go_wp2
  go_loopw [4, 5] (fun v i wq => v = .slice none 0 0 ∧ i = .int .i64 0 ∧ Hid (wq = W3)) (fun _ _ _ => 0)
  case atStart => exact ⟨rfl, rfl, rfl⟩
  case round =>
    obtain ⟨rfl, rfl, HW⟩ := hrel
    have e9 := HW.out
    rw [e9]
    clear e9 HW
    go_wp2
    go_loopw [4, 6] (fun v i wq => v = .slice none 0 0 ∧ i = .int .i64 0 ∧ Hid (wq = W3)) (fun _ _ _ => 0)
    case atStart => exact ⟨rfl, rfl, rfl⟩
    case round =>
      obtain ⟨rfl, rfl, HW⟩ := hrel
      have e9 := HW.out
      rw [e9]
      clear e9 HW
      have HY0 : Hid (Below W3.heap.size W3 W3.drew) := hide ((Below.refl _ W3).drew)
      have KC : Hid (∀ V : World, V.heap[p]? = W3.heap[p]? ∧ V.heap[nb]? = W3.heap[nb]? → V.cell? ⟨p, 3, none⟩ = some (.int .u64 (s : Int)) ∧ p < V.heap.size ∧ V.cell? ⟨nb, 0, none⟩ = some (.slice ao' mm cap') ∧ V.cell? ⟨nb, 1, none⟩ = some (.slice none 0 0) ∧ nb < V.heap.size) := fun V hV => by
        have h1 := hV.1.trans HBK.out
        have h2 := hV.2.trans C3.out
        exact ⟨block_cell h1 3, block_lt h1, block_cell h2 0, block_cell h2 1, block_lt h2⟩
      have KNX : Hid (∀ V, Hid (Below W3.heap.size W3 V) → Calls Try.prog 35 #[.pointer (some ⟨p, 0, none⟩)] V fun e w' => e = .returned (.int .u64 1) ∧ Hid (Below V.heap.size V w')) := fun V hV => by
        have h1 := (hV.out.block _ (block_lt HBK.out)).trans HBK.out
        exact nextA (block_cell h1 4) (block_cell h1 5)
      have KN1 : Hid (∀ V V1 : World, Hid (Below W3.heap.size W3 V) → Hid (Below V.heap.size V V1) → Hid (Hid (Below W3.heap.size W3 V1) ∧ V1.heap[p]? = W3.heap[p]? ∧ V1.heap[nb]? = W3.heap[nb]?)) := fun V V1 hV h1 => by
        have hb := hV.out.trans (h1.out.mono hV.out.size)
        exact ⟨hb, hb.block _ (block_lt HBK.out), hb.block _ (block_lt C3.out)⟩
      have KC1 : Hid (∀ V, Hid (Below W3.heap.size W3 V) → V.heap[w.heap.size]? = some (.cells #[.int .u64 0, .int .u64 0, .slice none 0 0, .slice none 0 0, .slice none 0 0] 55 (0, 0))) := fun V hV => (hV.out.block _ (block_lt C13.out)).trans C13.out
      have KY : Hid (∀ V, Hid (Below W3.heap.size W3 V) → V.cell? ⟨w.heap.size, 0, none⟩ = some (.int .u64 0) ∧ V.cell? ⟨w.heap.size, 1, none⟩ = some (.int .u64 0) ∧ V.cell? ⟨w.heap.size, 2, none⟩ = some (.slice none 0 0) ∧ V.cell? ⟨w.heap.size, 3, none⟩ = some (.slice none 0 0) ∧ V.cell? ⟨w.heap.size, 4, none⟩ = some (.slice none 0 0) ∧ w.heap.size < V.heap.size ∧ V.frozen? ⟨w.heap.size, 0, none⟩ = false ∧ V.frozen? ⟨w.heap.size, 1, none⟩ = false ∧ V.frozen? ⟨w.heap.size, 2, none⟩ = false ∧ V.frozen? ⟨w.heap.size, 3, none⟩ = false ∧ V.frozen? ⟨w.heap.size, 4, none⟩ = false) := fun V hV => by
        have hc := KC1.out V hV
        exact ⟨block_cell hc 0, block_cell hc 1, block_cell hc 2, block_cell hc 3, block_cell hc 4, block_lt hc, block_free hc 0, block_free hc 1, block_free hc 2, block_free hc 3, block_free hc 4⟩
      have KZ : Hid (∀ (V : World) (u0 u1 u2 u3 u4 : Value), V.heap[p]? = W3.heap[p]? ∧ V.heap[nb]? = W3.heap[nb]? → (set5 V w.heap.size u0 u1 u2 u3 u4).heap[p]? = W3.heap[p]? ∧ (set5 V w.heap.size u0 u1 u2 u3 u4).heap[nb]? = W3.heap[nb]?) := fun V u0 u1 u2 u3 u4 hV => by
        have hg := set5_g V w.heap.size u0 u1 u2 u3 u4
        have hc := KC.out V hV
        exact ⟨(hg.block p hc.2.1 (fun e => by have := Option.some.inj e; have := HPW.out; omega)).trans hV.1, (hg.block nb hc.2.2.2.2 (fun e => by have := Option.some.inj e; have := HNB.out; omega)).trans hV.2⟩
      have KE : Hid (∀ (V : World) (u0 u1 u2 u3 u4 : Value), Hid (Hid (Below W3.heap.size W3 V) ∧ V.heap[p]? = W3.heap[p]? ∧ V.heap[nb]? = W3.heap[nb]?) → Hid ((set5 V w.heap.size u0 u1 u2 u3 u4).ownsRow w.heap.size 37 4 (.slice ao' mm cap') mm (acells (srt l)) ∧ Below w.heap.size w (set5 V w.heap.size u0 u1 u2 u3 u4))) := fun V u0 u1 u2 u3 u4 hV => by
        have hg := set5_g V w.heap.size u0 u1 u2 u3 u4
        have hb := HBW.out.trans (hV.out.1.out.mono HBW.out.size)
        have hr := row_quietT HRW.out (below_none hV.out.1.out)
        exact ⟨hr.kept hg (.inr (row_ne_cells hr (KC1.out V hV.out.1) (by decide))), hb.grown hg hb.size (fun j e => by cases e; exact Nat.le_refl _)⟩
      unfold set5 at KZ KE
      clear KC1 HBK HRW HBW HNB HPW C13 C3 H3 HMM
      obtain ⟨SI, hSI⟩ : ∃ SI : Int, (s : Int) = SI := ⟨_, rfl⟩
      rw [hSI] at KC
      have HSI := hide hSI
      clear hSI
      go_upto_region 13 with fail
      clear q2 q5 ql
      refine wp_region_L 12 (fun _ => True) (fun V => V.heap[p]? = W3.heap[p]? ∧ V.heap[nb]? = W3.heap[nb]?) (by kernel_rfl) trivial ⟨rfl, rfl⟩ (fun hS0 => ?_)
      refine wpAnyL_take (i := 0) (oi := { dst := some 56, op := Op.move (Operand.tmp 0), type := 24, pos := "ledger.go:449", after := #[], guard := none }) (v := .pointer (some ⟨p, 0, none⟩)) rfl (by decide) (by kernel_rfl) (by kernel_rfl) (by kernel_rfl) (fun _ _ _ h => h) (Or.inl ⟨by rfl, fun w2 hSw => ?_⟩) hS0 (fun hS1 => ?_)
      · obtain ⟨r0, r1, r2, r3, r4⟩ := KC.out _ hSw
        go_simp
      simp only [Act.put, List.setIfInBounds_toArray, List.set_cons_zero, List.set_cons_succ]
      clear hS0
      refine wpAnyL_take (i := 1) (oi := { dst := some 57, op := Op.nilCheck (Operand.tmp 56), type := 0, pos := "ledger.go:449", after := #[{ on := 0, ground := Ground.data }], guard := none }) (v := .pointer (some ⟨p, 0, none⟩)) rfl (by decide) (by kernel_rfl) (by kernel_rfl) (by kernel_rfl) (fun _ _ _ h => h) (Or.inl ⟨by rfl, fun w2 hSw => ?_⟩) hS1 (fun hS2 => ?_)
      · obtain ⟨r0, r1, r2, r3, r4⟩ := KC.out _ hSw
        go_simp
      simp only [Act.put, List.setIfInBounds_toArray, List.set_cons_zero, List.set_cons_succ]
      clear hS1
      refine wpAnyL_take (i := 2) (oi := { dst := some 58, op := Op.fieldAddr 35 (Operand.tmp 57) 3, type := 0, pos := "ledger.go:449", after := #[{ on := 1, ground := Ground.data }], guard := none }) (v := .pointer (some ⟨p, 3, none⟩)) rfl (by decide) (by kernel_rfl) (by kernel_rfl) (by kernel_rfl) (fun _ _ _ h => h) (Or.inl ⟨by rfl, fun w2 hSw => ?_⟩) hS2 (fun hS3 => ?_)
      · obtain ⟨r0, r1, r2, r3, r4⟩ := KC.out _ hSw
        go_simp
      simp only [Act.put, List.setIfInBounds_toArray, List.set_cons_zero, List.set_cons_succ]
      clear hS2
      refine wpAnyL_take (i := 3) (oi := { dst := some 59, op := Op.load 28 (Operand.tmp 58), type := 28, pos := "ledger.go:449", after := #[{ on := 2, ground := Ground.data }], guard := none }) (v := .int .u64 SI) rfl (by decide) (by kernel_rfl) (by kernel_rfl) (by kernel_rfl) (fun _ _ _ h => h) (Or.inl ⟨by rfl, fun w2 hSw => ?_⟩) hS3 (fun hS4 => ?_)
      · obtain ⟨r0, r1, r2, r3, r4⟩ := KC.out _ hSw
        go_simp
      simp only [Act.put, List.setIfInBounds_toArray, List.set_cons_zero, List.set_cons_succ]
      clear hS3
      refine wpAnyL_take (i := 4) (oi := { dst := some 60, op := Op.move (Operand.tmp 0), type := 24, pos := "ledger.go:449", after := #[], guard := none }) (v := .pointer (some ⟨p, 0, none⟩)) rfl (by decide) (by kernel_rfl) (by kernel_rfl) (by kernel_rfl) (fun _ _ _ h => h) (Or.inl ⟨by rfl, fun w2 hSw => ?_⟩) hS4 (fun hS5 => ?_)
      · obtain ⟨r0, r1, r2, r3, r4⟩ := KC.out _ hSw
        go_simp
      simp only [Act.put, List.setIfInBounds_toArray, List.set_cons_zero, List.set_cons_succ]
      clear hS4
      refine wpAnyL_take (i := 6) (oi := { dst := some 62, op := Op.fieldAddr 91 (Operand.tmp 3) 0, type := 0, pos := "ledger.go:449", after := #[], guard := none }) (v := .pointer (some ⟨nb, 0, none⟩)) rfl (by decide) (by kernel_rfl) (by kernel_rfl) (by kernel_rfl) (fun _ _ _ h => h) (Or.inl ⟨by rfl, fun w2 hSw => ?_⟩) hS5 (fun hS6 => ?_)
      · obtain ⟨r0, r1, r2, r3, r4⟩ := KC.out _ hSw
        go_simp
      simp only [Act.put, List.setIfInBounds_toArray, List.set_cons_zero, List.set_cons_succ]
      clear hS5
      refine wpAnyL_take (i := 7) (oi := { dst := some 63, op := Op.load 22 (Operand.tmp 62), type := 22, pos := "ledger.go:449", after := #[{ on := 6, ground := Ground.data }], guard := none }) (v := .slice ao' mm cap') rfl (by decide) (by kernel_rfl) (by kernel_rfl) (by kernel_rfl) (fun _ _ _ h => h) (Or.inl ⟨by rfl, fun w2 hSw => ?_⟩) hS6 (fun hS7 => ?_)
      · obtain ⟨r0, r1, r2, r3, r4⟩ := KC.out _ hSw
        go_simp
      simp only [Act.put, List.setIfInBounds_toArray, List.set_cons_zero, List.set_cons_succ]
      clear hS6
      refine wpAnyL_take (i := 8) (oi := { dst := some 64, op := Op.fieldAddr 91 (Operand.tmp 3) 1, type := 0, pos := "ledger.go:449", after := #[], guard := none }) (v := .pointer (some ⟨nb, 1, none⟩)) rfl (by decide) (by kernel_rfl) (by kernel_rfl) (by kernel_rfl) (fun _ _ _ h => h) (Or.inl ⟨by rfl, fun w2 hSw => ?_⟩) hS7 (fun hS8 => ?_)
      · obtain ⟨r0, r1, r2, r3, r4⟩ := KC.out _ hSw
        go_simp
      simp only [Act.put, List.setIfInBounds_toArray, List.set_cons_zero, List.set_cons_succ]
      clear hS7
      refine wpAnyL_take (i := 9) (oi := { dst := some 65, op := Op.load 30 (Operand.tmp 64), type := 30, pos := "ledger.go:449", after := #[{ on := 8, ground := Ground.data }], guard := none }) (v := .slice none 0 0) rfl (by decide) (by kernel_rfl) (by kernel_rfl) (by kernel_rfl) (fun _ _ _ h => h) (Or.inl ⟨by rfl, fun w2 hSw => ?_⟩) hS8 (fun hS9 => ?_)
      · obtain ⟨r0, r1, r2, r3, r4⟩ := KC.out _ hSw
        go_simp
      simp only [Act.put, List.setIfInBounds_toArray, List.set_cons_zero, List.set_cons_succ]
      clear hS8
      refine wpAnyL_take (i := 10) (oi := { dst := some 66, op := Op.move (Operand.tmp 4), type := 31, pos := "ledger.go:449", after := #[], guard := none }) (v := .slice none 0 0) rfl (by decide) (by kernel_rfl) (by kernel_rfl) (by kernel_rfl) (fun _ _ _ h => h) (Or.inl ⟨by rfl, fun w2 hSw => ?_⟩) hS9 (fun hS10 => ?_)
      · obtain ⟨r0, r1, r2, r3, r4⟩ := KC.out _ hSw
        go_simp
      simp only [Act.put, List.setIfInBounds_toArray, List.set_cons_zero, List.set_cons_succ]
      clear hS9
      refine wpAnyL_one (i := 5) (o := { dst := some 61, op := Op.call { callee := Callee.value (Operand.func 35), args := #[Operand.tmp 60], argTypes := #[24] }, type := 28, pos := "ledger.go:449", after := #[{ on := 4, ground := Ground.data }], guard := none }) (by kernel_rfl) rfl (fun K hK => ?_)
      clear hS10
      go_simp
      go_at_call 35
      refine (KNX.out _ HY0).mono ?_
      rintro e V1 ⟨rfl, G6⟩
      have HY1 := KN1.out _ _ HY0 G6
      refine hK.out _ _ ⟨fun _ => trivial, HY1.out.2⟩ ?_
      clear hK K
      refine wpAnyL_one (i := 11) (o := { dst := some 67, op := Op.build 55 #[(0, Operand.tmp 59), (1, Operand.tmp 61), (2, Operand.tmp 63), (3, Operand.tmp 65), (4, Operand.tmp 66)], type := 55, pos := "ledger.go:449", after := #[{ on := 3, ground := Ground.data }, { on := 5, ground := Ground.data }, { on := 7, ground := Ground.data }, { on := 9, ground := Ground.data }, { on := 10, ground := Ground.data }], guard := none }) (by kernel_rfl) rfl (fun K hK => ?_)
      go_simp
      refine hK.out _ _ ⟨fun _ => trivial, HY1.out.2⟩ ?_
      clear hK K
      obtain ⟨y0, y1, y2, y3, y4, yl, f0, f1, f2, f3, f4⟩ := KY.out _ HY1.out.1
      refine wpAnyL_one (i := 12) (o := { dst := none, op := Op.store 55 (Operand.tmp 2) (Operand.tmp 67), type := 0, pos := "ledger.go:449", after := #[{ on := 11, ground := Ground.data }, { on := 5, ground := Ground.chain }, { on := 0, ground := Ground.phase }, { on := 1, ground := Ground.phase }, { on := 2, ground := Ground.phase }, { on := 3, ground := Ground.phase }, { on := 4, ground := Ground.phase }, { on := 5, ground := Ground.phase }, { on := 6, ground := Ground.phase }, { on := 7, ground := Ground.phase }, { on := 8, ground := Ground.phase }, { on := 9, ground := Ground.phase }, { on := 10, ground := Ground.phase }, { on := 11, ground := Ground.phase }], guard := none }) (by kernel_rfl) rfl (fun K hK => ?_)
      go_simp
      refine hK.out _ _ ⟨fun _ => trivial, KZ.out _ _ _ _ _ _ HY1.out.2⟩ ?_
      clear hK K
      refine wpAnyL_done (by kernel_rfl) ?_ _
      have HEN := hide (KE.out _ (.int .u64 SI) (.int .u64 1) (.slice ao' mm cap') (.slice none 0 0) (.slice none 0 0) HY1)
      clear KC KNX KN1 KY KZ KE HY0
      go_wp2
      refine bodyPost_ret (v := .agg #[.int .u64 SI, .int .u64 1, .slice ao' mm cap', .slice none 0 0, .slice none 0 0]) (by simp [results, Try.results15, go_sem, y0, y1, y2, y3, y4]) rfl ⟨ao', cap', by rw [HSI.out], HEN.out⟩
end Go.Proofs.Ytmbclemicfffoaa
