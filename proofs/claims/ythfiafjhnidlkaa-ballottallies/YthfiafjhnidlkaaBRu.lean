import Derived.Test.YthfiafjhnidlkaaBRt
namespace Go.Proofs.Ythfiafjhnidlkaa
open Go.RowKit

/-- Who has spoken for a key. -/
def frOf (L : List Kr) (n num : Nat) (node : Int) : Nat := match L.find? (fun r => r.is n num node) with
  | some r => r.fr
  | none => 0
/-- No key is there twice. -/
def Apart (L : List Kr) : Prop := ∀ (i j : Nat) (x y : Kr) (n num : Nat) (node : Int), L[i]? = some x → L[j]? = some y → x.is n num node = true → y.is n num node = true → i = j
theorem frOf_at {L : List Kr} {n num : Nat} {node : Int} {i : Nat} {r : Kr} (ha : Apart L) (hi : L[i]? = some r) (hr : r.is n num node = true) : frOf L n num node = r.fr := by
  unfold frOf
  cases hf : L.find? (fun r => r.is n num node) with
  | none =>
    have := List.find?_eq_none.1 hf r (List.mem_of_getElem? hi)
    simp [hr] at this
  | some x =>
    have h1 : x.is n num node = true := List.find?_some (p := fun r : Kr => r.is n num node) hf
    obtain ⟨j, hj⟩ := List.getElem?_of_mem (List.mem_of_find?_eq_some hf)
    have e := ha i j r x n num node hi hj hr h1
    subst e
    rw [hi] at hj
    cases hj
    rfl
theorem frOf_no {L : List Kr} {n num : Nat} {node : Int} (h : ∀ r ∈ L, r.is n num node = false) : frOf L n num node = 0 := by
  unfold frOf
  rw [List.find?_eq_none.2 (fun r hr => by simp [h r hr])]
set_option maxRecDepth 10000 in
set_option maxHeartbeats 800000 in
theorem rlen {w : World} {pr h B : Nat} {c : Cf} {v : Value} {L : List Kr} (r : RT w pr h B c v L) : Calls Try.prog 41 #[.pointer (some ⟨pr, 0, none⟩)] w fun e w' => e = .returned (.int .i64 (L.length : Nat)) ∧ w' = w := by
  have q1 := block_cell r.blk 1
  have q2 := block_lt r.blk
  simp at q1
  obtain ⟨ao, cap, hv⟩ := r.list
  subst hv
  clear r
  go_enter Try.func41, Try.ntmps41
  go_wp2
  go_ret
  exact ⟨rfl, rfl⟩
set_option maxRecDepth 10000 in
set_option maxHeartbeats 1600000 in
theorem rnodes {w : World} {pr h B : Nat} {c : Cf} {v : Value} {L : List Kr} (r : RT w pr h B c v L) (hL : L.length ≤ 64) (ha : Apart L) (n num : Nat) (node : Int) :
    Calls Try.prog 38 #[.pointer (some ⟨pr, 0, none⟩), .int .u64 (n : Int), .agg #[.int .u64 (num : Int), .int .i64 node]] w fun e w' => e = .returned (.int .u32 ((frOf L n num node : Nat) : Int)) ∧ Below w.heap.size w w' := by
  obtain ⟨W1, hW1⟩ : ∃ W1, w.alloc (.cells #[.int .u64 (num : Int), .int .i64 node] 36) = W1 := ⟨_, rfl⟩
  have b1 : Below w.heap.size w W1 := by rw [← hW1]; exact (Below.refl _ w).alloc (Nat.le_refl _) _
  have C1 : Hid (W1.heap[w.heap.size]? = some (.cells #[.int .u64 (num : Int), .int .i64 node] 36 (0, 0))) := by rw [← hW1]; exact alloc_atK _ _
  have HW1 := hide hW1
  have B1 := hide b1
  have R1 := hide (r.kept b1)
  have x0 : W1.cell? ⟨w.heap.size, 0, none⟩ = some (.int .u64 (num : Int)) := block_cell C1.out 0
  have x1 : W1.cell? ⟨w.heap.size, 1, none⟩ = some (.int .i64 node) := block_cell C1.out 1
  have hl1 := block_lt C1.out
  have HF := hide (rfind R1.out hL n num node)
  have HA := hide ha
  clear r b1 hW1 ha
  go_enter Try.func38, Try.ntmps38
  go_upto_region 1 with fail
  rw [HW1.out]
  clear HW1
  go_wp2_with fail
  refine HF.out.mono ?_
  rintro e w2 ⟨z, rfl, G2⟩
  have B2 := hide (B1.out.trans (G2.out.2.mono B1.out.size))
  have R2 := hide (R1.out.kept G2.out.2)
  rcases G2.out.1 with ⟨i, x, hi, hx, rfl⟩ | ⟨hno, rfl⟩
  · obtain ⟨a, u, d, f, g, cap', hx', hvv, hgl, y0, y1, y2, y3⟩ := R2.out.get (i := i) (List.getElem?_eq_some_iff.1 hi).1
    have e1 : frOf L n num node = f := by
      rw [frOf_at HA.out hi hx]
      rw [hx'] at hi
      cases hi
      rfl
    have hil := (List.getElem?_eq_some_iff.1 hi).1
    have E1 := hide e1
    have q1 := block_cell R2.out.blk 1
    have q2 := block_lt R2.out.blk
    simp at q1
    rw [hvv] at q1
    clear hx' hi hx x0 x1 hl1 e1 G2
    go_wp2
    go_ret
    exact ⟨by rw [E1.out]; rfl, B2.out⟩
  · have E1 := hide (frOf_no hno)
    clear x0 x1 hl1 G2 hno
    go_wp2
    go_ret
    exact ⟨by rw [E1.out]; rfl, B2.out⟩
set_option maxRecDepth 10000 in
set_option maxHeartbeats 1600000 in
theorem rreached {w : World} {pr h B : Nat} {c : Cf} {v : Value} {L : List Kr} (r : RT w pr h B c v L) (hL : L.length ≤ 64) (ha : Apart L) (n num : Nat) (node : Int) (hfr : frOf L n num node < 4294967296) :
    Calls Try.prog 62 #[.pointer (some ⟨pr, 0, none⟩), .int .u64 (n : Int), .agg #[.int .u64 (num : Int), .int .i64 node]] w fun e w' => e = .returned (.bool (c.maj (frOf L n num node))) ∧ Below w.heap.size w w' := by
  obtain ⟨W1, hW1⟩ : ∃ W1, w.alloc (.cells #[.int .u64 (num : Int), .int .i64 node] 36) = W1 := ⟨_, rfl⟩
  have b1 : Below w.heap.size w W1 := by rw [← hW1]; exact (Below.refl _ w).alloc (Nat.le_refl _) _
  have C1 : Hid (W1.heap[w.heap.size]? = some (.cells #[.int .u64 (num : Int), .int .i64 node] 36 (0, 0))) := by rw [← hW1]; exact alloc_atK _ _
  have HW1 := hide hW1
  have B1 := hide b1
  have R1 := hide (r.kept b1)
  have x0 : W1.cell? ⟨w.heap.size, 0, none⟩ = some (.int .u64 (num : Int)) := block_cell C1.out 0
  have x1 : W1.cell? ⟨w.heap.size, 1, none⟩ = some (.int .i64 node) := block_cell C1.out 1
  have hl1 := block_lt C1.out
  have KC : Hid (∀ V, Hid (Below W1.heap.size W1 V) → V.cell? ⟨pr, 0, none⟩ = some (.pointer (some ⟨h, 0, none⟩)) ∧ pr < V.heap.size ∧ V.cell? ⟨w.heap.size, 0, none⟩ = some (.int .u64 (num : Int)) ∧ V.cell? ⟨w.heap.size, 1, none⟩ = some (.int .i64 node) ∧ w.heap.size < V.heap.size) := fun V hV => by
    have c1 := (hV.out.block _ (block_lt C1.out)).trans C1.out
    have r1 := R1.out.kept hV.out
    exact ⟨block_cell r1.blk 0, block_lt r1.blk, block_cell c1 0, block_cell c1 1, block_lt c1⟩
  have KN : Hid (∀ V, Hid (Below W1.heap.size W1 V) → Calls Try.prog 38 #[.pointer (some ⟨pr, 0, none⟩), .int .u64 (n : Int), .agg #[.int .u64 (num : Int), .int .i64 node]] V fun e V' => e = .returned (.int .u32 ((frOf L n num node : Nat) : Int)) ∧ Below V.heap.size V V') := fun V hV => rnodes (R1.out.kept hV.out) hL ha n num node
  have KM : Hid (∀ V, Hid (Below W1.heap.size W1 V) → Calls Try.prog 26 #[.pointer (some ⟨h, 0, none⟩), .int .u32 ((frOf L n num node : Nat) : Int)] V fun e V' => e = .returned (.bool (c.maj (frOf L n num node))) ∧ V' = V) := fun V hV => refMajority _ hfr (R1.out.kept hV.out).grp
  have HD1 : Hid (Below W1.heap.size W1 W1) := Below.refl _ _
  have HD : Hid (∀ V, Hid (Below W1.heap.size W1 V) → Hid (Below W1.heap.size W1 V.drew)) := fun V h => h.out.drew
  have KK : Hid (∀ V V', Hid (Below W1.heap.size W1 V) → Below V.heap.size V V' → Hid (Below W1.heap.size W1 V')) := fun V V' h h' => h.out.trans (h'.mono h.out.size)
  clear r b1 hW1 ha x0 x1 hl1 hfr
  generalize c.maj (frOf L n num node) = z at *
  generalize ((frOf L n num node : Nat) : Int) = x at *
  generalize (n : Int) = nn at *
  generalize (num : Int) = nu at *
  go_enter Try.func62, Try.ntmps62
  go_upto_region 1 with fail
  rw [HW1.out]
  clear HW1
  refine region_assign (fun V => Hid (Below W1.heap.size W1 V)) [(7, .pointer (some ⟨pr, 0, none⟩)), (8, .pointer (some ⟨pr, 0, none⟩)), (9, .pointer (some ⟨pr, 0, none⟩)), (10, .pointer (some ⟨h, 0, none⟩)), (11, .pointer (some ⟨pr, 0, none⟩)), (12, .int .u64 nn), (13, .agg #[.int .u64 nu, .int .i64 node]), (14, .int .u32 x), (15, .bool z), (6, .bool z)] _ (by kernel_rfl) (by kernel_rfl) (by kernel_rfl) (by kernel_rfl) rfl (HD.out _ HD1) ?_ (fun V1 HV1 => ?_)
  · simp only [putAll, Act.put, List.setIfInBounds_toArray, List.set_cons_zero, List.set_cons_succ]
    repeat' (first | exact AllTo.nil | refine AllTo.cons ?_ ?_)
    all_goals first
      | exact stepTo_no (by rfl) rfl
      | (refine stepTo_yes (by rfl) (fun V hV K hK => ?_)
         have q0 := KC.out V hV
         go_simp
         first
           | exact hK.out _ hV
           | (go_at_call 38; refine (KN.out V hV).mono ?_; rintro e V' ⟨rfl, hV'⟩; exact hK.out _ (KK.out _ _ hV hV'))
           | (go_at_call 26; refine (KM.out V hV).mono ?_; rintro e V' ⟨rfl, hV'⟩; subst hV'; exact hK.out _ hV))
  simp only [putAll, Act.put, List.setIfInBounds_toArray, List.set_cons_zero, List.set_cons_succ]
  go_wp2
  go_ret
  exact ⟨rfl, B1.out.trans (HV1.out.mono B1.out.size)⟩
end Go.Proofs.Ythfiafjhnidlkaa
