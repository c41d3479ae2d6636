import Derived.Test.YtcfenjpdjogmdaaLU18
namespace Go.Proofs.Ytcfenjpdjogmdaa
open Go.RowKit

/-- What takes a change of map mb back: at x there was old. -/
def BackA (W : World) (mb x : Nat) (old : Option Ac) (v : Value) : Prop :=
  ∃ q0 q1, W.heap[q0]? = some (.cells #[.map (some mb)] 65 (0, 0)) ∧ W.heap[q1]? = some (.cells #[.int .u64 (x : Nat)] 25 (0, 0)) ∧
    ((∃ a q, old = some a ∧ W.heap[q]? = some (.cells a.arr 80 (0, 0)) ∧ (v = .func (.func 74) #[] #[.pointer (some ⟨q, 0, none⟩), .pointer (some ⟨q0, 0, none⟩), .pointer (some ⟨q1, 0, none⟩)] ∨ v = .func (.func 62) #[] #[.pointer (some ⟨q, 0, none⟩), .pointer (some ⟨q0, 0, none⟩), .pointer (some ⟨q1, 0, none⟩)])) ∨
     (old = none ∧ v = .func (.func 75) #[] #[.pointer (some ⟨q0, 0, none⟩), .pointer (some ⟨q1, 0, none⟩)]))
theorem BackA.func {W : World} {mb x : Nat} {old : Option Ac} {v : Value} (h : BackA W mb x old v) : ∃ f ca, v = .func f #[] ca := by
  obtain ⟨q0, q1, _, _, ⟨a, q, _, _, rfl | rfl⟩ | ⟨_, rfl⟩⟩ := h
  · exact ⟨_, _, rfl⟩
  · exact ⟨_, _, rfl⟩
  · exact ⟨_, _, rfl⟩
/-- What put leaves. -/
def PutA (w w' : World) (mb n : Nat) (m : Nat → Option Ac) (a : Ac) (v : Value) : Prop := BackA w' mb a.id (m a.id) v ∧ TAm w' mb (if (m a.id).isSome = true then n else n + 1) (fun x => if x = a.id then some a else m x) ∧ w.grownBy w' (some mb)
set_option maxRecDepth 10000 in
set_option maxHeartbeats 1600000 in
theorem putA {w : World} {mb n : Nat} {m : Nat → Option Ac} (h : TAm w mb n m) (a : Ac) (hx : a.id < 18446744073709551616) (hn : n < maxLen) :
    Calls Try.prog 60 #[.map (some mb), .int .u64 (a.id : Nat), .agg a.arr] w fun e w' => ∃ v, e = .returned v ∧ Hid (PutA w w' mb n m a v) := by
  obtain ⟨W1, hW1⟩ : ∃ W1, ((w.alloc (.cells #[.map (some mb)] 65)).alloc (.cells #[.int .u64 (a.id : Nat)] 25)).alloc (.cells a.arr 80) = W1 := ⟨_, rfl⟩
  have e1 : (w.alloc (.cells #[.map (some mb)] 65)).heap.size = w.heap.size + 1 := by simp
  have e2 : ((w.alloc (.cells #[.map (some mb)] 65)).alloc (.cells #[.int .u64 (a.id : Nat)] 25)).heap.size = w.heap.size + 1 + 1 := by simp
  have e3 : W1.heap.size = w.heap.size + 1 + 1 + 1 := by rw [← hW1]; simp
  have g1 : w.grownBy W1 none := by rw [← hW1]; exact far_two (far_two (World.grownBy_alloc _ _ _) (World.grownBy_alloc _ _ _)) (World.grownBy_alloc _ _ _)
  have q0 : W1.heap[w.heap.size]? = some (.cells #[.map (some mb)] 65 (0, 0)) := by
    rw [← hW1]
    exact (((World.grownBy_alloc _ _ none).block _ (by rw [e2]; omega) (by simp)).trans ((World.grownBy_alloc _ _ none).block _ (by rw [e1]; omega) (by simp))).trans (alloc_atK _ _)
  have q1 : W1.heap[w.heap.size + 1]? = some (.cells #[.int .u64 (a.id : Nat)] 25 (0, 0)) := by
    rw [← hW1, ← e1]
    exact ((World.grownBy_alloc _ _ none).block _ (by rw [e2, e1]; omega) (by simp)).trans (alloc_atK _ _)
  have q2 : W1.heap[w.heap.size + 1 + 1]? = some (.cells a.arr 80 (0, 0)) := by
    rw [← hW1, ← e2]
    exact alloc_atK _ _
  have h1 := h.kept g1 (by simp)
  have hlk := h1.look_ok hx
  obtain ⟨W2, hW2⟩ : ∃ W2, W1.alloc (.cells ((m a.id).getD Ac.zero).arr 80) = W2 := ⟨_, rfl⟩
  have g2 : W1.grownBy W2 none := by rw [← hW2]; exact World.grownBy_alloc _ _ _
  have h2 := h1.kept g2 (by simp)
  have r0 := (g2.block _ (block_lt q0) (by simp)).trans q0
  have r1 := (g2.block _ (block_lt q1) (by simp)).trans q1
  have r2 := (g2.block _ (block_lt q2) (by simp)).trans q2
  have r3 : W2.heap[w.heap.size + 1 + 1 + 1]? = some (.cells ((m a.id).getD Ac.zero).arr 80 (0, 0)) := by rw [← hW2, ← e3]; exact alloc_atK _ _
  obtain ⟨W3, hr, ht, hg⟩ := h2.put a hx hn
  have hne : ∀ q cs t, W2.heap[q]? = some (.cells cs t (0, 0)) → some q ≠ some mb := fun q cs t hq e => by
    cases e
    obtain ⟨es, k, ho⟩ := h2.obj
    rw [hq] at ho
    cases ho
  have s0 := (hg.block _ (block_lt r0) (hne _ _ _ r0)).trans r0
  have s1 := (hg.block _ (block_lt r1) (hne _ _ _ r1)).trans r1
  have s3 := (hg.block _ (block_lt r3) (hne _ _ _ r3)).trans r3
  have FIN : Hid (∀ v, ((∃ y q, m a.id = some y ∧ W3.heap[q]? = some (.cells y.arr 80 (0, 0)) ∧ (v = .func (.func 74) #[] #[.pointer (some ⟨q, 0, none⟩), .pointer (some ⟨w.heap.size, 0, none⟩), .pointer (some ⟨w.heap.size + 1, 0, none⟩)])) ∨ (m a.id = none ∧ v = .func (.func 75) #[] #[.pointer (some ⟨w.heap.size, 0, none⟩), .pointer (some ⟨w.heap.size + 1, 0, none⟩)])) → PutA w W3 mb n m a v) := fun v hv => by
    refine ⟨⟨_, _, s0, s1, ?_⟩, ht, far_two (far_two ⟨g1.os, g1.tape, g1.output, g1.size, fun k hk _ => g1.block k hk (by simp)⟩ ⟨g2.os, g2.tape, g2.output, g2.size, fun k hk _ => g2.block k hk (by simp)⟩) hg⟩
    rcases hv with ⟨y, q, h1, h2, h3⟩ | h
    · exact .inl ⟨y, q, h1, h2, .inl h3⟩
    · exact .inr h
  rw [← e3] at s3
  have S3 := hide s3
  have HW1 := hide hW1
  have HW2 := hide hW2
  have E3 := hide e3
  have a0 := block_cell q0 0
  have a1 := block_cell q1 0
  have al := block_lt q1
  have R0 := hide r0
  have R1 := hide r1
  have R2 := hide r2
  simp at a0 a1
  clear h h1 h2 g1 g2 q0 q1 q2 r0 r1 r2 r3 hne s0 s1 s3 ht hg hW1 hW2 e1 e2 e3 hx hn
  obtain ⟨old, hold⟩ : ∃ old, m a.id = old := ⟨_, rfl⟩
  have HO := hide hold
  rw [hold] at hlk HW2 S3
  clear hold
  unfold Ac.arr at *
  go_enter Try.func60, Try.ntmps60
  go_upto_region 1 with fail
  rw [HW1.out]
  clear HW1
  go_upto_region 2 with fail
  rw [HW2.out]
  have z0 := block_cell R0.out 0
  have z1 := block_cell R1.out 0
  have y0 := block_cell R2.out 0
  have y1 := block_cell R2.out 1
  have y2 := block_cell R2.out 2
  have y3 := block_cell R2.out 3
  have zl := block_lt R1.out
  have zm := block_lt R2.out
  simp at z0 z1 y0 y1 y2 y3
  clear a0 a1 al hlk HW2 R0 R1 R2
  go_upto_region 3 with fail
  clear z0 z1 y0 y1 y2 y3 zl zm hr
  rcases old with _ | y
  · go_wp2
    go_ret
    exact ⟨_, rfl, FIN.out _ (.inr ⟨HO.out, rfl⟩)⟩
  · go_wp2
    go_ret
    exact ⟨_, rfl, FIN.out _ (.inl ⟨y, _, HO.out, S3.out, rfl⟩)⟩
/-- What drop leaves. -/
def DropA (w w' : World) (mb n : Nat) (m : Nat → Option Ac) (k : Nat) (v : Value) : Prop := BackA w' mb k (m k) v ∧ TAm w' mb n (fun x => if x = k then none else m x) ∧ w.grownBy w' (some mb)
set_option maxRecDepth 10000 in
set_option maxHeartbeats 1600000 in
theorem dropA {w : World} {mb n : Nat} {m : Nat → Option Ac} (h : TAm w mb (n + 1) m) {k : Nat} (hx : k < 18446744073709551616) {y : Ac} (hy : m k = some y) :
    Calls Try.prog 49 #[.map (some mb), .int .u64 (k : Nat)] w fun e w' => ∃ v, e = .returned v ∧ Hid (DropA w w' mb n m k v) := by
  obtain ⟨W1, hW1⟩ : ∃ W1, ((w.alloc (.cells #[.map (some mb)] 65)).alloc (.cells #[.int .u64 (k : Nat)] 25)) = W1 := ⟨_, rfl⟩
  have e1 : (w.alloc (.cells #[.map (some mb)] 65)).heap.size = w.heap.size + 1 := by simp
  have e3 : W1.heap.size = w.heap.size + 1 + 1 := by rw [← hW1]; simp
  have g1 : w.grownBy W1 none := by rw [← hW1]; exact far_two (World.grownBy_alloc _ _ _) (World.grownBy_alloc _ _ _)
  have q0 : W1.heap[w.heap.size]? = some (.cells #[.map (some mb)] 65 (0, 0)) := by
    rw [← hW1]
    exact ((World.grownBy_alloc _ _ none).block _ (by rw [e1]; omega) (by simp)).trans (alloc_atK _ _)
  have q1 : W1.heap[w.heap.size + 1]? = some (.cells #[.int .u64 (k : Nat)] 25 (0, 0)) := by
    rw [← hW1, ← e1]
    exact alloc_atK _ _
  have h1 := h.kept g1 (by simp)
  have hlk := h1.look hx
  rw [hy] at hlk
  obtain ⟨W2, hW2⟩ : ∃ W2, W1.alloc (.cells y.arr 80) = W2 := ⟨_, rfl⟩
  have g2 : W1.grownBy W2 none := by rw [← hW2]; exact World.grownBy_alloc _ _ _
  have h2 := h1.kept g2 (by simp)
  have r0 := (g2.block _ (block_lt q0) (by simp)).trans q0
  have r1 := (g2.block _ (block_lt q1) (by simp)).trans q1
  have r3 : W2.heap[W1.heap.size]? = some (.cells y.arr 80 (0, 0)) := by rw [← hW2]; exact alloc_atK _ _
  obtain ⟨W3, hr, ht, hg⟩ := h2.del hx (by rw [hy]; rfl) 0
  have hne : ∀ q cs t, W2.heap[q]? = some (.cells cs t (0, 0)) → some q ≠ some mb := fun q cs t hq e => by
    cases e
    obtain ⟨es, k, ho⟩ := h2.obj
    rw [hq] at ho
    cases ho
  have s0 := (hg.block _ (block_lt r0) (hne _ _ _ r0)).trans r0
  have s1 := (hg.block _ (block_lt r1) (hne _ _ _ r1)).trans r1
  have s3 := (hg.block _ (block_lt r3) (hne _ _ _ r3)).trans r3
  have FIN : Hid (DropA w W3 mb n m k (.func (.func 62) #[] #[.pointer (some ⟨W1.heap.size, 0, none⟩), .pointer (some ⟨w.heap.size, 0, none⟩), .pointer (some ⟨w.heap.size + 1, 0, none⟩)])) :=
    ⟨⟨_, _, s0, s1, .inl ⟨y, _, hy, s3, .inr rfl⟩⟩, ht, far_two (far_two ⟨g1.os, g1.tape, g1.output, g1.size, fun k hk _ => g1.block k hk (by simp)⟩ ⟨g2.os, g2.tape, g2.output, g2.size, fun k hk _ => g2.block k hk (by simp)⟩) hg⟩
  have HW1 := hide hW1
  have HW2 := hide hW2
  have a0 := block_cell q0 0
  have a1 := block_cell q1 0
  have al := block_lt q1
  have z0 := block_cell r0 0
  have z1 := block_cell r1 0
  have zl := block_lt r1
  have ZZ := hide (And.intro z0 (And.intro z1 zl))
  simp at a0 a1
  clear h h1 h2 g1 g2 q0 q1 r0 r1 r3 hne s0 s1 s3 ht hg hW1 hW2 e1 e3 hx hy z0 z1 zl
  unfold Ac.zero Ac.arr at *
  simp only [Option.getD_some] at hlk
  go_enter Try.func49, Try.ntmps49
  go_upto_region 1 with fail
  rw [HW1.out]
  clear HW1
  go_upto_region 2 with fail
  rw [HW2.out]
  obtain ⟨z0, z1, zl⟩ := ZZ.out
  simp at z0 z1
  clear a0 a1 al hlk HW2 ZZ
  go_upto_region 3 with fail
  clear z0 z1 zl hr
  go_wp2
  go_ret
  exact ⟨_, rfl, FIN.out⟩
/-- What takes a change of map mb back: at x there was old. -/
def BackH (W : World) (mb x : Nat) (old : Option Ho) (v : Value) : Prop :=
  ∃ q0 q1, W.heap[q0]? = some (.cells #[.map (some mb)] 66 (0, 0)) ∧ W.heap[q1]? = some (.cells #[.int .u64 (x : Nat)] 25 (0, 0)) ∧
    ((∃ a q, old = some a ∧ W.heap[q]? = some (.cells a.arr 83 (0, 0)) ∧ (v = .func (.func 78) #[] #[.pointer (some ⟨q, 0, none⟩), .pointer (some ⟨q0, 0, none⟩), .pointer (some ⟨q1, 0, none⟩)] ∨ v = .func (.func 77) #[] #[.pointer (some ⟨q, 0, none⟩), .pointer (some ⟨q0, 0, none⟩), .pointer (some ⟨q1, 0, none⟩)])) ∨
     (old = none ∧ v = .func (.func 79) #[] #[.pointer (some ⟨q0, 0, none⟩), .pointer (some ⟨q1, 0, none⟩)]))
theorem BackH.func {W : World} {mb x : Nat} {old : Option Ho} {v : Value} (h : BackH W mb x old v) : ∃ f ca, v = .func f #[] ca := by
  obtain ⟨q0, q1, _, _, ⟨a, q, _, _, rfl | rfl⟩ | ⟨_, rfl⟩⟩ := h
  · exact ⟨_, _, rfl⟩
  · exact ⟨_, _, rfl⟩
  · exact ⟨_, _, rfl⟩
/-- What put leaves. -/
def PutH (w w' : World) (mb n : Nat) (m : Nat → Option Ho) (a : Ho) (v : Value) : Prop := BackH w' mb a.id (m a.id) v ∧ THm w' mb (if (m a.id).isSome = true then n else n + 1) (fun x => if x = a.id then some a else m x) ∧ w.grownBy w' (some mb)
set_option maxRecDepth 10000 in
set_option maxHeartbeats 1600000 in
theorem putH {w : World} {mb n : Nat} {m : Nat → Option Ho} (h : THm w mb n m) (a : Ho) (hx : a.id < 18446744073709551616) (hn : n < maxLen) :
    Calls Try.prog 64 #[.map (some mb), .int .u64 (a.id : Nat), .agg a.arr] w fun e w' => ∃ v, e = .returned v ∧ Hid (PutH w w' mb n m a v) := by
  obtain ⟨W1, hW1⟩ : ∃ W1, ((w.alloc (.cells #[.map (some mb)] 66)).alloc (.cells #[.int .u64 (a.id : Nat)] 25)).alloc (.cells a.arr 83) = W1 := ⟨_, rfl⟩
  have e1 : (w.alloc (.cells #[.map (some mb)] 66)).heap.size = w.heap.size + 1 := by simp
  have e2 : ((w.alloc (.cells #[.map (some mb)] 66)).alloc (.cells #[.int .u64 (a.id : Nat)] 25)).heap.size = w.heap.size + 1 + 1 := by simp
  have e3 : W1.heap.size = w.heap.size + 1 + 1 + 1 := by rw [← hW1]; simp
  have g1 : w.grownBy W1 none := by rw [← hW1]; exact far_two (far_two (World.grownBy_alloc _ _ _) (World.grownBy_alloc _ _ _)) (World.grownBy_alloc _ _ _)
  have q0 : W1.heap[w.heap.size]? = some (.cells #[.map (some mb)] 66 (0, 0)) := by
    rw [← hW1]
    exact (((World.grownBy_alloc _ _ none).block _ (by rw [e2]; omega) (by simp)).trans ((World.grownBy_alloc _ _ none).block _ (by rw [e1]; omega) (by simp))).trans (alloc_atK _ _)
  have q1 : W1.heap[w.heap.size + 1]? = some (.cells #[.int .u64 (a.id : Nat)] 25 (0, 0)) := by
    rw [← hW1, ← e1]
    exact ((World.grownBy_alloc _ _ none).block _ (by rw [e2, e1]; omega) (by simp)).trans (alloc_atK _ _)
  have q2 : W1.heap[w.heap.size + 1 + 1]? = some (.cells a.arr 83 (0, 0)) := by
    rw [← hW1, ← e2]
    exact alloc_atK _ _
  have h1 := h.kept g1 (by simp)
  have hlk := h1.look_ok hx
  obtain ⟨W2, hW2⟩ : ∃ W2, W1.alloc (.cells ((m a.id).getD Ho.zero).arr 83) = W2 := ⟨_, rfl⟩
  have g2 : W1.grownBy W2 none := by rw [← hW2]; exact World.grownBy_alloc _ _ _
  have h2 := h1.kept g2 (by simp)
  have r0 := (g2.block _ (block_lt q0) (by simp)).trans q0
  have r1 := (g2.block _ (block_lt q1) (by simp)).trans q1
  have r2 := (g2.block _ (block_lt q2) (by simp)).trans q2
  have r3 : W2.heap[w.heap.size + 1 + 1 + 1]? = some (.cells ((m a.id).getD Ho.zero).arr 83 (0, 0)) := by rw [← hW2, ← e3]; exact alloc_atK _ _
  obtain ⟨W3, hr, ht, hg⟩ := h2.put a hx hn
  have hne : ∀ q cs t, W2.heap[q]? = some (.cells cs t (0, 0)) → some q ≠ some mb := fun q cs t hq e => by
    cases e
    obtain ⟨es, k, ho⟩ := h2.obj
    rw [hq] at ho
    cases ho
  have s0 := (hg.block _ (block_lt r0) (hne _ _ _ r0)).trans r0
  have s1 := (hg.block _ (block_lt r1) (hne _ _ _ r1)).trans r1
  have s3 := (hg.block _ (block_lt r3) (hne _ _ _ r3)).trans r3
  have FIN : Hid (∀ v, ((∃ y q, m a.id = some y ∧ W3.heap[q]? = some (.cells y.arr 83 (0, 0)) ∧ (v = .func (.func 78) #[] #[.pointer (some ⟨q, 0, none⟩), .pointer (some ⟨w.heap.size, 0, none⟩), .pointer (some ⟨w.heap.size + 1, 0, none⟩)])) ∨ (m a.id = none ∧ v = .func (.func 79) #[] #[.pointer (some ⟨w.heap.size, 0, none⟩), .pointer (some ⟨w.heap.size + 1, 0, none⟩)])) → PutH w W3 mb n m a v) := fun v hv => by
    refine ⟨⟨_, _, s0, s1, ?_⟩, ht, far_two (far_two ⟨g1.os, g1.tape, g1.output, g1.size, fun k hk _ => g1.block k hk (by simp)⟩ ⟨g2.os, g2.tape, g2.output, g2.size, fun k hk _ => g2.block k hk (by simp)⟩) hg⟩
    rcases hv with ⟨y, q, h1, h2, h3⟩ | h
    · exact .inl ⟨y, q, h1, h2, .inl h3⟩
    · exact .inr h
  rw [← e3] at s3
  have S3 := hide s3
  have HW1 := hide hW1
  have HW2 := hide hW2
  have E3 := hide e3
  have a0 := block_cell q0 0
  have a1 := block_cell q1 0
  have al := block_lt q1
  have R0 := hide r0
  have R1 := hide r1
  have R2 := hide r2
  simp at a0 a1
  clear h h1 h2 g1 g2 q0 q1 q2 r0 r1 r2 r3 hne s0 s1 s3 ht hg hW1 hW2 e1 e2 e3 hx hn
  obtain ⟨old, hold⟩ : ∃ old, m a.id = old := ⟨_, rfl⟩
  have HO := hide hold
  rw [hold] at hlk HW2 S3
  clear hold
  unfold Ho.arr at *
  go_enter Try.func64, Try.ntmps64
  go_upto_region 1 with fail
  rw [HW1.out]
  clear HW1
  go_upto_region 2 with fail
  rw [HW2.out]
  have z0 := block_cell R0.out 0
  have z1 := block_cell R1.out 0
  have y0 := block_cell R2.out 0
  have y1 := block_cell R2.out 1
  have y2 := block_cell R2.out 2
  have zl := block_lt R1.out
  have zm := block_lt R2.out
  simp at z0 z1 y0 y1 y2
  clear a0 a1 al hlk HW2 R0 R1 R2
  go_upto_region 3 with fail
  clear z0 z1 y0 y1 y2 zl zm hr
  rcases old with _ | y
  · go_wp2
    go_ret
    exact ⟨_, rfl, FIN.out _ (.inr ⟨HO.out, rfl⟩)⟩
  · go_wp2
    go_ret
    exact ⟨_, rfl, FIN.out _ (.inl ⟨y, _, HO.out, S3.out, rfl⟩)⟩
/-- What drop leaves. -/
def DropH (w w' : World) (mb n : Nat) (m : Nat → Option Ho) (k : Nat) (v : Value) : Prop := BackH w' mb k (m k) v ∧ THm w' mb n (fun x => if x = k then none else m x) ∧ w.grownBy w' (some mb)
set_option maxRecDepth 10000 in
set_option maxHeartbeats 1600000 in
theorem dropH {w : World} {mb n : Nat} {m : Nat → Option Ho} (h : THm w mb (n + 1) m) {k : Nat} (hx : k < 18446744073709551616) {y : Ho} (hy : m k = some y) :
    Calls Try.prog 63 #[.map (some mb), .int .u64 (k : Nat)] w fun e w' => ∃ v, e = .returned v ∧ Hid (DropH w w' mb n m k v) := by
  obtain ⟨W1, hW1⟩ : ∃ W1, ((w.alloc (.cells #[.map (some mb)] 66)).alloc (.cells #[.int .u64 (k : Nat)] 25)) = W1 := ⟨_, rfl⟩
  have e1 : (w.alloc (.cells #[.map (some mb)] 66)).heap.size = w.heap.size + 1 := by simp
  have e3 : W1.heap.size = w.heap.size + 1 + 1 := by rw [← hW1]; simp
  have g1 : w.grownBy W1 none := by rw [← hW1]; exact far_two (World.grownBy_alloc _ _ _) (World.grownBy_alloc _ _ _)
  have q0 : W1.heap[w.heap.size]? = some (.cells #[.map (some mb)] 66 (0, 0)) := by
    rw [← hW1]
    exact ((World.grownBy_alloc _ _ none).block _ (by rw [e1]; omega) (by simp)).trans (alloc_atK _ _)
  have q1 : W1.heap[w.heap.size + 1]? = some (.cells #[.int .u64 (k : Nat)] 25 (0, 0)) := by
    rw [← hW1, ← e1]
    exact alloc_atK _ _
  have h1 := h.kept g1 (by simp)
  have hlk := h1.look hx
  rw [hy] at hlk
  obtain ⟨W2, hW2⟩ : ∃ W2, W1.alloc (.cells y.arr 83) = W2 := ⟨_, rfl⟩
  have g2 : W1.grownBy W2 none := by rw [← hW2]; exact World.grownBy_alloc _ _ _
  have h2 := h1.kept g2 (by simp)
  have r0 := (g2.block _ (block_lt q0) (by simp)).trans q0
  have r1 := (g2.block _ (block_lt q1) (by simp)).trans q1
  have r3 : W2.heap[W1.heap.size]? = some (.cells y.arr 83 (0, 0)) := by rw [← hW2]; exact alloc_atK _ _
  obtain ⟨W3, hr, ht, hg⟩ := h2.del hx (by rw [hy]; rfl) 0
  have hne : ∀ q cs t, W2.heap[q]? = some (.cells cs t (0, 0)) → some q ≠ some mb := fun q cs t hq e => by
    cases e
    obtain ⟨es, k, ho⟩ := h2.obj
    rw [hq] at ho
    cases ho
  have s0 := (hg.block _ (block_lt r0) (hne _ _ _ r0)).trans r0
  have s1 := (hg.block _ (block_lt r1) (hne _ _ _ r1)).trans r1
  have s3 := (hg.block _ (block_lt r3) (hne _ _ _ r3)).trans r3
  have FIN : Hid (DropH w W3 mb n m k (.func (.func 77) #[] #[.pointer (some ⟨W1.heap.size, 0, none⟩), .pointer (some ⟨w.heap.size, 0, none⟩), .pointer (some ⟨w.heap.size + 1, 0, none⟩)])) :=
    ⟨⟨_, _, s0, s1, .inl ⟨y, _, hy, s3, .inr rfl⟩⟩, ht, far_two (far_two ⟨g1.os, g1.tape, g1.output, g1.size, fun k hk _ => g1.block k hk (by simp)⟩ ⟨g2.os, g2.tape, g2.output, g2.size, fun k hk _ => g2.block k hk (by simp)⟩) hg⟩
  have HW1 := hide hW1
  have HW2 := hide hW2
  have a0 := block_cell q0 0
  have a1 := block_cell q1 0
  have al := block_lt q1
  have z0 := block_cell r0 0
  have z1 := block_cell r1 0
  have zl := block_lt r1
  have ZZ := hide (And.intro z0 (And.intro z1 zl))
  simp at a0 a1
  clear h h1 h2 g1 g2 q0 q1 r0 r1 r3 hne s0 s1 s3 ht hg hW1 hW2 e1 e3 hx hy z0 z1 zl
  unfold Ho.zero Ho.arr at *
  simp only [Option.getD_some] at hlk
  go_enter Try.func63, Try.ntmps63
  go_upto_region 1 with fail
  rw [HW1.out]
  clear HW1
  go_upto_region 2 with fail
  rw [HW2.out]
  obtain ⟨z0, z1, zl⟩ := ZZ.out
  simp at z0 z1
  clear a0 a1 al hlk HW2 ZZ
  go_upto_region 3 with fail
  clear z0 z1 zl hr
  go_wp2
  go_ret
  exact ⟨_, rfl, FIN.out⟩
end Go.Proofs.Ytcfenjpdjogmdaa
