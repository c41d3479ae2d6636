import Derived.Test.YtcfenjpdjogmdaaLT18
namespace Go.Proofs.Ytcfenjpdjogmdaa
open Go.RowKit

/-- What takes a change of map mb back: at x there was old. -/
def BackA (W : World) (mb x : Nat) (old : Option Ac) (v : Value) : Prop :=
  ∃ q0 q1, W.heap[q0]? = some (.cells #[.map (some mb)] 65 (0, 0)) ∧ W.heap[q1]? = some (.cells #[.int .u64 (x : Nat)] 25 (0, 0)) ∧
    ((∃ a q, old = some a ∧ W.heap[q]? = some (.cells a.arr 80 (0, 0)) ∧ (v = .func (.func 74) #[] #[.pointer (some ⟨q, 0, none⟩), .pointer (some ⟨q0, 0, none⟩), .pointer (some ⟨q1, 0, none⟩)] ∨ v = .func (.func 62) #[] #[.pointer (some ⟨q, 0, none⟩), .pointer (some ⟨q0, 0, none⟩), .pointer (some ⟨q1, 0, none⟩)])) ∨
     (old = none ∧ v = .func (.func 75) #[] #[.pointer (some ⟨q0, 0, none⟩), .pointer (some ⟨q1, 0, none⟩)]))
theorem BackA.func {W : World} {mb x : Nat} {old : Option Ac} {v : Value} (h : BackA W mb x old v) : ∃ f ca, v = .func f #[] ca := by
  obtain ⟨q0, q1, _, _, ⟨a, q, _, _, rfl | rfl⟩ | ⟨_, rfl⟩⟩ := h
  · exact ⟨_, _, rfl⟩
  · exact ⟨_, _, rfl⟩
  · exact ⟨_, _, rfl⟩
/-- What put leaves. -/
def PutA (w w' : World) (mb n : Nat) (m : Nat → Option Ac) (a : Ac) (v : Value) : Prop := BackA w' mb a.id (m a.id) v ∧ TAm w' mb (if (m a.id).isSome = true then n else n + 1) (fun x => if x = a.id then some a else m x) ∧ w.grownBy w' (some mb)
set_option maxRecDepth 10000 in
set_option maxHeartbeats 1600000 in
theorem putA {w : World} {mb n : Nat} {m : Nat → Option Ac} (h : TAm w mb n m) (a : Ac) (hx : a.id < 18446744073709551616) (hn : n < maxLen) :
    Calls Try.prog 60 #[.map (some mb), .int .u64 (a.id : Nat), .agg a.arr] w fun e w' => ∃ v, e = .returned v ∧ Hid (PutA w w' mb n m a v) := by
  obtain ⟨W1, hW1⟩ : ∃ W1, ((w.alloc (.cells #[.map (some mb)] 65)).alloc (.cells #[.int .u64 (a.id : Nat)] 25)).alloc (.cells a.arr 80) = W1 := ⟨_, rfl⟩
  have e1 : (w.alloc (.cells #[.map (some mb)] 65)).heap.size = w.heap.size + 1 := by simp
  have e2 : ((w.alloc (.cells #[.map (some mb)] 65)).alloc (.cells #[.int .u64 (a.id : Nat)] 25)).heap.size = w.heap.size + 1 + 1 := by simp
  have e3 : W1.heap.size = w.heap.size + 1 + 1 + 1 := by rw [← hW1]; simp
  have g1 : w.grownBy W1 none := by rw [← hW1]; exact far_two (far_two (World.grownBy_alloc _ _ _) (World.grownBy_alloc _ _ _)) (World.grownBy_alloc _ _ _)
  have q0 : W1.heap[w.heap.size]? = some (.cells #[.map (some mb)] 65 (0, 0)) := by
    rw [← hW1]
    exact (((World.grownBy_alloc _ _ none).block _ (by rw [e2]; omega) (by simp)).trans ((World.grownBy_alloc _ _ none).block _ (by rw [e1]; omega) (by simp))).trans (alloc_atK _ _)
  have q1 : W1.heap[w.heap.size + 1]? = some (.cells #[.int .u64 (a.id : Nat)] 25 (0, 0)) := by
    rw [← hW1, ← e1]
    exact ((World.grownBy_alloc _ _ none).block _ (by rw [e2, e1]; omega) (by simp)).trans (alloc_atK _ _)
  have q2 : W1.heap[w.heap.size + 1 + 1]? = some (.cells a.arr 80 (0, 0)) := by
    rw [← hW1, ← e2]
    exact alloc_atK _ _
  have h1 := h.kept g1 (by simp)
  have hlk := h1.look_ok hx
  obtain ⟨W2, hW2⟩ : ∃ W2, W1.alloc (.cells ((m a.id).getD Ac.zero).arr 80) = W2 := ⟨_, rfl⟩
  have g2 : W1.grownBy W2 none := by rw [← hW2]; exact World.grownBy_alloc _ _ _
  have h2 := h1.kept g2 (by simp)
  have r0 := (g2.block _ (block_lt q0) (by simp)).trans q0
  have r1 := (g2.block _ (block_lt q1) (by simp)).trans q1
  have r2 := (g2.block _ (block_lt q2) (by simp)).trans q2
  have r3 : W2.heap[w.heap.size + 1 + 1 + 1]? = some (.cells ((m a.id).getD Ac.zero).arr 80 (0, 0)) := by rw [← hW2, ← e3]; exact alloc_atK _ _
  obtain ⟨W3, hr, ht, hg⟩ := h2.put a hx hn
  have hne : ∀ q cs t, W2.heap[q]? = some (.cells cs t (0, 0)) → some q ≠ some mb := fun q cs t hq e => by
    cases e
    obtain ⟨es, k, ho⟩ := h2.obj
    rw [hq] at ho
    cases ho
  have s0 := (hg.block _ (block_lt r0) (hne _ _ _ r0)).trans r0
  have s1 := (hg.block _ (block_lt r1) (hne _ _ _ r1)).trans r1
  have s3 := (hg.block _ (block_lt r3) (hne _ _ _ r3)).trans r3
  have FIN : Hid (∀ v, ((∃ y q, m a.id = some y ∧ W3.heap[q]? = some (.cells y.arr 80 (0, 0)) ∧ (v = .func (.func 74) #[] #[.pointer (some ⟨q, 0, none⟩), .pointer (some ⟨w.heap.size, 0, none⟩), .pointer (some ⟨w.heap.size + 1, 0, none⟩)])) ∨ (m a.id = none ∧ v = .func (.func 75) #[] #[.pointer (some ⟨w.heap.size, 0, none⟩), .pointer (some ⟨w.heap.size + 1, 0, none⟩)])) → PutA w W3 mb n m a v) := fun v hv => by
    refine ⟨⟨_, _, s0, s1, ?_⟩, ht, far_two (far_two ⟨g1.os, g1.tape, g1.output, g1.size, fun k hk _ => g1.block k hk (by simp)⟩ ⟨g2.os, g2.tape, g2.output, g2.size, fun k hk _ => g2.block k hk (by simp)⟩) hg⟩
    rcases hv with ⟨y, q, h1, h2, h3⟩ | h
    · exact .inl ⟨y, q, h1, h2, .inl h3⟩
    · exact .inr h
  rw [← e3] at s3
  have S3 := hide s3
  have HW1 := hide hW1
  have HW2 := hide hW2
  have E3 := hide e3
  have a0 := block_cell q0 0
  have a1 := block_cell q1 0
  have al := block_lt q1
  have R0 := hide r0
  have R1 := hide r1
  have R2 := hide r2
  simp at a0 a1
  clear h h1 h2 g1 g2 q0 q1 q2 r0 r1 r2 r3 hne s0 s1 s3 ht hg hW1 hW2 e1 e2 e3 hx hn
  obtain ⟨old, hold⟩ : ∃ old, m a.id = old := ⟨_, rfl⟩
  have HO := hide hold
  rw [hold] at hlk HW2 S3
  clear hold
  unfold Ac.arr at *
  go_enter Try.func60, Try.ntmps60
  go_upto_region 1 with fail
  rw [HW1.out]
  clear HW1
  go_upto_region 2 with fail
  rw [HW2.out]
  have z0 := block_cell R0.out 0
  have z1 := block_cell R1.out 0
  have y0 := block_cell R2.out 0
  have y1 := block_cell R2.out 1
  have y2 := block_cell R2.out 2
  have y3 := block_cell R2.out 3
  have zl := block_lt R1.out
  have zm := block_lt R2.out
  simp at z0 z1 y0 y1 y2 y3
  clear a0 a1 al hlk HW2 R0 R1 R2
  go_upto_region 3 with fail
  clear z0 z1 y0 y1 y2 y3 zl zm hr
  rcases old with _ | y
  · go_wp2
    go_ret
    exact ⟨_, rfl, FIN.out _ (.inr ⟨HO.out, rfl⟩)⟩
  · go_wp2
    go_ret
    exact ⟨_, rfl, FIN.out _ (.inl ⟨y, _, HO.out, S3.out, rfl⟩)⟩
/-- What drop leaves. -/
def DropA (w w' : World) (mb n : Nat) (m : Nat → Option Ac) (k : Nat) (v : Value) : Prop := BackA w' mb k (m k) v ∧ TAm w' mb n (fun x => if x = k then none else m x) ∧ w.grownBy w' (some mb)
set_option maxRecDepth 10000 in
set_option maxHeartbeats 1600000 in
theorem dropA {w : World} {mb n : Nat} {m : Nat → Option Ac} (h : TAm w mb (n + 1) m) {k : Nat} (hx : k < 18446744073709551616) {y : Ac} (hy : m k = some y) :
    Calls Try.prog 49 #[.map (some mb), .int .u64 (k : Nat)] w fun e w' => ∃ v, e = .returned v ∧ Hid (DropA w w' mb n m k v) := by
  obtain ⟨W1, hW1⟩ : ∃ W1, ((w.alloc (.cells #[.map (some mb)] 65)).alloc (.cells #[.int .u64 (k : Nat)] 25)) = W1 := ⟨_, rfl⟩
  have e1 : (w.alloc (.cells #[.map (some mb)] 65)).heap.size = w.heap.size + 1 := by simp
  have e3 : W1.heap.size = w.heap.size + 1 + 1 := by rw [← hW1]; simp
  have g1 : w.grownBy W1 none := by rw [← hW1]; exact far_two (World.grownBy_alloc _ _ _) (World.grownBy_alloc _ _ _)
  have q0 : W1.heap[w.heap.size]? = some (.cells #[.map (some mb)] 65 (0, 0)) := by
    rw [← hW1]
    exact ((World.grownBy_alloc _ _ none).block _ (by rw [e1]; omega) (by simp)).trans (alloc_atK _ _)
  have q1 : W1.heap[w.heap.size + 1]? = some (.cells #[.int .u64 (k : Nat)] 25 (0, 0)) := by
    rw [← hW1, ← e1]
    exact alloc_atK _ _
  have h1 := h.kept g1 (by simp)
  have hlk := h1.look hx
  rw [hy] at hlk
  obtain ⟨W2, hW2⟩ : ∃ W2, W1.alloc (.cells y.arr 80) = W2 := ⟨_, rfl⟩
  have g2 : W1.grownBy W2 none := by rw [← hW2]; exact World.grownBy_alloc _ _ _
  have h2 := h1.kept g2 (by simp)
  have r0 := (g2.block _ (block_lt q0) (by simp)).trans q0
  have r1 := (g2.block _ (block_lt q1) (by simp)).trans q1
  have r3 : W2.heap[W1.heap.size]? = some (.cells y.arr 80 (0, 0)) := by rw [← hW2]; exact alloc_atK _ _
  obtain ⟨W3, hr, ht, hg⟩ := h2.del hx (by rw [hy]; rfl) 0
  have hne : ∀ q cs t, W2.heap[q]? = some (.cells cs t (0, 0)) → some q ≠ some mb := fun q cs t hq e => by
    cases e
    obtain ⟨es, k, ho⟩ := h2.obj
    rw [hq] at ho
    cases ho
  have s0 := (hg.block _ (block_lt r0) (hne _ _ _ r0)).trans r0
  have s1 := (hg.block _ (block_lt r1) (hne _ _ _ r1)).trans r1
  have s3 := (hg.block _ (block_lt r3) (hne _ _ _ r3)).trans r3
  have FIN : Hid (DropA w W3 mb n m k (.func (.func 62) #[] #[.pointer (some ⟨W1.heap.size, 0, none⟩), .pointer (some ⟨w.heap.size, 0, none⟩), .pointer (some ⟨w.heap.size + 1, 0, none⟩)])) :=
    ⟨⟨_, _, s0, s1, .inl ⟨y, _, hy, s3, .inr rfl⟩⟩, ht, far_two (far_two ⟨g1.os, g1.tape, g1.output, g1.size, fun k hk _ => g1.block k hk (by simp)⟩ ⟨g2.os, g2.tape, g2.output, g2.size, fun k hk _ => g2.block k hk (by simp)⟩) hg⟩
  have HW1 := hide hW1
  have HW2 := hide hW2
  have a0 := block_cell q0 0
  have a1 := block_cell q1 0
  have al := block_lt q1
  have z0 := block_cell r0 0
  have z1 := block_cell r1 0
  have zl := block_lt r1
  have ZZ := hide (And.intro z0 (And.intro z1 zl))
  simp at a0 a1
  clear h h1 h2 g1 g2 q0 q1 r0 r1 r3 hne s0 s1 s3 ht hg hW1 hW2 e1 e3 hx hy z0 z1 zl
  unfold Ac.zero Ac.arr at *
  simp only [Option.getD_some] at hlk
  go_enter Try.func49, Try.ntmps49
  go_upto_region 1 with fail
  rw [HW1.out]
  clear HW1
  go_upto_region 2 with fail
  rw [HW2.out]
  obtain ⟨z0, z1, zl⟩ := ZZ.out
  simp at z0 z1
  clear a0 a1 al hlk HW2 ZZ
  go_upto_region 3 with fail
  clear z0 z1 zl hr
  go_wp2
  go_ret
  exact ⟨_, rfl, FIN.out⟩
/-- What takes a change of map mb back: at x there was old. -/
def BackH (W : World) (mb x : Nat) (old : Option Ho) (v : Value) : Prop :=
  ∃ q0 q1, W.heap[q0]? = some (.cells #[.map (some mb)] 66 (0, 0)) ∧ W.heap[q1]? = some (.cells #[.int .u64 (x : Nat)] 25 (0, 0)) ∧
    ((∃ a q, old = some a ∧ W.heap[q]? = some (.cells a.arr 83 (0, 0)) ∧ (v = .func (.func 78) #[] #[.pointer (some ⟨q, 0, none⟩), .pointer (some ⟨q0, 0, none⟩), .pointer (some ⟨q1, 0, none⟩)] ∨ v = .func (.func 77) #[] #[.pointer (some ⟨q, 0, none⟩), .pointer (some ⟨q0, 0, none⟩), .pointer (some ⟨q1, 0, none⟩)])) ∨
     (old = none ∧ v = .func (.func 79) #[] #[.pointer (some ⟨q0, 0, none⟩), .pointer (some ⟨q1, 0, none⟩)]))
theorem BackH.func {W : World} {mb x : Nat} {old : Option Ho} {v : Value} (h : BackH W mb x old v) : ∃ f ca, v = .func f #[] ca := by
  obtain ⟨q0, q1, _, _, ⟨a, q, _, _, rfl | rfl⟩ | ⟨_, rfl⟩⟩ := h
  · exact ⟨_, _, rfl⟩
  · exact ⟨_, _, rfl⟩
  · exact ⟨_, _, rfl⟩
/-- What put leaves. -/
def PutH (w w' : World) (mb n : Nat) (m : Nat → Option Ho) (a : Ho) (v : Value) : Prop := BackH w' mb a.id (m a.id) v ∧ THm w' mb (if (m a.id).isSome = true then n else n + 1) (fun x => if x = a.id then some a else m x) ∧ w.grownBy w' (some mb)
set_option maxRecDepth 10000 in
set_option maxHeartbeats 1600000 in
theorem putH {w : World} {mb n : Nat} {m : Nat → Option Ho} (h : THm w mb n m) (a : Ho) (hx : a.id < 18446744073709551616) (hn : n < maxLen) :
    Calls Try.prog 64 #[.map (some mb), .int .u64 (a.id : Nat), .agg a.arr] w fun e w' => ∃ v, e = .returned v ∧ Hid (PutH w w' mb n m a v) := by
  obtain ⟨W1, hW1⟩ : ∃ W1, ((w.alloc (.cells #[.map (some mb)] 66)).alloc (.cells #[.int .u64 (a.id : Nat)] 25)).alloc (.cells a.arr 83) = W1 := ⟨_, rfl⟩
  have e1 : (w.alloc (.cells #[.map (some mb)] 66)).heap.size = w.heap.size + 1 := by simp
  have e2 : ((w.alloc (.cells #[.map (some mb)] 66)).alloc (.cells #[.int .u64 (a.id : Nat)] 25)).heap.size = w.heap.size + 1 + 1 := by simp
  have e3 : W1.heap.size = w.heap.size + 1 + 1 + 1 := by rw [← hW1]; simp
  have g1 : w.grownBy W1 none := by rw [← hW1]; exact far_two (far_two (World.grownBy_alloc _ _ _) (World.grownBy_alloc _ _ _)) (World.grownBy_alloc _ _ _)
  have q0 : W1.heap[w.heap.size]? = some (.cells #[.map (some mb)] 66 (0, 0)) := by
    rw [← hW1]
    exact (((World.grownBy_alloc _ _ none).block _ (by rw [e2]; omega) (by simp)).trans ((World.grownBy_alloc _ _ none).block _ (by rw [e1]; omega) (by simp))).trans (alloc_atK _ _)
  have q1 : W1.heap[w.heap.size + 1]? = some (.cells #[.int .u64 (a.id : Nat)] 25 (0, 0)) := by
    rw [← hW1, ← e1]
    exact ((World.grownBy_alloc _ _ none).block _ (by rw [e2, e1]; omega) (by simp)).trans (alloc_atK _ _)
  have q2 : W1.heap[w.heap.size + 1 + 1]? = some (.cells a.arr 83 (0, 0)) := by
    rw [← hW1, ← e2]
    exact alloc_atK _ _
  have h1 := h.kept g1 (by simp)
  have hlk := h1.look_ok hx
  obtain ⟨W2, hW2⟩ : ∃ W2, W1.alloc (.cells ((m a.id).getD Ho.zero).arr 83) = W2 := ⟨_, rfl⟩
  have g2 : W1.grownBy W2 none := by rw [← hW2]; exact World.grownBy_alloc _ _ _
  have h2 := h1.kept g2 (by simp)
  have r0 := (g2.block _ (block_lt q0) (by simp)).trans q0
  have r1 := (g2.block _ (block_lt q1) (by simp)).trans q1
  have r2 := (g2.block _ (block_lt q2) (by simp)).trans q2
  have r3 : W2.heap[w.heap.size + 1 + 1 + 1]? = some (.cells ((m a.id).getD Ho.zero).arr 83 (0, 0)) := by rw [← hW2, ← e3]; exact alloc_atK _ _
  obtain ⟨W3, hr, ht, hg⟩ := h2.put a hx hn
  have hne : ∀ q cs t, W2.heap[q]? = some (.cells cs t (0, 0)) → some q ≠ some mb := fun q cs t hq e => by
    cases e
    obtain ⟨es, k, ho⟩ := h2.obj
    rw [hq] at ho
    cases ho
  have s0 := (hg.block _ (block_lt r0) (hne _ _ _ r0)).trans r0
  have s1 := (hg.block _ (block_lt r1) (hne _ _ _ r1)).trans r1
  have s3 := (hg.block _ (block_lt r3) (hne _ _ _ r3)).trans r3
  have FIN : Hid (∀ v, ((∃ y q, m a.id = some y ∧ W3.heap[q]? = some (.cells y.arr 83 (0, 0)) ∧ (v = .func (.func 78) #[] #[.pointer (some ⟨q, 0, none⟩), .pointer (some ⟨w.heap.size, 0, none⟩), .pointer (some ⟨w.heap.size + 1, 0, none⟩)])) ∨ (m a.id = none ∧ v = .func (.func 79) #[] #[.pointer (some ⟨w.heap.size, 0, none⟩), .pointer (some ⟨w.heap.size + 1, 0, none⟩)])) → PutH w W3 mb n m a v) := fun v hv => by
    refine ⟨⟨_, _, s0, s1, ?_⟩, ht, far_two (far_two ⟨g1.os, g1.tape, g1.output, g1.size, fun k hk _ => g1.block k hk (by simp)⟩ ⟨g2.os, g2.tape, g2.output, g2.size, fun k hk _ => g2.block k hk (by simp)⟩) hg⟩
    rcases hv with ⟨y, q, h1, h2, h3⟩ | h
    · exact .inl ⟨y, q, h1, h2, .inl h3⟩
    · exact .inr h
  rw [← e3] at s3
  have S3 := hide s3
  have HW1 := hide hW1
  have HW2 := hide hW2
  have E3 := hide e3
  have a0 := block_cell q0 0
  have a1 := block_cell q1 0
  have al := block_lt q1
  have R0 := hide r0
  have R1 := hide r1
  have R2 := hide r2
  simp at a0 a1
  clear h h1 h2 g1 g2 q0 q1 q2 r0 r1 r2 r3 hne s0 s1 s3 ht hg hW1 hW2 e1 e2 e3 hx hn
  obtain ⟨old, hold⟩ : ∃ old, m a.id = old := ⟨_, rfl⟩
  have HO := hide hold
  rw [hold] at hlk HW2 S3
  clear hold
  unfold Ho.arr at *
  go_enter Try.func64, Try.ntmps64
  go_upto_region 1 with fail
  rw [HW1.out]
  clear HW1
  go_upto_region 2 with fail
  rw [HW2.out]
  have z0 := block_cell R0.out 0
  have z1 := block_cell R1.out 0
  have y0 := block_cell R2.out 0
  have y1 := block_cell R2.out 1
  have y2 := block_cell R2.out 2
  have zl := block_lt R1.out
  have zm := block_lt R2.out
  simp at z0 z1 y0 y1 y2
  clear a0 a1 al hlk HW2 R0 R1 R2
  go_upto_region 3 with fail
  clear z0 z1 y0 y1 y2 zl zm hr
  rcases old with _ | y
  · go_wp2
    go_ret
    exact ⟨_, rfl, FIN.out _ (.inr ⟨HO.out, rfl⟩)⟩
  · go_wp2
    go_ret
    exact ⟨_, rfl, FIN.out _ (.inl ⟨y, _, HO.out, S3.out, rfl⟩)⟩
/-- What drop leaves. -/
def DropH (w w' : World) (mb n : Nat) (m : Nat → Option Ho) (k : Nat) (v : Value) : Prop := BackH w' mb k (m k) v ∧ THm w' mb n (fun x => if x = k then none else m x) ∧ w.grownBy w' (some mb)
set_option maxRecDepth 10000 in
set_option maxHeartbeats 1600000 in
theorem dropH {w : World} {mb n : Nat} {m : Nat → Option Ho} (h : THm w mb (n + 1) m) {k : Nat} (hx : k < 18446744073709551616) {y : Ho} (hy : m k = some y) :
    Calls Try.prog 63 #[.map (some mb), .int .u64 (k : Nat)] w fun e w' => ∃ v, e = .returned v ∧ Hid (DropH w w' mb n m k v) := by
  obtain ⟨W1, hW1⟩ : ∃ W1, ((w.alloc (.cells #[.map (some mb)] 66)).alloc (.cells #[.int .u64 (k : Nat)] 25)) = W1 := ⟨_, rfl⟩
  have e1 : (w.alloc (.cells #[.map (some mb)] 66)).heap.size = w.heap.size + 1 := by simp
  have e3 : W1.heap.size = w.heap.size + 1 + 1 := by rw [← hW1]; simp
  have g1 : w.grownBy W1 none := by rw [← hW1]; exact far_two (World.grownBy_alloc _ _ _) (World.grownBy_alloc _ _ _)
  have q0 : W1.heap[w.heap.size]? = some (.cells #[.map (some mb)] 66 (0, 0)) := by
    rw [← hW1]
    exact ((World.grownBy_alloc _ _ none).block _ (by rw [e1]; omega) (by simp)).trans (alloc_atK _ _)
  have q1 : W1.heap[w.heap.size + 1]? = some (.cells #[.int .u64 (k : Nat)] 25 (0, 0)) := by
    rw [← hW1, ← e1]
    exact alloc_atK _ _
  have h1 := h.kept g1 (by simp)
  have hlk := h1.look hx
  rw [hy] at hlk
  obtain ⟨W2, hW2⟩ : ∃ W2, W1.alloc (.cells y.arr 83) = W2 := ⟨_, rfl⟩
  have g2 : W1.grownBy W2 none := by rw [← hW2]; exact World.grownBy_alloc _ _ _
  have h2 := h1.kept g2 (by simp)
  have r0 := (g2.block _ (block_lt q0) (by simp)).trans q0
  have r1 := (g2.block _ (block_lt q1) (by simp)).trans q1
  have r3 : W2.heap[W1.heap.size]? = some (.cells y.arr 83 (0, 0)) := by rw [← hW2]; exact alloc_atK _ _
  obtain ⟨W3, hr, ht, hg⟩ := h2.del hx (by rw [hy]; rfl) 0
  have hne : ∀ q cs t, W2.heap[q]? = some (.cells cs t (0, 0)) → some q ≠ some mb := fun q cs t hq e => by
    cases e
    obtain ⟨es, k, ho⟩ := h2.obj
    rw [hq] at ho
    cases ho
  have s0 := (hg.block _ (block_lt r0) (hne _ _ _ r0)).trans r0
  have s1 := (hg.block _ (block_lt r1) (hne _ _ _ r1)).trans r1
  have s3 := (hg.block _ (block_lt r3) (hne _ _ _ r3)).trans r3
  have FIN : Hid (DropH w W3 mb n m k (.func (.func 77) #[] #[.pointer (some ⟨W1.heap.size, 0, none⟩), .pointer (some ⟨w.heap.size, 0, none⟩), .pointer (some ⟨w.heap.size + 1, 0, none⟩)])) :=
    ⟨⟨_, _, s0, s1, .inl ⟨y, _, hy, s3, .inr rfl⟩⟩, ht, far_two (far_two ⟨g1.os, g1.tape, g1.output, g1.size, fun k hk _ => g1.block k hk (by simp)⟩ ⟨g2.os, g2.tape, g2.output, g2.size, fun k hk _ => g2.block k hk (by simp)⟩) hg⟩
  have HW1 := hide hW1
  have HW2 := hide hW2
  have a0 := block_cell q0 0
  have a1 := block_cell q1 0
  have al := block_lt q1
  have z0 := block_cell r0 0
  have z1 := block_cell r1 0
  have zl := block_lt r1
  have ZZ := hide (And.intro z0 (And.intro z1 zl))
  simp at a0 a1
  clear h h1 h2 g1 g2 q0 q1 r0 r1 r3 hne s0 s1 s3 ht hg hW1 hW2 e1 e3 hx hy z0 z1 zl
  unfold Ho.zero Ho.arr at *
  simp only [Option.getD_some] at hlk
  go_enter Try.func63, Try.ntmps63
  go_upto_region 1 with fail
  rw [HW1.out]
  clear HW1
  go_upto_region 2 with fail
  rw [HW2.out]
  obtain ⟨z0, z1, zl⟩ := ZZ.out
  simp at z0 z1
  clear a0 a1 al hlk HW2 ZZ
  go_upto_region 3 with fail
  clear z0 z1 zl hr
  go_wp2
  go_ret
  exact ⟨_, rfl, FIN.out⟩
end Go.Proofs.Ytcfenjpdjogmdaa
namespace Go.Proofs.Ytcfenjpdjogmdaa
open Go.RowKit

abbrev nilS : Value := .slice none 0 0
set_option maxRecDepth 10000 in
set_option maxHeartbeats 400000 in
/-- Without marks nothing is noted. -/
theorem note0 {w : World} {p : Nat} (c : w.cell? ⟨p, 324, none⟩ = some (.slice none 0 0)) (v : Value) :
    Calls Try.prog 48 #[.pointer (some ⟨p, 324, none⟩), v] w fun e w' => e = .returned (.tuple #[]) ∧ w' = w := by
  have hlt : p < w.heap.size := World.block_lt_of_cell? w ⟨p, 324, none⟩ c
  go_enter Try.func48, Try.ntmps48
  go_wp2
  go_end0
  exact ⟨rfl, rfl⟩
/-- What takes a line of the journal back. -/
def BackJ (W : World) (p k sq : Nat) (old : Jn) (v : Value) : Prop :=
  ∃ q13 q11 q12 q5, W.heap[q13]? = some (.cells #[.int .u64 (old.sq : Nat), .int .i64 (old.kd : Nat), .int .u64 (old.fr : Nat), .int .u64 (old.tw : Nat), .int .u64 (old.am : Nat)] 68 (0, 0)) ∧ W.heap[q11]? = some (.cells #[.int .u64 (sq : Nat)] 25 (0, 0)) ∧ W.heap[q12]? = some (.cells #[.pointer (some ⟨p, 4 + k * 5, none⟩)] 137 (0, 0)) ∧ W.heap[q5]? = some (.cells #[.pointer (some ⟨p, 3, none⟩)] 116 (0, 0)) ∧
    v = .func (.func 76) #[] #[.pointer (some ⟨q13, 0, none⟩), .pointer (some ⟨q11, 0, none⟩), .pointer (some ⟨q12, 0, none⟩), .pointer (some ⟨q5, 0, none⟩)]
/-- Three boxes are made. -/
theorem three_boxes (w : World) (v0 v1 v2 : Value) (t0 t1 t2 : TypeId) : ∃ W, (((w.alloc (.cells #[v0] t0)).alloc (.cells #[v1] t1)).alloc (.cells #[v2] t2)).drew = W ∧ W.heap[w.heap.size]? = some (.cells #[v0] t0 (0, 0)) ∧ W.heap[w.heap.size + 1]? = some (.cells #[v1] t1 (0, 0)) ∧ W.heap[w.heap.size + 1 + 1]? = some (.cells #[v2] t2 (0, 0)) ∧ W.heap.size = w.heap.size + 3 ∧ w.grownBy W none := by
  have e1 : (w.alloc (.cells #[v0] t0)).heap.size = w.heap.size + 1 := by simp
  have e2 : ((w.alloc (.cells #[v0] t0)).alloc (.cells #[v1] t1)).heap.size = w.heap.size + 1 + 1 := by simp
  have q0 := ((World.grownBy_alloc ((w.alloc (.cells #[v0] t0)).alloc (.cells #[v1] t1)) (.cells #[v2] t2) none).block w.heap.size (by rw [e2]; omega) (by simp)).trans (((World.grownBy_alloc (w.alloc (.cells #[v0] t0)) (.cells #[v1] t1) none).block w.heap.size (by rw [e1]; omega) (by simp)).trans (alloc_atK w (.cells #[v0] t0)))
  have q1 := ((World.grownBy_alloc ((w.alloc (.cells #[v0] t0)).alloc (.cells #[v1] t1)) (.cells #[v2] t2) none).block _ (by rw [e2, e1]; omega) (by simp)).trans (alloc_atK (w.alloc (.cells #[v0] t0)) (.cells #[v1] t1))
  have q2 := alloc_atK ((w.alloc (.cells #[v0] t0)).alloc (.cells #[v1] t1)) (.cells #[v2] t2)
  rw [e1] at q1
  rw [e2] at q2
  have hg : w.grownBy (((w.alloc (.cells #[v0] t0)).alloc (.cells #[v1] t1)).alloc (.cells #[v2] t2)) none := far_two (far_two (World.grownBy_alloc _ _ _) (World.grownBy_alloc _ _ _)) (World.grownBy_alloc _ _ _)
  refine ⟨_, rfl, q0, q1, q2, ?_, ⟨hg.os, hg.tape, hg.output, hg.size, hg.block⟩⟩
  show (((w.alloc (.cells #[v0] t0)).alloc (.cells #[v1] t1)).alloc (.cells #[v2] t2)).heap.size = _
  simp
theorem ring5_low {W : World} {p : Nat} {cs : Array Value} {t : TypeId} (h : W.heap[p]? = some (.cells cs t (0, 0))) (k : Nat) (sq kd fr tw am : Int) : ∃ cs' : Array Value, (ring5 W p k sq kd fr tw am).heap[p]? = some (.cells cs' t (0, 0)) ∧ ∀ j, j < 4 + k * 5 → cs'[j]? = cs[j]? := by
  refine ⟨_, heap_setCell_same _ p _ _ _ _ (heap_setCell_same _ p _ _ _ _ (heap_setCell_same _ p _ _ _ _ (heap_setCell_same _ p _ _ _ _ (heap_setCell_same W p _ _ _ _ h)))), fun j hj => ?_⟩
  simp only [Array.getElem?_setIfInBounds]
  repeat rw [if_neg (by omega)]
set_option maxRecDepth 10000 in
set_option maxHeartbeats 1600000 in
theorem jwriteA {w : World} {p a b : Nat} {mk ch : Value} {S : LS} (h : LG w p a b mk ch S) (hok : S.Ok) (kd fr tw am : Nat) :
    Calls Try.prog 61 #[.pointer (some ⟨p, 3, none⟩), .int .i64 (kd : Nat), .int .u64 (fr : Nat), .int .u64 (tw : Nat), .int .u64 (am : Nat)] w fun e w' => ∃ v, e = .returned v ∧ Hid (BackJ w' p (S.nx % 64) S.nx (S.rg (S.nx % 64)) v ∧ LG w' p a b mk ch (S.line kd fr tw am) ∧ w.grownBy w' (some p)) := by
  obtain ⟨k, hk⟩ : ∃ k, S.nx % 64 = k := ⟨_, rfl⟩
  obtain ⟨n, hn⟩ : ∃ n, S.nx = n := ⟨_, rfl⟩
  have hk64 : k < 64 := by omega
  have c3 := h.c.2.2.2.1
  rw [hn] at c3
  have hlt := h.lt.1
  have hm : (n : Int).tmod 64 = (k : Int) := by rw [Int.tmod_eq_emod_of_nonneg (by omega)]; omega
  go_enter Try.func61, Try.ntmps61
  have hki : (k : Int) < 64 := by omega
  have hk0 : (0 : Int) ≤ (k : Int) := by omega
  have HN := hide hn
  have HK := hide hk
  have HL := hide h
  have HO := hide hok
  clear h hok hn hk
  go_wp2_with fail
  go_region_held (fun w' => w'.cell? ⟨w.heap.size, 0, none⟩ = some (.pointer (some ⟨p, 3, none⟩)) ∧ w'.cell? ⟨w.heap.size + 1, 0, none⟩ = some (.int .u64 n)) (go_keep) (fail)
  obtain ⟨W, hW, q0, q1, q2, hsz, hg⟩ := three_boxes w (.pointer (some ⟨p, 3, none⟩)) (.int .u64 (n : Nat)) (.pointer (some ⟨p, 4 + k * 5, none⟩)) 116 25 137
  rw [hW]
  obtain ⟨W3, hW3⟩ : ∃ W3, W.alloc (.cells #[.int .u64 ((S.rg k).sq : Nat), .int .i64 ((S.rg k).kd : Nat), .int .u64 ((S.rg k).fr : Nat), .int .u64 ((S.rg k).tw : Nat), .int .u64 ((S.rg k).am : Nat)] 68) = W3 := ⟨_, rfl⟩
  have g3 : W.grownBy W3 none := by rw [← hW3]; exact World.grownBy_alloc _ _ _
  have hLW := HL.out.other hg (by simp) (by simp) (by simp)
  have hL3 := hLW.other g3 (by simp) (by simp) (by simp)
  obtain ⟨r0, r1, r2, r3, r4⟩ := hLW.ring hk64
  have q3 : W3.heap[W.heap.size]? = some (.cells #[.int .u64 ((S.rg k).sq : Nat), .int .i64 ((S.rg k).kd : Nat), .int .u64 ((S.rg k).fr : Nat), .int .u64 ((S.rg k).tw : Nat), .int .u64 ((S.rg k).am : Nat)] 68 (0, 0)) := by rw [← hW3]; exact alloc_atK _ _
  obtain ⟨W4, hW4⟩ : ∃ W4, ring5 W3 p k (n : Int) (kd : Int) (fr : Int) (tw : Int) (am : Int) = W4 := ⟨_, rfl⟩
  have g4 : W3.grownBy W4 (some p) := by
    rw [← hW4]
    unfold ring5
    exact far_two (far_two (far_two (far_two (grown_set _ p _ _) (grown_set _ p _ _)) (grown_set _ p _ _)) (grown_set _ p _ _)) (grown_set _ p _ _)
  have g5 : W4.grownBy (W4.setCell ⟨p, 3, none⟩ (.int .u64 ((n : Int) + 1))) (some p) := grown_set _ p _ _
  have hLf := hL3.toLine kd fr tw am
  have hkn : n % 64 = k := by rw [← HN.out]; exact HK.out
  rw [HN.out, hkn, hW4] at hLf
  obtain ⟨cs, hcs, _⟩ := hL3.blk
  obtain ⟨cs', hcs', hlow⟩ := ring5_low hcs k (n : Int) (kd : Int) (fr : Int) (tw : Int) (am : Int)
  rw [hW4] at hcs'
  have ne0 : p ≠ w.heap.size := by omega
  have ne1 : p ≠ w.heap.size + 1 := by omega
  have ne2 : p ≠ w.heap.size + 1 + 1 := by omega
  have ne3 : p ≠ W.heap.size := by omega
  have s0 := (g3.block _ (block_lt q0) (by simp)).trans q0
  have s1 := (g3.block _ (block_lt q1) (by simp)).trans q1
  have s2 := (g3.block _ (block_lt q2) (by simp)).trans q2
  have u0 := (g4.block _ (block_lt s0) (fun e => ne0 (Option.some.inj e).symm)).trans s0
  have u1 := (g4.block _ (block_lt s1) (fun e => ne1 (Option.some.inj e).symm)).trans s1
  have u2 := (g4.block _ (block_lt s2) (fun e => ne2 (Option.some.inj e).symm)).trans s2
  have u3 := (g4.block _ (block_lt q3) (fun e => ne3 (Option.some.inj e).symm)).trans q3
  have x0 := (g5.block _ (block_lt u0) (fun e => ne0 (Option.some.inj e).symm)).trans u0
  have x1 := (g5.block _ (block_lt u1) (fun e => ne1 (Option.some.inj e).symm)).trans u1
  have x2 := (g5.block _ (block_lt u2) (fun e => ne2 (Option.some.inj e).symm)).trans u2
  have x3 := (g5.block _ (block_lt u3) (fun e => ne3 (Option.some.inj e).symm)).trans u3
  have c4 : W4.cell? ⟨p, 3, none⟩ = some (.int .u64 n) := by
    have h3 := hL3.c.2.2.2.1
    rw [block_cell hcs 3, HN.out] at h3
    exact (block_cell hcs' 3).trans ((hlow 3 (by omega)).trans h3)
  have l4 : p < W4.heap.size := Nat.lt_of_lt_of_le hL3.lt.1 g4.size
  have f4 : W4.frozen? ⟨p, 3, none⟩ = false := block_free hcs' 3
  have HFIN : Hid (BackJ (W4.setCell ⟨p, 3, none⟩ (.int .u64 ((n : Int) + 1))) p (S.nx % 64) S.nx (S.rg (S.nx % 64)) (.func (.func 76) #[] #[.pointer (some ⟨W.heap.size, 0, none⟩), .pointer (some ⟨w.heap.size + 1, 0, none⟩), .pointer (some ⟨w.heap.size + 1 + 1, 0, none⟩), .pointer (some ⟨w.heap.size, 0, none⟩)]) ∧ LG (W4.setCell ⟨p, 3, none⟩ (.int .u64 ((n : Int) + 1))) p a b mk ch (S.line kd fr tw am) ∧ w.grownBy (W4.setCell ⟨p, 3, none⟩ (.int .u64 ((n : Int) + 1))) (some p)) := by
    refine ⟨?_, hLf, far_two (far_two (far_two ⟨hg.os, hg.tape, hg.output, hg.size, fun k hk _ => hg.block k hk (by simp)⟩ ⟨g3.os, g3.tape, g3.output, g3.size, fun k hk _ => g3.block k hk (by simp)⟩) g4) g5⟩
    rw [HK.out, HN.out]
    exact ⟨_, _, _, _, x3, x1, x2, x0, rfl⟩
  have HC := hide (And.intro c4 (And.intro l4 f4))
  have HS := hide (And.intro (block_cell u0 0) (block_lt u0))
  have f3 := hL3.free
  have l3 := hL3.lt.1
  have z0 := block_cell q0 0
  have z1 := block_cell q1 0
  have z2 := block_cell q2 0
  have zl := block_lt q2
  have plW := hLW.lt.1
  simp at z0 z1 z2
  have HW3 := hide hW3
  have HW4 := hide hW4
  have HY := hide (And.intro (block_cell s0 0) (And.intro (block_cell s1 0) (And.intro (block_cell s2 0) (block_lt s2))))
  have HZ := hide (And.intro (f3 (4 + k * 5)) (And.intro (f3 (4 + k * 5 + 1)) (And.intro (f3 (4 + k * 5 + 2)) (And.intro (f3 (4 + k * 5 + 3)) (f3 (4 + k * 5 + 4))))))
  have HX := hide (hL3.ring hk64)
  have hwr : IntKind.u64.wrap ((n : Int) + 1) = (n : Int) + 1 := IntWalk.u64_in _ ⟨by omega, by have := HN.out; have := HO.out.n1; omega⟩
  clear c3 hlt hm hki hk0 HN HK HL hsz hg hW g3 hLW hL3 q0 q1 q2 q3 hW3 hW4 g4 g5 hLf s0 s1 s2 u0 u1 u2 u3 x0 x1 x2 x3 c4 l4 f4 f3 hcs hcs' hlow HO ne0 ne1 ne2 ne3 hkn
  unfold ring5 at HW4
  generalize 4 + k * 5 = o at *
  go_upto_region 4 with fail
  rw [HW3.out]
  clear HW3 z0 z1 z2 zl plW r0 r1 r2 r3 r4
  obtain ⟨z0, z1, z2, zl⟩ := HY.out
  obtain ⟨r0, r1, r2, r3, r4⟩ := HX.out
  obtain ⟨f0, f1, f2, f3, f4⟩ := HZ.out
  simp at z0 z1 z2
  clear HX HY HZ
  go_upto_region 5 with fail
  rw [HW4.out]
  clear HW4 z0 z1 z2 zl r0 r1 r2 r3 r4 f0 f1 f2 f3 f4 l3
  obtain ⟨z0, zl⟩ := HS.out
  obtain ⟨c4, l4, f4⟩ := HC.out
  simp at z0
  go_wp2
  go_ret
  exact ⟨_, rfl, HFIN.out⟩
end Go.Proofs.Ytcfenjpdjogmdaa
namespace Go.Proofs.Ytcfenjpdjogmdaa
open Go.RowKit

/-- Nothing but the ledger's three blocks and new ones has turned. -/
structure Fr3 (w w' : World) (p a b : Nat) : Prop where
  os : w'.os = w.os
  tape : w'.tape = w.tape
  output : w'.output = w.output
  size : w.heap.size ≤ w'.heap.size
  block : ∀ k, k < w.heap.size → k ≠ p → k ≠ a → k ≠ b → w'.heap[k]? = w.heap[k]?
theorem Fr3.refl (w : World) (p a b : Nat) : Fr3 w w p a b := ⟨rfl, rfl, rfl, Nat.le_refl _, fun _ _ _ _ _ => rfl⟩
theorem Fr3.trans {w w1 w2 : World} {p a b : Nat} (h : Fr3 w w1 p a b) (h' : Fr3 w1 w2 p a b) : Fr3 w w2 p a b := ⟨h'.os.trans h.os, h'.tape.trans h.tape, h'.output.trans h.output, Nat.le_trans h.size h'.size, fun k hk h1 h2 h3 => (h'.block k (Nat.lt_of_lt_of_le hk h.size) h1 h2 h3).trans (h.block k hk h1 h2 h3)⟩
theorem Fr3.of {w w' : World} {p a b : Nat} {row : Option Nat} (h : w.grownBy w' row) (hr : ∀ r, row = some r → r = p ∨ r = a ∨ r = b) : Fr3 w w' p a b :=
  ⟨h.os, h.tape, h.output, h.size, fun k hk h1 h2 h3 => h.block k hk (fun e => by rcases hr k e.symm with e | e | e <;> contradiction)⟩
theorem Fr3.below {w w' : World} {p a b : Nat} (h : Below w.heap.size w w') : Fr3 w w' p a b := Fr3.of (below_none h) (fun r e => by cases e)
set_option maxRecDepth 10000 in
theorem madeG {w : World} {p a b : Nat} {mk ch : Value} {S : LS} (h : LG w p a b mk ch S) :
    Calls Try.prog 28 #[.pointer (some ⟨p, 0, none⟩)] w fun e w' => e = .returned (.bool true) ∧ w' = w := by
  obtain ⟨c0, c1, _⟩ := h.c
  have cl := h.lt.1
  have hm := map_someA a w
  clear h
  go_enter Try.func28, Try.ntmps28
  go_wp2
  go_ret
  exact ⟨rfl, rfl⟩
set_option maxRecDepth 10000 in
theorem fullG {w : World} {p a b : Nat} {mk ch : Value} {S : LS} (h : LG w p a b mk ch S) (hok : S.Ok) (n : Nat) (hn : n < 9223372036854775808) :
    Calls Try.prog 44 #[.pointer (some ⟨p, 3, none⟩), .int .i64 (n : Nat)] w fun e w' => e = .returned (.bool (S.full n)) ∧ w' = w := by
  have c3 := h.c.2.2.2.1
  have cl := h.lt.1
  have h1 := hok.n1
  obtain ⟨x, hx⟩ : ∃ x, S.nx = x := ⟨_, rfl⟩
  have HE : Hid (decide (4611686018427387904 - (x : Int) < (n : Int)) = S.full n) := by
    unfold LS.full
    rw [hx]
    rw [hx] at h1
    exact decide_eq_decide.2 (by omega)
  rw [hx] at c3 h1
  have hw : IntKind.u64.wrap ((4611686018427387904 : Int) - (x : Int)) = (4611686018427387904 : Int) - (x : Int) := IntWalk.u64_in _ ⟨by omega, by omega⟩
  have hw2 : IntKind.u64.wrap ((n : Int)) = (n : Int) := IntWalk.u64_in _ ⟨by omega, by omega⟩
  clear h hok h1 hn hx
  go_enter Try.func44, Try.ntmps44
  go_wp2
  go_ret
  exact ⟨by rw [← HE.out]; rfl, rfl⟩
set_option maxRecDepth 10000 in
theorem roomG (w : World) (x : Ac) (hx : x.In) (hc : x.ba ≤ x.cp) :
    Calls Try.prog 50 #[.agg x.arr] w fun e w' => e = .returned (.int .u64 ((x.cp - x.ba : Nat) : Int)) ∧ Hid (Below w.heap.size w w') := by
  have h2 := hx.h2
  have h3 := hx.h3
  have hw : IntKind.u64.wrap ((x.cp : Int) - (x.ba : Int)) = ((x.cp - x.ba : Nat) : Int) := by
    rw [IntWalk.u64_in _ ⟨by omega, by omega⟩]
    omega
  clear h2 h3 hx hc
  unfold Ac.arr
  generalize ((x.cp - x.ba : Nat) : Int) = R at *
  generalize (x.id : Int) = X0 at *
  generalize (x.ow : Int) = X1 at *
  generalize (x.ba : Int) = X2 at *
  generalize (x.cp : Int) = X3 at *
  go_enter Try.func50, Try.ntmps50
  go_wp2
  go_ret
  exact ⟨rfl, (Below.refl _ w).alloc (Nat.le_refl _) _⟩
set_option maxRecDepth 10000 in
set_option maxHeartbeats 800000 in
theorem lwriteG {w : World} {p a b : Nat} {ch : Value} {S : LS} (h : LG w p a b nilS ch S) (hok : S.Ok) (kd fr tw am : Nat) :
    Calls Try.prog 46 #[.pointer (some ⟨p, 0, none⟩), .int .i64 (kd : Nat), .int .u64 (fr : Nat), .int .u64 (tw : Nat), .int .u64 (am : Nat)] w fun e w' => e = .returned (.tuple #[]) ∧ Hid (LG w' p a b nilS ch (S.line kd fr tw am) ∧ Fr3 w w' p a b) := by
  have hd : LG w.drew p a b nilS ch S := h.kept (Below.refl _ w).drew
  have HJ := hide (jwriteA hd hok kd fr tw am)
  have cl := h.lt.1
  clear h hd hok
  go_enter Try.func46, Try.ntmps46
  go_region_with (first | (go_at_call 61; refine HJ.out.mono ?_; rintro e w1 ⟨v, rfl, HG⟩; have HN := hide (note0 HG.out.2.1.c.2.2.2.2.1 v)) | (go_at_call 48; refine HN.out.mono ?_; rintro e w2 ⟨rfl, rfl⟩))
  go_wp2
  go_end0
  have h := HG.out.2.2
  exact ⟨rfl, HG.out.2.1, Fr3.of (row := some p) ⟨h.os, h.tape, h.output, h.size, h.block⟩ (fun r e => .inl (Option.some.inj e).symm)⟩
set_option maxRecDepth 10000 in
set_option maxHeartbeats 1600000 in
theorem setAccG {w : World} {p a b : Nat} {ch : Value} {S : LS} (h : LG w p a b nilS ch S) (hn : S.acc.length ≤ 64) (x : Ac) (hx : x.id < 18446744073709551616) {l : List Ac} (hb : ∀ y, byK Ac.id l y = if y = x.id then some x else byK Ac.id S.acc y) (hl : l.length = if (byK Ac.id S.acc x.id).isSome = true then S.acc.length else S.acc.length + 1) :
    Calls Try.prog 45 #[.pointer (some ⟨p, 0, none⟩), .agg x.arr] w fun e w' => e = .returned (.tuple #[]) ∧ Hid (LG w' p a b nilS ch { S with acc := l } ∧ Fr3 w w' p a b) := by
  have c1 := h.c.2.1
  have cl := h.lt.1
  have HP : Hid (Calls Try.prog 60 #[.map (some a), .int .u64 (x.id : Nat), .agg x.arr] (w.alloc (.cells x.arr 80)).drew fun e w' => ∃ v, e = .returned v ∧ w'.cell? ⟨p, 1, none⟩ = some (.map (some a)) ∧ (w'.cell? ⟨w.heap.size, 0, none⟩ = some (.int .u64 (x.id : Nat)) ∧ w'.cell? ⟨w.heap.size, 1, none⟩ = some (.int .u64 (x.ow : Nat)) ∧ w'.cell? ⟨w.heap.size, 2, none⟩ = some (.int .u64 (x.ba : Nat)) ∧ w'.cell? ⟨w.heap.size, 3, none⟩ = some (.int .u64 (x.cp : Nat))) ∧ Hid (LG w' p a b nilS ch { S with acc := l } ∧ Fr3 w w' p a b)) := by
    have hg0 : w.grownBy (w.alloc (.cells x.arr 80)).drew none := ⟨rfl, rfl, rfl, by show w.heap.size ≤ (w.alloc _).heap.size; simp, (World.grownBy_alloc w (.cells x.arr 80) none).block⟩
    have h0 := h.other hg0 (by simp) (by simp) (by simp)
    have q0 : (w.alloc (.cells x.arr 80)).drew.heap[w.heap.size]? = some (.cells x.arr 80 (0, 0)) := alloc_atK _ _
    refine (putA h0.acc x hx (by unfold maxLen; omega)).mono ?_
    rintro e w' ⟨v, rfl, G⟩
    obtain ⟨_, ht, hg⟩ := G.out
    have ht' : TAm w' a l.length (byK Ac.id l) := ht.congr hl.symm (fun y => (hb y).symm)
    have hL := h0.toA ht' hg
    have hne : w.heap.size ≠ a := fun e => by have := h.lt.2.1; omega
    have q1 := (hg.block _ (block_lt q0) (fun e => hne (Option.some.inj e))).trans q0
    exact ⟨v, rfl, hL.c.2.1, ⟨block_cell q1 0, block_cell q1 1, block_cell q1 2, block_cell q1 3⟩, hL, (Fr3.of hg0 (fun r e => by cases e)).trans (Fr3.of hg (fun r e => .inr (.inl (Option.some.inj e).symm)))⟩
  clear h hn hx hb hl
  unfold Ac.arr at *
  generalize (x.id : Int) = X0 at *
  generalize (x.ow : Int) = X1 at *
  generalize (x.ba : Int) = X2 at *
  generalize (x.cp : Int) = X3 at *
  go_enter Try.func45, Try.ntmps45
  go_wp2_with fail
  go_region_held (fun w' => w'.cell? ⟨p, 1, none⟩ = some (.map (some a)) ∧ (w'.cell? ⟨w.heap.size, 0, none⟩ = some (.int .u64 X0) ∧ w'.cell? ⟨w.heap.size, 1, none⟩ = some (.int .u64 X1) ∧ w'.cell? ⟨w.heap.size, 2, none⟩ = some (.int .u64 X2) ∧ w'.cell? ⟨w.heap.size, 3, none⟩ = some (.int .u64 X3))) (go_keep)
    (first | (go_at_call 60; refine HP.out.mono ?_; rintro e w1 ⟨v, rfl, h1, h2, HG⟩; have HN := hide (note0 HG.out.1.c.2.2.2.2.1 v)) | (go_at_call 48; refine HN.out.mono ?_; rintro e w2 ⟨rfl, rfl⟩))
  go_wp2
  go_end0
  exact ⟨rfl, HG.out⟩
end Go.Proofs.Ytcfenjpdjogmdaa
namespace Go.Proofs.Ytcfenjpdjogmdaa
open Go.RowKit

/-- A call has left the ledger as S'. -/
def LgP (w w' : World) (p a b : Nat) (ch : Value) (S' : LS) : Prop := LG w' p a b nilS ch S' ∧ Fr3 w w' p a b
theorem pair_inv {x c : Nat} {T S' : LS} (h : (x, T) = (c, S')) : c = x ∧ S' = T := by cases h; exact ⟨rfl, rfl⟩
set_option maxRecDepth 10000 in
set_option maxHeartbeats 3200000 in
theorem createG {w : World} {p a b : Nat} {ch : Value} {S : LS} (h : LG w p a b nilS ch S) (hok : S.Ok) {id ow cp : Nat} (hi : id < 18446744073709551616) (ho : ow < 18446744073709551616) (hc : cp < 18446744073709551616) {c : Nat} {S' : LS} (hS : S.creates id ow cp = (c, S')) :
    Calls Try.prog 20 #[.pointer (some ⟨p, 0, none⟩), .int .u64 (id : Nat), .int .u64 (ow : Nat), .int .u64 (cp : Nat)] w fun e w' => e = .returned (.int .i64 (c : Nat)) ∧ Hid (LgP w w' p a b ch S') := by
  have HS := hide hS
  clear hS
  have c1 := h.c.2.1
  have cl := h.lt.1
  have HM := hide (madeG h)
  have hlk := h.acc.look_ok hi
  obtain ⟨old, hold⟩ : ∃ old, byK Ac.id S.acc id = old := ⟨_, rfl⟩
  obtain ⟨W1, hW1⟩ : ∃ W1, w.alloc (.cells (old.getD Ac.zero).arr 80) = W1 := ⟨_, rfl⟩
  have b1 : Below w.heap.size w W1 := by rw [← hW1]; exact (Below.refl _ w).alloc (Nat.le_refl _) _
  have h1 := h.kept b1
  have f1 : Fr3 w W1 p a b := Fr3.below b1
  have d1 := h1.c.2.1
  have dl := h1.lt.1
  obtain ⟨n, hn⟩ : ∃ n, S.acc.length = n := ⟨_, rfl⟩
  have hlen := h1.acc.len 3
  rw [hn] at hlen
  have HL := hide h1
  have HO := hide hok
  have HF1 := hide f1
  have HW1 := hide hW1
  have HOLD := hide hold
  have HN := hide hn
  have HFU := hide (fullG h1 hok 1 (by decide))
  have HI := hide (And.intro hi (And.intro ho hc))
  rw [hold] at hlk
  clear h hok b1 h1 f1 hW1 hold hn hi ho hc
  unfold Ac.arr at hlk HW1
  go_enter Try.func20, Try.ntmps20
  go_wp2_with fail
  refine HM.out.mono ?_
  rintro e w1 ⟨rfl, rfl⟩
  clear HM
  go_upto_region 4 with fail
  rw [HW1.out]
  clear HW1 hlk c1 cl
  by_cases h0 : id = 0
  · have e : S.creates id ow cp = (40, S) := by unfold LS.creates; rw [if_pos h0]
    have HR := hide (pair_inv (e.symm.trans HS.out))
    have HE : Hid (LgP w1 W1 p a b ch S) := ⟨HL.out, HF1.out⟩
    subst h0
    clear e HFU
    go_wp2
    go_ret
    exact ⟨by rw [HR.out.1]; rfl, by rw [HR.out.2]; exact HE.out⟩
  have g0 : ((id : Int) == 0) = false := by simp; omega
  rcases old with _ | y
  · by_cases hln : 64 ≤ n
    · have e : S.creates id ow cp = (43, S) := by unfold LS.creates; rw [if_neg h0, HOLD.out, if_neg (by simp), HN.out, if_pos (.inl hln)]
      have HR := hide (pair_inv (e.symm.trans HS.out))
      have HE : Hid (LgP w1 W1 p a b ch S) := ⟨HL.out, HF1.out⟩
      have g1 : decide ((n : Int) ≥ 64) = true := decide_eq_true (by omega)
      clear e HFU h0
      go_wp2
      go_ret
      exact ⟨by rw [HR.out.1]; rfl, by rw [HR.out.2]; exact HE.out⟩
    have g1 : decide ((n : Int) ≥ 64) = false := decide_eq_false (by omega)
    have g1' : decide ((64 : Int) ≤ (n : Int)) = false := decide_eq_false (by omega)
    by_cases hf : S.full 1 = true
    · have e : S.creates id ow cp = (43, S) := by unfold LS.creates; rw [if_neg h0, HOLD.out, if_neg (by simp), HN.out, if_pos (.inr hf)]
      have HR := hide (pair_inv (e.symm.trans HS.out))
      rw [hf] at HFU
      have HE : Hid (LgP w1 W1 p a b ch S) := ⟨HL.out, HF1.out⟩
      clear e h0 hln hf
      go_wp2_with fail
      refine HFU.out.mono ?_
      rintro e w2 ⟨rfl, rfl⟩
      go_wp2
      go_ret
      exact ⟨by rw [HR.out.1]; rfl, by rw [HR.out.2]; exact HE.out⟩
    · have e : S.creates id ow cp = (0, ({ S with acc := insK Ac.id S.acc ⟨id, ow, 0, cp⟩ } : LS).line 1 id 0 cp) := by unfold LS.creates; rw [if_neg h0, HOLD.out, if_neg (by simp), HN.out, if_neg (by rw [not_or]; exact ⟨hln, hf⟩)]
      have HR := hide (pair_inv (e.symm.trans HS.out))
      have hf' : S.full 1 = false := by simpa using hf
      rw [hf'] at HFU
      have hins : ∀ y, byK Ac.id (insK Ac.id S.acc ⟨id, ow, 0, cp⟩) y = if y = (⟨id, ow, 0, cp⟩ : Ac).id then some ⟨id, ow, 0, cp⟩ else byK Ac.id S.acc y := byK_ins HOLD.out
      have HSA := hide (setAccG HL.out (by rw [HN.out]; omega) ⟨id, ow, 0, cp⟩ HI.out.1 hins (by rw [insK_len, HOLD.out]; rfl))
      have HO2 : Hid (({ S with acc := insK Ac.id S.acc ⟨id, ow, 0, cp⟩ } : LS).Ok) := HO.out.insA (a := ⟨id, ow, 0, cp⟩) ⟨HI.out.1, HI.out.2.1, by show 0 < _; decide, HI.out.2.2⟩ (Nat.zero_le _) h0 HOLD.out (by rw [HN.out]; omega)
      clear e h0 hln hf hf' hins
      go_wp2_with fail
      refine HFU.out.mono ?_
      rintro e w2 ⟨rfl, rfl⟩
      clear HFU
      go_wp2_with fail
      refine HSA.out.mono ?_
      rintro e w3 ⟨rfl, G3⟩
      have HLW := hide (lwriteG G3.out.1 HO2.out 1 id 0 cp)
      have HF3 := hide (HF1.out.trans G3.out.2)
      clear HSA G3 hlen d1 dl
      go_wp2_with fail
      refine HLW.out.mono ?_
      rintro e w4 ⟨rfl, G4⟩
      have HE : Hid (LgP w1 w4 p a b ch (({ S with acc := insK Ac.id S.acc ⟨id, ow, 0, cp⟩ } : LS).line 1 id 0 cp)) := ⟨G4.out.1, HF3.out.trans G4.out.2⟩
      clear HLW G4
      go_wp2
      go_ret
      exact ⟨by rw [HR.out.1]; rfl, by rw [HR.out.2]; exact HE.out⟩
  · have e : S.creates id ow cp = (41, S) := by unfold LS.creates; rw [if_neg h0, HOLD.out, if_pos (show (some y).isSome = true from rfl)]
    have HR := hide (pair_inv (e.symm.trans HS.out))
    have HE : Hid (LgP w1 W1 p a b ch S) := ⟨HL.out, HF1.out⟩
    clear e HFU h0
    go_wp2
    go_ret
    exact ⟨by rw [HR.out.1]; rfl, by rw [HR.out.2]; exact HE.out⟩
end Go.Proofs.Ytcfenjpdjogmdaa
