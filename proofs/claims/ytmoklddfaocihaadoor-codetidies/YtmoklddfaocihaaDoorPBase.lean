import Derived.Test.YtmoklddfaocihaaDoorPCore
import Derived.ArgAppend
import Derived.Laws.CopyOwn
import Derived.Laws.OwnMore
import Derived.WalkSmall
import Derived.Deep.QuietTactic
import Derived.BigQuiet
import Derived.Deep.RegionHeld
import Derived.Laws.BitsAllLaws
namespace Go.Proofs.YtmoklddfaocihaaDoor
open Go.RowKit Crc

theorem getD_take {B : List Nat} {k i : Nat} (h : i < k) : (B.take k).getD i 0 = B.getD i 0 := by
  rw [List.getD_eq_getElem?_getD, List.getD_eq_getElem?_getD, List.getElem?_take, if_pos h]
theorem getD_drop {B : List Nat} {k i : Nat} : (B.drop k).getD i 0 = B.getD (k + i) 0 := by
  rw [List.getD_eq_getElem?_getD, List.getD_eq_getElem?_getD, List.getElem?_drop]
def hi (B : List Nat) : Nat := B.foldl (fun v c => v * 256 + c) 0
theorem hi_step (B : List Nat) (k : Nat) (h : k < B.length) : hi (B.take (k + 1)) = hi (B.take k) * 256 + B.getD k 0 := by
  rw [take_snoc B k h]; simp [hi, List.foldl_append]
theorem hi_lt (B : List Nat) (hB : ∀ x ∈ B, x < 256) : hi B < 256 ^ B.length := by
  have gen : ∀ (B : List Nat) (v : Nat), (∀ x ∈ B, x < 256) → B.foldl (fun v c => v * 256 + c) v < (v + 1) * 256 ^ B.length := by
    intro B
    induction B with
    | nil => intro v _; simp
    | cons c r ih =>
      intro v hB
      have hc := hB c (by simp)
      have := ih (v * 256 + c) (fun x hx => hB x (by simp [hx]))
      simp only [List.foldl_cons, List.length_cons]
      refine Nat.lt_of_lt_of_le this ?_
      rw [Nat.pow_succ, Nat.mul_comm (256 ^ r.length) 256, ← Nat.mul_assoc]
      exact Nat.mul_le_mul_right _ (by omega)
  have := gen B 0 hB
  simpa [hi] using this
theorem or_u64 (v c : Nat) (hv : v < 72057594037927936) (hc : c < 256) : bits .or .u64 ((v : Int) * (256 : Int)) (c : Int) = ((v * 256 + c : Nat) : Int) := by
  have e : (v : Int) * (256 : Int) = ((v * 256 : Nat) : Int) := by omega
  rw [e, u64_or_nat _ _ (by omega) (by omega)]
  congr 1
  have := Nat.two_pow_add_eq_or_of_lt (i := 8) (b := c) hc v
  rw [show v * 256 = 2 ^ 8 * v by omega, ← this]
theorem or_add (a c k : Nat) (h : a < 2 ^ k) : a ||| c * 2 ^ k = a + c * 2 ^ k := by
  have := Nat.two_pow_add_eq_or_of_lt (i := k) (b := a) h c
  rw [Nat.or_comm, Nat.mul_comm c, ← this, Nat.add_comm]
theorem vals_len (B : List Nat) : (vals B).length = B.length := by simp [vals]
theorem vals_get (B : List Nat) (j : Nat) (v : Value) (h : (vals B)[j]? = some v) : j < B.length ∧ v = .int .u8 ((B.getD j 0 : Nat) : Int) := by
  unfold vals at h
  rw [List.getElem?_map] at h
  cases hb : B[j]? with
  | none => rw [hb] at h; cases h
  | some x =>
    rw [hb] at h
    refine ⟨(List.getElem?_eq_some_iff.1 hb).1, ?_⟩
    rw [List.getD_eq_getElem?_getD, hb]
    simp at h
    exact h.symm
theorem add_at (b off j : Nat) : (⟨b, off, none⟩ : Addr).add j = ⟨b, off + j, none⟩ := by unfold Addr.add; split <;> simp_all
theorem vals_cell {w : World} {b off : Nat} {B : List Nat} (hc : ∀ i, i < B.length → w.cell? ⟨b, off + i, none⟩ = some (.int .u8 ((B.getD i 0 : Nat) : Int))) :
    ∀ j v, (vals B)[j]? = some v → w.cell? ((⟨b, off, none⟩ : Addr).add j) = some v := by
  intro j v h
  obtain ⟨hj, rfl⟩ := vals_get B j v h
  rw [add_at]
  exact hc j hj
theorem vals_one' (B : List Nat) : ∀ u ∈ vals B, u.oneCell' = true := by
  intro u hu
  simp only [vals, List.mem_map] at hu
  obtain ⟨x, _, rfl⟩ := hu
  rfl
theorem own_block {w : World} {base g n cap : Nat} {xs : List Value} (h : w.ownsRow base 5 1 (.slice (some ⟨g, 0, none⟩) n cap) n xs) : ∃ cur : Array Value, w.heap[g]? = some (.cells cur 5 (0, 0)) ∧ cur.size = cap ∧ n ≤ cap ∧ cur.toList.take n = xs := by
  rcases h.2 with ⟨h0, _⟩ | ⟨g', cap', cur, hv, hbg, hg, hnc, hcm, hcs, htake⟩
  · cases h0
  · cases hv
    exact ⟨cur, hg, by omega, hnc, by simpa using htake⟩
/-- A block whose cells are just these is owned. -/
theorem owns_of {w : World} {base g n cap : Nat} {cur : Array Value} {xs : List Value} (hb : base ≤ g) (hg : w.heap[g]? = some (.cells cur 5 (0, 0))) (hs : cur.size = cap) (hm : cap ≤ maxLen) (hn : n ≤ cap) (ht : cur.toList.take n = xs) :
    w.ownsRow base 5 1 (.slice (some ⟨g, 0, none⟩) n cap) n xs := by
  refine ⟨?_, .inr ⟨g, cap, cur, rfl, hb, hg, hn, hm, by omega, by simpa using ht⟩⟩
  rw [← ht, List.length_take]; simp; omega
theorem size5 : (Tryd.prog.info? 5).map (·.size) = some 1 := by kernel_rfl
/-- Bytes in memory of their own, made since w. -/
def Fresh (w w' : World) (v : Value) (B : List Nat) : Prop := w'.ownsRow w.heap.size 5 1 v B.length (vals B) ∧ Below w.heap.size w w'
/-- The lowest s bytes of v, the high one first: the first j of them. -/
def bigTo (v s : Nat) : Nat → List Nat
  | 0 => []
  | j + 1 => bigTo v s j ++ [v / 2 ^ (8 * (s - 1 - j)) % 256]
def big (v s : Nat) : List Nat := bigTo v s s
theorem big_byte (v k : Nat) : Value.int .u8 ((v / 2 ^ k % 256 : Nat) : Int) = .int .u8 ((v : Int) / (2 : Int) ^ k % (256 : Int)) := by
  congr 1
theorem grown_trans {a b c : World} {row : Option Nat} (h : a.grownBy b row) (k : b.grownBy c row) : a.grownBy c row :=
  ⟨k.os.trans h.os, k.tape.trans h.tape, k.output.trans h.output, Nat.le_trans h.size k.size, fun i hi hr => (k.block i (Nat.lt_of_lt_of_le hi h.size) hr).trans (h.block i hi hr)⟩
/-- What is owned, cell by cell. -/
theorem owned_cells {w : World} {base g n cap : Nat} {B : List Nat} (hown : w.ownsRow base 5 1 (.slice (some ⟨g, 0, none⟩) n cap) n (vals B)) : ∀ i, i < n → w.cell? ⟨g, i, none⟩ = some (.int .u8 ((B.getD i 0 : Nat) : Int)) := by
  intro i hi
  have hl : (vals B).length = n := by have := hown.1; omega
  have hlB : B.length = n := by simpa [vals] using hl
  rw [hown.cellAt i (by omega)]
  unfold vals
  rw [List.getElem?_map, List.getD_eq_getElem?_getD, List.getElem?_eq_getElem (by omega)]
  rfl
theorem big_len (v s : Nat) : ∀ j, (bigTo v s j).length = j
  | 0 => rfl
  | j + 1 => by simp [bigTo, big_len v s j]
theorem bigTo_lt (v s : Nat) : ∀ j, ∀ x ∈ bigTo v s j, x < 256
  | 0 => by simp [bigTo]
  | j + 1 => by
    intro x hx
    simp only [bigTo, List.mem_append, List.mem_singleton] at hx
    rcases hx with hx | rfl
    · exact bigTo_lt v s j x hx
    · exact Nat.mod_lt _ (by omega)
theorem cell_three_new (w : World) (a b c : Value) (t : TypeId) : ∀ j u, [a, b, c][j]? = some u → (w.alloc (.cells #[a, b, c] t)).cell? ((⟨w.heap.size, 0, none⟩ : Addr).add j) = some u := by
  intro j u hj
  match j, hj with
  | 0, hj => simp at hj; subst hj; simp [Addr.add]
  | 1, hj => simp at hj; subst hj; simp [Addr.add]
  | 2, hj => simp at hj; subst hj; simp [Addr.add]
  | j + 3, hj => simp at hj
theorem one3 (a b c : Int) : ∀ u ∈ [Value.int .u8 a, .int .u8 b, .int .u8 c], u.oneCell' = true := by
  intro u hu; simp at hu; rcases hu with rfl | rfl | rfl <;> rfl
theorem cell_four_new (w : World) (a b c d : Value) (t : TypeId) : ∀ j u, [a, b, c, d][j]? = some u → (w.alloc (.cells #[a, b, c, d] t)).cell? ((⟨w.heap.size, 0, none⟩ : Addr).add j) = some u := by
  intro j u hj
  match j, hj with
  | 0, hj => simp at hj; subst hj; simp [Addr.add]
  | 1, hj => simp at hj; subst hj; simp [Addr.add]
  | 2, hj => simp at hj; subst hj; simp [Addr.add]
  | 3, hj => simp at hj; subst hj; simp [Addr.add]
  | j + 4, hj => simp at hj
theorem one4 (a b c d : Int) : ∀ u ∈ [Value.int .u8 a, .int .u8 b, .int .u8 c, .int .u8 d], u.oneCell' = true := by
  intro u hu; simp at hu; rcases hu with rfl | rfl | rfl | rfl <;> rfl
theorem one2 (a b : Int) : ∀ u ∈ [Value.int .u8 a, .int .u8 b], u.oneCell' = true := by
  intro u hu; simp at hu; rcases hu with rfl | rfl <;> rfl
/-- The slice shows these bytes; they lie in a block below lim. -/
def Shows (lim : Nat) (w : World) (ao : Option Addr) (n cap : Nat) (B : List Nat) : Prop :=
  n = B.length ∧ n ≤ cap ∧ n ≤ 140737488355328 ∧ (∀ x ∈ B, x < 256) ∧ ∃ b off, (0 < n → ao = some ⟨b, off, none⟩) ∧ (0 < n → b < lim) ∧ ∀ i, i < n → w.cell? ⟨b, off + i, none⟩ = some (.int .u8 ((B.getD i 0 : Nat) : Int))
theorem Shows.kept {lim : Nat} {w w' : World} {row : Option Nat} {ao : Option Addr} {n cap : Nat} {B : List Nat} (h : Shows lim w ao n cap B) (hg : w.grownBy w' row) (hr : ∀ g, row = some g → lim ≤ g) : Shows lim w' ao n cap B := by
  obtain ⟨h1, h2, h3, h4, b, off, h5, h6, h7⟩ := h
  refine ⟨h1, h2, h3, h4, b, off, h5, h6, fun i hi => ?_⟩
  have hb := h6 (by omega)
  exact hg.cell (h7 i hi) (fun e => by have := hr b e.symm; omega)
theorem Shows.wide {lim lim' : Nat} {w : World} {ao : Option Addr} {n cap : Nat} {B : List Nat} (h : Shows lim w ao n cap B) (hl : lim ≤ lim') : Shows lim' w ao n cap B := by
  obtain ⟨h1, h2, h3, h4, b, off, h5, h6, h7⟩ := h
  exact ⟨h1, h2, h3, h4, b, off, h5, fun h => Nat.lt_of_lt_of_le (h6 h) hl, h7⟩
theorem Shows.world {lim : Nat} {w w' : World} {ao : Option Addr} {n cap : Nat} {B : List Nat} (h : Shows lim w ao n cap B) (he : w'.heap = w.heap) : Shows lim w' ao n cap B := by
  obtain ⟨h1, h2, h3, h4, b, off, h5, h6, h7⟩ := h
  exact ⟨h1, h2, h3, h4, b, off, h5, h6, fun i hi => (World.cell?_of_block (w := w) (w' := w') (a := ⟨b, off + i, none⟩) (by rw [he])).trans (h7 i hi)⟩
theorem below_none {w w' : World} (h : Below w.heap.size w w') : w.grownBy w' none := ⟨h.os, h.tape, h.output, h.size, fun k hk _ => h.block k hk⟩
/-- Bytes of its own. -/
def Owns (base : Nat) (w : World) (v : Value) (B : List Nat) : Prop := w.ownsRow base 5 1 v B.length (vals B) ∧ (∀ x ∈ B, x < 256) ∧ B.length ≤ 140737488355328
theorem Owns.kept {base : Nat} {w w' : World} {v : Value} {B : List Nat} {row : Option Nat} (h : Owns base w v B) (hg : w.grownBy w' row) (hne : v.ownBlock = none ∨ v.ownBlock ≠ row) : Owns base w' v B := ⟨h.1.kept hg hne, h.2⟩
theorem Owns.form {base : Nat} {w : World} {v : Value} {B : List Nat} (h : Owns base w v B) : ∃ ao cap, v = .slice ao B.length cap ∧ Shows w.heap.size w ao B.length cap B ∧ (ao = none ∧ cap = 0 ∨ ∃ g, ao = some ⟨g, 0, none⟩ ∧ base ≤ g ∧ g < w.heap.size) := by
  obtain ⟨ho, hB, hl⟩ := h
  rcases ho.2 with ⟨rfl, h0⟩ | ⟨g, cap, cur, rfl, hbg, hg, hnc, hcm, hcs, htake⟩
  · refine ⟨none, 0, by rw [h0], ⟨rfl, by omega, hl, hB, 0, 0, fun h => by omega, fun h => by omega, fun i hi => by omega⟩, .inl ⟨rfl, rfl⟩⟩
  · have hlt : g < w.heap.size := (Array.getElem?_eq_some_iff.1 hg).1
    refine ⟨some ⟨g, 0, none⟩, cap, rfl, ⟨rfl, hnc, hl, hB, g, 0, fun _ => rfl, fun _ => hlt, fun i hi => ?_⟩, .inr ⟨g, rfl, hbg, hlt⟩⟩
    rw [Nat.zero_add]
    exact owned_cells ho i hi
/-- A growing list of bytes: one more. -/
theorem Owns.snoc {base : Nat} {w w' : World} {v v' : Value} {B : List Nat} {c : Nat} (h : Owns base w v B) (hc : c < 256) (hl : B.length + 1 ≤ 140737488355328) (ho : w'.ownsRow base 5 1 v' (B.length + 1) (vals B ++ [.int .u8 (c : Int)])) : Owns base w' v' (B ++ [c]) := by
  refine ⟨?_, ?_, by simpa using hl⟩
  · rw [vals_append, vals_one, List.length_append]; exact ho
  · intro x hx
    rcases List.mem_append.1 hx with hx | hx
    · exact h.2.1 x hx
    · simp at hx; omega
theorem Owns.nil (base : Nat) (w : World) : Owns base w (.slice none 0 0) [] := ⟨World.ownsRow_nil _ _ _ _, by simp, by simp⟩
theorem grown_quiet {a b c : World} {row : Option Nat} (h : a.grownBy b row) (k : b.grownBy c none) : a.grownBy c row :=
  ⟨k.os.trans h.os, k.tape.trans h.tape, k.output.trans h.output, Nat.le_trans h.size k.size, fun i hi hr => (k.block i (Nat.lt_of_lt_of_le hi h.size) (by simp)).trans (h.block i hi hr)⟩
theorem grown_set (w : World) (g j : Nat) (u : Value) : w.grownBy (w.setCell ⟨g, j, none⟩ u) (some g) :=
  ⟨rfl, rfl, rfl, by simp, fun k _ hk => heap_setCell_other w ⟨g, j, none⟩ k u (fun e => hk (by simp [e]))⟩
theorem grown_far {a b : World} {row : Option Nat} {g j : Nat} {u : Value} (h : a.grownBy b row) (hg : a.heap.size ≤ g) : a.grownBy (b.setCell ⟨g, j, none⟩ u) row :=
  ⟨h.os, h.tape, h.output, by simpa using h.size, fun k hk hr => (heap_setCell_other b ⟨g, j, none⟩ k u (by simp; omega)).trans (h.block k hk hr)⟩
theorem grown_far_none {a b : World} {g j : Nat} {u : Value} (h : a.grownBy b none) (hg : a.heap.size ≤ g) : a.grownBy (b.setCell ⟨g, j, none⟩ u) none := grown_far h hg
theorem own_shape {w : World} {base n : Nat} {v : Value} {xs : List Value} (h : w.ownsRow base 5 1 v n xs) (hn : 0 < n) : ∃ g cap, v = .slice (some ⟨g, 0, none⟩) n cap ∧ base ≤ g := by
  rcases h.2 with ⟨_, h0⟩ | ⟨g, cap, cur, rfl, hbg, _⟩
  · omega
  · exact ⟨g, cap, rfl, hbg⟩
theorem last_cell {w : World} {base g k cap : Nat} {ys : List Value} {a b c : Value} (h : w.ownsRow base 5 1 (.slice (some ⟨g, 0, none⟩) (k + 3) cap) (k + 3) (ys ++ [a, b, c])) (hl : ys.length = k) : w.cell? ⟨g, k + 2, none⟩ = some c := by
  rw [h.cellAt (k + 2) (by omega), List.getElem?_append_right (by omega), show k + 2 - ys.length = 2 by omega]
  rfl
theorem vals_int (B : List Nat) : ∀ i, i < B.length → ∃ c : Int, (vals B)[i]? = some (.int .u8 c) := by
  intro i hi
  refine ⟨((B[i]'hi : Nat) : Int), ?_⟩
  unfold vals
  rw [List.getElem?_map, List.getElem?_eq_getElem hi]
  rfl
theorem Owns.lower {b b' : Nat} {w : World} {v : Value} {B : List Nat} (h : Owns b w v B) (hb : b' ≤ b) : Owns b' w v B := by
  refine ⟨⟨h.1.1, ?_⟩, h.2⟩
  rcases h.1.2 with h0 | ⟨g, cap, cur, hv, hbg, rest⟩
  · exact .inl h0
  · exact .inr ⟨g, cap, cur, hv, by omega, rest⟩
theorem owned_lt2 {w : World} {base g n cap : Nat} {xs : List Value} (hown : w.ownsRow base 5 1 (.slice (some ⟨g, 0, none⟩) n cap) n xs) : g < w.heap.size := by
  obtain ⟨cur, hg, _⟩ := own_block hown
  exact (Array.getElem?_eq_some_iff.1 hg).1
theorem shows_nil (w : World) (c : Nat) : Shows 0 w none 0 c [] := ⟨rfl, by omega, by omega, by simp, 0, 0, fun h => by omega, fun h => by omega, fun i hi => by omega⟩
theorem drew_grown (w : World) (q : Nat) : w.grownBy (w.drewN q) none := ⟨rfl, rfl, rfl, Nat.le_refl _, fun _ _ _ => rfl⟩
theorem Owns.drew {b : Nat} {w : World} {v : Value} {B : List Nat} (h : Owns b w v B) (q : Nat) : Owns b (w.drewN q) v B := h.kept (drew_grown w q) (by cases v.ownBlock <;> simp)
theorem Owns.quiet {b : Nat} {w w' : World} {v : Value} {B : List Nat} (h : Owns b w v B) (hg : w.grownBy w' none) : Owns b w' v B := h.kept hg (by cases v.ownBlock <;> simp)
theorem own_of_slice {a : Option Addr} {n c : Nat} {base : Nat} {w : World} {B : List Nat} (h : Owns base w (.slice a n c) B) : ∀ g, (Value.slice a n c).ownBlock = some g → base ≤ g ∧ g < w.heap.size := fun g hg => h.1.lt g hg
theorem wpList_append_nothing {P : Program} {w : World} {ops : Array Oper} {rest : List Oper} {o : Oper} {a : Act} {Q : Exit → Act → World → Prop} (hgd : o.guard = none) (s x : Operand) (t : TypeId)
    (ho : o.op = .call { callee := .builtin .append, args := #[s, x], argTypes := #[t, t] }) (v x' : Value) (hs : a.eval s = v) (hx : a.eval x = x')
    (hrun : (Builtin.append_ #[t, t] o.type #[v, x']).run P w = .ok v w) (h : wpList P ops Q rest (a.put o.dst v) w) : wpList P ops Q (o :: rest) a w := by
  refine wpList_plain hgd fun _ hK => ?_
  unfold Oper.wp execOp
  simp only [ho, resolve, invoke, builtin, Sem.run_bind, Sem.run_pure, Result.andThen_ok, List.map_toArray, List.map_cons, List.map_nil, hs, hx, hrun]
  exact hK _ _ h
/-- A fault of this layer, as it lies in memory. -/
def IsFault (w : World) (v : Value) (at_ why : Int) : Prop :=
  ∃ g, v = .iface 96 (.pointer (some ⟨g, 0, none⟩)) ∧ w.cell? ⟨g, 0, none⟩ = some (.string ⟨#[119, 105, 114, 101]⟩) ∧ w.cell? ⟨g, 1, none⟩ = some (.int .i64 at_) ∧ w.cell? ⟨g, 2, none⟩ = some (.iface 98 (.int .i64 why))
end Go.Proofs.YtmoklddfaocihaaDoor
