import Derived.Test.YtggpaljilpbmhaaGreatDoorZ02
import Derived.ArgAppend
import Derived.Laws.CopyOwn
import Derived.Laws.OwnMore
import Derived.WalkSmall
import Derived.Deep.QuietTactic
import Derived.BigQuiet
import Derived.Deep.RegionHeld
import Derived.Laws.BitsAllLaws
namespace Go.Proofs.YtggpaljilpbmhaaGreatDoor
open Go.RowKit Crc

theorem getD_take {B : List Nat} {k i : Nat} (h : i < k) : (B.take k).getD i 0 = B.getD i 0 := by
 rw [List.getD_eq_getElem?_getD, List.getD_eq_getElem?_getD, List.getElem?_take, if_pos h]
def hi (B : List Nat) : Nat := B.foldl (fun v c => v * 256 + c) 0
theorem hi_step (B : List Nat) (k : Nat) (h : k < B.length) : hi (B.take (k + 1)) = hi (B.take k) * 256 + B.getD k 0 := by
 rw [take_snoc B k h]; simp [hi, List.foldl_append]
theorem hi_lt (B : List Nat) (hB : ∀ x ∈ B, x < 256) : hi B < 256 ^ B.length := by
 have gen : ∀ (B : List Nat) (v : Nat), (∀ x ∈ B, x < 256) → B.foldl (fun v c => v * 256 + c) v < (v + 1) * 256 ^ B.length := by
  intro B
  induction B with
  | nil => intro v _; simp
  | cons c r ih =>
   intro v hB
   have hc := hB c (by simp)
   have := ih (v * 256 + c) (fun x hx => hB x (by simp [hx]))
   simp only [List.foldl_cons, List.length_cons]
   refine Nat.lt_of_lt_of_le this ?_
   rw [Nat.pow_succ, Nat.mul_comm (256 ^ r.length) 256, ← Nat.mul_assoc]
   exact Nat.mul_le_mul_right _ (by omega)
 have := gen B 0 hB
 simpa [hi] using this
theorem or_u64 (v c : Nat) (hv : v < 72057594037927936) (hc : c < 256) : bits .or .u64 ((v : Int) * (256 : Int)) (c : Int) = ((v * 256 + c : Nat) : Int) := by
 have e : (v : Int) * (256 : Int) = ((v * 256 : Nat) : Int) := by omega
 rw [e, u64_or_nat _ _ (by omega) (by omega)]
 congr 1
 have := Nat.two_pow_add_eq_or_of_lt (i := 8) (b := c) hc v
 rw [show v * 256 = 2 ^ 8 * v by omega, ← this]
theorem or_add (a c k : Nat) (h : a < 2 ^ k) : a ||| c * 2 ^ k = a + c * 2 ^ k := by
 have := Nat.two_pow_add_eq_or_of_lt (i := k) (b := a) h c
 rw [Nat.or_comm, Nat.mul_comm c, ← this, Nat.add_comm]
theorem vals_len (B : List Nat) : (vals B).length = B.length := by simp [vals]
theorem vals_get (B : List Nat) (j : Nat) (v : Value) (h : (vals B)[j]? = some v) : j < B.length ∧ v = .int .u8 ((B.getD j 0 : Nat) : Int) := by
 unfold vals at h
 rw [List.getElem?_map] at h
 cases hb : B[j]? with
 | none => rw [hb] at h; cases h
 | some x =>
  rw [hb] at h
  refine ⟨(List.getElem?_eq_some_iff.1 hb).1, ?_⟩
  rw [List.getD_eq_getElem?_getD, hb]
  simp at h
  exact h.symm
theorem add_at (b off j : Nat) : (⟨b, off, none⟩ : Addr).add j = ⟨b, off + j, none⟩ := by unfold Addr.add; split <;> simp_all
theorem vals_cell {w : World} {b off : Nat} {B : List Nat} (hc : ∀ i, i < B.length → w.cell? ⟨b, off + i, none⟩ = some (.int .u8 ((B.getD i 0 : Nat) : Int))) :
  ∀ j v, (vals B)[j]? = some v → w.cell? ((⟨b, off, none⟩ : Addr).add j) = some v := by
 intro j v h
 obtain ⟨hj, rfl⟩ := vals_get B j v h
 rw [add_at]
 exact hc j hj
theorem vals_one' (B : List Nat) : ∀ u ∈ vals B, u.oneCell' = true := by
 intro u hu
 simp only [vals, List.mem_map] at hu
 obtain ⟨x, _, rfl⟩ := hu
 rfl
theorem own_block {w : World} {base g n cap : Nat} {xs : List Value} (h : w.ownsRow base 5 1 (.slice (some ⟨g, 0, none⟩) n cap) n xs) : ∃ cur : Array Value, w.heap[g]? = some (.cells cur 5 (0, 0)) ∧ cur.size = cap ∧ n ≤ cap ∧ cur.toList.take n = xs := by
 rcases h.2 with ⟨h0, _⟩ | ⟨g', cap', cur, hv, hbg, hg, hnc, hcm, hcs, htake⟩
 ·cases h0
 ·cases hv
  exact ⟨cur, hg, by omega, hnc, by simpa using htake⟩
/-- A block whose cells are just these is owned. -/
theorem owns_of {w : World} {base g n cap : Nat} {cur : Array Value} {xs : List Value} (hb : base ≤ g) (hg : w.heap[g]? = some (.cells cur 5 (0, 0))) (hs : cur.size = cap) (hm : cap ≤ maxLen) (hn : n ≤ cap) (ht : cur.toList.take n = xs) :
  w.ownsRow base 5 1 (.slice (some ⟨g, 0, none⟩) n cap) n xs := by
 refine ⟨?_, .inr ⟨g, cap, cur, rfl, hb, hg, hn, hm, by omega, by simpa using ht⟩⟩
 rw [← ht, List.length_take]; simp; omega
theorem size5 : (Tryz.prog.info? 5).map (·.size) = some 1 := by kernel_rfl
/-- Bytes in memory of their own, made since w. -/
def Fresh (w w' : World) (v : Value) (B : List Nat) : Prop := w'.ownsRow w.heap.size 5 1 v B.length (vals B) ∧ Below w.heap.size w w'
/-- The lowest s bytes of v, the high one first: the first j of them. -/
def bigTo (v s : Nat) : Nat → List Nat
 | 0 => []
 | j + 1 => bigTo v s j ++ [v / 2 ^ (8 * (s - 1 - j)) % 256]
def big (v s : Nat) : List Nat := bigTo v s s
theorem big_byte (v k : Nat) : Value.int .u8 ((v / 2 ^ k % 256 : Nat) : Int) = .int .u8 ((v : Int) / (2 : Int) ^ k % (256 : Int)) := by
 congr 1
theorem grown_trans {a b c : World} {row : Option Nat} (h : a.grownBy b row) (k : b.grownBy c row) : a.grownBy c row :=
 ⟨k.os.trans h.os, k.tape.trans h.tape, k.output.trans h.output, Nat.le_trans h.size k.size, fun i hi hr => (k.block i (Nat.lt_of_lt_of_le hi h.size) hr).trans (h.block i hi hr)⟩
/-- What is owned, cell by cell. -/
theorem owned_cells {w : World} {base g n cap : Nat} {B : List Nat} (hown : w.ownsRow base 5 1 (.slice (some ⟨g, 0, none⟩) n cap) n (vals B)) : ∀ i, i < n → w.cell? ⟨g, i, none⟩ = some (.int .u8 ((B.getD i 0 : Nat) : Int)) := by
 intro i hi
 have hl : (vals B).length = n := by have := hown.1; omega
 have hlB : B.length = n := by simpa [vals] using hl
 rw [hown.cellAt i (by omega)]
 unfold vals
 rw [List.getElem?_map, List.getD_eq_getElem?_getD, List.getElem?_eq_getElem (by omega)]
 rfl
theorem big_len (v s : Nat) : ∀ j, (bigTo v s j).length = j
 | 0 => rfl
 | j + 1 => by simp [bigTo, big_len v s j]
/-- The slice shows these bytes; they lie in a block below lim. -/
def Shows (lim : Nat) (w : World) (ao : Option Addr) (n cap : Nat) (B : List Nat) : Prop :=
 n = B.length ∧ n ≤ cap ∧ n ≤ 140737488355328 ∧ (∀ x ∈ B, x < 256) ∧ ∃ b off, (0 < n → ao = some ⟨b, off, none⟩) ∧ (0 < n → b < lim) ∧ ∀ i, i < n → w.cell? ⟨b, off + i, none⟩ = some (.int .u8 ((B.getD i 0 : Nat) : Int))
theorem Shows.kept {lim : Nat} {w w' : World} {row : Option Nat} {ao : Option Addr} {n cap : Nat} {B : List Nat} (h : Shows lim w ao n cap B) (hg : w.grownBy w' row) (hr : ∀ g, row = some g → lim ≤ g) : Shows lim w' ao n cap B := by
 obtain ⟨h1, h2, h3, h4, b, off, h5, h6, h7⟩ := h
 refine ⟨h1, h2, h3, h4, b, off, h5, h6, fun i hi => ?_⟩
 have hb := h6 (by omega)
 exact hg.cell (h7 i hi) (fun e => by have := hr b e.symm; omega)
theorem Shows.wide {lim lim' : Nat} {w : World} {ao : Option Addr} {n cap : Nat} {B : List Nat} (h : Shows lim w ao n cap B) (hl : lim ≤ lim') : Shows lim' w ao n cap B := by
 obtain ⟨h1, h2, h3, h4, b, off, h5, h6, h7⟩ := h
 exact ⟨h1, h2, h3, h4, b, off, h5, fun h => Nat.lt_of_lt_of_le (h6 h) hl, h7⟩
theorem Shows.world {lim : Nat} {w w' : World} {ao : Option Addr} {n cap : Nat} {B : List Nat} (h : Shows lim w ao n cap B) (he : w'.heap = w.heap) : Shows lim w' ao n cap B := by
 obtain ⟨h1, h2, h3, h4, b, off, h5, h6, h7⟩ := h
 exact ⟨h1, h2, h3, h4, b, off, h5, h6, fun i hi => (World.cell?_of_block (w := w) (w' := w') (a := ⟨b, off + i, none⟩) (by rw [he])).trans (h7 i hi)⟩
theorem below_none {w w' : World} (h : Below w.heap.size w w') : w.grownBy w' none := ⟨h.os, h.tape, h.output, h.size, fun k hk _ => h.block k hk⟩
/-- Bytes of its own. -/
def Owns (base : Nat) (w : World) (v : Value) (B : List Nat) : Prop := w.ownsRow base 5 1 v B.length (vals B) ∧ (∀ x ∈ B, x < 256) ∧ B.length ≤ 140737488355328
theorem Owns.kept {base : Nat} {w w' : World} {v : Value} {B : List Nat} {row : Option Nat} (h : Owns base w v B) (hg : w.grownBy w' row) (hne : v.ownBlock = none ∨ v.ownBlock ≠ row) : Owns base w' v B := ⟨h.1.kept hg hne, h.2⟩
theorem Owns.form {base : Nat} {w : World} {v : Value} {B : List Nat} (h : Owns base w v B) : ∃ ao cap, v = .slice ao B.length cap ∧ Shows w.heap.size w ao B.length cap B ∧ (ao = none ∧ cap = 0 ∨ ∃ g, ao = some ⟨g, 0, none⟩ ∧ base ≤ g ∧ g < w.heap.size) := by
 obtain ⟨ho, hB, hl⟩ := h
 rcases ho.2 with ⟨rfl, h0⟩ | ⟨g, cap, cur, rfl, hbg, hg, hnc, hcm, hcs, htake⟩
 ·refine ⟨none, 0, by rw [h0], ⟨rfl, by omega, hl, hB, 0, 0, fun h => by omega, fun h => by omega, fun i hi => by omega⟩, .inl ⟨rfl, rfl⟩⟩
 ·have hlt : g < w.heap.size := (Array.getElem?_eq_some_iff.1 hg).1
  refine ⟨some ⟨g, 0, none⟩, cap, rfl, ⟨rfl, hnc, hl, hB, g, 0, fun _ => rfl, fun _ => hlt, fun i hi => ?_⟩, .inr ⟨g, rfl, hbg, hlt⟩⟩
  rw [Nat.zero_add]
  exact owned_cells ho i hi
/-- A growing list of bytes: one more. -/
theorem Owns.snoc {base : Nat} {w w' : World} {v v' : Value} {B : List Nat} {c : Nat} (h : Owns base w v B) (hc : c < 256) (hl : B.length + 1 ≤ 140737488355328) (ho : w'.ownsRow base 5 1 v' (B.length + 1) (vals B ++ [.int .u8 (c : Int)])) : Owns base w' v' (B ++ [c]) := by
 refine ⟨?_, ?_, by simpa using hl⟩
 ·rw [vals_append, vals_one, List.length_append]; exact ho
 ·intro x hx
  rcases List.mem_append.1 hx with hx | hx
  ·exact h.2.1 x hx
  ·simp at hx; omega
theorem Owns.nil (base : Nat) (w : World) : Owns base w (.slice none 0 0) [] := ⟨World.ownsRow_nil _ _ _ _, by simp, by simp⟩
theorem grown_quiet {a b c : World} {row : Option Nat} (h : a.grownBy b row) (k : b.grownBy c none) : a.grownBy c row :=
 ⟨k.os.trans h.os, k.tape.trans h.tape, k.output.trans h.output, Nat.le_trans h.size k.size, fun i hi hr => (k.block i (Nat.lt_of_lt_of_le hi h.size) (by simp)).trans (h.block i hi hr)⟩
theorem grown_set (w : World) (g j : Nat) (u : Value) : w.grownBy (w.setCell ⟨g, j, none⟩ u) (some g) :=
 ⟨rfl, rfl, rfl, by simp, fun k _ hk => heap_setCell_other w ⟨g, j, none⟩ k u (fun e => hk (by simp [e]))⟩
theorem Owns.lower {b b' : Nat} {w : World} {v : Value} {B : List Nat} (h : Owns b w v B) (hb : b' ≤ b) : Owns b' w v B := by
 refine ⟨⟨h.1.1, ?_⟩, h.2⟩
 rcases h.1.2 with h0 | ⟨g, cap, cur, hv, hbg, rest⟩
 ·exact .inl h0
 ·exact .inr ⟨g, cap, cur, hv, by omega, rest⟩
theorem drew_grown (w : World) (q : Nat) : w.grownBy (w.drewN q) none := ⟨rfl, rfl, rfl, Nat.le_refl _, fun _ _ _ => rfl⟩
theorem Owns.drew {b : Nat} {w : World} {v : Value} {B : List Nat} (h : Owns b w v B) (q : Nat) : Owns b (w.drewN q) v B := h.kept (drew_grown w q) (by cases v.ownBlock <;> simp)
theorem Owns.quiet {b : Nat} {w w' : World} {v : Value} {B : List Nat} (h : Owns b w v B) (hg : w.grownBy w' none) : Owns b w' v B := h.kept hg (by cases v.ownBlock <;> simp)
/-- A fault of this layer, as it lies in memory. -/
def IsFault (w : World) (v : Value) (at_ why : Int) : Prop :=
 ∃ g, v = .iface 74 (.pointer (some ⟨g, 0, none⟩)) ∧ w.cell? ⟨g, 0, none⟩ = some (.string ⟨#[119, 105, 114, 101]⟩) ∧ w.cell? ⟨g, 1, none⟩ = some (.int .i64 at_) ∧ w.cell? ⟨g, 2, none⟩ = some (.iface 76 (.int .i64 why))
end Go.Proofs.YtggpaljilpbmhaaGreatDoor
namespace Go.Proofs.YtggpaljilpbmhaaGreatDoor
open Go.RowKit Crc

/-- A list that was appended to: nothing but its own row has turned, and what it has now is that row or a new one. -/
def ExtP (w w' : World) (v v' : Value) : Prop := w.grownBy w' v.ownBlock ∧ ∀ g, v'.ownBlock = some g → v.ownBlock = some g ∨ w.heap.size ≤ g
theorem ExtP.refl (w : World) (v : Value) : ExtP w w v v := ⟨⟨rfl, rfl, rfl, Nat.le_refl _, fun _ _ _ => rfl⟩, fun _ h => .inl h⟩
theorem ExtP.trans {a b c : World} {u v x : Value} (h : ExtP a b u v) (k : ExtP b c v x) : ExtP a c u x := by
 refine ⟨⟨k.1.os.trans h.1.os, k.1.tape.trans h.1.tape, k.1.output.trans h.1.output, Nat.le_trans h.1.size k.1.size, fun i hi hr => ?_⟩, fun g hg => ?_⟩
 ·refine (k.1.block i (Nat.lt_of_lt_of_le hi h.1.size) (fun e => ?_)).trans (h.1.block i hi hr)
  rcases h.2 i e.symm with h1 | h1
  ·exact hr h1.symm
  ·omega
 ·rcases k.2 g hg with h1 | h1
  ·exact h.2 g h1
  ·exact .inr (Nat.le_trans h.1.size h1)
theorem ExtP.alloc {a b : World} {u v : Value} (h : ExtP a b u v) (o : Obj) : ExtP a (b.alloc o) u v := by
 refine h.trans ⟨World.grownBy_alloc b o _, fun g hg => .inl hg⟩

section
variable {P : Program} {ops : Array Oper} {rest : List Oper} {o : Oper} {a : Act} {Q : Exit → Act → World → Prop}
theorem wpList_append_ext (w : World) (hgd : o.guard = none) (s x : Operand) (t : TypeId)
  (ho : o.op = .call { callee := .builtin .append, args := #[s, x], argTypes := #[t, t] })
  (base : Nat) (e : TypeId) (i : TypeInfo) (z : Value) (ht : P.underlying t = some (.slice e)) (hi : P.info? e = some i) (hz : i.zero = some z)
  (hsize : i.size = 1) (hby : i.bytes = 1) (hzs : z.cells.size = 1)
  (v : Value) (n : Nat) (xs : List Value) (hs : a.eval s = v) (hown : w.ownsRow base e 1 v n xs)
  (ad : Addr) (m c : Nat) (news : List Value) (hx : a.eval x = .slice (some ad) m c) (hl : news.length = m) (hnews : ∀ j u, news[j]? = some u → w.cell? (ad.add j) = some u) (h1 : ∀ u ∈ news, u.oneCell' = true)
  (hm : 0 < m) (hbytes : n + m ≤ 140737488355328) (hbase : base ≤ w.heap.size)
  (h : ∀ v' w', w'.ownsRow base e 1 v' (n + m) (xs ++ news) → ExtP w w' v v' → wpList P ops Q rest (a.put o.dst v') w') : wpList P ops Q (o :: rest) a w := by
 rcases hown.2 with ⟨rfl, rfl⟩ | ⟨g, cap, cur, rfl, hbg, hg, hnc, hcm, hcs, htake⟩
 ·have hxs : xs = [] := List.eq_nil_of_length_eq_zero (by have := hown.1; omega)
  subst hxs
  refine wpList_append_grows w hgd s x t ho e i z 1 1 ht hi hz hsize hby hzs (by omega) none 0 0 [] hs (fun _ => ⟨rfl, rfl⟩) (by simp) (fun b hb => by cases hb) ad m c news hx (by omega) hnews h1 (by omega) (by unfold maxLen; omega) (by omega) ?_
  intro v' w' hown' hgrow
  refine h v' w' ?_ ⟨⟨hgrow.os, hgrow.tape, hgrow.output, hgrow.size, hgrow.block⟩, fun g hg => .inr (hown'.lt g hg).1⟩
  refine ⟨hown'.1, ?_⟩
  rcases hown'.2 with h0 | ⟨g, cap, cur, hv, hbg, rest⟩
  ·exact .inl h0
  ·exact .inr ⟨g, cap, cur, hv, by omega, rest⟩
 ·by_cases hroom : n + m ≤ cap
  ·refine wpList_append_own_spare w hgd s x t ho base e i 1 ht hi hsize g n cap xs hs hown ad m c news hx (by omega) hnews h1 hroom ?_
   intro w' hown' hgrow
   exact h _ w' hown' ⟨hgrow, fun g' hg' => .inl hg'⟩
  ·have holds : ∀ b, some (⟨g, 0, none⟩ : Addr) = some b → ∀ j u, xs[j]? = some u → w.cell? (b.add j) = some u := by
    intro b hb j u hj
    cases hb
    exact hown.cells rfl j u hj
   refine wpList_append_grows w hgd s x t ho e i z 1 1 ht hi hz hsize hby hzs (by omega) (some ⟨g, 0, none⟩) n cap xs hs (fun h => by cases h) hown.1 holds ad m c news hx (by omega) hnews h1 (by omega) (by unfold maxLen; omega) (by omega) ?_
   intro v' w' hown' hgrow
   refine h v' w' ?_ ⟨⟨hgrow.os, hgrow.tape, hgrow.output, hgrow.size, fun k hk _ => hgrow.block k hk (by simp)⟩, fun g hg => .inr (hown'.lt g hg).1⟩
   refine ⟨hown'.1, ?_⟩
   rcases hown'.2 with h0 | ⟨g, cap, cur, hv, hbg, rest⟩
   ·exact .inl h0
   ·exact .inr ⟨g, cap, cur, hv, by omega, rest⟩
end

/-- A number in groups of seven bits, the lowest first. -/
def numTo : Nat → Nat → List Nat
 | 0, v => [v]
 | f + 1, v => if v < 128 then [v] else (v % 128 + 128) :: numTo f (v / 128)
def numB (v : Nat) : List Nat := numTo 9 v
theorem numTo_len : ∀ f v, (numTo f v).length ≤ f + 1
 | 0, v => by simp [numTo]
 | f + 1, v => by
  unfold numTo
  by_cases hv : v < 128
  ·rw [if_pos hv]; simp
  ·rw [if_neg hv]; simp; exact numTo_len f (v / 128)
theorem numTo_pos : ∀ f v, 0 < (numTo f v).length
 | 0, v => by simp [numTo]
 | f + 1, v => by unfold numTo; by_cases hv : v < 128 <;> simp [hv]
/-- One step, fuel aside. -/
theorem numTo_more : ∀ f v, v < 128 ^ (f + 1) → numTo (f + 1) v = numTo f v
 | 0, v, h => by simp at h; simp [numTo, h]
 | f + 1, v, h => by
  rw [numTo]
  conv => rhs; rw [numTo]
  by_cases hv : v < 128
  ·rw [if_pos hv, if_pos hv]
  ·rw [if_neg hv, if_neg hv, numTo_more f (v / 128) (by rw [Nat.pow_succ] at h; omega)]
theorem numB_big (v : Nat) (hv : ¬ v < 128) (h : v < 18446744073709551616) : numB v = (v % 128 + 128) :: numB (v / 128) := by
 unfold numB
 conv => lhs; rw [numTo]
 rw [if_neg hv, numTo_more 8 (v / 128) (by omega)]
theorem numB_small (v : Nat) (hv : v < 128) : numB v = [v] := by simp [numB, numTo, hv]
end Go.Proofs.YtggpaljilpbmhaaGreatDoor
namespace Go.Proofs.YtggpaljilpbmhaaGreatDoor
open Go.RowKit Crc

set_option maxRecDepth 10000 in
set_option maxHeartbeats 800000 in
theorem appendHigh_any (base v s : Nat) (sl : Value) (vi si : Int) (L : List Nat) (w : World) (hvi : vi = (v : Int)) (hsi : si = (s : Int)) (hs : s ≤ 8) (hO : Owns base w sl L) (hl : L.length + 9 ≤ 140737488355328) (hbase : base ≤ w.heap.size) :
  Calls Tryz.prog 129 #[sl, .int .u64 vi, .int .i64 si] w fun e w' => ∃ v', e = .returned v' ∧ Owns base w' v' (L ++ big v s) ∧ ExtP w w' sl v' := by
 obtain ⟨i0, hi, hz0, hz1, hz2⟩ := info_parts Tryz.info5
 subst hvi
 subst hsi
 have HO0 : Hid (Owns base w sl L) := hO
 clear hO
 go_enter Tryz.func129, Tryz.ntmps129
 go_wp2
 go_loopw [0, 7] (fun a i wr => ∃ j : Nat, j ≤ s ∧ i = .int .i64 ((s : Int) - 1 - (j : Int)) ∧ Hid (Owns base wr a (L ++ bigTo v s j) ∧ ExtP w wr sl a)) (fun _ i _ => (intOf i + 1).toNat)
 case atStart => exact ⟨0, by omega, by go_num, by rw [bigTo, List.append_nil]; exact ⟨HO0.out, ExtP.refl _ _⟩⟩
 case round =>
  obtain ⟨j, hj, rfl, HR⟩ := hrel
  clear HO0
  have hbl := big_len v s j
  have HLN : Hid ((L ++ bigTo v s j).length + 1 ≤ 140737488355328) := by show _ ≤ _; rw [List.length_append, hbl]; omega
  have HBS : Hid (base ≤ wr.heap.size) := by show _ ≤ _; have := HR.out.2.1.size; omega
  clear hbl
  by_cases hlt : j < s
  ·obtain ⟨i, hi'⟩ : ∃ i : Nat, i + j + 1 = s := ⟨s - 1 - j, by omega⟩
   have he : (s : Int) - 1 - (j : Int) = (i : Int) := by omega
   have HI : Hid (i = s - 1 - j) := by show _ = _; omega
   have hi8 : i ≤ 7 := by omega
   have HTS : Hid (L ++ bigTo v s (j + 1) = (L ++ bigTo v s j) ++ [v / 2 ^ (8 * i) % 256]) := by
    show _ = _
    simp only [bigTo]
    rw [← HI.out, List.append_assoc]
   clear hi'
   go_wp2_with (first
    | (at_builtin; refine wpList_append_ext _ rfl (.tmp 14) (.tmp 20) 51 rfl base 5 i0 (.int .u8 0) Tryz.underlying51 hi hz0 hz1 hz2 rfl u0 (L ++ bigTo v s j).length (vals (L ++ bigTo v s j)) rfl (HR.out.1.1.alloc _) ⟨wr.heap.size, 0, none⟩ 1 1 [.int .u8 ((v : Int) / (2 : Int) ^ (8 * i) % (256 : Int))] rfl rfl (cell_one_new _ _ _) (Shade.one _ rfl) (by omega) HLN.out (by have := HBS.out; simp; omega) ?_; intro v' w1 hown1 hext1))
   go_roundw
   case rel =>
    refine ⟨j + 1, by omega, by have := HI.out; go_num, ?_, (HR.out.2.alloc _).trans hext1⟩
    rw [HTS.out]
    exact HR.out.1.snoc (Nat.mod_lt _ (by omega)) HLN.out (by rw [big_byte]; exact hown1)
   case measure => simp [intOf]; omega
  ·obtain rfl : j = s := by omega
   go_wp2
   go_ret
   exact ⟨_, rfl, HR.out.1, HR.out.2⟩
end Go.Proofs.YtggpaljilpbmhaaGreatDoor
namespace Go.Proofs.YtggpaljilpbmhaaGreatDoor
open Go.RowKit Crc

set_option maxRecDepth 10000 in
set_option maxHeartbeats 400000 in
theorem numSize_any (v : Nat) (vi : Int) (w : World) (hvi : vi = (v : Int)) (hv : v < 18446744073709551616) :
  Calls Tryz.prog 82 #[.int .u64 vi] w fun e w' => e = .returned (.int .i64 ((numB v).length : Nat)) ∧ w' = w := by
 subst hvi
 go_enter Tryz.func82, Tryz.ntmps82
 go_wp2
 go_loop [0, 3] (fun a b => ∃ x k : Nat, x < 18446744073709551616 ∧ k ≤ 20 ∧ a = .int .u64 x ∧ b = .int .i64 k ∧ Hid (k + (numB x).length = (numB v).length + 1)) (fun a _ => (intOf a).toNat)
 case atStart => exact ⟨v, 1, hv, by omega, rfl, rfl, by show _ = _; omega⟩
 case round =>
  obtain ⟨x, k, hx, hk, rfl, rfl, HR⟩ := hrel
  by_cases hlt : x < 128
  ·have HF : Hid (k = (numB v).length) := by have h := HR.out; rw [numB_small x hlt] at h; simp at h; exact h
   go_wp2
   go_ret
   exact ⟨by rw [← HF.out]; rfl, rfl⟩
  ·have HF : Hid (k + 1 + (numB (x / 128)).length = (numB v).length + 1) := by have h := HR.out; rw [numB_big x hlt hx] at h; simp at h; show _ = _; omega
   have hb : k + 1 ≤ 20 := by have h1 := HF.out; have h2 := numTo_len 9 v; have h3 := numTo_pos 9 (x / 128); unfold numB at h1; omega
   clear HR
   go_wp2
   go_round
   case rel => exact ⟨x / 128, k + 1, by omega, hb, by go_num, by go_num, HF⟩
   case measure => simp [intOf]; omega

theorem or128 (x : Nat) : bits .or .u8 ((x : Int) % (256 : Int)) (128 : Int) = ((x % 128 + 128 : Nat) : Int) := by
 have e : (x : Int) % (256 : Int) = ((x % 256 : Nat) : Int) := by omega
 rw [e, show (128 : Int) = ((128 : Nat) : Int) from rfl, u8_or_nat _ _ (by omega) (by omega)]
 congr 1
 have h1 := or_add (x % 128) 1 7 (by omega)
 simp only [Nat.one_mul] at h1
 by_cases hb : x % 256 < 128
 ·rw [show x % 256 = x % 128 by omega]; exact h1
 ·rw [show x % 256 = x % 128 + 2 ^ 7 by omega, ← h1, Nat.or_assoc]
  exact congrArg _ (by decide)

set_option maxRecDepth 10000 in
set_option maxHeartbeats 800000 in
theorem appendNum_any (base : Nat) (v : Value) (L : List Nat) (x0 : Nat) (xi : Int) (w : World) (hxi : xi = (x0 : Int)) (hx0 : x0 < 18446744073709551616) (hO : Owns base w v L) (hl : L.length + 10 ≤ 140737488355328) (hbase : base ≤ w.heap.size) :
  Calls Tryz.prog 84 #[v, .int .u64 xi] w fun e w' => ∃ v', e = .returned v' ∧ Owns base w' v' (L ++ numB x0) ∧ ExtP w w' v v' := by
 obtain ⟨i0, hi, hz0, hz1, hz2⟩ := info_parts Tryz.info5
 subst hxi
 have HO0 : Hid (Owns base w v L) := hO
 have HLN : Hid ((numB x0).length ≤ 10) := numTo_len 9 x0
 clear hO
 go_enter Tryz.func84, Tryz.ntmps84
 go_wp2
 go_loopw [0, 1] (fun a b wr => ∃ x : Nat, x < 18446744073709551616 ∧ b = .int .u64 x ∧ Hid (∃ pre, Owns base wr a (L ++ pre) ∧ pre ++ numB x = numB x0 ∧ ExtP w wr v a)) (fun _ b _ => (intOf b).toNat)
 case atStart => exact ⟨x0, hx0, rfl, [], by rw [List.append_nil]; exact HO0.out, rfl, ExtP.refl _ _⟩
 case round =>
  obtain ⟨x, hx, rfl, HR⟩ := hrel
  obtain ⟨pre, ho, he, hext⟩ := HR.out
  clear HR HO0
  have hlp : pre.length + (numB x).length ≤ 10 := by have := HLN.out; rw [← he, List.length_append] at this; exact this
  have hpos := numTo_pos 9 x
  have hlen : (L ++ pre).length + 1 ≤ 140737488355328 := by rw [List.length_append]; unfold numB at hlp; omega
  have HO : Hid (Owns base wr u0 (L ++ pre)) := ho
  have HE : Hid (pre ++ numB x = numB x0) := he
  have HX : Hid (ExtP w wr v u0) := hext
  have hbs : base ≤ wr.heap.size := by have := hext.1.size; omega
  have HLEN : Hid ((L ++ pre).length + 1 ≤ 140737488355328) := hlen
  have HBS : Hid (base ≤ wr.heap.size) := hbs
  clear ho he hext hlp hpos hlen hbs
  by_cases hlt : x < 128
  ·have hmod : (x : Int) % 256 = (x : Int) := by omega
   go_wp2_with (first
    | (at_builtin; refine wpList_append_ext _ rfl (.tmp 15) (.tmp 18) 51 rfl base 5 i0 (.int .u8 0) Tryz.underlying51 hi hz0 hz1 hz2 rfl u0 (L ++ pre).length (vals (L ++ pre)) rfl (HO.out.1.alloc _) ⟨wr.heap.size, 0, none⟩ 1 1 [.int .u8 (x : Int)] rfl rfl (cell_one_new _ _ _) (Shade.one _ rfl) (by omega) HLEN.out (by have := HBS.out; simp; omega) ?_; intro v' w1 hown1 hext1))
   go_ret
   refine ⟨v', rfl, ?_, (HX.out.alloc _).trans hext1⟩
   rw [← HE.out, numB_small x hlt, ← List.append_assoc]
   exact HO.out.snoc (by omega) HLEN.out hown1
  ·have hor := or128 x
   have HNB := numB_big x hlt hx
   have HNB' : Hid (numB x = (x % 128 + 128) :: numB (x / 128)) := HNB
   clear HNB
   go_wp2_with (first
    | (at_builtin; refine wpList_append_ext _ rfl (.tmp 7) (.tmp 11) 51 rfl base 5 i0 (.int .u8 0) Tryz.underlying51 hi hz0 hz1 hz2 rfl u0 (L ++ pre).length (vals (L ++ pre)) rfl (HO.out.1.alloc _) ⟨wr.heap.size, 0, none⟩ 1 1 [.int .u8 ((x % 128 + 128 : Nat) : Int)] rfl rfl (cell_one_new _ _ _) (Shade.one _ rfl) (by omega) HLEN.out (by have := HBS.out; simp; omega) ?_; intro v' w1 hown1 hext1))
   go_goals
   go_roundw
   case rel =>
    refine ⟨x / 128, by omega, by go_num, pre ++ [x % 128 + 128], ?_, ?_, (HX.out.alloc _).trans hext1⟩
    ·rw [← List.append_assoc]; exact HO.out.snoc (by omega) HLEN.out hown1
    ·rw [← HE.out, HNB'.out, List.append_assoc]; rfl
   case measure => simp [intOf]; omega
end Go.Proofs.YtggpaljilpbmhaaGreatDoor
namespace Go.Proofs.YtggpaljilpbmhaaGreatDoor
open Go.RowKit Crc

set_option maxRecDepth 10000 in
set_option maxHeartbeats 800000 in
theorem copied_any (b off : Nat) (ao : Option Addr) (B : List Nat) (n cap : Nat) (w : World) (hao : 0 < n → ao = some ⟨b, off, none⟩) (hn : n = B.length) (hl : n ≤ 140737488355328)
 (hbw : 0 < n → b < w.heap.size) (hc : ∀ i, i < n → w.cell? ⟨b, off + i, none⟩ = some (.int .u8 ((B.getD i 0 : Nat) : Int))) :
  Calls Tryz.prog 87 #[.slice ao n cap] w fun e w' => ∃ v, e = .returned v ∧ (v = .slice none 0 0 ∨ v = .slice (some ⟨w.heap.size, 0, none⟩) n n) ∧ (0 < n → v ≠ .slice none 0 0) ∧ Fresh w w' v B := by
 obtain ⟨i0, hi, hz0, hz1, hz2⟩ := info_parts Tryz.info5
 by_cases h0 : n = 0
 ·subst h0
  have hB : B = [] := List.eq_nil_of_length_eq_zero hn.symm
  clear hn hc hao hbw
  go_enter Tryz.func87, Tryz.ntmps87
  go_wp2
  go_ret
  subst hB
  exact ⟨_, rfl, .inl rfl, fun h => by omega, World.ownsRow_nil _ _ _ _, Below.refl _ _⟩
 ·obtain rfl := hao (by omega)
  have hbw' := hbw (by omega)
  have hne : ((n : Int) == 0) = false := by simp; omega
  have HN : Hid (n = B.length) := hn
  have HC : Hid (∀ i, i < n → w.cell? ⟨b, off + i, none⟩ = some (.int .u8 ((B.getD i 0 : Nat) : Int))) := hc
  clear hn hc hao hbw
  go_enter Tryz.func87, Tryz.ntmps87
  have HS : Hid (∀ w0 : World, w.grownBy w0 none → ∀ j v, (vals B)[j]? = some v → w0.cell? ((⟨b, off, none⟩ : Addr).add j) = some v) := by
   intro w0 hg j v hj
   exact hg.cell (vals_cell (fun i hi => HC.out i (by have := HN.out; omega)) j v hj) (by simp)
  have hlen : (vals B).length = Nat.min n n := by rw [vals_len]; exact HN.out.symm.trans (Nat.min_self n).symm
  have hlB : (vals B).length = n := by rw [vals_len]; exact HN.out.symm
  go_wp2_with (first
   | (at_make; refine wpList_make_full _ rfl _ _ 51 rfl w.heap.size 5 i0 (.int .u8 0) 1 Tryz.underlying51 hi hz0 hz1 .i64 .i64 _ _ n rfl rfl rfl rfl (by rw [hz2]; omega) (by unfold maxLen; omega) (Nat.le_refl _) ?_; intro w0 hown0 hgrow0; obtain ⟨cur, hg0, hcs, _, _⟩ := own_block hown0)
   | (refine wpList_copy_own rfl (.tmp 10) (.tmp 11) 51 51 rfl 5 Tryz.underlying51 size5 w.heap.size 0 n n ⟨b, off, none⟩ n cap rfl rfl cur 5 hg0 (vals B) hlen (HS.out w0 hgrow0) (by rw [hlB]; omega) (vals_one' B) ?_))
  go_ret
  refine ⟨_, rfl, .inr rfl, fun _ => by simp, ?_, below_setRow ((Below.refl _ _).grown hgrow0 (Nat.le_refl _) (fun k h => by cases h)) (Nat.le_refl _) _⟩
  rw [← HN.out]
  refine owns_of (Nat.le_refl _) (setRow_heap w0 w.heap.size _ _ 5 _ hg0) ?_ (by unfold maxLen; omega) (Nat.le_refl _) ?_
  ·simp; omega
  ·have : cur.toList.drop n = [] := List.drop_eq_nil_of_le (by simp; omega)
   simp [this]
   exact List.take_of_length_le (by omega)
end Go.Proofs.YtggpaljilpbmhaaGreatDoor
namespace Go.Proofs.YtggpaljilpbmhaaGreatDoor
open Go.RowKit Crc

set_option maxRecDepth 10000 in
set_option maxHeartbeats 400000 in
theorem high_all (b off : Nat) (ao : Option Addr) (B : List Nat) (n cap : Nat) (w : World) (hao : 0 < n → ao = some ⟨b, off, none⟩) (hn : n = B.length) (hl : n ≤ 8) (hB : ∀ x ∈ B, x < 256)
 (hc : ∀ i, i < n → w.cell? ⟨b, off + i, none⟩ = some (.int .u8 ((B.getD i 0 : Nat) : Int))) :
  Calls Tryz.prog 199 #[.slice ao n cap] w fun e w' => e = .returned (.int .u64 (hi B : Nat)) ∧ w' = w := by
 have HA := hide hao
 clear hao
 have HN : Hid (n = B.length) := hn
 have HC : Hid (∀ i, i < n → w.cell? ⟨b, off + i, none⟩ = some (.int .u8 ((B.getD i 0 : Nat) : Int))) := hc
 clear hn hc
 go_enter Tryz.func199, Tryz.ntmps199
 go_wp2
 go_loop [3, 8] (fun s i => ∃ k x : Nat, k ≤ n ∧ i = .int .i64 k ∧ s = .int .u64 x ∧ Hid (x = hi (B.take k))) (fun _ i => n - (intOf i).toNat)
 case atStart => exact ⟨0, 0, Nat.zero_le _, rfl, rfl, by show _ = _; simp [hi]⟩
 case round =>
  obtain ⟨k, x, hk, rfl, rfl, HX⟩ := hrel
  by_cases hlt : k < n
  ·have hck := HC.out k hlt
   obtain rfl := HA.out (by omega)
   have hcb : B.getD k 0 < 256 := getD_lt B hB k
   have hst := hi_step B k (by have := HN.out; omega)
   rw [← HX.out] at hst
   obtain ⟨c, hcd⟩ : ∃ c, c = B.getD k 0 := ⟨_, rfl⟩
   rw [← hcd] at hck hcb hst
   have hxl : x < 72057594037927936 := by
    have h1 := hi_lt (B.take k) (fun x hx => hB x (List.mem_of_mem_take hx))
    rw [← HX.out, List.length_take] at h1
    have h2 : 256 ^ min k B.length ≤ 256 ^ 7 := Nat.pow_le_pow_right (by omega) (by omega)
    omega
   have HS : Hid (x * 256 + c = hi (B.take (k + 1))) := hst.symm
   have e1 := or_u64 x c hxl hcb
   clear hst hcd HX
   go_wp2
   go_round
   case rel => exact ⟨k + 1, x * 256 + c, by omega, by go_num, rfl, HS⟩
   case measure => simp [intOf]; omega
  ·have HF : Hid (x = hi B) := by
    show _ = _
    rw [HX.out, List.take_of_length_le (by have := HN.out; omega)]
   clear HX HC
   go_wp2
   go_ret
   exact ⟨by rw [← HF.out]; rfl, rfl⟩
end Go.Proofs.YtggpaljilpbmhaaGreatDoor
namespace Go.Proofs.YtggpaljilpbmhaaGreatDoor
open Go.RowKit Crc

set_option maxRecDepth 10000 in
set_option maxHeartbeats 800000 in
theorem copy_walk (b off : Nat) (ao : Option Addr) (B : List Nat) (n cap : Nat) (w : World) (hao : 0 < n → ao = some ⟨b, off, none⟩) (hn : n = B.length) (hl : n ≤ 140737488355328) (hB : ∀ x ∈ B, x < 256)
 (hbw : 0 < n → b < w.heap.size) (hc : ∀ i, i < n → w.cell? ⟨b, off + i, none⟩ = some (.int .u8 ((B.getD i 0 : Nat) : Int))) :
  Calls Tryz.prog 132 #[.slice ao n cap] w fun e w' => ∃ v, e = .returned v ∧ Owns w.heap.size w' v B ∧ Below w.heap.size w w' := by
 obtain ⟨i0, hi, hz0, hz1, hz2⟩ := info_parts Tryz.info5
 have HA : Hid (0 < n → ao = some ⟨b, off, none⟩) := hao
 have HN : Hid (n = B.length) := hn
 have HB : Hid (∀ x ∈ B, x < 256) := hB
 have HW : Hid (0 < n → b < w.heap.size) := hbw
 have HC : Hid (∀ i, i < n → w.cell? ⟨b, off + i, none⟩ = some (.int .u8 ((B.getD i 0 : Nat) : Int))) := hc
 clear hao hn hB hbw hc
 go_enter Tryz.func132, Tryz.ntmps132
 go_wp2
 go_loopw [3, 4] (fun v i wr => ∃ k : Nat, k ≤ n ∧ i = .int .i64 k ∧ Hid (Owns w.heap.size wr v (B.take k)) ∧ Below w.heap.size w wr) (fun _ i _ => n - (intOf i).toNat)
 case atStart => exact ⟨0, by omega, rfl, by rw [List.take_zero]; exact Owns.nil _ _, Below.refl _ _⟩
 case round =>
  obtain ⟨k, hk, rfl, HO, hnx⟩ := hrel
  have hsize := hnx.size
  by_cases hlt : k < n
  ·have hck := (hnx.cell (p := ⟨b, off + k, none⟩) (HW.out (by omega))).trans (HC.out k hlt)
   obtain rfl := HA.out (by omega)
   have hcb := getD_lt B HB.out k
   have htl : (B.take k).length = k := by rw [List.length_take]; have := HN.out; omega
   have hown : wr.ownsRow w.heap.size 5 1 u3 k (vals (B.take k)) := by have := HO.out.1; rw [htl] at this; exact this
   have HTS : Hid (B.take (k + 1) = B.take k ++ [B.getD k 0]) := take_snoc B k (by have := HN.out; omega)
   obtain ⟨c, hcd⟩ : ∃ c, c = B.getD k 0 := ⟨_, rfl⟩
   rw [← hcd] at hck hcb HTS
   clear hcd
   have HTL : Hid ((B.take k).length = k) := htl
   have HHO : Hid (wr.ownsRow w.heap.size 5 1 u3 k (vals (B.take k))) := hown
   clear htl hown
   go_wp2_with (first
    | (at_builtin; refine wpList_append_own _ rfl (.tmp 11) (.tmp 16) 51 rfl w.heap.size 5 i0 (.int .u8 0) 1 1 Tryz.underlying51 hi hz0 hz1 hz2 rfl (by decide) u3 k (vals (B.take k)) rfl (HHO.out.alloc _) ⟨wr.heap.size, 0, none⟩ 1 1 [.int .u8 (c : Int)] rfl rfl (cell_one_new _ _ _) (Shade.one _ rfl) (by unfold maxLen; omega) (by omega) (by simp; omega) ?_; intro v' w1 hown1 hgrow1 _))
   go_roundw
   case rel =>
    refine ⟨k + 1, by omega, by go_num, ?_, (hnx.alloc (by omega) _).grown hgrow1 (by simp; omega) (fun j hj => (HHO.out.lt j hj).1)⟩
    show Owns _ _ _ _
    rw [HTS.out]
    exact HO.out.snoc hcb (by rw [HTL.out]; omega) (by rw [HTL.out]; exact hown1)
   case measure => simp [intOf]; omega
  ·have HTS : Hid (B.take k = B) := List.take_of_length_le (by have := HN.out; omega)
   go_wp2
   go_ret
   exact ⟨_, rfl, by have := HO.out; rw [HTS.out] at this; exact this, hnx⟩
theorem copy_any {lim : Nat} {ao : Option Addr} {B : List Nat} {n cap : Nat} {w : World} (h : Shows lim w ao n cap B) (hl : lim ≤ w.heap.size) :
  Calls Tryz.prog 132 #[.slice ao n cap] w fun e w' => ∃ v, e = .returned v ∧ Owns w.heap.size w' v B ∧ Below w.heap.size w w' := by
 obtain ⟨h1, h2, h3, h4, b, off, h5, h6, h7⟩ := h
 exact copy_walk b off ao B n cap w h5 h1 h3 h4 (fun h => Nat.lt_of_lt_of_le (h6 h) hl) h7
set_option maxRecDepth 10000 in
set_option maxHeartbeats 800000 in
theorem join_walk (b off : Nat) (ao co : Option Addr) (A B : List Nat) (m mcap n cap lim : Nat) (w : World) (hA : Shows lim w co m mcap A) (hlim : lim ≤ w.heap.size) (hao : 0 < n → ao = some ⟨b, off, none⟩) (hn : n = B.length) (hl : A.length + n ≤ 140737488355328) (hB : ∀ x ∈ B, x < 256)
 (hbw : 0 < n → b < w.heap.size) (hc : ∀ i, i < n → w.cell? ⟨b, off + i, none⟩ = some (.int .u8 ((B.getD i 0 : Nat) : Int))) :
  Calls Tryz.prog 128 #[.slice co m mcap, .slice ao n cap] w fun e w' => ∃ v, e = .returned v ∧ Owns w.heap.size w' v (A ++ B) ∧ Below w.heap.size w w' := by
 obtain ⟨i0, hi, hz0, hz1, hz2⟩ := info_parts Tryz.info5
 have HA : Hid (0 < n → ao = some ⟨b, off, none⟩) := hao
 have HN : Hid (n = B.length) := hn
 have HB : Hid (∀ x ∈ B, x < 256) := hB
 have HW : Hid (0 < n → b < w.heap.size) := hbw
 have HC : Hid (∀ i, i < n → w.cell? ⟨b, off + i, none⟩ = some (.int .u8 ((B.getD i 0 : Nat) : Int))) := hc
 have HCP := copy_any hA hlim
 have HCP' : Hid (Calls Tryz.prog 132 #[.slice co m mcap] w fun e w' => ∃ v, e = .returned v ∧ Owns w.heap.size w' v A ∧ Below w.heap.size w w') := HCP
 clear HCP hA hlim hao hn hB hbw hc
 go_enter Tryz.func128, Tryz.ntmps128
 go_wp2_with fail
 refine HCP'.out.mono ?_
 rintro e w1 ⟨v, rfl, ho1, hb1⟩
 have HO1 : Hid (Owns w.heap.size w1 v A) := ho1
 clear ho1
 go_wp2
 go_loopw [5, 6] (fun v i wr => ∃ k : Nat, k ≤ n ∧ i = .int .i64 k ∧ Hid (Owns w.heap.size wr v (A ++ B.take k)) ∧ Below w.heap.size w wr) (fun _ i _ => n - (intOf i).toNat)
 case atStart => exact ⟨0, by omega, rfl, by rw [List.take_zero, List.append_nil]; exact HO1.out, hb1⟩
 case round =>
  clear HO1 hb1
  obtain ⟨k, hk, rfl, HO, hnx⟩ := hrel
  have hsize := hnx.size
  by_cases hlt : k < n
  ·have hck := (hnx.cell (p := ⟨b, off + k, none⟩) (HW.out (by omega))).trans (HC.out k hlt)
   obtain rfl := HA.out (by omega)
   have hcb := getD_lt B HB.out k
   have htl : (A ++ B.take k).length = A.length + k := by rw [List.length_append, List.length_take]; have := HN.out; omega
   have hown : wr.ownsRow w.heap.size 5 1 u5 (A.length + k) (vals (A ++ B.take k)) := by have := HO.out.1; rw [htl] at this; exact this
   have HTS : Hid (A ++ B.take (k + 1) = (A ++ B.take k) ++ [B.getD k 0]) := by show _ = _; rw [take_snoc B k (by have := HN.out; omega), List.append_assoc]
   obtain ⟨c, hcd⟩ : ∃ c, c = B.getD k 0 := ⟨_, rfl⟩
   rw [← hcd] at hck hcb HTS
   clear hcd
   have HTL : Hid ((A ++ B.take k).length = A.length + k) := htl
   have HHO : Hid (wr.ownsRow w.heap.size 5 1 u5 (A.length + k) (vals (A ++ B.take k))) := hown
   clear htl hown
   go_wp2_with (first
    | (at_builtin; refine wpList_append_own _ rfl (.tmp 15) (.tmp 20) 51 rfl w.heap.size 5 i0 (.int .u8 0) 1 1 Tryz.underlying51 hi hz0 hz1 hz2 rfl (by decide) u5 (A.length + k) (vals (A ++ B.take k)) rfl (HHO.out.alloc _) ⟨wr.heap.size, 0, none⟩ 1 1 [.int .u8 (c : Int)] rfl rfl (cell_one_new _ _ _) (Shade.one _ rfl) (by unfold maxLen; omega) (by omega) (by simp; omega) ?_; intro v' w1 hown1 hgrow1 _))
   go_roundw
   case rel =>
    refine ⟨k + 1, by omega, by go_num, ?_, (hnx.alloc (by omega) _).grown hgrow1 (by simp; omega) (fun j hj => (HHO.out.lt j hj).1)⟩
    show Owns _ _ _ _
    rw [HTS.out]
    exact HO.out.snoc hcb (by rw [HTL.out]; omega) (by rw [HTL.out]; exact hown1)
   case measure => simp [intOf]; omega
  ·have HTS : Hid (B.take k = B) := List.take_of_length_le (by have := HN.out; omega)
   go_wp2
   go_ret
   exact ⟨_, rfl, by have := HO.out; rw [HTS.out] at this; exact this, hnx⟩
theorem join_any {l1 l2 : Nat} {a1 a2 : Option Addr} {A B : List Nat} {n1 n2 c1 c2 : Nat} {w : World} (h1 : Shows l1 w a1 n1 c1 A) (hl1 : l1 ≤ w.heap.size) (h : Shows l2 w a2 n2 c2 B) (hl2 : l2 ≤ w.heap.size) (hl : A.length + n2 ≤ 140737488355328) :
  Calls Tryz.prog 128 #[.slice a1 n1 c1, .slice a2 n2 c2] w fun e w' => ∃ v, e = .returned v ∧ Owns w.heap.size w' v (A ++ B) ∧ Below w.heap.size w w' := by
 obtain ⟨p1, p2, p3, p4, b, off, p5, p6, p7⟩ := h
 exact join_walk b off a2 a1 A B n1 c1 n2 c2 l1 w h1 hl1 p5 p1 hl p4 (fun h => Nat.lt_of_lt_of_le (p6 h) hl2) p7
end Go.Proofs.YtggpaljilpbmhaaGreatDoor
namespace Go.Proofs.YtggpaljilpbmhaaGreatDoor
open Go.RowKit Crc

set_option maxRecDepth 10000 in
set_option maxHeartbeats 400000 in
theorem refusal_any (at_ why : Int) (w : World) :
  Calls Tryz.prog 85 #[.int .i64 at_, .int .i64 why] w fun e w' => ∃ v, e = .returned v ∧ v = .iface 74 (.pointer (some ⟨w.heap.size, 0, none⟩)) ∧ IsFault w' v at_ why ∧ Below w.heap.size w w' := by
 go_enter Tryz.func85, Tryz.ntmps85
 go_wp2
 go_ret
 refine ⟨_, rfl, rfl, ⟨w.heap.size, rfl, ?_, ?_, ?_⟩, (Below.refl _ _).alloc (Nat.le_refl _) _⟩ <;> simp
end Go.Proofs.YtggpaljilpbmhaaGreatDoor
