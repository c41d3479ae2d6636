import Derived.Test.YtcagbggnlfeadaaGreatDoorPBase
namespace Go.Proofs.YtcagbggnlfeadaaGreatDoor
open Go.RowKit Crc

/-- A list that was appended to: nothing but its own row has turned, and what it has now is that row or a new one. -/
def Ext (w w' : World) (v v' : Value) : Prop := w.grownBy w' v.ownBlock ∧ ∀ g, v'.ownBlock = some g → v.ownBlock = some g ∨ w.heap.size ≤ g
theorem Ext.refl (w : World) (v : Value) : Ext w w v v := ⟨⟨rfl, rfl, rfl, Nat.le_refl _, fun _ _ _ => rfl⟩, fun _ h => .inl h⟩
theorem Ext.trans {a b c : World} {u v x : Value} (h : Ext a b u v) (k : Ext b c v x) : Ext a c u x := by
  refine ⟨⟨k.1.os.trans h.1.os, k.1.tape.trans h.1.tape, k.1.output.trans h.1.output, Nat.le_trans h.1.size k.1.size, fun i hi hr => ?_⟩, fun g hg => ?_⟩
  · refine (k.1.block i (Nat.lt_of_lt_of_le hi h.1.size) (fun e => ?_)).trans (h.1.block i hi hr)
    rcases h.2 i e.symm with h1 | h1
    · exact hr h1.symm
    · omega
  · rcases k.2 g hg with h1 | h1
    · exact h.2 g h1
    · exact .inr (Nat.le_trans h.1.size h1)
theorem Ext.alloc {a b : World} {u v : Value} (h : Ext a b u v) (o : Obj) : Ext a (b.alloc o) u v := by
  refine h.trans ⟨World.grownBy_alloc b o _, fun g hg => .inl hg⟩

section
variable {P : Program} {ops : Array Oper} {rest : List Oper} {o : Oper} {a : Act} {Q : Exit → Act → World → Prop}
theorem wpList_append_ext (w : World) (hgd : o.guard = none) (s x : Operand) (t : TypeId)
    (ho : o.op = .call { callee := .builtin .append, args := #[s, x], argTypes := #[t, t] })
    (base : Nat) (e : TypeId) (i : TypeInfo) (z : Value) (ht : P.underlying t = some (.slice e)) (hi : P.info? e = some i) (hz : i.zero = some z)
    (hsize : i.size = 1) (hby : i.bytes = 1) (hzs : z.cells.size = 1)
    (v : Value) (n : Nat) (xs : List Value) (hs : a.eval s = v) (hown : w.ownsRow base e 1 v n xs)
    (ad : Addr) (m c : Nat) (news : List Value) (hx : a.eval x = .slice (some ad) m c) (hl : news.length = m) (hnews : ∀ j u, news[j]? = some u → w.cell? (ad.add j) = some u) (h1 : ∀ u ∈ news, u.oneCell' = true)
    (hm : 0 < m) (hbytes : n + m ≤ 140737488355328) (hbase : base ≤ w.heap.size)
    (h : ∀ v' w', w'.ownsRow base e 1 v' (n + m) (xs ++ news) → Ext w w' v v' → wpList P ops Q rest (a.put o.dst v') w') : wpList P ops Q (o :: rest) a w := by
  rcases hown.2 with ⟨rfl, rfl⟩ | ⟨g, cap, cur, rfl, hbg, hg, hnc, hcm, hcs, htake⟩
  · have hxs : xs = [] := List.eq_nil_of_length_eq_zero (by have := hown.1; omega)
    subst hxs
    refine wpList_append_grows w hgd s x t ho e i z 1 1 ht hi hz hsize hby hzs (by omega) none 0 0 [] hs (fun _ => ⟨rfl, rfl⟩) (by simp) (fun b hb => by cases hb) ad m c news hx (by omega) hnews h1 (by omega) (by unfold maxLen; omega) (by omega) ?_
    intro v' w' hown' hgrow
    refine h v' w' ?_ ⟨⟨hgrow.os, hgrow.tape, hgrow.output, hgrow.size, hgrow.block⟩, fun g hg => .inr (hown'.lt g hg).1⟩
    refine ⟨hown'.1, ?_⟩
    rcases hown'.2 with h0 | ⟨g, cap, cur, hv, hbg, rest⟩
    · exact .inl h0
    · exact .inr ⟨g, cap, cur, hv, by omega, rest⟩
  · by_cases hroom : n + m ≤ cap
    · refine wpList_append_own_spare w hgd s x t ho base e i 1 ht hi hsize g n cap xs hs hown ad m c news hx (by omega) hnews h1 hroom ?_
      intro w' hown' hgrow
      exact h _ w' hown' ⟨hgrow, fun g' hg' => .inl hg'⟩
    · have holds : ∀ b, some (⟨g, 0, none⟩ : Addr) = some b → ∀ j u, xs[j]? = some u → w.cell? (b.add j) = some u := by
        intro b hb j u hj
        cases hb
        exact hown.cells rfl j u hj
      refine wpList_append_grows w hgd s x t ho e i z 1 1 ht hi hz hsize hby hzs (by omega) (some ⟨g, 0, none⟩) n cap xs hs (fun h => by cases h) hown.1 holds ad m c news hx (by omega) hnews h1 (by omega) (by unfold maxLen; omega) (by omega) ?_
      intro v' w' hown' hgrow
      refine h v' w' ?_ ⟨⟨hgrow.os, hgrow.tape, hgrow.output, hgrow.size, fun k hk _ => hgrow.block k hk (by simp)⟩, fun g hg => .inr (hown'.lt g hg).1⟩
      refine ⟨hown'.1, ?_⟩
      rcases hown'.2 with h0 | ⟨g, cap, cur, hv, hbg, rest⟩
      · exact .inl h0
      · exact .inr ⟨g, cap, cur, hv, by omega, rest⟩
end

/-- A number in groups of seven bits, the lowest first. -/
def numTo : Nat → Nat → List Nat
  | 0, v => [v]
  | f + 1, v => if v < 128 then [v] else (v % 128 + 128) :: numTo f (v / 128)
def numB (v : Nat) : List Nat := numTo 9 v
theorem numTo_lt : ∀ f v, v < 128 ^ (f + 1) → ∀ x ∈ numTo f v, x < 256
  | 0, v, h, x, hx => by simp [numTo] at hx; subst hx; simp at h; omega
  | f + 1, v, h, x, hx => by
    unfold numTo at hx
    by_cases hv : v < 128
    · rw [if_pos hv] at hx; simp at hx; omega
    · rw [if_neg hv] at hx
      rcases List.mem_cons.1 hx with rfl | hx
      · omega
      · exact numTo_lt f (v / 128) (by rw [Nat.pow_succ] at h; omega) x hx
theorem numB_lt (v : Nat) (h : v < 18446744073709551616) : ∀ x ∈ numB v, x < 256 := numTo_lt 9 v (by omega)
theorem numTo_len : ∀ f v, (numTo f v).length ≤ f + 1
  | 0, v => by simp [numTo]
  | f + 1, v => by
    unfold numTo
    by_cases hv : v < 128
    · rw [if_pos hv]; simp
    · rw [if_neg hv]; simp; exact numTo_len f (v / 128)
theorem numTo_pos : ∀ f v, 0 < (numTo f v).length
  | 0, v => by simp [numTo]
  | f + 1, v => by unfold numTo; by_cases hv : v < 128 <;> simp [hv]
/-- One step, fuel aside. -/
theorem numTo_more : ∀ f v, v < 128 ^ (f + 1) → numTo (f + 1) v = numTo f v
  | 0, v, h => by simp at h; simp [numTo, h]
  | f + 1, v, h => by
    rw [numTo]
    conv => rhs; rw [numTo]
    by_cases hv : v < 128
    · rw [if_pos hv, if_pos hv]
    · rw [if_neg hv, if_neg hv, numTo_more f (v / 128) (by rw [Nat.pow_succ] at h; omega)]
theorem numB_big (v : Nat) (hv : ¬ v < 128) (h : v < 18446744073709551616) : numB v = (v % 128 + 128) :: numB (v / 128) := by
  unfold numB
  conv => lhs; rw [numTo]
  rw [if_neg hv, numTo_more 8 (v / 128) (by omega)]
theorem numB_small (v : Nat) (hv : v < 128) : numB v = [v] := by simp [numB, numTo, hv]
end Go.Proofs.YtcagbggnlfeadaaGreatDoor
