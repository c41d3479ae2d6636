import Derived.Test.YtkjkhohbhgglnaaBMj
import Derived.Maps.OwnSet
import Derived.WalkSpells
namespace Go.Proofs.Ytkjkhohbhgglnaa
open Go.RowKit

/-- A kind of keys: its type, the map's type, how a key lies and how it is told. -/
structure KeyK (κ : Type) where
  (kt mt : TypeId) (enc : κ → Value) (lit : κ → Lit) (ok : κ → Prop)
  (K : Maps.Keyed Try.prog kt) (ht : Try.prog.underlying mt = some (.map kt 32))
  (key : ∀ x, ok x → keyOf Try.prog kt (enc x) = some (lit x)) (isk : ∀ x, WideAt.IsKeyLit (lit x))
  (inj : ∀ x y, ok x → ok y → lit x = lit y → x = y)
section
variable {κ : Type} [DecidableEq κ]
def upd {β : Type} (m : κ → β) (k : κ) (v : β) : κ → β := fun x => if x = k then v else m x
/-- Block b is a map with n keys: key x has the set m x, and is there if p x. -/
def TM (Y : KeyK κ) (w : World) (b n : Nat) (m : κ → Nat) (p : κ → Bool) : Prop :=
  ∃ D : DataW Unit, w.ownsMap Try.prog Y.kt (plainElem Try.prog 32) b n D ∧ Maps.size D = n ∧ (∀ x, Y.ok x → D.atKey (Y.lit x) (.lit (.int .u32 0)) = .lit (.int .u32 ((m x : Nat) : Int))) ∧ (∀ x, Y.ok x → Maps.has D (Y.lit x) = p x) ∧ ∀ x, m x < 4294967296
variable {Y : KeyK κ} {w : World} {b n : Nat} {m : κ → Nat} {p : κ → Bool}
omit [DecidableEq κ] in
theorem tm_made (Y : KeyK κ) (w : World) : TM Y (w.alloc (.map #[] 0)) w.heap.size 0 (fun _ => 0) (fun _ => false) :=
  ⟨.map [], World.ownsMap_made w _ _ _, rfl, fun _ _ => rfl, fun _ _ => rfl, fun _ => by show 0 < 4294967296; omega⟩
omit [DecidableEq κ] in
theorem TM.kept (h : TM Y w b n m p) {w' : World} {row : Option Nat} (hg : w.grownBy w' row) (hne : some b ≠ row) : TM Y w' b n m p := by
  obtain ⟨D, h1, h2⟩ := h
  exact ⟨D, h1.kept hg hne, h2⟩
omit [DecidableEq κ] in
theorem TM.lt (h : TM Y w b n m p) : b < w.heap.size := by
  obtain ⟨D, h1, _⟩ := h
  exact h1.lt
omit [DecidableEq κ] in
theorem TM.small (h : TM Y w b n m p) (x : κ) : m x < 4294967296 := by
  obtain ⟨D, _, _, _, _, h5⟩ := h
  exact h5 x
theorem zero_set (w : World) : (zeroValue 32).run Try.prog w = .ok (.int .u32 0) w := by kernel_rfl
omit [DecidableEq κ] in
theorem TM.look (h : TM Y w b n m p) {x : κ} (hx : Y.ok x) : (Instr.lookup Y.mt (.map (some b)) (Y.enc x) false).run Try.prog w = .ok (.int .u32 ((m x : Nat) : Int)) w := by
  obtain ⟨D, h1, h2, h3, h4, h5⟩ := h
  obtain ⟨c, hr, hc, _⟩ := h1.lookup_int Y.K Y.ht Try.underlying32 (zero_set w) (Y.key x hx)
  rw [h3 x hx] at hc
  cases hc
  exact hr
omit [DecidableEq κ] in
theorem TM.look_ok (h : TM Y w b n m p) {x : κ} (hx : Y.ok x) : (Instr.lookup Y.mt (.map (some b)) (Y.enc x) true).run Try.prog w = .ok (.tuple #[.int .u32 ((m x : Nat) : Int), .bool (p x)]) w := by
  obtain ⟨D, h1, h2, h3, h4, h5⟩ := h
  obtain ⟨v, ps, hr, hv⟩ := h1.look_ok Y.K Y.ht (zero_set w) (plainElem_int Try.underlying32 (by decide)) (Y.key x hx)
  obtain ⟨c, rfl, hc, _⟩ := plainElem_int_inv Try.underlying32 hv
  rw [h3 x hx] at hc
  cases hc
  rw [h4 x hx] at hr
  exact hr
omit [DecidableEq κ] in
theorem TM.len (h : TM Y w b n m p) (ty : TypeId) : (Builtin.len_ #[Y.mt] ty #[.map (some b)]).run Try.prog w = .ok (.int .i64 (n : Nat)) w := by
  obtain ⟨D, h1, h2, h3, h4, h5⟩ := h
  have := h1.len Y.ht ty
  rw [h2] at this
  exact this
theorem TM.store (h : TM Y w b n m p) {x : κ} (hx : Y.ok x) (hn : n < maxLen) {v : Nat} (hv : v < 4294967296) :
    ∃ w', (Instr.mapUpdate Y.mt (.map (some b)) (Y.enc x) (.int .u32 (v : Nat))).run Try.prog w = .ok () w' ∧ TM Y w' b (if p x = true then n else n + 1) (upd m x v) (upd p x true) ∧ w.grownBy w' (some b) := by
  obtain ⟨D, h1, h2, h3, h4, h5⟩ := h
  have hti := h1.tidy Y.K
  have hwf : (Lit.int .u32 (v : Int)).wf = true := by simp [Lit.wf, IntKind.min, IntKind.max, IntKind.bits, IntKind.signed]; omega
  obtain ⟨w', hr, ho, ht⟩ := h1.store Y.K Y.ht hn (Y.key x hx) (plainElem_int (H := Unit) Try.underlying32 hwf)
  have hsz := Maps.size_put (k := Y.lit x) hti (.lit (.int .u32 (v : Int)))
  rw [h4 x hx, h2] at hsz
  refine ⟨w', hr, ⟨_, ?_, hsz, fun y hy => ?_, fun y hy => ?_, fun y => ?_⟩, ht.grown⟩
  · obtain ⟨es, clock, e1, e2, e3, e4⟩ := ho
    have e5 : es.size = Maps.size (D.put (Y.lit x) (.lit (.int .u32 (v : Int)))) := by rw [e4]; simp [Maps.size, length_sorted]
    exact ⟨es, clock, e1, e2, by rw [e5, hsz]; exact Nat.le_refl _, e4⟩
  · unfold upd
    split
    · rename_i e; subst e; exact Maps.atKey_put_same h1.isMap (Y.isk _) _ _
    · rename_i e; rw [Maps.atKey_put_other (fun h => e (Y.inj _ _ hy hx h))]; exact h3 y hy
  · unfold upd
    split
    · rename_i e; subst e; exact Maps.has_put_same h1.isMap (Y.isk _) _
    · rename_i e; rw [Maps.has_put_other (fun h => e (Y.inj _ _ hy hx h))]; exact h4 y hy
  · unfold upd
    split
    · exact hv
    · exact h5 y
theorem TM.drop (h : TM Y w b n m p) {x : κ} (hx : Y.ok x) (ty : TypeId) :
    ∃ w', (Builtin.delete_ #[Y.mt, Y.kt] ty #[.map (some b), Y.enc x]).run Try.prog w = .ok (.tuple #[]) w' ∧ TM Y w' b (if p x = true then n - 1 else n) (upd m x 0) (upd p x false) ∧ w.grownBy w' (some b) := by
  obtain ⟨D, h1, h2, h3, h4, h5⟩ := h
  have hti := h1.tidy Y.K
  obtain ⟨w', hr, ho, ht⟩ := h1.drop Y.K Y.ht (Y.key x hx) ty
  have hsz := Maps.size_del (k := Y.lit x) hti
  rw [h4 x hx, h2] at hsz
  have hsz2 : Maps.size (D.del (Y.lit x)) = (if p x = true then n - 1 else n) := by
    cases hp : p x <;> rw [hp] at hsz <;> simp at hsz ⊢ <;> omega
  refine ⟨w', hr, ⟨_, ?_, hsz2, fun y hy => ?_, fun y hy => ?_, fun y => ?_⟩, ht.grown⟩
  · obtain ⟨es, clock, e1, e2, e3, e4⟩ := ho
    have e5 : es.size = Maps.size (D.del (Y.lit x)) := by rw [e4]; simp [Maps.size, length_sorted]
    exact ⟨es, clock, e1, e2, by rw [e5, hsz2]; exact Nat.le_refl _, e4⟩
  · unfold upd
    split
    · rename_i e; subst e; exact Maps.atKey_del_same _
    · rename_i e; rw [Maps.atKey_del_other (fun h => e (Y.inj _ _ hy hx h))]; exact h3 y hy
  · unfold upd
    split
    · rename_i e; subst e; exact Maps.has_del_same
    · rename_i e; rw [Maps.has_del_other (fun h => e (Y.inj _ _ hy hx h))]; exact h4 y hy
  · unfold upd
    split
    · show 0 < 4294967296; omega
    · exact h5 y
end
/-- The keys that are numbers. -/
theorem wf_u64 {x : Nat} (h : x < 18446744073709551616) : (Lit.int .u64 (x : Int)).wf = true := by simp [Lit.wf, IntKind.min, IntKind.max, IntKind.bits, IntKind.signed]; omega
def KU : KeyK Nat where
  kt := 22
  mt := 79
  enc := fun x => .int .u64 (x : Int)
  lit := fun x => .int .u64 (x : Int)
  ok := fun x => x < 18446744073709551616
  K := Maps.int_keyed Try.underlying22
  ht := Try.underlying79
  key := fun x hx => Maps.keyOf_int_mk Try.underlying22 (wf_u64 hx)
  isk := fun _ => trivial
  inj := fun x y _ _ h => by cases h; rfl
end Go.Proofs.Ytkjkhohbhgglnaa
