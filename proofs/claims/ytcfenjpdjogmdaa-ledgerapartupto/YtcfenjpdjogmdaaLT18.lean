import Derived.Test.YtcfenjpdjogmdaaLT16
import Derived.Test.YtcfenjpdjogmdaaLT19
import Derived.Maps.OwnSet
import Derived.WalkSpells
namespace Go.Proofs.Ytcfenjpdjogmdaa
open Go.RowKit

/-- An element reads as itself. -/
def RV : Value → Option (DataW Value × List MemPlace) := fun v => some (.held v, [])
abbrev kU (x : Nat) : Lit := .int .u64 (x : Int)
theorem KD : Maps.Keyed Try.prog 25 := Maps.int_keyed Try.underlying25
theorem kU_wf {x : Nat} (h : x < 18446744073709551616) : (kU x).wf = true := by simp [Lit.wf, IntKind.min, IntKind.max, IntKind.bits, IntKind.signed]; omega
theorem kU_of {x : Nat} (h : x < 18446744073709551616) : keyOf Try.prog 25 (.int .u64 (x : Int)) = some (kU x) := Maps.keyOf_int_mk Try.underlying25 (kU_wf h)
theorem kU_inj {x y : Nat} (h : kU x = kU y) : x = y := by cases h; rfl
def Ac.zero : Ac := ⟨0, 0, 0, 0⟩
def Ac.arr (a : Ac) : Array Value := #[.int .u64 (a.id : Nat), .int .u64 (a.ow : Nat), .int .u64 (a.ba : Nat), .int .u64 (a.cp : Nat)]
/-- Block mb is a map with n accounts: m. -/
def TAm (W : World) (mb n : Nat) (m : Nat → Option Ac) : Prop :=
  ∃ D : DataW Value, W.ownsMap Try.prog 25 RV mb n D ∧ Maps.size D = n ∧ ∀ x, x < 18446744073709551616 → D.atKey (kU x) (.held (.agg Ac.zero.arr)) = .held (.agg ((m x).getD Ac.zero).arr) ∧ Maps.has D (kU x) = (m x).isSome
theorem TAm.obj {W : World} {mb n : Nat} {m : Nat → Option Ac} (h : TAm W mb n m) : ∃ es k, W.heap[mb]? = some (.map es k) := by
  obtain ⟨D, ⟨es, k, h1, _⟩, _⟩ := h
  exact ⟨es, k, h1⟩
theorem TAm.lt {W : World} {mb n : Nat} {m : Nat → Option Ac} (h : TAm W mb n m) : mb < W.heap.size := by
  obtain ⟨es, k, h⟩ := h.obj
  exact block_lt h
theorem TAm.kept {W W' : World} {mb n : Nat} {m : Nat → Option Ac} (h : TAm W mb n m) {row : Option Nat} (hg : W.grownBy W' row) (hne : some mb ≠ row) : TAm W' mb n m := by
  obtain ⟨D, h1, h2⟩ := h
  exact ⟨D, h1.kept hg hne, h2⟩
theorem zero_acc (w : World) : (zeroValue 80).run Try.prog w = .ok (.agg Ac.zero.arr) w := by kernel_rfl
theorem TAm.look {W : World} {mb n : Nat} {m : Nat → Option Ac} (h : TAm W mb n m) {x : Nat} (hx : x < 18446744073709551616) : (Instr.lookup 65 (.map (some mb)) (.int .u64 (x : Int)) false).run Try.prog W = .ok (.agg ((m x).getD Ac.zero).arr) W := by
  obtain ⟨D, h1, _, h2⟩ := h
  obtain ⟨v, ps, hr, hv⟩ := h1.lookup KD Try.underlying65 (zero_acc W) (rfl : RV (.agg Ac.zero.arr) = _) (kU_of hx)
  rw [(h2 x hx).1] at hv
  cases hv
  exact hr
theorem TAm.look_ok {W : World} {mb n : Nat} {m : Nat → Option Ac} (h : TAm W mb n m) {x : Nat} (hx : x < 18446744073709551616) : (Instr.lookup 65 (.map (some mb)) (.int .u64 (x : Int)) true).run Try.prog W = .ok (.tuple #[.agg ((m x).getD Ac.zero).arr, .bool (m x).isSome]) W := by
  obtain ⟨D, h1, _, h2⟩ := h
  obtain ⟨v, ps, hr, hv⟩ := h1.look_ok KD Try.underlying65 (zero_acc W) (rfl : RV (.agg Ac.zero.arr) = _) (kU_of hx)
  rw [(h2 x hx).1] at hv
  cases hv
  rw [(h2 x hx).2] at hr
  exact hr
theorem TAm.len {W : World} {mb n : Nat} {m : Nat → Option Ac} (h : TAm W mb n m) (ty : TypeId) : (Builtin.len_ #[65] ty #[.map (some mb)]).run Try.prog W = .ok (.int .i64 (n : Nat)) W := by
  obtain ⟨D, h1, h2, _⟩ := h
  have := h1.len Try.underlying65 ty
  rw [h2] at this
  exact this
def updA (m : Nat → Option Ac) (a : Ac) : Nat → Option Ac := fun x => if x = a.id then some a else m x
theorem TAm.store {W : World} {mb n : Nat} {m : Nat → Option Ac} (h : TAm W mb n m) (a : Ac) (hx : a.id < 18446744073709551616) (hn : n < maxLen) (hno : m a.id = none) :
    ∃ w', (Instr.mapUpdate 65 (.map (some mb)) (.int .u64 (a.id : Int)) (.agg a.arr)).run Try.prog W = .ok () w' ∧ TAm w' mb (n + 1) (updA m a) ∧ W.grownBy w' (some mb) := by
  obtain ⟨D, h1, hs, h2⟩ := h
  have hti := h1.tidy KD
  obtain ⟨w', hr, ho, ht⟩ := h1.store KD Try.underlying65 hn (kU_of hx) (rfl : RV (.agg a.arr) = _)
  have hsz := Maps.size_put (k := kU a.id) hti (.held (.agg a.arr))
  rw [(h2 _ hx).2, hs, hno] at hsz
  simp only [Option.isSome_none, Bool.false_eq_true, if_false] at hsz
  refine ⟨w', hr, ⟨_, ho, hsz, fun y hy => ?_⟩, ht.grown⟩
  unfold updA
  split
  · rename_i e; subst e; exact ⟨Maps.atKey_put_same (k := kU a.id) h1.isMap (show WideAt.IsKeyLit (kU a.id) from trivial) _ _, Maps.has_put_same h1.isMap (show WideAt.IsKeyLit (kU a.id) from trivial) _⟩
  · rename_i e
    rw [Maps.atKey_put_other (fun h => e (kU_inj h)), Maps.has_put_other (fun h => e (kU_inj h))]
    exact h2 y hy
theorem tam_made (W : World) : TAm (W.alloc (.map #[] 0)) W.heap.size 0 (fun _ => none) := ⟨.map [], World.ownsMap_made W _ _ _, rfl, fun _ _ => ⟨rfl, rfl⟩⟩
/-- The accounts of a list, by their numbers. -/
def byId (l : List Ac) (x : Nat) : Option Ac := l.find? (fun a => a.id == x)
/-- A ledger that was begun with these accounts. -/
structure LP (W : World) (p a b : Nat) (l : List Ac) (s : Nat) : Prop where
  blk : ∃ cs : Array Value, W.heap[p]? = some (.cells cs 77 (0, 0)) ∧ cs[0]? = some (.int .u64 (s : Nat)) ∧ cs[1]? = some (.map (some a)) ∧ cs[2]? = some (.map (some b)) ∧ cs[3]? = some (.int .u64 1)
  acc : TAm W a l.length (byId l)
  hol : W.heap[b]? = some (.map #[] 0)
  ne : a ≠ b
theorem LP.kept {W W' : World} {p a b : Nat} {l : List Ac} {s : Nat} (h : LP W p a b l s) (hb : Below W.heap.size W W') : LP W' p a b l s := by
  obtain ⟨cs, h1, h2⟩ := h.blk
  exact ⟨⟨cs, (hb.block _ (block_lt h1)).trans h1, h2⟩, h.acc.kept (below_none hb) (by simp), (hb.block _ (block_lt h.hol)).trans h.hol, h.ne⟩
theorem LP.c {W : World} {p a b : Nat} {l : List Ac} {s : Nat} (h : LP W p a b l s) : W.cell? ⟨p, 0, none⟩ = some (.int .u64 (s : Nat)) ∧ W.cell? ⟨p, 1, none⟩ = some (.map (some a)) ∧ W.cell? ⟨p, 2, none⟩ = some (.map (some b)) ∧ W.cell? ⟨p, 3, none⟩ = some (.int .u64 1) ∧ p < W.heap.size := by
  obtain ⟨cs, h1, h2, h3, h4, h5⟩ := h.blk
  exact ⟨(block_cell h1 0).trans h2, (block_cell h1 1).trans h3, (block_cell h1 2).trans h4, (block_cell h1 3).trans h5, block_lt h1⟩
theorem map_someA (r : Nat) (w : World) : (binOp BinOp.neq 65 (.map (some r)) (.map none)).run Try.prog w = .ok (.bool true) w := by kernel_rfl
set_option maxRecDepth 10000 in
theorem madeA {w : World} {p a b : Nat} {l : List Ac} {s : Nat} (h : LP w p a b l s) :
    Calls Try.prog 28 #[.pointer (some ⟨p, 0, none⟩)] w fun e w' => e = .returned (.bool true) ∧ w' = w := by
  obtain ⟨c0, c1, c2, c3, cl⟩ := h.c
  have hm := map_someA a w
  clear h
  go_enter Try.func28, Try.ntmps28
  go_wp2
  go_ret
  exact ⟨rfl, rfl⟩
set_option maxRecDepth 10000 in
set_option maxHeartbeats 800000 in
theorem totalA {w : World} {p a b : Nat} {l : List Ac} {s : Nat} (h : LP w p a b l s) :
    Calls Try.prog 19 #[.pointer (some ⟨p, 0, none⟩)] w fun e w' => e = .returned (.int .u64 (s : Nat)) ∧ w' = w := by
  obtain ⟨c0, c1, c2, c3, cl⟩ := h.c
  have HM := hide (madeA h)
  clear h
  go_enter Try.func19, Try.ntmps19
  go_wp2_with fail
  refine HM.out.mono ?_
  rintro e w1 ⟨rfl, rfl⟩
  go_wp2
  go_ret
  exact ⟨rfl, rfl⟩
def ledgerN : ByteArray := ⟨#[108, 101, 100, 103, 101, 114]⟩
set_option maxRecDepth 10000 in
set_option maxHeartbeats 400000 in
theorem refusalL {w : World} (at_ : Int) (c : Int) : Calls Try.prog 41 #[.int .i64 at_, .int .i64 c] w fun e w' => ∃ g, e = .returned (.iface 124 (.pointer (some ⟨g, 0, none⟩))) ∧ Hid (Chain w'.heap.size w' [⟨ledgerN, at_⟩] (.iface 124 (.pointer (some ⟨g, 0, none⟩))) c ∧ Below w.heap.size w w') := by
  have HB : Hid (∀ o, Below w.heap.size w (w.alloc o)) := fun o => (Below.refl _ _).alloc (Nat.le_refl _) _
  have HC : Hid (∀ t, (w.alloc (.cells #[.string ledgerN, .int .i64 at_, .iface 37 (.int .i64 c)] t)).heap[w.heap.size]? = some (.cells #[.string ledgerN, .int .i64 at_, .iface 37 (.int .i64 c)] t (0, 0))) := fun t => alloc_atK _ _
  go_enter Try.func41, Try.ntmps41
  go_wp2
  go_ret
  exact ⟨_, rfl, ⟨_, _, rfl, block_lt (HC.out _), block_cell (HC.out _) 0, block_cell (HC.out _) 1, block_cell (HC.out _) 2, rfl⟩, HB.out _⟩
end Go.Proofs.Ytcfenjpdjogmdaa
namespace Go.Proofs.Ytcfenjpdjogmdaa
open Go.RowKit

theorem own_tight {W : World} {P : Program} {k : TypeId} {R : Value → Option (DataW Value × List MemPlace)} {b n : Nat} {D : DataW Value} (h : W.ownsMap P k R b n D) : W.ownsMap P k R b (Maps.size D) D := by
  obtain ⟨es, clock, hb, F, _, rfl⟩ := h
  exact ⟨es, clock, hb, F, by simp [Maps.size, DataW.length_sorted], rfl⟩
def Ho.arr (a : Ho) : Array Value := #[.int .u64 (a.id : Nat), .int .u64 (a.fr : Nat), .int .u64 (a.am : Nat)]
def Jn.vals (a : Jn) : List Value := [.int .u64 (a.sq : Nat), .int .i64 (a.kd : Nat), .int .u64 (a.fr : Nat), .int .u64 (a.tw : Nat), .int .u64 (a.am : Nat)]
/-- Block mb is a map with n holds: m. -/
def THm (W : World) (mb n : Nat) (m : Nat → Option Ho) : Prop :=
  ∃ D : DataW Value, W.ownsMap Try.prog 25 RV mb n D ∧ Maps.size D = n ∧ ∀ x, x < 18446744073709551616 → D.atKey (kU x) (.held (.agg Ho.zero.arr)) = .held (.agg ((m x).getD Ho.zero).arr) ∧ Maps.has D (kU x) = (m x).isSome
theorem THm.obj {W : World} {mb n : Nat} {m : Nat → Option Ho} (h : THm W mb n m) : ∃ es k, W.heap[mb]? = some (.map es k) := by
  obtain ⟨D, ⟨es, k, h1, _⟩, _⟩ := h
  exact ⟨es, k, h1⟩
theorem THm.lt {W : World} {mb n : Nat} {m : Nat → Option Ho} (h : THm W mb n m) : mb < W.heap.size := by
  obtain ⟨es, k, h⟩ := h.obj
  exact block_lt h
theorem THm.kept {W W' : World} {mb n : Nat} {m : Nat → Option Ho} (h : THm W mb n m) {row : Option Nat} (hg : W.grownBy W' row) (hne : some mb ≠ row) : THm W' mb n m := by
  obtain ⟨D, h1, h2⟩ := h
  exact ⟨D, h1.kept hg hne, h2⟩
theorem zero_hold (w : World) : (zeroValue 83).run Try.prog w = .ok (.agg Ho.zero.arr) w := by kernel_rfl
theorem THm.look {W : World} {mb n : Nat} {m : Nat → Option Ho} (h : THm W mb n m) {x : Nat} (hx : x < 18446744073709551616) : (Instr.lookup 66 (.map (some mb)) (.int .u64 (x : Int)) false).run Try.prog W = .ok (.agg ((m x).getD Ho.zero).arr) W := by
  obtain ⟨D, h1, _, h2⟩ := h
  obtain ⟨v, ps, hr, hv⟩ := h1.lookup KD Try.underlying66 (zero_hold W) (rfl : RV (.agg Ho.zero.arr) = _) (kU_of hx)
  rw [(h2 x hx).1] at hv
  cases hv
  exact hr
theorem THm.look_ok {W : World} {mb n : Nat} {m : Nat → Option Ho} (h : THm W mb n m) {x : Nat} (hx : x < 18446744073709551616) : (Instr.lookup 66 (.map (some mb)) (.int .u64 (x : Int)) true).run Try.prog W = .ok (.tuple #[.agg ((m x).getD Ho.zero).arr, .bool (m x).isSome]) W := by
  obtain ⟨D, h1, _, h2⟩ := h
  obtain ⟨v, ps, hr, hv⟩ := h1.look_ok KD Try.underlying66 (zero_hold W) (rfl : RV (.agg Ho.zero.arr) = _) (kU_of hx)
  rw [(h2 x hx).1] at hv
  cases hv
  rw [(h2 x hx).2] at hr
  exact hr
theorem THm.len {W : World} {mb n : Nat} {m : Nat → Option Ho} (h : THm W mb n m) (ty : TypeId) : (Builtin.len_ #[66] ty #[.map (some mb)]).run Try.prog W = .ok (.int .i64 (n : Nat)) W := by
  obtain ⟨D, h1, h2, _⟩ := h
  have := h1.len Try.underlying66 ty
  rw [h2] at this
  exact this
theorem thm_empty {W : World} {b : Nat} (h : W.heap[b]? = some (.map #[] 0)) : THm W b 0 (fun _ => none) := ⟨.map [], ⟨#[], 0, h, ⟨by simp, MapKept.stamped_empty 0, by simp⟩, Nat.le_refl _, rfl⟩, rfl, fun _ _ => ⟨rfl, rfl⟩⟩
/-- One is put in, whether its number is there or not. -/
theorem TAm.put {W : World} {mb n : Nat} {m : Nat → Option Ac} (h : TAm W mb n m) (a : Ac) (hx : a.id < 18446744073709551616) (hn : n < maxLen) :
    ∃ w', (Instr.mapUpdate 65 (.map (some mb)) (.int .u64 (a.id : Int)) (.agg a.arr)).run Try.prog W = .ok () w' ∧ TAm w' mb (if (m a.id).isSome = true then n else n + 1) (fun x => if x = a.id then some a else m x) ∧ W.grownBy w' (some mb) := by
  obtain ⟨D, h1, hs, h2⟩ := h
  have hti := h1.tidy KD
  obtain ⟨w', hr, ho, ht⟩ := h1.store KD Try.underlying65 hn (kU_of hx) (rfl : RV (.agg a.arr) = _)
  have hsz := Maps.size_put (k := kU a.id) hti (.held (.agg a.arr))
  rw [(h2 _ hx).2, hs] at hsz
  have ho' := own_tight ho
  rw [hsz] at ho'
  refine ⟨w', hr, ⟨_, ho', hsz, fun y hy => ?_⟩, ht.grown⟩
  dsimp only
  by_cases e : y = a.id
  · subst e; rw [if_pos rfl]; exact ⟨Maps.atKey_put_same (k := kU a.id) h1.isMap (show WideAt.IsKeyLit (kU a.id) from trivial) _ _, Maps.has_put_same h1.isMap (show WideAt.IsKeyLit (kU a.id) from trivial) _⟩
  · rw [if_neg e]
    rw [Maps.atKey_put_other (fun h => e (kU_inj h)), Maps.has_put_other (fun h => e (kU_inj h))]
    exact h2 y hy
/-- One that is there is taken out. -/
theorem TAm.del {W : World} {mb n : Nat} {m : Nat → Option Ac} (h : TAm W mb (n + 1) m) {k : Nat} (hx : k < 18446744073709551616) (hk : (m k).isSome = true) (ty : TypeId) :
    ∃ w', (Builtin.delete_ #[65, 25] ty #[.map (some mb), .int .u64 (k : Int)]).run Try.prog W = .ok (.tuple #[]) w' ∧ TAm w' mb n (fun x => if x = k then none else m x) ∧ W.grownBy w' (some mb) := by
  obtain ⟨D, h1, hs, h2⟩ := h
  have hti := h1.tidy KD
  obtain ⟨w', hr, ho, ht⟩ := h1.drop KD Try.underlying65 (kU_of hx) ty
  have hsz := Maps.size_del (k := kU k) hti
  rw [(h2 _ hx).2, hs, hk] at hsz
  have hsz' : Maps.size (D.del (kU k)) = n := by simp at hsz; omega
  have ho' := own_tight ho
  rw [hsz'] at ho'
  refine ⟨w', hr, ⟨_, ho', hsz', fun y hy => ?_⟩, ht.grown⟩
  dsimp only
  by_cases e : y = k
  · subst e; rw [if_pos rfl]; exact ⟨Maps.atKey_del_same _, Maps.has_del_same⟩
  · rw [if_neg e]
    rw [Maps.atKey_del_other (fun h => e (kU_inj h)), Maps.has_del_other (fun h => e (kU_inj h))]
    exact h2 y hy
theorem TAm.congr {W : World} {mb n n' : Nat} {m m' : Nat → Option Ac} (h : TAm W mb n m) (hn : n = n') (hm : ∀ x, m x = m' x) : TAm W mb n' m' := by
  obtain rfl := hn
  obtain rfl : m = m' := funext hm
  exact h
/-- One is put in, whether its number is there or not. -/
theorem THm.put {W : World} {mb n : Nat} {m : Nat → Option Ho} (h : THm W mb n m) (a : Ho) (hx : a.id < 18446744073709551616) (hn : n < maxLen) :
    ∃ w', (Instr.mapUpdate 66 (.map (some mb)) (.int .u64 (a.id : Int)) (.agg a.arr)).run Try.prog W = .ok () w' ∧ THm w' mb (if (m a.id).isSome = true then n else n + 1) (fun x => if x = a.id then some a else m x) ∧ W.grownBy w' (some mb) := by
  obtain ⟨D, h1, hs, h2⟩ := h
  have hti := h1.tidy KD
  obtain ⟨w', hr, ho, ht⟩ := h1.store KD Try.underlying66 hn (kU_of hx) (rfl : RV (.agg a.arr) = _)
  have hsz := Maps.size_put (k := kU a.id) hti (.held (.agg a.arr))
  rw [(h2 _ hx).2, hs] at hsz
  have ho' := own_tight ho
  rw [hsz] at ho'
  refine ⟨w', hr, ⟨_, ho', hsz, fun y hy => ?_⟩, ht.grown⟩
  dsimp only
  by_cases e : y = a.id
  · subst e; rw [if_pos rfl]; exact ⟨Maps.atKey_put_same (k := kU a.id) h1.isMap (show WideAt.IsKeyLit (kU a.id) from trivial) _ _, Maps.has_put_same h1.isMap (show WideAt.IsKeyLit (kU a.id) from trivial) _⟩
  · rw [if_neg e]
    rw [Maps.atKey_put_other (fun h => e (kU_inj h)), Maps.has_put_other (fun h => e (kU_inj h))]
    exact h2 y hy
/-- One that is there is taken out. -/
theorem THm.del {W : World} {mb n : Nat} {m : Nat → Option Ho} (h : THm W mb (n + 1) m) {k : Nat} (hx : k < 18446744073709551616) (hk : (m k).isSome = true) (ty : TypeId) :
    ∃ w', (Builtin.delete_ #[66, 25] ty #[.map (some mb), .int .u64 (k : Int)]).run Try.prog W = .ok (.tuple #[]) w' ∧ THm w' mb n (fun x => if x = k then none else m x) ∧ W.grownBy w' (some mb) := by
  obtain ⟨D, h1, hs, h2⟩ := h
  have hti := h1.tidy KD
  obtain ⟨w', hr, ho, ht⟩ := h1.drop KD Try.underlying66 (kU_of hx) ty
  have hsz := Maps.size_del (k := kU k) hti
  rw [(h2 _ hx).2, hs, hk] at hsz
  have hsz' : Maps.size (D.del (kU k)) = n := by simp at hsz; omega
  have ho' := own_tight ho
  rw [hsz'] at ho'
  refine ⟨w', hr, ⟨_, ho', hsz', fun y hy => ?_⟩, ht.grown⟩
  dsimp only
  by_cases e : y = k
  · subst e; rw [if_pos rfl]; exact ⟨Maps.atKey_del_same _, Maps.has_del_same⟩
  · rw [if_neg e]
    rw [Maps.atKey_del_other (fun h => e (kU_inj h)), Maps.has_del_other (fun h => e (kU_inj h))]
    exact h2 y hy
theorem THm.congr {W : World} {mb n n' : Nat} {m m' : Nat → Option Ho} (h : THm W mb n m) (hn : n = n') (hm : ∀ x, m x = m' x) : THm W mb n' m' := by
  obtain rfl := hn
  obtain rfl : m = m' := funext hm
  exact h
theorem far_two {w w1 w2 : World} {r : Option Nat} (h : w.grownBy w1 r) (h' : w1.grownBy w2 r) : w.grownBy w2 r := ⟨h'.os.trans h.os, h'.tape.trans h.tape, h'.output.trans h.output, Nat.le_trans h.size h'.size, fun k hk hne => (h'.block k (Nat.lt_of_lt_of_le hk h.size) hne).trans (h.block k hk hne)⟩
/-- A ledger as it lies: block p, its accounts in map a, its holds in map b; mk, ch: its marks and changes. -/
structure LG (W : World) (p a b : Nat) (mk ch : Value) (S : LS) : Prop where
  blk : ∃ cs : Array Value, W.heap[p]? = some (.cells cs 77 (0, 0)) ∧ cs.size = 326 ∧ (cs[0]? = some (.int .u64 (S.tot : Nat)) ∧ cs[1]? = some (.map (some a)) ∧ cs[2]? = some (.map (some b)) ∧ cs[3]? = some (.int .u64 (S.nx : Nat)) ∧ cs[324]? = some mk ∧ cs[325]? = some ch) ∧ ∀ k, k < 64 → ∀ (j : Nat) (v : Value), (S.rg k).vals[j]? = some v → cs[4 + k * 5 + j]? = some v
  acc : TAm W a S.acc.length (byK Ac.id S.acc)
  hol : THm W b S.hol.length (byK Ho.id S.hol)
  ne : a ≠ b
theorem LG.lt {W : World} {p a b : Nat} {mk ch : Value} {S : LS} (h : LG W p a b mk ch S) : p < W.heap.size ∧ a < W.heap.size ∧ b < W.heap.size := by
  obtain ⟨cs, h1, _⟩ := h.blk
  exact ⟨block_lt h1, h.acc.lt, h.hol.lt⟩
theorem LG.nes {W : World} {p a b : Nat} {mk ch : Value} {S : LS} (h : LG W p a b mk ch S) : p ≠ a ∧ p ≠ b ∧ a ≠ b := by
  obtain ⟨cs, h1, _⟩ := h.blk
  obtain ⟨es, k, h2⟩ := h.acc.obj
  obtain ⟨es', k', h3⟩ := h.hol.obj
  exact ⟨fun e => (by cases e; rw [h1] at h2; cases h2), fun e => (by cases e; rw [h1] at h3; cases h3), h.ne⟩
/-- Another block turns. -/
theorem LG.other {W W' : World} {p a b : Nat} {mk ch : Value} {S : LS} (h : LG W p a b mk ch S) {row : Option Nat} (hg : W.grownBy W' row) (n1 : some p ≠ row) (n2 : some a ≠ row) (n3 : some b ≠ row) : LG W' p a b mk ch S := by
  obtain ⟨cs, h1, h2⟩ := h.blk
  exact ⟨⟨cs, (hg.block _ (block_lt h1) n1).trans h1, h2⟩, h.acc.kept hg n2, h.hol.kept hg n3, h.ne⟩
theorem LG.kept {W W' : World} {p a b : Nat} {mk ch : Value} {S : LS} (h : LG W p a b mk ch S) (hb : Below W.heap.size W W') : LG W' p a b mk ch S := h.other (below_none hb) (by simp) (by simp) (by simp)
theorem LG.c {W : World} {p a b : Nat} {mk ch : Value} {S : LS} (h : LG W p a b mk ch S) : W.cell? ⟨p, 0, none⟩ = some (.int .u64 (S.tot : Nat)) ∧ W.cell? ⟨p, 1, none⟩ = some (.map (some a)) ∧ W.cell? ⟨p, 2, none⟩ = some (.map (some b)) ∧ W.cell? ⟨p, 3, none⟩ = some (.int .u64 (S.nx : Nat)) ∧ W.cell? ⟨p, 324, none⟩ = some mk ∧ W.cell? ⟨p, 325, none⟩ = some ch := by
  obtain ⟨cs, h1, _, ⟨h2, h3, h4, h5, h6, h7⟩, _⟩ := h.blk
  exact ⟨(block_cell h1 0).trans h2, (block_cell h1 1).trans h3, (block_cell h1 2).trans h4, (block_cell h1 3).trans h5, (block_cell h1 324).trans h6, (block_cell h1 325).trans h7⟩
theorem LG.free {W : World} {p a b : Nat} {mk ch : Value} {S : LS} (h : LG W p a b mk ch S) (k : Nat) : W.frozen? ⟨p, k, none⟩ = false := by
  obtain ⟨cs, h1, _⟩ := h.blk
  exact block_free h1 k
theorem LG.ring {W : World} {p a b : Nat} {mk ch : Value} {S : LS} (h : LG W p a b mk ch S) {k : Nat} (hk : k < 64) : W.cell? ⟨p, 4 + k * 5, none⟩ = some (.int .u64 ((S.rg k).sq : Nat)) ∧ W.cell? ⟨p, 4 + k * 5 + 1, none⟩ = some (.int .i64 ((S.rg k).kd : Nat)) ∧ W.cell? ⟨p, 4 + k * 5 + 2, none⟩ = some (.int .u64 ((S.rg k).fr : Nat)) ∧ W.cell? ⟨p, 4 + k * 5 + 3, none⟩ = some (.int .u64 ((S.rg k).tw : Nat)) ∧ W.cell? ⟨p, 4 + k * 5 + 4, none⟩ = some (.int .u64 ((S.rg k).am : Nat)) := by
  obtain ⟨cs, h1, _, _, h2⟩ := h.blk
  exact ⟨(block_cell h1 _).trans (h2 k hk 0 _ rfl), (block_cell h1 _).trans (h2 k hk 1 _ rfl), (block_cell h1 _).trans (h2 k hk 2 _ rfl), (block_cell h1 _).trans (h2 k hk 3 _ rfl), (block_cell h1 _).trans (h2 k hk 4 _ rfl)⟩
/-- Other accounts. -/
theorem LG.toA {W W' : World} {p a b : Nat} {mk ch : Value} {S : LS} (h : LG W p a b mk ch S) {l : List Ac} (ht : TAm W' a l.length (byK Ac.id l)) (hg : W.grownBy W' (some a)) : LG W' p a b mk ch { S with acc := l } := by
  obtain ⟨cs, h1, h2⟩ := h.blk
  obtain ⟨n1, n2, n3⟩ := h.nes
  exact ⟨⟨cs, (hg.block _ (block_lt h1) (fun e => n1 (Option.some.inj e))).trans h1, h2⟩, ht, h.hol.kept hg (fun e => n3 (Option.some.inj e).symm), h.ne⟩
/-- Other holds. -/
theorem LG.toH {W W' : World} {p a b : Nat} {mk ch : Value} {S : LS} (h : LG W p a b mk ch S) {l : List Ho} (ht : THm W' b l.length (byK Ho.id l)) (hg : W.grownBy W' (some b)) : LG W' p a b mk ch { S with hol := l } := by
  obtain ⟨cs, h1, h2⟩ := h.blk
  obtain ⟨n1, n2, n3⟩ := h.nes
  exact ⟨⟨cs, (hg.block _ (block_lt h1) (fun e => n2 (Option.some.inj e))).trans h1, h2⟩, h.acc.kept hg (fun e => n3 (Option.some.inj e)), ht, h.ne⟩
/-- A line is written into the ring at place k, and the next number. -/
def ring5 (V : World) (p k : Nat) (sq kd fr tw am : Int) : World := ((((V.setCell ⟨p, 4 + k * 5, none⟩ (.int .u64 sq)).setCell ⟨p, 4 + k * 5 + 1, none⟩ (.int .i64 kd)).setCell ⟨p, 4 + k * 5 + 2, none⟩ (.int .u64 fr)).setCell ⟨p, 4 + k * 5 + 3, none⟩ (.int .u64 tw)).setCell ⟨p, 4 + k * 5 + 4, none⟩ (.int .u64 am)
theorem LG.toLine {W : World} {p a b : Nat} {mk ch : Value} {S : LS} (h : LG W p a b mk ch S) (kd fr tw am : Nat) : LG ((ring5 W p (S.nx % 64) (S.nx : Int) (kd : Int) (fr : Int) (tw : Int) (am : Int)).setCell ⟨p, 3, none⟩ (.int .u64 ((S.nx + 1 : Nat) : Int))) p a b mk ch (S.line kd fr tw am) := by
  obtain ⟨cs, h1, hs, ⟨h2, h3, h4, h5, h6, h7⟩, h8⟩ := h.blk
  obtain ⟨n1, n2, n3⟩ := h.nes
  have hk : S.nx % 64 < 64 := Nat.mod_lt _ (by decide)
  obtain ⟨k, hkk⟩ : ∃ k, S.nx % 64 = k := ⟨_, rfl⟩
  rw [hkk] at hk ⊢
  have hg : W.grownBy ((ring5 W p k (S.nx : Int) (kd : Int) (fr : Int) (tw : Int) (am : Int)).setCell ⟨p, 3, none⟩ (.int .u64 ((S.nx + 1 : Nat) : Int))) (some p) := by
    unfold ring5
    exact far_two (far_two (far_two (far_two (far_two (grown_set _ p _ _) (grown_set _ p _ _)) (grown_set _ p _ _)) (grown_set _ p _ _)) (grown_set _ p _ _)) (grown_set _ p _ _)
  refine ⟨⟨_, heap_setCell_same _ p 3 _ _ _ (heap_setCell_same _ p _ _ _ _ (heap_setCell_same _ p _ _ _ _ (heap_setCell_same _ p _ _ _ _ (heap_setCell_same _ p _ _ _ _ (heap_setCell_same W p _ _ _ _ h1))))), by simpa using hs, ⟨?_, ?_, ?_, ?_, ?_, ?_⟩, fun k' hk' j v hj => ?_⟩, h.acc.kept hg (fun e => n1 (Option.some.inj e).symm), h.hol.kept hg (fun e => n2 (Option.some.inj e).symm), h.ne⟩
  · simp only [Array.getElem?_setIfInBounds]; repeat rw [if_neg (by omega)]
    exact h2
  · simp only [Array.getElem?_setIfInBounds]; repeat rw [if_neg (by omega)]
    exact h3
  · simp only [Array.getElem?_setIfInBounds]; repeat rw [if_neg (by omega)]
    exact h4
  · simp [hs]; rfl
  · simp only [Array.getElem?_setIfInBounds]; repeat rw [if_neg (by omega)]
    exact h6
  · simp only [Array.getElem?_setIfInBounds]; repeat rw [if_neg (by omega)]
    exact h7
  · have hj5 : j < 5 := (List.getElem?_eq_some_iff.1 hj).1
    have e : (S.line kd fr tw am).rg k' = if k' = k then ⟨S.nx, kd, fr, tw, am⟩ else S.rg k' := by unfold LS.line; rw [hkk]
    rw [e] at hj
    by_cases e' : k' = k
    · subst e'
      rw [if_pos rfl] at hj
      have : j = 0 ∨ j = 1 ∨ j = 2 ∨ j = 3 ∨ j = 4 := by omega
      rcases this with rfl | rfl | rfl | rfl | rfl <;>
        (simp only [Jn.vals, List.getElem?_cons_zero, List.getElem?_cons_succ, Option.some.injEq] at hj
         subst hj
         simp only [Array.getElem?_setIfInBounds, Array.size_setIfInBounds, hs]
         repeat (first | rw [if_pos trivial, if_pos (by omega)] | rw [if_pos (by omega), if_pos (by omega)] | rw [if_neg (by omega)]))
    · rw [if_neg e'] at hj
      simp only [Array.getElem?_setIfInBounds]
      repeat rw [if_neg (by omega)]
      exact h8 k' hk' j v hj
end Go.Proofs.Ytcfenjpdjogmdaa
namespace Go.Proofs.Ytcfenjpdjogmdaa
open Go.RowKit

/-- Why an account can't be one of those that the ledger is begun with. -/
def faultA (pre : List Ac) (s : Nat) (a : Ac) : Nat := if a.id = 0 then 40 else if (byId pre a.id).isSome = true then 41 else if a.cp < a.ba then 47 else if 18446744073709551615 - s < a.ba then 51 else 0
/-- Region 1 of firstFault: what the map has is taken out. -/
def S3L (Wc : World) (tc : Array Value) : Bool → Bool → World → Prop
  | false, false, V => V = Wc.drew
  | true, false, V => V = Wc.drew.alloc (.cells #[.int .u64 0, .int .u64 0, .int .u64 0, .int .u64 0] 80)
  | true, true, V => V = Wc.drew.alloc (.cells tc 80)
  | false, true, _ => False
theorem S3L.below {Wc : World} {tc : Array Value} {b b2 : Bool} {V : World} (h : S3L Wc tc b b2 V) : Below Wc.heap.size Wc V := by
  cases b <;> cases b2 <;> simp only [S3L] at h
  · subst h; exact (Below.refl _ _).drew
  · subst h; exact (Below.refl _ Wc).drew.alloc (Nat.le_refl _) _
  · subst h; exact (Below.refl _ Wc).drew.alloc (Nat.le_refl _) _
set_option maxRecDepth 10000 in
set_option maxHeartbeats 3200000 in
theorem firstFaultA {w : World} {p a b : Nat} {l : List Ac} {s : Nat} (h : LP w p a b l s) (hs : s < 18446744073709551616) (x : Ac) (hx : x.In) :
    Calls Try.prog 43 #[.pointer (some ⟨p, 0, none⟩), .agg x.arr] w fun e w' => e = .returned (.int .i64 (faultA l s x : Nat)) ∧ Hid (Below w.heap.size w w') := by
  obtain ⟨W1, hW1⟩ : ∃ W1, w.alloc (.cells x.arr 80) = W1 := ⟨_, rfl⟩
  have b1 : Below w.heap.size w W1 := by rw [← hW1]; exact (Below.refl _ w).alloc (Nat.le_refl _) _
  have C1 : Hid (W1.heap[w.heap.size]? = some (.cells x.arr 80 (0, 0))) := by rw [← hW1]; exact alloc_atK _ _
  have H1 := hide (h.kept b1)
  have B1 := hide b1
  have HW1 := hide hW1
  obtain ⟨z0, z1, z2, z3, hz⟩ : ∃ z0 z1 z2 z3 : Int, ((byId l x.id).getD Ac.zero).arr = #[.int .u64 z0, .int .u64 z1, .int .u64 z2, .int .u64 z3] := ⟨_, _, _, _, rfl⟩
  obtain ⟨t, ht⟩ : ∃ t, (byId l x.id).isSome = t := ⟨_, rfl⟩
  have HLK : Hid (∀ V, Below W1.heap.size W1 V → (Instr.lookup 65 (.map (some a)) (.int .u64 (x.id : Nat)) true).run Try.prog V = .ok (.tuple #[.agg #[.int .u64 z0, .int .u64 z1, .int .u64 z2, .int .u64 z3], .bool t]) V) := fun V hV => by
    have := (H1.out.kept hV).acc.look_ok hx.h0
    rw [hz, ht] at this
    exact this
  have KL2 : Hid (∀ b2 b3 V, Hid (S3L W1 #[.int .u64 z0, .int .u64 z1, .int .u64 z2, .int .u64 z3] b2 b3 V) → V.cell? ⟨p, 1, none⟩ = some (.map (some a)) ∧ p < V.heap.size ∧ V.cell? ⟨w.heap.size, 0, none⟩ = some (.int .u64 (x.id : Nat)) ∧ w.heap.size < V.heap.size ∧ (Instr.lookup 65 (.map (some a)) (.int .u64 (x.id : Nat)) true).run Try.prog V = .ok (.tuple #[.agg #[.int .u64 z0, .int .u64 z1, .int .u64 z2, .int .u64 z3], .bool t]) V) := fun b2 b3 V hV => by
    have hb := hV.out.below
    obtain ⟨_, c1, _, _, cl⟩ := (H1.out.kept hb).c
    have hC := (hb.block _ (block_lt C1.out)).trans C1.out
    exact ⟨c1, cl, block_cell hC 0, block_lt hC, HLK.out V hb⟩
  obtain ⟨F, hF⟩ : ∃ F : Nat, faultA l s x = F := ⟨_, rfl⟩
  have HF : Hid ((if (x.id : Int) = 0 then (40 : Int) else if t = true then 41 else if (x.cp : Int) < (x.ba : Int) then 47 else if (18446744073709551615 : Int) - (s : Int) < (x.ba : Int) then 51 else 0) = (F : Int)) := by
    rw [← hF]
    unfold faultA
    rw [ht]
    have := hx.h2
    have := hx.h3
    simp only [Int.natCast_eq_zero, Int.ofNat_lt]
    repeat' split
    all_goals first | rfl | omega
  have hsr : (0 : Int) ≤ (s : Int) ∧ (s : Int) < 18446744073709551616 := ⟨by omega, by omega⟩
  have hw1 : IntKind.u64.wrap ((18446744073709551615 : Int) - (s : Int)) = (18446744073709551615 : Int) - (s : Int) := IntWalk.u64_in _ ⟨by omega, by omega⟩
  have HS := hide (And.intro hsr hw1)
  rw [hF]
  clear h b1 hW1 hz ht hF hs hsr hw1 HLK hx
  unfold Ac.arr at *
  have HC2 : Hid (∀ V, Below W1.heap.size W1 V → V.cell? ⟨w.heap.size, 0, none⟩ = some (.int .u64 (x.id : Nat)) ∧ V.cell? ⟨w.heap.size, 2, none⟩ = some (.int .u64 (x.ba : Nat)) ∧ V.cell? ⟨w.heap.size, 3, none⟩ = some (.int .u64 (x.cp : Nat)) ∧ w.heap.size < V.heap.size ∧ V.cell? ⟨p, 0, none⟩ = some (.int .u64 (s : Nat)) ∧ p < V.heap.size) := fun V hb => by
    obtain ⟨c0, _, _, _, cl⟩ := (H1.out.kept hb).c
    have hC := (hb.block _ (block_lt C1.out)).trans C1.out
    exact ⟨block_cell hC 0, block_cell hC 2, block_cell hC 3, block_lt hC, c0, cl⟩
  clear C1 H1
  generalize (x.id : Int) = X0 at *
  generalize (x.ow : Int) = X1 at *
  generalize (x.ba : Int) = X2 at *
  generalize (x.cp : Int) = X3 at *
  generalize (s : Int) = SI at *
  generalize (F : Int) = FI at *
  go_enter Try.func43, Try.ntmps43
  go_upto_region 1 with fail
  rw [HW1.out]
  clear HW1
  refine region_assignW (fun b b2 V => Hid (S3L W1 #[.int .u64 z0, .int .u64 z1, .int .u64 z2, .int .u64 z3] b b2 V)) 10 11 [(8, .pointer (some ⟨p, 0, none⟩)), (9, .pointer (some ⟨p, 0, none⟩)), (10, .pointer (some ⟨p, 1, none⟩)), (11, .map (some a)), (12, .pointer (some ⟨w.heap.size, 0, none⟩)), (13, .int .u64 X0), (14, .tuple #[.agg #[.int .u64 z0, .int .u64 z1, .int .u64 z2, .int .u64 z3], .bool t]), (7, .tuple #[.agg #[.int .u64 z0, .int .u64 z1, .int .u64 z2, .int .u64 z3], .bool t]), (15, .agg #[.int .u64 z0, .int .u64 z1, .int .u64 z2, .int .u64 z3]), (16, .bool t), (5, .pointer (some ⟨W1.heap.size, 0, none⟩)), (6, .bool t)] _ (by kernel_rfl) (by decide) (by decide) (by decide) (by kernel_rfl) (by kernel_rfl) (by kernel_rfl) (by kernel_rfl) rfl (show S3L W1 _ false false _ from rfl) ?_ (fun V3 HV3 => ?_)
  · simp only [putAll, Act.put, List.setIfInBounds_toArray, List.set_cons_zero, List.set_cons_succ]
    repeat' (first | exact AllFroW.nil | refine AllFroW.at1 rfl ?_ ?_ | refine AllFroW.at2 (by decide) rfl ?_ ?_ | refine AllFroW.off (by decide) (by decide) ?_ ?_)
    all_goals first
      | (intro b b2
         refine stepTo_yes (by rfl) (fun V hV K hK => ?_)
         obtain ⟨q0, q1, q2, q3, q4⟩ := KL2.out b b2 V hV
         go_simp
         exact hK.out _ hV)
      | (intro b
         refine ⟨by rfl, fun V hV K hK => ?_⟩
         cases b
         · have e := hV.out
           simp only [S3L] at e
           subst e
           go_simp
           exact hK.out _ (show S3L W1 _ true false _ from rfl)
         · exact hV.out.elim)
      | (refine ⟨by rfl, fun V hV K hK => ?_⟩
         have e := hV.out
         simp only [S3L] at e
         subst e
         go_simp
         exact hK.out _ (show S3L W1 _ true true _ from rfl))
  simp only [putAll, Act.put, List.setIfInBounds_toArray, List.set_cons_zero, List.set_cons_succ]
  have HV := hide HV3.out.below
  obtain ⟨c0, c2, c3, cl, d0, dl⟩ := HC2.out V3 HV.out
  have HE : Hid (∀ q, Below w.heap.size w (V3.drewN q)) := fun q => below_dA (B1.out.trans (HV.out.mono B1.out.size)) q
  have HE0 : Hid (Below w.heap.size w V3) := B1.out.trans (HV.out.mono B1.out.size)
  clear HV3 KL2 HC2 HV B1
  by_cases e0 : X0 = 0
  · have hf := HF.out
    rw [if_pos e0] at hf
    subst hf
    have g0 : (X0 == 0) = true := by simp [e0]
    clear HF HS HE
    go_wp2
    go_ret
    exact ⟨rfl, HE0.out⟩
  have HF1 := hide ((if_neg e0).symm.trans HF.out)
  have g0 : (X0 == 0) = false := by simp [e0]
  clear HF e0
  cases t with
  | true =>
    have hf : (41 : Int) = FI := HF1.out
    subst hf
    clear HF1 HS HE
    go_wp2
    go_ret
    exact ⟨rfl, HE0.out⟩
  | false =>
  have HF2 := hide ((if_neg (by decide)).symm.trans HF1.out)
  clear HF1
  by_cases e3 : X3 < X2
  · have hf := HF2.out
    rw [if_pos e3] at hf
    subst hf
    have g3 : decide (X2 > X3) = true := decide_eq_true e3
    clear HF2 HS HE
    go_wp2
    go_ret
    exact ⟨rfl, HE0.out⟩
  have HF3 := hide ((if_neg e3).symm.trans HF2.out)
  have g3 : decide (X2 > X3) = false := decide_eq_false e3
  clear HF2 e3
  obtain ⟨⟨s0, s1⟩, hw1⟩ := HS.out
  obtain ⟨Y, hY⟩ : ∃ Y : Int, (18446744073709551615 : Int) - SI = Y := ⟨_, rfl⟩
  rw [hY] at HF3 hw1
  by_cases e4 : Y < X2
  · have hf := HF3.out
    rw [if_pos e4] at hf
    subst hf
    have g4 : decide (X2 > Y) = true := decide_eq_true e4
    clear HF3 HS e4
    go_wp2_with fail
    go_quiet (fail)
    go_wp2
    go_ret
    exact ⟨rfl, HE.out _⟩
  have hf := HF3.out
  rw [if_neg e4] at hf
  subst hf
  have g4 : decide (X2 > Y) = false := decide_eq_false e4
  clear HF3 HS e4
  go_wp2_with fail
  go_quiet (fail)
  go_wp2
  go_ret
  exact ⟨rfl, HE.out _⟩
end Go.Proofs.Ytcfenjpdjogmdaa
