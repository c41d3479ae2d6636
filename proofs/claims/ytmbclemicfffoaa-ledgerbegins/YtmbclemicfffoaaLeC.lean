import Derived.Test.YtmbclemicfffoaaLeB
import Derived.Test.YtmbclemicfffoaaBAw
import Derived.Maps.OwnSet
import Derived.WalkSpells
namespace Go.Proofs.Ytmbclemicfffoaa
open Go.RowKit

/-- An element reads as itself. -/
def RV : Value → Option (DataW Value × List MemPlace) := fun v => some (.held v, [])
abbrev kU (x : Nat) : Lit := .int .u64 (x : Int)
theorem KD : Maps.Keyed Try.prog 28 := Maps.int_keyed Try.underlying28
theorem kU_wf {x : Nat} (h : x < 18446744073709551616) : (kU x).wf = true := by simp [Lit.wf, IntKind.min, IntKind.max, IntKind.bits, IntKind.signed]; omega
theorem kU_of {x : Nat} (h : x < 18446744073709551616) : keyOf Try.prog 28 (.int .u64 (x : Int)) = some (kU x) := Maps.keyOf_int_mk Try.underlying28 (kU_wf h)
theorem kU_inj {x y : Nat} (h : kU x = kU y) : x = y := by cases h; rfl
def Ac.zero : Ac := ⟨0, 0, 0, 0⟩
def Ac.arr (a : Ac) : Array Value := #[.int .u64 (a.id : Nat), .int .u64 (a.ow : Nat), .int .u64 (a.ba : Nat), .int .u64 (a.cp : Nat)]
/-- Block mb is a map with n accounts: m. -/
def TAm (W : World) (mb n : Nat) (m : Nat → Option Ac) : Prop :=
  ∃ D : DataW Value, W.ownsMap Try.prog 28 RV mb n D ∧ Maps.size D = n ∧ ∀ x, x < 18446744073709551616 → D.atKey (kU x) (.held (.agg Ac.zero.arr)) = .held (.agg ((m x).getD Ac.zero).arr) ∧ Maps.has D (kU x) = (m x).isSome
theorem TAm.obj {W : World} {mb n : Nat} {m : Nat → Option Ac} (h : TAm W mb n m) : ∃ es k, W.heap[mb]? = some (.map es k) := by
  obtain ⟨D, ⟨es, k, h1, _⟩, _⟩ := h
  exact ⟨es, k, h1⟩
theorem TAm.lt {W : World} {mb n : Nat} {m : Nat → Option Ac} (h : TAm W mb n m) : mb < W.heap.size := by
  obtain ⟨es, k, h⟩ := h.obj
  exact block_lt h
theorem TAm.kept {W W' : World} {mb n : Nat} {m : Nat → Option Ac} (h : TAm W mb n m) {row : Option Nat} (hg : W.grownBy W' row) (hne : some mb ≠ row) : TAm W' mb n m := by
  obtain ⟨D, h1, h2⟩ := h
  exact ⟨D, h1.kept hg hne, h2⟩
theorem zero_acc (w : World) : (zeroValue 37).run Try.prog w = .ok (.agg Ac.zero.arr) w := by kernel_rfl
theorem TAm.look {W : World} {mb n : Nat} {m : Nat → Option Ac} (h : TAm W mb n m) {x : Nat} (hx : x < 18446744073709551616) : (Instr.lookup 60 (.map (some mb)) (.int .u64 (x : Int)) false).run Try.prog W = .ok (.agg ((m x).getD Ac.zero).arr) W := by
  obtain ⟨D, h1, _, h2⟩ := h
  obtain ⟨v, ps, hr, hv⟩ := h1.lookup KD Try.underlying60 (zero_acc W) (rfl : RV (.agg Ac.zero.arr) = _) (kU_of hx)
  rw [(h2 x hx).1] at hv
  cases hv
  exact hr
theorem TAm.look_ok {W : World} {mb n : Nat} {m : Nat → Option Ac} (h : TAm W mb n m) {x : Nat} (hx : x < 18446744073709551616) : (Instr.lookup 60 (.map (some mb)) (.int .u64 (x : Int)) true).run Try.prog W = .ok (.tuple #[.agg ((m x).getD Ac.zero).arr, .bool (m x).isSome]) W := by
  obtain ⟨D, h1, _, h2⟩ := h
  obtain ⟨v, ps, hr, hv⟩ := h1.look_ok KD Try.underlying60 (zero_acc W) (rfl : RV (.agg Ac.zero.arr) = _) (kU_of hx)
  rw [(h2 x hx).1] at hv
  cases hv
  rw [(h2 x hx).2] at hr
  exact hr
theorem TAm.len {W : World} {mb n : Nat} {m : Nat → Option Ac} (h : TAm W mb n m) (ty : TypeId) : (Builtin.len_ #[60] ty #[.map (some mb)]).run Try.prog W = .ok (.int .i64 (n : Nat)) W := by
  obtain ⟨D, h1, h2, _⟩ := h
  have := h1.len Try.underlying60 ty
  rw [h2] at this
  exact this
def updA (m : Nat → Option Ac) (a : Ac) : Nat → Option Ac := fun x => if x = a.id then some a else m x
theorem TAm.store {W : World} {mb n : Nat} {m : Nat → Option Ac} (h : TAm W mb n m) (a : Ac) (hx : a.id < 18446744073709551616) (hn : n < maxLen) (hno : m a.id = none) :
    ∃ w', (Instr.mapUpdate 60 (.map (some mb)) (.int .u64 (a.id : Int)) (.agg a.arr)).run Try.prog W = .ok () w' ∧ TAm w' mb (n + 1) (updA m a) ∧ W.grownBy w' (some mb) := by
  obtain ⟨D, h1, hs, h2⟩ := h
  have hti := h1.tidy KD
  obtain ⟨w', hr, ho, ht⟩ := h1.store KD Try.underlying60 hn (kU_of hx) (rfl : RV (.agg a.arr) = _)
  have hsz := Maps.size_put (k := kU a.id) hti (.held (.agg a.arr))
  rw [(h2 _ hx).2, hs, hno] at hsz
  simp only [Option.isSome_none, Bool.false_eq_true, if_false] at hsz
  refine ⟨w', hr, ⟨_, ho, hsz, fun y hy => ?_⟩, ht.grown⟩
  unfold updA
  split
  · rename_i e; subst e; exact ⟨Maps.atKey_put_same (k := kU a.id) h1.isMap (show WideAt.IsKeyLit (kU a.id) from trivial) _ _, Maps.has_put_same h1.isMap (show WideAt.IsKeyLit (kU a.id) from trivial) _⟩
  · rename_i e
    rw [Maps.atKey_put_other (fun h => e (kU_inj h)), Maps.has_put_other (fun h => e (kU_inj h))]
    exact h2 y hy
theorem tam_made (W : World) : TAm (W.alloc (.map #[] 0)) W.heap.size 0 (fun _ => none) := ⟨.map [], World.ownsMap_made W _ _ _, rfl, fun _ _ => ⟨rfl, rfl⟩⟩
/-- The accounts of a list, by their numbers. -/
def byId (l : List Ac) (x : Nat) : Option Ac := l.find? (fun a => a.id == x)
/-- A ledger that was begun with these accounts. -/
structure LP (W : World) (p a b : Nat) (l : List Ac) (s : Nat) : Prop where
  blk : ∃ cs : Array Value, W.heap[p]? = some (.cells cs 71 (0, 0)) ∧ cs[0]? = some (.int .u64 (s : Nat)) ∧ cs[1]? = some (.map (some a)) ∧ cs[2]? = some (.map (some b)) ∧ cs[3]? = some (.int .u64 1)
  acc : TAm W a l.length (byId l)
  hol : W.heap[b]? = some (.map #[] 0)
  ne : a ≠ b
theorem LP.kept {W W' : World} {p a b : Nat} {l : List Ac} {s : Nat} (h : LP W p a b l s) (hb : Below W.heap.size W W') : LP W' p a b l s := by
  obtain ⟨cs, h1, h2⟩ := h.blk
  exact ⟨⟨cs, (hb.block _ (block_lt h1)).trans h1, h2⟩, h.acc.kept (below_none hb) (by simp), (hb.block _ (block_lt h.hol)).trans h.hol, h.ne⟩
theorem LP.c {W : World} {p a b : Nat} {l : List Ac} {s : Nat} (h : LP W p a b l s) : W.cell? ⟨p, 0, none⟩ = some (.int .u64 (s : Nat)) ∧ W.cell? ⟨p, 1, none⟩ = some (.map (some a)) ∧ W.cell? ⟨p, 2, none⟩ = some (.map (some b)) ∧ W.cell? ⟨p, 3, none⟩ = some (.int .u64 1) ∧ p < W.heap.size := by
  obtain ⟨cs, h1, h2, h3, h4, h5⟩ := h.blk
  exact ⟨(block_cell h1 0).trans h2, (block_cell h1 1).trans h3, (block_cell h1 2).trans h4, (block_cell h1 3).trans h5, block_lt h1⟩
theorem map_someA (r : Nat) (w : World) : (binOp BinOp.neq 60 (.map (some r)) (.map none)).run Try.prog w = .ok (.bool true) w := by kernel_rfl
set_option maxRecDepth 10000 in
theorem madeA {w : World} {p a b : Nat} {l : List Ac} {s : Nat} (h : LP w p a b l s) :
    Calls Try.prog 17 #[.pointer (some ⟨p, 0, none⟩)] w fun e w' => e = .returned (.bool true) ∧ w' = w := by
  obtain ⟨c0, c1, c2, c3, cl⟩ := h.c
  have hm := map_someA a w
  clear h
  go_enter Try.func17, Try.ntmps17
  go_wp2
  go_ret
  exact ⟨rfl, rfl⟩
set_option maxRecDepth 10000 in
set_option maxHeartbeats 800000 in
theorem totalA {w : World} {p a b : Nat} {l : List Ac} {s : Nat} (h : LP w p a b l s) :
    Calls Try.prog 6 #[.pointer (some ⟨p, 0, none⟩)] w fun e w' => e = .returned (.int .u64 (s : Nat)) ∧ w' = w := by
  obtain ⟨c0, c1, c2, c3, cl⟩ := h.c
  have HM := hide (madeA h)
  clear h
  go_enter Try.func6, Try.ntmps6
  go_wp2_with fail
  refine HM.out.mono ?_
  rintro e w1 ⟨rfl, rfl⟩
  go_wp2
  go_ret
  exact ⟨rfl, rfl⟩
def ledgerN : ByteArray := ⟨#[108, 101, 100, 103, 101, 114]⟩
set_option maxRecDepth 10000 in
set_option maxHeartbeats 400000 in
theorem refusalL {w : World} (at_ : Int) (c : Int) : Calls Try.prog 19 #[.int .i64 at_, .int .i64 c] w fun e w' => ∃ g, e = .returned (.iface 96 (.pointer (some ⟨g, 0, none⟩))) ∧ Hid (Chain w'.heap.size w' [⟨ledgerN, at_⟩] (.iface 96 (.pointer (some ⟨g, 0, none⟩))) c ∧ Below w.heap.size w w') := by
  have HB : Hid (∀ o, Below w.heap.size w (w.alloc o)) := fun o => (Below.refl _ _).alloc (Nat.le_refl _) _
  have HC : Hid (∀ t, (w.alloc (.cells #[.string ledgerN, .int .i64 at_, .iface 38 (.int .i64 c)] t)).heap[w.heap.size]? = some (.cells #[.string ledgerN, .int .i64 at_, .iface 38 (.int .i64 c)] t (0, 0))) := fun t => alloc_atK _ _
  go_enter Try.func19, Try.ntmps19
  go_wp2
  go_ret
  exact ⟨_, rfl, ⟨_, _, rfl, block_lt (HC.out _), block_cell (HC.out _) 0, block_cell (HC.out _) 1, block_cell (HC.out _) 2, rfl⟩, HB.out _⟩
set_option maxRecDepth 10000 in
set_option maxHeartbeats 800000 in
/-- An account that is there is found. -/
theorem findA {w : World} {mb n : Nat} {m : Nat → Option Ac} (h : TAm w mb n m) {x : Nat} (hx : x < 18446744073709551616) (h0 : x ≠ 0) {a : Ac} (ha : m x = some a) :
    Calls Try.prog 18 #[.map (some mb), .int .u64 (x : Nat)] w fun e w' => e = .returned (.tuple #[.agg a.arr, .int .i64 0]) ∧ Hid (Below w.heap.size w w') := by
  have HL : Hid (∀ V, Below w.heap.size w V → (Instr.lookup 60 (.map (some mb)) (.int .u64 (x : Int)) true).run Try.prog V = .ok (.tuple #[.agg a.arr, .bool true]) V) := fun V hV => by
    have := (h.kept (below_none hV) (by simp)).look_ok hx
    rw [ha] at this
    exact this
  have hl := HL.out (w.alloc (.cells #[.int .u64 0, .int .u64 0, .int .u64 0, .int .u64 0] 37)) ((Below.refl _ w).alloc (Nat.le_refl _) _)
  have hx0 : ((x : Int) == 0) = false := by simp; omega
  clear h ha HL
  unfold Ac.arr at *
  go_enter Try.func18, Try.ntmps18
  go_wp2
  refine bodyPost_ret (v := .tuple #[.agg #[.int .u64 (a.id : Nat), .int .u64 (a.ow : Nat), .int .u64 (a.ba : Nat), .int .u64 (a.cp : Nat)], .int .i64 0]) (by simp [results, Try.results18, go_sem]) rfl ⟨rfl, ?_⟩
  exact ((Below.refl _ w).alloc (Nat.le_refl _) _).alloc (by simp) _
set_option maxRecDepth 10000 in
set_option maxHeartbeats 800000 in
theorem accountA {w : World} {p a b : Nat} {l : List Ac} {s : Nat} (h : LP w p a b l s) {x : Nat} (hx : x < 18446744073709551616) (h0 : x ≠ 0) {y : Ac} (ha : byId l x = some y) :
    Calls Try.prog 7 #[.pointer (some ⟨p, 0, none⟩), .int .u64 (x : Nat)] w fun e w' => e = .returned (.tuple #[.agg y.arr, .int .i64 0]) ∧ Hid (Below w.heap.size w w') := by
  obtain ⟨W1, hW1⟩ : ∃ W1, w.alloc (.cells #[.int .u64 0, .int .u64 0, .int .u64 0, .int .u64 0] 37) = W1 := ⟨_, rfl⟩
  have b1 : Below w.heap.size w W1 := by rw [← hW1]; exact (Below.refl _ w).alloc (Nat.le_refl _) _
  have C1 : Hid (W1.heap[w.heap.size]? = some (.cells #[.int .u64 0, .int .u64 0, .int .u64 0, .int .u64 0] 37 (0, 0))) := by rw [← hW1]; exact alloc_atK _ _
  have h1 := h.kept b1
  obtain ⟨c0, c1, c2, c3, cl⟩ := h1.c
  have HM := hide (madeA h1)
  have HF := hide (findA h1.acc hx h0 ha)
  have HW1 := hide hW1
  have B1 := hide b1
  clear h h1 b1 hW1 ha
  unfold Ac.arr at *
  go_enter Try.func7, Try.ntmps7
  go_upto_region 1 with fail
  rw [HW1.out]
  clear HW1
  go_wp2_with fail
  refine HM.out.mono ?_
  rintro e w1 ⟨rfl, rfl⟩
  go_wp2_with fail
  refine HF.out.mono ?_
  rintro e w2 ⟨rfl, G2⟩
  have hb2 := G2.out
  have C2 : w2.heap[w.heap.size]? = some (.cells #[.int .u64 0, .int .u64 0, .int .u64 0, .int .u64 0] 37 (0, 0)) := (hb2.block _ (block_lt C1.out)).trans C1.out
  have f0 := block_free C2 0
  have f1 := block_free C2 1
  have f2 := block_free C2 2
  have f3 := block_free C2 3
  have k0 := block_cell C2 0
  have k1 := block_cell C2 1
  have k2 := block_cell C2 2
  have k3 := block_cell C2 3
  have kl := block_lt C2
  simp at k0 k1 k2 k3
  have BF := hide (B1.out.trans (hb2.mono B1.out.size))
  clear hb2 C2 HF HM C1 c0 c1 c2 c3
  go_wp2
  refine bodyPost_ret (v := .tuple #[.agg #[.int .u64 (y.id : Nat), .int .u64 (y.ow : Nat), .int .u64 (y.ba : Nat), .int .u64 (y.cp : Nat)], .int .i64 0]) (by simp [results, Try.results7, go_sem, k0, k1, k2, k3]) rfl ⟨rfl, ?_⟩
  exact (((BF.out.setCell (p := ⟨w.heap.size, 0, none⟩) (Nat.le_refl _) _).setCell (p := ⟨w.heap.size, 1, none⟩) (Nat.le_refl _) _).setCell (p := ⟨w.heap.size, 2, none⟩) (Nat.le_refl _) _).setCell (p := ⟨w.heap.size, 3, none⟩) (Nat.le_refl _) _
end Go.Proofs.Ytmbclemicfffoaa
