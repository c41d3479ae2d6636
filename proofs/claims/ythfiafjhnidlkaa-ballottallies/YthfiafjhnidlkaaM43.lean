import Derived.Test.YthfiafjhnidlkaaBMj
import Derived.Maps.OwnSet
import Derived.WalkSpells
import Derived.Test.YthfiafjhnidlkaaBThr
import Derived.Test.YthfiafjhnidlkaaBAs
import Derived.Carry
namespace Go.Proofs.Ythfiafjhnidlkaa
open Go.RowKit

/-- A kind of keys: its type, the map's type, how a key lies and how it is told. -/
structure KeyK (κ : Type) where
  (kt mt : TypeId) (enc : κ → Value) (lit : κ → Lit) (ok : κ → Prop)
  (K : Maps.Keyed Try.prog kt) (ht : Try.prog.underlying mt = some (.map kt 32))
  (key : ∀ x, ok x → keyOf Try.prog kt (enc x) = some (lit x)) (isk : ∀ x, WideAt.IsKeyLit (lit x))
  (inj : ∀ x y, ok x → ok y → lit x = lit y → x = y)
section
variable {κ : Type} [DecidableEq κ]
def upd {β : Type} (m : κ → β) (k : κ) (v : β) : κ → β := fun x => if x = k then v else m x
/-- Block b is a map with n keys: key x has the set m x, and is there if p x. -/
def TM (Y : KeyK κ) (w : World) (b n : Nat) (m : κ → Nat) (p : κ → Bool) : Prop :=
  ∃ D : DataW Unit, w.ownsMap Try.prog Y.kt (plainElem Try.prog 32) b n D ∧ Maps.size D = n ∧ (∀ x, Y.ok x → D.atKey (Y.lit x) (.lit (.int .u32 0)) = .lit (.int .u32 ((m x : Nat) : Int))) ∧ (∀ x, Y.ok x → Maps.has D (Y.lit x) = p x) ∧ ∀ x, m x < 4294967296
variable {Y : KeyK κ} {w : World} {b n : Nat} {m : κ → Nat} {p : κ → Bool}
omit [DecidableEq κ] in
theorem tm_made (Y : KeyK κ) (w : World) : TM Y (w.alloc (.map #[] 0)) w.heap.size 0 (fun _ => 0) (fun _ => false) :=
  ⟨.map [], World.ownsMap_made w _ _ _, rfl, fun _ _ => rfl, fun _ _ => rfl, fun _ => by show 0 < 4294967296; omega⟩
omit [DecidableEq κ] in
theorem TM.kept (h : TM Y w b n m p) {w' : World} {row : Option Nat} (hg : w.grownBy w' row) (hne : some b ≠ row) : TM Y w' b n m p := by
  obtain ⟨D, h1, h2⟩ := h
  exact ⟨D, h1.kept hg hne, h2⟩
omit [DecidableEq κ] in
theorem TM.lt (h : TM Y w b n m p) : b < w.heap.size := by
  obtain ⟨D, h1, _⟩ := h
  exact h1.lt
omit [DecidableEq κ] in
theorem TM.small (h : TM Y w b n m p) (x : κ) : m x < 4294967296 := by
  obtain ⟨D, _, _, _, _, h5⟩ := h
  exact h5 x
theorem zero_set (w : World) : (zeroValue 32).run Try.prog w = .ok (.int .u32 0) w := by kernel_rfl
omit [DecidableEq κ] in
theorem TM.look (h : TM Y w b n m p) {x : κ} (hx : Y.ok x) : (Instr.lookup Y.mt (.map (some b)) (Y.enc x) false).run Try.prog w = .ok (.int .u32 ((m x : Nat) : Int)) w := by
  obtain ⟨D, h1, h2, h3, h4, h5⟩ := h
  obtain ⟨c, hr, hc, _⟩ := h1.lookup_int Y.K Y.ht Try.underlying32 (zero_set w) (Y.key x hx)
  rw [h3 x hx] at hc
  cases hc
  exact hr
omit [DecidableEq κ] in
theorem TM.look_ok (h : TM Y w b n m p) {x : κ} (hx : Y.ok x) : (Instr.lookup Y.mt (.map (some b)) (Y.enc x) true).run Try.prog w = .ok (.tuple #[.int .u32 ((m x : Nat) : Int), .bool (p x)]) w := by
  obtain ⟨D, h1, h2, h3, h4, h5⟩ := h
  obtain ⟨v, ps, hr, hv⟩ := h1.look_ok Y.K Y.ht (zero_set w) (plainElem_int Try.underlying32 (by decide)) (Y.key x hx)
  obtain ⟨c, rfl, hc, _⟩ := plainElem_int_inv Try.underlying32 hv
  rw [h3 x hx] at hc
  cases hc
  rw [h4 x hx] at hr
  exact hr
omit [DecidableEq κ] in
theorem TM.len (h : TM Y w b n m p) (ty : TypeId) : (Builtin.len_ #[Y.mt] ty #[.map (some b)]).run Try.prog w = .ok (.int .i64 (n : Nat)) w := by
  obtain ⟨D, h1, h2, h3, h4, h5⟩ := h
  have := h1.len Y.ht ty
  rw [h2] at this
  exact this
theorem TM.store (h : TM Y w b n m p) {x : κ} (hx : Y.ok x) (hn : n < maxLen) {v : Nat} (hv : v < 4294967296) :
    ∃ w', (Instr.mapUpdate Y.mt (.map (some b)) (Y.enc x) (.int .u32 (v : Nat))).run Try.prog w = .ok () w' ∧ TM Y w' b (if p x = true then n else n + 1) (upd m x v) (upd p x true) ∧ w.grownBy w' (some b) := by
  obtain ⟨D, h1, h2, h3, h4, h5⟩ := h
  have hti := h1.tidy Y.K
  have hwf : (Lit.int .u32 (v : Int)).wf = true := by simp [Lit.wf, IntKind.min, IntKind.max, IntKind.bits, IntKind.signed]; omega
  obtain ⟨w', hr, ho, ht⟩ := h1.store Y.K Y.ht hn (Y.key x hx) (plainElem_int (H := Unit) Try.underlying32 hwf)
  have hsz := Maps.size_put (k := Y.lit x) hti (.lit (.int .u32 (v : Int)))
  rw [h4 x hx, h2] at hsz
  refine ⟨w', hr, ⟨_, ?_, hsz, fun y hy => ?_, fun y hy => ?_, fun y => ?_⟩, ht.grown⟩
  · obtain ⟨es, clock, e1, e2, e3, e4⟩ := ho
    have e5 : es.size = Maps.size (D.put (Y.lit x) (.lit (.int .u32 (v : Int)))) := by rw [e4]; simp [Maps.size, length_sorted]
    exact ⟨es, clock, e1, e2, by rw [e5, hsz]; exact Nat.le_refl _, e4⟩
  · unfold upd
    split
    · rename_i e; subst e; exact Maps.atKey_put_same h1.isMap (Y.isk _) _ _
    · rename_i e; rw [Maps.atKey_put_other (fun h => e (Y.inj _ _ hy hx h))]; exact h3 y hy
  · unfold upd
    split
    · rename_i e; subst e; exact Maps.has_put_same h1.isMap (Y.isk _) _
    · rename_i e; rw [Maps.has_put_other (fun h => e (Y.inj _ _ hy hx h))]; exact h4 y hy
  · unfold upd
    split
    · exact hv
    · exact h5 y
theorem TM.drop (h : TM Y w b n m p) {x : κ} (hx : Y.ok x) (ty : TypeId) :
    ∃ w', (Builtin.delete_ #[Y.mt, Y.kt] ty #[.map (some b), Y.enc x]).run Try.prog w = .ok (.tuple #[]) w' ∧ TM Y w' b (if p x = true then n - 1 else n) (upd m x 0) (upd p x false) ∧ w.grownBy w' (some b) := by
  obtain ⟨D, h1, h2, h3, h4, h5⟩ := h
  have hti := h1.tidy Y.K
  obtain ⟨w', hr, ho, ht⟩ := h1.drop Y.K Y.ht (Y.key x hx) ty
  have hsz := Maps.size_del (k := Y.lit x) hti
  rw [h4 x hx, h2] at hsz
  have hsz2 : Maps.size (D.del (Y.lit x)) = (if p x = true then n - 1 else n) := by
    cases hp : p x <;> rw [hp] at hsz <;> simp at hsz ⊢ <;> omega
  refine ⟨w', hr, ⟨_, ?_, hsz2, fun y hy => ?_, fun y hy => ?_, fun y => ?_⟩, ht.grown⟩
  · obtain ⟨es, clock, e1, e2, e3, e4⟩ := ho
    have e5 : es.size = Maps.size (D.del (Y.lit x)) := by rw [e4]; simp [Maps.size, length_sorted]
    exact ⟨es, clock, e1, e2, by rw [e5, hsz2]; exact Nat.le_refl _, e4⟩
  · unfold upd
    split
    · rename_i e; subst e; exact Maps.atKey_del_same _
    · rename_i e; rw [Maps.atKey_del_other (fun h => e (Y.inj _ _ hy hx h))]; exact h3 y hy
  · unfold upd
    split
    · rename_i e; subst e; exact Maps.has_del_same
    · rename_i e; rw [Maps.has_del_other (fun h => e (Y.inj _ _ hy hx h))]; exact h4 y hy
  · unfold upd
    split
    · show 0 < 4294967296; omega
    · exact h5 y
end
/-- The keys that are numbers. -/
theorem wf_u64 {x : Nat} (h : x < 18446744073709551616) : (Lit.int .u64 (x : Int)).wf = true := by simp [Lit.wf, IntKind.min, IntKind.max, IntKind.bits, IntKind.signed]; omega
def KU : KeyK Nat where
  kt := 22
  mt := 79
  enc := fun x => .int .u64 (x : Int)
  lit := fun x => .int .u64 (x : Int)
  ok := fun x => x < 18446744073709551616
  K := Maps.int_keyed Try.underlying22
  ht := Try.underlying79
  key := fun x hx => Maps.keyOf_int_mk Try.underlying22 (wf_u64 hx)
  isk := fun _ => trivial
  inj := fun x y _ _ h => by cases h; rfl
end Go.Proofs.Ythfiafjhnidlkaa
namespace Go.Proofs.Ythfiafjhnidlkaa
open Go.RowKit

/-- A group's numbers at the head of a block. -/
def PC (W : World) (a : Option Addr) (c : Cf) : Prop := ∃ p, a = some ⟨p, 0, none⟩ ∧ p < W.heap.size ∧ W.cell? ⟨p, 0, none⟩ = some (.int .i64 c.f) ∧ W.cell? ⟨p, 3, none⟩ = some (.int .u64 (c.win : Nat)) ∧ W.cell? ⟨p, 8, none⟩ = some (.int .u64 (c.mn : Nat)) ∧ W.cell? ⟨p, 9, none⟩ = some (.int .u64 (c.ms : Nat))
theorem PC.cells {W : World} {a : Option Addr} {c : Cf} (h : PC W a c) : ∃ p, a = some ⟨p, 0, none⟩ ∧ p < W.heap.size ∧ W.cell? ⟨p, 0, none⟩ = some (.int .i64 c.f) ∧ W.cell? ⟨p, 3, none⟩ = some (.int .u64 (c.win : Nat)) ∧ W.cell? ⟨p, 8, none⟩ = some (.int .u64 (c.mn : Nat)) ∧ W.cell? ⟨p, 9, none⟩ = some (.int .u64 (c.ms : Nat)) := h
theorem PC.kept {W W' : World} {a : Option Addr} {c : Cf} (h : PC W a c) (hb : Below W.heap.size W W') : PC W' a c := by
  obtain ⟨p, h1, h2, h3, h4, h5, h6⟩ := h
  exact ⟨p, h1, Nat.lt_of_lt_of_le h2 hb.size, (hb.cell (p := ⟨p, 0, none⟩) h2).trans h3, (hb.cell (p := ⟨p, 3, none⟩) h2).trans h4, (hb.cell (p := ⟨p, 8, none⟩) h2).trans h5, (hb.cell (p := ⟨p, 9, none⟩) h2).trans h6⟩
set_option maxRecDepth 10000 in
set_option maxHeartbeats 400000 in
theorem made_pc {w : World} {a : Option Addr} {c : Cf} (h : PC w a c) (hk : c.Ok) :
    Calls Try.prog 45 #[.pointer a] w fun e w' => e = .returned (.bool true) ∧ w' = w := by
  obtain ⟨p, rfl, _, hc, -, -, -⟩ := h.cells
  have h1 := hk.f1
  clear h hk
  generalize c.f = f at *
  go_enter Try.func45, Try.ntmps45
  go_wp2
  go_ret
  exact ⟨by simp; omega, rfl⟩
set_option maxRecDepth 10000 in
set_option maxHeartbeats 400000 in
theorem nodes_pc {w : World} {a : Option Addr} {c : Cf} (h : PC w a c) (hk : c.Ok) :
    Calls Try.prog 32 #[.pointer a] w fun e w' => e = .returned (.int .i64 (2 * c.f + 1)) ∧ w' = w := by
  have HM := hide (made_pc h hk)
  obtain ⟨p, rfl, _, hc, -, -, -⟩ := h.cells
  have h1 := hk.f1
  have h3 := hk.f3
  clear h hk
  generalize c.f = f at *
  go_enter Try.func32, Try.ntmps32
  go_wp2_with fail
  refine HM.out.mono ?_
  rintro e w1 ⟨rfl, rfl⟩
  go_wp2
  go_ret
  exact ⟨rfl, rfl⟩
set_option maxRecDepth 10000 in
set_option maxHeartbeats 400000 in
theorem quorum_pc {w : World} {a : Option Addr} {c : Cf} (h : PC w a c) (hk : c.Ok) :
    Calls Try.prog 33 #[.pointer a] w fun e w' => e = .returned (.int .i64 (c.f + 1)) ∧ w' = w := by
  have HM := hide (made_pc h hk)
  obtain ⟨p, rfl, _, hc, -, -, -⟩ := h.cells
  have h1 := hk.f1
  have h3 := hk.f3
  clear h hk
  generalize c.f = f at *
  go_enter Try.func33, Try.ntmps33
  go_wp2_with fail
  refine HM.out.mono ?_
  rintro e w1 ⟨rfl, rfl⟩
  go_wp2
  go_ret
  exact ⟨rfl, rfl⟩
set_option maxRecDepth 10000 in
set_option maxHeartbeats 400000 in
theorem node_pc {w : World} {a : Option Addr} {c : Cf} (n : Int) (h : PC w a c) (hk : c.Ok) :
    Calls Try.prog 12 #[.pointer a, .int .i64 n] w fun e w' => e = .returned (.bool (c.node n)) ∧ w' = w := by
  have H := hide (nodes_pc h hk)
  clear h
  by_cases g : n ≥ 0
  · have hv : Hid (c.node n = decide (n < 2 * c.f + 1)) := by show c.node n = decide (n < 2 * c.f + 1); simp [Cf.node, g]
    generalize c.node n = v at *
    generalize 2 * c.f + 1 = k at *
    go_enter Try.func12, Try.ntmps12
    go_wp2_with fail
    refine H.out.mono ?_
    rintro e w1 ⟨rfl, rfl⟩
    go_wp2_with fail
    go_ret
    exact ⟨by rw [hv.out]; rfl, rfl⟩
  · have hv : Hid (c.node n = false) := by show c.node n = false; simp [Cf.node]; omega
    generalize c.node n = v at *
    go_enter Try.func12, Try.ntmps12
    go_wp2
    go_ret
    exact ⟨by rw [hv.out]; rfl, rfl⟩
set_option maxRecDepth 10000 in
set_option maxHeartbeats 400000 in
theorem all_pc {w : World} {a : Option Addr} {c : Cf} (h : PC w a c) (hk : c.Ok) :
    Calls Try.prog 49 #[.pointer a] w fun e w' => e = .returned (.int .u32 (allB c.f)) ∧ w' = w := by
  have HM := hide (nodes_pc h hk)
  have hf := hk.f_cases
  clear h hk
  generalize c.f = f at *
  rcases hf with rfl | rfl | rfl
  all_goals
    go_enter Try.func49, Try.ntmps49
    go_wp2_with fail
    refine HM.out.mono ?_
    rintro e w1 ⟨rfl, rfl⟩
    go_wp2
    go_ret
    exact ⟨rfl, rfl⟩
set_option maxRecDepth 10000 in
set_option maxHeartbeats 800000 in
theorem majority_pc {w : World} {a : Option Addr} {c : Cf} (s : Nat) (hs : s < 4294967296) (h : PC w a c) (hk : c.Ok) :
    Calls Try.prog 25 #[.pointer a, .int .u32 (s : Nat)] w fun e w' => e = .returned (.bool (c.maj s)) ∧ Below w.heap.size w w' := by
  have HM := hide (made_pc h hk)
  have HA := hide (all_pc h hk)
  rw [allB_nat] at HA
  have hb : bits .and .u32 (s : Int) (allN c.f : Int) = ((s &&& allN c.f : Nat) : Int) := u32_and_nat s (allN c.f) hs (allN_lt c.f)
  have HC := hide (count_any (s &&& allN c.f) (and_lt _ hs) w)
  have HQ := hide (fun W (hb : Below w.heap.size w W) => quorum_pc (h.kept hb) hk)
  have HV : Hid (c.maj s = decide (((countB (s &&& allN c.f) : Nat) : Int) ≥ c.f + 1)) := rfl
  clear h hk
  generalize c.maj s = v at *
  generalize ((countB (s &&& allN c.f) : Nat) : Int) = x at *
  generalize ((s &&& allN c.f : Nat) : Int) = y at *
  generalize (allN c.f : Int) = al at *
  generalize c.f + 1 = q at *
  generalize (s : Int) = s at *
  go_enter Try.func25, Try.ntmps25
  go_wp2_with fail
  refine HM.out.mono ?_
  rintro e w1 ⟨rfl, rfl⟩
  go_wp2_with fail
  refine HA.out.mono ?_
  rintro e w1 ⟨rfl, rfl⟩
  go_wp2_with fail
  refine HC.out.mono ?_
  rintro e w2 ⟨rfl, b2⟩
  have B2 := hide b2
  clear b2
  go_wp2_with fail
  refine (HQ.out _ B2.out).mono ?_
  rintro e w3 ⟨rfl, rfl⟩
  go_wp2
  go_ret
  exact ⟨by rw [HV.out]; rfl, B2.out⟩
end Go.Proofs.Ythfiafjhnidlkaa
namespace Go.Proofs.Ythfiafjhnidlkaa
open Go.RowKit

theorem below_grown {w w' : World} (h : Below w.heap.size w w') (row : Option Nat) : w.grownBy w' row := ⟨h.os, h.tape, h.output, h.size, fun i hi _ => h.block i hi⟩
theorem grown_trans' {a b c : World} {row : Option Nat} (h : a.grownBy b row) (k : b.grownBy c row) : a.grownBy c row :=
  ⟨k.os.trans h.os, k.tape.trans h.tape, k.output.trans h.output, Nat.le_trans h.size k.size, fun i hi hne => (k.block i (Nat.lt_of_lt_of_le hi h.size) hne).trans (h.block i hi hne)⟩
/-- How many keys there are without one, and with one. -/
def dnN (q : Bool) (n : Nat) : Nat := if q = true then n - 1 else n
def upN (q : Bool) (n : Nat) : Nat := if q = true then n else n + 1
/-- A tally's cells. -/
def tcells (c : Cf) (b : Nat) : Array Value := #[.int .i64 c.f, .int .i64 c.mb, .int .u64 (c.delay : Nat), .int .u64 (c.win : Nat), .int .u64 (c.every : Nat), .int .u64 (c.beat : Nat), .int .u64 (c.ep : Nat), .int .u64 (c.em : Nat), .int .u64 (c.mn : Nat), .int .u64 (c.ms : Nat), .map (some b)]
/-- A tally of numbers. -/
structure TY (W : World) (pt b : Nat) (c : Cf) (n : Nat) (m : Nat → Nat) (p : Nat → Bool) : Prop where
  (blk : W.heap[pt]? = some (.cells (tcells c b) 81 (0, 0))) (tm : TM KU W b n m p)
theorem TY.ne {W : World} {pt b : Nat} {c : Cf} {n : Nat} {m : Nat → Nat} {p : Nat → Bool} (h : TY W pt b c n m p) : pt ≠ b := fun e => by
  obtain ⟨D, ⟨es, clock, h1, _⟩, _⟩ := h.tm
  have := h.blk
  rw [e, h1] at this
  cases this
theorem TY.kept {W W' : World} {pt b : Nat} {c : Cf} {n : Nat} {m : Nat → Nat} {p : Nat → Bool} (h : TY W pt b c n m p) (hb : Below W.heap.size W W') : TY W' pt b c n m p :=
  ⟨(hb.block pt (block_lt h.blk)).trans h.blk, h.tm.kept (below_grown hb none) (by simp)⟩
theorem TY.pc {W : World} {pt b : Nat} {c : Cf} {n : Nat} {m : Nat → Nat} {p : Nat → Bool} (h : TY W pt b c n m p) : PC W (some ⟨pt, 0, none⟩) c :=
  ⟨pt, rfl, block_lt h.blk, block_cell h.blk 0, block_cell h.blk 3, block_cell h.blk 8, block_cell h.blk 9⟩
theorem TY.cell {W : World} {pt b : Nat} {c : Cf} {n : Nat} {m : Nat → Nat} {p : Nat → Bool} (h : TY W pt b c n m p) : W.cell? ⟨pt, 10, none⟩ = some (.map (some b)) := block_cell h.blk 10
theorem map_some_neq (w : World) (r : Option Nat) : (binOp .neq 79 (.map r) (.map none)).run Try.prog w = .ok (.bool (!r.isNone)) w := run_neq_map_nil w _ _ _ r Try.underlying79
set_option maxRecDepth 10000 in
set_option maxHeartbeats 400000 in
theorem tmade {w : World} {pt b : Nat} (h : w.cell? ⟨pt, 10, none⟩ = some (.map (some b))) :
    Calls Try.prog 46 #[.pointer (some ⟨pt, 0, none⟩)] w fun e w' => e = .returned (.bool true) ∧ w' = w := by
  have q := map_some_neq
  go_enter Try.func46, Try.ntmps46
  go_wp2
  go_ret
  exact ⟨rfl, rfl⟩
set_option maxRecDepth 10000 in
set_option maxHeartbeats 400000 in
theorem tnodes {w : World} {pt b : Nat} {c : Cf} {n : Nat} {m : Nat → Nat} {p : Nat → Bool} (h : TY w pt b c n m p) (k : Nat) (hk : k < 18446744073709551616) :
    Calls Try.prog 16 #[.pointer (some ⟨pt, 0, none⟩), .int .u64 (k : Nat)] w fun e w' => e = .returned (.int .u32 ((m k : Nat) : Int)) ∧ w' = w := by
  have q0 := h.cell
  have HM := hide (tmade q0)
  have q1 : (Instr.lookup 79 (.map (some b)) (.int .u64 (k : Nat)) false).run Try.prog w = .ok (.int .u32 ((m k : Nat) : Int)) w := h.tm.look (Y := KU) (x := k) hk
  clear h hk
  generalize ((m k : Nat) : Int) = v at *
  generalize (k : Int) = k at *
  go_enter Try.func16, Try.ntmps16
  go_wp2_with fail
  refine HM.out.mono ?_
  rintro e w1 ⟨rfl, rfl⟩
  go_wp2
  go_ret
  exact ⟨rfl, rfl⟩
set_option maxRecDepth 10000 in
set_option maxHeartbeats 400000 in
theorem tdrop {w : World} {pt b : Nat} {c : Cf} {n : Nat} {m : Nat → Nat} {p : Nat → Bool} (h : TY w pt b c n m p) (k : Nat) (hk : k < 18446744073709551616) :
    Calls Try.prog 10 #[.pointer (some ⟨pt, 0, none⟩), .int .u64 (k : Nat)] w fun e w' => e = .returned (.tuple #[]) ∧ TY w' pt b c (dnN (p k) n) (upd m k 0) (upd p k false) ∧ w.grownBy w' (some b) := by
  have q0 := h.cell
  have HM := hide (tmade q0)
  obtain ⟨w1, hr, h1, h2⟩ := h.tm.drop (Y := KU) (x := k) hk 3
  have HR : Hid (TY w1 pt b c (dnN (p k) n) (upd m k 0) (upd p k false) ∧ w.grownBy w1 (some b)) := ⟨⟨(h2.block pt (block_lt h.blk) (by simpa using h.ne)).trans h.blk, h1⟩, h2⟩
  have q1 : ∀ ty, (Builtin.delete_ #[79, 22] ty #[.map (some b), .int .u64 (k : Nat)]).run Try.prog w = .ok (.tuple #[]) w1 := fun _ => hr
  clear h hk hr h1 h2
  go_enter Try.func10, Try.ntmps10
  go_wp2_with fail
  refine HM.out.mono ?_
  rintro e w2 ⟨rfl, rfl⟩
  go_wp2
  go_end0
  exact ⟨rfl, HR.out⟩
set_option maxRecDepth 10000 in
set_option maxHeartbeats 800000 in
theorem tspeak_node {w : World} {pt b : Nat} {c : Cf} {n : Nat} {m : Nat → Nat} {p : Nat → Bool} (h : TY w pt b c n m p) (hok : c.Ok) (k : Nat) (hk : k < 18446744073709551616) (nd : Int) (hn : c.node nd = false) :
    Calls Try.prog 11 #[.pointer (some ⟨pt, 0, none⟩), .int .u64 (k : Nat), .int .i64 nd] w fun e w' => e = .returned (.tuple #[.int .i64 0, .int .i64 182]) ∧ w' = w := by
  have q0 := h.cell
  have HM := hide (tmade q0)
  have HN := hide (node_pc nd h.pc hok)
  rw [hn] at HN
  have q1 : (Instr.lookup 79 (.map (some b)) (.int .u64 (k : Nat)) true).run Try.prog w = .ok (.tuple #[.int .u32 ((m k : Nat) : Int), .bool (p k)]) w := h.tm.look_ok (Y := KU) (x := k) hk
  clear h hk hn hok
  generalize ((m k : Nat) : Int) = v at *
  generalize p k = pk at *
  generalize (k : Int) = k at *
  go_enter Try.func11, Try.ntmps11
  go_wp2_with fail
  refine HM.out.mono ?_
  rintro e w2 ⟨rfl, rfl⟩
  go_wp2_with fail
  refine HN.out.mono ?_
  rintro e w2 ⟨rfl, rfl⟩
  go_wp2
  go_ret2
  exact ⟨rfl, rfl⟩
set_option maxRecDepth 10000 in
set_option maxHeartbeats 800000 in
theorem tspeak_full {w : World} {pt b : Nat} {c : Cf} {n : Nat} {m : Nat → Nat} {p : Nat → Bool} (h : TY w pt b c n m p) (hok : c.Ok) (k : Nat) (hk : k < 18446744073709551616) (nd : Int) (hn : c.node nd = true) (hp : p k = false) (h64 : 64 ≤ n) :
    Calls Try.prog 11 #[.pointer (some ⟨pt, 0, none⟩), .int .u64 (k : Nat), .int .i64 nd] w fun e w' => e = .returned (.tuple #[.int .i64 0, .int .i64 185]) ∧ w' = w := by
  have q0 := h.cell
  have HM := hide (tmade q0)
  have HN := hide (node_pc nd h.pc hok)
  rw [hn] at HN
  have q1 : (Instr.lookup 79 (.map (some b)) (.int .u64 (k : Nat)) true).run Try.prog w = .ok (.tuple #[.int .u32 ((m k : Nat) : Int), .bool (p k)]) w := h.tm.look_ok (Y := KU) (x := k) hk
  rw [hp] at q1
  have q2 : ∀ ty, (Builtin.len_ #[79] ty #[.map (some b)]).run Try.prog w = .ok (.int .i64 (n : Nat)) w := fun ty => h.tm.len (Y := KU) ty
  clear h hk hn hok hp
  generalize ((m k : Nat) : Int) = v at *
  generalize (k : Int) = k at *
  have h64' : (n : Int) ≥ 64 := by omega
  clear h64
  generalize (n : Int) = n at *
  go_enter Try.func11, Try.ntmps11
  go_wp2_with fail
  refine HM.out.mono ?_
  rintro e w2 ⟨rfl, rfl⟩
  go_wp2_with fail
  refine HN.out.mono ?_
  rintro e w2 ⟨rfl, rfl⟩
  go_wp2
  go_ret2
  exact ⟨rfl, rfl⟩
set_option maxRecDepth 10000 in
set_option maxHeartbeats 800000 in
theorem tspeak_ok {w : World} {pt b : Nat} {c : Cf} {n : Nat} {m : Nat → Nat} {p : Nat → Bool} (h : TY w pt b c n m p) (hok : c.Ok) (k : Nat) (hk : k < 18446744073709551616) (nd : Int) (hn : c.node nd = true) (h64 : p k = true ∨ n < 64) (hn0 : n ≤ 64) :
    Calls Try.prog 11 #[.pointer (some ⟨pt, 0, none⟩), .int .u64 (k : Nat), .int .i64 nd] w fun e w' => e = .returned (.tuple #[.int .i64 ((countB (withB (m k) nd) : Nat) : Int), .int .i64 0]) ∧ Hid (TY w' pt b c (upN (p k) n) (upd m k (withB (m k) nd)) (upd p k true) ∧ w.grownBy w' (some b)) := by
  have q0 := h.cell
  have HM := hide (tmade q0)
  have HN := hide (node_pc nd h.pc hok)
  rw [hn] at HN
  have hwl := withB_lt (m k) nd (h.tm.small k)
  have HW := hide (with_any (m k) (h.tm.small k) nd w)
  have q1 : (Instr.lookup 79 (.map (some b)) (.int .u64 (k : Nat)) true).run Try.prog w = .ok (.tuple #[.int .u32 ((m k : Nat) : Int), .bool (p k)]) w := h.tm.look_ok (Y := KU) (x := k) hk
  have q2 : ∀ ty, (Builtin.len_ #[79] ty #[.map (some b)]).run Try.prog w = .ok (.int .i64 (n : Nat)) w := fun ty => h.tm.len (Y := KU) ty
  obtain ⟨w1, hr, h1, h2⟩ := h.tm.store (Y := KU) (x := k) hk (by show n < maxLen; unfold maxLen; omega) hwl
  have HR : TY w1 pt b c (upN (p k) n) (upd m k (withB (m k) nd)) (upd p k true) ∧ w.grownBy w1 (some b) := ⟨⟨(h2.block pt (block_lt h.blk) (by simpa using h.ne)).trans h.blk, h1⟩, h2⟩
  have q3 : (Instr.mapUpdate 79 (.map (some b)) (.int .u64 (k : Nat)) (.int .u32 ((withB (m k) nd : Nat) : Int))).run Try.prog w = .ok () w1 := hr
  have HC := hide (count_any (withB (m k) nd) hwl w1)
  have HE : Hid (∀ w', Below w1.heap.size w1 w' → TY w' pt b c (upN (p k) n) (upd m k (withB (m k) nd)) (upd p k true) ∧ w.grownBy w' (some b)) := fun w' hb => ⟨HR.1.kept hb, grown_trans' HR.2 (below_grown hb _)⟩
  clear h hk hn hok hr h1 h2 HR hwl
  generalize upN (p k) n = n1 at *
  generalize upd m k (withB (m k) nd) = m1 at *
  generalize upd p k true = p1 at *
  generalize ((countB (withB (m k) nd) : Nat) : Int) = cn at *
  generalize ((withB (m k) nd : Nat) : Int) = v1 at *
  generalize ((m k : Nat) : Int) = v at *
  generalize p k = pk at *
  generalize (k : Int) = k at *
  cases pk with
  | true =>
    clear h64 hn0 q2
    go_enter Try.func11, Try.ntmps11
    go_wp2_with fail
    refine HM.out.mono ?_
    rintro e w2 ⟨rfl, rfl⟩
    go_wp2_with fail
    refine HN.out.mono ?_
    rintro e w2 ⟨rfl, rfl⟩
    go_wp2_with fail
    refine HW.out.mono ?_
    rintro e w2 ⟨rfl, rfl⟩
    go_wp2_with fail
    refine HC.out.mono ?_
    rintro e w3 ⟨rfl, b3⟩
    have HF := hide (HE.out _ b3)
    clear b3
    go_wp2
    go_ret2
    exact ⟨rfl, HF⟩
  | false =>
    have h64' : ¬ (n : Int) ≥ 64 := by
      rcases h64 with h | h
      · cases h
      · omega
    clear h64 hn0
    generalize (n : Int) = n at *
    go_enter Try.func11, Try.ntmps11
    go_wp2_with fail
    refine HM.out.mono ?_
    rintro e w2 ⟨rfl, rfl⟩
    go_wp2_with fail
    refine HN.out.mono ?_
    rintro e w2 ⟨rfl, rfl⟩
    go_wp2_with fail
    refine HW.out.mono ?_
    rintro e w2 ⟨rfl, rfl⟩
    go_wp2_with fail
    refine HC.out.mono ?_
    rintro e w3 ⟨rfl, b3⟩
    have HF := hide (HE.out _ b3)
    clear b3
    go_wp2
    go_ret2
    exact ⟨rfl, HF⟩
set_option maxRecDepth 10000 in
set_option maxHeartbeats 800000 in
theorem newTally_ok {w : World} {a : Option Addr} {c : Cf} (h : PG w a c) (hok : c.Ok) :
    Calls Try.prog 9 #[.pointer a] w fun e w' => ∃ pt b, e = .returned (.pointer (some ⟨pt, 0, none⟩)) ∧ Hid (TY w' pt b c 0 (fun _ => 0) (fun _ => false) ∧ w.heap.size ≤ b ∧ Below w.heap.size w w') := by
  have HM := hide (made_live h hok)
  obtain ⟨g, rfl, hg⟩ := h
  have m1 := run_makeMap (P := Try.prog) 79 w
  obtain ⟨z0, z1, z2, z3, z4, z5, z6, z7, z8, z9⟩ := cfg_cells hg
  have HR : Hid (∃ pt b, some (⟨w.heap.size + 1, 0, none⟩ : Addr) = some ⟨pt, 0, none⟩ ∧ TY ((w.alloc (.map #[] 0)).alloc (.cells (tcells c w.heap.size) 81)) pt b c 0 (fun _ => 0) (fun _ => false) ∧ w.heap.size ≤ b ∧ Below w.heap.size w ((w.alloc (.map #[] 0)).alloc (.cells (tcells c w.heap.size) 81))) := by
    refine ⟨_, w.heap.size, rfl, ⟨?_, (tm_made KU w).kept (World.grownBy_alloc _ _ none) (by simp)⟩, Nat.le_refl _, ((Below.refl _ w).alloc (Nat.le_refl _) _).alloc (by simp) _⟩
    have h := alloc_atK (w.alloc (.map #[] 0)) (.cells (tcells c w.heap.size) 81)
    rw [World.size_alloc] at h
    exact h
  unfold tcells at HR
  clear hg hok
  generalize c.f = f at *
  generalize c.mb = mb at *
  generalize (c.delay : Int) = d at *
  generalize (c.win : Int) = wn at *
  generalize (c.every : Int) = ev at *
  generalize (c.beat : Int) = bt at *
  generalize (c.ep : Int) = ep at *
  generalize (c.em : Int) = em at *
  generalize (c.mn : Int) = mn at *
  generalize (c.ms : Int) = ms at *
  go_enter Try.func9, Try.ntmps9
  go_wp2_with fail
  refine HM.out.mono ?_
  rintro e w2 ⟨rfl, rfl⟩
  go_wp2
  go_ret
  obtain ⟨pt, b, e1, h⟩ := HR.out
  exact ⟨pt, b, by rw [← e1]; simp, h⟩
set_option maxRecDepth 10000 in
set_option maxHeartbeats 800000 in
theorem treached {w : World} {pt b : Nat} {c : Cf} {n : Nat} {m : Nat → Nat} {p : Nat → Bool} (h : TY w pt b c n m p) (hok : c.Ok) (k : Nat) (hk : k < 18446744073709551616) :
    Calls Try.prog 14 #[.pointer (some ⟨pt, 0, none⟩), .int .u64 (k : Nat)] w fun e w' => e = .returned (.bool (c.maj (m k))) ∧ Below w.heap.size w w' := by
  have HK : Hid (∀ V, Hid (Below w.heap.size w V) → V.cell? ⟨pt, 10, none⟩ = some (.map (some b)) ∧ (Instr.lookup 79 (.map (some b)) (.int .u64 (k : Nat)) false).run Try.prog V = .ok (.int .u32 ((m k : Nat) : Int)) V) := fun V hV => ⟨(h.kept hV.out).cell, (h.kept hV.out).tm.look (Y := KU) (x := k) hk⟩
  have HM : Hid (∀ V, Hid (Below w.heap.size w V) → Calls Try.prog 46 #[.pointer (some ⟨pt, 0, none⟩)] V fun e w' => e = .returned (.bool true) ∧ w' = V) := fun V hV => tmade (h.kept hV.out).cell
  have HJ : Hid (∀ V, Hid (Below w.heap.size w V) → Calls Try.prog 25 #[.pointer (some ⟨pt, 0, none⟩), .int .u32 ((m k : Nat) : Int)] V fun e w' => e = .returned (.bool (c.maj (m k))) ∧ Below V.heap.size V w') := fun V hV => majority_pc (m k) (h.tm.small k) (h.kept hV.out).pc hok
  have HD : Hid (Below w.heap.size w w.drew) := (Below.refl _ w).drew
  have KB : Hid (∀ V V', Hid (Below w.heap.size w V) → Below V.heap.size V V' → Hid (Below w.heap.size w V')) := fun V V' h h' => h.out.trans (h'.mono h.out.size)
  clear h hok hk
  generalize c.maj (m k) = v at *
  generalize ((m k : Nat) : Int) = x at *
  generalize (k : Int) = k at *
  go_enter Try.func14, Try.ntmps14
  go_upto_region 1 with fail
  refine region_assign (fun V => Hid (Below w.heap.size w V)) [(5, .pointer (some ⟨pt, 0, none⟩)), (6, .bool true), (7, .bool true), (8, .pointer (some ⟨pt, 0, none⟩)), (9, .pointer (some ⟨pt, 0, none⟩)), (10, .pointer (some ⟨pt, 0, none⟩)), (11, .pointer (some ⟨pt, 0, none⟩)), (12, .pointer (some ⟨pt, 0, none⟩)), (13, .pointer (some ⟨pt, 10, none⟩)), (14, .map (some b)), (15, .int .u64 k), (16, .int .u32 x), (17, .bool v), (18, .bool v), (4, .bool v)] _ (by kernel_rfl) (by kernel_rfl) (by kernel_rfl) (by kernel_rfl) rfl HD ?_ (fun V1 HV1 => ?_)
  · simp only [putAll, Act.put, List.setIfInBounds_toArray, List.set_cons_zero, List.set_cons_succ]
    repeat' (first | exact AllTo.nil | refine AllTo.cons ?_ ?_)
    all_goals first
      | exact stepTo_no (by rfl) rfl
      | (refine stepTo_yes (by rfl) (fun V hV K hK => ?_)
         obtain ⟨r0, r1⟩ := HK.out V hV
         go_simp
         first
           | exact hK.out _ hV
           | (go_at_call 46; refine (HM.out V hV).mono ?_; rintro e V' ⟨rfl, rfl⟩; exact hK.out _ hV)
           | (go_at_call 25; refine (HJ.out V hV).mono ?_; rintro e V' ⟨rfl, hV'⟩; exact hK.out _ (KB.out _ _ hV hV')))
  simp only [putAll, Act.put, List.setIfInBounds_toArray, List.set_cons_zero, List.set_cons_succ]
  go_wp2
  go_ret
  exact ⟨rfl, HV1.out⟩
end Go.Proofs.Ythfiafjhnidlkaa
