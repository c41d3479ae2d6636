import Derived.Test.YtgaalaoflaklgaaGreatRDec
import Derived.Test.YtgaalaoflaklgaaGreatM30
import Derived.Test.YtgaalaoflaklgaaGreatM21
import Derived.Test.YtgaalaoflaklgaaGreatM29
namespace Go.Proofs.YtgaalaoflaklgaaGreat
open Go.RowKit Crc

/-- A message that a record becomes. -/
def msgR (num : Nat) (node : Int) (slot st : Nat) (bv dv : Value) : List Value := .int .i64 0 :: .int .u64 (num : Int) :: .int .i64 node :: .int .u64 (slot : Int) :: .int .u64 0 :: .slice none 0 0 :: .int .u64 (st : Int) :: bv :: .int .u64 0 :: .int .u64 0 :: .int .i64 0 :: .slice none 0 0 :: dv :: Mc.tail
theorem msgR_len (num : Nat) (node : Int) (slot st : Nat) (bv dv : Value) : (msgR num node slot st bv dv).length = 49 := by simp [msgR, Mc.tail]
theorem set_mid (A B C : List Value) (i f : Nat) (b : Value) (hi : i = A.length + f) (hf : f < B.length) : (A ++ (B ++ C)).set i b = A ++ (B.set f b ++ C) := by
  subst hi
  rw [List.set_append, if_neg (by omega), Nat.add_sub_cancel_left, List.set_append, if_pos hf]
theorem set_end (A B C : List Value) (i f : Nat) (b : Value) (hi : i = A.length + B.length + f) : (A ++ (B ++ C)).set i b = A ++ (B ++ C.set f b) := by
  subst hi
  rw [List.set_append, if_neg (by omega), List.set_append, if_neg (by omega)]
  rw [show A.length + B.length + f - A.length - B.length = f by omega]
/-- A check as it lies. -/
structure Ck (cb : Nat) (R : List Value) (U : List Bool) (Y : List Int) (W : World) : Prop where
  box : W.heap[cb]? = some (.cells (R ++ (U.map Value.bool ++ Y.map (Value.int .i64))).toArray 87 (0, 0))
  rl : R.length = 49
  ul : U.length = 16
  yl : Y.length = 16
theorem Ck.lt {cb : Nat} {R : List Value} {U : List Bool} {Y : List Int} {W : World} (h : Ck cb R U Y W) : cb < W.heap.size := block_lt h.box
theorem Ck.quiet {cb : Nat} {R : List Value} {U : List Bool} {Y : List Int} {W W' : World} (h : Ck cb R U Y W) (hg : W.grownBy W' none) : Ck cb R U Y W' := ⟨(hg.block _ (block_lt h.box) (by simp)).trans h.box, h.rl, h.ul, h.yl⟩
theorem Ck.cellR {cb : Nat} {R : List Value} {U : List Bool} {Y : List Int} {W : World} (h : Ck cb R U Y W) (j : Nat) {v : Value} (hj : R[j]? = some v) : W.cell? ⟨cb, j, none⟩ = some v := by
  rw [block_cell h.box j, List.getElem?_toArray, List.getElem?_append_left (List.getElem?_eq_some_iff.1 hj).1]
  exact hj
theorem Ck.cellU {cb : Nat} {R : List Value} {U : List Bool} {Y : List Int} {W : World} (h : Ck cb R U Y W) (f : Nat) (hf : f < 16) : W.cell? ⟨cb, 49 + f, none⟩ = some (.bool (U.getD f false)) := by
  have h1 := h.rl
  have h2 := h.ul
  rw [block_cell h.box (49 + f), List.getElem?_toArray, List.getElem?_append_right (by omega), List.getElem?_append_left (by simp; omega), h1, Nat.add_sub_cancel_left, List.getElem?_map, List.getElem?_eq_getElem (by omega)]
  simp [List.getD, List.getElem?_eq_getElem (show f < U.length by omega)]
theorem Ck.cellY {cb : Nat} {R : List Value} {U : List Bool} {Y : List Int} {W : World} (h : Ck cb R U Y W) (f : Nat) (hf : f < 16) : W.cell? ⟨cb, 65 + f, none⟩ = some (.int .i64 (Y.getD f 0)) := by
  have h1 := h.rl
  have h2 := h.ul
  have h3 := h.yl
  rw [block_cell h.box (65 + f), List.getElem?_toArray, List.getElem?_append_right (by omega), List.getElem?_append_right (by simp; omega), h1]
  have e : 65 + f - 49 - (U.map Value.bool).length = f := by simp; omega
  rw [e, List.getElem?_map, List.getElem?_eq_getElem (by omega)]
  simp [List.getD, List.getElem?_eq_getElem (show f < Y.length by omega)]
theorem Ck.free {cb : Nat} {R : List Value} {U : List Bool} {Y : List Int} {W : World} (h : Ck cb R U Y W) (j : Nat) : W.frozen? ⟨cb, j, none⟩ = false := block_free h.box j
theorem Ck.note {cb : Nat} {R : List Value} {U : List Bool} {Y : List Int} {W : World} (h : Ck cb R U Y W) (f : Nat) (hf : f < 16) (y : Int) : Ck cb R (U.set f true) (Y.set f y) ((W.setCell ⟨cb, 49 + f, none⟩ (.bool true)).setCell ⟨cb, 65 + f, none⟩ (.int .i64 y)) ∧ W.grownBy ((W.setCell ⟨cb, 49 + f, none⟩ (.bool true)).setCell ⟨cb, 65 + f, none⟩ (.int .i64 y)) (some cb) := by
  have h1 := h.rl
  have h2 := h.ul
  have h3 := h.yl
  have b1 := heap_setCell_same _ cb (49 + f) _ _ (.bool true) h.box
  have b2 := heap_setCell_same _ cb (65 + f) _ _ (.int .i64 y) b1
  refine ⟨⟨?_, h1, by simpa using h2, by simpa using h3⟩, grown_trans (row := some cb) (grown_set _ _ _ _) (grown_set _ _ _ _)⟩
  rw [b2]
  simp only [List.setIfInBounds_toArray]
  rw [set_mid R _ _ (49 + f) f _ (by omega) (by simp; omega), set_end R _ _ (65 + f) f _ (by simp; omega), List.map_set, List.map_set]

set_option maxRecDepth 10000 in
theorem note_1 {cb : Nat} {R : List Value} {U : List Bool} {Y : List Int} {w : World} (h : Ck cb R U Y w) (y : Int) :
    Calls Tryz.prog 124 #[.pointer (some ⟨cb, 0, none⟩), .int .i64 1, .int .i64 y] w fun e w' => e = .returned (.tuple #[]) ∧ Hid (Ck cb R (U.set 1 true) (Y.set 1 y) w' ∧ w.grownBy w' (some cb)) := by
  have u1 := h.cellU 1 (by decide)
  have u2 := h.cellY 1 (by decide)
  have f1 := h.free 50
  have f2 := h.free 66
  have FIN := hide (h.note 1 (by decide) y)
  have hl := h.lt
  simp only [Nat.reduceAdd] at u1 u2
  clear h
  go_enter Tryz.func124, Tryz.ntmps124
  go_wp2
  go_end0
  exact ⟨rfl, FIN.out⟩

set_option maxRecDepth 10000 in
theorem note_2 {cb : Nat} {R : List Value} {U : List Bool} {Y : List Int} {w : World} (h : Ck cb R U Y w) (y : Int) :
    Calls Tryz.prog 124 #[.pointer (some ⟨cb, 0, none⟩), .int .i64 2, .int .i64 y] w fun e w' => e = .returned (.tuple #[]) ∧ Hid (Ck cb R (U.set 2 true) (Y.set 2 y) w' ∧ w.grownBy w' (some cb)) := by
  have u1 := h.cellU 2 (by decide)
  have u2 := h.cellY 2 (by decide)
  have f1 := h.free 51
  have f2 := h.free 67
  have FIN := hide (h.note 2 (by decide) y)
  have hl := h.lt
  simp only [Nat.reduceAdd] at u1 u2
  clear h
  go_enter Tryz.func124, Tryz.ntmps124
  go_wp2
  go_end0
  exact ⟨rfl, FIN.out⟩

set_option maxRecDepth 10000 in
theorem note_5 {cb : Nat} {R : List Value} {U : List Bool} {Y : List Int} {w : World} (h : Ck cb R U Y w) (y : Int) :
    Calls Tryz.prog 124 #[.pointer (some ⟨cb, 0, none⟩), .int .i64 5, .int .i64 y] w fun e w' => e = .returned (.tuple #[]) ∧ Hid (Ck cb R (U.set 5 true) (Y.set 5 y) w' ∧ w.grownBy w' (some cb)) := by
  have u1 := h.cellU 5 (by decide)
  have u2 := h.cellY 5 (by decide)
  have f1 := h.free 54
  have f2 := h.free 70
  have FIN := hide (h.note 5 (by decide) y)
  have hl := h.lt
  simp only [Nat.reduceAdd] at u1 u2
  clear h
  go_enter Tryz.func124, Tryz.ntmps124
  go_wp2
  go_end0
  exact ⟨rfl, FIN.out⟩

set_option maxRecDepth 10000 in
theorem note_10 {cb : Nat} {R : List Value} {U : List Bool} {Y : List Int} {w : World} (h : Ck cb R U Y w) (y : Int) :
    Calls Tryz.prog 124 #[.pointer (some ⟨cb, 0, none⟩), .int .i64 10, .int .i64 y] w fun e w' => e = .returned (.tuple #[]) ∧ Hid (Ck cb R (U.set 10 true) (Y.set 10 y) w' ∧ w.grownBy w' (some cb)) := by
  have u1 := h.cellU 10 (by decide)
  have u2 := h.cellY 10 (by decide)
  have f1 := h.free 59
  have f2 := h.free 75
  have FIN := hide (h.note 10 (by decide) y)
  have hl := h.lt
  simp only [Nat.reduceAdd] at u1 u2
  clear h
  go_enter Tryz.func124, Tryz.ntmps124
  go_wp2
  go_end0
  exact ⟨rfl, FIN.out⟩
end Go.Proofs.YtgaalaoflaklgaaGreat
namespace Go.Proofs.YtgaalaoflaklgaaGreat
open Go.RowKit Crc

def Fd.ix : Fd → Nat
  | .ballot => 1
  | .slot => 2
  | .batch => 5
  | .snap => 10
def Fd.cfn : Fd → Nat
  | .ballot => 120
  | .slot => 122
  | .batch => 121
  | .snap => 123
theorem cm_any (f : Fd) (a : Addr) (w : World) : (method 293 90 (.pointer (some a)) f.name).run Tryz.prog w = .ok (f.cfn, .pointer (some a)) w := by
  cases f <;> kernel_rfl
theorem cc_any (f : Fd) (args : Array Value) (w : World) : (callFunc f.cfn args).run Tryz.prog w = .ok (.enter f.cfn args) w := by
  cases f <;> kernel_rfl
/-- Why a field may not be. -/
def balY (num : Nat) (node : Int) : Int := if balBad num node then 29 else 0
def Fd.yv (f : Fd) (num : Nat) (node : Int) (slot st : Nat) (rs : List Rq) (m : Nat) : Int := match f with
  | .ballot => balY num node
  | .slot => bndY slot 0 1099511627776
  | .batch => (bFault st rs).2
  | .snap => cntY m 40000
theorem balF_any (num : Nat) (node : Int) (w : World) : Calls Tryz.prog 125 #[.agg #[.int .u64 (num : Int), .int .i64 node]] w fun e w' => e = .returned (.int .i64 (balY num node)) ∧ Hid (Below w.heap.size w w') := by
  unfold balY
  by_cases h : balBad num node
  · rw [if_pos h]; exact ballotFault_yes num node w h
  · rw [if_neg h]; exact ballotFault_no num node w h

theorem grown_wide {a b : World} (h : a.grownBy b none) (row : Option Nat) : a.grownBy b row := ⟨h.os, h.tape, h.output, h.size, fun k hk _ => h.block k hk (by simp)⟩
section
variable {cb : Nat} {num : Nat} {node : Int} {slot st : Nat} {ro : Option Addr} {n rc : Nat} {do_ : Option Addr} {m dc : Nat} {U : List Bool} {Y : List Int} {w : World}
set_option maxRecDepth 10000 in
theorem ck_ballot (h : Ck cb (msgR num node slot st (.slice ro n rc) (.slice do_ m dc)) U Y w) :
    Calls Tryz.prog 120 #[.pointer (some ⟨cb, 0, none⟩)] w fun e w' => e = .returned (.tuple #[]) ∧ Hid (Ck cb (msgR num node slot st (.slice ro n rc) (.slice do_ m dc)) (U.set 1 true) (Y.set 1 (balY num node)) w' ∧ w.grownBy w' (some cb)) := by
  have c1 := h.cellR 1 rfl
  have c2 := h.cellR 2 rfl
  have H := hide h
  clear h
  go_enter Tryz.func120, Tryz.ntmps120
  go_wp2_with fail
  refine (balF_any num node w).mono ?_
  rintro e w1 ⟨rfl, b1⟩
  clear c1 c2
  go_wp2_with fail
  refine (note_1 (H.out.quiet (below_none b1.out)) (balY num node)).mono ?_
  rintro e w2 ⟨rfl, G2⟩
  go_wp2
  go_end0
  exact ⟨rfl, G2.out.1, grown_trans (row := some cb) (grown_wide (below_none b1.out) _) G2.out.2⟩
set_option maxRecDepth 10000 in
theorem ck_slot (h : Ck cb (msgR num node slot st (.slice ro n rc) (.slice do_ m dc)) U Y w) :
    Calls Tryz.prog 122 #[.pointer (some ⟨cb, 0, none⟩)] w fun e w' => e = .returned (.tuple #[]) ∧ Hid (Ck cb (msgR num node slot st (.slice ro n rc) (.slice do_ m dc)) (U.set 2 true) (Y.set 2 (bndY slot 0 1099511627776)) w' ∧ w.grownBy w' (some cb)) := by
  have c1 := h.cellR 3 rfl
  have H := hide h
  clear h
  go_enter Tryz.func122, Tryz.ntmps122
  go_wp2_with fail
  refine (boundFault_any slot 0 1099511627776 w).mono ?_
  rintro e w1 ⟨rfl, rfl⟩
  clear c1
  go_wp2_with fail
  refine (note_2 H.out (bndY slot 0 1099511627776)).mono ?_
  rintro e w2 ⟨rfl, G2⟩
  go_wp2
  go_end0
  exact ⟨rfl, G2⟩
set_option maxRecDepth 10000 in
theorem ck_snap (h : Ck cb (msgR num node slot st (.slice ro n rc) (.slice do_ m dc)) U Y w) :
    Calls Tryz.prog 123 #[.pointer (some ⟨cb, 0, none⟩)] w fun e w' => e = .returned (.tuple #[]) ∧ Hid (Ck cb (msgR num node slot st (.slice ro n rc) (.slice do_ m dc)) (U.set 10 true) (Y.set 10 (cntY m 40000)) w' ∧ w.grownBy w' (some cb)) := by
  have c1 := h.cellR 12 rfl
  have H := hide h
  clear h
  go_enter Tryz.func123, Tryz.ntmps123
  go_wp2_with fail
  refine (countFault_any (m : Int) 40000 w).mono ?_
  rintro e w1 ⟨rfl, rfl⟩
  clear c1
  go_wp2_with fail
  refine (note_10 H.out (cntY m 40000)).mono ?_
  rintro e w2 ⟨rfl, G2⟩
  go_wp2
  go_end0
  exact ⟨rfl, G2⟩
set_option maxRecDepth 10000 in
theorem ck_batch {lim : Nat} {rs : List Rq} {b off : Nat} (h : Ck cb (msgR num node slot st (.slice ro n rc) (.slice do_ m dc)) U Y w) (hR : Rqs lim w ro rs b off) (hl : lim ≤ w.heap.size) (hn : rs.length = n) :
    Calls Tryz.prog 121 #[.pointer (some ⟨cb, 0, none⟩)] w fun e w' => e = .returned (.tuple #[]) ∧ Hid (Ck cb (msgR num node slot st (.slice ro n rc) (.slice do_ m dc)) (U.set 5 true) (Y.set 5 (bFault st rs).2) w' ∧ w.grownBy w' (some cb)) := by
  have c1 := h.cellR 6 rfl
  have c2 := h.cellR 7 rfl
  have H := hide h
  have HB : Hid (Calls Tryz.prog 22 #[.agg #[.int .u64 (st : Int), .slice ro n rc]] w fun e w' => e = .returned (.tuple #[.int .i64 ((bFault st rs).1 : Int), .int .i64 (bFault st rs).2]) ∧ Hid (Below w.heap.size w w')) := by
    have h1 := batchFault_any st rc (hR.wide hl)
    rw [hn] at h1
    exact h1.mono (fun _ _ h => ⟨h.1, h.2⟩)
  clear h hR
  generalize ((bFault st rs).1 : Int) = ba at *
  generalize (bFault st rs).2 = bc at *
  go_enter Tryz.func121, Tryz.ntmps121
  go_wp2_with fail
  refine HB.out.mono ?_
  rintro e w1 ⟨rfl, b1⟩
  clear c1 c2
  go_wp2_with fail
  refine (note_5 (H.out.quiet (below_none b1.out)) bc).mono ?_
  rintro e w2 ⟨rfl, G2⟩
  go_wp2
  go_end0
  exact ⟨rfl, G2.out.1, grown_trans (row := some cb) (grown_wide (below_none b1.out) _) G2.out.2⟩
theorem ck_any (f : Fd) {lim : Nat} {rs : List Rq} {b off : Nat} (h : Ck cb (msgR num node slot st (.slice ro n rc) (.slice do_ m dc)) U Y w) (hR : Rqs lim w ro rs b off) (hl : lim ≤ w.heap.size) (hn : rs.length = n) :
    Calls Tryz.prog f.cfn #[.pointer (some ⟨cb, 0, none⟩)] w fun e w' => e = .returned (.tuple #[]) ∧ Hid (Ck cb (msgR num node slot st (.slice ro n rc) (.slice do_ m dc)) (U.set f.ix true) (Y.set f.ix (f.yv num node slot st rs m)) w' ∧ w.grownBy w' (some cb)) := by
  cases f with
  | ballot => exact ck_ballot h
  | slot => exact ck_slot h
  | batch => exact ck_batch h hR hl hn
  | snap => exact ck_snap h
end
end Go.Proofs.YtgaalaoflaklgaaGreat
namespace Go.Proofs.YtgaalaoflaklgaaGreat
open Go.RowKit Crc

/-- The first field that may not be. -/
def fbGo (U : List Bool) (Y : List Int) (Z : List Bool) : Nat → Nat → Int × Int
  | 0, _ => (0, 0)
  | n + 1, i => if U.getD i false = true ∧ Y.getD i 0 ≠ 0 then ((i : Int), Y.getD i 0) else if U.getD i false = false ∧ Z.getD i false = false then ((i : Int), 29) else fbGo U Y Z n (i + 1)
def ckAll (num : Nat) (node : Int) (slot st : Nat) (rs : List Rq) (m : Nat) : List Fd → List Bool × List Int → List Bool × List Int
  | [], x => x
  | f :: t, x => ckAll num node slot st rs m t (x.1.set f.ix true, x.2.set f.ix (f.yv num node slot st rs m))
theorem ckAll_snoc (num : Nat) (node : Int) (slot st : Nat) (rs : List Rq) (m : Nat) : ∀ (fs : List Fd) (f : Fd) (x : List Bool × List Int), ckAll num node slot st rs m (fs ++ [f]) x = ((ckAll num node slot st rs m fs x).1.set f.ix true, (ckAll num node slot st rs m fs x).2.set f.ix (f.yv num node slot st rs m))
  | [], f, x => rfl
  | g :: t, f, x => by rw [List.cons_append, ckAll, ckAll_snoc _ _ _ _ _ _ t f]; rfl
def U0 : List Bool := List.replicate 16 false
def Y0 : List Int := List.replicate 16 0
/-- While the fields are looked over. -/
structure Cl (fs : List Fd) (cb : Nat) (num : Nat) (node : Int) (slot st : Nat) (rs : List Rq) (ro : Option Addr) (n rc : Nat) (do_ : Option Addr) (m dc : Nat) (w : World) (k : Nat) (wr : World) : Prop where
  ck : Ck cb (msgR num node slot st (.slice ro n rc) (.slice do_ m dc)) (ckAll num node slot st rs m (fs.take k) (U0, Y0)).1 (ckAll num node slot st rs m (fs.take k) (U0, Y0)).2 wr
  gr : w.grownBy wr (some cb)
theorem Cl.next {fs : List Fd} {cb : Nat} {num : Nat} {node : Int} {slot st : Nat} {rs : List Rq} {ro : Option Addr} {n rc : Nat} {do_ : Option Addr} {m dc : Nat} {w : World} {k : Nat} {wr w1 : World} {f : Fd} (h : Cl fs cb num node slot st rs ro n rc do_ m dc w k wr) (hf : fs[k]? = some f) (h1 : Ck cb (msgR num node slot st (.slice ro n rc) (.slice do_ m dc)) ((ckAll num node slot st rs m (fs.take k) (U0, Y0)).1.set f.ix true) ((ckAll num node slot st rs m (fs.take k) (U0, Y0)).2.set f.ix (f.yv num node slot st rs m)) w1) (h2 : wr.grownBy w1 (some cb)) : Cl fs cb num node slot st rs ro n rc do_ m dc w (k + 1) w1 := by
  refine ⟨?_, grown_trans (row := some cb) h.gr h2⟩
  rw [List.take_add_one, hf]
  show Ck cb _ (ckAll num node slot st rs m (fs.take k ++ [f]) (U0, Y0)).1 (ckAll num node slot st rs m (fs.take k ++ [f]) (U0, Y0)).2 w1
  rw [ckAll_snoc]
  exact h1
end Go.Proofs.YtgaalaoflaklgaaGreat
