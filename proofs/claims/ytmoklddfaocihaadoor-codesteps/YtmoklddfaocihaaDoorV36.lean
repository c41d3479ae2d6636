import Derived.Test.YtmoklddfaocihaaDoorV28
import Derived.Test.YtmoklddfaocihaaDoorV34
namespace Go.Proofs.YtmoklddfaocihaaDoor
open Go.RowKit

/-- Values as they lie in a row. -/
def vals2 (k v : Nat → Int) (n : Nat) : List Value := (List.range (n * 2)).map (fun i => if i % 2 = 0 then Value.int .i64 (k (i / 2)) else Value.int .u64 (v (i / 2)))
theorem vals2_len (k v : Nat → Int) (n : Nat) : (vals2 k v n).length = n * 2 := by simp [vals2]
theorem vals2_k {k v : Nat → Int} {n j : Nat} (h : j < n) : (vals2 k v n)[j * 2]? = some (.int .i64 (k j)) := by
 have h1 : j * 2 < n * 2 := by omega
 have h2 : j * 2 % 2 = 0 := by omega
 have h3 : j * 2 / 2 = j := by omega
 simp [vals2, h1, h2, h3]
theorem vals2_v {k v : Nat → Int} {n j : Nat} (h : j < n) : (vals2 k v n)[j * 2 + 1]? = some (.int .u64 (v j)) := by
 have h1 : j * 2 + 1 < n * 2 := by omega
 have h2 : (j * 2 + 1) % 2 = 1 := by omega
 have h3 : (j * 2 + 1) / 2 = j := by omega
 simp [vals2, h1, h2, h3]
theorem vals2_congr {k k' v v' : Nat → Int} {n : Nat} (hk : ∀ j, j < n → k j = k' j) (hv : ∀ j, j < n → v j = v' j) : vals2 k v n = vals2 k' v' n := by
 unfold vals2
 apply List.map_congr_left
 intro i hi
 have hi := List.mem_range.1 hi
 rw [hk (i / 2) (by omega), hv (i / 2) (by omega)]
theorem vals2_next (k v : Nat → Int) (n : Nat) : vals2 k v (n + 1) = vals2 k v n ++ [.int .i64 (k n), .int .u64 (v n)] := by
 have h1 : (n + 1) * 2 = n * 2 + 1 + 1 := by omega
 have h2 : n * 2 % 2 = 0 := by omega
 have h3 : n * 2 / 2 = n := by omega
 have h4 : (n * 2 + 1) % 2 = 1 := by omega
 have h5 : (n * 2 + 1) / 2 = n := by omega
 unfold vals2
 rw [h1, List.range_succ, List.range_succ]
 simp [h2, h3, h4, h5]
theorem vals2_take (k v : Nat → Int) {n m : Nat} (h : m ≤ n) : (vals2 k v n).take (m * 2) = vals2 k v m := by
 unfold vals2
 rw [← List.map_take, List.take_range, Nat.min_eq_left (by omega)]
/-- What the reference's machine may turn: its own kinds of blocks. -/
def Kt (w w' : World) : Prop := ∀ (b : Nat) (cs : Array Value) (t : TypeId) (z : Nat × Nat), w.heap[b]? = some (.cells cs t z) → t ≠ 67 → t ≠ 56 → w'.heap[b]? = some (.cells cs t z)
structure Bk (k : Nat) (w w' : World) : Prop where
 b : Below k w w'
 t : Kt w w'
theorem Kt.refl (w : World) : Kt w w := fun _ _ _ _ h _ _ => h
theorem Kt.trans {a b c : World} (h : Kt a b) (g : Kt b c) : Kt a c := fun x cs t z e n1 n2 => g x cs t z (h x cs t z e n1 n2) n1 n2
theorem Kt.below {w w' : World} (hb : Below w.heap.size w w') : Kt w w' := fun _ _ _ _ h _ _ => (hb.block _ (Array.getElem?_eq_some_iff.1 h).1).trans h
theorem Kt.grown {w w' : World} {q : Nat} {cs : Array Value} {t : TypeId} {z : Nat × Nat} (hg : w.grownBy w' (some q)) (hq : w.heap[q]? = some (.cells cs t z)) (ht : t = 67 ∨ t = 56) : Kt w w' := fun b cs' t' z' h n1 n2 => by
 refine (hg.block b (Array.getElem?_eq_some_iff.1 h).1 (fun e => ?_)).trans h
 cases e
 rw [hq] at h
 cases h
 rcases ht with e | e
 ·exact n1 e
 ·exact n2 e
theorem Kt.own {w w' : World} {B n : Nat} {v : Value} {xs : List Value} (h : w.ownsRow B 56 2 v n xs) (hg : w.grownBy w' v.ownBlock) : Kt w w' := by
 rcases h.2 with ⟨rfl, _⟩ | ⟨g, cap, cur, rfl, _, hc, _⟩
 ·exact fun b cs t z h _ _ => (hg.block b (Array.getElem?_eq_some_iff.1 h).1 (by simp [Value.ownBlock])).trans h
 ·exact Kt.grown (q := g) hg hc (.inr rfl)
theorem Bk.refl (k : Nat) (w : World) : Bk k w w := ⟨Below.refl _ _, Kt.refl _⟩
theorem Bk.trans {k : Nat} {a b c : World} (h : Bk k a b) (g : Bk k b c) : Bk k a c := ⟨h.b.trans g.b, h.t.trans g.t⟩
theorem Bk.grew {k : Nat} {w w' : World} (hb : Below w.heap.size w w') (hk : k ≤ w.heap.size) : Bk k w w' := ⟨hb.mono hk, Kt.below hb⟩
/-- The cells of the reference's machine. -/
def rcs (g : Pg) (p : Pv) (e : En) (vS vQ : Value) (s : Ms) : List Value :=
 [.bool true, .slice g.ca p.nc g.cc, .slice g.sa p.ns g.sc, .int .i64 (p.en 0), .int .i64 (p.en 1), .int .i64 (p.en 2), .int .i64 (p.en 3), .int .i64 (p.en 4), .int .i64 (p.en 5), .slice g.ia p.n g.ic, .int .u64 e.x0, .int .u64 e.x1, .int .u64 e.x2, .int .u64 e.x3, .int .u64 e.x4, .int .u64 e.x5, .int .u64 e.x6, .bool e.x7, .int .i64 s.pc, vS, vQ, .int .u64 s.left, .int .u64 (s.paid 0), .int .u64 (s.paid 1), .int .u64 (s.paid 2), .bool s.ov, .int .i64 s.en, .int .i64 s.fail]
/-- What stays of it. -/
structure Rc where
 (g : Pg) (p : Pv) (e : En) (vQ : Value) (rb qb qc Bs : Nat)
/-- The reference's machine as it lies. -/
structure Rx (c : Rc) (vS : Value) (s : Ms) (w : World) : Prop where
 blk : w.heap[c.rb]? = some (.cells (rcs c.g c.p c.e vS c.vQ s).toArray 67 (0, 0))
 stk : w.ownsRow c.Bs 56 2 vS s.h (vals2 s.sk s.sv s.h)
 slt : 0 < c.p.ns → c.vQ = .slice (some ⟨c.qb, 0, none⟩) c.p.ns c.qc ∧ c.rb < c.qb ∧ c.qb < c.Bs ∧ ∃ cq, w.heap[c.qb]? = some (.cells cq 56 (0, 0)) ∧ ∀ j, j < c.p.ns → cq[j * 2]? = some (.int .i64 (c.p.S j)) ∧ cq[j * 2 + 1]? = some (.int .u64 (s.slt j))
 ok : c.g.Ok c.p c.rb w
 rq : c.rb < c.Bs
 sz : c.Bs ≤ w.heap.size
section
variable {c : Rc} {vS : Value} {s : Ms} {w : World}
theorem Rx.cell (h : Rx c vS s w) (i : Nat) : w.cell? ⟨c.rb, i, none⟩ = (rcs c.g c.p c.e vS c.vQ s)[i]? := by
 rw [block_cell h.blk, List.getElem?_toArray]
theorem Rx.free (h : Rx c vS s w) (i : Nat) : w.frozen? ⟨c.rb, i, none⟩ = false := block_free h.blk i
theorem Rx.lt (h : Rx c vS s w) : c.rb < w.heap.size := block_lt h.blk
/-- One cell of it is written. -/
theorem Rx.set (h : Rx c vS s w) {s' : Ms} {i : Nat} {v : Value} (he : rcs c.g c.p c.e vS c.vQ s' = (rcs c.g c.p c.e vS c.vQ s).set i v) (hh : s'.h = s.h) (hk : s'.sk = s.sk) (hv : s'.sv = s.sv) (hl : s'.slt = s.slt) : Rx c vS s' (w.setCell ⟨c.rb, i, none⟩ v) ∧ Bk c.rb w (w.setCell ⟨c.rb, i, none⟩ v) := by
 have gs := grown_setT w c.rb i v
 have hb : Below c.rb w (w.setCell ⟨c.rb, i, none⟩ v) := (Below.refl _ w).grown gs (Nat.le_of_lt h.lt) (fun q e => by cases e; exact Nat.le_refl _)
 refine ⟨⟨?_, ?_, fun q => ?_, h.ok.kept hb (Nat.le_refl _), h.rq, Nat.le_trans h.sz gs.size⟩, ⟨hb, Kt.grown gs h.blk (.inl rfl)⟩⟩
 ·have := heap_setCell_same w c.rb i _ _ v h.blk
  rw [this, he]
  simp
 ·rw [hh, hk, hv]
  exact own_offT h.stk h.blk (by decide) gs
 ·obtain ⟨q1, q2, q3, cq, q4, q5⟩ := h.slt q
  refine ⟨q1, q2, q3, cq, (gs.block _ (block_lt q4) (by simp; omega)).trans q4, ?_⟩
  rw [hl]
  exact q5
/-- Memory grew. -/
theorem Rx.next {w' : World} (h : Rx c vS s w) (hb : Below w.heap.size w w') : Rx c vS s w' :=
 ⟨(hb.block _ h.lt).trans h.blk, own_keep h.stk hb, fun q => by
  obtain ⟨q1, q2, q3, cq, q4, q5⟩ := h.slt q
  exact ⟨q1, q2, q3, cq, (hb.block _ (block_lt q4)).trans q4, q5⟩, h.ok.kept hb (Nat.le_of_lt h.lt), h.rq, Nat.le_trans h.sz hb.size⟩
set_option maxRecDepth 10000 in
set_option maxHeartbeats 1600000 in
theorem overR (h : Rx c vS s w) (e0 : Int) : Calls Tryd.prog 39 #[.pointer (some ⟨c.rb, 0, none⟩), .int .i64 e0] w fun e w' => e = .returned (.tuple #[]) ∧ Hid (Rx c vS (s.stop e0) w' ∧ Bk c.rb w w') := by
 have c1 := h.cell 25
 have f1 := h.free 25
 have c2 := h.cell 18
 have f2 := h.free 18
 have c3 := h.cell 26
 have f3 := h.free 26
 have hl := h.lt
 have H : Hid (Rx c vS (s.stop e0) (((w.setCell ⟨c.rb, 25, none⟩ (.bool true)).setCell ⟨c.rb, 18, none⟩ (.int .i64 (-1))).setCell ⟨c.rb, 26, none⟩ (.int .i64 e0)) ∧ Bk c.rb w (((w.setCell ⟨c.rb, 25, none⟩ (.bool true)).setCell ⟨c.rb, 18, none⟩ (.int .i64 (-1))).setCell ⟨c.rb, 26, none⟩ (.int .i64 e0))) := by
  have h1 := h.set (s' := { s with ov := true }) (i := 25) (v := .bool true) rfl rfl rfl rfl rfl
  have h2 := h1.1.set (s' := { s with ov := true, pc := -1 }) (i := 18) (v := .int .i64 (-1)) rfl rfl rfl rfl rfl
  have h3 := h2.1.set (s' := s.stop e0) (i := 26) (v := .int .i64 e0) rfl rfl rfl rfl rfl
  exact ⟨h3.1, (h1.2.trans h2.2).trans h3.2⟩
 simp [rcs] at c1 c2 c3
 clear h
 generalize c.rb = rb at *
 go_enter Tryd.func39, Tryd.ntmps39
 go_wp2
 go_end0
 exact ⟨rfl, H⟩
set_option maxRecDepth 10000 in
theorem truthR (b : Bool) (w : World) : Calls Tryd.prog 51 #[.bool b] w fun e w' => e = .returned (.int .u64 (bI b)) ∧ w' = w := by
 cases b with
 | true =>
  go_enter Tryd.func51, Tryd.ntmps51
  go_wp2
  go_ret
  exact ⟨rfl, rfl⟩
 | false =>
  go_enter Tryd.func51, Tryd.ntmps51
  go_wp2
  go_ret
  exact ⟨rfl, rfl⟩
set_option maxRecDepth 10000 in
set_option maxHeartbeats 1600000 in
theorem inputR (h : Rx c vS s w) {i : Nat} (hi : i < 8) : Calls Tryd.prog 53 #[.pointer (some ⟨c.rb, 0, none⟩), .int .i64 (i : Nat)] w fun e w' => e = .returned (.int .u64 (c.e.ev i)) ∧ w' = w := by
 have hl := h.lt
 have q : i = 0 ∨ i = 1 ∨ i = 2 ∨ i = 3 ∨ i = 4 ∨ i = 5 ∨ i = 6 ∨ i = 7 := by omega
 have cc := h.cell (10 + i)
 clear h
 rcases q with rfl | rfl | rfl | rfl | rfl | rfl | rfl | rfl
 all_goals
  simp only [rcs, List.getElem?_cons_succ, List.getElem?_cons_zero, Nat.reduceAdd] at cc
 ·have e : c.e.ev 0 = c.e.x0 := rfl
  rw [e]
  go_enter Tryd.func53, Tryd.ntmps53
  go_wp2
  go_ret
  exact ⟨rfl, rfl⟩
 ·have e : c.e.ev 1 = c.e.x1 := rfl
  rw [e]
  go_enter Tryd.func53, Tryd.ntmps53
  go_wp2
  go_ret
  exact ⟨rfl, rfl⟩
 ·have e : c.e.ev 2 = c.e.x2 := rfl
  rw [e]
  go_enter Tryd.func53, Tryd.ntmps53
  go_wp2
  go_ret
  exact ⟨rfl, rfl⟩
 ·have e : c.e.ev 3 = c.e.x3 := rfl
  rw [e]
  go_enter Tryd.func53, Tryd.ntmps53
  go_wp2
  go_ret
  exact ⟨rfl, rfl⟩
 ·have e : c.e.ev 4 = c.e.x4 := rfl
  rw [e]
  go_enter Tryd.func53, Tryd.ntmps53
  go_wp2
  go_ret
  exact ⟨rfl, rfl⟩
 ·have e : c.e.ev 5 = c.e.x5 := rfl
  rw [e]
  go_enter Tryd.func53, Tryd.ntmps53
  go_wp2
  go_ret
  exact ⟨rfl, rfl⟩
 ·have e : c.e.ev 6 = c.e.x6 := rfl
  rw [e]
  go_enter Tryd.func53, Tryd.ntmps53
  go_wp2
  go_ret
  exact ⟨rfl, rfl⟩
 ·have e : c.e.ev 7 = bI c.e.x7 := rfl
  rw [e]
  go_enter Tryd.func53, Tryd.ntmps53
  go_wp2_with fail
  refine (truthR _ w).mono ?_
  rintro x w1 ⟨rfl, hw1⟩
  have hw1 := hw1.symm
  subst hw1
  go_wp2
  go_ret
  exact ⟨rfl, rfl⟩
end
end Go.Proofs.YtmoklddfaocihaaDoor
namespace Go.Proofs.YtmoklddfaocihaaDoor
open Go.RowKit

theorem Tryd.infoCV : (Tryd.prog.info? 56).map (fun i => (i.zero, i.size, i.bytes)) = some (some (.agg #[.int .i64 0, .int .u64 0]), 2, 16) := by kernel_rfl
section
variable {c : Rc} {vS : Value} {s : Ms} {w : World}
/-- A block of the stack's was written, or a new one made. -/
theorem Rx.own {w' : World} {r : Option Nat} (h : Rx c vS s w) (hg : w.grownBy w' r) (hr : ∀ q, r = some q → c.Bs ≤ q) : w'.heap[c.rb]? = some (.cells (rcs c.g c.p c.e vS c.vQ s).toArray 67 (0, 0)) ∧ (0 < c.p.ns → c.vQ = .slice (some ⟨c.qb, 0, none⟩) c.p.ns c.qc ∧ c.rb < c.qb ∧ c.qb < c.Bs ∧ ∃ cq, w'.heap[c.qb]? = some (.cells cq 56 (0, 0)) ∧ ∀ j, j < c.p.ns → cq[j * 2]? = some (.int .i64 (c.p.S j)) ∧ cq[j * 2 + 1]? = some (.int .u64 (s.slt j))) ∧ Below c.Bs w w' := by
 have hb : Below c.Bs w w' := (Below.refl _ w).grown hg h.sz hr
 refine ⟨(hb.block _ h.rq).trans h.blk, fun q => ?_, hb⟩
 obtain ⟨q1, q2, q3, cq, q4, q5⟩ := h.slt q
 exact ⟨q1, q2, q3, cq, (hb.block _ q3).trans q4, q5⟩
/-- The stack is another one. -/
theorem Rx.restk {w1 : World} {vT : Value} {s' : Ms} (h : Rx c vS s w) (hb : Below c.Bs w w1) (hkt : Kt w w1) (hs : c.Bs ≤ w1.heap.size) (ho : w1.ownsRow c.Bs 56 2 vT s'.h (vals2 s'.sk s'.sv s'.h)) (he : s' = { s with h := s'.h, sk := s'.sk, sv := s'.sv }) : Rx c vT s' (w1.setCell ⟨c.rb, 19, none⟩ vT) ∧ Bk c.rb w (w1.setCell ⟨c.rb, 19, none⟩ vT) := by
 have hr := h.rq
 have b1 := (hb.block _ hr).trans h.blk
 have gs := grown_setT w1 c.rb 19 vT
 have hb2 : Below c.rb w1 (w1.setCell ⟨c.rb, 19, none⟩ vT) := (Below.refl _ w1).grown gs (by omega) (fun q e => by cases e; exact Nat.le_refl _)
 have hb3 : Below c.rb w (w1.setCell ⟨c.rb, 19, none⟩ vT) := (hb.mono (Nat.le_of_lt hr)).trans hb2
 have e1 : s'.pc = s.pc := by rw [he]
 have e2 : s'.left = s.left := by rw [he]
 have e3 : s'.paid = s.paid := by rw [he]
 have e4 : s'.ov = s.ov := by rw [he]
 have e5 : s'.en = s.en := by rw [he]
 have e6 : s'.fail = s.fail := by rw [he]
 have e7 : s'.slt = s.slt := by rw [he]
 refine ⟨⟨?_, ?_, fun q => ?_, h.ok.kept hb3 (Nat.le_refl _), hr, Nat.le_trans hs gs.size⟩, ⟨hb3, hkt.trans (Kt.grown gs b1 (.inl rfl))⟩⟩
 ·have := heap_setCell_same w1 c.rb 19 _ _ vT b1
  rw [this]
  unfold rcs
  rw [e1, e2, e3, e4, e5, e6]
  simp
 ·exact own_offT ho b1 (by decide) gs
 ·obtain ⟨q1, q2, q3, cq, q4, q5⟩ := h.slt q
  refine ⟨q1, q2, q3, cq, (gs.block _ (Nat.lt_of_lt_of_le q3 hs) (by simp; omega)).trans ((hb.block _ q3).trans q4), ?_⟩
  rw [e7]
  exact q5
theorem vals2_push (k n : Int) : vals2 (s.push k n).sk (s.push k n).sv (s.push k n).h = vals2 s.sk s.sv s.h ++ [.int .i64 k, .int .u64 n] := by
 show vals2 (updI s.sk s.h k) (updI s.sv s.h n) (s.h + 1) = _
 rw [vals2_next, vals2_congr (k' := s.sk) (v' := s.sv) (fun j hj => by unfold updI; rw [if_neg (by omega)]) (fun j hj => by unfold updI; rw [if_neg (by omega)])]
 simp [updI]
set_option maxRecDepth 10000 in
set_option maxHeartbeats 1600000 in
theorem pushR (h : Rx c vS s w) (hh : s.h ≤ 1000) (k n : Int) : Calls Tryd.prog 50 #[.pointer (some ⟨c.rb, 0, none⟩), .int .i64 k, .int .u64 n] w fun e w' => e = .returned (.tuple #[]) ∧ Hid (∃ vT, Rx c vT (s.push k n) w' ∧ Bk c.rb w w') := by
 obtain ⟨i0, hi, hz0, hz1, hz2⟩ := info_parts Tryd.infoCV
 obtain ⟨ao, cap, rfl⟩ := own_val2 h.stk
 have HR := hide h
 have HOW : Hid (∀ o, (w.alloc o).ownsRow c.Bs 56 2 (.slice ao s.h cap) s.h (vals2 s.sk s.sv s.h)) := fun o => own_keep h.stk (below_alloc1 w o)
 have HSZ : Hid (∀ o, c.Bs ≤ (w.alloc o).heap.size) := fun o => Nat.le_trans h.sz (below_alloc1 w o).size
 have c1 := h.cell 19
 simp [rcs] at c1
 have hl := h.lt
 have HNX : Hid (∀ o v' w', w'.ownsRow c.Bs 56 2 v' (s.h + 1) (vals2 s.sk s.sv s.h ++ [.int .i64 k, .int .u64 n]) → (w.alloc o).grownBy w' (Value.slice ao s.h cap).ownBlock → (Rx c v' (s.push k n) (w'.setCell ⟨c.rb, 19, none⟩ v') ∧ Bk c.rb w (w'.setCell ⟨c.rb, 19, none⟩ v')) ∧ c.rb < w'.heap.size ∧ w'.frozen? ⟨c.rb, 19, none⟩ = false ∧ w'.cell? ⟨c.rb, 19, none⟩ = some (.slice ao s.h cap)) := fun o v' w' h1 h2 => by
  have ba := below_alloc1 w o
  have hb : Below c.Bs w w' := (ba.mono h.sz).grown h2 (HSZ.out o) (fun q e => (h.stk.lt q e).1)
  have b1 := (hb.block _ h.rq).trans h.blk
  refine ⟨h.restk hb ((Kt.below ba).trans (Kt.own (HOW.out o) h2)) (Nat.le_trans (HSZ.out o) h2.size) ?_ rfl, block_lt b1, block_free b1 19, ?_⟩
  ·rw [vals2_push]; exact h1
  ·rw [block_cell b1]; simp [rcs]
 clear h
 generalize c.rb = rb at *
 go_enter Tryd.func50, Tryd.ntmps50
 go_wp2_with (at_builtin; refine wpList_append_own _ rfl (.tmp 11) (.tmp 15) 63 rfl c.Bs 56 i0 (.agg #[.int .i64 0, .int .u64 0]) 2 16 Tryd.underlying63 hi hz0 hz1 hz2 rfl (by decide) (.slice ao s.h cap) s.h _ rfl (HOW.out _) ⟨w.heap.size, 0, none⟩ 1 1 [.int .i64 k, .int .u64 n] rfl rfl (cells_newK w [.int .i64 k, .int .u64 n] 56) (by simp [Value.oneCell']) (by unfold maxLen; omega) (by omega) (HSZ.out _) ?_; intro v' w5 ho hg _; obtain ⟨⟨r1, r2⟩, r3, r4, r5⟩ := HNX.out _ _ _ ho hg; have R1 := hide r1; have R2 := hide r2; obtain ⟨a2, c2, e2⟩ := own_val2 ho; subst e2; clear r1 r2 ho hg)
 go_end0
 exact ⟨rfl, _, R1.out, R2.out⟩
end
set_option maxRecDepth 10000 in
set_option maxHeartbeats 1600000 in
theorem compareR {o : Nat} (h9 : 9 ≤ o) (h16 : o ≤ 16) (a b : Int) (w : World) : Calls Tryd.prog 54 #[.int .i64 (o : Nat), .int .u64 a, .int .u64 b] w fun e w' => e = .returned (.bool (cmpB o a b)) ∧ w' = w := by
 have q : o = 9 ∨ o = 10 ∨ o = 11 ∨ o = 12 ∨ o = 13 ∨ o = 14 ∨ o = 15 ∨ o = 16 := by omega
 rcases q with rfl | rfl | rfl | rfl | rfl | rfl | rfl | rfl
 all_goals
  go_enter Tryd.func54, Tryd.ntmps54
  go_wp2
  go_ret
  refine ⟨?_, rfl⟩
  by_cases q : a = b <;> simp [cmpB, q]
end Go.Proofs.YtmoklddfaocihaaDoor
namespace Go.Proofs.YtmoklddfaocihaaDoor
open Go.RowKit

/-- A payment, where the machine stands behind the instruction already. -/
def Ms.payX (s : Ms) (hd amount party : Int) : Ms :=
 if party < 1 ∨ 3 < party then s.stop 6 else if hd - s.paid 0 - s.paid 1 - s.paid 2 < amount then s.stop 5 else { s with paid := updI s.paid (party - 1).toNat (s.paid (party - 1).toNat + amount) }
theorem pay_nxt (s : Ms) (hd a b : Int) : s.nxt.payX hd a b = s.pay hd a b := by
 unfold Ms.payX Ms.pay
 show (if b < 1 ∨ 3 < b then s.nxt.stop 6 else if hd - s.paid 0 - s.paid 1 - s.paid 2 < a then s.nxt.stop 5 else _) = _
 split
 ·rfl
 ·split
  ·rfl
  ·rfl
/-- The numbers that were taken, as they lie. -/
structure Tk (vb : Nat) (n : Nat) (x : Nat → Int) (w : World) : Prop where
 v : ∀ j, j < n → w.cell? ⟨vb, j, none⟩ = some (.int .u64 (x j))
 l : vb < w.heap.size
theorem Tk.below {vb n : Nat} {x : Nat → Int} {w w' : World} {k : Nat} (h : Tk vb n x w) (hb : Below k w w') (hk : vb < k) : Tk vb n x w' := ⟨fun j hj => (hb.cell (p := ⟨vb, j, none⟩) hk).trans (h.v j hj), Nat.lt_of_lt_of_le h.l hb.size⟩
set_option maxRecDepth 10000 in
set_option maxHeartbeats 3200000 in
theorem reckonR {o n vb cap : Nat} {x : Nat → Int} {w : World} (h17 : 17 ≤ o) (h24 : o ≤ 24) (h : Tk vb n x w) (hn : n = if o = 24 then 3 else 2) (hx : ∀ j, j < n → 0 ≤ x j ∧ x j < two64) : Calls Tryd.prog 55 #[.int .i64 (o : Nat), .slice (some ⟨vb, 0, none⟩) n cap] w fun e w' => e = .returned (.tuple #[.int .u64 (reckI o (x 0) (x 1) (if o = 24 then x 2 else 0)).1, .int .i64 (reckI o (x 0) (x 1) (if o = 24 then x 2 else 0)).2]) ∧ Hid (Below w.heap.size w w') := by
 have hl := h.l
 by_cases q24 : o = 24
 ·subst q24
  rw [if_pos rfl] at hn
  subst hn
  rw [if_pos rfl]
  have HS := hide (shareR (hx 0 (by decide)).1 (hx 0 (by decide)).2 (hx 1 (by decide)).1 (hx 1 (by decide)).2 (hx 2 (by decide)).1 (hx 2 (by decide)).2)
  have v0 := h.v 0 (by decide)
  have v1 := h.v 1 (by decide)
  have v2 := h.v 2 (by decide)
  obtain ⟨r1, hr1⟩ : ∃ r, (reckI 24 (x 0) (x 1) (x 2)).1 = r := ⟨_, rfl⟩
  obtain ⟨r2, hr2⟩ : ∃ r, (reckI 24 (x 0) (x 1) (x 2)).2 = r := ⟨_, rfl⟩
  rw [hr1, hr2] at HS ⊢
  clear h hx hr1 hr2 h17 h24
  generalize x 0 = a at *
  generalize x 1 = b at *
  generalize x 2 = cc at *
  go_enter Tryd.func55, Tryd.ntmps55
  go_upto_region 7 with fail
  go_quiet (first | (go_at_call 75; exact Calls.quiet_of_same (HS.out _)))
  go_wp2
  refine bodyPost_ret (v := .tuple #[.int .u64 r1, .int .i64 r2]) ?_ rfl ?_
  ·simp [results, Tryd.results55, go_sem]
  ·exact ⟨rfl, Go.below_drewN (Below.refl _ _) _⟩
 ·rw [if_neg q24] at hn
  subst hn
  rw [if_neg q24]
  have x0 := hx 0 (by decide)
  have x1 := hx 1 (by decide)
  have v0 := h.v 0 (by decide)
  have v1 := h.v 1 (by decide)
  by_cases q21 : o ≤ 21
  ·have q : o = 17 ∨ o = 18 ∨ o = 19 ∨ o = 20 ∨ o = 21 := by omega
   rcases q with rfl | rfl | rfl | rfl | rfl
   ·have HS : Hid (∀ w, Calls Tryd.prog 76 #[.int .i64 8, .int .u64 (x 0), .int .u64 (x 1)] w fun e w' => e = .returned (.tuple #[.int .u64 (reckI 17 (x 0) (x 1) 0).1, .int .i64 (reckI 17 (x 0) (x 1) 0).2]) ∧ w' = w) := fun w => arithR (o := 17) (by decide) (by decide) x0.1 x0.2 x1.1 x1.2 w
    obtain ⟨r1, hr1⟩ : ∃ r, (reckI 17 (x 0) (x 1) 0).1 = r := ⟨_, rfl⟩
    obtain ⟨r2, hr2⟩ : ∃ r, (reckI 17 (x 0) (x 1) 0).2 = r := ⟨_, rfl⟩
    rw [hr1, hr2] at HS ⊢
    clear h hx hr1 hr2 x0 x1 h17 h24 q24 q21
    generalize x 0 = a at *
    generalize x 1 = b at *
    go_enter Tryd.func55, Tryd.ntmps55
    go_upto_region 8 with fail
    go_quiet (first | (go_at_call 76; exact Calls.quiet_of_same (HS.out _)))
    go_wp2
    refine bodyPost_ret (v := .tuple #[.int .u64 r1, .int .i64 r2]) ?_ rfl ?_
    ·simp [results, Tryd.results55, go_sem]
    ·exact ⟨rfl, Go.below_drewN (Below.refl _ _) _⟩
   ·have HS : Hid (∀ w, Calls Tryd.prog 76 #[.int .i64 9, .int .u64 (x 0), .int .u64 (x 1)] w fun e w' => e = .returned (.tuple #[.int .u64 (reckI 18 (x 0) (x 1) 0).1, .int .i64 (reckI 18 (x 0) (x 1) 0).2]) ∧ w' = w) := fun w => arithR (o := 18) (by decide) (by decide) x0.1 x0.2 x1.1 x1.2 w
    obtain ⟨r1, hr1⟩ : ∃ r, (reckI 18 (x 0) (x 1) 0).1 = r := ⟨_, rfl⟩
    obtain ⟨r2, hr2⟩ : ∃ r, (reckI 18 (x 0) (x 1) 0).2 = r := ⟨_, rfl⟩
    rw [hr1, hr2] at HS ⊢
    clear h hx hr1 hr2 x0 x1 h17 h24 q24 q21
    generalize x 0 = a at *
    generalize x 1 = b at *
    go_enter Tryd.func55, Tryd.ntmps55
    go_upto_region 8 with fail
    go_quiet (first | (go_at_call 76; exact Calls.quiet_of_same (HS.out _)))
    go_wp2
    refine bodyPost_ret (v := .tuple #[.int .u64 r1, .int .i64 r2]) ?_ rfl ?_
    ·simp [results, Tryd.results55, go_sem]
    ·exact ⟨rfl, Go.below_drewN (Below.refl _ _) _⟩
   ·have HS : Hid (∀ w, Calls Tryd.prog 76 #[.int .i64 10, .int .u64 (x 0), .int .u64 (x 1)] w fun e w' => e = .returned (.tuple #[.int .u64 (reckI 19 (x 0) (x 1) 0).1, .int .i64 (reckI 19 (x 0) (x 1) 0).2]) ∧ w' = w) := fun w => arithR (o := 19) (by decide) (by decide) x0.1 x0.2 x1.1 x1.2 w
    obtain ⟨r1, hr1⟩ : ∃ r, (reckI 19 (x 0) (x 1) 0).1 = r := ⟨_, rfl⟩
    obtain ⟨r2, hr2⟩ : ∃ r, (reckI 19 (x 0) (x 1) 0).2 = r := ⟨_, rfl⟩
    rw [hr1, hr2] at HS ⊢
    clear h hx hr1 hr2 x0 x1 h17 h24 q24 q21
    generalize x 0 = a at *
    generalize x 1 = b at *
    go_enter Tryd.func55, Tryd.ntmps55
    go_upto_region 8 with fail
    go_quiet (first | (go_at_call 76; exact Calls.quiet_of_same (HS.out _)))
    go_wp2
    refine bodyPost_ret (v := .tuple #[.int .u64 r1, .int .i64 r2]) ?_ rfl ?_
    ·simp [results, Tryd.results55, go_sem]
    ·exact ⟨rfl, Go.below_drewN (Below.refl _ _) _⟩
   ·have HS : Hid (∀ w, Calls Tryd.prog 76 #[.int .i64 11, .int .u64 (x 0), .int .u64 (x 1)] w fun e w' => e = .returned (.tuple #[.int .u64 (reckI 20 (x 0) (x 1) 0).1, .int .i64 (reckI 20 (x 0) (x 1) 0).2]) ∧ w' = w) := fun w => arithR (o := 20) (by decide) (by decide) x0.1 x0.2 x1.1 x1.2 w
    obtain ⟨r1, hr1⟩ : ∃ r, (reckI 20 (x 0) (x 1) 0).1 = r := ⟨_, rfl⟩
    obtain ⟨r2, hr2⟩ : ∃ r, (reckI 20 (x 0) (x 1) 0).2 = r := ⟨_, rfl⟩
    rw [hr1, hr2] at HS ⊢
    clear h hx hr1 hr2 x0 x1 h17 h24 q24 q21
    generalize x 0 = a at *
    generalize x 1 = b at *
    go_enter Tryd.func55, Tryd.ntmps55
    go_upto_region 8 with fail
    go_quiet (first | (go_at_call 76; exact Calls.quiet_of_same (HS.out _)))
    go_wp2
    refine bodyPost_ret (v := .tuple #[.int .u64 r1, .int .i64 r2]) ?_ rfl ?_
    ·simp [results, Tryd.results55, go_sem]
    ·exact ⟨rfl, Go.below_drewN (Below.refl _ _) _⟩
   ·have HS : Hid (∀ w, Calls Tryd.prog 76 #[.int .i64 12, .int .u64 (x 0), .int .u64 (x 1)] w fun e w' => e = .returned (.tuple #[.int .u64 (reckI 21 (x 0) (x 1) 0).1, .int .i64 (reckI 21 (x 0) (x 1) 0).2]) ∧ w' = w) := fun w => arithR (o := 21) (by decide) (by decide) x0.1 x0.2 x1.1 x1.2 w
    obtain ⟨r1, hr1⟩ : ∃ r, (reckI 21 (x 0) (x 1) 0).1 = r := ⟨_, rfl⟩
    obtain ⟨r2, hr2⟩ : ∃ r, (reckI 21 (x 0) (x 1) 0).2 = r := ⟨_, rfl⟩
    rw [hr1, hr2] at HS ⊢
    clear h hx hr1 hr2 x0 x1 h17 h24 q24 q21
    generalize x 0 = a at *
    generalize x 1 = b at *
    go_enter Tryd.func55, Tryd.ntmps55
    go_upto_region 8 with fail
    go_quiet (first | (go_at_call 76; exact Calls.quiet_of_same (HS.out _)))
    go_wp2
    refine bodyPost_ret (v := .tuple #[.int .u64 r1, .int .i64 r2]) ?_ rfl ?_
    ·simp [results, Tryd.results55, go_sem]
    ·exact ⟨rfl, Go.below_drewN (Below.refl _ _) _⟩
  ·have q : o = 22 ∨ o = 23 := by omega
   rcases q with rfl | rfl
   ·have HR : reckI 22 (x 0) (x 1) 0 = (min (x 0) (x 1), 0) := by
     show ((if x 1 < x 0 then x 1 else x 0), (0 : Int)) = _
     rw [show (if x 1 < x 0 then x 1 else x 0) = min (x 0) (x 1) by split <;> omega]
    rw [HR]
    obtain ⟨m, hm⟩ : ∃ m, min (x 0) (x 1) = m := ⟨_, rfl⟩
    rw [hm]
    clear h hx HR x0 x1 h17 h24 q24 q21
    generalize x 0 = a at *
    generalize x 1 = b at *
    go_enter Tryd.func55, Tryd.ntmps55
    go_upto_region 3 with fail
    go_quiet (fail)
    go_wp2
    refine bodyPost_ret (v := .tuple #[.int .u64 m, .int .i64 0]) ?_ rfl ?_
    ·simp [results, Tryd.results55, go_sem]
    ·exact ⟨rfl, Go.below_drewN (Below.refl _ _) _⟩
   ·have HR : reckI 23 (x 0) (x 1) 0 = (max (x 0) (x 1), 0) := by
     show ((if x 0 < x 1 then x 1 else x 0), (0 : Int)) = _
     rw [show (if x 0 < x 1 then x 1 else x 0) = max (x 0) (x 1) by split <;> omega]
    rw [HR]
    obtain ⟨m, hm⟩ : ∃ m, max (x 0) (x 1) = m := ⟨_, rfl⟩
    rw [hm]
    clear h hx HR x0 x1 h17 h24 q24 q21
    generalize x 0 = a at *
    generalize x 1 = b at *
    go_enter Tryd.func55, Tryd.ntmps55
    go_upto_region 5 with fail
    go_quiet (fail)
    go_wp2
    refine bodyPost_ret (v := .tuple #[.int .u64 m, .int .i64 0]) ?_ rfl ?_
    ·simp [results, Tryd.results55, go_sem]
    ·exact ⟨rfl, Go.below_drewN (Below.refl _ _) _⟩
end Go.Proofs.YtmoklddfaocihaaDoor
namespace Go.Proofs.YtmoklddfaocihaaDoor
open Go.RowKit

section
variable {c : Rc} {vS : Value} {s : Ms} {w : World}
theorem rcs_paid {g : Pg} {p : Pv} {e : En} {vS vQ : Value} {s : Ms} {m : Nat} (hm : m < 3) : (rcs g p e vS vQ s)[22 + m]? = some (.int .u64 (s.paid m)) := by
 have q : m = 0 ∨ m = 1 ∨ m = 2 := by omega
 rcases q with rfl | rfl | rfl <;> rfl
theorem rcs_setp {g : Pg} {p : Pv} {e : En} {vS vQ : Value} {s : Ms} {m : Nat} (hm : m < 3) (x : Int) : rcs g p e vS vQ { s with paid := updI s.paid m x } = (rcs g p e vS vQ s).set (22 + m) (.int .u64 x) := by
 have q : m = 0 ∨ m = 1 ∨ m = 2 := by omega
 rcases q with rfl | rfl | rfl <;> rfl
set_option maxRecDepth 10000 in
set_option maxHeartbeats 3200000 in
theorem payR (h : Rx c vS s w) {a b : Int} (ha : 0 ≤ a) (hb : 0 ≤ b) (hb2 : b < two64) (p0 : 0 ≤ s.paid 0) (p1 : 0 ≤ s.paid 1) (p2 : 0 ≤ s.paid 2) (ps : s.paid 0 + s.paid 1 + s.paid 2 ≤ c.e.x2) (hh : c.e.x2 < two64) : Calls Tryd.prog 77 #[.pointer (some ⟨c.rb, 0, none⟩), .int .u64 a, .int .u64 b] w fun e w' => e = .returned (.tuple #[]) ∧ Hid (Rx c vS (s.payX c.e.x2 a b) w' ∧ Bk c.rb w w') := by
 unfold two64 at *
 have HOV : Hid (∀ e0 w1, Rx c vS s w1 → Calls Tryd.prog 39 #[.pointer (some ⟨c.rb, 0, none⟩), .int .i64 e0] w1 fun e w' => e = .returned (.tuple #[]) ∧ Hid (Rx c vS (s.stop e0) w' ∧ Bk c.rb w1 w')) := fun e0 w1 h1 => overR h1 e0
 have HH := hide h
 by_cases qb : b < 1 ∨ 3 < b
 ·have HE : s.payX c.e.x2 a b = s.stop 6 := by unfold Ms.payX; rw [if_pos qb]
  rw [HE]
  have HZ := hide (HOV.out 6 w h)
  clear h HE p0 p1 p2 ps hh
  by_cases q1 : b < 1
  ·have e1 : decide (b < 1) = true := decide_eq_true q1
   generalize c.rb = rb at *
   go_enter Tryd.func77, Tryd.ntmps77
   go_wp2_with fail
   refine HZ.out.mono ?_
   rintro e w1 ⟨rfl, G⟩
   go_wp2
   refine bodyPost_ret (v := .tuple #[]) (by simp [results, Tryd.results77, go_sem]) rfl ?_
   exact ⟨rfl, G⟩
  ·have e1 : decide (b < 1) = false := decide_eq_false q1
   have e2 : decide (3 < b) = true := decide_eq_true (by omega)
   generalize c.rb = rb at *
   go_enter Tryd.func77, Tryd.ntmps77
   go_wp2_with fail
   refine HZ.out.mono ?_
   rintro e w1 ⟨rfl, G⟩
   go_wp2
   refine bodyPost_ret (v := .tuple #[]) (by simp [results, Tryd.results77, go_sem]) rfl ?_
   exact ⟨rfl, G⟩
 ·have e1 : decide (b < 1) = false := decide_eq_false (by omega)
  have e2 : decide (3 < b) = false := decide_eq_false (by omega)
  have hl := h.lt
  have ch : w.cell? ⟨c.rb, 12, none⟩ = some (.int .u64 c.e.x2) := (h.cell 12).trans rfl
  have c0 : w.cell? ⟨c.rb, 22, none⟩ = some (.int .u64 (s.paid 0)) := (h.cell 22).trans rfl
  have c1 : w.cell? ⟨c.rb, 23, none⟩ = some (.int .u64 (s.paid 1)) := (h.cell 23).trans rfl
  have c2 : w.cell? ⟨c.rb, 24, none⟩ = some (.int .u64 (s.paid 2)) := (h.cell 24).trans rfl
  obtain ⟨m, hm⟩ : ∃ m : Nat, b - 1 = m := ⟨(b - 1).toNat, by omega⟩
  have hm3 : m < 3 := by omega
  obtain ⟨x, hx⟩ : ∃ x, s.paid m = x := ⟨_, rfl⟩
  obtain ⟨hd, hhd⟩ : ∃ x, c.e.x2 = x := ⟨_, rfl⟩
  have HE : s.payX c.e.x2 a b = if hd - s.paid 0 - s.paid 1 - s.paid 2 < a then s.stop 5 else { s with paid := updI s.paid m (x + a) } := by
   unfold Ms.payX
   have : (b - 1).toNat = m := by omega
   rw [if_neg qb, hhd, this, hx]
  rw [HE]
  obtain ⟨sE, hsE⟩ : ∃ sE, (if hd - s.paid 0 - s.paid 1 - s.paid 2 < a then s.stop 5 else { s with paid := updI s.paid m (x + a) }) = sE := ⟨_, rfl⟩
  rw [hsE]
  have HSE := hide hsE
  clear hsE
  rw [hhd] at ch ps hh
  have HX : Hid (x ≤ hd - a ∨ hd - s.paid 0 - s.paid 1 - s.paid 2 < a) := by
   have q : m = 0 ∨ m = 1 ∨ m = 2 := by omega
   show _ ∨ _
   rcases q with rfl | rfl | rfl <;> omega
  have HC : Hid (w.cell? ⟨c.rb, 22 + m, none⟩ = some (.int .u64 x) ∧ c.rb < w.heap.size ∧ w.frozen? ⟨c.rb, 22 + m, none⟩ = false) := ⟨by rw [← hx]; exact (h.cell (22 + m)).trans (rcs_paid hm3), hl, h.free _⟩
  have HST : Hid (∀ w1, Rx c vS s w1 → Rx c vS { s with paid := updI s.paid m (x + a) } (w1.setCell ⟨c.rb, 22 + m, none⟩ (.int .u64 (x + a))) ∧ Bk c.rb w1 (w1.setCell ⟨c.rb, 22 + m, none⟩ (.int .u64 (x + a)))) := fun w1 h1 => h1.set (s' := { s with paid := updI s.paid m (x + a) }) (i := 22 + m) (v := .int .u64 (x + a)) (rcs_setp hm3 (x + a)) rfl rfl rfl rfl
  have hx0 : 0 ≤ x := by
   have q : m = 0 ∨ m = 1 ∨ m = 2 := by omega
   rcases q with rfl | rfl | rfl <;> omega
  clear h HE hx hhd
  generalize s.paid 0 = y0 at *
  generalize s.paid 1 = y1 at *
  generalize s.paid 2 = y2 at *
  have w0 : IntKind.u64.wrap (hd - y0) = hd - y0 := wr64 (by omega) (by omega)
  have w1 : IntKind.u64.wrap (hd - y0 - y1) = hd - y0 - y1 := wr64 (by omega) (by omega)
  have w2 : IntKind.u64.wrap (hd - y0 - y1 - y2) = hd - y0 - y1 - y2 := wr64 (by omega) (by omega)
  have wm : IntKind.u64.wrap (b - 1) = (m : Nat) := by rw [hm]; exact wr64 (by omega) (by omega)
  generalize c.rb = rb at *
  go_enter Tryd.func77, Tryd.ntmps77
  go_upto_block 0 with fail
  go_cut [6, 7] from 21 (fun v _ V => v = .int .u64 (hd - y0 - y1 - y2) ∧ V = w)
  case first =>
   go_wp2
   go_loopw [6, 7] (fun v i wr => ((i = .int .i64 0 ∧ v = .int .u64 hd) ∨ (i = .int .i64 1 ∧ v = .int .u64 (hd - y0)) ∨ (i = .int .i64 2 ∧ v = .int .u64 (hd - y0 - y1)) ∨ (i = .int .i64 3 ∧ v = .int .u64 (hd - y0 - y1 - y2))) ∧ wr = w) (fun _ i _ => 3 - (intOf i).toNat)
   case atStart => exact ⟨.inl ⟨rfl, rfl⟩, rfl⟩
   case round =>
    obtain ⟨hq, hwr⟩ := hrel
    subst hwr
    rcases hq with ⟨rfl, rfl⟩ | ⟨rfl, rfl⟩ | ⟨rfl, rfl⟩ | ⟨rfl, rfl⟩
    ·go_wp2
     exact ⟨⟨.inr (.inl ⟨rfl, rfl⟩), trivial⟩, by simp [intOf]⟩
    ·go_wp2
     exact ⟨⟨.inr (.inr (.inl ⟨rfl, rfl⟩)), trivial⟩, by simp [intOf]⟩
    ·go_wp2
     exact ⟨⟨.inr (.inr (.inr ⟨rfl, rfl⟩)), trivial⟩, by simp [intOf]⟩
    ·go_wp2
     go_meet
     case rel => exact ⟨rfl, rfl⟩
  case rest =>
  obtain ⟨rfl, rfl⟩ := hcut
  obtain ⟨Z, hZ⟩ : ∃ Z, hd - y0 - y1 - y2 = Z := ⟨_, rfl⟩
  simp only [hZ] at HX HSE ⊢
  by_cases qz : Z < a
  ·have ez : decide (Z < a) = true := decide_eq_true qz
   rw [if_pos qz] at HSE
   have HZ := hide (HOV.out 5 wc HH.out)
   clear c0 c1 c2 ch hl w0 w1 w2 wm
   go_wp2_with fail
   refine HZ.out.mono ?_
   rintro e w1 ⟨rfl, G⟩
   go_wp2
   refine bodyPost_ret (v := .tuple #[]) (by simp [results, Tryd.results77, go_sem]) rfl ?_
   exact ⟨rfl, by rw [← HSE.out]; exact G⟩
  ·have ez : decide (Z < a) = false := decide_eq_false qz
   rw [if_neg qz] at HSE
   have hxa : x + a < 18446744073709551616 := by have := HX.out; omega
   have wx0 : IntKind.u64.wrap (x + a) = x + a := wr64 (by omega) hxa
   obtain ⟨X, hX⟩ : ∃ X, x + a = X := ⟨_, rfl⟩
   rw [hX] at HST HSE
   have wx : IntKind.u64.wrap (x + a) = X := wx0.trans hX
   clear wx0
   clear c0 c1 c2 ch hl w0 w1 w2 hX hxa
   go_upto_region 9 with fail
   obtain ⟨wz, hwz⟩ : ∃ wz, (wc).drew = wz := ⟨_, rfl⟩
   have HS9 : Hid ((fun (w : World) => w.cell? ⟨rb, 22 + m, none⟩ = some (.int .u64 x) ∧ rb < w.heap.size ∧ w.frozen? ⟨rb, 22 + m, none⟩ = false) wz) := by rw [← hwz]; exact ⟨HC.out.1, HC.out.2.1, HC.out.2.2⟩
   refine wp_region_L 17 (fun (w : World) => w.cell? ⟨rb, 22 + m, none⟩ = some (.int .u64 x) ∧ rb < w.heap.size ∧ w.frozen? ⟨rb, 22 + m, none⟩ = false) (fun _ => True) (by kernel_rfl) (by rw [hwz]; exact HS9.out) trivial (fun hS0 => ?_)
   rw [hwz] at hS0 ⊢
   refine wpAnyL_take (i := 0) (oi := ⟨some 39, .move (.tmp 0), 62, "run.go:137", #[], none⟩) (v := .pointer (some ⟨rb, 0, none⟩)) rfl (by decide) (by kernel_rfl) (by kernel_rfl) (by kernel_rfl) (fun _ _ _ h => h) (Or.inl ⟨by rfl, fun w2 hSw => ?_⟩) hS0 (fun hS1 => ?_)
   ·go_simp
   simp only [Act.put, lsA, lsB, lsC]
   clear hS0
   refine wpAnyL_take (i := 1) (oi := ⟨some 40, .move (.tmp 2), 42, "run.go:137", #[], none⟩) (v := .int .u64 b) rfl (by decide) (by kernel_rfl) (by kernel_rfl) (by kernel_rfl) (fun _ _ _ h => h) (Or.inl ⟨by rfl, fun w2 hSw => ?_⟩) hS1 (fun hS2 => ?_)
   ·go_simp
   simp only [Act.put, lsA, lsB, lsC]
   clear hS1
   refine wpAnyL_take (i := 2) (oi := ⟨some 41, .binOp .sub 42 (.tmp 40) (.const (.int .u64 1)) 42, 42, "run.go:137", #[⟨1, .data⟩], none⟩) (v := .int .u64 (m : Nat)) rfl (by decide) (by kernel_rfl) (by kernel_rfl) (by kernel_rfl) (fun _ _ _ h => h) (Or.inl ⟨by rfl, fun w2 hSw => ?_⟩) hS2 (fun hS3 => ?_)
   ·go_simp
    exact wr64 (by omega) (by omega)
   simp only [Act.put, lsA, lsB, lsC]
   clear hS2
   refine wpAnyL_take (i := 3) (oi := ⟨some 42, .move (.tmp 0), 62, "run.go:137", #[], none⟩) (v := .pointer (some ⟨rb, 0, none⟩)) rfl (by decide) (by kernel_rfl) (by kernel_rfl) (by kernel_rfl) (fun _ _ _ h => h) (Or.inl ⟨by rfl, fun w2 hSw => ?_⟩) hS3 (fun hS4 => ?_)
   ·go_simp
   simp only [Act.put, lsA, lsB, lsC]
   clear hS3
   refine wpAnyL_take (i := 4) (oi := ⟨some 43, .move (.tmp 2), 42, "run.go:137", #[], none⟩) (v := .int .u64 b) rfl (by decide) (by kernel_rfl) (by kernel_rfl) (by kernel_rfl) (fun _ _ _ h => h) (Or.inl ⟨by rfl, fun w2 hSw => ?_⟩) hS4 (fun hS5 => ?_)
   ·go_simp
   simp only [Act.put, lsA, lsB, lsC]
   clear hS4
   refine wpAnyL_take (i := 5) (oi := ⟨some 44, .binOp .sub 42 (.tmp 43) (.const (.int .u64 1)) 42, 42, "run.go:137", #[⟨4, .data⟩], none⟩) (v := .int .u64 (m : Nat)) rfl (by decide) (by kernel_rfl) (by kernel_rfl) (by kernel_rfl) (fun _ _ _ h => h) (Or.inl ⟨by rfl, fun w2 hSw => ?_⟩) hS5 (fun hS6 => ?_)
   ·go_simp
    exact wr64 (by omega) (by omega)
   simp only [Act.put, lsA, lsB, lsC]
   clear hS5
   refine wpAnyL_take (i := 6) (oi := ⟨some 45, .nilCheck (.tmp 42), 0, "run.go:137", #[⟨3, .data⟩], none⟩) (v := .pointer (some ⟨rb, 0, none⟩)) rfl (by decide) (by kernel_rfl) (by kernel_rfl) (by kernel_rfl) (fun _ _ _ h => h) (Or.inl ⟨by rfl, fun w2 hSw => ?_⟩) hS6 (fun hS7 => ?_)
   ·go_simp
   simp only [Act.put, lsA, lsB, lsC]
   clear hS6
   refine wpAnyL_take (i := 7) (oi := ⟨some 46, .fieldAddr 67 (.tmp 45) 3, 0, "run.go:137", #[⟨6, .data⟩], none⟩) (v := .pointer (some ⟨rb, 18, none⟩)) rfl (by decide) (by kernel_rfl) (by kernel_rfl) (by kernel_rfl) (fun _ _ _ h => h) (Or.inl ⟨by rfl, fun w2 hSw => ?_⟩) hS7 (fun hS8 => ?_)
   ·go_simp
   simp only [Act.put, lsA, lsB, lsC]
   clear hS7
   refine wpAnyL_take (i := 8) (oi := ⟨some 47, .fieldAddr 65 (.tmp 46) 4, 0, "run.go:137", #[⟨7, .data⟩], none⟩) (v := .pointer (some ⟨rb, 22, none⟩)) rfl (by decide) (by kernel_rfl) (by kernel_rfl) (by kernel_rfl) (fun _ _ _ h => h) (Or.inl ⟨by rfl, fun w2 hSw => ?_⟩) hS8 (fun hS9 => ?_)
   ·go_simp
   simp only [Act.put, lsA, lsB, lsC]
   clear hS8
   refine wpAnyL_take (i := 9) (oi := ⟨some 48, .indexAddr 46 (.tmp 47) (.tmp 44), 0, "run.go:137", #[⟨8, .data⟩, ⟨5, .data⟩], none⟩) (v := .pointer (some ⟨rb, 22 + m, none⟩)) rfl (by decide) (by kernel_rfl) (by kernel_rfl) (by kernel_rfl) (fun _ _ _ h => h) (Or.inl ⟨by rfl, fun w2 hSw => ?_⟩) hS9 (fun hS10 => ?_)
   ·go_simp
    all_goals (intro hx; omega)
   simp only [Act.put, lsA, lsB, lsC]
   clear hS9
   refine wpAnyL_take1 (i := 10) (oi := ⟨some 49, .load 42 (.tmp 48), 42, "run.go:137", #[⟨9, .data⟩], none⟩) (v := .int .u64 x) rfl (by decide) (by kernel_rfl) (by kernel_rfl) (by kernel_rfl) (fun _ _ _ h => h) (Or.inl ⟨by rfl, fun w2 hSw => ?_⟩) hS10 (by kernel_rfl) rfl (by kernel_rfl) (fun hS11 => ?_)
   ·obtain ⟨k1, kl, k2⟩ := hSw
    go_simp
   simp only [Act.put, lsA, lsB, lsC]
   clear hS10
   refine wpAnyL_take (i := 11) (oi := ⟨some 50, .move (.tmp 1), 42, "run.go:137", #[], none⟩) (v := .int .u64 a) rfl (by decide) (by kernel_rfl) (by kernel_rfl) (by kernel_rfl) (fun _ _ _ h => h) (Or.inl ⟨by rfl, fun w2 hSw => ?_⟩) hS11 (fun hS12 => ?_)
   ·go_simp
   simp only [Act.put, lsA, lsB, lsC]
   clear hS11
   refine wpAnyL_take (i := 12) (oi := ⟨some 51, .binOp .add 42 (.tmp 49) (.tmp 50) 42, 42, "run.go:137", #[⟨10, .data⟩, ⟨11, .data⟩], none⟩) (v := .int .u64 X) rfl (by decide) (by kernel_rfl) (by kernel_rfl) (by kernel_rfl) (fun _ _ _ h => h) (Or.inl ⟨by rfl, fun w2 hSw => ?_⟩) hS12 (fun hS13 => ?_)
   ·go_simp
   simp only [Act.put, lsA, lsB, lsC]
   clear hS12
   refine wpAnyL_take (i := 13) (oi := ⟨some 52, .nilCheck (.tmp 39), 0, "run.go:137", #[⟨0, .data⟩], none⟩) (v := .pointer (some ⟨rb, 0, none⟩)) rfl (by decide) (by kernel_rfl) (by kernel_rfl) (by kernel_rfl) (fun _ _ _ h => h) (Or.inl ⟨by rfl, fun w2 hSw => ?_⟩) hS13 (fun hS14 => ?_)
   ·go_simp
   simp only [Act.put, lsA, lsB, lsC]
   clear hS13
   refine wpAnyL_take (i := 14) (oi := ⟨some 53, .fieldAddr 67 (.tmp 52) 3, 0, "run.go:137", #[⟨13, .data⟩], none⟩) (v := .pointer (some ⟨rb, 18, none⟩)) rfl (by decide) (by kernel_rfl) (by kernel_rfl) (by kernel_rfl) (fun _ _ _ h => h) (Or.inl ⟨by rfl, fun w2 hSw => ?_⟩) hS14 (fun hS15 => ?_)
   ·go_simp
   simp only [Act.put, lsA, lsB, lsC]
   clear hS14
   refine wpAnyL_take (i := 15) (oi := ⟨some 54, .fieldAddr 65 (.tmp 53) 4, 0, "run.go:137", #[⟨14, .data⟩], none⟩) (v := .pointer (some ⟨rb, 22, none⟩)) rfl (by decide) (by kernel_rfl) (by kernel_rfl) (by kernel_rfl) (fun _ _ _ h => h) (Or.inl ⟨by rfl, fun w2 hSw => ?_⟩) hS15 (fun hS16 => ?_)
   ·go_simp
   simp only [Act.put, lsA, lsB, lsC]
   clear hS15
   refine wpAnyL_take (i := 16) (oi := ⟨some 55, .indexAddr 46 (.tmp 54) (.tmp 41), 0, "run.go:137", #[⟨15, .data⟩, ⟨2, .data⟩, ⟨0, .phase⟩, ⟨1, .phase⟩, ⟨2, .phase⟩, ⟨3, .phase⟩, ⟨4, .phase⟩, ⟨5, .phase⟩, ⟨6, .phase⟩, ⟨7, .phase⟩, ⟨8, .phase⟩, ⟨9, .phase⟩, ⟨10, .phase⟩, ⟨11, .phase⟩, ⟨12, .phase⟩], none⟩) (v := .pointer (some ⟨rb, 22 + m, none⟩)) rfl (by decide) (by kernel_rfl) (by kernel_rfl) (by kernel_rfl) (fun _ _ _ h => h) (Or.inl ⟨by rfl, fun w2 hSw => ?_⟩) hS16 (fun hS17 => ?_)
   ·go_simp
    all_goals (intro hx; omega)
   simp only [Act.put, lsA, lsB, lsC]
   clear hS16
   obtain ⟨k1, kl, k2⟩ := hS17.1 rfl
   clear hS17
   refine wpAnyL_one (i := 17) (o := ⟨none, .store 42 (.tmp 55) (.tmp 51), 0, "run.go:137", #[⟨16, .data⟩, ⟨12, .data⟩, ⟨0, .phase⟩, ⟨1, .phase⟩, ⟨2, .phase⟩, ⟨3, .phase⟩, ⟨4, .phase⟩, ⟨5, .phase⟩, ⟨6, .phase⟩, ⟨7, .phase⟩, ⟨8, .phase⟩, ⟨9, .phase⟩, ⟨10, .phase⟩, ⟨11, .phase⟩, ⟨12, .phase⟩], none⟩) (by kernel_rfl) rfl (fun K hK => ?_)
   go_simp
   go_wp2_with fail
   refine hK.out _ _ ⟨fun h => (by cases (show true = false from h)), trivial⟩ ?_
   clear hK K HS9
   refine wpAnyL_done (by kernel_rfl) ?_ _

   have H3 : Hid (Rx c vS { s with paid := updI s.paid m X } (wz.setCell ⟨rb, 22 + m, none⟩ (.int .u64 X)) ∧ Bk rb wc (wz.setCell ⟨rb, 22 + m, none⟩ (.int .u64 X))) := by
    have hz : Below wc.heap.size wc wz := by rw [← hwz]; exact (Below.refl _ _).drew
    have h1 := HST.out wz (HH.out.next hz)
    exact ⟨h1.1, (Bk.grew hz (Nat.le_of_lt HC.out.2.1)).trans h1.2⟩
   clear HST HC HX HOV HH
   go_wp2
   go_end0
   exact ⟨rfl, by rw [← HSE.out]; exact H3⟩
end
end Go.Proofs.YtmoklddfaocihaaDoor
namespace Go.Proofs.YtmoklddfaocihaaDoor
open Go.RowKit

section
variable {c : Rc} {vS : Value} {s : Ms} {w : World}
/-- What way does. -/
def Ms.way (s : Ms) (o : Nat) (hd a x0 x1 : Int) : Ms :=
 if o = 25 then s.go a else if o = 26 then (if x0 = 0 then s.go a else s) else if o = 29 then s.payX hd x0 x1 else if o = 30 then (if x0 = 0 then { s with fail := a }.stop 1 else s) else if o = 31 then { s with fail := a }.stop 1 else s.stop 0
theorem Rx.goR (h : Rx c vS s w) (a : Int) : Rx c vS (s.go a) (w.setCell ⟨c.rb, 18, none⟩ (.int .i64 a)) ∧ Bk c.rb w (w.setCell ⟨c.rb, 18, none⟩ (.int .i64 a)) := h.set (s' := s.go a) rfl rfl rfl rfl rfl
theorem Rx.failR (h : Rx c vS s w) (a : Int) : Rx c vS { s with fail := a } (w.setCell ⟨c.rb, 27, none⟩ (.int .i64 a)) ∧ Bk c.rb w (w.setCell ⟨c.rb, 27, none⟩ (.int .i64 a)) := h.set (s' := { s with fail := a }) rfl rfl rfl rfl rfl
set_option maxRecDepth 10000 in
set_option maxHeartbeats 3200000 in
theorem wayR (h : Rx c vS s w) {o : Nat} (ho : o = 25 ∨ o = 26 ∨ o = 29 ∨ o = 30 ∨ o = 31 ∨ o = 32) (a : Int) {n vb cap : Nat} {x : Nat → Int} {vV : Value} (hV : 0 < n → vV = .slice (some ⟨vb, 0, none⟩) n cap) (hn : n = if o = 26 ∨ o = 30 then 1 else if o = 29 then 2 else 0) (hk : 0 < n → Tk vb n x w) (hx : ∀ j, j < n → 0 ≤ x j ∧ x j < two64) (p0 : 0 ≤ s.paid 0) (p1 : 0 ≤ s.paid 1) (p2 : 0 ≤ s.paid 2) (ps : s.paid 0 + s.paid 1 + s.paid 2 ≤ c.e.x2) (hh : c.e.x2 < two64) : Calls Tryd.prog 56 #[.pointer (some ⟨c.rb, 0, none⟩), .int .i64 (o : Nat), .int .i64 a, vV] w fun e w' => e = .returned (.tuple #[]) ∧ Hid (Rx c vS (s.way o c.e.x2 a (x 0) (x 1)) w' ∧ Bk c.rb w w') := by
 have HH := hide h
 have hl := h.lt
 have c18 : w.cell? ⟨c.rb, 18, none⟩ = some (.int .i64 s.pc) := (h.cell 18).trans rfl
 have f18 := h.free 18
 have HGO := hide (h.goR a)
 have HOV : Hid (∀ e0, Calls Tryd.prog 39 #[.pointer (some ⟨c.rb, 0, none⟩), .int .i64 e0] w fun e w' => e = .returned (.tuple #[]) ∧ Hid (Rx c vS (s.stop e0) w' ∧ Bk c.rb w w')) := fun e0 => overR h e0
 have HFL : Hid (∀ w4, Rx c vS (s.stop 1) w4 → Bk c.rb w w4 → (w4.cell? ⟨c.rb, 27, none⟩ = some (.int .i64 s.fail) ∧ w4.frozen? ⟨c.rb, 27, none⟩ = false ∧ c.rb < w4.heap.size) ∧ Rx c vS ({ s with fail := a }.stop 1) (w4.setCell ⟨c.rb, 27, none⟩ (.int .i64 a)) ∧ Bk c.rb w (w4.setCell ⟨c.rb, 27, none⟩ (.int .i64 a))) := fun w4 h4 b4 => by
  have q := h4.failR a
  exact ⟨⟨(h4.cell 27).trans rfl, h4.free 27, h4.lt⟩, q.1, b4.trans q.2⟩
 rcases ho with rfl | rfl | rfl | rfl | rfl | rfl
 ·have HE : s.way 25 c.e.x2 a (x 0) (x 1) = s.go a := rfl
  rw [HE]
  obtain ⟨sE, hsE⟩ : ∃ sE, s.go a = sE := ⟨_, rfl⟩
  rw [hsE] at HGO ⊢
  clear h HE hsE hx ps p0 p1 p2 hh HOV HFL hV hk hn
  generalize c.rb = rb at *
  go_enter Tryd.func56, Tryd.ntmps56
  go_wp2
  go_end0
  exact ⟨rfl, HGO⟩
 ·obtain rfl : n = 1 := hn
  obtain rfl := hV (by decide)
  have v0 := (hk (by decide)).v 0 (by decide)
  have vl := (hk (by decide)).l
  by_cases q : x 0 = 0
  ·have HE : s.way 26 c.e.x2 a (x 0) (x 1) = s.go a := by
    show (if x 0 = 0 then s.go a else s) = _
    rw [if_pos q]
   rw [HE]
   rw [q] at v0
   clear h HE hx ps p0 p1 p2 hh HOV HFL hV hk
   generalize c.rb = rb at *
   go_enter Tryd.func56, Tryd.ntmps56
   go_wp2
   go_end0
   exact ⟨rfl, HGO⟩
  ·have HE : s.way 26 c.e.x2 a (x 0) (x 1) = s := by
    show (if x 0 = 0 then s.go a else s) = _
    rw [if_neg q]
   rw [HE]
   have eq0 : (x 0 == 0) = false := by simpa using q
   have HD : Hid (Rx c vS s w ∧ Bk c.rb w w) := ⟨h, Bk.refl _ _⟩
   clear h HE hx ps p0 p1 p2 hh HOV HFL hV hk HGO
   generalize x 0 = y at *
   generalize c.rb = rb at *
   go_enter Tryd.func56, Tryd.ntmps56
   go_wp2
   go_end0
   exact ⟨rfl, HD⟩
 ·obtain rfl : n = 2 := hn
  obtain rfl := hV (by decide)
  have v0 := (hk (by decide)).v 0 (by decide)
  have v1 := (hk (by decide)).v 1 (by decide)
  have vl := (hk (by decide)).l
  have HE : s.way 29 c.e.x2 a (x 0) (x 1) = s.payX c.e.x2 (x 0) (x 1) := rfl
  rw [HE]
  obtain ⟨sE, hsE⟩ : ∃ sE, s.payX c.e.x2 (x 0) (x 1) = sE := ⟨_, rfl⟩
  rw [hsE]
  have HPY : Hid (∀ w1, Below w.heap.size w w1 → Calls Tryd.prog 77 #[.pointer (some ⟨c.rb, 0, none⟩), .int .u64 (x 0), .int .u64 (x 1)] w1 fun e w' => e = .returned (.tuple #[]) ∧ Hid (Rx c vS sE w' ∧ Bk c.rb w w' ∧ True)) := fun w1 hb => by
   have q0 := hx 0 (by decide)
   have q1 := hx 1 (by decide)
   refine (payR (h.next hb) q0.1 q1.1 q1.2 p0 p1 p2 ps hh).mono ?_
   rintro e w' ⟨rfl, G⟩
   rw [hsE] at G
   exact ⟨rfl, G.out.1, (Bk.grew hb (Nat.le_of_lt hl)).trans G.out.2, trivial⟩
  clear h HE hsE hx ps p0 p1 p2 hh HOV HFL hV hk HGO c18 f18
  generalize x 0 = x0 at *
  generalize x 1 = x1 at *
  generalize c.rb = rb at *
  go_enter Tryd.func56, Tryd.ntmps56
  go_upto_region 7 with fail
  obtain ⟨wz, hwz⟩ : ∃ wz, (w).drew = wz := ⟨_, rfl⟩
  have HS9 : Hid ((fun (w : World) => w.cell? ⟨vb, 0, none⟩ = some (.int .u64 x0) ∧ w.cell? ⟨vb, 1, none⟩ = some (.int .u64 x1) ∧ vb < w.heap.size) wz) := by rw [← hwz]; exact ⟨v0, v1, vl⟩
  refine wp_region_L 7 (fun (w : World) => w.cell? ⟨vb, 0, none⟩ = some (.int .u64 x0) ∧ w.cell? ⟨vb, 1, none⟩ = some (.int .u64 x1) ∧ vb < w.heap.size) (fun _ => True) (by kernel_rfl) (by rw [hwz]; exact HS9.out) trivial (fun hS0 => ?_)
  rw [hwz] at hS0 ⊢
  refine wpAnyL_take (i := 0) (oi := ⟨some 29, .move (.tmp 0), 62, "run.go:203", #[], none⟩) (v := .pointer (some ⟨rb, 0, none⟩)) rfl (by decide) (by kernel_rfl) (by kernel_rfl) (by kernel_rfl) (fun _ _ _ h => h) (Or.inl ⟨by rfl, fun w2 hSw => ?_⟩) hS0 (fun hS1 => ?_)
  ·go_simp
  simp only [Act.put, lsA, lsB, lsC]
  clear hS0
  refine wpAnyL_take (i := 1) (oi := ⟨some 30, .move (.tmp 3), 22, "run.go:203", #[], none⟩) (v := .slice (some ⟨vb, 0, none⟩) 2 cap) rfl (by decide) (by kernel_rfl) (by kernel_rfl) (by kernel_rfl) (fun _ _ _ h => h) (Or.inl ⟨by rfl, fun w2 hSw => ?_⟩) hS1 (fun hS2 => ?_)
  ·go_simp
  simp only [Act.put, lsA, lsB, lsC]
  clear hS1
  refine wpAnyL_take (i := 2) (oi := ⟨some 31, .indexAddr 22 (.tmp 30) (.const (.int .i64 0)), 0, "run.go:203", #[⟨1, .data⟩], none⟩) (v := .pointer (some ⟨vb, 0, none⟩)) rfl (by decide) (by kernel_rfl) (by kernel_rfl) (by kernel_rfl) (fun _ _ _ h => h) (Or.inl ⟨by rfl, fun w2 hSw => ?_⟩) hS2 (fun hS3 => ?_)
  ·go_simp
  simp only [Act.put, lsA, lsB, lsC]
  clear hS2
  refine wpAnyL_take1 (i := 3) (oi := ⟨some 32, .load 42 (.tmp 31), 42, "run.go:203", #[⟨2, .data⟩], none⟩) (v := .int .u64 x0) rfl (by decide) (by kernel_rfl) (by kernel_rfl) (by kernel_rfl) (fun _ _ _ h => h) (Or.inl ⟨by rfl, fun w2 hSw => ?_⟩) hS3 (by kernel_rfl) rfl (by kernel_rfl) (fun hS4 => ?_)
  ·obtain ⟨k0, k1, kl⟩ := hSw
   go_simp
  simp only [Act.put, lsA, lsB, lsC]
  clear hS3
  refine wpAnyL_take (i := 4) (oi := ⟨some 33, .move (.tmp 3), 22, "run.go:203", #[], none⟩) (v := .slice (some ⟨vb, 0, none⟩) 2 cap) rfl (by decide) (by kernel_rfl) (by kernel_rfl) (by kernel_rfl) (fun _ _ _ h => h) (Or.inl ⟨by rfl, fun w2 hSw => ?_⟩) hS4 (fun hS5 => ?_)
  ·go_simp
  simp only [Act.put, lsA, lsB, lsC]
  clear hS4
  refine wpAnyL_take (i := 5) (oi := ⟨some 34, .indexAddr 22 (.tmp 33) (.const (.int .i64 1)), 0, "run.go:203", #[⟨4, .data⟩], none⟩) (v := .pointer (some ⟨vb, 1, none⟩)) rfl (by decide) (by kernel_rfl) (by kernel_rfl) (by kernel_rfl) (fun _ _ _ h => h) (Or.inl ⟨by rfl, fun w2 hSw => ?_⟩) hS5 (fun hS6 => ?_)
  ·go_simp
  simp only [Act.put, lsA, lsB, lsC]
  clear hS5
  refine wpAnyL_take1 (i := 6) (oi := ⟨some 35, .load 42 (.tmp 34), 42, "run.go:203", #[⟨5, .data⟩], none⟩) (v := .int .u64 x1) rfl (by decide) (by kernel_rfl) (by kernel_rfl) (by kernel_rfl) (fun _ _ _ h => h) (Or.inl ⟨by rfl, fun w2 hSw => ?_⟩) hS6 (by kernel_rfl) rfl (by kernel_rfl) (fun hS7 => ?_)
  ·obtain ⟨k0, k1, kl⟩ := hSw
   go_simp
  simp only [Act.put, lsA, lsB, lsC]
  clear hS6
  obtain ⟨k0, k1, kl⟩ := hS7.1 rfl
  clear hS7
  refine wpAnyL_one (i := 7) (o := ⟨some 36, .call { callee := Callee.value (.func 77), args := #[.tmp 29, .tmp 32, .tmp 35], argTypes := #[62, 42, 42] }, 0, "run.go:203", #[⟨0, .data⟩, ⟨3, .data⟩, ⟨6, .data⟩], none⟩) (by kernel_rfl) rfl (fun K hK => ?_)
  go_simp
  go_wp2_with fail
  have B0 : Hid (Below w.heap.size w wz) := by rw [← hwz]; exact (Below.refl _ _).drew
  refine (HPY.out wz B0.out).mono ?_
  rintro e w4 ⟨rfl, G4⟩
  go_simp
  refine hK.out _ _ ⟨fun h => (by cases (show true = false from h)), trivial⟩ ?_
  clear hK K HS9
  refine wpAnyL_done (by kernel_rfl) ?_ _

  have HD : Hid (Rx c vS sE w4 ∧ Bk rb w w4) := ⟨G4.out.1, G4.out.2.1⟩
  clear HPY G4
  go_wp2
  go_end0
  exact ⟨rfl, HD⟩
 ·obtain rfl : n = 1 := hn
  obtain rfl := hV (by decide)
  have v0 := (hk (by decide)).v 0 (by decide)
  have vl := (hk (by decide)).l
  by_cases q : x 0 = 0
  ·have HE : s.way 30 c.e.x2 a (x 0) (x 1) = { s with fail := a }.stop 1 := by
    show (if x 0 = 0 then { s with fail := a }.stop 1 else s) = _
    rw [if_pos q]
   rw [HE]
   rw [q] at v0
   obtain ⟨sE, hsE⟩ : ∃ sE, ({ s with fail := a } : Ms).stop 1 = sE := ⟨_, rfl⟩
   rw [hsE] at HFL ⊢
   have HZ := hide (HOV.out 1)
   clear h HE hsE hx ps p0 p1 p2 hh hV hk HGO HOV
   generalize c.rb = rb at *
   go_enter Tryd.func56, Tryd.ntmps56
   go_wp2_with fail
   refine HZ.out.mono ?_
   rintro e w4 ⟨rfl, G4⟩
   obtain ⟨⟨g1, g2, g3⟩, g4⟩ := HFL.out w4 G4.out.1 G4.out.2
   have HD := hide g4
   clear g4 G4 HZ HFL v0 vl
   go_wp2
   go_end0
   exact ⟨rfl, HD⟩
  ·have HE : s.way 30 c.e.x2 a (x 0) (x 1) = s := by
    show (if x 0 = 0 then { s with fail := a }.stop 1 else s) = _
    rw [if_neg q]
   rw [HE]
   have eq0 : (x 0 == 0) = false := by simpa using q
   have HD : Hid (Rx c vS s w ∧ Bk c.rb w w) := ⟨h, Bk.refl _ _⟩
   clear h HE hx ps p0 p1 p2 hh HOV HFL hV hk HGO
   generalize x 0 = y at *
   generalize c.rb = rb at *
   go_enter Tryd.func56, Tryd.ntmps56
   go_wp2
   go_end0
   exact ⟨rfl, HD⟩
 ·have HE : s.way 31 c.e.x2 a (x 0) (x 1) = { s with fail := a }.stop 1 := rfl
  rw [HE]
  obtain ⟨sE, hsE⟩ : ∃ sE, ({ s with fail := a } : Ms).stop 1 = sE := ⟨_, rfl⟩
  rw [hsE] at HFL ⊢
  have HZ := hide (HOV.out 1)
  clear h HE hsE hx ps p0 p1 p2 hh hV hk hn HGO HOV
  generalize c.rb = rb at *
  go_enter Tryd.func56, Tryd.ntmps56
  go_wp2_with fail
  refine HZ.out.mono ?_
  rintro e w4 ⟨rfl, G4⟩
  obtain ⟨⟨g1, g2, g3⟩, g4⟩ := HFL.out w4 G4.out.1 G4.out.2
  have HD := hide g4
  clear g4 G4 HZ HFL
  go_wp2
  go_end0
  exact ⟨rfl, HD⟩
 ·have HE : s.way 32 c.e.x2 a (x 0) (x 1) = s.stop 0 := rfl
  rw [HE]
  have HZ := hide (HOV.out 0)
  clear h HE hx ps p0 p1 p2 hh hV hk hn HGO HOV HFL
  generalize c.rb = rb at *
  go_enter Tryd.func56, Tryd.ntmps56
  go_wp2_with fail
  refine HZ.out.mono ?_
  rintro e w4 ⟨rfl, G4⟩
  go_wp2
  go_end0
  exact ⟨rfl, G4⟩
end
end Go.Proofs.YtmoklddfaocihaaDoor
namespace Go.Proofs.YtmoklddfaocihaaDoor
open Go.RowKit

/-- A row that is cut shorter. -/
theorem own_cut {w : World} {B m cap sz : Nat} {t : TypeId} {ao : Option Addr} {h : Nat} {xs : List Value} (ho : w.ownsRow B t sz (.slice ao h cap) h xs) (hm : m ≤ h) : w.ownsRow B t sz (.slice ao m cap) m (xs.take (m * sz)) := by
 have hl : m * sz ≤ h * sz := Nat.mul_le_mul_right _ hm
 refine ⟨by rw [List.length_take, ho.1]; omega, ?_⟩
 rcases ho.2 with ⟨e, h0⟩ | ⟨g, cp, cur, e, hb, hc, hnc, hx, hsz, htk⟩
 ·cases e
  obtain rfl : m = 0 := by omega
  exact .inl ⟨rfl, rfl⟩
 ·cases e
  refine .inr ⟨g, cap, cur, rfl, hb, hc, by omega, hx, hsz, ?_⟩
  rw [← htk, List.take_take, Nat.min_eq_left hl]
section
variable {c : Rc} {vS : Value} {s : Ms} {w : World}
/-- The stack as it lies. -/
theorem Rx.stack (h : Rx c vS s w) : ∃ ao cap, vS = .slice ao s.h cap ∧ s.h ≤ cap ∧ (0 < s.h → ∃ sb, ao = some ⟨sb, 0, none⟩ ∧ c.Bs ≤ sb ∧ sb < w.heap.size ∧ ∀ j, j < s.h → w.cell? ⟨sb, j * 2 + 1, none⟩ = some (.int .u64 (s.sv j))) := by
 rcases h.stk.2 with ⟨e, h0⟩ | ⟨g, cap, cur, e, hb, hc, hnc, _, hsz, htk⟩
 ·exact ⟨none, 0, by rw [e, h0], by omega, fun q => by omega⟩
 ·refine ⟨_, cap, e, hnc, fun _ => ⟨g, rfl, hb, block_lt hc, fun j hj => ?_⟩⟩
  have h2 := vals2_v (k := s.sk) (v := s.sv) hj
  rw [← htk, List.getElem?_take, if_pos (by omega)] at h2
  rw [block_cell hc]
  simpa using h2
/-- The stack cut shorter. -/
theorem Rx.cutS {ao : Option Addr} {cap n : Nat} (h : Rx c (.slice ao s.h cap) s w) : Rx c (.slice ao (s.h - n) cap) (s.pop n) (w.setCell ⟨c.rb, 19, none⟩ (.slice ao (s.h - n) cap)) ∧ Bk c.rb w (w.setCell ⟨c.rb, 19, none⟩ (.slice ao (s.h - n) cap)) := by
 have ho := own_cut h.stk (m := s.h - n) (by omega)
 rw [vals2_take _ _ (by omega)] at ho
 exact h.restk (s' := s.pop n) (Below.refl _ _) (Kt.refl _) h.sz ho rfl
/-- A slot as it lies, and filled. -/
theorem Rx.slot (h : Rx c vS s w) {m : Nat} (hm : m < c.p.ns) : c.vQ = .slice (some ⟨c.qb, 0, none⟩) c.p.ns c.qc ∧ c.rb ≠ c.qb ∧ c.qb < w.heap.size ∧ w.cell? ⟨c.qb, m * 2, none⟩ = some (.int .i64 (c.p.S m)) ∧ w.cell? ⟨c.qb, m * 2 + 1, none⟩ = some (.int .u64 (s.slt m)) ∧ w.frozen? ⟨c.qb, m * 2 + 1, none⟩ = false ∧ ∀ x, Rx c vS { s with slt := updI s.slt m x } (w.setCell ⟨c.qb, m * 2 + 1, none⟩ (.int .u64 x)) ∧ Bk c.rb w (w.setCell ⟨c.qb, m * 2 + 1, none⟩ (.int .u64 x)) := by
 obtain ⟨q1, q2, q3, cq, q4, q5⟩ := h.slt (by omega)
 refine ⟨q1, by omega, block_lt q4, by rw [block_cell q4]; exact (q5 m hm).1, by rw [block_cell q4]; exact (q5 m hm).2, block_free q4 _, fun x => ?_⟩
 have gs := grown_setT w c.qb (m * 2 + 1) (.int .u64 x)
 have hb : Below c.rb w (w.setCell ⟨c.qb, m * 2 + 1, none⟩ (.int .u64 x)) := (Below.refl _ w).grown gs (Nat.le_of_lt h.lt) (fun q e => by cases e; omega)
 refine ⟨⟨(gs.block _ h.lt (by simp; omega)).trans h.blk, ?_, fun _ => ⟨q1, q2, q3, cq.setIfInBounds (m * 2 + 1) (.int .u64 x), ?_, fun j hj => ⟨?_, ?_⟩⟩, h.ok.kept hb (Nat.le_refl _), h.rq, Nat.le_trans h.sz gs.size⟩, ⟨hb, Kt.grown gs q4 (.inr rfl)⟩⟩
 ·refine World.ownsRow.kept h.stk gs ?_
  cases e : vS.ownBlock with
  | none => simp
  | some g => have := (h.stk.lt g e).1; simp; omega
 ·exact heap_setCell_same w c.qb _ _ _ _ q4
 ·rw [Array.getElem?_setIfInBounds_ne (by omega)]
  exact (q5 j hj).1
 ·show _ = some (Value.int .u64 (updI s.slt m x j))
  unfold updI
  by_cases e : j = m
  ·subst e
   rw [if_pos rfl]
   have := (Array.getElem?_eq_some_iff.1 (q5 j hj).2).1
   simp [this]
  ·rw [if_neg e, Array.getElem?_setIfInBounds_ne (by omega)]
   exact (q5 j hj).2
set_option maxRecDepth 10000 in
set_option maxHeartbeats 1600000 in
/-- A step of one that is over. -/
theorem stepO (h : Rx c vS s w) (hov : s.ov = true) : Calls Tryd.prog 22 #[.pointer (some ⟨c.rb, 0, none⟩)] w fun e w' => e = .returned (.bool false) ∧ w' = w := by
 have hl := h.lt
 have c0 : w.cell? ⟨c.rb, 0, none⟩ = some (.bool true) := (h.cell 0).trans rfl
 have c1 : w.cell? ⟨c.rb, 25, none⟩ = some (.bool true) := by rw [← hov]; exact (h.cell 25).trans rfl
 clear h
 generalize c.rb = rb at *
 go_enter Tryd.func22, Tryd.ntmps22
 go_wp2
 go_ret
 exact ⟨rfl, rfl⟩
set_option maxRecDepth 10000 in
set_option maxHeartbeats 1600000 in
/-- Ways that way does not know. -/
theorem wayN (rb : Nat) {o : Nat} (ho : o = 27 ∨ o = 28) (a : Int) (vV : Value) (w : World) : Calls Tryd.prog 56 #[.pointer (some ⟨rb, 0, none⟩), .int .i64 (o : Nat), .int .i64 a, vV] w fun e w' => e = .returned (.tuple #[]) ∧ w' = w := by
 rcases ho with rfl | rfl
 all_goals
  go_enter Tryd.func56, Tryd.ntmps56
  go_wp2
  go_end0
  exact ⟨rfl, rfl⟩
end
end Go.Proofs.YtmoklddfaocihaaDoor
namespace Go.Proofs.YtmoklddfaocihaaDoor
open Go.RowKit

set_option maxRecDepth 10000 in
set_option maxHeartbeats 3200000 in
theorem outcomeR {c : Rc} {vS : Value} {mb : Nat} {s : Ms} {w : World} (h : Rx c vS s w) (hrb : c.rb = mb) (hf0 : 0 ≤ s.fail) (hf1 : s.fail < two64) : Calls Tryd.prog 18 #[.pointer (some ⟨mb, 0, none⟩)] w fun e w' => e = .returned (.tuple #[.agg (outO s), .bool s.ov]) ∧ Hid (Below w.heap.size w w') := by
 obtain ⟨W1, hW1⟩ : ∃ W1, w.alloc (.cells #[.int .i64 0, .int .u64 0, .int .u64 0, .int .u64 0, .int .u64 0, .int .u64 0] 48) = W1 := ⟨_, rfl⟩
 have B1 : Below w.heap.size w W1 := by rw [← hW1]; exact below_alloc1 w _
 have A1 : W1.heap[w.heap.size]? = some (.cells #[.int .i64 0, .int .u64 0, .int .u64 0, .int .u64 0, .int .u64 0, .int .u64 0] 48 (0, 0)) := by rw [← hW1]; exact alloc_atK _ _
 have S1 : W1.heap.size = w.heap.size + 1 := by rw [← hW1]; simp
 have h1 := h.next B1
 have ml0 := h.lt
 rw [hrb] at ml0
 have HW1 := hide hW1
 cases hov : s.ov with
 | false =>
  have c1 : W1.cell? ⟨mb, 25, none⟩ = some (.bool false) := by rw [← hov, ← hrb]; exact (h1.cell 25).trans rfl
  have ml := h1.lt
  rw [hrb] at ml
  have d0 : W1.cell? ⟨mb, 0, none⟩ = some (.bool true) := by rw [← hrb]; exact (h1.cell 0).trans rfl
  have v0 := block_cell A1 0
  have v1 := block_cell A1 1
  have v2 := block_cell A1 2
  have v3 := block_cell A1 3
  have v4 := block_cell A1 4
  have v5 := block_cell A1 5
  have f0 := block_free A1 0
  have f1 := block_free A1 1
  have f2 := block_free A1 2
  have f3 := block_free A1 3
  have f4 := block_free A1 4
  have f5 := block_free A1 5
  have vl := block_lt A1
  simp at v0 v1 v2 v3 v4 v5
  have HA1 := hide A1
  have HB1 := hide B1
  have HO : Hid (outO s = #[.int .i64 0, .int .u64 0, .int .u64 0, .int .u64 0, .int .u64 0, .int .u64 0]) := by
   have : outO s = #[.int .i64 0, .int .u64 0, .int .u64 0, .int .u64 0, .int .u64 0, .int .u64 0] := by unfold outO; rw [hov]; rfl
   exact this
  rw [HO.out]
  clear h h1 hf0 hf1 hrb hW1 A1 B1 hov HO
  go_enter Tryd.func18, Tryd.ntmps18
  go_upto_region 1 with fail
  rw [HW1.out]
  clear HW1
  go_wp2
  generalize hwf : World.setCell _ _ _ = wf
  have HX : Hid (wf.heap[w.heap.size]? = some (.cells #[.int .i64 0, .int .u64 0, .int .u64 0, .int .u64 0, .int .u64 0, .int .u64 0] 48 (0, 0)) ∧ Below w.heap.size w wf) := by
   rw [← hwf]
   refine ⟨?_, ?_⟩
   ·simp [World.setCell, Array.getElem?_modify, HA1.out]
   ·refine HB1.out.grown (row := some w.heap.size) ?_ HB1.out.size (fun q e => by cases e; exact Nat.le_refl _)
    exact grown_tr (grown_tr (grown_tr (grown_tr (grown_tr (grown_setT _ _ _ _) (grown_setT _ _ _ _)) (grown_setT _ _ _ _)) (grown_setT _ _ _ _)) (grown_setT _ _ _ _)) (grown_setT _ _ _ _)
  have c0 := block_cell HX.out.1 0
  have c1 := block_cell HX.out.1 1
  have c2 := block_cell HX.out.1 2
  have c3 := block_cell HX.out.1 3
  have c4 := block_cell HX.out.1 4
  have c5 := block_cell HX.out.1 5
  simp at c0 c1 c2 c3 c4 c5
  refine bodyPost_ret (v := .tuple #[.agg #[.int .i64 0, .int .u64 0, .int .u64 0, .int .u64 0, .int .u64 0, .int .u64 0], .bool false]) (by simp [results, Tryd.results18, go_sem, c0, c1, c2, c3, c4, c5]) rfl ?_
  exact ⟨rfl, HX.out.2⟩
 | true =>
  obtain ⟨en, hen⟩ : ∃ en, s.en = en := ⟨_, rfl⟩
  obtain ⟨fl, hfl⟩ : ∃ fl, s.fail = fl := ⟨_, rfl⟩
  obtain ⟨lf, hlf⟩ : ∃ lf, s.left = lf := ⟨_, rfl⟩
  obtain ⟨p0, hp0⟩ : ∃ x, s.paid 0 = x := ⟨_, rfl⟩
  obtain ⟨p1, hp1⟩ : ∃ x, s.paid 1 = x := ⟨_, rfl⟩
  obtain ⟨p2, hp2⟩ : ∃ x, s.paid 2 = x := ⟨_, rfl⟩
  have HO : outO s = #[.int .i64 en, .int .u64 fl, .int .u64 (if en = 0 then p0 else 0), .int .u64 (if en = 0 then p1 else 0), .int .u64 (if en = 0 then p2 else 0), .int .u64 lf] := by
   unfold outO
   rw [hov]
   unfold outA
   rw [hen, hfl, hlf, hp0, hp1, hp2]
   rfl
  have HM : Hid (∀ w', Below W1.heap.size W1 w' → (w'.cell? ⟨mb, 26, none⟩ = some (.int .i64 en) ∧ w'.cell? ⟨mb, 27, none⟩ = some (.int .i64 fl) ∧ w'.cell? ⟨mb, 21, none⟩ = some (.int .u64 lf) ∧ mb < w'.heap.size) ∧ w'.cell? ⟨mb, 22, none⟩ = some (.int .u64 p0) ∧ w'.cell? ⟨mb, 23, none⟩ = some (.int .u64 p1) ∧ w'.cell? ⟨mb, 24, none⟩ = some (.int .u64 p2)) := fun w' hb => by
   have q := h1.next hb
   rw [← hrb, ← hen, ← hfl, ← hlf, ← hp0, ← hp1, ← hp2]
   exact ⟨⟨(q.cell 26).trans rfl, (q.cell 27).trans rfl, (q.cell 21).trans rfl, q.lt⟩, (q.cell 22).trans rfl, (q.cell 23).trans rfl, (q.cell 24).trans rfl⟩
  have HS : Hid (∀ w', Below W1.heap.size W1 w' → (fun (w : World) => w.cell? ⟨mb, 26, none⟩ = some (.int .i64 en) ∧ w.cell? ⟨mb, 27, none⟩ = some (.int .i64 fl) ∧ w.cell? ⟨mb, 21, none⟩ = some (.int .u64 lf) ∧ mb < w.heap.size) w') := fun w' hb => (HM.out w' hb).1
  have c1 : W1.cell? ⟨mb, 25, none⟩ = some (.bool true) := by rw [← hov, ← hrb]; exact (h1.cell 25).trans rfl
  have ml := h1.lt
  rw [hrb] at ml
  have d0 : W1.cell? ⟨mb, 0, none⟩ = some (.bool true) := by rw [← hrb]; exact (h1.cell 0).trans rfl
  have HA1 := hide A1
  have HB1 := hide B1
  have hmw : mb ≠ w.heap.size := by omega
  rw [HO]
  have ew : IntKind.u64.wrap fl = fl := by rw [← hfl]; exact wr64 hf0 (by unfold two64 at hf1; exact hf1)
  clear h h1 hf0 hf1 hrb hW1 A1 B1 hov HO hen hfl hlf hp0 hp1 hp2
  go_enter Tryd.func18, Tryd.ntmps18
  go_upto_region 1 with fail
  rw [HW1.out]
  clear HW1
  go_upto_region 3 with fail
  clear c1 ml d0
  obtain ⟨wz, hwz⟩ : ∃ wz, (W1).drew = wz := ⟨_, rfl⟩
  have HS9 : Hid ((fun (w : World) => w.cell? ⟨mb, 26, none⟩ = some (.int .i64 en) ∧ w.cell? ⟨mb, 27, none⟩ = some (.int .i64 fl) ∧ w.cell? ⟨mb, 21, none⟩ = some (.int .u64 lf) ∧ mb < w.heap.size) wz) := by rw [← hwz]; exact HS.out _ (Below.refl _ _).drew
  refine wp_region_L 99 (fun _ => True) (fun (w : World) => w.cell? ⟨mb, 26, none⟩ = some (.int .i64 en) ∧ w.cell? ⟨mb, 27, none⟩ = some (.int .i64 fl) ∧ w.cell? ⟨mb, 21, none⟩ = some (.int .u64 lf) ∧ mb < w.heap.size) (by kernel_rfl) trivial (by rw [hwz]; exact HS9.out) (fun hS0 => ?_)
  rw [hwz] at hS0 ⊢
  refine wpAnyL_take (i := 0) (oi := ⟨some 19, .move (.tmp 0), 62, "run.go:239", #[], none⟩) (v := .pointer (some ⟨mb, 0, none⟩)) rfl (by decide) (by kernel_rfl) (by kernel_rfl) (by kernel_rfl) (fun _ _ _ h => h) (Or.inl ⟨by rfl, fun w2 hSw => ?_⟩) hS0 (fun hS1 => ?_)
  ·go_simp
  simp only [Act.put, lsA, lsB, lsC]
  clear hS0
  refine wpAnyL_take (i := 1) (oi := ⟨some 20, .nilCheck (.tmp 19), 0, "run.go:239", #[⟨0, .data⟩], none⟩) (v := .pointer (some ⟨mb, 0, none⟩)) rfl (by decide) (by kernel_rfl) (by kernel_rfl) (by kernel_rfl) (fun _ _ _ h => h) (Or.inl ⟨by rfl, fun w2 hSw => ?_⟩) hS1 (fun hS2 => ?_)
  ·obtain ⟨k1, k2, k3, kl⟩ := hSw
   go_simp
  simp only [Act.put, lsA, lsB, lsC]
  clear hS1
  refine wpAnyL_take (i := 2) (oi := ⟨some 21, .fieldAddr 67 (.tmp 20) 4, 0, "run.go:239", #[⟨1, .data⟩], none⟩) (v := .pointer (some ⟨mb, 26, none⟩)) rfl (by decide) (by kernel_rfl) (by kernel_rfl) (by kernel_rfl) (fun _ _ _ h => h) (Or.inl ⟨by rfl, fun w2 hSw => ?_⟩) hS2 (fun hS3 => ?_)
  ·go_simp
  simp only [Act.put, lsA, lsB, lsC]
  clear hS2
  refine wpAnyL_take (i := 3) (oi := ⟨some 22, .load 3 (.tmp 21), 3, "run.go:239", #[⟨2, .data⟩], none⟩) (v := .int .i64 en) rfl (by decide) (by kernel_rfl) (by kernel_rfl) (by kernel_rfl) (fun _ _ _ h => h) (Or.inl ⟨by rfl, fun w2 hSw => ?_⟩) hS3 (fun hS4 => ?_)
  ·obtain ⟨k1, k2, k3, kl⟩ := hSw
   go_simp
  simp only [Act.put, lsA, lsB, lsC]
  clear hS3
  refine wpAnyL_take (i := 4) (oi := ⟨some 23, .move (.tmp 0), 62, "run.go:239", #[], none⟩) (v := .pointer (some ⟨mb, 0, none⟩)) rfl (by decide) (by kernel_rfl) (by kernel_rfl) (by kernel_rfl) (fun _ _ _ h => h) (Or.inl ⟨by rfl, fun w2 hSw => ?_⟩) hS4 (fun hS5 => ?_)
  ·go_simp
  simp only [Act.put, lsA, lsB, lsC]
  clear hS4
  refine wpAnyL_take (i := 5) (oi := ⟨some 24, .nilCheck (.tmp 23), 0, "run.go:239", #[⟨4, .data⟩], none⟩) (v := .pointer (some ⟨mb, 0, none⟩)) rfl (by decide) (by kernel_rfl) (by kernel_rfl) (by kernel_rfl) (fun _ _ _ h => h) (Or.inl ⟨by rfl, fun w2 hSw => ?_⟩) hS5 (fun hS6 => ?_)
  ·obtain ⟨k1, k2, k3, kl⟩ := hSw
   go_simp
  simp only [Act.put, lsA, lsB, lsC]
  clear hS5
  refine wpAnyL_take (i := 6) (oi := ⟨some 25, .fieldAddr 67 (.tmp 24) 5, 0, "run.go:239", #[⟨5, .data⟩], none⟩) (v := .pointer (some ⟨mb, 27, none⟩)) rfl (by decide) (by kernel_rfl) (by kernel_rfl) (by kernel_rfl) (fun _ _ _ h => h) (Or.inl ⟨by rfl, fun w2 hSw => ?_⟩) hS6 (fun hS7 => ?_)
  ·go_simp
  simp only [Act.put, lsA, lsB, lsC]
  clear hS6
  refine wpAnyL_take (i := 7) (oi := ⟨some 26, .load 3 (.tmp 25), 3, "run.go:239", #[⟨6, .data⟩], none⟩) (v := .int .i64 fl) rfl (by decide) (by kernel_rfl) (by kernel_rfl) (by kernel_rfl) (fun _ _ _ h => h) (Or.inl ⟨by rfl, fun w2 hSw => ?_⟩) hS7 (fun hS8 => ?_)
  ·obtain ⟨k1, k2, k3, kl⟩ := hSw
   go_simp
  simp only [Act.put, lsA, lsB, lsC]
  clear hS7
  refine wpAnyL_take (i := 8) (oi := ⟨some 27, .convert 3 42 (.tmp 26), 42, "run.go:239", #[⟨7, .data⟩], none⟩) (v := .int .u64 fl) rfl (by decide) (by kernel_rfl) (by kernel_rfl) (by kernel_rfl) (fun _ _ _ h => h) (Or.inl ⟨by rfl, fun w2 hSw => ?_⟩) hS8 (fun hS9 => ?_)
  ·go_simp
  simp only [Act.put, lsA, lsB, lsC]
  clear hS8
  refine wpAnyL_take (i := 9) (oi := ⟨some 28, .move (.tmp 0), 62, "run.go:239", #[], none⟩) (v := .pointer (some ⟨mb, 0, none⟩)) rfl (by decide) (by kernel_rfl) (by kernel_rfl) (by kernel_rfl) (fun _ _ _ h => h) (Or.inl ⟨by rfl, fun w2 hSw => ?_⟩) hS9 (fun hS10 => ?_)
  ·go_simp
  simp only [Act.put, lsA, lsB, lsC]
  clear hS9
  refine wpAnyL_take (i := 10) (oi := ⟨some 29, .nilCheck (.tmp 28), 0, "run.go:239", #[⟨9, .data⟩], none⟩) (v := .pointer (some ⟨mb, 0, none⟩)) rfl (by decide) (by kernel_rfl) (by kernel_rfl) (by kernel_rfl) (fun _ _ _ h => h) (Or.inl ⟨by rfl, fun w2 hSw => ?_⟩) hS10 (fun hS11 => ?_)
  ·obtain ⟨k1, k2, k3, kl⟩ := hSw
   go_simp
  simp only [Act.put, lsA, lsB, lsC]
  clear hS10
  refine wpAnyL_take (i := 11) (oi := ⟨some 30, .fieldAddr 67 (.tmp 29) 3, 0, "run.go:239", #[⟨10, .data⟩], none⟩) (v := .pointer (some ⟨mb, 18, none⟩)) rfl (by decide) (by kernel_rfl) (by kernel_rfl) (by kernel_rfl) (fun _ _ _ h => h) (Or.inl ⟨by rfl, fun w2 hSw => ?_⟩) hS11 (fun hS12 => ?_)
  ·go_simp
  simp only [Act.put, lsA, lsB, lsC]
  clear hS11
  refine wpAnyL_take (i := 12) (oi := ⟨some 31, .fieldAddr 65 (.tmp 30) 3, 0, "run.go:239", #[⟨11, .data⟩], none⟩) (v := .pointer (some ⟨mb, 21, none⟩)) rfl (by decide) (by kernel_rfl) (by kernel_rfl) (by kernel_rfl) (fun _ _ _ h => h) (Or.inl ⟨by rfl, fun w2 hSw => ?_⟩) hS12 (fun hS13 => ?_)
  ·go_simp
  simp only [Act.put, lsA, lsB, lsC]
  clear hS12
  refine wpAnyL_take (i := 13) (oi := ⟨some 32, .load 42 (.tmp 31), 42, "run.go:239", #[⟨12, .data⟩], none⟩) (v := .int .u64 lf) rfl (by decide) (by kernel_rfl) (by kernel_rfl) (by kernel_rfl) (fun _ _ _ h => h) (Or.inl ⟨by rfl, fun w2 hSw => ?_⟩) hS13 (fun hS14 => ?_)
  ·obtain ⟨k1, k2, k3, kl⟩ := hSw
   go_simp
  simp only [Act.put, lsA, lsB, lsC]
  clear hS13
  refine wpAnyL_take (i := 14) (oi := ⟨some 33, .build 48 #[(0, .tmp 22), (1, .tmp 27), (3, .tmp 32)], 48, "run.go:239", #[⟨3, .data⟩, ⟨8, .data⟩, ⟨13, .data⟩], none⟩) (v := .agg #[.int .i64 en, .int .u64 fl, .int .u64 0, .int .u64 0, .int .u64 0, .int .u64 lf]) rfl (by decide) (by kernel_rfl) (by kernel_rfl) (by kernel_rfl) (fun _ _ _ h => h) (Or.inl ⟨by rfl, fun w2 hSw => ?_⟩) hS14 (fun hS15 => ?_)
  ·go_simp
  simp only [Act.put, lsA, lsB, lsC]
  clear hS14
  clear hS15
  refine wpAnyL_one (i := 15) (o := ⟨some 4, .alloc 48, 0, "run.go:239", #[], none⟩) (by kernel_rfl) rfl (fun K hK => ?_)
  go_simp
  go_wp2_with fail
  have B0 : Hid (Below W1.heap.size W1 wz) := by rw [← hwz]; exact (Below.refl _ _).drew
  refine hK.out _ _ ⟨fun _ => trivial, HS.out _ (B0.out.trans ((below_alloc1 wz _).mono B0.out.size))⟩ ?_
  clear hK K
  refine wpAnyL_one (i := 16) (o := ⟨none, .store 48 (.tmp 4) (.tmp 33), 0, "run.go:239", #[⟨15, .data⟩, ⟨14, .data⟩, ⟨0, .phase⟩, ⟨1, .phase⟩, ⟨2, .phase⟩, ⟨3, .phase⟩, ⟨4, .phase⟩, ⟨5, .phase⟩, ⟨6, .phase⟩, ⟨7, .phase⟩, ⟨8, .phase⟩, ⟨9, .phase⟩, ⟨10, .phase⟩, ⟨11, .phase⟩, ⟨12, .phase⟩, ⟨13, .phase⟩, ⟨14, .phase⟩, ⟨15, .phase⟩], none⟩) (by kernel_rfl) rfl (fun K hK => ?_)
  go_simp
  go_wp2_with fail
  refine hK.out _ _ ⟨fun _ => trivial, HS.out _ (B0.out.trans ((below_alloc1 wz _).mono B0.out.size))⟩ ?_
  clear hK K
  refine wpAnyL_done (by kernel_rfl) ?_ _
  clear HS9

  obtain ⟨w3, hw3⟩ : ∃ w3, wz.alloc (.cells #[.int .i64 en, .int .u64 fl, .int .u64 0, .int .u64 0, .int .u64 0, .int .u64 lf] 48) = w3 := ⟨_, rfl⟩
  have B3 : Below W1.heap.size W1 w3 := by rw [← hw3]; exact B0.out.trans ((below_alloc1 wz _).mono B0.out.size)
  have A3 : w3.heap[wz.heap.size]? = some (.cells #[.int .i64 en, .int .u64 fl, .int .u64 0, .int .u64 0, .int .u64 0, .int .u64 lf] 48 (0, 0)) := by rw [← hw3]; exact alloc_atK _ _
  have hob : w.heap.size < wz.heap.size := by have := B0.out.size; omega
  rw [hw3]
  clear hw3
  obtain ⟨⟨m1, m2, m3, ml⟩, m4, m5, m6⟩ := HM.out w3 B3
  have A1 := (B3.block _ (block_lt HA1.out)).trans HA1.out
  have v0 := block_cell A1 0
  have v1 := block_cell A1 1
  have v2 := block_cell A1 2
  have v3 := block_cell A1 3
  have v4 := block_cell A1 4
  have v5 := block_cell A1 5
  have f0 := block_free A1 0
  have f1 := block_free A1 1
  have f2 := block_free A1 2
  have f3 := block_free A1 3
  have f4 := block_free A1 4
  have f5 := block_free A1 5
  have vl := block_lt A1
  have o0 := block_cell A3 0
  have o1 := block_cell A3 1
  have o2 := block_cell A3 2
  have o3 := block_cell A3 3
  have o4 := block_cell A3 4
  have o5 := block_cell A3 5
  have g2 := block_free A3 2
  have g3 := block_free A3 3
  have g4 := block_free A3 4
  have ol := block_lt A3
  simp at v0 v1 v2 v3 v4 v5 o0 o1 o2 o3 o4 o5
  have HA3 := hide A3
  have HA2 := hide A1
  have HB3 : Hid (Below w.heap.size w w3) := HB1.out.trans (B3.mono HB1.out.size)
  clear A1 A3 B3 B0 HA1 HB1 HM HS hwz S1
  generalize wz.heap.size = ob at *
  have n1 : ¬ ob = w.heap.size := by omega
  have n2 : ¬ w.heap.size = ob := by omega
  have n3 : ¬ mb = w.heap.size := hmw
  by_cases q0 : en = 0
  ·subst q0
   go_wp2
   generalize hwf : World.setCell _ _ _ = wf
   have HX : Hid (wf.heap[w.heap.size]? = some (.cells #[.int .i64 0, .int .u64 fl, .int .u64 p0, .int .u64 p1, .int .u64 p2, .int .u64 lf] 48 (0, 0)) ∧ Below w.heap.size w wf) := by
    rw [← hwf]
    refine ⟨?_, ?_⟩
    ·simp [World.setCell, Array.getElem?_modify, HA2.out, n1]
    ·have hs := HB3.out.size
     refine (HB3.out.grown (row := some ob) (w' := ((w3.setCell ⟨ob, 2, none⟩ (.int .u64 p0)).setCell ⟨ob, 3, none⟩ (.int .u64 p1)).setCell ⟨ob, 4, none⟩ (.int .u64 p2)) ?_ (by omega) (fun q e => by cases e; omega)).grown (row := some w.heap.size) ?_ (by simp; omega) (fun q e => by cases e; exact Nat.le_refl _)
     ·exact grown_tr (grown_tr (grown_setT _ _ _ _) (grown_setT _ _ _ _)) (grown_setT _ _ _ _)
     ·exact grown_tr (grown_tr (grown_tr (grown_tr (grown_tr (grown_setT _ _ _ _) (grown_setT _ _ _ _)) (grown_setT _ _ _ _)) (grown_setT _ _ _ _)) (grown_setT _ _ _ _)) (grown_setT _ _ _ _)
   have c0 := block_cell HX.out.1 0
   have c1 := block_cell HX.out.1 1
   have c2 := block_cell HX.out.1 2
   have c3 := block_cell HX.out.1 3
   have c4 := block_cell HX.out.1 4
   have c5 := block_cell HX.out.1 5
   simp at c0 c1 c2 c3 c4 c5
   refine bodyPost_ret (v := .tuple #[.agg #[.int .i64 0, .int .u64 fl, .int .u64 p0, .int .u64 p1, .int .u64 p2, .int .u64 lf], .bool true]) (by simp [results, Tryd.results18, go_sem, c0, c1, c2, c3, c4, c5]) rfl ?_
   exact ⟨by simp, HX.out.2⟩
  ·have e0 : (en == 0) = false := by simpa using q0
   go_wp2
   generalize hwf : World.setCell _ _ _ = wf
   have HX : Hid (wf.heap[w.heap.size]? = some (.cells #[.int .i64 en, .int .u64 fl, .int .u64 0, .int .u64 0, .int .u64 0, .int .u64 lf] 48 (0, 0)) ∧ Below w.heap.size w wf) := by
    rw [← hwf]
    refine ⟨?_, ?_⟩
    ·simp [World.setCell, Array.getElem?_modify, HA2.out]
    ·refine HB3.out.grown (row := some w.heap.size) ?_ HB3.out.size (fun q e => by cases e; exact Nat.le_refl _)
     exact grown_tr (grown_tr (grown_tr (grown_tr (grown_tr (grown_setT _ _ _ _) (grown_setT _ _ _ _)) (grown_setT _ _ _ _)) (grown_setT _ _ _ _)) (grown_setT _ _ _ _)) (grown_setT _ _ _ _)
   have c0 := block_cell HX.out.1 0
   have c1 := block_cell HX.out.1 1
   have c2 := block_cell HX.out.1 2
   have c3 := block_cell HX.out.1 3
   have c4 := block_cell HX.out.1 4
   have c5 := block_cell HX.out.1 5
   simp at c0 c1 c2 c3 c4 c5
   refine bodyPost_ret (v := .tuple #[.agg #[.int .i64 en, .int .u64 fl, .int .u64 0, .int .u64 0, .int .u64 0, .int .u64 lf], .bool true]) (by simp [results, Tryd.results18, go_sem, c0, c1, c2, c3, c4, c5]) rfl ?_
   exact ⟨by simp, HX.out.2⟩
end Go.Proofs.YtmoklddfaocihaaDoor
