import Derived.Test.YtojknconkmplkaaJCt
import Derived.Test.YtojknconkmplkaaMJ
import Derived.Test.YtojknconkmplkaaMK
import Derived.Test.YtojknconkmplkaaMH
import Derived.Test.YtojknconkmplkaaMF
import Derived.Test.YtojknconkmplkaaME
import Derived.Test.YtojknconkmplkaaMG
import Derived.Deep.MidRow
namespace Go.Proofs.Ytojknconkmplkaa
open Go.RowKit Crc

theorem wpList_load_midG {P : Program} {ops : Array Oper} {rest : List Oper} {op : Oper} {a : Act} {w : World} {Q : Exit → Act → World → Prop} (hw : Region.wanted op (yielded ops a.tmps) = true) (ty : TypeId) (x : Operand) (ho : op.op = .load ty x)
    (b o : Nat) (hx : a.eval x = .pointer (some ⟨b, o, none⟩)) (cs : List Value) (d : TypeDesc) (hc : w.rangeAt b o cs)
    (hu : P.underlying ty = some d) (hd : d.isRow = true) (hi : (P.info? ty).map (·.size) = some cs.length)
    (h : wpList P ops Q rest (a.put op.dst (.agg cs.toArray)) w) : wpList P ops Q (op :: rest) a w := by
  unfold wpList
  rw [if_pos hw]
  exact .inl (wp_load_mid ty x ho b o hx cs d hc hu hd hi h)
/-- What Accept does. -/
def accF (c : Cf) (low : Nat) (u : Nat → Jv) (src : Nat) (m : Mw) : Bool × (Nat → Jv) :=
  if cntB c low src m = false then (false, u)
  else if c.maj (u m.slot).fr = true then (false, u)
  else if cmpB ((u m.slot).num : Int) (u m.slot).node (m.num : Int) m.node < 0 then (true, updT u m.slot ⟨m.num, m.node, withB 0 (src : Int), m.st, m.rs⟩)
  else if (u m.slot).num = m.num ∧ (u m.slot).node = m.node ∧ hasB (u m.slot).fr (src : Int) = false ∧ (u m.slot).st = m.st ∧ (u m.slot).rs = m.rs then (true, updT u m.slot ⟨(u m.slot).num, (u m.slot).node, withB (u m.slot).fr (src : Int), (u m.slot).st, (u m.slot).rs⟩)
  else (false, u)
/-- In the middle of Accept. -/
structure Ac (W : World) (cs : List Value) (V : World) : Prop where
  bel : Below W.heap.size W V
  box : V.heap[W.heap.size]? = some (.cells cs.toArray 50 (0, 0))
theorem Ac.next {W V V' : World} {cs : List Value} (h : Ac W cs V) (hb : Below V.heap.size V V') : Ac W cs V' := ⟨h.bel.trans (hb.mono h.bel.size), (hb.block _ (block_lt h.box)).trans h.box⟩
theorem Ac.set {W V : World} {cs : List Value} (h : Ac W cs V) {t j : Nat} (ht : W.heap.size < t) (v : Value) : Ac W cs (V.setCell ⟨t, j, none⟩ v) :=
  ⟨h.bel.setCell (p := ⟨t, j, none⟩) (by simp; omega) v, ((grown_set V t j v).block _ (block_lt h.box) (by simp; omega)).trans h.box⟩
theorem Ac.c {W V : World} {cs : List Value} (h : Ac W cs V) {j : Nat} {v : Value} (hv : cs[j]? = some v) : V.cell? ⟨W.heap.size, j, none⟩ = some v := blk_cell h.box hv
theorem TLm.mono {W : World} {mb n n' : Nat} {m : Nat → Jt} (h : TLm W mb n m) (hn : n ≤ n') : TLm W mb n' m := by
  obtain ⟨D, h1, h2⟩ := h
  exact ⟨D, h1.mono hn, h2⟩
theorem LL.mono {W : World} {lb g mb n n' : Nat} {c : Cf} {low : Nat} {u : Nat → Jv} (h : LL W lb g mb n c low u) (hn : n ≤ n') : LL W lb g mb n' c low u := by
  obtain ⟨m, t1, t2, t3⟩ := h.tal
  exact ⟨h.blk, h.grp, ⟨m, t1.mono hn, t2, t3⟩, h.lo, h.zer⟩
theorem withB_pos (s : Nat) (n : Int) (h0 : 0 ≤ n) (h1 : n < 32) : 0 < withB s n := by
  unfold withB aloneB
  rw [if_pos ⟨h0, h1⟩]
  have h2 : 2 ^ n.toNat ≤ s ||| 2 ^ n.toNat := Nat.right_le_or
  have h3 : 0 < 2 ^ n.toNat := Nat.two_pow_pos _
  omega
/-- A tally is laid down. -/
theorem LL.put {W : World} {lb g mb n : Nat} {c : Cf} {low : Nat} {u : Nat → Jv} (h : LL W lb g mb n c low u) (hn : n < 1000000) {slot : Nat} (hs : slot < 18446744073709551616) (hl : low ≤ slot) (t : Jt) (ht : t.Ok W.heap.size W) (hf0 : 0 < t.fr) :
    ∃ w', (Instr.mapUpdate 73 (.map (some mb)) (.int .u64 (slot : Int)) (.agg t.cells)).run Try.prog W = .ok () w' ∧ LL w' lb g mb (n + 1) c low (updT u slot t.abs) ∧ W.grownBy w' (some mb) := by
  obtain ⟨m, t1, t2, t3⟩ := h.tal
  obtain ⟨w', hr, k1, k2⟩ := t1.store hs (by unfold maxLen; omega) t hf0
  obtain ⟨es, k, ho⟩ := t1.obj
  have n1 : some lb ≠ some mb := fun e => by cases e; rw [h.blk] at ho; cases ho
  have n2 : some g ≠ some mb := fun e => by cases e; rw [h.grp] at ho; cases ho
  refine ⟨w', hr, ⟨(k2.block _ (block_lt h.blk) n1).trans h.blk, (k2.block _ (block_lt h.grp) n2).trans h.grp, ⟨updT m slot t, k1, fun x => ?_, fun x => ?_⟩, h.lo, fun x hx => ?_⟩, k2⟩
  · unfold updT
    split
    · exact (ht.odd k2 t1.odd).wide k2.size
    · exact ((t2 x).odd k2 t1.odd).wide k2.size
  · unfold updT
    split
    · rfl
    · exact t3 x
  · unfold updT
    rw [if_neg (by omega)]
    exact h.zer x hx
/-- Region 3: the tally is taken out of the map. -/
def S3A (Wc : World) (tc : Array Value) : Bool → Bool → World → Prop
  | false, false, V => V = Wc.drew
  | true, false, V => V = Wc.drew.alloc (.cells #[.int .u64 0, .int .i64 0, .int .u32 0, .int .u64 0, .slice none 0 0] 80)
  | true, true, V => V = Wc.drew.alloc (.cells tc 80)
  | false, true, _ => False
theorem S3A.below {Wc : World} {tc : Array Value} {b b2 : Bool} {V : World} (h : S3A Wc tc b b2 V) : Below Wc.heap.size Wc V := by
  cases b <;> cases b2 <;> simp only [S3A] at h
  · subst h; exact (Below.refl _ _).drew
  · subst h; exact (Below.refl _ Wc).drew.alloc (Nat.le_refl _) _
  · subst h; exact (Below.refl _ Wc).drew.alloc (Nat.le_refl _) _
/-- Where the box of the tally lies. -/
structure At (W : World) (cs : List Value) (tb : Nat) (num : Nat) (node : Int) (fr st : Nat) (sl : Value) (V : World) : Prop where
  ac : Ac W cs V
  tb : V.heap[tb]? = some (.cells #[.int .u64 (num : Nat), .int .i64 node, .int .u32 (fr : Nat), .int .u64 (st : Nat), sl] 80 (0, 0))
theorem At.next {W V V' : World} {cs : List Value} {tb num : Nat} {node : Int} {fr st : Nat} {sl : Value} (h : At W cs tb num node fr st sl V) (hb : Below V.heap.size V V') : At W cs tb num node fr st sl V' := ⟨h.ac.next hb, (hb.block _ (block_lt h.tb)).trans h.tb⟩

/-- A batch does not lie in a tally's box. -/
theorem Rqs.butT {lim tb : Nat} {w w' : World} {ro : Option Addr} {rs : List Rq} {b off : Nat} (h : Rqs lim w ro rs b off) {x0 x1 x2 x3 : Int} {a0 : Option Addr} {a1 a2 : Nat} {t : TypeId} (hT : w.heap[tb]? = some (.cells #[.int .u64 x0, .int .i64 x1, .int .u32 x2, .int .u64 x3, .slice a0 a1 a2] t (0, 0))) (hg : w.grownBy w' (some tb)) : Rqs lim w' ro rs b off := by
  refine ⟨h.ad, h.lt, h.le, fun i r hr j v hv => hg.cell (h.at_ i r hr j v hv) (fun e => ?_), fun r hr => ⟨(h.ok r hr).hc, (h.ok r hr).hs, ?_⟩⟩
  · cases e
    have y2 := h.at_ i r hr 2 _ rfl
    have y1 := h.at_ i r hr 1 _ rfl
    have y0 := h.at_ i r hr 0 _ rfl
    rw [block_cell hT] at y2 y1 y0
    have l2 : off + i * 3 + 2 < 5 := by have := (Array.getElem?_eq_some_iff.1 y2).1; simpa using this
    have cases3 : off + i * 3 = 0 ∨ off + i * 3 = 1 ∨ off + i * 3 = 2 := by omega
    rcases cases3 with e | e | e
    · rw [e] at y1; exact absurd y1 (by simp [Rq.cells])
    · rw [e] at y0; exact absurd y0 (by simp [Rq.cells])
    · rw [e] at y0; exact absurd y0 (by simp [Rq.cells])
  · obtain ⟨s1, s2, s3, s4, cb, coff, s5, s6, s7⟩ := (h.ok r hr).hC
    refine ⟨s1, s2, s3, s4, cb, coff, s5, s6, fun i hi => hg.cell (s7 i hi) (fun e => ?_)⟩
    cases e
    have y := s7 i hi
    rw [block_cell hT] at y
    have l2 : coff + i < 5 := by have := (Array.getElem?_eq_some_iff.1 y).1; simpa using this
    have cases5 : coff + i = 0 ∨ coff + i = 1 ∨ coff + i = 2 ∨ coff + i = 3 ∨ coff + i = 4 := by omega
    rcases cases5 with e | e | e | e | e <;> rw [e] at y <;> simp at y
theorem BtOk.butT {w w' : World} {tb st : Nat} {v : Value} {rv : List (Nat × Nat × List Nat)} (h : BtOk w st v rv) {x0 x1 x2 x3 : Int} {a0 : Option Addr} {a1 a2 : Nat} {t : TypeId} (hT : w.heap[tb]? = some (.cells #[.int .u64 x0, .int .i64 x1, .int .u32 x2, .int .u64 x3, .slice a0 a1 a2] t (0, 0))) (hg : w.grownBy w' (some tb)) : BtOk w' st v rv := by
  obtain ⟨ro, rc, rs, b, off, h1, h2, h3, h4⟩ := h
  exact ⟨ro, rc, rs, b, off, h1, h2, (h3.butT hT hg).wide hg.size, h4⟩
/-- The box is written anew. -/
theorem At.anew {W V : World} {cs : List Value} {tb num : Nat} {node : Int} {fr st : Nat} {ro : Option Addr} {n rc : Nat} (h : At W cs tb num node fr st (.slice ro n rc) V) (ht : W.heap.size < tb) (num' : Nat) (node' : Int) (st' : Nat) (ao : Option Addr) (m cap : Nat) {rv : List (Nat × Nat × List Nat)} (hb : BtOk V st' (.slice ao m cap) rv) :
    At W cs tb num' node' 0 st' (.slice ao m cap) (((((V.setCell ⟨tb, 0, none⟩ (.int .u64 (num' : Nat))).setCell ⟨tb, 1, none⟩ (.int .i64 node')).setCell ⟨tb, 2, none⟩ (.int .u32 0)).setCell ⟨tb, 3, none⟩ (.int .u64 (st' : Nat))).setCell ⟨tb, 4, none⟩ (.slice ao m cap)) ∧
    BtOk (((((V.setCell ⟨tb, 0, none⟩ (.int .u64 (num' : Nat))).setCell ⟨tb, 1, none⟩ (.int .i64 node')).setCell ⟨tb, 2, none⟩ (.int .u32 0)).setCell ⟨tb, 3, none⟩ (.int .u64 (st' : Nat))).setCell ⟨tb, 4, none⟩ (.slice ao m cap)) st' (.slice ao m cap) rv := by
  have h1 := heap_setCell_same V tb 0 _ _ (.int .u64 (num' : Nat)) h.tb
  have h2 := heap_setCell_same _ tb 1 _ _ (.int .i64 node') h1
  have h3 := heap_setCell_same _ tb 2 _ _ (.int .u32 0) h2
  have h4 := heap_setCell_same _ tb 3 _ _ (.int .u64 (st' : Nat)) h3
  have h5 := heap_setCell_same _ tb 4 _ _ (.slice ao m cap) h4
  refine ⟨⟨((((h.ac.set ht _).set ht _).set ht _).set ht _).set ht _, ?_⟩, hb.butT h.tb (grown_trans (grown_trans (grown_trans (grown_trans (grown_set _ _ _ _) (grown_set _ _ _ _)) (grown_set _ _ _ _)) (grown_set _ _ _ _)) (grown_set _ _ _ _))⟩
  rw [h5]
  rfl

/-- Phase 5: the tally in its box takes the voter in and goes into the map. -/
theorem fin_mem {W V : World} {lb g mb nn : Nat} {c : Cf} {low : Nat} {u : Nat → Jv} (h : LL W lb g mb nn c low u) (hn : nn < 1000000) {cs : List Value} {tb num : Nat} {node : Int} {fr st : Nat} {ro : Option Addr} {n rc : Nat} (ha : At W cs tb num node fr st (.slice ro n rc) V) (htb : W.heap.size < tb)
    {rv : List (Nat × Nat × List Nat)} (hbt : BtOk V st (.slice ro n rc) rv) (hnum : num < 18446744073709551616) {slot : Nat} (hs : slot < 18446744073709551616) (hl : low ≤ slot) {f2 : Nat} (hf2 : f2 < 4294967296) (hf0 : 0 < f2) :
    ∃ w', (Instr.mapUpdate 73 (.map (some mb)) (.int .u64 (slot : Int)) (.agg #[.int .u64 (num : Nat), .int .i64 node, .int .u32 (f2 : Nat), .int .u64 (st : Nat), .slice ro n rc])).run Try.prog (V.setCell ⟨tb, 2, none⟩ (.int .u32 (f2 : Nat))).drew = .ok () w' ∧ LL w' lb g mb (nn + 1) c low (updT u slot ⟨num, node, f2, st, rv⟩) ∧ W.grownBy w' (some mb) := by
  obtain ⟨ro', rc', rs, b, off, e1, e2, e3, e4⟩ := hbt
  cases e1
  have hac := ha.ac.set (j := 2) htb (.int .u32 (f2 : Nat))
  have hb : Below W.heap.size W (V.setCell ⟨tb, 2, none⟩ (.int .u32 (f2 : Nat))).drew := hac.bel.drew
  have g2 := grown_set V tb 2 (.int .u32 (f2 : Nat))
  have hR : Rqs (V.setCell ⟨tb, 2, none⟩ (.int .u32 (f2 : Nat))).drew.heap.size (V.setCell ⟨tb, 2, none⟩ (.int .u32 (f2 : Nat))).drew ro rs b off := by
    have q := e3.butT ha.tb g2
    exact ⟨q.ad, fun e => by simpa using q.lt e, q.le, q.at_, fun r hr => ⟨(q.ok r hr).hc, (q.ok r hr).hs, by have := (q.ok r hr).hC.wide (lim' := (V.setCell ⟨tb, 2, none⟩ (.int .u32 (f2 : Nat))).drew.heap.size) (by simp); exact this⟩⟩
  obtain ⟨w', hr, k1, k2⟩ := (h.kept hb).put hn hs hl ⟨num, node, f2, st, ro, rs.length, rc, rs, b, off⟩ ⟨hnum, hf2, e4, hR, rfl⟩ hf0
  refine ⟨w', hr, ?_, grown_trans ((below_none hb).but _) k2⟩
  have : (Jt.mk num node f2 st ro rs.length rc rs b off).abs = ⟨num, node, f2, st, rv⟩ := by unfold Jt.abs; simp only [e2]
  rw [this] at k1
  exact k1

set_option maxRecDepth 100000 in
set_option maxHeartbeats 4000000 in
theorem acceptL {W : World} {lb g mb nn : Nat} {c : Cf} {low : Nat} {u : Nat → Jv} (hk : c.Ok) (h : LL W lb g mb nn c low u) (hnn : nn < 1000000) (src : Nat) (m : Ms) (hm : m.Ok W.heap.size W) :
    Calls Try.prog 7 #[.pointer (some ⟨lb, 0, none⟩), .int .u64 (src : Nat), .agg m.cs.toArray] W fun e w' => ∃ z u', e = .returned (.bool z) ∧ Hid (accF c low u src m.mw = (z, u') ∧ LL w' lb g mb (nn + 1) c low u' ∧ W.grownBy w' (some mb)) := by
  obtain ⟨W1, hW1⟩ : ∃ W1, W.alloc (.cells m.cs.toArray 50) = W1 := ⟨_, rfl⟩
  have A1 : Hid (Ac W m.cs W1) := by rw [← hW1]; exact ⟨below_alloc1 W _, alloc_atK _ _⟩
  have HLL := hide h
  have HM := hide (madeL (h.kept A1.out.bel))
  have HCN : Hid (Calls Try.prog 17 #[.pointer (some ⟨lb, 0, none⟩), .int .u64 (src : Nat), .agg m.cs.toArray] W1 fun e w' => e = .returned (.bool (cntB c low src m.mw)) ∧ Hid (Below W1.heap.size W1 w')) := countsL hk (h.kept A1.out.bel) src m ((hm.below A1.out.bel).wide A1.out.bel.size)
  have HSZ : Hid ((Try.prog.info? 50).map (·.size) = some m.cs.length) := by show _ = _; rw [hm.len]; kernel_rfl
  have HRG := hide (blk_range A1.out.box)
  obtain ⟨mt, t1, t2, t3⟩ := h.tal
  have HT1 := hide t1
  have HT2 := hide (t2 m.slot)
  have HT3 := hide (t3 m.slot)
  have HC1 := hide hm.c1
  have HC2 := hide hm.c2
  have HC3 := hide hm.c3
  have HC6 := hide hm.c6
  have HC7 := hide hm.c7
  have HMR := hide hm.hR
  have HML := hide hm.hl
  have HMS := hide hm.hs
  have HMN := hide hm.hn
  have HMSL := hide hm.hsl
  have HLOW : Hid (cntB c low src m.mw = true → low ≤ m.slot ∧ (src : Int) < 2 * c.f + 1) := fun e => by
    unfold cntB Ms.mw at e
    simp only [Bool.and_eq_true, decide_eq_true_eq] at e
    exact ⟨e.1.1.1.2, e.1.1.1.1.1.1.2⟩
  have HNN := hide hnn
  have HK := hide hk
  have HACC : Hid (∀ z u', (if cntB c low src m.mw = false then (false, u) else if c.maj (u m.slot).fr = true then (false, u) else if cmpB ((u m.slot).num : Int) (u m.slot).node (m.num : Int) m.node < 0 then (true, updT u m.slot ⟨m.num, m.node, withB 0 (src : Int), m.st, m.rs.map Rq.val⟩) else if (u m.slot).num = m.num ∧ (u m.slot).node = m.node ∧ hasB (u m.slot).fr (src : Int) = false ∧ (u m.slot).st = m.st ∧ (u m.slot).rs = m.rs.map Rq.val then (true, updT u m.slot ⟨(u m.slot).num, (u m.slot).node, withB (u m.slot).fr (src : Int), (u m.slot).st, (u m.slot).rs⟩) else (false, u)) = (z, u') → accF c low u src m.mw = (z, u')) := fun z u' e => e
  have HW1 := hide hW1
  clear hm hW1 t1 t2 t3 h hnn hk
  generalize accF c low u src m.mw = acc at *
  generalize cntB c low src m.mw = cz at *
  generalize m.slot = slot at *
  generalize m.num = mnum at *
  generalize m.node = mnode at *
  generalize m.st = mst at *
  generalize m.ro = mro at *
  generalize m.n = mn at *
  generalize m.rc = mrc at *
  generalize m.rs = mrs at *
  generalize m.b = mrb at *
  generalize m.off = moff at *
  generalize m.cs = cs at *
  have HLK : Hid (∀ V, Below W.heap.size W V → (Instr.lookup 73 (.map (some mb)) (.int .u64 (slot : Int)) false).run Try.prog V = .ok (.agg (mt slot).cells) V) := fun V hb => (HT1.out.kept (below_none hb) (by simp)).look HMSL.out
  unfold Jt.cells at HLK
  generalize mt slot = tl at *
  obtain ⟨num, node, fr, st, ro, n, rc, rs, b, off⟩ := tl
  simp only at HLK
  have e1 : u slot = ⟨num, node, fr, st, rs.map Rq.val⟩ := HT3.out.symm
  rw [e1] at HACC
  simp only at HACC
  clear e1 HT3 HT1
  obtain ⟨RI, hRI⟩ : ∃ x : Int, ((src : Nat) : Int) = x := ⟨_, rfl⟩
  rw [hRI] at HACC HLOW HCN ⊢
  have HRI0 : Hid (0 ≤ RI) := by show _ ≤ _; omega
  clear hRI
  obtain ⟨SI, hSI⟩ : ∃ x : Int, ((slot : Nat) : Int) = x := ⟨_, rfl⟩
  rw [hSI] at HC3 HLK
  have HSI := hide hSI
  clear hSI
  go_enter Try.func7, Try.ntmps7
  go_upto_region 1 with fail
  rw [HW1.out]
  clear HW1
  go_wp2_with fail
  refine HM.out.mono ?_
  rintro e w1 ⟨rfl, hw⟩
  rw [hw]
  clear hw HM
  go_wp2_with (first | (refine wpList_load_midG (by rfl) 50 _ rfl W.heap.size 0 rfl cs _ HRG.out Try.underlying50 rfl HSZ.out ?_; simp only [Act.put, List.setIfInBounds_toArray, List.set_cons_zero, List.set_cons_succ]; clear HRG HSZ))
  refine HCN.out.mono ?_
  rintro e Wc ⟨rfl, hbc⟩
  have AC := hide (A1.out.next hbc.out)
  clear hbc HCN A1
  cases cz with
  | false =>
    have HZ := hide (HACC.out false u (by rfl))
    have HE := hide (HLL.out.kept AC.out.bel)
    go_wp2
    go_ret
    exact ⟨false, u, rfl, HZ.out, HE.out.mono (Nat.le_succ _), (below_none AC.out.bel).but _⟩
  | true =>
  obtain ⟨hlo, hsr⟩ := HLOW.out rfl
  have HLO := hide hlo
  have hf3 := HK.out.f3
  have hri0 := HRI0.out
  have hRw : IntKind.i64.wrap RI = RI := IntWalk.i64_in RI ⟨by omega, by omega⟩
  have HR32 : Hid (0 ≤ RI ∧ RI < 32) := ⟨hri0, by omega⟩
  clear hlo hsr hf3 hri0 HLOW HRI0
  have HACC2 := hide (fun z u' e => HACC.out z u' ((if_neg (by decide)).trans e))
  clear HACC
  go_upto_region 3 with fail
  have KL2 : Hid (∀ b b2 V, Hid (S3A Wc #[.int .u64 (num : Nat), .int .i64 node, .int .u32 (fr : Nat), .int .u64 (st : Nat), .slice ro n rc] b b2 V) → V.cell? ⟨lb, 2, none⟩ = some (.map (some mb)) ∧ lb < V.heap.size ∧ V.cell? ⟨W.heap.size, 3, none⟩ = some (.int .u64 SI) ∧ (Instr.lookup 73 (.map (some mb)) (.int .u64 SI) false).run Try.prog V = .ok (.agg #[.int .u64 (num : Nat), .int .i64 node, .int .u32 (fr : Nat), .int .u64 (st : Nat), .slice ro n rc]) V) := fun b b2 V hV => by
    have a := AC.out.next hV.out.below
    exact ⟨(HLL.out.kept a.bel).c 2, block_lt (HLL.out.kept a.bel).blk, a.c HC3.out, HLK.out V a.bel⟩
  refine region_assignW (fun b b2 V => Hid (S3A Wc #[.int .u64 (num : Nat), .int .i64 node, .int .u32 (fr : Nat), .int .u64 (st : Nat), .slice ro n rc] b b2 V)) 7 8 [(18, .pointer (some ⟨lb, 0, none⟩)), (19, .pointer (some ⟨lb, 0, none⟩)), (20, .pointer (some ⟨lb, 2, none⟩)), (21, .map (some mb)), (22, .pointer (some ⟨W.heap.size, 3, none⟩)), (23, .int .u64 SI), (24, .agg #[.int .u64 (num : Nat), .int .i64 node, .int .u32 (fr : Nat), .int .u64 (st : Nat), .slice ro n rc]), (7, .pointer (some ⟨Wc.heap.size, 0, none⟩))] _ (by kernel_rfl) (by decide) (by decide) (by decide) (by kernel_rfl) (by kernel_rfl) (by kernel_rfl) (by kernel_rfl) rfl (show S3A Wc _ false false _ from rfl) ?_ (fun V3 HV3 => ?_)
  · simp only [putAll, Act.put, List.setIfInBounds_toArray, List.set_cons_zero, List.set_cons_succ]
    repeat' (first | exact AllFroW.nil | refine AllFroW.at1 rfl ?_ ?_ | refine AllFroW.at2 (by decide) rfl ?_ ?_ | refine AllFroW.off (by decide) (by decide) ?_ ?_)
    all_goals first
      | (intro b b2
         refine stepTo_yes (by rfl) (fun V hV K hK => ?_)
         obtain ⟨q0, q1, q2, q3⟩ := KL2.out b b2 V hV
         go_simp
         exact hK.out _ hV)
      | (intro b
         refine ⟨by rfl, fun V hV K hK => ?_⟩
         cases b
         · have e := hV.out
           simp only [S3A] at e
           subst e
           go_simp
           exact hK.out _ (show S3A Wc _ true false _ from rfl)
         · exact hV.out.elim)
      | (refine ⟨by rfl, fun V hV K hK => ?_⟩
         have e := hV.out
         simp only [S3A] at e
         subst e
         go_simp
         exact hK.out _ (show S3A Wc _ true true _ from rfl))
  simp only [putAll, Act.put, List.setIfInBounds_toArray, List.set_cons_zero, List.set_cons_succ]
  have A3 : Hid (At W cs Wc.heap.size num node fr st (.slice ro n rc) V3) := ⟨AC.out.next HV3.out.below, by
    have e := HV3.out
    simp only [S3A] at e
    rw [e]
    exact alloc_atK Wc.drew _⟩
  have HTB : Hid (W.heap.size < Wc.heap.size) := block_lt AC.out.box
  clear HV3 KL2 HLK AC
  generalize Wc.heap.size = tb at *
  have HDN : Hid (Calls Try.prog 18 #[.pointer (some ⟨lb, 0, none⟩), .agg #[.int .u64 (num : Nat), .int .i64 node, .int .u32 (fr : Nat), .int .u64 (st : Nat), .slice ro n rc]] V3 fun e w' => e = .returned (.bool (c.maj fr)) ∧ Hid (Below V3.heap.size V3 w')) := doneL HK.out (HLL.out.kept A3.out.ac.bel) ⟨num, node, fr, st, ro, n, rc, rs, b, off⟩ HT2.out.hf
  have x0 := block_cell A3.out.tb 0
  have x1 := block_cell A3.out.tb 1
  have x2 := block_cell A3.out.tb 2
  have x3 := block_cell A3.out.tb 3
  have x4 := block_cell A3.out.tb 4
  simp at x0 x1 x2 x3 x4
  go_wp2_with fail
  refine HDN.out.mono ?_
  rintro e V4 ⟨rfl, hb4⟩
  have A4 := hide (A3.out.next hb4.out)
  clear x0 x1 x2 x3 x4 hb4 HDN A3
  cases hmj : c.maj fr with
  | true =>
    have HZ := hide (HACC2.out false u (if_pos hmj))
    have HE := hide (HLL.out.kept A4.out.ac.bel)
    clear hmj
    go_wp2
    go_ret
    exact ⟨false, u, rfl, HZ.out, HE.out.mono (Nat.le_succ _), (below_none A4.out.ac.bel).but _⟩
  | false =>
  have HACC3 := hide (fun z u' e => HACC2.out z u' ((if_neg (by rw [hmj]; decide)).trans e))
  clear HACC2 hmj
  have x0 := block_cell A4.out.tb 0
  have x1 := block_cell A4.out.tb 1
  have y1 := A4.out.ac.c HC1.out
  have y2 := A4.out.ac.c HC2.out
  simp at x0 x1
  have HLS := hide (less_any (num : Int) node (mnum : Int) mnode V4)
  go_wp2_with fail
  refine HLS.out.mono ?_
  rintro e V6 ⟨rfl, hb6⟩
  have A6 := hide (A4.out.next hb6)
  clear x0 x1 y1 y2 hb6 HLS A4
  by_cases hls : cmpB (num : Int) node (mnum : Int) mnode < 0
  · -- a higher ballot
    have HZ := hide (HACC3.out _ _ (if_pos hls))
    rw [decide_eq_true hls]
    clear hls HACC3
    have HTW : Hid (∀ q, Calls Try.prog 20 #[.agg #[.int .u64 (mst : Nat), .slice mro mn mrc]] (V6.drewN q) fun e w' => ∃ ao m' cap, e = .returned (.agg #[.int .u64 (mst : Nat), .slice ao m' cap]) ∧ Hid (BtOk w' mst (.slice ao m' cap) (mrs.map Rq.val) ∧ At W cs tb num node fr st (.slice ro n rc) w')) := fun q => by
      have hb : Below V6.heap.size V6 (V6.drewN q) := ⟨rfl, rfl, rfl, Nat.le_refl _, fun _ _ => rfl⟩
      have hb1 := A6.out.ac.bel.trans (hb.mono A6.out.ac.bel.size)
      refine (twin_any (w := V6.drewN q) mst HMS.out mn mrc HML.out ((HMR.out.below hb1).wide hb1.size)).mono ?_
      rintro e w' ⟨ao, m', cap, rfl, G⟩
      exact ⟨ao, m', cap, rfl, G.out.1, (A6.out.next hb).next G.out.2⟩
    have KM : Hid (∀ V, Ac W cs V → V.cell? ⟨W.heap.size, 1, none⟩ = some (.int .u64 (mnum : Nat)) ∧ V.cell? ⟨W.heap.size, 2, none⟩ = some (.int .i64 mnode) ∧ V.cell? ⟨W.heap.size, 6, none⟩ = some (.int .u64 (mst : Nat)) ∧ V.cell? ⟨W.heap.size, 7, none⟩ = some (.slice mro mn mrc)) := fun V a => ⟨a.c HC1.out, a.c HC2.out, a.c HC6.out, a.c HC7.out⟩
    obtain ⟨m1, m2, m6, m7⟩ := KM.out V6 A6.out.ac
    go_upto_region 7 with fail
    go_region_held (fun V => V.cell? ⟨W.heap.size, 1, none⟩ = some (.int .u64 (mnum : Nat)) ∧ V.cell? ⟨W.heap.size, 2, none⟩ = some (.int .i64 mnode) ∧ V.cell? ⟨W.heap.size, 6, none⟩ = some (.int .u64 (mst : Nat)) ∧ V.cell? ⟨W.heap.size, 7, none⟩ = some (.slice mro mn mrc)) (first | go_keep | exact KM.out _ A8.out.ac | exact KM.out _ (((((A8.out.ac.set HTB.out _).set HTB.out _).set HTB.out _).set HTB.out _).set HTB.out _))
      (first
        | (go_at_call 20; refine (HTW.out _).mono ?_; rintro e w8 ⟨ao, m', cap, rfl, G⟩; have A8 := hide G.out.2; have HBT := hide G.out.1; have z0 := block_cell A8.out.tb 0; have z1 := block_cell A8.out.tb 1; have z2 := block_cell A8.out.tb 2; have z3 := block_cell A8.out.tb 3; have z4 := block_cell A8.out.tb 4; have f0 := block_free A8.out.tb 0; have f1 := block_free A8.out.tb 1; have f2 := block_free A8.out.tb 2; have f3 := block_free A8.out.tb 3; have f4 := block_free A8.out.tb 4; have zl := block_lt A8.out.tb; simp at z0 z1 z2 z3 z4; clear G))
    clear m1 m2 m6 m7 z0 z1 z2 z3 z4 f0 f1 f2 f3 f4 zl HTW
    obtain ⟨V5, hV5⟩ : ∃ V5, (((((w8.setCell ⟨tb, 0, none⟩ (.int .u64 (mnum : Nat))).setCell ⟨tb, 1, none⟩ (.int .i64 mnode)).setCell ⟨tb, 2, none⟩ (.int .u32 0)).setCell ⟨tb, 3, none⟩ (.int .u64 (mst : Nat))).setCell ⟨tb, 4, none⟩ (.slice ao m' cap)) = V5 := ⟨_, rfl⟩
    have HAB := hide (A8.out.anew HTB.out mnum mnode mst ao m' cap HBT.out)
    rw [hV5] at HAB ⊢
    have HA7 := hide HAB.out.1
    have HB7 := hide HAB.out.2
    clear hV5 HAB A8 HBT
    have x0 := block_cell HA7.out.tb 0
    have x1 := block_cell HA7.out.tb 1
    have x2 := block_cell HA7.out.tb 2
    have x3 := block_cell HA7.out.tb 3
    have x4 := block_cell HA7.out.tb 4
    simp at x0 x1 x2 x3 x4
    obtain ⟨m1, m2, m6, m7⟩ := KM.out V5 HA7.out.ac
    have hbn : ∀ w, (binOp BinOp.neq 39 (.agg #[.int .u64 (mnum : Nat), .int .i64 mnode]) (.agg #[.int .u64 (mnum : Nat), .int .i64 mnode])).run Try.prog w = .ok (.bool false) w := fun w => by
      have := bal_neq (mnum : Int) (mnum : Int) mnode mnode w
      simpa using this
    have HHS : Hid (∀ w, Calls Try.prog 21 #[.int .u32 0, .int .i64 RI] w fun e w' => e = .returned (.bool false) ∧ w' = w) := fun w => by
      have h := has_any 0 (by decide) RI w
      have e : hasB 0 RI = false := by unfold hasB; simp
      rw [e] at h
      exact h
    have HALK : Hid (Calls Try.prog 22 #[.agg #[.int .u64 (mst : Nat), .slice ao m' cap], .agg #[.int .u64 (mst : Nat), .slice mro mn mrc]] V5 fun e w' => e = .returned (.bool true) ∧ Hid (Below V5.heap.size V5 w')) := by
      obtain ⟨ro', rc', rs', b', off', e1, e2, e3, e4⟩ := HB7.out
      cases e1
      have hb := HA7.out.ac.bel
      refine (alike_any mst mst rs'.length mn cap mrc rfl HML.out e3 ((HMR.out.below hb).wide hb.size)).mono ?_
      rintro e w' ⟨rfl, g⟩
      refine ⟨?_, g⟩
      rw [e2]
      simp
    go_wp2_with fail
    refine (HHS.out _).mono ?_
    rintro e w9 ⟨rfl, hw9⟩
    rw [hw9]
    clear hw9 HHS
    go_wp2_with fail
    refine HALK.out.mono ?_
    rintro e V9' ⟨rfl, hb9⟩
    have HA := hide (HA7.out.next hb9.out)
    have HBF := hide (HB7.out.kept hb9.out)
    clear x0 x1 x2 x3 x4 m1 m2 m6 m7 hbn HALK hb9 HA7 HB7 KM
    generalize V9' = V5 at *
    have HFM : Hid (∃ w', (Instr.mapUpdate 73 (.map (some mb)) (.int .u64 SI) (.agg #[.int .u64 (mnum : Nat), .int .i64 mnode, .int .u32 ((withB 0 RI : Nat) : Int), .int .u64 (mst : Nat), .slice ao m' cap])).run Try.prog (V5.setCell ⟨tb, 2, none⟩ (.int .u32 ((withB 0 RI : Nat) : Int))).drew = .ok () w' ∧ LL w' lb g mb (nn + 1) c low (updT u slot ⟨mnum, mnode, withB 0 RI, mst, mrs.map Rq.val⟩) ∧ W.grownBy w' (some mb)) := by
      rw [← HSI.out]
      exact fin_mem HLL.out HNN.out HA.out HTB.out HBF.out HMN.out HMSL.out HLO.out (withB_lt 0 RI (by decide)) (withB_pos 0 RI HR32.out.1 HR32.out.2)
    clear HBF
    have a2 := block_cell HA.out.tb 2
    have af2 := block_free HA.out.tb 2
    have al := block_lt HA.out.tb
    simp at a2
    go_upto_region 11 with (first | (go_at_call 23; refine (with_any 0 (by decide) RI _).mono ?_; rintro e w9 ⟨rfl, hw9⟩; rw [hw9]; clear hw9))
    clear a2 af2
    obtain ⟨wf, hwf, k1, k2⟩ := HFM.out
    have KF1 := hide k1
    have KF2 := hide k2
    have AY : Hid (At W cs tb mnum mnode (withB 0 RI) mst (.slice ao m' cap) (V5.setCell ⟨tb, 2, none⟩ (.int .u32 ((withB 0 RI : Nat) : Int))).drew) := ⟨(HA.out.ac.set HTB.out _).next (Below.refl _ _).drew, by
      show (V5.setCell ⟨tb, 2, none⟩ (.int .u32 ((withB 0 RI : Nat) : Int))).heap[tb]? = _
      rw [heap_setCell_same V5 tb 2 _ _ _ HA.out.tb]
      rfl⟩
    have AL := hide (HLL.out.kept AY.out.ac.bel)
    have y1 := AL.out.c 2
    have y2 := AY.out.ac.c HC3.out
    have y3 := block_cell AY.out.tb 0
    have y4 := block_cell AY.out.tb 1
    have y5 := block_cell AY.out.tb 2
    have y6 := block_cell AY.out.tb 3
    have y7 := block_cell AY.out.tb 4
    have y8 := block_lt AL.out.blk
    simp at y1 y3 y4 y5 y6 y7
    clear k1 k2
    generalize ((withB 0 RI : Nat) : Int) = fI at *
    obtain ⟨Vy, hVy⟩ : ∃ Vy, (V5.setCell ⟨tb, 2, none⟩ (.int .u32 fI)) = Vy := ⟨_, rfl⟩
    rw [hVy] at y1 y2 y3 y4 y5 y6 y7 y8 hwf ⊢
    clear AL AY HFM
    refine region_assignP (fun d V => Hid (V = if d = true then wf else Vy.drew)) 7 [3, 5, 6] [(65, .pointer (some ⟨lb, 0, none⟩)), (66, .pointer (some ⟨lb, 0, none⟩)), (67, .pointer (some ⟨lb, 2, none⟩)), (68, .map (some mb)), (69, .pointer (some ⟨W.heap.size, 3, none⟩)), (70, .int .u64 SI), (71, .agg #[.int .u64 (mnum : Nat), .int .i64 mnode, .int .u32 fI, .int .u64 (mst : Nat), (.slice ao m' cap)])] _ (by kernel_rfl) (by decide) (by kernel_rfl) (by kernel_rfl) (by kernel_rfl) (by kernel_rfl) rfl (show Vy.drew = _ from rfl) ?_ (fun V9 HV9 => ?_)
    · simp only [putAll, Act.put, List.setIfInBounds_toArray, List.set_cons_zero, List.set_cons_succ]
      repeat' (first | exact AllPre.nil | refine AllPre.at_ rfl ?_ ?_ | refine AllPre.pre (by decide) (by decide) ?_ ?_ | refine AllPre.off (by decide) (by decide) ?_ ?_)
      all_goals first
        | (intro d
           refine stepTo_yes (by rfl) (fun V hV K hK => ?_)
           go_simp
           exact hK.out _ hV)
        | (refine stepTo_yes (by rfl) (fun V hV K hK => ?_)
           have e : V = Vy.drew := hV.out
           subst e
           go_simp
           exact hK.out _ hV)
        | (refine ⟨by rfl, fun V hV K hK => ?_⟩
           have e : V = Vy.drew := hV.out
           subst e
           go_simp
           exact hK.out _ rfl)
    simp only [putAll, Act.put, List.setIfInBounds_toArray, List.set_cons_zero, List.set_cons_succ]
    have e9 : V9 = wf := HV9.out
    rw [e9]
    clear e9 y1 y2 y3 y4 y5 y6 y7 y8 hwf hVy HV9
    go_wp2
    go_ret
    exact ⟨true, _, rfl, HZ.out, KF1.out, KF2.out⟩
  · -- the same ballot, or a lower one
    have HACC4 := hide (fun z u' e => HACC3.out z u' ((if_neg hls).trans e))
    rw [decide_eq_false hls]
    clear hls HACC3
    have x0 := block_cell A6.out.tb 0
    have x1 := block_cell A6.out.tb 1
    have x2 := block_cell A6.out.tb 2
    have x3 := block_cell A6.out.tb 3
    have x4 := block_cell A6.out.tb 4
    simp at x0 x1 x2 x3 x4
    have m1 := A6.out.ac.c HC1.out
    have m2 := A6.out.ac.c HC2.out
    have m6 := A6.out.ac.c HC6.out
    have m7 := A6.out.ac.c HC7.out
    by_cases hbe : num = mnum ∧ node = mnode
    · obtain ⟨rfl, rfl⟩ := hbe
      have hbn : ∀ w, (binOp BinOp.neq 39 (.agg #[.int .u64 (num : Nat), .int .i64 node]) (.agg #[.int .u64 (num : Nat), .int .i64 node])).run Try.prog w = .ok (.bool false) w := fun w => by
        have := bal_neq (num : Int) (num : Int) node node w
        simpa using this
      have HHS := hide (has_any fr HT2.out.hf RI)
      go_wp2_with fail
      refine (HHS.out _).mono ?_
      rintro e w9 ⟨rfl, hw9⟩
      rw [hw9]
      clear hw9 HHS
      cases hhs : hasB fr RI with
      | true =>
        have HZ := hide (HACC4.out false u (if_neg (fun e => by rw [hhs] at e; exact absurd e.2.2.1 (by decide))))
        have HE := hide (HLL.out.kept A6.out.ac.bel)
        clear hhs
        go_wp2
        go_ret
        exact ⟨false, u, rfl, HZ.out, HE.out.mono (Nat.le_succ _), (below_none A6.out.ac.bel).but _⟩
      | false =>
      have HALK : Hid (Calls Try.prog 22 #[.agg #[.int .u64 (st : Nat), .slice ro n rc], .agg #[.int .u64 (mst : Nat), .slice mro mn mrc]] V6 fun e w' => e = .returned (.bool (decide (st = mst) && decide (rs.map Rq.val = mrs.map Rq.val))) ∧ Hid (Below V6.heap.size V6 w')) := by
        have hb := A6.out.ac.bel
        exact alike_any st mst n mn rc mrc HT2.out.hl HML.out ((HT2.out.hR.below hb).wide hb.size) ((HMR.out.below hb).wide hb.size)
      have HHF := hide hhs
      clear hhs
      go_wp2_with fail
      refine HALK.out.mono ?_
      rintro e V9' ⟨rfl, hb9⟩
      have HA := hide (A6.out.next hb9.out)
      clear x0 x1 x2 x3 x4 m1 m2 m6 m7 hbn HALK hb9
      by_cases hal : st = mst ∧ rs.map Rq.val = mrs.map Rq.val
      · have HZ := hide (HACC4.out _ _ (if_pos (by refine ⟨?_, ?_, HHF.out, hal.1, hal.2⟩ <;> trivial)))
        rw [decide_eq_true hal.1, decide_eq_true hal.2]
        clear hal HACC4
        have HBF : Hid (BtOk V9' st (.slice ro n rc) (rs.map Rq.val)) := ⟨ro, rc, rs, b, off, by rw [HT2.out.hl], rfl, (HT2.out.hR.below HA.out.ac.bel).wide HA.out.ac.bel.size, HT2.out.hs⟩
        have HFR := hide HT2.out.hf
        have HNU := hide HT2.out.hn
        clear A6 HT2
        generalize V9' = V5 at *
        have HFM : Hid (∃ w', (Instr.mapUpdate 73 (.map (some mb)) (.int .u64 SI) (.agg #[.int .u64 (num : Nat), .int .i64 node, .int .u32 ((withB fr RI : Nat) : Int), .int .u64 (st : Nat), .slice ro n rc])).run Try.prog (V5.setCell ⟨tb, 2, none⟩ (.int .u32 ((withB fr RI : Nat) : Int))).drew = .ok () w' ∧ LL w' lb g mb (nn + 1) c low (updT u slot ⟨num, node, withB fr RI, st, rs.map Rq.val⟩) ∧ W.grownBy w' (some mb)) := by
          rw [← HSI.out]
          exact fin_mem HLL.out HNN.out HA.out HTB.out HBF.out HNU.out HMSL.out HLO.out (withB_lt fr RI HFR.out) (withB_pos fr RI HR32.out.1 HR32.out.2)
        clear HBF
        have a2 := block_cell HA.out.tb 2
        have af2 := block_free HA.out.tb 2
        have al := block_lt HA.out.tb
        simp at a2
        go_upto_region 11 with (first | (go_at_call 23; refine (with_any fr HFR.out RI _).mono ?_; rintro e w9 ⟨rfl, hw9⟩; rw [hw9]; clear hw9))
        clear a2 af2
        obtain ⟨wf, hwf, k1, k2⟩ := HFM.out
        have KF1 := hide k1
        have KF2 := hide k2
        have AY : Hid (At W cs tb num node (withB fr RI) st (.slice ro n rc) (V5.setCell ⟨tb, 2, none⟩ (.int .u32 ((withB fr RI : Nat) : Int))).drew) := ⟨(HA.out.ac.set HTB.out _).next (Below.refl _ _).drew, by
          show (V5.setCell ⟨tb, 2, none⟩ (.int .u32 ((withB fr RI : Nat) : Int))).heap[tb]? = _
          rw [heap_setCell_same V5 tb 2 _ _ _ HA.out.tb]
          rfl⟩
        have AL := hide (HLL.out.kept AY.out.ac.bel)
        have y1 := AL.out.c 2
        have y2 := AY.out.ac.c HC3.out
        have y3 := block_cell AY.out.tb 0
        have y4 := block_cell AY.out.tb 1
        have y5 := block_cell AY.out.tb 2
        have y6 := block_cell AY.out.tb 3
        have y7 := block_cell AY.out.tb 4
        have y8 := block_lt AL.out.blk
        simp at y1 y3 y4 y5 y6 y7
        clear k1 k2
        generalize ((withB fr RI : Nat) : Int) = fI at *
        obtain ⟨Vy, hVy⟩ : ∃ Vy, (V5.setCell ⟨tb, 2, none⟩ (.int .u32 fI)) = Vy := ⟨_, rfl⟩
        rw [hVy] at y1 y2 y3 y4 y5 y6 y7 y8 hwf ⊢
        clear AL AY HFM
        refine region_assignP (fun d V => Hid (V = if d = true then wf else Vy.drew)) 7 [3, 5, 6] [(65, .pointer (some ⟨lb, 0, none⟩)), (66, .pointer (some ⟨lb, 0, none⟩)), (67, .pointer (some ⟨lb, 2, none⟩)), (68, .map (some mb)), (69, .pointer (some ⟨W.heap.size, 3, none⟩)), (70, .int .u64 SI), (71, .agg #[.int .u64 (num : Nat), .int .i64 node, .int .u32 fI, .int .u64 (st : Nat), (.slice ro n rc)])] _ (by kernel_rfl) (by decide) (by kernel_rfl) (by kernel_rfl) (by kernel_rfl) (by kernel_rfl) rfl (show Vy.drew = _ from rfl) ?_ (fun V9 HV9 => ?_)
        · simp only [putAll, Act.put, List.setIfInBounds_toArray, List.set_cons_zero, List.set_cons_succ]
          repeat' (first | exact AllPre.nil | refine AllPre.at_ rfl ?_ ?_ | refine AllPre.pre (by decide) (by decide) ?_ ?_ | refine AllPre.off (by decide) (by decide) ?_ ?_)
          all_goals first
            | (intro d
               refine stepTo_yes (by rfl) (fun V hV K hK => ?_)
               go_simp
               exact hK.out _ hV)
            | (refine stepTo_yes (by rfl) (fun V hV K hK => ?_)
               have e : V = Vy.drew := hV.out
               subst e
               go_simp
               exact hK.out _ hV)
            | (refine ⟨by rfl, fun V hV K hK => ?_⟩
               have e : V = Vy.drew := hV.out
               subst e
               go_simp
               exact hK.out _ rfl)
        simp only [putAll, Act.put, List.setIfInBounds_toArray, List.set_cons_zero, List.set_cons_succ]
        have e9 : V9 = wf := HV9.out
        rw [e9]
        clear e9 y1 y2 y3 y4 y5 y6 y7 y8 hwf hVy HV9
        go_wp2
        go_ret
        exact ⟨true, _, rfl, HZ.out, KF1.out, KF2.out⟩
      · have HZ := hide (HACC4.out false u (if_neg (fun e => hal ⟨e.2.2.2.1, e.2.2.2.2⟩)))
        have hal' : (decide (st = mst) && decide (rs.map Rq.val = mrs.map Rq.val)) = false := by
          by_cases e1 : st = mst
          · rw [decide_eq_true e1, decide_eq_false (fun e2 => hal ⟨e1, e2⟩)]; rfl
          · rw [decide_eq_false e1]; rfl
        rw [hal']
        clear hal hal' HACC4
        have HE := hide (HLL.out.kept HA.out.ac.bel)
        go_wp2
        go_ret
        exact ⟨false, u, rfl, HZ.out, HE.out.mono (Nat.le_succ _), (below_none HA.out.ac.bel).but _⟩
    · have hbn : ∀ w, (binOp BinOp.neq 39 (.agg #[.int .u64 (num : Nat), .int .i64 node]) (.agg #[.int .u64 (mnum : Nat), .int .i64 mnode])).run Try.prog w = .ok (.bool true) w := fun w => by
        have h := bal_neq (num : Int) (mnum : Int) node mnode w
        have e : (decide ((num : Int) = (mnum : Int)) && decide (node = mnode)) = false := by
          by_cases e1 : num = mnum
          · rw [decide_eq_false (p := node = mnode) (fun e2 => hbe ⟨e1, e2⟩), Bool.and_false]
          · rw [decide_eq_false (p := (num : Int) = (mnum : Int)) (by omega)]; rfl
        rw [e] at h
        exact h
      have HZ := hide (HACC4.out false u (if_neg (fun e => hbe ⟨e.1, e.2.1⟩)))
      have HE := hide (HLL.out.kept A6.out.ac.bel)
      clear hbe HACC4
      go_wp2
      go_ret
      exact ⟨false, u, rfl, HZ.out, HE.out.mono (Nat.le_succ _), (below_none A6.out.ac.bel).but _⟩
end Go.Proofs.Ytojknconkmplkaa
