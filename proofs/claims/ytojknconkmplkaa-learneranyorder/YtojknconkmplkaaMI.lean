import Derived.Test.YtojknconkmplkaaMA
import Derived.Test.YtojknconkmplkaaBMj
import Derived.Test.YtojknconkmplkaaMF
import Derived.Test.YtojknconkmplkaaMD
import Derived.Maps.RangeWalk
import Derived.Maps.OwnSet
import Derived.Test.YtojknconkmplkaaMH
namespace Go.Proofs.Ytojknconkmplkaa
open Go.RowKit Crc

/-- What a request says. -/
def Rq.val (r : Rq) : Nat × Nat × List Nat := (r.cl, r.sq, r.C)
theorem Rqs.wide {lim lim' : Nat} {w : World} {ro : Option Addr} {rs : List Rq} {b off : Nat} (h : Rqs lim w ro rs b off) (hl : lim ≤ lim') : Rqs lim' w ro rs b off :=
  ⟨h.ad, fun e => Nat.lt_of_lt_of_le (h.lt e) hl, h.le, h.at_, fun r hr => ⟨(h.ok r hr).hc, (h.ok r hr).hs, (h.ok r hr).hC.wide hl⟩⟩
theorem Rqs.nil (lim : Nat) (w : World) (ro : Option Addr) : Rqs lim w ro [] 0 0 := ⟨fun h => by simp at h, fun h => by simp at h, by simp, fun i r h => by simp at h, fun r h => by simp at h⟩
/-- A block none of whose cells is a byte or a list, is none of a batch's. -/
def Odd (w : World) (q : Nat) : Prop := ∀ j v, w.cell? ⟨q, j, none⟩ = some v → (∀ x, v ≠ .int .u8 x) ∧ ∀ a n k, v ≠ .slice a n k
theorem Shows.odd {lim q : Nat} {w w' : World} {ao : Option Addr} {n cap : Nat} {B : List Nat} (h : Shows lim w ao n cap B) (hg : w.grownBy w' (some q)) (ho : Odd w q) : Shows lim w' ao n cap B := by
  obtain ⟨h1, h2, h3, h4, b, off, h5, h6, h7⟩ := h
  refine ⟨h1, h2, h3, h4, b, off, h5, h6, fun i hi => hg.cell (h7 i hi) (fun e => ?_)⟩
  cases e
  exact (ho _ _ (h7 i hi)).1 _ rfl
theorem Rqs.odd {lim q : Nat} {w w' : World} {ro : Option Addr} {rs : List Rq} {b off : Nat} (h : Rqs lim w ro rs b off) (hg : w.grownBy w' (some q)) (ho : Odd w q) : Rqs lim w' ro rs b off := by
  refine ⟨h.ad, h.lt, h.le, fun i r hr j v hv => hg.cell (h.at_ i r hr j v hv) (fun e => ?_), fun r hr => ⟨(h.ok r hr).hc, (h.ok r hr).hs, (h.ok r hr).hC.odd hg ho⟩⟩
  cases e
  exact (ho _ _ (h.at_ i r hr 2 _ rfl)).2 _ _ _ rfl
theorem odd_map {w : World} {q : Nat} {es : Array MapEntry} {k : Nat} (h : w.heap[q]? = some (.map es k)) : Odd w q := by
  intro j v hv
  simp [World.cell?, h] at hv

/-- A tally as it is told. -/
structure Jv where
  (num : Nat) (node : Int) (fr st : Nat) (rs : List (Nat × Nat × List Nat))
def Jv.zero : Jv := ⟨0, 0, 0, 0, []⟩
/-- A tally as it lies. -/
structure Jt where
  (num : Nat) (node : Int) (fr st : Nat) (ro : Option Addr) (n rc : Nat) (rs : List Rq) (b off : Nat)
def Jt.zero : Jt := ⟨0, 0, 0, 0, none, 0, 0, [], 0, 0⟩
def Jt.cells (t : Jt) : Array Value := #[.int .u64 (t.num : Nat), .int .i64 t.node, .int .u32 (t.fr : Nat), .int .u64 (t.st : Nat), .slice t.ro t.n t.rc]
def Jt.abs (t : Jt) : Jv := ⟨t.num, t.node, t.fr, t.st, t.rs.map Rq.val⟩
structure Jt.Ok (lim : Nat) (w : World) (t : Jt) : Prop where
  hn : t.num < 18446744073709551616
  hf : t.fr < 4294967296
  hs : t.st < 18446744073709551616
  hR : Rqs lim w t.ro t.rs t.b t.off
  hl : t.rs.length = t.n
theorem Jt.Ok.below {lim : Nat} {w w' : World} {t : Jt} (h : t.Ok lim w) (hb : Below lim w w') : t.Ok lim w' := ⟨h.hn, h.hf, h.hs, h.hR.below hb, h.hl⟩
theorem Jt.Ok.wide {lim lim' : Nat} {w : World} {t : Jt} (h : t.Ok lim w) (hl : lim ≤ lim') : t.Ok lim' w := ⟨h.hn, h.hf, h.hs, h.hR.wide hl, h.hl⟩
theorem Jt.Ok.odd {lim q : Nat} {w w' : World} {t : Jt} (h : t.Ok lim w) (hg : w.grownBy w' (some q)) (ho : Odd w q) : t.Ok lim w' := ⟨h.hn, h.hf, h.hs, h.hR.odd hg ho, h.hl⟩
theorem Jt.zero_ok (lim : Nat) (w : World) : Jt.zero.Ok lim w := ⟨by decide, by decide, by decide, Rqs.nil lim w none, rfl⟩
theorem Jt.zero_abs : Jt.zero.abs = Jv.zero := rfl

/-- An element reads as itself. -/
def RV : Value → Option (DataW Value × List MemPlace) := fun v => some (.held v, [])
abbrev kU (x : Nat) : Lit := .int .u64 (x : Int)
theorem KD : Maps.Keyed Try.prog 22 := Maps.int_keyed Try.underlying22
theorem kU_wf {x : Nat} (h : x < 18446744073709551616) : (kU x).wf = true := by simp [Lit.wf, IntKind.min, IntKind.max, IntKind.bits, IntKind.signed]; omega
theorem kU_of {x : Nat} (h : x < 18446744073709551616) : keyOf Try.prog 22 (.int .u64 (x : Int)) = some (kU x) := Maps.keyOf_int_mk Try.underlying22 (kU_wf h)
theorem kU_inj {x y : Nat} (h : kU x = kU y) : x = y := by cases h; rfl
/-- The map's block: under each number that tally. -/
def TLm (W : World) (mb n : Nat) (m : Nat → Jt) : Prop :=
  ∃ D : DataW Value, W.ownsMap Try.prog 22 RV mb n D ∧ ∀ x, x < 18446744073709551616 → D.atKey (kU x) (.held (.agg Jt.zero.cells)) = .held (.agg (m x).cells) ∧ (Maps.has D (kU x) = true → 0 < (m x).fr)
theorem TLm.obj {W : World} {mb n : Nat} {m : Nat → Jt} (h : TLm W mb n m) : ∃ es k, W.heap[mb]? = some (.map es k) := by
  obtain ⟨D, ⟨es, k, h1, _⟩, _⟩ := h
  exact ⟨es, k, h1⟩
theorem TLm.odd {W : World} {mb n : Nat} {m : Nat → Jt} (h : TLm W mb n m) : Odd W mb := by
  obtain ⟨es, k, h⟩ := h.obj
  exact odd_map h
theorem TLm.lt {W : World} {mb n : Nat} {m : Nat → Jt} (h : TLm W mb n m) : mb < W.heap.size := by
  obtain ⟨es, k, h⟩ := h.obj
  exact block_lt h
theorem TLm.kept {W W' : World} {mb n : Nat} {m : Nat → Jt} (h : TLm W mb n m) {row : Option Nat} (hg : W.grownBy W' row) (hne : some mb ≠ row) : TLm W' mb n m := by
  obtain ⟨D, h1, h2⟩ := h
  exact ⟨D, h1.kept hg hne, h2⟩
theorem zero_tally (w : World) : (zeroValue 80).run Try.prog w = .ok (.agg Jt.zero.cells) w := by kernel_rfl
theorem TLm.look {W : World} {mb n : Nat} {m : Nat → Jt} (h : TLm W mb n m) {x : Nat} (hx : x < 18446744073709551616) : (Instr.lookup 73 (.map (some mb)) (.int .u64 (x : Int)) false).run Try.prog W = .ok (.agg (m x).cells) W := by
  obtain ⟨D, h1, h2⟩ := h
  obtain ⟨v, ps, hr, hv⟩ := h1.lookup KD Try.underlying73 (zero_tally W) (rfl : RV (.agg Jt.zero.cells) = _) (kU_of hx)
  rw [(h2 x hx).1] at hv
  cases hv
  exact hr
def updT {β : Type} (m : Nat → β) (k : Nat) (v : β) : Nat → β := fun x => if x = k then v else m x
theorem TLm.store {W : World} {mb n : Nat} {m : Nat → Jt} (h : TLm W mb n m) {x : Nat} (hx : x < 18446744073709551616) (hn : n < maxLen) (t : Jt) (hf : 0 < t.fr) :
    ∃ w', (Instr.mapUpdate 73 (.map (some mb)) (.int .u64 (x : Int)) (.agg t.cells)).run Try.prog W = .ok () w' ∧ TLm w' mb (n + 1) (updT m x t) ∧ W.grownBy w' (some mb) := by
  obtain ⟨D, h1, h2⟩ := h
  obtain ⟨w', hr, ho, ht⟩ := h1.store KD Try.underlying73 hn (kU_of hx) (rfl : RV (.agg t.cells) = _)
  refine ⟨w', hr, ⟨_, ho, fun y hy => ?_⟩, ht.grown⟩
  unfold updT
  split
  · rename_i e; subst e; exact ⟨Maps.atKey_put_same (k := kU y) h1.isMap (show WideAt.IsKeyLit (kU y) from trivial) _ _, fun _ => hf⟩
  · rename_i e
    rw [Maps.atKey_put_other (fun h => e (kU_inj h))]
    refine ⟨(h2 y hy).1, fun hh => (h2 y hy).2 ?_⟩
    rw [Maps.has_put_other (fun h => e (kU_inj h))] at hh
    exact hh
theorem tlm_made (W : World) : TLm (W.alloc (.map #[] 0)) W.heap.size 0 (fun _ => Jt.zero) := ⟨.map [], World.ownsMap_made W _ _ _, fun _ _ => ⟨rfl, fun h => (by cases h)⟩⟩

/-- A learner. -/
structure LL (W : World) (lb g mb n : Nat) (c : Cf) (low : Nat) (u : Nat → Jv) : Prop where
  blk : W.heap[lb]? = some (.cells #[.pointer (some ⟨g, 0, none⟩), .int .u64 (low : Nat), .map (some mb)] 75 (0, 0))
  grp : W.heap[g]? = some (.cells c.cells 107 (0, 0))
  tal : ∃ m : Nat → Jt, TLm W mb n m ∧ (∀ x, (m x).Ok W.heap.size W) ∧ ∀ x, (m x).abs = u x
  lo : low ≤ c.ms
  zer : ∀ x, x < low → u x = Jv.zero
theorem LL.pg {W : World} {lb g mb n : Nat} {c : Cf} {low : Nat} {u : Nat → Jv} (h : LL W lb g mb n c low u) : PG W (some ⟨g, 0, none⟩) c := ⟨g, rfl, h.grp⟩
theorem LL.c {W : World} {lb g mb n : Nat} {c : Cf} {low : Nat} {u : Nat → Jv} (h : LL W lb g mb n c low u) (j : Nat) : W.cell? ⟨lb, j, none⟩ = (#[Value.pointer (some ⟨g, 0, none⟩), .int .u64 (low : Nat), .map (some mb)])[j]? := block_cell h.blk j
theorem LL.kept {W W' : World} {lb g mb n : Nat} {c : Cf} {low : Nat} {u : Nat → Jv} (h : LL W lb g mb n c low u) (hb : Below W.heap.size W W') : LL W' lb g mb n c low u := by
  obtain ⟨m, t1, t2, t3⟩ := h.tal
  refine ⟨(hb.block _ (block_lt h.blk)).trans h.blk, (hb.block _ (block_lt h.grp)).trans h.grp, ⟨m, t1.kept (below_none hb) (by simp), fun x => ((t2 x).below hb).wide hb.size, t3⟩, h.lo, h.zer⟩
theorem below_less {w w' : World} {B : Nat} (h : Below w.heap.size w w') (hB : B ≤ w.heap.size) : Below B w w' := h.mono hB
theorem odd_learner {W : World} {lb g low mb : Nat} (h : W.heap[lb]? = some (.cells #[.pointer (some ⟨g, 0, none⟩), .int .u64 (low : Nat), .map (some mb)] 75 (0, 0))) : Odd W lb := by
  intro j v hv
  rw [block_cell h j] at hv
  match j, hv with
  | 0, hv => simp at hv; subst hv; exact ⟨fun _ => by simp, fun _ _ _ => by simp⟩
  | 1, hv => simp at hv; subst hv; exact ⟨fun _ => by simp, fun _ _ _ => by simp⟩
  | 2, hv => simp at hv; subst hv; exact ⟨fun _ => by simp, fun _ _ _ => by simp⟩
  | j + 3, hv => simp at hv
end Go.Proofs.Ytojknconkmplkaa
namespace Go.Proofs.Ytojknconkmplkaa
open Go.RowKit Crc

theorem map_some (b : Nat) (w : World) : (binOp BinOp.neq 73 (.map (some b)) (.map none)).run Try.prog w = .ok (.bool true) w := by kernel_rfl
set_option maxRecDepth 10000 in
set_option maxHeartbeats 800000 in
theorem madeL {W : World} {lb g mb n : Nat} {c : Cf} {low : Nat} {u : Nat → Jv} (h : LL W lb g mb n c low u) : Calls Try.prog 16 #[.pointer (some ⟨lb, 0, none⟩)] W fun e w' => e = .returned (.bool true) ∧ w' = W := by
  have q2 : W.cell? ⟨lb, 2, none⟩ = some (.map (some mb)) := h.c 2
  have ql : lb < W.heap.size := block_lt h.blk
  have hm := map_some mb W
  clear h
  go_enter Try.func16, Try.ntmps16
  go_wp2
  go_ret
  exact ⟨rfl, rfl⟩
set_option maxRecDepth 10000 in
set_option maxHeartbeats 1600000 in
theorem doneL {W : World} {lb g mb n : Nat} {c : Cf} {low : Nat} {u : Nat → Jv} (hk : c.Ok) (h : LL W lb g mb n c low u) (t : Jt) (hf : t.fr < 4294967296) : Calls Try.prog 18 #[.pointer (some ⟨lb, 0, none⟩), .agg t.cells] W fun e w' => e = .returned (.bool (c.maj t.fr)) ∧ Hid (Below W.heap.size W w') := by
  unfold Jt.cells
  obtain ⟨num, node, fr, st, ro, nn, rc, rs, b, off⟩ := t
  simp only at hf ⊢
  obtain ⟨W1, hW1⟩ : ∃ W1, W.alloc (.cells #[.int .u64 (num : Nat), .int .i64 node, .int .u32 (fr : Nat), .int .u64 (st : Nat), .slice ro nn rc] 80) = W1 := ⟨_, rfl⟩
  have B1 : Hid (Below W.heap.size W W1) := by rw [← hW1]; exact below_alloc1 W _
  have C1 : Hid (W1.heap[W.heap.size]? = some (.cells #[.int .u64 (num : Nat), .int .i64 node, .int .u32 (fr : Nat), .int .u64 (st : Nat), .slice ro nn rc] 80 (0, 0))) := by rw [← hW1]; exact alloc_atK _ _
  have HL := hide (h.kept B1.out)
  have KB0 : Hid (∀ V, Hid (Below W1.heap.size W1 V) → V.cell? ⟨W.heap.size, 2, none⟩ = some (.int .u32 (fr : Nat))) := fun V hb => block_cell ((hb.out.block _ (block_lt C1.out)).trans C1.out) 2
  have KP : Hid (∀ V, Hid (Below W1.heap.size W1 V) → V.cell? ⟨lb, 0, none⟩ = some (.pointer (some ⟨g, 0, none⟩))) := fun V hb => (HL.out.kept hb.out).c 0
  have KL : Hid (∀ V, Hid (Below W1.heap.size W1 V) → lb < V.heap.size) := fun V hb => block_lt (HL.out.kept hb.out).blk
  have KM : Hid (∀ V, Hid (Below W1.heap.size W1 V) → Calls Try.prog 37 #[.pointer (some ⟨g, 0, none⟩), .int .u32 (fr : Nat)] V fun e V' => e = .returned (.bool (c.maj fr)) ∧ Below V.heap.size V V') := fun V hb => majority_live fr hf (HL.out.kept hb.out).pg hk
  have KB : Hid (∀ V V', Hid (Below W1.heap.size W1 V) → Below V.heap.size V V' → Hid (Below W1.heap.size W1 V')) := fun V V' h h' => h.out.trans (h'.mono h.out.size)
  have HD1 : Hid (Below W1.heap.size W1 W1.drew) := (Below.refl _ W1).drew
  have HW1 := hide hW1
  clear h hk hf hW1 C1
  generalize c.maj fr = z at *
  generalize (fr : Int) = fr' at *
  go_enter Try.func18, Try.ntmps18
  go_upto_region 1 with fail
  rw [HW1.out]
  clear HW1
  refine region_assign (fun V => Hid (Below W1.heap.size W1 V)) [(5, .pointer (some ⟨lb, 0, none⟩)), (6, .pointer (some ⟨lb, 0, none⟩)), (7, .pointer (some ⟨lb, 0, none⟩)), (8, .pointer (some ⟨g, 0, none⟩)), (9, .pointer (some ⟨W.heap.size, 2, none⟩)), (10, .int .u32 fr'), (11, .bool z), (4, .bool z)] _ (by kernel_rfl) (by kernel_rfl) (by kernel_rfl) (by kernel_rfl) rfl HD1 ?_ (fun V1 HV1 => ?_)
  · simp only [putAll, Act.put, List.setIfInBounds_toArray, List.set_cons_zero, List.set_cons_succ]
    repeat' (first | exact AllTo.nil | refine AllTo.cons ?_ ?_)
    all_goals first
      | exact stepTo_no (by rfl) rfl
      | (refine stepTo_yes (by rfl) (fun V hV K hK => ?_)
         have q0 := KB0.out V hV
         have q2 := KP.out V hV
         have q3 := KL.out V hV
         go_simp
         first
           | exact hK.out _ hV
           | (go_at_call 37; refine (KM.out V hV).mono ?_; rintro e V' ⟨rfl, hV'⟩; exact hK.out _ (KB.out _ _ hV hV')))
  simp only [putAll, Act.put, List.setIfInBounds_toArray, List.set_cons_zero, List.set_cons_succ]
  go_wp2
  go_ret
  exact ⟨rfl, B1.out.trans (HV1.out.mono B1.out.size)⟩
end Go.Proofs.Ytojknconkmplkaa
namespace Go.Proofs.Ytojknconkmplkaa
open Go.RowKit Crc

/-- A request that no leader may have proposed. -/
def badR (v : Nat × Nat × List Nat) : Bool := decide (v.1 < 256) || decide (v.2.1 = 0) || decide (700 < v.2.2.length)
def validB (st : Nat) (rs : List (Nat × Nat × List Nat)) : Bool := decide (st ≤ 1099511627776) && decide (rs.length ≤ 8) && !rs.any badR

set_option maxRecDepth 10000 in
set_option maxHeartbeats 800000 in
theorem wrong_any (r : Rq) (hl : r.cn = r.C.length) (w : World) : Calls Try.prog 48 #[.agg r.cells] w fun e w' => e = .returned (.bool (badR r.val)) ∧ Below w.heap.size w w' := by
  have HB : Hid (∀ o, Below w.heap.size w (w.alloc o)) := fun o => (Below.refl _ _).alloc (Nat.le_refl _) _
  obtain ⟨cl, sq, co, cn, cc, C⟩ := r
  simp only at hl
  have HV : Hid (badR (Rq.mk cl sq co cn cc C).val = (decide (cl < 256) || decide (sq = 0) || decide (700 < cn))) := by show _ = _; rw [hl]; rfl
  clear hl
  rw [HV.out]
  clear HV
  unfold Rq.cells
  by_cases h1 : cl < 256
  · have d1 : decide ((cl : Int) < 256) = true := by simp; omega
    have e1 : decide (cl < 256) = true := by simp [h1]
    rw [e1]
    clear h1 e1
    go_enter Try.func48, Try.ntmps48
    go_wp2
    go_ret
    exact ⟨rfl, HB.out _⟩
  · have d1 : decide ((cl : Int) < 256) = false := by simp; omega
    have e1 : decide (cl < 256) = false := by simp [h1]
    rw [e1]
    clear h1 e1
    by_cases h2 : sq = 0
    · subst h2
      go_enter Try.func48, Try.ntmps48
      go_wp2
      go_ret
      exact ⟨rfl, HB.out _⟩
    · have d2 : ((sq : Int) == 0) = false := by simp; omega
      have e2 : decide (sq = 0) = false := by simp [h2]
      rw [e2]
      clear h2 e2
      by_cases h3 : 700 < cn
      · have d3 : decide ((700 : Int) < (cn : Int)) = true := by simp; omega
        have e3 : decide (700 < cn) = true := by simp [h3]
        rw [e3]
        clear h3 e3
        go_enter Try.func48, Try.ntmps48
        go_wp2
        go_ret
        exact ⟨rfl, HB.out _⟩
      · have d3 : decide ((700 : Int) < (cn : Int)) = false := by simp; omega
        have e3 : decide (700 < cn) = false := by simp [h3]
        rw [e3]
        clear h3 e3
        go_enter Try.func48, Try.ntmps48
        go_wp2
        go_ret
        exact ⟨rfl, HB.out _⟩

theorem any_take {rs : List Rq} {k : Nat} {r : Rq} (hr : rs[k]? = some r) (h : (rs.take k).any (fun r => badR r.val) = false) (h2 : badR r.val = false) : (rs.take (k + 1)).any (fun r => badR r.val) = false := by
  rw [List.take_add_one, hr]
  simp only [List.any_append, h, Option.toList_some, List.any_cons, h2, List.any_nil, Bool.or_false]
theorem any_at {rs : List Rq} {k : Nat} {r : Rq} (hr : rs[k]? = some r) (h2 : badR r.val = true) : rs.any (fun r => badR r.val) = true := by
  rw [List.any_eq_true]
  exact ⟨r, List.mem_of_getElem? hr, h2⟩

set_option maxRecDepth 10000 in
set_option maxHeartbeats 1600000 in
theorem index_any {w : World} {ro : Option Addr} {rs : List Rq} {b off : Nat} (n rc : Nat) (hn : rs.length = n) (h : Rqs w.heap.size w ro rs b off) :
    Calls Try.prog 57 #[.slice ro n rc, .func (.func 48) #[] #[]] w fun e w' => ∃ i : Int, e = .returned (.int .i64 i) ∧ Hid (decide (i ≥ 0) = rs.any (fun r => badR r.val) ∧ Below w.heap.size w w') := by
  have hle := h.le
  rw [hn] at hle
  have H := hide h
  have HN := hide hn
  clear h hn
  go_enter Try.func57, Try.ntmps57
  go_wp2
  go_loopw [5, 8] (fun j i wr => ∃ k : Nat, k ≤ n ∧ i = .int .i64 k ∧ Hid (Below w.heap.size w wr ∧ (rs.take k).any (fun r => badR r.val) = false)) (fun _ i _ => n - (intOf i).toNat)
  case atStart => exact ⟨0, by omega, rfl, Below.refl _ _, rfl⟩
  case round =>
    obtain ⟨k, hk, rfl, HS⟩ := hrel
    by_cases hlt : k < n
    · obtain ⟨r, hr, hd, hok, hbl, rfl, c0, c1, c2⟩ := (H.out.below HS.out.1).get (k := k) (by have := HN.out; omega)
      have HW : Hid (∀ W, Calls Try.prog 48 #[.agg #[.int .u64 (r.cl : Int), .int .u64 (r.sq : Int), .slice r.co r.cn r.cc]] W fun e w' => e = .returned (.bool (badR r.val)) ∧ Below W.heap.size W w') := fun W => wrong_any r hok.hC.1 W
      have HR := hide hr
      clear hr hd hok hbl
      obtain ⟨q, hq⟩ : ∃ q, badR r.val = q := ⟨_, rfl⟩
      have HQ := hide hq
      rw [hq] at HW
      clear hq
      go_wp2_with fail
      refine (HW.out _).mono ?_
      rintro e w1 ⟨rfl, hb1⟩
      have HB1 : Hid (Below w.heap.size w w1) := HS.out.1.trans (hb1.mono HS.out.1.size)
      clear hb1
      cases q with
      | true =>
        go_wp2
        go_ret
        refine ⟨_, rfl, ?_, HB1.out⟩
        rw [any_at HR.out HQ.out]
        simp
      | false =>
        have HT := hide (any_take HR.out HS.out.2 HQ.out)
        go_wp2
        go_roundw
        case rel => exact ⟨k + 1, by omega, by go_num, HB1.out, HT.out⟩
        case measure => simp [intOf]; omega
    · obtain rfl : k = n := by omega
      have HF : Hid (rs.any (fun r => badR r.val) = false) := by have h := HS.out.2; rwa [List.take_of_length_le (by have := HN.out; omega)] at h
      go_wp2
      go_ret
      refine ⟨_, rfl, ?_, HS.out.1⟩
      rw [HF.out]
      rfl

set_option maxRecDepth 10000 in
set_option maxHeartbeats 800000 in
theorem contains_any {w : World} {ro : Option Addr} {rs : List Rq} {b off : Nat} (n rc : Nat) (hn : rs.length = n) (h : Rqs w.heap.size w ro rs b off) :
    Calls Try.prog 49 #[.slice ro n rc, .func (.func 48) #[] #[]] w fun e w' => e = .returned (.bool (rs.any (fun r => badR r.val))) ∧ Hid (Below w.heap.size w w') := by
  have HI := hide (index_any n rc hn h)
  clear h hn
  go_enter Try.func49, Try.ntmps49
  go_wp2_with fail
  refine HI.out.mono ?_
  rintro e w1 ⟨i, rfl, G⟩
  clear HI
  go_wp2
  go_ret
  exact ⟨by rw [← G.out.1]; rfl, G.out.2⟩

set_option maxRecDepth 10000 in
set_option maxHeartbeats 1600000 in
theorem validBatch_any {w : World} (st : Nat) {ro : Option Addr} {rs : List Rq} {b off : Nat} (n rc : Nat) (hn : rs.length = n) (h : Rqs w.heap.size w ro rs b off) :
    Calls Try.prog 36 #[.agg #[.int .u64 (st : Nat), .slice ro n rc]] w fun e w' => e = .returned (.bool (validB st (rs.map Rq.val))) ∧ Hid (Below w.heap.size w w') := by
  have HB : Hid (∀ o, Below w.heap.size w (w.alloc o)) := fun o => (Below.refl _ _).alloc (Nat.le_refl _) _
  have HV : Hid (validB st (rs.map Rq.val) = (decide (st ≤ 1099511627776) && decide (n ≤ 8) && !rs.any (fun r => badR r.val))) := by
    show _ = _
    unfold validB
    rw [List.length_map, hn, List.any_map]
    rfl
  have HC : Hid (∀ o, Calls Try.prog 49 #[.slice ro n rc, .func (.func 48) #[] #[]] (w.alloc o) fun e w' => e = .returned (.bool (rs.any (fun r => badR r.val))) ∧ Hid (Below w.heap.size w w')) := fun o => by
    refine (contains_any (w := w.alloc o) n rc hn ((h.below (HB.out o)).wide (HB.out o).size)).mono ?_
    rintro e w' ⟨rfl, g⟩
    exact ⟨rfl, (HB.out o).trans (g.out.mono (HB.out o).size)⟩
  clear h hn
  rw [HV.out]
  clear HV
  generalize rs.any (fun r => badR r.val) = q at *
  by_cases h1 : st ≤ 1099511627776
  · have d1 : decide ((st : Int) ≤ 1099511627776) = true := by simp; omega
    have e1 : decide (st ≤ 1099511627776) = true := by simp [h1]
    rw [e1]
    clear h1 e1
    by_cases h2 : n ≤ 8
    · have d2 : decide ((n : Int) ≤ 8) = true := by simp; omega
      have e2 : decide (n ≤ 8) = true := by simp [h2]
      rw [e2]
      clear h2 e2
      go_enter Try.func36, Try.ntmps36
      go_wp2_with fail
      refine (HC.out _).mono ?_
      rintro e w1 ⟨rfl, G⟩
      go_wp2
      go_ret
      exact ⟨by cases q <;> rfl, G.out⟩
    · have d2 : decide ((n : Int) ≤ 8) = false := by simp; omega
      have e2 : decide (n ≤ 8) = false := by simp [h2]
      rw [e2]
      clear h2 e2
      go_enter Try.func36, Try.ntmps36
      go_wp2
      go_ret
      exact ⟨rfl, HB.out _⟩
  · have d1 : decide ((st : Int) ≤ 1099511627776) = false := by simp; omega
    have e1 : decide (st ≤ 1099511627776) = false := by simp [h1]
    rw [e1]
    clear h1 e1
    go_enter Try.func36, Try.ntmps36
    go_wp2
    go_ret
    exact ⟨rfl, HB.out _⟩
end Go.Proofs.Ytojknconkmplkaa
