import Derived.Test.YthfbimbadkmhhaaMIC
import Derived.Test.YthfbimbadkmhhaaMID
import Derived.Test.YthfbimbadkmhhaaMIE
import Derived.Test.YthfbimbadkmhhaaMIG
import Derived.Test.YthfbimbadkmhhaaMIH
import Derived.Test.YthfbimbadkmhhaaMII
import Derived.Test.YthfbimbadkmhhaaMEBt
namespace Go.Proofs.Ythfbimbadkmhhaa
open Go.RowKit Crc

/-- An Op as it lies: 57 cells, a request, a batch and a message among them. -/
structure Oq where
  (oc : List Value) (kd : Int) (r : Rq) (st : Nat) (ro : Option Addr) (rc : Nat) (rs : List Rq) (b off src : Nat) (cs : List Value) (kind : Int) (num : Nat) (node : Int) (susp : Bool) (now : Nat)
structure Oq.Ok (lim : Nat) (w : World) (o : Oq) : Prop where
  len : o.oc.length = 57
  one : ∀ v ∈ o.oc, v.oneCell' = true
  c0 : o.oc[0]? = some (.int .i64 o.kd)
  c1 : o.oc[1]? = some (.int .u64 (o.r.cl : Int))
  c2 : o.oc[2]? = some (.int .u64 (o.r.sq : Int))
  c3 : o.oc[3]? = some (.slice o.r.co o.r.cn o.r.cc)
  c4 : o.oc[4]? = some (.int .u64 (o.st : Nat))
  c5 : o.oc[5]? = some (.slice o.ro o.rs.length o.rc)
  c6 : o.oc[6]? = some (.int .u64 (o.src : Nat))
  mid : ∀ j, j < 49 → o.oc[7 + j]? = o.cs[j]?
  c56 : o.oc[56]? = some (.int .u64 (o.now : Nat))
  msg : MsgC o.cs o.kind o.num o.node o.susp
  hs : o.src < 18446744073709551616
  hn : o.now < 18446744073709551616
  hr : o.r.Ok lim w
  hR : Rqs lim w o.ro o.rs o.b o.off
theorem Oq.Ok.below {lim : Nat} {w w' : World} {o : Oq} (h : o.Ok lim w) (hb : Below lim w w') : o.Ok lim w' := ⟨h.len, h.one, h.c0, h.c1, h.c2, h.c3, h.c4, h.c5, h.c6, h.mid, h.c56, h.msg, h.hs, h.hn, h.hr.below hb, h.hR.below hb⟩
theorem Oq.Ok.wide {lim lim' : Nat} {w : World} {o : Oq} (h : o.Ok lim w) (hl : lim ≤ lim') : o.Ok lim' w := ⟨h.len, h.one, h.c0, h.c1, h.c2, h.c3, h.c4, h.c5, h.c6, h.mid, h.c56, h.msg, h.hs, h.hn, ⟨h.hr.hc, h.hr.hs, h.hr.hC.wide hl⟩, h.hR.wide hl⟩
/-- What a call does to what the election says. -/
def StepR (c : Cf) (me : Nat) (s : Ev) (o : Oq) (z : Bool) (s' : Ev) : Prop :=
  if o.kd = 3 then (s', z) = Ev.beat c s o.src o.kind o.num o.node o.susp o.now
  else if o.kd = 4 then (s', z) = Ev.timeout c me s o.now
  else if o.kd = 5 then (s', z) = Ev.quorum c s o.now
  else s'.num = s.num ∧ s'.node = s.node ∧ s'.sus = s.sus ∧ s'.len = s.len
/-- A call over memory that was lent, which is spoilt behind it. -/
theorem Did.lent {W W4 W5 W7 W8 : World} {eb g : Nat} {c : Cf} {me : Nat} {fp : Nat → Prop} {x : Ex} {s : Ev} {lo hi : Nat} (h : EL W eb g c me fp x) (b4 : Below W.heap.size W W4) (D : Did W4 eb g c me fp s W5) (b7 : Below W5.heap.size W5 W7) (f8 : Fe W7 W8 (fun b => lo ≤ b ∧ b < hi)) (h1 : W.heap.size ≤ lo) (h2 : hi ≤ W4.heap.size) : Did W eb g c me fp s W8 := by
  obtain ⟨fp', x', d1, d2, d3, d4⟩ := D
  have hE7 := d1.kept b7
  have hg := block_lt h.grp
  have he := h.lt
  refine ⟨fp', x', hE7.fe f8 (fun b hb e => ?_) (fun e => by omega) (fun e => by omega), d2, ?_, fun b hb => ?_⟩
  · rcases d4 b hb with e2 | e2
    · have := h.flt b e2; omega
    · omega
  · exact ((Fe.below b4 (Mine eb fp)).trans d3 (fun _ _ e => e)).trans ((Fe.below b7 (fun b => lo ≤ b ∧ b < hi)).trans f8 (fun _ _ e => e)) (fun j hj e => by omega)
  · rcases d4 b hb with e2 | e2
    · exact .inl e2
    · exact .inr (by have := b4.size; omega)
/-- What a call of an election leaves of memory that is not the election's. -/
theorem Did.out {W W' : World} {eb g : Nat} {c : Cf} {me : Nat} {fp : Nat → Prop} {s : Ev} (D : Did W eb g c me fp s W') : Fe W W' (Mine eb fp) := by
  obtain ⟨_, _, _, _, d3, _⟩ := D
  exact d3
theorem EL.mine_lt {W : World} {eb g : Nat} {c : Cf} {me : Nat} {fp : Nat → Prop} {x : Ex} (h : EL W eb g c me fp x) : ∀ b, Mine eb fp b → b < W.heap.size := by
  rintro b (e | e)
  · rw [e]; exact h.lt
  · exact h.flt b e
theorem rqs_one {w : World} {B : Nat} {r : Rq} (hb : w.heap[B]? = some (.cells #[.int .u64 (r.cl : Int), .int .u64 (r.sq : Int), .slice r.co r.cn r.cc] 37 (0, 0))) (hr : r.Ok w.heap.size w) : Rqs w.heap.size w (some ⟨B, 0, none⟩) [r] B 0 := by
  refine ⟨fun _ => rfl, fun _ => block_lt hb, by simp, fun i q hi j v hv => ?_, fun q hq => ?_⟩
  · match i, hi with
    | 0, hi =>
      simp at hi
      subst hi
      rw [Nat.zero_mul, Nat.zero_add, block_cell hb j]
      exact hv
    | i + 1, hi => simp at hi
  · simp at hq
    subst hq
    exact hr
theorem Lb.one {lo hi R : Nat} {w : World} {rs : List Rq} (h : Lb lo hi w R 1 rs) : ∃ r : Rq, w.cell? ⟨R, 0, none⟩ = some (.int .u64 (r.cl : Int)) ∧ w.cell? ⟨R, 1, none⟩ = some (.int .u64 (r.sq : Int)) ∧ w.cell? ⟨R, 2, none⟩ = some (.slice r.co r.cn r.cc) ∧ R < w.heap.size ∧ r.Ok w.heap.size w := by
  have hl := h.len
  have hr : rs[0]? = some (rs[0]'(by omega)) := List.getElem?_eq_getElem (by omega)
  have q := h.lq _ (List.mem_of_getElem? hr)
  obtain ⟨c0, c1, c2, c3, _⟩ := row_read h.row (by simp [hl]) (i := 0) (r := rs[0]'(by omega)) (by rw [List.getElem?_append_left (by omega)]; exact hr)
  exact ⟨_, c0, c1, c2, c3, q.ok⟩
set_option maxRecDepth 10000 in
set_option maxHeartbeats 3200000 in
theorem call1 {W : World} {eb g : Nat} {c : Cf} {me : Nat} {fp : Nat → Prop} {x : Ex} (h : EL W eb g c me fp x) {lim : Nat} (hlw : lim ≤ W.heap.size) (hmi : ∀ b, Mine eb fp b → lim ≤ b) {o : Oq} (ho : o.Ok lim W) (hk : o.kd = 1) :
    Calls Try.prog 11 #[.pointer (some ⟨eb, 0, none⟩), .agg o.oc.toArray] W fun e W' => ∃ z th, e = .returned (.tuple #[.bool z, .bool true]) ∧ Hid (Did W eb g c me fp ⟨x.num, x.node, x.sus, x.len, x.fin, x.ps.map Rq.val, th⟩ W') := by
  obtain ⟨W1, hW1⟩ : ∃ W1, W.alloc (.cells o.oc.toArray 51) = W1 := ⟨_, rfl⟩
  have B1 : Below W.heap.size W W1 := by rw [← hW1]; exact below_alloc1 W _
  have C1 : W1.heap[W.heap.size]? = some (.cells o.oc.toArray 51 (0, 0)) := by rw [← hW1]; exact alloc_atK _ _
  obtain ⟨W2, hW2⟩ : ∃ W2, W1.alloc (.cells #[.int .u64 (o.r.cl : Int), .int .u64 (o.r.sq : Int), .slice o.r.co o.r.cn o.r.cc] 37) = W2 := ⟨_, rfl⟩
  have B2' : Below W1.heap.size W1 W2 := by rw [← hW2]; exact below_alloc1 W1 _
  have C2 : W2.heap[W1.heap.size]? = some (.cells #[.int .u64 (o.r.cl : Int), .int .u64 (o.r.sq : Int), .slice o.r.co o.r.cn o.r.cc] 37 (0, 0)) := by rw [← hW2]; exact alloc_atK _ _
  have B2 : Below W.heap.size W W2 := B1.trans (B2'.mono B1.size)
  have hr2 : o.r.Ok W2.heap.size W2 := ((ho.below (B2.mono hlw)).wide (Nat.le_trans hlw B2.size)).hr
  have C12 := (B2'.block _ (block_lt C1)).trans C1
  -- the rest of the call, as one chain of contracts
  have HL : Hid (Calls Try.prog 15 #[.agg #[.int .u64 0, .slice (some ⟨W1.heap.size, 0, none⟩) 1 1]] W2 fun e W3 => ∃ R, e = .returned (.agg #[.int .u64 0, .slice (some ⟨R, 0, none⟩) 1 2]) ∧ Hid (∀ V4, V4 = W3.alloc (.cells #[.int .u64 0, .slice (some ⟨R, 0, none⟩) 1 2] 40) → ∃ r : Rq, (V4.cell? ⟨W3.heap.size, 1, none⟩ = some (.slice (some ⟨R, 0, none⟩) 1 2) ∧ W3.heap.size < V4.heap.size ∧ V4.cell? ⟨R, 0, none⟩ = some (.int .u64 (r.cl : Int)) ∧ V4.cell? ⟨R, 1, none⟩ = some (.int .u64 (r.sq : Int)) ∧ V4.cell? ⟨R, 2, none⟩ = some (.slice r.co r.cn r.cc) ∧ R < V4.heap.size) ∧ Hid (Calls Try.prog 16 #[.pointer (some ⟨eb, 0, none⟩), .agg #[.int .u64 (r.cl : Int), .int .u64 (r.sq : Int), .slice r.co r.cn r.cc]] V4 fun e W5 => ∃ z, e = .returned (.bool z) ∧ Hid ((W5.cell? ⟨W3.heap.size, 0, none⟩ = some (.int .u64 0) ∧ W5.cell? ⟨W3.heap.size, 1, none⟩ = some (.slice (some ⟨R, 0, none⟩) 1 2) ∧ W3.heap.size < W5.heap.size ∧ W5.cell? ⟨W.heap.size, 1, none⟩ = some (.int .u64 (o.r.cl : Int)) ∧ W5.cell? ⟨W.heap.size, 2, none⟩ = some (.int .u64 (o.r.sq : Int)) ∧ W5.cell? ⟨W.heap.size, 3, none⟩ = some (.slice o.r.co o.r.cn o.r.cc) ∧ W.heap.size < W5.heap.size) ∧ Calls Try.prog 17 #[.agg #[.int .u64 0, .slice (some ⟨R, 0, none⟩) 1 2], .agg #[.int .u64 0, .slice (some ⟨W5.heap.size, 0, none⟩) 1 1]] (W5.alloc (.cells #[.int .u64 (o.r.cl : Int), .int .u64 (o.r.sq : Int), .slice o.r.co o.r.cn o.r.cc] 37)) fun e W7 => e = .returned (.bool true) ∧ Hid ((W7.cell? ⟨W3.heap.size, 0, none⟩ = some (.int .u64 0) ∧ W7.cell? ⟨W3.heap.size, 1, none⟩ = some (.slice (some ⟨R, 0, none⟩) 1 2) ∧ W3.heap.size < W7.heap.size) ∧ Calls Try.prog 18 #[.agg #[.int .u64 0, .slice (some ⟨R, 0, none⟩) 1 2]] W7 fun e W8 => e = .returned (.tuple #[]) ∧ Hid (∃ th, Did W eb g c me fp ⟨x.num, x.node, x.sus, x.len, x.fin, x.ps.map Rq.val, th⟩ W8)))))) := by
    refine (lendE 0 1 1 rfl (rqs_one C2 hr2)).mono ?_
    rintro e W3 ⟨R, rfl, G⟩
    refine ⟨R, rfl, fun V4 hV4 => ?_⟩
    obtain ⟨rs1, hv, b3, hL⟩ := G.out
    have b34 : Below W3.heap.size W3 V4 := by rw [hV4]; exact below_alloc1 W3 _
    have cB : V4.heap[W3.heap.size]? = some (.cells #[.int .u64 0, .slice (some ⟨R, 0, none⟩) 1 2] 40 (0, 0)) := by rw [hV4]; exact alloc_atK _ _
    have hL4 := hL.fe (Fe.below b34 (fun _ => False)) (fun _ _ _ e => e)
    have b24 : Below W2.heap.size W2 V4 := b3.trans (b34.mono b3.size)
    have b4 : Below W.heap.size W V4 := B2.trans (b24.mono B2.size)
    obtain ⟨r, q0, q1, q2, ql, hrk⟩ := hL4.one
    refine ⟨r, ⟨block_cell cB 1, block_lt cB, q0, q1, q2, ql⟩, ?_⟩
    obtain ⟨cl, sq, co, cn, cc, C⟩ := r
    refine (request_any (h.kept b4) cl sq co cn cc C hrk).mono ?_
    rintro e W5 ⟨z, th, rfl, D⟩
    refine ⟨z, rfl, ?_⟩
    have f5 := Did.out D.out
    have hml := h.mine_lt
    have s2 := B2.size
    have s1 := B1.size
    have s21 := B2'.size
    have s3 := b3.size
    have s34 := b34.size
    have sW1 : W1.heap.size = W.heap.size + 1 := by rw [← hW1]; simp
    have s5 := f5.size
    have cB5 := (f5.block _ (block_lt cB) (fun e => by have := hml _ e; omega)).trans cB
    have C15 := (f5.block W.heap.size (by omega) (fun e => by have := hml _ e; omega)).trans ((b24.block _ (block_lt C12)).trans C12)
    have hL5 := hL4.fe f5 (fun b h1 h2 e => by have := hml _ e; omega)
    refine ⟨⟨block_cell cB5 0, block_cell cB5 1, block_lt cB5, blk_cellE C15 ho.c1, blk_cellE C15 ho.c2, blk_cellE C15 ho.c3, block_lt C15⟩, ?_⟩
    have b56 := below_alloc1 W5 (.cells #[.int .u64 (o.r.cl : Int), .int .u64 (o.r.sq : Int), .slice o.r.co o.r.cn o.r.cc] 37)
    have cQ := alloc_atK W5 (.cells #[.int .u64 (o.r.cl : Int), .int .u64 (o.r.sq : Int), .slice o.r.co o.r.cn o.r.cc] 37)
    generalize W5.alloc (.cells #[.int .u64 (o.r.cl : Int), .int .u64 (o.r.sq : Int), .slice o.r.co o.r.cn o.r.cc] 37) = W6 at *
    have b5l : Below lim W W5 := (b4.mono hlw).trans (f5.toBelow lim (by omega) hmi)
    have b6l : Below lim W W6 := b5l.trans (b56.mono (by omega))
    have hr6 : o.r.Ok W6.heap.size W6 := ((ho.below b6l).wide (by have := b56.size; omega)).hr
    have hL6 := hL5.fe (Fe.below b56 (fun _ => False)) (fun _ _ _ e => e)
    refine (keptE 0 hL6 1 rfl (rqs_one cQ hr6) hv).mono ?_
    rintro e W7 ⟨rfl, H7⟩
    have b57 : Below W5.heap.size W5 W7 := b56.trans (H7.out.mono b56.size)
    have cB7 := (b57.block _ (block_lt cB5)).trans cB5
    have hL7 := hL6.fe (Fe.below H7.out (fun _ => False)) (fun _ _ _ e => e)
    refine ⟨rfl, ⟨block_cell cB7 0, block_cell cB7 1, block_lt cB7⟩, (spoilE 0 hL7.sp).mono ?_⟩
    rintro e W8 ⟨rfl, H8⟩
    exact ⟨rfl, th, Did.lent h b4 D.out b57 H8.out (by omega) (by omega)⟩
  have z0 : W1.cell? ⟨W.heap.size, 0, none⟩ = some (.int .i64 1) := by rw [← hk]; exact blk_cellE C1 ho.c0
  have z1 := blk_cellE C1 ho.c1
  have z2 := blk_cellE C1 ho.c2
  have z3 := blk_cellE C1 ho.c3
  have zl := block_lt C1
  have HW1 := hide hW1
  have HW2 := hide hW2
  clear ho h B1 C1 C12 B2 B2' C2 hr2 hW1 hW2 hk hmi hlw
  generalize (o.r.cl : Int) = ci at *
  generalize (o.r.sq : Int) = si at *
  generalize o.r.co = co at *
  generalize o.r.cn = cn at *
  generalize o.r.cc = cc at *
  generalize o.oc = oc at *
  go_enter Try.func11, Try.ntmps11
  go_upto_region 1 with fail
  rw [HW1.out]
  clear HW1
  generalize W.heap.size = ob at *
  go_upto_region 5 with fail
  go_wp2_with fail
  rw [HW2.out]
  refine HL.out.mono ?_
  rintro e W3 ⟨R, rfl, G⟩
  clear z0 z1 z2 z3 zl HW2 HL
  go_upto_region 6 with fail
  obtain ⟨V4, hV4⟩ : ∃ V4, V4 = W3.alloc (.cells #[.int .u64 0, .slice (some ⟨R, 0, none⟩) 1 2] 40) := ⟨_, rfl⟩
  rw [← hV4]
  obtain ⟨r, ⟨a1, al, q0, q1, q2, ql⟩, HRQ⟩ := G.out V4 hV4
  clear hV4 G
  generalize (r.cl : Int) = rci at *
  generalize (r.sq : Int) = rsi at *
  generalize r.co = rco at *
  generalize r.cn = rcn at *
  generalize r.cc = rcc at *
  go_wp2_with fail
  refine HRQ.out.mono ?_
  rintro e W5 ⟨z, rfl, G5⟩
  clear a1 al q0 q1 q2 ql HRQ
  obtain ⟨a0, a1, al, z1, z2, z3, zl⟩ := G5.out.1
  have HK := hide G5.out.2
  clear G5
  go_wp2_with fail
  refine HK.out.mono ?_
  rintro e W7 ⟨rfl, G7⟩
  clear a0 a1 al z1 z2 z3 zl HK
  obtain ⟨a0, a1, al⟩ := G7.out.1
  have HS := hide G7.out.2
  clear G7
  go_wp2_with fail
  refine HS.out.mono ?_
  rintro e W8 ⟨rfl, G8⟩
  clear a0 a1 al HS
  go_wp2
  refine bodyPost_ret (v := .tuple #[.bool z, .bool true]) (by simp [results, Try.results11, go_sem]) rfl ?_
  obtain ⟨th, D⟩ := G8.out
  exact ⟨z, th, rfl, D⟩
end Go.Proofs.Ythfbimbadkmhhaa
