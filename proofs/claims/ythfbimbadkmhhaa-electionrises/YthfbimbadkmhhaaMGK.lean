import Derived.Test.YthfbimbadkmhhaaMGJ
import Derived.Test.YthfbimbadkmhhaaMGN
namespace Go.Proofs.Ythfbimbadkmhhaa
open Go.RowKit Crc

/-- A request that a client may have asked. -/
def goodR (v : Rv) : Bool := decide (256 ≤ v.1) && decide (0 < v.2.1) && decide (v.2.2.length ≤ 700)
set_option maxRecDepth 10000 in
set_option maxHeartbeats 800000 in
theorem validReqE (cl sq : Nat) (co : Option Addr) (cn cc : Nat) (C : List Nat) (hl : cn = C.length) (w : World) : Calls Try.prog 31 #[.agg #[.int .u64 (cl : Int), .int .u64 (sq : Int), .slice co cn cc]] w fun e w' => e = .returned (.bool (goodR (cl, sq, C))) ∧ Hid (Below w.heap.size w w') := by
  have HB : Hid (∀ o, Below w.heap.size w (w.alloc o)) := fun o => (Below.refl _ _).alloc (Nat.le_refl _) _
  have HV : Hid (goodR (cl, sq, C) = (decide (256 ≤ cl) && decide (0 < sq) && decide (cn ≤ 700))) := by show _ = _; rw [hl]; rfl
  rw [HV.out]
  clear HV hl
  have e1 : decide (256 ≤ cl) = decide ((256 : Int) ≤ (cl : Int)) := decide_eq_decide.2 (by omega)
  have e2 : decide (0 < sq) = decide ((0 : Int) < (sq : Int)) := decide_eq_decide.2 (by omega)
  have e3 : decide (cn ≤ 700) = decide ((cn : Int) ≤ 700) := decide_eq_decide.2 (by omega)
  rw [e1, e2, e3]
  clear e1 e2 e3
  generalize (cl : Int) = ci at *
  generalize (sq : Int) = si at *
  cases h1 : decide ((256 : Int) ≤ ci) with
  | false =>
    go_enter Try.func31, Try.ntmps31
    go_wp2
    go_ret
    exact ⟨rfl, HB.out _⟩
  | true =>
    cases h2 : decide ((0 : Int) < si) with
    | false =>
      go_enter Try.func31, Try.ntmps31
      go_wp2
      go_ret
      exact ⟨rfl, HB.out _⟩
    | true =>
      cases h3 : decide ((cn : Int) ≤ 700) with
      | false =>
        go_enter Try.func31, Try.ntmps31
        go_wp2
        go_ret
        exact ⟨rfl, HB.out _⟩
      | true =>
        go_enter Try.func31, Try.ntmps31
        go_wp2
        go_ret
        exact ⟨rfl, HB.out _⟩
/-- One makes the other needless. -/
def overR (k r : Rv) : Bool := decide (k.1 = r.1) && decide (r.2.1 ≤ k.2.1)
set_option maxRecDepth 10000 in
set_option maxHeartbeats 800000 in
theorem over_any (k : Rq) (rb cl sq : Nat) (u : Value) (C : List Nat) {w : World} (hb : w.heap[rb]? = some (.cells #[.int .u64 (cl : Int), .int .u64 (sq : Int), u] 37 (0, 0))) :
    Calls Try.prog 50 #[.agg #[.int .u64 (k.cl : Int), .int .u64 (k.sq : Int), .slice k.co k.cn k.cc], .pointer (some ⟨rb, 0, none⟩)] w fun e w' => e = .returned (.bool (overR k.val (cl, sq, C))) ∧ Below w.heap.size w w' := by
  have HB : Hid (∀ o, Below w.heap.size w (w.alloc o)) := fun o => (Below.refl _ _).alloc (Nat.le_refl _) _
  have HV : Hid (overR k.val (cl, sq, C) = (((k.cl : Int) == (cl : Int)) && decide ((sq : Int) ≤ (k.sq : Int)))) := by
    show _ = _
    unfold overR Rq.val
    simp only
    congr 1
    · by_cases h : k.cl = cl
      · simp [h]
      · have h2 : ¬ (k.cl : Int) = (cl : Int) := by omega
        rw [decide_eq_false h, beq_eq_false_iff_ne.2 h2]
    · exact decide_eq_decide.2 (by omega)
  rw [HV.out]
  clear HV
  have q0 : w.cell? ⟨rb, 0, none⟩ = some (.int .u64 (cl : Int)) := block_cell hb 0
  have q1 : w.cell? ⟨rb, 1, none⟩ = some (.int .u64 (sq : Int)) := block_cell hb 1
  have ql := block_lt hb
  have qn : ¬ rb = w.heap.size := by omega
  have q0' := cell_alloc_l' (.cells #[.int .u64 (k.cl : Int), .int .u64 (k.sq : Int), .slice k.co k.cn k.cc] 37) q0
  have q1' := cell_alloc_l' (.cells #[.int .u64 (k.cl : Int), .int .u64 (k.sq : Int), .slice k.co k.cn k.cc] 37) q1
  clear hb q0 q1
  generalize (k.cl : Int) = kc at *
  generalize (k.sq : Int) = kq at *
  generalize (cl : Int) = ci at *
  generalize (sq : Int) = si at *
  cases h1 : (kc == ci) with
  | false =>
    go_enter Try.func50, Try.ntmps50
    go_wp2
    go_ret
    exact ⟨rfl, HB.out _⟩
  | true =>
    go_enter Try.func50, Try.ntmps50
    go_wp2
    go_ret
    exact ⟨rfl, HB.out _⟩
theorem anyO_take {f : Rq → Bool} {rs : List Rq} {k : Nat} {r : Rq} (hr : rs[k]? = some r) (h : (rs.take k).any f = false) (h2 : f r = false) : (rs.take (k + 1)).any f = false := by
  rw [List.take_add_one, hr]
  simp only [List.any_append, h, Option.toList_some, List.any_cons, h2, List.any_nil, Bool.or_false]
theorem anyO_at {f : Rq → Bool} {rs : List Rq} {k : Nat} {r : Rq} (hr : rs[k]? = some r) (h2 : f r = true) : rs.any f = true := by
  rw [List.any_eq_true]
  exact ⟨r, List.mem_of_getElem? hr, h2⟩
set_option maxRecDepth 10000 in
set_option maxHeartbeats 1600000 in
/-- IndexFunc over a queue, of any predicate that only makes new memory: -1, or the first place. -/
theorem indexQ {w : World} {ro : Option Addr} {rs : List Rq} {b off : Nat} (n rc : Nat) (hn : rs.length = n) (h : Rqs w.heap.size w ro rs b off) (F : Nat) (cap : Value) (f : Rq → Bool) (hce : ∀ (a : Value) (w : World), (callFunc F #[a, cap]).run Try.prog w = .ok (.enter F #[a, cap]) w)
    (hf : ∀ (k : Rq) (W : World), Below w.heap.size w W → Calls Try.prog F #[.agg #[.int .u64 (k.cl : Int), .int .u64 (k.sq : Int), .slice k.co k.cn k.cc], cap] W fun e w' => e = .returned (.bool (f k)) ∧ Below W.heap.size W w') :
    Calls Try.prog 56 #[.slice ro n rc, .func (.func F) #[] #[cap]] w fun e w' => ∃ i : Int, e = .returned (.int .i64 i) ∧ Hid (((i = -1 ∧ rs.any f = false) ∨ ∃ k : Nat, i = (k : Int) ∧ k < n ∧ (rs.take k).any f = false ∧ ∃ r, rs[k]? = some r ∧ f r = true) ∧ Below w.heap.size w w') := by
  have hle := h.le
  rw [hn] at hle
  have H := hide h
  have HN := hide hn
  have HFF := hide hf
  clear h hn hf
  go_enter Try.func56, Try.ntmps56
  go_wp2
  go_loopw [5, 8] (fun j i wr => ∃ k : Nat, k ≤ n ∧ i = .int .i64 k ∧ Hid (Below w.heap.size w wr ∧ (rs.take k).any f = false)) (fun _ i _ => n - (intOf i).toNat)
  case atStart => exact ⟨0, by omega, rfl, Below.refl _ _, rfl⟩
  case round =>
    obtain ⟨k, hk, rfl, HS⟩ := hrel
    by_cases hlt : k < n
    · obtain ⟨r, hr, hd, hok, hbl, rfl, c0, c1, c2⟩ := (H.out.below HS.out.1).get (k := k) (by have := HN.out; omega)
      have HW := hide (HFF.out r wr HS.out.1)
      have HR := hide hr
      clear hr hd hok hbl
      obtain ⟨q, hq⟩ : ∃ q, f r = q := ⟨_, rfl⟩
      have HQ := hide hq
      rw [hq] at HW
      clear hq
      go_wp2_with fail
      refine HW.out.mono ?_
      rintro e w1 ⟨rfl, hb1⟩
      have HB1 : Hid (Below w.heap.size w w1) := HS.out.1.trans (hb1.mono HS.out.1.size)
      clear hb1
      cases q with
      | true =>
        go_wp2
        go_ret
        exact ⟨_, rfl, .inr ⟨k, rfl, hlt, HS.out.2, r, HR.out, HQ.out⟩, HB1.out⟩
      | false =>
        have HT := hide (anyO_take HR.out HS.out.2 HQ.out)
        go_wp2
        go_roundw
        case rel => exact ⟨k + 1, by omega, by go_num, HB1.out, HT.out⟩
        case measure => simp [intOf]; omega
    · obtain rfl : k = n := by omega
      have HF : Hid (rs.any f = false) := by have h := HS.out.2; rwa [List.take_of_length_le (by have := HN.out; omega)] at h
      go_wp2
      go_ret
      exact ⟨_, rfl, .inl ⟨rfl, HF.out⟩, HS.out.1⟩
set_option maxRecDepth 10000 in
set_option maxHeartbeats 800000 in
theorem supersedesE {w : World} {ro : Option Addr} {rs : List Rq} {b off : Nat} (n rc : Nat) (hn : rs.length = n) (h : Rqs w.heap.size w ro rs b off) (cl sq : Nat) (co : Option Addr) (cn cc : Nat) (C : List Nat) :
    Calls Try.prog 32 #[.slice ro n rc, .agg #[.int .u64 (cl : Int), .int .u64 (sq : Int), .slice co cn cc]] w fun e w' => e = .returned (.bool (rs.any fun k => overR k.val (cl, sq, C))) ∧ Hid (Below w.heap.size w w') := by
  obtain ⟨W1, hW1⟩ : ∃ W1, w.alloc (.cells #[.int .u64 (cl : Int), .int .u64 (sq : Int), .slice co cn cc] 37) = W1 := ⟨_, rfl⟩
  have B1 : Hid (Below w.heap.size w W1) := by rw [← hW1]; exact (Below.refl _ w).alloc (Nat.le_refl _) _
  have C1 : Hid (W1.heap[w.heap.size]? = some (.cells #[.int .u64 (cl : Int), .int .u64 (sq : Int), .slice co cn cc] 37 (0, 0))) := by rw [← hW1]; exact alloc_atK _ _
  have HI : Hid (Calls Try.prog 49 #[.slice ro n rc, .func (.func 50) #[] #[.pointer (some ⟨w.heap.size, 0, none⟩)]] W1 fun e w' => e = .returned (.bool (rs.any fun k => overR k.val (cl, sq, C))) ∧ Hid (Below w.heap.size w w')) := by
    have HX := hide (indexQ n rc hn ((h.below B1.out).wide B1.out.size) 50 (.pointer (some ⟨w.heap.size, 0, none⟩)) (fun k => overR k.val (cl, sq, C)) (fun a w => by kernel_rfl) (fun k W hb => over_any k w.heap.size cl sq (.slice co cn cc) C ((hb.block _ (block_lt C1.out)).trans C1.out)))
    clear C1
    go_enter Try.func49, Try.ntmps49
    go_wp2_with fail
    refine HX.out.mono ?_
    rintro e w1 ⟨i, rfl, G⟩
    have GB : Hid (Below w.heap.size w w1) := B1.out.trans (G.out.2.mono B1.out.size)
    have GV : Hid (decide (0 ≤ i) = rs.any fun k => overR k.val (cl, sq, C)) := by
      rcases G.out.1 with ⟨rfl, e⟩ | ⟨k, rfl, _, _, r, e1, e2⟩
      · rw [e]; rfl
      · rw [anyO_at (f := fun k => overR k.val (cl, sq, C)) e1 e2]; exact decide_eq_true (by omega)
    clear HX G
    go_wp2
    go_ret
    exact ⟨by rw [← GV.out]; rfl, GB.out⟩
  have HW1 := hide hW1
  clear h hn hW1 C1 B1
  go_enter Try.func32, Try.ntmps32
  go_upto_region 1 with fail
  rw [HW1.out]
  go_wp2_with fail
  refine HI.out.mono ?_
  rintro e w2 ⟨rfl, G⟩
  go_wp2
  go_ret
  exact ⟨rfl, G.out⟩
end Go.Proofs.Ythfbimbadkmhhaa
namespace Go.Proofs.Ythfbimbadkmhhaa
open Go.RowKit Crc

theorem step_append_atE {P : Program} {ops : Array Oper} {o : Oper} {a : Act} {w : World} {K : Act → World → Prop} {Q : Exit → Act → World → Prop} {E : Prop}
    (hgd : o.guard = none) (s x : Operand) (t : TypeId) (ho : o.op = .call { callee := .builtin .append, args := #[s, x], argTypes := #[t, t] })
    (base : Nat) (e : TypeId) (i : TypeInfo) (z : Value) (size bytes : Nat) (ht : P.underlying t = some (.slice e)) (hi : P.info? e = some i) (hz : i.zero = some z)
    (hsize : i.size = size) (hby : i.bytes = bytes) (hzs : z.cells.size = size) (hsz : 0 < size)
    (v : Value) (n : Nat) (xs : List Value) (hs : a.eval s = v) (hown : w.ownsRow base e size v n xs)
    (ad : Addr) (m c : Nat) (news : List Value) (hx : a.eval x = .slice (some ad) m c) (hl : news.length = m * size) (hnews : ∀ j u, news[j]? = some u → w.cell? (ad.add j) = some u) (h1 : ∀ u ∈ news, u.oneCell' = true)
    (h63 : n + m ≤ maxLen) (hbytes : (n + m) * bytes ≤ 140737488355328) (hbase : base ≤ w.heap.size)
    (h : ∀ v' w', w'.ownsRow base e size v' (n + m) (xs ++ news) → w.grownBy w' v.ownBlock → (v'.ownBlock = v.ownBlock ∨ v'.ownBlock = some w.heap.size) → K (a.put o.dst v') w') :
    if Region.wanted o (yielded ops a.tmps) = true then Oper.wp P o a w K Q else E := by
  have hw : Region.wanted o (yielded ops a.tmps) = true := by simp [Region.wanted, hgd]
  rw [if_pos hw]
  obtain ⟨v', w', hr, h2, h3, _, h5⟩ := run_append_own_at (P := P) w base t o.type e i z size bytes ht hi hz hsize hby hzs hsz v n xs hown ad m c news hl hnews h1 h63 hbytes hbase
  unfold Oper.wp execOp
  simp only [ho, resolve, invoke, builtin, Sem.run_bind, Sem.run_pure, Result.andThen_ok, List.map_toArray, List.map_cons, List.map_nil, hs, hx, hr]
  exact h v' w' h2 h3 h5
/-- A call of a Go function at a step of a region that draws its order. -/
theorem step_callE {P : Program} {ops : Array Oper} {o : Oper} {a : Act} {w : World} {K : Act → World → Prop} {Q : Exit → Act → World → Prop} {E : Prop}
    (hgd : o.guard = none) (f : Nat) (args : Array Value) (hx : (execOp a.eval o).run P w = .ok (.enter f args) w) {post : Ending → World → Prop} (hc : Calls P f args w post)
    (h : ∀ e w', post e w' → ∃ v, e = .returned v ∧ K (a.put o.dst v) w') :
    if Region.wanted o (yielded ops a.tmps) = true then Oper.wp P o a w K Q else E := by
  have hw : Region.wanted o (yielded ops a.tmps) = true := by simp [Region.wanted, hgd]
  rw [if_pos hw]
  unfold Oper.wp
  rw [hx]
  simp only [Oper.upon]
  refine Calls.mono hc fun e w'' he => ?_
  obtain ⟨v, rfl, hv⟩ := h e w'' he
  exact hv
theorem row_ne_cq {W : World} {fp : Nat → Prop} {v : Value} {rs : List Rq} (h : Qs W fp v rs) {r : Rq} (hq : Cq 0 W r) : ∀ b, (Value.slice r.co r.cn r.cc).ownBlock = some b → ¬ v.ownBlock = some b := fun b hb hc => by
  rcases rows_ne hq.ow.1 h.row (by decide) with h0 | h0
  · rw [h0] at hb; cases hb
  · exact h0 (hb.trans hc.symm)
theorem req_fin {V w3 w4 : World} {eb g : Nat} {c : Cf} {me : Nat} {fp : Nat → Prop} {x : Ex} (h : EL V eb g c me fp x) (hb : Below V.heap.size V w3) {r1 : Rq} (hq : Cq V.heap.size w3 r1) (o : Obj) {v' : Value} (hl : x.ts.length < 32)
    (ho : w4.ownsRow 0 37 3 v' (x.ts.length + 1) (rcells x.ts ++ [.int .u64 (r1.cl : Int), .int .u64 (r1.sq : Int), .slice r1.co r1.cn r1.cc])) (hg : (w3.alloc o).grownBy w4 (Value.slice x.qo x.ts.length x.tc).ownBlock) (hv : v'.ownBlock = (Value.slice x.qo x.ts.length x.tc).ownBlock ∨ v'.ownBlock = some (w3.alloc o).heap.size) :
    ∃ ao cap, v' = .slice ao (x.ts.length + 1) cap ∧ w4.heap[eb]? = some (.cells (x.cells g me) 69 (0, 0)) ∧ Did V eb g c me fp ⟨x.num, x.node, x.sus, x.len, x.fin, x.ps.map Rq.val, x.ts.map Rq.val ++ [r1.val]⟩ (w4.setCell ⟨eb, 8, none⟩ v') := by
  obtain ⟨gg, cp, rfl⟩ : ∃ gg cp, v' = .slice (some ⟨gg, 0, none⟩) (x.ts.length + 1) cp := by
    rcases ho.2 with ⟨_, h0⟩ | ⟨g, cp, _, rfl, _⟩
    · omega
    · exact ⟨g, cp, rfl⟩
  have hgl : gg < w4.heap.size := (ho.lt gg rfl).2
  have sA : (w3.alloc o).heap.size = w3.heap.size + 1 := by simp
  have s3 := hb.size
  have s4 := hg.size
  have F0 : Fe V (w3.alloc o) (fun _ => False) := (Fe.below hb _).trans (Fe.grown (World.grownBy_alloc w3 o none) (T := fun _ => False) (fun y e => by cases e)) (fun _ _ e => e)
  have F3 : Fe V w4 (fun b => (Value.slice x.qo x.ts.length x.tc).ownBlock = some b) := (F0.wide (fun _ e => e.elim)).trans (Fe.grown hg (fun y e => e)) (fun _ _ e => e)
  have tn : ∀ b, (Value.slice x.qo x.ts.length x.tc).ownBlock = some b → fp b := h.qt.blk
  have heb : w4.heap[eb]? = some (.cells (x.cells g me) 69 (0, 0)) := (F3.block _ h.lt (fun e => h.feb (tn _ e))).trans h.blk
  have hgr : w4.heap[g]? = some (.cells c.cells 101 (0, 0)) := (F3.block _ (block_lt h.grp) (fun e => h.fg (tn _ e))).trans h.grp
  have F5 : Fe w4 (w4.setCell ⟨eb, 8, none⟩ (.slice (some ⟨gg, 0, none⟩) (x.ts.length + 1) cp)) (fun b => b = eb) := Fe.grown (grown_set _ eb 8 _) (fun y e => by cases e; rfl)
  have hr1 : Cq V.heap.size w4 r1 := by
    refine (hq.quiet (World.grownBy_alloc w3 o none)).fe (Fe.grown hg (T := fun b => (Value.slice x.qo x.ts.length x.tc).ownBlock = some b) (fun y e => e)) (fun b hb' e => ?_)
    have h1 := (hq.ow.1.lt b hb').1
    have h2 := h.flt b (tn b e)
    omega
  refine ⟨_, cp, rfl, heb, fun b => fp b ∨ (V.heap.size ≤ b ∧ b < w4.heap.size), ⟨x.num, x.node, x.sus, x.len, x.fin, x.po, x.pc, x.ps, some ⟨gg, 0, none⟩, cp, x.ts ++ [r1]⟩, ?_, ?_, ?_, ?_⟩
  · have nb : ∀ b, (fp b ∨ (V.heap.size ≤ b ∧ b < w4.heap.size)) → ¬ b = eb := fun b hb' e => by
      subst e
      rcases hb' with hb' | hb'
      · exact h.feb hb'
      · have := h.lt; omega
    have hlen : (x.ts ++ [r1]).length = x.ts.length + 1 := by simp
    refine ⟨?_, (F5.block _ (block_lt hgr) (fun e => h.neg e.symm)).trans hgr, ?_, ?_, ?_, ?_, fun hb' => nb eb hb' rfl, ?_, h.n1, h.va, h.su, h.l1, h.l2, h.f2⟩
    · rw [heap_setCell_same _ eb 8 _ _ _ heb]
      show _ = some (Obj.cells (Ex.cells _ g me) _ _)
      unfold Ex.cells
      simp only [hlen]
      rfl
    · refine (Qs.mk (row_fe h.qp.row F3 (fun b e e2 => h.ap b e e2)) (fun b e => .inl (h.qp.blk b e)) (fun r hr => (h.qp.cq r hr).fe F3 (row_ne_cq h.qt (h.qp.cq r hr))) (fun r hr b e => .inl (h.qp.cb r hr b e)) h.qp.le : Qs w4 (fun b => fp b ∨ (V.heap.size ≤ b ∧ b < w4.heap.size)) (.slice x.po x.ps.length x.pc) x.ps).fe F5 nb
    · refine (Qs.mk ?_ ?_ ?_ ?_ (by simp; omega) : Qs w4 (fun b => fp b ∨ (V.heap.size ≤ b ∧ b < w4.heap.size)) (.slice (some ⟨gg, 0, none⟩) (x.ts ++ [r1]).length cp) (x.ts ++ [r1])).fe F5 nb
      · rw [hlen, rcells_snoc]; exact ho
      · intro b e
        have e1 : b = gg := by simpa [Value.ownBlock] using e.symm
        subst e1
        rcases hv with hv | hv
        · exact .inl (tn b hv.symm)
        · have : b = (w3.alloc o).heap.size := by simpa [Value.ownBlock] using hv
          exact .inr ⟨by omega, hgl⟩
      · intro r hr
        rcases List.mem_append.1 hr with hr | hr
        · exact (h.qt.cq r hr).fe F3 (row_ne_cq h.qt (h.qt.cq r hr))
        · simp at hr; subst hr; exact hr1.lower (Nat.zero_le _)
      · intro r hr b e
        rcases List.mem_append.1 hr with hr | hr
        · exact .inl (h.qt.cb r hr b e)
        · simp at hr
          subst hr
          have := hr1.ow.1.lt b e
          exact .inr this
    · intro b e e2
      have e1 : b = gg := by simpa [Value.ownBlock] using e2.symm
      subst e1
      rcases hv with hv | hv
      · exact h.ap b e (hv.symm)
      · have h1 : b = (w3.alloc o).heap.size := by simpa [Value.ownBlock] using hv
        have := h.flt b (h.qp.blk b e)
        omega
    · intro b hb'
      have : b < w4.heap.size := hb'.elim (fun e => Nat.lt_of_lt_of_le (h.flt b e) F3.size) (fun e => e.2)
      simpa using this
    · rintro (hb' | hb')
      · exact h.fg hb'
      · have := block_lt h.grp; omega
  · simp [Ex.abs]
  · exact (F3.wide (fun b e => .inr (tn b e))).trans (F5.wide (fun b e => .inl e)) (fun _ _ e => e)
  · exact fun b hb' => hb'.elim .inl (fun e => .inr e.1)

set_option maxRecDepth 10000 in
set_option maxHeartbeats 1600000 in
theorem request_bad {W : World} {eb g : Nat} {c : Cf} {me : Nat} {fp : Nat → Prop} {x : Ex} (h : EL W eb g c me fp x) (cl sq : Nat) (co : Option Addr) (cn cc : Nat) (C : List Nat) (hl : cn = C.length) (hg : goodR (cl, sq, C) = false) :
    Calls Try.prog 16 #[.pointer (some ⟨eb, 0, none⟩), .agg #[.int .u64 (cl : Int), .int .u64 (sq : Int), .slice co cn cc]] W fun e W' => e = .returned (.bool false) ∧ Hid (Did W eb g c me fp x.abs W') := by
  obtain ⟨W1, hW1⟩ : ∃ W1, W.alloc (.cells #[.int .u64 (cl : Int), .int .u64 (sq : Int), .slice co cn cc] 37) = W1 := ⟨_, rfl⟩
  have B1 : Hid (Below W.heap.size W W1) := by rw [← hW1]; exact below_alloc1 W _
  have C1 : W1.heap[W.heap.size]? = some (.cells #[.int .u64 (cl : Int), .int .u64 (sq : Int), .slice co cn cc] 37 (0, 0)) := by rw [← hW1]; exact alloc_atK _ _
  have HM := hide (madeE (h.kept B1.out))
  have HV := hide (validReqE cl sq co cn cc C hl W1)
  rw [hg] at HV
  have z0 := block_cell C1 0
  have z1 := block_cell C1 1
  have z2 := block_cell C1 2
  simp at z0 z1 z2
  have zl := block_lt C1
  have FIN : Hid (∀ w', Below W1.heap.size W1 w' → Did W eb g c me fp x.abs w') := fun w' hb => Did.below h (B1.out.trans (hb.mono B1.out.size))
  have HW1 := hide hW1
  clear h hl hg hW1 B1 C1
  generalize (cl : Int) = ci at *
  generalize (sq : Int) = si at *
  go_enter Try.func16, Try.ntmps16
  go_upto_region 1 with fail
  rw [HW1.out]
  clear HW1
  go_wp2_with fail
  refine HM.out.mono ?_
  rintro e V' ⟨rfl, hVV⟩
  have hVW := hVV.symm
  clear hVV
  subst hVW
  go_wp2_with fail
  refine HV.out.mono ?_
  rintro e w2 ⟨rfl, G⟩
  go_wp2
  go_ret
  exact ⟨rfl, FIN.out _ G.out⟩

set_option maxRecDepth 10000 in
set_option maxHeartbeats 3200000 in
theorem request_ok {W : World} {eb g : Nat} {c : Cf} {me : Nat} {fp : Nat → Prop} {x : Ex} (h : EL W eb g c me fp x) (cl sq : Nat) (co : Option Addr) (cn cc : Nat) (C : List Nat) (hr : (Rq.mk cl sq co cn cc C).Ok W.heap.size W) (hg : goodR (cl, sq, C) = true) (hp : (x.ps.any fun k => overR k.val (cl, sq, C)) = false) (ht : (x.ts.any fun k => overR k.val (cl, sq, C)) = false) (hl : x.ts.length < 32) :
    Calls Try.prog 16 #[.pointer (some ⟨eb, 0, none⟩), .agg #[.int .u64 (cl : Int), .int .u64 (sq : Int), .slice co cn cc]] W fun e W' => e = .returned (.bool true) ∧ Hid (Did W eb g c me fp ⟨x.num, x.node, x.sus, x.len, x.fin, x.ps.map Rq.val, x.ts.map Rq.val ++ [(cl, sq, C)]⟩ W') := by
  obtain ⟨i0, hi, hz0, hz1, hz2⟩ := info_parts infoReq
  obtain ⟨W1, hW1⟩ : ∃ W1, W.alloc (.cells #[.int .u64 (cl : Int), .int .u64 (sq : Int), .slice co cn cc] 37) = W1 := ⟨_, rfl⟩
  have B1 : Hid (Below W.heap.size W W1) := by rw [← hW1]; exact below_alloc1 W _
  have C1 : Hid (W1.heap[W.heap.size]? = some (.cells #[.int .u64 (cl : Int), .int .u64 (sq : Int), .slice co cn cc] 37 (0, 0))) := by rw [← hW1]; exact alloc_atK _ _
  have HL := hide (h.kept B1.out)
  have HRO := hide hr
  have KM : Hid (∀ V, Hid (Below W1.heap.size W1 V) → Calls Try.prog 13 #[.pointer (some ⟨eb, 0, none⟩)] V fun e w' => e = .returned (.bool true) ∧ w' = V) := fun V hb => madeE (HL.out.kept hb.out)
  have KV : Hid (∀ V, Hid (Below W1.heap.size W1 V) → Calls Try.prog 31 #[.agg #[.int .u64 (cl : Int), .int .u64 (sq : Int), .slice co cn cc]] V fun e w' => e = .returned (.bool true) ∧ Hid (Below W1.heap.size W1 w')) := fun V hb => by
    refine (validReqE cl sq co cn cc C hr.hC.1 V).mono ?_
    rintro e w' ⟨rfl, G⟩
    exact ⟨by rw [hg], hb.out.trans (G.out.mono hb.out.size)⟩
  have KZ : Hid (∀ V, Hid (Below W1.heap.size W1 V) → V.cell? ⟨W.heap.size, 0, none⟩ = some (.int .u64 (cl : Int)) ∧ V.cell? ⟨W.heap.size, 1, none⟩ = some (.int .u64 (sq : Int)) ∧ V.cell? ⟨W.heap.size, 2, none⟩ = some (.slice co cn cc) ∧ W.heap.size < V.heap.size) := fun V hb => by
    have b := (hb.out.block _ (block_lt C1.out)).trans C1.out
    exact ⟨block_cell b 0, block_cell b 1, block_cell b 2, block_lt b⟩
  have KP : Hid (∀ V, Hid (Below W1.heap.size W1 V) → V.cell? ⟨eb, 7, none⟩ = some (.slice x.po x.ps.length x.pc) ∧ V.cell? ⟨eb, 8, none⟩ = some (.slice x.qo x.ts.length x.tc) ∧ eb < V.heap.size) := fun V hb => ⟨(HL.out.kept hb.out).c 7, (HL.out.kept hb.out).c 8, (HL.out.kept hb.out).lt⟩
  have KS7 : Hid (∀ V, Hid (Below W1.heap.size W1 V) → Calls Try.prog 32 #[.slice x.po x.ps.length x.pc, .agg #[.int .u64 (cl : Int), .int .u64 (sq : Int), .slice co cn cc]] V fun e w' => e = .returned (.bool false) ∧ Hid (Below W1.heap.size W1 w')) := fun V hb => by
    obtain ⟨ao, cap, b, e, _, hR⟩ := (HL.out.kept hb.out).qp.form
    simp only [Value.slice.injEq] at e
    obtain ⟨rfl, -, rfl⟩ := e
    refine (supersedesE x.ps.length x.pc rfl hR cl sq co cn cc C).mono ?_
    rintro e w' ⟨rfl, G⟩
    exact ⟨by rw [hp], hb.out.trans (G.out.mono hb.out.size)⟩
  have KS8 : Hid (∀ V, Hid (Below W1.heap.size W1 V) → Calls Try.prog 32 #[.slice x.qo x.ts.length x.tc, .agg #[.int .u64 (cl : Int), .int .u64 (sq : Int), .slice co cn cc]] V fun e w' => e = .returned (.bool false) ∧ Hid (Below W1.heap.size W1 w')) := fun V hb => by
    obtain ⟨ao, cap, b, e, _, hR⟩ := (HL.out.kept hb.out).qt.form
    simp only [Value.slice.injEq] at e
    obtain ⟨rfl, -, rfl⟩ := e
    refine (supersedesE x.ts.length x.tc rfl hR cl sq co cn cc C).mono ?_
    rintro e w' ⟨rfl, G⟩
    exact ⟨by rw [ht], hb.out.trans (G.out.mono hb.out.size)⟩
  have KR : Hid (∀ V, Hid (Below W1.heap.size W1 V) → Hid (Below W1.heap.size W1 V.drew)) := fun V hb => hb.out.drew
  have KT : Hid (∀ V, Hid (Below W1.heap.size W1 V) → ∀ q, Calls Try.prog 30 #[.agg #[.int .u64 (cl : Int), .int .u64 (sq : Int), .slice co cn cc]] (V.drewN q) fun e w3 => ∃ ao cap, e = .returned (.agg #[.int .u64 (cl : Int), .int .u64 (sq : Int), .slice ao cn cap]) ∧ Hid ((w3.cell? ⟨eb, 8, none⟩ = some (.slice x.qo x.ts.length x.tc) ∧ eb < w3.heap.size) ∧ (w3.alloc (.cells #[.int .u64 (cl : Int), .int .u64 (sq : Int), .slice ao cn cap] 37)).ownsRow 0 37 3 (.slice x.qo x.ts.length x.tc) x.ts.length (rcells x.ts) ∧ ∀ v' w4, w4.ownsRow 0 37 3 v' (x.ts.length + 1) (rcells x.ts ++ [.int .u64 (cl : Int), .int .u64 (sq : Int), .slice ao cn cap]) → (w3.alloc (.cells #[.int .u64 (cl : Int), .int .u64 (sq : Int), .slice ao cn cap] 37)).grownBy w4 (Value.slice x.qo x.ts.length x.tc).ownBlock → (v'.ownBlock = (Value.slice x.qo x.ts.length x.tc).ownBlock ∨ v'.ownBlock = some (w3.alloc (.cells #[.int .u64 (cl : Int), .int .u64 (sq : Int), .slice ao cn cap] 37)).heap.size) → ∃ ao' cap', v' = .slice ao' (x.ts.length + 1) cap' ∧ (w4.cell? ⟨eb, 8, none⟩ = some (.slice x.qo x.ts.length x.tc) ∧ w4.frozen? ⟨eb, 8, none⟩ = false ∧ eb < w4.heap.size) ∧ Hid (Did W eb g c me fp ⟨x.num, x.node, x.sus, x.len, x.fin, x.ps.map Rq.val, x.ts.map Rq.val ++ [(cl, sq, C)]⟩ (w4.setCell ⟨eb, 8, none⟩ v')))) := fun V hb q => by
    have hbq : Below V.heap.size V (V.drewN q) := drewN_below V q
    have hV1 : Below W1.heap.size W1 (V.drewN q) := hb.out.trans (hbq.mono hb.out.size)
    have hE := HL.out.kept hV1
    have hWV : Below W.heap.size W (V.drewN q) := B1.out.trans (hV1.mono B1.out.size)
    refine (twinE (w := V.drewN q) cl sq co cn cc C ⟨HRO.out.hc, HRO.out.hs, (HRO.out.hC.belowL hWV).wide hWV.size⟩).mono ?_
    rintro e w3 ⟨ao, cap, rfl, G⟩
    refine ⟨ao, cap, rfl, ⟨(hE.kept G.out.2).c 8, (hE.kept G.out.2).lt⟩, row_quiet (hE.kept G.out.2).qt.row (World.grownBy_alloc _ _ none), fun v' w4 ho hg' hv => ?_⟩
    obtain ⟨ao', cap', e1, e2, e3⟩ := req_fin hE G.out.2 G.out.1 (.cells #[.int .u64 (cl : Int), .int .u64 (sq : Int), .slice ao cn cap] 37) hl ho hg' hv
    exact ⟨ao', cap', e1, ⟨block_cell e2 8, block_free e2 8, block_lt e2⟩, Did.of (Fe.below hWV _) e3⟩
  have HV1 : Hid (Below W1.heap.size W1 W1) := Below.refl _ W1
  have hlt : decide ((32 : Int) ≤ (x.ts.length : Int)) = false := decide_eq_false (by omega)
  have hl' : Hid (x.ts.length + 1 ≤ maxLen ∧ (x.ts.length + 1) * 40 ≤ 140737488355328) := ⟨by unfold maxLen; omega, by omega⟩
  have HW1 := hide hW1
  have HRT : Hid (∃ rt, rcells x.ts = rt) := ⟨_, rfl⟩
  clear h hr hg hp ht hl hW1 B1 C1 HL HRO
  generalize hts : rcells x.ts = rt at *
  clear hts HRT
  generalize hvs : x.ts.map Rq.val = tv at *
  clear hvs
  generalize hcl : (cl : Int) = ci at *
  generalize hsq : (sq : Int) = si at *
  clear hcl hsq
  generalize x.ts.length = tn at *
  generalize x.ps.length = pn at *
  generalize x.qo = qo at *
  generalize x.tc = tc at *
  generalize x.po = po at *
  generalize x.pc = pc at *
  go_enter Try.func16, Try.ntmps16
  go_upto_region 1 with fail
  rw [HW1.out]
  clear HW1
  generalize W.heap.size = wb at *
  obtain ⟨z0, z1, z2, zl⟩ := KZ.out W1 HV1
  go_wp2_with fail
  refine (KM.out W1 HV1).mono ?_
  rintro e V' ⟨rfl, hVV⟩
  have hVW := hVV.symm
  clear hVV
  subst hVW
  go_wp2_with fail
  refine (KV.out W1 HV1).mono ?_
  rintro e W2 ⟨rfl, HV2⟩
  clear z0 z1 z2 zl
  go_upto_region 4 with fail
  refine region_assign (fun V => Hid (Below W1.heap.size W1 V)) [(13, .pointer (some ⟨eb, 0, none⟩)), (14, .pointer (some ⟨eb, 0, none⟩)), (15, .pointer (some ⟨eb, 7, none⟩)), (16, .slice po pn pc), (17, .agg #[.int .u64 ci, .int .u64 si, .slice co cn cc]), (18, .bool false), (12, .bool false)] _ (by kernel_rfl) (by kernel_rfl) (by kernel_rfl) (by kernel_rfl) rfl (KR.out _ HV2) ?_ (fun V3 HV3 => ?_)
  · simp only [putAll, Act.put, List.setIfInBounds_toArray, List.set_cons_zero, List.set_cons_succ]
    repeat' (first | exact AllTo.nil | refine AllTo.cons ?_ ?_)
    all_goals first
      | exact stepTo_no (by rfl) rfl
      | (refine stepTo_yes (by rfl) (fun V hV K hK => ?_)
         obtain ⟨z0, z1, z2, zl⟩ := KZ.out V hV
         obtain ⟨q7, q8, ql⟩ := KP.out V hV
         go_simp
         first
           | exact hK.out _ hV
           | (go_at_call 32; refine (KS7.out V hV).mono ?_; rintro e V' ⟨rfl, hV'⟩; exact hK.out _ hV'))
  simp only [putAll, Act.put, List.setIfInBounds_toArray, List.set_cons_zero, List.set_cons_succ]
  go_upto_region 5 with fail
  refine region_assign (fun V => Hid (Below W1.heap.size W1 V)) [(19, .pointer (some ⟨eb, 0, none⟩)), (20, .pointer (some ⟨eb, 0, none⟩)), (21, .pointer (some ⟨eb, 8, none⟩)), (22, .slice qo tn tc), (23, .agg #[.int .u64 ci, .int .u64 si, .slice co cn cc]), (24, .bool false), (12, .bool false)] _ (by kernel_rfl) (by kernel_rfl) (by kernel_rfl) (by kernel_rfl) rfl (KR.out _ HV3) ?_ (fun V4 HV4 => ?_)
  · simp only [putAll, Act.put, List.setIfInBounds_toArray, List.set_cons_zero, List.set_cons_succ]
    repeat' (first | exact AllTo.nil | refine AllTo.cons ?_ ?_)
    all_goals first
      | exact stepTo_no (by rfl) rfl
      | (refine stepTo_yes (by rfl) (fun V hV K hK => ?_)
         obtain ⟨z0, z1, z2, zl⟩ := KZ.out V hV
         obtain ⟨q7, q8, ql⟩ := KP.out V hV
         go_simp
         first
           | exact hK.out _ hV
           | (go_at_call 32; refine (KS8.out V hV).mono ?_; rintro e V' ⟨rfl, hV'⟩; exact hK.out _ hV'))
  simp only [putAll, Act.put, List.setIfInBounds_toArray, List.set_cons_zero, List.set_cons_succ]
  obtain ⟨z0, z1, z2, zl⟩ := KZ.out V4 HV4
  obtain ⟨q7, q8, ql⟩ := KP.out V4 HV4
  have HTW := hide (KT.out V4 HV4)
  clear KM KV KZ KP KS7 KS8 KT KR
  go_upto_region 8 with fail
  go_region_law (first
    | (refine step_callE rfl 30 #[.agg #[.int .u64 ci, .int .u64 si, .slice co cn cc]] (by kernel_rfl) (HTW.out 1) ?_; rintro e w3 ⟨ao, cap, rfl, G⟩; refine ⟨_, rfl, ?_⟩; obtain ⟨y8, yl⟩ := G.out.1; have G2 := hide G.out.2)
    | (refine step_append_atE rfl (.tmp 35) (.tmp 38) 67 rfl 0 37 i0 (.agg #[.int .u64 0, .int .u64 0, .slice none 0 0]) 3 40 Try.underlying67 hi hz0 hz1 hz2 rfl (by decide) (.slice qo tn tc) tn rt (by simp [Act.eval]) G2.out.1 ⟨w3.heap.size, 0, none⟩ 1 1 [.int .u64 ci, .int .u64 si, .slice ao cn cap] (by simp [Act.eval]) rfl (cell_req_new _ _ _ _ _) (by simp [Value.oneCell']) hl'.out.1 hl'.out.2 (Nat.zero_le _) ?_; intro v' w4 ho hg2 hv; obtain ⟨ao', cap', hv', ⟨u8, uf, ul⟩, D⟩ := G2.out.2 v' w4 ho hg2 hv; clear ho hg2 hv; subst hv'))
  all_goals go_wp2
  all_goals go_ret
  all_goals exact ⟨rfl, D.out⟩
end Go.Proofs.Ythfbimbadkmhhaa
