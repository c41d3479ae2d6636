import Derived.Test.YtidhondcfagoaaaDoorM35
import Derived.Deep.RegionLaw
namespace Go.Proofs.YtidhondcfagoaaaDoor
open Go.RowKit Crc

theorem step_append_own {P : Program} {ops : Array Oper} {o : Oper} {a : Act} {w : World} {K : Act → World → Prop} {Q : Exit → Act → World → Prop} {E : Prop}
    (hgd : o.guard = none) (s x : Operand) (t : TypeId) (ho : o.op = .call { callee := .builtin .append, args := #[s, x], argTypes := #[t, t] })
    (base : Nat) (e : TypeId) (i : TypeInfo) (z : Value) (size bytes : Nat) (ht : P.underlying t = some (.slice e)) (hi : P.info? e = some i) (hz : i.zero = some z)
    (hsize : i.size = size) (hby : i.bytes = bytes) (hzs : z.cells.size = size) (hsz : 0 < size)
    (v : Value) (n : Nat) (xs : List Value) (hs : a.eval s = v) (hown : w.ownsRow base e size v n xs)
    (ad : Addr) (m c : Nat) (news : List Value) (hx : a.eval x = .slice (some ad) m c) (hl : news.length = m * size) (hnews : ∀ j u, news[j]? = some u → w.cell? (ad.add j) = some u) (h1 : ∀ u ∈ news, u.oneCell' = true)
    (h63 : n + m ≤ maxLen) (hbytes : (n + m) * bytes ≤ 140737488355328) (hbase : base ≤ w.heap.size)
    (h : ∀ v' w', w'.ownsRow base e size v' (n + m) (xs ++ news) → w.grownBy w' v.ownBlock → K (a.put o.dst v') w') :
    if Region.wanted o (yielded ops a.tmps) = true then Oper.wp P o a w K Q else E := by
  have hw : Region.wanted o (yielded ops a.tmps) = true := by simp [Region.wanted, hgd]
  rw [if_pos hw]
  exact wp_append_own w s x t ho base e i z size bytes ht hi hz hsize hby hzs hsz v n xs hs hown ad m c news hx hl hnews h1 h63 hbytes hbase (fun v' w' h2 h3 _ => h v' w' h2 h3)

theorem fin_rb {w : World} {lim p B stamp n : Nat} {s s' : RS} {v : Value} {rs1 : List Rq} {wr : World} (hp : p < w.heap.size) (hB : w.heap.size < B) (hn8 : n ≤ 8) (hn : bN s = n) (h : Rb w lim p B stamp n (bS2 s) n v rs1 s' wr) (x y : Value) :
    OwnRs w.heap.size ((wr.setCell ⟨w.heap.size, 0, none⟩ x).setCell ⟨w.heap.size, 1, none⟩ y) v rs1 ∧ FreeRs w.heap.size ((wr.setCell ⟨w.heap.size, 0, none⟩ x).setCell ⟨w.heap.size, 1, none⟩ y) rs1 ∧ rs1.map Rq.val = bVals s ∧ RdS lim ((wr.setCell ⟨w.heap.size, 0, none⟩ x).setCell ⟨w.heap.size, 1, none⟩ y) p (bEnd s) ∧ w.grownBy ((wr.setCell ⟨w.heap.size, 0, none⟩ x).setCell ⟨w.heap.size, 1, none⟩ y) (some p) := by
  have hgo := h.go
  rw [Nat.sub_self, rdGo] at hgo
  have e1 : bVals s = rs1.map Rq.val := by unfold bVals; rw [hn, hgo]; simp
  have e2 : bEnd s = s' := by unfold bEnd; rw [hn, hgo]
  have hne : v.ownBlock ≠ some w.heap.size := fun e => by have := (h.row.lt _ e).1; omega
  have r2 := (h.row.kept (grown_set wr w.heap.size 0 x) (.inr hne)).kept (grown_set _ w.heap.size 1 y) (.inr hne)
  have hf : ∀ r ∈ rs1, r.sl.ownBlock = none ∨ r.sl.ownBlock ≠ some w.heap.size := fun r hx => .inr (fun e => by have := ((h.free.own r hx).1.lt _ e).1; omega)
  have f2 := (h.free.next (grown_set wr w.heap.size 0 x) hf).next (grown_set _ w.heap.size 1 y) hf
  have hl := h.rd.limp
  have hr : ∀ g, some w.heap.size = some g → lim ≤ g ∧ g ≠ p := fun g e => by cases e; exact ⟨by omega, by omega⟩
  have d2 := (h.rd.kept (grown_set wr w.heap.size 0 x) hr).kept (grown_set _ w.heap.size 1 y) hr
  refine ⟨⟨⟨by rw [h.len]; exact r2.1, ?_⟩, fun r hx => ?_, by rw [h.len]; omega⟩, ⟨fun r hx => (f2.own r hx).lower (by omega), f2.apart⟩, e1.symm, by rw [e2]; exact d2, h.gr.os, h.gr.tape, h.gr.output, by simpa using h.gr.size, fun k hk hne2 => ?_⟩
  · rw [h.len]
    rcases r2.2 with h0 | ⟨g, cap, cur, h1, h2, h3⟩
    · exact .inl h0
    · exact .inr ⟨g, cap, cur, h1, by omega, h3⟩
  · obtain ⟨n1, n2, _, _⟩ := h.num r hx
    obtain ⟨vo, vc, hv, hS, _⟩ := (f2.own r hx).form
    refine ⟨n1, n2, ?_⟩
    have hv' : Value.slice r.co r.cn r.cc = .slice vo r.C.length vc := hv
    simp only [Value.slice.injEq] at hv'
    obtain ⟨e3, e4, e5⟩ := hv'
    rw [e3, e4, e5]
    exact hS
  · have hsz := h.gr.size
    have e1 := (grown_set wr w.heap.size 0 x).block k (by omega) (by simp; omega)
    have e2 := (grown_set (wr.setCell ⟨w.heap.size, 0, none⟩ x) w.heap.size 1 y).block k (by simp; omega) (by simp; omega)
    exact e2.trans (e1.trans (h.gr.block k hk hne2))

set_option maxRecDepth 10000 in
set_option maxHeartbeats 1600000 in
theorem readBatch_any (lim p : Nat) (s : RS) (w : World) (hR : RdS lim w p s) :
    Calls Tryd.prog 58 #[.pointer (some ⟨p, 0, none⟩)] w fun e w' => ∃ v rs1, e = .returned (.agg #[.int .u64 ((numAt s.rest).1 : Nat), v]) ∧ Hid (OwnRs w.heap.size w' v rs1 ∧ FreeRs w.heap.size w' rs1 ∧ rs1.map Rq.val = bVals s ∧ RdS lim w' p (bEnd s) ∧ w.grownBy w' (some p)) := by
  obtain ⟨i0, hi, hz0, hz1, hz2⟩ := info_parts infoReq
  have hp := hR.plt
  have hA := World.grownBy_alloc w (.cells #[.int .u64 0, .slice none 0 0] 41)
  have H1 : Hid (Calls Tryd.prog 62 #[.pointer (some ⟨p, 0, none⟩), .int .u64 0, .int .u64 1099511627776] (w.alloc (.cells #[.int .u64 0, .slice none 0 0] 41)) fun e w1 => e = .returned (.int .u64 ((numAt s.rest).1 : Nat)) ∧ Hid (RdS lim w1 p (bS1 s) ∧ (w.alloc (.cells #[.int .u64 0, .slice none 0 0] 41)).grownBy w1 (some p))) := readBound_any lim p s 0 1099511627776 _ (hR.quiet (hA none))
  have H2 : Hid (∀ w1, RdS lim w1 p (bS1 s) → Calls Tryd.prog 63 #[.pointer (some ⟨p, 0, none⟩), .int .i64 8] w1 fun e w2 => e = .returned (.int .i64 ((bN s : Nat) : Int)) ∧ Hid (RdS lim w2 p (bS2 s) ∧ w1.grownBy w2 (some p))) := fun w1 h => (rCount_any lim p (bS1 s) 8 w1 h (by omega) (by omega)).mono (fun _ _ h => ⟨h.1, h.2⟩)
  have hn8 : bN s ≤ 8 := by
    have h := countAt_ok (bS1 s).rest 8
    unfold bN
    by_cases hz : (countAt (bS1 s).rest 8).2.2 = 0
    · have := h.2.2.1 hz (by omega); omega
    · have := (h.2.2.2.2 hz).1; omega
  have H0 : Hid (∀ w1 w2, (w.alloc (.cells #[.int .u64 0, .slice none 0 0] 41)).grownBy w1 (some p) → RdS lim w2 p (bS2 s) → (w1.alloc (.cells #[.int .u64 ((numAt s.rest).1 : Nat), .slice none 0 0] 41)).grownBy w2 (some p) → w.heap.size < w1.heap.size ∧ Rb w lim p w1.heap.size (numAt s.rest).1 (bN s) (bS2 s) 0 (.slice none 0 0) [] (bS2 s) w2) := by
    intro w1 w2 g1 hr g2
    have hs : (w.alloc (.cells #[.int .u64 0, .slice none 0 0] 41)).heap.size = w.heap.size + 1 := by simp
    have hs1 := g1.size
    have hgA := World.grownBy_alloc w1 (.cells #[.int .u64 ((numAt s.rest).1 : Nat), .slice none 0 0] 41) (some p)
    have gw1 := grown_trans (row := some p) (hA (some p)) g1
    have gw2 := grown_trans (row := some p) (grown_trans (row := some p) gw1 hgA) g2
    have res1 : w1.heap[w.heap.size]? = some (.cells #[.int .u64 0, .slice none 0 0] 41 (0, 0)) := (grown_pos g1 (by omega) (by omega)).trans (alloc_at _ _)
    refine ⟨by omega, gw2, ?_, ?_, World.ownsRow_nil _ _ _ _, rfl, ⟨fun r hx => by simp at hx, by simp⟩, fun r hx => by simp at hx, fun r hx => by simp at hx, hr, by simp⟩
    · exact ((grown_trans (row := some p) hgA g2).block _ (block_lt res1) (by simp; omega)).trans res1
    · exact (grown_pos g2 (by simp) (by omega)).trans (alloc_at _ _)
  clear hR hA
  generalize hst : (numAt s.rest).1 = st at *
  go_enter Tryd.func58, Tryd.ntmps58
  go_wp2_with fail
  refine H1.out.mono ?_
  rintro e w1 ⟨rfl, G1⟩
  go_wp2_with fail
  refine (H2.out _ (G1.out.1.quiet (World.grownBy_alloc w1 _ none))).mono ?_
  rintro e w2 ⟨rfl, G2⟩
  obtain ⟨hB, hrb0⟩ := H0.out w1 w2 G1.out.2 G2.out.1 G2.out.2
  have HRB0 := hide hrb0
  clear hrb0 H0 H1 H2
  generalize w1.heap.size = B at *
  generalize hn : bN s = n at *
  go_wp2
  go_loopw [9] (fun i wr => ∃ k : Nat, k ≤ n ∧ i = .int .i64 k ∧ Hid (∃ v rs1 s', Rb w lim p B st n (bS2 s) k v rs1 s' wr)) (fun i _ => n - (intOf i).toNat)
  case atStart => exact ⟨0, by omega, rfl, _, _, _, HRB0.out⟩
  case round =>
    obtain ⟨k, hk, rfl, HS⟩ := hrel
    obtain ⟨v, rs1, s', hrb⟩ := HS.out
    have HRB := hide hrb
    have x1 := block_cell hrb.box 1
    simp at x1
    clear hrb HS HRB0
    by_cases hlt : k < n
    · have HRQ : Hid (∀ q, Calls Tryd.prog 69 #[.pointer (some ⟨p, 0, none⟩)] (wr.drewN q) fun e w1 => ∃ vo vc, e = .returned (.agg #[.int .u64 ((rqV s').1 : Int), .int .u64 ((rqV s').2.1 : Int), .slice vo (rqV s').2.2.length vc]) ∧ w1.cell? ⟨B, 1, none⟩ = some v ∧ w1.frozen? ⟨B, 1, none⟩ = false ∧ B < w1.heap.size ∧ Hid (Owns (wr.heap.size + 1) w1 (.slice vo (rqV s').2.2.length vc) (rqV s').2.2 ∧ RdS lim w1 p (rqS3 s') ∧ wr.grownBy w1 (some p))) := fun q => by
        refine (readRequest_any lim p s' (wr.drewN q) (HRB.out.rd.quiet ⟨rfl, rfl, rfl, Nat.le_refl _, fun _ _ _ => rfl⟩)).mono ?_
        rintro e w1 ⟨vo, vc, rfl, G⟩
        obtain ⟨g1, g2, g3⟩ := G.out
        have hg : wr.grownBy w1 (some p) := ⟨g3.os, g3.tape, g3.output, g3.size, g3.block⟩
        have hbx := (grown_pos hg (block_lt HRB.out.box) (by omega)).trans HRB.out.box
        exact ⟨vo, vc, rfl, block_cell hbx 1, block_free hbx 1, block_lt hbx, g1, g2, hg⟩
      have HOW : Hid (∀ w1, wr.grownBy w1 (some p) → ∀ o, (w1.alloc o).ownsRow (B + 1) 96 3 v k (rcells rs1)) := fun w1 hg o => row_quiet (HRB.out.row.kept hg (.inr (fun e => by have := (HRB.out.row.lt p e).1; omega))) (World.grownBy_alloc _ _ none)
      have hnum : (rqV s').1 < 18446744073709551616 ∧ (rqV s').2.1 < 18446744073709551616 := ⟨(numAt_ok _).1, (numAt_ok _).1⟩
      have HNX : Hid (∀ (v' : Value) (w1 w2 : World) (o2 : Obj) (vo : Option Addr) (vc : Nat), (Owns (wr.heap.size + 1) w1 (.slice vo (rqV s').2.2.length vc) (rqV s').2.2 ∧ RdS lim w1 p (rqS3 s') ∧ wr.grownBy w1 (some p)) → w2.ownsRow (B + 1) 96 3 v' (k + 1) (rcells (rs1 ++ [⟨(rqV s').1, (rqV s').2.1, vo, (rqV s').2.2.length, vc, (rqV s').2.2⟩])) → (w1.alloc o2).grownBy w2 v.ownBlock → (∃ rs2, Rb w lim p B st n (bS2 s) (k + 1) v' rs2 (rqS3 s') (w2.setCell ⟨B, 1, none⟩ v')) ∧ w2.cell? ⟨B, 1, none⟩ = some v ∧ w2.frozen? ⟨B, 1, none⟩ = false) := fun v' w1 w2 o2 vo vc hG hr hg => by
        obtain ⟨h1, h2⟩ := Rb.next (by omega) hB HRB.out hlt hG.1 hG.2.1 hG.2.2 hnum hr hg
        exact ⟨⟨_, h1⟩, h2⟩
      have HSN : Hid (∀ vo vc, rcells (rs1 ++ [⟨(rqV s').1, (rqV s').2.1, vo, (rqV s').2.2.length, vc, (rqV s').2.2⟩]) = rcells rs1 ++ [.int .u64 ((rqV s').1 : Int), .int .u64 ((rqV s').2.1 : Int), .slice vo (rqV s').2.2.length vc]) := fun vo vc => rcells_snoc _ _
      have hsz := HRB.out.gr.size
      clear hnum
      go_wp2_with fail
      go_region_law (first
        | (refine step_append_own rfl (.tmp 12) (.tmp 15) 39 rfl (B + 1) 96 i0 (.agg #[.int .u64 0, .int .u64 0, .slice none 0 0]) 3 40 Tryd.underlying39 hi hz0 hz1 hz2 rfl (by decide) v k (rcells rs1) (by simp [Act.eval]) (HOW.out _ G.out.2.2 _) ⟨w1.heap.size, 0, none⟩ 1 1 [.int .u64 ((rqV s').1 : Int), .int .u64 ((rqV s').2.1 : Int), .slice vo (rqV s').2.2.length vc] (by simp [Act.eval]) rfl (cell_req_new _ _ _ _ _) (by simp [Value.oneCell']) (by unfold maxLen; omega) (by omega) (by simp; omega) ?_; intro v' w2 ho hg; obtain ⟨g', cap', rfl⟩ := ownsRow_succ ho; obtain ⟨hrb2, z1, z2⟩ := HNX.out _ _ _ _ _ _ G.out (by rw [HSN.out]; exact ho) hg; have HR2 := hide hrb2; clear hrb2 ho hg)
        | (go_simp; go_wp2_with (go_at_call 69; refine (HRQ.out 1).mono ?_; rintro e w1 ⟨vo, vc, rfl, y1, y2, hB1, G⟩)))
      all_goals go_wp2
      all_goals exact ⟨⟨k + 1, by omega, by go_num, by obtain ⟨rs2, h2⟩ := HR2.out; exact ⟨_, rs2, _, h2⟩⟩, by simp [intOf]; omega⟩
    · obtain rfl : k = n := by omega
      have hb := HRB.out.box
      have b0 := block_cell hb 0
      have hr := HRB.out.res
      have r0 := block_cell hr 0
      have r1 := block_cell hr 1
      have f0 := block_free hr 0
      have f1 := block_free hr 1
      simp at b0 r0 r1
      have hw : w.heap.size < wr.heap.size := block_lt hr
      clear hb hr
      have HL := hide HRB.out.len
      obtain ⟨ao, cp, hv⟩ : ∃ ao cp, v = .slice ao k cp := by
        rcases HRB.out.row.2 with ⟨h, h0⟩ | ⟨g, cap, cur, h, _⟩
        · exact ⟨none, 0, by rw [h, h0]⟩
        · exact ⟨_, _, h⟩
      subst hv
      go_wp2
      refine bodyPost_ret (v := .agg #[.int .u64 (st : Int), .slice ao k cp]) (by simp [results, Tryd.results58, go_sem, r0, r1]) rfl ⟨_, rs1, rfl, ?_⟩
      exact fin_rb hp hB (by omega) hn HRB.out _ _
end Go.Proofs.YtidhondcfagoaaaDoor
namespace Go.Proofs.YtidhondcfagoaaaDoor
open Go.RowKit Crc

/-- A ballot that is read. -/
def balS1 (s : RS) : RS := rdBound s 0 1099511627776
def nodeV (s : RS) : Nat := hi (aheadV (balS1 s).rest 1)
def balS2 (s : RS) : RS := (balS1 s).step 1 (aheadW (balS1 s).rest 1)
def balS (s : RS) : RS := if 6 < nodeV s then (balS2 s).failP (balS1 s).pos 29 else balS2 s

theorem fin_bal {lim p : Nat} {w w3 : World} {s : RS} (hp : p < w.heap.size) (hR : RdS lim w3 p s) (hg : w.grownBy w3 (some p)) (x y : Value) :
    RdS lim ((w3.setCell ⟨w.heap.size, 0, none⟩ x).setCell ⟨w.heap.size, 1, none⟩ y) p s ∧ w.grownBy ((w3.setCell ⟨w.heap.size, 0, none⟩ x).setCell ⟨w.heap.size, 1, none⟩ y) (some p) := by
  have hl := hR.limp
  have hr : ∀ g, some w.heap.size = some g → lim ≤ g ∧ g ≠ p := fun g e => by cases e; exact ⟨by omega, by omega⟩
  refine ⟨(hR.kept (grown_set w3 w.heap.size 0 x) hr).kept (grown_set _ w.heap.size 1 y) hr, hg.os, hg.tape, hg.output, by simpa using hg.size, fun k hk hne => ?_⟩
  have hsz := hg.size
  have e1 := (grown_set w3 w.heap.size 0 x).block k (by omega) (by simp; omega)
  have e2 := (grown_set (w3.setCell ⟨w.heap.size, 0, none⟩ x) w.heap.size 1 y).block k (by simp; omega) (by simp; omega)
  exact e2.trans (e1.trans (hg.block k hk hne))

set_option maxRecDepth 10000 in
set_option maxHeartbeats 800000 in
theorem readBallot_any (lim p : Nat) (s : RS) (w : World) (hR : RdS lim w p s) :
    Calls Tryd.prog 57 #[.pointer (some ⟨p, 0, none⟩)] w fun e w' => e = .returned (.agg #[.int .u64 ((numAt s.rest).1 : Nat), .int .i64 ((nodeV s : Nat) : Int)]) ∧ Hid (RdS lim w' p (balS s) ∧ w.grownBy w' (some p)) := by
  have hp := hR.plt
  have hA := World.grownBy_alloc w (.cells #[.int .u64 0, .int .i64 0] 37)
  have H1 : Hid (Calls Tryd.prog 62 #[.pointer (some ⟨p, 0, none⟩), .int .u64 0, .int .u64 1099511627776] (w.alloc (.cells #[.int .u64 0, .int .i64 0] 37)) fun e w1 => e = .returned (.int .u64 ((numAt s.rest).1 : Nat)) ∧ Hid (RdS lim w1 p (balS1 s) ∧ (w.alloc (.cells #[.int .u64 0, .int .i64 0] 37)).grownBy w1 (some p))) := readBound_any lim p s 0 1099511627776 _ (hR.quiet (hA none))
  have H2 : Hid (∀ w1, RdS lim w1 p (balS1 s) → Calls Tryd.prog 59 #[.pointer (some ⟨p, 0, none⟩)] w1 fun e w2 => e = .returned (.int .i64 ((balS1 s).pos : Nat)) ∧ w2 = w1) := fun w1 h => rAt_any lim p (balS1 s) w1 h
  have H3 : Hid (∀ w1, RdS lim w1 p (balS1 s) → Calls Tryd.prog 68 #[.pointer (some ⟨p, 0, none⟩)] w1 fun e w2 => e = .returned (.int .u8 ((nodeV s : Nat) : Int)) ∧ Hid (RdS lim w2 p (balS2 s) ∧ w1.grownBy w2 (some p))) := fun w1 h => (rU8_any lim p (balS1 s) w1 h).mono (fun _ _ h => ⟨h.1, h.2⟩)
  have H4 : Hid (∀ w2, RdS lim w2 p (balS2 s) → Calls Tryd.prog 61 #[.pointer (some ⟨p, 0, none⟩), .int .i64 ((balS1 s).pos : Int), .int .i64 29] w2 fun e w3 => e = .returned (.tuple #[]) ∧ Hid (RdS lim w3 p ((balS2 s).failP (balS1 s).pos 29) ∧ w2.grownBy w3 (some p))) := fun w2 h => (failP_any lim p (balS2 s) (balS1 s).pos 29 w2 h).mono (fun _ _ h => ⟨h.1, h.2⟩)
  have HK : Hid (∀ w3, (w.alloc (.cells #[.int .u64 0, .int .i64 0] 37)).grownBy w3 (some p) → w3.heap[w.heap.size]? = some (.cells #[.int .u64 0, .int .i64 0] 37 (0, 0)) ∧ w.grownBy w3 (some p)) := by
    intro w3 g
    have hs : (w.alloc (.cells #[.int .u64 0, .int .i64 0] 37)).heap.size = w.heap.size + 1 := by simp
    exact ⟨(g.block _ (by rw [hs]; omega) (by simp; omega)).trans (alloc_at _ _), grown_trans (row := some p) (hA (some p)) g⟩
  have HN : Hid (∀ w1, RdS lim w1 p (balS1 s) → nodeV s < 256) := fun w1 h => hi_take_lt (k := 1) (rest_lt h).1
  clear hR hA
  have HBS : Hid (balS s = if 6 < nodeV s then (balS2 s).failP (balS1 s).pos 29 else balS2 s) := rfl
  generalize balS s = t at *
  generalize nodeV s = nd at *
  generalize (numAt s.rest).1 = nm at *
  by_cases h6 : 6 < nd
  · have HE := HBS.out
    rw [if_pos h6] at HE
    subst HE
    have hd : decide ((nd : Int) > 6) = true := by simp; omega
    go_enter Tryd.func57, Tryd.ntmps57
    go_wp2_with fail
    refine H1.out.mono ?_
    rintro e w1 ⟨rfl, G1⟩
    have hn := HN.out w1 G1.out.1
    go_wp2_with fail
    refine (H2.out w1 G1.out.1).mono ?_
    rintro e w1' ⟨rfl, rfl⟩
    go_wp2_with fail
    refine (H3.out _ G1.out.1).mono ?_
    rintro e w2 ⟨rfl, G2⟩
    go_wp2_with fail
    refine (H4.out _ G2.out.1).mono ?_
    rintro e w3 ⟨rfl, G3⟩
    obtain ⟨hb, hg⟩ := HK.out w3 (grown_trans (row := some p) (grown_trans (row := some p) G1.out.2 G2.out.2) G3.out.2)
    have c0 := block_cell hb 0
    have c1 := block_cell hb 1
    have f0 := block_free hb 0
    have f1 := block_free hb 1
    simp at c0 c1
    have HG := hide hg
    have hlt := block_lt hb
    clear hb hg
    go_wp2
    refine bodyPost_ret (v := .agg #[.int .u64 (nm : Int), .int .i64 (nd : Int)]) (by simp [results, Tryd.results57, go_sem, c0, c1]) rfl ⟨rfl, ?_⟩
    exact fin_bal hp G3.out.1 HG.out _ _
  · have HE := HBS.out
    rw [if_neg h6] at HE
    subst HE
    have hd : decide ((nd : Int) > 6) = false := by simp; omega
    go_enter Tryd.func57, Tryd.ntmps57
    go_wp2_with fail
    refine H1.out.mono ?_
    rintro e w1 ⟨rfl, G1⟩
    have hn := HN.out w1 G1.out.1
    go_wp2_with fail
    refine (H2.out w1 G1.out.1).mono ?_
    rintro e w1' ⟨rfl, rfl⟩
    go_wp2_with fail
    refine (H3.out _ G1.out.1).mono ?_
    rintro e w2 ⟨rfl, G2⟩
    obtain ⟨hb, hg⟩ := HK.out w2 (grown_trans (row := some p) G1.out.2 G2.out.2)
    have c0 := block_cell hb 0
    have c1 := block_cell hb 1
    have f0 := block_free hb 0
    have f1 := block_free hb 1
    simp at c0 c1
    have HG := hide hg
    have hlt := block_lt hb
    clear hb hg
    go_wp2
    refine bodyPost_ret (v := .agg #[.int .u64 (nm : Int), .int .i64 (nd : Int)]) (by simp [results, Tryd.results57, go_sem, c0, c1]) rfl ⟨rfl, ?_⟩
    exact fin_bal hp G2.out.1 HG.out _ _
end Go.Proofs.YtidhondcfagoaaaDoor
