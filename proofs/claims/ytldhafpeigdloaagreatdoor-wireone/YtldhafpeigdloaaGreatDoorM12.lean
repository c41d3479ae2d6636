import Derived.Test.YtldhafpeigdloaaGreatDoorM11
import Derived.Deep.RegionLaw
import Derived.Test.YtldhafpeigdloaaGreatDoorM6
import Derived.Deep.RegionHeld
import Derived.Test.YtldhafpeigdloaaGreatDoorM4
namespace Go.Proofs.YtldhafpeigdloaaGreatDoor
open Go.RowKit Crc

theorem step_append_own {P : Program} {ops : Array Oper} {o : Oper} {a : Act} {w : World} {K : Act → World → Prop} {Q : Exit → Act → World → Prop} {E : Prop}
    (hgd : o.guard = none) (s x : Operand) (t : TypeId) (ho : o.op = .call { callee := .builtin .append, args := #[s, x], argTypes := #[t, t] })
    (base : Nat) (e : TypeId) (i : TypeInfo) (z : Value) (size bytes : Nat) (ht : P.underlying t = some (.slice e)) (hi : P.info? e = some i) (hz : i.zero = some z)
    (hsize : i.size = size) (hby : i.bytes = bytes) (hzs : z.cells.size = size) (hsz : 0 < size)
    (v : Value) (n : Nat) (xs : List Value) (hs : a.eval s = v) (hown : w.ownsRow base e size v n xs)
    (ad : Addr) (m c : Nat) (news : List Value) (hx : a.eval x = .slice (some ad) m c) (hl : news.length = m * size) (hnews : ∀ j u, news[j]? = some u → w.cell? (ad.add j) = some u) (h1 : ∀ u ∈ news, u.oneCell' = true)
    (h63 : n + m ≤ maxLen) (hbytes : (n + m) * bytes ≤ 140737488355328) (hbase : base ≤ w.heap.size)
    (h : ∀ v' w', w'.ownsRow base e size v' (n + m) (xs ++ news) → w.grownBy w' v.ownBlock → K (a.put o.dst v') w') :
    if Region.wanted o (yielded ops a.tmps) = true then Oper.wp P o a w K Q else E := by
  have hw : Region.wanted o (yielded ops a.tmps) = true := by simp [Region.wanted, hgd]
  rw [if_pos hw]
  exact wp_append_own w s x t ho base e i z size bytes ht hi hz hsize hby hzs hsz v n xs hs hown ad m c news hx hl hnews h1 h63 hbytes hbase (fun v' w' h2 h3 _ => h v' w' h2 h3)

theorem fin_rb {w : World} {lim p B stamp n : Nat} {s s' : RS} {v : Value} {rs1 : List Rq} {wr : World} (hp : p < w.heap.size) (hB : w.heap.size < B) (hn8 : n ≤ 8) (hn : bN s = n) (h : Rb w lim p B stamp n (bS2 s) n v rs1 s' wr) (x y : Value) :
    OwnRs w.heap.size ((wr.setCell ⟨w.heap.size, 0, none⟩ x).setCell ⟨w.heap.size, 1, none⟩ y) v rs1 ∧ FreeRs w.heap.size ((wr.setCell ⟨w.heap.size, 0, none⟩ x).setCell ⟨w.heap.size, 1, none⟩ y) rs1 ∧ rs1.map Rq.val = bVals s ∧ RdS lim ((wr.setCell ⟨w.heap.size, 0, none⟩ x).setCell ⟨w.heap.size, 1, none⟩ y) p (bEnd s) ∧ w.grownBy ((wr.setCell ⟨w.heap.size, 0, none⟩ x).setCell ⟨w.heap.size, 1, none⟩ y) (some p) := by
  have hgo := h.go
  rw [Nat.sub_self, rdGo] at hgo
  have e1 : bVals s = rs1.map Rq.val := by unfold bVals; rw [hn, hgo]; simp
  have e2 : bEnd s = s' := by unfold bEnd; rw [hn, hgo]
  have hne : v.ownBlock ≠ some w.heap.size := fun e => by have := (h.row.lt _ e).1; omega
  have r2 := (h.row.kept (grown_set wr w.heap.size 0 x) (.inr hne)).kept (grown_set _ w.heap.size 1 y) (.inr hne)
  have hf : ∀ r ∈ rs1, r.sl.ownBlock = none ∨ r.sl.ownBlock ≠ some w.heap.size := fun r hx => .inr (fun e => by have := ((h.free.own r hx).1.lt _ e).1; omega)
  have f2 := (h.free.next (grown_set wr w.heap.size 0 x) hf).next (grown_set _ w.heap.size 1 y) hf
  have hl := h.rd.limp
  have hr : ∀ g, some w.heap.size = some g → lim ≤ g ∧ g ≠ p := fun g e => by cases e; exact ⟨by omega, by omega⟩
  have d2 := (h.rd.kept (grown_set wr w.heap.size 0 x) hr).kept (grown_set _ w.heap.size 1 y) hr
  refine ⟨⟨⟨by rw [h.len]; exact r2.1, ?_⟩, fun r hx => ?_, by rw [h.len]; omega⟩, ⟨fun r hx => (f2.own r hx).lower (by omega), f2.apart⟩, e1.symm, by rw [e2]; exact d2, h.gr.os, h.gr.tape, h.gr.output, by simpa using h.gr.size, fun k hk hne2 => ?_⟩
  · rw [h.len]
    rcases r2.2 with h0 | ⟨g, cap, cur, h1, h2, h3⟩
    · exact .inl h0
    · exact .inr ⟨g, cap, cur, h1, by omega, h3⟩
  · obtain ⟨n1, n2, _, _⟩ := h.num r hx
    obtain ⟨vo, vc, hv, hS, _⟩ := (f2.own r hx).form
    refine ⟨n1, n2, ?_⟩
    have hv' : Value.slice r.co r.cn r.cc = .slice vo r.C.length vc := hv
    simp only [Value.slice.injEq] at hv'
    obtain ⟨e3, e4, e5⟩ := hv'
    rw [e3, e4, e5]
    exact hS
  · have hsz := h.gr.size
    have e1 := (grown_set wr w.heap.size 0 x).block k (by omega) (by simp; omega)
    have e2 := (grown_set (wr.setCell ⟨w.heap.size, 0, none⟩ x) w.heap.size 1 y).block k (by simp; omega) (by simp; omega)
    exact e2.trans (e1.trans (h.gr.block k hk hne2))

set_option maxRecDepth 10000 in
set_option maxHeartbeats 1600000 in
theorem readBatch_any (lim p : Nat) (s : RS) (w : World) (hR : RdS lim w p s) :
    Calls Tryz.prog 127 #[.pointer (some ⟨p, 0, none⟩)] w fun e w' => ∃ v rs1, e = .returned (.agg #[.int .u64 ((numAt s.rest).1 : Nat), v]) ∧ Hid (OwnRs w.heap.size w' v rs1 ∧ FreeRs w.heap.size w' rs1 ∧ rs1.map Rq.val = bVals s ∧ RdS lim w' p (bEnd s) ∧ w.grownBy w' (some p)) := by
  obtain ⟨i0, hi, hz0, hz1, hz2⟩ := info_parts infoReq
  have hp := hR.plt
  have hA := World.grownBy_alloc w (.cells #[.int .u64 0, .slice none 0 0] 29)
  have H1 : Hid (Calls Tryz.prog 130 #[.pointer (some ⟨p, 0, none⟩), .int .u64 0, .int .u64 1099511627776] (w.alloc (.cells #[.int .u64 0, .slice none 0 0] 29)) fun e w1 => e = .returned (.int .u64 ((numAt s.rest).1 : Nat)) ∧ Hid (RdS lim w1 p (bS1 s) ∧ (w.alloc (.cells #[.int .u64 0, .slice none 0 0] 29)).grownBy w1 (some p))) := readBound_any lim p s 0 1099511627776 _ (hR.quiet (hA none))
  have H2 : Hid (∀ w1, RdS lim w1 p (bS1 s) → Calls Tryz.prog 131 #[.pointer (some ⟨p, 0, none⟩), .int .i64 8] w1 fun e w2 => e = .returned (.int .i64 ((bN s : Nat) : Int)) ∧ Hid (RdS lim w2 p (bS2 s) ∧ w1.grownBy w2 (some p))) := fun w1 h => (rCount_any lim p (bS1 s) 8 w1 h (by omega) (by omega)).mono (fun _ _ h => ⟨h.1, h.2⟩)
  have hn8 : bN s ≤ 8 := by
    have h := countAt_ok (bS1 s).rest 8
    unfold bN
    by_cases hz : (countAt (bS1 s).rest 8).2.2 = 0
    · have := h.2.2.1 hz (by omega); omega
    · have := (h.2.2.2.2 hz).1; omega
  have H0 : Hid (∀ w1 w2, (w.alloc (.cells #[.int .u64 0, .slice none 0 0] 29)).grownBy w1 (some p) → RdS lim w2 p (bS2 s) → (w1.alloc (.cells #[.int .u64 ((numAt s.rest).1 : Nat), .slice none 0 0] 29)).grownBy w2 (some p) → w.heap.size < w1.heap.size ∧ Rb w lim p w1.heap.size (numAt s.rest).1 (bN s) (bS2 s) 0 (.slice none 0 0) [] (bS2 s) w2) := by
    intro w1 w2 g1 hr g2
    have hs : (w.alloc (.cells #[.int .u64 0, .slice none 0 0] 29)).heap.size = w.heap.size + 1 := by simp
    have hs1 := g1.size
    have hgA := World.grownBy_alloc w1 (.cells #[.int .u64 ((numAt s.rest).1 : Nat), .slice none 0 0] 29) (some p)
    have gw1 := grown_trans (row := some p) (hA (some p)) g1
    have gw2 := grown_trans (row := some p) (grown_trans (row := some p) gw1 hgA) g2
    have res1 : w1.heap[w.heap.size]? = some (.cells #[.int .u64 0, .slice none 0 0] 29 (0, 0)) := (grown_pos g1 (by omega) (by omega)).trans (alloc_at _ _)
    refine ⟨by omega, gw2, ?_, ?_, World.ownsRow_nil _ _ _ _, rfl, ⟨fun r hx => by simp at hx, by simp⟩, fun r hx => by simp at hx, fun r hx => by simp at hx, hr, by simp⟩
    · exact ((grown_trans (row := some p) hgA g2).block _ (block_lt res1) (by simp; omega)).trans res1
    · exact (grown_pos g2 (by simp) (by omega)).trans (alloc_at _ _)
  clear hR hA
  generalize hst : (numAt s.rest).1 = st at *
  go_enter Tryz.func127, Tryz.ntmps127
  go_wp2_with fail
  refine H1.out.mono ?_
  rintro e w1 ⟨rfl, G1⟩
  go_wp2_with fail
  refine (H2.out _ (G1.out.1.quiet (World.grownBy_alloc w1 _ none))).mono ?_
  rintro e w2 ⟨rfl, G2⟩
  obtain ⟨hB, hrb0⟩ := H0.out w1 w2 G1.out.2 G2.out.1 G2.out.2
  have HRB0 := hide hrb0
  clear hrb0 H0 H1 H2
  generalize w1.heap.size = B at *
  generalize hn : bN s = n at *
  go_wp2
  go_loopw [9] (fun i wr => ∃ k : Nat, k ≤ n ∧ i = .int .i64 k ∧ Hid (∃ v rs1 s', Rb w lim p B st n (bS2 s) k v rs1 s' wr)) (fun i _ => n - (intOf i).toNat)
  case atStart => exact ⟨0, by omega, rfl, _, _, _, HRB0.out⟩
  case round =>
    obtain ⟨k, hk, rfl, HS⟩ := hrel
    obtain ⟨v, rs1, s', hrb⟩ := HS.out
    have HRB := hide hrb
    have x1 := block_cell hrb.box 1
    simp at x1
    clear hrb HS HRB0
    by_cases hlt : k < n
    · have HRQ : Hid (∀ q, Calls Tryz.prog 137 #[.pointer (some ⟨p, 0, none⟩)] (wr.drewN q) fun e w1 => ∃ vo vc, e = .returned (.agg #[.int .u64 ((rqV s').1 : Int), .int .u64 ((rqV s').2.1 : Int), .slice vo (rqV s').2.2.length vc]) ∧ w1.cell? ⟨B, 1, none⟩ = some v ∧ w1.frozen? ⟨B, 1, none⟩ = false ∧ B < w1.heap.size ∧ Hid (Owns (wr.heap.size + 1) w1 (.slice vo (rqV s').2.2.length vc) (rqV s').2.2 ∧ RdS lim w1 p (rqS3 s') ∧ wr.grownBy w1 (some p))) := fun q => by
        refine (readRequest_any lim p s' (wr.drewN q) (HRB.out.rd.quiet ⟨rfl, rfl, rfl, Nat.le_refl _, fun _ _ _ => rfl⟩)).mono ?_
        rintro e w1 ⟨vo, vc, rfl, G⟩
        obtain ⟨g1, g2, g3⟩ := G.out
        have hg : wr.grownBy w1 (some p) := ⟨g3.os, g3.tape, g3.output, g3.size, g3.block⟩
        have hbx := (grown_pos hg (block_lt HRB.out.box) (by omega)).trans HRB.out.box
        exact ⟨vo, vc, rfl, block_cell hbx 1, block_free hbx 1, block_lt hbx, g1, g2, hg⟩
      have HOW : Hid (∀ w1, wr.grownBy w1 (some p) → ∀ o, (w1.alloc o).ownsRow (B + 1) 100 3 v k (rcells rs1)) := fun w1 hg o => row_quiet (HRB.out.row.kept hg (.inr (fun e => by have := (HRB.out.row.lt p e).1; omega))) (World.grownBy_alloc _ _ none)
      have hnum : (rqV s').1 < 18446744073709551616 ∧ (rqV s').2.1 < 18446744073709551616 := ⟨(numAt_ok _).1, (numAt_ok _).1⟩
      have HNX : Hid (∀ (v' : Value) (w1 w2 : World) (o2 : Obj) (vo : Option Addr) (vc : Nat), (Owns (wr.heap.size + 1) w1 (.slice vo (rqV s').2.2.length vc) (rqV s').2.2 ∧ RdS lim w1 p (rqS3 s') ∧ wr.grownBy w1 (some p)) → w2.ownsRow (B + 1) 100 3 v' (k + 1) (rcells (rs1 ++ [⟨(rqV s').1, (rqV s').2.1, vo, (rqV s').2.2.length, vc, (rqV s').2.2⟩])) → (w1.alloc o2).grownBy w2 v.ownBlock → (∃ rs2, Rb w lim p B st n (bS2 s) (k + 1) v' rs2 (rqS3 s') (w2.setCell ⟨B, 1, none⟩ v')) ∧ w2.cell? ⟨B, 1, none⟩ = some v ∧ w2.frozen? ⟨B, 1, none⟩ = false) := fun v' w1 w2 o2 vo vc hG hr hg => by
        obtain ⟨h1, h2⟩ := Rb.next (by omega) hB HRB.out hlt hG.1 hG.2.1 hG.2.2 hnum hr hg
        exact ⟨⟨_, h1⟩, h2⟩
      have HSN : Hid (∀ vo vc, rcells (rs1 ++ [⟨(rqV s').1, (rqV s').2.1, vo, (rqV s').2.2.length, vc, (rqV s').2.2⟩]) = rcells rs1 ++ [.int .u64 ((rqV s').1 : Int), .int .u64 ((rqV s').2.1 : Int), .slice vo (rqV s').2.2.length vc]) := fun vo vc => rcells_snoc _ _
      have hsz := HRB.out.gr.size
      clear hnum
      go_wp2_with fail
      go_region_law (first
        | (refine step_append_own rfl (.tmp 12) (.tmp 15) 27 rfl (B + 1) 100 i0 (.agg #[.int .u64 0, .int .u64 0, .slice none 0 0]) 3 40 Tryz.underlying27 hi hz0 hz1 hz2 rfl (by decide) v k (rcells rs1) (by simp [Act.eval]) (HOW.out _ G.out.2.2 _) ⟨w1.heap.size, 0, none⟩ 1 1 [.int .u64 ((rqV s').1 : Int), .int .u64 ((rqV s').2.1 : Int), .slice vo (rqV s').2.2.length vc] (by simp [Act.eval]) rfl (cell_req_new _ _ _ _ _) (by simp [Value.oneCell']) (by unfold maxLen; omega) (by omega) (by simp; omega) ?_; intro v' w2 ho hg; obtain ⟨g', cap', rfl⟩ := ownsRow_succ ho; obtain ⟨hrb2, z1, z2⟩ := HNX.out _ _ _ _ _ _ G.out (by rw [HSN.out]; exact ho) hg; have HR2 := hide hrb2; clear hrb2 ho hg)
        | (go_simp; go_wp2_with (go_at_call 137; refine (HRQ.out 1).mono ?_; rintro e w1 ⟨vo, vc, rfl, y1, y2, hB1, G⟩)))
      all_goals go_wp2
      all_goals exact ⟨⟨k + 1, by omega, by go_num, by obtain ⟨rs2, h2⟩ := HR2.out; exact ⟨_, rs2, _, h2⟩⟩, by simp [intOf]; omega⟩
    · obtain rfl : k = n := by omega
      have hb := HRB.out.box
      have b0 := block_cell hb 0
      have hr := HRB.out.res
      have r0 := block_cell hr 0
      have r1 := block_cell hr 1
      have f0 := block_free hr 0
      have f1 := block_free hr 1
      simp at b0 r0 r1
      have hw : w.heap.size < wr.heap.size := block_lt hr
      clear hb hr
      have HL := hide HRB.out.len
      obtain ⟨ao, cp, hv⟩ : ∃ ao cp, v = .slice ao k cp := by
        rcases HRB.out.row.2 with ⟨h, h0⟩ | ⟨g, cap, cur, h, _⟩
        · exact ⟨none, 0, by rw [h, h0]⟩
        · exact ⟨_, _, h⟩
      subst hv
      go_wp2
      refine bodyPost_ret (v := .agg #[.int .u64 (st : Int), .slice ao k cp]) (by simp [results, Tryz.results127, go_sem, r0, r1]) rfl ⟨_, rs1, rfl, ?_⟩
      exact fin_rb hp hB (by omega) hn HRB.out _ _
end Go.Proofs.YtldhafpeigdloaaGreatDoor
namespace Go.Proofs.YtldhafpeigdloaaGreatDoor
open Go.RowKit Crc

/-- A ballot that is read. -/
def balS1 (s : RS) : RS := rdBound s 0 1099511627776
def nodeV (s : RS) : Nat := hi (aheadV (balS1 s).rest 1)
def balS2 (s : RS) : RS := (balS1 s).step 1 (aheadW (balS1 s).rest 1)
def balS (s : RS) : RS := if 6 < nodeV s then (balS2 s).failP (balS1 s).pos 29 else balS2 s

theorem fin_bal {lim p : Nat} {w w3 : World} {s : RS} (hp : p < w.heap.size) (hR : RdS lim w3 p s) (hg : w.grownBy w3 (some p)) (x y : Value) :
    RdS lim ((w3.setCell ⟨w.heap.size, 0, none⟩ x).setCell ⟨w.heap.size, 1, none⟩ y) p s ∧ w.grownBy ((w3.setCell ⟨w.heap.size, 0, none⟩ x).setCell ⟨w.heap.size, 1, none⟩ y) (some p) := by
  have hl := hR.limp
  have hr : ∀ g, some w.heap.size = some g → lim ≤ g ∧ g ≠ p := fun g e => by cases e; exact ⟨by omega, by omega⟩
  refine ⟨(hR.kept (grown_set w3 w.heap.size 0 x) hr).kept (grown_set _ w.heap.size 1 y) hr, hg.os, hg.tape, hg.output, by simpa using hg.size, fun k hk hne => ?_⟩
  have hsz := hg.size
  have e1 := (grown_set w3 w.heap.size 0 x).block k (by omega) (by simp; omega)
  have e2 := (grown_set (w3.setCell ⟨w.heap.size, 0, none⟩ x) w.heap.size 1 y).block k (by simp; omega) (by simp; omega)
  exact e2.trans (e1.trans (hg.block k hk hne))

set_option maxRecDepth 10000 in
set_option maxHeartbeats 800000 in
theorem readBallot_any (lim p : Nat) (s : RS) (w : World) (hR : RdS lim w p s) :
    Calls Tryz.prog 126 #[.pointer (some ⟨p, 0, none⟩)] w fun e w' => e = .returned (.agg #[.int .u64 ((numAt s.rest).1 : Nat), .int .i64 ((nodeV s : Nat) : Int)]) ∧ Hid (RdS lim w' p (balS s) ∧ w.grownBy w' (some p)) := by
  have hp := hR.plt
  have hA := World.grownBy_alloc w (.cells #[.int .u64 0, .int .i64 0] 25)
  have H1 : Hid (Calls Tryz.prog 130 #[.pointer (some ⟨p, 0, none⟩), .int .u64 0, .int .u64 1099511627776] (w.alloc (.cells #[.int .u64 0, .int .i64 0] 25)) fun e w1 => e = .returned (.int .u64 ((numAt s.rest).1 : Nat)) ∧ Hid (RdS lim w1 p (balS1 s) ∧ (w.alloc (.cells #[.int .u64 0, .int .i64 0] 25)).grownBy w1 (some p))) := readBound_any lim p s 0 1099511627776 _ (hR.quiet (hA none))
  have H2 : Hid (∀ w1, RdS lim w1 p (balS1 s) → Calls Tryz.prog 128 #[.pointer (some ⟨p, 0, none⟩)] w1 fun e w2 => e = .returned (.int .i64 ((balS1 s).pos : Nat)) ∧ w2 = w1) := fun w1 h => rAt_any lim p (balS1 s) w1 h
  have H3 : Hid (∀ w1, RdS lim w1 p (balS1 s) → Calls Tryz.prog 136 #[.pointer (some ⟨p, 0, none⟩)] w1 fun e w2 => e = .returned (.int .u8 ((nodeV s : Nat) : Int)) ∧ Hid (RdS lim w2 p (balS2 s) ∧ w1.grownBy w2 (some p))) := fun w1 h => (rU8_any lim p (balS1 s) w1 h).mono (fun _ _ h => ⟨h.1, h.2⟩)
  have H4 : Hid (∀ w2, RdS lim w2 p (balS2 s) → Calls Tryz.prog 109 #[.pointer (some ⟨p, 0, none⟩), .int .i64 ((balS1 s).pos : Int), .int .i64 29] w2 fun e w3 => e = .returned (.tuple #[]) ∧ Hid (RdS lim w3 p ((balS2 s).failP (balS1 s).pos 29) ∧ w2.grownBy w3 (some p))) := fun w2 h => (failP_any lim p (balS2 s) (balS1 s).pos 29 w2 h).mono (fun _ _ h => ⟨h.1, h.2⟩)
  have HK : Hid (∀ w3, (w.alloc (.cells #[.int .u64 0, .int .i64 0] 25)).grownBy w3 (some p) → w3.heap[w.heap.size]? = some (.cells #[.int .u64 0, .int .i64 0] 25 (0, 0)) ∧ w.grownBy w3 (some p)) := by
    intro w3 g
    have hs : (w.alloc (.cells #[.int .u64 0, .int .i64 0] 25)).heap.size = w.heap.size + 1 := by simp
    exact ⟨(g.block _ (by rw [hs]; omega) (by simp; omega)).trans (alloc_at _ _), grown_trans (row := some p) (hA (some p)) g⟩
  have HN : Hid (∀ w1, RdS lim w1 p (balS1 s) → nodeV s < 256) := fun w1 h => hi_take_lt (k := 1) (rest_lt h).1
  clear hR hA
  have HBS : Hid (balS s = if 6 < nodeV s then (balS2 s).failP (balS1 s).pos 29 else balS2 s) := rfl
  generalize balS s = t at *
  generalize nodeV s = nd at *
  generalize (numAt s.rest).1 = nm at *
  by_cases h6 : 6 < nd
  · have HE := HBS.out
    rw [if_pos h6] at HE
    subst HE
    have hd : decide ((nd : Int) > 6) = true := by simp; omega
    go_enter Tryz.func126, Tryz.ntmps126
    go_wp2_with fail
    refine H1.out.mono ?_
    rintro e w1 ⟨rfl, G1⟩
    have hn := HN.out w1 G1.out.1
    go_wp2_with fail
    refine (H2.out w1 G1.out.1).mono ?_
    rintro e w1' ⟨rfl, rfl⟩
    go_wp2_with fail
    refine (H3.out _ G1.out.1).mono ?_
    rintro e w2 ⟨rfl, G2⟩
    go_wp2_with fail
    refine (H4.out _ G2.out.1).mono ?_
    rintro e w3 ⟨rfl, G3⟩
    obtain ⟨hb, hg⟩ := HK.out w3 (grown_trans (row := some p) (grown_trans (row := some p) G1.out.2 G2.out.2) G3.out.2)
    have c0 := block_cell hb 0
    have c1 := block_cell hb 1
    have f0 := block_free hb 0
    have f1 := block_free hb 1
    simp at c0 c1
    have HG := hide hg
    have hlt := block_lt hb
    clear hb hg
    go_wp2
    refine bodyPost_ret (v := .agg #[.int .u64 (nm : Int), .int .i64 (nd : Int)]) (by simp [results, Tryz.results126, go_sem, c0, c1]) rfl ⟨rfl, ?_⟩
    exact fin_bal hp G3.out.1 HG.out _ _
  · have HE := HBS.out
    rw [if_neg h6] at HE
    subst HE
    have hd : decide ((nd : Int) > 6) = false := by simp; omega
    go_enter Tryz.func126, Tryz.ntmps126
    go_wp2_with fail
    refine H1.out.mono ?_
    rintro e w1 ⟨rfl, G1⟩
    have hn := HN.out w1 G1.out.1
    go_wp2_with fail
    refine (H2.out w1 G1.out.1).mono ?_
    rintro e w1' ⟨rfl, rfl⟩
    go_wp2_with fail
    refine (H3.out _ G1.out.1).mono ?_
    rintro e w2 ⟨rfl, G2⟩
    obtain ⟨hb, hg⟩ := HK.out w2 (grown_trans (row := some p) G1.out.2 G2.out.2)
    have c0 := block_cell hb 0
    have c1 := block_cell hb 1
    have f0 := block_free hb 0
    have f1 := block_free hb 1
    simp at c0 c1
    have HG := hide hg
    have hlt := block_lt hb
    clear hb hg
    go_wp2
    refine bodyPost_ret (v := .agg #[.int .u64 (nm : Int), .int .i64 (nd : Int)]) (by simp [results, Tryz.results126, go_sem, c0, c1]) rfl ⟨rfl, ?_⟩
    exact fin_bal hp G2.out.1 HG.out _ _
end Go.Proofs.YtldhafpeigdloaaGreatDoor
namespace Go.Proofs.YtldhafpeigdloaaGreatDoor
open Go.RowKit Crc

theorem cell_block_lt {w : World} {b o : Nat} {v : Value} (h : w.cell? ⟨b, o, none⟩ = some v) : b < w.heap.size := World.block_lt_of_cell? w _ h
end Go.Proofs.YtldhafpeigdloaaGreatDoor
namespace Go.Proofs.YtldhafpeigdloaaGreatDoor
open Go.RowKit Crc

theorem strOf_size (L : List Nat) : (strOf L).size = L.length := by
  have h := foldl_push (L.map (fun (x : Nat) => (x : Int))) ByteArray.empty
  have h2 : (strOf L).data.toList.length = L.length := by
    unfold strOf
    rw [h]
    simp
  rw [Array.length_toList] at h2
  exact h2
theorem strOf_nil : strOf [] = ByteArray.empty := rfl
/-- A step that is taken back. -/
theorem RS.step_twice {s : RS} (hs : s.sound) (z z' : Nat) {y : Int} (hy : y ≠ 0) : { s.step z 0 with why := y, place := (s.pos : Int), pos := s.pos } = s.step z' y := RS.step_back hs z z' hy

end Go.Proofs.YtldhafpeigdloaaGreatDoor
namespace Go.Proofs.YtldhafpeigdloaaGreatDoor
open Go.RowKit Crc

def Keep (base : Nat) (w w' : World) : Prop := ∀ W, Below base W w → Below base W w'
theorem Keep.trans {base : Nat} {a b c : World} (h : Keep base a b) (k : Keep base b c) : Keep base a c := fun W hW => k W (h W hW)
theorem RS.step_place {s : RS} (h : s.sound → s.place = 0) (z : Nat) (y : Int) : (s.step z y).sound → (s.step z y).place = 0 := by
  intro hs
  by_cases h0 : s.sound
  · by_cases hy : y = 0
    · subst hy
      rw [RS.step_ok h0]
      exact h h0
    · exact absurd hs (RS.unsound z hy)
  · rw [RS.step_not h0] at hs ⊢
    exact h hs
theorem RS.step_plain {s : RS} (h : s.made = false → s.B.length = s.pos) (z : Nat) (y : Int) : (s.step z y).made = false → (s.step z y).B.length = (s.step z y).pos := by
  by_cases h0 : s.sound
  · intro hm
    have : (s.step z y).made = s.made := by unfold RS.step; split <;> (try split) <;> rfl
    rw [this, h0.1] at hm
    cases hm
  · rw [RS.step_not h0]
    exact h
end Go.Proofs.YtldhafpeigdloaaGreatDoor
namespace Go.Proofs.YtldhafpeigdloaaGreatDoor
open Go.RowKit Crc

theorem failP_place {s : RS} (h : s.sound → s.place = 0) (a y : Int) (hy : y ≠ 0) : (s.failP a y).sound → (s.failP a y).place = 0 := by
  unfold RS.failP
  by_cases hs : s.sound
  · rw [if_pos hs]
    intro h2
    exact absurd h2.2 hy
  · rw [if_neg hs]
    exact h
theorem rdBound_place {s : RS} (h : s.sound → s.place = 0) (a b : Nat) : (rdBound s a b).sound → (rdBound s a b).place = 0 := by
  unfold rdBound
  have h1 : (rdNum s).sound → (rdNum s).place = 0 := RS.step_place h _ _
  split
  · exact h1
  · exact failP_place h1 _ _ (by decide)
theorem rqS3_place {s : RS} (h : s.sound → s.place = 0) : (rqS3 s).sound → (rqS3 s).place = 0 := RS.step_place (RS.step_place (rdBound_place h _ _) _ _) _ _
theorem rdGo_place : ∀ (n : Nat) (s : RS), (s.sound → s.place = 0) → (rdGo n s).2.sound → (rdGo n s).2.place = 0
  | 0, _, h => h
  | n + 1, s, h => rdGo_place n (rqS3 s) (rqS3_place h)
theorem bEnd_place {s : RS} (h : s.sound → s.place = 0) : (bEnd s).sound → (bEnd s).place = 0 := rdGo_place _ _ (RS.step_place (rdBound_place h _ _) _ _)

/-- The state of a new reader. -/
def RS1 (B : List Nat) : RS := ⟨true, 0, 0, B, 0, KR⟩

theorem OwnRs.next {base : Nat} {w w' : World} {v : Value} {rs : List Rq} {row : Option Nat} (h : OwnRs base w v rs) (hf : FreeRs base w rs) (hg : w.grownBy w' row) (h1 : v.ownBlock = none ∨ v.ownBlock ≠ row) (h2 : ∀ r ∈ rs, r.sl.ownBlock = none ∨ r.sl.ownBlock ≠ row) : OwnRs base w' v rs ∧ FreeRs base w' rs := by
  have f2 := hf.next hg h2
  refine ⟨⟨h.row.kept hg h1, fun r hx => ?_, h.le⟩, f2⟩
  obtain ⟨vo, vc, hv, hS, _⟩ := (f2.own r hx).form
  have hv' : Value.slice r.co r.cn r.cc = .slice vo r.C.length vc := hv
  simp only [Value.slice.injEq] at hv'
  obtain ⟨e3, e4, e5⟩ := hv'
  refine ⟨(h.ok r hx).hc, (h.ok r hx).hs, ?_⟩
  rw [e3, e4, e5]
  exact hS
theorem OwnRs.quiet {base : Nat} {w w' : World} {v : Value} {rs : List Rq} (h : OwnRs base w v rs) (hf : FreeRs base w rs) (hg : w.grownBy w' none) : OwnRs base w' v rs ∧ FreeRs base w' rs := by
  refine h.next hf hg ?_ (fun r hx => ?_)
  · cases v.ownBlock with
    | none => exact .inl rfl
    | some g => exact .inr (by simp)
  · cases r.sl.ownBlock with
    | none => exact .inl rfl
    | some g => exact .inr (by simp)
theorem OwnRs.past {base g : Nat} {w w' : World} {v : Value} {rs : List Rq} (h : OwnRs base w v rs) (hf : FreeRs base w rs) (hg : w.grownBy w' (some g)) (hl : g < base) : OwnRs base w' v rs ∧ FreeRs base w' rs :=
  h.next hf hg (.inr (fun e => by have := (h.row.lt _ e).1; omega)) (fun r hx => .inr (fun e => by have := ((hf.own r hx).1.lt _ e).1; omega))
theorem OwnRs.lower {base base' : Nat} {w : World} {v : Value} {rs : List Rq} (h : OwnRs base w v rs) (hl : base' ≤ base) : OwnRs base' w v rs := by
  refine ⟨⟨h.row.1, ?_⟩, h.ok, h.le⟩
  rcases h.row.2 with h0 | ⟨g, cap, cur, h1, h2, h3⟩
  · exact .inl h0
  · exact .inr ⟨g, cap, cur, h1, by omega, h3⟩
theorem FreeRs.lower {base base' : Nat} {w : World} {rs : List Rq} (h : FreeRs base w rs) (hl : base' ≤ base) : FreeRs base' w rs := ⟨fun r hx => (h.own r hx).lower hl, h.apart⟩
theorem OwnRs.nil (base : Nat) (w : World) : OwnRs base w (.slice none 0 0) [] ∧ FreeRs base w [] := ⟨⟨World.ownsRow_nil _ _ _ _, fun r hx => by simp at hx, by simp⟩, fun r hx => by simp at hx, by simp⟩

theorem errV_set2 {w : World} {x : Value} {c a : Int} {B : Nat} {k : IntKind} {m : Int} (h : ErrV w x c a) (hB : w.cell? ⟨B, 0, none⟩ = some (.int k m)) (u1 u2 : Value) : ErrV ((w.setCell ⟨B, 0, none⟩ u1).setCell ⟨B, 1, none⟩ u2) x c a := by
  rcases h with h | ⟨⟨g, h1, h2, h3, h4⟩, hc⟩
  · exact .inl h
  · have hne : B ≠ g := fun e => by subst e; rw [hB] at h2; cases h2
    have hk : ∀ j, ((w.setCell ⟨B, 0, none⟩ u1).setCell ⟨B, 1, none⟩ u2).cell? ⟨g, j, none⟩ = w.cell? ⟨g, j, none⟩ := fun j => by
      rw [World.cell?_setCell_other _ _ _ _ (by simp), World.cell?_setCell_other _ _ _ _ (by simp)]
    exact .inr ⟨⟨g, h1, (hk 0).trans h2, (hk 1).trans h3, (hk 2).trans h4⟩, hc⟩
theorem fin_dp {w w4 : World} {o : Obj} {v : Value} {rs1 : List Rq} (hb : Below (w.heap.size + 1) (w.alloc o) w4) (h : OwnRs (w.heap.size + 1) w4 v rs1) (hf : FreeRs (w.heap.size + 1) w4 rs1) (x y : Value) :
    Below w.heap.size w ((w4.setCell ⟨w.heap.size, 0, none⟩ x).setCell ⟨w.heap.size, 1, none⟩ y) ∧ OwnRs w.heap.size ((w4.setCell ⟨w.heap.size, 0, none⟩ x).setCell ⟨w.heap.size, 1, none⟩ y) v rs1 ∧ FreeRs w.heap.size ((w4.setCell ⟨w.heap.size, 0, none⟩ x).setCell ⟨w.heap.size, 1, none⟩ y) rs1 := by
  obtain ⟨a1, a2⟩ := h.past hf (grown_set w4 w.heap.size 0 x) (by omega)
  obtain ⟨b1, b2⟩ := a1.past a2 (grown_set _ w.heap.size 1 y) (by omega)
  have hbw : Below w.heap.size w w4 := (below_alloc1 w o).trans (hb.mono (by omega))
  exact ⟨(hbw.setCell (p := ⟨w.heap.size, 0, none⟩) (Nat.le_refl _) _).setCell (p := ⟨w.heap.size, 1, none⟩) (Nat.le_refl _) _, b1.lower (by omega), b2.lower (by omega)⟩

end Go.Proofs.YtldhafpeigdloaaGreatDoor
namespace Go.Proofs.YtldhafpeigdloaaGreatDoor
open Go.RowKit Crc

/-- The state with one cell behind the reader set. -/
def RS.setR (s : RS) (j : Nat) (v : Value) : RS := { s with K := ⟨s.K.t, s.K.R.set j v⟩ }
theorem RdS.setR {lim : Nat} {w : World} {p : Nat} {s : RS} (h : RdS lim w p s) (j : Nat) (v : Value) : RdS lim (w.setCell ⟨p, j + 5, none⟩ v) p (s.setR j v) := by
  obtain ⟨ao, cap, hb, hS, hp, hl⟩ := h
  refine ⟨ao, cap, ?_, hS.kept (grown_set w p (j + 5) v) (fun g e => by cases e; exact hl), hp, hl⟩
  rw [heap_setCell_same w p (j + 5) _ _ v hb]
  simp [RS.setR]
theorem RdS.cellR {lim : Nat} {w : World} {p : Nat} {s : RS} (h : RdS lim w p s) (j : Nat) : w.cell? ⟨p, j + 5, none⟩ = s.K.R[j]? ∧ w.frozen? ⟨p, j + 5, none⟩ = false := by
  obtain ⟨ao, cap, hb, hS, hp, hl⟩ := h
  refine ⟨?_, block_free hb _⟩
  rw [block_cell hb]
  simp
theorem step_K (s : RS) (z : Nat) (y : Int) : (s.step z y).K = s.K := by unfold RS.step; split <;> (try split) <;> rfl
theorem failP_K (s : RS) (a y : Int) : (s.failP a y).K = s.K := by unfold RS.failP; split <;> rfl
theorem rdBound_K (s : RS) (a b : Nat) : (rdBound s a b).K = s.K := by
  unfold rdBound
  split
  · exact step_K _ _ _
  · rw [failP_K]; exact step_K _ _ _
theorem balS_K (s : RS) : (balS s).K = s.K := by
  unfold balS balS2
  split
  · rw [failP_K, step_K]; exact rdBound_K _ _ _
  · rw [step_K]; exact rdBound_K _ _ _
theorem rqS3_K (s : RS) : (rqS3 s).K = s.K := by
  unfold rqS3 rqS2 rdNum
  rw [step_K, step_K]
  exact rdBound_K _ _ _
theorem rdGo_K : ∀ (n : Nat) (s : RS), (rdGo n s).2.K = s.K
  | 0, s => rfl
  | n + 1, s => by rw [rdGo]; exact (rdGo_K n _).trans (rqS3_K s)
theorem bEnd_K (s : RS) : (bEnd s).K = s.K := by
  unfold bEnd
  rw [rdGo_K]
  unfold bS2
  rw [step_K]
  exact rdBound_K _ _ _
theorem some_at {R : List Value} {j : Nat} (h : j < R.length) : ∃ v, R[j]? = some v := ⟨_, List.getElem?_eq_getElem h⟩

set_option maxRecDepth 10000 in
set_option maxHeartbeats 800000 in
theorem fSlot_any (lim p : Nat) (s : RS) (w : World) (hR : RdS lim w p s) (hK : s.K.R.length = 49) :
    Calls Tryz.prog 121 #[.pointer (some ⟨p, 0, none⟩)] w fun e w' => e = .returned (.tuple #[]) ∧ Hid (RdS lim w' p ((rdBound s 0 1099511627776).setR 3 (.int .u64 ((numAt s.rest).1 : Nat))) ∧ w.grownBy w' (some p)) := by
  have H1 : Hid (Calls Tryz.prog 130 #[.pointer (some ⟨p, 0, none⟩), .int .u64 0, .int .u64 1099511627776] w fun e w1 => e = .returned (.int .u64 ((numAt s.rest).1 : Nat)) ∧ Hid (RdS lim w1 p (rdBound s 0 1099511627776) ∧ w.grownBy w1 (some p))) := readBound_any lim p s 0 1099511627776 _ hR
  have HK : Hid ((rdBound s 0 1099511627776).K.R.length = 49) := by show _ = _; rw [rdBound_K]; exact hK
  clear hR hK
  go_enter Tryz.func121, Tryz.ntmps121
  go_wp2_with fail
  refine H1.out.mono ?_
  rintro e w1 ⟨rfl, G1⟩
  obtain ⟨u, hu⟩ := some_at (j := 3) (by have := HK.out; omega : 3 < (rdBound s 0 1099511627776).K.R.length)
  obtain ⟨c0, f0⟩ := G1.out.1.cellR 3
  rw [hu] at c0
  clear hu
  go_wp2
  go_end0
  exact ⟨rfl, G1.out.1.setR 3 _, grown_trans (row := some p) G1.out.2 (grown_set _ _ _ _)⟩

set_option maxRecDepth 10000 in
set_option maxHeartbeats 800000 in
theorem fBallot_any (lim p : Nat) (s : RS) (w : World) (hR : RdS lim w p s) (hK : s.K.R.length = 49) :
    Calls Tryz.prog 110 #[.pointer (some ⟨p, 0, none⟩)] w fun e w' => e = .returned (.tuple #[]) ∧ Hid (RdS lim w' p (((balS s).setR 1 (.int .u64 ((numAt s.rest).1 : Nat))).setR 2 (.int .i64 ((nodeV s : Nat) : Int))) ∧ w.grownBy w' (some p)) := by
  have H1 := hide (readBallot_any lim p s w hR)
  have HK : Hid ((balS s).K.R.length = 49) := by show _ = _; rw [balS_K]; exact hK
  clear hR hK
  go_enter Tryz.func110, Tryz.ntmps110
  go_wp2_with fail
  refine H1.out.mono ?_
  rintro e w1 ⟨rfl, G1⟩
  obtain ⟨u, hu⟩ := some_at (j := 1) (by have := HK.out; omega : 1 < (balS s).K.R.length)
  obtain ⟨c0, f0⟩ := G1.out.1.cellR 1
  rw [hu] at c0
  obtain ⟨u', hu'⟩ := some_at (j := 2) (by have := HK.out; omega : 2 < (balS s).K.R.length)
  obtain ⟨c1, f1⟩ := G1.out.1.cellR 2
  rw [hu'] at c1
  clear hu hu'
  go_wp2
  go_end0
  exact ⟨rfl, (G1.out.1.setR 1 _).setR 2 _, grown_trans (row := some p) (grown_trans (row := some p) G1.out.2 (grown_set _ _ _ _)) (grown_set _ _ _ _)⟩

theorem own_set {base p j : Nat} {w : World} {v : Value} {rs : List Rq} (h : OwnRs base w v rs) (hf : FreeRs base w rs) (hp : p < base) (x : Value) : OwnRs base (w.setCell ⟨p, j, none⟩ x) v rs ∧ FreeRs base (w.setCell ⟨p, j, none⟩ x) rs := h.past hf (grown_set _ _ _ _) hp

set_option maxRecDepth 10000 in
set_option maxHeartbeats 800000 in
theorem fBatch_any (lim p : Nat) (s : RS) (w : World) (hR : RdS lim w p s) (hK : s.K.R.length = 49) :
    Calls Tryz.prog 111 #[.pointer (some ⟨p, 0, none⟩)] w fun e w' => e = .returned (.tuple #[]) ∧ Hid (∃ v rs1, OwnRs w.heap.size w' v rs1 ∧ FreeRs w.heap.size w' rs1 ∧ rs1.map Rq.val = bVals s ∧ RdS lim w' p (((bEnd s).setR 6 (.int .u64 ((numAt s.rest).1 : Nat))).setR 7 v) ∧ w.grownBy w' (some p)) := by
  have hp := hR.plt
  have H1 := hide (readBatch_any lim p s w hR)
  have HK : Hid ((bEnd s).K.R.length = 49) := by show _ = _; rw [bEnd_K]; exact hK
  clear hR hK
  go_enter Tryz.func111, Tryz.ntmps111
  go_wp2_with fail
  refine H1.out.mono ?_
  rintro e w1 ⟨v, rs1, rfl, G1⟩
  obtain ⟨u, hu⟩ := some_at (j := 6) (by have := HK.out; omega : 6 < (bEnd s).K.R.length)
  obtain ⟨c0, f0⟩ := G1.out.2.2.2.1.cellR 6
  rw [hu] at c0
  obtain ⟨u', hu'⟩ := some_at (j := 7) (by have := HK.out; omega : 7 < (bEnd s).K.R.length)
  obtain ⟨c1, f1⟩ := G1.out.2.2.2.1.cellR 7
  rw [hu'] at c1
  obtain ⟨vo, vc, _, hv, _⟩ := G1.out.1.form
  subst hv
  clear hu hu'
  go_wp2
  go_end0
  obtain ⟨g1, g2, g3, g4, g5⟩ := G1.out
  obtain ⟨a1, a2⟩ := own_set g1 g2 hp (j := 6 + 5) (.int .u64 ((numAt s.rest).1 : Nat))
  obtain ⟨b1, b2⟩ := own_set a1 a2 hp (j := 7 + 5) (.slice vo rs1.length vc)
  exact ⟨rfl, _, rs1, b1, b2, g3, (g4.setR 6 _).setR 7 _, grown_trans (row := some p) (grown_trans (row := some p) g5 (grown_set _ _ _ _)) (grown_set _ _ _ _)⟩

end Go.Proofs.YtldhafpeigdloaaGreatDoor
