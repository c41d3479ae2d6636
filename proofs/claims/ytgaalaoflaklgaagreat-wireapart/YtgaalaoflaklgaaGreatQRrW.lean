import Derived.Test.YtgaalaoflaklgaaGreatM27
namespace Go.Proofs.YtgaalaoflaklgaaGreat
open Go.RowKit Crc

/-- In the midst of a request. -/
structure Mid (wr : World) (d p B Q stamp : Nat) (v : Value) (x : Array Value) (s : RS) (W : World) : Prop where
  rd : RefS d W p s
  gr : wr.grownBy W (some p)
  q : W.heap[Q]? = some (.cells x 67 (0, 0))
  b : W.heap[B]? = some (.cells #[.int .u64 (stamp : Int), v] 25 (0, 0))
theorem Mid.grow {wr : World} {d p B Q stamp : Nat} {v : Value} {x : Array Value} {s s2 : RS} {W W' : World} (h : Mid wr d p B Q stamp v x s W) (hB : B ≠ p) (hQ : Q ≠ p) (hg : W.grownBy W' (some p)) (hr : RefS d W' p s2) : Mid wr d p B Q stamp v x s2 W' :=
  ⟨hr, grown_trans (row := some p) h.gr hg, (grown_pos hg (block_lt h.q) hQ).trans h.q, (grown_pos hg (block_lt h.b) hB).trans h.b⟩
theorem Mid.setq {wr : World} {d p B Q stamp : Nat} {v : Value} {x : Array Value} {s : RS} {W : World} (h : Mid wr d p B Q stamp v x s W) (hB : B ≠ Q) (hQ : Q ≠ p) (hd : Q ≠ d) (hw : wr.heap.size ≤ Q) (j : Nat) (u : Value) : Mid wr d p B Q stamp v (x.setIfInBounds j u) s (W.setCell ⟨Q, j, none⟩ u) := by
  have g := grown_set W Q j u
  refine ⟨h.rd.kept g (by simpa using hQ) (by simpa using hd), ⟨h.gr.os, h.gr.tape, h.gr.output, by simpa using h.gr.size, fun k hk hne => ?_⟩, ?_, (g.block B (block_lt h.b) (by simpa using hB)).trans h.b⟩
  · exact (g.block k (by have := h.gr.size; omega) (by simp; omega)).trans (h.gr.block k hk hne)
  · exact heap_setCell_same W Q j _ _ u h.q

theorem fin_rr {w : World} {d p B stamp n k : Nat} {s s' : RS} {v : Value} {rs1 : List Rq} {wr : World} (hp : p < w.heap.size) (hd : d < w.heap.size) (hB : w.heap.size < B) (hk : k ≤ n) (hn8 : n ≤ 8) (hn : cN s = n) (h : Rr w d p B stamp n (cS2 s) k v rs1 s' wr) (hend : k = n ∨ ¬ s'.sound) (x y : Value) :
    OwnRs w.heap.size ((wr.setCell ⟨w.heap.size, 0, none⟩ x).setCell ⟨w.heap.size, 1, none⟩ y) v rs1 ∧ FreeRs w.heap.size ((wr.setCell ⟨w.heap.size, 0, none⟩ x).setCell ⟨w.heap.size, 1, none⟩ y) rs1 ∧ rs1.map Rq.val = cVals s ∧ RefS d ((wr.setCell ⟨w.heap.size, 0, none⟩ x).setCell ⟨w.heap.size, 1, none⟩ y) p (cEnd s) ∧ w.grownBy ((wr.setCell ⟨w.heap.size, 0, none⟩ x).setCell ⟨w.heap.size, 1, none⟩ y) (some p) := by
  have hgo := h.go
  have hz : rrGo (n - k) s' = ([], s') := by
    rcases hend with rfl | hs
    · rw [Nat.sub_self, rrGo]
    · cases n - k with
      | zero => rfl
      | succ m => rw [rrGo, if_neg hs]
  rw [hz] at hgo
  have e1 : cVals s = rs1.map Rq.val := by unfold cVals; rw [hn, hgo]; simp
  have e2 : cEnd s = s' := by unfold cEnd; rw [hn, hgo]
  have hne : v.ownBlock ≠ some w.heap.size := fun e => by have := (h.row.lt _ e).1; omega
  have r2 := (h.row.kept (grown_set wr w.heap.size 0 x) (.inr hne)).kept (grown_set _ w.heap.size 1 y) (.inr hne)
  have hf : ∀ r ∈ rs1, r.sl.ownBlock = none ∨ r.sl.ownBlock ≠ some w.heap.size := fun r hx => .inr (fun e => by have := ((h.free.own r hx).1.lt _ e).1; omega)
  have f2 := (h.free.next (grown_set wr w.heap.size 0 x) hf).next (grown_set _ w.heap.size 1 y) hf
  have d2 := (h.rd.kept (grown_set wr w.heap.size 0 x) (by simp; omega) (by simp; omega)).kept (grown_set _ w.heap.size 1 y) (by simp; omega) (by simp; omega)
  refine ⟨⟨⟨by rw [h.len]; exact r2.1, ?_⟩, fun r hx => ?_, by rw [h.len]; omega⟩, ⟨fun r hx => (f2.own r hx).lower (by omega), f2.apart⟩, e1.symm, by rw [e2]; exact d2, h.gr.os, h.gr.tape, h.gr.output, by simpa using h.gr.size, fun k hk hne2 => ?_⟩
  · rw [h.len]
    rcases r2.2 with h0 | ⟨g, cap, cur, h1, h2, h3⟩
    · exact .inl h0
    · exact .inr ⟨g, cap, cur, h1, by omega, h3⟩
  · obtain ⟨n1, n2, _, _⟩ := h.num r hx
    obtain ⟨vo, vc, hv, hS, _⟩ := (f2.own r hx).form
    refine ⟨n1, n2, ?_⟩
    have hv' : Value.slice r.co r.cn r.cc = .slice vo r.C.length vc := hv
    simp only [Value.slice.injEq] at hv'
    obtain ⟨e3, e4, e5⟩ := hv'
    rw [e3, e4, e5]
    exact hS
  · have hsz := h.gr.size
    have e1 := (grown_set wr w.heap.size 0 x).block k (by omega) (by simp; omega)
    have e2 := (grown_set (wr.setCell ⟨w.heap.size, 0, none⟩ x) w.heap.size 1 y).block k (by simp; omega) (by simp; omega)
    exact e2.trans (e1.trans (h.gr.block k hk hne2))

set_option maxRecDepth 10000 in
set_option maxHeartbeats 3200000 in
theorem refBatch_any (d p : Nat) (s : RS) (w : World) (hR : RefS d w p s) (hdl : d < w.heap.size) :
    Calls Tryz.prog 77 #[.pointer (some ⟨p, 0, none⟩)] w fun e w' => ∃ v rs1, e = .returned (.agg #[.int .u64 (upV s 1099511627776 : Nat), v]) ∧ Hid (OwnRs w.heap.size w' v rs1 ∧ FreeRs w.heap.size w' rs1 ∧ rs1.map Rq.val = cVals s ∧ RefS d w' p (cEnd s) ∧ w.grownBy w' (some p)) := by
  obtain ⟨i0, hi, hz0, hz1, hz2⟩ := info_parts infoReq
  have hp := refS_size hR
  have hA := World.grownBy_alloc w (.cells #[.int .u64 0, .slice none 0 0] 25)
  have H1 : Hid (Calls Tryz.prog 76 #[.pointer (some ⟨p, 0, none⟩), .int .u64 1099511627776] (w.alloc (.cells #[.int .u64 0, .slice none 0 0] 25)) fun e w1 => e = .returned (.int .u64 (upV s 1099511627776 : Nat)) ∧ Hid (RefS d w1 p (upS s 1099511627776) ∧ (w.alloc (.cells #[.int .u64 0, .slice none 0 0] 25)).grownBy w1 (some p))) := upTo_any d p s 1099511627776 _ (hR.kept (hA none) (by simp) (by simp))
  have H2 : Hid (∀ w1, RefS d w1 p (upS s 1099511627776) → Calls Tryz.prog 99 #[.pointer (some ⟨p, 0, none⟩), .int .i64 8] w1 fun e w2 => e = .returned (.int .i64 ((cN s : Nat) : Int)) ∧ Hid (RefS d w2 p (cS2 s) ∧ w1.grownBy w2 (some p))) := fun w1 h => (refCount_any d p (upS s 1099511627776) 8 w1 h (by omega) (by omega)).mono (fun _ _ h => ⟨h.1, h.2⟩)
  have hn8 : cN s ≤ 8 := by
    have h := countAt_ok (upS s 1099511627776).rest 8
    unfold cN
    by_cases hz : (countAt (upS s 1099511627776).rest 8).2.2 = 0
    · have := h.2.2.1 hz (by omega); omega
    · have := (h.2.2.2.2 hz).1; omega
  have H0 : Hid (∀ w1 w2, (w.alloc (.cells #[.int .u64 0, .slice none 0 0] 25)).grownBy w1 (some p) → RefS d w2 p (cS2 s) → (w1.alloc (.cells #[.int .u64 (upV s 1099511627776 : Nat), .slice none 0 0] 25)).grownBy w2 (some p) → w.heap.size < w1.heap.size ∧ Rr w d p w1.heap.size (upV s 1099511627776) (cN s) (cS2 s) 0 (.slice none 0 0) [] (cS2 s) w2) := by
    intro w1 w2 g1 hr g2
    have hs : (w.alloc (.cells #[.int .u64 0, .slice none 0 0] 25)).heap.size = w.heap.size + 1 := by simp
    have hs1 := g1.size
    have hgA := World.grownBy_alloc w1 (.cells #[.int .u64 (upV s 1099511627776 : Nat), .slice none 0 0] 25) (some p)
    have gw1 := grown_trans (row := some p) (hA (some p)) g1
    have gw2 := grown_trans (row := some p) (grown_trans (row := some p) gw1 hgA) g2
    have res1 : w1.heap[w.heap.size]? = some (.cells #[.int .u64 0, .slice none 0 0] 25 (0, 0)) := (grown_pos g1 (by omega) (by omega)).trans (alloc_at _ _)
    refine ⟨by omega, gw2, ?_, ?_, World.ownsRow_nil _ _ _ _, rfl, ⟨fun r hx => by simp at hx, by simp⟩, fun r hx => by simp at hx, fun r hx => by simp at hx, hr, by simp⟩
    · exact ((grown_trans (row := some p) hgA g2).block _ (block_lt res1) (by simp; omega)).trans res1
    · exact (grown_pos g2 (by simp) (by omega)).trans (alloc_at _ _)
  clear hR hA
  generalize hst : upV s 1099511627776 = st at *
  go_enter Tryz.func77, Tryz.ntmps77
  go_wp2_with fail
  refine H1.out.mono ?_
  rintro e w1 ⟨rfl, G1⟩
  go_wp2_with fail
  refine (H2.out _ (G1.out.1.kept (World.grownBy_alloc w1 _ none) (by simp) (by simp))).mono ?_
  rintro e w2 ⟨rfl, G2⟩
  obtain ⟨hB, hrb0⟩ := H0.out w1 w2 G1.out.2 G2.out.1 G2.out.2
  have HRB0 := hide hrb0
  clear hrb0 H0 H1 H2 hst
  generalize w1.heap.size = B at *
  generalize hn : cN s = n at *
  have HN := hide hn
  clear hn G1 G2
  go_wp2
  go_loopw [5] (fun i wr => ∃ k : Nat, k ≤ n ∧ i = .int .i64 k ∧ Hid (∃ v rs1 s', Rr w d p B st n (cS2 s) k v rs1 s' wr)) (fun i _ => n - (intOf i).toNat)
  case atStart => exact ⟨0, by omega, rfl, _, _, _, HRB0.out⟩
  case round =>
    obtain ⟨k, hk, rfl, HS⟩ := hrel
    obtain ⟨v, rs1, s', hrb⟩ := HS.out
    have HRB := hide hrb
    have x1 := block_cell hrb.box 1
    simp at x1
    have hsz := hrb.gr.size
    have hBl := block_lt hrb.box
    clear hrb HS HRB0
    by_cases hlt : k < n
    · by_cases hs : s'.sound
      · have HSD := hide hs
        have HD0 := hide (dead_sound d p s' wr HRB.out.rd hs)
        obtain ⟨ro, rcap, hrbk, hrr⟩ := HRB.out.rd
        have c2 := block_cell hrbk 2
        simp at c2
        have hpl := HRB.out.rd.posle
        have hBB : (rdNum s').B = s'.B := by unfold rdNum RS.step; split <;> (try split) <;> rfl
        have HNM1 : Hid (Calls Tryz.prog 98 #[.pointer (some ⟨p, 0, none⟩)] wr fun e w1 => e = .returned (.int .u64 ((rrV s').1 : Nat)) ∧ Hid (RefS d w1 p (rdNum s') ∧ wr.grownBy w1 (some p))) := (refNum_any d p s' wr HRB.out.rd).mono (fun _ _ h => ⟨h.1, h.2⟩)
        have HMID : Hid (∀ w1, RefS d w1 p (rdNum s') → wr.grownBy w1 (some p) → Mid wr d p B w1.heap.size st v #[.int .u64 ((rrV s').1 : Nat), .int .u64 0, .slice none 0 0] (rdNum s') (w1.alloc (.cells #[.int .u64 ((rrV s').1 : Nat), .int .u64 0, .slice none 0 0] 67)) ∧ wr.heap.size ≤ w1.heap.size) := fun w1 hr hg => by
          have hgA := World.grownBy_alloc w1 (.cells #[.int .u64 ((rrV s').1 : Nat), .int .u64 0, .slice none 0 0] 67)
          have hb1 := (grown_pos hg hBl (by omega)).trans HRB.out.box
          exact ⟨⟨hr.kept (hgA none) (by simp) (by simp), grown_trans (row := some p) hg (hgA (some p)), alloc_at _ _, ((hgA none).block _ (block_lt hb1) (by simp)).trans hb1⟩, hg.size⟩
        have HFL : Hid (∀ W Q x, Q ≠ p → Mid wr d p B Q st v x (rdNum s') W → Calls Tryz.prog 97 #[.pointer (some ⟨p, 0, none⟩), .int .i64 29, .int .i64 (s'.pos : Int)] W fun e W2 => e = .returned (.tuple #[]) ∧ Hid (Mid wr d p B Q st v x ((rdNum s').failR s'.pos) W2)) := fun W Q x hQ h => by
          refine (refFail_any d p (rdNum s') 29 s'.pos W h.rd (by rw [hBB]; exact hpl)).mono ?_
          rintro e W2 ⟨rfl, h2, h3⟩
          exact ⟨rfl, h.grow (by omega) hQ h3 h2⟩
        have HNM2 : Hid (∀ W Q x, Q ≠ p → Mid wr d p B Q st v x (rrS1 s') W → Calls Tryz.prog 98 #[.pointer (some ⟨p, 0, none⟩)] W fun e W2 => e = .returned (.int .u64 ((rrV s').2.1 : Nat)) ∧ Hid (Mid wr d p B Q st v x (rrS2 s') W2)) := fun W Q x hQ h => by
          refine (refNum_any d p (rrS1 s') W h.rd).mono ?_
          rintro e W2 ⟨rfl, h2, h3⟩
          exact ⟨rfl, h.grow (by omega) hQ h3 h2⟩
        have HBL : Hid (∀ W Q x, Q ≠ p → wr.heap.size ≤ Q → Mid wr d p B Q st v x (rrS2 s') W → Calls Tryz.prog 78 #[.pointer (some ⟨p, 0, none⟩), .int .i64 700] W fun e W2 => ∃ vo vc, e = .returned (.slice vo (rrV s').2.2.length vc) ∧ Hid (Mid wr d p B Q st v x (rrS3 s') W2 ∧ Owns (wr.heap.size + 1) W2 (.slice vo (rrV s').2.2.length vc) (rrV s').2.2 ∧ (Value.slice vo (rrV s').2.2.length vc).ownBlock ≠ some Q)) := fun W Q x hQ hQw h => by
          refine (refBlob_any d p (rrS2 s') 700 W h.rd (by omega) (by omega)).mono ?_
          rintro e W2 ⟨u, rfl, ho, h2, h3⟩
          obtain ⟨vo, vc, hv, _, _⟩ := ho.form
          subst hv
          have hql := block_lt h.q
          exact ⟨vo, vc, rfl, h.grow (by omega) hQ h3 h2, ho.lower (by omega), fun e => by have := (ho.1.lt _ e).1; omega⟩
        have HOW : Hid (∀ W o, wr.grownBy W (some p) → (W.alloc o).ownsRow (B + 1) 67 3 v k (rcells rs1)) := fun W o hg => row_quiet (HRB.out.row.kept hg (.inr (fun e => by have := (HRB.out.row.lt p e).1; omega))) (World.grownBy_alloc _ _ none)
        have hnum : (rrV s').1 < 18446744073709551616 ∧ (rrV s').2.1 < 18446744073709551616 := ⟨(numAt_ok _).1, (numAt_ok _).1⟩
        have HNX : Hid (∀ (v' : Value) (w1 w2 : World) (o2 : Obj) (vo : Option Addr) (vc : Nat), (Owns (wr.heap.size + 1) w1 (.slice vo (rrV s').2.2.length vc) (rrV s').2.2 ∧ RefS d w1 p (rrS3 s') ∧ wr.grownBy w1 (some p)) → w2.ownsRow (B + 1) 67 3 v' (k + 1) (rcells (rs1 ++ [⟨(rrV s').1, (rrV s').2.1, vo, (rrV s').2.2.length, vc, (rrV s').2.2⟩])) → (w1.alloc o2).grownBy w2 v.ownBlock → (∃ rs2, Rr w d p B st n (cS2 s) (k + 1) v' rs2 (rrS3 s') (w2.setCell ⟨B, 1, none⟩ v')) ∧ w2.cell? ⟨B, 1, none⟩ = some v ∧ w2.frozen? ⟨B, 1, none⟩ = false) := fun v' w1 w2 o2 vo vc hG hr hg => by
          obtain ⟨h1, h2⟩ := Rr.next hp hdl HSD.out hB HRB.out hlt hG.1 hG.2.1 hG.2.2 hnum hr hg
          exact ⟨⟨_, h1⟩, h2⟩
        have HSN : Hid (∀ vo vc, rcells (rs1 ++ [⟨(rrV s').1, (rrV s').2.1, vo, (rrV s').2.2.length, vc, (rrV s').2.2⟩]) = rcells rs1 ++ [.int .u64 ((rrV s').1 : Int), .int .u64 ((rrV s').2.1 : Int), .slice vo (rrV s').2.2.length vc]) := fun vo vc => rcells_snoc _ _
        clear hnum hrbk hrr hpl hBB
        by_cases hs1 : (rdNum s').sound
        · have HD1 := hide (fun W (h : RefS d W p (rdNum s')) => dead_sound d p (rdNum s') W h hs1)
          by_cases hcl : (rrV s').1 < 256
          · have HE1 : Hid (rrS1 s' = (rdNum s').failR s'.pos) := if_pos ⟨hs1, hcl⟩
            clear hs hs1
            generalize hm : (rrV s').2.2.length = m at *
            clear hm
            go_wp2_with fail
            refine HD0.out.mono ?_
            rintro e w0 ⟨rfl, rfl⟩
            go_wp2_with fail
            refine HNM1.out.mono ?_
            rintro e w1 ⟨rfl, G1⟩
            obtain ⟨hmid, hQw⟩ := HMID.out w1 G1.out.1 G1.out.2
            have HM1 := hide hmid
            have q0 := block_cell hmid.q 0
            simp at q0
            clear hmid
            go_wp2_with fail
            refine (HD1.out _ HM1.out.rd).mono ?_
            rintro e w2 ⟨rfl, rfl⟩
            go_wp2_with fail
            refine (HFL.out _ _ _ (by omega) HM1.out).mono ?_
            rintro e w3 ⟨rfl, HM2⟩
            rw [← HE1.out] at HM2
            go_wp2_with fail
            refine (HNM2.out _ _ _ (by omega) HM2.out).mono ?_
            rintro e w4 ⟨rfl, HM4⟩
            have r1 := block_cell HM4.out.q 1
            have f1 := block_free HM4.out.q 1
            simp at r1
            have HM5 := hide (HM4.out.setq (by omega) (by omega) (by omega) hQw 1 (.int .u64 ((rrV s').2.1 : Nat)))
            go_wp2_with fail
            refine (HBL.out _ _ _ (by omega) hQw HM5.out).mono ?_
            rintro e w6 ⟨vo, vc, rfl, G6⟩
            have a0 := block_cell G6.out.1.q 0
            have a1 := block_cell G6.out.1.q 1
            have a2 := block_cell G6.out.1.q 2
            have fa2 := block_free G6.out.1.q 2
            have ab := block_cell G6.out.1.b 1
            simp at a0 a1 a2 ab
            have hq6 := block_lt G6.out.1.q
            have hb6 := block_lt G6.out.1.b
            have HM7 := hide (G6.out.1.setq (by omega) (by omega) (by omega) hQw 2 (.slice vo m vc))
            have HO7 : Hid (Owns (w0.heap.size + 1) (w6.setCell ⟨w1.heap.size, 2, none⟩ (.slice vo m vc)) (.slice vo m vc) (rrV s').2.2) := G6.out.2.1.kept (grown_set _ _ _ _) (.inr G6.out.2.2)
            have HNW : Hid (∀ (j : Nat) (u : Value), [Value.int .u64 ((rrV s').1 : Int), .int .u64 ((rrV s').2.1 : Int), .slice vo m vc][j]? = some u → ((w6.setCell ⟨w1.heap.size, 2, none⟩ (.slice vo m vc)).alloc (.cells #[.int .u64 ((rrV s').1 : Int), .int .u64 ((rrV s').2.1 : Int), .slice vo m vc] 67)).cell? (Addr.add ⟨w6.heap.size, 0, none⟩ j) = some u) := by
              have h := cell_req_new (w6.setCell ⟨w1.heap.size, 2, none⟩ (.slice vo m vc)) (.int .u64 ((rrV s').1 : Int)) (.int .u64 ((rrV s').2.1 : Int)) (.slice vo m vc) 67
              rw [show (w6.setCell ⟨w1.heap.size, 2, none⟩ (.slice vo m vc)).heap.size = w6.heap.size by simp] at h
              exact h
            have hneQ : ¬ w1.heap.size = B := by omega
            have hneQ' : ¬ B = w1.heap.size := by omega
            clear r1 f1 q0
            go_wp2_with (first
              | (at_builtin; refine wpList_append_own _ rfl (.tmp 48) (.tmp 50) 23 rfl (B + 1) 67 i0 (.agg #[.int .u64 0, .int .u64 0, .slice none 0 0]) 3 40 Tryz.underlying23 hi hz0 hz1 hz2 rfl (by decide) v k (rcells rs1) rfl (HOW.out _ _ HM7.out.gr) ⟨w6.heap.size, 0, none⟩ 1 1 [.int .u64 ((rrV s').1 : Int), .int .u64 ((rrV s').2.1 : Int), .slice vo m vc] rfl rfl HNW.out (by simp [Value.oneCell']) (by unfold maxLen; omega) (by omega) (by simp; omega) ?_; intro v' w8 ho hg _; obtain ⟨g', cap', rfl⟩ := ownsRow_succ ho; obtain ⟨hrb2, z1, z2⟩ := HNX.out _ _ _ _ _ _ ⟨HO7.out, HM7.out.rd, HM7.out.gr⟩ (by rw [HSN.out]; exact ho) hg; have HR2 := hide hrb2; clear hrb2 ho hg))
            go_roundw
            case rel => obtain ⟨rs2, h2⟩ := HR2.out; exact ⟨k + 1, by omega, by go_num, _, rs2, _, h2⟩
            case measure => simp [intOf]; omega
          · have HE1 : Hid (rrS1 s' = rdNum s') := if_neg (fun h => hcl h.2)
            clear hs hs1
            generalize hm : (rrV s').2.2.length = m at *
            clear hm
            go_wp2_with fail
            refine HD0.out.mono ?_
            rintro e w0 ⟨rfl, rfl⟩
            go_wp2_with fail
            refine HNM1.out.mono ?_
            rintro e w1 ⟨rfl, G1⟩
            obtain ⟨hmid, hQw⟩ := HMID.out w1 G1.out.1 G1.out.2
            have HM1 := hide hmid
            have q0 := block_cell hmid.q 0
            simp at q0
            clear hmid
            go_wp2_with fail
            refine (HD1.out _ HM1.out.rd).mono ?_
            rintro e w2 ⟨rfl, rfl⟩
            have HM2 := HM1
            rw [← HE1.out] at HM2
            go_wp2_with fail
            refine (HNM2.out _ _ _ (by omega) HM2.out).mono ?_
            rintro e w4 ⟨rfl, HM4⟩
            have r1 := block_cell HM4.out.q 1
            have f1 := block_free HM4.out.q 1
            simp at r1
            have HM5 := hide (HM4.out.setq (by omega) (by omega) (by omega) hQw 1 (.int .u64 ((rrV s').2.1 : Nat)))
            go_wp2_with fail
            refine (HBL.out _ _ _ (by omega) hQw HM5.out).mono ?_
            rintro e w6 ⟨vo, vc, rfl, G6⟩
            have a0 := block_cell G6.out.1.q 0
            have a1 := block_cell G6.out.1.q 1
            have a2 := block_cell G6.out.1.q 2
            have fa2 := block_free G6.out.1.q 2
            have ab := block_cell G6.out.1.b 1
            simp at a0 a1 a2 ab
            have hq6 := block_lt G6.out.1.q
            have hb6 := block_lt G6.out.1.b
            have HM7 := hide (G6.out.1.setq (by omega) (by omega) (by omega) hQw 2 (.slice vo m vc))
            have HO7 : Hid (Owns (w0.heap.size + 1) (w6.setCell ⟨w1.heap.size, 2, none⟩ (.slice vo m vc)) (.slice vo m vc) (rrV s').2.2) := G6.out.2.1.kept (grown_set _ _ _ _) (.inr G6.out.2.2)
            have HNW : Hid (∀ (j : Nat) (u : Value), [Value.int .u64 ((rrV s').1 : Int), .int .u64 ((rrV s').2.1 : Int), .slice vo m vc][j]? = some u → ((w6.setCell ⟨w1.heap.size, 2, none⟩ (.slice vo m vc)).alloc (.cells #[.int .u64 ((rrV s').1 : Int), .int .u64 ((rrV s').2.1 : Int), .slice vo m vc] 67)).cell? (Addr.add ⟨w6.heap.size, 0, none⟩ j) = some u) := by
              have h := cell_req_new (w6.setCell ⟨w1.heap.size, 2, none⟩ (.slice vo m vc)) (.int .u64 ((rrV s').1 : Int)) (.int .u64 ((rrV s').2.1 : Int)) (.slice vo m vc) 67
              rw [show (w6.setCell ⟨w1.heap.size, 2, none⟩ (.slice vo m vc)).heap.size = w6.heap.size by simp] at h
              exact h
            have hneQ : ¬ w1.heap.size = B := by omega
            have hneQ' : ¬ B = w1.heap.size := by omega
            clear r1 f1 q0
            go_wp2_with (first
              | (at_builtin; refine wpList_append_own _ rfl (.tmp 48) (.tmp 50) 23 rfl (B + 1) 67 i0 (.agg #[.int .u64 0, .int .u64 0, .slice none 0 0]) 3 40 Tryz.underlying23 hi hz0 hz1 hz2 rfl (by decide) v k (rcells rs1) rfl (HOW.out _ _ HM7.out.gr) ⟨w6.heap.size, 0, none⟩ 1 1 [.int .u64 ((rrV s').1 : Int), .int .u64 ((rrV s').2.1 : Int), .slice vo m vc] rfl rfl HNW.out (by simp [Value.oneCell']) (by unfold maxLen; omega) (by omega) (by simp; omega) ?_; intro v' w8 ho hg _; obtain ⟨g', cap', rfl⟩ := ownsRow_succ ho; obtain ⟨hrb2, z1, z2⟩ := HNX.out _ _ _ _ _ _ ⟨HO7.out, HM7.out.rd, HM7.out.gr⟩ (by rw [HSN.out]; exact ho) hg; have HR2 := hide hrb2; clear hrb2 ho hg))
            go_roundw
            case rel => obtain ⟨rs2, h2⟩ := HR2.out; exact ⟨k + 1, by omega, by go_num, _, rs2, _, h2⟩
            case measure => simp [intOf]; omega
        · have HD1 := hide (fun W (h : RefS d W p (rdNum s')) => dead_not d p (rdNum s') W h hs1)
          have HE1 : Hid (rrS1 s' = rdNum s') := if_neg (fun h => hs1 h.1)
          clear hs hs1
          generalize hm : (rrV s').2.2.length = m at *
          clear hm
          go_wp2_with fail
          refine HD0.out.mono ?_
          rintro e w0 ⟨rfl, rfl⟩
          go_wp2_with fail
          refine HNM1.out.mono ?_
          rintro e w1 ⟨rfl, G1⟩
          obtain ⟨hmid, hQw⟩ := HMID.out w1 G1.out.1 G1.out.2
          have HM1 := hide hmid
          have q0 := block_cell hmid.q 0
          simp at q0
          clear hmid
          go_wp2_with fail
          refine (HD1.out _ HM1.out.rd).mono ?_
          rintro e w2 ⟨rfl, rfl⟩
          have HM2 := HM1
          rw [← HE1.out] at HM2
          go_wp2_with fail
          refine (HNM2.out _ _ _ (by omega) HM2.out).mono ?_
          rintro e w4 ⟨rfl, HM4⟩
          have r1 := block_cell HM4.out.q 1
          have f1 := block_free HM4.out.q 1
          simp at r1
          have HM5 := hide (HM4.out.setq (by omega) (by omega) (by omega) hQw 1 (.int .u64 ((rrV s').2.1 : Nat)))
          go_wp2_with fail
          refine (HBL.out _ _ _ (by omega) hQw HM5.out).mono ?_
          rintro e w6 ⟨vo, vc, rfl, G6⟩
          have a0 := block_cell G6.out.1.q 0
          have a1 := block_cell G6.out.1.q 1
          have a2 := block_cell G6.out.1.q 2
          have fa2 := block_free G6.out.1.q 2
          have ab := block_cell G6.out.1.b 1
          simp at a0 a1 a2 ab
          have hq6 := block_lt G6.out.1.q
          have hb6 := block_lt G6.out.1.b
          have HM7 := hide (G6.out.1.setq (by omega) (by omega) (by omega) hQw 2 (.slice vo m vc))
          have HO7 : Hid (Owns (w0.heap.size + 1) (w6.setCell ⟨w1.heap.size, 2, none⟩ (.slice vo m vc)) (.slice vo m vc) (rrV s').2.2) := G6.out.2.1.kept (grown_set _ _ _ _) (.inr G6.out.2.2)
          have HNW : Hid (∀ (j : Nat) (u : Value), [Value.int .u64 ((rrV s').1 : Int), .int .u64 ((rrV s').2.1 : Int), .slice vo m vc][j]? = some u → ((w6.setCell ⟨w1.heap.size, 2, none⟩ (.slice vo m vc)).alloc (.cells #[.int .u64 ((rrV s').1 : Int), .int .u64 ((rrV s').2.1 : Int), .slice vo m vc] 67)).cell? (Addr.add ⟨w6.heap.size, 0, none⟩ j) = some u) := by
            have h := cell_req_new (w6.setCell ⟨w1.heap.size, 2, none⟩ (.slice vo m vc)) (.int .u64 ((rrV s').1 : Int)) (.int .u64 ((rrV s').2.1 : Int)) (.slice vo m vc) 67
            rw [show (w6.setCell ⟨w1.heap.size, 2, none⟩ (.slice vo m vc)).heap.size = w6.heap.size by simp] at h
            exact h
          have hneQ : ¬ w1.heap.size = B := by omega
          have hneQ' : ¬ B = w1.heap.size := by omega
          clear r1 f1 q0
          go_wp2_with (first
            | (at_builtin; refine wpList_append_own _ rfl (.tmp 48) (.tmp 50) 23 rfl (B + 1) 67 i0 (.agg #[.int .u64 0, .int .u64 0, .slice none 0 0]) 3 40 Tryz.underlying23 hi hz0 hz1 hz2 rfl (by decide) v k (rcells rs1) rfl (HOW.out _ _ HM7.out.gr) ⟨w6.heap.size, 0, none⟩ 1 1 [.int .u64 ((rrV s').1 : Int), .int .u64 ((rrV s').2.1 : Int), .slice vo m vc] rfl rfl HNW.out (by simp [Value.oneCell']) (by unfold maxLen; omega) (by omega) (by simp; omega) ?_; intro v' w8 ho hg _; obtain ⟨g', cap', rfl⟩ := ownsRow_succ ho; obtain ⟨hrb2, z1, z2⟩ := HNX.out _ _ _ _ _ _ ⟨HO7.out, HM7.out.rd, HM7.out.gr⟩ (by rw [HSN.out]; exact ho) hg; have HR2 := hide hrb2; clear hrb2 ho hg))
          go_roundw
          case rel => obtain ⟨rs2, h2⟩ := HR2.out; exact ⟨k + 1, by omega, by go_num, _, rs2, _, h2⟩
          case measure => simp [intOf]; omega
      · have HSD := hide hs
        have HD0 := hide (dead_not d p s' wr HRB.out.rd hs)
        clear hs
        have hrs := HRB.out.res
        have b0 := block_cell HRB.out.box 0
        have r0 := block_cell hrs 0
        have r1 := block_cell hrs 1
        have f0 := block_free hrs 0
        have f1 := block_free hrs 1
        simp at b0 r0 r1
        have hw := block_lt hrs
        clear hrs
        obtain ⟨ao, cp, hv⟩ : ∃ ao cp, v = .slice ao k cp := by
          rcases HRB.out.row.2 with ⟨h, h0⟩ | ⟨g, cap, cur, h, _⟩
          · exact ⟨none, 0, by rw [h, h0]⟩
          · exact ⟨_, _, h⟩
        subst hv
        go_wp2_with fail
        refine HD0.out.mono ?_
        rintro e w0 ⟨rfl, rfl⟩
        go_wp2
        refine bodyPost_ret (v := .agg #[.int .u64 (st : Int), .slice ao k cp]) (by simp [results, Tryz.results77, go_sem, r0, r1]) rfl ⟨_, rs1, rfl, ?_⟩
        exact fin_rr hp hdl hB hk (by omega) HN.out HRB.out (.inr HSD.out) _ _
    · obtain rfl : k = n := by omega
      have hrs := HRB.out.res
      have b0 := block_cell HRB.out.box 0
      have r0 := block_cell hrs 0
      have r1 := block_cell hrs 1
      have f0 := block_free hrs 0
      have f1 := block_free hrs 1
      simp at b0 r0 r1
      have hw := block_lt hrs
      clear hrs
      obtain ⟨ao, cp, hv⟩ : ∃ ao cp, v = .slice ao k cp := by
        rcases HRB.out.row.2 with ⟨h, h0⟩ | ⟨g, cap, cur, h, _⟩
        · exact ⟨none, 0, by rw [h, h0]⟩
        · exact ⟨_, _, h⟩
      subst hv
      go_wp2
      refine bodyPost_ret (v := .agg #[.int .u64 (st : Int), .slice ao k cp]) (by simp [results, Tryz.results77, go_sem, r0, r1]) rfl ⟨_, rs1, rfl, ?_⟩
      exact fin_rr hp hdl hB hk (by omega) HN.out HRB.out (.inl rfl) _ _
end Go.Proofs.YtgaalaoflaklgaaGreat
