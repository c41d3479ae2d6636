import Derived.Test.YtbokmgfdmpejpaaHRr
namespace Go.Proofs.Ytbokmgfdmpejpaa
open Go.RowKit

/-- What the reference's Recover hands out. -/
def RRecP (w : World) (c : Cf) (me : Int) (rs : List Rd) (e : Ending) (w' : World) : Prop := match scan c me 0 0 0 rs with
  | .inl i => RNewP w (.pointer none) [⟨proposerN, (i : Int)⟩] 220 e w'
  | .inr b => ∃ q h, RNewP w (.pointer (some ⟨q, 0, none⟩)) [] 0 e w' ∧ Hid (RP w' q h c me b.1 b.2)
theorem rrecP_inl {w w' : World} {e : Ending} {c : Cf} {me : Int} {rs : List Rd} {i : Nat} (h : scan c me 0 0 0 rs = .inl i) (hc : RNewP w (.pointer none) [⟨proposerN, (i : Int)⟩] 220 e w') : RRecP w c me rs e w' := by
  unfold RRecP
  rw [h]
  exact hc
theorem rrecP_inr {w w' : World} {e : Ending} {c : Cf} {me : Int} {rs : List Rd} {q h' n : Nat} {m : Int} (h : scan c me 0 0 0 rs = .inr (n, m)) (hc : RNewP w (.pointer (some ⟨q, 0, none⟩)) [] 0 e w') (hp : RP w' q h' c me n m) : RRecP w c me rs e w' := by
  unfold RRecP
  rw [h]
  exact ⟨q, h', hc, hp⟩
/-- The state at the head of the loop. -/
structure RLoop (w : World) (c : Cf) (me : Int) (rs : List Rd) (q h pf : Nat) (fo : Option Addr) (fc k n : Nat) (m : Int) (W : World) : Prop where
  lt : n < 18446744073709551616
  rp : RP W q h c me n m
  bel : Below w.heap.size w W
  qw : w.heap.size ≤ q
  box : FBox (w.heap.size + 1) W
  flt : FaultAt pf fo fc W
  sc : scan c me 0 0 0 rs = scan c me k n m (rs.drop k)
theorem FBox.set {p q i : Nat} {W : World} {cs : Array Value} {u : Value} (h : FBox p W) (hq : W.heap[q]? = some (.cells cs 112 (0, 0))) : FBox p (W.setCell ⟨q, i, none⟩ u) := by
  have hne : p ≠ q := fun e => by
    unfold FBox at h
    rw [e, hq] at h
    cases h
  exact ((grown_set W q i u).block _ (block_lt h) (fun e => hne (Option.some.inj e))).trans h
theorem RLoop.set {w : World} {c : Cf} {me : Int} {rs : List Rd} {q h pf : Nat} {fo : Option Addr} {fc k n : Nat} {m : Int} {W W' : World} (r : RLoop w c me rs q h pf fo fc k n m W) (hb : Below W.heap.size W W') {k' n' : Nat} {m' : Int} (hn : n' < 18446744073709551616) (hs : scan c me 0 0 0 rs = scan c me k' n' m' (rs.drop k')) :
    RLoop w c me rs q h pf fo fc k' n' m' ((W'.setCell ⟨q, 3, none⟩ (.int .u64 (n' : Nat))).setCell ⟨q, 4, none⟩ (.int .i64 m')) := by
  have r1 := r.rp.kept hb
  have b1 := heap_setCell_same W' q 3 _ _ (.int .u64 (n' : Nat)) r1.blk
  exact ⟨hn, r1.set n' m', ((r.bel.trans (hb.mono r.bel.size)).setCell (p := ⟨q, 3, none⟩) r.qw _).setCell (p := ⟨q, 4, none⟩) r.qw _, r.qw, ((r.box.kept hb).set r1.blk).set b1, ((r.flt.kept hb).set r1.blk).set b1, hs⟩
theorem RLoop.kept {w : World} {c : Cf} {me : Int} {rs : List Rd} {q h pf : Nat} {fo : Option Addr} {fc k n : Nat} {m : Int} {W W' : World} (r : RLoop w c me rs q h pf fo fc k n m W) (hb : Below W.heap.size W W') {k' : Nat} (hs : scan c me 0 0 0 rs = scan c me k' n m (rs.drop k')) :
    RLoop w c me rs q h pf fo fc k' n m W' := ⟨r.lt, r.rp.kept hb, r.bel.trans (hb.mono r.bel.size), r.qw, r.box.kept hb, r.flt.kept hb, hs⟩
set_option maxRecDepth 100000 in
set_option maxHeartbeats 8000000 in
theorem rrec_any (c : Cf) (hk : badOf c.oks = -1) (me : Int) (hn : c.node me = true) {ao : Option Addr} {rs : List Rd} {b off : Nat} (len cap : Nat) (hlen : rs.length = len) (w : World) (hR : Rds w.heap.size w ao rs b off) (hnm : ∀ f ∈ rs, f.num < 18446744073709551616) : Calls Try.prog 38 #[.agg c.cells, .int .i64 me, .slice ao len cap] w (RRecP w c me rs) := by
  subst hlen
  obtain ⟨W1, hW1⟩ : ∃ W1, (w.alloc (.cells c.cells 24)).alloc (.cells #[.slice none 0 0, .int .i64 0] 34) = W1 := ⟨_, rfl⟩
  have hs1 : (w.alloc (.cells c.cells 24)).heap.size = w.heap.size + 1 := by simp
  have Q1 : Hid (FBox (w.heap.size + 1) W1) := by rw [← hW1, ← hs1]; exact fbox_new _
  have B1 : Hid (Below w.heap.size w W1) := by rw [← hW1]; exact ((Below.refl _ w).alloc (Nat.le_refl _) _).alloc (by simp) _
  have C1 : W1.heap[w.heap.size]? = some (.cells c.cells 24 (0, 0)) := by
    rw [← hW1]
    exact (Below.heap_alloc _ _ _ (by simp)).trans (alloc_atK _ _)
  obtain ⟨z0, z1, z2, z3, z4, z5, z6, z7, z8, z9⟩ := cfg_cells C1
  have HNW : Hid (Calls Try.prog 8 #[.agg c.cells, .int .i64 me] W1 fun e w' => ∃ q h fo fc, e = .returned (.tuple #[.pointer (some ⟨q, 0, none⟩), .agg #[.slice fo 0 fc, .int .i64 0]]) ∧ Hid (Below W1.heap.size W1 w' ∧ RP w' q h c me 0 0 ∧ W1.heap.size ≤ q)) := (rnew_ok c hk me hn W1).mono fun _ _ ⟨q, h, ⟨fo, fc, h1, h2⟩, h3⟩ => ⟨q, h, fo, fc, h1, h2.out.2, h3.out.1, h3.out.2⟩
  have HWR : Hid (∀ (k : Nat) W, Calls Try.prog 32 #[.string proposerN, .int .i64 (k : Int), .int .i64 220] W fun e w' => ∃ ao cap, e = .returned (.agg #[.slice ao 1 cap, .int .i64 220]) ∧ Hid (∃ b off, FV w'.heap.size w' ao [⟨proposerN, (k : Int)⟩] b off ∧ Below W.heap.size W w')) := fun k W => new0 proposerN k 220 W
  unfold proposerN at HWR
  have HOK := hide (cf_ok hk)
  have HR := hide hR
  have HNM := hide hnm
  have hle := hR.le
  clear hk hs1 C1 hn hR hnm
  unfold Cf.cells at *
  generalize c.f = f at *
  generalize c.mb = mb at *
  generalize (c.delay : Int) = d at *
  generalize (c.win : Int) = wn at *
  generalize (c.every : Int) = ev at *
  generalize (c.beat : Int) = bt at *
  generalize (c.ep : Int) = ep at *
  generalize (c.em : Int) = em at *
  generalize (c.mn : Int) = mn at *
  generalize (c.ms : Int) = ms at *
  have HW1 := hide hW1
  clear hW1
  go_enter Try.func38, Try.ntmps38
  go_upto_region 1 with fail
  rw [HW1.out]
  clear HW1
  go_wp2_with fail
  refine HNW.out.mono ?_
  rintro e w2 ⟨q, h, fo, fc, rfl, G2⟩
  obtain ⟨W3, hW3⟩ : ∃ W3, w2.alloc (.cells #[.slice fo 0 fc, .int .i64 0] 34) = W3 := ⟨_, rfl⟩
  have b3 : Below w2.heap.size w2 W3 := by rw [← hW3]; exact (Below.refl _ _).alloc (Nat.le_refl _) _
  have C3 : Hid (W3.heap[w2.heap.size]? = some (.cells #[.slice fo 0 fc, .int .i64 0] 34 (0, 0))) := by rw [← hW3]; exact alloc_atK _ _
  have hb2 := G2.out.1
  have Q3 := hide ((Q1.out.kept hb2).kept b3)
  have B3 := hide ((B1.out.trans (hb2.mono B1.out.size)).trans (b3.mono (B1.out.trans (hb2.mono B1.out.size)).size))
  have x0 : W3.cell? ⟨w2.heap.size, 0, none⟩ = some (.slice fo 0 fc) := block_cell C3.out 0
  have x1 : W3.cell? ⟨w2.heap.size, 1, none⟩ = some (.int .i64 0) := block_cell C3.out 1
  have hxl := block_lt C3.out
  have HAN : Hid (∀ W, Calls Try.prog 29 #[.agg #[.slice fo 0 fc, .int .i64 0]] W fun e w' => e = .returned (.bool false) ∧ Hid (Below W.heap.size W w')) := fun W => any0 fo 0 fc 0 (by simp) W
  have GG3 := hide (G2.out.2.1.kept b3)
  have HQW : Hid (w.heap.size ≤ q) := Nat.le_trans B1.out.size G2.out.2.2
  clear hb2 b3 Q1 B1 z0 z1 z2 z3 z4 z5 z6 z7 z8 z9
  have HW3 := hide hW3
  clear hW3
  go_upto_region 2 with fail
  rw [HW3.out]
  clear HW3
  generalize w2.heap.size = pf at *
  go_wp2_with fail
  refine (HAN.out W3).mono ?_
  rintro e w4 ⟨rfl, b4h⟩
  have b4 := b4h.out
  have Q4 := hide (Q3.out.kept b4)
  have B4 := hide (B3.out.trans (b4.mono B3.out.size))
  have C4 := hide ((b4.block _ (block_lt C3.out)).trans C3.out)
  have x4 : w4.cell? ⟨pf, 0, none⟩ = some (.slice fo 0 fc) := block_cell C4.out 0
  have x5 : w4.cell? ⟨pf, 1, none⟩ = some (.int .i64 0) := block_cell C4.out 1
  have hxl4 := block_lt C4.out
  have RL0 : Hid (RLoop w c me rs q h pf fo fc 0 0 0 w4) := ⟨by omega, GG3.out.kept b4, B4.out, HQW.out, Q4.out, C4.out, rfl⟩
  clear b4 b4h Q3 B3 x0 x1 hxl x4 x5 hxl4 Q4 B4 C3 C4 GG3 G2 HAN HNW
  go_wp2
  go_loopw [10] (fun i wr => ∃ k : Nat, k ≤ rs.length ∧ i = .int .i64 (k : Nat) ∧ Hid (∃ (n : Nat) (m : Int), RLoop w c me rs q h pf fo fc k n m wr)) (fun i _ => rs.length - (intOf i).toNat)
  case atStart => exact ⟨0, by omega, rfl, 0, 0, RL0.out⟩
  case round =>
    obtain ⟨k, hkl, rfl, HJ⟩ := hrel
    clear RL0
    obtain ⟨n, m, hL⟩ := HJ.out
    have HL := hide hL
    clear hL HJ
    by_cases hlt : k < rs.length
    · obtain ⟨kd, num, node, slot, st, ro, rl, rc, eo, el, ec, hf, rfl, hbl, x0, x1, x2, x3, x4, x5, x6⟩ := (HR.out.below HL.out.bel).get hlt
      have hbw : b < wr.heap.size := Nat.lt_of_lt_of_le hbl HL.out.bel.size
      have HN6 : Hid (num < 18446744073709551616) := HNM.out _ (List.mem_of_getElem? hf)
      have HSC := hide (HL.out.sc.trans (scan_at hf))
      simp only at HSC
      obtain ⟨W9, hW9⟩ : ∃ W9, wr.alloc (.cells #[.int .u64 (num : Nat), .int .i64 node] 49) = W9 := ⟨_, rfl⟩
      have B9 : Hid (Below wr.heap.size wr W9) := by rw [← hW9]; exact (Below.refl _ _).alloc (Nat.le_refl _) _
      have C9 : Hid (W9.heap[wr.heap.size]? = some (.cells #[.int .u64 (num : Nat), .int .i64 node] 49 (0, 0))) := by rw [← hW9]; exact alloc_atK _ _
      have HW9 := hide hW9
      have u0 : W9.cell? ⟨b, off + k * 7, none⟩ = some (.int .i64 kd) := (B9.out.cell (p := ⟨b, _, none⟩) hbw).trans x0
      have hbw9 : b < W9.heap.size := Nat.lt_of_lt_of_le hbw B9.out.size
      clear hf hbl hW9 x3 x4 x5 x6
      go_upto_region 8 with fail
      rw [HW9.out]
      clear HW9 x0 x1 x2 hbw
      generalize hpb : wr.heap.size = pb at *
      have HPB := hide hpb
      clear hpb
      by_cases hkd : kd = 3
      · subst hkd
        rw [if_neg (by simp)] at HSC
        have KRL : Hid (∀ V, Hid (Below W9.heap.size W9 V) → Below wr.heap.size wr V) := fun V hb => by rw [HPB.out]; exact B9.out.trans (hb.out.mono (by have := B9.out.size; rw [HPB.out] at this; exact this))
        have KB0 : Hid (∀ V, Hid (Below W9.heap.size W9 V) → V.cell? ⟨pb, 0, none⟩ = some (.int .u64 (num : Nat))) := fun V hb => block_cell ((hb.out.block _ (block_lt C9.out)).trans C9.out) 0
        have KB1 : Hid (∀ V, Hid (Below W9.heap.size W9 V) → V.cell? ⟨pb, 1, none⟩ = some (.int .i64 node)) := fun V hb => block_cell ((hb.out.block _ (block_lt C9.out)).trans C9.out) 1
        have KBL : Hid (∀ V, Hid (Below W9.heap.size W9 V) → pb < V.heap.size) := fun V hb => block_lt ((hb.out.block _ (block_lt C9.out)).trans C9.out)
        have KQ0 : Hid (∀ V, Hid (Below W9.heap.size W9 V) → V.cell? ⟨q, 0, none⟩ = some (.pointer (some ⟨h, 0, none⟩))) := fun V hb => (HL.out.rp.kept (KRL.out V hb)).cell 0
        have KQ3 : Hid (∀ V, Hid (Below W9.heap.size W9 V) → V.cell? ⟨q, 3, none⟩ = some (.int .u64 (n : Nat))) := fun V hb => (HL.out.rp.kept (KRL.out V hb)).cell 3
        have KQ4 : Hid (∀ V, Hid (Below W9.heap.size W9 V) → V.cell? ⟨q, 4, none⟩ = some (.int .i64 m)) := fun V hb => (HL.out.rp.kept (KRL.out V hb)).cell 4
        have KQL : Hid (∀ V, Hid (Below W9.heap.size W9 V) → q < V.heap.size) := fun V hb => block_lt (HL.out.rp.kept (KRL.out V hb)).blk
        have KQF : Hid (∀ V, Hid (Below W9.heap.size W9 V) → V.frozen? ⟨q, 3, none⟩ = false ∧ V.frozen? ⟨q, 4, none⟩ = false) := fun V hb => ⟨block_free (HL.out.rp.kept (KRL.out V hb)).blk 3, block_free (HL.out.rp.kept (KRL.out V hb)).blk 4⟩
        have KFB : Hid (∀ V, Hid (Below W9.heap.size W9 V) → FBox (w.heap.size + 1) V) := fun V hb => HL.out.box.kept (KRL.out V hb)
        have KBW : Hid (∀ V, Hid (Below W9.heap.size W9 V) → Below w.heap.size w V) := fun V hb => HL.out.bel.trans ((KRL.out V hb).mono HL.out.bel.size)
        have KV : Hid (∀ V, Hid (Below W9.heap.size W9 V) → Calls Try.prog 74 #[.pointer (some ⟨h, 0, none⟩), .agg #[.int .u64 (num : Nat), .int .i64 node]] V fun e V' => e = .returned (.bool (c.valid num node)) ∧ Below V.heap.size V V') := fun V hb => refValid num node (block_lt (HL.out.rp.kept (KRL.out V hb)).grp) (refG_of (HL.out.rp.kept (KRL.out V hb)).grp HOK.out)
        have HD1 : Hid (Below W9.heap.size W9 W9) := Below.refl _ _
        have HD : Hid (∀ V, Hid (Below W9.heap.size W9 V) → Hid (Below W9.heap.size W9 V.drew)) := fun V h => h.out.drew
        have KB : Hid (∀ V V', Hid (Below W9.heap.size W9 V) → Below V.heap.size V V' → Hid (Below W9.heap.size W9 V')) := fun V V' h h' => h.out.trans (h'.mono h.out.size)
        cases hv : c.valid num node with
        | false =>
          rw [hv] at KV
          rw [if_pos (by unfold Cf.stray Cf.led; rw [hv]; simp)] at HSC
          clear hv
          generalize (num : Int) = num' at *
          generalize (n : Int) = n' at *
          go_upto_region 9 with fail
          refine region_assign (fun V => Hid (Below W9.heap.size W9 V)) [(38, .pointer (some ⟨q, 0, none⟩)), (39, .pointer (some ⟨q, 0, none⟩)), (40, .pointer (some ⟨q, 0, none⟩)), (41, .pointer (some ⟨h, 0, none⟩)), (42, .agg #[.int .u64 num', .int .i64 node]), (43, .bool false), (44, .bool true), (45, .bool true), (46, undef), (47, undef), (48, undef), (49, .bool true), (50, .bool true), (51, undef), (52, undef), (53, undef), (54, undef), (55, .bool true)] _ (by kernel_rfl) (by kernel_rfl) (by kernel_rfl) (by kernel_rfl) rfl (HD.out _ HD1) ?_ (fun V1 HV1 => ?_)
          · simp only [putAll, Act.put, List.setIfInBounds_toArray, List.set_cons_zero, List.set_cons_succ]
            repeat' (first | exact AllTo.nil | refine AllTo.cons ?_ ?_)
            all_goals first
              | exact stepTo_no (by rfl) rfl
              | (refine stepTo_yes (by rfl) (fun V hV K hK => ?_)
                 have q0 := KB0.out V hV
                 have q1 := KB1.out V hV
                 have q2 := KBL.out V hV
                 have q3 := KQ0.out V hV
                 have q4 := KQ3.out V hV
                 have q5 := KQ4.out V hV
                 have q6 := KQL.out V hV
                 go_simp
                 first
                   | exact hK.out _ hV
                   | (go_at_call 74; refine (KV.out V hV).mono ?_; rintro e V' ⟨rfl, hV'⟩; exact hK.out _ (KB.out _ _ hV hV')))
          simp only [putAll, Act.put, List.setIfInBounds_toArray, List.set_cons_zero, List.set_cons_succ]
          have r5 := KFB.out _ HV1
          have B5 := KBW.out _ HV1
          go_wp2_with fail
          refine (HWR.out k _).mono ?_
          rintro e w6 ⟨fp, fq, rfl, G6⟩
          obtain ⟨b6, o6, hf6, bb6⟩ := G6.out
          have r6 := r5.kept bb6
          have B6 := B5.trans (bb6.mono B5.size)
          clear bb6 G6 HWR r5 B5
          have FIN := hide (box_fin (w := w) r6 (by omega) hf6 B6)
          have y0 := block_cell r6 0
          have y1 := block_cell r6 1
          have g0 := block_free r6 0
          have g1 := block_free r6 1
          simp at y0 y1
          have hl5 := block_lt r6
          clear r6 hf6 B6
          go_wp2
          try rw [Exit.noGoto_ret]
          refine bodyPost_ret (v := .tuple #[.pointer none, .agg #[.slice fp 1 fq, .int .i64 220]]) (by simp [results, Try.results38, go_sem, y0, y1]) rfl ?_
          obtain ⟨h1, h2, -⟩ := FIN.out (.slice fp 1 fq) (.int .i64 220)
          exact rrecP_inl HSC.out ⟨fp, fq, rfl, h1, h2⟩
        | true =>
          rw [hv] at KV
          by_cases h0 : num = 0
          · rw [if_pos (by unfold Cf.stray Cf.led; rw [decide_eq_false (p := num ≠ 0) (by omega)]; simp)] at HSC
            have d0 : ((num : Int) == 0) = true := by rw [h0]; rfl
            clear hv h0
            generalize (num : Int) = num' at *
            generalize (n : Int) = n' at *
            go_upto_region 9 with fail
            refine region_assign (fun V => Hid (Below W9.heap.size W9 V)) [(38, .pointer (some ⟨q, 0, none⟩)), (39, .pointer (some ⟨q, 0, none⟩)), (40, .pointer (some ⟨q, 0, none⟩)), (41, .pointer (some ⟨h, 0, none⟩)), (42, .agg #[.int .u64 num', .int .i64 node]), (43, .bool true), (44, .bool false), (45, .bool false), (46, .pointer (some ⟨pb, 0, none⟩)), (47, .int .u64 num'), (48, .bool true), (49, .bool true), (50, .bool true), (51, undef), (52, undef), (53, undef), (54, undef), (55, .bool true)] _ (by kernel_rfl) (by kernel_rfl) (by kernel_rfl) (by kernel_rfl) rfl (HD.out _ HD1) ?_ (fun V1 HV1 => ?_)
            · simp only [putAll, Act.put, List.setIfInBounds_toArray, List.set_cons_zero, List.set_cons_succ]
              repeat' (first | exact AllTo.nil | refine AllTo.cons ?_ ?_)
              all_goals first
                | exact stepTo_no (by rfl) rfl
                | (refine stepTo_yes (by rfl) (fun V hV K hK => ?_)
                   have q0 := KB0.out V hV
                   have q1 := KB1.out V hV
                   have q2 := KBL.out V hV
                   have q3 := KQ0.out V hV
                   have q4 := KQ3.out V hV
                   have q5 := KQ4.out V hV
                   have q6 := KQL.out V hV
                   go_simp
                   first
                     | exact hK.out _ hV
                     | (go_at_call 74; refine (KV.out V hV).mono ?_; rintro e V' ⟨rfl, hV'⟩; exact hK.out _ (KB.out _ _ hV hV')))
            simp only [putAll, Act.put, List.setIfInBounds_toArray, List.set_cons_zero, List.set_cons_succ]
            have r5 := KFB.out _ HV1
            have B5 := KBW.out _ HV1
            go_wp2_with fail
            refine (HWR.out k _).mono ?_
            rintro e w6 ⟨fp, fq, rfl, G6⟩
            obtain ⟨b6, o6, hf6, bb6⟩ := G6.out
            have r6 := r5.kept bb6
            have B6 := B5.trans (bb6.mono B5.size)
            clear bb6 G6 HWR r5 B5
            have FIN := hide (box_fin (w := w) r6 (by omega) hf6 B6)
            have y0 := block_cell r6 0
            have y1 := block_cell r6 1
            have g0 := block_free r6 0
            have g1 := block_free r6 1
            simp at y0 y1
            have hl5 := block_lt r6
            clear r6 hf6 B6
            go_wp2
            try rw [Exit.noGoto_ret]
            refine bodyPost_ret (v := .tuple #[.pointer none, .agg #[.slice fp 1 fq, .int .i64 220]]) (by simp [results, Try.results38, go_sem, y0, y1]) rfl ?_
            obtain ⟨h1, h2, -⟩ := FIN.out (.slice fp 1 fq) (.int .i64 220)
            exact rrecP_inl HSC.out ⟨fp, fq, rfl, h1, h2⟩
          · have d0 : ((num : Int) == 0) = false := by simp [h0]
            by_cases hnd : node = me
            · subst hnd
              rw [if_neg (by unfold Cf.stray Cf.led; rw [decide_eq_true (p := num ≠ 0) h0, hv]; simp)] at HSC
              have KLS : Hid (∀ V, Calls Try.prog 75 #[.agg #[.int .u64 (n : Nat), .int .i64 m], .agg #[.int .u64 (num : Nat), .int .i64 node]] V fun e V' => e = .returned (.bool (decide (cmpB n m num node < 0))) ∧ Below V.heap.size V V') := fun V => refLess n m num node V
              have HZ : Hid (∀ z, decide (cmpB n m num node < 0) = z → scan c node 0 0 0 rs = if z = true then scan c node (k + 1) num node (rs.drop (k + 1)) else scan c node (k + 1) n m (rs.drop (k + 1))) := fun z hz => by
                rw [HSC.out, ← hz]
                by_cases h : cmpB n m num node < 0
                · rw [if_pos h, if_pos (decide_eq_true h)]
                · rw [if_neg h, if_neg (by simp [h])]
              clear HSC hv h0
              generalize hz : decide (cmpB n m num node < 0) = z at *
              have HZ2 := hide (HZ.out z rfl)
              have HST : Hid (∀ V, Hid (Below W9.heap.size W9 V) → scan c node 0 0 0 rs = scan c node (k + 1) num node (rs.drop (k + 1)) → RLoop w c node rs q h pf fo fc (k + 1) num node ((V.setCell ⟨q, 3, none⟩ (.int .u64 (num : Nat))).setCell ⟨q, 4, none⟩ (.int .i64 node))) := fun V hb hs => HL.out.set (KRL.out V hb) HN6.out hs
              have HKP : Hid (∀ V, Hid (Below W9.heap.size W9 V) → scan c node 0 0 0 rs = scan c node (k + 1) n m (rs.drop (k + 1)) → RLoop w c node rs q h pf fo fc (k + 1) n m V) := fun V hb hs => HL.out.kept (KRL.out V hb) hs
              clear HZ
              generalize (num : Int) = num' at *
              generalize (n : Int) = n' at *
              go_upto_region 9 with fail
              refine region_assign (fun V => Hid (Below W9.heap.size W9 V)) [(38, .pointer (some ⟨q, 0, none⟩)), (39, .pointer (some ⟨q, 0, none⟩)), (40, .pointer (some ⟨q, 0, none⟩)), (41, .pointer (some ⟨h, 0, none⟩)), (42, .agg #[.int .u64 num', .int .i64 node]), (43, .bool true), (44, .bool false), (45, .bool false), (46, .pointer (some ⟨pb, 0, none⟩)), (47, .int .u64 num'), (48, .bool false), (49, .bool false), (50, .bool false), (51, .pointer (some ⟨pb, 1, none⟩)), (52, .int .i64 node), (53, .int .i64 node), (54, .bool false), (55, .bool false)] _ (by kernel_rfl) (by kernel_rfl) (by kernel_rfl) (by kernel_rfl) rfl (HD.out _ HD1) ?_ (fun V1 HV1 => ?_)
              · simp only [putAll, Act.put, List.setIfInBounds_toArray, List.set_cons_zero, List.set_cons_succ]
                repeat' (first | exact AllTo.nil | refine AllTo.cons ?_ ?_)
                all_goals first
                  | exact stepTo_no (by rfl) rfl
                  | (refine stepTo_yes (by rfl) (fun V hV K hK => ?_)
                     have q0 := KB0.out V hV
                     have q1 := KB1.out V hV
                     have q2 := KBL.out V hV
                     have q3 := KQ0.out V hV
                     have q4 := KQ3.out V hV
                     have q5 := KQ4.out V hV
                     have q6 := KQL.out V hV
                     go_simp
                     first
                       | exact hK.out _ hV
                       | (go_at_call 74; refine (KV.out V hV).mono ?_; rintro e V' ⟨rfl, hV'⟩; exact hK.out _ (KB.out _ _ hV hV')))
              simp only [putAll, Act.put, List.setIfInBounds_toArray, List.set_cons_zero, List.set_cons_succ]
              go_upto_region 11 with fail
              refine region_assign (fun V => Hid (Below W9.heap.size W9 V)) [(58, .pointer (some ⟨q, 0, none⟩)), (59, .pointer (some ⟨q, 0, none⟩)), (60, .pointer (some ⟨q, 2, none⟩)), (61, .pointer (some ⟨q, 3, none⟩)), (62, .agg #[.int .u64 n', .int .i64 m]), (63, .agg #[.int .u64 num', .int .i64 node]), (64, .bool z)] _ (by kernel_rfl) (by kernel_rfl) (by kernel_rfl) (by kernel_rfl) rfl (HD.out _ HV1) ?_ (fun V2 HV2 => ?_)
              · simp only [putAll, Act.put, List.setIfInBounds_toArray, List.set_cons_zero, List.set_cons_succ]
                repeat' (first | exact AllTo.nil | refine AllTo.cons ?_ ?_)
                all_goals first
                  | exact stepTo_no (by rfl) rfl
                  | (refine stepTo_yes (by rfl) (fun V hV K hK => ?_)
                     have q0 := KB0.out V hV
                     have q1 := KB1.out V hV
                     have q2 := KBL.out V hV
                     have q3 := KQ0.out V hV
                     have q4 := KQ3.out V hV
                     have q5 := KQ4.out V hV
                     have q6 := KQL.out V hV
                     go_simp
                     first
                       | exact hK.out _ hV
                       | (go_at_call 75; refine (KLS.out V).mono ?_; rintro e V' ⟨rfl, hV'⟩; exact hK.out _ (KB.out _ _ hV hV')))
              simp only [putAll, Act.put, List.setIfInBounds_toArray, List.set_cons_zero, List.set_cons_succ]
              have q1 := KB0.out _ HV2
              have q2 := KB1.out _ HV2
              have q3 := KQ3.out _ HV2
              have q4 := KQ4.out _ HV2
              have q5 := KQL.out _ HV2
              have q6 := KBL.out _ HV2
              have q7 := KQF.out _ HV2
              cases z with
              | true =>
                rw [if_pos rfl] at HZ2
                go_wp2
                go_roundw
                case rel => exact ⟨k + 1, by omega, by go_num, num, node, HST.out _ HV2 HZ2.out⟩
                case measure => simp [intOf]; omega
              | false =>
                rw [if_neg (by simp)] at HZ2
                go_wp2
                go_roundw
                case rel => exact ⟨k + 1, by omega, by go_num, n, m, HKP.out _ HV2 HZ2.out⟩
                case measure => simp [intOf]; omega
            · rw [if_pos (by unfold Cf.stray; rw [decide_eq_true (p := node ≠ me) hnd]; rfl)] at HSC
              have d1 : (node != me) = true := by simp [hnd]
              clear hv h0 hnd
              generalize (num : Int) = num' at *
              generalize (n : Int) = n' at *
              go_upto_region 9 with fail
              refine region_assign (fun V => Hid (Below W9.heap.size W9 V)) [(38, .pointer (some ⟨q, 0, none⟩)), (39, .pointer (some ⟨q, 0, none⟩)), (40, .pointer (some ⟨q, 0, none⟩)), (41, .pointer (some ⟨h, 0, none⟩)), (42, .agg #[.int .u64 num', .int .i64 node]), (43, .bool true), (44, .bool false), (45, .bool false), (46, .pointer (some ⟨pb, 0, none⟩)), (47, .int .u64 num'), (48, .bool false), (49, .bool false), (50, .bool false), (51, .pointer (some ⟨pb, 1, none⟩)), (52, .int .i64 node), (53, .int .i64 me), (54, .bool true), (55, .bool true)] _ (by kernel_rfl) (by kernel_rfl) (by kernel_rfl) (by kernel_rfl) rfl (HD.out _ HD1) ?_ (fun V1 HV1 => ?_)
              · simp only [putAll, Act.put, List.setIfInBounds_toArray, List.set_cons_zero, List.set_cons_succ]
                repeat' (first | exact AllTo.nil | refine AllTo.cons ?_ ?_)
                all_goals first
                  | exact stepTo_no (by rfl) rfl
                  | (refine stepTo_yes (by rfl) (fun V hV K hK => ?_)
                     have q0 := KB0.out V hV
                     have q1 := KB1.out V hV
                     have q2 := KBL.out V hV
                     have q3 := KQ0.out V hV
                     have q4 := KQ3.out V hV
                     have q5 := KQ4.out V hV
                     have q6 := KQL.out V hV
                     go_simp
                     first
                       | exact hK.out _ hV
                       | (go_at_call 74; refine (KV.out V hV).mono ?_; rintro e V' ⟨rfl, hV'⟩; exact hK.out _ (KB.out _ _ hV hV')))
              simp only [putAll, Act.put, List.setIfInBounds_toArray, List.set_cons_zero, List.set_cons_succ]
              have r5 := KFB.out _ HV1
              have B5 := KBW.out _ HV1
              go_wp2_with fail
              refine (HWR.out k _).mono ?_
              rintro e w6 ⟨fp, fq, rfl, G6⟩
              obtain ⟨b6, o6, hf6, bb6⟩ := G6.out
              have r6 := r5.kept bb6
              have B6 := B5.trans (bb6.mono B5.size)
              clear bb6 G6 HWR r5 B5
              have FIN := hide (box_fin (w := w) r6 (by omega) hf6 B6)
              have y0 := block_cell r6 0
              have y1 := block_cell r6 1
              have g0 := block_free r6 0
              have g1 := block_free r6 1
              simp at y0 y1
              have hl5 := block_lt r6
              clear r6 hf6 B6
              go_wp2
              try rw [Exit.noGoto_ret]
              refine bodyPost_ret (v := .tuple #[.pointer none, .agg #[.slice fp 1 fq, .int .i64 220]]) (by simp [results, Try.results38, go_sem, y0, y1]) rfl ?_
              obtain ⟨h1, h2, -⟩ := FIN.out (.slice fp 1 fq) (.int .i64 220)
              exact rrecP_inl HSC.out ⟨fp, fq, rfl, h1, h2⟩
      · rw [if_pos hkd] at HSC
        have d1 : (kd != 3) = true := by simp [hkd]
        have HKP := hide (HL.out.kept (by rw [HPB.out]; exact B9.out) HSC.out)
        clear hkd
        go_wp2
        go_roundw
        case rel => exact ⟨k + 1, by omega, by go_num, n, m, HKP.out⟩
        case measure => simp [intOf]; omega
    · have hsc := HL.out.sc.trans (scan_end c me n m rs (by omega))
      have r5 := HL.out.box
      have f5 := HL.out.flt
      have x0 := block_cell f5 0
      have x1 := block_cell f5 1
      have y0 := block_cell r5 0
      have y1 := block_cell r5 1
      have g0 := block_free r5 0
      have g1 := block_free r5 1
      have hl5 := block_lt r5
      have hl6 := block_lt f5
      simp at x0 x1 y0 y1
      have FIN : Hid (RRecP w c me rs (.returned (.tuple #[.pointer (some ⟨q, 0, none⟩), .agg #[.slice fo 0 fc, .int .i64 0]])) ((wr.drew.setCell ⟨w.heap.size + 1, 0, none⟩ (.slice fo 0 fc)).setCell ⟨w.heap.size + 1, 1, none⟩ (.int .i64 0))) := by
        have r6 : FBox (w.heap.size + 1) wr.drew := r5
        have b6 : Below wr.heap.size wr wr.drew := (Below.refl _ wr).drew
        have p6 := HL.out.rp.kept b6
        obtain ⟨h1, h2, h3⟩ := box_fin (w := w) r6 (by omega) (FV.nil _ _ fo 0 0) (HL.out.bel.trans (b6.mono HL.out.bel.size)) (.slice fo 0 fc) (.int .i64 0)
        have n1 : q ≠ w.heap.size + 1 := fun e => by have := p6.blk; rw [e] at this; unfold FBox at r6; rw [r6] at this; cases this
        have n2 : h ≠ w.heap.size + 1 := fun e => by have := p6.grp; rw [e] at this; unfold FBox at r6; rw [r6] at this; cases this
        exact rrecP_inr hsc ⟨fo, fc, rfl, h1, h2⟩ ⟨(h3.block _ (block_lt p6.blk) (fun e => n1 (Option.some.inj e))).trans p6.blk, (h3.block _ (block_lt p6.grp) (fun e => n2 (Option.some.inj e))).trans p6.grp, p6.ok⟩
      clear hsc r5 f5 HL
      go_upto_region 13 with fail
      go_region
      all_goals go_wp2
      all_goals
        refine bodyPost_ret (v := .tuple #[.pointer (some ⟨q, 0, none⟩), .agg #[.slice fo 0 fc, .int .i64 0]]) (by simp [results, Try.results38, go_sem, y0, y1]) rfl ?_
        exact FIN.out
end Go.Proofs.Ytbokmgfdmpejpaa
