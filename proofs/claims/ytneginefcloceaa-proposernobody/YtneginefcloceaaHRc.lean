import Derived.Test.YtneginefcloceaaHRd
namespace Go.Proofs.Ytneginefcloceaa
open Go.RowKit

theorem neq_err (g : Nat) (w : World) : (binOp BinOp.neq 38 (.iface 127 (.pointer (some ⟨g, 0, none⟩))) .nilIface).run Try.prog w = .ok (.bool true) w := by kernel_rfl
set_option maxRecDepth 10000 in
set_option maxHeartbeats 1600000 in
/-- Recover, where the configuration may not be. -/
theorem rec_bad (c : Cf) (hin : c.In) (k : Nat) (hk : badOf c.oks = (k : Int)) (me : Int) (sl : Value) (w : World) : Calls Try.prog 13 #[.agg c.cells, .int .i64 me, sl] w fun e w' => ∃ g, e = .returned (.tuple #[.pointer none, .iface 127 (.pointer (some ⟨g, 0, none⟩))]) ∧ Hid (Chain w'.heap.size w' [⟨proposerN, 0⟩, ⟨ballotN, (k : Int)⟩] (.iface 127 (.pointer (some ⟨g, 0, none⟩))) 180 ∧ Below w.heap.size w w') := by
  obtain ⟨W1, hW1⟩ : ∃ W1, w.alloc (.cells c.cells 42) = W1 := ⟨_, rfl⟩
  have B1 : Hid (Below w.heap.size w W1) := by rw [← hW1]; exact (Below.refl _ w).alloc (Nat.le_refl _) _
  have C1 : Hid (W1.heap[w.heap.size]? = some (.cells c.cells 42 (0, 0))) := by rw [← hW1]; exact alloc_atK _ _
  have HW1 := hide hW1
  obtain ⟨z0, z1, z2, z3, z4, z5, z6, z7, z8, z9⟩ := cfg_cells C1.out
  have HNW : Hid (Calls Try.prog 38 #[.agg c.cells] W1 fun e w' => ∃ g, e = .returned (.tuple #[.pointer none, .iface 127 (.pointer (some ⟨g, 0, none⟩))]) ∧ Hid (Below W1.heap.size W1 w' ∧ Chain w'.heap.size w' [⟨ballotN, (k : Int)⟩] (.iface 127 (.pointer (some ⟨g, 0, none⟩))) 180)) := (new_any c hin W1).mono fun _ _ ⟨a, ev, h1, h2⟩ => by
    rcases h2.out.2 with ⟨h3, _⟩ | ⟨k', h3, h4, h5⟩
    · rw [hk] at h3; omega
    · have e : k' = k := by omega
      rw [e] at h5
      obtain ⟨g, u, e5, _⟩ := id h5
      rw [e5] at h5 h1
      rw [h4] at h1
      exact ⟨g, h1, h2.out.1, h5⟩
  clear hin hk hW1 C1
  unfold Cf.cells at *
  generalize c.f = f at *
  generalize c.mb = mb at *
  generalize (c.delay : Int) = d at *
  generalize (c.win : Int) = wn at *
  generalize (c.every : Int) = ev at *
  generalize (c.beat : Int) = bt at *
  generalize (c.ep : Int) = ep at *
  generalize (c.em : Int) = em at *
  generalize (c.mn : Int) = mn at *
  generalize (c.ms : Int) = ms at *
  go_enter Try.func13, Try.ntmps13
  go_upto_region 1 with fail
  rw [HW1.out]
  clear HW1
  go_wp2_with fail
  refine HNW.out.mono ?_
  rintro e w2 ⟨g, rfl, G2⟩
  have hne := neq_err g
  clear z0 z1 z2 z3 z4 z5 z6 z7 z8 z9
  go_wp2_with fail
  refine (refusalP 0 G2.out.2).mono ?_
  rintro e w3 ⟨g3, rfl, G3⟩
  go_wp2
  go_ret2
  exact ⟨_, rfl, G3.out.1, (B1.out.trans (G2.out.1.mono B1.out.size)).trans (G3.out.2.mono (B1.out.trans (G2.out.1.mono B1.out.size)).size)⟩
set_option maxRecDepth 10000 in
set_option maxHeartbeats 1600000 in
/-- Recover, where me is no replica. -/
theorem rec_node (c : Cf) (hin : c.In) (hk : badOf c.oks = -1) (me : Int) (hn : c.node me = false) (sl : Value) (w : World) : Calls Try.prog 13 #[.agg c.cells, .int .i64 me, sl] w fun e w' => ∃ g, e = .returned (.tuple #[.pointer none, .iface 127 (.pointer (some ⟨g, 0, none⟩))]) ∧ Hid (Chain w'.heap.size w' [⟨proposerN, 1⟩] (.iface 127 (.pointer (some ⟨g, 0, none⟩))) 182 ∧ Below w.heap.size w w') := by
  obtain ⟨W1, hW1⟩ : ∃ W1, w.alloc (.cells c.cells 42) = W1 := ⟨_, rfl⟩
  have B1 : Hid (Below w.heap.size w W1) := by rw [← hW1]; exact (Below.refl _ w).alloc (Nat.le_refl _) _
  have C1 : Hid (W1.heap[w.heap.size]? = some (.cells c.cells 42 (0, 0))) := by rw [← hW1]; exact alloc_atK _ _
  have HW1 := hide hW1
  obtain ⟨z0, z1, z2, z3, z4, z5, z6, z7, z8, z9⟩ := cfg_cells C1.out
  have HNW : Hid (Calls Try.prog 38 #[.agg c.cells] W1 fun e w' => ∃ g, e = .returned (.tuple #[.pointer (some ⟨g, 0, none⟩), .nilIface]) ∧ Hid (Below W1.heap.size W1 w' ∧ PG w' (some ⟨g, 0, none⟩) c)) := (new_any c hin W1).mono fun _ _ ⟨a, ev, h1, h2⟩ => by
    rcases h2.out.2 with ⟨_, h3, h4⟩ | ⟨k', h3, _⟩
    · obtain ⟨g, rfl, h5⟩ := h4
      subst h3
      exact ⟨g, h1, h2.out.1, ⟨g, rfl, h5⟩⟩
    · rw [hk] at h3; omega
  have HND : Hid (∀ W a, PG W a c → Calls Try.prog 40 #[.pointer a, .int .i64 me] W fun e w' => e = .returned (.bool false) ∧ w' = W) := fun W a h => by rw [← hn]; exact node_live me h (cf_ok hk)
  clear hin hk hW1 C1 hn
  unfold Cf.cells at *
  generalize c.f = f at *
  generalize c.mb = mb at *
  generalize (c.delay : Int) = d at *
  generalize (c.win : Int) = wn at *
  generalize (c.every : Int) = ev at *
  generalize (c.beat : Int) = bt at *
  generalize (c.ep : Int) = ep at *
  generalize (c.em : Int) = em at *
  generalize (c.mn : Int) = mn at *
  generalize (c.ms : Int) = ms at *
  go_enter Try.func13, Try.ntmps13
  go_upto_region 1 with fail
  rw [HW1.out]
  clear HW1
  go_wp2_with fail
  refine HNW.out.mono ?_
  rintro e w2 ⟨g, rfl, G2⟩
  clear z0 z1 z2 z3 z4 z5 z6 z7 z8 z9
  go_wp2_with fail
  refine (HND.out _ _ G2.out.2).mono ?_
  rintro e w3 ⟨rfl, rfl⟩
  go_wp2_with fail
  refine (refusalP (L := []) (c := 182) 1 rfl).mono ?_
  rintro e w3 ⟨g3, rfl, G3⟩
  go_wp2
  go_ret2
  exact ⟨_, rfl, G3.out.1, (B1.out.trans (G2.out.1.mono B1.out.size)).trans (G3.out.2.mono (B1.out.trans (G2.out.1.mono B1.out.size)).size)⟩
/-- What Recover hands out. -/
def RecP (w : World) (c : Cf) (me : Int) (rs : List Rd) (e : Ending) (w' : World) : Prop := match scan c me 0 0 0 rs with
  | .inl i => ∃ g, e = .returned (.tuple #[.pointer none, .iface 127 (.pointer (some ⟨g, 0, none⟩))]) ∧ Hid (Chain w'.heap.size w' [⟨proposerN, (i : Int)⟩] (.iface 127 (.pointer (some ⟨g, 0, none⟩))) 220 ∧ Below w.heap.size w w')
  | .inr b => ∃ p g, e = .returned (.tuple #[.pointer (some ⟨p, 0, none⟩), .nilIface]) ∧ Hid (PP w' p g c me b.1 b.2 ∧ Below w.heap.size w w')
theorem recP_inl {w w' : World} {c : Cf} {me : Int} {rs : List Rd} {i g : Nat} (h : scan c me 0 0 0 rs = .inl i) (hc : Chain w'.heap.size w' [⟨proposerN, (i : Int)⟩] (.iface 127 (.pointer (some ⟨g, 0, none⟩))) 220) (hb : Below w.heap.size w w') : RecP w c me rs (.returned (.tuple #[.pointer none, .iface 127 (.pointer (some ⟨g, 0, none⟩))])) w' := by
  unfold RecP
  rw [h]
  exact ⟨g, rfl, hc, hb⟩
theorem recP_inr {w w' : World} {c : Cf} {me : Int} {rs : List Rd} {p g n : Nat} {m : Int} (h : scan c me 0 0 0 rs = .inr (n, m)) (hp : PP w' p g c me n m) (hb : Below w.heap.size w w') : RecP w c me rs (.returned (.tuple #[.pointer (some ⟨p, 0, none⟩), .nilIface])) w' := by
  unfold RecP
  rw [h]
  exact ⟨p, g, rfl, hp, hb⟩
set_option maxRecDepth 100000 in
set_option maxHeartbeats 4000000 in
theorem rec_any (c : Cf) (hin : c.In) (hk : badOf c.oks = -1) (me : Int) (hn : c.node me = true) {ao : Option Addr} {rs : List Rd} {b off : Nat} (len cap : Nat) (hlen : rs.length = len) (w : World) (hR : Rds w.heap.size w ao rs b off) (hnm : ∀ f ∈ rs, f.num < 18446744073709551616) : Calls Try.prog 13 #[.agg c.cells, .int .i64 me, .slice ao len cap] w (RecP w c me rs) := by
  subst hlen
  obtain ⟨W1, hW1⟩ : ∃ W1, w.alloc (.cells c.cells 42) = W1 := ⟨_, rfl⟩
  have B1 : Hid (Below w.heap.size w W1) := by rw [← hW1]; exact (Below.refl _ w).alloc (Nat.le_refl _) _
  have C1 : Hid (W1.heap[w.heap.size]? = some (.cells c.cells 42 (0, 0))) := by rw [← hW1]; exact alloc_atK _ _
  have HW1 := hide hW1
  obtain ⟨z0, z1, z2, z3, z4, z5, z6, z7, z8, z9⟩ := cfg_cells C1.out
  have HNW : Hid (Calls Try.prog 38 #[.agg c.cells] W1 fun e w' => ∃ g, e = .returned (.tuple #[.pointer (some ⟨g, 0, none⟩), .nilIface]) ∧ Hid (Below W1.heap.size W1 w' ∧ PG w' (some ⟨g, 0, none⟩) c)) := (new_any c hin W1).mono fun _ _ ⟨a, ev, h1, h2⟩ => by
    rcases h2.out.2 with ⟨_, h3, h4⟩ | ⟨k', h3, _⟩
    · obtain ⟨g, rfl, h5⟩ := h4
      subst h3
      exact ⟨g, h1, h2.out.1, ⟨g, rfl, h5⟩⟩
    · rw [hk] at h3; omega
  have HOK := hide (cf_ok hk)
  have HND : Hid (∀ W a, PG W a c → Calls Try.prog 40 #[.pointer a, .int .i64 me] W fun e w' => e = .returned (.bool true) ∧ w' = W) := fun W a h => by rw [← hn]; exact node_live me h (cf_ok hk)
  have HR := hide hR
  have HNM := hide hnm
  have hle := hR.le
  have HNEW : Hid (∀ (W : World) (g : Nat), Below w.heap.size w W → PG W (some ⟨g, 0, none⟩) c → PP (W.alloc (.cells (pcells g me 0 0) 36)) W.heap.size g c me 0 0 ∧ Below w.heap.size w (W.alloc (.cells (pcells g me 0 0) 36)) ∧ w.heap.size ≤ W.heap.size) := fun W g hb hg => ⟨⟨alloc_atK _ _, hg.kept ((Below.refl _ _).alloc (Nat.le_refl _) _)⟩, hb.alloc hb.size _, hb.size⟩
  unfold pcells at HNEW
  clear hin hk hW1 C1 hn hR hnm
  unfold Cf.cells at *
  generalize c.f = f at *
  generalize c.mb = mb at *
  generalize (c.delay : Int) = d at *
  generalize (c.win : Int) = wn at *
  generalize (c.every : Int) = ev at *
  generalize (c.beat : Int) = bt at *
  generalize (c.ep : Int) = ep at *
  generalize (c.em : Int) = em at *
  generalize (c.mn : Int) = mn at *
  generalize (c.ms : Int) = ms at *
  go_enter Try.func13, Try.ntmps13
  go_upto_region 1 with fail
  rw [HW1.out]
  clear HW1
  go_wp2_with fail
  refine HNW.out.mono ?_
  rintro e w2 ⟨g, rfl, G2⟩
  clear z0 z1 z2 z3 z4 z5 z6 z7 z8 z9
  go_wp2_with fail
  refine (HND.out _ _ G2.out.2).mono ?_
  rintro e w3 ⟨rfl, rfl⟩
  have HP := hide (HNEW.out w3 g (B1.out.trans (G2.out.1.mono B1.out.size)) G2.out.2)
  clear HND HNW HNEW B1 G2
  go_wp2
  generalize w3.heap.size = p at *
  go_loopw [34] (fun i wr => ∃ k : Nat, k ≤ rs.length ∧ i = .int .i64 (k : Nat) ∧ Hid (∃ (n : Nat) (m : Int), n < 18446744073709551616 ∧ PP wr p g c me n m ∧ Below w.heap.size w wr ∧ w.heap.size ≤ p ∧ scan c me 0 0 0 rs = scan c me k n m (rs.drop k))) (fun i _ => rs.length - (intOf i).toNat)
  case atStart => exact ⟨0, by omega, rfl, 0, 0, by omega, HP.out.1, HP.out.2.1, HP.out.2.2, rfl⟩
  case round =>
    obtain ⟨k, hkl, rfl, HJ⟩ := hrel
    clear HP
    by_cases hlt : k < rs.length
    · obtain ⟨n, m, hn64, hPP, hBw, hwp, hsc⟩ := HJ.out
      obtain ⟨kd, num, node, slot, st, ro, rl, rc, eo, el, ec, hf, rfl, hbl, x0, x1, x2, x3, x4, x5, x6⟩ := (HR.out.below hBw).get hlt
      have hbw : b < wr.heap.size := Nat.lt_of_lt_of_le hbl hBw.size
      have HN6 : Hid (num < 18446744073709551616) := HNM.out _ (List.mem_of_getElem? hf)
      have HSC := hide (hsc.trans (scan_at hf))
      simp only at HSC
      have HPP := hide hPP
      have HBW := hide hBw
      have HWP := hide hwp
      have HN64 := hide hn64
      obtain ⟨W9, hW9⟩ : ∃ W9, wr.alloc (.cells #[.int .i64 kd, .int .u64 (num : Nat), .int .i64 node, .int .u64 (slot : Nat), .int .u64 (st : Nat), .slice ro rl rc, .slice eo el ec] 80) = W9 := ⟨_, rfl⟩
      have B9 : Hid (Below wr.heap.size wr W9) := by rw [← hW9]; exact (Below.refl _ _).alloc (Nat.le_refl _) _
      have C9 : Hid (W9.heap[wr.heap.size]? = some (.cells #[.int .i64 kd, .int .u64 (num : Nat), .int .i64 node, .int .u64 (slot : Nat), .int .u64 (st : Nat), .slice ro rl rc, .slice eo el ec] 80 (0, 0))) := by rw [← hW9]; exact alloc_atK _ _
      have y0 : W9.cell? ⟨wr.heap.size, 0, none⟩ = some (.int .i64 kd) := block_cell C9.out 0
      have y1 : W9.cell? ⟨wr.heap.size, 1, none⟩ = some (.int .u64 (num : Nat)) := block_cell C9.out 1
      have y2 : W9.cell? ⟨wr.heap.size, 2, none⟩ = some (.int .i64 node) := block_cell C9.out 2
      have hpl : wr.heap.size < W9.heap.size := block_lt C9.out
      clear hPP hBw hwp hsc hf hn64 hbl
      go_upto_region 10 with fail
      try rw [hW9]
      clear hW9 x0 x1 x2 x3 x4 x5 x6 hbw
      have HP9 := hide (HPP.out.kept B9.out)
      have HB9 := hide (HBW.out.trans (B9.out.mono HBW.out.size))
      generalize wr.heap.size = pr at *
      clear B9 HBW HPP
      by_cases hkd : kd = 3
      · subst hkd
        rw [if_neg (by simp)] at HSC
        by_cases hnd : node = me
        · subst hnd
          have HLD := hide (led_pp num node HP9.out HOK.out)
          cases hl : c.led num node with
          | false =>
            rw [hl] at HLD
            rw [if_pos (by unfold Cf.stray; rw [hl]; simp)] at HSC
            clear hl
            go_wp2_with fail
            refine HLD.out.mono ?_
            rintro e w4 ⟨rfl, b4⟩
            have B4 := hide (HB9.out.trans (b4.mono HB9.out.size))
            clear b4 y0 y1 y2
            go_wp2_with fail
            refine (refusalP (L := []) (c := 220) (k : Int) rfl).mono ?_
            rintro e w5 ⟨g5, rfl, G5⟩
            go_wp2
            try rw [Exit.noGoto_ret]
            go_ret2
            exact recP_inl HSC.out G5.out.1 (B4.out.trans (G5.out.2.mono B4.out.size))
          | true =>
            rw [hl] at HLD
            rw [if_neg (by unfold Cf.stray; rw [hl]; simp)] at HSC
            clear hl
            go_wp2_with fail
            refine HLD.out.mono ?_
            rintro e w4 ⟨rfl, b4⟩
            have B4 := hide (HB9.out.trans (b4.mono HB9.out.size))
            have HP4 := hide (HP9.out.kept b4)
            have C4 := hide ((b4.block _ (block_lt C9.out)).trans C9.out)
            clear b4 y0 y1 y2 HLD hpl
            have KR1 : Hid (∀ V, Hid (Below w4.heap.size w4 V) → V.cell? ⟨pr, 1, none⟩ = some (.int .u64 (num : Nat))) := fun V hb => block_cell ((hb.out.block _ (block_lt C4.out)).trans C4.out) 1
            have KR2 : Hid (∀ V, Hid (Below w4.heap.size w4 V) → V.cell? ⟨pr, 2, none⟩ = some (.int .i64 node)) := fun V hb => block_cell ((hb.out.block _ (block_lt C4.out)).trans C4.out) 2
            have KRL : Hid (∀ V, Hid (Below w4.heap.size w4 V) → pr < V.heap.size) := fun V hb => block_lt ((hb.out.block _ (block_lt C4.out)).trans C4.out)
            have KP2 : Hid (∀ V, Hid (Below w4.heap.size w4 V) → V.cell? ⟨p, 2, none⟩ = some (.int .u64 (n : Nat))) := fun V hb => (HP4.out.kept hb.out).cell 2
            have KP3 : Hid (∀ V, Hid (Below w4.heap.size w4 V) → V.cell? ⟨p, 3, none⟩ = some (.int .i64 m)) := fun V hb => (HP4.out.kept hb.out).cell 3
            have KPL : Hid (∀ V, Hid (Below w4.heap.size w4 V) → p < V.heap.size) := fun V hb => block_lt (HP4.out.kept hb.out).blk
            have KLS : Hid (∀ V, Calls Try.prog 16 #[.agg #[.int .u64 (n : Nat), .int .i64 m], .agg #[.int .u64 (num : Nat), .int .i64 node]] V fun e V' => e = .returned (.bool (decide (cmpB n m num node < 0))) ∧ Below V.heap.size V V') := fun V => less_any n m num node V
            have HD1 : Hid (Below w4.heap.size w4 w4) := Below.refl _ _
            have HD : Hid (∀ V, Hid (Below w4.heap.size w4 V) → Hid (Below w4.heap.size w4 V.drew)) := fun V h => h.out.drew
            have KB : Hid (∀ V V', Hid (Below w4.heap.size w4 V) → Below V.heap.size V V' → Hid (Below w4.heap.size w4 V')) := fun V V' h h' => h.out.trans (h'.mono h.out.size)
            have HZ : Hid (∀ z, decide (cmpB n m num node < 0) = z → scan c node 0 0 0 rs = if z = true then scan c node (k + 1) num node (rs.drop (k + 1)) else scan c node (k + 1) n m (rs.drop (k + 1))) := fun z hz => by
              rw [HSC.out, ← hz]
              by_cases h : cmpB n m num node < 0
              · rw [if_pos h, if_pos (decide_eq_true h)]
              · rw [if_neg h, if_neg (by simp [h])]
            clear HSC
            generalize hz : decide (cmpB n m num node < 0) = z at *
            have HZ2 := hide (HZ.out z rfl)
            have HPS : Hid (∀ V, Hid (Below w4.heap.size w4 V) → PP ((V.setCell ⟨p, 2, none⟩ (.int .u64 (num : Nat))).setCell ⟨p, 3, none⟩ (.int .i64 node)) p g c node num node ∧ Below w.heap.size w ((V.setCell ⟨p, 2, none⟩ (.int .u64 (num : Nat))).setCell ⟨p, 3, none⟩ (.int .i64 node))) := fun V hb => ⟨(HP4.out.kept hb.out).set num node, ((B4.out.trans (hb.out.mono B4.out.size)).setCell (p := ⟨p, 2, none⟩) HWP.out _).setCell (p := ⟨p, 3, none⟩) HWP.out _⟩
            have HPK : Hid (∀ V, Hid (Below w4.heap.size w4 V) → PP V p g c node n m ∧ Below w.heap.size w V) := fun V hb => ⟨HP4.out.kept hb.out, B4.out.trans (hb.out.mono B4.out.size)⟩
            have KPF : Hid (∀ V, Hid (Below w4.heap.size w4 V) → V.frozen? ⟨p, 2, none⟩ = false ∧ V.frozen? ⟨p, 3, none⟩ = false) := fun V hb => ⟨block_free (HP4.out.kept hb.out).blk 2, block_free (HP4.out.kept hb.out).blk 3⟩
            clear HZ
            generalize (num : Int) = num' at *
            generalize (n : Int) = n' at *
            go_upto_region 13 with fail
            refine region_assign (fun V => Hid (Below w4.heap.size w4 V)) [(57, .pointer (some ⟨p, 0, none⟩)), (58, .pointer (some ⟨p, 0, none⟩)), (59, .pointer (some ⟨p, 2, none⟩)), (60, .agg #[.int .u64 n', .int .i64 m]), (61, .pointer (some ⟨pr, 1, none⟩)), (62, .agg #[.int .u64 num', .int .i64 node]), (63, .bool z)] _ (by kernel_rfl) (by kernel_rfl) (by kernel_rfl) (by kernel_rfl) rfl (HD.out _ HD1) ?_ (fun V1 HV1 => ?_)
            · simp only [putAll, Act.put, List.setIfInBounds_toArray, List.set_cons_zero, List.set_cons_succ]
              repeat' (first | exact AllTo.nil | refine AllTo.cons ?_ ?_)
              all_goals first
                | exact stepTo_no (by rfl) rfl
                | (refine stepTo_yes (by rfl) (fun V hV K hK => ?_)
                   have q0 := KR1.out V hV
                   have q1 := KR2.out V hV
                   have q2 := KRL.out V hV
                   have q3 := KP2.out V hV
                   have q4 := KP3.out V hV
                   have q5 := KPL.out V hV
                   go_simp
                   first
                     | exact hK.out _ hV
                     | (go_at_call 16; refine (KLS.out V).mono ?_; rintro e V' ⟨rfl, hV'⟩; exact hK.out _ (KB.out _ _ hV hV')))
            simp only [putAll, Act.put, List.setIfInBounds_toArray, List.set_cons_zero, List.set_cons_succ]
            have q1 := KR1.out _ HV1
            have q2 := KR2.out _ HV1
            have q3 := KP2.out _ HV1
            have q4 := KP3.out _ HV1
            have q5 := KPL.out _ HV1
            have q6 := KRL.out _ HV1
            have q7 := KPF.out _ HV1
            cases z with
            | true =>
              rw [if_pos rfl] at HZ2
              go_wp2
              go_roundw
              case rel => exact ⟨k + 1, by omega, by go_num, num, node, HN6.out, (HPS.out _ HV1).1, (HPS.out _ HV1).2, HWP.out, HZ2.out⟩
              case measure => simp [intOf]; omega
            | false =>
              rw [if_neg (by simp)] at HZ2
              go_wp2
              go_roundw
              case rel => exact ⟨k + 1, by omega, by go_num, n, m, HN64.out, (HPK.out _ HV1).1, (HPK.out _ HV1).2, HWP.out, HZ2.out⟩
              case measure => simp [intOf]; omega
        · rw [if_pos (by unfold Cf.stray; rw [decide_eq_true hnd]; rfl)] at HSC
          have d1 : (node != me) = true := by simp [hnd]
          clear hnd
          go_wp2_with fail
          refine (refusalP (L := []) (c := 220) (k : Int) rfl).mono ?_
          rintro e w5 ⟨g5, rfl, G5⟩
          go_wp2
          try rw [Exit.noGoto_ret]
          go_ret2
          exact recP_inl HSC.out G5.out.1 (HB9.out.trans (G5.out.2.mono HB9.out.size))
      · rw [if_pos hkd] at HSC
        have d1 : (kd != 3) = true := by simp [hkd]
        clear hkd
        go_wp2
        go_roundw
        case rel => exact ⟨k + 1, by omega, by go_num, n, m, HN64.out, HP9.out, HB9.out, HWP.out, HSC.out⟩
        case measure => simp [intOf]; omega
    · obtain ⟨n, m, hn64, hPP, hBw, hwp, hsc⟩ := HJ.out
      have HE := hide (recP_inr (hsc.trans (scan_end c me n m rs (by omega))) hPP hBw)
      clear hn64 hPP hBw hwp hsc HJ
      go_wp2
      go_ret2
      exact HE.out
end Go.Proofs.Ytneginefcloceaa
