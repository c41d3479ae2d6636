import Derived.Test.YtggpaljilpbmhaaGreatDoorZ41
import Derived.Test.YtggpaljilpbmhaaGreatDoorZ35
import Derived.Deep.DeepCutAuto
namespace Go.Proofs.YtggpaljilpbmhaaGreatDoor
open Go.RowKit

theorem Uw.noS {W : World} {R0 lim pb fb rp : Nat} {B : List Nat} {pos : Nat} {va vb vc : Value} {ja jb jc : Nat} {xa xb xc : List Value} {en : Nat → Int} {w : World} (h : Uw W R0 lim pb fb rp B pos va vb vc ja jb jc xa xb xc en w) (s : ByteArray) : va ≠ .string s := by
 obtain ⟨k, d, e⟩ := own_val2 h.qa
 rw [e]
 intro x
 cases x
set_option maxRecDepth 10000 in
set_option maxHeartbeats 12800000 in
theorem unpackedX {W : World} {l0 : Nat} {ao : Option Addr} {n cap : Nat} {B : List Nat} (h : Shows l0 W ao n cap B) (hl : l0 ≤ W.heap.size) (hg : ErrT W) (hT : Tab W) :
  Calls Tryz.prog 50 #[.slice ao n cap] W (UdX W B) := by
 have hmf : ∀ (fn : Fn) (first cap : Array Value) (w : World), (Instr.makeFunc fn first cap).run Tryz.prog w = .ok (.func fn first cap) w := fun _ _ _ _ => rfl
 obtain ⟨iU, hU, hU0, hU1, hU2⟩ := info_parts Tryz.infoU
 obtain ⟨iN, hN, hN0, hN1, hN2⟩ := info_parts Tryz.infoN
 obtain ⟨iI, hI, hI0, hI1, hI2⟩ := info_parts Tryz.infoI
 have HIU := hide (And.intro hU (And.intro hU0 (And.intro hU1 hU2)))
 have HIN := hide (And.intro hN (And.intro hN0 (And.intro hN1 hN2)))
 have HII := hide (And.intro hI (And.intro hI0 (And.intro hI1 hI2)))
 clear hU hU0 hU1 hU2 hN hN0 hN1 hN2 hI hI0 hI1 hI2
 obtain ⟨W2, hW2⟩ : ∃ W2, (W.alloc (.cells zP 27)).alloc (.cells #[.nilIface] 33) = W2 := ⟨_, rfl⟩
 obtain ⟨q0, q1, b2⟩ := two_box2L W _ _ _ _ hW2
 have HNR := hide (newReader_any (h.kept (row := none) (grown_belowU b2) (fun g e => by cases e)) (Nat.le_trans hl b2.size))
 have HQ0 := hide q0
 have HQ1 := hide q1
 have HB2 := hide b2
 have HBB : Hid (∀ x ∈ B, x < 256) := h.2.2.2.1
 have HG := hide hg
 have HT := hide hT
 have hs2 : W2.heap.size = W.heap.size + 2 := by rw [← hW2]; simp
 have HS2 := hide hs2
 have HW2 := hide hW2
 clear h hl hg hT q0 q1 b2 hs2 hW2
 unfold zP at HW2
 go_enter_defers Tryz.func50, Tryz.ntmps50
 go_upto_region 1 with fail
 rw [HW2.out]
 clear HW2
 go_upto_region 2 with fail
 go_wp2_with fail
 refine HNR.out.mono ?_
 rintro x w3 ⟨rp, lim, rfl, r1, r2, hR3, b3⟩
 go_upto_region 3 with fail
 obtain ⟨w4, hw4⟩ : ∃ w', w3.alloc (.cells #[.pointer (some ⟨rp, 0, none⟩)] 185) = w' := ⟨_, rfl⟩
 have b4 : Below w3.heap.size w3 w4 := by rw [← hw4]; exact below_alloc1 _ _
 have a4 : w4.heap[w3.heap.size]? = some (.cells #[.pointer (some ⟨rp, 0, none⟩)] 185 (0, 0)) := by rw [← hw4]; exact alloc_atK _ _
 have s4 : w4.heap.size = w3.heap.size + 1 := by rw [← hw4]; simp
 rw [hw4]
 clear hw4
 obtain ⟨pb, hpb⟩ : ∃ pb, W.heap.size = pb := ⟨_, rfl⟩
 obtain ⟨fb, hfb⟩ : ∃ fb, w3.heap.size = fb := ⟨_, rfl⟩
 obtain ⟨R0, hR0⟩ : ∃ R0, w4.heap.size = R0 := ⟨_, rfl⟩
 have b24 : Below W2.heap.size W2 w4 := b3.trans (b4.mono b3.size)
 have HU4 : Hid (Uw W R0 lim pb fb rp B 0 (.slice none 0 0) (.slice none 0 0) (.slice none 0 0) 0 0 0 [] [] [] (fun _ => 0) w4) := by
  have bW := HB2.out.trans (b24.mono HB2.out.size)
  have hrp := hR3.plt
  have hss := HS2.out
  refine hide (Uw.mk ?_ ?_ (by rw [← hfb]; exact a4) (hR3.kept (row := none) (grown_belowU b4) (fun g e => by cases e)) (World.ownsRow_nil _ _ _ _) (World.ownsRow_nil _ _ _ _) (World.ownsRow_nil _ _ _ _) (HT.out.below bW HT.out.z) ((bW.cell (p := ⟨1, 0, none⟩) HG.out.lt).trans HG.out) bW HT.out.z (by omega) (by omega) (by omega) (by omega) (by omega) ?_)
  ·rw [← hpb]; exact (b24.block _ (block_lt HQ0.out)).trans HQ0.out
  ·rw [← hpb]; exact (b24.block _ (block_lt HQ1.out)).trans HQ1.out
  ·have := hR3.limp; omega
 have HO := hide (And.intro hpb (And.intro hfb hR0))
 rw [hpb, hfb]
 clear hpb hfb hR3 b3 b4 a4 s4 b24 r1 r2 HNR HQ0 HQ1 HB2 HG HT HS2 hR0
 have z0 := block_cell HU4.out.pf 0
 have zl := block_lt HU4.out.pf
 simp at z0
 have HHD := hide (headX HU4.out.rd HU4.out.err (by have := HU4.out.z; have := HU4.out.o1; have := HU4.out.o2; omega))
 go_wp2_with fail
 refine HHD.out.mono ?_
 rintro x w5 ⟨G5, h5⟩
 rcases h5 with ⟨hw5, rfl, R5⟩ | ⟨hw5, gf, rfl, HCH⟩
 case inr =>
  clear z0 zl
  have HD := hide (unpacked_gaveX (W := W) (B := B) (g := gf) ((G5.out.block _ (block_lt HU4.out.pc) (by have := HU4.out.o2; simp; omega)).trans HU4.out.pc) ((G5.out.block _ (block_lt HU4.out.pe) (by have := HU4.out.o2; simp; omega)).trans HU4.out.pe) (HU4.out.bel.grown G5.out HU4.out.bel.size (fun x e => by have := HU4.out.o1; have := HU4.out.o2; cases e; omega)) HU4.out.o1 (up_head hw5) HU4.out.noS (fun s e => by cases e) HCH.out)
  clear HCH
  go_wp2
  exact HD.out _ rfl rfl
 have HU5 := hide (HU4.out.read G5.out R5.out)
 have HEH : Hid (encH <+: B) := (head_iff HBB.out).1 hw5
 have HH0 : Hid (hdW B = 0) := hw5
 clear G5 R5 hw5 HHD HU4 z0 zl
 have z0 := block_cell HU5.out.pf 0
 have zl := block_lt HU5.out.pf
 simp at z0
 have HCT := hide (countX HU5.out.rd HU5.out.err (by have := HU5.out.z; have := HU5.out.o1; have := HU5.out.o2; omega) 256 (by decide) (by decide))
 rw [show (0 + 3) = 3 from rfl] at HCT
 go_wp2_with fail
 refine HCT.out.mono ?_
 rintro x w6 ⟨G6, h6⟩
 rcases h6 with ⟨hw6, rfl, R6⟩ | ⟨hw6, gf, rfl, HCH⟩
 case inr =>
  clear z0 zl
  have HD := hide (unpacked_gaveX (W := W) (B := B) (g := gf) ((G6.out.block _ (block_lt HU5.out.pc) (by have := HU5.out.o2; simp; omega)).trans HU5.out.pc) ((G6.out.block _ (block_lt HU5.out.pe) (by have := HU5.out.o2; simp; omega)).trans HU5.out.pe) (HU5.out.bel.grown G6.out HU5.out.bel.size (fun x e => by have := HU5.out.o1; have := HU5.out.o2; cases e; omega)) HU5.out.o1 (up_cnt HH0.out hw6) HU5.out.noS (fun s e => by cases e) HCH.out)
  clear HCH
  go_wp2
  exact HD.out _ rfl rfl
 have HU6 := hide (HU5.out.read G6.out R6.out)
 have HR1 := hide (X1.start HH0.out HEH.out HBB.out hw6)
 obtain ⟨nc, hnc⟩ : ∃ nc, (countAt (B.drop 3) 256).1 = nc := ⟨_, rfl⟩
 rw [hnc] at HR1 ⊢
 clear G6 R6 hw6 HCT HU5 z0 zl hnc
 go_upto_region 5 with fail
 go_loopw [15] (fun i wr => ∃ (j pos : Nat) (va : Value) (q : Pv), j ≤ nc ∧ i = .int .i64 (j : Nat) ∧ q.nc = nc ∧ Hid (Uw W R0 lim pb fb rp B pos va (.slice none 0 0) (.slice none 0 0) j 0 0 (nums .u64 q.C j) [] [] (fun _ => 0) wr) ∧ Hid (X1 B q j pos)) (fun i _ => nc - (intOf i).toNat)
 case atStart => exact ⟨0, _, _, _, Nat.zero_le _, rfl, rfl, HU6, HR1⟩
 case round =>
  obtain ⟨j, pos, va, q, hj, rfl, hq, HUJ, HRJ⟩ := hrel
  have hnc := HRJ.out.r.nc
  rw [hq] at hnc
  clear HU6 HR1
  by_cases hlt : j < nc
  ·go_upto_region 6 with fail
   have HUD := hide (HUJ.out.next (Below.refl _ _).drew)
   have HS1 : Hid ((fun (w : World) => w.heap[pb]? = some (.cells #[va, .slice none 0 0, .int .i64 0, .int .i64 0, .int .i64 0, .int .i64 0, .int .i64 0, .int .i64 0, .slice none 0 0] 27 (0, 0)) ∧ w.heap[fb]? = some (.cells #[.pointer (some ⟨rp, 0, none⟩)] 185 (0, 0))) wr.drew) := ⟨HUD.out.pc, HUD.out.pf⟩
   have HNU := hide (numberX HUD.out.rd HUD.out.err (by have := HUD.out.z; have := HUD.out.o1; have := HUD.out.o2; omega))
   refine wp_region_L 7 (fun (w : World) => w.heap[pb]? = some (.cells #[va, .slice none 0 0, .int .i64 0, .int .i64 0, .int .i64 0, .int .i64 0, .int .i64 0, .int .i64 0, .slice none 0 0] 27 (0, 0)) ∧ w.heap[fb]? = some (.cells #[.pointer (some ⟨rp, 0, none⟩)] 185 (0, 0))) (fun _ => True) (by kernel_rfl) HS1.out trivial (fun hS0 => ?_)
   refine wpAnyL_take (i := 0) (oi := ⟨some 17, .fieldAddr 27 (.tmp 2) 0, 0, "pack.go:68", #[], none⟩) (v := .pointer (some ⟨pb, 0, none⟩)) rfl (by decide) (by kernel_rfl) (by kernel_rfl) (by kernel_rfl) (fun _ _ _ h => put_panicX (by decide) h) (Or.inl ⟨by rfl, fun w2 hSw => ?_⟩) hS0 (fun hS1 => ?_)
   ·go_simp
   simp only [Act.put, lsA, lsB, lsC]
   clear hS0
   refine wpAnyL_take1 (i := 1) (oi := ⟨some 18, .load 22 (.tmp 17), 22, "pack.go:68", #[⟨0, .data⟩], none⟩) (v := va) rfl (by decide) (by kernel_rfl) (by kernel_rfl) (by kernel_rfl) (fun _ _ _ h => put_panicX (by decide) h) (Or.inl ⟨by rfl, fun w2 hSw => ?_⟩) hS1 (by kernel_rfl) rfl (by kernel_rfl) (fun hS2 => ?_)
   ·obtain ⟨hbx, hfx⟩ := hSw
    have k0 := block_cell hbx 0
    have kl := block_lt hbx
    simp at k0
    go_simp
   simp only [Act.put, lsA, lsB, lsC]
   clear hS1
   refine wpAnyL_take1 (i := 2) (oi := ⟨some 19, .load 185 (.tmp 4), 185, "pack.go:68", #[], none⟩) (v := .agg #[.pointer (some ⟨rp, 0, none⟩)]) rfl (by decide) (by kernel_rfl) (by kernel_rfl) (by kernel_rfl) (fun _ _ _ h => put_panicX (by decide) h) (Or.inl ⟨by rfl, fun w2 hSw => ?_⟩) hS2 (by kernel_rfl) rfl (by kernel_rfl) (fun hS3 => ?_)
   ·obtain ⟨hbx, hfx⟩ := hSw
    have k0 := block_cell hfx 0
    have kl := block_lt hfx
    simp at k0
    go_simp
   simp only [Act.put, lsA, lsB, lsC]
   clear hS2
   clear hS3
   refine wpAnyL_one (i := 3) (o := ⟨some 20, .call { callee := Callee.value (.func 103), args := #[.tmp 19], argTypes := #[185] }, 28, "pack.go:68", #[⟨2, .data⟩], none⟩) (by kernel_rfl) rfl (fun K hK => ?_)
   go_simp
   go_wp2_with fail
   refine HNU.out.mono ?_
   rintro x w7 ⟨G7, h7⟩
   rcases h7 with ⟨hw7, rfl, R7⟩ | ⟨hw7, gf, rfl, HCH⟩
   case inr =>
    have HD := hide (unpacked_gaveX (W := W) (B := B) (g := gf) ((G7.out.block _ (block_lt HUD.out.pc) (by have := HUD.out.o2; simp; omega)).trans HUD.out.pc) ((G7.out.block _ (block_lt HUD.out.pe) (by have := HUD.out.o2; simp; omega)).trans HUD.out.pe) (HUD.out.bel.grown G7.out HUD.out.bel.size (fun x e => by have := HUD.out.o1; have := HUD.out.o2; cases e; omega)) HUD.out.o1 (HRJ.out.fail (by omega) hw7) HUD.out.noS (fun s e => by cases e) HCH.out)
    clear HCH
    go_wp2
    exact HD.out _ rfl rfl
   have HU7 := hide (HUD.out.read G7.out R7.out)
   have HRN := hide (HRJ.out.step HBB.out (by omega) hw7)
   clear G7 R7 hw7 HNU HUD HUJ HRJ HS1
   refine hK.out _ _ ⟨fun _ => ⟨HU7.out.pc, HU7.out.pf⟩, trivial⟩ ?_
   clear hK K
   obtain ⟨v, hv⟩ : ∃ v, (numAt (B.drop pos)).1 = v := ⟨_, rfl⟩
   obtain ⟨sz, hsz⟩ : ∃ sz, (numAt (B.drop pos)).2.1 = sz := ⟨_, rfl⟩
   rw [hv, hsz] at HRN
   rw [hsz] at HU7
   rw [hv]
   clear hv hsz
   refine wpAnyL_one (i := 4) (o := ⟨some 21, .buildSlice 22 1 #[(0, .tmp 20)], 22, "pack.go:68", #[⟨3, .data⟩], none⟩) (by kernel_rfl) rfl (fun K hK => ?_)
   go_simp
   go_wp2_with fail
   have HU8 := hide (HU7.out.next (below_alloc1 w7 (.cells #[.int .u64 (v : Nat)] 28)))
   refine hK.out _ _ ⟨fun _ => ⟨HU8.out.pc, HU8.out.pf⟩, trivial⟩ ?_
   clear hK K
   obtain ⟨v8, w8, hrun, ho8, hg8, _⟩ := run_append_own (P := Tryz.prog) (w7.alloc (.cells #[.int .u64 (v : Nat)] 28)) R0 22 22 28 iU (.int .u64 0) 1 8 Tryz.underlying22 HIU.out.1 HIU.out.2.1 HIU.out.2.2.1 HIU.out.2.2.2 rfl (by decide) va j _ HU8.out.qa ⟨w7.heap.size, 0, none⟩ 1 1 [.int .u64 (v : Nat)] rfl (cell_one_new _ _ _) (by simp [Value.oneCell']) (by unfold maxLen; omega) (by omega) HU8.out.o5
   have hst := HU7.out.stepA ho8 hg8
   obtain ⟨ao8, cap8, hv8⟩ := own_val2 ho8
   have y0 := block_cell hst.2.1 0
   have yf := block_free hst.2.1 0
   have yl := block_lt hst.2.1
   simp at y0
   have HST := hide hst
   clear hst ho8 hg8 HU8 HU7
   refine wpAnyL_one (i := 5) (o := ⟨some 22, .call { callee := Callee.builtin .append, args := #[.tmp 18, .tmp 21], argTypes := #[22, 22] }, 22, "pack.go:68", #[⟨1, .data⟩, ⟨4, .data⟩, ⟨3, .chain⟩], none⟩) (by kernel_rfl) rfl (fun K hK => ?_)
   rw [if_pos (by kernel_rfl)]
   refine wp_append1 (.tmp 18) (.tmp 21) 22 rfl (v := va) (v' := v8) (w' := w8) rfl rfl hrun ?_
   simp only [Act.put, List.setIfInBounds_toArray]
   refine hK.out _ _ ⟨fun _ => ⟨HST.out.2.1, HST.out.2.2⟩, trivial⟩ ?_
   clear hK K hrun
   subst hv8
   have hS9 : SSg 7 (fun (w : World) => w.heap[pb]? = some (.cells #[va, .slice none 0 0, .int .i64 0, .int .i64 0, .int .i64 0, .int .i64 0, .int .i64 0, .int .i64 0, .slice none 0 0] 27 (0, 0)) ∧ w.heap[fb]? = some (.cells #[.pointer (some ⟨rp, 0, none⟩)] 185 (0, 0))) (fun _ => True) #[true, true, true, true, true, true, false, false] w8 := ⟨fun _ => ⟨HST.out.2.1, HST.out.2.2⟩, trivial⟩
   refine wpAnyL_take (i := 6) (oi := ⟨some 23, .fieldAddr 27 (.tmp 2) 0, 0, "pack.go:68", #[⟨0, .phase⟩, ⟨1, .phase⟩, ⟨2, .phase⟩, ⟨3, .phase⟩, ⟨4, .phase⟩, ⟨5, .phase⟩], none⟩) (v := .pointer (some ⟨pb, 0, none⟩)) rfl (by decide) (by kernel_rfl) (by kernel_rfl) (by kernel_rfl) (fun _ _ _ h => put_panicX (by decide) h) (Or.inl ⟨by rfl, fun w2 hSw => ?_⟩) hS9 (fun hS10 => ?_)
   ·go_simp
   simp only [Act.put, lsA, lsB, lsC]
   clear hS9
   clear hS10
   refine wpAnyL_one (i := 7) (o := ⟨none, .store 22 (.tmp 23) (.tmp 22), 0, "pack.go:68", #[⟨6, .data⟩, ⟨5, .data⟩, ⟨5, .chain⟩, ⟨0, .phase⟩, ⟨1, .phase⟩, ⟨2, .phase⟩, ⟨3, .phase⟩, ⟨4, .phase⟩, ⟨5, .phase⟩], none⟩) (by kernel_rfl) rfl (fun K hK => ?_)
   go_simp
   go_wp2_with fail
   refine hK.out _ _ ⟨fun h => (by cases (show true = false from h)), trivial⟩ ?_
   clear hK K
   refine wpAnyL_done (by kernel_rfl) ?_ _
   have HNX : Hid (Uw W R0 lim pb fb rp B (pos + sz) (.slice ao8 (j + 1) cap8) (.slice none 0 0) (.slice none 0 0) (j + 1) 0 0 (nums .u64 (setC q j (v : Nat)).C (j + 1)) [] [] (fun _ => 0) (w8.setCell ⟨pb, 0, none⟩ (.slice ao8 (j + 1) cap8))) := by
    rw [show nums .u64 (setC q j (v : Nat)).C (j + 1) = _ from nums_set .u64 q.C j (v : Nat)]
    exact HST.out.1
   clear HST y0 yf yl
   go_wp2
   go_roundw
   case rel => exact ⟨j + 1, _, _, setC q j (v : Nat), by omega, by go_num, hq, HNX, HRN⟩
   case measure => simp [intOf]; omega
  ·obtain rfl : nc = j := by omega
   have HRQ : Hid (X1 B q q.nc pos) := by rw [hq]; exact HRJ
   clear HRJ
   have z0 := block_cell HUJ.out.pf 0
   have zl := block_lt HUJ.out.pf
   simp at z0
   have HCT := hide (countX HUJ.out.rd HUJ.out.err (by have := HUJ.out.z; have := HUJ.out.o1; have := HUJ.out.o2; omega) 128 (by decide) (by decide))
   go_wp2_with fail
   refine HCT.out.mono ?_
   rintro x wc1 ⟨GC, hC⟩
   rcases hC with ⟨hwC, rfl, RC⟩ | ⟨hwC, gf, rfl, HCH⟩
   case inr =>
    clear z0 zl
    have HD := hide (unpacked_gaveX (W := W) (B := B) (g := gf) ((GC.block _ (block_lt HUJ.out.pc) (by have := HUJ.out.o2; simp; omega)).trans HUJ.out.pc) ((GC.block _ (block_lt HUJ.out.pe) (by have := HUJ.out.o2; simp; omega)).trans HUJ.out.pe) (HUJ.out.bel.grown GC HUJ.out.bel.size (fun x e => by have := HUJ.out.o1; have := HUJ.out.o2; cases e; omega)) HUJ.out.o1 (HRQ.out.cno hwC) HUJ.out.noS (fun s e => by cases e) HCH.out)
    clear HCH
    go_wp2
    exact HD.out _ rfl rfl
   have HUC := hide (HUJ.out.read GC RC.out)
   have HRC := hide (X2.start HRQ.out HBB.out hwC)
   obtain ⟨ns, hns⟩ : ∃ ns, (countAt (B.drop pos) 128).1 = ns := ⟨_, rfl⟩
   rw [hns] at HRC ⊢
   clear GC RC hwC HCT HUJ z0 zl hns HRQ
   go_upto_region 9 with fail
   have HUC2 : Hid (Uw W R0 lim pb fb rp B (pos + (countAt (B.drop pos) 128).2.1) va (.slice none 0 0) (.slice none 0 0) nc 0 0 (nums .u64 (setNs q ns).C nc) (nums .i64 (setNs q ns).S 0) [] (fun _ => 0) wc1) := HUC
   go_loopw [27] (fun i wr => ∃ (j pos : Nat) (vb : Value) (q : Pv), j ≤ ns ∧ i = .int .i64 (j : Nat) ∧ q.nc = nc ∧ q.ns = ns ∧ Hid (Uw W R0 lim pb fb rp B pos va vb (.slice none 0 0) nc j 0 (nums .u64 q.C nc) (nums .i64 q.S j) [] (fun _ => 0) wr) ∧ Hid (X2 B q j pos)) (fun i _ => ns - (intOf i).toNat)
   case atStart => exact ⟨0, _, _, setNs q ns, Nat.zero_le _, rfl, hq, rfl, HUC2, HRC⟩
   case round =>
    obtain ⟨j, pos, vb, q, hj, rfl, hq, hqs, HUJ, HRJ⟩ := hrel
    have hns := HRJ.out.r.ns
    rw [hqs] at hns
    clear HUC HUC2 HRC
    by_cases hlt : j < ns
    ·go_upto_region 10 with fail
     have HUD := hide (HUJ.out.next (Below.refl _ _).drew)
     have HS1 : Hid ((fun (w : World) => w.heap[pb]? = some (.cells #[va, vb, .int .i64 0, .int .i64 0, .int .i64 0, .int .i64 0, .int .i64 0, .int .i64 0, .slice none 0 0] 27 (0, 0)) ∧ w.heap[fb]? = some (.cells #[.pointer (some ⟨rp, 0, none⟩)] 185 (0, 0))) wr.drew) := ⟨HUD.out.pc, HUD.out.pf⟩
     have HNU := hide (octetX HUD.out.rd HUD.out.err (by have := HUD.out.z; have := HUD.out.o1; have := HUD.out.o2; omega))
     refine wp_region_L 8 (fun (w : World) => w.heap[pb]? = some (.cells #[va, vb, .int .i64 0, .int .i64 0, .int .i64 0, .int .i64 0, .int .i64 0, .int .i64 0, .slice none 0 0] 27 (0, 0)) ∧ w.heap[fb]? = some (.cells #[.pointer (some ⟨rp, 0, none⟩)] 185 (0, 0))) (fun _ => True) (by kernel_rfl) HS1.out trivial (fun hS0 => ?_)
     refine wpAnyL_take (i := 0) (oi := ⟨some 29, .fieldAddr 27 (.tmp 2) 1, 0, "pack.go:71", #[], none⟩) (v := .pointer (some ⟨pb, 1, none⟩)) rfl (by decide) (by kernel_rfl) (by kernel_rfl) (by kernel_rfl) (fun _ _ _ h => put_panicX (by decide) h) (Or.inl ⟨by rfl, fun w2 hSw => ?_⟩) hS0 (fun hS1 => ?_)
     ·go_simp
     simp only [Act.put, lsA, lsB, lsC]
     clear hS0
     refine wpAnyL_take1 (i := 1) (oi := ⟨some 30, .load 23 (.tmp 29), 23, "pack.go:71", #[⟨0, .data⟩], none⟩) (v := vb) rfl (by decide) (by kernel_rfl) (by kernel_rfl) (by kernel_rfl) (fun _ _ _ h => put_panicX (by decide) h) (Or.inl ⟨by rfl, fun w2 hSw => ?_⟩) hS1 (by kernel_rfl) rfl (by kernel_rfl) (fun hS2 => ?_)
     ·obtain ⟨hbx, hfx⟩ := hSw
      have k0 := block_cell hbx 1
      have kl := block_lt hbx
      simp at k0
      go_simp
     simp only [Act.put, lsA, lsB, lsC]
     clear hS1
     refine wpAnyL_take1 (i := 2) (oi := ⟨some 31, .load 185 (.tmp 4), 185, "pack.go:71", #[], none⟩) (v := .agg #[.pointer (some ⟨rp, 0, none⟩)]) rfl (by decide) (by kernel_rfl) (by kernel_rfl) (by kernel_rfl) (fun _ _ _ h => put_panicX (by decide) h) (Or.inl ⟨by rfl, fun w2 hSw => ?_⟩) hS2 (by kernel_rfl) rfl (by kernel_rfl) (fun hS3 => ?_)
     ·obtain ⟨hbx, hfx⟩ := hSw
      have k0 := block_cell hfx 0
      have kl := block_lt hfx
      simp at k0
      go_simp
     simp only [Act.put, lsA, lsB, lsC]
     clear hS2
     clear hS3
     refine wpAnyL_one (i := 3) (o := ⟨some 32, .call { callee := Callee.value (.func 104), args := #[.tmp 31], argTypes := #[185] }, 5, "pack.go:71", #[⟨2, .data⟩], none⟩) (by kernel_rfl) rfl (fun K hK => ?_)
     go_simp
     go_wp2_with fail
     refine HNU.out.mono ?_
     rintro x w7 ⟨G7, h7⟩
     rcases h7 with ⟨hw7, rfl, R7⟩ | ⟨hw7, gf, rfl, HCH⟩
     case inr =>
      have HD := hide (unpacked_gaveX (W := W) (B := B) (g := gf) ((G7.out.block _ (block_lt HUD.out.pc) (by have := HUD.out.o2; simp; omega)).trans HUD.out.pc) ((G7.out.block _ (block_lt HUD.out.pe) (by have := HUD.out.o2; simp; omega)).trans HUD.out.pe) (HUD.out.bel.grown G7.out HUD.out.bel.size (fun x e => by have := HUD.out.o1; have := HUD.out.o2; cases e; omega)) HUD.out.o1 (HRJ.out.fail (by omega) hw7) HUD.out.noS (fun s e => by cases e) HCH.out)
      clear HCH
      go_wp2
      exact HD.out _ rfl rfl
     have HU7 := hide (HUD.out.read G7.out R7.out)
     have HRN := hide (HRJ.out.step HBB.out hw7)
     clear G7 R7 hw7 HNU HUD HUJ HRJ HS1
     refine hK.out _ _ ⟨fun _ => ⟨HU7.out.pc, HU7.out.pf⟩, trivial⟩ ?_
     clear hK K
     obtain ⟨v, hv⟩ : ∃ v, hi (aheadV (B.drop pos) 1) = v := ⟨_, rfl⟩
     rw [hv] at HRN
     rw [hv]
     clear hv
     have hv6 : v < 256 := by
      have := HRN.out.r.S j (by omega)
      have e : (setS q j (v : Nat)).S j = (v : Nat) := by show (if j = j then _ else _) = _; rw [if_pos rfl]
      rw [e] at this
      omega
     have hcu : IntKind.i64.wrap ((v : Nat) : Int) = ((v : Nat) : Int) := by simp [IntKind.wrap, IntKind.bits, IntKind.signed]; omega
     refine wpAnyL_one (i := 4) (o := ⟨some 33, .convert 5 3 (.tmp 32), 3, "pack.go:71", #[⟨3, .data⟩], none⟩) (by kernel_rfl) rfl (fun K hK => ?_)
     go_simp
     go_wp2_with fail
     refine hK.out _ _ ⟨fun _ => ⟨HU7.out.pc, HU7.out.pf⟩, trivial⟩ ?_
     clear hK K hcu
     refine wpAnyL_one (i := 5) (o := ⟨some 34, .buildSlice 23 1 #[(0, .tmp 33)], 23, "pack.go:71", #[⟨4, .data⟩], none⟩) (by kernel_rfl) rfl (fun K hK => ?_)
     go_simp
     go_wp2_with fail
     have HU8 := hide (HU7.out.next (below_alloc1 w7 (.cells #[.int .i64 (v : Nat)] 3)))
     refine hK.out _ _ ⟨fun _ => ⟨HU8.out.pc, HU8.out.pf⟩, trivial⟩ ?_
     clear hK K
     obtain ⟨v8, w8, hrun, ho8, hg8, _⟩ := run_append_own (P := Tryz.prog) (w7.alloc (.cells #[.int .i64 (v : Nat)] 3)) R0 23 23 3 iI (.int .i64 0) 1 8 Tryz.underlying23 HII.out.1 HII.out.2.1 HII.out.2.2.1 HII.out.2.2.2 rfl (by decide) vb j _ HU8.out.qb ⟨w7.heap.size, 0, none⟩ 1 1 [.int .i64 (v : Nat)] rfl (cell_one_new _ _ _) (by simp [Value.oneCell']) (by unfold maxLen; omega) (by omega) HU8.out.o5
     have hst := HU7.out.stepB ho8 hg8
     obtain ⟨ao8, cap8, hv8⟩ := own_val2 ho8
     have y0 := block_cell hst.2.1 1
     have yf := block_free hst.2.1 1
     have yl := block_lt hst.2.1
     simp at y0
     have HST := hide hst
     clear hst ho8 hg8 HU8 HU7
     refine wpAnyL_one (i := 6) (o := ⟨some 35, .call { callee := Callee.builtin .append, args := #[.tmp 30, .tmp 34], argTypes := #[23, 23] }, 23, "pack.go:71", #[⟨1, .data⟩, ⟨5, .data⟩, ⟨3, .chain⟩], none⟩) (by kernel_rfl) rfl (fun K hK => ?_)
     rw [if_pos (by kernel_rfl)]
     refine wp_append1 (.tmp 30) (.tmp 34) 23 rfl (v := vb) (v' := v8) (w' := w8) rfl rfl hrun ?_
     simp only [Act.put, List.setIfInBounds_toArray]
     refine hK.out _ _ ⟨fun _ => ⟨HST.out.2.1, HST.out.2.2⟩, trivial⟩ ?_
     clear hK K hrun
     subst hv8
     have hS9 : SSg 8 (fun (w : World) => w.heap[pb]? = some (.cells #[va, vb, .int .i64 0, .int .i64 0, .int .i64 0, .int .i64 0, .int .i64 0, .int .i64 0, .slice none 0 0] 27 (0, 0)) ∧ w.heap[fb]? = some (.cells #[.pointer (some ⟨rp, 0, none⟩)] 185 (0, 0))) (fun _ => True) #[true, true, true, true, true, true, true, false, false] w8 := ⟨fun _ => ⟨HST.out.2.1, HST.out.2.2⟩, trivial⟩
     refine wpAnyL_take (i := 7) (oi := ⟨some 36, .fieldAddr 27 (.tmp 2) 1, 0, "pack.go:71", #[⟨0, .phase⟩, ⟨1, .phase⟩, ⟨2, .phase⟩, ⟨3, .phase⟩, ⟨4, .phase⟩, ⟨5, .phase⟩, ⟨6, .phase⟩], none⟩) (v := .pointer (some ⟨pb, 1, none⟩)) rfl (by decide) (by kernel_rfl) (by kernel_rfl) (by kernel_rfl) (fun _ _ _ h => put_panicX (by decide) h) (Or.inl ⟨by rfl, fun w2 hSw => ?_⟩) hS9 (fun hS10 => ?_)
     ·go_simp
     simp only [Act.put, lsA, lsB, lsC]
     clear hS9
     clear hS10
     refine wpAnyL_one (i := 8) (o := ⟨none, .store 23 (.tmp 36) (.tmp 35), 0, "pack.go:71", #[⟨7, .data⟩, ⟨6, .data⟩, ⟨6, .chain⟩, ⟨0, .phase⟩, ⟨1, .phase⟩, ⟨2, .phase⟩, ⟨3, .phase⟩, ⟨4, .phase⟩, ⟨5, .phase⟩, ⟨6, .phase⟩], none⟩) (by kernel_rfl) rfl (fun K hK => ?_)
     go_simp
     go_wp2_with fail
     refine hK.out _ _ ⟨fun h => (by cases (show true = false from h)), trivial⟩ ?_
     clear hK K
     refine wpAnyL_done (by kernel_rfl) ?_ _
     have HNX : Hid (Uw W R0 lim pb fb rp B (pos + 1) va (.slice ao8 (j + 1) cap8) (.slice none 0 0) nc (j + 1) 0 (nums .u64 (setS q j (v : Nat)).C nc) (nums .i64 (setS q j (v : Nat)).S (j + 1)) [] (fun _ => 0) (w8.setCell ⟨pb, 1, none⟩ (.slice ao8 (j + 1) cap8))) := by
      rw [show nums .i64 (setS q j (v : Nat)).S (j + 1) = _ from nums_set .i64 q.S j (v : Nat)]
      exact HST.out.1
     clear HST y0 yf yl
     go_wp2
     go_roundw
     case rel => exact ⟨j + 1, _, _, setS q j (v : Nat), by omega, by go_num, hq, hqs, HNX, HRN⟩
     case measure => simp [intOf]; omega
    ·obtain rfl : ns = j := by omega
     have HRQ : Hid (X2 B q q.ns pos) := by rw [hqs]; exact HRJ
     have HR3 := hide (X3.start HRQ.out)
     clear HRJ HRQ
     go_upto_region 13 with fail
     go_loopw [38] (fun i wr => ∃ (j pos : Nat) (en : Nat → Int) (q : Pv), j ≤ 6 ∧ i = .int .i64 (j : Nat) ∧ q.nc = nc ∧ q.ns = ns ∧ Hid (∀ e, e < j → en e = q.en e) ∧ Hid (Uw W R0 lim pb fb rp B pos va vb (.slice none 0 0) nc ns 0 (nums .u64 q.C nc) (nums .i64 q.S ns) [] en wr) ∧ Hid (X3 B q j pos)) (fun i _ => 6 - (intOf i).toNat)
     case atStart => exact ⟨0, _, _, q, Nat.zero_le _, rfl, hq, hqs, fun e he => absurd he (Nat.not_lt_zero e), HUJ, HR3⟩
     case round =>
      obtain ⟨j, pos, en, q, hj, rfl, hq, hqs, HEN, HUK, HRK⟩ := hrel
      clear HUJ HR3
      by_cases hlt : j < 6
      ·have HNP : Hid (Calls Tryz.prog 105 #[.agg #[.pointer (some ⟨rp, 0, none⟩)], .int .u64 1024, .int .i64 82] wr (RdX lim rp B pos (numAt (B.drop pos)).2.1 (plW 1024 (numAt (B.drop pos))) (fzP pos 82 (numAt (B.drop pos))) (.int .i64 ((numAt (B.drop pos)).1 : Nat)) wr)) := placeX HUK.out.rd HUK.out.err (by have := HUK.out.z; have := HUK.out.o1; have := HUK.out.o2; omega) 1024 (by decide) 82
       have z0 := block_cell HUK.out.pf 0
       have zl := block_lt HUK.out.pf
       simp at z0
       have HFL : Hid (plW 1024 (numAt (B.drop pos)) ≠ 0 → upR B = .error (fzP pos 82 (numAt (B.drop pos)))) := fun hw => HRK.out.fail hlt hw
       have HST3 : Hid (plW 1024 (numAt (B.drop pos)) = 0 → X3 B (setE q j (((numAt (B.drop pos)).1 : Nat) - 1 : Int)) (j + 1) (pos + (numAt (B.drop pos)).2.1)) := fun hw => HRK.out.step HBB.out hlt hw
       have HBD : Hid (plW 1024 (numAt (B.drop pos)) = 0 → (numAt (B.drop pos)).1 ≤ 1024) := fun hw => (plW_zero hw).2
       have HAG : Hid (∀ x : Int, ∀ e, e < j + 1 → (fun i => if i = j then x else en i) e = (setE q j x).en e) := by
        have : ∀ x : Int, ∀ e, e < j + 1 → (fun i => if i = j then x else en i) e = (setE q j x).en e := by
         intro x e he
         show (if e = j then x else en e) = (if e = j then x else q.en e)
         by_cases ee : e = j
         ·rw [if_pos ee, if_pos ee]
         ·rw [if_neg ee, if_neg ee]
          exact HEN.out e (by omega)
        exact this
       obtain ⟨v, hv⟩ : ∃ v, (numAt (B.drop pos)).1 = v := ⟨_, rfl⟩
       obtain ⟨sz, hsz⟩ : ∃ sz, (numAt (B.drop pos)).2.1 = sz := ⟨_, rfl⟩
       obtain ⟨why, hwy⟩ : ∃ why, plW 1024 (numAt (B.drop pos)) = why := ⟨_, rfl⟩
       rw [hv, hsz, hwy] at HNP
       rw [hv, hsz, hwy] at HST3
       rw [hwy] at HFL
       rw [hv, hwy] at HBD
       clear hv hsz hwy HEN HRK
       have hj6 : j = 0 ∨ j = 1 ∨ j = 2 ∨ j = 3 ∨ j = 4 ∨ j = 5 := by omega
       clear hlt hj
       rcases hj6 with rfl | rfl | rfl | rfl | rfl | rfl
       all_goals
        go_upto_region 15 with fail
        go_wp2_with fail
        refine HNP.out.mono ?_
        rintro x w7 ⟨G7, h7⟩
        rcases h7 with ⟨hw7, rfl, R7⟩ | ⟨hw7, gf, rfl, HCH⟩
        case inr =>
         have HD := hide (unpacked_gaveX (W := W) (B := B) (g := gf) ((G7.out.block _ (block_lt HUK.out.pc) (by have := HUK.out.o2; simp; omega)).trans HUK.out.pc) ((G7.out.block _ (block_lt HUK.out.pe) (by have := HUK.out.o2; simp; omega)).trans HUK.out.pe) (HUK.out.bel.grown G7.out HUK.out.bel.size (fun x e => by have := HUK.out.o1; have := HUK.out.o2; cases e; omega)) HUK.out.o1 (HFL.out hw7) HUK.out.noS (fun s e => by cases e) HCH.out)
         clear HCH
         go_wp2
         exact HD.out _ rfl rfl
        have HU7 := hide (HUK.out.read G7.out R7.out)
        have HRN := hide (HST3.out hw7)
        have hbd := HBD.out hw7
        have hwr : IntKind.i64.wrap (((v : Nat) : Int) - 1) = ((v : Nat) : Int) - 1 := by simp [IntKind.wrap, IntKind.bits, IntKind.signed]; omega
        clear G7 R7 hw7 HNP HFL HST3 HBD HUK z0 zl
        have y2 := block_cell HU7.out.pc 2
        have y3 := block_cell HU7.out.pc 3
        have y4 := block_cell HU7.out.pc 4
        have y5 := block_cell HU7.out.pc 5
        have y6 := block_cell HU7.out.pc 6
        have y7 := block_cell HU7.out.pc 7
        have f2 := block_free HU7.out.pc 2
        have f3 := block_free HU7.out.pc 3
        have f4 := block_free HU7.out.pc 4
        have f5 := block_free HU7.out.pc 5
        have f6 := block_free HU7.out.pc 6
        have f7 := block_free HU7.out.pc 7
        have yl := block_lt HU7.out.pc
        simp at y2 y3 y4 y5 y6 y7
        go_upto_region 16 with fail
        clear y2 y3 y4 y5 y6 y7 f2 f3 f4 f5 f6 f7 yl hwr
       ·have HUN := hide (HU7.out.setE (e := 0) (by decide) (((v : Nat) : Int) - 1))
        clear HU7
        go_wp2
        go_roundw
        case rel => exact ⟨0 + 1, _, _, setE q 0 (((v : Nat) : Int) - 1), by omega, by go_num, hq, hqs, hide (HAG.out _), HUN, HRN⟩
        case measure => simp [intOf]
       ·have HUN := hide (HU7.out.setE (e := 1) (by decide) (((v : Nat) : Int) - 1))
        clear HU7
        go_wp2
        go_roundw
        case rel => exact ⟨1 + 1, _, _, setE q 1 (((v : Nat) : Int) - 1), by omega, by go_num, hq, hqs, hide (HAG.out _), HUN, HRN⟩
        case measure => simp [intOf]
       ·have HUN := hide (HU7.out.setE (e := 2) (by decide) (((v : Nat) : Int) - 1))
        clear HU7
        go_wp2
        go_roundw
        case rel => exact ⟨2 + 1, _, _, setE q 2 (((v : Nat) : Int) - 1), by omega, by go_num, hq, hqs, hide (HAG.out _), HUN, HRN⟩
        case measure => simp [intOf]
       ·have HUN := hide (HU7.out.setE (e := 3) (by decide) (((v : Nat) : Int) - 1))
        clear HU7
        go_wp2
        go_roundw
        case rel => exact ⟨3 + 1, _, _, setE q 3 (((v : Nat) : Int) - 1), by omega, by go_num, hq, hqs, hide (HAG.out _), HUN, HRN⟩
        case measure => simp [intOf]
       ·have HUN := hide (HU7.out.setE (e := 4) (by decide) (((v : Nat) : Int) - 1))
        clear HU7
        go_wp2
        go_roundw
        case rel => exact ⟨4 + 1, _, _, setE q 4 (((v : Nat) : Int) - 1), by omega, by go_num, hq, hqs, hide (HAG.out _), HUN, HRN⟩
        case measure => simp [intOf]
       ·have HUN := hide (HU7.out.setE (e := 5) (by decide) (((v : Nat) : Int) - 1))
        clear HU7
        go_wp2
        go_roundw
        case rel => exact ⟨5 + 1, _, _, setE q 5 (((v : Nat) : Int) - 1), by omega, by go_num, hq, hqs, hide (HAG.out _), HUN, HRN⟩
        case measure => simp [intOf]
      ·obtain rfl : 6 = j := by omega
       have HRQ := hide HRK.out
       clear HRK
       have z0 := block_cell HUK.out.pf 0
       have zl := block_lt HUK.out.pf
       simp at z0
       have HCT := hide (countX HUK.out.rd HUK.out.err (by have := HUK.out.z; have := HUK.out.o1; have := HUK.out.o2; omega) 1024 (by decide) (by decide))
       go_wp2_with fail
       refine HCT.out.mono ?_
       rintro x wc2 ⟨GC, hC⟩
       rcases hC with ⟨hwC, rfl, RC⟩ | ⟨hwC, gf, rfl, HCH⟩
       case inr =>
        clear z0 zl
        have HD := hide (unpacked_gaveX (W := W) (B := B) (g := gf) ((GC.block _ (block_lt HUK.out.pc) (by have := HUK.out.o2; simp; omega)).trans HUK.out.pc) ((GC.block _ (block_lt HUK.out.pe) (by have := HUK.out.o2; simp; omega)).trans HUK.out.pe) (HUK.out.bel.grown GC HUK.out.bel.size (fun x e => by have := HUK.out.o1; have := HUK.out.o2; cases e; omega)) HUK.out.o1 (HRQ.out.cno hwC) HUK.out.noS (fun s e => by cases e) HCH.out)
        clear HCH
        go_wp2
        exact HD.out _ rfl rfl
       have HUC := hide (HUK.out.read GC RC.out)
       have HRC := hide (X4.start HRQ.out HBB.out hwC)
       obtain ⟨nm, hnm⟩ : ∃ nm, (countAt (B.drop pos) 1024).1 = nm := ⟨_, rfl⟩
       rw [hnm] at HRC ⊢
       clear GC RC hwC HCT HUK z0 zl hnm HRQ
       go_upto_region 18 with fail
       have HUC2 : Hid (Uw W R0 lim pb fb rp B (pos + (countAt (B.drop pos) 1024).2.1) va vb (.slice none 0 0) nc ns 0 (nums .u64 (setN q nm).C nc) (nums .i64 (setN q nm).S ns) (nums2 (setN q nm).op (setN q nm).arg 0) en wc2) := HUC
       go_loopw [50] (fun i wr => ∃ (j pos : Nat) (vc : Value) (q : Pv), j ≤ nm ∧ i = .int .i64 (j : Nat) ∧ q.nc = nc ∧ q.ns = ns ∧ q.n = nm ∧ Hid (∀ e, e < 6 → en e = q.en e) ∧ Hid (Uw W R0 lim pb fb rp B pos va vb vc nc ns j (nums .u64 (q).C nc) (nums .i64 (q).S ns) (nums2 (q).op (q).arg j) en wr) ∧ Hid (X4 B q j pos)) (fun i _ => nm - (intOf i).toNat)
       case atStart => exact ⟨0, _, _, setN q nm, Nat.zero_le _, rfl, hq, hqs, rfl, HEN, HUC2, HRC⟩
       case round =>
        obtain ⟨j, pos, vc, q, hj, rfl, hq, hqs, hqn, HEN, HUJ, HRJ⟩ := hrel
        have hnm := HRJ.out.r.n
        rw [hqn] at hnm
        clear HUC HUC2 HRC
        by_cases hlt : j < nm
        ·go_upto_region 19 with fail
         have HUD := hide (HUJ.out.next (Below.refl _ _).drew)
         have HS1 : Hid ((fun (w : World) => w.heap[pb]? = some (.cells #[va, vb, .int .i64 (en 0), .int .i64 (en 1), .int .i64 (en 2), .int .i64 (en 3), .int .i64 (en 4), .int .i64 (en 5), vc] 27 (0, 0)) ∧ w.heap[fb]? = some (.cells #[.pointer (some ⟨rp, 0, none⟩)] 185 (0, 0))) wr.drew) := ⟨HUD.out.pc, HUD.out.pf⟩
         have HNU := hide (insX HUD.out.rd HUD.out.err HUD.out.tab (by have := HUD.out.z; have := HUD.out.o1; have := HUD.out.o2; omega))
         refine wp_region_L 7 (fun (w : World) => w.heap[pb]? = some (.cells #[va, vb, .int .i64 (en 0), .int .i64 (en 1), .int .i64 (en 2), .int .i64 (en 3), .int .i64 (en 4), .int .i64 (en 5), vc] 27 (0, 0)) ∧ w.heap[fb]? = some (.cells #[.pointer (some ⟨rp, 0, none⟩)] 185 (0, 0))) (fun _ => True) (by kernel_rfl) HS1.out trivial (fun hS0 => ?_)
         refine wpAnyL_take (i := 0) (oi := ⟨some 52, .fieldAddr 27 (.tmp 2) 3, 0, "pack.go:77", #[], none⟩) (v := .pointer (some ⟨pb, 8, none⟩)) rfl (by decide) (by kernel_rfl) (by kernel_rfl) (by kernel_rfl) (fun _ _ _ h => put_panicX (by decide) h) (Or.inl ⟨by rfl, fun w2 hSw => ?_⟩) hS0 (fun hS1 => ?_)
         ·go_simp
         simp only [Act.put, lsA, lsB, lsC]
         clear hS0
         refine wpAnyL_take1 (i := 1) (oi := ⟨some 53, .load 25 (.tmp 52), 25, "pack.go:77", #[⟨0, .data⟩], none⟩) (v := vc) rfl (by decide) (by kernel_rfl) (by kernel_rfl) (by kernel_rfl) (fun _ _ _ h => put_panicX (by decide) h) (Or.inl ⟨by rfl, fun w2 hSw => ?_⟩) hS1 (by kernel_rfl) rfl (by kernel_rfl) (fun hS2 => ?_)
         ·obtain ⟨hbx, hfx⟩ := hSw
          have k0 := block_cell hbx 8
          have kl := block_lt hbx
          simp at k0
          go_simp
         simp only [Act.put, lsA, lsB, lsC]
         clear hS1
         refine wpAnyL_take1 (i := 2) (oi := ⟨some 54, .load 185 (.tmp 4), 185, "pack.go:77", #[], none⟩) (v := .agg #[.pointer (some ⟨rp, 0, none⟩)]) rfl (by decide) (by kernel_rfl) (by kernel_rfl) (by kernel_rfl) (fun _ _ _ h => put_panicX (by decide) h) (Or.inl ⟨by rfl, fun w2 hSw => ?_⟩) hS2 (by kernel_rfl) rfl (by kernel_rfl) (fun hS3 => ?_)
         ·obtain ⟨hbx, hfx⟩ := hSw
          have k0 := block_cell hfx 0
          have kl := block_lt hfx
          simp at k0
          go_simp
         simp only [Act.put, lsA, lsB, lsC]
         clear hS2
         clear hS3
         refine wpAnyL_one (i := 3) (o := ⟨some 55, .call { callee := Callee.value (.func 106), args := #[.tmp 54], argTypes := #[185] }, 42, "pack.go:77", #[⟨2, .data⟩], none⟩) (by kernel_rfl) rfl (fun K hK => ?_)
         go_simp
         go_wp2_with fail
         refine HNU.out.mono ?_
         rintro x w7 ⟨G7, h7⟩
         rcases h7 with ⟨hw7, rfl, R7⟩ | ⟨hw7, gf, rfl, HCH⟩
         case inr =>
          have HD := hide (unpacked_gaveX (W := W) (B := B) (g := gf) ((G7.out.block _ (block_lt HUD.out.pc) (by have := HUD.out.o2; simp; omega)).trans HUD.out.pc) ((G7.out.block _ (block_lt HUD.out.pe) (by have := HUD.out.o2; simp; omega)).trans HUD.out.pe) (HUD.out.bel.grown G7.out HUD.out.bel.size (fun x e => by have := HUD.out.o1; have := HUD.out.o2; cases e; omega)) HUD.out.o1 (HRJ.out.fail (by omega) hw7) HUD.out.noS (fun s e => by cases e) HCH.out)
          clear HCH
          go_wp2
          exact HD.out _ rfl rfl
         have HU7 := hide (HUD.out.read G7.out R7.out)
         have HRN := hide (HRJ.out.step HBB.out (by omega) hw7)
         clear G7 R7 hw7 HNU HUD HUJ HRJ HS1
         refine hK.out _ _ ⟨fun _ => ⟨HU7.out.pc, HU7.out.pf⟩, trivial⟩ ?_
         clear hK K
         obtain ⟨o, ho⟩ : ∃ o, (inR (B.drop pos)).1 = o := ⟨_, rfl⟩
         obtain ⟨a, ha⟩ : ∃ a, (inR (B.drop pos)).2.1 = a := ⟨_, rfl⟩
         obtain ⟨sz, hsz⟩ : ∃ sz, (inR (B.drop pos)).2.2.1 = sz := ⟨_, rfl⟩
         rw [ho, ha, hsz] at HRN
         rw [hsz] at HU7
         rw [ho, ha]
         clear ho ha hsz
         refine wpAnyL_one (i := 4) (o := ⟨some 56, .buildSlice 25 1 #[(0, .tmp 55)], 25, "pack.go:77", #[⟨3, .data⟩], none⟩) (by kernel_rfl) rfl (fun K hK => ?_)
         go_simp
         go_wp2_with fail
         have HU8 := hide (HU7.out.next (below_alloc1 w7 (.cells #[.int .i64 (o : Nat), .int .i64 (a : Nat)] 42)))
         refine hK.out _ _ ⟨fun _ => ⟨HU8.out.pc, HU8.out.pf⟩, trivial⟩ ?_
         clear hK K
         obtain ⟨v8, w8, hrun, ho8, hg8, _⟩ := run_append_own (P := Tryz.prog) (w7.alloc (.cells #[.int .i64 (o : Nat), .int .i64 (a : Nat)] 42)) R0 25 25 42 iN (.agg #[.int .i64 0, .int .i64 0]) 2 16 Tryz.underlying25 HIN.out.1 HIN.out.2.1 HIN.out.2.2.1 HIN.out.2.2.2 rfl (by decide) vc j _ HU8.out.qc ⟨w7.heap.size, 0, none⟩ 1 1 [.int .i64 (o : Nat), .int .i64 (a : Nat)] rfl (cell_two_new _ _ _ _) (by simp [Value.oneCell']) (by unfold maxLen; omega) (by omega) HU8.out.o5
         have hst := HU7.out.stepC ho8 hg8
         obtain ⟨ao8, cap8, hv8⟩ := own_val2 ho8
         have y0 := block_cell hst.2.1 8
         have yf := block_free hst.2.1 8
         have yl := block_lt hst.2.1
         simp at y0
         have HST := hide hst
         clear hst ho8 hg8 HU8 HU7
         refine wpAnyL_one (i := 5) (o := ⟨some 57, .call { callee := Callee.builtin .append, args := #[.tmp 53, .tmp 56], argTypes := #[25, 25] }, 25, "pack.go:77", #[⟨1, .data⟩, ⟨4, .data⟩, ⟨3, .chain⟩], none⟩) (by kernel_rfl) rfl (fun K hK => ?_)
         rw [if_pos (by kernel_rfl)]
         refine wp_append1 (.tmp 53) (.tmp 56) 25 rfl (v := vc) (v' := v8) (w' := w8) rfl rfl hrun ?_
         simp only [Act.put, List.setIfInBounds_toArray]
         refine hK.out _ _ ⟨fun _ => ⟨HST.out.2.1, HST.out.2.2⟩, trivial⟩ ?_
         clear hK K hrun
         subst hv8
         have hS9 : SSg 7 (fun (w : World) => w.heap[pb]? = some (.cells #[va, vb, .int .i64 (en 0), .int .i64 (en 1), .int .i64 (en 2), .int .i64 (en 3), .int .i64 (en 4), .int .i64 (en 5), vc] 27 (0, 0)) ∧ w.heap[fb]? = some (.cells #[.pointer (some ⟨rp, 0, none⟩)] 185 (0, 0))) (fun _ => True) #[true, true, true, true, true, true, false, false] w8 := ⟨fun _ => ⟨HST.out.2.1, HST.out.2.2⟩, trivial⟩
         refine wpAnyL_take (i := 6) (oi := ⟨some 58, .fieldAddr 27 (.tmp 2) 3, 0, "pack.go:77", #[⟨0, .phase⟩, ⟨1, .phase⟩, ⟨2, .phase⟩, ⟨3, .phase⟩, ⟨4, .phase⟩, ⟨5, .phase⟩], none⟩) (v := .pointer (some ⟨pb, 8, none⟩)) rfl (by decide) (by kernel_rfl) (by kernel_rfl) (by kernel_rfl) (fun _ _ _ h => put_panicX (by decide) h) (Or.inl ⟨by rfl, fun w2 hSw => ?_⟩) hS9 (fun hS10 => ?_)
         ·go_simp
         simp only [Act.put, lsA, lsB, lsC]
         clear hS9
         clear hS10
         refine wpAnyL_one (i := 7) (o := ⟨none, .store 25 (.tmp 58) (.tmp 57), 0, "pack.go:77", #[⟨6, .data⟩, ⟨5, .data⟩, ⟨5, .chain⟩, ⟨0, .phase⟩, ⟨1, .phase⟩, ⟨2, .phase⟩, ⟨3, .phase⟩, ⟨4, .phase⟩, ⟨5, .phase⟩], none⟩) (by kernel_rfl) rfl (fun K hK => ?_)
         go_simp
         go_wp2_with fail
         refine hK.out _ _ ⟨fun h => (by cases (show true = false from h)), trivial⟩ ?_
         clear hK K
         refine wpAnyL_done (by kernel_rfl) ?_ _
         have HNX : Hid (Uw W R0 lim pb fb rp B (pos + sz) va vb (.slice ao8 (j + 1) cap8) nc ns (j + 1) (nums .u64 (setI q j (o : Nat) (a : Nat)).C nc) (nums .i64 (setI q j (o : Nat) (a : Nat)).S ns) (nums2 (setI q j (o : Nat) (a : Nat)).op (setI q j (o : Nat) (a : Nat)).arg (j + 1)) en (w8.setCell ⟨pb, 8, none⟩ (.slice ao8 (j + 1) cap8))) := by
          rw [show nums2 (setI q j (o : Nat) (a : Nat)).op (setI q j (o : Nat) (a : Nat)).arg (j + 1) = _ from nums2_set q.op q.arg j (o : Nat) (a : Nat)]
          exact HST.out.1
         clear HST y0 yf yl
         go_wp2
         go_roundw
         case rel => exact ⟨j + 1, _, _, setI q j (o : Nat) (a : Nat), by omega, by go_num, hq, hqs, hqn, HEN, HNX, HRN⟩
         case measure => simp [intOf]; omega
        ·obtain rfl : nm = j := by omega
         have HRQ : Hid (X4 B q q.n pos) := by rw [hqn]; exact HRJ
         have hle : pos ≤ B.length := by
          have := HRJ.out.r.pr.length_le
          have := HRJ.out.r.ps
          omega
         clear HRJ
         have z0 := block_cell HUJ.out.pf 0
         have zl := block_lt HUJ.out.pf
         simp at z0
         have HEP := hide (rEndP (po := some ⟨rp, 0, none⟩) (.inr ⟨rp, rfl, HUJ.out.rd⟩) (fun _ => rfl))
         have hec : (rsU B pos).endC = if pos < B.length then 28 else 0 := rfl
         rw [hec] at HEP
         clear hec
         go_wp2_with fail
         refine HEP.out.mono ?_
         rintro x w7 ⟨vE, rfl, hE, b7⟩
         have HU7 := hide (HUJ.out.next b7)
         clear HEP HUJ b7 z0 zl
         by_cases he : pos < B.length
         ·rw [if_pos he] at hE
          have hf : IsFault w7 vE (rsU B pos).endA 28 := by
           rcases hE with ⟨_, e, _⟩ | ⟨e, _⟩
           ·cases e
           ·exact e
          have hea : (rsU B pos).endA = (pos : Int) := by unfold RS.endA; rw [if_pos ⟨rfl, rfl⟩, if_pos (show (rsU B pos).pos < (rsU B pos).B.length from he)]; rfl
          rw [hea] at hf
          clear hea
          have HBH := hide (behindX HU7.out.err hf)
          have HNO := hide (HRQ.out.more he)
          obtain ⟨gf, rfl, -⟩ := hf
          clear hE HRQ
          go_wp2_with fail
          refine HBH.out.mono ?_
          rintro x w8 ⟨g3, rfl, G3⟩
          have HU8 := hide (HU7.out.next G3.out.2)
          have HD := hide (unpacked_gaveX (W := W) (B := B) (g := g3) HU8.out.pc HU8.out.pe HU8.out.bel HU8.out.o1 HNO.out HU8.out.noS (fun s e => by cases e) G3.out.1)
          clear G3 HBH HU7 HU8 HNO
          go_wp2
          exact HD.out _ rfl rfl
         ·rw [if_neg he] at hE
          obtain rfl : vE = .nilIface := by
           rcases hE with ⟨e, _⟩ | ⟨_, e⟩
           ·exact e
           ·exact absurd rfl e
          have HQ := hide (HRQ.out.done he (by omega))
          obtain ⟨gq, rfl, rfl, rfl, hpo, hbw, k1, k2⟩ := unpacked_end hq hqs hqn HQ.out.2 HU7.out _ rfl
          have HPO := hide (And.intro hpo (And.intro hbw (And.intro k1 k2)))
          rw [hq, hqs, hqn] at HPO
          clear hE HRQ hpo hbw k1 k2
          have y0 := block_cell HU7.out.pc 0
          have y1 := block_cell HU7.out.pc 1
          have y2 := block_cell HU7.out.pc 2
          have y3 := block_cell HU7.out.pc 3
          have y4 := block_cell HU7.out.pc 4
          have y5 := block_cell HU7.out.pc 5
          have y6 := block_cell HU7.out.pc 6
          have y7 := block_cell HU7.out.pc 7
          have y8 := block_cell HU7.out.pc 8
          have f0 := block_free HU7.out.pc 0
          have f1 := block_free HU7.out.pc 1
          have f2 := block_free HU7.out.pc 2
          have f3 := block_free HU7.out.pc 3
          have f4 := block_free HU7.out.pc 4
          have f5 := block_free HU7.out.pc 5
          have f6 := block_free HU7.out.pc 6
          have f7 := block_free HU7.out.pc 7
          have f8 := block_free HU7.out.pc 8
          have yl := block_lt HU7.out.pc
          have ze := block_cell HU7.out.pe 0
          have zf := block_free HU7.out.pe 0
          have zl := block_lt HU7.out.pe
          simp at y0 y1 y2 y3 y4 y5 y6 y7 y8 ze
          go_upto_region 24 with fail
          go_wp2
          clear y0 y1 y2 y3 y4 y5 y6 y7 y8 f0 f1 f2 f3 f4 f5 f6 f7 f8 yl ze zf zl
          obtain ⟨W10, hW10⟩ : ∃ W10, (set9 w7 pb (.slice gq.ca nc gq.cc) (.slice gq.sa ns gq.sc) (.int .i64 (en 0)) (.int .i64 (en 1)) (.int .i64 (en 2)) (.int .i64 (en 3)) (.int .i64 (en 4)) (.int .i64 (en 5)) (.slice gq.ia nm gq.ic)).setCell ⟨pb + 1, 0, none⟩ .nilIface = W10 := ⟨_, rfl⟩
          rw [hW10] at HPO
          obtain ⟨hpo, hbw, k1, k2⟩ := HPO.out
          unfold set9 at hW10
          rw [hW10]
          clear hW10 HU7 HPO
          refine leaves_cons (f := 99) (args := #[.pointer (some ⟨pb, 0, none⟩), .pointer (some ⟨pb + 1, 0, none⟩)]) (by simp) (by simp [go_sem]) ?_
          refine (catchU_idle _ _ W10).mono ?_
          rintro e u' w11 ⟨rfl, rfl, hw11⟩
          rw [hw11]
          have c0 := block_cell k1 0
          have c1 := block_cell k1 1
          have c2 := block_cell k1 2
          have c3 := block_cell k1 3
          have c4 := block_cell k1 4
          have c5 := block_cell k1 5
          have c6 := block_cell k1 6
          have c7 := block_cell k1 7
          have c8 := block_cell k1 8
          have d0 := block_cell k2 0
          simp at c0 c1 c2 c3 c4 c5 c6 c7 c8 d0
          have g0 := HEN.out 0 (by decide)
          have g1 := HEN.out 1 (by decide)
          have g2 := HEN.out 2 (by decide)
          have g3 := HEN.out 3 (by decide)
          have g4 := HEN.out 4 (by decide)
          have g5 := HEN.out 5 (by decide)
          exact ⟨.tuple #[.agg (gq.cs q).toArray, .nilIface], by simp [results, Tryz.results50, go_sem, c0, c1, c2, c3, c4, c5, c6, c7, c8, d0, Pg.cs, hq, hqs, hqn, g0, g1, g2, g3, g4, g5], .inr ⟨q, gq, rfl, hbw, hpo, HQ.out.2, HQ.out.1⟩⟩
end Go.Proofs.YtggpaljilpbmhaaGreatDoor
