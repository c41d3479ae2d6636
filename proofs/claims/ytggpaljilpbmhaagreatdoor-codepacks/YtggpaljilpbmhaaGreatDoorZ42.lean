import Derived.Test.YtggpaljilpbmhaaGreatDoorZ39
import Derived.Test.YtggpaljilpbmhaaGreatDoorZ41
import Derived.Deep.DeepCutAuto
namespace Go.Proofs.YtggpaljilpbmhaaGreatDoor
open Go.RowKit

/-- Something was refused, rightly; or reading stands there. -/
def Sg (X : Nat → Prop) (B : List Nat) (r : Except Fz Nat) : Prop := (∃ z, r = .error z ∧ upR B = .error z) ∨ ∃ pos, r = .ok pos ∧ X pos
theorem head_math {B : List Nat} {v1 v2 : Nat} {b1 b2 : Bool} (h1 : v1 = hi (aheadV B 2)) (hb1 : ((v1 : Int) == 20803) = b1) (h2 : ∀ pos, wantR b1 91 0 (rdR B (fun _ => 2) (fun L => aheadW L 2) (.ok 0)) = .ok pos → v2 = hi (aheadV (B.drop pos) 1)) (hb2 : ((v2 : Int) == 1) = b2) :
  wantR b2 91 2 (rdR B (fun _ => 1) (fun L => aheadW L 1) (wantR b1 91 0 (rdR B (fun _ => 2) (fun L => aheadW L 2) (.ok 0)))) = if hdW B = 0 then .ok 3 else .error (fzH B) := by
 have e0 : rdR B (fun _ => 2) (fun L => aheadW L 2) (.ok 0) = if aheadW B 2 = 0 then .ok 2 else .error (fzW 0 (aheadW B 2)) := rfl
 rw [e0] at h2 ⊢
 clear e0
 by_cases a : aheadW B 2 = 0
 ·rw [if_pos a] at h2 ⊢
  by_cases m : hi (aheadV B 2) = 20803
  ·have : b1 = true := by rw [← hb1, h1, m]; rfl
   subst this
   have h2 := h2 2 rfl
   show wantR b2 91 2 (if aheadW (B.drop 2) 1 = 0 then .ok 3 else .error (fzW 2 (aheadW (B.drop 2) 1))) = _
   by_cases o : aheadW (B.drop 2) 1 = 0
   ·rw [if_pos o]
    by_cases e : hi (aheadV (B.drop 2) 1) = 1
    ·have : b2 = true := by rw [← hb2, h2, e]; rfl
     subst this
     have hd : hdW B = 0 := if_pos ⟨a, m, o, e⟩
     rw [if_pos hd]
     rfl
    ·have : b2 = false := by rw [← hb2, h2]; simp; omega
     subst this
     have hd : hdW B = 1 := if_neg (fun q => e q.2.2.2)
     have hf : fzH B = fzO 2 91 := by unfold fzH; rw [if_neg (fun q => q a), if_neg (fun q => q m), if_neg (fun q => q o)]
     rw [hd, hf, if_neg (by decide)]
     rfl
   ·have hd : hdW B = 1 := if_neg (fun q => o q.2.2.1)
    have hf : fzH B = fzW 2 (aheadW (B.drop 2) 1) := by unfold fzH; rw [if_neg (fun q => q a), if_neg (fun q => q m), if_pos o]
    rw [hd, hf, if_neg o, if_neg (by decide)]
    rfl
  ·have : b1 = false := by rw [← hb1, h1]; simp; omega
   subst this
   have hd : hdW B = 1 := if_neg (fun q => m q.2.1)
   have hf : fzH B = fzO 0 91 := by unfold fzH; rw [if_neg (fun q => q a), if_pos m]
   rw [hd, hf, if_neg (by decide)]
   rfl
 ·have hd : hdW B = 1 := if_neg (fun q => a q.1)
  have hf : fzH B = fzW 0 (aheadW B 2) := by unfold fzH; rw [if_pos a]
  rw [hd, hf, if_neg a, if_neg (by decide)]
  rfl
theorem cnt1_math {B : List Nat} {n : Nat} (hB : ∀ x ∈ B, x < 256) (hn : ∀ pos, (if hdW B = 0 then .ok 3 else .error (fzH B) : Except Fz Nat) = .ok pos → n = (countAt (B.drop pos) 256).1) :
  Sg (fun p => X1 B (ini1 n) 0 p) B (rdR B (fun L => (countAt L 256).2.1) (fun L => (countAt L 256).2.2) (if hdW B = 0 then .ok 3 else .error (fzH B))) := by
 by_cases hd : hdW B = 0
 ·rw [if_pos hd] at hn ⊢
  have hn := hn 3 rfl
  subst hn
  show Sg _ B (if (countAt (B.drop 3) 256).2.2 = 0 then _ else _)
  by_cases hw : (countAt (B.drop 3) 256).2.2 = 0
  ·rw [if_pos hw]
   exact .inr ⟨_, rfl, X1.start hd ((head_iff hB).1 hd) hB hw⟩
  ·rw [if_neg hw]
   exact .inl ⟨_, rfl, up_cnt hd hw⟩
 ·rw [if_neg hd]
  exact .inl ⟨_, rfl, up_head hd⟩
theorem num1_math {B : List Nat} {q : Pv} {j pos v : Nat} (hB : ∀ x ∈ B, x < 256) (h : X1 B q j pos) (hj : j < q.nc) (hv : v = (numAt (B.drop pos)).1) : Sg (fun p => X1 B (setC q j (v : Nat)) (j + 1) p) B (rdR B (fun L => (numAt L).2.1) (fun L => (numAt L).2.2) (.ok pos)) := by
 subst hv
 show Sg _ B (if (numAt (B.drop pos)).2.2 = 0 then _ else _)
 by_cases hw : (numAt (B.drop pos)).2.2 = 0
 ·rw [if_pos hw]; exact .inr ⟨_, rfl, h.step hB hj hw⟩
 ·rw [if_neg hw]; exact .inl ⟨_, rfl, h.fail hj hw⟩
theorem cnt2_math {B : List Nat} {q : Pv} {pos n : Nat} (hB : ∀ x ∈ B, x < 256) (h : X1 B q q.nc pos) (hn : n = (countAt (B.drop pos) 128).1) : Sg (fun p => X2 B (setNs q n) 0 p) B (rdR B (fun L => (countAt L 128).2.1) (fun L => (countAt L 128).2.2) (.ok pos)) := by
 subst hn
 show Sg _ B (if (countAt (B.drop pos) 128).2.2 = 0 then _ else _)
 by_cases hw : (countAt (B.drop pos) 128).2.2 = 0
 ·rw [if_pos hw]; exact .inr ⟨_, rfl, X2.start h hB hw⟩
 ·rw [if_neg hw]; exact .inl ⟨_, rfl, h.cno hw⟩
theorem oct2_math {B : List Nat} {q : Pv} {j pos v : Nat} (hB : ∀ x ∈ B, x < 256) (h : X2 B q j pos) (hj : j < q.ns) (hv : v = hi (aheadV (B.drop pos) 1)) : Sg (fun p => X2 B (setS q j (v : Nat)) (j + 1) p) B (rdR B (fun _ => 1) (fun L => aheadW L 1) (.ok pos)) := by
 subst hv
 show Sg _ B (if aheadW (B.drop pos) 1 = 0 then _ else _)
 by_cases hw : aheadW (B.drop pos) 1 = 0
 ·rw [if_pos hw]; exact .inr ⟨_, rfl, h.step hB hw⟩
 ·rw [if_neg hw]; exact .inl ⟨_, rfl, h.fail hj hw⟩
theorem ent3_math {B : List Nat} {q : Pv} {j pos v : Nat} (hB : ∀ x ∈ B, x < 256) (h : X3 B q j pos) (hj : j < 6) (hv : ∀ p, (.ok pos : Except Fz Nat) = .ok p → plW 1024 (numAt (B.drop p)) = 0 → v = (numAt (B.drop p)).1) : Sg (fun p => X3 B (setE q j ((v : Nat) - 1 : Int)) (j + 1) p) B (mostR 1024 82 B (.ok pos)) := by
 show Sg _ B (if plW 1024 (numAt (B.drop pos)) = 0 then _ else _)
 by_cases hw : plW 1024 (numAt (B.drop pos)) = 0
 ·rw [if_pos hw, hv pos rfl hw]; exact .inr ⟨_, rfl, h.step hB hj hw⟩
 ·rw [if_neg hw]; exact .inl ⟨_, rfl, h.fail hj hw⟩
theorem zP_noS : ∀ (j : Nat) (x : ByteArray), zP[j]? ≠ some (Value.string x) := by
 intro j x
 unfold zP
 exact prog_noS none none none 0 0 0 0 0 0 0 0 0 0 0 0 j x
/-- The results are laid down. -/
theorem vh_ret {W W2 : World} {Ra Rb Rc d rp ub pb lim rb : Nat} {B : List Nat} {r : Except Fz Nat} {va vb vc : Value} {ja jb jc : Nat} {xa xb xc : List Value} {en : Nat → Int} {w : World} (h : Vh W2 Ra Rb Rc d rp ub pb lim B r va vb vc ja jb jc xa xb xc en w) (hb : Below W.heap.size W W2) (h0 : W2.heap[rb]? = some (.cells zP 27 (0, 0))) (hrb : W.heap.size ≤ rb) (hpb : W.heap.size ≤ pb) (hlo : d < W.heap.size ∧ rp < W.heap.size ∧ ub < W.heap.size) (hne : rb ≠ pb) :
  w.heap[rb]? = some (.cells zP 27 (0, 0)) ∧ ∀ wf, set9 w rb va vb (.int .i64 (en 0)) (.int .i64 (en 1)) (.int .i64 (en 2)) (.int .i64 (en 3)) (.int .i64 (en 4)) (.int .i64 (en 5)) vc = wf → wf.heap[rb]? = some (.cells #[va, vb, .int .i64 (en 0), .int .i64 (en 1), .int .i64 (en 2), .int .i64 (en 3), .int .i64 (en 4), .int .i64 (en 5), vc] 27 (0, 0)) ∧ Fr2 ub rp W wf ∧ Us d rp ub lim B r wf ∧ wf.ownsRow Ra 28 1 va ja xa ∧ wf.ownsRow Rb 3 1 vb jb xb ∧ wf.ownsRow Rc 42 2 vc jc xc := by
 have A : w.heap[rb]? = some (.cells zP 27 (0, 0)) := (h.fr.block rb (block_lt h0) (by omega) (by omega) hne).trans h0
 refine ⟨A, fun wf e => ?_⟩
 obtain ⟨s, G⟩ := set9_blk A rfl va vb (.int .i64 (en 0)) (.int .i64 (en 1)) (.int .i64 (en 2)) (.int .i64 (en 3)) (.int .i64 (en 4)) (.int .i64 (en 5)) vc
 rw [e] at s G
 refine ⟨s, ⟨G.os.trans (h.fr.os.trans hb.os), G.tape.trans (h.fr.tape.trans hb.tape), G.output.trans (h.fr.output.trans hb.output), Nat.le_trans hb.size (Nat.le_trans h.fr.size G.size), fun i hi a b => ?_⟩, h.us.offP G (by omega) (by omega) (by omega) A zP_noS, h.qa.kept G (.inr (own_off2 h.qa (by decide) A)), h.qb.kept G (.inr (own_off2 h.qb (by decide) A)), h.qc.kept G (.inr (own_off2 h.qc (by decide) A))⟩
 have i2 := Nat.lt_of_lt_of_le hi hb.size
 exact (G.block i (Nat.lt_of_lt_of_le i2 h.fr.size) (by simp; omega)).trans ((h.fr.block i i2 a b (by omega)).trans (hb.block i hi))
/-- What head answers. -/
def HdQ (W : World) (d rp ub : Nat) (B : List Nat) (e : Ending) (w' : World) : Prop :=
 ∃ (q : Pv) (ja jb : Nat) (aa : Option Addr) (ca : Nat) (ab : Option Addr) (cb : Nat) (r : Except Fz Nat), e = .returned (.agg #[.slice aa ja ca, .slice ab jb cb, .int .i64 (q.en 0), .int .i64 (q.en 1), .int .i64 (q.en 2), .int .i64 (q.en 3), .int .i64 (q.en 4), .int .i64 (q.en 5), .slice none 0 0]) ∧
  Hid (Fr2 ub rp W w' ∧ Us d rp ub 0 B r w' ∧ Sg (fun pos => X3 B q 6 pos ∧ ja = q.nc ∧ jb = q.ns ∧ w'.ownsRow W.heap.size 28 1 (.slice aa ja ca) q.nc (nums .u64 q.C q.nc) ∧ w'.ownsRow W.heap.size 3 1 (.slice ab jb cb) q.ns (nums .i64 q.S q.ns)) B r)
set_option maxRecDepth 10000 in
set_option maxHeartbeats 12800000 in
theorem headQ {W : World} {d rp ub lim : Nat} {B : List Nat} (h : Us d rp ub lim B (.ok 0) W) (hlo : d < W.heap.size ∧ rp < W.heap.size ∧ ub < W.heap.size) (hB : ∀ x ∈ B, x < 256) :
  Calls Tryz.prog 90 #[.pointer (some ⟨ub, 0, none⟩)] W (HdQ W d rp ub B) := by
 obtain ⟨iU, hU, hU0, hU1, hU2⟩ := info_parts Tryz.infoU
 obtain ⟨iI, hI, hI0, hI1, hI2⟩ := info_parts Tryz.infoI
 have HIU := hide (And.intro hU (And.intro hU0 (And.intro hU1 hU2)))
 have HII := hide (And.intro hI (And.intro hI0 (And.intro hI1 hI2)))
 clear hU hU0 hU1 hU2 hI hI0 hI1 hI2
 have hlo := hlo
 obtain ⟨W2, hW2⟩ : ∃ W2, (W.alloc (.cells zP 27)).alloc (.cells zP 27) = W2 := ⟨_, rfl⟩
 obtain ⟨q0, q1, b2⟩ := two_box2L W _ _ _ _ hW2
 have hs2 : W2.heap.size = W.heap.size + 2 := by rw [← hW2]; simp
 obtain ⟨rb, hrb⟩ : ∃ rb, W.heap.size = rb := ⟨_, rfl⟩
 obtain ⟨pb, hpb⟩ : ∃ pb, rb + 1 = pb := ⟨_, rfl⟩
 have HBB := hide hB
 have HQ0 : Hid (W2.heap[rb]? = some (.cells zP 27 (0, 0))) := by rw [← hrb]; exact q0
 have HB2 := hide b2
 have HNM : Hid (W.heap.size = rb ∧ rb + 1 = pb ∧ W2.heap.size = rb + 2 ∧ d < rb ∧ rp < rb ∧ ub < rb) := ⟨hrb, hpb, by omega, by omega, by omega, by omega⟩
 have HV0 : Hid (Vh W2 W2.heap.size W2.heap.size W2.heap.size d rp ub pb 0 B (.ok 0) (.slice none 0 0) (.slice none 0 0) (.slice none 0 0) 0 0 0 [] [] [] (fun _ => 0) W2) := by
  refine ⟨?_, (h.next b2).low (Nat.zero_le _), World.ownsRow_nil _ _ _ _, World.ownsRow_nil _ _ _ _, World.ownsRow_nil _ _ _ _, Fr3.refl _ _ _ _, ⟨by omega, by omega, by omega, by omega⟩, ⟨by omega, by omega, by omega⟩, ⟨Nat.le_refl _, Nat.le_refl _, Nat.le_refl _⟩⟩
  rw [← hpb, ← hrb]
  exact q1
 have HW2 := hide hW2
 clear h hlo hB hW2 q0 q1 b2 hs2
 unfold zP at HW2
 go_enter Tryz.func90, Tryz.ntmps90
 go_upto_region 2 with fail
 rw [HW2.out]
 clear HW2

 clear hrb hpb
 go_upto_region 2 with fail
 have k0 := HV0.out.us.ucell
 have kl := block_lt_of_cell k0
 have HF1 := hide (fixedU HV0.out.us 2 2 rfl (by decide) (by decide))
 go_wp2_with fail
 refine HF1.out.mono ?_
 rintro x w1 ⟨v1, rfl, G⟩
 obtain ⟨_, hv1, hu, hf⟩ := G.out
 have HV1 := hide (HV0.out.read hf hu)
 clear G hu hf HF1 HV0 k0 kl
 have HV1v : Hid (v1 = hi (aheadV B 2)) := by have := hv1 0 rfl; rw [List.drop_zero] at this; exact this
 clear hv1
 obtain ⟨b1, hb1⟩ : ∃ b, ((v1 : Int) == 20803) = b := ⟨_, rfl⟩
 have HWN := hide (wantU HV1.out.us (Nat.zero_le _) b1 91 0 (by decide))
 go_upto_region 3 with fail
 go_wp2_with fail
 refine HWN.out.mono ?_
 rintro x w2 ⟨rfl, G⟩
 have HV2 := hide (HV1.out.read G.out.2 G.out.1.us)
 clear G HWN HV1
 have HBE1 := hide hb1
 clear hb1
 go_upto_region 4 with fail
 have k0 := HV2.out.us.ucell
 have kl := block_lt_of_cell k0
 have HF2 := hide (fixedU HV2.out.us 1 1 rfl (by decide) (by decide))
 go_wp2_with fail
 refine HF2.out.mono ?_
 rintro x w3 ⟨v2, rfl, G⟩
 obtain ⟨_, hv2, hu, hf⟩ := G.out
 have HV3 := hide (HV2.out.read hf hu)
 clear G hu hf HF2 HV2 k0 kl
 have HV2v := hide hv2
 clear hv2
 obtain ⟨b2, hb2⟩ : ∃ b, ((v2 : Int) == 1) = b := ⟨_, rfl⟩
 have HWN := hide (wantU HV3.out.us (Nat.zero_le _) b2 91 2 (by decide))
 go_upto_region 5 with fail
 go_wp2_with fail
 refine HWN.out.mono ?_
 rintro x w4 ⟨rfl, G⟩
 have HV4 := hide (HV3.out.read G.out.2 G.out.1.us)
 clear G HWN HV3
 rw [head_math HV1v.out HBE1.out HV2v.out hb2] at HV4
 clear HV1v HBE1 HV2v hb2
 go_upto_region 6 with fail
 have k0 := HV4.out.us.ucell
 have kl := block_lt_of_cell k0
 have HF3 := hide (countQ HV4.out.us 256 (by decide) (by decide))
 go_wp2_with fail
 refine HF3.out.mono ?_
 rintro x w5 ⟨n, rfl, G⟩
 obtain ⟨_, hn, hu, hf⟩ := G.out
 have HV5 := hide (HV4.out.read hf hu)
 clear G hu hf HF3 HV4 k0 kl
 have HS5 := hide (cnt1_math HBB.out hn)
 clear hn
 obtain ⟨r5, hr5⟩ : ∃ r, rdR B (fun L => (countAt L 256).2.1) (fun L => (countAt L 256).2.2) (if hdW B = 0 then .ok 3 else .error (fzH B)) = r := ⟨_, rfl⟩
 rw [hr5] at HV5 HS5
 clear hr5
 go_upto_region 8 with fail
 go_loopw [7] (fun i wr => ∃ (j : Nat) (va : Value) (q : Pv) (r : Except Fz Nat), j ≤ n ∧ i = .int .i64 (j : Nat) ∧ Hid (q.nc = n ∧ Sg (fun p => X1 B q j p) B r) ∧ Hid (Vh W2 W2.heap.size W2.heap.size W2.heap.size d rp ub pb 0 B r va (.slice none 0 0) (.slice none 0 0) j 0 0 (nums .u64 q.C j) [] [] q.en wr)) (fun i _ => n - (intOf i).toNat)
 case atStart => exact ⟨0, _, ini1 n, r5, Nat.zero_le _, rfl, ⟨rfl, HS5.out⟩, HV5⟩
 case round =>
  obtain ⟨j, va, q, r, hj, rfl, HSJ, HVJ⟩ := hrel
  clear HS5 HV5
  have hrs := HSJ.out.2
  by_cases hlt : j < n
  ·have t1 : decide (j < n) = true := by simpa using hlt
   have t2 : decide (((j : Nat) : Int) < (n : Int)) = true := by simp; omega
   rcases hrs with ⟨z, rfl, hz⟩ | ⟨pos, rfl, hx⟩
   ·have HZ := hide hz
    clear hz HSJ
    go_upto_region 8 with fail
    have HBD := hide (badU HVJ.out.us (Nat.zero_le _))
    go_wp2_with fail
    refine HBD.out.mono ?_
    rintro x wa ⟨rfl, G⟩
    have HVa := hide (HVJ.out.read G.out.2 G.out.1.us)
    clear G HBD HVJ
    have hE : isE (.error z) = true := rfl
    rw [hE]
    clear hE
    go_upto_region 12 with fail
    have HBD := hide (badU HVa.out.us (Nat.zero_le _))
    go_wp2_with fail
    refine HBD.out.mono ?_
    rintro x wb ⟨rfl, G⟩
    have HVb := hide (HVa.out.read G.out.2 G.out.1.us)
    clear G HBD HVa
    have hE : isE (.error z) = true := rfl
    rw [hE]
    clear hE
    clear t1 t2
    go_upto_region 13 with fail
    obtain ⟨aa, ca, rfl⟩ := own_val2 HVb.out.qa
    obtain ⟨A0, hfin⟩ := vh_ret HVb.out HB2.out HQ0.out (by have := HNM.out; omega) (by have := HNM.out; omega) (by have := HNM.out; omega) (by have := HNM.out; omega)
    have HFN := hide hfin
    have PC := HVb.out.pc
    have y0 := block_cell PC 0
    have y1 := block_cell PC 1
    have y2 := block_cell PC 2
    have y3 := block_cell PC 3
    have y4 := block_cell PC 4
    have y5 := block_cell PC 5
    have y6 := block_cell PC 6
    have y7 := block_cell PC 7
    have y8 := block_cell PC 8
    have x0 := block_cell A0 0
    have f0 := block_free A0 0
    have x1 := block_cell A0 1
    have f1 := block_free A0 1
    have x2 := block_cell A0 2
    have f2 := block_free A0 2
    have x3 := block_cell A0 3
    have f3 := block_free A0 3
    have x4 := block_cell A0 4
    have f4 := block_free A0 4
    have x5 := block_cell A0 5
    have f5 := block_free A0 5
    have x6 := block_cell A0 6
    have f6 := block_free A0 6
    have x7 := block_cell A0 7
    have f7 := block_free A0 7
    have x8 := block_cell A0 8
    have f8 := block_free A0 8
    have yl := block_lt PC
    have xl := block_lt A0
    simp at y0 y1 y2 y3 y4 y5 y6 y7 y8
    simp [zP] at x0 x1 x2 x3 x4 x5 x6 x7 x8
    clear A0 hfin PC HVb
    go_wp2
    obtain ⟨wf, hwf⟩ : ∃ wf, set9 wb rb (.slice aa j ca) (.slice none 0 0) (.int .i64 (q.en 0)) (.int .i64 (q.en 1)) (.int .i64 (q.en 2)) (.int .i64 (q.en 3)) (.int .i64 (q.en 4)) (.int .i64 (q.en 5)) (.slice none 0 0) = wf := ⟨_, rfl⟩
    obtain ⟨hblk, u1, u2, u3, u4, u5⟩ := HFN.out wf hwf
    unfold set9 at hwf
    rw [hwf]
    clear hwf HFN y0 y1 y2 y3 y4 y5 y6 y7 y8 x0 x1 x2 x3 x4 x5 x6 x7 x8 f0 f1 f2 f3 f4 f5 f6 f7 f8 yl xl
    have c0 := block_cell hblk 0
    have c1 := block_cell hblk 1
    have c2 := block_cell hblk 2
    have c3 := block_cell hblk 3
    have c4 := block_cell hblk 4
    have c5 := block_cell hblk 5
    have c6 := block_cell hblk 6
    have c7 := block_cell hblk 7
    have c8 := block_cell hblk 8
    simp at c0 c1 c2 c3 c4 c5 c6 c7 c8
    refine bodyPost_ret (v := .agg #[.slice aa j ca, .slice none 0 0, .int .i64 (q.en 0), .int .i64 (q.en 1), .int .i64 (q.en 2), .int .i64 (q.en 3), .int .i64 (q.en 4), .int .i64 (q.en 5), .slice none 0 0]) (by simp [results, Tryz.results90, go_sem, c0, c1, c2, c3, c4, c5, c6, c7, c8]) rfl ?_
    exact ⟨q, _, _, aa, ca, none, 0, _, rfl, u1, u2, .inl ⟨z, rfl, HZ.out⟩⟩
   ·have HX := hide hx
    have HNC := hide HSJ.out.1
    clear hx HSJ
    go_upto_region 8 with fail
    have HBD := hide (badU HVJ.out.us (Nat.zero_le _))
    go_wp2_with fail
    refine HBD.out.mono ?_
    rintro x wa ⟨rfl, G⟩
    have HVa := hide (HVJ.out.read G.out.2 G.out.1.us)
    clear G HBD HVJ
    have hE : isE (.ok pos : Except Fz Nat) = false := rfl
    rw [hE]
    clear hE
    clear t1 t2
    have HVL : Hid (∀ g, va.ownBlock = some g → g < wa.heap.size) := fun g e => (HVa.out.qa.lt g e).2
    have HVA := hide (HVa.out.relim (lim' := wa.heap.size))
    clear HVa
    have hnc : n ≤ 256 := by have := HX.out.r.nc; have := HNC.out; omega
    go_upto_region 10 with fail
    have k0 := HVA.out.us.ucell
    have kl := block_lt_of_cell k0
    have HNU := hide (numU HVA.out.us)
    go_wp2_with fail
    refine HNU.out.mono ?_
    rintro x wb ⟨v, rfl, G⟩
    obtain ⟨_, hv, hu, hf⟩ := G.out
    have HVB := hide (HVA.out.read hf hu)
    clear G hu hf HNU HVA k0 kl
    have HRS := hide (num1_math HBB.out HX.out (by have := HNC.out; omega) (hv pos rfl))
    clear hv
    obtain ⟨r2, hr2⟩ : ∃ r, rdR B (fun L => (numAt L).2.1) (fun L => (numAt L).2.2) (.ok pos) = r := ⟨_, rfl⟩
    rw [hr2] at HVB HRS
    clear hr2
    have HOW : Hid (∀ ob, (wb.alloc ob).ownsRow W2.heap.size 28 1 va j (nums .u64 q.C j)) := fun ob => (HVB.out.next (below_alloc1 wb ob)).qa
    have HSZ : Hid (∀ ob, W2.heap.size ≤ (wb.alloc ob).heap.size) := fun ob => by
     have := HVB.out.fr.size
     simp
     omega
    have HST := hide (fun v' (w6 : World) ob (ho : w6.ownsRow W2.heap.size 28 1 v' (j + 1) ((nums .u64 q.C j) ++ [.int .u64 (v : Nat)])) hg => HVB.out.stepA (o := ob) (Nat.le_refl _) HVL.out ho hg)
    have k1 := block_cell HVB.out.pc 0
    have kl := block_lt HVB.out.pc
    simp at k1
    clear HVB
    go_upto_region 11 with fail
    go_wp2_with (at_builtin; refine wpList_append_own _ rfl (.tmp 53) (.tmp 55) 22 rfl W2.heap.size 28 iU (.int .u64 0) 1 8 Tryz.underlying22 HIU.out.1 HIU.out.2.1 HIU.out.2.2.1 HIU.out.2.2.2 rfl (by decide) va j _ rfl (HOW.out _) ⟨wb.heap.size, 0, none⟩ 1 1 [.int .u64 (v : Nat)] rfl rfl (cells_newK wb [.int .u64 (v : Nat)] 28) (by simp [Value.oneCell']) (by unfold maxLen; omega) (by omega) (HSZ.out _) ?_; intro v8 w8 ho hg _; have hst := HST.out v8 w8 _ ho hg; obtain ⟨ao8, cap8, hv8⟩ := own_val2 ho; subst hv8; have y0 := block_cell hst.2 0; have yf := block_free hst.2 0; have yl := block_lt hst.2; simp at y0; have HVC := hide hst.1; clear hst ho hg HOW HSZ HST k1 kl)
    have HVD : Hid (Vh W2 W2.heap.size W2.heap.size W2.heap.size d rp ub pb 0 B r2 (.slice ao8 (j + 1) cap8) (.slice none 0 0) (.slice none 0 0) (j + 1) 0 0 (nums .u64 (setC q j (v : Nat)).C (j + 1)) [] [] (setC q j (v : Nat)).en (w8.setCell ⟨pb, 0, none⟩ (.slice ao8 (j + 1) cap8))) := by
     rw [show nums .u64 (setC q j (v : Nat)).C (j + 1) = _ from nums_set .u64 q.C j (v : Nat)]
     exact HVC.out.low (Nat.zero_le _)
    clear HVC y0 yf yl HVL
    go_wp2
    go_roundw
    case rel => exact ⟨j + 1, _, setC q j (v : Nat), r2, by omega, by go_num, hide ⟨HNC.out, HRS.out⟩, HVD⟩
    case measure => simp [intOf]; omega
  ·obtain rfl : n = j := by omega
   have t1 : decide (n < n) = false := by simp
   have t2 : decide (((n : Nat) : Int) < (n : Int)) = false := by simp
   rcases hrs with ⟨z, rfl, hz⟩ | ⟨pos, rfl, hx⟩
   ·have HZ := hide hz
    clear hz HSJ
    go_upto_region 12 with fail
    have HBD := hide (badU HVJ.out.us (Nat.zero_le _))
    go_wp2_with fail
    refine HBD.out.mono ?_
    rintro x wb ⟨rfl, G⟩
    have HVb := hide (HVJ.out.read G.out.2 G.out.1.us)
    clear G HBD HVJ
    have hE : isE (.error z) = true := rfl
    rw [hE]
    clear hE
    clear t1 t2
    go_upto_region 13 with fail
    obtain ⟨aa, ca, rfl⟩ := own_val2 HVb.out.qa
    obtain ⟨A0, hfin⟩ := vh_ret HVb.out HB2.out HQ0.out (by have := HNM.out; omega) (by have := HNM.out; omega) (by have := HNM.out; omega) (by have := HNM.out; omega)
    have HFN := hide hfin
    have PC := HVb.out.pc
    have y0 := block_cell PC 0
    have y1 := block_cell PC 1
    have y2 := block_cell PC 2
    have y3 := block_cell PC 3
    have y4 := block_cell PC 4
    have y5 := block_cell PC 5
    have y6 := block_cell PC 6
    have y7 := block_cell PC 7
    have y8 := block_cell PC 8
    have x0 := block_cell A0 0
    have f0 := block_free A0 0
    have x1 := block_cell A0 1
    have f1 := block_free A0 1
    have x2 := block_cell A0 2
    have f2 := block_free A0 2
    have x3 := block_cell A0 3
    have f3 := block_free A0 3
    have x4 := block_cell A0 4
    have f4 := block_free A0 4
    have x5 := block_cell A0 5
    have f5 := block_free A0 5
    have x6 := block_cell A0 6
    have f6 := block_free A0 6
    have x7 := block_cell A0 7
    have f7 := block_free A0 7
    have x8 := block_cell A0 8
    have f8 := block_free A0 8
    have yl := block_lt PC
    have xl := block_lt A0
    simp at y0 y1 y2 y3 y4 y5 y6 y7 y8
    simp [zP] at x0 x1 x2 x3 x4 x5 x6 x7 x8
    clear A0 hfin PC HVb
    go_wp2
    obtain ⟨wf, hwf⟩ : ∃ wf, set9 wb rb (.slice aa n ca) (.slice none 0 0) (.int .i64 (q.en 0)) (.int .i64 (q.en 1)) (.int .i64 (q.en 2)) (.int .i64 (q.en 3)) (.int .i64 (q.en 4)) (.int .i64 (q.en 5)) (.slice none 0 0) = wf := ⟨_, rfl⟩
    obtain ⟨hblk, u1, u2, u3, u4, u5⟩ := HFN.out wf hwf
    unfold set9 at hwf
    rw [hwf]
    clear hwf HFN y0 y1 y2 y3 y4 y5 y6 y7 y8 x0 x1 x2 x3 x4 x5 x6 x7 x8 f0 f1 f2 f3 f4 f5 f6 f7 f8 yl xl
    have c0 := block_cell hblk 0
    have c1 := block_cell hblk 1
    have c2 := block_cell hblk 2
    have c3 := block_cell hblk 3
    have c4 := block_cell hblk 4
    have c5 := block_cell hblk 5
    have c6 := block_cell hblk 6
    have c7 := block_cell hblk 7
    have c8 := block_cell hblk 8
    simp at c0 c1 c2 c3 c4 c5 c6 c7 c8
    refine bodyPost_ret (v := .agg #[.slice aa n ca, .slice none 0 0, .int .i64 (q.en 0), .int .i64 (q.en 1), .int .i64 (q.en 2), .int .i64 (q.en 3), .int .i64 (q.en 4), .int .i64 (q.en 5), .slice none 0 0]) (by simp [results, Tryz.results90, go_sem, c0, c1, c2, c3, c4, c5, c6, c7, c8]) rfl ?_
    exact ⟨q, _, _, aa, ca, none, 0, _, rfl, u1, u2, .inl ⟨z, rfl, HZ.out⟩⟩
   ·have HX : Hid (X1 B q q.nc pos) := by rw [HSJ.out.1]; exact hx
    have HNC := hide HSJ.out.1
    clear hx HSJ
    go_upto_region 12 with fail
    have HBD := hide (badU HVJ.out.us (Nat.zero_le _))
    go_wp2_with fail
    refine HBD.out.mono ?_
    rintro x wa ⟨rfl, G⟩
    have HVa := hide (HVJ.out.read G.out.2 G.out.1.us)
    clear G HBD HVJ
    have hE : isE (.ok pos : Except Fz Nat) = false := rfl
    rw [hE]
    clear hE
    clear t1 t2
    go_upto_region 14 with fail
    have k0 := HVa.out.us.ucell
    have kl := block_lt_of_cell k0
    have HCN := hide (countQ HVa.out.us 128 (by decide) (by decide))
    go_wp2_with fail
    refine HCN.out.mono ?_
    rintro x wb ⟨m, rfl, G⟩
    obtain ⟨_, hm, hu, hf⟩ := G.out
    have HVb := hide (HVa.out.read hf hu)
    clear G hu hf HCN HVa k0 kl
    have HS6 := hide (cnt2_math HBB.out HX.out (hm pos rfl))
    clear hm HX
    obtain ⟨r6, hr6⟩ : ∃ r, rdR B (fun L => (countAt L 128).2.1) (fun L => (countAt L 128).2.2) (.ok pos) = r := ⟨_, rfl⟩
    rw [hr6] at HVb HS6
    clear hr6
    go_upto_region 16 with fail
    go_loopw [9] (fun i wr => ∃ (j : Nat) (vb : Value) (q : Pv) (r : Except Fz Nat), j ≤ m ∧ i = .int .i64 (j : Nat) ∧ Hid (q.nc = n ∧ q.ns = m ∧ Sg (fun p => X2 B q j p) B r) ∧ Hid (Vh W2 W2.heap.size W2.heap.size W2.heap.size d rp ub pb 0 B r va vb (.slice none 0 0) n j 0 (nums .u64 q.C n) (nums .i64 q.S j) [] q.en wr)) (fun i _ => m - (intOf i).toNat)
    case atStart => exact ⟨0, _, setNs q m, r6, Nat.zero_le _, rfl, hide ⟨HNC.out, rfl, HS6.out⟩, HVb⟩
    case round =>
     obtain ⟨j, vb, q, r, hj, rfl, HSJ, HVJ⟩ := hrel
     clear HS6 HVb HNC
     have hrs := HSJ.out.2.2
     by_cases hlt : j < m
     ·have t1 : decide (j < m) = true := by simpa using hlt
      have t2 : decide (((j : Nat) : Int) < (m : Int)) = true := by simp; omega
      rcases hrs with ⟨z, rfl, hz⟩ | ⟨pos, rfl, hx⟩
      ·have HZ := hide hz
       clear hz HSJ
       go_upto_region 16 with fail
       have HBD := hide (badU HVJ.out.us (Nat.zero_le _))
       go_wp2_with fail
       refine HBD.out.mono ?_
       rintro x wa ⟨rfl, G⟩
       have HVa := hide (HVJ.out.read G.out.2 G.out.1.us)
       clear G HBD HVJ
       have hE : isE (.error z) = true := rfl
       rw [hE]
       clear hE
       clear t1 t2
       go_upto_region 21 with fail
       go_loopw [11] (fun i wr => i = .int .i64 0 ∧ Hid (Vh W2 W2.heap.size W2.heap.size W2.heap.size d rp ub pb 0 B (.error z) va vb (.slice none 0 0) n j 0 (nums .u64 q.C n) (nums .i64 q.S j) [] q.en wr)) (fun _ _ => 0)
       case atStart => exact ⟨rfl, HVa⟩
       case round =>
        obtain ⟨rfl, HVc⟩ := hrel
        clear HVa
        go_upto_region 21 with fail
        have HBD := hide (badU HVc.out.us (Nat.zero_le _))
        go_wp2_with fail
        refine HBD.out.mono ?_
        rintro x wb ⟨rfl, G⟩
        have HVb := hide (HVc.out.read G.out.2 G.out.1.us)
        clear G HBD HVc
        have hE : isE (.error z) = true := rfl
        rw [hE]
        clear hE
        go_upto_region 25 with fail
        obtain ⟨aa, ca, rfl⟩ := own_val2 HVb.out.qa
        obtain ⟨ab, cb, rfl⟩ := own_val2 HVb.out.qb
        obtain ⟨A0, hfin⟩ := vh_ret HVb.out HB2.out HQ0.out (by have := HNM.out; omega) (by have := HNM.out; omega) (by have := HNM.out; omega) (by have := HNM.out; omega)
        have HFN := hide hfin
        have PC := HVb.out.pc
        have y0 := block_cell PC 0
        have y1 := block_cell PC 1
        have y2 := block_cell PC 2
        have y3 := block_cell PC 3
        have y4 := block_cell PC 4
        have y5 := block_cell PC 5
        have y6 := block_cell PC 6
        have y7 := block_cell PC 7
        have y8 := block_cell PC 8
        have x0 := block_cell A0 0
        have f0 := block_free A0 0
        have x1 := block_cell A0 1
        have f1 := block_free A0 1
        have x2 := block_cell A0 2
        have f2 := block_free A0 2
        have x3 := block_cell A0 3
        have f3 := block_free A0 3
        have x4 := block_cell A0 4
        have f4 := block_free A0 4
        have x5 := block_cell A0 5
        have f5 := block_free A0 5
        have x6 := block_cell A0 6
        have f6 := block_free A0 6
        have x7 := block_cell A0 7
        have f7 := block_free A0 7
        have x8 := block_cell A0 8
        have f8 := block_free A0 8
        have yl := block_lt PC
        have xl := block_lt A0
        simp at y0 y1 y2 y3 y4 y5 y6 y7 y8
        simp [zP] at x0 x1 x2 x3 x4 x5 x6 x7 x8
        clear A0 hfin PC HVb
        go_wp2
        obtain ⟨wf, hwf⟩ : ∃ wf, set9 wb rb (.slice aa n ca) (.slice ab j cb) (.int .i64 (q.en 0)) (.int .i64 (q.en 1)) (.int .i64 (q.en 2)) (.int .i64 (q.en 3)) (.int .i64 (q.en 4)) (.int .i64 (q.en 5)) (.slice none 0 0) = wf := ⟨_, rfl⟩
        obtain ⟨hblk, u1, u2, u3, u4, u5⟩ := HFN.out wf hwf
        unfold set9 at hwf
        rw [hwf]
        clear hwf HFN y0 y1 y2 y3 y4 y5 y6 y7 y8 x0 x1 x2 x3 x4 x5 x6 x7 x8 f0 f1 f2 f3 f4 f5 f6 f7 f8 yl xl
        have c0 := block_cell hblk 0
        have c1 := block_cell hblk 1
        have c2 := block_cell hblk 2
        have c3 := block_cell hblk 3
        have c4 := block_cell hblk 4
        have c5 := block_cell hblk 5
        have c6 := block_cell hblk 6
        have c7 := block_cell hblk 7
        have c8 := block_cell hblk 8
        simp at c0 c1 c2 c3 c4 c5 c6 c7 c8
        refine bodyPost_ret (v := .agg #[.slice aa n ca, .slice ab j cb, .int .i64 (q.en 0), .int .i64 (q.en 1), .int .i64 (q.en 2), .int .i64 (q.en 3), .int .i64 (q.en 4), .int .i64 (q.en 5), .slice none 0 0]) (by simp [results, Tryz.results90, go_sem, c0, c1, c2, c3, c4, c5, c6, c7, c8]) rfl ?_
        exact ⟨q, _, _, aa, ca, ab, cb, _, rfl, u1, u2, .inl ⟨z, rfl, HZ.out⟩⟩
      ·have HX := hide hx
       have HNC := hide (And.intro HSJ.out.1 HSJ.out.2.1)
       clear hx HSJ
       go_upto_region 16 with fail
       have HBD := hide (badU HVJ.out.us (Nat.zero_le _))
       go_wp2_with fail
       refine HBD.out.mono ?_
       rintro x wa ⟨rfl, G⟩
       have HVa := hide (HVJ.out.read G.out.2 G.out.1.us)
       clear G HBD HVJ
       have hE : isE (.ok pos : Except Fz Nat) = false := rfl
       rw [hE]
       clear hE
       clear t1 t2
       have HVL : Hid (∀ g, vb.ownBlock = some g → g < wa.heap.size) := fun g e => (HVa.out.qb.lt g e).2
       have HVA := hide (HVa.out.relim (lim' := wa.heap.size))
       clear HVa
       have hns : m ≤ 128 := by have := HX.out.r.ns; have := HNC.out; omega
       go_upto_region 18 with fail
       have k0 := HVA.out.us.ucell
       have kl := block_lt_of_cell k0
       have HNU := hide (fixedU HVA.out.us 1 1 rfl (by decide) (by decide))
       go_wp2_with fail
       refine HNU.out.mono ?_
       rintro x wb ⟨v, rfl, G⟩
       obtain ⟨hvL, hv, hu, hf⟩ := G.out
       have HVB := hide (HVA.out.read hf hu)
       clear G hu hf HNU HVA k0 kl
       have HRS := hide (oct2_math HBB.out HX.out (by have := HNC.out; omega) (hv pos rfl))
       have hv6 : v < 256 := by
        obtain ⟨L, hL, hLb⟩ := hvL
        rw [hL]
        have := hi_take_lt (k := 1) hLb
        simpa using this
       clear hv hvL
       obtain ⟨r2, hr2⟩ : ∃ r, rdR B (fun _ => 1) (fun L => aheadW L 1) (.ok pos) = r := ⟨_, rfl⟩
       rw [hr2] at HVB HRS
       clear hr2
       have hcu : IntKind.i64.wrap ((v : Nat) : Int) = ((v : Nat) : Int) := wrap64_nat (by omega)
       have HOW : Hid (∀ ob, (wb.alloc ob).ownsRow W2.heap.size 3 1 vb j (nums .i64 q.S j)) := fun ob => (HVB.out.next (below_alloc1 wb ob)).qb
       have HSZ : Hid (∀ ob, W2.heap.size ≤ (wb.alloc ob).heap.size) := fun ob => by
        have := HVB.out.fr.size
        simp
        omega
       have HST := hide (fun v' (w6 : World) ob (ho : w6.ownsRow W2.heap.size 3 1 v' (j + 1) ((nums .i64 q.S j) ++ [.int .i64 (v : Nat)])) hg => HVB.out.stepB (o := ob) (Nat.le_refl _) HVL.out ho hg)
       have k1 := block_cell HVB.out.pc 1
       have kl := block_lt HVB.out.pc
       simp at k1
       clear HVB
       go_upto_region 19 with fail
       go_wp2_with (at_builtin; refine wpList_append_own _ rfl (.tmp 82) (.tmp 85) 23 rfl W2.heap.size 3 iI (.int .i64 0) 1 8 Tryz.underlying23 HII.out.1 HII.out.2.1 HII.out.2.2.1 HII.out.2.2.2 rfl (by decide) vb j _ rfl (HOW.out _) ⟨wb.heap.size, 0, none⟩ 1 1 [.int .i64 (v : Nat)] rfl rfl (cells_newK wb [.int .i64 (v : Nat)] 3) (by simp [Value.oneCell']) (by unfold maxLen; omega) (by omega) (HSZ.out _) ?_; intro v8 w8 ho hg _; have hst := HST.out v8 w8 _ ho hg; obtain ⟨ao8, cap8, hv8⟩ := own_val2 ho; subst hv8; have y0 := block_cell hst.2 1; have yf := block_free hst.2 1; have yl := block_lt hst.2; simp at y0; have HVC := hide hst.1; clear hst ho hg HOW HSZ HST k1 kl)
       have HVD : Hid (Vh W2 W2.heap.size W2.heap.size W2.heap.size d rp ub pb 0 B r2 va (.slice ao8 (j + 1) cap8) (.slice none 0 0) n (j + 1) 0 (nums .u64 (setS q j (v : Nat)).C n) (nums .i64 (setS q j (v : Nat)).S (j + 1)) [] (setS q j (v : Nat)).en (w8.setCell ⟨pb, 1, none⟩ (.slice ao8 (j + 1) cap8))) := by
        rw [show nums .i64 (setS q j (v : Nat)).S (j + 1) = _ from nums_set .i64 q.S j (v : Nat)]
        exact HVC.out.low (Nat.zero_le _)
       clear HVC y0 yf yl HVL hcu hv6
       go_wp2
       go_roundw
       case rel => exact ⟨j + 1, _, setS q j (v : Nat), r2, by omega, by go_num, hide ⟨HNC.out.1, HNC.out.2, HRS.out⟩, HVD⟩
       case measure => simp [intOf]; omega
     ·obtain rfl : m = j := by omega
      have t1 : decide (m < m) = false := by simp
      have t2 : decide (((m : Nat) : Int) < (m : Int)) = false := by simp
      have HS7 : Hid (q.nc = n ∧ q.ns = m ∧ Sg (fun p => X3 B q 0 p) B r) := by
       obtain ⟨a1, a2, a3⟩ := HSJ.out
       refine ⟨a1, a2, ?_⟩
       rcases a3 with a3 | ⟨pos, e, hx⟩
       ·exact .inl a3
       ·exact .inr ⟨pos, e, X3.start (by rw [a2]; exact hx)⟩
      clear hrs HSJ
      go_upto_region 21 with fail
      clear t1 t2
      go_loopw [11] (fun i wr => ∃ (j : Nat) (q : Pv) (r : Except Fz Nat), j ≤ 6 ∧ i = .int .i64 (j : Nat) ∧ Hid (q.nc = n ∧ q.ns = m ∧ Sg (fun p => X3 B q j p) B r) ∧ Hid (Vh W2 W2.heap.size W2.heap.size W2.heap.size d rp ub pb 0 B r va vb (.slice none 0 0) n m 0 (nums .u64 q.C n) (nums .i64 q.S m) [] q.en wr)) (fun i _ => 6 - (intOf i).toNat)
      case atStart => exact ⟨0, q, r, Nat.zero_le _, rfl, HS7, HVJ⟩
      case round =>
       obtain ⟨j, q, r, hj, rfl, HSJ, HVK⟩ := hrel
       clear HS7 HVJ
       have hrs := HSJ.out.2.2
       by_cases hlt : j < 6
       ·have t1 : decide (j < 6) = true := by simpa using hlt
        have t2 : decide (((j : Nat) : Int) < 6) = true := by simp; omega
        rcases hrs with ⟨z, rfl, hz⟩ | ⟨pos, rfl, hx⟩
        ·have HZ := hide hz
         clear hz HSJ
         go_upto_region 21 with fail
         have HBD := hide (badU HVK.out.us (Nat.zero_le _))
         go_wp2_with fail
         refine HBD.out.mono ?_
         rintro x wa ⟨rfl, G⟩
         have HVa := hide (HVK.out.read G.out.2 G.out.1.us)
         clear G HBD HVK
         have hE : isE (.error z) = true := rfl
         rw [hE]
         clear hE
         clear t1 t2
         go_upto_region 25 with fail
         obtain ⟨aa, ca, rfl⟩ := own_val2 HVa.out.qa
         obtain ⟨ab, cb, rfl⟩ := own_val2 HVa.out.qb
         obtain ⟨A0, hfin⟩ := vh_ret HVa.out HB2.out HQ0.out (by have := HNM.out; omega) (by have := HNM.out; omega) (by have := HNM.out; omega) (by have := HNM.out; omega)
         have HFN := hide hfin
         have PC := HVa.out.pc
         have y0 := block_cell PC 0
         have y1 := block_cell PC 1
         have y2 := block_cell PC 2
         have y3 := block_cell PC 3
         have y4 := block_cell PC 4
         have y5 := block_cell PC 5
         have y6 := block_cell PC 6
         have y7 := block_cell PC 7
         have y8 := block_cell PC 8
         have x0 := block_cell A0 0
         have f0 := block_free A0 0
         have x1 := block_cell A0 1
         have f1 := block_free A0 1
         have x2 := block_cell A0 2
         have f2 := block_free A0 2
         have x3 := block_cell A0 3
         have f3 := block_free A0 3
         have x4 := block_cell A0 4
         have f4 := block_free A0 4
         have x5 := block_cell A0 5
         have f5 := block_free A0 5
         have x6 := block_cell A0 6
         have f6 := block_free A0 6
         have x7 := block_cell A0 7
         have f7 := block_free A0 7
         have x8 := block_cell A0 8
         have f8 := block_free A0 8
         have yl := block_lt PC
         have xl := block_lt A0
         simp at y0 y1 y2 y3 y4 y5 y6 y7 y8
         simp [zP] at x0 x1 x2 x3 x4 x5 x6 x7 x8
         clear A0 hfin PC HVa
         go_wp2
         obtain ⟨wf, hwf⟩ : ∃ wf, set9 wa rb (.slice aa n ca) (.slice ab m cb) (.int .i64 (q.en 0)) (.int .i64 (q.en 1)) (.int .i64 (q.en 2)) (.int .i64 (q.en 3)) (.int .i64 (q.en 4)) (.int .i64 (q.en 5)) (.slice none 0 0) = wf := ⟨_, rfl⟩
         obtain ⟨hblk, u1, u2, u3, u4, u5⟩ := HFN.out wf hwf
         unfold set9 at hwf
         rw [hwf]
         clear hwf HFN y0 y1 y2 y3 y4 y5 y6 y7 y8 x0 x1 x2 x3 x4 x5 x6 x7 x8 f0 f1 f2 f3 f4 f5 f6 f7 f8 yl xl
         have c0 := block_cell hblk 0
         have c1 := block_cell hblk 1
         have c2 := block_cell hblk 2
         have c3 := block_cell hblk 3
         have c4 := block_cell hblk 4
         have c5 := block_cell hblk 5
         have c6 := block_cell hblk 6
         have c7 := block_cell hblk 7
         have c8 := block_cell hblk 8
         simp at c0 c1 c2 c3 c4 c5 c6 c7 c8
         refine bodyPost_ret (v := .agg #[.slice aa n ca, .slice ab m cb, .int .i64 (q.en 0), .int .i64 (q.en 1), .int .i64 (q.en 2), .int .i64 (q.en 3), .int .i64 (q.en 4), .int .i64 (q.en 5), .slice none 0 0]) (by simp [results, Tryz.results90, go_sem, c0, c1, c2, c3, c4, c5, c6, c7, c8]) rfl ?_
         exact ⟨q, _, _, aa, ca, ab, cb, _, rfl, u1, u2, .inl ⟨z, rfl, HZ.out⟩⟩
        ·have HX := hide hx
         have HNC := hide (And.intro HSJ.out.1 HSJ.out.2.1)
         clear hx HSJ
         go_upto_region 21 with fail
         have HBD := hide (badU HVK.out.us (Nat.zero_le _))
         go_wp2_with fail
         refine HBD.out.mono ?_
         rintro x wa ⟨rfl, G⟩
         have HVa := hide (HVK.out.read G.out.2 G.out.1.us)
         clear G HBD HVK
         have hE : isE (.ok pos : Except Fz Nat) = false := rfl
         rw [hE]
         clear hE
         clear t1 t2
         have HMS : Hid (Calls Tryz.prog 95 #[.pointer (some ⟨ub, 0, none⟩), .int .u64 1024, .int .i64 82] wa fun e w' => ∃ x : Nat, e = .returned (.int .i64 (x : Int)) ∧ Hid (x ≤ 1024 ∧ (∀ p, (.ok pos : Except Fz Nat) = .ok p → plW 1024 (numAt (B.drop p)) = 0 → x = (numAt (B.drop p)).1) ∧ Ub d rp ub 0 B (mostR 1024 82 B (.ok pos)) w' ∧ Fr2 ub rp wa w')) := mostU HVa.out.us (Nat.zero_le _) 1024 (Nat.le_refl _) 82 (by decide)
         go_upto_region 23 with fail
         go_wp2_with fail
         refine HMS.out.mono ?_
         rintro x wb ⟨v, rfl, G⟩
         obtain ⟨hv1, hv2, hu, hf⟩ := G.out
         have HVB := hide (HVa.out.read hf hu.us)
         have HRS := hide (ent3_math HBB.out HX.out hlt hv2)
         obtain ⟨r2, hr2⟩ : ∃ r, mostR 1024 82 B (.ok pos) = r := ⟨_, rfl⟩
         rw [hr2] at HVB HRS
         clear hr2 G hv2 hu hf HMS HVa HX
         have hwr : IntKind.i64.wrap (((v : Nat) : Int) - 1) = ((v : Nat) : Int) - 1 := by simp [IntKind.wrap, IntKind.bits, IntKind.signed]; omega
         have hj6 : j = 0 ∨ j = 1 ∨ j = 2 ∨ j = 3 ∨ j = 4 ∨ j = 5 := by omega
         clear hlt hj hv1
         rcases hj6 with rfl | rfl | rfl | rfl | rfl | rfl
         all_goals
          have y2 := block_cell HVB.out.pc 2
          have y3 := block_cell HVB.out.pc 3
          have y4 := block_cell HVB.out.pc 4
          have y5 := block_cell HVB.out.pc 5
          have y6 := block_cell HVB.out.pc 6
          have y7 := block_cell HVB.out.pc 7
          have f2 := block_free HVB.out.pc 2
          have f3 := block_free HVB.out.pc 3
          have f4 := block_free HVB.out.pc 4
          have f5 := block_free HVB.out.pc 5
          have f6 := block_free HVB.out.pc 6
          have f7 := block_free HVB.out.pc 7
          have yl := block_lt HVB.out.pc
          simp at y2 y3 y4 y5 y6 y7
          go_upto_region 22 with fail
          clear y2 y3 y4 y5 y6 y7 f2 f3 f4 f5 f6 f7 yl hwr
         ·have HUN := hide (HVB.out.setE (e := 0) (by decide) (((v : Nat) : Int) - 1))
          clear HVB
          go_wp2
          go_roundw
          case rel => exact ⟨0 + 1, setE q 0 (((v : Nat) : Int) - 1), r2, by omega, by go_num, hide ⟨HNC.out.1, HNC.out.2, HRS.out⟩, HUN⟩
          case measure => simp [intOf]
         ·have HUN := hide (HVB.out.setE (e := 1) (by decide) (((v : Nat) : Int) - 1))
          clear HVB
          go_wp2
          go_roundw
          case rel => exact ⟨1 + 1, setE q 1 (((v : Nat) : Int) - 1), r2, by omega, by go_num, hide ⟨HNC.out.1, HNC.out.2, HRS.out⟩, HUN⟩
          case measure => simp [intOf]
         ·have HUN := hide (HVB.out.setE (e := 2) (by decide) (((v : Nat) : Int) - 1))
          clear HVB
          go_wp2
          go_roundw
          case rel => exact ⟨2 + 1, setE q 2 (((v : Nat) : Int) - 1), r2, by omega, by go_num, hide ⟨HNC.out.1, HNC.out.2, HRS.out⟩, HUN⟩
          case measure => simp [intOf]
         ·have HUN := hide (HVB.out.setE (e := 3) (by decide) (((v : Nat) : Int) - 1))
          clear HVB
          go_wp2
          go_roundw
          case rel => exact ⟨3 + 1, setE q 3 (((v : Nat) : Int) - 1), r2, by omega, by go_num, hide ⟨HNC.out.1, HNC.out.2, HRS.out⟩, HUN⟩
          case measure => simp [intOf]
         ·have HUN := hide (HVB.out.setE (e := 4) (by decide) (((v : Nat) : Int) - 1))
          clear HVB
          go_wp2
          go_roundw
          case rel => exact ⟨4 + 1, setE q 4 (((v : Nat) : Int) - 1), r2, by omega, by go_num, hide ⟨HNC.out.1, HNC.out.2, HRS.out⟩, HUN⟩
          case measure => simp [intOf]
         ·have HUN := hide (HVB.out.setE (e := 5) (by decide) (((v : Nat) : Int) - 1))
          clear HVB
          go_wp2
          go_roundw
          case rel => exact ⟨5 + 1, setE q 5 (((v : Nat) : Int) - 1), r2, by omega, by go_num, hide ⟨HNC.out.1, HNC.out.2, HRS.out⟩, HUN⟩
          case measure => simp [intOf]
       ·obtain rfl : 6 = j := by omega
        go_upto_region 25 with fail
        clear hlt
        have HFS := hide HSJ.out
        clear hrs HSJ
        obtain ⟨aa, ca, rfl⟩ := own_val2 HVK.out.qa
        obtain ⟨ab, cb, rfl⟩ := own_val2 HVK.out.qb
        obtain ⟨A0, hfin⟩ := vh_ret HVK.out HB2.out HQ0.out (by have := HNM.out; omega) (by have := HNM.out; omega) (by have := HNM.out; omega) (by have := HNM.out; omega)
        have HFN := hide hfin
        have PC := HVK.out.pc
        have y0 := block_cell PC 0
        have y1 := block_cell PC 1
        have y2 := block_cell PC 2
        have y3 := block_cell PC 3
        have y4 := block_cell PC 4
        have y5 := block_cell PC 5
        have y6 := block_cell PC 6
        have y7 := block_cell PC 7
        have y8 := block_cell PC 8
        have x0 := block_cell A0 0
        have f0 := block_free A0 0
        have x1 := block_cell A0 1
        have f1 := block_free A0 1
        have x2 := block_cell A0 2
        have f2 := block_free A0 2
        have x3 := block_cell A0 3
        have f3 := block_free A0 3
        have x4 := block_cell A0 4
        have f4 := block_free A0 4
        have x5 := block_cell A0 5
        have f5 := block_free A0 5
        have x6 := block_cell A0 6
        have f6 := block_free A0 6
        have x7 := block_cell A0 7
        have f7 := block_free A0 7
        have x8 := block_cell A0 8
        have f8 := block_free A0 8
        have yl := block_lt PC
        have xl := block_lt A0
        simp at y0 y1 y2 y3 y4 y5 y6 y7 y8
        simp [zP] at x0 x1 x2 x3 x4 x5 x6 x7 x8
        clear A0 hfin PC HVK
        go_wp2
        obtain ⟨wf, hwf⟩ : ∃ wf, set9 wr rb (.slice aa n ca) (.slice ab m cb) (.int .i64 (q.en 0)) (.int .i64 (q.en 1)) (.int .i64 (q.en 2)) (.int .i64 (q.en 3)) (.int .i64 (q.en 4)) (.int .i64 (q.en 5)) (.slice none 0 0) = wf := ⟨_, rfl⟩
        obtain ⟨hblk, u1, u2, u3, u4, u5⟩ := HFN.out wf hwf
        unfold set9 at hwf
        rw [hwf]
        clear hwf HFN y0 y1 y2 y3 y4 y5 y6 y7 y8 x0 x1 x2 x3 x4 x5 x6 x7 x8 f0 f1 f2 f3 f4 f5 f6 f7 f8 yl xl
        have c0 := block_cell hblk 0
        have c1 := block_cell hblk 1
        have c2 := block_cell hblk 2
        have c3 := block_cell hblk 3
        have c4 := block_cell hblk 4
        have c5 := block_cell hblk 5
        have c6 := block_cell hblk 6
        have c7 := block_cell hblk 7
        have c8 := block_cell hblk 8
        simp at c0 c1 c2 c3 c4 c5 c6 c7 c8
        refine bodyPost_ret (v := .agg #[.slice aa n ca, .slice ab m cb, .int .i64 (q.en 0), .int .i64 (q.en 1), .int .i64 (q.en 2), .int .i64 (q.en 3), .int .i64 (q.en 4), .int .i64 (q.en 5), .slice none 0 0]) (by simp [results, Tryz.results90, go_sem, c0, c1, c2, c3, c4, c5, c6, c7, c8]) rfl ?_
        exact ⟨q, _, _, aa, ca, ab, cb, _, rfl, u1, u2, (by
         obtain ⟨a1, a2, a3⟩ := HFS.out
         rcases a3 with a3 | ⟨pos, e, hx⟩
         ·exact .inl a3
         ·exact .inr ⟨pos, e, hx, a1.symm, a2.symm, by rw [a1]; exact own_low u3 HB2.out.size, by rw [a2]; exact own_low u4 HB2.out.size⟩)⟩
end Go.Proofs.YtggpaljilpbmhaaGreatDoor
