import Derived.Test.YtmoklddfaocihaaDoorU37
import Derived.Test.YtmoklddfaocihaaDoorU39
namespace Go.Proofs.YtmoklddfaocihaaDoor
open Go.RowKit

/-- Four boxes. -/
theorem four_box (W : World) (o1 o2 o3 o4 : Array Value) (t1 t2 t3 t4 : TypeId) {W4 : World} (h : (((W.alloc (.cells o1 t1)).alloc (.cells o2 t2)).alloc (.cells o3 t3)).alloc (.cells o4 t4) = W4) : W4.heap[W.heap.size]? = some (.cells o1 t1 (0, 0)) ∧ W4.heap[W.heap.size + 1]? = some (.cells o2 t2 (0, 0)) ∧ W4.heap[W.heap.size + 1 + 1]? = some (.cells o3 t3 (0, 0)) ∧ W4.heap[W.heap.size + 1 + 1 + 1]? = some (.cells o4 t4 (0, 0)) ∧ Below W.heap.size W W4 := by
  obtain ⟨a1, a2, a3, b⟩ := three_box2 W o1 o2 o3 t1 t2 t3 rfl
  have b2 := below_alloc1 (((W.alloc (.cells o1 t1)).alloc (.cells o2 t2)).alloc (.cells o3 t3)) (.cells o4 t4)
  have s1 : (((W.alloc (.cells o1 t1)).alloc (.cells o2 t2)).alloc (.cells o3 t3)).heap.size = W.heap.size + 1 + 1 + 1 := by simp
  rw [h] at b2
  have a4 : W4.heap[W.heap.size + 1 + 1 + 1]? = some (.cells o4 t4 (0, 0)) := by rw [← h, ← s1]; exact alloc_atK _ _
  exact ⟨(b2.block _ (block_lt a1)).trans a1, (b2.block _ (block_lt a2)).trans a2, (b2.block _ (block_lt a3)).trans a3, a4, b.trans (b2.mono b.size)⟩
section
variable {p : Pv} {k : Kn} {ek ev : Nat → Int} {hd : Int} {s : Ms}
theorem pay_fail (t : Ms) (a b c : Int) : (t.pay a b c).fail = t.fail := by
  unfold Ms.pay
  split
  · rfl
  · split <;> rfl
/-- What a rule fails with is a number. -/
theorem step_fail (he : Me p k ek ev hd) (ht : Tm p k hd s) (ho : s.ov = false) (h : 0 ≤ s.fail ∧ s.fail < two64) : 0 ≤ (stepF p ek ev hd s).fail ∧ (stepF p ek ev hd s).fail < two64 := by
  obtain ⟨i, l, hpc, hi, hki, hst⟩ := ht.run ho
  have hin := (he.wf.ins i hi).a
  have e : s.pc.toNat = i := by omega
  obtain ⟨o, hop⟩ : ∃ o, (p.op i).toNat = o := ⟨_, rfl⟩
  rw [hop] at hin
  have hf : o = 30 ∨ o = 31 → 0 ≤ p.arg i ∧ p.arg i < two64 := fun q => by
    have hx : (decide (1 ≤ p.arg i) && decide (p.arg i ≤ 999)) = true := by
      rcases q with rfl | rfl
      · simpa [argF, fArg, formT] using hin
      · simpa [argF, fArg, formT] using hin
    simp at hx
    unfold two64
    omega
  have key : (stepF p ek ev hd s).fail = s.fail ∨ ((o = 30 ∨ o = 31) ∧ (stepF p ek ev hd s).fail = p.arg i) := by
    have hop2 : (p.op s.pc.toNat).toNat = o := by rw [e]; exact hop
    by_cases q30 : o = 30
    · subst q30
      rw [st30 hop2]
      by_cases q : s.top 0 = 1
      · rw [if_pos q]; exact .inl rfl
      · rw [if_neg q]; exact .inr ⟨.inl rfl, by show p.arg s.pc.toNat = _; rw [e]⟩
    · by_cases q31 : o = 31
      · subst q31
        rw [st31 hop2]
        exact .inr ⟨.inr rfl, by show p.arg s.pc.toNat = _; rw [e]⟩
      · left
        have ite_fail : ∀ (c : Prop) [Decidable c] (a b : Ms), a.fail = s.fail → b.fail = s.fail → (if c then a else b).fail = s.fail := fun c _ a b ha hb => by
          by_cases q : c
          · rw [if_pos q]; exact ha
          · rw [if_neg q]; exact hb
        unfold stepF
        simp only [hop2]
        rw [if_neg q30, if_neg q31]
        repeat' (first | rfl | exact pay_fail _ _ _ _ | apply ite_fail)
  rcases key with q | ⟨q, e1⟩
  · rw [q]; exact h
  · rw [e1]; exact hf q
end
theorem runN_succ {p : Pv} {ek ev : Nat → Int} {hd : Int} {s : Ms} {n : Nat} (ho : s.ov = false) : runN p ek ev hd (n + 1) s = runN p ek ev hd n (stepF p ek ev hd s) := by
  show (if s.ov = true then s else _) = _
  rw [ho]
  rfl
theorem end_step {p : Pv} {k : Kn} {e : En} {s : Ms} (he : Me p k e.ek e.ev e.x2) (ht : Tm p k e.x2 s) (ho : s.ov = false) : endS p e s = endS p e (stepF p e.ek e.ev e.x2 s) := by
  have h1 := end_ov he ht
  unfold endS at h1 ⊢
  generalize 1200000 = N at h1 ⊢
  rw [← runN_succ ho]
  exact (runN_more h1 (Nat.le_succ N)).symm
theorem end_over {p : Pv} {e : En} {s : Ms} (ho : s.ov = true) : endS p e s = s := runN_over ho
/-- The measure of a machine as it lies. -/
def cellI (w : World) (b i : Nat) : Int := match w.cell? ⟨b, i, none⟩ with
  | some (.int _ z) => z
  | _ => 0
def cellT (w : World) (b i : Nat) : Bool := match w.cell? ⟨b, i, none⟩ with
  | some (.bool z) => z
  | _ => false
def msW (rb : Nat) (w : World) : Ms := ⟨cellI w rb 18, 0, fun _ => 0, fun _ => 0, fun _ => 0, cellI w rb 21, fun _ => 0, cellT w rb 25, 0, 0⟩
def muW (p : Pv) (rb : Nat) (w : World) : Nat := mu p (msW rb w)
theorem muW_eq {c : Rc} {vS : Value} {s : Ms} {w : World} (h : Rx c vS s w) : muW c.p c.rb w = mu c.p s := by
  have e1 : cellI w c.rb 18 = s.pc := by unfold cellI; rw [(h.cell 18).trans rfl]; rfl
  have e2 : cellI w c.rb 21 = s.left := by unfold cellI; rw [(h.cell 21).trans rfl]; rfl
  have e3 : cellT w c.rb 25 = s.ov := by unfold cellT; rw [(h.cell 25).trans rfl]; rfl
  unfold muW msW mu
  simp only [e1, e2, e3]
def RunX (W : World) (p : Pv) (ev : Int) (e : En) (fuel : Int) (r : Except (Int × Int) Kn) (x : Ending) (w' : World) : Prop := match r with
  | .error (a, y) => ∃ ao cap, x = .returned (.tuple #[.agg outZ, .agg #[.slice ao 1 cap, .int .i64 y]]) ∧ Hid (y ≠ 0 ∧ ∃ b off, FV w'.heap.size w' ao [⟨⟨#[99, 111, 100, 101]⟩, a⟩] b off ∧ Below W.heap.size W w')
  | .ok _ => (isPl ev 6 = false → ∃ ao cap, x = .returned (.tuple #[.agg outZ, .agg #[.slice ao 1 cap, .int .i64 92]]) ∧ Hid (∃ b off, FV w'.heap.size w' ao [⟨⟨#[99, 111, 100, 101]⟩, 0⟩] b off ∧ Below W.heap.size W w')) ∧
    (isPl ev 6 = true → x = .returned (.tuple #[.agg (outA (endS p e (ldS p ev fuel))), .agg #[.slice none 0 0, .int .i64 0]]) ∧ Hid (Below W.heap.size W w'))
/-- What the loop of Run keeps. -/
structure Rn (c : Rc) (k : Kn) (sE : Ms) (W w0 : World) (w : World) : Prop where
  ex : ∃ s vS, Rx c vS s w ∧ Tm c.p k c.e.x2 s ∧ 0 ≤ s.fail ∧ s.fail < two64 ∧ endS c.p c.e s = sE
  b : Below c.rb w0 w
end Go.Proofs.YtmoklddfaocihaaDoor
namespace Go.Proofs.YtmoklddfaocihaaDoor
open Go.RowKit

theorem ld_fail (p : Pv) (ev fuel : Int) : 0 ≤ (ldS p ev fuel).fail ∧ (ldS p ev fuel).fail < two64 := by
  have e : (ldS p ev fuel).fail = 0 := by
    unfold ldS
    split <;> rfl
  rw [e]
  exact ⟨Int.le_refl _, by decide⟩
set_option maxRecDepth 10000 in
set_option maxHeartbeats 12800000 in
theorem runR {W : World} {g : Pg} {p : Pv} (h : g.Ok p W.heap.size W) (hC : ∀ j, j < p.nc → 0 ≤ p.C j ∧ p.C j < two64) (ev : Int) {e0 : En} (he : e0.Ok) {fuel : Int} (hf : 0 ≤ fuel) : Calls Tryd.prog 13 #[.agg (g.cs p).toArray, .int .i64 ev, .agg e0.cs.toArray, .int .u64 fuel] W (RunX W p ev e0 fuel (verF p)) := by
  have HME : Hid (∀ k, verF p = .ok k → Me p k e0.ek e0.ev e0.x2) := fun k hk => he.me hk hC
  have HTM : Hid (∀ k, verF p = .ok k → isPl ev 6 = true → Tm p k e0.x2 (ldS p ev fuel)) := fun k hk hp => ld_tm hk hp hf (he.b 2 (by decide)).1
  have HNV : Hid (∀ a y, verF p = .error (a, y) → y ≠ 0) := fun a y hv => ver_ne hv
  have HCS : g.cs p = [.slice g.ca p.nc g.cc, .slice g.sa p.ns g.sc, .int .i64 (p.en 0), .int .i64 (p.en 1), .int .i64 (p.en 2), .int .i64 (p.en 3), .int .i64 (p.en 4), .int .i64 (p.en 5), .slice g.ia p.n g.ic] := rfl
  have HEC : e0.cs = [.int .u64 e0.x0, .int .u64 e0.x1, .int .u64 e0.x2, .int .u64 e0.x3, .int .u64 e0.x4, .int .u64 e0.x5, .int .u64 e0.x6, .bool e0.x7] := rfl
  obtain ⟨W4, hW4⟩ : ∃ W4, (((W.alloc (.cells (g.cs p).toArray 27)).alloc (.cells e0.cs.toArray 44)).alloc (.cells #[.int .i64 0, .int .u64 0, .int .u64 0, .int .u64 0, .int .u64 0, .int .u64 0] 48)).alloc (.cells #[.slice none 0 0, .int .i64 0] 30) = W4 := ⟨_, rfl⟩
  obtain ⟨A1, A2, A3, A4, B4⟩ := four_box W _ _ _ _ _ _ _ _ hW4
  have HL := hide (loadR ((h.kept B4 (Nat.le_refl _)).wide B4.size) ev e0 hf)
  have HB4 := hide B4
  have HA3 := hide A3
  have HA4 := hide A4
  have HW4 := hide hW4
  rw [HCS, HEC] at HW4 HL ⊢
  rw [HCS] at A1
  rw [HEC] at A2
  obtain ⟨r, hr⟩ : ∃ r, verF p = r := ⟨_, rfl⟩
  rw [hr] at HL HME HTM HNV ⊢
  clear h B4 A3 A4 hW4 HCS HEC hr he hf hC
  have z0 := block_cell A1 0
  have z1 := block_cell A1 1
  have z2 := block_cell A1 2
  have z3 := block_cell A1 3
  have z4 := block_cell A1 4
  have z5 := block_cell A1 5
  have z6 := block_cell A1 6
  have z7 := block_cell A1 7
  have z8 := block_cell A1 8
  have zl := block_lt A1
  have y0 := block_cell A2 0
  have y1 := block_cell A2 1
  have y2 := block_cell A2 2
  have y3 := block_cell A2 3
  have y4 := block_cell A2 4
  have y5 := block_cell A2 5
  have y6 := block_cell A2 6
  have y7 := block_cell A2 7
  have yl := block_lt A2
  simp at z0 z1 z2 z3 z4 z5 z6 z7 z8 y0 y1 y2 y3 y4 y5 y6 y7
  clear A1 A2
  go_enter Tryd.func13, Tryd.ntmps13
  go_upto_region 1 with fail
  rw [HW4.out]
  clear HW4
  go_wp2_with fail
  refine HL.out.mono ?_
  clear z0 z1 z2 z3 z4 z5 z6 z7 z8 zl y0 y1 y2 y3 y4 y5 y6 y7 yl HL
  intro x w4 hh
  cases r with
  | error q =>
    obtain ⟨a, y⟩ := q
    obtain ⟨ao, cap, rfl, G⟩ := hh
    have hne : y ≠ 0 := HNV.out a y rfl
    clear HME HTM HNV
    obtain ⟨w5, hw5⟩ : ∃ w5, w4.alloc (.cells #[.slice ao 1 cap, .int .i64 y] 30) = w5 := ⟨_, rfl⟩
    have B5 : Below w4.heap.size w4 w5 := by rw [← hw5]; exact below_alloc1 _ _
    have A5 : w5.heap[w4.heap.size]? = some (.cells #[.slice ao 1 cap, .int .i64 y] 30 (0, 0)) := by rw [← hw5]; exact alloc_atK _ _
    have t0 := block_cell A5 0
    have t1 := block_cell A5 1
    have tl := block_lt A5
    simp at t0 t1
    have HA5 := hide A5
    have HW5 := hide hw5
    have HAN := hide (anyYes ao 1 cap y hne w5)
    have H5 : Hid (∃ b off, FV w5.heap.size w5 ao [⟨⟨#[99, 111, 100, 101]⟩, a⟩] b off ∧ Below W.heap.size W w5 ∧ w5.heap[W.heap.size + 1 + 1 + 1]? = some (.cells #[.slice none 0 0, .int .i64 0] 30 (0, 0)) ∧ w5.heap[W.heap.size + 1 + 1]? = some (.cells #[.int .i64 0, .int .u64 0, .int .u64 0, .int .u64 0, .int .u64 0, .int .u64 0] 48 (0, 0))) := by
      obtain ⟨b, off, hf, hb4⟩ := G.out
      have b5 := hb4.trans (B5.mono hb4.size)
      exact ⟨b, off, hf.next B5, HB4.out.trans (b5.mono HB4.out.size), (b5.block _ (block_lt HA4.out)).trans HA4.out, (b5.block _ (block_lt HA3.out)).trans HA3.out⟩
    have HNE : Hid (y ≠ 0) := hne
    clear G hw5 B5 A5 HB4 HA3 HA4 hne
    go_upto_region 2 with fail
    rw [HW5.out]
    clear HW5
    go_wp2_with fail
    refine HAN.out.mono ?_
    rintro e w6 ⟨rfl, G6⟩
    have HA7 : Hid (w6.heap[w4.heap.size]? = some (.cells #[.slice ao 1 cap, .int .i64 y] 30 (0, 0))) := (G6.out.block _ (block_lt HA5.out)).trans HA5.out
    have H6 : Hid (∃ b off, FV w6.heap.size w6 ao [⟨⟨#[99, 111, 100, 101]⟩, a⟩] b off ∧ Below W.heap.size W w6 ∧ w6.heap[W.heap.size + 1 + 1 + 1]? = some (.cells #[.slice none 0 0, .int .i64 0] 30 (0, 0)) ∧ w6.heap[W.heap.size + 1 + 1]? = some (.cells #[.int .i64 0, .int .u64 0, .int .u64 0, .int .u64 0, .int .u64 0, .int .u64 0] 48 (0, 0))) := by
      obtain ⟨b, off, hf, hb5, hx, ho⟩ := H5.out
      exact ⟨b, off, hf.next G6.out, hb5.trans (G6.out.mono hb5.size), (G6.out.block _ (block_lt hx)).trans hx, (G6.out.block _ (block_lt ho)).trans ho⟩
    clear H5 G6 HA5 HAN t0 t1 tl
    generalize w4.heap.size = tb at *
    obtain ⟨ob, hob⟩ : ∃ ob, W.heap.size + 1 + 1 = ob := ⟨_, rfl⟩
    obtain ⟨fb, hfb⟩ : ∃ fb, ob + 1 = fb := ⟨_, rfl⟩
    rw [hob, hfb] at H6
    rw [hob, hfb]
    have HFB : Hid (W.heap.size ≤ fb ∧ ob ≠ fb) := by constructor <;> omega
    clear hfb hob
    go_upto_region 3 with fail
    obtain ⟨wz, hwz⟩ : ∃ wz, (w6).drew = wz := ⟨_, rfl⟩
    have HS9 : Hid ((fun (w : World) => w.cell? ⟨tb, 0, none⟩ = some (.slice ao 1 cap) ∧ w.cell? ⟨tb, 1, none⟩ = some (.int .i64 y) ∧ tb < w.heap.size) wz) := by rw [← hwz]; exact ⟨(block_cell HA7.out 0).trans rfl, (block_cell HA7.out 1).trans rfl, block_lt HA7.out⟩
    refine wp_region_L 3 (fun (w : World) => w.cell? ⟨tb, 0, none⟩ = some (.slice ao 1 cap) ∧ w.cell? ⟨tb, 1, none⟩ = some (.int .i64 y) ∧ tb < w.heap.size) (fun _ => True) (by kernel_rfl) (by rw [hwz]; exact HS9.out) trivial (fun hS0 => ?_)
    rw [hwz] at hS0 ⊢
    refine wpAnyL_take (i := 0) (oi := { dst := some 24, op := Op.build 48 #[], type := 48, pos := "run.go:250", after := #[], guard := none }) (v := .agg #[.int .i64 0, .int .u64 0, .int .u64 0, .int .u64 0, .int .u64 0, .int .u64 0]) rfl (by decide) (by kernel_rfl) (by kernel_rfl) (by kernel_rfl) (fun _ _ _ h => h) (Or.inl ⟨by rfl, fun w2 hSw => ?_⟩) hS0 (fun hS1 => ?_)
    · go_simp
    simp only [Act.put, List.setIfInBounds_toArray, List.set_cons_zero, List.set_cons_succ]
    clear hS0
    refine wpAnyL_takeP [3] (i := 1) (oi := { dst := some 25, op := Op.load 30 (Operand.tmp 11), type := 30, pos := "run.go:250", after := #[{ on := 2, ground := Ground.gcOnly Departure.lateStores }], guard := none }) (v := .agg #[.slice ao 1 cap, .int .i64 y]) rfl (by decide) (by kernel_rfl) (by kernel_rfl) (by kernel_rfl) (by kernel_rfl) (by kernel_rfl) (fun _ _ _ h => h) (Or.inl ⟨by rfl, fun w2 hSw => ?_⟩) hS1 (fun hS2 => ?_)
    · obtain ⟨k0, k1, kl⟩ := hSw
      go_simp
    simp only [Act.put, List.setIfInBounds_toArray, List.set_cons_zero, List.set_cons_succ]
    clear hS1
    obtain ⟨b, off, hf, hb6, hx6, ho6⟩ := H6.out
    have X7 : wz.heap[fb]? = some (.cells #[.slice none 0 0, .int .i64 0] 30 (0, 0)) := by rw [← hwz]; exact hx6
    have O7 : wz.heap[ob]? = some (.cells #[.int .i64 0, .int .u64 0, .int .u64 0, .int .u64 0, .int .u64 0, .int .u64 0] 48 (0, 0)) := by rw [← hwz]; exact ho6
    have F7 : Hid (FV wz.heap.size wz ao [⟨⟨#[99, 111, 100, 101]⟩, a⟩] b off ∧ Below W.heap.size W wz ∧ wz.heap[fb]? = some (.cells #[.slice none 0 0, .int .i64 0] 30 (0, 0))) := by rw [← hwz]; exact ⟨hf.next (Below.refl _ _).drew, hb6.drew, hx6⟩
    have e0 : wz.setCell ⟨ob, 0, none⟩ (.int .i64 0) = wz := set_same O7 rfl
    have E0 := hide e0
    have e1 : wz.setCell ⟨ob, 1, none⟩ (.int .u64 0) = wz := set_same O7 rfl
    have E1 := hide e1
    have e2 : wz.setCell ⟨ob, 2, none⟩ (.int .u64 0) = wz := set_same O7 rfl
    have E2 := hide e2
    have e3 : wz.setCell ⟨ob, 3, none⟩ (.int .u64 0) = wz := set_same O7 rfl
    have E3 := hide e3
    have e4 : wz.setCell ⟨ob, 4, none⟩ (.int .u64 0) = wz := set_same O7 rfl
    have E4 := hide e4
    have e5 : wz.setCell ⟨ob, 5, none⟩ (.int .u64 0) = wz := set_same O7 rfl
    have E5 := hide e5
    have q0 := block_cell O7 0
    have qf0 := block_free O7 0
    have q1 := block_cell O7 1
    have qf1 := block_free O7 1
    have q2 := block_cell O7 2
    have qf2 := block_free O7 2
    have q3 := block_cell O7 3
    have qf3 := block_free O7 3
    have q4 := block_cell O7 4
    have qf4 := block_free O7 4
    have q5 := block_cell O7 5
    have qf5 := block_free O7 5
    have ql := block_lt O7
    have HO7 := hide O7
    have s0 := block_cell X7 0
    have s1 := block_cell X7 1
    have sf0 := block_free X7 0
    have sf1 := block_free X7 1
    have sl := block_lt X7
    simp at s0 s1 q0 q1 q2 q3 q4 q5
    clear hf hb6 hx6 ho6 X7 O7 e0 e1 e2 e3 e4 e5
    refine wpAnyL_one (i := 2) (o := { dst := none, op := Op.store 48 (Operand.tmp 8) (Operand.tmp 24), type := 0, pos := "run.go:250", after := #[{ on := 0, ground := Ground.data }, { on := 0, ground := Ground.phase }, { on := 1, ground := Ground.textOnly Departure.lateStores }], guard := none }) (by kernel_rfl) rfl (fun K hK => ?_)
    go_simp
    go_wp2_with fail
    rw [E0.out, E1.out, E2.out, E3.out, E4.out, E5.out]
    refine hK.out _ _ ⟨fun _ => HS9.out, trivial⟩ ?_
    clear hK K
    refine wpAnyL_one (i := 3) (o := { dst := none, op := Op.store 30 (Operand.tmp 9) (Operand.tmp 25), type := 0, pos := "run.go:250", after := #[{ on := 1, ground := Ground.data }, { on := 2, ground := Ground.chain }, { on := 0, ground := Ground.phase }, { on := 1, ground := Ground.phase }, { on := 2, ground := Ground.phase }], guard := none }) (by kernel_rfl) rfl (fun K hK => ?_)
    go_simp
    go_wp2_with fail
    refine hK.out _ _ ⟨fun h => (by cases (show true = false from h)), trivial⟩ ?_
    clear hK K
    refine wpAnyL_done (by kernel_rfl) ?_ _
    clear HS9
    generalize hwf : World.setCell _ _ _ = wf
    obtain ⟨hr1, hr2, hr3⟩ := fault_set F7.out.2.2 F7.out.1 F7.out.2.1 HFB.out.1 hwf
    have hgr : wz.grownBy wf (some fb) := by rw [← hwf]; exact grown_tr (grown_setT _ _ _ _) (grown_setT _ _ _ _)
    have hro := (hgr.block _ (block_lt HO7.out) (by simpa using HFB.out.2)).trans HO7.out
    clear hwf hgr s0 s1 sf0 sf1 sl q0 q1 q2 q3 q4 q5 qf0 qf1 qf2 qf3 qf4 qf5 ql
    have d0 := block_cell hr1 0
    have d1 := block_cell hr1 1
    have c0 := block_cell hro 0
    have c1 := block_cell hro 1
    have c2 := block_cell hro 2
    have c3 := block_cell hro 3
    have c4 := block_cell hro 4
    have c5 := block_cell hro 5
    simp at d0 d1 c0 c1 c2 c3 c4 c5
    have HE : Hid (∃ b off, FV wf.heap.size wf ao [⟨⟨#[99, 111, 100, 101]⟩, a⟩] b off ∧ Below W.heap.size W wf) := ⟨b, off, hr2, hr3⟩
    clear hr1 hr2 hr3 hro
    go_wp2
    refine bodyPost_ret (v := .tuple #[.agg #[.int .i64 0, .int .u64 0, .int .u64 0, .int .u64 0, .int .u64 0, .int .u64 0], .agg #[.slice ao 1 cap, .int .i64 y]]) (by simp [results, Tryd.results13, go_sem, d0, d1, c0, c1, c2, c3, c4, c5]) rfl ?_

    exact ⟨ao, cap, rfl, HNE.out, HE.out⟩
  | ok k =>
    clear HNV
    cases hpl : isPl ev 6 with
    | false =>
      obtain ⟨ao, cap, rfl, G⟩ := hh.1 hpl
      have HPL := hide hpl
      clear hh hpl HME HTM
      obtain ⟨a, ha⟩ : ∃ a : Int, 0 = a := ⟨_, rfl⟩
      obtain ⟨y, hy⟩ : ∃ y : Int, 92 = y := ⟨_, rfl⟩
      have hne : y ≠ 0 := by omega
      rw [ha] at G
      rw [hy]
      have HAY : Hid ((0 : Int) = a ∧ (92 : Int) = y) := ⟨ha, hy⟩
      clear ha hy
      obtain ⟨w5, hw5⟩ : ∃ w5, w4.alloc (.cells #[.slice ao 1 cap, .int .i64 y] 30) = w5 := ⟨_, rfl⟩
      have B5 : Below w4.heap.size w4 w5 := by rw [← hw5]; exact below_alloc1 _ _
      have A5 : w5.heap[w4.heap.size]? = some (.cells #[.slice ao 1 cap, .int .i64 y] 30 (0, 0)) := by rw [← hw5]; exact alloc_atK _ _
      have t0 := block_cell A5 0
      have t1 := block_cell A5 1
      have tl := block_lt A5
      simp at t0 t1
      have HA5 := hide A5
      have HW5 := hide hw5
      have HAN := hide (anyYes ao 1 cap y hne w5)
      have H5 : Hid (∃ b off, FV w5.heap.size w5 ao [⟨⟨#[99, 111, 100, 101]⟩, a⟩] b off ∧ Below W.heap.size W w5 ∧ w5.heap[W.heap.size + 1 + 1 + 1]? = some (.cells #[.slice none 0 0, .int .i64 0] 30 (0, 0)) ∧ w5.heap[W.heap.size + 1 + 1]? = some (.cells #[.int .i64 0, .int .u64 0, .int .u64 0, .int .u64 0, .int .u64 0, .int .u64 0] 48 (0, 0))) := by
        obtain ⟨b, off, hf, hb4⟩ := G.out
        have b5 := hb4.trans (B5.mono hb4.size)
        exact ⟨b, off, hf.next B5, HB4.out.trans (b5.mono HB4.out.size), (b5.block _ (block_lt HA4.out)).trans HA4.out, (b5.block _ (block_lt HA3.out)).trans HA3.out⟩
      have HNE : Hid (y ≠ 0) := hne
      clear G hw5 B5 A5 HB4 HA3 HA4 hne
      go_upto_region 2 with fail
      rw [HW5.out]
      clear HW5
      go_wp2_with fail
      refine HAN.out.mono ?_
      rintro e w6 ⟨rfl, G6⟩
      have HA7 : Hid (w6.heap[w4.heap.size]? = some (.cells #[.slice ao 1 cap, .int .i64 y] 30 (0, 0))) := (G6.out.block _ (block_lt HA5.out)).trans HA5.out
      have H6 : Hid (∃ b off, FV w6.heap.size w6 ao [⟨⟨#[99, 111, 100, 101]⟩, a⟩] b off ∧ Below W.heap.size W w6 ∧ w6.heap[W.heap.size + 1 + 1 + 1]? = some (.cells #[.slice none 0 0, .int .i64 0] 30 (0, 0)) ∧ w6.heap[W.heap.size + 1 + 1]? = some (.cells #[.int .i64 0, .int .u64 0, .int .u64 0, .int .u64 0, .int .u64 0, .int .u64 0] 48 (0, 0))) := by
        obtain ⟨b, off, hf, hb5, hx, ho⟩ := H5.out
        exact ⟨b, off, hf.next G6.out, hb5.trans (G6.out.mono hb5.size), (G6.out.block _ (block_lt hx)).trans hx, (G6.out.block _ (block_lt ho)).trans ho⟩
      clear H5 G6 HA5 HAN t0 t1 tl
      generalize w4.heap.size = tb at *
      obtain ⟨ob, hob⟩ : ∃ ob, W.heap.size + 1 + 1 = ob := ⟨_, rfl⟩
      obtain ⟨fb, hfb⟩ : ∃ fb, ob + 1 = fb := ⟨_, rfl⟩
      rw [hob, hfb] at H6
      rw [hob, hfb]
      have HFB : Hid (W.heap.size ≤ fb ∧ ob ≠ fb) := by constructor <;> omega
      clear hfb hob
      go_upto_region 3 with fail
      obtain ⟨wz, hwz⟩ : ∃ wz, (w6).drew = wz := ⟨_, rfl⟩
      have HS9 : Hid ((fun (w : World) => w.cell? ⟨tb, 0, none⟩ = some (.slice ao 1 cap) ∧ w.cell? ⟨tb, 1, none⟩ = some (.int .i64 y) ∧ tb < w.heap.size) wz) := by rw [← hwz]; exact ⟨(block_cell HA7.out 0).trans rfl, (block_cell HA7.out 1).trans rfl, block_lt HA7.out⟩
      refine wp_region_L 3 (fun (w : World) => w.cell? ⟨tb, 0, none⟩ = some (.slice ao 1 cap) ∧ w.cell? ⟨tb, 1, none⟩ = some (.int .i64 y) ∧ tb < w.heap.size) (fun _ => True) (by kernel_rfl) (by rw [hwz]; exact HS9.out) trivial (fun hS0 => ?_)
      rw [hwz] at hS0 ⊢
      refine wpAnyL_take (i := 0) (oi := { dst := some 24, op := Op.build 48 #[], type := 48, pos := "run.go:250", after := #[], guard := none }) (v := .agg #[.int .i64 0, .int .u64 0, .int .u64 0, .int .u64 0, .int .u64 0, .int .u64 0]) rfl (by decide) (by kernel_rfl) (by kernel_rfl) (by kernel_rfl) (fun _ _ _ h => h) (Or.inl ⟨by rfl, fun w2 hSw => ?_⟩) hS0 (fun hS1 => ?_)
      · go_simp
      simp only [Act.put, List.setIfInBounds_toArray, List.set_cons_zero, List.set_cons_succ]
      clear hS0
      refine wpAnyL_takeP [3] (i := 1) (oi := { dst := some 25, op := Op.load 30 (Operand.tmp 11), type := 30, pos := "run.go:250", after := #[{ on := 2, ground := Ground.gcOnly Departure.lateStores }], guard := none }) (v := .agg #[.slice ao 1 cap, .int .i64 y]) rfl (by decide) (by kernel_rfl) (by kernel_rfl) (by kernel_rfl) (by kernel_rfl) (by kernel_rfl) (fun _ _ _ h => h) (Or.inl ⟨by rfl, fun w2 hSw => ?_⟩) hS1 (fun hS2 => ?_)
      · obtain ⟨k0, k1, kl⟩ := hSw
        go_simp
      simp only [Act.put, List.setIfInBounds_toArray, List.set_cons_zero, List.set_cons_succ]
      clear hS1
      obtain ⟨b, off, hf, hb6, hx6, ho6⟩ := H6.out
      have X7 : wz.heap[fb]? = some (.cells #[.slice none 0 0, .int .i64 0] 30 (0, 0)) := by rw [← hwz]; exact hx6
      have O7 : wz.heap[ob]? = some (.cells #[.int .i64 0, .int .u64 0, .int .u64 0, .int .u64 0, .int .u64 0, .int .u64 0] 48 (0, 0)) := by rw [← hwz]; exact ho6
      have F7 : Hid (FV wz.heap.size wz ao [⟨⟨#[99, 111, 100, 101]⟩, a⟩] b off ∧ Below W.heap.size W wz ∧ wz.heap[fb]? = some (.cells #[.slice none 0 0, .int .i64 0] 30 (0, 0))) := by rw [← hwz]; exact ⟨hf.next (Below.refl _ _).drew, hb6.drew, hx6⟩
      have e0 : wz.setCell ⟨ob, 0, none⟩ (.int .i64 0) = wz := set_same O7 rfl
      have E0 := hide e0
      have e1 : wz.setCell ⟨ob, 1, none⟩ (.int .u64 0) = wz := set_same O7 rfl
      have E1 := hide e1
      have e2 : wz.setCell ⟨ob, 2, none⟩ (.int .u64 0) = wz := set_same O7 rfl
      have E2 := hide e2
      have e3 : wz.setCell ⟨ob, 3, none⟩ (.int .u64 0) = wz := set_same O7 rfl
      have E3 := hide e3
      have e4 : wz.setCell ⟨ob, 4, none⟩ (.int .u64 0) = wz := set_same O7 rfl
      have E4 := hide e4
      have e5 : wz.setCell ⟨ob, 5, none⟩ (.int .u64 0) = wz := set_same O7 rfl
      have E5 := hide e5
      have q0 := block_cell O7 0
      have qf0 := block_free O7 0
      have q1 := block_cell O7 1
      have qf1 := block_free O7 1
      have q2 := block_cell O7 2
      have qf2 := block_free O7 2
      have q3 := block_cell O7 3
      have qf3 := block_free O7 3
      have q4 := block_cell O7 4
      have qf4 := block_free O7 4
      have q5 := block_cell O7 5
      have qf5 := block_free O7 5
      have ql := block_lt O7
      have HO7 := hide O7
      have s0 := block_cell X7 0
      have s1 := block_cell X7 1
      have sf0 := block_free X7 0
      have sf1 := block_free X7 1
      have sl := block_lt X7
      simp at s0 s1 q0 q1 q2 q3 q4 q5
      clear hf hb6 hx6 ho6 X7 O7 e0 e1 e2 e3 e4 e5
      refine wpAnyL_one (i := 2) (o := { dst := none, op := Op.store 48 (Operand.tmp 8) (Operand.tmp 24), type := 0, pos := "run.go:250", after := #[{ on := 0, ground := Ground.data }, { on := 0, ground := Ground.phase }, { on := 1, ground := Ground.textOnly Departure.lateStores }], guard := none }) (by kernel_rfl) rfl (fun K hK => ?_)
      go_simp
      go_wp2_with fail
      rw [E0.out, E1.out, E2.out, E3.out, E4.out, E5.out]
      refine hK.out _ _ ⟨fun _ => HS9.out, trivial⟩ ?_
      clear hK K
      refine wpAnyL_one (i := 3) (o := { dst := none, op := Op.store 30 (Operand.tmp 9) (Operand.tmp 25), type := 0, pos := "run.go:250", after := #[{ on := 1, ground := Ground.data }, { on := 2, ground := Ground.chain }, { on := 0, ground := Ground.phase }, { on := 1, ground := Ground.phase }, { on := 2, ground := Ground.phase }], guard := none }) (by kernel_rfl) rfl (fun K hK => ?_)
      go_simp
      go_wp2_with fail
      refine hK.out _ _ ⟨fun h => (by cases (show true = false from h)), trivial⟩ ?_
      clear hK K
      refine wpAnyL_done (by kernel_rfl) ?_ _
      clear HS9
      generalize hwf : World.setCell _ _ _ = wf
      obtain ⟨hr1, hr2, hr3⟩ := fault_set F7.out.2.2 F7.out.1 F7.out.2.1 HFB.out.1 hwf
      have hgr : wz.grownBy wf (some fb) := by rw [← hwf]; exact grown_tr (grown_setT _ _ _ _) (grown_setT _ _ _ _)
      have hro := (hgr.block _ (block_lt HO7.out) (by simpa using HFB.out.2)).trans HO7.out
      clear hwf hgr s0 s1 sf0 sf1 sl q0 q1 q2 q3 q4 q5 qf0 qf1 qf2 qf3 qf4 qf5 ql
      have d0 := block_cell hr1 0
      have d1 := block_cell hr1 1
      have c0 := block_cell hro 0
      have c1 := block_cell hro 1
      have c2 := block_cell hro 2
      have c3 := block_cell hro 3
      have c4 := block_cell hro 4
      have c5 := block_cell hro 5
      simp at d0 d1 c0 c1 c2 c3 c4 c5
      have HE : Hid (∃ b off, FV wf.heap.size wf ao [⟨⟨#[99, 111, 100, 101]⟩, a⟩] b off ∧ Below W.heap.size W wf) := ⟨b, off, hr2, hr3⟩
      clear hr1 hr2 hr3 hro
      go_wp2
      refine bodyPost_ret (v := .tuple #[.agg #[.int .i64 0, .int .u64 0, .int .u64 0, .int .u64 0, .int .u64 0, .int .u64 0], .agg #[.slice ao 1 cap, .int .i64 y]]) (by simp [results, Tryd.results13, go_sem, d0, d1, c0, c1, c2, c3, c4, c5]) rfl ?_

      refine ⟨fun _ => ⟨ao, cap, by rw [HAY.out.2]; rfl, ?_⟩, fun q => (by rw [HPL.out] at q; cases q)⟩
      rw [HAY.out.1]
      exact HE
    | true =>
      obtain ⟨rb, rfl, G⟩ := hh.2 hpl
      obtain ⟨c, vS, hrx, hcp, hce, hcr, hlo, hbl⟩ := G.out
      obtain ⟨w5, hw5⟩ : ∃ w5, w4.alloc (.cells #[.slice none 0 0, .int .i64 0] 30) = w5 := ⟨_, rfl⟩
      have B5 : Below w4.heap.size w4 w5 := by rw [← hw5]; exact below_alloc1 _ _
      have A5 : w5.heap[w4.heap.size]? = some (.cells #[.slice none 0 0, .int .i64 0] 30 (0, 0)) := by rw [← hw5]; exact alloc_atK _ _
      have t0 := block_cell A5 0
      have t1 := block_cell A5 1
      have tl := block_lt A5
      simp at t0 t1
      have HW5 := hide hw5
      have HAN := hide (anyNo w5)
      have HPL := hide hpl
      have me := HME.out k rfl
      have tm := HTM.out k rfl hpl
      have H5 : Hid (Rx c vS (ldS p ev fuel) w5 ∧ Below W4.heap.size W4 w5) := ⟨hrx.next B5, hbl.trans (B5.mono hbl.size)⟩
      have HCC : Hid (c.p = p ∧ c.e = e0 ∧ c.rb = rb ∧ W4.heap.size ≤ rb) := ⟨hcp, hce, hcr, by rw [← hcr]; exact hlo⟩
      have hm2 : Me c.p k c.e.ek c.e.ev c.e.x2 := by rw [hcp, hce]; exact me
      have ht2 : Tm c.p k c.e.x2 (ldS p ev fuel) := by rw [hcp, hce]; exact tm
      have HM2 := hide hm2
      have HT2 := hide ht2
      clear hh hpl G hrx hcp hce hcr hlo hbl hw5 B5 A5 me tm hm2 ht2 HME HTM
      go_upto_region 2 with fail
      rw [HW5.out]
      clear HW5
      go_wp2_with fail
      refine HAN.out.mono ?_
      rintro e w6 ⟨rfl, G6⟩
      obtain ⟨sE, hsE⟩ : ∃ sE, endS p e0 (ldS p ev fuel) = sE := ⟨_, rfl⟩
      have HSE := hide hsE
      have HL0 : Hid (Rn c k sE W w6 w6) := by
        refine ⟨⟨ldS p ev fuel, vS, H5.out.1.next G6.out, HT2.out, ?_, ?_, ?_⟩, Below.refl _ _⟩
        · exact (ld_fail p ev fuel).1
        · exact (ld_fail p ev fuel).2
        · rw [HCC.out.1, HCC.out.2.1]; exact hsE
      have HB6 : Hid (Below W4.heap.size W4 w6) := H5.out.2.trans (G6.out.mono H5.out.2.size)
      clear H5 G6 HAN t0 t1 tl HT2 hsE
      go_upto_region 4 with fail
      go_loopw [27] (fun _ wr => Hid (Rn c k sE W w6 wr)) (fun _ wr => muW c.p rb wr)
      case atStart => exact HL0
      case round =>
        clear HL0
        have HR := hide hrel.out
        obtain ⟨s, vT, hrx, htm, hf0, hf1, hes⟩ := HR.out.ex
        cases hov : s.ov with
        | false =>
          have HST : Hid (Calls Tryd.prog 22 #[.pointer (some ⟨rb, 0, none⟩)] wr fun e w' => e = .returned (.bool true) ∧ Hid (∃ vT, Rx c vT (stepF c.p c.e.ek c.e.ev c.e.x2 s) w' ∧ Below c.rb wr w')) := by
            show Calls _ _ _ _ _
            rw [← HCC.out.2.2.1]
            exact stepR HM2.out htm hov hrx
          have hst := step_tm HM2.out htm hov
          have hfl := step_fail HM2.out htm hov ⟨hf0, hf1⟩
          have hee := end_step HM2.out htm hov
          have HRB := HCC.out.2.2.1
          have HNX : Hid (∀ w' vT, Rx c vT (stepF c.p c.e.ek c.e.ev c.e.x2 s) w' → Below c.rb wr w' → Rn c k sE W w6 w' ∧ muW c.p rb w' < muW c.p rb wr) := fun w' vT h1 h2 => by
            refine ⟨⟨⟨_, vT, h1, hst.1, hfl.1, hfl.2, hee.symm.trans hes⟩, HR.out.b.trans h2⟩, ?_⟩
            rw [← HRB, muW_eq h1, muW_eq hrx]
            exact hst.2
          clear hrx htm hf0 hf1 hes hov hst hfl hee HRB HR
          go_wp2_with fail
          refine HST.out.mono ?_
          rintro x wb ⟨rfl, Gb⟩
          obtain ⟨vU, g1, g2⟩ := Gb.out
          have HN := hide (HNX.out wb vU g1 g2)
          clear g1 g2 Gb HST HNX
          go_wp2
          go_roundw
          case rel => exact hide HN.out.1
          case measure => exact HN.out.2
        | true =>
          have HST : Hid (Calls Tryd.prog 22 #[.pointer (some ⟨rb, 0, none⟩)] wr fun e w' => e = .returned (.bool false) ∧ w' = wr) := by
            show Calls _ _ _ _ _
            rw [← HCC.out.2.2.1]
            exact stepO hrx hov
          have HOU : Hid (Calls Tryd.prog 18 #[.pointer (some ⟨rb, 0, none⟩)] wr fun e w' => e = .returned (.tuple #[.agg (outA sE), .bool true]) ∧ Hid (Below wr.heap.size wr w')) := by
            have q := outcomeR hrx HCC.out.2.2.1 hf0 hf1
            have e1 : outO s = outA sE := by rw [← hes, end_over hov]; unfold outO; rw [hov]; rfl
            rw [e1, hov] at q
            exact q
          have HBR : Hid (Below W4.heap.size W4 wr) := HB6.out.trans (HR.out.b.mono (by rw [HCC.out.2.2.1]; exact HCC.out.2.2.2))
          clear hrx htm hf0 hf1 hes hov HR
          go_wp2_with fail
          refine HST.out.mono ?_
          rintro x wb ⟨rfl, hwb⟩
          rw [hwb]
          clear hwb wb HST
          go_wp2_with fail
          refine HOU.out.mono ?_
          rintro x wb ⟨rfl, Gb⟩
          have HBB : Hid (Below W4.heap.size W4 wb) := HBR.out.trans (Gb.out.mono HBR.out.size)
          have HOA : Hid (outA sE = #[.int .i64 sE.en, .int .u64 sE.fail, .int .u64 (if sE.en = 0 then sE.paid 0 else 0), .int .u64 (if sE.en = 0 then sE.paid 1 else 0), .int .u64 (if sE.en = 0 then sE.paid 2 else 0), .int .u64 sE.left]) := rfl
          clear Gb HBR HOU
          generalize (if sE.en = 0 then sE.paid 0 else 0) = p0 at *
          generalize (if sE.en = 0 then sE.paid 1 else 0) = p1 at *
          generalize (if sE.en = 0 then sE.paid 2 else 0) = p2 at *
          rw [HOA.out]
          generalize sE.en = E0 at *
          generalize sE.fail = E1 at *
          generalize sE.left = E5 at *
          obtain ⟨wc, hwc⟩ : ∃ wc, wb.alloc (.cells #[.int .i64 E0, .int .u64 E1, .int .u64 p0, .int .u64 p1, .int .u64 p2, .int .u64 E5] 48) = wc := ⟨_, rfl⟩
          have BC : Below wb.heap.size wb wc := by rw [← hwc]; exact below_alloc1 _ _
          have AC : wc.heap[wb.heap.size]? = some (.cells #[.int .i64 E0, .int .u64 E1, .int .u64 p0, .int .u64 p1, .int .u64 p2, .int .u64 E5] 48 (0, 0)) := by rw [← hwc]; exact alloc_atK _ _
          have HBC : Hid (Below W4.heap.size W4 wc) := HBB.out.trans (BC.mono HBB.out.size)
          have HWC := hide hwc
          clear hwc BC HBB
          go_upto_region 6 with fail
          rw [HWC.out]
          clear HWC
          have X := (HBC.out.block _ (block_lt HA4.out)).trans HA4.out
          have z := (HBC.out.block _ (block_lt HA3.out)).trans HA3.out
          have HZ := hide z
          have HX := hide X
          have HBW : Hid (Below W.heap.size W wc) := HB4.out.trans (HBC.out.mono HB4.out.size)
          have v0 := block_cell z 0
          have v1 := block_cell z 1
          have v2 := block_cell z 2
          have v3 := block_cell z 3
          have v4 := block_cell z 4
          have v5 := block_cell z 5
          have g0 := block_free z 0
          have g1 := block_free z 1
          have g2 := block_free z 2
          have g3 := block_free z 3
          have g4 := block_free z 4
          have g5 := block_free z 5
          have vl := block_lt z
          have s0 := block_cell X 0
          have s1 := block_cell X 1
          have sf0 := block_free X 0
          have sf1 := block_free X 1
          have sl := block_lt X
          have u0 := block_cell AC 0
          have u1 := block_cell AC 1
          have u2 := block_cell AC 2
          have u3 := block_cell AC 3
          have u4 := block_cell AC 4
          have u5 := block_cell AC 5
          have ul := block_lt AC
          simp at v0 v1 v2 v3 v4 v5 s0 s1 u0 u1 u2 u3 u4 u5
          have n1 : ¬ W.heap.size + 1 + 1 = W.heap.size + 1 + 1 + 1 := by omega
          have n2 : ¬ W.heap.size + 1 + 1 + 1 = W.heap.size + 1 + 1 := by omega
          clear z X AC HBC HB6
          go_wp2
          generalize hwf : World.setCell _ _ _ = wf
          obtain ⟨r1, r2, r3⟩ : wf.heap[W.heap.size + 1 + 1]? = some (.cells #[.int .i64 E0, .int .u64 E1, .int .u64 p0, .int .u64 p1, .int .u64 p2, .int .u64 E5] 48 (0, 0)) ∧ wf.heap[W.heap.size + 1 + 1 + 1]? = some (.cells #[.slice none 0 0, .int .i64 0] 30 (0, 0)) ∧ Below W.heap.size W wf := by
            obtain ⟨wx, hwx⟩ : ∃ wx, (((((wc.setCell ⟨W.heap.size + 1 + 1, 0, none⟩ (.int .i64 E0)).setCell ⟨W.heap.size + 1 + 1, 1, none⟩ (.int .u64 E1)).setCell ⟨W.heap.size + 1 + 1, 2, none⟩ (.int .u64 p0)).setCell ⟨W.heap.size + 1 + 1, 3, none⟩ (.int .u64 p1)).setCell ⟨W.heap.size + 1 + 1, 4, none⟩ (.int .u64 p2)).setCell ⟨W.heap.size + 1 + 1, 5, none⟩ (.int .u64 E5) = wx := ⟨_, rfl⟩
            obtain ⟨k1, k2, k3⟩ := set6 rfl HZ.out HBW.out (by omega) _ _ _ _ _ _ hwx
            have fx := (k3.block _ (block_lt HX.out) (by simp)).trans HX.out
            rw [hwx, set_same fx rfl, set_same fx rfl] at hwf
            subst hwf
            exact ⟨k1, fx, k2⟩
          clear hwf v0 v1 v2 v3 v4 v5 g0 g1 g2 g3 g4 g5 vl s0 s1 sf0 sf1 sl u0 u1 u2 u3 u4 u5 ul
          have c0 := block_cell r1 0
          have c1 := block_cell r1 1
          have c2 := block_cell r1 2
          have c3 := block_cell r1 3
          have c4 := block_cell r1 4
          have c5 := block_cell r1 5
          have d0 := block_cell r2 0
          have d1 := block_cell r2 1
          simp at c0 c1 c2 c3 c4 c5 d0 d1
          refine bodyPost_ret (v := .tuple #[.agg #[.int .i64 E0, .int .u64 E1, .int .u64 p0, .int .u64 p1, .int .u64 p2, .int .u64 E5], .agg #[.slice none 0 0, .int .i64 0]]) (by simp [results, Tryd.results13, go_sem, d0, d1, c0, c1, c2, c3, c4, c5]) rfl ?_
          exact ⟨fun q => (by rw [HPL.out] at q; cases q), fun _ => ⟨by rw [HSE.out, HOA.out], r3⟩⟩

end Go.Proofs.YtmoklddfaocihaaDoor
