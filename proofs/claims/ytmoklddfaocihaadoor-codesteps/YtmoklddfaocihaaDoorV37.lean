import Derived.Test.YtmoklddfaocihaaDoorV36
import Derived.Test.YtmoklddfaocihaaDoorV18
namespace Go.Proofs.YtmoklddfaocihaaDoor
open Go.RowKit Go.Sort

/-- The numbers on top, the lowest first. -/
def Ms.tops (s : Ms) (n j : Nat) : Int := s.sv (s.h - n + j)
theorem tk_len {p : Pv} {i o : Nat} (ho : (p.op i).toNat = o) (h : o ≤ 32) : (tkB p i).length = (rTakes o).length := by
 rw [tk_of ho, ← colB_takes p o h (p.arg i), List.length_map]
/-- Behind the numbers that were taken. -/
structure Ex (c : Rc) (rb : Nat) (vT : Value) (s : Ms) (w : World) (n : Nat) (X : Nat → Int) (vV : Value) (o : Nat) (a : Int) (xb : Nat) (w7 : World) : Prop where
 rx : Rx c vT s w7
 b : Bk rb w w7
 x0 : w7.cell? ⟨xb, 0, none⟩ = some (.int .i64 (o : Nat))
 x1 : w7.cell? ⟨xb, 1, none⟩ = some (.int .i64 a)
 xl : xb < w7.heap.size
 xr : rb < xb
 tk : 0 < n → ∃ vb vc, vV = .slice (some ⟨vb, 0, none⟩) n vc ∧ Tk vb n X w7 ∧ rb < vb
theorem Ex.next {c : Rc} {rb : Nat} {vT : Value} {s : Ms} {w w7 w8 : World} {n : Nat} {X : Nat → Int} {vV : Value} {o : Nat} {a : Int} {xb : Nat} (h : Ex c rb vT s w n X vV o a xb w7) (hb : Below w7.heap.size w7 w8) : Ex c rb vT s w n X vV o a xb w8 :=
 ⟨h.rx.next hb, h.b.trans (Bk.grew hb (Nat.le_of_lt (Nat.lt_trans h.xr h.xl))), (hb.cell (p := ⟨xb, 0, none⟩) h.xl).trans h.x0, (hb.cell (p := ⟨xb, 1, none⟩) h.xl).trans h.x1, Nat.lt_of_lt_of_le h.xl hb.size, h.xr, fun q => by
  obtain ⟨vb, vc, e, t, l⟩ := h.tk q
  exact ⟨vb, vc, e, t.below hb t.l, l⟩⟩
theorem Rx.leftR {c : Rc} {vS : Value} {s : Ms} {w : World} (h : Rx c vS s w) (x : Int) : Rx c vS { s with left := x } (w.setCell ⟨c.rb, 21, none⟩ (.int .u64 x)) ∧ Bk c.rb w (w.setCell ⟨c.rb, 21, none⟩ (.int .u64 x)) := h.set (s' := { s with left := x }) rfl rfl rfl rfl rfl
theorem cmpQ (w7 : World) {o : Nat} (h9 : 9 ≤ o) (h16 : o ≤ 16) (a b : Int) : ∀ d9 os9, Calls Tryd.prog 54 #[.int .i64 (o : Nat), .int .u64 a, .int .u64 b] (grow (redrawn w7 d9) os9) fun e w'' => e = .returned (.bool (cmpB o a b)) ∧ ∃ p : Regrown, w'' = grow (redrawn w7 p.d) p.os := fun d9 os9 =>
 (compareR h9 h16 a b _).mono fun _ _ hh => ⟨hh.1, ⟨⟨d9, os9⟩, hh.2⟩⟩
theorem truQ (w7 : World) (b : Bool) : ∀ d9 os9, Calls Tryd.prog 51 #[.bool b] (grow (redrawn w7 d9) os9) fun e w'' => e = .returned (.int .u64 (bI b)) ∧ ∃ p : Regrown, w'' = grow (redrawn w7 p.d) p.os := fun d9 os9 =>
 (truthR b _).mono fun _ _ hh => ⟨hh.1, ⟨⟨d9, os9⟩, hh.2⟩⟩
section
variable {c : Rc} {vS : Value} {s : Ms} {w : World} {k : Kn}
set_option maxRecDepth 10000 in
set_option maxHeartbeats 12800000 in
theorem stepR (hm : Me c.p k c.e.ek c.e.ev c.e.x2) (ht : Tm c.p k c.e.x2 s) (hov : s.ov = false) (h : Rx c vS s w) : Calls Tryd.prog 22 #[.pointer (some ⟨c.rb, 0, none⟩)] w fun e w' => e = .returned (.bool true) ∧ Hid (∃ vT, Rx c vT (stepF c.p c.e.ek c.e.ev c.e.x2 s) w' ∧ Bk c.rb w w') := by
 obtain ⟨i, l, hpc, hi, hki, hst⟩ := ht.run hov
 have hfit := (hm.fl.fl i l hi hki).1
 have hin := hm.wf.ins i hi
 have hoo := hin.o
 simp [isO] at hoo
 obtain ⟨o, hop⟩ : ∃ o, (c.p.op i).toNat = o := ⟨_, rfl⟩
 have hopi : c.p.op i = (o : Nat) := by omega
 have ho1 : 1 ≤ o := by omega
 have ho32 : o ≤ 32 := by omega
 have HAR : Hid (argF c.p o (c.p.arg i) = true) := by rw [← hop]; exact hin.a
 obtain ⟨a, ha⟩ : ∃ a, c.p.arg i = a := ⟨_, rfl⟩
 rw [ha] at HAR
 have hlen := tk_len hop ho32
 obtain ⟨n, hn⟩ : ∃ n, (rTakes o).length = n := ⟨_, rfl⟩
 have hnh : n ≤ s.h := by rw [hst.h, ← hn, ← hlen]; exact hfit.1
 have hn3 : n ≤ 3 := by
  have : ∀ o, o ≤ 32 → (rTakes o).length ≤ 3 := by decide
  rw [← hn]; exact this o ho32
 have h64 : s.h ≤ 67 := by
  have h1 := hfit.2.2
  rw [hlen, hn, ← hst.h] at h1
  omega
 have HTX : Hid ((txt (rTakes o)).size = n) := by show _ = _; rw [txt_size, hn]
 have HTOP : Hid (∀ j b, (tkB c.p i)[j]? = some b → Okv (bI b) (s.tops n j)) := fun j b hj => by
  have hjn := (List.getElem?_eq_some_iff.1 hj).1
  rw [hlen, hn] at hjn
  have q := hst.top hfit (j := n - 1 - j) (b := b) (by rw [hlen, hn, show n - 1 - (n - 1 - j) = j by omega]; exact hj) (by rw [hlen, hn]; omega)
  have e : s.top (n - 1 - j) = s.tops n j := by unfold Ms.top Ms.tops; rw [show s.h - 1 - (n - 1 - j) = s.h - n + j by omega]
  rw [e] at q
  exact q
 obtain ⟨sE, hsE⟩ : ∃ sE, stepF c.p c.e.ek c.e.ev c.e.x2 s = sE := ⟨_, rfl⟩
 rw [hsE]
 have HSE := hide hsE
 have HPC : Hid (s.pc.toNat = i) := by show _ = _; omega
 have HOP := hide hop
 have HAA := hide ha
 have HN := hide hn
 have HM := hide hm
 have HT := hide ht
 obtain ⟨ig, hig⟩ := h.ok.hi (by omega)
 have HS : Hid (∀ w', Below w.heap.size w w' → w'.cell? ⟨c.rb, 9, none⟩ = some (.slice (some ⟨c.g.ib, c.g.io, none⟩) c.p.n c.g.ic) ∧ w'.cell? ⟨c.rb, 18, none⟩ = some (.int .i64 (i : Nat)) ∧ w'.cell? ⟨c.g.ib, c.g.io + i * 2, none⟩ = some (.int .i64 (o : Nat)) ∧ w'.cell? ⟨c.g.ib, c.g.io + i * 2 + 1, none⟩ = some (.int .i64 a) ∧ c.rb < w'.heap.size ∧ c.g.ib < w'.heap.size) := fun w' hb => by
  have q := h.next hb
  refine ⟨by rw [← ig]; exact (q.cell 9).trans rfl, by rw [← hpc]; exact (q.cell 18).trans rfl, by rw [← hopi]; exact q.ok.vo i hi, by rw [← ha]; exact q.ok.va i hi, q.lt, Nat.lt_trans hig q.lt⟩
 have c0 : w.cell? ⟨c.rb, 0, none⟩ = some (.bool true) := (h.cell 0).trans rfl
 have c25 : w.cell? ⟨c.rb, 25, none⟩ = some (.bool false) := by rw [← hov]; exact (h.cell 25).trans rfl
 have hl := h.lt
 have hpn : c.p.n ≤ 140737488355328 := h.ok.li
 have HRX := hide h
 have HQ : Hid (∀ w3, Below w.heap.size w w3 → Rx c vS s.nxt (w3.setCell ⟨c.rb, 18, none⟩ (.int .i64 ((i : Int) + 1))) ∧ Bk c.rb w (w3.setCell ⟨c.rb, 18, none⟩ (.int .i64 ((i : Int) + 1)))) := fun w3 hb => by
  have q := (h.next hb).goR ((i : Int) + 1)
  have e : s.go ((i : Int) + 1) = s.nxt := by unfold Ms.go Ms.nxt; rw [hpc]
  rw [e] at q
  exact ⟨q.1, (Bk.grew hb (Nat.le_of_lt h.lt)).trans q.2⟩
 clear h hsE hm ht hin hoo hop ha hn ig hig hst hfit hki hlen hopi hpc
 obtain ⟨p, hp⟩ : ∃ p, c.p = p := ⟨_, rfl⟩
 obtain ⟨rb, hrb⟩ : ∃ rb, c.rb = rb := ⟨_, rfl⟩
 obtain ⟨ib, hib⟩ : ∃ ib, c.g.ib = ib := ⟨_, rfl⟩
 obtain ⟨io, hio⟩ : ∃ io, c.g.io = io := ⟨_, rfl⟩
 obtain ⟨ic, hic⟩ : ∃ ic, c.g.ic = ic := ⟨_, rfl⟩
 rw [hp, hrb, hib, hio, hic] at HS
 rw [hp] at hi hpn
 rw [hrb] at c0 c25 hl HQ ⊢
 have HRB := hide hrb
 have HP := hide hp
 clear hib hio hic hrb hp
 go_enter Tryd.func22, Tryd.ntmps22
 go_upto_region 3 with fail
 clear c0 c25
 obtain ⟨wz, hwz⟩ : ∃ wz, (w).drew = wz := ⟨_, rfl⟩
 have HS9 : Hid ((fun (w : World) => w.cell? ⟨rb, 9, none⟩ = some (.slice (some ⟨ib, io, none⟩) p.n ic) ∧ w.cell? ⟨rb, 18, none⟩ = some (.int .i64 (i : Nat)) ∧ w.cell? ⟨ib, io + i * 2, none⟩ = some (.int .i64 (o : Nat)) ∧ w.cell? ⟨ib, io + i * 2 + 1, none⟩ = some (.int .i64 a) ∧ rb < w.heap.size ∧ ib < w.heap.size) wz) := by rw [← hwz]; exact HS.out _ (Below.refl _ _).drew
 refine wp_region_L 99 (fun _ => True) (fun (w : World) => w.cell? ⟨rb, 9, none⟩ = some (.slice (some ⟨ib, io, none⟩) p.n ic) ∧ w.cell? ⟨rb, 18, none⟩ = some (.int .i64 (i : Nat)) ∧ w.cell? ⟨ib, io + i * 2, none⟩ = some (.int .i64 (o : Nat)) ∧ w.cell? ⟨ib, io + i * 2 + 1, none⟩ = some (.int .i64 a) ∧ rb < w.heap.size ∧ ib < w.heap.size) (by kernel_rfl) trivial (by rw [hwz]; exact HS9.out) (fun hS0 => ?_)
 rw [hwz] at hS0 ⊢
 refine wpAnyL_take (i := 0) (oi := ⟨some 23, .move (.tmp 0), 62, "run.go:145", #[], none⟩) (v := .pointer (some ⟨rb, 0, none⟩)) rfl (by decide) (by kernel_rfl) (by kernel_rfl) (by kernel_rfl) (fun _ _ _ h => h) (Or.inl ⟨by rfl, fun w2 hSw => ?_⟩) hS0 (fun hS1 => ?_)
 ·go_simp
 simp only [Act.put, lsA, lsB, lsC]
 clear hS0
 refine wpAnyL_take (i := 1) (oi := ⟨some 24, .nilCheck (.tmp 23), 0, "run.go:145", #[⟨0, .data⟩], none⟩) (v := .pointer (some ⟨rb, 0, none⟩)) rfl (by decide) (by kernel_rfl) (by kernel_rfl) (by kernel_rfl) (fun _ _ _ h => h) (Or.inl ⟨by rfl, fun w2 hSw => ?_⟩) hS1 (fun hS2 => ?_)
 ·obtain ⟨k1, k2, k3, k4, kl, kl2⟩ := hSw
  go_simp
 simp only [Act.put, lsA, lsB, lsC]
 clear hS1
 refine wpAnyL_take (i := 2) (oi := ⟨some 25, .fieldAddr 67 (.tmp 24) 1, 0, "run.go:145", #[⟨1, .data⟩], none⟩) (v := .pointer (some ⟨rb, 1, none⟩)) rfl (by decide) (by kernel_rfl) (by kernel_rfl) (by kernel_rfl) (fun _ _ _ h => h) (Or.inl ⟨by rfl, fun w2 hSw => ?_⟩) hS2 (fun hS3 => ?_)
 ·go_simp
 simp only [Act.put, lsA, lsB, lsC]
 clear hS2
 refine wpAnyL_take (i := 3) (oi := ⟨some 26, .fieldAddr 27 (.tmp 25) 3, 0, "run.go:145", #[⟨2, .data⟩], none⟩) (v := .pointer (some ⟨rb, 9, none⟩)) rfl (by decide) (by kernel_rfl) (by kernel_rfl) (by kernel_rfl) (fun _ _ _ h => h) (Or.inl ⟨by rfl, fun w2 hSw => ?_⟩) hS3 (fun hS4 => ?_)
 ·go_simp
 simp only [Act.put, lsA, lsB, lsC]
 clear hS3
 refine wpAnyL_take (i := 4) (oi := ⟨some 27, .load 25 (.tmp 26), 25, "run.go:145", #[⟨3, .data⟩], none⟩) (v := .slice (some ⟨ib, io, none⟩) p.n ic) rfl (by decide) (by kernel_rfl) (by kernel_rfl) (by kernel_rfl) (fun _ _ _ h => h) (Or.inl ⟨by rfl, fun w2 hSw => ?_⟩) hS4 (fun hS5 => ?_)
 ·obtain ⟨k1, k2, k3, k4, kl, kl2⟩ := hSw
  go_simp
 simp only [Act.put, lsA, lsB, lsC]
 clear hS4
 refine wpAnyL_take (i := 5) (oi := ⟨some 28, .move (.tmp 0), 62, "run.go:145", #[], none⟩) (v := .pointer (some ⟨rb, 0, none⟩)) rfl (by decide) (by kernel_rfl) (by kernel_rfl) (by kernel_rfl) (fun _ _ _ h => h) (Or.inl ⟨by rfl, fun w2 hSw => ?_⟩) hS5 (fun hS6 => ?_)
 ·go_simp
 simp only [Act.put, lsA, lsB, lsC]
 clear hS5
 refine wpAnyL_take (i := 6) (oi := ⟨some 29, .nilCheck (.tmp 28), 0, "run.go:145", #[⟨5, .data⟩], none⟩) (v := .pointer (some ⟨rb, 0, none⟩)) rfl (by decide) (by kernel_rfl) (by kernel_rfl) (by kernel_rfl) (fun _ _ _ h => h) (Or.inl ⟨by rfl, fun w2 hSw => ?_⟩) hS6 (fun hS7 => ?_)
 ·obtain ⟨k1, k2, k3, k4, kl, kl2⟩ := hSw
  go_simp
 simp only [Act.put, lsA, lsB, lsC]
 clear hS6
 refine wpAnyL_take (i := 7) (oi := ⟨some 30, .fieldAddr 67 (.tmp 29) 3, 0, "run.go:145", #[⟨6, .data⟩], none⟩) (v := .pointer (some ⟨rb, 18, none⟩)) rfl (by decide) (by kernel_rfl) (by kernel_rfl) (by kernel_rfl) (fun _ _ _ h => h) (Or.inl ⟨by rfl, fun w2 hSw => ?_⟩) hS7 (fun hS8 => ?_)
 ·go_simp
 simp only [Act.put, lsA, lsB, lsC]
 clear hS7
 refine wpAnyL_take (i := 8) (oi := ⟨some 31, .fieldAddr 65 (.tmp 30) 0, 0, "run.go:145", #[⟨7, .data⟩], none⟩) (v := .pointer (some ⟨rb, 18, none⟩)) rfl (by decide) (by kernel_rfl) (by kernel_rfl) (by kernel_rfl) (fun _ _ _ h => h) (Or.inl ⟨by rfl, fun w2 hSw => ?_⟩) hS8 (fun hS9 => ?_)
 ·go_simp
 simp only [Act.put, lsA, lsB, lsC]
 clear hS8
 refine wpAnyL_take (i := 9) (oi := ⟨some 32, .load 3 (.tmp 31), 3, "run.go:145", #[⟨8, .data⟩], none⟩) (v := .int .i64 (i : Nat)) rfl (by decide) (by kernel_rfl) (by kernel_rfl) (by kernel_rfl) (fun _ _ _ h => h) (Or.inl ⟨by rfl, fun w2 hSw => ?_⟩) hS9 (fun hS10 => ?_)
 ·obtain ⟨k1, k2, k3, k4, kl, kl2⟩ := hSw
  go_simp
 simp only [Act.put, lsA, lsB, lsC]
 clear hS9
 refine wpAnyL_take (i := 10) (oi := ⟨some 33, .indexAddr 25 (.tmp 27) (.tmp 32), 0, "run.go:145", #[⟨4, .data⟩, ⟨9, .data⟩], none⟩) (v := .pointer (some ⟨ib, io + i * 2, none⟩)) rfl (by decide) (by kernel_rfl) (by kernel_rfl) (by kernel_rfl) (fun _ _ _ h => h) (Or.inl ⟨by rfl, fun w2 hSw => ?_⟩) hS10 (fun hS11 => ?_)
 ·go_simp
  all_goals (intro hx; omega)
 simp only [Act.put, lsA, lsB, lsC]
 clear hS10
 refine wpAnyL_take (i := 11) (oi := ⟨some 34, .load 83 (.tmp 33), 83, "run.go:145", #[⟨10, .data⟩], none⟩) (v := .agg #[.int .i64 (o : Nat), .int .i64 a]) rfl (by decide) (by kernel_rfl) (by kernel_rfl) (by kernel_rfl) (fun _ _ _ h => h) (Or.inl ⟨by rfl, fun w2 hSw => ?_⟩) hS11 (fun hS12 => ?_)
 ·obtain ⟨k1, k2, k3, k4, kl, kl2⟩ := hSw
  go_simp
 simp only [Act.put, lsA, lsB, lsC]
 clear hS11
 clear hS12
 refine wpAnyL_one (i := 12) (o := ⟨some 3, .alloc 83, 0, "run.go:145", #[], none⟩) (by kernel_rfl) rfl (fun K hK => ?_)
 go_simp
 go_wp2_with fail
 have B0 : Hid (Below w.heap.size w wz) := by rw [← hwz]; exact (Below.refl _ _).drew
 refine hK.out _ _ ⟨fun _ => trivial, HS.out _ (B0.out.trans ((below_alloc1 wz _).mono B0.out.size))⟩ ?_
 clear hK K
 refine wpAnyL_one (i := 13) (o := ⟨none, .store 83 (.tmp 3) (.tmp 34), 0, "run.go:145", #[⟨12, .data⟩, ⟨11, .data⟩, ⟨0, .phase⟩, ⟨1, .phase⟩, ⟨2, .phase⟩, ⟨3, .phase⟩, ⟨4, .phase⟩, ⟨5, .phase⟩, ⟨6, .phase⟩, ⟨7, .phase⟩, ⟨8, .phase⟩, ⟨9, .phase⟩, ⟨10, .phase⟩, ⟨11, .phase⟩, ⟨12, .phase⟩], none⟩) (by kernel_rfl) rfl (fun K hK => ?_)
 go_simp
 go_wp2_with fail
 refine hK.out _ _ ⟨fun _ => trivial, HS.out _ (B0.out.trans ((below_alloc1 wz _).mono B0.out.size))⟩ ?_
 clear hK K
 refine wpAnyL_done (by kernel_rfl) ?_ _
 clear HS9

 obtain ⟨w3, hw3⟩ : ∃ w3, wz.alloc (.cells #[.int .i64 (o : Nat), .int .i64 a] 83) = w3 := ⟨_, rfl⟩
 have B3 : Hid (Below w.heap.size w w3) := by rw [← hw3]; exact B0.out.trans ((below_alloc1 wz _).mono B0.out.size)
 have A3 : Hid (w3.heap[wz.heap.size]? = some (.cells #[.int .i64 (o : Nat), .int .i64 a] 83 (0, 0))) := by rw [← hw3]; exact alloc_atK _ _
 have hbx : rb < wz.heap.size := by have := B0.out.size; omega
 rw [hw3]
 clear hw3 hwz
 obtain ⟨xb, hxb⟩ : ∃ xb, wz.heap.size = xb := ⟨_, rfl⟩
 rw [hxb] at A3 hbx ⊢
 have HXB : Hid (w.heap.size ≤ xb) := by rw [← hxb]; exact B0.out.size
 clear hxb B0
 have i0 := block_cell A3.out 0
 have i1 := block_cell A3.out 1
 have il := block_lt A3.out
 simp at i0 i1
 have c18 := (HS.out _ B3.out).2.1
 have f18 : w3.frozen? ⟨rb, 18, none⟩ = false := by rw [← HRB.out]; exact (HRX.out.next B3.out).free 18
 have l3 := (HS.out _ B3.out).2.2.2.2.1
 have e18 : IntKind.i64.wrap ((i : Int) + 1) = (i : Int) + 1 := by rw [IntKind.wrap_i64]; omega
 have HQ3 := hide (HQ.out w3 B3.out)
 clear HS HQ
 go_upto_region 6 with fail
 obtain ⟨w4, hw4⟩ : ∃ w4, w3.setCell ⟨rb, 18, none⟩ (.int .i64 ((i : Int) + 1)) = w4 := ⟨_, rfl⟩
 rw [hw4] at HQ3 ⊢
 have A4 : Hid (w4.heap[xb]? = some (.cells #[.int .i64 (o : Nat), .int .i64 a] 83 (0, 0))) := by
  have := (grown_setT w3 rb 18 (.int .i64 ((i : Int) + 1))).block xb il (by simp; omega)
  rw [hw4] at this
  exact this.trans A3.out
 have Z4 : Hid (xb < w4.heap.size ∧ w.heap.size ≤ w4.heap.size) := by
  have := (grown_setT w3 rb 18 (.int .i64 ((i : Int) + 1))).size
  rw [hw4] at this
  exact ⟨by omega, Nat.le_trans B3.out.size this⟩
 clear hw4 c18 f18 l3 e18 i0 i1 il A3 B3
 obtain ⟨tt, htt⟩ : ∃ tt, txt (rTakes o) = tt := ⟨_, rfl⟩
 rw [htt] at HTX
 have HTK := hide (takesR o ho32)
 rw [htt] at HTK
 clear htt
 go_upto_region 7 with fail
 go_wp2_with fail
 refine (HTK.out w4).mono ?_
 rintro e w5 ⟨rfl, hw5⟩
 rw [hw5]
 clear hw5 w5 HTK
 obtain ⟨ao, cap, rfl, hcap, hstk⟩ := HQ3.out.1.stack
 have hstk : 0 < s.h → ∃ sb, ao = some ⟨sb, 0, none⟩ ∧ c.Bs ≤ sb ∧ sb < w4.heap.size ∧ ∀ j, j < s.h → w4.cell? ⟨sb, j * 2 + 1, none⟩ = some (.int .u64 (s.sv j)) := hstk
 have HSTK := hide hstk
 have c19 : w4.cell? ⟨rb, 19, none⟩ = some (.slice ao s.h cap) := by rw [← HRB.out]; exact (HQ3.out.1.cell 19).trans rfl
 have l4 : rb < w4.heap.size := by rw [← HRB.out]; exact HQ3.out.1.lt
 have hcap2 : s.h ≤ cap := hcap
 have ht : tt.size = n := HTX.out
 have e9 : IntKind.i64.wrap ((s.h : Int) - (n : Int)) = ((s.h - n : Nat) : Int) := by rw [IntKind.wrap_i64]; omega
 obtain ⟨z0, hz, hz0, hz1, hz2⟩ := info_parts Tryd.infoU6
 clear hstk hcap HRX
 obtain ⟨hh, hhh⟩ : ∃ hh, s.h = hh := ⟨_, rfl⟩
 have HHH := hide hhh
 rw [hhh] at c19 hcap2 e9 hnh h64 HSTK
 clear hhh
 obtain ⟨d, hd⟩ : ∃ d, hh - n = d := ⟨_, rfl⟩
 rw [hd] at e9
 have HD := hide hd
 have hdn : d + n = hh := by omega
 clear hd
 obtain ⟨X, hX⟩ : ∃ X, s.tops n = X := ⟨_, rfl⟩
 have HXX : Hid (∀ j, X j = s.sv (d + j)) := fun j => by rw [← hX]; unfold Ms.tops; rw [HHH.out, HD.out]
 rw [hX] at HTOP
 have HX := hide hX
 clear hX
 have n64 : (n : Int) ≤ 67 := by omega
 have d64 : (d : Int) ≤ 67 := by omega
 go_wp2
 go_loopw [5, 8] (fun v x wr => ∃ j : Nat, j ≤ n ∧ x = .int .i64 ((d + j : Nat) : Int) ∧ Hid (wr.ownsRow w4.heap.size 42 1 v j (nums .u64 X j) ∧ Below w4.heap.size w4 wr)) (fun _ x _ => hh - (intOf x).toNat)
 case atStart => exact ⟨0, by omega, rfl, World.ownsRow_nil _ _ _ _, Below.refl _ _⟩
 case round =>
  obtain ⟨j, hj, rfl, HJ⟩ := hrel
  have c19r : wr.cell? ⟨rb, 19, none⟩ = some (.slice ao hh cap) := (HJ.out.2.cell (p := ⟨rb, 19, none⟩) l4).trans c19
  have lr : rb < wr.heap.size := Nat.lt_of_lt_of_le l4 HJ.out.2.size
  by_cases hlt : j < n
  ·obtain ⟨sb, hao, -, hsb, hcs⟩ := HSTK.out (by omega)
   have hv : wr.cell? ⟨sb, (d + j) * 2 + 1, none⟩ = some (.int .u64 (X j)) := by
    rw [HXX.out j]
    exact (HJ.out.2.cell (p := ⟨sb, (d + j) * 2 + 1, none⟩) hsb).trans (hcs (d + j) (by omega))
   have hbl : sb < wr.heap.size := Nat.lt_of_lt_of_le hsb HJ.out.2.size
   have HOW : Hid (∀ o, (wr.alloc o).ownsRow w4.heap.size 42 1 u5 j (nums .u64 X j)) := fun o => own_keep HJ.out.1 (below_alloc1 _ _)
   have HSZ : Hid (∀ o, w4.heap.size ≤ (wr.alloc o).heap.size) := fun o => Nat.le_trans HJ.out.2.size (below_alloc1 _ _).size
   have HNX : Hid (∀ o v' w', w'.ownsRow w4.heap.size 42 1 v' (j + 1) (nums .u64 X j ++ [.int .u64 (X j)]) → (wr.alloc o).grownBy w' u5.ownBlock → w'.ownsRow w4.heap.size 42 1 v' (j + 1) (nums .u64 X (j + 1)) ∧ Below w4.heap.size w4 w') := fun o v' w' h1 h2 => by
    refine ⟨by rw [nums_next]; exact h1, ?_⟩
    exact (HJ.out.2.alloc HJ.out.2.size o).grown h2 (HSZ.out o) (fun g e => (HJ.out.1.lt g e).1)
   subst hao
   obtain ⟨q, hq⟩ : ∃ q, d + j = q := ⟨_, rfl⟩
   rw [hq] at hv ⊢
   have hqh : q < hh := by omega
   have HQQ := hide hq
   obtain ⟨y, hy⟩ : ∃ y, X j = y := ⟨_, rfl⟩
   rw [hy] at hv HNX
   clear HJ hcs hq hy
   go_wp2_with (at_builtin; refine wpList_append_own _ rfl (.tmp 63) (.tmp 73) 22 rfl w4.heap.size 42 z0 (.int .u64 0) 1 8 Tryd.underlying22 hz hz0 hz1 hz2 rfl (by decide) u5 j _ rfl (HOW.out _) ⟨wr.heap.size, 0, none⟩ 1 1 [.int .u64 y] rfl rfl (cells_newK wr [.int .u64 y] 42) (by simp [Value.oneCell']) (by unfold maxLen; omega) (by omega) (HSZ.out _) ?_; intro v' w6 ho hg _)
   have HN2 := hide (HNX.out _ _ _ ho hg)
   clear ho hg
   go_roundw
   case rel => exact ⟨j + 1, by omega, by rw [← HQQ.out]; go_num, HN2.out⟩
   case measure => simp [intOf]; omega
  ·obtain rfl : j = n := by omega
   have HE0 : Hid (Ex c rb (.slice ao hh cap) s.nxt w j X u5 o a xb wr) := by
    obtain ⟨h1, h2⟩ := HJ.out
    have r1 := (HQ3.out.1).next h2
    have b1 : Bk rb w wr := HQ3.out.2.trans (Bk.grew h2 (Nat.le_of_lt l4))
    have x1 := (h2.block _ (block_lt A4.out)).trans A4.out
    refine ⟨by rw [← HHH.out]; exact r1, b1, block_cell x1 0, block_cell x1 1, block_lt x1, hbx, fun q => ?_⟩
    obtain ⟨va, vc, e, g⟩ := row64_val h1
    obtain ⟨vb, e2, l2, v2⟩ := g q
    subst e2
    refine ⟨vb, vc, e, ⟨v2, l2⟩, ?_⟩
    have := (h1.lt vb (by rw [e]; rfl)).1
    omega
   have f19r : wr.frozen? ⟨rb, 19, none⟩ = false := by rw [← HRB.out]; exact HE0.out.rx.free 19
   have HE1 : Hid (∀ w7, wr.setCell ⟨rb, 19, none⟩ (.slice ao d cap) = w7 → Ex c rb (.slice ao d cap) (s.nxt.pop j) w j X u5 o a xb w7) := fun w7 e7 => by
    have q := HE0.out
    have rx : Rx c (.slice ao s.nxt.h cap) s.nxt wr := by
     have := q.rx
     rw [← HHH.out] at this
     exact this
    have cu := rx.cutS (n := j)
    have e1 : s.nxt.h - j = d := by show s.h - j = d; rw [HHH.out]; exact HD.out
    rw [e1, HRB.out, e7] at cu
    have gs := grown_setT wr rb 19 (.slice ao d cap)
    rw [e7] at gs
    exact ⟨cu.1, q.b.trans cu.2, (grown_cell gs q.xl (by simp; have := q.xr; omega)).trans q.x0, (grown_cell gs q.xl (by simp; have := q.xr; omega)).trans q.x1, Nat.lt_of_lt_of_le q.xl gs.size, q.xr, fun z => by
     obtain ⟨vb, vc, y1, y2, y3⟩ := q.tk z
     exact ⟨vb, vc, y1, ⟨fun i hi => (grown_cell gs y2.l (by simp; omega)).trans (y2.v i hi), Nat.lt_of_lt_of_le y2.l gs.size⟩, y3⟩⟩
   have HPU : Hid (∀ (vS8 : Value) (s8 : Ms) (w8 : World), Rx c vS8 s8 w8 → s8.h ≤ 1000 → ∀ k x : Int, Calls Tryd.prog 50 #[.pointer (some ⟨rb, 0, none⟩), .int .i64 k, .int .u64 x] w8 fun e w' => e = .returned (.tuple #[]) ∧ Hid (∃ vT, Rx c vT (s8.push k x) w' ∧ Bk rb w8 w')) := fun vS8 s8 w8 h8 hh8 k x => by rw [← HRB.out]; exact pushR h8 hh8 k x
   have HOV : Hid (∀ (vS8 : Value) (s8 : Ms) (w8 : World), Rx c vS8 s8 w8 → ∀ e0 : Int, Calls Tryd.prog 39 #[.pointer (some ⟨rb, 0, none⟩), .int .i64 e0] w8 fun e w' => e = .returned (.tuple #[]) ∧ Hid (Rx c vS8 (s8.stop e0) w' ∧ Bk rb w8 w')) := fun vS8 s8 w8 h8 e0 => by rw [← HRB.out]; exact overR h8 e0
   have hph : (s.nxt.pop j).h ≤ 1000 := by show s.h - j ≤ 1000; rw [HHH.out]; omega
   have hph0 : s.nxt.h ≤ 1000 := by show s.h ≤ 1000; rw [HHH.out]; omega
   have HPH := hide hph
   clear hph hph0 HSTK HJ HQ3 A4 Z4 HXB c19 l4 ht HTX hz hz0 hz1 hz2 hlt hj
   have HOI : Hid ((c.p.op s.pc.toNat).toNat = o) := by rw [HPC.out]; exact HOP.out
   have HAI : Hid (c.p.arg s.pc.toNat = a) := by rw [HPC.out]; exact HAA.out
   have hcase : o = 1 ∨ o = 2 ∨ o = 3 ∨ o = 4 ∨ o = 5 ∨ o = 6 ∨ o = 7 ∨ o = 8 ∨ o = 9 ∨ o = 10 ∨ o = 11 ∨ o = 12 ∨ o = 13 ∨ o = 14 ∨ o = 15 ∨ o = 16 ∨ o = 17 ∨ o = 18 ∨ o = 19 ∨ o = 20 ∨ o = 21 ∨ o = 22 ∨ o = 23 ∨ o = 24 ∨ o = 25 ∨ o = 26 ∨ o = 27 ∨ o = 28 ∨ o = 29 ∨ o = 30 ∨ o = 31 ∨ o = 32 := by omega
   rcases hcase with rfl | rfl | rfl | rfl | rfl | rfl | rfl | rfl | rfl | rfl | rfl | rfl | rfl | rfl | rfl | rfl | rfl | rfl | rfl | rfl | rfl | rfl | rfl | rfl | rfl | rfl | rfl | rfl | rfl | rfl | rfl | rfl
   ·as_aux_lemma =>
     obtain rfl : j = 0 := by rw [← HN.out]; rfl
     go_upto_region 18 with fail
     obtain ⟨w7, hw7⟩ : ∃ w7, wr.setCell ⟨rb, 19, none⟩ (.slice ao d cap) = w7 := ⟨_, rfl⟩
     have EX := hide (HE1.out w7 hw7)
     rw [show hh = d by omega, hw7]
     clear hw7 HE1 HE0 c19r f19r lr
     have l7 : rb < w7.heap.size := Nat.lt_trans EX.out.xr EX.out.xl
     have c21 : w7.cell? ⟨rb, 21, none⟩ = some (.int .u64 s.left) := by rw [← HRB.out]; exact (EX.out.rx.cell 21).trans rfl
     have f21 : w7.frozen? ⟨rb, 21, none⟩ = false := by rw [← HRB.out]; exact EX.out.rx.free 21
     have hst := st1 (ek := c.e.ek) (ev := c.e.ev) (hd := c.e.x2) HOI.out
     rw [HSE.out] at hst
     have l0 := HT.out.l0
     have l1 := HT.out.l1
     have HLF := hide (EX.out.rx.leftR (s.left - 1))
     by_cases q : s.left = 0
     ·rw [if_pos q] at hst
      have HF : Hid (sE = (s.nxt.pop 0).stop 2) := hst
      clear hst
      rw [q] at c21
      go_wp2_with fail
      refine (HOV.out _ _ w7 EX.out.rx 2).mono ?_
      rintro e w9 ⟨rfl, G9⟩
      go_wp2
      go_ret
      exact ⟨rfl, hide ⟨_, by rw [HF.out]; exact G9.out.1, EX.out.b.trans G9.out.2⟩⟩
     ·rw [if_neg q] at hst
      have HF : Hid (sE = { s.nxt.pop 0 with left := s.left - 1 }) := hst
      have eq0 : (s.left == 0) = false := by simpa using q
      have ew : IntKind.u64.wrap (s.left - 1) = s.left - 1 := wr64 (by omega) (by omega)
      rw [HRB.out] at HLF
      clear hst l0 l1
      generalize s.left = lf at *
      go_wp2
      go_ret
      exact ⟨rfl, hide ⟨⟨_, by rw [HF.out]; exact HLF.out.1⟩, EX.out.b.trans HLF.out.2⟩⟩
   ·as_aux_lemma =>
     obtain rfl : j = 0 := by rw [← HN.out]; rfl
     go_upto_region 18 with fail
     obtain ⟨w7, hw7⟩ : ∃ w7, wr.setCell ⟨rb, 19, none⟩ (.slice ao d cap) = w7 := ⟨_, rfl⟩
     have EX := hide (HE1.out w7 hw7)
     rw [show hh = d by omega, hw7]
     clear hw7 HE1 HE0 c19r f19r lr
     have l7 : rb < w7.heap.size := Nat.lt_trans EX.out.xr EX.out.xl
     have hpl := isPl_nat (show isPl a c.p.nc = true by simpa [argF, fArg, formT] using HAR.out)
     obtain ⟨m, hm⟩ : ∃ m, a.toNat = m := ⟨_, rfl⟩
     rw [hm] at hpl
     obtain ⟨ham, hmn⟩ := hpl
     have i1 := EX.out.x1
     rw [ham] at i1
     have hst := st2 (ek := c.e.ek) (ev := c.e.ev) (hd := c.e.x2) HOI.out
     rw [HSE.out, HAI.out, hm] at hst
     obtain ⟨y, hy⟩ : ∃ y, c.p.C m = y := ⟨_, rfl⟩
     rw [hy] at hst
     have HF : Hid (sE = (s.nxt.pop 0).push 0 y) := hst
     have HSX : Hid (∀ w', Below w7.heap.size w7 w' → (fun (w : World) => w.cell? ⟨rb, 1, none⟩ = some (.slice (some ⟨c.g.cb, c.g.co, none⟩) c.p.nc c.g.cc) ∧ w.cell? ⟨xb, 1, none⟩ = some (.int .i64 (m : Nat)) ∧ w.cell? ⟨c.g.cb, c.g.co + m, none⟩ = some (.int .u64 y) ∧ rb < w.heap.size ∧ xb < w.heap.size ∧ c.g.cb < w.heap.size) w') := fun w' hb => by
      have E := EX.out.next hb
      obtain ⟨hca, hcb⟩ := E.rx.ok.hc (by omega)
      have hr : rb < w'.heap.size := by rw [← HRB.out]; exact E.rx.lt
      refine ⟨by rw [← hca, ← HRB.out]; exact (E.rx.cell 1).trans rfl, by rw [E.x1, ham], by rw [← hy]; exact E.rx.ok.vc m hmn, hr, E.xl, ?_⟩
      rw [HRB.out] at hcb
      omega
     obtain ⟨nc, hnc⟩ : ∃ nc, c.p.nc = nc := ⟨_, rfl⟩
     obtain ⟨cb, hcb⟩ : ∃ cb, c.g.cb = cb := ⟨_, rfl⟩
     obtain ⟨co, hco⟩ : ∃ co, c.g.co = co := ⟨_, rfl⟩
     obtain ⟨cc, hcc⟩ : ∃ cc, c.g.cc = cc := ⟨_, rfl⟩
     have hnl : nc ≤ 256 := by rw [← hnc]; exact HM.out.wf.sz.1
     rw [hnc, hcb, hco, hcc] at HSX
     rw [hnc] at hmn
     clear hst hy hm hnc hcb hco hcc i1
     go_upto_region 23 with fail
     obtain ⟨wz, hwz⟩ : ∃ wz, (w7).drew = wz := ⟨_, rfl⟩
     have HS9 : Hid ((fun (w : World) => w.cell? ⟨rb, 1, none⟩ = some (.slice (some ⟨cb, co, none⟩) nc cc) ∧ w.cell? ⟨xb, 1, none⟩ = some (.int .i64 (m : Nat)) ∧ w.cell? ⟨cb, co + m, none⟩ = some (.int .u64 y) ∧ rb < w.heap.size ∧ xb < w.heap.size ∧ cb < w.heap.size) wz) := by rw [← hwz]; exact HSX.out _ (Below.refl _ _).drew
     refine wp_region_L 10 (fun (w : World) => w.cell? ⟨rb, 1, none⟩ = some (.slice (some ⟨cb, co, none⟩) nc cc) ∧ w.cell? ⟨xb, 1, none⟩ = some (.int .i64 (m : Nat)) ∧ w.cell? ⟨cb, co + m, none⟩ = some (.int .u64 y) ∧ rb < w.heap.size ∧ xb < w.heap.size ∧ cb < w.heap.size) (fun _ => True) (by kernel_rfl) (by rw [hwz]; exact HS9.out) trivial (fun hS0 => ?_)
     rw [hwz] at hS0 ⊢
     refine wpAnyL_take (i := 0) (oi := ⟨some 141, .move (.tmp 0), 62, "run.go:167", #[], none⟩) (v := .pointer (some ⟨rb, 0, none⟩)) rfl (by decide) (by kernel_rfl) (by kernel_rfl) (by kernel_rfl) (fun _ _ _ h => h) (Or.inl ⟨by rfl, fun w2 hSw => ?_⟩) hS0 (fun hS1 => ?_)
     ·go_simp
     simp only [Act.put, lsA, lsB, lsC]
     clear hS0
     refine wpAnyL_take (i := 1) (oi := ⟨some 142, .move (.tmp 0), 62, "run.go:167", #[], none⟩) (v := .pointer (some ⟨rb, 0, none⟩)) rfl (by decide) (by kernel_rfl) (by kernel_rfl) (by kernel_rfl) (fun _ _ _ h => h) (Or.inl ⟨by rfl, fun w2 hSw => ?_⟩) hS1 (fun hS2 => ?_)
     ·go_simp
     simp only [Act.put, lsA, lsB, lsC]
     clear hS1
     refine wpAnyL_take (i := 2) (oi := ⟨some 143, .nilCheck (.tmp 142), 0, "run.go:167", #[⟨1, .data⟩], none⟩) (v := .pointer (some ⟨rb, 0, none⟩)) rfl (by decide) (by kernel_rfl) (by kernel_rfl) (by kernel_rfl) (fun _ _ _ h => h) (Or.inl ⟨by rfl, fun w2 hSw => ?_⟩) hS2 (fun hS3 => ?_)
     ·go_simp
     simp only [Act.put, lsA, lsB, lsC]
     clear hS2
     refine wpAnyL_take (i := 3) (oi := ⟨some 144, .fieldAddr 67 (.tmp 143) 1, 0, "run.go:167", #[⟨2, .data⟩], none⟩) (v := .pointer (some ⟨rb, 1, none⟩)) rfl (by decide) (by kernel_rfl) (by kernel_rfl) (by kernel_rfl) (fun _ _ _ h => h) (Or.inl ⟨by rfl, fun w2 hSw => ?_⟩) hS3 (fun hS4 => ?_)
     ·go_simp
     simp only [Act.put, lsA, lsB, lsC]
     clear hS3
     refine wpAnyL_take (i := 4) (oi := ⟨some 145, .fieldAddr 27 (.tmp 144) 0, 0, "run.go:167", #[⟨3, .data⟩], none⟩) (v := .pointer (some ⟨rb, 1, none⟩)) rfl (by decide) (by kernel_rfl) (by kernel_rfl) (by kernel_rfl) (fun _ _ _ h => h) (Or.inl ⟨by rfl, fun w2 hSw => ?_⟩) hS4 (fun hS5 => ?_)
     ·go_simp
     simp only [Act.put, lsA, lsB, lsC]
     clear hS4
     refine wpAnyL_takeP [8, 9, 10] (i := 5) (oi := ⟨some 146, .load 22 (.tmp 145), 22, "run.go:167", #[⟨4, .data⟩], none⟩) (v := .slice (some ⟨cb, co, none⟩) nc cc) rfl (by decide) (by kernel_rfl) (by kernel_rfl) (by kernel_rfl) (by kernel_rfl) (by kernel_rfl) (fun _ _ _ h => h) (Or.inl ⟨by rfl, fun w2 hSw => ?_⟩) hS5 (fun hS6 => ?_)
     ·obtain ⟨k0, k1, k2, kl, kx, kc⟩ := hSw
      go_simp
     simp only [Act.put, lsA, lsB, lsC]
     clear hS5
     refine wpAnyL_take (i := 6) (oi := ⟨some 147, .fieldAddr 83 (.tmp 3) 1, 0, "run.go:167", #[], none⟩) (v := .pointer (some ⟨xb, 1, none⟩)) rfl (by decide) (by kernel_rfl) (by kernel_rfl) (by kernel_rfl) (fun _ _ _ h => h) (Or.inl ⟨by rfl, fun w2 hSw => ?_⟩) hS6 (fun hS7 => ?_)
     ·go_simp
     simp only [Act.put, lsA, lsB, lsC]
     clear hS6
     refine wpAnyL_takeP [8, 9, 10] (i := 7) (oi := ⟨some 148, .load 3 (.tmp 147), 3, "run.go:167", #[⟨6, .data⟩], none⟩) (v := .int .i64 (m : Nat)) rfl (by decide) (by kernel_rfl) (by kernel_rfl) (by kernel_rfl) (by kernel_rfl) (by kernel_rfl) (fun _ _ _ h => h) (Or.inl ⟨by rfl, fun w2 hSw => ?_⟩) hS7 (fun hS8 => ?_)
     ·obtain ⟨k0, k1, k2, kl, kx, kc⟩ := hSw
      go_simp
     simp only [Act.put, lsA, lsB, lsC]
     clear hS7
     refine wpAnyL_take (i := 8) (oi := ⟨some 149, .indexAddr 22 (.tmp 146) (.tmp 148), 0, "run.go:167", #[⟨5, .data⟩, ⟨7, .data⟩], none⟩) (v := .pointer (some ⟨cb, co + m, none⟩)) rfl (by decide) (by kernel_rfl) (by kernel_rfl) (by kernel_rfl) (fun _ _ _ h => h) (Or.inl ⟨by rfl, fun w2 hSw => ?_⟩) hS8 (fun hS9 => ?_)
     ·go_simp
      all_goals (intro hx; omega)
     simp only [Act.put, lsA, lsB, lsC]
     clear hS8
     refine wpAnyL_takeP [10] (i := 9) (oi := ⟨some 150, .load 42 (.tmp 149), 42, "run.go:167", #[⟨8, .data⟩], none⟩) (v := .int .u64 y) rfl (by decide) (by kernel_rfl) (by kernel_rfl) (by kernel_rfl) (by kernel_rfl) (by kernel_rfl) (fun _ _ _ h => h) (Or.inl ⟨by rfl, fun w2 hSw => ?_⟩) hS9 (fun hS10 => ?_)
     ·obtain ⟨k0, k1, k2, kl, kx, kc⟩ := hSw
      go_simp
     simp only [Act.put, lsA, lsB, lsC]
     clear hS9
     refine wpAnyL_one (i := 10) (o := ⟨some 151, .call { callee := Callee.value (.func 50), args := #[.tmp 141, .const (.int .i64 0), .tmp 150], argTypes := #[62, 3, 42] }, 0, "run.go:167", #[⟨0, .data⟩, ⟨9, .data⟩], none⟩) (by kernel_rfl) rfl (fun K hK => ?_)
     go_simp
     go_wp2_with fail
     have B0 : Hid (Below w7.heap.size w7 wz) := by rw [← hwz]; exact (Below.refl _ _).drew
     have EZ := hide (EX.out.next B0.out)
     refine (HPU.out _ _ wz EZ.out.rx HPH.out 0 y).mono ?_
     rintro e w9 ⟨rfl, G9⟩
     go_simp
     refine hK.out _ _ ⟨fun h => (by cases (show true = false from h)), trivial⟩ ?_
     clear hK K
     refine wpAnyL_done (by kernel_rfl) ?_ _
     clear HS9
     go_wp2
     go_ret
     refine ⟨rfl, hide ?_⟩
     obtain ⟨vT, g1, g2⟩ := G9.out
     exact ⟨vT, by rw [HF.out]; exact g1, EZ.out.b.trans g2⟩
   ·as_aux_lemma =>
     obtain rfl : j = 0 := by rw [← HN.out]; rfl
     go_upto_region 18 with fail
     obtain ⟨w7, hw7⟩ : ∃ w7, wr.setCell ⟨rb, 19, none⟩ (.slice ao d cap) = w7 := ⟨_, rfl⟩
     have EX := hide (HE1.out w7 hw7)
     rw [show hh = d by omega, hw7]
     clear hw7 HE1 HE0 c19r f19r lr
     have l7 : rb < w7.heap.size := Nat.lt_trans EX.out.xr EX.out.xl
     have HF : Hid (sE = (s.nxt.pop 0).push 1 (bI true)) := by
      have hst := st3 (ek := c.e.ek) (ev := c.e.ev) (hd := c.e.x2) HOI.out
      rw [HSE.out] at hst
      exact hst
     go_wp2_with fail
     refine (truthR true w7).mono ?_
     rintro e w8 ⟨rfl, hw8⟩
     rw [hw8]
     clear hw8 w8
     go_wp2_with fail
     refine (HPU.out _ _ w7 EX.out.rx HPH.out 1 (bI true)).mono ?_
     rintro e w9 ⟨rfl, G9⟩
     go_wp2
     go_ret
     refine ⟨rfl, hide ?_⟩
     obtain ⟨vT, g1, g2⟩ := G9.out
     exact ⟨vT, by rw [HF.out]; exact g1, EX.out.b.trans g2⟩
   ·as_aux_lemma =>
     obtain rfl : j = 0 := by rw [← HN.out]; rfl
     go_upto_region 18 with fail
     obtain ⟨w7, hw7⟩ : ∃ w7, wr.setCell ⟨rb, 19, none⟩ (.slice ao d cap) = w7 := ⟨_, rfl⟩
     have EX := hide (HE1.out w7 hw7)
     rw [show hh = d by omega, hw7]
     clear hw7 HE1 HE0 c19r f19r lr
     have l7 : rb < w7.heap.size := Nat.lt_trans EX.out.xr EX.out.xl
     have HF : Hid (sE = (s.nxt.pop 0).push 1 (bI false)) := by
      have hst := st4 (ek := c.e.ek) (ev := c.e.ev) (hd := c.e.x2) HOI.out
      rw [HSE.out] at hst
      exact hst
     go_wp2_with fail
     refine (truthR false w7).mono ?_
     rintro e w8 ⟨rfl, hw8⟩
     rw [hw8]
     clear hw8 w8
     go_wp2_with fail
     refine (HPU.out _ _ w7 EX.out.rx HPH.out 1 (bI false)).mono ?_
     rintro e w9 ⟨rfl, G9⟩
     go_wp2
     go_ret
     refine ⟨rfl, hide ?_⟩
     obtain ⟨vT, g1, g2⟩ := G9.out
     exact ⟨vT, by rw [HF.out]; exact g1, EX.out.b.trans g2⟩
   ·as_aux_lemma =>
     obtain rfl : j = 0 := by rw [← HN.out]; rfl
     go_upto_region 18 with fail
     obtain ⟨w7, hw7⟩ : ∃ w7, wr.setCell ⟨rb, 19, none⟩ (.slice ao d cap) = w7 := ⟨_, rfl⟩
     have EX := hide (HE1.out w7 hw7)
     rw [show hh = d by omega, hw7]
     clear hw7 HE1 HE0 c19r f19r lr
     have l7 : rb < w7.heap.size := Nat.lt_trans EX.out.xr EX.out.xl
     have hpl := isPl_nat (show isPl a 8 = true by simpa [argF, fArg, formT] using HAR.out)
     obtain ⟨m, hm⟩ : ∃ m, a.toNat = m := ⟨_, rfl⟩
     rw [hm] at hpl
     obtain ⟨ham, hmn⟩ := hpl
     have i1 := EX.out.x1
     rw [ham] at i1
     have hst := st5 (ek := c.e.ek) (ev := c.e.ev) (hd := c.e.x2) HOI.out
     rw [HSE.out, HAI.out, hm] at hst
     obtain ⟨y, hy⟩ : ∃ y, c.e.ev m = y := ⟨_, rfl⟩
     obtain ⟨kk, hkk⟩ : ∃ kk, c.e.ek m = kk := ⟨_, rfl⟩
     rw [hy, hkk] at hst
     have HF : Hid (sE = (s.nxt.pop 0).push kk y) := hst
     have HKO : ∀ d9 os9, Calls Tryd.prog 52 #[.agg #[.slice c.g.ca c.p.nc c.g.cc, .slice c.g.sa c.p.ns c.g.sc, .int .i64 (c.p.en 0), .int .i64 (c.p.en 1), .int .i64 (c.p.en 2), .int .i64 (c.p.en 3), .int .i64 (c.p.en 4), .int .i64 (c.p.en 5), .slice c.g.ia c.p.n c.g.ic], .agg #[.int .i64 5, .int .i64 (m : Nat)], .int .u8 105] (grow (redrawn w7 d9) os9) fun e w'' => e = .returned (.int .i64 kk) ∧ ∃ p : Regrown, w'' = grow (redrawn w7 p.d) p.os := fun d9 os9 => by
      have E := EX.out.next (below_regrown w7 d9 os9)
      have q := kindOfR (E.rx.ok.wide (Nat.le_of_lt E.rx.lt)) 5 (m : Nat) 105 (by decide) (fun e => absurd e (by decide))
      have e1 : iv (rKind c.p ((m : Nat) : Int) 105) = .int .i64 kk := by
       rw [← hkk]
       show Value.int .i64 (if decide ((m : Int) = 7) = true then 1 else 0) = .int .i64 (if m = 7 then 1 else 0)
       by_cases q7 : m = 7
       ·subst q7; rfl
       ·rw [if_neg q7, if_neg (by simp; omega)]
      rw [e1] at q
      exact Calls.regrown_of (q.mono fun _ _ hh => ⟨hh.1, hh.2.out⟩)
     have HIN : ∀ d9 os9, Calls Tryd.prog 53 #[.pointer (some ⟨rb, 0, none⟩), .int .i64 (m : Nat)] (grow (redrawn w7 d9) os9) fun e w'' => e = .returned (.int .u64 y) ∧ ∃ p : Regrown, w'' = grow (redrawn w7 p.d) p.os := fun d9 os9 => by
      have E := EX.out.next (below_regrown w7 d9 os9)
      have q := inputR E.rx (i := m) hmn
      rw [HRB.out, hy] at q
      exact q.mono fun _ _ hh => ⟨hh.1, ⟨⟨d9, os9⟩, hh.2⟩⟩
     have z1 : w7.cell? ⟨rb, 1, none⟩ = some (.slice c.g.ca c.p.nc c.g.cc) := by rw [← HRB.out]; exact (EX.out.rx.cell 1).trans rfl
     have z2 : w7.cell? ⟨rb, 2, none⟩ = some (.slice c.g.sa c.p.ns c.g.sc) := by rw [← HRB.out]; exact (EX.out.rx.cell 2).trans rfl
     have z3 : w7.cell? ⟨rb, 3, none⟩ = some (.int .i64 (c.p.en 0)) := by rw [← HRB.out]; exact (EX.out.rx.cell 3).trans rfl
     have z4 : w7.cell? ⟨rb, 4, none⟩ = some (.int .i64 (c.p.en 1)) := by rw [← HRB.out]; exact (EX.out.rx.cell 4).trans rfl
     have z5 : w7.cell? ⟨rb, 5, none⟩ = some (.int .i64 (c.p.en 2)) := by rw [← HRB.out]; exact (EX.out.rx.cell 5).trans rfl
     have z6 : w7.cell? ⟨rb, 6, none⟩ = some (.int .i64 (c.p.en 3)) := by rw [← HRB.out]; exact (EX.out.rx.cell 6).trans rfl
     have z7 : w7.cell? ⟨rb, 7, none⟩ = some (.int .i64 (c.p.en 4)) := by rw [← HRB.out]; exact (EX.out.rx.cell 7).trans rfl
     have z8 : w7.cell? ⟨rb, 8, none⟩ = some (.int .i64 (c.p.en 5)) := by rw [← HRB.out]; exact (EX.out.rx.cell 8).trans rfl
     have z9 : w7.cell? ⟨rb, 9, none⟩ = some (.slice c.g.ia c.p.n c.g.ic) := by rw [← HRB.out]; exact (EX.out.rx.cell 9).trans rfl
     have i0 := EX.out.x0
     have k1 := cell_regrown z1
     have k2 := cell_regrown z2
     have k3 := cell_regrown z3
     have k4 := cell_regrown z4
     have k5 := cell_regrown z5
     have k6 := cell_regrown z6
     have k7 := cell_regrown z7
     have k8 := cell_regrown z8
     have k9 := cell_regrown z9
     have ki0 := cell_regrown i0
     have ki1 := cell_regrown i1
     obtain ⟨g1, hg1⟩ : ∃ g1, c.g.ca = g1 := ⟨_, rfl⟩
     obtain ⟨g2, hg2⟩ : ∃ g2, c.g.sa = g2 := ⟨_, rfl⟩
     obtain ⟨g3, hg3⟩ : ∃ g3, c.g.ia = g3 := ⟨_, rfl⟩
     rw [hg1] at HKO k1
     rw [hg2] at HKO k2
     rw [hg3] at HKO k9
     clear hst hy hkk hm z1 z2 z3 z4 z5 z6 z7 z8 z9 i0 i1 hg1 hg2 hg3
     go_upto_region 27 with fail
     refine wp_region_quiet_tail (C := fun w' => ∃ p : Regrown, w' = grow (redrawn w7 p.d) p.os) 11 (by kernel_rfl) (by kernel_rfl) (grewC_drew w7) ?_
     simp only [List.take_succ_cons, List.take_zero, List.drop_succ_cons, List.drop_zero]
     repeat (quiet_step (first | exact HKO _ _ | exact HIN _ _))
     refine wpQuiet_nil ?_
     intro w8 hw'
     obtain ⟨⟨dq, osq⟩, hw''⟩ := hw'
     have B0 : Hid (Below w7.heap.size w7 w8) := by rw [hw'']; exact below_regrown w7 dq osq
     have EZ := hide (EX.out.next B0.out)
     clear hw'' k1 k2 k3 k4 k5 k6 k7 k8 k9 ki0 ki1 HKO HIN
     go_wp2_with fail
     refine (HPU.out _ _ w8 EZ.out.rx HPH.out kk y).mono ?_
     rintro e w9 ⟨rfl, G9⟩
     go_wp2
     go_ret
     refine ⟨rfl, hide ?_⟩
     obtain ⟨vT, g1, g2⟩ := G9.out
     exact ⟨vT, by rw [HF.out]; exact g1, EZ.out.b.trans g2⟩
   ·as_aux_lemma =>
     obtain rfl : j = 0 := by rw [← HN.out]; rfl
     go_upto_region 18 with fail
     obtain ⟨w7, hw7⟩ : ∃ w7, wr.setCell ⟨rb, 19, none⟩ (.slice ao d cap) = w7 := ⟨_, rfl⟩
     have EX := hide (HE1.out w7 hw7)
     rw [show hh = d by omega, hw7]
     clear hw7 HE1 HE0 c19r f19r lr
     have l7 : rb < w7.heap.size := Nat.lt_trans EX.out.xr EX.out.xl
     have hpl := isPl_nat (show isPl a c.p.ns = true by simpa [argF, fArg, formT] using HAR.out)
     obtain ⟨m, hm⟩ : ∃ m, a.toNat = m := ⟨_, rfl⟩
     rw [hm] at hpl
     obtain ⟨ham, hmn⟩ := hpl
     have i1 := EX.out.x1
     rw [ham] at i1
     have hst := st6 (ek := c.e.ek) (ev := c.e.ev) (hd := c.e.x2) HOI.out
     rw [HSE.out, HAI.out, hm] at hst
     obtain ⟨y, hy⟩ : ∃ y, s.slt m = y := ⟨_, rfl⟩
     obtain ⟨kk, hkk⟩ : ∃ kk, c.p.S m = kk := ⟨_, rfl⟩
     rw [hy, hkk] at hst
     have HF : Hid (sE = (s.nxt.pop 0).push kk y) := hst
     have HSX : Hid (∀ w', Below w7.heap.size w7 w' → (fun (w : World) => w.cell? ⟨rb, 20, none⟩ = some (.slice (some ⟨c.qb, 0, none⟩) c.p.ns c.qc) ∧ w.cell? ⟨xb, 1, none⟩ = some (.int .i64 (m : Nat)) ∧ w.cell? ⟨c.qb, m * 2, none⟩ = some (.int .i64 kk) ∧ w.cell? ⟨c.qb, m * 2 + 1, none⟩ = some (.int .u64 y) ∧ rb < w.heap.size ∧ xb < w.heap.size ∧ c.qb < w.heap.size) w') := fun w' hb => by
      have E := EX.out.next hb
      obtain ⟨q1, q2, q3, q4, q5, q6, q7⟩ := E.rx.slot hmn
      have hr : rb < w'.heap.size := by rw [← HRB.out]; exact E.rx.lt
      rw [hkk] at q4
      have q5 : w'.cell? ⟨c.qb, m * 2 + 1, none⟩ = some (.int .u64 (s.slt m)) := q5
      rw [hy] at q5
      exact ⟨by rw [← q1, ← HRB.out]; exact (E.rx.cell 20).trans rfl, by rw [E.x1, ham], q4, q5, hr, E.xl, q3⟩
     obtain ⟨ns, hns⟩ : ∃ ns, c.p.ns = ns := ⟨_, rfl⟩
     obtain ⟨qb, hqb⟩ : ∃ qb, c.qb = qb := ⟨_, rfl⟩
     obtain ⟨qc, hqc⟩ : ∃ qc, c.qc = qc := ⟨_, rfl⟩
     have hnl : ns ≤ 128 := by rw [← hns]; exact HM.out.wf.sz.2.1
     have HNS := hide hns
     have HQB := hide hqb
     rw [hns, hqb, hqc] at HSX
     rw [hns] at hmn
     clear hns hqb hqc
     clear hst hy hkk hm i1
     go_upto_region 29 with fail
     obtain ⟨wz, hwz⟩ : ∃ wz, (w7).drew = wz := ⟨_, rfl⟩
     have HS9 : Hid ((fun (w : World) => w.cell? ⟨rb, 20, none⟩ = some (.slice (some ⟨qb, 0, none⟩) ns qc) ∧ w.cell? ⟨xb, 1, none⟩ = some (.int .i64 (m : Nat)) ∧ w.cell? ⟨qb, m * 2, none⟩ = some (.int .i64 kk) ∧ w.cell? ⟨qb, m * 2 + 1, none⟩ = some (.int .u64 y) ∧ rb < w.heap.size ∧ xb < w.heap.size ∧ qb < w.heap.size) wz) := by rw [← hwz]; exact HSX.out _ (Below.refl _ _).drew
     refine wp_region_L 21 (fun (w : World) => w.cell? ⟨rb, 20, none⟩ = some (.slice (some ⟨qb, 0, none⟩) ns qc) ∧ w.cell? ⟨xb, 1, none⟩ = some (.int .i64 (m : Nat)) ∧ w.cell? ⟨qb, m * 2, none⟩ = some (.int .i64 kk) ∧ w.cell? ⟨qb, m * 2 + 1, none⟩ = some (.int .u64 y) ∧ rb < w.heap.size ∧ xb < w.heap.size ∧ qb < w.heap.size) (fun _ => True) (by kernel_rfl) (by rw [hwz]; exact HS9.out) trivial (fun hS0 => ?_)
     rw [hwz] at hS0 ⊢
     refine wpAnyL_take (i := 0) (oi := ⟨some 182, .move (.tmp 0), 62, "run.go:173", #[], none⟩) (v := .pointer (some ⟨rb, 0, none⟩)) rfl (by decide) (by kernel_rfl) (by kernel_rfl) (by kernel_rfl) (fun _ _ _ h => h) (Or.inl ⟨by rfl, fun w2 hSw => ?_⟩) hS0 (fun hS1 => ?_)
     ·go_simp
     simp only [Act.put, lsA, lsB, lsC]
     clear hS0
     refine wpAnyL_take (i := 1) (oi := ⟨some 183, .move (.tmp 0), 62, "run.go:173", #[], none⟩) (v := .pointer (some ⟨rb, 0, none⟩)) rfl (by decide) (by kernel_rfl) (by kernel_rfl) (by kernel_rfl) (fun _ _ _ h => h) (Or.inl ⟨by rfl, fun w2 hSw => ?_⟩) hS1 (fun hS2 => ?_)
     ·go_simp
     simp only [Act.put, lsA, lsB, lsC]
     clear hS1
     refine wpAnyL_take (i := 2) (oi := ⟨some 184, .nilCheck (.tmp 183), 0, "run.go:173", #[⟨1, .data⟩], none⟩) (v := .pointer (some ⟨rb, 0, none⟩)) rfl (by decide) (by kernel_rfl) (by kernel_rfl) (by kernel_rfl) (fun _ _ _ h => h) (Or.inl ⟨by rfl, fun w2 hSw => ?_⟩) hS2 (fun hS3 => ?_)
     ·go_simp
     simp only [Act.put, lsA, lsB, lsC]
     clear hS2
     refine wpAnyL_take (i := 3) (oi := ⟨some 185, .fieldAddr 67 (.tmp 184) 3, 0, "run.go:173", #[⟨2, .data⟩], none⟩) (v := .pointer (some ⟨rb, 18, none⟩)) rfl (by decide) (by kernel_rfl) (by kernel_rfl) (by kernel_rfl) (fun _ _ _ h => h) (Or.inl ⟨by rfl, fun w2 hSw => ?_⟩) hS3 (fun hS4 => ?_)
     ·go_simp
     simp only [Act.put, lsA, lsB, lsC]
     clear hS3
     refine wpAnyL_take (i := 4) (oi := ⟨some 186, .fieldAddr 65 (.tmp 185) 2, 0, "run.go:173", #[⟨3, .data⟩], none⟩) (v := .pointer (some ⟨rb, 20, none⟩)) rfl (by decide) (by kernel_rfl) (by kernel_rfl) (by kernel_rfl) (fun _ _ _ h => h) (Or.inl ⟨by rfl, fun w2 hSw => ?_⟩) hS4 (fun hS5 => ?_)
     ·go_simp
     simp only [Act.put, lsA, lsB, lsC]
     clear hS4
     refine wpAnyL_takeP [8, 9, 10, 21] (i := 5) (oi := ⟨some 187, .load 63 (.tmp 186), 63, "run.go:173", #[⟨4, .data⟩], none⟩) (v := .slice (some ⟨qb, 0, none⟩) ns qc) rfl (by decide) (by kernel_rfl) (by kernel_rfl) (by kernel_rfl) (by kernel_rfl) (by kernel_rfl) (fun _ _ _ h => h) (Or.inl ⟨by rfl, fun w2 hSw => ?_⟩) hS5 (fun hS6 => ?_)
     ·obtain ⟨k0, k1, k2, k3, kl, kx, kc⟩ := hSw
      go_simp
     simp only [Act.put, lsA, lsB, lsC]
     clear hS5
     refine wpAnyL_take (i := 6) (oi := ⟨some 188, .fieldAddr 83 (.tmp 3) 1, 0, "run.go:173", #[], none⟩) (v := .pointer (some ⟨xb, 1, none⟩)) rfl (by decide) (by kernel_rfl) (by kernel_rfl) (by kernel_rfl) (fun _ _ _ h => h) (Or.inl ⟨by rfl, fun w2 hSw => ?_⟩) hS6 (fun hS7 => ?_)
     ·go_simp
     simp only [Act.put, lsA, lsB, lsC]
     clear hS6
     refine wpAnyL_takeP [8, 9, 10, 21] (i := 7) (oi := ⟨some 189, .load 3 (.tmp 188), 3, "run.go:173", #[⟨6, .data⟩], none⟩) (v := .int .i64 (m : Nat)) rfl (by decide) (by kernel_rfl) (by kernel_rfl) (by kernel_rfl) (by kernel_rfl) (by kernel_rfl) (fun _ _ _ h => h) (Or.inl ⟨by rfl, fun w2 hSw => ?_⟩) hS7 (fun hS8 => ?_)
     ·obtain ⟨k0, k1, k2, k3, kl, kx, kc⟩ := hSw
      go_simp
     simp only [Act.put, lsA, lsB, lsC]
     clear hS7
     refine wpAnyL_take (i := 8) (oi := ⟨some 190, .indexAddr 63 (.tmp 187) (.tmp 189), 0, "run.go:173", #[⟨5, .data⟩, ⟨7, .data⟩], none⟩) (v := .pointer (some ⟨qb, m * 2, none⟩)) rfl (by decide) (by kernel_rfl) (by kernel_rfl) (by kernel_rfl) (fun _ _ _ h => h) (Or.inl ⟨by rfl, fun w2 hSw => ?_⟩) hS8 (fun hS9 => ?_)
     ·go_simp
      all_goals (intro hx; omega)
     simp only [Act.put, lsA, lsB, lsC]
     clear hS8
     refine wpAnyL_take (i := 9) (oi := ⟨some 191, .fieldAddr 56 (.tmp 190) 0, 0, "run.go:173", #[⟨8, .data⟩], none⟩) (v := .pointer (some ⟨qb, m * 2, none⟩)) rfl (by decide) (by kernel_rfl) (by kernel_rfl) (by kernel_rfl) (fun _ _ _ h => h) (Or.inl ⟨by rfl, fun w2 hSw => ?_⟩) hS9 (fun hS10 => ?_)
     ·go_simp
     simp only [Act.put, lsA, lsB, lsC]
     clear hS9
     refine wpAnyL_takeP [21] (i := 10) (oi := ⟨some 192, .load 3 (.tmp 191), 3, "run.go:173", #[⟨9, .data⟩], none⟩) (v := .int .i64 kk) rfl (by decide) (by kernel_rfl) (by kernel_rfl) (by kernel_rfl) (by kernel_rfl) (by kernel_rfl) (fun _ _ _ h => h) (Or.inl ⟨by rfl, fun w2 hSw => ?_⟩) hS10 (fun hS11 => ?_)
     ·obtain ⟨k0, k1, k2, k3, kl, kx, kc⟩ := hSw
      go_simp
     simp only [Act.put, lsA, lsB, lsC]
     clear hS10
     refine wpAnyL_take (i := 11) (oi := ⟨some 193, .move (.tmp 0), 62, "run.go:173", #[], none⟩) (v := .pointer (some ⟨rb, 0, none⟩)) rfl (by decide) (by kernel_rfl) (by kernel_rfl) (by kernel_rfl) (fun _ _ _ h => h) (Or.inl ⟨by rfl, fun w2 hSw => ?_⟩) hS11 (fun hS12 => ?_)
     ·go_simp
     simp only [Act.put, lsA, lsB, lsC]
     clear hS11
     refine wpAnyL_take (i := 12) (oi := ⟨some 194, .nilCheck (.tmp 193), 0, "run.go:173", #[⟨11, .data⟩], none⟩) (v := .pointer (some ⟨rb, 0, none⟩)) rfl (by decide) (by kernel_rfl) (by kernel_rfl) (by kernel_rfl) (fun _ _ _ h => h) (Or.inl ⟨by rfl, fun w2 hSw => ?_⟩) hS12 (fun hS13 => ?_)
     ·go_simp
     simp only [Act.put, lsA, lsB, lsC]
     clear hS12
     refine wpAnyL_take (i := 13) (oi := ⟨some 195, .fieldAddr 67 (.tmp 194) 3, 0, "run.go:173", #[⟨12, .data⟩], none⟩) (v := .pointer (some ⟨rb, 18, none⟩)) rfl (by decide) (by kernel_rfl) (by kernel_rfl) (by kernel_rfl) (fun _ _ _ h => h) (Or.inl ⟨by rfl, fun w2 hSw => ?_⟩) hS13 (fun hS14 => ?_)
     ·go_simp
     simp only [Act.put, lsA, lsB, lsC]
     clear hS13
     refine wpAnyL_take (i := 14) (oi := ⟨some 196, .fieldAddr 65 (.tmp 195) 2, 0, "run.go:173", #[⟨13, .data⟩], none⟩) (v := .pointer (some ⟨rb, 20, none⟩)) rfl (by decide) (by kernel_rfl) (by kernel_rfl) (by kernel_rfl) (fun _ _ _ h => h) (Or.inl ⟨by rfl, fun w2 hSw => ?_⟩) hS14 (fun hS15 => ?_)
     ·go_simp
     simp only [Act.put, lsA, lsB, lsC]
     clear hS14
     refine wpAnyL_takeP [18, 19, 20, 21] (i := 15) (oi := ⟨some 197, .load 63 (.tmp 196), 63, "run.go:173", #[⟨14, .data⟩], none⟩) (v := .slice (some ⟨qb, 0, none⟩) ns qc) rfl (by decide) (by kernel_rfl) (by kernel_rfl) (by kernel_rfl) (by kernel_rfl) (by kernel_rfl) (fun _ _ _ h => h) (Or.inl ⟨by rfl, fun w2 hSw => ?_⟩) hS15 (fun hS16 => ?_)
     ·obtain ⟨k0, k1, k2, k3, kl, kx, kc⟩ := hSw
      go_simp
     simp only [Act.put, lsA, lsB, lsC]
     clear hS15
     refine wpAnyL_take (i := 16) (oi := ⟨some 198, .fieldAddr 83 (.tmp 3) 1, 0, "run.go:173", #[], none⟩) (v := .pointer (some ⟨xb, 1, none⟩)) rfl (by decide) (by kernel_rfl) (by kernel_rfl) (by kernel_rfl) (fun _ _ _ h => h) (Or.inl ⟨by rfl, fun w2 hSw => ?_⟩) hS16 (fun hS17 => ?_)
     ·go_simp
     simp only [Act.put, lsA, lsB, lsC]
     clear hS16
     refine wpAnyL_takeP [18, 19, 20, 21] (i := 17) (oi := ⟨some 199, .load 3 (.tmp 198), 3, "run.go:173", #[⟨16, .data⟩], none⟩) (v := .int .i64 (m : Nat)) rfl (by decide) (by kernel_rfl) (by kernel_rfl) (by kernel_rfl) (by kernel_rfl) (by kernel_rfl) (fun _ _ _ h => h) (Or.inl ⟨by rfl, fun w2 hSw => ?_⟩) hS17 (fun hS18 => ?_)
     ·obtain ⟨k0, k1, k2, k3, kl, kx, kc⟩ := hSw
      go_simp
     simp only [Act.put, lsA, lsB, lsC]
     clear hS17
     refine wpAnyL_take (i := 18) (oi := ⟨some 200, .indexAddr 63 (.tmp 197) (.tmp 199), 0, "run.go:173", #[⟨15, .data⟩, ⟨17, .data⟩], none⟩) (v := .pointer (some ⟨qb, m * 2, none⟩)) rfl (by decide) (by kernel_rfl) (by kernel_rfl) (by kernel_rfl) (fun _ _ _ h => h) (Or.inl ⟨by rfl, fun w2 hSw => ?_⟩) hS18 (fun hS19 => ?_)
     ·go_simp
      all_goals (intro hx; omega)
     simp only [Act.put, lsA, lsB, lsC]
     clear hS18
     refine wpAnyL_take (i := 19) (oi := ⟨some 201, .fieldAddr 56 (.tmp 200) 1, 0, "run.go:173", #[⟨18, .data⟩], none⟩) (v := .pointer (some ⟨qb, m * 2 + 1, none⟩)) rfl (by decide) (by kernel_rfl) (by kernel_rfl) (by kernel_rfl) (fun _ _ _ h => h) (Or.inl ⟨by rfl, fun w2 hSw => ?_⟩) hS19 (fun hS20 => ?_)
     ·go_simp
     simp only [Act.put, lsA, lsB, lsC]
     clear hS19
     refine wpAnyL_takeP [21] (i := 20) (oi := ⟨some 202, .load 42 (.tmp 201), 42, "run.go:173", #[⟨19, .data⟩], none⟩) (v := .int .u64 y) rfl (by decide) (by kernel_rfl) (by kernel_rfl) (by kernel_rfl) (by kernel_rfl) (by kernel_rfl) (fun _ _ _ h => h) (Or.inl ⟨by rfl, fun w2 hSw => ?_⟩) hS20 (fun hS21 => ?_)
     ·obtain ⟨k0, k1, k2, k3, kl, kx, kc⟩ := hSw
      go_simp
     simp only [Act.put, lsA, lsB, lsC]
     clear hS20
     refine wpAnyL_one (i := 21) (o := ⟨some 203, .call { callee := Callee.value (.func 50), args := #[.tmp 182, .tmp 192, .tmp 202], argTypes := #[62, 3, 42] }, 0, "run.go:173", #[⟨0, .data⟩, ⟨10, .data⟩, ⟨20, .data⟩], none⟩) (by kernel_rfl) rfl (fun K hK => ?_)
     go_simp
     go_wp2_with fail
     have B0 : Hid (Below w7.heap.size w7 wz) := by rw [← hwz]; exact (Below.refl _ _).drew
     have EZ := hide (EX.out.next B0.out)
     refine (HPU.out _ _ wz EZ.out.rx HPH.out kk y).mono ?_
     rintro e w9 ⟨rfl, G9⟩
     go_simp
     refine hK.out _ _ ⟨fun h => (by cases (show true = false from h)), trivial⟩ ?_
     clear hK K
     refine wpAnyL_done (by kernel_rfl) ?_ _
     clear HS9
     go_wp2
     go_ret
     refine ⟨rfl, hide ?_⟩
     obtain ⟨vT, g1, g2⟩ := G9.out
     exact ⟨vT, by rw [HF.out]; exact g1, EZ.out.b.trans g2⟩
   ·as_aux_lemma =>
     obtain rfl : j = 1 := by rw [← HN.out]; rfl
     go_upto_region 18 with fail
     obtain ⟨w7, hw7⟩ : ∃ w7, wr.setCell ⟨rb, 19, none⟩ (.slice ao d cap) = w7 := ⟨_, rfl⟩
     have EX := hide (HE1.out w7 hw7)
     rw [show hh - 1 = d by omega, hw7]
     clear hw7 HE1 HE0 c19r f19r lr
     have l7 : rb < w7.heap.size := Nat.lt_trans EX.out.xr EX.out.xl
     have hpl := isPl_nat (show isPl a c.p.ns = true by simpa [argF, fArg, formT] using HAR.out)
     obtain ⟨m, hm⟩ : ∃ m, a.toNat = m := ⟨_, rfl⟩
     rw [hm] at hpl
     obtain ⟨ham, hmn⟩ := hpl
     have i1 := EX.out.x1
     rw [ham] at i1
     obtain ⟨vb, vc, hvv, htk, hvr⟩ := EX.out.tk (by decide)
     subst hvv
     have hx0 : X 0 = s.top 0 := by rw [HXX.out 0]; unfold Ms.top; rw [HHH.out]; congr 1; omega
     have hst := st7 (ek := c.e.ek) (ev := c.e.ev) (hd := c.e.x2) HOI.out
     rw [HSE.out, HAI.out, hm, ← hx0] at hst
     obtain ⟨y, hy⟩ : ∃ y, X 0 = y := ⟨_, rfl⟩
     rw [hy] at hst
     have HF : Hid (sE = { s.nxt.pop 1 with slt := updI (s.nxt.pop 1).slt m y }) := hst
     have HSL : Hid (∀ w', Below w7.heap.size w7 w' → (w'.cell? ⟨c.qb, m * 2 + 1, none⟩ = some (.int .u64 (s.slt m)) ∧ w'.frozen? ⟨c.qb, m * 2 + 1, none⟩ = false ∧ c.qb < w'.heap.size) ∧ Rx c (.slice ao d cap) { s.nxt.pop 1 with slt := updI (s.nxt.pop 1).slt m y } (w'.setCell ⟨c.qb, m * 2 + 1, none⟩ (.int .u64 y)) ∧ Bk rb w (w'.setCell ⟨c.qb, m * 2 + 1, none⟩ (.int .u64 y))) := fun w' hb => by
      have E := EX.out.next hb
      obtain ⟨q1, q2, q3, q4, q5, q6, q7⟩ := E.rx.slot hmn
      have q8 := q7 y
      exact ⟨⟨q5, q6, q3⟩, q8.1, E.b.trans (by rw [← HRB.out]; exact q8.2)⟩
     have HSX : Hid (∀ w', Below w7.heap.size w7 w' → (fun (w : World) => w.cell? ⟨rb, 20, none⟩ = some (.slice (some ⟨c.qb, 0, none⟩) c.p.ns c.qc) ∧ w.cell? ⟨xb, 1, none⟩ = some (.int .i64 (m : Nat)) ∧ w.cell? ⟨vb, 0, none⟩ = some (.int .u64 y) ∧ rb < w.heap.size ∧ xb < w.heap.size ∧ c.qb < w.heap.size ∧ vb < w.heap.size) w') := fun w' hb => by
      have E := EX.out.next hb
      obtain ⟨q1, q2, q3, q4, q5, q6, q7⟩ := E.rx.slot hmn
      have t := htk.below hb htk.l
      have hr : rb < w'.heap.size := by rw [← HRB.out]; exact E.rx.lt
      exact ⟨by rw [← q1, ← HRB.out]; exact (E.rx.cell 20).trans rfl, by rw [E.x1, ham], by rw [← hy]; exact t.v 0 (by decide), hr, E.xl, q3, t.l⟩
     obtain ⟨ns, hns⟩ : ∃ ns, c.p.ns = ns := ⟨_, rfl⟩
     obtain ⟨qb, hqb⟩ : ∃ qb, c.qb = qb := ⟨_, rfl⟩
     obtain ⟨qc, hqc⟩ : ∃ qc, c.qc = qc := ⟨_, rfl⟩
     have hnl : ns ≤ 128 := by rw [← hns]; exact HM.out.wf.sz.2.1
     have HNS := hide hns
     have HQB := hide hqb
     rw [hns, hqb, hqc] at HSX
     rw [hqb] at HSL
     rw [hns] at hmn
     clear hns hqb hqc
     clear hst hy hm i1 htk hx0
     go_upto_region 31 with fail
     obtain ⟨wz, hwz⟩ : ∃ wz, (w7).drew = wz := ⟨_, rfl⟩
     have HS9 : Hid ((fun (w : World) => w.cell? ⟨rb, 20, none⟩ = some (.slice (some ⟨qb, 0, none⟩) ns qc) ∧ w.cell? ⟨xb, 1, none⟩ = some (.int .i64 (m : Nat)) ∧ w.cell? ⟨vb, 0, none⟩ = some (.int .u64 y) ∧ rb < w.heap.size ∧ xb < w.heap.size ∧ qb < w.heap.size ∧ vb < w.heap.size) wz) := by rw [← hwz]; exact HSX.out _ (Below.refl _ _).drew
     refine wp_region_L 12 (fun (w : World) => w.cell? ⟨rb, 20, none⟩ = some (.slice (some ⟨qb, 0, none⟩) ns qc) ∧ w.cell? ⟨xb, 1, none⟩ = some (.int .i64 (m : Nat)) ∧ w.cell? ⟨vb, 0, none⟩ = some (.int .u64 y) ∧ rb < w.heap.size ∧ xb < w.heap.size ∧ qb < w.heap.size ∧ vb < w.heap.size) (fun _ => True) (by kernel_rfl) (by rw [hwz]; exact HS9.out) trivial (fun hS0 => ?_)
     rw [hwz] at hS0 ⊢
     refine wpAnyL_take (i := 0) (oi := ⟨some 207, .move (.tmp 0), 62, "run.go:175", #[], none⟩) (v := .pointer (some ⟨rb, 0, none⟩)) rfl (by decide) (by kernel_rfl) (by kernel_rfl) (by kernel_rfl) (fun _ _ _ h => h) (Or.inl ⟨by rfl, fun w2 hSw => ?_⟩) hS0 (fun hS1 => ?_)
     ·go_simp
     simp only [Act.put, lsA, lsB, lsC]
     clear hS0
     refine wpAnyL_take (i := 1) (oi := ⟨some 208, .nilCheck (.tmp 207), 0, "run.go:175", #[⟨0, .data⟩], none⟩) (v := .pointer (some ⟨rb, 0, none⟩)) rfl (by decide) (by kernel_rfl) (by kernel_rfl) (by kernel_rfl) (fun _ _ _ h => h) (Or.inl ⟨by rfl, fun w2 hSw => ?_⟩) hS1 (fun hS2 => ?_)
     ·go_simp
     simp only [Act.put, lsA, lsB, lsC]
     clear hS1
     refine wpAnyL_take (i := 2) (oi := ⟨some 209, .fieldAddr 67 (.tmp 208) 3, 0, "run.go:175", #[⟨1, .data⟩], none⟩) (v := .pointer (some ⟨rb, 18, none⟩)) rfl (by decide) (by kernel_rfl) (by kernel_rfl) (by kernel_rfl) (fun _ _ _ h => h) (Or.inl ⟨by rfl, fun w2 hSw => ?_⟩) hS2 (fun hS3 => ?_)
     ·go_simp
     simp only [Act.put, lsA, lsB, lsC]
     clear hS2
     refine wpAnyL_take (i := 3) (oi := ⟨some 210, .fieldAddr 65 (.tmp 209) 2, 0, "run.go:175", #[⟨2, .data⟩], none⟩) (v := .pointer (some ⟨rb, 20, none⟩)) rfl (by decide) (by kernel_rfl) (by kernel_rfl) (by kernel_rfl) (fun _ _ _ h => h) (Or.inl ⟨by rfl, fun w2 hSw => ?_⟩) hS3 (fun hS4 => ?_)
     ·go_simp
     simp only [Act.put, lsA, lsB, lsC]
     clear hS3
     refine wpAnyL_takeP [10, 11, 12] (i := 4) (oi := ⟨some 211, .load 63 (.tmp 210), 63, "run.go:175", #[⟨3, .data⟩], none⟩) (v := .slice (some ⟨qb, 0, none⟩) ns qc) rfl (by decide) (by kernel_rfl) (by kernel_rfl) (by kernel_rfl) (by kernel_rfl) (by kernel_rfl) (fun _ _ _ h => h) (Or.inl ⟨by rfl, fun w2 hSw => ?_⟩) hS4 (fun hS5 => ?_)
     ·obtain ⟨k0, k1, k2, kl, kx, kc, kv⟩ := hSw
      go_simp
     simp only [Act.put, lsA, lsB, lsC]
     clear hS4
     refine wpAnyL_take (i := 5) (oi := ⟨some 212, .fieldAddr 83 (.tmp 3) 1, 0, "run.go:175", #[], none⟩) (v := .pointer (some ⟨xb, 1, none⟩)) rfl (by decide) (by kernel_rfl) (by kernel_rfl) (by kernel_rfl) (fun _ _ _ h => h) (Or.inl ⟨by rfl, fun w2 hSw => ?_⟩) hS5 (fun hS6 => ?_)
     ·go_simp
     simp only [Act.put, lsA, lsB, lsC]
     clear hS5
     refine wpAnyL_takeP [10, 11, 12] (i := 6) (oi := ⟨some 213, .load 3 (.tmp 212), 3, "run.go:175", #[⟨5, .data⟩], none⟩) (v := .int .i64 (m : Nat)) rfl (by decide) (by kernel_rfl) (by kernel_rfl) (by kernel_rfl) (by kernel_rfl) (by kernel_rfl) (fun _ _ _ h => h) (Or.inl ⟨by rfl, fun w2 hSw => ?_⟩) hS6 (fun hS7 => ?_)
     ·obtain ⟨k0, k1, k2, kl, kx, kc, kv⟩ := hSw
      go_simp
     simp only [Act.put, lsA, lsB, lsC]
     clear hS6
     refine wpAnyL_take (i := 7) (oi := ⟨some 214, .move (.tmp 5), 22, "run.go:175", #[], none⟩) (v := .slice (some ⟨vb, 0, none⟩) 1 vc) rfl (by decide) (by kernel_rfl) (by kernel_rfl) (by kernel_rfl) (fun _ _ _ h => h) (Or.inl ⟨by rfl, fun w2 hSw => ?_⟩) hS7 (fun hS8 => ?_)
     ·go_simp
     simp only [Act.put, lsA, lsB, lsC]
     clear hS7
     refine wpAnyL_take (i := 8) (oi := ⟨some 215, .indexAddr 22 (.tmp 214) (.const (.int .i64 0)), 0, "run.go:175", #[⟨7, .data⟩], none⟩) (v := .pointer (some ⟨vb, 0, none⟩)) rfl (by decide) (by kernel_rfl) (by kernel_rfl) (by kernel_rfl) (fun _ _ _ h => h) (Or.inl ⟨by rfl, fun w2 hSw => ?_⟩) hS8 (fun hS9 => ?_)
     ·go_simp
     simp only [Act.put, lsA, lsB, lsC]
     clear hS8
     refine wpAnyL_takeP [12] (i := 9) (oi := ⟨some 216, .load 42 (.tmp 215), 42, "run.go:175", #[⟨8, .data⟩], none⟩) (v := .int .u64 y) rfl (by decide) (by kernel_rfl) (by kernel_rfl) (by kernel_rfl) (by kernel_rfl) (by kernel_rfl) (fun _ _ _ h => h) (Or.inl ⟨by rfl, fun w2 hSw => ?_⟩) hS9 (fun hS10 => ?_)
     ·obtain ⟨k0, k1, k2, kl, kx, kc, kv⟩ := hSw
      go_simp
     simp only [Act.put, lsA, lsB, lsC]
     clear hS9
     refine wpAnyL_take (i := 10) (oi := ⟨some 217, .indexAddr 63 (.tmp 211) (.tmp 213), 0, "run.go:175", #[⟨4, .data⟩, ⟨6, .data⟩, ⟨0, .phase⟩, ⟨1, .phase⟩, ⟨2, .phase⟩, ⟨3, .phase⟩, ⟨4, .phase⟩, ⟨5, .phase⟩, ⟨6, .phase⟩, ⟨7, .phase⟩, ⟨8, .phase⟩, ⟨9, .phase⟩], none⟩) (v := .pointer (some ⟨qb, m * 2, none⟩)) rfl (by decide) (by kernel_rfl) (by kernel_rfl) (by kernel_rfl) (fun _ _ _ h => h) (Or.inl ⟨by rfl, fun w2 hSw => ?_⟩) hS10 (fun hS11 => ?_)
     ·go_simp
      all_goals (intro hx; omega)
     simp only [Act.put, lsA, lsB, lsC]
     clear hS10
     refine wpAnyL_take (i := 11) (oi := ⟨some 218, .fieldAddr 56 (.tmp 217) 1, 0, "run.go:175", #[⟨10, .data⟩, ⟨0, .phase⟩, ⟨1, .phase⟩, ⟨2, .phase⟩, ⟨3, .phase⟩, ⟨4, .phase⟩, ⟨5, .phase⟩, ⟨6, .phase⟩, ⟨7, .phase⟩, ⟨8, .phase⟩, ⟨9, .phase⟩], none⟩) (v := .pointer (some ⟨qb, m * 2 + 1, none⟩)) rfl (by decide) (by kernel_rfl) (by kernel_rfl) (by kernel_rfl) (fun _ _ _ h => h) (Or.inl ⟨by rfl, fun w2 hSw => ?_⟩) hS11 (fun hS12 => ?_)
     ·go_simp
     simp only [Act.put, lsA, lsB, lsC]
     clear hS11
     have B0 : Hid (Below w7.heap.size w7 wz) := by rw [← hwz]; exact (Below.refl _ _).drew
     have HST := hide (HSL.out wz B0.out)
     obtain ⟨sc, sf, sl⟩ : wz.cell? ⟨qb, m * 2 + 1, none⟩ = some (.int .u64 (s.slt m)) ∧ wz.frozen? ⟨qb, m * 2 + 1, none⟩ = false ∧ qb < wz.heap.size := HST.out.1
     refine wpAnyL_one (i := 12) (o := ⟨none, .store 42 (.tmp 218) (.tmp 216), 0, "run.go:175", #[⟨11, .data⟩, ⟨9, .data⟩, ⟨0, .phase⟩, ⟨1, .phase⟩, ⟨2, .phase⟩, ⟨3, .phase⟩, ⟨4, .phase⟩, ⟨5, .phase⟩, ⟨6, .phase⟩, ⟨7, .phase⟩, ⟨8, .phase⟩, ⟨9, .phase⟩], none⟩) (by kernel_rfl) rfl (fun K hK => ?_)
     go_simp
     go_wp2_with fail
     refine hK.out _ _ ⟨fun h => (by cases (show true = false from h)), trivial⟩ ?_
     clear hK K
     refine wpAnyL_done (by kernel_rfl) ?_ _
     clear HS9
     go_wp2
     go_ret
     exact ⟨rfl, hide ⟨_, by rw [HF.out]; exact HST.out.2.1, HST.out.2.2⟩⟩
   ·as_aux_lemma =>
     obtain rfl : j = 1 := by rw [← HN.out]; rfl
     go_upto_region 18 with fail
     obtain ⟨w7, hw7⟩ : ∃ w7, wr.setCell ⟨rb, 19, none⟩ (.slice ao d cap) = w7 := ⟨_, rfl⟩
     have EX := hide (HE1.out w7 hw7)
     rw [show hh - 1 = d by omega, hw7]
     clear hw7 HE1 HE0 c19r f19r lr
     have l7 : rb < w7.heap.size := Nat.lt_trans EX.out.xr EX.out.xl
     obtain ⟨vb, vc, hvv, htk, hvr⟩ := EX.out.tk (by decide)
     subst hvv
     have vl := htk.l
     have v0 := htk.v 0 (by decide)
     have t0 := (HTOP.out 0 true (by rw [tk_of HOP.out]; rfl)).b rfl
     have hx0 : X 0 = s.top 0 := by rw [HXX.out 0]; unfold Ms.top; rw [HHH.out]; congr 1; omega
     have HF : Hid (sE = (s.nxt.pop 1).push 1 (1 - X 0)) := by
      have hst : stepF c.p c.e.ek c.e.ev c.e.x2 s = ((s.pop 1).push 1 (1 - s.top 0)).nxt := by unfold stepF; simp only [HOI.out]; rfl
      rw [HSE.out] at hst
      rw [hx0]
      exact hst
     have ew : IntKind.u64.wrap (1 - X 0) = 1 - X 0 := wr64 (by omega) (by omega)
     clear htk hx0 t0
     generalize X 0 = y0 at *
     go_wp2_with fail
     refine (HPU.out _ _ w7 EX.out.rx HPH.out 1 (1 - y0)).mono ?_
     rintro e w9 ⟨rfl, G9⟩
     go_wp2
     go_ret
     refine ⟨rfl, hide ?_⟩
     obtain ⟨vT, g1, g2⟩ := G9.out
     exact ⟨vT, by rw [HF.out]; exact g1, EX.out.b.trans g2⟩
   ·as_aux_lemma =>
     obtain rfl : j = 2 := by rw [← HN.out]; rfl
     go_upto_region 18 with fail
     obtain ⟨w7, hw7⟩ : ∃ w7, wr.setCell ⟨rb, 19, none⟩ (.slice ao d cap) = w7 := ⟨_, rfl⟩
     have EX := hide (HE1.out w7 hw7)
     rw [show hh - 2 = d by omega, hw7]
     clear hw7 HE1 HE0 c19r f19r lr
     have l7 : rb < w7.heap.size := Nat.lt_trans EX.out.xr EX.out.xl
     obtain ⟨vb, vc, hvv, htk, hvr⟩ := EX.out.tk (by decide)
     subst hvv
     have hx0 : X 0 = s.top 1 := by rw [HXX.out 0]; unfold Ms.top; rw [HHH.out]; congr 1; omega
     have hx1 : X 1 = s.top 0 := by rw [HXX.out 1]; unfold Ms.top; rw [HHH.out]; congr 1; omega
     have hst : stepF c.p c.e.ek c.e.ev c.e.x2 s = ((s.pop 2).push 1 (bI (cmpB 9 (s.top 1) (s.top 0)))).nxt := by unfold stepF; simp only [HOI.out]; rfl
     rw [HSE.out, ← hx0, ← hx1] at hst
     have HCM := cmpQ w7 (o := 9) (by decide) (by decide) (X 0) (X 1)
     obtain ⟨bb, hbb⟩ : ∃ bb, cmpB 9 (X 0) (X 1) = bb := ⟨_, rfl⟩
     rw [hbb] at HCM hst
     have HTR := truQ w7 bb
     have HF : Hid (sE = (s.nxt.pop 2).push 1 (bI bb)) := hst
     have k0 := cell_regrown (htk.v 0 (by decide))
     have k1 := cell_regrown (htk.v 1 (by decide))
     clear hst hbb hx0 hx1 htk
     generalize X 0 = q0 at *
     generalize X 1 = q1 at *
     go_upto_region 35 with fail
     refine wp_region_quiet_tail (C := fun w' => ∃ p : Regrown, w' = grow (redrawn w7 p.d) p.os) 10 (by kernel_rfl) (by kernel_rfl) (grewC_drew w7) ?_
     simp only [List.take_succ_cons, List.take_zero, List.drop_succ_cons, List.drop_zero]
     repeat (quiet_step (first | exact HCM _ _ | exact HTR _ _))
     refine wpQuiet_nil ?_
     intro w8 hw'
     obtain ⟨⟨dq, osq⟩, hw''⟩ := hw'
     have B0 : Hid (Below w7.heap.size w7 w8) := by rw [hw'']; exact below_regrown w7 dq osq
     have EZ := hide (EX.out.next B0.out)
     clear hw'' k0 k1 HCM HTR
     go_wp2_with fail
     refine (HPU.out _ _ w8 EZ.out.rx HPH.out 1 (bI bb)).mono ?_
     rintro e w9 ⟨rfl, G9⟩
     go_wp2
     go_ret
     refine ⟨rfl, hide ?_⟩
     obtain ⟨vT, g1, g2⟩ := G9.out
     exact ⟨vT, by rw [HF.out]; exact g1, EZ.out.b.trans g2⟩
   ·as_aux_lemma =>
     obtain rfl : j = 2 := by rw [← HN.out]; rfl
     go_upto_region 18 with fail
     obtain ⟨w7, hw7⟩ : ∃ w7, wr.setCell ⟨rb, 19, none⟩ (.slice ao d cap) = w7 := ⟨_, rfl⟩
     have EX := hide (HE1.out w7 hw7)
     rw [show hh - 2 = d by omega, hw7]
     clear hw7 HE1 HE0 c19r f19r lr
     have l7 : rb < w7.heap.size := Nat.lt_trans EX.out.xr EX.out.xl
     obtain ⟨vb, vc, hvv, htk, hvr⟩ := EX.out.tk (by decide)
     subst hvv
     have hx0 : X 0 = s.top 1 := by rw [HXX.out 0]; unfold Ms.top; rw [HHH.out]; congr 1; omega
     have hx1 : X 1 = s.top 0 := by rw [HXX.out 1]; unfold Ms.top; rw [HHH.out]; congr 1; omega
     have hst : stepF c.p c.e.ek c.e.ev c.e.x2 s = ((s.pop 2).push 1 (bI (cmpB 10 (s.top 1) (s.top 0)))).nxt := by unfold stepF; simp only [HOI.out]; rfl
     rw [HSE.out, ← hx0, ← hx1] at hst
     have HCM := cmpQ w7 (o := 10) (by decide) (by decide) (X 0) (X 1)
     obtain ⟨bb, hbb⟩ : ∃ bb, cmpB 10 (X 0) (X 1) = bb := ⟨_, rfl⟩
     rw [hbb] at HCM hst
     have HTR := truQ w7 bb
     have HF : Hid (sE = (s.nxt.pop 2).push 1 (bI bb)) := hst
     have k0 := cell_regrown (htk.v 0 (by decide))
     have k1 := cell_regrown (htk.v 1 (by decide))
     clear hst hbb hx0 hx1 htk
     generalize X 0 = q0 at *
     generalize X 1 = q1 at *
     go_upto_region 35 with fail
     refine wp_region_quiet_tail (C := fun w' => ∃ p : Regrown, w' = grow (redrawn w7 p.d) p.os) 10 (by kernel_rfl) (by kernel_rfl) (grewC_drew w7) ?_
     simp only [List.take_succ_cons, List.take_zero, List.drop_succ_cons, List.drop_zero]
     repeat (quiet_step (first | exact HCM _ _ | exact HTR _ _))
     refine wpQuiet_nil ?_
     intro w8 hw'
     obtain ⟨⟨dq, osq⟩, hw''⟩ := hw'
     have B0 : Hid (Below w7.heap.size w7 w8) := by rw [hw'']; exact below_regrown w7 dq osq
     have EZ := hide (EX.out.next B0.out)
     clear hw'' k0 k1 HCM HTR
     go_wp2_with fail
     refine (HPU.out _ _ w8 EZ.out.rx HPH.out 1 (bI bb)).mono ?_
     rintro e w9 ⟨rfl, G9⟩
     go_wp2
     go_ret
     refine ⟨rfl, hide ?_⟩
     obtain ⟨vT, g1, g2⟩ := G9.out
     exact ⟨vT, by rw [HF.out]; exact g1, EZ.out.b.trans g2⟩
   ·as_aux_lemma =>
     obtain rfl : j = 2 := by rw [← HN.out]; rfl
     go_upto_region 18 with fail
     obtain ⟨w7, hw7⟩ : ∃ w7, wr.setCell ⟨rb, 19, none⟩ (.slice ao d cap) = w7 := ⟨_, rfl⟩
     have EX := hide (HE1.out w7 hw7)
     rw [show hh - 2 = d by omega, hw7]
     clear hw7 HE1 HE0 c19r f19r lr
     have l7 : rb < w7.heap.size := Nat.lt_trans EX.out.xr EX.out.xl
     obtain ⟨vb, vc, hvv, htk, hvr⟩ := EX.out.tk (by decide)
     subst hvv
     have hx0 : X 0 = s.top 1 := by rw [HXX.out 0]; unfold Ms.top; rw [HHH.out]; congr 1; omega
     have hx1 : X 1 = s.top 0 := by rw [HXX.out 1]; unfold Ms.top; rw [HHH.out]; congr 1; omega
     have hst : stepF c.p c.e.ek c.e.ev c.e.x2 s = ((s.pop 2).push 1 (bI (cmpB 11 (s.top 1) (s.top 0)))).nxt := by unfold stepF; simp only [HOI.out]; rfl
     rw [HSE.out, ← hx0, ← hx1] at hst
     have HCM := cmpQ w7 (o := 11) (by decide) (by decide) (X 0) (X 1)
     obtain ⟨bb, hbb⟩ : ∃ bb, cmpB 11 (X 0) (X 1) = bb := ⟨_, rfl⟩
     rw [hbb] at HCM hst
     have HTR := truQ w7 bb
     have HF : Hid (sE = (s.nxt.pop 2).push 1 (bI bb)) := hst
     have k0 := cell_regrown (htk.v 0 (by decide))
     have k1 := cell_regrown (htk.v 1 (by decide))
     clear hst hbb hx0 hx1 htk
     generalize X 0 = q0 at *
     generalize X 1 = q1 at *
     go_upto_region 35 with fail
     refine wp_region_quiet_tail (C := fun w' => ∃ p : Regrown, w' = grow (redrawn w7 p.d) p.os) 10 (by kernel_rfl) (by kernel_rfl) (grewC_drew w7) ?_
     simp only [List.take_succ_cons, List.take_zero, List.drop_succ_cons, List.drop_zero]
     repeat (quiet_step (first | exact HCM _ _ | exact HTR _ _))
     refine wpQuiet_nil ?_
     intro w8 hw'
     obtain ⟨⟨dq, osq⟩, hw''⟩ := hw'
     have B0 : Hid (Below w7.heap.size w7 w8) := by rw [hw'']; exact below_regrown w7 dq osq
     have EZ := hide (EX.out.next B0.out)
     clear hw'' k0 k1 HCM HTR
     go_wp2_with fail
     refine (HPU.out _ _ w8 EZ.out.rx HPH.out 1 (bI bb)).mono ?_
     rintro e w9 ⟨rfl, G9⟩
     go_wp2
     go_ret
     refine ⟨rfl, hide ?_⟩
     obtain ⟨vT, g1, g2⟩ := G9.out
     exact ⟨vT, by rw [HF.out]; exact g1, EZ.out.b.trans g2⟩
   ·as_aux_lemma =>
     obtain rfl : j = 2 := by rw [← HN.out]; rfl
     go_upto_region 18 with fail
     obtain ⟨w7, hw7⟩ : ∃ w7, wr.setCell ⟨rb, 19, none⟩ (.slice ao d cap) = w7 := ⟨_, rfl⟩
     have EX := hide (HE1.out w7 hw7)
     rw [show hh - 2 = d by omega, hw7]
     clear hw7 HE1 HE0 c19r f19r lr
     have l7 : rb < w7.heap.size := Nat.lt_trans EX.out.xr EX.out.xl
     obtain ⟨vb, vc, hvv, htk, hvr⟩ := EX.out.tk (by decide)
     subst hvv
     have hx0 : X 0 = s.top 1 := by rw [HXX.out 0]; unfold Ms.top; rw [HHH.out]; congr 1; omega
     have hx1 : X 1 = s.top 0 := by rw [HXX.out 1]; unfold Ms.top; rw [HHH.out]; congr 1; omega
     have hst : stepF c.p c.e.ek c.e.ev c.e.x2 s = ((s.pop 2).push 1 (bI (cmpB 12 (s.top 1) (s.top 0)))).nxt := by unfold stepF; simp only [HOI.out]; rfl
     rw [HSE.out, ← hx0, ← hx1] at hst
     have HCM := cmpQ w7 (o := 12) (by decide) (by decide) (X 0) (X 1)
     obtain ⟨bb, hbb⟩ : ∃ bb, cmpB 12 (X 0) (X 1) = bb := ⟨_, rfl⟩
     rw [hbb] at HCM hst
     have HTR := truQ w7 bb
     have HF : Hid (sE = (s.nxt.pop 2).push 1 (bI bb)) := hst
     have k0 := cell_regrown (htk.v 0 (by decide))
     have k1 := cell_regrown (htk.v 1 (by decide))
     clear hst hbb hx0 hx1 htk
     generalize X 0 = q0 at *
     generalize X 1 = q1 at *
     go_upto_region 35 with fail
     refine wp_region_quiet_tail (C := fun w' => ∃ p : Regrown, w' = grow (redrawn w7 p.d) p.os) 10 (by kernel_rfl) (by kernel_rfl) (grewC_drew w7) ?_
     simp only [List.take_succ_cons, List.take_zero, List.drop_succ_cons, List.drop_zero]
     repeat (quiet_step (first | exact HCM _ _ | exact HTR _ _))
     refine wpQuiet_nil ?_
     intro w8 hw'
     obtain ⟨⟨dq, osq⟩, hw''⟩ := hw'
     have B0 : Hid (Below w7.heap.size w7 w8) := by rw [hw'']; exact below_regrown w7 dq osq
     have EZ := hide (EX.out.next B0.out)
     clear hw'' k0 k1 HCM HTR
     go_wp2_with fail
     refine (HPU.out _ _ w8 EZ.out.rx HPH.out 1 (bI bb)).mono ?_
     rintro e w9 ⟨rfl, G9⟩
     go_wp2
     go_ret
     refine ⟨rfl, hide ?_⟩
     obtain ⟨vT, g1, g2⟩ := G9.out
     exact ⟨vT, by rw [HF.out]; exact g1, EZ.out.b.trans g2⟩
   ·as_aux_lemma =>
     obtain rfl : j = 2 := by rw [← HN.out]; rfl
     go_upto_region 18 with fail
     obtain ⟨w7, hw7⟩ : ∃ w7, wr.setCell ⟨rb, 19, none⟩ (.slice ao d cap) = w7 := ⟨_, rfl⟩
     have EX := hide (HE1.out w7 hw7)
     rw [show hh - 2 = d by omega, hw7]
     clear hw7 HE1 HE0 c19r f19r lr
     have l7 : rb < w7.heap.size := Nat.lt_trans EX.out.xr EX.out.xl
     obtain ⟨vb, vc, hvv, htk, hvr⟩ := EX.out.tk (by decide)
     subst hvv
     have hx0 : X 0 = s.top 1 := by rw [HXX.out 0]; unfold Ms.top; rw [HHH.out]; congr 1; omega
     have hx1 : X 1 = s.top 0 := by rw [HXX.out 1]; unfold Ms.top; rw [HHH.out]; congr 1; omega
     have hst : stepF c.p c.e.ek c.e.ev c.e.x2 s = ((s.pop 2).push 1 (bI (cmpB 13 (s.top 1) (s.top 0)))).nxt := by unfold stepF; simp only [HOI.out]; rfl
     rw [HSE.out, ← hx0, ← hx1] at hst
     have HCM := cmpQ w7 (o := 13) (by decide) (by decide) (X 0) (X 1)
     obtain ⟨bb, hbb⟩ : ∃ bb, cmpB 13 (X 0) (X 1) = bb := ⟨_, rfl⟩
     rw [hbb] at HCM hst
     have HTR := truQ w7 bb
     have HF : Hid (sE = (s.nxt.pop 2).push 1 (bI bb)) := hst
     have k0 := cell_regrown (htk.v 0 (by decide))
     have k1 := cell_regrown (htk.v 1 (by decide))
     clear hst hbb hx0 hx1 htk
     generalize X 0 = q0 at *
     generalize X 1 = q1 at *
     go_upto_region 35 with fail
     refine wp_region_quiet_tail (C := fun w' => ∃ p : Regrown, w' = grow (redrawn w7 p.d) p.os) 10 (by kernel_rfl) (by kernel_rfl) (grewC_drew w7) ?_
     simp only [List.take_succ_cons, List.take_zero, List.drop_succ_cons, List.drop_zero]
     repeat (quiet_step (first | exact HCM _ _ | exact HTR _ _))
     refine wpQuiet_nil ?_
     intro w8 hw'
     obtain ⟨⟨dq, osq⟩, hw''⟩ := hw'
     have B0 : Hid (Below w7.heap.size w7 w8) := by rw [hw'']; exact below_regrown w7 dq osq
     have EZ := hide (EX.out.next B0.out)
     clear hw'' k0 k1 HCM HTR
     go_wp2_with fail
     refine (HPU.out _ _ w8 EZ.out.rx HPH.out 1 (bI bb)).mono ?_
     rintro e w9 ⟨rfl, G9⟩
     go_wp2
     go_ret
     refine ⟨rfl, hide ?_⟩
     obtain ⟨vT, g1, g2⟩ := G9.out
     exact ⟨vT, by rw [HF.out]; exact g1, EZ.out.b.trans g2⟩
   ·as_aux_lemma =>
     obtain rfl : j = 2 := by rw [← HN.out]; rfl
     go_upto_region 18 with fail
     obtain ⟨w7, hw7⟩ : ∃ w7, wr.setCell ⟨rb, 19, none⟩ (.slice ao d cap) = w7 := ⟨_, rfl⟩
     have EX := hide (HE1.out w7 hw7)
     rw [show hh - 2 = d by omega, hw7]
     clear hw7 HE1 HE0 c19r f19r lr
     have l7 : rb < w7.heap.size := Nat.lt_trans EX.out.xr EX.out.xl
     obtain ⟨vb, vc, hvv, htk, hvr⟩ := EX.out.tk (by decide)
     subst hvv
     have hx0 : X 0 = s.top 1 := by rw [HXX.out 0]; unfold Ms.top; rw [HHH.out]; congr 1; omega
     have hx1 : X 1 = s.top 0 := by rw [HXX.out 1]; unfold Ms.top; rw [HHH.out]; congr 1; omega
     have hst : stepF c.p c.e.ek c.e.ev c.e.x2 s = ((s.pop 2).push 1 (bI (cmpB 14 (s.top 1) (s.top 0)))).nxt := by unfold stepF; simp only [HOI.out]; rfl
     rw [HSE.out, ← hx0, ← hx1] at hst
     have HCM := cmpQ w7 (o := 14) (by decide) (by decide) (X 0) (X 1)
     obtain ⟨bb, hbb⟩ : ∃ bb, cmpB 14 (X 0) (X 1) = bb := ⟨_, rfl⟩
     rw [hbb] at HCM hst
     have HTR := truQ w7 bb
     have HF : Hid (sE = (s.nxt.pop 2).push 1 (bI bb)) := hst
     have k0 := cell_regrown (htk.v 0 (by decide))
     have k1 := cell_regrown (htk.v 1 (by decide))
     clear hst hbb hx0 hx1 htk
     generalize X 0 = q0 at *
     generalize X 1 = q1 at *
     go_upto_region 35 with fail
     refine wp_region_quiet_tail (C := fun w' => ∃ p : Regrown, w' = grow (redrawn w7 p.d) p.os) 10 (by kernel_rfl) (by kernel_rfl) (grewC_drew w7) ?_
     simp only [List.take_succ_cons, List.take_zero, List.drop_succ_cons, List.drop_zero]
     repeat (quiet_step (first | exact HCM _ _ | exact HTR _ _))
     refine wpQuiet_nil ?_
     intro w8 hw'
     obtain ⟨⟨dq, osq⟩, hw''⟩ := hw'
     have B0 : Hid (Below w7.heap.size w7 w8) := by rw [hw'']; exact below_regrown w7 dq osq
     have EZ := hide (EX.out.next B0.out)
     clear hw'' k0 k1 HCM HTR
     go_wp2_with fail
     refine (HPU.out _ _ w8 EZ.out.rx HPH.out 1 (bI bb)).mono ?_
     rintro e w9 ⟨rfl, G9⟩
     go_wp2
     go_ret
     refine ⟨rfl, hide ?_⟩
     obtain ⟨vT, g1, g2⟩ := G9.out
     exact ⟨vT, by rw [HF.out]; exact g1, EZ.out.b.trans g2⟩
   ·as_aux_lemma =>
     obtain rfl : j = 2 := by rw [← HN.out]; rfl
     go_upto_region 18 with fail
     obtain ⟨w7, hw7⟩ : ∃ w7, wr.setCell ⟨rb, 19, none⟩ (.slice ao d cap) = w7 := ⟨_, rfl⟩
     have EX := hide (HE1.out w7 hw7)
     rw [show hh - 2 = d by omega, hw7]
     clear hw7 HE1 HE0 c19r f19r lr
     have l7 : rb < w7.heap.size := Nat.lt_trans EX.out.xr EX.out.xl
     obtain ⟨vb, vc, hvv, htk, hvr⟩ := EX.out.tk (by decide)
     subst hvv
     have hx0 : X 0 = s.top 1 := by rw [HXX.out 0]; unfold Ms.top; rw [HHH.out]; congr 1; omega
     have hx1 : X 1 = s.top 0 := by rw [HXX.out 1]; unfold Ms.top; rw [HHH.out]; congr 1; omega
     have hst : stepF c.p c.e.ek c.e.ev c.e.x2 s = ((s.pop 2).push 1 (bI (cmpB 15 (s.top 1) (s.top 0)))).nxt := by unfold stepF; simp only [HOI.out]; rfl
     rw [HSE.out, ← hx0, ← hx1] at hst
     have HCM := cmpQ w7 (o := 15) (by decide) (by decide) (X 0) (X 1)
     obtain ⟨bb, hbb⟩ : ∃ bb, cmpB 15 (X 0) (X 1) = bb := ⟨_, rfl⟩
     rw [hbb] at HCM hst
     have HTR := truQ w7 bb
     have HF : Hid (sE = (s.nxt.pop 2).push 1 (bI bb)) := hst
     have k0 := cell_regrown (htk.v 0 (by decide))
     have k1 := cell_regrown (htk.v 1 (by decide))
     clear hst hbb hx0 hx1 htk
     generalize X 0 = q0 at *
     generalize X 1 = q1 at *
     go_upto_region 35 with fail
     refine wp_region_quiet_tail (C := fun w' => ∃ p : Regrown, w' = grow (redrawn w7 p.d) p.os) 10 (by kernel_rfl) (by kernel_rfl) (grewC_drew w7) ?_
     simp only [List.take_succ_cons, List.take_zero, List.drop_succ_cons, List.drop_zero]
     repeat (quiet_step (first | exact HCM _ _ | exact HTR _ _))
     refine wpQuiet_nil ?_
     intro w8 hw'
     obtain ⟨⟨dq, osq⟩, hw''⟩ := hw'
     have B0 : Hid (Below w7.heap.size w7 w8) := by rw [hw'']; exact below_regrown w7 dq osq
     have EZ := hide (EX.out.next B0.out)
     clear hw'' k0 k1 HCM HTR
     go_wp2_with fail
     refine (HPU.out _ _ w8 EZ.out.rx HPH.out 1 (bI bb)).mono ?_
     rintro e w9 ⟨rfl, G9⟩
     go_wp2
     go_ret
     refine ⟨rfl, hide ?_⟩
     obtain ⟨vT, g1, g2⟩ := G9.out
     exact ⟨vT, by rw [HF.out]; exact g1, EZ.out.b.trans g2⟩
   ·as_aux_lemma =>
     obtain rfl : j = 2 := by rw [← HN.out]; rfl
     go_upto_region 18 with fail
     obtain ⟨w7, hw7⟩ : ∃ w7, wr.setCell ⟨rb, 19, none⟩ (.slice ao d cap) = w7 := ⟨_, rfl⟩
     have EX := hide (HE1.out w7 hw7)
     rw [show hh - 2 = d by omega, hw7]
     clear hw7 HE1 HE0 c19r f19r lr
     have l7 : rb < w7.heap.size := Nat.lt_trans EX.out.xr EX.out.xl
     obtain ⟨vb, vc, hvv, htk, hvr⟩ := EX.out.tk (by decide)
     subst hvv
     have hx0 : X 0 = s.top 1 := by rw [HXX.out 0]; unfold Ms.top; rw [HHH.out]; congr 1; omega
     have hx1 : X 1 = s.top 0 := by rw [HXX.out 1]; unfold Ms.top; rw [HHH.out]; congr 1; omega
     have hst : stepF c.p c.e.ek c.e.ev c.e.x2 s = ((s.pop 2).push 1 (bI (cmpB 16 (s.top 1) (s.top 0)))).nxt := by unfold stepF; simp only [HOI.out]; rfl
     rw [HSE.out, ← hx0, ← hx1] at hst
     have HCM := cmpQ w7 (o := 16) (by decide) (by decide) (X 0) (X 1)
     obtain ⟨bb, hbb⟩ : ∃ bb, cmpB 16 (X 0) (X 1) = bb := ⟨_, rfl⟩
     rw [hbb] at HCM hst
     have HTR := truQ w7 bb
     have HF : Hid (sE = (s.nxt.pop 2).push 1 (bI bb)) := hst
     have k0 := cell_regrown (htk.v 0 (by decide))
     have k1 := cell_regrown (htk.v 1 (by decide))
     clear hst hbb hx0 hx1 htk
     generalize X 0 = q0 at *
     generalize X 1 = q1 at *
     go_upto_region 35 with fail
     refine wp_region_quiet_tail (C := fun w' => ∃ p : Regrown, w' = grow (redrawn w7 p.d) p.os) 10 (by kernel_rfl) (by kernel_rfl) (grewC_drew w7) ?_
     simp only [List.take_succ_cons, List.take_zero, List.drop_succ_cons, List.drop_zero]
     repeat (quiet_step (first | exact HCM _ _ | exact HTR _ _))
     refine wpQuiet_nil ?_
     intro w8 hw'
     obtain ⟨⟨dq, osq⟩, hw''⟩ := hw'
     have B0 : Hid (Below w7.heap.size w7 w8) := by rw [hw'']; exact below_regrown w7 dq osq
     have EZ := hide (EX.out.next B0.out)
     clear hw'' k0 k1 HCM HTR
     go_wp2_with fail
     refine (HPU.out _ _ w8 EZ.out.rx HPH.out 1 (bI bb)).mono ?_
     rintro e w9 ⟨rfl, G9⟩
     go_wp2
     go_ret
     refine ⟨rfl, hide ?_⟩
     obtain ⟨vT, g1, g2⟩ := G9.out
     exact ⟨vT, by rw [HF.out]; exact g1, EZ.out.b.trans g2⟩
   ·as_aux_lemma =>
     obtain rfl : j = 2 := by rw [← HN.out]; rfl
     go_upto_region 18 with fail
     obtain ⟨w7, hw7⟩ : ∃ w7, wr.setCell ⟨rb, 19, none⟩ (.slice ao d cap) = w7 := ⟨_, rfl⟩
     have EX := hide (HE1.out w7 hw7)
     rw [show hh - 2 = d by omega, hw7]
     clear hw7 HE1 HE0 c19r f19r lr
     have l7 : rb < w7.heap.size := Nat.lt_trans EX.out.xr EX.out.xl
     obtain ⟨vb, vc, hvv, htk, hvr⟩ := EX.out.tk (by decide)
     subst hvv
     have hx0 : X 0 = s.top 1 := by rw [HXX.out 0]; unfold Ms.top; rw [HHH.out]; congr 1; omega
     have hx1 : X 1 = s.top 0 := by rw [HXX.out 1]; unfold Ms.top; rw [HHH.out]; congr 1; omega
     have hxb : ∀ j, j < 2 → 0 ≤ X j ∧ X j < two64 := fun j hj => by
      have e : j = 0 ∨ j = 1 := by omega
      rcases e with rfl | rfl
      ·exact ⟨(HTOP.out 0 false (by rw [tk_of HOP.out]; rfl)).lo, (HTOP.out 0 false (by rw [tk_of HOP.out]; rfl)).hi⟩
      ·exact ⟨(HTOP.out 1 false (by rw [tk_of HOP.out]; rfl)).lo, (HTOP.out 1 false (by rw [tk_of HOP.out]; rfl)).hi⟩
     have HRK : Hid (Calls Tryd.prog 55 #[.int .i64 17, .slice (some ⟨vb, 0, none⟩) 2 vc] w7 fun e w' => e = .returned (.tuple #[.int .u64 (reckI 17 (X 0) (X 1) 0).1, .int .i64 (reckI 17 (X 0) (X 1) 0).2]) ∧ Hid (Below w7.heap.size w7 w')) := reckonR (o := 17) (by decide) (by decide) htk rfl hxb
     have hst : stepF c.p c.e.ek c.e.ev c.e.x2 s = (if (reckI 17 (s.top 1) (s.top 0) 0).2 = 0 then ((s.pop 2).push 0 (reckI 17 (s.top 1) (s.top 0) 0).1).nxt else (s.pop 2).stop (reckI 17 (s.top 1) (s.top 0) 0).2) := by unfold stepF; simp only [HOI.out]; rfl
     rw [HSE.out, ← hx0, ← hx1] at hst
     obtain ⟨r1, hr1⟩ : ∃ r, (reckI 17 (X 0) (X 1) 0).1 = r := ⟨_, rfl⟩
     obtain ⟨r2, hr2⟩ : ∃ r, (reckI 17 (X 0) (X 1) 0).2 = r := ⟨_, rfl⟩
     rw [hr1, hr2] at HRK hst
     clear htk hxb hr1 hr2 hx0 hx1
     go_wp2_with fail
     refine HRK.out.mono ?_
     rintro e w8 ⟨rfl, G8⟩
     have E8 := hide (EX.out.next G8.out)
     clear HRK
     by_cases q : r2 = 0
     ·rw [if_pos q] at hst
      have HF : Hid (sE = (s.nxt.pop 2).push 0 r1) := hst
      clear hst
      subst q
      go_wp2_with fail
      refine (HPU.out _ _ w8 E8.out.rx HPH.out 0 r1).mono ?_
      rintro e w9 ⟨rfl, G9⟩
      go_wp2
      go_ret
      refine ⟨rfl, hide ?_⟩
      obtain ⟨vT, g1, g2⟩ := G9.out
      exact ⟨vT, by rw [HF.out]; exact g1, E8.out.b.trans g2⟩
     ·rw [if_neg q] at hst
      have HF : Hid (sE = (s.nxt.pop 2).stop r2) := hst
      have eq0 : (r2 != 0) = true := by simpa using q
      clear hst
      go_wp2_with fail
      refine (HOV.out _ _ w8 E8.out.rx r2).mono ?_
      rintro e w9 ⟨rfl, G9⟩
      go_wp2
      go_ret
      exact ⟨rfl, hide ⟨_, by rw [HF.out]; exact G9.out.1, E8.out.b.trans G9.out.2⟩⟩
   ·as_aux_lemma =>
     obtain rfl : j = 2 := by rw [← HN.out]; rfl
     go_upto_region 18 with fail
     obtain ⟨w7, hw7⟩ : ∃ w7, wr.setCell ⟨rb, 19, none⟩ (.slice ao d cap) = w7 := ⟨_, rfl⟩
     have EX := hide (HE1.out w7 hw7)
     rw [show hh - 2 = d by omega, hw7]
     clear hw7 HE1 HE0 c19r f19r lr
     have l7 : rb < w7.heap.size := Nat.lt_trans EX.out.xr EX.out.xl
     obtain ⟨vb, vc, hvv, htk, hvr⟩ := EX.out.tk (by decide)
     subst hvv
     have hx0 : X 0 = s.top 1 := by rw [HXX.out 0]; unfold Ms.top; rw [HHH.out]; congr 1; omega
     have hx1 : X 1 = s.top 0 := by rw [HXX.out 1]; unfold Ms.top; rw [HHH.out]; congr 1; omega
     have hxb : ∀ j, j < 2 → 0 ≤ X j ∧ X j < two64 := fun j hj => by
      have e : j = 0 ∨ j = 1 := by omega
      rcases e with rfl | rfl
      ·exact ⟨(HTOP.out 0 false (by rw [tk_of HOP.out]; rfl)).lo, (HTOP.out 0 false (by rw [tk_of HOP.out]; rfl)).hi⟩
      ·exact ⟨(HTOP.out 1 false (by rw [tk_of HOP.out]; rfl)).lo, (HTOP.out 1 false (by rw [tk_of HOP.out]; rfl)).hi⟩
     have HRK : Hid (Calls Tryd.prog 55 #[.int .i64 18, .slice (some ⟨vb, 0, none⟩) 2 vc] w7 fun e w' => e = .returned (.tuple #[.int .u64 (reckI 18 (X 0) (X 1) 0).1, .int .i64 (reckI 18 (X 0) (X 1) 0).2]) ∧ Hid (Below w7.heap.size w7 w')) := reckonR (o := 18) (by decide) (by decide) htk rfl hxb
     have hst : stepF c.p c.e.ek c.e.ev c.e.x2 s = (if (reckI 18 (s.top 1) (s.top 0) 0).2 = 0 then ((s.pop 2).push 0 (reckI 18 (s.top 1) (s.top 0) 0).1).nxt else (s.pop 2).stop (reckI 18 (s.top 1) (s.top 0) 0).2) := by unfold stepF; simp only [HOI.out]; rfl
     rw [HSE.out, ← hx0, ← hx1] at hst
     obtain ⟨r1, hr1⟩ : ∃ r, (reckI 18 (X 0) (X 1) 0).1 = r := ⟨_, rfl⟩
     obtain ⟨r2, hr2⟩ : ∃ r, (reckI 18 (X 0) (X 1) 0).2 = r := ⟨_, rfl⟩
     rw [hr1, hr2] at HRK hst
     clear htk hxb hr1 hr2 hx0 hx1
     go_wp2_with fail
     refine HRK.out.mono ?_
     rintro e w8 ⟨rfl, G8⟩
     have E8 := hide (EX.out.next G8.out)
     clear HRK
     by_cases q : r2 = 0
     ·rw [if_pos q] at hst
      have HF : Hid (sE = (s.nxt.pop 2).push 0 r1) := hst
      clear hst
      subst q
      go_wp2_with fail
      refine (HPU.out _ _ w8 E8.out.rx HPH.out 0 r1).mono ?_
      rintro e w9 ⟨rfl, G9⟩
      go_wp2
      go_ret
      refine ⟨rfl, hide ?_⟩
      obtain ⟨vT, g1, g2⟩ := G9.out
      exact ⟨vT, by rw [HF.out]; exact g1, E8.out.b.trans g2⟩
     ·rw [if_neg q] at hst
      have HF : Hid (sE = (s.nxt.pop 2).stop r2) := hst
      have eq0 : (r2 != 0) = true := by simpa using q
      clear hst
      go_wp2_with fail
      refine (HOV.out _ _ w8 E8.out.rx r2).mono ?_
      rintro e w9 ⟨rfl, G9⟩
      go_wp2
      go_ret
      exact ⟨rfl, hide ⟨_, by rw [HF.out]; exact G9.out.1, E8.out.b.trans G9.out.2⟩⟩
   ·as_aux_lemma =>
     obtain rfl : j = 2 := by rw [← HN.out]; rfl
     go_upto_region 18 with fail
     obtain ⟨w7, hw7⟩ : ∃ w7, wr.setCell ⟨rb, 19, none⟩ (.slice ao d cap) = w7 := ⟨_, rfl⟩
     have EX := hide (HE1.out w7 hw7)
     rw [show hh - 2 = d by omega, hw7]
     clear hw7 HE1 HE0 c19r f19r lr
     have l7 : rb < w7.heap.size := Nat.lt_trans EX.out.xr EX.out.xl
     obtain ⟨vb, vc, hvv, htk, hvr⟩ := EX.out.tk (by decide)
     subst hvv
     have hx0 : X 0 = s.top 1 := by rw [HXX.out 0]; unfold Ms.top; rw [HHH.out]; congr 1; omega
     have hx1 : X 1 = s.top 0 := by rw [HXX.out 1]; unfold Ms.top; rw [HHH.out]; congr 1; omega
     have hxb : ∀ j, j < 2 → 0 ≤ X j ∧ X j < two64 := fun j hj => by
      have e : j = 0 ∨ j = 1 := by omega
      rcases e with rfl | rfl
      ·exact ⟨(HTOP.out 0 false (by rw [tk_of HOP.out]; rfl)).lo, (HTOP.out 0 false (by rw [tk_of HOP.out]; rfl)).hi⟩
      ·exact ⟨(HTOP.out 1 false (by rw [tk_of HOP.out]; rfl)).lo, (HTOP.out 1 false (by rw [tk_of HOP.out]; rfl)).hi⟩
     have HRK : Hid (Calls Tryd.prog 55 #[.int .i64 19, .slice (some ⟨vb, 0, none⟩) 2 vc] w7 fun e w' => e = .returned (.tuple #[.int .u64 (reckI 19 (X 0) (X 1) 0).1, .int .i64 (reckI 19 (X 0) (X 1) 0).2]) ∧ Hid (Below w7.heap.size w7 w')) := reckonR (o := 19) (by decide) (by decide) htk rfl hxb
     have hst : stepF c.p c.e.ek c.e.ev c.e.x2 s = (if (reckI 19 (s.top 1) (s.top 0) 0).2 = 0 then ((s.pop 2).push 0 (reckI 19 (s.top 1) (s.top 0) 0).1).nxt else (s.pop 2).stop (reckI 19 (s.top 1) (s.top 0) 0).2) := by unfold stepF; simp only [HOI.out]; rfl
     rw [HSE.out, ← hx0, ← hx1] at hst
     obtain ⟨r1, hr1⟩ : ∃ r, (reckI 19 (X 0) (X 1) 0).1 = r := ⟨_, rfl⟩
     obtain ⟨r2, hr2⟩ : ∃ r, (reckI 19 (X 0) (X 1) 0).2 = r := ⟨_, rfl⟩
     rw [hr1, hr2] at HRK hst
     clear htk hxb hr1 hr2 hx0 hx1
     go_wp2_with fail
     refine HRK.out.mono ?_
     rintro e w8 ⟨rfl, G8⟩
     have E8 := hide (EX.out.next G8.out)
     clear HRK
     by_cases q : r2 = 0
     ·rw [if_pos q] at hst
      have HF : Hid (sE = (s.nxt.pop 2).push 0 r1) := hst
      clear hst
      subst q
      go_wp2_with fail
      refine (HPU.out _ _ w8 E8.out.rx HPH.out 0 r1).mono ?_
      rintro e w9 ⟨rfl, G9⟩
      go_wp2
      go_ret
      refine ⟨rfl, hide ?_⟩
      obtain ⟨vT, g1, g2⟩ := G9.out
      exact ⟨vT, by rw [HF.out]; exact g1, E8.out.b.trans g2⟩
     ·rw [if_neg q] at hst
      have HF : Hid (sE = (s.nxt.pop 2).stop r2) := hst
      have eq0 : (r2 != 0) = true := by simpa using q
      clear hst
      go_wp2_with fail
      refine (HOV.out _ _ w8 E8.out.rx r2).mono ?_
      rintro e w9 ⟨rfl, G9⟩
      go_wp2
      go_ret
      exact ⟨rfl, hide ⟨_, by rw [HF.out]; exact G9.out.1, E8.out.b.trans G9.out.2⟩⟩
   ·as_aux_lemma =>
     obtain rfl : j = 2 := by rw [← HN.out]; rfl
     go_upto_region 18 with fail
     obtain ⟨w7, hw7⟩ : ∃ w7, wr.setCell ⟨rb, 19, none⟩ (.slice ao d cap) = w7 := ⟨_, rfl⟩
     have EX := hide (HE1.out w7 hw7)
     rw [show hh - 2 = d by omega, hw7]
     clear hw7 HE1 HE0 c19r f19r lr
     have l7 : rb < w7.heap.size := Nat.lt_trans EX.out.xr EX.out.xl
     obtain ⟨vb, vc, hvv, htk, hvr⟩ := EX.out.tk (by decide)
     subst hvv
     have hx0 : X 0 = s.top 1 := by rw [HXX.out 0]; unfold Ms.top; rw [HHH.out]; congr 1; omega
     have hx1 : X 1 = s.top 0 := by rw [HXX.out 1]; unfold Ms.top; rw [HHH.out]; congr 1; omega
     have hxb : ∀ j, j < 2 → 0 ≤ X j ∧ X j < two64 := fun j hj => by
      have e : j = 0 ∨ j = 1 := by omega
      rcases e with rfl | rfl
      ·exact ⟨(HTOP.out 0 false (by rw [tk_of HOP.out]; rfl)).lo, (HTOP.out 0 false (by rw [tk_of HOP.out]; rfl)).hi⟩
      ·exact ⟨(HTOP.out 1 false (by rw [tk_of HOP.out]; rfl)).lo, (HTOP.out 1 false (by rw [tk_of HOP.out]; rfl)).hi⟩
     have HRK : Hid (Calls Tryd.prog 55 #[.int .i64 20, .slice (some ⟨vb, 0, none⟩) 2 vc] w7 fun e w' => e = .returned (.tuple #[.int .u64 (reckI 20 (X 0) (X 1) 0).1, .int .i64 (reckI 20 (X 0) (X 1) 0).2]) ∧ Hid (Below w7.heap.size w7 w')) := reckonR (o := 20) (by decide) (by decide) htk rfl hxb
     have hst : stepF c.p c.e.ek c.e.ev c.e.x2 s = (if (reckI 20 (s.top 1) (s.top 0) 0).2 = 0 then ((s.pop 2).push 0 (reckI 20 (s.top 1) (s.top 0) 0).1).nxt else (s.pop 2).stop (reckI 20 (s.top 1) (s.top 0) 0).2) := by unfold stepF; simp only [HOI.out]; rfl
     rw [HSE.out, ← hx0, ← hx1] at hst
     obtain ⟨r1, hr1⟩ : ∃ r, (reckI 20 (X 0) (X 1) 0).1 = r := ⟨_, rfl⟩
     obtain ⟨r2, hr2⟩ : ∃ r, (reckI 20 (X 0) (X 1) 0).2 = r := ⟨_, rfl⟩
     rw [hr1, hr2] at HRK hst
     clear htk hxb hr1 hr2 hx0 hx1
     go_wp2_with fail
     refine HRK.out.mono ?_
     rintro e w8 ⟨rfl, G8⟩
     have E8 := hide (EX.out.next G8.out)
     clear HRK
     by_cases q : r2 = 0
     ·rw [if_pos q] at hst
      have HF : Hid (sE = (s.nxt.pop 2).push 0 r1) := hst
      clear hst
      subst q
      go_wp2_with fail
      refine (HPU.out _ _ w8 E8.out.rx HPH.out 0 r1).mono ?_
      rintro e w9 ⟨rfl, G9⟩
      go_wp2
      go_ret
      refine ⟨rfl, hide ?_⟩
      obtain ⟨vT, g1, g2⟩ := G9.out
      exact ⟨vT, by rw [HF.out]; exact g1, E8.out.b.trans g2⟩
     ·rw [if_neg q] at hst
      have HF : Hid (sE = (s.nxt.pop 2).stop r2) := hst
      have eq0 : (r2 != 0) = true := by simpa using q
      clear hst
      go_wp2_with fail
      refine (HOV.out _ _ w8 E8.out.rx r2).mono ?_
      rintro e w9 ⟨rfl, G9⟩
      go_wp2
      go_ret
      exact ⟨rfl, hide ⟨_, by rw [HF.out]; exact G9.out.1, E8.out.b.trans G9.out.2⟩⟩
   ·as_aux_lemma =>
     obtain rfl : j = 2 := by rw [← HN.out]; rfl
     go_upto_region 18 with fail
     obtain ⟨w7, hw7⟩ : ∃ w7, wr.setCell ⟨rb, 19, none⟩ (.slice ao d cap) = w7 := ⟨_, rfl⟩
     have EX := hide (HE1.out w7 hw7)
     rw [show hh - 2 = d by omega, hw7]
     clear hw7 HE1 HE0 c19r f19r lr
     have l7 : rb < w7.heap.size := Nat.lt_trans EX.out.xr EX.out.xl
     obtain ⟨vb, vc, hvv, htk, hvr⟩ := EX.out.tk (by decide)
     subst hvv
     have hx0 : X 0 = s.top 1 := by rw [HXX.out 0]; unfold Ms.top; rw [HHH.out]; congr 1; omega
     have hx1 : X 1 = s.top 0 := by rw [HXX.out 1]; unfold Ms.top; rw [HHH.out]; congr 1; omega
     have hxb : ∀ j, j < 2 → 0 ≤ X j ∧ X j < two64 := fun j hj => by
      have e : j = 0 ∨ j = 1 := by omega
      rcases e with rfl | rfl
      ·exact ⟨(HTOP.out 0 false (by rw [tk_of HOP.out]; rfl)).lo, (HTOP.out 0 false (by rw [tk_of HOP.out]; rfl)).hi⟩
      ·exact ⟨(HTOP.out 1 false (by rw [tk_of HOP.out]; rfl)).lo, (HTOP.out 1 false (by rw [tk_of HOP.out]; rfl)).hi⟩
     have HRK : Hid (Calls Tryd.prog 55 #[.int .i64 21, .slice (some ⟨vb, 0, none⟩) 2 vc] w7 fun e w' => e = .returned (.tuple #[.int .u64 (reckI 21 (X 0) (X 1) 0).1, .int .i64 (reckI 21 (X 0) (X 1) 0).2]) ∧ Hid (Below w7.heap.size w7 w')) := reckonR (o := 21) (by decide) (by decide) htk rfl hxb
     have hst : stepF c.p c.e.ek c.e.ev c.e.x2 s = (if (reckI 21 (s.top 1) (s.top 0) 0).2 = 0 then ((s.pop 2).push 0 (reckI 21 (s.top 1) (s.top 0) 0).1).nxt else (s.pop 2).stop (reckI 21 (s.top 1) (s.top 0) 0).2) := by unfold stepF; simp only [HOI.out]; rfl
     rw [HSE.out, ← hx0, ← hx1] at hst
     obtain ⟨r1, hr1⟩ : ∃ r, (reckI 21 (X 0) (X 1) 0).1 = r := ⟨_, rfl⟩
     obtain ⟨r2, hr2⟩ : ∃ r, (reckI 21 (X 0) (X 1) 0).2 = r := ⟨_, rfl⟩
     rw [hr1, hr2] at HRK hst
     clear htk hxb hr1 hr2 hx0 hx1
     go_wp2_with fail
     refine HRK.out.mono ?_
     rintro e w8 ⟨rfl, G8⟩
     have E8 := hide (EX.out.next G8.out)
     clear HRK
     by_cases q : r2 = 0
     ·rw [if_pos q] at hst
      have HF : Hid (sE = (s.nxt.pop 2).push 0 r1) := hst
      clear hst
      subst q
      go_wp2_with fail
      refine (HPU.out _ _ w8 E8.out.rx HPH.out 0 r1).mono ?_
      rintro e w9 ⟨rfl, G9⟩
      go_wp2
      go_ret
      refine ⟨rfl, hide ?_⟩
      obtain ⟨vT, g1, g2⟩ := G9.out
      exact ⟨vT, by rw [HF.out]; exact g1, E8.out.b.trans g2⟩
     ·rw [if_neg q] at hst
      have HF : Hid (sE = (s.nxt.pop 2).stop r2) := hst
      have eq0 : (r2 != 0) = true := by simpa using q
      clear hst
      go_wp2_with fail
      refine (HOV.out _ _ w8 E8.out.rx r2).mono ?_
      rintro e w9 ⟨rfl, G9⟩
      go_wp2
      go_ret
      exact ⟨rfl, hide ⟨_, by rw [HF.out]; exact G9.out.1, E8.out.b.trans G9.out.2⟩⟩
   ·as_aux_lemma =>
     obtain rfl : j = 2 := by rw [← HN.out]; rfl
     go_upto_region 18 with fail
     obtain ⟨w7, hw7⟩ : ∃ w7, wr.setCell ⟨rb, 19, none⟩ (.slice ao d cap) = w7 := ⟨_, rfl⟩
     have EX := hide (HE1.out w7 hw7)
     rw [show hh - 2 = d by omega, hw7]
     clear hw7 HE1 HE0 c19r f19r lr
     have l7 : rb < w7.heap.size := Nat.lt_trans EX.out.xr EX.out.xl
     obtain ⟨vb, vc, hvv, htk, hvr⟩ := EX.out.tk (by decide)
     subst hvv
     have hx0 : X 0 = s.top 1 := by rw [HXX.out 0]; unfold Ms.top; rw [HHH.out]; congr 1; omega
     have hx1 : X 1 = s.top 0 := by rw [HXX.out 1]; unfold Ms.top; rw [HHH.out]; congr 1; omega
     have hxb : ∀ j, j < 2 → 0 ≤ X j ∧ X j < two64 := fun j hj => by
      have e : j = 0 ∨ j = 1 := by omega
      rcases e with rfl | rfl
      ·exact ⟨(HTOP.out 0 false (by rw [tk_of HOP.out]; rfl)).lo, (HTOP.out 0 false (by rw [tk_of HOP.out]; rfl)).hi⟩
      ·exact ⟨(HTOP.out 1 false (by rw [tk_of HOP.out]; rfl)).lo, (HTOP.out 1 false (by rw [tk_of HOP.out]; rfl)).hi⟩
     have HRK : Hid (Calls Tryd.prog 55 #[.int .i64 22, .slice (some ⟨vb, 0, none⟩) 2 vc] w7 fun e w' => e = .returned (.tuple #[.int .u64 (reckI 22 (X 0) (X 1) 0).1, .int .i64 (reckI 22 (X 0) (X 1) 0).2]) ∧ Hid (Below w7.heap.size w7 w')) := reckonR (o := 22) (by decide) (by decide) htk rfl hxb
     have hst : stepF c.p c.e.ek c.e.ev c.e.x2 s = (if (reckI 22 (s.top 1) (s.top 0) 0).2 = 0 then ((s.pop 2).push 0 (reckI 22 (s.top 1) (s.top 0) 0).1).nxt else (s.pop 2).stop (reckI 22 (s.top 1) (s.top 0) 0).2) := by unfold stepF; simp only [HOI.out]; rfl
     rw [HSE.out, ← hx0, ← hx1] at hst
     obtain ⟨r1, hr1⟩ : ∃ r, (reckI 22 (X 0) (X 1) 0).1 = r := ⟨_, rfl⟩
     obtain ⟨r2, hr2⟩ : ∃ r, (reckI 22 (X 0) (X 1) 0).2 = r := ⟨_, rfl⟩
     rw [hr1, hr2] at HRK hst
     clear htk hxb hr1 hr2 hx0 hx1
     go_wp2_with fail
     refine HRK.out.mono ?_
     rintro e w8 ⟨rfl, G8⟩
     have E8 := hide (EX.out.next G8.out)
     clear HRK
     by_cases q : r2 = 0
     ·rw [if_pos q] at hst
      have HF : Hid (sE = (s.nxt.pop 2).push 0 r1) := hst
      clear hst
      subst q
      go_wp2_with fail
      refine (HPU.out _ _ w8 E8.out.rx HPH.out 0 r1).mono ?_
      rintro e w9 ⟨rfl, G9⟩
      go_wp2
      go_ret
      refine ⟨rfl, hide ?_⟩
      obtain ⟨vT, g1, g2⟩ := G9.out
      exact ⟨vT, by rw [HF.out]; exact g1, E8.out.b.trans g2⟩
     ·rw [if_neg q] at hst
      have HF : Hid (sE = (s.nxt.pop 2).stop r2) := hst
      have eq0 : (r2 != 0) = true := by simpa using q
      clear hst
      go_wp2_with fail
      refine (HOV.out _ _ w8 E8.out.rx r2).mono ?_
      rintro e w9 ⟨rfl, G9⟩
      go_wp2
      go_ret
      exact ⟨rfl, hide ⟨_, by rw [HF.out]; exact G9.out.1, E8.out.b.trans G9.out.2⟩⟩
   ·as_aux_lemma =>
     obtain rfl : j = 2 := by rw [← HN.out]; rfl
     go_upto_region 18 with fail
     obtain ⟨w7, hw7⟩ : ∃ w7, wr.setCell ⟨rb, 19, none⟩ (.slice ao d cap) = w7 := ⟨_, rfl⟩
     have EX := hide (HE1.out w7 hw7)
     rw [show hh - 2 = d by omega, hw7]
     clear hw7 HE1 HE0 c19r f19r lr
     have l7 : rb < w7.heap.size := Nat.lt_trans EX.out.xr EX.out.xl
     obtain ⟨vb, vc, hvv, htk, hvr⟩ := EX.out.tk (by decide)
     subst hvv
     have hx0 : X 0 = s.top 1 := by rw [HXX.out 0]; unfold Ms.top; rw [HHH.out]; congr 1; omega
     have hx1 : X 1 = s.top 0 := by rw [HXX.out 1]; unfold Ms.top; rw [HHH.out]; congr 1; omega
     have hxb : ∀ j, j < 2 → 0 ≤ X j ∧ X j < two64 := fun j hj => by
      have e : j = 0 ∨ j = 1 := by omega
      rcases e with rfl | rfl
      ·exact ⟨(HTOP.out 0 false (by rw [tk_of HOP.out]; rfl)).lo, (HTOP.out 0 false (by rw [tk_of HOP.out]; rfl)).hi⟩
      ·exact ⟨(HTOP.out 1 false (by rw [tk_of HOP.out]; rfl)).lo, (HTOP.out 1 false (by rw [tk_of HOP.out]; rfl)).hi⟩
     have HRK : Hid (Calls Tryd.prog 55 #[.int .i64 23, .slice (some ⟨vb, 0, none⟩) 2 vc] w7 fun e w' => e = .returned (.tuple #[.int .u64 (reckI 23 (X 0) (X 1) 0).1, .int .i64 (reckI 23 (X 0) (X 1) 0).2]) ∧ Hid (Below w7.heap.size w7 w')) := reckonR (o := 23) (by decide) (by decide) htk rfl hxb
     have hst : stepF c.p c.e.ek c.e.ev c.e.x2 s = (if (reckI 23 (s.top 1) (s.top 0) 0).2 = 0 then ((s.pop 2).push 0 (reckI 23 (s.top 1) (s.top 0) 0).1).nxt else (s.pop 2).stop (reckI 23 (s.top 1) (s.top 0) 0).2) := by unfold stepF; simp only [HOI.out]; rfl
     rw [HSE.out, ← hx0, ← hx1] at hst
     obtain ⟨r1, hr1⟩ : ∃ r, (reckI 23 (X 0) (X 1) 0).1 = r := ⟨_, rfl⟩
     obtain ⟨r2, hr2⟩ : ∃ r, (reckI 23 (X 0) (X 1) 0).2 = r := ⟨_, rfl⟩
     rw [hr1, hr2] at HRK hst
     clear htk hxb hr1 hr2 hx0 hx1
     go_wp2_with fail
     refine HRK.out.mono ?_
     rintro e w8 ⟨rfl, G8⟩
     have E8 := hide (EX.out.next G8.out)
     clear HRK
     by_cases q : r2 = 0
     ·rw [if_pos q] at hst
      have HF : Hid (sE = (s.nxt.pop 2).push 0 r1) := hst
      clear hst
      subst q
      go_wp2_with fail
      refine (HPU.out _ _ w8 E8.out.rx HPH.out 0 r1).mono ?_
      rintro e w9 ⟨rfl, G9⟩
      go_wp2
      go_ret
      refine ⟨rfl, hide ?_⟩
      obtain ⟨vT, g1, g2⟩ := G9.out
      exact ⟨vT, by rw [HF.out]; exact g1, E8.out.b.trans g2⟩
     ·rw [if_neg q] at hst
      have HF : Hid (sE = (s.nxt.pop 2).stop r2) := hst
      have eq0 : (r2 != 0) = true := by simpa using q
      clear hst
      go_wp2_with fail
      refine (HOV.out _ _ w8 E8.out.rx r2).mono ?_
      rintro e w9 ⟨rfl, G9⟩
      go_wp2
      go_ret
      exact ⟨rfl, hide ⟨_, by rw [HF.out]; exact G9.out.1, E8.out.b.trans G9.out.2⟩⟩
   ·as_aux_lemma =>
     obtain rfl : j = 3 := by rw [← HN.out]; rfl
     go_upto_region 18 with fail
     obtain ⟨w7, hw7⟩ : ∃ w7, wr.setCell ⟨rb, 19, none⟩ (.slice ao d cap) = w7 := ⟨_, rfl⟩
     have EX := hide (HE1.out w7 hw7)
     rw [show hh - 3 = d by omega, hw7]
     clear hw7 HE1 HE0 c19r f19r lr
     have l7 : rb < w7.heap.size := Nat.lt_trans EX.out.xr EX.out.xl
     obtain ⟨vb, vc, hvv, htk, hvr⟩ := EX.out.tk (by decide)
     subst hvv
     have hx0 : X 0 = s.top 2 := by rw [HXX.out 0]; unfold Ms.top; rw [HHH.out]; congr 1; omega
     have hx1 : X 1 = s.top 1 := by rw [HXX.out 1]; unfold Ms.top; rw [HHH.out]; congr 1; omega
     have hx2 : X 2 = s.top 0 := by rw [HXX.out 2]; unfold Ms.top; rw [HHH.out]; congr 1; omega
     have hxb : ∀ j, j < 3 → 0 ≤ X j ∧ X j < two64 := fun j hj => by
      have e : j = 0 ∨ j = 1 ∨ j = 2 := by omega
      rcases e with rfl | rfl | rfl
      ·exact ⟨(HTOP.out 0 false (by rw [tk_of HOP.out]; rfl)).lo, (HTOP.out 0 false (by rw [tk_of HOP.out]; rfl)).hi⟩
      ·exact ⟨(HTOP.out 1 false (by rw [tk_of HOP.out]; rfl)).lo, (HTOP.out 1 false (by rw [tk_of HOP.out]; rfl)).hi⟩
      ·exact ⟨(HTOP.out 2 false (by rw [tk_of HOP.out]; rfl)).lo, (HTOP.out 2 false (by rw [tk_of HOP.out]; rfl)).hi⟩
     have HRK : Hid (Calls Tryd.prog 55 #[.int .i64 24, .slice (some ⟨vb, 0, none⟩) 3 vc] w7 fun e w' => e = .returned (.tuple #[.int .u64 (reckI 24 (X 0) (X 1) (X 2)).1, .int .i64 (reckI 24 (X 0) (X 1) (X 2)).2]) ∧ Hid (Below w7.heap.size w7 w')) := reckonR (o := 24) (by decide) (by decide) htk rfl hxb
     have hst : stepF c.p c.e.ek c.e.ev c.e.x2 s = (if (reckI 24 (s.top 2) (s.top 1) (s.top 0)).2 = 0 then ((s.pop 3).push 0 (reckI 24 (s.top 2) (s.top 1) (s.top 0)).1).nxt else (s.pop 3).stop (reckI 24 (s.top 2) (s.top 1) (s.top 0)).2) := by unfold stepF; simp only [HOI.out]; rfl
     rw [HSE.out, ← hx0, ← hx1, ← hx2] at hst
     obtain ⟨r1, hr1⟩ : ∃ r, (reckI 24 (X 0) (X 1) (X 2)).1 = r := ⟨_, rfl⟩
     obtain ⟨r2, hr2⟩ : ∃ r, (reckI 24 (X 0) (X 1) (X 2)).2 = r := ⟨_, rfl⟩
     rw [hr1, hr2] at HRK hst
     clear htk hxb hr1 hr2 hx0 hx1 hx2
     go_wp2_with fail
     refine HRK.out.mono ?_
     rintro e w8 ⟨rfl, G8⟩
     have E8 := hide (EX.out.next G8.out)
     clear HRK
     by_cases q : r2 = 0
     ·rw [if_pos q] at hst
      have HF : Hid (sE = (s.nxt.pop 3).push 0 r1) := hst
      clear hst
      subst q
      go_wp2_with fail
      refine (HPU.out _ _ w8 E8.out.rx HPH.out 0 r1).mono ?_
      rintro e w9 ⟨rfl, G9⟩
      go_wp2
      go_ret
      refine ⟨rfl, hide ?_⟩
      obtain ⟨vT, g1, g2⟩ := G9.out
      exact ⟨vT, by rw [HF.out]; exact g1, E8.out.b.trans g2⟩
     ·rw [if_neg q] at hst
      have HF : Hid (sE = (s.nxt.pop 3).stop r2) := hst
      have eq0 : (r2 != 0) = true := by simpa using q
      clear hst
      go_wp2_with fail
      refine (HOV.out _ _ w8 E8.out.rx r2).mono ?_
      rintro e w9 ⟨rfl, G9⟩
      go_wp2
      go_ret
      exact ⟨rfl, hide ⟨_, by rw [HF.out]; exact G9.out.1, E8.out.b.trans G9.out.2⟩⟩
   ·as_aux_lemma =>
     obtain rfl : j = 0 := by rw [← HN.out]; rfl
     go_upto_region 18 with fail
     obtain ⟨w7, hw7⟩ : ∃ w7, wr.setCell ⟨rb, 19, none⟩ (.slice ao d cap) = w7 := ⟨_, rfl⟩
     have EX := hide (HE1.out w7 hw7)
     rw [show hh = d by omega, hw7]
     clear hw7 HE1 HE0 c19r f19r lr
     have l7 : rb < w7.heap.size := Nat.lt_trans EX.out.xr EX.out.xl
     have i1 := EX.out.x1
     have xl := EX.out.xl
     have HW : Hid (Calls Tryd.prog 56 #[.pointer (some ⟨rb, 0, none⟩), .int .i64 25, .int .i64 a, u5] w7 fun e w' => e = .returned (.tuple #[]) ∧ Hid (Rx c (.slice ao d cap) ((s.nxt.pop 0).way 25 c.e.x2 a (X 0) (X 1)) w' ∧ Bk rb w7 w')) := by
      rw [← HRB.out]
      exact wayR EX.out.rx (o := 25) (by decide) a (n := 0) (vb := 0) (cap := 0) (x := X) (fun h => absurd h (by decide)) (by decide) (fun h => absurd h (by decide)) (fun j hj => absurd hj (by omega)) HT.out.p0 HT.out.p1 HT.out.p2 HT.out.ps HM.out.h1
     have HF : Hid (sE = (s.nxt.pop 0).way 25 c.e.x2 a (X 0) (X 1)) := by
      rw [← HSE.out]
      exact (st25 HOI.out).trans (by rw [HAI.out]; rfl)
     go_wp2_with fail
     refine HW.out.mono ?_
     rintro e w9 ⟨rfl, G9⟩
     go_wp2
     go_ret
     exact ⟨rfl, hide ⟨_, by rw [HF.out]; exact G9.out.1, EX.out.b.trans G9.out.2⟩⟩
   ·as_aux_lemma =>
     obtain rfl : j = 1 := by rw [← HN.out]; rfl
     go_upto_region 18 with fail
     obtain ⟨w7, hw7⟩ : ∃ w7, wr.setCell ⟨rb, 19, none⟩ (.slice ao d cap) = w7 := ⟨_, rfl⟩
     have EX := hide (HE1.out w7 hw7)
     rw [show hh - 1 = d by omega, hw7]
     clear hw7 HE1 HE0 c19r f19r lr
     have l7 : rb < w7.heap.size := Nat.lt_trans EX.out.xr EX.out.xl
     obtain ⟨vb, vc, hvv, htk, hvr⟩ := EX.out.tk (by decide)
     subst hvv
     have i1 := EX.out.x1
     have xl := EX.out.xl
     have HW : Hid (Calls Tryd.prog 56 #[.pointer (some ⟨rb, 0, none⟩), .int .i64 26, .int .i64 a, .slice (some ⟨vb, 0, none⟩) 1 vc] w7 fun e w' => e = .returned (.tuple #[]) ∧ Hid (Rx c (.slice ao d cap) ((s.nxt.pop 1).way 26 c.e.x2 a (X 0) (X 1)) w' ∧ Bk rb w7 w')) := by
      rw [← HRB.out]
      exact wayR EX.out.rx (o := 26) (by decide) a (n := 1) (vb := vb) (cap := vc) (x := X) (fun _ => rfl) (by decide) (fun _ => htk) (fun j hj => by obtain rfl : j = 0 := (by omega); have t0 := HTOP.out 0 true (by rw [tk_of HOP.out]; rfl); exact ⟨t0.lo, t0.hi⟩) HT.out.p0 HT.out.p1 HT.out.p2 HT.out.ps HM.out.h1
     have HF : Hid (sE = (s.nxt.pop 1).way 26 c.e.x2 a (X 0) (X 1)) := by
      rw [← HSE.out]
      have hx0 : X 0 = s.top 0 := by rw [HXX.out 0]; unfold Ms.top; rw [HHH.out]; congr 1; omega
      have t0 := (HTOP.out 0 true (by rw [tk_of HOP.out]; rfl)).b rfl
      rw [st26 HOI.out, HAI.out, ← hx0]
      show _ = if X 0 = 0 then (s.nxt.pop 1).go a else s.nxt.pop 1
      rcases t0 with q | q
      ·rw [if_pos q, if_neg (by omega)]; rfl
      ·rw [if_pos q, if_neg (by omega)]; rfl
     go_wp2_with fail
     refine HW.out.mono ?_
     rintro e w9 ⟨rfl, G9⟩
     go_wp2
     go_ret
     exact ⟨rfl, hide ⟨_, by rw [HF.out]; exact G9.out.1, EX.out.b.trans G9.out.2⟩⟩
   ·as_aux_lemma =>
     obtain rfl : j = 1 := by rw [← HN.out]; rfl
     obtain ⟨vb, vc, hvv, htk, hvr⟩ := HE0.out.tk (by decide)
     subst hvv
     have vl := htk.l
     have v0 := htk.v 0 (by decide)
     have t0 := (HTOP.out 0 true (by rw [tk_of HOP.out]; rfl)).b rfl
     have hx0 : X 0 = s.top 0 := by rw [HXX.out 0]; unfold Ms.top; rw [HHH.out]; congr 1; omega
     have hst := st27 (ek := c.e.ek) (ev := c.e.ev) (hd := c.e.x2) HOI.out
     rw [HSE.out, HAI.out, ← hx0] at hst
     have i1 := HE0.out.x1
     have xl := HE0.out.xl
     have c18 : wr.cell? ⟨rb, 18, none⟩ = some (.int .i64 s.nxt.pc) := by rw [← HRB.out]; exact (HE0.out.rx.cell 18).trans rfl
     have f18 : wr.frozen? ⟨rb, 18, none⟩ = false := by rw [← HRB.out]; exact HE0.out.rx.free 18
     by_cases q : X 0 = 0
     ·rw [if_pos q] at hst
      have HF : Hid (sE = s.nxt.go a) := hst
      have HG := hide (HE0.out.rx.goR a)
      rw [HRB.out] at HG
      rw [q] at v0
      clear hst htk t0 hx0
      generalize s.nxt.pc = pc0 at *
      go_wp2
      go_ret
      exact ⟨rfl, hide ⟨_, by rw [HF.out]; exact HG.out.1, HE0.out.b.trans HG.out.2⟩⟩
     ·rw [if_neg q] at hst
      have HF : Hid (sE = s.nxt.pop 1) := hst
      have hx1 : X 0 = 1 := by omega
      rw [hx1] at v0
      clear hst htk t0 hx0 hx1
      go_upto_region 18 with fail
      obtain ⟨w7, hw7⟩ : ∃ w7, wr.setCell ⟨rb, 19, none⟩ (.slice ao d cap) = w7 := ⟨_, rfl⟩
      have EX := hide (HE1.out w7 hw7)
      rw [show hh - 1 = d by omega, hw7]
      clear hw7 HE1 HE0 c19r f19r lr i1 xl c18 f18 v0 vl
      have l7 : rb < w7.heap.size := Nat.lt_trans EX.out.xr EX.out.xl
      obtain ⟨vb, vc, hvv, htk, hvr⟩ := EX.out.tk (by decide)
      have i1 := EX.out.x1
      have xl := EX.out.xl
      have HW : Hid (Calls Tryd.prog 56 #[.pointer (some ⟨rb, 0, none⟩), .int .i64 27, .int .i64 a, .slice (some ⟨vb, 0, none⟩) 1 vc] w7 fun e w' => e = .returned (.tuple #[]) ∧ w' = w7) := wayN rb (o := 27) (by decide) a _ w7
      go_wp2_with fail
      refine HW.out.mono ?_
      rintro e w9 ⟨rfl, rfl⟩
      go_wp2
      go_ret
      exact ⟨rfl, hide ⟨_, by rw [HF.out]; exact EX.out.rx, EX.out.b⟩⟩
   ·as_aux_lemma =>
     obtain rfl : j = 1 := by rw [← HN.out]; rfl
     obtain ⟨vb, vc, hvv, htk, hvr⟩ := HE0.out.tk (by decide)
     subst hvv
     have vl := htk.l
     have v0 := htk.v 0 (by decide)
     have t0 := (HTOP.out 0 true (by rw [tk_of HOP.out]; rfl)).b rfl
     have hx0 : X 0 = s.top 0 := by rw [HXX.out 0]; unfold Ms.top; rw [HHH.out]; congr 1; omega
     have hst := st28 (ek := c.e.ek) (ev := c.e.ev) (hd := c.e.x2) HOI.out
     rw [HSE.out, HAI.out, ← hx0] at hst
     have i1 := HE0.out.x1
     have xl := HE0.out.xl
     have c18 : wr.cell? ⟨rb, 18, none⟩ = some (.int .i64 s.nxt.pc) := by rw [← HRB.out]; exact (HE0.out.rx.cell 18).trans rfl
     have f18 : wr.frozen? ⟨rb, 18, none⟩ = false := by rw [← HRB.out]; exact HE0.out.rx.free 18
     by_cases q : X 0 = 1
     ·rw [if_pos q] at hst
      have HF : Hid (sE = s.nxt.go a) := hst
      have HG := hide (HE0.out.rx.goR a)
      rw [HRB.out] at HG
      rw [q] at v0
      clear hst htk t0 hx0
      generalize s.nxt.pc = pc0 at *
      go_wp2
      go_ret
      exact ⟨rfl, hide ⟨_, by rw [HF.out]; exact HG.out.1, HE0.out.b.trans HG.out.2⟩⟩
     ·rw [if_neg q] at hst
      have HF : Hid (sE = s.nxt.pop 1) := hst
      have hx1 : X 0 = 0 := by omega
      rw [hx1] at v0
      clear hst htk t0 hx0 hx1
      go_upto_region 18 with fail
      obtain ⟨w7, hw7⟩ : ∃ w7, wr.setCell ⟨rb, 19, none⟩ (.slice ao d cap) = w7 := ⟨_, rfl⟩
      have EX := hide (HE1.out w7 hw7)
      rw [show hh - 1 = d by omega, hw7]
      clear hw7 HE1 HE0 c19r f19r lr i1 xl c18 f18 v0 vl
      have l7 : rb < w7.heap.size := Nat.lt_trans EX.out.xr EX.out.xl
      obtain ⟨vb, vc, hvv, htk, hvr⟩ := EX.out.tk (by decide)
      have i1 := EX.out.x1
      have xl := EX.out.xl
      have HW : Hid (Calls Tryd.prog 56 #[.pointer (some ⟨rb, 0, none⟩), .int .i64 28, .int .i64 a, .slice (some ⟨vb, 0, none⟩) 1 vc] w7 fun e w' => e = .returned (.tuple #[]) ∧ w' = w7) := wayN rb (o := 28) (by decide) a _ w7
      go_wp2_with fail
      refine HW.out.mono ?_
      rintro e w9 ⟨rfl, rfl⟩
      go_wp2
      go_ret
      exact ⟨rfl, hide ⟨_, by rw [HF.out]; exact EX.out.rx, EX.out.b⟩⟩
   ·as_aux_lemma =>
     obtain rfl : j = 2 := by rw [← HN.out]; rfl
     go_upto_region 18 with fail
     obtain ⟨w7, hw7⟩ : ∃ w7, wr.setCell ⟨rb, 19, none⟩ (.slice ao d cap) = w7 := ⟨_, rfl⟩
     have EX := hide (HE1.out w7 hw7)
     rw [show hh - 2 = d by omega, hw7]
     clear hw7 HE1 HE0 c19r f19r lr
     have l7 : rb < w7.heap.size := Nat.lt_trans EX.out.xr EX.out.xl
     obtain ⟨vb, vc, hvv, htk, hvr⟩ := EX.out.tk (by decide)
     subst hvv
     have i1 := EX.out.x1
     have xl := EX.out.xl
     have HW : Hid (Calls Tryd.prog 56 #[.pointer (some ⟨rb, 0, none⟩), .int .i64 29, .int .i64 a, .slice (some ⟨vb, 0, none⟩) 2 vc] w7 fun e w' => e = .returned (.tuple #[]) ∧ Hid (Rx c (.slice ao d cap) ((s.nxt.pop 2).way 29 c.e.x2 a (X 0) (X 1)) w' ∧ Bk rb w7 w')) := by
      rw [← HRB.out]
      exact wayR EX.out.rx (o := 29) (by decide) a (n := 2) (vb := vb) (cap := vc) (x := X) (fun _ => rfl) (by decide) (fun _ => htk) (fun j hj => by rcases (show j = 0 ∨ j = 1 by omega) with rfl | rfl; exact ⟨(HTOP.out 0 false (by rw [tk_of HOP.out]; rfl)).lo, (HTOP.out 0 false (by rw [tk_of HOP.out]; rfl)).hi⟩; exact ⟨(HTOP.out 1 false (by rw [tk_of HOP.out]; rfl)).lo, (HTOP.out 1 false (by rw [tk_of HOP.out]; rfl)).hi⟩) HT.out.p0 HT.out.p1 HT.out.p2 HT.out.ps HM.out.h1
     have HF : Hid (sE = (s.nxt.pop 2).way 29 c.e.x2 a (X 0) (X 1)) := by
      rw [← HSE.out]
      have hx0 : X 0 = s.top 1 := by rw [HXX.out 0]; unfold Ms.top; rw [HHH.out]; congr 1; omega
      have hx1 : X 1 = s.top 0 := by rw [HXX.out 1]; unfold Ms.top; rw [HHH.out]; congr 1; omega
      have e : stepF c.p c.e.ek c.e.ev c.e.x2 s = (s.pop 2).pay c.e.x2 (s.top 1) (s.top 0) := by unfold stepF; simp only [HOI.out]; rfl
      rw [e, ← hx0, ← hx1, ← pay_nxt]
      rfl
     go_wp2_with fail
     refine HW.out.mono ?_
     rintro e w9 ⟨rfl, G9⟩
     go_wp2
     go_ret
     exact ⟨rfl, hide ⟨_, by rw [HF.out]; exact G9.out.1, EX.out.b.trans G9.out.2⟩⟩
   ·as_aux_lemma =>
     obtain rfl : j = 1 := by rw [← HN.out]; rfl
     go_upto_region 18 with fail
     obtain ⟨w7, hw7⟩ : ∃ w7, wr.setCell ⟨rb, 19, none⟩ (.slice ao d cap) = w7 := ⟨_, rfl⟩
     have EX := hide (HE1.out w7 hw7)
     rw [show hh - 1 = d by omega, hw7]
     clear hw7 HE1 HE0 c19r f19r lr
     have l7 : rb < w7.heap.size := Nat.lt_trans EX.out.xr EX.out.xl
     obtain ⟨vb, vc, hvv, htk, hvr⟩ := EX.out.tk (by decide)
     subst hvv
     have i1 := EX.out.x1
     have xl := EX.out.xl
     have HW : Hid (Calls Tryd.prog 56 #[.pointer (some ⟨rb, 0, none⟩), .int .i64 30, .int .i64 a, .slice (some ⟨vb, 0, none⟩) 1 vc] w7 fun e w' => e = .returned (.tuple #[]) ∧ Hid (Rx c (.slice ao d cap) ((s.nxt.pop 1).way 30 c.e.x2 a (X 0) (X 1)) w' ∧ Bk rb w7 w')) := by
      rw [← HRB.out]
      exact wayR EX.out.rx (o := 30) (by decide) a (n := 1) (vb := vb) (cap := vc) (x := X) (fun _ => rfl) (by decide) (fun _ => htk) (fun j hj => by obtain rfl : j = 0 := (by omega); have t0 := HTOP.out 0 true (by rw [tk_of HOP.out]; rfl); exact ⟨t0.lo, t0.hi⟩) HT.out.p0 HT.out.p1 HT.out.p2 HT.out.ps HM.out.h1
     have HF : Hid (sE = (s.nxt.pop 1).way 30 c.e.x2 a (X 0) (X 1)) := by
      rw [← HSE.out]
      have hx0 : X 0 = s.top 0 := by rw [HXX.out 0]; unfold Ms.top; rw [HHH.out]; congr 1; omega
      have t0 := (HTOP.out 0 true (by rw [tk_of HOP.out]; rfl)).b rfl
      rw [st30 HOI.out, HAI.out, ← hx0]
      show _ = if X 0 = 0 then ({ s.nxt.pop 1 with fail := a } : Ms).stop 1 else s.nxt.pop 1
      rcases t0 with q | q
      ·rw [if_pos q, if_neg (by omega)]; rfl
      ·rw [if_pos q, if_neg (by omega)]; rfl
     go_wp2_with fail
     refine HW.out.mono ?_
     rintro e w9 ⟨rfl, G9⟩
     go_wp2
     go_ret
     exact ⟨rfl, hide ⟨_, by rw [HF.out]; exact G9.out.1, EX.out.b.trans G9.out.2⟩⟩
   ·as_aux_lemma =>
     obtain rfl : j = 0 := by rw [← HN.out]; rfl
     go_upto_region 18 with fail
     obtain ⟨w7, hw7⟩ : ∃ w7, wr.setCell ⟨rb, 19, none⟩ (.slice ao d cap) = w7 := ⟨_, rfl⟩
     have EX := hide (HE1.out w7 hw7)
     rw [show hh = d by omega, hw7]
     clear hw7 HE1 HE0 c19r f19r lr
     have l7 : rb < w7.heap.size := Nat.lt_trans EX.out.xr EX.out.xl
     have i1 := EX.out.x1
     have xl := EX.out.xl
     have HW : Hid (Calls Tryd.prog 56 #[.pointer (some ⟨rb, 0, none⟩), .int .i64 31, .int .i64 a, u5] w7 fun e w' => e = .returned (.tuple #[]) ∧ Hid (Rx c (.slice ao d cap) ((s.nxt.pop 0).way 31 c.e.x2 a (X 0) (X 1)) w' ∧ Bk rb w7 w')) := by
      rw [← HRB.out]
      exact wayR EX.out.rx (o := 31) (by decide) a (n := 0) (vb := 0) (cap := 0) (x := X) (fun h => absurd h (by decide)) (by decide) (fun h => absurd h (by decide)) (fun j hj => absurd hj (by omega)) HT.out.p0 HT.out.p1 HT.out.p2 HT.out.ps HM.out.h1
     have HF : Hid (sE = (s.nxt.pop 0).way 31 c.e.x2 a (X 0) (X 1)) := by
      rw [← HSE.out]
      exact (st31 HOI.out).trans (by rw [HAI.out]; rfl)
     go_wp2_with fail
     refine HW.out.mono ?_
     rintro e w9 ⟨rfl, G9⟩
     go_wp2
     go_ret
     exact ⟨rfl, hide ⟨_, by rw [HF.out]; exact G9.out.1, EX.out.b.trans G9.out.2⟩⟩
   ·as_aux_lemma =>
     obtain rfl : j = 0 := by rw [← HN.out]; rfl
     go_upto_region 18 with fail
     obtain ⟨w7, hw7⟩ : ∃ w7, wr.setCell ⟨rb, 19, none⟩ (.slice ao d cap) = w7 := ⟨_, rfl⟩
     have EX := hide (HE1.out w7 hw7)
     rw [show hh = d by omega, hw7]
     clear hw7 HE1 HE0 c19r f19r lr
     have l7 : rb < w7.heap.size := Nat.lt_trans EX.out.xr EX.out.xl
     have i1 := EX.out.x1
     have xl := EX.out.xl
     have HW : Hid (Calls Tryd.prog 56 #[.pointer (some ⟨rb, 0, none⟩), .int .i64 32, .int .i64 a, u5] w7 fun e w' => e = .returned (.tuple #[]) ∧ Hid (Rx c (.slice ao d cap) ((s.nxt.pop 0).way 32 c.e.x2 a (X 0) (X 1)) w' ∧ Bk rb w7 w')) := by
      rw [← HRB.out]
      exact wayR EX.out.rx (o := 32) (by decide) a (n := 0) (vb := 0) (cap := 0) (x := X) (fun h => absurd h (by decide)) (by decide) (fun h => absurd h (by decide)) (fun j hj => absurd hj (by omega)) HT.out.p0 HT.out.p1 HT.out.p2 HT.out.ps HM.out.h1
     have HF : Hid (sE = (s.nxt.pop 0).way 32 c.e.x2 a (X 0) (X 1)) := by
      rw [← HSE.out]
      exact (st32 HOI.out).trans rfl
     go_wp2_with fail
     refine HW.out.mono ?_
     rintro e w9 ⟨rfl, G9⟩
     go_wp2
     go_ret
     exact ⟨rfl, hide ⟨_, by rw [HF.out]; exact G9.out.1, EX.out.b.trans G9.out.2⟩⟩
end
end Go.Proofs.YtmoklddfaocihaaDoor
