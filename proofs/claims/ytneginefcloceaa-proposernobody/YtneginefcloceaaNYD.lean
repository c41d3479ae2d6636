import Derived.Test.YtneginefcloceaaNYC
import Derived.Test.YtneginefcloceaaHRc
import Derived.Deep.RegionHeld3
namespace Go.Proofs.Ytneginefcloceaa
open Go.RowKit Crc

/-- A reign that asks. -/
def rL : List Value := [.int .i64 1, .int .u64 0, .bool false, .int .u64 0, .slice none 0 0, .bool false, .int .u64 0, .slice none 0 0, .bool false, .int .u64 0, .slice none 0 0, .bool false, .int .u64 0, .slice none 0 0, .bool false, .int .u64 0, .slice none 0 0, .bool false, .int .u64 0, .slice none 0 0, .bool false, .int .u64 0, .slice none 0 0, .slice none 0 0, .slice none 0 0, .slice none 0 0, .bool false, .int .u64 0]
theorem rL_one : ∀ u ∈ rL, u.oneCell' = true := by decide
set_option maxRecDepth 100000 in
set_option maxHeartbeats 1600000 in
theorem prepare0 {W : World} {p : Nat} (q2 : W.cell? ⟨p, 2, none⟩ = some (.int .u64 1)) (q3 : W.cell? ⟨p, 3, none⟩ = some (.int .i64 0)) (ql : p < W.heap.size) :
    Calls Try.prog 18 #[.pointer (some ⟨p, 0, none⟩)] W fun e w' => e = .returned (.agg mL.toArray) ∧ Hid (Below W.heap.size W w') := by
  have HNEW : Hid (∀ (Z : Array Value) (W1 : World), Z.size = 49 → W.alloc (.cells Z 59) = W1 → W1.there W.heap.size 0 mL.length ∧ Below W.heap.size W W1) := fun Z W1 hz h1 => by
    rw [← h1]
    exact ⟨block_thereN (alloc_atK W (.cells Z 59)) (by rw [hz]; decide), below_alloc1 W _⟩
  have HSZ : Hid ((Try.prog.info? 59).map (·.size) = some mL.length) := by show _ = _; kernel_rfl
  go_enter Try.func18, Try.ntmps18
  go_upto_region 1 with fail
  generalize hW1 : World.alloc W _ = W1
  have H1 := hide (HNEW.out _ W1 (by rfl) hW1)
  have p2 : W1.cell? ⟨p, 2, none⟩ = some (.int .u64 1) := (H1.out.2.cell (p := ⟨p, 2, none⟩) ql).trans q2
  have p3 : W1.cell? ⟨p, 3, none⟩ = some (.int .i64 0) := (H1.out.2.cell (p := ⟨p, 3, none⟩) ql).trans q3
  have pl : p < W1.heap.size := Nat.lt_of_lt_of_le ql H1.out.2.size
  clear hW1 HNEW q2 q3 ql
  iterate 16 go_step
  refine wpList_store_mid rfl 59 _ _ rfl W.heap.size 0 mL.toArray rfl rfl (by simpa using H1.out.1) (by simpa using HSZ.out) (all_oneCell_toArray mL_one) ?_
  go_wp2
  simp only [Act.put]
  have hld := run_loadVar_mid (P := Try.prog) (W1.setCells W.heap.size 0 mL) W.heap.size 0 59 mL _ (World.rangeAt_setCells_same _ _ _ _ H1.out.1) Try.underlying59 rfl HSZ.out
  refine bodyPost_ret (v := .agg mL.toArray) ?_ rfl ⟨rfl, below_setCells H1.out.2 (Nat.le_refl _) H1.out.2.size⟩
  simp [results, Try.results18, asAddr, hld]
/-- The world in which Enter asks. -/
structure GE (lim : Nat) (W : World) (p g : Nat) (c : Cf) (V : World) : Prop where
  hl : lim ≤ p
  bel : Below lim W V
  r : V.rangeAt p 0 [.pointer (some ⟨g, 0, none⟩), .int .i64 0, .int .u64 1, .int .i64 0]
  pl : p < V.heap.size
  pg : PG V (some ⟨g, 0, none⟩) c
  vb : V.heap[W.heap.size]? = some (.cells #[.int .u64 1, .int .i64 0] 27 (0, 0))
  sb : V.heap[W.heap.size + 1]? = some (.cells #[.slice none 0 0, .slice none 0 0] 46 (0, 0))
theorem GE.next {lim : Nat} {W : World} {p g : Nat} {c : Cf} {V V' : World} (h : GE lim W p g c V) (hb : Below V.heap.size V V') : GE lim W p g c V' :=
  ⟨h.hl, h.bel.trans (hb.mono (by have := h.hl; have := h.pl; omega)), fun j u hu => (hb.cell (p := ⟨p, _, none⟩) h.pl).trans (h.r j u hu), Nat.lt_of_lt_of_le h.pl hb.size, h.pg.kept hb, (hb.block _ (block_lt h.vb)).trans h.vb, (hb.block _ (block_lt h.sb)).trans h.sb⟩
theorem GE.al {lim : Nat} {W : World} {p g : Nat} {c : Cf} {V : World} (h : Hid (GE lim W p g c V)) {o : Obj} : Hid (GE lim W p g c (V.alloc o)) := h.out.next (below_alloc1 V o)
theorem GE.dr {lim : Nat} {W : World} {p g : Nat} {c : Cf} {V : World} (h : Hid (GE lim W p g c V)) : Hid (GE lim W p g c V.drew) := h.out.next ⟨rfl, rfl, rfl, Nat.le_refl _, fun _ _ => rfl⟩
theorem ge_new {lim : Nat} {W W1 V : World} {p g : Nat} {c : Cf} (hl : lim ≤ p) (hpl : p < W.heap.size) (B1 : Below W.heap.size W W1) (hb : Below W1.heap.size W1 V) (h : PP V p g c 0 0 0) (vb : V.heap[W.heap.size]? = some (.cells #[.int .u64 1, .int .i64 0] 27 (0, 0))) (sb : V.heap[W.heap.size + 1]? = some (.cells #[.slice none 0 0, .slice none 0 0] 46 (0, 0))) : GE lim W p g c (((V.setCell ⟨p, 2, none⟩ (.int .u64 1)).setCell ⟨p, 3, none⟩ (.int .i64 0)).setCells p 4 rL) := by
  have gA := grown_trans (grown_set V p 2 (.int .u64 1)) (grown_set _ p 3 (.int .i64 0))
  have gB := grown_trans gA (grown_setCells p rL 4 _)
  have b0 : Below lim W V := (B1.mono (by omega)).trans (hb.mono (by have := B1.size; omega))
  have hs := hb.size
  have hs1 := B1.size
  have hPP := h.set 1 0
  refine ⟨hl, b0.grown gB (by omega) (fun k e => by cases e; exact hl), ?_, ?_, ?_, (gB.block _ (block_lt vb) (by simp; omega)).trans vb, (gB.block _ (block_lt sb) (by simp; omega)).trans sb⟩
  · refine World.rangeAt_setCells_apart ?_ p 4 rL (.inr (.inl (by simp)))
    intro j u hu
    rw [Nat.zero_add]
    refine Eq.trans (hPP.cell j) ?_
    rcases j with _ | _ | _ | _ | j
    all_goals first | exact hu | (simp at hu)
  · exact Nat.lt_of_lt_of_le (block_lt h.blk) gB.size
  · obtain ⟨q, e1, h2⟩ := h.grp
    cases e1
    exact ⟨g, rfl, (gB.block _ (block_lt h2) (fun e => h.ne (by cases e; rfl))).trans h2⟩
set_option maxRecDepth 100000 in
set_option maxHeartbeats 3200000 in
theorem enterG {W : World} {p g : Nat} {c : Cf} (h : PP W p g c 0 0 0) (hok : c.Ok) (hf : c.f = 1) (hld : c.led 1 0 = true) {lim : Nat} (hl : lim ≤ p) :
    Calls Try.prog 5 #[.pointer (some ⟨p, 0, none⟩), .agg #[.int .u64 1, .int .i64 0], .slice none 0 0] W fun e w' => ∃ ro rn rc so sc, e = .returned (.agg #[.slice ro rn rc, .slice so 3 sc]) ∧ Hid (Below lim W w') := by
  obtain ⟨W1, hW1⟩ : ∃ W1, (W.alloc (.cells #[.int .u64 1, .int .i64 0] 27)).alloc (.cells #[.slice none 0 0, .slice none 0 0] 46) = W1 := ⟨_, rfl⟩
  have B1 : Below W.heap.size W W1 := by rw [← hW1]; exact (below_alloc1 W _).alloc (by simp) _
  have HA := two_box W (.cells #[.int .u64 1, .int .i64 0] 27) (.cells #[.slice none 0 0, .slice none 0 0] 46)
  rw [hW1] at HA
  have P1 := h.kept B1
  have hpl := block_lt h.blk
  have KM : Hid (∀ V, Hid (Below W1.heap.size W1 V) → Calls Try.prog 14 #[.pointer (some ⟨p, 0, none⟩)] V fun e w' => e = .returned (.bool true) ∧ w' = V) := fun V hb => made_pp (P1.kept hb.out)
  have KL : Hid (∀ V, Hid (Below W1.heap.size W1 V) → Calls Try.prog 15 #[.pointer (some ⟨p, 0, none⟩), .agg #[.int .u64 1, .int .i64 0]] V fun e w' => e = .returned (.bool true) ∧ Below V.heap.size V w') := fun V hb => by
    have := led_pp 1 0 (P1.kept hb.out) hok
    rw [hld] at this
    exact this
  have KC : Hid (∀ V, Calls Try.prog 16 #[.agg #[.int .u64 0, .int .i64 0], .agg #[.int .u64 1, .int .i64 0]] V fun e w' => e = .returned (.bool true) ∧ Below V.heap.size V w') := fun V => less_any 0 0 1 0 V
  have KB : Hid (∀ V V', Hid (Below W1.heap.size W1 V) → Below V.heap.size V V' → Hid (Below W1.heap.size W1 V')) := fun V V' h h' => h.out.trans (h'.mono h.out.size)
  have KQ : Hid (∀ V, Hid (Below W1.heap.size W1 V) → V.cell? ⟨W.heap.size, 0, none⟩ = some (.int .u64 1) ∧ V.cell? ⟨W.heap.size, 1, none⟩ = some (.int .i64 0) ∧ V.cell? ⟨p, 0, none⟩ = some (.pointer (some ⟨g, 0, none⟩)) ∧ V.cell? ⟨p, 1, none⟩ = some (.int .i64 0) ∧ V.cell? ⟨p, 2, none⟩ = some (.int .u64 0) ∧ V.cell? ⟨p, 3, none⟩ = some (.int .i64 0) ∧ p < V.heap.size ∧ W.heap.size < V.heap.size) := fun V hb => by
    have hP := P1.kept hb.out
    have b := (hb.out.block _ (block_lt HA.1)).trans HA.1
    exact ⟨block_cell b 0, block_cell b 1, hP.cell 0, hP.cell 1, hP.cell 2, hP.cell 3, block_lt hP.blk, block_lt b⟩
  have KG : Hid (∀ V, Hid (Below W1.heap.size W1 V) → (V.frozen? ⟨p, 2, none⟩ = false ∧ V.frozen? ⟨p, 3, none⟩ = false ∧ W.heap.size ≠ p) ∧ Hid (((V.setCell ⟨p, 2, none⟩ (.int .u64 1)).setCell ⟨p, 3, none⟩ (.int .i64 0)).there p 4 rL.length) ∧ Hid (GE lim W p g c (((V.setCell ⟨p, 2, none⟩ (.int .u64 1)).setCell ⟨p, 3, none⟩ (.int .i64 0)).setCells p 4 rL))) := fun V hb => by
    have hP := P1.kept hb.out
    refine ⟨⟨block_free hP.blk 2, block_free hP.blk 3, by omega⟩, ?_, ge_new hl hpl B1 hb.out hP ((hb.out.block _ (block_lt HA.1)).trans HA.1) ((hb.out.block _ (block_lt HA.2)).trans HA.2)⟩
    have hS : (((V.setCell ⟨p, 2, none⟩ (.int .u64 1)).setCell ⟨p, 3, none⟩ (.int .i64 0)).heap[p]? = some (.cells (pcells g 0 1 0) 36 (0, 0))) := (hP.set 1 0).blk
    intro j hj
    have hj' : j < 28 := hj
    exact ⟨by rw [block_cell hS (4 + j), Array.getElem?_eq_getElem (by show 4 + j < 32; omega)]; rfl, block_free hS (4 + j)⟩
  have KPR : Hid (∀ V, Hid (GE lim W p g c V) → Calls Try.prog 18 #[.pointer (some ⟨p, 0, none⟩)] V fun e w' => e = .returned (.agg mL.toArray) ∧ Hid (GE lim W p g c w')) := fun V hv => (prepare0 (hv.out.r 2 _ rfl) (hv.out.r 3 _ rfl) hv.out.pl).mono (fun _ _ k => ⟨k.1, hv.out.next k.2.out⟩)
  have KTA : Hid (∀ V, Hid (GE lim W p g c V) → Calls Try.prog 17 #[.pointer (some ⟨p, 0, none⟩), .agg mL.toArray] V fun e w' => ∃ so sc, e = .returned (.slice so 3 sc) ∧ Hid (GE lim W p g c w')) := fun V hv => (toAll3 (hv.out.r 0 _ rfl) hv.out.pl hv.out.pg hok hf).mono (fun _ _ ⟨so, sc, k1, k2⟩ => ⟨so, sc, k1, hv.out.next k2.out⟩)
  have HRS : Hid ((Try.prog.info? 34).map (·.size) = some rL.length) := by show _ = _; kernel_rfl
  have X1 : Hid (Below W1.heap.size W1 W1.drew) := (Below.refl _ _).drew
  have HLW : Hid (lim ≤ W.heap.size + 1) := by show _ ≤ _; omega
  have HW1 := hide hW1
  clear h HA B1 hW1 P1 hpl hok hf hld
  go_enter Try.func5, Try.ntmps5
  go_upto_region 1 with fail
  rw [HW1.out]
  clear HW1
  refine region_assign (fun V => Hid (Below W1.heap.size W1 V)) [(9, .pointer (some ⟨p, 0, none⟩)), (10, .bool true), (11, .bool false), (12, .bool false), (13, .pointer (some ⟨p, 0, none⟩)), (14, .agg #[.int .u64 1, .int .i64 0]), (15, .bool true), (16, .bool false), (17, .bool false), (18, .bool false), (19, .pointer (some ⟨p, 0, none⟩)), (20, .pointer (some ⟨p, 0, none⟩)), (21, .pointer (some ⟨p, 2, none⟩)), (22, .agg #[.int .u64 0, .int .i64 0]), (23, .agg #[.int .u64 1, .int .i64 0]), (24, .bool true), (25, .bool false), (26, .bool false)] _ (by kernel_rfl) (by kernel_rfl) (by kernel_rfl) (by kernel_rfl) rfl X1 ?_ (fun V1 HV1 => ?_)
  · simp only [putAll, Act.put, List.setIfInBounds_toArray, List.set_cons_zero, List.set_cons_succ]
    repeat' (first | exact AllTo.nil | refine AllTo.cons ?_ ?_)
    all_goals first
      | exact stepTo_no (by rfl) rfl
      | (refine stepTo_yes (by rfl) (fun V hV K hK => ?_)
         obtain ⟨v0, v1, p0, p1, p2, p3, pl, vl⟩ := KQ.out V hV
         go_simp
         first
           | exact hK.out _ hV
           | (go_at_call 14; refine (KM.out V hV).mono ?_; rintro e V' ⟨rfl, rfl⟩; exact hK.out _ hV)
           | (go_at_call 15; refine (KL.out V hV).mono ?_; rintro e V' ⟨rfl, hb⟩; exact hK.out _ (KB.out _ _ hV hb))
           | (go_at_call 16; refine (KC.out V).mono ?_; rintro e V' ⟨rfl, hb⟩; exact hK.out _ (KB.out _ _ hV hb)))
  simp only [putAll, Act.put, List.setIfInBounds_toArray, List.set_cons_zero, List.set_cons_succ]
  have X2 : Hid (Below W1.heap.size W1 V1.drew) := HV1.out.drew
  clear X1 HV1
  go_upto_region 3 with fail
  refine region_assign (fun V => Hid (Below W1.heap.size W1 V)) [(28, .pointer (some ⟨W.heap.size, 1, none⟩)), (29, .int .i64 0), (30, .pointer (some ⟨p, 0, none⟩)), (31, .pointer (some ⟨p, 0, none⟩)), (32, .pointer (some ⟨p, 1, none⟩)), (33, .int .i64 0), (34, .bool false)] _ (by kernel_rfl) (by kernel_rfl) (by kernel_rfl) (by kernel_rfl) rfl X2 ?_ (fun V2 HV2 => ?_)
  · simp only [putAll, Act.put, List.setIfInBounds_toArray, List.set_cons_zero, List.set_cons_succ]
    repeat' (first | exact AllTo.nil | refine AllTo.cons ?_ ?_)
    all_goals first
      | exact stepTo_no (by rfl) rfl
      | (refine stepTo_yes (by rfl) (fun V hV K hK => ?_)
         obtain ⟨v0, v1, p0, p1, p2, p3, pl, vl⟩ := KQ.out V hV
         go_simp
         first
           | exact hK.out _ hV
           | (go_at_call 14; refine (KM.out V hV).mono ?_; rintro e V' ⟨rfl, rfl⟩; exact hK.out _ hV)
           | (go_at_call 15; refine (KL.out V hV).mono ?_; rintro e V' ⟨rfl, hb⟩; exact hK.out _ (KB.out _ _ hV hb))
           | (go_at_call 16; refine (KC.out V).mono ?_; rintro e V' ⟨rfl, hb⟩; exact hK.out _ (KB.out _ _ hV hb)))
  simp only [putAll, Act.put, List.setIfInBounds_toArray, List.set_cons_zero, List.set_cons_succ]
  obtain ⟨v0, v1, p0, p1, p2, p3, pl, vl⟩ := KQ.out V2 HV2
  obtain ⟨⟨f2, f3, hne⟩, TH, HG4⟩ := KG.out V2 HV2
  clear X2 HV2 KQ KG KB KC KL KM
  go_upto_region 6 with fail
  iterate 28 go_step
  refine wpList_store_mid rfl 34 _ _ rfl p 4 rL.toArray rfl rfl (by simpa using TH.out) (by simpa using HRS.out) (all_oneCell_toArray rL_one) ?_
  simp only [Act.put]
  obtain ⟨V4, hV4⟩ : ∃ V4, ((V2.setCell ⟨p, 2, none⟩ (.int .u64 1)).setCell ⟨p, 3, none⟩ (.int .i64 0)).setCells p 4 rL = V4 := ⟨_, rfl⟩
  rw [hV4] at HG4 ⊢
  clear hV4 TH HRS v0 v1 p0 p1 p2 p3 pl vl f2 f3 hne
  have v0 := block_cell HG4.out.vb 0
  have v1 := block_cell HG4.out.vb 1
  have vl := block_lt HG4.out.vb
  simp at v0 v1
  go_wp2
  go_loopw [8, 50] (fun _ i wr => i = .int .i64 0 ∧ wr = V4) (fun _ _ _ => 0)
  case atStart => exact ⟨rfl, rfl⟩
  case round =>
    obtain ⟨rfl, rfl⟩ := hrel
    go_upto_region 12 with fail
    have HG4' := GE.dr HG4
    have KQ : Hid (∀ V, Hid (GE lim W p g c V) → V.cell? ⟨W.heap.size, 0, none⟩ = some (.int .u64 1) ∧ V.cell? ⟨W.heap.size, 1, none⟩ = some (.int .i64 0)) := fun V hv => ⟨block_cell hv.out.vb 0, block_cell hv.out.vb 1⟩
    have KS : Hid (∀ V, Hid (GE lim W p g c V) → V.cell? ⟨W.heap.size + 1, 0, none⟩ = some (.slice none 0 0) ∧ V.cell? ⟨W.heap.size + 1, 1, none⟩ = some (.slice none 0 0) ∧ V.frozen? ⟨W.heap.size + 1, 0, none⟩ = false ∧ V.frozen? ⟨W.heap.size + 1, 1, none⟩ = false ∧ W.heap.size + 1 < V.heap.size ∧ Hid (∀ x y, Below lim W ((V.setCell ⟨W.heap.size + 1, 0, none⟩ x).setCell ⟨W.heap.size + 1, 1, none⟩ y))) := fun V hv => ⟨block_cell hv.out.sb 0, block_cell hv.out.sb 1, block_free hv.out.sb 0, block_free hv.out.sb 1, block_lt hv.out.sb, fun x y => by
      have hlw := HLW.out
      exact (hv.out.bel.setCell (p := ⟨W.heap.size + 1, 0, none⟩) hlw x).setCell (p := ⟨W.heap.size + 1, 1, none⟩) hlw y⟩
    go_region_held3 (fun V => V.cell? ⟨W.heap.size, 0, none⟩ = some (.int .u64 1) ∧ V.cell? ⟨W.heap.size, 1, none⟩ = some (.int .i64 0)) (first | go_keep | exact KQ.out _ HG6 | exact KQ.out _ HG5 | exact KQ.out _ (GE.al HG6))
      (first
        | (go_at_call 18; refine (KPR.out _ (by first | exact HG4' | exact GE.al HG4')).mono ?_; rintro e V5 ⟨rfl, HG5⟩)
        | (go_at_call 17; refine (KTA.out _ (by first | exact HG5 | exact GE.al HG5)).mono ?_; rintro e V6 ⟨so, sc, rfl, HG6⟩; obtain ⟨s0, s1, g0, g1, sl, HB⟩ := KS.out V6 HG6; obtain ⟨w0, w1⟩ := KQ.out V6 HG6))
    all_goals go_wp2
    · exact bodyPost_ret (v := .agg #[.slice (some ⟨wr.heap.size, 0, none⟩) 1 1, .slice so 3 sc]) (by simp [results, Try.results5, go_sem, s0, s1]) rfl ⟨_, _, _, _, _, rfl, HB.out _ _⟩
    · exact bodyPost_ret (v := .agg #[.slice (some ⟨V5.heap.size, 0, none⟩) 1 1, .slice so 3 sc]) (by simp [results, Try.results5, go_sem, s0, s1]) rfl ⟨_, _, _, _, _, rfl, HB.out _ _⟩
    · have hA : ∀ (X : World) (o : Obj) (a : Nat), W.heap.size + 1 < X.heap.size → (X.alloc o).cell? ⟨W.heap.size + 1, a, none⟩ = X.cell? ⟨W.heap.size + 1, a, none⟩ := fun X o a h => World.cell?_alloc_lt _ _ _ h
      have hs2 : ∀ x y, W.heap.size + 1 < ((V6.setCell ⟨W.heap.size + 1, 0, none⟩ x).setCell ⟨W.heap.size + 1, 1, none⟩ y).heap.size := fun x y => by simpa using sl
      exact bodyPost_ret (v := .agg #[.slice (some ⟨V6.heap.size, 0, none⟩) 1 1, .slice so 3 sc]) (by simp [results, Try.results5, go_sem, hA _ _ _ (hs2 _ _), s0, s1]) rfl ⟨_, _, _, _, _, rfl, (HB.out _ _).alloc (by simp; have := HG6.out.bel.size; have := HLW.out; omega) _⟩
end Go.Proofs.Ytneginefcloceaa
namespace Go.Proofs.Ytneginefcloceaa
open Go.RowKit Crc

set_option maxRecDepth 100000 in
set_option maxHeartbeats 4000000 in
/-- Recover of no records: a new proposer. -/
theorem rec0 (c : Cf) (hin : c.In) (hk : badOf c.oks = -1) (me : Int) (hn : c.node me = true) (w : World) : Calls Try.prog 13 #[.agg c.cells, .int .i64 me, .slice none 0 0] w fun e w' => ∃ p g, e = .returned (.tuple #[.pointer (some ⟨p, 0, none⟩), .nilIface]) ∧ Hid (PP w' p g c me 0 0 ∧ Below w.heap.size w w' ∧ w.heap.size ≤ p) := by
  obtain ⟨W1, hW1⟩ : ∃ W1, w.alloc (.cells c.cells 42) = W1 := ⟨_, rfl⟩
  have B1 : Hid (Below w.heap.size w W1) := by rw [← hW1]; exact (Below.refl _ w).alloc (Nat.le_refl _) _
  have C1 : Hid (W1.heap[w.heap.size]? = some (.cells c.cells 42 (0, 0))) := by rw [← hW1]; exact alloc_atK _ _
  have HW1 := hide hW1
  obtain ⟨z0, z1, z2, z3, z4, z5, z6, z7, z8, z9⟩ := cfg_cells C1.out
  have HNW : Hid (Calls Try.prog 38 #[.agg c.cells] W1 fun e w' => ∃ g, e = .returned (.tuple #[.pointer (some ⟨g, 0, none⟩), .nilIface]) ∧ Hid (Below W1.heap.size W1 w' ∧ PG w' (some ⟨g, 0, none⟩) c)) := (new_any c hin W1).mono fun _ _ ⟨a, ev, h1, h2⟩ => by
    rcases h2.out.2 with ⟨_, h3, h4⟩ | ⟨k', h3, _⟩
    · obtain ⟨g, rfl, h5⟩ := h4
      subst h3
      exact ⟨g, h1, h2.out.1, ⟨g, rfl, h5⟩⟩
    · rw [hk] at h3; omega
  have HOK := hide (cf_ok hk)
  have HND : Hid (∀ W a, PG W a c → Calls Try.prog 40 #[.pointer a, .int .i64 me] W fun e w' => e = .returned (.bool true) ∧ w' = W) := fun W a h => by rw [← hn]; exact node_live me h (cf_ok hk)
  have HNEW : Hid (∀ (W : World) (g : Nat), Below w.heap.size w W → PG W (some ⟨g, 0, none⟩) c → PP (W.alloc (.cells (pcells g me 0 0) 36)) W.heap.size g c me 0 0 ∧ Below w.heap.size w (W.alloc (.cells (pcells g me 0 0) 36)) ∧ w.heap.size ≤ W.heap.size) := fun W g hb hg => ⟨⟨alloc_atK _ _, hg.kept ((Below.refl _ _).alloc (Nat.le_refl _) _)⟩, hb.alloc hb.size _, hb.size⟩
  unfold pcells at HNEW
  clear hin hk hW1 C1 hn
  unfold Cf.cells at *
  generalize c.f = f at *
  generalize c.mb = mb at *
  generalize (c.delay : Int) = d at *
  generalize (c.win : Int) = wn at *
  generalize (c.every : Int) = ev at *
  generalize (c.beat : Int) = bt at *
  generalize (c.ep : Int) = ep at *
  generalize (c.em : Int) = em at *
  generalize (c.mn : Int) = mn at *
  generalize (c.ms : Int) = ms at *
  go_enter Try.func13, Try.ntmps13
  go_upto_region 1 with fail
  rw [HW1.out]
  clear HW1
  go_wp2_with fail
  refine HNW.out.mono ?_
  rintro e w2 ⟨g, rfl, G2⟩
  clear z0 z1 z2 z3 z4 z5 z6 z7 z8 z9
  go_wp2_with fail
  refine (HND.out _ _ G2.out.2).mono ?_
  rintro e w3 ⟨rfl, rfl⟩
  have HP := hide (HNEW.out w3 g (B1.out.trans (G2.out.1.mono B1.out.size)) G2.out.2)
  clear HND HNW HNEW B1 G2
  go_wp2
  generalize w3.heap.size = p at *
  go_loopw [11, 12, 34] (fun _ _ i wr => i = .int .i64 0 ∧ Hid (PP wr p g c me 0 0 ∧ Below w.heap.size w wr ∧ w.heap.size ≤ p)) (fun _ _ _ _ => 0)
  case atStart => exact ⟨rfl, HP.out⟩
  case round =>
    obtain ⟨rfl, HJ⟩ := hrel
    clear HP
    go_wp2
    go_ret2
    exact ⟨_, _, rfl, HJ.out⟩
set_option maxRecDepth 10000 in
set_option maxHeartbeats 1600000 in
theorem new0 (c : Cf) (hin : c.In) (hk : badOf c.oks = -1) (me : Int) (hn : c.node me = true) (w : World) : Calls Try.prog 4 #[.agg c.cells, .int .i64 me] w fun e w' => ∃ p g, e = .returned (.tuple #[.pointer (some ⟨p, 0, none⟩), .nilIface]) ∧ Hid (PP w' p g c me 0 0 ∧ Below w.heap.size w w' ∧ w.heap.size ≤ p) := by
  have HP : Hid (∀ W, Calls Try.prog 13 #[.agg c.cells, .int .i64 me, .slice none 0 0] W fun e w' => ∃ p g, e = .returned (.tuple #[.pointer (some ⟨p, 0, none⟩), .nilIface]) ∧ Hid (PP w' p g c me 0 0 ∧ Below W.heap.size W w' ∧ W.heap.size ≤ p)) := fun W => rec0 c hin hk me hn W
  obtain ⟨W1, hW1⟩ : ∃ W1, w.alloc (.cells c.cells 42) = W1 := ⟨_, rfl⟩
  have B1 : Hid (Below w.heap.size w W1) := by rw [← hW1]; exact (Below.refl _ w).alloc (Nat.le_refl _) _
  have C1 : Hid (W1.heap[w.heap.size]? = some (.cells c.cells 42 (0, 0))) := by rw [← hW1]; exact alloc_atK _ _
  obtain ⟨z0, z1, z2, z3, z4, z5, z6, z7, z8, z9⟩ := cfg_cells C1.out
  have HW1 := hide hW1
  clear hW1 hin hk hn C1
  unfold Cf.cells at *
  generalize c.f = f at *
  generalize c.mb = mb at *
  generalize (c.delay : Int) = d at *
  generalize (c.win : Int) = wn at *
  generalize (c.every : Int) = ev at *
  generalize (c.beat : Int) = bt at *
  generalize (c.ep : Int) = ep at *
  generalize (c.em : Int) = em at *
  generalize (c.mn : Int) = mn at *
  generalize (c.ms : Int) = ms at *
  go_enter Try.func4, Try.ntmps4
  go_upto_region 1 with fail
  rw [HW1.out]
  clear HW1
  go_wp2_with fail
  refine (HP.out W1).mono ?_
  rintro e w2 ⟨p, g, rfl, G2⟩
  have FIN : Hid (PP w2 p g c me 0 0 ∧ Below w.heap.size w w2 ∧ w.heap.size ≤ p) := ⟨G2.out.1, B1.out.trans (G2.out.2.1.mono B1.out.size), Nat.le_trans B1.out.size G2.out.2.2⟩
  clear G2 z0 z1 z2 z3 z4 z5 z6 z7 z8 z9
  go_wp2
  go_ret2
  exact ⟨_, _, rfl, FIN.out⟩
/-- The law's own configuration. -/
def cf1 : Cf := ⟨1, 1, 0, 1, 1, 1, 1, 1, 1, 1⟩
theorem cf1_in : cf1.In := by constructor <;> decide
theorem cf1_ok : cf1.Ok := by constructor <;> decide
theorem cf1_bad : badOf cf1.oks = -1 := by decide
theorem cf1_led : cf1.led 1 0 = true := by decide
theorem cf1_node : cf1.node 0 = true := by decide
end Go.Proofs.Ytneginefcloceaa
