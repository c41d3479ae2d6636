import Derived.Test.YtojknconkmplkaaLMa
import Derived.Test.YtojknconkmplkaaMD
import Derived.Test.YtojknconkmplkaaMR
import Derived.Test.YtojknconkmplkaaBMb
namespace Go.Proofs.Ytojknconkmplkaa
open Go.RowKit Crc

def voteCs (num node slot st : Int) (ro : Option Addr) : List Value := Value.int .i64 7 :: .int .u64 num :: .int .i64 node :: .int .u64 slot :: .int .u64 0 :: .slice none 0 0 :: .int .u64 st :: .slice ro 1 1 :: .int .u64 0 :: .int .u64 0 :: .int .i64 0 :: .slice none 0 0 :: .slice none 0 0 :: .bool false :: .int .u64 0 :: .int .u64 0 :: .int .u8 0 :: .int .u8 0 :: .int .u8 0 :: .int .u8 0 :: .int .u8 0 :: .int .u8 0 :: .int .u8 0 :: .int .u8 0 :: .int .u8 0 :: .int .u8 0 :: .int .u8 0 :: .int .u8 0 :: .int .u8 0 :: .int .u8 0 :: .int .u8 0 :: .int .u8 0 :: .int .u8 0 :: .int .u8 0 :: .int .u8 0 :: .int .u8 0 :: .int .u8 0 :: .int .u8 0 :: .int .u8 0 :: .int .u8 0 :: .int .u8 0 :: .int .u8 0 :: .int .u8 0 :: .int .u8 0 :: .int .u8 0 :: .int .u8 0 :: .int .u8 0 :: .int .u8 0 :: .slice none 0 0 :: []
theorem build_vote (num node slot st : Int) (ro : Option Addr) (w : World) : (Instr.build 50 #[(0, .int .i64 7), (1, .agg #[.int .u64 num, .int .i64 node]), (2, .int .u64 slot), (5, .agg #[.int .u64 st, .slice ro 1 1])]).run Try.prog w = .ok (.agg (voteCs num node slot st ro).toArray) w := by kernel_rfl
theorem vote_one (num node slot st : Int) (ro : Option Addr) : ∀ v ∈ voteCs num node slot st ro, v.oneCell' = true := List.all_eq_true.1 rfl
theorem vote_len (num node slot st : Int) (ro : Option Addr) : (voteCs num node slot st ro).length = 49 := rfl
/-- A vote's request and its command, as they lie. -/
structure Vq (cl sq x rb bb : Nat) (V : World) : Prop where
  hb : V.heap[bb]? = some (.cells #[.int .u8 (x : Nat)] 5 (0, 0))
  hr : V.heap[rb]? = some (.cells #[.int .u64 (cl : Nat), .int .u64 (sq : Nat), .slice (some ⟨bb, 0, none⟩) 1 1] 65 (0, 0))
theorem Vq.rqs {cl sq x rb bb : Nat} {V : World} (h : Vq cl sq x rb bb V) (h1 : cl < 18446744073709551616) (h2 : sq < 18446744073709551616) (h3 : x < 256) : Rqs V.heap.size V (some ⟨rb, 0, none⟩) [⟨cl, sq, some ⟨bb, 0, none⟩, 1, 1, [x]⟩] rb 0 := by
  refine ⟨fun _ => rfl, fun _ => block_lt h.hr, by simp, fun i r hr j v hv => ?_, fun r hr => ?_⟩
  · have hi : i = 0 := by have := (List.getElem?_eq_some_iff.1 hr).1; simp at this; omega
    subst hi
    simp at hr
    subst hr
    rw [block_cell h.hr]
    simpa [Rq.cells] using hv
  · simp at hr
    subst hr
    refine ⟨h1, h2, rfl, Nat.le_refl _, show 1 ≤ 140737488355328 by decide, fun y hy => by simp at hy; omega, bb, 0, fun _ => rfl, fun _ => block_lt h.hb, fun i hi => ?_⟩
    rw [block_cell h.hb]
    have hi' : i = 0 := by simp at hi; omega
    subst hi'
    rfl
set_option maxRecDepth 10000 in
set_option maxHeartbeats 1600000 in
theorem vote_any (c : Cf) (src : Int) (slot : Nat) (hs : slot < 18446744073709551616) (w : World) : Calls Try.prog 8 #[.agg c.cells, .agg #[.int .i64 src, .int .u64 (slot : Nat)]] w fun e w' => ∃ m : Ms, e = .returned (.agg m.cs.toArray) ∧ Hid (m.Ok w'.heap.size w' ∧ m.mw = vm c slot ∧ Below w.heap.size w w') := by
  have hmn : Hid (vnum c slot = if c.mn < 1 + slot % 2 then 1 else 1 + slot % 2) := rfl
  have hr7 : Int.tmod (slot : Int) 7 = ((slot % 7 : Nat) : Int) := by rw [Int.tmod_eq_emod_of_nonneg (by omega)]; omega
  have hr5 : Int.tmod (slot : Int) 5 = ((slot % 5 : Nat) : Int) := by rw [Int.tmod_eq_emod_of_nonneg (by omega)]; omega
  have hr3 : Int.tmod (slot : Int) 3 = ((slot % 3 : Nat) : Int) := by rw [Int.tmod_eq_emod_of_nonneg (by omega)]; omega
  have hr2 : Int.tmod (slot : Int) 2 = ((slot % 2 : Nat) : Int) := by rw [Int.tmod_eq_emod_of_nonneg (by omega)]; omega
  have hw5 : IntKind.u64.wrap (256 + ((slot % 5 : Nat) : Int)) = ((256 + slot % 5 : Nat) : Int) := by rw [IntWalk.u64_in _ ⟨by omega, by omega⟩]; omega
  have hw3 : IntKind.u64.wrap (1 + ((slot % 3 : Nat) : Int)) = ((1 + slot % 3 : Nat) : Int) := by rw [IntWalk.u64_in _ ⟨by omega, by omega⟩]; omega
  have hw2 : IntKind.u64.wrap (1 + ((slot % 2 : Nat) : Int)) = ((1 + slot % 2 : Nat) : Int) := by rw [IntWalk.u64_in _ ⟨by omega, by omega⟩]; omega
  have hwn : IntKind.i64.wrap ((slot % 3 : Nat) : Int) = ((slot % 3 : Nat) : Int) := IntWalk.i64_in _ ⟨by omega, by omega⟩
  have hw8 : IntKind.u8.wrap (slot : Int) = ((slot % 256 : Nat) : Int) := by simp [IntKind.wrap, IntKind.bits, IntKind.signed]
  have HM : Hid (∀ (V : World) (bb rb : Nat) (nu : Int), nu = ((vnum c slot : Nat) : Int) → V.heap[bb]? = some (.cells #[.int .u8 ((slot % 256 : Nat) : Int)] 5 (0, 0)) → V.heap[rb]? = some (.cells #[.int .u64 ((256 + slot % 5 : Nat) : Int), .int .u64 ((1 + slot % 3 : Nat) : Int), .slice (some ⟨bb, 0, none⟩) 1 1] 65 (0, 0)) → ∃ m : Ms, m.cs = voteCs nu ((slot % 3 : Nat) : Int) (slot : Int) ((slot % 7 : Nat) : Int) (some ⟨rb, 0, none⟩) ∧ m.Ok V.heap.size V ∧ m.mw = vm c slot) := fun V bb rb nu hnu h1 h2 => by
    subst hnu
    refine ⟨⟨voteCs ((vnum c slot : Nat) : Int) ((slot % 3 : Nat) : Int) (slot : Int) ((slot % 7 : Nat) : Int) (some ⟨rb, 0, none⟩), 7, vnum c slot, ((slot % 3 : Nat) : Int), slot, slot % 7, some ⟨rb, 0, none⟩, 1, 1, [⟨256 + slot % 5, 1 + slot % 3, some ⟨bb, 0, none⟩, 1, 1, [slot % 256]⟩], rb, 0⟩, rfl, ⟨rfl, vote_one _ _ _ _ _, rfl, rfl, rfl, rfl, rfl, rfl, ?_, hs, ?_, Vq.rqs ⟨h1, h2⟩ (by omega) (by omega) (by omega), rfl⟩, rfl⟩
    · show vnum c slot < _; unfold vnum; split <;> omega
    · show slot % 7 < _; omega
  have HONE : Hid (∀ num node slot st ro, ∀ v ∈ voteCs num node slot st ro, v.oneCell' = true) := vote_one
  have HLN : Hid (∀ num node slot st ro, (voteCs num node slot st ro).length = 49) := vote_len
  have HBD := hide build_vote
  have HSZ : Hid (∀ num node slot st ro, (Try.prog.info? 50).map (·.size) = some (voteCs num node slot st ro).length) := fun num node slot st ro => by rw [vote_len]; kernel_rfl
  have HD : (c.mn < 1 + slot % 2 ∧ decide (((1 + slot % 2 : Nat) : Int) > (c.mn : Int)) = true) ∨ (¬ c.mn < 1 + slot % 2 ∧ decide (((1 + slot % 2 : Nat) : Int) > (c.mn : Int)) = false) := by
    by_cases h : c.mn < 1 + slot % 2
    · exact .inl ⟨h, decide_eq_true (by omega)⟩
    · exact .inr ⟨h, decide_eq_false (by omega)⟩
  rcases HD with ⟨h, hd⟩ | ⟨h, hd⟩
  · have HNU : Hid ((1 : Int) = ((vnum c slot : Nat) : Int)) := by show _ = _; unfold vnum; rw [if_pos h]; rfl
    clear h hmn hs
    unfold Cf.cells at *
    generalize c.f = f at *
    generalize c.mb = mb at *
    generalize (c.delay : Int) = d at *
    generalize (c.win : Int) = wn at *
    generalize (c.every : Int) = ev at *
    generalize (c.beat : Int) = bt at *
    generalize (c.ep : Int) = ep at *
    generalize (c.em : Int) = em at *
    generalize (c.mn : Int) = mn at *
    generalize (c.ms : Int) = ms at *
    generalize ((slot % 7 : Nat) : Int) = r7 at *
    generalize ((slot % 5 : Nat) : Int) = r5 at *
    generalize ((256 + slot % 5 : Nat) : Int) = c5 at *
    generalize ((slot % 3 : Nat) : Int) = r3 at *
    generalize ((1 + slot % 3 : Nat) : Int) = s3 at *
    generalize ((slot % 2 : Nat) : Int) = r2 at *
    generalize ((1 + slot % 2 : Nat) : Int) = n2 at *
    generalize ((slot % 256 : Nat) : Int) = b8 at *
    generalize (slot : Int) = S at *
    go_enter Try.func8, Try.ntmps8
    go_upto_region 1 with fail
    generalize hW : World.alloc (World.alloc (World.alloc w _) _) _ = W1
    obtain ⟨Z, hZ, hW⟩ : ∃ Z : Array Value, Z.size = 49 ∧ ((w.alloc (.cells #[.int .i64 f, .int .i64 mb, .int .u64 d, .int .u64 wn, .int .u64 ev, .int .u64 bt, .int .u64 ep, .int .u64 em, .int .u64 mn, .int .u64 ms] 24)).alloc (.cells #[.int .i64 src, .int .u64 S] 34)).alloc (.cells Z 50) = W1 := ⟨_, by rfl, hW⟩
    have e1 : (w.alloc (.cells #[.int .i64 f, .int .i64 mb, .int .u64 d, .int .u64 wn, .int .u64 ev, .int .u64 bt, .int .u64 ep, .int .u64 em, .int .u64 mn, .int .u64 ms] 24)).heap.size = w.heap.size + 1 := by simp
    have e2 : ((w.alloc (.cells #[.int .i64 f, .int .i64 mb, .int .u64 d, .int .u64 wn, .int .u64 ev, .int .u64 bt, .int .u64 ep, .int .u64 em, .int .u64 mn, .int .u64 ms] 24)).alloc (.cells #[.int .i64 src, .int .u64 S] 34)).heap.size = w.heap.size + 1 + 1 := by simp
    have B1 : Hid (Below w.heap.size w W1) := by rw [← hW]; exact (((Below.refl _ w).alloc (Nat.le_refl _) _).alloc (by simp) _).alloc (by simp; omega) _
    have Q0 : Hid (W1.heap[w.heap.size]? = some (.cells #[.int .i64 f, .int .i64 mb, .int .u64 d, .int .u64 wn, .int .u64 ev, .int .u64 bt, .int .u64 ep, .int .u64 em, .int .u64 mn, .int .u64 ms] 24 (0, 0))) := by
      rw [← hW]; exact (Below.heap_alloc _ _ _ (by simp; omega)).trans ((Below.heap_alloc _ _ _ (by simp)).trans (alloc_atK _ _))
    have Q1 : Hid (W1.heap[w.heap.size + 1]? = some (.cells #[.int .i64 src, .int .u64 S] 34 (0, 0))) := by
      rw [← hW, ← e1]; exact (Below.heap_alloc _ _ _ (by simp)).trans (alloc_atK _ _)
    have Q2 : Hid (W1.heap[w.heap.size + 1 + 1]? = some (.cells Z 50 (0, 0))) := by rw [← hW, ← e2]; exact alloc_atK _ _
    have HZ := hide hZ
    clear hW hZ e1 e2
    have v1 : W1.cell? ⟨w.heap.size + 1, 1, none⟩ = some (.int .u64 S) := block_cell Q1.out 1
    have vl : w.heap.size + 1 < W1.heap.size := block_lt Q1.out
    have vm2 := block_lt Q2.out
    obtain ⟨WA, hWA⟩ : ∃ WA, ((W1.alloc (.cells #[.int .u8 b8] 5)).alloc (.cells #[.int .u64 c5, .int .u64 s3, .slice (some ⟨W1.heap.size, 0, none⟩) 1 1] 65)).alloc (.cells #[.int .u64 r7, .slice (some ⟨W1.heap.size + 1, 0, none⟩) 1 1] 43) = WA := ⟨_, rfl⟩
    have HX : Hid (Below W1.heap.size W1 WA ∧ WA.heap[W1.heap.size]? = some (.cells #[.int .u8 b8] 5 (0, 0)) ∧ WA.heap[W1.heap.size + 1]? = some (.cells #[.int .u64 c5, .int .u64 s3, .slice (some ⟨W1.heap.size, 0, none⟩) 1 1] 65 (0, 0)) ∧ WA.heap[W1.heap.size + 1 + 1]? = some (.cells #[.int .u64 r7, .slice (some ⟨W1.heap.size + 1, 0, none⟩) 1 1] 43 (0, 0)) ∧ WA.heap.size = W1.heap.size + 1 + 1 + 1) := by
      rw [← hWA]
      refine ⟨(((Below.refl _ _).alloc (Nat.le_refl _) _).alloc (by simp) _).alloc (by simp; omega) _, ?_, ?_, ?_, by simp⟩
      · exact (Below.heap_alloc _ _ _ (by simp; omega)).trans ((Below.heap_alloc _ _ _ (by simp)).trans (alloc_atK _ _))
      · rw [show W1.heap.size + 1 = (W1.alloc (.cells #[.int .u8 b8] 5)).heap.size by simp]
        exact (Below.heap_alloc _ _ _ (by simp)).trans (alloc_atK _ _)
      · rw [show W1.heap.size + 1 + 1 = ((W1.alloc (.cells #[.int .u8 b8] 5)).alloc (.cells #[.int .u64 c5, .int .u64 s3, .slice (some ⟨W1.heap.size, 0, none⟩) 1 1] 65)).heap.size by simp]
        exact alloc_atK _ _
    have HWA := hide hWA
    clear hWA
    go_upto_region 2 with fail
    rw [HWA.out]
    clear HWA v1
    obtain ⟨ba, a0, a1, a2, asz⟩ := HX.out
    have v1 : WA.cell? ⟨w.heap.size + 1, 1, none⟩ = some (.int .u64 S) := block_cell ((ba.block _ (block_lt Q1.out)).trans Q1.out) 1
    have val : w.heap.size + 1 < WA.heap.size := block_lt ((ba.block _ (block_lt Q1.out)).trans Q1.out)
    obtain ⟨W2, hW2⟩ : ∃ W2, WA.alloc (.cells #[.int .u64 n2, .int .i64 r3] 39) = W2 := ⟨_, rfl⟩
    have hb2 : Below WA.heap.size WA W2 := by rw [← hW2]; exact (Below.refl _ _).alloc (Nat.le_refl _) _
    have HX2 : Hid (Below W1.heap.size W1 W2 ∧ W2.heap[W1.heap.size]? = some (.cells #[.int .u8 b8] 5 (0, 0)) ∧ W2.heap[W1.heap.size + 1]? = some (.cells #[.int .u64 c5, .int .u64 s3, .slice (some ⟨W1.heap.size, 0, none⟩) 1 1] 65 (0, 0)) ∧ W2.heap[W1.heap.size + 1 + 1]? = some (.cells #[.int .u64 r7, .slice (some ⟨W1.heap.size + 1, 0, none⟩) 1 1] 43 (0, 0)) ∧ W2.heap[WA.heap.size]? = some (.cells #[.int .u64 n2, .int .i64 r3] 39 (0, 0))) :=
      ⟨ba.trans (hb2.mono ba.size), (hb2.block _ (block_lt a0)).trans a0, (hb2.block _ (block_lt a1)).trans a1, (hb2.block _ (block_lt a2)).trans a2, by rw [← hW2]; exact alloc_atK _ _⟩
    have HW2 := hide hW2
    have HAS := hide asz
    clear hW2 hb2 ba a0 a1 a2 asz HX
    have HX := HX2
    go_upto_region 3 with fail
    rw [HW2.out]
    clear HW2 HX2 hr7 hr5 hr3 hr2 hw5 hw3 hw2 hwn hw8 v1 val
    have hys : W1.heap.size + 1 + 1 + 1 ≤ WA.heap.size := Nat.le_of_eq HAS.out.symm
    generalize WA.heap.size = yb at *
    obtain ⟨b2, k0, k1, k2, k3⟩ := HX.out
    have B2 := hide (B1.out.trans (b2.mono B1.out.size))
    have K0 := hide k0
    have K1 := hide k1
    have K2 := hide k2
    have QC := hide ((b2.block _ (block_lt Q0.out)).trans Q0.out)
    have QV := hide ((b2.block _ (block_lt Q1.out)).trans Q1.out)
    have QM := hide ((b2.block _ (block_lt Q2.out)).trans Q2.out)
    have y0 : W2.cell? ⟨yb, 0, none⟩ = some (.int .u64 n2) := block_cell k3 0
    have y1 : W2.cell? ⟨yb, 1, none⟩ = some (.int .i64 r3) := block_cell k3 1
    have yf := block_free k3 0
    have x0 : W2.cell? ⟨W1.heap.size + 1 + 1, 0, none⟩ = some (.int .u64 r7) := block_cell k2 0
    have x1 : W2.cell? ⟨W1.heap.size + 1 + 1, 1, none⟩ = some (.slice (some ⟨W1.heap.size + 1, 0, none⟩) 1 1) := block_cell k2 1
    have z8 : W2.cell? ⟨w.heap.size, 8, none⟩ = some (.int .u64 mn) := block_cell QC.out 8
    have v1 : W2.cell? ⟨w.heap.size + 1, 1, none⟩ = some (.int .u64 S) := block_cell QV.out 1
    have hl0 := block_lt QC.out
    have hl1 := block_lt QV.out
    have hl2 := block_lt k2
    have hl3 := block_lt k3
    have hlm := block_lt QM.out
    have hss : w.heap.size + 1 + 1 < W1.heap.size := vm2
    have hgs := hide (grown_set W2 yb 0 (.int .u64 1))
    clear HX b2 k0 k1 k2 k3 B1 Q0 Q1 Q2 vl vm2
    have KK : Hid (∀ q o, q < yb → W2.heap[q]? = some o → (W2.setCell ⟨yb, 0, none⟩ (.int .u64 1)).heap[q]? = some o) := fun q o hq ho => (hgs.out.block _ (by omega) (fun e => by have := Option.some.inj e; omega)).trans ho
    have K0' := hide (KK.out _ _ (by omega) K0.out)
    have K1' := hide (KK.out _ _ (by omega) K1.out)
    have QM' := hide (KK.out _ _ (by omega) QM.out)
    have B3 : Hid (Below w.heap.size w (W2.setCell ⟨yb, 0, none⟩ (.int .u64 1))) := B2.out.setCell (p := ⟨yb, 0, none⟩) (by show w.heap.size ≤ yb; omega) _
    go_upto_region 5 with fail
    go_step
    refine wpList_split 4 (fun R HQ => ?_)
    simp only [List.take]
    go_wp2
    refine HQ.out _ _ ?_
    clear HQ
    simp only [List.drop]
    refine wpList_pure rfl (exec_build (t := 50) (parts := _) rfl (V := .agg (voteCs 1 r3 S r7 (some ⟨W1.heap.size + 1, 0, none⟩)).toArray) (by simpa [Act.eval] using HBD.out 1 r3 S r7 (some ⟨W1.heap.size + 1, 0, none⟩) _)) ?_
    simp only [Act.put, List.setIfInBounds_toArray, List.set_cons_zero, List.set_cons_succ]
    generalize W2.setCell ⟨yb, 0, none⟩ (.int .u64 1) = W3 at *
    refine wpList_store_boxB rfl 50 _ _ rfl (w.heap.size + 1 + 1) QM'.out (voteCs 1 r3 S r7 (some ⟨W1.heap.size + 1, 0, none⟩)) rfl rfl (by rw [HLN.out, HZ.out]) (HSZ.out _ _ _ _ _) (HONE.out _ _ _ _ _) (fun V gV hV => ?_)
    simp only [Act.put]
    obtain ⟨m, hm1, hm2, hm3⟩ := HM.out V W1.heap.size (W1.heap.size + 1) 1 HNU.out ((gV.block _ (block_lt K0'.out) (fun e => by have := Option.some.inj e; omega)).trans K0'.out) ((gV.block _ (block_lt K1'.out) (fun e => by have := Option.some.inj e; omega)).trans K1'.out)
    have HF := hide (B3.out.grown gV B3.out.size (fun k e => by cases e; show w.heap.size ≤ _; omega))
    rw [← hm1] at hV
    have hld := loadB (P := Try.prog) (ty := 50) (show LiesB V (w.heap.size + 1 + 1) m.cs 50 from hV) Try.underlying50 rfl (by rw [hm1]; exact HSZ.out _ _ _ _ _)
    have HM2 := hide (And.intro hm2 hm3)
    clear gV hV hm1 hm2 hm3
    go_wp2
    refine bodyPost_ret (v := .agg m.cs.toArray) ?_ rfl ⟨m, rfl, HM2.out.1, HM2.out.2, HF.out⟩
    simp [results, Try.results8, asAddr, hld]
  · have HNU : Hid (((1 + slot % 2 : Nat) : Int) = ((vnum c slot : Nat) : Int)) := by show _ = _; unfold vnum; rw [if_neg h]
    clear h hmn hs
    unfold Cf.cells at *
    generalize c.f = f at *
    generalize c.mb = mb at *
    generalize (c.delay : Int) = d at *
    generalize (c.win : Int) = wn at *
    generalize (c.every : Int) = ev at *
    generalize (c.beat : Int) = bt at *
    generalize (c.ep : Int) = ep at *
    generalize (c.em : Int) = em at *
    generalize (c.mn : Int) = mn at *
    generalize (c.ms : Int) = ms at *
    generalize ((slot % 7 : Nat) : Int) = r7 at *
    generalize ((slot % 5 : Nat) : Int) = r5 at *
    generalize ((256 + slot % 5 : Nat) : Int) = c5 at *
    generalize ((slot % 3 : Nat) : Int) = r3 at *
    generalize ((1 + slot % 3 : Nat) : Int) = s3 at *
    generalize ((slot % 2 : Nat) : Int) = r2 at *
    generalize ((1 + slot % 2 : Nat) : Int) = n2 at *
    generalize ((slot % 256 : Nat) : Int) = b8 at *
    generalize (slot : Int) = S at *
    go_enter Try.func8, Try.ntmps8
    go_upto_region 1 with fail
    generalize hW : World.alloc (World.alloc (World.alloc w _) _) _ = W1
    obtain ⟨Z, hZ, hW⟩ : ∃ Z : Array Value, Z.size = 49 ∧ ((w.alloc (.cells #[.int .i64 f, .int .i64 mb, .int .u64 d, .int .u64 wn, .int .u64 ev, .int .u64 bt, .int .u64 ep, .int .u64 em, .int .u64 mn, .int .u64 ms] 24)).alloc (.cells #[.int .i64 src, .int .u64 S] 34)).alloc (.cells Z 50) = W1 := ⟨_, by rfl, hW⟩
    have e1 : (w.alloc (.cells #[.int .i64 f, .int .i64 mb, .int .u64 d, .int .u64 wn, .int .u64 ev, .int .u64 bt, .int .u64 ep, .int .u64 em, .int .u64 mn, .int .u64 ms] 24)).heap.size = w.heap.size + 1 := by simp
    have e2 : ((w.alloc (.cells #[.int .i64 f, .int .i64 mb, .int .u64 d, .int .u64 wn, .int .u64 ev, .int .u64 bt, .int .u64 ep, .int .u64 em, .int .u64 mn, .int .u64 ms] 24)).alloc (.cells #[.int .i64 src, .int .u64 S] 34)).heap.size = w.heap.size + 1 + 1 := by simp
    have B1 : Hid (Below w.heap.size w W1) := by rw [← hW]; exact (((Below.refl _ w).alloc (Nat.le_refl _) _).alloc (by simp) _).alloc (by simp; omega) _
    have Q0 : Hid (W1.heap[w.heap.size]? = some (.cells #[.int .i64 f, .int .i64 mb, .int .u64 d, .int .u64 wn, .int .u64 ev, .int .u64 bt, .int .u64 ep, .int .u64 em, .int .u64 mn, .int .u64 ms] 24 (0, 0))) := by
      rw [← hW]; exact (Below.heap_alloc _ _ _ (by simp; omega)).trans ((Below.heap_alloc _ _ _ (by simp)).trans (alloc_atK _ _))
    have Q1 : Hid (W1.heap[w.heap.size + 1]? = some (.cells #[.int .i64 src, .int .u64 S] 34 (0, 0))) := by
      rw [← hW, ← e1]; exact (Below.heap_alloc _ _ _ (by simp)).trans (alloc_atK _ _)
    have Q2 : Hid (W1.heap[w.heap.size + 1 + 1]? = some (.cells Z 50 (0, 0))) := by rw [← hW, ← e2]; exact alloc_atK _ _
    have HZ := hide hZ
    clear hW hZ e1 e2
    have v1 : W1.cell? ⟨w.heap.size + 1, 1, none⟩ = some (.int .u64 S) := block_cell Q1.out 1
    have vl : w.heap.size + 1 < W1.heap.size := block_lt Q1.out
    have vm2 := block_lt Q2.out
    obtain ⟨WA, hWA⟩ : ∃ WA, ((W1.alloc (.cells #[.int .u8 b8] 5)).alloc (.cells #[.int .u64 c5, .int .u64 s3, .slice (some ⟨W1.heap.size, 0, none⟩) 1 1] 65)).alloc (.cells #[.int .u64 r7, .slice (some ⟨W1.heap.size + 1, 0, none⟩) 1 1] 43) = WA := ⟨_, rfl⟩
    have HX : Hid (Below W1.heap.size W1 WA ∧ WA.heap[W1.heap.size]? = some (.cells #[.int .u8 b8] 5 (0, 0)) ∧ WA.heap[W1.heap.size + 1]? = some (.cells #[.int .u64 c5, .int .u64 s3, .slice (some ⟨W1.heap.size, 0, none⟩) 1 1] 65 (0, 0)) ∧ WA.heap[W1.heap.size + 1 + 1]? = some (.cells #[.int .u64 r7, .slice (some ⟨W1.heap.size + 1, 0, none⟩) 1 1] 43 (0, 0)) ∧ WA.heap.size = W1.heap.size + 1 + 1 + 1) := by
      rw [← hWA]
      refine ⟨(((Below.refl _ _).alloc (Nat.le_refl _) _).alloc (by simp) _).alloc (by simp; omega) _, ?_, ?_, ?_, by simp⟩
      · exact (Below.heap_alloc _ _ _ (by simp; omega)).trans ((Below.heap_alloc _ _ _ (by simp)).trans (alloc_atK _ _))
      · rw [show W1.heap.size + 1 = (W1.alloc (.cells #[.int .u8 b8] 5)).heap.size by simp]
        exact (Below.heap_alloc _ _ _ (by simp)).trans (alloc_atK _ _)
      · rw [show W1.heap.size + 1 + 1 = ((W1.alloc (.cells #[.int .u8 b8] 5)).alloc (.cells #[.int .u64 c5, .int .u64 s3, .slice (some ⟨W1.heap.size, 0, none⟩) 1 1] 65)).heap.size by simp]
        exact alloc_atK _ _
    have HWA := hide hWA
    clear hWA
    go_upto_region 2 with fail
    rw [HWA.out]
    clear HWA v1
    obtain ⟨ba, a0, a1, a2, asz⟩ := HX.out
    have v1 : WA.cell? ⟨w.heap.size + 1, 1, none⟩ = some (.int .u64 S) := block_cell ((ba.block _ (block_lt Q1.out)).trans Q1.out) 1
    have val : w.heap.size + 1 < WA.heap.size := block_lt ((ba.block _ (block_lt Q1.out)).trans Q1.out)
    obtain ⟨W2, hW2⟩ : ∃ W2, WA.alloc (.cells #[.int .u64 n2, .int .i64 r3] 39) = W2 := ⟨_, rfl⟩
    have hb2 : Below WA.heap.size WA W2 := by rw [← hW2]; exact (Below.refl _ _).alloc (Nat.le_refl _) _
    have HX2 : Hid (Below W1.heap.size W1 W2 ∧ W2.heap[W1.heap.size]? = some (.cells #[.int .u8 b8] 5 (0, 0)) ∧ W2.heap[W1.heap.size + 1]? = some (.cells #[.int .u64 c5, .int .u64 s3, .slice (some ⟨W1.heap.size, 0, none⟩) 1 1] 65 (0, 0)) ∧ W2.heap[W1.heap.size + 1 + 1]? = some (.cells #[.int .u64 r7, .slice (some ⟨W1.heap.size + 1, 0, none⟩) 1 1] 43 (0, 0)) ∧ W2.heap[WA.heap.size]? = some (.cells #[.int .u64 n2, .int .i64 r3] 39 (0, 0))) :=
      ⟨ba.trans (hb2.mono ba.size), (hb2.block _ (block_lt a0)).trans a0, (hb2.block _ (block_lt a1)).trans a1, (hb2.block _ (block_lt a2)).trans a2, by rw [← hW2]; exact alloc_atK _ _⟩
    have HW2 := hide hW2
    have HAS := hide asz
    clear hW2 hb2 ba a0 a1 a2 asz HX
    have HX := HX2
    go_upto_region 3 with fail
    rw [HW2.out]
    clear HW2 HX2 hr7 hr5 hr3 hr2 hw5 hw3 hw2 hwn hw8 v1 val
    have hys : W1.heap.size + 1 + 1 + 1 ≤ WA.heap.size := Nat.le_of_eq HAS.out.symm
    generalize WA.heap.size = yb at *
    obtain ⟨b2, k0, k1, k2, k3⟩ := HX.out
    have B2 := hide (B1.out.trans (b2.mono B1.out.size))
    have K0 := hide k0
    have K1 := hide k1
    have K2 := hide k2
    have QC := hide ((b2.block _ (block_lt Q0.out)).trans Q0.out)
    have QV := hide ((b2.block _ (block_lt Q1.out)).trans Q1.out)
    have QM := hide ((b2.block _ (block_lt Q2.out)).trans Q2.out)
    have y0 : W2.cell? ⟨yb, 0, none⟩ = some (.int .u64 n2) := block_cell k3 0
    have y1 : W2.cell? ⟨yb, 1, none⟩ = some (.int .i64 r3) := block_cell k3 1
    have yf := block_free k3 0
    have x0 : W2.cell? ⟨W1.heap.size + 1 + 1, 0, none⟩ = some (.int .u64 r7) := block_cell k2 0
    have x1 : W2.cell? ⟨W1.heap.size + 1 + 1, 1, none⟩ = some (.slice (some ⟨W1.heap.size + 1, 0, none⟩) 1 1) := block_cell k2 1
    have z8 : W2.cell? ⟨w.heap.size, 8, none⟩ = some (.int .u64 mn) := block_cell QC.out 8
    have v1 : W2.cell? ⟨w.heap.size + 1, 1, none⟩ = some (.int .u64 S) := block_cell QV.out 1
    have hl0 := block_lt QC.out
    have hl1 := block_lt QV.out
    have hl2 := block_lt k2
    have hl3 := block_lt k3
    have hlm := block_lt QM.out
    have hss : w.heap.size + 1 + 1 < W1.heap.size := vm2
    have hgs := hide (grown_set W2 yb 0 (.int .u64 1))
    clear HX b2 k0 k1 k2 k3 B1 Q0 Q1 Q2 vl vm2
    go_upto_region 5 with fail
    go_step
    refine wpList_split 4 (fun R HQ => ?_)
    simp only [List.take]
    go_wp2
    refine HQ.out _ _ ?_
    clear HQ
    simp only [List.drop]
    refine wpList_pure rfl (exec_build (t := 50) (parts := _) rfl (V := .agg (voteCs n2 r3 S r7 (some ⟨W1.heap.size + 1, 0, none⟩)).toArray) (by simpa [Act.eval] using HBD.out n2 r3 S r7 (some ⟨W1.heap.size + 1, 0, none⟩) _)) ?_
    simp only [Act.put, List.setIfInBounds_toArray, List.set_cons_zero, List.set_cons_succ]
    refine wpList_store_boxB rfl 50 _ _ rfl (w.heap.size + 1 + 1) QM.out (voteCs n2 r3 S r7 (some ⟨W1.heap.size + 1, 0, none⟩)) rfl rfl (by rw [HLN.out, HZ.out]) (HSZ.out _ _ _ _ _) (HONE.out _ _ _ _ _) (fun V gV hV => ?_)
    simp only [Act.put]
    obtain ⟨m, hm1, hm2, hm3⟩ := HM.out V W1.heap.size (W1.heap.size + 1) n2 HNU.out ((gV.block _ (block_lt K0.out) (fun e => by have := Option.some.inj e; omega)).trans K0.out) ((gV.block _ (block_lt K1.out) (fun e => by have := Option.some.inj e; omega)).trans K1.out)
    have HF := hide (B2.out.grown gV B2.out.size (fun k e => by cases e; show w.heap.size ≤ _; omega))
    rw [← hm1] at hV
    have hld := loadB (P := Try.prog) (ty := 50) (show LiesB V (w.heap.size + 1 + 1) m.cs 50 from hV) Try.underlying50 rfl (by rw [hm1]; exact HSZ.out _ _ _ _ _)
    have HM2 := hide (And.intro hm2 hm3)
    clear gV hV hm1 hm2 hm3
    go_wp2
    refine bodyPost_ret (v := .agg m.cs.toArray) ?_ rfl ⟨m, rfl, HM2.out.1, HM2.out.2, HF.out⟩
    simp [results, Try.results8, asAddr, hld]
end Go.Proofs.Ytojknconkmplkaa
