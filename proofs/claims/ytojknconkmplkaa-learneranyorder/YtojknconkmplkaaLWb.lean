import Derived.Test.YtojknconkmplkaaLWa
import Derived.Test.YtojknconkmplkaaBAy
import Derived.Test.YtojknconkmplkaaMR
import Derived.Deep.DeepCutAuto
import Derived.Deep.CutRange
namespace Go.Proofs.Ytojknconkmplkaa
open Go.RowKit Crc

set_option maxRecDepth 100000 in
set_option maxHeartbeats 8000000 in
theorem any_walk (c : Cf) (hin : c.In) (w : World) {vb off : Nat} {ao : Option Addr} (n cap : Nat) {vs : List Vt} (hn : n = vs.length) (hV : Vts w vb off vs) (hao : 0 < n → ao = some ⟨vb, off, none⟩) (hvl : 0 < n → vb < w.heap.size) (hle : n ≤ 140737488355328) :
    Calls Try.prog 3 #[.agg c.cells, .slice ao n cap] w fun e w' => e = .returned (.bool true) ∧ Below w.heap.size w w' := by
  obtain ⟨W1, hW1⟩ : ∃ W1, w.alloc (.cells c.cells 24) = W1 := ⟨_, rfl⟩
  have B1 : Hid (Below w.heap.size w W1) := by rw [← hW1]; exact (Below.refl _ w).alloc (Nat.le_refl _) _
  have C1 : Hid (W1.heap[w.heap.size]? = some (.cells c.cells 24 (0, 0))) := by rw [← hW1]; exact alloc_atK _ _
  have HMY := hide (may_any c 0 W1)
  have HLV := hide (fun (h : c.mayL 0 = true) (V : World) => livesL c hin (by unfold Cf.mayL at h; simp only [Bool.and_eq_true, decide_eq_true_eq] at h; exact h.1) V)
  have HNW := hide (fun (h : c.mayL 0 = true) (V : World) => newL c hin (by unfold Cf.mayL at h; simp only [Bool.and_eq_true, decide_eq_true_eq] at h; exact h.1) 0 (by unfold Cf.mayL at h; simp only [Bool.and_eq_true, decide_eq_true_eq] at h; exact h.2) V)
  have HCK : Hid (c.mayL 0 = true → c.Ok) := fun h => cf_ok (by unfold Cf.mayL at h; simp only [Bool.and_eq_true, decide_eq_true_eq] at h; exact h.1)
  have HC := hide (fun (V : World) (h : V.heap[w.heap.size]? = some (.cells c.cells 24 (0, 0))) => cfg_cells h)
  have HVT := hide hV
  have HNV := hide hn
  have HAO := hide hao
  have HVL := hide hvl
  obtain ⟨z0, z1, z2, z3, z4, z5, z6, z7, z8, z9⟩ := HC.out W1 C1.out
  have HW1 := hide hW1
  clear hW1 hin hV hn hao hvl
  unfold Cf.cells at HMY HLV HNW
  go_enter Try.func3, Try.ntmps3
  go_upto_region 1 with fail
  rw [HW1.out]
  clear HW1
  go_wp2_with fail
  refine HMY.out.mono ?_
  rintro e w2 ⟨rfl, hb2⟩
  have B2 := hide (B1.out.trans (hb2.out.mono B1.out.size))
  have C2 := hide ((hb2.out.block _ (block_lt C1.out)).trans C1.out)
  clear z0 z1 z2 z3 z4 z5 z6 z7 z8 z9 hb2 HMY B1 C1
  cases hmy : c.mayL 0 with
  | false =>
    go_wp2
    go_ret
    exact ⟨rfl, B2.out⟩
  | true =>
  have HK := hide (HCK.out hmy)
  have HLV1 := hide (HLV.out hmy w2)
  have HNW1 := hide (HNW.out hmy)
  clear hmy HLV HNW HCK
  obtain ⟨z0, z1, z2, z3, z4, z5, z6, z7, z8, z9⟩ := HC.out w2 C2.out
  go_wp2_with fail
  refine HLV1.out.mono ?_
  rintro e w3 ⟨rfl, hb3⟩
  have B3 := hide (B2.out.trans (hb3.out.mono B2.out.size))
  have C3 := hide ((hb3.out.block _ (block_lt C2.out)).trans C2.out)
  clear z0 z1 z2 z3 z4 z5 z6 z7 z8 z9 hb3 HLV1 B2 C2
  obtain ⟨z0, z1, z2, z3, z4, z5, z6, z7, z8, z9⟩ := HC.out w3 C3.out
  go_wp2_with fail
  refine (HNW1.out w3).mono ?_
  rintro e w4 ⟨lb, g, mb, rfl, G4⟩
  have B4 := hide (B3.out.trans (G4.out.2.1.mono B3.out.size))
  have C4 := hide ((G4.out.2.1.block _ (block_lt C3.out)).trans C3.out)
  clear z0 z1 z2 z3 z4 z5 z6 z7 z8 z9 C3
  obtain ⟨z0, z1, z2, z3, z4, z5, z6, z7, z8, z9⟩ := HC.out w4 C4.out
  go_wp2_with fail
  refine (HNW1.out w4).mono ?_
  rintro e w5 ⟨lb2, g2, mb2, rfl, G5⟩
  have HS : Hid (Lo w c vb off vs lb g mb lb2 g2 mb2 0 0 (fun _ => Jv.zero) (fun _ => Jv.zero) w5) := by
    have b5 := B4.out.trans (G5.out.2.1.mono B4.out.size)
    obtain ⟨es, k, ho⟩ := G4.out.1.objL
    refine ⟨b5, (G5.out.2.1.block _ (block_lt C4.out)).trans C4.out, G4.out.1.kept G5.out.2.1, G5.out.1, ?_, Nat.le_trans B3.out.size G4.out.2.2.2, Nat.le_trans B4.out.size G5.out.2.2.2, HVT.out.below b5 (fun hp => HVL.out (by have := HNV.out; omega)), fun hp => HVL.out (by have := HNV.out; omega)⟩
    have h1 := block_lt ho
    have h2 := G5.out.2.2.2
    omega
  clear z0 z1 z2 z3 z4 z5 z6 z7 z8 z9 G4 G5 HNW1 B3 B4 C4 HC HVT HVL
  by_cases h200 : 200 < n
  · have d200 : decide ((n : Int) > 200) = true := decide_eq_true (by omega)
    have HB := hide HS.out.bel
    clear HS
    go_wp2
    go_ret
    exact ⟨rfl, HB.out⟩
  have d200 : decide ((n : Int) > 200) = false := decide_eq_false (by omega)
  go_upto_if 45 with fail
  go_cut [] from 46 (fun V => Hid (Lo w c vb off vs lb g mb lb2 g2 mb2 0 0 (fun _ => Jv.zero) (fun _ => Jv.zero) V))
  case first =>
    go_wp2
    go_meet
    case rel => exact HS.out
  case rest =>
  clear HS
  have HS := hcut
  clear hcut d200
  go_step
  go_step
  go_cut [9] from 46 (fun _ V => Hid (∃ u B, Lo w c vb off vs lb g mb lb2 g2 mb2 n 0 u (fun _ => Jv.zero) V ∧ InvU c B u ∧ Came c (vn vs) (fun k => k < n) B ∧ ∀ v ∈ vs, 0 ≤ v.src))
  case first =>
    go_wp2
    go_loopw [9] (fun i wr => ∃ k : Nat, k ≤ n ∧ i = .int .i64 k ∧ ∃ u B, Hid (Lo w c vb off vs lb g mb lb2 g2 mb2 k 0 u (fun _ => Jv.zero) wr) ∧ Hid (InvU c B u ∧ Came c (vn vs) (fun j => j < k) B ∧ ∀ (j : Nat) (v : Vt), j < k → vs[j]? = some v → 0 ≤ v.src)) (fun i _ => n - (intOf i).toNat)
    case atStart => exact ⟨0, by omega, rfl, _, fun _ => 0, HS.out, InvU.start c, (Came.start c (vn vs)).congr (fun k _ => by simp), fun j v hj => by omega⟩
    case round =>
      clear HS
      obtain ⟨k, hk, rfl, u, B, HL, HI⟩ := hrel
      by_cases hlt : k < n
      · obtain ⟨v, hv⟩ : ∃ v, vs[k]? = some v := ⟨_, List.getElem?_eq_getElem (by have := HNV.out; omega)⟩
        have hin_v := HL.out.vts.ok v (List.mem_of_getElem? hv)
        have hv0 : 0 < vs.length := by have := HNV.out; omega
        obtain rfl : ao = some ⟨vb, off, none⟩ := HAO.out (by omega)
        have c0 : wr.cell? ⟨vb, off + k * 2, none⟩ = some (.int .i64 v.src) := HL.out.vts.at_ k v hv 0 _ rfl
        have cl : vb < wr.heap.size := Nat.lt_of_lt_of_le (HL.out.vlt hv0) HL.out.bel.size
        by_cases hs : v.src < 0
        · have d1 : decide (v.src < 0) = true := decide_eq_true hs
          have HB := hide HL.out.bel
          clear HL HI hs hin_v hv
          go_wp2
          go_ret
          exact ⟨rfl, HB.out⟩
        · have d1 : decide (v.src < 0) = false := decide_eq_false hs
          have hs0 : 0 ≤ v.src := by omega
          have KV : Hid (∀ V, Calls Try.prog 8 #[.agg #[.int .i64 c.f, .int .i64 c.mb, .int .u64 (c.delay : Nat), .int .u64 (c.win : Nat), .int .u64 (c.every : Nat), .int .u64 (c.beat : Nat), .int .u64 (c.ep : Nat), .int .u64 (c.em : Nat), .int .u64 (c.mn : Nat), .int .u64 (c.ms : Nat)], .agg #[.int .i64 v.src, .int .u64 (v.slot : Nat)]] V fun e V' => ∃ m : Ms, e = .returned (.agg m.cs.toArray) ∧ Hid (m.Ok V'.heap.size V' ∧ m.mw = vm c v.slot ∧ Below V.heap.size V V')) := fun V => vote_any c v.src v.slot hin_v.n V
          have KA : Hid (∀ (V : World) (m : Ms), Lo w c vb off vs lb g mb lb2 g2 mb2 k 0 u (fun _ => Jv.zero) V → m.Ok V.heap.size V → m.mw = vm c v.slot → Calls Try.prog 7 #[.pointer (some ⟨lb, 0, none⟩), .int .u64 v.src, .agg m.cs.toArray] V fun e V' => ∃ z, e = .returned (.bool z) ∧ Hid (Lo w c vb off vs lb g mb lb2 g2 mb2 (k + 1) 0 (accF c 0 u v.src.toNat (vm c v.slot)).2 (fun _ => Jv.zero) V')) := fun V m hL hm he => by
            have es : ((v.src.toNat : Nat) : Int) = v.src := Int.toNat_of_nonneg hs0
            have hcall := acceptL HK.out hL.la (by omega) v.src.toNat m hm
            rw [es] at hcall
            refine hcall.mono ?_
            rintro e V' ⟨z, u9, rfl, G⟩
            refine ⟨z, rfl, ?_⟩
            have h9 := G.out.1
            rw [he] at h9
            rw [show (accF c 0 u v.src.toNat (vm c v.slot)).2 = u9 by rw [h9]]
            exact hL.stepA G.out.2.1 G.out.2.2
          have KS : Hid (∀ V, Hid (Lo w c vb off vs lb g mb lb2 g2 mb2 k 0 u (fun _ => Jv.zero) V) → (fun V => (V.cell? ⟨vb, off + k * 2, none⟩ = some (.int .i64 v.src) ∧ V.cell? ⟨vb, off + k * 2 + 1, none⟩ = some (.int .u64 (v.slot : Nat)) ∧ vb < V.heap.size) ∧ (V.cell? ⟨w.heap.size, 0, none⟩ = some (.int .i64 c.f) ∧ V.cell? ⟨w.heap.size, 1, none⟩ = some (.int .i64 c.mb) ∧ V.cell? ⟨w.heap.size, 2, none⟩ = some (.int .u64 (c.delay : Nat)) ∧ V.cell? ⟨w.heap.size, 3, none⟩ = some (.int .u64 (c.win : Nat)) ∧ V.cell? ⟨w.heap.size, 4, none⟩ = some (.int .u64 (c.every : Nat)) ∧ V.cell? ⟨w.heap.size, 5, none⟩ = some (.int .u64 (c.beat : Nat)) ∧ V.cell? ⟨w.heap.size, 6, none⟩ = some (.int .u64 (c.ep : Nat)) ∧ V.cell? ⟨w.heap.size, 7, none⟩ = some (.int .u64 (c.em : Nat)) ∧ V.cell? ⟨w.heap.size, 8, none⟩ = some (.int .u64 (c.mn : Nat)) ∧ V.cell? ⟨w.heap.size, 9, none⟩ = some (.int .u64 (c.ms : Nat)) ∧ w.heap.size < V.heap.size)) V) := fun V hL => by
            obtain ⟨z0, z1, z2, z3, z4, z5, z6, z7, z8, z9⟩ := cfg_cells hL.out.cfg
            exact ⟨⟨hL.out.vts.at_ k v hv 0 _ rfl, hL.out.vts.at_ k v hv 1 _ rfl, Nat.lt_of_lt_of_le (hL.out.vlt hv0) hL.out.bel.size⟩, z0, z1, z2, z3, z4, z5, z6, z7, z8, z9, block_lt hL.out.cfg⟩
          have KS4 : Hid (∀ V, Hid (Lo w c vb off vs lb g mb lb2 g2 mb2 (k + 1) 0 (accF c 0 u v.src.toNat (vm c v.slot)).2 (fun _ => Jv.zero) V) → (fun V => (V.cell? ⟨vb, off + k * 2, none⟩ = some (.int .i64 v.src) ∧ V.cell? ⟨vb, off + k * 2 + 1, none⟩ = some (.int .u64 (v.slot : Nat)) ∧ vb < V.heap.size) ∧ (V.cell? ⟨w.heap.size, 0, none⟩ = some (.int .i64 c.f) ∧ V.cell? ⟨w.heap.size, 1, none⟩ = some (.int .i64 c.mb) ∧ V.cell? ⟨w.heap.size, 2, none⟩ = some (.int .u64 (c.delay : Nat)) ∧ V.cell? ⟨w.heap.size, 3, none⟩ = some (.int .u64 (c.win : Nat)) ∧ V.cell? ⟨w.heap.size, 4, none⟩ = some (.int .u64 (c.every : Nat)) ∧ V.cell? ⟨w.heap.size, 5, none⟩ = some (.int .u64 (c.beat : Nat)) ∧ V.cell? ⟨w.heap.size, 6, none⟩ = some (.int .u64 (c.ep : Nat)) ∧ V.cell? ⟨w.heap.size, 7, none⟩ = some (.int .u64 (c.em : Nat)) ∧ V.cell? ⟨w.heap.size, 8, none⟩ = some (.int .u64 (c.mn : Nat)) ∧ V.cell? ⟨w.heap.size, 9, none⟩ = some (.int .u64 (c.ms : Nat)) ∧ w.heap.size < V.heap.size)) V) := fun V hL => by
            obtain ⟨z0, z1, z2, z3, z4, z5, z6, z7, z8, z9⟩ := cfg_cells hL.out.cfg
            exact ⟨⟨hL.out.vts.at_ k v hv 0 _ rfl, hL.out.vts.at_ k v hv 1 _ rfl, Nat.lt_of_lt_of_le (hL.out.vlt hv0) hL.out.bel.size⟩, z0, z1, z2, z3, z4, z5, z6, z7, z8, z9, block_lt hL.out.cfg⟩
          have hwS : IntKind.u64.wrap v.src = v.src := IntWalk.u64_in _ ⟨hs0, by have := hin_v.b2; omega⟩
          have HEND : Hid (∀ V, Hid (Lo w c vb off vs lb g mb lb2 g2 mb2 (k + 1) 0 (accF c 0 u v.src.toNat (vm c v.slot)).2 (fun _ => Jv.zero) V) → ∃ u B, Hid (Lo w c vb off vs lb g mb lb2 g2 mb2 (k + 1) 0 u (fun _ => Jv.zero) V) ∧ Hid (InvU c B u ∧ Came c (vn vs) (fun j => j < k + 1) B ∧ ∀ (j : Nat) (v : Vt), j < k + 1 → vs[j]? = some v → 0 ≤ v.src)) := fun V hL => by
            refine ⟨_, seenB c B v.src.toNat v.slot, hL, HI.out.1.step HK.out _ _, ((HI.out.2.1.step HK.out (vn_at hv)).congr (fun j _ => by omega)), fun j v' hj hj' => ?_⟩
            by_cases e : j = k
            · subst e; rw [hv] at hj'; cases hj'; exact hs0
            · exact HI.out.2.2 j v' (by omega) hj'
          have hk0 : (0 : Int) ≤ (k : Int) := by omega
          have hk1 : (k : Int) < (n : Int) := by omega
          have HL0 : Hid (Lo w c vb off vs lb g mb lb2 g2 mb2 k 0 u (fun _ => Jv.zero) wr.drew) := HL.out.kept ((Below.refl _ wr).drew)
          clear hs hs0 hin_v hv
          generalize (v.slot : Int) = XI at *
          generalize v.src = SI at *
          go_upto_region 14 with fail
          clear c0 cl d1 HL
          refine wp_region_L 13 (fun _ => True) (fun V => (V.cell? ⟨vb, off + k * 2, none⟩ = some (.int .i64 SI) ∧ V.cell? ⟨vb, off + k * 2 + 1, none⟩ = some (.int .u64 XI) ∧ vb < V.heap.size) ∧ (V.cell? ⟨w.heap.size, 0, none⟩ = some (.int .i64 c.f) ∧ V.cell? ⟨w.heap.size, 1, none⟩ = some (.int .i64 c.mb) ∧ V.cell? ⟨w.heap.size, 2, none⟩ = some (.int .u64 (c.delay : Nat)) ∧ V.cell? ⟨w.heap.size, 3, none⟩ = some (.int .u64 (c.win : Nat)) ∧ V.cell? ⟨w.heap.size, 4, none⟩ = some (.int .u64 (c.every : Nat)) ∧ V.cell? ⟨w.heap.size, 5, none⟩ = some (.int .u64 (c.beat : Nat)) ∧ V.cell? ⟨w.heap.size, 6, none⟩ = some (.int .u64 (c.ep : Nat)) ∧ V.cell? ⟨w.heap.size, 7, none⟩ = some (.int .u64 (c.em : Nat)) ∧ V.cell? ⟨w.heap.size, 8, none⟩ = some (.int .u64 (c.mn : Nat)) ∧ V.cell? ⟨w.heap.size, 9, none⟩ = some (.int .u64 (c.ms : Nat)) ∧ w.heap.size < V.heap.size)) (by kernel_rfl) trivial (KS.out _ HL0) (fun hS0 => ?_)
          refine wpAnyL_take (i := 0) (oi := { dst := some 72, op := Op.move (Operand.tmp 5), type := 28, pos := "law.go:321", after := #[], guard := none }) (v := .pointer (some ⟨lb, 0, none⟩)) rfl (by decide) (by kernel_rfl) (by kernel_rfl) (by kernel_rfl) (fun _ _ _ h => h) (Or.inl ⟨by rfl, fun w2 hSw => ?_⟩) hS0 (fun hS1 => ?_)
          · obtain ⟨⟨p0, p1, p2⟩, r0, r1, r2, r3, r4, r5, r6, r7, r8, r9, rl⟩ := hSw
            go_simp
          simp only [Act.put, List.setIfInBounds_toArray, List.set_cons_zero, List.set_cons_succ]
          clear hS0
          refine wpAnyL_take (i := 1) (oi := { dst := some 73, op := Op.move (Operand.tmp 1), type := 25, pos := "law.go:321", after := #[], guard := none }) (v := .slice (some ⟨vb, off, none⟩) n cap) rfl (by decide) (by kernel_rfl) (by kernel_rfl) (by kernel_rfl) (fun _ _ _ h => h) (Or.inl ⟨by rfl, fun w2 hSw => ?_⟩) hS1 (fun hS2 => ?_)
          · obtain ⟨⟨p0, p1, p2⟩, r0, r1, r2, r3, r4, r5, r6, r7, r8, r9, rl⟩ := hSw
            go_simp
          simp only [Act.put, List.setIfInBounds_toArray, List.set_cons_zero, List.set_cons_succ]
          clear hS1
          refine wpAnyL_take (i := 2) (oi := { dst := some 74, op := Op.move (Operand.tmp 9), type := 3, pos := "law.go:321", after := #[], guard := none }) (v := .int .i64 k) rfl (by decide) (by kernel_rfl) (by kernel_rfl) (by kernel_rfl) (fun _ _ _ h => h) (Or.inl ⟨by rfl, fun w2 hSw => ?_⟩) hS2 (fun hS3 => ?_)
          · obtain ⟨⟨p0, p1, p2⟩, r0, r1, r2, r3, r4, r5, r6, r7, r8, r9, rl⟩ := hSw
            go_simp
          simp only [Act.put, List.setIfInBounds_toArray, List.set_cons_zero, List.set_cons_succ]
          clear hS2
          refine wpAnyL_take (i := 3) (oi := { dst := some 75, op := Op.indexAddr 25 (Operand.tmp 73) (Operand.tmp 74), type := 0, pos := "law.go:321", after := #[{ on := 1, ground := Ground.data }, { on := 2, ground := Ground.data }], guard := none }) (v := .pointer (some ⟨vb, off + k * 2, none⟩)) rfl (by decide) (by kernel_rfl) (by kernel_rfl) (by kernel_rfl) (fun _ _ _ h => h) (Or.inl ⟨by rfl, fun w2 hSw => ?_⟩) hS3 (fun hS4 => ?_)
          · obtain ⟨⟨p0, p1, p2⟩, r0, r1, r2, r3, r4, r5, r6, r7, r8, r9, rl⟩ := hSw
            go_simp
          simp only [Act.put, List.setIfInBounds_toArray, List.set_cons_zero, List.set_cons_succ]
          clear hS3
          refine wpAnyL_take (i := 4) (oi := { dst := some 76, op := Op.fieldAddr 34 (Operand.tmp 75) 0, type := 0, pos := "law.go:321", after := #[{ on := 3, ground := Ground.data }], guard := none }) (v := .pointer (some ⟨vb, off + k * 2, none⟩)) rfl (by decide) (by kernel_rfl) (by kernel_rfl) (by kernel_rfl) (fun _ _ _ h => h) (Or.inl ⟨by rfl, fun w2 hSw => ?_⟩) hS4 (fun hS5 => ?_)
          · obtain ⟨⟨p0, p1, p2⟩, r0, r1, r2, r3, r4, r5, r6, r7, r8, r9, rl⟩ := hSw
            go_simp
          simp only [Act.put, List.setIfInBounds_toArray, List.set_cons_zero, List.set_cons_succ]
          clear hS4
          refine wpAnyL_take (i := 5) (oi := { dst := some 77, op := Op.load 3 (Operand.tmp 76), type := 3, pos := "law.go:321", after := #[{ on := 4, ground := Ground.data }], guard := none }) (v := .int .i64 SI) rfl (by decide) (by kernel_rfl) (by kernel_rfl) (by kernel_rfl) (fun _ _ _ h => h) (Or.inl ⟨by rfl, fun w2 hSw => ?_⟩) hS5 (fun hS6 => ?_)
          · obtain ⟨⟨p0, p1, p2⟩, r0, r1, r2, r3, r4, r5, r6, r7, r8, r9, rl⟩ := hSw
            go_simp
          simp only [Act.put, List.setIfInBounds_toArray, List.set_cons_zero, List.set_cons_succ]
          clear hS5
          refine wpAnyL_take (i := 6) (oi := { dst := some 78, op := Op.convert 3 36 (Operand.tmp 77), type := 36, pos := "law.go:321", after := #[{ on := 5, ground := Ground.data }], guard := none }) (v := .int .u64 SI) rfl (by decide) (by kernel_rfl) (by kernel_rfl) (by kernel_rfl) (fun _ _ _ h => h) (Or.inl ⟨by rfl, fun w2 hSw => ?_⟩) hS6 (fun hS7 => ?_)
          · obtain ⟨⟨p0, p1, p2⟩, r0, r1, r2, r3, r4, r5, r6, r7, r8, r9, rl⟩ := hSw
            go_simp
          simp only [Act.put, List.setIfInBounds_toArray, List.set_cons_zero, List.set_cons_succ]
          clear hS6
          refine wpAnyL_take (i := 7) (oi := { dst := some 79, op := Op.load 24 (Operand.tmp 2), type := 24, pos := "law.go:321", after := #[], guard := none }) (v := .agg #[.int .i64 c.f, .int .i64 c.mb, .int .u64 (c.delay : Nat), .int .u64 (c.win : Nat), .int .u64 (c.every : Nat), .int .u64 (c.beat : Nat), .int .u64 (c.ep : Nat), .int .u64 (c.em : Nat), .int .u64 (c.mn : Nat), .int .u64 (c.ms : Nat)]) rfl (by decide) (by kernel_rfl) (by kernel_rfl) (by kernel_rfl) (fun _ _ _ h => h) (Or.inl ⟨by rfl, fun w2 hSw => ?_⟩) hS7 (fun hS8 => ?_)
          · obtain ⟨⟨p0, p1, p2⟩, r0, r1, r2, r3, r4, r5, r6, r7, r8, r9, rl⟩ := hSw
            go_simp
          simp only [Act.put, List.setIfInBounds_toArray, List.set_cons_zero, List.set_cons_succ]
          clear hS7
          refine wpAnyL_take (i := 8) (oi := { dst := some 80, op := Op.move (Operand.tmp 1), type := 25, pos := "law.go:321", after := #[], guard := none }) (v := .slice (some ⟨vb, off, none⟩) n cap) rfl (by decide) (by kernel_rfl) (by kernel_rfl) (by kernel_rfl) (fun _ _ _ h => h) (Or.inl ⟨by rfl, fun w2 hSw => ?_⟩) hS8 (fun hS9 => ?_)
          · obtain ⟨⟨p0, p1, p2⟩, r0, r1, r2, r3, r4, r5, r6, r7, r8, r9, rl⟩ := hSw
            go_simp
          simp only [Act.put, List.setIfInBounds_toArray, List.set_cons_zero, List.set_cons_succ]
          clear hS8
          refine wpAnyL_take (i := 9) (oi := { dst := some 81, op := Op.move (Operand.tmp 9), type := 3, pos := "law.go:321", after := #[], guard := none }) (v := .int .i64 k) rfl (by decide) (by kernel_rfl) (by kernel_rfl) (by kernel_rfl) (fun _ _ _ h => h) (Or.inl ⟨by rfl, fun w2 hSw => ?_⟩) hS9 (fun hS10 => ?_)
          · obtain ⟨⟨p0, p1, p2⟩, r0, r1, r2, r3, r4, r5, r6, r7, r8, r9, rl⟩ := hSw
            go_simp
          simp only [Act.put, List.setIfInBounds_toArray, List.set_cons_zero, List.set_cons_succ]
          clear hS9
          refine wpAnyL_take (i := 10) (oi := { dst := some 82, op := Op.indexAddr 25 (Operand.tmp 80) (Operand.tmp 81), type := 0, pos := "law.go:321", after := #[{ on := 8, ground := Ground.data }, { on := 9, ground := Ground.data }], guard := none }) (v := .pointer (some ⟨vb, off + k * 2, none⟩)) rfl (by decide) (by kernel_rfl) (by kernel_rfl) (by kernel_rfl) (fun _ _ _ h => h) (Or.inl ⟨by rfl, fun w2 hSw => ?_⟩) hS10 (fun hS11 => ?_)
          · obtain ⟨⟨p0, p1, p2⟩, r0, r1, r2, r3, r4, r5, r6, r7, r8, r9, rl⟩ := hSw
            go_simp
          simp only [Act.put, List.setIfInBounds_toArray, List.set_cons_zero, List.set_cons_succ]
          clear hS10
          refine wpAnyL_take (i := 11) (oi := { dst := some 83, op := Op.load 34 (Operand.tmp 82), type := 34, pos := "law.go:321", after := #[{ on := 10, ground := Ground.data }], guard := none }) (v := .agg #[.int .i64 SI, .int .u64 XI]) rfl (by decide) (by kernel_rfl) (by kernel_rfl) (by kernel_rfl) (fun _ _ _ h => h) (Or.inl ⟨by rfl, fun w2 hSw => ?_⟩) hS11 (fun hS12 => ?_)
          · obtain ⟨⟨p0, p1, p2⟩, r0, r1, r2, r3, r4, r5, r6, r7, r8, r9, rl⟩ := hSw
            go_simp
          simp only [Act.put, List.setIfInBounds_toArray, List.set_cons_zero, List.set_cons_succ]
          clear hS11
          refine wpAnyL_one (i := 12) (o := { dst := some 84, op := Op.call { callee := Callee.value (Operand.func 8), args := #[Operand.tmp 79, Operand.tmp 83], argTypes := #[24, 34] }, type := 50, pos := "law.go:321", after := #[{ on := 7, ground := Ground.data }, { on := 11, ground := Ground.data }], guard := none }) (by kernel_rfl) rfl (fun K hK => ?_)
          clear hS12
          go_simp
          go_at_call 8
          refine (KV.out _).mono ?_
          rintro e V3 ⟨m, rfl, G3⟩
          have HL3 := hide (HL0.out.kept G3.out.2.2)
          have HKA := hide (KA.out V3 m HL3.out G3.out.1 G3.out.2.1)
          refine hK.out _ _ ⟨fun _ => trivial, KS.out _ HL3⟩ ?_
          clear hK K G3
          generalize m.cs.toArray = mc at *
          refine wpAnyL_one (i := 13) (o := { dst := some 85, op := Op.call { callee := Callee.value (Operand.func 7), args := #[Operand.tmp 72, Operand.tmp 78, Operand.tmp 84], argTypes := #[28, 36, 50] }, type := 4, pos := "law.go:321", after := #[{ on := 0, ground := Ground.data }, { on := 6, ground := Ground.data }, { on := 12, ground := Ground.data }, { on := 12, ground := Ground.chain }], guard := none }) (by kernel_rfl) rfl (fun K hK => ?_)
          go_simp
          go_at_call 7
          refine HKA.out.mono ?_
          rintro e V4 ⟨z, rfl, G4⟩
          refine hK.out _ _ ⟨fun _ => trivial, KS4.out _ G4⟩ ?_
          clear hK K HL3 HKA
          refine wpAnyL_done (by kernel_rfl) ?_ _
          go_wp2
          go_roundw
          case rel =>
            obtain ⟨u9, B9, e1, e2⟩ := HEND.out _ G4
            exact ⟨k + 1, by omega, by go_num, u9, B9, e1, e2⟩
          case measure => simp [intOf]; omega
      · obtain rfl : k = n := by omega
        go_wp2
        go_meet
        case rel => exact ⟨u, B, HL.out, HI.out.1, HI.out.2.1, fun v hv => by
          obtain ⟨j, hj⟩ := List.getElem?_of_mem hv
          exact HI.out.2.2 j v (by have := (List.getElem?_eq_some_iff.1 hj).1; have := HNV.out; omega) hj⟩
  case rest =>
  obtain ⟨u, B, hL, hI, hC, hpos⟩ := hcut.out
  have HI1 := hide (And.intro hI hC)
  have HPOS := hide hpos
  have HS2 := hide hL
  clear hcut hI hC hpos hL HS
  go_wp2
  go_loopw [10] (fun i wr => ∃ q : Nat, q ≤ n ∧ i = .int .i64 ((q : Int) - 1) ∧ ∃ nn u2 B2, nn ≤ 2 * (n - q) ∧ Hid (Lo w c vb off vs lb g mb lb2 g2 mb2 n nn u u2 wr) ∧ Hid (InvU c B2 u2 ∧ Came c (vn vs) (fun k => q ≤ k ∨ k < n - q) B2)) (fun i _ => (intOf i + 1).toNat)
  case atStart => exact ⟨n, by omega, rfl, 0, _, fun _ => 0, by omega, HS2.out, InvU.start c, (Came.start c (vn vs)).congr (fun k hk => by rw [vn_len] at hk; have := HNV.out; simp; omega)⟩
  case round =>
    clear HS2
    obtain ⟨q, hq, rfl, nn, u2, B2, hnn, HL, HI⟩ := hrel
    by_cases hq0 : 0 < q
    · obtain ⟨kk, rfl⟩ : ∃ kk, q = kk + 1 := ⟨q - 1, by omega⟩
      have ei : (((kk + 1 : Nat) : Int) - 1) = (kk : Int) := by omega
      rw [ei]
      clear ei
      obtain ⟨jj, hjj⟩ : ∃ jj, n - 1 - kk = jj := ⟨_, rfl⟩
      have HJ := hide hjj
      have hjn : jj < n := by omega
      have hw9 : IntKind.i64.wrap ((n : Int) - 1) = (n : Int) - 1 := IntWalk.i64_in _ ⟨by omega, by omega⟩
      have hw8 : IntKind.i64.wrap ((n : Int) - 1 - (kk : Int)) = (jj : Int) := by rw [IntWalk.i64_in _ ⟨by omega, by omega⟩]; omega
      have HW98 := hide (And.intro hw9 hw8)
      clear hjj hw9 hw8
      obtain ⟨v, hv⟩ : ∃ v, vs[kk]? = some v := ⟨_, List.getElem?_eq_getElem (by have := HNV.out; omega)⟩
      have hin_v := HL.out.vts.ok v (List.mem_of_getElem? hv)
      have hv0 : 0 < vs.length := by have := HNV.out; omega
      obtain rfl : ao = some ⟨vb, off, none⟩ := HAO.out (by omega)
      have hs0 : 0 ≤ v.src := HPOS.out v (List.mem_of_getElem? hv)
      have KV : Hid (∀ V, Calls Try.prog 8 #[.agg #[.int .i64 c.f, .int .i64 c.mb, .int .u64 (c.delay : Nat), .int .u64 (c.win : Nat), .int .u64 (c.every : Nat), .int .u64 (c.beat : Nat), .int .u64 (c.ep : Nat), .int .u64 (c.em : Nat), .int .u64 (c.mn : Nat), .int .u64 (c.ms : Nat)], .agg #[.int .i64 v.src, .int .u64 (v.slot : Nat)]] V fun e V' => ∃ m : Ms, e = .returned (.agg m.cs.toArray) ∧ Hid (m.Ok V'.heap.size V' ∧ m.mw = vm c v.slot ∧ Below V.heap.size V V')) := fun V => vote_any c v.src v.slot hin_v.n V
      have KA : Hid (∀ (V : World) (m : Ms), Lo w c vb off vs lb g mb lb2 g2 mb2 n nn u u2 V → m.Ok V.heap.size V → m.mw = vm c v.slot → Calls Try.prog 7 #[.pointer (some ⟨lb2, 0, none⟩), .int .u64 v.src, .agg m.cs.toArray] V fun e V' => ∃ z, e = .returned (.bool z) ∧ Hid (Lo w c vb off vs lb g mb lb2 g2 mb2 n (nn + 1) u (accF c 0 u2 v.src.toNat (vm c v.slot)).2 V')) := fun V m hL hm he => by
        have es : ((v.src.toNat : Nat) : Int) = v.src := Int.toNat_of_nonneg hs0
        have hcall := acceptL HK.out hL.lb (by omega) v.src.toNat m hm
        rw [es] at hcall
        refine hcall.mono ?_
        rintro e V' ⟨z, u9, rfl, G⟩
        refine ⟨z, rfl, ?_⟩
        have h9 := G.out.1
        rw [he] at h9
        rw [show (accF c 0 u2 v.src.toNat (vm c v.slot)).2 = u9 by rw [h9]]
        exact hL.stepB G.out.2.1 G.out.2.2
      have KS : Hid (∀ V, Hid (Lo w c vb off vs lb g mb lb2 g2 mb2 n nn u u2 V) → (fun V => (V.cell? ⟨vb, off + kk * 2, none⟩ = some (.int .i64 v.src) ∧ V.cell? ⟨vb, off + kk * 2 + 1, none⟩ = some (.int .u64 (v.slot : Nat)) ∧ vb < V.heap.size) ∧ (V.cell? ⟨w.heap.size, 0, none⟩ = some (.int .i64 c.f) ∧ V.cell? ⟨w.heap.size, 1, none⟩ = some (.int .i64 c.mb) ∧ V.cell? ⟨w.heap.size, 2, none⟩ = some (.int .u64 (c.delay : Nat)) ∧ V.cell? ⟨w.heap.size, 3, none⟩ = some (.int .u64 (c.win : Nat)) ∧ V.cell? ⟨w.heap.size, 4, none⟩ = some (.int .u64 (c.every : Nat)) ∧ V.cell? ⟨w.heap.size, 5, none⟩ = some (.int .u64 (c.beat : Nat)) ∧ V.cell? ⟨w.heap.size, 6, none⟩ = some (.int .u64 (c.ep : Nat)) ∧ V.cell? ⟨w.heap.size, 7, none⟩ = some (.int .u64 (c.em : Nat)) ∧ V.cell? ⟨w.heap.size, 8, none⟩ = some (.int .u64 (c.mn : Nat)) ∧ V.cell? ⟨w.heap.size, 9, none⟩ = some (.int .u64 (c.ms : Nat)) ∧ w.heap.size < V.heap.size)) V) := fun V hL => by
        obtain ⟨z0, z1, z2, z3, z4, z5, z6, z7, z8, z9⟩ := cfg_cells hL.out.cfg
        exact ⟨⟨hL.out.vts.at_ kk v hv 0 _ rfl, hL.out.vts.at_ kk v hv 1 _ rfl, Nat.lt_of_lt_of_le (hL.out.vlt hv0) hL.out.bel.size⟩, z0, z1, z2, z3, z4, z5, z6, z7, z8, z9, block_lt hL.out.cfg⟩
      have KS4 : Hid (∀ V, Hid (Lo w c vb off vs lb g mb lb2 g2 mb2 n (nn + 1) u (accF c 0 u2 v.src.toNat (vm c v.slot)).2 V) → (fun V => (V.cell? ⟨vb, off + kk * 2, none⟩ = some (.int .i64 v.src) ∧ V.cell? ⟨vb, off + kk * 2 + 1, none⟩ = some (.int .u64 (v.slot : Nat)) ∧ vb < V.heap.size) ∧ (V.cell? ⟨w.heap.size, 0, none⟩ = some (.int .i64 c.f) ∧ V.cell? ⟨w.heap.size, 1, none⟩ = some (.int .i64 c.mb) ∧ V.cell? ⟨w.heap.size, 2, none⟩ = some (.int .u64 (c.delay : Nat)) ∧ V.cell? ⟨w.heap.size, 3, none⟩ = some (.int .u64 (c.win : Nat)) ∧ V.cell? ⟨w.heap.size, 4, none⟩ = some (.int .u64 (c.every : Nat)) ∧ V.cell? ⟨w.heap.size, 5, none⟩ = some (.int .u64 (c.beat : Nat)) ∧ V.cell? ⟨w.heap.size, 6, none⟩ = some (.int .u64 (c.ep : Nat)) ∧ V.cell? ⟨w.heap.size, 7, none⟩ = some (.int .u64 (c.em : Nat)) ∧ V.cell? ⟨w.heap.size, 8, none⟩ = some (.int .u64 (c.mn : Nat)) ∧ V.cell? ⟨w.heap.size, 9, none⟩ = some (.int .u64 (c.ms : Nat)) ∧ w.heap.size < V.heap.size)) V) := fun V hL => by
        obtain ⟨z0, z1, z2, z3, z4, z5, z6, z7, z8, z9⟩ := cfg_cells hL.out.cfg
        exact ⟨⟨hL.out.vts.at_ kk v hv 0 _ rfl, hL.out.vts.at_ kk v hv 1 _ rfl, Nat.lt_of_lt_of_le (hL.out.vlt hv0) hL.out.bel.size⟩, z0, z1, z2, z3, z4, z5, z6, z7, z8, z9, block_lt hL.out.cfg⟩
      have hwS : IntKind.u64.wrap v.src = v.src := IntWalk.u64_in _ ⟨hs0, by have := hin_v.b2; omega⟩
      have HIA : Hid (InvU c (seenB c B2 v.src.toNat v.slot) (accF c 0 u2 v.src.toNat (vm c v.slot)).2 ∧ Came c (vn vs) (fun k => (kk + 1 ≤ k ∨ k < n - (kk + 1)) ∨ k = kk) (seenB c B2 v.src.toNat v.slot)) := by
        have a1 := HI.out.1.step HK.out v.src.toNat v.slot
        have a2 := HI.out.2.step HK.out (vn_at hv)
        dsimp only at a2
        exact hide (And.intro a1 a2)
      have hk0 : (0 : Int) ≤ (kk : Int) := by omega
      have hk1 : (kk : Int) < (n : Int) := by omega
      have dq : decide ((kk : Int) ≥ 0) = true := decide_eq_true hk0
      have HL0 : Hid (Lo w c vb off vs lb g mb lb2 g2 mb2 n nn u u2 wr.drew) := HL.out.kept ((Below.refl _ wr).drew)
      generalize seenB c B2 v.src.toNat v.slot = B3 at *
      generalize (accF c 0 u2 v.src.toNat (vm c v.slot)).2 = u3 at *
      clear hs0 hin_v hv HI
      generalize (v.slot : Int) = XI at *
      generalize v.src = SI at *
      go_upto_region 18 with fail
      clear HL dq
      refine wp_region_L 13 (fun _ => True) (fun V => (V.cell? ⟨vb, off + kk * 2, none⟩ = some (.int .i64 SI) ∧ V.cell? ⟨vb, off + kk * 2 + 1, none⟩ = some (.int .u64 XI) ∧ vb < V.heap.size) ∧ (V.cell? ⟨w.heap.size, 0, none⟩ = some (.int .i64 c.f) ∧ V.cell? ⟨w.heap.size, 1, none⟩ = some (.int .i64 c.mb) ∧ V.cell? ⟨w.heap.size, 2, none⟩ = some (.int .u64 (c.delay : Nat)) ∧ V.cell? ⟨w.heap.size, 3, none⟩ = some (.int .u64 (c.win : Nat)) ∧ V.cell? ⟨w.heap.size, 4, none⟩ = some (.int .u64 (c.every : Nat)) ∧ V.cell? ⟨w.heap.size, 5, none⟩ = some (.int .u64 (c.beat : Nat)) ∧ V.cell? ⟨w.heap.size, 6, none⟩ = some (.int .u64 (c.ep : Nat)) ∧ V.cell? ⟨w.heap.size, 7, none⟩ = some (.int .u64 (c.em : Nat)) ∧ V.cell? ⟨w.heap.size, 8, none⟩ = some (.int .u64 (c.mn : Nat)) ∧ V.cell? ⟨w.heap.size, 9, none⟩ = some (.int .u64 (c.ms : Nat)) ∧ w.heap.size < V.heap.size)) (by kernel_rfl) trivial (KS.out _ HL0) (fun hS0 => ?_)
      refine wpAnyL_take (i := 0) (oi := { dst := some 93, op := Op.move (Operand.tmp 7), type := 28, pos := "law.go:324", after := #[], guard := none }) (v := .pointer (some ⟨lb2, 0, none⟩)) rfl (by decide) (by kernel_rfl) (by kernel_rfl) (by kernel_rfl) (fun _ _ _ h => h) (Or.inl ⟨by rfl, fun w2 hSw => ?_⟩) hS0 (fun hS1 => ?_)
      · obtain ⟨⟨p0, p1, p2⟩, r0, r1, r2, r3, r4, r5, r6, r7, r8, r9, rl⟩ := hSw
        go_simp
      simp only [Act.put, List.setIfInBounds_toArray, List.set_cons_zero, List.set_cons_succ]
      clear hS0
      refine wpAnyL_take (i := 1) (oi := { dst := some 94, op := Op.move (Operand.tmp 1), type := 25, pos := "law.go:324", after := #[], guard := none }) (v := .slice (some ⟨vb, off, none⟩) n cap) rfl (by decide) (by kernel_rfl) (by kernel_rfl) (by kernel_rfl) (fun _ _ _ h => h) (Or.inl ⟨by rfl, fun w2 hSw => ?_⟩) hS1 (fun hS2 => ?_)
      · obtain ⟨⟨p0, p1, p2⟩, r0, r1, r2, r3, r4, r5, r6, r7, r8, r9, rl⟩ := hSw
        go_simp
      simp only [Act.put, List.setIfInBounds_toArray, List.set_cons_zero, List.set_cons_succ]
      clear hS1
      refine wpAnyL_take (i := 2) (oi := { dst := some 95, op := Op.move (Operand.tmp 10), type := 3, pos := "law.go:324", after := #[], guard := none }) (v := .int .i64 kk) rfl (by decide) (by kernel_rfl) (by kernel_rfl) (by kernel_rfl) (fun _ _ _ h => h) (Or.inl ⟨by rfl, fun w2 hSw => ?_⟩) hS2 (fun hS3 => ?_)
      · obtain ⟨⟨p0, p1, p2⟩, r0, r1, r2, r3, r4, r5, r6, r7, r8, r9, rl⟩ := hSw
        go_simp
      simp only [Act.put, List.setIfInBounds_toArray, List.set_cons_zero, List.set_cons_succ]
      clear hS2
      refine wpAnyL_take (i := 3) (oi := { dst := some 96, op := Op.indexAddr 25 (Operand.tmp 94) (Operand.tmp 95), type := 0, pos := "law.go:324", after := #[{ on := 1, ground := Ground.data }, { on := 2, ground := Ground.data }], guard := none }) (v := .pointer (some ⟨vb, off + kk * 2, none⟩)) rfl (by decide) (by kernel_rfl) (by kernel_rfl) (by kernel_rfl) (fun _ _ _ h => h) (Or.inl ⟨by rfl, fun w2 hSw => ?_⟩) hS3 (fun hS4 => ?_)
      · obtain ⟨⟨p0, p1, p2⟩, r0, r1, r2, r3, r4, r5, r6, r7, r8, r9, rl⟩ := hSw
        go_simp
      simp only [Act.put, List.setIfInBounds_toArray, List.set_cons_zero, List.set_cons_succ]
      clear hS3
      refine wpAnyL_take (i := 4) (oi := { dst := some 97, op := Op.fieldAddr 34 (Operand.tmp 96) 0, type := 0, pos := "law.go:324", after := #[{ on := 3, ground := Ground.data }], guard := none }) (v := .pointer (some ⟨vb, off + kk * 2, none⟩)) rfl (by decide) (by kernel_rfl) (by kernel_rfl) (by kernel_rfl) (fun _ _ _ h => h) (Or.inl ⟨by rfl, fun w2 hSw => ?_⟩) hS4 (fun hS5 => ?_)
      · obtain ⟨⟨p0, p1, p2⟩, r0, r1, r2, r3, r4, r5, r6, r7, r8, r9, rl⟩ := hSw
        go_simp
      simp only [Act.put, List.setIfInBounds_toArray, List.set_cons_zero, List.set_cons_succ]
      clear hS4
      refine wpAnyL_take (i := 5) (oi := { dst := some 98, op := Op.load 3 (Operand.tmp 97), type := 3, pos := "law.go:324", after := #[{ on := 4, ground := Ground.data }], guard := none }) (v := .int .i64 SI) rfl (by decide) (by kernel_rfl) (by kernel_rfl) (by kernel_rfl) (fun _ _ _ h => h) (Or.inl ⟨by rfl, fun w2 hSw => ?_⟩) hS5 (fun hS6 => ?_)
      · obtain ⟨⟨p0, p1, p2⟩, r0, r1, r2, r3, r4, r5, r6, r7, r8, r9, rl⟩ := hSw
        go_simp
      simp only [Act.put, List.setIfInBounds_toArray, List.set_cons_zero, List.set_cons_succ]
      clear hS5
      refine wpAnyL_take (i := 6) (oi := { dst := some 99, op := Op.convert 3 36 (Operand.tmp 98), type := 36, pos := "law.go:324", after := #[{ on := 5, ground := Ground.data }], guard := none }) (v := .int .u64 SI) rfl (by decide) (by kernel_rfl) (by kernel_rfl) (by kernel_rfl) (fun _ _ _ h => h) (Or.inl ⟨by rfl, fun w2 hSw => ?_⟩) hS6 (fun hS7 => ?_)
      · obtain ⟨⟨p0, p1, p2⟩, r0, r1, r2, r3, r4, r5, r6, r7, r8, r9, rl⟩ := hSw
        go_simp
      simp only [Act.put, List.setIfInBounds_toArray, List.set_cons_zero, List.set_cons_succ]
      clear hS6
      refine wpAnyL_take (i := 7) (oi := { dst := some 100, op := Op.load 24 (Operand.tmp 2), type := 24, pos := "law.go:324", after := #[], guard := none }) (v := .agg #[.int .i64 c.f, .int .i64 c.mb, .int .u64 (c.delay : Nat), .int .u64 (c.win : Nat), .int .u64 (c.every : Nat), .int .u64 (c.beat : Nat), .int .u64 (c.ep : Nat), .int .u64 (c.em : Nat), .int .u64 (c.mn : Nat), .int .u64 (c.ms : Nat)]) rfl (by decide) (by kernel_rfl) (by kernel_rfl) (by kernel_rfl) (fun _ _ _ h => h) (Or.inl ⟨by rfl, fun w2 hSw => ?_⟩) hS7 (fun hS8 => ?_)
      · obtain ⟨⟨p0, p1, p2⟩, r0, r1, r2, r3, r4, r5, r6, r7, r8, r9, rl⟩ := hSw
        go_simp
      simp only [Act.put, List.setIfInBounds_toArray, List.set_cons_zero, List.set_cons_succ]
      clear hS7
      refine wpAnyL_take (i := 8) (oi := { dst := some 101, op := Op.move (Operand.tmp 1), type := 25, pos := "law.go:324", after := #[], guard := none }) (v := .slice (some ⟨vb, off, none⟩) n cap) rfl (by decide) (by kernel_rfl) (by kernel_rfl) (by kernel_rfl) (fun _ _ _ h => h) (Or.inl ⟨by rfl, fun w2 hSw => ?_⟩) hS8 (fun hS9 => ?_)
      · obtain ⟨⟨p0, p1, p2⟩, r0, r1, r2, r3, r4, r5, r6, r7, r8, r9, rl⟩ := hSw
        go_simp
      simp only [Act.put, List.setIfInBounds_toArray, List.set_cons_zero, List.set_cons_succ]
      clear hS8
      refine wpAnyL_take (i := 9) (oi := { dst := some 102, op := Op.move (Operand.tmp 10), type := 3, pos := "law.go:324", after := #[], guard := none }) (v := .int .i64 kk) rfl (by decide) (by kernel_rfl) (by kernel_rfl) (by kernel_rfl) (fun _ _ _ h => h) (Or.inl ⟨by rfl, fun w2 hSw => ?_⟩) hS9 (fun hS10 => ?_)
      · obtain ⟨⟨p0, p1, p2⟩, r0, r1, r2, r3, r4, r5, r6, r7, r8, r9, rl⟩ := hSw
        go_simp
      simp only [Act.put, List.setIfInBounds_toArray, List.set_cons_zero, List.set_cons_succ]
      clear hS9
      refine wpAnyL_take (i := 10) (oi := { dst := some 103, op := Op.indexAddr 25 (Operand.tmp 101) (Operand.tmp 102), type := 0, pos := "law.go:324", after := #[{ on := 8, ground := Ground.data }, { on := 9, ground := Ground.data }], guard := none }) (v := .pointer (some ⟨vb, off + kk * 2, none⟩)) rfl (by decide) (by kernel_rfl) (by kernel_rfl) (by kernel_rfl) (fun _ _ _ h => h) (Or.inl ⟨by rfl, fun w2 hSw => ?_⟩) hS10 (fun hS11 => ?_)
      · obtain ⟨⟨p0, p1, p2⟩, r0, r1, r2, r3, r4, r5, r6, r7, r8, r9, rl⟩ := hSw
        go_simp
      simp only [Act.put, List.setIfInBounds_toArray, List.set_cons_zero, List.set_cons_succ]
      clear hS10
      refine wpAnyL_take (i := 11) (oi := { dst := some 104, op := Op.load 34 (Operand.tmp 103), type := 34, pos := "law.go:324", after := #[{ on := 10, ground := Ground.data }], guard := none }) (v := .agg #[.int .i64 SI, .int .u64 XI]) rfl (by decide) (by kernel_rfl) (by kernel_rfl) (by kernel_rfl) (fun _ _ _ h => h) (Or.inl ⟨by rfl, fun w2 hSw => ?_⟩) hS11 (fun hS12 => ?_)
      · obtain ⟨⟨p0, p1, p2⟩, r0, r1, r2, r3, r4, r5, r6, r7, r8, r9, rl⟩ := hSw
        go_simp
      simp only [Act.put, List.setIfInBounds_toArray, List.set_cons_zero, List.set_cons_succ]
      clear hS11
      refine wpAnyL_one (i := 12) (o := { dst := some 105, op := Op.call { callee := Callee.value (Operand.func 8), args := #[Operand.tmp 100, Operand.tmp 104], argTypes := #[24, 34] }, type := 50, pos := "law.go:324", after := #[{ on := 7, ground := Ground.data }, { on := 11, ground := Ground.data }], guard := none }) (by kernel_rfl) rfl (fun K hK => ?_)
      clear hS12
      go_simp
      go_at_call 8
      refine (KV.out _).mono ?_
      rintro e V3 ⟨m, rfl, G3⟩
      have HL3 := hide (HL0.out.kept G3.out.2.2)
      have HKA := hide (KA.out V3 m HL3.out G3.out.1 G3.out.2.1)
      refine hK.out _ _ ⟨fun _ => trivial, KS.out _ HL3⟩ ?_
      clear hK K G3
      generalize m.cs.toArray = mc at *
      refine wpAnyL_one (i := 13) (o := { dst := some 106, op := Op.call { callee := Callee.value (Operand.func 7), args := #[Operand.tmp 93, Operand.tmp 99, Operand.tmp 105], argTypes := #[28, 36, 50] }, type := 4, pos := "law.go:324", after := #[{ on := 0, ground := Ground.data }, { on := 6, ground := Ground.data }, { on := 12, ground := Ground.data }, { on := 12, ground := Ground.chain }], guard := none }) (by kernel_rfl) rfl (fun K hK => ?_)
      go_simp
      go_at_call 7
      refine HKA.out.mono ?_
      rintro e V4 ⟨z, rfl, G4⟩
      refine hK.out _ _ ⟨fun _ => trivial, KS4.out _ G4⟩ ?_
      clear hK K HL3 HKA
      refine wpAnyL_done (by kernel_rfl) ?_ _
      clear KV KA KS KS4 HL0 hwS hk0 hk1
      obtain ⟨v, hv⟩ : ∃ v, vs[jj]? = some v := ⟨_, List.getElem?_eq_getElem (by have := HNV.out; omega)⟩
      have hin_v := G4.out.vts.ok v (List.mem_of_getElem? hv)
      have hs0 : 0 ≤ v.src := HPOS.out v (List.mem_of_getElem? hv)
      have KV : Hid (∀ V, Calls Try.prog 8 #[.agg #[.int .i64 c.f, .int .i64 c.mb, .int .u64 (c.delay : Nat), .int .u64 (c.win : Nat), .int .u64 (c.every : Nat), .int .u64 (c.beat : Nat), .int .u64 (c.ep : Nat), .int .u64 (c.em : Nat), .int .u64 (c.mn : Nat), .int .u64 (c.ms : Nat)], .agg #[.int .i64 v.src, .int .u64 (v.slot : Nat)]] V fun e V' => ∃ m : Ms, e = .returned (.agg m.cs.toArray) ∧ Hid (m.Ok V'.heap.size V' ∧ m.mw = vm c v.slot ∧ Below V.heap.size V V')) := fun V => vote_any c v.src v.slot hin_v.n V
      have KA : Hid (∀ (V : World) (m : Ms), Lo w c vb off vs lb g mb lb2 g2 mb2 n (nn + 1) u u3 V → m.Ok V.heap.size V → m.mw = vm c v.slot → Calls Try.prog 7 #[.pointer (some ⟨lb2, 0, none⟩), .int .u64 v.src, .agg m.cs.toArray] V fun e V' => ∃ z, e = .returned (.bool z) ∧ Hid (Lo w c vb off vs lb g mb lb2 g2 mb2 n ((nn + 1) + 1) u (accF c 0 u3 v.src.toNat (vm c v.slot)).2 V')) := fun V m hL hm he => by
        have es : ((v.src.toNat : Nat) : Int) = v.src := Int.toNat_of_nonneg hs0
        have hcall := acceptL HK.out hL.lb (by omega) v.src.toNat m hm
        rw [es] at hcall
        refine hcall.mono ?_
        rintro e V' ⟨z, u9, rfl, G⟩
        refine ⟨z, rfl, ?_⟩
        have h9 := G.out.1
        rw [he] at h9
        rw [show (accF c 0 u3 v.src.toNat (vm c v.slot)).2 = u9 by rw [h9]]
        exact hL.stepB G.out.2.1 G.out.2.2
      have KS : Hid (∀ V, Hid (Lo w c vb off vs lb g mb lb2 g2 mb2 n (nn + 1) u u3 V) → (fun V => (V.cell? ⟨vb, off + jj * 2, none⟩ = some (.int .i64 v.src) ∧ V.cell? ⟨vb, off + jj * 2 + 1, none⟩ = some (.int .u64 (v.slot : Nat)) ∧ vb < V.heap.size) ∧ (V.cell? ⟨w.heap.size, 0, none⟩ = some (.int .i64 c.f) ∧ V.cell? ⟨w.heap.size, 1, none⟩ = some (.int .i64 c.mb) ∧ V.cell? ⟨w.heap.size, 2, none⟩ = some (.int .u64 (c.delay : Nat)) ∧ V.cell? ⟨w.heap.size, 3, none⟩ = some (.int .u64 (c.win : Nat)) ∧ V.cell? ⟨w.heap.size, 4, none⟩ = some (.int .u64 (c.every : Nat)) ∧ V.cell? ⟨w.heap.size, 5, none⟩ = some (.int .u64 (c.beat : Nat)) ∧ V.cell? ⟨w.heap.size, 6, none⟩ = some (.int .u64 (c.ep : Nat)) ∧ V.cell? ⟨w.heap.size, 7, none⟩ = some (.int .u64 (c.em : Nat)) ∧ V.cell? ⟨w.heap.size, 8, none⟩ = some (.int .u64 (c.mn : Nat)) ∧ V.cell? ⟨w.heap.size, 9, none⟩ = some (.int .u64 (c.ms : Nat)) ∧ w.heap.size < V.heap.size)) V) := fun V hL => by
        obtain ⟨z0, z1, z2, z3, z4, z5, z6, z7, z8, z9⟩ := cfg_cells hL.out.cfg
        exact ⟨⟨hL.out.vts.at_ jj v hv 0 _ rfl, hL.out.vts.at_ jj v hv 1 _ rfl, Nat.lt_of_lt_of_le (hL.out.vlt hv0) hL.out.bel.size⟩, z0, z1, z2, z3, z4, z5, z6, z7, z8, z9, block_lt hL.out.cfg⟩
      have KS4 : Hid (∀ V, Hid (Lo w c vb off vs lb g mb lb2 g2 mb2 n ((nn + 1) + 1) u (accF c 0 u3 v.src.toNat (vm c v.slot)).2 V) → (fun V => (V.cell? ⟨vb, off + jj * 2, none⟩ = some (.int .i64 v.src) ∧ V.cell? ⟨vb, off + jj * 2 + 1, none⟩ = some (.int .u64 (v.slot : Nat)) ∧ vb < V.heap.size) ∧ (V.cell? ⟨w.heap.size, 0, none⟩ = some (.int .i64 c.f) ∧ V.cell? ⟨w.heap.size, 1, none⟩ = some (.int .i64 c.mb) ∧ V.cell? ⟨w.heap.size, 2, none⟩ = some (.int .u64 (c.delay : Nat)) ∧ V.cell? ⟨w.heap.size, 3, none⟩ = some (.int .u64 (c.win : Nat)) ∧ V.cell? ⟨w.heap.size, 4, none⟩ = some (.int .u64 (c.every : Nat)) ∧ V.cell? ⟨w.heap.size, 5, none⟩ = some (.int .u64 (c.beat : Nat)) ∧ V.cell? ⟨w.heap.size, 6, none⟩ = some (.int .u64 (c.ep : Nat)) ∧ V.cell? ⟨w.heap.size, 7, none⟩ = some (.int .u64 (c.em : Nat)) ∧ V.cell? ⟨w.heap.size, 8, none⟩ = some (.int .u64 (c.mn : Nat)) ∧ V.cell? ⟨w.heap.size, 9, none⟩ = some (.int .u64 (c.ms : Nat)) ∧ w.heap.size < V.heap.size)) V) := fun V hL => by
        obtain ⟨z0, z1, z2, z3, z4, z5, z6, z7, z8, z9⟩ := cfg_cells hL.out.cfg
        exact ⟨⟨hL.out.vts.at_ jj v hv 0 _ rfl, hL.out.vts.at_ jj v hv 1 _ rfl, Nat.lt_of_lt_of_le (hL.out.vlt hv0) hL.out.bel.size⟩, z0, z1, z2, z3, z4, z5, z6, z7, z8, z9, block_lt hL.out.cfg⟩
      have hwS : IntKind.u64.wrap v.src = v.src := IntWalk.u64_in _ ⟨hs0, by have := hin_v.b2; omega⟩
      have HIB : Hid (InvU c (seenB c B3 v.src.toNat v.slot) (accF c 0 u3 v.src.toNat (vm c v.slot)).2 ∧ Came c (vn vs) (fun k => kk ≤ k ∨ k < n - kk) (seenB c B3 v.src.toNat v.slot)) := by
        have a1 := HIA.out.1.step HK.out v.src.toNat v.slot
        have a2 := HIA.out.2.step HK.out (vn_at hv)
        dsimp only at a2
        have a3 := a2.congr (Q := fun k => kk ≤ k ∨ k < n - kk) (fun k hk => by have := HJ.out; omega)
        exact hide (And.intro a1 a3)
      have hk0 : (0 : Int) ≤ (jj : Int) := by omega
      have hk1 : (jj : Int) < (n : Int) := by omega
      have HL0 : Hid (Lo w c vb off vs lb g mb lb2 g2 mb2 n (nn + 1) u u3 V4.drew) := G4.out.kept ((Below.refl _ V4).drew)
      generalize seenB c B3 v.src.toNat v.slot = B4 at *
      generalize (accF c 0 u3 v.src.toNat (vm c v.slot)).2 = u4 at *
      clear hs0 hin_v hv HIA
      generalize (v.slot : Int) = XI at *
      generalize v.src = SI at *
      go_upto_region 19 with fail
      obtain ⟨hw9, hw8⟩ := HW98.out
      clear G4
      refine wp_region_L 21 (fun _ => True) (fun V => (V.cell? ⟨vb, off + jj * 2, none⟩ = some (.int .i64 SI) ∧ V.cell? ⟨vb, off + jj * 2 + 1, none⟩ = some (.int .u64 XI) ∧ vb < V.heap.size) ∧ (V.cell? ⟨w.heap.size, 0, none⟩ = some (.int .i64 c.f) ∧ V.cell? ⟨w.heap.size, 1, none⟩ = some (.int .i64 c.mb) ∧ V.cell? ⟨w.heap.size, 2, none⟩ = some (.int .u64 (c.delay : Nat)) ∧ V.cell? ⟨w.heap.size, 3, none⟩ = some (.int .u64 (c.win : Nat)) ∧ V.cell? ⟨w.heap.size, 4, none⟩ = some (.int .u64 (c.every : Nat)) ∧ V.cell? ⟨w.heap.size, 5, none⟩ = some (.int .u64 (c.beat : Nat)) ∧ V.cell? ⟨w.heap.size, 6, none⟩ = some (.int .u64 (c.ep : Nat)) ∧ V.cell? ⟨w.heap.size, 7, none⟩ = some (.int .u64 (c.em : Nat)) ∧ V.cell? ⟨w.heap.size, 8, none⟩ = some (.int .u64 (c.mn : Nat)) ∧ V.cell? ⟨w.heap.size, 9, none⟩ = some (.int .u64 (c.ms : Nat)) ∧ w.heap.size < V.heap.size)) (by kernel_rfl) trivial (KS.out _ HL0) (fun hS0 => ?_)
      refine wpAnyL_take (i := 0) (oi := { dst := some 107, op := Op.move (Operand.tmp 7), type := 28, pos := "law.go:325", after := #[], guard := none }) (v := .pointer (some ⟨lb2, 0, none⟩)) rfl (by decide) (by kernel_rfl) (by kernel_rfl) (by kernel_rfl) (fun _ _ _ h => h) (Or.inl ⟨by rfl, fun w2 hSw => ?_⟩) hS0 (fun hS1 => ?_)
      · obtain ⟨⟨p0, p1, p2⟩, r0, r1, r2, r3, r4, r5, r6, r7, r8, r9, rl⟩ := hSw
        go_simp
      simp only [Act.put, List.setIfInBounds_toArray, List.set_cons_zero, List.set_cons_succ]
      clear hS0
      refine wpAnyL_take (i := 1) (oi := { dst := some 108, op := Op.move (Operand.tmp 1), type := 25, pos := "law.go:325", after := #[], guard := none }) (v := .slice (some ⟨vb, off, none⟩) n cap) rfl (by decide) (by kernel_rfl) (by kernel_rfl) (by kernel_rfl) (fun _ _ _ h => h) (Or.inl ⟨by rfl, fun w2 hSw => ?_⟩) hS1 (fun hS2 => ?_)
      · obtain ⟨⟨p0, p1, p2⟩, r0, r1, r2, r3, r4, r5, r6, r7, r8, r9, rl⟩ := hSw
        go_simp
      simp only [Act.put, List.setIfInBounds_toArray, List.set_cons_zero, List.set_cons_succ]
      clear hS1
      refine wpAnyL_take (i := 2) (oi := { dst := some 109, op := Op.move (Operand.tmp 1), type := 25, pos := "law.go:325", after := #[], guard := none }) (v := .slice (some ⟨vb, off, none⟩) n cap) rfl (by decide) (by kernel_rfl) (by kernel_rfl) (by kernel_rfl) (fun _ _ _ h => h) (Or.inl ⟨by rfl, fun w2 hSw => ?_⟩) hS2 (fun hS3 => ?_)
      · obtain ⟨⟨p0, p1, p2⟩, r0, r1, r2, r3, r4, r5, r6, r7, r8, r9, rl⟩ := hSw
        go_simp
      simp only [Act.put, List.setIfInBounds_toArray, List.set_cons_zero, List.set_cons_succ]
      clear hS2
      refine wpAnyL_take (i := 3) (oi := { dst := some 110, op := Op.call { callee := Callee.builtin Builtin.len, args := #[Operand.tmp 109], argTypes := #[25] }, type := 3, pos := "law.go:325", after := #[{ on := 2, ground := Ground.data }], guard := none }) (v := .int .i64 n) rfl (by decide) (by kernel_rfl) (by kernel_rfl) (by kernel_rfl) (fun _ _ _ h => h) (Or.inl ⟨by rfl, fun w2 hSw => ?_⟩) hS3 (fun hS4 => ?_)
      · obtain ⟨⟨p0, p1, p2⟩, r0, r1, r2, r3, r4, r5, r6, r7, r8, r9, rl⟩ := hSw
        go_simp
      simp only [Act.put, List.setIfInBounds_toArray, List.set_cons_zero, List.set_cons_succ]
      clear hS3
      refine wpAnyL_take (i := 4) (oi := { dst := some 111, op := Op.binOp BinOp.sub 3 (Operand.tmp 110) (Operand.const (Value.int IntKind.i64 1)) 3, type := 3, pos := "law.go:325", after := #[{ on := 3, ground := Ground.data }], guard := none }) (v := .int .i64 ((n : Int) - 1)) rfl (by decide) (by kernel_rfl) (by kernel_rfl) (by kernel_rfl) (fun _ _ _ h => h) (Or.inl ⟨by rfl, fun w2 hSw => ?_⟩) hS4 (fun hS5 => ?_)
      · obtain ⟨⟨p0, p1, p2⟩, r0, r1, r2, r3, r4, r5, r6, r7, r8, r9, rl⟩ := hSw
        go_simp
      simp only [Act.put, List.setIfInBounds_toArray, List.set_cons_zero, List.set_cons_succ]
      clear hS4
      refine wpAnyL_take (i := 5) (oi := { dst := some 112, op := Op.move (Operand.tmp 10), type := 3, pos := "law.go:325", after := #[], guard := none }) (v := .int .i64 kk) rfl (by decide) (by kernel_rfl) (by kernel_rfl) (by kernel_rfl) (fun _ _ _ h => h) (Or.inl ⟨by rfl, fun w2 hSw => ?_⟩) hS5 (fun hS6 => ?_)
      · obtain ⟨⟨p0, p1, p2⟩, r0, r1, r2, r3, r4, r5, r6, r7, r8, r9, rl⟩ := hSw
        go_simp
      simp only [Act.put, List.setIfInBounds_toArray, List.set_cons_zero, List.set_cons_succ]
      clear hS5
      refine wpAnyL_take (i := 6) (oi := { dst := some 113, op := Op.binOp BinOp.sub 3 (Operand.tmp 111) (Operand.tmp 112) 3, type := 3, pos := "law.go:325", after := #[{ on := 4, ground := Ground.data }, { on := 5, ground := Ground.data }], guard := none }) (v := .int .i64 jj) rfl (by decide) (by kernel_rfl) (by kernel_rfl) (by kernel_rfl) (fun _ _ _ h => h) (Or.inl ⟨by rfl, fun w2 hSw => ?_⟩) hS6 (fun hS7 => ?_)
      · obtain ⟨⟨p0, p1, p2⟩, r0, r1, r2, r3, r4, r5, r6, r7, r8, r9, rl⟩ := hSw
        go_simp
      simp only [Act.put, List.setIfInBounds_toArray, List.set_cons_zero, List.set_cons_succ]
      clear hS6
      refine wpAnyL_take (i := 7) (oi := { dst := some 114, op := Op.indexAddr 25 (Operand.tmp 108) (Operand.tmp 113), type := 0, pos := "law.go:325", after := #[{ on := 1, ground := Ground.data }, { on := 6, ground := Ground.data }], guard := none }) (v := .pointer (some ⟨vb, off + jj * 2, none⟩)) rfl (by decide) (by kernel_rfl) (by kernel_rfl) (by kernel_rfl) (fun _ _ _ h => h) (Or.inl ⟨by rfl, fun w2 hSw => ?_⟩) hS7 (fun hS8 => ?_)
      · obtain ⟨⟨p0, p1, p2⟩, r0, r1, r2, r3, r4, r5, r6, r7, r8, r9, rl⟩ := hSw
        go_simp
      simp only [Act.put, List.setIfInBounds_toArray, List.set_cons_zero, List.set_cons_succ]
      clear hS7
      refine wpAnyL_take (i := 8) (oi := { dst := some 115, op := Op.fieldAddr 34 (Operand.tmp 114) 0, type := 0, pos := "law.go:325", after := #[{ on := 7, ground := Ground.data }], guard := none }) (v := .pointer (some ⟨vb, off + jj * 2, none⟩)) rfl (by decide) (by kernel_rfl) (by kernel_rfl) (by kernel_rfl) (fun _ _ _ h => h) (Or.inl ⟨by rfl, fun w2 hSw => ?_⟩) hS8 (fun hS9 => ?_)
      · obtain ⟨⟨p0, p1, p2⟩, r0, r1, r2, r3, r4, r5, r6, r7, r8, r9, rl⟩ := hSw
        go_simp
      simp only [Act.put, List.setIfInBounds_toArray, List.set_cons_zero, List.set_cons_succ]
      clear hS8
      refine wpAnyL_take (i := 9) (oi := { dst := some 116, op := Op.load 3 (Operand.tmp 115), type := 3, pos := "law.go:325", after := #[{ on := 8, ground := Ground.data }], guard := none }) (v := .int .i64 SI) rfl (by decide) (by kernel_rfl) (by kernel_rfl) (by kernel_rfl) (fun _ _ _ h => h) (Or.inl ⟨by rfl, fun w2 hSw => ?_⟩) hS9 (fun hS10 => ?_)
      · obtain ⟨⟨p0, p1, p2⟩, r0, r1, r2, r3, r4, r5, r6, r7, r8, r9, rl⟩ := hSw
        go_simp
      simp only [Act.put, List.setIfInBounds_toArray, List.set_cons_zero, List.set_cons_succ]
      clear hS9
      refine wpAnyL_take (i := 10) (oi := { dst := some 117, op := Op.convert 3 36 (Operand.tmp 116), type := 36, pos := "law.go:325", after := #[{ on := 9, ground := Ground.data }], guard := none }) (v := .int .u64 SI) rfl (by decide) (by kernel_rfl) (by kernel_rfl) (by kernel_rfl) (fun _ _ _ h => h) (Or.inl ⟨by rfl, fun w2 hSw => ?_⟩) hS10 (fun hS11 => ?_)
      · obtain ⟨⟨p0, p1, p2⟩, r0, r1, r2, r3, r4, r5, r6, r7, r8, r9, rl⟩ := hSw
        go_simp
      simp only [Act.put, List.setIfInBounds_toArray, List.set_cons_zero, List.set_cons_succ]
      clear hS10
      refine wpAnyL_take (i := 11) (oi := { dst := some 118, op := Op.load 24 (Operand.tmp 2), type := 24, pos := "law.go:325", after := #[], guard := none }) (v := .agg #[.int .i64 c.f, .int .i64 c.mb, .int .u64 (c.delay : Nat), .int .u64 (c.win : Nat), .int .u64 (c.every : Nat), .int .u64 (c.beat : Nat), .int .u64 (c.ep : Nat), .int .u64 (c.em : Nat), .int .u64 (c.mn : Nat), .int .u64 (c.ms : Nat)]) rfl (by decide) (by kernel_rfl) (by kernel_rfl) (by kernel_rfl) (fun _ _ _ h => h) (Or.inl ⟨by rfl, fun w2 hSw => ?_⟩) hS11 (fun hS12 => ?_)
      · obtain ⟨⟨p0, p1, p2⟩, r0, r1, r2, r3, r4, r5, r6, r7, r8, r9, rl⟩ := hSw
        go_simp
      simp only [Act.put, List.setIfInBounds_toArray, List.set_cons_zero, List.set_cons_succ]
      clear hS11
      refine wpAnyL_take (i := 12) (oi := { dst := some 119, op := Op.move (Operand.tmp 1), type := 25, pos := "law.go:325", after := #[], guard := none }) (v := .slice (some ⟨vb, off, none⟩) n cap) rfl (by decide) (by kernel_rfl) (by kernel_rfl) (by kernel_rfl) (fun _ _ _ h => h) (Or.inl ⟨by rfl, fun w2 hSw => ?_⟩) hS12 (fun hS13 => ?_)
      · obtain ⟨⟨p0, p1, p2⟩, r0, r1, r2, r3, r4, r5, r6, r7, r8, r9, rl⟩ := hSw
        go_simp
      simp only [Act.put, List.setIfInBounds_toArray, List.set_cons_zero, List.set_cons_succ]
      clear hS12
      refine wpAnyL_take (i := 13) (oi := { dst := some 120, op := Op.move (Operand.tmp 1), type := 25, pos := "law.go:325", after := #[], guard := none }) (v := .slice (some ⟨vb, off, none⟩) n cap) rfl (by decide) (by kernel_rfl) (by kernel_rfl) (by kernel_rfl) (fun _ _ _ h => h) (Or.inl ⟨by rfl, fun w2 hSw => ?_⟩) hS13 (fun hS14 => ?_)
      · obtain ⟨⟨p0, p1, p2⟩, r0, r1, r2, r3, r4, r5, r6, r7, r8, r9, rl⟩ := hSw
        go_simp
      simp only [Act.put, List.setIfInBounds_toArray, List.set_cons_zero, List.set_cons_succ]
      clear hS13
      refine wpAnyL_take (i := 14) (oi := { dst := some 121, op := Op.call { callee := Callee.builtin Builtin.len, args := #[Operand.tmp 120], argTypes := #[25] }, type := 3, pos := "law.go:325", after := #[{ on := 13, ground := Ground.data }], guard := none }) (v := .int .i64 n) rfl (by decide) (by kernel_rfl) (by kernel_rfl) (by kernel_rfl) (fun _ _ _ h => h) (Or.inl ⟨by rfl, fun w2 hSw => ?_⟩) hS14 (fun hS15 => ?_)
      · obtain ⟨⟨p0, p1, p2⟩, r0, r1, r2, r3, r4, r5, r6, r7, r8, r9, rl⟩ := hSw
        go_simp
      simp only [Act.put, List.setIfInBounds_toArray, List.set_cons_zero, List.set_cons_succ]
      clear hS14
      refine wpAnyL_take (i := 15) (oi := { dst := some 122, op := Op.binOp BinOp.sub 3 (Operand.tmp 121) (Operand.const (Value.int IntKind.i64 1)) 3, type := 3, pos := "law.go:325", after := #[{ on := 14, ground := Ground.data }], guard := none }) (v := .int .i64 ((n : Int) - 1)) rfl (by decide) (by kernel_rfl) (by kernel_rfl) (by kernel_rfl) (fun _ _ _ h => h) (Or.inl ⟨by rfl, fun w2 hSw => ?_⟩) hS15 (fun hS16 => ?_)
      · obtain ⟨⟨p0, p1, p2⟩, r0, r1, r2, r3, r4, r5, r6, r7, r8, r9, rl⟩ := hSw
        go_simp
      simp only [Act.put, List.setIfInBounds_toArray, List.set_cons_zero, List.set_cons_succ]
      clear hS15
      refine wpAnyL_take (i := 16) (oi := { dst := some 123, op := Op.move (Operand.tmp 10), type := 3, pos := "law.go:325", after := #[], guard := none }) (v := .int .i64 kk) rfl (by decide) (by kernel_rfl) (by kernel_rfl) (by kernel_rfl) (fun _ _ _ h => h) (Or.inl ⟨by rfl, fun w2 hSw => ?_⟩) hS16 (fun hS17 => ?_)
      · obtain ⟨⟨p0, p1, p2⟩, r0, r1, r2, r3, r4, r5, r6, r7, r8, r9, rl⟩ := hSw
        go_simp
      simp only [Act.put, List.setIfInBounds_toArray, List.set_cons_zero, List.set_cons_succ]
      clear hS16
      refine wpAnyL_take (i := 17) (oi := { dst := some 124, op := Op.binOp BinOp.sub 3 (Operand.tmp 122) (Operand.tmp 123) 3, type := 3, pos := "law.go:325", after := #[{ on := 15, ground := Ground.data }, { on := 16, ground := Ground.data }], guard := none }) (v := .int .i64 jj) rfl (by decide) (by kernel_rfl) (by kernel_rfl) (by kernel_rfl) (fun _ _ _ h => h) (Or.inl ⟨by rfl, fun w2 hSw => ?_⟩) hS17 (fun hS18 => ?_)
      · obtain ⟨⟨p0, p1, p2⟩, r0, r1, r2, r3, r4, r5, r6, r7, r8, r9, rl⟩ := hSw
        go_simp
      simp only [Act.put, List.setIfInBounds_toArray, List.set_cons_zero, List.set_cons_succ]
      clear hS17
      refine wpAnyL_take (i := 18) (oi := { dst := some 125, op := Op.indexAddr 25 (Operand.tmp 119) (Operand.tmp 124), type := 0, pos := "law.go:325", after := #[{ on := 12, ground := Ground.data }, { on := 17, ground := Ground.data }], guard := none }) (v := .pointer (some ⟨vb, off + jj * 2, none⟩)) rfl (by decide) (by kernel_rfl) (by kernel_rfl) (by kernel_rfl) (fun _ _ _ h => h) (Or.inl ⟨by rfl, fun w2 hSw => ?_⟩) hS18 (fun hS19 => ?_)
      · obtain ⟨⟨p0, p1, p2⟩, r0, r1, r2, r3, r4, r5, r6, r7, r8, r9, rl⟩ := hSw
        go_simp
      simp only [Act.put, List.setIfInBounds_toArray, List.set_cons_zero, List.set_cons_succ]
      clear hS18
      refine wpAnyL_take (i := 19) (oi := { dst := some 126, op := Op.load 34 (Operand.tmp 125), type := 34, pos := "law.go:325", after := #[{ on := 18, ground := Ground.data }], guard := none }) (v := .agg #[.int .i64 SI, .int .u64 XI]) rfl (by decide) (by kernel_rfl) (by kernel_rfl) (by kernel_rfl) (fun _ _ _ h => h) (Or.inl ⟨by rfl, fun w2 hSw => ?_⟩) hS19 (fun hS20 => ?_)
      · obtain ⟨⟨p0, p1, p2⟩, r0, r1, r2, r3, r4, r5, r6, r7, r8, r9, rl⟩ := hSw
        go_simp
      simp only [Act.put, List.setIfInBounds_toArray, List.set_cons_zero, List.set_cons_succ]
      clear hS19
      refine wpAnyL_one (i := 20) (o := { dst := some 127, op := Op.call { callee := Callee.value (Operand.func 8), args := #[Operand.tmp 118, Operand.tmp 126], argTypes := #[24, 34] }, type := 50, pos := "law.go:325", after := #[{ on := 11, ground := Ground.data }, { on := 19, ground := Ground.data }], guard := none }) (by kernel_rfl) rfl (fun K hK => ?_)
      clear hS20
      go_simp
      go_at_call 8
      refine (KV.out _).mono ?_
      rintro e V3 ⟨m, rfl, G3⟩
      have HL3 := hide (HL0.out.kept G3.out.2.2)
      have HKA := hide (KA.out V3 m HL3.out G3.out.1 G3.out.2.1)
      refine hK.out _ _ ⟨fun _ => trivial, KS.out _ HL3⟩ ?_
      clear hK K G3
      generalize m.cs.toArray = mc at *
      refine wpAnyL_one (i := 21) (o := { dst := some 128, op := Op.call { callee := Callee.value (Operand.func 7), args := #[Operand.tmp 107, Operand.tmp 117, Operand.tmp 127], argTypes := #[28, 36, 50] }, type := 4, pos := "law.go:325", after := #[{ on := 0, ground := Ground.data }, { on := 10, ground := Ground.data }, { on := 20, ground := Ground.data }, { on := 20, ground := Ground.chain }], guard := none }) (by kernel_rfl) rfl (fun K hK => ?_)
      go_simp
      go_at_call 7
      refine HKA.out.mono ?_
      rintro e V5 ⟨z, rfl, G5⟩
      refine hK.out _ _ ⟨fun _ => trivial, KS4.out _ G5⟩ ?_
      clear hK K HL3 HKA
      refine wpAnyL_done (by kernel_rfl) ?_ _
      clear hw9 hw8
      go_wp2
      go_roundw
      case rel => exact ⟨kk, by omega, rfl, nn + 1 + 1, u4, B4, by omega, G5, HIB⟩
      case measure => simp [intOf]
    · obtain rfl : q = 0 := by omega
      have hB : B2 = B := (HI.out.2.congr (Q := fun k => k < n) (fun k hk => by rw [vn_len] at hk; have := HNV.out; omega)).eq HI1.out.2
      subst hB
      have H16 : Hid ((∀ x, 0 < (u x).fr → x < 16) ∧ ∀ x, 0 < (u2 x).fr → x < 16) := ⟨fun x hx => HI1.out.2.few ((HI1.out.1.has x).1 hx), fun x hx => HI1.out.2.few ((HI.out.1.has x).1 hx)⟩
      have HA := hide (stateL HK.out HL.out.la (by omega) H16.out.1)
      go_wp2_with fail
      refine HA.out.mono ?_
      rintro e V1 ⟨ao1, N1, cap1, rfl, G1⟩
      have hb1 : Below wr.heap.size wr V1 := by obtain ⟨_, _, _, _, _, _, _, _, _, _, _, hb⟩ := G1.out; exact hb
      have HL1 := hide (HL.out.kept hb1)
      have HB := hide (stateL HK.out HL1.out.lb (by omega) H16.out.2)
      clear hb1 HA
      go_wp2_with fail
      refine HB.out.mono ?_
      rintro e V2 ⟨ao2, N2, cap2, rfl, G2⟩
      have hb2 : Below V1.heap.size V1 V2 := by obtain ⟨_, _, _, _, _, _, _, _, _, _, _, hb⟩ := G2.out; exact hb
      obtain ⟨eN, b, b', ts, ts', rv, t1, t2, t3⟩ := both_same HI1.out.1 HI.out.1 G1.out hb2 G2.out
      subst eN
      have h256 : N1 < 1000 := by
        obtain ⟨ks, _, _, p1, p2, p3, p4, _⟩ := G1.out
        have := nodup_few 16 ks (p1.imp (fun h => Nat.ne_of_lt h)) (fun x hx => H16.out.1 x ((p2 x (p3 x hx)).1 hx))
        omega
      have HSB := hide (sameBut_yes (cap := cap1) (cap' := cap2) 0 t1 t2 t3 h256)
      have HF := hide (HL1.out.bel.trans (hb2.mono HL1.out.bel.size))
      clear G1 G2 t1 t2 t3 hb2 HB H16 h256
      go_wp2_with fail
      refine HSB.out.mono ?_
      rintro e V3 ⟨rfl, hb3⟩
      go_wp2
      go_ret
      exact ⟨rfl, HF.out.trans (hb3.out.mono HF.out.size)⟩
end Go.Proofs.Ytojknconkmplkaa
