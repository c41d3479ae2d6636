import Derived.Test.YtkdciomijemmiaaMG
import Derived.Deep.DeepCutAuto
import Derived.Deep.CutBlock
namespace Go.Proofs.Ytkdciomijemmiaa
open Go.RowKit Crc

/-- Numbers one behind the other. -/
structure Un (w : World) (ao : Option Addr) (xs : List Nat) (b off : Nat) : Prop where
  ad : 0 < xs.length → ao = some ⟨b, off, none⟩
  lt : 0 < xs.length → b < w.heap.size
  at_ : ∀ i, i < xs.length → w.cell? ⟨b, off + i, none⟩ = some (.int .u64 ((xs.getD i 0 : Nat) : Int))
set_option maxRecDepth 100000 in
set_option maxHeartbeats 3200000 in
theorem quiet_walk (ep0 : Nat) (hep0 : ep0 < 18446744073709551616) {w : World} {ro : Option Addr} {rs : List Rq} {b off : Nat} (n rc : Nat) (hn : rs.length = n) (hR : Rqs w.heap.size w ro rs b off) {so : Option Addr} {xs : List Nat} {sb soff : Nat} (m sc : Nat) (hm : xs.length = m) (hS : Un w so xs sb soff) :
    Calls Try.prog 3 #[.int .u64 (ep0 : Nat), .slice ro n rc, .slice so m sc] w fun e w' => e = .returned (.bool true) ∧ Below w.heap.size w w' := by
  obtain ⟨x0, hx0⟩ : ∃ x0 : Nat, ep0 % 100 = x0 := ⟨_, rfl⟩
  obtain ⟨e1, he1⟩ : ∃ e1 : Nat, 1 + x0 = e1 := ⟨_, rfl⟩
  have hmod : Int.tmod (ep0 : Int) 100 = (x0 : Int) := by rw [Int.tmod_eq_emod_of_nonneg (by omega)]; omega
  have hq1 : (1 : Int) + (x0 : Int) = (e1 : Int) := by omega
  have hq2 : IntKind.u64.wrap ((1 : Int) + (x0 : Int)) = (e1 : Int) := by rw [hq1]; exact IntWalk.u64_in _ ⟨by omega, by omega⟩
  have HC : Hid (OkC (fixC 1 e1 e1)) := fixC_ok 1 (by decide) (by decide) e1 e1 (by omega) (by omega) (Nat.le_refl _) (by omega)
  have HF := hide (fixedL 1 e1 e1 w)
  have hle := hR.le
  rw [hn] at hle
  have hx100 : x0 < 100 := by omega
  have HR := hide hR
  have HS := hide hS
  have HN := hide hn
  have HM := hide hm
  clear he1 hx0 hR hS hn hm
  generalize (ep0 : Int) = epi at *
  go_enter Try.func3, Try.ntmps3
  go_wp2_with fail
  refine HF.out.mono ?_
  rintro e w1 ⟨rfl, hb1⟩
  have HB2 : Hid (Below w.heap.size w (w1.alloc (.cells #[.int .i64 1, .int .i64 8, .int .u64 0, .int .u64 8, .int .u64 1, .int .u64 1, .int .u64 (e1 : Nat), .int .u64 (e1 : Nat), .int .u64 1099511627776, .int .u64 1099511627776] 26))) := hb1.out.alloc hb1.out.size _
  have HNW : Hid (Calls Try.prog 7 #[.agg #[.int .i64 1, .int .i64 8, .int .u64 0, .int .u64 8, .int .u64 1, .int .u64 1, .int .u64 (e1 : Nat), .int .u64 (e1 : Nat), .int .u64 1099511627776, .int .u64 1099511627776], .int .i64 1, .int .u64 0] (w1.alloc (.cells #[.int .i64 1, .int .i64 8, .int .u64 0, .int .u64 8, .int .u64 1, .int .u64 1, .int .u64 (e1 : Nat), .int .u64 (e1 : Nat), .int .u64 1099511627776, .int .u64 1099511627776] 26)) fun e w' => ∃ eb g, e = .returned (.tuple #[.pointer (some ⟨eb, 0, none⟩), .nilIface]) ∧ Hid (Qi w (fixC 1 e1 e1) eb g w')) := by
    refine Calls.mono (newQ (fixC 1 e1 e1) HC.out 1 (by show ((1 : Nat) : Int) < 2 * 1 + 1; decide) 0 (by decide) HB2.out) ?_
    rintro e w' ⟨eb, g, rfl, D⟩
    exact ⟨eb, g, rfl, addB 0 e1 1099511627776, 1, 0, e1, (addB_bound 0 e1 HC.out.ep).1, (addB_bound 0 e1 HC.out.ep).2, D.out⟩
  clear hb1 HF hmod hq1 hq2 HB2
  unfold fixC Cf.cells
  simp only
  go_wp2_with fail
  refine HNW.out.mono ?_
  rintro e w2 ⟨eb, g, rfl, HQ⟩
  clear HNW
  go_upto_if 32 with fail
  go_cut [] from 33 (fun W => Hid (Qi w (fixC 1 e1 e1) eb g W))
  case first =>
    go_wp2
    go_meet
    case rel => exact HQ.out
  case rest =>
  have HQ1 := hcut
  clear hcut HQ
  go_upto_block 0 with fail
  go_cut [10, 11, 12] from 33 (fun _ _ _ W => Hid (Qi w (fixC 1 e1 e1) eb g W))
  case first =>
    go_wp2
    go_loopw [10, 11, 12] (fun nw i _ wr => ∃ (k a : Nat), k ≤ n ∧ a < 18446744073709551616 ∧ i = .int .i64 k ∧ nw = .int .u64 a ∧ Hid (Qi w (fixC 1 e1 e1) eb g wr)) (fun _ i _ _ => n - (intOf i).toNat)
    case atStart => exact ⟨0, 0, by omega, by decide, rfl, rfl, HQ1.out⟩
    case round =>
      obtain ⟨k, a, hk, ha, rfl, rfl, HQ⟩ := hrel
      clear HQ1
      by_cases hlt : k < n
      · have d1 : decide ((k : Int) < (n : Int)) = true := decide_eq_true (by omega)
        by_cases hlm : k < m
        · have d2 : decide ((k : Int) < (m : Int)) = true := decide_eq_true (by omega)
          obtain ⟨r, hr, hd, hok, hbl, rfl, c0, c1, c2⟩ := HR.out.get (k := k) (by have := HN.out; omega)
          obtain ⟨cl, sq, co, cn, cc, C⟩ := r
          simp only at c0 c1 c2
          have HBQ : Hid (Below w.heap.size w wr) := by obtain ⟨f, q⟩ := HQ.out; exact q.bel
          have HRW : Hid (∀ V, Below w.heap.size w V → V.cell? ⟨b, off + k * 3, none⟩ = some (.int .u64 (cl : Int)) ∧ V.cell? ⟨b, off + k * 3 + 1, none⟩ = some (.int .u64 (sq : Int)) ∧ V.cell? ⟨b, off + k * 3 + 2, none⟩ = some (.slice co cn cc) ∧ b < V.heap.size ∧ (Rq.mk cl sq co cn cc C).Ok V.heap.size V) := fun V hb => ⟨(hb.cell (p := ⟨b, _, none⟩) hbl).trans c0, (hb.cell (p := ⟨b, _, none⟩) hbl).trans c1, (hb.cell (p := ⟨b, _, none⟩) hbl).trans c2, Nat.lt_of_lt_of_le hbl hb.size, hok.hc, hok.hs, (hok.hC.belowL hb).wide hb.size⟩
          have HSA : Hid (so = some ⟨sb, soff, none⟩) := HS.out.ad (by have := HM.out; omega)
          obtain rfl := HSA.out
          obtain ⟨st, hst⟩ : ∃ st, xs.getD k 0 = st := ⟨_, rfl⟩
          have HSW : Hid (∀ V, Below w.heap.size w V → V.cell? ⟨sb, soff + k, none⟩ = some (.int .u64 (st : Nat)) ∧ sb < V.heap.size) := fun V hb => by
            have hsb := HS.out.lt (by have := HM.out; omega)
            have h1 := HS.out.at_ k (by have := HM.out; omega)
            rw [hst] at h1
            exact ⟨(hb.cell (p := ⟨sb, _, none⟩) hsb).trans h1, Nat.lt_of_lt_of_le hsb hb.size⟩
          obtain ⟨x3, hx3⟩ : ∃ x3 : Nat, st % 300 = x3 := ⟨_, rfl⟩
          obtain ⟨a2, ha2⟩ : ∃ a2 : Nat, (a + x3) % 18446744073709551616 = a2 := ⟨_, rfl⟩
          have hm3 : Int.tmod (st : Int) 300 = (x3 : Int) := by rw [Int.tmod_eq_emod_of_nonneg (by omega)]; omega
          have hw3 : IntKind.u64.wrap ((a : Int) + (x3 : Int)) = (a2 : Int) := by
            rw [show IntKind.u64.wrap ((a : Int) + (x3 : Int)) = ((a : Int) + (x3 : Int)) % 18446744073709551616 from rfl]
            omega
          have ha2' : Hid (a2 < 18446744073709551616) := by show _ < _; omega
          have HM3 := hide hm3
          have HW3 := hide hw3
          clear hr hd hok hbl c0 c1 c2 hx3 ha2 hst HSA hm3 hw3
          obtain ⟨gd, hgd⟩ : ∃ gd, goodR (cl, sq, C) = gd := ⟨_, rfl⟩
          obtain ⟨c0, c1, c2, hbl, hok⟩ := HRW.out wr HBQ.out
          have H1 := hide (hearQi HQ.out cl sq co cn cc C hok gd hgd)
          have HGD := hide hgd
          clear hok HQ HBQ hgd
          go_wp2_with fail
          refine H1.out.mono ?_
          rintro e w3 ⟨ao, cap, rfl, G⟩
          clear c0 c1 c2 hbl H1
          go_wp2_with fail
          refine G.out.mono ?_
          rintro e w4 ⟨rfl, G4⟩
          obtain ⟨f4, q4⟩ := G4.out
          have Q4 := hide q4
          clear G G4 q4
          obtain ⟨c0, c1, c2, hbl, hok⟩ := HRW.out w4 Q4.out.bel
          have H2 := hide (refValidReq cl sq co cn cc C hok.hC.1 w4)
          rw [HGD.out] at H2
          clear hok
          go_wp2_with fail
          refine H2.out.mono ?_
          rintro e w5 ⟨rfl, G5⟩
          have Q5 := hide (Q4.out.kept G5.out)
          clear c0 c1 c2 hbl H2 G5 Q4
          obtain ⟨c0, c1, c2, hbl, hok⟩ := HRW.out w5 Q5.out.bel
          have H3 := hide (runQi cl sq co cn cc C gd Q5.out hok)
          clear hok
          cases gd with
          | true =>
            go_wp2_with fail
            refine H3.out.mono ?_
            rintro e w6 ⟨ao6, cap6, rfl, G6⟩
            clear c0 c1 c2 hbl H3 Q5
            go_wp2_with fail
            refine G6.out.mono ?_
            rintro e w7 ⟨rfl, Q7⟩
            clear G6
            obtain ⟨s0, sl⟩ := HSW.out w7 (by obtain ⟨_, q⟩ := Q7.out; exact q.bel)
            have hm3 := HM3.out
            have hw3 := HW3.out
            have H4 := hide (timeQi Q7.out HC.out a2 ha2'.out)
            clear Q7
            go_wp2_with fail
            refine H4.out.mono ?_
            rintro e w8 ⟨z, rfl, Q8⟩
            clear s0 sl hm3 hw3 H4
            have H5 := hide (suspQi Q8.out)
            clear Q8
            go_wp2_with fail
            refine H5.out.mono ?_
            rintro e w9 ⟨rfl, Q9⟩
            have H6 := hide (waitQi Q9.out)
            clear Q9 H5
            go_wp2_with fail
            refine H6.out.mono ?_
            rintro e w10 ⟨ao', cap', rfl, Q10⟩
            clear H6
            go_wp2
            go_roundw
            case rel => exact ⟨k + 1, a2, by omega, ha2'.out, by go_num, rfl, Q10.out⟩
            case measure => simp [intOf]; omega
          | false =>
            go_wp2_with fail
            refine H3.out.mono ?_
            rintro e w6 ⟨ao6, cap6, rfl, G6⟩
            clear c0 c1 c2 hbl H3 Q5
            go_wp2_with fail
            refine G6.out.mono ?_
            rintro e w7 ⟨rfl, Q7⟩
            clear G6
            obtain ⟨s0, sl⟩ := HSW.out w7 (by obtain ⟨_, q⟩ := Q7.out; exact q.bel)
            have hm3 := HM3.out
            have hw3 := HW3.out
            have H4 := hide (timeQi Q7.out HC.out a2 ha2'.out)
            clear Q7
            go_wp2_with fail
            refine H4.out.mono ?_
            rintro e w8 ⟨z, rfl, Q8⟩
            clear s0 sl hm3 hw3 H4
            have H5 := hide (suspQi Q8.out)
            clear Q8
            go_wp2_with fail
            refine H5.out.mono ?_
            rintro e w9 ⟨rfl, Q9⟩
            have H6 := hide (waitQi Q9.out)
            clear Q9 H5
            go_wp2_with fail
            refine H6.out.mono ?_
            rintro e w10 ⟨ao', cap', rfl, Q10⟩
            clear H6
            go_wp2
            go_roundw
            case rel => exact ⟨k + 1, a2, by omega, ha2'.out, by go_num, rfl, Q10.out⟩
            case measure => simp [intOf]; omega
        · have d2 : decide ((k : Int) < (m : Int)) = false := decide_eq_false (by omega)
          go_wp2
          go_meet
          case rel => exact HQ.out
      · have d1 : decide ((k : Int) < (n : Int)) = false := decide_eq_false (by omega)
        go_wp2
        go_meet
        case rel => exact HQ.out
  case rest =>
  have HQ2 := hcut
  clear hcut HQ1
  have T1 := hide (lastReq HQ2.out)
  clear HQ2
  go_wp2_with fail
  refine T1.out.mono ?_
  rintro e t1 ⟨rfl, G1⟩
  obtain ⟨f, q1⟩ := G1.out
  have T2 := hide (suspQt q1)
  clear T1 G1 q1
  go_wp2_with fail
  refine T2.out.mono ?_
  rintro e t2 ⟨rfl, Q2⟩
  have T3 := hide (stateQt Q2.out)
  clear T2 Q2
  go_wp2_with fail
  refine T3.out.mono ?_
  rintro e t3 ⟨vn, vm, vl, ao, cap, ao', cap', rfl, Q3⟩
  have hf1 : 1 ≤ f ∧ f ≤ 1099511627776 := by obtain ⟨_, _, _, x1, x2, _⟩ := Q3.out; exact ⟨x1, x2⟩
  obtain ⟨f0, rfl⟩ : ∃ f0, f = f0 + 1 := ⟨f - 1, by omega⟩
  have HF0 := hide hf1
  clear T3 hf1
  obtain ⟨t4, ht4⟩ : ∃ t4, t3.alloc (.cells #[.int .u64 vn, .int .i64 vm, .int .u32 0, .int .u64 vl, .int .u64 ((f0 + 1 : Nat) : Int), .slice ao 0 cap, .slice ao' 1 cap'] 49) = t4 := ⟨_, rfl⟩
  have B4 : Hid (Below t3.heap.size t3 t4) := by rw [← ht4]; exact below_alloc1 t3 _
  have C4 : Hid (t4.heap[t3.heap.size]? = some (.cells #[.int .u64 vn, .int .i64 vm, .int .u32 0, .int .u64 vl, .int .u64 ((f0 + 1 : Nat) : Int), .slice ao 0 cap, .slice ao' 1 cap'] 49 (0, 0))) := by rw [← ht4]; exact alloc_atK _ _
  have HT4 := hide ht4
  have Q4 := hide (Q3.out.kept B4.out)
  have z4 : t4.cell? ⟨t3.heap.size, 4, none⟩ = some (.int .u64 ((f0 + 1 : Nat) : Int)) := block_cell C4.out 4
  have zl := block_lt C4.out
  clear ht4 Q3 B4 C4
  obtain ⟨fi, hfi⟩ : ∃ fi : Int, ((f0 + 1 : Nat) : Int) = fi := ⟨_, rfl⟩
  have hsb : IntKind.u64.wrap (fi - 1) = (f0 : Int) := by
    have := HF0.out
    rw [← hfi, show ((f0 + 1 : Nat) : Int) - 1 = (f0 : Int) by omega]
    exact IntWalk.u64_in _ ⟨by omega, by omega⟩
  have T4 := hide (timeNo Q4.out f0 (by omega))
  have T5 := hide (timeEnd Q4.out HC.out)
  rw [hfi] at HT4 z4 T5 ⊢
  clear Q4 hfi
  go_upto_region 20 with fail
  rw [HT4.out]
  clear HT4
  go_wp2_with fail
  refine T4.out.mono ?_
  rintro e V' ⟨rfl, hVV⟩
  have hVW := hVV.symm
  clear hVV
  subst hVW
  clear T4
  go_wp2_with fail
  refine T5.out.mono ?_
  rintro e t5 ⟨rfl, G5⟩
  obtain ⟨n5, m5, f5, hf5, q5⟩ := G5.out
  have HF5 := hide hf5
  have T6 := hide (suspectingQ q5 (by decide))
  rw [show Nat.testBit 0 1 = false from rfl] at T6
  clear T5 G5 q5 hf5 z4 zl hsb
  go_wp2_with fail
  refine T6.out.mono ?_
  rintro e t6 ⟨rfl, Q6⟩
  have T7 : Hid (Calls Try.prog 15 #[.pointer (some ⟨eb, 0, none⟩)] t6 fun e W' => ∃ ao cap ao' cap', e = .returned (.agg #[.int .u64 (n5 : Nat), .int .i64 m5, .int .u32 0, .int .u64 (e1 : Nat), .int .u64 (f5 : Nat), .slice ao 1 cap, .slice ao' 0 cap']) ∧ Hid (QE w (fixC 1 e1 e1) eb g 1 ⟨n5, m5, 0, (fixC 1 e1 e1).ep, f5, [(300, 1, [])], []⟩ W')) := stateQ Q6.out 1 0 rfl rfl
  clear T6 Q6
  go_wp2_with fail
  refine T7.out.mono ?_
  rintro e t7 ⟨ao7, cap7, ao7', cap7', rfl, Q7⟩
  clear T7
  obtain ⟨t8, ht8⟩ : ∃ t8, t7.alloc (.cells #[.int .u64 (n5 : Nat), .int .i64 m5, .int .u32 0, .int .u64 (e1 : Nat), .int .u64 (f5 : Nat), .slice ao7 1 cap7, .slice ao7' 0 cap7'] 49) = t8 := ⟨_, rfl⟩
  have B8 : Hid (Below t7.heap.size t7 t8) := by rw [← ht8]; exact below_alloc1 t7 _
  have C8 : Hid (t8.heap[t7.heap.size]? = some (.cells #[.int .u64 (n5 : Nat), .int .i64 m5, .int .u32 0, .int .u64 (e1 : Nat), .int .u64 (f5 : Nat), .slice ao7 1 cap7, .slice ao7' 0 cap7'] 49 (0, 0))) := by rw [← ht8]; exact alloc_atK _ _
  have z4 : t8.cell? ⟨t7.heap.size, 4, none⟩ = some (.int .u64 (f5 : Nat)) := block_cell C8.out 4
  have zl := block_lt C8.out
  have T8 := hide (timeTwice (Q7.out.kept B8.out) HF5.out HC.out)
  have HT8 := hide ht8
  clear ht8 Q7 B8 C8
  go_upto_region 23 with fail
  rw [HT8.out]
  clear HT8
  go_wp2_with fail
  refine T8.out.mono ?_
  rintro e t9 ⟨rfl, G9⟩
  obtain ⟨n9, m9, l9, f9, s9, hs9, q9⟩ := G9.out
  have T9 := hide (suspectingQ q9 (by decide))
  simp only [hs9] at T9
  clear T8 G9 q9 hs9 z4 zl
  go_wp2_with fail
  refine T9.out.mono ?_
  rintro e t10 ⟨rfl, Q10⟩
  have T10 := hide (waitingQ Q10.out rfl 1 rfl)
  clear T9 Q10
  go_wp2_with fail
  refine T10.out.mono ?_
  rintro e t11 ⟨ao11, cap11, rfl, Q11⟩
  clear T10
  go_wp2
  go_ret
  exact ⟨rfl, Q11.out.bel⟩
end Go.Proofs.Ytkdciomijemmiaa
