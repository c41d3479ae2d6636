import Derived.Test.YtkjkhohbhgglnaaBQa
import Derived.Test.YtkjkhohbhgglnaaBPn
import Derived.Test.YtkjkhohbhgglnaaBAv
import Derived.Deep.DeepCutAuto
namespace Go.Proofs.Ytkjkhohbhgglnaa
open Go.RowKit

set_option maxRecDepth 100000 in
set_option maxHeartbeats 4000000 in
theorem speakers_ok (c : Cf) (hok : c.Ok) (sb off : Nat) (ao : Option Addr) (len cap : Nat) (ws : List Wd) (a b : Nat) (ha : a < 18446744073709551616) (hb : b < 18446744073709551616) (w : World)
    (hn : len = ws.length) (hn47 : len ≤ 140737488355328) (hF : Wds w sb off ws) (hao : 0 < len → ao = some ⟨sb, off, none⟩) (hbw : 0 < len → sb < w.heap.size)
    (hM : ∀ W, Calls Try.prog 8 #[.agg c.cells] W fun e w' => ∃ a, e = .returned (.tuple #[.pointer a, .bool true]) ∧ Hid (PG w' a c ∧ Below W.heap.size W w')) :
    Calls Try.prog 3 #[.agg c.cells, .slice ao len cap, .int .u64 (a : Nat), .int .u64 (b : Nat)] w fun e w' => e = .returned (.bool true) ∧ Below w.heap.size w w' := by
  have HM := hide hM
  have HF := hide hF
  have HN := hide hn
  have HAO := hide hao
  have HBW := hide hbw
  have HOK := hide hok
  have HA64 := hide (And.intro ha hb)
  clear hM hF hn hao hbw ha hb hok
  obtain ⟨W1, hW1⟩ : ∃ W1, w.alloc (.cells c.cells 24) = W1 := ⟨_, rfl⟩
  have B1 : Hid (Below w.heap.size w W1) := by rw [← hW1]; exact (Below.refl _ w).alloc (Nat.le_refl _) _
  obtain ⟨pc, hpc⟩ : ∃ p, w.heap.size = p := ⟨_, rfl⟩
  have t1 : W1.heap[pc]? = some (.cells c.cells 24 (0, 0)) := by rw [← hW1, ← hpc]; exact alloc_atK _ _
  obtain ⟨z0, z1, z2, z3, z4, z5, z6, z7, z8, z9⟩ := cfg_cells t1
  have HTC := hide t1
  have HW1 := hide hW1
  have HPC := hide hpc
  clear hW1 hpc t1
  have HNT := hide (fun W a (h : PG W a c) => newTally_ok h HOK.out)
  unfold Cf.cells at HM HW1 ⊢
  generalize hg0 : c.f = f at *
  generalize hg1 : c.mb = mb at *
  generalize hg2 : (c.delay : Int) = d at *
  generalize hg3 : (c.win : Int) = wn at *
  generalize hg4 : (c.every : Int) = ev at *
  generalize hg5 : (c.beat : Int) = bt at *
  generalize hg6 : (c.ep : Int) = ep at *
  generalize hg7 : (c.em : Int) = em at *
  generalize hg8 : (c.mn : Int) = mn at *
  generalize hg9 : (c.ms : Int) = ms at *
  have HG := hide hg0
  clear hg0 hg1 hg2 hg3 hg4 hg5 hg6 hg7 hg8 hg9
  go_enter Try.func3, Try.ntmps3
  go_upto_region 1 with fail
  rw [HW1.out, HPC.out]
  clear HW1
  go_wp2_with fail
  refine (HM.out W1).mono ?_
  rintro e w2 ⟨ga, rfl, G2⟩
  obtain ⟨p2, b2⟩ := G2.out
  have B2 := hide (B1.out.trans (b2.mono B1.out.size))
  have TC2 := hide ((b2.block pc (block_lt HTC.out)).trans HTC.out)
  have HT3 := hide (HNT.out w2 ga p2)
  obtain ⟨g, rfl, hg⟩ := p2
  have TG2 := hide hg
  clear G2 b2 z0 z1 z2 z3 z4 z5 z6 z7 z8 z9 HM HTC hg HNT
  go_wp2_with fail
  refine HT3.out.mono ?_
  rintro e w3 ⟨pt, bm, rfl, G3⟩
  obtain ⟨ty3, hbm, b3⟩ := G3.out
  have B3 := hide (B2.out.trans (b3.mono B2.out.size))
  have TC3 := hide ((b3.block pc (block_lt TC2.out)).trans TC2.out)
  have TG3 := hide ((b3.block g (block_lt TG2.out)).trans TG2.out)
  have TY3 := hide ty3
  have HBM : Hid (w.heap.size ≤ bm) := Nat.le_trans B2.out.size hbm
  clear G3 ty3 hbm b3 HT3 TC2 TG2 B1
  go_upto_region 9 with fail
  obtain ⟨W4, hW4⟩ : ∃ U, (w3.alloc (.cells #[.int .u32 0, .int .u32 0] 33)).alloc (.cells #[.int .u64 (a : Nat), .int .u64 (b : Nat)] 34) = U := ⟨_, rfl⟩
  obtain ⟨ps, hps⟩ : ∃ q, w3.heap.size = q := ⟨_, rfl⟩
  obtain ⟨pk, hpk⟩ : ∃ q, w3.heap.size + 1 = q := ⟨_, rfl⟩
  have HS4 : Hid (∃ n m p, n ≤ 0 ∧ (∀ x, m x &&& allN c.f = m x) ∧ SP w W4 c g pt bm ps pk pc a b n m p (m a) (m b)) := by
    have hb4 : Below w3.heap.size w3 W4 := by rw [← hW4]; exact ((Below.refl _ _).alloc (Nat.le_refl _) _).alloc (by simp) _
    have k1 := alloc_atK w3 (.cells #[.int .u32 0, .int .u32 0] 33)
    have k2 := alloc_atK (w3.alloc (.cells #[.int .u32 0, .int .u32 0] 33)) (.cells #[.int .u64 (a : Nat), .int .u64 (b : Nat)] 34)
    rw [World.size_alloc, hW4, hpk] at k2
    have k3 := (Below.heap_alloc (w3.alloc (.cells #[.int .u32 0, .int .u32 0] 33)) (.cells #[.int .u64 (a : Nat), .int .u64 (b : Nat)] 34) w3.heap.size (by simp)).trans k1
    rw [hW4, hps] at k3
    exact ⟨0, fun _ => 0, fun _ => false, Nat.le_refl _, fun _ => by simp, ⟨B3.out.trans (hb4.mono B3.out.size), (hb4.block g (block_lt TG3.out)).trans TG3.out, TY3.out.kept hb4, k3, k2, (hb4.block pc (block_lt TC3.out)).trans TC3.out, HBM.out, by rw [← hps]; exact B3.out.size⟩⟩
  rw [hW4, hpk, hps]
  clear hW4 hpk hps TC3 TG3 TY3 B3 B2 HBM HPC
  go_wp2_with fail
  go_loopw [14] (fun i wr => ∃ k : Nat, k ≤ 60 ∧ k ≤ len ∧ i = .int .i64 (k : Nat) ∧ Hid (∃ n m p, n ≤ k ∧ (∀ x, m x &&& allN c.f = m x) ∧ SP w wr c g pt bm ps pk pc a b n m p (m a) (m b))) (fun i _ => 60 - (intOf i).toNat)
  case atStart => exact ⟨0, by omega, by omega, rfl, HS4⟩
  case round =>
    obtain ⟨k, hk60, hkl, rfl, HR⟩ := hrel
    clear HS4
    by_cases hin : k < len ∧ k < 60
    · obtain ⟨h1, h2⟩ := hin
      obtain rfl := HAO.out (by omega)
      obtain ⟨x, hx⟩ : ∃ x, ws[k]? = some x := ⟨_, List.getElem?_eq_getElem (by have := HN.out; omega)⟩
      obtain ⟨n, m, p, hnk, hal, hsp⟩ := HR.out
      have HFW := hide (HF.out.kept (HBW.out (by omega)) hsp.below)
      have c0 : wr.cell? ⟨sb, off + k * 5, none⟩ = some (.int .i64 x.k) := HFW.out.at_ k x hx 0 _ rfl
      have c1 : wr.cell? ⟨sb, off + k * 5 + 1, none⟩ = some (.int .u64 (x.n : Nat)) := HFW.out.at_ k x hx 1 _ rfl
      have c2 : wr.cell? ⟨sb, off + k * 5 + 2, none⟩ = some (.int .u64 (x.bn : Nat)) := HFW.out.at_ k x hx 2 _ rfl
      have c3 : wr.cell? ⟨sb, off + k * 5 + 3, none⟩ = some (.int .i64 x.bm) := HFW.out.at_ k x hx 3 _ rfl
      have c4 : wr.cell? ⟨sb, off + k * 5 + 4, none⟩ = some (.int .i64 x.nd) := HFW.out.at_ k x hx 4 _ rfl
      have HX := hide (HF.out.ok x (List.mem_of_getElem? hx))
      have HSP := hide hsp
      have HAL := hide hal
      have HNK := hide hnk
      clear HFW hx hsp hal hnk HR
      go_upto_region 13 with fail
      obtain ⟨W5, hW5⟩ : ∃ U, wr.alloc (.cells #[.int .i64 x.k, .int .u64 (x.n : Nat), .int .u64 (x.bn : Nat), .int .i64 x.bm, .int .i64 x.nd] 38) = U := ⟨_, rfl⟩
      obtain ⟨pw, hpw⟩ : ∃ q, wr.heap.size = q := ⟨_, rfl⟩
      have t5 : W5.heap[pw]? = some (.cells x.cells 38 (0, 0)) := by rw [← hW5, ← hpw]; exact alloc_atK _ _
      have HSP5 := hide (HSP.out.kept (W' := W5) (by rw [← hW5]; exact (Below.refl _ _).alloc (Nat.le_refl _) _))
      obtain ⟨r0, r1, r4⟩ := wd_cells t5
      have TW5 := hide t5
      rw [hW5, hpw]
      clear hW5 hpw t5 c0 c1 c2 c3 c4 HSP
      go_upto_if 54 with fail
      go_cut [] (fun V => Hid (∃ n' p', n' ≤ k + 1 ∧ SP w V c g pt bm ps pk pc a b n' (fun key => sayS c x key (m key)) p' (m a) (m b) ∧ V.heap[pw]? = some (.cells x.cells 38 (0, 0))))
      case first =>
        by_cases hk2 : x.k = 2
        · have HK2 := hide hk2
          have hd : decide (x.k = 2) = true := decide_eq_true hk2
          have hd2 : (x.k == 2) = true := by simpa using hk2
          clear hk2
          go_wp2_with fail
          refine (tdrop HSP5.out.ty x.n HX.out.n).mono ?_
          rintro e V ⟨rfl, tyV, gV⟩
          have HV : Hid (∃ n' p', n' ≤ k + 1 ∧ SP w V c g pt bm ps pk pc a b n' (fun key => sayS c x key (m key)) p' (m a) (m b) ∧ V.heap[pw]? = some (.cells x.cells 38 (0, 0))) := by
            rw [say_drop c x m HK2.out] at tyV
            exact ⟨_, _, by have := HNK.out; unfold dnN; split <;> omega, HSP5.out.turn gV tyV, HSP5.out.block gV TW5.out⟩
          clear tyV gV r0 r1 r4
          go_wp2
          go_meet
          case rel => exact HV
        · have HK2 := hide hk2
          have hd : decide (x.k = 2) = false := decide_eq_false hk2
          have hd2 : (x.k == 2) = false := by simpa using hk2
          clear hk2
          by_cases hk3 : x.k < 2
          · have HK3 := hide hk3
            cases hnd : c.node x.nd with
            | false =>
              have HS := hide (tspeak_node HSP5.out.ty HOK.out x.n HX.out.n x.nd hnd)
              have HV : Hid (∃ n' p', n' ≤ k + 1 ∧ SP w W5 c g pt bm ps pk pc a b n' (fun key => sayS c x key (m key)) p' (m a) (m b) ∧ W5.heap[pw]? = some (.cells x.cells 38 (0, 0))) := by
                have hs := HSP5.out
                refine ⟨n, p, Nat.le_trans HNK.out (by omega), ?_, TW5.out⟩
                have e := say_not c x m HK2.out hnd
                exact ⟨hs.below, hs.pg, by rw [← e]; exact hs.ty, hs.sd, hs.ke, hs.cf, hs.bge, hs.pge⟩
              clear hnd
              go_wp2_with fail
              refine HS.out.mono ?_
              rintro e V ⟨rfl, rfl⟩
              go_wp2
              go_meet
              case rel => exact HV
            | true =>
              have HS := hide (tspeak_ok HSP5.out.ty HOK.out x.n HX.out.n x.nd hnd (.inr (by have := HNK.out; omega)) (by have := HNK.out; omega))
              have HE := hide (say_say c x m HK3.out hnd)
              clear hnd
              generalize ((countB (withB (m x.n) x.nd) : Nat) : Int) = cn at *
              go_wp2_with fail
              refine HS.out.mono ?_
              rintro e V ⟨rfl, G⟩
              have HV : Hid (∃ n' p', n' ≤ k + 1 ∧ SP w V c g pt bm ps pk pc a b n' (fun key => sayS c x key (m key)) p' (m a) (m b) ∧ V.heap[pw]? = some (.cells x.cells 38 (0, 0))) := by
                obtain ⟨tyV, gV⟩ := G.out
                rw [HE.out] at tyV
                exact ⟨_, _, by have := HNK.out; unfold upN; split <;> omega, HSP5.out.turn gV tyV, HSP5.out.block gV TW5.out⟩
              clear G r0 r1 r4
              go_wp2
              go_meet
              case rel => exact HV
          · have HV : Hid (∃ n' p', n' ≤ k + 1 ∧ SP w W5 c g pt bm ps pk pc a b n' (fun key => sayS c x key (m key)) p' (m a) (m b) ∧ W5.heap[pw]? = some (.cells x.cells 38 (0, 0))) := by
              have hs := HSP5.out
              refine ⟨n, p, Nat.le_trans HNK.out (by omega), ?_, TW5.out⟩
              have e := say_none c x m (by have := HK2.out; omega)
              exact ⟨hs.below, hs.pg, by rw [← e]; exact hs.ty, hs.sd, hs.ke, hs.cf, hs.bge, hs.pge⟩
            go_wp2
            go_meet
            case rel => exact HV
      case rest =>
      have HSM := hide (And.intro (HSP5.out.ty.tm.small a) (HSP5.out.ty.tm.small b))
      clear r0 r1 r4 HSP5 TW5
      obtain ⟨n', p', hn', hsp, hw⟩ := hcut.out
      obtain ⟨m', hm'⟩ : ∃ m' : Nat → Nat, (fun key => sayS c x key (m key)) = m' := ⟨_, rfl⟩
      rw [hm'] at hsp
      have HM' : Hid (∀ key, sayS c x key (m key) = m' key) := fun key => congrFun hm' key
      have HAL' : Hid (∀ key, m' key &&& allN c.f = m' key) := fun key => by rw [← HM'.out key]; exact say_all HOK.out x (HAL.out key)
      have HN' := hide hn'
      have HI : Hid (SP w wc c g pt bm ps pk pc a b n' m' p' (m a) (m b) ∧ wc.heap[pw]? = some (.cells x.cells 38 (0, 0))) := ⟨hsp, hw⟩
      clear hm' hsp hw hn' hcut HAL HNK
      go_wp2_with fail
      go_loopw [16] (fun j wq => ∃ q : Nat, q ≤ 2 ∧ j = .int .i64 (q : Nat) ∧ Hid (SP w wq c g pt bm ps pk pc a b n' m' p' (if 1 ≤ q then m' a else m a) (if 2 ≤ q then m' b else m b) ∧ wq.heap[pw]? = some (.cells x.cells 38 (0, 0)))) (fun j _ => 2 - (intOf j).toNat)
      case atStart => exact ⟨0, by omega, rfl, HI⟩
      case round =>
        obtain ⟨q, hq, rfl, HQ⟩ := hrel
        clear HI
        have hq3 : q = 0 ∨ q = 1 ∨ q = 2 := by omega
        rcases hq3 with rfl | rfl | rfl
        · by_cases he : x.n = a
          · have HE := hide he
            clear he
            by_cases hk2 : x.k = 2
            · have HK := hide hk2
              clear hk2
              have HT : Hid (SP w wr c g pt bm ps pk pc a b n' m' p' (m a) (m b) ∧ wr.heap[pw]? = some (.cells x.cells 38 (0, 0))) := HQ
              have KW : Hid (∀ V, Hid (SP w V c g pt bm ps pk pc a b n' m' p' (m a) (m b) ∧ V.heap[pw]? = some (.cells x.cells 38 (0, 0))) → V.cell? ⟨pw, 0, none⟩ = some (.int .i64 2) ∧ V.cell? ⟨pw, 1, none⟩ = some (.int .u64 (a : Nat)) ∧ V.cell? ⟨pw, 4, none⟩ = some (.int .i64 x.nd) ∧ V.cell? ⟨pk, 0, none⟩ = some (.int .u64 (a : Nat)) ∧ V.cell? ⟨ps, 0, none⟩ = some (.int .u32 ((m a) : Nat)) ∧ V.frozen? ⟨ps, 0, none⟩ = false) := fun V hV => by
                  obtain ⟨u0, u1, u2⟩ := wd_cells hV.out.2
                  exact ⟨by rw [u0, HK.out], by rw [u1, HE.out], u2, block_cell hV.out.1.ke 0, block_cell hV.out.1.sd 0, block_free hV.out.1.sd 0⟩
              have HD : Hid (∀ V, Hid (SP w V c g pt bm ps pk pc a b n' m' p' (m a) (m b) ∧ V.heap[pw]? = some (.cells x.cells 38 (0, 0))) → Hid (SP w V.drew c g pt bm ps pk pc a b n' m' p' (m a) (m b) ∧ V.drew.heap[pw]? = some (.cells x.cells 38 (0, 0)))) := fun V hV => ⟨hV.out.1.kept (Below.refl _ _).drew, hV.out.2⟩
              go_upto_region 20 with fail
              refine region_assign (fun V => Hid (SP w V c g pt bm ps pk pc a b n' m' p' (m a) (m b) ∧ V.heap[pw]? = some (.cells x.cells 38 (0, 0)))) [(72, .pointer (some ⟨pw, 1, none⟩)), (73, .int .u64 (a : Nat)), (74, .int .i64 0), (75, .pointer (some ⟨pk, 0, none⟩)), (76, .int .u64 (a : Nat)), (77, .bool true), (78, .bool true), (79, .pointer (some ⟨pw, 0, none⟩)), (80, .int .i64 2), (81, .bool true), (82, .bool true)] _ (by kernel_rfl) (by kernel_rfl) (by kernel_rfl) (by kernel_rfl) rfl (HD.out _ HT) ?_ (fun V1 HV1 => ?_)
              · simp only [putAll, Act.put, List.setIfInBounds_toArray, List.set_cons_zero, List.set_cons_succ]
                repeat' (first | exact AllTo.nil | refine AllTo.cons ?_ ?_)
                all_goals first
                  | exact stepTo_no (by rfl) rfl
                  | (refine stepTo_yes (by rfl) (fun V hV K hK => ?_)
                     obtain ⟨y0, y1, y2, y3, y4, y5⟩ := KW.out V hV
                     go_simp
                     first
                       | exact hK.out _ hV)
              simp only [putAll, Act.put, List.setIfInBounds_toArray, List.set_cons_zero, List.set_cons_succ]
              obtain ⟨y0, y1, y2, y3, y4, y5⟩ := KW.out _ HV1
              have HX1 : Hid (SP w (V1.setCell ⟨ps, 0, none⟩ (.int .u32 0)) c g pt bm ps pk pc a b n' m' p' (if 1 ≤ 1 then m' a else m a) (if 2 ≤ 1 then m' b else m b) ∧ (V1.setCell ⟨ps, 0, none⟩ (.int .u32 0)).heap[pw]? = some (.cells x.cells 38 (0, 0))) := by
                have e : m' a = 0 := by rw [← (HM'.out a)]; exact sayS_drop HE.out HK.out
                show SP w _ c g pt bm ps pk pc a b n' m' p' (m' a) (m b) ∧ _
                rw [e]
                exact ⟨HV1.out.1.set 0 _ (set_a HV1.out.1.sd _), HV1.out.1.word 0 _ HV1.out.2⟩
              go_wp2
              go_roundw
              case rel => exact ⟨1, by omega, by go_num, HX1⟩
              case measure => simp [intOf]
            · by_cases hk3 : x.k < 2
              · have HK := hide hk3
                have HK2 := hide hk2
                have hd : decide (x.k = 2) = false := decide_eq_false hk2
                have hd2 : (x.k == 2) = false := by simpa using hk2
                have hd3 : decide (x.k < 2) = true := decide_eq_true hk3
                clear hk2 hk3
                cases hnt : c.node x.nd with
                | true =>
                  have HNT := hide hnt
                  have HND := hide (fun V (h : PG V (some ⟨g, 0, none⟩) c) => node_live x.nd h HOK.out)
                  rw [hnt] at HND
                  have HWI := hide (fun V => with_any (m a) HSM.out.1 x.nd V)
                  clear hnt
                  have HT : Hid (SP w wr c g pt bm ps pk pc a b n' m' p' (m a) (m b) ∧ wr.heap[pw]? = some (.cells x.cells 38 (0, 0))) := HQ
                  have KW : Hid (∀ V, Hid (SP w V c g pt bm ps pk pc a b n' m' p' (m a) (m b) ∧ V.heap[pw]? = some (.cells x.cells 38 (0, 0))) → V.cell? ⟨pw, 0, none⟩ = some (.int .i64 x.k) ∧ V.cell? ⟨pw, 1, none⟩ = some (.int .u64 (a : Nat)) ∧ V.cell? ⟨pw, 4, none⟩ = some (.int .i64 x.nd) ∧ V.cell? ⟨pk, 0, none⟩ = some (.int .u64 (a : Nat)) ∧ V.cell? ⟨ps, 0, none⟩ = some (.int .u32 ((m a) : Nat)) ∧ V.frozen? ⟨ps, 0, none⟩ = false) := fun V hV => by
                      obtain ⟨u0, u1, u2⟩ := wd_cells hV.out.2
                      exact ⟨u0, by rw [u1, HE.out], u2, block_cell hV.out.1.ke 0, block_cell hV.out.1.sd 0, block_free hV.out.1.sd 0⟩
                  have HD : Hid (∀ V, Hid (SP w V c g pt bm ps pk pc a b n' m' p' (m a) (m b) ∧ V.heap[pw]? = some (.cells x.cells 38 (0, 0))) → Hid (SP w V.drew c g pt bm ps pk pc a b n' m' p' (m a) (m b) ∧ V.drew.heap[pw]? = some (.cells x.cells 38 (0, 0)))) := fun V hV => ⟨hV.out.1.kept (Below.refl _ _).drew, hV.out.2⟩
                  go_upto_region 20 with fail
                  refine region_assign (fun V => Hid (SP w V c g pt bm ps pk pc a b n' m' p' (m a) (m b) ∧ V.heap[pw]? = some (.cells x.cells 38 (0, 0)))) [(72, .pointer (some ⟨pw, 1, none⟩)), (73, .int .u64 (a : Nat)), (74, .int .i64 0), (75, .pointer (some ⟨pk, 0, none⟩)), (76, .int .u64 (a : Nat)), (77, .bool true), (78, .bool true), (79, .pointer (some ⟨pw, 0, none⟩)), (80, .int .i64 x.k), (81, .bool false), (82, .bool false)] _ (by kernel_rfl) (by kernel_rfl) (by kernel_rfl) (by kernel_rfl) rfl (HD.out _ HT) ?_ (fun V1 HV1 => ?_)
                  · simp only [putAll, Act.put, List.setIfInBounds_toArray, List.set_cons_zero, List.set_cons_succ]
                    repeat' (first | exact AllTo.nil | refine AllTo.cons ?_ ?_)
                    all_goals first
                      | exact stepTo_no (by rfl) rfl
                      | (refine stepTo_yes (by rfl) (fun V hV K hK => ?_)
                         obtain ⟨y0, y1, y2, y3, y4, y5⟩ := KW.out V hV
                         go_simp
                         first
                           | exact hK.out _ hV)
                  simp only [putAll, Act.put, List.setIfInBounds_toArray, List.set_cons_zero, List.set_cons_succ]
                  go_upto_region 22 with fail
                  refine region_assign (fun V => Hid (SP w V c g pt bm ps pk pc a b n' m' p' (m a) (m b) ∧ V.heap[pw]? = some (.cells x.cells 38 (0, 0)))) [(85, .pointer (some ⟨pw, 1, none⟩)), (86, .int .u64 (a : Nat)), (87, .int .i64 0), (88, .pointer (some ⟨pk, 0, none⟩)), (89, .int .u64 (a : Nat)), (90, .bool true), (91, .bool true), (92, .pointer (some ⟨pw, 0, none⟩)), (93, .int .i64 x.k), (94, .bool true), (95, .bool true), (96, .bool true), (97, .pointer (some ⟨g, 0, none⟩)), (98, .pointer (some ⟨pw, 4, none⟩)), (99, .int .i64 x.nd), (100, .bool true), (101, .bool true)] _ (by kernel_rfl) (by kernel_rfl) (by kernel_rfl) (by kernel_rfl) rfl (HD.out _ HV1) ?_ (fun V2 HV2 => ?_)
                  · simp only [putAll, Act.put, List.setIfInBounds_toArray, List.set_cons_zero, List.set_cons_succ]
                    repeat' (first | exact AllTo.nil | refine AllTo.cons ?_ ?_)
                    all_goals first
                      | exact stepTo_no (by rfl) rfl
                      | (refine stepTo_yes (by rfl) (fun V hV K hK => ?_)
                         obtain ⟨y0, y1, y2, y3, y4, y5⟩ := KW.out V hV
                         go_simp
                         first
                           | exact hK.out _ hV
                           | (go_at_call 12; refine (HND.out V ⟨g, rfl, hV.out.1.pg⟩).mono ?_; rintro e V' ⟨rfl, rfl⟩; exact hK.out _ hV))
                  simp only [putAll, Act.put, List.setIfInBounds_toArray, List.set_cons_zero, List.set_cons_succ]
                  go_upto_region 23 with fail
                  refine region_assignP (fun bb V => Hid (SP w V c g pt bm ps pk pc a b n' m' p' (if bb = true then (withB (m a) x.nd) else (m a)) (m b) ∧ V.heap[pw]? = some (.cells x.cells 38 (0, 0)))) 8 [6, 7, 3, 2, 1, 5, 4, 0] [(102, .int .i64 0), (103, .int .i64 0), (104, .pointer (some ⟨ps, 0, none⟩)), (105, .int .u32 ((m a) : Nat)), (106, .pointer (some ⟨pw, 4, none⟩)), (107, .int .i64 x.nd), (108, .int .u32 (((withB (m a) x.nd) : Nat) : Int)), (109, .pointer (some ⟨ps, 0, none⟩))] _ (by kernel_rfl) (by decide) (by kernel_rfl) (by kernel_rfl) (by kernel_rfl) (by kernel_rfl) rfl (HD.out _ HV2) ?_ (fun V3 HV3 => ?_)
                  · simp only [putAll, Act.put, List.setIfInBounds_toArray, List.set_cons_zero, List.set_cons_succ]
                    repeat' (first | exact AllPre.nil | refine AllPre.pre (by decide) (by decide) ?_ ?_ | refine AllPre.at_ (by decide) ?_ ?_)
                    all_goals first
                      | (refine stepTo_yes (by rfl) (fun V hV K hK => ?_)
                         obtain ⟨y0, y1, y2, y3, y4, y5⟩ := KW.out V hV
                         go_simp
                         first
                           | exact hK.out _ hV
                           | (go_at_call 13; refine (HWI.out V).mono ?_; rintro e V' ⟨rfl, rfl⟩; exact hK.out _ hV))
                      | (refine ⟨by rfl, fun V hV K hK => ?_⟩
                         obtain ⟨y0, y1, y2, y3, y4, y5⟩ := KW.out V hV
                         have FIN : Hid (SP w (V.setCell ⟨ps, 0, none⟩ (.int .u32 (((withB (m a) x.nd) : Nat) : Int))) c g pt bm ps pk pc a b n' m' p' (withB (m a) x.nd) (m b) ∧ (V.setCell ⟨ps, 0, none⟩ (.int .u32 (((withB (m a) x.nd) : Nat) : Int))).heap[pw]? = some (.cells x.cells 38 (0, 0))) := ⟨hV.out.1.set 0 _ (set_a hV.out.1.sd _), hV.out.1.word 0 _ hV.out.2⟩
                         go_simp
                         exact hK.out _ FIN)
                  simp only [putAll, Act.put, List.setIfInBounds_toArray, List.set_cons_zero, List.set_cons_succ]
                  have HX1 : Hid (SP w V3 c g pt bm ps pk pc a b n' m' p' (if 1 ≤ 1 then m' a else m a) (if 2 ≤ 1 then m' b else m b) ∧ V3.heap[pw]? = some (.cells x.cells 38 (0, 0))) := by
                    have e : m' a = (withB (m a) x.nd) := by rw [← (HM'.out a)]; exact sayS_say HE.out HK.out HNT.out
                    show SP w _ c g pt bm ps pk pc a b n' m' p' (m' a) (m b) ∧ _
                    rw [e]
                    exact HV3.out
                  go_wp2
                  go_roundw
                  case rel => exact ⟨1, by omega, by go_num, HX1⟩
                  case measure => simp [intOf]
                | false =>
                  have HNT := hide hnt
                  have HND := hide (fun V (h : PG V (some ⟨g, 0, none⟩) c) => node_live x.nd h HOK.out)
                  rw [hnt] at HND
                  clear hnt
                  have HT : Hid (SP w wr c g pt bm ps pk pc a b n' m' p' (m a) (m b) ∧ wr.heap[pw]? = some (.cells x.cells 38 (0, 0))) := HQ
                  have KW : Hid (∀ V, Hid (SP w V c g pt bm ps pk pc a b n' m' p' (m a) (m b) ∧ V.heap[pw]? = some (.cells x.cells 38 (0, 0))) → V.cell? ⟨pw, 0, none⟩ = some (.int .i64 x.k) ∧ V.cell? ⟨pw, 1, none⟩ = some (.int .u64 (a : Nat)) ∧ V.cell? ⟨pw, 4, none⟩ = some (.int .i64 x.nd) ∧ V.cell? ⟨pk, 0, none⟩ = some (.int .u64 (a : Nat)) ∧ V.cell? ⟨ps, 0, none⟩ = some (.int .u32 ((m a) : Nat)) ∧ V.frozen? ⟨ps, 0, none⟩ = false) := fun V hV => by
                      obtain ⟨u0, u1, u2⟩ := wd_cells hV.out.2
                      exact ⟨u0, by rw [u1, HE.out], u2, block_cell hV.out.1.ke 0, block_cell hV.out.1.sd 0, block_free hV.out.1.sd 0⟩
                  have HD : Hid (∀ V, Hid (SP w V c g pt bm ps pk pc a b n' m' p' (m a) (m b) ∧ V.heap[pw]? = some (.cells x.cells 38 (0, 0))) → Hid (SP w V.drew c g pt bm ps pk pc a b n' m' p' (m a) (m b) ∧ V.drew.heap[pw]? = some (.cells x.cells 38 (0, 0)))) := fun V hV => ⟨hV.out.1.kept (Below.refl _ _).drew, hV.out.2⟩
                  go_upto_region 20 with fail
                  refine region_assign (fun V => Hid (SP w V c g pt bm ps pk pc a b n' m' p' (m a) (m b) ∧ V.heap[pw]? = some (.cells x.cells 38 (0, 0)))) [(72, .pointer (some ⟨pw, 1, none⟩)), (73, .int .u64 (a : Nat)), (74, .int .i64 0), (75, .pointer (some ⟨pk, 0, none⟩)), (76, .int .u64 (a : Nat)), (77, .bool true), (78, .bool true), (79, .pointer (some ⟨pw, 0, none⟩)), (80, .int .i64 x.k), (81, .bool false), (82, .bool false)] _ (by kernel_rfl) (by kernel_rfl) (by kernel_rfl) (by kernel_rfl) rfl (HD.out _ HT) ?_ (fun V1 HV1 => ?_)
                  · simp only [putAll, Act.put, List.setIfInBounds_toArray, List.set_cons_zero, List.set_cons_succ]
                    repeat' (first | exact AllTo.nil | refine AllTo.cons ?_ ?_)
                    all_goals first
                      | exact stepTo_no (by rfl) rfl
                      | (refine stepTo_yes (by rfl) (fun V hV K hK => ?_)
                         obtain ⟨y0, y1, y2, y3, y4, y5⟩ := KW.out V hV
                         go_simp
                         first
                           | exact hK.out _ hV)
                  simp only [putAll, Act.put, List.setIfInBounds_toArray, List.set_cons_zero, List.set_cons_succ]
                  go_upto_region 22 with fail
                  refine region_assign (fun V => Hid (SP w V c g pt bm ps pk pc a b n' m' p' (m a) (m b) ∧ V.heap[pw]? = some (.cells x.cells 38 (0, 0)))) [(85, .pointer (some ⟨pw, 1, none⟩)), (86, .int .u64 (a : Nat)), (87, .int .i64 0), (88, .pointer (some ⟨pk, 0, none⟩)), (89, .int .u64 (a : Nat)), (90, .bool true), (91, .bool true), (92, .pointer (some ⟨pw, 0, none⟩)), (93, .int .i64 x.k), (94, .bool true), (95, .bool true), (96, .bool true), (97, .pointer (some ⟨g, 0, none⟩)), (98, .pointer (some ⟨pw, 4, none⟩)), (99, .int .i64 x.nd), (100, .bool false), (101, .bool false)] _ (by kernel_rfl) (by kernel_rfl) (by kernel_rfl) (by kernel_rfl) rfl (HD.out _ HV1) ?_ (fun V2 HV2 => ?_)
                  · simp only [putAll, Act.put, List.setIfInBounds_toArray, List.set_cons_zero, List.set_cons_succ]
                    repeat' (first | exact AllTo.nil | refine AllTo.cons ?_ ?_)
                    all_goals first
                      | exact stepTo_no (by rfl) rfl
                      | (refine stepTo_yes (by rfl) (fun V hV K hK => ?_)
                         obtain ⟨y0, y1, y2, y3, y4, y5⟩ := KW.out V hV
                         go_simp
                         first
                           | exact hK.out _ hV
                           | (go_at_call 12; refine (HND.out V ⟨g, rfl, hV.out.1.pg⟩).mono ?_; rintro e V' ⟨rfl, rfl⟩; exact hK.out _ hV))
                  simp only [putAll, Act.put, List.setIfInBounds_toArray, List.set_cons_zero, List.set_cons_succ]
                  have HX1 : Hid (SP w V2 c g pt bm ps pk pc a b n' m' p' (if 1 ≤ 1 then m' a else m a) (if 2 ≤ 1 then m' b else m b) ∧ V2.heap[pw]? = some (.cells x.cells 38 (0, 0))) := by
                    have e : m' a = m a := by rw [← (HM'.out a)]; exact sayS_not (by have := HK.out; omega) HNT.out
                    show SP w _ c g pt bm ps pk pc a b n' m' p' (m' a) (m b) ∧ _
                    rw [e]
                    exact HV2.out
                  go_wp2
                  go_roundw
                  case rel => exact ⟨1, by omega, by go_num, HX1⟩
                  case measure => simp [intOf]
              · have HK : Hid (x.k > 2) := by show x.k > 2; omega
                have hd : decide (x.k = 2) = false := decide_eq_false hk2
                have hd2 : (x.k == 2) = false := by simpa using hk2
                have hd3 : decide (x.k < 2) = false := decide_eq_false hk3
                clear hk2 hk3
                have HT : Hid (SP w wr c g pt bm ps pk pc a b n' m' p' (m a) (m b) ∧ wr.heap[pw]? = some (.cells x.cells 38 (0, 0))) := HQ
                have KW : Hid (∀ V, Hid (SP w V c g pt bm ps pk pc a b n' m' p' (m a) (m b) ∧ V.heap[pw]? = some (.cells x.cells 38 (0, 0))) → V.cell? ⟨pw, 0, none⟩ = some (.int .i64 x.k) ∧ V.cell? ⟨pw, 1, none⟩ = some (.int .u64 (a : Nat)) ∧ V.cell? ⟨pw, 4, none⟩ = some (.int .i64 x.nd) ∧ V.cell? ⟨pk, 0, none⟩ = some (.int .u64 (a : Nat)) ∧ V.cell? ⟨ps, 0, none⟩ = some (.int .u32 ((m a) : Nat)) ∧ V.frozen? ⟨ps, 0, none⟩ = false) := fun V hV => by
                    obtain ⟨u0, u1, u2⟩ := wd_cells hV.out.2
                    exact ⟨u0, by rw [u1, HE.out], u2, block_cell hV.out.1.ke 0, block_cell hV.out.1.sd 0, block_free hV.out.1.sd 0⟩
                have HD : Hid (∀ V, Hid (SP w V c g pt bm ps pk pc a b n' m' p' (m a) (m b) ∧ V.heap[pw]? = some (.cells x.cells 38 (0, 0))) → Hid (SP w V.drew c g pt bm ps pk pc a b n' m' p' (m a) (m b) ∧ V.drew.heap[pw]? = some (.cells x.cells 38 (0, 0)))) := fun V hV => ⟨hV.out.1.kept (Below.refl _ _).drew, hV.out.2⟩
                go_upto_region 20 with fail
                refine region_assign (fun V => Hid (SP w V c g pt bm ps pk pc a b n' m' p' (m a) (m b) ∧ V.heap[pw]? = some (.cells x.cells 38 (0, 0)))) [(72, .pointer (some ⟨pw, 1, none⟩)), (73, .int .u64 (a : Nat)), (74, .int .i64 0), (75, .pointer (some ⟨pk, 0, none⟩)), (76, .int .u64 (a : Nat)), (77, .bool true), (78, .bool true), (79, .pointer (some ⟨pw, 0, none⟩)), (80, .int .i64 x.k), (81, .bool false), (82, .bool false)] _ (by kernel_rfl) (by kernel_rfl) (by kernel_rfl) (by kernel_rfl) rfl (HD.out _ HT) ?_ (fun V1 HV1 => ?_)
                · simp only [putAll, Act.put, List.setIfInBounds_toArray, List.set_cons_zero, List.set_cons_succ]
                  repeat' (first | exact AllTo.nil | refine AllTo.cons ?_ ?_)
                  all_goals first
                    | exact stepTo_no (by rfl) rfl
                    | (refine stepTo_yes (by rfl) (fun V hV K hK => ?_)
                       obtain ⟨y0, y1, y2, y3, y4, y5⟩ := KW.out V hV
                       go_simp
                       first
                         | exact hK.out _ hV)
                simp only [putAll, Act.put, List.setIfInBounds_toArray, List.set_cons_zero, List.set_cons_succ]
                go_upto_region 22 with fail
                refine region_assign (fun V => Hid (SP w V c g pt bm ps pk pc a b n' m' p' (m a) (m b) ∧ V.heap[pw]? = some (.cells x.cells 38 (0, 0)))) [(85, .pointer (some ⟨pw, 1, none⟩)), (86, .int .u64 (a : Nat)), (87, .int .i64 0), (88, .pointer (some ⟨pk, 0, none⟩)), (89, .int .u64 (a : Nat)), (90, .bool true), (91, .bool true), (92, .pointer (some ⟨pw, 0, none⟩)), (93, .int .i64 x.k), (94, .bool false), (95, .bool false), (96, .bool false), (97, undef), (98, undef), (99, undef), (100, undef), (101, .bool false)] _ (by kernel_rfl) (by kernel_rfl) (by kernel_rfl) (by kernel_rfl) rfl (HD.out _ HV1) ?_ (fun V2 HV2 => ?_)
                · simp only [putAll, Act.put, List.setIfInBounds_toArray, List.set_cons_zero, List.set_cons_succ]
                  repeat' (first | exact AllTo.nil | refine AllTo.cons ?_ ?_)
                  all_goals first
                    | exact stepTo_no (by rfl) rfl
                    | (refine stepTo_yes (by rfl) (fun V hV K hK => ?_)
                       obtain ⟨y0, y1, y2, y3, y4, y5⟩ := KW.out V hV
                       go_simp
                       first
                         | exact hK.out _ hV)
                simp only [putAll, Act.put, List.setIfInBounds_toArray, List.set_cons_zero, List.set_cons_succ]
                have HX1 : Hid (SP w V2 c g pt bm ps pk pc a b n' m' p' (if 1 ≤ 1 then m' a else m a) (if 2 ≤ 1 then m' b else m b) ∧ V2.heap[pw]? = some (.cells x.cells 38 (0, 0))) := by
                  have e : m' a = m a := by rw [← (HM'.out a)]; exact sayS_none HK.out
                  show SP w _ c g pt bm ps pk pc a b n' m' p' (m' a) (m b) ∧ _
                  rw [e]
                  exact HV2.out
                go_wp2
                go_roundw
                case rel => exact ⟨1, by omega, by go_num, HX1⟩
                case measure => simp [intOf]
          · have HE := hide he
            have hd : decide ((x.n : Int) = (a : Int)) = false := decide_eq_false (by omega)
            have hd2 : ((x.n : Int) == (a : Int)) = false := by rw [beq_eq_false_iff_ne]; omega
            clear he
            have HT : Hid (SP w wr c g pt bm ps pk pc a b n' m' p' (m a) (m b) ∧ wr.heap[pw]? = some (.cells x.cells 38 (0, 0))) := HQ
            have KW : Hid (∀ V, Hid (SP w V c g pt bm ps pk pc a b n' m' p' (m a) (m b) ∧ V.heap[pw]? = some (.cells x.cells 38 (0, 0))) → V.cell? ⟨pw, 0, none⟩ = some (.int .i64 x.k) ∧ V.cell? ⟨pw, 1, none⟩ = some (.int .u64 (x.n : Nat)) ∧ V.cell? ⟨pw, 4, none⟩ = some (.int .i64 x.nd) ∧ V.cell? ⟨pk, 0, none⟩ = some (.int .u64 (a : Nat)) ∧ V.cell? ⟨ps, 0, none⟩ = some (.int .u32 ((m a) : Nat)) ∧ V.frozen? ⟨ps, 0, none⟩ = false) := fun V hV => by
                obtain ⟨u0, u1, u2⟩ := wd_cells hV.out.2
                exact ⟨u0, u1, u2, block_cell hV.out.1.ke 0, block_cell hV.out.1.sd 0, block_free hV.out.1.sd 0⟩
            have HD : Hid (∀ V, Hid (SP w V c g pt bm ps pk pc a b n' m' p' (m a) (m b) ∧ V.heap[pw]? = some (.cells x.cells 38 (0, 0))) → Hid (SP w V.drew c g pt bm ps pk pc a b n' m' p' (m a) (m b) ∧ V.drew.heap[pw]? = some (.cells x.cells 38 (0, 0)))) := fun V hV => ⟨hV.out.1.kept (Below.refl _ _).drew, hV.out.2⟩
            go_upto_region 20 with fail
            refine region_assign (fun V => Hid (SP w V c g pt bm ps pk pc a b n' m' p' (m a) (m b) ∧ V.heap[pw]? = some (.cells x.cells 38 (0, 0)))) [(72, .pointer (some ⟨pw, 1, none⟩)), (73, .int .u64 (x.n : Nat)), (74, .int .i64 0), (75, .pointer (some ⟨pk, 0, none⟩)), (76, .int .u64 (a : Nat)), (77, .bool false), (78, .bool false), (79, undef), (80, undef), (81, undef), (82, .bool false)] _ (by kernel_rfl) (by kernel_rfl) (by kernel_rfl) (by kernel_rfl) rfl (HD.out _ HT) ?_ (fun V1 HV1 => ?_)
            · simp only [putAll, Act.put, List.setIfInBounds_toArray, List.set_cons_zero, List.set_cons_succ]
              repeat' (first | exact AllTo.nil | refine AllTo.cons ?_ ?_)
              all_goals first
                | exact stepTo_no (by rfl) rfl
                | (refine stepTo_yes (by rfl) (fun V hV K hK => ?_)
                   obtain ⟨y0, y1, y2, y3, y4, y5⟩ := KW.out V hV
                   go_simp
                   first
                     | exact hK.out _ hV)
            simp only [putAll, Act.put, List.setIfInBounds_toArray, List.set_cons_zero, List.set_cons_succ]
            go_upto_region 22 with fail
            refine region_assign (fun V => Hid (SP w V c g pt bm ps pk pc a b n' m' p' (m a) (m b) ∧ V.heap[pw]? = some (.cells x.cells 38 (0, 0)))) [(85, .pointer (some ⟨pw, 1, none⟩)), (86, .int .u64 (x.n : Nat)), (87, .int .i64 0), (88, .pointer (some ⟨pk, 0, none⟩)), (89, .int .u64 (a : Nat)), (90, .bool false), (91, .bool false), (92, undef), (93, undef), (94, undef), (95, .bool false), (96, .bool false), (97, undef), (98, undef), (99, undef), (100, undef), (101, .bool false)] _ (by kernel_rfl) (by kernel_rfl) (by kernel_rfl) (by kernel_rfl) rfl (HD.out _ HV1) ?_ (fun V2 HV2 => ?_)
            · simp only [putAll, Act.put, List.setIfInBounds_toArray, List.set_cons_zero, List.set_cons_succ]
              repeat' (first | exact AllTo.nil | refine AllTo.cons ?_ ?_)
              all_goals first
                | exact stepTo_no (by rfl) rfl
                | (refine stepTo_yes (by rfl) (fun V hV K hK => ?_)
                   obtain ⟨y0, y1, y2, y3, y4, y5⟩ := KW.out V hV
                   go_simp
                   first
                     | exact hK.out _ hV)
            simp only [putAll, Act.put, List.setIfInBounds_toArray, List.set_cons_zero, List.set_cons_succ]
            have HX1 : Hid (SP w V2 c g pt bm ps pk pc a b n' m' p' (if 1 ≤ 1 then m' a else m a) (if 2 ≤ 1 then m' b else m b) ∧ V2.heap[pw]? = some (.cells x.cells 38 (0, 0))) := by
              have e : m' a = m a := by rw [← (HM'.out a)]; exact sayS_other HE.out
              show SP w _ c g pt bm ps pk pc a b n' m' p' (m' a) (m b) ∧ _
              rw [e]
              exact HV2.out
            go_wp2
            go_roundw
            case rel => exact ⟨1, by omega, by go_num, HX1⟩
            case measure => simp [intOf]
        · by_cases he : x.n = b
          · have HE := hide he
            clear he
            by_cases hk2 : x.k = 2
            · have HK := hide hk2
              clear hk2
              have HT : Hid (SP w wr c g pt bm ps pk pc a b n' m' p' (m' a) (m b) ∧ wr.heap[pw]? = some (.cells x.cells 38 (0, 0))) := HQ
              have KW : Hid (∀ V, Hid (SP w V c g pt bm ps pk pc a b n' m' p' (m' a) (m b) ∧ V.heap[pw]? = some (.cells x.cells 38 (0, 0))) → V.cell? ⟨pw, 0, none⟩ = some (.int .i64 2) ∧ V.cell? ⟨pw, 1, none⟩ = some (.int .u64 (b : Nat)) ∧ V.cell? ⟨pw, 4, none⟩ = some (.int .i64 x.nd) ∧ V.cell? ⟨pk, 1, none⟩ = some (.int .u64 (b : Nat)) ∧ V.cell? ⟨ps, 1, none⟩ = some (.int .u32 ((m b) : Nat)) ∧ V.frozen? ⟨ps, 1, none⟩ = false) := fun V hV => by
                  obtain ⟨u0, u1, u2⟩ := wd_cells hV.out.2
                  exact ⟨by rw [u0, HK.out], by rw [u1, HE.out], u2, block_cell hV.out.1.ke 1, block_cell hV.out.1.sd 1, block_free hV.out.1.sd 1⟩
              have HD : Hid (∀ V, Hid (SP w V c g pt bm ps pk pc a b n' m' p' (m' a) (m b) ∧ V.heap[pw]? = some (.cells x.cells 38 (0, 0))) → Hid (SP w V.drew c g pt bm ps pk pc a b n' m' p' (m' a) (m b) ∧ V.drew.heap[pw]? = some (.cells x.cells 38 (0, 0)))) := fun V hV => ⟨hV.out.1.kept (Below.refl _ _).drew, hV.out.2⟩
              go_upto_region 20 with fail
              refine region_assign (fun V => Hid (SP w V c g pt bm ps pk pc a b n' m' p' (m' a) (m b) ∧ V.heap[pw]? = some (.cells x.cells 38 (0, 0)))) [(72, .pointer (some ⟨pw, 1, none⟩)), (73, .int .u64 (b : Nat)), (74, .int .i64 1), (75, .pointer (some ⟨pk, 1, none⟩)), (76, .int .u64 (b : Nat)), (77, .bool true), (78, .bool true), (79, .pointer (some ⟨pw, 0, none⟩)), (80, .int .i64 2), (81, .bool true), (82, .bool true)] _ (by kernel_rfl) (by kernel_rfl) (by kernel_rfl) (by kernel_rfl) rfl (HD.out _ HT) ?_ (fun V1 HV1 => ?_)
              · simp only [putAll, Act.put, List.setIfInBounds_toArray, List.set_cons_zero, List.set_cons_succ]
                repeat' (first | exact AllTo.nil | refine AllTo.cons ?_ ?_)
                all_goals first
                  | exact stepTo_no (by rfl) rfl
                  | (refine stepTo_yes (by rfl) (fun V hV K hK => ?_)
                     obtain ⟨y0, y1, y2, y3, y4, y5⟩ := KW.out V hV
                     go_simp
                     first
                       | exact hK.out _ hV)
              simp only [putAll, Act.put, List.setIfInBounds_toArray, List.set_cons_zero, List.set_cons_succ]
              obtain ⟨y0, y1, y2, y3, y4, y5⟩ := KW.out _ HV1
              have HX1 : Hid (SP w (V1.setCell ⟨ps, 1, none⟩ (.int .u32 0)) c g pt bm ps pk pc a b n' m' p' (if 1 ≤ 2 then m' a else m a) (if 2 ≤ 2 then m' b else m b) ∧ (V1.setCell ⟨ps, 1, none⟩ (.int .u32 0)).heap[pw]? = some (.cells x.cells 38 (0, 0))) := by
                have e : m' b = 0 := by rw [← (HM'.out b)]; exact sayS_drop HE.out HK.out
                show SP w _ c g pt bm ps pk pc a b n' m' p' (m' a) (m' b) ∧ _
                rw [e]
                exact ⟨HV1.out.1.set 1 _ (set_b HV1.out.1.sd _), HV1.out.1.word 1 _ HV1.out.2⟩
              go_wp2
              go_roundw
              case rel => exact ⟨2, by omega, by go_num, HX1⟩
              case measure => simp [intOf]
            · by_cases hk3 : x.k < 2
              · have HK := hide hk3
                have HK2 := hide hk2
                have hd : decide (x.k = 2) = false := decide_eq_false hk2
                have hd2 : (x.k == 2) = false := by simpa using hk2
                have hd3 : decide (x.k < 2) = true := decide_eq_true hk3
                clear hk2 hk3
                cases hnt : c.node x.nd with
                | true =>
                  have HNT := hide hnt
                  have HND := hide (fun V (h : PG V (some ⟨g, 0, none⟩) c) => node_live x.nd h HOK.out)
                  rw [hnt] at HND
                  have HWI := hide (fun V => with_any (m b) HSM.out.2 x.nd V)
                  clear hnt
                  have HT : Hid (SP w wr c g pt bm ps pk pc a b n' m' p' (m' a) (m b) ∧ wr.heap[pw]? = some (.cells x.cells 38 (0, 0))) := HQ
                  have KW : Hid (∀ V, Hid (SP w V c g pt bm ps pk pc a b n' m' p' (m' a) (m b) ∧ V.heap[pw]? = some (.cells x.cells 38 (0, 0))) → V.cell? ⟨pw, 0, none⟩ = some (.int .i64 x.k) ∧ V.cell? ⟨pw, 1, none⟩ = some (.int .u64 (b : Nat)) ∧ V.cell? ⟨pw, 4, none⟩ = some (.int .i64 x.nd) ∧ V.cell? ⟨pk, 1, none⟩ = some (.int .u64 (b : Nat)) ∧ V.cell? ⟨ps, 1, none⟩ = some (.int .u32 ((m b) : Nat)) ∧ V.frozen? ⟨ps, 1, none⟩ = false) := fun V hV => by
                      obtain ⟨u0, u1, u2⟩ := wd_cells hV.out.2
                      exact ⟨u0, by rw [u1, HE.out], u2, block_cell hV.out.1.ke 1, block_cell hV.out.1.sd 1, block_free hV.out.1.sd 1⟩
                  have HD : Hid (∀ V, Hid (SP w V c g pt bm ps pk pc a b n' m' p' (m' a) (m b) ∧ V.heap[pw]? = some (.cells x.cells 38 (0, 0))) → Hid (SP w V.drew c g pt bm ps pk pc a b n' m' p' (m' a) (m b) ∧ V.drew.heap[pw]? = some (.cells x.cells 38 (0, 0)))) := fun V hV => ⟨hV.out.1.kept (Below.refl _ _).drew, hV.out.2⟩
                  go_upto_region 20 with fail
                  refine region_assign (fun V => Hid (SP w V c g pt bm ps pk pc a b n' m' p' (m' a) (m b) ∧ V.heap[pw]? = some (.cells x.cells 38 (0, 0)))) [(72, .pointer (some ⟨pw, 1, none⟩)), (73, .int .u64 (b : Nat)), (74, .int .i64 1), (75, .pointer (some ⟨pk, 1, none⟩)), (76, .int .u64 (b : Nat)), (77, .bool true), (78, .bool true), (79, .pointer (some ⟨pw, 0, none⟩)), (80, .int .i64 x.k), (81, .bool false), (82, .bool false)] _ (by kernel_rfl) (by kernel_rfl) (by kernel_rfl) (by kernel_rfl) rfl (HD.out _ HT) ?_ (fun V1 HV1 => ?_)
                  · simp only [putAll, Act.put, List.setIfInBounds_toArray, List.set_cons_zero, List.set_cons_succ]
                    repeat' (first | exact AllTo.nil | refine AllTo.cons ?_ ?_)
                    all_goals first
                      | exact stepTo_no (by rfl) rfl
                      | (refine stepTo_yes (by rfl) (fun V hV K hK => ?_)
                         obtain ⟨y0, y1, y2, y3, y4, y5⟩ := KW.out V hV
                         go_simp
                         first
                           | exact hK.out _ hV)
                  simp only [putAll, Act.put, List.setIfInBounds_toArray, List.set_cons_zero, List.set_cons_succ]
                  go_upto_region 22 with fail
                  refine region_assign (fun V => Hid (SP w V c g pt bm ps pk pc a b n' m' p' (m' a) (m b) ∧ V.heap[pw]? = some (.cells x.cells 38 (0, 0)))) [(85, .pointer (some ⟨pw, 1, none⟩)), (86, .int .u64 (b : Nat)), (87, .int .i64 1), (88, .pointer (some ⟨pk, 1, none⟩)), (89, .int .u64 (b : Nat)), (90, .bool true), (91, .bool true), (92, .pointer (some ⟨pw, 0, none⟩)), (93, .int .i64 x.k), (94, .bool true), (95, .bool true), (96, .bool true), (97, .pointer (some ⟨g, 0, none⟩)), (98, .pointer (some ⟨pw, 4, none⟩)), (99, .int .i64 x.nd), (100, .bool true), (101, .bool true)] _ (by kernel_rfl) (by kernel_rfl) (by kernel_rfl) (by kernel_rfl) rfl (HD.out _ HV1) ?_ (fun V2 HV2 => ?_)
                  · simp only [putAll, Act.put, List.setIfInBounds_toArray, List.set_cons_zero, List.set_cons_succ]
                    repeat' (first | exact AllTo.nil | refine AllTo.cons ?_ ?_)
                    all_goals first
                      | exact stepTo_no (by rfl) rfl
                      | (refine stepTo_yes (by rfl) (fun V hV K hK => ?_)
                         obtain ⟨y0, y1, y2, y3, y4, y5⟩ := KW.out V hV
                         go_simp
                         first
                           | exact hK.out _ hV
                           | (go_at_call 12; refine (HND.out V ⟨g, rfl, hV.out.1.pg⟩).mono ?_; rintro e V' ⟨rfl, rfl⟩; exact hK.out _ hV))
                  simp only [putAll, Act.put, List.setIfInBounds_toArray, List.set_cons_zero, List.set_cons_succ]
                  go_upto_region 23 with fail
                  refine region_assignP (fun bb V => Hid (SP w V c g pt bm ps pk pc a b n' m' p' (m' a) (if bb = true then (withB (m b) x.nd) else (m b)) ∧ V.heap[pw]? = some (.cells x.cells 38 (0, 0)))) 8 [6, 7, 3, 2, 1, 5, 4, 0] [(102, .int .i64 1), (103, .int .i64 1), (104, .pointer (some ⟨ps, 1, none⟩)), (105, .int .u32 ((m b) : Nat)), (106, .pointer (some ⟨pw, 4, none⟩)), (107, .int .i64 x.nd), (108, .int .u32 (((withB (m b) x.nd) : Nat) : Int)), (109, .pointer (some ⟨ps, 1, none⟩))] _ (by kernel_rfl) (by decide) (by kernel_rfl) (by kernel_rfl) (by kernel_rfl) (by kernel_rfl) rfl (HD.out _ HV2) ?_ (fun V3 HV3 => ?_)
                  · simp only [putAll, Act.put, List.setIfInBounds_toArray, List.set_cons_zero, List.set_cons_succ]
                    repeat' (first | exact AllPre.nil | refine AllPre.pre (by decide) (by decide) ?_ ?_ | refine AllPre.at_ (by decide) ?_ ?_)
                    all_goals first
                      | (refine stepTo_yes (by rfl) (fun V hV K hK => ?_)
                         obtain ⟨y0, y1, y2, y3, y4, y5⟩ := KW.out V hV
                         go_simp
                         first
                           | exact hK.out _ hV
                           | (go_at_call 13; refine (HWI.out V).mono ?_; rintro e V' ⟨rfl, rfl⟩; exact hK.out _ hV))
                      | (refine ⟨by rfl, fun V hV K hK => ?_⟩
                         obtain ⟨y0, y1, y2, y3, y4, y5⟩ := KW.out V hV
                         have FIN : Hid (SP w (V.setCell ⟨ps, 1, none⟩ (.int .u32 (((withB (m b) x.nd) : Nat) : Int))) c g pt bm ps pk pc a b n' m' p' (m' a) (withB (m b) x.nd) ∧ (V.setCell ⟨ps, 1, none⟩ (.int .u32 (((withB (m b) x.nd) : Nat) : Int))).heap[pw]? = some (.cells x.cells 38 (0, 0))) := ⟨hV.out.1.set 1 _ (set_b hV.out.1.sd _), hV.out.1.word 1 _ hV.out.2⟩
                         go_simp
                         exact hK.out _ FIN)
                  simp only [putAll, Act.put, List.setIfInBounds_toArray, List.set_cons_zero, List.set_cons_succ]
                  have HX1 : Hid (SP w V3 c g pt bm ps pk pc a b n' m' p' (if 1 ≤ 2 then m' a else m a) (if 2 ≤ 2 then m' b else m b) ∧ V3.heap[pw]? = some (.cells x.cells 38 (0, 0))) := by
                    have e : m' b = (withB (m b) x.nd) := by rw [← (HM'.out b)]; exact sayS_say HE.out HK.out HNT.out
                    show SP w _ c g pt bm ps pk pc a b n' m' p' (m' a) (m' b) ∧ _
                    rw [e]
                    exact HV3.out
                  go_wp2
                  go_roundw
                  case rel => exact ⟨2, by omega, by go_num, HX1⟩
                  case measure => simp [intOf]
                | false =>
                  have HNT := hide hnt
                  have HND := hide (fun V (h : PG V (some ⟨g, 0, none⟩) c) => node_live x.nd h HOK.out)
                  rw [hnt] at HND
                  clear hnt
                  have HT : Hid (SP w wr c g pt bm ps pk pc a b n' m' p' (m' a) (m b) ∧ wr.heap[pw]? = some (.cells x.cells 38 (0, 0))) := HQ
                  have KW : Hid (∀ V, Hid (SP w V c g pt bm ps pk pc a b n' m' p' (m' a) (m b) ∧ V.heap[pw]? = some (.cells x.cells 38 (0, 0))) → V.cell? ⟨pw, 0, none⟩ = some (.int .i64 x.k) ∧ V.cell? ⟨pw, 1, none⟩ = some (.int .u64 (b : Nat)) ∧ V.cell? ⟨pw, 4, none⟩ = some (.int .i64 x.nd) ∧ V.cell? ⟨pk, 1, none⟩ = some (.int .u64 (b : Nat)) ∧ V.cell? ⟨ps, 1, none⟩ = some (.int .u32 ((m b) : Nat)) ∧ V.frozen? ⟨ps, 1, none⟩ = false) := fun V hV => by
                      obtain ⟨u0, u1, u2⟩ := wd_cells hV.out.2
                      exact ⟨u0, by rw [u1, HE.out], u2, block_cell hV.out.1.ke 1, block_cell hV.out.1.sd 1, block_free hV.out.1.sd 1⟩
                  have HD : Hid (∀ V, Hid (SP w V c g pt bm ps pk pc a b n' m' p' (m' a) (m b) ∧ V.heap[pw]? = some (.cells x.cells 38 (0, 0))) → Hid (SP w V.drew c g pt bm ps pk pc a b n' m' p' (m' a) (m b) ∧ V.drew.heap[pw]? = some (.cells x.cells 38 (0, 0)))) := fun V hV => ⟨hV.out.1.kept (Below.refl _ _).drew, hV.out.2⟩
                  go_upto_region 20 with fail
                  refine region_assign (fun V => Hid (SP w V c g pt bm ps pk pc a b n' m' p' (m' a) (m b) ∧ V.heap[pw]? = some (.cells x.cells 38 (0, 0)))) [(72, .pointer (some ⟨pw, 1, none⟩)), (73, .int .u64 (b : Nat)), (74, .int .i64 1), (75, .pointer (some ⟨pk, 1, none⟩)), (76, .int .u64 (b : Nat)), (77, .bool true), (78, .bool true), (79, .pointer (some ⟨pw, 0, none⟩)), (80, .int .i64 x.k), (81, .bool false), (82, .bool false)] _ (by kernel_rfl) (by kernel_rfl) (by kernel_rfl) (by kernel_rfl) rfl (HD.out _ HT) ?_ (fun V1 HV1 => ?_)
                  · simp only [putAll, Act.put, List.setIfInBounds_toArray, List.set_cons_zero, List.set_cons_succ]
                    repeat' (first | exact AllTo.nil | refine AllTo.cons ?_ ?_)
                    all_goals first
                      | exact stepTo_no (by rfl) rfl
                      | (refine stepTo_yes (by rfl) (fun V hV K hK => ?_)
                         obtain ⟨y0, y1, y2, y3, y4, y5⟩ := KW.out V hV
                         go_simp
                         first
                           | exact hK.out _ hV)
                  simp only [putAll, Act.put, List.setIfInBounds_toArray, List.set_cons_zero, List.set_cons_succ]
                  go_upto_region 22 with fail
                  refine region_assign (fun V => Hid (SP w V c g pt bm ps pk pc a b n' m' p' (m' a) (m b) ∧ V.heap[pw]? = some (.cells x.cells 38 (0, 0)))) [(85, .pointer (some ⟨pw, 1, none⟩)), (86, .int .u64 (b : Nat)), (87, .int .i64 1), (88, .pointer (some ⟨pk, 1, none⟩)), (89, .int .u64 (b : Nat)), (90, .bool true), (91, .bool true), (92, .pointer (some ⟨pw, 0, none⟩)), (93, .int .i64 x.k), (94, .bool true), (95, .bool true), (96, .bool true), (97, .pointer (some ⟨g, 0, none⟩)), (98, .pointer (some ⟨pw, 4, none⟩)), (99, .int .i64 x.nd), (100, .bool false), (101, .bool false)] _ (by kernel_rfl) (by kernel_rfl) (by kernel_rfl) (by kernel_rfl) rfl (HD.out _ HV1) ?_ (fun V2 HV2 => ?_)
                  · simp only [putAll, Act.put, List.setIfInBounds_toArray, List.set_cons_zero, List.set_cons_succ]
                    repeat' (first | exact AllTo.nil | refine AllTo.cons ?_ ?_)
                    all_goals first
                      | exact stepTo_no (by rfl) rfl
                      | (refine stepTo_yes (by rfl) (fun V hV K hK => ?_)
                         obtain ⟨y0, y1, y2, y3, y4, y5⟩ := KW.out V hV
                         go_simp
                         first
                           | exact hK.out _ hV
                           | (go_at_call 12; refine (HND.out V ⟨g, rfl, hV.out.1.pg⟩).mono ?_; rintro e V' ⟨rfl, rfl⟩; exact hK.out _ hV))
                  simp only [putAll, Act.put, List.setIfInBounds_toArray, List.set_cons_zero, List.set_cons_succ]
                  have HX1 : Hid (SP w V2 c g pt bm ps pk pc a b n' m' p' (if 1 ≤ 2 then m' a else m a) (if 2 ≤ 2 then m' b else m b) ∧ V2.heap[pw]? = some (.cells x.cells 38 (0, 0))) := by
                    have e : m' b = m b := by rw [← (HM'.out b)]; exact sayS_not (by have := HK.out; omega) HNT.out
                    show SP w _ c g pt bm ps pk pc a b n' m' p' (m' a) (m' b) ∧ _
                    rw [e]
                    exact HV2.out
                  go_wp2
                  go_roundw
                  case rel => exact ⟨2, by omega, by go_num, HX1⟩
                  case measure => simp [intOf]
              · have HK : Hid (x.k > 2) := by show x.k > 2; omega
                have hd : decide (x.k = 2) = false := decide_eq_false hk2
                have hd2 : (x.k == 2) = false := by simpa using hk2
                have hd3 : decide (x.k < 2) = false := decide_eq_false hk3
                clear hk2 hk3
                have HT : Hid (SP w wr c g pt bm ps pk pc a b n' m' p' (m' a) (m b) ∧ wr.heap[pw]? = some (.cells x.cells 38 (0, 0))) := HQ
                have KW : Hid (∀ V, Hid (SP w V c g pt bm ps pk pc a b n' m' p' (m' a) (m b) ∧ V.heap[pw]? = some (.cells x.cells 38 (0, 0))) → V.cell? ⟨pw, 0, none⟩ = some (.int .i64 x.k) ∧ V.cell? ⟨pw, 1, none⟩ = some (.int .u64 (b : Nat)) ∧ V.cell? ⟨pw, 4, none⟩ = some (.int .i64 x.nd) ∧ V.cell? ⟨pk, 1, none⟩ = some (.int .u64 (b : Nat)) ∧ V.cell? ⟨ps, 1, none⟩ = some (.int .u32 ((m b) : Nat)) ∧ V.frozen? ⟨ps, 1, none⟩ = false) := fun V hV => by
                    obtain ⟨u0, u1, u2⟩ := wd_cells hV.out.2
                    exact ⟨u0, by rw [u1, HE.out], u2, block_cell hV.out.1.ke 1, block_cell hV.out.1.sd 1, block_free hV.out.1.sd 1⟩
                have HD : Hid (∀ V, Hid (SP w V c g pt bm ps pk pc a b n' m' p' (m' a) (m b) ∧ V.heap[pw]? = some (.cells x.cells 38 (0, 0))) → Hid (SP w V.drew c g pt bm ps pk pc a b n' m' p' (m' a) (m b) ∧ V.drew.heap[pw]? = some (.cells x.cells 38 (0, 0)))) := fun V hV => ⟨hV.out.1.kept (Below.refl _ _).drew, hV.out.2⟩
                go_upto_region 20 with fail
                refine region_assign (fun V => Hid (SP w V c g pt bm ps pk pc a b n' m' p' (m' a) (m b) ∧ V.heap[pw]? = some (.cells x.cells 38 (0, 0)))) [(72, .pointer (some ⟨pw, 1, none⟩)), (73, .int .u64 (b : Nat)), (74, .int .i64 1), (75, .pointer (some ⟨pk, 1, none⟩)), (76, .int .u64 (b : Nat)), (77, .bool true), (78, .bool true), (79, .pointer (some ⟨pw, 0, none⟩)), (80, .int .i64 x.k), (81, .bool false), (82, .bool false)] _ (by kernel_rfl) (by kernel_rfl) (by kernel_rfl) (by kernel_rfl) rfl (HD.out _ HT) ?_ (fun V1 HV1 => ?_)
                · simp only [putAll, Act.put, List.setIfInBounds_toArray, List.set_cons_zero, List.set_cons_succ]
                  repeat' (first | exact AllTo.nil | refine AllTo.cons ?_ ?_)
                  all_goals first
                    | exact stepTo_no (by rfl) rfl
                    | (refine stepTo_yes (by rfl) (fun V hV K hK => ?_)
                       obtain ⟨y0, y1, y2, y3, y4, y5⟩ := KW.out V hV
                       go_simp
                       first
                         | exact hK.out _ hV)
                simp only [putAll, Act.put, List.setIfInBounds_toArray, List.set_cons_zero, List.set_cons_succ]
                go_upto_region 22 with fail
                refine region_assign (fun V => Hid (SP w V c g pt bm ps pk pc a b n' m' p' (m' a) (m b) ∧ V.heap[pw]? = some (.cells x.cells 38 (0, 0)))) [(85, .pointer (some ⟨pw, 1, none⟩)), (86, .int .u64 (b : Nat)), (87, .int .i64 1), (88, .pointer (some ⟨pk, 1, none⟩)), (89, .int .u64 (b : Nat)), (90, .bool true), (91, .bool true), (92, .pointer (some ⟨pw, 0, none⟩)), (93, .int .i64 x.k), (94, .bool false), (95, .bool false), (96, .bool false), (97, undef), (98, undef), (99, undef), (100, undef), (101, .bool false)] _ (by kernel_rfl) (by kernel_rfl) (by kernel_rfl) (by kernel_rfl) rfl (HD.out _ HV1) ?_ (fun V2 HV2 => ?_)
                · simp only [putAll, Act.put, List.setIfInBounds_toArray, List.set_cons_zero, List.set_cons_succ]
                  repeat' (first | exact AllTo.nil | refine AllTo.cons ?_ ?_)
                  all_goals first
                    | exact stepTo_no (by rfl) rfl
                    | (refine stepTo_yes (by rfl) (fun V hV K hK => ?_)
                       obtain ⟨y0, y1, y2, y3, y4, y5⟩ := KW.out V hV
                       go_simp
                       first
                         | exact hK.out _ hV)
                simp only [putAll, Act.put, List.setIfInBounds_toArray, List.set_cons_zero, List.set_cons_succ]
                have HX1 : Hid (SP w V2 c g pt bm ps pk pc a b n' m' p' (if 1 ≤ 2 then m' a else m a) (if 2 ≤ 2 then m' b else m b) ∧ V2.heap[pw]? = some (.cells x.cells 38 (0, 0))) := by
                  have e : m' b = m b := by rw [← (HM'.out b)]; exact sayS_none HK.out
                  show SP w _ c g pt bm ps pk pc a b n' m' p' (m' a) (m' b) ∧ _
                  rw [e]
                  exact HV2.out
                go_wp2
                go_roundw
                case rel => exact ⟨2, by omega, by go_num, HX1⟩
                case measure => simp [intOf]
          · have HE := hide he
            have hd : decide ((x.n : Int) = (b : Int)) = false := decide_eq_false (by omega)
            have hd2 : ((x.n : Int) == (b : Int)) = false := by rw [beq_eq_false_iff_ne]; omega
            clear he
            have HT : Hid (SP w wr c g pt bm ps pk pc a b n' m' p' (m' a) (m b) ∧ wr.heap[pw]? = some (.cells x.cells 38 (0, 0))) := HQ
            have KW : Hid (∀ V, Hid (SP w V c g pt bm ps pk pc a b n' m' p' (m' a) (m b) ∧ V.heap[pw]? = some (.cells x.cells 38 (0, 0))) → V.cell? ⟨pw, 0, none⟩ = some (.int .i64 x.k) ∧ V.cell? ⟨pw, 1, none⟩ = some (.int .u64 (x.n : Nat)) ∧ V.cell? ⟨pw, 4, none⟩ = some (.int .i64 x.nd) ∧ V.cell? ⟨pk, 1, none⟩ = some (.int .u64 (b : Nat)) ∧ V.cell? ⟨ps, 1, none⟩ = some (.int .u32 ((m b) : Nat)) ∧ V.frozen? ⟨ps, 1, none⟩ = false) := fun V hV => by
                obtain ⟨u0, u1, u2⟩ := wd_cells hV.out.2
                exact ⟨u0, u1, u2, block_cell hV.out.1.ke 1, block_cell hV.out.1.sd 1, block_free hV.out.1.sd 1⟩
            have HD : Hid (∀ V, Hid (SP w V c g pt bm ps pk pc a b n' m' p' (m' a) (m b) ∧ V.heap[pw]? = some (.cells x.cells 38 (0, 0))) → Hid (SP w V.drew c g pt bm ps pk pc a b n' m' p' (m' a) (m b) ∧ V.drew.heap[pw]? = some (.cells x.cells 38 (0, 0)))) := fun V hV => ⟨hV.out.1.kept (Below.refl _ _).drew, hV.out.2⟩
            go_upto_region 20 with fail
            refine region_assign (fun V => Hid (SP w V c g pt bm ps pk pc a b n' m' p' (m' a) (m b) ∧ V.heap[pw]? = some (.cells x.cells 38 (0, 0)))) [(72, .pointer (some ⟨pw, 1, none⟩)), (73, .int .u64 (x.n : Nat)), (74, .int .i64 1), (75, .pointer (some ⟨pk, 1, none⟩)), (76, .int .u64 (b : Nat)), (77, .bool false), (78, .bool false), (79, undef), (80, undef), (81, undef), (82, .bool false)] _ (by kernel_rfl) (by kernel_rfl) (by kernel_rfl) (by kernel_rfl) rfl (HD.out _ HT) ?_ (fun V1 HV1 => ?_)
            · simp only [putAll, Act.put, List.setIfInBounds_toArray, List.set_cons_zero, List.set_cons_succ]
              repeat' (first | exact AllTo.nil | refine AllTo.cons ?_ ?_)
              all_goals first
                | exact stepTo_no (by rfl) rfl
                | (refine stepTo_yes (by rfl) (fun V hV K hK => ?_)
                   obtain ⟨y0, y1, y2, y3, y4, y5⟩ := KW.out V hV
                   go_simp
                   first
                     | exact hK.out _ hV)
            simp only [putAll, Act.put, List.setIfInBounds_toArray, List.set_cons_zero, List.set_cons_succ]
            go_upto_region 22 with fail
            refine region_assign (fun V => Hid (SP w V c g pt bm ps pk pc a b n' m' p' (m' a) (m b) ∧ V.heap[pw]? = some (.cells x.cells 38 (0, 0)))) [(85, .pointer (some ⟨pw, 1, none⟩)), (86, .int .u64 (x.n : Nat)), (87, .int .i64 1), (88, .pointer (some ⟨pk, 1, none⟩)), (89, .int .u64 (b : Nat)), (90, .bool false), (91, .bool false), (92, undef), (93, undef), (94, undef), (95, .bool false), (96, .bool false), (97, undef), (98, undef), (99, undef), (100, undef), (101, .bool false)] _ (by kernel_rfl) (by kernel_rfl) (by kernel_rfl) (by kernel_rfl) rfl (HD.out _ HV1) ?_ (fun V2 HV2 => ?_)
            · simp only [putAll, Act.put, List.setIfInBounds_toArray, List.set_cons_zero, List.set_cons_succ]
              repeat' (first | exact AllTo.nil | refine AllTo.cons ?_ ?_)
              all_goals first
                | exact stepTo_no (by rfl) rfl
                | (refine stepTo_yes (by rfl) (fun V hV K hK => ?_)
                   obtain ⟨y0, y1, y2, y3, y4, y5⟩ := KW.out V hV
                   go_simp
                   first
                     | exact hK.out _ hV)
            simp only [putAll, Act.put, List.setIfInBounds_toArray, List.set_cons_zero, List.set_cons_succ]
            have HX1 : Hid (SP w V2 c g pt bm ps pk pc a b n' m' p' (if 1 ≤ 2 then m' a else m a) (if 2 ≤ 2 then m' b else m b) ∧ V2.heap[pw]? = some (.cells x.cells 38 (0, 0))) := by
              have e : m' b = m b := by rw [← (HM'.out b)]; exact sayS_other HE.out
              show SP w _ c g pt bm ps pk pc a b n' m' p' (m' a) (m' b) ∧ _
              rw [e]
              exact HV2.out
            go_wp2
            go_roundw
            case rel => exact ⟨2, by omega, by go_num, HX1⟩
            case measure => simp [intOf]
        · have HT : Hid (SP w wr c g pt bm ps pk pc a b n' m' p' (m' a) (m' b) ∧ wr.heap[pw]? = some (.cells x.cells 38 (0, 0))) := HQ
          clear HQ
          go_wp2
          go_roundw
          case rel => exact ⟨k + 1, by omega, by omega, by go_num, ⟨n', m', p', HN'.out, HAL'.out, HT.out.1⟩⟩
          case measure => simp [intOf]; omega
    · obtain ⟨n, m, p, hnk, hal, hsp⟩ := HR.out
      have HT := hide hsp
      have HAL := hide hal
      clear hnk hal hsp HR
      go_upto_region 10 with fail
      go_cut [45] (fun s45 V => s45 = .bool false ∧ Hid (V = wr))
      case first =>
        by_cases h1 : k < len
        · have h2 : ¬ k < 60 := fun h => hin ⟨h1, h⟩
          have hk : k = 60 := by omega
          subst hk
          go_wp2
          go_meet
          case rel => exact ⟨rfl, rfl⟩
        · have h2 : k = len := by omega
          subst h2
          go_wp2
          go_meet
          case rel => exact ⟨rfl, rfl⟩
      case rest =>
      obtain ⟨rfl, HWC⟩ := hcut
      have hwc := HWC.out
      subst hwc
      clear HWC hin
      have HLT := hide (And.intro (HT.out.ty.tm.small a) (HT.out.ty.tm.small b))
      have hf1 : 1 ≤ f := by rw [← HG.out]; exact HOK.out.f1
      have hf3 : f ≤ 3 := by rw [← HG.out]; exact HOK.out.f3
      have hwr : IntKind.i64.wrap (f + 1) = f + 1 := by simp [IntKind.wrap, IntKind.bits, IntKind.signed]; omega
      obtain ⟨S, hS⟩ : ∃ S : World → Prop, S = fun V => Hid (SP w V c g pt bm ps pk pc a b n m p (m a) (m b)) := ⟨_, rfl⟩
      have hout : ∀ V, S V → SP w V c g pt bm ps pk pc a b n m p (m a) (m b) := fun V h => by rw [hS] at h; exact h.out
      have hin' : ∀ V, SP w V c g pt bm ps pk pc a b n m p (m a) (m b) → S V := fun V h => by rw [hS]; exact h
      have HS0 := hide (hin' _ HT.out)
      have HKS : Hid (∀ V, S V → V.cell? ⟨pk, 0, none⟩ = some (.int .u64 (a : Nat)) ∧ V.cell? ⟨pk, 1, none⟩ = some (.int .u64 (b : Nat)) ∧ V.cell? ⟨ps, 0, none⟩ = some (.int .u32 ((m a : Nat) : Int)) ∧ V.cell? ⟨ps, 1, none⟩ = some (.int .u32 ((m b : Nat) : Int)) ∧ V.cell? ⟨pc, 0, none⟩ = some (.int .i64 f)) := fun V hV =>
        ⟨block_cell (hout V hV).ke 0, block_cell (hout V hV).ke 1, block_cell (hout V hV).sd 0, block_cell (hout V hV).sd 1, by rw [← HG.out]; exact block_cell (hout V hV).cf 0⟩
      have HKB : Hid (∀ V V', S V → Below V.heap.size V V' → S V') := fun V V' h h' => hin' V' ((hout V h).kept h')
      have HDR : Hid (∀ V, S V → S V.drew) := fun V h => hin' _ ((hout V h).kept (Below.refl _ _).drew)
      have HRA := hide (fun V (hV : S V) => treached (hout V hV).ty HOK.out a HA64.out.1)
      have HRB := hide (fun V (hV : S V) => treached (hout V hV).ty HOK.out b HA64.out.2)
      have HNA := hide (fun V (hV : S V) => tnodes (hout V hV).ty a HA64.out.1)
      have HNB := hide (fun V (hV : S V) => tnodes (hout V hV).ty b HA64.out.2)
      have HCA := hide (fun V => count_any (m a) HLT.out.1 V)
      have HCB := hide (fun V => count_any (m b) HLT.out.2 V)
      have hva : decide (((countB (m a) : Nat) : Int) ≥ f + 1) = c.maj (m a) := by rw [maj_count (HAL.out a), HG.out]
      have hvb : decide (((countB (m b) : Nat) : Int) ≥ f + 1) = c.maj (m b) := by rw [maj_count (HAL.out b), HG.out]
      have hva1 : decide (f + 1 ≤ ((countB (m a) : Nat) : Int)) = c.maj (m a) := hva
      have hva2 : decide (f < ((countB (m a) : Nat) : Int)) = c.maj (m a) := by rw [← hva]; exact decide_eq_decide.2 (by omega)
      have hvb1 : decide (f + 1 ≤ ((countB (m b) : Nat) : Int)) = c.maj (m b) := hvb
      have hvb2 : decide (f < ((countB (m b) : Nat) : Int)) = c.maj (m b) := by rw [← hvb]; exact decide_eq_decide.2 (by omega)
      have HMM := hide (fun (h1 : c.maj (m a) = true) (h2 : c.maj (m b) = true) => maj_meet HOK.out h1 h2)
      rw [HAL.out a, HAL.out b] at HMM
      have HCR := hide (fun V => cross_any (m a) (m b) HLT.out.1 HLT.out.2 V)
      have HHS := hide (fun (x : Nat) V => has_any (m a) HLT.out.1 x V)
      have HHT := hide (fun (x : Nat) V => has_any (m b) HLT.out.2 x V)
      have HHB : Hid (∀ (u x : Nat), x < 32 → u.testBit x = true → hasB u (x : Int) = true) := fun u x hx h => by unfold hasB; rw [decide_eq_true (by omega), Bool.true_and, Int.toNat_natCast]; exact h
      have HFB : Hid (∀ V, S V → Below w.heap.size w V) := fun V h => (hout V h).below
      rw [HG.out] at HMM
      clear hS hout hin' HT HAL HF HN HBW HAO HOK HA64 HG HLT
      generalize c.maj (m a) = va at *
      generalize c.maj (m b) = vb at *
      generalize ((countB (m a) : Nat) : Int) = cna at *
      generalize ((countB (m b) : Nat) : Int) = cnb at *
      generalize ((m a : Nat) : Int) = ma at *
      generalize ((m b : Nat) : Int) = mb' at *
      generalize (a : Int) = a' at *
      generalize (b : Int) = b' at *
      go_wp2_with fail
      go_loopw [17] (fun j wq => ∃ q : Nat, q ≤ 2 ∧ j = .int .i64 (q : Nat) ∧ Hid (S wq)) (fun j _ => 2 - (intOf j).toNat)
      case atStart => exact ⟨0, by omega, rfl, HS0⟩
      case round =>
        obtain ⟨q, hq, rfl, HQ⟩ := hrel
        have hq3 : q = 0 ∨ q = 1 ∨ q = 2 := by omega
        rcases hq3 with rfl | rfl | rfl
        · go_upto_region 27 with fail
          refine region_assign (fun V => Hid (S V)) [(114, .pointer (some ⟨pt, 0, none⟩)), (115, .int .i64 0), (116, .pointer (some ⟨pk, 0, none⟩)), (117, .int .u64 a'), (118, .bool va), (119, .int .i64 0), (120, .pointer (some ⟨ps, 0, none⟩)), (121, .int .u32 ma), (122, .int .i64 cna), (123, .pointer (some ⟨pc, 0, none⟩)), (124, .int .i64 f), (125, .int .i64 (f + 1)), (126, .bool va), (127, .bool false), (128, .bool false), (129, .pointer (some ⟨pt, 0, none⟩)), (130, .int .i64 0), (131, .pointer (some ⟨pk, 0, none⟩)), (132, .int .u64 a'), (133, .int .u32 ma), (134, .int .i64 0), (135, .pointer (some ⟨ps, 0, none⟩)), (136, .int .u32 ma), (137, .bool false), (138, .bool false)] _ (by kernel_rfl) (by kernel_rfl) (by kernel_rfl) (by kernel_rfl) rfl (HDR.out _ HQ.out) ?_ (fun V1 HV1 => ?_)
          · simp only [putAll, Act.put, List.setIfInBounds_toArray, List.set_cons_zero, List.set_cons_succ]
            repeat' (first | exact AllTo.nil | refine AllTo.cons ?_ ?_)
            all_goals first
              | exact stepTo_no (by rfl) rfl
              | (refine stepTo_yes (by rfl) (fun V hV K hK => ?_)
                 obtain ⟨y0, y1, y2, y3, y4⟩ := HKS.out V hV.out
                 go_simp
                 first
                   | exact hK.out _ hV
                   | (go_at_call 14; refine (HRA.out V hV.out).mono ?_; rintro e V' ⟨rfl, hV'⟩; exact hK.out _ (HKB.out _ _ hV.out hV'))
                   | (go_at_call 15; refine (HCA.out V).mono ?_; rintro e V' ⟨rfl, hV'⟩; exact hK.out _ (HKB.out _ _ hV.out hV'))
                   | (go_at_call 16; refine (HNA.out V hV.out).mono ?_; rintro e V' ⟨rfl, rfl⟩; exact hK.out _ hV)
                   | (rw [hva]; exact hK.out _ hV) | (rw [hva1]; exact hK.out _ hV) | (rw [hva2]; exact hK.out _ hV) | (cases va <;> exact hK.out _ hV) | (cases va <;> simp <;> exact hK.out _ hV))
          simp only [putAll, Act.put, List.setIfInBounds_toArray, List.set_cons_zero, List.set_cons_succ]
          go_wp2
          go_roundw
          case rel => exact ⟨1, by omega, by go_num, HV1⟩
          case measure => simp [intOf]
        · go_upto_region 27 with fail
          refine region_assign (fun V => Hid (S V)) [(114, .pointer (some ⟨pt, 0, none⟩)), (115, .int .i64 1), (116, .pointer (some ⟨pk, 1, none⟩)), (117, .int .u64 b'), (118, .bool vb), (119, .int .i64 1), (120, .pointer (some ⟨ps, 1, none⟩)), (121, .int .u32 mb'), (122, .int .i64 cnb), (123, .pointer (some ⟨pc, 0, none⟩)), (124, .int .i64 f), (125, .int .i64 (f + 1)), (126, .bool vb), (127, .bool false), (128, .bool false), (129, .pointer (some ⟨pt, 0, none⟩)), (130, .int .i64 1), (131, .pointer (some ⟨pk, 1, none⟩)), (132, .int .u64 b'), (133, .int .u32 mb'), (134, .int .i64 1), (135, .pointer (some ⟨ps, 1, none⟩)), (136, .int .u32 mb'), (137, .bool false), (138, .bool false)] _ (by kernel_rfl) (by kernel_rfl) (by kernel_rfl) (by kernel_rfl) rfl (HDR.out _ HQ.out) ?_ (fun V1 HV1 => ?_)
          · simp only [putAll, Act.put, List.setIfInBounds_toArray, List.set_cons_zero, List.set_cons_succ]
            repeat' (first | exact AllTo.nil | refine AllTo.cons ?_ ?_)
            all_goals first
              | exact stepTo_no (by rfl) rfl
              | (refine stepTo_yes (by rfl) (fun V hV K hK => ?_)
                 obtain ⟨y0, y1, y2, y3, y4⟩ := HKS.out V hV.out
                 go_simp
                 first
                   | exact hK.out _ hV
                   | (go_at_call 14; refine (HRB.out V hV.out).mono ?_; rintro e V' ⟨rfl, hV'⟩; exact hK.out _ (HKB.out _ _ hV.out hV'))
                   | (go_at_call 15; refine (HCB.out V).mono ?_; rintro e V' ⟨rfl, hV'⟩; exact hK.out _ (HKB.out _ _ hV.out hV'))
                   | (go_at_call 16; refine (HNB.out V hV.out).mono ?_; rintro e V' ⟨rfl, rfl⟩; exact hK.out _ hV)
                   | (rw [hvb]; exact hK.out _ hV) | (rw [hvb1]; exact hK.out _ hV) | (rw [hvb2]; exact hK.out _ hV) | (cases vb <;> exact hK.out _ hV) | (cases vb <;> simp <;> exact hK.out _ hV))
          simp only [putAll, Act.put, List.setIfInBounds_toArray, List.set_cons_zero, List.set_cons_succ]
          go_wp2
          go_roundw
          case rel => exact ⟨2, by omega, by go_num, HV1⟩
          case measure => simp [intOf]
        · go_wp2_with fail
          refine (HRA.out _ HQ.out).mono ?_
          rintro e V1 ⟨rfl, b1⟩
          have H1 := hide (HKB.out _ _ HQ.out b1)
          clear b1
          cases va with
          | false =>
            go_wp2
            go_ret
            exact ⟨rfl, HFB.out _ H1.out⟩
          | true =>
            go_wp2_with fail
            refine (HRB.out _ H1.out).mono ?_
            rintro e V2 ⟨rfl, b2⟩
            have H2 := hide (HKB.out _ _ H1.out b2)
            clear b2
            cases vb with
            | false =>
              go_wp2
              go_ret
              exact ⟨rfl, HFB.out _ H2.out⟩
            | true =>
              obtain ⟨x, hx, hx7, hx1, hx2⟩ := HMM.out (by first | trivial | rfl) (by first | trivial | rfl)
              have hx32 : x < 32 := by omega
              rw [hx] at HCR
              have HS1 := hide (HHS.out x)
              have HT1 := hide (HHT.out x)
              rw [HHB.out _ x hx32 hx1] at HS1
              rw [HHB.out _ x hx32 hx2] at HT1
              clear hx hx1 hx2 HMM HHB HHS HHT hx7
              go_wp2_with fail
              refine (HNA.out _ H2.out).mono ?_
              rintro e V3 ⟨rfl, rfl⟩
              go_wp2_with fail
              refine (HNB.out _ H2.out).mono ?_
              rintro e V3 ⟨rfl, rfl⟩
              go_wp2_with fail
              refine (HCR.out _).mono ?_
              rintro e V4 ⟨rfl, b4⟩
              have H4 := hide (HKB.out _ _ H2.out b4)
              clear b4
              obtain ⟨y0, y1, y2, y3, y4⟩ := HKS.out _ H4.out
              go_wp2_with fail
              refine (HS1.out _).mono ?_
              rintro e V5 ⟨rfl, rfl⟩
              go_wp2_with fail
              refine (HT1.out _).mono ?_
              rintro e V5 ⟨rfl, rfl⟩
              go_wp2
              go_ret
              exact ⟨rfl, HFB.out _ H4.out⟩
set_option maxRecDepth 100000 in
set_option maxHeartbeats 1600000 in
theorem speakers_bad (c : Cf) (v : Value) (a b : Int) (w : World)
    (hM : ∀ W, Calls Try.prog 8 #[.agg c.cells] W fun e w' => e = .returned (.tuple #[.pointer none, .bool true]) ∧ Below W.heap.size W w') :
    Calls Try.prog 3 #[.agg c.cells, v, .int .u64 a, .int .u64 b] w fun e w' => e = .returned (.bool true) ∧ Below w.heap.size w w' := by
  have HM := hide hM
  clear hM
  obtain ⟨W1, hW1⟩ : ∃ W1, w.alloc (.cells c.cells 24) = W1 := ⟨_, rfl⟩
  have B1 : Hid (Below w.heap.size w W1) := by rw [← hW1]; exact (Below.refl _ w).alloc (Nat.le_refl _) _
  have C1 : W1.heap[w.heap.size]? = some (.cells c.cells 24 (0, 0)) := by rw [← hW1]; exact alloc_atK _ _
  obtain ⟨z0, z1, z2, z3, z4, z5, z6, z7, z8, z9⟩ := cfg_cells C1
  have HW1 := hide hW1
  clear hW1 C1
  unfold Cf.cells at *
  generalize c.f = f at *
  generalize c.mb = mb at *
  generalize (c.delay : Int) = d at *
  generalize (c.win : Int) = wn at *
  generalize (c.every : Int) = ev at *
  generalize (c.beat : Int) = bt at *
  generalize (c.ep : Int) = ep at *
  generalize (c.em : Int) = em at *
  generalize (c.mn : Int) = mn at *
  generalize (c.ms : Int) = ms at *
  go_enter Try.func3, Try.ntmps3
  go_upto_region 1 with fail
  rw [HW1.out]
  clear HW1
  go_wp2_with fail
  refine (HM.out W1).mono ?_
  rintro e w2 ⟨rfl, b2⟩
  have B2 := hide (B1.out.trans (b2.mono B1.out.size))
  clear b2 z0 z1 z2 z3 z4 z5 z6 z7 z8 z9
  go_wp2
  go_ret
  exact ⟨rfl, B2.out⟩
theorem speakers_walk (c : Cf) (hin : c.In) (sb off : Nat) (ao : Option Addr) (len cap : Nat) (ws : List Wd) (a b : Nat) (ha : a < 18446744073709551616) (hb : b < 18446744073709551616) (w : World)
    (hn : len = ws.length) (hn47 : len ≤ 140737488355328) (hF : Wds w sb off ws) (hao : 0 < len → ao = some ⟨sb, off, none⟩) (hbw : 0 < len → sb < w.heap.size) :
    Calls Try.prog 3 #[.agg c.cells, .slice ao len cap, .int .u64 (a : Nat), .int .u64 (b : Nat)] w fun e w' => e = .returned (.bool true) ∧ Below w.heap.size w w' := by
  rcases badOf_cases c with hk | ⟨k, hk⟩
  · exact speakers_ok c (cf_ok hk) sb off ao len cap ws a b ha hb w hn hn47 hF hao hbw (fun W => madeLaw_ok c hin hk W)
  · exact speakers_bad c _ a b w (fun W => madeLaw_bad c hin k hk W)
end Go.Proofs.Ytkjkhohbhgglnaa
