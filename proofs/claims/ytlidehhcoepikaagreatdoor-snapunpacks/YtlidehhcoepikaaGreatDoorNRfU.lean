import Derived.Test.YtlidehhcoepikaaGreatDoorM49
import Derived.Deep.RegionHeld
namespace Go.Proofs.YtlidehhcoepikaaGreatDoor
open Go.RowKit Crc
theorem fix1 (d p : Nat) (s : RS) (w : World) (h : RefS d w p s) : Calls Tryz.prog 40 #[.pointer (some ⟨p, 0, none⟩), .int .i64 1] w fun e w' => e = .returned (.int .u64 ((oV s : Nat) : Int)) ∧ RefS d w' p (oS s) ∧ w.grownBy w' (some p) := refFixed_any d p s 1 1 w rfl (by omega) (by omega) h
theorem sound_of_oS {s : RS} (h : (oS s).sound) : s.sound := by
  by_cases hs : s.sound
  · exact hs
  · rw [dd_o hs] at h; exact h
theorem imD_eq (s : RS) : imD s = rdL rdDe (cS (nS (imB s).2) 32) (cV (nS (imB s).2) 32) := rfl
theorem imS_eq (s : RS) : imS s = rdL rdSn (cS (imD s).2 16) (cV (imD s).2 16) := rfl
theorem rdIm_eq (s : RS) : rdIm s = (⟨nV s, nV (nS s), (imB s).1, (imD s).1, nV (imB s).2, (imS s).1⟩, (imS s).2) := rfl
theorem nS_eq (s : RS) : s.step (numAt s.rest).2.1 (numAt s.rest).2.2 = nS s := rfl
theorem nV_eq (s : RS) : (numAt s.rest).1 = nV s := rfl
attribute [local irreducible] nV nS oV oS cV cS bV bS rdC rdBk rdIm rdDe rdSn

set_option maxRecDepth 10000 in
set_option maxHeartbeats 6400000 in
theorem runpack_any {lim : Nat} {w : World} {ao : Option Addr} {n cap : Nat} {B : List Nat} (h : Shows lim w ao n cap B) (hlw : lim ≤ w.heap.size) :
    Calls Tryz.prog 14 #[.slice ao n cap] w (RuP B w) := by
  unfold RuP
  obtain ⟨iDe, hiDe, hz0De, hz1De, hz2De⟩ := info_parts infoDe
  obtain ⟨iSn, hiSn, hz0Sn, hz1Sn, hz2Sn⟩ := info_parts infoSn
  obtain ⟨W0, hW0⟩ : ∃ W0, (w.alloc (.cells #[.int .u64 0, .int .u64 0, .int .u64 0, .int .u64 0, .slice none 0 0, .slice none 0 0, .slice none 0 0, .slice none 0 0, .int .u64 0, .slice none 0 0] 33)).alloc (.cells #[.slice none 0 0, .int .i64 0] 43) = W0 := ⟨_, rfl⟩
  have e1 : (w.alloc (.cells #[.int .u64 0, .int .u64 0, .int .u64 0, .int .u64 0, .slice none 0 0, .slice none 0 0, .slice none 0 0, .slice none 0 0, .int .u64 0, .slice none 0 0] 33)).heap.size = w.heap.size + 1 := by simp
  have s0 : W0.heap.size = w.heap.size + 2 := by rw [← hW0]; simp
  have b0 : Below w.heap.size w W0 := by rw [← hW0]; exact ((Below.refl _ w).alloc (Nat.le_refl _) _).alloc (by simp) _
  have q0 : W0.heap[w.heap.size]? = some (.cells #[.int .u64 0, .int .u64 0, .int .u64 0, .int .u64 0, .slice none 0 0, .slice none 0 0, .slice none 0 0, .slice none 0 0, .int .u64 0, .slice none 0 0] 33 (0, 0)) := by rw [← hW0]; exact ((World.grownBy_alloc _ _ none).block _ (by rw [e1]; omega) (by simp)).trans (alloc_atN _ _)
  have q1 : W0.heap[w.heap.size + 1]? = some (.cells #[.slice none 0 0, .int .i64 0] 43 (0, 0)) := by rw [← hW0, ← e1]; exact alloc_atN _ _
  have RES : Hid (∀ W, Below W0.heap.size W0 W → (W.heap[w.heap.size]? = some (.cells #[.int .u64 0, .int .u64 0, .int .u64 0, .int .u64 0, .slice none 0 0, .slice none 0 0, .slice none 0 0, .slice none 0 0, .int .u64 0, .slice none 0 0] 33 (0, 0)) ∧ W.heap[w.heap.size + 1]? = some (.cells #[.slice none 0 0, .int .i64 0] 43 (0, 0))) ∧ Below w.heap.size w W) := fun W hb => ⟨⟨(hb.block _ (by omega)).trans q0, (hb.block _ (by omega)).trans q1⟩, b0.trans (hb.mono b0.size)⟩
  have HN := hide (refNew_any (h.kept (below_none b0) (fun k e => by cases e)) (Nat.le_trans hlw b0.size))
  have hnB : n = B.length := h.1
  have HW0 := hide hW0
  have HS0 := hide s0
  have U0 : Hid (40000 < n → unE B = ([⟨snapN, 0⟩], 120)) := fun h => by unfold unE; rw [if_pos (by omega)]
  have U1 : Hid (¬ 40000 < n → (hd1 B).sound → hdV B ≠ 1364414032 → unE B = ([⟨snapN, 0⟩], 122)) := fun h h2 h3 => by
    have e : hdA B = ([⟨snapN, 0⟩], 122) := by unfold hdA; rw [if_neg (fun e => e (RS.errC_sound h2)), if_pos h3]
    unfold unE; rw [if_neg (by omega), e, if_pos (by simp)]
  have U2 : Hid (¬ 40000 < n → (hd1 B).sound → hdV B = 1364414032 → (oS (hd1 B)).sound → oV (hd1 B) ≠ 1 → unE B = ([⟨snapN, 4⟩], 122)) := fun h h2 h3 h4 h5 => by
    have e : hdA B = ([⟨snapN, 4⟩], 122) := by unfold hdA; rw [if_neg (fun e => e (RS.errC_sound h2)), if_neg (fun e => e h3), if_neg (fun e => e (RS.errC_sound h4)), if_pos h5]
    unfold unE; rw [if_neg (by omega), e, if_pos (by simp)]
  -- what is left behind the head: a fault already, or none
  have U3 : Hid (¬ 40000 < n → ((hd1 B).sound → hdV B = 1364414032) → ((oS (hd1 B)).sound → oV (hd1 B) = 1) → ((unS B).endC ≠ 0 → unE B = ([⟨snapN, (unS B).endA⟩, ⟨wireN, (unS B).endA⟩], (unS B).endC)) ∧ ((unS B).endC = 0 → 0 ≤ (unI B).pv.part → unE B = ([⟨snapN, (unI B).pv.part⟩], 121)) ∧ ((unS B).endC = 0 → ¬ 0 ≤ (unI B).pv.part → unE B = ([], 0))) := fun h h2 h3 => by
    have key : (hdA B = ([], 0)) ∨ ((unS B).endC ≠ 0 ∧ hdA B = ([⟨snapN, (unS B).endA⟩, ⟨wireN, (unS B).endA⟩], (unS B).endC)) := by
      by_cases k1 : (hd1 B).sound
      · by_cases k2 : (oS (hd1 B)).sound
        · refine .inl ?_
          unfold hdA; rw [if_neg (fun e => e (RS.errC_sound k1)), if_neg (fun e => e (h2 k1)), if_neg (fun e => e (RS.errC_sound k2)), if_neg (fun e => e (h3 k2))]
        · refine .inr ?_
          have e : unS B = oS (hd1 B) := by unfold unS; exact dd_Im k2
          rw [e, (dead_end k2).1, (dead_end k2).2]
          refine ⟨RS.errC_not k2, ?_⟩
          unfold hdA; rw [if_neg (fun e => e (RS.errC_sound k1)), if_neg (fun e => e (h2 k1)), if_pos (RS.errC_not k2)]
      · refine .inr ?_
        have e0 : oS (hd1 B) = hd1 B := dd_o k1
        have e : unS B = hd1 B := by unfold unS; rw [e0]; exact dd_Im k1
        rw [e, (dead_end k1).1, (dead_end k1).2]
        refine ⟨RS.errC_not k1, ?_⟩
        unfold hdA; rw [if_pos (RS.errC_not k1)]
    rcases key with e | ⟨e1, e⟩
    · refine ⟨fun h5 => ?_, fun h5 h6 => ?_, fun h5 h6 => ?_⟩
      · unfold unE; rw [if_neg (by omega), e, if_neg (by simp), if_pos h5]
      · unfold unE; rw [if_neg (by omega), e, if_neg (by simp), if_neg (fun q => q h5), if_pos h6]
      · unfold unE; rw [if_neg (by omega), e, if_neg (by simp), if_neg (fun q => q h5), if_neg h6]
    · refine ⟨fun h5 => ?_, fun h5 => absurd h5 e1, fun h5 => absurd h5 e1⟩
      unfold unE; rw [if_neg (by omega), e, if_pos e1]
  have HV0 := hide (fun h => dead_hdV (B := B) h)
  have HO0 := hide (fun h => dead_oV (s := hd1 B) h)
  clear h hW0 s0 b0 q0 q1 e1 hnB
  go_enter Tryz.func14, Tryz.ntmps14
  by_cases hlen : 40000 < n
  · have hld : decide ((40000 : Int) < (n : Int)) = true := decide_eq_true (by omega)
    have HU := hide (U0.out hlen)
    have HB5 := hide (new0 snapN 0 120)
    unfold FvP snapN at HB5
    go_wp2_with fail
    rw [HW0.out]
    refine (HB5.out W0).mono ?_
    rintro e w5 ⟨ao4, cap4, rfl, G⟩
    have BW : Hid (Below W0.heap.size W0 w5) := by obtain ⟨b, off, hf, hb⟩ := G.out; exact hb
    have FVH : Hid (∃ b off, FV w5.heap.size w5 ao4 [⟨snapN, 0⟩] b off) := by obtain ⟨b, off, hf, hb⟩ := G.out; exact ⟨b, off, hf⟩
    clear G HB5
    have HC := hide (RES.out _ BW.out).1
    have FB := hide (RES.out _ BW.out).2
    have z0 := block_cell HC.out.1 0
    have f0 := block_free HC.out.1 0
    have z1 := block_cell HC.out.1 1
    have f1 := block_free HC.out.1 1
    have z2 := block_cell HC.out.1 2
    have f2 := block_free HC.out.1 2
    have z3 := block_cell HC.out.1 3
    have f3 := block_free HC.out.1 3
    have z4 := block_cell HC.out.1 4
    have f4 := block_free HC.out.1 4
    have z5 := block_cell HC.out.1 5
    have f5 := block_free HC.out.1 5
    have z6 := block_cell HC.out.1 6
    have f6 := block_free HC.out.1 6
    have z7 := block_cell HC.out.1 7
    have f7 := block_free HC.out.1 7
    have z8 := block_cell HC.out.1 8
    have f8 := block_free HC.out.1 8
    have z9 := block_cell HC.out.1 9
    have f9 := block_free HC.out.1 9
    have y0 := block_cell HC.out.2 0
    have y1 := block_cell HC.out.2 1
    have g0 := block_free HC.out.2 0
    have g1 := block_free HC.out.2 1
    simp at z0 z1 z2 z3 z4 z5 z6 z7 z8 z9 y0 y1
    have FIN : Hid (∀ x0 x1 x2 x3 x4 x5 x6 x7 x8 x9 u0 u1, Mi.zero.Own w.heap.size (((st10 w5 w.heap.size x0 x1 x2 x3 x4 x5 x6 x7 x8 x9).setCell ⟨w.heap.size + 1, 0, none⟩ u0).setCell ⟨w.heap.size + 1, 1, none⟩ u1) ∧ Mi.zero.val = unV B ∧ (∃ b off, FV (((st10 w5 w.heap.size x0 x1 x2 x3 x4 x5 x6 x7 x8 x9).setCell ⟨w.heap.size + 1, 0, none⟩ u0).setCell ⟨w.heap.size + 1, 1, none⟩ u1).heap.size (((st10 w5 w.heap.size x0 x1 x2 x3 x4 x5 x6 x7 x8 x9).setCell ⟨w.heap.size + 1, 0, none⟩ u0).setCell ⟨w.heap.size + 1, 1, none⟩ u1) ao4 (unE B).1 b off) ∧ Below w.heap.size w (((st10 w5 w.heap.size x0 x1 x2 x3 x4 x5 x6 x7 x8 x9).setCell ⟨w.heap.size + 1, 0, none⟩ u0).setCell ⟨w.heap.size + 1, 1, none⟩ u1)) := fun x0 x1 x2 x3 x4 x5 x6 x7 x8 x9 u0 u1 => by
      obtain ⟨b, off, hf⟩ := FVH.out
      exact ru_fin HC.out (Mi.zero_own (w.heap.size + 2) _) (by omega) (by unfold unV; rw [HU.out, if_neg (by simp)]; rfl) (by rw [HU.out]; exact hf) FB.out x0 x1 x2 x3 x4 x5 x6 x7 x8 x9 u0 u1
    clear HC FB
    go_wp2
    refine bodyPost_ret (v := .tuple #[.agg #[.int .u64 0, .int .u64 0, .int .u64 0, .int .u64 0, .slice none 0 0, .slice none 0 0, .slice none 0 0, .slice none 0 0, .int .u64 0, .slice none 0 0], .agg #[.slice ao4 1 cap4, .int .i64 120]]) (by simp [results, Tryz.results14, go_sem, z0, z1, z2, z3, z4, z5, z6, z7, z8, z9, y0, y1]) rfl ?_
    exact ⟨Mi.zero, ao4, cap4, by rw [HU.out]; rfl, FIN.out _ _ _ _ _ _ _ _ _ _ _ _⟩
  · have hld : decide ((40000 : Int) < (n : Int)) = false := decide_eq_false (by omega)
    go_wp2_with fail
    rw [HW0.out]
    refine HN.out.mono ?_
    rintro e w1 ⟨p, d, rfl, hp, hd, hdp, hR, hb1⟩
    have A1 : Hid (RefS d w1 p (RSn B) ∧ Below W0.heap.size W0 w1) := ⟨hR, hb1⟩
    clear hR hb1 HN
    have FIX := hide fix1
    have HSD := hide (fun h : (oS (hd1 B)).sound => sound_of_oS h)
    have IMD := hide imD_eq
    have IMS := hide imS_eq
    have RDI := hide rdIm_eq
    have NSE := hide nS_eq
    have NVE := hide nV_eq
    have N4 : Hid (Calls Tryz.prog 40 #[.pointer (some ⟨p, 0, none⟩), .int .i64 4] w1 fun e w' => e = .returned (.int .u64 ((hdV B : Nat) : Int)) ∧ Hid (RefS d w' p (hd1 B) ∧ Below W0.heap.size W0 w')) := (refFixed_any d p (RSn B) 4 4 w1 rfl (by omega) (by omega) A1.out.1).mono fun _ _ ⟨e, q1, q2⟩ => ⟨e, q1, A1.out.2.grown q2 A1.out.2.size (fun k e => by cases e; exact hp)⟩
    generalize hs1 : hd1 B = s1 at *
    generalize hdV B = hv at *
    go_upto_region 4 with fail
    go_cut [27] from 20 (fun s27 W => ∃ bb : Bool, s27 = .bool bb ∧ Hid ((RefS d W p s1 ∧ Below W0.heap.size W0 W) ∧ (bb = true → hv ≠ 1364414032 ∧ s1.sound) ∧ (bb = false → s1.sound → hv = 1364414032)))
    case first =>
      by_cases hm : hv = 1364414032
      · have hmd : (((hv : Nat) : Int) != 1364414032) = false := by simp; omega
        go_wp2_with fail
        refine N4.out.mono ?_
        rintro e w2 ⟨rfl, G2⟩
        go_wp2
        go_meet
        case rel => exact ⟨false, rfl, G2.out, (fun h => (by cases h)), fun _ _ => hm⟩
      · have hmd : (((hv : Nat) : Int) != 1364414032) = true := by simp; omega
        by_cases hs : s1.sound
        · go_wp2_with fail
          refine N4.out.mono ?_
          rintro e w2 ⟨rfl, G2⟩
          have HDD := hide (dead_sound d p s1 w2 G2.out.1 hs)
          go_wp2_with fail
          refine HDD.out.mono ?_
          rintro e w3 ⟨rfl, hw3⟩
          rw [hw3]
          clear hw3
          go_wp2
          go_meet
          case rel => exact ⟨true, rfl, G2.out, fun _ => ⟨hm, hs⟩, (fun h => (by cases h))⟩
        · go_wp2_with fail
          refine N4.out.mono ?_
          rintro e w2 ⟨rfl, G2⟩
          have HDD := hide (dead_not d p s1 w2 G2.out.1 hs)
          go_wp2_with fail
          refine HDD.out.mono ?_
          rintro e w3 ⟨rfl, hw3⟩
          rw [hw3]
          clear hw3
          go_wp2
          go_meet
          case rel => exact ⟨false, rfl, G2.out, (fun h => (by cases h)), fun _ h => absurd h hs⟩
    case rest =>
    obtain ⟨bb, rfl, HC2⟩ := hcut
    clear N4 A1
    cases bb with
    | true =>
      have HU := hide (U1.out hlen (HC2.out.2.1 rfl).2 (HC2.out.2.1 rfl).1)
      have HB5 := hide (new0 snapN 0 122)
      unfold FvP snapN at HB5
      have A2 := hide HC2.out.1.2
      go_wp2_with fail
      refine (HB5.out _).mono ?_
      rintro e w5 ⟨ao4, cap4, rfl, G⟩
      have BW : Hid (Below W0.heap.size W0 w5) := by obtain ⟨b, off, hf, hb⟩ := G.out; exact below_trans1 A2.out hb
      have FVH : Hid (∃ b off, FV w5.heap.size w5 ao4 [⟨snapN, 0⟩] b off) := by obtain ⟨b, off, hf, hb⟩ := G.out; exact ⟨b, off, hf⟩
      clear G HB5
      have HC := hide (RES.out _ BW.out).1
      have FB := hide (RES.out _ BW.out).2
      have z0 := block_cell HC.out.1 0
      have f0 := block_free HC.out.1 0
      have z1 := block_cell HC.out.1 1
      have f1 := block_free HC.out.1 1
      have z2 := block_cell HC.out.1 2
      have f2 := block_free HC.out.1 2
      have z3 := block_cell HC.out.1 3
      have f3 := block_free HC.out.1 3
      have z4 := block_cell HC.out.1 4
      have f4 := block_free HC.out.1 4
      have z5 := block_cell HC.out.1 5
      have f5 := block_free HC.out.1 5
      have z6 := block_cell HC.out.1 6
      have f6 := block_free HC.out.1 6
      have z7 := block_cell HC.out.1 7
      have f7 := block_free HC.out.1 7
      have z8 := block_cell HC.out.1 8
      have f8 := block_free HC.out.1 8
      have z9 := block_cell HC.out.1 9
      have f9 := block_free HC.out.1 9
      have y0 := block_cell HC.out.2 0
      have y1 := block_cell HC.out.2 1
      have g0 := block_free HC.out.2 0
      have g1 := block_free HC.out.2 1
      simp at z0 z1 z2 z3 z4 z5 z6 z7 z8 z9 y0 y1
      have FIN : Hid (∀ x0 x1 x2 x3 x4 x5 x6 x7 x8 x9 u0 u1, Mi.zero.Own w.heap.size (((st10 w5 w.heap.size x0 x1 x2 x3 x4 x5 x6 x7 x8 x9).setCell ⟨w.heap.size + 1, 0, none⟩ u0).setCell ⟨w.heap.size + 1, 1, none⟩ u1) ∧ Mi.zero.val = unV B ∧ (∃ b off, FV (((st10 w5 w.heap.size x0 x1 x2 x3 x4 x5 x6 x7 x8 x9).setCell ⟨w.heap.size + 1, 0, none⟩ u0).setCell ⟨w.heap.size + 1, 1, none⟩ u1).heap.size (((st10 w5 w.heap.size x0 x1 x2 x3 x4 x5 x6 x7 x8 x9).setCell ⟨w.heap.size + 1, 0, none⟩ u0).setCell ⟨w.heap.size + 1, 1, none⟩ u1) ao4 (unE B).1 b off) ∧ Below w.heap.size w (((st10 w5 w.heap.size x0 x1 x2 x3 x4 x5 x6 x7 x8 x9).setCell ⟨w.heap.size + 1, 0, none⟩ u0).setCell ⟨w.heap.size + 1, 1, none⟩ u1)) := fun x0 x1 x2 x3 x4 x5 x6 x7 x8 x9 u0 u1 => by
        obtain ⟨b, off, hf⟩ := FVH.out
        exact ru_fin HC.out (Mi.zero_own (w.heap.size + 2) _) (by omega) (by unfold unV; rw [HU.out, if_neg (by simp)]; rfl) (by rw [HU.out]; exact hf) FB.out x0 x1 x2 x3 x4 x5 x6 x7 x8 x9 u0 u1
      clear HC FB
      go_wp2
      refine bodyPost_ret (v := .tuple #[.agg #[.int .u64 0, .int .u64 0, .int .u64 0, .int .u64 0, .slice none 0 0, .slice none 0 0, .slice none 0 0, .slice none 0 0, .int .u64 0, .slice none 0 0], .agg #[.slice ao4 1 cap4, .int .i64 122]]) (by simp [results, Tryz.results14, go_sem, z0, z1, z2, z3, z4, z5, z6, z7, z8, z9, y0, y1]) rfl ?_
      exact ⟨Mi.zero, ao4, cap4, by rw [HU.out]; rfl, FIN.out _ _ _ _ _ _ _ _ _ _ _ _⟩
    | false =>
    have HM1 := hide (HC2.out.2.2 rfl)
    have N5 : Hid (Calls Tryz.prog 40 #[.pointer (some ⟨p, 0, none⟩), .int .i64 1] wc fun e w' => e = .returned (.int .u64 ((oV s1 : Nat) : Int)) ∧ Hid (RefS d w' p (oS s1) ∧ Below W0.heap.size W0 w')) := (FIX.out d p s1 wc HC2.out.1.1).mono fun _ _ ⟨e, q1, q2⟩ => ⟨e, q1, HC2.out.1.2.grown q2 HC2.out.1.2.size (fun k e => by cases e; exact hp)⟩
    have HQ : Hid (unI B = (rdIm (oS s1)).1 ∧ unS B = (rdIm (oS s1)).2) := by rw [← hs1]; exact ⟨rfl, rfl⟩
    clear HC2 hs1
    generalize oV s1 = o1 at *
    generalize oS s1 = s2 at *
    go_upto_region 6 with fail
    go_cut [37] from 20 (fun s37 W => ∃ bb : Bool, s37 = .bool bb ∧ Hid ((RefS d W p s2 ∧ Below W0.heap.size W0 W) ∧ (bb = true → o1 ≠ 1 ∧ s2.sound) ∧ (bb = false → s2.sound → o1 = 1)))
    case first =>
      by_cases hm : o1 = 1
      · have hmd : (((o1 : Nat) : Int) != 1) = false := by simp; omega
        go_wp2_with fail
        refine N5.out.mono ?_
        rintro e w2 ⟨rfl, G2⟩
        go_wp2
        go_meet
        case rel => exact ⟨false, rfl, G2.out, (fun h => (by cases h)), fun _ _ => hm⟩
      · have hmd : (((o1 : Nat) : Int) != 1) = true := by simp; omega
        by_cases hs : s2.sound
        · go_wp2_with fail
          refine N5.out.mono ?_
          rintro e w2 ⟨rfl, G2⟩
          have HDD := hide (dead_sound d p s2 w2 G2.out.1 hs)
          go_wp2_with fail
          refine HDD.out.mono ?_
          rintro e w3 ⟨rfl, hw3⟩
          rw [hw3]
          clear hw3
          go_wp2
          go_meet
          case rel => exact ⟨true, rfl, G2.out, fun _ => ⟨hm, hs⟩, (fun h => (by cases h))⟩
        · go_wp2_with fail
          refine N5.out.mono ?_
          rintro e w2 ⟨rfl, G2⟩
          have HDD := hide (dead_not d p s2 w2 G2.out.1 hs)
          go_wp2_with fail
          refine HDD.out.mono ?_
          rintro e w3 ⟨rfl, hw3⟩
          rw [hw3]
          clear hw3
          go_wp2
          go_meet
          case rel => exact ⟨false, rfl, G2.out, (fun h => (by cases h)), fun _ h => absurd h hs⟩
    case rest =>
    obtain ⟨bb, rfl, HC2⟩ := hcut
    clear N5
    cases bb with
    | true =>
      have HU := hide (U2.out hlen (HSD.out (HC2.out.2.1 rfl).2) (HM1.out (HSD.out (HC2.out.2.1 rfl).2)) (HC2.out.2.1 rfl).2 (HC2.out.2.1 rfl).1)
      have HB5 := hide (new0 snapN 4 122)
      unfold FvP snapN at HB5
      have A2 := hide HC2.out.1.2
      go_wp2_with fail
      refine (HB5.out _).mono ?_
      rintro e w5 ⟨ao4, cap4, rfl, G⟩
      have BW : Hid (Below W0.heap.size W0 w5) := by obtain ⟨b, off, hf, hb⟩ := G.out; exact below_trans1 A2.out hb
      have FVH : Hid (∃ b off, FV w5.heap.size w5 ao4 [⟨snapN, 4⟩] b off) := by obtain ⟨b, off, hf, hb⟩ := G.out; exact ⟨b, off, hf⟩
      clear G HB5
      have HC := hide (RES.out _ BW.out).1
      have FB := hide (RES.out _ BW.out).2
      have z0 := block_cell HC.out.1 0
      have f0 := block_free HC.out.1 0
      have z1 := block_cell HC.out.1 1
      have f1 := block_free HC.out.1 1
      have z2 := block_cell HC.out.1 2
      have f2 := block_free HC.out.1 2
      have z3 := block_cell HC.out.1 3
      have f3 := block_free HC.out.1 3
      have z4 := block_cell HC.out.1 4
      have f4 := block_free HC.out.1 4
      have z5 := block_cell HC.out.1 5
      have f5 := block_free HC.out.1 5
      have z6 := block_cell HC.out.1 6
      have f6 := block_free HC.out.1 6
      have z7 := block_cell HC.out.1 7
      have f7 := block_free HC.out.1 7
      have z8 := block_cell HC.out.1 8
      have f8 := block_free HC.out.1 8
      have z9 := block_cell HC.out.1 9
      have f9 := block_free HC.out.1 9
      have y0 := block_cell HC.out.2 0
      have y1 := block_cell HC.out.2 1
      have g0 := block_free HC.out.2 0
      have g1 := block_free HC.out.2 1
      simp at z0 z1 z2 z3 z4 z5 z6 z7 z8 z9 y0 y1
      have FIN : Hid (∀ x0 x1 x2 x3 x4 x5 x6 x7 x8 x9 u0 u1, Mi.zero.Own w.heap.size (((st10 w5 w.heap.size x0 x1 x2 x3 x4 x5 x6 x7 x8 x9).setCell ⟨w.heap.size + 1, 0, none⟩ u0).setCell ⟨w.heap.size + 1, 1, none⟩ u1) ∧ Mi.zero.val = unV B ∧ (∃ b off, FV (((st10 w5 w.heap.size x0 x1 x2 x3 x4 x5 x6 x7 x8 x9).setCell ⟨w.heap.size + 1, 0, none⟩ u0).setCell ⟨w.heap.size + 1, 1, none⟩ u1).heap.size (((st10 w5 w.heap.size x0 x1 x2 x3 x4 x5 x6 x7 x8 x9).setCell ⟨w.heap.size + 1, 0, none⟩ u0).setCell ⟨w.heap.size + 1, 1, none⟩ u1) ao4 (unE B).1 b off) ∧ Below w.heap.size w (((st10 w5 w.heap.size x0 x1 x2 x3 x4 x5 x6 x7 x8 x9).setCell ⟨w.heap.size + 1, 0, none⟩ u0).setCell ⟨w.heap.size + 1, 1, none⟩ u1)) := fun x0 x1 x2 x3 x4 x5 x6 x7 x8 x9 u0 u1 => by
        obtain ⟨b, off, hf⟩ := FVH.out
        exact ru_fin HC.out (Mi.zero_own (w.heap.size + 2) _) (by omega) (by unfold unV; rw [HU.out, if_neg (by simp)]; rfl) (by rw [HU.out]; exact hf) FB.out x0 x1 x2 x3 x4 x5 x6 x7 x8 x9 u0 u1
      clear HC FB
      go_wp2
      refine bodyPost_ret (v := .tuple #[.agg #[.int .u64 0, .int .u64 0, .int .u64 0, .int .u64 0, .slice none 0 0, .slice none 0 0, .slice none 0 0, .slice none 0 0, .int .u64 0, .slice none 0 0], .agg #[.slice ao4 1 cap4, .int .i64 122]]) (by simp [results, Tryz.results14, go_sem, z0, z1, z2, z3, z4, z5, z6, z7, z8, z9, y0, y1]) rfl ?_
      exact ⟨Mi.zero, ao4, cap4, by rw [HU.out]; rfl, FIN.out _ _ _ _ _ _ _ _ _ _ _ _⟩
    | false =>
    have HM2 := hide (HC2.out.2.2 rfl)
    have U := hide (U3.out hlen HM1.out HM2.out)
    have AV := hide HC2.out.1
    clear HC2 U0 U1 U2 U3 HM1 HM2 HV0 HO0
    generalize wc = V at *
    have hpV := refS_size AV.out.1
    have hdV : d < V.heap.size := by omega
    have D0 : Hid (Dr d p V V.heap.size 33 s2 #[.int .u64 0, .int .u64 0, .int .u64 0, .int .u64 0, .slice none 0 0, .slice none 0 0, .slice none 0 0, .slice none 0 0, .int .u64 0, .slice none 0 0] (V.alloc (.cells #[.int .u64 0, .int .u64 0, .int .u64 0, .int .u64 0, .slice none 0 0, .slice none 0 0, .slice none 0 0, .slice none 0 0, .int .u64 0, .slice none 0 0] 33))) := Dr.start AV.out.1 _ _
    have N0 : Hid (∀ W cs, Dr d p V V.heap.size 33 s2 cs W → Calls Tryz.prog 42 #[.pointer (some ⟨p, 0, none⟩)] W fun e w' => e = .returned (.int .u64 ((nV s2 : Nat) : Int)) ∧ Hid (Dr d p V V.heap.size 33 (nS s2) cs w')) := fun W cs h => num_dr hpV (Nat.le_refl _) h
    have N1 : Hid (∀ W cs, Dr d p V V.heap.size 33 (nS s2) cs W → Calls Tryz.prog 42 #[.pointer (some ⟨p, 0, none⟩)] W fun e w' => e = .returned (.int .u64 ((nV (nS s2) : Nat) : Int)) ∧ Hid (Dr d p V V.heap.size 33 (nS (nS s2)) cs w')) := fun W cs h => num_dr hpV (Nat.le_refl _) h
    have NB : Hid (∀ W cs, Dr d p V V.heap.size 33 (nS (nS s2)) cs W → Calls Tryz.prog 43 #[.pointer (some ⟨p, 0, none⟩)] W fun e w' => ∃ (x y : Nat) (a : Option Addr) (na ca : Nat) (b : Option Addr) (nb cb : Nat) (c : Option Addr) (nc cc : Nat), e = .returned (.agg #[.int .u64 (x : Int), .int .u64 (y : Int), .slice a na ca, .slice b nb cb, .slice c nc cc]) ∧ Hid ((x = (imB s2).1.tot ∧ y = (imB s2).1.nx) ∧ OwnBk (V.heap.size + 1) w' (.slice a na ca) (.slice b nb cb) (.slice c nc cc) (imB s2).1.A (imB s2).1.H (imB s2).1.J ∧ Dr d p V V.heap.size 33 (imB s2).2 cs w')) := fun W cs hW => (refBook_any hW.rd (Nat.lt_of_lt_of_le hdV hW.gr.size)).mono fun _ _ ⟨x, y, a, na, ca, b, nb, cb, c, nc, cc, e, G⟩ => ⟨x, y, a, na, ca, b, nb, cb, c, nc, cc, e, G.out.1, G.out.2.1.lower (block_lt hW.box), hW.read hpV (Nat.le_refl _) G.out.2.2.2 G.out.2.2.1⟩
    have N2 : Hid (∀ W cs, Dr d p V V.heap.size 33 (imB s2).2 cs W → Calls Tryz.prog 42 #[.pointer (some ⟨p, 0, none⟩)] W fun e w' => e = .returned (.int .u64 ((nV (imB s2).2 : Nat) : Int)) ∧ Hid (W.grownBy w' (some p) ∧ Dr d p V V.heap.size 33 (nS (imB s2).2) cs w')) := fun W cs h => (refNum_any d p _ W h.rd).mono fun _ _ ⟨a, b, c⟩ => ⟨NVE.out _ ▸ a, c, h.read hpV (Nat.le_refl _) (NSE.out _ ▸ b) c⟩
    have NC : Hid (∀ W cs, Dr d p V V.heap.size 33 (nS (imB s2).2) cs W → Calls Tryz.prog 44 #[.pointer (some ⟨p, 0, none⟩), .int .i64 32] W fun e w' => e = .returned (.int .i64 ((cV (nS (imB s2).2) 32 : Nat) : Int)) ∧ Hid (W.grownBy w' (some p) ∧ Dr d p V V.heap.size 33 (cS (nS (imB s2).2) 32) cs w')) := fun W cs h => (cnt_dr hpV (Nat.le_refl _) h 32 (by omega) (by omega)).mono fun _ _ ⟨e, G⟩ => ⟨e, G.out.2, G.out.1⟩
    have hnD : cV (nS (imB s2).2) 32 ≤ 32 := cV_le _ 32
    have HID := hide (IMD.out s2)
    have HIS := hide (IMS.out s2)
    have HIM := hide (RDI.out s2)
    have HPV := hide (rv_part s2)
    have HSM := hide (rdIm_small s2)
    generalize rdIm s2 = rm at *
    generalize imB s2 = xb at *
    obtain ⟨⟨bt, bn, bA, bH, bJ⟩, s5⟩ := xb
    dsimp only at *
    generalize cV (nS s5) 32 = nD at *
    generalize cS (nS s5) 32 = sD at *
    generalize nV s5 = v2 at *
    generalize nS s5 = s6 at *
    generalize nV (nS s2) = v1 at *
    generalize nV s2 = v0 at *
    generalize nS (nS s2) = s4 at *
    generalize nS s2 = s3 at *
    go_wp2_with fail
    refine (N0.out _ _ D0.out).mono ?_
    rintro e w1 ⟨rfl, H1⟩
    have c1 := block_cell H1.out.box 0
    have f1 := block_free H1.out.box 0
    have l1 := block_lt H1.out.box
    simp at c1
    have K1 : Hid (Dr d p V V.heap.size 33 s3 #[.int .u64 (v0 : Int), .int .u64 0, .int .u64 0, .int .u64 0, .slice none 0 0, .slice none 0 0, .slice none 0 0, .slice none 0 0, .int .u64 0, .slice none 0 0] (w1.setCell ⟨V.heap.size, 0, none⟩ (.int .u64 (v0 : Int)))) := H1.out.set hdV hpV (Nat.le_refl _) 0 (.int .u64 (v0 : Int))
    go_wp2_with fail
    refine (N1.out _ _ K1.out).mono ?_
    rintro e w2 ⟨rfl, H2⟩
    have c2 := block_cell H2.out.box 1
    have f2 := block_free H2.out.box 1
    have l2 := block_lt H2.out.box
    simp at c2
    have K2 : Hid (Dr d p V V.heap.size 33 s4 #[.int .u64 (v0 : Int), .int .u64 (v1 : Int), .int .u64 0, .int .u64 0, .slice none 0 0, .slice none 0 0, .slice none 0 0, .slice none 0 0, .int .u64 0, .slice none 0 0] (w2.setCell ⟨V.heap.size, 1, none⟩ (.int .u64 (v1 : Int)))) := H2.out.set hdV hpV (Nat.le_refl _) 1 (.int .u64 (v1 : Int))
    clear c1 f1 l1 H1 K1 N0
    go_wp2_with fail
    refine (NB.out _ _ K2.out).mono ?_
    rintro e w3 ⟨x, y, a, na, ca, b, nb, cb, c, nc, cc, rfl, H3⟩
    have BK := hide H3.out.2.1
    obtain ⟨hxx, hyy⟩ := H3.out.1
    have HXY := hide (And.intro hxx hyy)
    clear hxx hyy c2 f2 l2 H2 K2 N1
    have c0 := block_cell H3.out.2.2.box 2
    have f0 := block_free H3.out.2.2.box 2
    have c1 := block_cell H3.out.2.2.box 3
    have f1 := block_free H3.out.2.2.box 3
    have c2 := block_cell H3.out.2.2.box 4
    have f2 := block_free H3.out.2.2.box 4
    have c3 := block_cell H3.out.2.2.box 5
    have f3 := block_free H3.out.2.2.box 5
    have c4 := block_cell H3.out.2.2.box 6
    have f4 := block_free H3.out.2.2.box 6
    have l3 := block_lt H3.out.2.2.box
    simp at c0 c1 c2 c3 c4
    obtain ⟨w4, hw4⟩ : ∃ w4, (((((w3.setCell ⟨V.heap.size, 2, none⟩ (.int .u64 (x : Int))).setCell ⟨V.heap.size, 3, none⟩ (.int .u64 (y : Int))).setCell ⟨V.heap.size, 4, none⟩ (.slice a na ca)).setCell ⟨V.heap.size, 5, none⟩ (.slice b nb cb)).setCell ⟨V.heap.size, 6, none⟩ (.slice c nc cc)) = w4 := ⟨_, rfl⟩
    have K3 : Hid (Dr d p V V.heap.size 33 s5 #[.int .u64 (v0 : Int), .int .u64 (v1 : Int), .int .u64 (x : Int), .int .u64 (y : Int), .slice a na ca, .slice b nb cb, .slice c nc cc, .slice none 0 0, .int .u64 0, .slice none 0 0] w4) := by
      rw [← hw4]
      exact (((((H3.out.2.2.set hdV hpV (Nat.le_refl _) 2 (.int .u64 (x : Int))).set hdV hpV (Nat.le_refl _) 3 (.int .u64 (y : Int))).set hdV hpV (Nat.le_refl _) 4 (.slice a na ca)).set hdV hpV (Nat.le_refl _) 5 (.slice b nb cb)).set hdV hpV (Nat.le_refl _) 6 (.slice c nc cc))
    have g34 : w3.grownBy w4 (some V.heap.size) := by
      rw [← hw4]
      exact grown_trans (row := some V.heap.size) (grown_trans (row := some V.heap.size) (grown_trans (row := some V.heap.size) (grown_trans (row := some V.heap.size) (grown_set _ _ _ _) (grown_set _ _ _ _)) (grown_set _ _ _ _)) (grown_set _ _ _ _)) (grown_set _ _ _ _)
    have BK4 := hide (BK.out.past g34 (some_lt (Nat.lt_succ_self _)))
    clear g34 BK
    go_wp2_with fail
    refine (N2.out _ _ K3.out).mono ?_
    rintro e w5 ⟨rfl, H5⟩
    have BK5 := hide (BK4.out.past H5.out.1 (some_lt (by omega)))
    clear hw4 c0 f0 c1 f1 c2 f2 c3 f3 c4 f4 l3 BK4 K3 H3 NB
    have c5 := block_cell H5.out.2.box 8
    have f5 := block_free H5.out.2.box 8
    have l5 := block_lt H5.out.2.box
    simp at c5
    have K5 : Hid (Dr d p V V.heap.size 33 s6 #[.int .u64 (v0 : Int), .int .u64 (v1 : Int), .int .u64 (x : Int), .int .u64 (y : Int), .slice a na ca, .slice b nb cb, .slice c nc cc, .slice none 0 0, .int .u64 (v2 : Int), .slice none 0 0] (w5.setCell ⟨V.heap.size, 8, none⟩ (.int .u64 (v2 : Int)))) := H5.out.2.set hdV hpV (Nat.le_refl _) 8 (.int .u64 (v2 : Int))
    have BK6 := hide (BK5.out.past (grown_set w5 V.heap.size 8 (.int .u64 (v2 : Int))) (some_lt (Nat.lt_succ_self _)))
    go_wp2_with fail
    refine (NC.out _ _ K5.out).mono ?_
    rintro e w6 ⟨rfl, H6⟩
    have STD : Hid (Stays p V.heap.size 58 (fun W => OwnBk (V.heap.size + 1) W (.slice a na ca) (.slice b nb cb) (.slice c nc cc) bA bH bJ)) := fun W W' row h hg hr => ⟨h.a.stay hg (by decide) ⟨by omega, by omega⟩ hr, h.h.stay hg (by decide) ⟨by omega, by omega⟩ hr, h.j.stay hg (by decide) ⟨by omega, by omega⟩ hr⟩
    have START : Hid (Lr d p V V.heap.size 33 (fun v => #[.int .u64 (v0 : Int), .int .u64 (v1 : Int), .int .u64 (x : Int), .int .u64 (y : Int), .slice a na ca, .slice b nb cb, .slice c nc cc, v, .int .u64 (v2 : Int), .slice none 0 0]) 58 13 De.cells (fun W => OwnBk (V.heap.size + 1) W (.slice a na ca) (.slice b nb cb) (.slice c nc cc) bA bH bJ) (rdL rdDe sD 0).2 (rdL rdDe sD 0).1 (.slice none 0 0) w6) := ⟨H6.out.2, Rw.nil _ _ _ _ _, BK6.out.past H6.out.1 (some_lt (by omega))⟩
    clear c5 f5 l5 BK5 BK6 H5 H6 K5 N2 NC D0
    go_wp2
    go_loopw [7] (fun i wr => ∃ k : Nat, k ≤ nD ∧ i = .int .i64 k ∧ Hid (∃ v, Lr d p V V.heap.size 33 (fun v => #[.int .u64 (v0 : Int), .int .u64 (v1 : Int), .int .u64 (x : Int), .int .u64 (y : Int), .slice a na ca, .slice b nb cb, .slice c nc cc, v, .int .u64 (v2 : Int), .slice none 0 0]) 58 13 De.cells (fun W => OwnBk (V.heap.size + 1) W (.slice a na ca) (.slice b nb cb) (.slice c nc cc) bA bH bJ) (rdL rdDe sD k).2 (rdL rdDe sD k).1 v wr)) (fun i _ => nD - (intOf i).toNat)
    case atStart => exact ⟨0, by omega, rfl, _, START.out⟩
    case round =>
      obtain ⟨k, hk, rfl, HS⟩ := hrel
      obtain ⟨v, hv⟩ := HS.out
      obtain ⟨dO, dc, rfl⟩ : ∃ vo vc, v = .slice vo k vc := by
        obtain ⟨vo, vc, e⟩ := hv.row.form
        exact ⟨vo, vc, by rw [e, rdL_len]⟩
      have HV := hide hv
      clear HS hv START
      by_cases hlt : k < nD
      · have hwr : V.heap.size ≤ wr.heap.size := HV.out.dr.gr.size
        have HRV := hide (refDeal_any HV.out.dr.rd (Nat.lt_of_lt_of_le hdV hwr))
        have HNX : Hid (∀ (W w3 : World) (v' : Value) (o : Obj), RefS d W p (rdDe (rdL rdDe sD k).2).2 → wr.grownBy W (some p) → w3.ownsRow (V.heap.size + 1) 58 13 v' (k + 1) (flat De.cells (rdL rdDe sD k).1 ++ (rdDe (rdL rdDe sD k).2).1.cells) → (W.alloc o).grownBy w3 (Value.slice dO k dc).ownBlock → Lr d p V V.heap.size 33 (fun v => #[.int .u64 (v0 : Int), .int .u64 (v1 : Int), .int .u64 (x : Int), .int .u64 (y : Int), .slice a na ca, .slice b nb cb, .slice c nc cc, v, .int .u64 (v2 : Int), .slice none 0 0]) 58 13 De.cells (fun W => OwnBk (V.heap.size + 1) W (.slice a na ca) (.slice b nb cb) (.slice c nc cc) bA bH bJ) (rdL rdDe sD (k + 1)).2 (rdL rdDe sD (k + 1)).1 v' (w3.setCell ⟨V.heap.size, 7, none⟩ v') ∧ w3.cell? ⟨V.heap.size, 7, none⟩ = some (.slice dO k dc) ∧ w3.frozen? ⟨V.heap.size, 7, none⟩ = false ∧ V.heap.size < w3.heap.size) := fun W w3 v' o h1 h2 h3 h4 => HV.out.next STD.out 7 (fun _ _ => rfl) (fun _ => rfl) hdV hpV (Nat.le_refl _) h1 h2 (x := (rdDe (rdL rdDe sD k).2).1) (by rw [rdL_len]; exact h3) h4
        have HRW : Hid (∀ (W : World) (o : Obj), wr.grownBy W (some p) → (W.alloc o).ownsRow (V.heap.size + 1) 58 13 (.slice dO k dc) k (flat De.cells (rdL rdDe sD k).1)) := fun W o hg => by
          have r := (HV.out.row.past hg (some_lt (by omega))).quiet (World.grownBy_alloc W o none)
          unfold Rw at r
          rw [rdL_len] at r
          exact r
        have HBX : Hid (∀ W, wr.grownBy W (some p) → W.cell? ⟨V.heap.size, 7, none⟩ = some (.slice dO k dc)) := fun W hg => (hg.cell (block_cell HV.out.dr.box 7) (by simp; omega))
        generalize rdDe (rdL rdDe sD k).2 = yy at *
        obtain ⟨X, sX⟩ := yy
        dsimp only at *
        have HXC : Hid (X.cells.toArray = #[.int .u64 (X.a : Int), .int .u64 (X.b : Int), .int .u64 (X.c : Int), .int .u64 (X.d : Int), .int .u64 (X.e : Int), .int .u64 (X.f : Int), .int .u64 (X.g : Int), .int .i64 X.ph, .int .u64 (X.p : Int), .int .u64 (X.q : Int), .int .u64 (X.r : Int), .int .u64 (X.z : Int), .string X.t] ∧ X.cells = [.int .u64 (X.a : Int), .int .u64 (X.b : Int), .int .u64 (X.c : Int), .int .u64 (X.d : Int), .int .u64 (X.e : Int), .int .u64 (X.f : Int), .int .u64 (X.g : Int), .int .i64 X.ph, .int .u64 (X.p : Int), .int .u64 (X.q : Int), .int .u64 (X.r : Int), .int .u64 (X.z : Int), .string X.t]) := ⟨rfl, rfl⟩
        rw [HXC.out.1] at HRV
        rw [HXC.out.2] at HNX
        go_wp2_with fail
        refine HRV.out.mono ?_
        rintro e w2 ⟨rfl, G2⟩
        obtain ⟨VB, hVB⟩ : ∃ VB, w2.alloc (.cells #[.int .u64 (X.a : Int), .int .u64 (X.b : Int), .int .u64 (X.c : Int), .int .u64 (X.d : Int), .int .u64 (X.e : Int), .int .u64 (X.f : Int), .int .u64 (X.g : Int), .int .i64 X.ph, .int .u64 (X.p : Int), .int .u64 (X.q : Int), .int .u64 (X.r : Int), .int .u64 (X.z : Int), .string X.t] 58) = VB := ⟨_, rfl⟩
        have qB : VB.heap[w2.heap.size]? = some (.cells #[.int .u64 (X.a : Int), .int .u64 (X.b : Int), .int .u64 (X.c : Int), .int .u64 (X.d : Int), .int .u64 (X.e : Int), .int .u64 (X.f : Int), .int .u64 (X.g : Int), .int .i64 X.ph, .int .u64 (X.p : Int), .int .u64 (X.q : Int), .int .u64 (X.r : Int), .int .u64 (X.z : Int), .string X.t] 58 (0, 0)) := by rw [← hVB]; exact alloc_atN _ _
        have gB : w2.grownBy VB none := by rw [← hVB]; exact World.grownBy_alloc _ _ _
        have GB : Hid (wr.grownBy VB (some p) ∧ RefS d VB p sX) := ⟨grown_trans (row := some p) G2.out.1 (grown_noneN gB _), G2.out.2.quiet gB⟩
        have eb := HBX.out VB GB.out.1
        have e0 := block_cell qB 0
        have e1 := block_cell qB 1
        have e2 := block_cell qB 2
        have e3 := block_cell qB 3
        have e4 := block_cell qB 4
        have e5 := block_cell qB 5
        have e6 := block_cell qB 6
        have e7 := block_cell qB 7
        have e8 := block_cell qB 8
        have e9 := block_cell qB 9
        have e10 := block_cell qB 10
        have e11 := block_cell qB 11
        have e12 := block_cell qB 12
        simp at e0 e1 e2 e3 e4 e5 e6 e7 e8 e9 e10 e11 e12
        have hszV : V.heap.size ≤ VB.heap.size := Nat.le_trans hwr GB.out.1.size
        have hqV := block_lt qB
        have hqV2 : V.heap.size < VB.heap.size := by have := GB.out.1.size; have := block_lt HV.out.dr.box; omega
        clear qB gB G2 HRV HXC
        go_wp2_with (first
          | (at_builtin; refine wpList_append_own _ rfl (.tmp 65) (.tmp 67) 28 rfl (V.heap.size + 1) 58 iDe (.agg #[.int .u64 0, .int .u64 0, .int .u64 0, .int .u64 0, .int .u64 0, .int .u64 0, .int .u64 0, .int .i64 0, .int .u64 0, .int .u64 0, .int .u64 0, .int .u64 0, .string ⟨#[]⟩]) 13 112 Tryz.underlying28 hiDe hz0De hz1De hz2De rfl (by decide) (.slice dO k dc) k (flat De.cells (rdL rdDe sD k).1) rfl (HRW.out _ _ GB.out.1) ⟨VB.heap.size, 0, none⟩ 1 1 [.int .u64 (X.a : Int), .int .u64 (X.b : Int), .int .u64 (X.c : Int), .int .u64 (X.d : Int), .int .u64 (X.e : Int), .int .u64 (X.f : Int), .int .u64 (X.g : Int), .int .i64 X.ph, .int .u64 (X.p : Int), .int .u64 (X.q : Int), .int .u64 (X.r : Int), .int .u64 (X.z : Int), .string X.t] rfl rfl (cells_newN _ _ _) (by simp [Value.oneCell']) (by unfold maxLen; omega) (by omega) (by simp; omega) ?_; intro v' w3 ho hg _; obtain ⟨g', cap', rfl⟩ := ownsRow_succN ho; have hnx := HNX.out _ _ _ _ GB.out.2 GB.out.1 ho hg; have NX := hide hnx.1; obtain ⟨-, z1, z2, z3⟩ := hnx; clear ho hg))
        go_roundw
        case rel => exact ⟨k + 1, by omega, by go_num, _, NX.out⟩
        case measure => simp [intOf]; omega
      · obtain rfl : nD = k := by omega
        have HCN := hide (cnt_dr hpV (Nat.le_refl _) HV.out.dr 16 (by omega) (by omega))
        have hnS : cV (rdL rdDe sD nD).2 16 ≤ 16 := cV_le _ 16
        have HID2 := hide (And.intro HID.out HIS.out)
        rw [HID.out] at HIS HIM
        rw [HIS.out] at HIM
        obtain ⟨sS, hsS⟩ : ∃ s', s' = cS (rdL rdDe sD nD).2 16 := ⟨_, rfl⟩
        obtain ⟨nS', hnS'⟩ : ∃ n', n' = cV (rdL rdDe sD nD).2 16 := ⟨_, rfl⟩
        rw [← hsS, ← hnS'] at HCN HIM
        have hnSS : nS' ≤ 16 := by rw [hnS']; exact hnS
        clear hsS hnS' hnS HID2 HID HIS
        have STS : Hid (Stays p V.heap.size 61 (fun W => OwnBk (V.heap.size + 1) W (.slice a na ca) (.slice b nb cb) (.slice c nc cc) bA bH bJ ∧ Rw (V.heap.size + 1) W 58 13 De.cells (.slice dO nD dc) (rdL rdDe sD nD).1)) := fun W W' row h hg hr => ⟨⟨h.1.a.stay hg (by decide) ⟨by omega, by omega⟩ hr, h.1.h.stay hg (by decide) ⟨by omega, by omega⟩ hr, h.1.j.stay hg (by decide) ⟨by omega, by omega⟩ hr⟩, h.2.stay hg (by decide) ⟨by omega, by omega⟩ hr⟩
        have START : Hid (∀ W', wr.grownBy W' (some p) → Dr d p V V.heap.size 33 sS ((fun v => #[.int .u64 (v0 : Int), .int .u64 (v1 : Int), .int .u64 (x : Int), .int .u64 (y : Int), .slice a na ca, .slice b nb cb, .slice c nc cc, .slice dO nD dc, .int .u64 (v2 : Int), v]) (.slice none 0 0)) W' → Ls d p V V.heap.size 33 (fun v => #[.int .u64 (v0 : Int), .int .u64 (v1 : Int), .int .u64 (x : Int), .int .u64 (y : Int), .slice a na ca, .slice b nb cb, .slice c nc cc, .slice dO nD dc, .int .u64 (v2 : Int), v]) (fun W => OwnBk (V.heap.size + 1) W (.slice a na ca) (.slice b nb cb) (.slice c nc cc) bA bH bJ ∧ Rw (V.heap.size + 1) W 58 13 De.cells (.slice dO nD dc) (rdL rdDe sD nD).1) (rdL rdSn sS 0).2 [] (.slice none 0 0) W') := fun W' hg hdr => ⟨⟨hdr, Rw.nil _ _ _ _ _, STS.out _ _ (some p) ⟨HV.out.oth, HV.out.row⟩ hg (.inr (.inl rfl))⟩, fun x hx => (by cases hx), .nil⟩
        go_wp2_with fail
        refine HCN.out.mono ?_
        rintro e w7 ⟨rfl, G7⟩
        have START := hide (START.out _ G7.out.2 G7.out.1)
        clear HCN G7 HV
        go_wp2
        go_loopw [9] (fun i wr => ∃ k : Nat, k ≤ nS' ∧ i = .int .i64 k ∧ Hid (∃ v, ∃ L : List Sn, L.length = k ∧ L.map Sn.val = (rdL rdSn sS k).1.map rvS ∧ Ls d p V V.heap.size 33 (fun v => #[.int .u64 (v0 : Int), .int .u64 (v1 : Int), .int .u64 (x : Int), .int .u64 (y : Int), .slice a na ca, .slice b nb cb, .slice c nc cc, .slice dO nD dc, .int .u64 (v2 : Int), v]) (fun W => OwnBk (V.heap.size + 1) W (.slice a na ca) (.slice b nb cb) (.slice c nc cc) bA bH bJ ∧ Rw (V.heap.size + 1) W 58 13 De.cells (.slice dO nD dc) (rdL rdDe sD nD).1) (rdL rdSn sS k).2 L v wr)) (fun i _ => nS' - (intOf i).toNat)
        case atStart => exact ⟨0, by omega, rfl, _, [], rfl, rfl, START.out⟩
        case round =>
          obtain ⟨k, hk, rfl, HS⟩ := hrel
          obtain ⟨v, L, hLk, hLv, hv⟩ := HS.out
          obtain ⟨fo, fc, rfl⟩ : ∃ vo vc, v = .slice vo k vc := by
            obtain ⟨vo, vc, e⟩ := hv.lr.row.form
            exact ⟨vo, vc, by rw [e, hLk]⟩
          have HV := hide hv
          have HLK := hide (And.intro hLk hLv)
          clear HS hv START hLk hLv
          by_cases hlt : k < nS'
          · have hwr : V.heap.size ≤ wr.heap.size := HV.out.lr.dr.gr.size
            have HRV := hide (refSession_any HV.out.lr.dr.rd (Nat.lt_of_lt_of_le hdV hwr))
            have HRW : Hid (∀ (W : World) (o : Obj), wr.grownBy W (some p) → (W.alloc o).ownsRow (V.heap.size + 1) 61 5 (.slice fo k fc) k (flat Sn.cells L)) := fun W o hg => by
              have r := (HV.out.lr.row.past hg (some_lt (by omega))).quiet (World.grownBy_alloc W o none)
              unfold Rw at r
              rw [HLK.out.1] at r
              exact r
            have HBX : Hid (∀ W, wr.grownBy W (some p) → W.cell? ⟨V.heap.size, 9, none⟩ = some (.slice fo k fc)) := fun W hg => (hg.cell (block_cell HV.out.lr.dr.box 9) (by simp; omega))
            go_wp2_with fail
            refine HRV.out.mono ?_
            rintro e w2 ⟨sa, sb, sc, sg, so, sn, sk, rfl, G2⟩
            have HNX : Hid (∀ (W w3 : World) (v' : Value) (o : Obj), RefS d W p (rdSn (rdL rdSn sS k).2).2 → w2.grownBy W none → w3.ownsRow (V.heap.size + 1) 61 5 v' (k + 1) (flat Sn.cells L ++ [.int .u64 (sa : Int), .int .u64 (sb : Int), .int .u64 (sc : Int), .int .i64 (sg : Int), .slice so sn sk]) → (W.alloc o).grownBy w3 (Value.slice fo k fc).ownBlock → (∃ L' : List Sn, L'.length = k + 1 ∧ L'.map Sn.val = (rdL rdSn sS (k + 1)).1.map rvS ∧ Ls d p V V.heap.size 33 (fun v => #[.int .u64 (v0 : Int), .int .u64 (v1 : Int), .int .u64 (x : Int), .int .u64 (y : Int), .slice a na ca, .slice b nb cb, .slice c nc cc, .slice dO nD dc, .int .u64 (v2 : Int), v]) (fun W => OwnBk (V.heap.size + 1) W (.slice a na ca) (.slice b nb cb) (.slice c nc cc) bA bH bJ ∧ Rw (V.heap.size + 1) W 58 13 De.cells (.slice dO nD dc) (rdL rdDe sD nD).1) (rdL rdSn sS (k + 1)).2 L' v' (w3.setCell ⟨V.heap.size, 9, none⟩ v')) ∧ w3.cell? ⟨V.heap.size, 9, none⟩ = some (.slice fo k fc) ∧ w3.frozen? ⟨V.heap.size, 9, none⟩ = false ∧ V.heap.size < w3.heap.size) := fun W w3 v' o h1 h2 h3 h4 => by
              obtain ⟨r1, r2, r3, r4, r5, r6, r7⟩ := G2.out
              have nx := HV.out.next STS.out 9 (fun _ _ => rfl) (fun _ => rfl) hdV hpV (Nat.le_refl _) h1 (grown_trans (row := some p) r6 (grown_noneN h2 _)) (x := ⟨sa, sb, sc, (sg : Int), so, sn, sk, (rdSn (rdL rdSn sS k).2).1.2.2.2.2⟩) (r5.quiet h2) (by rw [HLK.out.1]; exact h3) h4
              refine ⟨⟨_, by rw [List.length_append, HLK.out.1]; rfl, ?_, nx.1⟩, nx.2⟩
              rw [List.map_append, HLK.out.2, rdL, List.map_append, r1, r2, r3, r4]
              rfl
            obtain ⟨VB, hVB⟩ : ∃ VB, w2.alloc (.cells #[.int .u64 (sa : Int), .int .u64 (sb : Int), .int .u64 (sc : Int), .int .i64 (sg : Int), .slice so sn sk] 61) = VB := ⟨_, rfl⟩
            have qB : VB.heap[w2.heap.size]? = some (.cells #[.int .u64 (sa : Int), .int .u64 (sb : Int), .int .u64 (sc : Int), .int .i64 (sg : Int), .slice so sn sk] 61 (0, 0)) := by rw [← hVB]; exact alloc_atN _ _
            have gB : w2.grownBy VB none := by rw [← hVB]; exact World.grownBy_alloc _ _ _
            have GB : Hid (wr.grownBy VB (some p) ∧ RefS d VB p (rdSn (rdL rdSn sS k).2).2 ∧ w2.grownBy VB none) := ⟨grown_trans (row := some p) G2.out.2.2.2.2.2.1 (grown_noneN gB _), G2.out.2.2.2.2.2.2.quiet gB, gB⟩
            have eb := HBX.out VB GB.out.1
            have e0 := block_cell qB 0
            have e1 := block_cell qB 1
            have e2 := block_cell qB 2
            have e3 := block_cell qB 3
            have e4 := block_cell qB 4
            simp at e0 e1 e2 e3 e4
            have hszV : V.heap.size ≤ VB.heap.size := Nat.le_trans hwr GB.out.1.size
            have hqV := block_lt qB
            have hqV2 : V.heap.size < VB.heap.size := by have := GB.out.1.size; have := block_lt HV.out.lr.dr.box; omega
            clear qB gB HRV
            go_wp2_with (first
              | (at_builtin; refine wpList_append_own _ rfl (.tmp 81) (.tmp 83) 31 rfl (V.heap.size + 1) 61 iSn (.agg #[.int .u64 0, .int .u64 0, .int .u64 0, .int .i64 0, .slice none 0 0]) 5 56 Tryz.underlying31 hiSn hz0Sn hz1Sn hz2Sn rfl (by decide) (.slice fo k fc) k (flat Sn.cells L) rfl (HRW.out _ _ GB.out.1) ⟨VB.heap.size, 0, none⟩ 1 1 [.int .u64 (sa : Int), .int .u64 (sb : Int), .int .u64 (sc : Int), .int .i64 (sg : Int), .slice so sn sk] rfl rfl (cells_newN _ _ _) (by simp [Value.oneCell']) (by unfold maxLen; omega) (by omega) (by simp; omega) ?_; intro v' w3 ho hg _; obtain ⟨g', cap', rfl⟩ := ownsRow_succN ho; have hnx := HNX.out _ _ _ _ GB.out.2.1 GB.out.2.2 ho hg; have NX := hide hnx.1; obtain ⟨-, z1, z2, z3⟩ := hnx; clear ho hg))
            go_roundw
            case rel => exact ⟨k + 1, by omega, by go_num, _, NX.out⟩
            case measure => simp [intOf]; omega
          · obtain rfl : nS' = k := by omega
            have OM : Hid ((⟨v0, v1, x, y, bA, bH, bJ, (rdL rdDe sD nD).1, v2, L, a, na, ca, b, nb, cb, c, nc, cc, dO, nD, dc, fo, nS', fc⟩ : Mi).Own (V.heap.size + 1) wr ∧ (⟨v0, v1, x, y, bA, bH, bJ, (rdL rdDe sD nD).1, v2, L, a, na, ca, b, nb, cb, c, nc, cc, dO, nD, dc, fo, nS', fc⟩ : Mi).val = rm.1.rv) := by
              refine ⟨⟨HV.out.lr.oth.1, HV.out.lr.oth.2, ⟨HV.out.lr.row, HV.out.own, HV.out.ap⟩⟩, ?_⟩
              rw [HIM.out]
              show Vm.mk v0 v1 x y bA bH bJ (rdL rdDe sD nD).1 v2 (L.map Sn.val) = Vm.mk v0 v1 bt bn bA bH bJ (rdL rdDe sD nD).1 v2 ((rdL rdSn sS nS').1.map rvS)
              rw [HLK.out.2, HXY.out.1, HXY.out.2]
            have HEN := hide (refEnd_any d p _ wr HV.out.lr.dr.rd)
            have HE2 : Hid ((rdL rdSn sS nS').2 = unS B) := by
              show _ = _
              rw [HQ.out.2, HIM.out]
            rw [HE2.out] at HEN
            have QW : Hid (wr.heap[V.heap.size]? = some (.cells #[.int .u64 (v0 : Int), .int .u64 (v1 : Int), .int .u64 (x : Int), .int .u64 (y : Int), .slice a na ca, .slice b nb cb, .slice c nc cc, .slice dO nD dc, .int .u64 (v2 : Int), .slice fo nS' fc] 33 (0, 0))) := HV.out.lr.dr.box
            have BWR : Hid (Below W0.heap.size W0 wr) := AV.out.2.grown HV.out.lr.dr.gr AV.out.2.size (fun k e => by cases e; exact hp)
            have hQB : w.heap.size + 1 < V.heap.size := by have := HS0.out; have := AV.out.2.size; omega
            have HPA : Hid (∀ W, (⟨v0, v1, x, y, bA, bH, bJ, (rdL rdDe sD nD).1, v2, L, a, na, ca, b, nb, cb, c, nc, cc, dO, nD, dc, fo, nS', fc⟩ : Mi).Own (V.heap.size + 1) W → Calls Tryz.prog 26 #[.agg #[.int .u64 (v0 : Int), .int .u64 (v1 : Int), .int .u64 (x : Int), .int .u64 (y : Int), .slice a na ca, .slice b nb cb, .slice c nc cc, .slice dO nD dc, .int .u64 (v2 : Int), .slice fo nS' fc]] W fun e w' => e = .returned (.int .i64 (unI B).pv.part) ∧ Hid (Below W.heap.size W w')) := fun W o => by
              have e : (⟨v0, v1, x, y, bA, bH, bJ, (rdL rdDe sD nD).1, v2, L, a, na, ca, b, nb, cb, c, nc, cc, dO, nD, dc, fo, nS', fc⟩ : Mi).part = (unI B).pv.part := by
                rw [Mi.part_val _ o, OM.out.2, HPV.out.1, HQ.out.1]
              have hsm : (⟨v0, v1, x, y, bA, bH, bJ, (rdL rdDe sD nD).1, v2, L, a, na, ca, b, nb, cb, c, nc, cc, dO, nD, dc, fo, nS', fc⟩ : Mi).small := by
                obtain ⟨l1, l2, l3, l4, l5⟩ := HSM.out
                have hv := OM.out.2
                have e1 : bA = rm.1.b.A := congrArg Vm.A hv
                have e2 : bH = rm.1.b.H := congrArg Vm.H hv
                have e3 : bJ = rm.1.b.J := congrArg Vm.J hv
                have n1 := o.bk.a.num'
                have n2 := o.bk.h.num'
                have n3 := o.bk.j.num'
                rw [← e1] at l1
                rw [← e2] at l2
                rw [← e3] at l3
                exact ⟨by show na ≤ 1000; have n1 : bA.length = na := n1; omega, by show nb ≤ 1000; have n2 : bH.length = nb := n2; omega, by show nc ≤ 1000; have n3 : bJ.length = nc := n3; omega, by show nD ≤ 1000; omega, by show nS' ≤ 1000; omega⟩
              rw [← e]
              exact refPart_any (⟨v0, v1, x, y, bA, bH, bJ, (rdL rdDe sD nD).1, v2, L, a, na, ca, b, nb, cb, c, nc, cc, dO, nD, dc, fo, nS', fc⟩ : Mi) hsm o
            have HVN : Hid ((unE B).2 = 0 → (⟨v0, v1, x, y, bA, bH, bJ, (rdL rdDe sD nD).1, v2, L, a, na, ca, b, nb, cb, c, nc, cc, dO, nD, dc, fo, nS', fc⟩ : Mi).val = unV B ∨ True) := fun _ => .inr trivial
            have HVZ : Hid (¬ 0 ≤ (unI B).pv.part → (⟨v0, v1, x, y, bA, bH, bJ, (rdL rdDe sD nD).1, v2, L, a, na, ca, b, nb, cb, c, nc, cc, dO, nD, dc, fo, nS', fc⟩ : Mi).val = (unI B).pv) := fun h => by
              rw [OM.out.2, HQ.out.1]
              rw [HQ.out.1] at h
              exact HPV.out.2 (by omega)
            clear HPV HSM HIM HQ HLK HXY HE2 HV AV HVN
            generalize V.heap.size = QB at *
            generalize (unS B).endC = ec at *
            generalize (unS B).endA = ea at *
            generalize (unI B).pv.part = pt at *
            go_wp2_with fail
            refine HEN.out.mono ?_
            rintro e w5 ⟨rfl, hb5⟩
            have B5 := hide (below_trans1 BWR.out hb5)
            have BB5 := hide hb5
            clear hb5 HEN
            obtain ⟨W6, hW6⟩ : ∃ W6, w5.alloc (.cells #[.int .i64 ec, .int .i64 ea] 105) = W6 := ⟨_, rfl⟩
            have b6 : Below w5.heap.size w5 W6 := by rw [← hW6]; exact (Below.refl _ w5).alloc (Nat.le_refl _) _
            have qn : W6.heap[w5.heap.size]? = some (.cells #[.int .i64 ec, .int .i64 ea] 105 (0, 0)) := by rw [← hW6]; exact alloc_atN _ _
            have BB6 := hide (below_trans1 BB5.out b6)
            have B6 := hide (below_trans1 B5.out b6)
            have Q6 := hide ((BB6.out.block _ (block_lt QW.out)).trans QW.out)
            have n0 := block_cell qn 0
            have n1 := block_cell qn 1
            simp at n0 n1
            have hw5w := B5.out.size
            have hW65 := block_lt qn
            have hs0 := HS0.out
            have HW6 := hide hW6
            have QN := hide qn
            clear b6 qn QW
            by_cases hez : ec = 0
            · have hd0 : (ec != 0) = false := by simp [hez]
              have UB := hide (U.out.2.1 hez)
              have UC := hide (U.out.2.2 hez)
              clear U hez
              have c0 := block_cell Q6.out 0
              have c1 := block_cell Q6.out 1
              have c2 := block_cell Q6.out 2
              have c3 := block_cell Q6.out 3
              have c4 := block_cell Q6.out 4
              have c5 := block_cell Q6.out 5
              have c6 := block_cell Q6.out 6
              have c7 := block_cell Q6.out 7
              have c8 := block_cell Q6.out 8
              have c9 := block_cell Q6.out 9
              simp at c0 c1 c2 c3 c4 c5 c6 c7 c8 c9
              have HPC := hide (HPA.out W6 (OM.out.1.below BB6.out))
              go_wp2_with fail
              refine HPC.out.mono ?_
              rintro e w7 ⟨rfl, G7⟩
              have B7 := hide (below_trans1 B6.out G7.out)
              have OM7 := hide ((OM.out.1.below BB6.out).below G7.out)
              have Q7 := hide ((G7.out.block _ (block_lt Q6.out)).trans Q6.out)
              clear c0 c1 c2 c3 c4 c5 c6 c7 c8 c9 n0 n1 HPC G7
              by_cases hpt : 0 ≤ pt
              · have hpd : decide (0 ≤ pt) = true := decide_eq_true hpt
                have HU := hide (UB.out hpt)
                have HB5 := hide (new0 snapN pt 121)
                unfold FvP snapN at HB5
                clear UB UC
                go_wp2_with fail
                refine (HB5.out w7).mono ?_
                rintro e w8 ⟨ao4, cap4, rfl, G⟩
                have BW : Hid (Below W0.heap.size W0 w8) := by obtain ⟨b, off, hf, hb⟩ := G.out; exact below_trans1 B7.out hb
                have FVH : Hid (∃ b off, FV w8.heap.size w8 ao4 [⟨snapN, pt⟩] b off) := by obtain ⟨b, off, hf, hb⟩ := G.out; exact ⟨b, off, hf⟩
                clear G HB5
                have HC := hide (RES.out _ BW.out).1
                have FB := hide (RES.out _ BW.out).2
                have z0 := block_cell HC.out.1 0
                have f0 := block_free HC.out.1 0
                have z1 := block_cell HC.out.1 1
                have f1 := block_free HC.out.1 1
                have z2 := block_cell HC.out.1 2
                have f2 := block_free HC.out.1 2
                have z3 := block_cell HC.out.1 3
                have f3 := block_free HC.out.1 3
                have z4 := block_cell HC.out.1 4
                have f4 := block_free HC.out.1 4
                have z5 := block_cell HC.out.1 5
                have f5 := block_free HC.out.1 5
                have z6 := block_cell HC.out.1 6
                have f6 := block_free HC.out.1 6
                have z7 := block_cell HC.out.1 7
                have f7 := block_free HC.out.1 7
                have z8 := block_cell HC.out.1 8
                have f8 := block_free HC.out.1 8
                have z9 := block_cell HC.out.1 9
                have f9 := block_free HC.out.1 9
                have y0 := block_cell HC.out.2 0
                have y1 := block_cell HC.out.2 1
                have g0 := block_free HC.out.2 0
                have g1 := block_free HC.out.2 1
                simp at z0 z1 z2 z3 z4 z5 z6 z7 z8 z9 y0 y1
                have FIN : Hid (∀ x0 x1 x2 x3 x4 x5 x6 x7 x8 x9 u0 u1, Mi.zero.Own w.heap.size (((st10 w8 w.heap.size x0 x1 x2 x3 x4 x5 x6 x7 x8 x9).setCell ⟨w.heap.size + 1, 0, none⟩ u0).setCell ⟨w.heap.size + 1, 1, none⟩ u1) ∧ Mi.zero.val = unV B ∧ (∃ b off, FV (((st10 w8 w.heap.size x0 x1 x2 x3 x4 x5 x6 x7 x8 x9).setCell ⟨w.heap.size + 1, 0, none⟩ u0).setCell ⟨w.heap.size + 1, 1, none⟩ u1).heap.size (((st10 w8 w.heap.size x0 x1 x2 x3 x4 x5 x6 x7 x8 x9).setCell ⟨w.heap.size + 1, 0, none⟩ u0).setCell ⟨w.heap.size + 1, 1, none⟩ u1) ao4 (unE B).1 b off) ∧ Below w.heap.size w (((st10 w8 w.heap.size x0 x1 x2 x3 x4 x5 x6 x7 x8 x9).setCell ⟨w.heap.size + 1, 0, none⟩ u0).setCell ⟨w.heap.size + 1, 1, none⟩ u1)) := fun x0 x1 x2 x3 x4 x5 x6 x7 x8 x9 u0 u1 => by
                  obtain ⟨b, off, hf⟩ := FVH.out
                  exact ru_fin HC.out (Mi.zero_own (w.heap.size + 2) _) (by omega) (by unfold unV; rw [HU.out, if_neg (by simp)]; rfl) (by rw [HU.out]; exact hf) FB.out x0 x1 x2 x3 x4 x5 x6 x7 x8 x9 u0 u1
                clear HC FB
                go_wp2
                refine bodyPost_ret (v := .tuple #[.agg #[.int .u64 0, .int .u64 0, .int .u64 0, .int .u64 0, .slice none 0 0, .slice none 0 0, .slice none 0 0, .slice none 0 0, .int .u64 0, .slice none 0 0], .agg #[.slice ao4 1 cap4, .int .i64 121]]) (by simp [results, Tryz.results14, go_sem, z0, z1, z2, z3, z4, z5, z6, z7, z8, z9, y0, y1]) rfl ?_
                exact ⟨Mi.zero, ao4, cap4, by rw [HU.out]; rfl, FIN.out _ _ _ _ _ _ _ _ _ _ _ _⟩
              · have hpd : decide (0 ≤ pt) = false := decide_eq_false hpt
                have HU := hide (UC.out (by first | exact hpt | omega))
                have HMV := hide (HVZ.out (by first | exact hpt | omega))
                clear UB UC
                have HNN : Hid (∀ W, Calls Tryz.prog 32 #[] W (FvP W [] 0)) := fun W => none0 W
                unfold FvP at HNN
                have SB : Hid (∀ V, Below w7.heap.size w7 V → V.cell? ⟨QB, 0, none⟩ = some (.int .u64 (v0 : Int)) ∧ V.cell? ⟨QB, 1, none⟩ = some (.int .u64 (v1 : Int)) ∧ V.cell? ⟨QB, 2, none⟩ = some (.int .u64 (x : Int)) ∧ V.cell? ⟨QB, 3, none⟩ = some (.int .u64 (y : Int)) ∧ V.cell? ⟨QB, 4, none⟩ = some (.slice a na ca) ∧ V.cell? ⟨QB, 5, none⟩ = some (.slice b nb cb) ∧ V.cell? ⟨QB, 6, none⟩ = some (.slice c nc cc) ∧ V.cell? ⟨QB, 7, none⟩ = some (.slice dO nD dc) ∧ V.cell? ⟨QB, 8, none⟩ = some (.int .u64 (v2 : Int)) ∧ V.cell? ⟨QB, 9, none⟩ = some (.slice fo nS' fc)) := fun V hb => by
                  have q := (hb.block _ (block_lt Q7.out)).trans Q7.out
                  exact ⟨(block_cell q 0).trans rfl, (block_cell q 1).trans rfl, (block_cell q 2).trans rfl, (block_cell q 3).trans rfl, (block_cell q 4).trans rfl, (block_cell q 5).trans rfl, (block_cell q 6).trans rfl, (block_cell q 7).trans rfl, (block_cell q 8).trans rfl, (block_cell q 9).trans rfl⟩
                obtain ⟨c0, c1, c2, c3, c4, c5, c6, c7, c8, c9⟩ := SB.out w7 (Below.refl _ _)
                have hqw := block_lt Q7.out
                go_upto_region 31 with fail
                have hne0 : QB ≠ w.heap.size := by omega
                have hne1 : QB ≠ w.heap.size + 1 := by omega
                have hne2 : w.heap.size ≠ QB := by omega
                have hne3 : w.heap.size + 1 ≠ QB := by omega
                have SK : Hid (∀ (V : World) (q j : Nat) (u : Value), q ≠ QB → (V.cell? ⟨QB, 0, none⟩ = some (.int .u64 (v0 : Int)) ∧ V.cell? ⟨QB, 1, none⟩ = some (.int .u64 (v1 : Int)) ∧ V.cell? ⟨QB, 2, none⟩ = some (.int .u64 (x : Int)) ∧ V.cell? ⟨QB, 3, none⟩ = some (.int .u64 (y : Int)) ∧ V.cell? ⟨QB, 4, none⟩ = some (.slice a na ca) ∧ V.cell? ⟨QB, 5, none⟩ = some (.slice b nb cb) ∧ V.cell? ⟨QB, 6, none⟩ = some (.slice c nc cc) ∧ V.cell? ⟨QB, 7, none⟩ = some (.slice dO nD dc) ∧ V.cell? ⟨QB, 8, none⟩ = some (.int .u64 (v2 : Int)) ∧ V.cell? ⟨QB, 9, none⟩ = some (.slice fo nS' fc)) → (V.setCell ⟨q, j, none⟩ u).cell? ⟨QB, 0, none⟩ = some (.int .u64 (v0 : Int)) ∧ (V.setCell ⟨q, j, none⟩ u).cell? ⟨QB, 1, none⟩ = some (.int .u64 (v1 : Int)) ∧ (V.setCell ⟨q, j, none⟩ u).cell? ⟨QB, 2, none⟩ = some (.int .u64 (x : Int)) ∧ (V.setCell ⟨q, j, none⟩ u).cell? ⟨QB, 3, none⟩ = some (.int .u64 (y : Int)) ∧ (V.setCell ⟨q, j, none⟩ u).cell? ⟨QB, 4, none⟩ = some (.slice a na ca) ∧ (V.setCell ⟨q, j, none⟩ u).cell? ⟨QB, 5, none⟩ = some (.slice b nb cb) ∧ (V.setCell ⟨q, j, none⟩ u).cell? ⟨QB, 6, none⟩ = some (.slice c nc cc) ∧ (V.setCell ⟨q, j, none⟩ u).cell? ⟨QB, 7, none⟩ = some (.slice dO nD dc) ∧ (V.setCell ⟨q, j, none⟩ u).cell? ⟨QB, 8, none⟩ = some (.int .u64 (v2 : Int)) ∧ (V.setCell ⟨q, j, none⟩ u).cell? ⟨QB, 9, none⟩ = some (.slice fo nS' fc)) := fun V q j u hne hS => by
                  have k : ∀ (i : Nat), (V.setCell ⟨q, j, none⟩ u).cell? ⟨QB, i, none⟩ = V.cell? ⟨QB, i, none⟩ := fun i => World.cell?_setCell_far V ⟨q, j, none⟩ ⟨QB, i, none⟩ u hne
                  simp only [k]
                  exact hS
                have SDR : Hid ((fun V => V.cell? ⟨QB, 0, none⟩ = some (.int .u64 (v0 : Int)) ∧ V.cell? ⟨QB, 1, none⟩ = some (.int .u64 (v1 : Int)) ∧ V.cell? ⟨QB, 2, none⟩ = some (.int .u64 (x : Int)) ∧ V.cell? ⟨QB, 3, none⟩ = some (.int .u64 (y : Int)) ∧ V.cell? ⟨QB, 4, none⟩ = some (.slice a na ca) ∧ V.cell? ⟨QB, 5, none⟩ = some (.slice b nb cb) ∧ V.cell? ⟨QB, 6, none⟩ = some (.slice c nc cc) ∧ V.cell? ⟨QB, 7, none⟩ = some (.slice dO nD dc) ∧ V.cell? ⟨QB, 8, none⟩ = some (.int .u64 (v2 : Int)) ∧ V.cell? ⟨QB, 9, none⟩ = some (.slice fo nS' fc)) w7.drew) := SB.out _ (Go.below_drewN (Below.refl _ _) 1)
                go_region_held (fun V => V.cell? ⟨QB, 0, none⟩ = some (.int .u64 (v0 : Int)) ∧ V.cell? ⟨QB, 1, none⟩ = some (.int .u64 (v1 : Int)) ∧ V.cell? ⟨QB, 2, none⟩ = some (.int .u64 (x : Int)) ∧ V.cell? ⟨QB, 3, none⟩ = some (.int .u64 (y : Int)) ∧ V.cell? ⟨QB, 4, none⟩ = some (.slice a na ca) ∧ V.cell? ⟨QB, 5, none⟩ = some (.slice b nb cb) ∧ V.cell? ⟨QB, 6, none⟩ = some (.slice c nc cc) ∧ V.cell? ⟨QB, 7, none⟩ = some (.slice dO nD dc) ∧ V.cell? ⟨QB, 8, none⟩ = some (.int .u64 (v2 : Int)) ∧ V.cell? ⟨QB, 9, none⟩ = some (.slice fo nS' fc)) (first | with_reducible exact SDR.out | with_reducible exact SB.out _ HB8.out | (repeat (first | with_reducible assumption | with_reducible refine SK.out _ _ _ _ hne2 ?_ | with_reducible refine SK.out _ _ _ _ hne3 ?_)))
                  (first
                    | (go_at_call 32; refine (HNN.out _).mono ?_; rintro e w8 ⟨ao4, cap4, rfl, G⟩; obtain ⟨bb, off, hf, hb⟩ := G.out; have HB8 : Hid (Below w7.heap.size w7 w8) := ⟨hb.os, hb.tape, hb.output, hb.size, hb.block⟩; have HF8 := hide hf; have HCB := hide (RES.out _ (below_trans1 B7.out HB8.out)); have HC := hide HCB.out.1; have z0 := block_cell HC.out.1 0; have f0 := block_free HC.out.1 0; have z1 := block_cell HC.out.1 1; have f1 := block_free HC.out.1 1; have z2 := block_cell HC.out.1 2; have f2 := block_free HC.out.1 2; have z3 := block_cell HC.out.1 3; have f3 := block_free HC.out.1 3; have z4 := block_cell HC.out.1 4; have f4 := block_free HC.out.1 4; have z5 := block_cell HC.out.1 5; have f5 := block_free HC.out.1 5; have z6 := block_cell HC.out.1 6; have f6 := block_free HC.out.1 6; have z7 := block_cell HC.out.1 7; have f7 := block_free HC.out.1 7; have z8 := block_cell HC.out.1 8; have f8 := block_free HC.out.1 8; have z9 := block_cell HC.out.1 9; have f9 := block_free HC.out.1 9; have y0 := block_cell HC.out.2 0; have y1 := block_cell HC.out.2 1; have g0 := block_free HC.out.2 0; have g1 := block_free HC.out.2 1; simp at z0 z1 z2 z3 z4 z5 z6 z7 z8 z9 y0 y1; have FIN := hide (fun x0 x1 x2 x3 x4 x5 x6 x7 x8 x9 u0 u1 => ru_fin (B := B) (m := (⟨v0, v1, x, y, bA, bH, bJ, (rdL rdDe sD nD).1, v2, L, a, na, ca, b, nb, cb, c, nc, cc, dO, nD, dc, fo, nS', fc⟩ : Mi)) HC.out (OM7.out.below HB8.out) (by omega) (by unfold unV; rw [HU.out, if_pos rfl]; exact HMV.out) (by rw [HU.out]; exact HF8.out) HCB.out.2 x0 x1 x2 x3 x4 x5 x6 x7 x8 x9 u0 u1); clear hf hb G))
                all_goals go_wp2
                all_goals refine bodyPost_ret (v := .tuple #[.agg #[.int .u64 (v0 : Int), .int .u64 (v1 : Int), .int .u64 (x : Int), .int .u64 (y : Int), .slice a na ca, .slice b nb cb, .slice c nc cc, .slice dO nD dc, .int .u64 (v2 : Int), .slice fo nS' fc], .agg #[.slice ao4 0 cap4, .int .i64 0]]) (by simp [results, Tryz.results14, go_sem, z0, z1, z2, z3, z4, z5, z6, z7, z8, z9, y0, y1]) rfl ?_
                all_goals exact ⟨(⟨v0, v1, x, y, bA, bH, bJ, (rdL rdDe sD nD).1, v2, L, a, na, ca, b, nb, cb, c, nc, cc, dO, nD, dc, fo, nS', fc⟩ : Mi), ao4, cap4, by rw [HU.out]; rfl, FIN.out _ _ _ _ _ _ _ _ _ _ _ _⟩
            · have hd0 : (ec != 0) = true := by simp [hez]
              have HU := hide (U.out.1 hez)
              have HEZ := hide hez
              clear U hez
              have HNW := hide (new0 wireN ea ec)
              have HWW : Hid (∀ (W : World) (ao : Option Addr) (cap b off : Nat), FV W.heap.size W ao [⟨wireN, ea⟩] b off → Calls Tryz.prog 48 #[.string snapN, .int .i64 ea, .agg #[.slice ao 1 cap, .int .i64 ec]] W (FvP W [⟨snapN, ea⟩, ⟨wireN, ea⟩] ec)) := fun W ao cap b off h => wrap0 snapN ea ec 1 cap rfl (by omega) W h
              unfold FvP at HNW HWW
              unfold wireN at HNW
              unfold snapN wireN at HWW
              have SB : Hid (∀ V, Below W6.heap.size W6 V → V.cell? ⟨w5.heap.size, 0, none⟩ = some (.int .i64 ec) ∧ V.cell? ⟨w5.heap.size, 1, none⟩ = some (.int .i64 ea)) := fun V hb => by
                have q := (hb.block _ (block_lt QN.out)).trans QN.out
                exact ⟨(block_cell q 0).trans rfl, (block_cell q 1).trans rfl⟩
              have hne0 : w5.heap.size ≠ w.heap.size := by omega
              have hne1 : w5.heap.size ≠ w.heap.size + 1 := by omega
              have hne2 : w.heap.size ≠ w5.heap.size := by omega
              have hne3 : w.heap.size + 1 ≠ w5.heap.size := by omega
              have SK : Hid (∀ (V : World) (q j : Nat) (u : Value), q ≠ w5.heap.size → (V.cell? ⟨w5.heap.size, 0, none⟩ = some (.int .i64 ec) ∧ V.cell? ⟨w5.heap.size, 1, none⟩ = some (.int .i64 ea)) → (V.setCell ⟨q, j, none⟩ u).cell? ⟨w5.heap.size, 0, none⟩ = some (.int .i64 ec) ∧ (V.setCell ⟨q, j, none⟩ u).cell? ⟨w5.heap.size, 1, none⟩ = some (.int .i64 ea)) := fun V q j u hne hS => by
                have k : ∀ (i : Nat), (V.setCell ⟨q, j, none⟩ u).cell? ⟨w5.heap.size, i, none⟩ = V.cell? ⟨w5.heap.size, i, none⟩ := fun i => World.cell?_setCell_far V ⟨q, j, none⟩ ⟨w5.heap.size, i, none⟩ u hne
                simp only [k]
                exact hS
              have SDR : Hid ((fun V => V.cell? ⟨w5.heap.size, 0, none⟩ = some (.int .i64 ec) ∧ V.cell? ⟨w5.heap.size, 1, none⟩ = some (.int .i64 ea)) W6.drew) := SB.out _ (Go.below_drewN (Below.refl _ _) 1)
              go_upto_region 27 with fail
              go_region_held (fun V => V.cell? ⟨w5.heap.size, 0, none⟩ = some (.int .i64 ec) ∧ V.cell? ⟨w5.heap.size, 1, none⟩ = some (.int .i64 ea)) (first | with_reducible exact SDR.out | with_reducible exact SB.out _ HB9.out | with_reducible exact SB.out _ HB8.out | (repeat (first | with_reducible assumption | with_reducible refine SK.out _ _ _ _ hne2 ?_ | with_reducible refine SK.out _ _ _ _ hne3 ?_)))
                (first
                  | (go_at_call 27; refine (HNW.out _).mono ?_; rintro e w8 ⟨ao8, cap8, rfl, G⟩; obtain ⟨bb, off, hf, hb⟩ := G.out; have HB8 : Hid (Below W6.heap.size W6 w8) := ⟨hb.os, hb.tape, hb.output, hb.size, hb.block⟩; have HF8 := hide hf; clear hf hb G)
                  | (go_at_call 48; refine (HWW.out _ _ _ _ _ HF8.out).mono ?_; rintro e w9 ⟨ao4, cap4, rfl, G⟩; obtain ⟨bb, off, hf, hb⟩ := G.out; have HB9 : Hid (Below W6.heap.size W6 w9) := below_trans1 HB8.out hb; have HF9 := hide hf; have HCB := hide (RES.out _ (below_trans1 B6.out HB9.out)); have HC := hide HCB.out.1; have z0 := block_cell HC.out.1 0; have f0 := block_free HC.out.1 0; have z1 := block_cell HC.out.1 1; have f1 := block_free HC.out.1 1; have z2 := block_cell HC.out.1 2; have f2 := block_free HC.out.1 2; have z3 := block_cell HC.out.1 3; have f3 := block_free HC.out.1 3; have z4 := block_cell HC.out.1 4; have f4 := block_free HC.out.1 4; have z5 := block_cell HC.out.1 5; have f5 := block_free HC.out.1 5; have z6 := block_cell HC.out.1 6; have f6 := block_free HC.out.1 6; have z7 := block_cell HC.out.1 7; have f7 := block_free HC.out.1 7; have z8 := block_cell HC.out.1 8; have f8 := block_free HC.out.1 8; have z9 := block_cell HC.out.1 9; have f9 := block_free HC.out.1 9; have y0 := block_cell HC.out.2 0; have y1 := block_cell HC.out.2 1; have g0 := block_free HC.out.2 0; have g1 := block_free HC.out.2 1; simp at z0 z1 z2 z3 z4 z5 z6 z7 z8 z9 y0 y1; have FIN := hide (fun x0 x1 x2 x3 x4 x5 x6 x7 x8 x9 u0 u1 => ru_fin (B := B) (m := Mi.zero) HC.out (Mi.zero_own (w.heap.size + 2) _) (by omega) (by unfold unV; rw [HU.out, if_neg HEZ.out]; rfl) (by rw [HU.out]; exact HF9.out) HCB.out.2 x0 x1 x2 x3 x4 x5 x6 x7 x8 x9 u0 u1); clear hf hb G))
              all_goals go_wp2
              all_goals refine bodyPost_ret (v := .tuple #[.agg #[.int .u64 0, .int .u64 0, .int .u64 0, .int .u64 0, .slice none 0 0, .slice none 0 0, .slice none 0 0, .slice none 0 0, .int .u64 0, .slice none 0 0], .agg #[.slice ao4 2 cap4, .int .i64 ec]]) (by simp [results, Tryz.results14, go_sem, z0, z1, z2, z3, z4, z5, z6, z7, z8, z9, y0, y1]) rfl ?_
              all_goals exact ⟨Mi.zero, ao4, cap4, by rw [HU.out]; rfl, FIN.out _ _ _ _ _ _ _ _ _ _ _ _⟩
end Go.Proofs.YtlidehhcoepikaaGreatDoor
