import Derived.Test.YtldhafpeigdloaaGreatDoorM21
import Derived.Test.YtldhafpeigdloaaGreatDoorTDec
import Derived.Test.YtldhafpeigdloaaGreatDoorM12
import Derived.Test.YtldhafpeigdloaaGreatDoorM7
import Derived.Test.YtldhafpeigdloaaGreatDoorM19
import Derived.Test.YtldhafpeigdloaaGreatDoorM15
namespace Go.Proofs.YtldhafpeigdloaaGreatDoor
open Go.RowKit Crc

/-- The empty message. -/
def mk0 : Mk := ⟨0, 0, 0, 0, .slice none 0 0, [], 0, .slice none 0 0, [], 0, 0, 0, .slice none 0 0, [], .slice none 0 0, [], false, 0, 0, List.replicate 32 0, .slice none 0 0, []⟩
theorem mk0_R : mk0.R = msgZ := rfl
theorem mo_nil (base : Nat) (w : World) : Mo base w mk0 := by
  obtain ⟨n1, n2⟩ := OwnRs.nil base w
  exact ⟨⟨World.ownsRow_nil _ _ _ _, fun t ht => (by cases ht), fun t ht => (by cases ht), .nil⟩, n1, n2, Owns.nil _ _, Owns.nil _ _, World.ownsRow_nil _ _ _ _⟩
theorem fm_new {lim : Nat} {w : World} {ao : Option Addr} {cap : Nat} {B : List Nat} (h : Shows lim w ao B.length cap B) (h8 : 8 ≤ B.length) (hl : lim ≤ w.heap.size) :
    Fm lim (w.heap.size + 1) w.heap.size true true ⟨true, 0, 0, B, 8, ⟨78, msgZ⟩⟩ mk0 (w.alloc (.cells (frZ ao B.length cap) 78)) := by
  have gA := World.grownBy_alloc w (.cells (frZ ao B.length cap) 78) none
  exact ⟨⟨ao, cap, alloc_at _ _, h.kept gA (fun g e => by cases e), h8, hl⟩, by rw [mk0_R], rfl, mo_nil _ _, fun _ => rfl, by omega, by simp, fun _ => rfl, fun _ => rfl⟩
theorem ErrV.pastM {w w' : World} {x : Value} {c a : Int} {R : Nat} {k : IntKind} {m : Int} (h : ErrV w x c a) (hg : w.grownBy w' (some R)) (hR : w.cell? ⟨R, 0, none⟩ = some (.int k m)) : ErrV w' x c a := by
  rcases h with h | ⟨⟨g, h1, h2, h3, h4⟩, hc⟩
  · exact .inl h
  · have hne : some g ≠ some R := fun e => by cases e; rw [hR] at h2; cases h2
    exact .inr ⟨⟨g, h1, hg.cell h2 hne, hg.cell h3 hne, hg.cell h4 hne⟩, hc⟩
/-- What DecodeMsg finds in a good frame's kind and bytes (without the sum). -/
def dRun (K : Nat) (B : List Nat) : RS × Mv := mrun (mfOf K) ⟨true, 0, 0, B, 8, KR⟩ mk0.mv
def mdC (K : Nat) (B : List Nat) : Int := if K < 1 ∨ 10 < K then 25 else (dRun K B).1.endC
def mdA (K : Nat) (B : List Nat) : Int := if K < 1 ∨ 10 < K then 3 else (dRun K B).1.endA
/-- The result's box, and its first cell. -/
structure Dh (w : World) (Z : Array Value) (W : World) : Prop where
  dg : Dg w Z W
  z0 : Z[0]? = some (.int .i64 0)
theorem Dh.cell {w : World} {Z : Array Value} {W : World} (h : Dh w Z W) : W.cell? ⟨w.heap.size, 0, none⟩ = some (.int .i64 0) := by
  rw [block_cell h.dg.box 0]
  exact h.z0
def DmPost (K : Nat) (B : List Nat) (w : World) (e : Ending) (w' : World) : Prop := ∃ (cs : List Value) (x : Value), e = .returned (.tuple #[.agg cs.toArray, x]) ∧ Hid (cs.length = 49 ∧ (∀ v ∈ cs, v.oneCell' = true) ∧ Below w.heap.size w w' ∧ ErrV w' x (mdC K B) (mdA K B) ∧ (mdC K B ≠ 0 → cs = msgZ) ∧ (mdC K B = 0 → ∃ c, cs = c.R.set 0 (.int .i64 (K : Int)) ∧ c.root.length = 32 ∧ c.mv = (dRun K B).2 ∧ Mo w.heap.size w' c))
theorem Mo.lower {base base' : Nat} {w : World} {c : Mk} (h : Mo base w c) (hl : base' ≤ base) : Mo base' w c := ⟨h.vo.lower hl, h.own.lower hl, h.free.lower hl, h.cm.lower hl, h.dat.lower hl, rowLower h.pa hl⟩

set_option maxRecDepth 10000 in
set_option maxHeartbeats 1600000 in
theorem decode_is (b off : Nat) (B : List Nat) (n cap : Nat) (w : World) (hn : n = B.length) (hcap : n ≤ cap) (hB : ∀ x ∈ B, x < 256) (hT : ∀ w1 : World, Below w.heap.size w w1 → Table w1) (hbw : b < w.heap.size)
  (hc : ∀ i, i < n → w.cell? ⟨b, off + i, none⟩ = some (.int .u8 ((B.getD i 0 : Nat) : Int))) (hok : (ff B).2 = 0) :
    Calls Tryz.prog 8 #[.slice (some ⟨b, off, none⟩) n cap] w (DmPost (B.getD 3 0) (B.take (n - 4)) w) := by
  obtain ⟨h12, hmax, hff, -, -, -, -⟩ := ff_ok hok
  have HF : Hid (∀ W : World, Below w.heap.size w W → Calls Tryz.prog 23 #[.slice (some ⟨b, off, none⟩) n cap] W fun e w' => e = .returned (.tuple #[.int .i64 0, .int .i64 0]) ∧ ∃ q, w' = W.drewN q) := fun W hb => by
    have h := ff_any b off (some ⟨b, off, none⟩) B n cap W (fun _ => rfl) hn (by omega) hcap hB (hT W hb) (fun i hi => (hb.cell (p := ⟨b, off + i, none⟩) hbw).trans (hc i hi))
    rw [hff] at h
    exact h
  obtain ⟨E, hE⟩ : ∃ E, E = n - 4 := ⟨_, rfl⟩
  rw [← hE]
  have he : (n : Int) - 4 = (E : Int) := by omega
  have e1 : 8 ≤ E := by omega
  have e3 : (E : Int) ≤ 65503 := by omega
  have e2 : E ≤ cap := by omega
  have i2 : (E : Int) ≤ (cap : Int) := by omega
  have i4 : (0 : Int) ≤ (E : Int) := by omega
  have j1 : (3 : Int) < (n : Int) := by omega
  have j2 : 3 < n := by omega
  have HSH : Hid (∀ W, Below w.heap.size w W → Shows w.heap.size W (some ⟨b, off, none⟩) (B.take E).length cap (B.take E)) := fun W hb => by
    have hl : (B.take E).length = E := by rw [List.length_take]; omega
    refine ⟨rfl, by rw [hl]; exact e2, by rw [hl]; omega, fun x hx => hB x (List.mem_of_mem_take hx), b, off, fun _ => rfl, fun _ => hbw, fun i hi => ?_⟩
    rw [getD_take (by omega)]
    exact (hb.cell (p := ⟨b, off + i, none⟩) hbw).trans (hc i (by omega))
  have HTL : Hid ((B.take E).length = E) := by show _ = _; rw [List.length_take]; omega
  have HC3 : Hid (∀ W, Below w.heap.size w W → W.cell? ⟨b, off + 3, none⟩ = some (.int .u8 ((B.getD 3 0 : Nat) : Int))) := fun W hb => (hb.cell (p := ⟨b, off + 3, none⟩) hbw).trans (hc 3 j2)
  have hb3 := getD_lt B hB 3
  clear hn hB hT hc hok hff hE h12 hmax
  generalize B.getD 3 0 = K at *
  obtain ⟨C, hC⟩ : ∃ C, B.take E = C := ⟨_, rfl⟩
  rw [hC] at HSH HTL ⊢
  clear hC
  have HBD : Hid (∀ W, (Instr.build 36 #[]).run Tryz.prog W = .ok (.agg msgZ.toArray) W) := fun W => build_zero W
  have HSZ : Hid ((Tryz.prog.info? 36).map (·.size) = some msgZ.length) := by show _ = _; rw [msgZ_len]; kernel_rfl
  have HSZ9 : Hid ((Tryz.prog.info? 36).map (·.size) = some 49) := by show _ = _; kernel_rfl
  unfold DmPost
  go_enter Tryz.func8, Tryz.ntmps8
  go_wp2_with fail
  generalize hW : World.alloc w _ = W
  obtain ⟨Z, hZ, hZ0, hW⟩ : ∃ Z : Array Value, Z.size = 49 ∧ Z[0]? = some (.int .i64 0) ∧ w.alloc (.cells Z 36) = W := ⟨_, by rfl, by rfl, hW⟩
  have D0 : Hid (Dg w Z W) := by rw [← hW]; exact ⟨(Below.refl _ w).alloc (Nat.le_refl _) _, alloc_at _ _⟩
  have HZ := hide hZ
  have HZ0 := hide hZ0
  clear hW hZ hZ0
  refine (HF.out W D0.out.bel).mono ?_
  rintro e w1 ⟨rfl, q, hq⟩
  have D1 : Hid (Dg w Z w1) := by rw [hq]; exact D0.out.quiet (drew_grown W q)
  clear hq D0 HF
  go_wp2_with fail
  refine (readerAt_any _ E cap 8 w1).mono ?_
  rintro e w2 ⟨rfl, hb2⟩
  have D2 := hide (D1.out.quiet (below_none hb2))
  clear hb2 D1
  have hc3 := HC3.out w2 D2.out.bel
  have hlb : b < w2.heap.size := Nat.lt_of_lt_of_le hbw D2.out.bel.size
  have hlt2 : w.heap.size < w2.heap.size := block_lt D2.out.box
  obtain ⟨W3, hW3⟩ : ∃ W3, w2.alloc (.cells (frZ (some ⟨b, off, none⟩) E cap) 78) = W3 := ⟨_, rfl⟩
  obtain ⟨s0, S3⟩ : ∃ s0, Hid (Fm w.heap.size (w2.heap.size + 1) w2.heap.size true true s0 mk0 W3 ∧ Dg w Z W3 ∧ w2.heap.size < W3.heap.size ∧ s0.un = ⟨true, 0, 0, C, 8, KR⟩) := by
    have h := fm_new (HSH.out w2 D2.out.bel) (by rw [HTL.out]; exact e1) D2.out.bel.size
    rw [HTL.out, hW3] at h
    exact ⟨_, h, by rw [← hW3]; exact D2.out.quiet (World.grownBy_alloc _ _ _), h.rd.plt, rfl⟩
  have HUN := hide S3.out.2.2.2
  have HW3 := hide hW3
  clear hW3 HSH HTL HC3 D2
  go_upto_region 6 with fail
  go_cut [8] from 10 (fun s8 W => (s8 = .slice none 0 0 ∧ Hid (K < 1 ∨ 10 < K) ∨ ∃ bl, s8 = .slice (some ⟨bl, 0, none⟩) (mfOf K).length (mfOf K).length ∧ Hid (W.heap[bl]? = some (.cells ((mfOf K).map fun f => mv f.name (frvM w2.heap.size)).toArray 1 (0, 0)) ∧ bl ≠ w2.heap.size ∧ ¬ (K < 1 ∨ 10 < K))) ∧ Hid (Fm w.heap.size (w2.heap.size + 1) w2.heap.size true true s0 mk0 W ∧ Dg w Z W))
  case first =>
    by_cases hk : K < 1 ∨ 10 < K
    · go_wp2_with fail
      refine callsAt HW3.out ?_
      refine (msgList_0 K _ hk W3).mono ?_
      rintro e w4 ⟨rfl, rfl⟩
      have R3 := hide (And.intro S3.out.1 S3.out.2.1)
      have HK := hide hk
      clear HW3 hk
      go_wp2
      go_meet
      case rel => exact ⟨.inl ⟨rfl, HK⟩, R3⟩
    · go_wp2_with fail
      refine callsAt HW3.out ?_
      refine (msgList_any K _ ⟨by omega, by omega⟩ W3).mono ?_
      rintro e w4 ⟨rfl, G4⟩
      have R3 : Hid (Fm w.heap.size (w2.heap.size + 1) w2.heap.size true true s0 mk0 w4 ∧ Dg w Z w4) := ⟨S3.out.1.quiet (below_none G4.out.2), S3.out.2.1.quiet (below_none G4.out.2)⟩
      have hne : W3.heap.size ≠ w2.heap.size := by have := S3.out.2.2; omega
      have B4 : Hid (w4.heap[W3.heap.size]? = some (.cells ((mfOf K).map fun f => mv f.name (frvM w2.heap.size)).toArray 1 (0, 0)) ∧ W3.heap.size ≠ w2.heap.size ∧ ¬ (K < 1 ∨ 10 < K)) := ⟨G4.out.1, hne, hk⟩
      clear HW3 hk G4 hne
      go_wp2
      go_meet
      case rel => exact ⟨.inr ⟨_, rfl, B4⟩, R3⟩
  case rest =>
  obtain ⟨h8, C6⟩ := hcut
  clear HW3 S3 hc3
  have hsn := slm_nil
  have hss := slm_some
  have hpw := hlt2
  generalize w2.heap.size = p at *
  rcases h8 with ⟨rfl, HKN⟩ | ⟨bl, rfl, HBL⟩
  · have HONE : Hid (msgZ.length = 49 ∧ ∀ v ∈ msgZ, v.oneCell' = true) := ⟨msgZ_len, msgZ_one⟩
    have HDC : Hid (mdC K C = 25 ∧ mdA K C = 3) := ⟨if_pos HKN.out, if_pos HKN.out⟩
    obtain ⟨cs, hcs⟩ : ∃ cs, msgZ = cs := ⟨_, rfl⟩
    have HCS := hide hcs
    rw [hcs] at HONE HBD HSZ
    clear hcs
    go_wp2_with (refine wpList_pure rfl (exec_build (t := 36) (parts := #[]) rfl (by simpa using HBD.out _)) ?_)
    refine (refusal_any _ _ _).mono ?_
    rintro e w4 ⟨v, rfl, rfl, hf, hb4⟩
    have D4 := hide (C6.out.2.quiet (below_none hb4))
    have TH : Hid (w4.there w.heap.size 0 cs.length) := block_there2 D4.out.box (by rw [HZ.out, HONE.out.1]; exact Nat.le_refl _)
    have HER : Hid (ErrV (w4.setCells w.heap.size 0 cs) (.iface 84 (.pointer (some ⟨wc.heap.size, 0, none⟩))) 25 3) := ErrV.pastM (.inr ⟨hf, by decide⟩) (grown_setCellsH _ _ _ _) (Dh.cell ⟨D4.out, HZ0.out⟩)
    clear hf hb4 C6
    go_wp2_with (refine wpList_store_mid rfl 36 _ _ rfl w.heap.size 0 cs.toArray rfl rfl (by simpa using TH.out) (by simpa using HSZ.out) (all_oneCell_toArray HONE.out.2) ?_)
    have hld := run_loadVar_mid (P := Tryz.prog) (w4.setCells w.heap.size 0 cs) w.heap.size 0 36 cs _ (World.rangeAt_setCells_same _ _ _ _ TH.out) Tryz.underlying36 rfl HSZ.out
    refine bodyPost_ret (v := .tuple #[.agg cs.toArray, .iface 84 (.pointer (some ⟨wc.heap.size, 0, none⟩))]) ?_ rfl ⟨cs, _, rfl, HONE.out.1, HONE.out.2, D4.out.bel.trans (grown_setC _ _ _ _), by rw [HDC.out.1, HDC.out.2]; exact HER.out, fun _ => HCS.out.symm, fun e => by rw [HDC.out.1] at e; cases e⟩
    simp [results, Tryz.results8, asAddr, hld]
  · have HRD := hide (read_is (mfOf K) (mfOf_nodup K).1 (mfOf_nodup K).2 C6.out.1 HBL.out.1 HBL.out.2.1)
    have HDR : Hid (mdC K C = (mrun (mfOf K) s0.un mk0.mv).1.endC ∧ mdA K C = (mrun (mfOf K) s0.un mk0.mv).1.endA ∧ mrun (mfOf K) s0.un mk0.mv = dRun K C) := by
      rw [HUN.out]
      exact ⟨if_neg HBL.out.2.2, if_neg HBL.out.2.2, rfl⟩
    have D3 := hide C6.out.2
    clear HBL C6
    go_wp2_with fail
    refine HRD.out.mono ?_
    rintro e w4 ⟨x, rfl, G4⟩
    obtain ⟨hx, hfm, g4⟩ := G4.out
    have D4 := hide (D3.out.next g4 hpw)
    rw [← HDR.out.1, ← HDR.out.2.1] at hx
    rw [← HDR.out.1, HDR.out.2.2] at hfm
    have HX := hide hx
    have HFM := hide hfm
    clear HRD D3 G4 g4 hfm HDR
    rcases hx with ⟨rfl, hz, -⟩ | ⟨⟨g, rfl, -⟩, hz⟩
    · obtain ⟨a', b', s', c, fm, hmv⟩ := HFM.out hz
      have SG := hide fm
      have HMV := hide hmv
      have HZE := hide hz
      clear fm hmv hz HFM
      obtain ⟨c0, f0⟩ := SG.out.rd.cellR 0
      obtain ⟨u, hu⟩ := some_at (j := 0) (by have := SG.out.len; omega : 0 < s'.K.R.length)
      rw [hu] at c0
      obtain ⟨cs, hcs⟩ : ∃ cs, (s'.setR 0 (.int .i64 (K : Int))).K.R = cs := ⟨_, rfl⟩
      have HCE : Hid (cs = c.R.set 0 (.int .i64 (K : Int))) := by show _ = _; rw [← hcs, setR_K, SG.out.k]
      have HMO : Hid (Mo w.heap.size ((w4.setCell ⟨p, 5, none⟩ (.int .i64 (K : Int))).setCells w.heap.size 0 cs) c) := ((SG.out.mo.past (grown_set _ _ _ _) SG.out.hp).past (grown_setCellsH _ _ _ _) (by omega)).lower (by omega)
      have HRT := hide SG.out.rl
      have HR : Hid (cs.length = 49 ∧ (∀ v ∈ cs, v.oneCell' = true) ∧ (w4.setCell ⟨p, 5, none⟩ (.int .i64 (K : Int))).rangeAt p 5 cs ∧ Dg w Z (w4.setCell ⟨p, 5, none⟩ (.int .i64 (K : Int)))) := by
        have r := SG.out.rd.setR 0 (.int .i64 (K : Int))
        rw [← hcs]
        refine ⟨by rw [setR_len]; exact SG.out.len, setR_one SG.out.one 0 rfl, fun j v hv => ?_, D4.out.next (grown_set _ _ _ _) hpw⟩
        rw [Nat.add_comm 5 j]
        exact (r.cellR j).1.trans hv
      have HSC : Hid ((Tryz.prog.info? 36).map (·.size) = some cs.length) := by show _ = _; rw [HR.out.1]; exact HSZ9.out
      have TH : Hid ((w4.setCell ⟨p, 5, none⟩ (.int .i64 (K : Int))).there w.heap.size 0 cs.length) := block_there2 HR.out.2.2.2.box (by rw [HZ.out, HR.out.1]; exact Nat.le_refl _)
      clear hu hcs SG D4
      go_wp2_with (first
        | (refine wpList_load_mid rfl 36 _ rfl p 5 rfl cs _ HR.out.2.2.1 Tryz.underlying36 rfl HSC.out ?_)
        | (refine wpList_store_mid rfl 36 _ _ rfl w.heap.size 0 cs.toArray rfl rfl (by simpa using TH.out) (by simpa using HSC.out) (all_oneCell_toArray HR.out.2.1) ?_))
      have hld := run_loadVar_mid (P := Tryz.prog) ((w4.setCell ⟨p, 5, none⟩ (.int .i64 (K : Int))).setCells w.heap.size 0 cs) w.heap.size 0 36 cs _ (World.rangeAt_setCells_same _ _ _ _ TH.out) Tryz.underlying36 rfl HSC.out
      refine bodyPost_ret (v := .tuple #[.agg cs.toArray, .nilIface]) ?_ rfl ⟨cs, _, rfl, HR.out.1, HR.out.2.1, HR.out.2.2.2.bel.trans (grown_setC _ _ _ _), (HX.out.elim (fun h => .inl h) (fun h => absurd HZE.out h.2)), fun e => absurd HZE.out e, fun _ => ⟨c, HCE.out, HRT.out, HMV.out, HMO.out⟩⟩
      simp [results, Tryz.results8, asAddr, hld]
    · have HONE : Hid (msgZ.length = 49 ∧ ∀ v ∈ msgZ, v.oneCell' = true) := ⟨msgZ_len, msgZ_one⟩
      have HNZ := hide hz
      clear hz HFM
      obtain ⟨cs, hcs⟩ : ∃ cs, msgZ = cs := ⟨_, rfl⟩
      have HCS := hide hcs
      rw [hcs] at HONE HBD HSZ
      clear hcs
      have HER := hide (ErrV.pastM HX.out (grown_setCellsH w.heap.size cs 0 w4) (Dh.cell ⟨D4.out, HZ0.out⟩))
      have TH : Hid (w4.there w.heap.size 0 cs.length) := block_there2 D4.out.box (by rw [HZ.out, HONE.out.1]; exact Nat.le_refl _)
      go_wp2_with (first
        | (refine wpList_pure rfl (exec_build (t := 36) (parts := #[]) rfl (by simpa using HBD.out _)) ?_)
        | (refine wpList_store_mid rfl 36 _ _ rfl w.heap.size 0 cs.toArray rfl rfl (by simpa using TH.out) (by simpa using HSZ.out) (all_oneCell_toArray HONE.out.2) ?_))
      have hld := run_loadVar_mid (P := Tryz.prog) (w4.setCells w.heap.size 0 cs) w.heap.size 0 36 cs _ (World.rangeAt_setCells_same _ _ _ _ TH.out) Tryz.underlying36 rfl HSZ.out
      refine bodyPost_ret (v := .tuple #[.agg cs.toArray, .iface 84 (.pointer (some ⟨g, 0, none⟩))]) ?_ rfl ⟨cs, _, rfl, HONE.out.1, HONE.out.2, D4.out.bel.trans (grown_setC _ _ _ _), HER.out, fun _ => HCS.out.symm, fun e => absurd e HNZ.out⟩
      simp [results, Tryz.results8, asAddr, hld]
end Go.Proofs.YtldhafpeigdloaaGreatDoor
namespace Go.Proofs.YtldhafpeigdloaaGreatDoor
open Go.RowKit Crc

/-- A number that is taken is one that was laid down just so. -/
theorem numGo_inv : ∀ (B : List Nat) (i n : Nat), i ≤ 9 → (∀ x ∈ B, x < 256) → (numGo B i n).2.2 = 0 → ∃ v, (numGo B i n).1 = n + v * 2 ^ (7 * i) ∧ (0 < i → 0 < v) ∧ (numGo B i n).2.1 = i + (numTo (9 - i) v).length ∧ B = numTo (9 - i) v ++ B.drop (numTo (9 - i) v).length
  | [], _, _, _, _, h => by cases h
  | c :: r, i, n, hi, hB, h => by
    have hc : c < 256 := hB c (by simp)
    rw [numGo] at h ⊢
    by_cases h1 : i = 9 ∧ 1 < c
    · rw [if_pos h1] at h; cases h
    · rw [if_neg h1] at h ⊢
      by_cases h2 : 128 ≤ c
      · rw [if_pos h2] at h ⊢
        obtain ⟨v, e1, e2, e3, e4⟩ := numGo_inv r (i + 1) _ (by omega) (fun x hx => hB x (by simp [hx])) h
        have e2 := e2 (by omega)
        have ef : 9 - i = (9 - (i + 1)) + 1 := by omega
        have en : numTo (9 - i) (c % 128 + 128 * v) = c :: numTo (9 - (i + 1)) v := by
          rw [ef, numTo, if_neg (by omega)]
          congr 1
          · omega
          · congr 1; omega
        refine ⟨c % 128 + 128 * v, ?_, fun _ => by omega, ?_, ?_⟩
        · rw [e1, show 7 * (i + 1) = 7 + 7 * i by omega, Nat.pow_add, show (2 : Nat) ^ 7 = 128 from rfl, Nat.add_mul, ← Nat.mul_assoc, Nat.mul_comm 128 v]
          omega
        · rw [e3, en, List.length_cons]; omega
        · rw [en, List.length_cons, List.drop_succ_cons, List.cons_append, ← e4]
      · rw [if_neg h2] at h ⊢
        by_cases h3 : c = 0 ∧ 0 < i
        · rw [if_pos h3] at h; cases h
        · rw [if_neg h3]
          have en : numTo (9 - i) c = [c] := by
            cases 9 - i with
            | zero => rfl
            | succ f => rw [numTo, if_pos (by omega)]
          refine ⟨c, by rw [Nat.mod_eq_of_lt (by omega)], fun _ => by omega, by rw [en]; rfl, by rw [en]; rfl⟩
theorem numAt_inv {B : List Nat} (hB : ∀ x ∈ B, x < 256) (h : (numAt B).2.2 = 0) : (numAt B).2.1 = (numB (numAt B).1).length ∧ B = numB (numAt B).1 ++ B.drop (numAt B).2.1 := by
  unfold numAt numB at *
  obtain ⟨v, e1, e2, e3, e4⟩ := numGo_inv B 0 0 (by omega) hB h
  have ev : (numGo B 0 0).1 = v := by rw [e1]; simp
  rw [ev, e3]
  rw [Nat.zero_add]
  exact ⟨rfl, e4⟩
theorem countAt_inv {B : List Nat} {most : Int} (hB : ∀ x ∈ B, x < 256) (h : (countAt B most).2.2 = 0) : ((countAt B most).1 : Int) ≤ most ∧ (countAt B most).2.1 = (numB (countAt B most).1).length ∧ B = numB (countAt B most).1 ++ B.drop (countAt B most).2.1 := by
  unfold countAt at h ⊢
  by_cases h1 : (numAt B).2.2 ≠ 0
  · rw [if_pos h1] at h; exact absurd h h1
  · rw [if_neg h1] at h ⊢
    by_cases h2 : most < ((numAt B).1 : Int)
    · rw [if_pos h2] at h; cases h
    · rw [if_neg h2]
      exact ⟨by show ((numAt B).1 : Int) ≤ most; omega, numAt_inv hB (Classical.not_not.1 h1)⟩
theorem blobAt_inv {B : List Nat} {most : Int} (hB : ∀ x ∈ B, x < 256) (h : (blobAt B most).2.2 = 0) : ((blobAt B most).1.length : Int) ≤ most ∧ B = numB (blobAt B most).1.length ++ ((blobAt B most).1 ++ B.drop (blobAt B most).2.1) := by
  unfold blobAt at h ⊢
  by_cases h1 : (countAt B most).2.2 ≠ 0
  · rw [if_pos h1] at h; exact absurd h h1
  · rw [if_neg h1] at h ⊢
    by_cases h2 : B.length < (countAt B most).2.1 + (countAt B most).1
    · rw [if_pos h2] at h; cases h
    · rw [if_neg h2]
      obtain ⟨e1, e2, e3⟩ := countAt_inv hB (Classical.not_not.1 h1)
      have hl : ((B.drop (countAt B most).2.1).take (countAt B most).1).length = (countAt B most).1 := by
        rw [List.length_take, List.length_drop]; omega
      simp only [hl]
      refine ⟨e1, ?_⟩
      rw [← List.drop_drop, List.take_append_drop]
      exact e3

/-- A reader's steps. -/
theorem step_inv {s : RS} {z : Nat} {y : Int} (hs : s.sound) (h : (s.step z y).sound) : y = 0 ∧ (s.step z y).rest = s.rest.drop z := by
  unfold RS.step at h ⊢
  rw [if_pos hs] at h ⊢
  by_cases hy : y = 0
  · rw [if_pos hy]
    refine ⟨hy, ?_⟩
    have hs' : s.made = true ∧ s.why = 0 := hs
    show (if s.made = true ∧ s.why = 0 then s.B.drop (s.pos + z) else []) = (if s.made = true ∧ s.why = 0 then s.B.drop s.pos else []).drop z
    rw [if_pos hs', if_pos hs', List.drop_drop]
  · rw [if_neg hy] at h; exact absurd h.2 hy
theorem step_fwd {s : RS} (z : Nat) (hs : s.sound) : (s.step z 0).sound ∧ (s.step z 0).rest = s.rest.drop z := by
  have h : (s.step z 0).sound := by unfold RS.step; rw [if_pos hs, if_pos rfl]; exact hs
  exact ⟨h, (step_inv hs h).2⟩
theorem drop_len {X R : List Nat} : (X ++ R).drop X.length = R := List.drop_left
theorem num_inv {s : RS} (hb : ∀ x ∈ s.rest, x < 256) (hs : s.sound) (h : (rdNum s).sound) : s.rest = numB (numAt s.rest).1 ++ (rdNum s).rest := by
  unfold rdNum at h ⊢
  obtain ⟨e1, e2⟩ := step_inv hs h
  rw [e2]
  exact (numAt_inv hb e1).2
theorem num_fwd {s : RS} {v : Nat} {R : List Nat} (hs : s.sound) (hv : v < 18446744073709551616) (h : s.rest = numB v ++ R) : (numAt s.rest).1 = v ∧ (rdNum s).sound ∧ (rdNum s).rest = R := by
  have e := numAt_numB v R hv
  unfold rdNum
  rw [h, e]
  dsimp only
  refine ⟨rfl, (step_fwd _ hs).1, ?_⟩
  rw [(step_fwd _ hs).2, h]
  exact drop_len
theorem failP_not {s : RS} {a y : Int} (hy : y ≠ 0) : ¬ (s.failP a y).sound := by
  unfold RS.failP
  by_cases h : s.sound
  · rw [if_pos h]; exact fun x => hy x.2
  · rw [if_neg h]; exact h
theorem bound_inv {s : RS} {a b : Nat} (hb : ∀ x ∈ s.rest, x < 256) (hs : s.sound) (h : (rdBound s a b).sound) : s.rest = numB (numAt s.rest).1 ++ (rdBound s a b).rest ∧ a ≤ (numAt s.rest).1 ∧ (numAt s.rest).1 ≤ b := by
  unfold rdBound at h ⊢
  by_cases hy : bndY (numAt s.rest).1 a b = 0
  · rw [if_pos hy] at h ⊢
    refine ⟨num_inv hb hs h, ?_⟩
    unfold bndY at hy
    by_cases hx : (numAt s.rest).1 < a ∨ b < (numAt s.rest).1
    · rw [if_pos hx] at hy; cases hy
    · omega
  · rw [if_neg hy] at h; exact absurd h (failP_not (by decide))
theorem bound_fwd {s : RS} {v a b : Nat} {R : List Nat} (hs : s.sound) (hv : v < 18446744073709551616) (ha : a ≤ v) (hb : v ≤ b) (h : s.rest = numB v ++ R) : (numAt s.rest).1 = v ∧ (rdBound s a b).sound ∧ (rdBound s a b).rest = R := by
  obtain ⟨e1, e2, e3⟩ := num_fwd hs hv h
  have e : rdBound s a b = rdNum s := by
    have e0 : bndY v a b = 0 := by unfold bndY; rw [if_neg (by omega)]
    unfold rdBound
    rw [e1, if_pos e0]
  rw [e]; exact ⟨e1, e2, e3⟩
theorem blob_inv {s : RS} {most : Int} (hb : ∀ x ∈ s.rest, x < 256) (hs : s.sound) (h : (s.step (blobAt s.rest most).2.1 (blobAt s.rest most).2.2).sound) : ((blobAt s.rest most).1.length : Int) ≤ most ∧ s.rest = numB (blobAt s.rest most).1.length ++ ((blobAt s.rest most).1 ++ (s.step (blobAt s.rest most).2.1 (blobAt s.rest most).2.2).rest) := by
  obtain ⟨e1, e2⟩ := step_inv hs h
  rw [e2]
  exact blobAt_inv hb e1
theorem blob_fwd {s : RS} {most : Int} {C R : List Nat} (hs : s.sound) (hv : C.length < 18446744073709551616) (hm : (C.length : Int) ≤ most) (h : s.rest = numB C.length ++ (C ++ R)) : (blobAt s.rest most).1 = C ∧ (s.step (blobAt s.rest most).2.1 (blobAt s.rest most).2.2).sound ∧ (s.step (blobAt s.rest most).2.1 (blobAt s.rest most).2.2).rest = R := by
  have e := blobAt_numB C R most hv hm
  rw [h, e]
  dsimp only
  refine ⟨rfl, (step_fwd _ hs).1, ?_⟩
  rw [(step_fwd _ hs).2, h, ← List.append_assoc, ← List.length_append]
  exact drop_len
theorem count_inv {s : RS} {most : Int} (hb : ∀ x ∈ s.rest, x < 256) (hs : s.sound) (h : (s.step (countAt s.rest most).2.1 (countAt s.rest most).2.2).sound) : ((countAt s.rest most).1 : Int) ≤ most ∧ s.rest = numB (countAt s.rest most).1 ++ (s.step (countAt s.rest most).2.1 (countAt s.rest most).2.2).rest := by
  obtain ⟨e1, e2⟩ := step_inv hs h
  rw [e2]
  exact ⟨(countAt_inv hb e1).1, (countAt_inv hb e1).2.2⟩
theorem count_fwd {s : RS} {most : Int} {v : Nat} {R : List Nat} (hs : s.sound) (hv : v < 18446744073709551616) (hm : (v : Int) ≤ most) (h : s.rest = numB v ++ R) : (countAt s.rest most).1 = v ∧ (s.step (countAt s.rest most).2.1 (countAt s.rest most).2.2).sound ∧ (s.step (countAt s.rest most).2.1 (countAt s.rest most).2.2).rest = R := by
  have e := countAt_numB v R most hv hm
  rw [h, e]
  dsimp only
  refine ⟨rfl, (step_fwd _ hs).1, ?_⟩
  rw [(step_fwd _ hs).2, h]
  exact drop_len
theorem tail_lt {X R Y : List Nat} (hb : ∀ x ∈ Y, x < 256) (h : Y = X ++ R) : ∀ x ∈ R, x < 256 := fun x hx => hb x (by rw [h]; simp [hx])

/-- A request that is read, and its bytes. -/
def encV (v : Nat × Nat × List Nat) : List Nat := numB v.1 ++ (numB v.2.1 ++ (numB v.2.2.length ++ v.2.2))
def VOk (v : Nat × Nat × List Nat) : Prop := 256 ≤ v.1 ∧ v.1 < 18446744073709551616 ∧ v.2.1 < 18446744073709551616 ∧ v.2.2.length ≤ 700
theorem rq_inv {s : RS} (hb : ∀ x ∈ s.rest, x < 256) (hs : s.sound) (h : (rqS3 s).sound) : s.rest = encV (rqV s) ++ (rqS3 s).rest ∧ VOk (rqV s) := by
  have h2 : (rqS2 s).sound := Classical.byContradiction fun x => x (by have e : rqS3 s = rqS2 s := step_dead x _ _; rw [← e]; exact h)
  have h1 : (rqS1 s).sound := Classical.byContradiction fun x => x (by have e : rqS2 s = rqS1 s := rdNum_dead x; rw [← e]; exact h2)
  obtain ⟨a1, a2, a3⟩ := bound_inv hb hs h1
  have b1 := tail_lt hb a1
  have a4 := num_inv b1 h1 h2
  have b2 := tail_lt b1 a4
  obtain ⟨a5, a6⟩ := blob_inv b2 h2 h
  refine ⟨?_, a2, (numAt_ok _).1, (numAt_ok _).1, by exact Int.ofNat_le.1 a5⟩
  unfold encV rqV
  dsimp only
  rw [List.append_assoc, List.append_assoc, List.append_assoc]
  exact a1.trans (congrArg _ (a4.trans (congrArg _ a6)))
theorem rq_fwd {s : RS} {v : Nat × Nat × List Nat} {R : List Nat} (hs : s.sound) (hv : VOk v) (h : s.rest = encV v ++ R) : rqV s = v ∧ (rqS3 s).sound ∧ (rqS3 s).rest = R := by
  obtain ⟨x, y, C⟩ := v
  obtain ⟨v1, v2, v3, v4⟩ := hv
  dsimp only at v1 v2 v3 v4
  unfold encV at h
  simp only [List.append_assoc] at h
  obtain ⟨a1, a2, a3⟩ := bound_fwd (a := 256) (b := 18446744073709551615) hs v2 v1 (by omega) h
  obtain ⟨b1, b2, b3⟩ := num_fwd (s := rqS1 s) a2 v3 a3
  obtain ⟨c1, c2, c3⟩ := blob_fwd (s := rqS2 s) (most := 700) b2 (by omega) (by omega) b3
  refine ⟨?_, c2, c3⟩
  unfold rqV
  rw [a1, b1, c1]
theorem go_inv : ∀ (n : Nat) (s : RS), (∀ x ∈ s.rest, x < 256) → s.sound → (rdGo n s).2.sound → s.rest = ((rdGo n s).1.map encV).flatten ++ (rdGo n s).2.rest ∧ (∀ v ∈ (rdGo n s).1, VOk v) ∧ (rdGo n s).1.length = n
  | 0, s, _, _, _ => by simp [rdGo]
  | n + 1, s, hb, hs, h => by
    rw [rdGo] at h ⊢
    dsimp only at h ⊢
    have h1 : (rqS3 s).sound := Classical.byContradiction fun x => x (by rw [rdGo_dead n _ x] at h; exact h)
    obtain ⟨a1, a2⟩ := rq_inv hb hs h1
    obtain ⟨b1, b2, b3⟩ := go_inv n (rqS3 s) (tail_lt hb a1) h1 h
    refine ⟨?_, ?_, by rw [List.length_cons, b3]⟩
    · rw [List.map_cons, List.flatten_cons, List.append_assoc, ← b1]; exact a1
    · intro v hv
      rcases List.mem_cons.1 hv with rfl | hv
      · exact a2
      · exact b2 v hv
theorem go_fwd : ∀ (V : List (Nat × Nat × List Nat)) (s : RS) (R : List Nat), s.sound → (∀ v ∈ V, VOk v) → s.rest = (V.map encV).flatten ++ R → (rdGo V.length s).1 = V ∧ (rdGo V.length s).2.sound ∧ (rdGo V.length s).2.rest = R
  | [], s, R, hs, _, h => ⟨rfl, hs, by simpa [rdGo] using h⟩
  | v :: V, s, R, hs, hV, h => by
    rw [List.map_cons, List.flatten_cons, List.append_assoc] at h
    obtain ⟨a1, a2, a3⟩ := rq_fwd hs (hV v (by simp)) h
    obtain ⟨b1, b2, b3⟩ := go_fwd V (rqS3 s) R a2 (fun x hx => hV x (by simp [hx])) a3
    rw [List.length_cons, rdGo]
    dsimp only
    exact ⟨by rw [a1, b1], b2, b3⟩

/-- A batch that is read, and its bytes. -/
def encVs (st : Nat) (V : List (Nat × Nat × List Nat)) : List Nat := numB st ++ (numB V.length ++ (V.map encV).flatten)
def VsOk (st : Nat) (V : List (Nat × Nat × List Nat)) : Prop := st ≤ 1099511627776 ∧ V.length ≤ 8 ∧ ∀ v ∈ V, VOk v
theorem bat_inv {s : RS} (hb : ∀ x ∈ s.rest, x < 256) (hs : s.sound) (h : (bEnd s).sound) : s.rest = encVs (numAt s.rest).1 (bVals s) ++ (bEnd s).rest ∧ VsOk (numAt s.rest).1 (bVals s) := by
  have h2 : (bS2 s).sound := Classical.byContradiction fun x => x (by have e : bEnd s = bS2 s := rdGo_dead _ _ x; rw [← e]; exact h)
  have h1 : (bS1 s).sound := Classical.byContradiction fun x => x (by have e : bS2 s = bS1 s := step_dead x _ _; rw [← e]; exact h2)
  obtain ⟨a1, a2, a3⟩ := bound_inv hb hs h1
  have b1 := tail_lt hb a1
  obtain ⟨a4, a5⟩ := count_inv b1 h1 h2
  obtain ⟨c1, c2, c3⟩ := go_inv (bN s) (bS2 s) (tail_lt b1 a5) h2 h
  refine ⟨?_, a3, ?_, c2⟩
  · unfold encVs
    rw [List.append_assoc, List.append_assoc]
    refine a1.trans (congrArg _ (a5.trans ?_))
    rw [show (bVals s).length = (countAt (bS1 s).rest 8).1 from c3]
    exact congrArg _ c1
  · have a4 : ((countAt (bS1 s).rest 8).1 : Int) ≤ 8 := a4
    rw [show (bVals s).length = (countAt (bS1 s).rest 8).1 from c3]; omega
theorem bat_fwd {s : RS} {st : Nat} {V : List (Nat × Nat × List Nat)} {R : List Nat} (hs : s.sound) (hV : VsOk st V) (h : s.rest = encVs st V ++ R) : (numAt s.rest).1 = st ∧ bVals s = V ∧ (bEnd s).sound ∧ (bEnd s).rest = R := by
  obtain ⟨v1, v2, v3⟩ := hV
  unfold encVs at h
  rw [List.append_assoc, List.append_assoc] at h
  obtain ⟨a1, a2, a3⟩ := bound_fwd (a := 0) (b := 1099511627776) hs (by omega) (by omega) v1 h
  obtain ⟨b1, b2, b3⟩ := count_fwd (s := bS1 s) (most := 8) a2 (by omega) (by omega) a3
  have e : bN s = V.length := b1
  obtain ⟨c1, c2, c3⟩ := go_fwd V (bS2 s) R b2 v3 b3
  refine ⟨a1, ?_, ?_, ?_⟩
  · unfold bVals; rw [e]; exact c1
  · unfold bEnd; rw [e]; exact c2
  · unfold bEnd; rw [e]; exact c3
end Go.Proofs.YtldhafpeigdloaaGreatDoor
namespace Go.Proofs.YtldhafpeigdloaaGreatDoor
open Go.RowKit Crc

theorem big1 {x : Nat} (h : x < 256) : big x 1 = [x] := by
  show [x / 2 ^ (8 * (1 - 1 - 0)) % 256] = [x]
  rw [show 8 * (1 - 1 - 0) = 0 from rfl, Nat.pow_zero, Nat.div_one, Nat.mod_eq_of_lt h]
theorem byte_inv {s : RS} (hb : ∀ x ∈ s.rest, x < 256) (hs : s.sound) (h : (s.step 1 (aheadW s.rest 1)).sound) : s.rest = big (hi (aheadV s.rest 1)) 1 ++ (s.step 1 (aheadW s.rest 1)).rest := by
  obtain ⟨e1, e2⟩ := step_inv hs h
  rw [e2]
  unfold aheadW at e1
  by_cases hl : s.rest.length < 1
  · rw [if_pos hl] at e1; cases e1
  · unfold aheadV
    rw [if_neg hl]
    cases hr : s.rest with
    | nil => rw [hr] at hl; exact absurd (by decide) hl
    | cons c t =>
      have hc : c < 256 := hb c (by rw [hr]; simp)
      rw [show (c :: t).take 1 = [c] from rfl, show hi [c] = c by simp [hi], big1 hc]
      rfl
theorem byte_fwd {s : RS} {v : Nat} {R : List Nat} (hs : s.sound) (hv : v < 256) (h : s.rest = big v 1 ++ R) : hi (aheadV s.rest 1) = v ∧ (s.step 1 (aheadW s.rest 1)).sound ∧ (s.step 1 (aheadW s.rest 1)).rest = R := by
  obtain ⟨e1, e2⟩ := ahead_big v 1 R (by omega)
  rw [← h] at e1 e2
  rw [e2]
  refine ⟨e1, (step_fwd _ hs).1, ?_⟩
  rw [(step_fwd _ hs).2, h, big1 hv]
  rfl
theorem bal_inv {s : RS} (hb : ∀ x ∈ s.rest, x < 256) (hs : s.sound) (h : (balS s).sound) : s.rest = numB (numAt s.rest).1 ++ (big (nodeV s) 1 ++ (balS s).rest) ∧ (numAt s.rest).1 ≤ 1099511627776 ∧ nodeV s ≤ 6 := by
  unfold balS at h ⊢
  by_cases h6 : 6 < nodeV s
  · rw [if_pos h6] at h; exact absurd h (failP_not (by decide))
  · rw [if_neg h6] at h ⊢
    have h1 : (balS1 s).sound := Classical.byContradiction fun x => x (by have e : balS2 s = balS1 s := step_dead x _ _; rw [← e]; exact h)
    obtain ⟨a1, a2, a3⟩ := bound_inv hb hs h1
    exact ⟨a1.trans (congrArg _ (byte_inv (tail_lt hb a1) h1 h)), a3, by omega⟩
theorem bal_fwd {s : RS} {num node : Nat} {R : List Nat} (hs : s.sound) (hn : num ≤ 1099511627776) (h6 : node ≤ 6) (h : s.rest = numB num ++ (big node 1 ++ R)) : (numAt s.rest).1 = num ∧ nodeV s = node ∧ (balS s).sound ∧ (balS s).rest = R := by
  obtain ⟨a1, a2, a3⟩ := bound_fwd (a := 0) (b := 1099511627776) hs (by omega) (by omega) hn h
  obtain ⟨b1, b2, b3⟩ := byte_fwd (s := balS1 s) a2 (by omega) a3
  have e : nodeV s = node := b1
  have eb : balS s = balS2 s := by unfold balS; rw [if_neg (by omega)]
  rw [eb]
  exact ⟨a1, e, b2, b3⟩

theorem end_rest {s : RS} (h : s.endC = 0) : s.sound ∧ s.rest = [] := by
  have hs := endC_sound h
  refine ⟨hs, ?_⟩
  unfold RS.endC at h
  rw [if_pos hs] at h
  by_cases hp : s.pos < s.B.length
  · rw [if_pos hp] at h; cases h
  · have hs' : s.made = true ∧ s.why = 0 := hs
    unfold RS.rest restB
    rw [if_pos hs']
    exact List.drop_of_length_le (by omega)
theorem rest_end {s : RS} (h : s.sound) (hr : s.rest = []) : s.endC = 0 := by
  have hs' : s.made = true ∧ s.why = 0 := h
  unfold RS.rest restB at hr
  rw [if_pos hs'] at hr
  unfold RS.endC
  rw [if_pos h, if_neg (by have := List.drop_eq_nil_iff.1 hr; omega)]
theorem bound_sound {s : RS} {a b : Nat} (h : (rdBound s a b).sound) : s.sound := Classical.byContradiction fun x => x (by rw [rdBound_dead x] at h; exact h)
theorem step_sound {s : RS} {z : Nat} {y : Int} (h : (s.step z y).sound) : s.sound := Classical.byContradiction fun x => x (by rw [step_dead x] at h; exact h)
end Go.Proofs.YtldhafpeigdloaaGreatDoor
namespace Go.Proofs.YtldhafpeigdloaaGreatDoor
open Go.RowKit Crc

theorem hash_fwd {s : RS} {H R : List Nat} (hs : s.sound) (hl : H.length = 32) (h : s.rest = H ++ R) : hashB s.rest = H ∧ (rdHash s).sound ∧ (rdHash s).rest = R := by
  have hn : ¬ s.rest.length < 32 := by rw [h]; simp; omega
  have e : aheadW s.rest 32 = 0 := if_neg hn
  unfold rdHash
  rw [e]
  obtain ⟨a, b⟩ := step_fwd 32 hs
  refine ⟨?_, a, ?_⟩
  · unfold hashB
    rw [if_neg hn, h, List.take_left' hl]
  · rw [b, h, List.drop_left' hl]
theorem hash_inv {s : RS} (hs : s.sound) (h : (rdHash s).sound) : s.rest = hashB s.rest ++ (rdHash s).rest := by
  unfold rdHash at h ⊢
  obtain ⟨a, b⟩ := step_inv hs h
  have hn : ¬ s.rest.length < 32 := fun c => by rw [show aheadW s.rest 32 = 20 from if_pos c] at a; cases a
  rw [b]
  unfold hashB
  rw [if_neg hn, List.take_append_drop]
theorem hash_sound {s : RS} (h : (rdHash s).sound) : s.sound := step_sound h
theorem hSt_front : ∀ (k : Nat) (s : RS), hSt (k + 1) s = hSt k (rdHash s)
  | 0, _ => rfl
  | k + 1, s => by rw [hSt, hSt_front k, hSt]
theorem hVals_front (k : Nat) (s : RS) : hVals (k + 1) s = hashB s.rest :: hVals k (rdHash s) := by
  unfold hVals
  rw [List.range_succ_eq_map, List.map_cons, List.map_map]
  congr 1
  exact List.map_congr_left (fun i _ => by simp only [Function.comp, Nat.succ_eq_add_one, hSt_front])
theorem path_fwd : ∀ (P : List (List Nat)) (s : RS) (R : List Nat), s.sound → (∀ h ∈ P, h.length = 32) → s.rest = P.flatten ++ R → hVals P.length s = P ∧ (hSt P.length s).sound ∧ (hSt P.length s).rest = R
  | [], s, R, hs, _, h => ⟨rfl, hs, h⟩
  | x :: t, s, R, hs, hp, h => by
    obtain ⟨a, b, c⟩ := hash_fwd (H := x) (R := t.flatten ++ R) hs (hp x (by simp)) (by rw [h]; simp)
    obtain ⟨d, e, f⟩ := path_fwd t (rdHash s) R b (fun y hy => hp y (by simp [hy])) c
    rw [List.length_cons, hVals_front, hSt_front, a, d]
    exact ⟨rfl, e, f⟩
theorem path_inv : ∀ (k : Nat) (s : RS), s.sound → (hSt k s).sound → s.rest = (hVals k s).flatten ++ (hSt k s).rest ∧ ∀ h ∈ hVals k s, h.length = 32
  | 0, s, _, _ => ⟨rfl, fun h hh => (by cases hh)⟩
  | k + 1, s, hs, h => by
    rw [hSt_front] at h
    have h1 : (rdHash s).sound := Classical.byContradiction fun x => x (by rw [hSt_dead x] at h; exact h)
    obtain ⟨a, b⟩ := path_inv k (rdHash s) h1 h
    have c := hash_inv hs h1
    rw [hVals_front, hSt_front]
    refine ⟨?_, fun y hy => ?_⟩
    · rw [List.flatten_cons, List.append_assoc, ← a]; exact c
    · rcases List.mem_cons.1 hy with rfl | hy
      · exact hashB_len _
      · exact b y hy

/-- A vote's bytes; a vote that may be. -/
def Vv.enc (v : Vv) : List Nat := numB v.slot ++ (numB v.num ++ (big v.node 1 ++ encVs v.stamp v.V))
structure Vv.Ok (l : Nat) (v : Vv) : Prop where
  lo : l ≤ v.slot
  hi : v.slot ≤ 1099511627776
  num : v.num ≤ 1099511627776
  node : v.node ≤ 6
  bat : VsOk v.stamp v.V
theorem vote_fwd {s : RS} {l : Nat} {v : Vv} {R : List Nat} (hs : s.sound) (hv : v.Ok l) (h : s.rest = v.enc ++ R) : vRead s l = v ∧ (vEnd s l).sound ∧ (vEnd s l).rest = R := by
  obtain ⟨a1, a2, a3⟩ := bound_fwd (a := 0) (b := 1099511627776) (R := numB v.num ++ (big v.node 1 ++ (encVs v.stamp v.V ++ R))) hs (by have := hv.hi; omega) (Nat.zero_le _) hv.hi (by rw [h]; simp [Vv.enc])
  have e1 : vS1 s l = rdBound s 0 1099511627776 := by
    unfold vS1
    rw [if_neg (by rw [a1]; exact Nat.not_lt.2 hv.lo)]
  rw [← e1] at a2 a3
  obtain ⟨b1, b2, b3, b4⟩ := bal_fwd a2 hv.num hv.node a3
  obtain ⟨c1, c2, c3, c4⟩ := bat_fwd b3 hv.bat b4
  refine ⟨?_, c3, c4⟩
  unfold vRead
  rw [a1, b1, b2, c1, c2]
theorem ok_mk {l slot num node stamp : Nat} {V : List (Nat × Nat × List Nat)} (h1 : l ≤ slot) (h2 : slot ≤ 1099511627776) (h3 : num ≤ 1099511627776) (h4 : node ≤ 6) (h5 : VsOk stamp V) : Vv.Ok l ⟨slot, num, node, stamp, V⟩ := ⟨h1, h2, h3, h4, h5⟩
theorem vEnd_eq (s : RS) (l : Nat) : vEnd s l = bEnd (balS (vS1 s l)) := rfl
theorem vRead_enc (s : RS) (l : Nat) : (vRead s l).enc = numB (numAt s.rest).1 ++ (numB (numAt (vS1 s l).rest).1 ++ (big (nodeV (vS1 s l)) 1 ++ encVs (numAt (balS (vS1 s l)).rest).1 (bVals (balS (vS1 s l))))) := by simp only [Vv.enc, vRead]
theorem vS1_lo {s : RS} {l : Nat} (h : (vS1 s l).sound) : l ≤ (numAt s.rest).1 ∧ vS1 s l = rdBound s 0 1099511627776 := by
  unfold vS1 at h ⊢
  by_cases c : (numAt s.rest).1 < l
  · rw [if_pos c] at h
    exact absurd h (failP_not (by decide))
  · rw [if_neg c]
    exact ⟨Nat.not_lt.1 c, rfl⟩
theorem vote_inv {s : RS} {l : Nat} (hb : ∀ x ∈ s.rest, x < 256) (hs : s.sound) (h : (vEnd s l).sound) : s.rest = (vRead s l).enc ++ (vEnd s l).rest ∧ (vRead s l).Ok l := by
  rw [vEnd_eq] at h ⊢
  rw [vRead_enc]
  have h2 : (balS (vS1 s l)).sound := Classical.byContradiction fun x => x (by rw [bEnd_deadM x] at h; exact h)
  have h1 : (vS1 s l).sound := Classical.byContradiction fun x => x (by rw [bal_deadM x] at h2; exact h2)
  obtain ⟨hl, e1⟩ := vS1_lo h1
  obtain ⟨a1, -, a3⟩ := bound_inv (a := 0) (b := 1099511627776) hb hs (by rw [← e1]; exact h1)
  rw [← e1] at a1
  have hb1 := tail_lt hb a1
  obtain ⟨b1, b2, b3⟩ := bal_inv hb1 h1 h2
  have hb2 : ∀ x ∈ (balS (vS1 s l)).rest, x < 256 := fun x hx => hb1 x (by rw [b1]; simp [hx])
  obtain ⟨c1, c2⟩ := bat_inv hb2 h2 h
  have ok : (vRead s l).Ok l := by
    unfold vRead
    exact ok_mk hl a3 b2 b3 c2
  refine ⟨?_, ok⟩
  rw [List.append_assoc, List.append_assoc, List.append_assoc, ← c1, ← b1]
  exact a1
end Go.Proofs.YtldhafpeigdloaaGreatDoor
namespace Go.Proofs.YtldhafpeigdloaaGreatDoor
open Go.RowKit Crc

theorem vSt_succ (s : RS) (l k : Nat) : vSt s l (k + 1) = (vEnd (vSt s l k).1 (vSt s l k).2, vNx (numAt (vSt s l k).1.rest).1) := by rw [vSt]
theorem vSt_zero (s : RS) (l : Nat) : vSt s l 0 = (s, l) := by rw [vSt]
theorem vSt_front (s : RS) (l : Nat) : ∀ k, vSt s l (k + 1) = vSt (vEnd s l) (vNx (numAt s.rest).1) k
  | 0 => by rw [vSt_succ, vSt_zero, vSt_zero]
  | k + 1 => by rw [vSt_succ, vSt_front s l k, vSt_succ]
theorem vVals_front (s : RS) (l k : Nat) : vVals s l (k + 1) = vRead s l :: vVals (vEnd s l) (vNx (numAt s.rest).1) k := by
  unfold vVals
  rw [List.range_succ_eq_map, List.map_cons, List.map_map]
  simp only [vSt_zero]
  exact congrArg (List.cons _) (List.map_congr_left (fun i _ => by simp only [Function.comp, Nat.succ_eq_add_one, vSt_front]))
theorem vVals_zero (s : RS) (l : Nat) : vVals s l 0 = [] := by simp only [vVals, List.range_zero, List.map_nil]
/-- Votes that may be, from a slot on. -/
def VtsOk : Nat → List Vv → Prop
  | _, [] => True
  | l, v :: t => v.Ok l ∧ VtsOk (v.slot + 1) t
theorem vNx_small {a : Nat} (h : a ≤ 1099511627776) : vNx a = a + 1 := by unfold vNx; omega
theorem slot_read {s : RS} {l : Nat} {v : Vv} (h : vRead s l = v) : (numAt s.rest).1 = v.slot := by
  rw [← h]
  simp only [vRead]
theorem votes_fwd : ∀ (V : List Vv) (s : RS) (l : Nat) (R : List Nat), s.sound → VtsOk l V → s.rest = (V.map Vv.enc).flatten ++ R → vVals s l V.length = V ∧ (vSt s l V.length).1.sound ∧ (vSt s l V.length).1.rest = R
  | [], s, l, R, hs, _, h => by
    rw [List.length_nil, vSt_zero, vVals_zero]
    exact ⟨rfl, hs, h⟩
  | v :: t, s, l, R, hs, hv, h => by
    obtain ⟨a, b, c⟩ := vote_fwd (R := (t.map Vv.enc).flatten ++ R) hs hv.1 (by rw [h]; simp)
    have e := slot_read a
    have n : vNx (numAt s.rest).1 = v.slot + 1 := by rw [e]; exact vNx_small hv.1.hi
    obtain ⟨d, f, g⟩ := votes_fwd t (vEnd s l) (v.slot + 1) R b hv.2 c
    rw [List.length_cons, vVals_front, vSt_front, n, a, d]
    exact ⟨rfl, f, g⟩
theorem votes_inv (k : Nat) : ∀ (s : RS) (l : Nat), (∀ x ∈ s.rest, x < 256) → s.sound → (vSt s l k).1.sound → s.rest = ((vVals s l k).map Vv.enc).flatten ++ (vSt s l k).1.rest ∧ VtsOk l (vVals s l k) ∧ (vVals s l k).length = k := by
  induction k with
  | zero =>
    intro s l hb hs h
    rw [vSt_zero, vVals_zero]
    exact ⟨rfl, trivial, rfl⟩
  | succ k ih =>
    intro s l hb hs h
    rw [vSt_front] at h
    have h1 : (vEnd s l).sound := Classical.byContradiction fun x => x (by rw [vSt_dead x] at h; exact h)
    obtain ⟨a, ok⟩ := vote_inv hb hs h1
    have e := slot_read (s := s) (l := l) rfl
    have n : vNx (numAt s.rest).1 = (vRead s l).slot + 1 := by rw [e]; exact vNx_small ok.hi
    rw [n] at h
    obtain ⟨b, c, d⟩ := ih (vEnd s l) ((vRead s l).slot + 1) (tail_lt hb a) h1 h
    rw [vVals_front, vSt_front, n]
    refine ⟨?_, ⟨ok, c⟩, by rw [List.length_cons, d]⟩
    rw [List.map_cons, List.flatten_cons, List.append_assoc, ← b]
    exact a
end Go.Proofs.YtldhafpeigdloaaGreatDoor
namespace Go.Proofs.YtldhafpeigdloaaGreatDoor
open Go.RowKit Crc

/-- What a field may be, its bytes, and its place. -/
def Mf.ok (v : Mv) : Mf → Prop
  | .seq => v.seq < 18446744073709551616
  | .command => v.cmd.length ≤ 700
  | .stamp => v.stamp ≤ 1099511627776
  | .outcome => 0 ≤ v.code ∧ v.code ≤ 1023
  | .result => v.data.length ≤ 256
  | .ballot => v.num ≤ 1099511627776 ∧ v.node ≤ 6
  | .low => v.low ≤ 1099511627776
  | .votes => v.votes.length ≤ 8 ∧ VtsOk v.low v.votes
  | .slot => v.slot ≤ 1099511627776
  | .batch => VsOk v.bst v.V
  | .suspect => True
  | .index => v.idx ≤ 39
  | .total => vNx v.idx ≤ v.cnt ∧ v.cnt ≤ 40
  | .root => v.root.length = 32
  | .chunk => 1 ≤ v.data.length ∧ v.data.length ≤ 1024
  | .path => v.path.length ≤ 6 ∧ ∀ h ∈ v.path, h.length = 32
def Mf.enc (v : Mv) : Mf → List Nat
  | .seq => numB v.seq
  | .command => numB v.cmd.length ++ v.cmd
  | .stamp => numB v.stamp
  | .outcome => numB v.code.toNat
  | .result => numB v.data.length ++ v.data
  | .ballot => numB v.num ++ big v.node 1
  | .low => numB v.low
  | .votes => numB v.votes.length ++ (v.votes.map Vv.enc).flatten
  | .slot => numB v.slot
  | .batch => encVs v.bst v.V
  | .suspect => big (if v.sus then 1 else 0) 1
  | .index => numB v.idx
  | .total => numB v.cnt
  | .root => v.root
  | .chunk => numB v.data.length ++ v.data
  | .path => numB v.path.length ++ v.path.flatten
def Mf.set (v : Mv) : Mf → Mv → Mv
  | .seq, a => { a with seq := v.seq }
  | .command, a => { a with cmd := v.cmd }
  | .stamp, a => { a with stamp := v.stamp }
  | .outcome, a => { a with code := v.code }
  | .result, a => { a with data := v.data }
  | .ballot, a => { a with num := v.num, node := v.node }
  | .low, a => { a with low := v.low }
  | .votes, a => { a with votes := v.votes }
  | .slot, a => { a with slot := v.slot }
  | .batch, a => { a with bst := v.bst, V := v.V }
  | .suspect, a => { a with sus := v.sus }
  | .index, a => { a with idx := v.idx }
  | .total, a => { a with cnt := v.cnt }
  | .root, a => { a with root := v.root }
  | .chunk, a => { a with data := v.data }
  | .path, a => { a with path := v.path }
def Mf.dep (v a : Mv) : Mf → Prop
  | .votes => a.low = v.low
  | .total => a.idx = v.idx
  | _ => True
theorem flag_inv {s : RS} (hs : s.sound) (h : (s.step 1 (flagW s.rest)).sound) : s.rest = big (if flagV s.rest then 1 else 0) 1 ++ (s.step 1 (flagW s.rest)).rest := by
  obtain ⟨h1, h2⟩ := step_inv hs h
  rw [h2]
  generalize s.rest = B at *
  cases B with
  | nil => cases h1
  | cons c t =>
    have hc : ¬ 1 < c := fun e => by have : (26 : Int) = 0 := by rw [← h1]; show _ = (if 1 < c then (26 : Int) else 0); rw [if_pos e]
                                     cases this
    have : c = 0 ∨ c = 1 := by omega
    rcases this with rfl | rfl
    · rw [show flagV (0 :: t) = false from rfl]; rw [if_neg (by decide), big1 (by decide)]; rfl
    · rw [show flagV (1 :: t) = true from rfl]; rw [if_pos rfl, big1 (by decide)]; rfl
theorem flag_fwd {s : RS} {b : Bool} {R : List Nat} (hs : s.sound) (h : s.rest = big (if b then 1 else 0) 1 ++ R) : flagV s.rest = b ∧ (s.step 1 (flagW s.rest)).sound ∧ (s.step 1 (flagW s.rest)).rest = R := by
  obtain ⟨h1, h2⟩ := flag_big b R
  obtain ⟨h3, h4⟩ := step_fwd 1 hs
  rw [h, h2]
  refine ⟨h1, h3, ?_⟩
  rw [h4, h]
  cases b
  · rw [if_neg (by decide), big1 (by decide)]; rfl
  · rw [if_pos rfl, big1 (by decide)]; rfl
theorem wrapN {n : Nat} (h : n ≤ 1023) : wrap64 (n : Int) = (n : Int) := by
  unfold wrap64
  omega
theorem numLt (B : List Nat) : (numAt B).1 < 18446744073709551616 := (numAt_ok B).1
theorem nx_sound {f : Mf} {s : RS} {v : Mv} (h : (f.nxt s v).sound) : s.sound := Classical.byContradiction fun x => x (by rw [nxtM_dead f x] at h; exact h)
/-- A field that is read: its bytes, and it may be. -/
theorem mf_inv (f : Mf) {s : RS} {a : Mv} (hb : ∀ x ∈ s.rest, x < 256) (hs : s.sound) (h : (f.nxt s a).sound) : s.rest = f.enc (f.upd s a) ++ (f.nxt s a).rest ∧ f.ok (f.upd s a) := by
  cases f with
  | seq => exact ⟨num_inv hb hs h, numLt _⟩
  | command => obtain ⟨x, y⟩ := blob_inv hb hs h; exact ⟨by rw [Mf.enc, List.append_assoc]; exact y, Int.ofNat_le.1 x⟩
  | stamp => obtain ⟨x, _, z⟩ := bound_inv hb hs h; exact ⟨x, z⟩
  | outcome =>
    obtain ⟨x, _, z⟩ := bound_inv hb hs h
    have e := wrapN z
    exact ⟨by show s.rest = numB (wrap64 _).toNat ++ _; rw [e]; exact x, by show 0 ≤ wrap64 _ ∧ wrap64 _ ≤ 1023; rw [e]; omega⟩
  | result => obtain ⟨x, y⟩ := blob_inv hb hs h; exact ⟨by rw [Mf.enc, List.append_assoc]; exact y, Int.ofNat_le.1 x⟩
  | ballot => obtain ⟨x, y⟩ := bal_inv hb hs h; exact ⟨by rw [Mf.enc, List.append_assoc]; exact x, y⟩
  | low => obtain ⟨x, _, z⟩ := bound_inv hb hs h; exact ⟨x, z⟩
  | votes =>
    have h1 : (vC s).sound := Classical.byContradiction fun x => x (by have e : (Mf.votes.nxt s a) = vC s := vSt_dead x _ _; rw [e] at h; exact h)
    obtain ⟨x, y⟩ := count_inv hb hs h1
    have b1 : ∀ z ∈ (vC s).rest, z < 256 := tail_lt hb y
    obtain ⟨p, q, r⟩ := votes_inv (countAt s.rest 8).1 (vC s) a.low b1 h1 h
    refine ⟨?_, ?_, q⟩
    · show s.rest = (numB (vVals (vC s) a.low (countAt s.rest 8).1).length ++ ((vVals (vC s) a.low (countAt s.rest 8).1).map Vv.enc).flatten) ++ (vSt (vC s) a.low (countAt s.rest 8).1).1.rest
      rw [r, List.append_assoc, ← p]
      exact y
    · show (vVals (vC s) a.low (countAt s.rest 8).1).length ≤ 8
      rw [r]
      exact Int.ofNat_le.1 x
  | slot => obtain ⟨x, _, z⟩ := bound_inv hb hs h; exact ⟨x, z⟩
  | batch => exact bat_inv hb hs h
  | suspect => exact ⟨flag_inv hs h, trivial⟩
  | index => obtain ⟨x, _, z⟩ := bound_inv hb hs h; exact ⟨x, z⟩
  | total => obtain ⟨x, y, z⟩ := bound_inv hb hs h; exact ⟨x, y, z⟩
  | root =>
    refine ⟨hash_inv hs h, ?_⟩
    have := (path_inv 1 s hs h).2
    have e : hVals 1 s = [hashB s.rest] := by rw [hVals_front]; rfl
    rw [e] at this
    exact this _ (List.mem_singleton.2 rfl)
  | chunk =>
    have h0 : ¬ (blobAt s.rest 1024).1.length = 0 := fun e => failP_not (s := s.step (blobAt s.rest 1024).2.1 (blobAt s.rest 1024).2.2) (a := s.pos) (y := 29) (by decide) (by have h : (chunkS s).sound := h; unfold chunkS at h; rw [if_pos e] at h; exact h)
    have e0 : chunkS s = s.step (blobAt s.rest 1024).2.1 (blobAt s.rest 1024).2.2 := if_neg h0
    have h1 : (s.step (blobAt s.rest 1024).2.1 (blobAt s.rest 1024).2.2).sound := by rw [← e0]; exact h
    obtain ⟨x, y⟩ := blob_inv hb hs h1
    refine ⟨?_, ?_, Int.ofNat_le.1 x⟩
    · show s.rest = (numB (blobAt s.rest 1024).1.length ++ (blobAt s.rest 1024).1) ++ (chunkS s).rest
      rw [e0, List.append_assoc]; exact y
    · show 1 ≤ (blobAt s.rest 1024).1.length; omega
  | path =>
    have h1 : (pC s).sound := Classical.byContradiction fun x => x (by have e : (Mf.path.nxt s a) = pC s := hSt_dead x _; rw [e] at h; exact h)
    obtain ⟨x, y⟩ := count_inv hb hs h1
    obtain ⟨p, q⟩ := path_inv (countAt s.rest 6).1 (pC s) h1 h
    have hl := hVals_len (countAt s.rest 6).1 (pC s)
    refine ⟨?_, ?_, q⟩
    · show s.rest = (numB (hVals (countAt s.rest 6).1 (pC s)).length ++ (hVals (countAt s.rest 6).1 (pC s)).flatten) ++ (hSt (countAt s.rest 6).1 (pC s)).rest
      rw [hl, List.append_assoc, ← p]
      exact y
    · show (hVals (countAt s.rest 6).1 (pC s)).length ≤ 6
      rw [hl]; exact Int.ofNat_le.1 x
/-- A field that may be is read back. -/
theorem mf_fwd (f : Mf) {s : RS} {v a : Mv} {R : List Nat} (hs : s.sound) (ok : f.ok v) (hd : f.dep v a) (h : s.rest = f.enc v ++ R) : (f.nxt s a).sound ∧ (f.nxt s a).rest = R ∧ f.upd s a = f.set v a := by
  cases f with
  | seq => obtain ⟨x, y, z⟩ := num_fwd hs ok h; exact ⟨y, z, by simp only [Mf.upd, Mf.set, x]⟩
  | command =>
    have ok : v.cmd.length ≤ 700 := ok
    obtain ⟨x, y, z⟩ := blob_fwd (C := v.cmd) (R := R) (most := 700) hs (by omega) (by omega) (by rw [h, Mf.enc, List.append_assoc]); exact ⟨y, z, by simp only [Mf.upd, Mf.set, x]⟩
  | stamp =>
    have ok : v.stamp ≤ 1099511627776 := ok
    obtain ⟨x, y, z⟩ := bound_fwd (a := 0) (b := 1099511627776) hs (by omega) (by omega) ok h; exact ⟨y, z, by simp only [Mf.upd, Mf.set, x]⟩
  | outcome =>
    have ok : 0 ≤ v.code ∧ v.code ≤ 1023 := ok
    obtain ⟨x, y, z⟩ := bound_fwd (v := v.code.toNat) (a := 0) (b := 1023) hs (by omega) (by omega) (by omega) h
    refine ⟨y, z, ?_⟩
    simp only [Mf.upd, Mf.set, x]
    rw [wrapN (by omega), Int.toNat_of_nonneg ok.1]
  | result =>
    have ok : v.data.length ≤ 256 := ok
    obtain ⟨x, y, z⟩ := blob_fwd (C := v.data) (R := R) (most := 256) hs (by omega) (by omega) (by rw [h, Mf.enc, List.append_assoc]); exact ⟨y, z, by simp only [Mf.upd, Mf.set, x]⟩
  | ballot => obtain ⟨x, x2, y, z⟩ := bal_fwd hs ok.1 ok.2 (by rw [h, Mf.enc, List.append_assoc]); exact ⟨y, z, by simp only [Mf.upd, Mf.set, x, x2]⟩
  | low =>
    have ok : v.low ≤ 1099511627776 := ok
    obtain ⟨x, y, z⟩ := bound_fwd (a := 0) (b := 1099511627776) hs (by omega) (by omega) ok h; exact ⟨y, z, by simp only [Mf.upd, Mf.set, x]⟩
  | votes =>
    have hd : a.low = v.low := hd
    obtain ⟨o1, o2⟩ := ok
    obtain ⟨x, y, z⟩ := count_fwd (most := 8) (v := v.votes.length) hs (by omega) (by omega) (by rw [h, Mf.enc, List.append_assoc])
    obtain ⟨p, q, r⟩ := votes_fwd v.votes (vC s) v.low R y o2 z
    simp only [Mf.nxt, Mf.upd, Mf.set, hd, x]
    exact ⟨q, r, by rw [p]⟩
  | slot =>
    have ok : v.slot ≤ 1099511627776 := ok
    obtain ⟨x, y, z⟩ := bound_fwd (a := 0) (b := 1099511627776) hs (by omega) (by omega) ok h; exact ⟨y, z, by simp only [Mf.upd, Mf.set, x]⟩
  | batch => obtain ⟨x, x2, y, z⟩ := bat_fwd hs ok h; exact ⟨y, z, by simp only [Mf.upd, Mf.set, x, x2]⟩
  | suspect => obtain ⟨x, y, z⟩ := flag_fwd hs h; exact ⟨y, z, by simp only [Mf.upd, Mf.set, x]⟩
  | index =>
    have ok : v.idx ≤ 39 := ok
    obtain ⟨x, y, z⟩ := bound_fwd (a := 0) (b := 39) hs (by omega) (by omega) ok h; exact ⟨y, z, by simp only [Mf.upd, Mf.set, x]⟩
  | total =>
    have hd : a.idx = v.idx := hd
    have ok : vNx v.idx ≤ v.cnt ∧ v.cnt ≤ 40 := ok
    obtain ⟨x, y, z⟩ := bound_fwd (a := vNx a.idx) (b := 40) hs (by omega) (by rw [hd]; exact ok.1) ok.2 h; exact ⟨y, z, by simp only [Mf.upd, Mf.set, x]⟩
  | root => obtain ⟨x, y, z⟩ := hash_fwd hs ok h; exact ⟨y, z, by simp only [Mf.upd, Mf.set, x]⟩
  | chunk =>
    have ok : 1 ≤ v.data.length ∧ v.data.length ≤ 1024 := ok
    obtain ⟨x, y, z⟩ := blob_fwd (C := v.data) (R := R) (most := 1024) hs (by omega) (by omega) (by rw [h, Mf.enc, List.append_assoc])
    have e0 : chunkS s = s.step (blobAt s.rest 1024).2.1 (blobAt s.rest 1024).2.2 := if_neg (by rw [x]; omega)
    exact ⟨by show (chunkS s).sound; rw [e0]; exact y, by show (chunkS s).rest = R; rw [e0]; exact z, by simp only [Mf.upd, Mf.set, x]⟩
  | path =>
    obtain ⟨o1, o2⟩ := ok
    obtain ⟨x, y, z⟩ := count_fwd (most := 6) (v := v.path.length) hs (by omega) (by omega) (by rw [h, Mf.enc, List.append_assoc])
    obtain ⟨p, q, r⟩ := path_fwd v.path (pC s) R y o2 z
    simp only [Mf.nxt, Mf.upd, Mf.set, x]
    exact ⟨q, r, by rw [p]⟩
def encs (fs : List Mf) (v : Mv) : List Nat := (fs.map (fun f => f.enc v)).flatten
def sets (v : Mv) (fs : List Mf) (a : Mv) : Mv := fs.foldl (fun a f => f.set v a) a
def deps (v : Mv) : List Mf → Mv → Prop
  | [], _ => True
  | f :: t, a => f.dep v a ∧ deps v t (f.set v a)
theorem mrun_fwd (v : Mv) : ∀ (fs : List Mf) (s : RS) (a : Mv) (R : List Nat), s.sound → (∀ f ∈ fs, f.ok v) → deps v fs a → s.rest = encs fs v ++ R → (mrun fs s a).1.sound ∧ (mrun fs s a).1.rest = R ∧ (mrun fs s a).2 = sets v fs a
  | [], s, a, R, hs, _, _, h => ⟨hs, h, rfl⟩
  | f :: t, s, a, R, hs, ok, hd, h => by
    obtain ⟨x, y, z⟩ := mf_fwd f hs (ok f (by simp)) hd.1 (R := encs t v ++ R) (by rw [h]; simp [encs])
    obtain ⟨p, q, r⟩ := mrun_fwd v t (f.nxt s a) (f.upd s a) R x (fun g hg => ok g (by simp [hg])) (by rw [z]; exact hd.2) y
    rw [mrun]
    exact ⟨p, q, by rw [r, z]; rfl⟩
end Go.Proofs.YtldhafpeigdloaaGreatDoor
namespace Go.Proofs.YtldhafpeigdloaaGreatDoor
open Go.RowKit Crc

/-- The fields that a record may have. -/
inductive Fd where
  | ballot | slot | batch | snap
def Fd.name : Fd → String
  | .ballot => "quorum/wire.ballot"
  | .slot => "quorum/wire.slot"
  | .batch => "quorum/wire.batch"
  | .snap => "quorum/wire.snapshot"
/-- What is read of a record. -/
structure Rv where
  (num node slot stamp : Nat) (V : List (Nat × Nat × List Nat)) (D : List Nat)
def Fd.nxt : Fd → RS → RS
  | .ballot, s => balS s
  | .slot, s => rdBound s 0 1099511627776
  | .batch, s => bEnd s
  | .snap, s => s.step (blobAt s.rest 40000).2.1 (blobAt s.rest 40000).2.2
def Fd.upd : Fd → RS → Rv → Rv
  | .ballot, s, v => { v with num := (numAt s.rest).1, node := nodeV s }
  | .slot, s, v => { v with slot := (numAt s.rest).1 }
  | .batch, s, v => { v with stamp := (numAt s.rest).1, V := bVals s }
  | .snap, s, v => { v with D := (blobAt s.rest 40000).1 }

/-- The message behind a reader or writer, as it lies. -/
structure Mc where
  (num node slot stamp : Nat) (bv : Value) (rs : List Rq) (dv : Value) (D : List Nat)
def Mc.tail : List Value := [.bool false, .int .u64 0, .int .u64 0] ++ List.replicate 32 (.int .u8 0) ++ [.slice none 0 0]
def Mc.R (c : Mc) : List Value := .int .i64 0 :: .int .u64 (c.num : Int) :: .int .i64 (c.node : Int) :: .int .u64 (c.slot : Int) :: .int .u64 0 :: .slice none 0 0 :: .int .u64 (c.stamp : Int) :: c.bv :: .int .u64 0 :: .int .u64 0 :: .int .i64 0 :: .slice none 0 0 :: c.dv :: Mc.tail
theorem Mc.len (c : Mc) : c.R.length = 49 := by simp [Mc.R, Mc.tail]
def Mc.rv (c : Mc) : Rv := ⟨c.num, c.node, c.slot, c.stamp, c.rs.map Rq.val, c.D⟩
/-- A reader with its message. -/
structure Fr (lim base p : Nat) (s : RS) (c : Mc) (w : World) : Prop where
  rd : RdS lim w p s
  k : s.K = ⟨78, c.R⟩
  own : OwnRs base w c.bv c.rs
  free : FreeRs base w c.rs
  dat : Owns base w c.dv c.D
  hp : p < base
  hb : base ≤ w.heap.size
  ap : ∀ r ∈ c.rs, r.sl.ownBlock = none ∨ r.sl.ownBlock ≠ c.dv.ownBlock

theorem Fr.quiet {lim base p : Nat} {s : RS} {c : Mc} {w w' : World} (h : Fr lim base p s c w) (hg : w.grownBy w' none) : Fr lim base p s c w' := by
  obtain ⟨a, b⟩ := h.own.quiet h.free hg
  exact ⟨h.rd.quiet hg, h.k, a, b, h.dat.quiet hg, h.hp, Nat.le_trans h.hb hg.size, h.ap⟩
theorem Fr.past {lim base p : Nat} {s : RS} {c : Mc} {w w' : World} (h : Fr lim base p s c w) (hg : w.grownBy w' (some p)) : OwnRs base w' c.bv c.rs ∧ FreeRs base w' c.rs ∧ Owns base w' c.dv c.D := by
  obtain ⟨a, b⟩ := h.own.past h.free hg h.hp
  exact ⟨a, b, h.dat.kept hg (.inr (fun e => by have := (h.dat.1.lt _ e).1; have := h.hp; omega))⟩

/-- What a field's reading leaves. -/
def FdPost (f : Fd) (lim base p : Nat) (s : RS) (c : Mc) (w w' : World) : Prop := ∃ s' c', Fr lim base p s' c' w' ∧ s'.un = f.nxt s.un ∧ c'.rv = f.upd s.un c.rv ∧ w.grownBy w' (some p)
theorem nxt_ballot (s : RS) : Fd.ballot.nxt s = balS s := rfl
theorem nxt_slot (s : RS) : Fd.slot.nxt s = rdBound s 0 1099511627776 := rfl
theorem nxt_batch (s : RS) : Fd.batch.nxt s = bEnd s := rfl
theorem nxt_snap (s : RS) : Fd.snap.nxt s = s.step (blobAt s.rest 40000).2.1 (blobAt s.rest 40000).2.2 := rfl
theorem upd_ballot (s : RS) (v : Rv) : Fd.ballot.upd s v = ⟨(numAt s.rest).1, nodeV s, v.slot, v.stamp, v.V, v.D⟩ := rfl
theorem upd_slot (s : RS) (v : Rv) : Fd.slot.upd s v = ⟨v.num, v.node, (numAt s.rest).1, v.stamp, v.V, v.D⟩ := rfl
theorem upd_batch (s : RS) (v : Rv) : Fd.batch.upd s v = ⟨v.num, v.node, v.slot, (numAt s.rest).1, bVals s, v.D⟩ := rfl
theorem upd_snap (s : RS) (v : Rv) : Fd.snap.upd s v = ⟨v.num, v.node, v.slot, v.stamp, v.V, (blobAt s.rest 40000).1⟩ := rfl
theorem R_ballot (c : Mc) (n m : Nat) : (c.R.set 1 (.int .u64 (n : Int))).set 2 (.int .i64 (m : Int)) = (Mc.mk n m c.slot c.stamp c.bv c.rs c.dv c.D).R := rfl
theorem R_slot (c : Mc) (n : Nat) : c.R.set 3 (.int .u64 (n : Int)) = (Mc.mk c.num c.node n c.stamp c.bv c.rs c.dv c.D).R := rfl
theorem R_batch (c : Mc) (n : Nat) (v : Value) (rs : List Rq) : (c.R.set 6 (.int .u64 (n : Int))).set 7 v = (Mc.mk c.num c.node c.slot n v rs c.dv c.D).R := rfl
theorem R_snap (c : Mc) (v : Value) (D : List Nat) : c.R.set 12 v = (Mc.mk c.num c.node c.slot c.stamp c.bv c.rs v D).R := rfl

theorem post_ballot {lim base p : Nat} {s : RS} {c : Mc} {w w' : World} (h : Fr lim base p s c w) (g1 : RdS lim w' p (((balS s).setR 1 (.int .u64 ((numAt s.rest).1 : Nat))).setR 2 (.int .i64 ((nodeV s : Nat) : Int)))) (g2 : w.grownBy w' (some p)) : FdPost .ballot lim base p s c w w' := by
  obtain ⟨a1, a2, a3⟩ := h.past g2
  obtain ⟨u1, u2⟩ := un_balS s
  refine ⟨_, Mc.mk (numAt s.rest).1 (nodeV s) c.slot c.stamp c.bv c.rs c.dv c.D, ⟨g1, ?_, a1, a2, a3, h.hp, Nat.le_trans h.hb g2.size, h.ap⟩, ?_, ?_, g2⟩
  · rw [setR_K, setR_K, balS_K, h.k, R_ballot]
  · rw [un_setR, un_setR, u1, nxt_ballot]
  · rw [upd_ballot, u2, un_rest]; rfl
theorem post_slot {lim base p : Nat} {s : RS} {c : Mc} {w w' : World} (h : Fr lim base p s c w) (g1 : RdS lim w' p ((rdBound s 0 1099511627776).setR 3 (.int .u64 ((numAt s.rest).1 : Nat)))) (g2 : w.grownBy w' (some p)) : FdPost .slot lim base p s c w w' := by
  obtain ⟨a1, a2, a3⟩ := h.past g2
  refine ⟨_, Mc.mk c.num c.node (numAt s.rest).1 c.stamp c.bv c.rs c.dv c.D, ⟨g1, ?_, a1, a2, a3, h.hp, Nat.le_trans h.hb g2.size, h.ap⟩, ?_, ?_, g2⟩
  · rw [setR_K, rdBound_K, h.k, R_slot]
  · rw [un_setR, un_rdBound, nxt_slot]
  · rw [upd_slot, un_rest]; rfl
theorem post_batch {lim base p : Nat} {s : RS} {c : Mc} {w w' : World} {v : Value} {rs1 : List Rq} (h : Fr lim base p s c w) (g1 : OwnRs w.heap.size w' v rs1) (g2 : FreeRs w.heap.size w' rs1) (g3 : rs1.map Rq.val = bVals s) (g4 : RdS lim w' p (((bEnd s).setR 6 (.int .u64 ((numAt s.rest).1 : Nat))).setR 7 v)) (g5 : w.grownBy w' (some p)) : FdPost .batch lim base p s c w w' := by
  obtain ⟨a1, a2, a3⟩ := h.past g5
  obtain ⟨u1, u2⟩ := un_batch s
  have ap : ∀ r ∈ rs1, r.sl.ownBlock = none ∨ r.sl.ownBlock ≠ c.dv.ownBlock := fun r hr => by
    cases e : r.sl.ownBlock with
    | none => exact .inl rfl
    | some g => exact .inr (fun e2 => by have h1 := ((g2.own r hr).1.lt g e).1; have h2 := (h.dat.1.lt g e2.symm).2; omega)
  refine ⟨_, Mc.mk c.num c.node c.slot (numAt s.rest).1 v rs1 c.dv c.D, ⟨g4, ?_, g1.lower h.hb, g2.lower h.hb, a3, h.hp, Nat.le_trans h.hb g5.size, ap⟩, ?_, ?_, g5⟩
  · rw [setR_K, setR_K, bEnd_K, h.k, R_batch c _ v rs1]
  · rw [un_setR, un_setR, u1, nxt_batch]
  · rw [upd_batch, un_rest, u2, ← g3]; rfl
theorem post_snap {lim base p : Nat} {s : RS} {c : Mc} {w w' : World} {v : Value} (h : Fr lim base p s c w) (g1 : Owns w.heap.size w' v (blobAt s.rest 40000).1) (g2 : RdS lim w' p ((s.step (blobAt s.rest 40000).2.1 (blobAt s.rest 40000).2.2).setR 12 v)) (g3 : w.grownBy w' (some p)) : FdPost .snap lim base p s c w w' := by
  obtain ⟨a1, a2, a3⟩ := h.past g3
  have ap : ∀ r ∈ c.rs, r.sl.ownBlock = none ∨ r.sl.ownBlock ≠ v.ownBlock := fun r hr => by
    cases e : r.sl.ownBlock with
    | none => exact .inl rfl
    | some g => exact .inr (fun e2 => by have h1 := ((h.free.own r hr).1.lt g e).2; have h2 := (g1.1.lt g e2.symm).1; omega)
  refine ⟨_, Mc.mk c.num c.node c.slot c.stamp c.bv c.rs v (blobAt s.rest 40000).1, ⟨g2, ?_, a1, a2, g1.lower h.hb, h.hp, Nat.le_trans h.hb g3.size, ap⟩, ?_, ?_, g3⟩
  · rw [setR_K, step_K, h.k, R_snap c v (blobAt s.rest 40000).1]
  · rw [un_setR, un_step, nxt_snap, un_rest]
  · rw [upd_snap, un_rest]; rfl

end Go.Proofs.YtldhafpeigdloaaGreatDoor
namespace Go.Proofs.YtldhafpeigdloaaGreatDoor
open Go.RowKit Crc

/-- The reference's faults go back to where the field begins. -/
def RS.failR (s : RS) (a : Nat) : RS := { s with why := 29, place := a, pos := a }
def upS (s : RS) (most : Nat) : RS := if (rdNum s).sound ∧ most < (numAt s.rest).1 then (rdNum s).failR s.pos else rdNum s
def upV (s : RS) (most : Nat) : Nat := if (rdNum s).sound ∧ most < (numAt s.rest).1 then 0 else (numAt s.rest).1
def rrS1 (s : RS) : RS := if (rdNum s).sound ∧ (numAt s.rest).1 < 256 then (rdNum s).failR s.pos else rdNum s
def rrS2 (s : RS) : RS := rdNum (rrS1 s)
def rrS3 (s : RS) : RS := (rrS2 s).step (blobAt (rrS2 s).rest 700).2.1 (blobAt (rrS2 s).rest 700).2.2
def rrV (s : RS) : Nat × Nat × List Nat := ((numAt s.rest).1, (numAt (rrS1 s).rest).1, (blobAt (rrS2 s).rest 700).1)
def rrGo : Nat → RS → List (Nat × Nat × List Nat) × RS
  | 0, s => ([], s)
  | n + 1, s => if s.sound then (rrV s :: (rrGo n (rrS3 s)).1, (rrGo n (rrS3 s)).2) else ([], s)
def cN (s : RS) : Nat := (countAt (upS s 1099511627776).rest 8).1
def cS2 (s : RS) : RS := (upS s 1099511627776).step (countAt (upS s 1099511627776).rest 8).2.1 (countAt (upS s 1099511627776).rest 8).2.2
def cVals (s : RS) : List (Nat × Nat × List Nat) := (rrGo (cN s) (cS2 s)).1
def cEnd (s : RS) : RS := (rrGo (cN s) (cS2 s)).2

end Go.Proofs.YtldhafpeigdloaaGreatDoor
