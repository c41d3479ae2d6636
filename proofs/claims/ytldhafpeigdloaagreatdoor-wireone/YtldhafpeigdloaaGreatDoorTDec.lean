import Derived.Test.YtldhafpeigdloaaGreatDoorM21
import Derived.Test.YtldhafpeigdloaaGreatDoorM22
import Derived.Deep.DeepCutAuto
namespace Go.Proofs.YtldhafpeigdloaaGreatDoor
open Go.RowKit Crc

theorem slm_nil (w : World) : (binOp BinOp.eql 54 (.slice none 0 0) (.slice none 0 0)).run Tryz.prog w = .ok (.bool true) w := by kernel_rfl
theorem slm_some (a : Addr) (n c : Nat) (w : World) : (binOp BinOp.eql 54 (.slice (some a) n c) (.slice none 0 0)).run Tryz.prog w = .ok (.bool false) w := by kernel_rfl
/-- The reader over a datagram, new. -/
def frZ (ao : Option Addr) (n cap : Nat) : Array Value := (.bool true :: .int .i64 0 :: .int .i64 0 :: .slice ao n cap :: .int .i64 8 :: msgZ).toArray
theorem sg_new {lim : Nat} {w : World} {ao : Option Addr} {cap : Nat} {B : List Nat} (h : Shows lim w ao B.length cap B) (h8 : 8 ≤ B.length) (hl : lim ≤ w.heap.size) :
    Sg lim w.heap.size true true ⟨true, 0, 0, B, 8, ⟨78, msgZ⟩⟩ (w.alloc (.cells (frZ ao B.length cap) 78)) := by
  have gA := World.grownBy_alloc w (.cells (frZ ao B.length cap) 78) none
  exact ⟨⟨ao, cap, alloc_at _ _, h.kept gA (fun g e => by cases e), h8, hl⟩, rfl, msgZ_len, ⟨0, rfl⟩, ⟨0, rfl⟩, fun _ => rfl, fun _ => rfl, fun _ => rfl, msgZ_one⟩
/-- What stands beside the reader: the result's box. -/
structure Dg (w : World) (Z : Array Value) (W : World) : Prop where
  bel : Below w.heap.size w W
  box : W.heap[w.heap.size]? = some (.cells Z 36 (0, 0))
theorem Dg.quiet {w : World} {Z : Array Value} {W W' : World} (h : Dg w Z W) (hg : W.grownBy W' none) : Dg w Z W' := ⟨h.bel.grown hg h.bel.size (fun k e => by cases e), (hg.block _ (block_lt h.box) (by simp)).trans h.box⟩
theorem Dg.next {w : World} {Z : Array Value} {W W' : World} {p : Nat} (h : Dg w Z W) (hg : W.grownBy W' (some p)) (hp : w.heap.size < p) : Dg w Z W' := ⟨h.bel.grown hg h.bel.size (fun k e => by cases e; omega), (hg.block _ (block_lt h.box) (by simp; omega)).trans h.box⟩

def DgPost (w : World) (e : Ending) (w' : World) : Prop := ∃ (cs : List Value) (x : Value), e = .returned (.tuple #[.agg cs.toArray, x]) ∧ Hid (cs.length = 49 ∧ (∀ v ∈ cs, v.oneCell' = true) ∧ Below w.heap.size w w')

set_option maxRecDepth 10000 in
set_option maxHeartbeats 1600000 in
theorem decode_good (b off : Nat) (B : List Nat) (n cap : Nat) (w : World) (hn : n = B.length) (hcap : n ≤ cap) (hB : ∀ x ∈ B, x < 256) (hT : ∀ w1 : World, Below w.heap.size w w1 → Table w1) (hbw : b < w.heap.size)
  (hc : ∀ i, i < n → w.cell? ⟨b, off + i, none⟩ = some (.int .u8 ((B.getD i 0 : Nat) : Int))) (hok : (ff B).2 = 0) :
    Calls Tryz.prog 8 #[.slice (some ⟨b, off, none⟩) n cap] w (DgPost w) := by
  obtain ⟨h12, hmax, hff, -, -, -, -⟩ := ff_ok hok
  have HF : Hid (∀ W : World, Below w.heap.size w W → Calls Tryz.prog 23 #[.slice (some ⟨b, off, none⟩) n cap] W fun e w' => e = .returned (.tuple #[.int .i64 0, .int .i64 0]) ∧ ∃ q, w' = W.drewN q) := fun W hb => by
    have h := ff_any b off (some ⟨b, off, none⟩) B n cap W (fun _ => rfl) hn (by omega) hcap hB (hT W hb) (fun i hi => (hb.cell (p := ⟨b, off + i, none⟩) hbw).trans (hc i hi))
    rw [hff] at h
    exact h
  obtain ⟨E, hE⟩ : ∃ E, E = n - 4 := ⟨_, rfl⟩
  have he : (n : Int) - 4 = (E : Int) := by omega
  have e1 : 8 ≤ E := by omega
  have e3 : (E : Int) ≤ 65503 := by omega
  have e2 : E ≤ cap := by omega
  have i2 : (E : Int) ≤ (cap : Int) := by omega
  have i4 : (0 : Int) ≤ (E : Int) := by omega
  have j1 : (3 : Int) < (n : Int) := by omega
  have j2 : 3 < n := by omega
  have HSH : Hid (∀ W, Below w.heap.size w W → Shows w.heap.size W (some ⟨b, off, none⟩) (B.take E).length cap (B.take E)) := fun W hb => by
    have hl : (B.take E).length = E := by rw [List.length_take]; omega
    refine ⟨rfl, by rw [hl]; exact e2, by rw [hl]; omega, fun x hx => hB x (List.mem_of_mem_take hx), b, off, fun _ => rfl, fun _ => hbw, fun i hi => ?_⟩
    rw [getD_take (by omega)]
    exact (hb.cell (p := ⟨b, off + i, none⟩) hbw).trans (hc i (by omega))
  have HTL : Hid ((B.take E).length = E) := by show _ = _; rw [List.length_take]; omega
  have HC3 : Hid (∀ W, Below w.heap.size w W → W.cell? ⟨b, off + 3, none⟩ = some (.int .u8 ((B.getD 3 0 : Nat) : Int))) := fun W hb => (hb.cell (p := ⟨b, off + 3, none⟩) hbw).trans (hc 3 j2)
  have hb3 := getD_lt B hB 3
  clear hn hB hT hc hok hff hE h12 hmax
  generalize B.getD 3 0 = K at *
  have HBD : Hid (∀ W, (Instr.build 36 #[]).run Tryz.prog W = .ok (.agg msgZ.toArray) W) := fun W => build_zero W
  have HSZ : Hid ((Tryz.prog.info? 36).map (·.size) = some msgZ.length) := by show _ = _; rw [msgZ_len]; kernel_rfl
  have HSZ9 : Hid ((Tryz.prog.info? 36).map (·.size) = some 49) := by show _ = _; kernel_rfl
  unfold DgPost
  go_enter Tryz.func8, Tryz.ntmps8
  go_wp2_with fail
  generalize hW : World.alloc w _ = W
  obtain ⟨Z, hZ, hW⟩ : ∃ Z : Array Value, Z.size = 49 ∧ w.alloc (.cells Z 36) = W := ⟨_, by rfl, hW⟩
  have D0 : Hid (Dg w Z W) := by rw [← hW]; exact ⟨(Below.refl _ w).alloc (Nat.le_refl _) _, alloc_at _ _⟩
  have HZ := hide hZ
  clear hW hZ
  refine (HF.out W D0.out.bel).mono ?_
  rintro e w1 ⟨rfl, q, hq⟩
  have D1 : Hid (Dg w Z w1) := by rw [hq]; exact D0.out.quiet (drew_grown W q)
  clear hq D0 HF
  go_wp2_with fail
  refine (readerAt_any _ E cap 8 w1).mono ?_
  rintro e w2 ⟨rfl, hb2⟩
  have D2 := hide (D1.out.quiet (below_none hb2))
  clear hb2 D1
  have hc3 := HC3.out w2 D2.out.bel
  have hlb : b < w2.heap.size := Nat.lt_of_lt_of_le hbw D2.out.bel.size
  have hlt2 : w.heap.size < w2.heap.size := block_lt D2.out.box
  obtain ⟨W3, hW3⟩ : ∃ W3, w2.alloc (.cells (frZ (some ⟨b, off, none⟩) E cap) 78) = W3 := ⟨_, rfl⟩
  obtain ⟨s0, S3⟩ : ∃ s0, Hid (Sg w.heap.size w2.heap.size true true s0 W3 ∧ Dg w Z W3 ∧ w2.heap.size < W3.heap.size) := by
    have h := sg_new (HSH.out w2 D2.out.bel) (by rw [HTL.out]; exact e1) D2.out.bel.size
    rw [HTL.out, hW3] at h
    exact ⟨_, h, by rw [← hW3]; exact D2.out.quiet (World.grownBy_alloc _ _ _), h.rd.plt⟩
  have HW3 := hide hW3
  clear hW3 HSH HTL HC3 D2
  go_upto_region 6 with fail
  go_cut [8] from 10 (fun s8 W => (s8 = .slice none 0 0 ∨ ∃ bl, s8 = .slice (some ⟨bl, 0, none⟩) (mfOf K).length (mfOf K).length ∧ Hid (W.heap[bl]? = some (.cells ((mfOf K).map fun f => mv f.name (frvM w2.heap.size)).toArray 1 (0, 0)) ∧ bl ≠ w2.heap.size)) ∧ Hid (Sg w.heap.size w2.heap.size true true s0 W ∧ Dg w Z W))
  case first =>
    by_cases hk : K < 1 ∨ 10 < K
    · go_wp2_with fail
      refine callsAt HW3.out ?_
      refine (msgList_0 K _ hk W3).mono ?_
      rintro e w4 ⟨rfl, rfl⟩
      have R3 := hide (And.intro S3.out.1 S3.out.2.1)
      clear HW3 hk
      go_wp2
      go_meet
      case rel => exact ⟨.inl rfl, R3⟩
    · go_wp2_with fail
      refine callsAt HW3.out ?_
      refine (msgList_any K _ ⟨by omega, by omega⟩ W3).mono ?_
      rintro e w4 ⟨rfl, G4⟩
      have R3 : Hid (Sg w.heap.size w2.heap.size true true s0 w4 ∧ Dg w Z w4) := ⟨S3.out.1.quiet (below_none G4.out.2), S3.out.2.1.quiet (below_none G4.out.2)⟩
      have hne : W3.heap.size ≠ w2.heap.size := by have := S3.out.2.2; omega
      have B4 : Hid (w4.heap[W3.heap.size]? = some (.cells ((mfOf K).map fun f => mv f.name (frvM w2.heap.size)).toArray 1 (0, 0)) ∧ W3.heap.size ≠ w2.heap.size) := ⟨G4.out.1, hne⟩
      clear HW3 hk G4 hne
      go_wp2
      go_meet
      case rel => exact ⟨.inr ⟨_, rfl, B4⟩, R3⟩
  case rest =>
  obtain ⟨h8, C6⟩ := hcut
  clear HW3 S3 hc3
  have hsn := slm_nil
  have hss := slm_some
  have hpw := hlt2
  generalize w2.heap.size = p at *
  rcases h8 with rfl | ⟨bl, rfl, HBL⟩
  · have HONE : Hid (msgZ.length = 49 ∧ ∀ v ∈ msgZ, v.oneCell' = true) := ⟨msgZ_len, msgZ_one⟩
    generalize msgZ = cs at *
    go_wp2_with (refine wpList_pure rfl (exec_build (t := 36) (parts := #[]) rfl (by simpa using HBD.out _)) ?_)
    refine (refusal_any _ _ _).mono ?_
    rintro e w4 ⟨v, rfl, rfl, hf, hb4⟩
    have D4 := hide (C6.out.2.quiet (below_none hb4))
    have TH : Hid (w4.there w.heap.size 0 cs.length) := block_there2 D4.out.box (by rw [HZ.out, HONE.out.1]; exact Nat.le_refl _)
    clear hf hb4 C6
    go_wp2_with (refine wpList_store_mid rfl 36 _ _ rfl w.heap.size 0 cs.toArray rfl rfl (by simpa using TH.out) (by simpa using HSZ.out) (all_oneCell_toArray HONE.out.2) ?_)
    have hld := run_loadVar_mid (P := Tryz.prog) (w4.setCells w.heap.size 0 cs) w.heap.size 0 36 cs _ (World.rangeAt_setCells_same _ _ _ _ TH.out) Tryz.underlying36 rfl HSZ.out
    refine bodyPost_ret (v := .tuple #[.agg cs.toArray, .iface 84 (.pointer (some ⟨wc.heap.size, 0, none⟩))]) ?_ rfl ⟨cs, _, rfl, HONE.out.1, HONE.out.2, D4.out.bel.trans (grown_setC _ _ _ _)⟩
    simp [results, Tryz.results8, asAddr, hld]
  · have HRD := hide (read_msg (mfOf K) (mfOf_nodup K).1 (mfOf_nodup K).2 C6.out.1 HBL.out.1 HBL.out.2)
    have D3 := hide C6.out.2
    clear HBL C6
    go_wp2_with fail
    refine HRD.out.mono ?_
    rintro e w4 ⟨x, rfl, G4⟩
    obtain ⟨hx, ⟨a', b', s', sg⟩, g4⟩ := G4.out
    have D4 := hide (D3.out.next g4 hpw)
    have SG := hide sg
    clear HRD D3 G4 g4 sg
    rcases hx with rfl | ⟨g, rfl⟩
    · obtain ⟨c0, f0⟩ := SG.out.rd.cellR 0
      obtain ⟨u, hu⟩ := some_at (j := 0) (by have := SG.out.len; omega : 0 < s'.K.R.length)
      rw [hu] at c0
      obtain ⟨cs, hcs⟩ : ∃ cs, (s'.setR 0 (.int .i64 (K : Int))).K.R = cs := ⟨_, rfl⟩
      have HR : Hid (cs.length = 49 ∧ (∀ v ∈ cs, v.oneCell' = true) ∧ (w4.setCell ⟨p, 5, none⟩ (.int .i64 (K : Int))).rangeAt p 5 cs ∧ Dg w Z (w4.setCell ⟨p, 5, none⟩ (.int .i64 (K : Int)))) := by
        have r := SG.out.rd.setR 0 (.int .i64 (K : Int))
        rw [← hcs]
        refine ⟨by rw [setR_len]; exact SG.out.len, setR_one SG.out.one 0 rfl, fun j v hv => ?_, D4.out.next (grown_set _ _ _ _) hpw⟩
        rw [Nat.add_comm 5 j]
        exact (r.cellR j).1.trans hv
      have HSC : Hid ((Tryz.prog.info? 36).map (·.size) = some cs.length) := by show _ = _; rw [HR.out.1]; exact HSZ9.out
      have TH : Hid ((w4.setCell ⟨p, 5, none⟩ (.int .i64 (K : Int))).there w.heap.size 0 cs.length) := block_there2 HR.out.2.2.2.box (by rw [HZ.out, HR.out.1]; exact Nat.le_refl _)
      clear hu hcs SG D4
      go_wp2_with (first
        | (refine wpList_load_mid rfl 36 _ rfl p 5 rfl cs _ HR.out.2.2.1 Tryz.underlying36 rfl HSC.out ?_)
        | (refine wpList_store_mid rfl 36 _ _ rfl w.heap.size 0 cs.toArray rfl rfl (by simpa using TH.out) (by simpa using HSC.out) (all_oneCell_toArray HR.out.2.1) ?_))
      have hld := run_loadVar_mid (P := Tryz.prog) ((w4.setCell ⟨p, 5, none⟩ (.int .i64 (K : Int))).setCells w.heap.size 0 cs) w.heap.size 0 36 cs _ (World.rangeAt_setCells_same _ _ _ _ TH.out) Tryz.underlying36 rfl HSC.out
      refine bodyPost_ret (v := .tuple #[.agg cs.toArray, .nilIface]) ?_ rfl ⟨cs, _, rfl, HR.out.1, HR.out.2.1, HR.out.2.2.2.bel.trans (grown_setC _ _ _ _)⟩
      simp [results, Tryz.results8, asAddr, hld]
    · have HONE : Hid (msgZ.length = 49 ∧ ∀ v ∈ msgZ, v.oneCell' = true) := ⟨msgZ_len, msgZ_one⟩
      generalize msgZ = cs at *
      have TH : Hid (w4.there w.heap.size 0 cs.length) := block_there2 D4.out.box (by rw [HZ.out, HONE.out.1]; exact Nat.le_refl _)
      clear SG
      go_wp2_with (first
        | (refine wpList_pure rfl (exec_build (t := 36) (parts := #[]) rfl (by simpa using HBD.out _)) ?_)
        | (refine wpList_store_mid rfl 36 _ _ rfl w.heap.size 0 cs.toArray rfl rfl (by simpa using TH.out) (by simpa using HSZ.out) (all_oneCell_toArray HONE.out.2) ?_))
      have hld := run_loadVar_mid (P := Tryz.prog) (w4.setCells w.heap.size 0 cs) w.heap.size 0 36 cs _ (World.rangeAt_setCells_same _ _ _ _ TH.out) Tryz.underlying36 rfl HSZ.out
      refine bodyPost_ret (v := .tuple #[.agg cs.toArray, .iface 84 (.pointer (some ⟨g, 0, none⟩))]) ?_ rfl ⟨cs, _, rfl, HONE.out.1, HONE.out.2, D4.out.bel.trans (grown_setC _ _ _ _)⟩
      simp [results, Tryz.results8, asAddr, hld]
end Go.Proofs.YtldhafpeigdloaaGreatDoor
