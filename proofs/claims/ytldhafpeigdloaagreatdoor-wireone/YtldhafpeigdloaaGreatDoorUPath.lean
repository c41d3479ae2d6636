import Derived.Test.YtldhafpeigdloaaGreatDoorTPath
import Derived.Test.YtldhafpeigdloaaGreatDoorM15
namespace Go.Proofs.YtldhafpeigdloaaGreatDoor
open Go.RowKit Crc

theorem un_rdHash (s : RS) : (rdHash s).un = rdHash s.un := by unfold rdHash; rw [un_step]; rfl
/-- The state behind so many hashes; their cells. -/
def hSt : Nat → RS → RS
  | 0, s => s
  | k + 1, s => rdHash (hSt k s)
def hVals (k : Nat) (s : RS) : List (List Nat) := (List.range k).map fun i => hashB (hSt i s).rest
def hCells (k : Nat) (s : RS) : List Value := ((hVals k s).map vals).flatten
theorem hVals_succ (k : Nat) (s : RS) : hVals (k + 1) s = hVals k s ++ [hashB (hSt k s).rest] := by unfold hVals; rw [List.range_succ]; simp
theorem hCells_succ (k : Nat) (s : RS) : hCells (k + 1) s = hCells k s ++ vals (hashB (hSt k s).rest) := by unfold hCells; rw [hVals_succ]; simp
theorem un_hSt : ∀ (k : Nat) (s : RS), (hSt k s).un = hSt k s.un
  | 0, _ => rfl
  | k + 1, s => by rw [hSt, un_rdHash, un_hSt k s, hSt]
def pC (s : RS) : RS := s.step (countAt s.rest 6).2.1 (countAt s.rest 6).2.2
/-- Between two hashes: what has been read. -/
structure Pf (w : World) (lim p : Nat) (s0 : RS) (k : Nat) (v : Value) (xs : List Value) (s' : RS) (wr : World) : Prop where
  pb : Pb w lim p s0 k v xs s' wr
  st : s'.un = (hSt k (pC s0)).un
  val : xs = hCells k (pC s0)
theorem Pf.next {w : World} {lim p : Nat} {s0 : RS} {k : Nat} {v : Value} {xs : List Value} {s' : RS} {wr : World} (h : Pf w lim p s0 k v xs s' wr) (hp : p < w.heap.size) {w1 : World} (hr : RdS lim w1 p (rdHash s')) (hg : wr.grownBy w1 (some p)) {o2 : Obj} {w2 : World} {v' : Value} {cs : List Value} (hcs : vals (hashB s'.rest) = cs) (ho : w2.ownsRow w.heap.size 33 32 v' (k + 1) (xs ++ cs)) (hg2 : (w1.alloc o2).grownBy w2 v.ownBlock) :
    Pf w lim p s0 (k + 1) v' (xs ++ cs) ((rdHash s').setR 48 v') (w2.setCell ⟨p, 53, none⟩ v') ∧ w2.cell? ⟨p, 53, none⟩ = some v ∧ w2.frozen? ⟨p, 53, none⟩ = false := by
  obtain ⟨a, b, c⟩ := h.pb.next hp hr hg ho hg2
  refine ⟨⟨a, ?_, ?_⟩, b, c⟩
  · rw [un_setR, un_rdHash, h.st, hSt, un_rdHash]
  · rw [hCells_succ, ← hcs, h.val, ← un_rest s', h.st, un_rest]

set_option maxRecDepth 10000 in
set_option maxHeartbeats 1600000 in
theorem fPath_is (lim p : Nat) (s : RS) (w : World) (hR : RdS lim w p s) (hK : s.K.R.length = 49) (hv : s.K.R[48]? = some (.slice none 0 0)) (hpl : s.sound → s.place = 0) (h1c : ∀ u ∈ s.K.R, u.oneCell' = true) :
    Calls Tryz.prog 117 #[.pointer (some ⟨p, 0, none⟩)] w fun e w' => e = .returned (.tuple #[]) ∧ Hid (∃ v xs s', Pf w lim p s (countAt s.rest 6).1 v xs s' w') := by
  obtain ⟨i0, hi0, hz0, hz1, hz2⟩ := info_parts infoHash
  have hp := hR.plt
  have H2 : Hid (Calls Tryz.prog 131 #[.pointer (some ⟨p, 0, none⟩), .int .i64 6] w fun e w2 => e = .returned (.int .i64 (((countAt s.rest 6).1 : Nat) : Int)) ∧ Hid (∃ s', Pf w lim p s 0 (.slice none 0 0) [] s' w2)) := (rCount_any lim p s 6 w hR (by omega) (by omega)).mono (fun _ w2 h => ⟨h.1, s.step (countAt s.rest 6).2.1 (countAt s.rest 6).2.2, ⟨h.2.1, by rw [step_K], by rw [step_K]; exact hK, fun j _ => by rw [step_K], by rw [step_K]; exact hv, World.ownsRow_nil _ _ _ _, h.2.2, RS.step_place hpl _ _, by rw [step_K]; exact h1c⟩, rfl, rfl⟩)
  have hn8 : (countAt s.rest 6).1 ≤ 6 := by
    have h := countAt_ok s.rest 6
    by_cases hz : (countAt s.rest 6).2.2 = 0
    · have := h.2.2.1 hz (by omega); omega
    · have := (h.2.2.2.2 hz).1; omega
  clear hR hK hv hpl h1c
  generalize (countAt s.rest 6).1 = n at *
  have HZA := hide hz0
  clear hz0
  go_enter Tryz.func117, Tryz.ntmps117
  go_wp2_with fail
  refine H2.out.mono ?_
  rintro e w2 ⟨rfl, G2⟩
  clear H2
  go_wp2
  go_loopw [6] (fun c wr => ∃ (k : Nat), k ≤ n ∧ c = .int .i64 k ∧ Hid (∃ v xs s', Pf w lim p s k v xs s' wr)) (fun c _ => n - (intOf c).toNat)
  case atStart =>
    obtain ⟨s', h⟩ := G2.out
    exact ⟨0, by omega, rfl, _, _, s', h⟩
  case round =>
    obtain ⟨k, hk, rfl, HS⟩ := hrel
    obtain ⟨v, xs, s', vb⟩ := HS.out
    have VB := hide vb
    have x1 := (vb.pb.rd.cellR 48).1
    rw [vb.pb.at5] at x1
    clear G2 HS vb
    by_cases hlt : k < n
    · obtain ⟨cs, hcs⟩ : ∃ cs, vals (hashB s'.rest) = cs := ⟨_, rfl⟩
      have HL : Hid (cs.length = 32 ∧ ∀ u ∈ cs, u.oneCell' = true) := by rw [← hcs]; exact ⟨by rw [vals_len, hashB_len], vals_one' _⟩
      have HRH : Hid (∀ q, Calls Tryz.prog 132 #[.pointer (some ⟨p, 0, none⟩)] (wr.drewN q) fun e w1 => e = .returned (.agg cs.toArray) ∧ w1.cell? ⟨p, 53, none⟩ = some v ∧ p < w1.heap.size ∧ Hid (RdS lim w1 p (rdHash s') ∧ wr.grownBy w1 (some p))) := fun q => by
        have h := readHash_any lim p s' (wr.drewN q) (VB.out.pb.rd.quiet (drew_grown wr q))
        rw [hcs] at h
        refine h.mono ?_
        rintro e w1 ⟨rfl, G⟩
        have c5 := (G.out.1.cellR 48).1
        rw [rdHash_K, VB.out.pb.at5] at c5
        exact ⟨rfl, c5, G.out.1.plt, G.out.1, grown_trans (row := some p) (grown_weak (drew_grown wr q) p) G.out.2⟩
      have HCS := hide hcs
      clear hcs
      obtain ⟨a0, a1, a2, a3, a4, a5, a6, a7, a8, a9, a10, a11, a12, a13, a14, a15, a16, a17, a18, a19, a20, a21, a22, a23, a24, a25, a26, a27, a28, a29, a30, a31, hcs⟩ := list32 HL.out.1
      subst hcs
      have HOW : Hid (∀ w1, wr.grownBy w1 (some p) → ∀ o, (w1.alloc o).ownsRow w.heap.size 33 32 v k xs) := fun w1 hg o => row_quiet (VB.out.pb.row.kept hg (.inr (fun e => absurd (VB.out.pb.row.lt p e).1 (Nat.not_le.2 hp)))) (World.grownBy_alloc _ _ none)
      have HSZ := hide VB.out.pb.gr.size
      have HNX : Hid (∀ (v' : Value) (w1 w2 : World) (o2 : Obj), RdS lim w1 p (rdHash s') → wr.grownBy w1 (some p) → w2.ownsRow w.heap.size 33 32 v' (k + 1) (xs ++ [a0, a1, a2, a3, a4, a5, a6, a7, a8, a9, a10, a11, a12, a13, a14, a15, a16, a17, a18, a19, a20, a21, a22, a23, a24, a25, a26, a27, a28, a29, a30, a31]) → (w1.alloc o2).grownBy w2 v.ownBlock → Pf w lim p s (k + 1) v' (xs ++ [a0, a1, a2, a3, a4, a5, a6, a7, a8, a9, a10, a11, a12, a13, a14, a15, a16, a17, a18, a19, a20, a21, a22, a23, a24, a25, a26, a27, a28, a29, a30, a31]) ((rdHash s').setR 48 v') (w2.setCell ⟨p, 53, none⟩ v') ∧ w2.cell? ⟨p, 53, none⟩ = some v ∧ w2.frozen? ⟨p, 53, none⟩ = false) := fun v' w1 w2 o2 hr hg ho hg2 => VB.out.next hp hr hg HCS.out ho hg2
      go_wp2_with fail
      go_region_law (first
        | (refine step_append_own rfl (.tmp 13) (.tmp 18) 34 rfl w.heap.size 33 i0 _ 32 32 Tryz.underlying34 hi0 HZA.out hz1 hz2 rfl (by decide) v k xs (by simp [Act.eval]) (HOW.out _ G1.out.2 _) ⟨w1.heap.size, 0, none⟩ 1 1 [a0, a1, a2, a3, a4, a5, a6, a7, a8, a9, a10, a11, a12, a13, a14, a15, a16, a17, a18, a19, a20, a21, a22, a23, a24, a25, a26, a27, a28, a29, a30, a31] (by simp [Act.eval]) rfl (cells_new _ _ _) HL.out.2 (by unfold maxLen; omega) (by omega) (by have := HSZ.out; have := G1.out.2.size; simp; omega) ?_; intro v' w2 ho hg; obtain ⟨g', cap', rfl⟩ := ownsRow_succ ho; have hnx := HNX.out _ _ _ _ G1.out.1 G1.out.2 ho hg; have NX := hide hnx.1; obtain ⟨-, z1, z2⟩ := hnx; clear ho hg)
        | (go_simp; go_wp2_with (go_at_call 132; refine (HRH.out 1).mono ?_; rintro e w1 ⟨rfl, y1, y2, G1⟩)))
      all_goals clear z1 z2 y1
      all_goals go_wp2
      all_goals exact ⟨⟨k + 1, by omega, by go_num, _, _, _, NX.out⟩, by simp [intOf]; omega⟩
    · obtain rfl : k = n := by omega
      go_wp2
      go_end0
      exact ⟨rfl, v, xs, s', VB.out⟩
end Go.Proofs.YtldhafpeigdloaaGreatDoor
