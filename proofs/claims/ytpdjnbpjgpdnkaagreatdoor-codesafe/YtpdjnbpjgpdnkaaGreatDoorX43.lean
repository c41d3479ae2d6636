import Derived.Test.YtpdjnbpjgpdnkaaGreatDoorX42
import Derived.Test.YtpdjnbpjgpdnkaaGreatDoorX15
namespace Go.Proofs.YtpdjnbpjgpdnkaaGreatDoor
open Go.RowKit

theorem vals2_at {k x : Nat → Int} {n j : Nat} {u : Value} (h : (vals2 k x n)[j]? = some u) : j / 2 < n ∧ u = if j % 2 = 0 then .int .i64 (k (j / 2)) else .int .u64 (x (j / 2)) := by
 have hj := (List.getElem?_eq_some_iff.1 h).1
 rw [vals2_len] at hj
 refine ⟨by omega, ?_⟩
 rcases Nat.mod_two_eq_zero_or_one j with q | q
 ·obtain ⟨i, rfl⟩ : ∃ i, j = i * 2 := ⟨j / 2, by omega⟩
  rw [vals2_k (by omega)] at h
  rw [if_pos q, show i * 2 / 2 = i by omega]
  exact (Option.some.inj h).symm
 ·obtain ⟨i, rfl⟩ : ∃ i, j = i * 2 + 1 := ⟨j / 2, by omega⟩
  rw [vals2_v (by omega)] at h
  rw [if_neg (by omega), show (i * 2 + 1) / 2 = i by omega]
  exact (Option.some.inj h).symm
theorem vals2_one (k x : Nat → Int) (n : Nat) : ∀ u ∈ vals2 k x n, u.oneCell' = true := fun u hu => by
 unfold vals2 at hu
 obtain ⟨i, _, rfl⟩ := List.mem_map.1 hu
 by_cases q : i % 2 = 0
 ·rw [if_pos q]; rfl
 ·rw [if_neg q]; rfl
theorem noneV (b : Option Addr) (m : Nat) (w : World) : (Builtin.append_ #[46, 46] 46 #[.slice none 0 0, .slice b 0 m]).run Tryz.prog w = .ok (.slice none 0 0) w := by
 obtain ⟨i0, hi, hz0, hz1, hz2⟩ := info_parts Tryz.infoCV
 cases b <;> simp [Builtin.append_, run_underlying Tryz.underlying46, sizeOf, typeInfo, hi, go_sem]
set_option maxRecDepth 10000 in
set_option maxHeartbeats 1600000 in
/-- The program's copy of values. -/
theorem copiedV {W : World} {ao : Option Addr} {n cap b off : Nat} {fk fx : Nat → Int} (h : 0 < n → ao = some ⟨b, off, none⟩ ∧ b < W.heap.size) (ho : ∀ j, j < n → W.cell? ⟨b, off + j * 2, none⟩ = some (.int .i64 (fk j))) (ha : ∀ j, j < n → W.cell? ⟨b, off + j * 2 + 1, none⟩ = some (.int .u64 (fx j))) (hn : n ≤ 1048576) :
  Calls Tryz.prog 26 #[.slice ao n cap] W fun e w' => ∃ v, e = .returned v ∧ Hid (w'.ownsRow W.heap.size 74 2 v n (vals2 fk fx n) ∧ Below W.heap.size W w') := by
 by_cases e0 : n = 0
 ·subst e0
  have HN := noneV ao cap
  have HNH := hide HN
  clear HN
  go_enter Tryz.func26, Tryz.ntmps26
  go_wp2_with (at_builtin; refine wpList_append_nothing rfl _ _ 46 rfl _ _ rfl rfl (HNH.out _) ?_)
  go_ret
  exact ⟨_, rfl, hide ⟨World.ownsRow_nil _ _ _ _, Below.refl _ _⟩⟩
 ·obtain ⟨i0, hi, hz0, hz1, hz2⟩ := info_parts Tryz.infoCV
  obtain ⟨hq, hb⟩ := h (by omega)
  subst hq
  have HV : Hid (∀ j u, (vals2 fk fx n)[j]? = some u → W.cell? ⟨b, off + j, none⟩ = some u) := fun j u hu => by
   obtain ⟨q1, q2⟩ := vals2_at hu
   rw [q2]
   rcases Nat.mod_two_eq_zero_or_one j with q | q
   ·rw [if_pos q, show off + j = off + j / 2 * 2 by omega]
    exact ho _ q1
   ·rw [if_neg (by omega), show off + j = off + j / 2 * 2 + 1 by omega]
    exact ha _ q1
  clear h ho ha
  go_enter Tryz.func26, Tryz.ntmps26
  go_wp2_with (at_builtin; refine wpList_append_own _ rfl _ (.tmp 3) 46 rfl W.heap.size 74 i0 (.agg #[.int .i64 0, .int .u64 0]) 2 16 Tryz.underlying46 hi hz0 hz1 hz2 rfl (by decide) (.slice none 0 0) 0 [] rfl (World.ownsRow_nil _ _ _ _) ⟨b, off, none⟩ n cap (vals2 fk fx n) rfl (by rw [vals2_len]) (fun j u hu => by rw [addP]; exact HV.out j u hu) (vals2_one _ _ _) (by unfold maxLen; omega) (by omega) (Nat.le_refl _) ?_; intro v' w5 ho hg _)
  have HD : Hid (w5.ownsRow W.heap.size 74 2 v' n (vals2 fk fx n) ∧ Below W.heap.size W w5) := by
   refine ⟨by simpa using ho, (Below.refl _ W).grown hg (Nat.le_refl _) (fun g e => ?_)⟩
   simp [Value.ownBlock] at e
  clear ho hg
  go_wp2
  go_ret
  exact ⟨_, rfl, HD⟩
/-- Values as they can be read. -/
structure Cv (W : World) (v : Value) (n : Nat) (k x : Nat → Int) : Prop where
 ex : ∃ ao cap b, v = .slice ao n cap ∧ n ≤ cap ∧ (0 < n → ao = some ⟨b, 0, none⟩ ∧ b < W.heap.size) ∧ (∀ j, j < n → W.cell? ⟨b, j * 2, none⟩ = some (.int .i64 (k j))) ∧ ∀ j, j < n → W.cell? ⟨b, j * 2 + 1, none⟩ = some (.int .u64 (x j))
theorem Cv.of {W : World} {B n : Nat} {v : Value} {k x : Nat → Int} (h : W.ownsRow B 74 2 v n (vals2 k x n)) : Cv W v n k x := by
 rcases h.2 with ⟨e, h0⟩ | ⟨g, cap, cur, e, hb, hc, hnc, _, hsz, htk⟩
 ·exact ⟨none, 0, 0, by rw [e, h0], by omega, fun q => by omega, fun j hj => by omega, fun j hj => by omega⟩
 ·refine ⟨_, cap, g, e, hnc, fun _ => ⟨rfl, block_lt hc⟩, fun j hj => ?_, fun j hj => ?_⟩
  ·have h2 := vals2_k (k := k) (v := x) hj
   rw [← htk, List.getElem?_take, if_pos (by omega)] at h2
   rw [block_cell hc]
   simpa using h2
  ·have h2 := vals2_v (k := k) (v := x) hj
   rw [← htk, List.getElem?_take, if_pos (by omega)] at h2
   rw [block_cell hc]
   simpa using h2
theorem Cv.next {W W' : World} {v : Value} {n : Nat} {k x : Nat → Int} (h : Cv W v n k x) (hb : Below W.heap.size W W') : Cv W' v n k x := by
 obtain ⟨ao, cap, b, e, hc, h1, h2, h3⟩ := h.ex
 exact ⟨ao, cap, b, e, hc, fun q => ⟨(h1 q).1, Nat.lt_of_lt_of_le (h1 q).2 hb.size⟩, fun j hj => (hb.cell (p := ⟨b, _, none⟩) (h1 (by omega)).2).trans (h2 j hj), fun j hj => (hb.cell (p := ⟨b, _, none⟩) (h1 (by omega)).2).trans (h3 j hj)⟩
end Go.Proofs.YtpdjnbpjgpdnkaaGreatDoor
namespace Go.Proofs.YtpdjnbpjgpdnkaaGreatDoor
open Go.RowKit

def set8 (w : World) (q : Nat) (v0 v1 v2 v3 v4 v5 v6 v7 : Value) : World := (((((((w.setCell ⟨q, 0, none⟩ v0).setCell ⟨q, 1, none⟩ v1).setCell ⟨q, 2, none⟩ v2).setCell ⟨q, 3, none⟩ v3).setCell ⟨q, 4, none⟩ v4).setCell ⟨q, 5, none⟩ v5).setCell ⟨q, 6, none⟩ v6).setCell ⟨q, 7, none⟩ v7
theorem set8_blk {w wf : World} {q : Nat} {cs : Array Value} {t : TypeId} {v0 v1 v2 v3 v4 v5 v6 v7 : Value} (h : w.heap[q]? = some (.cells cs t (0, 0))) (hs : cs.size = 8) (e : set8 w q v0 v1 v2 v3 v4 v5 v6 v7 = wf) : w.grownBy wf (some q) ∧ wf.heap[q]? = some (.cells #[v0, v1, v2, v3, v4, v5, v6, v7] t (0, 0)) := by
 subst e
 refine ⟨grown_tr (grown_tr (grown_tr (grown_tr (grown_tr (grown_tr (grown_tr (grown_setT w q 0 v0) (grown_setT _ q 1 v1)) (grown_setT _ q 2 v2)) (grown_setT _ q 3 v3)) (grown_setT _ q 4 v4)) (grown_setT _ q 5 v5)) (grown_setT _ q 6 v6)) (grown_setT _ q 7 v7), ?_⟩
 obtain ⟨l⟩ := cs
 simp only [List.size_toArray] at hs
 match l, hs with
 | [a, b, c, d, e, f, g, h2], _ => simp [set8, World.setCell, Array.getElem?_modify, h]
theorem sl64 (mb hh : Nat) (h : hh ≤ 64) (w : World) : (Instr.sliceAt 78 (.pointer (some ⟨mb, 277, none⟩)) none (some (.int .i64 (hh : Nat))) none).run Tryz.prog w = .ok (.slice (some ⟨mb, 277, none⟩) hh 64) w := by
 have hal : Tryz.prog.arrayLen 78 = 64 := by kernel_rfl
 have hz : (sizeOf (Tryz.prog.elem 78)).run Tryz.prog w = .ok 2 w := by kernel_rfl
 rw [run_sliceAt_array_h w _ _ (by kernel_rfl) .i64 (hh : Int) (by omega) (by rw [hal]; omega), hal, hz]
 simp [slicedAt, Addr.add]
theorem sl128 (mb hh : Nat) (h : hh ≤ 128) (w : World) : (Instr.sliceAt 77 (.pointer (some ⟨mb, 20, none⟩)) none (some (.int .i64 (hh : Nat))) none).run Tryz.prog w = .ok (.slice (some ⟨mb, 20, none⟩) hh 128) w := by
 have hal : Tryz.prog.arrayLen 77 = 128 := by kernel_rfl
 have hz : (sizeOf (Tryz.prog.elem 77)).run Tryz.prog w = .ok 2 w := by kernel_rfl
 rw [run_sliceAt_array_h w _ _ (by kernel_rfl) .i64 (hh : Int) (by omega) (by rw [hal]; omega), hal, hz]
 simp [slicedAt, Addr.add]
/-- What State tells. -/
def stA (s : Ms) (v1 v2 : Value) : Array Value := #[.int .i64 s.pc, v1, v2, .int .u64 s.left, .int .u64 (s.paid 0), .int .u64 (s.paid 1), .int .u64 (s.paid 2), .bool s.ov]
set_option maxRecDepth 10000 in
set_option maxHeartbeats 6400000 in
theorem stateC {c : Mc} {mb : Nat} {s : Ms} {w : World} (h : Pm c mb s w) (h64 : s.h ≤ 64) (hmn : c.many ≤ 128) : Calls Tryz.prog 10 #[.pointer (some ⟨mb, 0, none⟩)] w fun e w' => ∃ a1 d1 a2 d2, e = .returned (.agg (stA s (.slice a1 s.h d1) (.slice a2 c.many d2))) ∧ Hid (w'.ownsRow w.heap.size 74 2 (.slice a1 s.h d1) s.h (vals2 s.sk s.sv s.h) ∧ w'.ownsRow w.heap.size 74 2 (.slice a2 c.many d2) c.many (vals2 c.kd s.slt c.many) ∧ (∀ q1 q2, (Value.slice a1 s.h d1).ownBlock = some q1 → (Value.slice a2 c.many d2).ownBlock = some q2 → q1 < q2) ∧ Below w.heap.size w w') := by
 obtain ⟨W1, hW1⟩ : ∃ W1, w.alloc (.cells #[.int .i64 0, .slice none 0 0, .slice none 0 0, .int .u64 0, .int .u64 0, .int .u64 0, .int .u64 0, .bool false] 48) = W1 := ⟨_, rfl⟩
 have B1 : Below w.heap.size w W1 := by rw [← hW1]; exact below_alloc1 w _
 have A1 : W1.heap[w.heap.size]? = some (.cells #[.int .i64 0, .slice none 0 0, .slice none 0 0, .int .u64 0, .int .u64 0, .int .u64 0, .int .u64 0, .bool false] 48 (0, 0)) := by rw [← hW1]; exact alloc_atK _ _
 have S1 : W1.heap.size = w.heap.size + 1 := by rw [← hW1]; simp
 have h1 := h.below B1
 have hlt := h.lt
 have HW1 := hide hW1
 obtain ⟨at0, hat⟩ : ∃ x, s.pc = x := ⟨_, rfl⟩
 obtain ⟨hh, hhh⟩ : ∃ x, s.h = x := ⟨_, rfl⟩
 obtain ⟨mn, hmn2⟩ : ∃ x, c.many = x := ⟨_, rfl⟩
 obtain ⟨lf, hlf⟩ : ∃ x, s.left = x := ⟨_, rfl⟩
 obtain ⟨p0, hp0⟩ : ∃ x, s.paid 0 = x := ⟨_, rfl⟩
 obtain ⟨p1, hp1⟩ : ∃ x, s.paid 1 = x := ⟨_, rfl⟩
 obtain ⟨p2, hp2⟩ : ∃ x, s.paid 2 = x := ⟨_, rfl⟩
 obtain ⟨ov, hov⟩ : ∃ x, s.ov = x := ⟨_, rfl⟩
 have HO : ∀ v1 v2, stA s v1 v2 = #[.int .i64 at0, v1, v2, .int .u64 lf, .int .u64 p0, .int .u64 p1, .int .u64 p2, .bool ov] := fun v1 v2 => by
  unfold stA
  rw [hat, hlf, hp0, hp1, hp2, hov]
 have HSP : Hid (∀ w', Pm c mb s w' → (fun (w : World) => (w.cell? ⟨mb, 406, none⟩ = some (.int .i64 at0) ∧ w.cell? ⟨mb, 405, none⟩ = some (.int .i64 (hh : Nat)) ∧ w.cell? ⟨mb, 276, none⟩ = some (.int .i64 (mn : Nat)) ∧ w.cell? ⟨mb, 407, none⟩ = some (.int .u64 lf)) ∧ (w.cell? ⟨mb, 408, none⟩ = some (.int .u64 p0) ∧ w.cell? ⟨mb, 409, none⟩ = some (.int .u64 p1) ∧ w.cell? ⟨mb, 410, none⟩ = some (.int .u64 p2) ∧ w.cell? ⟨mb, 411, none⟩ = some (.bool ov)) ∧ mb < w.heap.size) w') := fun w' q => by
  rw [← hat, ← hhh, ← hmn2, ← hlf, ← hp0, ← hp1, ← hp2, ← hov]
  exact ⟨⟨q.cell (i := 406) (by decide), q.cell (i := 405) (by decide), q.cell (i := 276) (by decide), q.cell (i := 407) (by decide)⟩, ⟨q.cell (i := 408) (by decide), q.cell (i := 409) (by decide), q.cell (i := 410) (by decide), q.cell (i := 411) (by decide)⟩, q.lt⟩
 have HS : Hid (∀ w' : World, Below W1.heap.size W1 w' → (fun (w : World) => (w.cell? ⟨mb, 406, none⟩ = some (.int .i64 at0) ∧ w.cell? ⟨mb, 405, none⟩ = some (.int .i64 (hh : Nat)) ∧ w.cell? ⟨mb, 276, none⟩ = some (.int .i64 (mn : Nat)) ∧ w.cell? ⟨mb, 407, none⟩ = some (.int .u64 lf)) ∧ (w.cell? ⟨mb, 408, none⟩ = some (.int .u64 p0) ∧ w.cell? ⟨mb, 409, none⟩ = some (.int .u64 p1) ∧ w.cell? ⟨mb, 410, none⟩ = some (.int .u64 p2) ∧ w.cell? ⟨mb, 411, none⟩ = some (.bool ov)) ∧ mb < w.heap.size) w') := fun w' hb => HSP.out w' (h1.below hb)
 have HSG : Hid (∀ w' wf : World, Below W1.heap.size W1 w' → w'.grownBy wf (some w.heap.size) → (fun (w : World) => (w.cell? ⟨mb, 406, none⟩ = some (.int .i64 at0) ∧ w.cell? ⟨mb, 405, none⟩ = some (.int .i64 (hh : Nat)) ∧ w.cell? ⟨mb, 276, none⟩ = some (.int .i64 (mn : Nat)) ∧ w.cell? ⟨mb, 407, none⟩ = some (.int .u64 lf)) ∧ (w.cell? ⟨mb, 408, none⟩ = some (.int .u64 p0) ∧ w.cell? ⟨mb, 409, none⟩ = some (.int .u64 p1) ∧ w.cell? ⟨mb, 410, none⟩ = some (.int .u64 p2) ∧ w.cell? ⟨mb, 411, none⟩ = some (.bool ov)) ∧ mb < w.heap.size) wf) := fun w' wf hb hg => HSP.out wf ((h1.below hb).grown hg (by simp; omega))
 have hc277 : ∀ w' : World, Pm c mb s w' → (∀ j, j < hh → w'.cell? ⟨mb, 277 + j * 2, none⟩ = some (.int .i64 (s.sk j))) ∧ ∀ j, j < hh → w'.cell? ⟨mb, 277 + j * 2 + 1, none⟩ = some (.int .u64 (s.sv j)) := fun w' q => by
  refine ⟨fun j hj => ?_, fun j hj => ?_⟩
  ·rw [q.cell (i := 277 + j * 2) (by omega)]
   unfold fcell
   rw [if_neg (by omega), if_neg (by omega), if_neg (by omega), if_pos (by omega), if_pos (by omega), show (277 + j * 2 - 277) / 2 = j by omega]
  ·rw [q.cell (i := 277 + j * 2 + 1) (by omega)]
   unfold fcell
   rw [if_neg (by omega), if_neg (by omega), if_neg (by omega), if_pos (by omega), if_neg (by omega), show (277 + j * 2 + 1 - 277) / 2 = j by omega]
 have hc20 : ∀ w' : World, Pm c mb s w' → (∀ j, j < mn → w'.cell? ⟨mb, 20 + j * 2, none⟩ = some (.int .i64 (c.kd j))) ∧ ∀ j, j < mn → w'.cell? ⟨mb, 20 + j * 2 + 1, none⟩ = some (.int .u64 (s.slt j)) := fun w' q => by
  refine ⟨fun j hj => ?_, fun j hj => ?_⟩
  ·rw [q.cell (i := 20 + j * 2) (by omega)]
   unfold fcell
   rw [if_neg (by omega), if_pos (by omega), if_pos (by omega), show (20 + j * 2 - 20) / 2 = j by omega]
  ·rw [q.cell (i := 20 + j * 2 + 1) (by omega)]
   unfold fcell
   rw [if_neg (by omega), if_pos (by omega), if_neg (by omega), show (20 + j * 2 + 1 - 20) / 2 = j by omega]
 have HC1 : Hid (∀ w1 : World, Below W1.heap.size W1 w1 → Calls Tryz.prog 26 #[.slice (some ⟨mb, 277, none⟩) hh 64] w1 fun e w' => ∃ a1 d1, e = .returned (.slice a1 hh d1) ∧ Hid (w'.ownsRow W1.heap.size 74 2 (.slice a1 hh d1) hh (vals2 s.sk s.sv hh) ∧ Below W1.heap.size W1 w' ∧ w1.heap.size ≤ w'.heap.size)) := fun w1 hb => by
  have q := h1.below hb
  refine (copiedV (n := hh) (fun _ => ⟨rfl, q.lt⟩) (hc277 w1 q).1 (hc277 w1 q).2 (by omega)).mono ?_
  rintro y w' ⟨v, rfl, g⟩
  obtain ⟨va, vp, rfl⟩ := own_val2 g.out.1
  exact ⟨va, vp, rfl, own_low g.out.1 hb.size, hb.trans (g.out.2.mono hb.size), g.out.2.size⟩
 have HC2 : Hid (∀ w1 : World, Below W1.heap.size W1 w1 → Calls Tryz.prog 26 #[.slice (some ⟨mb, 20, none⟩) mn 128] w1 fun e w' => ∃ a2 d2, e = .returned (.slice a2 mn d2) ∧ Hid (w'.ownsRow w1.heap.size 74 2 (.slice a2 mn d2) mn (vals2 c.kd s.slt mn) ∧ Below W1.heap.size W1 w' ∧ Below w1.heap.size w1 w')) := fun w1 hb => by
  have q := h1.below hb
  refine (copiedV (n := mn) (fun _ => ⟨rfl, q.lt⟩) (hc20 w1 q).1 (hc20 w1 q).2 (by omega)).mono ?_
  rintro y w' ⟨v, rfl, g⟩
  obtain ⟨va, vp, rfl⟩ := own_val2 g.out.1
  exact ⟨va, vp, rfl, g.out.1, hb.trans (g.out.2.mono hb.size), g.out.2⟩
 have c0 : W1.cell? ⟨mb, 0, none⟩ = some (.bool true) := h1.cell (i := 0) (by decide)
 have ml := h1.lt
 have HA1 := hide A1
 have HB1 := hide B1
 have HSZ := hide S1
 rw [hhh] at h64 ⊢
 rw [hmn2] at hmn ⊢
 have HOH := hide HO
 have L1 := sl64 mb hh h64
 have L2 := sl128 mb mn hmn
 have hmw : ¬ mb = w.heap.size := by omega
 clear h h1 hW1 A1 B1 S1 HO hat hhh hmn2 hlf hp0 hp1 hp2 hov hc277 hc20 HSP hlt
 go_enter Tryz.func10, Tryz.ntmps10
 go_upto_region 1 with fail
 rw [HW1.out]
 clear HW1
 go_upto_region 3 with fail
 clear c0 ml
 obtain ⟨wz, hwz⟩ : ∃ wz, (W1).drew = wz := ⟨_, rfl⟩
 have HS9 : Hid ((fun (w : World) => (w.cell? ⟨mb, 406, none⟩ = some (.int .i64 at0) ∧ w.cell? ⟨mb, 405, none⟩ = some (.int .i64 (hh : Nat)) ∧ w.cell? ⟨mb, 276, none⟩ = some (.int .i64 (mn : Nat)) ∧ w.cell? ⟨mb, 407, none⟩ = some (.int .u64 lf)) ∧ (w.cell? ⟨mb, 408, none⟩ = some (.int .u64 p0) ∧ w.cell? ⟨mb, 409, none⟩ = some (.int .u64 p1) ∧ w.cell? ⟨mb, 410, none⟩ = some (.int .u64 p2) ∧ w.cell? ⟨mb, 411, none⟩ = some (.bool ov)) ∧ mb < w.heap.size) wz) := by rw [← hwz]; exact HS.out _ (Below.refl _ _).drew
 refine wp_region_L 99 (fun _ => True) (fun (w : World) => (w.cell? ⟨mb, 406, none⟩ = some (.int .i64 at0) ∧ w.cell? ⟨mb, 405, none⟩ = some (.int .i64 (hh : Nat)) ∧ w.cell? ⟨mb, 276, none⟩ = some (.int .i64 (mn : Nat)) ∧ w.cell? ⟨mb, 407, none⟩ = some (.int .u64 lf)) ∧ (w.cell? ⟨mb, 408, none⟩ = some (.int .u64 p0) ∧ w.cell? ⟨mb, 409, none⟩ = some (.int .u64 p1) ∧ w.cell? ⟨mb, 410, none⟩ = some (.int .u64 p2) ∧ w.cell? ⟨mb, 411, none⟩ = some (.bool ov)) ∧ mb < w.heap.size) (by kernel_rfl) trivial (by rw [hwz]; exact HS9.out) (fun hS0 => ?_)
 rw [hwz] at hS0 ⊢
 refine wpAnyL_take (i := 0) (oi := ⟨some 13, .move (.tmp 0), 43, "machine.go:80", #[], none⟩) (v := .pointer (some ⟨mb, 0, none⟩)) rfl (by decide) (by kernel_rfl) (by kernel_rfl) (by kernel_rfl) (fun _ _ _ h => h) (Or.inl ⟨by rfl, fun w2 hSw => ?_⟩) hS0 (fun hS1 => ?_)
 ·go_simp
 simp only [Act.put, lsA, lsB, lsC]
 clear hS0
 refine wpAnyL_take (i := 1) (oi := ⟨some 14, .nilCheck (.tmp 13), 0, "machine.go:80", #[⟨0, .data⟩], none⟩) (v := .pointer (some ⟨mb, 0, none⟩)) rfl (by decide) (by kernel_rfl) (by kernel_rfl) (by kernel_rfl) (fun _ _ _ h => h) (Or.inl ⟨by rfl, fun w2 hSw => ?_⟩) hS1 (fun hS2 => ?_)
 ·obtain ⟨⟨k1, k2, k3, k4⟩, ⟨k5, k6, k7, k8⟩, kl⟩ := hSw
  go_simp
 simp only [Act.put, lsA, lsB, lsC]
 clear hS1
 refine wpAnyL_take (i := 2) (oi := ⟨some 15, .fieldAddr 80 (.tmp 14) 9, 0, "machine.go:80", #[⟨1, .data⟩], none⟩) (v := .pointer (some ⟨mb, 406, none⟩)) rfl (by decide) (by kernel_rfl) (by kernel_rfl) (by kernel_rfl) (fun _ _ _ h => h) (Or.inl ⟨by rfl, fun w2 hSw => ?_⟩) hS2 (fun hS3 => ?_)
 ·go_simp
 simp only [Act.put, lsA, lsB, lsC]
 clear hS2
 refine wpAnyL_take (i := 3) (oi := ⟨some 16, .load 3 (.tmp 15), 3, "machine.go:80", #[⟨2, .data⟩], none⟩) (v := .int .i64 at0) rfl (by decide) (by kernel_rfl) (by kernel_rfl) (by kernel_rfl) (fun _ _ _ h => h) (Or.inl ⟨by rfl, fun w2 hSw => ?_⟩) hS3 (fun hS4 => ?_)
 ·obtain ⟨⟨k1, k2, k3, k4⟩, ⟨k5, k6, k7, k8⟩, kl⟩ := hSw
  go_simp
 simp only [Act.put, lsA, lsB, lsC]
 clear hS3
 refine wpAnyL_take (i := 4) (oi := ⟨some 17, .move (.tmp 0), 43, "machine.go:80", #[], none⟩) (v := .pointer (some ⟨mb, 0, none⟩)) rfl (by decide) (by kernel_rfl) (by kernel_rfl) (by kernel_rfl) (fun _ _ _ h => h) (Or.inl ⟨by rfl, fun w2 hSw => ?_⟩) hS4 (fun hS5 => ?_)
 ·go_simp
 simp only [Act.put, lsA, lsB, lsC]
 clear hS4
 refine wpAnyL_take (i := 5) (oi := ⟨some 18, .nilCheck (.tmp 17), 0, "machine.go:80", #[⟨4, .data⟩], none⟩) (v := .pointer (some ⟨mb, 0, none⟩)) rfl (by decide) (by kernel_rfl) (by kernel_rfl) (by kernel_rfl) (fun _ _ _ h => h) (Or.inl ⟨by rfl, fun w2 hSw => ?_⟩) hS5 (fun hS6 => ?_)
 ·obtain ⟨⟨k1, k2, k3, k4⟩, ⟨k5, k6, k7, k8⟩, kl⟩ := hSw
  go_simp
 simp only [Act.put, lsA, lsB, lsC]
 clear hS5
 refine wpAnyL_take (i := 6) (oi := ⟨some 19, .fieldAddr 80 (.tmp 18) 7, 0, "machine.go:80", #[⟨5, .data⟩], none⟩) (v := .pointer (some ⟨mb, 277, none⟩)) rfl (by decide) (by kernel_rfl) (by kernel_rfl) (by kernel_rfl) (fun _ _ _ h => h) (Or.inl ⟨by rfl, fun w2 hSw => ?_⟩) hS6 (fun hS7 => ?_)
 ·go_simp
 simp only [Act.put, lsA, lsB, lsC]
 clear hS6
 refine wpAnyL_take (i := 7) (oi := ⟨some 20, .move (.tmp 0), 43, "machine.go:80", #[], none⟩) (v := .pointer (some ⟨mb, 0, none⟩)) rfl (by decide) (by kernel_rfl) (by kernel_rfl) (by kernel_rfl) (fun _ _ _ h => h) (Or.inl ⟨by rfl, fun w2 hSw => ?_⟩) hS7 (fun hS8 => ?_)
 ·go_simp
 simp only [Act.put, lsA, lsB, lsC]
 clear hS7
 refine wpAnyL_take (i := 8) (oi := ⟨some 21, .nilCheck (.tmp 20), 0, "machine.go:80", #[⟨7, .data⟩], none⟩) (v := .pointer (some ⟨mb, 0, none⟩)) rfl (by decide) (by kernel_rfl) (by kernel_rfl) (by kernel_rfl) (fun _ _ _ h => h) (Or.inl ⟨by rfl, fun w2 hSw => ?_⟩) hS8 (fun hS9 => ?_)
 ·obtain ⟨⟨k1, k2, k3, k4⟩, ⟨k5, k6, k7, k8⟩, kl⟩ := hSw
  go_simp
 simp only [Act.put, lsA, lsB, lsC]
 clear hS8
 refine wpAnyL_take (i := 9) (oi := ⟨some 22, .fieldAddr 80 (.tmp 21) 8, 0, "machine.go:80", #[⟨8, .data⟩], none⟩) (v := .pointer (some ⟨mb, 405, none⟩)) rfl (by decide) (by kernel_rfl) (by kernel_rfl) (by kernel_rfl) (fun _ _ _ h => h) (Or.inl ⟨by rfl, fun w2 hSw => ?_⟩) hS9 (fun hS10 => ?_)
 ·go_simp
 simp only [Act.put, lsA, lsB, lsC]
 clear hS9
 refine wpAnyL_take (i := 10) (oi := ⟨some 23, .load 3 (.tmp 22), 3, "machine.go:80", #[⟨9, .data⟩], none⟩) (v := .int .i64 (hh : Nat)) rfl (by decide) (by kernel_rfl) (by kernel_rfl) (by kernel_rfl) (fun _ _ _ h => h) (Or.inl ⟨by rfl, fun w2 hSw => ?_⟩) hS10 (fun hS11 => ?_)
 ·obtain ⟨⟨k1, k2, k3, k4⟩, ⟨k5, k6, k7, k8⟩, kl⟩ := hSw
  go_simp
 simp only [Act.put, lsA, lsB, lsC]
 clear hS10
 refine wpAnyL_take (i := 11) (oi := ⟨some 24, .slice 78 (.tmp 19) none (some (.tmp 23)) none, 46, "machine.go:80", #[⟨6, .data⟩, ⟨10, .data⟩], none⟩) (v := .slice (some ⟨mb, 277, none⟩) hh 64) rfl (by decide) (by kernel_rfl) (by kernel_rfl) (by kernel_rfl) (fun _ _ _ h => h) (Or.inl ⟨by rfl, fun w2 hSw => ?_⟩) hS11 (fun hS12 => ?_)
 ·obtain ⟨⟨k1, k2, k3, k4⟩, ⟨k5, k6, k7, k8⟩, kl⟩ := hSw
  go_simp
 simp only [Act.put, lsA, lsB, lsC]
 clear hS11
 refine wpAnyL_take (i := 13) (oi := ⟨some 26, .move (.tmp 0), 43, "machine.go:80", #[], none⟩) (v := .pointer (some ⟨mb, 0, none⟩)) rfl (by decide) (by kernel_rfl) (by kernel_rfl) (by kernel_rfl) (fun _ _ _ h => h) (Or.inl ⟨by rfl, fun w2 hSw => ?_⟩) hS12 (fun hS13 => ?_)
 ·go_simp
 simp only [Act.put, lsA, lsB, lsC]
 clear hS12
 refine wpAnyL_take (i := 14) (oi := ⟨some 27, .nilCheck (.tmp 26), 0, "machine.go:80", #[⟨13, .data⟩], none⟩) (v := .pointer (some ⟨mb, 0, none⟩)) rfl (by decide) (by kernel_rfl) (by kernel_rfl) (by kernel_rfl) (fun _ _ _ h => h) (Or.inl ⟨by rfl, fun w2 hSw => ?_⟩) hS13 (fun hS14 => ?_)
 ·obtain ⟨⟨k1, k2, k3, k4⟩, ⟨k5, k6, k7, k8⟩, kl⟩ := hSw
  go_simp
 simp only [Act.put, lsA, lsB, lsC]
 clear hS13
 refine wpAnyL_take (i := 15) (oi := ⟨some 28, .fieldAddr 80 (.tmp 27) 5, 0, "machine.go:80", #[⟨14, .data⟩], none⟩) (v := .pointer (some ⟨mb, 20, none⟩)) rfl (by decide) (by kernel_rfl) (by kernel_rfl) (by kernel_rfl) (fun _ _ _ h => h) (Or.inl ⟨by rfl, fun w2 hSw => ?_⟩) hS14 (fun hS15 => ?_)
 ·go_simp
 simp only [Act.put, lsA, lsB, lsC]
 clear hS14
 refine wpAnyL_take (i := 16) (oi := ⟨some 29, .move (.tmp 0), 43, "machine.go:80", #[], none⟩) (v := .pointer (some ⟨mb, 0, none⟩)) rfl (by decide) (by kernel_rfl) (by kernel_rfl) (by kernel_rfl) (fun _ _ _ h => h) (Or.inl ⟨by rfl, fun w2 hSw => ?_⟩) hS15 (fun hS16 => ?_)
 ·go_simp
 simp only [Act.put, lsA, lsB, lsC]
 clear hS15
 refine wpAnyL_take (i := 17) (oi := ⟨some 30, .nilCheck (.tmp 29), 0, "machine.go:80", #[⟨16, .data⟩], none⟩) (v := .pointer (some ⟨mb, 0, none⟩)) rfl (by decide) (by kernel_rfl) (by kernel_rfl) (by kernel_rfl) (fun _ _ _ h => h) (Or.inl ⟨by rfl, fun w2 hSw => ?_⟩) hS16 (fun hS17 => ?_)
 ·obtain ⟨⟨k1, k2, k3, k4⟩, ⟨k5, k6, k7, k8⟩, kl⟩ := hSw
  go_simp
 simp only [Act.put, lsA, lsB, lsC]
 clear hS16
 refine wpAnyL_take (i := 18) (oi := ⟨some 31, .fieldAddr 80 (.tmp 30) 6, 0, "machine.go:80", #[⟨17, .data⟩], none⟩) (v := .pointer (some ⟨mb, 276, none⟩)) rfl (by decide) (by kernel_rfl) (by kernel_rfl) (by kernel_rfl) (fun _ _ _ h => h) (Or.inl ⟨by rfl, fun w2 hSw => ?_⟩) hS17 (fun hS18 => ?_)
 ·go_simp
 simp only [Act.put, lsA, lsB, lsC]
 clear hS17
 refine wpAnyL_take (i := 19) (oi := ⟨some 32, .load 3 (.tmp 31), 3, "machine.go:80", #[⟨18, .data⟩], none⟩) (v := .int .i64 (mn : Nat)) rfl (by decide) (by kernel_rfl) (by kernel_rfl) (by kernel_rfl) (fun _ _ _ h => h) (Or.inl ⟨by rfl, fun w2 hSw => ?_⟩) hS18 (fun hS19 => ?_)
 ·obtain ⟨⟨k1, k2, k3, k4⟩, ⟨k5, k6, k7, k8⟩, kl⟩ := hSw
  go_simp
 simp only [Act.put, lsA, lsB, lsC]
 clear hS18
 refine wpAnyL_take (i := 20) (oi := ⟨some 33, .slice 77 (.tmp 28) none (some (.tmp 32)) none, 46, "machine.go:80", #[⟨15, .data⟩, ⟨19, .data⟩], none⟩) (v := .slice (some ⟨mb, 20, none⟩) mn 128) rfl (by decide) (by kernel_rfl) (by kernel_rfl) (by kernel_rfl) (fun _ _ _ h => h) (Or.inl ⟨by rfl, fun w2 hSw => ?_⟩) hS19 (fun hS20 => ?_)
 ·obtain ⟨⟨k1, k2, k3, k4⟩, ⟨k5, k6, k7, k8⟩, kl⟩ := hSw
  go_simp
 simp only [Act.put, lsA, lsB, lsC]
 clear hS19
 refine wpAnyL_take (i := 22) (oi := ⟨some 35, .move (.tmp 0), 43, "machine.go:80", #[], none⟩) (v := .pointer (some ⟨mb, 0, none⟩)) rfl (by decide) (by kernel_rfl) (by kernel_rfl) (by kernel_rfl) (fun _ _ _ h => h) (Or.inl ⟨by rfl, fun w2 hSw => ?_⟩) hS20 (fun hS21 => ?_)
 ·go_simp
 simp only [Act.put, lsA, lsB, lsC]
 clear hS20
 refine wpAnyL_take (i := 23) (oi := ⟨some 36, .nilCheck (.tmp 35), 0, "machine.go:80", #[⟨22, .data⟩], none⟩) (v := .pointer (some ⟨mb, 0, none⟩)) rfl (by decide) (by kernel_rfl) (by kernel_rfl) (by kernel_rfl) (fun _ _ _ h => h) (Or.inl ⟨by rfl, fun w2 hSw => ?_⟩) hS21 (fun hS22 => ?_)
 ·obtain ⟨⟨k1, k2, k3, k4⟩, ⟨k5, k6, k7, k8⟩, kl⟩ := hSw
  go_simp
 simp only [Act.put, lsA, lsB, lsC]
 clear hS21
 refine wpAnyL_take (i := 24) (oi := ⟨some 37, .fieldAddr 80 (.tmp 36) 10, 0, "machine.go:80", #[⟨23, .data⟩], none⟩) (v := .pointer (some ⟨mb, 407, none⟩)) rfl (by decide) (by kernel_rfl) (by kernel_rfl) (by kernel_rfl) (fun _ _ _ h => h) (Or.inl ⟨by rfl, fun w2 hSw => ?_⟩) hS22 (fun hS23 => ?_)
 ·go_simp
 simp only [Act.put, lsA, lsB, lsC]
 clear hS22
 refine wpAnyL_take (i := 25) (oi := ⟨some 38, .load 28 (.tmp 37), 28, "machine.go:80", #[⟨24, .data⟩], none⟩) (v := .int .u64 lf) rfl (by decide) (by kernel_rfl) (by kernel_rfl) (by kernel_rfl) (fun _ _ _ h => h) (Or.inl ⟨by rfl, fun w2 hSw => ?_⟩) hS23 (fun hS24 => ?_)
 ·obtain ⟨⟨k1, k2, k3, k4⟩, ⟨k5, k6, k7, k8⟩, kl⟩ := hSw
  go_simp
 simp only [Act.put, lsA, lsB, lsC]
 clear hS23
 refine wpAnyL_take (i := 26) (oi := ⟨some 39, .move (.tmp 0), 43, "machine.go:80", #[], none⟩) (v := .pointer (some ⟨mb, 0, none⟩)) rfl (by decide) (by kernel_rfl) (by kernel_rfl) (by kernel_rfl) (fun _ _ _ h => h) (Or.inl ⟨by rfl, fun w2 hSw => ?_⟩) hS24 (fun hS25 => ?_)
 ·go_simp
 simp only [Act.put, lsA, lsB, lsC]
 clear hS24
 refine wpAnyL_take (i := 27) (oi := ⟨some 40, .nilCheck (.tmp 39), 0, "machine.go:80", #[⟨26, .data⟩], none⟩) (v := .pointer (some ⟨mb, 0, none⟩)) rfl (by decide) (by kernel_rfl) (by kernel_rfl) (by kernel_rfl) (fun _ _ _ h => h) (Or.inl ⟨by rfl, fun w2 hSw => ?_⟩) hS25 (fun hS26 => ?_)
 ·obtain ⟨⟨k1, k2, k3, k4⟩, ⟨k5, k6, k7, k8⟩, kl⟩ := hSw
  go_simp
 simp only [Act.put, lsA, lsB, lsC]
 clear hS25
 refine wpAnyL_take (i := 28) (oi := ⟨some 41, .fieldAddr 80 (.tmp 40) 11, 0, "machine.go:80", #[⟨27, .data⟩], none⟩) (v := .pointer (some ⟨mb, 408, none⟩)) rfl (by decide) (by kernel_rfl) (by kernel_rfl) (by kernel_rfl) (fun _ _ _ h => h) (Or.inl ⟨by rfl, fun w2 hSw => ?_⟩) hS26 (fun hS27 => ?_)
 ·go_simp
 simp only [Act.put, lsA, lsB, lsC]
 clear hS26
 refine wpAnyL_take (i := 29) (oi := ⟨some 42, .load 33 (.tmp 41), 33, "machine.go:80", #[⟨28, .data⟩], none⟩) (v := .agg #[.int .u64 p0, .int .u64 p1, .int .u64 p2]) rfl (by decide) (by kernel_rfl) (by kernel_rfl) (by kernel_rfl) (fun _ _ _ h => h) (Or.inl ⟨by rfl, fun w2 hSw => ?_⟩) hS27 (fun hS28 => ?_)
 ·obtain ⟨⟨k1, k2, k3, k4⟩, ⟨k5, k6, k7, k8⟩, kl⟩ := hSw
  go_simp
 simp only [Act.put, lsA, lsB, lsC]
 clear hS27
 refine wpAnyL_take (i := 30) (oi := ⟨some 43, .move (.tmp 0), 43, "machine.go:80", #[], none⟩) (v := .pointer (some ⟨mb, 0, none⟩)) rfl (by decide) (by kernel_rfl) (by kernel_rfl) (by kernel_rfl) (fun _ _ _ h => h) (Or.inl ⟨by rfl, fun w2 hSw => ?_⟩) hS28 (fun hS29 => ?_)
 ·go_simp
 simp only [Act.put, lsA, lsB, lsC]
 clear hS28
 refine wpAnyL_take (i := 31) (oi := ⟨some 44, .nilCheck (.tmp 43), 0, "machine.go:80", #[⟨30, .data⟩], none⟩) (v := .pointer (some ⟨mb, 0, none⟩)) rfl (by decide) (by kernel_rfl) (by kernel_rfl) (by kernel_rfl) (fun _ _ _ h => h) (Or.inl ⟨by rfl, fun w2 hSw => ?_⟩) hS29 (fun hS30 => ?_)
 ·obtain ⟨⟨k1, k2, k3, k4⟩, ⟨k5, k6, k7, k8⟩, kl⟩ := hSw
  go_simp
 simp only [Act.put, lsA, lsB, lsC]
 clear hS29
 refine wpAnyL_take (i := 32) (oi := ⟨some 45, .fieldAddr 80 (.tmp 44) 12, 0, "machine.go:80", #[⟨31, .data⟩], none⟩) (v := .pointer (some ⟨mb, 411, none⟩)) rfl (by decide) (by kernel_rfl) (by kernel_rfl) (by kernel_rfl) (fun _ _ _ h => h) (Or.inl ⟨by rfl, fun w2 hSw => ?_⟩) hS30 (fun hS31 => ?_)
 ·go_simp
 simp only [Act.put, lsA, lsB, lsC]
 clear hS30
 refine wpAnyL_take (i := 33) (oi := ⟨some 46, .load 4 (.tmp 45), 4, "machine.go:80", #[⟨32, .data⟩], none⟩) (v := .bool ov) rfl (by decide) (by kernel_rfl) (by kernel_rfl) (by kernel_rfl) (fun _ _ _ h => h) (Or.inl ⟨by rfl, fun w2 hSw => ?_⟩) hS31 (fun hS32 => ?_)
 ·obtain ⟨⟨k1, k2, k3, k4⟩, ⟨k5, k6, k7, k8⟩, kl⟩ := hSw
  go_simp
 simp only [Act.put, lsA, lsB, lsC]
 clear hS31
 clear hS32
 refine wpAnyL_one (i := 12) (o := ⟨some 25, .call { callee := Callee.value (.func 26), args := #[.tmp 24], argTypes := #[46] }, 46, "machine.go:82", #[⟨11, .data⟩], none⟩) (by kernel_rfl) rfl (fun K hK => ?_)
 go_simp
 go_wp2_with fail
 have B0 : Hid (Below W1.heap.size W1 wz) := by rw [← hwz]; exact (Below.refl _ _).drew
 refine (HC1.out wz B0.out).mono ?_
 rintro e w5 ⟨a1, d1, rfl, G5⟩
 go_simp
 refine hK.out _ _ ⟨fun _ => trivial, HS.out _ G5.out.2.1⟩ ?_
 clear hK K
 refine wpAnyL_one (i := 21) (o := ⟨some 34, .call { callee := Callee.value (.func 26), args := #[.tmp 33], argTypes := #[46] }, 46, "machine.go:83", #[⟨20, .data⟩, ⟨12, .chain⟩], none⟩) (by kernel_rfl) rfl (fun K hK => ?_)
 go_simp
 go_wp2_with fail
 refine (HC2.out w5 G5.out.2.1).mono ?_
 rintro e w6 ⟨a2, d2, rfl, G6⟩
 go_simp
 refine hK.out _ _ ⟨fun _ => trivial, HS.out _ G6.out.2.1⟩ ?_
 clear hK K
 refine wpAnyL_take (i := 34) (oi := ⟨some 47, .build 48 #[(0, .tmp 16), (1, .tmp 25), (2, .tmp 34), (3, .tmp 38), (4, .tmp 42), (5, .tmp 46)], 48, "machine.go:80", #[⟨3, .data⟩, ⟨12, .data⟩, ⟨21, .data⟩, ⟨25, .data⟩, ⟨29, .data⟩, ⟨33, .data⟩], none⟩) (v := .agg #[.int .i64 at0, .slice a1 hh d1, .slice a2 mn d2, .int .u64 lf, .int .u64 p0, .int .u64 p1, .int .u64 p2, .bool ov]) rfl (by decide) (by kernel_rfl) (by kernel_rfl) (by kernel_rfl) (fun _ _ _ h => h) (Or.inl ⟨by rfl, fun w2 hSw => ?_⟩) ⟨fun _ => trivial, HS.out _ G6.out.2.1⟩ (fun hS50 => ?_)
 ·go_simp
 simp only [Act.put, lsA, lsB, lsC]
 clear hS50
 have HFX := hide ((G6.out.2.1.block _ (block_lt HA1.out)).trans HA1.out)
 have v0 := block_cell HFX.out 0
 have f0 := block_free HFX.out 0
 have v1 := block_cell HFX.out 1
 have f1 := block_free HFX.out 1
 have v2 := block_cell HFX.out 2
 have f2 := block_free HFX.out 2
 have v3 := block_cell HFX.out 3
 have f3 := block_free HFX.out 3
 have v4 := block_cell HFX.out 4
 have f4 := block_free HFX.out 4
 have v5 := block_cell HFX.out 5
 have f5 := block_free HFX.out 5
 have v6 := block_cell HFX.out 6
 have f6 := block_free HFX.out 6
 have v7 := block_cell HFX.out 7
 have f7 := block_free HFX.out 7
 have vl := block_lt HFX.out
 simp at v0 v1 v2 v3 v4 v5 v6 v7
 have HGS : Hid (∀ wf, set8 w6 w.heap.size (.int .i64 at0) (.slice a1 hh d1) (.slice a2 mn d2) (.int .u64 lf) (.int .u64 p0) (.int .u64 p1) (.int .u64 p2) (.bool ov) = wf → w6.grownBy wf (some w.heap.size) ∧ wf.heap[w.heap.size]? = some (.cells #[.int .i64 at0, .slice a1 hh d1, .slice a2 mn d2, .int .u64 lf, .int .u64 p0, .int .u64 p1, .int .u64 p2, .bool ov] 48 (0, 0))) := fun wf e => set8_blk HFX.out rfl e
 have HSF := hide (HSG.out _ _ G6.out.2.1 (HGS.out _ rfl).1)
 refine wpAnyL_one (i := 35) (o := ⟨none, .store 48 (.tmp 2) (.tmp 47), 0, "machine.go:80", #[⟨34, .data⟩, ⟨21, .chain⟩, ⟨0, .phase⟩, ⟨1, .phase⟩, ⟨2, .phase⟩, ⟨3, .phase⟩, ⟨4, .phase⟩, ⟨5, .phase⟩, ⟨6, .phase⟩, ⟨7, .phase⟩, ⟨8, .phase⟩, ⟨9, .phase⟩, ⟨10, .phase⟩, ⟨11, .phase⟩, ⟨12, .phase⟩, ⟨13, .phase⟩, ⟨14, .phase⟩, ⟨15, .phase⟩, ⟨16, .phase⟩, ⟨17, .phase⟩, ⟨18, .phase⟩, ⟨19, .phase⟩, ⟨20, .phase⟩, ⟨21, .phase⟩, ⟨22, .phase⟩, ⟨23, .phase⟩, ⟨24, .phase⟩, ⟨25, .phase⟩, ⟨26, .phase⟩, ⟨27, .phase⟩, ⟨28, .phase⟩, ⟨29, .phase⟩, ⟨30, .phase⟩, ⟨31, .phase⟩, ⟨32, .phase⟩, ⟨33, .phase⟩, ⟨34, .phase⟩], none⟩) (by kernel_rfl) rfl (fun K hK => ?_)
 go_simp
 go_wp2_with fail
 refine hK.out _ _ ⟨fun _ => trivial, by first | exact HSF.out⟩ ?_
 clear hK K
 refine wpAnyL_done (by kernel_rfl) ?_ _
 clear HS9

 generalize hwf : World.setCell _ _ _ = wf
 obtain ⟨g1, g2⟩ := HGS.out wf hwf
 have HE : Hid (wf.ownsRow w.heap.size 74 2 (.slice a1 hh d1) hh (vals2 s.sk s.sv hh) ∧ wf.ownsRow w.heap.size 74 2 (.slice a2 mn d2) mn (vals2 c.kd s.slt mn) ∧ (∀ q1 q2, (Value.slice a1 hh d1).ownBlock = some q1 → (Value.slice a2 mn d2).ownBlock = some q2 → q1 < q2) ∧ Below w.heap.size w wf) := by
  have o1 := own_keep G5.out.1 G6.out.2.2
  have sz : W1.heap.size = w.heap.size + 1 := HSZ.out
  refine ⟨own_low (own_offT o1 HFX.out (by decide) g1) (by omega), own_low (own_offT G6.out.1 HFX.out (by decide) g1) (by have := G5.out.2.1.size; omega), fun q1 q2 e1 e2 => ?_, ?_⟩
  ·have l1 := (G5.out.1.lt q1 e1).2
   have l2 := (G6.out.1.lt q2 e2).1
   omega
  ·exact (HB1.out.trans (G6.out.2.1.mono HB1.out.size)).grown g1 (Nat.le_trans HB1.out.size G6.out.2.1.size) (fun q e => by cases e; exact Nat.le_refl _)
 have c0 := block_cell g2 0
 have c1 := block_cell g2 1
 have c2 := block_cell g2 2
 have c3 := block_cell g2 3
 have c4 := block_cell g2 4
 have c5 := block_cell g2 5
 have c6 := block_cell g2 6
 have c7 := block_cell g2 7
 simp at c0 c1 c2 c3 c4 c5 c6 c7
 clear g1 g2 v0 v1 v2 v3 v4 v5 v6 v7 f0 f1 f2 f3 f4 f5 f6 f7 vl hwf
 go_wp2
 refine bodyPost_ret (v := .agg #[.int .i64 at0, .slice a1 hh d1, .slice a2 mn d2, .int .u64 lf, .int .u64 p0, .int .u64 p1, .int .u64 p2, .bool ov]) (by simp [results, Tryz.results10, go_sem, c0, c1, c2, c3, c4, c5, c6, c7]) rfl ?_
 exact ⟨a1, d1, a2, d2, by rw [HOH.out], HE⟩
end Go.Proofs.YtpdjnbpjgpdnkaaGreatDoor
