import Derived.Test.YtmoklddfaocihaaDoorV36
import Derived.Test.YtmoklddfaocihaaDoorV15
namespace Go.Proofs.YtmoklddfaocihaaDoor
open Go.RowKit

theorem vals2_at {k x : Nat → Int} {n j : Nat} {u : Value} (h : (vals2 k x n)[j]? = some u) : j / 2 < n ∧ u = if j % 2 = 0 then .int .i64 (k (j / 2)) else .int .u64 (x (j / 2)) := by
 have hj := (List.getElem?_eq_some_iff.1 h).1
 rw [vals2_len] at hj
 refine ⟨by omega, ?_⟩
 rcases Nat.mod_two_eq_zero_or_one j with q | q
 ·obtain ⟨i, rfl⟩ : ∃ i, j = i * 2 := ⟨j / 2, by omega⟩
  rw [vals2_k (by omega)] at h
  rw [if_pos q, show i * 2 / 2 = i by omega]
  exact (Option.some.inj h).symm
 ·obtain ⟨i, rfl⟩ : ∃ i, j = i * 2 + 1 := ⟨j / 2, by omega⟩
  rw [vals2_v (by omega)] at h
  rw [if_neg (by omega), show (i * 2 + 1) / 2 = i by omega]
  exact (Option.some.inj h).symm
theorem vals2_one (k x : Nat → Int) (n : Nat) : ∀ u ∈ vals2 k x n, u.oneCell' = true := fun u hu => by
 unfold vals2 at hu
 obtain ⟨i, _, rfl⟩ := List.mem_map.1 hu
 by_cases q : i % 2 = 0
 ·rw [if_pos q]; rfl
 ·rw [if_neg q]; rfl
theorem noneV (b : Option Addr) (m : Nat) (w : World) : (Builtin.append_ #[63, 63] 63 #[.slice none 0 0, .slice b 0 m]).run Tryd.prog w = .ok (.slice none 0 0) w := by
 obtain ⟨i0, hi, hz0, hz1, hz2⟩ := info_parts Tryd.infoCV
 cases b <;> simp [Builtin.append_, run_underlying Tryd.underlying63, sizeOf, typeInfo, hi, go_sem]
set_option maxRecDepth 10000 in
set_option maxHeartbeats 1600000 in
/-- The program's copy of values. -/
theorem copiedV {W : World} {ao : Option Addr} {n cap b off : Nat} {fk fx : Nat → Int} (h : 0 < n → ao = some ⟨b, off, none⟩ ∧ b < W.heap.size) (ho : ∀ j, j < n → W.cell? ⟨b, off + j * 2, none⟩ = some (.int .i64 (fk j))) (ha : ∀ j, j < n → W.cell? ⟨b, off + j * 2 + 1, none⟩ = some (.int .u64 (fx j))) (hn : n ≤ 1048576) :
  Calls Tryd.prog 74 #[.slice ao n cap] W fun e w' => ∃ v, e = .returned v ∧ Hid (w'.ownsRow W.heap.size 56 2 v n (vals2 fk fx n) ∧ Below W.heap.size W w') := by
 by_cases e0 : n = 0
 ·subst e0
  have HN := noneV ao cap
  have HNH := hide HN
  clear HN
  go_enter Tryd.func74, Tryd.ntmps74
  go_wp2_with (at_builtin; refine wpList_append_nothing rfl _ _ 63 rfl _ _ rfl rfl (HNH.out _) ?_)
  go_ret
  exact ⟨_, rfl, hide ⟨World.ownsRow_nil _ _ _ _, Below.refl _ _⟩⟩
 ·obtain ⟨i0, hi, hz0, hz1, hz2⟩ := info_parts Tryd.infoCV
  obtain ⟨hq, hb⟩ := h (by omega)
  subst hq
  have HV : Hid (∀ j u, (vals2 fk fx n)[j]? = some u → W.cell? ⟨b, off + j, none⟩ = some u) := fun j u hu => by
   obtain ⟨q1, q2⟩ := vals2_at hu
   rw [q2]
   rcases Nat.mod_two_eq_zero_or_one j with q | q
   ·rw [if_pos q, show off + j = off + j / 2 * 2 by omega]
    exact ho _ q1
   ·rw [if_neg (by omega), show off + j = off + j / 2 * 2 + 1 by omega]
    exact ha _ q1
  clear h ho ha
  go_enter Tryd.func74, Tryd.ntmps74
  go_wp2_with (at_builtin; refine wpList_append_own _ rfl _ (.tmp 3) 63 rfl W.heap.size 56 i0 (.agg #[.int .i64 0, .int .u64 0]) 2 16 Tryd.underlying63 hi hz0 hz1 hz2 rfl (by decide) (.slice none 0 0) 0 [] rfl (World.ownsRow_nil _ _ _ _) ⟨b, off, none⟩ n cap (vals2 fk fx n) rfl (by rw [vals2_len]) (fun j u hu => by rw [addP]; exact HV.out j u hu) (vals2_one _ _ _) (by unfold maxLen; omega) (by omega) (Nat.le_refl _) ?_; intro v' w5 ho hg _)
  have HD : Hid (w5.ownsRow W.heap.size 56 2 v' n (vals2 fk fx n) ∧ Below W.heap.size W w5) := by
   refine ⟨by simpa using ho, (Below.refl _ W).grown hg (Nat.le_refl _) (fun g e => ?_)⟩
   simp [Value.ownBlock] at e
  clear ho hg
  go_wp2
  go_ret
  exact ⟨_, rfl, HD⟩
/-- Values as they can be read. -/
structure Cv (W : World) (v : Value) (n : Nat) (k x : Nat → Int) : Prop where
 ex : ∃ ao cap b, v = .slice ao n cap ∧ n ≤ cap ∧ (0 < n → ao = some ⟨b, 0, none⟩ ∧ b < W.heap.size) ∧ (∀ j, j < n → W.cell? ⟨b, j * 2, none⟩ = some (.int .i64 (k j))) ∧ ∀ j, j < n → W.cell? ⟨b, j * 2 + 1, none⟩ = some (.int .u64 (x j))
theorem Cv.of {W : World} {B n : Nat} {v : Value} {k x : Nat → Int} (h : W.ownsRow B 56 2 v n (vals2 k x n)) : Cv W v n k x := by
 rcases h.2 with ⟨e, h0⟩ | ⟨g, cap, cur, e, hb, hc, hnc, _, hsz, htk⟩
 ·exact ⟨none, 0, 0, by rw [e, h0], by omega, fun q => by omega, fun j hj => by omega, fun j hj => by omega⟩
 ·refine ⟨_, cap, g, e, hnc, fun _ => ⟨rfl, block_lt hc⟩, fun j hj => ?_, fun j hj => ?_⟩
  ·have h2 := vals2_k (k := k) (v := x) hj
   rw [← htk, List.getElem?_take, if_pos (by omega)] at h2
   rw [block_cell hc]
   simpa using h2
  ·have h2 := vals2_v (k := k) (v := x) hj
   rw [← htk, List.getElem?_take, if_pos (by omega)] at h2
   rw [block_cell hc]
   simpa using h2
theorem Cv.next {W W' : World} {v : Value} {n : Nat} {k x : Nat → Int} (h : Cv W v n k x) (hb : Below W.heap.size W W') : Cv W' v n k x := by
 obtain ⟨ao, cap, b, e, hc, h1, h2, h3⟩ := h.ex
 exact ⟨ao, cap, b, e, hc, fun q => ⟨(h1 q).1, Nat.lt_of_lt_of_le (h1 q).2 hb.size⟩, fun j hj => (hb.cell (p := ⟨b, _, none⟩) (h1 (by omega)).2).trans (h2 j hj), fun j hj => (hb.cell (p := ⟨b, _, none⟩) (h1 (by omega)).2).trans (h3 j hj)⟩
set_option maxRecDepth 10000 in
set_option maxHeartbeats 1600000 in
theorem sameValuesT {W : World} {v1 v2 : Value} {n : Nat} {k x : Nat → Int} (h1 : Cv W v1 n k x) (h2 : Cv W v2 n k x) (hn : n ≤ 1048576) :
  Calls Tryd.prog 48 #[v1, v2] W fun e w' => e = .returned (.bool true) ∧ Hid (Below W.heap.size W w') := by
 obtain ⟨a1, c1, b1, rfl, _, g1, k1, x1⟩ := h1.ex
 obtain ⟨a2, c2, b2, rfl, _, g2, k2, x2⟩ := h2.ex
 have H1 := hide g1
 have H2 := hide g2
 have K1 := hide k1
 have K2 := hide k2
 have X1 := hide x1
 have X2 := hide x2
 clear h1 h2 g1 g2 k1 k2 x1 x2
 go_enter Tryd.func48, Tryd.ntmps48
 go_upto_region 4 with fail
 go_loopw [5] (fun i wr => ∃ j : Nat, j ≤ n ∧ i = .int .i64 (j : Nat) ∧ Hid (Below W.heap.size W wr)) (fun i _ => n - (intOf i).toNat)
 case atStart => exact ⟨0, by omega, rfl, Below.refl _ _⟩
 case round =>
  obtain ⟨j, hj, rfl, HB⟩ := hrel
  by_cases hlt : j < n
  ·obtain ⟨e1, l1⟩ := H1.out (by omega)
   obtain ⟨e2, l2⟩ := H2.out (by omega)
   have y1 : wr.cell? ⟨b1, j * 2, none⟩ = some (.int .i64 (k j)) := (HB.out.cell (p := ⟨b1, _, none⟩) l1).trans (K1.out j hlt)
   have y2 : wr.cell? ⟨b2, j * 2, none⟩ = some (.int .i64 (k j)) := (HB.out.cell (p := ⟨b2, _, none⟩) l2).trans (K2.out j hlt)
   have z1 : wr.cell? ⟨b1, j * 2 + 1, none⟩ = some (.int .u64 (x j)) := (HB.out.cell (p := ⟨b1, _, none⟩) l1).trans (X1.out j hlt)
   have z2 : wr.cell? ⟨b2, j * 2 + 1, none⟩ = some (.int .u64 (x j)) := (HB.out.cell (p := ⟨b2, _, none⟩) l2).trans (X2.out j hlt)
   have q1 : b1 < wr.heap.size := Nat.lt_of_lt_of_le l1 HB.out.size
   have q2 : b2 < wr.heap.size := Nat.lt_of_lt_of_le l2 HB.out.size
   have HD : Hid (Below W.heap.size W wr.drew) := HB.out.drew
   subst e1
   subst e2
   clear l1 l2 HB
   generalize k j = kj at *
   generalize x j = xj at *
   go_upto_region 6 with fail
   go_region
   go_wp2
   go_roundw
   case rel => exact ⟨j + 1, by omega, by go_num, HD.out⟩
   case measure => simp [intOf]; omega
  ·obtain rfl : j = n := by omega
   go_wp2
   go_ret
   exact ⟨rfl, HB⟩
end Go.Proofs.YtmoklddfaocihaaDoor
namespace Go.Proofs.YtmoklddfaocihaaDoor
open Go.RowKit

def set8 (w : World) (q : Nat) (v0 v1 v2 v3 v4 v5 v6 v7 : Value) : World := (((((((w.setCell ⟨q, 0, none⟩ v0).setCell ⟨q, 1, none⟩ v1).setCell ⟨q, 2, none⟩ v2).setCell ⟨q, 3, none⟩ v3).setCell ⟨q, 4, none⟩ v4).setCell ⟨q, 5, none⟩ v5).setCell ⟨q, 6, none⟩ v6).setCell ⟨q, 7, none⟩ v7
theorem set8_blk {w wf : World} {q : Nat} {cs : Array Value} {t : TypeId} {v0 v1 v2 v3 v4 v5 v6 v7 : Value} (h : w.heap[q]? = some (.cells cs t (0, 0))) (hs : cs.size = 8) (e : set8 w q v0 v1 v2 v3 v4 v5 v6 v7 = wf) : w.grownBy wf (some q) ∧ wf.heap[q]? = some (.cells #[v0, v1, v2, v3, v4, v5, v6, v7] t (0, 0)) := by
 subst e
 refine ⟨grown_tr (grown_tr (grown_tr (grown_tr (grown_tr (grown_tr (grown_tr (grown_setT w q 0 v0) (grown_setT _ q 1 v1)) (grown_setT _ q 2 v2)) (grown_setT _ q 3 v3)) (grown_setT _ q 4 v4)) (grown_setT _ q 5 v5)) (grown_setT _ q 6 v6)) (grown_setT _ q 7 v7), ?_⟩
 obtain ⟨l⟩ := cs
 simp only [List.size_toArray] at hs
 match l, hs with
 | [a, b, c, d, e, f, g, h2], _ => simp [set8, World.setCell, Array.getElem?_modify, h]
theorem sl64 (mb hh : Nat) (h : hh ≤ 64) (w : World) : (Instr.sliceAt 59 (.pointer (some ⟨mb, 277, none⟩)) none (some (.int .i64 (hh : Nat))) none).run Tryd.prog w = .ok (.slice (some ⟨mb, 277, none⟩) hh 64) w := by
 have hal : Tryd.prog.arrayLen 59 = 64 := by kernel_rfl
 have hz : (sizeOf (Tryd.prog.elem 59)).run Tryd.prog w = .ok 2 w := by kernel_rfl
 rw [run_sliceAt_array_h w _ _ (by kernel_rfl) .i64 (hh : Int) (by omega) (by rw [hal]; omega), hal, hz]
 simp [slicedAt, Addr.add]
theorem sl128 (mb hh : Nat) (h : hh ≤ 128) (w : World) : (Instr.sliceAt 58 (.pointer (some ⟨mb, 20, none⟩)) none (some (.int .i64 (hh : Nat))) none).run Tryd.prog w = .ok (.slice (some ⟨mb, 20, none⟩) hh 128) w := by
 have hal : Tryd.prog.arrayLen 58 = 128 := by kernel_rfl
 have hz : (sizeOf (Tryd.prog.elem 58)).run Tryd.prog w = .ok 2 w := by kernel_rfl
 rw [run_sliceAt_array_h w _ _ (by kernel_rfl) .i64 (hh : Int) (by omega) (by rw [hal]; omega), hal, hz]
 simp [slicedAt, Addr.add]
/-- What State tells. -/
def stA (s : Ms) (v1 v2 : Value) : Array Value := #[.int .i64 s.pc, v1, v2, .int .u64 s.left, .int .u64 (s.paid 0), .int .u64 (s.paid 1), .int .u64 (s.paid 2), .bool s.ov]
set_option maxRecDepth 10000 in
set_option maxHeartbeats 6400000 in
theorem stateC {c : Mc} {mb : Nat} {s : Ms} {w : World} (h : Pm c mb s w) (h64 : s.h ≤ 64) (hmn : c.many ≤ 128) : Calls Tryd.prog 47 #[.pointer (some ⟨mb, 0, none⟩)] w fun e w' => ∃ a1 d1 a2 d2, e = .returned (.agg (stA s (.slice a1 s.h d1) (.slice a2 c.many d2))) ∧ Hid (w'.ownsRow w.heap.size 56 2 (.slice a1 s.h d1) s.h (vals2 s.sk s.sv s.h) ∧ w'.ownsRow w.heap.size 56 2 (.slice a2 c.many d2) c.many (vals2 c.kd s.slt c.many) ∧ (∀ q1 q2, (Value.slice a1 s.h d1).ownBlock = some q1 → (Value.slice a2 c.many d2).ownBlock = some q2 → q1 < q2) ∧ Below w.heap.size w w') := by
 obtain ⟨W1, hW1⟩ : ∃ W1, w.alloc (.cells #[.int .i64 0, .slice none 0 0, .slice none 0 0, .int .u64 0, .int .u64 0, .int .u64 0, .int .u64 0, .bool false] 65) = W1 := ⟨_, rfl⟩
 have B1 : Below w.heap.size w W1 := by rw [← hW1]; exact below_alloc1 w _
 have A1 : W1.heap[w.heap.size]? = some (.cells #[.int .i64 0, .slice none 0 0, .slice none 0 0, .int .u64 0, .int .u64 0, .int .u64 0, .int .u64 0, .bool false] 65 (0, 0)) := by rw [← hW1]; exact alloc_atK _ _
 have S1 : W1.heap.size = w.heap.size + 1 := by rw [← hW1]; simp
 have h1 := h.below B1
 have hlt := h.lt
 have HW1 := hide hW1
 obtain ⟨at0, hat⟩ : ∃ x, s.pc = x := ⟨_, rfl⟩
 obtain ⟨hh, hhh⟩ : ∃ x, s.h = x := ⟨_, rfl⟩
 obtain ⟨mn, hmn2⟩ : ∃ x, c.many = x := ⟨_, rfl⟩
 obtain ⟨lf, hlf⟩ : ∃ x, s.left = x := ⟨_, rfl⟩
 obtain ⟨p0, hp0⟩ : ∃ x, s.paid 0 = x := ⟨_, rfl⟩
 obtain ⟨p1, hp1⟩ : ∃ x, s.paid 1 = x := ⟨_, rfl⟩
 obtain ⟨p2, hp2⟩ : ∃ x, s.paid 2 = x := ⟨_, rfl⟩
 obtain ⟨ov, hov⟩ : ∃ x, s.ov = x := ⟨_, rfl⟩
 have HO : ∀ v1 v2, stA s v1 v2 = #[.int .i64 at0, v1, v2, .int .u64 lf, .int .u64 p0, .int .u64 p1, .int .u64 p2, .bool ov] := fun v1 v2 => by
  unfold stA
  rw [hat, hlf, hp0, hp1, hp2, hov]
 have HSP : Hid (∀ w', Pm c mb s w' → (fun (w : World) => (w.cell? ⟨mb, 406, none⟩ = some (.int .i64 at0) ∧ w.cell? ⟨mb, 405, none⟩ = some (.int .i64 (hh : Nat)) ∧ w.cell? ⟨mb, 276, none⟩ = some (.int .i64 (mn : Nat)) ∧ w.cell? ⟨mb, 407, none⟩ = some (.int .u64 lf)) ∧ (w.cell? ⟨mb, 408, none⟩ = some (.int .u64 p0) ∧ w.cell? ⟨mb, 409, none⟩ = some (.int .u64 p1) ∧ w.cell? ⟨mb, 410, none⟩ = some (.int .u64 p2) ∧ w.cell? ⟨mb, 411, none⟩ = some (.bool ov)) ∧ mb < w.heap.size) w') := fun w' q => by
  rw [← hat, ← hhh, ← hmn2, ← hlf, ← hp0, ← hp1, ← hp2, ← hov]
  exact ⟨⟨q.cell (i := 406) (by decide), q.cell (i := 405) (by decide), q.cell (i := 276) (by decide), q.cell (i := 407) (by decide)⟩, ⟨q.cell (i := 408) (by decide), q.cell (i := 409) (by decide), q.cell (i := 410) (by decide), q.cell (i := 411) (by decide)⟩, q.lt⟩
 have HS : Hid (∀ w' : World, Below W1.heap.size W1 w' → (fun (w : World) => (w.cell? ⟨mb, 406, none⟩ = some (.int .i64 at0) ∧ w.cell? ⟨mb, 405, none⟩ = some (.int .i64 (hh : Nat)) ∧ w.cell? ⟨mb, 276, none⟩ = some (.int .i64 (mn : Nat)) ∧ w.cell? ⟨mb, 407, none⟩ = some (.int .u64 lf)) ∧ (w.cell? ⟨mb, 408, none⟩ = some (.int .u64 p0) ∧ w.cell? ⟨mb, 409, none⟩ = some (.int .u64 p1) ∧ w.cell? ⟨mb, 410, none⟩ = some (.int .u64 p2) ∧ w.cell? ⟨mb, 411, none⟩ = some (.bool ov)) ∧ mb < w.heap.size) w') := fun w' hb => HSP.out w' (h1.below hb)
 have HSG : Hid (∀ w' wf : World, Below W1.heap.size W1 w' → w'.grownBy wf (some w.heap.size) → (fun (w : World) => (w.cell? ⟨mb, 406, none⟩ = some (.int .i64 at0) ∧ w.cell? ⟨mb, 405, none⟩ = some (.int .i64 (hh : Nat)) ∧ w.cell? ⟨mb, 276, none⟩ = some (.int .i64 (mn : Nat)) ∧ w.cell? ⟨mb, 407, none⟩ = some (.int .u64 lf)) ∧ (w.cell? ⟨mb, 408, none⟩ = some (.int .u64 p0) ∧ w.cell? ⟨mb, 409, none⟩ = some (.int .u64 p1) ∧ w.cell? ⟨mb, 410, none⟩ = some (.int .u64 p2) ∧ w.cell? ⟨mb, 411, none⟩ = some (.bool ov)) ∧ mb < w.heap.size) wf) := fun w' wf hb hg => HSP.out wf ((h1.below hb).grown hg (by simp; omega))
 have hc277 : ∀ w' : World, Pm c mb s w' → (∀ j, j < hh → w'.cell? ⟨mb, 277 + j * 2, none⟩ = some (.int .i64 (s.sk j))) ∧ ∀ j, j < hh → w'.cell? ⟨mb, 277 + j * 2 + 1, none⟩ = some (.int .u64 (s.sv j)) := fun w' q => by
  refine ⟨fun j hj => ?_, fun j hj => ?_⟩
  ·rw [q.cell (i := 277 + j * 2) (by omega)]
   unfold fcell
   rw [if_neg (by omega), if_neg (by omega), if_neg (by omega), if_pos (by omega), if_pos (by omega), show (277 + j * 2 - 277) / 2 = j by omega]
  ·rw [q.cell (i := 277 + j * 2 + 1) (by omega)]
   unfold fcell
   rw [if_neg (by omega), if_neg (by omega), if_neg (by omega), if_pos (by omega), if_neg (by omega), show (277 + j * 2 + 1 - 277) / 2 = j by omega]
 have hc20 : ∀ w' : World, Pm c mb s w' → (∀ j, j < mn → w'.cell? ⟨mb, 20 + j * 2, none⟩ = some (.int .i64 (c.kd j))) ∧ ∀ j, j < mn → w'.cell? ⟨mb, 20 + j * 2 + 1, none⟩ = some (.int .u64 (s.slt j)) := fun w' q => by
  refine ⟨fun j hj => ?_, fun j hj => ?_⟩
  ·rw [q.cell (i := 20 + j * 2) (by omega)]
   unfold fcell
   rw [if_neg (by omega), if_pos (by omega), if_pos (by omega), show (20 + j * 2 - 20) / 2 = j by omega]
  ·rw [q.cell (i := 20 + j * 2 + 1) (by omega)]
   unfold fcell
   rw [if_neg (by omega), if_pos (by omega), if_neg (by omega), show (20 + j * 2 + 1 - 20) / 2 = j by omega]
 have HC1 : Hid (∀ w1 : World, Below W1.heap.size W1 w1 → Calls Tryd.prog 74 #[.slice (some ⟨mb, 277, none⟩) hh 64] w1 fun e w' => ∃ a1 d1, e = .returned (.slice a1 hh d1) ∧ Hid (w'.ownsRow W1.heap.size 56 2 (.slice a1 hh d1) hh (vals2 s.sk s.sv hh) ∧ Below W1.heap.size W1 w' ∧ w1.heap.size ≤ w'.heap.size)) := fun w1 hb => by
  have q := h1.below hb
  refine (copiedV (n := hh) (fun _ => ⟨rfl, q.lt⟩) (hc277 w1 q).1 (hc277 w1 q).2 (by omega)).mono ?_
  rintro y w' ⟨v, rfl, g⟩
  obtain ⟨va, vp, rfl⟩ := own_val2 g.out.1
  exact ⟨va, vp, rfl, own_low g.out.1 hb.size, hb.trans (g.out.2.mono hb.size), g.out.2.size⟩
 have HC2 : Hid (∀ w1 : World, Below W1.heap.size W1 w1 → Calls Tryd.prog 74 #[.slice (some ⟨mb, 20, none⟩) mn 128] w1 fun e w' => ∃ a2 d2, e = .returned (.slice a2 mn d2) ∧ Hid (w'.ownsRow w1.heap.size 56 2 (.slice a2 mn d2) mn (vals2 c.kd s.slt mn) ∧ Below W1.heap.size W1 w' ∧ Below w1.heap.size w1 w')) := fun w1 hb => by
  have q := h1.below hb
  refine (copiedV (n := mn) (fun _ => ⟨rfl, q.lt⟩) (hc20 w1 q).1 (hc20 w1 q).2 (by omega)).mono ?_
  rintro y w' ⟨v, rfl, g⟩
  obtain ⟨va, vp, rfl⟩ := own_val2 g.out.1
  exact ⟨va, vp, rfl, g.out.1, hb.trans (g.out.2.mono hb.size), g.out.2⟩
 have c0 : W1.cell? ⟨mb, 0, none⟩ = some (.bool true) := h1.cell (i := 0) (by decide)
 have ml := h1.lt
 have HA1 := hide A1
 have HB1 := hide B1
 have HSZ := hide S1
 rw [hhh] at h64 ⊢
 rw [hmn2] at hmn ⊢
 have HOH := hide HO
 have L1 := sl64 mb hh h64
 have L2 := sl128 mb mn hmn
 have hmw : ¬ mb = w.heap.size := by omega
 clear h h1 hW1 A1 B1 S1 HO hat hhh hmn2 hlf hp0 hp1 hp2 hov hc277 hc20 HSP hlt
 go_enter Tryd.func47, Tryd.ntmps47
 go_upto_region 1 with fail
 rw [HW1.out]
 clear HW1
 go_upto_region 3 with fail
 clear c0 ml
 obtain ⟨wz, hwz⟩ : ∃ wz, (W1).drew = wz := ⟨_, rfl⟩
 have HS9 : Hid ((fun (w : World) => (w.cell? ⟨mb, 406, none⟩ = some (.int .i64 at0) ∧ w.cell? ⟨mb, 405, none⟩ = some (.int .i64 (hh : Nat)) ∧ w.cell? ⟨mb, 276, none⟩ = some (.int .i64 (mn : Nat)) ∧ w.cell? ⟨mb, 407, none⟩ = some (.int .u64 lf)) ∧ (w.cell? ⟨mb, 408, none⟩ = some (.int .u64 p0) ∧ w.cell? ⟨mb, 409, none⟩ = some (.int .u64 p1) ∧ w.cell? ⟨mb, 410, none⟩ = some (.int .u64 p2) ∧ w.cell? ⟨mb, 411, none⟩ = some (.bool ov)) ∧ mb < w.heap.size) wz) := by rw [← hwz]; exact HS.out _ (Below.refl _ _).drew
 refine wp_region_L 99 (fun _ => True) (fun (w : World) => (w.cell? ⟨mb, 406, none⟩ = some (.int .i64 at0) ∧ w.cell? ⟨mb, 405, none⟩ = some (.int .i64 (hh : Nat)) ∧ w.cell? ⟨mb, 276, none⟩ = some (.int .i64 (mn : Nat)) ∧ w.cell? ⟨mb, 407, none⟩ = some (.int .u64 lf)) ∧ (w.cell? ⟨mb, 408, none⟩ = some (.int .u64 p0) ∧ w.cell? ⟨mb, 409, none⟩ = some (.int .u64 p1) ∧ w.cell? ⟨mb, 410, none⟩ = some (.int .u64 p2) ∧ w.cell? ⟨mb, 411, none⟩ = some (.bool ov)) ∧ mb < w.heap.size) (by kernel_rfl) trivial (by rw [hwz]; exact HS9.out) (fun hS0 => ?_)
 rw [hwz] at hS0 ⊢
 refine wpAnyL_take (i := 0) (oi := ⟨some 13, .move (.tmp 0), 54, "machine.go:80", #[], none⟩) (v := .pointer (some ⟨mb, 0, none⟩)) rfl (by decide) (by kernel_rfl) (by kernel_rfl) (by kernel_rfl) (fun _ _ _ h => h) (Or.inl ⟨by rfl, fun w2 hSw => ?_⟩) hS0 (fun hS1 => ?_)
 ·go_simp
 simp only [Act.put, lsA, lsB, lsC]
 clear hS0
 refine wpAnyL_take (i := 1) (oi := ⟨some 14, .nilCheck (.tmp 13), 0, "machine.go:80", #[⟨0, .data⟩], none⟩) (v := .pointer (some ⟨mb, 0, none⟩)) rfl (by decide) (by kernel_rfl) (by kernel_rfl) (by kernel_rfl) (fun _ _ _ h => h) (Or.inl ⟨by rfl, fun w2 hSw => ?_⟩) hS1 (fun hS2 => ?_)
 ·obtain ⟨⟨k1, k2, k3, k4⟩, ⟨k5, k6, k7, k8⟩, kl⟩ := hSw
  go_simp
 simp only [Act.put, lsA, lsB, lsC]
 clear hS1
 refine wpAnyL_take (i := 2) (oi := ⟨some 15, .fieldAddr 61 (.tmp 14) 9, 0, "machine.go:80", #[⟨1, .data⟩], none⟩) (v := .pointer (some ⟨mb, 406, none⟩)) rfl (by decide) (by kernel_rfl) (by kernel_rfl) (by kernel_rfl) (fun _ _ _ h => h) (Or.inl ⟨by rfl, fun w2 hSw => ?_⟩) hS2 (fun hS3 => ?_)
 ·go_simp
 simp only [Act.put, lsA, lsB, lsC]
 clear hS2
 refine wpAnyL_take (i := 3) (oi := ⟨some 16, .load 3 (.tmp 15), 3, "machine.go:80", #[⟨2, .data⟩], none⟩) (v := .int .i64 at0) rfl (by decide) (by kernel_rfl) (by kernel_rfl) (by kernel_rfl) (fun _ _ _ h => h) (Or.inl ⟨by rfl, fun w2 hSw => ?_⟩) hS3 (fun hS4 => ?_)
 ·obtain ⟨⟨k1, k2, k3, k4⟩, ⟨k5, k6, k7, k8⟩, kl⟩ := hSw
  go_simp
 simp only [Act.put, lsA, lsB, lsC]
 clear hS3
 refine wpAnyL_take (i := 4) (oi := ⟨some 17, .move (.tmp 0), 54, "machine.go:80", #[], none⟩) (v := .pointer (some ⟨mb, 0, none⟩)) rfl (by decide) (by kernel_rfl) (by kernel_rfl) (by kernel_rfl) (fun _ _ _ h => h) (Or.inl ⟨by rfl, fun w2 hSw => ?_⟩) hS4 (fun hS5 => ?_)
 ·go_simp
 simp only [Act.put, lsA, lsB, lsC]
 clear hS4
 refine wpAnyL_take (i := 5) (oi := ⟨some 18, .nilCheck (.tmp 17), 0, "machine.go:80", #[⟨4, .data⟩], none⟩) (v := .pointer (some ⟨mb, 0, none⟩)) rfl (by decide) (by kernel_rfl) (by kernel_rfl) (by kernel_rfl) (fun _ _ _ h => h) (Or.inl ⟨by rfl, fun w2 hSw => ?_⟩) hS5 (fun hS6 => ?_)
 ·obtain ⟨⟨k1, k2, k3, k4⟩, ⟨k5, k6, k7, k8⟩, kl⟩ := hSw
  go_simp
 simp only [Act.put, lsA, lsB, lsC]
 clear hS5
 refine wpAnyL_take (i := 6) (oi := ⟨some 19, .fieldAddr 61 (.tmp 18) 7, 0, "machine.go:80", #[⟨5, .data⟩], none⟩) (v := .pointer (some ⟨mb, 277, none⟩)) rfl (by decide) (by kernel_rfl) (by kernel_rfl) (by kernel_rfl) (fun _ _ _ h => h) (Or.inl ⟨by rfl, fun w2 hSw => ?_⟩) hS6 (fun hS7 => ?_)
 ·go_simp
 simp only [Act.put, lsA, lsB, lsC]
 clear hS6
 refine wpAnyL_take (i := 7) (oi := ⟨some 20, .move (.tmp 0), 54, "machine.go:80", #[], none⟩) (v := .pointer (some ⟨mb, 0, none⟩)) rfl (by decide) (by kernel_rfl) (by kernel_rfl) (by kernel_rfl) (fun _ _ _ h => h) (Or.inl ⟨by rfl, fun w2 hSw => ?_⟩) hS7 (fun hS8 => ?_)
 ·go_simp
 simp only [Act.put, lsA, lsB, lsC]
 clear hS7
 refine wpAnyL_take (i := 8) (oi := ⟨some 21, .nilCheck (.tmp 20), 0, "machine.go:80", #[⟨7, .data⟩], none⟩) (v := .pointer (some ⟨mb, 0, none⟩)) rfl (by decide) (by kernel_rfl) (by kernel_rfl) (by kernel_rfl) (fun _ _ _ h => h) (Or.inl ⟨by rfl, fun w2 hSw => ?_⟩) hS8 (fun hS9 => ?_)
 ·obtain ⟨⟨k1, k2, k3, k4⟩, ⟨k5, k6, k7, k8⟩, kl⟩ := hSw
  go_simp
 simp only [Act.put, lsA, lsB, lsC]
 clear hS8
 refine wpAnyL_take (i := 9) (oi := ⟨some 22, .fieldAddr 61 (.tmp 21) 8, 0, "machine.go:80", #[⟨8, .data⟩], none⟩) (v := .pointer (some ⟨mb, 405, none⟩)) rfl (by decide) (by kernel_rfl) (by kernel_rfl) (by kernel_rfl) (fun _ _ _ h => h) (Or.inl ⟨by rfl, fun w2 hSw => ?_⟩) hS9 (fun hS10 => ?_)
 ·go_simp
 simp only [Act.put, lsA, lsB, lsC]
 clear hS9
 refine wpAnyL_take (i := 10) (oi := ⟨some 23, .load 3 (.tmp 22), 3, "machine.go:80", #[⟨9, .data⟩], none⟩) (v := .int .i64 (hh : Nat)) rfl (by decide) (by kernel_rfl) (by kernel_rfl) (by kernel_rfl) (fun _ _ _ h => h) (Or.inl ⟨by rfl, fun w2 hSw => ?_⟩) hS10 (fun hS11 => ?_)
 ·obtain ⟨⟨k1, k2, k3, k4⟩, ⟨k5, k6, k7, k8⟩, kl⟩ := hSw
  go_simp
 simp only [Act.put, lsA, lsB, lsC]
 clear hS10
 refine wpAnyL_take (i := 11) (oi := ⟨some 24, .slice 59 (.tmp 19) none (some (.tmp 23)) none, 63, "machine.go:80", #[⟨6, .data⟩, ⟨10, .data⟩], none⟩) (v := .slice (some ⟨mb, 277, none⟩) hh 64) rfl (by decide) (by kernel_rfl) (by kernel_rfl) (by kernel_rfl) (fun _ _ _ h => h) (Or.inl ⟨by rfl, fun w2 hSw => ?_⟩) hS11 (fun hS12 => ?_)
 ·obtain ⟨⟨k1, k2, k3, k4⟩, ⟨k5, k6, k7, k8⟩, kl⟩ := hSw
  go_simp
 simp only [Act.put, lsA, lsB, lsC]
 clear hS11
 refine wpAnyL_take (i := 13) (oi := ⟨some 26, .move (.tmp 0), 54, "machine.go:80", #[], none⟩) (v := .pointer (some ⟨mb, 0, none⟩)) rfl (by decide) (by kernel_rfl) (by kernel_rfl) (by kernel_rfl) (fun _ _ _ h => h) (Or.inl ⟨by rfl, fun w2 hSw => ?_⟩) hS12 (fun hS13 => ?_)
 ·go_simp
 simp only [Act.put, lsA, lsB, lsC]
 clear hS12
 refine wpAnyL_take (i := 14) (oi := ⟨some 27, .nilCheck (.tmp 26), 0, "machine.go:80", #[⟨13, .data⟩], none⟩) (v := .pointer (some ⟨mb, 0, none⟩)) rfl (by decide) (by kernel_rfl) (by kernel_rfl) (by kernel_rfl) (fun _ _ _ h => h) (Or.inl ⟨by rfl, fun w2 hSw => ?_⟩) hS13 (fun hS14 => ?_)
 ·obtain ⟨⟨k1, k2, k3, k4⟩, ⟨k5, k6, k7, k8⟩, kl⟩ := hSw
  go_simp
 simp only [Act.put, lsA, lsB, lsC]
 clear hS13
 refine wpAnyL_take (i := 15) (oi := ⟨some 28, .fieldAddr 61 (.tmp 27) 5, 0, "machine.go:80", #[⟨14, .data⟩], none⟩) (v := .pointer (some ⟨mb, 20, none⟩)) rfl (by decide) (by kernel_rfl) (by kernel_rfl) (by kernel_rfl) (fun _ _ _ h => h) (Or.inl ⟨by rfl, fun w2 hSw => ?_⟩) hS14 (fun hS15 => ?_)
 ·go_simp
 simp only [Act.put, lsA, lsB, lsC]
 clear hS14
 refine wpAnyL_take (i := 16) (oi := ⟨some 29, .move (.tmp 0), 54, "machine.go:80", #[], none⟩) (v := .pointer (some ⟨mb, 0, none⟩)) rfl (by decide) (by kernel_rfl) (by kernel_rfl) (by kernel_rfl) (fun _ _ _ h => h) (Or.inl ⟨by rfl, fun w2 hSw => ?_⟩) hS15 (fun hS16 => ?_)
 ·go_simp
 simp only [Act.put, lsA, lsB, lsC]
 clear hS15
 refine wpAnyL_take (i := 17) (oi := ⟨some 30, .nilCheck (.tmp 29), 0, "machine.go:80", #[⟨16, .data⟩], none⟩) (v := .pointer (some ⟨mb, 0, none⟩)) rfl (by decide) (by kernel_rfl) (by kernel_rfl) (by kernel_rfl) (fun _ _ _ h => h) (Or.inl ⟨by rfl, fun w2 hSw => ?_⟩) hS16 (fun hS17 => ?_)
 ·obtain ⟨⟨k1, k2, k3, k4⟩, ⟨k5, k6, k7, k8⟩, kl⟩ := hSw
  go_simp
 simp only [Act.put, lsA, lsB, lsC]
 clear hS16
 refine wpAnyL_take (i := 18) (oi := ⟨some 31, .fieldAddr 61 (.tmp 30) 6, 0, "machine.go:80", #[⟨17, .data⟩], none⟩) (v := .pointer (some ⟨mb, 276, none⟩)) rfl (by decide) (by kernel_rfl) (by kernel_rfl) (by kernel_rfl) (fun _ _ _ h => h) (Or.inl ⟨by rfl, fun w2 hSw => ?_⟩) hS17 (fun hS18 => ?_)
 ·go_simp
 simp only [Act.put, lsA, lsB, lsC]
 clear hS17
 refine wpAnyL_take (i := 19) (oi := ⟨some 32, .load 3 (.tmp 31), 3, "machine.go:80", #[⟨18, .data⟩], none⟩) (v := .int .i64 (mn : Nat)) rfl (by decide) (by kernel_rfl) (by kernel_rfl) (by kernel_rfl) (fun _ _ _ h => h) (Or.inl ⟨by rfl, fun w2 hSw => ?_⟩) hS18 (fun hS19 => ?_)
 ·obtain ⟨⟨k1, k2, k3, k4⟩, ⟨k5, k6, k7, k8⟩, kl⟩ := hSw
  go_simp
 simp only [Act.put, lsA, lsB, lsC]
 clear hS18
 refine wpAnyL_take (i := 20) (oi := ⟨some 33, .slice 58 (.tmp 28) none (some (.tmp 32)) none, 63, "machine.go:80", #[⟨15, .data⟩, ⟨19, .data⟩], none⟩) (v := .slice (some ⟨mb, 20, none⟩) mn 128) rfl (by decide) (by kernel_rfl) (by kernel_rfl) (by kernel_rfl) (fun _ _ _ h => h) (Or.inl ⟨by rfl, fun w2 hSw => ?_⟩) hS19 (fun hS20 => ?_)
 ·obtain ⟨⟨k1, k2, k3, k4⟩, ⟨k5, k6, k7, k8⟩, kl⟩ := hSw
  go_simp
 simp only [Act.put, lsA, lsB, lsC]
 clear hS19
 refine wpAnyL_take (i := 22) (oi := ⟨some 35, .move (.tmp 0), 54, "machine.go:80", #[], none⟩) (v := .pointer (some ⟨mb, 0, none⟩)) rfl (by decide) (by kernel_rfl) (by kernel_rfl) (by kernel_rfl) (fun _ _ _ h => h) (Or.inl ⟨by rfl, fun w2 hSw => ?_⟩) hS20 (fun hS21 => ?_)
 ·go_simp
 simp only [Act.put, lsA, lsB, lsC]
 clear hS20
 refine wpAnyL_take (i := 23) (oi := ⟨some 36, .nilCheck (.tmp 35), 0, "machine.go:80", #[⟨22, .data⟩], none⟩) (v := .pointer (some ⟨mb, 0, none⟩)) rfl (by decide) (by kernel_rfl) (by kernel_rfl) (by kernel_rfl) (fun _ _ _ h => h) (Or.inl ⟨by rfl, fun w2 hSw => ?_⟩) hS21 (fun hS22 => ?_)
 ·obtain ⟨⟨k1, k2, k3, k4⟩, ⟨k5, k6, k7, k8⟩, kl⟩ := hSw
  go_simp
 simp only [Act.put, lsA, lsB, lsC]
 clear hS21
 refine wpAnyL_take (i := 24) (oi := ⟨some 37, .fieldAddr 61 (.tmp 36) 10, 0, "machine.go:80", #[⟨23, .data⟩], none⟩) (v := .pointer (some ⟨mb, 407, none⟩)) rfl (by decide) (by kernel_rfl) (by kernel_rfl) (by kernel_rfl) (fun _ _ _ h => h) (Or.inl ⟨by rfl, fun w2 hSw => ?_⟩) hS22 (fun hS23 => ?_)
 ·go_simp
 simp only [Act.put, lsA, lsB, lsC]
 clear hS22
 refine wpAnyL_take (i := 25) (oi := ⟨some 38, .load 42 (.tmp 37), 42, "machine.go:80", #[⟨24, .data⟩], none⟩) (v := .int .u64 lf) rfl (by decide) (by kernel_rfl) (by kernel_rfl) (by kernel_rfl) (fun _ _ _ h => h) (Or.inl ⟨by rfl, fun w2 hSw => ?_⟩) hS23 (fun hS24 => ?_)
 ·obtain ⟨⟨k1, k2, k3, k4⟩, ⟨k5, k6, k7, k8⟩, kl⟩ := hSw
  go_simp
 simp only [Act.put, lsA, lsB, lsC]
 clear hS23
 refine wpAnyL_take (i := 26) (oi := ⟨some 39, .move (.tmp 0), 54, "machine.go:80", #[], none⟩) (v := .pointer (some ⟨mb, 0, none⟩)) rfl (by decide) (by kernel_rfl) (by kernel_rfl) (by kernel_rfl) (fun _ _ _ h => h) (Or.inl ⟨by rfl, fun w2 hSw => ?_⟩) hS24 (fun hS25 => ?_)
 ·go_simp
 simp only [Act.put, lsA, lsB, lsC]
 clear hS24
 refine wpAnyL_take (i := 27) (oi := ⟨some 40, .nilCheck (.tmp 39), 0, "machine.go:80", #[⟨26, .data⟩], none⟩) (v := .pointer (some ⟨mb, 0, none⟩)) rfl (by decide) (by kernel_rfl) (by kernel_rfl) (by kernel_rfl) (fun _ _ _ h => h) (Or.inl ⟨by rfl, fun w2 hSw => ?_⟩) hS25 (fun hS26 => ?_)
 ·obtain ⟨⟨k1, k2, k3, k4⟩, ⟨k5, k6, k7, k8⟩, kl⟩ := hSw
  go_simp
 simp only [Act.put, lsA, lsB, lsC]
 clear hS25
 refine wpAnyL_take (i := 28) (oi := ⟨some 41, .fieldAddr 61 (.tmp 40) 11, 0, "machine.go:80", #[⟨27, .data⟩], none⟩) (v := .pointer (some ⟨mb, 408, none⟩)) rfl (by decide) (by kernel_rfl) (by kernel_rfl) (by kernel_rfl) (fun _ _ _ h => h) (Or.inl ⟨by rfl, fun w2 hSw => ?_⟩) hS26 (fun hS27 => ?_)
 ·go_simp
 simp only [Act.put, lsA, lsB, lsC]
 clear hS26
 refine wpAnyL_take (i := 29) (oi := ⟨some 42, .load 46 (.tmp 41), 46, "machine.go:80", #[⟨28, .data⟩], none⟩) (v := .agg #[.int .u64 p0, .int .u64 p1, .int .u64 p2]) rfl (by decide) (by kernel_rfl) (by kernel_rfl) (by kernel_rfl) (fun _ _ _ h => h) (Or.inl ⟨by rfl, fun w2 hSw => ?_⟩) hS27 (fun hS28 => ?_)
 ·obtain ⟨⟨k1, k2, k3, k4⟩, ⟨k5, k6, k7, k8⟩, kl⟩ := hSw
  go_simp
 simp only [Act.put, lsA, lsB, lsC]
 clear hS27
 refine wpAnyL_take (i := 30) (oi := ⟨some 43, .move (.tmp 0), 54, "machine.go:80", #[], none⟩) (v := .pointer (some ⟨mb, 0, none⟩)) rfl (by decide) (by kernel_rfl) (by kernel_rfl) (by kernel_rfl) (fun _ _ _ h => h) (Or.inl ⟨by rfl, fun w2 hSw => ?_⟩) hS28 (fun hS29 => ?_)
 ·go_simp
 simp only [Act.put, lsA, lsB, lsC]
 clear hS28
 refine wpAnyL_take (i := 31) (oi := ⟨some 44, .nilCheck (.tmp 43), 0, "machine.go:80", #[⟨30, .data⟩], none⟩) (v := .pointer (some ⟨mb, 0, none⟩)) rfl (by decide) (by kernel_rfl) (by kernel_rfl) (by kernel_rfl) (fun _ _ _ h => h) (Or.inl ⟨by rfl, fun w2 hSw => ?_⟩) hS29 (fun hS30 => ?_)
 ·obtain ⟨⟨k1, k2, k3, k4⟩, ⟨k5, k6, k7, k8⟩, kl⟩ := hSw
  go_simp
 simp only [Act.put, lsA, lsB, lsC]
 clear hS29
 refine wpAnyL_take (i := 32) (oi := ⟨some 45, .fieldAddr 61 (.tmp 44) 12, 0, "machine.go:80", #[⟨31, .data⟩], none⟩) (v := .pointer (some ⟨mb, 411, none⟩)) rfl (by decide) (by kernel_rfl) (by kernel_rfl) (by kernel_rfl) (fun _ _ _ h => h) (Or.inl ⟨by rfl, fun w2 hSw => ?_⟩) hS30 (fun hS31 => ?_)
 ·go_simp
 simp only [Act.put, lsA, lsB, lsC]
 clear hS30
 refine wpAnyL_take (i := 33) (oi := ⟨some 46, .load 4 (.tmp 45), 4, "machine.go:80", #[⟨32, .data⟩], none⟩) (v := .bool ov) rfl (by decide) (by kernel_rfl) (by kernel_rfl) (by kernel_rfl) (fun _ _ _ h => h) (Or.inl ⟨by rfl, fun w2 hSw => ?_⟩) hS31 (fun hS32 => ?_)
 ·obtain ⟨⟨k1, k2, k3, k4⟩, ⟨k5, k6, k7, k8⟩, kl⟩ := hSw
  go_simp
 simp only [Act.put, lsA, lsB, lsC]
 clear hS31
 clear hS32
 refine wpAnyL_one (i := 12) (o := ⟨some 25, .call { callee := Callee.value (.func 74), args := #[.tmp 24], argTypes := #[63] }, 63, "machine.go:82", #[⟨11, .data⟩], none⟩) (by kernel_rfl) rfl (fun K hK => ?_)
 go_simp
 go_wp2_with fail
 have B0 : Hid (Below W1.heap.size W1 wz) := by rw [← hwz]; exact (Below.refl _ _).drew
 refine (HC1.out wz B0.out).mono ?_
 rintro e w5 ⟨a1, d1, rfl, G5⟩
 go_simp
 refine hK.out _ _ ⟨fun _ => trivial, HS.out _ G5.out.2.1⟩ ?_
 clear hK K
 refine wpAnyL_one (i := 21) (o := ⟨some 34, .call { callee := Callee.value (.func 74), args := #[.tmp 33], argTypes := #[63] }, 63, "machine.go:83", #[⟨20, .data⟩, ⟨12, .chain⟩], none⟩) (by kernel_rfl) rfl (fun K hK => ?_)
 go_simp
 go_wp2_with fail
 refine (HC2.out w5 G5.out.2.1).mono ?_
 rintro e w6 ⟨a2, d2, rfl, G6⟩
 go_simp
 refine hK.out _ _ ⟨fun _ => trivial, HS.out _ G6.out.2.1⟩ ?_
 clear hK K
 refine wpAnyL_take (i := 34) (oi := ⟨some 47, .build 65 #[(0, .tmp 16), (1, .tmp 25), (2, .tmp 34), (3, .tmp 38), (4, .tmp 42), (5, .tmp 46)], 65, "machine.go:80", #[⟨3, .data⟩, ⟨12, .data⟩, ⟨21, .data⟩, ⟨25, .data⟩, ⟨29, .data⟩, ⟨33, .data⟩], none⟩) (v := .agg #[.int .i64 at0, .slice a1 hh d1, .slice a2 mn d2, .int .u64 lf, .int .u64 p0, .int .u64 p1, .int .u64 p2, .bool ov]) rfl (by decide) (by kernel_rfl) (by kernel_rfl) (by kernel_rfl) (fun _ _ _ h => h) (Or.inl ⟨by rfl, fun w2 hSw => ?_⟩) ⟨fun _ => trivial, HS.out _ G6.out.2.1⟩ (fun hS50 => ?_)
 ·go_simp
 simp only [Act.put, lsA, lsB, lsC]
 clear hS50
 have HFX := hide ((G6.out.2.1.block _ (block_lt HA1.out)).trans HA1.out)
 have v0 := block_cell HFX.out 0
 have f0 := block_free HFX.out 0
 have v1 := block_cell HFX.out 1
 have f1 := block_free HFX.out 1
 have v2 := block_cell HFX.out 2
 have f2 := block_free HFX.out 2
 have v3 := block_cell HFX.out 3
 have f3 := block_free HFX.out 3
 have v4 := block_cell HFX.out 4
 have f4 := block_free HFX.out 4
 have v5 := block_cell HFX.out 5
 have f5 := block_free HFX.out 5
 have v6 := block_cell HFX.out 6
 have f6 := block_free HFX.out 6
 have v7 := block_cell HFX.out 7
 have f7 := block_free HFX.out 7
 have vl := block_lt HFX.out
 simp at v0 v1 v2 v3 v4 v5 v6 v7
 have HGS : Hid (∀ wf, set8 w6 w.heap.size (.int .i64 at0) (.slice a1 hh d1) (.slice a2 mn d2) (.int .u64 lf) (.int .u64 p0) (.int .u64 p1) (.int .u64 p2) (.bool ov) = wf → w6.grownBy wf (some w.heap.size) ∧ wf.heap[w.heap.size]? = some (.cells #[.int .i64 at0, .slice a1 hh d1, .slice a2 mn d2, .int .u64 lf, .int .u64 p0, .int .u64 p1, .int .u64 p2, .bool ov] 65 (0, 0))) := fun wf e => set8_blk HFX.out rfl e
 have HSF := hide (HSG.out _ _ G6.out.2.1 (HGS.out _ rfl).1)
 refine wpAnyL_one (i := 35) (o := ⟨none, .store 65 (.tmp 2) (.tmp 47), 0, "machine.go:80", #[⟨34, .data⟩, ⟨21, .chain⟩, ⟨0, .phase⟩, ⟨1, .phase⟩, ⟨2, .phase⟩, ⟨3, .phase⟩, ⟨4, .phase⟩, ⟨5, .phase⟩, ⟨6, .phase⟩, ⟨7, .phase⟩, ⟨8, .phase⟩, ⟨9, .phase⟩, ⟨10, .phase⟩, ⟨11, .phase⟩, ⟨12, .phase⟩, ⟨13, .phase⟩, ⟨14, .phase⟩, ⟨15, .phase⟩, ⟨16, .phase⟩, ⟨17, .phase⟩, ⟨18, .phase⟩, ⟨19, .phase⟩, ⟨20, .phase⟩, ⟨21, .phase⟩, ⟨22, .phase⟩, ⟨23, .phase⟩, ⟨24, .phase⟩, ⟨25, .phase⟩, ⟨26, .phase⟩, ⟨27, .phase⟩, ⟨28, .phase⟩, ⟨29, .phase⟩, ⟨30, .phase⟩, ⟨31, .phase⟩, ⟨32, .phase⟩, ⟨33, .phase⟩, ⟨34, .phase⟩], none⟩) (by kernel_rfl) rfl (fun K hK => ?_)
 go_simp
 go_wp2_with fail
 refine hK.out _ _ ⟨fun _ => trivial, by first | exact HSF.out⟩ ?_
 clear hK K
 refine wpAnyL_done (by kernel_rfl) ?_ _
 clear HS9

 generalize hwf : World.setCell _ _ _ = wf
 obtain ⟨g1, g2⟩ := HGS.out wf hwf
 have HE : Hid (wf.ownsRow w.heap.size 56 2 (.slice a1 hh d1) hh (vals2 s.sk s.sv hh) ∧ wf.ownsRow w.heap.size 56 2 (.slice a2 mn d2) mn (vals2 c.kd s.slt mn) ∧ (∀ q1 q2, (Value.slice a1 hh d1).ownBlock = some q1 → (Value.slice a2 mn d2).ownBlock = some q2 → q1 < q2) ∧ Below w.heap.size w wf) := by
  have o1 := own_keep G5.out.1 G6.out.2.2
  have sz : W1.heap.size = w.heap.size + 1 := HSZ.out
  refine ⟨own_low (own_offT o1 HFX.out (by decide) g1) (by omega), own_low (own_offT G6.out.1 HFX.out (by decide) g1) (by have := G5.out.2.1.size; omega), fun q1 q2 e1 e2 => ?_, ?_⟩
  ·have l1 := (G5.out.1.lt q1 e1).2
   have l2 := (G6.out.1.lt q2 e2).1
   omega
  ·exact (HB1.out.trans (G6.out.2.1.mono HB1.out.size)).grown g1 (Nat.le_trans HB1.out.size G6.out.2.1.size) (fun q e => by cases e; exact Nat.le_refl _)
 have c0 := block_cell g2 0
 have c1 := block_cell g2 1
 have c2 := block_cell g2 2
 have c3 := block_cell g2 3
 have c4 := block_cell g2 4
 have c5 := block_cell g2 5
 have c6 := block_cell g2 6
 have c7 := block_cell g2 7
 simp at c0 c1 c2 c3 c4 c5 c6 c7
 clear g1 g2 v0 v1 v2 v3 v4 v5 v6 v7 f0 f1 f2 f3 f4 f5 f6 f7 vl hwf
 go_wp2
 refine bodyPost_ret (v := .agg #[.int .i64 at0, .slice a1 hh d1, .slice a2 mn d2, .int .u64 lf, .int .u64 p0, .int .u64 p1, .int .u64 p2, .bool ov]) (by simp [results, Tryd.results47, go_sem, c0, c1, c2, c3, c4, c5, c6, c7]) rfl ?_
 exact ⟨a1, d1, a2, d2, by rw [HOH.out], HE⟩
end Go.Proofs.YtmoklddfaocihaaDoor
namespace Go.Proofs.YtmoklddfaocihaaDoor
open Go.RowKit

section
variable {P : Program} {ops : Array Oper} {rest : List Oper} {o : Oper} {a : Act} {Q : Exit → Act → World → Prop}
/-- Appended to a list of its own: what the old list shows stays. -/
theorem wpList_append_keep (w : World) (hgd : o.guard = none) (s x : Operand) (t : TypeId)
  (ho : o.op = .call { callee := .builtin .append, args := #[s, x], argTypes := #[t, t] })
  (base : Nat) (e : TypeId) (i : TypeInfo) (z : Value) (size bytes : Nat) (ht : P.underlying t = some (.slice e)) (hi : P.info? e = some i) (hz : i.zero = some z)
  (hsize : i.size = size) (hby : i.bytes = bytes) (hzs : z.cells.size = size) (hsz : 0 < size)
  (v : Value) (n : Nat) (xs : List Value) (hs : a.eval s = v) (hown : w.ownsRow base e size v n xs)
  (ad : Addr) (m c : Nat) (news : List Value) (hx : a.eval x = .slice (some ad) m c) (hl : news.length = m * size) (hnews : ∀ j u, news[j]? = some u → w.cell? (ad.add j) = some u) (h1 : ∀ u ∈ news, u.oneCell' = true)
  (hm : 0 < m) (h63 : n + m ≤ maxLen) (hbytes : (n + m) * bytes ≤ 140737488355328) (hbase : base ≤ w.heap.size)
  (h : ∀ v' w', w'.ownsRow base e size v' (n + m) (xs ++ news) → w.grownBy w' v.ownBlock → w'.ownsRow base e size v n xs → (∀ g, v'.ownBlock = some g → v.ownBlock = some g ∨ w.heap.size ≤ g) → wpList P ops Q rest (a.put o.dst v') w') : wpList P ops Q (o :: rest) a w := by
 rcases hown.2 with ⟨rfl, rfl⟩ | ⟨g, cap, cur, rfl, hbg, hg, hnc, hcm, hcs, htake⟩
 ·have hxs : xs = [] := List.eq_nil_of_length_eq_zero (by have := hown.1; omega)
  subst hxs
  refine wpList_append_grows w hgd s x t ho e i z size bytes ht hi hz hsize hby hzs hsz none 0 0 [] hs (fun _ => ⟨rfl, rfl⟩) (by simp) (fun b hb => by cases hb) ad m c news hx hl hnews h1 (by omega) h63 hbytes ?_
  intro v' w' hown' hgrow
  refine h v' w' ?_ ⟨hgrow.os, hgrow.tape, hgrow.output, hgrow.size, hgrow.block⟩ (World.ownsRow_nil _ _ _ _) (fun g hg => .inr (hown'.lt g hg).1)
  exact own_low hown' hbase
 ·by_cases hroom : n + m ≤ cap
  ·refine wpList_append_own_spare w hgd s x t ho base e i size ht hi hsize g n cap xs hs hown ad m c news hx hl hnews h1 hroom ?_
   intro w' hown' hgrow
   refine h _ w' hown' hgrow ?_ (fun g' hg' => .inl hg')
   have q := own_cut hown' (m := n) (by omega)
   have e1 : (xs ++ news).take (n * size) = xs := by
    rw [← hown.1]
    simp
   rw [e1] at q
   exact q
  ·have holds : ∀ b, some (⟨g, 0, none⟩ : Addr) = some b → ∀ j u, xs[j]? = some u → w.cell? (b.add j) = some u := by
    intro b hb j u hj
    cases hb
    exact hown.cells rfl j u hj
   refine wpList_append_grows w hgd s x t ho e i z size bytes ht hi hz hsize hby hzs hsz (some ⟨g, 0, none⟩) n cap xs hs (fun h => by cases h) hown.1 holds ad m c news hx hl hnews h1 (by omega) h63 hbytes ?_
   intro v' w' hown' hgrow
   have hb : Below w.heap.size w w' := ⟨hgrow.os, hgrow.tape, hgrow.output, hgrow.size, fun k hk => hgrow.block k hk (by simp)⟩
   exact h v' w' (own_low hown' hbase) ⟨hgrow.os, hgrow.tape, hgrow.output, hgrow.size, fun k hk _ => hgrow.block k hk (by simp)⟩ (own_keep hown hb) (fun g hg => .inr (hown'.lt g hg).1)
end
/-- A number of a row of values is written. -/
theorem vals2_set (k x : Nat → Int) {n j : Nat} (hj : j < n) (y : Int) : (vals2 k x n).set (j * 2 + 1) (.int .u64 y) = vals2 k (updI x j y) n := by
 apply List.ext_getElem?
 intro i
 rw [List.getElem?_set]
 by_cases hi : i < n * 2
 ·by_cases e : j * 2 + 1 = i
  ·subst e
   rw [if_pos rfl, if_pos (by rw [vals2_len]; omega), vals2_v hj]
   unfold updI
   rw [if_pos rfl]
  ·rw [if_neg e]
   rcases Nat.mod_two_eq_zero_or_one i with q | q
   ·obtain ⟨m, rfl⟩ : ∃ m, i = m * 2 := ⟨i / 2, by omega⟩
    rw [vals2_k (by omega), vals2_k (by omega)]
   ·obtain ⟨m, rfl⟩ : ∃ m, i = m * 2 + 1 := ⟨i / 2, by omega⟩
    rw [vals2_v (by omega), vals2_v (by omega)]
    unfold updI
    rw [if_neg (by omega)]
 ·rw [if_neg (by omega), List.getElem?_eq_none (by rw [vals2_len]; omega), List.getElem?_eq_none (by rw [vals2_len]; omega)]
theorem own_setV {w : World} {B n b cap j : Nat} {k x : Nat → Int} {y : Int} (h : w.ownsRow B 56 2 (.slice (some ⟨b, 0, none⟩) n cap) n (vals2 k x n)) (hj : j < n) : (w.setCell ⟨b, j * 2 + 1, none⟩ (.int .u64 y)).ownsRow B 56 2 (.slice (some ⟨b, 0, none⟩) n cap) n (vals2 k (updI x j y) n) := by
 rw [← vals2_set k x hj y]
 refine ⟨by rw [List.length_set]; exact h.1, ?_⟩
 rcases h.2 with ⟨e, _⟩ | ⟨g', cap', cur, e, hb, hc, hnc, hm, hsz, htk⟩
 ·cases e
 ·cases e
  refine .inr ⟨b, cap, cur.setIfInBounds (j * 2 + 1) (.int .u64 y), rfl, hb, ?_, hnc, hm, by simpa using hsz, ?_⟩
  ·simp [World.setCell, Array.getElem?_modify, hc]
  ·rw [← htk, Array.toList_setIfInBounds, List.take_set]
/-- The world of sameState. -/
structure Ss (w0 : World) (B gb : Nat) (G : Array Value) (u1 : Value) (n1 : Nat) (k1 x1 : Nat → Int) (u2 : Value) (n2 : Nat) (k2 x2 : Nat → Int) (w : World) : Prop where
 gx : w.heap[gb]? = some (.cells G 65 (0, 0))
 o1 : w.ownsRow B 56 2 u1 n1 (vals2 k1 x1 n1)
 o2 : w.ownsRow B 56 2 u2 n2 (vals2 k2 x2 n2)
 ap : ∀ q, u1.ownBlock = some q → u2.ownBlock = some q → False
 lb : w0.heap.size ≤ B
 sz : B ≤ w.heap.size
 bel : Below w0.heap.size w0 w
section
variable {w0 : World} {B gb : Nat} {G : Array Value} {u1 : Value} {n1 : Nat} {k1 x1 : Nat → Int} {u2 : Value} {n2 : Nat} {k2 x2 : Nat → Int} {w w1 w2 : World}
theorem Ss.next (h : Ss w0 B gb G u1 n1 k1 x1 u2 n2 k2 x2 w) (hb : Below w.heap.size w w1) : Ss w0 B gb G u1 n1 k1 x1 u2 n2 k2 x2 w1 :=
 ⟨(hb.block _ (block_lt h.gx)).trans h.gx, own_keep h.o1 hb, own_keep h.o2 hb, h.ap, h.lb, Nat.le_trans h.sz hb.size, h.bel.trans (hb.mono h.bel.size)⟩
/-- A block of values has turned. -/
theorem Ss.off {q : Nat} {cs : Array Value} (h : Ss w0 B gb G u1 n1 k1 x1 u2 n2 k2 x2 w) (hq : w.heap[q]? = some (.cells cs 56 (0, 0))) (hB : B ≤ q) (hg : w.grownBy w1 (some q)) : w1.heap[gb]? = some (.cells G 65 (0, 0)) ∧ B ≤ w1.heap.size ∧ Below w0.heap.size w0 w1 := by
 have hne : gb ≠ q := fun e => by
  have := h.gx
  rw [e, hq] at this
  cases this
 exact ⟨(hg.block _ (block_lt h.gx) (by simpa using hne)).trans h.gx, Nat.le_trans h.sz hg.size, h.bel.grown hg h.bel.size (fun z e => by cases e; exact Nat.le_trans h.lb hB)⟩
theorem own_blkV {B n : Nat} {v : Value} {xs : List Value} {b : Nat} (h : w.ownsRow B 56 2 v n xs) (e : v.ownBlock = some b) : ∃ cs, w.heap[b]? = some (.cells cs 56 (0, 0)) := by
 rcases h.2 with ⟨e1, _⟩ | ⟨g, cap, cur, e1, hb, hc, _⟩
 ·rw [e1] at e; simp [Value.ownBlock] at e
 ·rw [e1] at e
  simp [Value.ownBlock] at e
  subst e
  exact ⟨cur, hc⟩
theorem Ss.set1 {b cap j : Nat} {y : Int} (h : Ss w0 B gb G (.slice (some ⟨b, 0, none⟩) n1 cap) n1 k1 x1 u2 n2 k2 x2 w) (hj : j < n1) : Ss w0 B gb G (.slice (some ⟨b, 0, none⟩) n1 cap) n1 k1 (updI x1 j y) u2 n2 k2 x2 (w.setCell ⟨b, j * 2 + 1, none⟩ (.int .u64 y)) := by
 obtain ⟨cs, hc⟩ := own_blkV h.o1 (b := b) rfl
 have gs := grown_setT w b (j * 2 + 1) (.int .u64 y)
 obtain ⟨a1, a2, a3⟩ := h.off hc (h.o1.lt b rfl).1 gs
 refine ⟨a1, own_setV h.o1 hj, ?_, h.ap, h.lb, a2, a3⟩
 refine World.ownsRow.kept h.o2 gs ?_
 cases e : u2.ownBlock with
 | none => exact .inl rfl
 | some g => exact .inr (fun e2 => by cases e2; exact h.ap b rfl e)
theorem Ss.set2 {b cap j : Nat} {y : Int} (h : Ss w0 B gb G u1 n1 k1 x1 (.slice (some ⟨b, 0, none⟩) n2 cap) n2 k2 x2 w) (hj : j < n2) : Ss w0 B gb G u1 n1 k1 x1 (.slice (some ⟨b, 0, none⟩) n2 cap) n2 k2 (updI x2 j y) (w.setCell ⟨b, j * 2 + 1, none⟩ (.int .u64 y)) := by
 obtain ⟨cs, hc⟩ := own_blkV h.o2 (b := b) rfl
 have gs := grown_setT w b (j * 2 + 1) (.int .u64 y)
 obtain ⟨a1, a2, a3⟩ := h.off hc (h.o2.lt b rfl).1 gs
 refine ⟨a1, ?_, own_setV h.o2 hj, h.ap, h.lb, a2, a3⟩
 refine World.ownsRow.kept h.o1 gs ?_
 cases e : u1.ownBlock with
 | none => exact .inl rfl
 | some g => exact .inr (fun e2 => by cases e2; exact h.ap b e rfl)
/-- Appended to the first. -/
theorem Ss.app1 (h : Ss w0 B gb G u1 n1 k1 x1 u2 n2 k2 x2 w) (hg : w.grownBy w1 u1.ownBlock) (hk : w1.ownsRow B 56 2 u1 n1 (vals2 k1 x1 n1)) : Ss w0 B gb G u1 n1 k1 x1 u2 n2 k2 x2 w1 := by
 cases e : u1.ownBlock with
 | none =>
  rw [e] at hg
  exact h.next ⟨hg.os, hg.tape, hg.output, hg.size, fun k hk => hg.block k hk (by simp)⟩
 | some b =>
  rw [e] at hg
  obtain ⟨cs, hc⟩ := own_blkV h.o1 e
  obtain ⟨a1, a2, a3⟩ := h.off hc (h.o1.lt b e).1 hg
  refine ⟨a1, hk, ?_, h.ap, h.lb, a2, a3⟩
  refine World.ownsRow.kept h.o2 hg ?_
  cases e2 : u2.ownBlock with
  | none => exact .inl rfl
  | some g => exact .inr (fun e3 => by cases e3; exact h.ap b e e2)
theorem Ss.app2 (h : Ss w0 B gb G u1 n1 k1 x1 u2 n2 k2 x2 w) (hg : w.grownBy w1 u2.ownBlock) (hk : w1.ownsRow B 56 2 u2 n2 (vals2 k2 x2 n2)) : Ss w0 B gb G u1 n1 k1 x1 u2 n2 k2 x2 w1 := by
 cases e : u2.ownBlock with
 | none =>
  rw [e] at hg
  exact h.next ⟨hg.os, hg.tape, hg.output, hg.size, fun k hk => hg.block k hk (by simp)⟩
 | some b =>
  rw [e] at hg
  obtain ⟨cs, hc⟩ := own_blkV h.o2 e
  obtain ⟨a1, a2, a3⟩ := h.off hc (h.o2.lt b e).1 hg
  refine ⟨a1, ?_, hk, h.ap, h.lb, a2, a3⟩
  refine World.ownsRow.kept h.o1 hg ?_
  cases e2 : u1.ownBlock with
  | none => exact .inl rfl
  | some g => exact .inr (fun e3 => by cases e3; exact h.ap b e2 e)
end
end Go.Proofs.YtmoklddfaocihaaDoor
namespace Go.Proofs.YtmoklddfaocihaaDoor
open Go.RowKit

/-- A state that is being told by the reference. -/
structure Sx (w0 : World) (xb B Bu : Nat) (A : Array Value) (v : Value) (n : Nat) (k x : Nat → Int) (u : Value) (m : Nat) (k2 x2 : Nat → Int) (w : World) : Prop where
 bx : w.heap[xb]? = some (.cells A 65 (0, 0))
 ob : w.heap[w0.heap.size]? = some (.cells #[.int .i64 0, .slice none 0 0, .slice none 0 0, .int .u64 0, .int .u64 0, .int .u64 0, .int .u64 0, .bool false] 65 (0, 0))
 ow : w.ownsRow B 56 2 v n (vals2 k x n)
 ou : w.ownsRow Bu 56 2 u m (vals2 k2 x2 m)
 lt : ∀ q, u.ownBlock = some q → q < B
 lx : xb < B
 l0 : w0.heap.size < xb
 sz : B ≤ w.heap.size
 bel : Below w0.heap.size w0 w
section
variable {w0 : World} {xb B Bu : Nat} {A : Array Value} {v : Value} {n : Nat} {k x : Nat → Int} {u : Value} {m : Nat} {k2 x2 : Nat → Int} {w w1 w2 : World}
theorem Sx.next (h : Sx w0 xb B Bu A v n k x u m k2 x2 w) (hb : Below w.heap.size w w1) : Sx w0 xb B Bu A v n k x u m k2 x2 w1 :=
 ⟨(hb.block _ (block_lt h.bx)).trans h.bx, (hb.block _ (block_lt h.ob)).trans h.ob, own_keep h.ow hb, own_keep h.ou hb, h.lt, h.lx, h.l0, Nat.le_trans h.sz hb.size, h.bel.trans (hb.mono h.bel.size)⟩
/-- A value is laid behind the others. -/
theorem Sx.app {v' : Value} (h : Sx w0 xb B Bu A v n k x u m k2 x2 w) (hb : Below w.heap.size w w1) (ho : w2.ownsRow B 56 2 v' (n + 1) (vals2 k x n ++ [.int .i64 (k n), .int .u64 (x n)])) (hg : w1.grownBy w2 v.ownBlock) :
  w2.heap[xb]? = some (.cells A 65 (0, 0)) ∧ Below w0.heap.size w0 w2 ∧ ∀ i, Sx w0 xb B Bu (A.setIfInBounds i v') v' (n + 1) k x u m k2 x2 (w2.setCell ⟨xb, i, none⟩ v') := by
 have h1 := h.next hb
 have hq : ∀ q, v.ownBlock = some q → B ≤ q := fun q e => (h.ow.lt q e).1
 have hlx := h.lx
 have hl0 := h.l0
 have bx : w2.heap[xb]? = some (.cells A 65 (0, 0)) := (hg.block _ (block_lt h1.bx) (fun e => by have := hq xb e.symm; omega)).trans h1.bx
 have ob := (hg.block _ (block_lt h1.ob) (fun e => by have := hq _ e.symm; omega)).trans h1.ob
 have bel : Below w0.heap.size w0 w2 := h1.bel.grown hg h1.bel.size (fun q e => by have := hq q e; omega)
 have ou : w2.ownsRow Bu 56 2 u m (vals2 k2 x2 m) := by
  refine World.ownsRow.kept h1.ou hg ?_
  cases e : u.ownBlock with
  | none => exact .inl rfl
  | some g => exact .inr (fun e2 => by have := hq g e2.symm; have := h.lt g e; omega)
 refine ⟨bx, bel, fun i => ?_⟩
 have gs := grown_setT w2 xb i v'
 refine ⟨?_, (gs.block _ (block_lt ob) (by simp; omega)).trans ob, ?_, own_offT ou bx (by decide) gs, h.lt, h.lx, h.l0, Nat.le_trans h1.sz (Nat.le_trans hg.size gs.size), bel.grown gs bel.size (fun q e => by cases e; omega)⟩
 ·exact heap_setCell_same w2 xb i _ _ v' bx
 ·rw [vals2_next]
  exact own_offT ho bx (by decide) gs
/-- The next list begins. -/
theorem Sx.swap (h : Sx w0 xb B Bu A v n k x u m k2 x2 w) (i : Nat) (k3 x3 : Nat → Int) : Sx w0 xb w.heap.size B (A.setIfInBounds i (.slice none 0 0)) (.slice none 0 0) 0 k3 x3 v n k x (w.setCell ⟨xb, i, none⟩ (.slice none 0 0)) := by
 have gs := grown_setT w xb i (.slice none 0 0)
 have hl0 := h.l0
 exact ⟨heap_setCell_same w xb i _ _ _ h.bx, (gs.block _ (block_lt h.ob) (by simp; omega)).trans h.ob, World.ownsRow_nil _ _ _ _, own_offT h.ow h.bx (by decide) gs, fun q e => (h.ow.lt q e).2, block_lt h.bx, h.l0, gs.size, h.bel.grown gs h.bel.size (fun q e => by cases e; omega)⟩
end
end Go.Proofs.YtmoklddfaocihaaDoor
namespace Go.Proofs.YtmoklddfaocihaaDoor
open Go.RowKit

theorem eqItemsV (xs : Array Value) (w : World) : ∀ is : List Nat, (∀ i ∈ is, ∃ x, xs[i * 1]? = some (.int .u64 x)) → (Op.eqItems 9999 42 1 xs xs is).run Tryd.prog w = .ok true w
 | [], _ => rfl
 | i :: is, h => by
  obtain ⟨x, hx⟩ := h i (by simp)
  have ih := eqItemsV xs w is (fun j hj => h j (by simp [hj]))
  have hp := run_part_plain (P := Tryd.prog) w (e := 42) (by kernel_rfl) hx
  have he : (Op.equalIn 9999 42 (.int .u64 x) (.int .u64 x)).run Tryd.prog w = .ok true w := by
   rw [show 9999 = 9998 + 1 from rfl, run_equalIn_int w 9998 42 .u64 .u64 x x Tryd.underlying42]
   simp
  simp only [Op.eqItems, Sem.run_bind, hp, Result.andThen_ok, he, Bool.not_true, Bool.false_eq_true, if_false, ih]
theorem eqPaid0 (a0 a1 a2 : Int) (w : World) : (Op.equalIn 10000 46 (.agg #[.int .u64 a0, .int .u64 a1, .int .u64 a2]) (.agg #[.int .u64 a0, .int .u64 a1, .int .u64 a2])).run Tryd.prog w = .ok true w := by
 obtain ⟨i0, hi, hz0, hz1, hz2⟩ := info_parts Tryd.infoU6
 have hc : Tryd.prog.cellsOf 42 = 1 := by kernel_rfl
 rw [show 10000 = 9999 + 1 from rfl, run_equalIn_array w 9999 _ _ Tryd.underlying46 hi, hc]
 refine eqItemsV _ w _ (fun i hm => ?_)
 have : i < 3 := by simpa using hm
 match i, this with
 | 0, _ => exact ⟨_, rfl⟩
 | 1, _ => exact ⟨_, rfl⟩
 | 2, _ => exact ⟨_, rfl⟩
theorem updI_lt {x : Nat → Int} {j : Nat} {y : Int} (h : ∀ i, i < j → x i = y) : ∀ i, i < j + 1 → updI x j y i = y := fun i hi => by
 unfold updI
 by_cases q : i = j
 ·rw [if_pos q]
 ·rw [if_neg q]
  exact h i (by omega)
def EqW (a b : World) : Prop := a = b
/-- The last of a list. -/
def LastV (v : Value) (n : Nat) (y : Int) (w : World) : Prop := ∃ b cap, v = .slice (some ⟨b, 0, none⟩) (n + 1) cap ∧ n + 1 ≤ cap ∧ b < w.heap.size ∧ w.cell? ⟨b, n * 2 + 1, none⟩ = some (.int .u64 y)
theorem last_of {B n : Nat} {v : Value} {xs : List Value} {k y : Int} {w : World} (h : w.ownsRow B 56 2 v (n + 1) (xs ++ [.int .i64 k, .int .u64 y])) (hx : xs.length = n * 2) : LastV v n y w := by
 rcases h.2 with ⟨_, h0⟩ | ⟨g, cap, cur, e, hb, hc, hnc, _, hsz, htk⟩
 ·omega
 ·refine ⟨g, cap, e, hnc, block_lt hc, ?_⟩
  have h2 : (xs ++ [Value.int .i64 k, .int .u64 y])[n * 2 + 1]? = some (.int .u64 y) := by
   rw [List.getElem?_append_right (by omega), hx, show n * 2 + 1 - n * 2 = 1 by omega]
   rfl
  rw [← htk, List.getElem?_take, if_pos (by omega)] at h2
  rw [block_cell hc]
  simpa using h2
/-- What State answers, whoever is asked. -/
def StR (pm : Value) (s : Ms) (n1 : Nat) (k1 x1 : Nat → Int) (n2 : Nat) (k2 x2 : Nat → Int) (w : World) : Prop := Calls Tryd.prog 47 #[pm] w fun e w' => ∃ a1 d1 a2 d2, e = .returned (.agg (stA s (.slice a1 n1 d1) (.slice a2 n2 d2))) ∧ Hid (w'.ownsRow w.heap.size 56 2 (.slice a1 n1 d1) n1 (vals2 k1 x1 n1) ∧ w'.ownsRow w.heap.size 56 2 (.slice a2 n2 d2) n2 (vals2 k2 x2 n2) ∧ (∀ q1 q2, (Value.slice a1 n1 d1).ownBlock = some q1 → (Value.slice a2 n2 d2).ownBlock = some q2 → q1 < q2) ∧ Below w.heap.size w w')
set_option maxRecDepth 10000 in
set_option maxHeartbeats 12800000 in
theorem sameStateT {pm : Value} {s : Ms} {n1 n2 : Nat} {k1 x1 k2 x2 : Nat → Int} {w : World} {v1 v2 : Value} (hS : ∀ w', Below w.heap.size w w' → StR pm s n1 k1 x1 n2 k2 x2 w') (h1 : Cv w v1 n1 k1 x1) (h2 : Cv w v2 n2 k2 x2) (hn1 : n1 ≤ 1000) (hn2 : n2 ≤ 1000) :
  Calls Tryd.prog 20 #[pm, .agg (stA s v1 v2)] w fun e w' => e = .returned (.bool true) ∧ Hid (Below w.heap.size w w') := by
 obtain ⟨i0, hi, hz0, hz1, hz2⟩ := info_parts Tryd.infoCV
 obtain ⟨s1, c1, _, rfl, _⟩ := h1.ex
 obtain ⟨s2, c2, _, rfl, _⟩ := h2.ex
 obtain ⟨at0, hat⟩ : ∃ x, s.pc = x := ⟨_, rfl⟩
 obtain ⟨lf, hlf⟩ : ∃ x, s.left = x := ⟨_, rfl⟩
 obtain ⟨p0, hp0⟩ : ∃ x, s.paid 0 = x := ⟨_, rfl⟩
 obtain ⟨p1, hp1⟩ : ∃ x, s.paid 1 = x := ⟨_, rfl⟩
 obtain ⟨p2, hp2⟩ : ∃ x, s.paid 2 = x := ⟨_, rfl⟩
 obtain ⟨ov, hov⟩ : ∃ x, s.ov = x := ⟨_, rfl⟩
 have HO : ∀ v1 v2, stA s v1 v2 = #[.int .i64 at0, v1, v2, .int .u64 lf, .int .u64 p0, .int .u64 p1, .int .u64 p2, .bool ov] := fun v1 v2 => by
  unfold stA
  rw [hat, hlf, hp0, hp1, hp2, hov]
 obtain ⟨W1, hW1⟩ : ∃ W1, w.alloc (.cells #[.int .i64 at0, .slice s1 n1 c1, .slice s2 n2 c2, .int .u64 lf, .int .u64 p0, .int .u64 p1, .int .u64 p2, .bool ov] 65) = W1 := ⟨_, rfl⟩
 have B1 : Below w.heap.size w W1 := by rw [← hW1]; exact below_alloc1 w _
 have A1 : W1.heap[w.heap.size]? = some (.cells #[.int .i64 at0, .slice s1 n1 c1, .slice s2 n2 c2, .int .u64 lf, .int .u64 p0, .int .u64 p1, .int .u64 p2, .bool ov] 65 (0, 0)) := by rw [← hW1]; exact alloc_atK _ _
 have hst := hS W1 B1
 unfold StR at hst
 simp only [HO] at hst
 have HST := hide hst
 have HC1 := hide (h1.next B1)
 have HC2 := hide (h2.next B1)
 have HA1 := hide A1
 have HB1 := hide B1
 have HW1 := hide hW1
 rw [HO]
 clear hS h1 h2 hat hlf hp0 hp1 hp2 hov HO hW1 B1 A1 hst
 go_enter Tryd.func20, Tryd.ntmps20
 go_upto_region 1 with fail
 rw [HW1.out]
 clear HW1
 go_wp2_with fail
 refine HST.out.mono ?_
 rintro e w2 ⟨a1, d1, a2, d2, rfl, G2⟩
 clear HST
 obtain ⟨w3, hw3⟩ : ∃ w3, w2.alloc (.cells #[.int .i64 at0, .slice a1 n1 d1, .slice a2 n2 d2, .int .u64 lf, .int .u64 p0, .int .u64 p1, .int .u64 p2, .bool ov] 65) = w3 := ⟨_, rfl⟩
 have b3 : Below w2.heap.size w2 w3 := by rw [← hw3]; exact below_alloc1 _ _
 have a3 : w3.heap[w2.heap.size]? = some (.cells #[.int .i64 at0, .slice a1 n1 d1, .slice a2 n2 d2, .int .u64 lf, .int .u64 p0, .int .u64 p1, .int .u64 p2, .bool ov] 65 (0, 0)) := by rw [← hw3]; exact alloc_atK _ _
 have b13 := G2.out.2.2.2.trans (b3.mono G2.out.2.2.2.size)
 have HS3 : Hid (Ss w W1.heap.size w2.heap.size #[.int .i64 at0, .slice a1 n1 d1, .slice a2 n2 d2, .int .u64 lf, .int .u64 p0, .int .u64 p1, .int .u64 p2, .bool ov] (.slice a1 n1 d1) n1 k1 x1 (.slice a2 n2 d2) n2 k2 x2 w3) := ⟨a3, own_keep G2.out.1 b3, own_keep G2.out.2.1 b3, fun q e1 e2 => absurd (G2.out.2.2.1 q q e1 e2) (Nat.lt_irrefl q), HB1.out.size, b13.size, HB1.out.trans (b13.mono HB1.out.size)⟩
 have HSX : Hid (w3.heap[w.heap.size]? = some (.cells #[.int .i64 at0, .slice s1 n1 c1, .slice s2 n2 c2, .int .u64 lf, .int .u64 p0, .int .u64 p1, .int .u64 p2, .bool ov] 65 (0, 0))) := (b13.block _ (block_lt HA1.out)).trans HA1.out
 have HD1 := hide (HC1.out.next b13)
 have HD2 := hide (HC2.out.next b13)
 have HW3 := hide hw3
 clear hw3 b3 a3 b13 G2 HC1 HC2 HA1 HB1
 go_upto_region 2 with fail
 rw [HW3.out]
 clear HW3
 generalize w2.heap.size = gb at *
 generalize W1.heap.size = B at *
 have HEQ := eqPaid0 p0 p1 p2 w3
 have g0 := block_cell HS3.out.gx 0
 have g1 := block_cell HS3.out.gx 1
 have g2 := block_cell HS3.out.gx 2
 have g3 := block_cell HS3.out.gx 3
 have g4 := block_cell HS3.out.gx 4
 have g5 := block_cell HS3.out.gx 5
 have g6 := block_cell HS3.out.gx 6
 have g7 := block_cell HS3.out.gx 7
 have gl := block_lt HS3.out.gx
 simp at g0 g1 g2 g3 g4 g5 g6 g7
 have t0 := block_cell HSX.out 0
 have t1 := block_cell HSX.out 1
 have t2 := block_cell HSX.out 2
 have t3 := block_cell HSX.out 3
 have t4 := block_cell HSX.out 4
 have t5 := block_cell HSX.out 5
 have t6 := block_cell HSX.out 6
 have t7 := block_cell HSX.out 7
 have tl := block_lt HSX.out
 simp at t0 t1 t2 t3 t4 t5 t6 t7
 go_upto_region 4 with fail
 clear HEQ
 have HV1 := hide (sameValuesT (Cv.of HS3.out.o1) HD1.out (by omega))
 go_wp2_with fail
 refine HV1.out.mono ?_
 rintro e w4 ⟨rfl, G4⟩
 have HS4 := hide (HS3.out.next G4.out)
 have HX4 := hide ((G4.out.block _ (block_lt HSX.out)).trans HSX.out)
 have HV2 := hide (sameValuesT (Cv.of HS4.out.o2) (HD2.out.next G4.out) (by omega))
 clear HV1 HS3 HSX HD1 HD2 G4 g0 g1 g2 g3 g4 g5 g6 g7 gl t0 t1 t2 t3 t4 t5 t6 t7 tl
 have g0 := block_cell HS4.out.gx 0
 have g1 := block_cell HS4.out.gx 1
 have g2 := block_cell HS4.out.gx 2
 have g3 := block_cell HS4.out.gx 3
 have g4 := block_cell HS4.out.gx 4
 have g5 := block_cell HS4.out.gx 5
 have g6 := block_cell HS4.out.gx 6
 have g7 := block_cell HS4.out.gx 7
 have gl := block_lt HS4.out.gx
 simp at g0 g1 g2 g3 g4 g5 g6 g7
 have t0 := block_cell HX4.out 0
 have t1 := block_cell HX4.out 1
 have t2 := block_cell HX4.out 2
 have t3 := block_cell HX4.out 3
 have t4 := block_cell HX4.out 4
 have t5 := block_cell HX4.out 5
 have t6 := block_cell HX4.out 6
 have t7 := block_cell HX4.out 7
 have tl := block_lt HX4.out
 simp at t0 t1 t2 t3 t4 t5 t6 t7
 go_wp2_with fail
 refine HV2.out.mono ?_
 rintro e w5 ⟨rfl, G5⟩
 have HR1 : Hid (∃ y1 y2, Ss w B gb #[.int .i64 at0, .slice a1 n1 d1, .slice a2 n2 d2, .int .u64 lf, .int .u64 p0, .int .u64 p1, .int .u64 p2, .bool ov] (.slice a1 n1 d1) n1 k1 y1 (.slice a2 n2 d2) n2 k2 y2 w5 ∧ (∀ i, i < 0 → y1 i = 99) ∧ True) := ⟨x1, x2, HS4.out.next G5.out, fun i hi => absurd hi (Nat.not_lt_zero i), trivial⟩
 clear HV2 HS4 HX4 G5 g0 g1 g2 g3 g4 g5 g6 g7 gl t0 t1 t2 t3 t4 t5 t6 t7 tl
 go_upto_region 7 with fail
 go_loopw [6] (fun i wr => ∃ j : Nat, j ≤ n1 ∧ i = .int .i64 (j : Nat) ∧ Hid (∃ y1 y2, Ss w B gb #[.int .i64 at0, .slice a1 n1 d1, .slice a2 n2 d2, .int .u64 lf, .int .u64 p0, .int .u64 p1, .int .u64 p2, .bool ov] (.slice a1 n1 d1) n1 k1 y1 (.slice a2 n2 d2) n2 k2 y2 wr ∧ (∀ i, i < j → y1 i = 99) ∧ True)) (fun i _ => n1 - (intOf i).toNat)
 case atStart => exact ⟨0, by omega, rfl, HR1⟩
 case round =>
  obtain ⟨j, hj, rfl, HJ⟩ := hrel
  clear HR1
  obtain ⟨y1, y2, hss, hy, hy2⟩ := HJ.out
  have gq := block_cell hss.gx 1
  have gl := block_lt hss.gx
  simp at gq
  clear HJ
  by_cases hlt : j < n1
  ·obtain ⟨ao, cap, b, e1, e2, e3, e4, e5⟩ := (Cv.of hss.o1).ex
   cases e1
   obtain ⟨e6, e7⟩ := e3 (by omega)
   subst e6
   have z := e5 j hlt
   obtain ⟨cs, hcs⟩ := own_blkV hss.o1 (b := b) rfl
   have zf := block_free hcs (j * 2 + 1)
   have HN2 : Hid (∃ y1 y2, Ss w B gb #[.int .i64 at0, .slice (some ⟨b, 0, none⟩) n1 d1, .slice a2 n2 d2, .int .u64 lf, .int .u64 p0, .int .u64 p1, .int .u64 p2, .bool ov] (.slice (some ⟨b, 0, none⟩) n1 d1) n1 k1 y1 (.slice a2 n2 d2) n2 k2 y2 (wr.setCell ⟨b, j * 2 + 1, none⟩ (.int .u64 99)) ∧ (∀ i, i < j + 1 → y1 i = 99) ∧ True) := ⟨updI y1 j 99, y2, hss.set1 hlt, updI_lt hy, hy2⟩
   generalize y1 j = yj at *
   clear hss hy hy2 e2 e3 e4 e5 hcs cs
   go_wp2
   go_roundw
   case rel => exact ⟨j + 1, by omega, by go_num, HN2⟩
   case measure => simp [intOf]; omega
  ·obtain rfl : n1 = j := by omega
   have HR2 : Hid (∃ y1 y2, Ss w B gb #[.int .i64 at0, .slice a1 n1 d1, .slice a2 n2 d2, .int .u64 lf, .int .u64 p0, .int .u64 p1, .int .u64 p2, .bool ov] (.slice a1 n1 d1) n1 k1 y1 (.slice a2 n2 d2) n2 k2 y2 wr ∧ (∀ i, i < 0 → y2 i = 98) ∧ (∀ i, i < n1 → y1 i = 99)) := ⟨y1, y2, hss, fun i hi => absurd hi (Nat.not_lt_zero i), hy⟩
   clear hss hy hy2
   go_upto_region 11 with fail
   go_loopw [7] (fun i wr => ∃ j : Nat, j ≤ n2 ∧ i = .int .i64 (j : Nat) ∧ Hid (∃ y1 y2, Ss w B gb #[.int .i64 at0, .slice a1 n1 d1, .slice a2 n2 d2, .int .u64 lf, .int .u64 p0, .int .u64 p1, .int .u64 p2, .bool ov] (.slice a1 n1 d1) n1 k1 y1 (.slice a2 n2 d2) n2 k2 y2 wr ∧ (∀ i, i < j → y2 i = 98) ∧ (∀ i, i < n1 → y1 i = 99))) (fun i _ => n2 - (intOf i).toNat)
   case atStart => exact ⟨0, by omega, rfl, HR2⟩
   case round =>
    obtain ⟨j, hj, rfl, HJ⟩ := hrel
    clear HR2
    obtain ⟨y1, y2, hss, hy, hy2⟩ := HJ.out
    have gq := block_cell hss.gx 2
    have gl := block_lt hss.gx
    simp at gq
    clear HJ
    by_cases hlt : j < n2
    ·obtain ⟨ao, cap, b, e1, e2, e3, e4, e5⟩ := (Cv.of hss.o2).ex
     cases e1
     obtain ⟨e6, e7⟩ := e3 (by omega)
     subst e6
     have z := e5 j hlt
     obtain ⟨cs, hcs⟩ := own_blkV hss.o2 (b := b) rfl
     have zf := block_free hcs (j * 2 + 1)
     have HN2 : Hid (∃ y1 y2, Ss w B gb #[.int .i64 at0, .slice a1 n1 d1, .slice (some ⟨b, 0, none⟩) n2 d2, .int .u64 lf, .int .u64 p0, .int .u64 p1, .int .u64 p2, .bool ov] (.slice a1 n1 d1) n1 k1 y1 (.slice (some ⟨b, 0, none⟩) n2 d2) n2 k2 y2 (wr.setCell ⟨b, j * 2 + 1, none⟩ (.int .u64 98)) ∧ (∀ i, i < j + 1 → y2 i = 98) ∧ (∀ i, i < n1 → y1 i = 99)) := ⟨y1, updI y2 j 98, hss.set2 hlt, updI_lt hy, hy2⟩
     generalize y2 j = yj at *
     clear hss hy hy2 e2 e3 e4 e5 hcs cs
     go_wp2
     go_roundw
     case rel => exact ⟨j + 1, by omega, by go_num, HN2⟩
     case measure => simp [intOf]; omega
    ·obtain rfl : n2 = j := by omega
     have HSJ := hide hss
     have HYJ := hide (And.intro hy2 hy)
     have HOW : Hid (∀ o, (wr.alloc o).ownsRow B 56 2 (.slice a1 n1 d1) n1 (vals2 k1 y1 n1)) := fun o => own_keep HSJ.out.o1 (below_alloc1 wr o)
     have HSZ : Hid (∀ o, B ≤ (wr.alloc o).heap.size) := fun o => Nat.le_trans HSJ.out.sz (below_alloc1 wr o).size
     have g1 := block_cell hss.gx 1
     simp at g1
     have hxl : (vals2 k1 y1 n1).length = n1 * 2 := vals2_len _ _ _
     clear hss hy hy2
     go_upto_region 15 with (at_builtin; refine wpList_append_keep _ rfl (.tmp 79) (.tmp 81) 63 rfl B 56 i0 (.agg #[.int .i64 0, .int .u64 0]) 2 16 Tryd.underlying63 hi hz0 hz1 hz2 rfl (by decide) (.slice a1 n1 d1) n1 _ rfl (HOW.out _) ⟨wr.heap.size, 0, none⟩ 1 1 [.int .i64 0, .int .u64 97] rfl rfl (cells_newK wr [.int .i64 0, .int .u64 97] 56) (by simp [Value.oneCell']) (by decide) (by unfold maxLen; omega) (by omega) (HSZ.out _) ?_; intro va wa ho hg hk hx)
     obtain ⟨b1, q1, rfl, hq1, hl1, hc1⟩ := last_of ho hxl
     have HS4 : Hid (Ss w B gb #[.int .i64 at0, .slice a1 n1 d1, .slice a2 n2 d2, .int .u64 lf, .int .u64 p0, .int .u64 p1, .int .u64 p2, .bool ov] (.slice a1 n1 d1) n1 k1 y1 (.slice a2 n2 d2) n2 k2 y2 wa) := (HSJ.out.next (below_alloc1 wr _)).app1 hg hk
     have HN1 : Hid (∀ g2, (Value.slice a2 n2 d2).ownBlock = some g2 → b1 ≠ g2) := fun g2 e e2 => by
      subst e2
      rcases hx b1 rfl with q | q
      ·exact HSJ.out.ap b1 q e
      ·have := (HSJ.out.o2.lt b1 e).2
       have := (below_alloc1 wr (.cells #[.int .i64 0, .int .u64 97] 56)).size
       omega
     have HLA : Hid (b1 < wa.heap.size ∧ wa.cell? ⟨b1, n1 * 2 + 1, none⟩ = some (.int .u64 97)) := ⟨hl1, hc1⟩
     clear HSJ HOW HSZ ho hg hk hx hxl g1 gq gl hl1 hc1
     obtain ⟨w6, hw6⟩ : ∃ w6, wa = w6 := ⟨_, rfl⟩
     subst hw6
     have HOW : Hid (∀ o, (wa.alloc o).ownsRow B 56 2 (.slice a2 n2 d2) n2 (vals2 k2 y2 n2)) := fun o => own_keep HS4.out.o2 (below_alloc1 wa o)
     have HSZ : Hid (∀ o, B ≤ (wa.alloc o).heap.size) := fun o => Nat.le_trans HS4.out.sz (below_alloc1 wa o).size
     have gq := block_cell HS4.out.gx 2
     have gl := block_lt HS4.out.gx
     simp at gq
     have hxl : (vals2 k2 y2 n2).length = n2 * 2 := vals2_len _ _ _
     obtain ⟨wo, hwo⟩ : ∃ wo, wa = wo := ⟨_, rfl⟩
     rw [hwo] at HS4 HLA HOW HSZ gq gl
     rw [hwo]
     clear hwo
     go_upto_region 17 with (at_builtin; refine wpList_append_keep _ rfl (.tmp 84) (.tmp 86) 63 rfl B 56 i0 (.agg #[.int .i64 0, .int .u64 0]) 2 16 Tryd.underlying63 hi hz0 hz1 hz2 rfl (by decide) (.slice a2 n2 d2) n2 _ rfl (HOW.out _) ⟨wo.heap.size, 0, none⟩ 1 1 [.int .i64 0, .int .u64 96] rfl rfl (cells_newK wo [.int .i64 0, .int .u64 96] 56) (by simp [Value.oneCell']) (by decide) (by unfold maxLen; omega) (by omega) (HSZ.out _) ?_; intro va wa ho hg hk hx)
     obtain ⟨b2, q2, rfl, hq2, hl2, hc2⟩ := last_of ho hxl
     have HF : Hid (Ss w B gb #[.int .i64 at0, .slice a1 n1 d1, .slice a2 n2 d2, .int .u64 lf, .int .u64 p0, .int .u64 p1, .int .u64 p2, .bool ov] (.slice a1 n1 d1) n1 k1 y1 (.slice a2 n2 d2) n2 k2 y2 wa ∧ (∀ i, i < n1 → y1 i = 99) ∧ (∀ i, i < n2 → y2 i = 98) ∧ True) := ⟨(HS4.out.next (below_alloc1 wo _)).app2 hg hk, HYJ.out.1, HYJ.out.2, trivial⟩
     have HLB : Hid ((b1 < wa.heap.size ∧ wa.cell? ⟨b1, n1 * 2 + 1, none⟩ = some (.int .u64 97)) ∧ b2 < wa.heap.size ∧ wa.cell? ⟨b2, n2 * 2 + 1, none⟩ = some (.int .u64 96)) := by
      have l1 : b1 < (wo.alloc (.cells #[.int .i64 0, .int .u64 96] 56)).heap.size := Nat.lt_of_lt_of_le HLA.out.1 (below_alloc1 wo _).size
      refine ⟨⟨Nat.lt_of_lt_of_le l1 hg.size, ?_⟩, hl2, hc2⟩
      rw [grown_cell hg l1 (fun e => HN1.out b1 e.symm rfl)]
      exact ((below_alloc1 wo _).cell (p := ⟨b1, _, none⟩) HLA.out.1).trans HLA.out.2
     clear HS4 HLA HOW HSZ HN1 HYJ ho hg hk hx hxl gq gl hl2 hc2
     obtain ⟨wx, hwx⟩ : ∃ wx, wa = wx := ⟨_, rfl⟩
     rw [hwx] at HF HLB
     rw [hwx]
     clear hwx
     go_loopw [10] (fun i wr => ∃ j : Nat, j ≤ n1 ∧ i = .int .i64 (j : Nat) ∧ Hid (EqW wr wx)) (fun i _ => n1 - (intOf i).toNat)
     case atStart => exact ⟨0, by omega, rfl, hide (show EqW wx wx from rfl)⟩
     case round =>
      obtain ⟨j, hj, rfl, HJ⟩ := hrel
      have hwx : wr = wx := HJ.out
      rw [hwx]
      clear hwx HJ wr
      have gq := block_cell HF.out.1.gx 1
      have gl := block_lt HF.out.1.gx
      simp at gq
      by_cases hlt : j < n1
      ·obtain ⟨ao, cap, b, e1, e2, e3, e4, e5⟩ := (Cv.of HF.out.1.o1).ex
       cases e1
       obtain ⟨e6, e7⟩ := e3 (by omega)
       have z := e5 j hlt
       rw [HF.out.2.1 j hlt] at z
       rw [e6] at gq
       clear e2 e3 e4 e5 e6
       go_wp2
       go_roundw
       case rel => exact ⟨j + 1, by omega, by go_num, hide (show EqW wx wx from rfl)⟩
       case measure => simp [intOf]; omega
      ·obtain rfl : n1 = j := by omega
       go_upto_region 22 with fail
       go_loopw [11] (fun i wr => ∃ j : Nat, j ≤ n2 ∧ i = .int .i64 (j : Nat) ∧ Hid (EqW wr wx)) (fun i _ => n2 - (intOf i).toNat)
       case atStart => exact ⟨0, by omega, rfl, hide (show EqW wx wx from rfl)⟩
       case round =>
        obtain ⟨j, hj, rfl, HJ⟩ := hrel
        have hwx : wr = wx := HJ.out
        rw [hwx]
        clear hwx HJ wr
        have gq := block_cell HF.out.1.gx 2
        have gl := block_lt HF.out.1.gx
        simp at gq
        by_cases hlt : j < n2
        ·obtain ⟨ao, cap, b, e1, e2, e3, e4, e5⟩ := (Cv.of HF.out.1.o2).ex
         cases e1
         obtain ⟨e6, e7⟩ := e3 (by omega)
         have z := e5 j hlt
         rw [HF.out.2.2.1 j hlt] at z
         rw [e6] at gq
         clear e2 e3 e4 e5 e6
         go_wp2
         go_roundw
         case rel => exact ⟨j + 1, by omega, by go_num, hide (show EqW wx wx from rfl)⟩
         case measure => simp [intOf]; omega
        ·obtain rfl : n2 = j := by omega
         have e1 : IntKind.i64.wrap ((n1 : Int) + 1 - 1) = (n1 : Int) := by rw [IntKind.wrap_i64]; omega
         have e2 : IntKind.i64.wrap ((n2 : Int) + 1 - 1) = (n2 : Int) := by rw [IntKind.wrap_i64]; omega
         obtain ⟨⟨la, ca⟩, lb, cb⟩ := HLB.out
         have HD := hide HF.out.1.bel
         clear HF HLB
         go_wp2
         go_ret
         exact ⟨rfl, HD⟩

end Go.Proofs.YtmoklddfaocihaaDoor
