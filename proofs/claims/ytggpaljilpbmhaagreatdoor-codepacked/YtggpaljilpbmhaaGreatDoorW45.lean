import Derived.Test.YtggpaljilpbmhaaGreatDoorW38
import Derived.Test.YtggpaljilpbmhaaGreatDoorW43
import Derived.Test.YtggpaljilpbmhaaGreatDoorW44
namespace Go.Proofs.YtggpaljilpbmhaaGreatDoor
open Go.RowKit

theorem nums2_at {o a : Nat → Int} {n j : Nat} {u : Value} (h : (nums2 o a n)[j]? = some u) : j / 2 < n ∧ u = .int .i64 (if j % 2 = 0 then o (j / 2) else a (j / 2)) := by
 have hj := (List.getElem?_eq_some_iff.1 h).1
 rw [nums2_len] at hj
 refine ⟨by omega, ?_⟩
 rcases Nat.mod_two_eq_zero_or_one j with q | q
 ·obtain ⟨i, rfl⟩ : ∃ i, j = i * 2 := ⟨j / 2, by omega⟩
  rw [nums2_o (by omega)] at h
  rw [if_pos q, show i * 2 / 2 = i by omega]
  exact (Option.some.inj h).symm
 ·obtain ⟨i, rfl⟩ : ∃ i, j = i * 2 + 1 := ⟨j / 2, by omega⟩
  rw [nums2_a (by omega)] at h
  rw [if_neg (by omega), show (i * 2 + 1) / 2 = i by omega]
  exact (Option.some.inj h).symm
theorem noneP (b : Option Addr) (m : Nat) (w : World) : (Builtin.append_ #[25, 25] 25 #[.slice none 0 0, .slice b 0 m]).run Tryz.prog w = .ok (.slice none 0 0) w := by
 obtain ⟨i0, hi, hz0, hz1, hz2⟩ := info_parts Tryz.infoIn
 cases b <;> simp [Builtin.append_, run_underlying Tryz.underlying25, sizeOf, typeInfo, hi, go_sem]
set_option maxRecDepth 10000 in
set_option maxHeartbeats 1600000 in
theorem copiedP {W : World} {ao : Option Addr} {n cap b off : Nat} {fo fa : Nat → Int} (h : 0 < n → ao = some ⟨b, off, none⟩ ∧ b < W.heap.size) (ho : ∀ j, j < n → W.cell? ⟨b, off + j * 2, none⟩ = some (.int .i64 (fo j))) (ha : ∀ j, j < n → W.cell? ⟨b, off + j * 2 + 1, none⟩ = some (.int .i64 (fa j))) (hn : n ≤ 1048576) :
  Calls Tryz.prog 67 #[.slice ao n cap] W fun e w' => ∃ v, e = .returned v ∧ Hid (Irow w' W.heap.size v n fo fa ∧ Below W.heap.size W w') := by
 by_cases e0 : n = 0
 ·subst e0
  have HN := noneP ao cap
  have HNH := hide HN
  clear HN
  go_enter Tryz.func67, Tryz.ntmps67
  go_wp2_with (at_builtin; refine wpList_append_nothing rfl _ _ 25 rfl _ _ rfl rfl (HNH.out _) ?_)
  go_ret
  exact ⟨_, rfl, hide ⟨World.ownsRow_nil _ _ _ _, Below.refl _ _⟩⟩
 ·obtain ⟨i0, hi, hz0, hz1, hz2⟩ := info_parts Tryz.infoIn
  obtain ⟨hq, hb⟩ := h (by omega)
  subst hq
  have HV : Hid (∀ j u, (nums2 fo fa n)[j]? = some u → W.cell? ⟨b, off + j, none⟩ = some u) := fun j u hu => by
   obtain ⟨q1, q2⟩ := nums2_at hu
   rw [q2]
   rcases Nat.mod_two_eq_zero_or_one j with q | q
   ·rw [if_pos q, show off + j = off + j / 2 * 2 by omega]
    exact ho _ q1
   ·rw [if_neg (by omega), show off + j = off + j / 2 * 2 + 1 by omega]
    exact ha _ q1
  clear h ho ha
  go_enter Tryz.func67, Tryz.ntmps67
  go_wp2_with (at_builtin; refine wpList_append_own _ rfl _ (.tmp 3) 25 rfl W.heap.size 42 i0 (.agg #[.int .i64 0, .int .i64 0]) 2 16 Tryz.underlying25 hi hz0 hz1 hz2 rfl (by decide) (.slice none 0 0) 0 [] rfl (World.ownsRow_nil _ _ _ _) ⟨b, off, none⟩ n cap (nums2 fo fa n) rfl (by rw [nums2_len]) (fun j u hu => by rw [addP]; exact HV.out j u hu) (nums2_one _ _ _) (by unfold maxLen; omega) (by omega) (Nat.le_refl _) ?_; intro v' w5 ho hg _)
  have HD : Hid (Irow w5 W.heap.size v' n fo fa ∧ Below W.heap.size W w5) := by
   refine ⟨by simpa using ho, (Below.refl _ W).grown hg (Nat.le_refl _) (fun g e => ?_)⟩
   simp [Value.ownBlock] at e
  clear ho hg
  go_wp2
  go_ret
  exact ⟨_, rfl, HD⟩
/-- A machine that was just made. -/
def mk0 (a lf : Int) : Ms := ⟨a, 0, fun _ => 0, fun _ => 0, fun _ => 0, lf, fun _ => 0, false, 0, 0⟩
theorem build_mc (va : Option Addr) (vn vc : Nat) (ia : Option Addr) (i1 ic : Nat) (e : En) (ns : Nat) (a lf : Int) (w : World) : (Instr.build 140 #[(0, .bool true), (1, .slice va vn vc), (2, .slice ia i1 ic), (3, .agg e.gv.toArray), (4, .int .u64 e.x2), (6, .int .i64 (ns : Nat)), (9, .int .i64 a), (10, .int .u64 lf)]).run Tryz.prog w = .ok (.agg (cellsM ⟨.slice va vn vc, .slice ia i1 ic, e.ek, e.ev, e.x2, fun _ => 0, ns⟩ (mk0 a lf)).toArray) w := by kernel_rfl
theorem fc_kd {c : Mc} {s : Ms} {m : Nat} (hm : m < 128) (x : Int) : ∀ i, i < 414 → fcell { c with kd := updI c.kd m x } s i = if i = 20 + m * 2 then .int .i64 x else fcell c s i := fun i hi => by
 by_cases e : i = 20 + m * 2
 ·subst e
  rw [if_pos rfl]
  unfold fcell
  rw [if_neg (by omega), if_pos (by omega), if_pos (by omega)]
  have : (20 + m * 2 - 20) / 2 = m := by omega
  rw [this]
  simp [updI]
 ·rw [if_neg e]
  unfold fcell
  by_cases e1 : i < 276
  ·by_cases e2 : i < 20
   ·simp only [e2, if_true]
   ·simp only [e1, e2, if_true, if_false]
    by_cases e3 : i % 2 = 0
    ·rw [if_pos e3, if_pos e3]
     show Value.int .i64 (updI c.kd m x ((i - 20) / 2)) = _
     unfold updI
     rw [if_neg (by omega)]
    ·rw [if_neg e3, if_neg e3]
  ·simp only [e1, if_false]
theorem Pm.setK {c c' : Mc} {mb : Nat} {s : Ms} {w : World} (h : Pm c mb s w) {j : Nat} {v : Value} (hj : ∀ i, i < 414 → fcell c' s i = if i = j then v else fcell c s i) : Pm c' mb s (w.setCell ⟨mb, j, none⟩ v) := by
 refine ⟨?_⟩
 have e : (cellsM c' s).toArray = (cellsM c s).toArray.setIfInBounds j v := by
  apply Array.ext'
  apply List.ext_getElem?
  intro i
  simp only [Array.toList_setIfInBounds, List.getElem?_set]
  unfold cellsM
  by_cases hi : i < 414
  ·simp only [List.getElem?_map, List.length_map, List.length_range]
   rw [List.getElem?_range hi]
   simp only [Option.map_some]
   rw [hj i hi]
   by_cases q : j = i
   ·subst q; simp [hi]
   ·rw [if_neg q, if_neg (fun e => q e.symm)]
  ·have h1 : ∀ f : Nat → Value, ((List.range 414).map f)[i]? = none := fun f => by rw [List.getElem?_eq_none]; simp; omega
   rw [h1, h1]
   split
   ·rename_i q; subst q; simp [hi]
   ·rfl
 rw [e]
 simp [World.setCell, Array.getElem?_modify, h.blk]
/-- The kinds of the slots that were gone through. -/
def kdJ (p : Pv) (j i : Nat) : Int := if i < j then p.S i else 0
theorem kdJ_next (p : Pv) (j : Nat) : updI (kdJ p j) j (p.S j) = kdJ p (j + 1) := by
 funext i
 unfold updI kdJ
 by_cases q : i = j
 ·subst q; simp
 ·rw [if_neg q]
  by_cases q2 : i < j
  ·rw [if_pos q2, if_pos (by omega)]
  ·rw [if_neg q2, if_neg (by omega)]
theorem row64_val {w : World} {B n : Nat} {v : Value} {f : Nat → Int} (h : w.ownsRow B 28 1 v n (nums .u64 f n)) : ∃ ao cap, v = .slice ao n cap ∧ (0 < n → ∃ g, ao = some ⟨g, 0, none⟩ ∧ g < w.heap.size ∧ ∀ j, j < n → w.cell? ⟨g, j, none⟩ = some (.int .u64 (f j))) := by
 rcases h.2 with ⟨rfl, h0⟩ | ⟨g, cap, cur, rfl, hb, hc, hnc, _, hsz, htk⟩
 ·subst h0
  exact ⟨none, 0, rfl, fun h => by omega⟩
 ·refine ⟨_, cap, rfl, fun _ => ⟨g, rfl, block_lt hc, fun j hj => ?_⟩⟩
  have h2 : (nums .u64 f n)[j]? = some (.int .u64 (f j)) := by simp [nums, hj]
  rw [← htk, List.getElem?_take, if_pos (by omega)] at h2
  rw [block_cell hc]
  simpa using h2
/-- The machine's lists, out of the copies. -/
theorem mr_of {c : Mc} {p : Pv} {w w' : World} {B mb : Nat} (hc : w.ownsRow B 28 1 c.vC p.nc (nums .u64 p.C p.nc)) (hi : Irow w B c.vI p.n p.op p.arg) (hm : w.heap.size ≤ mb) (hb : Below w.heap.size w w') (hk : ∀ j, j < p.ns → c.kd j = p.S j) : ∃ cb co cc ib io ic, Mr c p mb cb co cc ib io ic w' := by
 obtain ⟨ca, cp, e1, h1⟩ := row64_val hc
 obtain ⟨ia, ip, e2, -, h2⟩ := irow_val hi
 have s := hb.size
 by_cases z1 : 0 < p.nc
 ·obtain ⟨g1, a1, l1, v1⟩ := h1 z1
  by_cases z2 : 0 < p.n
  ·obtain ⟨g2, a2, _, l2, v2⟩ := h2 z2
   exact ⟨g1, 0, cp, g2, 0, ip, fun _ => ⟨by rw [e1, a1], by omega, by omega⟩, fun _ => ⟨by rw [e2, a2], by omega, by omega⟩, fun j hj => (hb.cell (p := ⟨g1, _, none⟩) l1).trans (by rw [Nat.zero_add]; exact v1 j hj), fun j hj => (hb.cell (p := ⟨g2, _, none⟩) l2).trans (by rw [Nat.zero_add]; exact (v2 j hj).1), fun j hj => (hb.cell (p := ⟨g2, _, none⟩) l2).trans (by rw [Nat.zero_add]; exact (v2 j hj).2.1), hk⟩
  ·exact ⟨g1, 0, cp, 0, 0, 0, fun _ => ⟨by rw [e1, a1], by omega, by omega⟩, fun h => absurd h z2, fun j hj => (hb.cell (p := ⟨g1, _, none⟩) l1).trans (by rw [Nat.zero_add]; exact v1 j hj), fun j hj => by omega, fun j hj => by omega, hk⟩
 ·by_cases z2 : 0 < p.n
  ·obtain ⟨g2, a2, _, l2, v2⟩ := h2 z2
   exact ⟨0, 0, 0, g2, 0, ip, fun h => absurd h z1, fun _ => ⟨by rw [e2, a2], by omega, by omega⟩, fun j hj => by omega, fun j hj => (hb.cell (p := ⟨g2, _, none⟩) l2).trans (by rw [Nat.zero_add]; exact (v2 j hj).1), fun j hj => (hb.cell (p := ⟨g2, _, none⟩) l2).trans (by rw [Nat.zero_add]; exact (v2 j hj).2.1), hk⟩
  ·exact ⟨0, 0, 0, 0, 0, 0, fun h => absurd h z1, fun h => absurd h z2, fun j hj => by omega, fun j hj => by omega, fun j hj => by omega, hk⟩
end Go.Proofs.YtggpaljilpbmhaaGreatDoor
namespace Go.Proofs.YtggpaljilpbmhaaGreatDoor
open Go.RowKit

/-- A machine that was loaded, as it lies. -/
structure LdOk (W : World) (p : Pv) (e : En) (s : Ms) (c : Mc) (mb : Nat) (w : World) : Prop where
 m : Pm c mb s w
 r : ∃ cb co cc ib io ic, Mr c p mb cb co cc ib io ic w
 b : Below W.heap.size W w
 lo : W.heap.size ≤ mb
 ek : c.ek = e.ek
 ev : c.ev = e.ev
 hd : c.hd = e.x2
 ns : c.many = p.ns
 kd : c.kd = kdJ p p.ns
 oc : ∀ q, c.vC.ownBlock = some q → W.heap.size ≤ q ∧ ∃ cs, w.heap[q]? = some (.cells cs 28 (0, 0))
 oi : ∀ q, c.vI.ownBlock = some q → W.heap.size ≤ q ∧ ∃ cs, w.heap[q]? = some (.cells cs 42 (0, 0))
def ld0 (p : Pv) (ev fuel : Int) : Ms := mk0 (p.en ev.toNat) (min fuel 1000)
def ldS (p : Pv) (ev fuel : Int) : Ms := if p.en ev.toNat < 0 then (ld0 p ev fuel).stop 8 else ld0 p ev fuel
def LdR (W : World) (p : Pv) (ev : Int) (e : En) (fuel : Int) (r : Except (Int × Int) Kn) (x : Ending) (w' : World) : Prop := match r with
 | .error (a, y) => ∃ g, x = .returned (.tuple #[.pointer none, .iface 74 (.pointer (some ⟨g, 0, none⟩))]) ∧ Hid (Ft w'.heap.size w' (.iface 74 (.pointer (some ⟨g, 0, none⟩))) a y ∧ Below W.heap.size W w')
 | .ok _ => (isPl ev 6 = false → ∃ g, x = .returned (.tuple #[.pointer none, .iface 74 (.pointer (some ⟨g, 0, none⟩))]) ∧ Hid (Ft w'.heap.size w' (.iface 74 (.pointer (some ⟨g, 0, none⟩))) 0 92 ∧ Below W.heap.size W w')) ∧
  (isPl ev 6 = true → ∃ mb c, x = .returned (.tuple #[.pointer (some ⟨mb, 0, none⟩), .nilIface]) ∧ Hid (LdOk W p e (ldS p ev fuel) c mb w'))
/-- The two boxes of Load. -/
theorem two_box2 (W : World) (o1 o2 : Array Value) (t1 t2 : TypeId) {W2 : World} (h : (W.alloc (.cells o1 t1)).alloc (.cells o2 t2) = W2) : W2.heap[W.heap.size]? = some (.cells o1 t1 (0, 0)) ∧ W2.heap[W.heap.size + 1]? = some (.cells o2 t2 (0, 0)) ∧ Below W.heap.size W W2 := by
 have b1 := below_alloc1 W (.cells o1 t1)
 have b2 := below_alloc1 (W.alloc (.cells o1 t1)) (.cells o2 t2)
 rw [h] at b2
 have s1 : (W.alloc (.cells o1 t1)).heap.size = W.heap.size + 1 := by simp
 have a1 : (W.alloc (.cells o1 t1)).heap[W.heap.size]? = some (.cells o1 t1 (0, 0)) := alloc_atK _ _
 have a2 : W2.heap[W.heap.size + 1]? = some (.cells o2 t2 (0, 0)) := by rw [← h, ← s1]; exact alloc_atK _ _
 exact ⟨(b2.block _ (block_lt a1)).trans a1, a2, b1.trans (b2.mono b1.size)⟩
/-- The loop over the slots. -/
structure Ls (W : World) (p : Pv) (g : Pg) (vC vI : Value) (eK eV : Nat → Int) (hd : Int) (mb : Nat) (s : Ms) (w8 : World) (j : Nat) (wr : World) : Prop where
 m : Pm ⟨vC, vI, eK, eV, hd, kdJ p j, p.ns⟩ mb s wr
 gr : w8.grownBy wr (some mb)
 v : ∀ i, i < p.ns → wr.cell? ⟨g.sb, g.so + i, none⟩ = some (.int .i64 (p.S i))
 l : 0 < p.ns → g.sb < wr.heap.size
 n : p.ns ≤ 128
theorem Ls.next {W : World} {p : Pv} {g : Pg} {vC vI : Value} {eK eV : Nat → Int} {hd : Int} {mb : Nat} {s : Ms} {w8 wr : World} {j : Nat} (h : Ls W p g vC vI eK eV hd mb s w8 j wr) (hj : j < p.ns) (hb : g.sb ≠ mb) : Ls W p g vC vI eK eV hd mb s w8 (j + 1) (wr.setCell ⟨mb, 20 + j * 2, none⟩ (.int .i64 (p.S j))) := by
 have hn := h.n
 have e1 := h.m.setK (fc_kd (c := ⟨vC, vI, eK, eV, hd, kdJ p j, p.ns⟩) (s := s) (m := j) (by omega) (p.S j))
 have e2 : ({ (⟨vC, vI, eK, eV, hd, kdJ p j, p.ns⟩ : Mc) with kd := updI (kdJ p j) j (p.S j) } : Mc) = ⟨vC, vI, eK, eV, hd, kdJ p (j + 1), p.ns⟩ := by rw [kdJ_next]
 have gs := grown_setT wr mb (20 + j * 2) (.int .i64 (p.S j))
 refine ⟨?_, grown_tr h.gr gs, fun i hi => ?_, fun q => Nat.lt_of_lt_of_le (h.l q) gs.size, hn⟩
 ·rw [← e2]; exact e1
 ·exact (grown_cell gs (h.l (by omega)) (by simpa using hb)).trans (h.v i hi)
set_option maxRecDepth 10000 in
set_option maxHeartbeats 12800000 in
theorem loadC {W : World} {g : Pg} {p : Pv} (h : g.Ok p W.heap.size W) (hT : Tab W) (ev : Int) (e : En) (fuel : Int) : Calls Tryz.prog 32 #[.agg (g.cs p).toArray, .int .i64 ev, .agg e.cs.toArray, .int .u64 fuel] W (LdR W p ev e fuel (verF p)) := by
 have HWFV : Hid (∀ k, verF p = .ok k → Wf p) := fun k hk => ver_wf hk
 have HCS : g.cs p = [.slice g.ca p.nc g.cc, .slice g.sa p.ns g.sc, .int .i64 (p.en 0), .int .i64 (p.en 1), .int .i64 (p.en 2), .int .i64 (p.en 3), .int .i64 (p.en 4), .int .i64 (p.en 5), .slice g.ia p.n g.ic] := rfl
 have HEC : e.cs = [.int .u64 e.x0, .int .u64 e.x1, .int .u64 e.x2, .int .u64 e.x3, .int .u64 e.x4, .int .u64 e.x5, .int .u64 e.x6, .bool e.x7] := rfl
 obtain ⟨W2, hW2⟩ : ∃ W2, (W.alloc (.cells (g.cs p).toArray 27)).alloc (.cells e.cs.toArray 30) = W2 := ⟨_, rfl⟩
 obtain ⟨A1, A2, B2⟩ := two_box2 W _ _ _ _ hW2
 have HV := hide (verifyC ((h.kept B2 (Nat.le_refl _)).wide B2.size) (hT.below B2 hT.z))
 have HBU : Hid (∀ va vp ia ip a lf w, (Instr.build 140 #[(0, .bool true), (1, .slice va p.nc vp), (2, .slice ia p.n ip), (3, .agg e.gv.toArray), (4, .int .u64 e.x2), (6, .int .i64 (p.ns : Nat)), (9, .int .i64 a), (10, .int .u64 lf)]).run Tryz.prog w = .ok (.agg (cellsM ⟨.slice va p.nc vp, .slice ia p.n ip, e.ek, e.ev, e.x2, fun _ => 0, p.ns⟩ (mk0 a lf)).toArray) w) := fun va vp ia ip a lf w => build_mc va p.nc vp ia p.n ip e p.ns a lf w
 have HGI : Hid (∀ w, Calls Tryz.prog 68 #[.agg e.cs.toArray] w fun x w' => x = .returned (.agg e.gv.toArray) ∧ Hid (Below w.heap.size w w')) := fun w => givenC e w
 have HOK := hide h
 have HB2 := hide B2
 have HA1 := hide A1
 have HA2 := hide A2
 have HW2 := hide hW2
 rw [HCS, HEC] at HW2
 rw [HCS] at HA1 HV ⊢
 rw [HEC] at HA2 HGI ⊢
 clear h hT B2 A1 A2 hW2 HCS HEC
 obtain ⟨r, hr⟩ : ∃ r, verF p = r := ⟨_, rfl⟩
 rw [hr] at HV HWFV ⊢
 clear hr
 have z0 := block_cell HA1.out 0
 have z1 := block_cell HA1.out 1
 have z2 := block_cell HA1.out 2
 have z3 := block_cell HA1.out 3
 have z4 := block_cell HA1.out 4
 have z5 := block_cell HA1.out 5
 have z6 := block_cell HA1.out 6
 have z7 := block_cell HA1.out 7
 have z8 := block_cell HA1.out 8
 have zl := block_lt HA1.out
 simp at z0 z1 z2 z3 z4 z5 z6 z7 z8
 obtain ⟨gl, hgl⟩ : ∃ gl, e.gv = gl := ⟨_, rfl⟩
 rw [hgl] at HBU HGI
 clear hgl
 go_enter Tryz.func32, Tryz.ntmps32
 go_upto_region 1 with fail
 rw [HW2.out]
 clear HW2
 go_wp2_with fail
 refine HV.out.mono ?_
 intro y w3 hh
 clear z0 z1 z2 z3 z4 z5 z6 z7 z8 zl HV
 cases r with
 | error q =>
  obtain ⟨a, y⟩ := q
  obtain ⟨g', rfl, G⟩ := hh
  have HD : Hid (Ft w3.heap.size w3 (.iface 74 (.pointer (some ⟨g', 0, none⟩))) a y ∧ Below W.heap.size W w3) := ⟨G.out.1, HB2.out.trans (G.out.2.mono HB2.out.size)⟩
  go_wp2
  refine bodyPost_ret (v := .tuple #[.pointer none, .iface 74 (.pointer (some ⟨g', 0, none⟩))]) (by simp [results, Tryz.results32, go_sem]) rfl ?_
  exact ⟨g', rfl, HD⟩
 | ok k =>
  obtain ⟨rfl, G⟩ := hh
  have HWF := hide (HWFV.out k rfl)
  have HB3 : Hid (Below W.heap.size W w3) := HB2.out.trans (G.out.mono HB2.out.size)
  have HP1 := hide ((G.out.block _ (block_lt HA1.out)).trans HA1.out)
  have HP2 := hide ((G.out.block _ (block_lt HA2.out)).trans HA2.out)
  have HOK3 := hide (HOK.out.kept HB3.out (Nat.le_refl _))
  clear G HB2 HA1 HA2 HWFV HOK
  go_wp2_with fail
  have HPL := isPlace_any ev 6 w3
  refine HPL.mono ?_
  clear HPL
  rintro y w4 ⟨rfl, hw4⟩
  rw [hw4]
  clear hw4 w4
  cases hpl : isPl ev 6 with
  | false =>
   go_wp2_with fail
   refine (refusalC 0 92 w3).mono ?_
   rintro y w4 ⟨rfl, hw4⟩
   have F4 := ft_new hw4
   have HD : Hid (Ft w4.heap.size w4 (.iface 74 (.pointer (some ⟨w3.heap.size, 0, none⟩))) 0 92 ∧ Below W.heap.size W w4) := ⟨F4.1, HB3.out.trans (F4.2.mono HB3.out.size)⟩
   clear hw4 F4
   go_wp2
   refine bodyPost_ret (v := .tuple #[.pointer none, .iface 74 (.pointer (some ⟨w3.heap.size, 0, none⟩))]) (by simp [results, Tryz.results32, go_sem]) rfl ?_
   exact ⟨fun _ => ⟨_, rfl, HD⟩, fun q => (by rw [hpl] at q; cases q)⟩
  | true =>
   have hpn := isPl_nat hpl
   have HPLT := hide hpl
   clear hpl
   obtain ⟨m, hm⟩ : ∃ m, ev.toNat = m := ⟨_, rfl⟩
   rw [hm] at hpn
   have hevm : ev = (m : Int) := by omega
   have hm6 : m < 6 := by omega
   obtain ⟨a, ha⟩ : ∃ a, p.en m = a := ⟨_, rfl⟩
   obtain ⟨lf, hlf⟩ : ∃ lf, min fuel 1000 = lf := ⟨_, rfl⟩
   have hld : ldS p ev fuel = if a < 0 then (mk0 a lf).stop 8 else mk0 a lf := by
    unfold ldS ld0
    rw [hm, ha, hlf]
   have HLD := hide hld
   clear hld
   have HMIN := hide hlf
   have HPA : Hid (w3.cell? ⟨W.heap.size, 2 + m, none⟩ = some (.int .i64 a)) := by
    have q : m = 0 ∨ m = 1 ∨ m = 2 ∨ m = 3 ∨ m = 4 ∨ m = 5 := by omega
    rw [← ha]
    rcases q with rfl | rfl | rfl | rfl | rfl | rfl <;> exact block_cell HP1.out _
   obtain ⟨ca, sa, ia, cc, sc, ic, cb, co, sb, so, ib, io⟩ := g
   obtain ⟨x0, x1, x2, x3, x4, x5, x6, x7⟩ := e
   simp only at HP1 HP2 HGI HBU ⊢
   obtain ⟨eK, heK⟩ : ∃ eK, En.ek ⟨x0, x1, x2, x3, x4, x5, x6, x7⟩ = eK := ⟨_, rfl⟩
   obtain ⟨eV, heV⟩ : ∃ eV, En.ev ⟨x0, x1, x2, x3, x4, x5, x6, x7⟩ = eV := ⟨_, rfl⟩
   rw [heK, heV] at HBU
   have HEK := hide heK
   have HEV := hide heV
   obtain ⟨pb, hpb⟩ : ∃ pb, W.heap.size = pb := ⟨_, rfl⟩
   obtain ⟨eb, heb⟩ : ∃ eb, pb + 1 = eb := ⟨_, rfl⟩
   have HS : Hid (∀ w', Below w3.heap.size w3 w' → (fun (w : World) => (w.cell? ⟨pb, 0, none⟩ = some (.slice ca p.nc cc) ∧ w.cell? ⟨pb, 1, none⟩ = some (.slice sa p.ns sc) ∧ w.cell? ⟨pb, 2 + m, none⟩ = some (.int .i64 a) ∧ w.cell? ⟨pb, 8, none⟩ = some (.slice ia p.n ic) ∧ pb < w.heap.size) ∧ (w.cell? ⟨eb, 0, none⟩ = some (.int .u64 x0) ∧ w.cell? ⟨eb, 1, none⟩ = some (.int .u64 x1) ∧ w.cell? ⟨eb, 2, none⟩ = some (.int .u64 x2) ∧ w.cell? ⟨eb, 3, none⟩ = some (.int .u64 x3) ∧ w.cell? ⟨eb, 4, none⟩ = some (.int .u64 x4) ∧ w.cell? ⟨eb, 5, none⟩ = some (.int .u64 x5) ∧ w.cell? ⟨eb, 6, none⟩ = some (.int .u64 x6) ∧ w.cell? ⟨eb, 7, none⟩ = some (.bool x7) ∧ eb < w.heap.size)) w') := fun w' hb => by
    have p0 := (hb.block _ (block_lt HP1.out)).trans HP1.out
    have q0 := (hb.block _ (block_lt HP2.out)).trans HP2.out
    rw [hpb] at p0
    rw [hpb, heb] at q0
    have pa := (hb.cell (p := ⟨W.heap.size, 2 + m, none⟩) (block_lt HP1.out)).trans HPA.out
    rw [hpb] at pa
    exact ⟨⟨block_cell p0 0, block_cell p0 1, pa, block_cell p0 8, block_lt p0⟩, block_cell q0 0, block_cell q0 1, block_cell q0 2, block_cell q0 3, block_cell q0 4, block_cell q0 5, block_cell q0 6, block_cell q0 7, block_lt q0⟩
   have HC1 : Hid (∀ w1, Below w3.heap.size w3 w1 → Calls Tryz.prog 66 #[.slice ca p.nc cc] w1 fun e w' => ∃ va vp, e = .returned (.slice va p.nc vp) ∧ Hid (w'.ownsRow w3.heap.size 28 1 (.slice va p.nc vp) p.nc (nums .u64 p.C p.nc) ∧ Below w3.heap.size w3 w')) := fun w1 hb => by
    have ok := (HOK3.out.wide HB3.out.size).kept hb (Nat.le_refl _)
    refine (copied64 (fun e => ⟨(ok.hc e).1, Nat.lt_of_lt_of_le (ok.hc e).2 hb.size⟩) ok.vc (by have := HWF.out.sz; omega)).mono ?_
    rintro y w' ⟨v, rfl, q⟩
    obtain ⟨va, vp, rfl⟩ := own_val q.out.1
    exact ⟨va, vp, rfl, own_low q.out.1 hb.size, hb.trans (q.out.2.mono hb.size)⟩
   have HC2 : Hid (∀ w1, Below w3.heap.size w3 w1 → Calls Tryz.prog 67 #[.slice ia p.n ic] w1 fun e w' => ∃ va vp, e = .returned (.slice va p.n vp) ∧ Hid (Irow w' w3.heap.size (.slice va p.n vp) p.n p.op p.arg ∧ Below w3.heap.size w3 w' ∧ Below w1.heap.size w1 w')) := fun w1 hb => by
    have ok := (HOK3.out.wide HB3.out.size).kept hb (Nat.le_refl _)
    refine (copiedP (fun e => ⟨(ok.hi e).1, Nat.lt_of_lt_of_le (ok.hi e).2 hb.size⟩) ok.vo ok.va (by have := HWF.out.sz; omega)).mono ?_
    rintro y w' ⟨v, rfl, q⟩
    obtain ⟨va, vp, rfl⟩ := own_val2 q.out.1
    exact ⟨va, vp, rfl, own_low q.out.1 hb.size, hb.trans (q.out.2.mono hb.size), q.out.2⟩
   have HC3 := HGI
   have HBD : Hid (∀ va vp ia ip w, (Instr.build 140 #[(0, .bool true), (1, .slice va p.nc vp), (2, .slice ia p.n ip), (3, .agg gl.toArray), (4, .int .u64 x2), (6, .int .i64 (p.ns : Nat)), (9, .int .i64 a), (10, .int .u64 lf)]).run Tryz.prog w = .ok (.agg (cellsM ⟨.slice va p.nc vp, .slice ia p.n ip, eK, eV, x2, fun _ => 0, p.ns⟩ (mk0 a lf)).toArray) w) := fun va vp ia ip w => HBU.out va vp ia ip a lf w
   have HSR : Hid (∀ w', Below w3.heap.size w3 w' → (∀ i, i < p.ns → w'.cell? ⟨sb, so + i, none⟩ = some (.int .i64 (p.S i))) ∧ (0 < p.ns → sa = some ⟨sb, so, none⟩ ∧ sb < W.heap.size) ∧ w'.cell? ⟨pb, 1, none⟩ = some (.slice sa p.ns sc) ∧ pb < w'.heap.size) := fun w' hb => by
    have ok := (HOK3.out.wide HB3.out.size).kept hb (Nat.le_refl _)
    exact ⟨ok.vs, HOK3.out.hs, (HS.out w' hb).1.2.1, (HS.out w' hb).1.2.2.2.2⟩
   clear HBU HGI HP1 HP2 HPA hlf heK heV hm ha hpn
   subst hevm
   go_upto_region 6 with fail
   rw [hpb, heb]
   obtain ⟨wz, hwz⟩ : ∃ wz, (w3).drew = wz := ⟨_, rfl⟩
   have HS9 : Hid ((fun (w : World) => (w.cell? ⟨pb, 0, none⟩ = some (.slice ca p.nc cc) ∧ w.cell? ⟨pb, 1, none⟩ = some (.slice sa p.ns sc) ∧ w.cell? ⟨pb, 2 + m, none⟩ = some (.int .i64 a) ∧ w.cell? ⟨pb, 8, none⟩ = some (.slice ia p.n ic) ∧ pb < w.heap.size) ∧ (w.cell? ⟨eb, 0, none⟩ = some (.int .u64 x0) ∧ w.cell? ⟨eb, 1, none⟩ = some (.int .u64 x1) ∧ w.cell? ⟨eb, 2, none⟩ = some (.int .u64 x2) ∧ w.cell? ⟨eb, 3, none⟩ = some (.int .u64 x3) ∧ w.cell? ⟨eb, 4, none⟩ = some (.int .u64 x4) ∧ w.cell? ⟨eb, 5, none⟩ = some (.int .u64 x5) ∧ w.cell? ⟨eb, 6, none⟩ = some (.int .u64 x6) ∧ w.cell? ⟨eb, 7, none⟩ = some (.bool x7) ∧ eb < w.heap.size)) wz) := by rw [← hwz]; exact HS.out _ (Below.refl _ _).drew
   refine wp_region_L 99 (fun _ => True) (fun (w : World) => (w.cell? ⟨pb, 0, none⟩ = some (.slice ca p.nc cc) ∧ w.cell? ⟨pb, 1, none⟩ = some (.slice sa p.ns sc) ∧ w.cell? ⟨pb, 2 + m, none⟩ = some (.int .i64 a) ∧ w.cell? ⟨pb, 8, none⟩ = some (.slice ia p.n ic) ∧ pb < w.heap.size) ∧ (w.cell? ⟨eb, 0, none⟩ = some (.int .u64 x0) ∧ w.cell? ⟨eb, 1, none⟩ = some (.int .u64 x1) ∧ w.cell? ⟨eb, 2, none⟩ = some (.int .u64 x2) ∧ w.cell? ⟨eb, 3, none⟩ = some (.int .u64 x3) ∧ w.cell? ⟨eb, 4, none⟩ = some (.int .u64 x4) ∧ w.cell? ⟨eb, 5, none⟩ = some (.int .u64 x5) ∧ w.cell? ⟨eb, 6, none⟩ = some (.int .u64 x6) ∧ w.cell? ⟨eb, 7, none⟩ = some (.bool x7) ∧ eb < w.heap.size)) (by kernel_rfl) trivial (by rw [hwz]; exact HS9.out) (fun hS0 => ?_)
   rw [hwz] at hS0 ⊢
   refine wpAnyL_take (i := 0) (oi := ⟨some 25, .fieldAddr 27 (.tmp 4) 0, 0, "machine.go:47", #[], none⟩) (v := .pointer (some ⟨pb, 0, none⟩)) rfl (by decide) (by kernel_rfl) (by kernel_rfl) (by kernel_rfl) (fun _ _ _ h => h) (Or.inl ⟨by rfl, fun w2 hSw => ?_⟩) hS0 (fun hS1 => ?_)
   ·go_simp
   simp only [Act.put, lsA, lsB, lsC]
   clear hS0
   refine wpAnyL_take (i := 1) (oi := ⟨some 26, .load 22 (.tmp 25), 22, "machine.go:47", #[⟨0, .data⟩], none⟩) (v := .slice ca p.nc cc) rfl (by decide) (by kernel_rfl) (by kernel_rfl) (by kernel_rfl) (fun _ _ _ h => h) (Or.inl ⟨by rfl, fun w2 hSw => ?_⟩) hS1 (fun hS2 => ?_)
   ·obtain ⟨⟨k0, k1, k2, k8, kl⟩, e0, e1, e2, e3, e4, e5, e6, e7, el⟩ := hSw
    go_simp
   simp only [Act.put, lsA, lsB, lsC]
   clear hS1
   refine wpAnyL_take (i := 3) (oi := ⟨some 28, .fieldAddr 27 (.tmp 4) 3, 0, "machine.go:47", #[], none⟩) (v := .pointer (some ⟨pb, 8, none⟩)) rfl (by decide) (by kernel_rfl) (by kernel_rfl) (by kernel_rfl) (fun _ _ _ h => h) (Or.inl ⟨by rfl, fun w2 hSw => ?_⟩) hS2 (fun hS3 => ?_)
   ·go_simp
   simp only [Act.put, lsA, lsB, lsC]
   clear hS2
   refine wpAnyL_take (i := 4) (oi := ⟨some 29, .load 25 (.tmp 28), 25, "machine.go:47", #[⟨3, .data⟩], none⟩) (v := .slice ia p.n ic) rfl (by decide) (by kernel_rfl) (by kernel_rfl) (by kernel_rfl) (fun _ _ _ h => h) (Or.inl ⟨by rfl, fun w2 hSw => ?_⟩) hS3 (fun hS4 => ?_)
   ·obtain ⟨⟨k0, k1, k2, k8, kl⟩, e0, e1, e2, e3, e4, e5, e6, e7, el⟩ := hSw
    go_simp
   simp only [Act.put, lsA, lsB, lsC]
   clear hS3
   refine wpAnyL_take (i := 6) (oi := ⟨some 31, .load 30 (.tmp 6), 30, "machine.go:47", #[], none⟩) (v := .agg #[.int .u64 x0, .int .u64 x1, .int .u64 x2, .int .u64 x3, .int .u64 x4, .int .u64 x5, .int .u64 x6, .bool x7]) rfl (by decide) (by kernel_rfl) (by kernel_rfl) (by kernel_rfl) (fun _ _ _ h => h) (Or.inl ⟨by rfl, fun w2 hSw => ?_⟩) hS4 (fun hS5 => ?_)
   ·obtain ⟨⟨k0, k1, k2, k8, kl⟩, e0, e1, e2, e3, e4, e5, e6, e7, el⟩ := hSw
    go_simp
   simp only [Act.put, lsA, lsB, lsC]
   clear hS4
   refine wpAnyL_take (i := 8) (oi := ⟨some 33, .fieldAddr 30 (.tmp 6) 2, 0, "machine.go:47", #[], none⟩) (v := .pointer (some ⟨eb, 2, none⟩)) rfl (by decide) (by kernel_rfl) (by kernel_rfl) (by kernel_rfl) (fun _ _ _ h => h) (Or.inl ⟨by rfl, fun w2 hSw => ?_⟩) hS5 (fun hS6 => ?_)
   ·go_simp
   simp only [Act.put, lsA, lsB, lsC]
   clear hS5
   refine wpAnyL_take (i := 9) (oi := ⟨some 34, .load 28 (.tmp 33), 28, "machine.go:47", #[⟨8, .data⟩], none⟩) (v := .int .u64 x2) rfl (by decide) (by kernel_rfl) (by kernel_rfl) (by kernel_rfl) (fun _ _ _ h => h) (Or.inl ⟨by rfl, fun w2 hSw => ?_⟩) hS6 (fun hS7 => ?_)
   ·obtain ⟨⟨k0, k1, k2, k8, kl⟩, e0, e1, e2, e3, e4, e5, e6, e7, el⟩ := hSw
    go_simp
   simp only [Act.put, lsA, lsB, lsC]
   clear hS6
   refine wpAnyL_take (i := 10) (oi := ⟨some 35, .fieldAddr 27 (.tmp 4) 1, 0, "machine.go:47", #[], none⟩) (v := .pointer (some ⟨pb, 1, none⟩)) rfl (by decide) (by kernel_rfl) (by kernel_rfl) (by kernel_rfl) (fun _ _ _ h => h) (Or.inl ⟨by rfl, fun w2 hSw => ?_⟩) hS7 (fun hS8 => ?_)
   ·go_simp
   simp only [Act.put, lsA, lsB, lsC]
   clear hS7
   refine wpAnyL_take (i := 11) (oi := ⟨some 36, .load 23 (.tmp 35), 23, "machine.go:47", #[⟨10, .data⟩], none⟩) (v := .slice sa p.ns sc) rfl (by decide) (by kernel_rfl) (by kernel_rfl) (by kernel_rfl) (fun _ _ _ h => h) (Or.inl ⟨by rfl, fun w2 hSw => ?_⟩) hS8 (fun hS9 => ?_)
   ·obtain ⟨⟨k0, k1, k2, k8, kl⟩, e0, e1, e2, e3, e4, e5, e6, e7, el⟩ := hSw
    go_simp
   simp only [Act.put, lsA, lsB, lsC]
   clear hS8
   refine wpAnyL_take (i := 12) (oi := ⟨some 37, .call { callee := Callee.builtin .len, args := #[.tmp 36], argTypes := #[23] }, 3, "machine.go:47", #[⟨11, .data⟩], none⟩) (v := .int .i64 (p.ns : Nat)) rfl (by decide) (by kernel_rfl) (by kernel_rfl) (by kernel_rfl) (fun _ _ _ h => h) (Or.inl ⟨by rfl, fun w2 hSw => ?_⟩) hS9 (fun hS10 => ?_)
   ·go_simp
   simp only [Act.put, lsA, lsB, lsC]
   clear hS9
   refine wpAnyL_take (i := 13) (oi := ⟨some 38, .move (.tmp 1), 3, "machine.go:47", #[], none⟩) (v := .int .i64 (m : Nat)) rfl (by decide) (by kernel_rfl) (by kernel_rfl) (by kernel_rfl) (fun _ _ _ h => h) (Or.inl ⟨by rfl, fun w2 hSw => ?_⟩) hS10 (fun hS11 => ?_)
   ·go_simp
   simp only [Act.put, lsA, lsB, lsC]
   clear hS10
   refine wpAnyL_take (i := 14) (oi := ⟨some 39, .fieldAddr 27 (.tmp 4) 2, 0, "machine.go:47", #[], none⟩) (v := .pointer (some ⟨pb, 2, none⟩)) rfl (by decide) (by kernel_rfl) (by kernel_rfl) (by kernel_rfl) (fun _ _ _ h => h) (Or.inl ⟨by rfl, fun w2 hSw => ?_⟩) hS11 (fun hS12 => ?_)
   ·go_simp
   simp only [Act.put, lsA, lsB, lsC]
   clear hS11
   refine wpAnyL_take (i := 15) (oi := ⟨some 40, .indexAddr 24 (.tmp 39) (.tmp 38), 0, "machine.go:47", #[⟨14, .data⟩, ⟨13, .data⟩], none⟩) (v := .pointer (some ⟨pb, 2 + m, none⟩)) rfl (by decide) (by kernel_rfl) (by kernel_rfl) (by kernel_rfl) (fun _ _ _ h => h) (Or.inl ⟨by rfl, fun w2 hSw => ?_⟩) hS12 (fun hS13 => ?_)
   ·go_simp
    all_goals (intro hx; omega)
   simp only [Act.put, lsA, lsB, lsC]
   clear hS12
   refine wpAnyL_take (i := 16) (oi := ⟨some 41, .load 3 (.tmp 40), 3, "machine.go:47", #[⟨15, .data⟩], none⟩) (v := .int .i64 a) rfl (by decide) (by kernel_rfl) (by kernel_rfl) (by kernel_rfl) (fun _ _ _ h => h) (Or.inl ⟨by rfl, fun w2 hSw => ?_⟩) hS13 (fun hS14 => ?_)
   ·obtain ⟨⟨k0, k1, k2, k8, kl⟩, e0, e1, e2, e3, e4, e5, e6, e7, el⟩ := hSw
    go_simp
   simp only [Act.put, lsA, lsB, lsC]
   clear hS13
   refine wpAnyL_take (i := 17) (oi := ⟨some 42, .move (.tmp 3), 28, "machine.go:47", #[], none⟩) (v := .int .u64 fuel) rfl (by decide) (by kernel_rfl) (by kernel_rfl) (by kernel_rfl) (fun _ _ _ h => h) (Or.inl ⟨by rfl, fun w2 hSw => ?_⟩) hS14 (fun hS15 => ?_)
   ·go_simp
   simp only [Act.put, lsA, lsB, lsC]
   clear hS14
   refine wpAnyL_take (i := 18) (oi := ⟨some 43, .call { callee := Callee.builtin .min, args := #[.tmp 42, .const (.int .u64 1000)], argTypes := #[28, 28] }, 28, "machine.go:47", #[⟨17, .data⟩], none⟩) (v := .int .u64 lf) rfl (by decide) (by kernel_rfl) (by kernel_rfl) (by kernel_rfl) (fun _ _ _ h => h) (Or.inl ⟨by rfl, fun w2 hSw => ?_⟩) hS15 (fun hS16 => ?_)
   ·go_simp
    exact HMIN.out
   simp only [Act.put, lsA, lsB, lsC]
   clear hS15
   clear hS16
   refine wpAnyL_one (i := 2) (o := ⟨some 27, .call { callee := Callee.value (.func 66), args := #[.tmp 26], argTypes := #[22] }, 22, "machine.go:49", #[⟨1, .data⟩], none⟩) (by kernel_rfl) rfl (fun K hK => ?_)
   go_simp
   go_wp2_with fail
   have B0 : Hid (Below w3.heap.size w3 wz) := by rw [← hwz]; exact (Below.refl _ _).drew
   refine (HC1.out wz B0.out).mono ?_
   rintro e w5 ⟨vca, vcp, rfl, G5⟩
   go_simp
   refine hK.out _ _ ⟨fun _ => trivial, HS.out _ G5.out.2⟩ ?_
   clear hK K
   refine wpAnyL_one (i := 5) (o := ⟨some 30, .call { callee := Callee.value (.func 67), args := #[.tmp 29], argTypes := #[25] }, 25, "machine.go:50", #[⟨4, .data⟩, ⟨2, .chain⟩], none⟩) (by kernel_rfl) rfl (fun K hK => ?_)
   go_simp
   go_wp2_with fail
   refine (HC2.out w5 G5.out.2).mono ?_
   rintro e w6 ⟨via, vip, rfl, G6⟩
   go_simp
   refine hK.out _ _ ⟨fun _ => trivial, HS.out _ G6.out.2.1⟩ ?_
   clear hK K
   refine wpAnyL_one (i := 7) (o := ⟨some 32, .call { callee := Callee.value (.func 68), args := #[.tmp 31], argTypes := #[30] }, 135, "machine.go:51", #[⟨6, .data⟩, ⟨5, .chain⟩], none⟩) (by kernel_rfl) rfl (fun K hK => ?_)
   go_simp
   go_wp2_with fail
   refine (HC3.out w6).mono ?_
   rintro e w7 ⟨rfl, G7⟩
   have B7 : Hid (Below w3.heap.size w3 w7) := G6.out.2.1.trans (G7.out.mono G6.out.2.1.size)
   obtain ⟨L, hL⟩ : ∃ L, cellsM ⟨.slice vca p.nc vcp, .slice via p.n vip, eK, eV, x2, fun _ => 0, p.ns⟩ (mk0 a lf) = L := ⟨_, rfl⟩
   have HL := hide hL
   have HBL : Hid (∀ w, (Instr.build 140 #[(0, .bool true), (1, .slice vca p.nc vcp), (2, .slice via p.n vip), (3, .agg gl.toArray), (4, .int .u64 x2), (6, .int .i64 (p.ns : Nat)), (9, .int .i64 a), (10, .int .u64 lf)]).run Tryz.prog w = .ok (.agg L.toArray) w) := fun w => by rw [← hL]; exact HBD.out vca vcp via vip w
   clear hL
   go_simp
   refine hK.out _ _ ⟨fun _ => trivial, HS.out _ B7.out⟩ ?_
   clear hK K
   refine wpAnyL_take (i := 19) (oi := ⟨some 44, .build 140 #[(0, .const (.bool true)), (1, .tmp 27), (2, .tmp 30), (3, .tmp 32), (4, .tmp 34), (6, .tmp 37), (9, .tmp 41), (10, .tmp 43)], 140, "machine.go:47", #[⟨2, .data⟩, ⟨5, .data⟩, ⟨7, .data⟩, ⟨9, .data⟩, ⟨12, .data⟩, ⟨16, .data⟩, ⟨18, .data⟩], none⟩) (v := .agg L.toArray) rfl (by decide) (by kernel_rfl) (by kernel_rfl) (by kernel_rfl) (fun _ _ _ h => h) (Or.inl ⟨by rfl, fun w2 hSw => ?_⟩) ⟨fun _ => trivial, HS.out _ B7.out⟩ (fun hS50 => ?_)
   ·exact exec_build (t := 140) (parts := #[(0, .const (.bool true)), (1, .tmp 27), (2, .tmp 30), (3, .tmp 32), (4, .tmp 34), (6, .tmp 37), (9, .tmp 41), (10, .tmp 43)]) rfl (by have h := HBL.out w2; simpa [Act.eval] using h)
   simp only [Act.put, lsA, lsB, lsC]
   clear hS50
   refine wpAnyL_one (i := 20) (o := ⟨some 45, .box 140 (.tmp 44), 80, "machine.go:47", #[⟨19, .data⟩], none⟩) (by kernel_rfl) rfl (fun K hK => ?_)
   go_simp
   go_wp2_with fail
   obtain ⟨w8, hw8⟩ : ∃ w8, w7.alloc (.cells L.toArray 140) = w8 := ⟨_, rfl⟩
   rw [hw8]
   have B8 : Hid (Below w7.heap.size w7 w8) := by rw [← hw8]; exact below_alloc1 _ _
   have A8 : Hid (w8.heap[w7.heap.size]? = some (.cells L.toArray 140 (0, 0))) := by rw [← hw8]; exact alloc_atK _ _
   clear hw8
   refine hK.out _ _ ⟨fun _ => trivial, HS.out _ (B7.out.trans (B8.out.mono B7.out.size))⟩ ?_
   clear hK K
   refine wpAnyL_one (i := 21) (o := ⟨some 11, .assign (.tmp 45), 80, "machine.go:47", #[⟨20, .data⟩, ⟨7, .chain⟩, ⟨0, .phase⟩, ⟨1, .phase⟩, ⟨2, .phase⟩, ⟨3, .phase⟩, ⟨4, .phase⟩, ⟨5, .phase⟩, ⟨6, .phase⟩, ⟨7, .phase⟩, ⟨8, .phase⟩, ⟨9, .phase⟩, ⟨10, .phase⟩, ⟨11, .phase⟩, ⟨12, .phase⟩, ⟨13, .phase⟩, ⟨14, .phase⟩, ⟨15, .phase⟩, ⟨16, .phase⟩, ⟨17, .phase⟩, ⟨18, .phase⟩, ⟨19, .phase⟩, ⟨20, .phase⟩], none⟩) (by kernel_rfl) rfl (fun K hK => ?_)
   go_simp
   go_wp2_with fail
   refine hK.out _ _ ⟨fun _ => trivial, HS.out _ (B7.out.trans (B8.out.mono B7.out.size))⟩ ?_
   clear hK K
   refine wpAnyL_done (by kernel_rfl) ?_ _
   clear HS9

   have HM8 : Hid (Pm ⟨.slice vca p.nc vcp, .slice via p.n vip, eK, eV, x2, kdJ p 0, p.ns⟩ w7.heap.size (mk0 a lf) w8) := ⟨by
    have e0 : (fun _ => (0 : Int)) = kdJ p 0 := by funext i; simp [kdJ]
    rw [← e0, HL.out]
    exact A8.out⟩
   have B38 : Hid (Below w3.heap.size w3 w8) := B7.out.trans (B8.out.mono B7.out.size)
   have HRC : Hid (w7.ownsRow w3.heap.size 28 1 (.slice vca p.nc vcp) p.nc (nums .u64 p.C p.nc)) := own_keep (own_keep G5.out.1 G6.out.2.2) G7.out
   have HRI : Hid (Irow w7 w3.heap.size (.slice via p.n vip) p.n p.op p.arg) := own_keep G6.out.1 G7.out
   obtain ⟨s0, hsa, s1, pl⟩ := HSR.out w8 B38.out
   have hn128 := HWF.out.sz.2.1
   have HJ0 : Hid (Ls W p ⟨ca, sa, ia, cc, sc, ic, cb, co, sb, so, ib, io⟩ (.slice vca p.nc vcp) (.slice via p.n vip) eK eV x2 w7.heap.size (mk0 a lf) w8 0 w8) := ⟨HM8.out, grown_below (Below.refl _ _), s0, fun q => Nat.lt_of_lt_of_le (hsa q).2 (Nat.le_trans HB3.out.size B38.out.size), hn128⟩
   have HWM : Hid (W.heap.size ≤ w7.heap.size) := Nat.le_trans HB3.out.size B7.out.size
   have HSA := hide hsa
   have HFIN : Hid (∀ sE w9, Pm ⟨.slice vca p.nc vcp, .slice via p.n vip, eK, eV, x2, kdJ p p.ns, p.ns⟩ w7.heap.size sE w9 → w8.grownBy w9 (some w7.heap.size) → LdOk W p ⟨x0, x1, x2, x3, x4, x5, x6, x7⟩ sE ⟨.slice vca p.nc vcp, .slice via p.n vip, eK, eV, x2, kdJ p p.ns, p.ns⟩ w7.heap.size w9) := fun sE w9 h1 h2 => by
    have b79 : Below w7.heap.size w7 w9 := B8.out.grown h2 B8.out.size (fun q e => by cases e; exact Nat.le_refl _)
    exact ⟨h1, mr_of HRC.out HRI.out (Nat.le_refl _) b79 (fun j hj => by show kdJ p p.ns j = _; simp [kdJ, hj]), HB3.out.trans ((B7.out.trans (b79.mono B7.out.size)).mono HB3.out.size), HWM.out, HEK.out.symm, HEV.out.symm, rfl, rfl, rfl, fun q e => ⟨Nat.le_trans HB3.out.size (HRC.out.lt q e).1, by obtain ⟨_, cs, hc⟩ := own_typ2 HRC.out e; exact ⟨cs, (b79.block _ (block_lt hc)).trans hc⟩⟩, fun q e => ⟨Nat.le_trans HB3.out.size (HRI.out.lt q e).1, by obtain ⟨_, cs, hc⟩ := own_typ2 HRI.out e; exact ⟨cs, (b79.block _ (block_lt hc)).trans hc⟩⟩⟩
   clear hsa s0 HS HC1 HC2 HC3 HBD HSR HM8 HRC HRI G5 G6 G7 A8 B0 B38 HL HBL HEK HEV HB3 HOK3 B7 B8
   generalize w7.heap.size = mb at *
   go_wp2
   go_loopw [49] (fun i wr => ∃ j : Nat, j ≤ p.ns ∧ i = .int .i64 (j : Nat) ∧ Hid (Ls W p ⟨ca, sa, ia, cc, sc, ic, cb, co, sb, so, ib, io⟩ (.slice vca p.nc vcp) (.slice via p.n vip) eK eV x2 mb (mk0 a lf) w8 j wr)) (fun i _ => p.ns - (intOf i).toNat)
   case atStart => exact ⟨0, by omega, rfl, HJ0⟩
   case round =>
    obtain ⟨j, hj, rfl, HJ⟩ := hrel
    clear HJ0 s1 pl
    have ml := HJ.out.m.lt
    by_cases hlt : j < p.ns
    ·have hv : wr.cell? ⟨sb, so + j, none⟩ = some (.int .i64 (p.S j)) := HJ.out.v j hlt
     have hbl : sb < wr.heap.size := HJ.out.l (by omega)
     obtain ⟨hs1, hs2⟩ := HSA.out (by omega)
     have hne : sb ≠ mb := by have := HWM.out; omega
     have HN := hide (HJ.out.next hlt hne)
     have cm := HJ.out.m.cell (i := 20 + j * 2) (by omega)
     have fm := HJ.out.m.free (20 + j * 2)
     have h128 : j < 128 := by omega
     subst hs1
     clear HJ
     generalize fcell _ _ (20 + j * 2) = ov at *
     go_wp2
     go_roundw
     case rel => exact ⟨j + 1, by omega, by go_num, HN⟩
     case measure => simp [intOf]; omega
    ·obtain rfl : j = p.ns := by omega
     have c6 : wr.cell? ⟨mb, 406, none⟩ = some (.int .i64 a) := HJ.out.m.cell (i := 406) (by decide)
     by_cases hneg : a < 0
     ·have e9 : decide (a < 0) = true := decide_eq_true hneg
      go_wp2_with fail
      refine (stopC HJ.out.m 8).mono ?_
      rintro y w9 ⟨rfl, G9⟩
      have HE := hide (HFIN.out _ w9 G9.out.1 (grown_tr HJ.out.gr G9.out.2))
      go_wp2
      refine bodyPost_ret (v := .tuple #[.pointer (some ⟨mb, 0, none⟩), .nilIface]) (by simp [results, Tryz.results32, go_sem]) rfl ?_
      refine ⟨fun q => (by rw [HPLT.out] at q; cases q), fun _ => ⟨mb, ⟨.slice vca p.nc vcp, .slice via p.n vip, eK, eV, x2, kdJ p p.ns, p.ns⟩, rfl, hide (by rw [HLD.out, if_pos hneg]; exact HE.out)⟩⟩
     ·have e9 : decide (a < 0) = false := decide_eq_false hneg
      have HE := hide (HFIN.out _ wr HJ.out.m HJ.out.gr)
      go_wp2
      refine bodyPost_ret (v := .tuple #[.pointer (some ⟨mb, 0, none⟩), .nilIface]) (by simp [results, Tryz.results32, go_sem]) rfl ?_
      refine ⟨fun q => (by rw [HPLT.out] at q; cases q), fun _ => ⟨mb, ⟨.slice vca p.nc vcp, .slice via p.n vip, eK, eV, x2, kdJ p p.ns, p.ns⟩, rfl, hide (by rw [HLD.out, if_neg (by omega)]; exact HE.out)⟩⟩
end Go.Proofs.YtggpaljilpbmhaaGreatDoor
namespace Go.Proofs.YtggpaljilpbmhaaGreatDoor
open Go.RowKit

/-- An environment whose numbers are numbers. -/
structure En.Ok (e : En) : Prop where
 b : ∀ i, i < 7 → 0 ≤ e.ev i ∧ e.ev i < two64
theorem En.Ok.me {e : En} (h : e.Ok) {p : Pv} {k : Kn} (hv : verF p = .ok k) (hC : ∀ j, j < p.nc → 0 ≤ p.C j ∧ p.C j < two64) : Me p k e.ek e.ev e.x2 := by
 refine ⟨ver_wf hv, flow_of hv, hC, fun a ha => ?_, (h.b 2 (by decide)).1, (h.b 2 (by decide)).2⟩
 by_cases q : a = 7
 ·subst q
  refine ⟨rfl, ?_⟩
  have e1 : e.ev 7 = bI e.x7 := rfl
  have e2 : e.ek 7 = 1 := rfl
  rw [e1, e2]
  exact Okv.bit (by cases e.x7 <;> simp [bI])
 ·have e2 : e.ek a = 0 := by unfold En.ek; rw [if_neg q]
  refine ⟨by rw [e2]; simp [bI, q], ?_⟩
  rw [e2]
  exact Okv.num (h.b a (by omega)).1 (h.b a (by omega)).2
theorem ld_tm {p : Pv} {k : Kn} {hd ev fuel : Int} (hv : verF p = .ok k) (hp : isPl ev 6 = true) (hf : 0 ≤ fuel) (h0 : 0 ≤ hd) : Tm p k hd (ldS p ev fuel) := by
 have hw := ver_wf hv
 have hfl := flow_of hv
 have hpn := isPl_nat hp
 have hen := hw.en ev.toNat (by omega)
 have hsl : ∀ j, j < p.ns → Okv (p.S j) 0 := fun j hj => by
  rcases hw.sl j hj with q | q <;> rw [q]
  ·exact Okv.num (by omega) (by decide)
  ·exact Okv.bit (.inl rfl)
 unfold ldS
 by_cases q : p.en ev.toNat < 0
 ·rw [if_pos q]
  exact ⟨fun e => (by cases e), hsl, by show 0 ≤ min fuel 1000; omega, by show min fuel 1000 ≤ 1000; omega, Int.le_refl _, Int.le_refl _, Int.le_refl _, h0, by show (0 : Int) ≤ 8; decide, by show (8 : Int) ≤ 8; decide, fun _ => rfl⟩
 ·rw [if_neg q]
  refine ⟨fun _ => ?_, hsl, by show 0 ≤ min fuel 1000; omega, by show min fuel 1000 ≤ 1000; omega, Int.le_refl _, Int.le_refl _, Int.le_refl _, h0, by show (0 : Int) ≤ 0; decide, by show (0 : Int) ≤ 8; decide, fun e => (by cases e)⟩
  rcases hen with q2 | q2
  ·omega
  ·have h3 := isPl_nat q2
   have h4 := hfl.en ev.toNat (by omega) (by omega)
   exact ⟨(p.en ev.toNat).toNat, [], h3.1, h3.2, h4, rfl, fun j b e => (by simp at e), fun j hj => absurd hj (Nat.not_lt_zero j)⟩
/-- The state at the end. -/
def endS (p : Pv) (e : En) (s : Ms) : Ms := runN p e.ek e.ev e.x2 1200000 s
theorem end_ov {p : Pv} {k : Kn} {e : En} {s : Ms} (he : Me p k e.ek e.ev e.x2) (ht : Tm p k e.x2 s) : (endS p e s).ov = true := runN_end he ht (mu_le ht he.wf)
def RunR (W : World) (p : Pv) (ev : Int) (e : En) (fuel : Int) (r : Except (Int × Int) Kn) (x : Ending) (w' : World) : Prop := match r with
 | .error (a, y) => ∃ g, x = .returned (.tuple #[.agg outZ, .iface 74 (.pointer (some ⟨g, 0, none⟩))]) ∧ Hid (Ft w'.heap.size w' (.iface 74 (.pointer (some ⟨g, 0, none⟩))) a y ∧ Below W.heap.size W w')
 | .ok _ => (isPl ev 6 = false → ∃ g, x = .returned (.tuple #[.agg outZ, .iface 74 (.pointer (some ⟨g, 0, none⟩))]) ∧ Hid (Ft w'.heap.size w' (.iface 74 (.pointer (some ⟨g, 0, none⟩))) 0 92 ∧ Below W.heap.size W w')) ∧
  (isPl ev 6 = true → x = .returned (.tuple #[.agg (outA (endS p e (ldS p ev fuel))), .nilIface]) ∧ Hid (Below W.heap.size W w'))
theorem Ft.off {W W' : World} {v : Value} {q : Nat} {t : TypeId} {cs : Array Value} {a y : Int} (h : Ft W.heap.size W v a y) (hq : W.heap[q]? = some (.cells cs t (0, 0))) (ht : ∀ x, cs[0]? ≠ some (.string x)) (hg : W.grownBy W' (some q)) : Ft W'.heap.size W' v a y := by
 obtain ⟨g, u', hv, hl, c0, c1, c2, hr⟩ := h
 have hne : some g ≠ some q := fun e => by cases e; rw [block_cell hq 0] at c0; exact ht _ c0
 exact ⟨g, u', hv, Nat.lt_of_lt_of_le hl hg.size, (grown_cell hg hl hne).trans c0, (grown_cell hg hl hne).trans c1, (grown_cell hg hl hne).trans c2, hr⟩
/-- Six cells laid over. -/
theorem set6 {w w0 : World} {tb B : Nat} {t : TypeId} {cs : Array Value} (hs : cs.size = 6) (h : w.heap[tb]? = some (.cells cs t (0, 0))) (hB : Below B w0 w) (hk : B ≤ tb) (v0 v1 v2 v3 v4 v5 : Value) {wf : World} (he : (((((w.setCell ⟨tb, 0, none⟩ v0).setCell ⟨tb, 1, none⟩ v1).setCell ⟨tb, 2, none⟩ v2).setCell ⟨tb, 3, none⟩ v3).setCell ⟨tb, 4, none⟩ v4).setCell ⟨tb, 5, none⟩ v5 = wf) :
  wf.heap[tb]? = some (.cells #[v0, v1, v2, v3, v4, v5] t (0, 0)) ∧ Below B w0 wf ∧ w.grownBy wf (some tb) := by
 subst he
 have gr := grown_tr (grown_tr (grown_tr (grown_tr (grown_tr (grown_setT w tb 0 v0) (grown_setT _ tb 1 v1)) (grown_setT _ tb 2 v2)) (grown_setT _ tb 3 v3)) (grown_setT _ tb 4 v4)) (grown_setT _ tb 5 v5)
 refine ⟨?_, hB.grown (row := some tb) gr (by have := block_lt h; omega) (fun q e => by cases e; exact hk), gr⟩
 obtain ⟨l⟩ := cs
 simp only [List.size_toArray] at hs
 match l, hs with
 | [a, b, c, d, e, f], _ => simp [World.setCell, Array.getElem?_modify, h]
theorem three_box2 (W : World) (o1 o2 o3 : Array Value) (t1 t2 t3 : TypeId) {W3 : World} (h : ((W.alloc (.cells o1 t1)).alloc (.cells o2 t2)).alloc (.cells o3 t3) = W3) : W3.heap[W.heap.size]? = some (.cells o1 t1 (0, 0)) ∧ W3.heap[W.heap.size + 1]? = some (.cells o2 t2 (0, 0)) ∧ W3.heap[W.heap.size + 1 + 1]? = some (.cells o3 t3 (0, 0)) ∧ Below W.heap.size W W3 := by
 obtain ⟨a1, a2, b⟩ := two_box2 W o1 o2 t1 t2 rfl
 have b2 := below_alloc1 ((W.alloc (.cells o1 t1)).alloc (.cells o2 t2)) (.cells o3 t3)
 have s1 : ((W.alloc (.cells o1 t1)).alloc (.cells o2 t2)).heap.size = W.heap.size + 1 + 1 := by simp
 rw [h] at b2
 have a3 : W3.heap[W.heap.size + 1 + 1]? = some (.cells o3 t3 (0, 0)) := by rw [← h, ← s1]; exact alloc_atK _ _
 exact ⟨(b2.block _ (block_lt a1)).trans a1, (b2.block _ (block_lt a2)).trans a2, a3, b.trans (b2.mono b.size)⟩
end Go.Proofs.YtggpaljilpbmhaaGreatDoor
