import Derived.Test.YtldhafpeigdloaaGreatDoorM46
import Derived.Test.YtldhafpeigdloaaGreatDoorM42
import Derived.Test.YtldhafpeigdloaaGreatDoorM43
import Derived.Test.YtldhafpeigdloaaGreatDoorVSmB
import Derived.Test.YtldhafpeigdloaaGreatDoorVSmC
import Derived.Test.YtldhafpeigdloaaGreatDoorM27
namespace Go.Proofs.YtldhafpeigdloaaGreatDoor
open Go.RowKit Crc

def setL (cs : List Value) (o : Nat) : List Value → List Value
  | [] => cs
  | v :: r => setL (cs.set o v) (o + 1) r
theorem setL_len : ∀ (vs cs : List Value) (o : Nat), (setL cs o vs).length = cs.length
  | [], _, _ => rfl
  | v :: r, cs, o => by rw [setL, setL_len r]; simp
theorem S3.setMany {w : World} {cs : List Value} {bc : Nat} : ∀ (vs c : List Value) (o : Nat) (W : World), S3 w cs bc c W → S3 w cs bc (setL c o vs) (W.setCells bc o vs)
  | [], c, o, W, h => h
  | v :: r, c, o, W, h => by
    rw [World.setCells, setL]
    exact S3.setMany r _ _ _ (h.set o v)
theorem build_hash0 (w : World) : (Instr.build 33 #[]).run Tryz.prog w = .ok (.agg (vals (List.replicate 32 0)).toArray) w := by kernel_rfl
theorem setL_far : ∀ (vs c : List Value) (o j : Nat), j < o ∨ o + vs.length ≤ j → (setL c o vs)[j]? = c[j]?
  | [], _, _, _, _ => rfl
  | v :: r, c, o, j, h => by
    simp only [List.length_cons] at h
    rw [setL, setL_far r _ _ _ (by omega), List.getElem?_set_ne (by omega)]

set_option maxRecDepth 10000 in
set_option maxHeartbeats 3200000 in
theorem strip_10 (m : Mg) (rl : m.root.length = 32) (hk : m.kind = 10) (w : World) : Calls Tryz.prog 19 #[.agg m.R.toArray] w fun e w' => e = .returned (.agg ({ m with kind := 0, slot := 0, idx := 0, cnt := 0, root := List.replicate 32 0, do_ := none, dn := 0, dc := 0, D := [], po := none, pn := 0, pc := 0, hs := [] } : Mg).R.toArray) ∧ Hid (Below w.heap.size w w') := by
  have HL : Hid (m.R.length = 49) := Mg.len rl
  have HON := hide m.one
  have HF1 := hide (show ({ m with kind := 0, slot := 0, idx := 0, cnt := 0, root := List.replicate 32 0, do_ := none, dn := 0, dc := 0, D := [], po := none, pn := 0, pc := 0, hs := [] } : Mg).R.length = 49 from Mg.len (by show (List.replicate 32 0).length = 32; rfl))
  have HF2 := hide ({ m with kind := 0, slot := 0, idx := 0, cnt := 0, root := List.replicate 32 0, do_ := none, dn := 0, dc := 0, D := [], po := none, pn := 0, pc := 0, hs := [] } : Mg).one
  have HRG : Hid (∀ W1 : World, ∀ Z : Array Value, (w.alloc (.cells m.R.toArray 36)).alloc (.cells Z 36) = W1 → W1.rangeAt w.heap.size 0 m.R) := fun W1 Z h => by
    rw [← h]
    exact blk_range (((World.grownBy_alloc _ _ none).block _ (by simp) (by simp)).trans (alloc_at w _))
  have HX0 : Hid (m.R[0]? = some (.int .i64 10)) := by show _ = _; rw [← hk]; rfl
  have HX3 : Hid (m.R[3]? = some (.int .u64 (m.slot : Int))) := rfl
  have HX14 : Hid (m.R[14]? = some (.int .u64 (m.idx : Int))) := rfl
  have HX15 : Hid (m.R[15]? = some (.int .u64 (m.cnt : Int))) := rfl
  have HX12 : Hid (m.R[12]? = some (.slice m.do_ m.dn m.dc)) := rfl
  have HX48 : Hid (m.R[48]? = some (.slice m.po m.pn m.pc)) := Mg.at48 rl
  obtain ⟨zz, hzz⟩ : ∃ zz, vals (List.replicate 32 0) = zz := ⟨_, rfl⟩
  have HZL : Hid (zz.length = 32) := by show _ = _; rw [← hzz]; rfl
  have HZ1 : Hid (∀ v ∈ zz, v.oneCell' = true) := by rw [← hzz]; exact vals_one1 _
  have HBH : Hid (∀ w, (Instr.build 33 #[]).run Tryz.prog w = .ok (.agg zz.toArray) w) := by rw [← hzz]; exact build_hash0
  have HFE : Hid ((((setL (((((m.R).set 0 (.int .i64 0)).set 3 (.int .u64 0)).set 14 (.int .u64 0)).set 15 (.int .u64 0)) 16 zz)).set 12 (.slice none 0 0)).set 48 (.slice none 0 0) = ({ m with kind := 0, slot := 0, idx := 0, cnt := 0, root := List.replicate 32 0, do_ := none, dn := 0, dc := 0, D := [], po := none, pn := 0, pc := 0, hs := [] } : Mg).R) := by
    show _ = _
    rw [← hzz]
    obtain ⟨x0, x1, x2, x3, x4, x5, x6, x7, x8, x9, x10, x11, x12, x13, x14, x15, x16, x17, x18, x19, x20, x21, x22, x23, x24, x25, x26, x27, x28, x29, x30, x31, e⟩ := nats32 rl
    unfold Mg.R
    rw [e]
    kernel_rfl
  clear rl hk hzz
  generalize ({ m with kind := 0, slot := 0, idx := 0, cnt := 0, root := List.replicate 32 0, do_ := none, dn := 0, dc := 0, D := [], po := none, pn := 0, pc := 0, hs := [] } : Mg).R = FR at *
  generalize m.R = cs at *
  have HSZ : Hid ((Tryz.prog.info? 36).map (·.size) = some cs.length) := by show _ = _; rw [HL.out]; kernel_rfl
  have HSF : Hid ((Tryz.prog.info? 36).map (·.size) = some FR.length) := by show _ = _; rw [HF1.out]; kernel_rfl
  have HSH : Hid ((Tryz.prog.info? 33).map (·.size) = some zz.length) := by show _ = _; rw [HZL.out]; kernel_rfl
  go_enter Tryz.func19, Tryz.ntmps19
  go_upto_region 1 with fail
  generalize hW1 : World.alloc (World.alloc w _) _ = W1
  obtain ⟨Z, hZ, hZ1⟩ : ∃ Z : Array Value, Z.size = 49 ∧ (w.alloc (.cells cs.toArray 36)).alloc (.cells Z 36) = W1 := ⟨_, by rfl, hW1⟩
  have RG1 := hide (HRG.out W1 Z hZ1)
  have HW1 := hide (And.intro hZ hZ1)
  clear hZ hZ1 hW1 HRG
  go_step
  refine wpList_load_mid rfl 36 _ rfl w.heap.size 0 rfl cs _ RG1.out Tryz.underlying36 rfl HSZ.out ?_
  simp only [Act.put, List.setIfInBounds_toArray, List.set_cons_zero, List.set_cons_succ]
  iterate 3 go_step
  refine wpList_store_box rfl 36 _ _ rfl cs rfl rfl (by rw [HL.out]; rfl) HSZ.out HON.out ?_
  intro W3 g3 rb3
  have S3N := hide (s3_new w cs Z HW1.out.1 W1 W3 HW1.out.2 g3 rb3)
  clear g3 rb3 HW1 RG1
  generalize W1.heap.size = bc at *
  have z0 := blk_cell S3N.out.q0 HX0.out
  have hlt := block_lt S3N.out.q2
  have hlt0 := block_lt S3N.out.q0
  have hne : w.heap.size ≠ bc := by have := S3N.out.ne; omega
  have x0 := blk_cell S3N.out.q2 HX0.out
  have f0 := block_free S3N.out.q2 0
  have x3 := blk_cell S3N.out.q2 HX3.out
  have f3 := block_free S3N.out.q2 3
  have x14 := blk_cell S3N.out.q2 HX14.out
  have f14 := block_free S3N.out.q2 14
  have x15 := blk_cell S3N.out.q2 HX15.out
  have f15 := block_free S3N.out.q2 15
  have SP : Hid (S3 w cs bc (((((cs).set 0 (.int .i64 0)).set 3 (.int .u64 0)).set 14 (.int .u64 0)).set 15 (.int .u64 0)) (((((W3).setCell ⟨bc, 0, none⟩ (.int .i64 0)).setCell ⟨bc, 3, none⟩ (.int .u64 0)).setCell ⟨bc, 14, none⟩ (.int .u64 0)).setCell ⟨bc, 15, none⟩ (.int .u64 0))) := ((((S3N.out.set 0 (.int .i64 0)).set 3 (.int .u64 0)).set 14 (.int .u64 0)).set 15 (.int .u64 0))
  have HPL : Hid ((((((cs).set 0 (.int .i64 0)).set 3 (.int .u64 0)).set 14 (.int .u64 0)).set 15 (.int .u64 0)).length = 49) := by show _ = _; simp only [List.length_set]; exact HL.out
  have TP : Hid ((((((W3).setCell ⟨bc, 0, none⟩ (.int .i64 0)).setCell ⟨bc, 3, none⟩ (.int .u64 0)).setCell ⟨bc, 14, none⟩ (.int .u64 0)).setCell ⟨bc, 15, none⟩ (.int .u64 0)).there bc 16 zz.length) := fun j hj => by
    have hz := HZL.out
    have hp := HPL.out
    refine ⟨?_, block_free SP.out.q2 _⟩
    rw [block_cell SP.out.q2 (16 + j), List.getElem?_toArray, List.getElem?_eq_getElem (by omega)]
    rfl
  have HP12 : Hid ((((((cs).set 0 (.int .i64 0)).set 3 (.int .u64 0)).set 14 (.int .u64 0)).set 15 (.int .u64 0))[12]? = some (.slice m.do_ m.dn m.dc)) := by show _ = _; rw [List.getElem?_set_ne (by omega), List.getElem?_set_ne (by omega), List.getElem?_set_ne (by omega), List.getElem?_set_ne (by omega)]; exact HX12.out
  have HP48 : Hid ((((((cs).set 0 (.int .i64 0)).set 3 (.int .u64 0)).set 14 (.int .u64 0)).set 15 (.int .u64 0))[48]? = some (.slice m.po m.pn m.pc)) := by show _ = _; rw [List.getElem?_set_ne (by omega), List.getElem?_set_ne (by omega), List.getElem?_set_ne (by omega), List.getElem?_set_ne (by omega)]; exact HX48.out
  simp only [Act.put]
  go_upto_region 22 with fail
  go_step
  refine wpList_pure rfl (exec_build (t := 33) (parts := #[]) rfl (by simpa using HBH.out _)) ?_
  simp only [Act.put, List.setIfInBounds_toArray, List.set_cons_zero, List.set_cons_succ]
  iterate 21 go_step
  refine wpList_store_mid rfl 33 _ _ rfl bc 16 zz.toArray rfl rfl (by simpa using TP.out) (by simpa using HSH.out) (all_oneCell_toArray HZ1.out) ?_
  obtain ⟨V, hV⟩ : ∃ V, (((((W3).setCell ⟨bc, 0, none⟩ (.int .i64 0)).setCell ⟨bc, 3, none⟩ (.int .u64 0)).setCell ⟨bc, 14, none⟩ (.int .u64 0)).setCell ⟨bc, 15, none⟩ (.int .u64 0)).setCells bc 16 zz = V := ⟨_, rfl⟩
  refine wpList_world hV ?_
  have SV : Hid (S3 w cs bc (setL (((((cs).set 0 (.int .i64 0)).set 3 (.int .u64 0)).set 14 (.int .u64 0)).set 15 (.int .u64 0)) 16 zz) V) := (by rw [← hV]; exact S3.setMany zz _ 16 _ SP.out)
  have x12 := blk_cell SV.out.q2 (j := 12) ((setL_far zz _ 16 12 (by omega)).trans HP12.out)
  have f12 := block_free SV.out.q2 12
  have x48 := blk_cell SV.out.q2 (j := 48) ((setL_far zz _ 16 48 (by rw [HZL.out]; omega)).trans HP48.out)
  have f48 := block_free SV.out.q2 48
  have SF : Hid (S3 w cs bc FR ((V.setCell ⟨bc, 12, none⟩ (.slice none 0 0)).setCell ⟨bc, 48, none⟩ (.slice none 0 0))) := (by have h := ((SV.out.set 12 (.slice none 0 0)).set 48 (.slice none 0 0)); rw [HFE.out] at h; exact h)
  have RF := hide (blk_range SF.out.q2)
  have TF : Hid (((V.setCell ⟨bc, 12, none⟩ (.slice none 0 0)).setCell ⟨bc, 48, none⟩ (.slice none 0 0)).there (w.heap.size + 1) 0 FR.length) := SF.out.there HF1.out
  clear hV x0 f0 x3 f3 x14 f14 x15 f15 z0
  simp only [Act.put]
  go_upto_region 23 with fail
  go_step
  refine wpList_load_mid rfl 36 _ rfl bc 0 rfl FR _ RF.out Tryz.underlying36 rfl HSF.out ?_
  simp only [Act.put, List.setIfInBounds_toArray, List.set_cons_zero, List.set_cons_succ]
  refine wpList_store_mid rfl 36 _ _ rfl (w.heap.size + 1) 0 FR.toArray rfl rfl (by simpa using TF.out) (by simpa using HSF.out) (all_oneCell_toArray HF2.out) ?_
  go_wp2
  simp only [Act.put]
  have hld := run_loadVar_mid (P := Tryz.prog) (((V.setCell ⟨bc, 12, none⟩ (.slice none 0 0)).setCell ⟨bc, 48, none⟩ (.slice none 0 0)).setCells (w.heap.size + 1) 0 FR) (w.heap.size + 1) 0 36 FR _ (World.rangeAt_setCells_same _ _ _ _ TF.out) Tryz.underlying36 rfl HSF.out
  refine bodyPost_ret (v := .agg FR.toArray) ?_ rfl ⟨rfl, SF.out.done FR⟩
  simp [results, Tryz.results19, asAddr, hld]
end Go.Proofs.YtldhafpeigdloaaGreatDoor
namespace Go.Proofs.YtldhafpeigdloaaGreatDoor
open Go.RowKit Crc

/-- sameMsg of any two messages. -/
theorem sameMsg_any {w : World} (a b : Mg) (rla : a.root.length = 32) (rlb : b.root.length = 32) {la lb : Nat} (hpa : Hos la w a.po a.hs a.pb a.poff) (hna : a.hs.length = a.pn) (hla : la ≤ w.heap.size) (hpb : Hos lb w b.po b.hs b.pb b.poff) (hnb : b.hs.length = b.pn) (hlb : lb ≤ w.heap.size) {qv qt qc qd : Bool}
    (hv : ∀ W, Below w.heap.size w W → Calls Tryz.prog 26 #[.slice a.vo a.vn a.vc, .slice b.vo b.vn b.vc] W fun e w' => e = .returned (.bool qv) ∧ Hid (Below W.heap.size W w'))
    (ht : ∀ W, Below w.heap.size w W → Calls Tryz.prog 27 #[.agg #[.int .u64 (a.st : Int), .slice a.ro a.n a.rc], .agg #[.int .u64 (b.st : Int), .slice b.ro b.n b.rc]] W fun e w' => e = .returned (.bool qt) ∧ Hid (Below W.heap.size W w'))
    (hc : ∀ W, Below w.heap.size w W → Calls Tryz.prog 11 #[.slice a.co a.cn a.cc, .slice b.co b.cn b.cc] W fun e w' => e = .returned (.bool qc) ∧ Hid (Below W.heap.size W w'))
    (hd : ∀ W, Below w.heap.size w W → Calls Tryz.prog 11 #[.slice a.do_ a.dn a.dc, .slice b.do_ b.dn b.dc] W fun e w' => e = .returned (.bool qd) ∧ Hid (Below W.heap.size W w')) :
    Calls Tryz.prog 10 #[.agg a.R.toArray, .agg b.R.toArray] w (SameP a b qv qt qc qd w) := by
  by_cases hr : a.kind = b.kind ∧ (a.num = b.num ∧ a.node = b.node) ∧ a.slot = b.slot ∧ a.low = b.low ∧ a.seq = b.seq ∧ a.stamp = b.stamp
  · by_cases hq : a.code = b.code ∧ a.sus = b.sus ∧ a.idx = b.idx ∧ a.cnt = b.cnt ∧ a.root = b.root ∧ a.pn = b.pn
    · exact smC a b rla rlb hpa hna hla hpb hnb hlb hr hq hv ht hc hd
    · exact smB a b rla rlb hna hnb hr hq
  · exact smA a b rla rlb hr
/-- The message without anything. -/
def mz : Mg := ⟨0, 0, 0, 0, 0, none, 0, 0, [], 0, 0, 0, none, 0, 0, [], 0, 0, 0, 0, 0, none, 0, 0, [], none, 0, 0, [], false, 0, 0, List.replicate 32 0, none, 0, 0, [], 0, 0⟩
theorem mz_R : mz.R = msgZ := rfl
/-- The message with the fields of its kind emptied. -/
def Mg.strip (m : Mg) (k : Nat) : Mg := match k with
  | 1 => { m with kind := 0, seq := 0, co := none, cn := 0, cc := 0, C := [] }
  | 2 => { m with kind := 0, seq := 0, stamp := 0, code := 0, do_ := none, dn := 0, dc := 0, D := [] }
  | 3 => { m with kind := 0, num := 0, node := 0 }
  | 4 => { m with kind := 0, num := 0, node := 0, low := 0, vo := none, vn := 0, vc := 0, vs := [] }
  | 5 => { m with kind := 0, num := 0, node := 0, low := 0 }
  | 6 => { m with kind := 0, num := 0, node := 0, slot := 0, st := 0, ro := none, n := 0, rc := 0, rs := [] }
  | 7 => { m with kind := 0, num := 0, node := 0, slot := 0, st := 0, ro := none, n := 0, rc := 0, rs := [] }
  | 8 => { m with kind := 0, num := 0, node := 0, slot := 0, sus := false }
  | 9 => { m with kind := 0, slot := 0, idx := 0 }
  | _ => { m with kind := 0, slot := 0, idx := 0, cnt := 0, root := List.replicate 32 0, do_ := none, dn := 0, dc := 0, D := [], po := none, pn := 0, pc := 0, hs := [] }
theorem strip_any (m : Mg) (rl : m.root.length = 32) {K : Nat} (hk : m.kind = (K : Int)) (h1 : 1 ≤ K) (h2 : K ≤ 10) (w : World) : Calls Tryz.prog 19 #[.agg m.R.toArray] w fun e w' => e = .returned (.agg (m.strip K).R.toArray) ∧ Hid (Below w.heap.size w w') := by
  rcases k_cases h1 h2 with rfl | rfl | rfl | rfl | rfl | rfl | rfl | rfl | rfl | rfl
  · exact strip_1 m rl hk w
  · exact strip_2 m rl hk w
  · exact strip_3 m rl hk w
  · exact strip_4 m rl hk w
  · exact strip_5 m rl hk w
  · exact strip_6 m rl hk w
  · exact strip_7 m rl hk w
  · exact strip_8 m rl hk w
  · exact strip_9 m rl hk w
  · exact strip_10 m rl hk w
theorem strip_rl (m : Mg) (rl : m.root.length = 32) (k : Nat) : (m.strip k).root.length = 32 := by
  unfold Mg.strip
  split <;> first | exact rl | rfl
theorem hos_nil (lim : Nat) (w : World) (po : Option Addr) (b off : Nat) : Hos lim w po [] b off := ⟨fun e => absurd e (by simp), fun e => absurd e (by simp), by simp, fun x hx => absurd hx (by simp), fun i x hx => absurd hx (by simp)⟩
theorem strip_hos {lim : Nat} {w : World} {m : Mg} (h : Hos lim w m.po m.hs m.pb m.poff) (hn : m.hs.length = m.pn) (k : Nat) : Hos lim w (m.strip k).po (m.strip k).hs (m.strip k).pb (m.strip k).poff ∧ (m.strip k).hs.length = (m.strip k).pn := by
  unfold Mg.strip
  split <;> first | exact ⟨h, hn⟩ | exact ⟨hos_nil _ _ _ _ _, rfl⟩
theorem mz_hos (w : World) : Hos 0 w mz.po mz.hs mz.pb mz.poff := hos_nil _ _ _ _ _
set_option maxRecDepth 10000 in
theorem sameVotes0 (d : Option Addr) (m c : Nat) (w : World) : Calls Tryz.prog 26 #[.slice d m c, .slice none 0 0] w fun e w' => e = .returned (.bool (decide (m = 0))) ∧ Hid (Below w.heap.size w w') := by
  by_cases h : m = 0
  · subst h
    have HF : Hid (decide ((0 : Nat) = 0) = true) := by show _ = _; simp
    rw [HF.out]
    go_enter Tryz.func26, Tryz.ntmps26
    go_wp2
    go_loopw [5] (fun i wr => i = .int .i64 0 ∧ Hid (wr = w)) (fun _ _ => 0)
    case atStart => exact ⟨rfl, rfl⟩
    case round =>
      obtain ⟨rfl, HW⟩ := hrel
      go_wp2
      go_ret
      exact ⟨rfl, by rw [HW.out]; exact Below.refl _ _⟩
  · have HF : Hid (decide (m = 0) = false) := by show _ = _; simp [h]
    have d0 : ((m : Int) != 0) = true := by simp; omega
    rw [HF.out]
    go_enter Tryz.func26, Tryz.ntmps26
    go_wp2
    go_ret
    exact ⟨rfl, Below.refl _ _⟩
/-- A message that is held against nothing. -/
theorem sameNone {w : World} (a : Mg) (rla : a.root.length = 32) {la : Nat} (hpa : Hos la w a.po a.hs a.pb a.poff) (hna : a.hs.length = a.pn) (hla : la ≤ w.heap.size) :
    Calls Tryz.prog 10 #[.agg a.R.toArray, .agg msgZ.toArray] w (SameP a mz (decide (a.vn = 0)) (decide (a.st = 0 ∧ a.n = 0)) (decide (a.cn = 0)) (decide (a.dn = 0)) w) := by
  rw [← mz_R]
  exact sameMsg_any a mz rla rfl hpa hna hla (mz_hos w) rfl (Nat.zero_le _) (fun W _ => sameVotes0 a.vo a.vn a.vc W) (fun W _ => sameBatch0 a.st a.ro a.n a.rc W) (fun W _ => sameBytes0 a.co a.cn a.cc W) (fun W _ => sameBytes0 a.do_ a.dn a.dc W)
end Go.Proofs.YtldhafpeigdloaaGreatDoor
namespace Go.Proofs.YtldhafpeigdloaaGreatDoor
open Go.RowKit Crc

theorem mayBallot_any (num : Nat) (node : Int) (w : World) : Calls Tryz.prog 20 #[.agg #[.int .u64 (num : Int), .int .i64 node]] w fun e w' => e = .returned (.bool (decide (¬ balBad num node))) ∧ Hid (Below w.heap.size w w') := by
  by_cases h : balBad num node
  · rw [show decide (¬ balBad num node) = false by simp [h]]; exact mayBallot_no num node w h
  · rw [show decide (¬ balBad num node) = true by simp [h]]; exact mayBallot_yes num node w h
theorem vF_parts (l : Nat) (t : Vi) : vF l t = 0 ↔ ¬ t.slot < l ∧ ¬ 1099511627776 < t.slot ∧ ¬ balBad t.num t.node ∧ (bFault t.st t.rs).2 = 0 := by
  unfold vF
  by_cases h1 : 1099511627776 < t.slot
  · rw [if_pos h1]; simp [h1]
  · rw [if_neg h1]
    by_cases h2 : t.slot < l
    · rw [if_pos h2]; simp [h2]
    · rw [if_neg h2]
      by_cases h3 : balBad t.num t.node
      · rw [if_pos h3]; simp [h3]
      · rw [if_neg h3]; simp [h1, h2, h3]

set_option maxRecDepth 10000 in
set_option maxHeartbeats 1600000 in
theorem mayVotes_any {w : World} (l : Nat) {vo : Option Addr} {ts : List Vi} {b off : Nat} (vc n : Nat) (hn : ts.length = n) (h : Vos w.heap.size w vo ts b off) :
    Calls Tryz.prog 21 #[.int .u64 (l : Int), .slice vo n vc] w fun e w' => e = .returned (.bool (decide (vsFault l ts = 0))) ∧ Hid (Below w.heap.size w w') := by
  have HR := hide h
  have hle := h.le
  clear h
  subst hn
  by_cases h8 : 8 < ts.length
  · have HF : Hid (decide (vsFault l ts = 0) = false) := by show _ = _; unfold vsFault; rw [if_pos h8]; rfl
    have d2 : decide ((8 : Int) < (ts.length : Int)) = true := by simp; omega
    rw [HF.out]
    generalize ts.length = n at *
    go_enter Tryz.func21, Tryz.ntmps21
    go_wp2
    go_ret
    exact ⟨rfl, Below.refl _ _⟩
  · have HF : Hid (vsFault l ts = vsGo l ts) := if_neg h8
    have d2 : decide ((8 : Int) < (ts.length : Int)) = false := by simp; omega
    rw [HF.out]
    go_enter Tryz.func21, Tryz.ntmps21
    go_wp2
    go_loopw [5, 6] (fun y i wr => ∃ k z : Nat, k ≤ ts.length ∧ y = .int .u64 (z : Int) ∧ i = .int .i64 k ∧ Hid (vsGo l ts = 0 ↔ vsGo z (ts.drop k) = 0) ∧ Hid (Below w.heap.size w wr)) (fun _ i _ => ts.length - (intOf i).toNat)
    case atStart => exact ⟨0, l, by omega, rfl, rfl, Iff.rfl, Below.refl _ _⟩
    case round =>
      obtain ⟨k, z, hk, rfl, rfl, HG, HW⟩ := hrel
      by_cases hlt : k < ts.length
      · obtain ⟨t, ht, hd, hok, hbl, rfl, c0, c1, c2, c3, c4⟩ := (HR.out.below HW.out).get hlt
        have hbw : b < wr.heap.size := Nat.lt_of_lt_of_le hbl HW.out.size
        have HD : Hid (vsGo z (ts.drop k) = 0 ↔ vF z t = 0 ∧ vsGo (vNx t.slot) (ts.drop (k + 1)) = 0) := by
          rw [hd]
          show (if vF z t ≠ 0 then vF z t else vsGo (vNx t.slot) (ts.drop (k + 1))) = 0 ↔ _
          by_cases e : vF z t = 0
          · rw [if_neg (by simp [e])]; simp [e]
          · rw [if_pos e]; simp [e]
        have HVP := hide (vF_parts z t)
        have HNO : Hid (vF z t ≠ 0 → decide (vsGo l ts = 0) = false) := fun e => by
          rw [decide_eq_false_iff_not, HG.out, HD.out]
          exact fun x => e x.1
        have HML : Hid (∀ V, Calls Tryz.prog 20 #[.agg #[.int .u64 (t.num : Int), .int .i64 t.node]] V fun e w' => e = .returned (.bool (decide (¬ balBad t.num t.node))) ∧ Hid (Below V.heap.size V w')) := fun V => mayBallot_any t.num t.node V
        have HMB : Hid (∀ V, Below w.heap.size w V → Calls Tryz.prog 22 #[.agg #[.int .u64 (t.st : Int), .slice t.ro t.n t.rc]] V fun e w' => e = .returned (.bool (decide ((bFault t.st t.rs).2 = 0))) ∧ Hid (Below V.heap.size V w')) := fun V hb => mayBatch_any t.st t.rc t.n hok.hn ((((HR.out.below hb).ok t (List.mem_of_getElem? ht)).hR).wide hb.size)
        have hwn := wrap_nx t.slot
        have HCE : Hid (∀ V, Below w.heap.size w V → V.cell? ⟨b, off + k * 5, none⟩ = some (.int .u64 (t.slot : Int)) ∧ V.cell? ⟨b, off + k * 5 + 3, none⟩ = some (.int .u64 (t.st : Int)) ∧ V.cell? ⟨b, off + k * 5 + 4, none⟩ = some (.slice t.ro t.n t.rc) ∧ b < V.heap.size) := fun V hb => ⟨(HR.out.below hb).at_ k t ht 0 _ rfl, (HR.out.below hb).at_ k t ht 3 _ rfl, (HR.out.below hb).at_ k t ht 4 _ rfl, Nat.lt_of_lt_of_le hbl hb.size⟩
        clear ht hd hok c3 c4
        by_cases g1 : t.slot < z
        · have g1' : decide ((t.slot : Int) < (z : Int)) = true := by simp; omega
          have HN := hide (HNO.out (fun e => (HVP.out.1 e).1 g1))
          clear HNO HVP HD HG
          go_wp2
          go_ret
          exact ⟨by rw [HN.out]; rfl, HW⟩
        · have g1' : decide ((t.slot : Int) < (z : Int)) = false := by simp; omega
          by_cases g2 : 1099511627776 < t.slot
          · have g2' : decide ((1099511627776 : Int) < (t.slot : Int)) = true := by simp; omega
            have HN := hide (HNO.out (fun e => (HVP.out.1 e).2.1 g2))
            clear HNO HVP HD HG
            go_wp2
            go_ret
            exact ⟨by rw [HN.out]; rfl, HW⟩
          · have g2' : decide ((1099511627776 : Int) < (t.slot : Int)) = false := by simp; omega
            obtain ⟨q1, hq1⟩ : ∃ q1, decide (¬ balBad t.num t.node) = q1 := ⟨_, rfl⟩
            obtain ⟨q2, hq2⟩ : ∃ q2, decide ((bFault t.st t.rs).2 = 0) = q2 := ⟨_, rfl⟩
            rw [hq1] at HML
            rw [hq2] at HMB
            have Q1 := hide hq1
            have Q2 := hide hq2
            clear hq1 hq2
            go_wp2_with fail
            refine (HML.out wr).mono ?_
            rintro e w2 ⟨rfl, b2⟩
            have B2 : Hid (Below w.heap.size w w2) := HW.out.trans (b2.out.mono HW.out.size)
            clear c0 c1 c2 hbw b2 HML
            obtain ⟨c0, c3, c4, hbw⟩ := HCE.out w2 B2.out
            cases q1 with
            | false =>
              have HN := hide (HNO.out (fun e => by have h := (HVP.out.1 e).2.2.1; have h2 := Q1.out; rw [decide_eq_true h] at h2; cases h2))
              clear HNO HVP HD HG
              go_wp2
              go_ret
              exact ⟨by rw [HN.out]; rfl, B2⟩
            | true =>
              go_wp2_with fail
              refine (HMB.out w2 B2.out).mono ?_
              rintro e w3 ⟨rfl, b3⟩
              have B3 : Hid (Below w.heap.size w w3) := B2.out.trans (b3.out.mono B2.out.size)
              clear c0 c3 c4 hbw b3
              obtain ⟨c0, -, -, hbw⟩ := HCE.out w3 B3.out
              cases q2 with
              | false =>
                have HN := hide (HNO.out (fun e => by have h := (HVP.out.1 e).2.2.2; have h2 := Q2.out; rw [decide_eq_true h] at h2; cases h2))
                clear HNO HVP HD HG
                go_wp2
                go_ret
                exact ⟨by rw [HN.out]; rfl, B3⟩
              | true =>
                have HG2 : Hid (vsGo l ts = 0 ↔ vsGo (vNx t.slot) (ts.drop (k + 1)) = 0) := by
                  rw [HG.out, HD.out, HVP.out]
                  exact ⟨fun e => e.2, fun e => ⟨⟨g1, g2, of_decide_eq_true Q1.out, of_decide_eq_true Q2.out⟩, e⟩⟩
                clear HNO HVP HD HG
                go_wp2
                go_roundw
                case rel => exact ⟨k + 1, vNx t.slot, by omega, rfl, by go_num, HG2, B3⟩
                case measure => simp [intOf]; omega
      · obtain rfl : k = ts.length := by omega
        have HG2 : Hid (decide (vsGo l ts = 0) = true) := by
          show _ = _
          rw [decide_eq_true_iff, HG.out, List.drop_length]
          rfl
        go_wp2
        go_ret
        exact ⟨by rw [HG2.out]; rfl, HW⟩
end Go.Proofs.YtldhafpeigdloaaGreatDoor
namespace Go.Proofs.YtldhafpeigdloaaGreatDoor
open Go.RowKit Crc

/-- The fields that a kind does not use are blank. -/
def Mg.bl (m : Mg) (K : Nat) : Prop := ∀ j, 1 ≤ j → j ≤ 15 → (∀ f ∈ mfOf K, f.ix ≠ j) → m.zl.getD j false = true
theorem mNo_parts (m : Mg) : (mNo m).1 = 0 ↔ (1 ≤ m.kind ∧ m.kind ≤ 10) ∧ (∀ f ∈ mfOf m.kind.toNat, f.yv m = 0) ∧ m.bl m.kind.toNat := by
  unfold mNo
  by_cases hk : m.kind < 1 ∨ 10 < m.kind
  · rw [if_pos hk]
    constructor
    · intro e; cases e
    · rintro ⟨e, _⟩; omega
  · rw [if_neg hk]
    have k1 : 1 ≤ m.kind.toNat := by omega
    have k2 : m.kind.toNat ≤ 10 := by omega
    have k3 : 1 ≤ m.kind ∧ m.kind ≤ 10 := by omega
    generalize m.kind.toNat = K at *
    have hU := fun j => ck_U m j (mfOf K) (U0, Y0) rfl
    have hY := ck_Y m (mfOf K) (U0, Y0) rfl (mf_far k1 k2)
    have hU0 : ∀ j, U0.getD j false = true → False := fun j e => by
      unfold U0 at e
      rw [List.getD_eq_getElem?_getD, List.getElem?_replicate] at e
      split at e <;> cases e
    show (mFb m (mfOf K)).2 = 0 ↔ _
    unfold mFb
    rw [fbGo_0]
    constructor
    · intro H
      refine ⟨k3, fun f hf => ?_, fun j j1 j2 hj => ?_⟩
      · have l := ix_lt f
        rw [← hY f hf]
        exact (H f.ix l.2 (by omega)).1 ((hU f.ix).2 (.inr ⟨f, hf, rfl⟩))
      · refine (H j j1 (by omega)).2 (Bool.eq_false_iff.2 (fun e => ?_))
        rcases (hU j).1 e with e | ⟨f, hf, e⟩
        · exact hU0 j e
        · exact hj f hf e
    · rintro ⟨_, h1, h2⟩ j j1 j2
      refine ⟨fun u => ?_, fun u => ?_⟩
      · rcases (hU j).1 u with e | ⟨f, hf, rfl⟩
        · exact absurd e (fun e => hU0 j e)
        · rw [hY f hf]; exact h1 f hf
      · refine h2 j j1 (by omega) (fun f hf e => ?_)
        have : (ckAllm m (mfOf K) (U0, Y0)).1.getD j false = true := (hU j).2 (.inr ⟨f, hf, e⟩)
        rw [u] at this
        cases this
theorem none_iff (m : Mg) (hpn : m.hs.length = m.pn) {K : Nat} (h1 : 1 ≤ K) (h2 : K ≤ 10) : ((m.strip K).like mz ∧ decide ((m.strip K).vn = 0) = true ∧ decide ((m.strip K).st = 0 ∧ (m.strip K).n = 0) = true ∧ decide ((m.strip K).cn = 0) = true ∧ decide ((m.strip K).dn = 0) = true) ↔ m.bl K := by
  have hs0 : m.pn = 0 → m.hs = [] := fun e => List.eq_nil_of_length_eq_zero (by omega)
  have ps0 : m.hs = [] → m.pn = 0 := fun e => by rw [← hpn, e]; rfl
  constructor
  · rintro ⟨⟨e0, ⟨e1, e2⟩, e3, e4, e6, e7, e8, e11, e12, e13, e14, e15⟩, f4, f5, f9, f10⟩ j j1 j2 hj
    rcases k_cases h1 h2 with rfl | rfl | rfl | rfl | rfl | rfl | rfl | rfl | rfl | rfl
    all_goals
      rcases j_cases j1 j2 with rfl | rfl | rfl | rfl | rfl | rfl | rfl | rfl | rfl | rfl | rfl | rfl | rfl | rfl | rfl
      · first | exact decide_eq_true ⟨e1, e2⟩ | exact absurd rfl (hj .ballot (by decide))
      · first | exact decide_eq_true e3 | exact absurd rfl (hj .slot (by decide))
      · first | exact decide_eq_true e4 | exact absurd rfl (hj .low (by decide))
      · first | exact f4 | exact absurd rfl (hj .votes (by decide))
      · first | exact f5 | exact absurd rfl (hj .batch (by decide))
      · first | exact decide_eq_true e6 | exact absurd rfl (hj .seq (by decide))
      · first | exact decide_eq_true e7 | exact absurd rfl (hj .stamp (by decide))
      · first | exact decide_eq_true e8 | exact absurd rfl (hj .outcome (by decide))
      · first | exact f9 | exact absurd rfl (hj .command (by decide))
      · first | exact f10 | exact absurd rfl (hj .result (by decide)) | exact absurd rfl (hj .chunk (by decide))
      · first | exact (by have e : m.sus = false := e11; show (!m.sus) = true; rw [e]; rfl) | exact absurd rfl (hj .suspect (by decide))
      · first | exact decide_eq_true e12 | exact absurd rfl (hj .index (by decide))
      · first | exact decide_eq_true e13 | exact absurd rfl (hj .total (by decide))
      · first | exact decide_eq_true e14 | exact absurd rfl (hj .root (by decide))
      · first | exact decide_eq_true (ps0 e15) | exact absurd rfl (hj .path (by decide))
  · intro h
    have sus0 : (!m.sus) = true → m.sus = false := fun e => by cases hs : m.sus <;> simp [hs] at e ⊢
    rcases k_cases h1 h2 with rfl | rfl | rfl | rfl | rfl | rfl | rfl | rfl | rfl | rfl
    all_goals
      refine ⟨⟨rfl, ?_, ?_, ?_, ?_, ?_, ?_, ?_, ?_, ?_, ?_, ?_⟩, ?_, ?_, ?_, ?_⟩
      · first | exact ⟨rfl, rfl⟩ | exact of_decide_eq_true (h 1 (by omega) (by omega) (by decide))
      · first | exact of_decide_eq_true (h 2 (by omega) (by omega) (by decide)) | rfl
      · first | exact of_decide_eq_true (h 3 (by omega) (by omega) (by decide)) | rfl
      · first | exact of_decide_eq_true (h 6 (by omega) (by omega) (by decide)) | rfl
      · first | exact of_decide_eq_true (h 7 (by omega) (by omega) (by decide)) | rfl
      · first | exact of_decide_eq_true (h 8 (by omega) (by omega) (by decide)) | rfl
      · first | exact sus0 (h 11 (by omega) (by omega) (by decide)) | rfl
      · first | exact of_decide_eq_true (h 12 (by omega) (by omega) (by decide)) | rfl
      · first | exact of_decide_eq_true (h 13 (by omega) (by omega) (by decide)) | rfl
      · first | exact of_decide_eq_true (h 14 (by omega) (by omega) (by decide)) | rfl
      · first | exact hs0 (of_decide_eq_true (h 15 (by omega) (by omega) (by decide))) | rfl
      · first | exact h 4 (by omega) (by omega) (by decide) | rfl
      · first | exact h 5 (by omega) (by omega) (by decide) | rfl
      · first | exact h 9 (by omega) (by omega) (by decide) | rfl
      · first | exact h 10 (by omega) (by omega) (by decide) | rfl
end Go.Proofs.YtldhafpeigdloaaGreatDoor
namespace Go.Proofs.YtldhafpeigdloaaGreatDoor
open Go.RowKit Crc

/-- What the law asks of a message, part by part. -/
structure MB (m : Mg) : Prop where
  bal : ¬ balBad m.num m.node
  slot : ¬ 1099511627776 < m.slot
  low : ¬ 1099511627776 < m.low
  vs : vsFault m.low m.vs = 0
  bat : (bFault m.st m.rs).2 = 0
structure MC (m : Mg) : Prop where
  stamp : ¬ 1099511627776 < m.stamp
  lo : ¬ m.code < 0
  hi : ¬ 1023 < m.code
  cn : ¬ 700 < m.cn
  idx : ¬ 40 ≤ m.idx
  pn : ¬ 6 < m.pn
def MD (K : Nat) (m : Mg) : Prop := if K = 10 then 1 ≤ m.dn ∧ m.dn ≤ 1024 ∧ m.idx < m.cnt ∧ m.cnt ≤ 40 else m.dn ≤ 256
theorem balY_b {num : Nat} {node : Int} : balY num node = 0 ↔ ¬ balBad num node := by
  unfold balY
  by_cases h : balBad num node
  · rw [if_pos h]; simp [h]
  · rw [if_neg h]; simp [h]
theorem codeY_0 {c : Int} (h : -9223372036854775808 ≤ c ∧ c < 9223372036854775808) : bndY (codeN c) 0 1023 = 0 ↔ ¬ c < 0 ∧ ¬ 1023 < c := by
  rw [bndY_0]
  unfold codeN
  omega
theorem chunkY_0 {n : Nat} : chunkY n = 0 ↔ 1 ≤ n ∧ n ≤ 1024 := by
  unfold chunkY
  by_cases h0 : n = 0
  · rw [if_pos h0]; constructor
    · intro e; cases e
    · intro e; omega
  · rw [if_neg h0]
    exact (cntY_0 (n := n) (most := 1024)).trans ⟨fun e => ⟨by omega, e⟩, fun e => e.2⟩
section
variable {lim : Nat} {w : World} {m : Mg}
/-- What is blank may be. -/
theorem zc_bal (h : m.zl.getD 1 false = true) : ¬ balBad m.num m.node := by
  have e : m.num = 0 ∧ m.node = 0 := of_decide_eq_true h
  unfold balBad
  omega
theorem zc_vs (hx : m.Ok lim w) (h : m.zl.getD 4 false = true) : vsFault m.low m.vs = 0 := by
  have e : m.vn = 0 := of_decide_eq_true h
  have : m.vs = [] := List.eq_nil_of_length_eq_zero (by have := hx.hvn; omega)
  rw [this]
  rfl
theorem zc_bat (hx : m.Ok lim w) (h : m.zl.getD 5 false = true) : (bFault m.st m.rs).2 = 0 := by
  have e : m.st = 0 ∧ m.n = 0 := of_decide_eq_true h
  have : m.rs = [] := List.eq_nil_of_length_eq_zero (by have := hx.hn; omega)
  rw [this, e.1]
  rfl
theorem md_ne {K : Nat} (hk : K ≠ 10) (h : m.dn ≤ 256) : MD K m := by
  unfold MD
  rw [if_neg hk]
  exact h
theorem md_10 (i1 : bndY m.idx 0 39 = 0) (i2 : bndY m.cnt (vNx m.idx) 40 = 0) (i3 : chunkY m.dn = 0) : MD 10 m := by
  unfold MD
  rw [if_pos rfl]
  have j1 := (bndY_0.1 i1).2
  have j2 := bndY_0.1 i2
  rw [vNx_small (by omega)] at j2
  have j3 := chunkY_0.1 i3
  omega
theorem may_fwd (hx : m.Ok lim w) {K : Nat} (h1 : 1 ≤ K) (h2 : K ≤ 10) (hy : ∀ f ∈ mfOf K, f.yv m = 0) (hb : m.bl K) : MB m ∧ MC m ∧ MD K m := by
  have z : ∀ j, 1 ≤ j → j ≤ 15 → (∀ f ∈ mfOf K, f.ix ≠ j) → m.zl.getD j false = true := hb
  have b2 : m.zl.getD 2 false = true → ¬ 1099511627776 < m.slot := fun h => by have e : m.slot = 0 := of_decide_eq_true h; omega
  have b3 : m.zl.getD 3 false = true → ¬ 1099511627776 < m.low := fun h => by have e : m.low = 0 := of_decide_eq_true h; omega
  have b7 : m.zl.getD 7 false = true → ¬ 1099511627776 < m.stamp := fun h => by have e : m.stamp = 0 := of_decide_eq_true h; omega
  have b8 : m.zl.getD 8 false = true → ¬ m.code < 0 ∧ ¬ 1023 < m.code := fun h => by have e : m.code = 0 := of_decide_eq_true h; omega
  have b9 : m.zl.getD 9 false = true → ¬ 700 < m.cn := fun h => by have e : m.cn = 0 := of_decide_eq_true h; omega
  have b10 : m.zl.getD 10 false = true → m.dn ≤ 256 := fun h => by have e : m.dn = 0 := of_decide_eq_true h; omega
  have b12 : m.zl.getD 12 false = true → ¬ 40 ≤ m.idx := fun h => by have e : m.idx = 0 := of_decide_eq_true h; omega
  have b15 : m.zl.getD 15 false = true → ¬ 6 < m.pn := fun h => by have e : m.pn = 0 := of_decide_eq_true h; omega
  have y2 : bndY m.slot 0 1099511627776 = 0 → ¬ 1099511627776 < m.slot := fun h => by have := (bndY_0.1 h).2; omega
  have y3 : bndY m.low 0 1099511627776 = 0 → ¬ 1099511627776 < m.low := fun h => by have := (bndY_0.1 h).2; omega
  have y7 : bndY m.stamp 0 1099511627776 = 0 → ¬ 1099511627776 < m.stamp := fun h => by have := (bndY_0.1 h).2; omega
  have y9 : cntY (m.cn : Int) ((700 : Nat) : Int) = 0 → ¬ 700 < m.cn := fun h => by have := cntY_0.1 h; omega
  have y12 : bndY m.idx 0 39 = 0 → ¬ 40 ≤ m.idx := fun h => by have := (bndY_0.1 h).2; omega
  have y15 : cntY (m.pn : Int) ((6 : Nat) : Int) = 0 → ¬ 6 < m.pn := fun h => by have := cntY_0.1 h; omega
  have hc := hx.hcode
  rcases k_cases h1 h2 with rfl | rfl | rfl | rfl | rfl | rfl | rfl | rfl | rfl | rfl
  all_goals
    refine ⟨⟨?_, ?_, ?_, ?_, ?_⟩, ⟨?_, ?_, ?_, ?_, ?_, ?_⟩, ?_⟩
    · first | exact zc_bal (z 1 (by omega) (by omega) (by decide)) | exact balY_b.1 (hy .ballot (by decide))
    · first | exact b2 (z 2 (by omega) (by omega) (by decide)) | exact y2 (hy .slot (by decide))
    · first | exact b3 (z 3 (by omega) (by omega) (by decide)) | exact y3 (hy .low (by decide))
    · first | exact zc_vs hx (z 4 (by omega) (by omega) (by decide)) | exact hy .votes (by decide)
    · first | exact zc_bat hx (z 5 (by omega) (by omega) (by decide)) | exact hy .batch (by decide)
    · first | exact b7 (z 7 (by omega) (by omega) (by decide)) | exact y7 (hy .stamp (by decide))
    · first | exact (b8 (z 8 (by omega) (by omega) (by decide))).1 | exact ((codeY_0 hc).1 (hy .outcome (by decide))).1
    · first | exact (b8 (z 8 (by omega) (by omega) (by decide))).2 | exact ((codeY_0 hc).1 (hy .outcome (by decide))).2
    · first | exact b9 (z 9 (by omega) (by omega) (by decide)) | exact y9 (hy .command (by decide))
    · first | exact b12 (z 12 (by omega) (by omega) (by decide)) | exact y12 (hy .index (by decide))
    · first | exact b15 (z 15 (by omega) (by omega) (by decide)) | exact y15 (hy .path (by decide))
    · first | exact md_ne (by decide) (b10 (z 10 (by omega) (by omega) (by decide))) | exact md_ne (by decide) ((cntY_0 (n := m.dn) (most := 256)).1 (hy .result (by decide))) | exact md_10 (hy .index (by decide)) (hy .total (by decide)) (hy .chunk (by decide))
theorem may_back (hx : m.Ok lim w) {K : Nat} (h1 : 1 ≤ K) (h2 : K ≤ 10) (hB : MB m) (hC : MC m) (hD : MD K m) : ∀ f ∈ mfOf K, f.yv m = 0 := by
  intro f hf
  have hc := hx.hcode
  cases f with
  | seq => rfl
  | command => exact (cntY_0 (n := m.cn) (most := 700)).2 (by have := hC.cn; omega)
  | stamp => exact bndY_0.2 (by have := hC.stamp; omega)
  | outcome => exact (codeY_0 hc).2 ⟨hC.lo, hC.hi⟩
  | result =>
    refine (cntY_0 (n := m.dn) (most := 256)).2 ?_
    have hk : K ≠ 10 := fun e => by rw [e] at hf; exact absurd hf (by decide)
    unfold MD at hD
    rw [if_neg hk] at hD
    exact hD
  | ballot => exact balY_b.2 hB.bal
  | low => exact bndY_0.2 (by have := hB.low; omega)
  | votes => exact hB.vs
  | slot => exact bndY_0.2 (by have := hB.slot; omega)
  | batch => exact hB.bat
  | suspect => rfl
  | index => exact bndY_0.2 (by have := hC.idx; omega)
  | total =>
    have hk : K = 10 := by rcases k_cases h1 h2 with rfl | rfl | rfl | rfl | rfl | rfl | rfl | rfl | rfl | rfl <;> first | rfl | exact absurd hf (by decide)
    unfold MD at hD
    rw [if_pos hk] at hD
    refine bndY_0.2 ?_
    have := hC.idx
    rw [vNx_small (by omega)]
    omega
  | root => rfl
  | chunk =>
    have hk : K = 10 := by rcases k_cases h1 h2 with rfl | rfl | rfl | rfl | rfl | rfl | rfl | rfl | rfl | rfl <;> first | rfl | exact absurd hf (by decide)
    unfold MD at hD
    rw [if_pos hk] at hD
    exact chunkY_0.2 ⟨hD.1, hD.2.1⟩
  | path => exact (cntY_0 (n := m.pn) (most := 6)).2 (by have := hC.pn; omega)
theorem may_iff (hx : m.Ok lim w) {K : Nat} (hk : m.kind = (K : Int)) (h1 : 1 ≤ K) (h2 : K ≤ 10) : (mNo m).1 = 0 ↔ m.bl K ∧ MB m ∧ MC m ∧ MD K m := by
  have e : m.kind.toNat = K := by omega
  rw [mNo_parts, e]
  constructor
  · rintro ⟨_, a, b⟩
    exact ⟨b, may_fwd hx h1 h2 a b⟩
  · rintro ⟨b, c, d, f⟩
    exact ⟨by omega, may_back hx h1 h2 c d f, b⟩
end
end Go.Proofs.YtldhafpeigdloaaGreatDoor
