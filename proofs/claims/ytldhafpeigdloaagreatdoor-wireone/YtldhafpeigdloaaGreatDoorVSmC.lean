import Derived.Test.YtldhafpeigdloaaGreatDoorM43
import Derived.Deep.RegionHeld
namespace Go.Proofs.YtldhafpeigdloaaGreatDoor
open Go.RowKit Crc

set_option maxRecDepth 10000 in
set_option maxHeartbeats 1600000 in
theorem smC {w : World} (a b : Mg) (rla : a.root.length = 32) (rlb : b.root.length = 32) {la lb : Nat} (hpa : Hos la w a.po a.hs a.pb a.poff) (hna : a.hs.length = a.pn) (hla : la ≤ w.heap.size) (hpb : Hos lb w b.po b.hs b.pb b.poff) (hnb : b.hs.length = b.pn) (hlb : lb ≤ w.heap.size) {qv qt qc qd : Bool} (hr : a.kind = b.kind ∧ (a.num = b.num ∧ a.node = b.node) ∧ a.slot = b.slot ∧ a.low = b.low ∧ a.seq = b.seq ∧ a.stamp = b.stamp) (hq : a.code = b.code ∧ a.sus = b.sus ∧ a.idx = b.idx ∧ a.cnt = b.cnt ∧ a.root = b.root ∧ a.pn = b.pn)
    (hv : ∀ W, Below w.heap.size w W → Calls Tryz.prog 26 #[.slice a.vo a.vn a.vc, .slice b.vo b.vn b.vc] W fun e w' => e = .returned (.bool qv) ∧ Hid (Below W.heap.size W w'))
    (ht : ∀ W, Below w.heap.size w W → Calls Tryz.prog 27 #[.agg #[.int .u64 (a.st : Int), .slice a.ro a.n a.rc], .agg #[.int .u64 (b.st : Int), .slice b.ro b.n b.rc]] W fun e w' => e = .returned (.bool qt) ∧ Hid (Below W.heap.size W w'))
    (hc : ∀ W, Below w.heap.size w W → Calls Tryz.prog 11 #[.slice a.co a.cn a.cc, .slice b.co b.cn b.cc] W fun e w' => e = .returned (.bool qc) ∧ Hid (Below W.heap.size W w'))
    (hd : ∀ W, Below w.heap.size w W → Calls Tryz.prog 11 #[.slice a.do_ a.dn a.dc, .slice b.do_ b.dn b.dc] W fun e w' => e = .returned (.bool qd) ∧ Hid (Below W.heap.size W w')) :
    Calls Tryz.prog 10 #[.agg a.R.toArray, .agg b.R.toArray] w (SameP a b qv qt qc qd w) := by
  have RL := hide (And.intro rla rlb)
  obtain ⟨W, hW⟩ : ∃ W, (w.alloc (.cells a.R.toArray 36)).alloc (.cells b.R.toArray 36) = W := ⟨_, rfl⟩
  have SM : Hid (Sm w a b W) := by show Sm _ _ _ _; rw [← hW]; exact sm_new w a b
  have HW := hide hW
  clear hW rla rlb
  have HV := hide hv
  have HT := hide ht
  have HC := hide hc
  have HD := hide hd
  have HPA : Hid (∀ V, Below w.heap.size w V → Hos la V a.po a.hs a.pb a.poff) := fun V hb => hpa.below (hb.mono hla)
  have HPB : Hid (∀ V, Below w.heap.size w V → Hos lb V b.po b.hs b.pb b.poff) := fun V hb => hpb.below (hb.mono hlb)
  have HA48 : Hid (∀ V, Sm w a b V → V.cell? ⟨w.heap.size, 48, none⟩ = some (.slice a.po a.pn a.pc) ∧ V.cell? ⟨w.heap.size + 1, 48, none⟩ = some (.slice b.po b.pn b.pc)) := fun V h => ⟨h.ca 48 (Mg.at48 RL.out.1), h.cb 48 (Mg.at48 RL.out.2)⟩
  have HNL := hide (And.intro hna hnb)
  have HLK : Hid (a.hs = b.hs → a.like b) := fun hh => ⟨hr.1, hr.2.1, hr.2.2.1, hr.2.2.2.1, hr.2.2.2.2.1, hr.2.2.2.2.2, hq.1, hq.2.1, hq.2.2.1, hq.2.2.2.1, hq.2.2.2.2.1, hh⟩
  have HQ := hide hq
  have hle : a.pn ≤ 4398046511104 := by rw [← hna]; exact hpa.le
  clear hq hv ht hc hd hpa hpb hna hnb
  obtain ⟨b1, hb1, hbe⟩ : ∃ b1 : Bool, (b1 = true ↔ ¬ (a.num = b.num ∧ a.node = b.node)) ∧ ∀ w, (binOp BinOp.neq 25 (.agg #[.int .u64 (a.num : Int), .int .i64 a.node]) (.agg #[.int .u64 (b.num : Int), .int .i64 b.node])).run Tryz.prog w = .ok (.bool b1) w := ⟨_, by simp; omega, bal_cmp (a.num : Int) b.num a.node b.node⟩
  have x0 := SM.out.ca 0 (v := .int .i64 a.kind) rfl
  have y0 := SM.out.cb 0 (v := .int .i64 b.kind) rfl
  have x1 := SM.out.ca 1 (v := .int .u64 (a.num : Int)) rfl
  have y1 := SM.out.cb 1 (v := .int .u64 (b.num : Int)) rfl
  have x2 := SM.out.ca 2 (v := .int .i64 a.node) rfl
  have y2 := SM.out.cb 2 (v := .int .i64 b.node) rfl
  have x3 := SM.out.ca 3 (v := .int .u64 (a.slot : Int)) rfl
  have y3 := SM.out.cb 3 (v := .int .u64 (b.slot : Int)) rfl
  have x4 := SM.out.ca 4 (v := .int .u64 (a.low : Int)) rfl
  have y4 := SM.out.cb 4 (v := .int .u64 (b.low : Int)) rfl
  have x8 := SM.out.ca 8 (v := .int .u64 (a.seq : Int)) rfl
  have y8 := SM.out.cb 8 (v := .int .u64 (b.seq : Int)) rfl
  have x9 := SM.out.ca 9 (v := .int .u64 (a.stamp : Int)) rfl
  have y9 := SM.out.cb 9 (v := .int .u64 (b.stamp : Int)) rfl
  obtain ⟨e0, ⟨e1, e2⟩, e3, e4, e8, e9⟩ := hr
  rw [← e0] at y0
  rw [← e1] at y1 hbe hb1
  rw [← e2] at y2 hbe hb1
  rw [← e3] at y3
  rw [← e4] at y4
  rw [← e8] at y8
  rw [← e9] at y9
  obtain rfl : b1 = false := Bool.eq_false_iff.2 (fun e => hb1.1 e ⟨rfl, rfl⟩)
  clear e0 e1 e2 e3 e4 e8 e9 hb1
  go_enter Tryz.func10, Tryz.ntmps10
  go_upto_region 1 with fail
  rw [HW.out]
  clear HW
  go_upto_region 3 with fail
  clear x0 y0 x1 y1 x2 y2 x3 y3 x4 y4 x8 y8 x9 y9 hbe
  obtain ⟨b14, hb14, hze⟩ : ∃ b14 : Bool, (b14 = true ↔ ¬ a.root = b.root) ∧ ∀ w, (binOp BinOp.neq 33 (.agg (vals a.root).toArray) (.agg (vals b.root).toArray)).run Tryz.prog w = .ok (.bool b14) w := ⟨_, by simp, hash_ncmp RL.out.1 RL.out.2⟩
  have HRA := hide SM.out.ra
  have HRB := hide SM.out.rb
  have HLA : Hid ((Tryz.prog.info? 33).map (·.size) = some (vals a.root).length) := by show _ = _; rw [vals_len, RL.out.1]; kernel_rfl
  have HLB : Hid ((Tryz.prog.info? 33).map (·.size) = some (vals b.root).length) := by show _ = _; rw [vals_len, RL.out.2]; kernel_rfl
  generalize vals a.root = zs at *
  generalize vals b.root = zz at *
  have x10 := SM.out.ca 10 (v := .int .i64 a.code) rfl
  have y10 := SM.out.cb 10 (v := .int .i64 b.code) rfl
  have x13 := SM.out.ca 13 (v := .bool a.sus) rfl
  have y13 := SM.out.cb 13 (v := .bool b.sus) rfl
  have x14 := SM.out.ca 14 (v := .int .u64 (a.idx : Int)) rfl
  have y14 := SM.out.cb 14 (v := .int .u64 (b.idx : Int)) rfl
  have x15 := SM.out.ca 15 (v := .int .u64 (a.cnt : Int)) rfl
  have y15 := SM.out.cb 15 (v := .int .u64 (b.cnt : Int)) rfl
  have x48 := SM.out.ca 48 (Mg.at48 RL.out.1)
  have y48 := SM.out.cb 48 (Mg.at48 RL.out.2)
  obtain ⟨e10, e13, e14, e15, er, e48⟩ := HQ.out
  rw [← e10] at y10
  rw [← e13] at y13
  rw [← e14] at y14
  rw [← e15] at y15
  rw [← e48] at y48
  obtain rfl : b14 = false := Bool.eq_false_iff.2 (fun e => hb14.1 e er)
  have HPN := hide e48
  clear e10 e13 e14 e15 er e48 hb14
  go_step
  iterate 68 go_step
  refine wpList_load_midG (by rfl) 33 _ rfl w.heap.size 16 rfl zs _ HRA.out Tryz.underlying33 rfl HLA.out ?_
  simp only [Act.put, List.setIfInBounds_toArray, List.set_cons_zero, List.set_cons_succ]
  iterate 2 go_step
  refine wpList_load_midG (by rfl) 33 _ rfl (w.heap.size + 1) 16 rfl zz _ HRB.out Tryz.underlying33 rfl HLB.out ?_
  simp only [Act.put, List.setIfInBounds_toArray, List.set_cons_zero, List.set_cons_succ]
  go_upto_region 5 with fail
  clear x10 y10 x13 y13 x14 y14 x15 y15 x48 y48 hze HRA HRB HLA HLB
  go_wp2
  go_loopw [5] (fun i wr => ∃ k : Nat, k ≤ a.pn ∧ i = .int .i64 k ∧ Hid (Sm w a b wr ∧ a.hs.take k = b.hs.take k)) (fun i _ => a.pn - (intOf i).toNat)
  case atStart => exact ⟨0, by omega, rfl, SM.out, rfl⟩
  case round =>
    obtain ⟨k, hk, rfl, HS⟩ := hrel
    obtain ⟨u1, u2⟩ := HA48.out wr HS.out.1
    clear SM
    by_cases hlt : k < a.pn
    · obtain ⟨t1, g1, -, l1, -, n1, hpo1, r1⟩ := (HPA.out wr HS.out.1.bel).get (k := k) (by rw [HNL.out.1]; exact hlt)
      obtain ⟨t2, g2, -, l2, -, n2, hpo2, r2⟩ := (HPB.out wr HS.out.1.bel).get (k := k) (by rw [HNL.out.2, ← HPN.out]; exact hlt)
      rw [hpo1] at u1
      rw [hpo2] at u2
      obtain ⟨c, hc, hce⟩ : ∃ c : Bool, (c = true ↔ ¬ t1 = t2) ∧ ∀ w, (binOp BinOp.neq 33 (.agg (vals t1).toArray) (.agg (vals t2).toArray)).run Tryz.prog w = .ok (.bool c) w := ⟨_, by simp, hash_ncmp l1 l2⟩
      have HS2 := hide (And.intro HS.out.1.drew HS.out.2)
      have HTK : Hid (t1 = t2 → a.hs.take (k + 1) = b.hs.take (k + 1)) := fun e => by rw [List.take_add_one, List.take_add_one, HS.out.2, g1, g2, e]
      have HTN : Hid (¬ t1 = t2 → a.hs ≠ b.hs) := fun e h => e (by rw [h, g2] at g1; cases g1; rfl)
      have s1 : (Tryz.prog.info? 33).map (·.size) = some (vals t1).length := by rw [vals_len, l1]; kernel_rfl
      have s2 : (Tryz.prog.info? 33).map (·.size) = some (vals t2).length := by rw [vals_len, l2]; kernel_rfl
      have HS1 := hide s1
      have HS2' := hide s2
      have R1 := hide r1
      have R2 := hide r2
      have hwa : a.pb < wr.heap.size := Nat.lt_of_lt_of_le n1 (Nat.le_trans hla HS.out.1.bel.size)
      have hwb : b.pb < wr.heap.size := Nat.lt_of_lt_of_le n2 (Nat.le_trans hlb HS.out.1.bel.size)
      have hqa := block_lt HS.out.1.qa
      have hqb := block_lt HS.out.1.qb
      clear g1 g2 l1 l2 hpo1 hpo2 n1 n2 HS s1 s2 r1 r2
      generalize vals t1 = v1 at *
      generalize vals t2 = v2 at *
      have hpn := HPN.out
      rw [← hpn] at u2
      clear hpn
      go_wp2_with fail
      refine wp_region_held_drew (S := fun w' => (w'.cell? ⟨w.heap.size, 48, none⟩ = some (.slice (some ⟨a.pb, a.poff, none⟩) a.pn a.pc) ∧ w'.cell? ⟨w.heap.size + 1, 48, none⟩ = some (.slice (some ⟨b.pb, b.poff, none⟩) a.pn b.pc)) ∧ w'.rangeAt a.pb (a.poff + k * 32) v1 ∧ w'.rangeAt b.pb (b.poff + k * 32) v2) (by kernel_rfl) ⟨⟨u1, u2⟩, R1.out, R2.out⟩ (fun hH => ?_)
      refine wpAnyH_take (i := 0) (oi := { dst := some 95, op := Op.fieldAddr 36 (Operand.tmp 2) 15, type := 0, pos := "help.go:245", after := #[], guard := none }) (v := .pointer (some ⟨w.heap.size, 48, none⟩)) rfl (by kernel_rfl) (by kernel_rfl) (by kernel_rfl) (fun _ _ _ h => h) (Or.inl ⟨by rfl, fun w' hSw => ?_⟩) hH ?_
      · obtain ⟨⟨q1, q2⟩, -, -⟩ := hSw
        go_simp
      simp only [Act.put, List.setIfInBounds_toArray, List.set_cons_zero, List.set_cons_succ]
      refine wpAnyH_take (i := 1) (oi := { dst := some 96, op := Op.load 34 (Operand.tmp 95), type := 34, pos := "help.go:245", after := #[{ on := 0, ground := Ground.data }], guard := none }) (v := .slice (some ⟨a.pb, a.poff, none⟩) a.pn a.pc) rfl (by kernel_rfl) (by kernel_rfl) (by kernel_rfl) (fun _ _ _ h => h) (Or.inl ⟨by rfl, fun w' hSw => ?_⟩) hH ?_
      · obtain ⟨⟨q1, q2⟩, -, -⟩ := hSw
        go_simp
      simp only [Act.put, List.setIfInBounds_toArray, List.set_cons_zero, List.set_cons_succ]
      refine wpAnyH_take (i := 2) (oi := { dst := some 97, op := Op.move (Operand.tmp 5), type := 3, pos := "help.go:245", after := #[], guard := none }) (v := .int .i64 (k : Int)) rfl (by kernel_rfl) (by kernel_rfl) (by kernel_rfl) (fun _ _ _ h => h) (Or.inl ⟨by rfl, fun w' hSw => ?_⟩) hH ?_
      · obtain ⟨⟨q1, q2⟩, -, -⟩ := hSw
        go_simp
      simp only [Act.put, List.setIfInBounds_toArray, List.set_cons_zero, List.set_cons_succ]
      refine wpAnyH_take (i := 3) (oi := { dst := some 98, op := Op.indexAddr 34 (Operand.tmp 96) (Operand.tmp 97), type := 0, pos := "help.go:245", after := #[{ on := 1, ground := Ground.data }, { on := 2, ground := Ground.data }], guard := none }) (v := .pointer (some ⟨a.pb, a.poff + k * 32, none⟩)) rfl (by kernel_rfl) (by kernel_rfl) (by kernel_rfl) (fun _ _ _ h => h) (Or.inl ⟨by rfl, fun w' hSw => ?_⟩) hH ?_
      · obtain ⟨⟨q1, q2⟩, -, -⟩ := hSw
        go_simp
      simp only [Act.put, List.setIfInBounds_toArray, List.set_cons_zero, List.set_cons_succ]
      refine wpAnyH_take (i := 4) (oi := { dst := some 99, op := Op.load 33 (Operand.tmp 98), type := 33, pos := "help.go:245", after := #[{ on := 3, ground := Ground.data }], guard := none }) (v := .agg v1.toArray) rfl (by kernel_rfl) (by kernel_rfl) (by kernel_rfl) (fun _ _ _ h => h) ?_ hH ?_
      · exact yieldsIf_load_mid (by rfl) 33 (.tmp 98) rfl a.pb (a.poff + k * 32) (by simp [Act.eval]) v1 _ (fun _ h => h.2.1) Tryz.underlying33 rfl HS1.out
      simp only [Act.put, List.setIfInBounds_toArray, List.set_cons_zero, List.set_cons_succ]
      refine wpAnyH_take (i := 5) (oi := { dst := some 100, op := Op.fieldAddr 36 (Operand.tmp 3) 15, type := 0, pos := "help.go:245", after := #[], guard := none }) (v := .pointer (some ⟨w.heap.size + 1, 48, none⟩)) rfl (by kernel_rfl) (by kernel_rfl) (by kernel_rfl) (fun _ _ _ h => h) (Or.inl ⟨by rfl, fun w' hSw => ?_⟩) hH ?_
      · obtain ⟨⟨q1, q2⟩, -, -⟩ := hSw
        go_simp
      simp only [Act.put, List.setIfInBounds_toArray, List.set_cons_zero, List.set_cons_succ]
      refine wpAnyH_take (i := 6) (oi := { dst := some 101, op := Op.load 34 (Operand.tmp 100), type := 34, pos := "help.go:245", after := #[{ on := 5, ground := Ground.data }], guard := none }) (v := .slice (some ⟨b.pb, b.poff, none⟩) a.pn b.pc) rfl (by kernel_rfl) (by kernel_rfl) (by kernel_rfl) (fun _ _ _ h => h) (Or.inl ⟨by rfl, fun w' hSw => ?_⟩) hH ?_
      · obtain ⟨⟨q1, q2⟩, -, -⟩ := hSw
        go_simp
      simp only [Act.put, List.setIfInBounds_toArray, List.set_cons_zero, List.set_cons_succ]
      refine wpAnyH_take (i := 7) (oi := { dst := some 102, op := Op.move (Operand.tmp 5), type := 3, pos := "help.go:245", after := #[], guard := none }) (v := .int .i64 (k : Int)) rfl (by kernel_rfl) (by kernel_rfl) (by kernel_rfl) (fun _ _ _ h => h) (Or.inl ⟨by rfl, fun w' hSw => ?_⟩) hH ?_
      · obtain ⟨⟨q1, q2⟩, -, -⟩ := hSw
        go_simp
      simp only [Act.put, List.setIfInBounds_toArray, List.set_cons_zero, List.set_cons_succ]
      refine wpAnyH_take (i := 8) (oi := { dst := some 103, op := Op.indexAddr 34 (Operand.tmp 101) (Operand.tmp 102), type := 0, pos := "help.go:245", after := #[{ on := 6, ground := Ground.data }, { on := 7, ground := Ground.data }], guard := none }) (v := .pointer (some ⟨b.pb, b.poff + k * 32, none⟩)) rfl (by kernel_rfl) (by kernel_rfl) (by kernel_rfl) (fun _ _ _ h => h) (Or.inl ⟨by rfl, fun w' hSw => ?_⟩) hH ?_
      · obtain ⟨⟨q1, q2⟩, -, -⟩ := hSw
        go_simp
      simp only [Act.put, List.setIfInBounds_toArray, List.set_cons_zero, List.set_cons_succ]
      refine wpAnyH_take (i := 9) (oi := { dst := some 104, op := Op.load 33 (Operand.tmp 103), type := 33, pos := "help.go:245", after := #[{ on := 8, ground := Ground.data }], guard := none }) (v := .agg v2.toArray) rfl (by kernel_rfl) (by kernel_rfl) (by kernel_rfl) (fun _ _ _ h => h) ?_ hH ?_
      · exact yieldsIf_load_mid (by rfl) 33 (.tmp 103) rfl b.pb (b.poff + k * 32) (by simp [Act.eval]) v2 _ (fun _ h => h.2.2) Tryz.underlying33 rfl HS2'.out
      simp only [Act.put, List.setIfInBounds_toArray, List.set_cons_zero, List.set_cons_succ]
      refine wpAnyH_take (i := 10) (oi := { dst := some 105, op := Op.binOp BinOp.neq 33 (Operand.tmp 99) (Operand.tmp 104) 33, type := 4, pos := "help.go:245", after := #[{ on := 4, ground := Ground.data }, { on := 9, ground := Ground.data }], guard := none }) (v := .bool c) rfl (by kernel_rfl) (by kernel_rfl) (by kernel_rfl) (fun _ _ _ h => h) (Or.inl ⟨by rfl, fun w' hSw => ?_⟩) hH ?_
      · obtain ⟨⟨q1, q2⟩, -, -⟩ := hSw
        go_simp
      simp only [Act.put, List.setIfInBounds_toArray, List.set_cons_zero, List.set_cons_succ]
      refine wpAnyH_done (by kernel_rfl) ?_ _
      clear u1 u2
      cases c with
      | true =>
        have NE := hide (HTN.out (hc.1 rfl))
        clear hc
        go_wp2
        go_ret
        exact SameP.no (fun e => NE.out e.1.hs) HS2.out.1.bel
      | false =>
        have EQ := hide (HTK.out (Classical.byContradiction fun e => Bool.noConfusion (hc.2 e)))
        clear hc
        go_wp2
        go_roundw
        case rel => exact ⟨k + 1, by omega, by go_num, HS2.out.1, EQ.out⟩
        case measure => simp [intOf]; omega
    · obtain rfl : k = a.pn := by omega
      have HEQ : Hid (a.like b) := by
        refine HLK.out ?_
        have h1 := HS.out.2
        rwa [← HNL.out.1, List.take_length, HNL.out.1, HPN.out, ← HNL.out.2, List.take_length] at h1
      have SM := hide HS.out.1
      have z5 := HS.out.1.ca 5 (v := .slice a.vo a.vn a.vc) rfl
      have z5' := HS.out.1.cb 5 (v := .slice b.vo b.vn b.vc) rfl
      clear HS HLK HPA HPB
      go_wp2_with fail
      clear z5 z5' u1 u2
      refine (HV.out wr SM.out.bel).mono ?_
      rintro e w1 ⟨rfl, g1⟩
      have SM1 := hide (SM.out.next g1.out)
      clear g1 SM HV
      cases qv with
      | false =>
        go_wp2
        go_ret
        exact SameP.no (fun e => by cases e.2.1) SM1.out.bel
      | true =>
      have z6 := SM1.out.ca 6 (v := .int .u64 (a.st : Int)) rfl
      have z6' := SM1.out.cb 6 (v := .int .u64 (b.st : Int)) rfl
      have z7 := SM1.out.ca 7 (v := .slice a.ro a.n a.rc) rfl
      have z7' := SM1.out.cb 7 (v := .slice b.ro b.n b.rc) rfl
      go_wp2_with fail
      clear z6 z6' z7 z7'
      refine (HT.out w1 SM1.out.bel).mono ?_
      rintro e w2 ⟨rfl, g2⟩
      have SM2 := hide (SM1.out.next g2.out)
      clear g2 SM1 HT
      cases qt with
      | false =>
        go_wp2
        go_ret
        exact SameP.no (fun e => by cases e.2.2.1) SM2.out.bel
      | true =>
      have z11 := SM2.out.ca 11 (v := .slice a.co a.cn a.cc) rfl
      have z11' := SM2.out.cb 11 (v := .slice b.co b.cn b.cc) rfl
      go_wp2_with fail
      clear z11 z11'
      refine (HC.out w2 SM2.out.bel).mono ?_
      rintro e w3 ⟨rfl, g3⟩
      have SM3 := hide (SM2.out.next g3.out)
      clear g3 SM2 HC
      cases qc with
      | false =>
        go_wp2
        go_ret
        exact SameP.no (fun e => by cases e.2.2.2.1) SM3.out.bel
      | true =>
      have z12 := SM3.out.ca 12 (v := .slice a.do_ a.dn a.dc) rfl
      have z12' := SM3.out.cb 12 (v := .slice b.do_ b.dn b.dc) rfl
      go_wp2_with fail
      clear z12 z12'
      refine (HD.out w3 SM3.out.bel).mono ?_
      rintro e w4 ⟨rfl, g4⟩
      have SM4 := hide (SM3.out.next g4.out)
      clear g4 SM3 HD
      go_wp2
      go_ret
      exact SameP.yes HEQ.out SM4.out.bel
end Go.Proofs.YtldhafpeigdloaaGreatDoor
