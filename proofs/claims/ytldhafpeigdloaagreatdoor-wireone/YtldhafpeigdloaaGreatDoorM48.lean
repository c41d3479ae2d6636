import Derived.Test.YtldhafpeigdloaaGreatDoorM47
import Derived.Test.YtldhafpeigdloaaGreatDoorM41
namespace Go.Proofs.YtldhafpeigdloaaGreatDoor
open Go.RowKit Crc

/-- A message in its box. -/
structure B1 (w : World) (m : Mg) (W : World) : Prop where
  bel : Below w.heap.size w W
  q0 : W.heap[w.heap.size]? = some (.cells m.R.toArray 36 (0, 0))
theorem B1.next {w : World} {m : Mg} {W W' : World} (h : B1 w m W) (hb : Below W.heap.size W W') : B1 w m W' := ⟨h.bel.trans (hb.mono h.bel.size), (hb.block _ (block_lt h.q0)).trans h.q0⟩
theorem b1_new (w : World) (m : Mg) : B1 w m (w.alloc (.cells m.R.toArray 36)) := ⟨below_alloc1 w _, alloc_at _ _⟩
theorem B1.c {w : World} {m : Mg} {W : World} (h : B1 w m W) (j : Nat) {v : Value} (hv : m.R[j]? = some v) : W.cell? ⟨w.heap.size, j, none⟩ = some v := blk_cell h.q0 hv

set_option maxRecDepth 10000 in
set_option maxHeartbeats 1600000 in
theorem mayMsg_bad {w : World} (m : Mg) (hk : m.kind < 1 ∨ 10 < m.kind) : Calls Tryz.prog 7 #[.agg m.R.toArray] w fun e w' => e = .returned (.bool false) ∧ Hid (Below w.heap.size w w') := by
  obtain ⟨W, hW⟩ : ∃ W, w.alloc (.cells m.R.toArray 36) = W := ⟨_, rfl⟩
  have B0 : Hid (B1 w m W) := by show B1 _ _ _; rw [← hW]; exact b1_new w m
  have x0 := B0.out.c 0 (v := .int .i64 m.kind) rfl
  have HW := hide hW
  clear hW
  generalize m.kind = kk at *
  by_cases h1 : kk < 1
  · have d1 : decide (kk < 1) = true := by simp [h1]
    clear hk
    go_enter Tryz.func7, Tryz.ntmps7
    go_upto_region 1 with fail
    rw [HW.out]
    clear HW
    go_wp2
    go_ret
    exact ⟨rfl, B0.out.bel⟩
  · have d1 : decide (kk < 1) = false := by simp [h1]
    have h2 : 10 < kk := by omega
    have d2 : decide (10 < kk) = true := by simp [h2]
    clear hk
    go_enter Tryz.func7, Tryz.ntmps7
    go_upto_region 1 with fail
    rw [HW.out]
    clear HW
    go_wp2
    go_ret
    exact ⟨rfl, B0.out.bel⟩

set_option maxRecDepth 10000 in
set_option maxHeartbeats 3200000 in
theorem mayMsg_good {w : World} (m : Mg) (hx : m.Ok w.heap.size w) (K : Nat) (hk : m.kind = (K : Int)) (hk1 : 1 ≤ K) (hk2 : K ≤ 10) : Calls Tryz.prog 7 #[.agg m.R.toArray] w fun e w' => e = .returned (.bool (decide ((mNo m).1 = 0))) ∧ Hid (Below w.heap.size w w') := by
  obtain ⟨W, hW⟩ : ∃ W, w.alloc (.cells m.R.toArray 36) = W := ⟨_, rfl⟩
  have B0 : Hid (B1 w m W) := by show B1 _ _ _; rw [← hW]; exact b1_new w m
  have HIF := hide (may_iff hx hk hk1 hk2)
  have HNO : Hid (¬ (m.bl K ∧ MB m ∧ MC m ∧ MD K m) → decide ((mNo m).1 = 0) = false) := fun h => decide_eq_false (fun e => h (HIF.out.1 e))
  have HYES : Hid (m.bl K ∧ MB m ∧ MC m ∧ MD K m → decide ((mNo m).1 = 0) = true) := fun h => decide_eq_true (HIF.out.2 h)
  have HX0 : Hid (m.R[0]? = some (.int .i64 (K : Int))) := by show _ = _; rw [← hk]; rfl
  have HX48 : Hid (m.R[48]? = some (.slice m.po m.pn m.pc)) := Mg.at48 hx.rl
  have HRG := hide (blk_range B0.out.q0)
  have HST : Hid (∀ V, Calls Tryz.prog 19 #[.agg m.R.toArray] V fun e w' => e = .returned (.agg (m.strip K).R.toArray) ∧ Hid (Below V.heap.size V w')) := fun V => strip_any m hx.rl hk hk1 hk2 V
  have HSN : Hid (∀ V, Below w.heap.size w V → Calls Tryz.prog 10 #[.agg (m.strip K).R.toArray, .agg msgZ.toArray] V fun e w' => ∃ q : Bool, e = .returned (.bool q) ∧ Hid ((q = true ↔ m.bl K) ∧ Below V.heap.size V w')) := fun V hb => by
    have hp := strip_hos (hx.hP.below hb) hx.hpn K
    refine (sameNone (m.strip K) (strip_rl m hx.rl K) hp.1 hp.2 hb.size).mono ?_
    rintro e w' ⟨q, h1, h2⟩
    exact ⟨q, h1, h2.out.1.trans (none_iff m hx.hpn hk1 hk2), h2.out.2⟩
  have HMV : Hid (∀ V, Below w.heap.size w V → Calls Tryz.prog 21 #[.int .u64 (m.low : Int), .slice m.vo m.vn m.vc] V fun e w' => e = .returned (.bool (decide (vsFault m.low m.vs = 0))) ∧ Hid (Below V.heap.size V w')) := fun V hb => mayVotes_any m.low m.vc m.vn hx.hvn ((hx.hV.below hb).wide hb.size)
  have HMT : Hid (∀ V, Below w.heap.size w V → Calls Tryz.prog 22 #[.agg #[.int .u64 (m.st : Int), .slice m.ro m.n m.rc]] V fun e w' => e = .returned (.bool (decide ((bFault m.st m.rs).2 = 0))) ∧ Hid (Below V.heap.size V w')) := fun V hb => mayBatch_any m.st m.rc m.n hx.hn ((hx.hR.below hb).wide hb.size)
  have HL : Hid ((Tryz.prog.info? 36).map (·.size) = some m.R.length) := by show _ = _; rw [Mg.len hx.rl]; kernel_rfl
  have HW := hide hW
  have x0 := B0.out.c 0 HX0.out
  clear hW hx hk HIF
  have d1 : decide ((K : Int) < 1) = false := by simp; omega
  have d2 : decide ((10 : Int) < (K : Int)) = false := by simp; omega
  generalize (m.strip K).R = FS at *
  obtain ⟨qn, hqn⟩ : ∃ qn, decide ((mNo m).1 = 0) = qn := ⟨_, rfl⟩
  rw [hqn] at HNO HYES ⊢
  clear hqn
  go_enter Tryz.func7, Tryz.ntmps7
  go_upto_region 1 with fail
  rw [HW.out]
  clear HW
  go_step
  iterate 24 go_step
  refine wpList_load_midG (by rfl) 36 _ rfl w.heap.size 0 rfl m.R _ HRG.out Tryz.underlying36 rfl HL.out ?_
  simp only [Act.put, List.setIfInBounds_toArray, List.set_cons_zero, List.set_cons_succ]
  clear HRG
  go_wp2_with fail
  refine (HST.out W).mono ?_
  rintro e w2 ⟨rfl, g2⟩
  have B2 := hide (B0.out.next g2.out)
  clear g2 B0 HST x0
  go_wp2_with fail
  refine (HSN.out w2 B2.out.bel).mono ?_
  rintro e w3 ⟨q, rfl, G3⟩
  have B3 := hide (B2.out.next G3.out.2)
  have HQ := hide G3.out.1
  clear G3 B2 HSN
  cases q with
  | false =>
    have HN := hide (HNO.out (fun e => by have := HQ.out.2 e.1; cases this))
    go_wp2
    go_ret
    exact ⟨by rw [HN.out]; rfl, B3.out.bel⟩
  | true =>
  have HBL := hide (HQ.out.1 rfl)
  clear HQ
  have x1 := B3.out.c 1 (v := .int .u64 (m.num : Int)) rfl
  have x2 := B3.out.c 2 (v := .int .i64 m.node) rfl
  go_upto_region 3 with fail
  go_wp2_with fail
  clear x1 x2
  refine (mayBallot_any m.num m.node w3).mono ?_
  rintro e w4 ⟨rfl, g4⟩
  have B4 := hide (B3.out.next g4.out)
  clear g4 B3
  by_cases hb : balBad m.num m.node
  · rw [show decide (¬ balBad m.num m.node) = false by simp [hb]]
    have HN := hide (HNO.out (fun e => e.2.1.bal hb))
    go_wp2
    go_ret
    exact ⟨by rw [HN.out]; rfl, B4.out.bel⟩
  rw [show decide (¬ balBad m.num m.node) = true by simp [hb]]
  have E1 := hide hb
  have x3 := B4.out.c 3 (v := .int .u64 (m.slot : Int)) rfl
  have x4 := B4.out.c 4 (v := .int .u64 (m.low : Int)) rfl
  have x5 := B4.out.c 5 (v := .slice m.vo m.vn m.vc) rfl
  clear hb
  by_cases hs : 1099511627776 < m.slot
  · have d3 : decide ((1099511627776 : Int) < (m.slot : Int)) = true := by simp; omega
    have HN := hide (HNO.out (fun e => e.2.1.slot hs))
    go_wp2
    go_ret
    exact ⟨by rw [HN.out]; rfl, B4.out.bel⟩
  have d3 : decide ((1099511627776 : Int) < (m.slot : Int)) = false := by simp; omega
  by_cases hl : 1099511627776 < m.low
  · have d4 : decide ((1099511627776 : Int) < (m.low : Int)) = true := by simp; omega
    have HN := hide (HNO.out (fun e => e.2.1.low hl))
    go_wp2
    go_ret
    exact ⟨by rw [HN.out]; rfl, B4.out.bel⟩
  have d4 : decide ((1099511627776 : Int) < (m.low : Int)) = false := by simp; omega
  have E2 := hide (And.intro hs hl)
  clear hs hl
  go_wp2_with fail
  clear x3 x4 x5 d3 d4
  refine (HMV.out w4 B4.out.bel).mono ?_
  rintro e w5 ⟨rfl, g5⟩
  have B5 := hide (B4.out.next g5.out)
  clear g5 B4 HMV
  by_cases hv : vsFault m.low m.vs = 0
  rotate_left
  · rw [show decide (vsFault m.low m.vs = 0) = false by simp [hv]]
    have HN := hide (HNO.out (fun e => hv e.2.1.vs))
    go_wp2
    go_ret
    exact ⟨by rw [HN.out]; rfl, B5.out.bel⟩
  rw [show decide (vsFault m.low m.vs = 0) = true by simp [hv]]
  have E3 := hide hv
  clear hv
  have x6 := B5.out.c 6 (v := .int .u64 (m.st : Int)) rfl
  have x7 := B5.out.c 7 (v := .slice m.ro m.n m.rc) rfl
  go_wp2_with fail
  clear x6 x7
  refine (HMT.out w5 B5.out.bel).mono ?_
  rintro e w6 ⟨rfl, g6⟩
  have B6 := hide (B5.out.next g6.out)
  clear g6 B5 HMT
  by_cases hv : (bFault m.st m.rs).2 = 0
  rotate_left
  · rw [show decide ((bFault m.st m.rs).2 = 0) = false by simp [hv]]
    have HN := hide (HNO.out (fun e => hv e.2.1.bat))
    go_wp2
    go_ret
    exact ⟨by rw [HN.out]; rfl, B6.out.bel⟩
  rw [show decide ((bFault m.st m.rs).2 = 0) = true by simp [hv]]
  have E4 := hide hv
  clear hv
  go_upto_region 5 with fail
  have x9 := B6.out.c 9 (v := .int .u64 (m.stamp : Int)) rfl
  have x10 := B6.out.c 10 (v := .int .i64 m.code) rfl
  have x11 := B6.out.c 11 (v := .slice m.co m.cn m.cc) rfl
  have x14 := B6.out.c 14 (v := .int .u64 (m.idx : Int)) rfl
  have x48 := B6.out.c 48 HX48.out
  by_cases t1 : 1099511627776 < m.stamp
  · have dd : decide ((1099511627776 : Int) < (m.stamp : Int)) = true := by simp; omega
    have HN := hide (HNO.out (fun e => e.2.2.1.stamp t1))
    go_wp2
    go_ret
    exact ⟨by rw [HN.out]; rfl, B6.out.bel⟩
  have dt1 : decide ((1099511627776 : Int) < (m.stamp : Int)) = false := by simp; omega
  by_cases t2 : m.code < 0
  · have dd : decide (m.code < 0) = true := by simp; omega
    have HN := hide (HNO.out (fun e => e.2.2.1.lo t2))
    go_wp2
    go_ret
    exact ⟨by rw [HN.out]; rfl, B6.out.bel⟩
  have dt2 : decide (m.code < 0) = false := by simp; omega
  by_cases t3 : 1023 < m.code
  · have dd : decide ((1023 : Int) < m.code) = true := by simp; omega
    have HN := hide (HNO.out (fun e => e.2.2.1.hi t3))
    go_wp2
    go_ret
    exact ⟨by rw [HN.out]; rfl, B6.out.bel⟩
  have dt3 : decide ((1023 : Int) < m.code) = false := by simp; omega
  by_cases t4 : 700 < m.cn
  · have dd : decide ((700 : Int) < (m.cn : Int)) = true := by simp; omega
    have HN := hide (HNO.out (fun e => e.2.2.1.cn t4))
    go_wp2
    go_ret
    exact ⟨by rw [HN.out]; rfl, B6.out.bel⟩
  have dt4 : decide ((700 : Int) < (m.cn : Int)) = false := by simp; omega
  by_cases t5 : 40 ≤ m.idx
  · have dd : decide ((40 : Int) ≤ (m.idx : Int)) = true := by simp; omega
    have HN := hide (HNO.out (fun e => e.2.2.1.idx t5))
    go_wp2
    go_ret
    exact ⟨by rw [HN.out]; rfl, B6.out.bel⟩
  have dt5 : decide ((40 : Int) ≤ (m.idx : Int)) = false := by simp; omega
  by_cases t6 : 6 < m.pn
  · have dd : decide ((6 : Int) < (m.pn : Int)) = true := by simp; omega
    have HN := hide (HNO.out (fun e => e.2.2.1.pn t6))
    go_wp2
    go_ret
    exact ⟨by rw [HN.out]; rfl, B6.out.bel⟩
  have dt6 : decide ((6 : Int) < (m.pn : Int)) = false := by simp; omega
  have HMC : Hid (MC m) := ⟨t1, t2, t3, t4, t5, t6⟩
  have HMB : Hid (MB m) := ⟨E1.out, E2.out.1, E2.out.2, E3.out, E4.out⟩
  have HFN : Hid ((MD K m → qn = true) ∧ (¬ MD K m → qn = false)) := ⟨fun h => HYES.out ⟨HBL.out, HMB.out, HMC.out, h⟩, fun h => HNO.out (fun e => h e.2.2.2)⟩
  go_upto_region 7 with fail
  clear x9 x10 x11 x48 dt1 dt2 dt3 dt4 dt5 dt6 t1 t2 t3 t4 t6 HMC HMB HNO HYES HBL E1 E2 E3 E4
  have x0 := B6.out.c 0 HX0.out
  have x12 := B6.out.c 12 (v := .slice m.do_ m.dn m.dc) rfl
  have x15 := B6.out.c 15 (v := .int .u64 (m.cnt : Int)) rfl
  unfold MD at HFN
  by_cases hk : K = 10
  · subst hk
    rw [if_pos rfl] at HFN
    by_cases u1 : 1 ≤ m.dn
    rotate_left
    · have dd : decide ((1 : Int) ≤ (m.dn : Int)) = false := by simp; omega
      have HN := hide (HFN.out.2 (fun e => u1 e.1))
      go_wp2
      go_ret
      exact ⟨by rw [HN.out]; rfl, B6.out.bel⟩
    have du1 : decide ((1 : Int) ≤ (m.dn : Int)) = true := by simp; omega
    by_cases u2 : m.dn ≤ 1024
    rotate_left
    · have dd : decide ((m.dn : Int) ≤ 1024) = false := by simp; omega
      have HN := hide (HFN.out.2 (fun e => u2 e.2.1))
      go_wp2
      go_ret
      exact ⟨by rw [HN.out]; rfl, B6.out.bel⟩
    have du2 : decide ((m.dn : Int) ≤ 1024) = true := by simp; omega
    by_cases u3 : m.idx < m.cnt
    rotate_left
    · have dd : decide ((m.idx : Int) < (m.cnt : Int)) = false := by simp; omega
      have HN := hide (HFN.out.2 (fun e => u3 e.2.2.1))
      go_wp2
      go_ret
      exact ⟨by rw [HN.out]; rfl, B6.out.bel⟩
    have du3 : decide ((m.idx : Int) < (m.cnt : Int)) = true := by simp; omega
    by_cases u4 : m.cnt ≤ 40
    rotate_left
    · have dd : decide ((m.cnt : Int) ≤ 40) = false := by simp; omega
      have HN := hide (HFN.out.2 (fun e => u4 e.2.2.2))
      go_wp2
      go_ret
      exact ⟨by rw [HN.out]; rfl, B6.out.bel⟩
    have du4 : decide ((m.cnt : Int) ≤ 40) = true := by simp; omega
    have HN := hide (HFN.out.1 ⟨u1, u2, u3, u4⟩)
    go_wp2
    go_ret
    exact ⟨by rw [HN.out]; rfl, B6.out.bel⟩
  · rw [if_neg hk] at HFN
    have dk : ((K : Int) == 10) = false := by simp; omega
    by_cases u1 : m.dn ≤ 256
    · have dd : decide ((m.dn : Int) ≤ 256) = true := by simp; omega
      have HN := hide (HFN.out.1 u1)
      go_wp2
      go_ret
      exact ⟨by rw [HN.out]; rfl, B6.out.bel⟩
    · have dd : decide ((m.dn : Int) ≤ 256) = false := by simp; omega
      have HN := hide (HFN.out.2 u1)
      go_wp2
      go_ret
      exact ⟨by rw [HN.out]; rfl, B6.out.bel⟩
theorem mayMsg_any {w : World} (m : Mg) (hx : m.Ok w.heap.size w) : Calls Tryz.prog 7 #[.agg m.R.toArray] w fun e w' => e = .returned (.bool (decide ((mNo m).1 = 0))) ∧ Hid (Below w.heap.size w w') := by
  by_cases hk : m.kind < 1 ∨ 10 < m.kind
  · have e : decide ((mNo m).1 = 0) = false := decide_eq_false (fun e => by have := (mNo_parts m).1 e; omega)
    rw [e]
    exact mayMsg_bad m hk
  · exact mayMsg_good m hx m.kind.toNat (by omega) (by omega) (by omega)
end Go.Proofs.YtldhafpeigdloaaGreatDoor
namespace Go.Proofs.YtldhafpeigdloaaGreatDoor
open Go.RowKit Crc

def slAddr : Value → Option Addr
  | .slice a _ _ => a
  | _ => none
def slCap : Value → Nat
  | .slice _ _ c => c
  | _ => 0
def slBlk (v : Value) : Nat := match slAddr v with
  | some a => a.block
  | none => 0
theorem row_form {base size n : Nat} {e : TypeId} {w : World} {v : Value} {xs : List Value} (h : w.ownsRow base e size v n xs) (hl : xs.length = n * size) : v = .slice (slAddr v) n (slCap v) ∧ (0 < n → slAddr v = some ⟨slBlk v, 0, none⟩) ∧ (0 < n → slBlk v < w.heap.size) ∧ w.rangeAt (slBlk v) 0 xs ∧ (∀ b off, slAddr v = some ⟨b, off, none⟩ → b < w.heap.size) := by
  rcases h.2 with ⟨rfl, h0⟩ | ⟨g, cap, cur, rfl, hbg, hg, hnc, hcm, hcs, htake⟩
  · subst h0
    have : xs = [] := List.eq_nil_of_length_eq_zero (by omega)
    subst this
    exact ⟨rfl, fun x => absurd x (by omega), fun x => absurd x (by omega), fun j u hu => absurd hu (by simp), fun b off x => by cases x⟩
  · have hlt : g < w.heap.size := (Array.getElem?_eq_some_iff.1 hg).1
    refine ⟨rfl, fun _ => rfl, fun _ => hlt, fun j u hu => ?_, fun b off x => by cases x; exact hlt⟩
    have hj := (List.getElem?_eq_some_iff.1 hu).1
    rw [← htake, List.getElem?_take, if_pos (by omega)] at hu
    have h2 := cell_of_row w g (0 + j) cur _ (0, 0) hg
    show w.cell? ⟨g, 0 + j, none⟩ = some u
    rw [h2, Nat.zero_add]
    simpa using hu
theorem flat_at {s : Nat} : ∀ (L : List (List Value)) (i : Nat) (l : List Value), (∀ x ∈ L, x.length = s) → L[i]? = some l → ∀ j v, l[j]? = some v → L.flatten[i * s + j]? = some v
  | [], i, l, _, h, _, _, _ => by simp at h
  | x :: t, 0, l, hs, h, j, v, hv => by
    simp at h
    subst h
    have hj := (List.getElem?_eq_some_iff.1 hv).1
    rw [List.flatten_cons, Nat.zero_mul, Nat.zero_add, List.getElem?_append_left hj]
    exact hv
  | x :: t, i + 1, l, hs, h, j, v, hv => by
    have hx := hs x (by simp)
    have ih := flat_at t i l (fun y hy => hs y (by simp [hy])) (by simpa using h) j v hv
    have e : (i + 1) * s + j - x.length = i * s + j := by rw [hx, Nat.add_mul]; omega
    rw [List.flatten_cons, List.getElem?_append_right (by rw [hx, Nat.add_mul]; omega), e]
    exact ih
theorem OwnRs.rqs {base : Nat} {w : World} {v : Value} {rs : List Rq} (h : OwnRs base w v rs) : v = .slice (slAddr v) rs.length (slCap v) ∧ Rqs w.heap.size w (slAddr v) rs (slBlk v) 0 := by
  obtain ⟨ao, cap, b, rfl, hr⟩ := h.form
  refine ⟨rfl, ?_⟩
  by_cases h0 : 0 < rs.length
  · have e := hr.ad h0
    subst e
    exact hr
  · have : rs = [] := List.eq_nil_of_length_eq_zero (by omega)
    subst this
    exact ⟨fun x => absurd x h0, fun x => absurd x h0, hr.le, fun i r hx => absurd hx (by simp), fun r hx => absurd hx (by simp)⟩
theorem freeM_lt {base : Nat} {w : World} {rs : List Rq} (h : FreeRs base w rs) : ∀ r ∈ rs, ∀ b off, r.co = some ⟨b, off, none⟩ → b < w.heap.size := by
  intro r hr b off e
  obtain ⟨ao, cap, e2, hs, h3⟩ := (h.own r hr).form
  unfold Rq.sl at e2
  have e4 : r.co = ao := by injection e2
  rw [e4] at e
  rcases h3 with ⟨e3, _⟩ | ⟨g, e3, _, h4⟩
  · rw [e3] at e; cases e
  · rw [e3] at e; cases e; exact h4
theorem Owns.sl {base : Nat} {w : World} {v : Value} {B : List Nat} (h : Owns base w v B) : v = .slice (slAddr v) B.length (slCap v) ∧ Shows w.heap.size w (slAddr v) B.length (slCap v) B ∧ (∀ b off, slAddr v = some ⟨b, off, none⟩ → b < w.heap.size) := by
  obtain ⟨ao, cap, rfl, hs, h3⟩ := h.form
  refine ⟨rfl, hs, fun b off e => ?_⟩
  have e : ao = some ⟨b, off, none⟩ := e
  rcases h3 with ⟨e3, _⟩ | ⟨g, e3, _, h4⟩
  · rw [e3] at e; cases e
  · rw [e3] at e; cases e; exact h4
def Vt.vi (t : Vt) : Vi := ⟨t.val.slot, t.val.num, (t.val.node : Int), t.val.stamp, slAddr t.sl, t.rs.length, slCap t.sl, t.rs, slBlk t.sl, 0⟩
/-- A message that lies behind a reader, as one that is handed in. -/
def Mk.mg (c : Mk) (K : Nat) : Mg := ⟨K, c.num, c.node, c.slot, c.low, slAddr c.vv, c.ts.length, slCap c.vv, c.ts.map Vt.vi, slBlk c.vv, 0, c.bst, slAddr c.bv, c.rs.length, slCap c.bv, c.rs, slBlk c.bv, 0, c.seq, c.stamp, c.code, slAddr c.cv, c.cmd.length, slCap c.cv, c.cmd, slAddr c.dv, c.data.length, slCap c.dv, c.data, c.sus, c.idx, c.cnt, c.root, slAddr c.hv, c.hs.length, slCap c.hv, c.hs, slBlk c.hv, 0⟩
theorem vcells_len (ts : List Vt) : (vcells ts).length = ts.length * 5 := by
  unfold vcells
  induction ts with
  | nil => rfl
  | cons t r ih => simp only [List.map_cons, List.flatten_cons, List.length_append, ih, List.length_cons, Vt.cells, List.length_nil]; omega
theorem hcells_len (hs : List (List Nat)) (h : ∀ x ∈ hs, x.length = 32) : ((hs.map vals).flatten).length = hs.length * 32 := by
  induction hs with
  | nil => rfl
  | cons t r ih =>
    have := h t (by simp)
    have := ih (fun x hx => h x (by simp [hx]))
    simp only [List.map_cons, List.flatten_cons, List.length_append, List.length_cons, vals_len]
    omega
section
variable {base : Nat} {w : World} {c : Mk}
theorem Mk.mg_R (hm : Mo base w c) (hh : ∀ x ∈ c.hs, x.length = 32) (K : Nat) : (c.mg K).R = c.R.set 0 (.int .i64 (K : Int)) := by
  have e1 := (row_form hm.vo.row (vcells_len c.ts)).1
  have e2 := hm.own.rqs.1
  have e3 := hm.cm.sl.1
  have e4 := hm.dat.sl.1
  have e5 := (row_form hm.pa (hcells_len c.hs hh)).1
  have e : (c.mg K).R = .int .i64 (K : Int) :: .int .u64 (c.num : Int) :: .int .i64 (c.node : Int) :: .int .u64 (c.slot : Int) :: .int .u64 (c.low : Int) :: .slice (slAddr c.vv) c.ts.length (slCap c.vv) :: .int .u64 (c.bst : Int) :: .slice (slAddr c.bv) c.rs.length (slCap c.bv) :: .int .u64 (c.seq : Int) :: .int .u64 (c.stamp : Int) :: .int .i64 c.code :: .slice (slAddr c.cv) c.cmd.length (slCap c.cv) :: .slice (slAddr c.dv) c.data.length (slCap c.dv) :: .bool c.sus :: .int .u64 (c.idx : Int) :: .int .u64 (c.cnt : Int) :: (vals c.root ++ [.slice (slAddr c.hv) c.hs.length (slCap c.hv)]) := rfl
  rw [e, ← e1, ← e2, ← e3, ← e4, ← e5]
  unfold Mk.R
  rw [List.append_assoc]
  rfl
theorem vts_parts : ∀ (V : List Vv) (l : Nat), VtsOk l V → ∀ v ∈ V, v.slot ≤ 1099511627776 ∧ v.num ≤ 1099511627776 ∧ v.stamp ≤ 1099511627776
  | [], _, _, v, hv => by cases hv
  | x :: t, l, h, v, hv => by
    rcases List.mem_cons.1 hv with rfl | hv
    · exact ⟨h.1.hi, h.1.num, h.1.bat.1⟩
    · exact vts_parts t _ h.2 v hv
/-- The bounds that every message that may be keeps. -/
theorem Mv.Ok.nums {K : Nat} {v : Mv} (h : v.Ok K) : v.num ≤ 1099511627776 ∧ v.slot ≤ 1099511627776 ∧ v.low ≤ 1099511627776 ∧ v.bst ≤ 1099511627776 ∧ v.seq < 18446744073709551616 ∧ v.stamp ≤ 1099511627776 ∧ v.idx ≤ 40 ∧ v.cnt ≤ 40 ∧ (0 ≤ v.code ∧ v.code ≤ 1023) ∧ (∀ t ∈ v.votes, t.slot ≤ 1099511627776 ∧ t.num ≤ 1099511627776 ∧ t.stamp ≤ 1099511627776) := by
  have ok := h.ok
  have bl := h.bl
  have z1 : blankAt v 1 → v.num ≤ 1099511627776 := fun e => by have e : v.num = 0 ∧ v.node = 0 := e; omega
  have z2 : blankAt v 2 → v.slot ≤ 1099511627776 := fun e => by have e : v.slot = 0 := e; omega
  have z3 : blankAt v 3 → v.low ≤ 1099511627776 := fun e => by have e : v.low = 0 := e; omega
  have z5 : blankAt v 5 → v.bst ≤ 1099511627776 := fun e => by have e : v.bst = 0 ∧ v.V = [] := e; omega
  have z6 : blankAt v 6 → v.seq < 18446744073709551616 := fun e => by have e : v.seq = 0 := e; omega
  have z7 : blankAt v 7 → v.stamp ≤ 1099511627776 := fun e => by have e : v.stamp = 0 := e; omega
  have z12 : blankAt v 12 → v.idx ≤ 40 := fun e => by have e : v.idx = 0 := e; omega
  have z13 : blankAt v 13 → v.cnt ≤ 40 := fun e => by have e : v.cnt = 0 := e; omega
  have z8 : blankAt v 8 → 0 ≤ v.code ∧ v.code ≤ 1023 := fun e => by have e : v.code = 0 := e; omega
  have z4 : blankAt v 4 → ∀ t ∈ v.votes, t.slot ≤ 1099511627776 ∧ t.num ≤ 1099511627776 ∧ t.stamp ≤ 1099511627776 := fun e t ht => by have e : v.votes = [] := e; rw [e] at ht; cases ht
  have i12 : v.idx ≤ 39 → v.idx ≤ 40 := fun e => by omega
  rcases k_cases h.k1 h.k10 with rfl | rfl | rfl | rfl | rfl | rfl | rfl | rfl | rfl | rfl
  all_goals
    refine ⟨?_, ?_, ?_, ?_, ?_, ?_, ?_, ?_, ?_, ?_⟩
    · first | exact z1 (bl 1 (by omega) (by omega) (by decide)) | exact (ok .ballot (by decide)).1
    · first | exact z2 (bl 2 (by omega) (by omega) (by decide)) | exact ok .slot (by decide)
    · first | exact z3 (bl 3 (by omega) (by omega) (by decide)) | exact ok .low (by decide)
    · first | exact z5 (bl 5 (by omega) (by omega) (by decide)) | exact (ok .batch (by decide)).1
    · first | exact z6 (bl 6 (by omega) (by omega) (by decide)) | exact ok .seq (by decide)
    · first | exact z7 (bl 7 (by omega) (by omega) (by decide)) | exact ok .stamp (by decide)
    · first | exact z12 (bl 12 (by omega) (by omega) (by decide)) | exact i12 (ok .index (by decide))
    · first | exact z13 (bl 13 (by omega) (by omega) (by decide)) | exact (ok .total (by decide)).2
    · first | exact z8 (bl 8 (by omega) (by omega) (by decide)) | exact ok .outcome (by decide)
    · first | exact z4 (bl 4 (by omega) (by omega) (by decide)) | exact vts_parts _ _ (ok .votes (by decide)).2
theorem Mk.mg_ok (hm : Mo base w c) (rl : c.root.length = 32) (rb : ∀ x ∈ c.root, x < 256) (hh : ∀ x ∈ c.hs, x.length = 32 ∧ ∀ y ∈ x, y < 256) (h6 : c.ts.length ≤ 8 ∧ c.hs.length ≤ 6) {K : Nat} (ok : c.mv.Ok K) : (c.mg K).Ok w.heap.size w ∧ (c.mg K).mv = c.mv ∧ (c.mg K).pos ∧ (c.mg K).Co w.heap.size := by
  obtain ⟨b1, b2, b3, b4, b5, b6, b7, b8, b9, b10⟩ := ok.nums
  obtain ⟨v1, v2, v3, v4, v5⟩ := row_form hm.vo.row (vcells_len c.ts)
  obtain ⟨p1, p2, p3, p4, p5⟩ := row_form hm.pa (hcells_len c.hs (fun x hx => (hh x hx).1))
  have hc := hm.cm.sl
  have hd := hm.dat.sl
  have b1 : c.num ≤ 1099511627776 := b1
  have b2 : c.slot ≤ 1099511627776 := b2
  have b3 : c.low ≤ 1099511627776 := b3
  have b4 : c.bst ≤ 1099511627776 := b4
  have b5 : c.seq < 18446744073709551616 := b5
  have b6 : c.stamp ≤ 1099511627776 := b6
  have b7 : c.idx ≤ 40 := b7
  have b8 : c.cnt ≤ 40 := b8
  have b9 : 0 ≤ c.code ∧ c.code ≤ 1023 := b9
  refine ⟨⟨?_, ?_, ?_, ?_, ?_, ?_, ?_, ?_, ?_, ?_, ?_, ?_, ?_, ?_, ?_, ?_, ?_, ?_, ?_⟩, ?_, ?_, ?_⟩
  · show c.num < _; omega
  · show c.slot < _; omega
  · show c.low < _; omega
  · show c.bst < _; omega
  · exact b5
  · show c.stamp < _; omega
  · show c.idx < _; omega
  · show c.cnt < _; omega
  · show -9223372036854775808 ≤ c.code ∧ c.code < 9223372036854775808; omega
  · refine ⟨fun h => ?_, fun h => ?_, ?_, fun i t ht j v hv => ?_, fun t ht => ?_⟩
    · exact v2 (by have h : 0 < (c.ts.map Vt.vi).length := h; simpa using h)
    · exact v3 (by have h : 0 < (c.ts.map Vt.vi).length := h; simpa using h)
    · show (c.ts.map Vt.vi).length ≤ _
      rw [List.length_map]; omega
    · have ht : (c.ts.map Vt.vi)[i]? = some t := ht
      rw [List.getElem?_map] at ht
      obtain ⟨s, hs, rfl⟩ := Option.map_eq_some_iff.1 ht
      have hsm := List.mem_of_getElem? hs
      have e := (hm.vo.own s hsm).1.rqs.1
      have ec : s.vi.cells = s.cells := by
        show [_, _, _, _, Value.slice (slAddr s.sl) s.rs.length (slCap s.sl)] = [_, _, _, _, s.sl]
        rw [← e]
        rfl
      rw [ec] at hv
      have hf := flat_at (s := 5) (c.ts.map Vt.cells) i s.cells (fun x hx => by obtain ⟨y, _, rfl⟩ := List.mem_map.1 hx; rfl) (by rw [List.getElem?_map, hs]; rfl) j v hv
      have := v4 (i * 5 + j) v hf
      rw [Nat.zero_add] at this
      show w.cell? ⟨slBlk c.vv, 0 + i * 5 + j, none⟩ = some v
      rw [Nat.zero_add]
      exact this
    · obtain ⟨s, hs, rfl⟩ := List.mem_map.1 ht
      have o1 := (hm.vo.own s hs).1
      obtain ⟨n1, n2, n3⟩ := b10 s.val (List.mem_map.2 ⟨s, hs, rfl⟩)
      exact ⟨by show s.val.slot < _; omega, by show s.val.num < _; omega, by show s.val.stamp < _; omega, o1.rqs.2, rfl⟩
  · show (c.ts.map Vt.vi).length = c.ts.length; simp
  · exact hm.own.rqs.2
  · rfl
  · exact hc.2.1
  · exact hd.2.1
  · exact rl
  · exact rb
  · refine ⟨p2, p3, by show c.hs.length ≤ _; omega, hh, fun i x hx j v hv => ?_⟩
    have hx : c.hs[i]? = some x := hx
    have hf := flat_at (s := 32) (c.hs.map vals) i (vals x) (fun y hy => by obtain ⟨z, hz, rfl⟩ := List.mem_map.1 hy; rw [vals_len]; exact (hh z hz).1) (by rw [List.getElem?_map, hx]; rfl) j v hv
    have := p4 (i * 32 + j) v hf
    rw [Nat.zero_add] at this
    show w.cell? ⟨slBlk c.hv, 0 + i * 32 + j, none⟩ = some v
    rw [Nat.zero_add]
    exact this
  · rfl
  · have e : (c.ts.map Vt.vi).map Vi.vv = c.ts.map Vt.val := by
      rw [List.map_map]
      refine List.map_congr_left (fun t ht => ?_)
      have := hm.vo.vals t ht
      show (⟨t.val.slot, t.val.num, ((t.val.node : Nat) : Int).toNat, t.val.stamp, t.rs.map Rq.val⟩ : Vv) = t.val
      rw [this, Int.toNat_natCast]
    show (⟨c.num, ((c.node : Nat) : Int).toNat, c.slot, c.low, (c.ts.map Vt.vi).map Vi.vv, c.bst, c.rs.map Rq.val, c.seq, c.stamp, c.code, c.cmd, c.data, c.sus, c.idx, c.cnt, c.root, c.hs⟩ : Mv) = c.mv
    rw [e, Int.toNat_natCast]
    rfl
  · refine ⟨by show (0 : Int) ≤ (c.node : Int); omega, fun t ht => ?_⟩
    obtain ⟨s, _, rfl⟩ := List.mem_map.1 ht
    show (0 : Int) ≤ (s.val.node : Int)
    omega
  · refine ⟨fun t ht => ?_, freeM_lt hm.free, hc.2.2, hd.2.2⟩
    obtain ⟨s, hs, rfl⟩ := List.mem_map.1 ht
    exact freeM_lt (hm.vo.own s hs).2
end
end Go.Proofs.YtldhafpeigdloaaGreatDoor
namespace Go.Proofs.YtldhafpeigdloaaGreatDoor
open Go.RowKit Crc

theorem cons_of {n : Nat} {B : List Nat} (h : n + 1 ≤ B.length) : ∃ x R, B = x :: R ∧ n ≤ R.length := by
  cases B with
  | nil => simp at h
  | cons x R => exact ⟨x, R, rfl, by simpa using h⟩
theorem four_of {R : List Nat} (h : R.length = 4) : ∃ a b c d, R = [a, b, c, d] := by
  match R, h with
  | [a, b, c, d], _ => exact ⟨a, b, c, d, rfl⟩
/-- A good frame is the frame of its kind and body. -/
theorem frame_inv {B : List Nat} (hB : ∀ x ∈ B, x < 256) (h : (ff B).2 = 0) : B = frameB (B.getD 3 0) ((B.drop 8).take (B.length - 12)) ∧ ((B.drop 8).take (B.length - 12)).length = B.length - 12 ∧ (B.take (B.length - 4)).drop 8 = (B.drop 8).take (B.length - 12) := by
  obtain ⟨h12, hmax, -, hm, h1, hl, hs⟩ := ff_ok h
  obtain ⟨b0, R, rfl, l0⟩ := cons_of (n := 11) (by omega)
  obtain ⟨b1, R, rfl, l1⟩ := cons_of (n := 10) l0
  obtain ⟨b2, R, rfl, l2⟩ := cons_of (n := 9) l1
  obtain ⟨b3, R, rfl, l3⟩ := cons_of (n := 8) l2
  obtain ⟨b4, R, rfl, l4⟩ := cons_of (n := 7) l3
  obtain ⟨b5, R, rfl, l5⟩ := cons_of (n := 6) l4
  obtain ⟨b6, R, rfl, l6⟩ := cons_of (n := 5) l5
  obtain ⟨b7, R, rfl, l7⟩ := cons_of (n := 4) l6
  have hb : ∀ x ∈ [b0, b1, b2, b3, b4, b5, b6, b7], x < 256 := fun x hx => hB x (by simp only [List.mem_cons, List.not_mem_nil, or_false] at hx ⊢; rcases hx with h | h | h | h | h | h | h | h <;> simp [h])
  have q0 := hb b0 (by simp)
  have q1 := hb b1 (by simp)
  have q4 := hb b4 (by simp)
  have q5 := hb b5 (by simp)
  have q6 := hb b6 (by simp)
  have q7 := hb b7 (by simp)
  have hR : ∀ x ∈ R, x < 256 := fun x hx => hB x (by simp [hx])
  have hlen : (b0 :: b1 :: b2 :: b3 :: b4 :: b5 :: b6 :: b7 :: R).length = R.length + 8 := by simp
  rw [hlen] at hl hmax hs
  have em : hi ((b0 :: b1 :: b2 :: b3 :: b4 :: b5 :: b6 :: b7 :: R).take 2) = b0 * 256 + b1 := by simp [hi]
  have el : hi (((b0 :: b1 :: b2 :: b3 :: b4 :: b5 :: b6 :: b7 :: R).drop 4).take 4) = ((b4 * 256 + b5) * 256 + b6) * 256 + b7 := by simp [hi]
  rw [em] at hm
  rw [el] at hl
  have hb2 : b2 = 1 := h1
  clear h1
  obtain ⟨a, b, c, d, e4⟩ := four_of (R := R.drop (R.length - 4)) (by rw [List.length_drop]; omega)
  have eR : R = R.take (R.length - 4) ++ [a, b, c, d] := by rw [← e4, List.take_append_drop]
  obtain ⟨Y, hY⟩ : ∃ Y, R.take (R.length - 4) = Y := ⟨_, rfl⟩
  rw [hY] at eR
  clear e4 hY
  subst eR
  have ha := hR a (by simp)
  have hb' := hR b (by simp)
  have hc := hR c (by simp)
  have hd := hR d (by simp)
  have lY : (Y ++ [a, b, c, d]).length = Y.length + 4 := by simp
  rw [lY] at hl hmax hs
  have eb : ((b0 :: b1 :: b2 :: b3 :: b4 :: b5 :: b6 :: b7 :: (Y ++ [a, b, c, d])).drop 8).take ((b0 :: b1 :: b2 :: b3 :: b4 :: b5 :: b6 :: b7 :: (Y ++ [a, b, c, d])).length - 12) = Y := by
    rw [hlen, lY, show Y.length + 4 + 8 - 12 = Y.length by omega]
    show (Y ++ [a, b, c, d]).take Y.length = Y
    simp
  have et : (b0 :: b1 :: b2 :: b3 :: b4 :: b5 :: b6 :: b7 :: (Y ++ [a, b, c, d])).take (Y.length + 4 + 8 - 4) = b0 :: b1 :: b2 :: b3 :: b4 :: b5 :: b6 :: b7 :: Y := by
    rw [show Y.length + 4 + 8 - 4 = Y.length + 8 by omega]
    simp only [List.take_succ_cons]
    simp
  have e0 : b0 = 81 ∧ b1 = 77 := by omega
  have e1 : b4 = Y.length / 16777216 % 256 ∧ b5 = Y.length / 65536 % 256 ∧ b6 = Y.length / 256 % 256 ∧ b7 = Y.length % 256 := by omega
  have eh : b0 :: b1 :: b2 :: b3 :: b4 :: b5 :: b6 :: b7 :: Y = headB b3 Y := by rw [headB_eq, e0.1, e0.2, hb2, ← e1.1, ← e1.2.1, ← e1.2.2.1, ← e1.2.2.2]
  rw [et, eh] at hs
  have elow : lowOf (b0 :: b1 :: b2 :: b3 :: b4 :: b5 :: b6 :: b7 :: (Y ++ [a, b, c, d])) = lo4 a b c d := by
    unfold lowOf
    rw [hlen, lY, show Y.length + 4 + 8 - 4 = Y.length + 8 by omega]
    have g : ∀ j, (b0 :: b1 :: b2 :: b3 :: b4 :: b5 :: b6 :: b7 :: (Y ++ [a, b, c, d])).getD (Y.length + 8 + j) 0 = [a, b, c, d].getD j 0 := fun j => by
      rw [show Y.length + 8 + j = (Y.length + j) + 8 by omega]
      simp [List.getD, List.getElem?_append_right]
    have g0 := g 0
    rw [Nat.add_zero] at g0
    rw [g0, g 1, g 2, g 3]
    rfl
  refine ⟨?_, ?_, ?_⟩
  · rw [eb]
    show _ = frameB b3 Y
    rw [frameB_eq, ← e1.1, ← e1.2.1, ← e1.2.2.1, ← e1.2.2.2, hs, elow, e0.1, e0.2, hb2]
    have : low4 (lo4 a b c d) = [a, b, c, d] := by
      unfold low4 lo4
      congr 1
      · omega
      · congr 1
        · omega
        · congr 1
          · omega
          · congr 1
            omega
    rw [this]
  · rw [eb, hlen, lY]; omega
  · rw [eb, hlen, lY, et]
    rfl
end Go.Proofs.YtldhafpeigdloaaGreatDoor
namespace Go.Proofs.YtldhafpeigdloaaGreatDoor
open Go.RowKit Crc

theorem encs_mem {fs : List Mf} {f : Mf} {v : Mv} {x : Nat} (hf : f ∈ fs) (hx : x ∈ f.enc v) : x ∈ encs fs v := by
  unfold encs
  exact List.mem_flatten.2 ⟨f.enc v, List.mem_map.2 ⟨f, hf, rfl⟩, hx⟩
theorem rep_lt : ∀ x ∈ List.replicate 32 0, x < 256 := fun x hx => by rw [(List.mem_replicate.1 hx).2]; omega
/-- What is in a message whose bytes are bytes. -/
theorem Mv.Ok.bytes {K : Nat} {v : Mv} (h : v.Ok K) (hb : ∀ x ∈ encs (mfOf K) v, x < 256) : (∀ x ∈ v.root, x < 256) ∧ (∀ p ∈ v.path, p.length = 32 ∧ ∀ x ∈ p, x < 256) ∧ v.votes.length ≤ 8 ∧ v.path.length ≤ 6 := by
  refine ⟨?_, ?_, ?_, ?_⟩
  · by_cases hf : Mf.root ∈ mfOf K
    · exact fun x hx => hb x (encs_mem hf hx)
    · have e : v.root = List.replicate 32 0 := h.bl 14 (by omega) (by omega) (fun f hg e => by cases f <;> first | exact hf hg | exact absurd e (by decide))
      rw [e]
      exact rep_lt
  · by_cases hf : Mf.path ∈ mfOf K
    · have ok : v.path.length ≤ 6 ∧ ∀ h ∈ v.path, h.length = 32 := h.ok .path hf
      exact fun p hp => ⟨ok.2 p hp, fun x hx => hb x (encs_mem hf (List.mem_append.2 (.inr (List.mem_flatten.2 ⟨p, hp, hx⟩))))⟩
    · have e : v.path = [] := h.bl 15 (by omega) (by omega) (fun f hg e => by cases f <;> first | exact hf hg | exact absurd e (by decide))
      rw [e]
      intro p hp
      cases hp
  · by_cases hf : Mf.votes ∈ mfOf K
    · exact (h.ok .votes hf).1
    · have e : v.votes = [] := h.bl 4 (by omega) (by omega) (fun f hg e => by cases f <;> first | exact hf hg | exact absurd e (by decide))
      rw [e]
      simp
  · by_cases hf : Mf.path ∈ mfOf K
    · exact (h.ok .path hf).1
    · have e : v.path = [] := h.bl 15 (by omega) (by omega) (fun f hg e => by cases f <;> first | exact hf hg | exact absurd e (by decide))
      rw [e]
      simp
/-- A message that was read. -/
structure Read (K : Nat) (v : Mv) (B : List Nat) (cs : List Value) (w' : World) (m : Mg) : Prop where
  cs : cs = m.R
  kind : m.kind = (K : Int)
  ok : m.Ok w'.heap.size w'
  pos : m.pos
  co : m.Co w'.heap.size
  mv : m.mv = v
  may : m.mv.Ok K
  bytes : B = frameB K (mBody m)
/-- DecodeMsg of a good frame, in the law's words. -/
theorem decm_good (b off : Nat) (B : List Nat) (n cap : Nat) (w : World) (hn : n = B.length) (hcap : n ≤ cap) (hB : ∀ x ∈ B, x < 256) (hT : ∀ w1 : World, Below w.heap.size w w1 → Table w1) (hbw : b < w.heap.size)
  (hc : ∀ i, i < n → w.cell? ⟨b, off + i, none⟩ = some (.int .u8 ((B.getD i 0 : Nat) : Int))) (hok : (ff B).2 = 0) :
    Calls Tryz.prog 8 #[.slice (some ⟨b, off, none⟩) n cap] w fun e w' => ∃ (cs : List Value) (x : Value), e = .returned (.tuple #[.agg cs.toArray, x]) ∧ Hid (cs.length = 49 ∧ (∀ v ∈ cs, v.oneCell' = true) ∧ Below w.heap.size w w' ∧ ErrV w' x (mdC (B.getD 3 0) (B.take (n - 4))) (mdA (B.getD 3 0) (B.take (n - 4))) ∧ (mdC (B.getD 3 0) (B.take (n - 4)) = 0 → ∃ m : Mg, Read (B.getD 3 0) (dRun (B.getD 3 0) (B.take (n - 4))).2 B cs w' m)) := by
  refine (decode_is b off B n cap w hn hcap hB hT hbw hc hok).mono ?_
  rintro e w' ⟨cs, x, rfl, G⟩
  obtain ⟨g1, g2, g3, g4, -, g6⟩ := G.out
  refine ⟨cs, x, rfl, g1, g2, g3, g4, fun hz => ?_⟩
  obtain ⟨c, rfl, rl, hmv, hmo⟩ := g6 hz
  obtain ⟨i1, i2⟩ := msg_inv (fun y hy => hB y (List.mem_of_mem_take hy)) hz
  obtain ⟨f1, f2, f3⟩ := frame_inv hB hok
  rw [← hmv] at i1 i2
  have hbb : ∀ y ∈ encs (mfOf (B.getD 3 0)) c.mv, y < 256 := fun y hy => by
    rw [← i1] at hy
    exact hB y (List.mem_of_mem_take (List.mem_of_mem_drop hy))
  obtain ⟨k1, k2, k3, k4⟩ := i2.bytes hbb
  have k3 : (c.ts.map Vt.val).length ≤ 8 := k3
  rw [List.length_map] at k3
  obtain ⟨o1, o2, o3, o4⟩ := Mk.mg_ok hmo rl k1 k2 ⟨k3, k4⟩ i2
  have hsz : w.heap.size ≤ w'.heap.size := g3.size
  refine ⟨c.mg (B.getD 3 0), (Mk.mg_R hmo (fun y hy => (k2 y hy).1) _).symm, rfl, o1, o3, o4, o2.trans hmv, by rw [o2]; exact i2, ?_⟩
  have e1 : mBody (c.mg (B.getD 3 0)) = encs (mfOf (B.getD 3 0)) c.mv := by
    unfold mBody
    rw [o2]
    rfl
  rw [e1, ← i1, hn, f3]
  exact f1
/-- A message's datagram is read as that message. -/
theorem dec_fwd {K : Nat} {v : Mv} (hv : v.Ok K) (hb : ∀ x ∈ encs (mfOf K) v, x < 256) (hl : (encs (mfOf K) v).length ≤ 65495) {F : List Nat} (hF : F = frameB K (encs (mfOf K) v)) : (ff F).2 = 0 ∧ F.getD 3 0 = K ∧ mdC K (F.take (F.length - 4)) = 0 ∧ (dRun K (F.take (F.length - 4))).2 = v := by
  have k10 := hv.k10
  have e0 := frame_good K (encs (mfOf K) v) (by omega) hb hl
  have e1 := frameB_kind K (encs (mfOf K) v)
  have e2 := frameB_len K (encs (mfOf K) v)
  have e3 := frameB_head K (encs (mfOf K) v)
  rw [← hF] at e0 e1 e2 e3
  have e4 : F.length - 4 = 8 + (encs (mfOf K) v).length := by omega
  rw [e4, e3]
  have e5 : (headB K (encs (mfOf K) v)).drop 8 = encs (mfOf K) v := by rw [headB_eq]; rfl
  obtain ⟨m1, m2⟩ := msg_fwd hv e5
  exact ⟨by rw [e0], e1, m1, m2⟩
end Go.Proofs.YtldhafpeigdloaaGreatDoor
