import Derived.Test.YtojknconkmplkaaMI
import Derived.Test.YtojknconkmplkaaMD
namespace Go.Proofs.Ytojknconkmplkaa
open Go.RowKit Crc

/-- What counts of a message. -/
structure Mw where
  (kind : Int) (num : Nat) (node : Int) (slot st : Nat) (rs : List (Nat × Nat × List Nat))
/-- A message as it lies. -/
structure Ms where
  (cs : List Value) (kind : Int) (num : Nat) (node : Int) (slot st : Nat) (ro : Option Addr) (n rc : Nat) (rs : List Rq) (b off : Nat)
def Ms.mw (m : Ms) : Mw := ⟨m.kind, m.num, m.node, m.slot, m.st, m.rs.map Rq.val⟩
structure Ms.Ok (lim : Nat) (w : World) (m : Ms) : Prop where
  len : m.cs.length = 49
  one : ∀ v ∈ m.cs, v.oneCell' = true
  c0 : m.cs[0]? = some (.int .i64 m.kind)
  c1 : m.cs[1]? = some (.int .u64 (m.num : Nat))
  c2 : m.cs[2]? = some (.int .i64 m.node)
  c3 : m.cs[3]? = some (.int .u64 (m.slot : Nat))
  c6 : m.cs[6]? = some (.int .u64 (m.st : Nat))
  c7 : m.cs[7]? = some (.slice m.ro m.n m.rc)
  hn : m.num < 18446744073709551616
  hsl : m.slot < 18446744073709551616
  hs : m.st < 18446744073709551616
  hR : Rqs lim w m.ro m.rs m.b m.off
  hl : m.rs.length = m.n
theorem Ms.Ok.below {lim : Nat} {w w' : World} {m : Ms} (h : m.Ok lim w) (hb : Below lim w w') : m.Ok lim w' := ⟨h.len, h.one, h.c0, h.c1, h.c2, h.c3, h.c6, h.c7, h.hn, h.hsl, h.hs, h.hR.below hb, h.hl⟩
theorem Ms.Ok.wide {lim lim' : Nat} {w : World} {m : Ms} (h : m.Ok lim w) (hl : lim ≤ lim') : m.Ok lim' w := ⟨h.len, h.one, h.c0, h.c1, h.c2, h.c3, h.c6, h.c7, h.hn, h.hsl, h.hs, h.hR.wide hl, h.hl⟩
theorem Ms.Ok.odd {lim q : Nat} {w w' : World} {m : Ms} (h : m.Ok lim w) (hg : w.grownBy w' (some q)) (ho : Odd w q) : m.Ok lim w' := ⟨h.len, h.one, h.c0, h.c1, h.c2, h.c3, h.c6, h.c7, h.hn, h.hsl, h.hs, h.hR.odd hg ho, h.hl⟩
theorem blk_range {W : World} {b : Nat} {cs : List Value} {t : TypeId} (h : W.heap[b]? = some (.cells cs.toArray t (0, 0))) : W.rangeAt b 0 cs := fun j v hv => by
  rw [Nat.zero_add, block_cell h j, List.getElem?_toArray]
  exact hv
theorem blk_cell {W : World} {b : Nat} {cs : List Value} {t : TypeId} (h : W.heap[b]? = some (.cells cs.toArray t (0, 0))) {j : Nat} {v : Value} (hv : cs[j]? = some v) : W.cell? ⟨b, j, none⟩ = some v := by
  rw [block_cell h j, List.getElem?_toArray]
  exact hv
/-- Does the message count? -/
def cntB (c : Cf) (low src : Nat) (m : Mw) : Bool :=
  decide (m.kind = 7) && decide ((src : Int) < 2 * c.f + 1) && decide (m.num ≠ 0) && c.valid m.num m.node && decide (low ≤ m.slot) && decide (m.slot < low + 16) && decide (m.slot < c.ms) && validB m.st m.rs

set_option maxRecDepth 100000 in
set_option maxHeartbeats 3200000 in
theorem countsL {W : World} {lb g mb nn : Nat} {c : Cf} {low : Nat} {u : Nat → Jv} (hk : c.Ok) (h : LL W lb g mb nn c low u) (src : Nat) (m : Ms) (hm : m.Ok W.heap.size W) :
    Calls Try.prog 17 #[.pointer (some ⟨lb, 0, none⟩), .int .u64 (src : Nat), .agg m.cs.toArray] W fun e w' => e = .returned (.bool (cntB c low src m.mw)) ∧ Hid (Below W.heap.size W w') := by
  obtain ⟨W1, hW1⟩ : ∃ W1, W.alloc (.cells m.cs.toArray 50) = W1 := ⟨_, rfl⟩
  have B1 : Hid (Below W.heap.size W W1) := by rw [← hW1]; exact below_alloc1 W _
  have C1 : Hid (W1.heap[W.heap.size]? = some (.cells m.cs.toArray 50 (0, 0))) := by rw [← hW1]; exact alloc_atK _ _
  have HL := hide (h.kept B1.out)
  have HMB := hide ((hm.below B1.out).wide B1.out.size)
  have K0 : Hid (∀ V, Hid (Below W1.heap.size W1 V) → V.cell? ⟨W.heap.size, 0, none⟩ = some (.int .i64 m.kind)) := fun V hb => blk_cell ((hb.out.block _ (block_lt C1.out)).trans C1.out) hm.c0
  have K1 : Hid (∀ V, Hid (Below W1.heap.size W1 V) → V.cell? ⟨W.heap.size, 1, none⟩ = some (.int .u64 (m.num : Nat))) := fun V hb => blk_cell ((hb.out.block _ (block_lt C1.out)).trans C1.out) hm.c1
  have K2 : Hid (∀ V, Hid (Below W1.heap.size W1 V) → V.cell? ⟨W.heap.size, 2, none⟩ = some (.int .i64 m.node)) := fun V hb => blk_cell ((hb.out.block _ (block_lt C1.out)).trans C1.out) hm.c2
  have K3 : Hid (∀ V, Hid (Below W1.heap.size W1 V) → V.cell? ⟨W.heap.size, 3, none⟩ = some (.int .u64 (m.slot : Nat))) := fun V hb => blk_cell ((hb.out.block _ (block_lt C1.out)).trans C1.out) hm.c3
  have K6 : Hid (∀ V, Hid (Below W1.heap.size W1 V) → V.cell? ⟨W.heap.size, 6, none⟩ = some (.int .u64 (m.st : Nat))) := fun V hb => blk_cell ((hb.out.block _ (block_lt C1.out)).trans C1.out) hm.c6
  have K7 : Hid (∀ V, Hid (Below W1.heap.size W1 V) → V.cell? ⟨W.heap.size, 7, none⟩ = some (.slice m.ro m.n m.rc)) := fun V hb => blk_cell ((hb.out.block _ (block_lt C1.out)).trans C1.out) hm.c7
  have KP : Hid (∀ V, Hid (Below W1.heap.size W1 V) → V.cell? ⟨lb, 0, none⟩ = some (.pointer (some ⟨g, 0, none⟩))) := fun V hb => (HL.out.kept hb.out).c 0
  have KQ : Hid (∀ V, Hid (Below W1.heap.size W1 V) → V.cell? ⟨lb, 1, none⟩ = some (.int .u64 (low : Nat))) := fun V hb => (HL.out.kept hb.out).c 1
  have KL : Hid (∀ V, Hid (Below W1.heap.size W1 V) → lb < V.heap.size) := fun V hb => block_lt (HL.out.kept hb.out).blk
  have KW : Hid (∀ V, Hid (Below W1.heap.size W1 V) → W.heap.size < V.heap.size) := fun V hb => Nat.lt_of_lt_of_le (block_lt C1.out) hb.out.size
  have KN : Hid (∀ V, Hid (Below W1.heap.size W1 V) → Calls Try.prog 33 #[.pointer (some ⟨g, 0, none⟩)] V fun e V' => e = .returned (.int .i64 (2 * c.f + 1)) ∧ V' = V) := fun V hb => nodes_live (HL.out.kept hb.out).pg hk
  have KV : Hid (∀ V, Hid (Below W1.heap.size W1 V) → Calls Try.prog 34 #[.pointer (some ⟨g, 0, none⟩), .agg #[.int .u64 (m.num : Nat), .int .i64 m.node]] V fun e V' => e = .returned (.bool (c.valid m.num m.node)) ∧ Below V.heap.size V V') := fun V hb => valid_live m.num m.node (HL.out.kept hb.out).pg hk
  have KC : Hid (∀ V, Hid (Below W1.heap.size W1 V) → Calls Try.prog 35 #[.pointer (some ⟨g, 0, none⟩)] V fun e V' => e = .returned (.agg #[.int .i64 c.f, .int .i64 c.mb, .int .u64 (c.delay : Nat), .int .u64 (c.win : Nat), .int .u64 (c.every : Nat), .int .u64 (c.beat : Nat), .int .u64 (c.ep : Nat), .int .u64 (c.em : Nat), .int .u64 (c.mn : Nat), .int .u64 (c.ms : Nat)]) ∧ Below V.heap.size V V') := fun V hb => config_live (HL.out.kept hb.out).pg hk
  have KVB : Hid (∀ V, Hid (Below W1.heap.size W1 V) → Calls Try.prog 36 #[.agg #[.int .u64 (m.st : Nat), .slice m.ro m.n m.rc]] V fun e V' => e = .returned (.bool (validB m.st (m.rs.map Rq.val))) ∧ Hid (Below V.heap.size V V')) := fun V hb => validBatch_any m.st m.n m.rc hm.hl ((HMB.out.hR.below hb.out).wide hb.out.size)
  have KB : Hid (∀ V V', Hid (Below W1.heap.size W1 V) → Below V.heap.size V V' → Hid (Below W1.heap.size W1 V')) := fun V V' h h' => h.out.trans (h'.mono h.out.size)
  have HDR : Hid (∀ V, Hid (Below W1.heap.size W1 V) → Hid (Below W1.heap.size W1 V.drew)) := fun V h => h.out.drew
  have HV : Hid (Below W1.heap.size W1 W1) := Below.refl _ W1
  have HFIN : Hid (∀ V, Hid (Below W1.heap.size W1 V) → Below W.heap.size W V) := fun V h => B1.out.trans (h.out.mono B1.out.size)
  have HNO : Hid (∀ z, cntB c low src m.mw = z → z = (decide (m.kind = 7) && decide ((src : Int) < 2 * c.f + 1) && decide (m.num ≠ 0) && c.valid m.num m.node && decide (low ≤ m.slot) && decide (m.slot < low + 16) && decide (m.slot < c.ms) && validB m.st (m.rs.map Rq.val))) := fun z e => e.symm
  have HW1 := hide hW1
  have hlo := h.lo
  have hms := hk.ms2
  have hf1 := hk.f1
  have hf3 := hk.f3

  clear h hm hk hW1 C1 HL HMB B1
  obtain ⟨z, hz⟩ : ∃ z, cntB c low src m.mw = z := ⟨_, rfl⟩
  have HZ := hide (HNO.out z hz)
  rw [hz]
  clear hz HNO
  generalize m.kind = kind at *
  generalize m.num = num at *
  generalize m.node = node at *
  generalize m.slot = slot at *
  generalize m.st = st at *
  generalize m.ro = ro at *
  generalize m.n = n at *
  generalize m.rc = rc at *
  generalize validB st (m.rs.map Rq.val) = vb at *
  generalize c.valid num node = vl at *
  generalize m.cs = cs at *
  obtain ⟨SI, hSI⟩ : ∃ x : Int, ((slot : Nat) : Int) = x := ⟨_, rfl⟩
  obtain ⟨LI, hLI⟩ : ∃ x : Int, ((low : Nat) : Int) = x := ⟨_, rfl⟩
  obtain ⟨RI, hRI⟩ : ∃ x : Int, ((src : Nat) : Int) = x := ⟨_, rfl⟩
  obtain ⟨MI, hMI⟩ : ∃ x : Int, ((c.ms : Nat) : Int) = x := ⟨_, rfl⟩
  obtain ⟨UI, hUI⟩ : ∃ x : Int, ((num : Nat) : Int) = x := ⟨_, rfl⟩
  obtain ⟨NI, hNI⟩ : ∃ x : Int, 2 * c.f + 1 = x := ⟨_, rfl⟩
  obtain ⟨XI, hXI⟩ : ∃ x : Int, LI + 16 = x := ⟨_, rfl⟩
  have hNw : IntKind.u64.wrap NI = NI := IntWalk.u64_in _ ⟨by omega, by omega⟩
  have hXw : IntKind.u64.wrap (LI + 16) = XI := by rw [← hXI]; exact IntWalk.u64_in _ ⟨by omega, by omega⟩
  rw [hSI] at K3
  rw [hLI] at KQ
  rw [hMI] at KC
  rw [hUI] at K1 KV
  rw [hNI] at KN HZ
  rw [hRI] at HZ ⊢
  have E5 : Hid (¬ SI < LI → low ≤ slot) := fun _ => by omega
  have N5 : Hid (SI < LI → ¬ low ≤ slot) := fun _ => by omega
  have E6 : Hid (¬ XI ≤ SI → slot < low + 16) := fun _ => by omega
  have N6 : Hid (XI ≤ SI → ¬ slot < low + 16) := fun _ => by omega
  have E7 : Hid (¬ MI ≤ SI → slot < c.ms) := fun _ => by omega
  have N7 : Hid (MI ≤ SI → ¬ slot < c.ms) := fun _ => by omega
  have E3 : Hid (¬ UI = 0 → num ≠ 0) := fun _ => by omega
  have N3 : Hid (UI = 0 → ¬ num ≠ 0) := fun _ => by omega
  clear hSI hLI hRI hMI hUI hNI hXI hf1 hf3 hlo hms
  go_enter Try.func17, Try.ntmps17
  go_upto_region 1 with fail
  rw [HW1.out]
  clear HW1
  have q0 := K0.out W1 HV
  by_cases g1 : kind ≠ 7
  · have d : (kind != 7) = true := by simp [g1]
    have HF : Hid (z = false) := by show _ = _; rw [HZ.out, decide_eq_false g1]; simp
    clear g1
    go_wp2
    go_ret
    exact ⟨by rw [HF.out]; rfl, HFIN.out _ HV⟩
  obtain rfl : kind = 7 := Decidable.not_not.1 g1
  clear g1
  have q1 := KP.out W1 HV
  have q2 := KL.out W1 HV
  go_wp2_with fail
  refine (KN.out W1 HV).mono ?_
  rintro e w1 ⟨rfl, hw⟩
  rw [hw]
  clear hw q0 q1 q2
  have q0 := K1.out W1 HV
  by_cases g2 : NI ≤ RI
  · have d : decide (NI ≤ RI) = true := decide_eq_true g2
    have HF : Hid (z = false) := by show _ = _; rw [HZ.out, decide_eq_false (show ¬ RI < NI by omega)]; simp
    clear g2
    go_wp2
    go_ret
    exact ⟨by rw [HF.out]; rfl, HFIN.out _ HV⟩
  have d2 : decide (NI ≤ RI) = false := decide_eq_false g2
  have HZ2 : Hid (decide (RI < NI) = true) := decide_eq_true (by omega)
  clear g2
  by_cases g3 : UI = 0
  · have d3 : (UI == 0) = true := by simp [g3]
    have HF : Hid (z = false) := by show _ = _; rw [HZ.out, decide_eq_false (N3.out g3)]; simp
    clear g3
    go_wp2
    go_ret
    exact ⟨by rw [HF.out]; rfl, HFIN.out _ HV⟩
  have d3 : (UI == 0) = false := by simp [g3]
  have HN0 := hide (E3.out g3)
  clear g3
  go_upto_region 5 with fail
  clear d2 q0 d3 hNw
  cases vl with
  | false =>
    have HF : Hid (z = false) := by show _ = _; rw [HZ.out]; simp
    refine region_assign (fun V => Hid (Below W1.heap.size W1 V)) [(24, .pointer (some ⟨lb, 0, none⟩)), (25, .pointer (some ⟨lb, 0, none⟩)), (26, .pointer (some ⟨lb, 0, none⟩)), (27, .pointer (some ⟨g, 0, none⟩)), (28, .pointer (some ⟨W.heap.size, 1, none⟩)), (29, .agg #[.int .u64 UI, .int .i64 node]), (30, .bool false), (31, .bool true), (19, .bool true)] _ (by kernel_rfl) (by kernel_rfl) (by kernel_rfl) (by kernel_rfl) rfl (HDR.out _ HV) ?_ (fun V1 HV1 => ?_)
    · simp only [putAll, Act.put, List.setIfInBounds_toArray, List.set_cons_zero, List.set_cons_succ]
      repeat' (first | exact AllTo.nil | refine AllTo.cons ?_ ?_)
      all_goals first
        | exact stepTo_no (by rfl) rfl
        | (refine stepTo_yes (by rfl) (fun V hV K hK => ?_)
           have q0 := K1.out V hV
           have q1 := K2.out V hV
           have q2 := KP.out V hV
           have q3 := KL.out V hV
           have q4 := KW.out V hV
           go_simp
           first
             | exact hK.out _ hV
             | (go_at_call 34; refine (KV.out V hV).mono ?_; rintro e V' ⟨rfl, hV'⟩; exact hK.out _ (KB.out _ _ hV hV')))
    simp only [putAll, Act.put, List.setIfInBounds_toArray, List.set_cons_zero, List.set_cons_succ]
    clear HV
    have HV := HV1
    clear HV1
    generalize V1 = V0 at *
    go_wp2
    go_ret
    exact ⟨by rw [HF.out]; rfl, HFIN.out _ HV⟩
  | true =>
  refine region_assign (fun V => Hid (Below W1.heap.size W1 V)) [(24, .pointer (some ⟨lb, 0, none⟩)), (25, .pointer (some ⟨lb, 0, none⟩)), (26, .pointer (some ⟨lb, 0, none⟩)), (27, .pointer (some ⟨g, 0, none⟩)), (28, .pointer (some ⟨W.heap.size, 1, none⟩)), (29, .agg #[.int .u64 UI, .int .i64 node]), (30, .bool true), (31, .bool false), (19, .bool false)] _ (by kernel_rfl) (by kernel_rfl) (by kernel_rfl) (by kernel_rfl) rfl (HDR.out _ HV) ?_ (fun V1 HV1 => ?_)
  · simp only [putAll, Act.put, List.setIfInBounds_toArray, List.set_cons_zero, List.set_cons_succ]
    repeat' (first | exact AllTo.nil | refine AllTo.cons ?_ ?_)
    all_goals first
      | exact stepTo_no (by rfl) rfl
      | (refine stepTo_yes (by rfl) (fun V hV K hK => ?_)
         have q0 := K1.out V hV
         have q1 := K2.out V hV
         have q2 := KP.out V hV
         have q3 := KL.out V hV
         have q4 := KW.out V hV
         go_simp
         first
           | exact hK.out _ hV
           | (go_at_call 34; refine (KV.out V hV).mono ?_; rintro e V' ⟨rfl, hV'⟩; exact hK.out _ (KB.out _ _ hV hV')))
  simp only [putAll, Act.put, List.setIfInBounds_toArray, List.set_cons_zero, List.set_cons_succ]
  clear HV
  have HV := HV1
  clear HV1
  generalize V1 = V0 at *
  go_upto_region 7 with fail
  by_cases g5 : SI < LI
  · have d5 : decide (SI < LI) = true := decide_eq_true g5
    have HF : Hid (z = false) := by show _ = _; rw [HZ.out, decide_eq_false (N5.out g5)]; simp
    clear g5
    refine region_assign (fun V => Hid (Below W1.heap.size W1 V)) [(33, .pointer (some ⟨W.heap.size, 3, none⟩)), (34, .int .u64 SI), (35, .pointer (some ⟨lb, 0, none⟩)), (36, .pointer (some ⟨lb, 0, none⟩)), (37, .pointer (some ⟨lb, 1, none⟩)), (38, .int .u64 LI), (39, .bool true), (32, .bool true)] _ (by kernel_rfl) (by kernel_rfl) (by kernel_rfl) (by kernel_rfl) rfl (HDR.out _ HV) ?_ (fun V1 HV1 => ?_)
    · simp only [putAll, Act.put, List.setIfInBounds_toArray, List.set_cons_zero, List.set_cons_succ]
      repeat' (first | exact AllTo.nil | refine AllTo.cons ?_ ?_)
      all_goals first
        | exact stepTo_no (by rfl) rfl
        | (refine stepTo_yes (by rfl) (fun V hV K hK => ?_)
           have q0 := K3.out V hV
           have q1 := KQ.out V hV
           have q2 := KL.out V hV
           have q3 := KW.out V hV
           go_simp
           first
             | exact hK.out _ hV)
    simp only [putAll, Act.put, List.setIfInBounds_toArray, List.set_cons_zero, List.set_cons_succ]
    clear HV
    have HV := HV1
    clear HV1
    generalize V1 = V0 at *
    go_wp2
    go_ret
    exact ⟨by rw [HF.out]; rfl, HFIN.out _ HV⟩
  have d5 : decide (SI < LI) = false := decide_eq_false g5
  have HG5 := hide (E5.out (by omega))
  clear g5
  refine region_assign (fun V => Hid (Below W1.heap.size W1 V)) [(33, .pointer (some ⟨W.heap.size, 3, none⟩)), (34, .int .u64 SI), (35, .pointer (some ⟨lb, 0, none⟩)), (36, .pointer (some ⟨lb, 0, none⟩)), (37, .pointer (some ⟨lb, 1, none⟩)), (38, .int .u64 LI), (39, .bool false), (32, .bool false)] _ (by kernel_rfl) (by kernel_rfl) (by kernel_rfl) (by kernel_rfl) rfl (HDR.out _ HV) ?_ (fun V1 HV1 => ?_)
  · simp only [putAll, Act.put, List.setIfInBounds_toArray, List.set_cons_zero, List.set_cons_succ]
    repeat' (first | exact AllTo.nil | refine AllTo.cons ?_ ?_)
    all_goals first
      | exact stepTo_no (by rfl) rfl
      | (refine stepTo_yes (by rfl) (fun V hV K hK => ?_)
         have q0 := K3.out V hV
         have q1 := KQ.out V hV
         have q2 := KL.out V hV
         have q3 := KW.out V hV
         go_simp
         first
           | exact hK.out _ hV)
  simp only [putAll, Act.put, List.setIfInBounds_toArray, List.set_cons_zero, List.set_cons_succ]
  clear HV
  have HV := HV1
  clear HV1
  generalize V1 = V0 at *
  go_upto_region 8 with fail
  clear d5
  by_cases g6 : XI ≤ SI
  · have d6 : decide (XI ≤ SI) = true := decide_eq_true g6
    have HF : Hid (z = false) := by show _ = _; rw [HZ.out, decide_eq_false (N6.out g6)]; simp
    clear g6
    refine region_assign (fun V => Hid (Below W1.heap.size W1 V)) [(40, .pointer (some ⟨W.heap.size, 3, none⟩)), (41, .int .u64 SI), (42, .pointer (some ⟨lb, 0, none⟩)), (43, .pointer (some ⟨lb, 0, none⟩)), (44, .pointer (some ⟨lb, 1, none⟩)), (45, .int .u64 LI), (46, .int .u64 XI), (47, .bool true), (32, .bool true)] _ (by kernel_rfl) (by kernel_rfl) (by kernel_rfl) (by kernel_rfl) rfl (HDR.out _ HV) ?_ (fun V1 HV1 => ?_)
    · simp only [putAll, Act.put, List.setIfInBounds_toArray, List.set_cons_zero, List.set_cons_succ]
      repeat' (first | exact AllTo.nil | refine AllTo.cons ?_ ?_)
      all_goals first
        | exact stepTo_no (by rfl) rfl
        | (refine stepTo_yes (by rfl) (fun V hV K hK => ?_)
           have q0 := K3.out V hV
           have q1 := KQ.out V hV
           have q2 := KL.out V hV
           have q3 := KW.out V hV
           go_simp
           first
             | exact hK.out _ hV)
    simp only [putAll, Act.put, List.setIfInBounds_toArray, List.set_cons_zero, List.set_cons_succ]
    clear HV
    have HV := HV1
    clear HV1
    generalize V1 = V0 at *
    go_wp2
    go_ret
    exact ⟨by rw [HF.out]; rfl, HFIN.out _ HV⟩
  have d6 : decide (XI ≤ SI) = false := decide_eq_false g6
  have HG6 := hide (E6.out (by omega))
  clear g6
  refine region_assign (fun V => Hid (Below W1.heap.size W1 V)) [(40, .pointer (some ⟨W.heap.size, 3, none⟩)), (41, .int .u64 SI), (42, .pointer (some ⟨lb, 0, none⟩)), (43, .pointer (some ⟨lb, 0, none⟩)), (44, .pointer (some ⟨lb, 1, none⟩)), (45, .int .u64 LI), (46, .int .u64 XI), (47, .bool false), (32, .bool false)] _ (by kernel_rfl) (by kernel_rfl) (by kernel_rfl) (by kernel_rfl) rfl (HDR.out _ HV) ?_ (fun V1 HV1 => ?_)
  · simp only [putAll, Act.put, List.setIfInBounds_toArray, List.set_cons_zero, List.set_cons_succ]
    repeat' (first | exact AllTo.nil | refine AllTo.cons ?_ ?_)
    all_goals first
      | exact stepTo_no (by rfl) rfl
      | (refine stepTo_yes (by rfl) (fun V hV K hK => ?_)
         have q0 := K3.out V hV
         have q1 := KQ.out V hV
         have q2 := KL.out V hV
         have q3 := KW.out V hV
         go_simp
         first
           | exact hK.out _ hV)
  simp only [putAll, Act.put, List.setIfInBounds_toArray, List.set_cons_zero, List.set_cons_succ]
  clear HV
  have HV := HV1
  clear HV1
  generalize V1 = V0 at *
  go_upto_region 9 with fail
  clear d6 hXw
  by_cases g7 : MI ≤ SI
  · have d7 : decide (MI ≤ SI) = true := decide_eq_true g7
    have HF : Hid (z = false) := by show _ = _; rw [HZ.out, decide_eq_false (N7.out g7)]; simp
    clear g7
    refine region_assign (fun V => Hid (Below W1.heap.size W1 V)) [(48, .pointer (some ⟨W.heap.size, 3, none⟩)), (49, .int .u64 SI), (50, .pointer (some ⟨lb, 0, none⟩)), (51, .pointer (some ⟨lb, 0, none⟩)), (52, .pointer (some ⟨lb, 0, none⟩)), (53, .pointer (some ⟨g, 0, none⟩)), (54, .agg #[.int .i64 c.f, .int .i64 c.mb, .int .u64 (c.delay : Nat), .int .u64 (c.win : Nat), .int .u64 (c.every : Nat), .int .u64 (c.beat : Nat), .int .u64 (c.ep : Nat), .int .u64 (c.em : Nat), .int .u64 (c.mn : Nat), .int .u64 MI]), (55, .int .u64 MI), (56, .bool true), (32, .bool true)] _ (by kernel_rfl) (by kernel_rfl) (by kernel_rfl) (by kernel_rfl) rfl (HDR.out _ HV) ?_ (fun V1 HV1 => ?_)
    · simp only [putAll, Act.put, List.setIfInBounds_toArray, List.set_cons_zero, List.set_cons_succ]
      repeat' (first | exact AllTo.nil | refine AllTo.cons ?_ ?_)
      all_goals first
        | exact stepTo_no (by rfl) rfl
        | (refine stepTo_yes (by rfl) (fun V hV K hK => ?_)
           have q0 := K3.out V hV
           have q1 := KP.out V hV
           have q2 := KL.out V hV
           have q3 := KW.out V hV
           go_simp
           first
             | exact hK.out _ hV
             | (go_at_call 35; refine (KC.out V hV).mono ?_; rintro e V' ⟨rfl, hV'⟩; exact hK.out _ (KB.out _ _ hV hV')))
    simp only [putAll, Act.put, List.setIfInBounds_toArray, List.set_cons_zero, List.set_cons_succ]
    clear HV
    have HV := HV1
    clear HV1
    generalize V1 = V0 at *
    go_wp2
    go_ret
    exact ⟨by rw [HF.out]; rfl, HFIN.out _ HV⟩
  have d7 : decide (MI ≤ SI) = false := decide_eq_false g7
  have HG7 := hide (E7.out (by omega))
  clear g7
  refine region_assign (fun V => Hid (Below W1.heap.size W1 V)) [(48, .pointer (some ⟨W.heap.size, 3, none⟩)), (49, .int .u64 SI), (50, .pointer (some ⟨lb, 0, none⟩)), (51, .pointer (some ⟨lb, 0, none⟩)), (52, .pointer (some ⟨lb, 0, none⟩)), (53, .pointer (some ⟨g, 0, none⟩)), (54, .agg #[.int .i64 c.f, .int .i64 c.mb, .int .u64 (c.delay : Nat), .int .u64 (c.win : Nat), .int .u64 (c.every : Nat), .int .u64 (c.beat : Nat), .int .u64 (c.ep : Nat), .int .u64 (c.em : Nat), .int .u64 (c.mn : Nat), .int .u64 MI]), (55, .int .u64 MI), (56, .bool false), (32, .bool false)] _ (by kernel_rfl) (by kernel_rfl) (by kernel_rfl) (by kernel_rfl) rfl (HDR.out _ HV) ?_ (fun V1 HV1 => ?_)
  · simp only [putAll, Act.put, List.setIfInBounds_toArray, List.set_cons_zero, List.set_cons_succ]
    repeat' (first | exact AllTo.nil | refine AllTo.cons ?_ ?_)
    all_goals first
      | exact stepTo_no (by rfl) rfl
      | (refine stepTo_yes (by rfl) (fun V hV K hK => ?_)
         have q0 := K3.out V hV
         have q1 := KP.out V hV
         have q2 := KL.out V hV
         have q3 := KW.out V hV
         go_simp
         first
           | exact hK.out _ hV
           | (go_at_call 35; refine (KC.out V hV).mono ?_; rintro e V' ⟨rfl, hV'⟩; exact hK.out _ (KB.out _ _ hV hV')))
  simp only [putAll, Act.put, List.setIfInBounds_toArray, List.set_cons_zero, List.set_cons_succ]
  clear HV
  have HV := HV1
  clear HV1
  generalize V1 = V0 at *
  clear d7
  have HF : Hid (z = vb) := by
    show _ = _
    rw [HZ.out, HZ2.out, decide_eq_true HN0.out, decide_eq_true HG5.out, decide_eq_true HG6.out, decide_eq_true HG7.out]
    simp
  have q0 := K6.out V0 HV
  have q1 := K7.out V0 HV
  go_wp2_with fail
  refine (KVB.out V0 HV).mono ?_
  rintro e w1 ⟨rfl, hb1⟩
  have HVF := KB.out _ _ HV hb1.out
  clear q0 q1 hb1
  go_wp2
  go_ret
  exact ⟨by rw [HF.out]; rfl, HFIN.out _ HVF⟩
end Go.Proofs.Ytojknconkmplkaa
