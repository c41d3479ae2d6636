import Derived.Test.YtnpekdkfjjeeeaaM40
import Derived.Test.YtnpekdkfjjeeeaaM44
namespace Go.Proofs.Ytnpekdkfjjeeeaa
open Go.RowKit Crc

def zdJ : DataW Value := .held (.agg Jt.zero.cells)
/-- The map while it is gone through: X the new low. -/
structure Rg (D0 : DataW Value) (X : Nat) (left : Lit → Bool) (D : DataW Value) : Prop where
  gone : ∀ x, x < 18446744073709551616 → x < X → left (kU x) = false → D.atKey (kU x) zdJ = zdJ
  stay : ∀ x, x < 18446744073709551616 → (left (kU x) = true ∨ X ≤ x) → D.atKey (kU x) zdJ = D0.atKey (kU x) zdJ
theorem rg_start (D0 : DataW Value) (X : Nat) : Rg D0 X (Maps.has D0) D0 := ⟨fun _ _ _ h => Maps.atKey_of_not_has h _, fun _ _ _ => rfl⟩
theorem kU_same {x y : Nat} (h : (kU x).sameKey (kU y) = true) : x = y := kU_inj (WideAt.sameKey_eq h)
theorem kU_self (x : Nat) : (kU x).sameKey (kU x) = true := WideAt.sameKey_self (show WideAt.IsKeyLit (kU x) from trivial)
theorem kU_diff {x y : Nat} (h : x ≠ y) : (kU x).sameKey (kU y) = false := Maps.sameKey_ne (fun e => h (kU_inj e))
theorem Rg.keep {D0 D : DataW Value} {X : Nat} {left : Lit → Bool} (h : Rg D0 X left D) {k : Nat} (hk : X ≤ k) : Rg D0 X (fun z => left z && !z.sameKey (kU k)) D := by
  refine ⟨fun x hx hX hl => h.gone x hx hX ?_, fun x hx hl => h.stay x hx ?_⟩
  · have hne : x ≠ k := by omega
    simpa [kU_diff hne] using hl
  · rcases hl with hl | hl
    · left; simp at hl; exact hl.1
    · exact .inr hl
theorem Rg.drop {D0 D : DataW Value} {X : Nat} {left : Lit → Bool} (h : Rg D0 X left D) {k : Nat} (hk : k < X) : Rg D0 X (fun z => left z && !z.sameKey (kU k)) (D.del (kU k)) := by
  refine ⟨fun x hx hX hl => ?_, fun x hx hl => ?_⟩
  · by_cases e : x = k
    · subst e; exact Maps.atKey_del_same _
    · rw [Maps.atKey_del_other (fun h => e (kU_inj h))]
      exact h.gone x hx hX (by simpa [kU_diff e] using hl)
  · have e : x ≠ k := by
      intro e
      subst e
      rcases hl with hl | hl
      · simp [kU_self] at hl
      · omega
    rw [Maps.atKey_del_other (fun h => e (kU_inj h))]
    refine h.stay x hx ?_
    rcases hl with hl | hl
    · left; simp at hl; exact hl.1
    · exact .inr hl
theorem LL.low_set {V : World} {lb g mb n : Nat} {c : Cf} {low : Nat} {u : Nat → Jv} (h : LL V lb g mb n c low u) (X : Nat) :
    (V.setCell ⟨lb, 1, none⟩ (.int .u64 (X : Nat))).heap[lb]? = some (.cells #[.pointer (some ⟨g, 0, none⟩), .int .u64 (X : Nat), .map (some mb)] 73 (0, 0)) ∧ (V.setCell ⟨lb, 1, none⟩ (.int .u64 (X : Nat))).heap[g]? = some (.cells c.cells 101 (0, 0)) ∧
    ∃ m : Nat → Jt, TLm (V.setCell ⟨lb, 1, none⟩ (.int .u64 (X : Nat))) mb n m ∧ (∀ x, (m x).Ok (V.setCell ⟨lb, 1, none⟩ (.int .u64 (X : Nat))).heap.size (V.setCell ⟨lb, 1, none⟩ (.int .u64 (X : Nat)))) ∧ ∀ x, (m x).abs = u x := by
  obtain ⟨m, t1, t2, t3⟩ := h.tal
  have hgs := grown_set V lb 1 (.int .u64 (X : Nat))
  have hne : some mb ≠ some lb := fun e => by
    cases e
    obtain ⟨es, k, ho⟩ := t1.obj
    rw [h.blk] at ho
    cases ho
  have hng : some g ≠ some lb := fun e => by
    cases e
    have h1 := h.grp
    rw [h.blk] at h1
    cases h1
  refine ⟨?_, (hgs.block _ (block_lt h.grp) hng).trans h.grp, m, t1.kept hgs hne, fun x => ?_, t3⟩
  · rw [heap_setCell_same V lb 1 _ _ _ h.blk]; rfl
  · have := (t2 x).odd hgs (odd_learner h.blk)
    simpa using this

/-- What Forget leaves of the world. -/
def FgW (lb mb : Nat) (W W' : World) : Prop := ∃ V, W.grownBy V (some lb) ∧ V.grownBy W' (some mb) ∧ Odd W lb ∧ Odd V mb ∧ W.heap.size ≤ V.heap.size
set_option maxRecDepth 10000 in
set_option maxHeartbeats 3200000 in
theorem forgetL {W : World} {lb g mb n : Nat} {c : Cf} {low : Nat} {u : Nat → Jv} (hk : c.Ok) (h : LL W lb g mb n c low u) (below X : Nat) (hX : X = max low (min below c.ms)) :
    Calls Try.prog 10 #[.pointer (some ⟨lb, 0, none⟩), .int .u64 (below : Nat)] W fun e w' => e = .returned (.tuple #[]) ∧ Hid (LL w' lb g mb n c X (fun x => if x < X then Jv.zero else u x) ∧ FgW lb mb W w') := by
  have hlo := h.lo
  have hms := hk.ms2
  have HXM : Hid (X ≤ c.ms) := by show _ ≤ _; omega
  have HX64 : Hid (X < 18446744073709551616) := by show _ < _; omega
  have HMD := hide (madeL h)
  have HL := hide h
  have HOL : Hid (Odd W lb) := odd_learner h.blk
  have KC : Hid (∀ V, Below W.heap.size W V → Calls Try.prog 25 #[.pointer (some ⟨g, 0, none⟩)] V fun e V' => e = .returned (.agg #[.int .i64 c.f, .int .i64 c.mb, .int .u64 (c.delay : Nat), .int .u64 (c.win : Nat), .int .u64 (c.every : Nat), .int .u64 (c.beat : Nat), .int .u64 (c.ep : Nat), .int .u64 (c.em : Nat), .int .u64 (c.mn : Nat), .int .u64 (c.ms : Nat)]) ∧ Below V.heap.size V V') := fun V hb => config_live (h.kept hb).pg hk
  obtain ⟨SD, hSD⟩ : ∃ SD : Bool → World → Prop, SD = fun d V => (d = false → Below W.heap.size W V) ∧ (d = true → ∃ V0, Below W.heap.size W V0 ∧ V = V0.setCell ⟨lb, 1, none⟩ (.int .u64 (X : Nat))) := ⟨_, rfl⟩
  have KD : Hid (∀ d V, Hid (SD d V) → V.cell? ⟨lb, 0, none⟩ = some (.pointer (some ⟨g, 0, none⟩)) ∧ lb < V.heap.size) := fun d V hV => by
    have h0 := hV.out
    rw [hSD] at h0
    cases d with
    | false => have hb := h0.1 rfl; exact ⟨(HL.out.kept hb).c 0, block_lt (HL.out.kept hb).blk⟩
    | true =>
      obtain ⟨V0, hb, rfl⟩ := h0.2 rfl
      have hbk := ((HL.out.kept hb).low_set X).1
      exact ⟨block_cell hbk 0, block_lt hbk⟩
  have KF : Hid (∀ V, Hid (SD false V) → V.cell? ⟨lb, 1, none⟩ = some (.int .u64 (low : Nat)) ∧ V.frozen? ⟨lb, 1, none⟩ = false ∧ Hid (SD true (V.setCell ⟨lb, 1, none⟩ (.int .u64 (X : Nat))))) := fun V hV => by
    have h0 := hV.out
    rw [hSD] at h0
    have hb := h0.1 rfl
    refine ⟨(HL.out.kept hb).c 1, block_free (HL.out.kept hb).blk 1, ?_⟩
    show SD true _
    rw [hSD]
    exact ⟨fun e => (by cases e), fun _ => ⟨V, hb, rfl⟩⟩
  have KCC : Hid (∀ V, Hid (SD false V) → Calls Try.prog 25 #[.pointer (some ⟨g, 0, none⟩)] V fun e V' => e = .returned (.agg #[.int .i64 c.f, .int .i64 c.mb, .int .u64 (c.delay : Nat), .int .u64 (c.win : Nat), .int .u64 (c.every : Nat), .int .u64 (c.beat : Nat), .int .u64 (c.ep : Nat), .int .u64 (c.em : Nat), .int .u64 (c.mn : Nat), .int .u64 (c.ms : Nat)]) ∧ Hid (SD false V')) := fun V hV => by
    have h0 := hV.out
    rw [hSD] at h0
    have hb := h0.1 rfl
    refine (KC.out V hb).mono ?_
    rintro e V' ⟨rfl, hb'⟩
    refine ⟨rfl, ?_⟩
    show SD false _
    rw [hSD]
    exact ⟨fun _ => hb.trans (hb'.mono hb.size), fun e => (by cases e)⟩
  have KT : Hid (∀ V, Hid (SD true V) → ∃ m : Nat → Jt, (V.heap[lb]? = some (.cells #[.pointer (some ⟨g, 0, none⟩), .int .u64 (X : Nat), .map (some mb)] 73 (0, 0)) ∧ V.heap[g]? = some (.cells c.cells 101 (0, 0)) ∧ TLm V mb n m ∧ (∀ x, (m x).Ok V.heap.size V) ∧ ∀ x, (m x).abs = u x) ∧ W.grownBy V (some lb) ∧ W.heap.size ≤ V.heap.size) := fun V hV => by
    have h0 := hV.out
    rw [hSD] at h0
    obtain ⟨V0, hb, rfl⟩ := h0.2 rfl
    obtain ⟨k1, k2, m, k3, k4, k5⟩ := (HL.out.kept hb).low_set X
    refine ⟨m, ⟨k1, k2, k3, k4, k5⟩, grown_trans ((below_none hb).but _) (grown_set _ _ _ _), by simpa using hb.size⟩
  have S0 : Hid (SD false W.drew) := by
    show SD false _
    rw [hSD]
    exact ⟨fun _ => (Below.refl _ W).drew, fun e => (by cases e)⟩
  obtain ⟨LI, hLI⟩ : ∃ x : Int, ((low : Nat) : Int) = x := ⟨_, rfl⟩
  obtain ⟨BI, hBI⟩ : ∃ x : Int, ((below : Nat) : Int) = x := ⟨_, rfl⟩
  obtain ⟨MI, hMI⟩ : ∃ x : Int, ((c.ms : Nat) : Int) = x := ⟨_, rfl⟩
  obtain ⟨XI, hXI⟩ : ∃ x : Int, ((X : Nat) : Int) = x := ⟨_, rfl⟩
  obtain ⟨NI, hNI⟩ : ∃ x : Int, (if MI < BI then MI else BI) = x := ⟨_, rfl⟩
  have hmx : (if LI < NI then NI else LI) = XI := by
    rw [← hXI, ← hNI]
    split <;> split at * <;> omega
  rw [hXI] at KF KT
  rw [hLI] at KF
  rw [hMI] at KCC
  rw [hBI]
  have HXI := hide hXI
  clear hXI hLI hBI hMI hSD h hk hlo hms hX KC
  go_enter Try.func10, Try.ntmps10
  go_wp2_with fail
  refine HMD.out.mono ?_
  rintro e w1 ⟨rfl, hw⟩
  rw [hw]
  clear hw HMD
  go_upto_region 1 with fail
  refine region_assignP (fun d V => Hid (SD d V)) 16 [13, 4, 12, 11, 10] [(8, .pointer (some ⟨lb, 0, none⟩)), (9, .pointer (some ⟨lb, 0, none⟩)), (10, .pointer (some ⟨lb, 0, none⟩)), (11, .pointer (some ⟨lb, 1, none⟩)), (12, .int .u64 LI), (13, .int .u64 BI), (14, .pointer (some ⟨lb, 0, none⟩)), (15, .pointer (some ⟨lb, 0, none⟩)), (16, .pointer (some ⟨lb, 0, none⟩)), (17, .pointer (some ⟨g, 0, none⟩)), (18, .agg #[.int .i64 c.f, .int .i64 c.mb, .int .u64 (c.delay : Nat), .int .u64 (c.win : Nat), .int .u64 (c.every : Nat), .int .u64 (c.beat : Nat), .int .u64 (c.ep : Nat), .int .u64 (c.em : Nat), .int .u64 (c.mn : Nat), .int .u64 MI]), (19, .int .u64 MI), (20, .int .u64 NI), (21, .int .u64 XI), (22, .pointer (some ⟨lb, 0, none⟩)), (23, .pointer (some ⟨lb, 1, none⟩))] _ (by kernel_rfl) (by decide) (by kernel_rfl) (by kernel_rfl) (by kernel_rfl) (by kernel_rfl) rfl S0 ?_ (fun V2 HV2 => ?_)
  · simp only [putAll, Act.put, List.setIfInBounds_toArray, List.set_cons_zero, List.set_cons_succ]
    repeat' (first | exact AllPre.nil | refine AllPre.at_ rfl ?_ ?_ | refine AllPre.pre (by decide) (by decide) ?_ ?_ | refine AllPre.off (by decide) (by decide) ?_ ?_)
    all_goals first
      | (intro d
         refine stepTo_yes (by rfl) (fun V hV K hK => ?_)
         have q0 := KD.out d V hV
         go_simp
         exact hK.out _ hV)
      | (refine stepTo_yes (by rfl) (fun V hV K hK => ?_)
         have q0 := KD.out false V hV
         have q1 := KF.out V hV
         obtain ⟨q1, q2, q3⟩ := q1
         clear q3
         go_simp
         first
           | exact hK.out _ hV
           | (go_at_call 25; refine (KCC.out V hV).mono ?_; rintro e V' ⟨rfl, hV'⟩; exact hK.out _ hV'))
      | (refine ⟨by rfl, fun V hV K hK => ?_⟩
         have q0 := KD.out false V hV
         obtain ⟨q1, q2, q3⟩ := KF.out V hV
         have H3 := hide q3
         clear q3
         go_simp
         exact hK.out _ H3.out)
  simp only [putAll, Act.put, List.setIfInBounds_toArray, List.set_cons_zero, List.set_cons_succ]
  obtain ⟨m, ⟨k1, k2, k3, k4, k5⟩, k6, k7⟩ := KT.out V2 HV2
  have HG2 := hide k6
  have HG7 := hide k7
  have K1 := hide k1
  have K2 := hide k2
  have K4 := hide k4
  have K5 := hide k5
  have HOM : Hid (Odd V2 mb) := k3.odd
  have HM0 := hide k3
  obtain ⟨D0, hown, hD0⟩ := k3
  have HD0 := hide hD0
  have hne : Hid (some lb ≠ some mb) := fun e => by
    cases e
    obtain ⟨es, k, ho⟩ := HM0.out.obj
    rw [K1.out] at ho
    cases ho
  have hng : Hid (some g ≠ some mb) := fun e => by
    cases e
    obtain ⟨es, k, ho⟩ := HM0.out.obj
    rw [K2.out] at ho
    cases ho
  have KW : Hid (∀ V, V2.grownBy V (some mb) → V.cell? ⟨lb, 1, none⟩ = some (.int .u64 XI) ∧ V.cell? ⟨lb, 2, none⟩ = some (.map (some mb)) ∧ lb < V.heap.size) := fun V hg => by
    have hb := (hg.block _ (block_lt K1.out) hne.out).trans K1.out
    exact ⟨block_cell hb 1, block_cell hb 2, block_lt hb⟩
  have q2 := block_cell k1 2
  have ql := block_lt k1
  simp at q2
  clear k1 k2 k4 k5 k6 k7 hD0 KT KD KF KCC S0 HV2 hmx hNI
  go_wp2_with (first
    | (at_range; refine wpList_range_own _ rfl _ 71 rfl 22 78 KD Try.underlying71 RV mb n _ rfl hown ?_; intro w0 hrg0 hg0 hs0)
    | go_in)
  go_frame
  clear q2 ql
  go_loopw [4] (fun _ wr => ∃ (left : Lit → Bool) (cnt : Nat) (D : DataW Value), Hid (wr.ranges Try.prog 22 RV mb V2.heap.size n D left cnt) ∧ Hid (V2.grownBy wr (some mb) ∧ Rg D0 X left D)) (fun _ wr => wr.rangeLeft mb V2.heap.size)
  case atStart => exact ⟨_, _, D0, hrg0, hg0.but _, rg_start D0 X⟩
  case round =>
    clear hrg0 hg0 hs0
    obtain ⟨left, cnt, D, HRG, HGR⟩ := hrel
    have HEND : Hid ((∀ kl, left kl = false) → LL wr lb g mb n c X (fun x => if x < X then Jv.zero else u x) ∧ FgW lb mb W wr) := fun hl0 => by
      have hg := HGR.out.1
      refine ⟨⟨(hg.block _ (block_lt K1.out) hne.out).trans (by rw [K1.out, HXI.out]), (hg.block _ (block_lt K2.out) hng.out).trans K2.out, ⟨fun x => if x < X then Jt.zero else m x, ⟨D, HRG.out.owns, fun x hx => ?_⟩, fun x => ?_, fun x => ?_⟩, HXM.out, fun x hx => ?_⟩, ⟨V2, HG2.out, hg, HOL.out, HOM.out, HG7.out⟩⟩
      · show D.atKey (kU x) zdJ = .held (.agg (if x < X then Jt.zero else m x).cells)
        by_cases e : x < X
        · rw [if_pos e]; exact HGR.out.2.gone x hx e (hl0 _)
        · rw [if_neg e]; exact (HGR.out.2.stay x hx (.inr (by omega))).trans (HD0.out x hx)
      · show Jt.Ok _ _ (if x < X then Jt.zero else m x)
        by_cases e : x < X
        · rw [if_pos e]; exact Jt.zero_ok _ _
        · rw [if_neg e]; exact ((K4.out x).odd hg HOM.out).wide hg.size
      · show Jt.abs (if x < X then Jt.zero else m x) = if x < X then Jv.zero else u x
        by_cases e : x < X
        · rw [if_pos e, if_pos e]; rfl
        · rw [if_neg e, if_neg e]; exact K5.out x
      · exact if_pos hx
    go_wp2_with (first
      | (at_next; refine wpList_next_ranges _ rfl _ rfl 22 KD RV (Value.int .u64) (id : Value → Value) (fun key kl hkey => by obtain ⟨x, rfl, _⟩ := Maps.keyOf_int_inv Try.underlying22 hkey; exact ⟨x, rfl⟩) (fun v y _ => ⟨v, rfl⟩) mb V2.heap.size n _ _ _ rfl HRG.out ?_ ?_)
      | go_in)
    · intro _ hl0
      have HE := hide (HEND.out hl0)
      clear hl0
      go_wp2
      go_end0
      exact ⟨rfl, HE.out⟩
    · intro x cv kl _ _ w1 cnt1 hkey hlx _ _ hrg1 hlt hg1 hs1 hen
      obtain ⟨x', ex, rfl, hwx⟩ := Maps.keyOf_int_inv Try.underlying22 hkey
      cases ex
      obtain ⟨xn, rfl⟩ : ∃ xn : Nat, x = (xn : Int) := ⟨x.toNat, by simp [Lit.wf, IntKind.min, IntKind.max, IntKind.bits, IntKind.signed] at hwx; omega⟩
      have hgw1 : V2.grownBy w1 (some mb) := HGR.out.1.andThen hg1 (fun j hj => by cases hj; exact Or.inl (Nat.le_refl _))
      have HGW := hide hgw1
      have HR1 := hide hrg1
      have HKEY := hide hkey
      have HLT := hide hlt
      obtain ⟨q1, q2, q3⟩ := KW.out w1 hgw1
      clear hgw1 hrg1 hkey hlt hlx hwx hg1 hs1 HEND
      obtain ⟨xi, hxi⟩ : ∃ xi : Int, ((xn : Nat) : Int) = xi := ⟨_, rfl⟩
      have HXN := hide hxi
      rw [hxi] at hen HKEY ⊢
      clear hxi
      by_cases hd : xi < XI
      · have d : decide (xi < XI) = true := decide_eq_true hd
        have HK : Hid (Rg D0 X (fun z => left z && !z.sameKey (kU xn)) (D.del (kU xn))) := HGR.out.2.drop (by have := HXI.out; have := HXN.out; omega)
        clear hd
        go_wp2_with (first
          | (at_delete; refine wpList_delete_ranges _ rfl _ _ 71 22 rfl 78 KD Try.underlying71 RV mb V2.heap.size n _ _ _ rfl HR1.out _ _ rfl HKEY.out ?_; intro w2 cnt2 hrg2 hle hturn; go_frame)
          | go_in)
        rw [← HXN.out, Maps.strike_twice] at hrg2
        have HR2 := hide hrg2
        have HT2 := hide hturn
        clear hrg2 hturn
        go_roundw
        case rel => exact ⟨_, cnt2, _, HR2.out, HGW.out.andThen HT2.out.grown (fun j hj => by cases hj; exact Or.inr rfl), HK.out⟩
        case measure => rw [HR2.out.left_eq, HRG.out.left_eq]; have := HLT.out; omega
      · have d : decide (xi < XI) = false := decide_eq_false hd
        have HK : Hid (Rg D0 X (fun z => left z && !z.sameKey (kU xn)) D) := HGR.out.2.keep (by have := HXI.out; have := HXN.out; omega)
        clear hd
        go_wp2
        go_roundw
        case rel => exact ⟨_, cnt1, _, HR1.out, HGW.out, HK.out⟩
        case measure => rw [HR1.out.left_eq, HRG.out.left_eq]; exact HLT.out
end Go.Proofs.Ytnpekdkfjjeeeaa
