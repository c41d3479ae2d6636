import Derived.Test.YthfbimbadkmhhaaMIM
import Derived.Deep.DeepCutAuto
import Derived.Deep.CutBlock
namespace Go.Proofs.Ythfbimbadkmhhaa
open Go.RowKit Crc

/-- A script of Ops as it lies. -/
structure OpsL (w : World) (ao : Option Addr) (n ob off : Nat) : Prop where
  ad : 0 < n → ao = some ⟨ob, off, none⟩
  lt : 0 < n → ob < w.heap.size
  le : n ≤ 1000000000000
  op : ∀ i, i < n → ∃ o : Oq, w.rangeAt ob (off + i * 57) o.oc ∧ o.Ok w.heap.size w
theorem QE.turn {w : World} {c : Cf} {eb g me : Nat} {s : Ev} {V V' : World} (h : QE w c eb g me s V) {p : Nat} {C : Array Value} {u : TypeId} (hp : V.heap[p]? = some (.cells C u (0, 0))) (hu : ¬ Tt u) (hu2 : u ≠ 101) (hpw : w.heap.size ≤ p) (gr : V.grownBy V' (some p)) : QE w c eb g me s V' := by
  obtain ⟨x, h1, h2, h3⟩ := h.foot
  have F : Fe V V' (fun q => q = p) := Fe.grown gr (fun y e => by cases e; rfl)
  refine ⟨h.bel.trans (F.toBelow _ h.bel.size (fun j e => by rw [e]; exact hpw)), ft x, x, h1.fe F (fun b hb e => ?_) (fun e => ?_) (fun e => ?_), h2, h3⟩
  · subst e; exact hu (h1.ty_ne (.inr hb) hp)
  · subst e; exact hu (h1.ty_ne (.inl rfl) hp)
  · subst e
    have := h1.grp
    rw [hp] at this
    cases this
    exact hu2 rfl
/-- Amid a round: the law's own boxes beside the election. -/
structure Rw (w : World) (c : Cf) (eb g cb xb sb wb : Nat) (s s0 : Ev) (oc : List Value) (l1 l2 : Value) (wn wd : Int) (V : World) : Prop where
  qe : QE w c eb g 0 s V
  cf : V.heap[cb]? = some (.cells c.cells 25 (0, 0))
  op : V.heap[xb]? = some (.cells oc.toArray 51 (0, 0))
  st : V.heap[sb]? = some (.cells #[.int .u64 (s0.num : Nat), .int .i64 s0.node, .int .u32 (s0.sus : Nat), .int .u64 (s0.len : Nat), .int .u64 (s0.fin : Nat), l1, l2] 55 (0, 0))
  wt : V.heap[wb]? = some (.cells #[.int .u64 wn, .int .i64 wd] 33 (0, 0))
  wle : w.heap.size ≤ wb
theorem Rw.kp {w : World} {c : Cf} {eb g cb xb sb wb : Nat} {s s' s0 : Ev} {oc : List Value} {l1 l2 : Value} {wn wd : Int} {V V' : World} (h : Rw w c eb g cb xb sb wb s s0 oc l1 l2 wn wd V) (q : QE w c eb g 0 s' V') (k : KpT V V') : Rw w c eb g cb xb sb wb s' s0 oc l1 l2 wn wd V' :=
  ⟨q, k _ _ _ h.cf (by unfold Tt; decide), k _ _ _ h.op (by unfold Tt; decide), k _ _ _ h.st (by unfold Tt; decide), k _ _ _ h.wt (by unfold Tt; decide), h.wle⟩
theorem Rw.kept {w : World} {c : Cf} {eb g cb xb sb wb : Nat} {s s0 : Ev} {oc : List Value} {l1 l2 : Value} {wn wd : Int} {V V' : World} (h : Rw w c eb g cb xb sb wb s s0 oc l1 l2 wn wd V) (hb : Below V.heap.size V V') : Rw w c eb g cb xb sb wb s s0 oc l1 l2 wn wd V' := h.kp (h.qe.kept hb) (KpT.below hb)
theorem Rw.setw {w : World} {c : Cf} {eb g cb xb sb wb : Nat} {s s0 : Ev} {oc : List Value} {l1 l2 : Value} {wn wd : Int} {V : World} (h : Rw w c eb g cb xb sb wb s s0 oc l1 l2 wn wd V) (a b : Int) : Rw w c eb g cb xb sb wb s s0 oc l1 l2 a b ((V.setCell ⟨wb, 0, none⟩ (.int .u64 a)).setCell ⟨wb, 1, none⟩ (.int .i64 b)) := by
  have g1 := grown_trans (grown_set V wb 0 (.int .u64 a)) (grown_set _ wb 1 (.int .i64 b))
  have kk : ∀ (q : Nat) (cs : Array Value) (t : TypeId), V.heap[q]? = some (.cells cs t (0, 0)) → t ≠ 33 → ((V.setCell ⟨wb, 0, none⟩ (.int .u64 a)).setCell ⟨wb, 1, none⟩ (.int .i64 b)).heap[q]? = some (.cells cs t (0, 0)) := fun q cs t hq ht => by
    refine (g1.block q (block_lt hq) (fun e => ?_)).trans hq
    have e2 : q = wb := by simpa using e
    subst e2
    rw [h.wt] at hq
    cases hq
    exact ht rfl
  refine ⟨h.qe.turn h.wt (by unfold Tt; decide) (by decide) h.wle g1, kk _ _ _ h.cf (by decide), kk _ _ _ h.op (by decide), kk _ _ _ h.st (by decide), ?_, h.wle⟩
  rw [heap_setCell_same _ wb 1 _ _ _ (heap_setCell_same V wb 0 _ _ _ h.wt)]
  rfl
/-- Behind the call: the second state's box too. -/
def Rt (w : World) (c : Cf) (eb g cb xb sb wb tb : Nat) (s s0 : Ev) (oc : List Value) (l1 l2 l3 l4 : Value) (wn wd : Int) (V : World) : Prop :=
  Rw w c eb g cb xb sb wb s s0 oc l1 l2 wn wd V ∧ V.heap[tb]? = some (.cells #[.int .u64 (s.num : Nat), .int .i64 s.node, .int .u32 (s.sus : Nat), .int .u64 (s.len : Nat), .int .u64 (s.fin : Nat), l3, l4] 55 (0, 0))
theorem Rt.kept {w : World} {c : Cf} {eb g cb xb sb wb tb : Nat} {s s0 : Ev} {oc : List Value} {l1 l2 l3 l4 : Value} {wn wd : Int} {V V' : World} (h : Rt w c eb g cb xb sb wb tb s s0 oc l1 l2 l3 l4 wn wd V) (hb : Below V.heap.size V V') : Rt w c eb g cb xb sb wb tb s s0 oc l1 l2 l3 l4 wn wd V' := ⟨h.1.kept hb, (hb.block _ (block_lt h.2)).trans h.2⟩
theorem bool_neq (b : Bool) (w : World) : (binOp BinOp.neq 4 (.bool b) (.bool b)).run Try.prog w = .ok (.bool false) w := by cases b <;> kernel_rfl
theorem not_same (k : Nat) (hk : k < 7) : bits BinOp.andNot IntKind.u32 ((2 : Int) ^ k) ((2 : Int) ^ k % 4294967296) = 0 := by
  rcases (by omega : k = 0 ∨ k = 1 ∨ k = 2 ∨ k = 3 ∨ k = 4 ∨ k = 5 ∨ k = 6) with rfl | rfl | rfl | rfl | rfl | rfl | rfl <;> kernel_rfl
theorem want3 (F N : Nat) (s : Ev) (o : Oq) (h3 : o.kd = 3) : turnB F N s o = (heardB N o && belB s.num s.node o.num o.node) ∧ (wantV F N s o).1 = (if turnB F N s o = true then o.num else s.num) ∧ (wantV F N s o).2 = (if turnB F N s o = true then o.node else s.node) := by
  refine ⟨by unfold turnB; rw [if_pos h3], ?_, ?_⟩
  · unfold wantV
    rw [if_pos h3]
    cases turnB F N s o <;> rfl
  · unfold wantV
    rw [if_pos h3]
    cases turnB F N s o <;> rfl
theorem want5 (F N : Nat) (s : Ev) (o : Oq) (h3 : ¬ o.kd = 3) (h5 : o.kd = 5) : turnB F N s o = (decide (F + 1 ≤ (memU s.sus N).length) && !lastB N s) ∧ (turnB F N s o = true → s.node + 1 < (N : Int) → (wantV F N s o).1 = s.num ∧ (wantV F N s o).2 = s.node + 1) ∧ (turnB F N s o = true → ¬ s.node + 1 < (N : Int) → (wantV F N s o).1 = s.num + 1 ∧ (wantV F N s o).2 = 0) ∧ (turnB F N s o = false → (wantV F N s o).1 = s.num ∧ (wantV F N s o).2 = s.node) := by
  refine ⟨by unfold turnB; rw [if_neg h3, if_pos h5], fun h k => ?_, fun h k => ?_, fun h => ?_⟩
  · unfold wantV
    rw [if_pos h, if_neg h3, if_pos k]
    exact ⟨rfl, rfl⟩
  · unfold wantV
    rw [if_pos h, if_neg h3, if_neg k]
    exact ⟨rfl, rfl⟩
  · unfold wantV
    rw [h, if_neg (by decide)]
    exact ⟨rfl, rfl⟩
theorem want0 (F N : Nat) (s : Ev) (o : Oq) (h3 : ¬ o.kd = 3) (h5 : ¬ o.kd = 5) : turnB F N s o = false ∧ (wantV F N s o).1 = s.num ∧ (wantV F N s o).2 = s.node := by
  have h : turnB F N s o = false := by unfold turnB; rw [if_neg h3, if_neg h5]
  refine ⟨h, ?_⟩
  unfold wantV
  rw [h, if_neg (by decide)]
  exact ⟨rfl, rfl⟩
theorem heard_eq (N : Nat) (o : Oq) {b1 b2 b3 b4 b5 b6 : Bool} (h1 : (o.kind == 8) = b1) (h2 : decide ((o.src : Int) < (N : Int)) = b2) (h3 : decide (1 ≤ (o.num : Int)) = b3) (h4 : decide ((o.num : Int) ≤ 1099511627776) = b4) (h5 : decide (0 ≤ o.node) = b5) (h6 : decide (o.node < (N : Int)) = b6) : heardB N o = (b1 && b2 && b3 && b4 && b5 && b6) := by
  unfold heardB
  rw [← h1, ← h2, ← h3, ← h4, ← h5, ← h6]
  congr 5
set_option maxRecDepth 100000 in
set_option maxHeartbeats 12800000 in
theorem rises_walk (f0 : Int) (ep0 mo0 : Nat) (hep0 : ep0 < 18446744073709551616) (hmo0 : mo0 < 18446744073709551616) {w : World} {ao : Option Addr} (n ac ob off : Nat) (hO : OpsL w ao n ob off) :
    Calls Try.prog 3 #[.int .i64 f0, .int .u64 (ep0 : Nat), .int .u64 (mo0 : Nat), .slice ao n ac] w fun e w' => e = .returned (.bool true) ∧ Below w.heap.size w w' := by
  obtain ⟨q, hq4, hq⟩ := and3 f0
  obtain ⟨q3, hq3⟩ : ∃ q3 : Nat, q % 3 = q3 := ⟨_, rfl⟩
  obtain ⟨F, hF⟩ : ∃ F : Nat, 1 + q3 = F := ⟨_, rfl⟩
  have hF1 : 1 ≤ F := by omega
  have hF3 : F ≤ 3 := by omega
  have hm0 : Int.tmod (q : Int) 3 = (q3 : Int) := by rw [Int.tmod_eq_emod_of_nonneg (by omega)]; omega
  have hm1 : (1 : Int) + (q3 : Int) = (F : Int) := by omega
  have hm2 : IntKind.i64.wrap ((1 : Int) + (q3 : Int)) = (F : Int) := by rw [hm1]; exact IntWalk.i64_in _ ⟨by omega, by omega⟩
  obtain ⟨D, hD⟩ : ∃ D : Nat, 2 * F = D := ⟨_, rfl⟩
  obtain ⟨N, hN⟩ : ∃ N : Nat, D + 1 = N := ⟨_, rfl⟩
  have hd1 : (2 : Int) * (F : Int) = (D : Int) := by omega
  have hd2 : IntKind.i64.wrap ((2 : Int) * (F : Int)) = (D : Int) := by rw [hd1]; exact IntWalk.i64_in _ ⟨by omega, by omega⟩
  have hd3 : (D : Int) + 1 = (N : Int) := by omega
  have hd4 : IntKind.i64.wrap ((D : Int) + 1) = (N : Int) := by rw [hd3]; exact IntWalk.i64_in _ ⟨by omega, by omega⟩
  obtain ⟨x0, hx0⟩ : ∃ x0 : Nat, ep0 % 100 = x0 := ⟨_, rfl⟩
  obtain ⟨e1, he1⟩ : ∃ e1 : Nat, 1 + x0 = e1 := ⟨_, rfl⟩
  obtain ⟨y0, hy0⟩ : ∃ y0 : Nat, mo0 % 1000 = y0 := ⟨_, rfl⟩
  obtain ⟨em, hem⟩ : ∃ em : Nat, e1 + y0 = em := ⟨_, rfl⟩
  have hp0 : Int.tmod (ep0 : Int) 100 = (x0 : Int) := by rw [Int.tmod_eq_emod_of_nonneg (by omega)]; omega
  have hp1 : (1 : Int) + (x0 : Int) = (e1 : Int) := by omega
  have hp2 : IntKind.u64.wrap ((1 : Int) + (x0 : Int)) = (e1 : Int) := by rw [hp1]; exact IntWalk.u64_in _ ⟨by omega, by omega⟩
  have hy1 : Int.tmod (mo0 : Int) 1000 = (y0 : Int) := by rw [Int.tmod_eq_emod_of_nonneg (by omega)]; omega
  have hy2 : (e1 : Int) + (y0 : Int) = (em : Int) := by omega
  have hy3 : IntKind.u64.wrap ((e1 : Int) + (y0 : Int)) = (em : Int) := by rw [hy2]; exact IntWalk.u64_in _ ⟨by omega, by omega⟩
  have hp3 : IntKind.u64.wrap (e1 : Int) = (e1 : Int) := IntWalk.u64_in _ ⟨by omega, by omega⟩
  have hy4 : IntKind.u64.wrap (em : Int) = (em : Int) := IntWalk.u64_in _ ⟨by omega, by omega⟩
  have HC : Hid (OkC (fixC F e1 em)) := fixC_ok F (by omega) (by omega) e1 em (by omega) (by omega) (by omega) (by omega)
  have HFX : Hid (Fix (fixC F e1 em) F N) := ⟨rfl, rfl, by omega, hF1, hF3⟩
  have HF := hide (fixedL F e1 em w)
  have HNEW : Hid (∀ V, Below w.heap.size w V → Calls Try.prog 5 #[.agg (fixC F e1 em).cells, .int .i64 0, .int .u64 0] V fun e V' => ∃ eb g, e = .returned (.tuple #[.pointer (some ⟨eb, 0, none⟩), .nilIface]) ∧ Hid (QE w (fixC F e1 em) eb g 0 ⟨1, 0, 0, e1, addB 0 e1 1099511627776, [], []⟩ V' ∧ Below V.heap.size V V')) := fun V hb => by
    refine (newE (fixC F e1 em) HC.out.hin HC.out.hk HC.out.ok 0 (by show (0 : Int) < 2 * (F : Int) + 1; omega) HC.out.em HC.out.ep HC.out.pe 0 (by decide) V).mono ?_
    rintro e V' ⟨eb, g, rfl, D⟩
    obtain ⟨fp, x, d1, d2, d3, d4, d5⟩ := D.out
    have := hb.size
    refine ⟨eb, g, rfl, ⟨hb.trans (d3.mono hb.size), fp, x, d1, d2, ?_⟩, d3⟩
    rintro b (e | e)
    · omega
    · have := d5 b e; omega
  have hbn := bal_neq 1 1 0 0
  have HO := hide hO
  have HNN : Hid (N = 2 * F + 1) := by show _ = _; omega
  clear hO hq4 hq3 hF hD hN hx0 he1 hy0 hem
  generalize (ep0 : Int) = epi at *
  generalize (mo0 : Int) = moi at *
  unfold fixC Cf.cells at HF HNEW
  simp only at HF HNEW
  go_enter Try.func3, Try.ntmps3
  go_wp2_with fail
  refine HF.out.mono ?_
  rintro e w1 ⟨rfl, hb1⟩
  clear HF hm0 hm1 hm2 hd1 hd2 hd3 hd4 hp0 hp1 hp2 hp3 hy1 hy2 hy3 hy4 hq
  go_upto_region 4 with fail
  have HB2 : Hid (Below w.heap.size w (w1.alloc (.cells #[.int .i64 F, .int .i64 8, .int .u64 0, .int .u64 8, .int .u64 1, .int .u64 1, .int .u64 (e1 : Nat), .int .u64 (em : Nat), .int .u64 1099511627776, .int .u64 1099511627776] 25))) := hb1.out.alloc hb1.out.size _
  have CB2 := alloc_atK w1 (.cells #[.int .i64 F, .int .i64 8, .int .u64 0, .int .u64 8, .int .u64 1, .int .u64 1, .int .u64 (e1 : Nat), .int .u64 (em : Nat), .int .u64 1099511627776, .int .u64 1099511627776] 25)
  generalize w1.alloc (.cells #[.int .i64 F, .int .i64 8, .int .u64 0, .int .u64 8, .int .u64 1, .int .u64 1, .int .u64 (e1 : Nat), .int .u64 (em : Nat), .int .u64 1099511627776, .int .u64 1099511627776] 25) = w2 at *
  generalize w1.heap.size = cb at *
  have z0 := block_cell CB2 0
  have z1 := block_cell CB2 1
  have z2 := block_cell CB2 2
  have z3 := block_cell CB2 3
  have z4 := block_cell CB2 4
  have z5 := block_cell CB2 5
  have z6 := block_cell CB2 6
  have z7 := block_cell CB2 7
  have z8 := block_cell CB2 8
  have z9 := block_cell CB2 9
  have zl := block_lt CB2
  simp at z0 z1 z2 z3 z4 z5 z6 z7 z8 z9
  have HCB := hide CB2
  clear CB2
  go_wp2_with fail
  refine (HNEW.out w2 HB2.out).mono ?_
  rintro e w3 ⟨eb, g, rfl, G3⟩
  have HV := hide (viewR G3.out.1)
  have HCB3 := hide ((G3.out.2.block _ (block_lt HCB.out)).trans HCB.out)
  clear z0 z1 z2 z3 z4 z5 z6 z7 z8 z9 zl HNEW HCB HB2 hb1 G3
  go_upto_block 0 with (go_at_call 6; refine HV.out.mono ?_; rintro e w4 ⟨rfl, G4⟩)
  have HCC : Hid ((fixC F e1 em).cells = #[.int .i64 F, .int .i64 8, .int .u64 0, .int .u64 8, .int .u64 1, .int .u64 1, .int .u64 (e1 : Nat), .int .u64 (em : Nat), .int .u64 1099511627776, .int .u64 1099511627776]) := by show _ = _; rfl
  have HEM : Hid ((fixC F e1 em).em = em) := by show _ = _; rfl
  have HCB4 : Hid (w4.heap[cb]? = some (.cells (fixC F e1 em).cells 25 (0, 0))) := (G4.out.2.block _ (block_lt HCB3.out)).trans HCB3.out
  have HQ0 : Hid (∃ s : Ev, QE w (fixC F e1 em) eb g 0 s w4 ∧ w4.heap[cb]? = some (.cells (fixC F e1 em).cells 25 (0, 0)) ∧ s.sus < 2 ^ N) := ⟨_, G4.out.1, HCB4.out, Nat.two_pow_pos _⟩
  clear G4 HCB4 HCB3 HV hbn
  generalize fixC F e1 em = c at *
  have HLE := hide HO.out.le
  go_wp2
  have hle := HLE.out
  go_loopw [14, 15, 16, 17, 18, 19, 20, 21, 22, 23] (fun i _ _ _ _ _ _ _ _ _ wr => ∃ j : Nat, j ≤ n ∧ i = .int .i64 j ∧ Hid (∃ s : Ev, QE w c eb g 0 s wr ∧ wr.heap[cb]? = some (.cells c.cells 25 (0, 0)) ∧ s.sus < 2 ^ N)) (fun i _ _ _ _ _ _ _ _ _ _ => n - (intOf i).toNat)
  case atStart => exact ⟨0, by omega, rfl, HQ0.out⟩
  case round =>
    obtain ⟨j, hj, rfl, HQ⟩ := hrel
    clear HQ0
    obtain ⟨s, hqe, hcb, hsu⟩ := HQ.out
    have QE1 := hide hqe
    have CF1 := hide hcb
    have HSU := hide hsu
    clear hqe hcb hsu HQ
    by_cases hlt : j < n
    · have d1 : decide ((j : Int) < (n : Int)) = true := decide_eq_true (by omega)
      obtain ⟨o, hrg, hok⟩ := HO.out.op j hlt
      have hol := HO.out.lt (by omega)
      have had := HO.out.ad (by omega)
      subst had
      have HRG : Hid (wr.rangeAt ob (off + j * 57) o.oc) := fun i v hv => (QE1.out.bel.cell (p := ⟨ob, _, none⟩) hol).trans (hrg i v hv)
      have hol' : ob < wr.heap.size := Nat.lt_of_lt_of_le hol QE1.out.bel.size
      have HOK := hide hok
      have HOKW := hide hok
      have H57 : Hid (((Try.prog.info? 51).map (·.size)) = some o.oc.length) := by show _ = _; rw [hok.len]; rfl
      clear hrg hok hol
      go_upto_region 10 with fail
      go_upto_region 11 with (first
        | (refine wpList_load_mid rfl 51 _ rfl ob (off + j * 57) rfl o.oc _ HRG.out Try.underlying51 rfl H57.out ?_; simp only [Act.put, List.setIfInBounds_toArray, List.set_cons_zero, List.set_cons_succ])
        | (refine wpList_store_boxT rfl 51 _ _ rfl wr.heap.size _ _ (alloc_atK _ _) o.oc rfl rfl (by rw [HOK.out.len]; rfl) H57.out HOK.out.one ?_; intro w7 g7 c7; have B7 := hide (below_box g7); have C7 := hide c7; clear g7 c7; simp only [Act.put]))
      have QE7 := hide (QE1.out.kept B7.out)
      have CF7 := hide ((B7.out.block _ (block_lt CF1.out)).trans CF1.out)
      have OK7 := hide (HOK.out.below (QE7.out.bel))
      clear QE1 CF1 B7 HRG HOK hol' d1
      generalize wr.heap.size = xb at *
      have HST := hide (stateR QE7.out)
      go_upto_region 14 with (go_at_call 7; refine HST.out.mono ?_; rintro e w8 ⟨ao1, n1, c1, ao2, n2, c2, rfl, hn1, hn2, G8⟩)
      obtain ⟨tn, htn⟩ : ∃ tn, turnB F N s o = tn := ⟨_, rfl⟩
      obtain ⟨wn, hwn⟩ : ∃ wn : Nat, (wantV F N s o).1 = wn := ⟨_, rfl⟩
      obtain ⟨wd, hwd⟩ : ∃ wd : Int, (wantV F N s o).2 = wd := ⟨_, rfl⟩
      have HTN := hide htn
      have HWN := hide hwn
      have HWD := hide hwd
      clear htn hwn hwd
      obtain ⟨V1, hV1⟩ : ∃ V1, w8.alloc (.cells #[.int .u64 (s.num : Nat), .int .i64 s.node, .int .u32 (s.sus : Nat), .int .u64 (s.len : Nat), .int .u64 (s.fin : Nat), .slice ao1 n1 c1, .slice ao2 n2 c2] 55) = V1 := ⟨_, rfl⟩
      obtain ⟨V2, hV2⟩ : ∃ V2, V1.alloc (.cells #[.int .u64 (s.num : Nat), .int .i64 s.node] 33) = V2 := ⟨_, rfl⟩
      have sV1 : V1.heap.size = w8.heap.size + 1 := by rw [← hV1]; simp
      have HR0 : Hid (Rw w c eb g cb xb w8.heap.size (w8.heap.size + 1) s s o.oc (.slice ao1 n1 c1) (.slice ao2 n2 c2) (s.num : Nat) s.node V2) := by
        have b1 : Below w8.heap.size w8 V1 := by rw [← hV1]; exact below_alloc1 w8 _
        have b2 : Below V1.heap.size V1 V2 := by rw [← hV2]; exact below_alloc1 V1 _
        have b3 : Below w8.heap.size w8 V2 := b1.trans (b2.mono b1.size)
        have k8 : KpT w7 V2 := (KpT.below G8.out.2).trans (KpT.below b3)
        have cS : V1.heap[w8.heap.size]? = some (.cells #[.int .u64 (s.num : Nat), .int .i64 s.node, .int .u32 (s.sus : Nat), .int .u64 (s.len : Nat), .int .u64 (s.fin : Nat), .slice ao1 n1 c1, .slice ao2 n2 c2] 55 (0, 0)) := by rw [← hV1]; exact alloc_atK _ _
        have cW : V2.heap[V1.heap.size]? = some (.cells #[.int .u64 (s.num : Nat), .int .i64 s.node] 33 (0, 0)) := by rw [← hV2]; exact alloc_atK _ _
        rw [sV1] at cW
        refine ⟨G8.out.1.kept b3, k8 _ _ _ CF7.out (by unfold Tt; decide), k8 _ _ _ C7.out (by unfold Tt; decide), (b2.block _ (block_lt cS)).trans cS, cW, ?_⟩
        have := G8.out.1.bel.size
        omega
      rw [hV1, hV2]
      clear hV1 hV2 sV1 G8 QE7 CF7 C7 HST
      generalize w8.heap.size + 1 = wb at *
      generalize w8.heap.size = sb at *
      have z0 : V2.cell? ⟨xb, 0, none⟩ = some (.int .i64 o.kd) := blk_cellE HR0.out.op OK7.out.c0
      have zl := block_lt HR0.out.op
      go_upto_block 2 with fail
      go_cut [18, 19] from 73 (fun t _ V => t = .bool tn ∧ Hid (Rw w c eb g cb xb sb wb s s o.oc (.slice ao1 n1 c1) (.slice ao2 n2 c2) (wn : Nat) wd V))
      case first =>
        by_cases h3 : o.kd = 3
        · have z6 : V2.cell? ⟨xb, 6, none⟩ = some (.int .u64 (o.src : Nat)) := blk_cellE HR0.out.op OK7.out.c6
          have z7 : V2.cell? ⟨xb, 7, none⟩ = some (.int .i64 o.kind) := blk_cellE HR0.out.op ((OK7.out.mid 0 (by decide)).trans OK7.out.msg.c0)
          have z8 : V2.cell? ⟨xb, 8, none⟩ = some (.int .u64 (o.num : Nat)) := blk_cellE HR0.out.op ((OK7.out.mid 1 (by decide)).trans OK7.out.msg.c1)
          have z9 : V2.cell? ⟨xb, 9, none⟩ = some (.int .i64 o.node) := blk_cellE HR0.out.op ((OK7.out.mid 2 (by decide)).trans OK7.out.msg.c2)
          have HW3 : Hid (tn = (heardB N o && belB s.num s.node o.num o.node) ∧ wn = (if tn = true then o.num else s.num) ∧ wd = (if tn = true then o.node else s.node)) := by
            have h := want3 F N s o h3
            rw [HTN.out, HWN.out, HWD.out] at h
            exact h
          have hN7 : N ≤ 7 := by have := HNN.out; omega
          rw [h3]
          rw [h3] at z0
          go_upto_region 16 with fail
          go_cut [19] from 77 (fun v V => v = .bool (heardB N o) ∧ V = V2)
          case first =>
            obtain ⟨b1, q1⟩ : ∃ b, (o.kind == 8) = b := ⟨_, rfl⟩
            obtain ⟨b2, q2⟩ : ∃ b, decide ((o.src : Int) < (N : Int)) = b := ⟨_, rfl⟩
            obtain ⟨b3, q3⟩ : ∃ b, decide (1 ≤ (o.num : Int)) = b := ⟨_, rfl⟩
            obtain ⟨b4, q4⟩ : ∃ b, decide ((o.num : Int) ≤ 1099511627776) = b := ⟨_, rfl⟩
            obtain ⟨b5, q5⟩ : ∃ b, decide (0 ≤ o.node) = b := ⟨_, rfl⟩
            obtain ⟨b6, q6⟩ : ∃ b, decide (o.node < (N : Int)) = b := ⟨_, rfl⟩
            have HHB := hide (heard_eq N o q1 q2 q3 q4 q5 q6)
            generalize heardB N o = hb at *
            generalize (o.src : Int) = si at *
            generalize (o.num : Int) = ni at *
            generalize o.node = nd at *
            generalize o.kind = kk at *
            cases b1 with
            | false =>
              as_aux_lemma =>
                go_wp2
                go_meet
                case rel => exact ⟨by rw [HHB.out]; rfl, rfl⟩
            | true =>
              cases b2 with
              | false =>
                as_aux_lemma =>
                  go_wp2
                  go_meet
                  case rel => exact ⟨by rw [HHB.out]; rfl, rfl⟩
              | true =>
                cases b3 with
                | false =>
                  as_aux_lemma =>
                    go_wp2
                    go_meet
                    case rel => exact ⟨by rw [HHB.out]; rfl, rfl⟩
                | true =>
                  cases b4 with
                  | false =>
                    as_aux_lemma =>
                      go_wp2
                      go_meet
                      case rel => exact ⟨by rw [HHB.out]; rfl, rfl⟩
                  | true =>
                    cases b5 with
                    | false =>
                      as_aux_lemma =>
                        go_wp2
                        go_meet
                        case rel => exact ⟨by rw [HHB.out]; rfl, rfl⟩
                    | true =>
                      cases b6 with
                      | false =>
                        as_aux_lemma =>
                          go_wp2
                          go_meet
                          case rel => exact ⟨by rw [HHB.out]; rfl, rfl⟩
                      | true =>
                        as_aux_lemma =>
                          go_wp2
                          go_meet
                          case rel => exact ⟨by rw [HHB.out]; rfl, rfl⟩
          case rest =>
          obtain ⟨hu, hV⟩ := hcut
          subst hu
          have hV' := hV.symm
          subst hV'
          clear hV z6 z7
          have y0 := block_cell HR0.out.st 0
          have y1 := block_cell HR0.out.st 1
          have yl := block_lt HR0.out.st
          simp at y0 y1
          cases hh : heardB N o with
          | false =>
            as_aux_lemma =>
              have HE : Hid (false = tn ∧ wn = s.num ∧ wd = s.node) := by
                have h := HW3.out
                rw [hh, Bool.false_and] at h
                have h1 := h.1
                rw [h1] at h
                exact ⟨h1.symm, h.2.1, h.2.2⟩
              have HE2 : Hid (Rw w c eb g cb xb sb wb s s o.oc (.slice ao1 n1 c1) (.slice ao2 n2 c2) (wn : Nat) wd V2) := by rw [HE.out.2.1, HE.out.2.2]; exact HR0.out
              clear hh
              go_wp2
              go_meet
              case rel => exact ⟨by rw [← HE.out.1], HE2.out⟩
          | true =>
            obtain ⟨bl, hbl⟩ : ∃ bl, belB s.num s.node o.num o.node = bl := ⟨_, rfl⟩
            have HE : Hid (tn = bl ∧ wn = (if bl = true then o.num else s.num) ∧ wd = (if bl = true then o.node else s.node)) := by
              have h := HW3.out
              rw [hh, Bool.true_and, hbl] at h
              have h1 := h.1
              rw [h1] at h
              exact ⟨h1, h.2.1, h.2.2⟩
            have HBL := hide (belowI (s.num : Nat) s.node (o.num : Nat) o.node V2 bl hbl.symm)
            have HKE : Hid (∀ V, Below V2.heap.size V2 V → (V.cell? ⟨xb, 8, none⟩ = some (.int .u64 (o.num : Nat)) ∧ V.cell? ⟨xb, 9, none⟩ = some (.int .i64 o.node) ∧ xb < V.heap.size) ∧ (V.cell? ⟨wb, 0, none⟩ = some (.int .u64 (s.num : Nat)) ∧ V.cell? ⟨wb, 1, none⟩ = some (.int .i64 s.node) ∧ V.frozen? ⟨wb, 0, none⟩ = false ∧ V.frozen? ⟨wb, 1, none⟩ = false ∧ wb < V.heap.size) ∧ Hid (Rw w c eb g cb xb sb wb s s o.oc (.slice ao1 n1 c1) (.slice ao2 n2 c2) (s.num : Nat) s.node V)) := fun V hb => by
              have h := HR0.out.kept hb
              exact ⟨⟨blk_cellE h.op ((OK7.out.mid 1 (by decide)).trans OK7.out.msg.c1), blk_cellE h.op ((OK7.out.mid 2 (by decide)).trans OK7.out.msg.c2), block_lt h.op⟩, ⟨block_cell h.wt 0, block_cell h.wt 1, block_free h.wt 0, block_free h.wt 1, block_lt h.wt⟩, h⟩
            clear hh hbl
            go_upto_if 125 with (go_at_call 8; refine HBL.out.mono ?_; rintro e w5 ⟨rfl, G5⟩)
            clear z0 z8 z9 zl y0 y1 yl
            obtain ⟨⟨z8, z9, zl⟩, ⟨t0, t1, tf0, tf1, tl⟩, HR5⟩ := HKE.out w5 G5.out
            cases bl with
            | false =>
              as_aux_lemma =>
                have HE2 : Hid (Rw w c eb g cb xb sb wb s s o.oc (.slice ao1 n1 c1) (.slice ao2 n2 c2) (wn : Nat) wd w5) := by
                  have h := HE.out.2
                  rw [if_neg (by decide), if_neg (by decide)] at h
                  rw [h.1, h.2]; exact HR5.out
                clear HKE HBL G5
                go_wp2
                go_meet
                case rel => exact ⟨by rw [HE.out.1], HE2.out⟩
            | true =>
              as_aux_lemma =>
                have HE2 : Hid (Rw w c eb g cb xb sb wb s s o.oc (.slice ao1 n1 c1) (.slice ao2 n2 c2) (wn : Nat) wd ((w5.setCell ⟨wb, 0, none⟩ (.int .u64 (o.num : Nat))).setCell ⟨wb, 1, none⟩ (.int .i64 o.node))) := by
                  have h := HE.out.2
                  rw [if_pos rfl, if_pos rfl] at h
                  rw [h.1, h.2]; exact HR5.out.setw _ _
                clear HKE HBL G5
                go_wp2
                go_meet
                case rel => exact ⟨by rw [HE.out.1], HE2.out⟩
        · by_cases h5 : o.kd = 5
          · have HW5 : Hid (tn = (decide (F + 1 ≤ (memU s.sus N).length) && !lastB N s) ∧ (tn = true → s.node + 1 < (N : Int) → wn = s.num ∧ wd = s.node + 1) ∧ (tn = true → ¬ s.node + 1 < (N : Int) → wn = s.num + 1 ∧ wd = 0) ∧ (tn = false → wn = s.num ∧ wd = s.node)) := by
              have h := want5 F N s o h3 h5
              rw [HTN.out, HWN.out, HWD.out] at h
              exact h
            obtain ⟨fa1, fa2, fa3, fa4⟩ := HR0.out.qe.facts
            have hN7 : N ≤ 7 := by have := HNN.out; omega
            obtain ⟨v1, v2, v3⟩ := (valid_node fa1).1 fa2
            rw [HFX.out.mn] at v1
            rw [HFX.out.f] at v3
            have hnum : s.num < 18446744073709551615 := by omega
            have hnode : s.node ≤ 100 := by omega
            have HCO := hide (fun V => countI s.sus N fa3 (by omega) V)
            have HAF := hide (fun V => afterI s.num s.node (N : Int) hnum v2 hnode V)
            obtain ⟨lb, hlb⟩ : ∃ lb, lastB N s = lb := ⟨_, rfl⟩
            have HBQ : Hid (∀ V, (binOp BinOp.neq 33 (.agg #[.int .u64 (s.num : Nat), .int .i64 s.node]) (.agg #[.int .u64 1099511627776, .int .i64 ((N : Int) - 1)])).run Try.prog V = .ok (.bool (!lb)) V) := fun V => by rw [← hlb]; exact bal_neq _ _ _ _ V
            obtain ⟨cl, hcl⟩ : ∃ cl : Nat, (memU s.sus N).length = cl := ⟨_, rfl⟩
            rw [hlb, hcl] at HW5
            rw [hcl] at HCO
            clear fa1 fa2 fa3 fa4 v1 v2 v3 hnum hnode hlb hcl
            have y0 := block_cell HR0.out.st 0
            have y1 := block_cell HR0.out.st 1
            have y2 := block_cell HR0.out.st 2
            have yl := block_lt HR0.out.st
            simp at y0 y1 y2
            rw [h5]
            rw [h5] at z0
            have d3 : ((5 : Int) == 3) = false := by decide
            go_upto_region 20 with fail
            have hbq := HBQ.out
            cases hd : decide ((F : Int) + 1 ≤ (cl : Int)) with
            | false =>
              as_aux_lemma =>
                have hd' : decide (F + 1 ≤ cl) = false := by rw [← hd]; exact decide_eq_decide.2 (by omega)
                have HE2 : Hid (.bool false = Value.bool tn ∧ Rw w c eb g cb xb sb wb s s o.oc (.slice ao1 n1 c1) (.slice ao2 n2 c2) (wn : Nat) wd V2) := by
                  have ht : tn = false := by rw [HW5.out.1, hd', Bool.false_and]
                  obtain ⟨a1, a2⟩ := HW5.out.2.2.2 ht
                  refine ⟨by rw [ht], ?_⟩
                  rw [a1, a2]
                  exact HR0.out
                clear HAF HW5
                go_wp2_with (go_at_call 9; refine (HCO.out _).mono ?_; rintro e w5 ⟨rfl, hVV⟩; have hVW := hVV.symm; clear hVV; subst hVW)
                go_meet
                case rel => exact ⟨HE2.out.1, HE2.out.2⟩
            | true =>
              have hd' : decide (F + 1 ≤ cl) = true := by rw [← hd]; exact decide_eq_decide.2 (by omega)
              cases lb with
              | true =>
                as_aux_lemma =>
                  have HE2 : Hid (.bool false = Value.bool tn ∧ Rw w c eb g cb xb sb wb s s o.oc (.slice ao1 n1 c1) (.slice ao2 n2 c2) (wn : Nat) wd V2) := by
                    have ht : tn = false := by rw [HW5.out.1, hd']; rfl
                    obtain ⟨a1, a2⟩ := HW5.out.2.2.2 ht
                    refine ⟨by rw [ht], ?_⟩
                    rw [a1, a2]
                    exact HR0.out
                  clear HAF HW5
                  go_wp2_with (go_at_call 9; refine (HCO.out _).mono ?_; rintro e w5 ⟨rfl, hVV⟩; have hVW := hVV.symm; clear hVV; subst hVW)
                  go_meet
                  case rel => exact ⟨HE2.out.1, HE2.out.2⟩
              | false =>
                have ht : tn = true := by rw [HW5.out.1, hd']; rfl
                by_cases hnx : s.node + 1 < (N : Int)
                · as_aux_lemma =>
                    have HA2 : Hid (∀ V, Calls Try.prog 10 #[.agg #[.int .u64 (s.num : Nat), .int .i64 s.node], .int .i64 (N : Int)] V fun e w' => e = .returned (.agg #[.int .u64 (s.num : Nat), .int .i64 (s.node + 1)]) ∧ Hid (Below V.heap.size V w')) := fun V => by
                      have h := HAF.out V
                      rw [if_pos hnx] at h
                      exact h
                    have HE2 : Hid (∀ V, Below V2.heap.size V2 V → (V.cell? ⟨wb, 0, none⟩ = some (.int .u64 (s.num : Nat)) ∧ V.cell? ⟨wb, 1, none⟩ = some (.int .i64 s.node) ∧ V.frozen? ⟨wb, 0, none⟩ = false ∧ V.frozen? ⟨wb, 1, none⟩ = false ∧ wb < V.heap.size) ∧ Hid (.bool true = Value.bool tn ∧ Rw w c eb g cb xb sb wb s s o.oc (.slice ao1 n1 c1) (.slice ao2 n2 c2) (wn : Nat) wd ((V.setCell ⟨wb, 0, none⟩ (.int .u64 (s.num : Nat))).setCell ⟨wb, 1, none⟩ (.int .i64 (s.node + 1))))) := fun V hb => by
                      have hr := HR0.out.kept hb
                      obtain ⟨a1, a2⟩ := HW5.out.2.1 ht hnx
                      refine ⟨⟨block_cell hr.wt 0, block_cell hr.wt 1, block_free hr.wt 0, block_free hr.wt 1, block_lt hr.wt⟩, by rw [ht], ?_⟩
                      rw [a1, a2]
                      exact hr.setw _ _
                    clear HAF HW5 ht hnx
                    go_wp2_with (first
                      | (go_at_call 9; refine (HCO.out _).mono ?_; rintro e w5 ⟨rfl, hVV⟩; have hVW := hVV.symm; clear hVV; subst hVW)
                      | (go_at_call 10; refine (HA2.out _).mono ?_; rintro e w6 ⟨rfl, G6⟩; obtain ⟨⟨t0, t1, tf0, tf1, tl⟩, HF2⟩ := HE2.out w6 G6.out; clear y0 y1 y2 yl z0 zl))
                    go_meet
                    case rel => exact ⟨HF2.out.1, HF2.out.2⟩
                · as_aux_lemma =>
                    have HA2 : Hid (∀ V, Calls Try.prog 10 #[.agg #[.int .u64 (s.num : Nat), .int .i64 s.node], .int .i64 (N : Int)] V fun e w' => e = .returned (.agg #[.int .u64 ((s.num + 1 : Nat) : Int), .int .i64 0]) ∧ Hid (Below V.heap.size V w')) := fun V => by
                      have h := HAF.out V
                      rw [if_neg hnx] at h
                      exact h
                    have HE2 : Hid (∀ V, Below V2.heap.size V2 V → (V.cell? ⟨wb, 0, none⟩ = some (.int .u64 (s.num : Nat)) ∧ V.cell? ⟨wb, 1, none⟩ = some (.int .i64 s.node) ∧ V.frozen? ⟨wb, 0, none⟩ = false ∧ V.frozen? ⟨wb, 1, none⟩ = false ∧ wb < V.heap.size) ∧ Hid (.bool true = Value.bool tn ∧ Rw w c eb g cb xb sb wb s s o.oc (.slice ao1 n1 c1) (.slice ao2 n2 c2) (wn : Nat) wd ((V.setCell ⟨wb, 0, none⟩ (.int .u64 ((s.num + 1 : Nat) : Int))).setCell ⟨wb, 1, none⟩ (.int .i64 0)))) := fun V hb => by
                      have hr := HR0.out.kept hb
                      obtain ⟨a1, a2⟩ := HW5.out.2.2.1 ht hnx
                      refine ⟨⟨block_cell hr.wt 0, block_cell hr.wt 1, block_free hr.wt 0, block_free hr.wt 1, block_lt hr.wt⟩, by rw [ht], ?_⟩
                      rw [a1, a2]
                      exact hr.setw _ _
                    clear HAF HW5 ht hnx
                    go_wp2_with (first
                      | (go_at_call 9; refine (HCO.out _).mono ?_; rintro e w5 ⟨rfl, hVV⟩; have hVW := hVV.symm; clear hVV; subst hVW)
                      | (go_at_call 10; refine (HA2.out _).mono ?_; rintro e w6 ⟨rfl, G6⟩; obtain ⟨⟨t0, t1, tf0, tf1, tl⟩, HF2⟩ := HE2.out w6 G6.out; clear y0 y1 y2 yl z0 zl))
                    go_meet
                    case rel => exact ⟨HF2.out.1, HF2.out.2⟩
          · as_aux_lemma =>
              have e3 : (o.kd == 3) = false := beq_eq_false_iff_ne.2 h3
              have e5 : (o.kd == 5) = false := beq_eq_false_iff_ne.2 h5
              have HE2 : Hid (.bool false = Value.bool tn ∧ Rw w c eb g cb xb sb wb s s o.oc (.slice ao1 n1 c1) (.slice ao2 n2 c2) (wn : Nat) wd V2) := by
                have h := want0 F N s o h3 h5
                rw [HTN.out, HWN.out, HWD.out] at h
                refine ⟨by rw [h.1], ?_⟩
                rw [h.2.1, h.2.2]
                exact HR0.out
              clear h3 h5
              generalize o.kd = kd at *
              go_wp2
              go_meet
              case rel => exact ⟨HE2.out.1, HE2.out.2⟩
      case rest =>
      obtain ⟨hu, HR⟩ := hcut
      subst hu
      clear HR0 z0 zl
      have HRGo : Hid (wc.rangeAt xb 0 o.oc) := range_of_block HR.out.op
      have HCALL := hide (callQ HR.out.qe HC.out (HOKW.out.below HR.out.qe.bel))
      go_upto_region 22 with fail
      have H57' : Hid (((Try.prog.info? 51).map (·.size)) = some o.oc.length) := by show _ = _; rw [HOKW.out.len]; rfl
      have xl := block_lt HR.out.op
      go_upto_region 23 with (first
        | (refine wpList_load_mid rfl 51 _ rfl xb 0 rfl o.oc _ HRGo.out Try.underlying51 rfl H57'.out ?_; simp only [Act.put, List.setIfInBounds_toArray, List.set_cons_zero, List.set_cons_succ])
        | (go_at_call 11; refine HCALL.out.mono ?_; rintro e w5 ⟨z, s', rfl, G5⟩))
      have HM : Hid (s'.num = wn ∧ s'.node = wd ∧ (o.kd = 3 ∨ o.kd = 5 → z = tn) ∧ (tn = true → s.len ≤ s'.len) ∧ (tn = true → s'.sus = if o.kd = 3 ∧ o.susp = true then 2 ^ o.src else 0) ∧ s'.sus < 2 ^ N ∧ (tn = true → o.kd = 3 → o.src < N)) := by
        obtain ⟨f1, f2, f3, f4⟩ := HR.out.qe.facts
        obtain ⟨m1, m2, m3, m4, m5, m6⟩ := step_math HFX.out G5.out.1 f4 HSU.out f1 f2
        rw [HTN.out] at m2 m3 m4 m6
        have a1 := congrArg Prod.fst m1
        have a2 := congrArg Prod.snd m1
        rw [HWN.out] at a1
        rw [HWD.out] at a2
        exact ⟨a1, a2, m2, m3, m4, m5, m6⟩
      have HR5 := hide (HR.out.kp G5.out.2.1 G5.out.2.2)
      have HST2 := hide (stateR HR5.out.qe)
      clear HCALL HRGo G5 HR xl
      go_upto_region 24 with (go_at_call 7; refine HST2.out.mono ?_; rintro e w6 ⟨ao3, n3, c3, ao4, n4, c4, rfl, hn3, hn4, G6⟩)
      obtain ⟨V6, hV6⟩ : ∃ V6, w6.alloc (.cells #[.int .u64 (s'.num : Nat), .int .i64 s'.node, .int .u32 (s'.sus : Nat), .int .u64 (s'.len : Nat), .int .u64 (s'.fin : Nat), .slice ao3 n3 c3, .slice ao4 n4 c4] 55) = V6 := ⟨_, rfl⟩
      have HR6 : Hid (Rt w c eb g cb xb sb wb w6.heap.size s' s o.oc (.slice ao1 n1 c1) (.slice ao2 n2 c2) (.slice ao3 n3 c3) (.slice ao4 n4 c4) (wn : Nat) wd V6) := by
        have b1 : Below w6.heap.size w6 V6 := by rw [← hV6]; exact below_alloc1 w6 _
        refine ⟨(HR5.out.kept G6.out.2).kept b1, ?_⟩
        rw [← hV6]; exact alloc_atK _ _
      rw [hV6]
      clear hV6 G6 HR5 HST2
      generalize w6.heap.size = tb at *
      obtain ⟨SS, hSS⟩ : ∃ SS : World → Prop, SS = fun V => Rt w c eb g cb xb sb wb tb s' s o.oc (.slice ao1 n1 c1) (.slice ao2 n2 c2) (.slice ao3 n3 c3) (.slice ao4 n4 c4) (wn : Nat) wd V := ⟨_, rfl⟩
      have HSS : Hid (∀ V, Hid (SS V) → (Rt w c eb g cb xb sb wb tb s' s o.oc (.slice ao1 n1 c1) (.slice ao2 n2 c2) (.slice ao3 n3 c3) (.slice ao4 n4 c4) (wn : Nat) wd V)) := fun V h => by rw [hSS] at h; exact h.out
      have KD : Hid (∀ V, Hid (SS V) → V.cell? ⟨wb, 0, none⟩ = some (.int .u64 (wn : Nat)) ∧ V.cell? ⟨wb, 1, none⟩ = some (.int .i64 wd) ∧ V.cell? ⟨tb, 0, none⟩ = some (.int .u64 (wn : Nat)) ∧ V.cell? ⟨tb, 1, none⟩ = some (.int .i64 wd) ∧ V.cell? ⟨xb, 0, none⟩ = some (.int .i64 o.kd) ∧ wb < V.heap.size ∧ tb < V.heap.size ∧ xb < V.heap.size) := fun V h => by
        have h := HSS.out V h
        have t0 := block_cell h.2 0
        have t1 := block_cell h.2 1
        rw [HM.out.1] at t0
        rw [HM.out.2.1] at t1
        exact ⟨block_cell h.1.wt 0, block_cell h.1.wt 1, t0, t1, blk_cellE h.1.op HOKW.out.c0, block_lt h.1.wt, block_lt h.2, block_lt h.1.op⟩
      have KV : Hid (∀ V, Hid (SS V) → Calls Try.prog 6 #[.pointer (some ⟨eb, 0, none⟩)] V fun e V' => e = .returned (.agg #[.int .u64 (wn : Nat), .int .i64 wd]) ∧ Hid (SS V')) := fun V h => by
        have h := HSS.out V h
        refine (viewR h.1.qe).mono ?_
        rintro e V' ⟨rfl, G⟩
        rw [HM.out.1, HM.out.2.1, hSS]
        exact ⟨rfl, h.kept G.out.2⟩
      have X1 : Hid (SS V6.drew) := by rw [hSS]; exact HR6.out.kept (Below.refl _ _).drew
      have HBQ2 : Hid (∀ V, (binOp BinOp.neq 33 (.agg #[.int .u64 (wn : Nat), .int .i64 wd]) (.agg #[.int .u64 (wn : Nat), .int .i64 wd])).run Try.prog V = .ok (.bool false) V) := fun V => by rw [bal_neq]; simp
      have HBN := hide (fun V => bool_neq tn V)
      clear hSS HR6
      go_cut [182] from 156 (fun v V => v = .bool false ∧ Hid (Rt w c eb g cb xb sb wb tb s' s o.oc (.slice ao1 n1 c1) (.slice ao2 n2 c2) (.slice ao3 n3 c3) (.slice ao4 n4 c4) (wn : Nat) wd V))
      case first =>
        by_cases h3 : o.kd = 3
        · as_aux_lemma =>
            have hz := HM.out.2.2.1 (.inl h3)
            rw [h3] at KD
            have hz' := hz.symm
            subst hz'
            clear h3 hz
            refine region_assign (fun V => Hid (SS V)) [(158, .pointer (some ⟨eb, 0, none⟩)), (159, .agg #[.int .u64 (wn : Nat), .int .i64 wd]), (160, .agg #[.int .u64 (wn : Nat), .int .i64 wd]), (161, .bool false), (162, .bool false), (163, .pointer (some ⟨tb, 0, none⟩)), (164, .agg #[.int .u64 (wn : Nat), .int .i64 wd]), (165, .agg #[.int .u64 (wn : Nat), .int .i64 wd]), (166, .bool false), (167, .bool false), (168, .bool false), (169, .pointer (some ⟨xb, 0, none⟩)), (170, .int .i64 3), (171, .bool true), (172, .bool true), (173, undef), (174, undef), (175, undef), (176, .bool true), (177, .bool true), (178, .bool tn), (179, .bool tn), (180, .bool false), (181, .bool false), (182, .bool false)] _ (by kernel_rfl) (by kernel_rfl) (by kernel_rfl) (by kernel_rfl) rfl X1 ?_ (fun V7 HV7 => ?_)
            · simp only [putAll, Act.put, List.setIfInBounds_toArray, List.set_cons_zero, List.set_cons_succ]
              repeat' (first | exact AllTo.nil | refine AllTo.cons ?_ ?_)
              all_goals first
                | exact stepTo_no (by rfl) rfl
                | (refine stepTo_yes (by rfl) (fun V hV K hK => ?_)
                   exact op_pure (exec_bin rfl rfl rfl (by kernel_rfl) (HBQ2.out V)) (hK.out _ hV))
                | (refine stepTo_yes (by rfl) (fun V hV K hK => ?_)
                   exact op_pure (exec_bin rfl rfl rfl (by kernel_rfl) (HBN.out V)) (hK.out _ hV))
                | (refine stepTo_yes (by rfl) (fun V hV K hK => ?_)
                   obtain ⟨q0, q1, q2, q3, q4, ql1, ql2, ql3⟩ := KD.out V hV
                   go_simp
                   first
                     | exact hK.out _ hV
                     | (go_at_call 6; refine (KV.out V hV).mono ?_; rintro e V' ⟨rfl, hV'⟩; exact hK.out _ hV'))
            simp only [putAll, Act.put, List.setIfInBounds_toArray, List.set_cons_zero, List.set_cons_succ]
            go_wp2
            go_meet
            case rel => exact ⟨rfl, HSS.out V7 HV7⟩
        · by_cases h5 : o.kd = 5
          · as_aux_lemma =>
              have hz := HM.out.2.2.1 (.inr h5)
              rw [h5] at KD
              have hz' := hz.symm
              subst hz'
              clear h3 h5 hz
              refine region_assign (fun V => Hid (SS V)) [(158, .pointer (some ⟨eb, 0, none⟩)), (159, .agg #[.int .u64 (wn : Nat), .int .i64 wd]), (160, .agg #[.int .u64 (wn : Nat), .int .i64 wd]), (161, .bool false), (162, .bool false), (163, .pointer (some ⟨tb, 0, none⟩)), (164, .agg #[.int .u64 (wn : Nat), .int .i64 wd]), (165, .agg #[.int .u64 (wn : Nat), .int .i64 wd]), (166, .bool false), (167, .bool false), (168, .bool false), (169, .pointer (some ⟨xb, 0, none⟩)), (170, .int .i64 5), (171, .bool false), (172, .bool false), (173, .pointer (some ⟨xb, 0, none⟩)), (174, .int .i64 5), (175, .bool true), (176, .bool true), (177, .bool true), (178, .bool tn), (179, .bool tn), (180, .bool false), (181, .bool false), (182, .bool false)] _ (by kernel_rfl) (by kernel_rfl) (by kernel_rfl) (by kernel_rfl) rfl X1 ?_ (fun V7 HV7 => ?_)
              · simp only [putAll, Act.put, List.setIfInBounds_toArray, List.set_cons_zero, List.set_cons_succ]
                repeat' (first | exact AllTo.nil | refine AllTo.cons ?_ ?_)
                all_goals first
                  | exact stepTo_no (by rfl) rfl
                  | (refine stepTo_yes (by rfl) (fun V hV K hK => ?_)
                     exact op_pure (exec_bin rfl rfl rfl (by kernel_rfl) (HBQ2.out V)) (hK.out _ hV))
                  | (refine stepTo_yes (by rfl) (fun V hV K hK => ?_)
                     exact op_pure (exec_bin rfl rfl rfl (by kernel_rfl) (HBN.out V)) (hK.out _ hV))
                  | (refine stepTo_yes (by rfl) (fun V hV K hK => ?_)
                     obtain ⟨q0, q1, q2, q3, q4, ql1, ql2, ql3⟩ := KD.out V hV
                     go_simp
                     first
                       | exact hK.out _ hV
                       | (go_at_call 6; refine (KV.out V hV).mono ?_; rintro e V' ⟨rfl, hV'⟩; exact hK.out _ hV'))
              simp only [putAll, Act.put, List.setIfInBounds_toArray, List.set_cons_zero, List.set_cons_succ]
              go_wp2
              go_meet
              case rel => exact ⟨rfl, HSS.out V7 HV7⟩
          · as_aux_lemma =>
              have e3 : (o.kd == 3) = false := beq_eq_false_iff_ne.2 h3
              have e5 : (o.kd == 5) = false := beq_eq_false_iff_ne.2 h5
              clear h3 h5
              refine region_assign (fun V => Hid (SS V)) [(158, .pointer (some ⟨eb, 0, none⟩)), (159, .agg #[.int .u64 (wn : Nat), .int .i64 wd]), (160, .agg #[.int .u64 (wn : Nat), .int .i64 wd]), (161, .bool false), (162, .bool false), (163, .pointer (some ⟨tb, 0, none⟩)), (164, .agg #[.int .u64 (wn : Nat), .int .i64 wd]), (165, .agg #[.int .u64 (wn : Nat), .int .i64 wd]), (166, .bool false), (167, .bool false), (168, .bool false), (169, .pointer (some ⟨xb, 0, none⟩)), (170, .int .i64 o.kd), (171, .bool false), (172, .bool false), (173, .pointer (some ⟨xb, 0, none⟩)), (174, .int .i64 o.kd), (175, .bool false), (176, .bool false), (177, .bool false), (178, undef), (179, undef), (180, undef), (181, .bool false), (182, .bool false)] _ (by kernel_rfl) (by kernel_rfl) (by kernel_rfl) (by kernel_rfl) rfl X1 ?_ (fun V7 HV7 => ?_)
              · simp only [putAll, Act.put, List.setIfInBounds_toArray, List.set_cons_zero, List.set_cons_succ]
                repeat' (first | exact AllTo.nil | refine AllTo.cons ?_ ?_)
                all_goals first
                  | exact stepTo_no (by rfl) rfl
                  | (refine stepTo_yes (by rfl) (fun V hV K hK => ?_)
                     exact op_pure (exec_bin rfl rfl rfl (by kernel_rfl) (HBQ2.out V)) (hK.out _ hV))
                  | (refine stepTo_yes (by rfl) (fun V hV K hK => ?_)
                     exact op_pure (exec_bin rfl rfl rfl (by kernel_rfl) (HBN.out V)) (hK.out _ hV))
                  | (refine stepTo_yes (by rfl) (fun V hV K hK => ?_)
                     obtain ⟨q0, q1, q2, q3, q4, ql1, ql2, ql3⟩ := KD.out V hV
                     go_simp
                     first
                       | exact hK.out _ hV
                       | (go_at_call 6; refine (KV.out V hV).mono ?_; rintro e V' ⟨rfl, hV'⟩; exact hK.out _ hV'))
              simp only [putAll, Act.put, List.setIfInBounds_toArray, List.set_cons_zero, List.set_cons_succ]
              go_wp2
              go_meet
              case rel => exact ⟨rfl, HSS.out V7 HV7⟩
      case rest =>
      obtain ⟨hu, HR7⟩ := hcut
      subst hu
      have t2 : wc.cell? ⟨tb, 2, none⟩ = some (.int .u32 (s'.sus : Nat)) := block_cell HR7.out.2 2
      have t3 : wc.cell? ⟨tb, 3, none⟩ = some (.int .u64 (s'.len : Nat)) := block_cell HR7.out.2 3
      have t5 : wc.cell? ⟨tb, 5, none⟩ = some (.slice ao3 n3 c3) := block_cell HR7.out.2 5
      have t6 : wc.cell? ⟨tb, 6, none⟩ = some (.slice ao4 n4 c4) := block_cell HR7.out.2 6
      have tl := block_lt HR7.out.2
      have y3 : wc.cell? ⟨sb, 3, none⟩ = some (.int .u64 (s.len : Nat)) := block_cell HR7.out.1.st 3
      have yl := block_lt HR7.out.1.st
      have hcf := HR7.out.1.cf
      rw [HCC.out] at hcf
      have k7 : wc.cell? ⟨cb, 7, none⟩ = some (.int .u64 (em : Nat)) := block_cell hcf 7
      have kl := block_lt hcf
      have x0' : wc.cell? ⟨xb, 0, none⟩ = some (.int .i64 o.kd) := blk_cellE HR7.out.1.op HOKW.out.c0
      have x6 : wc.cell? ⟨xb, 6, none⟩ = some (.int .u64 (o.src : Nat)) := blk_cellE HR7.out.1.op HOKW.out.c6
      have x20 : wc.cell? ⟨xb, 20, none⟩ = some (.bool o.susp) := blk_cellE HR7.out.1.op ((HOKW.out.mid 13 (by decide)).trans HOKW.out.msg.c13)
      have xl := block_lt HR7.out.1.op
      have HIN : Hid (∃ s : Ev, QE w c eb g 0 s wc ∧ wc.heap[cb]? = some (.cells c.cells 25 (0, 0)) ∧ s.sus < 2 ^ N) := ⟨s', HR7.out.1.qe, HR7.out.1.cf, HM.out.2.2.2.2.2.1⟩
      have hl : s'.len ≤ em := by have := HR7.out.1.qe.facts.2.2.2; rw [HEM.out] at this; exact this
      have dl : decide ((em : Int) < (s'.len : Int)) = false := decide_eq_false (by omega)
      have dn3 : decide ((32 : Int) < (n3 : Int)) = false := decide_eq_false (by omega)
      have dn4 : decide ((32 : Int) < (n4 : Int)) = false := decide_eq_false (by omega)
      have hN7 : N ≤ 7 := by have := HNN.out; omega
      clear hcf HR7 KD KV X1 HBQ2 HBN HSS hl
      cases tn with
      | false =>
        as_aux_lemma =>
          clear HM x6 x20
          generalize (s'.len : Int) = sl' at *
          generalize (s'.sus : Int) = su' at *
          generalize (s.len : Int) = sl at *
          go_wp2
          go_roundw
          case rel => exact ⟨j + 1, by omega, by go_num, HIN.out⟩
          case measure => simp [intOf]; omega
      | true =>
        have dls : decide ((s'.len : Int) < (s.len : Int)) = false := decide_eq_false (by have := HM.out.2.2.2.1 rfl; omega)
        by_cases h3 : o.kd = 3
        · rw [h3] at x0'
          cases hsu : o.susp with
          | true =>
            as_aux_lemma =>
              have hs2 : s'.sus = 2 ^ o.src := by rw [HM.out.2.2.2.2.1 rfl, if_pos ⟨h3, hsu⟩]
              have hsr := HM.out.2.2.2.2.2.2 rfl h3
              rw [hsu] at x20
              rw [hs2] at t2
              clear HM h3 hs2 hsu
              generalize (s'.len : Int) = sl' at *
              generalize (s.len : Int) = sl at *
              obtain ⟨sr, hsr2⟩ : ∃ sr, o.src = sr := ⟨_, rfl⟩
              rw [hsr2] at x6 t2 hsr
              clear hsr2
              go_upto_if 232 with fail
              rw [not_same sr (by omega)]
              go_wp2
              go_roundw
              case rel => exact ⟨j + 1, by omega, by go_num, HIN.out⟩
              case measure => simp [intOf]; omega
          | false =>
            as_aux_lemma =>
              have hs2 : s'.sus = 0 := by rw [HM.out.2.2.2.2.1 rfl, if_neg (by rw [hsu]; simp)]
              rw [hsu] at x20
              rw [hs2] at t2
              clear HM h3 hs2 hsu x6
              generalize (s'.len : Int) = sl' at *
              generalize (s.len : Int) = sl at *
              go_wp2
              go_roundw
              case rel => exact ⟨j + 1, by omega, by go_num, HIN.out⟩
              case measure => simp [intOf]; omega
        · as_aux_lemma =>
            have hs2 : s'.sus = 0 := by rw [HM.out.2.2.2.2.1 rfl, if_neg (fun e => h3 e.1)]
            have e3 : (o.kd == 3) = false := beq_eq_false_iff_ne.2 h3
            rw [hs2] at t2
            clear HM h3 hs2 x6 x20
            generalize (s'.len : Int) = sl' at *
            generalize (s.len : Int) = sl at *
            generalize o.kd = kd at *
            go_wp2
            go_roundw
            case rel => exact ⟨j + 1, by omega, by go_num, HIN.out⟩
            case measure => simp [intOf]; omega
    · have d1 : decide ((j : Int) < (n : Int)) = false := decide_eq_false (by omega)
      have HBE := hide QE1.out.bel
      go_wp2
      go_ret
      exact ⟨rfl, HBE.out⟩
end Go.Proofs.Ythfbimbadkmhhaa
