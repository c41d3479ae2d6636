import Derived.Test.YtmbclemicfffoaaLeF
namespace Go.Proofs.Ytmbclemicfffoaa
open Go.RowKit

/-- One account more, at its place. -/
def insA : List Ac → Ac → List Ac
  | [], a => [a]
  | x :: r, a => if a.id < x.id then a :: x :: r else x :: insA r a
/-- A step of withAcct. -/
def stepI (a : Ac) (s : List Ac × Bool) (x : Ac) : List Ac × Bool := if s.2 = false ∧ a.id < x.id then (s.1 ++ [a] ++ [x], true) else (s.1 ++ [x], s.2)
theorem fin_ins (a : Ac) : ∀ (l : List Ac) (s : List Ac × Bool), (if (l.foldl (stepI a) s).2 = false then (l.foldl (stepI a) s).1 ++ [a] else (l.foldl (stepI a) s).1) = if s.2 = false then s.1 ++ insA l a else s.1 ++ l
  | [], (m, d) => by cases d <;> simp [insA]
  | x :: r, (m, d) => by
    rw [List.foldl_cons, fin_ins a r]
    cases d with
    | true => simp [stepI]
    | false =>
      by_cases h : a.id < x.id
      · simp [stepI, insA, h]
      · simp [stepI, insA, h]
theorem insA_len : ∀ (l : List Ac) (a : Ac), (insA l a).length = l.length + 1
  | [], a => rfl
  | x :: r, a => by unfold insA; split; · rfl
                    · simp [insA_len r a]
theorem stepI_len (a : Ac) : ∀ (l : List Ac) (s : List Ac × Bool), (l.foldl (stepI a) s).1.length ≤ s.1.length + l.length + (if s.2 = true then 0 else 1)
  | [], s => by simp
  | x :: r, (m, d) => by
    have ih := stepI_len a r (stepI a (m, d) x)
    rw [List.foldl_cons]
    cases d with
    | true => simp [stepI] at ih ⊢; omega
    | false =>
      by_cases h : a.id < x.id
      · simp [stepI, h] at ih ⊢; omega
      · simp [stepI, h] at ih ⊢; omega
theorem row_lower {w : World} {base base' : Nat} {e : TypeId} {size : Nat} {v : Value} {n : Nat} {xs : List Value} (h : w.ownsRow base e size v n xs) (hb : base' ≤ base) : w.ownsRow base' e size v n xs := by
  refine ⟨h.1, ?_⟩
  rcases h.2 with h | ⟨g, cap, cur, e1, e2, e3⟩
  · exact .inl h
  · exact .inr ⟨g, cap, cur, e1, Nat.le_trans hb e2, e3⟩
/-- A row of accounts of one's own, and nothing else has turned. -/
structure Wr (W1 : World) (v : Value) (m : List Ac) (V : World) : Prop where
  bel : Below W1.heap.size W1 V
  row : V.ownsRow W1.heap.size 37 4 v m.length (acells m)
theorem Wr.start (W1 : World) : Wr W1 (.slice none 0 0) [] W1 := ⟨Below.refl _ _, World.ownsRow_nil _ _ _ _⟩
theorem Wr.app {W1 : World} {v v' : Value} {m : List Ac} {V w4 : World} (h : Wr W1 v m V) (o : Obj) (x : Ac) (ho : w4.ownsRow W1.heap.size 37 4 v' (m.length + 1) (acells m ++ x.vals)) (hg : (V.alloc o).grownBy w4 v.ownBlock) : Wr W1 v' (m ++ [x]) w4 := by
  refine ⟨(h.bel.alloc h.bel.size o).grown hg (by simp; have := h.bel.size; omega) (fun j e => (h.row.lt j e).1), ?_⟩
  rw [acells_app, List.length_append]
  have e : acells [x] = x.vals := by simp [acells]
  rw [e]
  exact ho
theorem Wr.drewN {W1 : World} {v : Value} {m : List Ac} {V : World} (h : Wr W1 v m V) (q : Nat) : Wr W1 v m (V.drewN q) := ⟨below_dA h.bel q, h.row⟩
theorem Wr.form {W1 : World} {v : Value} {m : List Ac} {V : World} (h : Wr W1 v m V) : ∃ ao cap, v = .slice ao m.length cap := by
  rcases h.row.2 with ⟨rfl, h0⟩ | ⟨g, cap, cur, rfl, _⟩
  · exact ⟨none, 0, by rw [h0]⟩
  · exact ⟨_, cap, rfl⟩
theorem cells_acc (W : World) (x0 x1 x2 x3 : Int) (t : TypeId) : ∀ (j : Nat) (u : Value), [Value.int .u64 x0, .int .u64 x1, .int .u64 x2, .int .u64 x3][j]? = some u → (W.alloc (.cells #[.int .u64 x0, .int .u64 x1, .int .u64 x2, .int .u64 x3] t)).cell? (Addr.add ⟨W.heap.size, 0, none⟩ j) = some u := fun j u hu => cells_newA W _ t j u hu
set_option maxRecDepth 10000 in
set_option maxHeartbeats 6400000 in
theorem withA {w : World} {b off : Nat} {ao : Option Addr} (n cap : Nat) {l : List Ac} (hn : n = l.length) (hA : Acs w b off l) (hao : 0 < n → ao = some ⟨b, off, none⟩) (hbw : 0 < n → b < w.heap.size) (hle : n ≤ 64) (a : Ac) :
    Calls Try.prog 24 #[.slice ao n cap, .agg a.arr] w fun e w' => ∃ ao' cap', e = .returned (.slice ao' (insA l a).length cap') ∧ Hid (w'.ownsRow w.heap.size 37 4 (.slice ao' (insA l a).length cap') (insA l a).length (acells (insA l a)) ∧ Below w.heap.size w w') := by
  obtain ⟨i0, hi, hz0, hz1, hz2⟩ := info_parts infoAcc
  obtain ⟨W1, hW1⟩ : ∃ W1, w.alloc (.cells a.arr 37) = W1 := ⟨_, rfl⟩
  have b1 : Below w.heap.size w W1 := by rw [← hW1]; exact (Below.refl _ w).alloc (Nat.le_refl _) _
  have C1 : Hid (W1.heap[w.heap.size]? = some (.cells a.arr 37 (0, 0))) := by rw [← hW1]; exact alloc_atK _ _
  have HA := hide hao
  have HC := hide (hA.below b1 (fun hp => hbw (by omega)))
  have HB : Hid (0 < n → b < W1.heap.size) := fun hp => Nat.lt_of_lt_of_le (hbw hp) b1.size
  have HN := hide hn
  have HB1 := hide b1
  have HW1 := hide hW1
  have HBX : Hid (∀ V, Below W1.heap.size W1 V → V.cell? ⟨w.heap.size, 0, none⟩ = some (.int .u64 (a.id : Nat)) ∧ V.cell? ⟨w.heap.size, 1, none⟩ = some (.int .u64 (a.ow : Nat)) ∧ V.cell? ⟨w.heap.size, 2, none⟩ = some (.int .u64 (a.ba : Nat)) ∧ V.cell? ⟨w.heap.size, 3, none⟩ = some (.int .u64 (a.cp : Nat)) ∧ w.heap.size < V.heap.size) := fun V hV => by
    have hC := (hV.block _ (block_lt C1.out)).trans C1.out
    exact ⟨block_cell hC 0, block_cell hC 1, block_cell hC 2, block_cell hC 3, block_lt hC⟩
  have HFIN : Hid (∀ v m V, Wr W1 v m V → m = insA l a → ∃ ao' cap', v = .slice ao' (insA l a).length cap' ∧ Hid (V.ownsRow w.heap.size 37 4 (.slice ao' (insA l a).length cap') (insA l a).length (acells (insA l a)) ∧ Below w.heap.size w V)) := fun v m V hV e => by
    subst e
    obtain ⟨ao', cap', rfl⟩ := hV.form
    exact ⟨ao', cap', rfl, row_lower hV.row b1.size, b1.trans (hV.bel.mono b1.size)⟩
  clear hA hao hbw hn b1 hW1 C1
  unfold Ac.arr at *
  go_enter Try.func24, Try.ntmps24
  go_upto_region 1 with fail
  rw [HW1.out]
  clear HW1
  go_wp2
  go_loopw [5, 6, 7] (fun v d i wr => ∃ k : Nat, k ≤ n ∧ i = .int .i64 k ∧ ∃ (m : List Ac) (z : Bool), d = .bool z ∧ Hid (Wr W1 v m wr) ∧ Hid ((l.take k).foldl (stepI a) ([], false) = (m, z)) ∧ m.length ≤ 66) (fun _ _ i _ => n - (intOf i).toNat)
  case atStart => exact ⟨0, by omega, rfl, [], false, rfl, Wr.start W1, rfl, by simp⟩
  case round =>
    obtain ⟨k, hk, rfl, m, z, rfl, HR, HF, hm⟩ := hrel
    generalize u5 = v at *
    by_cases hlt : k < n
    · obtain ⟨x, hx⟩ : ∃ x, l[k]? = some x := ⟨_, List.getElem?_eq_getElem (by have := HN.out; omega)⟩
      obtain ⟨c0, c1, c2, c3⟩ := (HC.out.below HR.out.bel (fun hp => HB.out (by have := HN.out; omega))).four hx
      obtain rfl := HA.out (by omega)
      have cl : b < wr.heap.size := Nat.lt_of_lt_of_le (HB.out (by omega)) HR.out.bel.size
      obtain ⟨q0, q1, q2, q3, ql⟩ := HBX.out wr HR.out.bel
      have e1 : l.take (k + 1) = l.take k ++ [x] := by rw [List.take_add_one, hx]; rfl
      have HST : Hid ((l.take (k + 1)).foldl (stepI a) ([], false) = stepI a (m, z) x) := by rw [e1, List.foldl_append, HF.out]; rfl
      have HLN : Hid ((l.take (k + 1)).foldl (stepI a) ([], false) = stepI a (m, z) x → (stepI a (m, z) x).1.length ≤ 66) := fun e => by
        have h1 := stepI_len a (l.take (k + 1)) ([], false)
        rw [e] at h1
        have h2 : (l.take (k + 1)).length ≤ 64 := by rw [List.length_take]; omega
        simp at h1
        omega
      have HCX : Hid (∀ V v2 m2, Wr W1 v2 m2 V → V.cell? ⟨b, off + k * 4, none⟩ = some (.int .u64 (x.id : Nat)) ∧ V.cell? ⟨b, off + k * 4 + 1, none⟩ = some (.int .u64 (x.ow : Nat)) ∧ V.cell? ⟨b, off + k * 4 + 2, none⟩ = some (.int .u64 (x.ba : Nat)) ∧ V.cell? ⟨b, off + k * 4 + 3, none⟩ = some (.int .u64 (x.cp : Nat)) ∧ b < V.heap.size) := fun V v2 m2 h2 => by
        obtain ⟨c0, c1, c2, c3⟩ := (HC.out.below h2.bel (fun hp => HB.out (by have := HN.out; omega))).four hx
        exact ⟨c0, c1, c2, c3, Nat.lt_of_lt_of_le (HB.out (by omega)) h2.bel.size⟩
      have HAI : Hid (a.vals = [.int .u64 (a.id : Int), .int .u64 (a.ow : Int), .int .u64 (a.ba : Int), .int .u64 (a.cp : Int)]) := rfl
      have HXI : Hid (x.vals = [.int .u64 (x.id : Int), .int .u64 (x.ow : Int), .int .u64 (x.ba : Int), .int .u64 (x.cp : Int)]) := rfl
      have HC1 : Hid (z = false → (a.id : Int) < (x.id : Int) → stepI a (m, z) x = (m ++ [a] ++ [x], true)) := fun h1 h2 => by unfold stepI; rw [if_pos ⟨h1, by omega⟩]
      have HC2 : Hid (¬ (z = false ∧ (a.id : Int) < (x.id : Int)) → stepI a (m, z) x = (m ++ [x], z)) := fun h => by unfold stepI; rw [if_neg (fun e => h ⟨e.1, by omega⟩)]
      clear hx e1 HF c0 c1 c2 c3 cl
      have hne : ∀ q : Nat, (wr.drewN q).heap.size = wr.heap.size := fun q => rfl
      generalize (a.id : Int) = AI0 at *
      generalize (a.ow : Int) = AI1 at *
      generalize (a.ba : Int) = AI2 at *
      generalize (a.cp : Int) = AI3 at *
      generalize (x.id : Int) = XI0 at *
      generalize (x.ow : Int) = XI1 at *
      generalize (x.ba : Int) = XI2 at *
      generalize (x.cp : Int) = XI3 at *
      by_cases hc : z = false ∧ AI0 < XI0
      · obtain ⟨rfl, hlt2⟩ := hc
        have hst := HC1.out rfl hlt2
        rw [hst] at HST HLN
        have hl2 := HLN.out HST.out
        simp only [List.length_append, List.length_cons, List.length_nil] at hl2
        have g : decide (XI0 > AI0) = true := decide_eq_true hlt2
        clear hst hlt2 HLN hm HC1 HC2
        obtain ⟨c0, c1, c2, c3, cl⟩ := HCX.out wr v m HR.out
        go_wp2_with fail
        go_quiet (fail)
        obtain ⟨wd, hwd⟩ : ∃ wd, wr.drewN nq = wd := ⟨_, rfl⟩
        have HRD : Hid (Wr W1 v m wd) := by rw [← hwd]; exact HR.out.drewN _
        rw [hwd]
        have hsz : wr.heap.size = wd.heap.size := by rw [← hwd]; rfl
        clear hwd c0 c1 c2 c3 cl q0 q1 q2 q3 ql
        obtain ⟨q0, q1, q2, q3, ql⟩ := HBX.out wd HRD.out.bel
        have HAP : Hid (∀ o v5 w5, w5.ownsRow W1.heap.size 37 4 v5 (m.length + 1) (acells m ++ [.int .u64 AI0, .int .u64 AI1, .int .u64 AI2, .int .u64 AI3]) → (World.alloc wd o).grownBy w5 (v).ownBlock → Wr W1 v5 (m ++ [a]) w5) := fun o v5 w5 ho hg => HRD.out.app o a (by rw [HAI.out]; exact ho) hg
        have HOW : Hid (∀ o, (World.alloc wd o).ownsRow W1.heap.size 37 4 v m.length (acells m)) := fun o => HRD.out.row.alloc o
        have HSZ : Hid (∀ o, W1.heap.size ≤ (World.alloc wd o).heap.size) := fun o => by simp; have := HRD.out.bel.size; omega
        go_upto_region 9 with (at_builtin; refine wpList_append_own _ rfl (.tmp 26) (.tmp 28) 22 rfl W1.heap.size 37 i0 (.agg #[.int .u64 0, .int .u64 0, .int .u64 0, .int .u64 0]) 4 32 Try.underlying22 hi hz0 hz1 hz2 rfl (by decide) v m.length (acells m) rfl (HOW.out _) ⟨wd.heap.size, 0, none⟩ 1 1 [.int .u64 AI0, .int .u64 AI1, .int .u64 AI2, .int .u64 AI3] rfl rfl (cells_acc _ _ _ _ _ _) (by simp [Value.oneCell']) (by unfold maxLen; omega) (by omega) (HSZ.out _) ?_; intro v' w4 ho hg _; have HR2 := hide (HAP.out _ _ _ ho hg); clear ho hg)
        clear HAP HOW HSZ q0 q1 q2 q3 ql
        obtain ⟨c0, c1, c2, c3, cl⟩ := HCX.out w4 v' (m ++ [a]) HR2.out
        have hmm : (m ++ [a]).length ≤ 65 := by simp; omega
        have HAP : Hid (∀ o v5 w5, w5.ownsRow W1.heap.size 37 4 v5 ((m ++ [a]).length + 1) (acells (m ++ [a]) ++ [.int .u64 XI0, .int .u64 XI1, .int .u64 XI2, .int .u64 XI3]) → (World.alloc w4 o).grownBy w5 (v').ownBlock → Wr W1 v5 ((m ++ [a]) ++ [x]) w5) := fun o v5 w5 ho hg => HR2.out.app o x (by rw [HXI.out]; exact ho) hg
        have HOW : Hid (∀ o, (World.alloc w4 o).ownsRow W1.heap.size 37 4 v' (m ++ [a]).length (acells (m ++ [a]))) := fun o => HR2.out.row.alloc o
        have HSZ : Hid (∀ o, W1.heap.size ≤ (World.alloc w4 o).heap.size) := fun o => by simp; have := HR2.out.bel.size; omega
        generalize m ++ [a] = m1 at *
        generalize v' = v1 at *
        generalize w4 = wq at *
        have HR3 := HR2
        clear HR2
        go_wp2_with (at_builtin; refine wpList_append_own _ rfl (.tmp 30) (.tmp 35) 22 rfl W1.heap.size 37 i0 (.agg #[.int .u64 0, .int .u64 0, .int .u64 0, .int .u64 0]) 4 32 Try.underlying22 hi hz0 hz1 hz2 rfl (by decide) v1 m1.length (acells m1) rfl (HOW.out _) ⟨wq.heap.size, 0, none⟩ 1 1 [.int .u64 XI0, .int .u64 XI1, .int .u64 XI2, .int .u64 XI3] rfl rfl (cells_acc _ _ _ _ _ _) (by simp [Value.oneCell']) (by unfold maxLen; omega) (by omega) (HSZ.out _) ?_; intro v' w4 ho hg _; have HR2 := hide (HAP.out _ _ _ ho hg); clear ho hg)
        go_roundw
        case rel => exact ⟨k + 1, by omega, by go_num, m1 ++ [x], true, rfl, HR2.out, HST.out, by simp; omega⟩
        case measure => simp [intOf]; omega
      · have hst := HC2.out hc
        rw [hst] at HST HLN
        have hl2 := HLN.out HST.out
        simp only [List.length_append, List.length_cons, List.length_nil] at hl2
        have HGO : Hid (∀ wd, Hid (Wr W1 v m wd) → Hid (∀ o v' w4, w4.ownsRow W1.heap.size 37 4 v' (m.length + 1) (acells m ++ [.int .u64 XI0, .int .u64 XI1, .int .u64 XI2, .int .u64 XI3]) → (World.alloc wd o).grownBy w4 v.ownBlock → Wr W1 v' (m ++ [x]) w4) ∧ Hid (∀ o, (World.alloc wd o).ownsRow W1.heap.size 37 4 v m.length (acells m)) ∧ Hid (∀ o, W1.heap.size ≤ (World.alloc wd o).heap.size)) := fun wd hR => ⟨fun o v' w4 ho hg => hR.out.app o x (by rw [HXI.out]; exact ho) hg, fun o => hR.out.row.alloc o, fun o => by simp; have := hR.out.bel.size; omega⟩
        clear hst HLN hm HC1 HC2
        obtain ⟨c0, c1, c2, c3, cl⟩ := HCX.out wr v m HR.out
        cases z with
        | true =>
          clear hc
          go_wp2_with fail
          go_quiet (fail)
          obtain ⟨wd, hwd⟩ : ∃ wd, wr.drewN nq = wd := ⟨_, rfl⟩
          have HRD : Hid (Wr W1 v m wd) := by rw [← hwd]; exact HR.out.drewN _
          rw [hwd]
          clear hwd c0 c1 c2 c3 cl q0 q1 q2 q3 ql
          obtain ⟨c0, c1, c2, c3, cl⟩ := HCX.out wd v m HRD.out
          obtain ⟨HAP, HOW, HSZ⟩ := HGO.out wd HRD
          go_wp2_with (at_builtin; refine wpList_append_own _ rfl (.tmp 30) (.tmp 35) 22 rfl W1.heap.size 37 i0 (.agg #[.int .u64 0, .int .u64 0, .int .u64 0, .int .u64 0]) 4 32 Try.underlying22 hi hz0 hz1 hz2 rfl (by decide) v m.length (acells m) rfl (HOW.out _) ⟨wd.heap.size, 0, none⟩ 1 1 [.int .u64 XI0, .int .u64 XI1, .int .u64 XI2, .int .u64 XI3] rfl rfl (cells_acc _ _ _ _ _ _) (by simp [Value.oneCell']) (by unfold maxLen; omega) (by omega) (HSZ.out _) ?_; intro v' w4 ho hg _; have HR2 := hide (HAP.out _ _ _ ho hg); clear ho hg)
          go_roundw
          case rel => exact ⟨k + 1, by omega, by go_num, m ++ [x], true, rfl, HR2.out, HST.out, by simp; omega⟩
          case measure => simp [intOf]; omega
        | false =>
          have g : decide (XI0 > AI0) = false := decide_eq_false (fun e => hc ⟨rfl, e⟩)
          clear hc
          go_wp2_with fail
          go_quiet (fail)
          obtain ⟨wd, hwd⟩ : ∃ wd, wr.drewN nq = wd := ⟨_, rfl⟩
          have HRD : Hid (Wr W1 v m wd) := by rw [← hwd]; exact HR.out.drewN _
          rw [hwd]
          clear hwd c0 c1 c2 c3 cl q0 q1 q2 q3 ql
          obtain ⟨c0, c1, c2, c3, cl⟩ := HCX.out wd v m HRD.out
          obtain ⟨HAP, HOW, HSZ⟩ := HGO.out wd HRD
          go_wp2_with (at_builtin; refine wpList_append_own _ rfl (.tmp 30) (.tmp 35) 22 rfl W1.heap.size 37 i0 (.agg #[.int .u64 0, .int .u64 0, .int .u64 0, .int .u64 0]) 4 32 Try.underlying22 hi hz0 hz1 hz2 rfl (by decide) v m.length (acells m) rfl (HOW.out _) ⟨wd.heap.size, 0, none⟩ 1 1 [.int .u64 XI0, .int .u64 XI1, .int .u64 XI2, .int .u64 XI3] rfl rfl (cells_acc _ _ _ _ _ _) (by simp [Value.oneCell']) (by unfold maxLen; omega) (by omega) (HSZ.out _) ?_; intro v' w4 ho hg _; have HR2 := hide (HAP.out _ _ _ ho hg); clear ho hg)
          go_roundw
          case rel => exact ⟨k + 1, by omega, by go_num, m ++ [x], false, rfl, HR2.out, HST.out, by simp; omega⟩
          case measure => simp [intOf]; omega
    · obtain rfl : k = n := by omega
      have e : l.take k = l := by rw [HN.out, List.take_length]
      have hf := fin_ins a l ([], false)
      have h2 := HF.out
      rw [e] at h2
      rw [h2] at hf
      simp only [List.nil_append, if_true] at hf
      have HFI := hide hf
      clear hf h2 e HF
      obtain ⟨q0, q1, q2, q3, ql⟩ := HBX.out wr HR.out.bel
      cases z with
      | true =>
        obtain ⟨ao', cap', hv, HE⟩ := HFIN.out v m wr HR.out HFI.out
        subst hv
        clear HFI
        go_wp2
        go_ret
        exact ⟨ao', cap', rfl, HE.out⟩
      | false =>
        have hm2 : m ++ [a] = insA l a := HFI.out
        have HAI : Hid (a.vals = [.int .u64 (a.id : Int), .int .u64 (a.ow : Int), .int .u64 (a.ba : Int), .int .u64 (a.cp : Int)]) := rfl
        have HM2 := hide hm2
        clear hm2 HFI
        generalize (a.id : Int) = AI0 at *
        generalize (a.ow : Int) = AI1 at *
        generalize (a.ba : Int) = AI2 at *
        generalize (a.cp : Int) = AI3 at *
        have HAP : Hid (∀ o v5 w5, w5.ownsRow W1.heap.size 37 4 v5 (m.length + 1) (acells m ++ [.int .u64 AI0, .int .u64 AI1, .int .u64 AI2, .int .u64 AI3]) → (World.alloc wr o).grownBy w5 (v).ownBlock → Wr W1 v5 (m ++ [a]) w5) := fun o v5 w5 ho hg => HR.out.app o a (by rw [HAI.out]; exact ho) hg
        have HOW : Hid (∀ o, (World.alloc wr o).ownsRow W1.heap.size 37 4 v m.length (acells m)) := fun o => HR.out.row.alloc o
        have HSZ : Hid (∀ o, W1.heap.size ≤ (World.alloc wr o).heap.size) := fun o => by simp; have := HR.out.bel.size; omega
        go_upto_region 12 with (at_builtin; refine wpList_append_own _ rfl (.tmp 39) (.tmp 41) 22 rfl W1.heap.size 37 i0 (.agg #[.int .u64 0, .int .u64 0, .int .u64 0, .int .u64 0]) 4 32 Try.underlying22 hi hz0 hz1 hz2 rfl (by decide) v m.length (acells m) rfl (HOW.out _) ⟨wr.heap.size, 0, none⟩ 1 1 [.int .u64 AI0, .int .u64 AI1, .int .u64 AI2, .int .u64 AI3] rfl rfl (cells_acc _ _ _ _ _ _) (by simp [Value.oneCell']) (by unfold maxLen; omega) (by omega) (HSZ.out _) ?_; intro v' w4 ho hg _; have HR2 := hide (HAP.out _ _ _ ho hg); clear ho hg)
        obtain ⟨ao', cap', hv, HE⟩ := HFIN.out v' _ w4 HR2.out HM2.out
        subst hv
        clear HR2 HAP HOW HSZ
        go_wp2
        go_ret
        exact ⟨ao', cap', rfl, HE.out⟩
end Go.Proofs.Ytmbclemicfffoaa
