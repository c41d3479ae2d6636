import Derived.Test.YtmbclemicfffoaaLeH
namespace Go.Proofs.Ytmbclemicfffoaa
open Go.RowKit

/-- Between two rounds of the reference's New. -/
structure Rn (w : World) (l : List Ac) (p k : Nat) (wr : World) : Prop where
  bel : Below w.heap.size w wr
  fb : FBox w.heap.size wr
  bk : Bk wr p w.heap.size (srt (l.take k)) (sumA (l.take k))
  good : Good l k
  hs : sumA (l.take k) < 18446744073709551616
  hp : w.heap.size ≤ p
theorem any_step {l : List Ac} {j : Nat} {y : Ac} (x : Nat) (h : l[j]? = some y) : (l.take (j + 1)).any (fun a => a.id == x) = ((l.take j).any (fun a => a.id == x) || (y.id == x)) := by
  rw [List.take_add_one, h]
  simp
theorem any_by (l : List Ac) (x : Nat) : (byId l x).isSome = l.any (fun a => a.id == x) := by
  unfold byId
  induction l with
  | nil => rfl
  | cons a r ih => simp only [List.find?_cons, List.any_cons]; cases a.id == x <;> simp [ih]
theorem row_ne_cells {W : World} {B n q : Nat} {v : Value} {xs : List Value} {cs : Array Value} {t : TypeId} (h : W.ownsRow B 37 4 v n xs) (hq : W.heap[q]? = some (.cells cs t (0, 0))) (hne : t ≠ 37) : v.ownBlock ≠ some q := fun e => by
  rcases h.2 with ⟨rfl, _⟩ | ⟨g, cp, cur, rfl, _, hg, _⟩
  · cases e
  · cases e
    rw [hg] at hq
    cases hq
    exact hne rfl
theorem obj_ty {cs cs' : Array Value} {t t' : TypeId} (h : some (Obj.cells cs t (0, 0)) = some (Obj.cells cs' t' (0, 0))) : t = t' := by
  injection h with h
  injection h
theorem Bk.other {W W' : World} {p B q : Nat} {m : List Ac} {s : Nat} (h : Bk W p B m s) (hg : W.grownBy W' (some q)) (hq : FBox q W) : Bk W' p B m s := by
  obtain ⟨ao, cap, h1, h2⟩ := h.v
  have n1 : some p ≠ some q := fun e => by cases e; unfold FBox at hq; rw [h1] at hq; exact absurd (obj_ty hq) (by decide)
  exact ⟨⟨ao, cap, (hg.block _ (block_lt h1) n1).trans h1, h2.kept hg (.inr (row_ne_cells h2 hq (by decide)))⟩⟩
/-- What the reference's New gives. -/
def RNewA (w : World) (l : List Ac) (v : Value) (fo : Option Addr) (L : List Lk) (c : Int) (w' : World) : Prop :=
  (∃ b off, FV w'.heap.size w' fo L b off) ∧ Below w.heap.size w w' ∧ ((64 < l.length ∧ v = .pointer none ∧ L = [⟨ledgerN, 0⟩] ∧ c = 43) ∨ (l.length ≤ 64 ∧ ∃ k c' : Nat, Bad l k c' ∧ v = .pointer none ∧ L = [⟨ledgerN, (k : Int)⟩] ∧ c = (c' : Int)) ∨ (l.length ≤ 64 ∧ Good l l.length ∧ L = [] ∧ c = 0 ∧ ∃ p, v = .pointer (some ⟨p, 0, none⟩) ∧ Bk w' p w.heap.size (srt l) (sumA l)))
set_option maxRecDepth 10000 in
set_option maxHeartbeats 8000000 in
theorem rnewA {w : World} {b0 off : Nat} {ao : Option Addr} (n cap : Nat) {l : List Ac} (hn : n = l.length) (hA : Acs w b0 off l) (hao : 0 < n → ao = some ⟨b0, off, none⟩) (hbw : 0 < n → b0 < w.heap.size) (hle : n ≤ 4398046510976) :
    Calls Try.prog 10 #[.slice ao n cap] w fun e w' => ∃ v fo L fc c, e = .returned (.tuple #[v, .agg #[.slice fo (List.length L) fc, .int .i64 c]]) ∧ Hid (RNewA w l v fo L c w') := by
  obtain ⟨W1, hW1⟩ : ∃ W1, w.alloc (.cells #[.slice none 0 0, .int .i64 0] 49) = W1 := ⟨_, rfl⟩
  have b1 : Below w.heap.size w W1 := by rw [← hW1]; exact (Below.refl _ w).alloc (Nat.le_refl _) _
  have Q1 : Hid (FBox w.heap.size W1) := by rw [← hW1]; exact alloc_atK _ _
  have HA := hide hao
  have HC := hide hA
  have HB := hide hbw
  have HN := hide hn
  have HB1 := hide b1
  have HW1 := hide hW1
  have HNO : Hid (∀ (c at_ : Int) (W : World), Calls Try.prog 22 #[.int .i64 c, .int .i64 at_] W fun e w' => ∃ ao cap, e = .returned (.agg #[.slice ao 1 cap, .int .i64 c]) ∧ Hid (∃ b off, FV w'.heap.size w' ao [⟨ledgerN, at_⟩] b off ∧ Below W.heap.size W w')) := fun c at_ W => noA c at_ W
  clear hA hao hbw hn hW1 b1
  go_enter Try.func10, Try.ntmps10
  go_upto_region 1 with fail
  rw [HW1.out]
  clear HW1
  by_cases h64 : 64 < n
  · have d1 : decide ((n : Int) > 64) = true := decide_eq_true (by omega)
    have HR1 := hide (HNO.out 43 0 W1)
    go_wp2_with fail
    refine HR1.out.mono ?_
    rintro e w5 ⟨fo, fc, rfl, G5⟩
    obtain ⟨b5, o5, hf5, bb5⟩ := G5.out
    have r5 := Q1.out.kept bb5
    have B5 := hide (HB1.out.trans (bb5.mono HB1.out.size))
    have FIN := hide (box_finA (w := w) r5 (Nat.le_refl _) hf5 B5.out)
    have y0 := block_cell r5 0
    have y1 := block_cell r5 1
    have g0 := block_free r5 0
    have g1 := block_free r5 1
    simp at y0 y1
    have hl5 := block_lt r5
    clear r5 hf5 B5 bb5 G5 HR1
    go_wp2
    refine bodyPost_ret (v := .tuple #[.pointer none, .agg #[.slice fo 1 fc, .int .i64 43]]) (by simp [results, Try.results10, go_sem, y0, y1]) rfl ?_
    obtain ⟨h1, h2, -⟩ := FIN.out (.slice fo 1 fc) (.int .i64 43)
    exact ⟨_, fo, [⟨ledgerN, 0⟩], fc, 43, rfl, h1, h2, .inl ⟨by have := HN.out; omega, rfl, rfl, rfl⟩⟩
  have d1 : decide ((n : Int) > 64) = false := decide_eq_false (by omega)
  obtain ⟨W0, hW0⟩ : ∃ W0, W1.alloc (.cells #[.slice none 0 0, .slice none 0 0, .slice none 0 0, .int .u64 0, .int .u64 1, .slice none 0 0, .slice none 0 0] 35) = W0 := ⟨_, rfl⟩
  have HS0 : Hid (Rn w l W1.heap.size 0 W0) := by
    have b0 : Below W1.heap.size W1 W0 := by rw [← hW0]; exact (Below.refl _ W1).alloc (Nat.le_refl _) _
    refine ⟨HB1.out.trans (b0.mono HB1.out.size), Q1.out.kept b0, ⟨⟨none, 0, ?_, World.ownsRow_nil _ _ _ _⟩⟩, fun i x hi => by omega, by simp [sumA], HB1.out.size⟩
    rw [← hW0]
    exact alloc_atK _ _
  have HW0 := hide hW0
  clear hW0 Q1 HB1
  go_upto_region 4 with fail
  rw [HW0.out]
  clear HW0 d1
  generalize W1.heap.size = p at *
  go_wp2
  go_loopw [5] (fun i wr => ∃ k : Nat, k ≤ n ∧ i = .int .i64 k ∧ Hid (Rn w l p k wr)) (fun i _ => n - (intOf i).toNat)
  case atStart => exact ⟨0, by omega, rfl, HS0.out⟩
  case round =>
    clear HS0
    obtain ⟨k, hk, rfl, HS⟩ := hrel
    by_cases hlt : k < n
    · obtain ⟨x, hx⟩ : ∃ x, l[k]? = some x := ⟨_, List.getElem?_eq_getElem (by have := HN.out; omega)⟩
      have hA1 := HC.out.below HS.out.bel (fun hp => HB.out (by have := HN.out; omega))
      obtain ⟨c0, c1, c2, c3⟩ := hA1.four hx
      obtain rfl := HA.out (by omega)
      have cl : b0 < wr.heap.size := Nat.lt_of_lt_of_le (HB.out (by omega)) HS.out.bel.size
      have HIN := hide (hA1.ok x (List.mem_of_getElem? hx))
      have HX := hide hx
      obtain ⟨W2, hW2⟩ : ∃ W2, wr.alloc (.cells x.arr 37) = W2 := ⟨_, rfl⟩
      have HB2 : Hid (Below wr.heap.size wr W2) := by rw [← hW2]; exact (Below.refl _ wr).alloc (Nat.le_refl _) _
      have C2 : Hid (W2.heap[wr.heap.size]? = some (.cells x.arr 37 (0, 0))) := by rw [← hW2]; exact alloc_atK _ _
      have HBD0 : Hid (∀ c : Nat, faultA (l.take k) (sumA (l.take k)) x = c → c ≠ 0 → Bad l k c) := fun c e1 e2 => ⟨x, HX.out, HS.out.good, e1, e2⟩
      have HAC : Hid (∀ V, Below W2.heap.size W2 V → Acs V b0 off l ∧ b0 < V.heap.size) := fun V hV => by
        have hb := HB2.out.trans (hV.mono HB2.out.size)
        have hb' := HS.out.bel.trans (hb.mono HS.out.bel.size)
        exact ⟨HC.out.below hb' (fun hp => HB.out (by have := HN.out; omega)), Nat.lt_of_lt_of_le (HB.out (by omega)) hb'.size⟩
      have HW2 := hide hW2
      clear hA1 hx hW2
      unfold Ac.arr at HW2 C2
      have HTB : Hid (∀ V, Below W2.heap.size W2 V → V.cell? ⟨wr.heap.size, 0, none⟩ = some (.int .u64 (x.id : Nat)) ∧ V.cell? ⟨wr.heap.size, 1, none⟩ = some (.int .u64 (x.ow : Nat)) ∧ V.cell? ⟨wr.heap.size, 2, none⟩ = some (.int .u64 (x.ba : Nat)) ∧ V.cell? ⟨wr.heap.size, 3, none⟩ = some (.int .u64 (x.cp : Nat)) ∧ wr.heap.size < V.heap.size) := fun V hV => by
        have hC := (hV.block _ (block_lt C2.out)).trans C2.out
        exact ⟨block_cell hC 0, block_cell hC 1, block_cell hC 2, block_cell hC 3, block_lt hC⟩
      go_upto_region 8 with fail
      rw [HW2.out]
      clear c0 c1 c2 c3 cl HW2
      go_wp2
      go_loopw [7, 8] (fun d i wq => ∃ j : Nat, j ≤ k ∧ i = .int .i64 j ∧ d = .bool ((l.take j).any (fun a => a.id == x.id)) ∧ ∃ q, wq = W2.drewN q) (fun _ i _ => k - (intOf i).toNat)
      case atStart => exact ⟨0, by omega, rfl, by simp, 0, rfl⟩
      case round =>
        obtain ⟨j, hj, rfl, rfl, q, rfl⟩ := hrel
        have hb3 : Below W2.heap.size W2 (W2.drewN q) := below_dA (Below.refl _ _) q
        obtain ⟨t0, t1, t2, t3, tl⟩ := HTB.out _ hb3
        by_cases hjk : j < k
        · obtain ⟨y, hy⟩ : ∃ y, l[j]? = some y := ⟨_, List.getElem?_eq_getElem (by have := HN.out; omega)⟩
          obtain ⟨hacs, cl⟩ := HAC.out _ hb3
          obtain ⟨c0, _, _, _⟩ := hacs.four hy
          have HAS := hide (any_step x.id hy)
          obtain ⟨d, hd⟩ : ∃ d, (l.take j).any (fun a => a.id == x.id) = d := ⟨_, rfl⟩
          rw [hd] at HAS
          have hdq : ∀ q2, (W2.drewN q).drewN q2 = W2.drewN (q + q2) := fun q2 => by simp [World.drewN, Nat.add_assoc]
          obtain ⟨z, hz⟩ : ∃ z, ((y.id : Int) == (x.id : Int)) = z := ⟨_, rfl⟩
          have hz2 : (y.id == x.id) = z := by
            rw [← hz]
            rcases Nat.decEq y.id x.id with e | e
            · rw [beq_false_of_ne e, beq_false_of_ne (fun h => e (by omega))]
            · rw [e]; simp
          rw [hz2] at HAS
          have HDQ := hide hdq
          rw [hd]
          clear hacs hy hd hb3 hz2 hdq t1 t2 t3
          generalize (y.id : Int) = YI at *
          generalize (x.id : Int) = XI at *
          generalize wr.heap.size = tb at *
          generalize hWq : W2.drewN q = Wq at *
          cases d with
          | true =>
            go_wp2_with fail
            go_quiet (fail)
            go_wp2
            go_roundw
            case rel => exact ⟨j + 1, by omega, by go_num, by rw [HAS.out]; rfl, _, HDQ.out _⟩
            case measure => simp [intOf]; omega
          | false =>
            go_wp2_with fail
            go_quiet (fail)
            go_wp2
            go_roundw
            case rel => exact ⟨j + 1, by omega, by go_num, by rw [HAS.out]; rfl, _, HDQ.out _⟩
            case measure => simp [intOf]; omega
        · obtain rfl : k = j := by omega
          clear t0 t1 t2 t3 tl
          obtain ⟨W3, hW3⟩ : ∃ W3, W2.drewN q = W3 := ⟨_, rfl⟩
          rw [hW3] at hb3 ⊢
          have HB3 := hide hb3
          have HFV : Hid (∀ V, Below W3.heap.size W3 V → FBox w.heap.size V ∧ Below w.heap.size w V) := fun V hV => by
            have b23 := hb3.trans (hV.mono hb3.size)
            have hb := HB2.out.trans (b23.mono HB2.out.size)
            exact ⟨((HS.out.fb.kept HB2.out).kept hb3).kept hV, HS.out.bel.trans (hb.mono HS.out.bel.size)⟩
          obtain ⟨t, ht⟩ : ∃ t, (l.take k).any (fun a => a.id == x.id) = t := ⟨_, rfl⟩
          have hin := HIN.out
          have hs9 := HS.out.hs
          have hfl : faultA (l.take k) (sumA (l.take k)) x = if (x.id : Int) = 0 then 40 else if t = true then 41 else if (x.cp : Int) < (x.ba : Int) then 47 else if (18446744073709551615 : Int) - (sumA (l.take k) : Int) < (x.ba : Int) then 51 else 0 := by
            unfold faultA
            rw [any_by, ht]
            simp only [Int.natCast_eq_zero, Int.ofNat_lt]
            repeat' split
            all_goals first | rfl | omega
          have HF0 : Hid ((x.id : Int) = 0 → Bad l k 40) := fun e => HBD0.out 40 (by rw [hfl, if_pos e]) (by decide)
          have HF1 : Hid (¬ (x.id : Int) = 0 → t = true → Bad l k 41) := fun e e1 => HBD0.out 41 (by rw [hfl, if_neg e, if_pos e1]) (by decide)
          have HF2 : Hid (¬ (x.id : Int) = 0 → t = false → (x.cp : Int) < (x.ba : Int) → Bad l k 47) := fun e e1 e2 => HBD0.out 47 (by rw [hfl, if_neg e, if_neg (by rw [e1]; decide), if_pos e2]) (by decide)
          have HF3 : Hid (¬ (x.id : Int) = 0 → t = false → ¬ (x.cp : Int) < (x.ba : Int) → (18446744073709551615 : Int) - (sumA (l.take k) : Int) < (x.ba : Int) → Bad l k 51) := fun e e1 e2 e3 => HBD0.out 51 (by rw [hfl, if_neg e, if_neg (by rw [e1]; decide), if_neg e2, if_pos e3]) (by decide)
          have HF4 : Hid (¬ (x.id : Int) = 0 → t = false → ¬ (x.cp : Int) < (x.ba : Int) → ¬ (18446744073709551615 : Int) - (sumA (l.take k) : Int) < (x.ba : Int) → Good l (k + 1) ∧ sumA (l.take (k + 1)) < 18446744073709551616) := fun e e1 e2 e3 => by
            refine ⟨HS.out.good.step HX.out (by rw [hfl, if_neg e, if_neg (by rw [e1]; decide), if_neg e2, if_neg e3]), ?_⟩
            have e9 : l.take (k + 1) = l.take k ++ [x] := by rw [List.take_add_one, HX.out]; rfl
            rw [e9, sumA_app]
            omega
          have HSR : Hid ((0 : Int) ≤ (sumA (l.take k) : Int) ∧ (sumA (l.take k) : Int) ≤ 18446744073709551615) := ⟨by omega, by omega⟩
          have HAB := hide (fun V => aboveA (sumA (l.take k) : Int) (x.ba : Int) HSR.out V)
          obtain ⟨ao2, cap2, hbk, hrow⟩ := ((HS.out.bk.kept HB2.out).kept hb3).v
          obtain ⟨mm, hmm⟩ : ∃ mm, (srt (l.take k)).length = mm := ⟨_, rfl⟩
          rw [hmm] at hbk hrow
          have HBK := hide hbk
          have HRW := hide hrow
          have hml : mm = k := by rw [← hmm]; unfold srt; rw [srt_len, List.length_take]; have := HN.out; simp; omega
          have HML := hide hml
          have HMM := hide hmm
          rw [ht]
          clear hin hs9 hfl hbk hrow hml hmm HBD0 ht hW3 hb3 HAC
          obtain ⟨t0, t1, t2, t3, tl⟩ := HTB.out _ HB3.out
          have p3 : W3.cell? ⟨p, 3, none⟩ = some (.int .u64 (sumA (l.take k) : Nat)) := block_cell HBK.out 3
          have pl := block_lt HBK.out
          have HE9 : Hid (l.take (k + 1) = l.take k ++ [x]) := by rw [List.take_add_one, HX.out]; rfl
          have KSU : Hid (sumA (l.take (k + 1)) = sumA (l.take k) + x.ba) := hide (by rw [HE9.out, sumA_app])
          have KSI : Hid ((sumA (l.take (k + 1)) : Int) = (sumA (l.take k) : Int) + (x.ba : Int)) := hide (by rw [KSU.out]; omega)
          have KRT : Hid (srt (l.take (k + 1)) = insA (srt (l.take k)) x) := hide (by rw [HE9.out, srt_app])
          -- the insertion, from any world that has the row
          have HINS : Hid (∀ V, V.ownsRow w.heap.size 37 4 (.slice ao2 mm cap2) mm (acells (srt (l.take k))) → Calls Try.prog 24 #[.slice ao2 mm cap2, .agg #[.int .u64 (x.id : Int), .int .u64 (x.ow : Int), .int .u64 (x.ba : Int), .int .u64 (x.cp : Int)]] V fun e w' => ∃ ao' cap', e = .returned (.slice ao' (insA (srt (l.take k)) x).length cap') ∧ Hid (w'.ownsRow V.heap.size 37 4 (.slice ao' (insA (srt (l.take k)) x).length cap') (insA (srt (l.take k)) x).length (acells (insA (srt (l.take k)) x)) ∧ Below V.heap.size V w')) := fun V hV => by
            have hin2 : ∀ y ∈ srt (l.take k), y.In := fun y hy => by
              unfold srt at hy
              rw [srt_mem] at hy
              rcases hy with hy | hy
              · exact HC.out.ok y (List.mem_of_mem_take hy)
              · cases hy
            rcases hV.2 with ⟨e1, e2⟩ | ⟨g, cp, cur, e1, hbg, hg, _⟩
            · cases e1
              have hm0 : srt (l.take k) = [] := List.length_eq_zero_iff.1 (by rw [HMM.out])
              rw [hm0]
              exact withA (b := 0) (off := 0) 0 0 rfl ⟨fun y hy => (by cases hy), fun i y hy => (by simp at hy)⟩ (fun h => by omega) (fun h => by omega) (by omega) x
            · cases e1
              have hac := acs_of_row hV hin2
              exact withA mm cap2 (by rw [HMM.out]) hac (fun _ => rfl) (fun _ => block_lt hg) (by have := HML.out; omega) x
          obtain ⟨MM, hMM⟩ : ∃ MM, (insA (srt (l.take k)) x).length = MM := ⟨_, rfl⟩
          have HM2 := hide hMM
          rw [hMM] at HINS
          clear hMM
          have HXB : Hid (∀ V : World, W3.heap[wr.heap.size]? = V.heap[wr.heap.size]? → V.cell? ⟨wr.heap.size, 0, none⟩ = some (.int .u64 (x.id : Int)) ∧ V.cell? ⟨wr.heap.size, 1, none⟩ = some (.int .u64 (x.ow : Int)) ∧ V.cell? ⟨wr.heap.size, 2, none⟩ = some (.int .u64 (x.ba : Int)) ∧ V.cell? ⟨wr.heap.size, 3, none⟩ = some (.int .u64 (x.cp : Int)) ∧ wr.heap.size < V.heap.size) := fun V hV => by
            have hC := hV.symm.trans ((HB3.out.block _ (block_lt C2.out)).trans C2.out)
            exact ⟨block_cell hC 0, block_cell hC 1, block_cell hC 2, block_cell hC 3, block_lt hC⟩
          have HTP : Hid (wr.heap.size ≠ p) := fun e => by
            have h1 := (HB3.out.block _ (block_lt C2.out)).trans C2.out
            rw [e, HBK.out] at h1
            cases h1
          have HPW := hide HS.out.hp
          clear HS HTB C2 HB2 HIN HX HB3
          generalize (x.id : Int) = X0 at *
          generalize (x.ow : Int) = X1 at *
          generalize (x.ba : Int) = X2 at *
          generalize (x.cp : Int) = X3 at *
          generalize hSI : (sumA (l.take k) : Int) = SI at *
          generalize wr.heap.size = tb at *
          by_cases e0 : X0 = 0
          · have HBD := hide (HF0.out e0)
            have g0 : (X0 == 0) = true := by simp [e0]
            clear HF0 HF1 HF2 HF3 HF4 e0
            have HNO1 := hide (HNO.out 40 (k : Int) W3)
            have HFB := hide (HFV.out W3 (Below.refl _ _))
            go_wp2_with fail
            refine HNO1.out.mono ?_
            rintro e w5 ⟨fo, fc, rfl, G5⟩
            obtain ⟨b5, o5, hf5, bb5⟩ := G5.out
            have r5 := HFB.out.1.kept bb5
            have B5 := hide (HFB.out.2.trans (bb5.mono HFB.out.2.size))
            have FIN := hide (box_finA (w := w) r5 (Nat.le_refl _) hf5 B5.out)
            have y0 := block_cell r5 0
            have y1 := block_cell r5 1
            have g0 := block_free r5 0
            have g1 := block_free r5 1
            simp at y0 y1
            have hl5 := block_lt r5
            clear r5 hf5 B5 bb5 G5 HNO1 HFB
            go_wp2
            refine bodyPost_ret (v := .tuple #[.pointer none, .agg #[.slice fo 1 fc, .int .i64 40]]) (by simp [results, Try.results10, go_sem, y0, y1]) rfl ?_
            obtain ⟨h1, h2, -⟩ := FIN.out (.slice fo 1 fc) (.int .i64 40)
            exact ⟨_, fo, [⟨ledgerN, (k : Int)⟩], fc, 40, rfl, h1, h2, .inr (.inl ⟨by have := HN.out; omega, k, 40, HBD.out, rfl, rfl, rfl⟩)⟩
          have g0 : (X0 == 0) = false := by simp [e0]
          cases t with
          | true =>
            have HBD := hide (HF1.out e0 rfl)
            clear HF0 HF1 HF2 HF3 HF4 e0
            have HNO1 := hide (HNO.out 41 (k : Int) W3)
            have HFB := hide (HFV.out W3 (Below.refl _ _))
            go_wp2_with fail
            refine HNO1.out.mono ?_
            rintro e w5 ⟨fo, fc, rfl, G5⟩
            obtain ⟨b5, o5, hf5, bb5⟩ := G5.out
            have r5 := HFB.out.1.kept bb5
            have B5 := hide (HFB.out.2.trans (bb5.mono HFB.out.2.size))
            have FIN := hide (box_finA (w := w) r5 (Nat.le_refl _) hf5 B5.out)
            have y0 := block_cell r5 0
            have y1 := block_cell r5 1
            have g0 := block_free r5 0
            have g1 := block_free r5 1
            simp at y0 y1
            have hl5 := block_lt r5
            clear r5 hf5 B5 bb5 G5 HNO1 HFB
            go_wp2
            refine bodyPost_ret (v := .tuple #[.pointer none, .agg #[.slice fo 1 fc, .int .i64 41]]) (by simp [results, Try.results10, go_sem, y0, y1]) rfl ?_
            obtain ⟨h1, h2, -⟩ := FIN.out (.slice fo 1 fc) (.int .i64 41)
            exact ⟨_, fo, [⟨ledgerN, (k : Int)⟩], fc, 41, rfl, h1, h2, .inr (.inl ⟨by have := HN.out; omega, k, 41, HBD.out, rfl, rfl, rfl⟩)⟩
          | false =>
          by_cases e3 : X3 < X2
          · have HBD := hide (HF2.out e0 rfl e3)
            have g3 : decide (X2 > X3) = true := decide_eq_true e3
            clear HF0 HF1 HF2 HF3 HF4 e0 e3
            have HNO1 := hide (HNO.out 47 (k : Int) W3)
            have HFB := hide (HFV.out W3 (Below.refl _ _))
            go_wp2_with fail
            refine HNO1.out.mono ?_
            rintro e w5 ⟨fo, fc, rfl, G5⟩
            obtain ⟨b5, o5, hf5, bb5⟩ := G5.out
            have r5 := HFB.out.1.kept bb5
            have B5 := hide (HFB.out.2.trans (bb5.mono HFB.out.2.size))
            have FIN := hide (box_finA (w := w) r5 (Nat.le_refl _) hf5 B5.out)
            have y0 := block_cell r5 0
            have y1 := block_cell r5 1
            have g0 := block_free r5 0
            have g1 := block_free r5 1
            simp at y0 y1
            have hl5 := block_lt r5
            clear r5 hf5 B5 bb5 G5 HNO1 HFB
            go_wp2
            refine bodyPost_ret (v := .tuple #[.pointer none, .agg #[.slice fo 1 fc, .int .i64 47]]) (by simp [results, Try.results10, go_sem, y0, y1]) rfl ?_
            obtain ⟨h1, h2, -⟩ := FIN.out (.slice fo 1 fc) (.int .i64 47)
            exact ⟨_, fo, [⟨ledgerN, (k : Int)⟩], fc, 47, rfl, h1, h2, .inr (.inl ⟨by have := HN.out; omega, k, 47, HBD.out, rfl, rfl, rfl⟩)⟩
          have g3 : decide (X2 > X3) = false := decide_eq_false e3
          obtain ⟨z, hz⟩ : ∃ z, decide (X2 > 18446744073709551615 - SI) = z := ⟨_, rfl⟩
          rw [hz] at HAB
          have HZ := hide hz
          have HE0 := hide e0
          have HE3 := hide e3
          clear hz e0 e3
          go_upto_region 19 with fail
          refine region_assign (fun V => Hid (V = W3.drew)) [(60, .pointer (some ⟨p, 0, none⟩)), (61, .pointer (some ⟨p, 0, none⟩)), (62, .pointer (some ⟨p, 3, none⟩)), (63, .int .u64 SI), (64, .pointer (some ⟨tb, 2, none⟩)), (65, .int .u64 X2), (66, .bool z), (59, .bool z)] _ (by kernel_rfl) (by kernel_rfl) (by kernel_rfl) (by kernel_rfl) rfl (show W3.drew = _ from rfl) ?_ (fun V3 HV3 => ?_)
          · have u2 : W3.drew.cell? ⟨tb, 2, none⟩ = some (.int .u64 X2) := t2
            have u3 : W3.drew.cell? ⟨p, 3, none⟩ = some (.int .u64 SI) := p3
            have ul : tb < W3.drew.heap.size := tl
            have up : p < W3.drew.heap.size := pl
            simp only [putAll, Act.put, List.setIfInBounds_toArray, List.set_cons_zero, List.set_cons_succ]
            repeat' (first | exact AllTo.nil | refine AllTo.cons ?_ ?_)
            all_goals first
              | (refine stepTo_yes (by rfl) (fun V hV K hK => ?_)
                 have e : V = W3.drew := hV.out
                 subst e
                 go_simp
                 first
                   | exact hK.out _ hV
                   | (go_at_call 23; refine (HAB.out _).mono ?_; rintro e V' ⟨rfl, rfl⟩; exact hK.out _ hV))
          simp only [putAll, Act.put, List.setIfInBounds_toArray, List.set_cons_zero, List.set_cons_succ]
          have e9 : V3 = W3.drew := HV3.out
          rw [e9]
          clear e9 HV3 HAB
          cases z with
          | true =>
            have HBD := hide (HF3.out HE0.out rfl HE3.out (of_decide_eq_true HZ.out))
            clear HF0 HF1 HF2 HF3 HF4
            have HNO1 := hide (HNO.out 51 (k : Int) W3.drew)
            have HFB := hide (HFV.out W3.drew ((Below.refl _ _).drew))
            go_wp2_with fail
            refine HNO1.out.mono ?_
            rintro e w5 ⟨fo, fc, rfl, G5⟩
            obtain ⟨b5, o5, hf5, bb5⟩ := G5.out
            have r5 := HFB.out.1.kept bb5
            have B5 := hide (HFB.out.2.trans (bb5.mono HFB.out.2.size))
            have FIN := hide (box_finA (w := w) r5 (Nat.le_refl _) hf5 B5.out)
            have y0 := block_cell r5 0
            have y1 := block_cell r5 1
            have g0 := block_free r5 0
            have g1 := block_free r5 1
            simp at y0 y1
            have hl5 := block_lt r5
            clear r5 hf5 B5 bb5 G5 HNO1 HFB
            go_wp2
            refine bodyPost_ret (v := .tuple #[.pointer none, .agg #[.slice fo 1 fc, .int .i64 51]]) (by simp [results, Try.results10, go_sem, y0, y1]) rfl ?_
            obtain ⟨h1, h2, -⟩ := FIN.out (.slice fo 1 fc) (.int .i64 51)
            exact ⟨_, fo, [⟨ledgerN, (k : Int)⟩], fc, 51, rfl, h1, h2, .inr (.inl ⟨by have := HN.out; omega, k, 51, HBD.out, rfl, rfl, rfl⟩)⟩
          | false =>
          obtain ⟨hgd, hsb⟩ := HF4.out HE0.out rfl HE3.out (of_decide_eq_false HZ.out)
          have HGD := hide hgd
          have HSB := hide hsb
          have hwS : IntKind.u64.wrap (SI + X2) = SI + X2 := IntWalk.u64_in _ ⟨by have := KSI.out; omega, by have := KSI.out; omega⟩
          obtain ⟨W4, hW4⟩ : ∃ W4, W3.drew = W4 := ⟨_, rfl⟩
          have HBK4 : Hid (W4.drew.heap[p]? = some (.cells #[.slice ao2 mm cap2, .slice none 0 0, .slice none 0 0, .int .u64 SI, .int .u64 1, .slice none 0 0, .slice none 0 0] 35 (0, 0))) := by rw [← hW4]; exact HBK.out
          have HRW4 : Hid (W4.drew.ownsRow w.heap.size 37 4 (.slice ao2 mm cap2) mm (acells (srt (l.take k)))) := by rw [← hW4]; exact HRW.out
          have HX4 : Hid (W3.heap[tb]? = W4.drew.heap[tb]?) := by rw [← hW4]; exact (rfl : W3.heap[tb]? = W3.heap[tb]?)
          have HFV4 : Hid (FBox w.heap.size W4.drew ∧ Below w.heap.size w W4.drew) := by rw [← hW4]; exact HFV.out _ ((Below.refl _ W3).drew.drew)
          rw [hW4]
          clear hW4 hgd hsb HF0 HF1 HF2 HF3 HF4 HFV HBK HRW t0 t1 t2 t3 tl p3 pl HZ HE0 HE3 HSR
          obtain ⟨W5, hW5⟩ : ∃ W5, W4.drew.setCell ⟨p, 3, none⟩ (.int .u64 (SI + X2)) = W5 := ⟨_, rfl⟩
          have g5 : W4.drew.grownBy W5 (some p) := by rw [← hW5]; exact grown_set _ _ _ _
          have HBK5 : Hid (W5.heap[p]? = some (.cells #[.slice ao2 mm cap2, .slice none 0 0, .slice none 0 0, .int .u64 (SI + X2), .int .u64 1, .slice none 0 0, .slice none 0 0] 35 (0, 0))) := by
            have h := heap_setCell_same W4.drew p 3 _ _ (.int .u64 (SI + X2)) HBK4.out
            rw [hW5] at h
            exact h
          have HRW5 : Hid (W5.ownsRow w.heap.size 37 4 (.slice ao2 mm cap2) mm (acells (srt (l.take k)))) := HRW4.out.kept g5 (.inr (row_ne_cells HRW4.out HBK4.out (by decide)))
          have HX5 : Hid (W3.heap[tb]? = W5.heap[tb]?) := hide (HX4.out.trans (g5.block tb (HXB.out _ HX4.out).2.2.2.2 (fun e => HTP.out (Option.some.inj e))).symm)
          have HFV5 : Hid (FBox w.heap.size W5 ∧ Below w.heap.size w W5) := ⟨(g5.block _ (block_lt HFV4.out.1) (fun e => by
            have h1 : W4.drew.heap[w.heap.size]? = _ := HFV4.out.1
            rw [Option.some.inj e, HBK4.out] at h1
            cases h1)).trans HFV4.out.1, HFV4.out.2.grown g5 HFV4.out.2.size (fun j e => by cases e; exact HPW.out)⟩
          obtain ⟨_, _, v2, _, vl⟩ := HXB.out _ HX4.out
          have v3 : W4.drew.cell? ⟨p, 3, none⟩ = some (.int .u64 SI) := block_cell HBK4.out 3
          have vp : p < W4.drew.heap.size := block_lt HBK4.out
          have fz : W4.drew.frozen? ⟨p, 3, none⟩ = false := block_free HBK4.out 3
          have HW5 := hide hW5
          clear g5 HBK4 HRW4 HX4 HFV4 hW5
          go_upto_region 21 with fail
          refine region_assignP (fun d V => Hid (V = if d = true then W5 else W4.drew)) 9 [6, 3, 5] [(69, .pointer (some ⟨p, 0, none⟩)), (70, .pointer (some ⟨p, 0, none⟩)), (71, .pointer (some ⟨p, 3, none⟩)), (72, .int .u64 SI), (73, .pointer (some ⟨tb, 2, none⟩)), (74, .int .u64 X2), (75, .int .u64 (SI + X2)), (76, .pointer (some ⟨p, 0, none⟩)), (77, .pointer (some ⟨p, 3, none⟩))] _ (by kernel_rfl) (by decide) (by kernel_rfl) (by kernel_rfl) (by kernel_rfl) (by kernel_rfl) rfl (show W4.drew = _ from rfl) ?_ (fun V9 HV9 => ?_)
          · simp only [putAll, Act.put, List.setIfInBounds_toArray, List.set_cons_zero, List.set_cons_succ]
            repeat' (first | exact AllPre.nil | refine AllPre.at_ rfl ?_ ?_ | refine AllPre.pre (by decide) (by decide) ?_ ?_ | refine AllPre.off (by decide) (by decide) ?_ ?_)
            all_goals first
              | (intro d
                 refine stepTo_yes (by rfl) (fun V hV K hK => ?_)
                 go_simp
                 exact hK.out _ hV)
              | (refine stepTo_yes (by rfl) (fun V hV K hK => ?_)
                 have e : V = W4.drew := hV.out
                 subst e
                 go_simp
                 exact hK.out _ hV)
              | (refine ⟨by rfl, fun V hV K hK => ?_⟩
                 have e : V = W4.drew := hV.out
                 subst e
                 go_simp
                 exact hK.out _ HW5.out)
          simp only [putAll, Act.put, List.setIfInBounds_toArray, List.set_cons_zero, List.set_cons_succ]
          have e9 : V9 = W5 := HV9.out
          rw [e9]
          clear e9 HV9 v2 vl v3 vp fz hwS HW5
          have HY0 : Hid (Below W5.heap.size W5 W5.drew) := hide ((Below.refl _ W5).drew)
          have KBK : Hid (∀ V, Hid (Below W5.heap.size W5 V) → V.heap[p]? = some (.cells #[.slice ao2 mm cap2, .slice none 0 0, .slice none 0 0, .int .u64 (SI + X2), .int .u64 1, .slice none 0 0, .slice none 0 0] 35 (0, 0))) := fun V hV => (hV.out.block _ (block_lt HBK5.out)).trans HBK5.out
          have KS1 : Hid (∀ V, Hid (Below W5.heap.size W5 V) → V.cell? ⟨p, 0, none⟩ = some (.slice ao2 mm cap2)) := fun V hV => block_cell (KBK.out V hV) 0
          have KF : Hid (∀ V, Hid (Below W5.heap.size W5 V) → V.frozen? ⟨p, 0, none⟩ = false) := fun V hV => block_free (KBK.out V hV) 0
          have KXT : Hid (∀ V, Hid (Below W5.heap.size W5 V) → W3.heap[tb]? = V.heap[tb]?) := fun V hV => HX5.out.trans (hV.out.block tb (HXB.out _ HX5.out).2.2.2.2).symm
          have KS2 : Hid (∀ V, Hid (Below W5.heap.size W5 V) → V.cell? ⟨tb, 0, none⟩ = some (.int .u64 X0) ∧ V.cell? ⟨tb, 1, none⟩ = some (.int .u64 X1) ∧ V.cell? ⟨tb, 2, none⟩ = some (.int .u64 X2) ∧ V.cell? ⟨tb, 3, none⟩ = some (.int .u64 X3) ∧ tb < V.heap.size ∧ p < V.heap.size) := fun V hV => by
            obtain ⟨a0, a1, a2, a3, a4⟩ := HXB.out V (KXT.out V hV)
            exact ⟨a0, a1, a2, a3, a4, block_lt (KBK.out V hV)⟩
          have KW : Hid (∀ V, Hid (Below W5.heap.size W5 V) → Calls Try.prog 24 #[.slice ao2 mm cap2, .agg #[.int .u64 X0, .int .u64 X1, .int .u64 X2, .int .u64 X3]] V fun e w' => ∃ ao' cap', e = .returned (.slice ao' MM cap') ∧ Hid (w'.ownsRow V.heap.size 37 4 (.slice ao' MM cap') MM (acells (insA (srt (l.take k)) x)) ∧ Below V.heap.size V w')) := fun V hV => HINS.out V (row_quietT HRW5.out (below_none hV.out))
          have KN6 : Hid (∀ (V : World) ao6 cap6 (V6 : World), Hid (Below W5.heap.size W5 V) → Hid (V6.ownsRow V.heap.size 37 4 (.slice ao6 MM cap6) MM (acells (insA (srt (l.take k)) x)) ∧ Below V.heap.size V V6) → Hid (Hid (Below W5.heap.size W5 V6) ∧ V6.ownsRow w.heap.size 37 4 (.slice ao6 MM cap6) MM (acells (insA (srt (l.take k)) x)))) := fun V ao6 cap6 V6 hV h6 => ⟨hV.out.trans (h6.out.2.mono hV.out.size), row_lower h6.out.1 (Nat.le_trans HFV5.out.2.size hV.out.size)⟩
          have KN9 : Hid (∀ ao6 cap6 (V6 : World), Hid (Hid (Below W5.heap.size W5 V6) ∧ V6.ownsRow w.heap.size 37 4 (.slice ao6 MM cap6) MM (acells (insA (srt (l.take k)) x))) → Hid (Rn w l p (k + 1) (V6.setCell ⟨p, 0, none⟩ (.slice ao6 MM cap6)))) := fun ao6 cap6 V6 h6 => by
            have hg := grown_set V6 p 0 (.slice ao6 MM cap6)
            have hbk := KBK.out V6 h6.out.1
            have hb6 := HFV5.out.2.trans (h6.out.1.out.mono HFV5.out.2.size)
            have hf6 := HFV5.out.1.kept h6.out.1.out
            refine ⟨hb6.grown hg hb6.size (fun j e => by cases e; exact HPW.out), (hg.block _ (block_lt hf6) (fun e => by
              have h1 : V6.heap[w.heap.size]? = _ := hf6
              rw [Option.some.inj e, hbk] at h1
              cases h1)).trans hf6, ⟨⟨ao6, cap6, ?_, ?_⟩⟩, HGD.out, HSB.out, HPW.out⟩
            · rw [KRT.out, HM2.out, KSI.out]
              exact heap_setCell_same V6 p 0 _ _ (.slice ao6 MM cap6) hbk
            · rw [KRT.out, HM2.out]
              exact h6.out.2.kept hg (.inr (row_ne_cells h6.out.2 hbk (by decide)))
          have KS2b : Hid (∀ ao6 cap6 (V6 : World), Hid (Hid (Below W5.heap.size W5 V6) ∧ V6.ownsRow w.heap.size 37 4 (.slice ao6 MM cap6) MM (acells (insA (srt (l.take k)) x))) → (V6.setCell ⟨p, 0, none⟩ (.slice ao6 MM cap6)).cell? ⟨tb, 0, none⟩ = some (.int .u64 X0) ∧ (V6.setCell ⟨p, 0, none⟩ (.slice ao6 MM cap6)).cell? ⟨tb, 1, none⟩ = some (.int .u64 X1) ∧ (V6.setCell ⟨p, 0, none⟩ (.slice ao6 MM cap6)).cell? ⟨tb, 2, none⟩ = some (.int .u64 X2) ∧ (V6.setCell ⟨p, 0, none⟩ (.slice ao6 MM cap6)).cell? ⟨tb, 3, none⟩ = some (.int .u64 X3) ∧ tb < (V6.setCell ⟨p, 0, none⟩ (.slice ao6 MM cap6)).heap.size ∧ p < (V6.setCell ⟨p, 0, none⟩ (.slice ao6 MM cap6)).heap.size) := fun ao6 cap6 V6 h6 => by
            have hg := grown_set V6 p 0 (.slice ao6 MM cap6)
            have e := KXT.out V6 h6.out.1
            obtain ⟨a0, a1, a2, a3, a4⟩ := HXB.out _ (e.trans (hg.block tb (HXB.out V6 e).2.2.2.2 (fun e => HTP.out (Option.some.inj e))).symm)
            exact ⟨a0, a1, a2, a3, a4, Nat.lt_of_lt_of_le (block_lt (KBK.out V6 h6.out.1)) hg.size⟩
          clear HBK5 HRW5 HX5 HFV5 HXB HINS KXT HTP HPW HGD HSB KSI KRT HM2 KSU HE9 HMM HML
          go_upto_region 22 with fail
          refine wp_region_L 9 (fun V => V.cell? ⟨p, 0, none⟩ = some (.slice ao2 mm cap2)) (fun V => V.cell? ⟨tb, 0, none⟩ = some (.int .u64 X0) ∧ V.cell? ⟨tb, 1, none⟩ = some (.int .u64 X1) ∧ V.cell? ⟨tb, 2, none⟩ = some (.int .u64 X2) ∧ V.cell? ⟨tb, 3, none⟩ = some (.int .u64 X3) ∧ tb < V.heap.size ∧ p < V.heap.size) (by kernel_rfl) (KS1.out _ HY0) (KS2.out _ HY0) (fun hS0 => ?_)
          refine wpAnyL_take (i := 0) (oi := { dst := some 78, op := Op.move (Operand.tmp 4), type := 24, pos := "ledger.go:206", after := #[], guard := none }) (v := .pointer (some ⟨p, 0, none⟩)) rfl (by decide) (by kernel_rfl) (by kernel_rfl) (by kernel_rfl) (fun _ _ _ h => h) (Or.inl ⟨by rfl, fun w2 hSw => ?_⟩) hS0 (fun hS1 => ?_)
          · obtain ⟨r0, r1, r2, r3, r4, r5⟩ := hSw
            go_simp
          simp only [Act.put, List.setIfInBounds_toArray, List.set_cons_zero, List.set_cons_succ]
          clear hS0
          refine wpAnyL_take (i := 1) (oi := { dst := some 79, op := Op.move (Operand.tmp 4), type := 24, pos := "ledger.go:206", after := #[], guard := none }) (v := .pointer (some ⟨p, 0, none⟩)) rfl (by decide) (by kernel_rfl) (by kernel_rfl) (by kernel_rfl) (fun _ _ _ h => h) (Or.inl ⟨by rfl, fun w2 hSw => ?_⟩) hS1 (fun hS2 => ?_)
          · obtain ⟨r0, r1, r2, r3, r4, r5⟩ := hSw
            go_simp
          simp only [Act.put, List.setIfInBounds_toArray, List.set_cons_zero, List.set_cons_succ]
          clear hS1
          refine wpAnyL_take (i := 2) (oi := { dst := some 80, op := Op.nilCheck (Operand.tmp 79), type := 0, pos := "ledger.go:206", after := #[{ on := 1, ground := Ground.data }], guard := none }) (v := .pointer (some ⟨p, 0, none⟩)) rfl (by decide) (by kernel_rfl) (by kernel_rfl) (by kernel_rfl) (fun _ _ _ h => h) (Or.inl ⟨by rfl, fun w2 hSw => ?_⟩) hS2 (fun hS3 => ?_)
          · obtain ⟨r0, r1, r2, r3, r4, r5⟩ := hSw
            go_simp
          simp only [Act.put, List.setIfInBounds_toArray, List.set_cons_zero, List.set_cons_succ]
          clear hS2
          refine wpAnyL_take (i := 3) (oi := { dst := some 81, op := Op.fieldAddr 35 (Operand.tmp 80) 0, type := 0, pos := "ledger.go:206", after := #[{ on := 2, ground := Ground.data }], guard := none }) (v := .pointer (some ⟨p, 0, none⟩)) rfl (by decide) (by kernel_rfl) (by kernel_rfl) (by kernel_rfl) (fun _ _ _ h => h) (Or.inl ⟨by rfl, fun w2 hSw => ?_⟩) hS3 (fun hS4 => ?_)
          · obtain ⟨r0, r1, r2, r3, r4, r5⟩ := hSw
            go_simp
          simp only [Act.put, List.setIfInBounds_toArray, List.set_cons_zero, List.set_cons_succ]
          clear hS3
          refine wpAnyL_take (i := 5) (oi := { dst := some 83, op := Op.load 37 (Operand.tmp 6), type := 37, pos := "ledger.go:206", after := #[], guard := none }) (v := .agg #[.int .u64 X0, .int .u64 X1, .int .u64 X2, .int .u64 X3]) rfl (by decide) (by kernel_rfl) (by kernel_rfl) (by kernel_rfl) (fun _ _ _ h => h) (Or.inl ⟨by rfl, fun w2 hSw => ?_⟩) hS4 (fun hS5 => ?_)
          · obtain ⟨r0, r1, r2, r3, r4, r5⟩ := hSw
            go_simp
          simp only [Act.put, List.setIfInBounds_toArray, List.set_cons_zero, List.set_cons_succ]
          clear hS4
          refine wpAnyL_take1 (i := 4) (oi := { dst := some 82, op := Op.load 22 (Operand.tmp 81), type := 22, pos := "ledger.go:206", after := #[{ on := 3, ground := Ground.data }], guard := none }) (v := .slice ao2 mm cap2) rfl (by decide) (by kernel_rfl) (by kernel_rfl) (by kernel_rfl) (fun _ _ _ h => h) (Or.inl ⟨by rfl, fun w2 hSw => ?_⟩) hS5 (by kernel_rfl) (og := { dst := none, op := Op.store 22 (Operand.tmp 86) (Operand.tmp 84), type := 0, pos := "ledger.go:206", after := #[{ on := 8, ground := Ground.data }, { on := 6, ground := Ground.data }, { on := 6, ground := Ground.chain }, { on := 0, ground := Ground.phase }, { on := 1, ground := Ground.phase }, { on := 2, ground := Ground.phase }, { on := 3, ground := Ground.phase }, { on := 4, ground := Ground.phase }, { on := 5, ground := Ground.phase }, { on := 6, ground := Ground.phase }], guard := none }) rfl (by kernel_rfl) (fun hS6 => ?_)
          · go_simp
          simp only [Act.put, List.setIfInBounds_toArray, List.set_cons_zero, List.set_cons_succ]
          clear hS5
          refine wpAnyL_one (i := 6) (o := { dst := some 84, op := Op.call { callee := Callee.value (Operand.func 24), args := #[Operand.tmp 82, Operand.tmp 83], argTypes := #[22, 37] }, type := 22, pos := "ledger.go:206", after := #[{ on := 4, ground := Ground.data }, { on := 5, ground := Ground.data }], guard := none }) (by kernel_rfl) rfl (fun K hK => ?_)
          clear hS6
          go_simp
          go_at_call 24
          refine (KW.out _ HY0).mono ?_
          rintro e V6 ⟨ao6, cap6, rfl, G6⟩
          have HY6 := KN6.out _ _ _ _ HY0 G6
          refine hK.out _ _ ⟨fun _ => KS1.out _ HY6.out.1, KS2.out _ HY6.out.1⟩ ?_
          clear hK K HY0
          have k1 := KS1.out _ HY6.out.1
          obtain ⟨-, -, -, -, -, k2⟩ := KS2.out _ HY6.out.1
          have kf := KF.out _ HY6.out.1
          refine wpAnyL_one (i := 7) (o := { dst := some 85, op := Op.nilCheck (Operand.tmp 78), type := 0, pos := "ledger.go:206", after := #[{ on := 0, ground := Ground.data }, { on := 0, ground := Ground.phase }, { on := 1, ground := Ground.phase }, { on := 2, ground := Ground.phase }, { on := 3, ground := Ground.phase }, { on := 4, ground := Ground.phase }, { on := 5, ground := Ground.phase }, { on := 6, ground := Ground.phase }], guard := none }) (by kernel_rfl) rfl (fun K hK => ?_)
          go_simp
          refine hK.out _ _ ⟨fun _ => KS1.out _ HY6.out.1, KS2.out _ HY6.out.1⟩ ?_
          clear hK K
          refine wpAnyL_one (i := 8) (o := { dst := some 86, op := Op.fieldAddr 35 (Operand.tmp 85) 0, type := 0, pos := "ledger.go:206", after := #[{ on := 7, ground := Ground.data }, { on := 0, ground := Ground.phase }, { on := 1, ground := Ground.phase }, { on := 2, ground := Ground.phase }, { on := 3, ground := Ground.phase }, { on := 4, ground := Ground.phase }, { on := 5, ground := Ground.phase }, { on := 6, ground := Ground.phase }], guard := none }) (by kernel_rfl) rfl (fun K hK => ?_)
          go_simp
          refine hK.out _ _ ⟨fun _ => KS1.out _ HY6.out.1, KS2.out _ HY6.out.1⟩ ?_
          clear hK K
          refine wpAnyL_one (i := 9) (o := { dst := none, op := Op.store 22 (Operand.tmp 86) (Operand.tmp 84), type := 0, pos := "ledger.go:206", after := #[{ on := 8, ground := Ground.data }, { on := 6, ground := Ground.data }, { on := 6, ground := Ground.chain }, { on := 0, ground := Ground.phase }, { on := 1, ground := Ground.phase }, { on := 2, ground := Ground.phase }, { on := 3, ground := Ground.phase }, { on := 4, ground := Ground.phase }, { on := 5, ground := Ground.phase }, { on := 6, ground := Ground.phase }], guard := none }) (by kernel_rfl) rfl (fun K hK => ?_)
          go_simp
          have HY9 := KN9.out _ _ _ HY6
          refine hK.out _ _ ⟨fun e => absurd e (by decide), KS2b.out _ _ _ HY6⟩ ?_
          clear hK K
          refine wpAnyL_done (by kernel_rfl) ?_ _
          clear KS1 KS2 KW KN6 KF KN9 KS2b KBK HY6 k1 k2 kf
          go_wp2
          go_roundw
          case rel => exact ⟨k + 1, by omega, by go_num, HY9⟩
          case measure => simp [intOf]; omega
    · obtain rfl : n = k := by omega
      have e : l.take n = l := by rw [HN.out, List.take_length]
      have hbk := HS.out.bk
      rw [e] at hbk
      have HBK := hide hbk
      have HGD : Hid (Good l l.length) := by rw [← HN.out]; exact HS.out.good
      have HFB := hide HS.out.fb
      have HBW := hide HS.out.bel
      have HNN : Hid (Calls Try.prog 25 #[] wr fun e w' => ∃ ao cap, e = .returned (.agg #[.slice ao 0 cap, .int .i64 0]) ∧ Hid (∃ b off, FV w'.heap.size w' ao [] b off ∧ Below wr.heap.size wr w')) := none0 wr
      clear HS e hbk
      go_wp2_with fail
      refine HNN.out.mono ?_
      rintro e w5 ⟨fo, fc, rfl, G5⟩
      obtain ⟨b5, o5, hf5, bb5⟩ := G5.out
      have r5 := HFB.out.kept bb5
      have B5 := hide (HBW.out.trans (bb5.mono HBW.out.size))
      have FIN := hide (box_finA (w := w) r5 (Nat.le_refl _) hf5 B5.out)
      have KBK := hide (HBK.out.kept bb5)
      have KR5 := hide r5
      have y0 := block_cell r5 0
      have y1 := block_cell r5 1
      have g0 := block_free r5 0
      have g1 := block_free r5 1
      simp at y0 y1
      have hl5 := block_lt r5
      clear r5 hf5 B5 bb5 G5 HNN HBK
      go_wp2
      refine bodyPost_ret (v := .tuple #[.pointer (some ⟨p, 0, none⟩), .agg #[.slice fo 0 fc, .int .i64 0]]) (by simp [results, Try.results10, go_sem, y0, y1]) rfl ?_
      obtain ⟨h1, h2, h3⟩ := FIN.out (.slice fo 0 fc) (.int .i64 0)
      exact ⟨_, fo, [], fc, 0, rfl, h1, h2, .inr (.inr ⟨by have := HN.out; omega, HGD.out, rfl, rfl, p, rfl, KBK.out.other h3 KR5.out⟩)⟩
end Go.Proofs.Ytmbclemicfffoaa
