import Derived.Test.YthfbimbadkmhhaaMGH
import Derived.Shelf.Bytes.SlEqualAll
import Derived.Lib.SlBytesConst
namespace Go.Proofs.Ythfbimbadkmhhaa
open Go.RowKit Crc

def ints (B : List Nat) : List Int := B.map fun (x : Nat) => (x : Int)
theorem ints_len (B : List Nat) : (ints B).length = B.length := by simp [ints]
theorem ints_getD (B : List Nat) (i : Nat) : (ints B).getD i 0 = ((B.getD i 0 : Nat) : Int) := by
  unfold ints
  rw [List.getD_eq_getElem?_getD, List.getD_eq_getElem?_getD, List.getElem?_map]
  cases B[i]? <;> rfl
theorem Shows.bytesIn {lim : Nat} {w : World} {ao : Option Addr} {n cap : Nat} {B : List Nat} (h : Shows lim w ao n cap B) : Lib.BytesIn w ao n (ints B) := by
  obtain ⟨h1, h2, h3, h4, b, off, h5, h6, h7⟩ := h
  intro hn
  exact ⟨b, off, h5 hn, fun i hi => by rw [ints_getD]; exact h7 i hi⟩
theorem bytesOf_inj : ∀ (A B : List Nat), (∀ x ∈ A, x < 256) → (∀ x ∈ B, x < 256) → Lib.bytesOf (ints A) = Lib.bytesOf (ints B) → A = B := by
  intro A
  induction A with
  | nil => intro B _ _ h; cases B with | nil => rfl | cons b r => simp [ints, Lib.bytesOf] at h
  | cons a r ih =>
    intro B hA hB h
    cases B with
    | nil => simp [ints, Lib.bytesOf] at h
    | cons b s =>
      unfold ints Lib.bytesOf at h
      simp only [List.map_cons, List.cons.injEq] at h
      have h1 := congrArg UInt8.toNat h.1
      have ha := hA a (by simp)
      have hb := hB b (by simp)
      simp only [Int.toNat_natCast] at h1
      rw [UInt8.toNat_ofNat_of_lt' (by simpa using ha), UInt8.toNat_ofNat_of_lt' (by simpa using hb)] at h1
      rw [h1, ih s (fun x hx => hA x (by simp [hx])) (fun x hx => hB x (by simp [hx])) h.2]

end Go.Proofs.Ythfbimbadkmhhaa
namespace Go.Proofs.Ythfbimbadkmhhaa
open Go.RowKit Crc

theorem val_dec (a b : Rq) : decide (a.val = b.val) = (decide (a.cl = b.cl) && decide (a.sq = b.sq) && decide (a.C = b.C)) := by
  unfold Rq.val
  by_cases h1 : a.cl = b.cl <;> by_cases h2 : a.sq = b.sq <;> by_cases h3 : a.C = b.C <;> simp [h1, h2, h3]

theorem take_vals {rs1 rs2 : List Rq} {k : Nat} {r1 r2 : Rq} (h1 : rs1[k]? = some r1) (h2 : rs2[k]? = some r2) (h : (rs1.take k).map Rq.val = (rs2.take k).map Rq.val) (e : r1.val = r2.val) : (rs1.take (k + 1)).map Rq.val = (rs2.take (k + 1)).map Rq.val := by
  rw [List.take_add_one, List.take_add_one, h1, h2, List.map_append, List.map_append, h]
  simp [e]
theorem vals_ne {rs1 rs2 : List Rq} {k : Nat} {r1 r2 : Rq} (h1 : rs1[k]? = some r1) (h2 : rs2[k]? = some r2) (e : r1.val ≠ r2.val) : rs1.map Rq.val ≠ rs2.map Rq.val := fun h => by
  have h' := congrArg (fun l => l[k]?) h
  simp only [List.getElem?_map, h1, h2, Option.map_some] at h'
  exact e (Option.some.inj h')

end Go.Proofs.Ythfbimbadkmhhaa
namespace Go.Proofs.Ythfbimbadkmhhaa
open Go.RowKit Crc

theorem below_dN {l : Nat} {w w1 : World} (h : Below l w w1) (q : Nat) : Below l w (w1.drewN q) := ⟨h.os, h.tape, h.output, h.size, h.block⟩
theorem getD_ne {A B : List Nat} {k : Nat} (h : A.getD k 0 ≠ B.getD k 0) : A ≠ B := fun e => h (by rw [e])
theorem take_bytes {A B : List Nat} {k : Nat} (hl : A.length = B.length) (hk : k < A.length) (h : A.take k = B.take k) (e : A.getD k 0 = B.getD k 0) : A.take (k + 1) = B.take (k + 1) := by
  rw [take_snoc A k hk, take_snoc B k (by omega), h, e]
set_option maxRecDepth 10000 in
set_option maxHeartbeats 3200000 in
theorem sameBatch_any {w : World} (s1 s2 : Nat) {ro1 ro2 : Option Addr} {rs1 rs2 : List Rq} {b1 off1 b2 off2 : Nat} (n1 n2 rc1 rc2 : Nat) (e1 : rs1.length = n1) (e2 : rs2.length = n2) (h1 : Rqs w.heap.size w ro1 rs1 b1 off1) (h2 : Rqs w.heap.size w ro2 rs2 b2 off2) :
    Calls Try.prog 33 #[.agg #[.int .u64 (s1 : Nat), .slice ro1 n1 rc1], .agg #[.int .u64 (s2 : Nat), .slice ro2 n2 rc2]] w fun e w' => e = .returned (.bool (decide (s1 = s2) && decide (rs1.map Rq.val = rs2.map Rq.val))) ∧ Hid (Below w.heap.size w w') := by
  have hle := h1.le
  rw [e1] at hle
  have HBB : Hid (∀ o o', Below w.heap.size w ((w.alloc o).alloc o')) := fun o o' => (below_alloc1 w o).alloc (by simp) o'
  have H1 := hide h1
  have H2 := hide h2
  have HE1 := hide e1
  have HE2 := hide e2
  clear h1 h2
  by_cases g1 : s1 = s2
  · subst g1
    rw [decide_eq_true (rfl : s1 = s1), Bool.true_and]
    by_cases hne : n1 = n2
    · subst hne
      clear e1 e2
      obtain ⟨W2, hW2⟩ : ∃ W2, (w.alloc (.cells #[.int .u64 (s1 : Nat), .slice ro1 n1 rc1] 40)).alloc (.cells #[.int .u64 (s1 : Nat), .slice ro2 n1 rc2] 40) = W2 := ⟨_, rfl⟩
      have BW : Hid (Below w.heap.size w W2) := by rw [← hW2]; exact HBB.out _ _
      have Q1 : Hid (W2.heap[w.heap.size]? = some (.cells #[.int .u64 (s1 : Nat), .slice ro1 n1 rc1] 40 (0, 0))) := by rw [← hW2]; exact ((World.grownBy_alloc _ _ none).block _ (by simp) (by simp)).trans (alloc_atK w _)
      have Q2 : Hid (W2.heap[w.heap.size + 1]? = some (.cells #[.int .u64 (s1 : Nat), .slice ro2 n1 rc2] 40 (0, 0))) := by
        have h := alloc_atK (w.alloc (.cells #[.int .u64 (s1 : Nat), .slice ro1 n1 rc1] 40)) (.cells #[.int .u64 (s1 : Nat), .slice ro2 n1 rc2] 40)
        rw [hW2, show (w.alloc (.cells #[.int .u64 (s1 : Nat), .slice ro1 n1 rc1] 40)).heap.size = w.heap.size + 1 by simp] at h
        exact h
      have HC1 : Hid (∀ V, Below W2.heap.size W2 V → V.cell? ⟨w.heap.size, 1, none⟩ = some (.slice ro1 n1 rc1) ∧ V.cell? ⟨w.heap.size + 1, 1, none⟩ = some (.slice ro2 n1 rc2)) := fun V hb => ⟨block_cell ((hb.block _ (block_lt Q1.out)).trans Q1.out) 1, block_cell ((hb.block _ (block_lt Q2.out)).trans Q2.out) 1⟩
      have z0 := block_cell Q1.out 0
      have z1 := block_cell Q1.out 1
      have z2 := block_cell Q2.out 0
      have z3 := block_cell Q2.out 1
      simp at z0 z1 z2 z3
      have HW2 := hide hW2
      clear hW2
      go_enter Try.func33, Try.ntmps33
      go_upto_region 1 with fail
      rw [HW2.out]
      clear HW2
      go_wp2
      clear z0 z1 z2 z3
      go_loopw [5, 6, 7, 8] (fun i _ _ _ wr => ∃ k : Nat, k ≤ n1 ∧ i = .int .i64 k ∧ Hid (Below W2.heap.size W2 wr ∧ (rs1.take k).map Rq.val = (rs2.take k).map Rq.val)) (fun i _ _ _ _ => n1 - (intOf i).toNat)
      case atStart => exact ⟨0, by omega, rfl, Below.refl _ _, rfl⟩
      case round =>
        obtain ⟨k, hk, rfl, HS⟩ := hrel
        obtain ⟨m1, m2⟩ := HC1.out wr HS.out.1
        have HBW : Hid (Below w.heap.size w wr) := BW.out.trans (HS.out.1.mono BW.out.size)
        by_cases hlt : k < n1
        · obtain ⟨r1, hr1, _, hok1, hbl1, rfl, a0, a1, a2⟩ := (H1.out.below HBW.out).get (k := k) (by have := HE1.out; omega)
          obtain ⟨r2, hr2, _, hok2, hbl2, rfl, b0, b1', b2'⟩ := (H2.out.below HBW.out).get (k := k) (by have := HE2.out; omega)
          have hbl1' : b1 < wr.heap.size := Nat.lt_of_lt_of_le hbl1 HBW.out.size
          have hbl2' : b2 < wr.heap.size := Nat.lt_of_lt_of_le hbl2 HBW.out.size
          have hw1 : w.heap.size + 1 < wr.heap.size := Nat.lt_of_lt_of_le (block_lt Q2.out) HS.out.1.size
          have hw0 : w.heap.size < wr.heap.size := by omega
          have HT := hide (fun (e : r1.val = r2.val) => take_vals hr1 hr2 HS.out.2 e)
          have HF := hide (fun (e : r1.val ≠ r2.val) => vals_ne hr1 hr2 e)
          have HK1 := hide hok1.hC
          have HK2 := hide hok2.hC
          clear hr1 hr2 hok1 hok2 hbl1 hbl2
          obtain ⟨cl, sq, co, cn, cc, C⟩ := r1
          obtain ⟨cl2, sq2, co2, cn2, cc2, C2⟩ := r2
          simp only at a0 a1 a2 b0 b1' b2'
          have HNO : Hid (¬ (cl = cl2 ∧ sq = sq2 ∧ C = C2) → decide (rs1.map Rq.val = rs2.map Rq.val) = false) := fun h => decide_eq_false (HF.out (fun e => by simp only [Rq.val, Prod.mk.injEq] at e; exact h e))
          have HYES : Hid (cl = cl2 ∧ sq = sq2 ∧ C = C2 → (rs1.take (k + 1)).map Rq.val = (rs2.take (k + 1)).map Rq.val) := fun h => HT.out (by simp only [Rq.val, Prod.mk.injEq]; exact h)
          clear HT HF
          have HAL : Hid (∀ o o', Below wr.heap.size wr ((wr.alloc o).alloc o')) := fun o o' => (below_alloc1 wr o).alloc (by simp) o'
          have HFIN : Hid (∀ W, Below wr.heap.size wr W → Below w.heap.size w W) := fun W hb => HBW.out.trans (hb.mono HBW.out.size)
          by_cases c1 : cl = cl2
          · subst c1
            by_cases c2 : sq = sq2
            · subst c2
              by_cases c3 : cn = cn2
              · subst c3
                go_upto_region 8 with fail
                obtain ⟨W4, hW4⟩ : ∃ W4, (wr.alloc (.cells #[.int .u64 (cl : Int), .int .u64 (sq : Int), .slice co cn cc] 37)).alloc (.cells #[.int .u64 (cl : Int), .int .u64 (sq : Int), .slice co2 cn cc2] 37) = W4 := ⟨_, rfl⟩
                have B4 : Hid (Below wr.heap.size wr W4) := by rw [← hW4]; exact HAL.out _ _
                have P1 : Hid (W4.heap[wr.heap.size]? = some (.cells #[.int .u64 (cl : Int), .int .u64 (sq : Int), .slice co cn cc] 37 (0, 0))) := by rw [← hW4]; exact ((World.grownBy_alloc _ _ none).block _ (by simp) (by simp)).trans (alloc_atK wr _)
                have P2 : Hid (W4.heap[wr.heap.size + 1]? = some (.cells #[.int .u64 (cl : Int), .int .u64 (sq : Int), .slice co2 cn cc2] 37 (0, 0))) := by
                  have h := alloc_atK (wr.alloc (.cells #[.int .u64 (cl : Int), .int .u64 (sq : Int), .slice co cn cc] 37)) (.cells #[.int .u64 (cl : Int), .int .u64 (sq : Int), .slice co2 cn cc2] 37)
                  rw [hW4, show (wr.alloc (.cells #[.int .u64 (cl : Int), .int .u64 (sq : Int), .slice co cn cc] 37)).heap.size = wr.heap.size + 1 by simp] at h
                  exact h
                rw [hW4]
                clear hW4 a0 a1 a2 b0 b1' b2' m1 m2
                have p0 := block_cell P1.out 0
                have p1 := block_cell P1.out 1
                have p2 := block_cell P1.out 2
                have q0 := block_cell P2.out 0
                have q1 := block_cell P2.out 1
                have q2 := block_cell P2.out 2
                simp at p0 p1 p2 q0 q1 q2
                obtain ⟨s1, s2, s3, s4, cb, coff, s5, s6, s7⟩ := HK1.out
                obtain ⟨t1, t2, t3, t4, db, doff, t5, t6, t7⟩ := HK2.out
                simp only at s1 s3 s5 s6 s7 t1 t5 t6 t7
                have HCL : Hid (C.length = C2.length ∧ C.length = cn) := ⟨by omega, s1.symm⟩
                have HAD : Hid (0 < cn → co = some ⟨cb, coff, none⟩ ∧ co2 = some ⟨db, doff, none⟩) := fun h => ⟨s5 h, t5 h⟩
                have HB6 : Hid (0 < cn → cb < wr.heap.size ∧ db < wr.heap.size) := fun h => ⟨Nat.lt_of_lt_of_le (s6 h) HBW.out.size, Nat.lt_of_lt_of_le (t6 h) HBW.out.size⟩
                have HS7 : Hid (∀ i, i < cn → wr.cell? ⟨cb, coff + i, none⟩ = some (.int .u8 ((C.getD i 0 : Nat) : Int)) ∧ wr.cell? ⟨db, doff + i, none⟩ = some (.int .u8 ((C2.getD i 0 : Nat) : Int))) := fun i hi => ⟨s7 i hi, t7 i hi⟩
                clear s1 s2 s4 s5 s6 s7 t1 t2 t3 t4 t5 t6 t7
                go_wp2
                clear p0 p1 p2 q0 q1 q2
                go_loopw [8] (fun i w5 => ∃ l : Nat, l ≤ cn ∧ i = .int .i64 l ∧ Hid (C.take l = C2.take l) ∧ ∃ q, w5 = W4.drewN q) (fun i _ => cn - (intOf i).toNat)
                case atStart => exact ⟨0, by omega, rfl, rfl, 0, rfl⟩
                case round =>
                  obtain ⟨l, hl, rfl, HTK, q, rfl⟩ := hrel
                  have p2 : W4.cell? ⟨wr.heap.size, 2, none⟩ = some (.slice co cn cc) := block_cell P1.out 2
                  have q2 : W4.cell? ⟨wr.heap.size + 1, 2, none⟩ = some (.slice co2 cn cc2) := block_cell P2.out 2
                  by_cases hll : l < cn
                  · obtain ⟨rfl, rfl⟩ := HAD.out (by omega)
                    have x1 : W4.cell? ⟨cb, coff + l, none⟩ = some (.int .u8 ((C.getD l 0 : Nat) : Int)) := (B4.out.cell (p := ⟨cb, _, none⟩) (HB6.out (by omega)).1).trans (HS7.out l hll).1
                    have x2 : W4.cell? ⟨db, doff + l, none⟩ = some (.int .u8 ((C2.getD l 0 : Nat) : Int)) := (B4.out.cell (p := ⟨db, _, none⟩) (HB6.out (by omega)).2).trans (HS7.out l hll).2
                    by_cases hc : C.getD l 0 = C2.getD l 0
                    · have HT1 := hide (take_bytes HCL.out.1 (by have := HCL.out.2; omega) HTK.out hc)
                      rw [hc] at x1
                      clear hc
                      generalize ((C2.getD l 0 : Nat) : Int) = x at *
                      go_wp2_with fail
                      go_region
                      all_goals go_wp2
                      all_goals go_roundw
                      case rel => exact ⟨l + 1, by omega, by go_num, HT1.out, _, rfl⟩
                      case measure => simp [intOf]; omega
                    · have HF1 := hide (HNO.out (fun e => getD_ne hc e.2.2))
                      have d : (((C.getD l 0 : Nat) : Int) == ((C2.getD l 0 : Nat) : Int)) = false := by simp only [beq_eq_false_iff_ne, ne_eq, Int.natCast_inj]; exact hc
                      clear hc
                      generalize ((C2.getD l 0 : Nat) : Int) = x at *
                      generalize ((C.getD l 0 : Nat) : Int) = y at *
                      go_wp2_with fail
                      go_region
                      all_goals go_wp2
                      all_goals go_ret
                      all_goals exact ⟨by rw [HF1.out]; rfl, HFIN.out _ (below_dN B4.out _)⟩
                  · obtain rfl : l = cn := by omega
                    have HC : Hid (C = C2) := by
                      have h := HTK.out
                      have h2 := HCL.out
                      rwa [List.take_of_length_le (by omega), List.take_of_length_le (by omega)] at h
                    have HY := hide (HYES.out (by refine ⟨?_, ?_, HC.out⟩ <;> trivial))
                    go_wp2
                    go_roundw
                    case rel => exact ⟨k + 1, by omega, by go_num, HS.out.1.trans ((below_dN B4.out q).mono HS.out.1.size), HY.out⟩
                    case measure => simp [intOf]; omega
              · have HF1 := hide (HNO.out (fun e => c3 (by have h1 := HK1.out.1; have h2 := HK2.out.1; simp only at h1 h2; rw [h1, h2, e.2.2])))
                have d : ((cn : Int) == (cn2 : Int)) = false := by simp; omega
                clear c3
                go_wp2
                go_ret
                exact ⟨by rw [HF1.out]; rfl, HFIN.out _ (HAL.out _ _)⟩
            · have HF1 := hide (HNO.out (fun e => c2 e.2.1))
              have d : ((sq : Int) == (sq2 : Int)) = false := by simp; omega
              clear c2
              generalize (sq : Int) = x at *
              generalize (sq2 : Int) = y at *
              go_wp2
              go_ret
              exact ⟨by rw [HF1.out]; rfl, HFIN.out _ (HAL.out _ _)⟩
          · have HF1 := hide (HNO.out (fun e => c1 e.1))
            have d : ((cl : Int) != (cl2 : Int)) = true := by simp; omega
            clear c1
            generalize (cl : Int) = x at *
            generalize (cl2 : Int) = y at *
            go_wp2
            go_ret
            exact ⟨by rw [HF1.out]; rfl, HFIN.out _ (HAL.out _ _)⟩
        · obtain rfl : k = n1 := by omega
          have HV : Hid (rs1.map Rq.val = rs2.map Rq.val) := by
            have h := HS.out.2
            rwa [List.take_of_length_le (by have := HE1.out; omega), List.take_of_length_le (by have := HE2.out; omega)] at h
          go_wp2
          go_ret
          exact ⟨by rw [decide_eq_true HV.out]; rfl, HBW.out⟩
    · have d : ((n1 : Int) == (n2 : Int)) = false := by simp; omega
      have HV : Hid (decide (rs1.map Rq.val = rs2.map Rq.val) = false) := by
        show _ = _
        rw [decide_eq_false]
        intro h
        have := congrArg List.length h
        simp at this
        omega
      rw [HV.out]
      clear HV hne e1 e2
      go_enter Try.func33, Try.ntmps33
      go_wp2
      go_ret
      exact ⟨rfl, HBB.out _ _⟩
  · have d1 : ((s1 : Int) == (s2 : Int)) = false := by simp; omega
    rw [decide_eq_false g1]
    clear g1
    generalize (s1 : Int) = x1 at *
    generalize (s2 : Int) = x2 at *
    go_enter Try.func33, Try.ntmps33
    go_wp2
    go_ret
    exact ⟨rfl, HBB.out _ _⟩
end Go.Proofs.Ythfbimbadkmhhaa
