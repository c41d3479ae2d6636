import Derived.Test.YtnpekdkfjjeeeaaM40
import Derived.Shelf.Bytes.SlEqualAll
import Derived.Lib.SlBytesConst
namespace Go.Proofs.Ytnpekdkfjjeeeaa
open Go.RowKit Crc

def ints (B : List Nat) : List Int := B.map fun (x : Nat) => (x : Int)
theorem ints_len (B : List Nat) : (ints B).length = B.length := by simp [ints]
theorem ints_getD (B : List Nat) (i : Nat) : (ints B).getD i 0 = ((B.getD i 0 : Nat) : Int) := by
  unfold ints
  rw [List.getD_eq_getElem?_getD, List.getD_eq_getElem?_getD, List.getElem?_map]
  cases B[i]? <;> rfl
theorem Shows.bytesIn {lim : Nat} {w : World} {ao : Option Addr} {n cap : Nat} {B : List Nat} (h : Shows lim w ao n cap B) : Lib.BytesIn w ao n (ints B) := by
  obtain ⟨h1, h2, h3, h4, b, off, h5, h6, h7⟩ := h
  intro hn
  exact ⟨b, off, h5 hn, fun i hi => by rw [ints_getD]; exact h7 i hi⟩
theorem bytesOf_inj : ∀ (A B : List Nat), (∀ x ∈ A, x < 256) → (∀ x ∈ B, x < 256) → Lib.bytesOf (ints A) = Lib.bytesOf (ints B) → A = B := by
  intro A
  induction A with
  | nil => intro B _ _ h; cases B with | nil => rfl | cons b r => simp [ints, Lib.bytesOf] at h
  | cons a r ih =>
    intro B hA hB h
    cases B with
    | nil => simp [ints, Lib.bytesOf] at h
    | cons b s =>
      unfold ints Lib.bytesOf at h
      simp only [List.map_cons, List.cons.injEq] at h
      have h1 := congrArg UInt8.toNat h.1
      have ha := hA a (by simp)
      have hb := hB b (by simp)
      simp only [Int.toNat_natCast] at h1
      rw [UInt8.toNat_ofNat_of_lt' (by simpa using ha), UInt8.toNat_ofNat_of_lt' (by simpa using hb)] at h1
      rw [h1, ih s (fun x hx => hA x (by simp [hx])) (fun x hx => hB x (by simp [hx])) h.2]

set_option maxRecDepth 10000 in
set_option maxHeartbeats 400000 in
theorem equal_any {l1 l2 : Nat} {w : World} {a1 a2 : Option Addr} {n1 n2 c1 c2 : Nat} {B1 B2 : List Nat} (h1 : Shows l1 w a1 n1 c1 B1) (h2 : Shows l2 w a2 n2 c2 B2) :
    Calls Try.prog 52 #[.slice a1 n1 c1, .slice a2 n2 c2] w fun e w' => e = .returned (.bool (decide (B1 = B2))) ∧ w' = w := by
  have k1 := h1.bytesIn.convert (P := Try.prog) (by rw [ints_len]; exact h1.1.symm) c1 42 5 9 Try.underlying42 Try.underlying5 Try.underlying9
  have k2 := h2.bytesIn.convert (P := Try.prog) (by rw [ints_len]; exact h2.1.symm) c2 42 5 9 Try.underlying42 Try.underlying5 Try.underlying9
  have HD : Hid (((strOfNums (ints B1)).toList == (strOfNums (ints B2)).toList) = decide (B1 = B2)) := by
    show _ = _
    rw [Lib.strOfNums_toList, Lib.strOfNums_toList]
    by_cases h : B1 = B2
    · subst h; simp
    · have : ¬ Lib.bytesOf (ints B1) = Lib.bytesOf (ints B2) := fun e => h (bytesOf_inj B1 B2 h1.2.2.2.1 h2.2.2.2.1 e)
      simp [h, this]
  clear h1 h2
  generalize strOfNums (ints B1) = S1 at *
  generalize strOfNums (ints B2) = S2 at *
  go_enter Try.func52, Try.ntmps52
  go_wp2
  go_ret
  exact ⟨by rw [← HD.out]; rfl, rfl⟩
end Go.Proofs.Ytnpekdkfjjeeeaa
namespace Go.Proofs.Ytnpekdkfjjeeeaa
open Go.RowKit Crc

theorem val_dec (a b : Rq) : decide (a.val = b.val) = (decide (a.cl = b.cl) && decide (a.sq = b.sq) && decide (a.C = b.C)) := by
  unfold Rq.val
  by_cases h1 : a.cl = b.cl <;> by_cases h2 : a.sq = b.sq <;> by_cases h3 : a.C = b.C <;> simp [h1, h2, h3]

set_option maxRecDepth 10000 in
set_option maxHeartbeats 1600000 in
theorem sameReq_any {w : World} {r1 r2 : Rq} (h1 : r1.Ok w.heap.size w) (h2 : r2.Ok w.heap.size w) :
    Calls Try.prog 42 #[.agg r1.cells, .agg r2.cells] w fun e w' => e = .returned (.bool (decide (r1.val = r2.val))) ∧ Hid (Below w.heap.size w w') := by
  have HBB : Hid (∀ o o', Below w.heap.size w ((w.alloc o).alloc o')) := fun o o' => (below_alloc1 w o).alloc (by simp) o'
  have HEQ : Hid (∀ o o', Calls Try.prog 52 #[.slice r1.co r1.cn r1.cc, .slice r2.co r2.cn r2.cc] ((w.alloc o).alloc o') fun e w' => e = .returned (.bool (decide (r1.C = r2.C))) ∧ w' = ((w.alloc o).alloc o')) := fun o o' => equal_any (h1.hC.belowL (HBB.out o o')) (h2.hC.belowL (HBB.out o o'))
  rw [val_dec]
  clear h1 h2
  generalize decide (r1.C = r2.C) = q at *
  obtain ⟨cl, sq, co, cn, cc, C⟩ := r1
  obtain ⟨cl2, sq2, co2, cn2, cc2, C2⟩ := r2
  simp only at HEQ
  unfold Rq.cells
  simp only
  by_cases g1 : cl = cl2
  · subst g1
    rw [decide_eq_true (rfl : cl = cl)]
    by_cases g2 : sq = sq2
    · subst g2
      rw [decide_eq_true (rfl : sq = sq)]
      go_enter Try.func42, Try.ntmps42
      go_wp2_with fail
      refine (HEQ.out _ _).mono ?_
      rintro e w1 ⟨rfl, hw1⟩
      rw [hw1]
      clear hw1
      go_wp2
      go_ret
      exact ⟨by cases q <;> rfl, HBB.out _ _⟩
    · have d2 : ((sq : Int) == (sq2 : Int)) = false := by simp; omega
      rw [decide_eq_false g2]
      clear g2
      generalize (sq : Int) = x1 at *
      generalize (sq2 : Int) = x2 at *
      go_enter Try.func42, Try.ntmps42
      go_wp2
      go_ret
      exact ⟨rfl, HBB.out _ _⟩
  · have d1 : ((cl : Int) == (cl2 : Int)) = false := by simp; omega
    rw [decide_eq_false g1]
    clear g1
    generalize (cl : Int) = x1 at *
    generalize (cl2 : Int) = x2 at *
    go_enter Try.func42, Try.ntmps42
    go_wp2
    go_ret
    exact ⟨rfl, HBB.out _ _⟩

theorem take_vals {rs1 rs2 : List Rq} {k : Nat} {r1 r2 : Rq} (h1 : rs1[k]? = some r1) (h2 : rs2[k]? = some r2) (h : (rs1.take k).map Rq.val = (rs2.take k).map Rq.val) (e : r1.val = r2.val) : (rs1.take (k + 1)).map Rq.val = (rs2.take (k + 1)).map Rq.val := by
  rw [List.take_add_one, List.take_add_one, h1, h2, List.map_append, List.map_append, h]
  simp [e]
theorem vals_ne {rs1 rs2 : List Rq} {k : Nat} {r1 r2 : Rq} (h1 : rs1[k]? = some r1) (h2 : rs2[k]? = some r2) (e : r1.val ≠ r2.val) : rs1.map Rq.val ≠ rs2.map Rq.val := fun h => by
  have h' := congrArg (fun l => l[k]?) h
  simp only [List.getElem?_map, h1, h2, Option.map_some] at h'
  exact e (Option.some.inj h')

set_option maxRecDepth 10000 in
set_option maxHeartbeats 1600000 in
theorem eqFunc_any {w : World} {ro1 ro2 : Option Addr} {rs1 rs2 : List Rq} {b1 off1 b2 off2 : Nat} (n1 n2 rc1 rc2 : Nat) (e1 : rs1.length = n1) (e2 : rs2.length = n2) (h1 : Rqs w.heap.size w ro1 rs1 b1 off1) (h2 : Rqs w.heap.size w ro2 rs2 b2 off2) :
    Calls Try.prog 41 #[.slice ro1 n1 rc1, .slice ro2 n2 rc2, .func (.func 42) #[] #[]] w fun e w' => e = .returned (.bool (decide (rs1.map Rq.val = rs2.map Rq.val))) ∧ Hid (Below w.heap.size w w') := by
  have hle := h1.le
  rw [e1] at hle
  have H1 := hide h1
  have H2 := hide h2
  have HE1 := hide e1
  have HE2 := hide e2
  clear h1 h2
  by_cases hne : n1 = n2
  · subst hne
    clear e1 e2
    go_enter Try.func41, Try.ntmps41
    go_wp2
    go_loopw [7, 8, 9, 17] (fun j p q i wr => ∃ k : Nat, k ≤ n1 ∧ i = .int .i64 k ∧ Hid (Below w.heap.size w wr ∧ (rs1.take k).map Rq.val = (rs2.take k).map Rq.val)) (fun _ _ _ i _ => n1 - (intOf i).toNat)
    case atStart => exact ⟨0, by omega, rfl, Below.refl _ _, rfl⟩
    case round =>
      obtain ⟨k, hk, rfl, HS⟩ := hrel
      by_cases hlt : k < n1
      · obtain ⟨r1, hr1, _, hok1, hbl1, rfl, a0, a1, a2⟩ := (H1.out.below HS.out.1).get (k := k) (by have := HE1.out; omega)
        obtain ⟨r2, hr2, _, hok2, hbl2, rfl, b0, b1', b2'⟩ := (H2.out.below HS.out.1).get (k := k) (by have := HE2.out; omega)
        have hbl1' : b1 < wr.heap.size := Nat.lt_of_lt_of_le hbl1 HS.out.1.size
        have hbl2' : b2 < wr.heap.size := Nat.lt_of_lt_of_le hbl2 HS.out.1.size
        have HC : Hid (∀ o o', Calls Try.prog 42 #[.agg #[.int .u64 (r1.cl : Int), .int .u64 (r1.sq : Int), .slice r1.co r1.cn r1.cc], .agg #[.int .u64 (r2.cl : Int), .int .u64 (r2.sq : Int), .slice r2.co r2.cn r2.cc]] ((wr.alloc o).alloc o') fun e w' => e = .returned (.bool (decide (r1.val = r2.val))) ∧ Hid (Below w.heap.size w w')) := fun o o' => by
          have hb : Below wr.heap.size wr ((wr.alloc o).alloc o') := (below_alloc1 wr o).alloc (by simp) o'
          have hx := HS.out.1.size
          have hy := hb.size
          refine (sameReq_any (w := (wr.alloc o).alloc o') (r1 := r1) (r2 := r2) ⟨hok1.hc, hok1.hs, ((hok1.hC.wide hx).belowL hb).wide hy⟩ ⟨hok2.hc, hok2.hs, ((hok2.hC.wide hx).belowL hb).wide hy⟩).mono ?_
          rintro e w' ⟨rfl, g⟩
          exact ⟨rfl, HS.out.1.trans ((hb.trans (g.out.mono hy)).mono hx)⟩
        have HT := hide (fun (e : r1.val = r2.val) => take_vals hr1 hr2 HS.out.2 e)
        have HF := hide (fun (e : r1.val ≠ r2.val) => vals_ne hr1 hr2 e)
        obtain ⟨q, hq⟩ : ∃ q, decide (r1.val = r2.val) = q := ⟨_, rfl⟩
        have HQ := hide hq
        rw [hq] at HC
        clear hq hr1 hr2 hok1 hok2 hbl1 hbl2
        go_wp2_with fail
        refine (HC.out _ _).mono ?_
        rintro e w1 ⟨rfl, HB1⟩
        cases q with
        | true =>
          have HT1 := hide (HT.out (of_decide_eq_true HQ.out))
          go_wp2
          go_roundw
          case rel => exact ⟨k + 1, by omega, by go_num, HB1.out, HT1.out⟩
          case measure => simp [intOf]; omega
        | false =>
          have HF1 := hide (HF.out (of_decide_eq_false HQ.out))
          go_wp2
          go_ret
          exact ⟨by rw [decide_eq_false HF1.out]; rfl, HB1.out⟩
      · obtain rfl : k = n1 := by omega
        have HV : Hid (rs1.map Rq.val = rs2.map Rq.val) := by
          have h := HS.out.2
          rwa [List.take_of_length_le (by have := HE1.out; omega), List.take_of_length_le (by have := HE2.out; omega)] at h
        go_wp2
        go_ret
        exact ⟨by rw [decide_eq_true HV.out]; rfl, HS.out.1⟩
  · have d : ((n1 : Int) == (n2 : Int)) = false := by simp; omega
    have HV : Hid (decide (rs1.map Rq.val = rs2.map Rq.val) = false) := by
      show _ = _
      rw [decide_eq_false]
      intro h
      have := congrArg List.length h
      simp at this
      omega
    rw [HV.out]
    clear HV hne e1 e2
    go_enter Try.func41, Try.ntmps41
    go_wp2
    go_ret
    exact ⟨rfl, Below.refl _ _⟩

set_option maxRecDepth 10000 in
set_option maxHeartbeats 1600000 in
theorem alike_any {w : World} (s1 s2 : Nat) {ro1 ro2 : Option Addr} {rs1 rs2 : List Rq} {b1 off1 b2 off2 : Nat} (n1 n2 rc1 rc2 : Nat) (e1 : rs1.length = n1) (e2 : rs2.length = n2) (h1 : Rqs w.heap.size w ro1 rs1 b1 off1) (h2 : Rqs w.heap.size w ro2 rs2 b2 off2) :
    Calls Try.prog 23 #[.agg #[.int .u64 (s1 : Nat), .slice ro1 n1 rc1], .agg #[.int .u64 (s2 : Nat), .slice ro2 n2 rc2]] w fun e w' => e = .returned (.bool (decide (s1 = s2) && decide (rs1.map Rq.val = rs2.map Rq.val))) ∧ Hid (Below w.heap.size w w') := by
  have HBB : Hid (∀ o o', Below w.heap.size w ((w.alloc o).alloc o')) := fun o o' => (below_alloc1 w o).alloc (by simp) o'
  have HC : Hid (∀ o o', Calls Try.prog 41 #[.slice ro1 n1 rc1, .slice ro2 n2 rc2, .func (.func 42) #[] #[]] ((w.alloc o).alloc o') fun e w' => e = .returned (.bool (decide (rs1.map Rq.val = rs2.map Rq.val))) ∧ Hid (Below w.heap.size w w')) := fun o o' => by
    have hb := HBB.out o o'
    refine (eqFunc_any (w := (w.alloc o).alloc o') n1 n2 rc1 rc2 e1 e2 ((h1.below hb).wide hb.size) ((h2.below hb).wide hb.size)).mono ?_
    rintro e w' ⟨rfl, g⟩
    exact ⟨rfl, hb.trans (g.out.mono hb.size)⟩
  clear h1 h2 e1 e2
  generalize decide (rs1.map Rq.val = rs2.map Rq.val) = q at *
  by_cases g1 : s1 = s2
  · subst g1
    rw [decide_eq_true (rfl : s1 = s1)]
    go_enter Try.func23, Try.ntmps23
    go_wp2_with fail
    refine (HC.out _ _).mono ?_
    rintro e w1 ⟨rfl, G⟩
    go_wp2
    go_ret
    exact ⟨by cases q <;> rfl, G.out⟩
  · have d1 : ((s1 : Int) == (s2 : Int)) = false := by simp; omega
    rw [decide_eq_false g1]
    clear g1
    generalize (s1 : Int) = x1 at *
    generalize (s2 : Int) = x2 at *
    go_enter Try.func23, Try.ntmps23
    go_wp2
    go_ret
    exact ⟨rfl, HBB.out _ _⟩
end Go.Proofs.Ytnpekdkfjjeeeaa
