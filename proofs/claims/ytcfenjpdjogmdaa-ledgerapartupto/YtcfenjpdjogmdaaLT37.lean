import Derived.Test.YtcfenjpdjogmdaaLT23
import Derived.Test.YtcfenjpdjogmdaaLT31
import Derived.Test.YtcfenjpdjogmdaaLT30
namespace Go.Proofs.Ytcfenjpdjogmdaa
open Go.RowKit

def jcells : List Jn → List Value
  | [] => []
  | a :: r => a.vals ++ jcells r
theorem jcells_app : ∀ (l r : List Jn), jcells (l ++ r) = jcells l ++ jcells r
  | [], r => rfl
  | a :: l, r => by show a.vals ++ jcells (l ++ r) = (a.vals ++ jcells l) ++ jcells r; rw [jcells_app l r, List.append_assoc]
theorem jtake_step {l : List Jn} {k : Nat} {a : Jn} (h : l[k]? = some a) : jcells (l.take k) ++ a.vals = jcells (l.take (k + 1)) := by
  rw [List.take_add_one, h, Option.toList_some, jcells_app]
  simp [jcells]
theorem infoEnt : (Try.prog.info? 68).map (fun i => (i.zero, i.size, i.bytes)) = some (some (.agg #[.int .u64 0, .int .i64 0, .int .u64 0, .int .u64 0, .int .u64 0]), 5, 40) := by kernel_rfl
/-- Between two rounds of lines. -/
structure Rj (w : World) (l : List Jn) (n k : Nat) (wr : World) : Prop where
  bel : Below w.heap.size w wr
  row : wr.ownsRow w.heap.size 68 5 (.slice (some ⟨w.heap.size, 0, none⟩) k n) k (jcells (l.take k))
theorem Rj.next {w : World} {l : List Jn} {n k : Nat} {wr w4 : World} (h : Rj w l n k wr) (o : Obj) {x : Jn} (hx : l[k]? = some x) (ho : w4.ownsRow w.heap.size 68 5 (.slice (some ⟨w.heap.size, 0, none⟩) (k + 1) n) (k + 1) (jcells (l.take k) ++ x.vals)) (hg : (wr.alloc o).grownBy w4 (some w.heap.size)) : Rj w l n (k + 1) w4 := by
  have hb := h.bel.alloc h.bel.size o
  exact ⟨hb.grown hg hb.size (fun j e => by cases e; exact Nat.le_refl _), by rw [← jtake_step hx]; exact ho⟩
set_option maxRecDepth 10000 in
set_option maxHeartbeats 4000000 in
/-- lines: the journal as it is told. -/
theorem linesG {w : World} {p a b : Nat} {mk ch : Value} {S : LS} (h : LG w p a b mk ch S) (hok : S.Ok) :
    Calls Try.prog 31 #[.pointer (some ⟨p, 3, none⟩)] w fun e w' => ∃ ao cap, e = .returned (.slice ao S.jl.length cap) ∧ Hid (w'.ownsRow w.heap.size 68 5 (.slice ao S.jl.length cap) S.jl.length (jcells S.jl) ∧ Below w.heap.size w w' ∧ (S.jl.length = 0 → ao = none ∧ cap = 0)) := by
  obtain ⟨i0, hi, hz0, hz1, hz2⟩ := info_parts infoEnt
  obtain ⟨n, hn⟩ : ∃ n, S.jl.length = n := ⟨_, rfl⟩
  obtain ⟨x, hx⟩ : ∃ x, S.nx = x := ⟨_, rfl⟩
  have hm : min (x - 1) 64 = n := by rw [← hx, ← S.jl_len]; exact hn
  have hx1 : 1 ≤ x := by have := hok.n0; omega
  have hx2 : x ≤ 4611686018427387904 := by have := hok.n1; omega
  have c3 := h.c.2.2.2.1
  have cl := h.lt.1
  rw [hx] at c3
  have HLA := hide (linesAtG w x hx1 hx2)
  rw [hm] at HLA
  have hn64 : n ≤ 64 := by omega
  have hnx : n ≤ x - 1 := by omega
  have HL := hide h
  have HN := hide hn
  have HX := hide hx
  have HM := hide hm
  rw [hn]
  clear h hok hn hx hm
  go_enter Try.func31, Try.ntmps31
  go_wp2_with fail
  refine HLA.out.mono ?_
  rintro e w1 ⟨rfl, rfl⟩
  clear HLA
  by_cases h0 : n = 0
  · subst h0
    have hnil : S.jl = [] := List.length_eq_zero_iff.1 HN.out
    have HE : Hid (w1.ownsRow w1.heap.size 68 5 (.slice none 0 0) 0 (jcells S.jl) ∧ Below w1.heap.size w1 w1) := by
      rw [hnil]
      exact ⟨World.ownsRow_nil _ _ _ _, Below.refl _ _⟩
    clear hnil HM hn64 hnx
    go_wp2
    go_ret
    exact ⟨none, 0, rfl, hide ⟨HE.out.1, HE.out.2, by simp⟩⟩
  have g0 : (((n : Nat) : Int) == 0) = false := by simp; omega
  obtain ⟨f, hf⟩ : ∃ f, x - n = f := ⟨_, rfl⟩
  have hwn : IntKind.u64.wrap ((n : Nat) : Int) = (n : Int) := IntWalk.u64_in _ ⟨by omega, by omega⟩
  have hws : IntKind.u64.wrap ((x : Int) - (n : Int)) = (f : Int) := by
    rw [IntWalk.u64_in _ ⟨by omega, by omega⟩]
    omega
  have hfx : f + n = x := by omega
  have HF := hide hfx
  clear hf hnx hfx
  go_wp2_with (first
    | (at_make; refine wpList_make_own _ rfl _ _ 33 rfl w1.heap.size 68 i0 (.agg #[.int .u64 0, .int .i64 0, .int .u64 0, .int .u64 0, .int .u64 0]) 5 Try.underlying33 hi hz0 hz1 .i64 .i64 _ n rfl rfl (by omega) (by rw [hz2]; omega) (by unfold maxLen; omega) (Nat.le_refl _) ?_; intro w0 hown0 hgrow0; have HB0 : Hid (Rj w1 S.jl n 0 w0) := ⟨(Below.refl _ _).grown hgrow0 (Nat.le_refl _) (fun k h => by cases h), hown0⟩; have c4 := (HL.out.kept HB0.out.bel).c.2.2.2.1; have cl4 := (HL.out.kept HB0.out.bel).lt.1; rw [HX.out] at c4; clear hown0 hgrow0 c3 cl))
  clear c4 cl4 hwn hws
  go_loopw [4, 5] (fun v s wr => ∃ k q : Nat, k ≤ n ∧ Hid (q = f + k) ∧ s = .int .u64 (q : Nat) ∧ v = .slice (some ⟨w1.heap.size, 0, none⟩) k n ∧ Hid (Rj w1 S.jl n k wr)) (fun _ s _ => x - (intOf s).toNat)
  case atStart => exact ⟨0, f, by omega, rfl, rfl, rfl, HB0.out⟩
  case round =>
    clear HB0
    obtain ⟨k, q, hk, HQ, rfl, rfl, HR⟩ := hrel
    have c3 := (HL.out.kept HR.out.bel).c.2.2.2.1
    have cl := (HL.out.kept HR.out.bel).lt.1
    rw [HX.out] at c3
    by_cases hlt : k < n
    · have hqx : (q : Int) < (x : Int) := by have := HQ.out; have := HF.out; omega
      obtain ⟨r, hr⟩ : ∃ r, q % 64 = r := ⟨_, rfl⟩
      have hr64 : r < 64 := by omega
      have hm : (q : Int).tmod 64 = (r : Int) := by rw [Int.tmod_eq_emod_of_nonneg (by omega)]; omega
      have hki : (r : Int) < 64 := by omega
      have hk0 : (0 : Int) ≤ (r : Int) := by omega
      obtain ⟨r0, r1, r2, r3, r4⟩ := (HL.out.kept HR.out.bel).ring hr64
      have hj : S.jl[k]? = some (S.rg r) := by
        have h1 := HN.out
        rw [S.jl_len] at h1
        rw [S.jl_at (by omega), h1]
        have h2 := HQ.out
        have h3 := HX.out
        have h4 := HF.out
        have e : S.nx - n + k = q := by omega
        rw [e, hr]
      have HOW : Hid (∀ o, (World.alloc wr o).ownsRow w1.heap.size 68 5 (.slice (some ⟨w1.heap.size, 0, none⟩) k n) k (jcells (S.jl.take k))) := fun o => HR.out.row.alloc o
      have KAP : Hid (∀ o w4, w4.ownsRow w1.heap.size 68 5 (.slice (some ⟨w1.heap.size, 0, none⟩) (k + 1) n) (k + 1) (jcells (S.jl.take k) ++ [.int .u64 ((S.rg r).sq : Int), .int .i64 ((S.rg r).kd : Int), .int .u64 ((S.rg r).fr : Int), .int .u64 ((S.rg r).tw : Int), .int .u64 ((S.rg r).am : Int)]) → (World.alloc wr o).grownBy w4 (some w1.heap.size) → Rj w1 S.jl n (k + 1) w4) := fun o w4 ho hg => HR.out.next o hj ho hg
      have hwq : IntKind.u64.wrap ((q : Int) + 1) = (q : Int) + 1 := IntWalk.u64_in _ ⟨by omega, by omega⟩
      have hsz := HR.out.bel.size
      have HC3 := hide c3
      clear hr hj HR
      generalize ((S.rg r).sq : Int) = X0 at *
      generalize ((S.rg r).kd : Int) = X1 at *
      generalize ((S.rg r).fr : Int) = X2 at *
      generalize ((S.rg r).tw : Int) = X3 at *
      generalize ((S.rg r).am : Int) = X4 at *
      go_wp2_with (first
        | (at_builtin; refine wpList_append_own_spare _ rfl (.tmp 30) (.tmp 38) 33 rfl w1.heap.size 68 i0 5 Try.underlying33 hi hz1 w1.heap.size k n _ rfl (HOW.out _) ⟨wr.heap.size, 0, none⟩ 1 1 [.int .u64 X0, .int .i64 X1, .int .u64 X2, .int .u64 X3, .int .u64 X4] rfl rfl (cells_newA _ _ _) (by simp [Value.oneCell']) (by omega) ?_; intro w4 ho hg; have HR2 := hide (KAP.out _ _ ho hg); clear ho hg))
      go_roundw
      case rel => exact ⟨k + 1, q + 1, by omega, by rw [HQ.out]; exact hide rfl, by go_num, rfl, HR2.out⟩
      case measure => simp [intOf]; omega
    · obtain rfl : n = k := by omega
      have hqx : ¬ (q : Int) < (x : Int) := by have := HQ.out; have := HF.out; omega
      have e : S.jl.take n = S.jl := by rw [List.take_of_length_le]; rw [HN.out]; exact Nat.le_refl _
      have hr := HR.out.row
      rw [e] at hr
      have HE : Hid (wr.ownsRow w1.heap.size 68 5 (.slice (some ⟨w1.heap.size, 0, none⟩) n n) n (jcells S.jl) ∧ Below w1.heap.size w1 wr) := ⟨hr, HR.out.bel⟩
      clear hr e HR
      go_wp2
      go_ret
      exact ⟨_, _, rfl, HE.out⟩
end Go.Proofs.Ytcfenjpdjogmdaa
namespace Go.Proofs.Ytcfenjpdjogmdaa
open Go.RowKit

theorem fault_ok {l : List Ac} {s : Nat} {a : Ac} (h0 : a.id ≠ 0) (h1 : byId l a.id = none) (h2 : a.ba ≤ a.cp) (h3 : a.ba ≤ 18446744073709551615 - s) : faultA l s a = 0 := by
  unfold faultA
  rw [if_neg h0, h1, if_neg (by simp), if_neg (by omega), if_neg (by omega)]
theorem bad_mk {l : List Ac} {k : Nat} {x : Ac} (hx : l[k]? = some x) (hg : Good l k) (h : faultA (l.take k) (sumA (l.take k)) x ≠ 0) : ∃ k c, Bad l k c := ⟨k, _, x, hx, hg, rfl, h⟩
/-- What may tells. -/
def MayP (l : List Ac) (s : Nat) (t : Bool) : Prop := (t = true ∧ Good l l.length ∧ l.length ≤ 64 ∧ s = sumA l) ∨ (t = false ∧ (64 < l.length ∨ ∃ k c, Bad l k c))
theorem byId_take {l : List Ac} {j x : Nat} {y : Ac} (h : byId (l.take j) x = none) (hy : l[j]? = some y) (hne : y.id ≠ x) : byId (l.take (j + 1)) x = none := by
  rw [List.take_add_one, hy]
  show byK Ac.id (l.take j ++ [y]) x = none
  rw [byK_app, show byK Ac.id (l.take j) x = none from h, byK_one, if_neg hne]
  rfl
set_option maxRecDepth 10000 in
set_option maxHeartbeats 3200000 in
/-- may: may a ledger be begun with these accounts. -/
theorem mayA {w : World} {b0 off : Nat} {ao : Option Addr} (n cap : Nat) {l : List Ac} (hn : n = l.length) (hA : Acs w b0 off l) (hao : 0 < n → ao = some ⟨b0, off, none⟩) (hbw : 0 < n → b0 < w.heap.size) (hle : n ≤ 4398046510976) :
    Calls Try.prog 16 #[.slice ao n cap] w fun e w' => ∃ (s : Nat) (t : Bool), e = .returned (.tuple #[.int .u64 (s : Nat), .bool t]) ∧ Hid (MayP l s t) ∧ Hid (Below w.heap.size w w') := by
  have HA := hide hao
  have HC := hide hA
  have HB := hide hbw
  have HN := hide hn
  clear hA hao hbw hn
  go_enter Try.func16, Try.ntmps16
  go_wp2
  go_loopw [4, 5] (fun s i wr => ∃ k : Nat, k ≤ n ∧ i = .int .i64 k ∧ ∃ q : Nat, s = .int .u64 (q : Nat) ∧ Hid (Good l k ∧ q = sumA (l.take k) ∧ q < 18446744073709551616) ∧ Hid (Below w.heap.size w wr)) (fun _ i _ => n - (intOf i).toNat)
  case atStart => exact ⟨0, by omega, rfl, 0, rfl, ⟨fun i a h => by omega, by simp [sumA], by omega⟩, Below.refl _ _⟩
  case round =>
    obtain ⟨k, hk, rfl, q, rfl, HG, HB1⟩ := hrel
    by_cases hlt : k < n
    · obtain ⟨x, hx⟩ : ∃ x, l[k]? = some x := ⟨_, List.getElem?_eq_getElem (by have := HN.out; omega)⟩
      obtain ⟨c0, c1, c2, c3⟩ := (HC.out.below HB1.out (fun hp => HB.out (by have := HN.out; omega))).four hx
      obtain rfl := HA.out (by omega)
      have cl : b0 < wr.heap.size := Nat.lt_of_lt_of_le (HB.out (by omega)) HB1.out.size
      have hin := HC.out.ok x (List.mem_of_getElem? hx)
      have hq := HG.out.2.2
      obtain ⟨MX, hMX⟩ : ∃ X : Int, ((18446744073709551615 - q : Nat) : Int) = X := ⟨_, rfl⟩
      have hws : IntKind.u64.wrap ((18446744073709551615 : Int) - (q : Int)) = MX := by rw [IntWalk.u64_in _ ⟨by omega, by omega⟩]; omega
      have HX := hide hx
      have hbad : ∀ (h : faultA (l.take k) (sumA (l.take k)) x ≠ 0), Hid (MayP l 0 false) := fun h => .inr ⟨rfl, .inr (bad_mk HX.out HG.out.1 h)⟩
      have HBAD := hide hbad
      clear hbad hx c1
      by_cases i0 : x.id = 0
      · have HE := HBAD.out (fun h => (fault_zero h).1 i0)
        have g0 : ((x.id : Int) == 0) = true := by simp [i0]
        generalize (x.id : Int) = X0 at *
        generalize (x.ba : Int) = X2 at *
        generalize (x.cp : Int) = X3 at *
        clear hMX HX HG HBAD i0 hin
        go_wp2_with fail
        go_quiet (fail)
        go_wp2
        go_ret2
        exact ⟨0, false, rfl, HE, below_dA HB1.out _⟩
      have g0 : ((x.id : Int) == 0) = false := by simp; omega
      by_cases i1 : x.cp < x.ba
      · have HE := HBAD.out (fun h => by have := (fault_zero h).2.2.1; omega)
        have d1 : decide ((x.ba : Int) > (x.cp : Int)) = true := decide_eq_true (by omega)
        generalize (x.id : Int) = X0 at *
        generalize (x.ba : Int) = X2 at *
        generalize (x.cp : Int) = X3 at *
        clear hMX HX HG HBAD i0 i1 hin
        go_wp2_with fail
        go_quiet (fail)
        go_wp2
        go_ret2
        exact ⟨0, false, rfl, HE, below_dA HB1.out _⟩
      have d1 : decide ((x.ba : Int) > (x.cp : Int)) = false := decide_eq_false (by omega)
      by_cases i2 : 18446744073709551615 - q < x.ba
      · have HE := HBAD.out (fun h => by have := (fault_zero h).2.2.2; have := HG.out.2.1; omega)
        have d2 : decide ((x.ba : Int) > MX) = true := decide_eq_true (by omega)
        generalize (x.id : Int) = X0 at *
        generalize (x.ba : Int) = X2 at *
        generalize (x.cp : Int) = X3 at *
        clear hMX HX HG HBAD i0 i1 i2 hin
        go_wp2_with fail
        go_quiet (fail)
        go_wp2
        go_ret2
        exact ⟨0, false, rfl, HE, below_dA HB1.out _⟩
      have d2 : decide ((x.ba : Int) > MX) = false := decide_eq_false (by omega)
      have hsm : IntKind.u64.wrap ((q : Int) + (x.ba : Int)) = ((q + x.ba : Nat) : Int) := by rw [IntWalk.u64_in _ ⟨by omega, by omega⟩]; omega
      have HGN : Hid (byId (l.take k) x.id = none → Good l (k + 1) ∧ q + x.ba = sumA (l.take (k + 1)) ∧ q + x.ba < 18446744073709551616) := fun hb => by
        have e : l.take (k + 1) = l.take k ++ [x] := by rw [List.take_add_one, HX.out]; rfl
        have h1 := HG.out.2.1
        exact ⟨HG.out.1.step HX.out (fault_ok i0 hb (by omega) (by omega)), by rw [e, sumA_app]; omega, by omega⟩
      obtain ⟨SM, hSM⟩ : ∃ X : Int, ((q + x.ba : Nat) : Int) = X := ⟨_, rfl⟩
      rw [hSM] at hsm
      have HSM := hide hSM
      clear hMX HG i0 i1 i2 hin hSM
      obtain ⟨X0, hX0⟩ : ∃ X : Int, (x.id : Int) = X := ⟨_, rfl⟩
      obtain ⟨X2, hX2⟩ : ∃ X : Int, (x.ba : Int) = X := ⟨_, rfl⟩
      have HXX : Hid ((x.id : Int) = X0 ∧ (x.ba : Int) = X2) := ⟨hX0, hX2⟩
      rw [hX0] at c0 g0
      rw [hX2] at c2 d1 d2 hsm
      have HEQ : Hid (∀ y : Ac, y.id = x.id ↔ (y.id : Int) = X0) := hide (fun y => by omega)
      clear hX0 hX2
      generalize (x.cp : Int) = X3 at *
      go_wp2_with fail
      go_quiet (fail)
      have HB2 := hide (below_dA HB1.out nq)
      go_wp2
      go_loopw [6] (fun i wr => ∃ j : Nat, j ≤ k ∧ i = .int .i64 j ∧ Hid (byId (l.take j) x.id = none) ∧ Hid (Below w.heap.size w wr)) (fun i _ => k - (intOf i).toNat)
      case atStart => exact ⟨0, by omega, rfl, hide rfl, HB2⟩
      case round =>
        clear g0 d1 d2 hws HB1 HB2 c0 c2 c3 cl
        obtain ⟨j, hj, rfl, HJ, HB1⟩ := hrel
        have hA3 := HC.out.below HB1.out (fun hp => HB.out (by have := HN.out; omega))
        obtain ⟨c0, _, c2, _⟩ := hA3.four HX.out
        rw [HXX.out.1] at c0
        rw [HXX.out.2] at c2
        have cl : b0 < wr.heap.size := Nat.lt_of_lt_of_le (HB.out (by omega)) HB1.out.size
        by_cases hjk : j < k
        · obtain ⟨y, hy⟩ : ∃ y, l[j]? = some y := ⟨_, List.getElem?_eq_getElem (by have := HN.out; omega)⟩
          obtain ⟨y0, _, _, _⟩ := hA3.four hy
          by_cases he : y.id = x.id
          · have g : ((y.id : Int) == X0) = true := by simp [(HEQ.out y).1 he]
            have HE := HBAD.out (fun h => by
              have h1 := (fault_zero h).2.1
              have h2 : byK Ac.id (l.take k) x.id = none := h1
              refine byK_none h2 y ?_ he
              exact List.mem_of_getElem? (i := j) (by rw [List.getElem?_take_of_lt hjk]; exact hy))
            generalize (y.id : Int) = Y0 at *
            clear HJ he hy HGN HEQ hA3
            go_wp2_with fail
            go_quiet (fail)
            go_wp2
            go_ret2
            exact ⟨0, false, rfl, HE, below_dA HB1.out _⟩
          · have g : ((y.id : Int) == X0) = false := by
              have := fun h => he ((HEQ.out y).2 h)
              simpa using this
            have HJ2 : Hid (byId (l.take (j + 1)) x.id = none) := byId_take HJ.out hy he
            generalize (y.id : Int) = Y0 at *
            clear HJ he hy HGN HEQ hA3
            go_wp2_with fail
            go_quiet (fail)
            go_wp2
            go_roundw
            case rel => exact ⟨j + 1, by omega, by go_num, HJ2, below_dA HB1.out _⟩
            case measure => simp [intOf]; omega
        · obtain rfl : j = k := by omega
          have HG2 := hide (HGN.out HJ.out)
          clear HGN HJ HBAD HX HEQ hA3
          go_wp2
          go_roundw
          case rel => exact ⟨j + 1, by omega, by go_num, q + x.ba, by rw [HSM.out], HG2.out, HB1⟩
          case measure => simp [intOf]; omega
    · obtain rfl : k = n := by omega
      have hk : l.take k = l := by rw [HN.out, List.take_length]
      have hg := HG.out
      rw [hk, HN.out] at hg
      have HE : Hid (MayP l q (decide ((k : Int) ≤ 64))) := by
        by_cases h64 : k ≤ 64
        · exact .inl ⟨decide_eq_true (by omega), hg.1, by have := HN.out; omega, hg.2.1⟩
        · exact .inr ⟨decide_eq_false (by omega), .inl (by have := HN.out; omega)⟩
      clear hg hk HG
      go_wp2
      go_ret2
      exact ⟨q, _, rfl, HE, HB1⟩
end Go.Proofs.Ytcfenjpdjogmdaa
namespace Go.Proofs.Ytcfenjpdjogmdaa
open Go.RowKit

/-- What started gives. -/
def StP (w : World) (l : List Ac) (v : Value) (s : Nat) (w' : World) : Prop := Below w.heap.size w w' ∧ ((v = .pointer none ∧ ¬ (l.length ≤ 64 ∧ Good l l.length)) ∨ (l.length ≤ 64 ∧ Good l l.length ∧ s = sumA l ∧ ∃ p a b, v = .pointer (some ⟨p, 0, none⟩) ∧ LP2 w' p a b l (sumA l) ∧ w.heap.size ≤ p ∧ w.heap.size ≤ a ∧ w.heap.size ≤ b))
set_option maxRecDepth 10000 in
set_option maxHeartbeats 6400000 in
/-- started: New gives a ledger just where it may. -/
theorem startedA {w : World} {b0 off : Nat} {ao : Option Addr} (n cap : Nat) {l : List Ac} (hn : n = l.length) (hA : Acs w b0 off l) (hao : 0 < n → ao = some ⟨b0, off, none⟩) (hbw : 0 < n → b0 < w.heap.size) (hle : n ≤ 4398046510976) :
    Calls Try.prog 5 #[.slice ao n cap] w fun e w' => ∃ (v : Value) (s : Nat), e = .returned (.tuple #[v, .int .u64 (s : Nat), .bool true]) ∧ Hid (StP w l v s w') := by
  have HMY := hide (mayA n cap hn hA hao hbw hle)
  have HN := hide hn
  have HA := hide hA
  have HAO := hide hao
  have HBW := hide hbw
  clear hn hA hao hbw
  go_enter Try.func5, Try.ntmps5
  go_wp2_with fail
  refine HMY.out.mono ?_
  rintro e w0 ⟨s, t, rfl, GM, GB⟩
  have HA0 := hide (HA.out.below GB.out (fun hp => HBW.out (by have := HN.out; omega)))
  have HLD := hide (lendA n cap HN.out HA0.out HAO.out (fun hp => Nat.lt_of_lt_of_le (HBW.out hp) GB.out.size) hle)
  clear HMY
  go_upto_region 2 with fail
  go_wp2_with fail
  refine HLD.out.mono ?_
  rintro e w1 ⟨rfl, G1⟩
  have hsp : ∀ x ∈ l ++ spareA, x.In := fun x hx => by
    rcases List.mem_append.1 hx with hx | hx
    · exact HA.out.ok x hx
    · simp [spareA] at hx
      rcases hx with rfl | rfl | rfl <;> exact ⟨by decide, by decide, by decide, by decide⟩
  have hS1 := acs_of_row G1.out.1 hsp
  have hA1 : Acs w1 w0.heap.size 0 l := ⟨HA.out.ok, fun i x hi j v hj => hS1.at_ i x (by rw [List.getElem?_append_left (List.getElem?_eq_some_iff.1 hi).1]; exact hi) j v hj⟩
  have hgl : w0.heap.size < w1.heap.size := (G1.out.1.lt w0.heap.size rfl).2
  have HNW := hide (newG n (n + 3) HN.out hA1 (fun _ => rfl) (fun _ => hgl) hle)
  have HB1 : Hid (Below w.heap.size w w1) := GB.out.trans (G1.out.2.mono GB.out.size)
  clear hsp hS1 hA1 hgl HLD G1 GB HA0 HA HAO HBW
  go_wp2_with fail
  refine HNW.out.mono ?_
  rintro e w2 ⟨v, er, rfl, G2⟩
  have HB2 : Hid (Below w.heap.size w w2) := HB1.out.trans (G2.out.1.mono HB1.out.size)
  have HSZ := hide HB1.out.size
  clear HNW
  have hcase : (t = false ∧ v = .pointer none ∧ ¬ (l.length ≤ 64 ∧ Good l l.length) ∧ ∃ g, er = .iface 124 (.pointer (some ⟨g, 0, none⟩))) ∨ (t = true ∧ er = .nilIface ∧ ∃ p, v = .pointer (some ⟨p, 0, none⟩) ∧ Hid (StP w l v s w2 ∧ s = sumA l ∧ ∃ a b, LP w2 p a b l (sumA l))) := by
    rcases G2.out.2 with ⟨a1, a2, a3⟩ | ⟨a1, k, c1, a2, a3, a4⟩ | ⟨a1, a2, a3, p, a, b, a4, a5, a6, a7, a8⟩
    · rcases GM.out with ⟨d1, d2, d3, d4⟩ | ⟨d1, _⟩
      · omega
      · obtain ⟨g, u, e1, _⟩ := a3
        exact .inl ⟨d1, a2, fun hh => by omega, g, e1⟩
    · rcases GM.out with ⟨d1, d2, d3, d4⟩ | ⟨d1, _⟩
      · exact (good_bad d2 a2).elim
      · obtain ⟨g, u, e1, _⟩ := a4
        exact .inl ⟨d1, a3, fun hh => good_bad hh.2 a2, g, e1⟩
    · rcases GM.out with ⟨d1, d2, d3, d4⟩ | ⟨d1, d2 | ⟨k, c, d2⟩⟩
      · have := HSZ.out
        exact .inr ⟨d1, a3, p, a4, ⟨HB2.out, .inr ⟨a1, a2, d4, p, a, b, a4, a5, by omega, by omega, by omega⟩⟩, d4, a, b, a5.toLP⟩
      · omega
      · exact (good_bad a2 d2).elim
  clear G2 GM HN HSZ HB1
  rcases hcase with ⟨rfl, rfl, hnot, g, rfl⟩ | ⟨rfl, rfl, p, rfl, HS⟩
  · have HE2 : Hid (∀ q, StP w l (.pointer none) 0 (w2.drewN q)) := fun q => ⟨below_dA HB2.out q, .inl ⟨rfl, hnot⟩⟩
    clear HB2 hnot
    go_wp2_with fail
    go_quiet (fail)
    go_wp2
    refine bodyPost_ret (v := .tuple #[.pointer none, .int .u64 0, .bool true]) (by simp [results, Try.results5, go_sem]) rfl ⟨_, 0, rfl, ?_⟩
    exact hide (HE2.out _)
  · have HTT : Hid (Calls Try.prog 19 #[.pointer (some ⟨p, 0, none⟩)] w2 fun e w' => e = .returned (.int .u64 (s : Nat)) ∧ w' = w2) := by
      obtain ⟨_, h2, a, b, h3⟩ := HS.out
      rw [h2]
      exact totalA h3
    clear HB2
    go_wp2_with fail
    refine HTT.out.mono ?_
    rintro e w3 ⟨rfl, e9⟩
    rw [e9]
    clear e9 HTT
    go_wp2
    refine bodyPost_ret (v := .tuple #[.pointer (some ⟨p, 0, none⟩), .int .u64 (s : Nat), .bool true]) (by simp [results, Try.results5, go_sem]) rfl ⟨_, s, rfl, HS.out.1⟩
end Go.Proofs.Ytcfenjpdjogmdaa
