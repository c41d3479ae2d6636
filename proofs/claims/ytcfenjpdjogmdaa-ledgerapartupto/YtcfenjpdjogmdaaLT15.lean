import Derived.Test.YtcfenjpdjogmdaaLT13
import Derived.Deep.CutBlock
import Derived.Deep.DeepCutAuto
import Derived.Test.YtcfenjpdjogmdaaLT12
import Derived.Test.YtcfenjpdjogmdaaLT14
namespace Go.Proofs.Ytcfenjpdjogmdaa
open Go.RowKit

/-- A word lies at p; all else is as it was. -/
structure XS (B : Nat) (w : World) (p : Nat) (V : World) (u : Int) : Prop where
  at_ : V.heap[p]? = some (.cells #[.int .u64 u] 154 (0, 0))
  bel : Below B w V
  bp : B ≤ p
  oth : ∀ k, k ≠ p → V.heap[k]? = w.heap[k]?
theorem XS.drew {B : Nat} {w : World} {p : Nat} {V : World} {u : Int} (h : XS B w p V u) : XS B w p V.drew u := ⟨h.at_, h.bel.drew, h.bp, h.oth⟩
theorem XS.set {B : Nat} {w : World} {p : Nat} {V : World} {u : Int} (h : XS B w p V u) (u' : Int) : XS B w p (V.setCell ⟨p, 0, none⟩ (.int .u64 u')) u' := by
  refine ⟨?_, h.bel.setCell (p := ⟨p, 0, none⟩) h.bp _, h.bp, fun k hk => ?_⟩
  · have e := heap_setCell_same V p 0 _ _ (.int .u64 u') h.at_
    simpa using e
  · rw [heap_setCell_other V _ _ _ hk]
    exact h.oth k hk
set_option maxRecDepth 10000 in
set_option maxHeartbeats 800000 in
theorem nextZ (B p : Nat) (v : Int) (w : World) (h : XS B w p w v) :
    Calls Try.prog 96 #[.pointer (some ⟨p, 0, none⟩)] w fun e w' => ∃ u : Int, e = .returned (.int .u64 u) ∧ Hid (XS B w p w' u) := by
  have HX := hide h
  have c0 := block_cell h.at_ 0
  have c1 := block_free h.at_ 0
  have c2 := block_lt h.at_
  simp only [List.getElem?_toArray, List.getElem?_cons_zero] at c0
  clear h
  go_enter Try.func96, Try.ntmps96
  go_upto_region 1 with fail
  go_cut [] (fun wx => ∃ u, Hid (XS B w p wx u))
  case first =>
    go_region
    go_wp2
    go_meet
    case rel => first | exact ⟨_, HX.out.drew.set _⟩ | exact ⟨_, (HX.out.set _).drew⟩
  case rest =>
  clear c0 c1 c2 HX
  obtain ⟨v1, HX⟩ := hcut
  have c0 := block_cell HX.out.at_ 0
  have c1 := block_free HX.out.at_ 0
  have c2 := block_lt HX.out.at_
  simp only [List.getElem?_toArray, List.getElem?_cons_zero] at c0
  go_upto_region 2 with fail
  go_cut [] (fun wx => ∃ u, Hid (XS B w p wx u))
  case first =>
    go_region
    go_wp2
    go_meet
    case rel => first | exact ⟨_, HX.out.drew.set _⟩ | exact ⟨_, (HX.out.set _).drew⟩
  case rest =>
  clear c0 c1 c2 HX
  obtain ⟨v2, HX⟩ := hcut
  have c0 := block_cell HX.out.at_ 0
  have c1 := block_free HX.out.at_ 0
  have c2 := block_lt HX.out.at_
  simp only [List.getElem?_toArray, List.getElem?_cons_zero] at c0
  go_upto_region 3 with fail
  go_cut [] (fun wx => ∃ u, Hid (XS B w p wx u))
  case first =>
    go_region
    go_wp2
    go_meet
    case rel => first | exact ⟨_, HX.out.drew.set _⟩ | exact ⟨_, (HX.out.set _).drew⟩
  case rest =>
  clear c0 c1 c2 HX
  obtain ⟨v3, HX⟩ := hcut
  have c0 := block_cell HX.out.at_ 0
  have c1 := block_free HX.out.at_ 0
  have c2 := block_lt HX.out.at_
  simp only [List.getElem?_toArray, List.getElem?_cons_zero] at c0
  go_wp2
  go_ret
  exact ⟨_, rfl, HX.out⟩
end Go.Proofs.Ytcfenjpdjogmdaa
namespace Go.Proofs.Ytcfenjpdjogmdaa
open Go.RowKit

/-- A sort's state with a word of its own at p. -/
structure ZX (B : Nat) (w : World) (g cap n a b p : Nat) (D0 : Nat → Nat) (V : World) (D : Nat → Nat) (u : Int) : Prop where
  zs : ZS B w g cap n a b D0 V D
  wd : V.heap[p]? = some (.cells #[.int .u64 u] 154 (0, 0))
theorem ZX.ne {B : Nat} {w : World} {g cap n a b p : Nat} {D0 : Nat → Nat} {V : World} {D : Nat → Nat} {u : Int} (h : ZX B w g cap n a b p D0 V D u) : g ≠ p := fun e => by
  obtain ⟨cur, h1, _⟩ := h.zs.row
  rw [e, h.wd] at h1
  cases h1
theorem ZX.next {B : Nat} {w : World} {g cap n a b p : Nat} {D0 : Nat → Nat} {V V' : World} {D : Nat → Nat} {u u' : Int} (h : ZX B w g cap n a b p D0 V D u) (hx : XS B V p V' u') : ZX B w g cap n a b p D0 V' D u' := ⟨⟨h.zs.row.kept (hx.oth g h.ne), h.zs.perm, h.zs.bel.trans hx.bel, h.zs.bg⟩, hx.at_⟩
theorem ZX.drew {B : Nat} {w : World} {g cap n a b p : Nat} {D0 : Nat → Nat} {V : World} {D : Nat → Nat} {u : Int} (h : ZX B w g cap n a b p D0 V D u) : ZX B w g cap n a b p D0 V.drew D u := ⟨h.zs.drew, h.wd⟩
theorem ZX.swap {B : Nat} {w : World} {g cap n a b p : Nat} {D0 : Nat → Nat} {V : World} {D : Nat → Nat} {u : Int} (h : ZX B w g cap n a b p D0 V D u) {i j : Nat} (h1 : a ≤ i) (h2 : i < b) (h3 : a ≤ j) (h4 : j < b) : ZX B w g cap n a b p D0 ((V.setCell ⟨g, i, none⟩ (.int .u64 (D j : Nat))).setCell ⟨g, j, none⟩ (.int .u64 (D i : Nat))) (swp D i j) u := by
  refine ⟨h.zs.swap h1 h2 h3 h4, ?_⟩
  have hne : p ≠ g := fun e => h.ne e.symm
  rw [heap_setCell_other _ ⟨g, j, none⟩ p _ hne, heap_setCell_other _ ⟨g, i, none⟩ p _ hne]
  exact h.wd
set_option maxRecDepth 100000 in
set_option maxHeartbeats 1000000 in
theorem breakZ (B g cap n : Nat) (hn : n < 256) (hB : B ≤ g) : BreakOk B g cap n := by
  intro a b D0 w hl hb hr
  obtain ⟨l, hle⟩ : ∃ l, a + l = b := ⟨b - a, by omega⟩
  obtain ⟨M, hM1, hM2, hM3⟩ := powZ l (by omega) (by omega)
  obtain ⟨W2, hW2⟩ : ∃ W2, w.alloc (.cells #[.int .u64 (l : Nat)] 154) = W2 := ⟨_, rfl⟩
  have hBp : B ≤ w.heap.size := Nat.le_of_lt (Nat.lt_of_le_of_lt hB hr.lt)
  have I0 : Hid (∃ D u, ZX B w g cap n a b w.heap.size D0 W2 D u) := by
    refine ⟨D0, (l : Int), ⟨?_, PermR.refl _ _ _, ?_, hB⟩, ?_⟩
    · rw [← hW2]; exact hr.kept ((World.grownBy_alloc _ _ none).block _ hr.lt (by simp))
    · rw [← hW2]; exact ((Below.refl _ w).alloc (Nat.le_refl _) _).mono hBp
    · rw [← hW2]; simp [World.alloc, -World.alloc_eq]
  have HM := hide (hM3 W2)
  have HW2 := hide hW2
  obtain ⟨j0, hj0⟩ : ∃ j0, a + l / 4 * 2 = j0 := ⟨_, rfl⟩
  have HJ0 := hide hj0
  have e1 : (b : Int) - (a : Int) = (l : Int) := by omega
  have e2 : (a : Int) + (l : Int) / 4 * 2 = (j0 : Int) := by omega
  have hj1 : a + 6 ≤ j0 := by omega
  have hj2 : j0 + 6 ≤ b := by omega
  have hl8 : 8 ≤ l := by omega
  have hlw : IntKind.u64.wrap (l : Int) = (l : Int) := IntWalk.u64_in _ ⟨by omega, by omega⟩
  have hMw : IntKind.u64.wrap ((M : Int) - 1) = (M : Int) - 1 := IntWalk.u64_in _ ⟨by omega, by omega⟩
  clear hM3 hW2 hr hj0
  go_enter Try.func85, Try.ntmps85
  go_upto_region 3 with fail
  rw [HW2.out]
  clear HW2
  generalize w.heap.size = p at *
  go_wp2_with fail
  refine HM.out.mono ?_
  rintro e w3 ⟨rfl, rfl⟩
  go_wp2
  clear e1 hlw HM
  go_loopw [9, 10] (fun s _ wr => ∃ i : Nat, j0 ≤ i + 1 ∧ i ≤ j0 + 2 ∧ s = .int .i64 (i : Nat) ∧ Hid (∃ D u, ZX B w g cap n a b p D0 wr D u)) (fun s _ _ => j0 + 2 - (intOf s).toNat)
  case atStart => exact ⟨j0 - 1, by omega, by omega, by go_num, I0.out⟩
  case round =>
    obtain ⟨i, hi1, hi2, rfl, HJ⟩ := hrel
    clear I0
    by_cases hlt : i ≤ j0 + 1
    · obtain ⟨D, u, hZ⟩ := HJ.out
      have HC := hide (nextZ B p u wr ⟨hZ.wd, Below.refl _ _, hBp, fun _ _ => rfl⟩)
      have HZ := hide hZ
      clear hZ HJ
      go_wp2_with fail
      refine HC.out.mono ?_
      rintro e w4 ⟨u4, rfl, G⟩
      have HZ4 := hide (HZ.out.next G.out)
      clear HC HZ G
      obtain ⟨o, ho, hoM⟩ : ∃ o : Nat, bits .and .u64 u4 ((M : Int) - 1) = (o : Int) ∧ o < M := by
        have h := and_leZ u4 ((M : Int) - 1) (by omega) (by omega)
        exact ⟨(bits .and .u64 u4 ((M : Int) - 1)).toNat, by omega, by omega⟩
      go_upto_if 43 with fail
      go_cut [10] from 26 to 64 (fun s wx => ∃ o : Nat, o < l ∧ s = .int .i64 (o : Nat) ∧ wx = w4)
      case first =>
        by_cases hol : l ≤ o
        · go_wp2
          go_meet
          case rel => exact ⟨o - l, by omega, by go_num, rfl⟩
        · go_wp2
          go_meet
          case rel => exact ⟨o, by omega, rfl, rfl⟩
      case rest =>
      clear ho hoM
      obtain ⟨k, hk, rfl, rfl⟩ := hcut
      obtain ⟨f, hf⟩ : ∃ f, a + k = f := ⟨_, rfl⟩
      have i1 : (a : Int) + (k : Int) = (f : Int) := by omega
      have hfn : f < n := by omega
      have hin : i < n := by omega
      obtain ⟨x, hx⟩ : ∃ x, D i = x := ⟨_, rfl⟩
      obtain ⟨z, hz⟩ : ∃ z, D f = z := ⟨_, rfl⟩
      have NX : Hid (∀ V, ZX B w g cap n a b p D0 V D u4 → ∃ D u, ZX B w g cap n a b p D0 ((V.setCell ⟨g, i, none⟩ (.int .u64 (z : Int))).setCell ⟨g, f, none⟩ (.int .u64 (x : Int))) D u) := fun V hV => by
        have h := hV.swap (i := i) (j := f) (by omega) (by omega) (by omega) (by omega)
        rw [hx, hz] at h
        exact ⟨_, _, h⟩
      have a0 : wc.cell? ⟨g, i, none⟩ = some (.int .u64 (x : Int)) := by rw [← hx]; exact HZ4.out.zs.row.cell hin
      have a1 : wc.cell? ⟨g, f, none⟩ = some (.int .u64 (z : Int)) := by rw [← hz]; exact HZ4.out.zs.row.cell hfn
      have a2 : g < wc.heap.size := HZ4.out.zs.row.lt
      have a3 := HZ4.out.zs.row.free i
      have a4 := HZ4.out.zs.row.free f
      by_cases hif : i = f
      · subst hif
        have exz : x = z := by rw [← hx, hz]
        subst exz
        clear hx hz hf a1 a4
        go_upto_region 10 with fail
        go_region
        go_wp2
        go_roundw
        case rel => exact ⟨i + 1, by omega, by omega, by go_num, NX.out _ HZ4.out.drew⟩
        case measure => (simp [intOf] <;> omega)
      · clear hx hz hf
        go_upto_region 10 with fail
        go_region
        go_wp2
        go_roundw
        case rel => exact ⟨i + 1, by omega, by omega, by go_num, NX.out _ HZ4.out.drew⟩
        case measure => (simp [intOf] <;> omega)
    · have FIN : Hid (∃ D, ZS B w g cap n a b D0 wr D) := by
        obtain ⟨D, u, h⟩ := HJ.out
        exact ⟨D, h.zs⟩
      clear HJ
      go_wp2
      go_end0
      exact ⟨rfl, FIN.out⟩
end Go.Proofs.Ytcfenjpdjogmdaa
namespace Go.Proofs.Ytcfenjpdjogmdaa
open Go.RowKit

set_option maxRecDepth 10000 in
set_option maxHeartbeats 800000 in
/-- slices.Sort of 1 to 255 numbers. -/
theorem sortZ (B g cap n : Nat) (D0 : Nat → Nat) (h0 : 0 < n) (hn : n < 256) (w : World) (hr : RowF w g cap n D0) (hB : B ≤ g) :
    Calls Try.prog 70 #[.slice (some ⟨g, 0, none⟩) n cap] w fun e w' => e = .returned (.tuple #[]) ∧ Hid (∃ D, SortR 0 n D ∧ ZS B w g cap n 0 n D0 w' D) := by
  obtain ⟨v, _, _, hv⟩ := lenZ n h0 hn
  have HL := hide (hv w)
  have H : Hid (∀ lim : Int, Calls Try.prog 81 #[.slice (some ⟨g, 0, none⟩) n cap, .int .i64 0, .int .i64 (n : Nat), .int .i64 lim] w fun e w' => e = .returned (.tuple #[]) ∧ Hid (∃ D, SortR 0 n D ∧ ZS B w g cap n 0 n D0 w' D)) := fun lim => pdqZ B g cap n (by omega) hB (breakZ B g cap n hn hB) n 0 n lim D0 w (by omega) (by omega) (Nat.le_refl _) hr (.inl rfl)
  have hw : IntKind.u64.wrap (n : Int) = (n : Int) := IntWalk.u64_in _ ⟨by omega, by omega⟩
  clear hr hB hv
  go_enter Try.func70, Try.ntmps70
  go_wp2_with fail
  refine HL.out.mono ?_
  rintro e w1 ⟨rfl, rfl⟩
  go_wp2_with fail
  refine (H.out _).mono ?_
  rintro e w2 ⟨rfl, G2⟩
  go_wp2
  go_end0
  exact ⟨rfl, G2⟩
end Go.Proofs.Ytcfenjpdjogmdaa
namespace Go.Proofs.Ytcfenjpdjogmdaa
open Go.RowKit

set_option maxRecDepth 10000 in
theorem len64Z_0 (w : World) : Calls Try.prog 93 #[.int .u64 0] w fun e w' => e = .returned (.int .i64 0) ∧ w' = w := by
  go_enter Try.func93, Try.ntmps93
  go_wp2
  go_ret
  exact ⟨by kernel_rfl, rfl⟩
set_option maxRecDepth 10000 in
theorem lenZ_0 (w : World) : Calls Try.prog 82 #[.int .u64 0] w fun e w' => e = .returned (.int .i64 0) ∧ w' = w := by
  have H := hide (len64Z_0 w)
  go_enter Try.func82, Try.ntmps82
  go_wp2_with fail
  refine H.out.mono ?_
  rintro e w' ⟨rfl, rfl⟩
  go_wp2
  go_ret
  exact ⟨rfl, rfl⟩
set_option maxRecDepth 10000 in
theorem isort_none (ao : Option Addr) (cap : Nat) (w : World) : Calls Try.prog 83 #[.slice ao 0 cap, .int .i64 0, .int .i64 0] w fun e w' => e = .returned (.tuple #[]) ∧ w' = w := by
  go_enter Try.func83, Try.ntmps83
  go_wp2
  refine wp_loop_rounds 1 ?_
  rw [rounds_succ]
  go_wp2
  go_end0
  exact ⟨rfl, rfl⟩
set_option maxRecDepth 10000 in
theorem pdq_none (ao : Option Addr) (cap : Nat) (w : World) : Calls Try.prog 81 #[.slice ao 0 cap, .int .i64 0, .int .i64 0, .int .i64 0] w fun e w' => e = .returned (.tuple #[]) ∧ w' = w := by
  have H := hide (isort_none ao cap w)
  go_enter Try.func81, Try.ntmps81
  go_wp2
  refine wp_loop_rounds 1 ?_
  rw [rounds_succ]
  go_wp2_with fail
  refine H.out.mono ?_
  rintro e w' ⟨rfl, rfl⟩
  go_wp2
  refine bodyPost_ret (v := .tuple #[]) (by simp [results, Try.results81, go_sem]) rfl ?_
  exact ⟨rfl, rfl⟩
set_option maxRecDepth 10000 in
/-- Sort of nothing. -/
theorem sort_none (ao : Option Addr) (cap : Nat) (w : World) : Calls Try.prog 70 #[.slice ao 0 cap] w fun e w' => e = .returned (.tuple #[]) ∧ w' = w := by
  have HL := hide (lenZ_0 w)
  have H := hide (pdq_none ao cap w)
  go_enter Try.func70, Try.ntmps70
  go_wp2_with fail
  refine HL.out.mono ?_
  rintro e w1 ⟨rfl, rfl⟩
  go_wp2_with fail
  refine H.out.mono ?_
  rintro e w2 ⟨rfl, rfl⟩
  go_wp2
  go_end0
  exact ⟨rfl, rfl⟩
end Go.Proofs.Ytcfenjpdjogmdaa
