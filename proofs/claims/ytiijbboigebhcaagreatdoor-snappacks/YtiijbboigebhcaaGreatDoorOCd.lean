import Derived.Deep.DeepCutAuto
import Derived.Test.YtiijbboigebhcaaGreatDoorM49
import Derived.Test.YtiijbboigebhcaaGreatDoorM31
import Derived.Test.YtiijbboigebhcaaGreatDoorOTw
import Derived.Test.YtiijbboigebhcaaGreatDoorM45
import Derived.Test.YtiijbboigebhcaaGreatDoorM39
import Derived.Test.YtiijbboigebhcaaGreatDoorRows
import Derived.ProofKit
import Derived.OpenShut
import Derived.ChangeOld
import Derived.Below
import Derived.SizedLaws
import Derived.Deep.Slices
import Derived.Test.YtiijbboigebhcaaGreatDoorCards
import Derived.Test.YtiijbboigebhcaaGreatDoorTie
import Derived.Deep.DeepHandedRow
import Derived.RowKitTokens
import Derived.LaidLaws
import Derived.LaidHandle
import Derived.Stop.Joined
import Derived.SevenTiedAt
namespace Go.Proofs.YtiijbboigebhcaaGreatDoor
open Go.RowKit Crc

theorem vals_ints (B : List Nat) (i : Nat) (h : i < B.length) : ∃ c : Int, (vals B)[i]? = some (.int .u8 c) := ⟨(B[i] : Int), by simp [vals, List.getElem?_eq_getElem h]⟩
set_option maxRecDepth 10000 in
set_option maxHeartbeats 3200000 in
theorem sp_walk (m : Mi) {w : World} (hv : m.Vw w) (hr : m.Rn) : Calls Tryz.prog 3 #[.agg #[.int .u64 (m.slot : Int), .int .u64 (m.now : Int), .int .u64 (m.tot : Int), .int .u64 (m.nx : Int), .slice m.ao m.an m.ac, .slice m.ho m.hn m.hc, .slice m.jo m.jn m.jc, .slice m.dO m.dn m.dc, .int .u64 (m.ends : Int), .slice m.so m.sn m.sc]] w fun e w' => e = .returned (.bool true) ∧ Below w.heap.size w w' := by
  obtain ⟨W1, hW1⟩ : ∃ W1, w.alloc (.cells #[.int .u64 (m.slot : Int), .int .u64 (m.now : Int), .int .u64 (m.tot : Int), .int .u64 (m.nx : Int), .slice m.ao m.an m.ac, .slice m.ho m.hn m.hc, .slice m.jo m.jn m.jc, .slice m.dO m.dn m.dc, .int .u64 (m.ends : Int), .slice m.so m.sn m.sc] 33) = W1 := ⟨_, rfl⟩
  have b1 : Below w.heap.size w W1 := by rw [← hW1]; exact (Below.refl _ w).alloc (Nat.le_refl _) _
  have Q1 : Hid (W1.heap[w.heap.size]? = some (.cells #[.int .u64 (m.slot : Int), .int .u64 (m.now : Int), .int .u64 (m.tot : Int), .int .u64 (m.nx : Int), .slice m.ao m.an m.ac, .slice m.ho m.hn m.hc, .slice m.jo m.jn m.jc, .slice m.dO m.dn m.dc, .int .u64 (m.ends : Int), .slice m.so m.sn m.sc] 33 (0, 0))) := by show _ = _; rw [← hW1]; exact alloc_atN _ _
  have SM := hide (small_any m (hv.below b1))
  have B1 := hide b1
  have HV := hide hv
  have HR := hide hr
  have HW1 := hide hW1
  clear hv hr b1 hW1
  go_enter Tryz.func3, Tryz.ntmps3
  go_upto_region 1 with fail
  rw [HW1.out]
  have y0 := block_cell Q1.out 0
  have y1 := block_cell Q1.out 1
  have y2 := block_cell Q1.out 2
  have y3 := block_cell Q1.out 3
  have y4 := block_cell Q1.out 4
  have y5 := block_cell Q1.out 5
  have y6 := block_cell Q1.out 6
  have y7 := block_cell Q1.out 7
  have y8 := block_cell Q1.out 8
  have y9 := block_cell Q1.out 9
  simp at y0 y1 y2 y3 y4 y5 y6 y7 y8 y9
  have hly := block_lt Q1.out
  go_wp2_with fail
  refine SM.out.mono ?_
  rintro e W2 ⟨b, rfl, G2⟩
  have B2 := hide (below_trans1 B1.out G2.out.2)
  have q2 := (G2.out.2.block _ (block_lt Q1.out)).trans Q1.out
  have Q2 := hide q2
  clear q2
  clear hly y0 y1 y2 y3 y4 y5 y6 y7 y8 y9
  cases b with
  | false =>
    go_wp2
    go_ret
    exact ⟨rfl, B2.out⟩
  | true =>
    have HS := hide (G2.out.1 rfl)
    clear G2 SM Q1 HW1 B1
    have TW := hide (twinImage_any m (HV.out.below B2.out) HS.out)
    unfold TwQ at TW
    have y0 := block_cell Q2.out 0
    have y1 := block_cell Q2.out 1
    have y2 := block_cell Q2.out 2
    have y3 := block_cell Q2.out 3
    have y4 := block_cell Q2.out 4
    have y5 := block_cell Q2.out 5
    have y6 := block_cell Q2.out 6
    have y7 := block_cell Q2.out 7
    have y8 := block_cell Q2.out 8
    have y9 := block_cell Q2.out 9
    simp at y0 y1 y2 y3 y4 y5 y6 y7 y8 y9
    have hly := block_lt Q2.out
    go_wp2_with fail
    refine TW.out.mono ?_
    rintro e W3 ⟨m', rfl, G3⟩
    clear hly y0 y1 y2 y3 y4 y5 y6 y7 y8 y9
    have Q3 := hide ((G3.out.2.block _ (block_lt Q2.out)).trans Q2.out)
    have B3 := hide (below_trans1 B2.out G3.out.2)
    have hs3 := block_lt Q3.out
    have T3 := hide G3.out.1
    clear Q2 TW G3 B2
    obtain ⟨W4, hW4⟩ : ∃ W4, W3.alloc (.cells #[.int .u64 (m'.slot : Int), .int .u64 (m'.now : Int), .int .u64 (m'.tot : Int), .int .u64 (m'.nx : Int), .slice m'.ao m'.an m'.ac, .slice m'.ho m'.hn m'.hc, .slice m'.jo m'.jn m'.jc, .slice m'.dO m'.dn m'.dc, .int .u64 (m'.ends : Int), .slice m'.so m'.sn m'.sc] 33) = W4 := ⟨_, rfl⟩
    have b4 : Below W3.heap.size W3 W4 := by rw [← hW4]; exact (Below.refl _ W3).alloc (Nat.le_refl _) _
    have P4 : Hid (W4.heap[W3.heap.size]? = some (.cells #[.int .u64 (m'.slot : Int), .int .u64 (m'.now : Int), .int .u64 (m'.tot : Int), .int .u64 (m'.nx : Int), .slice m'.ao m'.an m'.ac, .slice m'.ho m'.hn m'.hc, .slice m'.jo m'.jn m'.jc, .slice m'.dO m'.dn m'.dc, .int .u64 (m'.ends : Int), .slice m'.so m'.sn m'.sc] 33 (0, 0))) := by show _ = _; rw [← hW4]; exact alloc_atN _ _
    have Q4 := hide ((b4.block _ hs3).trans Q3.out)
    have B4 := hide (below_trans1 B3.out b4)
    have T4 := hide (T3.out.below b4)
    have LIM : Hid (W3.heap.size < W4.heap.size ∧ w.heap.size < W4.heap.size) := ⟨block_lt P4.out, block_lt Q4.out⟩
    have B34 := hide b4
    have HW4 := hide hW4
    obtain ⟨pb, pl, pc⟩ := pk_tw T4.out (HV.out.below B4.out)
    have PK := hide (And.intro pb (And.intro pl pc))
    have PA : Hid (∀ V, Below W4.heap.size W4 V → Calls Tryz.prog 7 #[.agg #[.int .u64 (m'.slot : Int), .int .u64 (m'.now : Int), .int .u64 (m'.tot : Int), .int .u64 (m'.nx : Int), .slice m'.ao m'.an m'.ac, .slice m'.ho m'.hn m'.hc, .slice m'.jo m'.jn m'.jc, .slice m'.dO m'.dn m'.dc, .int .u64 (m'.ends : Int), .slice m'.so m'.sn m'.sc]] V fun e w' => ∃ o c x, e = .returned (.tuple #[.slice o m.pkB.length c, x]) ∧ Hid (Owns V.heap.size w' (.slice o m.pkB.length c) m.pkB ∧ ErrC' w' x m.pkL m.pkC ∧ Below V.heap.size V w')) := fun V hb => (packS_any m' (small_tw T4.out HS.out) ((T4.out.below hb).own) (rn_tw T4.out HR.out)).mono fun e w' ⟨v, x, he, G⟩ => by
      have G := G.out
      rw [PK.out.1, PK.out.2.1, PK.out.2.2] at G
      obtain ⟨o, c, rfl, -, -⟩ := G.1.form
      exact ⟨o, c, x, he, G⟩
    have RPA : Hid (∀ V, Below W4.heap.size W4 V → Calls Tryz.prog 8 #[.agg #[.int .u64 (m.slot : Int), .int .u64 (m.now : Int), .int .u64 (m.tot : Int), .int .u64 (m.nx : Int), .slice m.ao m.an m.ac, .slice m.ho m.hn m.hc, .slice m.jo m.jn m.jc, .slice m.dO m.dn m.dc, .int .u64 (m.ends : Int), .slice m.so m.sn m.sc]] V (RPackQ m V)) := fun V hb => rpack_any m (small_sml HS.out) (HV.out.below (B4.out.trans (hb.mono B4.out.size))) HR.out
    have KP : Hid (∀ V, Below W4.heap.size W4 V → Calls Tryz.prog 11 #[.agg #[.int .u64 (m'.slot : Int), .int .u64 (m'.now : Int), .int .u64 (m'.tot : Int), .int .u64 (m'.nx : Int), .slice m'.ao m'.an m'.ac, .slice m'.ho m'.hn m'.hc, .slice m'.jo m'.jn m'.jc, .slice m'.dO m'.dn m'.dc, .int .u64 (m'.ends : Int), .slice m'.so m'.sn m'.sc], .agg #[.int .u64 (m.slot : Int), .int .u64 (m.now : Int), .int .u64 (m.tot : Int), .int .u64 (m.nx : Int), .slice m.ao m.an m.ac, .slice m.ho m.hn m.hc, .slice m.jo m.jn m.jc, .slice m.dO m.dn m.dc, .int .u64 (m.ends : Int), .slice m.so m.sn m.sc]] V fun e w' => e = .returned (.bool true) ∧ Hid (Below V.heap.size V w')) := fun V hb => keptImage_any m m' (HV.out.below (B4.out.trans (hb.mono B4.out.size))) (T4.out.below hb) HS.out
    have BX : Hid (∀ V, Below W4.heap.size W4 V → V.heap[w.heap.size]? = some (.cells #[.int .u64 (m.slot : Int), .int .u64 (m.now : Int), .int .u64 (m.tot : Int), .int .u64 (m.nx : Int), .slice m.ao m.an m.ac, .slice m.ho m.hn m.hc, .slice m.jo m.jn m.jc, .slice m.dO m.dn m.dc, .int .u64 (m.ends : Int), .slice m.so m.sn m.sc] 33 (0, 0)) ∧ V.heap[W3.heap.size]? = some (.cells #[.int .u64 (m'.slot : Int), .int .u64 (m'.now : Int), .int .u64 (m'.tot : Int), .int .u64 (m'.nx : Int), .slice m'.ao m'.an m'.ac, .slice m'.ho m'.hn m'.hc, .slice m'.jo m'.jn m'.jc, .slice m'.dO m'.dn m'.dc, .int .u64 (m'.ends : Int), .slice m'.so m'.sn m'.sc] 33 (0, 0)) ∧ Below w.heap.size w V) := fun V hb => ⟨(hb.block _ LIM.out.2).trans Q4.out, (hb.block _ LIM.out.1).trans P4.out, B4.out.trans (hb.mono B4.out.size)⟩
    clear pb pl pc b4 hs3 hW4 T3 T4 Q3 Q4 B3 B4 P4 PK HV HR HS B34
    unfold RPackQ at RPA
    generalize hBY : m.pkB = BY at *
    generalize hLK : m.pkL = LK at *
    generalize hPC : m.pkC = pc at *
    clear hBY hLK hPC
    generalize hbn : BY.length = bn at *
    have HBN := hide hbn
    clear hbn
    go_upto_region 4 with fail
    rw [HW4.out]
    have R4 := hide (Below.refl W4.heap.size W4)
    have q := BX.out _ R4.out
    have z0 := block_cell q.2.1 0
    have z1 := block_cell q.2.1 1
    have z2 := block_cell q.2.1 2
    have z3 := block_cell q.2.1 3
    have z4 := block_cell q.2.1 4
    have z5 := block_cell q.2.1 5
    have z6 := block_cell q.2.1 6
    have z7 := block_cell q.2.1 7
    have z8 := block_cell q.2.1 8
    have z9 := block_cell q.2.1 9
    simp at z0 z1 z2 z3 z4 z5 z6 z7 z8 z9
    have hlz := block_lt q.2.1
    clear q
    go_wp2_with fail
    refine (PA.out _ R4.out).mono ?_
    rintro e W5 ⟨o1, c1, x1, rfl, G5⟩
    have B5 := hide (R4.out.trans G5.out.2.2)
    clear hlz z0 z1 z2 z3 z4 z5 z6 z7 z8 z9
    have q := BX.out _ B5.out
    have z0 := block_cell q.2.1 0
    have z1 := block_cell q.2.1 1
    have z2 := block_cell q.2.1 2
    have z3 := block_cell q.2.1 3
    have z4 := block_cell q.2.1 4
    have z5 := block_cell q.2.1 5
    have z6 := block_cell q.2.1 6
    have z7 := block_cell q.2.1 7
    have z8 := block_cell q.2.1 8
    have z9 := block_cell q.2.1 9
    simp at z0 z1 z2 z3 z4 z5 z6 z7 z8 z9
    have hlz := block_lt q.2.1
    clear q
    go_wp2_with fail
    refine (PA.out _ B5.out).mono ?_
    rintro e W6 ⟨o2, c2, x2, rfl, G6⟩
    have B6 := hide (B5.out.trans (G6.out.2.2.mono B5.out.size))
    clear hlz z0 z1 z2 z3 z4 z5 z6 z7 z8 z9
    have q := BX.out _ B6.out
    have z0 := block_cell q.1 0
    have z1 := block_cell q.1 1
    have z2 := block_cell q.1 2
    have z3 := block_cell q.1 3
    have z4 := block_cell q.1 4
    have z5 := block_cell q.1 5
    have z6 := block_cell q.1 6
    have z7 := block_cell q.1 7
    have z8 := block_cell q.1 8
    have z9 := block_cell q.1 9
    simp at z0 z1 z2 z3 z4 z5 z6 z7 z8 z9
    have hlz := block_lt q.1
    clear q
    go_wp2_with fail
    refine (RPA.out _ B6.out).mono ?_
    rintro e W7 ⟨o3, n3, c3, fo, fc, rfl, G7⟩
    clear hlz z0 z1 z2 z3 z4 z5 z6 z7 z8 z9
    have B7 := hide (B6.out.trans (G7.out.2.2.mono B6.out.size))
    obtain ⟨W8, hW8⟩ : ∃ W8, W7.alloc (.cells #[.slice fo LK.length fc, .int .i64 pc] 43) = W8 := ⟨_, rfl⟩
    have b8 : Below W7.heap.size W7 W8 := by rw [← hW8]; exact (Below.refl _ W7).alloc (Nat.le_refl _) _
    have F8 : Hid (W8.heap[W7.heap.size]? = some (.cells #[.slice fo LK.length fc, .int .i64 pc] 43 (0, 0))) := by show _ = _; rw [← hW8]; exact alloc_atN _ _
    have B8 := hide (B7.out.trans (b8.mono B7.out.size))
    have c67 := below_trans1 G7.out.2.2 b8
    have c58 := below_trans1 G6.out.2.2 c67
    have E1 : Hid (ErrC' W8 x1 LK pc) := G5.out.2.1.imp id (fun ⟨a, b⟩ => ⟨(Chain.below c58 a).wide c58.size, b⟩)
    have E2 : Hid (ErrC' W8 x2 LK pc) := G6.out.2.1.imp id (fun ⟨a, b⟩ => ⟨(Chain.below c67 a).wide c67.size, b⟩)
    obtain ⟨fb, foff, hfv⟩ := G7.out.2.1
    have FV8 := hide ((hfv.below b8).wide b8.size)
    have O1 : Hid (Owns W4.heap.size W8 (.slice o1 bn c1) BY) := ⟨G5.out.1.1.kept (below_none c58) (by cases (Value.slice o1 bn c1).ownBlock <;> simp), G5.out.1.2⟩
    have O2 : Hid (Owns W5.heap.size W8 (.slice o2 bn c2) BY) := ⟨G6.out.1.1.kept (below_none c67) (by cases (Value.slice o2 bn c2).ownBlock <;> simp), G6.out.1.2⟩
    have O3 : Hid (Owns W6.heap.size W8 (.slice o3 n3 c3) BY) := ⟨G7.out.1.1.kept (below_none b8) (by cases (Value.slice o3 n3 c3).ownBlock <;> simp), G7.out.1.2⟩
    have LT1 : Hid (∀ g, (Value.slice o1 bn c1).ownBlock = some g → W4.heap.size ≤ g ∧ g < W5.heap.size) := fun g e => G5.out.1.1.lt g e
    have hz56 := G6.out.2.2.size
    have HW8 := hide hW8
    have IS : Hid (∀ V x, ErrC' V x LK pc → Below W8.heap.size W8 V → Calls Tryz.prog 9 #[x, .agg #[.slice fo LK.length fc, .int .i64 pc]] V fun e w' => e = .returned (.bool true) ∧ Hid (Below V.heap.size V w')) := fun V x hx hb => is_any LK.length fc rfl hx ((FV8.out.below hb).wide hb.size)
    clear hfv b8 hW8 c67 c58 G5 G6 G7 B5 B6 B7 R4 PA RPA
    go_upto_region 7 with fail
    rw [HW8.out]
    have y0 := block_cell F8.out 0
    have y1 := block_cell F8.out 1
    simp at y0 y1
    have hly := block_lt F8.out
    have R8 := hide (Below.refl W8.heap.size W8)
    have I1 := hide (IS.out W8 x1 E1.out R8.out)
    go_wp2_with fail
    refine I1.out.mono ?_
    rintro e W9 ⟨rfl, G9⟩
    have F9 := hide ((G9.out.block _ hly).trans F8.out)
    have s1 := (⟨O1.out.1.kept (below_none G9.out) (by cases (Value.slice o1 bn c1).ownBlock <;> simp), O1.out.2⟩ : Owns W4.heap.size W9 (.slice o1 bn c1) BY)
    have s3 := (⟨O3.out.1.kept (below_none G9.out) (by cases (Value.slice o3 n3 c3).ownBlock <;> simp), O3.out.2⟩ : Owns W6.heap.size W9 (.slice o3 n3 c3) BY)
    have SA := hide (same_any (owns_shows s1) (owns_shows s3))
    clear y0 y1 hly I1 s1 s3
    have y0 := block_cell F9.out 0
    have y1 := block_cell F9.out 1
    simp at y0 y1
    have hly := block_lt F9.out
    go_wp2_with fail
    refine SA.out.mono ?_
    rintro e W10 ⟨rfl, q10, hW10⟩
    have b10 : Below W9.heap.size W9 W10 := by rw [hW10]; exact Go.below_drewN (Below.refl _ _) _
    have F10 := hide ((b10.block _ hly).trans F9.out)
    have B10 := hide (below_trans1 G9.out b10)
    have e2 : ErrC' W10 x2 LK pc := E2.out.imp id (fun ⟨a, b⟩ => ⟨(Chain.below B10.out a).wide B10.out.size, b⟩)
    have I2 := hide (IS.out W10 x2 e2 B10.out)
    clear y0 y1 hly b10 hW10 SA e2
    have y0 := block_cell F10.out 0
    have y1 := block_cell F10.out 1
    simp at y0 y1
    have hly := block_lt F10.out
    go_wp2_with fail
    refine I2.out.mono ?_
    rintro e W11 ⟨rfl, G11⟩
    have B11 := hide (below_trans1 B10.out G11.out)
    have B411 := hide (B8.out.trans (B11.out.mono B8.out.size))
    have P1 := hide (O1.out.1.kept (below_none B11.out) (by cases (Value.slice o1 bn c1).ownBlock <;> simp))
    have P2 : Hid (Owns W5.heap.size W11 (.slice o2 bn c2) BY) := ⟨O2.out.1.kept (below_none B11.out) (by cases (Value.slice o2 bn c2).ownBlock <;> simp), O2.out.2⟩
    have P3 : Hid (Owns W6.heap.size W11 (.slice o3 n3 c3) BY) := ⟨O3.out.1.kept (below_none B11.out) (by cases (Value.slice o3 n3 c3).ownBlock <;> simp), O3.out.2⟩
    rw [HBN.out] at P1
    have hbl : bn ≤ 140737488355328 := by have := O1.out.2.2; have := HBN.out; omega
    clear y0 y1 hly I2 G11 B10 F8 F9 F10 O1 O2 O3 E1 E2 FV8 IS R8 HW8 HW4 B8 G9
    go_wp2
    go_loopw [10] (fun i wr => ∃ k : Nat, k ≤ bn ∧ i = .int .i64 k ∧ Hid (∃ xs : List Value, wr.ownsRow W4.heap.size 5 1 (.slice o1 bn c1) bn xs ∧ (∀ j, j < bn → ∃ c : Int, xs[j]? = some (.int .u8 c)) ∧ W11.grownBy wr (Value.slice o1 bn c1).ownBlock)) (fun i _ => bn - (intOf i).toNat)
    case atStart => exact ⟨0, by omega, rfl, _, P1.out, fun j hj => vals_ints BY j (by have := HBN.out; omega), ⟨rfl, rfl, rfl, Nat.le_refl _, fun _ _ _ => rfl⟩⟩
    case round =>
      obtain ⟨k, hk, rfl, HS⟩ := hrel
      obtain ⟨xs, hown, hint, hgr⟩ := HS.out
      have HI := hide (And.intro hown (And.intro hint hgr))
      clear P1 HS
      by_cases hlt : k < bn
      · obtain ⟨gg, hgg⟩ : ∃ gg, o1 = some ⟨gg, 0, none⟩ := by
          rcases hown.2 with ⟨-, h0⟩ | ⟨g', cap, cur, he, _⟩
          · omega
          · cases he; exact ⟨g', rfl⟩
        subst hgg
        obtain ⟨c, hc⟩ := hint k hlt
        have hck : wr.cell? ⟨gg, k, none⟩ = some (.int .u8 c) := (hown.cellAt k (by omega)).trans hc
        have hfz := hown.frozenAt k
        clear hown hint hgr hc
        go_wp2
        go_roundw
        case rel =>
          obtain ⟨hown, hint, hgr⟩ := HI.out
          have hly : xs.length = bn := by have := hown.1; omega
          refine ⟨k + 1, by omega, by go_num, xs.set k _, (hown.stored _ _).1, fun j hj => ?_, grown_trans hgr (hown.stored _ _).2⟩
          rw [List.getElem?_set]
          split
          · rw [if_pos (by omega)]; exact ⟨_, rfl⟩
          · exact hint j hj
        case measure => simp [intOf]; omega
      · obtain rfl : k = bn := by omega
        have ne2 : (Value.slice o2 k c2).ownBlock = none ∨ (Value.slice o2 k c2).ownBlock ≠ (Value.slice o1 k c1).ownBlock := by
          cases e : (Value.slice o2 k c2).ownBlock with
          | none => exact .inl rfl
          | some g => exact .inr (fun e1 => by have := (P2.out.1.lt g e).1; have := (LT1.out g e1.symm).2; omega)
        have ne3 : (Value.slice o3 n3 c3).ownBlock = none ∨ (Value.slice o3 n3 c3).ownBlock ≠ (Value.slice o1 k c1).ownBlock := by
          cases e : (Value.slice o3 n3 c3).ownBlock with
          | none => exact .inl rfl
          | some g => exact .inr (fun e1 => by have := (P3.out.1.lt g e).1; have := (LT1.out g e1.symm).2; omega)
        have p2 : Owns W5.heap.size wr (.slice o2 k c2) BY := ⟨P2.out.1.kept hgr ne2, P2.out.2⟩
        have p3 : Owns W6.heap.size wr (.slice o3 n3 c3) BY := ⟨P3.out.1.kept hgr ne3, P3.out.2⟩
        have SA := hide (same_any (owns_shows p2) (owns_shows p3))
        have BW : Hid (Below W4.heap.size W4 wr) := ⟨hgr.os.trans B411.out.os, hgr.tape.trans B411.out.tape, hgr.output.trans B411.out.output, Nat.le_trans B411.out.size hgr.size, fun j hj => (hgr.block j (Nat.lt_of_lt_of_le hj B411.out.size) (fun e => by have := (LT1.out j e.symm).1; omega)).trans (B411.out.block j hj)⟩
        clear hown hint hgr HI ne2 ne3 p2 p3 P2 P3
        go_wp2_with fail
        refine SA.out.mono ?_
        rintro e W12 ⟨rfl, q12, hW12⟩
        have B12 : Hid (Below W4.heap.size W4 W12) := by rw [hW12]; exact Go.below_drewN BW.out _
        clear hW12 SA BW
        have q := BX.out _ B12.out
        have y0 := block_cell q.1 0
        have y1 := block_cell q.1 1
        have y2 := block_cell q.1 2
        have y3 := block_cell q.1 3
        have y4 := block_cell q.1 4
        have y5 := block_cell q.1 5
        have y6 := block_cell q.1 6
        have y7 := block_cell q.1 7
        have y8 := block_cell q.1 8
        have y9 := block_cell q.1 9
        simp at y0 y1 y2 y3 y4 y5 y6 y7 y8 y9
        have hly := block_lt q.1
        have z0 := block_cell q.2.1 0
        have z1 := block_cell q.2.1 1
        have z2 := block_cell q.2.1 2
        have z3 := block_cell q.2.1 3
        have z4 := block_cell q.2.1 4
        have z5 := block_cell q.2.1 5
        have z6 := block_cell q.2.1 6
        have z7 := block_cell q.2.1 7
        have z8 := block_cell q.2.1 8
        have z9 := block_cell q.2.1 9
        simp at z0 z1 z2 z3 z4 z5 z6 z7 z8 z9
        have hlz := block_lt q.2.1
        have KPC := hide (KP.out _ B12.out)
        have FW := hide q.2.2
        clear q
        go_wp2_with fail
        refine KPC.out.mono ?_
        rintro e W13 ⟨rfl, G13⟩
        have FB := hide (below_trans1 FW.out G13.out)
        clear hly y0 y1 y2 y3 y4 y5 y6 y7 y8 y9
        clear hlz z0 z1 z2 z3 z4 z5 z6 z7 z8 z9
        go_wp2
        go_ret
        exact ⟨rfl, FB.out⟩
end Go.Proofs.YtiijbboigebhcaaGreatDoor
namespace Go.Proofs.YtiijbboigebhcaaGreatDoor
open Go.ChangeShapes Go.WideShapes Go.ChangeAt Go.RowKit Go.Deep

instance : Inhabited Ac := ⟨⟨0, 0, 0, 0⟩⟩
instance : Inhabited Ho := ⟨⟨0, 0, 0⟩⟩
instance : Inhabited En := ⟨⟨0, 0, 0, 0, 0⟩⟩
instance : Inhabited De := ⟨⟨0, 0, 0, 0, 0, 0, 0, 0, 0, 0, 0, 0, ByteArray.empty⟩⟩
instance : Inhabited Sn := ⟨⟨0, 0, 0, 0, none, 0, 0, []⟩⟩
theorem lst1 {α : Type} {l : List α} (h : l.length = 1) : ∃ a0, l = [a0] := by
  match l, h with
  | [a0], _ => exact ⟨a0, rfl⟩
theorem lst3 {α : Type} {l : List α} (h : l.length = 3) : ∃ a0 b1 c2, l = [a0, b1, c2] := by
  match l, h with
  | [a0, b1, c2], _ => exact ⟨a0, b1, c2, rfl⟩
theorem lst4 {α : Type} {l : List α} (h : l.length = 4) : ∃ a0 b1 c2 d3, l = [a0, b1, c2, d3] := by
  match l, h with
  | [a0, b1, c2, d3], _ => exact ⟨a0, b1, c2, d3, rfl⟩
theorem lst5 {α : Type} {l : List α} (h : l.length = 5) : ∃ a0 b1 c2 d3 e4, l = [a0, b1, c2, d3, e4] := by
  match l, h with
  | [a0, b1, c2, d3, e4], _ => exact ⟨a0, b1, c2, d3, e4, rfl⟩
theorem lst7 {α : Type} {l : List α} (h : l.length = 7) : ∃ a0 b1 c2 d3 e4 f5 g6, l = [a0, b1, c2, d3, e4, f5, g6] := by
  match l, h with
  | [a0, b1, c2, d3, e4, f5, g6], _ => exact ⟨a0, b1, c2, d3, e4, f5, g6, rfl⟩
theorem lst10 {α : Type} {l : List α} (h : l.length = 10) : ∃ a0 b1 c2 d3 e4 f5 g6 h7 i8 j9, l = [a0, b1, c2, d3, e4, f5, g6, h7, i8, j9] := by
  match l, h with
  | [a0, b1, c2, d3, e4, f5, g6, h7, i8, j9], _ => exact ⟨a0, b1, c2, d3, e4, f5, g6, h7, i8, j9, rfl⟩
theorem lst11 {α : Type} {l : List α} (h : l.length = 11) : ∃ a0 b1 c2 d3 e4 f5 g6 h7 i8 j9 k10, l = [a0, b1, c2, d3, e4, f5, g6, h7, i8, j9, k10] := by
  match l, h with
  | [a0, b1, c2, d3, e4, f5, g6, h7, i8, j9, k10], _ => exact ⟨a0, b1, c2, d3, e4, f5, g6, h7, i8, j9, k10, rfl⟩
theorem lst13 {α : Type} {l : List α} (h : l.length = 13) : ∃ a0 b1 c2 d3 e4 f5 g6 h7 i8 j9 k10 l11 m12, l = [a0, b1, c2, d3, e4, f5, g6, h7, i8, j9, k10, l11, m12] := by
  match l, h with
  | [a0, b1, c2, d3, e4, f5, g6, h7, i8, j9, k10, l11, m12], _ => exact ⟨a0, b1, c2, d3, e4, f5, g6, h7, i8, j9, k10, l11, m12, rfl⟩
/-- A list that came in. -/
theorem view_rows {α : Type} [Inhabited α] {H : Type} {enc : TypeId × Value → H} {W : World} {fuel : Nat} {cs : List Value} {x : DataW H × List MemPlace} (t e : TypeId) (z by_ : Nat) (f : α → List Value) (Ok : α → Prop)
    (ht : Tryz.prog.underlying t = some (.slice e)) (hz : Tryz.prog.cellsOf e = z) (hb : Tryz.prog.bytesOf e = by_) (hfl : ∀ a, (f a).length = z) (hzp : 0 < z)
    (hel : ∀ (n : Nat) (cs : List Value) (y : DataW H × List MemPlace), DataW.trod enc Tryz.prog W 0 (fun _ => true) true n e cs = some y → (∀ n ∈ y.1.weights Tryz.prog e, n ≤ reachBytes) → ∃ a, cs = f a ∧ Ok a)
    (hf : DataW.trod enc Tryz.prog W 0 (fun _ => true) true fuel t cs = some x) (hr : ∀ n ∈ x.1.weights Tryz.prog t, n ≤ reachBytes) :
    ∃ (ao : Option Addr) (len cap : Nat) (L : List α), cs = [.slice ao len cap] ∧ Rt W z f ao len L ∧ ∀ a ∈ L, Ok a := by
  have hlt := DataW.trod_lt fuel _ _ _ hf
  rcases open_slice ht hf with ⟨rfl, _⟩ | ⟨a, len, cap, m, n, D, Pl, rfl, _, hl, hm, hmm, hx, hall⟩
  · exact ⟨none, 0, 0, [], rfl, ⟨rfl, 0, 0, fun h => (by omega), fun i x hx => (by simp at hx)⟩, fun a h => (by cases h)⟩
  · simp only [if_true] at hmm
    subst hmm
    simp only [hz] at hx
    subst hx
    simp only [hz] at hall
    simp only [DataW.weights, ht, hb, List.length_map, List.length_range] at hr
    obtain ⟨F, hF⟩ := choose_lt (α := α) (n := len) (p := fun i y => Ok y ∧ ∀ (j : Nat) (v : Value), (f y)[j]? = some v → W.cell? (a.add (i * z + j)) = some v) (fun i hi => by
      obtain ⟨cs, h1, h2⟩ := hall i (by omega)
      obtain ⟨y, rfl, hok⟩ := hel _ _ _ h2 (fun n hn => hr n (List.mem_cons_of_mem _ (List.mem_append_left _ (weights_all hn (List.mem_map.2 ⟨i, List.mem_range.2 hi, rfl⟩)))))
      refine ⟨y, hok, fun j v hj => ?_⟩
      have hj3 : j < z := by
        have := (List.getElem?_eq_some_iff.1 hj).1
        rw [hfl] at this
        exact this
      have h3 := (World.cells?_some h1).2.2 j hj3
      rw [add_add] at h3
      rw [h3]
      exact hj)
    by_cases hp : 0 < len
    · obtain ⟨b, off, spot⟩ := a
      have h00 := (hF 0 hp).2 0 ((f (F 0))[0]'(by rw [hfl]; exact hzp)) (List.getElem?_eq_getElem _)
      have hspot : spot = none := by simpa [Addr.add] using World.cell?_spot h00
      subst hspot
      have hbW : b < W.heap.size := hlt (.cell b off) (List.mem_append_left _ (MemPlace.mem_row.2 ⟨0, by rw [Nat.mul_comm]; exact Nat.mul_pos hzp (by omega), by simp⟩))
      refine ⟨_, len, _, (List.range len).map F, rfl, ⟨by simp, b, off, fun _ => ⟨rfl, hbW⟩, ?_⟩, ?_⟩
      · intro i y hi j v hj
        have hil : i < len := by
          have := (List.getElem?_eq_some_iff.1 hi).1
          simpa using this
        rw [List.getElem?_map, List.getElem?_range hil] at hi
        cases hi
        have := (hF i hil).2 j v hj
        rw [add_plain] at this
        rw [Nat.add_assoc]
        exact this
      · intro y hy
        obtain ⟨i, hi, rfl⟩ := List.mem_map.1 hy
        exact (hF i (List.mem_range.1 hi)).1
    · obtain rfl : len = 0 := by omega
      exact ⟨_, 0, _, [], rfl, ⟨rfl, 0, 0, fun h => (by omega), fun i x hx => (by simp at hx)⟩, fun a h => (by cases h)⟩
theorem cellsVPh : Tryz.prog.cellsOf 55 = 1 := by kernel_rfl
theorem cellsVEr : Tryz.prog.cellsOf 59 = 1 := by kernel_rfl
theorem cellsVAr : Tryz.prog.cellsOf 56 = 3 := by kernel_rfl
theorem cellsVAcT : Tryz.prog.cellsOf 63 = 4 := by kernel_rfl
theorem cellsVHoT : Tryz.prog.cellsOf 65 = 3 := by kernel_rfl
theorem cellsVEnT : Tryz.prog.cellsOf 67 = 5 := by kernel_rfl
theorem cellsVDeT : Tryz.prog.cellsOf 58 = 13 := by kernel_rfl
theorem cellsVSnT : Tryz.prog.cellsOf 61 = 5 := by kernel_rfl
theorem cellsVAcS : Tryz.prog.cellsOf 23 = 1 := by kernel_rfl
theorem cellsVHoS : Tryz.prog.cellsOf 24 = 1 := by kernel_rfl
theorem cellsVEnS : Tryz.prog.cellsOf 25 = 1 := by kernel_rfl
theorem cellsVDeS : Tryz.prog.cellsOf 28 = 1 := by kernel_rfl
theorem cellsVSnS : Tryz.prog.cellsOf 31 = 1 := by kernel_rfl
theorem cellsVLg : Tryz.prog.cellsOf 27 = 5 := by kernel_rfl
theorem cellsVHi : Tryz.prog.cellsOf 30 = 7 := by kernel_rfl
theorem cellsVIm : Tryz.prog.cellsOf 33 = 10 := by kernel_rfl
theorem bytesVAcT : Tryz.prog.bytesOf 63 = 32 := by kernel_rfl
theorem bytesVHoT : Tryz.prog.bytesOf 65 = 24 := by kernel_rfl
theorem bytesVEnT : Tryz.prog.bytesOf 67 = 40 := by kernel_rfl
theorem bytesVDeT : Tryz.prog.bytesOf 58 = 112 := by kernel_rfl
theorem bytesVSnT : Tryz.prog.bytesOf 61 = 56 := by kernel_rfl
theorem view_Ac {H : Type} {enc : TypeId × Value → H} {W : World} {fuel : Nat} {cs : List Value} {x : DataW H × List MemPlace}
    (h : DataW.trod enc Tryz.prog W 0 (fun _ => true) true fuel 63 cs = some x) (hr : ∀ n ∈ x.1.weights Tryz.prog 63, n ≤ reachBytes) :
    ∃ a : Ac, cs = a.cells ∧ a.ok := by
  obtain ⟨xs, n, _, rfl, hl, hlen, hf⟩ := DataW.trod_struct Tryz.underlying63 h
  rw [cellsVAcT] at hl
  have hlen : xs.length = 4 := hlen
  obtain ⟨c0, c1, c2, c3, rfl⟩ := lst4 hl
  obtain ⟨y0, y1, y2, y3, rfl⟩ := lst4 hlen
  have e0 : DataW.trod enc Tryz.prog W 0 (fun _ => true) true n 22 (List.take (Tryz.prog.cellsOf 22) [c0, c1, c2, c3]) = some y0 := hf 0 _ rfl
  rw [cellsU64] at e0
  have e1 : DataW.trod enc Tryz.prog W 0 (fun _ => true) true n 22 (List.take (Tryz.prog.cellsOf 22) [c1, c2, c3]) = some y1 := hf 1 _ rfl
  rw [cellsU64] at e1
  have e2 : DataW.trod enc Tryz.prog W 0 (fun _ => true) true n 22 (List.take (Tryz.prog.cellsOf 22) [c2, c3]) = some y2 := hf 2 _ rfl
  rw [cellsU64] at e2
  have e3 : DataW.trod enc Tryz.prog W 0 (fun _ => true) true n 22 (List.take (Tryz.prog.cellsOf 22) [c3]) = some y3 := hf 3 _ rfl
  rw [cellsU64] at e3
  have hr : ∀ n ∈ DataW.weightsEach Tryz.prog [22, 22, 22, 22] [y0.1, y1.1, y2.1, y3.1], n ≤ reachBytes := by
    intro n hn
    refine hr n ?_
    simp only [DataW.weights, Tryz.underlying63]
    exact hn
  obtain ⟨s0, k0, _, w0⟩ := DataW.trod_int Tryz.underlying22 e0
  have b0 := bounds_u64 w0
  obtain ⟨s1, k1, _, w1⟩ := DataW.trod_int Tryz.underlying22 e1
  have b1 := bounds_u64 w1
  obtain ⟨s2, k2, _, w2⟩ := DataW.trod_int Tryz.underlying22 e2
  have b2 := bounds_u64 w2
  obtain ⟨s3, k3, _, w3⟩ := DataW.trod_int Tryz.underlying22 e3
  have b3 := bounds_u64 w3
  simp only [List.take, List.cons.injEq, and_true] at k0 k1 k2 k3
  subst k0 k1 k2 k3
  obtain ⟨n0, rfl⟩ := Int.eq_ofNat_of_zero_le b0.1
  obtain ⟨n1, rfl⟩ := Int.eq_ofNat_of_zero_le b1.1
  obtain ⟨n2, rfl⟩ := Int.eq_ofNat_of_zero_le b2.1
  obtain ⟨n3, rfl⟩ := Int.eq_ofNat_of_zero_le b3.1
  exact ⟨⟨n0, n1, n2, n3⟩, rfl, (by intro v hv; simp only [List.mem_cons, List.not_mem_nil, or_false] at hv; unfold u64; omega)⟩
theorem view_Ho {H : Type} {enc : TypeId × Value → H} {W : World} {fuel : Nat} {cs : List Value} {x : DataW H × List MemPlace}
    (h : DataW.trod enc Tryz.prog W 0 (fun _ => true) true fuel 65 cs = some x) (hr : ∀ n ∈ x.1.weights Tryz.prog 65, n ≤ reachBytes) :
    ∃ a : Ho, cs = a.cells ∧ a.ok := by
  obtain ⟨xs, n, _, rfl, hl, hlen, hf⟩ := DataW.trod_struct Tryz.underlying65 h
  rw [cellsVHoT] at hl
  have hlen : xs.length = 3 := hlen
  obtain ⟨c0, c1, c2, rfl⟩ := lst3 hl
  obtain ⟨y0, y1, y2, rfl⟩ := lst3 hlen
  have e0 : DataW.trod enc Tryz.prog W 0 (fun _ => true) true n 22 (List.take (Tryz.prog.cellsOf 22) [c0, c1, c2]) = some y0 := hf 0 _ rfl
  rw [cellsU64] at e0
  have e1 : DataW.trod enc Tryz.prog W 0 (fun _ => true) true n 22 (List.take (Tryz.prog.cellsOf 22) [c1, c2]) = some y1 := hf 1 _ rfl
  rw [cellsU64] at e1
  have e2 : DataW.trod enc Tryz.prog W 0 (fun _ => true) true n 22 (List.take (Tryz.prog.cellsOf 22) [c2]) = some y2 := hf 2 _ rfl
  rw [cellsU64] at e2
  have hr : ∀ n ∈ DataW.weightsEach Tryz.prog [22, 22, 22] [y0.1, y1.1, y2.1], n ≤ reachBytes := by
    intro n hn
    refine hr n ?_
    simp only [DataW.weights, Tryz.underlying65]
    exact hn
  obtain ⟨s0, k0, _, w0⟩ := DataW.trod_int Tryz.underlying22 e0
  have b0 := bounds_u64 w0
  obtain ⟨s1, k1, _, w1⟩ := DataW.trod_int Tryz.underlying22 e1
  have b1 := bounds_u64 w1
  obtain ⟨s2, k2, _, w2⟩ := DataW.trod_int Tryz.underlying22 e2
  have b2 := bounds_u64 w2
  simp only [List.take, List.cons.injEq, and_true] at k0 k1 k2
  subst k0 k1 k2
  obtain ⟨n0, rfl⟩ := Int.eq_ofNat_of_zero_le b0.1
  obtain ⟨n1, rfl⟩ := Int.eq_ofNat_of_zero_le b1.1
  obtain ⟨n2, rfl⟩ := Int.eq_ofNat_of_zero_le b2.1
  exact ⟨⟨n0, n1, n2⟩, rfl, (by intro v hv; simp only [List.mem_cons, List.not_mem_nil, or_false] at hv; unfold u64; omega)⟩
theorem view_En {H : Type} {enc : TypeId × Value → H} {W : World} {fuel : Nat} {cs : List Value} {x : DataW H × List MemPlace}
    (h : DataW.trod enc Tryz.prog W 0 (fun _ => true) true fuel 67 cs = some x) (hr : ∀ n ∈ x.1.weights Tryz.prog 67, n ≤ reachBytes) :
    ∃ a : En, cs = a.cells ∧ a.a < u64 ∧ ∀ v ∈ [a.b, a.c, a.d], v < u64 := by
  obtain ⟨xs, n, _, rfl, hl, hlen, hf⟩ := DataW.trod_struct Tryz.underlying67 h
  rw [cellsVEnT] at hl
  have hlen : xs.length = 5 := hlen
  obtain ⟨c0, c1, c2, c3, c4, rfl⟩ := lst5 hl
  obtain ⟨y0, y1, y2, y3, y4, rfl⟩ := lst5 hlen
  have e0 : DataW.trod enc Tryz.prog W 0 (fun _ => true) true n 22 (List.take (Tryz.prog.cellsOf 22) [c0, c1, c2, c3, c4]) = some y0 := hf 0 _ rfl
  rw [cellsU64] at e0
  have e1 : DataW.trod enc Tryz.prog W 0 (fun _ => true) true n 3 (List.take (Tryz.prog.cellsOf 3) [c1, c2, c3, c4]) = some y1 := hf 1 _ rfl
  rw [cellsInt] at e1
  have e2 : DataW.trod enc Tryz.prog W 0 (fun _ => true) true n 22 (List.take (Tryz.prog.cellsOf 22) [c2, c3, c4]) = some y2 := hf 2 _ rfl
  rw [cellsU64] at e2
  have e3 : DataW.trod enc Tryz.prog W 0 (fun _ => true) true n 22 (List.take (Tryz.prog.cellsOf 22) [c3, c4]) = some y3 := hf 3 _ rfl
  rw [cellsU64] at e3
  have e4 : DataW.trod enc Tryz.prog W 0 (fun _ => true) true n 22 (List.take (Tryz.prog.cellsOf 22) [c4]) = some y4 := hf 4 _ rfl
  rw [cellsU64] at e4
  have hr : ∀ n ∈ DataW.weightsEach Tryz.prog [22, 3, 22, 22, 22] [y0.1, y1.1, y2.1, y3.1, y4.1], n ≤ reachBytes := by
    intro n hn
    refine hr n ?_
    simp only [DataW.weights, Tryz.underlying67]
    exact hn
  obtain ⟨s0, k0, _, w0⟩ := DataW.trod_int Tryz.underlying22 e0
  have b0 := bounds_u64 w0
  obtain ⟨s1, k1, _, w1⟩ := DataW.trod_int Tryz.underlying3 e1
  have b1 := bounds_i64 w1
  obtain ⟨s2, k2, _, w2⟩ := DataW.trod_int Tryz.underlying22 e2
  have b2 := bounds_u64 w2
  obtain ⟨s3, k3, _, w3⟩ := DataW.trod_int Tryz.underlying22 e3
  have b3 := bounds_u64 w3
  obtain ⟨s4, k4, _, w4⟩ := DataW.trod_int Tryz.underlying22 e4
  have b4 := bounds_u64 w4
  simp only [List.take, List.cons.injEq, and_true] at k0 k1 k2 k3 k4
  subst k0 k1 k2 k3 k4
  obtain ⟨n0, rfl⟩ := Int.eq_ofNat_of_zero_le b0.1
  obtain ⟨n2, rfl⟩ := Int.eq_ofNat_of_zero_le b2.1
  obtain ⟨n3, rfl⟩ := Int.eq_ofNat_of_zero_le b3.1
  obtain ⟨n4, rfl⟩ := Int.eq_ofNat_of_zero_le b4.1
  exact ⟨⟨n0, s1, n2, n3, n4⟩, rfl, by unfold u64; simp only; omega, (by intro v hv; simp only [List.mem_cons, List.not_mem_nil, or_false] at hv; unfold u64; omega)⟩
theorem view_De {H : Type} {enc : TypeId × Value → H} {W : World} {fuel : Nat} {cs : List Value} {x : DataW H × List MemPlace}
    (h : DataW.trod enc Tryz.prog W 0 (fun _ => true) true fuel 58 cs = some x) (hr : ∀ n ∈ x.1.weights Tryz.prog 58, n ≤ reachBytes) :
    ∃ a : De, cs = a.cells ∧ (∀ v ∈ [a.a, a.b, a.c, a.d, a.e, a.f, a.g], v < u64) ∧ ∀ v ∈ [a.p, a.q, a.r, a.z], v < u64 := by
  obtain ⟨xs, n, _, rfl, hl, hlen, hf⟩ := DataW.trod_struct Tryz.underlying58 h
  rw [cellsVDeT] at hl
  have hlen : xs.length = 11 := hlen
  obtain ⟨c0, c1, c2, c3, c4, c5, c6, c7, c8, c9, c10, c11, c12, rfl⟩ := lst13 hl
  obtain ⟨y0, y1, y2, y3, y4, y5, y6, y7, y8, y9, y10, rfl⟩ := lst11 hlen
  have e0 : DataW.trod enc Tryz.prog W 0 (fun _ => true) true n 22 (List.take (Tryz.prog.cellsOf 22) [c0, c1, c2, c3, c4, c5, c6, c7, c8, c9, c10, c11, c12]) = some y0 := hf 0 _ rfl
  rw [cellsU64] at e0
  have e1 : DataW.trod enc Tryz.prog W 0 (fun _ => true) true n 22 (List.take (Tryz.prog.cellsOf 22) [c1, c2, c3, c4, c5, c6, c7, c8, c9, c10, c11, c12]) = some y1 := hf 1 _ rfl
  rw [cellsU64] at e1
  have e2 : DataW.trod enc Tryz.prog W 0 (fun _ => true) true n 22 (List.take (Tryz.prog.cellsOf 22) [c2, c3, c4, c5, c6, c7, c8, c9, c10, c11, c12]) = some y2 := hf 2 _ rfl
  rw [cellsU64] at e2
  have e3 : DataW.trod enc Tryz.prog W 0 (fun _ => true) true n 22 (List.take (Tryz.prog.cellsOf 22) [c3, c4, c5, c6, c7, c8, c9, c10, c11, c12]) = some y3 := hf 3 _ rfl
  rw [cellsU64] at e3
  have e4 : DataW.trod enc Tryz.prog W 0 (fun _ => true) true n 22 (List.take (Tryz.prog.cellsOf 22) [c4, c5, c6, c7, c8, c9, c10, c11, c12]) = some y4 := hf 4 _ rfl
  rw [cellsU64] at e4
  have e5 : DataW.trod enc Tryz.prog W 0 (fun _ => true) true n 22 (List.take (Tryz.prog.cellsOf 22) [c5, c6, c7, c8, c9, c10, c11, c12]) = some y5 := hf 5 _ rfl
  rw [cellsU64] at e5
  have e6 : DataW.trod enc Tryz.prog W 0 (fun _ => true) true n 22 (List.take (Tryz.prog.cellsOf 22) [c6, c7, c8, c9, c10, c11, c12]) = some y6 := hf 6 _ rfl
  rw [cellsU64] at e6
  have e7 : DataW.trod enc Tryz.prog W 0 (fun _ => true) true n 55 (List.take (Tryz.prog.cellsOf 55) [c7, c8, c9, c10, c11, c12]) = some y7 := hf 7 _ rfl
  rw [cellsVPh] at e7
  have e8 : DataW.trod enc Tryz.prog W 0 (fun _ => true) true n 56 (List.take (Tryz.prog.cellsOf 56) [c8, c9, c10, c11, c12]) = some y8 := hf 8 _ rfl
  rw [cellsVAr] at e8
  have e9 : DataW.trod enc Tryz.prog W 0 (fun _ => true) true n 22 (List.take (Tryz.prog.cellsOf 22) [c11, c12]) = some y9 := hf 9 _ rfl
  rw [cellsU64] at e9
  have e10 : DataW.trod enc Tryz.prog W 0 (fun _ => true) true n 9 (List.take (Tryz.prog.cellsOf 9) [c12]) = some y10 := hf 10 _ rfl
  rw [cellsStr] at e10
  have hr : ∀ n ∈ DataW.weightsEach Tryz.prog [22, 22, 22, 22, 22, 22, 22, 55, 56, 22, 9] [y0.1, y1.1, y2.1, y3.1, y4.1, y5.1, y6.1, y7.1, y8.1, y9.1, y10.1], n ≤ reachBytes := by
    intro n hn
    refine hr n ?_
    simp only [DataW.weights, Tryz.underlying58]
    exact hn
  obtain ⟨s0, k0, _, w0⟩ := DataW.trod_int Tryz.underlying22 e0
  have b0 := bounds_u64 w0
  obtain ⟨s1, k1, _, w1⟩ := DataW.trod_int Tryz.underlying22 e1
  have b1 := bounds_u64 w1
  obtain ⟨s2, k2, _, w2⟩ := DataW.trod_int Tryz.underlying22 e2
  have b2 := bounds_u64 w2
  obtain ⟨s3, k3, _, w3⟩ := DataW.trod_int Tryz.underlying22 e3
  have b3 := bounds_u64 w3
  obtain ⟨s4, k4, _, w4⟩ := DataW.trod_int Tryz.underlying22 e4
  have b4 := bounds_u64 w4
  obtain ⟨s5, k5, _, w5⟩ := DataW.trod_int Tryz.underlying22 e5
  have b5 := bounds_u64 w5
  obtain ⟨s6, k6, _, w6⟩ := DataW.trod_int Tryz.underlying22 e6
  have b6 := bounds_u64 w6
  obtain ⟨s7, k7, _, w7⟩ := DataW.trod_int Tryz.underlying55 e7
  have b7 := bounds_i64 w7
  have hu : Tryz.prog.underlying 56 = some (.array 3 22) := Tryz.underlying56
  obtain ⟨xa, na, _, _, -, hla, hfa⟩ := DataW.trod_array hu e8
  have hla : xa.length = 3 := hla
  obtain ⟨xa0, xa1, xa2, rfl⟩ := lst3 hla
  have a0 := hfa 0 (by omega)
  have a1 := hfa 1 (by omega)
  have a2 := hfa 2 (by omega)
  rw [cellsU64] at a0 a1 a2
  replace a0 : DataW.trod enc Tryz.prog W 0 (fun _ => true) true na 22 [c8] = some xa0 := a0
  replace a1 : DataW.trod enc Tryz.prog W 0 (fun _ => true) true na 22 [c9] = some xa1 := a1
  replace a2 : DataW.trod enc Tryz.prog W 0 (fun _ => true) true na 22 [c10] = some xa2 := a2
  obtain ⟨p0, kp0, _, wp0⟩ := DataW.trod_int Tryz.underlying22 a0
  obtain ⟨p1, kp1, _, wp1⟩ := DataW.trod_int Tryz.underlying22 a1
  obtain ⟨p2, kp2, _, wp2⟩ := DataW.trod_int Tryz.underlying22 a2
  have bp0 := bounds_u64 wp0
  have bp1 := bounds_u64 wp1
  have bp2 := bounds_u64 wp2
  obtain ⟨s9, k9, _, w9⟩ := DataW.trod_int Tryz.underlying22 e9
  have b9 := bounds_u64 w9
  obtain ⟨s10, k10, h10, _⟩ := DataW.trod_string Tryz.underlying9 e10
  simp only [List.take, List.cons.injEq, and_true] at k0 k1 k2 k3 k4 k5 k6 k7 k9 k10 kp0 kp1 kp2
  subst k0 k1 k2 k3 k4 k5 k6 k7 k9 k10 kp0 kp1 kp2
  obtain ⟨n0, rfl⟩ := Int.eq_ofNat_of_zero_le b0.1
  obtain ⟨n1, rfl⟩ := Int.eq_ofNat_of_zero_le b1.1
  obtain ⟨n2, rfl⟩ := Int.eq_ofNat_of_zero_le b2.1
  obtain ⟨n3, rfl⟩ := Int.eq_ofNat_of_zero_le b3.1
  obtain ⟨n4, rfl⟩ := Int.eq_ofNat_of_zero_le b4.1
  obtain ⟨n5, rfl⟩ := Int.eq_ofNat_of_zero_le b5.1
  obtain ⟨n6, rfl⟩ := Int.eq_ofNat_of_zero_le b6.1
  obtain ⟨q0, rfl⟩ := Int.eq_ofNat_of_zero_le bp0.1
  obtain ⟨q1, rfl⟩ := Int.eq_ofNat_of_zero_le bp1.1
  obtain ⟨q2, rfl⟩ := Int.eq_ofNat_of_zero_le bp2.1
  obtain ⟨n9, rfl⟩ := Int.eq_ofNat_of_zero_le b9.1
  exact ⟨⟨n0, n1, n2, n3, n4, n5, n6, s7, q0, q1, q2, n9, s10⟩, rfl, (by intro v hv; simp only [List.mem_cons, List.not_mem_nil, or_false] at hv; unfold u64; omega), (by intro v hv; simp only [List.mem_cons, List.not_mem_nil, or_false] at hv; unfold u64; omega)⟩
theorem view_Sn {H : Type} {enc : TypeId × Value → H} {W : World} {fuel : Nat} {cs : List Value} {x : DataW H × List MemPlace}
    (h : DataW.trod enc Tryz.prog W 0 (fun _ => true) true fuel 61 cs = some x) (hr : ∀ n ∈ x.1.weights Tryz.prog 61, n ≤ reachBytes) :
    ∃ a : Sn, cs = a.cells ∧ (a.cl < u64 ∧ a.sq < u64 ∧ a.st < u64) ∧ Shows W.heap.size W a.co a.cn a.cc a.D := by
  obtain ⟨xs, n, _, rfl, hl, hlen, hf⟩ := DataW.trod_struct Tryz.underlying61 h
  rw [cellsVSnT] at hl
  have hlen : xs.length = 5 := hlen
  obtain ⟨c0, c1, c2, c3, c4, rfl⟩ := lst5 hl
  obtain ⟨y0, y1, y2, y3, y4, rfl⟩ := lst5 hlen
  have e0 : DataW.trod enc Tryz.prog W 0 (fun _ => true) true n 22 (List.take (Tryz.prog.cellsOf 22) [c0, c1, c2, c3, c4]) = some y0 := hf 0 _ rfl
  rw [cellsU64] at e0
  have e1 : DataW.trod enc Tryz.prog W 0 (fun _ => true) true n 22 (List.take (Tryz.prog.cellsOf 22) [c1, c2, c3, c4]) = some y1 := hf 1 _ rfl
  rw [cellsU64] at e1
  have e2 : DataW.trod enc Tryz.prog W 0 (fun _ => true) true n 22 (List.take (Tryz.prog.cellsOf 22) [c2, c3, c4]) = some y2 := hf 2 _ rfl
  rw [cellsU64] at e2
  have e3 : DataW.trod enc Tryz.prog W 0 (fun _ => true) true n 59 (List.take (Tryz.prog.cellsOf 59) [c3, c4]) = some y3 := hf 3 _ rfl
  rw [cellsVEr] at e3
  have e4 : DataW.trod enc Tryz.prog W 0 (fun _ => true) true n 36 (List.take (Tryz.prog.cellsOf 36) [c4]) = some y4 := hf 4 _ rfl
  rw [cellsBs] at e4
  have hr : ∀ n ∈ DataW.weightsEach Tryz.prog [22, 22, 22, 59, 36] [y0.1, y1.1, y2.1, y3.1, y4.1], n ≤ reachBytes := by
    intro n hn
    refine hr n ?_
    simp only [DataW.weights, Tryz.underlying61]
    exact hn
  obtain ⟨s0, k0, _, w0⟩ := DataW.trod_int Tryz.underlying22 e0
  have b0 := bounds_u64 w0
  obtain ⟨s1, k1, _, w1⟩ := DataW.trod_int Tryz.underlying22 e1
  have b1 := bounds_u64 w1
  obtain ⟨s2, k2, _, w2⟩ := DataW.trod_int Tryz.underlying22 e2
  have b2 := bounds_u64 w2
  obtain ⟨s3, k3, _, w3⟩ := DataW.trod_int Tryz.underlying59 e3
  have b3 := bounds_i64 w3
  obtain ⟨ao, len, cap, B, k4, hB⟩ := view_bytes e4 (fun n hn => hr n (DataW.weights_mem_each (j := 4) rfl rfl n hn))
  simp only [List.take, List.cons.injEq, and_true] at k0 k1 k2 k3 k4
  subst k0 k1 k2 k3 k4
  obtain ⟨n0, rfl⟩ := Int.eq_ofNat_of_zero_le b0.1
  obtain ⟨n1, rfl⟩ := Int.eq_ofNat_of_zero_le b1.1
  obtain ⟨n2, rfl⟩ := Int.eq_ofNat_of_zero_le b2.1
  exact ⟨⟨n0, n1, n2, s3, ao, len, cap, B⟩, rfl, ⟨by unfold u64; simp only; omega, by unfold u64; simp only; omega, by unfold u64; simp only; omega⟩, hB⟩
theorem view_Lg {H : Type} {enc : TypeId × Value → H} {W : World} {fuel : Nat} {cs : List Value} {x : DataW H × List MemPlace}
    (h : DataW.trod enc Tryz.prog W 0 (fun _ => true) true fuel 27 cs = some x) (hr : ∀ n ∈ x.1.weights Tryz.prog 27, n ≤ reachBytes) :
    ∃ (tot nx : Nat) (oa : Option Addr) (na ka : Nat) (oh : Option Addr) (nh kh : Nat) (oj : Option Addr) (nj kj : Nat) (A : List Ac) (H : List Ho) (J : List En), cs = [.int .u64 (tot : Int), .int .u64 (nx : Int), .slice oa na ka, .slice oh nh kh, .slice oj nj kj] ∧ (tot < u64 ∧ nx < u64) ∧ VBk W oa oh oj na nh nj A H J ∧ (∀ a ∈ A, a.ok) ∧ (∀ a ∈ H, a.ok) ∧ ∀ a ∈ J, a.a < u64 ∧ ∀ v ∈ [a.b, a.c, a.d], v < u64 := by
  obtain ⟨xs, n, _, rfl, hl, hlen, hf⟩ := DataW.trod_struct Tryz.underlying27 h
  rw [cellsVLg] at hl
  have hlen : xs.length = 5 := hlen
  obtain ⟨c0, c1, c2, c3, c4, rfl⟩ := lst5 hl
  obtain ⟨y0, y1, y2, y3, y4, rfl⟩ := lst5 hlen
  have e0 : DataW.trod enc Tryz.prog W 0 (fun _ => true) true n 22 (List.take (Tryz.prog.cellsOf 22) [c0, c1, c2, c3, c4]) = some y0 := hf 0 _ rfl
  rw [cellsU64] at e0
  have e1 : DataW.trod enc Tryz.prog W 0 (fun _ => true) true n 22 (List.take (Tryz.prog.cellsOf 22) [c1, c2, c3, c4]) = some y1 := hf 1 _ rfl
  rw [cellsU64] at e1
  have e2 : DataW.trod enc Tryz.prog W 0 (fun _ => true) true n 23 (List.take (Tryz.prog.cellsOf 23) [c2, c3, c4]) = some y2 := hf 2 _ rfl
  rw [cellsVAcS] at e2
  have e3 : DataW.trod enc Tryz.prog W 0 (fun _ => true) true n 24 (List.take (Tryz.prog.cellsOf 24) [c3, c4]) = some y3 := hf 3 _ rfl
  rw [cellsVHoS] at e3
  have e4 : DataW.trod enc Tryz.prog W 0 (fun _ => true) true n 25 (List.take (Tryz.prog.cellsOf 25) [c4]) = some y4 := hf 4 _ rfl
  rw [cellsVEnS] at e4
  have hr : ∀ n ∈ DataW.weightsEach Tryz.prog [22, 22, 23, 24, 25] [y0.1, y1.1, y2.1, y3.1, y4.1], n ≤ reachBytes := by
    intro n hn
    refine hr n ?_
    simp only [DataW.weights, Tryz.underlying27]
    exact hn
  obtain ⟨s0, k0, _, w0⟩ := DataW.trod_int Tryz.underlying22 e0
  have b0 := bounds_u64 w0
  obtain ⟨s1, k1, _, w1⟩ := DataW.trod_int Tryz.underlying22 e1
  have b1 := bounds_u64 w1
  simp only [List.take, List.cons.injEq, and_true] at k0 k1
  subst k0 k1
  obtain ⟨n0, rfl⟩ := Int.eq_ofNat_of_zero_le b0.1
  obtain ⟨n1, rfl⟩ := Int.eq_ofNat_of_zero_le b1.1
  obtain ⟨oa, na, ka, La, kk2, Ra, Oa⟩ := view_rows 23 63 4 32 Ac.cells (fun a => a.ok) Tryz.underlying23 cellsVAcT bytesVAcT (fun _ => rfl) (by omega) (fun n cs y h hr => view_Ac h hr) e2 (fun n hn => hr n (DataW.weights_mem_each (j := 2) rfl rfl n hn))
  obtain ⟨oh, nh, kh, Lh, kk3, Rh, Oh⟩ := view_rows 24 65 3 24 Ho.cells (fun a => a.ok) Tryz.underlying24 cellsVHoT bytesVHoT (fun _ => rfl) (by omega) (fun n cs y h hr => view_Ho h hr) e3 (fun n hn => hr n (DataW.weights_mem_each (j := 3) rfl rfl n hn))
  obtain ⟨oj, nj, kj, Lj, kk4, Rj, Oj⟩ := view_rows 25 67 5 40 En.cells (fun a => a.a < u64 ∧ ∀ v ∈ [a.b, a.c, a.d], v < u64) Tryz.underlying25 cellsVEnT bytesVEnT (fun _ => rfl) (by omega) (fun n cs y h hr => view_En h hr) e4 (fun n hn => hr n (DataW.weights_mem_each (j := 4) rfl rfl n hn))
  simp only [List.take, List.cons.injEq, and_true] at kk2 kk3 kk4
  subst kk2 kk3 kk4
  exact ⟨n0, n1, oa, na, ka, oh, nh, kh, oj, nj, kj, La, Lh, Lj, rfl, ⟨by unfold u64; omega, by unfold u64; omega⟩, ⟨Ra, Rh, Rj⟩, Oa, Oh, Oj⟩
theorem view_Hi {H : Type} {enc : TypeId × Value → H} {W : World} {fuel : Nat} {cs : List Value} {x : DataW H × List MemPlace}
    (h : DataW.trod enc Tryz.prog W 0 (fun _ => true) true fuel 30 cs = some x) (hr : ∀ n ∈ x.1.weights Tryz.prog 30, n ≤ reachBytes) :
    ∃ (tot nx : Nat) (oa : Option Addr) (na ka : Nat) (oh : Option Addr) (nh kh : Nat) (oj : Option Addr) (nj kj : Nat) (A : List Ac) (H : List Ho) (J : List En) (od : Option Addr) (nd kd : Nat) (D : List De) (ends : Nat), cs = [.int .u64 (tot : Int), .int .u64 (nx : Int), .slice oa na ka, .slice oh nh kh, .slice oj nj kj, .slice od nd kd, .int .u64 (ends : Int)] ∧ (tot < u64 ∧ nx < u64) ∧ VBk W oa oh oj na nh nj A H J ∧ (∀ a ∈ A, a.ok) ∧ (∀ a ∈ H, a.ok) ∧ (∀ a ∈ J, a.a < u64 ∧ ∀ v ∈ [a.b, a.c, a.d], v < u64) ∧ Rt W 13 De.cells od nd D ∧ (∀ a ∈ D, (∀ v ∈ [a.a, a.b, a.c, a.d, a.e, a.f, a.g], v < u64) ∧ ∀ v ∈ [a.p, a.q, a.r, a.z], v < u64) ∧ ends < u64 := by
  obtain ⟨xs, n, _, rfl, hl, hlen, hf⟩ := DataW.trod_struct Tryz.underlying30 h
  rw [cellsVHi] at hl
  have hlen : xs.length = 3 := hlen
  obtain ⟨c0, c1, c2, c3, c4, c5, c6, rfl⟩ := lst7 hl
  obtain ⟨y0, y1, y2, rfl⟩ := lst3 hlen
  have e0 : DataW.trod enc Tryz.prog W 0 (fun _ => true) true n 27 (List.take (Tryz.prog.cellsOf 27) [c0, c1, c2, c3, c4, c5, c6]) = some y0 := hf 0 _ rfl
  rw [cellsVLg] at e0
  have e1 : DataW.trod enc Tryz.prog W 0 (fun _ => true) true n 28 (List.take (Tryz.prog.cellsOf 28) [c5, c6]) = some y1 := hf 1 _ rfl
  rw [cellsVDeS] at e1
  have e2 : DataW.trod enc Tryz.prog W 0 (fun _ => true) true n 22 (List.take (Tryz.prog.cellsOf 22) [c6]) = some y2 := hf 2 _ rfl
  rw [cellsU64] at e2
  have hr : ∀ n ∈ DataW.weightsEach Tryz.prog [27, 28, 22] [y0.1, y1.1, y2.1], n ≤ reachBytes := by
    intro n hn
    refine hr n ?_
    simp only [DataW.weights, Tryz.underlying30]
    exact hn
  obtain ⟨s2, k2, _, w2⟩ := DataW.trod_int Tryz.underlying22 e2
  have b2 := bounds_u64 w2
  simp only [List.take, List.cons.injEq, and_true] at k2
  subst k2
  obtain ⟨n2, rfl⟩ := Int.eq_ofNat_of_zero_le b2.1
  obtain ⟨tot, nx, oa, na, ka, oh, nh, kh, oj, nj, kj, A, H, J, kk0, u1, u2, u3, u4, u5⟩ := view_Lg e0 (fun n hn => hr n (DataW.weights_mem_each (j := 0) rfl rfl n hn))
  obtain ⟨od, nd, kd, Ld, kk1, Rd, Od⟩ := view_rows 28 58 13 112 De.cells (fun a => (∀ v ∈ [a.a, a.b, a.c, a.d, a.e, a.f, a.g], v < u64) ∧ ∀ v ∈ [a.p, a.q, a.r, a.z], v < u64) Tryz.underlying28 cellsVDeT bytesVDeT (fun _ => rfl) (by omega) (fun n cs y h hr => view_De h hr) e1 (fun n hn => hr n (DataW.weights_mem_each (j := 1) rfl rfl n hn))
  simp only [List.take, List.cons.injEq, and_true] at kk0 kk1
  obtain ⟨r0, r1, r2, r3, r4⟩ := kk0
  subst r0 r1 r2 r3 r4 kk1
  exact ⟨tot, nx, oa, na, ka, oh, nh, kh, oj, nj, kj, A, H, J, od, nd, kd, Ld, n2, rfl, u1, u2, u3, u4, u5, Rd, Od, by unfold u64; omega⟩
theorem view_Im {H : Type} {enc : TypeId × Value → H} {W : World} {fuel : Nat} {cs : List Value} {x : DataW H × List MemPlace}
    (h : DataW.trod enc Tryz.prog W 0 (fun _ => true) true fuel 33 cs = some x) (hr : ∀ n ∈ x.1.weights Tryz.prog 33, n ≤ reachBytes) :
    ∃ m : Mi, cs = m.cells.toList ∧ m.Vw W ∧ m.Rn := by
  obtain ⟨xs, n, _, rfl, hl, hlen, hf⟩ := DataW.trod_struct Tryz.underlying33 h
  rw [cellsVIm] at hl
  have hlen : xs.length = 4 := hlen
  obtain ⟨c0, c1, c2, c3, c4, c5, c6, c7, c8, c9, rfl⟩ := lst10 hl
  obtain ⟨y0, y1, y2, y3, rfl⟩ := lst4 hlen
  have e0 : DataW.trod enc Tryz.prog W 0 (fun _ => true) true n 22 (List.take (Tryz.prog.cellsOf 22) [c0, c1, c2, c3, c4, c5, c6, c7, c8, c9]) = some y0 := hf 0 _ rfl
  rw [cellsU64] at e0
  have e1 : DataW.trod enc Tryz.prog W 0 (fun _ => true) true n 22 (List.take (Tryz.prog.cellsOf 22) [c1, c2, c3, c4, c5, c6, c7, c8, c9]) = some y1 := hf 1 _ rfl
  rw [cellsU64] at e1
  have e2 : DataW.trod enc Tryz.prog W 0 (fun _ => true) true n 30 (List.take (Tryz.prog.cellsOf 30) [c2, c3, c4, c5, c6, c7, c8, c9]) = some y2 := hf 2 _ rfl
  rw [cellsVHi] at e2
  have e3 : DataW.trod enc Tryz.prog W 0 (fun _ => true) true n 31 (List.take (Tryz.prog.cellsOf 31) [c9]) = some y3 := hf 3 _ rfl
  rw [cellsVSnS] at e3
  have hr : ∀ n ∈ DataW.weightsEach Tryz.prog [22, 22, 30, 31] [y0.1, y1.1, y2.1, y3.1], n ≤ reachBytes := by
    intro n hn
    refine hr n ?_
    simp only [DataW.weights, Tryz.underlying33]
    exact hn
  obtain ⟨s0, k0, _, w0⟩ := DataW.trod_int Tryz.underlying22 e0
  have b0 := bounds_u64 w0
  obtain ⟨s1, k1, _, w1⟩ := DataW.trod_int Tryz.underlying22 e1
  have b1 := bounds_u64 w1
  simp only [List.take, List.cons.injEq, and_true] at k0 k1
  subst k0 k1
  obtain ⟨n0, rfl⟩ := Int.eq_ofNat_of_zero_le b0.1
  obtain ⟨n1, rfl⟩ := Int.eq_ofNat_of_zero_le b1.1
  obtain ⟨tot, nx, oa, na, ka, oh, nh, kh, oj, nj, kj, A, H, J, od, nd, kd, D, ends, kk2, u1, u2, u3, u4, u5, u6, u7, u8⟩ := view_Hi e2 (fun n hn => hr n (DataW.weights_mem_each (j := 2) rfl rfl n hn))
  obtain ⟨os, ns, ks, Ls, kk3, Rs, Os⟩ := view_rows 31 61 5 56 Sn.cells (fun a => (a.cl < u64 ∧ a.sq < u64 ∧ a.st < u64) ∧ Shows W.heap.size W a.co a.cn a.cc a.D) Tryz.underlying31 cellsVSnT bytesVSnT (fun _ => rfl) (by omega) (fun n cs y h hr => view_Sn h hr) e3 (fun n hn => hr n (DataW.weights_mem_each (j := 3) rfl rfl n hn))
  simp only [List.take, List.cons.injEq, and_true] at kk2 kk3
  obtain ⟨r0, r1, r2, r3, r4, r5, r6⟩ := kk2
  subst r0 r1 r2 r3 r4 r5 r6 kk3
  exact ⟨⟨n0, n1, tot, nx, A, H, J, D, ends, Ls, oa, na, ka, oh, nh, kh, oj, nj, kj, od, nd, kd, os, ns, ks⟩, rfl, ⟨u2, u6, ⟨Rs, fun x hx => (Os x hx).2⟩⟩, ⟨by intro v hv; simp only [List.mem_cons, List.not_mem_nil, or_false] at hv; unfold u64; omega, by intro v hv; simp only [List.mem_cons, List.not_mem_nil, or_false] at hv; rcases hv with rfl | rfl; exact u1.1; exact u1.2, by intro v hv; simp only [List.mem_cons, List.not_mem_nil, or_false] at hv; subst hv; exact u8, u3, u4, u5, u7, fun x hx => (Os x hx).1, fun x hx => (Os x hx).2.1⟩⟩
end Go.Proofs.YtiijbboigebhcaaGreatDoor
namespace Go.Proofs.YtiijbboigebhcaaGreatDoor.snapPacks
open Go.ChangeShapes Go.WideShapes Go.ChangeAt Go.RowKit Go.Deep
/-- A world that meets the condition: the variable's cell laid. -/
noncomputable def lay (w0 : World) : World :=
  { w0 with heap := w0.heap.modify 0 fun
      | .cells _ t frozen => .cells #[.iface 201 (.agg #[.pointer (some ⟨1, 38, none⟩)])] t frozen
      | o => o }
set_option maxRecDepth 100000 in
theorem contract (H : Type) (enc : TypeId × Value → H) (W : World) (base : Nat) (args : Array Value) (ds gs : List (DataW H)) (before : List MemPlace)
    (hval : ∀ (j : Nat) t v, Tryz.f3.params[j]? = some t → args[j]? = some v → Value.okWide Tryz.prog W .any base t v)
    (hW : DataW.Whole enc Tryz.prog Tryz.f3.params.toList Rows.snapPacksSpec.vars false W args.toList ds gs before) (_hL : laidMetH Tryz.prog Rows.snapPacksRow.laid W)
    (hsz : (DataW.weightsEach Tryz.prog (Tryz.f3.params.toList ++ Rows.snapPacksSpec.plain.varTypes Tryz.prog) (ds ++ gs)).all (· ≤ reachBytes) = true) :
    Calls Tryz.prog 3 args W fun e W' => ∃ v, e = .returned v ∧ Rows.snapPacksSpec.post enc Tryz.prog Tryz.f3 false true false false W args v W' := by
  have hW' := hW
  obtain ⟨p, q, hA0, hV, rfl, hfz, hnd⟩ := hW
  have hA : DataW.TrodAll enc Tryz.prog W 0 (fun _ => true) true Tryz.f3.params.toList args.toList ds p := hA0
  rw [Tryz.params3] at hA hval hsz
  obtain ⟨v0, vs0, d0, ds0, p0, q0, hargs, rfl, rfl, h0, r0⟩ := trodAll_cons hA
  obtain ⟨rfl, rfl, rfl⟩ := trodAll_nil r0
  obtain rfl : args = #[v0] := by cases args; simp_all
  obtain ⟨rfl, rfl⟩ := trodVars_none hV
  obtain ⟨cs0, rfl, _⟩ := okWide_struct Tryz.underlying33 (hval 0 33 v0 rfl rfl)
  have k0 := h0
  have lt0 : ∀ x ∈ p0, x.block < W.heap.size := by obtain ⟨m, hm⟩ := k0; exact DataW.trod_lt m _ _ _ hm
  obtain ⟨m, hcs, hvw, hrn⟩ : ∃ m : Mi, (Value.agg cs0).cells.toList = m.cells.toList ∧ m.Vw W ∧ m.Rn := by
    obtain ⟨fuel, hf⟩ := h0
    exact view_Im hf (fun n hn => by
      have := List.all_eq_true.1 hsz n (DataW.weights_mem_each (j := 0) (t := 33) (d := d0) rfl rfl n hn)
      simpa using this)
  obtain rfl : cs0 = m.cells := Array.ext' hcs
  refine (sp_walk m hvw hrn).mono fun e W' ⟨he, bel⟩ => ?_
  subst he
  simp only [List.append_nil] at hW'
  exact ⟨_, rfl, _, _, _, [], _, [], hW', trodAll_mk1 (shut_bool Tryz.underlying4 _), (trodAll_cons_mk (Below.trod laidOut (by kernel_rfl) (of_decide_eq_true (by kernel_rfl)) k0 bel lt0) trodAll_mk0), rfl, bel.frame _, fun h => by cases h⟩
def args0 : Array Value := #[.agg #[.int .u64 0, .int .u64 0, .int .u64 0, .int .u64 0, .slice none 0 0, .slice none 0 0, .slice none 0 0, .slice none 0 0, .int .u64 0, .slice none 0 0]]
def data0 (H : Type) : List (DataW H) := [.agg [.lit (.int .u64 0), .lit (.int .u64 0), .agg [.agg [.lit (.int .u64 0), .lit (.int .u64 0), .nil, .nil, .nil], .nil, .lit (.int .u64 0)], .nil]]
theorem laid_met (os : Os) : laidMetH Tryz.prog Rows.snapPacksRow.laid ((lay (World.holding Tryz.prog os ⟨#[], #[], []⟩)).forCall (fun _ _ => 0) ⟨#[], args0, []⟩).memory :=
  laidMetH_of_parts (laidMet_nil _ _) (by kernel_rfl)
theorem reads (os : Os) {H : Type} (enc : TypeId × Value → H) : ∃ places, DataW.whole enc Tryz.prog ((lay (World.holding Tryz.prog os ⟨#[], #[], []⟩)).forCall (fun _ _ => 0) ⟨#[], args0, []⟩).memory Tryz.f3.params.toList Rows.snapPacksSpec.vars false args0.toList 8 = some (data0 H, [], places) :=
  ⟨[], by kernel_rfl⟩
set_option maxRecDepth 100000 in
theorem lifted (os : Os) (started : os.Started) (H : Type) (enc : TypeId × Value → H) (F : Stop.Interp) :
    ReturnsInHanded {} Tryz.checked os 3 .any ((OpenSpec.ofChange Rows.snapPacksSpec).preRow enc Tryz.prog Tryz.f3 Rows.snapPacksRow.domain false Rows.snapPacksRow.laid) (((OpenSpec.ofChange Rows.snapPacksSpec).at F).post enc Tryz.prog Tryz.f3 false true false false) := by
  obtain ⟨places, hx⟩ := reads os enc
  refine returnsInHanded_of_row (C := Tryz.checked) (s := OpenSpec.ofChange Rows.snapPacksSpec) own started (by kernel_rfl) Tryz.func3
    (witness_row_at (enc := enc) (C := Tryz.checked) false (lay (World.holding Tryz.prog os ⟨#[], #[], []⟩)) args0 rfl (by kernel_rfl) (by kernel_rfl) (by kernel_rfl)
      (OpenSpec.preRow_of_cond 8 hx (by kernel_rfl) (fun k hk => by cases hk) (by kernel_rfl) (laid_met os))) ?_
  intro W base args ds gs before hval hW _ _ hsz hL _ _
  exact contract H enc W base args ds gs before hval hW hL hsz
theorem said : Rows.SnapPacksSaid :=
  OpenClaim.holds_of_cond 3 Tryz.f3 rfl rfl rfl rfl rfl rfl rfl ⟨rfl, rfl, rfl, rfl, rfl⟩ rfl rfl rfl rfl rfl (by kernel_rfl) Tryz.func3 (by kernel_rfl)
    (of_decide_eq_true (by kernel_rfl)) (by unfold Func.isWrapper; first | (rw [if_pos (by decide +kernel)]; kernel_rfl) | (rw [if_neg (by decide +kernel)]; exact ⟨rfl, rfl⟩))
    (fun os started H enc _ F => by rw [OpenClaim.pre_eq_preRow]; exact lifted os started H enc F)
theorem plain (f : FuncId) (fn : Func) (hf : Tryz.pinned.checked.prog.funcNamed Rows.snapPacksRow.func = some f) (hfn : Tryz.pinned.checked.prog.funcs[f]? = some fn) :
    Rows.snapPacksCard.stood.looks = Tryz.pinned.checked.prog.looks [] ∧ ∀ (j : Nat) t, fn.params[j]? = some t → Tryz.pinned.checked.prog.wantsStandIn t = false := by
  obtain rfl : f = 3 := Option.some.inj ((show Tryz.prog.funcNamed Rows.snapPacksRow.func = some 3 by kernel_rfl).symm.trans hf) |>.symm
  obtain rfl : fn = Tryz.f3 := (Option.some.inj (Tryz.func3.symm.trans hfn)).symm
  refine ⟨by kernel_rfl, fun j t ht => ?_⟩
  rw [Tryz.params3] at ht
  have hm : t = 33 := by have := Array.mem_of_getElem? ht; simpa using this
  subst hm
  exact (show Tryz.prog.wantsStandIn 33 = false by kernel_rfl)
theorem card : Rows.SnapPacksCardSaid :=
  Claim7.holds_tied_plain_at .later [] _ _ _ _ said (fun _ h => by cases h) (by kernel_rfl) (fun _ h => by cases h) snapPacks_row_tie rfl ⟨rfl, rfl⟩ (by kernel_rfl) rfl plain (by kernel_rfl)
end Go.Proofs.YtiijbboigebhcaaGreatDoor.snapPacks
namespace Go.Proofs.YtiijbboigebhcaaGreatDoor
theorem snapPacks_card_holds : Rows.SnapPacksCardSaid := snapPacks.card
#print axioms snapPacks_card_holds
end Go.Proofs.YtiijbboigebhcaaGreatDoor
