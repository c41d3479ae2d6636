import Derived.Test.YteafdpmblbbpnaaLB47
namespace Go.Proofs.Yteafdpmblbbpnaa
open Go.RowKit

theorem fm_le {α β : Type} (f : α → Option β) : ∀ l : List α, (l.filterMap f).length ≤ l.length
  | [] => Nat.le_refl _
  | a :: r => by
    rw [List.filterMap_cons]
    have := fm_le f r
    split <;> simp only [List.length_cons] <;> omega
theorem foldl_take {α β : Type} (f : β → α → β) (b : β) {l : List α} {k : Nat} {x : α} (h : l[k]? = some x) : (l.take (k + 1)).foldl f b = f ((l.take k).foldl f b) x := by
  have e : l.take (k + 1) = l.take k ++ [x] := by rw [List.take_add_one, h]; rfl
  rw [e, List.foldl_append]
  rfl
theorem fm_take {α β : Type} (f : α → Option β) {l : List α} {k : Nat} {x : α} (h : l[k]? = some x) : (l.take (k + 1)).filterMap f = (l.take k).filterMap f ++ (f x).toList := by
  have e : l.take (k + 1) = l.take k ++ [x] := by rw [List.take_add_one, h]; rfl
  rw [e, List.filterMap_append]
  rw [List.filterMap_cons]
  cases f x <;> rfl
set_option maxRecDepth 10000 in
set_option maxHeartbeats 16000000 in
/-- fold: an image gone on by a line. -/
theorem foldI {w : World} {A : List Ac} {H : List Ho} {ao ho : Option Addr} {ga gh : Nat} (h : Im w A H ao ho ga gh) (n m cap hcap : Nat) (hn : n = A.length) (hm : m = H.length) (hle : n ≤ 64) (hlm : m ≤ 64) (e : Jn) (he : e.In) (T0 T1 : Nat) (jv : Value) {A' : List Ac} {H' : List Ho} {b : Bool} (hF : foldF e A H = (A', H', b)) :
    Calls Try.prog 9 #[.agg #[.int .u64 (T0 : Nat), .int .u64 (T1 : Nat), .slice ao n cap, .slice ho m hcap, jv], .agg e.arr] w fun x w' => ∃ ao' cap' ho' hcap', x = .returned (.tuple #[.agg #[.int .u64 (T0 : Nat), .int .u64 (T1 : Nat), .slice ao' A'.length cap', .slice ho' H'.length hcap', .slice none 0 0], .bool b]) ∧ Hid (w'.ownsRow w.heap.size 50 4 (.slice ao' A'.length cap') A'.length (acells A') ∧ w'.ownsRow w.heap.size 75 3 (.slice ho' H'.length hcap') H'.length (hcells H') ∧ Below w.heap.size w w') := by
  obtain ⟨i0, hi, hz0, hz1, hz2⟩ := info_parts infoAcc
  obtain ⟨i1, hj, hy0, hy1, hy2⟩ := info_parts infoHold
  obtain ⟨W1, hW1⟩ : ∃ W1, (((w.alloc (.cells #[.int .u64 (T0 : Nat), .int .u64 (T1 : Nat), .slice ao n cap, .slice ho m hcap, jv] 31)).alloc (.cells e.arr 38)).alloc (.cells #[.int .u64 0, .int .u64 0, .slice none 0 0, .slice none 0 0, .slice none 0 0] 31)).alloc (.cells #[.int .u64 (T0 : Nat), .int .u64 (T1 : Nat), .slice none 0 0, .slice none 0 0, .slice none 0 0] 31) = W1 := ⟨_, rfl⟩
  obtain ⟨b1, q0, q1, q2, q3⟩ := four_boxes w _ _ _ _ _ _ _ _ hW1
  have HI := hide (h.below b1)
  have HF0 : Hid (Fo w #[.int .u64 (T0 : Nat), .int .u64 (T1 : Nat), .slice ao n cap, .slice ho m hcap, jv] e (.int .u64 (T0 : Nat)) (.int .u64 (T1 : Nat)) [] (.slice none 0 0) [] (.slice none 0 0) W1) := ⟨b1, q0, q1, q2, q3, World.ownsRow_nil _ _ _ _, World.ownsRow_nil _ _ _ _⟩
  have HLW : Hid (∀ V, Below w.heap.size w V → Im V A H ao ho ga gh) := fun V hV => h.below hV
  have HN := hide (And.intro hn hm)
  have HFF := hide hF
  have HE := hide he
  have HW1 := hide hW1
  clear h hn hm hF he hW1 b1 q0 q1 q2 q3 HI
  unfold Jn.arr at HW1
  unfold Jn.arr
  go_enter Try.func9, Try.ntmps9
  go_upto_region 2 with fail
  rw [HW1.out]
  clear HW1
  have y2 := block_cell HF0.out.b0 2
  have yl := block_lt HF0.out.b0
  simp at y2
  go_wp2
  go_loopw [7, 8, 9] (fun tk gv i wr => ∃ k : Nat, k ≤ n ∧ i = .int .i64 k ∧ ∃ z : Fz, tk = .bool z.tk ∧ gv = .bool z.gv ∧ Hid ((A.take k).foldl (foldA e) ⟨false, false, []⟩ = z) ∧ ∃ (vo : Option Addr) (vc : Nat), Hid (Fo w #[.int .u64 (T0 : Nat), .int .u64 (T1 : Nat), .slice ao n cap, .slice ho m hcap, jv] e (.int .u64 (T0 : Nat)) (.int .u64 (T1 : Nat)) z.out (.slice vo z.out.length vc) [] (.slice none 0 0) wr)) (fun _ _ i _ => n - (intOf i).toNat)
  case atStart => exact ⟨0, by omega, rfl, ⟨false, false, []⟩, rfl, rfl, rfl, none, 0, HF0.out⟩
  case round =>
    clear y2 yl HF0
    obtain ⟨k, hk, rfl, z, rfl, rfl, HZ, vo, vc, HFo⟩ := hrel
    have y2 := block_cell HFo.out.b0 2
    have yl := block_lt HFo.out.b0
    simp at y2
    by_cases hlt : k < n
    · obtain ⟨x, hx⟩ : ∃ x, A[k]? = some x := ⟨_, List.getElem?_eq_getElem (by have := HN.out.1; omega)⟩
      have hIm := HLW.out wr HFo.out.bel
      obtain ⟨d0, d1, d2, d3⟩ := hIm.a.four hx
      obtain ⟨rfl, dl⟩ := hIm.ao (by have := HN.out.1; omega)
      simp only [Nat.zero_add] at d0 d1 d2 d3
      have hxin := hIm.a.ok x (List.mem_of_getElem? hx)
      have HZ2 : Hid ((A.take (k + 1)).foldl (foldA e) ⟨false, false, []⟩ = foldA e z x) := by rw [foldl_take _ _ hx, HZ.out]; exact hide rfl
      have HX := hide hxin
      obtain ⟨W2, hW2⟩ : ∃ W2, wr.alloc (.cells x.arr 50) = W2 := ⟨_, rfl⟩
      have C2 : Hid (W2.heap[wr.heap.size]? = some (.cells x.arr 50 (0, 0))) := by rw [← hW2]; exact alloc_atK _ _
      have HF2 : Hid (Fo w #[.int .u64 (T0 : Nat), .int .u64 (T1 : Nat), .slice (some ⟨ga, 0, none⟩) n cap, .slice ho m hcap, jv] e (.int .u64 (T0 : Nat)) (.int .u64 (T1 : Nat)) z.out (.slice vo z.out.length vc) [] (.slice none 0 0) W2) := by rw [← hW2]; exact HFo.out.alloc _
      have HNW := hide HFo.out.new
      have HW2 := hide hW2
      have hlen : z.out.length ≤ 64 := by
        rw [← HZ.out, foldA_out, List.nil_append]
        have h1 := fm_le (fAf e) (A.take k)
        rw [List.length_take] at h1
        omega
      clear hW2 hIm hx hxin HFo HZ
      unfold Ac.arr at HW2
      go_upto_region 7 with fail
      rw [HW2.out]
      clear HW2 d0 d1 d2 d3 dl y2 yl
      generalize wr.heap.size = qb at *
      have z0 := block_cell C2.out 0
      have z2 := block_cell C2.out 2
      have z3 := block_cell C2.out 3
      have zl := block_lt C2.out
      have zf := block_free C2.out 2
      have e1 := block_cell HF2.out.b1 1
      have e2 := block_cell HF2.out.b1 2
      have e3 := block_cell HF2.out.b1 3
      have e4 := block_cell HF2.out.b1 4
      have el := block_lt HF2.out.b1
      simp [Ac.arr, Jn.arr] at z0 z2 z3 e1 e2 e3 e4
      obtain ⟨y, hy⟩ : ∃ y, fAm1 e x = y := ⟨_, rfl⟩
      obtain ⟨X0, hX0⟩ : ∃ X : Int, (x.id : Int) = X := ⟨_, rfl⟩
      obtain ⟨X2, hX2⟩ : ∃ X : Int, (x.ba : Int) = X := ⟨_, rfl⟩
      obtain ⟨X3, hX3⟩ : ∃ X : Int, (x.cp : Int) = X := ⟨_, rfl⟩
      obtain ⟨KD, hKD⟩ : ∃ X : Int, (e.kd : Int) = X := ⟨_, rfl⟩
      obtain ⟨FR, hFR⟩ : ∃ X : Int, (e.fr : Int) = X := ⟨_, rfl⟩
      obtain ⟨TW, hTW⟩ : ∃ X : Int, (e.tw : Int) = X := ⟨_, rfl⟩
      obtain ⟨AM, hAM⟩ : ∃ X : Int, (e.am : Int) = X := ⟨_, rfl⟩
      obtain ⟨D1, hD1⟩ : ∃ X : Int, ((subW x.ba e.am : Nat) : Int) = X := ⟨_, rfl⟩
      have HID : Hid ((x.id = e.fr ↔ X0 = FR) ∧ (x.id = e.tw ↔ X0 = TW) ∧ (e.kd = 2 ↔ KD = 2) ∧ (e.kd = 3 ↔ KD = 3) ∧ (e.kd = 4 ↔ KD = 4) ∧ (e.kd = 5 ↔ KD = 5)) := hide (by omega)
      have HT1 : Hid (decide (AM ≤ X2) = decide (e.am ≤ x.ba)) := by rw [← hAM, ← hX2]; exact decide_eq_decide.2 (by omega)
      have hw1 : IntKind.u64.wrap (X2 - AM) = D1 := by rw [← hX2, ← hAM, ← hD1]; exact wrap_sub HX.out.h2 HE.out.h4
      have K1 : Hid ((fA1 e x = true → (W2.setCell ⟨qb, 2, none⟩ (.int .u64 D1)).heap[qb]? = some (.cells y.arr 50 (0, 0)) ∧ W2.grownBy (W2.setCell ⟨qb, 2, none⟩ (.int .u64 D1)) (some qb)) ∧ (fA1 e x = false → W2.heap[qb]? = some (.cells y.arr 50 (0, 0)) ∧ W2.grownBy W2 (some qb))) := by
        refine ⟨fun ht => ⟨?_, grown_set _ _ _ _⟩, fun hf => ⟨?_, ⟨rfl, rfl, rfl, Nat.le_refl _, fun _ _ _ => rfl⟩⟩⟩
        · rw [← hy, ← hD1]
          unfold fAm1
          rw [if_pos ht]
          exact heap_setCell_same W2 qb 2 _ _ _ C2.out
        · rw [← hy]
          unfold fAm1
          rw [if_neg (by rw [hf]; decide)]
          exact C2.out
      rw [hX0] at z0
      rw [hX2] at z2
      rw [hX3] at z3
      rw [hKD] at e1
      rw [hFR] at e2
      rw [hTW] at e3
      rw [hAM] at e4
      have HY := hide hy
      have HX0 := hide hX0
      have HX2 := hide hX2
      have HX3 := hide hX3
      have HAM := hide hAM
      have HKD := hide hKD
      have HFR := hide hFR
      have HTW := hide hTW
      clear hy hX0 hX2 hX3 hKD hFR hTW hAM hD1
      go_cut [44] (fun c V => ∃ t : Bool, c = .bool t ∧ Hid (fA1 e x = t) ∧ V = W2)
      case first =>
        by_cases i1 : X0 = FR
        · have j1 := HID.out.1.2 i1
          have g1 : (X0 == FR) = true := by simp [i1]
          by_cases k3 : KD = 3
          · have hT : Hid (fA1 e x = true) := by have := HID.out.2.2.2.1.2 k3; exact hide (by simp [fA1, j1, this])
            have g3 : (KD == 3) = true := by simp [k3]
            clear i1 k3 j1
            go_wp2
            go_meet
            case rel => exact ⟨_, rfl, hT, rfl⟩
          · have g3 : (KD == 3) = false := by simp [k3]
            by_cases k4 : KD = 4
            · have hT : Hid (fA1 e x = true) := by have := HID.out.2.2.2.2.1.2 k4; exact hide (by simp [fA1, j1, this])
              have g4 : (KD == 4) = true := by simp [k4]
              clear i1 k3 k4 j1
              go_wp2
              go_meet
              case rel => exact ⟨_, rfl, hT, rfl⟩
            · have g4 : (KD == 4) = false := by simp [k4]
              have hF : Hid (fA1 e x = false) := by
                have a3 : ¬ e.kd = 3 := fun h => k3 (HID.out.2.2.2.1.1 h)
                have a4 : ¬ e.kd = 4 := fun h => k4 (HID.out.2.2.2.2.1.1 h)
                exact hide (by simp [fA1, a3, a4])
              clear i1 k3 k4 j1
              go_wp2
              go_meet
              case rel => exact ⟨_, rfl, hF, rfl⟩
        · have g1 : (X0 == FR) = false := by simp [i1]
          have hF : Hid (fA1 e x = false) := by
            have a1 : ¬ x.id = e.fr := fun h => i1 (HID.out.1.1 h)
            exact hide (by simp [fA1, a1])
          clear i1
          go_wp2
          go_meet
          case rel => exact ⟨_, rfl, hF, rfl⟩
      case rest =>
      obtain ⟨t1, rfl, HF1, hwc⟩ := hcut
      have hwc := hwc.symm
      subst hwc
      go_upto_if 44 with fail
      go_cut [7] (fun tk V => ∃ t : Bool, tk = .bool t ∧ Hid (t = if fA1 e x = true then decide (e.am ≤ x.ba) else z.tk) ∧ Hid (V.heap[qb]? = some (.cells y.arr 50 (0, 0)) ∧ W2.grownBy V (some qb)))
      case first =>
        cases t1 with
        | true =>
          have L : Hid (decide (AM ≤ X2) = if fA1 e x = true then decide (e.am ≤ x.ba) else z.tk) := by rw [if_pos HF1.out]; exact HT1.out
          have K := hide (K1.out.1 HF1.out)
          go_wp2
          go_meet
          case rel => exact ⟨_, rfl, L, K.out⟩
        | false =>
          have L : Hid (z.tk = if fA1 e x = true then decide (e.am ≤ x.ba) else z.tk) := by rw [if_neg (by rw [HF1.out]; decide)]; exact rfl
          have K := hide (K1.out.2 HF1.out)
          go_wp2
          go_meet
          case rel => exact ⟨_, rfl, L, K.out⟩
      case rest =>
      obtain ⟨tk, rfl, HTK, HB1⟩ := hcut
      obtain ⟨V1, hV1⟩ : ∃ V, V = wc := ⟨_, rfl⟩
      subst hV1
      clear K1 HF1 z0 z2 z3 zl zf HT1 hw1 HX2 e1 e2 e3 e4 el C2
      have hy1 := fAm1_id e x
      rw [HY.out] at hy1
      have hyin : y.In := by rw [← HY.out]; exact fAm1_in HX.out
      have HF3 := hide (HF2.out.box HB1.out.2 HNW.out.2.2 HNW.out.1 HNW.out.2.1)
      have z0 := block_cell HB1.out.1 0
      have z2 := block_cell HB1.out.1 2
      have z3 := block_cell HB1.out.1 3
      have zl := block_lt HB1.out.1
      have zf := block_free HB1.out.1 2
      have e1 := block_cell HF3.out.b1 1
      have e2 := block_cell HF3.out.b1 2
      have e3 := block_cell HF3.out.b1 3
      have e4 := block_cell HF3.out.b1 4
      have el := block_lt HF3.out.b1
      simp [Ac.arr, Jn.arr] at z0 z2 z3 e1 e2 e3 e4
      obtain ⟨y', hy'⟩ : ∃ y', fAm2 e y = y' := ⟨_, rfl⟩
      obtain ⟨Y2, hY2⟩ : ∃ X : Int, (y.ba : Int) = X := ⟨_, rfl⟩
      obtain ⟨D2, hD2⟩ : ∃ X : Int, ((addW y.ba e.am : Nat) : Int) = X := ⟨_, rfl⟩
      obtain ⟨D3, hD3⟩ : ∃ X : Int, ((subW y.cp y.ba : Nat) : Int) = X := ⟨_, rfl⟩
      have HT2 : Hid (decide (AM ≤ D3) = decide (e.am ≤ subW y.cp y.ba)) := by rw [← HAM.out, ← hD3]; exact decide_eq_decide.2 (by omega)
      have hw2 : IntKind.u64.wrap (Y2 + AM) = D2 := by rw [← hY2, ← HAM.out, ← hD2]; exact wrap_add _ _
      have hw3 : IntKind.u64.wrap (X3 - Y2) = D3 := by rw [← HX3.out, ← hY2, ← hD3, ← hy1.2.2]; exact wrap_sub hyin.h3 hyin.h2
      have K2 : Hid ((fA2 e x = true → (V1.setCell ⟨qb, 2, none⟩ (.int .u64 D2)).heap[qb]? = some (.cells y'.arr 50 (0, 0)) ∧ V1.grownBy (V1.setCell ⟨qb, 2, none⟩ (.int .u64 D2)) (some qb)) ∧ (fA2 e x = false → V1.heap[qb]? = some (.cells y'.arr 50 (0, 0)) ∧ V1.grownBy V1 (some qb))) := by
        have ef : fA2 e y = fA2 e x := by unfold fA2; rw [hy1.1]
        refine ⟨fun ht => ⟨?_, grown_set _ _ _ _⟩, fun hf => ⟨?_, ⟨rfl, rfl, rfl, Nat.le_refl _, fun _ _ _ => rfl⟩⟩⟩
        · rw [← hy', ← hD2]
          unfold fAm2
          rw [if_pos (ef.trans ht)]
          exact heap_setCell_same V1 qb 2 _ _ _ HB1.out.1
        · rw [← hy']
          unfold fAm2
          rw [if_neg (by rw [ef, hf]; decide)]
          exact HB1.out.1
      rw [hy1.1, HX0.out] at z0
      rw [hY2] at z2
      rw [hy1.2.2, HX3.out] at z3
      rw [HKD.out] at e1
      rw [HFR.out] at e2
      rw [HTW.out] at e3
      rw [HAM.out] at e4
      have HY' := hide hy'
      have HY1 := hide hy1
      have HYI := hide hyin
      clear hy1 hyin hy' hY2 hD2 hD3 HF2
      go_upto_region 10 with fail
      go_cut [70] (fun c V => ∃ t : Bool, c = .bool t ∧ Hid (fA2 e x = t) ∧ V = V1)
      case first =>
        by_cases i1 : X0 = TW
        · have j1 := HID.out.2.1.2 i1
          have g1 : (X0 == TW) = true := by simp [i1]
          by_cases k3 : KD = 3
          · have hT : Hid (fA2 e x = true) := by have := HID.out.2.2.2.1.2 k3; exact hide (by simp [fA2, j1, this])
            have g3 : (KD == 3) = true := by simp [k3]
            clear i1 k3 j1
            go_wp2
            go_meet
            case rel => exact ⟨_, rfl, hT, rfl⟩
          · have g3 : (KD == 3) = false := by simp [k3]
            by_cases k5 : KD = 5
            · have hT : Hid (fA2 e x = true) := by have := HID.out.2.2.2.2.2.2 k5; exact hide (by simp [fA2, j1, this])
              have g5 : (KD == 5) = true := by simp [k5]
              clear i1 k3 k5 j1
              go_wp2
              go_meet
              case rel => exact ⟨_, rfl, hT, rfl⟩
            · have g5 : (KD == 5) = false := by simp [k5]
              have hF : Hid (fA2 e x = false) := by
                have a3 : ¬ e.kd = 3 := fun h => k3 (HID.out.2.2.2.1.1 h)
                have a5 : ¬ e.kd = 5 := fun h => k5 (HID.out.2.2.2.2.2.1 h)
                exact hide (by simp [fA2, a3, a5])
              clear i1 k3 k5 j1
              go_wp2
              go_meet
              case rel => exact ⟨_, rfl, hF, rfl⟩
        · have g1 : (X0 == TW) = false := by simp [i1]
          have hF : Hid (fA2 e x = false) := by
            have a1 : ¬ x.id = e.tw := fun h => i1 (HID.out.2.1.1 h)
            exact hide (by simp [fA2, a1])
          clear i1
          go_wp2
          go_meet
          case rel => exact ⟨_, rfl, hF, rfl⟩
      case rest =>
      obtain ⟨t2, rfl, HF4, hwc⟩ := hcut
      have hwc := hwc.symm
      subst hwc
      go_upto_if 70 with fail
      go_cut [8] (fun gv V => ∃ t : Bool, gv = .bool t ∧ Hid (t = if fA2 e x = true then decide (e.am ≤ subW y.cp y.ba) else z.gv) ∧ Hid (V.heap[qb]? = some (.cells y'.arr 50 (0, 0)) ∧ V1.grownBy V (some qb)))
      case first =>
        cases t2 with
        | true =>
          have L : Hid (decide (AM ≤ D3) = if fA2 e x = true then decide (e.am ≤ subW y.cp y.ba) else z.gv) := by rw [if_pos HF4.out]; exact HT2.out
          have K := hide (K2.out.1 HF4.out)
          go_wp2
          go_meet
          case rel => exact ⟨_, rfl, L, K.out⟩
        | false =>
          have L : Hid (z.gv = if fA2 e x = true then decide (e.am ≤ subW y.cp y.ba) else z.gv) := by rw [if_neg (by rw [HF4.out]; decide)]; exact rfl
          have K := hide (K2.out.2 HF4.out)
          go_wp2
          go_meet
          case rel => exact ⟨_, rfl, L, K.out⟩
      case rest =>
      obtain ⟨gv, rfl, HGV, HB2⟩ := hcut
      obtain ⟨V2, hV2⟩ : ∃ V, V = wc := ⟨_, rfl⟩
      subst hV2
      clear K2 HF4 z0 z2 z3 zl zf HT2 hw2 hw3 e1 e2 e3 e4 el
      have HF5 := hide (HF3.out.box HB2.out.2 HNW.out.2.2 HNW.out.1 HNW.out.2.1)
      have hy1 := fAm2_id e y
      rw [HY'.out, HY1.out.1, HY1.out.2.2] at hy1
      have z0 := block_cell HB2.out.1 0
      have z1 := block_cell HB2.out.1 1
      have z2 := block_cell HB2.out.1 2
      have z3 := block_cell HB2.out.1 3
      have zl := block_lt HB2.out.1
      have e1 := block_cell HF5.out.b1 1
      have e2 := block_cell HF5.out.b1 2
      have n2 := block_cell HF5.out.b3 2
      have nl := block_lt HF5.out.b3
      have el := block_lt HF5.out.b1
      simp [Ac.arr, Jn.arr] at z0 z1 z2 z3 e1 e2 n2
      obtain ⟨Y1, hY1⟩ : ∃ X : Int, (y'.ow : Int) = X := ⟨_, rfl⟩
      obtain ⟨Z2, hZ2⟩ : ∃ X : Int, (y'.ba : Int) = X := ⟨_, rfl⟩
      rw [hy1.1, HX0.out] at z0
      rw [hY1] at z1
      rw [hZ2] at z2
      rw [hy1.2.2, HX3.out] at z3
      rw [HKD.out] at e1
      rw [HFR.out] at e2
      have HBA : Hid ((Z2 == 0) = (y'.ba == 0)) := by
        rw [← hZ2]
        by_cases h0 : y'.ba = 0
        · exact hide (by simp [h0])
        · have hb : (((y'.ba : Nat) : Int) == 0) = (y'.ba == 0) := by rw [beq_false_of_ne h0, beq_false_of_ne (by omega)]
          exact hide hb
      have HVV : Hid (y'.vals = [.int .u64 X0, .int .u64 Y1, .int .u64 Z2, .int .u64 X3]) := by
        unfold Ac.vals
        rw [hy1.1, hy1.2.2, HX0.out, HX3.out, hY1, hZ2]
        exact hide rfl
      clear hy1 hY1 hZ2 HF3 HX0 HX3
      have HFD : Hid (foldA e z x = if fA3 e x = true then ⟨y'.ba == 0, true, z.out⟩ else ⟨tk, gv, z.out ++ [y']⟩) := by
        unfold foldA
        rw [HY.out, HY'.out, ← HTK.out]
        have ec : y.cp = (fAm1 e x).cp := by rw [HY.out]
        have eb : y.ba = (fAm1 e x).ba := by rw [HY.out]
        rw [← HGV.out]
        exact hide rfl
      clear HTK HGV HY HY' HY1 HYI HAM
      go_upto_region 13 with fail
      go_cut [94] (fun c V => ∃ t : Bool, c = .bool t ∧ Hid (fA3 e x = t) ∧ V = V2)
      case first =>
        by_cases i1 : X0 = FR
        · have j1 := HID.out.1.2 i1
          have g1 : (X0 == FR) = true := by simp [i1]
          by_cases k2 : KD = 2
          · have hT : Hid (fA3 e x = true) := by have := HID.out.2.2.1.2 k2; exact hide (by simp [fA3, j1, this])
            have g3 : (KD == 2) = true := by simp [k2]
            clear i1 k2 j1
            go_wp2
            go_meet
            case rel => exact ⟨_, rfl, hT, rfl⟩
          · have g3 : (KD == 2) = false := by simp [k2]
            have hF : Hid (fA3 e x = false) := by
              have a3 : ¬ e.kd = 2 := fun h => k2 (HID.out.2.2.1.1 h)
              exact hide (by simp [fA3, a3])
            clear i1 k2 j1
            go_wp2
            go_meet
            case rel => exact ⟨_, rfl, hF, rfl⟩
        · have g1 : (X0 == FR) = false := by simp [i1]
          have hF : Hid (fA3 e x = false) := by
            have a1 : ¬ x.id = e.fr := fun h => i1 (HID.out.1.1 h)
            exact hide (by simp [fA3, a1])
          clear i1
          go_wp2
          go_meet
          case rel => exact ⟨_, rfl, hF, rfl⟩
      case rest =>
      obtain ⟨t3, rfl, HF6, hwc⟩ := hcut
      have hwc := hwc.symm
      subst hwc
      cases t3 with
      | true =>
        have HZ3 : Hid ((A.take (k + 1)).foldl (foldA e) ⟨false, false, []⟩ = ⟨Z2 == 0, true, z.out⟩) := by rw [HZ2.out, HFD.out, if_pos HF6.out, HBA.out]; exact hide rfl
        clear HF6 HFD HBA HZ2 e1 e2 n2 nl el z0 z1 z3
        go_wp2
        go_roundw
        case rel => exact ⟨k + 1, by omega, by go_num, ⟨Z2 == 0, true, z.out⟩, rfl, rfl, HZ3, vo, vc, HF5⟩
        case measure => simp [intOf]; omega
      | false =>
        have HZ3 : Hid ((A.take (k + 1)).foldl (foldA e) ⟨false, false, []⟩ = ⟨tk, gv, z.out ++ [y']⟩) := by rw [HZ2.out, HFD.out, if_neg (by rw [HF6.out]; decide)]; exact hide rfl
        have HAP : Hid (∀ o v5 w5, w5.ownsRow (w.heap.size + 1 + 1 + 1 + 1) 50 4 v5 (z.out.length + 1) (acells z.out ++ [.int .u64 X0, .int .u64 Y1, .int .u64 Z2, .int .u64 X3]) → (World.alloc V2 o).grownBy w5 (Value.slice vo z.out.length vc).ownBlock → Fo w #[.int .u64 (T0 : Nat), .int .u64 (T1 : Nat), .slice (some ⟨ga, 0, none⟩) n cap, .slice ho m hcap, jv] e (.int .u64 (T0 : Nat)) (.int .u64 (T1 : Nat)) (z.out ++ [y']) v5 [] (.slice none 0 0) (w5.setCell ⟨w.heap.size + 1 + 1 + 1, 2, none⟩ v5)) := fun o v5 w5 ho hg => HF5.out.appA o (by rw [HVV.out]; exact ho) hg
        have HBX : Hid (∀ o w5, (World.alloc V2 o).grownBy w5 (Value.slice vo z.out.length vc).ownBlock → w5.heap[w.heap.size + 1 + 1 + 1]? = some (.cells #[.int .u64 (T0 : Nat), .int .u64 (T1 : Nat), .slice vo z.out.length vc, .slice none 0 0, .slice none 0 0] 31 (0, 0))) := fun o w5 hg => HF5.out.boxA o hg
        have HOW : Hid (∀ o, (World.alloc V2 o).ownsRow (w.heap.size + 1 + 1 + 1 + 1) 50 4 (.slice vo z.out.length vc) z.out.length (acells z.out)) := fun o => HF5.out.ra.alloc o
        have HSZ : Hid (∀ o, w.heap.size + 1 + 1 + 1 + 1 ≤ (World.alloc V2 o).heap.size) := fun o => by simp; omega
        clear HF6 HFD HBA HZ2 e1 e2 el HVV
        go_wp2_with (at_builtin; refine wpList_append_own _ rfl (.tmp 99) (.tmp 101) 22 rfl (w.heap.size + 1 + 1 + 1 + 1) 50 i0 (.agg #[.int .u64 0, .int .u64 0, .int .u64 0, .int .u64 0]) 4 32 Try.underlying22 hi hz0 hz1 hz2 rfl (by decide) (.slice vo z.out.length vc) z.out.length (acells z.out) rfl (HOW.out _) ⟨V2.heap.size, 0, none⟩ 1 1 [.int .u64 X0, .int .u64 Y1, .int .u64 Z2, .int .u64 X3] rfl rfl (cells_newA _ _ _) (by simp [Value.oneCell']) (by unfold maxLen; omega) (by omega) (HSZ.out _) ?_; intro v' w4 ho hg _; obtain ⟨vo4, vc4, rfl⟩ := own_form2 ho; have HR2 := hide (HAP.out _ _ _ ho hg); have hbx := HBX.out _ _ hg; have m2 := block_cell hbx 2; have ml := block_lt hbx; have mf := block_free hbx 2; simp at m2; clear ho hg hbx n2 nl z0 z1 z2 z3 zl)
        go_roundw
        case rel => exact ⟨k + 1, by omega, by go_num, ⟨tk, gv, z.out ++ [y']⟩, rfl, rfl, HZ3, vo4, vc4, by rw [List.length_append]; exact HR2⟩
        case measure => simp [intOf]; omega
    · obtain rfl : k = n := by omega
      have HZT : Hid (A.foldl (foldA e) ⟨false, false, []⟩ = z) := by
        have h1 := HZ.out
        rw [show A.take k = A by rw [HN.out.1, List.take_length]] at h1
        exact h1
      have hzl : z.out.length ≤ 64 := by
        rw [← HZT.out, foldA_out, List.nil_append]
        have h1 := fm_le (fAf e) A
        have := HN.out.1
        omega
      clear HZ
      go_wp2
      go_loopw [7, 11] (fun tk i wr => ∃ q : Nat, q ≤ m ∧ i = .int .i64 q ∧ ∃ t : Bool, tk = .bool t ∧ Hid ((H.take q).foldl (foldT e) z.tk = t) ∧ ∃ hs : List Ho, Hid ((H.take q).filterMap (fHf e) = hs) ∧ ∃ (uo : Option Addr) (uc : Nat), Hid (Fo w #[.int .u64 (T0 : Nat), .int .u64 (T1 : Nat), .slice ao k cap, .slice ho m hcap, jv] e (.int .u64 (T0 : Nat)) (.int .u64 (T1 : Nat)) z.out (.slice vo z.out.length vc) hs (.slice uo hs.length uc) wr)) (fun _ i _ => m - (intOf i).toNat)
      case atStart => exact ⟨0, by omega, rfl, z.tk, rfl, rfl, [], rfl, none, 0, HFo.out⟩
      case round =>
        clear y2 yl HFo
        obtain ⟨q, hq, rfl, t, rfl, HT, hs, HHS, uo, uc, HFq⟩ := hrel
        have y3 := block_cell HFq.out.b0 3
        have yl := block_lt HFq.out.b0
        simp at y3
        by_cases hlt2 : q < m
        · obtain ⟨x, hx⟩ : ∃ x, H[q]? = some x := ⟨_, List.getElem?_eq_getElem (by have := HN.out.2; omega)⟩
          have hIm := HLW.out wr HFq.out.bel
          obtain ⟨d0, d1, d2⟩ := hIm.h.at_ q x hx
          obtain ⟨rfl, dl⟩ := hIm.ho (by have := HN.out.2; omega)
          simp only [Nat.zero_add] at d0 d1 d2
          have hxin := hIm.h.ok x (List.mem_of_getElem? hx)
          have HT2 : Hid ((H.take (q + 1)).foldl (foldT e) z.tk = foldT e t x) := by rw [foldl_take _ _ hx, HT.out]; exact hide rfl
          have HS2 : Hid ((H.take (q + 1)).filterMap (fHf e) = hs ++ (fHf e x).toList) := by rw [fm_take _ hx, HHS.out]; exact hide rfl
          have HX := hide hxin
          obtain ⟨W2, hW2⟩ : ∃ W2, wr.alloc (.cells x.arr 75) = W2 := ⟨_, rfl⟩
          have C2 : Hid (W2.heap[wr.heap.size]? = some (.cells x.arr 75 (0, 0))) := by rw [← hW2]; exact alloc_atK _ _
          have HF2 : Hid (Fo w #[.int .u64 (T0 : Nat), .int .u64 (T1 : Nat), .slice ao k cap, .slice (some ⟨gh, 0, none⟩) m hcap, jv] e (.int .u64 (T0 : Nat)) (.int .u64 (T1 : Nat)) z.out (.slice vo z.out.length vc) hs (.slice uo hs.length uc) W2) := by rw [← hW2]; exact HFq.out.alloc _
          have HNW := hide HFq.out.new
          have HW2 := hide hW2
          have hlen : hs.length ≤ 64 := by
            rw [← HHS.out]
            have h1 := fm_le (fHf e) (H.take q)
            rw [List.length_take] at h1
            omega
          clear hW2 hIm hx hxin HFq HT HHS
          unfold Ho.arr at HW2
          go_upto_region 20 with fail
          rw [HW2.out]
          clear HW2 d0 d1 d2 dl y3 yl
          generalize wr.heap.size = qb at *
          have z0 := block_cell C2.out 0
          have z2 := block_cell C2.out 2
          have zl := block_lt C2.out
          have zf := block_free C2.out 2
          have e1 := block_cell HF2.out.b1 1
          have e2 := block_cell HF2.out.b1 2
          have e4 := block_cell HF2.out.b1 4
          have el := block_lt HF2.out.b1
          simp [Ho.arr, Jn.arr] at z0 z2 e1 e2 e4
          obtain ⟨y, hy⟩ : ∃ y, foldH e x = y := ⟨_, rfl⟩
          obtain ⟨cc, hcc⟩ : ∃ cc, decide (x.id = e.fr ∧ e.kd = 5) = cc := ⟨_, rfl⟩
          obtain ⟨X0, hX0⟩ : ∃ X : Int, (x.id : Int) = X := ⟨_, rfl⟩
          obtain ⟨X2, hX2⟩ : ∃ X : Int, (x.am : Int) = X := ⟨_, rfl⟩
          obtain ⟨KD, hKD⟩ : ∃ X : Int, (e.kd : Int) = X := ⟨_, rfl⟩
          obtain ⟨FR, hFR⟩ : ∃ X : Int, (e.fr : Int) = X := ⟨_, rfl⟩
          obtain ⟨AM, hAM⟩ : ∃ X : Int, (e.am : Int) = X := ⟨_, rfl⟩
          obtain ⟨D1, hD1⟩ : ∃ X : Int, ((subW x.am e.am : Nat) : Int) = X := ⟨_, rfl⟩
          have HID : Hid ((x.id = e.fr ↔ X0 = FR) ∧ (e.kd = 5 ↔ KD = 5)) := hide (by omega)
          have HT1 : Hid (decide (AM ≤ X2) = decide (e.am ≤ x.am)) := by rw [← hAM, ← hX2]; exact decide_eq_decide.2 (by omega)
          have hw1 : IntKind.u64.wrap (X2 - AM) = D1 := by rw [← hX2, ← hAM, ← hD1]; exact wrap_sub HX.out.h2 HE.out.h4
          have K1 : Hid ((cc = true → (W2.setCell ⟨qb, 2, none⟩ (.int .u64 D1)).heap[qb]? = some (.cells y.arr 75 (0, 0)) ∧ W2.grownBy (W2.setCell ⟨qb, 2, none⟩ (.int .u64 D1)) (some qb)) ∧ (cc = false → W2.heap[qb]? = some (.cells y.arr 75 (0, 0)) ∧ W2.grownBy W2 (some qb))) := by
            refine ⟨fun ht => ⟨?_, grown_set _ _ _ _⟩, fun hf => ⟨?_, ⟨rfl, rfl, rfl, Nat.le_refl _, fun _ _ _ => rfl⟩⟩⟩
            · rw [← hy, ← hD1]
              unfold foldH
              rw [if_pos (of_decide_eq_true (hcc.trans ht))]
              exact heap_setCell_same W2 qb 2 _ _ _ C2.out
            · rw [← hy]
              unfold foldH
              rw [if_neg (of_decide_eq_false (hcc.trans hf))]
              exact C2.out
          have HFT : Hid (foldT e t x = if cc = true then decide (e.am ≤ x.am) else t) := by
            unfold foldT
            rw [← hcc]
            by_cases h : x.id = e.fr ∧ e.kd = 5
            · rw [if_pos h, if_pos (decide_eq_true h)]; exact hide rfl
            · rw [if_neg h, if_neg (by simpa using h)]; exact hide rfl
          rw [hX0] at z0
          rw [hX2] at z2
          rw [hKD] at e1
          rw [hFR] at e2
          rw [hAM] at e4
          have HY := hide hy
          have HCC := hide hcc
          clear hy hX0 hX2 hKD hFR hAM hD1 hcc
          go_cut [125] (fun c V => ∃ t : Bool, c = .bool t ∧ Hid (cc = t) ∧ V = W2)
          case first =>
            by_cases i1 : X0 = FR
            · have j1 := HID.out.1.2 i1
              have g1 : (X0 == FR) = true := by simp [i1]
              by_cases k5 : KD = 5
              · have hT : Hid (cc = true) := by have := HID.out.2.2 k5; rw [← HCC.out]; exact hide (decide_eq_true ⟨j1, this⟩)
                have g3 : (KD == 5) = true := by simp [k5]
                clear i1 k5 j1
                go_wp2
                go_meet
                case rel => exact ⟨_, rfl, hT, rfl⟩
              · have g3 : (KD == 5) = false := by simp [k5]
                have hF : Hid (cc = false) := by
                  have a3 : ¬ e.kd = 5 := fun h => k5 (HID.out.2.1 h)
                  rw [← HCC.out]
                  exact hide (decide_eq_false (fun h => a3 h.2))
                clear i1 k5 j1
                go_wp2
                go_meet
                case rel => exact ⟨_, rfl, hF, rfl⟩
            · have g1 : (X0 == FR) = false := by simp [i1]
              have hF : Hid (cc = false) := by
                have a1 : ¬ x.id = e.fr := fun h => i1 (HID.out.1.1 h)
                rw [← HCC.out]
                exact hide (decide_eq_false (fun h => a1 h.1))
              clear i1
              go_wp2
              go_meet
              case rel => exact ⟨_, rfl, hF, rfl⟩
          case rest =>
          obtain ⟨t1, rfl, HF1, hwc⟩ := hcut
          have hwc := hwc.symm
          subst hwc
          go_upto_if 125 with fail
          go_cut [7] (fun tk V => ∃ t2 : Bool, tk = .bool t2 ∧ Hid (foldT e t x = t2) ∧ Hid (V.heap[qb]? = some (.cells y.arr 75 (0, 0)) ∧ W2.grownBy V (some qb)))
          case first =>
            cases t1 with
            | true =>
              have L : Hid (foldT e t x = decide (AM ≤ X2)) := by rw [HFT.out, if_pos HF1.out]; exact hide HT1.out.symm
              have K := hide (K1.out.1 HF1.out)
              go_wp2
              go_meet
              case rel => exact ⟨_, rfl, L, K.out⟩
            | false =>
              have L : Hid (foldT e t x = t) := by rw [HFT.out, if_neg (by rw [HF1.out]; decide)]; exact hide rfl
              have K := hide (K1.out.2 HF1.out)
              go_wp2
              go_meet
              case rel => exact ⟨_, rfl, L, K.out⟩
          case rest =>
          obtain ⟨tk, rfl, HTK, HB1⟩ := hcut
          obtain ⟨V1, hV1⟩ : ∃ V, V = wc := ⟨_, rfl⟩
          subst hV1
          clear K1 HF1 z0 z2 zl zf HT1 hw1 e1 e2 e4 el C2 HFT HID HCC
          have HF3 := hide (HF2.out.box HB1.out.2 HNW.out.2.2 HNW.out.1 HNW.out.2.1)
          have z0 := block_cell HB1.out.1 0
          have z1 := block_cell HB1.out.1 1
          have z2 := block_cell HB1.out.1 2
          have zl := block_lt HB1.out.1
          have n3 := block_cell HF3.out.b3 3
          have nl := block_lt HF3.out.b3
          simp [Ho.arr] at z0 z1 z2 n3
          rw [HTK.out] at HT2
          by_cases hz : y.am = 0
          · have HS3 : Hid ((H.take (q + 1)).filterMap (fHf e) = hs) := by
              rw [HS2.out]
              unfold fHf
              rw [HY.out, if_pos hz, Option.toList_none, List.append_nil]
              exact hide rfl
            have g : decide ((y.am : Int) > 0) = false := decide_eq_false (by omega)
            generalize (y.am : Int) = Y2 at *
            clear HS2 HTK HY n3 nl hz
            go_wp2
            go_roundw
            case rel => exact ⟨q + 1, by omega, by go_num, tk, rfl, HT2, hs, HS3, uo, uc, HF3⟩
            case measure => simp [intOf]; omega
          · have HS3 : Hid ((H.take (q + 1)).filterMap (fHf e) = hs ++ [y]) := by
              rw [HS2.out]
              unfold fHf
              rw [HY.out, if_neg hz]
              exact hide rfl
            have g : decide ((y.am : Int) > 0) = true := decide_eq_true (by omega)
            have HVV : Hid (y.vals = [.int .u64 (y.id : Int), .int .u64 (y.fr : Int), .int .u64 (y.am : Int)]) := hide rfl
            have HAP : Hid (∀ o v5 w5, w5.ownsRow (w.heap.size + 1 + 1 + 1 + 1) 75 3 v5 (hs.length + 1) (hcells hs ++ [.int .u64 (y.id : Int), .int .u64 (y.fr : Int), .int .u64 (y.am : Int)]) → (World.alloc V1 o).grownBy w5 (Value.slice uo hs.length uc).ownBlock → Fo w #[.int .u64 (T0 : Nat), .int .u64 (T1 : Nat), .slice ao k cap, .slice (some ⟨gh, 0, none⟩) m hcap, jv] e (.int .u64 (T0 : Nat)) (.int .u64 (T1 : Nat)) z.out (.slice vo z.out.length vc) (hs ++ [y]) v5 (w5.setCell ⟨w.heap.size + 1 + 1 + 1, 3, none⟩ v5)) := fun o v5 w5 ho hg => HF3.out.appH o (by rw [HVV.out]; exact ho) hg
            have HBX : Hid (∀ o w5, (World.alloc V1 o).grownBy w5 (Value.slice uo hs.length uc).ownBlock → w5.heap[w.heap.size + 1 + 1 + 1]? = some (.cells #[.int .u64 (T0 : Nat), .int .u64 (T1 : Nat), .slice vo z.out.length vc, .slice uo hs.length uc, .slice none 0 0] 31 (0, 0))) := fun o w5 hg => HF3.out.boxH o hg
            have HOW : Hid (∀ o, (World.alloc V1 o).ownsRow (w.heap.size + 1 + 1 + 1 + 1) 75 3 (.slice uo hs.length uc) hs.length (hcells hs)) := fun o => HF3.out.rh.alloc o
            have HSZ : Hid (∀ o, w.heap.size + 1 + 1 + 1 + 1 ≤ (World.alloc V1 o).heap.size) := fun o => by simp; omega
            generalize (y.id : Int) = Y0 at *
            generalize (y.fr : Int) = Y1 at *
            generalize (y.am : Int) = Y2 at *
            clear HS2 HTK HY HVV hz
            go_wp2_with (at_builtin; refine wpList_append_own _ rfl (.tmp 141) (.tmp 143) 28 rfl (w.heap.size + 1 + 1 + 1 + 1) 75 i1 (.agg #[.int .u64 0, .int .u64 0, .int .u64 0]) 3 24 Try.underlying28 hj hy0 hy1 hy2 rfl (by decide) (.slice uo hs.length uc) hs.length (hcells hs) rfl (HOW.out _) ⟨V1.heap.size, 0, none⟩ 1 1 [.int .u64 Y0, .int .u64 Y1, .int .u64 Y2] rfl rfl (cells_newA _ _ _) (by simp [Value.oneCell']) (by unfold maxLen; omega) (by omega) (HSZ.out _) ?_; intro v' w4 ho hg _; obtain ⟨vo4, vc4, rfl⟩ := own_form2 ho; have HR2 := hide (HAP.out _ _ _ ho hg); have hbx := HBX.out _ _ hg; have m2 := block_cell hbx 3; have ml := block_lt hbx; have mf := block_free hbx 3; simp at m2; clear ho hg hbx n3 nl z0 z1 z2 zl)
            go_roundw
            case rel => exact ⟨q + 1, by omega, by go_num, tk, rfl, HT2, hs ++ [y], HS3, vo4, vc4, by rw [List.length_append]; exact HR2⟩
            case measure => simp [intOf]; omega
        · obtain rfl : q = m := by omega
          have HTT : Hid (H.foldl (foldT e) z.tk = t) := by
            have h1 := HT.out
            rw [show H.take q = H by rw [HN.out.2, List.take_length]] at h1
            exact h1
          have HST : Hid (H.filterMap (fHf e) = hs) := by
            have h1 := HHS.out
            rw [show H.take q = H by rw [HN.out.2, List.take_length]] at h1
            exact h1
          have hhl : hs.length ≤ 64 := by
            rw [← HST.out]
            have h1 := fm_le (fHf e) H
            have := HN.out.2
            omega
          have HFE : Hid (foldF e A H = if e.kd = 1 then (z.out ++ [⟨e.fr, 0, 0, e.am⟩], hs, true) else if e.kd = 4 then (z.out, hs ++ [⟨e.tw, e.fr, e.am⟩], t) else (z.out, hs, t && z.gv)) := by
            unfold foldF
            simp only []
            rw [HZT.out, HTT.out, HST.out]
            exact hide rfl
          rw [HFF.out] at HFE
          have e1 := block_cell HFq.out.b1 1
          have e2 := block_cell HFq.out.b1 2
          have e3 := block_cell HFq.out.b1 3
          have e4 := block_cell HFq.out.b1 4
          have el := block_lt HFq.out.b1
          simp [Jn.arr] at e1 e2 e3 e4
          obtain ⟨KD, hKD⟩ : ∃ X : Int, (e.kd : Int) = X := ⟨_, rfl⟩
          obtain ⟨FR, hFR⟩ : ∃ X : Int, (e.fr : Int) = X := ⟨_, rfl⟩
          obtain ⟨TW, hTW⟩ : ∃ X : Int, (e.tw : Int) = X := ⟨_, rfl⟩
          obtain ⟨AM, hAM⟩ : ∃ X : Int, (e.am : Int) = X := ⟨_, rfl⟩
          rw [hKD] at e1
          rw [hFR] at e2
          rw [hTW] at e3
          rw [hAM] at e4
          have n2 := block_cell HFq.out.b3 2
          have n3 := block_cell HFq.out.b3 3
          have nl := block_lt HFq.out.b3
          simp at n2 n3
          have HOA : Hid (∀ o, (World.alloc wr o).ownsRow (w.heap.size + 1 + 1 + 1 + 1) 50 4 (.slice vo z.out.length vc) z.out.length (acells z.out)) := fun o => HFq.out.ra.alloc o
          have HOH : Hid (∀ o, (World.alloc wr o).ownsRow (w.heap.size + 1 + 1 + 1 + 1) 75 3 (.slice uo hs.length uc) hs.length (hcells hs)) := fun o => HFq.out.rh.alloc o
          have HSZ : Hid (∀ o, w.heap.size + 1 + 1 + 1 + 1 ≤ (World.alloc wr o).heap.size) := fun o => by have := HFq.out.new.2.2; simp; omega
          have HBA : Hid (∀ o w5, (World.alloc wr o).grownBy w5 (Value.slice vo z.out.length vc).ownBlock → w5.heap[w.heap.size + 1 + 1 + 1]? = some (.cells #[.int .u64 (T0 : Nat), .int .u64 (T1 : Nat), .slice vo z.out.length vc, .slice uo hs.length uc, .slice none 0 0] 31 (0, 0))) := fun o w5 hg => HFq.out.boxA o hg
          have HBH : Hid (∀ o w5, (World.alloc wr o).grownBy w5 (Value.slice uo hs.length uc).ownBlock → w5.heap[w.heap.size + 1 + 1 + 1]? = some (.cells #[.int .u64 (T0 : Nat), .int .u64 (T1 : Nat), .slice vo z.out.length vc, .slice uo hs.length uc, .slice none 0 0] 31 (0, 0))) := fun o w5 hg => HFq.out.boxH o hg
          have HAA : Hid (∀ o v5 w5, w5.ownsRow (w.heap.size + 1 + 1 + 1 + 1) 50 4 v5 (z.out.length + 1) (acells z.out ++ [.int .u64 FR, .int .u64 0, .int .u64 0, .int .u64 AM]) → (World.alloc wr o).grownBy w5 (Value.slice vo z.out.length vc).ownBlock → Fo w #[.int .u64 (T0 : Nat), .int .u64 (T1 : Nat), .slice ao k cap, .slice ho q hcap, jv] e (.int .u64 (T0 : Nat)) (.int .u64 (T1 : Nat)) (z.out ++ [⟨e.fr, 0, 0, e.am⟩]) v5 hs (.slice uo hs.length uc) (w5.setCell ⟨w.heap.size + 1 + 1 + 1, 2, none⟩ v5)) := fun o v5 w5 ho hg => HFq.out.appA o (by rw [← hFR, ← hAM] at ho; exact ho) hg
          have HAH : Hid (∀ o v5 w5, w5.ownsRow (w.heap.size + 1 + 1 + 1 + 1) 75 3 v5 (hs.length + 1) (hcells hs ++ [.int .u64 TW, .int .u64 FR, .int .u64 AM]) → (World.alloc wr o).grownBy w5 (Value.slice uo hs.length uc).ownBlock → Fo w #[.int .u64 (T0 : Nat), .int .u64 (T1 : Nat), .slice ao k cap, .slice ho q hcap, jv] e (.int .u64 (T0 : Nat)) (.int .u64 (T1 : Nat)) z.out (.slice vo z.out.length vc) (hs ++ [⟨e.tw, e.fr, e.am⟩]) v5 (w5.setCell ⟨w.heap.size + 1 + 1 + 1, 3, none⟩ v5)) := fun o v5 w5 ho hg => HFq.out.appH o (by rw [← hFR, ← hAM, ← hTW] at ho; exact ho) hg
          have HK : Hid ((e.kd = 1 ↔ KD = 1) ∧ (e.kd = 4 ↔ KD = 4)) := hide (by omega)
          clear HT HHS HTT HST HZT hKD hFR hTW hAM hlt hlt2
          by_cases k1 : KD = 1
          · have h9 := HFE.out
            rw [if_pos (HK.out.1.2 k1)] at h9
            simp only [Prod.mk.injEq] at h9
            obtain ⟨rfl, rfl, rfl⟩ := h9
            have g1 : (KD == 1) = true := by simp [k1]
            clear HFE HK k1 n3 HOH HBH HAH HFF HFq
            go_upto_region 28 with (at_builtin; refine wpList_append_own _ rfl (.tmp 151) (.tmp 157) 22 rfl (w.heap.size + 1 + 1 + 1 + 1) 50 i0 (.agg #[.int .u64 0, .int .u64 0, .int .u64 0, .int .u64 0]) 4 32 Try.underlying22 hi hz0 hz1 hz2 rfl (by decide) (.slice vo z.out.length vc) z.out.length (acells z.out) rfl (HOA.out _) ⟨wr.heap.size, 0, none⟩ 1 1 [.int .u64 FR, .int .u64 0, .int .u64 0, .int .u64 AM] rfl rfl (cells_newA _ _ _) (by simp [Value.oneCell']) (by unfold maxLen; omega) (by omega) (HSZ.out _) ?_; intro v' w4 ho hg _; obtain ⟨vo4, vc4, rfl⟩ := own_form2 ho; have HR2 := hide (HAA.out _ _ _ ho hg); have hbx := HBA.out _ _ hg; have m2 := block_cell hbx 2; have ml := block_lt hbx; have mf := block_free hbx 2; simp at m2; clear ho hg hbx n2 nl e1 e2 e3 e4 el)
            generalize w4.setCell ⟨w.heap.size + 1 + 1 + 1, 2, none⟩ (.slice vo4 (z.out.length + 1) vc4) = WF at *
            obtain ⟨⟨x0, x1, x2, x3, x4, xl⟩, ⟨r0, r1, r2, r3, r4, rl⟩, f0, f1, f2, f3, f4⟩ := HR2.out.res
            have HFN := hide (HR2.out.fin)
            clear HR2 m2 ml mf HAA HBA HOA HSZ
            go_wp2
            refine bodyPost_ret (v := .tuple #[.agg #[.int .u64 (T0 : Nat), .int .u64 (T1 : Nat), .slice vo4 (z.out.length + 1) vc4, .slice uo H'.length uc, .slice none 0 0], .bool true]) (by simp [results, Try.results9, go_sem, r0, r1, r2, r3, r4]) rfl ⟨vo4, vc4, uo, uc, by rw [List.length_append]; rfl, by have := HFN.out; rw [List.length_append]; rw [List.length_append] at this; exact this _ _ _ _ _⟩
          have g1 : (KD == 1) = false := by simp [k1]
          have h9 := HFE.out
          rw [if_neg (fun h => k1 (HK.out.1.1 h))] at h9
          clear HFE
          by_cases k4 : KD = 4
          · rw [if_pos (HK.out.2.2 k4)] at h9
            simp only [Prod.mk.injEq] at h9
            obtain ⟨rfl, rfl, rfl⟩ := h9
            have g4 : (KD == 4) = true := by simp [k4]
            clear HK k1 k4 n2 HOA HBA HAA HFF HFq
            go_upto_region 31 with (at_builtin; refine wpList_append_own _ rfl (.tmp 163) (.tmp 171) 28 rfl (w.heap.size + 1 + 1 + 1 + 1) 75 i1 (.agg #[.int .u64 0, .int .u64 0, .int .u64 0]) 3 24 Try.underlying28 hj hy0 hy1 hy2 rfl (by decide) (.slice uo hs.length uc) hs.length (hcells hs) rfl (HOH.out _) ⟨wr.heap.size, 0, none⟩ 1 1 [.int .u64 TW, .int .u64 FR, .int .u64 AM] rfl rfl (cells_newA _ _ _) (by simp [Value.oneCell']) (by unfold maxLen; omega) (by omega) (HSZ.out _) ?_; intro v' w4 ho hg _; obtain ⟨vo4, vc4, rfl⟩ := own_form2 ho; have HR2 := hide (HAH.out _ _ _ ho hg); have hbx := HBH.out _ _ hg; have m2 := block_cell hbx 3; have ml := block_lt hbx; have mf := block_free hbx 3; simp at m2; clear ho hg hbx n3 nl e1 e2 e3 e4 el)
            generalize w4.setCell ⟨w.heap.size + 1 + 1 + 1, 3, none⟩ (.slice vo4 (hs.length + 1) vc4) = WF at *
            obtain ⟨⟨x0, x1, x2, x3, x4, xl⟩, ⟨r0, r1, r2, r3, r4, rl⟩, f0, f1, f2, f3, f4⟩ := HR2.out.res
            have HFN := hide (HR2.out.fin)
            clear HR2 m2 ml mf HAH HBH HOH HSZ
            cases b with
            | true =>
              go_wp2
              refine bodyPost_ret (v := .tuple #[.agg #[.int .u64 (T0 : Nat), .int .u64 (T1 : Nat), .slice vo z.out.length vc, .slice vo4 (hs.length + 1) vc4, .slice none 0 0], .bool true]) (by simp [results, Try.results9, go_sem, r0, r1, r2, r3, r4]) rfl ⟨vo, vc, vo4, vc4, by rw [List.length_append]; rfl, by have := HFN.out; rw [List.length_append]; rw [List.length_append] at this; exact this _ _ _ _ _⟩
            | false =>
              go_wp2
              refine bodyPost_ret (v := .tuple #[.agg #[.int .u64 (T0 : Nat), .int .u64 (T1 : Nat), .slice vo z.out.length vc, .slice vo4 (hs.length + 1) vc4, .slice none 0 0], .bool false]) (by simp [results, Try.results9, go_sem, r0, r1, r2, r3, r4]) rfl ⟨vo, vc, vo4, vc4, by rw [List.length_append]; rfl, by have := HFN.out; rw [List.length_append]; rw [List.length_append] at this; exact this _ _ _ _ _⟩
          · rw [if_neg (fun h => k4 (HK.out.2.1 h))] at h9
            simp only [Prod.mk.injEq] at h9
            obtain ⟨rfl, rfl, rfl⟩ := h9
            have g4 : (KD == 4) = false := by simp [k4]
            obtain ⟨⟨x0, x1, x2, x3, x4, xl⟩, ⟨r0, r1, r2, r3, r4, rl⟩, f0, f1, f2, f3, f4⟩ := HFq.out.res
            have HFN := hide (HFq.out.fin)
            clear HK k1 k4 n2 n3 nl HOA HBA HAA HFF HFq HAH HBH HOH HSZ
            cases t with
            | true =>
              go_wp2
              refine bodyPost_ret (v := .tuple #[.agg #[.int .u64 (T0 : Nat), .int .u64 (T1 : Nat), .slice vo z.out.length vc, .slice uo H'.length uc, .slice none 0 0], .bool z.gv]) (by simp [results, Try.results9, go_sem, r0, r1, r2, r3, r4]) rfl ⟨vo, vc, uo, uc, by rw [Bool.true_and], HFN.out _ _ _ _ _⟩
            | false =>
              go_wp2
              refine bodyPost_ret (v := .tuple #[.agg #[.int .u64 (T0 : Nat), .int .u64 (T1 : Nat), .slice vo z.out.length vc, .slice uo H'.length uc, .slice none 0 0], .bool false]) (by simp [results, Try.results9, go_sem, r0, r1, r2, r3, r4]) rfl ⟨vo, vc, uo, uc, by rw [Bool.false_and], HFN.out _ _ _ _ _⟩
end Go.Proofs.Yteafdpmblbbpnaa
