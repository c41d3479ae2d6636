import Derived.Test.YtcfenjpdjogmdaaGreatLA47
namespace Go.Proofs.YtcfenjpdjogmdaaGreat
open Go.RowKit

set_option maxRecDepth 10000 in
set_option maxHeartbeats 3200000 in
theorem holdsFaultC {w : World} {A : List Ac} {H : List Ho} {ao ho : Option Addr} {ga gh : Nat} (h : Im w A H ao ho ga gh) (n cap m hcap k jcap : Nat) (hn : n = A.length) (hm : m = H.length) (hle : n ≤ 64) (hlm : m ≤ 64) (jo : Option Addr) (T0 T1 : Int) {x c : Nat} (hF : hflt A 0 0 H = (x, c)) :
    Calls Tryz.prog 38 #[.agg #[.int .u64 T0, .int .u64 T1, .slice ao n cap, .slice ho m hcap, .slice jo k jcap]] w fun e w' => e = .returned (.tuple #[.int .i64 (x : Nat), .int .i64 (c : Nat)]) ∧ Hid (Below w.heap.size w w') := by
  obtain ⟨W1, hW1⟩ : ∃ W1, w.alloc (.cells #[.int .u64 T0, .int .u64 T1, .slice ao n cap, .slice ho m hcap, .slice jo k jcap] 35) = W1 := ⟨_, rfl⟩
  have HB1 : Hid (Below w.heap.size w W1) := by rw [← hW1]; exact (Below.refl _ w).alloc (Nat.le_refl _) _
  have C1 : Hid (∀ V, Below W1.heap.size W1 V → V.heap[w.heap.size]? = some (.cells #[.int .u64 T0, .int .u64 T1, .slice ao n cap, .slice ho m hcap, .slice jo k jcap] 35 (0, 0))) := fun V hV => by
    have : W1.heap[w.heap.size]? = some (.cells #[.int .u64 T0, .int .u64 T1, .slice ao n cap, .slice ho m hcap, .slice jo k jcap] 35 (0, 0)) := by rw [← hW1]; exact alloc_atK _ _
    exact (hV.block _ (block_lt this)).trans this
  have HI := hide (h.below HB1.out)
  have HN := hide hn
  have HM := hide hm
  have HF := hide hF
  have HW1 := hide hW1
  clear h hn hm hF hW1
  go_enter Tryz.func38, Tryz.ntmps38
  go_upto_region 1 with fail
  rw [HW1.out]
  clear HW1
  have C10 := C1.out W1 (Below.refl _ _)
  have y3 := block_cell C10 3
  have yl := block_lt C10
  simp at y3
  clear C10
  go_wp2
  go_loopw [4, 11] (fun la i wr => ∃ k L : Nat, k ≤ m ∧ i = .int .i64 k ∧ la = .int .u64 (L : Nat) ∧ Hid (hflt A L k (H.drop k) = (x, c)) ∧ Hid (Below W1.heap.size W1 wr)) (fun _ i _ => m - (intOf i).toNat)
  case atStart => exact ⟨0, 0, by omega, rfl, rfl, HF.out, Below.refl _ _⟩
  case round =>
    clear HF y3 yl
    obtain ⟨k, L, hk, rfl, rfl, HR, HB⟩ := hrel
    by_cases hlt : k < m
    · obtain ⟨y, hy⟩ : ∃ y, H[k]? = some y := ⟨_, List.getElem?_eq_getElem (by have := HM.out; omega)⟩
      have hI := HI.out.below HB.out
      obtain ⟨d0, d1, d2⟩ := hI.h.at_ k y hy
      obtain ⟨rfl, dl⟩ := hI.ho (by have := HM.out; omega)
      simp only [Nat.zero_add] at d0 d1 d2
      have hR := HR.out
      rw [drop_at hy] at hR
      unfold hflt at hR
      obtain ⟨W2, hW2⟩ : ∃ W2, wr.alloc (.cells #[.int .u64 (y.id : Nat), .int .u64 (y.fr : Nat), .int .u64 (y.am : Nat)] 84) = W2 := ⟨_, rfl⟩
      have HB2 : Hid (Below W1.heap.size W1 W2) := by rw [← hW2]; exact HB.out.alloc HB.out.size _
      have C2 : Hid (W2.heap[wr.heap.size]? = some (.cells #[.int .u64 (y.id : Nat), .int .u64 (y.fr : Nat), .int .u64 (y.am : Nat)] 84 (0, 0))) := by rw [← hW2]; exact alloc_atK _ _
      have HCN := hide (containsA (HI.out.below HB2.out) n cap HN.out hle wr.heap.size C2.out)
      have HEND : Hid (Below w.heap.size w W2) := HB1.out.trans (HB2.out.mono HB1.out.size)
      have C12 := C1.out W2 HB2.out
      have v2 := block_cell C12 2
      have vl := block_lt C12
      simp at v2
      have HW2 := hide hW2
      clear hI hy hW2 HB HR C12
      go_upto_region 5 with fail
      rw [HW2.out]
      clear HW2 d0 d1 d2 dl
      generalize wr.heap.size = q at *
      have z0 := block_cell C2.out 0
      have zl := block_lt C2.out
      simp at z0
      by_cases i0 : y.id = 0
      · rw [if_pos i0] at hR
        cases hR
        have g0 : ((y.id : Int) == 0) = true := by simp [i0]
        generalize (y.id : Int) = X0 at *
        clear i0 HCN
        go_wp2
        go_ret2
        exact ⟨rfl, HEND⟩
      rw [if_neg i0] at hR
      have g0 : ((y.id : Int) == 0) = false := by simp; omega
      by_cases i1 : y.id ≤ L
      · rw [if_pos i1] at hR
        cases hR
        have g1 : decide (y.id ≤ L) = true := decide_eq_true i1
        have g1i : decide ((y.id : Int) ≤ (L : Int)) = true := decide_eq_true (by omega)
        clear i0 i1 HCN
        go_wp2
        go_ret2
        exact ⟨rfl, HEND⟩
      rw [if_neg i1] at hR
      have g1 : decide (y.id ≤ L) = false := decide_eq_false i1
      have g1i : decide ((y.id : Int) ≤ (L : Int)) = false := decide_eq_false (by omega)
      clear i1
      go_upto_region 10 with fail
      go_wp2_with fail
      refine HCN.out.mono ?_
      rintro e w3 ⟨rfl, G3⟩
      have HE3 : Hid (Below w.heap.size w w3) := HEND.out.trans (G3.out.mono HEND.out.size)
      have HB3 : Hid (Below W1.heap.size W1 w3) := HB2.out.trans (G3.out.mono HB2.out.size)
      have C3 := (G3.out.block _ (block_lt C2.out)).trans C2.out
      clear HCN z0 zl v2 vl HEND HB2 C2 G3
      have z0 := block_cell C3 0
      have z2 := block_cell C3 2
      have zl := block_lt C3
      simp at z0 z2
      clear C3
      obtain ⟨b, hb⟩ : ∃ b, (byK Ac.id A y.fr).isSome = b := ⟨_, rfl⟩
      rw [hb] at hR ⊢
      clear hb
      cases b with
      | false =>
        rw [if_pos rfl] at hR
        cases hR
        clear i0
        go_wp2
        go_ret2
        exact ⟨rfl, HE3⟩
      | true =>
        rw [if_neg (by simp)] at hR
        by_cases i2 : y.am = 0
        · rw [if_pos i2] at hR
          cases hR
          have g2 : ((y.am : Int) == 0) = true := by simp [i2]
          generalize (y.am : Int) = X2 at *
          clear i0 i2
          go_wp2
          go_ret2
          exact ⟨rfl, HE3⟩
        rw [if_neg i2] at hR
        have g2 : ((y.am : Int) == 0) = false := by simp; omega
        have HR := hide hR
        clear i0 i2 hR
        go_wp2
        go_roundw
        case rel => exact ⟨k + 1, y.id, by omega, by go_num, rfl, HR.out, HB3.out⟩
        case measure => simp [intOf]; omega
    · obtain rfl : k = m := by omega
      have hR := HR.out
      rw [List.drop_of_length_le (by have := HM.out; omega)] at hR
      cases hR
      have HE : Hid (Below w.heap.size w wr) := HB1.out.trans (HB.out.mono HB1.out.size)
      go_wp2
      go_ret2
      exact ⟨rfl, HE⟩
def nV (m : List Nat) : List Value := m.map (fun x => .int .u64 (x : Nat))
theorem nV_app (m : List Nat) (x : Nat) : nV (m ++ [x]) = nV m ++ [.int .u64 (x : Nat)] := by simp [nV]
/-- Numbers in a row of one's own. -/
structure Wn (w : World) (v : Value) (m : List Nat) (V : World) : Prop where
  bel : Below w.heap.size w V
  row : V.ownsRow w.heap.size 25 1 v m.length (nV m)
theorem Wn.app {w : World} {v v' : Value} {m : List Nat} {V w4 : World} (h : Wn w v m V) (o o2 : Obj) (x : Nat) (ho : w4.ownsRow w.heap.size 25 1 v' (m.length + 1) (nV m ++ [.int .u64 (x : Int)])) (hg : ((V.alloc o).alloc o2).grownBy w4 v.ownBlock) : Wn w v' (m ++ [x]) w4 := by
  refine ⟨((h.bel.alloc h.bel.size o).alloc (by simp; have := h.bel.size; omega) o2).grown hg (by simp; have := h.bel.size; omega) (fun j e => (h.row.lt j e).1), ?_⟩
  rw [nV_app, List.length_append]
  exact ho
theorem Wn.ug {w : World} {v : Value} {m : List Nat} {V : World} (h : Wn w v m V) : ∃ ao cap g, v = .slice ao m.length cap ∧ Ug V g 0 m ∧ (0 < m.length → ao = some ⟨g, 0, none⟩ ∧ g < V.heap.size) := by
  rcases h.row.2 with ⟨rfl, h0⟩ | ⟨g, cap, cur, rfl, _, hg, _⟩
  · exact ⟨none, 0, 0, by rw [h0], fun i v hv => (by have := (List.getElem?_eq_some_iff.1 hv).1; omega), fun h => by omega⟩
  · refine ⟨_, cap, g, rfl, fun i v hv => ?_, fun _ => ⟨rfl, block_lt hg⟩⟩
    have := h.row.cells (g := g) rfl i (.int .u64 (v : Nat)) (by unfold nV; rw [List.getElem?_map, hv]; rfl)
    rw [add_at] at this
    exact this
set_option maxRecDepth 10000 in
set_option maxHeartbeats 3200000 in
theorem totalFaultC {w : World} {A : List Ac} {H : List Ho} {ao ho : Option Addr} {ga gh : Nat} (h : Im w A H ao ho ga gh) (n cap m hcap k jcap : Nat) (hn : n = A.length) (hm : m = H.length) (hle : n ≤ 64) (hlm : m ≤ 64) (jo : Option Addr) (T0 : Nat) (h64 : T0 < 18446744073709551616) (T1 : Int) {c : Int} (hc : (if sumK Ac.ba A + sumK Ho.am H = T0 then (0 : Int) else 51) = c) :
    Calls Tryz.prog 39 #[.agg #[.int .u64 (T0 : Nat), .int .u64 T1, .slice ao n cap, .slice ho m hcap, .slice jo k jcap]] w fun e w' => e = .returned (.tuple #[.int .i64 0, .int .i64 c]) ∧ Hid (Below w.heap.size w w') := by
  obtain ⟨i0, hi, hz0, hz1, hz2⟩ := info_parts infoU64
  obtain ⟨W1, hW1⟩ : ∃ W1, w.alloc (.cells #[.int .u64 (T0 : Nat), .int .u64 T1, .slice ao n cap, .slice ho m hcap, .slice jo k jcap] 35) = W1 := ⟨_, rfl⟩
  have HB1 : Hid (Below w.heap.size w W1) := by rw [← hW1]; exact (Below.refl _ w).alloc (Nat.le_refl _) _
  have C1 : Hid (∀ V, Below W1.heap.size W1 V → V.cell? ⟨w.heap.size, 0, none⟩ = some (.int .u64 (T0 : Nat)) ∧ V.cell? ⟨w.heap.size, 2, none⟩ = some (.slice ao n cap) ∧ V.cell? ⟨w.heap.size, 3, none⟩ = some (.slice ho m hcap) ∧ w.heap.size < V.heap.size) := fun V hV => by
    have : W1.heap[w.heap.size]? = some (.cells #[.int .u64 (T0 : Nat), .int .u64 T1, .slice ao n cap, .slice ho m hcap, .slice jo k jcap] 35 (0, 0)) := by rw [← hW1]; exact alloc_atK _ _
    have h2 := (hV.block _ (block_lt this)).trans this
    exact ⟨block_cell h2 0, block_cell h2 2, block_cell h2 3, block_lt h2⟩
  have HI := hide (h.below HB1.out)
  have HN := hide hn
  have HM := hide hm
  have HC := hide hc
  have HW1 := hide hW1
  have HS0 : Hid (Wn W1 (.slice none 0 0) [] W1) := ⟨Below.refl _ _, World.ownsRow_nil _ _ _ _⟩
  clear h hn hm hc hW1
  go_enter Tryz.func39, Tryz.ntmps39
  go_upto_region 1 with fail
  rw [HW1.out]
  clear HW1
  obtain ⟨y0, y2, y3, yl⟩ := C1.out W1 (Below.refl _ _)
  clear y0 y3
  go_wp2
  clear y2 yl
  go_loopw [4, 12] (fun v i wr => ∃ k : Nat, k ≤ n ∧ i = .int .i64 k ∧ Hid (Wn W1 v ((A.take k).map Ac.ba) wr)) (fun _ i _ => n - (intOf i).toNat)
  case atStart => exact ⟨0, by omega, rfl, HS0.out⟩
  case round =>
    clear HS0
    obtain ⟨k, hk, rfl, HR⟩ := hrel
    generalize u4 = v at *
    by_cases hlt : k < n
    · obtain ⟨x, hx⟩ : ∃ x, A[k]? = some x := ⟨_, List.getElem?_eq_getElem (by have := HN.out; omega)⟩
      have hI := HI.out.below HR.out.bel
      obtain ⟨d0, d1, d2, d3⟩ := hI.a.four hx
      obtain ⟨rfl, dl⟩ := hI.ao (by have := HN.out; omega)
      simp only [Nat.zero_add] at d0 d1 d2 d3
      have e1 : (A.take (k + 1)).map Ac.ba = (A.take k).map Ac.ba ++ [x.ba] := by rw [List.take_add_one, hx]; simp
      have hkl : ((A.take k).map Ac.ba).length = k := by rw [List.length_map, List.length_take]; have := HN.out; omega
      have HAP : Hid (∀ o o2 v5 w5, w5.ownsRow W1.heap.size 25 1 v5 (k + 1) (nV ((A.take k).map Ac.ba) ++ [.int .u64 (x.ba : Int)]) → ((World.alloc wr o).alloc o2).grownBy w5 (v).ownBlock → Wn W1 v5 ((A.take (k + 1)).map Ac.ba) w5) := fun o o2 v5 w5 ho hg => by
        rw [e1]
        exact HR.out.app o o2 x.ba (by rw [hkl]; exact ho) hg
      have HOW : Hid (∀ o o2, ((World.alloc wr o).alloc o2).ownsRow W1.heap.size 25 1 v k (nV ((A.take k).map Ac.ba))) := fun o o2 => by
        have := (HR.out.row.alloc o).alloc o2
        rw [hkl] at this
        exact this
      have HSZ : Hid (∀ o o2, W1.heap.size ≤ ((World.alloc wr o).alloc o2).heap.size) := fun o o2 => by simp; have := HR.out.bel.size; omega
      clear hx e1 hkl hI
      generalize (x.id : Int) = X0 at *
      generalize (x.ow : Int) = X1 at *
      generalize (x.ba : Int) = X2 at *
      generalize (x.cp : Int) = X3 at *
      go_wp2_with (first
        | (at_builtin; refine wpList_append_own _ rfl (.tmp 16) (.tmp 19) 126 rfl W1.heap.size 25 i0 (.int .u64 0) 1 8 Tryz.underlying126 hi hz0 hz1 hz2 rfl (by decide) v k (nV ((A.take k).map Ac.ba)) rfl (HOW.out _ _) ⟨wr.heap.size + 1, 0, none⟩ 1 1 [.int .u64 X2] rfl rfl (cell_one2 _ _ _ _) (by simp [Value.oneCell']) (by unfold maxLen; omega) (by omega) (HSZ.out _ _) ?_; intro v' w4 ho hg _; have HR2 := hide (HAP.out _ _ _ _ ho hg); clear ho hg))
      clear HAP HOW HSZ
      go_roundw
      case rel => exact ⟨k + 1, by omega, by go_num, HR2.out⟩
      case measure => simp [intOf]; omega
    · obtain rfl : k = n := by omega
      have HR1 : Hid (Wn W1 v (A.map Ac.ba) wr) := by have := HR.out; rwa [List.take_of_length_le (by have := HN.out; omega)] at this
      have HLA : Hid ((A.map Ac.ba).length ≤ 64) := by rw [List.length_map]; have := HN.out; exact hide (by omega)
      clear HR
      obtain ⟨y0, y2, y3, yl⟩ := C1.out wr HR1.out.bel
      clear y0 y2
      go_wp2
      clear y3 yl
      go_loopw [4, 25] (fun v i wr => ∃ k : Nat, k ≤ m ∧ i = .int .i64 k ∧ Hid (Wn W1 v (A.map Ac.ba ++ (H.take k).map Ho.am) wr)) (fun _ i _ => m - (intOf i).toNat)
      case atStart => exact ⟨0, by omega, rfl, by rw [List.take_zero, List.map_nil, List.append_nil]; exact HR1.out⟩
      case round =>
        clear HR1 hk
        obtain ⟨k, hk, rfl, HR⟩ := hrel
        generalize u4 = v at *
        by_cases hlt : k < m
        · obtain ⟨x, hx⟩ : ∃ x, H[k]? = some x := ⟨_, List.getElem?_eq_getElem (by have := HM.out; omega)⟩
          have hI := HI.out.below HR.out.bel
          obtain ⟨d0, d1, d2⟩ := hI.h.at_ k x hx
          obtain ⟨rfl, dl⟩ := hI.ho (by have := HM.out; omega)
          simp only [Nat.zero_add] at d0 d1 d2
          obtain ⟨M, hM⟩ : ∃ M, A.map Ac.ba ++ (H.take k).map Ho.am = M := ⟨_, rfl⟩
          have e1 : A.map Ac.ba ++ (H.take (k + 1)).map Ho.am = M ++ [x.am] := by rw [List.take_add_one, hx, ← hM]; simp
          have hkl : M.length ≤ 128 := by rw [← hM, List.length_append, List.length_map (f := Ho.am), List.length_take]; have := HLA.out; omega
          rw [hM] at HR
          have HAP : Hid (∀ o o2 v5 w5, w5.ownsRow W1.heap.size 25 1 v5 (M.length + 1) (nV M ++ [.int .u64 (x.am : Int)]) → ((World.alloc wr o).alloc o2).grownBy w5 (v).ownBlock → Wn W1 v5 (A.map Ac.ba ++ (H.take (k + 1)).map Ho.am) w5) := fun o o2 v5 w5 ho hg => by
            rw [e1]
            exact HR.out.app o o2 x.am ho hg
          have HOW : Hid (∀ o o2, ((World.alloc wr o).alloc o2).ownsRow W1.heap.size 25 1 v M.length (nV M)) := fun o o2 => (HR.out.row.alloc o).alloc o2
          have HSZ : Hid (∀ o o2, W1.heap.size ≤ ((World.alloc wr o).alloc o2).heap.size) := fun o o2 => by simp; have := HR.out.bel.size; omega
          clear hx e1 hI hM
          generalize (x.id : Int) = X0 at *
          generalize (x.fr : Int) = X1 at *
          generalize (x.am : Int) = X2 at *
          go_wp2_with (first
            | (at_builtin; refine wpList_append_own _ rfl (.tmp 29) (.tmp 32) 126 rfl W1.heap.size 25 i0 (.int .u64 0) 1 8 Tryz.underlying126 hi hz0 hz1 hz2 rfl (by decide) v M.length (nV M) rfl (HOW.out _ _) ⟨wr.heap.size + 1, 0, none⟩ 1 1 [.int .u64 X2] rfl rfl (cell_one2 _ _ _ _) (by simp [Value.oneCell']) (by unfold maxLen; omega) (by omega) (HSZ.out _ _) ?_; intro v' w4 ho hg _; have HR2 := hide (HAP.out _ _ _ _ ho hg); clear ho hg))
          clear HAP HOW HSZ
          go_roundw
          case rel => exact ⟨k + 1, by omega, by go_num, HR2.out⟩
          case measure => simp [intOf]; omega
        · obtain rfl : k = m := by omega
          have HR2 : Hid (Wn W1 v (A.map Ac.ba ++ H.map Ho.am) wr) := by have := HR.out; rwa [List.take_of_length_le (l := H) (by have := HM.out; omega)] at this
          have hlen : (A.map Ac.ba ++ H.map Ho.am).length ≤ 128 := by rw [List.length_append, List.length_map (f := Ho.am)]; have := HLA.out; have := HM.out; omega
          obtain ⟨mao, mcap, mg, rfl, hug, hmo⟩ := HR2.out.ug
          have HMU := hide (makeUpG _ mcap rfl hug hmo (by omega) T0 h64)
          obtain ⟨R, hR⟩ : ∃ R, decide ((A.map Ac.ba ++ H.map Ho.am).sum = T0) = R := ⟨_, rfl⟩
          rw [hR] at HMU
          have hrc0 : c = if R = true then 0 else 51 := by
            have hcc := HC.out
            have e : (A.map Ac.ba ++ H.map Ho.am).sum = sumK Ac.ba A + sumK Ho.am H := by unfold sumK; rw [List.sum_append]
            rw [e] at hR
            rw [← hcc, ← hR]
            by_cases q : sumK Ac.ba A + sumK Ho.am H = T0
            · simp [q]
            · simp [q]
          have HRC := hide hrc0
          clear hrc0
          have HE : Hid (Below w.heap.size w wr) := HB1.out.trans (HR2.out.bel.mono HB1.out.size)
          obtain ⟨y0, y2, y3, yl⟩ := C1.out wr HR2.out.bel
          generalize (A.map Ac.ba ++ H.map Ho.am).length = ML at *
          clear HR HR2 hug hmo hR y2 y3 HC HI HLA
          go_wp2_with fail
          refine HMU.out.mono ?_
          rintro e w5 ⟨rfl, rfl⟩
          have hrc := HRC.out
          clear HMU HRC y0 yl
          cases R with
          | true =>
            rw [if_pos rfl] at hrc
            subst hrc
            go_wp2
            go_ret2
            exact ⟨rfl, HE⟩
          | false =>
            rw [if_neg (by simp)] at hrc
            subst hrc
            go_wp2
            go_ret2
            exact ⟨rfl, HE⟩
end Go.Proofs.YtcfenjpdjogmdaaGreat
namespace Go.Proofs.YtcfenjpdjogmdaaGreat
open Go.RowKit

/-- A line of whatever kind. -/
structure Jz where
  (sq fr tw am : Nat)
  kd : Int
def Jn.z (e : Jn) : Jz := ⟨e.sq, e.fr, e.tw, e.am, (e.kd : Int)⟩
/-- The first fault of the lines: their numbers and kinds. -/
def lflt (f : Nat) : Nat → List Jz → Nat × Nat
  | _, [] => (0, 0)
  | i, e :: r => if e.sq ≠ f + i ∨ e.kd < 1 ∨ 5 < e.kd then (i, 4) else lflt f (i + 1) r
/-- The fault of a journal. -/
def jflt (nx : Nat) (l : List Jz) : Nat × Nat := if nx = 0 ∨ 4611686018427387904 < nx ∨ l.length ≠ min (nx - 1) 64 then (0, 4) else lflt (nx - l.length) 0 l
/-- Lines as they lie. -/
def Jzs (W : World) (b off : Nat) (l : List Jz) : Prop := ∀ (i : Nat) (x : Jz), l[i]? = some x → W.cell? ⟨b, off + i * 5, none⟩ = some (.int .u64 (x.sq : Nat)) ∧ W.cell? ⟨b, off + i * 5 + 1, none⟩ = some (.int .i64 x.kd) ∧ W.cell? ⟨b, off + i * 5 + 2, none⟩ = some (.int .u64 (x.fr : Nat)) ∧ W.cell? ⟨b, off + i * 5 + 3, none⟩ = some (.int .u64 (x.tw : Nat)) ∧ W.cell? ⟨b, off + i * 5 + 4, none⟩ = some (.int .u64 (x.am : Nat))
theorem Jns.z {W : World} {b off : Nat} {l : List Jn} (h : Jns W b off l) : Jzs W b off (l.map Jn.z) := fun i x hx => by
  rw [List.getElem?_map] at hx
  cases e : l[i]? with
  | none => rw [e] at hx; cases hx
  | some y =>
    rw [e] at hx
    cases hx
    exact h.at_ i y e
set_option maxRecDepth 10000 in
set_option maxHeartbeats 3200000 in
theorem linesFaultC {w : World} {l : List Jz} {jo : Option Addr} {g off : Nat} (k jcap : Nat) (hk : k = l.length) (hJ : Jzs w g off l) (hjo : 0 < k → jo = some ⟨g, off, none⟩ ∧ g < w.heap.size) (n cap m hcap : Nat) (ao ho : Option Addr) (T0 : Int) (nx : Nat) (hnx : nx < 18446744073709551616) {x c : Nat} (hF : jflt nx l = (x, c)) :
    Calls Tryz.prog 40 #[.agg #[.int .u64 T0, .int .u64 (nx : Nat), .slice ao n cap, .slice ho m hcap, .slice jo k jcap]] w fun e w' => e = .returned (.tuple #[.int .i64 (x : Nat), .int .i64 (c : Nat)]) ∧ Hid (Below w.heap.size w w') := by
  obtain ⟨W1, hW1⟩ : ∃ W1, w.alloc (.cells #[.int .u64 T0, .int .u64 (nx : Nat), .slice ao n cap, .slice ho m hcap, .slice jo k jcap] 35) = W1 := ⟨_, rfl⟩
  have HB1 : Hid (Below w.heap.size w W1) := by rw [← hW1]; exact (Below.refl _ w).alloc (Nat.le_refl _) _
  have C1 : W1.heap[w.heap.size]? = some (.cells #[.int .u64 T0, .int .u64 (nx : Nat), .slice ao n cap, .slice ho m hcap, .slice jo k jcap] 35 (0, 0)) := by rw [← hW1]; exact alloc_atK _ _
  have HJ : Hid (∀ V, Below w.heap.size w V → ∀ (i : Nat) (x : Jz), l[i]? = some x → jo = some ⟨g, off, none⟩ ∧ g < V.heap.size ∧ V.cell? ⟨g, off + i * 5, none⟩ = some (.int .u64 (x.sq : Nat)) ∧ V.cell? ⟨g, off + i * 5 + 1, none⟩ = some (.int .i64 x.kd) ∧ V.cell? ⟨g, off + i * 5 + 2, none⟩ = some (.int .u64 (x.fr : Nat)) ∧ V.cell? ⟨g, off + i * 5 + 3, none⟩ = some (.int .u64 (x.tw : Nat)) ∧ V.cell? ⟨g, off + i * 5 + 4, none⟩ = some (.int .u64 (x.am : Nat))) := fun V hV i x hx => by
    obtain ⟨c0, c1, c2, c3, c4⟩ := hJ i x hx
    obtain ⟨e, hb⟩ := hjo (by have := (List.getElem?_eq_some_iff.1 hx).1; omega)
    exact ⟨e, Nat.lt_of_lt_of_le hb hV.size, (hV.cell (p := ⟨g, _, none⟩) hb).trans c0, (hV.cell (p := ⟨g, _, none⟩) hb).trans c1, (hV.cell (p := ⟨g, _, none⟩) hb).trans c2, (hV.cell (p := ⟨g, _, none⟩) hb).trans c3, (hV.cell (p := ⟨g, _, none⟩) hb).trans c4⟩
  have HK := hide hk
  have HW1 := hide hW1
  unfold jflt at hF
  rw [← hk] at hF
  have y1 := block_cell C1 1
  have y4 := block_cell C1 4
  have yl := block_lt C1
  simp at y1 y4
  clear hk hJ hjo hW1 C1
  go_enter Tryz.func40, Tryz.ntmps40
  go_upto_region 1 with fail
  rw [HW1.out]
  clear HW1
  generalize w.heap.size = q at y1 y4 yl ⊢
  by_cases i0 : nx = 0
  · rw [if_pos (.inl i0)] at hF
    cases hF
    have g0 : ((nx : Int) == 0) = true := by simp [i0]
    generalize (nx : Int) = NX at *
    clear i0 HJ HK
    go_wp2
    go_ret2
    exact ⟨rfl, HB1⟩
  have g0 : ((nx : Int) == 0) = false := by simp; omega
  by_cases i1 : 4611686018427387904 < nx
  · rw [if_pos (.inr (.inl i1))] at hF
    cases hF
    have g1 : decide ((nx : Int) > 4611686018427387904) = true := decide_eq_true (by omega)
    clear i0 i1 HJ HK
    go_wp2
    go_ret2
    exact ⟨rfl, HB1⟩
  have g1 : decide ((nx : Int) > 4611686018427387904) = false := decide_eq_false (by omega)
  obtain ⟨M, hM⟩ : ∃ M, min (nx - 1) 64 = M := ⟨_, rfl⟩
  have hla := linesAtG W1 nx (by omega) (by omega)
  rw [hM] at hla hF
  have HLA := hide hla
  have hM64 : M ≤ 64 ∧ M ≤ nx - 1 := by omega
  have HNX := hide (And.intro i0 i1)
  clear hla hM i0 i1
  go_upto_region 2 with fail
  go_wp2_with fail
  refine HLA.out.mono ?_
  rintro e w2 ⟨rfl, rfl⟩
  clear HLA
  by_cases i2 : k = M
  · have g2 : ((k : Int) == (M : Int)) = true := by simp [i2]
    have g2n : ((k : Int) != (M : Int)) = false := by simp [i2]
    have g2d : decide ((k : Int) = (M : Int)) = true := by simp [i2]
    have g2e : (k : Int) = (M : Int) := by rw [i2]
    have hF2 := hF
    rw [if_neg (by have := HNX.out; omega)] at hF2
    obtain ⟨f, hf⟩ : ∃ f, nx - k = f := ⟨_, rfl⟩
    rw [hf] at hF2
    have hwk : IntKind.u64.wrap (k : Int) = (k : Int) := IntWalk.u64_in _ ⟨by omega, by omega⟩
    have hws : IntKind.u64.wrap ((nx : Int) - (k : Int)) = (f : Int) := by rw [IntWalk.u64_in _ ⟨by omega, by omega⟩]; omega
    have HF := hide hF2
    have hf64 : f < 9000000000000000000 := by have := HNX.out; omega
    have hk64 : k ≤ 64 := by omega
    clear hF hF2 hf hM64 g2e
    subst i2
    clear g2 g2n g2d
    go_wp2
    clear y1 y4 yl hwk hws g0 g1
    go_loopw [34] (fun i wr => ∃ j : Nat, j ≤ k ∧ i = .int .i64 j ∧ Hid (lflt f j (l.drop j) = (x, c)) ∧ Hid (Below w.heap.size w wr)) (fun i _ => k - (intOf i).toNat)
    case atStart => exact ⟨0, by omega, rfl, HF.out, HB1.out⟩
    case round =>
      clear HF HB1
      obtain ⟨j, hj, rfl, HR, HB⟩ := hrel
      by_cases hlt : j < k
      · obtain ⟨y, hy⟩ : ∃ y, l[j]? = some y := ⟨_, List.getElem?_eq_getElem (by have := HK.out; omega)⟩
        obtain ⟨rfl, dl, d0, d1, d2, d3, d4⟩ := HJ.out wr HB.out j y hy
        have hR := HR.out
        rw [drop_at hy] at hR
        unfold lflt at hR
        obtain ⟨W2, hW2⟩ : ∃ W2, wr.alloc (.cells #[.int .u64 (y.sq : Nat), .int .i64 y.kd, .int .u64 (y.fr : Nat), .int .u64 (y.tw : Nat), .int .u64 (y.am : Nat)] 69) = W2 := ⟨_, rfl⟩
        have HB2 : Hid (Below w.heap.size w W2) := by rw [← hW2]; exact HB.out.alloc HB.out.size _
        have C2 : W2.heap[wr.heap.size]? = some (.cells #[.int .u64 (y.sq : Nat), .int .i64 y.kd, .int .u64 (y.fr : Nat), .int .u64 (y.tw : Nat), .int .u64 (y.am : Nat)] 69 (0, 0)) := by rw [← hW2]; exact alloc_atK _ _
        have HW2 := hide hW2
        obtain ⟨G, hG⟩ : ∃ G, f + j = G := ⟨_, rfl⟩
        rw [hG] at hR
        have hwj : IntKind.u64.wrap (j : Int) = (j : Int) := IntWalk.u64_in _ ⟨by omega, by omega⟩
        have hwa : IntKind.u64.wrap ((f : Int) + (j : Int)) = (G : Int) := by rw [IntWalk.u64_in _ ⟨by omega, by omega⟩]; omega
        clear hy hW2 HB HR hG
        go_upto_region 8 with fail
        rw [HW2.out]
        clear HW2 d0 d1 d2 d3 d4 dl
        generalize wr.heap.size = qb at *
        have z0 := block_cell C2 0
        have z1 := block_cell C2 1
        have zl := block_lt C2
        simp at z0 z1
        clear C2
        by_cases i0 : y.sq = G
        · have e0 : ((y.sq : Int) != (G : Int)) = false := by simp [i0]
          have e0e : ((y.sq : Int) == (G : Int)) = true := by simp [i0]
          have e0d : decide ((y.sq : Int) = (G : Int)) = true := by simp [i0]
          have key : (decide (y.kd < 1) = true ∧ (x, c) = (j, 4)) ∨ (decide (y.kd < 1) = false ∧ decide (y.kd > 5) = true ∧ (x, c) = (j, 4)) ∨ (decide (y.kd < 1) = false ∧ decide (y.kd > 5) = false ∧ lflt f (j + 1) (l.drop (j + 1)) = (x, c)) := by
            by_cases i1 : y.kd < 1
            · rw [if_pos (.inr (.inl i1))] at hR
              exact .inl ⟨decide_eq_true i1, hR.symm⟩
            · by_cases i2 : 5 < y.kd
              · rw [if_pos (.inr (.inr i2))] at hR
                exact .inr (.inl ⟨decide_eq_false i1, decide_eq_true i2, hR.symm⟩)
              · rw [if_neg (by rw [not_or, not_or]; exact ⟨fun h => h i0, i1, i2⟩)] at hR
                exact .inr (.inr ⟨decide_eq_false i1, decide_eq_false i2, hR⟩)
          clear hR
          rw [i0] at z0
          clear i0 e0 e0e e0d
          generalize y.kd = KD at *
          generalize (G : Int) = GI at *
          rcases key with ⟨g1, e⟩ | ⟨g1, g2, e⟩ | ⟨g1, g2, HR⟩
          · cases e
            go_wp2
            go_ret2
            exact ⟨rfl, HB2⟩
          · cases e
            go_wp2
            go_ret2
            exact ⟨rfl, HB2⟩
          · have HR := hide HR
            go_wp2
            go_roundw
            case rel => exact ⟨j + 1, by omega, by go_num, HR.out, HB2.out⟩
            case measure => simp [intOf]; omega
        · rw [if_pos (.inl i0)] at hR
          cases hR
          have e0 : ((y.sq : Int) != (G : Int)) = true := by simp; omega
          have e0e : ((y.sq : Int) == (G : Int)) = false := by simp; omega
          have e0d : decide ((y.sq : Int) = (G : Int)) = false := decide_eq_false (by omega)
          have e0n : ¬ (y.sq : Int) = (G : Int) := by omega
          clear i0
          generalize (y.sq : Int) = SQ at *
          generalize (G : Int) = GI at *
          go_wp2
          go_ret2
          exact ⟨rfl, HB2⟩
      · obtain rfl : j = k := by omega
        have hR := HR.out
        rw [List.drop_of_length_le (by have := HK.out; omega)] at hR
        cases hR
        go_wp2
        go_ret2
        exact ⟨rfl, HB⟩
  · rw [if_pos (.inr (.inr i2))] at hF
    cases hF
    have g2 : ((k : Int) == (M : Int)) = false := by simp; omega
    have g2n : ((k : Int) != (M : Int)) = true := by simp; omega
    have g2d : decide ((k : Int) = (M : Int)) = false := decide_eq_false (by omega)
    have g2e : ¬ (k : Int) = (M : Int) := by omega
    clear i2 hM64 HNX HJ HK
    generalize (k : Int) = KI at *
    generalize (M : Int) = MI at *
    go_wp2
    go_ret2
    exact ⟨rfl, HB1⟩
end Go.Proofs.YtcfenjpdjogmdaaGreat
namespace Go.Proofs.YtcfenjpdjogmdaaGreat
open Go.RowKit

/-- The first fault of an image. -/
def rstF (T0 : Nat) (A : List Ac) (H : List Ho) (nx : Nat) (J : List Jz) : Nat × Nat :=
  if 64 < A.length ∨ 64 < H.length then (0, 43) else if (aflt 0 0 A).2 ≠ 0 then aflt 0 0 A else if (hflt A 0 0 H).2 ≠ 0 then hflt A 0 0 H else if sumK Ac.ba A + sumK Ho.am H ≠ T0 then (0, 51) else jflt nx J
theorem aflt_ok : ∀ {l : List Ac} {L i : Nat}, (aflt L i l).2 = 0 → UpK Ac.id l ∧ ∀ x ∈ l, L < x.id ∧ x.ba ≤ x.cp
  | [], _, _, _ => ⟨by simp [UpK], fun x hx => by cases hx⟩
  | a :: r, L, i, h => by
    unfold aflt at h
    split at h
    · cases h
    split at h
    · cases h
    split at h
    · cases h
    rename_i h1 h2 h3
    obtain ⟨g1, g2⟩ := aflt_ok h
    refine ⟨List.pairwise_cons.2 ⟨fun y hy => (g2 y hy).1, g1⟩, fun x hx => ?_⟩
    rcases List.mem_cons.1 hx with e | e
    · rw [e]; omega
    · have := g2 x e; omega
theorem hflt_ok {A : List Ac} : ∀ {l : List Ho} {L i : Nat}, (hflt A L i l).2 = 0 → UpK Ho.id l ∧ ∀ x ∈ l, L < x.id ∧ (byK Ac.id A x.fr).isSome = true ∧ x.am ≠ 0
  | [], _, _, _ => ⟨by simp [UpK], fun x hx => by cases hx⟩
  | a :: r, L, i, h => by
    unfold hflt at h
    split at h
    · cases h
    split at h
    · cases h
    split at h
    · cases h
    split at h
    · cases h
    rename_i h1 h2 h3 h4
    obtain ⟨g1, g2⟩ := hflt_ok h
    refine ⟨List.pairwise_cons.2 ⟨fun y hy => (g2 y hy).1, g1⟩, fun x hx => ?_⟩
    rcases List.mem_cons.1 hx with e | e
    · rw [e]; exact ⟨by omega, (Bool.not_eq_false _).mp h3, h4⟩
    · have := g2 x e; exact ⟨by omega, this.2⟩
theorem lflt_ok {f : Nat} : ∀ {l : List Jz} {i : Nat}, (lflt f i l).2 = 0 → ∀ (j : Nat) (x : Jz), l[j]? = some x → x.sq = f + i + j ∧ 1 ≤ x.kd ∧ x.kd ≤ 5
  | [], _, _ => fun j x hx => by simp at hx
  | a :: r, i, h => by
    unfold lflt at h
    split at h
    · cases h
    rename_i h1
    have ih := lflt_ok h
    intro j x hx
    cases j with
    | zero =>
      simp at hx
      subst hx
      omega
    | succ j =>
      have := ih j x (by simpa using hx)
      omega
theorem jflt_ok {nx : Nat} {l : List Jz} (h : (jflt nx l).2 = 0) : nx ≠ 0 ∧ nx ≤ 4611686018427387904 ∧ l.length = min (nx - 1) 64 ∧ ∀ (j : Nat) (x : Jz), l[j]? = some x → x.sq = nx - l.length + j ∧ 1 ≤ x.kd ∧ x.kd ≤ 5 := by
  unfold jflt at h
  split at h
  · cases h
  rename_i h1
  rw [not_or, not_or] at h1
  refine ⟨h1.1, by omega, by omega, fun j x hx => ?_⟩
  have := lflt_ok h j x hx
  omega
def Jz.n (e : Jz) : Jn := ⟨e.sq, e.kd.toNat, e.fr, e.tw, e.am⟩
/-- A ring into which lines were written. -/
def rgs (l : List Jz) : Nat → Jn := l.foldl (fun r e => fun k => if k = e.sq % 64 then e.n else r k) (fun _ => Jn.zero)
theorem rgs_take {l : List Jz} {k : Nat} {x : Jz} (h : l[k]? = some x) : rgs (l.take (k + 1)) = fun i => if i = x.sq % 64 then x.n else rgs (l.take k) i := by
  unfold rgs
  rw [foldl_take _ _ h]
theorem LG.setTot {W : World} {p a b : Nat} {mk ch : Value} {S : LS} (h : LG W p a b mk ch S) (v : Nat) : LG (W.setCell ⟨p, 0, none⟩ (.int .u64 (v : Nat))) p a b mk ch { S with tot := v } := by
  obtain ⟨cs, h1, hs, ⟨h2, h3, h4, h5, h6, h7⟩, h8⟩ := h.blk
  obtain ⟨n1, n2, n3⟩ := h.nes
  have hg := grown_set W p 0 (.int .u64 (v : Nat))
  refine ⟨⟨cs.setIfInBounds 0 (.int .u64 (v : Nat)), heap_setCell_same W p 0 _ _ _ h1, by simpa using hs, ⟨by simp [hs], by simpa using h3, by simpa using h4, by simpa using h5, by simpa using h6, by simpa using h7⟩, fun k hk j v' hj => ?_⟩, h.acc.kept hg (fun e => n1 (Option.some.inj e).symm), h.hol.kept hg (fun e => n2 (Option.some.inj e).symm), h.ne⟩
  simp only [Array.getElem?_setIfInBounds]
  rw [if_neg (by omega)]
  exact h8 k hk j v' hj
theorem LG.setNx {W : World} {p a b : Nat} {mk ch : Value} {S : LS} (h : LG W p a b mk ch S) (v : Nat) : LG (W.setCell ⟨p, 3, none⟩ (.int .u64 (v : Nat))) p a b mk ch { S with nx := v } := by
  obtain ⟨cs, h1, hs, ⟨h2, h3, h4, h5, h6, h7⟩, h8⟩ := h.blk
  obtain ⟨n1, n2, n3⟩ := h.nes
  have hg := grown_set W p 3 (.int .u64 (v : Nat))
  refine ⟨⟨cs.setIfInBounds 3 (.int .u64 (v : Nat)), heap_setCell_same W p 3 _ _ _ h1, by simpa using hs, ⟨by simpa using h2, by simpa using h3, by simpa using h4, by simp [hs], by simpa using h6, by simpa using h7⟩, fun k hk j v' hj => ?_⟩, h.acc.kept hg (fun e => n1 (Option.some.inj e).symm), h.hol.kept hg (fun e => n2 (Option.some.inj e).symm), h.ne⟩
  simp only [Array.getElem?_setIfInBounds]
  rw [if_neg (by omega)]
  exact h8 k hk j v' hj
theorem ring5_g (W : World) (p k : Nat) (sq kd fr tw am : Int) : W.grownBy (ring5 W p k sq kd fr tw am) (some p) := by
  unfold ring5
  exact far_two (far_two (far_two (far_two (grown_set _ p _ _) (grown_set _ p _ _)) (grown_set _ p _ _)) (grown_set _ p _ _)) (grown_set _ p _ _)
theorem LG.toRing {W : World} {p a b : Nat} {mk ch : Value} {S : LS} (h : LG W p a b mk ch S) {k : Nat} (hk : k < 64) (e : Jn) : LG (ring5 W p k (e.sq : Int) (e.kd : Int) (e.fr : Int) (e.tw : Int) (e.am : Int)) p a b mk ch { S with rg := fun i => if i = k then e else S.rg i } := by
  obtain ⟨cs, h1, hs, ⟨h2, h3, h4, h5, h6, h7⟩, h8⟩ := h.blk
  obtain ⟨n1, n2, n3⟩ := h.nes
  have hg := ring5_g W p k (e.sq : Int) (e.kd : Int) (e.fr : Int) (e.tw : Int) (e.am : Int)
  refine ⟨⟨_, heap_setCell_same _ p _ _ _ _ (heap_setCell_same _ p _ _ _ _ (heap_setCell_same _ p _ _ _ _ (heap_setCell_same _ p _ _ _ _ (heap_setCell_same W p _ _ _ _ h1)))), by simpa using hs, ⟨?_, ?_, ?_, ?_, ?_, ?_⟩, fun k' hk' j v hj => ?_⟩, h.acc.kept hg (fun e => n1 (Option.some.inj e).symm), h.hol.kept hg (fun e => n2 (Option.some.inj e).symm), h.ne⟩
  · simp only [Array.getElem?_setIfInBounds]; repeat rw [if_neg (by omega)]
    exact h2
  · simp only [Array.getElem?_setIfInBounds]; repeat rw [if_neg (by omega)]
    exact h3
  · simp only [Array.getElem?_setIfInBounds]; repeat rw [if_neg (by omega)]
    exact h4
  · simp only [Array.getElem?_setIfInBounds]; repeat rw [if_neg (by omega)]
    exact h5
  · simp only [Array.getElem?_setIfInBounds]; repeat rw [if_neg (by omega)]
    exact h6
  · simp only [Array.getElem?_setIfInBounds]; repeat rw [if_neg (by omega)]
    exact h7
  · have hj5 : j < 5 := (List.getElem?_eq_some_iff.1 hj).1
    have hj' : (if k' = k then e else S.rg k').vals[j]? = some v := hj
    by_cases e' : k' = k
    · subst e'
      rw [if_pos rfl] at hj'
      have : j = 0 ∨ j = 1 ∨ j = 2 ∨ j = 3 ∨ j = 4 := by omega
      rcases this with rfl | rfl | rfl | rfl | rfl <;>
        (simp only [Jn.vals, List.getElem?_cons_zero, List.getElem?_cons_succ, Option.some.injEq] at hj'
         subst hj'
         simp only [Array.getElem?_setIfInBounds, Array.size_setIfInBounds, hs]
         repeat (first | rw [if_pos trivial, if_pos (by omega)] | rw [if_pos (by omega), if_pos (by omega)] | rw [if_neg (by omega)]))
    · rw [if_neg e'] at hj'
      simp only [Array.getElem?_setIfInBounds]
      repeat rw [if_neg (by omega)]
      exact h8 k' hk' j v hj'
/-- The lists of an image that is to be restored. -/
structure ImZ (W : World) (A : List Ac) (H : List Ho) (J : List Jz) (ao ho jo : Option Addr) (ga gh gj : Nat) : Prop extends Im W A H ao ho ga gh where
  jo_ : 0 < J.length → jo = some ⟨gj, 0, none⟩ ∧ gj < W.heap.size
  j : Jzs W gj 0 J
theorem ImJ.z {W : World} {A : List Ac} {H : List Ho} {J : List Jn} {ao ho jo : Option Addr} {ga gh gj : Nat} (h : ImJ W A H J ao ho jo ga gh gj) : ImZ W A H (J.map Jn.z) ao ho jo ga gh gj := ⟨h.toIm, fun hp => h.jo_ (by simpa using hp), h.j.z⟩
theorem ImZ.below {W W' : World} {A : List Ac} {H : List Ho} {J : List Jz} {ao ho jo : Option Addr} {ga gh gj : Nat} (h : ImZ W A H J ao ho jo ga gh gj) (hb : Below W.heap.size W W') : ImZ W' A H J ao ho jo ga gh gj :=
  ⟨h.toIm.below hb, fun hp => ⟨(h.jo_ hp).1, Nat.lt_of_lt_of_le (h.jo_ hp).2 hb.size⟩, fun i x hx => by
    obtain ⟨c0, c1, c2, c3, c4⟩ := h.j i x hx
    have hb' := (h.jo_ (by have := (List.getElem?_eq_some_iff.1 hx).1; omega)).2
    exact ⟨(hb.cell (p := ⟨gj, _, none⟩) hb').trans c0, (hb.cell (p := ⟨gj, _, none⟩) hb').trans c1, (hb.cell (p := ⟨gj, _, none⟩) hb').trans c2, (hb.cell (p := ⟨gj, _, none⟩) hb').trans c3, (hb.cell (p := ⟨gj, _, none⟩) hb').trans c4⟩⟩
/-- The checks ahead of k are passed. -/
def PassK (T0 : Nat) (A : List Ac) (H : List Ho) (nx : Nat) (J : List Jz) (k : Nat) : Prop := (0 < k → ¬ (64 < A.length ∨ 64 < H.length)) ∧ (1 < k → (aflt 0 0 A).2 = 0) ∧ (2 < k → (hflt A 0 0 H).2 = 0) ∧ (3 < k → sumK Ac.ba A + sumK Ho.am H = T0) ∧ (4 < k → (jflt nx J).2 = 0)
/-- Each check, as it is called. -/
theorem checkC {w : World} {A : List Ac} {H : List Ho} {J : List Jz} {ao ho jo : Option Addr} {ga gh gj : Nat} (h : ImZ w A H J ao ho jo ga gh gj) (n cap m hcap k jcap : Nat) (hn : n = A.length) (hm : m = H.length) (hk : k = J.length) (T0 : Nat) (h64 : T0 < 18446744073709551616) (nx : Nat) (hnx : nx < 18446744073709551616) {i : Nat} (hi : i < 5) (hp : PassK T0 A H nx J i) :
    ∃ F x c, [36, 37, 38, 39, 40][i]? = some F ∧ (∀ (v : Value) (W : World), (callFunc F #[v]).run Tryz.prog W = .ok (.enter F #[v]) W) ∧ (Calls Tryz.prog F #[.agg #[.int .u64 (T0 : Nat), .int .u64 (nx : Nat), .slice ao n cap, .slice ho m hcap, .slice jo k jcap]] w fun e w' => e = .returned (.tuple #[.int .i64 (x : Nat), .int .i64 (c : Nat)]) ∧ Hid (Below w.heap.size w w')) ∧ (c = 0 → PassK T0 A H nx J (i + 1)) ∧ (c ≠ 0 → rstF T0 A H nx J = (x, c)) := by
  obtain ⟨p0, p1, p2, p3, p4⟩ := hp
  have hi5 : i = 0 ∨ i = 1 ∨ i = 2 ∨ i = 3 ∨ i = 4 := by omega
  rcases hi5 with rfl | rfl | rfl | rfl | rfl
  · obtain ⟨c, hc⟩ : ∃ c : Nat, (if 64 < n ∨ 64 < m then 43 else 0) = c := ⟨_, rfl⟩
    refine ⟨_, 0, c, rfl, fun v W => by kernel_rfl, sizeFaultC n cap m hcap k jcap ao ho jo _ _ (by rw [← hc]; split <;> rfl), fun h0 => ⟨fun _ => ?_, fun h => by omega, fun h => by omega, fun h => by omega, fun h => by omega⟩, fun h0 => ?_⟩
    · rw [← hn, ← hm]
      intro hh
      rw [if_pos hh] at hc
      omega
    · unfold rstF
      rw [← hn, ← hm]
      by_cases hh : 64 < n ∨ 64 < m
      · rw [if_pos hh] at hc ⊢
        rw [hc]
      · rw [if_neg hh] at hc
        omega
  · obtain ⟨x, hx⟩ : ∃ x, aflt 0 0 A = x := ⟨_, rfl⟩
    obtain ⟨x, c⟩ := x
    have h0 := p0 (by omega)
    refine ⟨_, x, c, rfl, fun v W => by kernel_rfl, accountsFaultC h.toIm n cap m hcap k jcap hn (by omega) jo _ _ hx, fun e => ⟨fun _ => h0, fun _ => by rw [hx]; exact e, fun h => by omega, fun h => by omega, fun h => by omega⟩, fun hne => ?_⟩
    unfold rstF
    rw [if_neg h0, if_pos (by rw [hx]; exact hne), hx]
  · obtain ⟨x, hx⟩ : ∃ x, hflt A 0 0 H = x := ⟨_, rfl⟩
    obtain ⟨x, c⟩ := x
    have h0 := p0 (by omega)
    have h1 := p1 (by omega)
    refine ⟨_, x, c, rfl, fun v W => by kernel_rfl, holdsFaultC h.toIm n cap m hcap k jcap hn hm (by omega) (by omega) jo _ _ hx, fun e => ⟨fun _ => h0, fun _ => h1, fun _ => by rw [hx]; exact e, fun h => by omega, fun h => by omega⟩, fun hne => ?_⟩
    unfold rstF
    rw [if_neg h0, if_neg (by omega), if_pos (by rw [hx]; exact hne), hx]
  · obtain ⟨c, hc⟩ : ∃ c : Nat, (if sumK Ac.ba A + sumK Ho.am H = T0 then 0 else 51) = c := ⟨_, rfl⟩
    have h0 := p0 (by omega)
    have h1 := p1 (by omega)
    have h2 := p2 (by omega)
    refine ⟨_, 0, c, rfl, fun v W => by kernel_rfl, totalFaultC h.toIm n cap m hcap k jcap hn hm (by omega) (by omega) jo T0 h64 _ (by rw [← hc]; split <;> rfl), fun e => ⟨fun _ => h0, fun _ => h1, fun _ => h2, fun _ => ?_, fun h => by omega⟩, fun hne => ?_⟩
    · by_cases hh : sumK Ac.ba A + sumK Ho.am H = T0
      · exact hh
      · rw [if_neg hh] at hc
        omega
    · unfold rstF
      rw [if_neg h0, if_neg (by omega), if_neg (by omega)]
      by_cases hh : sumK Ac.ba A + sumK Ho.am H = T0
      · rw [if_pos hh] at hc
        omega
      · rw [if_pos hh]
        rw [if_neg hh] at hc
        rw [hc]
  · obtain ⟨x, hx⟩ : ∃ x, jflt nx J = x := ⟨_, rfl⟩
    obtain ⟨x, c⟩ := x
    have h0 := p0 (by omega)
    have h1 := p1 (by omega)
    have h2 := p2 (by omega)
    have h3 := p3 (by omega)
    refine ⟨_, x, c, rfl, fun v W => by kernel_rfl, linesFaultC k jcap hk h.j (fun hp => h.jo_ (by omega)) n cap m hcap ao ho _ nx hnx hx, fun e => ⟨fun _ => h0, fun _ => h1, fun _ => h2, fun _ => h3, fun _ => by rw [hx]; exact e⟩, fun hne => ?_⟩
    unfold rstF
    rw [if_neg h0, if_neg (by omega), if_neg (by omega), if_neg (by omega), hx]
end Go.Proofs.YtcfenjpdjogmdaaGreat
