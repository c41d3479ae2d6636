import Derived.Deep.DeepCutAuto
import Derived.Deep.RegionHeld
import Derived.Test.YtiijbboigebhcaaGreatDoorM33
import Derived.Test.YtiijbboigebhcaaGreatDoorOTm
import Derived.Test.YtiijbboigebhcaaGreatDoorOTn
namespace Go.Proofs.YtiijbboigebhcaaGreatDoor
open Go.RowKit Crc

set_option maxRecDepth 10000 in
set_option maxHeartbeats 40000000 in
theorem twinImage_any (m : Mi) {w : World} (h : m.Vw w) (hs : m.Sml) : Calls Tryz.prog 6 #[.agg #[.int .u64 (m.slot : Int), .int .u64 (m.now : Int), .int .u64 (m.tot : Int), .int .u64 (m.nx : Int), .slice m.ao m.an m.ac, .slice m.ho m.hn m.hc, .slice m.jo m.jn m.jc, .slice m.dO m.dn m.dc, .int .u64 (m.ends : Int), .slice m.so m.sn m.sc]] w (TwQ m w) := by
  obtain ⟨iAc, hiAc, hz0Ac, hz1Ac, hz2Ac⟩ := info_parts infoAc
  obtain ⟨iHo, hiHo, hz0Ho, hz1Ho, hz2Ho⟩ := info_parts infoHo
  obtain ⟨iEn, hiEn, hz0En, hz1En, hz2En⟩ := info_parts infoEn
  obtain ⟨iDe, hiDe, hz0De, hz1De, hz2De⟩ := info_parts infoDe
  obtain ⟨iSn, hiSn, hz0Sn, hz1Sn, hz2Sn⟩ := info_parts infoSn
  have T0 := hide (tg_start m w)
  have VW := hide h
  have hsa := hs.a
  have hsh := hs.h
  have hsj := hs.j
  have hsd := hs.d
  have hss := hs.s
  have HSU := hide hs.u
  have HLA := hide h.bk.a.len
  have HLH := hide h.bk.h.len
  have HLJ := hide h.bk.j.len
  have HLD := hide h.d.len
  have HLS := hide h.s.row.len
  unfold TwQ
  clear h hs
  go_enter Tryz.func6, Tryz.ntmps6
  go_wp2
  go_loopw [4] (fun i wr => ∃ k : Nat, k ≤ m.an ∧ i = .int .i64 k ∧ Hid (∃ vv, Tg m w vv vv k (flat Ac.cells (m.A.take k)) (.slice none 0 0) (.slice none 0 0) 0 [] (.slice none 0 0) (.slice none 0 0) 0 [] (.slice none 0 0) (.slice none 0 0) 0 [] (.slice none 0 0) (.slice none 0 0) 0 [] wr)) (fun i _ => m.an - (intOf i).toNat)
  case atStart => exact ⟨0, by omega, rfl, _, T0.out⟩
  case round =>
    obtain ⟨k, hk, rfl, HS⟩ := hrel
    obtain ⟨vv, hvv⟩ := HS.out
    have TG := hide hvv
    clear HS T0 hvv
    have xA := block_cell TG.out.ia 4
    simp at xA
    have hA := block_lt TG.out.ia
    by_cases hlk : k < m.an
    · obtain ⟨x, hx⟩ : ∃ x, m.A[k]? = some x := ⟨_, List.getElem?_eq_getElem (by rw [HLA.out]; exact hlk)⟩
      obtain ⟨b, off, hao, hbw, hc⟩ := (VW.out.below TG.out.bel).bk.a.at_ (fun _ => rfl) hx
      have c0 := hc 0 _ rfl
      have c1 := hc 1 _ rfl
      have c2 := hc 2 _ rfl
      have c3 := hc 3 _ rfl
      simp only [Nat.add_zero] at c0
      rw [hao] at xA
      have xB := block_cell TG.out.ib 4
      simp at xB
      have hB := block_lt TG.out.ib
      have HOW : Hid (∀ ob, (wr.alloc ob).drew.ownsRow (w.heap.size + 3) 63 4 vv k (flat Ac.cells (m.A.take k))) := fun ob => (TG.out.quiet (below_ad wr ob)).ra
      have HNX : Hid (∀ (v' : Value) (w2 : World) (ob : Obj), w2.ownsRow (w.heap.size + 3) 63 4 v' (k + 1) (flat Ac.cells (m.A.take k) ++ [.int .u64 (x.a : Int), .int .u64 (x.b : Int), .int .u64 (x.c : Int), .int .u64 (x.d : Int)]) → (wr.alloc ob).drew.grownBy w2 vv.ownBlock → (∃ vv, Tg m w vv vv (k + 1) (flat Ac.cells (m.A.take (k + 1))) (.slice none 0 0) (.slice none 0 0) 0 [] (.slice none 0 0) (.slice none 0 0) 0 [] (.slice none 0 0) (.slice none 0 0) 0 [] (.slice none 0 0) (.slice none 0 0) 0 [] (w2.setCell ⟨w.heap.size + 2, 4, none⟩ v')) ∧ w2.cell? ⟨w.heap.size + 2, 4, none⟩ = some vv ∧ w2.frozen? ⟨w.heap.size + 2, 4, none⟩ = false ∧ w.heap.size + 2 < w2.heap.size) := fun v' w2 ob ho hg => by
        have r := TG.out.step_a (below_ad wr ob) (c' := v') ho hg
        have e : flat Ac.cells (m.A.take k) ++ [.int .u64 (x.a : Int), .int .u64 (x.b : Int), .int .u64 (x.c : Int), .int .u64 (x.d : Int)] = flat Ac.cells (m.A.take (k + 1)) := flat_take Ac.cells m.A k x hx
        rw [e] at r
        exact ⟨⟨v', r.1⟩, r.2⟩
      have HSW : Hid (w.heap.size + 3 ≤ wr.heap.size) := hB
      clear hc hx hao TG
      go_wp2_with fail
      go_region_law (first
        | (refine step_append_ownK rfl (.tmp 46) (.tmp 54) 23 rfl (w.heap.size + 3) 63 iAc (.agg #[.int .u64 0, .int .u64 0, .int .u64 0, .int .u64 0]) 4 32 Tryz.underlying23 hiAc hz0Ac hz1Ac hz2Ac rfl (by decide) vv k (flat Ac.cells (m.A.take k)) (by simp [Act.eval]) (HOW.out _) ⟨wr.heap.size, 0, none⟩ 1 1 [.int .u64 (x.a : Int), .int .u64 (x.b : Int), .int .u64 (x.c : Int), .int .u64 (x.d : Int)] (by simp [Act.eval]) rfl (cells_newD _ _ _) (by simp [Value.oneCell']) (by unfold maxLen; omega) (by omega) (Nat.le_trans HSW.out (by simp)) ?_; intro v' w2 ho hg2; obtain ⟨g', cap', rfl⟩ := ownsRow_succ ho; have hnx := HNX.out _ _ _ ho hg2; have NX := hide hnx.1; obtain ⟨-, y1, y2, y3⟩ := hnx; clear ho hg2))
      all_goals clear xA xB hA hB hbw c0 c1 c2 c3
      all_goals go_wp2
      all_goals go_roundw
      all_goals first
        | (case rel => exact ⟨k + 1, by omega, by go_num, NX.out⟩)
        | (case measure => simp [intOf]; omega)
        | skip
    · obtain rfl : k = m.an := by omega
      have TG0 : Hid (Tg m w vv vv m.an (flat Ac.cells m.A) (.slice none 0 0) (.slice none 0 0) 0 [] (.slice none 0 0) (.slice none 0 0) 0 [] (.slice none 0 0) (.slice none 0 0) 0 [] (.slice none 0 0) (.slice none 0 0) 0 [] wr) := by
        have t := TG.out
        rw [List.take_of_length_le (by rw [HLA.out]; omega)] at t
        exact t
      clear TG
      generalize vv = va at *
      go_wp2
      clear xA hA
      go_loopw [5] (fun i wr => ∃ k : Nat, k ≤ m.hn ∧ i = .int .i64 k ∧ Hid (∃ vv, Tg m w va va m.an (flat Ac.cells m.A) vv vv k (flat Ho.cells (m.H.take k)) (.slice none 0 0) (.slice none 0 0) 0 [] (.slice none 0 0) (.slice none 0 0) 0 [] (.slice none 0 0) (.slice none 0 0) 0 [] wr)) (fun i _ => m.hn - (intOf i).toNat)
      case atStart => exact ⟨0, by omega, rfl, _, TG0.out⟩
      case round =>
        obtain ⟨k, hk, rfl, HS⟩ := hrel
        obtain ⟨vv, hvv⟩ := HS.out
        have TG := hide hvv
        clear HS TG0 hvv
        have xA := block_cell TG.out.ia 5
        simp at xA
        have hA := block_lt TG.out.ia
        by_cases hlk : k < m.hn
        · obtain ⟨x, hx⟩ : ∃ x, m.H[k]? = some x := ⟨_, List.getElem?_eq_getElem (by rw [HLH.out]; exact hlk)⟩
          obtain ⟨b, off, hao, hbw, hc⟩ := (VW.out.below TG.out.bel).bk.h.at_ (fun _ => rfl) hx
          have c0 := hc 0 _ rfl
          have c1 := hc 1 _ rfl
          have c2 := hc 2 _ rfl
          simp only [Nat.add_zero] at c0
          rw [hao] at xA
          have xB := block_cell TG.out.ib 5
          simp at xB
          have hB := block_lt TG.out.ib
          have HOW : Hid (∀ ob, (wr.alloc ob).drew.ownsRow (w.heap.size + 3) 65 3 vv k (flat Ho.cells (m.H.take k))) := fun ob => (TG.out.quiet (below_ad wr ob)).rh
          have HNX : Hid (∀ (v' : Value) (w2 : World) (ob : Obj), w2.ownsRow (w.heap.size + 3) 65 3 v' (k + 1) (flat Ho.cells (m.H.take k) ++ [.int .u64 (x.a : Int), .int .u64 (x.b : Int), .int .u64 (x.c : Int)]) → (wr.alloc ob).drew.grownBy w2 vv.ownBlock → (∃ vv, Tg m w va va m.an (flat Ac.cells m.A) vv vv (k + 1) (flat Ho.cells (m.H.take (k + 1))) (.slice none 0 0) (.slice none 0 0) 0 [] (.slice none 0 0) (.slice none 0 0) 0 [] (.slice none 0 0) (.slice none 0 0) 0 [] (w2.setCell ⟨w.heap.size + 2, 5, none⟩ v')) ∧ w2.cell? ⟨w.heap.size + 2, 5, none⟩ = some vv ∧ w2.frozen? ⟨w.heap.size + 2, 5, none⟩ = false ∧ w.heap.size + 2 < w2.heap.size) := fun v' w2 ob ho hg => by
            have r := TG.out.step_h (below_ad wr ob) (c' := v') ho hg
            have e : flat Ho.cells (m.H.take k) ++ [.int .u64 (x.a : Int), .int .u64 (x.b : Int), .int .u64 (x.c : Int)] = flat Ho.cells (m.H.take (k + 1)) := flat_take Ho.cells m.H k x hx
            rw [e] at r
            exact ⟨⟨v', r.1⟩, r.2⟩
          have HSW : Hid (w.heap.size + 3 ≤ wr.heap.size) := hB
          clear hc hx hao TG
          go_wp2_with fail
          go_region_law (first
            | (refine step_append_ownK rfl (.tmp 71) (.tmp 79) 24 rfl (w.heap.size + 3) 65 iHo (.agg #[.int .u64 0, .int .u64 0, .int .u64 0]) 3 24 Tryz.underlying24 hiHo hz0Ho hz1Ho hz2Ho rfl (by decide) vv k (flat Ho.cells (m.H.take k)) (by simp [Act.eval]) (HOW.out _) ⟨wr.heap.size, 0, none⟩ 1 1 [.int .u64 (x.a : Int), .int .u64 (x.b : Int), .int .u64 (x.c : Int)] (by simp [Act.eval]) rfl (cells_newD _ _ _) (by simp [Value.oneCell']) (by unfold maxLen; omega) (by omega) (Nat.le_trans HSW.out (by simp)) ?_; intro v' w2 ho hg2; obtain ⟨g', cap', rfl⟩ := ownsRow_succ ho; have hnx := HNX.out _ _ _ ho hg2; have NX := hide hnx.1; obtain ⟨-, y1, y2, y3⟩ := hnx; clear ho hg2))
          all_goals clear xA xB hA hB hbw c0 c1 c2
          all_goals go_wp2
          all_goals go_roundw
          all_goals first
            | (case rel => exact ⟨k + 1, by omega, by go_num, NX.out⟩)
            | (case measure => simp [intOf]; omega)
            | skip
        · obtain rfl : k = m.hn := by omega
          have TG1 : Hid (Tg m w va va m.an (flat Ac.cells m.A) vv vv m.hn (flat Ho.cells m.H) (.slice none 0 0) (.slice none 0 0) 0 [] (.slice none 0 0) (.slice none 0 0) 0 [] (.slice none 0 0) (.slice none 0 0) 0 [] wr) := by
            have t := TG.out
            rw [List.take_of_length_le (by rw [HLH.out]; omega)] at t
            exact t
          clear TG
          generalize vv = vh at *
          go_wp2
          clear xA hA
          go_loopw [6] (fun i wr => ∃ k : Nat, k ≤ m.jn ∧ i = .int .i64 k ∧ Hid (∃ vv, Tg m w va va m.an (flat Ac.cells m.A) vh vh m.hn (flat Ho.cells m.H) vv vv k (flat En.cells (m.J.take k)) (.slice none 0 0) (.slice none 0 0) 0 [] (.slice none 0 0) (.slice none 0 0) 0 [] wr)) (fun i _ => m.jn - (intOf i).toNat)
          case atStart => exact ⟨0, by omega, rfl, _, TG1.out⟩
          case round =>
            obtain ⟨k, hk, rfl, HS⟩ := hrel
            obtain ⟨vv, hvv⟩ := HS.out
            have TG := hide hvv
            clear HS TG1 hvv
            have xA := block_cell TG.out.ia 6
            simp at xA
            have hA := block_lt TG.out.ia
            by_cases hlk : k < m.jn
            · obtain ⟨x, hx⟩ : ∃ x, m.J[k]? = some x := ⟨_, List.getElem?_eq_getElem (by rw [HLJ.out]; exact hlk)⟩
              obtain ⟨b, off, hao, hbw, hc⟩ := (VW.out.below TG.out.bel).bk.j.at_ (fun _ => rfl) hx
              have c0 := hc 0 _ rfl
              have c1 := hc 1 _ rfl
              have c2 := hc 2 _ rfl
              have c3 := hc 3 _ rfl
              have c4 := hc 4 _ rfl
              simp only [Nat.add_zero] at c0
              rw [hao] at xA
              have xB := block_cell TG.out.ib 6
              simp at xB
              have hB := block_lt TG.out.ib
              have HOW : Hid (∀ ob, (wr.alloc ob).drew.ownsRow (w.heap.size + 3) 67 5 vv k (flat En.cells (m.J.take k))) := fun ob => (TG.out.quiet (below_ad wr ob)).rj
              have HNX : Hid (∀ (v' : Value) (w2 : World) (ob : Obj), w2.ownsRow (w.heap.size + 3) 67 5 v' (k + 1) (flat En.cells (m.J.take k) ++ [.int .u64 (x.a : Int), .int .i64 x.k, .int .u64 (x.b : Int), .int .u64 (x.c : Int), .int .u64 (x.d : Int)]) → (wr.alloc ob).drew.grownBy w2 vv.ownBlock → (∃ vv, Tg m w va va m.an (flat Ac.cells m.A) vh vh m.hn (flat Ho.cells m.H) vv vv (k + 1) (flat En.cells (m.J.take (k + 1))) (.slice none 0 0) (.slice none 0 0) 0 [] (.slice none 0 0) (.slice none 0 0) 0 [] (w2.setCell ⟨w.heap.size + 2, 6, none⟩ v')) ∧ w2.cell? ⟨w.heap.size + 2, 6, none⟩ = some vv ∧ w2.frozen? ⟨w.heap.size + 2, 6, none⟩ = false ∧ w.heap.size + 2 < w2.heap.size) := fun v' w2 ob ho hg => by
                have r := TG.out.step_j (below_ad wr ob) (c' := v') ho hg
                have e : flat En.cells (m.J.take k) ++ [.int .u64 (x.a : Int), .int .i64 x.k, .int .u64 (x.b : Int), .int .u64 (x.c : Int), .int .u64 (x.d : Int)] = flat En.cells (m.J.take (k + 1)) := flat_take En.cells m.J k x hx
                rw [e] at r
                exact ⟨⟨v', r.1⟩, r.2⟩
              have HSW : Hid (w.heap.size + 3 ≤ wr.heap.size) := hB
              clear hc hx hao TG
              go_wp2_with fail
              go_region_law (first
                | (refine step_append_ownK rfl (.tmp 96) (.tmp 104) 25 rfl (w.heap.size + 3) 67 iEn (.agg #[.int .u64 0, .int .i64 0, .int .u64 0, .int .u64 0, .int .u64 0]) 5 40 Tryz.underlying25 hiEn hz0En hz1En hz2En rfl (by decide) vv k (flat En.cells (m.J.take k)) (by simp [Act.eval]) (HOW.out _) ⟨wr.heap.size, 0, none⟩ 1 1 [.int .u64 (x.a : Int), .int .i64 x.k, .int .u64 (x.b : Int), .int .u64 (x.c : Int), .int .u64 (x.d : Int)] (by simp [Act.eval]) rfl (cells_newD _ _ _) (by simp [Value.oneCell']) (by unfold maxLen; omega) (by omega) (Nat.le_trans HSW.out (by simp)) ?_; intro v' w2 ho hg2; obtain ⟨g', cap', rfl⟩ := ownsRow_succ ho; have hnx := HNX.out _ _ _ ho hg2; have NX := hide hnx.1; obtain ⟨-, y1, y2, y3⟩ := hnx; clear ho hg2))
              all_goals clear xA xB hA hB hbw c0 c1 c2 c3 c4
              all_goals go_wp2
              all_goals go_roundw
              all_goals first
                | (case rel => exact ⟨k + 1, by omega, by go_num, NX.out⟩)
                | (case measure => simp [intOf]; omega)
                | skip
            · obtain rfl : k = m.jn := by omega
              have TG2 : Hid (Tg m w va va m.an (flat Ac.cells m.A) vh vh m.hn (flat Ho.cells m.H) vv vv m.jn (flat En.cells m.J) (.slice none 0 0) (.slice none 0 0) 0 [] (.slice none 0 0) (.slice none 0 0) 0 [] wr) := by
                have t := TG.out
                rw [List.take_of_length_le (by rw [HLJ.out]; omega)] at t
                exact t
              clear TG
              generalize vv = vj at *
              go_wp2
              clear xA hA
              go_loopw [7] (fun i wr => ∃ k : Nat, k ≤ m.dn ∧ i = .int .i64 k ∧ Hid (∃ vv, Tg m w va va m.an (flat Ac.cells m.A) vh vh m.hn (flat Ho.cells m.H) vj vj m.jn (flat En.cells m.J) vv vv k (flat De.cells (m.D.take k)) (.slice none 0 0) (.slice none 0 0) 0 [] wr)) (fun i _ => m.dn - (intOf i).toNat)
              case atStart => exact ⟨0, by omega, rfl, _, TG2.out⟩
              case round =>
                obtain ⟨k, hk, rfl, HS⟩ := hrel
                obtain ⟨vv, hvv⟩ := HS.out
                have TG := hide hvv
                clear HS TG2 hvv
                have xA := block_cell TG.out.ia 7
                simp at xA
                have hA := block_lt TG.out.ia
                by_cases hlk : k < m.dn
                · obtain ⟨x, hx⟩ : ∃ x, m.D[k]? = some x := ⟨_, List.getElem?_eq_getElem (by rw [HLD.out]; exact hlk)⟩
                  obtain ⟨b, off, hao, hbw, hc⟩ := (VW.out.below TG.out.bel).d.at_ (fun _ => rfl) hx
                  have c0 := hc 0 _ rfl
                  have c1 := hc 1 _ rfl
                  have c2 := hc 2 _ rfl
                  have c3 := hc 3 _ rfl
                  have c4 := hc 4 _ rfl
                  have c5 := hc 5 _ rfl
                  have c6 := hc 6 _ rfl
                  have c7 := hc 7 _ rfl
                  have c8 := hc 8 _ rfl
                  have c9 := hc 9 _ rfl
                  have c10 := hc 10 _ rfl
                  have c11 := hc 11 _ rfl
                  have c12 := hc 12 _ rfl
                  simp only [Nat.add_zero] at c0
                  rw [hao] at xA
                  have xB := block_cell TG.out.ib 7
                  simp at xB
                  have hB := block_lt TG.out.ib
                  have HOW : Hid (∀ ob, (wr.alloc ob).drew.ownsRow (w.heap.size + 3) 58 13 vv k (flat De.cells (m.D.take k))) := fun ob => (TG.out.quiet (below_ad wr ob)).rd
                  have HNX : Hid (∀ (v' : Value) (w2 : World) (ob : Obj), w2.ownsRow (w.heap.size + 3) 58 13 v' (k + 1) (flat De.cells (m.D.take k) ++ [.int .u64 (x.a : Int), .int .u64 (x.b : Int), .int .u64 (x.c : Int), .int .u64 (x.d : Int), .int .u64 (x.e : Int), .int .u64 (x.f : Int), .int .u64 (x.g : Int), .int .i64 x.ph, .int .u64 (x.p : Int), .int .u64 (x.q : Int), .int .u64 (x.r : Int), .int .u64 (x.z : Int), .string x.t]) → (wr.alloc ob).drew.grownBy w2 vv.ownBlock → (∃ vv, Tg m w va va m.an (flat Ac.cells m.A) vh vh m.hn (flat Ho.cells m.H) vj vj m.jn (flat En.cells m.J) vv vv (k + 1) (flat De.cells (m.D.take (k + 1))) (.slice none 0 0) (.slice none 0 0) 0 [] (w2.setCell ⟨w.heap.size + 2, 7, none⟩ v')) ∧ w2.cell? ⟨w.heap.size + 2, 7, none⟩ = some vv ∧ w2.frozen? ⟨w.heap.size + 2, 7, none⟩ = false ∧ w.heap.size + 2 < w2.heap.size) := fun v' w2 ob ho hg => by
                    have r := TG.out.step_d (below_ad wr ob) (c' := v') ho hg
                    have e : flat De.cells (m.D.take k) ++ [.int .u64 (x.a : Int), .int .u64 (x.b : Int), .int .u64 (x.c : Int), .int .u64 (x.d : Int), .int .u64 (x.e : Int), .int .u64 (x.f : Int), .int .u64 (x.g : Int), .int .i64 x.ph, .int .u64 (x.p : Int), .int .u64 (x.q : Int), .int .u64 (x.r : Int), .int .u64 (x.z : Int), .string x.t] = flat De.cells (m.D.take (k + 1)) := flat_take De.cells m.D k x hx
                    rw [e] at r
                    exact ⟨⟨v', r.1⟩, r.2⟩
                  have HSW : Hid (w.heap.size + 3 ≤ wr.heap.size) := hB
                  clear hc hx hao TG
                  go_wp2_with fail
                  go_region_law (first
                    | (refine step_append_ownK rfl (.tmp 119) (.tmp 126) 28 rfl (w.heap.size + 3) 58 iDe (.agg #[.int .u64 0, .int .u64 0, .int .u64 0, .int .u64 0, .int .u64 0, .int .u64 0, .int .u64 0, .int .i64 0, .int .u64 0, .int .u64 0, .int .u64 0, .int .u64 0, .string ⟨#[]⟩]) 13 112 Tryz.underlying28 hiDe hz0De hz1De hz2De rfl (by decide) vv k (flat De.cells (m.D.take k)) (by simp [Act.eval]) (HOW.out _) ⟨wr.heap.size, 0, none⟩ 1 1 [.int .u64 (x.a : Int), .int .u64 (x.b : Int), .int .u64 (x.c : Int), .int .u64 (x.d : Int), .int .u64 (x.e : Int), .int .u64 (x.f : Int), .int .u64 (x.g : Int), .int .i64 x.ph, .int .u64 (x.p : Int), .int .u64 (x.q : Int), .int .u64 (x.r : Int), .int .u64 (x.z : Int), .string x.t] (by simp [Act.eval]) rfl (cells_newD _ _ _) (by simp [Value.oneCell']) (by unfold maxLen; omega) (by omega) (Nat.le_trans HSW.out (by simp)) ?_; intro v' w2 ho hg2; obtain ⟨g', cap', rfl⟩ := ownsRow_succ ho; have hnx := HNX.out _ _ _ ho hg2; have NX := hide hnx.1; obtain ⟨-, y1, y2, y3⟩ := hnx; clear ho hg2))
                  all_goals clear xA xB hA hB hbw c0 c1 c2 c3 c4 c5 c6 c7 c8 c9 c10 c11 c12
                  all_goals go_wp2
                  all_goals go_roundw
                  all_goals first
                    | (case rel => exact ⟨k + 1, by omega, by go_num, NX.out⟩)
                    | (case measure => simp [intOf]; omega)
                    | skip
                · obtain rfl : k = m.dn := by omega
                  have TG3 : Hid (Tg m w va va m.an (flat Ac.cells m.A) vh vh m.hn (flat Ho.cells m.H) vj vj m.jn (flat En.cells m.J) vv vv m.dn (flat De.cells m.D) (.slice none 0 0) (.slice none 0 0) 0 [] wr) := by
                    have t := TG.out
                    rw [List.take_of_length_le (by rw [HLD.out]; omega)] at t
                    exact t
                  clear TG
                  generalize vv = vd at *
                  go_wp2
                  clear xA hA
                  have TD0 : Hid (Tds m (w.heap.size + 3) 0 [] wr) := ⟨rfl, fun j y hy => (by simp at hy), List.Pairwise.nil⟩
                  go_loopw [8] (fun i wr => ∃ k : Nat, k ≤ m.sn ∧ i = .int .i64 k ∧ Hid (∃ vv T, Tg m w va va m.an (flat Ac.cells m.A) vh vh m.hn (flat Ho.cells m.H) vj vj m.jn (flat En.cells m.J) vd vd m.dn (flat De.cells m.D) vv vv k (flat Sn.cells T) wr ∧ Tds m (w.heap.size + 3) k T wr)) (fun i _ => m.sn - (intOf i).toNat)
                  case atStart => exact ⟨0, by omega, rfl, _, [], TG3.out, TD0.out⟩
                  case round =>
                    obtain ⟨k, hk, rfl, HS⟩ := hrel
                    obtain ⟨vv, T, hvv, htd⟩ := HS.out
                    have TG := hide hvv
                    have TD := hide htd
                    clear HS TG3 TD0 hvv htd
                    have xA := block_cell TG.out.ia 9
                    simp at xA
                    have hA := block_lt TG.out.ia
                    by_cases hlk : k < m.sn
                    · obtain ⟨x, hx⟩ : ∃ x, m.S[k]? = some x := ⟨_, List.getElem?_eq_getElem (by rw [HLS.out]; exact hlk)⟩
                      obtain ⟨b, off, hao, hbw, hc⟩ := (VW.out.below TG.out.bel).s.row.at_ (fun _ => rfl) hx
                      have c0 := hc 0 _ rfl
                      have c1 := hc 1 _ rfl
                      have c2 := hc 2 _ rfl
                      have c3 := hc 3 _ rfl
                      have c4 := hc 4 _ rfl
                      simp only [Nat.add_zero] at c0
                      rw [hao] at xA
                      obtain ⟨V1, hV1⟩ : ∃ V1, wr.alloc (.cells #[.int .u64 (x.cl : Int), .int .u64 (x.sq : Int), .int .u64 (x.st : Int), .int .i64 x.cd, .slice x.co x.cn x.cc] 61) = V1 := ⟨_, rfl⟩
                      have s1 : V1.heap.size = wr.heap.size + 1 := by rw [← hV1]; simp
                      have b1 : Below wr.heap.size wr V1 := by rw [← hV1]; exact (Below.refl _ wr).alloc (Nat.le_refl _) _
                      have q1 : V1.heap[wr.heap.size]? = some (.cells #[.int .u64 (x.cl : Int), .int .u64 (x.sq : Int), .int .u64 (x.st : Int), .int .i64 x.cd, .slice x.co x.cn x.cc] 61 (0, 0)) := by rw [← hV1]; exact alloc_atN _ _
                      have TWC := hide (twin_sh (((VW.out.below TG.out.bel).s.own x (List.mem_of_getElem? hx)).grows b1) (Nat.le_refl _))
                      have HX := hide hx
                      have HV1 := hide hV1
                      have HB := hide (And.intro s1 b1)
                      have Q1 := hide q1
                      have hcn := HSU.out x (List.mem_of_getElem? hx)
                      clear hc hx hao hV1 s1 b1
                      go_upto_region 25 with fail
                      rw [HV1.out]
                      clear xA hA hbw c0 c1 c2 c3 c4 HV1
                      have d4 := block_cell q1 4
                      simp at d4
                      have hl1 := block_lt q1
                      clear q1
                      go_wp2_with fail
                      refine TWC.out.mono ?_
                      rintro e V2 ⟨rfl, T2, b2⟩
                      have q2 := (b2.block _ hl1).trans Q1.out
                      clear d4 hl1 TWC
                      have d4 := block_cell q2 4
                      simp at d4
                      have f4 := block_free q2 4
                      have hl2 := block_lt q2
                      obtain ⟨V3, hV3⟩ : ∃ V3, V2.setCell ⟨wr.heap.size, 4, none⟩ (.slice (some ⟨V1.heap.size, 0, none⟩) x.cn (x.cn + 72)) = V3 := ⟨_, rfl⟩
                      have HV3 := hide hV3
                      have Q2 := hide (And.intro q2 (And.intro T2 b2))
                      clear q2 T2 b2 hV3
                      go_upto_region 26 with fail
                      rw [HV3.out]
                      clear d4 f4 hl2
                      obtain ⟨s1, b1⟩ := HB.out
                      obtain ⟨q2, T2, b2⟩ := Q2.out
                      have q3 : V3.heap[wr.heap.size]? = some (.cells #[.int .u64 (x.cl : Int), .int .u64 (x.sq : Int), .int .u64 (x.st : Int), .int .i64 x.cd, .slice (some ⟨V1.heap.size, 0, none⟩) x.cn (x.cn + 72)] 61 (0, 0)) := by
                        rw [← HV3.out, heap_setCell_same V2 wr.heap.size 4 _ _ _ q2]
                        rfl
                      have B3 : Below wr.heap.size wr V3 := by
                        rw [← HV3.out]
                        exact (b1.trans (b2.mono b1.size)).setCell (p := ⟨wr.heap.size, 4, none⟩) (Nat.le_refl _) _
                      have TG3 := hide (TG.out.quiet B3)
                      have TD3 := hide (TD.out.quiet B3)
                      have T3 : Hid (Tw V3 V1.heap.size x.cn x.D) := by rw [← HV3.out]; exact T2.set (by omega)
                      have hV1w := TG.out.bel.size
                      have hw3 : w.heap.size + 2 < wr.heap.size := block_lt TG.out.ib
                      have hV13 : V1.heap.size < V3.heap.size := owned_lt2 T3.out.2
                      have HNX : Hid (∀ (v' : Value) (w2 : World) (ob : Obj), w2.ownsRow (w.heap.size + 3) 61 5 v' (k + 1) (flat Sn.cells T ++ [.int .u64 (x.cl : Int), .int .u64 (x.sq : Int), .int .u64 (x.st : Int), .int .i64 x.cd, .slice (some ⟨V1.heap.size, 0, none⟩) x.cn (x.cn + 72)]) → (V3.alloc ob).grownBy w2 vv.ownBlock → (∃ vv T, Tg m w va va m.an (flat Ac.cells m.A) vh vh m.hn (flat Ho.cells m.H) vj vj m.jn (flat En.cells m.J) vd vd m.dn (flat De.cells m.D) vv vv (k + 1) (flat Sn.cells T) (w2.setCell ⟨w.heap.size + 2, 9, none⟩ v') ∧ Tds m (w.heap.size + 3) (k + 1) T (w2.setCell ⟨w.heap.size + 2, 9, none⟩ v')) ∧ w2.cell? ⟨w.heap.size + 2, 9, none⟩ = some vv ∧ w2.frozen? ⟨w.heap.size + 2, 9, none⟩ = false ∧ w.heap.size + 2 < w2.heap.size) := fun v' w2 ob ho hg => by
                        have ba : Below V3.heap.size V3 (V3.alloc ob) := (Below.refl _ V3).alloc (Nat.le_refl _) ob
                        have r := TG3.out.step_s ba (c' := v') ho hg
                        rw [Tds.cells] at r
                        have hr := (hr_of (TG3.out.quiet ba).rs).block
                        have t1 := ((TD3.out.quiet ba).other hg hr (by decide)).set (b := w.heap.size + 2) (i := 9) (u := v') (by omega)
                        have t2 := ((T3.out.other (below_none ba) (.inl rfl) (t := 0) (by decide)).other hg hr (by decide)).set (k := w.heap.size + 2) (i := 9) (u := v') (by omega)
                        have z1 := ba.size
                        have z2 := hg.size
                        have z3 := (grown_set w2 (w.heap.size + 2) 9 v').size
                        exact ⟨⟨v', _, r.1, Tds.snoc TD.out t1 HX.out t2 (by omega) (by omega) (by omega)⟩, r.2⟩
                      have HOW : Hid (∀ ob, (V3.alloc ob).ownsRow (w.heap.size + 3) 61 5 vv k (flat Sn.cells T)) := fun ob => (TG3.out.quiet ((Below.refl _ V3).alloc (Nat.le_refl _) ob)).rs
                      have xB := block_cell TG3.out.ib 9
                      simp at xB
                      have hB := block_lt TG3.out.ib
                      have e0 := block_cell q3 0
                      have e1 := block_cell q3 1
                      have e2 := block_cell q3 2
                      have e3 := block_cell q3 3
                      have e4 := block_cell q3 4
                      simp at e0 e1 e2 e3 e4
                      have hl3 := block_lt q3
                      clear s1 b1 q2 T2 b2 q3 B3 HB Q2 HX TG TD TG3 TD3 T3 hV13 hV1w
                      go_wp2_with (first
                        | (at_builtin; refine wpList_append_own _ rfl (.tmp 147) (.tmp 149) 31 rfl (w.heap.size + 3) 61 iSn (.agg #[.int .u64 0, .int .u64 0, .int .u64 0, .int .i64 0, .slice none 0 0]) 5 56 Tryz.underlying31 hiSn hz0Sn hz1Sn hz2Sn rfl (by decide) vv k (flat Sn.cells T) rfl (HOW.out _) ⟨V3.heap.size, 0, none⟩ 1 1 [.int .u64 (x.cl : Int), .int .u64 (x.sq : Int), .int .u64 (x.st : Int), .int .i64 x.cd, .slice (some ⟨V1.heap.size, 0, none⟩) x.cn (x.cn + 72)] rfl rfl (cells_newN _ _ _) (by simp [Value.oneCell']) (by unfold maxLen; omega) (by omega) (by simp; omega) ?_; intro v' w2 ho hg _; obtain ⟨g', cap', rfl⟩ := ownsRow_succ ho; have hnx := HNX.out _ _ _ ho hg; have NX := hide hnx.1; obtain ⟨-, y1, y2, y3⟩ := hnx; clear ho hg xB hB e0 e1 e2 e3 e4 hl3))
                      go_roundw
                      case rel => exact ⟨k + 1, by omega, by go_num, NX.out⟩
                      case measure => simp [intOf]; omega
                    · obtain rfl : k = m.sn := by omega
                      generalize vv = vs at *
                      have TGM := hide (And.intro TG.out TD.out)
                      clear TG TD
                      generalize wr = W0 at *
                      go_upto_region 27 with fail
                      clear xA hA
                      go_cut [] from 10 to 167 (fun wx => Hid (∃ ga ka : Nat, Tg m w (.slice (some ⟨ga, 0, none⟩) m.an ka) (.slice (some ⟨ga, 0, none⟩) (m.an + 1) ka) (m.an + 1) ((flat Ac.cells m.A) ++ [.int .u64 81, .int .u64 0, .int .u64 0, .int .u64 0]) vh vh m.hn (flat Ho.cells m.H) vj vj m.jn (flat En.cells m.J) vd vd m.dn (flat De.cells m.D) vs vs m.sn (flat Sn.cells T) wx ∧ Tds m (w.heap.size + 3) m.sn T wx))
                      case first =>
                        refine mark_a (by omega) TGM.out ?_
                        intro s152 s153 s154 s155 s156 s157 s158 s159 s160 s161 s162 s163 s164 s165 s166 s167 W' h'
                        dsimp only
                        go_wp2_with fail
                        go_meet
                        exact h'
                      case rest =>
                      obtain ⟨ga, ka, hT⟩ := hcut.out
                      clear hcut TGM
                      have TGM := hide hT
                      clear hT
                      generalize wc = Wa at *
                      go_upto_region 28 with fail
                      go_cut [] from 10 to 183 (fun wx => Hid (∃ gh kh : Nat, Tg m w (.slice (some ⟨ga, 0, none⟩) m.an ka) (.slice (some ⟨ga, 0, none⟩) (m.an + 1) ka) (m.an + 1) ((flat Ac.cells m.A) ++ [.int .u64 81, .int .u64 0, .int .u64 0, .int .u64 0]) (.slice (some ⟨gh, 0, none⟩) m.hn kh) (.slice (some ⟨gh, 0, none⟩) (m.hn + 1) kh) (m.hn + 1) ((flat Ho.cells m.H) ++ [.int .u64 82, .int .u64 0, .int .u64 0]) vj vj m.jn (flat En.cells m.J) vd vd m.dn (flat De.cells m.D) vs vs m.sn (flat Sn.cells T) wx ∧ Tds m (w.heap.size + 3) m.sn T wx))
                      case first =>
                        refine mark_h (by omega) TGM.out ?_
                        intro s168 s169 s170 s171 s172 s173 s174 s175 s176 s177 s178 s179 s180 s181 s182 s183 W' h'
                        dsimp only
                        go_wp2_with fail
                        go_meet
                        exact h'
                      case rest =>
                      obtain ⟨gh, kh, hT⟩ := hcut.out
                      clear hcut TGM
                      have TGM := hide hT
                      clear hT
                      generalize wc = Wh at *
                      go_upto_region 29 with fail
                      go_cut [] from 10 to 199 (fun wx => Hid (∃ gj kj : Nat, Tg m w (.slice (some ⟨ga, 0, none⟩) m.an ka) (.slice (some ⟨ga, 0, none⟩) (m.an + 1) ka) (m.an + 1) ((flat Ac.cells m.A) ++ [.int .u64 81, .int .u64 0, .int .u64 0, .int .u64 0]) (.slice (some ⟨gh, 0, none⟩) m.hn kh) (.slice (some ⟨gh, 0, none⟩) (m.hn + 1) kh) (m.hn + 1) ((flat Ho.cells m.H) ++ [.int .u64 82, .int .u64 0, .int .u64 0]) (.slice (some ⟨gj, 0, none⟩) m.jn kj) (.slice (some ⟨gj, 0, none⟩) (m.jn + 1) kj) (m.jn + 1) ((flat En.cells m.J) ++ [.int .u64 83, .int .i64 0, .int .u64 0, .int .u64 0, .int .u64 0]) vd vd m.dn (flat De.cells m.D) vs vs m.sn (flat Sn.cells T) wx ∧ Tds m (w.heap.size + 3) m.sn T wx))
                      case first =>
                        refine mark_j (by omega) TGM.out ?_
                        intro s184 s185 s186 s187 s188 s189 s190 s191 s192 s193 s194 s195 s196 s197 s198 s199 W' h'
                        dsimp only
                        go_wp2_with fail
                        go_meet
                        exact h'
                      case rest =>
                      obtain ⟨gj, kj, hT⟩ := hcut.out
                      clear hcut TGM
                      have TGM := hide hT
                      clear hT
                      generalize wc = Wj at *
                      go_upto_region 30 with fail
                      go_cut [] from 10 to 212 (fun wx => Hid (∃ gd kd : Nat, Tg m w (.slice (some ⟨ga, 0, none⟩) m.an ka) (.slice (some ⟨ga, 0, none⟩) (m.an + 1) ka) (m.an + 1) ((flat Ac.cells m.A) ++ [.int .u64 81, .int .u64 0, .int .u64 0, .int .u64 0]) (.slice (some ⟨gh, 0, none⟩) m.hn kh) (.slice (some ⟨gh, 0, none⟩) (m.hn + 1) kh) (m.hn + 1) ((flat Ho.cells m.H) ++ [.int .u64 82, .int .u64 0, .int .u64 0]) (.slice (some ⟨gj, 0, none⟩) m.jn kj) (.slice (some ⟨gj, 0, none⟩) (m.jn + 1) kj) (m.jn + 1) ((flat En.cells m.J) ++ [.int .u64 83, .int .i64 0, .int .u64 0, .int .u64 0, .int .u64 0]) (.slice (some ⟨gd, 0, none⟩) m.dn kd) (.slice (some ⟨gd, 0, none⟩) (m.dn + 1) kd) (m.dn + 1) ((flat De.cells m.D) ++ [.int .u64 84, .int .u64 0, .int .u64 0, .int .u64 0, .int .u64 0, .int .u64 0, .int .u64 0, .int .i64 0, .int .u64 0, .int .u64 0, .int .u64 0, .int .u64 0, .string ⟨#[]⟩]) vs vs m.sn (flat Sn.cells T) wx ∧ Tds m (w.heap.size + 3) m.sn T wx))
                      case first =>
                        refine mark_d (by omega) TGM.out ?_
                        intro s200 s201 s202 s203 s204 s205 s206 s207 s208 s209 s210 s211 s212 W' h'
                        dsimp only
                        go_wp2_with fail
                        go_meet
                        exact h'
                      case rest =>
                      obtain ⟨gd, kd, hT⟩ := hcut.out
                      clear hcut TGM
                      have TGM := hide hT
                      clear hT
                      generalize wc = Wd at *
                      go_upto_region 31 with fail
                      go_cut [] from 10 to 222 (fun wx => Hid (∃ gs ks : Nat, Tg m w (.slice (some ⟨ga, 0, none⟩) m.an ka) (.slice (some ⟨ga, 0, none⟩) (m.an + 1) ka) (m.an + 1) ((flat Ac.cells m.A) ++ [.int .u64 81, .int .u64 0, .int .u64 0, .int .u64 0]) (.slice (some ⟨gh, 0, none⟩) m.hn kh) (.slice (some ⟨gh, 0, none⟩) (m.hn + 1) kh) (m.hn + 1) ((flat Ho.cells m.H) ++ [.int .u64 82, .int .u64 0, .int .u64 0]) (.slice (some ⟨gj, 0, none⟩) m.jn kj) (.slice (some ⟨gj, 0, none⟩) (m.jn + 1) kj) (m.jn + 1) ((flat En.cells m.J) ++ [.int .u64 83, .int .i64 0, .int .u64 0, .int .u64 0, .int .u64 0]) (.slice (some ⟨gd, 0, none⟩) m.dn kd) (.slice (some ⟨gd, 0, none⟩) (m.dn + 1) kd) (m.dn + 1) ((flat De.cells m.D) ++ [.int .u64 84, .int .u64 0, .int .u64 0, .int .u64 0, .int .u64 0, .int .u64 0, .int .u64 0, .int .i64 0, .int .u64 0, .int .u64 0, .int .u64 0, .int .u64 0, .string ⟨#[]⟩]) (.slice (some ⟨gs, 0, none⟩) m.sn ks) (.slice (some ⟨gs, 0, none⟩) (m.sn + 1) ks) (m.sn + 1) ((flat Sn.cells T) ++ [.int .u64 85, .int .u64 0, .int .u64 0, .int .i64 0, .slice none 0 0]) wx ∧ Tds m (w.heap.size + 3) m.sn T wx))
                      case first =>
                        refine mark_s (by omega) TGM.out ?_
                        intro s213 s214 s215 s216 s217 s218 s219 s220 s221 s222 W' h'
                        dsimp only
                        go_wp2_with fail
                        go_meet
                        exact h'
                      case rest =>
                      obtain ⟨gs, ks, hT⟩ := hcut.out
                      clear hcut TGM
                      have TGM := hide hT
                      clear hT
                      generalize wc = Ws at *
                      have q := TGM.out.1.ib
                      have x0 := block_cell q 0
                      have x1 := block_cell q 1
                      have x2 := block_cell q 2
                      have x3 := block_cell q 3
                      have x4 := block_cell q 4
                      have x5 := block_cell q 5
                      have x6 := block_cell q 6
                      have x7 := block_cell q 7
                      have x8 := block_cell q 8
                      have x9 := block_cell q 9
                      simp at x0 x1 x2 x3 x4 x5 x6 x7 x8 x9
                      have hlx := block_lt q
                      clear q
                      have q := TGM.out.1.ir
                      have z0 := block_cell q 0
                      have f0 := block_free q 0
                      have z1 := block_cell q 1
                      have f1 := block_free q 1
                      have z2 := block_cell q 2
                      have f2 := block_free q 2
                      have z3 := block_cell q 3
                      have f3 := block_free q 3
                      have z4 := block_cell q 4
                      have f4 := block_free q 4
                      have z5 := block_cell q 5
                      have f5 := block_free q 5
                      have z6 := block_cell q 6
                      have f6 := block_free q 6
                      have z7 := block_cell q 7
                      have f7 := block_free q 7
                      have z8 := block_cell q 8
                      have f8 := block_free q 8
                      have z9 := block_cell q 9
                      have f9 := block_free q 9
                      simp at z0 z1 z2 z3 z4 z5 z6 z7 z8 z9
                      have hlz := block_lt q
                      clear q
                      have FIN : Hid (∀ x0 x1 x2 x3 x4 x5 x6 x7 x8 x9 : Value, _) := fun x0 x1 x2 x3 x4 x5 x6 x7 x8 x9 => tw_fin HLA.out HLH.out HLJ.out HLD.out HLS.out (fun x hx => by
                        have q := VW.out.s.own x hx
                        exact ⟨q.1, q.2.2.1, q.2.2.2.1⟩) TGM.out.1 TGM.out.2 x0 x1 x2 x3 x4 x5 x6 x7 x8 x9
                      clear TGM
                      go_wp2
                      refine bodyPost_ret (v := .agg #[.int .u64 (m.slot : Int), .int .u64 (m.now : Int), .int .u64 (m.tot : Int), .int .u64 (m.nx : Int), .slice (some ⟨ga, 0, none⟩) m.an ka, .slice (some ⟨gh, 0, none⟩) m.hn kh, .slice (some ⟨gj, 0, none⟩) m.jn kj, .slice (some ⟨gd, 0, none⟩) m.dn kd, .int .u64 (m.ends : Int), .slice (some ⟨gs, 0, none⟩) m.sn ks]) (by simp [results, Tryz.results6, go_sem, z0, z1, z2, z3, z4, z5, z6, z7, z8, z9]) rfl ?_
                      exact ⟨_, rfl, FIN.out _ _ _ _ _ _ _ _ _ _⟩
end Go.Proofs.YtiijbboigebhcaaGreatDoor
