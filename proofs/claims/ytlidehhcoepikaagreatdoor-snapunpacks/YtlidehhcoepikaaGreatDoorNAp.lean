import Derived.Test.YtlidehhcoepikaaGreatDoorM39
import Derived.Test.YtlidehhcoepikaaGreatDoorNSndS
namespace Go.Proofs.YtlidehhcoepikaaGreatDoor
open Go.RowKit Crc

theorem infoSlB : (Tryz.prog.info? 36).map (fun i => (i.zero, i.size, i.bytes)) = some (some (.slice none 0 0), 1, 24) := by kernel_rfl
theorem rep_get {n c i : Nat} (h : i < n) : (rep n c)[i]? = some (.int .u8 (c : Int)) := by
  unfold rep
  rw [List.getElem?_replicate, if_pos h]
theorem rep_all {n c : Nat} {xs : List Value} (hl : xs.length = n) (h : ∀ j, j < n → xs[j]? = some (.int .u8 (c : Int))) : xs = rep n c := by
  refine List.ext_getElem? (fun i => ?_)
  by_cases hi : i < n
  · rw [h i hi, rep_get hi]
  · rw [List.getElem?_eq_none (by omega), List.getElem?_eq_none (by unfold rep; simp; omega)]
set_option maxRecDepth 10000 in
set_option maxHeartbeats 6400000 in
theorem apart_any {m : Mi} {lo hi : Nat} {w : World} (h : m.Own lo w) (hbd : Bd m lo hi) (hwh : Wh m lo hi) (hlo : lo ≤ hi) (hhi : hi ≤ w.heap.size) (hsm : m.small) (hsn : m.sn ≤ 16) : Calls Tryz.prog 17 #[.agg #[.int .u64 (m.slot : Int), .int .u64 (m.now : Int), .int .u64 (m.tot : Int), .int .u64 (m.nx : Int), .slice m.ao m.an m.ac, .slice m.ho m.hn m.hc, .slice m.jo m.jn m.jc, .slice m.dO m.dn m.dc, .int .u64 (m.ends : Int), .slice m.so m.sn m.sc]] w fun e w' => e = .returned (.bool true) ∧ Hid (OutR lo hi w w') := by
  obtain ⟨i5, hi5, hz05, hz15, hz25⟩ := info_parts Tryz.info5
  obtain ⟨iB, hiB, hz0B, hz1B, hz2B⟩ := info_parts infoSlB
  obtain ⟨iSn, hiSn, hz0Sn, hz1Sn, hz2Sn⟩ := info_parts infoSn
  obtain ⟨iAc, hiAc, hz0Ac, hz1Ac, hz2Ac⟩ := info_parts infoAc
  obtain ⟨iHo, hiHo, hz0Ho, hz1Ho, hz2Ho⟩ := info_parts infoHo
  obtain ⟨iDe, hiDe, hz0De, hz1De, hz2De⟩ := info_parts infoDe
  obtain ⟨iEn, hiEn, hz0En, hz1En, hz2En⟩ := info_parts infoEn
  have hlS := h.s.row.num'
  have hlA := h.bk.a.num'
  have hlH := h.bk.h.num'
  have hlD := h.d.num'
  have hlJ := h.bk.j.num'
  obtain ⟨W0, hW0⟩ : ∃ W0, w.alloc (.cells #[.int .u64 (m.slot : Int), .int .u64 (m.now : Int), .int .u64 (m.tot : Int), .int .u64 (m.nx : Int), .slice m.ao m.an m.ac, .slice m.ho m.hn m.hc, .slice m.jo m.jn m.jc, .slice m.dO m.dn m.dc, .int .u64 (m.ends : Int), .slice m.so m.sn m.sc] 33) = W0 := ⟨_, rfl⟩
  have g0 : w.grownBy W0 none := by rw [← hW0]; exact World.grownBy_alloc _ _ _
  have PH0 : Hid (Ph m lo hi w 0 (.slice none 0 0) [] W0) := by
    have h' := h.past g0 (fun g e => by cases e)
    refine ⟨(OutR.refl lo hi w).quiet g0, by rw [← hW0]; exact alloc_atN _ _, ?_, World.ownsRow_nil _ _ _ _, fun j x y hj => (by omega), fun j x hj hx => h'.s.own x (List.mem_of_getElem? hx), ⟨⟨_, by have q := h'.bk.a; unfold Rw at q; rw [hlA] at q; exact q, fun i hi => ?_⟩, ⟨_, by have q := h'.bk.h; unfold Rw at q; rw [hlH] at q; exact q, fun i hi => ?_⟩, ⟨_, by have q := h'.d; unfold Rw at q; rw [hlD] at q; exact q, fun i hi => ?_⟩, ⟨_, by have q := h'.bk.j; unfold Rw at q; rw [hlJ] at q; exact q⟩⟩⟩
    · have q := h'.s.row
      unfold Rw at q
      rw [hlS] at q
      exact q
    · have hx : m.A[i]? = some (m.A[i]'(by omega)) := List.getElem?_eq_getElem _
      exact ⟨_, flat_get len_Ac m.A i _ hx 2 _ rfl⟩
    · have hx : m.H[i]? = some (m.H[i]'(by omega)) := List.getElem?_eq_getElem _
      exact ⟨_, flat_get len_Ho m.H i _ hx 2 _ rfl⟩
    · have hx : m.D[i]? = some (m.D[i]'(by omega)) := List.getElem?_eq_getElem _
      exact ⟨_, flat_get len_De m.D i _ hx 4 _ rfl⟩
  have HB := hide hbd
  have HWH := hide hwh
  have HLS := hide hlS
  have HW0 := hide hW0
  have hs1 := hsm.1
  have hs2 := hsm.2.1
  have hs3 := hsm.2.2.1
  have hs4 := hsm.2.2.2.1
  have BOX : Hid (∀ {mv : Value} {ys : List Value} {W : World}, W.heap[w.heap.size]? = some (.cells m.cells 33 (0, 0)) → W.cell? ⟨w.heap.size, 4, none⟩ = some (.slice m.ao m.an m.ac) ∧ W.cell? ⟨w.heap.size, 5, none⟩ = some (.slice m.ho m.hn m.hc) ∧ W.cell? ⟨w.heap.size, 6, none⟩ = some (.slice m.jo m.jn m.jc) ∧ W.cell? ⟨w.heap.size, 7, none⟩ = some (.slice m.dO m.dn m.dc) ∧ W.cell? ⟨w.heap.size, 9, none⟩ = some (.slice m.so m.sn m.sc) ∧ w.heap.size < W.heap.size) := fun {mv ys W} q => ⟨block_cell q 4, block_cell q 5, block_cell q 6, block_cell q 7, block_cell q 9, block_lt q⟩
  clear h hbd hwh hlS hlA hlH hlD hlJ hsm g0 hW0
  go_enter Tryz.func17, Tryz.ntmps17
  go_wp2
  rw [HW0.out]
  go_loopw [3, 4] (fun v i wr => ∃ k : Nat, k ≤ m.sn ∧ i = .int .i64 k ∧ Hid (∃ ys, Ph m lo hi w k v ys wr)) (fun _ i _ => m.sn - (intOf i).toNat)
  case atStart => exact ⟨0, by omega, rfl, [], PH0.out⟩
  case round =>
    obtain ⟨k, hk, rfl, HS⟩ := hrel
    obtain ⟨ys, hph⟩ := HS.out
    have HP := hide hph
    clear HS hph PH0
    obtain ⟨-, -, -, -, y9, hyl⟩ := BOX.out (mv := u3) (ys := ys) HP.out.box
    by_cases hlt : k < m.sn
    · obtain ⟨x, hx⟩ : ∃ x, m.S[k]? = some x := ⟨_, List.getElem?_eq_getElem (by rw [HLS.out]; exact hlt)⟩
      have hrw : Rw lo wr 61 5 Sn.cells (.slice m.so m.sn m.sc) m.S := by
        unfold Rw
        rw [HLS.out]
        exact HP.out.ses
      obtain ⟨g, hg, hgl, -, -, hc⟩ := hrw.at_ len_Sn hx
      have c4 := hc 4 _ rfl
      rw [hg] at y9
      have OW := hide (HP.out.todo k x (Nat.le_refl _) hx)
      have hcn := HB.out.cn x (List.mem_of_getElem? hx)
      have hsx := HB.out.small x (List.mem_of_getElem? hx)
      have HNX : Hid (∀ (W1 W2 W3 : World) (o1 o2 : Obj) (y mv' : Value), wr.grownBy W1 x.sl.ownBlock → W1.ownsRow lo 5 1 x.sl x.cn (rep x.cn (100 + k)) → W2.ownsRow lo 5 1 y (x.cn + 1) (rep x.cn (100 + k) ++ rep 1 (200 + k)) → Ext (W1.alloc o1) W2 x.sl y → (y.ownBlock = x.sl.ownBlock ∨ (W1.alloc o1).grownBy W2 none) → W3.ownsRow (w.heap.size + 1) 36 1 mv' (k + 1) (ys ++ [y]) → (W2.alloc o2).grownBy W3 u3.ownBlock → Ph m lo hi w (k + 1) mv' (ys ++ [y]) W3) := fun W1 W2 W3 o1 o2 y mv' a1 a2 a3 a4 a5 a6 a7 => HP.out.next HB.out hhi hx a1 a2 a3 a4 a5 a6 a7
      have MOR : Hid (∀ (W1 W2 : World) (o1 : Obj) (y : Value), wr.grownBy W1 x.sl.ownBlock → W1.ownsRow lo 5 1 x.sl x.cn (rep x.cn (100 + k)) → Ext (W1.alloc o1) W2 x.sl y → W2.ownsRow (w.heap.size + 1) 36 1 u3 k ys ∧ w.heap.size < W2.heap.size) := fun W1 W2 o1 y a1 a2 a4 => by
        have r1 := (hr_of OW.out.1).block
        have gA := World.grownBy_alloc W1 o1 none
        have r2 := ((hr_of a2).quiet gA).block
        exact ⟨own_other (own_other (own_other HP.out.mor a1 r1 (by decide)) gA (.inl rfl) (t := 5) (by decide)) a4.1 r2 (by decide), by have := a1.size; have := gA.size; have := a4.1.size; omega⟩
      have IN0 : Hid (wr.ownsRow lo 5 1 (.slice x.co x.cn x.cc) x.cn (vals x.D)) := by
        have q := OW.out.1
        rw [← hcn] at q
        exact q
      have INT : Hid (∀ j, j < x.cn → ∃ c : Int, (vals x.D)[j]? = some (.int .u8 c)) := fun j hj => vals_int x.D j (by omega)
      clear hrw hc hx hg OW hcn
      obtain ⟨cl, sq, st, cd, co, cn, cc, D⟩ := x
      dsimp only [Sn.sl] at *
      generalize wr = wo at *
      go_wp2
      go_loopw [6] (fun i wr => ∃ q : Nat, q ≤ cn ∧ i = .int .i64 q ∧ Hid (∃ xs : List Value, wr.ownsRow lo 5 1 (.slice co cn cc) cn xs ∧ (∀ j, j < q → xs[j]? = some (.int .u8 ((100 + k : Nat) : Int))) ∧ (∀ j, j < cn → ∃ c : Int, xs[j]? = some (.int .u8 c)) ∧ wo.grownBy wr (Value.slice co cn cc).ownBlock)) (fun i _ => cn - (intOf i).toNat)
      case atStart => exact ⟨0, by omega, rfl, _, IN0.out, fun j hj => (by omega), INT.out, ⟨rfl, rfl, rfl, Nat.le_refl _, fun _ _ _ => rfl⟩⟩
      case round =>
        clear IN0 INT y9 c4
        obtain ⟨q, hq, rfl, HS⟩ := hrel
        obtain ⟨xs, hown, hfill, hint, hgr⟩ := HS.out
        have HI := hide (And.intro hown (And.intro hfill (And.intro hint hgr)))
        by_cases hqlt : q < cn
        · obtain ⟨gg, hgg⟩ : ∃ gg, co = some ⟨gg, 0, none⟩ := by
            rcases hown.2 with ⟨-, h0⟩ | ⟨g', cap, cur, he, _⟩
            · omega
            · cases he; exact ⟨g', rfl⟩
          subst hgg
          obtain ⟨c, hc⟩ := hint q hqlt
          have hck : wr.cell? ⟨gg, q, none⟩ = some (.int .u8 c) := (hown.cellAt q (by omega)).trans hc
          have hfz := hown.frozenAt q
          clear hown hfill hint hgr HS hc
          go_wp2
          go_roundw
          case rel =>
            obtain ⟨hown, hfill, hint, hgr⟩ := HI.out
            have hly : xs.length = cn := by have := hown.1; omega
            refine ⟨q + 1, by omega, by go_num, xs.set q _, (hown.stored _ _).1, fun j hj => ?_, fun j hj => ?_, grown_trans hgr (hown.stored _ _).2⟩
            · rw [List.getElem?_set]
              split
              · rw [if_pos (by omega)]; simp
              · exact hfill j (by omega)
            · rw [List.getElem?_set]
              split
              · rw [if_pos (by omega)]; exact ⟨_, rfl⟩
              · exact hint j hj
          case measure => simp [intOf]; omega
        · obtain rfl : cn = q := by omega
          have hly : xs.length = cn := by have := hown.1; omega
          have hxs : xs = rep cn (100 + k) := rep_all hly hfill
          rw [hxs] at hown
          have A1 := hide hgr
          have A2 := hide hown
          clear hfill hint hgr hown hxs HI HS hly
          have HOW : Hid (∀ o, (wr.alloc o).ownsRow lo 5 1 (.slice co cn cc) cn (rep cn (100 + k))) := fun o => A2.out.kept (World.grownBy_alloc _ _ none) (by cases (Value.slice co cn cc).ownBlock <;> simp)
          have hlo2 : lo ≤ wr.heap.size := by have := A1.out.size; omega
          go_wp2_with (first
            | (at_builtin; refine wpList_append_moved _ rfl (.tmp 44) (.tmp 48) 36 rfl lo 5 i5 (.int .u8 0) 1 1 Tryz.underlying36 hi5 hz05 hz15 hz25 rfl (by decide) (.slice co cn cc) cn (rep cn (100 + k)) rfl (HOW.out _) ⟨wr.heap.size, 0, none⟩ 1 1 [.int .u8 ((200 + k : Nat) : Int)] rfl rfl (cells_newN _ _ _) (by simp [Value.oneCell']) (by omega) (by unfold maxLen; omega) (by omega) (by simp; omega) ?_; intro y W2 ho he hm; obtain ⟨yo, yc, rfl⟩ := (hr_of ho).form; have MO := hide (MOR.out _ _ _ _ A1.out A2.out he); have NX := hide (fun W3 o2 mv' => HNX.out _ _ W3 _ o2 _ mv' A1.out A2.out ho he hm); clear ho he hm)
            | (at_builtin; refine wpList_append_own _ rfl (.tmp 43) (.tmp 50) 109 rfl (w.heap.size + 1) 36 iB (.slice none 0 0) 1 24 Tryz.underlying109 hiB hz0B hz1B hz2B rfl (by decide) u3 k ys rfl (MO.out.1.kept (World.grownBy_alloc _ _ none) (by cases u3.ownBlock <;> simp)) ⟨W2.heap.size, 0, none⟩ 1 1 [.slice yo (cn + 1) yc] rfl rfl (cells_newN _ _ _) (by simp [Value.oneCell']) (by unfold maxLen; omega) (by omega) (by have := MO.out.2; simp; omega) ?_; intro v' W3 ho hg _; obtain ⟨g', cap', rfl⟩ := ownsRow_succN ho; have FIN := hide (NX.out _ _ _ ho hg); clear ho hg NX MO))
          go_roundw
          case rel => exact ⟨k + 1, by omega, by go_num, _, FIN.out⟩
          case measure => simp [intOf]; omega
    · obtain rfl : m.sn = k := by omega
      have AL0 := hide (HP.out.al HLS.out)
      have FL0 := hide HP.out.flt
      have SE0 := hide HP.out.ses
      clear HP
      have hlow : lo ≤ wr.heap.size := by omega
      go_wp2_with (first
        | (at_builtin; refine wpList_append_moved _ rfl (.tmp 53) (.tmp 55) 31 rfl lo 61 iSn (.agg #[.int .u64 0, .int .u64 0, .int .u64 0, .int .i64 0, .slice none 0 0]) 5 56 Tryz.underlying31 hiSn hz0Sn hz1Sn hz2Sn rfl (by decide) (.slice m.so m.sn m.sc) m.sn (flat Sn.cells m.S) rfl (SE0.out.kept (World.grownBy_alloc _ _ none) (by cases (Value.slice m.so m.sn m.sc).ownBlock <;> simp)) ⟨wr.heap.size, 0, none⟩ 1 1 [.int .u64 1, .int .u64 0, .int .u64 0, .int .i64 0, .slice none 0 0] rfl rfl (cells_newN _ _ _) (by simp [Value.oneCell']) (by omega) (by unfold maxLen; omega) (by omega) (by simp; omega) ?_; intro zv Zs ho he hm; obtain ⟨xso, xsc, rfl⟩ := (hr_of ho).form; have STARTa : Hid ((fun W => (Al m lo hi w u3 ys W) ∧ (Hr W 61 5 (.slice xso (m.sn + 1) xsc) (m.sn + 1) (flat Sn.cells m.S ++ [.int .u64 1, .int .u64 0, .int .u64 0, .int .i64 0, .slice none 0 0])) ∧ (RowX lo W 65 3 (.slice m.ho m.hn m.hc) m.hn 2) ∧ (RowX lo W 58 13 (.slice m.dO m.dn m.dc) m.dn 4) ∧ (∃ xs, W.ownsRow lo 67 5 (.slice m.jo m.jn m.jc) m.jn xs)) Zs ∧ RowX lo Zs 63 4 (.slice m.ao m.an m.ac) m.an 2) := (by have ga := World.grownBy_alloc wr (.cells #[.int .u64 1, .int .u64 0, .int .u64 0, .int .i64 0, .slice none 0 0] 61) none; have rr := (hr_of (SE0.out.kept ga (by cases (Value.slice m.so m.sn m.sc).ownBlock <;> simp))).block; have fl := (FL0.out.other ga (.inl rfl) (t := 5) (by decide) (by decide) (by decide) (by decide)).other he.1 rr (by decide) (by decide) (by decide) (by decide); exact ⟨⟨(AL0.out.quiet ga).ses' ho he.1 hm HWH.out.s, hr_of ho, fl.h, fl.d, fl.j⟩, fl.a⟩); clear ho he hm))
      clear y9 hyl hlow AL0 FL0 SE0
      have STa : Hid (St lo hi w 63 (fun W => (Al m lo hi w u3 ys W) ∧ (Hr W 61 5 (.slice xso (m.sn + 1) xsc) (m.sn + 1) (flat Sn.cells m.S ++ [.int .u64 1, .int .u64 0, .int .u64 0, .int .i64 0, .slice none 0 0])) ∧ (RowX lo W 65 3 (.slice m.ho m.hn m.hc) m.hn 2) ∧ (RowX lo W 58 13 (.slice m.dO m.dn m.dc) m.dn 4) ∧ (∃ xs, W.ownsRow lo 67 5 (.slice m.jo m.jn m.jc) m.jn xs))) := (St.and (st_al (by decide) (by decide) (by decide) (by decide)) (St.and (st_hr (by decide)) (St.and (st_row (by decide)) (St.and (st_row (by decide)) (st_own (by decide))))))
      go_loopw [8] (fun i wr => ∃ q : Nat, q ≤ m.an ∧ i = .int .i64 q ∧ Hid ((fun W => (Al m lo hi w u3 ys W) ∧ (Hr W 61 5 (.slice xso (m.sn + 1) xsc) (m.sn + 1) (flat Sn.cells m.S ++ [.int .u64 1, .int .u64 0, .int .u64 0, .int .i64 0, .slice none 0 0])) ∧ (RowX lo W 65 3 (.slice m.ho m.hn m.hc) m.hn 2) ∧ (RowX lo W 58 13 (.slice m.dO m.dn m.dc) m.dn 4) ∧ (∃ xs, W.ownsRow lo 67 5 (.slice m.jo m.jn m.jc) m.jn xs)) wr ∧ RowX lo wr 63 4 (.slice m.ao m.an m.ac) m.an 2)) (fun i _ => m.an - (intOf i).toNat)
      case atStart => exact ⟨0, by omega, rfl, STARTa.out⟩
      case round =>
        obtain ⟨q, hq, rfl, HS⟩ := hrel
        clear STARTa
        obtain ⟨y4, y5, y6, y7, y9, hyl⟩ := BOX.out (mv := u3) (ys := ys) HS.out.1.1.box
        by_cases hlt : q < m.an
        · obtain ⟨g, c0, hg, hgl, hck, hfz, hset⟩ := HS.out.2.look hlt (by decide)
          have HSET := hide hset
          rw [hg] at y4
          have HGG := hide hg
          clear hset hg
          go_wp2
          go_roundw
          case rel =>
            obtain ⟨z1, z2, cur, z3⟩ := HSET.out 77
            exact ⟨q + 1, by omega, by go_num, STa.out _ _ _ HS.out.1 z2 (.inr ⟨g, cur, rfl, z3⟩) (fun g' e => by cases e; exact .inl (HWH.out.a g (by rw [HGG.out]; rfl))), z1⟩
          case measure => simp [intOf]; omega
        · skip
          obtain ⟨xsa, hox, -⟩ := HS.out.2
          have HOX := hide hox
          clear hox
          have hlow : lo ≤ wr.heap.size := by omega
          go_wp2_with (first
            | (at_builtin; refine wpList_append_moved _ rfl (.tmp 76) (.tmp 78) 23 rfl lo 63 iAc (.agg #[.int .u64 0, .int .u64 0, .int .u64 0, .int .u64 0]) 4 32 Tryz.underlying23 hiAc hz0Ac hz1Ac hz2Ac rfl (by decide) (.slice m.ao m.an m.ac) m.an xsa rfl (HOX.out.kept (World.grownBy_alloc _ _ none) (by cases (Value.slice m.ao m.an m.ac).ownBlock <;> simp)) ⟨wr.heap.size, 0, none⟩ 1 1 [.int .u64 2, .int .u64 0, .int .u64 0, .int .u64 0] rfl rfl (cells_newN _ _ _) (by simp [Value.oneCell']) (by omega) (by unfold maxLen; omega) (by omega) (by simp; omega) ?_; intro zv Za ho he hm; obtain ⟨xao, xac, rfl⟩ := (hr_of ho).form; have STARTh : Hid ((fun W => (Al m lo hi w u3 ys W) ∧ (Hr W 61 5 (.slice xso (m.sn + 1) xsc) (m.sn + 1) (flat Sn.cells m.S ++ [.int .u64 1, .int .u64 0, .int .u64 0, .int .i64 0, .slice none 0 0])) ∧ (Tla W 63 4 (.slice xao (m.an + 1) xac) m.an [.int .u64 2, .int .u64 0, .int .u64 0, .int .u64 0]) ∧ (RowX lo W 58 13 (.slice m.dO m.dn m.dc) m.dn 4) ∧ (∃ xs, W.ownsRow lo 67 5 (.slice m.jo m.jn m.jc) m.jn xs)) Za ∧ RowX lo Za 65 3 (.slice m.ho m.hn m.hc) m.hn 2) := (by have zz := STa.out _ _ _ (STa.out _ _ _ HS.out.1 (World.grownBy_alloc wr _ none) (.inl rfl) (fun g e => by cases e)) he.1 ((hr_of (HOX.out.kept (World.grownBy_alloc wr _ none) (by cases (Value.slice m.ao m.an m.ac).ownBlock <;> simp))).block) (fun g e => .inl (HWH.out.a g e)); have ztl : Tla Za 63 4 (.slice xao (m.an + 1) xac) m.an [.int .u64 2, .int .u64 0, .int .u64 0, .int .u64 0] := ⟨xsa, HOX.out.1, hr_of ho⟩; exact ⟨⟨zz.1, zz.2.1, ztl, zz.2.2.2.1, zz.2.2.2.2⟩, zz.2.2.1⟩); clear ho he hm))
          clear y4 y5 y6 y7 y9 hyl HS HOX hlow hlt hq
          have STh : Hid (St lo hi w 65 (fun W => (Al m lo hi w u3 ys W) ∧ (Hr W 61 5 (.slice xso (m.sn + 1) xsc) (m.sn + 1) (flat Sn.cells m.S ++ [.int .u64 1, .int .u64 0, .int .u64 0, .int .i64 0, .slice none 0 0])) ∧ (Tla W 63 4 (.slice xao (m.an + 1) xac) m.an [.int .u64 2, .int .u64 0, .int .u64 0, .int .u64 0]) ∧ (RowX lo W 58 13 (.slice m.dO m.dn m.dc) m.dn 4) ∧ (∃ xs, W.ownsRow lo 67 5 (.slice m.jo m.jn m.jc) m.jn xs))) := (St.and (st_al (by decide) (by decide) (by decide) (by decide)) (St.and (st_hr (by decide)) (St.and (st_tl (by decide)) (St.and (st_row (by decide)) (st_own (by decide))))))
          go_loopw [10] (fun i wr => ∃ q : Nat, q ≤ m.hn ∧ i = .int .i64 q ∧ Hid ((fun W => (Al m lo hi w u3 ys W) ∧ (Hr W 61 5 (.slice xso (m.sn + 1) xsc) (m.sn + 1) (flat Sn.cells m.S ++ [.int .u64 1, .int .u64 0, .int .u64 0, .int .i64 0, .slice none 0 0])) ∧ (Tla W 63 4 (.slice xao (m.an + 1) xac) m.an [.int .u64 2, .int .u64 0, .int .u64 0, .int .u64 0]) ∧ (RowX lo W 58 13 (.slice m.dO m.dn m.dc) m.dn 4) ∧ (∃ xs, W.ownsRow lo 67 5 (.slice m.jo m.jn m.jc) m.jn xs)) wr ∧ RowX lo wr 65 3 (.slice m.ho m.hn m.hc) m.hn 2)) (fun i _ => m.hn - (intOf i).toNat)
          case atStart => exact ⟨0, by omega, rfl, STARTh.out⟩
          case round =>
            obtain ⟨q, hq, rfl, HS⟩ := hrel
            clear STARTh
            obtain ⟨y4, y5, y6, y7, y9, hyl⟩ := BOX.out (mv := u3) (ys := ys) HS.out.1.1.box
            by_cases hlt : q < m.hn
            · obtain ⟨g, c0, hg, hgl, hck, hfz, hset⟩ := HS.out.2.look hlt (by decide)
              have HSET := hide hset
              rw [hg] at y5
              have HGG := hide hg
              clear hset hg
              go_wp2
              go_roundw
              case rel =>
                obtain ⟨z1, z2, cur, z3⟩ := HSET.out 78
                exact ⟨q + 1, by omega, by go_num, STh.out _ _ _ HS.out.1 z2 (.inr ⟨g, cur, rfl, z3⟩) (fun g' e => by cases e; exact .inl (HWH.out.h g (by rw [HGG.out]; rfl))), z1⟩
              case measure => simp [intOf]; omega
            · skip
              obtain ⟨xsh, hox, -⟩ := HS.out.2
              have HOX := hide hox
              clear hox
              have hlow : lo ≤ wr.heap.size := by omega
              go_wp2_with (first
                | (at_builtin; refine wpList_append_moved _ rfl (.tmp 99) (.tmp 101) 24 rfl lo 65 iHo (.agg #[.int .u64 0, .int .u64 0, .int .u64 0]) 3 24 Tryz.underlying24 hiHo hz0Ho hz1Ho hz2Ho rfl (by decide) (.slice m.ho m.hn m.hc) m.hn xsh rfl (HOX.out.kept (World.grownBy_alloc _ _ none) (by cases (Value.slice m.ho m.hn m.hc).ownBlock <;> simp)) ⟨wr.heap.size, 0, none⟩ 1 1 [.int .u64 3, .int .u64 0, .int .u64 0] rfl rfl (cells_newN _ _ _) (by simp [Value.oneCell']) (by omega) (by unfold maxLen; omega) (by omega) (by simp; omega) ?_; intro zv Zh ho he hm; obtain ⟨xho, xhc, rfl⟩ := (hr_of ho).form; have STARTd : Hid ((fun W => (Al m lo hi w u3 ys W) ∧ (Hr W 61 5 (.slice xso (m.sn + 1) xsc) (m.sn + 1) (flat Sn.cells m.S ++ [.int .u64 1, .int .u64 0, .int .u64 0, .int .i64 0, .slice none 0 0])) ∧ (Tla W 63 4 (.slice xao (m.an + 1) xac) m.an [.int .u64 2, .int .u64 0, .int .u64 0, .int .u64 0]) ∧ (Tla W 65 3 (.slice xho (m.hn + 1) xhc) m.hn [.int .u64 3, .int .u64 0, .int .u64 0]) ∧ (∃ xs, W.ownsRow lo 67 5 (.slice m.jo m.jn m.jc) m.jn xs)) Zh ∧ RowX lo Zh 58 13 (.slice m.dO m.dn m.dc) m.dn 4) := (by have zz := STh.out _ _ _ (STh.out _ _ _ HS.out.1 (World.grownBy_alloc wr _ none) (.inl rfl) (fun g e => by cases e)) he.1 ((hr_of (HOX.out.kept (World.grownBy_alloc wr _ none) (by cases (Value.slice m.ho m.hn m.hc).ownBlock <;> simp))).block) (fun g e => .inl (HWH.out.h g e)); have ztl : Tla Zh 65 3 (.slice xho (m.hn + 1) xhc) m.hn [.int .u64 3, .int .u64 0, .int .u64 0] := ⟨xsh, HOX.out.1, hr_of ho⟩; exact ⟨⟨zz.1, zz.2.1, zz.2.2.1, ztl, zz.2.2.2.2⟩, zz.2.2.2.1⟩); clear ho he hm))
              clear y4 y5 y6 y7 y9 hyl HS HOX hlow hlt hq
              have STd : Hid (St lo hi w 58 (fun W => (Al m lo hi w u3 ys W) ∧ (Hr W 61 5 (.slice xso (m.sn + 1) xsc) (m.sn + 1) (flat Sn.cells m.S ++ [.int .u64 1, .int .u64 0, .int .u64 0, .int .i64 0, .slice none 0 0])) ∧ (Tla W 63 4 (.slice xao (m.an + 1) xac) m.an [.int .u64 2, .int .u64 0, .int .u64 0, .int .u64 0]) ∧ (Tla W 65 3 (.slice xho (m.hn + 1) xhc) m.hn [.int .u64 3, .int .u64 0, .int .u64 0]) ∧ (∃ xs, W.ownsRow lo 67 5 (.slice m.jo m.jn m.jc) m.jn xs))) := (St.and (st_al (by decide) (by decide) (by decide) (by decide)) (St.and (st_hr (by decide)) (St.and (st_tl (by decide)) (St.and (st_tl (by decide)) (st_own (by decide))))))
              go_loopw [12] (fun i wr => ∃ q : Nat, q ≤ m.dn ∧ i = .int .i64 q ∧ Hid ((fun W => (Al m lo hi w u3 ys W) ∧ (Hr W 61 5 (.slice xso (m.sn + 1) xsc) (m.sn + 1) (flat Sn.cells m.S ++ [.int .u64 1, .int .u64 0, .int .u64 0, .int .i64 0, .slice none 0 0])) ∧ (Tla W 63 4 (.slice xao (m.an + 1) xac) m.an [.int .u64 2, .int .u64 0, .int .u64 0, .int .u64 0]) ∧ (Tla W 65 3 (.slice xho (m.hn + 1) xhc) m.hn [.int .u64 3, .int .u64 0, .int .u64 0]) ∧ (∃ xs, W.ownsRow lo 67 5 (.slice m.jo m.jn m.jc) m.jn xs)) wr ∧ RowX lo wr 58 13 (.slice m.dO m.dn m.dc) m.dn 4)) (fun i _ => m.dn - (intOf i).toNat)
              case atStart => exact ⟨0, by omega, rfl, STARTd.out⟩
              case round =>
                obtain ⟨q, hq, rfl, HS⟩ := hrel
                clear STARTd
                obtain ⟨y4, y5, y6, y7, y9, hyl⟩ := BOX.out (mv := u3) (ys := ys) HS.out.1.1.box
                by_cases hlt : q < m.dn
                · obtain ⟨g, c0, hg, hgl, hck, hfz, hset⟩ := HS.out.2.look hlt (by decide)
                  have HSET := hide hset
                  rw [hg] at y7
                  have HGG := hide hg
                  clear hset hg
                  go_wp2
                  go_roundw
                  case rel =>
                    obtain ⟨z1, z2, cur, z3⟩ := HSET.out 79
                    exact ⟨q + 1, by omega, by go_num, STd.out _ _ _ HS.out.1 z2 (.inr ⟨g, cur, rfl, z3⟩) (fun g' e => by cases e; exact .inl (HWH.out.d g (by rw [HGG.out]; rfl))), z1⟩
                  case measure => simp [intOf]; omega
                · skip
                  obtain ⟨xsd, hox, -⟩ := HS.out.2
                  have HOX := hide hox
                  clear hox
                  have hlow : lo ≤ wr.heap.size := by omega
                  go_wp2_with (first
                    | (at_builtin; refine wpList_append_moved _ rfl (.tmp 119) (.tmp 121) 28 rfl lo 58 iDe (.agg #[.int .u64 0, .int .u64 0, .int .u64 0, .int .u64 0, .int .u64 0, .int .u64 0, .int .u64 0, .int .i64 0, .int .u64 0, .int .u64 0, .int .u64 0, .int .u64 0, .string ⟨#[]⟩]) 13 112 Tryz.underlying28 hiDe hz0De hz1De hz2De rfl (by decide) (.slice m.dO m.dn m.dc) m.dn xsd rfl (HOX.out.kept (World.grownBy_alloc _ _ none) (by cases (Value.slice m.dO m.dn m.dc).ownBlock <;> simp)) ⟨wr.heap.size, 0, none⟩ 1 1 [.int .u64 4, .int .u64 0, .int .u64 0, .int .u64 0, .int .u64 0, .int .u64 0, .int .u64 0, .int .i64 0, .int .u64 0, .int .u64 0, .int .u64 0, .int .u64 0, .string ⟨#[]⟩] rfl rfl (cells_newN _ _ _) (by simp [Value.oneCell']) (by omega) (by unfold maxLen; omega) (by omega) (by simp; omega) ?_; intro zv Zd ho he hm; obtain ⟨xdo, xdc, rfl⟩ := (hr_of ho).form; have STARTj : Hid ((fun W => (Al m lo hi w u3 ys W) ∧ (Hr W 61 5 (.slice xso (m.sn + 1) xsc) (m.sn + 1) (flat Sn.cells m.S ++ [.int .u64 1, .int .u64 0, .int .u64 0, .int .i64 0, .slice none 0 0])) ∧ (Tla W 63 4 (.slice xao (m.an + 1) xac) m.an [.int .u64 2, .int .u64 0, .int .u64 0, .int .u64 0]) ∧ (Tla W 65 3 (.slice xho (m.hn + 1) xhc) m.hn [.int .u64 3, .int .u64 0, .int .u64 0]) ∧ (Tla W 58 13 (.slice xdo (m.dn + 1) xdc) m.dn [.int .u64 4, .int .u64 0, .int .u64 0, .int .u64 0, .int .u64 0, .int .u64 0, .int .u64 0, .int .i64 0, .int .u64 0, .int .u64 0, .int .u64 0, .int .u64 0, .string ⟨#[]⟩])) Zd ∧ (∃ xs, Zd.ownsRow lo 67 5 (.slice m.jo m.jn m.jc) m.jn xs)) := (by have zz := STd.out _ _ _ (STd.out _ _ _ HS.out.1 (World.grownBy_alloc wr _ none) (.inl rfl) (fun g e => by cases e)) he.1 ((hr_of (HOX.out.kept (World.grownBy_alloc wr _ none) (by cases (Value.slice m.dO m.dn m.dc).ownBlock <;> simp))).block) (fun g e => .inl (HWH.out.d g e)); have ztl : Tla Zd 58 13 (.slice xdo (m.dn + 1) xdc) m.dn [.int .u64 4, .int .u64 0, .int .u64 0, .int .u64 0, .int .u64 0, .int .u64 0, .int .u64 0, .int .i64 0, .int .u64 0, .int .u64 0, .int .u64 0, .int .u64 0, .string ⟨#[]⟩] := ⟨xsd, HOX.out.1, hr_of ho⟩; exact ⟨⟨zz.1, zz.2.1, zz.2.2.1, zz.2.2.2.1, ztl⟩, zz.2.2.2.2⟩); clear ho he hm; clear y4 y5 y6 y7 y9 hyl HS HOX hlow hlt hq; have STj : Hid (St lo hi w 67 (fun W => (Al m lo hi w u3 ys W) ∧ (Hr W 61 5 (.slice xso (m.sn + 1) xsc) (m.sn + 1) (flat Sn.cells m.S ++ [.int .u64 1, .int .u64 0, .int .u64 0, .int .i64 0, .slice none 0 0])) ∧ (Tla W 63 4 (.slice xao (m.an + 1) xac) m.an [.int .u64 2, .int .u64 0, .int .u64 0, .int .u64 0]) ∧ (Tla W 65 3 (.slice xho (m.hn + 1) xhc) m.hn [.int .u64 3, .int .u64 0, .int .u64 0]) ∧ (Tla W 58 13 (.slice xdo (m.dn + 1) xdc) m.dn [.int .u64 4, .int .u64 0, .int .u64 0, .int .u64 0, .int .u64 0, .int .u64 0, .int .u64 0, .int .i64 0, .int .u64 0, .int .u64 0, .int .u64 0, .int .u64 0, .string ⟨#[]⟩]))) := (St.and (st_al (by decide) (by decide) (by decide) (by decide)) (St.and (st_hr (by decide)) (St.and (st_tl (by decide)) (St.and (st_tl (by decide)) (st_tl (by decide)))))); obtain ⟨xsj, hox⟩ := STARTj.out.2; have HOX := hide hox; clear hox; obtain ⟨y4, y5, y6, y7, y9, hyl⟩ := BOX.out (mv := u3) (ys := ys) STARTj.out.1.1.box; have hlow : lo ≤ Zd.heap.size := (by omega))
                    | (at_builtin; refine wpList_append_moved _ rfl (.tmp 126) (.tmp 128) 25 rfl lo 67 iEn (.agg #[.int .u64 0, .int .i64 0, .int .u64 0, .int .u64 0, .int .u64 0]) 5 40 Tryz.underlying25 hiEn hz0En hz1En hz2En rfl (by decide) (.slice m.jo m.jn m.jc) m.jn xsj rfl (HOX.out.kept (World.grownBy_alloc _ _ none) (by cases (Value.slice m.jo m.jn m.jc).ownBlock <;> simp)) ⟨Zd.heap.size, 0, none⟩ 1 1 [.int .u64 5, .int .i64 0, .int .u64 0, .int .u64 0, .int .u64 0] rfl rfl (cells_newN _ _ _) (by simp [Value.oneCell']) (by omega) (by unfold maxLen; omega) (by omega) (by simp; omega) ?_; intro zv Zj ho he hm; obtain ⟨xjo, xjc, rfl⟩ := (hr_of ho).form; have FINAL : Hid ((fun W => (Al m lo hi w u3 ys W) ∧ (Hr W 61 5 (.slice xso (m.sn + 1) xsc) (m.sn + 1) (flat Sn.cells m.S ++ [.int .u64 1, .int .u64 0, .int .u64 0, .int .i64 0, .slice none 0 0])) ∧ (Tla W 63 4 (.slice xao (m.an + 1) xac) m.an [.int .u64 2, .int .u64 0, .int .u64 0, .int .u64 0]) ∧ (Tla W 65 3 (.slice xho (m.hn + 1) xhc) m.hn [.int .u64 3, .int .u64 0, .int .u64 0]) ∧ (Tla W 58 13 (.slice xdo (m.dn + 1) xdc) m.dn [.int .u64 4, .int .u64 0, .int .u64 0, .int .u64 0, .int .u64 0, .int .u64 0, .int .u64 0, .int .i64 0, .int .u64 0, .int .u64 0, .int .u64 0, .int .u64 0, .string ⟨#[]⟩]) ∧ (Tla W 67 5 (.slice xjo (m.jn + 1) xjc) m.jn [.int .u64 5, .int .i64 0, .int .u64 0, .int .u64 0, .int .u64 0])) Zj) := (by have zz := STj.out _ _ _ (STj.out _ _ _ STARTj.out.1 (World.grownBy_alloc Zd _ none) (.inl rfl) (fun g e => by cases e)) he.1 ((hr_of (HOX.out.kept (World.grownBy_alloc Zd _ none) (by cases (Value.slice m.jo m.jn m.jc).ownBlock <;> simp))).block) (fun g e => .inl (HWH.out.j g e)); have ztl : Tla Zj 67 5 (.slice xjo (m.jn + 1) xjc) m.jn [.int .u64 5, .int .i64 0, .int .u64 0, .int .u64 0, .int .u64 0] := ⟨xsj, HOX.out.1, hr_of ho⟩; exact ⟨zz.1, zz.2.1, zz.2.2.1, zz.2.2.2.1, zz.2.2.2.2, ztl⟩); clear ho he hm))
                  clear y4 y5 y6 y7 y9 hyl HOX hlow STARTj STj
                  obtain ⟨mo, mc, hu3⟩ := FINAL.out.1.mor.form
                  subst hu3
                  go_loopw [15] (fun i wr => ∃ q : Nat, q ≤ m.sn ∧ i = .int .i64 q ∧ Hid ((fun W => (Al m lo hi w (.slice mo m.sn mc) ys W) ∧ (Hr W 61 5 (.slice xso (m.sn + 1) xsc) (m.sn + 1) (flat Sn.cells m.S ++ [.int .u64 1, .int .u64 0, .int .u64 0, .int .i64 0, .slice none 0 0])) ∧ (Tla W 63 4 (.slice xao (m.an + 1) xac) m.an [.int .u64 2, .int .u64 0, .int .u64 0, .int .u64 0]) ∧ (Tla W 65 3 (.slice xho (m.hn + 1) xhc) m.hn [.int .u64 3, .int .u64 0, .int .u64 0]) ∧ (Tla W 58 13 (.slice xdo (m.dn + 1) xdc) m.dn [.int .u64 4, .int .u64 0, .int .u64 0, .int .u64 0, .int .u64 0, .int .u64 0, .int .u64 0, .int .i64 0, .int .u64 0, .int .u64 0, .int .u64 0, .int .u64 0, .string ⟨#[]⟩]) ∧ (Tla W 67 5 (.slice xjo (m.jn + 1) xjc) m.jn [.int .u64 5, .int .i64 0, .int .u64 0, .int .u64 0, .int .u64 0])) wr)) (fun i _ => m.sn - (intOf i).toNat)
                  case atStart => exact ⟨0, by omega, rfl, FINAL.out⟩
                  case round =>
                    obtain ⟨q, hq, rfl, HS⟩ := hrel
                    clear FINAL
                    obtain ⟨-, -, -, -, y9, hyl⟩ := BOX.out (mv := .slice mo m.sn mc) (ys := ys) HS.out.1.box
                    by_cases hlt : q < m.sn
                    · obtain ⟨x, hx⟩ : ∃ x, m.S[q]? = some x := ⟨_, List.getElem?_eq_getElem (by rw [HLS.out]; exact hlt)⟩
                      obtain ⟨y, hy⟩ : ∃ y, ys[q]? = some y := ⟨_, List.getElem?_eq_getElem (by have := HS.out.1.mor.1; omega)⟩
                      obtain ⟨D1, D2⟩ := HS.out.1.done q x y hx hy
                      obtain ⟨yo, yc, rfl⟩ := D2.form
                      obtain ⟨g, hg, hgl, c4, -⟩ := HS.out.1.ses.at_ (flat_get len_Sn m.S q x hx 4 _ rfl)
                      obtain ⟨gm, hgm, hgml, cm, -⟩ := HS.out.1.mor.at_ hy
                      obtain ⟨gy, hgy, hgyl, cy, -⟩ := D2.at_ (i := x.cn) (u := .int .u8 ((200 + q : Nat) : Int)) (by rw [List.getElem?_append_right (by unfold rep; simp)]; unfold rep; simp)
                      rw [hg] at y9
                      have hsx := HB.out.small x (List.mem_of_getElem? hx)
                      have HD := hide (And.intro D1 D2)
                      have HG := hide hg
                      clear hg D1 D2 hx hy
                      subst hgy
                      subst hgm
                      obtain ⟨cl, sq, st, cd, co, cn, cc, D⟩ := x
                      dsimp only [Sn.sl] at *
                      generalize wr = wo at *
                      go_wp2
                      go_loopw [17] (fun i wr => ∃ r : Nat, r ≤ cn ∧ i = .int .i64 r ∧ wo = wr) (fun i _ => cn - (intOf i).toNat)
                      case atStart => exact ⟨0, by omega, rfl, rfl⟩
                      case round =>
                        obtain ⟨r, hr, rfl, hw⟩ := hrel
                        subst hw
                        by_cases hrl : r < cn
                        · obtain ⟨gx, hgx, hgxl, cx, -⟩ := HD.out.1.at_ (rep_get hrl)
                          obtain ⟨gy', hgy', -, cy', -⟩ := HD.out.2.at_ (i := r) (u := .int .u8 ((100 + q : Nat) : Int)) (by rw [List.getElem?_append_left (by unfold rep; simp; omega)]; exact rep_get hrl)
                          cases hgy'
                          subst hgx
                          go_wp2
                          go_roundw
                          case rel => exact ⟨r + 1, by omega, by go_num, (by first | trivial | rfl)⟩
                          case measure => simp [intOf]; omega
                        · obtain rfl : cn = r := by omega
                          go_wp2
                          go_roundw
                          case rel => exact ⟨q + 1, by omega, by go_num, HS.out⟩
                          case measure => simp [intOf]; omega
                    · obtain ⟨gs, hgs, hgsl, cs⟩ := tl_last (⟨flat Sn.cells m.S, HS.out.1.ses.1, HS.out.2.1⟩ : Tla wr 61 5 (.slice xso (m.sn + 1) xsc) m.sn [.int .u64 1, .int .u64 0, .int .u64 0, .int .i64 0, .slice none 0 0]) rfl
                      obtain ⟨ga, hga, hgal, ca⟩ := tl_last HS.out.2.2.1 rfl
                      obtain ⟨gh, hgh, hghl, ch⟩ := tl_last HS.out.2.2.2.1 rfl
                      obtain ⟨gd, hgd, hgdl, cdd⟩ := tl_last HS.out.2.2.2.2.1 rfl
                      obtain ⟨gj, hgj, hgjl, cj⟩ := tl_last HS.out.2.2.2.2.2 rfl
                      have HO := hide HS.out.1.out
                      clear HS
                      subst hgs hga hgh hgd hgj
                      go_wp2
                      go_ret
                      exact ⟨rfl, HO⟩
end Go.Proofs.YtlidehhcoepikaaGreatDoor
