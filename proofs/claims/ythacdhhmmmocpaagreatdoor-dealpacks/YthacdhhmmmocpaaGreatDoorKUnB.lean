import Derived.Test.YthacdhhmmmocpaaGreatDoorM44
namespace Go.Proofs.YthacdhhmmmocpaaGreatDoor
open Go.RowKit Crc

set_option maxRecDepth 10000 in
set_option maxHeartbeats 1600000 in
theorem readFields_any {w : World} {lim p : Nat} {s : RS} (v : Int) (h1 : 1 ≤ v) (h2 : v ≤ 13) (hR : RdP lim w (some ⟨p, 0, none⟩) s) (hl : lim ≤ p) (hp : p < w.heap.size) (hpl : s.sound → s.place = 0) :
    Calls Tryz.prog 38 #[.pointer (some ⟨p, 0, none⟩), .int .i64 v] w fun e w' => e = .returned (.agg (rdAll v s).2.cells) ∧ Hid (RdP lim w' (some ⟨p, 0, none⟩) (rdAll v s).1 ∧ w.grownBy w' (some p) ∧ ((rdAll v s).1.sound → (rdAll v s).1.place = 0)) := by
  have HF := hide (fieldsOf_any v h1 h2)
  have HLN := hide (fds_len v)
  have HM : Hid (∀ k f, (fds v)[k]? = some f → 1 ≤ f ∧ f ≤ 7) := fun k f hf => fds_mem (List.mem_of_getElem? hf)
  have HRA : Hid (rdAll v s = (fds v).foldl rdF (s, Cd.zero v)) := rfl
  generalize rdAll v s = ra at *
  obtain ⟨W2, hW2⟩ : ∃ W2, (w.alloc (.cells #[.int .i64 0, .int .u64 0, .int .u64 0, .int .u64 0, .int .u64 0, .int .u64 0, .int .u64 0, .string ⟨#[]⟩] 25)).alloc (.cells #[.int .u64 0, .int .u64 0, .int .u64 0, .int .u64 0, .int .u64 0, .int .u64 0, .int .u64 0] 49) = W2 := ⟨_, rfl⟩
  have e1 : (w.alloc (.cells #[.int .i64 0, .int .u64 0, .int .u64 0, .int .u64 0, .int .u64 0, .int .u64 0, .int .u64 0, .string ⟨#[]⟩] 25)).heap.size = w.heap.size + 1 := by simp
  have s2 : W2.heap.size = w.heap.size + 1 + 1 := by rw [← hW2]; simp
  have RF0 : Hid (∀ W3, W3 = W2.alloc (.cells (fieldsV (fds v)).toArray 3) → Rf w lim p (w.heap.size + 1) (w.heap.size + 1 + 1) (fds v) (s, Cd.zero v) W3) := fun W3 e => by
    have q1 : W2.heap[w.heap.size + 1]? = some (.cells (Cd.zero v).nums 49 (0, 0)) := by rw [← hW2, ← e1]; exact alloc_atK _ _
    have q0 : W2.heap[w.heap.size]? = some (.cells (Cd.zero 0).cells 25 (0, 0)) := by rw [← hW2]; exact ((World.grownBy_alloc _ _ none).block _ (by rw [e1]; omega) (by simp)).trans (alloc_atK _ _)
    have g2 : w.grownBy W2 none := by rw [← hW2]; exact grown_quiet (World.grownBy_alloc _ _ none) (World.grownBy_alloc _ _ none)
    have gA : W2.grownBy W3 none := by rw [e]; exact World.grownBy_alloc _ _ none
    have g3 := grown_quiet g2 gA
    refine ⟨hR.kept g3 (fun k e => by cases e), grown_weakK g3 p, (gA.block _ (block_lt q1) (by simp)).trans q1, (gA.block _ (block_lt q0) (by simp)).trans q0, ?_, hpl⟩
    rw [e, ← s2]
    exact ints_new _ _ _
  have HS2 := hide s2
  have HW2 := hide hW2
  clear hW2 e1 s2 hR hpl h1 h2
  go_enter Tryz.func38, Tryz.ntmps38
  go_wp2_with fail
  rw [HW2.out]
  refine (HF.out W2).mono ?_
  rintro e W3 ⟨rfl, hW3⟩
  have RF3 := hide (RF0.out W3 hW3)
  have hs3 : W3.heap.size = w.heap.size + 1 + 1 + 1 := by rw [hW3]; simp [HS2.out]
  have HS3 := hide hs3
  rw [HS2.out]
  clear hW3 hs3 RF0 HF HW2 HS2
  generalize hfl : (fds v).length = fl at *
  have HFL := hide hfl
  clear hfl
  obtain ⟨hfl1, hfl7⟩ := HLN.out
  go_wp2
  go_loopw [6, 12] (fun t i wr => ∃ k : Nat, k ≤ fl ∧ i = .int .i64 k ∧ ∃ tt : ByteArray, t = .string tt ∧ Hid (Rf w lim p (w.heap.size + 1) (w.heap.size + 1 + 1) (fds v) (((fds v).take k).foldl rdF (s, Cd.zero v)) wr ∧ (((fds v).take k).foldl rdF (s, Cd.zero v)).2.terms = tt ∧ (((fds v).take k).foldl rdF (s, Cd.zero v)).2.verb = v ∧ w.heap.size + 1 + 1 < wr.heap.size)) (fun _ i _ => fl - (intOf i).toNat)
  case atStart => exact ⟨0, by omega, rfl, _, rfl, RF3.out, rfl, rfl, by rw [HS3.out]; omega⟩
  case round =>
    obtain ⟨k, hk, rfl, tt, rfl, HR⟩ := hrel
    clear RF3
    have hbx := block_lt HR.out.1.box
    have hrs := block_lt HR.out.1.res
    have hfw := HR.out.2.2.2
    by_cases hlt : k < fl
    · obtain ⟨f, hf⟩ : ∃ f, (fds v)[k]? = some f := ⟨_, List.getElem?_eq_getElem (by rw [HFL.out]; exact hlt)⟩
      have c0 := HR.out.1.ints k f hf
      have HFO : Hid (((fds v).take (k + 1)).foldl rdF (s, Cd.zero v) = rdF (((fds v).take k).foldl rdF (s, Cd.zero v)) f) := by
        show _ = _
        rw [List.take_add_one, hf]
        simp
      obtain ⟨hf1, hf7⟩ := HM.out k f hf
      clear hf
      generalize ((fds v).take k).foldl rdF (s, Cd.zero v) = xx at *
      obtain ⟨ss, cc⟩ := xx
      rcases (by omega : f = 7 ∨ f = 1 ∨ f = 2 ∨ f = 3 ∨ f = 4 ∨ f = 5 ∨ f = 6) with rfl | rfl | rfl | rfl | rfl | rfl | rfl
      · have HT := hide (rTextP HR.out.1.rd 512 (by omega) (by omega) (utf8Ok (strOf (blobAt ss.rest 512).1)) (fun wx => isText_any _ wx))
        have NX : Hid (∀ W', RdP lim W' (some ⟨p, 0, none⟩) (ss.step (txA ss).2.1 (txA ss).2.2) → wr.grownBy W' (rowP (some ⟨p, 0, none⟩)) → Rf w lim p (w.heap.size + 1) (w.heap.size + 1 + 1) (fds v) (((fds v).take (k + 1)).foldl rdF (s, Cd.zero v)) W' ∧ (((fds v).take (k + 1)).foldl rdF (s, Cd.zero v)).2.terms = (txA ss).1 ∧ (((fds v).take (k + 1)).foldl rdF (s, Cd.zero v)).2.verb = v ∧ w.heap.size + 1 + 1 < W'.heap.size) := fun W' h1 hg => by
          rw [HFO.out]
          exact ⟨HR.out.1.step hp (by omega) (by omega) hfw h1 hg { cc with terms := (txA ss).1 } rfl, rfl, HR.out.2.2.1, Nat.lt_of_lt_of_le hfw hg.size⟩
        go_wp2_with fail
        refine HT.out.mono ?_
        rintro e W' ⟨rfl, hr', hg'⟩
        have FIN := hide (NX.out W' hr' hg')
        clear hr' hg'
        go_wp2
        go_roundw
        case rel => exact ⟨k + 1, by omega, by go_num, _, rfl, FIN.out⟩
        case measure => simp [intOf]; omega
      · have HT := hide (rNumP HR.out.1.rd)
        have NX : Hid (∀ W', RdP lim W' (some ⟨p, 0, none⟩) (ss.step (numAt ss.rest).2.1 (numAt ss.rest).2.2) → wr.grownBy W' (rowP (some ⟨p, 0, none⟩)) → W'.heap[w.heap.size + 1]? = some (.cells cc.nums 49 (0, 0)) ∧ Rf w lim p (w.heap.size + 1) (w.heap.size + 1 + 1) (fds v) (((fds v).take (k + 1)).foldl rdF (s, Cd.zero v)) (W'.setCell ⟨w.heap.size + 1, 1, none⟩ (.int .u64 ((numAt ss.rest).1 : Nat))) ∧ (((fds v).take (k + 1)).foldl rdF (s, Cd.zero v)).2.terms = tt ∧ (((fds v).take (k + 1)).foldl rdF (s, Cd.zero v)).2.verb = v ∧ w.heap.size + 1 + 1 < (W'.setCell ⟨w.heap.size + 1, 1, none⟩ (.int .u64 ((numAt ss.rest).1 : Nat))).heap.size) := fun W' h1 hg => by
          have r1 := HR.out.1.step hp (by omega) (by omega) hfw h1 hg cc rfl
          rw [HFO.out]
          exact ⟨r1.box, r1.store hp hl (by omega) (by omega) 1 _ (cc.set 1 (numAt ss.rest).1) rfl, HR.out.2.1, HR.out.2.2.1, by simpa using Nat.lt_of_lt_of_le hfw hg.size⟩
        go_wp2_with fail
        refine HT.out.mono ?_
        rintro e W' ⟨rfl, hr', hg'⟩
        have nx := NX.out W' hr' hg'
        have y := block_cell nx.1 1
        have yf := block_free nx.1 1
        have hly := block_lt nx.1
        simp [Cd.nums] at y
        have FIN := hide nx.2
        clear hr' hg' nx
        go_wp2
        go_roundw
        case rel => exact ⟨k + 1, by omega, by go_num, _, rfl, FIN.out⟩
        case measure => simp [intOf]; omega
      · have HT := hide (rNumP HR.out.1.rd)
        have NX : Hid (∀ W', RdP lim W' (some ⟨p, 0, none⟩) (ss.step (numAt ss.rest).2.1 (numAt ss.rest).2.2) → wr.grownBy W' (rowP (some ⟨p, 0, none⟩)) → W'.heap[w.heap.size + 1]? = some (.cells cc.nums 49 (0, 0)) ∧ Rf w lim p (w.heap.size + 1) (w.heap.size + 1 + 1) (fds v) (((fds v).take (k + 1)).foldl rdF (s, Cd.zero v)) (W'.setCell ⟨w.heap.size + 1, 2, none⟩ (.int .u64 ((numAt ss.rest).1 : Nat))) ∧ (((fds v).take (k + 1)).foldl rdF (s, Cd.zero v)).2.terms = tt ∧ (((fds v).take (k + 1)).foldl rdF (s, Cd.zero v)).2.verb = v ∧ w.heap.size + 1 + 1 < (W'.setCell ⟨w.heap.size + 1, 2, none⟩ (.int .u64 ((numAt ss.rest).1 : Nat))).heap.size) := fun W' h1 hg => by
          have r1 := HR.out.1.step hp (by omega) (by omega) hfw h1 hg cc rfl
          rw [HFO.out]
          exact ⟨r1.box, r1.store hp hl (by omega) (by omega) 2 _ (cc.set 2 (numAt ss.rest).1) rfl, HR.out.2.1, HR.out.2.2.1, by simpa using Nat.lt_of_lt_of_le hfw hg.size⟩
        go_wp2_with fail
        refine HT.out.mono ?_
        rintro e W' ⟨rfl, hr', hg'⟩
        have nx := NX.out W' hr' hg'
        have y := block_cell nx.1 2
        have yf := block_free nx.1 2
        have hly := block_lt nx.1
        simp [Cd.nums] at y
        have FIN := hide nx.2
        clear hr' hg' nx
        go_wp2
        go_roundw
        case rel => exact ⟨k + 1, by omega, by go_num, _, rfl, FIN.out⟩
        case measure => simp [intOf]; omega
      · have HT := hide (rNumP HR.out.1.rd)
        have NX : Hid (∀ W', RdP lim W' (some ⟨p, 0, none⟩) (ss.step (numAt ss.rest).2.1 (numAt ss.rest).2.2) → wr.grownBy W' (rowP (some ⟨p, 0, none⟩)) → W'.heap[w.heap.size + 1]? = some (.cells cc.nums 49 (0, 0)) ∧ Rf w lim p (w.heap.size + 1) (w.heap.size + 1 + 1) (fds v) (((fds v).take (k + 1)).foldl rdF (s, Cd.zero v)) (W'.setCell ⟨w.heap.size + 1, 3, none⟩ (.int .u64 ((numAt ss.rest).1 : Nat))) ∧ (((fds v).take (k + 1)).foldl rdF (s, Cd.zero v)).2.terms = tt ∧ (((fds v).take (k + 1)).foldl rdF (s, Cd.zero v)).2.verb = v ∧ w.heap.size + 1 + 1 < (W'.setCell ⟨w.heap.size + 1, 3, none⟩ (.int .u64 ((numAt ss.rest).1 : Nat))).heap.size) := fun W' h1 hg => by
          have r1 := HR.out.1.step hp (by omega) (by omega) hfw h1 hg cc rfl
          rw [HFO.out]
          exact ⟨r1.box, r1.store hp hl (by omega) (by omega) 3 _ (cc.set 3 (numAt ss.rest).1) rfl, HR.out.2.1, HR.out.2.2.1, by simpa using Nat.lt_of_lt_of_le hfw hg.size⟩
        go_wp2_with fail
        refine HT.out.mono ?_
        rintro e W' ⟨rfl, hr', hg'⟩
        have nx := NX.out W' hr' hg'
        have y := block_cell nx.1 3
        have yf := block_free nx.1 3
        have hly := block_lt nx.1
        simp [Cd.nums] at y
        have FIN := hide nx.2
        clear hr' hg' nx
        go_wp2
        go_roundw
        case rel => exact ⟨k + 1, by omega, by go_num, _, rfl, FIN.out⟩
        case measure => simp [intOf]; omega
      · have HT := hide (rNumP HR.out.1.rd)
        have NX : Hid (∀ W', RdP lim W' (some ⟨p, 0, none⟩) (ss.step (numAt ss.rest).2.1 (numAt ss.rest).2.2) → wr.grownBy W' (rowP (some ⟨p, 0, none⟩)) → W'.heap[w.heap.size + 1]? = some (.cells cc.nums 49 (0, 0)) ∧ Rf w lim p (w.heap.size + 1) (w.heap.size + 1 + 1) (fds v) (((fds v).take (k + 1)).foldl rdF (s, Cd.zero v)) (W'.setCell ⟨w.heap.size + 1, 4, none⟩ (.int .u64 ((numAt ss.rest).1 : Nat))) ∧ (((fds v).take (k + 1)).foldl rdF (s, Cd.zero v)).2.terms = tt ∧ (((fds v).take (k + 1)).foldl rdF (s, Cd.zero v)).2.verb = v ∧ w.heap.size + 1 + 1 < (W'.setCell ⟨w.heap.size + 1, 4, none⟩ (.int .u64 ((numAt ss.rest).1 : Nat))).heap.size) := fun W' h1 hg => by
          have r1 := HR.out.1.step hp (by omega) (by omega) hfw h1 hg cc rfl
          rw [HFO.out]
          exact ⟨r1.box, r1.store hp hl (by omega) (by omega) 4 _ (cc.set 4 (numAt ss.rest).1) rfl, HR.out.2.1, HR.out.2.2.1, by simpa using Nat.lt_of_lt_of_le hfw hg.size⟩
        go_wp2_with fail
        refine HT.out.mono ?_
        rintro e W' ⟨rfl, hr', hg'⟩
        have nx := NX.out W' hr' hg'
        have y := block_cell nx.1 4
        have yf := block_free nx.1 4
        have hly := block_lt nx.1
        simp [Cd.nums] at y
        have FIN := hide nx.2
        clear hr' hg' nx
        go_wp2
        go_roundw
        case rel => exact ⟨k + 1, by omega, by go_num, _, rfl, FIN.out⟩
        case measure => simp [intOf]; omega
      · have HT := hide (rNumP HR.out.1.rd)
        have NX : Hid (∀ W', RdP lim W' (some ⟨p, 0, none⟩) (ss.step (numAt ss.rest).2.1 (numAt ss.rest).2.2) → wr.grownBy W' (rowP (some ⟨p, 0, none⟩)) → W'.heap[w.heap.size + 1]? = some (.cells cc.nums 49 (0, 0)) ∧ Rf w lim p (w.heap.size + 1) (w.heap.size + 1 + 1) (fds v) (((fds v).take (k + 1)).foldl rdF (s, Cd.zero v)) (W'.setCell ⟨w.heap.size + 1, 5, none⟩ (.int .u64 ((numAt ss.rest).1 : Nat))) ∧ (((fds v).take (k + 1)).foldl rdF (s, Cd.zero v)).2.terms = tt ∧ (((fds v).take (k + 1)).foldl rdF (s, Cd.zero v)).2.verb = v ∧ w.heap.size + 1 + 1 < (W'.setCell ⟨w.heap.size + 1, 5, none⟩ (.int .u64 ((numAt ss.rest).1 : Nat))).heap.size) := fun W' h1 hg => by
          have r1 := HR.out.1.step hp (by omega) (by omega) hfw h1 hg cc rfl
          rw [HFO.out]
          exact ⟨r1.box, r1.store hp hl (by omega) (by omega) 5 _ (cc.set 5 (numAt ss.rest).1) rfl, HR.out.2.1, HR.out.2.2.1, by simpa using Nat.lt_of_lt_of_le hfw hg.size⟩
        go_wp2_with fail
        refine HT.out.mono ?_
        rintro e W' ⟨rfl, hr', hg'⟩
        have nx := NX.out W' hr' hg'
        have y := block_cell nx.1 5
        have yf := block_free nx.1 5
        have hly := block_lt nx.1
        simp [Cd.nums] at y
        have FIN := hide nx.2
        clear hr' hg' nx
        go_wp2
        go_roundw
        case rel => exact ⟨k + 1, by omega, by go_num, _, rfl, FIN.out⟩
        case measure => simp [intOf]; omega
      · have HT := hide (rNumP HR.out.1.rd)
        have NX : Hid (∀ W', RdP lim W' (some ⟨p, 0, none⟩) (ss.step (numAt ss.rest).2.1 (numAt ss.rest).2.2) → wr.grownBy W' (rowP (some ⟨p, 0, none⟩)) → W'.heap[w.heap.size + 1]? = some (.cells cc.nums 49 (0, 0)) ∧ Rf w lim p (w.heap.size + 1) (w.heap.size + 1 + 1) (fds v) (((fds v).take (k + 1)).foldl rdF (s, Cd.zero v)) (W'.setCell ⟨w.heap.size + 1, 6, none⟩ (.int .u64 ((numAt ss.rest).1 : Nat))) ∧ (((fds v).take (k + 1)).foldl rdF (s, Cd.zero v)).2.terms = tt ∧ (((fds v).take (k + 1)).foldl rdF (s, Cd.zero v)).2.verb = v ∧ w.heap.size + 1 + 1 < (W'.setCell ⟨w.heap.size + 1, 6, none⟩ (.int .u64 ((numAt ss.rest).1 : Nat))).heap.size) := fun W' h1 hg => by
          have r1 := HR.out.1.step hp (by omega) (by omega) hfw h1 hg cc rfl
          rw [HFO.out]
          exact ⟨r1.box, r1.store hp hl (by omega) (by omega) 6 _ (cc.set 6 (numAt ss.rest).1) rfl, HR.out.2.1, HR.out.2.2.1, by simpa using Nat.lt_of_lt_of_le hfw hg.size⟩
        go_wp2_with fail
        refine HT.out.mono ?_
        rintro e W' ⟨rfl, hr', hg'⟩
        have nx := NX.out W' hr' hg'
        have y := block_cell nx.1 6
        have yf := block_free nx.1 6
        have hly := block_lt nx.1
        simp [Cd.nums] at y
        have FIN := hide nx.2
        clear hr' hg' nx
        go_wp2
        go_roundw
        case rel => exact ⟨k + 1, by omega, by go_num, _, rfl, FIN.out⟩
        case measure => simp [intOf]; omega
    · obtain rfl : k = fl := by omega
      have hra : ((fds v).take k).foldl rdF (s, Cd.zero v) = ra := by rw [List.take_of_length_le (by rw [HFL.out]; omega)]; exact HRA.out.symm
      rw [hra] at HR
      clear hra
      obtain ⟨ss, cc⟩ := ra
      have y0 := block_cell HR.out.1.box 0
      have y1 := block_cell HR.out.1.box 1
      have y2 := block_cell HR.out.1.box 2
      have y3 := block_cell HR.out.1.box 3
      have y4 := block_cell HR.out.1.box 4
      have y5 := block_cell HR.out.1.box 5
      have y6 := block_cell HR.out.1.box 6
      have z0 := block_cell HR.out.1.res 0
      have f0 := block_free HR.out.1.res 0
      have z1 := block_cell HR.out.1.res 1
      have f1 := block_free HR.out.1.res 1
      have z2 := block_cell HR.out.1.res 2
      have f2 := block_free HR.out.1.res 2
      have z3 := block_cell HR.out.1.res 3
      have f3 := block_free HR.out.1.res 3
      have z4 := block_cell HR.out.1.res 4
      have f4 := block_free HR.out.1.res 4
      have z5 := block_cell HR.out.1.res 5
      have f5 := block_free HR.out.1.res 5
      have z6 := block_cell HR.out.1.res 6
      have f6 := block_free HR.out.1.res 6
      have z7 := block_cell HR.out.1.res 7
      have f7 := block_free HR.out.1.res 7
      simp [Cd.nums] at y0 y1 y2 y3 y4 y5 y6
      simp [Cd.cells, Cd.zero] at z0 z1 z2 z3 z4 z5 z6 z7
      have HVT : Hid (cc.terms = tt ∧ cc.verb = v) := ⟨HR.out.2.1, HR.out.2.2.1⟩
      have FIN : Hid (∀ x0 x1 x2 x3 x4 x5 x6 x7, RdP lim ((((((((wr.setCell ⟨w.heap.size, 0, none⟩ x0).setCell ⟨w.heap.size, 1, none⟩ x1).setCell ⟨w.heap.size, 2, none⟩ x2).setCell ⟨w.heap.size, 3, none⟩ x3).setCell ⟨w.heap.size, 4, none⟩ x4).setCell ⟨w.heap.size, 5, none⟩ x5).setCell ⟨w.heap.size, 6, none⟩ x6).setCell ⟨w.heap.size, 7, none⟩ x7) (some ⟨p, 0, none⟩) ss ∧ w.grownBy ((((((((wr.setCell ⟨w.heap.size, 0, none⟩ x0).setCell ⟨w.heap.size, 1, none⟩ x1).setCell ⟨w.heap.size, 2, none⟩ x2).setCell ⟨w.heap.size, 3, none⟩ x3).setCell ⟨w.heap.size, 4, none⟩ x4).setCell ⟨w.heap.size, 5, none⟩ x5).setCell ⟨w.heap.size, 6, none⟩ x6).setCell ⟨w.heap.size, 7, none⟩ x7) (some p) ∧ (ss.sound → ss.place = 0)) := fun x0 x1 x2 x3 x4 x5 x6 x7 => by
        have g : wr.grownBy ((((((((wr.setCell ⟨w.heap.size, 0, none⟩ x0).setCell ⟨w.heap.size, 1, none⟩ x1).setCell ⟨w.heap.size, 2, none⟩ x2).setCell ⟨w.heap.size, 3, none⟩ x3).setCell ⟨w.heap.size, 4, none⟩ x4).setCell ⟨w.heap.size, 5, none⟩ x5).setCell ⟨w.heap.size, 6, none⟩ x6).setCell ⟨w.heap.size, 7, none⟩ x7) (some w.heap.size) :=
          grown_trans (row := some w.heap.size) (grown_trans (row := some w.heap.size) (grown_trans (row := some w.heap.size) (grown_trans (row := some w.heap.size) (grown_trans (row := some w.heap.size) (grown_trans (row := some w.heap.size) (grown_trans (row := some w.heap.size) (grown_set _ _ _ _) (grown_set _ _ _ _)) (grown_set _ _ _ _)) (grown_set _ _ _ _)) (grown_set _ _ _ _)) (grown_set _ _ _ _)) (grown_set _ _ _ _)) (grown_set _ _ _ _)
        refine ⟨HR.out.1.rd.kept g (fun k e => by cases e; exact ⟨by omega, by simp [rowP]; omega⟩), ⟨g.os.trans HR.out.1.gr.os, g.tape.trans HR.out.1.gr.tape, g.output.trans HR.out.1.gr.output, Nat.le_trans HR.out.1.gr.size g.size, fun i hi hr => (g.block i (Nat.lt_of_lt_of_le hi HR.out.1.gr.size) (by simp; omega)).trans (HR.out.1.gr.block i hi hr)⟩, HR.out.1.pl⟩
      have EQ : Hid (cc.cells = #[.int .i64 v, .int .u64 (cc.deal : Int), .int .u64 (cc.acct : Int), .int .u64 (cc.to_ : Int), .int .u64 (cc.arb : Int), .int .u64 (cc.amt : Int), .int .u64 (cc.due : Int), .string tt]) := by
        show _ = _
        unfold Cd.cells
        rw [HVT.out.1, HVT.out.2]
      clear HR
      go_wp2
      refine bodyPost_ret (v := .agg #[.int .i64 v, .int .u64 (cc.deal : Int), .int .u64 (cc.acct : Int), .int .u64 (cc.to_ : Int), .int .u64 (cc.arb : Int), .int .u64 (cc.amt : Int), .int .u64 (cc.due : Int), .string tt]) (by simp [results, Tryz.results38, go_sem, z0, z1, z2, z3, z4, z5, z6, z7]) rfl ⟨by rw [EQ.out], FIN.out _ _ _ _ _ _ _ _⟩
end Go.Proofs.YthacdhhmmmocpaaGreatDoor
