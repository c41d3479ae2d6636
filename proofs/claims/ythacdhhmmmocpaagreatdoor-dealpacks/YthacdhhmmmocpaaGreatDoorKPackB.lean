import Derived.Test.YthacdhhmmmocpaaGreatDoorM38
namespace Go.Proofs.YthacdhhmmmocpaaGreatDoor
open Go.RowKit Crc

theorem Owns.lowerK {base base' : Nat} {w : World} {v : Value} {B : List Nat} (h : Owns base w v B) (hl : base' ≤ base) : Owns base' w v B := by
  refine ⟨⟨h.1.1, ?_⟩, h.2⟩
  rcases h.1.2 with h0 | ⟨g, cap, cur, h1, h2, h3⟩
  · exact .inl h0
  · exact .inr ⟨g, cap, cur, h1, by omega, h3⟩
theorem fds_mem {v : Int} {f : Nat} (h : f ∈ fds v) : 1 ≤ f ∧ f ≤ 7 := by
  unfold fds at h
  repeat' split at h
  all_goals simp at h
  all_goals omega
theorem wrP_new (W : World) : WrP (W.heap.size + 1) (W.alloc (wNew 700)) (some ⟨W.heap.size, 0, none⟩) wsN :=
  .inr ⟨W.heap.size, rfl, .slice none 0 0, alloc_atK _ _, owns_nil _ _, by simp [Value.ownBlock]⟩
set_option maxRecDepth 10000 in
set_option maxHeartbeats 1600000 in
theorem pack_main (c : Cd) (hc : c.Ok) (w : World) (h : 1 ≤ c.verb ∧ c.verb ≤ 13) (hs : c.stray = 0) : Calls Tryz.prog 4 #[.agg c.cells] w (PackP c w) := by
  have e1 : c.pkL = if c.pkS.errC = 0 then [] else [⟨dealN, 7⟩, ⟨wireN, c.pkS.errA⟩] := by unfold Cd.pkL; rw [if_pos h, if_pos hs]
  have e2 : c.pkC = c.pkS.errC := by unfold Cd.pkC; rw [if_pos h, if_pos hs]
  have e3 : c.pkB = if c.pkS.errC = 0 then c.pkS.shown else [] := by unfold Cd.pkB; rw [if_pos h, if_pos hs]
  unfold PackP
  rw [e1, e2, e3]
  generalize hPB : (if c.pkS.errC = 0 then c.pkS.shown else []) = PB
  generalize hPL : (if c.pkS.errC = 0 then [] else [⟨dealN, 7⟩, ⟨wireN, c.pkS.errA⟩] : List Lk) = PL
  generalize hPC : c.pkS.errC = pc
  have HPB := hide hPB
  have HPL := hide hPL
  have HPC := hide hPC
  clear hPB hPL hPC
  have HV := hide (isVerb_any c.verb)
  rw [decide_eq_true h] at HV
  have HS := hide (stray_any c h.1 h.2)
  rw [hs] at HS
  have HF := hide (fieldsOf_any c.verb h.1 h.2)
  have HN := hide (numbers_any c)
  have HPS : Hid (c.pkS = (fds c.verb).foldl c.lay (wsN.put (big c.verb.toNat 1) 0)) := rfl
  have HL := hide (fds_len c.verb)
  have HM : Hid (∀ k f, (fds c.verb)[k]? = some f → 1 ≤ f ∧ f ≤ 7) := fun k f hf => fds_mem (List.mem_of_getElem? hf)
  have HCO := hide hc
  have HVN : Hid (c.verb = ((c.verb.toNat : Nat) : Int) ∧ c.verb.toNat < 256) := ⟨by omega, by omega⟩
  obtain ⟨h1, h2⟩ := h
  have hv8 : IntKind.u8.wrap c.verb = c.verb := by rw [IntKind.wrap_u8]; omega
  clear e1 e2 e3 hs hc
  unfold Cd.cells
  unfold Cd.cells at HS
  unfold Cd.cells Cd.nums at HN
  generalize c.pkS = ps at *
  obtain ⟨W1, hW1⟩ : ∃ W1, w.alloc (.cells #[.int .i64 c.verb, .int .u64 (c.deal : Int), .int .u64 (c.acct : Int), .int .u64 (c.to_ : Int), .int .u64 (c.arb : Int), .int .u64 (c.amt : Int), .int .u64 (c.due : Int), .string c.terms] 25) = W1 := ⟨_, rfl⟩
  have q1 : W1.heap[w.heap.size]? = some (.cells #[.int .i64 c.verb, .int .u64 (c.deal : Int), .int .u64 (c.acct : Int), .int .u64 (c.to_ : Int), .int .u64 (c.arb : Int), .int .u64 (c.amt : Int), .int .u64 (c.due : Int), .string c.terms] 25 (0, 0)) := by rw [← hW1]; exact alloc_atK _ _
  have b1 : Below w.heap.size w W1 := by rw [← hW1]; exact (Below.refl _ w).alloc (Nat.le_refl _) _
  have Q1 := hide q1
  have B1 := hide b1
  have HW1 := hide hW1
  clear q1 b1 hW1
  go_enter Tryz.func4, Tryz.ntmps4
  go_upto_region 1 with fail
  rw [HW1.out]
  have x0 := block_cell Q1.out 0
  have x1 := block_cell Q1.out 1
  have x2 := block_cell Q1.out 2
  have x3 := block_cell Q1.out 3
  have x4 := block_cell Q1.out 4
  have x5 := block_cell Q1.out 5
  have x6 := block_cell Q1.out 6
  have x7 := block_cell Q1.out 7
  simp at x0 x1 x2 x3 x4 x5 x6 x7
  have hlt := block_lt Q1.out
  go_wp2_with fail
  refine (HV.out _).mono ?_
  rintro e w2 ⟨rfl, hw2⟩
  rw [hw2]
  clear hw2
  go_wp2_with fail
  refine (HS.out _).mono ?_
  rintro e w3 ⟨rfl, hb3⟩
  have q3 := (hb3.out.block _ hlt).trans Q1.out
  have B3 := hide (B1.out.trans (hb3.out.mono B1.out.size))
  have Q3 := hide q3
  clear x0 x1 x2 x3 x4 x5 x6 x7 hlt hb3 q3
  have x0 := block_cell Q3.out 0
  have x1 := block_cell Q3.out 1
  have x2 := block_cell Q3.out 2
  have x3 := block_cell Q3.out 3
  have x4 := block_cell Q3.out 4
  have x5 := block_cell Q3.out 5
  have x6 := block_cell Q3.out 6
  have x7 := block_cell Q3.out 7
  simp at x0 x1 x2 x3 x4 x5 x6 x7
  have hlt := block_lt Q3.out
  go_wp2_with fail
  refine (HN.out _).mono ?_
  rintro e w4 ⟨rfl, hb4⟩
  clear x0 x1 x2 x3 x4 x5 x6 x7
  go_wp2_with fail
  obtain ⟨W5, hW5⟩ : ∃ W5, w4.alloc (.cells #[.int .u64 0, .int .u64 (c.deal : Int), .int .u64 (c.acct : Int), .int .u64 (c.to_ : Int), .int .u64 (c.arb : Int), .int .u64 (c.amt : Int), .int .u64 (c.due : Int)] 49) = W5 := ⟨_, rfl⟩
  have q4 := (hb4.out.block _ hlt).trans Q3.out
  have Q5 : Hid (W5.heap[w.heap.size]? = some (.cells #[.int .i64 c.verb, .int .u64 (c.deal : Int), .int .u64 (c.acct : Int), .int .u64 (c.to_ : Int), .int .u64 (c.arb : Int), .int .u64 (c.amt : Int), .int .u64 (c.due : Int), .string c.terms] 25 (0, 0))) := by show _ = _; rw [← hW5]; exact ((World.grownBy_alloc _ _ none).block _ (block_lt q4) (by simp)).trans q4
  have N5 : Hid (W5.heap[w4.heap.size]? = some (.cells #[.int .u64 0, .int .u64 (c.deal : Int), .int .u64 (c.acct : Int), .int .u64 (c.to_ : Int), .int .u64 (c.arb : Int), .int .u64 (c.amt : Int), .int .u64 (c.due : Int)] 49 (0, 0))) := by show _ = _; rw [← hW5]; exact alloc_atK _ _
  have B5 : Hid (Below w.heap.size w W5) := by show Below _ _ _; rw [← hW5]; exact (B3.out.trans (hb4.out.mono B3.out.size)).alloc (B3.out.trans (hb4.out.mono B3.out.size)).size _
  rw [hW5]
  clear hW5 q4 hb4 hlt Q3 Q1 B1 HW1 HN HV HS B3
  generalize w4.heap.size = nb at *
  refine (newWriter_any 700 W5).mono ?_
  rintro e W6 ⟨rfl, hW6⟩
  have WR6 : Hid (WrP (W5.heap.size + 1) W6 (some ⟨W5.heap.size, 0, none⟩) wsN) := by rw [hW6]; exact wrP_new W5
  have hs6 : W6.heap.size = W5.heap.size + 1 := by rw [hW6]; simp
  have B56 : Hid (Below W5.heap.size W5 W6) := by rw [hW6]; exact (Below.refl _ _).alloc (Nat.le_refl _) _
  have hq5 := block_lt Q5.out
  have hn5 := block_lt N5.out
  have HS6 := hide hs6
  clear hW6 hs6
  generalize hp : W5.heap.size = p at *
  have Q6 := hide ((B56.out.block _ hq5).trans Q5.out)
  have N6 := hide ((B56.out.block _ hn5).trans N5.out)
  have B6 : Hid (Below w.heap.size w W6) := B5.out.trans (B56.out.mono (by have := B5.out.size; rw [hp] at this; exact this))
  clear hp B56 Q5 N5 B5
  have HU := hide (wU8P WR6.out (by intro _; exact ⟨by decide, by simp [wsN]⟩) (by rw [HS6.out]; omega) c.verb.toNat c.verb HVN.out.1 HVN.out.2)
  have x0 := block_cell Q6.out 0
  simp at x0
  have hl6 := block_lt Q6.out
  go_wp2_with fail
  refine HU.out.mono ?_
  rintro e W7 ⟨rfl, G7⟩
  have b67 := tch_below WR6.out (by omega) G7.out.2
  have Q7 := hide ((b67.block _ hq5).trans Q6.out)
  have hs7 : W6.heap.size ≤ W7.heap.size := b67.size
  have PK7 : Hid (∀ W8 : World, W8 = W7.alloc (.cells (fieldsV (fds c.verb)).toArray 3) → Pk W6 (p + 1) p W7.heap.size (fds c.verb) (wsN.put (big c.verb.toNat 1) 0) W8) := fun W8 e => by
    have g8 : Below W7.heap.size W7 W8 := by rw [e]; exact (Below.refl _ _).alloc (Nat.le_refl _) _
    have wr8 := G7.out.1.below g8
    refine ⟨wr8, WS.put_inv (by intro _; exact ⟨by decide, by simp [wsN]⟩) _ _, ?_, b67.trans (g8.mono (by have := HS6.out; omega)), by rw [e]; exact ints_new _ _ _, ?_, by rw [e]; simp, WS.put_place (by intro _; rfl) _ _⟩
    · have := HS6.out; have := g8.size; omega
    · intro hf
      rcases hf with e1 | ⟨u, hu, e1⟩
      · have := HS6.out; omega
      · rcases G7.out.1 with ⟨e2, _⟩ | ⟨p', e2, v, hv, ho, hne⟩
        · cases e2
        cases e2
        have hpl := block_lt hv
        rw [g8.cell (p := ⟨p, 4, none⟩) hpl, block_cell hv 4] at hu
        simp at hu
        subst hu
        have := (ho.1.lt _ e1).2
        omega
  have Q6b := hide Q6.out
  clear x0 hl6 HU b67 G7 Q6
  have x0 := block_cell Q7.out 0
  simp at x0
  have hl7 := block_lt Q7.out
  go_wp2_with fail
  refine (HF.out W7).mono ?_
  rintro e W8 ⟨rfl, hW8⟩
  have PK8 := hide (PK7.out W8 hW8)
  clear x0 hl7 PK7 HF hW8 Q7 WR6
  generalize W7.heap.size = fb at *
  generalize hsz : (fds c.verb).length = fl at *
  have HFL := hide hsz
  clear hsz
  obtain ⟨hf1, hf7⟩ := HL.out
  generalize hs0 : wsN.put (big c.verb.toNat 1) 0 = s0 at *
  clear hs0
  go_wp2
  go_loopw [36] (fun i wr => ∃ k : Nat, k ≤ fl ∧ i = .int .i64 k ∧ Hid (Pk W6 (p + 1) p fb (fds c.verb) (((fds c.verb).take k).foldl c.lay s0) wr)) (fun i _ => fl - (intOf i).toNat)
  case atStart => exact ⟨0, by omega, rfl, PK8.out⟩
  case round =>
    obtain ⟨k, hk, rfl, PKR⟩ := hrel
    clear PK8
    have q := (PKR.out.bel.block _ hq5).trans Q6b.out
    have n := (PKR.out.bel.block _ hn5).trans N6.out
    have hlq := block_lt q
    have hln := block_lt n
    have hbw := HS6.out
    have hpw : p + 1 ≤ wr.heap.size := PKR.out.bs
    by_cases hlt : k < fl
    · obtain ⟨f, hf⟩ : ∃ f, (fds c.verb)[k]? = some f := ⟨_, List.getElem?_eq_getElem (by rw [HFL.out]; exact hlt)⟩
      have c0 := PKR.out.ints k f hf
      have hfb := PKR.out.lt
      have HFO : Hid (((fds c.verb).take (k + 1)).foldl c.lay s0 = c.lay (((fds c.verb).take k).foldl c.lay s0) f) := by
        show _ = _
        rw [List.take_add_one, hf]
        simp
      obtain ⟨hf1', hf7'⟩ := HM.out k f hf
      clear hf
      generalize ((fds c.verb).take k).foldl c.lay s0 = ss at *
      rcases (by omega : f = 7 ∨ f = 1 ∨ f = 2 ∨ f = 3 ∨ f = 4 ∨ f = 5 ∨ f = 6) with rfl | rfl | rfl | rfl | rfl | rfl | rfl
      · have x7 := block_cell q 7
        simp at x7
        have HT := hide (wTextP PKR.out.wr PKR.out.inv PKR.out.bs c.terms 512 (by have := HCO.out.terms; omega))
        have NX : Hid (∀ W', WrP (p + 1) W' (some ⟨p, 0, none⟩) (ss.put (numB c.terms.size ++ strB c.terms) (txtY c.terms 512)) ∧ TchP wr W' (some ⟨p, 0, none⟩) → Pk W6 (p + 1) p fb (fds c.verb) (((fds c.verb).take (k + 1)).foldl c.lay s0) W') := fun W' h => by
          rw [HFO.out]
          exact PKR.out.step (by omega) h
        go_wp2_with fail
        refine HT.out.mono ?_
        rintro e W' ⟨rfl, G⟩
        go_wp2
        go_roundw
        case rel => exact ⟨k + 1, by omega, by go_num, NX.out _ G.out⟩
        case measure => simp [intOf]; omega
      · have y := block_cell n 1
        simp at y
        have HT := hide (wNumP PKR.out.wr PKR.out.inv PKR.out.bs c.deal (c.deal : Int) rfl (HCO.out.num 1))
        have NX : Hid (∀ W', WrP (p + 1) W' (some ⟨p, 0, none⟩) (ss.put (numB c.deal) 0) ∧ TchP wr W' (some ⟨p, 0, none⟩) → Pk W6 (p + 1) p fb (fds c.verb) (((fds c.verb).take (k + 1)).foldl c.lay s0) W') := fun W' h => by
          rw [HFO.out]
          exact PKR.out.step (by omega) h
        go_wp2_with fail
        refine HT.out.mono ?_
        rintro e W' ⟨rfl, G⟩
        go_wp2
        go_roundw
        case rel => exact ⟨k + 1, by omega, by go_num, NX.out _ G.out⟩
        case measure => simp [intOf]; omega
      · have y := block_cell n 2
        simp at y
        have HT := hide (wNumP PKR.out.wr PKR.out.inv PKR.out.bs c.acct (c.acct : Int) rfl (HCO.out.num 2))
        have NX : Hid (∀ W', WrP (p + 1) W' (some ⟨p, 0, none⟩) (ss.put (numB c.acct) 0) ∧ TchP wr W' (some ⟨p, 0, none⟩) → Pk W6 (p + 1) p fb (fds c.verb) (((fds c.verb).take (k + 1)).foldl c.lay s0) W') := fun W' h => by
          rw [HFO.out]
          exact PKR.out.step (by omega) h
        go_wp2_with fail
        refine HT.out.mono ?_
        rintro e W' ⟨rfl, G⟩
        go_wp2
        go_roundw
        case rel => exact ⟨k + 1, by omega, by go_num, NX.out _ G.out⟩
        case measure => simp [intOf]; omega
      · have y := block_cell n 3
        simp at y
        have HT := hide (wNumP PKR.out.wr PKR.out.inv PKR.out.bs c.to_ (c.to_ : Int) rfl (HCO.out.num 3))
        have NX : Hid (∀ W', WrP (p + 1) W' (some ⟨p, 0, none⟩) (ss.put (numB c.to_) 0) ∧ TchP wr W' (some ⟨p, 0, none⟩) → Pk W6 (p + 1) p fb (fds c.verb) (((fds c.verb).take (k + 1)).foldl c.lay s0) W') := fun W' h => by
          rw [HFO.out]
          exact PKR.out.step (by omega) h
        go_wp2_with fail
        refine HT.out.mono ?_
        rintro e W' ⟨rfl, G⟩
        go_wp2
        go_roundw
        case rel => exact ⟨k + 1, by omega, by go_num, NX.out _ G.out⟩
        case measure => simp [intOf]; omega
      · have y := block_cell n 4
        simp at y
        have HT := hide (wNumP PKR.out.wr PKR.out.inv PKR.out.bs c.arb (c.arb : Int) rfl (HCO.out.num 4))
        have NX : Hid (∀ W', WrP (p + 1) W' (some ⟨p, 0, none⟩) (ss.put (numB c.arb) 0) ∧ TchP wr W' (some ⟨p, 0, none⟩) → Pk W6 (p + 1) p fb (fds c.verb) (((fds c.verb).take (k + 1)).foldl c.lay s0) W') := fun W' h => by
          rw [HFO.out]
          exact PKR.out.step (by omega) h
        go_wp2_with fail
        refine HT.out.mono ?_
        rintro e W' ⟨rfl, G⟩
        go_wp2
        go_roundw
        case rel => exact ⟨k + 1, by omega, by go_num, NX.out _ G.out⟩
        case measure => simp [intOf]; omega
      · have y := block_cell n 5
        simp at y
        have HT := hide (wNumP PKR.out.wr PKR.out.inv PKR.out.bs c.amt (c.amt : Int) rfl (HCO.out.num 5))
        have NX : Hid (∀ W', WrP (p + 1) W' (some ⟨p, 0, none⟩) (ss.put (numB c.amt) 0) ∧ TchP wr W' (some ⟨p, 0, none⟩) → Pk W6 (p + 1) p fb (fds c.verb) (((fds c.verb).take (k + 1)).foldl c.lay s0) W') := fun W' h => by
          rw [HFO.out]
          exact PKR.out.step (by omega) h
        go_wp2_with fail
        refine HT.out.mono ?_
        rintro e W' ⟨rfl, G⟩
        go_wp2
        go_roundw
        case rel => exact ⟨k + 1, by omega, by go_num, NX.out _ G.out⟩
        case measure => simp [intOf]; omega
      · have y := block_cell n 6
        simp at y
        have HT := hide (wNumP PKR.out.wr PKR.out.inv PKR.out.bs c.due (c.due : Int) rfl (HCO.out.num 6))
        have NX : Hid (∀ W', WrP (p + 1) W' (some ⟨p, 0, none⟩) (ss.put (numB c.due) 0) ∧ TchP wr W' (some ⟨p, 0, none⟩) → Pk W6 (p + 1) p fb (fds c.verb) (((fds c.verb).take (k + 1)).foldl c.lay s0) W') := fun W' h => by
          rw [HFO.out]
          exact PKR.out.step (by omega) h
        go_wp2_with fail
        refine HT.out.mono ?_
        rintro e W' ⟨rfl, G⟩
        go_wp2
        go_roundw
        case rel => exact ⟨k + 1, by omega, by go_num, NX.out _ G.out⟩
        case measure => simp [intOf]; omega
    · obtain rfl : k = fl := by omega
      have hfold : ((fds c.verb).take k).foldl c.lay s0 = ps := by rw [List.take_of_length_le (by rw [HFL.out]; omega)]; exact HPS.out.symm
      rw [hfold] at PKR
      have HBY := hide (wBytesP PKR.out.wr PKR.out.pl)
      have BW : Hid (Below w.heap.size w wr) := B6.out.trans (PKR.out.bel.mono (by omega))
      clear hfold
      go_wp2_with fail
      refine HBY.out.mono ?_
      rintro e W9 ⟨v, x, rfl, G9⟩
      obtain ⟨o9, e9, b9⟩ := G9.out
      have B9 := hide (BW.out.trans (b9.mono BW.out.size))
      rcases e9 with ⟨rfl, hc0, -⟩ | ⟨hfault, hc0⟩
      · have FIN : Hid (Owns w.heap.size W9 v PB ∧ PL = [] ∧ pc = 0) := ⟨by rw [← HPB.out, if_pos hc0]; exact o9.lowerK BW.out.size, by rw [← HPL.out, if_pos hc0], HPC.out.symm.trans hc0⟩
        obtain ⟨fo, fc, rfl, -, -⟩ := o9.form
        clear o9 b9 G9 hc0
        go_wp2
        go_ret2
        exact ⟨_, _, rfl, FIN.out.1, .inl ⟨rfl, FIN.out.2⟩, B9.out⟩
      · have HRF := hide (refusalD 7 hfault.chain)
        obtain ⟨gx, rfl, -⟩ := hfault
        obtain ⟨fo, fc, rfl, -, -⟩ := o9.form
        have FIN : Hid (PB = [] ∧ PL = [⟨dealN, 7⟩, ⟨wireN, ps.errA⟩] ∧ pc = ps.errC ∧ pc ≠ 0) := ⟨by rw [← HPB.out, if_neg hc0], by rw [← HPL.out, if_neg hc0], HPC.out.symm, by rw [← HPC.out]; exact hc0⟩
        clear b9 G9 o9 hc0
        go_wp2_with fail
        refine HRF.out.mono ?_
        rintro e W10 ⟨g10, rfl, G10⟩
        go_wp2
        go_ret2
        obtain ⟨f1, f2, f3, f4⟩ := FIN.out
        refine ⟨_, _, rfl, by rw [f1]; exact owns_nil _ _, .inr ⟨by rw [f2, f3]; exact G10.out.1, by rw [f2]; simp, by rw [f2]; simp, f4⟩, B9.out.trans (G10.out.2.mono B9.out.size)⟩
theorem pack_any (c : Cd) (hc : c.Ok) (w : World) : Calls Tryz.prog 4 #[.agg c.cells] w (PackP c w) := by
  by_cases h : 1 ≤ c.verb ∧ c.verb ≤ 13
  · by_cases hs : c.stray = 0
    · exact pack_main c hc w h hs
    · exact pack_stray c w h hs
  · exact pack_bad c w h
end Go.Proofs.YthacdhhmmmocpaaGreatDoor
