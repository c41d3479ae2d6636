import Derived.Test.YthacdhhmmmocpaaGreatDoorM40
namespace Go.Proofs.YthacdhhmmmocpaaGreatDoor
open Go.RowKit Crc

/-- The field of a number has something in it though the verb does not use it (the terms too). -/
def Cd.odd (c : Cd) (f : Nat) : Prop := (c.num f ≠ 0 ∨ (f = 7 ∧ c.terms.toList.isEmpty = false)) ∧ f ∉ fds c.verb
theorem odd_stray {c : Cd} {k : Nat} (h1 : 1 ≤ k) (h7 : k ≤ 7) (hn : ∀ j, 1 ≤ j → j < k → ¬ c.odd j) (h : c.odd k) : c.stray = k := by
  have hs : ∀ j, 1 ≤ j → j < k → ¬ c.strayAt j := fun j a b e => hn j a b ⟨.inl e.1, e.2⟩
  by_cases h6 : k ≤ 6
  · refine stray_of h1 h6 hs ⟨?_, h.2⟩
    rcases h.1 with e | e
    · exact e
    · omega
  · obtain rfl : k = 7 := by omega
    rw [stray_end hs, if_pos]
    refine ⟨?_, h.2⟩
    rcases h.1 with e | e
    · exact absurd rfl e
    · exact e.2
theorem odd_none {c : Cd} (hn : ∀ j, 1 ≤ j → j < 8 → ¬ c.odd j) : c.stray = 0 := by
  rw [stray_end (fun j a b e => hn j a (by omega) ⟨.inl e.1, e.2⟩), if_neg]
  exact fun e => hn 7 (by omega) (by omega) ⟨.inr ⟨rfl, e.1⟩, e.2⟩
theorem fds_six {v : Int} {f : Nat} (h : (fds v)[6]? = some f) : f = 7 := by
  unfold fds at h
  repeat' split at h
  all_goals simp at h
  exact h.symm
set_option maxRecDepth 10000 in
set_option maxHeartbeats 8000000 in
theorem rpack_main (c : Cd) (w : World) (h1 : 1 ≤ c.verb) (h2 : c.verb ≤ 13) {PB : List Nat} {PL : List Lk} {PC : Int} (HST : Hid (∀ k : Nat, c.stray = k → k ≠ 0 → PB = [] ∧ PL = [⟨dealN, (k : Int)⟩] ∧ PC = 100)) (hc : c.Ok) (HOK : Hid (c.stray = 0 → (c.verb = 4 → txtY c.terms 512 = 0) → PB = c.bts (fds c.verb).length ∧ PL = [] ∧ PC = 0)) (HBD : Hid (c.stray = 0 → c.verb = 4 → txtY c.terms 512 ≠ 0 → PB = [] ∧ PL = [⟨dealN, 7⟩, ⟨wireN, ((c.bts 6).length : Int)⟩] ∧ PC = txtY c.terms 512)) : Calls Tryz.prog 5 #[.agg c.cells] w (RpP w PB PL PC) := by
  have HU : Hid (∀ f : Nat, 1 ≤ f ∧ f ≤ 7 → ∀ W, Calls Tryz.prog 24 #[.int .i64 c.verb, .int .u8 ((ltr f : Nat) : Int)] W fun e w' => e = .returned (.bool (decide (f ∈ fds c.verb))) ∧ w' = W) := fun f hf W => uses5 c.verb h1 h2 f hf W
  have HNM : Hid (∀ f : Nat, 1 ≤ f ∧ f ≤ 7 → ∀ W, Calls Tryz.prog 25 #[.agg c.cells, .int .u8 ((ltr f : Nat) : Int)] W fun e w' => e = .returned (.int .u64 (c.num f : Int)) ∧ Hid (Below W.heap.size W w')) := fun f hf W => number5 c f hf W
  have HOD : Hid (∀ k, 1 ≤ k → k ≤ 7 → (∀ j, 1 ≤ j → j < k → ¬ c.odd j) → c.odd k → c.stray = k) := fun k a b hn h => odd_stray a b hn h
  have HON : Hid ((∀ j, 1 ≤ j → j < 8 → ¬ c.odd j) → c.stray = 0) := fun h => odd_none h
  have HFI := hide (fields5 c.verb h1 h2)
  have HFS := hide (fstr_is h1 h2)
  have HC := hide hc
  have HVN : Hid (c.verb = ((c.verb.toNat : Nat) : Int) ∧ c.verb.toNat < 256) := ⟨by omega, by omega⟩
  have hv8 : IntKind.u8.wrap c.verb = c.verb := by rw [IntKind.wrap_u8]; omega
  clear hc
  have HNO : Hid (∀ (k : Int) W, Calls Tryz.prog 23 #[.int .i64 100, .int .i64 k] W (FvP W [⟨dealN, k⟩] 100)) := fun k W => no5 100 k W
  unfold FvP at HNO
  unfold RpP
  unfold Cd.cells
  unfold Cd.cells at HNM
  obtain ⟨W2, hW2⟩ : ∃ W2, (w.alloc (.cells #[.int .i64 c.verb, .int .u64 (c.deal : Int), .int .u64 (c.acct : Int), .int .u64 (c.to_ : Int), .int .u64 (c.arb : Int), .int .u64 (c.amt : Int), .int .u64 (c.due : Int), .string c.terms] 25)).alloc (.cells #[.slice none 0 0, .int .i64 0] 33) = W2 := ⟨_, rfl⟩
  have R2 := hide (rp_new w c)
  rw [hW2] at R2
  have HW2 := hide hW2
  clear hW2
  have x0 := block_cell R2.out.box 0
  simp at x0
  have hl := block_lt R2.out.box
  have d1 : decide (c.verb < 1) = false := by simp; omega
  have d2 : decide (c.verb > 13) = false := by simp; omega
  go_enter Tryz.func5, Tryz.ntmps5
  go_upto_region 1 with fail
  rw [HW2.out]
  go_wp2
  clear x0 hl d1 d2
  go_loopw [5] (fun i wr => ∃ k : Nat, k ≤ 7 ∧ i = .int .i64 k ∧ Hid (Rp w c wr ∧ ∀ j, 1 ≤ j → j < k + 1 → ¬ c.odd j)) (fun i _ => 7 - (intOf i).toNat)
  case atStart => exact ⟨0, by omega, rfl, R2.out, fun j a b => by omega⟩
  case round =>
    obtain ⟨k, hk, rfl, HR⟩ := hrel
    clear R2 HW2
    have x0 := block_cell HR.out.1.box 0
    have x1 := block_cell HR.out.1.box 1
    have x2 := block_cell HR.out.1.box 2
    have x3 := block_cell HR.out.1.box 3
    have x4 := block_cell HR.out.1.box 4
    have x5 := block_cell HR.out.1.box 5
    have x6 := block_cell HR.out.1.box 6
    have x7 := block_cell HR.out.1.box 7
    simp at x0 x1 x2 x3 x4 x5 x6 x7
    have hl := block_lt HR.out.1.box
    have NX : Hid (∀ W', Below wr.heap.size wr W' → ¬ c.odd (k + 1) → Rp w c W' ∧ ∀ j, 1 ≤ j → j < k + 1 + 1 → ¬ c.odd j) := fun W' hb ho => ⟨HR.out.1.next hb, fun j a b => by
      by_cases hj : j < k + 1
      · exact HR.out.2 j a hj
      · obtain rfl : j = k + 1 := by omega
        exact ho⟩
    have FAIL : Hid (c.odd (k + 1) → k < 7 → PB = [] ∧ PL = [⟨dealN, ((k + 1 : Nat) : Int)⟩] ∧ PC = 100) := fun h hk => HST.out (k + 1) (HOD.out (k + 1) (by omega) (by omega) HR.out.2 h) (by omega)
    by_cases hlt : k < 7
    · obtain ⟨q, hq⟩ : ∃ q : Bool, decide (k + 1 ∈ fds c.verb) = q := ⟨_, rfl⟩
      have HQ := hide (HU.out (k + 1) ⟨by omega, by omega⟩ wr)
      rw [hq] at HQ
      have HMM : Hid (q = true ↔ k + 1 ∈ fds c.verb) := by show _ ↔ _; rw [← hq]; simp
      have HN := hide (HNM.out (k + 1) ⟨by omega, by omega⟩ wr)
      have HNR := hide (HNO.out ((k + 1 : Nat) : Int))
      have KR := hide HR.out.1
      clear hq
      rcases (by omega : k = 0 ∨ k = 1 ∨ k = 2 ∨ k = 3 ∨ k = 4 ∨ k = 5 ∨ k = 6) with rfl | rfl | rfl | rfl | rfl | rfl | rfl
      · have HQ : Hid (Calls Tryz.prog 24 #[.int .i64 c.verb, .int .u8 68] wr fun e w' => e = .returned (.bool q) ∧ w' = wr) := HQ.out
        have HN : Hid (Calls Tryz.prog 25 #[.agg #[.int .i64 c.verb, .int .u64 (c.deal : Int), .int .u64 (c.acct : Int), .int .u64 (c.to_ : Int), .int .u64 (c.arb : Int), .int .u64 (c.amt : Int), .int .u64 (c.due : Int), .string c.terms], .int .u8 68] wr fun e w' => e = .returned (.int .u64 ((c.deal : Int))) ∧ Hid (Below wr.heap.size wr w')) := HN.out
        have HNR : Hid (∀ W, Calls Tryz.prog 23 #[.int .i64 100, .int .i64 1] W fun e w' => ∃ ao cap, e = .returned (.agg #[.slice ao 1 cap, .int .i64 100]) ∧ Hid (∃ b off, FV w'.heap.size w' ao [⟨dealN, 1⟩] b off ∧ Below W.heap.size W w')) := HNR.out
        go_wp2_with fail
        refine HQ.out.mono ?_
        rintro e w3 ⟨rfl, hw3⟩
        rw [hw3]
        clear hw3
        cases q with
        | true =>
          go_wp2
          go_roundw
          case rel => exact ⟨1, by omega, by go_num, NX.out _ (Below.refl _ _) (fun h => h.2 (HMM.out.1 (by trivial)))⟩
          case measure => simp [intOf]
        | false =>
          go_wp2_with fail
          refine HN.out.mono ?_
          rintro e w4 ⟨rfl, hb4⟩
          have R4 := hide (KR.out.next hb4.out)
          have HNF : Hid (c.num 1 = c.deal) := rfl
          by_cases hz : c.deal = 0
          · have hd : ((c.deal : Int) != 0) = false := by simp [hz]
            have HZ := hide hz
            clear hz
            go_wp2
            go_roundw
            case rel => exact ⟨1, by omega, by go_num, NX.out _ hb4.out (fun h => by
              rcases h.1 with e | e
              · rw [HNF.out] at e; exact e HZ.out
              · exact absurd e.1 (by omega))⟩
            case measure => simp [intOf]
          · have hd : ((c.deal : Int) != 0) = true := by simp; omega
            have FL := hide (FAIL.out ⟨.inl (by show c.num 1 ≠ 0; rw [HNF.out]; exact hz), fun h => Bool.noConfusion (HMM.out.2 h)⟩ (by omega))
            clear hz
            go_wp2_with fail
            refine (HNR.out w4).mono ?_
            rintro e w5 ⟨ao, cap, rfl, G⟩
            obtain ⟨b, off, hf, hb⟩ := G.out
            have qr := (R4.out.next hb).res
            have y0 := block_cell qr 0
            have y1 := block_cell qr 1
            have f0 := block_free qr 0
            have f1 := block_free qr 1
            have hl5 := block_lt qr
            simp at y0 y1
            have FIN : Hid (∀ x y, FV ((w5.setCell ⟨w.heap.size + 1, 0, none⟩ x).setCell ⟨w.heap.size + 1, 1, none⟩ y).heap.size ((w5.setCell ⟨w.heap.size + 1, 0, none⟩ x).setCell ⟨w.heap.size + 1, 1, none⟩ y) ao [⟨dealN, 1⟩] b off ∧ Below w.heap.size w ((w5.setCell ⟨w.heap.size + 1, 0, none⟩ x).setCell ⟨w.heap.size + 1, 1, none⟩ y)) := fun x y => rp_end R4.out hf hb x y
            clear qr hf hb G x0 x1 x2 x3 x4 x5 x6 x7 hl
            go_wp2
            obtain ⟨e1, e2, e3⟩ := FL.out
            refine bodyPost_ret (v := .tuple #[.slice none 0 0, .agg #[.slice ao 1 cap, .int .i64 100]]) (by simp [results, Tryz.results5, go_sem, y0, y1]) rfl ⟨_, ao, cap, by rw [e2, e3]; rfl, by rw [e1]; exact owns_nil _ _, ⟨b, off, by rw [e2]; exact (FIN.out _ _).1⟩, (FIN.out _ _).2⟩
      · have HQ : Hid (Calls Tryz.prog 24 #[.int .i64 c.verb, .int .u8 65] wr fun e w' => e = .returned (.bool q) ∧ w' = wr) := HQ.out
        have HN : Hid (Calls Tryz.prog 25 #[.agg #[.int .i64 c.verb, .int .u64 (c.deal : Int), .int .u64 (c.acct : Int), .int .u64 (c.to_ : Int), .int .u64 (c.arb : Int), .int .u64 (c.amt : Int), .int .u64 (c.due : Int), .string c.terms], .int .u8 65] wr fun e w' => e = .returned (.int .u64 ((c.acct : Int))) ∧ Hid (Below wr.heap.size wr w')) := HN.out
        have HNR : Hid (∀ W, Calls Tryz.prog 23 #[.int .i64 100, .int .i64 2] W fun e w' => ∃ ao cap, e = .returned (.agg #[.slice ao 1 cap, .int .i64 100]) ∧ Hid (∃ b off, FV w'.heap.size w' ao [⟨dealN, 2⟩] b off ∧ Below W.heap.size W w')) := HNR.out
        go_wp2_with fail
        refine HQ.out.mono ?_
        rintro e w3 ⟨rfl, hw3⟩
        rw [hw3]
        clear hw3
        cases q with
        | true =>
          go_wp2
          go_roundw
          case rel => exact ⟨2, by omega, by go_num, NX.out _ (Below.refl _ _) (fun h => h.2 (HMM.out.1 (by trivial)))⟩
          case measure => simp [intOf]
        | false =>
          go_wp2_with fail
          refine HN.out.mono ?_
          rintro e w4 ⟨rfl, hb4⟩
          have R4 := hide (KR.out.next hb4.out)
          have HNF : Hid (c.num 2 = c.acct) := rfl
          by_cases hz : c.acct = 0
          · have hd : ((c.acct : Int) != 0) = false := by simp [hz]
            have HZ := hide hz
            clear hz
            go_wp2
            go_roundw
            case rel => exact ⟨2, by omega, by go_num, NX.out _ hb4.out (fun h => by
              rcases h.1 with e | e
              · rw [HNF.out] at e; exact e HZ.out
              · exact absurd e.1 (by omega))⟩
            case measure => simp [intOf]
          · have hd : ((c.acct : Int) != 0) = true := by simp; omega
            have FL := hide (FAIL.out ⟨.inl (by show c.num 2 ≠ 0; rw [HNF.out]; exact hz), fun h => Bool.noConfusion (HMM.out.2 h)⟩ (by omega))
            clear hz
            go_wp2_with fail
            refine (HNR.out w4).mono ?_
            rintro e w5 ⟨ao, cap, rfl, G⟩
            obtain ⟨b, off, hf, hb⟩ := G.out
            have qr := (R4.out.next hb).res
            have y0 := block_cell qr 0
            have y1 := block_cell qr 1
            have f0 := block_free qr 0
            have f1 := block_free qr 1
            have hl5 := block_lt qr
            simp at y0 y1
            have FIN : Hid (∀ x y, FV ((w5.setCell ⟨w.heap.size + 1, 0, none⟩ x).setCell ⟨w.heap.size + 1, 1, none⟩ y).heap.size ((w5.setCell ⟨w.heap.size + 1, 0, none⟩ x).setCell ⟨w.heap.size + 1, 1, none⟩ y) ao [⟨dealN, 2⟩] b off ∧ Below w.heap.size w ((w5.setCell ⟨w.heap.size + 1, 0, none⟩ x).setCell ⟨w.heap.size + 1, 1, none⟩ y)) := fun x y => rp_end R4.out hf hb x y
            clear qr hf hb G x0 x1 x2 x3 x4 x5 x6 x7 hl
            go_wp2
            obtain ⟨e1, e2, e3⟩ := FL.out
            refine bodyPost_ret (v := .tuple #[.slice none 0 0, .agg #[.slice ao 1 cap, .int .i64 100]]) (by simp [results, Tryz.results5, go_sem, y0, y1]) rfl ⟨_, ao, cap, by rw [e2, e3]; rfl, by rw [e1]; exact owns_nil _ _, ⟨b, off, by rw [e2]; exact (FIN.out _ _).1⟩, (FIN.out _ _).2⟩
      · have HQ : Hid (Calls Tryz.prog 24 #[.int .i64 c.verb, .int .u8 84] wr fun e w' => e = .returned (.bool q) ∧ w' = wr) := HQ.out
        have HN : Hid (Calls Tryz.prog 25 #[.agg #[.int .i64 c.verb, .int .u64 (c.deal : Int), .int .u64 (c.acct : Int), .int .u64 (c.to_ : Int), .int .u64 (c.arb : Int), .int .u64 (c.amt : Int), .int .u64 (c.due : Int), .string c.terms], .int .u8 84] wr fun e w' => e = .returned (.int .u64 ((c.to_ : Int))) ∧ Hid (Below wr.heap.size wr w')) := HN.out
        have HNR : Hid (∀ W, Calls Tryz.prog 23 #[.int .i64 100, .int .i64 3] W fun e w' => ∃ ao cap, e = .returned (.agg #[.slice ao 1 cap, .int .i64 100]) ∧ Hid (∃ b off, FV w'.heap.size w' ao [⟨dealN, 3⟩] b off ∧ Below W.heap.size W w')) := HNR.out
        go_wp2_with fail
        refine HQ.out.mono ?_
        rintro e w3 ⟨rfl, hw3⟩
        rw [hw3]
        clear hw3
        cases q with
        | true =>
          go_wp2
          go_roundw
          case rel => exact ⟨3, by omega, by go_num, NX.out _ (Below.refl _ _) (fun h => h.2 (HMM.out.1 (by trivial)))⟩
          case measure => simp [intOf]
        | false =>
          go_wp2_with fail
          refine HN.out.mono ?_
          rintro e w4 ⟨rfl, hb4⟩
          have R4 := hide (KR.out.next hb4.out)
          have HNF : Hid (c.num 3 = c.to_) := rfl
          by_cases hz : c.to_ = 0
          · have hd : ((c.to_ : Int) != 0) = false := by simp [hz]
            have HZ := hide hz
            clear hz
            go_wp2
            go_roundw
            case rel => exact ⟨3, by omega, by go_num, NX.out _ hb4.out (fun h => by
              rcases h.1 with e | e
              · rw [HNF.out] at e; exact e HZ.out
              · exact absurd e.1 (by omega))⟩
            case measure => simp [intOf]
          · have hd : ((c.to_ : Int) != 0) = true := by simp; omega
            have FL := hide (FAIL.out ⟨.inl (by show c.num 3 ≠ 0; rw [HNF.out]; exact hz), fun h => Bool.noConfusion (HMM.out.2 h)⟩ (by omega))
            clear hz
            go_wp2_with fail
            refine (HNR.out w4).mono ?_
            rintro e w5 ⟨ao, cap, rfl, G⟩
            obtain ⟨b, off, hf, hb⟩ := G.out
            have qr := (R4.out.next hb).res
            have y0 := block_cell qr 0
            have y1 := block_cell qr 1
            have f0 := block_free qr 0
            have f1 := block_free qr 1
            have hl5 := block_lt qr
            simp at y0 y1
            have FIN : Hid (∀ x y, FV ((w5.setCell ⟨w.heap.size + 1, 0, none⟩ x).setCell ⟨w.heap.size + 1, 1, none⟩ y).heap.size ((w5.setCell ⟨w.heap.size + 1, 0, none⟩ x).setCell ⟨w.heap.size + 1, 1, none⟩ y) ao [⟨dealN, 3⟩] b off ∧ Below w.heap.size w ((w5.setCell ⟨w.heap.size + 1, 0, none⟩ x).setCell ⟨w.heap.size + 1, 1, none⟩ y)) := fun x y => rp_end R4.out hf hb x y
            clear qr hf hb G x0 x1 x2 x3 x4 x5 x6 x7 hl
            go_wp2
            obtain ⟨e1, e2, e3⟩ := FL.out
            refine bodyPost_ret (v := .tuple #[.slice none 0 0, .agg #[.slice ao 1 cap, .int .i64 100]]) (by simp [results, Tryz.results5, go_sem, y0, y1]) rfl ⟨_, ao, cap, by rw [e2, e3]; rfl, by rw [e1]; exact owns_nil _ _, ⟨b, off, by rw [e2]; exact (FIN.out _ _).1⟩, (FIN.out _ _).2⟩
      · have HQ : Hid (Calls Tryz.prog 24 #[.int .i64 c.verb, .int .u8 82] wr fun e w' => e = .returned (.bool q) ∧ w' = wr) := HQ.out
        have HN : Hid (Calls Tryz.prog 25 #[.agg #[.int .i64 c.verb, .int .u64 (c.deal : Int), .int .u64 (c.acct : Int), .int .u64 (c.to_ : Int), .int .u64 (c.arb : Int), .int .u64 (c.amt : Int), .int .u64 (c.due : Int), .string c.terms], .int .u8 82] wr fun e w' => e = .returned (.int .u64 ((c.arb : Int))) ∧ Hid (Below wr.heap.size wr w')) := HN.out
        have HNR : Hid (∀ W, Calls Tryz.prog 23 #[.int .i64 100, .int .i64 4] W fun e w' => ∃ ao cap, e = .returned (.agg #[.slice ao 1 cap, .int .i64 100]) ∧ Hid (∃ b off, FV w'.heap.size w' ao [⟨dealN, 4⟩] b off ∧ Below W.heap.size W w')) := HNR.out
        go_wp2_with fail
        refine HQ.out.mono ?_
        rintro e w3 ⟨rfl, hw3⟩
        rw [hw3]
        clear hw3
        cases q with
        | true =>
          go_wp2
          go_roundw
          case rel => exact ⟨4, by omega, by go_num, NX.out _ (Below.refl _ _) (fun h => h.2 (HMM.out.1 (by trivial)))⟩
          case measure => simp [intOf]
        | false =>
          go_wp2_with fail
          refine HN.out.mono ?_
          rintro e w4 ⟨rfl, hb4⟩
          have R4 := hide (KR.out.next hb4.out)
          have HNF : Hid (c.num 4 = c.arb) := rfl
          by_cases hz : c.arb = 0
          · have hd : ((c.arb : Int) != 0) = false := by simp [hz]
            have HZ := hide hz
            clear hz
            go_wp2
            go_roundw
            case rel => exact ⟨4, by omega, by go_num, NX.out _ hb4.out (fun h => by
              rcases h.1 with e | e
              · rw [HNF.out] at e; exact e HZ.out
              · exact absurd e.1 (by omega))⟩
            case measure => simp [intOf]
          · have hd : ((c.arb : Int) != 0) = true := by simp; omega
            have FL := hide (FAIL.out ⟨.inl (by show c.num 4 ≠ 0; rw [HNF.out]; exact hz), fun h => Bool.noConfusion (HMM.out.2 h)⟩ (by omega))
            clear hz
            go_wp2_with fail
            refine (HNR.out w4).mono ?_
            rintro e w5 ⟨ao, cap, rfl, G⟩
            obtain ⟨b, off, hf, hb⟩ := G.out
            have qr := (R4.out.next hb).res
            have y0 := block_cell qr 0
            have y1 := block_cell qr 1
            have f0 := block_free qr 0
            have f1 := block_free qr 1
            have hl5 := block_lt qr
            simp at y0 y1
            have FIN : Hid (∀ x y, FV ((w5.setCell ⟨w.heap.size + 1, 0, none⟩ x).setCell ⟨w.heap.size + 1, 1, none⟩ y).heap.size ((w5.setCell ⟨w.heap.size + 1, 0, none⟩ x).setCell ⟨w.heap.size + 1, 1, none⟩ y) ao [⟨dealN, 4⟩] b off ∧ Below w.heap.size w ((w5.setCell ⟨w.heap.size + 1, 0, none⟩ x).setCell ⟨w.heap.size + 1, 1, none⟩ y)) := fun x y => rp_end R4.out hf hb x y
            clear qr hf hb G x0 x1 x2 x3 x4 x5 x6 x7 hl
            go_wp2
            obtain ⟨e1, e2, e3⟩ := FL.out
            refine bodyPost_ret (v := .tuple #[.slice none 0 0, .agg #[.slice ao 1 cap, .int .i64 100]]) (by simp [results, Tryz.results5, go_sem, y0, y1]) rfl ⟨_, ao, cap, by rw [e2, e3]; rfl, by rw [e1]; exact owns_nil _ _, ⟨b, off, by rw [e2]; exact (FIN.out _ _).1⟩, (FIN.out _ _).2⟩
      · have HQ : Hid (Calls Tryz.prog 24 #[.int .i64 c.verb, .int .u8 77] wr fun e w' => e = .returned (.bool q) ∧ w' = wr) := HQ.out
        have HN : Hid (Calls Tryz.prog 25 #[.agg #[.int .i64 c.verb, .int .u64 (c.deal : Int), .int .u64 (c.acct : Int), .int .u64 (c.to_ : Int), .int .u64 (c.arb : Int), .int .u64 (c.amt : Int), .int .u64 (c.due : Int), .string c.terms], .int .u8 77] wr fun e w' => e = .returned (.int .u64 ((c.amt : Int))) ∧ Hid (Below wr.heap.size wr w')) := HN.out
        have HNR : Hid (∀ W, Calls Tryz.prog 23 #[.int .i64 100, .int .i64 5] W fun e w' => ∃ ao cap, e = .returned (.agg #[.slice ao 1 cap, .int .i64 100]) ∧ Hid (∃ b off, FV w'.heap.size w' ao [⟨dealN, 5⟩] b off ∧ Below W.heap.size W w')) := HNR.out
        go_wp2_with fail
        refine HQ.out.mono ?_
        rintro e w3 ⟨rfl, hw3⟩
        rw [hw3]
        clear hw3
        cases q with
        | true =>
          go_wp2
          go_roundw
          case rel => exact ⟨5, by omega, by go_num, NX.out _ (Below.refl _ _) (fun h => h.2 (HMM.out.1 (by trivial)))⟩
          case measure => simp [intOf]
        | false =>
          go_wp2_with fail
          refine HN.out.mono ?_
          rintro e w4 ⟨rfl, hb4⟩
          have R4 := hide (KR.out.next hb4.out)
          have HNF : Hid (c.num 5 = c.amt) := rfl
          by_cases hz : c.amt = 0
          · have hd : ((c.amt : Int) != 0) = false := by simp [hz]
            have HZ := hide hz
            clear hz
            go_wp2
            go_roundw
            case rel => exact ⟨5, by omega, by go_num, NX.out _ hb4.out (fun h => by
              rcases h.1 with e | e
              · rw [HNF.out] at e; exact e HZ.out
              · exact absurd e.1 (by omega))⟩
            case measure => simp [intOf]
          · have hd : ((c.amt : Int) != 0) = true := by simp; omega
            have FL := hide (FAIL.out ⟨.inl (by show c.num 5 ≠ 0; rw [HNF.out]; exact hz), fun h => Bool.noConfusion (HMM.out.2 h)⟩ (by omega))
            clear hz
            go_wp2_with fail
            refine (HNR.out w4).mono ?_
            rintro e w5 ⟨ao, cap, rfl, G⟩
            obtain ⟨b, off, hf, hb⟩ := G.out
            have qr := (R4.out.next hb).res
            have y0 := block_cell qr 0
            have y1 := block_cell qr 1
            have f0 := block_free qr 0
            have f1 := block_free qr 1
            have hl5 := block_lt qr
            simp at y0 y1
            have FIN : Hid (∀ x y, FV ((w5.setCell ⟨w.heap.size + 1, 0, none⟩ x).setCell ⟨w.heap.size + 1, 1, none⟩ y).heap.size ((w5.setCell ⟨w.heap.size + 1, 0, none⟩ x).setCell ⟨w.heap.size + 1, 1, none⟩ y) ao [⟨dealN, 5⟩] b off ∧ Below w.heap.size w ((w5.setCell ⟨w.heap.size + 1, 0, none⟩ x).setCell ⟨w.heap.size + 1, 1, none⟩ y)) := fun x y => rp_end R4.out hf hb x y
            clear qr hf hb G x0 x1 x2 x3 x4 x5 x6 x7 hl
            go_wp2
            obtain ⟨e1, e2, e3⟩ := FL.out
            refine bodyPost_ret (v := .tuple #[.slice none 0 0, .agg #[.slice ao 1 cap, .int .i64 100]]) (by simp [results, Tryz.results5, go_sem, y0, y1]) rfl ⟨_, ao, cap, by rw [e2, e3]; rfl, by rw [e1]; exact owns_nil _ _, ⟨b, off, by rw [e2]; exact (FIN.out _ _).1⟩, (FIN.out _ _).2⟩
      · have HQ : Hid (Calls Tryz.prog 24 #[.int .i64 c.verb, .int .u8 85] wr fun e w' => e = .returned (.bool q) ∧ w' = wr) := HQ.out
        have HN : Hid (Calls Tryz.prog 25 #[.agg #[.int .i64 c.verb, .int .u64 (c.deal : Int), .int .u64 (c.acct : Int), .int .u64 (c.to_ : Int), .int .u64 (c.arb : Int), .int .u64 (c.amt : Int), .int .u64 (c.due : Int), .string c.terms], .int .u8 85] wr fun e w' => e = .returned (.int .u64 ((c.due : Int))) ∧ Hid (Below wr.heap.size wr w')) := HN.out
        have HNR : Hid (∀ W, Calls Tryz.prog 23 #[.int .i64 100, .int .i64 6] W fun e w' => ∃ ao cap, e = .returned (.agg #[.slice ao 1 cap, .int .i64 100]) ∧ Hid (∃ b off, FV w'.heap.size w' ao [⟨dealN, 6⟩] b off ∧ Below W.heap.size W w')) := HNR.out
        go_wp2_with fail
        refine HQ.out.mono ?_
        rintro e w3 ⟨rfl, hw3⟩
        rw [hw3]
        clear hw3
        cases q with
        | true =>
          go_wp2
          go_roundw
          case rel => exact ⟨6, by omega, by go_num, NX.out _ (Below.refl _ _) (fun h => h.2 (HMM.out.1 (by trivial)))⟩
          case measure => simp [intOf]
        | false =>
          go_wp2_with fail
          refine HN.out.mono ?_
          rintro e w4 ⟨rfl, hb4⟩
          have R4 := hide (KR.out.next hb4.out)
          have HNF : Hid (c.num 6 = c.due) := rfl
          by_cases hz : c.due = 0
          · have hd : ((c.due : Int) != 0) = false := by simp [hz]
            have HZ := hide hz
            clear hz
            go_wp2
            go_roundw
            case rel => exact ⟨6, by omega, by go_num, NX.out _ hb4.out (fun h => by
              rcases h.1 with e | e
              · rw [HNF.out] at e; exact e HZ.out
              · exact absurd e.1 (by omega))⟩
            case measure => simp [intOf]
          · have hd : ((c.due : Int) != 0) = true := by simp; omega
            have FL := hide (FAIL.out ⟨.inl (by show c.num 6 ≠ 0; rw [HNF.out]; exact hz), fun h => Bool.noConfusion (HMM.out.2 h)⟩ (by omega))
            clear hz
            go_wp2_with fail
            refine (HNR.out w4).mono ?_
            rintro e w5 ⟨ao, cap, rfl, G⟩
            obtain ⟨b, off, hf, hb⟩ := G.out
            have qr := (R4.out.next hb).res
            have y0 := block_cell qr 0
            have y1 := block_cell qr 1
            have f0 := block_free qr 0
            have f1 := block_free qr 1
            have hl5 := block_lt qr
            simp at y0 y1
            have FIN : Hid (∀ x y, FV ((w5.setCell ⟨w.heap.size + 1, 0, none⟩ x).setCell ⟨w.heap.size + 1, 1, none⟩ y).heap.size ((w5.setCell ⟨w.heap.size + 1, 0, none⟩ x).setCell ⟨w.heap.size + 1, 1, none⟩ y) ao [⟨dealN, 6⟩] b off ∧ Below w.heap.size w ((w5.setCell ⟨w.heap.size + 1, 0, none⟩ x).setCell ⟨w.heap.size + 1, 1, none⟩ y)) := fun x y => rp_end R4.out hf hb x y
            clear qr hf hb G x0 x1 x2 x3 x4 x5 x6 x7 hl
            go_wp2
            obtain ⟨e1, e2, e3⟩ := FL.out
            refine bodyPost_ret (v := .tuple #[.slice none 0 0, .agg #[.slice ao 1 cap, .int .i64 100]]) (by simp [results, Tryz.results5, go_sem, y0, y1]) rfl ⟨_, ao, cap, by rw [e2, e3]; rfl, by rw [e1]; exact owns_nil _ _, ⟨b, off, by rw [e2]; exact (FIN.out _ _).1⟩, (FIN.out _ _).2⟩
      · have HQ : Hid (Calls Tryz.prog 24 #[.int .i64 c.verb, .int .u8 88] wr fun e w' => e = .returned (.bool q) ∧ w' = wr) := HQ.out
        have HN : Hid (Calls Tryz.prog 25 #[.agg #[.int .i64 c.verb, .int .u64 (c.deal : Int), .int .u64 (c.acct : Int), .int .u64 (c.to_ : Int), .int .u64 (c.arb : Int), .int .u64 (c.amt : Int), .int .u64 (c.due : Int), .string c.terms], .int .u8 88] wr fun e w' => e = .returned (.int .u64 (0)) ∧ Hid (Below wr.heap.size wr w')) := HN.out
        have HNR : Hid (∀ W, Calls Tryz.prog 23 #[.int .i64 100, .int .i64 7] W fun e w' => ∃ ao cap, e = .returned (.agg #[.slice ao 1 cap, .int .i64 100]) ∧ Hid (∃ b off, FV w'.heap.size w' ao [⟨dealN, 7⟩] b off ∧ Below W.heap.size W w')) := HNR.out
        go_wp2_with fail
        refine HQ.out.mono ?_
        rintro e w3 ⟨rfl, hw3⟩
        rw [hw3]
        clear hw3
        cases q with
        | true =>
          go_wp2
          go_roundw
          case rel => exact ⟨7, by omega, by go_num, NX.out _ (Below.refl _ _) (fun h => h.2 (HMM.out.1 (by trivial)))⟩
          case measure => simp [intOf]
        | false =>
          go_wp2_with fail
          refine HN.out.mono ?_
          rintro e w4 ⟨rfl, hb4⟩
          have R4 := hide (KR.out.next hb4.out)
          have z7 := (hb4.out.cell (p := ⟨w.heap.size, 7, none⟩) hl).trans x7
          have hl4 : w.heap.size < w4.heap.size := Nat.lt_of_lt_of_le hl hb4.out.size
          by_cases hz : c.terms.toList.isEmpty = true
          · have HZ := hide hz
            go_wp2
            go_roundw
            case rel => exact ⟨7, by omega, by go_num, NX.out _ hb4.out (fun h => by
              rcases h.1 with e | e
              · exact e rfl
              · rw [HZ.out] at e; exact Bool.noConfusion e.2)⟩
            case measure => simp [intOf]
          · have hz : c.terms.toList.isEmpty = false := by simpa using hz
            have FL := hide (FAIL.out ⟨.inr ⟨rfl, hz⟩, fun h => Bool.noConfusion (HMM.out.2 h)⟩ (by omega))
            go_wp2_with fail
            refine (HNR.out w4).mono ?_
            rintro e w5 ⟨ao, cap, rfl, G⟩
            obtain ⟨b, off, hf, hb⟩ := G.out
            have qr := (R4.out.next hb).res
            have y0 := block_cell qr 0
            have y1 := block_cell qr 1
            have f0 := block_free qr 0
            have f1 := block_free qr 1
            have hl5 := block_lt qr
            simp at y0 y1
            have FIN : Hid (∀ x y, FV ((w5.setCell ⟨w.heap.size + 1, 0, none⟩ x).setCell ⟨w.heap.size + 1, 1, none⟩ y).heap.size ((w5.setCell ⟨w.heap.size + 1, 0, none⟩ x).setCell ⟨w.heap.size + 1, 1, none⟩ y) ao [⟨dealN, 7⟩] b off ∧ Below w.heap.size w ((w5.setCell ⟨w.heap.size + 1, 0, none⟩ x).setCell ⟨w.heap.size + 1, 1, none⟩ y)) := fun x y => rp_end R4.out hf hb x y
            clear qr hf hb G x0 x1 x2 x3 x4 x5 x6 x7 hl
            go_wp2
            obtain ⟨e1, e2, e3⟩ := FL.out
            refine bodyPost_ret (v := .tuple #[.slice none 0 0, .agg #[.slice ao 1 cap, .int .i64 100]]) (by simp [results, Tryz.results5, go_sem, y0, y1]) rfl ⟨_, ao, cap, by rw [e2, e3]; rfl, by rw [e1]; exact owns_nil _ _, ⟨b, off, by rw [e2]; exact (FIN.out _ _).1⟩, (FIN.out _ _).2⟩
    · obtain rfl : k = 7 := by omega
      clear hlt hk FAIL NX x0 x1 x2 x3 x4 x5 x6 x7 hl
      have HS0 := hide (HON.out HR.out.2)
      have R3 := hide HR.out.1
      clear HR HST
      obtain ⟨S, hS⟩ : ∃ S, fstr c.verb = S := ⟨_, rfl⟩
      rw [hS] at HFI HFS
      have HLS : Hid (S.size = (fds c.verb).length ∧ ∀ (j : Nat) (h : j < S.size) (f : Nat), (fds c.verb)[j]? = some f → (S[j]'h).toNat = ltr f) := by
        have e := HFS.out
        have e1 : S.size = (fds c.verb).length := by have := congrArg List.length e; simpa [strB] using this
        refine ⟨e1, fun j h f hf => ?_⟩
        have e2 := congrArg (fun l : List Nat => l[j]?) e
        simp only [List.getElem?_map, hf, Option.map_some] at e2
        have e3 : (strB S)[j]? = some ((S[j]'h).toNat) := by
          unfold strB
          rw [List.getElem?_map, List.getElem?_eq_getElem (by simpa using h)]
          rfl
        rw [e3] at e2
        exact Option.some.inj e2
      clear hS
      go_wp2_with fail
      refine (HFI.out wr).mono ?_
      rintro e w8 ⟨rfl, hw8⟩
      rw [hw8]
      clear hw8
      obtain ⟨W9, hW9⟩ : ∃ W9, wr.alloc (.cells #[.int .u8 c.verb] 5) = W9 := ⟨_, rfl⟩
      have O9 : Hid (Rp w c W9 ∧ Owns w.heap.size W9 (.slice (some ⟨wr.heap.size, 0, none⟩) 1 1) (c.bts 0)) := by
        refine ⟨by rw [← hW9]; exact R3.out.next ((Below.refl _ _).alloc (Nat.le_refl _) _), ⟨?_, fun x hx => ?_, by simp [Cd.bts]⟩⟩
        · refine ⟨rfl, .inr ⟨wr.heap.size, 1, #[.int .u8 c.verb], rfl, R3.out.bel.size, by rw [← hW9]; exact alloc_atK _ _, by simp [Cd.bts], by unfold maxLen; omega, rfl, ?_⟩⟩
          show [Value.int .u8 c.verb] = [Value.int .u8 ((c.verb.toNat : Nat) : Int)]
          rw [← HVN.out.1]
        · have : x = c.verb.toNat := by simpa [Cd.bts] using hx
          rw [this]
          exact HVN.out.2
      have HW9 := hide hW9
      clear hW9
      go_wp2
      rw [HW9.out]
      clear HW9 R3
      have hS7 : S.size ≤ 7 := by rw [HLS.out.1]; exact (fds_len c.verb).2
      go_loopw [8, 9] (fun v i wr => ∃ k : Nat, k ≤ S.size ∧ i = .int .i64 k ∧ Hid ((Rp w c wr ∧ Owns w.heap.size wr v (c.bts k)) ∧ (7 ≤ k → txtY c.terms 512 = 0))) (fun _ i _ => S.size - (intOf i).toNat)
      case atStart => exact ⟨0, by omega, rfl, O9.out, fun h => by omega⟩
      case round =>
        obtain ⟨k, hk, rfl, HR0⟩ := hrel
        have HR := hide HR0.out.1
        have H7K := hide HR0.out.2
        clear O9 HR0
        have x0 := block_cell HR.out.1.box 0
        have x1 := block_cell HR.out.1.box 1
        have x2 := block_cell HR.out.1.box 2
        have x3 := block_cell HR.out.1.box 3
        have x4 := block_cell HR.out.1.box 4
        have x5 := block_cell HR.out.1.box 5
        have x6 := block_cell HR.out.1.box 6
        have x7 := block_cell HR.out.1.box 7
        simp at x0 x1 x2 x3 x4 x5 x6 x7
        have hl := block_lt HR.out.1.box
        obtain ⟨vo, vc, rfl, hsh, -⟩ := HR.out.2.form
        have HSH := hide hsh
        clear hsh
        obtain ⟨bl, hbl⟩ : ∃ bl, (c.bts k).length = bl := ⟨_, rfl⟩
        have HBL := hide hbl
        rw [hbl] at HSH
        rw [hbl]
        clear hbl
        by_cases hlt : k < S.size
        · obtain ⟨f, hf⟩ : ∃ f, (fds c.verb)[k]? = some f := ⟨_, List.getElem?_eq_getElem (by rw [← HLS.out.1]; exact hlt)⟩
          have hy := HLS.out.2 k hlt f hf
          obtain ⟨hf1, hf7⟩ := fds_mem (List.mem_of_getElem? hf)
          have HSU := hide (bts_succ c hf)
          have n7 : ∀ j, j < k → (fds c.verb)[j]? ≠ some 7 := fun j hj e => by
            obtain ⟨e1, e2⟩ := fds_seven e
            have e3 := HLS.out.1
            have : (fds c.verb).length = 7 := by rw [e2]; rfl
            omega
          have hbb : bl ≤ 71 := by
            rw [← HBL.out]
            have := bts_len c k (by rw [← HLS.out.1]; omega) n7
            omega
          have H64 : Hid (f = 7 → k = 6 ∧ c.verb = 4) := fun e => fds_seven (by rw [hf, e])
          have HNB := hide (HNM.out f ⟨hf1, hf7⟩)
          have HK6 : Hid (f ≠ 7 → k < 6) := fun e => by
            rcases Nat.lt_or_ge k 6 with h | h
            · exact h
            · have e3 := HLS.out.1
              have e4 := (fds_len c.verb).2
              obtain rfl : k = 6 := by omega
              exact absurd (fds_six hf) e
          have KR := hide HR.out.1
          have HLG := hide (fds_len c.verb).2
          clear hf n7 HNM
          rcases (by omega : f = 7 ∨ f = 1 ∨ f = 2 ∨ f = 3 ∨ f = 4 ∨ f = 5 ∨ f = 6) with rfl | rfl | rfl | rfl | rfl | rfl | rfl
          · obtain ⟨hk6, hv4⟩ := H64.out rfl
            have hy : (S[k]'hlt).toNat = 88 := hy
            have HK := hide hk6
            have HV4 := hide hv4
            have hts := HC.out.terms
            have HBL6 : Hid ((c.bts 6).length = bl) := by have := HBL.out; rw [hk6] at this; exact this
            clear hk6 hv4
            have HB5 : Hid (∀ (cc : Int) W, Calls Tryz.prog 29 #[.int .i64 7, .agg #[.int .i64 cc, .int .i64 (bl : Int)]] W (FvP W [⟨dealN, 7⟩, ⟨wireN, (bl : Int)⟩] cc)) := fun cc W => below5 7 cc bl W
            unfold FvP at HB5
            by_cases h512 : 512 < c.terms.size
            · have ht : txtY c.terms 512 = 21 := by unfold txtY; rw [if_pos (by omega)]
              have FL : Hid (PB = [] ∧ PL = [⟨dealN, 7⟩, ⟨wireN, (bl : Int)⟩] ∧ PC = 21) := by
                have := HBD.out HS0.out HV4.out (by rw [ht]; decide)
                rw [ht, HBL6.out] at this
                exact this
              clear ht
              go_wp2_with fail
              refine (HB5.out 21 wr).mono ?_
              rintro e w5 ⟨ao, cap, rfl, G⟩
              obtain ⟨b, off, hf, hb⟩ := G.out
              have qr := (KR.out.next hb).res
              have y0 := block_cell qr 0
              have y1 := block_cell qr 1
              have f0 := block_free qr 0
              have f1 := block_free qr 1
              have hl5 := block_lt qr
              simp at y0 y1
              have FIN : Hid (∀ x y, FV ((w5.setCell ⟨w.heap.size + 1, 0, none⟩ x).setCell ⟨w.heap.size + 1, 1, none⟩ y).heap.size ((w5.setCell ⟨w.heap.size + 1, 0, none⟩ x).setCell ⟨w.heap.size + 1, 1, none⟩ y) ao [⟨dealN, 7⟩, ⟨wireN, (bl : Int)⟩] b off ∧ Below w.heap.size w ((w5.setCell ⟨w.heap.size + 1, 0, none⟩ x).setCell ⟨w.heap.size + 1, 1, none⟩ y)) := fun x y => rp_end KR.out hf hb x y
              clear qr hf hb G x0 x1 x2 x3 x4 x5 x6 x7 hl
              go_wp2
              obtain ⟨e1, e2, e3⟩ := FL.out
              refine bodyPost_ret (v := .tuple #[.slice none 0 0, .agg #[.slice ao 2 cap, .int .i64 21]]) (by simp [results, Tryz.results5, go_sem, y0, y1]) rfl ⟨_, ao, cap, by rw [e2, e3]; rfl, by rw [e1]; exact owns_nil _ _, ⟨b, off, by rw [e2]; exact (FIN.out _ _).1⟩, (FIN.out _ _).2⟩
            · have HUT := hide (utf8_any c.terms wr (by omega))
              have h512' : c.terms.size ≤ 512 := by omega
              obtain ⟨q, hq⟩ : ∃ q : Bool, utf8Ok c.terms = q := ⟨_, rfl⟩
              have HQ := hide hq
              rw [hq] at HUT
              clear hq h512
              go_wp2_with fail
              refine HUT.out.mono ?_
              rintro e w3 ⟨rfl, hw3⟩
              rw [hw3]
              clear hw3
              cases q with
              | false =>
                have ht : txtY c.terms 512 = 27 := by unfold txtY; rw [if_neg (by omega), if_neg (by rw [HQ.out]; simp)]
                have FL : Hid (PB = [] ∧ PL = [⟨dealN, 7⟩, ⟨wireN, (bl : Int)⟩] ∧ PC = 27) := by
                  have := HBD.out HS0.out HV4.out (by rw [ht]; decide)
                  rw [ht, HBL6.out] at this
                  exact this
                clear ht
                go_wp2_with fail
                refine (HB5.out 27 wr).mono ?_
                rintro e w5 ⟨ao, cap, rfl, G⟩
                obtain ⟨b, off, hf, hb⟩ := G.out
                have qr := (KR.out.next hb).res
                have y0 := block_cell qr 0
                have y1 := block_cell qr 1
                have f0 := block_free qr 0
                have f1 := block_free qr 1
                have hl5 := block_lt qr
                simp at y0 y1
                have FIN : Hid (∀ x y, FV ((w5.setCell ⟨w.heap.size + 1, 0, none⟩ x).setCell ⟨w.heap.size + 1, 1, none⟩ y).heap.size ((w5.setCell ⟨w.heap.size + 1, 0, none⟩ x).setCell ⟨w.heap.size + 1, 1, none⟩ y) ao [⟨dealN, 7⟩, ⟨wireN, (bl : Int)⟩] b off ∧ Below w.heap.size w ((w5.setCell ⟨w.heap.size + 1, 0, none⟩ x).setCell ⟨w.heap.size + 1, 1, none⟩ y)) := fun x y => rp_end KR.out hf hb x y
                clear qr hf hb G x0 x1 x2 x3 x4 x5 x6 x7 hl
                go_wp2
                obtain ⟨e1, e2, e3⟩ := FL.out
                refine bodyPost_ret (v := .tuple #[.slice none 0 0, .agg #[.slice ao 2 cap, .int .i64 27]]) (by simp [results, Tryz.results5, go_sem, y0, y1]) rfl ⟨_, ao, cap, by rw [e2, e3]; rfl, by rw [e1]; exact owns_nil _ _, ⟨b, off, by rw [e2]; exact (FIN.out _ _).1⟩, (FIN.out _ _).2⟩
              | true =>
                have ht : Hid (txtY c.terms 512 = 0) := by show _ = _; unfold txtY; rw [if_neg (by omega), if_pos HQ.out]
                have HNU := hide (refNumB c.terms.size (c.terms.size : Int) wr rfl (by omega))
                have hcv : IntKind.u64.wrap (c.terms.size : Int) = (c.terms.size : Int) := by rw [IntKind.wrap_u64]; omega
                have hn10 := numB_le c.terms.size
                have HE7 : Hid (c.bts (k + 1) = c.bts k ++ numB c.terms.size ++ strB c.terms) := by
                  show _ = _
                  rw [HSU.out, List.append_assoc]
                  unfold Cd.enc
                  rw [if_pos rfl]
                go_wp2_with fail
                refine HNU.out.mono ?_
                rintro e w4 ⟨v4, rfl, ho4, hb4⟩
                obtain ⟨a4, c4, rfl, hs4, -⟩ := ho4.form
                have HJ1 := hide (join_any (showsN HSH.out hb4) (Nat.le_refl _) hs4 (Nat.le_refl _) (by rw [HBL.out]; omega))
                have B4 := hide hb4
                clear ho4 hb4 hs4 HNU hcv HB5 HUT
                generalize (numB c.terms.size).length = m4 at *
                go_wp2_with fail
                refine HJ1.out.mono ?_
                rintro e w5 ⟨v5, rfl, ho5, hb5⟩
                obtain ⟨a5, c5, rfl, hs5, -⟩ := ho5.form
                have B5 := hide (B4.out.trans (hb5.mono B4.out.size))
                have R5 := hide (KR.out.next B5.out)
                have z7 := (rp_cells R5.out).2.2.2.2.2.2.2
                have hl5 := block_lt R5.out.box
                have hc1 : (convert 9 26 (.string c.terms)).run Tryz.prog w5 = .ok (.slice (some ⟨w5.heap.size, 0, none⟩) c.terms.size (grownCap w5 c.terms.size 0 5)) (Go.Lib.bytesWorld w5 5 c.terms) := Go.Lib.run_convert_string_bytes (P := Tryz.prog) w5 9 26 5 c.terms (u := .string) Tryz.underlying9 Tryz.underlying26 Tryz.underlying5
                have hbw := bytesW_below w5 5 c.terms
                have hlen5 : (c.bts k ++ numB c.terms.size).length = bl + (numB c.terms.size).length := by rw [List.length_append, HBL.out]
                have HJ2 := hide (join_any (showsN hs5 hbw) (Nat.le_refl _) (bytesW_shows w5 c.terms (by omega)) (by rw [Go.Lib.bytesWorld_size]; exact Nat.le_refl _) (by have := numB_le c.terms.size; rw [hlen5]; omega))
                have R6 := hide (R5.out.next hbw)
                have HB6 : Hid (w.heap.size ≤ (Go.Lib.bytesWorld w5 5 c.terms).heap.size) := Nat.le_trans R5.out.bel.size hbw.size
                clear ho5 hb5 hs5 HJ1 hbw hlen5 x0 x1 x2 x3 x4 x5 x6 x7 hl hn10
                generalize (c.bts k ++ numB c.terms.size).length = m5 at *
                generalize Go.Lib.bytesWorld w5 5 c.terms = W6 at *
                go_wp2_with fail
                refine HJ2.out.mono ?_
                rintro e w7 ⟨v7, rfl, ho7, hb7⟩
                have O7 : Hid (Owns w.heap.size w7 v7 (c.bts (k + 1))) := by rw [HE7.out]; exact ho7.lowerK HB6.out
                have R7 := hide (R6.out.next hb7)
                obtain ⟨a7, c7, rfl, -, -⟩ := ho7.form
                clear ho7 hb7 hc1 z7 hl5
                generalize (c.bts k ++ numB c.terms.size ++ strB c.terms).length = m7 at *
                go_wp2
                go_roundw
                case rel => exact ⟨k + 1, by omega, by go_num, ⟨R7.out, O7.out⟩, fun _ => ht.out⟩
                case measure => simp [intOf]; omega
          · have hy : (S[k]'hlt).toNat = 68 := hy
            have HN : Hid (∀ W, Calls Tryz.prog 25 #[.agg #[.int .i64 c.verb, .int .u64 (c.deal : Int), .int .u64 (c.acct : Int), .int .u64 (c.to_ : Int), .int .u64 (c.arb : Int), .int .u64 (c.amt : Int), .int .u64 (c.due : Int), .string c.terms], .int .u8 68] W fun e w' => e = .returned (.int .u64 (c.deal : Int)) ∧ Hid (Below W.heap.size W w')) := HNB.out
            have HNU : Hid (∀ W, Calls Tryz.prog 28 #[.int .u64 (c.deal : Int)] W fun e w' => ∃ v', e = .returned v' ∧ Owns W.heap.size w' v' (numB c.deal) ∧ Below W.heap.size W w') := fun W => refNumB c.deal _ W rfl (HC.out.num 1)
            have HJO : Hid (∀ (W : World) (v' : Value), Below wr.heap.size wr W → Owns wr.heap.size W v' (numB c.deal) → Calls Tryz.prog 27 #[.slice vo bl vc, v'] W fun e w' => ∃ ao cap n, e = .returned (.slice ao n cap) ∧ Hid (Rp w c w' ∧ Owns w.heap.size w' (.slice ao n cap) (c.bts (k + 1)))) := fun W v' hb ho => by
              obtain ⟨a2, c2, rfl, hs2, -⟩ := ho.form
              refine (join_any (showsN HSH.out hb) (Nat.le_refl _) hs2 (Nat.le_refl _) (by have := numB_le c.deal; rw [HBL.out]; omega)).mono ?_
              rintro e w' ⟨v, rfl, h1, h2⟩
              obtain ⟨ao, cap, rfl, -, -⟩ := h1.form
              refine ⟨ao, cap, _, rfl, (KR.out.next hb).next h2, ?_⟩
              rw [HSU.out]
              exact h1.lowerK (Nat.le_trans KR.out.bel.size hb.size)
            go_wp2_with fail
            go_region_held (fun V => V.cell? ⟨w.heap.size, 0, none⟩ = some (.int .i64 c.verb) ∧ V.cell? ⟨w.heap.size, 1, none⟩ = some (.int .u64 (c.deal : Int)) ∧ V.cell? ⟨w.heap.size, 2, none⟩ = some (.int .u64 (c.acct : Int)) ∧ V.cell? ⟨w.heap.size, 3, none⟩ = some (.int .u64 (c.to_ : Int)) ∧ V.cell? ⟨w.heap.size, 4, none⟩ = some (.int .u64 (c.arb : Int)) ∧ V.cell? ⟨w.heap.size, 5, none⟩ = some (.int .u64 (c.amt : Int)) ∧ V.cell? ⟨w.heap.size, 6, none⟩ = some (.int .u64 (c.due : Int)) ∧ V.cell? ⟨w.heap.size, 7, none⟩ = some (.string c.terms)) (first | go_keep | exact rp_cells G3R.out)
              (first
                | (go_at_call 25; refine (HN.out _).mono ?_; rintro e w3 ⟨rfl, hb3⟩; have G3 : Hid (Below wr.heap.size wr w3) := ⟨hb3.out.os, hb3.out.tape, hb3.out.output, hb3.out.size, hb3.out.block⟩; have G3R := hide (KR.out.next G3.out))
                | (go_at_call 28; refine (HNU.out _).mono ?_; rintro e w4 ⟨v4, rfl, ho4, hb4⟩; have HJ := hide (HJO.out _ _ (G3.out.trans (hb4.mono G3.out.size)) (ho4.lowerK G3.out.size)); have G4 : Hid (Below wr.heap.size wr w4) := G3.out.trans (hb4.mono G3.out.size); have G3R := hide (KR.out.next G4.out); clear ho4 hb4)
                | (go_at_call 27; refine HJ.out.mono ?_; rintro e w5 ⟨ao5, cap5, n5, rfl, G5⟩; have G3R := hide G5.out.1))
            all_goals clear x0 x1 x2 x3 x4 x5 x6 x7
            all_goals go_wp2
            all_goals first | (go_roundw; case rel => exact ⟨k + 1, by omega, by go_num, G5.out, fun h => by have := HK6.out (by omega); omega⟩; case measure => simp [intOf]; omega) | exact ⟨⟨k + 1, by omega, by go_num, G5.out, fun h => by have := HK6.out (by omega); omega⟩, by simp [intOf]; omega⟩
          · have hy : (S[k]'hlt).toNat = 65 := hy
            have HN : Hid (∀ W, Calls Tryz.prog 25 #[.agg #[.int .i64 c.verb, .int .u64 (c.deal : Int), .int .u64 (c.acct : Int), .int .u64 (c.to_ : Int), .int .u64 (c.arb : Int), .int .u64 (c.amt : Int), .int .u64 (c.due : Int), .string c.terms], .int .u8 65] W fun e w' => e = .returned (.int .u64 (c.acct : Int)) ∧ Hid (Below W.heap.size W w')) := HNB.out
            have HNU : Hid (∀ W, Calls Tryz.prog 28 #[.int .u64 (c.acct : Int)] W fun e w' => ∃ v', e = .returned v' ∧ Owns W.heap.size w' v' (numB c.acct) ∧ Below W.heap.size W w') := fun W => refNumB c.acct _ W rfl (HC.out.num 2)
            have HJO : Hid (∀ (W : World) (v' : Value), Below wr.heap.size wr W → Owns wr.heap.size W v' (numB c.acct) → Calls Tryz.prog 27 #[.slice vo bl vc, v'] W fun e w' => ∃ ao cap n, e = .returned (.slice ao n cap) ∧ Hid (Rp w c w' ∧ Owns w.heap.size w' (.slice ao n cap) (c.bts (k + 1)))) := fun W v' hb ho => by
              obtain ⟨a2, c2, rfl, hs2, -⟩ := ho.form
              refine (join_any (showsN HSH.out hb) (Nat.le_refl _) hs2 (Nat.le_refl _) (by have := numB_le c.acct; rw [HBL.out]; omega)).mono ?_
              rintro e w' ⟨v, rfl, h1, h2⟩
              obtain ⟨ao, cap, rfl, -, -⟩ := h1.form
              refine ⟨ao, cap, _, rfl, (KR.out.next hb).next h2, ?_⟩
              rw [HSU.out]
              exact h1.lowerK (Nat.le_trans KR.out.bel.size hb.size)
            go_wp2_with fail
            go_region_held (fun V => V.cell? ⟨w.heap.size, 0, none⟩ = some (.int .i64 c.verb) ∧ V.cell? ⟨w.heap.size, 1, none⟩ = some (.int .u64 (c.deal : Int)) ∧ V.cell? ⟨w.heap.size, 2, none⟩ = some (.int .u64 (c.acct : Int)) ∧ V.cell? ⟨w.heap.size, 3, none⟩ = some (.int .u64 (c.to_ : Int)) ∧ V.cell? ⟨w.heap.size, 4, none⟩ = some (.int .u64 (c.arb : Int)) ∧ V.cell? ⟨w.heap.size, 5, none⟩ = some (.int .u64 (c.amt : Int)) ∧ V.cell? ⟨w.heap.size, 6, none⟩ = some (.int .u64 (c.due : Int)) ∧ V.cell? ⟨w.heap.size, 7, none⟩ = some (.string c.terms)) (first | go_keep | exact rp_cells G3R.out)
              (first
                | (go_at_call 25; refine (HN.out _).mono ?_; rintro e w3 ⟨rfl, hb3⟩; have G3 : Hid (Below wr.heap.size wr w3) := ⟨hb3.out.os, hb3.out.tape, hb3.out.output, hb3.out.size, hb3.out.block⟩; have G3R := hide (KR.out.next G3.out))
                | (go_at_call 28; refine (HNU.out _).mono ?_; rintro e w4 ⟨v4, rfl, ho4, hb4⟩; have HJ := hide (HJO.out _ _ (G3.out.trans (hb4.mono G3.out.size)) (ho4.lowerK G3.out.size)); have G4 : Hid (Below wr.heap.size wr w4) := G3.out.trans (hb4.mono G3.out.size); have G3R := hide (KR.out.next G4.out); clear ho4 hb4)
                | (go_at_call 27; refine HJ.out.mono ?_; rintro e w5 ⟨ao5, cap5, n5, rfl, G5⟩; have G3R := hide G5.out.1))
            all_goals clear x0 x1 x2 x3 x4 x5 x6 x7
            all_goals go_wp2
            all_goals first | (go_roundw; case rel => exact ⟨k + 1, by omega, by go_num, G5.out, fun h => by have := HK6.out (by omega); omega⟩; case measure => simp [intOf]; omega) | exact ⟨⟨k + 1, by omega, by go_num, G5.out, fun h => by have := HK6.out (by omega); omega⟩, by simp [intOf]; omega⟩
          · have hy : (S[k]'hlt).toNat = 84 := hy
            have HN : Hid (∀ W, Calls Tryz.prog 25 #[.agg #[.int .i64 c.verb, .int .u64 (c.deal : Int), .int .u64 (c.acct : Int), .int .u64 (c.to_ : Int), .int .u64 (c.arb : Int), .int .u64 (c.amt : Int), .int .u64 (c.due : Int), .string c.terms], .int .u8 84] W fun e w' => e = .returned (.int .u64 (c.to_ : Int)) ∧ Hid (Below W.heap.size W w')) := HNB.out
            have HNU : Hid (∀ W, Calls Tryz.prog 28 #[.int .u64 (c.to_ : Int)] W fun e w' => ∃ v', e = .returned v' ∧ Owns W.heap.size w' v' (numB c.to_) ∧ Below W.heap.size W w') := fun W => refNumB c.to_ _ W rfl (HC.out.num 3)
            have HJO : Hid (∀ (W : World) (v' : Value), Below wr.heap.size wr W → Owns wr.heap.size W v' (numB c.to_) → Calls Tryz.prog 27 #[.slice vo bl vc, v'] W fun e w' => ∃ ao cap n, e = .returned (.slice ao n cap) ∧ Hid (Rp w c w' ∧ Owns w.heap.size w' (.slice ao n cap) (c.bts (k + 1)))) := fun W v' hb ho => by
              obtain ⟨a2, c2, rfl, hs2, -⟩ := ho.form
              refine (join_any (showsN HSH.out hb) (Nat.le_refl _) hs2 (Nat.le_refl _) (by have := numB_le c.to_; rw [HBL.out]; omega)).mono ?_
              rintro e w' ⟨v, rfl, h1, h2⟩
              obtain ⟨ao, cap, rfl, -, -⟩ := h1.form
              refine ⟨ao, cap, _, rfl, (KR.out.next hb).next h2, ?_⟩
              rw [HSU.out]
              exact h1.lowerK (Nat.le_trans KR.out.bel.size hb.size)
            go_wp2_with fail
            go_region_held (fun V => V.cell? ⟨w.heap.size, 0, none⟩ = some (.int .i64 c.verb) ∧ V.cell? ⟨w.heap.size, 1, none⟩ = some (.int .u64 (c.deal : Int)) ∧ V.cell? ⟨w.heap.size, 2, none⟩ = some (.int .u64 (c.acct : Int)) ∧ V.cell? ⟨w.heap.size, 3, none⟩ = some (.int .u64 (c.to_ : Int)) ∧ V.cell? ⟨w.heap.size, 4, none⟩ = some (.int .u64 (c.arb : Int)) ∧ V.cell? ⟨w.heap.size, 5, none⟩ = some (.int .u64 (c.amt : Int)) ∧ V.cell? ⟨w.heap.size, 6, none⟩ = some (.int .u64 (c.due : Int)) ∧ V.cell? ⟨w.heap.size, 7, none⟩ = some (.string c.terms)) (first | go_keep | exact rp_cells G3R.out)
              (first
                | (go_at_call 25; refine (HN.out _).mono ?_; rintro e w3 ⟨rfl, hb3⟩; have G3 : Hid (Below wr.heap.size wr w3) := ⟨hb3.out.os, hb3.out.tape, hb3.out.output, hb3.out.size, hb3.out.block⟩; have G3R := hide (KR.out.next G3.out))
                | (go_at_call 28; refine (HNU.out _).mono ?_; rintro e w4 ⟨v4, rfl, ho4, hb4⟩; have HJ := hide (HJO.out _ _ (G3.out.trans (hb4.mono G3.out.size)) (ho4.lowerK G3.out.size)); have G4 : Hid (Below wr.heap.size wr w4) := G3.out.trans (hb4.mono G3.out.size); have G3R := hide (KR.out.next G4.out); clear ho4 hb4)
                | (go_at_call 27; refine HJ.out.mono ?_; rintro e w5 ⟨ao5, cap5, n5, rfl, G5⟩; have G3R := hide G5.out.1))
            all_goals clear x0 x1 x2 x3 x4 x5 x6 x7
            all_goals go_wp2
            all_goals first | (go_roundw; case rel => exact ⟨k + 1, by omega, by go_num, G5.out, fun h => by have := HK6.out (by omega); omega⟩; case measure => simp [intOf]; omega) | exact ⟨⟨k + 1, by omega, by go_num, G5.out, fun h => by have := HK6.out (by omega); omega⟩, by simp [intOf]; omega⟩
          · have hy : (S[k]'hlt).toNat = 82 := hy
            have HN : Hid (∀ W, Calls Tryz.prog 25 #[.agg #[.int .i64 c.verb, .int .u64 (c.deal : Int), .int .u64 (c.acct : Int), .int .u64 (c.to_ : Int), .int .u64 (c.arb : Int), .int .u64 (c.amt : Int), .int .u64 (c.due : Int), .string c.terms], .int .u8 82] W fun e w' => e = .returned (.int .u64 (c.arb : Int)) ∧ Hid (Below W.heap.size W w')) := HNB.out
            have HNU : Hid (∀ W, Calls Tryz.prog 28 #[.int .u64 (c.arb : Int)] W fun e w' => ∃ v', e = .returned v' ∧ Owns W.heap.size w' v' (numB c.arb) ∧ Below W.heap.size W w') := fun W => refNumB c.arb _ W rfl (HC.out.num 4)
            have HJO : Hid (∀ (W : World) (v' : Value), Below wr.heap.size wr W → Owns wr.heap.size W v' (numB c.arb) → Calls Tryz.prog 27 #[.slice vo bl vc, v'] W fun e w' => ∃ ao cap n, e = .returned (.slice ao n cap) ∧ Hid (Rp w c w' ∧ Owns w.heap.size w' (.slice ao n cap) (c.bts (k + 1)))) := fun W v' hb ho => by
              obtain ⟨a2, c2, rfl, hs2, -⟩ := ho.form
              refine (join_any (showsN HSH.out hb) (Nat.le_refl _) hs2 (Nat.le_refl _) (by have := numB_le c.arb; rw [HBL.out]; omega)).mono ?_
              rintro e w' ⟨v, rfl, h1, h2⟩
              obtain ⟨ao, cap, rfl, -, -⟩ := h1.form
              refine ⟨ao, cap, _, rfl, (KR.out.next hb).next h2, ?_⟩
              rw [HSU.out]
              exact h1.lowerK (Nat.le_trans KR.out.bel.size hb.size)
            go_wp2_with fail
            go_region_held (fun V => V.cell? ⟨w.heap.size, 0, none⟩ = some (.int .i64 c.verb) ∧ V.cell? ⟨w.heap.size, 1, none⟩ = some (.int .u64 (c.deal : Int)) ∧ V.cell? ⟨w.heap.size, 2, none⟩ = some (.int .u64 (c.acct : Int)) ∧ V.cell? ⟨w.heap.size, 3, none⟩ = some (.int .u64 (c.to_ : Int)) ∧ V.cell? ⟨w.heap.size, 4, none⟩ = some (.int .u64 (c.arb : Int)) ∧ V.cell? ⟨w.heap.size, 5, none⟩ = some (.int .u64 (c.amt : Int)) ∧ V.cell? ⟨w.heap.size, 6, none⟩ = some (.int .u64 (c.due : Int)) ∧ V.cell? ⟨w.heap.size, 7, none⟩ = some (.string c.terms)) (first | go_keep | exact rp_cells G3R.out)
              (first
                | (go_at_call 25; refine (HN.out _).mono ?_; rintro e w3 ⟨rfl, hb3⟩; have G3 : Hid (Below wr.heap.size wr w3) := ⟨hb3.out.os, hb3.out.tape, hb3.out.output, hb3.out.size, hb3.out.block⟩; have G3R := hide (KR.out.next G3.out))
                | (go_at_call 28; refine (HNU.out _).mono ?_; rintro e w4 ⟨v4, rfl, ho4, hb4⟩; have HJ := hide (HJO.out _ _ (G3.out.trans (hb4.mono G3.out.size)) (ho4.lowerK G3.out.size)); have G4 : Hid (Below wr.heap.size wr w4) := G3.out.trans (hb4.mono G3.out.size); have G3R := hide (KR.out.next G4.out); clear ho4 hb4)
                | (go_at_call 27; refine HJ.out.mono ?_; rintro e w5 ⟨ao5, cap5, n5, rfl, G5⟩; have G3R := hide G5.out.1))
            all_goals clear x0 x1 x2 x3 x4 x5 x6 x7
            all_goals go_wp2
            all_goals first | (go_roundw; case rel => exact ⟨k + 1, by omega, by go_num, G5.out, fun h => by have := HK6.out (by omega); omega⟩; case measure => simp [intOf]; omega) | exact ⟨⟨k + 1, by omega, by go_num, G5.out, fun h => by have := HK6.out (by omega); omega⟩, by simp [intOf]; omega⟩
          · have hy : (S[k]'hlt).toNat = 77 := hy
            have HN : Hid (∀ W, Calls Tryz.prog 25 #[.agg #[.int .i64 c.verb, .int .u64 (c.deal : Int), .int .u64 (c.acct : Int), .int .u64 (c.to_ : Int), .int .u64 (c.arb : Int), .int .u64 (c.amt : Int), .int .u64 (c.due : Int), .string c.terms], .int .u8 77] W fun e w' => e = .returned (.int .u64 (c.amt : Int)) ∧ Hid (Below W.heap.size W w')) := HNB.out
            have HNU : Hid (∀ W, Calls Tryz.prog 28 #[.int .u64 (c.amt : Int)] W fun e w' => ∃ v', e = .returned v' ∧ Owns W.heap.size w' v' (numB c.amt) ∧ Below W.heap.size W w') := fun W => refNumB c.amt _ W rfl (HC.out.num 5)
            have HJO : Hid (∀ (W : World) (v' : Value), Below wr.heap.size wr W → Owns wr.heap.size W v' (numB c.amt) → Calls Tryz.prog 27 #[.slice vo bl vc, v'] W fun e w' => ∃ ao cap n, e = .returned (.slice ao n cap) ∧ Hid (Rp w c w' ∧ Owns w.heap.size w' (.slice ao n cap) (c.bts (k + 1)))) := fun W v' hb ho => by
              obtain ⟨a2, c2, rfl, hs2, -⟩ := ho.form
              refine (join_any (showsN HSH.out hb) (Nat.le_refl _) hs2 (Nat.le_refl _) (by have := numB_le c.amt; rw [HBL.out]; omega)).mono ?_
              rintro e w' ⟨v, rfl, h1, h2⟩
              obtain ⟨ao, cap, rfl, -, -⟩ := h1.form
              refine ⟨ao, cap, _, rfl, (KR.out.next hb).next h2, ?_⟩
              rw [HSU.out]
              exact h1.lowerK (Nat.le_trans KR.out.bel.size hb.size)
            go_wp2_with fail
            go_region_held (fun V => V.cell? ⟨w.heap.size, 0, none⟩ = some (.int .i64 c.verb) ∧ V.cell? ⟨w.heap.size, 1, none⟩ = some (.int .u64 (c.deal : Int)) ∧ V.cell? ⟨w.heap.size, 2, none⟩ = some (.int .u64 (c.acct : Int)) ∧ V.cell? ⟨w.heap.size, 3, none⟩ = some (.int .u64 (c.to_ : Int)) ∧ V.cell? ⟨w.heap.size, 4, none⟩ = some (.int .u64 (c.arb : Int)) ∧ V.cell? ⟨w.heap.size, 5, none⟩ = some (.int .u64 (c.amt : Int)) ∧ V.cell? ⟨w.heap.size, 6, none⟩ = some (.int .u64 (c.due : Int)) ∧ V.cell? ⟨w.heap.size, 7, none⟩ = some (.string c.terms)) (first | go_keep | exact rp_cells G3R.out)
              (first
                | (go_at_call 25; refine (HN.out _).mono ?_; rintro e w3 ⟨rfl, hb3⟩; have G3 : Hid (Below wr.heap.size wr w3) := ⟨hb3.out.os, hb3.out.tape, hb3.out.output, hb3.out.size, hb3.out.block⟩; have G3R := hide (KR.out.next G3.out))
                | (go_at_call 28; refine (HNU.out _).mono ?_; rintro e w4 ⟨v4, rfl, ho4, hb4⟩; have HJ := hide (HJO.out _ _ (G3.out.trans (hb4.mono G3.out.size)) (ho4.lowerK G3.out.size)); have G4 : Hid (Below wr.heap.size wr w4) := G3.out.trans (hb4.mono G3.out.size); have G3R := hide (KR.out.next G4.out); clear ho4 hb4)
                | (go_at_call 27; refine HJ.out.mono ?_; rintro e w5 ⟨ao5, cap5, n5, rfl, G5⟩; have G3R := hide G5.out.1))
            all_goals clear x0 x1 x2 x3 x4 x5 x6 x7
            all_goals go_wp2
            all_goals first | (go_roundw; case rel => exact ⟨k + 1, by omega, by go_num, G5.out, fun h => by have := HK6.out (by omega); omega⟩; case measure => simp [intOf]; omega) | exact ⟨⟨k + 1, by omega, by go_num, G5.out, fun h => by have := HK6.out (by omega); omega⟩, by simp [intOf]; omega⟩
          · have hy : (S[k]'hlt).toNat = 85 := hy
            have HN : Hid (∀ W, Calls Tryz.prog 25 #[.agg #[.int .i64 c.verb, .int .u64 (c.deal : Int), .int .u64 (c.acct : Int), .int .u64 (c.to_ : Int), .int .u64 (c.arb : Int), .int .u64 (c.amt : Int), .int .u64 (c.due : Int), .string c.terms], .int .u8 85] W fun e w' => e = .returned (.int .u64 (c.due : Int)) ∧ Hid (Below W.heap.size W w')) := HNB.out
            have HNU : Hid (∀ W, Calls Tryz.prog 28 #[.int .u64 (c.due : Int)] W fun e w' => ∃ v', e = .returned v' ∧ Owns W.heap.size w' v' (numB c.due) ∧ Below W.heap.size W w') := fun W => refNumB c.due _ W rfl (HC.out.num 6)
            have HJO : Hid (∀ (W : World) (v' : Value), Below wr.heap.size wr W → Owns wr.heap.size W v' (numB c.due) → Calls Tryz.prog 27 #[.slice vo bl vc, v'] W fun e w' => ∃ ao cap n, e = .returned (.slice ao n cap) ∧ Hid (Rp w c w' ∧ Owns w.heap.size w' (.slice ao n cap) (c.bts (k + 1)))) := fun W v' hb ho => by
              obtain ⟨a2, c2, rfl, hs2, -⟩ := ho.form
              refine (join_any (showsN HSH.out hb) (Nat.le_refl _) hs2 (Nat.le_refl _) (by have := numB_le c.due; rw [HBL.out]; omega)).mono ?_
              rintro e w' ⟨v, rfl, h1, h2⟩
              obtain ⟨ao, cap, rfl, -, -⟩ := h1.form
              refine ⟨ao, cap, _, rfl, (KR.out.next hb).next h2, ?_⟩
              rw [HSU.out]
              exact h1.lowerK (Nat.le_trans KR.out.bel.size hb.size)
            go_wp2_with fail
            go_region_held (fun V => V.cell? ⟨w.heap.size, 0, none⟩ = some (.int .i64 c.verb) ∧ V.cell? ⟨w.heap.size, 1, none⟩ = some (.int .u64 (c.deal : Int)) ∧ V.cell? ⟨w.heap.size, 2, none⟩ = some (.int .u64 (c.acct : Int)) ∧ V.cell? ⟨w.heap.size, 3, none⟩ = some (.int .u64 (c.to_ : Int)) ∧ V.cell? ⟨w.heap.size, 4, none⟩ = some (.int .u64 (c.arb : Int)) ∧ V.cell? ⟨w.heap.size, 5, none⟩ = some (.int .u64 (c.amt : Int)) ∧ V.cell? ⟨w.heap.size, 6, none⟩ = some (.int .u64 (c.due : Int)) ∧ V.cell? ⟨w.heap.size, 7, none⟩ = some (.string c.terms)) (first | go_keep | exact rp_cells G3R.out)
              (first
                | (go_at_call 25; refine (HN.out _).mono ?_; rintro e w3 ⟨rfl, hb3⟩; have G3 : Hid (Below wr.heap.size wr w3) := ⟨hb3.out.os, hb3.out.tape, hb3.out.output, hb3.out.size, hb3.out.block⟩; have G3R := hide (KR.out.next G3.out))
                | (go_at_call 28; refine (HNU.out _).mono ?_; rintro e w4 ⟨v4, rfl, ho4, hb4⟩; have HJ := hide (HJO.out _ _ (G3.out.trans (hb4.mono G3.out.size)) (ho4.lowerK G3.out.size)); have G4 : Hid (Below wr.heap.size wr w4) := G3.out.trans (hb4.mono G3.out.size); have G3R := hide (KR.out.next G4.out); clear ho4 hb4)
                | (go_at_call 27; refine HJ.out.mono ?_; rintro e w5 ⟨ao5, cap5, n5, rfl, G5⟩; have G3R := hide G5.out.1))
            all_goals clear x0 x1 x2 x3 x4 x5 x6 x7
            all_goals go_wp2
            all_goals first | (go_roundw; case rel => exact ⟨k + 1, by omega, by go_num, G5.out, fun h => by have := HK6.out (by omega); omega⟩; case measure => simp [intOf]; omega) | exact ⟨⟨k + 1, by omega, by go_num, G5.out, fun h => by have := HK6.out (by omega); omega⟩, by simp [intOf]; omega⟩
        · obtain rfl : k = S.size := by omega
          have FL : Hid (PB = c.bts (S.size) ∧ PL = [] ∧ PC = 0) := by
            have := HOK.out HS0.out (fun h4 => H7K.out (by rw [HLS.out.1, h4]; decide))
            rw [← HLS.out.1] at this
            exact this
          have KR := hide HR.out.1
          have HNN := hide (none0 wr)
          unfold FvP at HNN
          have O8 := hide HR.out.2
          rw [HBL.out] at O8
          clear HR
          go_wp2_with fail
          refine HNN.out.mono ?_
          rintro e w5 ⟨ao, cap, rfl, G⟩
          obtain ⟨b, off, hf, hb⟩ := G.out
          have qr := (KR.out.next hb).res
          have y0 := block_cell qr 0
          have y1 := block_cell qr 1
          have f0 := block_free qr 0
          have f1 := block_free qr 1
          have hl5 := block_lt qr
          simp at y0 y1
          have FIN : Hid (∀ x y, FV ((w5.setCell ⟨w.heap.size + 1, 0, none⟩ x).setCell ⟨w.heap.size + 1, 1, none⟩ y).heap.size ((w5.setCell ⟨w.heap.size + 1, 0, none⟩ x).setCell ⟨w.heap.size + 1, 1, none⟩ y) ao [] b off ∧ Below w.heap.size w ((w5.setCell ⟨w.heap.size + 1, 0, none⟩ x).setCell ⟨w.heap.size + 1, 1, none⟩ y)) := fun x y => rp_end KR.out hf hb x y
          have OWN : Hid (∀ x y, Owns w.heap.size ((w5.setCell ⟨w.heap.size + 1, 0, none⟩ x).setCell ⟨w.heap.size + 1, 1, none⟩ y) (.slice vo bl vc) (c.bts S.size)) := fun x y => by
            have r5 := row_quietT O8.out.1 (below_none hb)
            have hne : (Value.slice vo bl vc).ownBlock ≠ some (w.heap.size + 1) := fun e => by
              rcases r5.2 with ⟨e0, _⟩ | ⟨g', cap', cur, e0, _, hbk, _⟩
              · rw [e0] at e; cases e
              · rw [e0] at e; cases e
                rw [hbk] at qr
                cases qr
            exact ⟨(r5.kept (grown_set _ (w.heap.size + 1) 0 x) (.inr hne)).kept (grown_set _ (w.heap.size + 1) 1 y) (.inr hne), O8.out.2⟩
          clear qr hf hb G x0 x1 x2 x3 x4 x5 x6 x7 hl
          go_wp2
          obtain ⟨e1, e2, e3⟩ := FL.out
          refine bodyPost_ret (v := .tuple #[.slice vo bl vc, .agg #[.slice ao 0 cap, .int .i64 0]]) (by simp [results, Tryz.results5, go_sem, y0, y1]) rfl ⟨_, ao, cap, by rw [e2, e3]; rfl, by rw [e1]; exact OWN.out _ _, ⟨b, off, by rw [e2]; exact (FIN.out _ _).1⟩, (FIN.out _ _).2⟩
end Go.Proofs.YthacdhhmmmocpaaGreatDoor
