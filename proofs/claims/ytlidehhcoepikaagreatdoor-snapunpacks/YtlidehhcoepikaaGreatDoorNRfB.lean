import Derived.Test.YtlidehhcoepikaaGreatDoorM41
namespace Go.Proofs.YtlidehhcoepikaaGreatDoor
open Go.RowKit Crc
attribute [local irreducible] nV nS oV oS cV cS

theorem Rw.stay {γ : Type} {base p q : Nat} {t e : TypeId} {m : Nat} {g : γ → List Value} {u : Value} {M : List γ} {W W' : World} {row : Option Nat} (r : Rw base W t m g u M) (hg : W.grownBy W' row) (hne : t ≠ e) (hb : p < base ∧ q < base) (hr : row = none ∨ row = some p ∨ row = some q ∨ ∃ g cur, row = some g ∧ W.heap[g]? = some (.cells cur e (0, 0))) : Rw base W' t m g u M := by
  rcases hr with rfl | rfl | rfl | ⟨g, cur, rfl, hgc⟩
  · exact r.quiet hg
  · exact r.past hg (some_lt hb.1)
  · exact r.past hg (some_lt hb.2)
  · refine r.kept hg ?_
    rcases r.block with e | ⟨g', cur', e, hg'⟩
    · exact .inl e
    · refine .inr (fun e2 => ?_)
      rw [e] at e2
      cases e2
      rw [hgc] at hg'
      cases hg'
      exact hne rfl
set_option maxRecDepth 10000 in
set_option maxHeartbeats 3200000 in
theorem refBook_any {d p : Nat} {w : World} {s : RS} (h : RefS d w p s) (hd : d < w.heap.size) : Calls Tryz.prog 43 #[.pointer (some ⟨p, 0, none⟩)] w fun e w' => ∃ (x y : Nat) (a : Option Addr) (na ca : Nat) (b : Option Addr) (nb cb : Nat) (c : Option Addr) (nc cc : Nat), e = .returned (.agg #[.int .u64 (x : Int), .int .u64 (y : Int), .slice a na ca, .slice b nb cb, .slice c nc cc]) ∧ Hid ((x = (rdBk s).1.tot ∧ y = (rdBk s).1.nx) ∧ OwnBk w.heap.size w' (.slice a na ca) (.slice b nb cb) (.slice c nc cc) (rdBk s).1.A (rdBk s).1.H (rdBk s).1.J ∧ w.grownBy w' (some p) ∧ RefS d w' p (rdBk s).2) := by
  obtain ⟨iAc, hiAc, hz0Ac, hz1Ac, hz2Ac⟩ := info_parts infoAc
  obtain ⟨iHo, hiHo, hz0Ho, hz1Ho, hz2Ho⟩ := info_parts infoHo
  obtain ⟨iEn, hiEn, hz0En, hz1En, hz2En⟩ := info_parts infoEn
  have hp := refS_size h
  obtain ⟨W0, hW0⟩ : ∃ W0, w.alloc (.cells #[.int .u64 0, .int .u64 0, .slice none 0 0, .slice none 0 0, .slice none 0 0] 27) = W0 := ⟨_, rfl⟩
  have s0 : W0.heap.size = w.heap.size + 1 := by rw [← hW0]; simp
  have g0 : w.grownBy W0 (some p) := by rw [← hW0]; exact World.grownBy_alloc _ _ _
  have q0 : W0.heap[w.heap.size]? = some (.cells #[.int .u64 0, .int .u64 0, .slice none 0 0, .slice none 0 0, .slice none 0 0] 27 (0, 0)) := by rw [← hW0]; exact alloc_atN _ _
  have RES : Hid (∀ W, W0.grownBy W (some p) → W.heap[w.heap.size]? = some (.cells #[.int .u64 0, .int .u64 0, .slice none 0 0, .slice none 0 0, .slice none 0 0] 27 (0, 0))) := fun W hg => (hg.block _ (by omega) (by simp; omega)).trans q0
  obtain ⟨W1, hW1⟩ : ∃ W1, W0.alloc (.cells #[.int .u64 0, .int .u64 0, .slice none 0 0, .slice none 0 0, .slice none 0 0] 27) = W1 := ⟨_, rfl⟩
  have D0 : Hid (Dr d p W0 (w.heap.size + 1) 27 s #[.int .u64 0, .int .u64 0, .slice none 0 0, .slice none 0 0, .slice none 0 0] W1) := by
    have q := Dr.start (d := d) (p := p) (w := W0) (s := s) (h.quiet (by rw [← hW0]; exact World.grownBy_alloc _ _ none)) #[.int .u64 0, .int .u64 0, .slice none 0 0, .slice none 0 0, .slice none 0 0] 27
    rw [s0, hW1] at q
    exact q
  have GW0 := hide g0
  have HW : Hid ((w.alloc (.cells #[.int .u64 0, .int .u64 0, .slice none 0 0, .slice none 0 0, .slice none 0 0] 27)).alloc (.cells #[.int .u64 0, .int .u64 0, .slice none 0 0, .slice none 0 0, .slice none 0 0] 27) = W1) := by
    show _ = _
    rw [hW0]; exact hW1
  have hdW : d < W0.heap.size := by omega
  have hpW : p < W0.heap.size := by omega
  have HXY : Hid (nV s = (rdBk s).1.tot ∧ nV (nS s) = (rdBk s).1.nx) := ⟨rfl, rfl⟩
  have HQAc : Hid (rdL rdAc (cS (nS (nS s)) 64) (cV (nS (nS s)) 64) = bkA s) := rfl
  have hnlAc := cV_le (nS (nS s)) 64
  have N0 : Hid (∀ W cs, Dr d p W0 (w.heap.size + 1) 27 s cs W → Calls Tryz.prog 42 #[.pointer (some ⟨p, 0, none⟩)] W fun e w' => e = .returned (.int .u64 ((nV s : Nat) : Int)) ∧ Hid (Dr d p W0 (w.heap.size + 1) 27 (nS s) cs w')) := fun W cs h => num_dr hpW (by omega) h
  have N1 : Hid (∀ W cs, Dr d p W0 (w.heap.size + 1) 27 (nS s) cs W → Calls Tryz.prog 42 #[.pointer (some ⟨p, 0, none⟩)] W fun e w' => e = .returned (.int .u64 ((nV (nS s) : Nat) : Int)) ∧ Hid (Dr d p W0 (w.heap.size + 1) 27 (nS (nS s)) cs w')) := fun W cs h => num_dr hpW (by omega) h
  have N2 : Hid (∀ W cs, Dr d p W0 (w.heap.size + 1) 27 (nS (nS s)) cs W → Calls Tryz.prog 44 #[.pointer (some ⟨p, 0, none⟩), .int .i64 64] W fun e w' => e = .returned (.int .i64 ((cV (nS (nS s)) 64 : Nat) : Int)) ∧ Hid (Dr d p W0 (w.heap.size + 1) 27 (cS (nS (nS s)) 64) cs w')) := fun W cs h => (cnt_dr hpW (by omega) h 64 (by omega) (by omega)).mono fun _ _ ⟨e, G⟩ => ⟨e, G.out.1⟩
  have hnlAc' : cV (nS (nS s)) 64 ≤ 64 := hnlAc
  clear h hW0 g0 q0 hW1 hnlAc
  generalize cS (nS (nS s)) 64 = sAc at *
  generalize cV (nS (nS s)) 64 = nAc at *
  generalize nS (nS s) = s2 at *
  generalize nV (nS s) = y at *
  generalize nV s = x at *
  generalize nS s = s1 at *
  have STAc : Hid (Stays p (w.heap.size + 1) 63 (fun _ => True)) := fun _ _ _ _ _ _ => trivial
  go_enter Tryz.func43, Tryz.ntmps43
  go_wp2_with fail
  rw [HW.out]
  refine (N0.out _ _ D0.out).mono ?_
  rintro e w1 ⟨rfl, H1⟩
  have c1 := block_cell H1.out.box 0
  have f1 := block_free H1.out.box 0
  have l1 := block_lt H1.out.box
  simp at c1
  go_wp2_with fail
  refine (N1.out _ _ (H1.out.set hdW hpW (by omega) 0 (.int .u64 (x : Int)))).mono ?_
  rintro e w2 ⟨rfl, H2⟩
  have c2 := block_cell H2.out.box 1
  have f2 := block_free H2.out.box 1
  have l2 := block_lt H2.out.box
  simp at c2
  clear c1 f1
  go_wp2_with fail
  refine (N2.out _ _ (H2.out.set hdW hpW (by omega) 1 (.int .u64 (y : Int)))).mono ?_
  rintro e w3 ⟨rfl, H3⟩
  have STARTAc : Hid (Lr d p W0 (w.heap.size + 1) 27 (fun v => #[.int .u64 (x : Int), .int .u64 (y : Int), v, .slice none 0 0, .slice none 0 0]) 63 4 Ac.cells (fun _ => True) (rdL rdAc sAc 0).2 (rdL rdAc sAc 0).1 (.slice none 0 0) w3) := ⟨H3.out, Rw.nil _ _ _ _ _, trivial⟩
  clear c2 f2 l1 l2 H1 H2 H3 N0 N1 N2 D0 HW
  go_wp2
  go_loopw [5] (fun i wr => ∃ k : Nat, k ≤ nAc ∧ i = .int .i64 k ∧ Hid (∃ v, Lr d p W0 (w.heap.size + 1) 27 (fun v => #[.int .u64 (x : Int), .int .u64 (y : Int), v, .slice none 0 0, .slice none 0 0]) 63 4 Ac.cells (fun _ => True) (rdL rdAc sAc k).2 (rdL rdAc sAc k).1 v wr)) (fun i _ => nAc - (intOf i).toNat)
  case atStart => exact ⟨0, by omega, rfl, _, STARTAc.out⟩
  case round =>
    obtain ⟨k, hk, rfl, HS⟩ := hrel
    obtain ⟨v, hv⟩ := HS.out
    obtain ⟨aco, acc, rfl⟩ : ∃ vo vc, v = .slice vo k vc := by
      obtain ⟨vo, vc, e⟩ := hv.row.form
      exact ⟨vo, vc, by rw [e, rdL_len]⟩
    have HV := hide hv
    clear HS hv STARTAc
    by_cases hlt : k < nAc
    · have hwr : W0.heap.size ≤ wr.heap.size := HV.out.dr.gr.size
      have hdr : d < wr.heap.size := by omega
      have hpr : p < wr.heap.size := by omega
      have HNX : Hid (∀ (W w3 : World) (v' : Value) (o : Obj), RefS d W p (rdAc (rdL rdAc sAc k).2).2 → wr.grownBy W (some p) → w3.ownsRow (w.heap.size + 1 + 1) 63 4 v' (k + 1) (flat Ac.cells (rdL rdAc sAc k).1 ++ (rdAc (rdL rdAc sAc k).2).1.cells) → (W.alloc o).grownBy w3 (Value.slice aco k acc).ownBlock → Lr d p W0 (w.heap.size + 1) 27 (fun v => #[.int .u64 (x : Int), .int .u64 (y : Int), v, .slice none 0 0, .slice none 0 0]) 63 4 Ac.cells (fun _ => True) (rdL rdAc sAc (k + 1)).2 (rdL rdAc sAc (k + 1)).1 v' (w3.setCell ⟨w.heap.size + 1, 2, none⟩ v') ∧ w3.cell? ⟨w.heap.size + 1, 2, none⟩ = some (.slice aco k acc) ∧ w3.frozen? ⟨w.heap.size + 1, 2, none⟩ = false ∧ w.heap.size + 1 < w3.heap.size) := fun W w3 v' o h1 h2 h3 h4 => HV.out.next STAc.out 2 (fun _ _ => rfl) (fun _ => rfl) hdW hpW (by omega) h1 h2 (x := (rdAc (rdL rdAc sAc k).2).1) (by rw [rdL_len]; exact h3) h4
      have HRW : Hid (∀ (W : World) (o : Obj), wr.grownBy W (some p) → (W.alloc o).ownsRow (w.heap.size + 1 + 1) 63 4 (.slice aco k acc) k (flat Ac.cells (rdL rdAc sAc k).1)) := fun W o hg => by
        have r := (HV.out.row.past hg (some_lt (by omega))).quiet (World.grownBy_alloc W o none)
        unfold Rw at r
        rw [rdL_len] at r
        exact r
      have HBX : Hid (∀ W, wr.grownBy W (some p) → W.cell? ⟨w.heap.size + 1, 2, none⟩ = some (.slice aco k acc)) := fun W hg => (hg.cell (block_cell HV.out.dr.box 2) (by simp; omega))
      have D0 : Hid (Dr d p wr wr.heap.size 63 (rdL rdAc sAc k).2 #[.int .u64 0, .int .u64 0, .int .u64 0, .int .u64 0] (wr.alloc (.cells #[.int .u64 0, .int .u64 0, .int .u64 0, .int .u64 0] 63))) := Dr.start HV.out.dr.rd _ _
      have HEC : Hid (∀ sk, (rdAc sk).1.cells = [.int .u64 ((nV sk : Nat) : Int), .int .u64 ((nV (nS sk) : Nat) : Int), .int .u64 ((nV (nS (nS sk)) : Nat) : Int), .int .u64 ((nV (nS (nS (nS sk))) : Nat) : Int)] ∧ (rdAc sk).2 = nS (nS (nS (nS sk)))) := fun sk => ⟨rfl, rfl⟩
      rw [(HEC.out _).1, (HEC.out _).2] at HNX
      generalize (rdL rdAc sAc k).2 = sk at *
      have N0 : Hid (∀ W cs, Dr d p wr wr.heap.size 63 sk cs W → Calls Tryz.prog 42 #[.pointer (some ⟨p, 0, none⟩)] W fun e w' => e = .returned (.int .u64 ((nV sk : Nat) : Int)) ∧ Hid (Dr d p wr wr.heap.size 63 (nS sk) cs w')) := fun W cs h => num_dr hpr (Nat.le_refl _) h
      have N1 : Hid (∀ W cs, Dr d p wr wr.heap.size 63 (nS sk) cs W → Calls Tryz.prog 42 #[.pointer (some ⟨p, 0, none⟩)] W fun e w' => e = .returned (.int .u64 ((nV (nS sk) : Nat) : Int)) ∧ Hid (Dr d p wr wr.heap.size 63 (nS (nS sk)) cs w')) := fun W cs h => num_dr hpr (Nat.le_refl _) h
      have N2 : Hid (∀ W cs, Dr d p wr wr.heap.size 63 (nS (nS sk)) cs W → Calls Tryz.prog 42 #[.pointer (some ⟨p, 0, none⟩)] W fun e w' => e = .returned (.int .u64 ((nV (nS (nS sk)) : Nat) : Int)) ∧ Hid (Dr d p wr wr.heap.size 63 (nS (nS (nS sk))) cs w')) := fun W cs h => num_dr hpr (Nat.le_refl _) h
      have N3 : Hid (∀ W cs, Dr d p wr wr.heap.size 63 (nS (nS (nS sk))) cs W → Calls Tryz.prog 42 #[.pointer (some ⟨p, 0, none⟩)] W fun e w' => e = .returned (.int .u64 ((nV (nS (nS (nS sk))) : Nat) : Int)) ∧ Hid (Dr d p wr wr.heap.size 63 (nS (nS (nS (nS sk)))) cs w')) := fun W cs h => num_dr hpr (Nat.le_refl _) h
      clear HEC
      generalize nV sk = a0 at *
      generalize nS sk = t1 at *
      generalize nV t1 = a1 at *
      generalize nS t1 = t2 at *
      generalize nV t2 = a2 at *
      generalize nS t2 = t3 at *
      generalize nV t3 = a3 at *
      generalize nS t3 = t4 at *
      go_wp2_with fail
      refine (N0.out _ _ (D0.out)).mono ?_
      rintro e v1 ⟨rfl, H1⟩
      have c1 := block_cell H1.out.box 0
      have f1 := block_free H1.out.box 0
      have l1 := block_lt H1.out.box
      simp at c1
      go_wp2_with fail
      refine (N1.out _ _ ((H1.out.set hdr hpr (Nat.le_refl _) 0 (.int .u64 (a0 : Int))))).mono ?_
      rintro e v2 ⟨rfl, H2⟩
      have c2 := block_cell H2.out.box 1
      have f2 := block_free H2.out.box 1
      have l2 := block_lt H2.out.box
      simp at c2
      clear c1 f1
      go_wp2_with fail
      refine (N2.out _ _ ((H2.out.set hdr hpr (Nat.le_refl _) 1 (.int .u64 (a1 : Int))))).mono ?_
      rintro e v3 ⟨rfl, H3⟩
      have c3 := block_cell H3.out.box 2
      have f3 := block_free H3.out.box 2
      have l3 := block_lt H3.out.box
      simp at c3
      clear c2 f2
      go_wp2_with fail
      refine (N3.out _ _ ((H3.out.set hdr hpr (Nat.le_refl _) 2 (.int .u64 (a2 : Int))))).mono ?_
      rintro e v4 ⟨rfl, H4⟩
      have c4 := block_cell H4.out.box 3
      have f4 := block_free H4.out.box 3
      have l4 := block_lt H4.out.box
      simp at c4
      clear c3 f3
      obtain ⟨V, hV⟩ : ∃ V, v4.setCell ⟨wr.heap.size, 3, none⟩ (.int .u64 (a3 : Int)) = V := ⟨_, rfl⟩
      have DV : Hid (Dr d p wr wr.heap.size 63 t4 #[.int .u64 ((a0 : Nat) : Int), .int .u64 ((a1 : Nat) : Int), .int .u64 ((a2 : Nat) : Int), .int .u64 ((a3 : Nat) : Int)] V) := by
        rw [← hV]
        exact H4.out.set hdr hpr (Nat.le_refl _) 3 (.int .u64 (a3 : Int))
      have e0 := block_cell DV.out.box 0
      have e1 := block_cell DV.out.box 1
      have e2 := block_cell DV.out.box 2
      have e3 := block_cell DV.out.box 3
      simp at e0 e1 e2 e3
      have eb := HBX.out V DV.out.gr
      have hszV : W0.heap.size ≤ V.heap.size := Nat.le_trans hwr DV.out.gr.size
      have hqV : w.heap.size + 1 < V.heap.size := by have := DV.out.gr.size; have := block_lt DV.out.box; omega
      go_wp2_with (first
        | (at_builtin; refine wpList_append_own _ rfl (.tmp 37) (.tmp 39) 23 rfl (w.heap.size + 1 + 1) 63 iAc (.agg #[.int .u64 0, .int .u64 0, .int .u64 0, .int .u64 0]) 4 32 Tryz.underlying23 hiAc hz0Ac hz1Ac hz2Ac rfl (by decide) (.slice aco k acc) k (flat Ac.cells (rdL rdAc sAc k).1) rfl (HRW.out _ _ DV.out.gr) ⟨V.heap.size, 0, none⟩ 1 1 [.int .u64 ((a0 : Nat) : Int), .int .u64 ((a1 : Nat) : Int), .int .u64 ((a2 : Nat) : Int), .int .u64 ((a3 : Nat) : Int)] rfl rfl (cells_newN _ _ _) (by simp [Value.oneCell']) (by unfold maxLen; omega) (by omega) (by simp; omega) ?_; intro v' w3 ho hg _; obtain ⟨g', cap', rfl⟩ := ownsRow_succN ho; have hnx := HNX.out _ _ _ _ DV.out.rd DV.out.gr ho hg; have NX := hide hnx.1; obtain ⟨-, z1, z2, z3⟩ := hnx; clear ho hg))
      go_roundw
      case rel => exact ⟨k + 1, by omega, by go_num, _, NX.out⟩
      case measure => simp [intOf]; omega
    · obtain rfl : nAc = k := by omega
      have HCN := hide (cnt_dr hpW (by omega) HV.out.dr 64 (by omega) (by omega))
      have hnlHo := cV_le (rdL rdAc sAc nAc).2 64
      obtain ⟨sHo, hsHo⟩ : ∃ s', s' = cS (rdL rdAc sAc nAc).2 64 := ⟨_, rfl⟩
      obtain ⟨nHo, hnHo⟩ : ∃ n', n' = cV (rdL rdAc sAc nAc).2 64 := ⟨_, rfl⟩
      have HQHo := hide (And.intro hsHo hnHo)
      have hnlHo : nHo ≤ 64 := by rw [hnHo]; exact hnlHo
      rw [← hsHo, ← hnHo] at HCN
      clear hsHo hnHo
      have STHo : Hid (Stays p (w.heap.size + 1) 65 (fun W => Rw (w.heap.size + 1 + 1) W 63 4 Ac.cells (.slice aco nAc acc) (rdL rdAc sAc nAc).1)) := fun W W' row h hg hr => by
        have key : ∀ {γ : Type} {t : TypeId} {m : Nat} {g : γ → List Value} {u : Value} {M : List γ}, t ≠ 65 → Rw (w.heap.size + 1 + 1) W t m g u M → Rw (w.heap.size + 1 + 1) W' t m g u M := fun hne r => r.stay hg hne (by omega) hr
        exact key (by decide) h
      have STARTHo : Hid (∀ W', wr.grownBy W' (some p) → Dr d p W0 (w.heap.size + 1) 27 sHo ((fun v => #[.int .u64 (x : Int), .int .u64 (y : Int), .slice aco nAc acc, v, .slice none 0 0]) (.slice none 0 0)) W' → Lr d p W0 (w.heap.size + 1) 27 (fun v => #[.int .u64 (x : Int), .int .u64 (y : Int), .slice aco nAc acc, v, .slice none 0 0]) 65 3 Ho.cells (fun W => Rw (w.heap.size + 1 + 1) W 63 4 Ac.cells (.slice aco nAc acc) (rdL rdAc sAc nAc).1) (rdL rdHo sHo 0).2 (rdL rdHo sHo 0).1 (.slice none 0 0) W') := fun W' hg hdr => ⟨hdr, Rw.nil _ _ _ _ _, STHo.out _ _ (some p) (HV.out.row) hg (.inr (.inl rfl))⟩
      go_wp2_with fail
      refine HCN.out.mono ?_
      rintro e wHo ⟨rfl, GHo⟩
      have STARTHo := hide (STARTHo.out _ GHo.out.2 GHo.out.1)
      clear HCN GHo HV
      go_wp2
      go_loopw [7] (fun i wr => ∃ k : Nat, k ≤ nHo ∧ i = .int .i64 k ∧ Hid (∃ v, Lr d p W0 (w.heap.size + 1) 27 (fun v => #[.int .u64 (x : Int), .int .u64 (y : Int), .slice aco nAc acc, v, .slice none 0 0]) 65 3 Ho.cells (fun W => Rw (w.heap.size + 1 + 1) W 63 4 Ac.cells (.slice aco nAc acc) (rdL rdAc sAc nAc).1) (rdL rdHo sHo k).2 (rdL rdHo sHo k).1 v wr)) (fun i _ => nHo - (intOf i).toNat)
      case atStart => exact ⟨0, by omega, rfl, _, STARTHo.out⟩
      case round =>
        obtain ⟨k, hk, rfl, HS⟩ := hrel
        obtain ⟨v, hv⟩ := HS.out
        obtain ⟨hoo, hoc, rfl⟩ : ∃ vo vc, v = .slice vo k vc := by
          obtain ⟨vo, vc, e⟩ := hv.row.form
          exact ⟨vo, vc, by rw [e, rdL_len]⟩
        have HV := hide hv
        clear HS hv STARTHo
        by_cases hlt : k < nHo
        · have hwr : W0.heap.size ≤ wr.heap.size := HV.out.dr.gr.size
          have hdr : d < wr.heap.size := by omega
          have hpr : p < wr.heap.size := by omega
          have HNX : Hid (∀ (W w3 : World) (v' : Value) (o : Obj), RefS d W p (rdHo (rdL rdHo sHo k).2).2 → wr.grownBy W (some p) → w3.ownsRow (w.heap.size + 1 + 1) 65 3 v' (k + 1) (flat Ho.cells (rdL rdHo sHo k).1 ++ (rdHo (rdL rdHo sHo k).2).1.cells) → (W.alloc o).grownBy w3 (Value.slice hoo k hoc).ownBlock → Lr d p W0 (w.heap.size + 1) 27 (fun v => #[.int .u64 (x : Int), .int .u64 (y : Int), .slice aco nAc acc, v, .slice none 0 0]) 65 3 Ho.cells (fun W => Rw (w.heap.size + 1 + 1) W 63 4 Ac.cells (.slice aco nAc acc) (rdL rdAc sAc nAc).1) (rdL rdHo sHo (k + 1)).2 (rdL rdHo sHo (k + 1)).1 v' (w3.setCell ⟨w.heap.size + 1, 3, none⟩ v') ∧ w3.cell? ⟨w.heap.size + 1, 3, none⟩ = some (.slice hoo k hoc) ∧ w3.frozen? ⟨w.heap.size + 1, 3, none⟩ = false ∧ w.heap.size + 1 < w3.heap.size) := fun W w3 v' o h1 h2 h3 h4 => HV.out.next STHo.out 3 (fun _ _ => rfl) (fun _ => rfl) hdW hpW (by omega) h1 h2 (x := (rdHo (rdL rdHo sHo k).2).1) (by rw [rdL_len]; exact h3) h4
          have HRW : Hid (∀ (W : World) (o : Obj), wr.grownBy W (some p) → (W.alloc o).ownsRow (w.heap.size + 1 + 1) 65 3 (.slice hoo k hoc) k (flat Ho.cells (rdL rdHo sHo k).1)) := fun W o hg => by
            have r := (HV.out.row.past hg (some_lt (by omega))).quiet (World.grownBy_alloc W o none)
            unfold Rw at r
            rw [rdL_len] at r
            exact r
          have HBX : Hid (∀ W, wr.grownBy W (some p) → W.cell? ⟨w.heap.size + 1, 3, none⟩ = some (.slice hoo k hoc)) := fun W hg => (hg.cell (block_cell HV.out.dr.box 3) (by simp; omega))
          have D0 : Hid (Dr d p wr wr.heap.size 65 (rdL rdHo sHo k).2 #[.int .u64 0, .int .u64 0, .int .u64 0] (wr.alloc (.cells #[.int .u64 0, .int .u64 0, .int .u64 0] 65))) := Dr.start HV.out.dr.rd _ _
          have HEC : Hid (∀ sk, (rdHo sk).1.cells = [.int .u64 ((nV sk : Nat) : Int), .int .u64 ((nV (nS sk) : Nat) : Int), .int .u64 ((nV (nS (nS sk)) : Nat) : Int)] ∧ (rdHo sk).2 = nS (nS (nS sk))) := fun sk => ⟨rfl, rfl⟩
          rw [(HEC.out _).1, (HEC.out _).2] at HNX
          generalize (rdL rdHo sHo k).2 = sk at *
          have N0 : Hid (∀ W cs, Dr d p wr wr.heap.size 65 sk cs W → Calls Tryz.prog 42 #[.pointer (some ⟨p, 0, none⟩)] W fun e w' => e = .returned (.int .u64 ((nV sk : Nat) : Int)) ∧ Hid (Dr d p wr wr.heap.size 65 (nS sk) cs w')) := fun W cs h => num_dr hpr (Nat.le_refl _) h
          have N1 : Hid (∀ W cs, Dr d p wr wr.heap.size 65 (nS sk) cs W → Calls Tryz.prog 42 #[.pointer (some ⟨p, 0, none⟩)] W fun e w' => e = .returned (.int .u64 ((nV (nS sk) : Nat) : Int)) ∧ Hid (Dr d p wr wr.heap.size 65 (nS (nS sk)) cs w')) := fun W cs h => num_dr hpr (Nat.le_refl _) h
          have N2 : Hid (∀ W cs, Dr d p wr wr.heap.size 65 (nS (nS sk)) cs W → Calls Tryz.prog 42 #[.pointer (some ⟨p, 0, none⟩)] W fun e w' => e = .returned (.int .u64 ((nV (nS (nS sk)) : Nat) : Int)) ∧ Hid (Dr d p wr wr.heap.size 65 (nS (nS (nS sk))) cs w')) := fun W cs h => num_dr hpr (Nat.le_refl _) h
          clear HEC
          generalize nV sk = a0 at *
          generalize nS sk = t1 at *
          generalize nV t1 = a1 at *
          generalize nS t1 = t2 at *
          generalize nV t2 = a2 at *
          generalize nS t2 = t3 at *
          go_wp2_with fail
          refine (N0.out _ _ (D0.out)).mono ?_
          rintro e v1 ⟨rfl, H1⟩
          have c1 := block_cell H1.out.box 0
          have f1 := block_free H1.out.box 0
          have l1 := block_lt H1.out.box
          simp at c1
          go_wp2_with fail
          refine (N1.out _ _ ((H1.out.set hdr hpr (Nat.le_refl _) 0 (.int .u64 (a0 : Int))))).mono ?_
          rintro e v2 ⟨rfl, H2⟩
          have c2 := block_cell H2.out.box 1
          have f2 := block_free H2.out.box 1
          have l2 := block_lt H2.out.box
          simp at c2
          clear c1 f1
          go_wp2_with fail
          refine (N2.out _ _ ((H2.out.set hdr hpr (Nat.le_refl _) 1 (.int .u64 (a1 : Int))))).mono ?_
          rintro e v3 ⟨rfl, H3⟩
          have c3 := block_cell H3.out.box 2
          have f3 := block_free H3.out.box 2
          have l3 := block_lt H3.out.box
          simp at c3
          clear c2 f2
          obtain ⟨V, hV⟩ : ∃ V, v3.setCell ⟨wr.heap.size, 2, none⟩ (.int .u64 (a2 : Int)) = V := ⟨_, rfl⟩
          have DV : Hid (Dr d p wr wr.heap.size 65 t3 #[.int .u64 ((a0 : Nat) : Int), .int .u64 ((a1 : Nat) : Int), .int .u64 ((a2 : Nat) : Int)] V) := by
            rw [← hV]
            exact H3.out.set hdr hpr (Nat.le_refl _) 2 (.int .u64 (a2 : Int))
          have e0 := block_cell DV.out.box 0
          have e1 := block_cell DV.out.box 1
          have e2 := block_cell DV.out.box 2
          simp at e0 e1 e2
          have eb := HBX.out V DV.out.gr
          have hszV : W0.heap.size ≤ V.heap.size := Nat.le_trans hwr DV.out.gr.size
          have hqV : w.heap.size + 1 < V.heap.size := by have := DV.out.gr.size; have := block_lt DV.out.box; omega
          go_wp2_with (first
            | (at_builtin; refine wpList_append_own _ rfl (.tmp 59) (.tmp 61) 24 rfl (w.heap.size + 1 + 1) 65 iHo (.agg #[.int .u64 0, .int .u64 0, .int .u64 0]) 3 24 Tryz.underlying24 hiHo hz0Ho hz1Ho hz2Ho rfl (by decide) (.slice hoo k hoc) k (flat Ho.cells (rdL rdHo sHo k).1) rfl (HRW.out _ _ DV.out.gr) ⟨V.heap.size, 0, none⟩ 1 1 [.int .u64 ((a0 : Nat) : Int), .int .u64 ((a1 : Nat) : Int), .int .u64 ((a2 : Nat) : Int)] rfl rfl (cells_newN _ _ _) (by simp [Value.oneCell']) (by unfold maxLen; omega) (by omega) (by simp; omega) ?_; intro v' w3 ho hg _; obtain ⟨g', cap', rfl⟩ := ownsRow_succN ho; have hnx := HNX.out _ _ _ _ DV.out.rd DV.out.gr ho hg; have NX := hide hnx.1; obtain ⟨-, z1, z2, z3⟩ := hnx; clear ho hg))
          go_roundw
          case rel => exact ⟨k + 1, by omega, by go_num, _, NX.out⟩
          case measure => simp [intOf]; omega
        · obtain rfl : nHo = k := by omega
          have HCN := hide (cnt_dr hpW (by omega) HV.out.dr 64 (by omega) (by omega))
          have hnlEn := cV_le (rdL rdHo sHo nHo).2 64
          obtain ⟨sEn, hsEn⟩ : ∃ s', s' = cS (rdL rdHo sHo nHo).2 64 := ⟨_, rfl⟩
          obtain ⟨nEn, hnEn⟩ : ∃ n', n' = cV (rdL rdHo sHo nHo).2 64 := ⟨_, rfl⟩
          have HQEn := hide (And.intro hsEn hnEn)
          have hnlEn : nEn ≤ 64 := by rw [hnEn]; exact hnlEn
          rw [← hsEn, ← hnEn] at HCN
          clear hsEn hnEn
          have STEn : Hid (Stays p (w.heap.size + 1) 67 (fun W => Rw (w.heap.size + 1 + 1) W 63 4 Ac.cells (.slice aco nAc acc) (rdL rdAc sAc nAc).1 ∧ Rw (w.heap.size + 1 + 1) W 65 3 Ho.cells (.slice hoo nHo hoc) (rdL rdHo sHo nHo).1)) := fun W W' row h hg hr => by
            have key : ∀ {γ : Type} {t : TypeId} {m : Nat} {g : γ → List Value} {u : Value} {M : List γ}, t ≠ 67 → Rw (w.heap.size + 1 + 1) W t m g u M → Rw (w.heap.size + 1 + 1) W' t m g u M := fun hne r => r.stay hg hne (by omega) hr
            exact ⟨key (by decide) h.1, key (by decide) h.2⟩
          have STARTEn : Hid (∀ W', wr.grownBy W' (some p) → Dr d p W0 (w.heap.size + 1) 27 sEn ((fun v => #[.int .u64 (x : Int), .int .u64 (y : Int), .slice aco nAc acc, .slice hoo nHo hoc, v]) (.slice none 0 0)) W' → Lr d p W0 (w.heap.size + 1) 27 (fun v => #[.int .u64 (x : Int), .int .u64 (y : Int), .slice aco nAc acc, .slice hoo nHo hoc, v]) 67 5 En.cells (fun W => Rw (w.heap.size + 1 + 1) W 63 4 Ac.cells (.slice aco nAc acc) (rdL rdAc sAc nAc).1 ∧ Rw (w.heap.size + 1 + 1) W 65 3 Ho.cells (.slice hoo nHo hoc) (rdL rdHo sHo nHo).1) (rdL rdEn sEn 0).2 (rdL rdEn sEn 0).1 (.slice none 0 0) W') := fun W' hg hdr => ⟨hdr, Rw.nil _ _ _ _ _, STEn.out _ _ (some p) (⟨HV.out.oth, HV.out.row⟩) hg (.inr (.inl rfl))⟩
          go_wp2_with fail
          refine HCN.out.mono ?_
          rintro e wEn ⟨rfl, GEn⟩
          have STARTEn := hide (STARTEn.out _ GEn.out.2 GEn.out.1)
          clear HCN GEn HV
          go_wp2
          go_loopw [9] (fun i wr => ∃ k : Nat, k ≤ nEn ∧ i = .int .i64 k ∧ Hid (∃ v, Lr d p W0 (w.heap.size + 1) 27 (fun v => #[.int .u64 (x : Int), .int .u64 (y : Int), .slice aco nAc acc, .slice hoo nHo hoc, v]) 67 5 En.cells (fun W => Rw (w.heap.size + 1 + 1) W 63 4 Ac.cells (.slice aco nAc acc) (rdL rdAc sAc nAc).1 ∧ Rw (w.heap.size + 1 + 1) W 65 3 Ho.cells (.slice hoo nHo hoc) (rdL rdHo sHo nHo).1) (rdL rdEn sEn k).2 (rdL rdEn sEn k).1 v wr)) (fun i _ => nEn - (intOf i).toNat)
          case atStart => exact ⟨0, by omega, rfl, _, STARTEn.out⟩
          case round =>
            obtain ⟨k, hk, rfl, HS⟩ := hrel
            obtain ⟨v, hv⟩ := HS.out
            obtain ⟨eno, enc, rfl⟩ : ∃ vo vc, v = .slice vo k vc := by
              obtain ⟨vo, vc, e⟩ := hv.row.form
              exact ⟨vo, vc, by rw [e, rdL_len]⟩
            have HV := hide hv
            clear HS hv STARTEn
            by_cases hlt : k < nEn
            · have hwr : W0.heap.size ≤ wr.heap.size := HV.out.dr.gr.size
              have hdr : d < wr.heap.size := by omega
              have hpr : p < wr.heap.size := by omega
              have HNX : Hid (∀ (W w3 : World) (v' : Value) (o : Obj), RefS d W p (rdEn (rdL rdEn sEn k).2).2 → wr.grownBy W (some p) → w3.ownsRow (w.heap.size + 1 + 1) 67 5 v' (k + 1) (flat En.cells (rdL rdEn sEn k).1 ++ (rdEn (rdL rdEn sEn k).2).1.cells) → (W.alloc o).grownBy w3 (Value.slice eno k enc).ownBlock → Lr d p W0 (w.heap.size + 1) 27 (fun v => #[.int .u64 (x : Int), .int .u64 (y : Int), .slice aco nAc acc, .slice hoo nHo hoc, v]) 67 5 En.cells (fun W => Rw (w.heap.size + 1 + 1) W 63 4 Ac.cells (.slice aco nAc acc) (rdL rdAc sAc nAc).1 ∧ Rw (w.heap.size + 1 + 1) W 65 3 Ho.cells (.slice hoo nHo hoc) (rdL rdHo sHo nHo).1) (rdL rdEn sEn (k + 1)).2 (rdL rdEn sEn (k + 1)).1 v' (w3.setCell ⟨w.heap.size + 1, 4, none⟩ v') ∧ w3.cell? ⟨w.heap.size + 1, 4, none⟩ = some (.slice eno k enc) ∧ w3.frozen? ⟨w.heap.size + 1, 4, none⟩ = false ∧ w.heap.size + 1 < w3.heap.size) := fun W w3 v' o h1 h2 h3 h4 => HV.out.next STEn.out 4 (fun _ _ => rfl) (fun _ => rfl) hdW hpW (by omega) h1 h2 (x := (rdEn (rdL rdEn sEn k).2).1) (by rw [rdL_len]; exact h3) h4
              have HRW : Hid (∀ (W : World) (o : Obj), wr.grownBy W (some p) → (W.alloc o).ownsRow (w.heap.size + 1 + 1) 67 5 (.slice eno k enc) k (flat En.cells (rdL rdEn sEn k).1)) := fun W o hg => by
                have r := (HV.out.row.past hg (some_lt (by omega))).quiet (World.grownBy_alloc W o none)
                unfold Rw at r
                rw [rdL_len] at r
                exact r
              have HBX : Hid (∀ W, wr.grownBy W (some p) → W.cell? ⟨w.heap.size + 1, 4, none⟩ = some (.slice eno k enc)) := fun W hg => (hg.cell (block_cell HV.out.dr.box 4) (by simp; omega))
              have D0 : Hid (Dr d p wr wr.heap.size 67 (rdL rdEn sEn k).2 #[.int .u64 0, .int .i64 0, .int .u64 0, .int .u64 0, .int .u64 0] (wr.alloc (.cells #[.int .u64 0, .int .i64 0, .int .u64 0, .int .u64 0, .int .u64 0] 67))) := Dr.start HV.out.dr.rd _ _
              have HEC : Hid (∀ sk, (rdEn sk).1.cells = [.int .u64 ((nV sk : Nat) : Int), .int .i64 ((oV (nS sk) : Nat) : Int), .int .u64 ((nV (oS (nS sk)) : Nat) : Int), .int .u64 ((nV (nS (oS (nS sk))) : Nat) : Int), .int .u64 ((nV (nS (nS (oS (nS sk)))) : Nat) : Int)] ∧ (rdEn sk).2 = nS (nS (nS (oS (nS sk))))) := fun sk => ⟨rfl, rfl⟩
              rw [(HEC.out _).1, (HEC.out _).2] at HNX
              generalize (rdL rdEn sEn k).2 = sk at *
              have N0 : Hid (∀ W cs, Dr d p wr wr.heap.size 67 sk cs W → Calls Tryz.prog 42 #[.pointer (some ⟨p, 0, none⟩)] W fun e w' => e = .returned (.int .u64 ((nV sk : Nat) : Int)) ∧ Hid (Dr d p wr wr.heap.size 67 (nS sk) cs w')) := fun W cs h => num_dr hpr (Nat.le_refl _) h
              have N1 : Hid (∀ W cs, Dr d p wr wr.heap.size 67 (nS sk) cs W → Calls Tryz.prog 40 #[.pointer (some ⟨p, 0, none⟩), .int .i64 1] W fun e w' => e = .returned (.int .u64 ((oV (nS sk) : Nat) : Int)) ∧ Hid (Dr d p wr wr.heap.size 67 (oS (nS sk)) cs w')) := fun W cs h => oct_dr hpr (Nat.le_refl _) h
              have NO : Hid (∀ W cs, Dr d p wr wr.heap.size 67 (nS sk) cs W → oV (nS sk) < 256) := fun W cs h => h.rd.oct
              have N2 : Hid (∀ W cs, Dr d p wr wr.heap.size 67 (oS (nS sk)) cs W → Calls Tryz.prog 42 #[.pointer (some ⟨p, 0, none⟩)] W fun e w' => e = .returned (.int .u64 ((nV (oS (nS sk)) : Nat) : Int)) ∧ Hid (Dr d p wr wr.heap.size 67 (nS (oS (nS sk))) cs w')) := fun W cs h => num_dr hpr (Nat.le_refl _) h
              have N3 : Hid (∀ W cs, Dr d p wr wr.heap.size 67 (nS (oS (nS sk))) cs W → Calls Tryz.prog 42 #[.pointer (some ⟨p, 0, none⟩)] W fun e w' => e = .returned (.int .u64 ((nV (nS (oS (nS sk))) : Nat) : Int)) ∧ Hid (Dr d p wr wr.heap.size 67 (nS (nS (oS (nS sk)))) cs w')) := fun W cs h => num_dr hpr (Nat.le_refl _) h
              have N4 : Hid (∀ W cs, Dr d p wr wr.heap.size 67 (nS (nS (oS (nS sk)))) cs W → Calls Tryz.prog 42 #[.pointer (some ⟨p, 0, none⟩)] W fun e w' => e = .returned (.int .u64 ((nV (nS (nS (oS (nS sk)))) : Nat) : Int)) ∧ Hid (Dr d p wr wr.heap.size 67 (nS (nS (nS (oS (nS sk))))) cs w')) := fun W cs h => num_dr hpr (Nat.le_refl _) h
              clear HEC
              generalize nV sk = a0 at *
              generalize nS sk = t1 at *
              generalize oV t1 = a1 at *
              generalize oS t1 = t2 at *
              generalize nV t2 = a2 at *
              generalize nS t2 = t3 at *
              generalize nV t3 = a3 at *
              generalize nS t3 = t4 at *
              generalize nV t4 = a4 at *
              generalize nS t4 = t5 at *
              go_wp2_with fail
              refine (N0.out _ _ (D0.out)).mono ?_
              rintro e v1 ⟨rfl, H1⟩
              have c1 := block_cell H1.out.box 0
              have f1 := block_free H1.out.box 0
              have l1 := block_lt H1.out.box
              simp at c1
              go_wp2_with fail
              have ho := NO.out _ _ ((H1.out.set hdr hpr (Nat.le_refl _) 0 (.int .u64 (a0 : Int))))
              refine (N1.out _ _ ((H1.out.set hdr hpr (Nat.le_refl _) 0 (.int .u64 (a0 : Int))))).mono ?_
              rintro e v2 ⟨rfl, H2⟩
              have c2 := block_cell H2.out.box 1
              have f2 := block_free H2.out.box 1
              have l2 := block_lt H2.out.box
              simp at c2
              clear c1 f1
              go_wp2_with fail
              refine (N2.out _ _ ((H2.out.set hdr hpr (Nat.le_refl _) 1 (.int .i64 (a1 : Int))))).mono ?_
              rintro e v3 ⟨rfl, H3⟩
              have c3 := block_cell H3.out.box 2
              have f3 := block_free H3.out.box 2
              have l3 := block_lt H3.out.box
              simp at c3
              clear c2 f2
              go_wp2_with fail
              refine (N3.out _ _ ((H3.out.set hdr hpr (Nat.le_refl _) 2 (.int .u64 (a2 : Int))))).mono ?_
              rintro e v4 ⟨rfl, H4⟩
              have c4 := block_cell H4.out.box 3
              have f4 := block_free H4.out.box 3
              have l4 := block_lt H4.out.box
              simp at c4
              clear c3 f3
              go_wp2_with fail
              refine (N4.out _ _ ((H4.out.set hdr hpr (Nat.le_refl _) 3 (.int .u64 (a3 : Int))))).mono ?_
              rintro e v5 ⟨rfl, H5⟩
              have c5 := block_cell H5.out.box 4
              have f5 := block_free H5.out.box 4
              have l5 := block_lt H5.out.box
              simp at c5
              clear c4 f4
              obtain ⟨V, hV⟩ : ∃ V, v5.setCell ⟨wr.heap.size, 4, none⟩ (.int .u64 (a4 : Int)) = V := ⟨_, rfl⟩
              have DV : Hid (Dr d p wr wr.heap.size 67 t5 #[.int .u64 ((a0 : Nat) : Int), .int .i64 ((a1 : Nat) : Int), .int .u64 ((a2 : Nat) : Int), .int .u64 ((a3 : Nat) : Int), .int .u64 ((a4 : Nat) : Int)] V) := by
                rw [← hV]
                exact H5.out.set hdr hpr (Nat.le_refl _) 4 (.int .u64 (a4 : Int))
              have e0 := block_cell DV.out.box 0
              have e1 := block_cell DV.out.box 1
              have e2 := block_cell DV.out.box 2
              have e3 := block_cell DV.out.box 3
              have e4 := block_cell DV.out.box 4
              simp at e0 e1 e2 e3 e4
              have eb := HBX.out V DV.out.gr
              have hszV : W0.heap.size ≤ V.heap.size := Nat.le_trans hwr DV.out.gr.size
              have hqV : w.heap.size + 1 < V.heap.size := by have := DV.out.gr.size; have := block_lt DV.out.box; omega
              go_wp2_with (first
                | (at_builtin; refine wpList_append_own _ rfl (.tmp 88) (.tmp 90) 25 rfl (w.heap.size + 1 + 1) 67 iEn (.agg #[.int .u64 0, .int .i64 0, .int .u64 0, .int .u64 0, .int .u64 0]) 5 40 Tryz.underlying25 hiEn hz0En hz1En hz2En rfl (by decide) (.slice eno k enc) k (flat En.cells (rdL rdEn sEn k).1) rfl (HRW.out _ _ DV.out.gr) ⟨V.heap.size, 0, none⟩ 1 1 [.int .u64 ((a0 : Nat) : Int), .int .i64 ((a1 : Nat) : Int), .int .u64 ((a2 : Nat) : Int), .int .u64 ((a3 : Nat) : Int), .int .u64 ((a4 : Nat) : Int)] rfl rfl (cells_newN _ _ _) (by simp [Value.oneCell']) (by unfold maxLen; omega) (by omega) (by simp; omega) ?_; intro v' w3 ho hg _; obtain ⟨g', cap', rfl⟩ := ownsRow_succN ho; have hnx := HNX.out _ _ _ _ DV.out.rd DV.out.gr ho hg; have NX := hide hnx.1; obtain ⟨-, z1, z2, z3⟩ := hnx; clear ho hg))
              go_roundw
              case rel => exact ⟨k + 1, by omega, by go_num, _, NX.out⟩
              case measure => simp [intOf]; omega
            · obtain rfl : nEn = k := by omega
              have b0 := block_cell HV.out.dr.box 0
              have b1 := block_cell HV.out.dr.box 1
              have b2 := block_cell HV.out.dr.box 2
              have b3 := block_cell HV.out.dr.box 3
              have b4 := block_cell HV.out.dr.box 4
              simp at b0 b1 b2 b3 b4
              have hC := RES.out _ HV.out.dr.gr
              have z0 := block_cell hC 0
              have f0 := block_free hC 0
              have z1 := block_cell hC 1
              have f1 := block_free hC 1
              have z2 := block_cell hC 2
              have f2 := block_free hC 2
              have z3 := block_cell hC 3
              have f3 := block_free hC 3
              have z4 := block_cell hC 4
              have f4 := block_free hC 4
              simp at z0 z1 z2 z3 z4
              have FIN : Hid (∀ x0 x1 x2 x3 x4, OwnBk w.heap.size (((((wr.setCell ⟨w.heap.size, 0, none⟩ x0).setCell ⟨w.heap.size, 1, none⟩ x1).setCell ⟨w.heap.size, 2, none⟩ x2).setCell ⟨w.heap.size, 3, none⟩ x3).setCell ⟨w.heap.size, 4, none⟩ x4) (.slice aco nAc acc) (.slice hoo nHo hoc) (.slice eno nEn enc) (rdBk s).1.A (rdBk s).1.H (rdBk s).1.J ∧ w.grownBy (((((wr.setCell ⟨w.heap.size, 0, none⟩ x0).setCell ⟨w.heap.size, 1, none⟩ x1).setCell ⟨w.heap.size, 2, none⟩ x2).setCell ⟨w.heap.size, 3, none⟩ x3).setCell ⟨w.heap.size, 4, none⟩ x4) (some p) ∧ RefS d (((((wr.setCell ⟨w.heap.size, 0, none⟩ x0).setCell ⟨w.heap.size, 1, none⟩ x1).setCell ⟨w.heap.size, 2, none⟩ x2).setCell ⟨w.heap.size, 3, none⟩ x3).setCell ⟨w.heap.size, 4, none⟩ x4) p (rdBk s).2) := fun x0 x1 x2 x3 x4 => by
                have g : wr.grownBy (((((wr.setCell ⟨w.heap.size, 0, none⟩ x0).setCell ⟨w.heap.size, 1, none⟩ x1).setCell ⟨w.heap.size, 2, none⟩ x2).setCell ⟨w.heap.size, 3, none⟩ x3).setCell ⟨w.heap.size, 4, none⟩ x4) (some w.heap.size) := (grown_trans (row := some w.heap.size) (grown_trans (row := some w.heap.size) (grown_trans (row := some w.heap.size) (grown_trans (row := some w.heap.size) (grown_set _ _ _ _) (grown_set _ _ _ _)) (grown_set _ _ _ _)) (grown_set _ _ _ _)) (grown_set _ _ _ _))
                have o := HV.out.oth
                obtain ⟨e1, e2⟩ := HQHo.out
                obtain ⟨e3, e4⟩ := HQEn.out
                have q1 : (rdL rdAc sAc nAc) = bkA s := HQAc.out
                have q2 : (rdL rdHo sHo nHo) = bkH s := by rw [e1, e2, q1]; rfl
                have q3 : (rdL rdEn sEn nEn) = bkJ s := by rw [e3, e4, q2]; rfl
                have ob : OwnBk (w.heap.size + 1 + 1) wr (.slice aco nAc acc) (.slice hoo nHo hoc) (.slice eno nEn enc) (bkA s).1 (bkH s).1 (bkJ s).1 := by
                  rw [← q1, ← q2, ← q3]
                  exact ⟨o.1, o.2, HV.out.row⟩
                have r3 := HV.out.dr.rd
                rw [q3] at r3
                exact ⟨(ob.past g (some_lt (by omega))).lower (by omega), grown_new (grown_trans (row := some p) GW0.out HV.out.dr.gr) g (Nat.le_refl _), r3.kept g (by simp; omega) (by simp; omega)⟩
              clear hC
              go_wp2
              refine bodyPost_ret (v := .agg #[.int .u64 (x : Int), .int .u64 (y : Int), .slice aco nAc acc, .slice hoo nHo hoc, .slice eno nEn enc]) (by simp [results, Tryz.results43, go_sem, z0, z1, z2, z3, z4]) rfl ?_
              exact ⟨x, y, aco, nAc, acc, hoo, nHo, hoc, eno, nEn, enc, rfl, HXY.out, FIN.out _ _ _ _ _⟩
end Go.Proofs.YtlidehhcoepikaaGreatDoor
