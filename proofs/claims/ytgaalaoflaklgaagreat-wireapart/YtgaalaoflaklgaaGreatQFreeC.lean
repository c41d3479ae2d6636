import Derived.Test.YtgaalaoflaklgaaGreatM31
namespace Go.Proofs.YtgaalaoflaklgaaGreat
open Go.RowKit Crc

theorem sls_same {base base' n : Nat} {w w' : World} {lo : Option Addr} {lc : Nat} {xs : List Value} (_h : Sls base w (.slice lo n lc) n xs) (h' : Sls base' w' (.slice lo n lc) n xs) {k : Nat} {u : Value} (hu : xs[k]? = some u) : ∃ lb, lo = some ⟨lb, 0, none⟩ ∧ w'.cell? ⟨lb, k, none⟩ = some u := by
  obtain ⟨g, cap, e, hc⟩ := sls_at h' hu
  cases e
  exact ⟨g, rfl, hc⟩

set_option maxRecDepth 10000 in
set_option maxHeartbeats 3200000 in
theorem free_any {w : World} {lv : Value} {rs : List Rq} (h : F0 w lv rs) :
    Calls Tryz.prog 50 #[lv] w fun e w' => e = .returned (.bool true) ∧ Hid (Out (inB rs) w w') := by
  obtain ⟨i0, hi, hz0, hz1, hz2⟩ := info_parts infoSl
  obtain ⟨j0, hj, hy0, hy1, hy2⟩ := info_parts Tryz.info5
  obtain ⟨lo, lc, rfl⟩ := sls_form h.row
  have hle := h.le
  have H0 := hide h
  clear h
  have HG : Hid (∀ (k : Nat), k < rs.length → ∃ r, rs[k]? = some r ∧ (rs.map Rq.sl)[k]? = some r.sl) := fun k hk => ⟨rs[k], List.getElem?_eq_getElem hk, by rw [List.getElem?_map, List.getElem?_eq_getElem hk]; rfl⟩
  have HW : Hid (∀ wr, Below w.heap.size w wr → Sls 0 wr (.slice lo rs.length lc) rs.length (rs.map Rq.sl)) := fun wr hb => row_quiet H0.out.row (below_none hb)
  go_enter Tryz.func50, Tryz.ntmps50
  go_wp2
  go_loopw [5, 3] (fun i v wr => ∃ k : Nat, k ≤ rs.length ∧ i = .int .i64 k ∧ ∃ v3, v3 = v ∧ Hid (∃ gs, F1 w rs k v3 gs wr)) (fun i _ _ => rs.length - (intOf i).toNat)
  case atStart => exact ⟨0, by omega, rfl, _, rfl, _, F1.start w rs⟩
  case round =>
    obtain ⟨k, hk, rfl, v3, rfl, HS⟩ := hrel
    obtain ⟨gs, hf⟩ := HS.out
    have HF := hide hf
    have hsz := hf.bel.size
    clear hf HS
    by_cases hlt : k < rs.length
    · obtain ⟨r, hr, hrs⟩ := HG.out k hlt
      obtain ⟨lb, rfl, c0⟩ := sls_same H0.out.row (HW.out wr HF.out.bel) hrs
      have HR := hide hr
      have hcn : r.cn = r.C.length ∧ Shows wr.heap.size wr r.co r.cn r.cc r.C := by
        obtain ⟨ao, cap, e, hs, _⟩ := ((H0.out.own k r hr).quiet (below_none HF.out.bel)).has.form
        have e' : Value.slice r.co r.cn r.cc = .slice ao r.C.length cap := e
        simp only [Value.slice.injEq] at e'
        obtain ⟨e1, e2, e3⟩ := e'
        exact ⟨e2, by rw [e1, e2, e3]; exact hs⟩
      have HLD : Hid (Calls Tryz.prog 9 #[.slice r.co r.cn r.cc] wr fun e w1 => e = .returned (.slice (some ⟨wr.heap.size, 0, none⟩) r.cn (r.cn + 4)) ∧ Hid (Lent w1 wr.heap.size r.cn r.C ∧ Below wr.heap.size wr w1)) := lend_sh hcn.2 (Nat.le_refl _)
      have HOW : Hid (∀ w1 o, Below wr.heap.size wr w1 → Sls w.heap.size (w1.alloc o) v3 k gs) := fun w1 o hb => row_quiet (row_quiet HF.out.row (below_none hb)) (World.grownBy_alloc _ _ none)
      have HNX : Hid (∀ v' w1 w2 o, (Lent w1 wr.heap.size r.cn r.C ∧ Below wr.heap.size wr w1) → Sls w.heap.size w2 v' (k + 1) (gs ++ [.slice (some ⟨wr.heap.size, 0, none⟩) r.cn (r.cn + 4)]) → (w1.alloc o).grownBy w2 v3.ownBlock → ∃ gs, F1 w rs (k + 1) v' gs w2) := fun v' w1 w2 o h1 h2 h3 => ⟨_, HF.out.next HR.out h1.1 h1.2 h2 h3⟩
      clear hr hrs hcn
      obtain ⟨cl, sq, co, cn, cc, C⟩ := r
      simp only [Rq.sl] at c0 HLD HNX
      go_wp2_with fail
      refine HLD.out.mono ?_
      rintro e w1 ⟨rfl, HL⟩
      have hs1 : wr.heap.size ≤ w1.heap.size := HL.out.2.size
      go_wp2_with (first
        | (at_builtin; refine wpList_append_own _ rfl (.tmp 22) (.tmp 28) 124 rfl w.heap.size 29 i0 (.slice none 0 0) 1 24 Tryz.underlying124 hi hz0 hz1 hz2 rfl (by decide) v3 k gs rfl (HOW.out _ _ HL.out.2) ⟨w1.heap.size, 0, none⟩ 1 1 [.slice (some ⟨wr.heap.size, 0, none⟩) cn (cn + 4)] rfl rfl (cell_one_new _ _ _) (by simp [Value.oneCell']) (by unfold maxLen; omega) (by omega) (by simp; omega) ?_; intro v' w2 ho hg _; have HO := hide ho; have HGR := hide hg; clear ho hg))
      go_roundw
      case rel => exact ⟨k + 1, by omega, by go_num, _, rfl, HNX.out _ _ _ _ HL.out HO.out HGR.out⟩
      case measure => simp [intOf]; omega
    · obtain rfl : k = rs.length := by omega
      obtain ⟨W1, rfl⟩ : ∃ W1, W1 = wr := ⟨_, rfl⟩
      clear hk hlt
      go_wp2
      go_loopw [6, 4] (fun i v wl => ∃ k : Nat, k ≤ rs.length ∧ i = .int .i64 k ∧ ∃ v4, v4 = v ∧ Hid (∃ ys, F2 W1 rs k v4 ys wl)) (fun i _ _ => rs.length - (intOf i).toNat)
      case atStart => exact ⟨0, by omega, rfl, _, rfl, _, F2.start H0.out HF.out.bel⟩
      case round =>
        obtain ⟨k, hk, rfl, v4, rfl, HS⟩ := hrel
        obtain ⟨ys, hf2⟩ := HS.out
        have HF2 := hide hf2
        have hsz2 := hf2.out.size
        clear hf2 HS
        obtain ⟨wr0, rfl⟩ : ∃ wr0, wr0 = wr := ⟨_, rfl⟩
        by_cases hlt : k < rs.length
        · obtain ⟨r, hr, hrs⟩ := HG.out k hlt
          obtain ⟨lb, rfl, c0⟩ := sls_same H0.out.row (HF2.out.out.row (HW.out W1 HF.out.bel) H0.out.off) hrs
          have HR := hide hr
          have HC : Hid (r.C.length ≤ 1000000 ∧ ∀ g, r.sl.ownBlock = some g → g < wr0.heap.size) := ⟨H0.out.cl k r hr, fun g e => by have := H0.out.lo' hr e; omega⟩
          have HST : Hid (F3 wr0 r (mkB k) 0 r.sl wr0) := F3.start _ (HF2.out.own k r (Nat.le_refl _) hr)
          have HNX : Hid (∀ x wr w2 v' o, F3 wr0 r (mkB k) 64 x wr → Sls W1.heap.size w2 v' (k + 1) (ys ++ [x]) → (wr.alloc o).grownBy w2 v4.ownBlock → ∃ ys, F2 W1 rs (k + 1) v' ys w2) := fun x wr w2 v' o h1 h2 h3 => ⟨_, HF2.out.next H0.out HF.out.bel HR.out h1 h2 h3⟩
          have HOW : Hid (∀ x wr o, F3 wr0 r (mkB k) 64 x wr → Sls W1.heap.size (wr.alloc o) v4 k ys) := fun x wr o h3 => by
            have hvr : v4.ownBlock = none ∨ v4.ownBlock ≠ r.sl.ownBlock := by
              cases e : v4.ownBlock with
              | none => exact .inl rfl
              | some g => exact .inr (fun e2 => by have := (HF2.out.row.lt g e).1; have := H0.out.lo' HR.out e2.symm; omega)
            exact row_quiet (HF2.out.row.kept h3.ext.1 hvr) (World.grownBy_alloc _ _ none)
          have HIN : Hid (∀ m x wr w' x' o, m < 64 → F3 wr0 r (mkB k) m x wr → w'.ownsRow 0 5 1 x' (r.C.length + m + 1) (vals (r.C ++ List.replicate m (mkB k)) ++ [.int .u8 ((mkB k : Nat) : Int)]) → Ext (wr.alloc o) w' x x' → (x'.ownBlock = x.ownBlock ∨ (wr.alloc o).grownBy w' none) → F3 wr0 r (mkB k) (m + 1) x' w') := fun m x wr w' x' o hm h1 h2 h3 h4 => h1.next (mkB_lt k) (by have := HC.out.1; omega) HC.out.2 h2 h3 h4
          have HRO : Hid (∀ m x wr o, F3 wr0 r (mkB k) m x wr → (wr.alloc o).ownsRow 0 5 1 x (r.C.length + m) (vals (r.C ++ List.replicate m (mkB k)))) := fun m x wr o h => by
            have h1 := (h.own.quiet (World.grownBy_alloc _ o none)).1
            have e : (r.C ++ List.replicate m (mkB k)).length = r.C.length + m := by simp
            rw [e] at h1
            exact h1
          have hcl := HC.out.1
          clear hr hrs
          generalize hrc : r.C.length = L at *
          obtain ⟨X0, hX0⟩ : ∃ X0, r.sl = X0 := ⟨_, rfl⟩
          rw [hX0] at c0 HST
          clear hX0
          go_wp2
          go_loopw [8, 7] (fun i x wl => ∃ m : Nat, m ≤ 64 ∧ i = .int .i64 m ∧ ∃ x3, x3 = x ∧ Hid (F3 wr0 r (mkB k) m x3 wl)) (fun i _ _ => 64 - (intOf i).toNat)
          case atStart => exact ⟨0, by omega, rfl, _, rfl, HST.out⟩
          case round =>
            obtain ⟨m, hm, rfl, x3, rfl, HX⟩ := hrel
            by_cases hlm : m < 64
            · clear c0
              go_wp2_with (first
                | (at_builtin; refine wpList_append_moved _ rfl (.tmp 44) (.tmp 49) 29 rfl 0 5 j0 (.int .u8 0) 1 1 Tryz.underlying29 hj hy0 hy1 hy2 rfl (by decide) x3 (L + m) _ rfl (HRO.out _ _ _ _ HX.out) ⟨wr.heap.size, 0, none⟩ 1 1 [.int .u8 ((mkB k : Nat) : Int)] rfl rfl (cell_one_new _ _ _) (by simp [Value.oneCell']) (by omega) (by unfold maxLen; omega) (by omega) (by omega) ?_; intro x' w2 ho hg hmv; have HO := hide (HIN.out _ _ _ _ _ _ hlm HX.out ho hg hmv); clear ho hg hmv))
              exact ⟨⟨m + 1, by omega, by go_num, _, rfl, HO.out⟩, by simp [intOf]; omega⟩
            · obtain rfl : m = 64 := by omega
              clear hlm hm
              have hs3 : W1.heap.size ≤ wr.heap.size := by have := HX.out.ext.1.size; omega
              obtain ⟨xg, xc, hx3⟩ : ∃ xg xc, x3 = .slice (some ⟨xg, 0, none⟩) (L + 64) xc := by
                obtain ⟨g, cap, e, _⟩ := own_shape HX.out.own.1 (by simp)
                refine ⟨g, cap, ?_⟩
                rw [e]
                congr 1
                simp [hrc]
              subst hx3
              go_wp2_with (first
                | (at_builtin; refine wpList_append_own _ rfl (.tmp 51) (.tmp 53) 124 rfl W1.heap.size 29 i0 (.slice none 0 0) 1 24 Tryz.underlying124 hi hz0 hz1 hz2 rfl (by decide) v4 k ys rfl (HOW.out _ _ _ HX.out) ⟨wr.heap.size, 0, none⟩ 1 1 [.slice (some ⟨xg, 0, none⟩) (L + 64) xc] rfl rfl (cell_one_new _ _ _) (by simp [Value.oneCell']) (by unfold maxLen; omega) (by omega) (by simp; omega) ?_; intro v' w2 ho hg _; have HO := hide (HNX.out _ _ _ _ _ HX.out ho hg); clear ho hg))
              exact ⟨⟨k + 1, by omega, by go_num, _, rfl, HO.out⟩, by simp [intOf]; omega⟩
        · obtain rfl : k = rs.length := by omega
          obtain ⟨go', gc', rfl⟩ := sls_form HF2.out.row
          clear hk hlt
          go_wp2
          go_loopw [9] (fun i wl => ∃ k : Nat, k ≤ rs.length ∧ i = .int .i64 k ∧ Hid (F2 W1 rs rs.length (.slice go' rs.length gc') ys wl)) (fun i _ => rs.length - (intOf i).toNat)
          case atStart => exact ⟨0, by omega, rfl, HF2.out⟩
          case round =>
            clear HF2
            obtain ⟨k, hk, rfl, HF2⟩ := hrel
            by_cases hlt : k < rs.length
            · obtain ⟨r, hr, _⟩ := HG.out k hlt
              obtain ⟨lb, wb, wcap, gc, gb, gcap, yb, ycap, rfl, c0, rfl, c1, e3, c2, hcl, hs1, hs2, c3⟩ := HF2.out.look H0.out HF.out hr
              cases e3
              have C3 := hide c3
              have HSB : Hid (∀ q, Calls Tryz.prog 16 #[.slice r.co r.cn r.cc, .slice (some ⟨gc, 0, none⟩) r.cn (r.cn + 4)] (wr.drewN q) fun e w' => e = .returned (.bool true) ∧ ∃ q', w' = (wr.drewN q).drewN q') := fun q => same_any (w := wr.drewN q) (hs1.world rfl) (hs2.world rfl)
              clear hr hs1 hs2 c3
              obtain ⟨cl, sq, co, cn, cc, C⟩ := r
              simp only at c0 c1 c2 hcl C3 HSB
              go_wp2_with fail
              go_region_held (fun w' => (w'.cell? ⟨lb, k, none⟩ = some (.slice co cn cc) ∧ w'.cell? ⟨wb, k, none⟩ = some (.slice (some ⟨gc, 0, none⟩) cn (cn + 4))) ∧ w'.cell? ⟨gb, k, none⟩ = some (.slice (some ⟨yb, 0, none⟩) (cn + 64) ycap)) (go_keep)
                (first | (go_at_call 16; refine (HSB.out 1).mono ?_; rintro e w1 ⟨rfl, q', hw1⟩; have n1 : w1.cell? ⟨lb, k, none⟩ = some (.slice co cn cc) := (by rw [hw1]; exact c0); have n2 : w1.cell? ⟨wb, k, none⟩ = some (.slice (some ⟨gc, 0, none⟩) cn (cn + 4)) := (by rw [hw1]; exact c1); have n3 : w1.cell? ⟨gb, k, none⟩ = some (.slice (some ⟨yb, 0, none⟩) (cn + 64) ycap) := (by rw [hw1]; exact c2); have HB1 : Hid (wr.grownBy w1 none) := (by rw [hw1]; exact below_none (below_dN (below_dN (Below.refl _ _) 1) q')); clear hw1))
              have C4 : Hid (∀ t, t < 64 → w1.cell? ⟨yb, cn + t, none⟩ = some (.int .u8 (192 + (k : Int) % 40))) := fun t ht => (HB1.out.cell (C3.out t ht) (by simp)).trans (by unfold mkB; simp)
              have hwf : ((cn : Int) + 64 != IntKind.i64.wrap ((cn : Int) + 64)) = false := by
                have e : IntKind.i64.wrap ((cn : Int) + 64) = (cn : Int) + 64 := by simp [IntKind.wrap, IntKind.signed, IntKind.bits]; omega
                rw [e]
                simp
              go_wp2
              clear hwf
              go_loopw [11] (fun i wl => ∃ m : Nat, m ≤ 64 ∧ i = .int .i64 m ∧ wl = w1) (fun i _ => 64 - (intOf i).toNat)
              case atStart => exact ⟨0, by omega, rfl, rfl⟩
              case round =>
                obtain ⟨m, hm, rfl, rfl⟩ := hrel
                by_cases hlm : m < 64
                · have c4 := C4.out m hlm
                  go_wp2
                  go_roundw
                  case rel => exact ⟨m + 1, by omega, by go_num, trivial⟩
                  case measure => simp [intOf]; omega
                · obtain rfl : m = 64 := by omega
                  go_wp2
                  exact ⟨⟨k + 1, by omega, by go_num, HF2.out.quiet HB1.out⟩, by simp [intOf]; omega⟩
            · obtain rfl : k = rs.length := by omega
              obtain ⟨W2, rfl⟩ : ∃ W2, W2 = wr := ⟨_, rfl⟩
              have H4 : Hid (F4 W2 (.slice lo rs.length lc) rs 0 0 W2) := F4.start HF2.out (HF2.out.out.row (HW.out W1 HF.out.bel) H0.out.off)
              clear hk hlt
              go_wp2
              go_loopw [12] (fun i wl => ∃ k : Nat, k ≤ rs.length ∧ i = .int .i64 k ∧ Hid (F4 W2 (.slice lo rs.length lc) rs k 0 wl)) (fun i _ => rs.length - (intOf i).toNat)
              case atStart => exact ⟨0, by omega, rfl, H4.out⟩
              case round =>
                clear H4
                obtain ⟨k, hk, rfl, H4⟩ := hrel
                by_cases hlt : k < rs.length
                · obtain ⟨r, hr, _⟩ := HG.out k hlt
                  obtain ⟨lb, rfl, c0, hcn, hcl, _⟩ := H4.out.look H0.out hr
                  have HR := hide hr
                  have HL : Hid (∀ m wl, F4 W2 (.slice (some ⟨lb, 0, none⟩) rs.length lc) rs k m wl → wl.cell? ⟨lb, k, none⟩ = some (.slice r.co r.cn r.cc) ∧ (m < r.cn → ∃ g c, r.co = some ⟨g, 0, none⟩ ∧ wl.cell? ⟨g, m, none⟩ = some (.int .u8 c) ∧ wl.frozen? ⟨g, m, none⟩ = false ∧ ∀ x, x = ((flB k : Nat) : Int) → F4 W2 (.slice (some ⟨lb, 0, none⟩) rs.length lc) rs k (m + 1) (wl.setCell ⟨g, m, none⟩ (.int .u8 x)))) := fun m wl h => by
                    obtain ⟨lb', e, d0, _, _, hh⟩ := h.look H0.out HR.out
                    cases e
                    refine ⟨d0, fun hm => ?_⟩
                    obtain ⟨g, eg, hc⟩ := hh (by omega)
                    obtain ⟨c, d1, d2, _⟩ := hc m hm
                    exact ⟨g, c, eg, d1, d2, fun x hx => by rw [hx]; exact h.store H0.out HR.out (by omega) (by unfold Rq.sl; rw [eg]; rfl)⟩
                  have HT : Hid (∀ wl, F4 W2 (.slice (some ⟨lb, 0, none⟩) rs.length lc) rs k r.cn wl → F4 W2 (.slice (some ⟨lb, 0, none⟩) rs.length lc) rs (k + 1) 0 wl) := fun wl h => by rw [hcn] at h; exact h.turn HR.out
                  clear hr hcn c0
                  obtain ⟨cl, sq, co, cn, cc, C⟩ := r
                  simp only at hcl HL HT
                  go_wp2
                  go_loopw [13] (fun i wl => ∃ m : Nat, m ≤ cn ∧ i = .int .i64 m ∧ Hid (F4 W2 (.slice (some ⟨lb, 0, none⟩) rs.length lc) rs k m wl)) (fun i _ => cn - (intOf i).toNat)
                  case atStart => exact ⟨0, by omega, rfl, H4.out⟩
                  case round =>
                    clear H4
                    obtain ⟨m, hm, rfl, H4⟩ := hrel
                    obtain ⟨c0, hst⟩ := HL.out m wr H4.out
                    by_cases hlm : m < cn
                    · obtain ⟨g, c, rfl, d1, d2, hnx⟩ := hst hlm
                      have HNX := hide hnx
                      clear hnx
                      go_wp2
                      exact ⟨⟨m + 1, by omega, by go_num, HNX.out _ (by unfold flB; simp)⟩, by simp [intOf]; omega⟩
                    · obtain rfl : m = cn := by omega
                      clear hst
                      go_wp2
                      exact ⟨⟨k + 1, by omega, by go_num, HT.out _ H4.out⟩, by simp [intOf]; omega⟩
                · obtain rfl : k = rs.length := by omega
                  obtain ⟨W3, rfl⟩ : ∃ W3, W3 = wr := ⟨_, rfl⟩
                  clear hk hlt
                  go_wp2
                  go_loopw [14] (fun i wl => ∃ k : Nat, k ≤ rs.length ∧ i = .int .i64 k ∧ wl = W3) (fun i _ => rs.length - (intOf i).toNat)
                  case atStart => exact ⟨0, by omega, rfl, rfl⟩
                  case round =>
                    obtain ⟨k, hk, rfl, rfl⟩ := hrel
                    by_cases hlt : k < rs.length
                    · obtain ⟨r, hr, _⟩ := HG.out k hlt
                      obtain ⟨lb, rfl, c0, hcn, hcl, hrd⟩ := H4.out.look H0.out hr
                      have HRD : Hid (∀ m, m < r.cn → ∃ g, r.co = some ⟨g, 0, none⟩ ∧ wr.cell? ⟨g, m, none⟩ = some (.int .u8 ((k : Int) % 191))) := fun m hm => by
                        obtain ⟨g, eg, hc⟩ := hrd (by omega)
                        obtain ⟨c, d1, _, d3⟩ := hc m hm
                        refine ⟨g, eg, d1.trans ?_⟩
                        rw [d3 (by rw [if_pos hlt]; omega)]
                        unfold flB
                        simp
                      clear hr hcn hrd
                      obtain ⟨cl, sq, co, cn, cc, C⟩ := r
                      simp only at c0 hcl HRD
                      go_wp2
                      go_loopw [15] (fun i wl => ∃ m : Nat, m ≤ cn ∧ i = .int .i64 m ∧ wl = wr) (fun i _ => cn - (intOf i).toNat)
                      case atStart => exact ⟨0, by omega, rfl, rfl⟩
                      case round =>
                        obtain ⟨m, hm, rfl, rfl⟩ := hrel
                        by_cases hlm : m < cn
                        · obtain ⟨g, rfl, d1⟩ := HRD.out m hlm
                          go_wp2
                          exact ⟨⟨m + 1, by omega, by simp⟩, by simp [intOf]; omega⟩
                        · obtain rfl : m = cn := by omega
                          go_wp2
                          exact ⟨⟨k + 1, by omega, by simp⟩, by simp [intOf]; omega⟩
                    · obtain rfl : k = rs.length := by omega
                      go_wp2
                      go_ret
                      exact ⟨rfl, (Out.below HF.out.bel).trans (HF2.out.out.trans H4.out.out)⟩
end Go.Proofs.YtgaalaoflaklgaaGreat
