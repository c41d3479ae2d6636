import Derived.Test.YtgaalaoflaklgaaGreatQSeq
namespace Go.Proofs.YtgaalaoflaklgaaGreat
open Go.RowKit Crc

set_option maxRecDepth 10000 in
set_option maxHeartbeats 3200000 in
theorem freeReqs_one {w : World} {lb st n : Nat} {v : Value} (hl : w.heap[lb]? = some (.cells #[.int .u64 (st : Int), v] 25 (0, 0))) (hv : Q1 w v n 0 w) (hn : n ≤ 1000000) :
    Calls Tryz.prog 52 #[.slice (some ⟨lb, 0, none⟩) 1 1] w fun e w' => e = .returned (.bool true) ∧ Hid (Out (fun q => v.ownBlock = some q) w w') := by
  obtain ⟨i0, hi, hz0, hz1, hz2⟩ := info_parts infoReqs
  obtain ⟨j0, hj, hy0, hy1, hy2⟩ := info_parts infoReq
  obtain ⟨vo, vc, rfl⟩ : ∃ vo vc, v = .slice vo n vc := by
    obtain ⟨⟨ys, h1, _⟩, _⟩ := hv
    rcases h1.2 with ⟨h0, h1⟩ | ⟨g, cap, cur, hv, _⟩
    · exact ⟨none, 0, by rw [h0, h1]⟩
    · exact ⟨_, _, hv⟩
  have HV := hide hv
  have HL : Hid (∀ wl, Out (fun q => (Value.slice vo n vc).ownBlock = some q) w wl → wl.cell? ⟨lb, 1, none⟩ = some (.slice vo n vc)) := fun wl ho => by
    have hne : ¬ (Value.slice vo n vc).ownBlock = some lb := by
      obtain ⟨⟨ys, h1, _⟩, _⟩ := HV.out
      exact row_ne_box h1 hl
    exact (block_cell ((ho.block lb (block_lt hl) hne).trans hl) 1).trans rfl
  have HP : Hid (0 < n → ∃ g, vo = some ⟨g, 0, none⟩) := fun hp => by
    obtain ⟨⟨ys, h1, _⟩, _⟩ := HV.out
    rcases h1.2 with ⟨_, h1⟩ | ⟨g, cap, cur, e, _⟩
    · omega
    · cases e; exact ⟨g, rfl⟩
  have HO : Hid (∀ m wl, Q1 w (.slice vo n vc) n m wl → Out (fun q => (Value.slice vo n vc).ownBlock = some q) w wl) := fun m wl h => (Out.refl _ w).grown h.2 (fun g e => .inl e)
  have HLT : Hid (∀ g, (Value.slice vo n vc).ownBlock = some g → g < w.heap.size) := fun g e => by
    obtain ⟨⟨ys, h1, _⟩, _⟩ := HV.out
    exact (h1.lt g e).2
  clear hl hv
  go_enter Tryz.func52, Tryz.ntmps52
  go_wp2
  go_loopw [4, 3] (fun i nn wl => (i = .int .i64 0 ∧ nn = .int .u64 0 ∧ Hid (Q1 w (.slice vo n vc) n 0 wl)) ∨ (i = .int .i64 1 ∧ Hid (Q1 w (.slice vo n vc) n n wl))) (fun i _ _ => 1 - (intOf i).toNat)
  case atStart => exact .inl ⟨rfl, rfl, HV.out⟩
  case round =>
    clear HV
    rcases hrel with ⟨rfl, rfl, HQ⟩ | ⟨rfl, HQ⟩
    · go_wp2
      go_loopw [5, 3] (fun i nn wl => ∃ m : Nat, m ≤ n ∧ i = .int .i64 m ∧ nn = .int .u64 m ∧ Hid (Q1 w (.slice vo n vc) n m wl)) (fun i _ _ => n - (intOf i).toNat)
      case atStart => exact ⟨0, by omega, rfl, rfl, HQ.out⟩
      case round =>
        clear HQ
        obtain ⟨m, hm, rfl, rfl, HQ⟩ := hrel
        have c0 := HL.out wr (HO.out _ _ HQ.out)
        by_cases hlt : m < n
        · obtain ⟨g, rfl⟩ := HP.out (by omega)
          obtain ⟨c, d1, d2⟩ := HQ.out.look hlt
          go_wp2
          exact ⟨⟨m + 1, by omega, by go_num, by go_num, HQ.out.store hlt⟩, by simp [intOf]; omega⟩
        · obtain rfl : m = n := by omega
          go_wp2
          exact ⟨.inr ⟨rfl, HQ.out⟩, by simp [intOf]⟩
    · obtain ⟨W1, rfl⟩ : ∃ W1, W1 = wr := ⟨_, rfl⟩
      have HST := hide (Q3.start HQ.out)
      have hs1 : w.heap.size ≤ W1.heap.size := HQ.out.2.size
      have HO1 := hide (HO.out _ _ HQ.out)
      clear HQ HO
      go_wp2
      go_loopw [7, 6] (fun i mv wl => (i = .int .i64 0 ∧ mv = .slice none 0 0 ∧ wl = W1) ∨ (i = .int .i64 1 ∧ ∃ mb mc xb xc, mv = .slice (some ⟨mb, 0, none⟩) 1 mc ∧ Hid (Q5 W1 (.slice vo n vc) n mb xb xc wl))) (fun i _ _ => 1 - (intOf i).toNat)
      case atStart => exact .inl ⟨rfl, rfl, rfl⟩
      case round =>
        rcases hrel with ⟨rfl, rfl, rfl⟩ | ⟨rfl, mb, mc, xb, xc, rfl, HQ⟩
        · obtain ⟨W1, rfl⟩ : ∃ W1, W1 = wr := ⟨_, rfl⟩
          have c0 := HL.out _ HO1.out
          go_wp2
          go_loopw [9, 8] (fun i x wl => ∃ m : Nat, m ≤ 64 ∧ i = .int .i64 m ∧ ∃ x3, x3 = x ∧ Hid (Q3 W1 (.slice vo n vc) n m x3 wl)) (fun i _ _ => 64 - (intOf i).toNat)
          case atStart => exact ⟨0, by omega, rfl, _, rfl, HST.out⟩
          case round =>
            obtain ⟨m, hm, rfl, x3, rfl, HX⟩ := hrel
            obtain ⟨zs, z1, z2⟩ := HX.out.own
            by_cases hlm : m < 64
            · clear c0
              have HZ : Hid (∀ o, (wr.alloc o).ownsRow 0 67 3 x3 (n + m) zs) := fun o => row_quiet z1 (World.grownBy_alloc _ _ none)
              have HNX : Hid (∀ x' w' o, w'.ownsRow 0 67 3 x' (n + m + 1) (zs ++ [.int .u64 0, .int .u64 (1000000 + (m : Int)), .slice none 0 0]) → Ext (wr.alloc o) w' x3 x' → (x'.ownBlock = x3.ownBlock ∨ (wr.alloc o).grownBy w' none) → Q3 W1 (.slice vo n vc) n (m + 1) x' w') := fun x' w' o h1 h2 h3 => HX.out.next (fun g e => by have := HLT.out g e; omega) (HZ.out o) z2 h1 h2 h3
              clear z1
              go_wp2_with (first
                | (at_builtin; refine wpList_append_moved _ rfl (.tmp 55) (.tmp 63) 23 rfl 0 67 j0 (.agg #[.int .u64 0, .int .u64 0, .slice none 0 0]) 3 40 Tryz.underlying23 hj hy0 hy1 hy2 rfl (by decide) x3 (n + m) zs rfl (HZ.out _) ⟨wr.heap.size, 0, none⟩ 1 1 [.int .u64 0, .int .u64 (1000000 + (m : Int)), .slice none 0 0] rfl rfl (cell_req_new _ _ _ _ _) (by simp [Value.oneCell']) (by omega) (by unfold maxLen; omega) (by omega) (by omega) ?_; intro x' w2 ho hg hmv; have HO2 := hide (HNX.out _ _ _ ho hg hmv); clear ho hg hmv))
              exact ⟨⟨m + 1, by omega, by go_num, _, rfl, HO2.out⟩, by simp [intOf]; omega⟩
            · obtain rfl : m = 64 := by omega
              obtain ⟨xg, xc, hx3⟩ : ∃ xg xc, x3 = .slice (some ⟨xg, 0, none⟩) (n + 64) xc := by
                rcases z1.2 with ⟨_, h0⟩ | ⟨g, cap, cur, e, _⟩
                · omega
                · exact ⟨g, cap, e⟩
              subst hx3
              have hs3 : W1.heap.size ≤ wr.heap.size := HX.out.ext.1.size
              clear z1 z2 hlm hm
              go_wp2_with (first
                | (at_builtin; refine wpList_append_own _ rfl (.tmp 65) (.tmp 67) 148 rfl W1.heap.size 23 i0 (.slice none 0 0) 1 24 Tryz.underlying148 hi hz0 hz1 hz2 rfl (by decide) (.slice none 0 0) 0 [] rfl (World.ownsRow_nil _ _ _ _) ⟨wr.heap.size, 0, none⟩ 1 1 [.slice (some ⟨xg, 0, none⟩) (n + 64) xc] rfl rfl (cell_one_new _ _ _) (by simp [Value.oneCell']) (by unfold maxLen; omega) (by omega) (by simp; omega) ?_; intro v' w2 ho hg _; obtain ⟨mb, mc, rfl, hq5⟩ := Q5.of HX.out (by simpa using ho) hg; have HQ5 := hide hq5; clear ho hg hq5))
              exact ⟨.inr ⟨rfl, mb, mc, xg, xc, rfl, HQ5.out⟩, by simp [intOf]⟩
        · obtain ⟨W2, rfl⟩ : ∃ W2, W2 = wr := ⟨_, rfl⟩
          have HC : Hid (∀ wl, Q5 W1 (.slice vo n vc) n mb xb xc wl → wl.cell? ⟨lb, 1, none⟩ = some (.slice vo n vc)) := fun wl h => HL.out wl (HO1.out.trans h.out)
          clear HST HL HP HLT
          go_wp2
          go_loopw [10, 3] (fun i nn wl => (i = .int .i64 0 ∧ nn = .int .u64 0 ∧ wl = W2) ∨ (i = .int .i64 1 ∧ Hid (Q5 W1 (.slice vo n vc) n mb xb xc wl))) (fun i _ _ => 1 - (intOf i).toNat)
          case atStart => exact .inl ⟨rfl, rfl, rfl⟩
          case round =>
            rcases hrel with ⟨rfl, rfl, rfl⟩ | ⟨rfl, HQ6⟩
            · obtain ⟨W2, rfl⟩ : ∃ W2, W2 = wr := ⟨_, rfl⟩
              have c0 := HC.out _ HQ.out
              go_wp2
              go_loopw [11, 3] (fun i nn wl => ∃ m : Nat, m ≤ n ∧ i = .int .i64 m ∧ nn = .int .u64 m ∧ wl = W2) (fun i _ _ => n - (intOf i).toNat)
              case atStart => exact ⟨0, by omega, rfl, rfl, rfl⟩
              case round =>
                obtain ⟨m, hm, rfl, rfl, rfl⟩ := hrel
                by_cases hlt : m < n
                · obtain ⟨g, cap, e, d1⟩ := HQ.out.has.look hlt
                  cases e
                  go_wp2
                  exact ⟨⟨m + 1, by omega, by go_num, by simp⟩, by simp [intOf]; omega⟩
                · obtain rfl : m = n := by omega
                  clear hm hlt
                  go_wp2
                  go_loopw [12] (fun i wl => ∃ k : Nat, k ≤ 64 ∧ i = .int .i64 k ∧ Hid (Q5 W1 (.slice vo m vc) m mb xb xc wl)) (fun i _ => 64 - (intOf i).toNat)
                  case atStart => exact ⟨0, by omega, rfl, HQ.out⟩
                  case round =>
                    clear HQ c0
                    obtain ⟨k, hk, rfl, HQ⟩ := hrel
                    have c0 := HC.out _ HQ.out
                    have c1 := HQ.out.more
                    by_cases hlk : k < 64
                    · have c2 := HQ.out.mar k hlk
                      obtain ⟨E, hE⟩ : ∃ E, m + k = E := ⟨_, rfl⟩
                      rw [hE] at c2
                      have hE64 : E < m + 64 := by omega
                      have he : IntKind.i64.wrap ((m : Int) + (k : Int)) = (E : Int) := by rw [← hE]; simp [IntKind.wrap, IntKind.signed, IntKind.bits]; omega
                      have HE := hide hE
                      clear hE
                      go_wp2_with fail
                      go_region_held (fun w' => w'.cell? ⟨lb, 1, none⟩ = some (.slice vo m vc) ∧ w'.cell? ⟨mb, 0, none⟩ = some (.slice (some ⟨xb, 0, none⟩) (m + 64) xc) ∧ w'.cell? ⟨xb, E * 3 + 1, none⟩ = some (.int .u64 (1000000 + (k : Int)))) (go_keep) (fail)
                      clear he
                      go_wp2
                      exact ⟨⟨k + 1, by omega, by go_num, HQ.out.quiet (drew_grown wr 1)⟩, by simp [intOf]; omega⟩
                    · obtain rfl : k = 64 := by omega
                      go_wp2
                      exact ⟨.inr ⟨rfl, HQ.out⟩, by simp [intOf]⟩
            · go_wp2
              go_ret
              exact ⟨rfl, HO1.out.trans HQ6.out.out⟩
end Go.Proofs.YtgaalaoflaklgaaGreat
