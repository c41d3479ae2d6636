import Derived.Test.YtgeacmhofgnkfaaLNobQ
namespace Go.Proofs.Ytgeacmhofgnkfaa
open Go.RowKit Go.Shelf
attribute [local go_sem] Oper.semAt_some

set_option maxRecDepth 100000 in
set_option maxHeartbeats 2000000 in
theorem nobody_nil (w : World) (so : Option Addr) (n cap : Nat) (hops : OpsP w.heap.size w so n) :
    Calls Try.prog 3 #[.bool false, .slice so n cap] w fun e w' => e = .returned (.bool true) ∧ Below w.heap.size w w' := by
  have nA := neq_acc
  have nH := neq_hold
  obtain ⟨hn, b, off, hso, hb, HO⟩ := hops
  have HSO := hide hso
  have HBB := hide hb
  have HO := hide HO
  clear hso hb
  have HNC := hide new_create
  have HI : Hid (∀ W, Below (w.heap.size + 1) (w.alloc (.cells #[.bool false] 4)) W → Inv w none W) := fun W hW =>
    ⟨(hW.cell (p := ⟨w.heap.size, 0, none⟩) (by simp)).trans (World.cell?_alloc_new w _ _ _), (World.frozen?_of_block (hW.block _ (by simp))).trans (World.frozen?_alloc_new w _ _ _), (below_alloc w _).trans (hW.mono (by omega)), .inl rfl⟩
  refine (callsIn_wide (n := 5)).1 ?_
  refine callsIn_of_wp_marks Try.func3 rfl trivial ?_ rfl
  simp only [Try.ntmps3, List.size_toArray, List.length_cons, List.length_nil, Nat.reduceAdd, Nat.reduceSub, Array.replicate_succ, Array.replicate_zero, List.push_toArray, List.append_toArray, List.nil_append, List.cons_append]
  gi_wp2_with fail
  refine ⟨trivial, (callsIn_wide.2 (HNC.out _)).mono ?_⟩
  rintro e w1 ⟨p, rfl, HC⟩
  gi_wp2_with fail
  refine ⟨trivial, (callsIn_wide.2 HC.out).mono ?_⟩
  rintro e w2 ⟨rfl, HB2⟩
  gi_wp2_with fail
  gi_loopw [8] (fun i wr => ∃ k : Nat, k ≤ n ∧ i = .int .i64 k ∧ Hid (Inv w none wr)) (fun i _ => n - (intOf i).toNat)
  case atStart => exact ⟨0, by omega, rfl, HI.out _ (by simpa using HB2.out)⟩
  case round =>
    obtain ⟨k, hk, rfl, HV⟩ := hrel
    by_cases hlt : k < n
    · obtain ⟨o, hcs, hsh⟩ := HO.out k hlt
      have hbl := HV.out.2.2.1
      have hblt : b < w.heap.size := HBB.out (by omega)
      obtain rfl := HSO.out (by omega)
      obtain ⟨K, A, B, C, N, xo, xn, xc⟩ := o
      have hcell : ∀ j v, (#[Value.int .i64 K, .int .u64 A, .int .u64 B, .int .u64 C, .int .i64 N, .slice xo xn xc])[j]? = some v → wr.cell? ⟨b, off + k * 6 + j, none⟩ = some v := fun j v hv => (hbl.cell (p := ⟨b, _, none⟩) hblt).trans (hcs j v hv)
      have c0 := hcell 0 _ rfl
      have c1 := hcell 1 _ rfl
      have c2 := hcell 2 _ rfl
      have c3 := hcell 3 _ rfl
      have c4 := hcell 4 _ rfl
      have c5 := hcell 5 _ rfl
      simp only [Nat.add_zero] at c0
      have HT : Hid (Stp w none wr.heap.size A (wr.alloc (.cells #[.int .i64 K, .int .u64 A, .int .u64 B, .int .u64 C, .int .i64 N, .slice xo xn xc] 46))) :=
        ⟨World.cell?_alloc_new wr _ _ _, by simp, HV.out.alloc _⟩
      have HD : Hid (1 ≤ K → K ≤ 9 → Calls Try.prog 6 #[.pointer none, .agg #[.int .i64 K, .int .u64 A, .int .u64 B, .int .u64 C, .int .i64 N, .slice xo xn xc]] (wr.alloc (.cells #[.int .i64 K, .int .u64 A, .int .u64 B, .int .u64 C, .int .i64 N, .slice xo xn xc] 46)) fun e w' => e = .returned (.int .i64 3) ∧ Hid (Stp w none wr.heap.size A w')) := fun h1 h9 => by
        have hb2 := hbl.trans ((below_alloc wr (.cells #[.int .i64 K, .int .u64 A, .int .u64 B, .int .u64 C, .int .i64 N, .slice xo xn xc] 46)).mono hbl.size)
        refine (does_nob (HV.out.alloc _).2.2.2 ⟨K, A, B, C, N, xo, xn, xc⟩ ((hsh.below hb2).lim hb2.size) h1 h9).mono ?_
        rintro e w' ⟨rfl, hbw⟩
        exact ⟨rfl, HT.out.below hbw⟩
      clear hcell hcs hsh hbl HB2 HC
      by_cases h1 : 1 ≤ K
      · by_cases h9 : K ≤ 9
        · gi_wp2_with fail
          refine ⟨trivial, (callsIn_wide.2 (HD.out h1 h9)).mono ?_⟩
          rintro e w4 ⟨rfl, HT4⟩
          have h4 := HT4.out.1
          have l4 := HT4.out.2.1
          clear HT
          have HT := HT4
          clear HT4
          gi_wp2_with fail
          refine ⟨trivial, (callsIn_wide.2 (mark_stp HT.out)).mono ?_⟩
          rintro e w5 ⟨rfl, HT5⟩
          have h5 := HT5.1
          have l5 := HT5.2.1
          have HT5 := hide HT5
          gi_wp2_with fail
          refine ⟨trivial, (callsIn_wide.2 (acc_stp HT5.out)).mono ?_⟩
          rintro e w6 ⟨rfl, HT6⟩
          have h6 := HT6.1
          have l6 := HT6.2.1
          have HT6 := hide HT6
          gi_wp2_with fail
          refine ⟨trivial, (callsIn_wide.2 (held_stp2 HT6.out)).mono ?_⟩
          rintro e w7 ⟨rfl, l7, ⟨a0, a1, a2, a3⟩, HT7⟩
          have HT7 := hide HT7
          gi_wp2_with fail
          go_roundw
          case rel => exact ⟨k + 1, by omega, by go_num, HT7.out.2.2.out.alloc _⟩
          case measure => simp [intOf]; omega
        · gi_wp2_with fail
          refine ⟨trivial, ?_⟩
          gi_wp2_with fail
          refine ⟨trivial, (callsIn_wide.2 (mark_stp HT.out)).mono ?_⟩
          rintro e w5 ⟨rfl, HT5⟩
          have h5 := HT5.1
          have l5 := HT5.2.1
          have HT5 := hide HT5
          gi_wp2_with fail
          refine ⟨trivial, (callsIn_wide.2 (acc_stp HT5.out)).mono ?_⟩
          rintro e w6 ⟨rfl, HT6⟩
          have h6 := HT6.1
          have l6 := HT6.2.1
          have HT6 := hide HT6
          gi_wp2_with fail
          refine ⟨trivial, (callsIn_wide.2 (held_stp2 HT6.out)).mono ?_⟩
          rintro e w7 ⟨rfl, l7, ⟨a0, a1, a2, a3⟩, HT7⟩
          have HT7 := hide HT7
          gi_wp2_with fail
          go_roundw
          case rel => exact ⟨k + 1, by omega, by go_num, HT7.out.2.2.out.alloc _⟩
          case measure => simp [intOf]; omega
      · gi_wp2_with fail
        refine ⟨trivial, ?_⟩
        gi_wp2_with fail
        refine ⟨trivial, (callsIn_wide.2 (mark_stp HT.out)).mono ?_⟩
        rintro e w5 ⟨rfl, HT5⟩
        have h5 := HT5.1
        have l5 := HT5.2.1
        have HT5 := hide HT5
        gi_wp2_with fail
        refine ⟨trivial, (callsIn_wide.2 (acc_stp HT5.out)).mono ?_⟩
        rintro e w6 ⟨rfl, HT6⟩
        have h6 := HT6.1
        have l6 := HT6.2.1
        have HT6 := hide HT6
        gi_wp2_with fail
        refine ⟨trivial, (callsIn_wide.2 (held_stp2 HT6.out)).mono ?_⟩
        rintro e w7 ⟨rfl, l7, ⟨a0, a1, a2, a3⟩, HT7⟩
        have HT7 := hide HT7
        gi_wp2_with fail
        go_roundw
        case rel => exact ⟨k + 1, by omega, by go_num, HT7.out.2.2.out.alloc _⟩
        case measure => simp [intOf]; omega
    · obtain rfl : k = n := by omega
      clear HB2 HC
      gi_wp2_with fail
      refine ⟨trivial, (callsIn_wide.2 (accounts_any _ _)).mono ?_⟩
      rintro e w8 ⟨rfl, hw8⟩
      have hc8 : w8.cell? ⟨wr.heap.size, 0, none⟩ = some (.pointer none) := by rw [hw8]; exact World.cell?_alloc_new wr _ _ _
      have HV8 : Hid (Inv w none w8) := by rw [hw8]; exact HV.out.alloc _
      clear hw8
      gi_wp2_with fail
      refine wpIn_rangeFunc_ownF rfl (by omega) (gf := 32) (lb := #[.pointer (some ⟨wr.heap.size, 0, none⟩)]) rfl trivial (enters_of Try.func32 (by kernel_rfl) rfl)
        (iter_stops _ HV8.out.2.2.2 wr.heap.size hc8) belowK_t (belowK_b (Nat.le_refl _)) (Below.refl _ _) (fun x => x.elim)
        (fun _ W => Inv w none W) (fun _ _ _ => False) (own_inv w none _ HV8.out.2.2.1.size) (fun _ _ _ _ _ hs _ _ => hs) HV8.out (fun x => x.elim) ?assign ?body ?done ?stop
      case assign => intro l x; exact x.elim
      case body => intro l pre x; exact x.elim
      case stop =>
        rintro D c pre W _ _ h _
        exact h.elim
      case done =>
        rintro D ys W hD rfl hI hK
        have HF : Hid (Fin w none D W) := ⟨hI, hK⟩
        have hwD : w.heap.size ≤ D := Nat.le_trans HV8.out.2.2.1.size hD
        clear hK hI
        gi_wp2_with fail
        refine ⟨trivial, (callsIn_wide.2 (image_fin HF.out)).mono ?_⟩
        rintro e w9 ⟨rfl, HF9⟩
        gi_wp2_with fail
        refine ⟨trivial, (callsIn_wide.2 (total_fin HF9.out _)).mono ?_⟩
        rintro e w10 ⟨rfl, rfl⟩
        gi_wp2_with fail
        refine ⟨trivial, (callsIn_wide.2 (same_fin HF9.out)).mono ?_⟩
        rintro e w11 ⟨rfl, ⟨m0, m1, m2, m3, m4⟩, HF11⟩
        gi_wp2_with fail
        refine ⟨trivial, (callsIn_wide.2 (bare_fin HF11.out)).mono ?_⟩
        rintro e w12 ⟨rfl, HF12⟩
        have r0 := HF12.out.1.1
        have r1 := HF12.out.1.2.1
        gi_wp2
        have hK' := (KeepsOthers.setCell w12 ⟨w.heap.size, 0, none⟩ (.bool true)).same D _ HF12.out.2 rfl
        refine ⟨by simp, .inl ⟨_, _, rfl, run_takeDeferred hK', ?_⟩⟩
        have hc5 := cell_kept (World.cell?_setCell_same' w12 ⟨w.heap.size, 0, none⟩ (.bool true) (by rw [r0]; rfl)) (grownBy_putObj' _ D (.deferred none)) (fun r e => by cases e; exact ⟨_, hK', rfl⟩)
        refine ⟨.bool true, ?_, rfl, (HF12.out.1.2.2.1.setCell (p := ⟨w.heap.size, 0, none⟩) (Nat.le_refl _) _).trans (belowK_b (w := w) (Nat.le_refl _) _ D _ _ hwD hK' rfl rfl)⟩
        simp [results, Try.results3, go_sem, hc5]
end Go.Proofs.Ytgeacmhofgnkfaa
