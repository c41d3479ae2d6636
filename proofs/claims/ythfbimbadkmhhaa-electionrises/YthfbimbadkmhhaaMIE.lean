import Derived.Test.YthfbimbadkmhhaaMGN
namespace Go.Proofs.Ythfbimbadkmhhaa
open Go.RowKit Crc

set_option maxRecDepth 10000 in
set_option maxHeartbeats 1600000 in
theorem quorum_none {W : World} {eb g : Nat} {c : Cf} {me : Nat} {fp : Nat → Prop} {x : Ex} (h : EL W eb g c me fp x) (hok : c.Ok) (now : Nat) (hc : ¬ ((countB x.sus : Nat) : Int) < c.f + 1) (hnx : c.next x.num x.node true = (0, 0, [⟨ballotN, 0⟩], 183)) :
    Calls Try.prog 22 #[.pointer (some ⟨eb, 0, none⟩), .int .u64 (now : Nat)] W fun e W' => e = .returned (.bool false) ∧ Hid (Did W eb g c me fp x.abs W') := by
  have KM : Hid (∀ V, Hid (Below W.heap.size W V) → Calls Try.prog 13 #[.pointer (some ⟨eb, 0, none⟩)] V fun e w' => e = .returned (.bool true) ∧ w' = V) := fun V hb => madeE (h.kept hb.out)
  have KS : Hid (∀ V, Hid (Below W.heap.size W V) → Calls Try.prog 40 #[.pointer (some ⟨eb, 0, none⟩)] V fun e w' => e = .returned (.int .i64 ((countB x.sus : Nat) : Int)) ∧ Below V.heap.size V w') := fun V hb => suspectersE (h.kept hb.out)
  have KQ : Hid (∀ V, Hid (Below W.heap.size W V) → Calls Try.prog 41 #[.pointer (some ⟨g, 0, none⟩)] V fun e w' => e = .returned (.int .i64 (c.f + 1)) ∧ w' = V) := fun V hb => quorum_live (h.kept hb.out).pg hok
  have KP : Hid (∀ V, Hid (Below W.heap.size W V) → V.cell? ⟨eb, 0, none⟩ = some (.pointer (some ⟨g, 0, none⟩)) ∧ V.cell? ⟨eb, 2, none⟩ = some (.int .u64 (x.num : Nat)) ∧ V.cell? ⟨eb, 3, none⟩ = some (.int .i64 x.node)) := fun V hb => ⟨(h.kept hb.out).c 0, (h.kept hb.out).c 2, (h.kept hb.out).c 3⟩
  have KL : Hid (∀ V, Hid (Below W.heap.size W V) → eb < V.heap.size) := fun V hb => (h.kept hb.out).lt
  have KB : Hid (∀ V V', Hid (Below W.heap.size W V) → Below V.heap.size V V' → Hid (Below W.heap.size W V')) := fun V V' h h' => h.out.trans (h'.mono h.out.size)
  have HD1 : Hid (Below W.heap.size W W.drew) := (Below.refl _ W).drew
  have KN : Hid (∀ V, Hid (Below W.heap.size W V) → Calls Try.prog 42 #[.pointer (some ⟨g, 0, none⟩), .agg #[.int .u64 (x.num : Nat), .int .i64 x.node]] V fun e w' => ∃ gg, e = .returned (.tuple #[.agg #[.int .u64 0, .int .i64 0], .iface 102 (.pointer (some ⟨gg, 0, none⟩))]) ∧ Hid (Below V.heap.size V w' ∧ Below W.heap.size W w')) := fun V hb => by
    have hN := next_yes x.num x.node (h.kept hb.out).pg hok h.va
    rw [hnx] at hN
    refine hN.mono ?_
    rintro e w' ⟨ev, rfl, G⟩
    rcases G.out.1 with ⟨_, h0, _⟩ | ⟨hch, _⟩
    · simp at h0
    · obtain ⟨gg, u, rfl, _⟩ := hch
      exact ⟨gg, rfl, G.out.2, hb.out.trans (G.out.2.mono hb.out.size)⟩
  have FIN : Hid (∀ V, Hid (Below W.heap.size W V) → Did W eb g c me fp x.abs V) := fun V hb => Did.below h hb.out
  have KA : Hid (∀ V o, Hid (Below W.heap.size W V) → Hid (Below W.heap.size W (V.alloc o))) := fun V o hb => hb.out.alloc hb.out.size o
  have KT : Hid (∀ V b j u, Hid (Below W.heap.size W V) → W.heap.size ≤ b → Hid (Below W.heap.size W (V.setCell ⟨b, j, none⟩ u))) := fun V b j u hb hw => hb.out.setCell (p := ⟨b, j, none⟩) hw u
  have KZ : Hid (∀ V, Hid (Below W.heap.size W V) → W.heap.size ≤ V.heap.size) := fun V hb => hb.out.size
  have KR : Hid (∀ V, Hid (Below W.heap.size W V) → Hid (Below W.heap.size W V.drew)) := fun V hb => hb.out.drew
  have hz : decide (((countB x.sus : Nat) : Int) < c.f + 1) = false := decide_eq_false hc
  clear h hok hc hnx
  generalize ((countB x.sus : Nat) : Int) = cn at *
  generalize c.f + 1 = fi at *
  generalize (x.num : Int) = nu at *
  generalize x.node = no at *
  go_enter Try.func22, Try.ntmps22
  go_upto_region 1 with fail
  refine region_assign (fun V => Hid (Below W.heap.size W V)) [(7, .pointer (some ⟨eb, 0, none⟩)), (8, .bool true), (9, .bool false), (10, .bool false), (11, .pointer (some ⟨eb, 0, none⟩)), (12, .int .i64 cn), (13, .pointer (some ⟨eb, 0, none⟩)), (14, .pointer (some ⟨eb, 0, none⟩)), (15, .pointer (some ⟨eb, 0, none⟩)), (16, .pointer (some ⟨g, 0, none⟩)), (17, .int .i64 fi), (18, .bool false), (19, .bool false)] _ (by kernel_rfl) (by kernel_rfl) (by kernel_rfl) (by kernel_rfl) rfl HD1 ?_ (fun V1 HV1 => ?_)
  · simp only [putAll, Act.put, List.setIfInBounds_toArray, List.set_cons_zero, List.set_cons_succ]
    repeat' (first | exact AllTo.nil | refine AllTo.cons ?_ ?_)
    all_goals first
      | exact stepTo_no (by rfl) rfl
      | (refine stepTo_yes (by rfl) (fun V hV K hK => ?_)
         have q0 := (KP.out V hV).1
         have q3 := KL.out V hV
         go_simp
         first
           | exact hK.out _ hV
           | (go_at_call 13; refine (KM.out V hV).mono ?_; rintro e V' ⟨rfl, rfl⟩; exact hK.out _ hV)
           | (go_at_call 40; refine (KS.out V hV).mono ?_; rintro e V' ⟨rfl, hV'⟩; exact hK.out _ (KB.out _ _ hV hV'))
           | (go_at_call 41; refine (KQ.out V hV).mono ?_; rintro e V' ⟨rfl, rfl⟩; exact hK.out _ hV))
  simp only [putAll, Act.put, List.setIfInBounds_toArray, List.set_cons_zero, List.set_cons_succ]
  obtain ⟨p0, p2, p3⟩ := KP.out V1 HV1
  have pl := KL.out V1 HV1
  have n0 := World.new_ne V1 ⟨eb, 0, none⟩ p0
  have n2 := World.new_ne V1 ⟨eb, 2, none⟩ p2
  have n3 := World.new_ne V1 ⟨eb, 3, none⟩ p3
  have KX : Hid (∀ w', Below (V1.drew.alloc (.cells #[.int .u64 0, .int .i64 0] 33)).heap.size (V1.drew.alloc (.cells #[.int .u64 0, .int .i64 0] 33)) w' → w'.cell? ⟨V1.heap.size, 0, none⟩ = some (.int .u64 0) ∧ w'.cell? ⟨V1.heap.size, 1, none⟩ = some (.int .i64 0) ∧ w'.frozen? ⟨V1.heap.size, 0, none⟩ = false ∧ w'.frozen? ⟨V1.heap.size, 1, none⟩ = false ∧ V1.heap.size < w'.heap.size) := fun w' hb => by
    have hx := (hb.block _ (by simp)).trans (alloc_atK V1.drew (.cells #[.int .u64 0, .int .i64 0] 33))
    rw [show V1.drew.heap.size = V1.heap.size from rfl] at hx
    exact ⟨block_cell hx 0, block_cell hx 1, block_free hx 0, block_free hx 1, block_lt hx⟩
  have hvs := KZ.out V1 HV1
  go_upto_region 3 with fail
  go_region_with (first
    | (go_at_call 42; refine (KN.out _ (KA.out _ _ (KR.out _ HV1))).mono ?_; rintro e w3 ⟨gg, rfl, G⟩; obtain ⟨y0, y1, yf0, yf1, yl⟩ := KX.out _ G.out.1; have G2 := hide G.out.2; have hws := KZ.out w3 G2)
    | (go_at_call 42; refine (KN.out _ (KR.out _ HV1)).mono ?_; rintro e w3 ⟨gg, rfl, G⟩; have G2 := hide G.out.2; have hws := KZ.out w3 G2))
  all_goals clear KM KS KQ KN KP KL KB KX
  all_goals go_wp2
  all_goals go_ret
  all_goals exact ⟨rfl, FIN.out _ (by first | exact KA.out _ _ G2 | exact G2 | exact KT.out _ _ _ _ (KT.out _ _ _ _ G2 hvs) hvs | exact KT.out _ _ _ _ (KT.out _ _ _ _ (KA.out _ _ G2) hws) hws)⟩
/-- Quorum, whatever there is. -/
theorem quorumA {W : World} {eb g : Nat} {c : Cf} {me : Nat} {fp : Nat → Prop} {x : Ex} (h : EL W eb g c me fp x) (hok : c.Ok) (hem : c.em ≤ 100000) (now : Nat) (hnow : now < 18446744073709551616) :
    Calls Try.prog 22 #[.pointer (some ⟨eb, 0, none⟩), .int .u64 (now : Nat)] W fun e W' => e = .returned (.bool (Ev.quorum c x.abs now).2) ∧ Hid (Did W eb g c me fp (Ev.quorum c x.abs now).1 W') := by
  by_cases hnt : x.num = c.mn ∧ x.node = 2 * c.f
  · by_cases hc : ((countB x.sus : Nat) : Int) < c.f + 1
    · have e : Ev.quorum c x.abs now = (x.abs, false) := by unfold Ev.quorum; exact if_pos hc
      rw [e]
      exact quorum_few h hok now hc
    · have e : Ev.quorum c x.abs now = (x.abs, false) := by unfold Ev.quorum; rw [if_neg (by exact hc), if_pos (by exact hnt)]
      rw [e]
      refine quorum_none h hok now hc ?_
      have := h.n1
      unfold Cf.next
      rw [if_neg (by simp), if_neg (by omega), if_pos ⟨by omega, hnt.2⟩]
  · exact quorumE h hok hem now hnow hnt
end Go.Proofs.Ythfbimbadkmhhaa
