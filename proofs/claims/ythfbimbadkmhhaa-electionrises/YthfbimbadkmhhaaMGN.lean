import Derived.Test.YthfbimbadkmhhaaMGI
import Derived.Test.YthfbimbadkmhhaaMGJ
import Derived.Test.YthfbimbadkmhhaaMGF
import Derived.Test.YthfbimbadkmhhaaMGG
namespace Go.Proofs.Ythfbimbadkmhhaa
open Go.RowKit Crc Go.Shelf
attribute [local go_sem] Oper.semAt_some

set_option maxRecDepth 10000 in
set_option maxHeartbeats 800000 in
theorem viewE {W : World} {eb g : Nat} {c : Cf} {me : Nat} {fp : Nat → Prop} {x : Ex} (h : EL W eb g c me fp x) : Calls Try.prog 6 #[.pointer (some ⟨eb, 0, none⟩)] W fun e w' => e = .returned (.agg #[.int .u64 (x.num : Nat), .int .i64 x.node]) ∧ Hid (Below W.heap.size W w') := by
  obtain ⟨W0, hW0⟩ : ∃ W0, W.alloc (.cells #[.int .u64 0, .int .i64 0] 33) = W0 := ⟨_, rfl⟩
  have B0 : Hid (Below W.heap.size W W0) := by rw [← hW0]; exact (Below.refl _ W).alloc (Nat.le_refl _) _
  have C0 : W0.heap[W.heap.size]? = some (.cells #[.int .u64 0, .int .i64 0] 33 (0, 0)) := by rw [← hW0]; exact alloc_atK _ _
  have h0 := h.kept B0.out
  have z0 : W0.cell? ⟨W.heap.size, 0, none⟩ = some (.int .u64 0) := block_cell C0 0
  have z1 : W0.cell? ⟨W.heap.size, 1, none⟩ = some (.int .i64 0) := block_cell C0 1
  have g0 := block_free C0 0
  have g1 := block_free C0 1
  have zl := block_lt C0
  have HM := hide (madeE h0)
  have q2 : W0.cell? ⟨eb, 2, none⟩ = some (.int .u64 (x.num : Nat)) := h0.c 2
  have q3 : W0.cell? ⟨eb, 3, none⟩ = some (.int .i64 x.node) := h0.c 3
  have ql : eb < W0.heap.size := h0.lt
  have FIN : Hid (∀ u v, Below W.heap.size W ((W0.setCell ⟨W.heap.size, 0, none⟩ u).setCell ⟨W.heap.size, 1, none⟩ v)) := fun u v => (B0.out.setCell (p := ⟨W.heap.size, 0, none⟩) (by simp) _).setCell (p := ⟨W.heap.size, 1, none⟩) (by simp) _
  have HW0 := hide hW0
  clear h h0 hW0 C0 B0
  generalize (x.num : Int) = n at *
  generalize x.node = m at *
  go_enter Try.func6, Try.ntmps6
  go_upto_region 1 with fail
  rw [HW0.out]
  go_wp2_with (go_at_call 13; refine HM.out.mono ?_; rintro e w1 ⟨rfl, rfl⟩)
  refine bodyPost_ret (v := .agg #[.int .u64 n, .int .i64 m]) (by simp [results, Try.results6, go_sem, z0, z1]) rfl ⟨rfl, FIN.out _ _⟩

set_option maxRecDepth 100000 in
set_option maxHeartbeats 2000000 in
theorem suspectersE {w : World} {eb g : Nat} {c : Cf} {me : Nat} {fp : Nat → Prop} {x : Ex} (h : EL w eb g c me fp x) :
    Calls Try.prog 40 #[.pointer (some ⟨eb, 0, none⟩)] w fun e W' => e = .returned (.int .i64 ((countB x.sus : Nat) : Int)) ∧ Below w.heap.size w W' := by
  refine (callsIn_wide (n := 3)).1 ?_
  have hs := h.su
  have HQ : Hid (w.cell? ⟨eb, 4, none⟩ = some (.int .u32 (x.sus : Nat))) := h.c 4
  have ql : eb < w.heap.size := h.lt
  have qn : ¬ eb = w.heap.size := by omega
  clear h
  generalize x.sus = s at *
  have hlen := memU_len s 32
  have q4 := cell_alloc_l' (.cells #[.int .i64 0] 3) HQ.out
  refine callsIn_of_wp_marks Try.func40 rfl trivial ?_ rfl
  simp only [Try.ntmps40, List.size_toArray, List.length_cons, List.length_nil, Nat.reduceAdd, Nat.reduceSub, Array.replicate_succ, Array.replicate_zero, List.push_toArray, List.append_toArray, List.nil_append, List.cons_append]
  gi_wp2_with (refine ⟨trivial, ?_⟩; gi_at_call 53; refine (callsIn_wide.2 (members_any _ _)).mono ?_; rintro e w' ⟨rfl, rfl⟩)
  have hs' := box_new w (.int .i64 0) 3
  have hb := box_new (w.alloc (.cells #[.int .i64 0] 3)) (.int .u32 (s : Nat)) 53
  rw [World.size_alloc] at hb
  have hB0 : Below w.heap.size w ((w.alloc (.cells #[.int .i64 0] 3)).alloc (.cells #[.int .u32 (s : Nat)] 53)) := ((Below.refl _ w).alloc (Nat.le_refl _) _).alloc (by simp) _
  refine wpIn_rangeFunc_ownF rfl (by omega) (gf := 57) (lb := #[.pointer (some ⟨w.heap.size + 1, 0, none⟩)]) rfl trivial (enters_of Try.func57 (by kernel_rfl) rfl)
    (members_stops (3 - 1) (by omega) (w.heap.size + 1) s hs _ (by simp) hb.1) kpB_t kpB_b (Below.refl _ _) (fun _ => rfl)
    (fun pre W => (W.cell? ⟨w.heap.size, 0, none⟩ = some (.int .i64 ((pre.length : Nat) : Int)) ∧ W.frozen? ⟨w.heap.size, 0, none⟩ = false) ∧ Below w.heap.size w W)
    (fun _ _ _ => False)
    (OwnFrom.and (Own.from (fun s A B row hs hg hr => ⟨cell_kept hs.1 hg hr, (frozen_kept hs.1 hg hr).trans hs.2⟩) _) (ownFrom_below (Nat.le_refl _) (by simp; omega)))
    (fun _ _ _ _ _ hs _ _ => hs)
    ⟨⟨cell_alloc_l' _ hs'.1, frozen_alloc_l' _ hs'.1 hs'.2⟩, hB0⟩
    (fun y => { tmps := #[.pointer (some ⟨eb, 0, none⟩), undef, .int .i64 0, .pointer (some ⟨w.heap.size, 0, none⟩), .pointer (some ⟨eb, 0, none⟩), .pointer (some ⟨eb, 0, none⟩), .pointer (some ⟨eb, 4, none⟩), .int .u32 (s : Nat), .func (.func 57) #[] #[.pointer (some ⟨w.heap.size + 1, 0, none⟩)], .int .i64 y, undef, undef, undef], defers := [] }) ?assign ?body ?done ?stop
  case assign =>
    intro l x W K hK
    gi_wp2
    simpa using hK
  case body =>
    rintro l pre x W ⟨⟨hc, hf⟩, hB⟩ hpl
    have hpl2 : pre.length < 32 := Nat.lt_of_lt_of_le hpl hlen
    gi_wp2
    refine ⟨KeepsOthers.setCell _ _ _, fun v hv => ?_, ⟨?_, ?_⟩, hB.setCell (p := ⟨w.heap.size, 0, none⟩) (Nat.le_refl _) _⟩
    · rw [World.cell?_setCell_far _ ⟨w.heap.size, 0, none⟩ ⟨w.heap.size + 1, 0, none⟩ _ (by simp)]; exact hv
    · rw [List.length_append]; exact World.cell?_setCell_same' _ _ _ (by rw [hc]; rfl)
    · rw [World.frozen?_setCell]; exact hf
  case done =>
    rintro D ys W hD rfl ⟨⟨hc, _⟩, hB⟩ hK
    gi_wp2
    refine ⟨by simp, .inl ⟨_, _, rfl, run_takeDeferred hK, ?_⟩⟩
    exact ⟨_, results_tmp rfl _ _ _, rfl, hB.trans (belowK_b (w := w) (Nat.le_refl _) W D _ _ (by simp at hD; omega) hK rfl rfl)⟩
  case stop =>
    rintro D c pre W _ _ h _
    exact h.elim

theorem mem_has (s me : Nat) (hm : me < 32) : (me : Int) ∈ memU s 32 ↔ s.testBit me = true := by
  rw [memU_mem]
  constructor
  · rintro ⟨i, _, e, h⟩
    have : i = me := by omega
    subst this
    exact h
  · exact fun h => ⟨me, hm, rfl, h⟩
end Go.Proofs.Ythfbimbadkmhhaa
namespace Go.Proofs.Ythfbimbadkmhhaa
open Go.RowKit Crc

theorem Did.below {W W' : World} {eb g : Nat} {c : Cf} {me : Nat} {fp : Nat → Prop} {x : Ex} (h : EL W eb g c me fp x) (hb : Below W.heap.size W W') : Did W eb g c me fp x.abs W' := ⟨fp, x, h.kept hb, rfl, Fe.below hb _, fun _ hb => .inl hb⟩
def Ev.quorum (c : Cf) (s : Ev) (now : Nat) : Ev × Bool :=
  if ((countB s.sus : Nat) : Int) < c.f + 1 then (s, false) else if s.num = c.mn ∧ s.node = 2 * c.f then (s, false) else if s.node < 2 * c.f then (Ev.enter c s s.num (s.node + 1) now, true) else (Ev.enter c s (s.num + 1) 0 now, true)

set_option maxRecDepth 10000 in
set_option maxHeartbeats 1600000 in
theorem quorum_few {W : World} {eb g : Nat} {c : Cf} {me : Nat} {fp : Nat → Prop} {x : Ex} (h : EL W eb g c me fp x) (hok : c.Ok) (now : Nat) (hc : ((countB x.sus : Nat) : Int) < c.f + 1) :
    Calls Try.prog 22 #[.pointer (some ⟨eb, 0, none⟩), .int .u64 (now : Nat)] W fun e W' => e = .returned (.bool false) ∧ Hid (Did W eb g c me fp x.abs W') := by
  have KM : Hid (∀ V, Hid (Below W.heap.size W V) → Calls Try.prog 13 #[.pointer (some ⟨eb, 0, none⟩)] V fun e w' => e = .returned (.bool true) ∧ w' = V) := fun V hb => madeE (h.kept hb.out)
  have KS : Hid (∀ V, Hid (Below W.heap.size W V) → Calls Try.prog 40 #[.pointer (some ⟨eb, 0, none⟩)] V fun e w' => e = .returned (.int .i64 ((countB x.sus : Nat) : Int)) ∧ Below V.heap.size V w') := fun V hb => suspectersE (h.kept hb.out)
  have KQ : Hid (∀ V, Hid (Below W.heap.size W V) → Calls Try.prog 41 #[.pointer (some ⟨g, 0, none⟩)] V fun e w' => e = .returned (.int .i64 (c.f + 1)) ∧ w' = V) := fun V hb => quorum_live (h.kept hb.out).pg hok
  have KP : Hid (∀ V, Hid (Below W.heap.size W V) → V.cell? ⟨eb, 0, none⟩ = some (.pointer (some ⟨g, 0, none⟩))) := fun V hb => (h.kept hb.out).c 0
  have KL : Hid (∀ V, Hid (Below W.heap.size W V) → eb < V.heap.size) := fun V hb => (h.kept hb.out).lt
  have KB : Hid (∀ V V', Hid (Below W.heap.size W V) → Below V.heap.size V V' → Hid (Below W.heap.size W V')) := fun V V' h h' => h.out.trans (h'.mono h.out.size)
  have HD1 : Hid (Below W.heap.size W W.drew) := (Below.refl _ W).drew
  have FIN : Hid (∀ V, Hid (Below W.heap.size W V) → Did W eb g c me fp x.abs V) := fun V hb => Did.below h hb.out
  have hz : decide (((countB x.sus : Nat) : Int) < c.f + 1) = true := decide_eq_true hc
  clear h hok hc
  generalize ((countB x.sus : Nat) : Int) = cn at *
  generalize c.f + 1 = fi at *
  go_enter Try.func22, Try.ntmps22
  go_upto_region 1 with fail
  refine region_assign (fun V => Hid (Below W.heap.size W V)) [(7, .pointer (some ⟨eb, 0, none⟩)), (8, .bool true), (9, .bool false), (10, .bool false), (11, .pointer (some ⟨eb, 0, none⟩)), (12, .int .i64 cn), (13, .pointer (some ⟨eb, 0, none⟩)), (14, .pointer (some ⟨eb, 0, none⟩)), (15, .pointer (some ⟨eb, 0, none⟩)), (16, .pointer (some ⟨g, 0, none⟩)), (17, .int .i64 fi), (18, .bool true), (19, .bool true)] _ (by kernel_rfl) (by kernel_rfl) (by kernel_rfl) (by kernel_rfl) rfl HD1 ?_ (fun V1 HV1 => ?_)
  · simp only [putAll, Act.put, List.setIfInBounds_toArray, List.set_cons_zero, List.set_cons_succ]
    repeat' (first | exact AllTo.nil | refine AllTo.cons ?_ ?_)
    all_goals first
      | exact stepTo_no (by rfl) rfl
      | (refine stepTo_yes (by rfl) (fun V hV K hK => ?_)
         have q0 := KP.out V hV
         have q3 := KL.out V hV
         go_simp
         first
           | exact hK.out _ hV
           | (go_at_call 13; refine (KM.out V hV).mono ?_; rintro e V' ⟨rfl, rfl⟩; exact hK.out _ hV)
           | (go_at_call 40; refine (KS.out V hV).mono ?_; rintro e V' ⟨rfl, hV'⟩; exact hK.out _ (KB.out _ _ hV hV'))
           | (go_at_call 41; refine (KQ.out V hV).mono ?_; rintro e V' ⟨rfl, rfl⟩; exact hK.out _ hV))
  simp only [putAll, Act.put, List.setIfInBounds_toArray, List.set_cons_zero, List.set_cons_succ]
  go_wp2
  go_ret
  exact ⟨rfl, FIN.out _ HV1⟩

set_option maxRecDepth 10000 in
set_option maxHeartbeats 1600000 in
theorem quorum_yes {W : World} {eb g : Nat} {c : Cf} {me : Nat} {fp : Nat → Prop} {x : Ex} (h : EL W eb g c me fp x) (hok : c.Ok) (hem : c.em ≤ 100000) (now : Nat) (hnow : now < 18446744073709551616) (hc : ¬ ((countB x.sus : Nat) : Int) < c.f + 1) (n : Nat) (m : Int) (hnx : c.next x.num x.node true = ((n : Int), m, [], 0)) (n1 : 1 ≤ n) (va : c.valid n m = true) :
    Calls Try.prog 22 #[.pointer (some ⟨eb, 0, none⟩), .int .u64 (now : Nat)] W fun e W' => e = .returned (.bool true) ∧ Hid (Did W eb g c me fp (Ev.enter c x.abs n m now) W') := by
  have KM : Hid (∀ V, Hid (Below W.heap.size W V) → Calls Try.prog 13 #[.pointer (some ⟨eb, 0, none⟩)] V fun e w' => e = .returned (.bool true) ∧ w' = V) := fun V hb => madeE (h.kept hb.out)
  have KS : Hid (∀ V, Hid (Below W.heap.size W V) → Calls Try.prog 40 #[.pointer (some ⟨eb, 0, none⟩)] V fun e w' => e = .returned (.int .i64 ((countB x.sus : Nat) : Int)) ∧ Below V.heap.size V w') := fun V hb => suspectersE (h.kept hb.out)
  have KQ : Hid (∀ V, Hid (Below W.heap.size W V) → Calls Try.prog 41 #[.pointer (some ⟨g, 0, none⟩)] V fun e w' => e = .returned (.int .i64 (c.f + 1)) ∧ w' = V) := fun V hb => quorum_live (h.kept hb.out).pg hok
  have KP : Hid (∀ V, Hid (Below W.heap.size W V) → V.cell? ⟨eb, 0, none⟩ = some (.pointer (some ⟨g, 0, none⟩)) ∧ V.cell? ⟨eb, 2, none⟩ = some (.int .u64 (x.num : Nat)) ∧ V.cell? ⟨eb, 3, none⟩ = some (.int .i64 x.node)) := fun V hb => ⟨(h.kept hb.out).c 0, (h.kept hb.out).c 2, (h.kept hb.out).c 3⟩
  have KL : Hid (∀ V, Hid (Below W.heap.size W V) → eb < V.heap.size) := fun V hb => (h.kept hb.out).lt
  have KB : Hid (∀ V V', Hid (Below W.heap.size W V) → Below V.heap.size V V' → Hid (Below W.heap.size W V')) := fun V V' h h' => h.out.trans (h'.mono h.out.size)
  have HD1 : Hid (Below W.heap.size W W.drew) := (Below.refl _ W).drew
  have KN : Hid (∀ V, Hid (Below W.heap.size W V) → Calls Try.prog 42 #[.pointer (some ⟨g, 0, none⟩), .agg #[.int .u64 (x.num : Nat), .int .i64 x.node]] V fun e w' => e = .returned (.tuple #[.agg #[.int .u64 (n : Nat), .int .i64 m], .nilIface]) ∧ Hid (Below V.heap.size V w' ∧ Below W.heap.size W w')) := fun V hb => by
    have hN := next_yes x.num x.node (h.kept hb.out).pg hok h.va
    rw [hnx] at hN
    refine hN.mono ?_
    rintro e w' ⟨ev, rfl, G⟩
    rcases G.out.1 with ⟨rfl, _⟩ | ⟨_, h0, _⟩
    · exact ⟨rfl, G.out.2, hb.out.trans (G.out.2.mono hb.out.size)⟩
    · simp at h0
  have KE : Hid (∀ V, Hid (Below W.heap.size W V) → Calls Try.prog 37 #[.pointer (some ⟨eb, 0, none⟩), .agg #[.int .u64 (n : Nat), .int .i64 m], .int .u64 (now : Nat)] V fun e W' => e = .returned (.tuple #[]) ∧ Hid (Did W eb g c me fp (Ev.enter c x.abs n m now) W')) := fun V hb => by
    refine (enterE (h.kept hb.out) hok hem n m n1 va now hnow).mono ?_
    rintro e w' ⟨rfl, d⟩
    exact ⟨rfl, Did.of (Fe.below hb.out _) d.out⟩
  have KA : Hid (∀ V o, Hid (Below W.heap.size W V) → Hid (Below W.heap.size W (V.alloc o))) := fun V o hb => hb.out.alloc hb.out.size o
  have KT : Hid (∀ V b j u, Hid (Below W.heap.size W V) → W.heap.size ≤ b → Hid (Below W.heap.size W (V.setCell ⟨b, j, none⟩ u))) := fun V b j u hb hw => hb.out.setCell (p := ⟨b, j, none⟩) hw u
  have KZ : Hid (∀ V, Hid (Below W.heap.size W V) → W.heap.size ≤ V.heap.size) := fun V hb => hb.out.size
  have KR : Hid (∀ V, Hid (Below W.heap.size W V) → Hid (Below W.heap.size W V.drew)) := fun V hb => hb.out.drew
  have hz : decide (((countB x.sus : Nat) : Int) < c.f + 1) = false := decide_eq_false hc
  clear h hok hc hnx n1 va hem hnow
  generalize ((countB x.sus : Nat) : Int) = cn at *
  generalize c.f + 1 = fi at *
  generalize (x.num : Int) = nu at *
  generalize x.node = no at *
  generalize (n : Int) = ni at *
  go_enter Try.func22, Try.ntmps22
  go_upto_region 1 with fail
  refine region_assign (fun V => Hid (Below W.heap.size W V)) [(7, .pointer (some ⟨eb, 0, none⟩)), (8, .bool true), (9, .bool false), (10, .bool false), (11, .pointer (some ⟨eb, 0, none⟩)), (12, .int .i64 cn), (13, .pointer (some ⟨eb, 0, none⟩)), (14, .pointer (some ⟨eb, 0, none⟩)), (15, .pointer (some ⟨eb, 0, none⟩)), (16, .pointer (some ⟨g, 0, none⟩)), (17, .int .i64 fi), (18, .bool false), (19, .bool false)] _ (by kernel_rfl) (by kernel_rfl) (by kernel_rfl) (by kernel_rfl) rfl HD1 ?_ (fun V1 HV1 => ?_)
  · simp only [putAll, Act.put, List.setIfInBounds_toArray, List.set_cons_zero, List.set_cons_succ]
    repeat' (first | exact AllTo.nil | refine AllTo.cons ?_ ?_)
    all_goals first
      | exact stepTo_no (by rfl) rfl
      | (refine stepTo_yes (by rfl) (fun V hV K hK => ?_)
         have q0 := (KP.out V hV).1
         have q3 := KL.out V hV
         go_simp
         first
           | exact hK.out _ hV
           | (go_at_call 13; refine (KM.out V hV).mono ?_; rintro e V' ⟨rfl, rfl⟩; exact hK.out _ hV)
           | (go_at_call 40; refine (KS.out V hV).mono ?_; rintro e V' ⟨rfl, hV'⟩; exact hK.out _ (KB.out _ _ hV hV'))
           | (go_at_call 41; refine (KQ.out V hV).mono ?_; rintro e V' ⟨rfl, rfl⟩; exact hK.out _ hV))
  simp only [putAll, Act.put, List.setIfInBounds_toArray, List.set_cons_zero, List.set_cons_succ]
  obtain ⟨p0, p2, p3⟩ := KP.out V1 HV1
  have pl := KL.out V1 HV1
  have n0 := World.new_ne V1 ⟨eb, 0, none⟩ p0
  have n2 := World.new_ne V1 ⟨eb, 2, none⟩ p2
  have n3 := World.new_ne V1 ⟨eb, 3, none⟩ p3
  have KX : Hid (∀ w', Below (V1.drew.alloc (.cells #[.int .u64 0, .int .i64 0] 33)).heap.size (V1.drew.alloc (.cells #[.int .u64 0, .int .i64 0] 33)) w' → w'.cell? ⟨V1.heap.size, 0, none⟩ = some (.int .u64 0) ∧ w'.cell? ⟨V1.heap.size, 1, none⟩ = some (.int .i64 0) ∧ w'.frozen? ⟨V1.heap.size, 0, none⟩ = false ∧ w'.frozen? ⟨V1.heap.size, 1, none⟩ = false ∧ V1.heap.size < w'.heap.size) := fun w' hb => by
    have hx := (hb.block _ (by simp)).trans (alloc_atK V1.drew (.cells #[.int .u64 0, .int .i64 0] 33))
    rw [show V1.drew.heap.size = V1.heap.size from rfl] at hx
    exact ⟨block_cell hx 0, block_cell hx 1, block_free hx 0, block_free hx 1, block_lt hx⟩
  have hvs := KZ.out V1 HV1
  go_upto_region 3 with fail
  go_region_with (first
    | (go_at_call 42; refine (KN.out _ (KA.out _ _ (KR.out _ HV1))).mono ?_; rintro e w3 ⟨rfl, G⟩; obtain ⟨y0, y1, yf0, yf1, yl⟩ := KX.out _ G.out.1; have G2 := hide G.out.2; have hws := KZ.out w3 G2)
    | (go_at_call 42; refine (KN.out _ (KR.out _ HV1)).mono ?_; rintro e w3 ⟨rfl, G⟩; have G2 := hide G.out.2; have hws := KZ.out w3 G2))
  all_goals clear KM KS KQ KN KP KL KB KX
  all_goals go_wp2_with (go_at_call 37; refine (KE.out _ (by first | exact KA.out _ _ G2 | exact KT.out _ _ _ _ (KT.out _ _ _ _ G2 hvs) hvs | exact KT.out _ _ _ _ (KT.out _ _ _ _ (KA.out _ _ G2) hws) hws)).mono ?_; rintro e w4 ⟨rfl, D⟩)
  all_goals go_ret
  all_goals exact ⟨rfl, D.out⟩
theorem valid_node {c : Cf} {n : Nat} {m : Int} (n1 : 1 ≤ n) : c.valid n m = true ↔ (n ≤ c.mn ∧ 0 ≤ m ∧ m < 2 * c.f + 1) := by
  unfold Cf.valid Cf.node
  rw [if_neg (by omega)]
  simp
theorem quorumE {W : World} {eb g : Nat} {c : Cf} {me : Nat} {fp : Nat → Prop} {x : Ex} (h : EL W eb g c me fp x) (hok : c.Ok) (hem : c.em ≤ 100000) (now : Nat) (hnow : now < 18446744073709551616) (hnt : ¬ (x.num = c.mn ∧ x.node = 2 * c.f)) :
    Calls Try.prog 22 #[.pointer (some ⟨eb, 0, none⟩), .int .u64 (now : Nat)] W fun e W' => e = .returned (.bool (Ev.quorum c x.abs now).2) ∧ Hid (Did W eb g c me fp (Ev.quorum c x.abs now).1 W') := by
  have hn1 := h.n1
  have hva := (valid_node h.n1).1 h.va
  by_cases hc : ((countB x.sus : Nat) : Int) < c.f + 1
  · have e : Ev.quorum c x.abs now = (x.abs, false) := by unfold Ev.quorum; exact if_pos hc
    rw [e]
    exact quorum_few h hok now hc
  · by_cases hm : x.node < 2 * c.f
    · have e : Ev.quorum c x.abs now = (Ev.enter c x.abs x.num (x.node + 1) now, true) := by
        unfold Ev.quorum
        rw [if_neg (by exact hc), if_neg (by exact hnt), if_pos (by exact hm)]
        rfl
      rw [e]
      refine quorum_yes h hok hem now hnow hc x.num (x.node + 1) ?_ h.n1 ((valid_node h.n1).2 ⟨hva.1, by omega, by omega⟩)
      unfold Cf.next
      rw [if_neg (by simp), if_neg (by omega), if_neg (by omega), if_pos hm]
    · have e : Ev.quorum c x.abs now = (Ev.enter c x.abs (x.num + 1) 0 now, true) := by
        unfold Ev.quorum
        rw [if_neg (by exact hc), if_neg (by exact hnt), if_neg (by exact hm)]
        rfl
      rw [e]
      have hf1 := hok.f1
      refine quorum_yes h hok hem now hnow hc (x.num + 1) 0 ?_ (by omega) ((valid_node (by omega)).2 ⟨by omega, by omega, by omega⟩)
      unfold Cf.next
      rw [if_neg (by simp), if_neg (by omega), if_neg (by omega), if_neg hm]
      rfl
end Go.Proofs.Ythfbimbadkmhhaa
