import Derived.RangeFuncNested
import Derived.Shelf.RegionOpenPlain
import Derived.Test.YtcfenjpdjogmdaaLT43
namespace Go.Proofs.Ytcfenjpdjogmdaa
open Go.RowKit Go.Shelf
attribute [local go_sem] Oper.semAt_some

theorem one_at {ys : List Value} (h : ∀ v ∈ ys, v.oneCell' = true) (x : Nat) : (ys.getD x (ys.headD .nilFunc)).oneCell' = true := by
  have h0 : (ys.headD .nilFunc).oneCell' = true := by
    cases ys with
    | nil => rfl
    | cons d t => exact h d (by simp)
  rw [List.getD_eq_getElem?_getD]
  cases e : ys[x]? with
  | none => exact h0
  | some v => exact h v (List.mem_of_getElem? e)
set_option maxRecDepth 100000 in
set_option maxHeartbeats 4000000 in
/-- takeBack. -/
theorem takeBackM {w : World} {B p a b : Nat} {Z : SZ} {S S' : LS} (h : LM w B p a b Z S) {n : Nat} (hn : n ≤ Z.cs.length) (hc : Z.cs.length ≤ 1000000000000) (hA : S.acc.length ≤ 1000000000000) (hH : S.hol.length ≤ 1000000000000) (hS : undoAll (Z.cs.drop n) S.ms = S'.ms) :
    Calls Try.prog 33 #[.pointer (some ⟨p, 324, none⟩), .int .i64 (n : Nat)] w fun e w' => e = .returned (.tuple #[]) ∧ Hid (∃ Z', LM w' B p a b Z' S' ∧ Tr w w' p a b Z Z' ∧ Z'.mv = Z.mv ∧ Z'.ms = Z.ms ∧ Z'.cs = Z.cs.take n) := by
  have c5 := h.lg.c.2.2.2.2.2
  have cl := h.lg.lt.1
  have lt := h.lg.lt
  obtain ⟨_, _, cao, ccap, _, e2⟩ := h.cells
  rw [e2] at c5
  obtain ⟨xs, hr, hd⟩ := h.cr
  have hxl : xs.length = Z.cs.length := by have := hr.1; omega
  have hone : ∀ v ∈ xs.drop n, v.oneCell' = true := fun v hv => by
    obtain ⟨i, hi⟩ := List.getElem?_of_mem (List.mem_of_mem_drop hv)
    have hil := (List.getElem?_eq_some_iff.1 hi).1
    exact (hd i _ v (List.getElem?_eq_getElem (by omega)) hi).one
  obtain ⟨m, hm⟩ : ∃ m, Z.cs.length = n + m := ⟨Z.cs.length - n, by omega⟩
  have hlx : (xs.drop n).length = m := by rw [List.length_drop]; omega
  have hld : (Z.cs.drop n).length = m := by rw [List.length_drop]; omega
  rw [e2, hm] at hr
  obtain ⟨sao, scap, g, off, hsl, hgs, hU⟩ : ∃ (sao : Option Addr) (scap g off : Nat), ((cao = none ∧ n = 0 ∧ m = 0 ∧ ccap = 0 ∧ sao = none ∧ scap = 0) ∨ (∃ b', cao = some ⟨b', 0, none⟩ ∧ ccap = n ∧ m = 0 ∧ scap = 0 ∧ sao = some ⟨b', 0, none⟩) ∨ (∃ b', cao = some ⟨b', 0, none⟩ ∧ ¬ ccap = n ∧ n + m ≤ ccap ∧ ccap ≤ maxLen ∧ scap = ccap - n ∧ sao = some ⟨b', n, none⟩)) ∧ (0 < m → sao = some ⟨g, off, none⟩ ∧ g < w.heap.size ∧ g ≠ p ∧ g ≠ a ∧ g ≠ b) ∧ (0 < m → Cg w g off (xs.drop n)) := by
    obtain ⟨hrw, -⟩ := h.rows
    have hcap : cao = none → n + m = 0 ∧ ccap = 0 := by
      rintro rfl
      rcases hr.2 with ⟨e, e0⟩ | ⟨g, c, cur, e, _⟩
      · injection e with _ e1 e2
        omega
      · injection e with e1 _ _
        cases e1
    rcases hr.2 with ⟨e, e0⟩ | ⟨g, c, cur, e, q1, q2, q3, q4, q5, q6⟩
    · injection e with e1 _ _
      have hcc := hcap e1
      subst e1
      exact ⟨none, 0, 0, 0, .inl ⟨rfl, by omega, by omega, by omega, rfl, rfl⟩, fun h0 => by omega, fun h0 => by omega⟩
    · injection e with e1 _ e3
      subst e1 e3
      have hne : g ≠ p ∧ g ≠ a ∧ g ≠ b := by
        rw [e2] at hrw
        exact ⟨fun e => (hrw g (.inl e)).2 rfl, fun e => (hrw g (.inr (.inl e))).2 rfl, fun e => (hrw g (.inr (.inr e))).2 rfl⟩
      by_cases hcn : ccap = n
      · exact ⟨some ⟨g, 0, none⟩, 0, g, 0, .inr (.inl ⟨g, rfl, hcn, by omega, rfl, rfl⟩), fun h0 => by omega, fun h0 => by omega⟩
      · refine ⟨some ⟨g, n, none⟩, ccap - n, g, n, .inr (.inr ⟨g, rfl, hcn, by omega, q4, rfl, rfl⟩), fun h0 => ⟨rfl, block_lt q2, hne⟩, fun h0 i v hi => ?_⟩
        have hx : xs[n + i]? = some v := by rw [List.getElem?_drop] at hi; exact hi
        rw [block_cell q2, ← hx, ← q6, List.getElem?_take_of_lt (by have := (List.getElem?_eq_some_iff.1 hi).1; omega), Array.getElem?_toList]
  obtain ⟨W1, hW1⟩ : ∃ W1, w.alloc (.cells #[.slice sao m scap] 73) = W1 := ⟨_, rfl⟩
  have b1 : Below w.heap.size w W1 := by rw [← hW1]; exact (Below.refl _ w).alloc (Nat.le_refl _) _
  have C1 : W1.heap[w.heap.size]? = some (.cells #[.slice sao m scap] 73 (0, 0)) := by rw [← hW1]; exact alloc_atK _ _
  have s1 : W1.heap.size = w.heap.size + 1 := by rw [← hW1]; simp
  have hs := backw_stops (3 - 1) (by omega) w.heap.size sao scap g off (xs.drop n) (by omega) W1 (by omega) (by rw [hlx]; exact block_cell C1 0) (fun h0 => (hgs (by omega)).1) hone (fun h0 => by have := (hgs (by omega)).2.1; omega) (by
    intro i v hi
    have h0 : 0 < m := by have := (List.getElem?_eq_some_iff.1 hi).1; omega
    exact (b1.cell (p := ⟨g, off + i, none⟩) (hgs h0).2.1).trans (hU h0 i v hi))
  rw [hlx] at hs
  obtain ⟨ds, hds⟩ : ∃ ds, Z.cs.drop n = ds := ⟨_, rfl⟩
  obtain ⟨ys, hys⟩ : ∃ ys, xs.drop n = ys := ⟨_, rfl⟩
  have hdy : ∀ (i : Nat) (d : Bk) (v : Value), ds[i]? = some d → ys[i]? = some v → d.Ok w p a b v := fun i d v h1 h2 => by
    rw [← hds, List.getElem?_drop] at h1
    rw [← hys, List.getElem?_drop] at h2
    exact hd _ d v h1 h2
  rw [hds] at hS hld
  rw [hys] at hs hone hlx
  have I0 : TkI w p a b Z.mv Z.cv S.ms ds [] W1 := ⟨h.lg.toM.other (below_none b1) (by simp) (by simp) (by simp), Fr3.below b1⟩
  have HW1 := hide hW1
  have HG : Hid (0 < m → g < w.heap.size ∧ g ≠ p ∧ g ≠ a ∧ g ≠ b) := fun h0 => (hgs h0).2
  have H := hide h
  have HD := hide hd
  have HON := hide hone
  have HDY := hide hdy
  have hm1 : m ≤ 1000000000000 := by omega
  have hn1 : n + m ≤ 1000000000000 := by omega
  rw [hm] at c5 e2
  have HROW := hide hr
  clear hW1 hgs hU hr h hd hdy hc hn hds hys hone hxl
  refine (callsIn_wide (n := 3)).1 ?_
  refine callsIn_of_wp_marks Try.func33 rfl trivial ?_ rfl
  simp only [Try.ntmps33, List.size_toArray, List.length_cons, List.length_nil, Nat.reduceAdd, Nat.reduceSub, Array.replicate_succ, Array.replicate_zero, List.push_toArray, List.append_toArray, List.nil_append, List.cons_append]
  rcases hsl with ⟨rfl, rfl, rfl, rfl, rfl, rfl⟩ | ⟨b', rfl, rfl, rfl, rfl, rfl⟩ | ⟨b', rfl, hne, hle, hmx, rfl, rfl⟩
  all_goals try unfold maxLen at hmx
  · gi_wp2_with (refine ⟨trivial, ?_⟩; gi_at_call 58; refine (callsIn_wide.2 (backw_any _ _ _ _)).mono ?_; rintro e w' ⟨rfl, rfl⟩)
    rw [HW1.out]
    refine wpIn_rangeFunc_ownH rfl (by omega) (gf := 73) (lb := #[.pointer (some ⟨w.heap.size, 0, none⟩)]) rfl trivial (enters_of Try.func73 (by kernel_rfl) rfl)
      hs kpC_t kpC_b (Below.refl _ _) (fun _ => rfl) (TkI w p a b Z.mv Z.cv S.ms ds) (fun _ _ _ => False) (fun pre A B row h hg hr => h.grown lt hg (fun r e => by have := (hr r e).1; omega)) (fun _ _ _ _ _ h _ _ => h) I0
      (fun x a' V => ∃ c, a' = { tmps := #[.pointer (some ⟨p, 324, none⟩), .int .i64 0, undef, undef, undef, .pointer (some ⟨c, 0, none⟩), .pointer (some ⟨p, 324, none⟩), .pointer (some ⟨p, 324, none⟩), .pointer (some ⟨p, 325, none⟩), .slice none 0 0, .int .i64 0, .slice none 0 0, .func (.func 73) #[] #[.pointer (some ⟨w.heap.size, 0, none⟩)], .int .i64 (x : Nat), .agg #[ys.getD x (ys.headD .nilFunc)], undef, undef, undef, undef, undef, undef, undef, undef, undef, undef, undef, undef, undef, undef, undef, undef, undef], defers := [] } ∧ V.cell? ⟨c, 0, none⟩ = some (ys.getD x (ys.headD .nilFunc))) (fun x a' _ A B row h hg hr => by obtain ⟨c, h1, h2⟩ := h; exact ⟨c, h1, cell_kept h2 hg (fun r e => (hr r e).2)⟩) ?assign ?body ?done ?stop
    case assign =>
      intro l pre x W K hI hK
      obtain ⟨v, hv⟩ : ∃ v, ys.getD x (ys.headD .nilFunc) = v := ⟨_, rfl⟩
      unfold encC
      rw [hv] at hK ⊢
      have hst : ∀ (V : World) (ad : Addr) (m : Mode), (store ad v m).run Try.prog V = stored Try.prog V ad v m := fun V ad m => run_store Try.prog V ad v m (by rw [← hv]; exact one_at HON.out x)
      have HKA := hide hK
      have HI := hide hI
      clear hI hK hs I0 C1 hv
      gi_wp2
      have ga := World.grownBy_alloc W (.cells #[v] 122) none
      exact HKA.out _ _ ((KeepsOthers.alloc W _).from _) (fun b o u hb hu => cell_alloc_l' _ hu) (HI.out.grown lt ga (fun r e => by cases e)) ⟨_, rfl, block_cell (alloc_atK W _) 0⟩
    case body =>
      rintro l pre x a' W hl hrec hI ⟨c, rfl, hcc⟩ hpl
      clear hs I0 C1 hrec
      obtain ⟨hgw, n1, n2, n3⟩ := HG.out (by omega)
      obtain ⟨v, hv⟩ : ∃ v, ys.getD x (ys.headD .nilFunc) = v := ⟨_, rfl⟩
      rw [hv] at hcc ⊢
      have hok : (bkAt ds x).Ok W p a b v := by
        rw [← hv]
        exact bk_at (by omega) (by omega) (fun i d v h1 h2 => (HDY.out i d v h1 h2).fl (hI.fr.flm H.out.lg.toM)) x
      have hle := undoL_le ds pre S.ms
      have hA2 : S.ms.acn = S.acc.length := rfl
      have hH2 : S.ms.hon = S.hol.length := rfl
      obtain ⟨f, ca, hvf, eg, hcall⟩ := Bk.call hI.lg (by omega) (by omega) hok
      subst hvf
      have cl2 := World.block_lt_of_cell? W _ hcc
      have HI := hide hI
      have HC := hide hcall
      have HFI : Hid (∀ W', BkP W W' p a b Z.mv Z.cv (Bk.undo (undoL ds S.ms pre) (bkAt ds x)) → KeepsFrom W1.heap.size W W' ∧ KpC g w.heap.size W W' ∧ TkI w p a b Z.mv Z.cv S.ms ds (pre ++ [x]) W') := fun W' hb => by
        obtain ⟨q, hq, hgq⟩ := hb.2
        refine ⟨KeepsFrom.of_grownBy hgq (fun j e => by cases e; rcases hq with rfl | rfl | rfl <;> omega), fun bb o u hbb hu => ?_, HI.out.back x hb⟩
        have hbl := World.block_lt_of_cell? W _ hu
        have hne : bb ≠ q := by rcases hq with rfl | rfl | rfl <;> rcases hbb with rfl | rfl <;> omega
        rw [← hu]
        simp [World.cell?, hgq.block bb hbl (fun e => hne (Option.some.inj e))]
      clear hI hok hle hcall hpl hl hv
      gi_wp2_with (refine ⟨trivial, ?_⟩; refine (CallsIn.inRound l (callsIn_wide.2 HC.out)).mono ?_; rintro e W' ⟨rfl, G⟩)
      exact HFI.out _ G.out
    case done =>
      rintro D zs W hD rfl hI hK
      have hun : undoL ds S.ms (rv ds.length) = S'.ms := by rw [undoL_all, hS]
      rw [hld] at hun
      have hl : LGm W p a b Z.mv Z.cv S'.ms := by rw [← hun]; exact hI.lg
      have hfr := hI.fr
      obtain ⟨hr1, -⟩ := H.out.rows
      rw [e2] at hr1
      have hcc : W.cell? ⟨p, 325, none⟩ = some (.slice none 0 0) := by have := hl.toG.c.2.2.2.2.2; rw [e2] at this; exact this
      have hfz : W.frozen? ⟨p, 325, none⟩ = false := hl.toG.free 325
      have hpl := hl.lt.1
      have hrow : W.drew.ownsRow B 122 1 (.slice none 0 0) (0) xs := row_same (W := w) HROW.out (fun k e => hfr.block k (HROW.out.lt k e).2 (fun e' => (hr1 k (.inl e')).2 e) (fun e' => (hr1 k (.inr (.inl e'))).2 e) (fun e' => (hr1 k (.inr (.inr e'))).2 e))
      have HDEL : Hid (Calls Try.prog 59 #[.slice none 0 0, .int .i64 0, .int .i64 0] W.drew fun e w' => e = .returned (.slice none 0 0) ∧ Hid (w'.ownsRow B 122 1 (.slice none 0 0) (0) (xs.take (0)) ∧ W.drew.grownBy w' (Value.ownBlock (.slice none 0 0)))) := deleteC hrow (by first | exact Nat.le_refl _ | omega) (by first | exact (by decide) | omega)
      have HFIN : Hid (∀ W2, Hid (W2.ownsRow B 122 1 (.slice none 0 0) (0) (xs.take (0)) ∧ W.drew.grownBy W2 (Value.ownBlock (.slice none 0 0))) → (W2.cell? ⟨p, 325, none⟩ = some (.slice none 0 0) ∧ W2.frozen? ⟨p, 325, none⟩ = false ∧ p < W2.heap.size) ∧ Hid ((W2.setCell ⟨p, 325, none⟩ (.slice none 0 0)).heap[D]? = some (.deferred (some [])) ∧ ∃ Z', LM ((W2.setCell ⟨p, 325, none⟩ (.slice none 0 0)).putObj D (.deferred none)) B p a b Z' S' ∧ Tr w ((W2.setCell ⟨p, 325, none⟩ (.slice none 0 0)).putObj D (.deferred none)) p a b Z Z' ∧ Z'.mv = Z.mv ∧ Z'.ms = Z.ms ∧ Z'.cs = Z.cs.take (0))) := fun W2 hW2 => by
        have hg2 : W.drew.grownBy W2 Z.cv.ownBlock := by rw [e2]; exact hW2.out.2
        have hf := tk_fin H.out HD.out (n := 0) (Nat.zero_le _) hl hfr hW2.out.1 hg2 (by rw [e2] <;> rfl)
        obtain ⟨⟨k1, k2, k3⟩, hf2⟩ := hf
        rw [e2] at k1
        have hD2 : (W2.setCell ⟨p, 325, none⟩ (.slice none 0 0)).heap[D]? = some (.deferred (some [])) := by
          have hDW : D < W.drew.heap.size := (Array.getElem?_eq_some_iff.1 hK).1
          have h1 := hW2.out.2.size
          rw [(grown_set W2 p 325 _).block D (by omega) (fun e => by have := Option.some.inj e; omega), hW2.out.2.block D hDW (fun e => by have := (HROW.out.lt D e.symm).2; omega)]
          exact hK
        exact ⟨⟨k1, k2, k3⟩, hD2, hf2 D _ (by omega) hD2 rfl _⟩
      clear hs I0 C1 hI hK hl hrow hr1 hfr hun
      gi_step
      gi_step
      refine wpIn_mono (Q := fun e a3 w3 => e = Exit.normal ∧ a3.defers = [{ target := .collected D, args := #[] }] ∧ Hid (w3.heap[D]? = some (.deferred (some [])) ∧ ∃ Z', LM (w3.putObj D (.deferred none)) B p a b Z' S' ∧ Tr w (w3.putObj D (.deferred none)) p a b Z Z' ∧ Z'.mv = Z.mv ∧ Z'.ms = Z.ms ∧ Z'.cs = Z.cs.take (0))) (wpIn_wide.2 ?_) ?_
      · go_region_with (go_at_call 59; refine HDEL.out.mono ?_; rintro e w2 ⟨rfl, G⟩; obtain ⟨⟨k1, k2, k3⟩, HE⟩ := HFIN.out w2 G)
        all_goals exact ⟨rfl, rfl, HE⟩
      · rintro e ⟨tm, df⟩ w3 ⟨rfl, h1, HE⟩
        obtain rfl : df = _ := h1
        refine ⟨by simp, .inl ⟨_, _, rfl, run_takeDeferred HE.out.1, ?_⟩⟩
        exact ⟨_, results_none rfl _ _ _, rfl, HE.out.2⟩
    case stop =>
      rintro D c pre W _ _ h _
      exact h.elim
  · gi_wp2_with (refine ⟨trivial, ?_⟩; gi_at_call 58; refine (callsIn_wide.2 (backw_any _ _ _ _)).mono ?_; rintro e w' ⟨rfl, rfl⟩)
    rw [HW1.out]
    refine wpIn_rangeFunc_ownH rfl (by omega) (gf := 73) (lb := #[.pointer (some ⟨w.heap.size, 0, none⟩)]) rfl trivial (enters_of Try.func73 (by kernel_rfl) rfl)
      hs kpC_t kpC_b (Below.refl _ _) (fun _ => rfl) (TkI w p a b Z.mv Z.cv S.ms ds) (fun _ _ _ => False) (fun pre A B row h hg hr => h.grown lt hg (fun r e => by have := (hr r e).1; omega)) (fun _ _ _ _ _ h _ _ => h) I0
      (fun x a' V => ∃ c, a' = { tmps := #[.pointer (some ⟨p, 324, none⟩), .int .i64 (ccap : Nat), undef, undef, undef, .pointer (some ⟨c, 0, none⟩), .pointer (some ⟨p, 324, none⟩), .pointer (some ⟨p, 324, none⟩), .pointer (some ⟨p, 325, none⟩), .slice (some ⟨b', 0, none⟩) ccap ccap, .int .i64 (ccap : Nat), .slice (some ⟨b', 0, none⟩) 0 0, .func (.func 73) #[] #[.pointer (some ⟨w.heap.size, 0, none⟩)], .int .i64 (x : Nat), .agg #[ys.getD x (ys.headD .nilFunc)], undef, undef, undef, undef, undef, undef, undef, undef, undef, undef, undef, undef, undef, undef, undef, undef, undef], defers := [] } ∧ V.cell? ⟨c, 0, none⟩ = some (ys.getD x (ys.headD .nilFunc))) (fun x a' _ A B row h hg hr => by obtain ⟨c, h1, h2⟩ := h; exact ⟨c, h1, cell_kept h2 hg (fun r e => (hr r e).2)⟩) ?assign ?body ?done ?stop
    case assign =>
      intro l pre x W K hI hK
      obtain ⟨v, hv⟩ : ∃ v, ys.getD x (ys.headD .nilFunc) = v := ⟨_, rfl⟩
      unfold encC
      rw [hv] at hK ⊢
      have hst : ∀ (V : World) (ad : Addr) (m : Mode), (store ad v m).run Try.prog V = stored Try.prog V ad v m := fun V ad m => run_store Try.prog V ad v m (by rw [← hv]; exact one_at HON.out x)
      have HKA := hide hK
      have HI := hide hI
      clear hI hK hs I0 C1 hv
      gi_wp2
      have ga := World.grownBy_alloc W (.cells #[v] 122) none
      exact HKA.out _ _ ((KeepsOthers.alloc W _).from _) (fun b o u hb hu => cell_alloc_l' _ hu) (HI.out.grown lt ga (fun r e => by cases e)) ⟨_, rfl, block_cell (alloc_atK W _) 0⟩
    case body =>
      rintro l pre x a' W hl hrec hI ⟨c, rfl, hcc⟩ hpl
      clear hs I0 C1 hrec
      obtain ⟨hgw, n1, n2, n3⟩ := HG.out (by omega)
      obtain ⟨v, hv⟩ : ∃ v, ys.getD x (ys.headD .nilFunc) = v := ⟨_, rfl⟩
      rw [hv] at hcc ⊢
      have hok : (bkAt ds x).Ok W p a b v := by
        rw [← hv]
        exact bk_at (by omega) (by omega) (fun i d v h1 h2 => (HDY.out i d v h1 h2).fl (hI.fr.flm H.out.lg.toM)) x
      have hle := undoL_le ds pre S.ms
      have hA2 : S.ms.acn = S.acc.length := rfl
      have hH2 : S.ms.hon = S.hol.length := rfl
      obtain ⟨f, ca, hvf, eg, hcall⟩ := Bk.call hI.lg (by omega) (by omega) hok
      subst hvf
      have cl2 := World.block_lt_of_cell? W _ hcc
      have HI := hide hI
      have HC := hide hcall
      have HFI : Hid (∀ W', BkP W W' p a b Z.mv Z.cv (Bk.undo (undoL ds S.ms pre) (bkAt ds x)) → KeepsFrom W1.heap.size W W' ∧ KpC g w.heap.size W W' ∧ TkI w p a b Z.mv Z.cv S.ms ds (pre ++ [x]) W') := fun W' hb => by
        obtain ⟨q, hq, hgq⟩ := hb.2
        refine ⟨KeepsFrom.of_grownBy hgq (fun j e => by cases e; rcases hq with rfl | rfl | rfl <;> omega), fun bb o u hbb hu => ?_, HI.out.back x hb⟩
        have hbl := World.block_lt_of_cell? W _ hu
        have hne : bb ≠ q := by rcases hq with rfl | rfl | rfl <;> rcases hbb with rfl | rfl <;> omega
        rw [← hu]
        simp [World.cell?, hgq.block bb hbl (fun e => hne (Option.some.inj e))]
      clear hI hok hle hcall hpl hl hv
      gi_wp2_with (refine ⟨trivial, ?_⟩; refine (CallsIn.inRound l (callsIn_wide.2 HC.out)).mono ?_; rintro e W' ⟨rfl, G⟩)
      exact HFI.out _ G.out
    case done =>
      rintro D zs W hD rfl hI hK
      have hun : undoL ds S.ms (rv ds.length) = S'.ms := by rw [undoL_all, hS]
      rw [hld] at hun
      have hl : LGm W p a b Z.mv Z.cv S'.ms := by rw [← hun]; exact hI.lg
      have hfr := hI.fr
      obtain ⟨hr1, -⟩ := H.out.rows
      rw [e2] at hr1
      have hcc : W.cell? ⟨p, 325, none⟩ = some (.slice (some ⟨b', 0, none⟩) ccap ccap) := by have := hl.toG.c.2.2.2.2.2; rw [e2] at this; exact this
      have hfz : W.frozen? ⟨p, 325, none⟩ = false := hl.toG.free 325
      have hpl := hl.lt.1
      have hrow : W.drew.ownsRow B 122 1 (.slice (some ⟨b', 0, none⟩) ccap ccap) (ccap) xs := row_same (W := w) HROW.out (fun k e => hfr.block k (HROW.out.lt k e).2 (fun e' => (hr1 k (.inl e')).2 e) (fun e' => (hr1 k (.inr (.inl e'))).2 e) (fun e' => (hr1 k (.inr (.inr e'))).2 e))
      have HDEL : Hid (Calls Try.prog 59 #[.slice (some ⟨b', 0, none⟩) ccap ccap, .int .i64 (ccap : Nat), .int .i64 (ccap : Nat)] W.drew fun e w' => e = .returned (.slice (some ⟨b', 0, none⟩) ccap ccap) ∧ Hid (w'.ownsRow B 122 1 (.slice (some ⟨b', 0, none⟩) ccap ccap) (ccap) (xs.take (ccap)) ∧ W.drew.grownBy w' (Value.ownBlock (.slice (some ⟨b', 0, none⟩) ccap ccap)))) := deleteC hrow (by first | exact Nat.le_refl _ | omega) (by first | exact (by decide) | omega)
      have HFIN : Hid (∀ W2, Hid (W2.ownsRow B 122 1 (.slice (some ⟨b', 0, none⟩) ccap ccap) (ccap) (xs.take (ccap)) ∧ W.drew.grownBy W2 (Value.ownBlock (.slice (some ⟨b', 0, none⟩) ccap ccap))) → (W2.cell? ⟨p, 325, none⟩ = some (.slice (some ⟨b', 0, none⟩) ccap ccap) ∧ W2.frozen? ⟨p, 325, none⟩ = false ∧ p < W2.heap.size) ∧ Hid ((W2.setCell ⟨p, 325, none⟩ (.slice (some ⟨b', 0, none⟩) ccap ccap)).heap[D]? = some (.deferred (some [])) ∧ ∃ Z', LM ((W2.setCell ⟨p, 325, none⟩ (.slice (some ⟨b', 0, none⟩) ccap ccap)).putObj D (.deferred none)) B p a b Z' S' ∧ Tr w ((W2.setCell ⟨p, 325, none⟩ (.slice (some ⟨b', 0, none⟩) ccap ccap)).putObj D (.deferred none)) p a b Z Z' ∧ Z'.mv = Z.mv ∧ Z'.ms = Z.ms ∧ Z'.cs = Z.cs.take (ccap))) := fun W2 hW2 => by
        have hg2 : W.drew.grownBy W2 Z.cv.ownBlock := by rw [e2]; exact hW2.out.2
        have hf := tk_fin H.out HD.out (n := ccap) (by omega) hl hfr hW2.out.1 hg2 (by rw [e2] <;> rfl)
        obtain ⟨⟨k1, k2, k3⟩, hf2⟩ := hf
        rw [e2] at k1
        have hD2 : (W2.setCell ⟨p, 325, none⟩ (.slice (some ⟨b', 0, none⟩) ccap ccap)).heap[D]? = some (.deferred (some [])) := by
          have hDW : D < W.drew.heap.size := (Array.getElem?_eq_some_iff.1 hK).1
          have h1 := hW2.out.2.size
          rw [(grown_set W2 p 325 _).block D (by omega) (fun e => by have := Option.some.inj e; omega), hW2.out.2.block D hDW (fun e => by have := (HROW.out.lt D e.symm).2; omega)]
          exact hK
        exact ⟨⟨k1, k2, k3⟩, hD2, hf2 D _ (by omega) hD2 rfl _⟩
      clear hs I0 C1 hI hK hl hrow hr1 hfr hun
      gi_step
      gi_step
      refine wpIn_mono (Q := fun e a3 w3 => e = Exit.normal ∧ a3.defers = [{ target := .collected D, args := #[] }] ∧ Hid (w3.heap[D]? = some (.deferred (some [])) ∧ ∃ Z', LM (w3.putObj D (.deferred none)) B p a b Z' S' ∧ Tr w (w3.putObj D (.deferred none)) p a b Z Z' ∧ Z'.mv = Z.mv ∧ Z'.ms = Z.ms ∧ Z'.cs = Z.cs.take (ccap))) (wpIn_wide.2 ?_) ?_
      · go_region_with (go_at_call 59; refine HDEL.out.mono ?_; rintro e w2 ⟨rfl, G⟩; obtain ⟨⟨k1, k2, k3⟩, HE⟩ := HFIN.out w2 G)
        all_goals exact ⟨rfl, rfl, HE⟩
      · rintro e ⟨tm, df⟩ w3 ⟨rfl, h1, HE⟩
        obtain rfl : df = _ := h1
        refine ⟨by simp, .inl ⟨_, _, rfl, run_takeDeferred HE.out.1, ?_⟩⟩
        exact ⟨_, results_none rfl _ _ _, rfl, HE.out.2⟩
    case stop =>
      rintro D c pre W _ _ h _
      exact h.elim
  · gi_wp2_with (refine ⟨trivial, ?_⟩; gi_at_call 58; refine (callsIn_wide.2 (backw_any _ _ _ _)).mono ?_; rintro e w' ⟨rfl, rfl⟩)
    rw [HW1.out]
    refine wpIn_rangeFunc_ownH rfl (by omega) (gf := 73) (lb := #[.pointer (some ⟨w.heap.size, 0, none⟩)]) rfl trivial (enters_of Try.func73 (by kernel_rfl) rfl)
      hs kpC_t kpC_b (Below.refl _ _) (fun _ => rfl) (TkI w p a b Z.mv Z.cv S.ms ds) (fun _ _ _ => False) (fun pre A B row h hg hr => h.grown lt hg (fun r e => by have := (hr r e).1; omega)) (fun _ _ _ _ _ h _ _ => h) I0
      (fun x a' V => ∃ c, a' = { tmps := #[.pointer (some ⟨p, 324, none⟩), .int .i64 (n : Nat), undef, undef, undef, .pointer (some ⟨c, 0, none⟩), .pointer (some ⟨p, 324, none⟩), .pointer (some ⟨p, 324, none⟩), .pointer (some ⟨p, 325, none⟩), .slice (some ⟨b', 0, none⟩) (n + m) ccap, .int .i64 (n : Nat), .slice (some ⟨b', n, none⟩) m (ccap - n), .func (.func 73) #[] #[.pointer (some ⟨w.heap.size, 0, none⟩)], .int .i64 (x : Nat), .agg #[ys.getD x (ys.headD .nilFunc)], undef, undef, undef, undef, undef, undef, undef, undef, undef, undef, undef, undef, undef, undef, undef, undef, undef], defers := [] } ∧ V.cell? ⟨c, 0, none⟩ = some (ys.getD x (ys.headD .nilFunc))) (fun x a' _ A B row h hg hr => by obtain ⟨c, h1, h2⟩ := h; exact ⟨c, h1, cell_kept h2 hg (fun r e => (hr r e).2)⟩) ?assign ?body ?done ?stop
    case assign =>
      intro l pre x W K hI hK
      obtain ⟨v, hv⟩ : ∃ v, ys.getD x (ys.headD .nilFunc) = v := ⟨_, rfl⟩
      unfold encC
      rw [hv] at hK ⊢
      have hst : ∀ (V : World) (ad : Addr) (m : Mode), (store ad v m).run Try.prog V = stored Try.prog V ad v m := fun V ad m => run_store Try.prog V ad v m (by rw [← hv]; exact one_at HON.out x)
      have HKA := hide hK
      have HI := hide hI
      clear hI hK hs I0 C1 hv
      gi_wp2
      have ga := World.grownBy_alloc W (.cells #[v] 122) none
      exact HKA.out _ _ ((KeepsOthers.alloc W _).from _) (fun b o u hb hu => cell_alloc_l' _ hu) (HI.out.grown lt ga (fun r e => by cases e)) ⟨_, rfl, block_cell (alloc_atK W _) 0⟩
    case body =>
      rintro l pre x a' W hl hrec hI ⟨c, rfl, hcc⟩ hpl
      clear hs I0 C1 hrec
      obtain ⟨hgw, n1, n2, n3⟩ := HG.out (by omega)
      obtain ⟨v, hv⟩ : ∃ v, ys.getD x (ys.headD .nilFunc) = v := ⟨_, rfl⟩
      rw [hv] at hcc ⊢
      have hok : (bkAt ds x).Ok W p a b v := by
        rw [← hv]
        exact bk_at (by omega) (by omega) (fun i d v h1 h2 => (HDY.out i d v h1 h2).fl (hI.fr.flm H.out.lg.toM)) x
      have hle := undoL_le ds pre S.ms
      have hA2 : S.ms.acn = S.acc.length := rfl
      have hH2 : S.ms.hon = S.hol.length := rfl
      obtain ⟨f, ca, hvf, eg, hcall⟩ := Bk.call hI.lg (by omega) (by omega) hok
      subst hvf
      have cl2 := World.block_lt_of_cell? W _ hcc
      have HI := hide hI
      have HC := hide hcall
      have HFI : Hid (∀ W', BkP W W' p a b Z.mv Z.cv (Bk.undo (undoL ds S.ms pre) (bkAt ds x)) → KeepsFrom W1.heap.size W W' ∧ KpC g w.heap.size W W' ∧ TkI w p a b Z.mv Z.cv S.ms ds (pre ++ [x]) W') := fun W' hb => by
        obtain ⟨q, hq, hgq⟩ := hb.2
        refine ⟨KeepsFrom.of_grownBy hgq (fun j e => by cases e; rcases hq with rfl | rfl | rfl <;> omega), fun bb o u hbb hu => ?_, HI.out.back x hb⟩
        have hbl := World.block_lt_of_cell? W _ hu
        have hne : bb ≠ q := by rcases hq with rfl | rfl | rfl <;> rcases hbb with rfl | rfl <;> omega
        rw [← hu]
        simp [World.cell?, hgq.block bb hbl (fun e => hne (Option.some.inj e))]
      clear hI hok hle hcall hpl hl hv
      gi_wp2_with (refine ⟨trivial, ?_⟩; refine (CallsIn.inRound l (callsIn_wide.2 HC.out)).mono ?_; rintro e W' ⟨rfl, G⟩)
      exact HFI.out _ G.out
    case done =>
      rintro D zs W hD rfl hI hK
      have hun : undoL ds S.ms (rv ds.length) = S'.ms := by rw [undoL_all, hS]
      rw [hld] at hun
      have hl : LGm W p a b Z.mv Z.cv S'.ms := by rw [← hun]; exact hI.lg
      have hfr := hI.fr
      obtain ⟨hr1, -⟩ := H.out.rows
      rw [e2] at hr1
      have hcc : W.cell? ⟨p, 325, none⟩ = some (.slice (some ⟨b', 0, none⟩) (n + m) ccap) := by have := hl.toG.c.2.2.2.2.2; rw [e2] at this; exact this
      have hfz : W.frozen? ⟨p, 325, none⟩ = false := hl.toG.free 325
      have hpl := hl.lt.1
      have hrow : W.drew.ownsRow B 122 1 (.slice (some ⟨b', 0, none⟩) (n + m) ccap) (n + m) xs := row_same (W := w) HROW.out (fun k e => hfr.block k (HROW.out.lt k e).2 (fun e' => (hr1 k (.inl e')).2 e) (fun e' => (hr1 k (.inr (.inl e'))).2 e) (fun e' => (hr1 k (.inr (.inr e'))).2 e))
      have HDEL : Hid (Calls Try.prog 59 #[.slice (some ⟨b', 0, none⟩) (n + m) ccap, .int .i64 (n : Nat), .int .i64 ((n + m : Nat) : Int)] W.drew fun e w' => e = .returned (.slice (some ⟨b', 0, none⟩) n ccap) ∧ Hid (w'.ownsRow B 122 1 (.slice (some ⟨b', 0, none⟩) n ccap) (n) (xs.take (n)) ∧ W.drew.grownBy w' (Value.ownBlock (.slice (some ⟨b', 0, none⟩) (n + m) ccap)))) := deleteC hrow (by first | exact Nat.le_refl _ | omega) (by first | exact (by decide) | omega)
      have HFIN : Hid (∀ W2, Hid (W2.ownsRow B 122 1 (.slice (some ⟨b', 0, none⟩) n ccap) (n) (xs.take (n)) ∧ W.drew.grownBy W2 (Value.ownBlock (.slice (some ⟨b', 0, none⟩) (n + m) ccap))) → (W2.cell? ⟨p, 325, none⟩ = some (.slice (some ⟨b', 0, none⟩) (n + m) ccap) ∧ W2.frozen? ⟨p, 325, none⟩ = false ∧ p < W2.heap.size) ∧ Hid ((W2.setCell ⟨p, 325, none⟩ (.slice (some ⟨b', 0, none⟩) n ccap)).heap[D]? = some (.deferred (some [])) ∧ ∃ Z', LM ((W2.setCell ⟨p, 325, none⟩ (.slice (some ⟨b', 0, none⟩) n ccap)).putObj D (.deferred none)) B p a b Z' S' ∧ Tr w ((W2.setCell ⟨p, 325, none⟩ (.slice (some ⟨b', 0, none⟩) n ccap)).putObj D (.deferred none)) p a b Z Z' ∧ Z'.mv = Z.mv ∧ Z'.ms = Z.ms ∧ Z'.cs = Z.cs.take (n))) := fun W2 hW2 => by
        have hg2 : W.drew.grownBy W2 Z.cv.ownBlock := by rw [e2]; exact hW2.out.2
        have hf := tk_fin H.out HD.out (n := n) (by omega) hl hfr hW2.out.1 hg2 (by rw [e2] <;> rfl)
        obtain ⟨⟨k1, k2, k3⟩, hf2⟩ := hf
        rw [e2] at k1
        have hD2 : (W2.setCell ⟨p, 325, none⟩ (.slice (some ⟨b', 0, none⟩) n ccap)).heap[D]? = some (.deferred (some [])) := by
          have hDW : D < W.drew.heap.size := (Array.getElem?_eq_some_iff.1 hK).1
          have h1 := hW2.out.2.size
          rw [(grown_set W2 p 325 _).block D (by omega) (fun e => by have := Option.some.inj e; omega), hW2.out.2.block D hDW (fun e => by have := (HROW.out.lt D e.symm).2; omega)]
          exact hK
        exact ⟨⟨k1, k2, k3⟩, hD2, hf2 D _ (by omega) hD2 rfl _⟩
      clear hs I0 C1 hI hK hl hrow hr1 hfr hun
      gi_step
      gi_step
      refine wpIn_mono (Q := fun e a3 w3 => e = Exit.normal ∧ a3.defers = [{ target := .collected D, args := #[] }] ∧ Hid (w3.heap[D]? = some (.deferred (some [])) ∧ ∃ Z', LM (w3.putObj D (.deferred none)) B p a b Z' S' ∧ Tr w (w3.putObj D (.deferred none)) p a b Z Z' ∧ Z'.mv = Z.mv ∧ Z'.ms = Z.ms ∧ Z'.cs = Z.cs.take (n))) (wpIn_wide.2 ?_) ?_
      · go_region_with (go_at_call 59; refine HDEL.out.mono ?_; rintro e w2 ⟨rfl, G⟩; obtain ⟨⟨k1, k2, k3⟩, HE⟩ := HFIN.out w2 G)
        all_goals exact ⟨rfl, rfl, HE⟩
      · rintro e ⟨tm, df⟩ w3 ⟨rfl, h1, HE⟩
        obtain rfl : df = _ := h1
        refine ⟨by simp, .inl ⟨_, _, rfl, run_takeDeferred HE.out.1, ?_⟩⟩
        exact ⟨_, results_none rfl _ _ _, rfl, HE.out.2⟩
    case stop =>
      rintro D c pre W _ _ h _
      exact h.elim
end Go.Proofs.Ytcfenjpdjogmdaa
namespace Go.Proofs.Ytcfenjpdjogmdaa
open Go.RowKit

theorem Tr.trans {w w1 w2 : World} {p a b : Nat} {Z Z1 Z2 : SZ} (h : Tr w w1 p a b Z Z1) (h' : Tr w1 w2 p a b Z1 Z2) : Tr w w2 p a b Z Z2 :=
  ⟨h'.os.trans h.os, h'.tape.trans h.tape, h'.output.trans h.output, Nat.le_trans h.size h'.size,
   fun k hk n1 n2 n3 n4 n5 => (h'.block k (Nat.lt_of_lt_of_le hk h.size) n1 n2 n3 (fun e => by rcases h.mvn k e with e | e; exact n4 e; omega) (fun e => by rcases h.cvn k e with e | e; exact n5 e; omega)).trans (h.block k hk n1 n2 n3 n4 n5),
   h.fl.trans h'.fl,
   fun k e => by
     rcases h'.mvn k e with e | e
     · exact h.mvn k e
     · exact .inr (Nat.le_trans h.size e),
   fun k e => by
     rcases h'.cvn k e with e | e
     · exact h.cvn k e
     · exact .inr (Nat.le_trans h.size e)⟩
set_option maxRecDepth 10000 in
set_option maxHeartbeats 3200000 in
/-- Undo of a mark that is set. -/
theorem undoM {w : World} {B p a b : Nat} {Z : SZ} {S S' : LS} (h : LM w B p a b Z S) (h16 : Z.ms.length ≤ 16) {k n : Nat} (h1 : 1 ≤ k) (hk : k ≤ Z.ms.length) (hn : Z.ms[k - 1]? = some n) (hnc : n ≤ Z.cs.length) (hc : Z.cs.length ≤ 1000000000000) (hA : S.acc.length ≤ 1000000000000) (hH : S.hol.length ≤ 1000000000000) (hS : undoAll (Z.cs.drop n) S.ms = S'.ms) :
    Calls Try.prog 10 #[.pointer (some ⟨p, 0, none⟩), .int .i64 (k : Nat)] w fun e w' => e = .returned (.int .i64 0) ∧ Hid (∃ Z', LM w' B p a b Z' S' ∧ Tr w w' p a b Z Z' ∧ Z'.ms = Z.ms.take (k - 1) ∧ Z'.cs = (if k = 1 then [] else Z.cs.take n)) := by
  obtain ⟨CS, hCS⟩ : ∃ x, (if k = 1 then [] else Z.cs.take n) = x := ⟨_, rfl⟩
  obtain ⟨MS', hMS⟩ : ∃ x, Z.ms.take (k - 1) = x := ⟨_, rfl⟩
  rw [hCS, hMS]
  have HCS := hide hCS
  have HMS := hide hMS
  clear hCS hMS
  have hm := markFaultM h (k : Int)
  rw [if_neg (by omega)] at hm
  have HM := hide hm
  have hT := takeBackM (h.kept (Below.refl _ w).drew) hnc hc hA hH hS
  have HT := hide hT
  have HU : Hid (∀ w1 Z1, LM w1 B p a b Z1 S' → Z1.ms = Z.ms → Calls Try.prog 34 #[.pointer (some ⟨p, 324, none⟩), .int .i64 (k : Nat)] w1 fun e w' => e = .returned (.tuple #[]) ∧ Hid (∃ Z', LM w' B p a b Z' S' ∧ Tr w1 w' p a b Z1 Z' ∧ Z'.ms = Z.ms.take (k - 1) ∧ Z'.cs = (if k = 1 then [] else Z1.cs))) := fun w1 Z1 hl hms => by
    have := unsetM hl (m := k) h1 (by rw [hms]; exact hk) (by rw [hms]; exact h16)
    rw [hms] at this
    exact this
  have HT1 : Hid (∀ w2, Hid (∃ Z', LM w2 B p a b Z' S' ∧ Tr w.drew w2 p a b Z Z' ∧ Z'.mv = Z.mv ∧ Z'.ms = Z.ms ∧ Z'.cs = Z.cs.take n) → Hid (∃ Z', LM w2 B p a b Z' S' ∧ Tr w w2 p a b Z Z' ∧ Z'.ms = Z.ms ∧ Z'.cs = Z.cs.take n)) := fun w2 hh => by
    obtain ⟨Z', g1, g2, _, g4, g5⟩ := hh.out
    exact ⟨Z', g1, (Tr.below (Below.refl _ w).drew).trans g2, g4, g5⟩
  have c4 := h.lg.c.2.2.2.2.1
  have cl := h.lg.lt.1
  obtain ⟨g, cap, cur, e1, hq, hcap, hmx, hcur⟩ : ∃ g cap cur, Z.mv = .slice (some ⟨g, 0, none⟩) Z.ms.length cap ∧ w.heap[g]? = some (.cells cur 3 (0, 0)) ∧ Z.ms.length ≤ cap ∧ cap ≤ maxLen ∧ cur[k - 1]? = some (.int .i64 (n : Nat)) := by
    rcases h.mr.2 with ⟨_, e⟩ | ⟨g, cap, cur, e, _, q2, q3, q4, q5, q6⟩
    · omega
    · refine ⟨g, cap, cur, e, q2, q3, q4, ?_⟩
      have hx : (Z.ms.map (fun m => Value.int .i64 (m : Nat)))[k - 1]? = some (.int .i64 (n : Nat)) := by rw [List.getElem?_map, hn]; rfl
      rw [← q6, List.getElem?_take_of_lt (by omega), Array.getElem?_toList] at hx
      exact hx
  rw [e1] at c4
  have x0 := (block_cell hq (k - 1)).trans hcur
  have gl := block_lt hq
  obtain ⟨j, hj⟩ : ∃ j, k - 1 = j := ⟨_, rfl⟩
  obtain ⟨L, hL⟩ : ∃ L, Z.ms.length = L := ⟨_, rfl⟩
  have hwm : IntKind.i64.wrap ((k : Int) - 1) = (j : Int) := by rw [IntWalk.i64_in _ ⟨by omega, by omega⟩]; omega
  have hjL : j < L := by omega
  rw [hj] at x0
  rw [hL] at c4 h16
  have HJ := hide hj
  clear h hn hnc hc hA hH hS hm hT hq hcap hmx hcur e1 hj hL hk h1
  go_enter Try.func10, Try.ntmps10
  go_wp2_with fail
  refine HM.out.mono ?_
  rintro e w1 ⟨rfl, rfl⟩
  clear HM
  go_upto_region 4 with fail
  go_cut [] from 12 (fun V => Hid (∃ Z', LM V B p a b Z' S' ∧ Tr w1 V p a b Z Z' ∧ Z'.ms = Z.ms ∧ Z'.cs = Z.cs.take n))
  case first =>
    go_region_with (go_at_call 33; refine HT.out.mono ?_; rintro e w2 ⟨rfl, G⟩; have G2 := HT1.out w2 G)
    all_goals go_wp2
    all_goals go_meet
    case rel => exact G2
  case rest =>
  obtain ⟨Z1, q1, q2, q3, q4⟩ := hcut.out
  have clc := q1.lg.lt.1
  have HUW := hide (HU.out wc Z1 q1 q3)
  have HFIN : Hid (∀ w3, Hid (∃ Z', LM w3 B p a b Z' S' ∧ Tr wc w3 p a b Z1 Z' ∧ Z'.ms = Z.ms.take (k - 1) ∧ Z'.cs = (if k = 1 then [] else Z1.cs)) → Hid (∃ Z', LM w3 B p a b Z' S' ∧ Tr w1 w3 p a b Z Z' ∧ Z'.ms = MS' ∧ Z'.cs = CS)) := fun w3 hh => by
    obtain ⟨Z', g1, g2, g3, g4⟩ := hh.out
    rw [q4] at g4
    exact ⟨Z', g1, q2.trans g2, g3.trans HMS.out, g4.trans HCS.out⟩
  clear hcut HU q1 q2 q3 q4 HT HT1
  go_wp2_with fail
  refine HUW.out.mono ?_
  rintro e w3 ⟨rfl, G⟩
  have HE := HFIN.out w3 G
  go_wp2
  go_ret
  exact ⟨rfl, HE⟩
end Go.Proofs.Ytcfenjpdjogmdaa
namespace Go.Proofs.Ytcfenjpdjogmdaa
open Go.RowKit

set_option maxRecDepth 10000 in
set_option maxHeartbeats 1600000 in
/-- Undo of a mark that is none. -/
theorem undoNo {w : World} {B p a b : Nat} {Z : SZ} {S : LS} (h : LM w B p a b Z S) {m : Int} (hbad : m < 1 ∨ (Z.ms.length : Int) < m) :
    Calls Try.prog 10 #[.pointer (some ⟨p, 0, none⟩), .int .i64 m] w fun e w' => e = .returned (.int .i64 50) ∧ w' = w := by
  have hm := markFaultM h m
  rw [if_pos hbad] at hm
  have HM := hide hm
  clear h hbad hm
  go_enter Try.func10, Try.ntmps10
  go_wp2_with fail
  refine HM.out.mono ?_
  rintro e w1 ⟨rfl, rfl⟩
  go_wp2
  go_ret
  exact ⟨rfl, rfl⟩
/-- What a ledger with marks has behind it: for each mark what it was when that was set. -/
structure Sv (Z : SZ) (S : LS) (Q : List LS) : Prop where
  len : Q.length = Z.ms.length
  m16 : Z.ms.length ≤ 16
  at_ : ∀ (i n : Nat) (s : LS), Z.ms[i]? = some n → Q[i]? = some s → n ≤ Z.cs.length ∧ undoAll (Z.cs.drop n) S.ms = s.ms
  mono : ∀ (i j n m : Nat), i ≤ j → Z.ms[i]? = some n → Z.ms[j]? = some m → n ≤ m
theorem Sv.none (mv cv : Value) (cs : List Bk) (S : LS) : Sv ⟨mv, cv, [], cs⟩ S [] := ⟨rfl, by simp, fun i n s h => by simp at h, fun i j n m _ h => by simp at h⟩
section
variable {Z Z' : SZ} {S S' : LS} {Q : List LS}
/-- A step that is noted. -/
theorem Sv.step (h : Sv Z S Q) {ds : List Bk} (hm : Z'.ms = Z.ms) (hc : Z'.cs = (if Z.ms = [] then Z.cs else Z.cs ++ ds)) (hu : undoAll ds S'.ms = S.ms) : Sv Z' S' Q := by
  refine ⟨by rw [hm]; exact h.len, by rw [hm]; exact h.m16, fun i n s h1 h2 => ?_, fun i j n m hij h1 h2 => h.mono i j n m hij (by rw [← hm]; exact h1) (by rw [← hm]; exact h2)⟩
  rw [hm] at h1
  have hne : Z.ms ≠ [] := fun e => by rw [e] at h1; simp at h1
  rw [if_neg hne] at hc
  obtain ⟨g1, g2⟩ := h.at_ i n s h1 h2
  rw [hc]
  refine ⟨by rw [List.length_append]; omega, ?_⟩
  rw [List.drop_append_of_le_length g1, undoAll_app, hu]
  exact g2
/-- A mark is set. -/
theorem Sv.mark (h : Sv Z S Q) (hl : Z.ms.length < 16) (hm : Z'.ms = Z.ms ++ [Z.cs.length]) (hc : Z'.cs = Z.cs) : Sv Z' S (Q ++ [S]) := by
  have hln := h.len
  have key : ∀ (i n : Nat), (Z.ms ++ [Z.cs.length])[i]? = some n → (i < Z.ms.length ∧ Z.ms[i]? = some n) ∨ (i = Z.ms.length ∧ n = Z.cs.length) := fun i n h1 => by
    by_cases hi : i < Z.ms.length
    · rw [List.getElem?_append_left hi] at h1
      exact .inl ⟨hi, h1⟩
    · rw [List.getElem?_append_right (by omega)] at h1
      have : i - Z.ms.length = 0 := by
        have := (List.getElem?_eq_some_iff.1 h1).1
        simp at this
        omega
      rw [this] at h1
      simp at h1
      exact .inr ⟨by omega, h1.symm⟩
  have hle : ∀ (i n : Nat), Z.ms[i]? = some n → n ≤ Z.cs.length := fun i n h1 => by
    obtain ⟨hi, _⟩ := List.getElem?_eq_some_iff.1 h1
    exact (h.at_ i n _ h1 (List.getElem?_eq_getElem (by omega))).1
  refine ⟨by rw [hm, List.length_append, List.length_append, hln]; rfl, by rw [hm, List.length_append]; simp; omega, fun i n s h1 h2 => ?_, fun i j n m hij h1 h2 => ?_⟩
  · rw [hm] at h1
    rw [hc]
    rcases key i n h1 with ⟨hi, h1⟩ | ⟨rfl, rfl⟩
    · rw [List.getElem?_append_left (by omega)] at h2
      exact h.at_ i n s h1 h2
    · rw [List.getElem?_append_right (by omega), ← hln] at h2
      simp at h2
      subst h2
      exact ⟨Nat.le_refl _, by rw [List.drop_length]; rfl⟩
  · rw [hm] at h1 h2
    rcases key i n h1 with ⟨hi, h1⟩ | ⟨rfl, rfl⟩ <;> rcases key j m h2 with ⟨hj, h2⟩ | ⟨rfl, rfl⟩
    · exact h.mono i j n m hij h1 h2
    · exact hle i n h1
    · omega
    · exact Nat.le_refl _
/-- A mark is let go of. -/
theorem Sv.keep (h : Sv Z S Q) {k : Nat} (hm : Z'.ms = Z.ms.take (k - 1)) (hc : Z'.cs = (if k = 1 then [] else Z.cs)) : Sv Z' S (Q.take (k - 1)) := by
  have hln := h.len
  have hmx := h.m16
  refine ⟨by rw [hm, List.length_take, List.length_take, hln], by rw [hm, List.length_take]; omega, fun i n s h1 h2 => ?_, fun i j n m hij h1 h2 => ?_⟩
  · rw [hm, List.getElem?_take] at h1
    rw [List.getElem?_take] at h2
    split at h1
    · rename_i hi
      rw [if_pos hi] at h2
      rw [hc, if_neg (by omega)]
      exact h.at_ i n s h1 h2
    · cases h1
  · rw [hm, List.getElem?_take] at h1 h2
    split at h1
    · split at h2
      · exact h.mono i j n m hij h1 h2
      · cases h2
    · cases h1
/-- A mark is taken back. -/
theorem Sv.undo (h : Sv Z S Q) {k n : Nat} (hn : Z.ms[k - 1]? = some n) {s : LS} (hq : Q[k - 1]? = some s) (hm : Z'.ms = Z.ms.take (k - 1)) (hc : Z'.cs = (if k = 1 then [] else Z.cs.take n)) : Sv Z' s (Q.take (k - 1)) := by
  have hln := h.len
  have hmx := h.m16
  obtain ⟨g1, g2⟩ := h.at_ _ _ _ hn hq
  refine ⟨by rw [hm, List.length_take, List.length_take, hln], by rw [hm, List.length_take]; omega, fun i n' s' h1 h2 => ?_, fun i j n m hij h1 h2 => ?_⟩
  · rw [hm, List.getElem?_take] at h1
    rw [List.getElem?_take] at h2
    split at h1
    · rename_i hi
      rw [if_pos hi] at h2
      rw [hc, if_neg (by omega)]
      have hle := h.mono i (k - 1) n' n (by omega) h1 hn
      obtain ⟨g3, g4⟩ := h.at_ i n' s' h1 h2
      refine ⟨by rw [List.length_take]; omega, ?_⟩
      rw [← g2, ← undoAll_app, ← g4]
      congr 1
      have e : Z.cs = Z.cs.take n ++ Z.cs.drop n := (List.take_append_drop n Z.cs).symm
      conv => rhs; rw [e]
      rw [List.drop_append_of_le_length (by rw [List.length_take]; omega)]
    · cases h1
  · rw [hm, List.getElem?_take] at h1 h2
    split at h1
    · split at h2
      · exact h.mono i j _ m hij h1 h2
      · cases h2
    · cases h1
end
end Go.Proofs.Ytcfenjpdjogmdaa
