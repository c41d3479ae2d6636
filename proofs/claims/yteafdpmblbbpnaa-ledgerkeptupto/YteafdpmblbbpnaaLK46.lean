import Derived.Test.YteafdpmblbbpnaaLK45
namespace Go.Proofs.Yteafdpmblbbpnaa
open Go.RowKit

theorem step_append_ownA {P : Program} {ops : Array Oper} {o : Oper} {a : Act} {w : World} {K : Act → World → Prop} {Q : Exit → Act → World → Prop} {E : Prop}
    (hgd : o.guard = none) (s x : Operand) (t : TypeId) (ho : o.op = .call { callee := .builtin .append, args := #[s, x], argTypes := #[t, t] })
    (base : Nat) (e : TypeId) (i : TypeInfo) (z : Value) (size bytes : Nat) (ht : P.underlying t = some (.slice e)) (hi : P.info? e = some i) (hz : i.zero = some z)
    (hsize : i.size = size) (hby : i.bytes = bytes) (hzs : z.cells.size = size) (hsz : 0 < size)
    (v : Value) (n : Nat) (xs : List Value) (hs : a.eval s = v) (hown : w.ownsRow base e size v n xs)
    (ad : Addr) (m c : Nat) (news : List Value) (hx : a.eval x = .slice (some ad) m c) (hl : news.length = m * size) (hnews : ∀ j u, news[j]? = some u → w.cell? (ad.add j) = some u) (h1 : ∀ u ∈ news, u.oneCell' = true)
    (h63 : n + m ≤ maxLen) (hbytes : (n + m) * bytes ≤ 140737488355328) (hbase : base ≤ w.heap.size)
    (h : ∀ v' w', w'.ownsRow base e size v' (n + m) (xs ++ news) → w.grownBy w' v.ownBlock → (v'.ownBlock = v.ownBlock ∨ v'.ownBlock = some w.heap.size) → K (a.put o.dst v') w') :
    if Region.wanted o (yielded ops a.tmps) = true then Oper.wp P o a w K Q else E := by
  have hw : Region.wanted o (yielded ops a.tmps) = true := by simp [Region.wanted, hgd]
  rw [if_pos hw]
  obtain ⟨v', w', hr, h2, h3, _, h5⟩ := run_append_own_at (P := P) w base t o.type e i z size bytes ht hi hz hsize hby hzs hsz v n xs hown ad m c news hl hnews h1 h63 hbytes hbase
  unfold Oper.wp execOp
  simp only [ho, resolve, invoke, builtin, Sem.run_bind, Sem.run_pure, Result.andThen_ok, List.map_toArray, List.map_cons, List.map_nil, hs, hx, hr]
  exact h v' w' h2 h3 h5
/-- One mark more. -/
theorem LM.marked {W W0 W4 : World} {B p a b : Nat} {Z : SZ} {S : LS} (h : LM W B p a b Z S) {v' : Value} (h0 : Below W.heap.size W W0) (ho : W4.ownsRow B 3 1 v' (Z.ms.length + 1) (Z.ms.map (fun m => .int .i64 (m : Nat)) ++ [.int .i64 (Z.cs.length : Nat)])) (hg : W0.grownBy W4 Z.mv.ownBlock) (hat : v'.ownBlock = Z.mv.ownBlock ∨ v'.ownBlock = some W0.heap.size) :
    (∃ Z', LM (W4.setCell ⟨p, 324, none⟩ v') B p a b Z' S ∧ Tr W (W4.setCell ⟨p, 324, none⟩ v') p a b Z Z' ∧ Z'.ms = Z.ms ++ [Z.cs.length] ∧ Z'.cs = Z.cs) ∧ W4.cell? ⟨p, 324, none⟩ = some Z.mv ∧ W4.frozen? ⟨p, 324, none⟩ = false ∧ p < W4.heap.size := by
  have hk := h.kept h0
  obtain ⟨hr1, hr2⟩ := hk.rows
  have f1 : Fl W W0 := Fl.below h0
  have f2 : Fl W0 W4 := Fl.grown hg (fun q e cs t hq => by
    rcases hk.mr.2 with ⟨e1, _⟩ | ⟨g, cp, cur, e1, _, hgq, _⟩
    · rw [e1] at e; cases e
    · rw [e1] at e
      cases e
      rw [hgq] at hq
      cases hq
      exact .inr (.inl rfl))
  have l4 : LG W4 p a b Z.mv Z.cv S := hk.lg.other hg (fun e => (hr1 p (.inl rfl)).1 e.symm) (fun e => (hr1 a (.inr (.inl rfl))).1 e.symm) (fun e => (hr1 b (.inr (.inr rfl))).1 e.symm)
  obtain ⟨cs4, q4, _⟩ := l4.blk
  have gs := grown_set W4 p 324 v'
  have f3 : Fl W4 (W4.setCell ⟨p, 324, none⟩ v') := Fl.bel gs q4 (.inl rfl)
  have ff := f1.trans (f2.trans f3)
  obtain ⟨xs, hc, hd⟩ := hk.cr
  have c4 : W4.ownsRow B 117 1 Z.cv Z.cs.length xs := hc.kept hg hr2
  refine ⟨⟨{ Z with mv := v', ms := Z.ms ++ [Z.cs.length] }, ⟨l4.setMk v', ?_, ⟨xs, c4.kept gs (.inr (rowT_ne c4 q4 (by decide))), fun i d u hi hu => (hd i d u hi hu).fl (f2.trans f3)⟩, h.lo⟩, ⟨gs.os.trans (hg.os.trans h0.os), gs.tape.trans (hg.tape.trans h0.tape), gs.output.trans (hg.output.trans h0.output), Nat.le_trans h0.size (Nat.le_trans hg.size gs.size), fun k hk1 n1 n2 n3 n4 n5 => ?_, ff, fun k hk1 => ?_, fun k hk1 => .inl hk1⟩, rfl, rfl⟩, l4.c.2.2.2.2.1, l4.free 324, l4.lt.1⟩
  · show (W4.setCell ⟨p, 324, none⟩ v').ownsRow B _ 1 v' (Z.ms ++ [Z.cs.length]).length ((Z.ms ++ [Z.cs.length]).map _)
    rw [List.length_append, List.map_append]
    exact ho.kept gs (.inr (rowT_ne ho q4 (by decide)))
  · exact ((gs.block k (by have := h0.size; have := hg.size; omega) (fun e => n1 (Option.some.inj e))).trans (hg.block k (by have := h0.size; omega) (fun e => n4 e.symm))).trans (h0.block k hk1)
  · have hk' : v'.ownBlock = some k := hk1
    rcases hat with e | e
    · exact .inl (by rw [← e]; exact hk')
    · rw [hk'] at e
      have := Option.some.inj e
      have := h0.size
      exact .inr (by omega)
set_option maxRecDepth 10000 in
set_option maxHeartbeats 1600000 in
/-- markFault. -/
theorem markFaultM {w : World} {B p a b : Nat} {Z : SZ} {S : LS} (h : LM w B p a b Z S) (m : Int) :
    Calls Try.prog 32 #[.pointer (some ⟨p, 0, none⟩), .int .i64 m] w fun e w' => e = .returned (.int .i64 (if m < 1 ∨ (Z.ms.length : Int) < m then 50 else 0)) ∧ w' = w := by
  have c4 := h.lg.c.2.2.2.2.1
  have cl := h.lg.lt.1
  obtain ⟨mao, mcap, cao, ccap, e1, e2⟩ := h.cells
  rw [e1] at c4
  have HM := hide (madeG h.lg)
  obtain ⟨r, hr⟩ : ∃ r : Int, (if m < 1 ∨ (Z.ms.length : Int) < m then (50 : Int) else 0) = r := ⟨_, rfl⟩
  rw [hr]
  have HR := hide hr
  clear h e1 e2 hr
  generalize Z.ms.length = L at *
  go_enter Try.func32, Try.ntmps32
  go_wp2_with fail
  refine HM.out.mono ?_
  rintro e w1 ⟨rfl, rfl⟩
  clear HM
  by_cases h1 : m < 1
  · have HE : Hid (r = 50) := by rw [← HR.out, if_pos (.inl h1)]; exact hide rfl
    have d1 : decide (m < 1) = true := decide_eq_true h1
    clear HR
    go_wp2
    go_ret
    exact ⟨by rw [HE.out]; rfl, rfl⟩
  have d1 : decide (m < 1) = false := decide_eq_false h1
  by_cases h2 : (L : Int) < m
  · have HE : Hid (r = 50) := by rw [← HR.out, if_pos (.inr h2)]; exact hide rfl
    have d2 : decide (m > (L : Int)) = true := decide_eq_true h2
    clear HR
    go_wp2
    go_ret
    exact ⟨by rw [HE.out]; rfl, rfl⟩
  · have HE : Hid (r = 0) := by rw [← HR.out, if_neg (by omega)]; exact hide rfl
    have d2 : decide (m > (L : Int)) = false := decide_eq_false h2
    clear HR
    go_wp2
    go_ret
    exact ⟨by rw [HE.out]; rfl, rfl⟩
/-- What Keep leaves. -/
def KeepP (w w' : World) (B p a b : Nat) (Z : SZ) (S : LS) (m c : Int) : Prop :=
  (c = 50 ∧ (m < 1 ∨ (Z.ms.length : Int) < m) ∧ w' = w) ∨ (c = 0 ∧ ∃ k : Nat, m = (k : Int) ∧ 1 ≤ k ∧ k ≤ Z.ms.length ∧ ∃ Z', LM w' B p a b Z' S ∧ Tr w w' p a b Z Z' ∧ Z'.ms = Z.ms.take (k - 1) ∧ Z'.cs = (if k = 1 then [] else Z.cs))
set_option maxRecDepth 10000 in
set_option maxHeartbeats 1600000 in
/-- Keep. -/
theorem keepM {w : World} {B p a b : Nat} {Z : SZ} {S : LS} (h : LM w B p a b Z S) (h16 : Z.ms.length ≤ 16) (m : Int) :
    Calls Try.prog 12 #[.pointer (some ⟨p, 0, none⟩), .int .i64 m] w fun e w' => ∃ c : Int, e = .returned (.int .i64 c) ∧ Hid (KeepP w w' B p a b Z S m c) := by
  have cl := h.lg.lt.1
  have HF := hide (markFaultM h m)
  by_cases hbad : m < 1 ∨ (Z.ms.length : Int) < m
  · rw [if_pos hbad] at HF
    have HE : Hid (KeepP w w B p a b Z S m 50) := .inl ⟨rfl, hbad, rfl⟩
    clear h hbad
    go_enter Try.func12, Try.ntmps12
    go_wp2_with fail
    refine HF.out.mono ?_
    rintro e w1 ⟨rfl, rfl⟩
    go_wp2
    go_ret
    exact ⟨50, rfl, HE.out⟩
  · rw [if_neg hbad] at HF
    obtain ⟨k, hk⟩ : ∃ k : Nat, m = (k : Int) := Int.eq_ofNat_of_zero_le (by omega)
    subst hk
    have HU := hide (unsetM h (m := k) (by omega) (by omega) h16)
    have HB : Hid (1 ≤ k ∧ k ≤ Z.ms.length) := hide (by omega)
    clear h hbad
    go_enter Try.func12, Try.ntmps12
    go_wp2_with fail
    refine HF.out.mono ?_
    rintro e w1 ⟨rfl, rfl⟩
    clear HF
    go_wp2_with fail
    refine HU.out.mono ?_
    rintro e w2 ⟨rfl, G⟩
    have HE : Hid (KeepP w1 w2 B p a b Z S (k : Int) 0) := .inr ⟨rfl, k, rfl, HB.out.1, HB.out.2, G.out⟩
    clear HU G HB
    go_wp2
    go_ret
    exact ⟨0, rfl, HE.out⟩
/-- What Mark leaves. -/
def MarkP (w w' : World) (B p a b : Nat) (Z : SZ) (S : LS) (n c : Int) : Prop :=
  (n = 0 ∧ c = 50 ∧ Z.ms.length = 16 ∧ w' = w) ∨ (n = (Z.ms.length : Int) + 1 ∧ c = 0 ∧ Z.ms.length < 16 ∧ ∃ Z', LM w' B p a b Z' S ∧ Tr w w' p a b Z Z' ∧ Z'.ms = Z.ms ++ [Z.cs.length] ∧ Z'.cs = Z.cs)
set_option maxRecDepth 10000 in
set_option maxHeartbeats 3200000 in
/-- Mark. -/
theorem markM {w : World} {B p a b : Nat} {Z : SZ} {S : LS} (h : LM w B p a b Z S) (h16 : Z.ms.length ≤ 16) :
    Calls Try.prog 11 #[.pointer (some ⟨p, 0, none⟩)] w fun e w' => ∃ n c : Int, e = .returned (.tuple #[.int .i64 n, .int .i64 c]) ∧ Hid (MarkP w w' B p a b Z S n c) := by
  obtain ⟨i0, hi, hz0, hz1, hz2⟩ := info_parts infoInt1
  have c4 := h.lg.c.2.2.2.2.1
  have c5 := h.lg.c.2.2.2.2.2
  have cl := h.lg.lt.1
  obtain ⟨mao, mcap, cao, ccap, e1, e2⟩ := h.cells
  rw [e1] at c4
  rw [e2] at c5
  have HM := hide (madeG h.lg)
  have HKP : Hid (∀ W0 (v' : Value) (w4 : World), Below w.heap.size w W0 → w4.ownsRow B 3 1 v' (Z.ms.length + 1) (Z.ms.map (fun m => .int .i64 (m : Nat)) ++ [.int .i64 (Z.cs.length : Nat)]) → W0.grownBy w4 (Value.slice mao Z.ms.length mcap).ownBlock → (v'.ownBlock = (Value.slice mao Z.ms.length mcap).ownBlock ∨ v'.ownBlock = some W0.heap.size) → Hid (∃ Z', LM (w4.setCell ⟨p, 324, none⟩ v') B p a b Z' S ∧ Tr w (w4.setCell ⟨p, 324, none⟩ v') p a b Z Z' ∧ Z'.ms = Z.ms ++ [Z.cs.length] ∧ Z'.cs = Z.cs) ∧ w4.cell? ⟨p, 324, none⟩ = some (.slice mao Z.ms.length mcap) ∧ w4.frozen? ⟨p, 324, none⟩ = false ∧ p < w4.heap.size) := fun W0 v' w4 h0 ho hg hat => by
    rw [← e1] at hg hat ⊢
    exact h.marked h0 ho hg hat
  have HOW : Hid (∀ W0, Below w.heap.size w W0 → W0.ownsRow B 3 1 (.slice mao Z.ms.length mcap) Z.ms.length (Z.ms.map (fun m => .int .i64 (m : Nat)))) := fun W0 h0 => by rw [← e1]; exact (h.kept h0).mr
  have HBS : Hid (B ≤ w.heap.size) := by have := h.lo.1; exact hide (by omega)
  by_cases hL : Z.ms.length = 16
  · have HE : Hid (MarkP w w B p a b Z S 0 50) := .inl ⟨rfl, rfl, hL, rfl⟩
    rw [hL] at c4
    clear h HKP HOW e1 e2 c5 hi hz0 hz1 hz2 hL h16
    go_enter Try.func11, Try.ntmps11
    go_wp2_with fail
    refine HM.out.mono ?_
    rintro e w1 ⟨rfl, rfl⟩
    go_wp2
    go_ret2
    exact ⟨0, 50, rfl, HE.out⟩
  have HLT : Hid (Z.ms.length < 16) := hide (by omega)
  have hlt : Z.ms.length < 16 := HLT.out
  have g0 : ((Z.ms.length : Int) == 16) = false := by simp; omega
  have HFIN : Hid (∀ w', Hid (∃ Z', LM w' B p a b Z' S ∧ Tr w w' p a b Z Z' ∧ Z'.ms = Z.ms ++ [Z.cs.length] ∧ Z'.cs = Z.cs) → Hid (MarkP w w' B p a b Z S ((Z.ms.length : Int) + 1) 0)) := fun w' hw => .inr ⟨rfl, rfl, HLT.out, hw.out⟩
  clear h e1 e2 hL h16
  generalize Z.cs.length = CL at *
  go_enter Try.func11, Try.ntmps11
  go_wp2_with fail
  refine HM.out.mono ?_
  rintro e w1 ⟨rfl, rfl⟩
  clear HM
  go_upto_region 6 with fail
  go_region_law (first
    | (refine step_append_ownA rfl (.tmp 21) (.tmp 27) 66 rfl B 3 i0 _ 1 8 Try.underlying66 hi hz0 hz1 hz2 rfl (by decide) (.slice mao Z.ms.length mcap) Z.ms.length (Z.ms.map (fun m => .int .i64 (m : Nat))) (by simp [Act.eval]) (HOW.out _ (((Below.refl _ w1).alloc (Nat.le_refl _) _).drew)) ⟨w1.heap.size, 0, none⟩ 1 1 [.int .i64 (CL : Nat)] (by simp [Act.eval]) rfl (cells_newD _ _ _) (by simp [Value.oneCell']) (by unfold maxLen; omega) (by omega) (Nat.le_trans HBS.out (by simp)) ?_; intro v' w4 ho hg hat; obtain ⟨vo4, vc4, rfl⟩ := own_form2 ho; obtain ⟨HE, m4, mf, ml⟩ := HKP.out _ _ _ (((Below.refl _ w1).alloc (Nat.le_refl _) _).drew) ho hg hat; have HE2 := hide (HFIN.out _ HE); clear ho hg hat HE))
  all_goals go_wp2
  all_goals go_ret2
  all_goals exact ⟨_, _, rfl, HE2⟩
end Go.Proofs.Yteafdpmblbbpnaa
