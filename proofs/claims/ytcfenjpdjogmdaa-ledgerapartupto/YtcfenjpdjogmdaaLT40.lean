import Derived.Test.YtcfenjpdjogmdaaLT36
namespace Go.Proofs.Ytcfenjpdjogmdaa
open Go.RowKit

theorem step_append_ownA {P : Program} {ops : Array Oper} {o : Oper} {a : Act} {w : World} {K : Act → World → Prop} {Q : Exit → Act → World → Prop} {E : Prop}
    (hgd : o.guard = none) (s x : Operand) (t : TypeId) (ho : o.op = .call { callee := .builtin .append, args := #[s, x], argTypes := #[t, t] })
    (base : Nat) (e : TypeId) (i : TypeInfo) (z : Value) (size bytes : Nat) (ht : P.underlying t = some (.slice e)) (hi : P.info? e = some i) (hz : i.zero = some z)
    (hsize : i.size = size) (hby : i.bytes = bytes) (hzs : z.cells.size = size) (hsz : 0 < size)
    (v : Value) (n : Nat) (xs : List Value) (hs : a.eval s = v) (hown : w.ownsRow base e size v n xs)
    (ad : Addr) (m c : Nat) (news : List Value) (hx : a.eval x = .slice (some ad) m c) (hl : news.length = m * size) (hnews : ∀ j u, news[j]? = some u → w.cell? (ad.add j) = some u) (h1 : ∀ u ∈ news, u.oneCell' = true)
    (h63 : n + m ≤ maxLen) (hbytes : (n + m) * bytes ≤ 140737488355328) (hbase : base ≤ w.heap.size)
    (h : ∀ v' w', w'.ownsRow base e size v' (n + m) (xs ++ news) → w.grownBy w' v.ownBlock → (v'.ownBlock = v.ownBlock ∨ v'.ownBlock = some w.heap.size) → K (a.put o.dst v') w') :
    if Region.wanted o (yielded ops a.tmps) = true then Oper.wp P o a w K Q else E := by
  have hw : Region.wanted o (yielded ops a.tmps) = true := by simp [Region.wanted, hgd]
  rw [if_pos hw]
  obtain ⟨v', w', hr, h2, h3, _, h5⟩ := run_append_own_at (P := P) w base t o.type e i z size bytes ht hi hz hsize hby hzs hsz v n xs hown ad m c news hl hnews h1 h63 hbytes hbase
  unfold Oper.wp execOp
  simp only [ho, resolve, invoke, builtin, Sem.run_bind, Sem.run_pure, Result.andThen_ok, List.map_toArray, List.map_cons, List.map_nil, hs, hx, hr]
  exact h v' w' h2 h3 h5
/-- One mark more. -/
theorem LM.marked {W W0 W4 : World} {B p a b : Nat} {Z : SZ} {S : LS} (h : LM W B p a b Z S) {v' : Value} (h0 : Below W.heap.size W W0) (ho : W4.ownsRow B 3 1 v' (Z.ms.length + 1) (Z.ms.map (fun m => .int .i64 (m : Nat)) ++ [.int .i64 (Z.cs.length : Nat)])) (hg : W0.grownBy W4 Z.mv.ownBlock) (hat : v'.ownBlock = Z.mv.ownBlock ∨ v'.ownBlock = some W0.heap.size) :
    (∃ Z', LM (W4.setCell ⟨p, 324, none⟩ v') B p a b Z' S ∧ Tr W (W4.setCell ⟨p, 324, none⟩ v') p a b Z Z' ∧ Z'.ms = Z.ms ++ [Z.cs.length] ∧ Z'.cs = Z.cs) ∧ W4.cell? ⟨p, 324, none⟩ = some Z.mv ∧ W4.frozen? ⟨p, 324, none⟩ = false ∧ p < W4.heap.size := by
  have hk := h.kept h0
  obtain ⟨hr1, hr2⟩ := hk.rows
  have f1 : Fl W W0 := Fl.below h0
  have f2 : Fl W0 W4 := Fl.grown hg (fun q e cs t hq => by
    rcases hk.mr.2 with ⟨e1, _⟩ | ⟨g, cp, cur, e1, _, hgq, _⟩
    · rw [e1] at e; cases e
    · rw [e1] at e
      cases e
      rw [hgq] at hq
      cases hq
      exact .inr (.inl rfl))
  have l4 : LG W4 p a b Z.mv Z.cv S := hk.lg.other hg (fun e => (hr1 p (.inl rfl)).1 e.symm) (fun e => (hr1 a (.inr (.inl rfl))).1 e.symm) (fun e => (hr1 b (.inr (.inr rfl))).1 e.symm)
  obtain ⟨cs4, q4, _⟩ := l4.blk
  have gs := grown_set W4 p 324 v'
  have f3 : Fl W4 (W4.setCell ⟨p, 324, none⟩ v') := Fl.bel gs q4 (.inl rfl)
  have ff := f1.trans (f2.trans f3)
  obtain ⟨xs, hc, hd⟩ := hk.cr
  have c4 : W4.ownsRow B 122 1 Z.cv Z.cs.length xs := hc.kept hg hr2
  refine ⟨⟨{ Z with mv := v', ms := Z.ms ++ [Z.cs.length] }, ⟨l4.setMk v', ?_, ⟨xs, c4.kept gs (.inr (rowT_ne c4 q4 (by decide))), fun i d u hi hu => (hd i d u hi hu).fl (f2.trans f3)⟩, h.lo⟩, ⟨gs.os.trans (hg.os.trans h0.os), gs.tape.trans (hg.tape.trans h0.tape), gs.output.trans (hg.output.trans h0.output), Nat.le_trans h0.size (Nat.le_trans hg.size gs.size), fun k hk1 n1 n2 n3 n4 n5 => ?_, ff, fun k hk1 => ?_, fun k hk1 => .inl hk1⟩, rfl, rfl⟩, l4.c.2.2.2.2.1, l4.free 324, l4.lt.1⟩
  · show (W4.setCell ⟨p, 324, none⟩ v').ownsRow B _ 1 v' (Z.ms ++ [Z.cs.length]).length ((Z.ms ++ [Z.cs.length]).map _)
    rw [List.length_append, List.map_append]
    exact ho.kept gs (.inr (rowT_ne ho q4 (by decide)))
  · exact ((gs.block k (by have := h0.size; have := hg.size; omega) (fun e => n1 (Option.some.inj e))).trans (hg.block k (by have := h0.size; omega) (fun e => n4 e.symm))).trans (h0.block k hk1)
  · have hk' : v'.ownBlock = some k := hk1
    rcases hat with e | e
    · exact .inl (by rw [← e]; exact hk')
    · rw [hk'] at e
      have := Option.some.inj e
      have := h0.size
      exact .inr (by omega)
set_option maxRecDepth 10000 in
set_option maxHeartbeats 1600000 in
/-- markFault. -/
theorem markFaultM {w : World} {B p a b : Nat} {Z : SZ} {S : LS} (h : LM w B p a b Z S) (m : Int) :
    Calls Try.prog 32 #[.pointer (some ⟨p, 0, none⟩), .int .i64 m] w fun e w' => e = .returned (.int .i64 (if m < 1 ∨ (Z.ms.length : Int) < m then 50 else 0)) ∧ w' = w := by
  have c4 := h.lg.c.2.2.2.2.1
  have cl := h.lg.lt.1
  obtain ⟨mao, mcap, cao, ccap, e1, e2⟩ := h.cells
  rw [e1] at c4
  have HM := hide (madeG h.lg)
  obtain ⟨r, hr⟩ : ∃ r : Int, (if m < 1 ∨ (Z.ms.length : Int) < m then (50 : Int) else 0) = r := ⟨_, rfl⟩
  rw [hr]
  have HR := hide hr
  clear h e1 e2 hr
  generalize Z.ms.length = L at *
  go_enter Try.func32, Try.ntmps32
  go_wp2_with fail
  refine HM.out.mono ?_
  rintro e w1 ⟨rfl, rfl⟩
  clear HM
  by_cases h1 : m < 1
  · have HE : Hid (r = 50) := by rw [← HR.out, if_pos (.inl h1)]; exact hide rfl
    have d1 : decide (m < 1) = true := decide_eq_true h1
    clear HR
    go_wp2
    go_ret
    exact ⟨by rw [HE.out]; rfl, rfl⟩
  have d1 : decide (m < 1) = false := decide_eq_false h1
  by_cases h2 : (L : Int) < m
  · have HE : Hid (r = 50) := by rw [← HR.out, if_pos (.inr h2)]; exact hide rfl
    have d2 : decide (m > (L : Int)) = true := decide_eq_true h2
    clear HR
    go_wp2
    go_ret
    exact ⟨by rw [HE.out]; rfl, rfl⟩
  · have HE : Hid (r = 0) := by rw [← HR.out, if_neg (by omega)]; exact hide rfl
    have d2 : decide (m > (L : Int)) = false := decide_eq_false h2
    clear HR
    go_wp2
    go_ret
    exact ⟨by rw [HE.out]; rfl, rfl⟩
/-- What Keep leaves. -/
def KeepP (w w' : World) (B p a b : Nat) (Z : SZ) (S : LS) (m c : Int) : Prop :=
  (c = 50 ∧ (m < 1 ∨ (Z.ms.length : Int) < m) ∧ w' = w) ∨ (c = 0 ∧ ∃ k : Nat, m = (k : Int) ∧ 1 ≤ k ∧ k ≤ Z.ms.length ∧ ∃ Z', LM w' B p a b Z' S ∧ Tr w w' p a b Z Z' ∧ Z'.ms = Z.ms.take (k - 1) ∧ Z'.cs = (if k = 1 then [] else Z.cs))
set_option maxRecDepth 10000 in
set_option maxHeartbeats 1600000 in
/-- Keep. -/
theorem keepM {w : World} {B p a b : Nat} {Z : SZ} {S : LS} (h : LM w B p a b Z S) (h16 : Z.ms.length ≤ 16) (m : Int) :
    Calls Try.prog 27 #[.pointer (some ⟨p, 0, none⟩), .int .i64 m] w fun e w' => ∃ c : Int, e = .returned (.int .i64 c) ∧ Hid (KeepP w w' B p a b Z S m c) := by
  have cl := h.lg.lt.1
  have HF := hide (markFaultM h m)
  by_cases hbad : m < 1 ∨ (Z.ms.length : Int) < m
  · rw [if_pos hbad] at HF
    have HE : Hid (KeepP w w B p a b Z S m 50) := .inl ⟨rfl, hbad, rfl⟩
    clear h hbad
    go_enter Try.func27, Try.ntmps27
    go_wp2_with fail
    refine HF.out.mono ?_
    rintro e w1 ⟨rfl, rfl⟩
    go_wp2
    go_ret
    exact ⟨50, rfl, HE.out⟩
  · rw [if_neg hbad] at HF
    obtain ⟨k, hk⟩ : ∃ k : Nat, m = (k : Int) := Int.eq_ofNat_of_zero_le (by omega)
    subst hk
    have HU := hide (unsetM h (m := k) (by omega) (by omega) h16)
    have HB : Hid (1 ≤ k ∧ k ≤ Z.ms.length) := hide (by omega)
    clear h hbad
    go_enter Try.func27, Try.ntmps27
    go_wp2_with fail
    refine HF.out.mono ?_
    rintro e w1 ⟨rfl, rfl⟩
    clear HF
    go_wp2_with fail
    refine HU.out.mono ?_
    rintro e w2 ⟨rfl, G⟩
    have HE : Hid (KeepP w1 w2 B p a b Z S (k : Int) 0) := .inr ⟨rfl, k, rfl, HB.out.1, HB.out.2, G.out⟩
    clear HU G HB
    go_wp2
    go_ret
    exact ⟨0, rfl, HE.out⟩
/-- What Mark leaves. -/
def MarkP (w w' : World) (B p a b : Nat) (Z : SZ) (S : LS) (n c : Int) : Prop :=
  (n = 0 ∧ c = 50 ∧ Z.ms.length = 16 ∧ w' = w) ∨ (n = (Z.ms.length : Int) + 1 ∧ c = 0 ∧ Z.ms.length < 16 ∧ ∃ Z', LM w' B p a b Z' S ∧ Tr w w' p a b Z Z' ∧ Z'.ms = Z.ms ++ [Z.cs.length] ∧ Z'.cs = Z.cs)
set_option maxRecDepth 10000 in
set_option maxHeartbeats 3200000 in
/-- Mark. -/
theorem markM {w : World} {B p a b : Nat} {Z : SZ} {S : LS} (h : LM w B p a b Z S) (h16 : Z.ms.length ≤ 16) :
    Calls Try.prog 8 #[.pointer (some ⟨p, 0, none⟩)] w fun e w' => ∃ n c : Int, e = .returned (.tuple #[.int .i64 n, .int .i64 c]) ∧ Hid (MarkP w w' B p a b Z S n c) := by
  obtain ⟨i0, hi, hz0, hz1, hz2⟩ := info_parts infoInt1
  have c4 := h.lg.c.2.2.2.2.1
  have c5 := h.lg.c.2.2.2.2.2
  have cl := h.lg.lt.1
  obtain ⟨mao, mcap, cao, ccap, e1, e2⟩ := h.cells
  rw [e1] at c4
  rw [e2] at c5
  have HM := hide (madeG h.lg)
  have HKP : Hid (∀ W0 (v' : Value) (w4 : World), Below w.heap.size w W0 → w4.ownsRow B 3 1 v' (Z.ms.length + 1) (Z.ms.map (fun m => .int .i64 (m : Nat)) ++ [.int .i64 (Z.cs.length : Nat)]) → W0.grownBy w4 (Value.slice mao Z.ms.length mcap).ownBlock → (v'.ownBlock = (Value.slice mao Z.ms.length mcap).ownBlock ∨ v'.ownBlock = some W0.heap.size) → Hid (∃ Z', LM (w4.setCell ⟨p, 324, none⟩ v') B p a b Z' S ∧ Tr w (w4.setCell ⟨p, 324, none⟩ v') p a b Z Z' ∧ Z'.ms = Z.ms ++ [Z.cs.length] ∧ Z'.cs = Z.cs) ∧ w4.cell? ⟨p, 324, none⟩ = some (.slice mao Z.ms.length mcap) ∧ w4.frozen? ⟨p, 324, none⟩ = false ∧ p < w4.heap.size) := fun W0 v' w4 h0 ho hg hat => by
    rw [← e1] at hg hat ⊢
    exact h.marked h0 ho hg hat
  have HOW : Hid (∀ W0, Below w.heap.size w W0 → W0.ownsRow B 3 1 (.slice mao Z.ms.length mcap) Z.ms.length (Z.ms.map (fun m => .int .i64 (m : Nat)))) := fun W0 h0 => by rw [← e1]; exact (h.kept h0).mr
  have HBS : Hid (B ≤ w.heap.size) := by have := h.lo.1; exact hide (by omega)
  by_cases hL : Z.ms.length = 16
  · have HE : Hid (MarkP w w B p a b Z S 0 50) := .inl ⟨rfl, rfl, hL, rfl⟩
    rw [hL] at c4
    clear h HKP HOW e1 e2 c5 hi hz0 hz1 hz2 hL h16
    go_enter Try.func8, Try.ntmps8
    go_wp2_with fail
    refine HM.out.mono ?_
    rintro e w1 ⟨rfl, rfl⟩
    go_wp2
    go_ret2
    exact ⟨0, 50, rfl, HE.out⟩
  have HLT : Hid (Z.ms.length < 16) := hide (by omega)
  have hlt : Z.ms.length < 16 := HLT.out
  have g0 : ((Z.ms.length : Int) == 16) = false := by simp; omega
  have HFIN : Hid (∀ w', Hid (∃ Z', LM w' B p a b Z' S ∧ Tr w w' p a b Z Z' ∧ Z'.ms = Z.ms ++ [Z.cs.length] ∧ Z'.cs = Z.cs) → Hid (MarkP w w' B p a b Z S ((Z.ms.length : Int) + 1) 0)) := fun w' hw => .inr ⟨rfl, rfl, HLT.out, hw.out⟩
  clear h e1 e2 hL h16
  generalize Z.cs.length = CL at *
  go_enter Try.func8, Try.ntmps8
  go_wp2_with fail
  refine HM.out.mono ?_
  rintro e w1 ⟨rfl, rfl⟩
  clear HM
  go_upto_region 6 with fail
  go_region_law (first
    | (refine step_append_ownA rfl (.tmp 21) (.tmp 27) 72 rfl B 3 i0 _ 1 8 Try.underlying72 hi hz0 hz1 hz2 rfl (by decide) (.slice mao Z.ms.length mcap) Z.ms.length (Z.ms.map (fun m => .int .i64 (m : Nat))) (by simp [Act.eval]) (HOW.out _ (((Below.refl _ w1).alloc (Nat.le_refl _) _).drew)) ⟨w1.heap.size, 0, none⟩ 1 1 [.int .i64 (CL : Nat)] (by simp [Act.eval]) rfl (cells_newD _ _ _) (by simp [Value.oneCell']) (by unfold maxLen; omega) (by omega) (Nat.le_trans HBS.out (by simp)) ?_; intro v' w4 ho hg hat; obtain ⟨vo4, vc4, rfl⟩ := own_form2 ho; obtain ⟨HE, m4, mf, ml⟩ := HKP.out _ _ _ (((Below.refl _ w1).alloc (Nat.le_refl _) _).drew) ho hg hat; have HE2 := hide (HFIN.out _ HE); clear ho hg hat HE))
  all_goals go_wp2
  all_goals go_ret2
  all_goals exact ⟨_, _, rfl, HE2⟩
end Go.Proofs.Ytcfenjpdjogmdaa
namespace Go.Proofs.Ytcfenjpdjogmdaa
open Go.RowKit

theorem TAm.dele {W : World} {mb n : Nat} {m : Nat → Option Ac} (h : TAm W mb n m) {k : Nat} (hx : k < 18446744073709551616) (ty : TypeId) :
    ∃ w', (Builtin.delete_ #[65, 25] ty #[.map (some mb), .int .u64 (k : Int)]).run Try.prog W = .ok (.tuple #[]) w' ∧ TAm w' mb (cntO n (m k) none) (updO m k none) ∧ W.grownBy w' (some mb) := by
  obtain ⟨D, h1, hs, h2⟩ := h
  have hti := h1.tidy KD
  obtain ⟨w', hr, ho, ht⟩ := h1.drop KD Try.underlying65 (kU_of hx) ty
  have hsz := Maps.size_del (k := kU k) hti
  rw [(h2 _ hx).2, hs] at hsz
  have hsz' : Maps.size (D.del (kU k)) = cntO n (m k) none := by unfold cntO; cases e : (m k).isSome <;> simp [e] at hsz ⊢ <;> omega
  have ho' := own_tight ho
  rw [hsz'] at ho'
  refine ⟨w', hr, ⟨_, ho', hsz', fun y hy => ?_⟩, ht.grown⟩
  unfold updO
  by_cases e : y = k
  · subst e; rw [if_pos rfl]; exact ⟨Maps.atKey_del_same _, Maps.has_del_same⟩
  · rw [if_neg e]
    rw [Maps.atKey_del_other (fun h => e (kU_inj h)), Maps.has_del_other (fun h => e (kU_inj h))]
    exact h2 y hy
theorem THm.dele {W : World} {mb n : Nat} {m : Nat → Option Ho} (h : THm W mb n m) {k : Nat} (hx : k < 18446744073709551616) (ty : TypeId) :
    ∃ w', (Builtin.delete_ #[66, 25] ty #[.map (some mb), .int .u64 (k : Int)]).run Try.prog W = .ok (.tuple #[]) w' ∧ THm w' mb (cntO n (m k) none) (updO m k none) ∧ W.grownBy w' (some mb) := by
  obtain ⟨D, h1, hs, h2⟩ := h
  have hti := h1.tidy KD
  obtain ⟨w', hr, ho, ht⟩ := h1.drop KD Try.underlying66 (kU_of hx) ty
  have hsz := Maps.size_del (k := kU k) hti
  rw [(h2 _ hx).2, hs] at hsz
  have hsz' : Maps.size (D.del (kU k)) = cntO n (m k) none := by unfold cntO; cases e : (m k).isSome <;> simp [e] at hsz ⊢ <;> omega
  have ho' := own_tight ho
  rw [hsz'] at ho'
  refine ⟨w', hr, ⟨_, ho', hsz', fun y hy => ?_⟩, ht.grown⟩
  unfold updO
  by_cases e : y = k
  · subst e; rw [if_pos rfl]; exact ⟨Maps.atKey_del_same _, Maps.has_del_same⟩
  · rw [if_neg e]
    rw [Maps.atKey_del_other (fun h => e (kU_inj h)), Maps.has_del_other (fun h => e (kU_inj h))]
    exact h2 y hy
theorem cnt_put {α : Type} (n : Nat) (was : Option α) (x : α) : (if was.isSome = true then n else n + 1) = cntO n was (some x) := by
  unfold cntO
  cases e : was.isSome <;> simp
theorem TAm.putK {W : World} {mb n : Nat} {m : Nat → Option Ac} (h : TAm W mb n m) (k : Nat) (y : Ac) (hx : k < 18446744073709551616) (hn : n < maxLen) :
    ∃ w', (Instr.mapUpdate 65 (.map (some mb)) (.int .u64 (k : Int)) (.agg y.arr)).run Try.prog W = .ok () w' ∧ TAm w' mb (cntO n (m k) (some y)) (updO m k (some y)) ∧ W.grownBy w' (some mb) := by
  obtain ⟨D, h1, hs, h2⟩ := h
  have hti := h1.tidy KD
  obtain ⟨w', hr, ho, ht⟩ := h1.store KD Try.underlying65 hn (kU_of hx) (rfl : RV (.agg y.arr) = _)
  have hsz := Maps.size_put (k := kU k) hti (.held (.agg y.arr))
  rw [(h2 _ hx).2, hs, cnt_put _ _ y] at hsz
  have ho' := own_tight ho
  rw [hsz] at ho'
  refine ⟨w', hr, ⟨_, ho', hsz, fun z hz => ?_⟩, ht.grown⟩
  unfold updO
  by_cases e : z = k
  · subst e; rw [if_pos rfl]; exact ⟨Maps.atKey_put_same (k := kU z) h1.isMap (show WideAt.IsKeyLit (kU z) from trivial) _ _, Maps.has_put_same h1.isMap (show WideAt.IsKeyLit (kU z) from trivial) _⟩
  · rw [if_neg e]
    rw [Maps.atKey_put_other (fun h => e (kU_inj h)), Maps.has_put_other (fun h => e (kU_inj h))]
    exact h2 z hz
theorem THm.putK {W : World} {mb n : Nat} {m : Nat → Option Ho} (h : THm W mb n m) (k : Nat) (y : Ho) (hx : k < 18446744073709551616) (hn : n < maxLen) :
    ∃ w', (Instr.mapUpdate 66 (.map (some mb)) (.int .u64 (k : Int)) (.agg y.arr)).run Try.prog W = .ok () w' ∧ THm w' mb (cntO n (m k) (some y)) (updO m k (some y)) ∧ W.grownBy w' (some mb) := by
  obtain ⟨D, h1, hs, h2⟩ := h
  have hti := h1.tidy KD
  obtain ⟨w', hr, ho, ht⟩ := h1.store KD Try.underlying66 hn (kU_of hx) (rfl : RV (.agg y.arr) = _)
  have hsz := Maps.size_put (k := kU k) hti (.held (.agg y.arr))
  rw [(h2 _ hx).2, hs, cnt_put _ _ y] at hsz
  have ho' := own_tight ho
  rw [hsz] at ho'
  refine ⟨w', hr, ⟨_, ho', hsz, fun z hz => ?_⟩, ht.grown⟩
  unfold updO
  by_cases e : z = k
  · subst e; rw [if_pos rfl]; exact ⟨Maps.atKey_put_same (k := kU z) h1.isMap (show WideAt.IsKeyLit (kU z) from trivial) _ _, Maps.has_put_same h1.isMap (show WideAt.IsKeyLit (kU z) from trivial) _⟩
  · rw [if_neg e]
    rw [Maps.atKey_put_other (fun h => e (kU_inj h)), Maps.has_put_other (fun h => e (kU_inj h))]
    exact h2 z hz
/-- A ledger as it lies, as maps. -/
structure LGm (W : World) (p a b : Nat) (mk ch : Value) (M : MS) : Prop where
  blk : ∃ cs : Array Value, W.heap[p]? = some (.cells cs 77 (0, 0)) ∧ cs.size = 326 ∧ (cs[0]? = some (.int .u64 (M.tot : Nat)) ∧ cs[1]? = some (.map (some a)) ∧ cs[2]? = some (.map (some b)) ∧ cs[3]? = some (.int .u64 (M.nx : Nat)) ∧ cs[324]? = some mk ∧ cs[325]? = some ch) ∧ ∀ k, k < 64 → ∀ (j : Nat) (v : Value), (M.rg k).vals[j]? = some v → cs[4 + k * 5 + j]? = some v
  acc : TAm W a M.acn M.acf
  hol : THm W b M.hon M.hof
  ne : a ≠ b
theorem LG.toM {W : World} {p a b : Nat} {mk ch : Value} {S : LS} (h : LG W p a b mk ch S) : LGm W p a b mk ch S.ms := ⟨h.blk, h.acc, h.hol, h.ne⟩
theorem LGm.toG {W : World} {p a b : Nat} {mk ch : Value} {S : LS} (h : LGm W p a b mk ch S.ms) : LG W p a b mk ch S := ⟨h.blk, h.acc, h.hol, h.ne⟩
section
variable {W W' : World} {p a b : Nat} {mk ch : Value} {M : MS}
theorem LGm.nes (h : LGm W p a b mk ch M) : p ≠ a ∧ p ≠ b ∧ a ≠ b := by
  obtain ⟨cs, h1, _⟩ := h.blk
  obtain ⟨es, k, h2⟩ := h.acc.obj
  obtain ⟨es', k', h3⟩ := h.hol.obj
  exact ⟨fun e => (by cases e; rw [h1] at h2; cases h2), fun e => (by cases e; rw [h1] at h3; cases h3), h.ne⟩
theorem LGm.lt (h : LGm W p a b mk ch M) : p < W.heap.size ∧ a < W.heap.size ∧ b < W.heap.size := by
  obtain ⟨cs, h1, _⟩ := h.blk
  exact ⟨block_lt h1, h.acc.lt, h.hol.lt⟩
theorem LGm.other (h : LGm W p a b mk ch M) {row : Option Nat} (hg : W.grownBy W' row) (n1 : some p ≠ row) (n2 : some a ≠ row) (n3 : some b ≠ row) : LGm W' p a b mk ch M := by
  obtain ⟨cs, h1, h2⟩ := h.blk
  exact ⟨⟨cs, (hg.block _ (block_lt h1) n1).trans h1, h2⟩, h.acc.kept hg n2, h.hol.kept hg n3, h.ne⟩
theorem LGm.setA (h : LGm W p a b mk ch M) {n : Nat} {f : Nat → Option Ac} (ht : TAm W' a n f) (hg : W.grownBy W' (some a)) : LGm W' p a b mk ch { M with acn := n, acf := f } := by
  obtain ⟨cs, h1, h2⟩ := h.blk
  obtain ⟨n1, n2, n3⟩ := h.nes
  exact ⟨⟨cs, (hg.block _ (block_lt h1) (fun e => n1 (Option.some.inj e))).trans h1, h2⟩, ht, h.hol.kept hg (fun e => n3 (Option.some.inj e).symm), h.ne⟩
theorem LGm.setH (h : LGm W p a b mk ch M) {n : Nat} {f : Nat → Option Ho} (ht : THm W' b n f) (hg : W.grownBy W' (some b)) : LGm W' p a b mk ch { M with hon := n, hof := f } := by
  obtain ⟨cs, h1, h2⟩ := h.blk
  obtain ⟨n1, n2, n3⟩ := h.nes
  exact ⟨⟨cs, (hg.block _ (block_lt h1) (fun e => n2 (Option.some.inj e))).trans h1, h2⟩, h.acc.kept hg (fun e => n3 (Option.some.inj e)), ht, h.ne⟩
/-- The line at place k is written over, and the next number. -/
theorem LGm.setJ (h : LGm W p a b mk ch M) {k : Nat} (hk : k < 64) (old : Jn) (sq : Nat) {cs' : Array Value} (hc : W'.heap[p]? = some (.cells cs' 77 (0, 0))) (hs : cs'.size = 326) (h3 : cs'[3]? = some (.int .u64 (sq : Nat))) (hold : ∀ (j : Nat) (v : Value), old.vals[j]? = some v → cs'[4 + k * 5 + j]? = some v) (ho : ∀ cs, W.heap[p]? = some (.cells cs 77 (0, 0)) → ∀ i, i ≠ 3 → (i < 4 + k * 5 ∨ 4 + k * 5 + 5 ≤ i) → cs'[i]? = cs[i]?) (hg : W.grownBy W' (some p)) : LGm W' p a b mk ch { M with nx := sq, rg := fun i => if i = k then old else M.rg i } := by
  obtain ⟨cs, h1, h2, ⟨q0, q1, q2, q3, q4, q5⟩, q6⟩ := h.blk
  obtain ⟨n1, n2, n3⟩ := h.nes
  have e := ho cs h1
  refine ⟨⟨cs', hc, hs, ⟨(e 0 (by omega) (by omega)).trans q0, (e 1 (by omega) (by omega)).trans q1, (e 2 (by omega) (by omega)).trans q2, h3, (e 324 (by omega) (by omega)).trans q4, (e 325 (by omega) (by omega)).trans q5⟩, fun k' hk' j v hj => ?_⟩, h.acc.kept hg (fun e => n1 (Option.some.inj e).symm), h.hol.kept hg (fun e => n2 (Option.some.inj e).symm), h.ne⟩
  have hj5 : j < 5 := (List.getElem?_eq_some_iff.1 hj).1
  by_cases ek : k' = k
  · subst ek
    have hj2 : old.vals[j]? = some v := by simpa using hj
    exact hold j v hj2
  · have hj2 : (M.rg k').vals[j]? = some v := by simpa [ek] using hj
    exact (e _ (by omega) (by omega)).trans (q6 k' hk' j v hj2)
end
/-- What a closure that takes back leaves. -/
def BkP (W W' : World) (p a b : Nat) (mk ch : Value) (M : MS) : Prop := LGm W' p a b mk ch M ∧ ∃ q, (q = p ∨ q = a ∨ q = b) ∧ W.grownBy W' (some q)
set_option maxRecDepth 10000 in
set_option maxHeartbeats 1600000 in
theorem backPutA {W : World} {p a b : Nat} {mk ch : Value} {M : MS} (h : LGm W p a b mk ch M) (hc : M.acn < 4611686018427387904) {x q q0 q1 : Nat} {y : Ac} (hx : x < 18446744073709551616) (c0 : W.heap[q0]? = some (.cells #[.map (some a)] 65 (0, 0))) (c1 : W.heap[q1]? = some (.cells #[.int .u64 (x : Nat)] 25 (0, 0))) (c2 : W.heap[q]? = some (.cells y.arr 80 (0, 0))) :
    (Calls Try.prog 74 #[.pointer (some ⟨q, 0, none⟩), .pointer (some ⟨q0, 0, none⟩), .pointer (some ⟨q1, 0, none⟩)] W fun e W' => e = .returned (.tuple #[]) ∧ Hid (BkP W W' p a b mk ch (Bk.undo M (.A x (some y))))) ∧ (Calls Try.prog 62 #[.pointer (some ⟨q, 0, none⟩), .pointer (some ⟨q0, 0, none⟩), .pointer (some ⟨q1, 0, none⟩)] W fun e W' => e = .returned (.tuple #[]) ∧ Hid (BkP W W' p a b mk ch (Bk.undo M (.A x (some y))))) := by
  obtain ⟨w', hr, ht, hg⟩ := h.acc.putK x y hx (by unfold maxLen; omega)
  have HE : Hid (BkP W w' p a b mk ch (Bk.undo M (.A x (some y)))) := ⟨h.setA ht hg, a, .inr (.inl rfl), hg⟩
  have x0 := block_cell c0 0
  have x1 := block_cell c1 0
  have y0 := block_cell c2 0
  have y1 := block_cell c2 1
  have y2 := block_cell c2 2
  have y3 := block_cell c2 3
  have l0 := block_lt c0
  have l1 := block_lt c1
  have l2 := block_lt c2
  simp [Ac.arr] at x0 x1 y0 y1 y2 y3
  unfold Ac.arr at hr
  clear h hx hc ht hg c0 c1 c2
  constructor
  · go_enter Try.func74, Try.ntmps74
    go_wp2
    go_end0
    exact ⟨rfl, HE⟩
  · go_enter Try.func62, Try.ntmps62
    go_wp2
    go_end0
    exact ⟨rfl, HE⟩
set_option maxRecDepth 10000 in
set_option maxHeartbeats 1600000 in
theorem backDelA {W : World} {p a b : Nat} {mk ch : Value} {M : MS} (h : LGm W p a b mk ch M) {x q0 q1 : Nat} (hx : x < 18446744073709551616) (c0 : W.heap[q0]? = some (.cells #[.map (some a)] 65 (0, 0))) (c1 : W.heap[q1]? = some (.cells #[.int .u64 (x : Nat)] 25 (0, 0))) :
    Calls Try.prog 75 #[.pointer (some ⟨q0, 0, none⟩), .pointer (some ⟨q1, 0, none⟩)] W fun e W' => e = .returned (.tuple #[]) ∧ Hid (BkP W W' p a b mk ch (Bk.undo M (.A x none))) := by
  have hex : ∀ ty, ∃ w', (Builtin.delete_ #[65, 25] ty #[.map (some a), .int .u64 (x : Int)]).run Try.prog W = .ok (.tuple #[]) w' ∧ Hid (BkP W w' p a b mk ch (Bk.undo M (.A x none))) := fun ty => by
    obtain ⟨w', hr, ht, hg⟩ := h.acc.dele hx ty
    exact ⟨w', hr, h.setA ht hg, a, .inr (.inl rfl), hg⟩
  have x0 := block_cell c0 0
  have x1 := block_cell c1 0
  have l0 := block_lt c0
  have l1 := block_lt c1
  simp at x0 x1
  obtain ⟨w', hr, HE⟩ := hex 0
  clear h hx c0 c1 hex
  go_enter Try.func75, Try.ntmps75
  go_wp2
  go_end0
  exact ⟨rfl, HE⟩
set_option maxRecDepth 10000 in
set_option maxHeartbeats 1600000 in
theorem backPutH {W : World} {p a b : Nat} {mk ch : Value} {M : MS} (h : LGm W p a b mk ch M) (hc : M.hon < 4611686018427387904) {x q q0 q1 : Nat} {y : Ho} (hx : x < 18446744073709551616) (c0 : W.heap[q0]? = some (.cells #[.map (some b)] 66 (0, 0))) (c1 : W.heap[q1]? = some (.cells #[.int .u64 (x : Nat)] 25 (0, 0))) (c2 : W.heap[q]? = some (.cells y.arr 83 (0, 0))) :
    (Calls Try.prog 78 #[.pointer (some ⟨q, 0, none⟩), .pointer (some ⟨q0, 0, none⟩), .pointer (some ⟨q1, 0, none⟩)] W fun e W' => e = .returned (.tuple #[]) ∧ Hid (BkP W W' p a b mk ch (Bk.undo M (.H x (some y))))) ∧ (Calls Try.prog 77 #[.pointer (some ⟨q, 0, none⟩), .pointer (some ⟨q0, 0, none⟩), .pointer (some ⟨q1, 0, none⟩)] W fun e W' => e = .returned (.tuple #[]) ∧ Hid (BkP W W' p a b mk ch (Bk.undo M (.H x (some y))))) := by
  obtain ⟨w', hr, ht, hg⟩ := h.hol.putK x y hx (by unfold maxLen; omega)
  have HE : Hid (BkP W w' p a b mk ch (Bk.undo M (.H x (some y)))) := ⟨h.setH ht hg, b, .inr (.inr rfl), hg⟩
  have x0 := block_cell c0 0
  have x1 := block_cell c1 0
  have y0 := block_cell c2 0
  have y1 := block_cell c2 1
  have y2 := block_cell c2 2
  have l0 := block_lt c0
  have l1 := block_lt c1
  have l2 := block_lt c2
  simp [Ho.arr] at x0 x1 y0 y1 y2
  unfold Ho.arr at hr
  clear h hx hc ht hg c0 c1 c2
  constructor
  · go_enter Try.func78, Try.ntmps78
    go_wp2
    go_end0
    exact ⟨rfl, HE⟩
  · go_enter Try.func77, Try.ntmps77
    go_wp2
    go_end0
    exact ⟨rfl, HE⟩
set_option maxRecDepth 10000 in
set_option maxHeartbeats 1600000 in
theorem backDelH {W : World} {p a b : Nat} {mk ch : Value} {M : MS} (h : LGm W p a b mk ch M) {x q0 q1 : Nat} (hx : x < 18446744073709551616) (c0 : W.heap[q0]? = some (.cells #[.map (some b)] 66 (0, 0))) (c1 : W.heap[q1]? = some (.cells #[.int .u64 (x : Nat)] 25 (0, 0))) :
    Calls Try.prog 79 #[.pointer (some ⟨q0, 0, none⟩), .pointer (some ⟨q1, 0, none⟩)] W fun e W' => e = .returned (.tuple #[]) ∧ Hid (BkP W W' p a b mk ch (Bk.undo M (.H x none))) := by
  have hex : ∀ ty, ∃ w', (Builtin.delete_ #[66, 25] ty #[.map (some b), .int .u64 (x : Int)]).run Try.prog W = .ok (.tuple #[]) w' ∧ Hid (BkP W w' p a b mk ch (Bk.undo M (.H x none))) := fun ty => by
    obtain ⟨w', hr, ht, hg⟩ := h.hol.dele hx ty
    exact ⟨w', hr, h.setH ht hg, b, .inr (.inr rfl), hg⟩
  have x0 := block_cell c0 0
  have x1 := block_cell c1 0
  have l0 := block_lt c0
  have l1 := block_lt c1
  simp at x0 x1
  obtain ⟨w', hr, HE⟩ := hex 0
  clear h hx c0 c1 hex
  go_enter Try.func79, Try.ntmps79
  go_wp2
  go_end0
  exact ⟨rfl, HE⟩
end Go.Proofs.Ytcfenjpdjogmdaa
namespace Go.Proofs.Ytcfenjpdjogmdaa
open Go.RowKit

set_option maxHeartbeats 6400000 in
/-- The five cells of a line, and the next number, written in whatever order. -/
theorem line_a {W : World} {p a b : Nat} {mk ch : Value} {M : MS} (h : LGm W p a b mk ch M) {k : Nat} (hk : k < 64) (old : Jn) (sq : Nat) :
    BkP W ((ring5 W p k (old.sq : Int) (old.kd : Int) (old.fr : Int) (old.tw : Int) (old.am : Int)).setCell ⟨p, 3, none⟩ (.int .u64 (sq : Nat))) p a b mk ch (Bk.undo M (.J k sq old)) ∧ BkP W (ring5 (W.setCell ⟨p, 3, none⟩ (.int .u64 (sq : Nat))) p k (old.sq : Int) (old.kd : Int) (old.fr : Int) (old.tw : Int) (old.am : Int)) p a b mk ch (Bk.undo M (.J k sq old)) := by
  obtain ⟨cs, q, hs, _⟩ := h.blk
  have g5 : ∀ V : World, V.grownBy (ring5 V p k (old.sq : Int) (old.kd : Int) (old.fr : Int) (old.tw : Int) (old.am : Int)) (some p) := fun V => by
    unfold ring5
    exact far_two (far_two (far_two (far_two (grown_set _ p _ _) (grown_set _ p _ _)) (grown_set _ p _ _)) (grown_set _ p _ _)) (grown_set _ p _ _)
  have key : ∀ cs' : Array Value, cs' = (((((cs.setIfInBounds (4 + k * 5) (.int .u64 (old.sq : Int))).setIfInBounds (4 + k * 5 + 1) (.int .i64 (old.kd : Int))).setIfInBounds (4 + k * 5 + 2) (.int .u64 (old.fr : Int))).setIfInBounds (4 + k * 5 + 3) (.int .u64 (old.tw : Int))).setIfInBounds (4 + k * 5 + 4) (.int .u64 (old.am : Int))).setIfInBounds 3 (.int .u64 (sq : Nat)) ∨ cs' = (((((cs.setIfInBounds 3 (.int .u64 (sq : Nat))).setIfInBounds (4 + k * 5) (.int .u64 (old.sq : Int))).setIfInBounds (4 + k * 5 + 1) (.int .i64 (old.kd : Int))).setIfInBounds (4 + k * 5 + 2) (.int .u64 (old.fr : Int))).setIfInBounds (4 + k * 5 + 3) (.int .u64 (old.tw : Int))).setIfInBounds (4 + k * 5 + 4) (.int .u64 (old.am : Int)) → cs'.size = 326 ∧ cs'[3]? = some (.int .u64 (sq : Nat)) ∧ (∀ (j : Nat) (v : Value), old.vals[j]? = some v → cs'[4 + k * 5 + j]? = some v) ∧ ∀ i, i ≠ 3 → (i < 4 + k * 5 ∨ 4 + k * 5 + 5 ≤ i) → cs'[i]? = cs[i]? := by
    intro cs' hcs
    have hsz : cs'.size = 326 := by rcases hcs with rfl | rfl <;> simpa using hs
    refine ⟨hsz, ?_, fun j v hj => ?_, fun i h3 hi => ?_⟩
    · rcases hcs with rfl | rfl
      · simp [hs]
      · simp only [Array.getElem?_setIfInBounds, Array.size_setIfInBounds, hs]
        repeat rw [if_neg (by omega)]
        simp
    · have hj5 : j < 5 := (List.getElem?_eq_some_iff.1 hj).1
      have : j = 0 ∨ j = 1 ∨ j = 2 ∨ j = 3 ∨ j = 4 := by omega
      rcases hcs with rfl | rfl
      all_goals
        rcases this with rfl | rfl | rfl | rfl | rfl <;>
          (simp only [Jn.vals, List.getElem?_cons_zero, List.getElem?_cons_succ, Option.some.injEq] at hj
           subst hj
           simp only [Array.getElem?_setIfInBounds, Array.size_setIfInBounds, hs]
           repeat (first | rw [if_pos trivial, if_pos (by omega)] | rw [if_pos (by omega), if_pos (by omega)] | rw [if_neg (by omega)]))
    · rcases hcs with rfl | rfl
      all_goals
        simp only [Array.getElem?_setIfInBounds]
        repeat rw [if_neg (by omega)]
  constructor
  · have hq : ((ring5 W p k (old.sq : Int) (old.kd : Int) (old.fr : Int) (old.tw : Int) (old.am : Int)).setCell ⟨p, 3, none⟩ (.int .u64 (sq : Nat))).heap[p]? = some (.cells _ 77 (0, 0)) := heap_setCell_same _ p 3 _ _ _ (heap_setCell_same _ p _ _ _ _ (heap_setCell_same _ p _ _ _ _ (heap_setCell_same _ p _ _ _ _ (heap_setCell_same _ p _ _ _ _ (heap_setCell_same W p _ _ _ _ q)))))
    have hk2 := key _ (.inl rfl)
    have hg := far_two (g5 W) (grown_set _ p 3 (.int .u64 (sq : Nat)))
    exact ⟨h.setJ hk old sq hq hk2.1 hk2.2.1 hk2.2.2.1 (fun cs0 h0 => by rw [q] at h0; cases h0; exact hk2.2.2.2) hg, p, .inl rfl, hg⟩
  · have hq : (ring5 (W.setCell ⟨p, 3, none⟩ (.int .u64 (sq : Nat))) p k (old.sq : Int) (old.kd : Int) (old.fr : Int) (old.tw : Int) (old.am : Int)).heap[p]? = some (.cells _ 77 (0, 0)) := heap_setCell_same _ p _ _ _ _ (heap_setCell_same _ p _ _ _ _ (heap_setCell_same _ p _ _ _ _ (heap_setCell_same _ p _ _ _ _ (heap_setCell_same _ p _ _ _ _ (heap_setCell_same W p 3 _ _ _ q)))))
    have hk2 := key _ (.inr rfl)
    have hg := far_two (grown_set W p 3 (.int .u64 (sq : Nat))) (g5 _)
    exact ⟨h.setJ hk old sq hq hk2.1 hk2.2.1 hk2.2.2.1 (fun cs0 h0 => by rw [q] at h0; cases h0; exact hk2.2.2.2) hg, p, .inl rfl, hg⟩
set_option maxRecDepth 10000 in
set_option maxHeartbeats 6400000 in
theorem backJ {W : World} {p a b : Nat} {mk ch : Value} {M : MS} (h : LGm W p a b mk ch M) {k sq : Nat} {old : Jn} (hk : k < 64) {q13 q11 q12 q5 : Nat} (h1 : W.heap[q13]? = some (.cells #[.int .u64 (old.sq : Nat), .int .i64 (old.kd : Nat), .int .u64 (old.fr : Nat), .int .u64 (old.tw : Nat), .int .u64 (old.am : Nat)] 68 (0, 0))) (h2 : W.heap[q11]? = some (.cells #[.int .u64 (sq : Nat)] 25 (0, 0))) (h3 : W.heap[q12]? = some (.cells #[.pointer (some ⟨p, 4 + k * 5, none⟩)] 137 (0, 0))) (h4 : W.heap[q5]? = some (.cells #[.pointer (some ⟨p, 3, none⟩)] 116 (0, 0))) :
    Calls Try.prog 76 #[.pointer (some ⟨q13, 0, none⟩), .pointer (some ⟨q11, 0, none⟩), .pointer (some ⟨q12, 0, none⟩), .pointer (some ⟨q5, 0, none⟩)] W fun e W' => e = .returned (.tuple #[]) ∧ Hid (BkP W W' p a b mk ch (Bk.undo M (.J k sq old))) := by
  obtain ⟨ha, hb⟩ := line_a h hk old sq
  have up : ∀ {V : World}, BkP W V p a b mk ch (Bk.undo M (.J k sq old)) → BkP W V.drew p a b mk ch (Bk.undo M (.J k sq old)) := fun hV => by
    obtain ⟨g1, q, g2, g3⟩ := hV
    exact ⟨g1.other (row := none) ⟨rfl, rfl, rfl, Nat.le_refl _, fun _ _ _ => rfl⟩ (by simp) (by simp) (by simp), q, g2, ⟨g3.os, g3.tape, g3.output, g3.size, g3.block⟩⟩
  have HA := hide (up ha)
  have HB := hide (up hb)
  unfold ring5 at HA HB
  obtain ⟨cs, q, hs, _⟩ := h.blk
  have n13 : ¬ q13 = p := fun e => by subst e; rw [q] at h1; cases h1
  have n11 : ¬ q11 = p := fun e => by subst e; rw [q] at h2; cases h2
  have n12 : ¬ q12 = p := fun e => by subst e; rw [q] at h3; cases h3
  have n5 : ¬ q5 = p := fun e => by subst e; rw [q] at h4; cases h4
  have ce : ∀ i, i < 326 → ∃ u, W.cell? ⟨p, i, none⟩ = some u := fun i hi => ⟨_, (block_cell q i).trans (Array.getElem?_eq_getElem (by omega))⟩
  obtain ⟨u3, r3⟩ := ce 3 (by omega)
  obtain ⟨v0, s0⟩ := ce (4 + k * 5) (by omega)
  obtain ⟨v1, s1⟩ := ce (4 + k * 5 + 1) (by omega)
  obtain ⟨v2, s2⟩ := ce (4 + k * 5 + 2) (by omega)
  obtain ⟨v3, s3⟩ := ce (4 + k * 5 + 3) (by omega)
  obtain ⟨v4, s4⟩ := ce (4 + k * 5 + 4) (by omega)
  have f3 := block_free q 3
  have t0 := block_free q (4 + k * 5)
  have t1 := block_free q (4 + k * 5 + 1)
  have t2 := block_free q (4 + k * 5 + 2)
  have t3 := block_free q (4 + k * 5 + 3)
  have t4 := block_free q (4 + k * 5 + 4)
  have pl := block_lt q
  have y0 := block_cell h1 0
  have y1 := block_cell h1 1
  have y2 := block_cell h1 2
  have y3 := block_cell h1 3
  have y4 := block_cell h1 4
  have yl := block_lt h1
  have z1 := block_cell h2 0
  have l1 := block_lt h2
  have z2 := block_cell h3 0
  have l2 := block_lt h3
  have z3 := block_cell h4 0
  have l3 := block_lt h4
  simp at y0 y1 y2 y3 y4 z1 z2 z3
  clear h ha hb up q hs h1 h2 h3 h4 ce
  obtain ⟨o, ho⟩ : ∃ o, 4 + k * 5 = o := ⟨_, rfl⟩
  have ho4 : 4 ≤ o := by omega
  rw [ho] at HA HB z2 s0 s1 s2 s3 s4 t0 t1 t2 t3 t4
  clear ho hk
  have e0 : ¬ o = 3 := by omega
  have e1 : ¬ o + 1 = 3 := by omega
  have e2 : ¬ o + 2 = 3 := by omega
  have e3 : ¬ o + 3 = 3 := by omega
  have e4 : ¬ o + 4 = 3 := by omega
  have w0 : ¬ 3 = o := by omega
  have w1 : ¬ 3 = o + 1 := by omega
  have w2 : ¬ 3 = o + 2 := by omega
  have w3 : ¬ 3 = o + 3 := by omega
  have w4 : ¬ 3 = o + 4 := by omega
  generalize (old.sq : Int) = O0 at *
  generalize (old.kd : Int) = O1 at *
  generalize (old.fr : Int) = O2 at *
  generalize (old.tw : Int) = O3 at *
  generalize (old.am : Int) = O4 at *
  generalize (sq : Int) = SQ at *
  go_enter Try.func76, Try.ntmps76
  go_wp2_with fail
  go_region_with (fail)
  all_goals go_wp2
  all_goals go_end0
  all_goals first | exact ⟨rfl, HA⟩ | exact ⟨rfl, HB⟩
end Go.Proofs.Ytcfenjpdjogmdaa
