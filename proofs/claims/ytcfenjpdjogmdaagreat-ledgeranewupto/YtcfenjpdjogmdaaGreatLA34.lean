import Derived.Test.YtcfenjpdjogmdaaGreatLA33
namespace Go.Proofs.YtcfenjpdjogmdaaGreat
open Go.RowKit

theorem LG.setCh {W : World} {p a b : Nat} {mk ch : Value} {S : LS} (h : LG W p a b mk ch S) (v : Value) : LG (W.setCell ⟨p, 325, none⟩ v) p a b mk v S := by
  obtain ⟨cs, h1, hs, ⟨h2, h3, h4, h5, h6, h7⟩, h8⟩ := h.blk
  obtain ⟨n1, n2, n3⟩ := h.nes
  have hg := grown_set W p 325 v
  refine ⟨⟨cs.setIfInBounds 325 v, heap_setCell_same W p 325 _ _ _ h1, by simpa using hs, ⟨by simpa using h2, by simpa using h3, by simpa using h4, by simpa using h5, by simpa using h6, by simp [hs]⟩, fun k hk j v' hj => ?_⟩, h.acc.kept hg (fun e => n1 (Option.some.inj e).symm), h.hol.kept hg (fun e => n2 (Option.some.inj e).symm), h.ne⟩
  have hj5 : j < 5 := (List.getElem?_eq_some_iff.1 hj).1
  simp only [Array.getElem?_setIfInBounds]
  rw [if_neg (by omega)]
  exact h8 k hk j v' hj
theorem LG.setMk {W : World} {p a b : Nat} {mk ch : Value} {S : LS} (h : LG W p a b mk ch S) (v : Value) : LG (W.setCell ⟨p, 324, none⟩ v) p a b v ch S := by
  obtain ⟨cs, h1, hs, ⟨h2, h3, h4, h5, h6, h7⟩, h8⟩ := h.blk
  obtain ⟨n1, n2, n3⟩ := h.nes
  have hg := grown_set W p 324 v
  refine ⟨⟨cs.setIfInBounds 324 v, heap_setCell_same W p 324 _ _ _ h1, by simpa using hs, ⟨by simpa using h2, by simpa using h3, by simpa using h4, by simpa using h5, by simp [hs], by simpa using h7⟩, fun k hk j v' hj => ?_⟩, h.acc.kept hg (fun e => n1 (Option.some.inj e).symm), h.hol.kept hg (fun e => n2 (Option.some.inj e).symm), h.ne⟩
  have hj5 : j < 5 := (List.getElem?_eq_some_iff.1 hj).1
  simp only [Array.getElem?_setIfInBounds]
  rw [if_neg (by omega)]
  exact h8 k hk j v' hj
theorem LM.cells {W : World} {B p a b : Nat} {Z : SZ} {S : LS} (h : LM W B p a b Z S) : ∃ mao mcap cao ccap, Z.mv = .slice mao Z.ms.length mcap ∧ Z.cv = .slice cao Z.cs.length ccap := by
  obtain ⟨mao, mcap, e1⟩ := own_form2 h.mr
  obtain ⟨xs, hc, _⟩ := h.cr
  obtain ⟨cao, ccap, e2⟩ := own_form2 hc
  exact ⟨mao, mcap, cao, ccap, e1, e2⟩
/-- One change more is noted. -/
theorem LM.noted {W W0 W4 : World} {B p a b : Nat} {Z : SZ} {S : LS} (h : LM W B p a b Z S) {xs : List Value} (hd : ∀ (i : Nat) (d : Bk) (v : Value), Z.cs[i]? = some d → xs[i]? = some v → d.Ok W p a b v) (hx : xs.length = Z.cs.length) {d : Bk} {v v' : Value} (hv : d.Ok W p a b v) (h0 : Below W.heap.size W W0) (ho : W4.ownsRow B 170 1 v' (Z.cs.length + 1) (xs ++ [v])) (hg : W0.grownBy W4 Z.cv.ownBlock) :
    LM (W4.setCell ⟨p, 325, none⟩ v') B p a b { Z with cv := v', cs := Z.cs ++ [d] } S ∧ Fl W (W4.setCell ⟨p, 325, none⟩ v') ∧ (∀ k, k < W.heap.size → k ≠ p → Z.cv.ownBlock ≠ some k → (W4.setCell ⟨p, 325, none⟩ v').heap[k]? = W.heap[k]?) ∧ (W4.setCell ⟨p, 325, none⟩ v').os = W.os ∧ (W4.setCell ⟨p, 325, none⟩ v').tape = W.tape ∧ (W4.setCell ⟨p, 325, none⟩ v').output = W.output ∧ W.heap.size ≤ (W4.setCell ⟨p, 325, none⟩ v').heap.size := by
  have hk := h.kept h0
  obtain ⟨hr1, hr2⟩ := hk.rows
  obtain ⟨ys, hcr, _⟩ := hk.cr
  have f1 : Fl W W0 := Fl.below h0
  have f2 : Fl W0 W4 := Fl.grown hg (fun q e cs t hq => by
    rcases hcr.2 with ⟨e1, _⟩ | ⟨g, cp, cur, e1, _, hgq, _⟩
    · rw [e1] at e; cases e
    · rw [e1] at e
      cases e
      rw [hgq] at hq
      cases hq
      exact .inr (.inr rfl))
  have l4 : LG W4 p a b Z.mv Z.cv S := hk.lg.other hg (fun e => (hr1 p (.inl rfl)).2 e.symm) (fun e => (hr1 a (.inr (.inl rfl))).2 e.symm) (fun e => (hr1 b (.inr (.inr rfl))).2 e.symm)
  have lf := l4.setCh v'
  obtain ⟨cs4, q4, _⟩ := l4.blk
  have gs := grown_set W4 p 325 v'
  have f3 : Fl W4 (W4.setCell ⟨p, 325, none⟩ v') := Fl.bel gs q4 (.inl rfl)
  have ff := f1.trans (f2.trans f3)
  have m4 : W4.ownsRow B 3 1 Z.mv Z.ms.length (Z.ms.map (fun m => .int .i64 (m : Nat))) := hk.mr.kept hg (rows2_ne hcr hk.mr (by decide))
  refine ⟨⟨lf, m4.kept gs (.inr (rowT_ne m4 q4 (by decide))), ⟨xs ++ [v], ?_, fun i d' u hi hu => ?_⟩, h.lo⟩, ff, fun k hk1 hk2 hk3 => ?_, ?_, ?_, ?_, Nat.le_trans h0.size (Nat.le_trans hg.size gs.size)⟩
  · show (W4.setCell ⟨p, 325, none⟩ v').ownsRow B _ 1 v' (Z.cs ++ [d]).length _
    rw [List.length_append]
    exact ho.kept gs (.inr (rowT_ne ho q4 (by decide)))
  · have hi' : (Z.cs ++ [d])[i]? = some d' := hi
    by_cases hlt : i < Z.cs.length
    · rw [List.getElem?_append_left hlt] at hi'
      rw [List.getElem?_append_left (by omega)] at hu
      exact (hd i d' u hi' hu).fl ff
    · have h2 := (List.getElem?_eq_some_iff.1 hi').1
      rw [List.length_append] at h2
      simp only [List.length_cons, List.length_nil] at h2
      obtain rfl : i = Z.cs.length := by omega
      rw [List.getElem?_append_right (Nat.le_refl _), Nat.sub_self] at hi'
      rw [← hx, List.getElem?_append_right (Nat.le_refl _), Nat.sub_self] at hu
      simp at hi' hu
      subst hi' hu
      exact hv.fl ff
  · exact ((gs.block k (by have := h0.size; have := hg.size; omega) (fun e => hk2 (Option.some.inj e))).trans (hg.block k (by have := h0.size; omega) (fun e => hk3 e.symm))).trans (h0.block k hk1)
  · exact gs.os.trans (hg.os.trans h0.os)
  · exact gs.tape.trans (hg.tape.trans h0.tape)
  · exact gs.output.trans (hg.output.trans h0.output)
set_option maxRecDepth 10000 in
set_option maxHeartbeats 3200000 in
/-- note: a change, where there is a mark. -/
theorem noteX {B p a b : Nat} {w0 : World} {Z0 : SZ} {S0 : LS} {n : Nat} {d : Bk} {w : World} {S : LS} (h : RunX B p a b w0 Z0 S0 n [d] w S) (hn : n < 1000) {v : Value} (hd : d.Ok w p a b v) :
    Calls Tryz.prog 65 #[.pointer (some ⟨p, 324, none⟩), v] w fun e w' => e = .returned (.tuple #[]) ∧ Hid (Run B p a b w0 Z0 S0 (n + 1) w' S ∧ Fl w w') := by
  obtain ⟨i0, hi, hz0, hz1, hz2⟩ := info_parts infoChg
  obtain ⟨Z, ds, h1, h2, h3, h4, h5, h6, h7⟩ := h.z
  obtain ⟨mao, mcap, cao, ccap, e1, e2⟩ := h1.cells
  obtain ⟨xs, hcr, hbk⟩ := h1.cr
  have c324 := h1.lg.c.2.2.2.2.1
  have c325 := h1.lg.c.2.2.2.2.2
  have cl := h1.lg.lt.1
  have hone := hd.one
  rw [e1] at c324
  rw [e2] at c325
  by_cases hL : Z.ms = []
  · have HE : Hid (Run B p a b w0 Z0 S0 (n + 1) w S ∧ Fl w w) := by
      refine ⟨⟨⟨Z, ds ++ [d], h1, h2, h3, ?_, by rw [List.length_append]; show _ + 1 ≤ _; omega, by rw [List.append_nil]; exact h6, h7⟩, h.os, h.tape, h.output, h.size, h.block, h.fl, h.z0⟩, Fl.refl _⟩
      rw [h3] at hL
      rw [h4, if_pos hL, if_pos hL]
    rw [hL] at c324
    simp only [List.length_nil] at c324
    clear h h1 h2 h3 h4 h5 h6 h7 e1 e2 hcr hbk c325 hd hone hL hi hz0 hz1 hz2
    go_enter Tryz.func65, Tryz.ntmps65
    go_wp2
    go_end0
    exact ⟨rfl, HE⟩
  have hLp : 0 < Z.ms.length := List.length_pos_iff.2 hL
  have hcl : Z.cs.length ≤ 200000000000 := by
    have := h.z0
    rw [h3] at hL
    rw [h4, if_neg hL, List.length_append]
    omega
  have hxl : xs.length = Z.cs.length := by have := hcr.1; omega
  have HRN := hide h
  have HKP : Hid (∀ o (v' : Value) (w4 : World), w4.ownsRow B 170 1 v' (Z.cs.length + 1) (xs ++ [v]) → (w.alloc o).grownBy w4 (Value.slice cao Z.cs.length ccap).ownBlock → (v'.ownBlock = (Value.slice cao Z.cs.length ccap).ownBlock ∨ v'.ownBlock = some (w.alloc o).heap.size) → Hid (Run B p a b w0 Z0 S0 (n + 1) (w4.setCell ⟨p, 325, none⟩ v') S ∧ Fl w (w4.setCell ⟨p, 325, none⟩ v')) ∧ w4.cell? ⟨p, 325, none⟩ = some (.slice cao Z.cs.length ccap) ∧ p < w4.heap.size ∧ w4.frozen? ⟨p, 325, none⟩ = false) := fun o v' w4 ho hg hat => by
    have b0 : Below w.heap.size w (w.alloc o) := (Below.refl _ w).alloc (Nat.le_refl _) o
    rw [← e2] at hg hat
    obtain ⟨k1, k2, k3, k4, k5, k6, k7⟩ := h1.noted hbk hxl hd b0 ho hg
    have hk := h1.kept b0
    have hr1 := hk.rows.1
    have l4 : LG w4 p a b Z.mv Z.cv S := hk.lg.other hg (fun e => (hr1 p (.inl rfl)).2 e.symm) (fun e => (hr1 a (.inr (.inl rfl))).2 e.symm) (fun e => (hr1 b (.inr (.inr rfl))).2 e.symm)
    refine ⟨⟨⟨⟨_, ds ++ [d], k1, h2, h3, ?_, by rw [List.length_append]; show _ + 1 ≤ _; omega, by rw [List.append_nil]; exact h6, fun k hk => ?_⟩, k4.trans h.os, k5.trans h.tape, k6.trans h.output, Nat.le_trans h.size k7, fun k hk n1 n2 n3 n4 n5 => ?_, h.fl.trans k2, h.z0⟩, k2⟩, by rw [← e2]; exact l4.c.2.2.2.2.2, l4.lt.1, l4.free 325⟩
    · show Z.cs ++ [d] = _
      rw [h3] at hL
      rw [h4, if_neg hL, if_neg hL, List.append_assoc]
    · have hk' : v'.ownBlock = some k := hk
      rcases hat with e | e
      · exact h7 k (by rw [← e]; exact hk')
      · rw [hk'] at e
        have := Option.some.inj e
        have := b0.size
        have := h.size
        exact .inr (by omega)
    · refine (k3 k (Nat.lt_of_lt_of_le hk h.size) n1 (fun e => ?_)).trans (h.block k hk n1 n2 n3 n4 n5)
      rcases h7 k e with e | e
      · exact n5 e
      · omega
  have HOW : Hid (∀ o, (w.alloc o).ownsRow B 170 1 (.slice cao Z.cs.length ccap) Z.cs.length xs) := fun o => by rw [← e2]; exact hcr.alloc o
  have HBS : Hid (∀ o, B ≤ (w.alloc o).heap.size) := fun o => by have := h1.lo.1; have := h1.lg.lt.1; simp; omega
  have g0 : decide ((Z.ms.length : Int) > 0) = true := decide_eq_true (by omega)
  have g0' : decide (0 < Z.ms.length) = true := decide_eq_true hLp
  obtain ⟨f, ca, rfl⟩ : ∃ f ca, v = .func f #[] ca := by
    cases d with
    | A x old => exact hd.2.func
    | H x old => exact hd.2.func
    | J k sq old => obtain ⟨_, _, _, _, _, _, _, _, e⟩ := hd.2; exact ⟨_, _, e⟩
  clear h h1 h2 h3 h4 h5 h6 h7 e1 e2 hcr hbk hd hone hL hxl
  go_enter Tryz.func65, Tryz.ntmps65
  go_wp2_with (at_builtin; refine wpList_append_own_at _ rfl (.tmp 14) (.tmp 17) 74 rfl B 170 i0 (.agg #[.nilFunc]) 1 8 Tryz.underlying74 hi hz0 hz1 hz2 rfl (by decide) (.slice cao Z.cs.length ccap) Z.cs.length xs rfl (HOW.out _) ⟨w.heap.size, 0, none⟩ 1 1 [.func f #[] ca] rfl rfl (cells_newA _ _ _) (by simp [Value.oneCell']) (by unfold maxLen; omega) (by omega) (HBS.out _) ?_; intro v' w4 ho hg _ hat; obtain ⟨vo4, vc4, rfl⟩ := own_form2 ho; obtain ⟨HE, m5, ml, mf⟩ := HKP.out _ _ _ ho hg hat; clear ho hg hat)
  go_end0
  exact ⟨rfl, HE⟩
end Go.Proofs.YtcfenjpdjogmdaaGreat
namespace Go.Proofs.YtcfenjpdjogmdaaGreat
open Go.RowKit

theorem LG.uniq {W : World} {p a b : Nat} {mk ch mk' ch' : Value} {S S' : LS} (h : LG W p a b mk ch S) (h' : LG W p a b mk' ch' S') : mk = mk' ∧ ch = ch' := by
  have h1 := h.c.2.2.2.2
  have h2 := h'.c.2.2.2.2
  rw [h1.1] at h2
  rw [h1.2] at h2
  exact ⟨Option.some.inj h2.1, Option.some.inj h2.2⟩
/-- What is done and not yet noted, with what takes it back; the box q of what was handed in. -/
def Mid (B p a b : Nat) (w0 : World) (Z0 : SZ) (S0 : LS) (n : Nat) (d : Bk) (w : World) (q : Nat) (o : Obj) (v : Value) (w1 : World) (S : LS) : Prop :=
  RunX B p a b w0 Z0 S0 n [d] w1 S ∧ Fl w w1 ∧ d.Ok w1 p a b v ∧ w1.heap[q]? = some o
section
variable {B p a b : Nat} {w0 : World} {Z0 : SZ} {S0 : LS} {n : Nat} {w : World} {S : LS}
theorem undo_J (S : LS) (kd fr tw am : Nat) : undoAll [.J (S.nx % 64) S.nx (S.rg (S.nx % 64))] (S.line kd fr tw am).ms = undoAll [] S.ms := by
  show (⟨S.tot, S.acc.length, byK Ac.id S.acc, S.hol.length, byK Ho.id S.hol, S.nx, fun i => if i = S.nx % 64 then S.rg (S.nx % 64) else (if i = S.nx % 64 then (⟨S.nx, kd, fr, tw, am⟩ : Jn) else S.rg i)⟩ : MS) = S.ms
  unfold LS.ms
  congr 1
  funext i
  by_cases e : i = S.nx % 64
  · rw [if_pos e, e]
  · rw [if_neg e, if_neg e]
theorem undo_A {l : List Ac} (x : Nat) (new : Option Ac) (hb : ∀ y, byK Ac.id l y = if y = x then new else byK Ac.id S.acc y) (hl : l.length = cntO S.acc.length (byK Ac.id S.acc x) new) (hpos : (byK Ac.id S.acc x).isSome = true → 0 < S.acc.length) : undoAll [.A x (byK Ac.id S.acc x)] ({ S with acc := l } : LS).ms = undoAll [] S.ms := by
  show ({ ({ S with acc := l } : LS).ms with acn := cntO l.length (byK Ac.id l x) (byK Ac.id S.acc x), acf := updO (byK Ac.id l) x (byK Ac.id S.acc x) } : MS) = S.ms
  have e1 : updO (byK Ac.id l) x (byK Ac.id S.acc x) = byK Ac.id S.acc := by
    funext y
    unfold updO
    by_cases e : y = x
    · rw [if_pos e, e]
    · rw [if_neg e, hb, if_neg e]
  have e2 : cntO l.length (byK Ac.id l x) (byK Ac.id S.acc x) = S.acc.length := by
    rw [hl, hb, if_pos rfl]
    unfold cntO
    cases e : (byK Ac.id S.acc x).isSome with
    | true => have := hpos e; cases e' : new.isSome <;> simp <;> omega
    | false => cases e' : new.isSome <;> simp
  rw [e1, e2]
  rfl
theorem undo_H {l : List Ho} (x : Nat) (new : Option Ho) (hb : ∀ y, byK Ho.id l y = if y = x then new else byK Ho.id S.hol y) (hl : l.length = cntO S.hol.length (byK Ho.id S.hol x) new) (hpos : (byK Ho.id S.hol x).isSome = true → 0 < S.hol.length) : undoAll [.H x (byK Ho.id S.hol x)] ({ S with hol := l } : LS).ms = undoAll [] S.ms := by
  show ({ ({ S with hol := l } : LS).ms with hon := cntO l.length (byK Ho.id l x) (byK Ho.id S.hol x), hof := updO (byK Ho.id l) x (byK Ho.id S.hol x) } : MS) = S.ms
  have e1 : updO (byK Ho.id l) x (byK Ho.id S.hol x) = byK Ho.id S.hol := by
    funext y
    unfold updO
    by_cases e : y = x
    · rw [if_pos e, e]
    · rw [if_neg e, hb, if_neg e]
  have e2 : cntO l.length (byK Ho.id l x) (byK Ho.id S.hol x) = S.hol.length := by
    rw [hl, hb, if_pos rfl]
    unfold cntO
    cases e : (byK Ho.id S.hol x).isSome with
    | true => have := hpos e; cases e' : new.isSome <;> simp <;> omega
    | false => cases e' : new.isSome <;> simp
  rw [e1, e2]
  rfl
theorem by_pos {α : Type} {key : α → Nat} {l : List α} {x : Nat} (h : (byK key l x).isSome = true) : 0 < l.length := by
  obtain ⟨y, hy⟩ := Option.isSome_iff_exists.1 h
  exact List.length_pos_of_mem (byK_mem hy).1
set_option maxRecDepth 10000 in
set_option maxHeartbeats 800000 in
theorem lwriteM (h : Run B p a b w0 Z0 S0 n w S) (hn : n < 999) (hok : S.Ok) (kd fr tw am : Nat) :
    Calls Tryz.prog 63 #[.pointer (some ⟨p, 0, none⟩), .int .i64 (kd : Nat), .int .u64 (fr : Nat), .int .u64 (tw : Nat), .int .u64 (am : Nat)] w fun e w' => e = .returned (.tuple #[]) ∧ Hid (Run B p a b w0 Z0 S0 (n + 1) w' (S.line kd fr tw am) ∧ Fl w w') := by
  have HJ : Hid (Calls Tryz.prog 106 #[.pointer (some ⟨p, 3, none⟩), .int .i64 (kd : Nat), .int .u64 (fr : Nat), .int .u64 (tw : Nat), .int .u64 (am : Nat)] w.drew fun e w' => ∃ v, e = .returned v ∧ Hid (RunX B p a b w0 Z0 S0 n [.J (S.nx % 64) S.nx (S.rg (S.nx % 64))] w' (S.line kd fr tw am) ∧ Fl w w' ∧ Bk.Ok w' p a b (.J (S.nx % 64) S.nx (S.rg (S.nx % 64))) v)) := by
    have hd : Below w.heap.size w w.drew := (Below.refl _ w).drew
    have h0 := h.kept hd
    obtain ⟨mk, ch, hl⟩ := h0.lg
    refine (jwriteA hl hok kd fr tw am).mono ?_
    rintro e w' ⟨v, rfl, G⟩
    obtain ⟨g1, g2, g3⟩ := G.out
    have hs := h0.step (S' := S.line kd fr tw am) (ex' := [.J (S.nx % 64) S.nx (S.rg (S.nx % 64))]) g3 (fun q e => .inl (Option.some.inj e).symm) (fun mk' ch' hl' => by
      obtain ⟨rfl, rfl⟩ := hl.uniq hl'
      exact g2) (undo_J S kd fr tw am)
    exact ⟨v, rfl, hs.1, (Fl.below hd).trans hs.2, Nat.mod_lt _ (by decide), g1⟩
  have HNW : Hid (∀ w1 v, Hid (RunX B p a b w0 Z0 S0 n [.J (S.nx % 64) S.nx (S.rg (S.nx % 64))] w1 (S.line kd fr tw am) ∧ Fl w w1 ∧ Bk.Ok w1 p a b (.J (S.nx % 64) S.nx (S.rg (S.nx % 64))) v) → Calls Tryz.prog 65 #[.pointer (some ⟨p, 324, none⟩), v] w1 fun e w' => e = .returned (.tuple #[]) ∧ Hid (Run B p a b w0 Z0 S0 (n + 1) w' (S.line kd fr tw am) ∧ Fl w w')) := fun w1 v hG => by
    refine (noteX hG.out.1 (by omega) hG.out.2.2).mono ?_
    rintro e w' ⟨rfl, G⟩
    exact ⟨rfl, G.out.1, hG.out.2.1.trans G.out.2⟩
  obtain ⟨mk, ch, hl⟩ := h.lg
  have cl := hl.lt.1
  clear h hok hl hn
  go_enter Tryz.func63, Tryz.ntmps63
  go_region_with (first | (go_at_call 106; refine HJ.out.mono ?_; rintro e w1 ⟨v, rfl, HG⟩; have HN := hide (HNW.out _ _ HG)) | (go_at_call 65; refine HN.out.mono ?_; rintro e w2 ⟨rfl, HE⟩))
  go_wp2
  go_end0
  exact ⟨rfl, HE⟩
/-- What noting gives, where the box of what was handed in is looked at. -/
theorem noteM {d : Bk} {q : Nat} {o : Obj} {cs : Array Value} {t : TypeId} (ho : o = .cells cs t (0, 0)) (ht : t ≠ 78 ∧ t ≠ 3 ∧ t ≠ 170) (hn : n < 999) {v : Value} {w1 : World} {S' : LS} (h : Mid B p a b w0 Z0 S0 n d w q o v w1 S') :
    Calls Tryz.prog 65 #[.pointer (some ⟨p, 324, none⟩), v] w1 fun e w' => e = .returned (.tuple #[]) ∧ (w'.cell? ⟨p, 1, none⟩ = some (.map (some a)) ∧ w'.cell? ⟨p, 2, none⟩ = some (.map (some b)) ∧ w'.heap[q]? = some (.cells cs t (0, 0))) ∧ Hid (Run B p a b w0 Z0 S0 (n + 1) w' S' ∧ Fl w w') := by
  obtain ⟨h1, h2, h3, h4⟩ := h
  refine (noteX h1 (by omega) h3).mono ?_
  rintro e w' ⟨rfl, G⟩
  obtain ⟨mk, ch, hl⟩ := G.out.1.lg
  rw [ho] at h4
  exact ⟨rfl, ⟨hl.c.2.1, hl.c.2.2.1, G.out.2.at_ _ _ _ h4 ht.1 ht.2.1 ht.2.2⟩, G.out.1, h2.trans G.out.2⟩
set_option maxRecDepth 10000 in
set_option maxHeartbeats 1600000 in
theorem setAccM (h : Run B p a b w0 Z0 S0 n w S) (hr : n < 999) (hn : S.acc.length ≤ 64) (x : Ac) (hx : x.id < 18446744073709551616) {l : List Ac} (hb : ∀ y, byK Ac.id l y = if y = x.id then some x else byK Ac.id S.acc y) (hl : l.length = if (byK Ac.id S.acc x.id).isSome = true then S.acc.length else S.acc.length + 1) :
    Calls Tryz.prog 62 #[.pointer (some ⟨p, 0, none⟩), .agg x.arr] w fun e w' => e = .returned (.tuple #[]) ∧ Hid (Run B p a b w0 Z0 S0 (n + 1) w' { S with acc := l } ∧ Fl w w') := by
  obtain ⟨mk, ch, hlg⟩ := h.lg
  have c1 := hlg.c.2.1
  have cl := hlg.lt.1
  have HP : Hid (Calls Tryz.prog 105 #[.map (some a), .int .u64 (x.id : Nat), .agg x.arr] (w.alloc (.cells x.arr 81)).drew fun e w' => ∃ v, e = .returned v ∧ w'.cell? ⟨p, 1, none⟩ = some (.map (some a)) ∧ (w'.cell? ⟨w.heap.size, 0, none⟩ = some (.int .u64 (x.id : Nat)) ∧ w'.cell? ⟨w.heap.size, 1, none⟩ = some (.int .u64 (x.ow : Nat)) ∧ w'.cell? ⟨w.heap.size, 2, none⟩ = some (.int .u64 (x.ba : Nat)) ∧ w'.cell? ⟨w.heap.size, 3, none⟩ = some (.int .u64 (x.cp : Nat))) ∧ Hid (Mid B p a b w0 Z0 S0 n (.A x.id (byK Ac.id S.acc x.id)) w w.heap.size (.cells x.arr 81 (0, 0)) v w' { S with acc := l })) := by
    have hb0 : Below w.heap.size w (w.alloc (.cells x.arr 81)).drew := ((Below.refl _ w).alloc (Nat.le_refl _) _).drew
    have h0 := h.kept hb0
    have hl0 := hlg.kept hb0
    have q0 : (w.alloc (.cells x.arr 81)).drew.heap[w.heap.size]? = some (.cells x.arr 81 (0, 0)) := alloc_atK _ _
    refine (putA hl0.acc x hx (by unfold maxLen; omega)).mono ?_
    rintro e w' ⟨v, rfl, G⟩
    obtain ⟨gb, ht, hg⟩ := G.out
    have ht' : TAm w' a l.length (byK Ac.id l) := ht.congr hl.symm (fun y => (hb y).symm)
    have hne : w.heap.size ≠ a := fun e => by have := hlg.lt.2.1; omega
    have q1 := (hg.block _ (block_lt q0) (fun e => hne (Option.some.inj e))).trans q0
    have hs := h0.step (S' := { S with acc := l }) (ex' := [.A x.id (byK Ac.id S.acc x.id)]) hg (fun q e => .inr (.inl (Option.some.inj e).symm)) (fun mk' ch' hl' => hl'.toA ht' hg) (undo_A x.id (some x) hb (by rw [hl]; unfold cntO; cases e : (byK Ac.id S.acc x.id).isSome <;> simp) by_pos)
    exact ⟨v, rfl, (hl0.toA ht' hg).c.2.1, ⟨block_cell q1 0, block_cell q1 1, block_cell q1 2, block_cell q1 3⟩, hs.1, (Fl.below hb0).trans hs.2, ⟨hx, gb⟩, q1⟩
  have HNW : Hid (∀ w1 v, Hid (Mid B p a b w0 Z0 S0 n (.A x.id (byK Ac.id S.acc x.id)) w w.heap.size (.cells x.arr 81 (0, 0)) v w1 { S with acc := l }) → Calls Tryz.prog 65 #[.pointer (some ⟨p, 324, none⟩), v] w1 fun e w' => e = .returned (.tuple #[]) ∧ w'.cell? ⟨p, 1, none⟩ = some (.map (some a)) ∧ (w'.cell? ⟨w.heap.size, 0, none⟩ = some (.int .u64 (x.id : Nat)) ∧ w'.cell? ⟨w.heap.size, 1, none⟩ = some (.int .u64 (x.ow : Nat)) ∧ w'.cell? ⟨w.heap.size, 2, none⟩ = some (.int .u64 (x.ba : Nat)) ∧ w'.cell? ⟨w.heap.size, 3, none⟩ = some (.int .u64 (x.cp : Nat))) ∧ Hid (Run B p a b w0 Z0 S0 (n + 1) w' { S with acc := l } ∧ Fl w w')) := fun w1 v hG => by
    refine (noteM rfl ⟨by decide, by decide, by decide⟩ hr hG.out).mono ?_
    rintro e w' ⟨rfl, ⟨q1, _, q2⟩, G⟩
    exact ⟨rfl, q1, ⟨block_cell q2 0, block_cell q2 1, block_cell q2 2, block_cell q2 3⟩, G⟩
  clear h hn hx hb hl hlg hr
  unfold Ac.arr at *
  generalize (x.id : Int) = X0 at *
  generalize (x.ow : Int) = X1 at *
  generalize (x.ba : Int) = X2 at *
  generalize (x.cp : Int) = X3 at *
  go_enter Tryz.func62, Tryz.ntmps62
  go_wp2_with fail
  go_region_held (fun w' => w'.cell? ⟨p, 1, none⟩ = some (.map (some a)) ∧ (w'.cell? ⟨w.heap.size, 0, none⟩ = some (.int .u64 X0) ∧ w'.cell? ⟨w.heap.size, 1, none⟩ = some (.int .u64 X1) ∧ w'.cell? ⟨w.heap.size, 2, none⟩ = some (.int .u64 X2) ∧ w'.cell? ⟨w.heap.size, 3, none⟩ = some (.int .u64 X3))) (go_keep)
    (first | (go_at_call 105; refine HP.out.mono ?_; rintro e w1 ⟨v, rfl, h1, h2, HG⟩; have HN := hide (HNW.out _ _ HG)) | (go_at_call 65; refine HN.out.mono ?_; rintro e w2 ⟨rfl, h3, h4, HE⟩))
  go_wp2
  go_end0
  exact ⟨rfl, HE⟩
end
end Go.Proofs.YtcfenjpdjogmdaaGreat
