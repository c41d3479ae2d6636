import Derived.Test.YtcfenjpdjogmdaaLT45
namespace Go.Proofs.Ytcfenjpdjogmdaa
open Go.RowKit

theorem LQP.mono {B p a b M : Nat} {V V' : World} {Z : SZ} {T : LS} {R : List LS} {N : Nat} (h : LQP B p a b M V V' Z T R) (hN : M ≤ N) : LQP B p a b N V V' Z T R := by
  obtain ⟨Z', h1, h2⟩ := h
  exact ⟨Z', ⟨h1.l, h1.v, by have := h1.c; omega, h1.ok, h1.oq⟩, h2⟩
/-- A step of whatever kind. -/
theorem doesQ {B p a b M lim : Nat} {V : World} {Z : SZ} {S : LS} {Q : List LS} (h : LQ B p a b M V Z S Q) (hM : M ≤ 100000000000) {o : OpR} (ho : o.Ok lim V) (hlim : lim ≤ V.heap.size) {c : Int} {T : LS} {R : List LS} (hS : stepQ S Q o = (c, T, R)) :
    Calls Try.prog 6 #[.pointer (some ⟨p, 0, none⟩), .agg o.arr] V fun e w' => e = .returned (.int .i64 c) ∧ Hid (LQP B p a b M V w' Z T R) := by
  by_cases h16 : 1 ≤ o.K ∧ o.K ≤ 6
  · obtain ⟨kk, hkk⟩ : ∃ kk : Nat, o.K = (kk : Int) := Int.eq_ofNat_of_zero_le (by omega)
    obtain ⟨cS, hcS⟩ : ∃ cS, S.step kk o.A o.B o.C o.l = cS := ⟨_, rfl⟩
    obtain ⟨d, S1⟩ := cS
    have e := (stepQ_16 (Q := Q) hkk (by omega) hcS).symm.trans hS
    cases e
    obtain ⟨bs, off, hsh, hso⟩ := ho.sh
    have hd := doesM h.l (by have := h.c; omega) h.ok (k := kk) (by omega) (by omega) ho.hA ho.hB ho.hC o.N o.sn o.sc ho.hn hsh (fun h0 => ⟨(hso h0).1, Nat.lt_of_lt_of_le (hso h0).2 hlim⟩) ho.le hcS
    rw [← hkk] at hd
    refine hd.mono ?_
    rintro e V' ⟨rfl, G⟩
    obtain ⟨Z', ds, g1, g2, g3, g4, g5, g6⟩ := G.out.tr
    refine ⟨rfl, Z', ⟨g1, h.v.step g3 g4 g6, ?_, step_ok h.ok ho.hA ho.hB ho.hC hsh.ok hcS, h.oq⟩, g2⟩
    rw [g4]
    have := h.c
    split
    · omega
    · rw [List.length_append]; omega
  · exact doesQ7 h (by omega) (by omega) hS
/-- The blocks that are a ledger's own. -/
def Fp (p a b : Nat) (Z : SZ) (x : Nat) : Prop := x = p ∨ x = a ∨ x = b ∨ Z.mv.ownBlock = some x ∨ Z.cv.ownBlock = some x
theorem LQ.lt {B p a b M : Nat} {V : World} {Z : SZ} {S : LS} {Q : List LS} (h : LQ B p a b M V Z S Q) {x : Nat} (hx : Fp p a b Z x) : B ≤ x ∧ x < V.heap.size := by
  obtain ⟨xs, hc, _⟩ := h.l.cr
  have lt := h.l.lg.lt
  have lo := h.l.lo
  rcases hx with rfl | rfl | rfl | e | e
  · exact ⟨lo.1, lt.1⟩
  · exact ⟨lo.2.1, lt.2.1⟩
  · exact ⟨lo.2.2, lt.2.2⟩
  · exact h.l.mr.lt x e
  · exact hc.lt x e
/-- Two ledgers, marks and all, that know nothing of one another. -/
structure Two (w : World) (p a b p' a' b' M N : Nat) (V : World) (S : LS) (Q : List LS) (S' : LS) (Q' : List LS) : Prop where
  bel : Below w.heap.size w V
  z : ∃ Z Z', LQ w.heap.size p a b M V Z S Q ∧ LQ w.heap.size p' a' b' N V Z' S' Q' ∧ ∀ x, Fp p a b Z x → ¬ Fp p' a' b' Z' x
section
variable {w : World} {p a b p' a' b' M N : Nat} {V V' : World} {S S' : LS} {Q Q' : List LS}
theorem Two.swap (h : Two w p a b p' a' b' M N V S Q S' Q') : Two w p' a' b' p a b N M V S' Q' S Q := by
  obtain ⟨Z, Z', h1, h2, h3⟩ := h.z
  exact ⟨h.bel, Z', Z, h2, h1, fun x hx hy => h3 x hy hx⟩
theorem Two.kept (h : Two w p a b p' a' b' M N V S Q S' Q') (hb : Below V.heap.size V V') : Two w p a b p' a' b' M N V' S Q S' Q' := by
  obtain ⟨Z, Z', h1, h2, h3⟩ := h.z
  exact ⟨h.bel.trans (hb.mono h.bel.size), Z, Z', h1.kept hb, h2.kept hb, h3⟩
/-- The first goes on. -/
theorem Two.go (hb : Below w.heap.size w V) {Z Z' Z1 : SZ} {T : LS} {R : List LS} (h1 : LQ w.heap.size p a b M V Z S Q) (h2 : LQ w.heap.size p' a' b' N V Z' S' Q') (h3 : ∀ x, Fp p a b Z x → ¬ Fp p' a' b' Z' x) (g1 : LQ w.heap.size p a b (M + 48) V' Z1 T R) (g2 : Tr V V' p a b Z Z1) : Two w p a b p' a' b' (M + 48) N V' T R S' Q' := by
  have far : ∀ x, Fp p' a' b' Z' x → V'.heap[x]? = V.heap[x]? := fun x hx => by
    have hn : ¬ Fp p a b Z x := fun hy => h3 x hy hx
    unfold Fp at hn
    exact g2.block x (h2.lt hx).2 (fun e => hn (.inl e)) (fun e => hn (.inr (.inl e))) (fun e => hn (.inr (.inr (.inl e)))) (fun e => hn (.inr (.inr (.inr (.inl e))))) (fun e => hn (.inr (.inr (.inr (.inr e)))))
  refine ⟨g2.below_of hb h1.l, Z1, Z', g1, ⟨h2.l.same far g2.fl, h2.v, h2.c, h2.ok, h2.oq⟩, fun x hx hy => ?_⟩
  have hlt := (h2.lt hy).2
  rcases hx with e | e | e | e | e
  · exact h3 x (.inl e) hy
  · exact h3 x (.inr (.inl e)) hy
  · exact h3 x (.inr (.inr (.inl e))) hy
  · rcases g2.mvn x e with e | e
    · exact h3 x (.inr (.inr (.inr (.inl e)))) hy
    · omega
  · rcases g2.cvn x e with e | e
    · exact h3 x (.inr (.inr (.inr (.inr e)))) hy
    · omega
/-- A step by the first. -/
theorem Two.doesL (h : Two w p a b p' a' b' M N V S Q S' Q') (hM : M ≤ 100000000000) {o : OpR} (ho : o.Ok w.heap.size w) {c : Int} {T : LS} {R : List LS} (hS : stepQ S Q o = (c, T, R)) :
    Calls Try.prog 6 #[.pointer (some ⟨p, 0, none⟩), .agg o.arr] V fun e V' => e = .returned (.int .i64 c) ∧ Hid (Two w p a b p' a' b' (M + 48) N V' T R S' Q' ∧ Fl V V') := by
  obtain ⟨Z, Z', h1, h2, h3⟩ := h.z
  refine (doesQ h1 hM (ho.below h.bel (Nat.le_refl _)) h.bel.size hS).mono ?_
  rintro e V' ⟨rfl, G⟩
  obtain ⟨Z1, g1, g2⟩ := G.out
  exact ⟨rfl, Two.go h.bel h1 h2 h3 g1 g2, g2.fl⟩
/-- A step by the second. -/
theorem Two.doesK (h : Two w p a b p' a' b' M N V S Q S' Q') (hN : N ≤ 100000000000) {o : OpR} (ho : o.Ok w.heap.size w) {c : Int} {T : LS} {R : List LS} (hS : stepQ S' Q' o = (c, T, R)) :
    Calls Try.prog 6 #[.pointer (some ⟨p', 0, none⟩), .agg o.arr] V fun e V' => e = .returned (.int .i64 c) ∧ Hid (Two w p a b p' a' b' M (N + 48) V' S Q T R ∧ Fl V V') := by
  refine (h.swap.doesL hN ho hS).mono ?_
  rintro e V' ⟨rfl, G⟩
  exact ⟨rfl, G.out.1.swap, G.out.2⟩
end
end Go.Proofs.Ytcfenjpdjogmdaa
namespace Go.Proofs.Ytcfenjpdjogmdaa
open Go.RowKit

section
variable {w : World} {p a b p' a' b' M N : Nat} {V : World} {S S' : LS} {Q Q' : List LS}
/-- The first takes a mark back. -/
theorem Two.undoL (h : Two w p a b p' a' b' M N V S Q S' Q') (hM : M ≤ 1000000000000) {k : Nat} (h1k : 1 ≤ k) (hk : k ≤ Q.length) {T : LS} (hT : Q[k - 1]? = some T) : Calls Try.prog 10 #[.pointer (some ⟨p, 0, none⟩), .int .i64 (k : Nat)] V fun e V' => e = .returned (.int .i64 0) ∧ Hid (Two w p a b p' a' b' (M + 48) N V' T (Q.take (k - 1)) S' Q' ∧ Fl V V') := by
  obtain ⟨Z, Z', h1, h2, h3⟩ := h.z
  have hng : ¬ ((k : Int) < 1 ∨ (Q.length : Int) < (k : Int)) := by omega
  have hu := undoQ h1 hM (k : Int)
  rw [if_neg hng, if_neg hng, if_neg hng, Int.toNat_natCast, hT, Option.getD_some] at hu
  refine hu.mono ?_
  rintro e V' ⟨c, rfl, G⟩
  obtain ⟨rfl, Z1, g1, g2⟩ := G.out
  exact ⟨rfl, Two.go h.bel h1 h2 h3 g1 g2, g2.fl⟩
/-- The first's image. -/
theorem Two.imageL (h : Two w p a b p' a' b' M N V S Q S' Q') : Calls Try.prog 7 #[.pointer (some ⟨p, 0, none⟩)] V fun e V' => ∃ ao cap ho hcap jo jcap, e = .returned (imgV S ao cap ho hcap jo jcap) ∧ Hid (ImR V V' S.acc S.hol S.jl ao cap ho hcap jo jcap ∧ Two w p a b p' a' b' M N V' S Q S' Q' ∧ Below V.heap.size V V') := by
  obtain ⟨Z, Z', h1, h2, h3⟩ := h.z
  refine (imageG h1.l.lg h1.ok).mono ?_
  rintro e V' ⟨ao, cap, ho, hcap, jo, jcap, rfl, G⟩
  exact ⟨ao, cap, ho, hcap, jo, jcap, rfl, G.out.1, (Two.kept ⟨h.bel, Z, Z', h1, h2, h3⟩ G.out.2), G.out.2⟩
end
end Go.Proofs.Ytcfenjpdjogmdaa
namespace Go.Proofs.Ytcfenjpdjogmdaa
open Go.RowKit

/-- Two ledgers that differ in what has fallen out of the journal alone. -/
structure SimL (S S' : LS) : Prop where
  tot : S'.tot = S.tot
  acc : S'.acc = S.acc
  hol : S'.hol = S.hol
  nx : S'.nx = S.nx
  rg : ∀ q, S.nx - min (S.nx - 1) 64 ≤ q → q < S.nx → S'.rg (q % 64) = S.rg (q % 64)
theorem SimL.refl (S : LS) : SimL S S := ⟨rfl, rfl, rfl, rfl, fun _ _ _ => rfl⟩
theorem SimL.jl {S S' : LS} (h : SimL S S') : S'.jl = S.jl := by
  unfold LS.jl
  rw [h.nx]
  refine List.map_congr_left (fun i hi => ?_)
  have hi' := List.mem_range.1 hi
  exact h.rg _ (by omega) (by omega)
theorem SimL.line {S S' : LS} (h : SimL S S') (kd fr tw am : Nat) : SimL (S.line kd fr tw am) (S'.line kd fr tw am) := by
  refine ⟨h.tot, h.acc, h.hol, by show S'.nx + 1 = S.nx + 1; rw [h.nx], fun q h1 h2 => ?_⟩
  have h1' : S.nx + 1 - min (S.nx + 1 - 1) 64 ≤ q := h1
  have h2' : q < S.nx + 1 := h2
  show (if q % 64 = S'.nx % 64 then (⟨S'.nx, kd, fr, tw, am⟩ : Jn) else S'.rg (q % 64)) = (if q % 64 = S.nx % 64 then (⟨S.nx, kd, fr, tw, am⟩ : Jn) else S.rg (q % 64))
  rw [h.nx]
  by_cases e : q % 64 = S.nx % 64
  · rw [if_pos e, if_pos e]
  · rw [if_neg e, if_neg e]
    exact h.rg q (by omega) (by have : q ≠ S.nx := fun e' => e (by rw [e']); omega)
theorem SimL.acc_ {S S' : LS} (h : SimL S S') (a : List Ac) : SimL { S with acc := a } { S' with acc := a } := ⟨h.tot, rfl, h.hol, h.nx, h.rg⟩
theorem SimL.hol_ {S S' : LS} (h : SimL S S') (a : List Ho) : SimL { S with hol := a } { S' with hol := a } := ⟨h.tot, h.acc, rfl, h.nx, h.rg⟩
theorem SimL.setA {S S' : LS} (h : SimL S S') (a : Ac) : SimL (S.setA a) (S'.setA a) := by unfold LS.setA; rw [h.acc]; exact h.acc_ _
theorem SimL.setH {S S' : LS} (h : SimL S S') (a : Ho) : SimL (S.setH a) (S'.setH a) := by unfold LS.setH; rw [h.hol]; exact h.hol_ _
theorem SimL.full {S S' : LS} (h : SimL S S') (n : Nat) : S'.full n = S.full n := by unfold LS.full; rw [h.nx]
/-- Alike: the answer, and what is left. -/
def Alk (r r' : Nat × LS) : Prop := r'.1 = r.1 ∧ SimL r.2 r'.2
theorem SimL.creates {S S' : LS} (h : SimL S S') (i o c : Nat) : Alk (S.creates i o c) (S'.creates i o c) := by
  unfold LS.creates
  rw [h.full, h.acc]
  by_cases c0 : i = 0
  · simp only [if_pos c0]; exact ⟨rfl, h⟩
  simp only [if_neg c0]
  by_cases c1 : (byK Ac.id S.acc i).isSome = true
  · simp only [if_pos c1]; exact ⟨rfl, h⟩
  simp only [if_neg c1]
  by_cases c2 : 64 ≤ S.acc.length ∨ S.full 1 = true
  · simp only [if_pos c2]; exact ⟨rfl, h⟩
  simp only [if_neg c2]
  exact ⟨rfl, (h.acc_ _).line _ _ _ _⟩
theorem SimL.closes {S S' : LS} (h : SimL S S') (i : Nat) : Alk (S.closes i) (S'.closes i) := by
  unfold LS.closes
  rw [h.full, h.acc, h.hol]
  by_cases c0 : i = 0
  · simp only [if_pos c0]; exact ⟨rfl, h⟩
  simp only [if_neg c0]
  cases byK Ac.id S.acc i with
  | none => exact ⟨rfl, h⟩
  | some a =>
    dsimp only
    by_cases c1 : a.ba ≠ 0 ∨ S.hol.any (fun h => h.fr == i) = true
    · simp only [if_pos c1]; exact ⟨rfl, h⟩
    simp only [if_neg c1]
    by_cases c2 : S.full 1 = true
    · simp only [if_pos c2]; exact ⟨rfl, h⟩
    simp only [if_neg c2]
    have := (h.acc_ (remK Ac.id S.acc i)).line 2 i 0 0
    rw [h.hol] at this
    exact ⟨rfl, this⟩
theorem SimL.moves {S S' : LS} (h : SimL S S') (f t m : Nat) : Alk (S.moves f t m) (S'.moves f t m) := by
  unfold LS.moves
  rw [h.full, h.acc]
  by_cases c0 : f = 0 ∨ t = 0
  · simp only [if_pos c0]; exact ⟨rfl, h⟩
  simp only [if_neg c0]
  cases byK Ac.id S.acc f with
  | none => exact ⟨rfl, h⟩
  | some a =>
    cases byK Ac.id S.acc t with
    | none => exact ⟨rfl, h⟩
    | some b =>
      dsimp only
      by_cases c1 : f = t
      · simp only [if_pos c1]; exact ⟨rfl, h⟩
      simp only [if_neg c1]
      by_cases c2 : m = 0
      · simp only [if_pos c2]; exact ⟨rfl, h⟩
      simp only [if_neg c2]
      by_cases c3 : a.ba < m
      · simp only [if_pos c3]; exact ⟨rfl, h⟩
      simp only [if_neg c3]
      by_cases c4 : b.cp - b.ba < m
      · simp only [if_pos c4]; exact ⟨rfl, h⟩
      simp only [if_neg c4]
      by_cases c5 : S.full 1 = true
      · simp only [if_pos c5]; exact ⟨rfl, h⟩
      simp only [if_neg c5]
      exact ⟨rfl, ((h.setA _).setA _).line _ _ _ _⟩
theorem SimL.holds {S S' : LS} (h : SimL S S') (x f m : Nat) : Alk (S.holds x f m) (S'.holds x f m) := by
  unfold LS.holds
  rw [h.full, h.acc, h.hol]
  by_cases c0 : x = 0 ∨ f = 0
  · simp only [if_pos c0]; exact ⟨rfl, h⟩
  simp only [if_neg c0]
  by_cases c1 : (byK Ho.id S.hol x).isSome = true
  · simp only [if_pos c1]; exact ⟨rfl, h⟩
  simp only [if_neg c1]
  cases byK Ac.id S.acc f with
  | none => exact ⟨rfl, h⟩
  | some a =>
    dsimp only
    by_cases c2 : m = 0
    · simp only [if_pos c2]; exact ⟨rfl, h⟩
    simp only [if_neg c2]
    by_cases c3 : a.ba < m
    · simp only [if_pos c3]; exact ⟨rfl, h⟩
    simp only [if_neg c3]
    by_cases c4 : 64 ≤ S.hol.length ∨ S.full 1 = true
    · simp only [if_pos c4]; exact ⟨rfl, h⟩
    simp only [if_neg c4]
    exact ⟨rfl, ((h.setA _).hol_ _).line _ _ _ _⟩
theorem SimL.paysOut {S S' : LS} (h : SimL S S') (x t m : Nat) : SimL (S.paysOut x t m) (S'.paysOut x t m) := by
  unfold LS.paysOut
  rw [h.acc, h.hol]
  exact ((h.setH _).setA _).line _ _ _ _
theorem SimL.pays {S S' : LS} (h : SimL S S') (x t m : Nat) : Alk (S.pays x t m) (S'.pays x t m) := by
  unfold LS.pays
  rw [h.full, h.acc, h.hol]
  by_cases c0 : x = 0 ∨ t = 0
  · simp only [if_pos c0]; exact ⟨rfl, h⟩
  simp only [if_neg c0]
  cases byK Ho.id S.hol x with
  | none => exact ⟨rfl, h⟩
  | some y =>
    cases byK Ac.id S.acc t with
    | none => exact ⟨rfl, h⟩
    | some a =>
      dsimp only
      by_cases c2 : m = 0
      · simp only [if_pos c2]; exact ⟨rfl, h⟩
      simp only [if_neg c2]
      by_cases c3 : y.am < m
      · simp only [if_pos c3]; exact ⟨rfl, h⟩
      simp only [if_neg c3]
      by_cases c4 : a.cp - a.ba < m
      · simp only [if_pos c4]; exact ⟨rfl, h⟩
      simp only [if_neg c4]
      by_cases c5 : S.full 1 = true
      · simp only [if_pos c5]; exact ⟨rfl, h⟩
      simp only [if_neg c5]
      exact ⟨rfl, h.paysOut _ _ _⟩
theorem SimL.fold {x : Nat} : ∀ (l : List Sh) {S S' : LS} (_ : SimL S S'), SimL (l.foldl (fun S s => S.paysOut x s.tw s.am) S) (l.foldl (fun S s => S.paysOut x s.tw s.am) S')
  | [], _, _, h => h
  | s :: r, _, _, h => SimL.fold r (h.paysOut x s.tw s.am)
theorem SimL.shares {S S' : LS} (h : SimL S S') : ∀ l : List Sh, S'.shares l = S.shares l
  | [] => rfl
  | s :: r => by
    have e : S'.share s = S.share s := by unfold LS.share; rw [h.acc]
    unfold LS.shares
    rw [e, SimL.shares h r]
theorem SimL.settles {S S' : LS} (h : SimL S S') (x : Nat) (l : List Sh) : Alk (S.settles x l) (S'.settles x l) := by
  have e : S'.fit l = S.fit l := by unfold LS.fit; rw [h.acc]
  unfold LS.settles
  rw [h.full, h.hol, h.shares, e]
  by_cases c0 : x = 0
  · simp only [if_pos c0]; exact ⟨rfl, h⟩
  simp only [if_neg c0]
  cases byK Ho.id S.hol x with
  | none => exact ⟨rfl, h⟩
  | some y =>
    dsimp only
    by_cases c1 : l.length = 0 ∨ 16 < l.length
    · simp only [if_pos c1]; exact ⟨rfl, h⟩
    simp only [if_neg c1]
    by_cases c2 : S.shares l ≠ 0
    · simp only [if_pos c2]; exact ⟨rfl, h⟩
    simp only [if_neg c2]
    by_cases c3 : shSum l ≠ y.am
    · simp only [if_pos c3]; exact ⟨rfl, h⟩
    simp only [if_neg c3]
    by_cases c4 : S.fit l = false
    · simp only [if_pos c4]; exact ⟨rfl, h⟩
    simp only [if_neg c4]
    by_cases c5 : S.full l.length = true
    · simp only [if_pos c5]; exact ⟨rfl, h⟩
    simp only [if_neg c5]
    exact ⟨rfl, SimL.fold l h⟩
theorem SimL.step {S S' : LS} (h : SimL S S') (k a b c : Nat) (l : List Sh) : Alk (S.step k a b c l) (S'.step k a b c l) := by
  unfold LS.step
  by_cases k1 : k = 1
  · simp only [if_pos k1]; exact h.creates _ _ _
  by_cases k2 : k = 2
  · simp only [if_neg k1, if_pos k2]; exact h.closes _
  by_cases k3 : k = 3
  · simp only [if_neg k1, if_neg k2, if_pos k3]; exact h.moves _ _ _
  by_cases k4 : k = 4
  · simp only [if_neg k1, if_neg k2, if_neg k3, if_pos k4]; exact h.holds _ _ _
  by_cases k5 : k = 5
  · simp only [if_neg k1, if_neg k2, if_neg k3, if_neg k4, if_pos k5]; exact h.pays _ _ _
  simp only [if_neg k1, if_neg k2, if_neg k3, if_neg k4, if_neg k5]
  exact h.settles _ _
/-- Each hold was taken from an account that is there. -/
def LS.Hf (S : LS) : Prop := ∀ x ∈ S.hol, (byK Ac.id S.acc x.fr).isSome = true
theorem rep_some (l : List Ac) (a : Ac) (x : Nat) : (byK Ac.id (repK Ac.id l a) x).isSome = (byK Ac.id l x).isSome := by
  have key : ∀ m : List Ac, (byK Ac.id m x).isSome = (m.map Ac.id).any (fun i => i == x) := fun m => by
    induction m with
    | nil => rfl
    | cons y r ih =>
      rw [byK_cons]
      simp only [List.map_cons, List.any_cons]
      by_cases e : y.id = x
      · simp [e]
      · rw [if_neg e, ih]; simp [e]
  rw [key, key, repK_key]
theorem LS.Hf.setA {S : LS} (h : S.Hf) (a : Ac) : (S.setA a).Hf := fun x hx => by
  show (byK Ac.id (repK Ac.id S.acc a) x.fr).isSome = true
  rw [rep_some]
  exact h x hx
theorem LS.Hf.paysOut {S : LS} (h : S.Hf) (x t m : Nat) : (S.paysOut x t m).Hf := by
  have key : ∀ z : Ho, (z.am ≠ 0 → ∃ y ∈ S.hol, z.fr = y.fr) → (S.setH z).Hf := fun z hz y hy => by
    show (byK Ac.id S.acc y.fr).isSome = true
    unfold LS.setH at hy
    by_cases e : z.am = 0
    · have hy' : y ∈ (if z.am = 0 then remK Ho.id S.hol z.id else repK Ho.id S.hol z) := hy
      rw [if_pos e] at hy'
      exact h y (remK_mem.1 hy').1
    · have hy' : y ∈ (if z.am = 0 then remK Ho.id S.hol z.id else repK Ho.id S.hol z) := hy
      rw [if_neg e] at hy'
      rcases repK_mem hy' with e1 | e1
      · obtain ⟨u, hu, e2⟩ := hz e
        rw [e1, e2]
        exact h u hu
      · exact h y e1
  unfold LS.paysOut
  dsimp only
  have h1 := key { (byK Ho.id S.hol x).getD Ho.zero with am := ((byK Ho.id S.hol x).getD Ho.zero).am - m } (fun hne => by
    cases e : byK Ho.id S.hol x with
    | none =>
      rw [e] at hne
      exact absurd (Nat.zero_sub m) hne
    | some u => exact ⟨u, (byK_mem e).1, rfl⟩)
  have h2 := h1.setA { (byK Ac.id S.acc t).getD ⟨0, 0, 0, 0⟩ with ba := ((byK Ac.id S.acc t).getD ⟨0, 0, 0, 0⟩).ba + m }
  exact h2
theorem LS.Hf.fold {x : Nat} : ∀ (l : List Sh) {S : LS} (_ : S.Hf), (l.foldl (fun S s => S.paysOut x s.tw s.am) S).Hf
  | [], _, h => h
  | s :: r, _, h => LS.Hf.fold r (h.paysOut x s.tw s.am)
theorem LS.Hf.step {S T : LS} (h : S.Hf) {k a b c : Nat} {l : List Sh} {d : Nat} (hS : S.step k a b c l = (d, T)) : T.Hf := by
  by_cases hd : d ≠ 0
  · rw [LS.step_no hS hd]; exact h
  obtain rfl : d = 0 := by omega
  unfold LS.step at hS
  by_cases k1 : k = 1
  · rw [if_pos k1] at hS
    unfold LS.creates at hS
    repeat' split at hS
    all_goals cases hS
    rename_i c1 _
    intro x hx
    show (byK Ac.id (insK Ac.id S.acc ⟨a, b, 0, c⟩) x.fr).isSome = true
    rw [byK_ins (a := (⟨a, b, 0, c⟩ : Ac)) (by simpa using c1)]
    split
    · rfl
    · exact h x hx
  rw [if_neg k1] at hS
  by_cases k2 : k = 2
  · rw [if_pos k2] at hS
    unfold LS.closes at hS
    repeat' split at hS
    all_goals cases hS
    rename_i c1 _
    intro x hx
    have hx' : x ∈ S.hol := hx
    show (byK Ac.id (remK Ac.id S.acc a) x.fr).isSome = true
    rw [byK_rem]
    rw [not_or] at c1
    have : x.fr ≠ a := fun e => c1.2 (List.any_eq_true.2 ⟨x, hx', by simp [e]⟩)
    rw [if_neg this]
    exact h x hx'
  rw [if_neg k2] at hS
  by_cases k3 : k = 3
  · rw [if_pos k3] at hS
    unfold LS.moves at hS
    repeat' split at hS
    all_goals cases hS
    exact (h.setA _).setA _
  rw [if_neg k3] at hS
  by_cases k4 : k = 4
  · rw [if_pos k4] at hS
    unfold LS.holds at hS
    repeat' split at hS
    all_goals cases hS
    rename_i y hy _ _ _
    intro x hx
    show (byK Ac.id (repK Ac.id S.acc { y with ba := y.ba - c }) x.fr).isSome = true
    rw [rep_some]
    rcases insK_mem.1 hx with e | e
    · rw [e]
      show (byK Ac.id S.acc b).isSome = true
      rw [hy]
      rfl
    · exact h x e
  rw [if_neg k4] at hS
  by_cases k5 : k = 5
  · rw [if_pos k5] at hS
    unfold LS.pays at hS
    repeat' split at hS
    all_goals cases hS
    exact h.paysOut _ _ _
  rw [if_neg k5] at hS
  unfold LS.settles at hS
  split at hS
  · cases hS
  split at hS
  · cases hS
  split at hS
  · cases hS
  split at hS
  · rename_i c1
    have := congrArg Prod.fst hS
    exact absurd this c1
  split at hS
  · cases hS
  split at hS
  · cases hS
  split at hS
  · cases hS
  cases hS
  exact LS.Hf.fold _ h
/-- The lines that are kept have their numbers and kinds. -/
def LS.Lo (S : LS) : Prop := ∀ q, S.nx - min (S.nx - 1) 64 ≤ q → q < S.nx → (S.rg (q % 64)).sq = q ∧ 1 ≤ (S.rg (q % 64)).kd ∧ (S.rg (q % 64)).kd ≤ 5
theorem Ln.lo {S T : LS} {e : Jn} (h : Ln S e T) (hl : S.Lo) : T.Lo := fun q h1 h2 => by
  rw [h.nx] at h1 h2
  rw [h.rg]
  show (if q % 64 = S.nx % 64 then e else S.rg (q % 64)).sq = q ∧ 1 ≤ (if q % 64 = S.nx % 64 then e else S.rg (q % 64)).kd ∧ (if q % 64 = S.nx % 64 then e else S.rg (q % 64)).kd ≤ 5
  by_cases e1 : q = S.nx
  · rw [if_pos (by rw [e1]), e1]
    refine ⟨h.sq, ?_⟩
    rcases h.did with ⟨k, _⟩ | ⟨k, _⟩ | ⟨k, _⟩ | ⟨k, _⟩ | ⟨k, _⟩ <;> omega
  · have : ¬ q % 64 = S.nx % 64 := by omega
    rw [if_neg this]
    exact hl q (by omega) (by omega)
theorem Rn.lo {S T : LS} {es : List Jn} (h : Rn S es T) (hl : S.Lo) : T.Lo := by
  induction h with
  | nil => exact hl
  | snoc _ hn ih => exact hn.lo ih
/-- What Restore asks of an image. -/
structure LS.An (S : LS) (s : Nat) : Prop where
  kp : S.Kp s
  hf : S.Hf
  lo : S.Lo
theorem LS.An.step {S T : LS} {s : Nat} (h : S.An s) {k a b c : Nat} {l : List Sh} (ha : a < 18446744073709551616) (hb : b < 18446744073709551616) (hc : c < 18446744073709551616) (hin : ∀ s ∈ l, s.In) {d : Nat} (hS : S.step k a b c l = (d, T)) : T.An s := by
  refine ⟨h.kp.step ha hb hc hin hS, h.hf.step hS, ?_⟩
  by_cases hd : d = 0
  · subst hd
    obtain ⟨es, _, e2, _⟩ := step_rn h.kp.1 ha hb hc hin hS
    exact e2.lo h.lo
  · rw [LS.step_no hS hd]
    exact h.lo
theorem LS0_an {l : List Ac} (hok : (LS0 l).Ok) : (LS0 l).An (sumA l) :=
  ⟨LS0_kp hok, fun x hx => (by cases hx), fun q h1 h2 => by
    have e : (LS0 l).nx = 1 := rfl
    rw [e] at h1 h2
    omega⟩
/-- A step, marks and all. -/
theorem stepQ_an {S T : LS} {Q R : List LS} {o : OpR} {c : Int} {s lim : Nat} {V : World} (h : S.An s) (hq : ∀ q ∈ Q, q.An s) (ho : o.Ok lim V) (hS : stepQ S Q o = (c, T, R)) : T.An s ∧ ∀ q ∈ R, q.An s := by
  obtain ⟨_, _, hsh, _⟩ := ho.sh
  unfold stepQ at hS
  split at hS
  · cases hS
    refine ⟨?_, hq⟩
    obtain ⟨x, hx⟩ : ∃ x, S.step o.K.toNat o.A o.B o.C o.l = x := ⟨_, rfl⟩
    obtain ⟨d, T'⟩ := x
    have := h.step ho.hA ho.hB ho.hC hsh.ok hx
    rw [hx]
    exact this
  split at hS
  · split at hS
    · cases hS; exact ⟨h, hq⟩
    · cases hS
      refine ⟨h, fun q hm => ?_⟩
      rcases List.mem_append.1 hm with e | e
      · exact hq q e
      · have : q = S := by simpa using e
        rw [this]; exact h
  split at hS
  · split at hS
    · cases hS; exact ⟨h, hq⟩
    · cases hS
      refine ⟨?_, fun q hm => hq q (List.mem_of_mem_take hm)⟩
      cases e : Q[o.N.toNat - 1]? with
      | none => exact h
      | some q => exact hq q (List.mem_of_getElem? e)
  split at hS
  · split at hS
    · cases hS; exact ⟨h, hq⟩
    · cases hS
      exact ⟨h, fun q hm => hq q (List.mem_of_mem_take hm)⟩
  · cases hS; exact ⟨h, hq⟩
end Go.Proofs.Ytcfenjpdjogmdaa
namespace Go.Proofs.Ytcfenjpdjogmdaa
open Go.RowKit

def opcells : List OpR → List Value
  | [] => []
  | a :: r => a.arr.toList ++ opcells r
theorem opcells_at : ∀ {l : List OpR} {i : Nat} {a : OpR}, l[i]? = some a → ∀ (j : Nat) (v : Value), a.arr[j]? = some v → (opcells l)[i * 6 + j]? = some v
  | [], i, a, h => by simp at h
  | x :: l, 0, a, h => by
    simp at h
    subst h
    intro j v hj
    have hj' : x.arr.toList[j]? = some v := by rw [Array.getElem?_toList]; exact hj
    have hl := (List.getElem?_eq_some_iff.1 hj').1
    show (x.arr.toList ++ opcells l)[0 * 6 + j]? = some v
    rw [Nat.zero_mul, Nat.zero_add, List.getElem?_append_left hl]
    exact hj'
  | x :: l, i + 1, a, h => by
    intro j v hj
    have ih := opcells_at (l := l) (i := i) (by simpa using h) j v hj
    show (x.arr.toList ++ opcells l)[(i + 1) * 6 + j]? = some v
    rw [List.getElem?_append_right (by show 6 ≤ _; omega)]
    show (opcells l)[(i + 1) * 6 + j - 6]? = some v
    rw [show (i + 1) * 6 + j - 6 = i * 6 + j by omega]
    exact ih
/-- A list of steps that was handed back. -/
structure OpsR (w : World) (B : Nat) (V : World) (vo : Option Addr) (vc : Nat) (L : List OpR) : Prop where
  row : V.ownsRow B 30 6 (.slice vo L.length vc) L.length (opcells L)
  ok : ∀ o ∈ L, o.Ok w.heap.size w
theorem OpsR.at_ {w : World} {B : Nat} {V : World} {vo : Option Addr} {vc : Nat} {L : List OpR} (h : OpsR w B V vo vc L) {i : Nat} {o : OpR} (hi : L[i]? = some o) : ∃ g, vo = some ⟨g, 0, none⟩ ∧ g < V.heap.size ∧ L.length ≤ vc ∧ ∀ (j : Nat) (v : Value), o.arr[j]? = some v → V.cell? ⟨g, i * 6 + j, none⟩ = some v := by
  have hil := (List.getElem?_eq_some_iff.1 hi).1
  rcases h.row.2 with ⟨h1, h0⟩ | ⟨g, cp, cur, h1, _, hg, hle, _⟩
  · omega
  · obtain ⟨e, _, e3⟩ := slice_inj h1
    have := h.row.lt g (by rw [h1]; rfl)
    have hr := h.row
    rw [e] at hr
    refine ⟨g, e, this.2, by omega, fun j v hj => ?_⟩
    have c := hr.cells (g := g) rfl (i * 6 + j) _ (opcells_at hi j v hj)
    rw [add_at, Nat.zero_add] at c
    exact c
theorem OpsR.fl {w : World} {B : Nat} {V V' : World} {vo : Option Addr} {vc : Nat} {L : List OpR} (h : OpsR w B V vo vc L) (hf : Fl V V') : OpsR w B V' vo vc L := ⟨row_fl h.row hf (by decide) (by decide) (by decide), h.ok⟩
end Go.Proofs.Ytcfenjpdjogmdaa
namespace Go.Proofs.Ytcfenjpdjogmdaa
open Go.RowKit

/-- An image as it lies, in lists of its own. -/
structure ImX (V : World) (S : LS) (ao : Option Addr) (cap : Nat) (ho : Option Addr) (hcap : Nat) (jo : Option Addr) (jcap : Nat) : Prop where
  ra : ∃ B, V.ownsRow B 80 4 (.slice ao S.acc.length cap) S.acc.length (acells S.acc)
  rh : ∃ B, V.ownsRow B 83 3 (.slice ho S.hol.length hcap) S.hol.length (hcells S.hol)
  rj : ∃ B, V.ownsRow B 68 5 (.slice jo S.jl.length jcap) S.jl.length (jcells S.jl)
section
variable {V V' : World} {S : LS} {ao ho jo : Option Addr} {cap hcap jcap : Nat}
theorem ImX.fl (h : ImX V S ao cap ho hcap jo jcap) (hf : Fl V V') : ImX V' S ao cap ho hcap jo jcap := by
  obtain ⟨_, ra⟩ := h.ra
  obtain ⟨_, rh⟩ := h.rh
  obtain ⟨_, rj⟩ := h.rj
  exact ⟨⟨_, row_fl ra hf (by decide) (by decide) (by decide)⟩, ⟨_, row_fl rh hf (by decide) (by decide) (by decide)⟩, ⟨_, row_fl rj hf (by decide) (by decide) (by decide)⟩⟩
theorem ImX.of (h : ImR V V' S.acc S.hol S.jl ao cap ho hcap jo jcap) : ImX V' S ao cap ho hcap jo jcap := ⟨⟨_, h.ra⟩, ⟨_, h.rh⟩, ⟨_, h.rj⟩⟩
theorem ImX.imj (h : ImX V S ao cap ho hcap jo jcap) (hok : S.Ok) : ∃ ga gh gj, ImJ V S.acc S.hol S.jl ao ho jo ga gh gj := by
  obtain ⟨_, ra⟩ := h.ra
  obtain ⟨_, rh⟩ := h.rh
  obtain ⟨_, rj⟩ := h.rj
  obtain ⟨ga, gh, h1, _, _⟩ := im_of_rows ra rh hok.ia hok.ih
  obtain ⟨gj, h2, _, h3⟩ := jn_of_row rj (LS.jl_in hok)
  exact ⟨ga, gh, gj, h1, h2, h3⟩
theorem ImX.same_ {ao' ho' jo' : Option Addr} {cap' hcap' jcap' : Nat} (h : ImX V S ao cap ho hcap jo jcap) (h' : ImX V S ao' cap' ho' hcap' jo' jcap') (hok : S.Ok) : Calls Try.prog 11 #[imgV S ao cap ho hcap jo jcap, imgV S ao' cap' ho' hcap' jo' jcap'] V fun e w' => e = .returned (.bool true) ∧ Hid (Below V.heap.size V w') := by
  obtain ⟨ga, gh, gj, hi⟩ := h.imj hok
  obtain ⟨ga', gh', gj', hi'⟩ := h'.imj hok
  exact sameImageI hi hi' hok.la hok.lh (by rw [S.jl_len]; omega) _ _ _ _ _ _ _ _
end
/-- A step of a script as it lies at place x. -/
def scrC (V : World) (b x : Nat) (o : OpR) : Prop := V.cell? ⟨b, x, none⟩ = some (.int .i64 o.K) ∧ V.cell? ⟨b, x + 1, none⟩ = some (.int .u64 (o.A : Nat)) ∧ V.cell? ⟨b, x + 2, none⟩ = some (.int .u64 (o.B : Nat)) ∧ V.cell? ⟨b, x + 3, none⟩ = some (.int .u64 (o.C : Nat)) ∧ V.cell? ⟨b, x + 4, none⟩ = some (.int .i64 o.N) ∧ V.cell? ⟨b, x + 5, none⟩ = some (.slice o.so o.sn o.sc) ∧ b < V.heap.size
theorem scr_of {V : World} {b x : Nat} {o : OpR} (h : ∀ (j : Nat) (v : Value), o.arr[j]? = some v → V.cell? ⟨b, x + j, none⟩ = some v) (hb : b < V.heap.size) : scrC V b x o :=
  ⟨h 0 (.int .i64 o.K) (by simp [OpR.arr]), h 1 (.int .u64 (o.A : Nat)) (by simp [OpR.arr]), h 2 (.int .u64 (o.B : Nat)) (by simp [OpR.arr]), h 3 (.int .u64 (o.C : Nat)) (by simp [OpR.arr]), h 4 (.int .i64 o.N) (by simp [OpR.arr]), h 5 (.slice o.so o.sn o.sc) (by simp [OpR.arr]), hb⟩
/-- A script that came in. -/
structure Scr (w : World) (b off : Nat) (ao : Option Addr) (n : Nat) : Prop where
  ops : Ops w.heap.size w b off n
  le : n ≤ 1048576
  ao : 0 < n → ao = some ⟨b, off, none⟩
  lt : 0 < n → b < w.heap.size
theorem Scr.at_ {w : World} {b off : Nat} {ao : Option Addr} {n : Nat} (h : Scr w b off ao n) {k : Nat} (hk : k < n) : ∃ o : OpR, o.Ok w.heap.size w ∧ ao = some ⟨b, off, none⟩ ∧ ∀ V, Below w.heap.size w V → scrC V b (off + k * 6) o := by
  obtain ⟨o, ho, hok⟩ := h.ops k hk
  exact ⟨o, hok, h.ao (by omega), fun V hV => scr_of (fun j v hj => (hV.cell (p := ⟨b, _, none⟩) (h.lt (by omega))).trans (ho j v hj)) (Nat.lt_of_lt_of_le (h.lt (by omega)) hV.size)⟩
section
variable {w : World} {p a b p' a' b' M N : Nat} {V V' : World} {S S' : LS} {Q Q' : List LS}
theorem Two.le {M' N' : Nat} (h : Two w p a b p' a' b' M N V S Q S' Q') (h1 : M ≤ M') (h2 : N ≤ N') : Two w p a b p' a' b' M' N' V S Q S' Q' := by
  obtain ⟨Z, Z', g1, g2, g3⟩ := h.z
  exact ⟨h.bel, Z, Z', ⟨g1.l, g1.v, Nat.le_trans g1.c h1, g1.ok, g1.oq⟩, ⟨g2.l, g2.v, Nat.le_trans g2.c h2, g2.ok, g2.oq⟩, g3⟩
theorem Two.ok (h : Two w p a b p' a' b' M N V S Q S' Q') : S.Ok ∧ S'.Ok ∧ Q.length ≤ 16 := by
  obtain ⟨Z, Z', g1, g2, g3⟩ := h.z
  exact ⟨g1.ok, g2.ok, by have := g1.v.len; have := g1.v.m16; omega⟩
/-- The second's image. -/
theorem Two.imageK (h : Two w p a b p' a' b' M N V S Q S' Q') : Calls Try.prog 7 #[.pointer (some ⟨p', 0, none⟩)] V fun e V' => ∃ ao cap ho hcap jo jcap, e = .returned (imgV S' ao cap ho hcap jo jcap) ∧ Hid (ImR V V' S'.acc S'.hol S'.jl ao cap ho hcap jo jcap ∧ Two w p a b p' a' b' M N V' S Q S' Q' ∧ Below V.heap.size V V') := by
  refine h.swap.imageL.mono ?_
  rintro e V' ⟨ao, cap, ho, hcap, jo, jcap, rfl, G⟩
  exact ⟨ao, cap, ho, hcap, jo, jcap, rfl, G.out.1, G.out.2.1.swap, G.out.2.2⟩
end
section
variable {w : World} {p a b p' a' b' M : Nat} {V V' : World} {S T : LS} {Q R : List LS}
end
end Go.Proofs.Ytcfenjpdjogmdaa
