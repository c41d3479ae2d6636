import Derived.Test.YtcfenjpdjogmdaaLT49
namespace Go.Proofs.Ytcfenjpdjogmdaa
open Go.RowKit

theorem infoMk : (Try.prog.info? 48).map (fun i => (i.zero, i.size, i.bytes)) = some (some (.agg #[.int .u64 0, .int .u64 0, .slice none 0 0, .slice none 0 0, .slice none 0 0, .slice none 0 0, .slice none 0 0, .slice none 0 0, .int .u64 0]), 9, 168) := by kernel_rfl
theorem infoIm : (Try.prog.info? 35).map (fun i => (i.zero, i.size, i.bytes)) = some (some (.agg #[.int .u64 0, .int .u64 0, .slice none 0 0, .slice none 0 0, .slice none 0 0]), 5, 88) := by kernel_rfl
/-- The steps of a script that came in, as a function. -/
theorem Scr.fn {w : World} {b off : Nat} {ao : Option Addr} {n : Nat} (h : Scr w b off ao n) : ∃ O : Nat → OpR, ∀ k, k < n → (O k).Ok w.heap.size w ∧ ao = some ⟨b, off, none⟩ ∧ ∀ V, Below w.heap.size w V → scrC V b (off + k * 6) (O k) := by
  have key : ∀ k, ∃ o : OpR, k < n → o.Ok w.heap.size w ∧ ao = some ⟨b, off, none⟩ ∧ ∀ V, Below w.heap.size w V → scrC V b (off + k * 6) o := fun k => by
    by_cases hk : k < n
    · obtain ⟨o, ho⟩ := h.at_ hk
      exact ⟨o, fun _ => ho⟩
    · exact ⟨⟨0, 0, 0, 0, 0, none, 0, 0, []⟩, fun hk' => absurd hk' hk⟩
  exact Classical.skolem.1 key
/-- The ledger and its marks after so many steps. -/
def runs (S0 : LS) (O : Nat → OpR) : Nat → LS × List LS
  | 0 => (S0, [])
  | k + 1 => (stepQ (runs S0 O k).1 (runs S0 O k).2 (O k)).2
theorem runs_an {S0 : LS} {O : Nat → OpR} {s lim n : Nat} {V : World} (h0 : S0.An s) (hO : ∀ k, k < n → (O k).Ok lim V) : ∀ k, k ≤ n → (runs S0 O k).1.An s ∧ ∀ q ∈ (runs S0 O k).2, q.An s
  | 0, _ => ⟨h0, fun q hq => by cases hq⟩
  | k + 1, hk => by
    have ih := runs_an h0 hO k (by omega)
    exact stepQ_an (c := (stepQ (runs S0 O k).1 (runs S0 O k).2 (O k)).1) ih.1 ih.2 (hO k (by omega)) rfl
/-- A row of marked images, or of images, goes on. -/
structure Fm (W W' : World) (q : Nat) : Prop where
  g : W.grownBy W' (some q)
  at_ : ∀ (k : Nat) (cs : Array Value) (t : TypeId), W.heap[k]? = some (.cells cs t (0, 0)) → t ≠ 48 → t ≠ 35 → W'.heap[k]? = some (.cells cs t (0, 0))
def MkT (t : TypeId) : Prop := t = 48 ∨ t = 35
theorem Fm.of {W W' : World} {q : Nat} {cs : Array Value} {t0 : TypeId} (hg : W.grownBy W' (some q)) (hq : W.heap[q]? = some (.cells cs t0 (0, 0))) (ht0 : MkT t0) : Fm W W' q :=
  ⟨hg, fun k cs' t hk h1 h2 => (hg.block k (block_lt hk) (fun e => by
    cases e
    rw [hq] at hk
    cases hk
    rcases ht0 with e | e
    · exact h1 e
    · exact h2 e)).trans hk⟩
theorem Bk.Ok.fm {W W' : World} {q : Nat} {p a b : Nat} {d : Bk} {v : Value} (h : d.Ok W p a b v) (hf : Fm W W' q) : d.Ok W' p a b v := by
  cases d with
  | A x old =>
    obtain ⟨h0, q0, q1, h1, h2, ⟨y, q, h3, h4, h5⟩ | ⟨h3, h4⟩⟩ := h
    · exact ⟨h0, q0, q1, hf.at_ _ _ _ h1 (by decide) (by decide), hf.at_ _ _ _ h2 (by decide) (by decide), .inl ⟨y, q, h3, hf.at_ _ _ _ h4 (by decide) (by decide), h5⟩⟩
    · exact ⟨h0, q0, q1, hf.at_ _ _ _ h1 (by decide) (by decide), hf.at_ _ _ _ h2 (by decide) (by decide), .inr ⟨h3, h4⟩⟩
  | H x old =>
    obtain ⟨h0, q0, q1, h1, h2, ⟨y, q, h3, h4, h5⟩ | ⟨h3, h4⟩⟩ := h
    · exact ⟨h0, q0, q1, hf.at_ _ _ _ h1 (by decide) (by decide), hf.at_ _ _ _ h2 (by decide) (by decide), .inl ⟨y, q, h3, hf.at_ _ _ _ h4 (by decide) (by decide), h5⟩⟩
    · exact ⟨h0, q0, q1, hf.at_ _ _ _ h1 (by decide) (by decide), hf.at_ _ _ _ h2 (by decide) (by decide), .inr ⟨h3, h4⟩⟩
  | J k sq old =>
    obtain ⟨h0, q13, q11, q12, q5, h1, h2, h3, h4, h5⟩ := h
    exact ⟨h0, q13, q11, q12, q5, hf.at_ _ _ _ h1 (by decide) (by decide), hf.at_ _ _ _ h2 (by decide) (by decide), hf.at_ _ _ _ h3 (by decide) (by decide), hf.at_ _ _ _ h4 (by decide) (by decide), h5⟩
theorem row_fm {W W' : World} {q B s n : Nat} {t : TypeId} {v : Value} {xs : List Value} (h : W.ownsRow B t s v n xs) (hf : Fm W W' q) (h1 : t ≠ 48) (h2 : t ≠ 35) : W'.ownsRow B t s v n xs := by
  refine ⟨h.1, ?_⟩
  rcases h.2 with h | ⟨g, cp, cur, rfl, q1, q2, q3⟩
  · exact .inl h
  · exact .inr ⟨g, cp, cur, rfl, q1, hf.at_ _ _ _ q2 h1 h2, q3⟩
theorem LG.fm {p a b q : Nat} {V V' : World} {mk ch : Value} {S : LS} (h : LG V p a b mk ch S) {cs : Array Value} {t0 : TypeId} (hq : V.heap[q]? = some (.cells cs t0 (0, 0))) (ht : MkT t0) (hf : Fm V V' q) : LG V' p a b mk ch S := by
  obtain ⟨cp, g1, _⟩ := h.blk
  obtain ⟨es, kk, g2⟩ := h.acc.obj
  obtain ⟨es', kk', g3⟩ := h.hol.obj
  have n1 : some p ≠ some q := fun e => by
    cases e
    rw [hq] at g1
    cases g1
    rcases ht with e | e <;> exact absurd e (by decide)
  have n2 : some a ≠ some q := fun e => by cases e; rw [hq] at g2; cases g2
  have n3 : some b ≠ some q := fun e => by cases e; rw [hq] at g3; cases g3
  exact h.other hf.g n1 n2 n3
theorem LQ.fm {B p a b M q : Nat} {V V' : World} {Z : SZ} {S : LS} {Q : List LS} (h : LQ B p a b M V Z S Q) {cs : Array Value} {t0 : TypeId} (hq : V.heap[q]? = some (.cells cs t0 (0, 0))) (ht : MkT t0) (hf : Fm V V' q) : LQ B p a b M V' Z S Q := by
  obtain ⟨xs, hc, hd⟩ := h.l.cr
  exact ⟨⟨h.l.lg.fm hq ht hf, row_fm h.l.mr hf (by decide) (by decide), ⟨xs, row_fm hc hf (by decide) (by decide), fun i d u hi hu => (hd i d u hi hu).fm hf⟩, h.l.lo⟩, h.v, h.c, h.ok, h.oq⟩
theorem below_of_none {V V' : World} (hg : V.grownBy V' none) : Below V.heap.size V V' := ⟨hg.os, hg.tape, hg.output, hg.size, fun k hk => hg.block k hk (by intro e; cases e)⟩
theorem Two.row {w : World} {p a b p' a' b' M N : Nat} {V V' : World} {S S' : LS} {Q Q' : List LS} (h : Two w p a b p' a' b' M N V S Q S' Q') {T : TypeId} {s n : Nat} {v : Value} {xs : List Value} (hr : V.ownsRow w.heap.size T s v n xs) (ht : MkT T) (hg : V.grownBy V' v.ownBlock) : Two w p a b p' a' b' M N V' S Q S' Q' := by
  rcases hr.2 with ⟨rfl, _⟩ | ⟨g, cp, cur, rfl, q1, q2, q3⟩
  · exact h.kept (below_of_none hg)
  · obtain ⟨Z, Z', h1, h2, h3⟩ := h.z
    have hf : Fm V V' g := Fm.of hg q2 ht
    exact ⟨h.bel.grown hf.g h.bel.size (fun j e => by cases e; exact q1), Z, Z', h1.fm q2 ht hf, h2.fm q2 ht hf, h3⟩
/-- A marked image, as it was handed out. -/
structure Mkd where
  (T0 T1 : Int)
  (ao ho jo xa xh xj : Option Addr)
  (n cap nh hcap nj jcap xac xhc xjc m : Nat)
def Mkd.cs (d : Mkd) : List Value := [.int .u64 d.T0, .int .u64 d.T1, .slice d.ao d.n d.cap, .slice d.ho d.nh d.hcap, .slice d.jo d.nj d.jcap, .slice d.xa (d.n + 64) d.xac, .slice d.xh (d.nh + 64) d.xhc, .slice d.xj (d.nj + 64) d.xjc, .int .u64 (d.m : Nat)]
structure Mkd.Ok (d : Mkd) (V : World) (P : Nat → Prop) : Prop where
  r : MkR V d.m d.n d.nh d.nj d.ao d.ho d.jo d.xa d.xh d.xj P
  m : d.m ≤ 2000000000
  n : d.n ≤ 64
  nh : d.nh ≤ 64
  nj : d.nj ≤ 64
def mkcs : List Mkd → List Value
  | [] => []
  | a :: r => a.cs ++ mkcs r
theorem mkcs_app : ∀ (l r : List Mkd), mkcs (l ++ r) = mkcs l ++ mkcs r
  | [], r => rfl
  | a :: l, r => by show a.cs ++ mkcs (l ++ r) = (a.cs ++ mkcs l) ++ mkcs r; rw [mkcs_app l r, List.append_assoc]
theorem mkcs_at : ∀ {l : List Mkd} {i : Nat} {a : Mkd}, l[i]? = some a → ∀ (j : Nat) (v : Value), a.cs[j]? = some v → (mkcs l)[i * 9 + j]? = some v
  | [], i, a, h => by simp at h
  | x :: l, 0, a, h => by
    simp at h
    subst h
    intro j v hj
    have hl := (List.getElem?_eq_some_iff.1 hj).1
    show (x.cs ++ mkcs l)[0 * 9 + j]? = some v
    rw [Nat.zero_mul, Nat.zero_add, List.getElem?_append_left hl]
    exact hj
  | x :: l, i + 1, a, h => by
    intro j v hj
    have ih := mkcs_at (l := l) (i := i) (a := a) (by simpa using h) j v hj
    show (x.cs ++ mkcs l)[(i + 1) * 9 + j]? = some v
    have e : x.cs.length = 9 := rfl
    rw [List.getElem?_append_right (by rw [e]; omega), e, show (i + 1) * 9 + j - 9 = i * 9 + j by omega]
    exact ih
section
variable {m n nh nj : Nat} {ao ho jo xa xh xj : Option Addr} {P P' : Nat → Prop} {V W : World}
theorem MkR.fl (h : MkR V m n nh nj ao ho jo xa xh xj P) (hf : Fl V W) : MkR W m n nh nj ao ho jo xa xh xj P :=
  ⟨h.mA.fl hf (by decide) (by decide) (by decide), h.xA.fl hf (by decide) (by decide) (by decide), h.mH.fl hf (by decide) (by decide) (by decide), h.xH.fl hf (by decide) (by decide) (by decide), h.mJ.fl hf (by decide) (by decide) (by decide), h.xJ.fl hf (by decide) (by decide) (by decide)⟩
theorem MkR.imp (h : MkR V m n nh nj ao ho jo xa xh xj P) (hp : ∀ g, P g → P' g) : MkR V m n nh nj ao ho jo xa xh xj P' := ⟨h.mA.imp hp, h.xA.imp hp, h.mH.imp hp, h.xH.imp hp, h.mJ.imp hp, h.xJ.imp hp⟩
theorem MkR.off (h : MkR V m n nh nj ao ho jo xa xh xj P) (hb : ∀ g, g < V.heap.size → P g → W.heap[g]? = V.heap[g]?) : MkR W m n nh nj ao ho jo xa xh xj P := ⟨h.mA.off hb, h.xA.off hb, h.mH.off hb, h.xH.off hb, h.mJ.off hb, h.xJ.off hb⟩
theorem XF.oth {T T' : TypeId} {s s' B n0 n' : Nat} {mv : List Value} {v : Value} {ys : List Value} (h : XF T' s' mv m V n' ao P) (hr : V.ownsRow B T s v n0 ys) (hg : V.grownBy W v.ownBlock) (ht : T' ≠ T) : XF T' s' mv m W n' ao P := by
  obtain ⟨g, cs, e, hp, hgb, hc⟩ := h
  exact ⟨g, cs, e, hp, row_oth hr hg hgb ht, hc⟩
theorem MkR.row (h : MkR V m n nh nj ao ho jo xa xh xj P) {T : TypeId} {s B n0 : Nat} {v : Value} {ys : List Value} (hr : V.ownsRow B T s v n0 ys) (ht : MkT T) (hg : V.grownBy W v.ownBlock) : MkR W m n nh nj ao ho jo xa xh xj P := by
  have n1 : 80 ≠ T := by rcases ht with rfl | rfl <;> decide
  have n2 : 83 ≠ T := by rcases ht with rfl | rfl <;> decide
  have n3 : 68 ≠ T := by rcases ht with rfl | rfl <;> decide
  exact ⟨h.mA.oth hr hg n1, h.xA.oth hr hg n1, h.mH.oth hr hg n2, h.xH.oth hr hg n2, h.mJ.oth hr hg n3, h.xJ.oth hr hg n3⟩
end
/-- The marked images that were handed out. -/
structure OutR (B : Nat) (V : World) (v : Value) (L : List Mkd) (P : Nat → Prop) : Prop where
  row : V.ownsRow B 48 9 v L.length (mkcs L)
  ok : ∀ d ∈ L, d.Ok V P
section
variable {B : Nat} {V W : World} {v : Value} {L : List Mkd} {P P' : Nat → Prop}
theorem OutR.fl (h : OutR B V v L P) (hf : Fl V W) : OutR B W v L P := ⟨row_fl h.row hf (by decide) (by decide) (by decide), fun d hd => ⟨(h.ok d hd).r.fl hf, (h.ok d hd).m, (h.ok d hd).n, (h.ok d hd).nh, (h.ok d hd).nj⟩⟩
theorem OutR.kept (h : OutR B V v L P) (hb : Below V.heap.size V W) : OutR B W v L P := h.fl (Fl.below hb)
theorem OutR.app (h : OutR B V v L P) {d : Mkd} (hd : d.Ok V P) {o : Obj} {v' : Value} {w4 : World} (hr : w4.ownsRow B 48 9 v' (L.length + 1) (mkcs L ++ d.cs)) (hg : (V.alloc o).grownBy w4 v.ownBlock) : OutR B w4 v' (L ++ [d]) P := by
  have hb : Below V.heap.size V (V.alloc o) := (Below.refl _ V).alloc (Nat.le_refl _) o
  have h1 := h.kept hb
  have e : mkcs (L ++ [d]) = mkcs L ++ d.cs := by rw [mkcs_app]; simp [mkcs]
  refine ⟨by rw [e, List.length_append]; exact hr, fun x hx => ?_⟩
  rcases List.mem_append.1 hx with hx | hx
  · have := h1.ok x hx
    exact ⟨this.r.row h1.row (.inl rfl) hg, this.m, this.n, this.nh, this.nj⟩
  · have e : x = d := by simpa using hx
    subst e
    exact ⟨(hd.r.below hb).row h1.row (.inl rfl) hg, hd.m, hd.n, hd.nh, hd.nj⟩
/-- An element as the walk reads it. -/
theorem OutR.at_ (h : OutR B V v L P) {i : Nat} (hi : i < L.length) : ∃ d : Mkd, d.Ok V P ∧ ∃ g c, v = .slice (some ⟨g, 0, none⟩) L.length c ∧ g < V.heap.size ∧ L.length ≤ c ∧ ∀ (j : Nat) (u : Value), d.cs[j]? = some u → V.cell? ⟨g, i * 9 + j, none⟩ = some u := by
  obtain ⟨d, hd⟩ : ∃ d, L[i]? = some d := ⟨_, List.getElem?_eq_getElem hi⟩
  refine ⟨d, h.ok d (List.mem_of_getElem? hd), ?_⟩
  obtain ⟨ao, c, rfl⟩ := own_form2 h.row
  have hr := h.row
  obtain ⟨g, e, _, gl, gle, _, _, _⟩ := row_place hr (by omega)
  subst e
  refine ⟨g, c, rfl, gl, gle, fun j u hj => ?_⟩
  have c := hr.cells (g := g) rfl (i * 9 + j) _ (mkcs_at hd j u hj)
  have e : (⟨g, 0, none⟩ : Addr).add (i * 9 + j) = ⟨g, i * 9 + j, none⟩ := by simp [Addr.add]; intros; omega
  rw [e] at c
  exact c
/-- What is in the list is still as it was. -/
theorem Mkd.Ok.still {d : Mkd} (h : d.Ok V P) : Calls Try.prog 15 #[.agg d.cs.toArray] V fun e V' => e = .returned (.bool true) ∧ Hid (Below V.heap.size V V') := stillC h.m d.T0 d.T1 d.n d.cap d.nh d.hcap d.nj d.jcap d.xac d.xhc d.xjc h.r h.n h.nh h.nj
end
/-- marked of an image that has just been made: nothing that was there ahead of the image turns. -/
theorem markFresh {V V1 : World} {S : LS} {ao ho jo : Option Addr} {cap hcap jcap m : Nat} (hm : m ≤ 2000000000) (h : ImR V V1 S.acc S.hol S.jl ao cap ho hcap jo jcap) (hb : Below V.heap.size V V1) (hok : S.Ok) :
    Calls Try.prog 14 #[imgV S ao cap ho hcap jo jcap, .int .u64 (m : Nat)] V1 fun e V2 => ∃ ya yac yh yhc yj yjc, e = .returned (.agg #[.int .u64 (S.tot : Nat), .int .u64 (S.nx : Nat), .slice ao S.acc.length cap, .slice ho S.hol.length hcap, .slice jo S.jl.length jcap, .slice ya (S.acc.length + 64) yac, .slice yh (S.hol.length + 64) yhc, .slice yj (S.jl.length + 64) yjc, .int .u64 (m : Nat)]) ∧ Hid (Mkd.Ok ⟨S.tot, S.nx, ao, ho, jo, ya, yh, yj, S.acc.length, cap, S.hol.length, hcap, S.jl.length, jcap, yac, yhc, yjc, m⟩ V2 (fun g => V.heap.size ≤ g) ∧ Below V.heap.size V V2) := by
  have h1 : S.acc.length ≤ 64 := hok.la
  have h2 : S.hol.length ≤ 64 := hok.lh
  have h3 : S.jl.length ≤ 64 := by rw [S.jl_len]; omega
  refine (markedC hm (S.tot : Nat) (S.nx : Nat) S.acc.length cap S.hol.length hcap S.jl.length jcap h.ra h.rh h.rj hb.size h1 h2 h3).mono ?_
  rintro e V2 ⟨ya, yac, yh, yhc, yj, yjc, rfl, G⟩
  have lt : ∀ {T : TypeId} {s n c : Nat} {x : Option Addr} {xs : List Value}, V1.ownsRow V.heap.size T s (.slice x n c) n xs → ∀ g, (Value.slice x n c).ownBlock = some g → V.heap.size ≤ g := fun {T s n c x xs} hr g e => (hr.lt g e).1
  refine ⟨ya, yac, yh, yhc, yj, yjc, rfl, ⟨G.out.1.imp (fun g hg => ?_), hm, h1, h2, h3⟩, ⟨G.out.2.os.trans hb.os, G.out.2.tape.trans hb.tape, G.out.2.output.trans hb.output, Nat.le_trans hb.size G.out.2.size, fun k hk => (G.out.2.block k (Nat.lt_of_lt_of_le hk hb.size) (fun e => ?_) (fun e => ?_) (fun e => ?_)).trans (hb.block k hk)⟩⟩
  · rcases hg with e | e | e | e
    · exact lt h.ra g (own_at0 e)
    · exact lt h.rh g (own_at0 e)
    · exact lt h.rj g (own_at0 e)
    · exact Nat.le_trans hb.size e
  · have := lt h.ra k e; omega
  · have := lt h.rh k e; omega
  · have := lt h.rj k e; omega
end Go.Proofs.Ytcfenjpdjogmdaa
namespace Go.Proofs.Ytcfenjpdjogmdaa
open Go.RowKit

/-- Two ledgers, and the marked images that were handed out. -/
structure Ap (w : World) (p a b p' a' b' M N : Nat) (S : LS) (Q : List LS) (S' : LS) (Q' : List LS) (v : Value) (L : List Mkd) (P : Nat → Prop) (V : World) : Prop where
  two : Two w p a b p' a' b' M N V S Q S' Q'
  out : OutR w.heap.size V v L P
section
variable {w : World} {p a b p' a' b' M N : Nat} {S T : LS} {Q R : List LS} {S' T' : LS} {Q' R' : List LS} {v : Value} {L : List Mkd} {P : Nat → Prop} {V V' : World}
theorem Ap.kept (h : Ap w p a b p' a' b' M N S Q S' Q' v L P V) (hb : Below V.heap.size V V') : Ap w p a b p' a' b' M N S Q S' Q' v L P V' := ⟨h.two.kept hb, h.out.kept hb⟩
theorem Ap.does (h : Ap w p a b p' a' b' M N S Q S' Q' v L P V) (hM : M ≤ 100000000000) {o : OpR} (ho : o.Ok w.heap.size w) {c : Int} (hS : stepQ S Q o = (c, T, R)) :
    Calls Try.prog 6 #[.pointer (some ⟨p, 0, none⟩), .agg o.arr] V fun e V' => e = .returned (.int .i64 c) ∧ Hid (Ap w p a b p' a' b' (M + 48) N T R S' Q' v L P V') := by
  refine (h.two.doesL hM ho hS).mono ?_
  rintro e V' ⟨rfl, G⟩
  exact ⟨rfl, G.out.1, h.out.fl G.out.2⟩
theorem Ap.doesK (h : Ap w p a b p' a' b' M N S Q S' Q' v L P V) (hN : N ≤ 100000000000) {o : OpR} (ho : o.Ok w.heap.size w) {c : Int} (hS : stepQ S' Q' o = (c, T', R')) :
    Calls Try.prog 6 #[.pointer (some ⟨p', 0, none⟩), .agg o.arr] V fun e V' => e = .returned (.int .i64 c) ∧ Hid (Ap w p a b p' a' b' M (N + 48) S Q T' R' v L P V' ∧ Fl V V') := by
  refine (h.two.doesK hN ho hS).mono ?_
  rintro e V' ⟨rfl, G⟩
  exact ⟨rfl, ⟨G.out.1, h.out.fl G.out.2⟩, G.out.2⟩
theorem Ap.app (h : Ap w p a b p' a' b' M N S Q S' Q' v L P V) {d : Mkd} (hd : d.Ok V P) {o : Obj} {v' : Value} {w4 : World} (hr : w4.ownsRow w.heap.size 48 9 v' (L.length + 1) (mkcs L ++ d.cs)) (hg : (V.alloc o).grownBy w4 v.ownBlock) : Ap w p a b p' a' b' M N S Q S' Q' v' (L ++ [d]) P w4 := by
  have hb : Below V.heap.size V (V.alloc o) := (Below.refl _ V).alloc (Nat.le_refl _) o
  exact ⟨(h.kept hb).two.row (h.kept hb).out.row (.inl rfl) hg, h.out.app hd hr hg⟩
end
/-- An image of a ledger, lent, in a variable. -/
structure WasL (V : World) (q : Nat) (S : LS) (ga gh gj : Nat) : Prop where
  box : V.heap[q]? = some (.cells #[.int .u64 (S.tot : Nat), .int .u64 (S.nx : Nat), .slice (some ⟨ga, 0, none⟩) S.acc.length (S.acc.length + 3), .slice (some ⟨gh, 0, none⟩) S.hol.length (S.hol.length + 3), .slice (some ⟨gj, 0, none⟩) S.jl.length (S.jl.length + 3)] 35 (0, 0))
  im : ∃ B, ImL B V S.acc S.hol S.jl ga gh gj
section
variable {V V' : World} {q ga gh gj : Nat} {S : LS}
theorem WasL.kept (h : WasL V q S ga gh gj) (hb : Below V.heap.size V V') : WasL V' q S ga gh gj := by
  obtain ⟨B, hi⟩ := h.im
  exact ⟨(hb.block _ (block_lt h.box)).trans h.box, B, hi.fl (Fl.below hb)⟩
theorem WasL.row (h : WasL V q S ga gh gj) {B s n : Nat} {v : Value} {xs : List Value} (hr : V.ownsRow B 48 s v n xs) (hg : V.grownBy V' v.ownBlock) : WasL V' q S ga gh gj := by
  obtain ⟨B', hi⟩ := h.im
  exact ⟨row_oth hr hg h.box (by decide), B', ⟨hi.ra.kept hg (rows2_ne hr hi.ra (by decide)), hi.rh.kept hg (rows2_ne hr hi.rh (by decide)), hi.rj.kept hg (rows2_ne hr hi.rj (by decide))⟩⟩
def lentV (S : LS) (ga gh gj : Nat) : Value := .agg #[.int .u64 (S.tot : Nat), .int .u64 (S.nx : Nat), .slice (some ⟨ga, 0, none⟩) S.acc.length (S.acc.length + 3), .slice (some ⟨gh, 0, none⟩) S.hol.length (S.hol.length + 3), .slice (some ⟨gj, 0, none⟩) S.jl.length (S.jl.length + 3)]
theorem WasL.exact_ {s : Nat} (h : WasL V q S ga gh gj) (hk : S.Kp s) (hs : s < 18446744073709551616) : Calls Try.prog 13 #[lentV S ga gh gj, .int .u64 (s : Nat)] V fun e w' => e = .returned (.bool true) ∧ Hid (Below V.heap.size V w') := by
  obtain ⟨B, hi⟩ := h.im
  have hj := hi.imj hk.1.ia hk.1.ih (LS.jl_in hk.1)
  have := exactlyI hj.toIm S.acc.length S.hol.length (S.acc.length + 3) (S.hol.length + 3) rfl rfl hk.1.la hk.1.lh (.int .u64 (S.nx : Nat)) (.slice (some ⟨gj, 0, none⟩) S.jl.length (S.jl.length + 3)) hs hk.1.ca (fun x hx => (hk.1.zh x hx).2) hk.2.1
  unfold lentV
  rw [hk.2.2]
  exact this
theorem WasL.same_ {ao ho jo : Option Addr} {cap hcap jcap : Nat} (h : WasL V q S ga gh gj) (h' : ImX V S ao cap ho hcap jo jcap) (hok : S.Ok) : Calls Try.prog 11 #[imgV S ao cap ho hcap jo jcap, lentV S ga gh gj] V fun e w' => e = .returned (.bool true) ∧ Hid (Below V.heap.size V w') := by
  obtain ⟨B, hi⟩ := h.im
  have hj := hi.imj hok.ia hok.ih (LS.jl_in hok)
  obtain ⟨ga', gh', gj', hi'⟩ := h'.imj hok
  exact sameImageI hi' hj hok.la hok.lh (by rw [S.jl_len]; omega) _ _ _ _ _ _ _ _
end
/-- An image that was handed out late, and the window of blocks in which it lies. -/
structure Ltd where
  S : LS
  (ao ho jo : Option Addr)
  (cap hcap jcap lo hi : Nat)
def Ltd.cs (d : Ltd) : List Value := [.int .u64 (d.S.tot : Nat), .int .u64 (d.S.nx : Nat), .slice d.ao d.S.acc.length d.cap, .slice d.ho d.S.hol.length d.hcap, .slice d.jo d.S.jl.length d.jcap]
structure Ltd.Ok (d : Ltd) (V : World) : Prop where
  ra : V.ownsRow d.lo 80 4 (.slice d.ao d.S.acc.length d.cap) d.S.acc.length (acells d.S.acc)
  rh : V.ownsRow d.lo 83 3 (.slice d.ho d.S.hol.length d.hcap) d.S.hol.length (hcells d.S.hol)
  rj : V.ownsRow d.lo 68 5 (.slice d.jo d.S.jl.length d.jcap) d.S.jl.length (jcells d.S.jl)
  up : ∀ g, (Value.slice d.ao d.S.acc.length d.cap).ownBlock = some g ∨ (Value.slice d.ho d.S.hol.length d.hcap).ownBlock = some g ∨ (Value.slice d.jo d.S.jl.length d.jcap).ownBlock = some g → g < d.hi
  lh : d.lo ≤ d.hi
  la : d.S.acc.length ≤ 64
  lo' : d.S.hol.length ≤ 64
  lj : d.S.jl.length ≤ 64
def ltcs : List Ltd → List Value
  | [] => []
  | a :: r => a.cs ++ ltcs r
theorem ltcs_app : ∀ (l r : List Ltd), ltcs (l ++ r) = ltcs l ++ ltcs r
  | [], r => rfl
  | a :: l, r => by show a.cs ++ ltcs (l ++ r) = (a.cs ++ ltcs l) ++ ltcs r; rw [ltcs_app l r, List.append_assoc]
theorem ltcs_at : ∀ {l : List Ltd} {i : Nat} {a : Ltd}, l[i]? = some a → ∀ (j : Nat) (v : Value), a.cs[j]? = some v → (ltcs l)[i * 5 + j]? = some v
  | [], i, a, h => by simp at h
  | x :: l, 0, a, h => by
    simp at h
    subst h
    intro j v hj
    have hl := (List.getElem?_eq_some_iff.1 hj).1
    show (x.cs ++ ltcs l)[0 * 5 + j]? = some v
    rw [Nat.zero_mul, Nat.zero_add, List.getElem?_append_left hl]
    exact hj
  | x :: l, i + 1, a, h => by
    intro j v hj
    have ih := ltcs_at (l := l) (i := i) (a := a) (by simpa using h) j v hj
    show (x.cs ++ ltcs l)[(i + 1) * 5 + j]? = some v
    have e : x.cs.length = 5 := rfl
    rw [List.getElem?_append_right (by rw [e]; omega), e, show (i + 1) * 5 + j - 5 = i * 5 + j by omega]
    exact ih
theorem Ltd.Ok.fl {d : Ltd} {V W : World} (h : d.Ok V) (hf : Fl V W) : d.Ok W := ⟨row_fl h.ra hf (by decide) (by decide) (by decide), row_fl h.rh hf (by decide) (by decide) (by decide), row_fl h.rj hf (by decide) (by decide) (by decide), h.up, h.lh, h.la, h.lo', h.lj⟩
theorem Ltd.Ok.row {d : Ltd} {V W : World} (h : d.Ok V) {T : TypeId} {s B n : Nat} {v : Value} {ys : List Value} (hr : V.ownsRow B T s v n ys) (ht : MkT T) (hg : V.grownBy W v.ownBlock) : d.Ok W := by
  have n1 : T ≠ 80 := by rcases ht with rfl | rfl <;> decide
  have n2 : T ≠ 83 := by rcases ht with rfl | rfl <;> decide
  have n3 : T ≠ 68 := by rcases ht with rfl | rfl <;> decide
  exact ⟨h.ra.kept hg (rows2_ne hr h.ra n1), h.rh.kept hg (rows2_ne hr h.rh n2), h.rj.kept hg (rows2_ne hr h.rj n3), h.up, h.lh, h.la, h.lo', h.lj⟩
/-- Windows that follow one another, and end ahead of Y. -/
def Wins (X Y : Nat) (L : List Ltd) : Prop := (∀ d ∈ L, X ≤ d.lo ∧ d.hi ≤ Y) ∧ L.Pairwise (fun d e => d.hi ≤ e.lo)
theorem Wins.app {X Y Y' : Nat} {L : List Ltd} {d : Ltd} (h : Wins X Y L) (h1 : X ≤ Y) (h2 : Y ≤ d.lo) (h3 : d.lo ≤ d.hi) (h4 : d.hi ≤ Y') : Wins X Y' (L ++ [d]) := by
  refine ⟨fun x hx => ?_, ?_⟩
  · rcases List.mem_append.1 hx with hx | hx
    · have := h.1 x hx; omega
    · have e : x = d := by simpa using hx
      subst e
      omega
  · refine List.pairwise_append.2 ⟨h.2, List.pairwise_singleton _ _, fun x hx y hy => ?_⟩
    have e : y = d := by simpa using hy
    subst e
    have := h.1 x hx
    omega
/-- The images that were handed out late. -/
structure LateR (B X Y : Nat) (V : World) (v : Value) (L : List Ltd) : Prop where
  row : V.ownsRow B 35 5 v L.length (ltcs L)
  ok : ∀ d ∈ L, d.Ok V
  win : Wins X Y L
section
variable {B X Y : Nat} {V W : World} {v : Value} {L : List Ltd}
theorem LateR.fl (h : LateR B X Y V v L) (hf : Fl V W) : LateR B X Y W v L := ⟨row_fl h.row hf (by decide) (by decide) (by decide), fun d hd => (h.ok d hd).fl hf, h.win⟩
theorem LateR.app (h : LateR B X Y V v L) {d e : Ltd} (hd : d.Ok V) (he : e.Ok V) (hX : X ≤ Y) (h1 : Y ≤ d.lo) (h2 : d.hi ≤ e.lo) (h3 : e.hi ≤ V.heap.size) {o : Obj} {v' : Value} {w4 : World} (hr : w4.ownsRow B 35 5 v' (L.length + 2) (ltcs L ++ (d.cs ++ e.cs))) (hg : (V.alloc o).grownBy w4 v.ownBlock) : LateR B X V.heap.size w4 v' (L ++ [d, e]) := by
  have hb : Below V.heap.size V (V.alloc o) := (Below.refl _ V).alloc (Nat.le_refl _) o
  have hq : ltcs (L ++ [d, e]) = ltcs L ++ (d.cs ++ e.cs) := by rw [ltcs_app]; simp [ltcs]
  have hq2 : L ++ [d, e] = (L ++ [d]) ++ [e] := by simp
  refine ⟨by rw [hq, List.length_append]; exact hr, fun x hx => ?_, ?_⟩
  · have h0 := h.fl (Fl.below hb)
    rcases List.mem_append.1 hx with hx | hx
    · exact (h0.ok x hx).row h0.row (.inr rfl) hg
    · have e2 : x = d ∨ x = e := by simpa using hx
      rcases e2 with rfl | rfl
      · exact (hd.fl (Fl.below hb)).row h0.row (.inr rfl) hg
      · exact (he.fl (Fl.below hb)).row h0.row (.inr rfl) hg
  · rw [hq2]
    have := hd.lh
    exact (h.win.app hX h1 hd.lh (Nat.le_refl d.hi)).app (by omega) h2 he.lh h3
theorem LateR.at_ (h : LateR B X Y V v L) {i : Nat} {d : Ltd} (hd : L[i]? = some d) : d.Ok V ∧ ∃ g c, v = .slice (some ⟨g, 0, none⟩) L.length c ∧ g < V.heap.size ∧ L.length ≤ c ∧ ∀ (j : Nat) (u : Value), d.cs[j]? = some u → V.cell? ⟨g, i * 5 + j, none⟩ = some u := by
  have hi := (List.getElem?_eq_some_iff.1 hd).1
  refine ⟨h.ok d (List.mem_of_getElem? hd), ?_⟩
  obtain ⟨ao, c, rfl⟩ := own_form2 h.row
  have hr := h.row
  obtain ⟨g, e, _, gl, gle, _, _, _⟩ := row_place hr (by omega)
  subst e
  refine ⟨g, c, rfl, gl, gle, fun j u hj => ?_⟩
  have c := hr.cells (g := g) rfl (i * 5 + j) _ (ltcs_at hd j u hj)
  have e : (⟨g, 0, none⟩ : Addr).add (i * 5 + j) = ⟨g, i * 5 + j, none⟩ := by simp [Addr.add]; intros; omega
  rw [e] at c
  exact c
end
end Go.Proofs.Ytcfenjpdjogmdaa
namespace Go.Proofs.Ytcfenjpdjogmdaa
open Go.RowKit

theorem OutR.row_ {B : Nat} {V W : World} {v vt : Value} {L : List Mkd} {P : Nat → Prop} (h : OutR B V v L P) {B' s n : Nat} {xs : List Value} (hr : V.ownsRow B' 35 s vt n xs) (hg : V.grownBy W vt.ownBlock) : OutR B W v L P :=
  ⟨h.row.kept hg (rows2_ne hr h.row (by decide)), fun d hd => ⟨(h.ok d hd).r.row hr (.inr rfl) hg, (h.ok d hd).m, (h.ok d hd).n, (h.ok d hd).nh, (h.ok d hd).nj⟩⟩
theorem OutR.imp {B : Nat} {V : World} {v : Value} {L : List Mkd} {P P' : Nat → Prop} (h : OutR B V v L P) (hp : ∀ g, P g → P' g) : OutR B V v L P' := ⟨h.row, fun d hd => ⟨(h.ok d hd).r.imp hp, (h.ok d hd).m, (h.ok d hd).n, (h.ok d hd).nh, (h.ok d hd).nj⟩⟩
theorem MkR.lt {V : World} {m n nh nj : Nat} {ao ho jo xa xh xj : Option Addr} {P : Nat → Prop} (h : MkR V m n nh nj ao ho jo xa xh xj P) : MkR V m n nh nj ao ho jo xa xh xj (fun g => g < V.heap.size) := by
  refine ⟨fun hn => ?_, ?_, fun hn => ?_, ?_, fun hn => ?_, ?_⟩
  · obtain ⟨g, cs, e, _, hb, hc⟩ := h.mA hn
    exact ⟨g, cs, e, block_lt hb, hb, hc⟩
  · obtain ⟨g, cs, e, _, hb, hc⟩ := h.xA
    exact ⟨g, cs, e, block_lt hb, hb, hc⟩
  · obtain ⟨g, cs, e, _, hb, hc⟩ := h.mH hn
    exact ⟨g, cs, e, block_lt hb, hb, hc⟩
  · obtain ⟨g, cs, e, _, hb, hc⟩ := h.xH
    exact ⟨g, cs, e, block_lt hb, hb, hc⟩
  · obtain ⟨g, cs, e, _, hb, hc⟩ := h.mJ hn
    exact ⟨g, cs, e, block_lt hb, hb, hc⟩
  · obtain ⟨g, cs, e, _, hb, hc⟩ := h.xJ
    exact ⟨g, cs, e, block_lt hb, hb, hc⟩
theorem OutR.lt {B : Nat} {V : World} {v : Value} {L : List Mkd} {P : Nat → Prop} (h : OutR B V v L P) : OutR B V v L (fun g => g < V.heap.size) := ⟨h.row, fun d hd => ⟨(h.ok d hd).r.lt, (h.ok d hd).m, (h.ok d hd).n, (h.ok d hd).nh, (h.ok d hd).nj⟩⟩
/-- The second ledger goes on, and its images are handed out. -/
structure A3 (w : World) (p a b p' a' b' M N : Nat) (S : LS) (Q : List LS) (S' : LS) (Q' : List LS) (v : Value) (L : List Mkd) (X Y : Nat) (vt : Value) (LL : List Ltd) (V : World) : Prop where
  ap : Ap w p a b p' a' b' M N S Q S' Q' v L (fun g => g < X) V
  lt : LateR w.heap.size X Y V vt LL
  hX : X ≤ Y
  hY : Y ≤ V.heap.size
section
variable {w : World} {p a b p' a' b' M N X Y : Nat} {S T : LS} {Q R : List LS} {S' T' : LS} {Q' R' : List LS} {v vt : Value} {L : List Mkd} {LL : List Ltd} {V V' : World}
theorem A3.kept (h : A3 w p a b p' a' b' M N S Q S' Q' v L X Y vt LL V) (hb : Below V.heap.size V V') : A3 w p a b p' a' b' M N S Q S' Q' v L X Y vt LL V' := ⟨h.ap.kept hb, h.lt.fl (Fl.below hb), h.hX, Nat.le_trans h.hY hb.size⟩
theorem A3.does (h : A3 w p a b p' a' b' M N S Q S' Q' v L X Y vt LL V) (hN : N ≤ 100000000000) {o : OpR} (ho : o.Ok w.heap.size w) {c : Int} (hS : stepQ S' Q' o = (c, T', R')) :
    Calls Try.prog 6 #[.pointer (some ⟨p', 0, none⟩), .agg o.arr] V fun e V' => e = .returned (.int .i64 c) ∧ Hid (A3 w p a b p' a' b' M (N + 48) S Q T' R' v L X Y vt LL V') := by
  refine (h.ap.doesK hN ho hS).mono ?_
  rintro e V' ⟨rfl, G⟩
  exact ⟨rfl, G.out.1, h.lt.fl G.out.2, h.hX, Nat.le_trans h.hY G.out.2.size⟩
theorem A3.image (h : A3 w p a b p' a' b' M N S Q S' Q' v L X Y vt LL V) :
    Calls Try.prog 7 #[.pointer (some ⟨p', 0, none⟩)] V fun e V' => ∃ ao cap ho hcap jo jcap, e = .returned (imgV S' ao cap ho hcap jo jcap) ∧ Hid (A3 w p a b p' a' b' M N S Q S' Q' v L X Y vt LL V' ∧ Below V.heap.size V V' ∧ Ltd.Ok ⟨S', ao, ho, jo, cap, hcap, jcap, V.heap.size, V'.heap.size⟩ V') := by
  have hok := h.ap.two.ok
  refine h.ap.two.imageK.mono ?_
  rintro e V' ⟨ao, cap, ho, hcap, jo, jcap, rfl, G⟩
  obtain ⟨g1, g2, g3⟩ := G.out
  refine ⟨ao, cap, ho, hcap, jo, jcap, rfl, h.kept g3, g3, g1.ra, g1.rh, g1.rj, fun g hg => ?_, g3.size, hok.2.1.la, hok.2.1.lh, by show S'.jl.length ≤ 64; rw [S'.jl_len]; omega⟩
  rcases hg with e | e | e
  · exact (g1.ra.lt g e).2
  · exact (g1.rh.lt g e).2
  · exact (g1.rj.lt g e).2
theorem A3.app (h : A3 w p a b p' a' b' M N S Q S' Q' v L X Y vt LL V) {d e : Ltd} (hd : d.Ok V) (he : e.Ok V) (h1 : Y ≤ d.lo) (h2 : d.hi ≤ e.lo) (h3 : e.hi ≤ V.heap.size) {o : Obj} {v' : Value} {w4 : World} (hr : w4.ownsRow w.heap.size 35 5 v' (LL.length + 2) (ltcs LL ++ (d.cs ++ e.cs))) (hg : (V.alloc o).grownBy w4 vt.ownBlock) : A3 w p a b p' a' b' M N S Q S' Q' v L X V.heap.size v' (LL ++ [d, e]) w4 := by
  have hb : Below V.heap.size V (V.alloc o) := (Below.refl _ V).alloc (Nat.le_refl _) o
  have h0 := h.kept hb
  exact ⟨⟨h0.ap.two.row h0.lt.row (.inr rfl) hg, h0.ap.out.row_ h0.lt.row hg⟩, h.lt.app hd he h.hX h1 h2 h3 hr hg, Nat.le_trans h.hX h.hY, Nat.le_trans hb.size hg.size⟩
end
/-- No window from r on. -/
def NoW (LL : List Ltd) (r : Nat) (g : Nat) : Prop := ∀ j d, r ≤ j → LL[j]? = some d → ¬ (d.lo ≤ g ∧ g < d.hi)
/-- The late images are marked, one after another. -/
structure A4 (w : World) (p a b p' a' b' : Nat) (S S' : LS) (v : Value) (L : List Mkd) (X Y : Nat) (vt : Value) (LL : List Ltd) (r : Nat) (V : World) : Prop where
  bel : Below w.heap.size w V
  lg : ∃ mk ch, LG V p a b mk ch S
  lg' : ∃ mk ch, LG V p' a' b' mk ch S'
  ok : S.Ok ∧ S'.Ok
  out : OutR w.heap.size V v L (NoW LL r)
  row : V.ownsRow w.heap.size 35 5 vt LL.length (ltcs LL)
  lt : ∀ j d, r ≤ j → LL[j]? = some d → d.Ok V
  win : Wins X Y LL
  hw : w.heap.size ≤ X
  hY : Y ≤ V.heap.size
theorem A3.a4 {w : World} {p a b p' a' b' M N X Y : Nat} {S : LS} {Q : List LS} {S' : LS} {Q' : List LS} {v vt : Value} {L : List Mkd} {LL : List Ltd} {V : World} (h : A3 w p a b p' a' b' M N S Q S' Q' v L X Y vt LL V) (hw : w.heap.size ≤ X) : A4 w p a b p' a' b' S S' v L X Y vt LL 0 V := by
  obtain ⟨Z, Z', h1, h2, _⟩ := h.ap.two.z
  refine ⟨h.ap.two.bel, ⟨_, _, h1.l.lg⟩, ⟨_, _, h2.l.lg⟩, ⟨h1.ok, h2.ok⟩, h.ap.out.imp (fun g hg j d _ hd hc => ?_), h.lt.row, fun j d _ hd => h.lt.ok d (List.mem_of_getElem? hd), h.lt.win, hw, h.hY⟩
  have := h.lt.win.1 d (List.mem_of_getElem? hd)
  omega
/-- What is no list of the image stays when it is marked. -/
theorem frm_at {V W : World} {d : Ltd} (f : FrM V W (.slice d.ao d.S.acc.length d.cap) (.slice d.ho d.S.hol.length d.hcap) (.slice d.jo d.S.jl.length d.jcap)) (hd : d.Ok V) {k : Nat} {o : Obj} (hk : V.heap[k]? = some o) (hne : ∀ cs T, o = .cells cs T (0, 0) → T ≠ 80 ∧ T ≠ 83 ∧ T ≠ 68) : W.heap[k]? = some o := by
  have hlt : k < V.heap.size := by
    by_cases h : k < V.heap.size
    · exact h
    · rw [Array.getElem?_eq_none (by omega)] at hk; cases hk
  have key : ∀ {T : TypeId} {s n : Nat} {v : Value} {xs : List Value}, V.ownsRow d.lo T s v n xs → (T = 80 ∨ T = 83 ∨ T = 68) → v.ownBlock ≠ some k := fun {T s n v xs} hr hT e => by
    rcases hr.2 with ⟨rfl, _⟩ | ⟨g, cp, cur, rfl, _, hg, _⟩
    · cases e
    · cases e
      rw [hk] at hg
      cases hg
      have := hne _ _ rfl
      rcases hT with h | h | h
      · exact this.1 h
      · exact this.2.1 h
      · exact this.2.2 h
  exact (f.block k hlt (key hd.ra (.inl rfl)) (key hd.rh (.inr (.inl rfl))) (key hd.rj (.inr (.inr rfl)))).trans hk
theorem frm_row {V W : World} {d : Ltd} (f : FrM V W (.slice d.ao d.S.acc.length d.cap) (.slice d.ho d.S.hol.length d.hcap) (.slice d.jo d.S.jl.length d.jcap)) (hd : d.Ok V) {B s n : Nat} {T : TypeId} {v : Value} {xs : List Value} (hr : V.ownsRow B T s v n xs) (hT : MkT T) : W.ownsRow B T s v n xs := by
  refine ⟨hr.1, ?_⟩
  rcases hr.2 with h | ⟨g, cp, cur, rfl, q1, q2, q3⟩
  · exact .inl h
  · refine .inr ⟨g, cp, cur, rfl, q1, frm_at f hd q2 (fun cs T' e => ?_), q3⟩
    cases e
    rcases hT with e | e <;> subst e <;> exact ⟨by decide, by decide, by decide⟩
theorem frm_lg {V W : World} {d : Ltd} (f : FrM V W (.slice d.ao d.S.acc.length d.cap) (.slice d.ho d.S.hol.length d.hcap) (.slice d.jo d.S.jl.length d.jcap)) (hd : d.Ok V) {p a b : Nat} {mk ch : Value} {S : LS} (h : LG V p a b mk ch S) : LG W p a b mk ch S := by
  obtain ⟨cp, g1, _⟩ := h.blk
  obtain ⟨es, kk, g2⟩ := h.acc.obj
  obtain ⟨es', kk', g3⟩ := h.hol.obj
  refine h.same ((frm_at f hd g1 (fun cs T e => ?_)).trans g1.symm) ((frm_at f hd g2 (fun cs T e => by cases e)).trans g2.symm) ((frm_at f hd g3 (fun cs T e => by cases e)).trans g3.symm)
  cases e
  exact ⟨by decide, by decide, by decide⟩
section
variable {w : World} {p a b p' a' b' X Y r : Nat} {S S' : LS} {v vt : Value} {L : List Mkd} {LL : List Ltd} {V V' : World}
theorem A4.kept (h : A4 w p a b p' a' b' S S' v L X Y vt LL r V) (hb : Below V.heap.size V V') : A4 w p a b p' a' b' S S' v L X Y vt LL r V' := by
  obtain ⟨_, _, h1⟩ := h.lg
  obtain ⟨_, _, h2⟩ := h.lg'
  exact ⟨h.bel.trans (hb.mono h.bel.size), ⟨_, _, h1.kept hb⟩, ⟨_, _, h2.kept hb⟩, h.ok, h.out.kept hb, row_fl h.row (Fl.below hb) (by decide) (by decide) (by decide), fun j d hj hd => (h.lt j d hj hd).fl (Fl.below hb), h.win, h.hw, Nat.le_trans h.hY hb.size⟩
theorem A4.mark (h : A4 w p a b p' a' b' S S' v L X Y vt LL r V) {d : Ltd} (hd : LL[r]? = some d) {m : Nat} (hm : m ≤ 2000000000) :
    Calls Try.prog 14 #[.agg d.cs.toArray, .int .u64 (m : Nat)] V fun e V' => ∃ ya yac yh yhc yj yjc, e = .returned (.agg #[.int .u64 (d.S.tot : Nat), .int .u64 (d.S.nx : Nat), .slice d.ao d.S.acc.length d.cap, .slice d.ho d.S.hol.length d.hcap, .slice d.jo d.S.jl.length d.jcap, .slice ya (d.S.acc.length + 64) yac, .slice yh (d.S.hol.length + 64) yhc, .slice yj (d.S.jl.length + 64) yjc, .int .u64 (m : Nat)]) ∧ Hid (A4 w p a b p' a' b' S S' v L X Y vt LL (r + 1) V' ∧ Mkd.Ok ⟨d.S.tot, d.S.nx, d.ao, d.ho, d.jo, ya, yh, yj, d.S.acc.length, d.cap, d.S.hol.length, d.hcap, d.S.jl.length, d.jcap, yac, yhc, yjc, m⟩ V' (NoW LL (r + 1))) := by
  have hdo := h.lt r d (Nat.le_refl _) hd
  have hwd := h.win.1 d (List.mem_of_getElem? hd)
  have hlo : d.lo ≤ V.heap.size := by have := hdo.lh; have := h.hY; omega
  have after : ∀ j e, r + 1 ≤ j → LL[j]? = some e → d.hi ≤ e.lo := fun j e hj he => by
    obtain ⟨hj1, rfl⟩ := List.getElem?_eq_some_iff.1 he
    obtain ⟨hr1, rfl⟩ := List.getElem?_eq_some_iff.1 hd
    exact List.pairwise_iff_getElem.1 h.win.2 r j hr1 hj1 (by omega)
  have own : ∀ g, (Value.slice d.ao d.S.acc.length d.cap).ownBlock = some g ∨ (Value.slice d.ho d.S.hol.length d.hcap).ownBlock = some g ∨ (Value.slice d.jo d.S.jl.length d.jcap).ownBlock = some g → d.lo ≤ g ∧ g < d.hi := fun g hg => ⟨by
    rcases hg with e | e | e
    · exact (hdo.ra.lt g e).1
    · exact (hdo.rh.lt g e).1
    · exact (hdo.rj.lt g e).1, hdo.up g hg⟩
  refine (markedC hm (d.S.tot : Nat) (d.S.nx : Nat) d.S.acc.length d.cap d.S.hol.length d.hcap d.S.jl.length d.jcap hdo.ra hdo.rh hdo.rj hlo hdo.la hdo.lo' hdo.lj).mono ?_
  rintro e V' ⟨ya, yac, yh, yhc, yj, yjc, rfl, G⟩
  obtain ⟨hk, f⟩ := G.out
  have off : ∀ g, g < V.heap.size → ¬ (d.lo ≤ g ∧ g < d.hi) → V'.heap[g]? = V.heap[g]? := fun g hg hn => f.block g hg (fun e => hn (own g (.inl e))) (fun e => hn (own g (.inr (.inl e)))) (fun e => hn (own g (.inr (.inr e))))
  obtain ⟨_, _, h1⟩ := h.lg
  obtain ⟨_, _, h2⟩ := h.lg'
  refine ⟨ya, yac, yh, yhc, yj, yjc, rfl, ⟨⟨f.os.trans h.bel.os, f.tape.trans h.bel.tape, f.output.trans h.bel.output, Nat.le_trans h.bel.size f.size, fun k hk => (off k (Nat.lt_of_lt_of_le hk h.bel.size) (by have := h.hw; omega)).trans (h.bel.block k hk)⟩, ⟨_, _, frm_lg f hdo h1⟩, ⟨_, _, frm_lg f hdo h2⟩, h.ok, ⟨frm_row f hdo h.out.row (.inl rfl), fun x hx => ?_⟩, frm_row f hdo h.row (.inr rfl), fun j e hj he => ?_, h.win, h.hw, Nat.le_trans h.hY f.size⟩, ⟨hk.imp (fun g hg j e hj he hc => ?_), hm, hdo.la, hdo.lo', hdo.lj⟩⟩
  · have := h.out.ok x hx
    exact ⟨(this.r.off (fun g hg hp => off g hg (hp r d (Nat.le_refl _) hd))).imp (fun g hp j e hj he => hp j e (by omega) he), this.m, this.n, this.nh, this.nj⟩
  · have he' := h.lt j e (by omega) he
    have ha := after j e hj he
    have key : ∀ {T : TypeId} {s n : Nat} {y : Value} {xs : List Value}, V.ownsRow e.lo T s y n xs → V'.ownsRow e.lo T s y n xs := fun {T s n y xs} hr => row_same hr (fun k hk => off k (hr.lt k hk).2 (by have := (hr.lt k hk).1; omega))
    exact ⟨key he'.ra, key he'.rh, key he'.rj, he'.up, he'.lh, he'.la, he'.lo', he'.lj⟩
  · have ha := after j e hj he
    have hwe := h.win.1 e (List.mem_of_getElem? he)
    rcases hg with e1 | e1 | e1 | e1
    · have := (own g (.inl (own_at0 e1))).2; omega
    · have := (own g (.inr (.inl (own_at0 e1)))).2; omega
    · have := (own g (.inr (.inr (own_at0 e1)))).2; omega
    · have := h.hY; omega
theorem A4.app (h : A4 w p a b p' a' b' S S' v L X Y vt LL r V) {d : Mkd} (hd : d.Ok V (NoW LL r)) {o : Obj} {v' : Value} {w4 : World} (hr : w4.ownsRow w.heap.size 48 9 v' (L.length + 1) (mkcs L ++ d.cs)) (hg : (V.alloc o).grownBy w4 v.ownBlock) : A4 w p a b p' a' b' S S' v' (L ++ [d]) X Y vt LL r w4 := by
  have hb : Below V.heap.size V (V.alloc o) := (Below.refl _ V).alloc (Nat.le_refl _) o
  have h0 := h.kept hb
  obtain ⟨_, _, h1⟩ := h0.lg
  obtain ⟨_, _, h2⟩ := h0.lg'
  have lg : ∀ {p a b : Nat} {mk ch : Value} {S : LS}, LG (V.alloc o) p a b mk ch S → LG w4 p a b mk ch S := fun {p a b mk ch S} hl => by
    rcases h0.out.row.2 with ⟨e, _⟩ | ⟨g, cp, cur, e, q1, q2, q3⟩
    · rw [e] at hg
      exact hl.kept (below_of_none hg)
    · rw [e] at hg
      exact hl.fm q2 (.inl rfl) (Fm.of hg q2 (.inl rfl))
  exact ⟨h0.bel.grown hg h0.bel.size (fun j e => (h0.out.row.lt j e).1), ⟨_, _, lg h1⟩, ⟨_, _, lg h2⟩, h.ok, h.out.app hd hr hg, h0.row.kept hg (rows2_ne h0.out.row h0.row (by decide)), fun j d hj hd => (h0.lt j d hj hd).row h0.out.row (.inl rfl) hg, h.win, h.hw, Nat.le_trans h0.hY hg.size⟩
theorem A4.imageL (h : A4 w p a b p' a' b' S S' v L X Y vt LL r V) : Calls Try.prog 7 #[.pointer (some ⟨p, 0, none⟩)] V fun e V1 => ∃ ao cap ho hcap jo jcap, e = .returned (imgV S ao cap ho hcap jo jcap) ∧ Hid (A4 w p a b p' a' b' S S' v L X Y vt LL r V1 ∧ ImX V1 S ao cap ho hcap jo jcap) := by
  obtain ⟨_, _, h1⟩ := h.lg
  refine (imageG h1 h.ok.1).mono ?_
  rintro e V1 ⟨ao, cap, ho, hcap, jo, jcap, rfl, G⟩
  exact ⟨ao, cap, ho, hcap, jo, jcap, rfl, h.kept G.out.2, ImX.of G.out.1⟩
theorem A4.imageK (h : A4 w p a b p' a' b' S S' v L X Y vt LL r V) : Calls Try.prog 7 #[.pointer (some ⟨p', 0, none⟩)] V fun e V1 => ∃ ao cap ho hcap jo jcap, e = .returned (imgV S' ao cap ho hcap jo jcap) ∧ Hid (A4 w p a b p' a' b' S S' v L X Y vt LL r V1 ∧ ImX V1 S' ao cap ho hcap jo jcap ∧ Below V.heap.size V V1) := by
  obtain ⟨_, _, h1⟩ := h.lg'
  refine (imageG h1 h.ok.2).mono ?_
  rintro e V1 ⟨ao, cap, ho, hcap, jo, jcap, rfl, G⟩
  exact ⟨ao, cap, ho, hcap, jo, jcap, rfl, h.kept G.out.2, ImX.of G.out.1, G.out.2⟩
theorem A4.at_ (h : A4 w p a b p' a' b' S S' v L X Y vt LL r V) {i : Nat} {d : Ltd} (hd : LL[i]? = some d) : ∃ g c, vt = .slice (some ⟨g, 0, none⟩) LL.length c ∧ g < V.heap.size ∧ LL.length ≤ c ∧ ∀ (j : Nat) (u : Value), d.cs[j]? = some u → V.cell? ⟨g, i * 5 + j, none⟩ = some u := by
  have hi := (List.getElem?_eq_some_iff.1 hd).1
  have hr := h.row
  obtain ⟨ao, c, rfl⟩ := own_form2 hr
  obtain ⟨g, e, _, gl, gle, _, _, _⟩ := row_place hr (by omega)
  subst e
  refine ⟨g, c, rfl, gl, gle, fun j u hj => ?_⟩
  have c := hr.cells (g := g) rfl (i * 5 + j) _ (ltcs_at hd j u hj)
  have e : (⟨g, 0, none⟩ : Addr).add (i * 5 + j) = ⟨g, i * 5 + j, none⟩ := by simp [Addr.add]; intros; omega
  rw [e] at c
  exact c
end
end Go.Proofs.Ytcfenjpdjogmdaa
