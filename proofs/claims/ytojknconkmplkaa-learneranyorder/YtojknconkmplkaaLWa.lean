import Derived.Test.YtojknconkmplkaaLSc
import Derived.Test.YtojknconkmplkaaLVo
import Derived.Test.YtojknconkmplkaaME
import Derived.Test.YtojknconkmplkaaJNw
namespace Go.Proofs.Ytojknconkmplkaa
open Go.RowKit Crc

theorem LL.other {W W' : World} {lb g mb n q : Nat} {c : Cf} {low : Nat} {u : Nat → Jv} (h : LL W lb g mb n c low u) (hg : W.grownBy W' (some q)) {es : Array MapEntry} {k : Nat} (hq : W.heap[q]? = some (.map es k)) (hne : q ≠ mb) : LL W' lb g mb n c low u := by
  obtain ⟨m, t1, t2, t3⟩ := h.tal
  have n1 : some lb ≠ some q := fun e => by cases e; rw [h.blk] at hq; cases hq
  have n2 : some g ≠ some q := fun e => by cases e; rw [h.grp] at hq; cases hq
  exact ⟨(hg.block _ (block_lt h.blk) n1).trans h.blk, (hg.block _ (block_lt h.grp) n2).trans h.grp, ⟨m, t1.kept hg (fun e => hne (Option.some.inj e).symm), fun x => ((t2 x).odd hg (odd_map hq)).wide hg.size, t3⟩, h.lo, h.zer⟩
/-- Two learners side by side, the configuration's box and the votes. -/
structure Lo (w : World) (c : Cf) (vb off : Nat) (vs : List Vt) (lb g mb lb' g' mb' : Nat) (n n' : Nat) (u u' : Nat → Jv) (wr : World) : Prop where
  bel : Below w.heap.size w wr
  cfg : wr.heap[w.heap.size]? = some (.cells c.cells 24 (0, 0))
  la : LL wr lb g mb n c 0 u
  lb : LL wr lb' g' mb' n' c 0 u'
  ne : mb ≠ mb'
  m1 : w.heap.size ≤ mb
  m2 : w.heap.size ≤ mb'
  vts : Vts wr vb off vs
  vlt : 0 < vs.length → vb < w.heap.size
theorem Vts.below {W W' : World} {b off : Nat} {vs : List Vt} (h : Vts W b off vs) {B : Nat} (hb : Below B W W') (hl : 0 < vs.length → b < B) : Vts W' b off vs :=
  ⟨h.ok, fun i x hi j v hj => (hb.cell (p := ⟨b, _, none⟩) (hl (by have := (List.getElem?_eq_some_iff.1 hi).1; omega))).trans (h.at_ i x hi j v hj)⟩
theorem Lo.kept {w : World} {c : Cf} {vb off : Nat} {vs : List Vt} {lb g mb lb' g' mb' : Nat} {n n' : Nat} {u u' : Nat → Jv} {wr w' : World} (h : Lo w c vb off vs lb g mb lb' g' mb' n n' u u' wr) (hb : Below wr.heap.size wr w') : Lo w c vb off vs lb g mb lb' g' mb' n n' u u' w' :=
  ⟨h.bel.trans (hb.mono h.bel.size), (hb.block _ (block_lt h.cfg)).trans h.cfg, h.la.kept hb, h.lb.kept hb, h.ne, h.m1, h.m2, h.vts.below (hb.mono h.bel.size) h.vlt, h.vlt⟩
theorem LL.objL {W : World} {lb g mb n : Nat} {c : Cf} {low : Nat} {u : Nat → Jv} (h : LL W lb g mb n c low u) : ∃ es k, W.heap[mb]? = some (.map es k) := by
  obtain ⟨m, t1, _⟩ := h.tal
  exact t1.obj
theorem Lo.stepA {w : World} {c : Cf} {vb off : Nat} {vs : List Vt} {lb g mb lb' g' mb' : Nat} {n n' : Nat} {u u' : Nat → Jv} {wr w' : World} (h : Lo w c vb off vs lb g mb lb' g' mb' n n' u u' wr) {n2 : Nat} {u2 : Nat → Jv} (hL : LL w' lb g mb n2 c 0 u2) (hg : wr.grownBy w' (some mb)) : Lo w c vb off vs lb g mb lb' g' mb' n2 n' u2 u' w' := by
  obtain ⟨es, k, ho⟩ := h.la.objL
  have hb : Below w.heap.size wr w' := (Below.refl _ wr).grown hg h.bel.size (fun k e => by cases e; exact h.m1)
  exact ⟨h.bel.trans hb, (hg.block _ (block_lt h.cfg) (fun e => by cases e; rw [h.cfg] at ho; cases ho)).trans h.cfg, hL, h.lb.other hg ho h.ne, h.ne, h.m1, h.m2, h.vts.below hb h.vlt, h.vlt⟩
theorem Lo.stepB {w : World} {c : Cf} {vb off : Nat} {vs : List Vt} {lb g mb lb' g' mb' : Nat} {n n' : Nat} {u u' : Nat → Jv} {wr w' : World} (h : Lo w c vb off vs lb g mb lb' g' mb' n n' u u' wr) {n2 : Nat} {u2 : Nat → Jv} (hL : LL w' lb' g' mb' n2 c 0 u2) (hg : wr.grownBy w' (some mb')) : Lo w c vb off vs lb g mb lb' g' mb' n n2 u u2 w' := by
  obtain ⟨es, k, ho⟩ := h.lb.objL
  have hb : Below w.heap.size wr w' := (Below.refl _ wr).grown hg h.bel.size (fun k e => by cases e; exact h.m2)
  exact ⟨h.bel.trans hb, (hg.block _ (block_lt h.cfg) (fun e => by cases e; rw [h.cfg] at ho; cases ho)).trans h.cfg, h.la.other hg ho (Ne.symm h.ne), hL, h.ne, h.m1, h.m2, h.vts.below hb h.vlt, h.vlt⟩
/-- The votes as numbers. -/
def vn (vs : List Vt) : List (Nat × Nat) := vs.map fun v => (v.src.toNat, v.slot)
theorem vn_at {vs : List Vt} {k : Nat} {v : Vt} (h : vs[k]? = some v) : (vn vs)[k]? = some (v.src.toNat, v.slot) := by unfold vn; rw [List.getElem?_map, h]; rfl
theorem vn_len (vs : List Vt) : (vn vs).length = vs.length := by simp [vn]
theorem up_eq : ∀ (l l' : List Nat), l.Pairwise (· < ·) → l'.Pairwise (· < ·) → (∀ x, x ∈ l ↔ x ∈ l') → l = l'
  | [], [], _, _, _ => rfl
  | [], b :: r, _, _, h => by have := (h b).2 (by simp); simp at this
  | a :: r, [], _, _, h => by have := (h a).1 (by simp); simp at this
  | a :: r, b :: s, h1, h2, h => by
    have p1 := List.pairwise_cons.1 h1
    have p2 := List.pairwise_cons.1 h2
    have e : a = b := by
      rcases List.mem_cons.1 ((h a).1 (by simp)) with e | e
      · exact e
      · rcases List.mem_cons.1 ((h b).2 (by simp)) with e' | e'
        · exact e'.symm
        · have := p1.1 b e'; have := p2.1 a e; omega
    subst e
    rw [up_eq r s p1.2 p2.2 (fun x => ?_)]
    constructor
    · intro hx
      rcases List.mem_cons.1 ((h x).1 (List.mem_cons_of_mem _ hx)) with e | e
      · subst e; have := p1.1 x hx; omega
      · exact e
    · intro hx
      rcases List.mem_cons.1 ((h x).2 (List.mem_cons_of_mem _ hx)) with e | e
      · subst e; have := p2.1 x hx; omega
      · exact e
theorem InvU.has {c : Cf} {B : Nat → Nat} {u : Nat → Jv} (h : InvU c B u) (x : Nat) : 0 < (u x).fr ↔ B x ≠ 0 := by
  constructor
  · intro hp e
    rw [h.zero x e] at hp
    simp [Jv.zero] at hp
  · exact h.pos x
/-- What State tells of both is the same, but for who is in a tally that is done. -/
theorem both_same {c : Cf} {B : Nat → Nat} {u u' : Nat → Jv} (h : InvU c B u) (h' : InvU c B u') {ao ao' : Option Addr} {N N' : Nat} {W w1 W' w' : World} (ho : StOut c u ao N W w1) (hk : Below w1.heap.size w1 w') (ho' : StOut c u' ao' N' W' w') :
    N = N' ∧ ∃ b b' ts ts' rv, Tys w' ao N b ts rv ∧ Tys w' ao' N b' ts' rv ∧ (∀ (i : Nat) (t t' : Ty), ts[i]? = some t → ts'[i]? = some t' → Alike t t') := by
  obtain ⟨ks, ts, b, p1, p2, p3, p4, p5, p6, p7, p8, p9⟩ := ho
  obtain ⟨ks', ts', b', q1, q2, q3, q4, q5, q6, q7, q8, q9⟩ := ho'
  have e : ks = ks' := up_eq ks ks' p1 q1 (fun x => by
    constructor
    · intro hx; have h64 := p3 x hx; exact (q2 x h64).2 ((h'.has x).2 ((h.has x).1 ((p2 x h64).1 hx)))
    · intro hx; have h64 := q3 x hx; exact (p2 x h64).2 ((h.has x).2 ((h'.has x).1 ((q2 x h64).1 hx))))
  subst e
  have eN : N = N' := by omega
  subst eN
  have hB : ∀ i x, ks[i]? = some x → B x ≠ 0 := fun i x hi => (h.has x).1 ((p2 x (p3 x (List.mem_of_getElem? hi))).1 (List.mem_of_getElem? hi))
  have at_k : ∀ {l : List Ty}, l.length = N → ∀ i t, l[i]? = some t → ∃ x, ks[i]? = some x := fun hl i t hi => ⟨_, List.getElem?_eq_getElem (by have := (List.getElem?_eq_some_iff.1 hi).1; omega)⟩
  refine ⟨rfl, b, b', ts, ts', ks.map vrs, ⟨p5, fun hp => (p7 hp).1, fun hp => Nat.lt_of_lt_of_le (p7 hp).2 hk.size, fun i t hi j v hj => ?_, fun i t hi => ?_⟩, ⟨q5, fun hp => (q7 hp).1, fun hp => (q7 hp).2, fun i t hi j v hj => (q8 i t hi).1 j v hj, fun i t hi => ?_⟩, fun i t t' hi hi' => ?_⟩
  · exact (hk.cell (p := ⟨b, _, none⟩) (p7 (by have := (List.getElem?_eq_some_iff.1 hi).1; omega)).2).trans ((p8 i t hi).1 j v hj)
  · obtain ⟨x, hx⟩ := at_k p5 i t hi
    refine ⟨vrs x, by rw [List.getElem?_map, hx]; rfl, ?_⟩
    have := (p8 i t hi).2
    rw [(p6 i t x hi hx).slot, (h.num x (hB i x hx)).2.2.2] at this
    exact this.kept hk
  · obtain ⟨x, hx⟩ := at_k q5 i t hi
    refine ⟨vrs x, by rw [List.getElem?_map, hx]; rfl, ?_⟩
    have := (q8 i t hi).2
    rw [(q6 i t x hi hx).slot, (h'.num x (hB i x hx)).2.2.2] at this
    exact this
  · obtain ⟨x, hx⟩ := at_k p5 i t hi
    have a := p6 i t x hi hx
    have a' := q6 i t' x hi' hx
    have nb := hB i x hx
    have m1 := h.num x nb
    have m2 := h'.num x nb
    refine ⟨by rw [a.slot, a'.slot], by rw [a.num, a'.num, m1.1, m2.1], by rw [a.node, a'.node, m1.2.1, m2.2.1], by rw [a.st, a'.st, m1.2.2.1, m2.2.2.1], by rw [a.dn, a'.dn, h.maj x nb, h'.maj x nb], fun hd => ?_⟩
    rw [a.dn, h.maj x nb] at hd
    rw [a.fr, a'.fr, h.fr x nb hd, h'.fr x nb hd]
end Go.Proofs.Ytojknconkmplkaa
