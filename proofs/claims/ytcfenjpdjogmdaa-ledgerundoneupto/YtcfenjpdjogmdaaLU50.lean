import Derived.Test.YtcfenjpdjogmdaaLU49
namespace Go.Proofs.Ytcfenjpdjogmdaa
open Go.RowKit

theorem LQP.mono {B p a b M : Nat} {V V' : World} {Z : SZ} {T : LS} {R : List LS} {N : Nat} (h : LQP B p a b M V V' Z T R) (hN : M ≤ N) : LQP B p a b N V V' Z T R := by
  obtain ⟨Z', h1, h2⟩ := h
  exact ⟨Z', ⟨h1.l, h1.v, by have := h1.c; omega, h1.ok, h1.oq⟩, h2⟩
/-- A step of whatever kind. -/
theorem doesQ {B p a b M lim : Nat} {V : World} {Z : SZ} {S : LS} {Q : List LS} (h : LQ B p a b M V Z S Q) (hM : M ≤ 100000000000) {o : OpR} (ho : o.Ok lim V) (hlim : lim ≤ V.heap.size) {c : Int} {T : LS} {R : List LS} (hS : stepQ S Q o = (c, T, R)) :
    Calls Try.prog 6 #[.pointer (some ⟨p, 0, none⟩), .agg o.arr] V fun e w' => e = .returned (.int .i64 c) ∧ Hid (LQP B p a b M V w' Z T R) := by
  by_cases h16 : 1 ≤ o.K ∧ o.K ≤ 6
  · obtain ⟨kk, hkk⟩ : ∃ kk : Nat, o.K = (kk : Int) := Int.eq_ofNat_of_zero_le (by omega)
    obtain ⟨cS, hcS⟩ : ∃ cS, S.step kk o.A o.B o.C o.l = cS := ⟨_, rfl⟩
    obtain ⟨d, S1⟩ := cS
    have e := (stepQ_16 (Q := Q) hkk (by omega) hcS).symm.trans hS
    cases e
    obtain ⟨bs, off, hsh, hso⟩ := ho.sh
    have hd := doesM h.l (by have := h.c; omega) h.ok (k := kk) (by omega) (by omega) ho.hA ho.hB ho.hC o.N o.sn o.sc ho.hn hsh (fun h0 => ⟨(hso h0).1, Nat.lt_of_lt_of_le (hso h0).2 hlim⟩) ho.le hcS
    rw [← hkk] at hd
    refine hd.mono ?_
    rintro e V' ⟨rfl, G⟩
    obtain ⟨Z', ds, g1, g2, g3, g4, g5, g6⟩ := G.out.tr
    refine ⟨rfl, Z', ⟨g1, h.v.step g3 g4 g6, ?_, step_ok h.ok ho.hA ho.hB ho.hC hsh.ok hcS, h.oq⟩, g2⟩
    rw [g4]
    have := h.c
    split
    · omega
    · rw [List.length_append]; omega
  · exact doesQ7 h (by omega) (by omega) hS
/-- The blocks that are a ledger's own. -/
def Fp (p a b : Nat) (Z : SZ) (x : Nat) : Prop := x = p ∨ x = a ∨ x = b ∨ Z.mv.ownBlock = some x ∨ Z.cv.ownBlock = some x
theorem LQ.lt {B p a b M : Nat} {V : World} {Z : SZ} {S : LS} {Q : List LS} (h : LQ B p a b M V Z S Q) {x : Nat} (hx : Fp p a b Z x) : B ≤ x ∧ x < V.heap.size := by
  obtain ⟨xs, hc, _⟩ := h.l.cr
  have lt := h.l.lg.lt
  have lo := h.l.lo
  rcases hx with rfl | rfl | rfl | e | e
  · exact ⟨lo.1, lt.1⟩
  · exact ⟨lo.2.1, lt.2.1⟩
  · exact ⟨lo.2.2, lt.2.2⟩
  · exact h.l.mr.lt x e
  · exact hc.lt x e
/-- Two ledgers, marks and all, that know nothing of one another. -/
structure Two (w : World) (p a b p' a' b' M N : Nat) (V : World) (S : LS) (Q : List LS) (S' : LS) (Q' : List LS) : Prop where
  bel : Below w.heap.size w V
  z : ∃ Z Z', LQ w.heap.size p a b M V Z S Q ∧ LQ w.heap.size p' a' b' N V Z' S' Q' ∧ ∀ x, Fp p a b Z x → ¬ Fp p' a' b' Z' x
section
variable {w : World} {p a b p' a' b' M N : Nat} {V V' : World} {S S' : LS} {Q Q' : List LS}
theorem Two.swap (h : Two w p a b p' a' b' M N V S Q S' Q') : Two w p' a' b' p a b N M V S' Q' S Q := by
  obtain ⟨Z, Z', h1, h2, h3⟩ := h.z
  exact ⟨h.bel, Z', Z, h2, h1, fun x hx hy => h3 x hy hx⟩
theorem Two.kept (h : Two w p a b p' a' b' M N V S Q S' Q') (hb : Below V.heap.size V V') : Two w p a b p' a' b' M N V' S Q S' Q' := by
  obtain ⟨Z, Z', h1, h2, h3⟩ := h.z
  exact ⟨h.bel.trans (hb.mono h.bel.size), Z, Z', h1.kept hb, h2.kept hb, h3⟩
/-- The first goes on. -/
theorem Two.go (hb : Below w.heap.size w V) {Z Z' Z1 : SZ} {T : LS} {R : List LS} (h1 : LQ w.heap.size p a b M V Z S Q) (h2 : LQ w.heap.size p' a' b' N V Z' S' Q') (h3 : ∀ x, Fp p a b Z x → ¬ Fp p' a' b' Z' x) (g1 : LQ w.heap.size p a b (M + 48) V' Z1 T R) (g2 : Tr V V' p a b Z Z1) : Two w p a b p' a' b' (M + 48) N V' T R S' Q' := by
  have far : ∀ x, Fp p' a' b' Z' x → V'.heap[x]? = V.heap[x]? := fun x hx => by
    have hn : ¬ Fp p a b Z x := fun hy => h3 x hy hx
    unfold Fp at hn
    exact g2.block x (h2.lt hx).2 (fun e => hn (.inl e)) (fun e => hn (.inr (.inl e))) (fun e => hn (.inr (.inr (.inl e)))) (fun e => hn (.inr (.inr (.inr (.inl e))))) (fun e => hn (.inr (.inr (.inr (.inr e)))))
  refine ⟨g2.below_of hb h1.l, Z1, Z', g1, ⟨h2.l.same far g2.fl, h2.v, h2.c, h2.ok, h2.oq⟩, fun x hx hy => ?_⟩
  have hlt := (h2.lt hy).2
  rcases hx with e | e | e | e | e
  · exact h3 x (.inl e) hy
  · exact h3 x (.inr (.inl e)) hy
  · exact h3 x (.inr (.inr (.inl e))) hy
  · rcases g2.mvn x e with e | e
    · exact h3 x (.inr (.inr (.inr (.inl e)))) hy
    · omega
  · rcases g2.cvn x e with e | e
    · exact h3 x (.inr (.inr (.inr (.inr e)))) hy
    · omega
/-- A step by the first. -/
theorem Two.doesL (h : Two w p a b p' a' b' M N V S Q S' Q') (hM : M ≤ 100000000000) {o : OpR} (ho : o.Ok w.heap.size w) {c : Int} {T : LS} {R : List LS} (hS : stepQ S Q o = (c, T, R)) :
    Calls Try.prog 6 #[.pointer (some ⟨p, 0, none⟩), .agg o.arr] V fun e V' => e = .returned (.int .i64 c) ∧ Hid (Two w p a b p' a' b' (M + 48) N V' T R S' Q' ∧ Fl V V') := by
  obtain ⟨Z, Z', h1, h2, h3⟩ := h.z
  refine (doesQ h1 hM (ho.below h.bel (Nat.le_refl _)) h.bel.size hS).mono ?_
  rintro e V' ⟨rfl, G⟩
  obtain ⟨Z1, g1, g2⟩ := G.out
  exact ⟨rfl, Two.go h.bel h1 h2 h3 g1 g2, g2.fl⟩
/-- A step by the second. -/
theorem Two.doesK (h : Two w p a b p' a' b' M N V S Q S' Q') (hN : N ≤ 100000000000) {o : OpR} (ho : o.Ok w.heap.size w) {c : Int} {T : LS} {R : List LS} (hS : stepQ S' Q' o = (c, T, R)) :
    Calls Try.prog 6 #[.pointer (some ⟨p', 0, none⟩), .agg o.arr] V fun e V' => e = .returned (.int .i64 c) ∧ Hid (Two w p a b p' a' b' M (N + 48) V' S Q T R ∧ Fl V V') := by
  refine (h.swap.doesL hN ho hS).mono ?_
  rintro e V' ⟨rfl, G⟩
  exact ⟨rfl, G.out.1.swap, G.out.2⟩
end
end Go.Proofs.Ytcfenjpdjogmdaa
namespace Go.Proofs.Ytcfenjpdjogmdaa
open Go.RowKit

/-- Steps that leave the first marks alone leave them. -/
theorem stepQ_pre {S T : LS} {P E R : List LS} {o : OpR} {c : Int} (hS : stepQ S (P ++ E) o = (c, T, R)) (hk : o.K = 8 ∨ o.K = 9 → (P.length : Int) < o.N) : ∃ E', R = P ++ E' := by
  unfold stepQ at hS
  have cut : ∀ m : Nat, P.length ≤ m → ∃ E', (P ++ E).take m = P ++ E' := fun m hm => ⟨E.take (m - P.length), by rw [List.take_append, List.take_of_length_le hm]⟩
  split at hS
  · cases hS; exact ⟨E, rfl⟩
  split at hS
  · split at hS
    · cases hS; exact ⟨E, rfl⟩
    · cases hS; exact ⟨E ++ [S], by rw [List.append_assoc]⟩
  split at hS
  · rename_i h8
    have := hk (.inl h8)
    split at hS
    · cases hS; exact ⟨E, rfl⟩
    · cases hS; exact cut _ (by omega)
  split at hS
  · rename_i h9
    have := hk (.inr h9)
    split at hS
    · cases hS; exact ⟨E, rfl⟩
    · cases hS; exact cut _ (by omega)
  · cases hS; exact ⟨E, rfl⟩
/-- Steps that are no taking back and no letting go keep the marks, or set one more. -/
theorem stepQ_up {S T : LS} {Q R : List LS} {o : OpR} {c : Int} (hS0 : stepQ S Q o = (c, T, R)) (h8 : o.K ≠ 8) (h9 : o.K ≠ 9) (h16 : Q.length ≤ 16) : (o.K = 7 ∧ c = 0 ∧ R = Q ++ [S] ∧ Q.length < 16) ∨ ((o.K ≠ 7 ∨ c ≠ 0) ∧ R = Q) := by
  have hS := hS0
  unfold stepQ at hS
  rw [if_neg h8, if_neg h9] at hS
  split at hS
  · rename_i h
    cases hS
    exact .inr ⟨.inl (by omega), rfl⟩
  split at hS
  · rename_i h7
    split at hS
    · cases hS; exact .inr ⟨.inr (by decide), rfl⟩
    · cases hS; exact .inl ⟨h7, rfl, rfl, by omega⟩
  rename_i h7
  cases hS
  exact .inr ⟨.inl h7, rfl⟩
section
variable {w : World} {p a b p' a' b' M N : Nat} {V : World} {S S' : LS} {Q Q' : List LS}
/-- A mark set by the first. -/
theorem Two.markL (h : Two w p a b p' a' b' M N V S Q S' Q') : Calls Try.prog 8 #[.pointer (some ⟨p, 0, none⟩)] V fun e V' => e = .returned (.tuple #[.int .i64 (if Q.length = 16 then 0 else (Q.length : Int) + 1), .int .i64 (if Q.length = 16 then 50 else 0)]) ∧ Hid (Two w p a b p' a' b' (M + 48) N V' S (if Q.length = 16 then Q else Q ++ [S]) S' Q' ∧ Fl V V') := by
  obtain ⟨Z, Z', h1, h2, h3⟩ := h.z
  refine (markQ h1).mono ?_
  rintro e V' ⟨n, c, rfl, rfl, G⟩
  obtain ⟨rfl, Z1, g1, g2⟩ := G.out
  exact ⟨rfl, Two.go h.bel h1 h2 h3 g1 g2, g2.fl⟩
/-- The first takes a mark back. -/
theorem Two.undoL (h : Two w p a b p' a' b' M N V S Q S' Q') (hM : M ≤ 1000000000000) {k : Nat} (h1k : 1 ≤ k) (hk : k ≤ Q.length) {T : LS} (hT : Q[k - 1]? = some T) : Calls Try.prog 10 #[.pointer (some ⟨p, 0, none⟩), .int .i64 (k : Nat)] V fun e V' => e = .returned (.int .i64 0) ∧ Hid (Two w p a b p' a' b' (M + 48) N V' T (Q.take (k - 1)) S' Q' ∧ Fl V V') := by
  obtain ⟨Z, Z', h1, h2, h3⟩ := h.z
  have hng : ¬ ((k : Int) < 1 ∨ (Q.length : Int) < (k : Int)) := by omega
  have hu := undoQ h1 hM (k : Int)
  rw [if_neg hng, if_neg hng, if_neg hng, Int.toNat_natCast, hT, Option.getD_some] at hu
  refine hu.mono ?_
  rintro e V' ⟨c, rfl, G⟩
  obtain ⟨rfl, Z1, g1, g2⟩ := G.out
  exact ⟨rfl, Two.go h.bel h1 h2 h3 g1 g2, g2.fl⟩
/-- The first's image. -/
theorem Two.imageL (h : Two w p a b p' a' b' M N V S Q S' Q') : Calls Try.prog 7 #[.pointer (some ⟨p, 0, none⟩)] V fun e V' => ∃ ao cap ho hcap jo jcap, e = .returned (imgV S ao cap ho hcap jo jcap) ∧ Hid (ImR V V' S.acc S.hol S.jl ao cap ho hcap jo jcap ∧ Two w p a b p' a' b' M N V' S Q S' Q' ∧ Below V.heap.size V V') := by
  obtain ⟨Z, Z', h1, h2, h3⟩ := h.z
  refine (imageG h1.l.lg h1.ok).mono ?_
  rintro e V' ⟨ao, cap, ho, hcap, jo, jcap, rfl, G⟩
  exact ⟨ao, cap, ho, hcap, jo, jcap, rfl, G.out.1, (Two.kept ⟨h.bel, Z, Z', h1, h2, h3⟩ G.out.2), G.out.2⟩
end
end Go.Proofs.Ytcfenjpdjogmdaa
namespace Go.Proofs.Ytcfenjpdjogmdaa
open Go.RowKit

def opcells : List OpR → List Value
  | [] => []
  | a :: r => a.arr.toList ++ opcells r
theorem opcells_app : ∀ (l r : List OpR), opcells (l ++ r) = opcells l ++ opcells r
  | [], r => rfl
  | a :: l, r => by show a.arr.toList ++ opcells (l ++ r) = (a.arr.toList ++ opcells l) ++ opcells r; rw [opcells_app l r, List.append_assoc]
theorem opcells_at : ∀ {l : List OpR} {i : Nat} {a : OpR}, l[i]? = some a → ∀ (j : Nat) (v : Value), a.arr[j]? = some v → (opcells l)[i * 6 + j]? = some v
  | [], i, a, h => by simp at h
  | x :: l, 0, a, h => by
    simp at h
    subst h
    intro j v hj
    have hj' : x.arr.toList[j]? = some v := by rw [Array.getElem?_toList]; exact hj
    have hl := (List.getElem?_eq_some_iff.1 hj').1
    show (x.arr.toList ++ opcells l)[0 * 6 + j]? = some v
    rw [Nat.zero_mul, Nat.zero_add, List.getElem?_append_left hl]
    exact hj'
  | x :: l, i + 1, a, h => by
    intro j v hj
    have ih := opcells_at (l := l) (i := i) (by simpa using h) j v hj
    show (x.arr.toList ++ opcells l)[(i + 1) * 6 + j]? = some v
    rw [List.getElem?_append_right (by show 6 ≤ _; omega)]
    show (opcells l)[(i + 1) * 6 + j - 6]? = some v
    rw [show (i + 1) * 6 + j - 6 = i * 6 + j by omega]
    exact ih
theorem infoOp : (Try.prog.info? 30).map (fun i => (i.zero, i.size, i.bytes)) = some (some (.agg #[.int .i64 0, .int .u64 0, .int .u64 0, .int .u64 0, .int .i64 0, .slice none 0 0]), 6, 64) := by kernel_rfl
/-- A list of steps that was handed back. -/
structure OpsR (w : World) (B : Nat) (V : World) (vo : Option Addr) (vc : Nat) (L : List OpR) : Prop where
  row : V.ownsRow B 30 6 (.slice vo L.length vc) L.length (opcells L)
  ok : ∀ o ∈ L, o.Ok w.heap.size w
theorem OpsR.at_ {w : World} {B : Nat} {V : World} {vo : Option Addr} {vc : Nat} {L : List OpR} (h : OpsR w B V vo vc L) {i : Nat} {o : OpR} (hi : L[i]? = some o) : ∃ g, vo = some ⟨g, 0, none⟩ ∧ g < V.heap.size ∧ L.length ≤ vc ∧ ∀ (j : Nat) (v : Value), o.arr[j]? = some v → V.cell? ⟨g, i * 6 + j, none⟩ = some v := by
  have hil := (List.getElem?_eq_some_iff.1 hi).1
  rcases h.row.2 with ⟨h1, h0⟩ | ⟨g, cp, cur, h1, _, hg, hle, _⟩
  · omega
  · obtain ⟨e, _, e3⟩ := slice_inj h1
    have := h.row.lt g (by rw [h1]; rfl)
    have hr := h.row
    rw [e] at hr
    refine ⟨g, e, this.2, by omega, fun j v hj => ?_⟩
    have c := hr.cells (g := g) rfl (i * 6 + j) _ (opcells_at hi j v hj)
    rw [add_at, Nat.zero_add] at c
    exact c
theorem OpsR.fl {w : World} {B : Nat} {V V' : World} {vo : Option Addr} {vc : Nat} {L : List OpR} (h : OpsR w B V vo vc L) (hf : Fl V V') : OpsR w B V' vo vc L := ⟨row_fl h.row hf (by decide) (by decide) (by decide), h.ok⟩
set_option maxRecDepth 10000 in
set_option maxHeartbeats 3200000 in
/-- inside: the steps that leave the first marks alone. -/
theorem insideC {w V : World} {b off : Nat} {ao : Option Addr} (n cap : Nat) (m : Int) (hO : Ops w.heap.size w b off n) (hbl : Below w.heap.size w V) (hle : n ≤ 1048576) (hao : 0 < n → ao = some ⟨b, off, none⟩) (hb : 0 < n → b < w.heap.size) :
    Calls Try.prog 9 #[.slice ao n cap, .int .i64 m] V fun e w' => ∃ (L : List OpR) (vo : Option Addr) (vc : Nat), e = .returned (.slice vo L.length vc) ∧ Hid (L.length ≤ n ∧ OpsR w V.heap.size w' vo vc L ∧ Below V.heap.size V w' ∧ ∀ o ∈ L, o.K = 8 ∨ o.K = 9 → m < o.N) := by
  obtain ⟨i0, hi, hz0, hz1, hz2⟩ := info_parts infoOp
  have HO := hide hO
  have HAO := hide hao
  have HB := hide hb
  have HBL := hide hbl
  clear hO hao hb hbl
  go_enter Try.func9, Try.ntmps9
  go_wp2
  go_loopw [5, 6] (fun lv i wr => ∃ k : Nat, k ≤ n ∧ i = .int .i64 k ∧ ∃ (L : List OpR) (vo : Option Addr) (vc : Nat), lv = .slice vo L.length vc ∧ Hid (L.length ≤ k ∧ OpsR w V.heap.size wr vo vc L ∧ Below V.heap.size V wr ∧ ∀ o ∈ L, o.K = 8 ∨ o.K = 9 → m < o.N)) (fun _ i _ => n - (intOf i).toNat)
  case atStart => exact ⟨0, by omega, rfl, [], none, 0, rfl, Nat.le_refl _, ⟨World.ownsRow_nil _ _ _ _, fun o ho => by cases ho⟩, Below.refl _ _, fun o ho => by cases ho⟩
  case round =>
    obtain ⟨k, hk, rfl, L, vo, vc, rfl, HL⟩ := hrel
    by_cases hlt : k < n
    · obtain ⟨o, ho0, hoo⟩ := HO.out k hlt
      have hbw : Below w.heap.size w wr := HBL.out.trans (HL.out.2.2.1.mono HBL.out.size)
      have ho : ∀ (j : Nat) (v : Value), o.arr[j]? = some v → wr.cell? ⟨b, off + k * 6 + j, none⟩ = some v := fun j v hj => (hbw.cell (p := ⟨b, _, none⟩) (HB.out (by omega))).trans (ho0 j v hj)
      obtain rfl := HAO.out (by omega)
      have c0 := ho 0 (.int .i64 o.K) (by simp [OpR.arr])
      have c1 := ho 1 (.int .u64 (o.A : Nat)) (by simp [OpR.arr])
      have c2 := ho 2 (.int .u64 (o.B : Nat)) (by simp [OpR.arr])
      have c3 := ho 3 (.int .u64 (o.C : Nat)) (by simp [OpR.arr])
      have c4 := ho 4 (.int .i64 o.N) (by simp [OpR.arr])
      have c5 := ho 5 (.slice o.so o.sn o.sc) (by simp [OpR.arr])
      rw [Nat.add_zero] at c0
      have cl : b < wr.heap.size := Nat.lt_of_lt_of_le (HB.out (by omega)) hbw.size
      obtain ⟨W3, hW3⟩ : ∃ W3, wr.alloc (.cells o.arr 30) = W3 := ⟨_, rfl⟩
      have b3 : Below wr.heap.size wr W3 := by rw [← hW3]; exact (Below.refl _ wr).alloc (Nat.le_refl _) _
      have hbx : W3.heap[wr.heap.size]? = some (opBox o) := by rw [← hW3]; exact alloc_atK _ _
      have HL3 : Hid (L.length ≤ k ∧ OpsR w V.heap.size W3 vo vc L ∧ Below V.heap.size V W3 ∧ ∀ o ∈ L, o.K = 8 ∨ o.K = 9 → m < o.N) := ⟨HL.out.1, HL.out.2.1.fl (Fl.below b3), HL.out.2.2.1.trans (b3.mono HL.out.2.2.1.size), HL.out.2.2.2⟩
      have HSZ : Hid (∀ o, V.heap.size ≤ (W3.alloc o).heap.size) := fun o => by have := HL3.out.2.2.1.size; simp; omega
      have HOW : Hid (∀ q, (W3.alloc q).ownsRow V.heap.size 30 6 (.slice vo L.length vc) L.length (opcells L)) := fun q => HL3.out.2.1.row.alloc q
      have HAP : Hid ((o.K = 8 ∨ o.K = 9 → m < o.N) → ∀ q (v' : Value) w4, w4.ownsRow V.heap.size 30 6 v' (L.length + 1) (opcells L ++ o.arr.toList) → (W3.alloc q).grownBy w4 (Value.slice vo L.length vc).ownBlock → ∃ vo' vc', v' = .slice vo' (L.length + 1) vc' ∧ Hid ((L ++ [o]).length ≤ k + 1 ∧ OpsR w V.heap.size w4 vo' vc' (L ++ [o]) ∧ Below V.heap.size V w4 ∧ ∀ o' ∈ L ++ [o], o'.K = 8 ∨ o'.K = 9 → m < o'.N)) := fun hin q v' w4 hr hg => by
        obtain ⟨vo', vc', rfl⟩ := own_form2 hr
        refine ⟨vo', vc', rfl, by rw [List.length_append]; show _ + 1 ≤ _; have := HL3.out.1; omega, ⟨?_, fun o' ho' => ?_⟩, ?_, fun o' ho' => ?_⟩
        · have e : opcells (L ++ [o]) = opcells L ++ o.arr.toList := by rw [opcells_app]; simp [opcells]
          rw [e, List.length_append]
          exact hr
        · rcases List.mem_append.1 ho' with h | h
          · exact HL3.out.2.1.ok o' h
          · have : o' = o := by simpa using h
            rw [this]; exact hoo
        · have hb3 := HL3.out.2.2.1
          exact (hb3.alloc (by exact hb3.size) q).grown hg (by have := hb3.size; simp; omega) (fun j e => (HL3.out.2.1.row.lt j e).1)
        · rcases List.mem_append.1 ho' with h | h
          · exact HL3.out.2.2.2 o' h
          · have : o' = o := by simpa using h
            rw [this]; exact hin
      have HW3 := hide hW3
      have HLEN : Hid (L.length ≤ 1048576) := hide (by have := HL.out.1; omega)
      have hlen := HLEN.out
      clear hW3 b3 ho ho0 hoo HL hbw
      unfold OpR.arr at HW3 HAP
      go_upto_region 6 with fail
      rw [HW3.out]
      clear HW3 c0 c1 c2 c3 c4 c5 cl
      generalize wr.heap.size = ob at *
      obtain ⟨x0, x1, x2, x3, x4, x5, xl⟩ := op_cells hbx
      clear hbx
      have HKIN : Hid (∀ KI NI : Int, o.K = KI → o.N = NI → ((KI = 8 ∨ KI = 9) ∧ NI ≤ m) ∨ (¬ ((KI = 8 ∨ KI = 9) ∧ NI ≤ m) ∧ (o.K = 8 ∨ o.K = 9 → m < o.N))) := fun KI NI h1 h2 => by
        subst h1 h2
        by_cases h : (o.K = 8 ∨ o.K = 9) ∧ o.N ≤ m
        · exact .inl h
        · exact .inr ⟨h, fun h8 => by
            rcases Int.lt_or_le m o.N with h9 | h9
            · exact h9
            · exact absurd ⟨h8, h9⟩ h⟩
      have HK := HKIN.out _ _ rfl rfl
      clear HKIN
      have HSK : Hid (L.length ≤ k + 1 ∧ OpsR w V.heap.size W3 vo vc L ∧ Below V.heap.size V W3 ∧ ∀ o ∈ L, o.K = 8 ∨ o.K = 9 → m < o.N) := ⟨by have := HL3.out.1; omega, HL3.out.2⟩
      clear HL3
      rcases HK with ⟨h8, hN⟩ | ⟨hno, hin⟩
      · have d1 : decide (o.N ≤ m) = true := decide_eq_true hN
        by_cases q8 : o.K = 8
        · have e8 : (o.K == 8) = true := by simp [q8]
          clear h8 q8 hN HAP HOW HSZ
          generalize o.K = KI at *
          go_wp2
          go_roundw
          case rel => exact ⟨k + 1, by omega, by go_num, L, vo, vc, rfl, HSK.out⟩
          case measure => simp [intOf]; omega
        · have e8 : (o.K == 8) = false := by simp [q8]
          have e9 : (o.K == 9) = true := by simp; omega
          clear h8 q8 hN HAP HOW HSZ
          generalize o.K = KI at *
          go_wp2
          go_roundw
          case rel => exact ⟨k + 1, by omega, by go_num, L, vo, vc, rfl, HSK.out⟩
          case measure => simp [intOf]; omega
      · have HA2 := hide (HAP.out hin)
        clear HAP HSK
        have key : ((o.K == 8) = true ∧ decide (o.N ≤ m) = false) ∨ ((o.K == 8) = false ∧ (o.K == 9) = true ∧ decide (o.N ≤ m) = false) ∨ ((o.K == 8) = false ∧ (o.K == 9) = false) := by
          by_cases q8 : o.K = 8
          · exact .inl ⟨by simp [q8], decide_eq_false (fun h => hno ⟨.inl q8, h⟩)⟩
          · by_cases q9 : o.K = 9
            · exact .inr (.inl ⟨by simp [q8], by simp [q9], decide_eq_false (fun h => hno ⟨.inr q9, h⟩)⟩)
            · exact .inr (.inr ⟨by simp [q8], by simp [q9]⟩)
        clear hno hin
        have HRES : Hid (∀ q (v' : Value) w4, w4.ownsRow V.heap.size 30 6 v' (L.length + 1) (opcells L ++ [.int .i64 o.K, .int .u64 (o.A : Nat), .int .u64 (o.B : Nat), .int .u64 (o.C : Nat), .int .i64 o.N, .slice o.so o.sn o.sc]) → (W3.alloc q).grownBy w4 (Value.slice vo L.length vc).ownBlock → ∃ vo' vc', v' = .slice vo' (L.length + 1) vc' ∧ Hid (∃ L' : List OpR, L'.length = L.length + 1 ∧ L'.length ≤ k + 1 ∧ OpsR w V.heap.size w4 vo' vc' L' ∧ Below V.heap.size V w4 ∧ ∀ o' ∈ L', o'.K = 8 ∨ o'.K = 9 → m < o'.N)) := fun q v' w4 hr hg => by
          obtain ⟨vo', vc', e1, e2⟩ := HA2.out q v' w4 hr hg
          exact ⟨vo', vc', e1, L ++ [o], by rw [List.length_append]; rfl, e2.out⟩
        clear HA2
        generalize (o.A : Int) = XA at *
        generalize (o.B : Int) = XB at *
        generalize (o.C : Int) = XC at *
        generalize o.K = KI at *
        generalize o.N = NI at *
        rcases key with ⟨e8, d1⟩ | ⟨e8, e9, d1⟩ | ⟨e8, e9⟩
        all_goals go_upto_region 7 with fail
        all_goals go_wp2_with (at_builtin; refine wpList_append_own _ rfl (.tmp 32) (.tmp 34) 23 rfl V.heap.size 30 i0 (.agg #[.int .i64 0, .int .u64 0, .int .u64 0, .int .u64 0, .int .i64 0, .slice none 0 0]) 6 64 Try.underlying23 hi hz0 hz1 hz2 rfl (by decide) (.slice vo L.length vc) L.length (opcells L) rfl (HOW.out _) ⟨W3.heap.size, 0, none⟩ 1 1 [.int .i64 KI, .int .u64 XA, .int .u64 XB, .int .u64 XC, .int .i64 NI, .slice o.so o.sn o.sc] rfl rfl (cells_newA _ _ _) (by simp [Value.oneCell']) (by unfold maxLen; omega) (by omega) (HSZ.out _) ?_; intro v' w4 ho hg _; obtain ⟨vo', vc', rfl, HR⟩ := HRES.out _ _ _ ho hg; clear ho hg)
        all_goals go_roundw
        all_goals first
          | (case rel =>
              obtain ⟨L', e1, e2⟩ := HR.out
              exact ⟨k + 1, by omega, by go_num, L', vo', vc', by rw [e1], e2⟩)
          | (case measure => simp [intOf]; omega)
          | skip
    · obtain rfl : k = n := by omega
      go_wp2
      go_ret
      exact ⟨L, vo, vc, rfl, HL.out⟩
end Go.Proofs.Ytcfenjpdjogmdaa
namespace Go.Proofs.Ytcfenjpdjogmdaa
open Go.RowKit

/-- An image as it lies, in lists of its own. -/
structure ImX (V : World) (S : LS) (ao : Option Addr) (cap : Nat) (ho : Option Addr) (hcap : Nat) (jo : Option Addr) (jcap : Nat) : Prop where
  ra : ∃ B, V.ownsRow B 80 4 (.slice ao S.acc.length cap) S.acc.length (acells S.acc)
  rh : ∃ B, V.ownsRow B 83 3 (.slice ho S.hol.length hcap) S.hol.length (hcells S.hol)
  rj : ∃ B, V.ownsRow B 68 5 (.slice jo S.jl.length jcap) S.jl.length (jcells S.jl)
section
variable {V V' : World} {S : LS} {ao ho jo : Option Addr} {cap hcap jcap : Nat}
theorem ImX.fl (h : ImX V S ao cap ho hcap jo jcap) (hf : Fl V V') : ImX V' S ao cap ho hcap jo jcap := by
  obtain ⟨_, ra⟩ := h.ra
  obtain ⟨_, rh⟩ := h.rh
  obtain ⟨_, rj⟩ := h.rj
  exact ⟨⟨_, row_fl ra hf (by decide) (by decide) (by decide)⟩, ⟨_, row_fl rh hf (by decide) (by decide) (by decide)⟩, ⟨_, row_fl rj hf (by decide) (by decide) (by decide)⟩⟩
theorem ImX.of (h : ImR V V' S.acc S.hol S.jl ao cap ho hcap jo jcap) : ImX V' S ao cap ho hcap jo jcap := ⟨⟨_, h.ra⟩, ⟨_, h.rh⟩, ⟨_, h.rj⟩⟩
theorem WasR.imx {q : Nat} (h : WasR V q S ao cap ho hcap jo jcap) : ImX V S ao cap ho hcap jo jcap := ⟨h.ra, h.rh, h.rj⟩
theorem ImX.imj (h : ImX V S ao cap ho hcap jo jcap) (hok : S.Ok) : ∃ ga gh gj, ImJ V S.acc S.hol S.jl ao ho jo ga gh gj := by
  obtain ⟨_, ra⟩ := h.ra
  obtain ⟨_, rh⟩ := h.rh
  obtain ⟨_, rj⟩ := h.rj
  obtain ⟨ga, gh, h1, _, _⟩ := im_of_rows ra rh hok.ia hok.ih
  obtain ⟨gj, h2, _, h3⟩ := jn_of_row rj (LS.jl_in hok)
  exact ⟨ga, gh, gj, h1, h2, h3⟩
theorem ImX.same_ {ao' ho' jo' : Option Addr} {cap' hcap' jcap' : Nat} (h : ImX V S ao cap ho hcap jo jcap) (h' : ImX V S ao' cap' ho' hcap' jo' jcap') (hok : S.Ok) : Calls Try.prog 11 #[imgV S ao cap ho hcap jo jcap, imgV S ao' cap' ho' hcap' jo' jcap'] V fun e w' => e = .returned (.bool true) ∧ Hid (Below V.heap.size V w') := by
  obtain ⟨ga, gh, gj, hi⟩ := h.imj hok
  obtain ⟨ga', gh', gj', hi'⟩ := h'.imj hok
  exact sameImageI hi hi' hok.la hok.lh (by rw [S.jl_len]; omega) _ _ _ _ _ _ _ _
end
/-- A step of a script as it lies at place x. -/
def scrC (V : World) (b x : Nat) (o : OpR) : Prop := V.cell? ⟨b, x, none⟩ = some (.int .i64 o.K) ∧ V.cell? ⟨b, x + 1, none⟩ = some (.int .u64 (o.A : Nat)) ∧ V.cell? ⟨b, x + 2, none⟩ = some (.int .u64 (o.B : Nat)) ∧ V.cell? ⟨b, x + 3, none⟩ = some (.int .u64 (o.C : Nat)) ∧ V.cell? ⟨b, x + 4, none⟩ = some (.int .i64 o.N) ∧ V.cell? ⟨b, x + 5, none⟩ = some (.slice o.so o.sn o.sc) ∧ b < V.heap.size
theorem scr_of {V : World} {b x : Nat} {o : OpR} (h : ∀ (j : Nat) (v : Value), o.arr[j]? = some v → V.cell? ⟨b, x + j, none⟩ = some v) (hb : b < V.heap.size) : scrC V b x o :=
  ⟨h 0 (.int .i64 o.K) (by simp [OpR.arr]), h 1 (.int .u64 (o.A : Nat)) (by simp [OpR.arr]), h 2 (.int .u64 (o.B : Nat)) (by simp [OpR.arr]), h 3 (.int .u64 (o.C : Nat)) (by simp [OpR.arr]), h 4 (.int .i64 o.N) (by simp [OpR.arr]), h 5 (.slice o.so o.sn o.sc) (by simp [OpR.arr]), hb⟩
/-- A script that came in. -/
structure Scr (w : World) (b off : Nat) (ao : Option Addr) (n : Nat) : Prop where
  ops : Ops w.heap.size w b off n
  le : n ≤ 1048576
  ao : 0 < n → ao = some ⟨b, off, none⟩
  lt : 0 < n → b < w.heap.size
theorem Scr.at_ {w : World} {b off : Nat} {ao : Option Addr} {n : Nat} (h : Scr w b off ao n) {k : Nat} (hk : k < n) : ∃ o : OpR, o.Ok w.heap.size w ∧ ao = some ⟨b, off, none⟩ ∧ ∀ V, Below w.heap.size w V → scrC V b (off + k * 6) o := by
  obtain ⟨o, ho, hok⟩ := h.ops k hk
  exact ⟨o, hok, h.ao (by omega), fun V hV => scr_of (fun j v hj => (hV.cell (p := ⟨b, _, none⟩) (h.lt (by omega))).trans (ho j v hj)) (Nat.lt_of_lt_of_le (h.lt (by omega)) hV.size)⟩
section
variable {w : World} {p a b p' a' b' M N : Nat} {V V' : World} {S S' : LS} {Q Q' : List LS}
theorem Two.le {M' N' : Nat} (h : Two w p a b p' a' b' M N V S Q S' Q') (h1 : M ≤ M') (h2 : N ≤ N') : Two w p a b p' a' b' M' N' V S Q S' Q' := by
  obtain ⟨Z, Z', g1, g2, g3⟩ := h.z
  exact ⟨h.bel, Z, Z', ⟨g1.l, g1.v, Nat.le_trans g1.c h1, g1.ok, g1.oq⟩, ⟨g2.l, g2.v, Nat.le_trans g2.c h2, g2.ok, g2.oq⟩, g3⟩
theorem Two.ok (h : Two w p a b p' a' b' M N V S Q S' Q') : S.Ok ∧ S'.Ok ∧ Q.length ≤ 16 := by
  obtain ⟨Z, Z', g1, g2, g3⟩ := h.z
  exact ⟨g1.ok, g2.ok, by have := g1.v.len; have := g1.v.m16; omega⟩
/-- The second's image. -/
theorem Two.imageK (h : Two w p a b p' a' b' M N V S Q S' Q') : Calls Try.prog 7 #[.pointer (some ⟨p', 0, none⟩)] V fun e V' => ∃ ao cap ho hcap jo jcap, e = .returned (imgV S' ao cap ho hcap jo jcap) ∧ Hid (ImR V V' S'.acc S'.hol S'.jl ao cap ho hcap jo jcap ∧ Two w p a b p' a' b' M N V' S Q S' Q' ∧ Below V.heap.size V V') := by
  refine h.swap.imageL.mono ?_
  rintro e V' ⟨ao, cap, ho, hcap, jo, jcap, rfl, G⟩
  exact ⟨ao, cap, ho, hcap, jo, jcap, rfl, G.out.1, G.out.2.1.swap, G.out.2.2⟩
end
/-- Two ledgers, one as the other. -/
def Tv (w : World) (p a b p' a' b' M : Nat) (S : LS) (Q : List LS) (V : World) : Prop := Two w p a b p' a' b' M M V S Q S Q
section
variable {w : World} {p a b p' a' b' M : Nat} {V V' : World} {S T : LS} {Q R : List LS}
/-- The same step by both, the first one first. -/
theorem Tv.LK {o : OpR} (hM : M ≤ 1000000000) (ho : o.Ok w.heap.size w) {c : Int} (hS : stepQ S Q o = (c, T, R)) {X : World → Prop} (hX : ∀ V, Below w.heap.size w V → X V) :
    (∀ V, Hid (Tv w p a b p' a' b' M S Q V) → Calls Try.prog 6 #[.pointer (some ⟨p, 0, none⟩), .agg o.arr] V fun e V1 => e = .returned (.int .i64 c) ∧ X V1 ∧ Hid (Two w p a b p' a' b' (M + 48) M V1 T R S Q)) ∧ (∀ V, Hid (Two w p a b p' a' b' (M + 48) M V T R S Q) → Calls Try.prog 6 #[.pointer (some ⟨p', 0, none⟩), .agg o.arr] V fun e V1 => e = .returned (.int .i64 c) ∧ X V1 ∧ Hid (Tv w p a b p' a' b' (M + 48) T R V1)) := by
  refine ⟨fun V hV => (Two.doesL hV (by omega) ho hS).mono ?_, fun V hV => (Two.doesK hV (by omega) ho hS).mono ?_⟩
  · rintro e V1 ⟨rfl, G⟩
    exact ⟨rfl, hX _ G.out.1.bel, G.out.1⟩
  · rintro e V1 ⟨rfl, G⟩
    exact ⟨rfl, hX _ G.out.1.bel, G.out.1⟩
/-- The same step by both, the second one first. -/
theorem Tv.KL {o : OpR} (hM : M ≤ 1000000000) (ho : o.Ok w.heap.size w) {c : Int} (hS : stepQ S Q o = (c, T, R)) {X : World → Prop} (hX : ∀ V, Below w.heap.size w V → X V) :
    (∀ V, Hid (Tv w p a b p' a' b' M S Q V) → Calls Try.prog 6 #[.pointer (some ⟨p', 0, none⟩), .agg o.arr] V fun e V1 => e = .returned (.int .i64 c) ∧ X V1 ∧ Hid (Two w p a b p' a' b' M (M + 48) V1 S Q T R)) ∧ (∀ V, Hid (Two w p a b p' a' b' M (M + 48) V S Q T R) → Calls Try.prog 6 #[.pointer (some ⟨p, 0, none⟩), .agg o.arr] V fun e V1 => e = .returned (.int .i64 c) ∧ X V1 ∧ Hid (Tv w p a b p' a' b' (M + 48) T R V1)) := by
  refine ⟨fun V hV => (Two.doesK hV (by omega) ho hS).mono ?_, fun V hV => (Two.doesL hV (by omega) ho hS).mono ?_⟩
  · rintro e V1 ⟨rfl, G⟩
    exact ⟨rfl, hX _ G.out.1.bel, G.out.1⟩
  · rintro e V1 ⟨rfl, G⟩
    exact ⟨rfl, hX _ G.out.1.bel, G.out.1⟩
/-- Both images, in either order. -/
theorem Tv.imgs {X : World → Prop} (hX : ∀ V, Below w.heap.size w V → X V) :
    (∀ V, Hid (Tv w p a b p' a' b' M S Q V) → Calls Try.prog 7 #[.pointer (some ⟨p, 0, none⟩)] V fun e V1 => ∃ ao cap ho hcap jo jcap, e = .returned (imgV S ao cap ho hcap jo jcap) ∧ X V1 ∧ Hid (Tv w p a b p' a' b' M S Q V1 ∧ ImX V1 S ao cap ho hcap jo jcap)) ∧
    (∀ V, Hid (Tv w p a b p' a' b' M S Q V) → Calls Try.prog 7 #[.pointer (some ⟨p', 0, none⟩)] V fun e V1 => ∃ ao cap ho hcap jo jcap, e = .returned (imgV S ao cap ho hcap jo jcap) ∧ X V1 ∧ Hid (Tv w p a b p' a' b' M S Q V1 ∧ ImX V1 S ao cap ho hcap jo jcap)) ∧
    (∀ V x1 x2 x3 x4 x5 x6, Hid (Tv w p a b p' a' b' M S Q V ∧ ImX V S x1 x2 x3 x4 x5 x6) → Calls Try.prog 7 #[.pointer (some ⟨p, 0, none⟩)] V fun e V1 => ∃ ao cap ho hcap jo jcap, e = .returned (imgV S ao cap ho hcap jo jcap) ∧ X V1 ∧ Hid (Tv w p a b p' a' b' M S Q V1 ∧ ImX V1 S ao cap ho hcap jo jcap ∧ ImX V1 S x1 x2 x3 x4 x5 x6)) ∧
    (∀ V x1 x2 x3 x4 x5 x6, Hid (Tv w p a b p' a' b' M S Q V ∧ ImX V S x1 x2 x3 x4 x5 x6) → Calls Try.prog 7 #[.pointer (some ⟨p', 0, none⟩)] V fun e V1 => ∃ ao cap ho hcap jo jcap, e = .returned (imgV S ao cap ho hcap jo jcap) ∧ X V1 ∧ Hid (Tv w p a b p' a' b' M S Q V1 ∧ ImX V1 S x1 x2 x3 x4 x5 x6 ∧ ImX V1 S ao cap ho hcap jo jcap)) ∧
    (∀ V x1 x2 x3 x4 x5 x6 y1 y2 y3 y4 y5 y6, Hid (Tv w p a b p' a' b' M S Q V ∧ ImX V S x1 x2 x3 x4 x5 x6 ∧ ImX V S y1 y2 y3 y4 y5 y6) → Calls Try.prog 11 #[imgV S x1 x2 x3 x4 x5 x6, imgV S y1 y2 y3 y4 y5 y6] V fun e V1 => e = .returned (.bool true) ∧ X V1 ∧ Hid (Tv w p a b p' a' b' M S Q V1)) := by
  refine ⟨fun V hV => (Two.imageL hV).mono ?_, fun V hV => (Two.imageK hV).mono ?_, fun V x1 x2 x3 x4 x5 x6 hV => (Two.imageL hV.out.1).mono ?_, fun V x1 x2 x3 x4 x5 x6 hV => (Two.imageK hV.out.1).mono ?_, fun V x1 x2 x3 x4 x5 x6 y1 y2 y3 y4 y5 y6 hV => (hV.out.2.1.same_ hV.out.2.2 (Two.ok hV.out.1).1).mono ?_⟩
  · rintro e V1 ⟨ao, cap, ho, hcap, jo, jcap, rfl, G⟩
    exact ⟨ao, cap, ho, hcap, jo, jcap, rfl, hX _ G.out.2.1.bel, G.out.2.1, ImX.of G.out.1⟩
  · rintro e V1 ⟨ao, cap, ho, hcap, jo, jcap, rfl, G⟩
    exact ⟨ao, cap, ho, hcap, jo, jcap, rfl, hX _ G.out.2.1.bel, G.out.2.1, ImX.of G.out.1⟩
  · rintro e V1 ⟨ao, cap, ho, hcap, jo, jcap, rfl, G⟩
    exact ⟨ao, cap, ho, hcap, jo, jcap, rfl, hX _ G.out.2.1.bel, G.out.2.1, ImX.of G.out.1, hV.out.2.fl (Fl.below G.out.2.2)⟩
  · rintro e V1 ⟨ao, cap, ho, hcap, jo, jcap, rfl, G⟩
    exact ⟨ao, cap, ho, hcap, jo, jcap, rfl, hX _ G.out.2.1.bel, G.out.2.1, hV.out.2.fl (Fl.below G.out.2.2), ImX.of G.out.1⟩
  · rintro e V1 ⟨rfl, G⟩
    have h1 := Two.kept hV.out.1 G.out
    exact ⟨rfl, hX _ h1.bel, h1⟩
end
end Go.Proofs.Ytcfenjpdjogmdaa
