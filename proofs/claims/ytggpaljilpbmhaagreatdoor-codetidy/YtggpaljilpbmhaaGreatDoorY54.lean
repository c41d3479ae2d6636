import Derived.Test.YtggpaljilpbmhaaGreatDoorY53
import Derived.Test.YtggpaljilpbmhaaGreatDoorY16
import Derived.Test.YtggpaljilpbmhaaGreatDoorY17
import Derived.Deep.DeepAppendRoom
import Derived.Deep.DeepAppendWide
namespace Go.Proofs.YtggpaljilpbmhaaGreatDoor
open Go.RowKit

theorem own_cutL {w : World} {B m cap sz : Nat} {t : TypeId} {ao : Option Addr} {h : Nat} {xs : List Value} (ho : w.ownsRow B t sz (.slice ao h cap) h xs) (hm : m ≤ h) : w.ownsRow B t sz (.slice ao m cap) m (xs.take (m * sz)) := by
 have hl : m * sz ≤ h * sz := Nat.mul_le_mul_right _ hm
 refine ⟨by rw [List.length_take, ho.1]; omega, ?_⟩
 rcases ho.2 with ⟨e, h0⟩ | ⟨g, cp, cur, e, hb, hc, hnc, hx, hsz, htk⟩
 ·cases e
  obtain rfl : m = 0 := by omega
  exact .inl ⟨rfl, rfl⟩
 ·cases e
  refine .inr ⟨g, cap, cur, rfl, hb, hc, by omega, hx, hsz, ?_⟩
  rw [← htk, List.take_take, Nat.min_eq_left hl]
section
variable {P : Program} {ops : Array Oper} {rest : List Oper} {o : Oper} {a : Act} {Q : Exit → Act → World → Prop}
/-- Appended to a list of its own: what the old list shows stays. -/
theorem wpList_append_keepL (w : World) (hgd : o.guard = none) (s x : Operand) (t : TypeId)
  (ho : o.op = .call { callee := .builtin .append, args := #[s, x], argTypes := #[t, t] })
  (base : Nat) (e : TypeId) (i : TypeInfo) (z : Value) (size bytes : Nat) (ht : P.underlying t = some (.slice e)) (hi : P.info? e = some i) (hz : i.zero = some z)
  (hsize : i.size = size) (hby : i.bytes = bytes) (hzs : z.cells.size = size) (hsz : 0 < size)
  (v : Value) (n : Nat) (xs : List Value) (hs : a.eval s = v) (hown : w.ownsRow base e size v n xs)
  (ad : Addr) (m c : Nat) (news : List Value) (hx : a.eval x = .slice (some ad) m c) (hl : news.length = m * size) (hnews : ∀ j u, news[j]? = some u → w.cell? (ad.add j) = some u) (h1 : ∀ u ∈ news, u.oneCell' = true)
  (hm : 0 < m) (h63 : n + m ≤ maxLen) (hbytes : (n + m) * bytes ≤ 140737488355328) (hbase : base ≤ w.heap.size)
  (h : ∀ v' w', w'.ownsRow base e size v' (n + m) (xs ++ news) → w.grownBy w' v.ownBlock → w'.ownsRow base e size v n xs → (∀ g, v'.ownBlock = some g → v.ownBlock = some g ∨ w.heap.size ≤ g) → wpList P ops Q rest (a.put o.dst v') w') : wpList P ops Q (o :: rest) a w := by
 rcases hown.2 with ⟨rfl, rfl⟩ | ⟨g, cap, cur, rfl, hbg, hg, hnc, hcm, hcs, htake⟩
 ·have hxs : xs = [] := List.eq_nil_of_length_eq_zero (by have := hown.1; omega)
  subst hxs
  refine wpList_append_grows w hgd s x t ho e i z size bytes ht hi hz hsize hby hzs hsz none 0 0 [] hs (fun _ => ⟨rfl, rfl⟩) (by simp) (fun b hb => by cases hb) ad m c news hx hl hnews h1 (by omega) h63 hbytes ?_
  intro v' w' hown' hgrow
  refine h v' w' ?_ ⟨hgrow.os, hgrow.tape, hgrow.output, hgrow.size, hgrow.block⟩ (World.ownsRow_nil _ _ _ _) (fun g hg => .inr (hown'.lt g hg).1)
  exact own_low hown' hbase
 ·by_cases hroom : n + m ≤ cap
  ·refine wpList_append_own_spare w hgd s x t ho base e i size ht hi hsize g n cap xs hs hown ad m c news hx hl hnews h1 hroom ?_
   intro w' hown' hgrow
   refine h _ w' hown' hgrow ?_ (fun g' hg' => .inl hg')
   have q := own_cutL hown' (m := n) (by omega)
   have e1 : (xs ++ news).take (n * size) = xs := by
    rw [← hown.1]
    simp
   rw [e1] at q
   exact q
  ·have holds : ∀ b, some (⟨g, 0, none⟩ : Addr) = some b → ∀ j u, xs[j]? = some u → w.cell? (b.add j) = some u := by
    intro b hb j u hj
    cases hb
    exact hown.cells rfl j u hj
   refine wpList_append_grows w hgd s x t ho e i z size bytes ht hi hz hsize hby hzs hsz (some ⟨g, 0, none⟩) n cap xs hs (fun h => by cases h) hown.1 holds ad m c news hx hl hnews h1 (by omega) h63 hbytes ?_
   intro v' w' hown' hgrow
   have hb : Below w.heap.size w w' := ⟨hgrow.os, hgrow.tape, hgrow.output, hgrow.size, fun k hk => hgrow.block k hk (by simp)⟩
   exact h v' w' (own_low hown' hbase) ⟨hgrow.os, hgrow.tape, hgrow.output, hgrow.size, fun k hk _ => hgrow.block k hk (by simp)⟩ (own_keep hown hb) (fun g hg => .inr (hown'.lt g hg).1)
end

theorem Tryz.infoTN : (Tryz.prog.info? 121).map (fun i => (i.zero, i.size, i.bytes)) = some (some (.agg #[.int .i64 0, .int .u64 0, .string ⟨#[]⟩]), 3, 32) := by kernel_rfl
theorem Tryz.infoUF : (Tryz.prog.info? 257).map (fun i => (i.zero, i.size, i.bytes)) = some (some (.agg #[.int .i64 0, .int .u64 0]), 2, 16) := by kernel_rfl
section
variable {w w' w1 w2 : World} {B B' n sz n' sz' : Nat} {t t' : TypeId} {v v' : Value} {xs xs' : List Value}
theorem own_offR (h : w.ownsRow B t sz v n xs) (hq : w.ownsRow B' t' sz' v' n' xs') (ht : t' ≠ t) (hg : w.grownBy w' v'.ownBlock) : w'.ownsRow B t sz v n xs := by
 cases e : v'.ownBlock with
 | none => rw [e] at hg; exact World.ownsRow.kept h hg (by cases e3 : v.ownBlock with | none => exact .inl rfl | some q => exact .inr (by simp))
 | some q =>
  obtain ⟨_, cs, hc⟩ := own_typ2 hq e
  rw [e] at hg
  exact own_offT h hc ht hg
theorem blk_offR {b : Nat} {cs : Array Value} {z : Nat × Nat} (hb : w.heap[b]? = some (.cells cs t z)) (hq : w.ownsRow B' t' sz' v' n' xs') (ht : t' ≠ t) (hg : w.grownBy w' v'.ownBlock) : w'.heap[b]? = some (.cells cs t z) := by
 refine (hg.block b (Array.getElem?_eq_some_iff.1 hb).1 (fun e => ?_)).trans hb
 obtain ⟨_, cs', hc⟩ := own_typ2 hq e.symm
 rw [hc] at hb
 cases hb
 exact ht rfl
end
section
variable {B gb : Nat} {v : Gv} {L : List (Int × Int)} {E A : List Int} {O : List (Int × Int)} {w w1 w2 : World}
theorem ndc_snoc (L : List (Int × Int)) (x : Int × Int) : ndc (L ++ [x]) = ndc L ++ [.int .i64 x.1, .int .u64 x.2, .string ⟨#[]⟩] := by simp [ndc]
theorem opc_snoc (L : List (Int × Int)) (x : Int × Int) : opc (L ++ [x]) = opc L ++ [.int .i64 x.1, .int .u64 x.2] := by simp [opc]
theorem itc_snoc (L : List Int) (x : Int) : itc (L ++ [x]) = itc L ++ [.int .i64 x] := by simp [itc]
theorem Gr.appN (h : Gr B gb v L E A O w) (hlt : gb < B) {x : Int × Int} {a : Option Addr} {c : Nat} (hb : Below w.heap.size w w1) (ho : w2.ownsRow B 121 3 (.slice a (L.length + 1) c) (L.length + 1) (ndc L ++ [.int .i64 x.1, .int .u64 x.2, .string ⟨#[]⟩])) (hg : w1.grownBy w2 (Value.slice v.aN L.length v.cN).ownBlock) :
  Gr B gb { v with aN := a, cN := c } (L ++ [x]) E A O (w2.setCell ⟨gb, 0, none⟩ (.slice a (L.length + 1) c)) ∧ w2.heap[gb]? = some (.cells #[.slice v.aN L.length v.cN, .slice v.aE E.length v.cE, .slice v.aA A.length v.cA, .slice v.aO O.length v.cO] 222 (0, 0)) ∧ Below gb w w2 := by
 have h1 := h.next hb
 have b2 := blk_offR h1.blk h1.n (by decide) hg
 have hle : gb ≤ w.heap.size := Nat.le_of_lt (block_lt h.blk)
 have bel : Below gb w w2 := (hb.mono hle).grown hg (Nat.le_trans hle hb.size) (fun q e => by have := (h1.n.lt q e).1; omega)
 have gs := grown_setT w2 gb 0 (.slice a (L.length + 1) c)
 have bs := heap_setCell_same w2 gb 0 _ _ (.slice a (L.length + 1) c) b2
 refine ⟨⟨?_, ?_, ?_, ?_, ?_, h.ap⟩, b2, bel⟩
 ·rw [bs]; simp
 ·have q := own_offT ho b2 (by decide) gs
  rw [← ndc_snoc] at q
  simpa using q
 ·exact own_offT (own_offR h1.e h1.n (by decide) hg) b2 (by decide) gs
 ·exact own_offT (own_offR h1.a h1.n (by decide) hg) b2 (by decide) gs
 ·exact own_offT (own_offR h1.o h1.n (by decide) hg) b2 (by decide) gs
theorem Gr.appO (h : Gr B gb v L E A O w) (hlt : gb < B) {x : Int × Int} {a : Option Addr} {c : Nat} (hb : Below w.heap.size w w1) (ho : w2.ownsRow B 257 2 (.slice a (O.length + 1) c) (O.length + 1) (opc O ++ [.int .i64 x.1, .int .u64 x.2])) (hg : w1.grownBy w2 (Value.slice v.aO O.length v.cO).ownBlock) :
  Gr B gb { v with aO := a, cO := c } L E A (O ++ [x]) (w2.setCell ⟨gb, 3, none⟩ (.slice a (O.length + 1) c)) ∧ w2.heap[gb]? = some (.cells #[.slice v.aN L.length v.cN, .slice v.aE E.length v.cE, .slice v.aA A.length v.cA, .slice v.aO O.length v.cO] 222 (0, 0)) ∧ Below gb w w2 := by
 have h1 := h.next hb
 have b2 := blk_offR h1.blk h1.o (by decide) hg
 have hle : gb ≤ w.heap.size := Nat.le_of_lt (block_lt h.blk)
 have bel : Below gb w w2 := (hb.mono hle).grown hg (Nat.le_trans hle hb.size) (fun q e => by have := (h1.o.lt q e).1; omega)
 have gs := grown_setT w2 gb 3 (.slice a (O.length + 1) c)
 have bs := heap_setCell_same w2 gb 3 _ _ (.slice a (O.length + 1) c) b2
 refine ⟨⟨?_, ?_, ?_, ?_, ?_, h.ap⟩, b2, bel⟩
 ·rw [bs]; simp
 ·exact own_offT (own_offR h1.n h1.o (by decide) hg) b2 (by decide) gs
 ·exact own_offT (own_offR h1.e h1.o (by decide) hg) b2 (by decide) gs
 ·exact own_offT (own_offR h1.a h1.o (by decide) hg) b2 (by decide) gs
 ·have q := own_offT ho b2 (by decide) gs
  rw [← opc_snoc] at q
  simpa using q
theorem own_blk {a : Option Addr} {n c q : Nat} (e : (Value.slice a n c).ownBlock = some q) : ∃ x, a = some x ∧ x.block = q := by
 cases a with
 | none => simp [Value.ownBlock] at e
 | some x => simp [Value.ownBlock] at e; exact ⟨x, rfl, e⟩
theorem own_offI {B' n sz n' c c' : Nat} {t : TypeId} {a a' : Option Addr} {xs : List Value} (h : w1.ownsRow B' t sz (.slice a n c) n xs) (hne : ∀ x y, a = some x → a' = some y → x.block ≠ y.block) (hg : w1.grownBy w2 (Value.slice a' n' c').ownBlock) : w2.ownsRow B' t sz (.slice a n c) n xs := by
 refine World.ownsRow.kept h hg ?_
 cases a with
 | none => exact .inl rfl
 | some x =>
  refine .inr (fun e => ?_)
  obtain ⟨y, hy, hq⟩ := own_blk e.symm
  exact hne x y rfl hy hq.symm
theorem Gr.appA (h : Gr B gb v L E A O w) (hlt : gb < B) {x : Int} {a : Option Addr} {c : Nat} (hb : Below w.heap.size w w1) (ho : w2.ownsRow B 3 1 (.slice a (A.length + 1) c) (A.length + 1) (itc A ++ [.int .i64 x])) (hg : w1.grownBy w2 (Value.slice v.aA A.length v.cA).ownBlock) (hq : ∀ q, (Value.slice a (A.length + 1) c).ownBlock = some q → (Value.slice v.aA A.length v.cA).ownBlock = some q ∨ w1.heap.size ≤ q) :
  Gr B gb { v with aA := a, cA := c } L E (A ++ [x]) O (w2.setCell ⟨gb, 2, none⟩ (.slice a (A.length + 1) c)) ∧ w2.heap[gb]? = some (.cells #[.slice v.aN L.length v.cN, .slice v.aE E.length v.cE, .slice v.aA A.length v.cA, .slice v.aO O.length v.cO] 222 (0, 0)) ∧ Below gb w w2 := by
 have h1 := h.next hb
 have b2 := blk_offR h1.blk h1.a (by decide) hg
 have hle : gb ≤ w.heap.size := Nat.le_of_lt (block_lt h.blk)
 have bel : Below gb w w2 := (hb.mono hle).grown hg (Nat.le_trans hle hb.size) (fun q e => by have := (h1.a.lt q e).1; omega)
 have gs := grown_setT w2 gb 2 (.slice a (A.length + 1) c)
 have bs := heap_setCell_same w2 gb 2 _ _ (.slice a (A.length + 1) c) b2
 refine ⟨⟨?_, ?_, ?_, ?_, ?_, fun x y e1 e2 => ?_⟩, b2, bel⟩
 ·rw [bs]; simp
 ·exact own_offT (own_offR h1.n h1.a (by decide) hg) b2 (by decide) gs
 ·exact own_offT (own_offI h1.e h.ap hg) b2 (by decide) gs
 ·have q := own_offT ho b2 (by decide) gs
  rw [← itc_snoc] at q
  simpa using q
 ·exact own_offT (own_offR h1.o h1.a (by decide) hg) b2 (by decide) gs
 ·rcases hq y.block (by have e3 : a = some y := e2; rw [e3]; rfl) with q | q
  ·obtain ⟨z, hz, hz2⟩ := own_blk q
   rw [← hz2]
   exact h.ap x z e1 hz
  ·have := (h1.e.lt x.block (by rw [e1]; rfl)).2
   omega
theorem Gr.appE (h : Gr B gb v L E A O w) (hlt : gb < B) {x : Int} {a : Option Addr} {c : Nat} (hb : Below w.heap.size w w1) (ho : w2.ownsRow B 3 1 (.slice a (E.length + 1) c) (E.length + 1) (itc E ++ [.int .i64 x])) (hg : w1.grownBy w2 (Value.slice v.aE E.length v.cE).ownBlock) (hq : ∀ q, (Value.slice a (E.length + 1) c).ownBlock = some q → (Value.slice v.aE E.length v.cE).ownBlock = some q ∨ w1.heap.size ≤ q) :
  Gr B gb { v with aE := a, cE := c } L (E ++ [x]) A O (w2.setCell ⟨gb, 1, none⟩ (.slice a (E.length + 1) c)) ∧ w2.heap[gb]? = some (.cells #[.slice v.aN L.length v.cN, .slice v.aE E.length v.cE, .slice v.aA A.length v.cA, .slice v.aO O.length v.cO] 222 (0, 0)) ∧ Below gb w w2 := by
 have h1 := h.next hb
 have b2 := blk_offR h1.blk h1.e (by decide) hg
 have hle : gb ≤ w.heap.size := Nat.le_of_lt (block_lt h.blk)
 have bel : Below gb w w2 := (hb.mono hle).grown hg (Nat.le_trans hle hb.size) (fun q e => by have := (h1.e.lt q e).1; omega)
 have gs := grown_setT w2 gb 1 (.slice a (E.length + 1) c)
 have bs := heap_setCell_same w2 gb 1 _ _ (.slice a (E.length + 1) c) b2
 refine ⟨⟨?_, ?_, ?_, ?_, ?_, fun x y e1 e2 => ?_⟩, b2, bel⟩
 ·rw [bs]; simp
 ·exact own_offT (own_offR h1.n h1.e (by decide) hg) b2 (by decide) gs
 ·have q := own_offT ho b2 (by decide) gs
  rw [← itc_snoc] at q
  simpa using q
 ·exact own_offT (own_offI h1.a (fun x y e1 e2 => (h.ap y x e2 e1).symm) hg) b2 (by decide) gs
 ·exact own_offT (own_offR h1.o h1.e (by decide) hg) b2 (by decide) gs
 ·rcases hq x.block (by have e3 : a = some x := e1; rw [e3]; rfl) with q | q
  ·obtain ⟨z, hz, hz2⟩ := own_blk q
   rw [← hz2]
   exact h.ap z y hz e2
  ·have := (h1.a.lt y.block (by rw [e2]; rfl)).2
   omega
/-- A number of the ends is written. -/
theorem Gr.setE (h : Gr B gb v L E A O w) (hlt : gb < B) {i b : Nat} (he : v.aE = some ⟨b, 0, none⟩) (_hi : i < E.length) (x : Int) : Gr B gb v L (E.set i x) A O (w.setCell ⟨b, i, none⟩ (.int .i64 x)) ∧ Below gb w (w.setCell ⟨b, i, none⟩ (.int .i64 x)) := by
 have gs := grown_setT w b i (.int .i64 x)
 obtain ⟨hB, cs, hc⟩ := own_typ2 h.e (b := b) (by rw [he]; rfl)
 have hle : gb ≤ w.heap.size := Nat.le_of_lt (block_lt h.blk)
 have bel : Below gb w (w.setCell ⟨b, i, none⟩ (.int .i64 x)) := (Below.refl _ w).grown gs hle (fun q e => by cases e; omega)
 refine ⟨⟨?_, own_offT h.n hc (by decide) gs, ?_, ?_, own_offT h.o hc (by decide) gs, h.ap⟩, bel⟩
 ·rw [List.length_set]; exact (gs.block _ (block_lt h.blk) (by simp; omega)).trans h.blk
 ·have q := h.e
  rw [he] at q ⊢
  rcases q.2 with ⟨e, _⟩ | ⟨g', cap', cur, e, hb, hc', hnc, hm, hsz, htk⟩
  ·cases e
  ·cases e
   refine ⟨by simp [itc], .inr ⟨b, _, cur.setIfInBounds i (.int .i64 x), by simp, hb, ?_, by simpa using hnc, hm, by simpa using hsz, ?_⟩⟩
   ·simp [World.setCell, Array.getElem?_modify, hc']
   ·have e2 : itc (E.set i x) = (itc E).set i (.int .i64 x) := by simp [itc, List.map_set]
    rw [e2, ← htk, Array.toList_setIfInBounds, List.length_set, List.take_set]
 ·exact own_offI (n' := 0) (c' := 0) (a' := some ⟨b, 0, none⟩) h.a (fun x y e1 e2 => by rw [← he] at e2; exact (h.ap y x e2 e1).symm) gs
end
end Go.Proofs.YtggpaljilpbmhaaGreatDoor
