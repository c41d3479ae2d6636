import Derived.Test.YteafdpmblbbpnaaLB24
import Derived.Test.YteafdpmblbbpnaaLB21
namespace Go.Proofs.Yteafdpmblbbpnaa
open Go.RowKit

theorem own_tight {W : World} {P : Program} {k : TypeId} {R : Value → Option (DataW Value × List MemPlace)} {b n : Nat} {D : DataW Value} (h : W.ownsMap P k R b n D) : W.ownsMap P k R b (Maps.size D) D := by
  obtain ⟨es, clock, hb, F, _, rfl⟩ := h
  exact ⟨es, clock, hb, F, by simp [Maps.size, DataW.length_sorted], rfl⟩
def Ho.arr (a : Ho) : Array Value := #[.int .u64 (a.id : Nat), .int .u64 (a.fr : Nat), .int .u64 (a.am : Nat)]
def Jn.vals (a : Jn) : List Value := [.int .u64 (a.sq : Nat), .int .i64 (a.kd : Nat), .int .u64 (a.fr : Nat), .int .u64 (a.tw : Nat), .int .u64 (a.am : Nat)]
/-- Block mb is a map with n holds: m. -/
def THm (W : World) (mb n : Nat) (m : Nat → Option Ho) : Prop :=
  ∃ D : DataW Value, W.ownsMap Try.prog 25 RV mb n D ∧ Maps.size D = n ∧ ∀ x, x < 18446744073709551616 → D.atKey (kU x) (.held (.agg Ho.zero.arr)) = .held (.agg ((m x).getD Ho.zero).arr) ∧ Maps.has D (kU x) = (m x).isSome
theorem THm.obj {W : World} {mb n : Nat} {m : Nat → Option Ho} (h : THm W mb n m) : ∃ es k, W.heap[mb]? = some (.map es k) := by
  obtain ⟨D, ⟨es, k, h1, _⟩, _⟩ := h
  exact ⟨es, k, h1⟩
theorem THm.lt {W : World} {mb n : Nat} {m : Nat → Option Ho} (h : THm W mb n m) : mb < W.heap.size := by
  obtain ⟨es, k, h⟩ := h.obj
  exact block_lt h
theorem THm.kept {W W' : World} {mb n : Nat} {m : Nat → Option Ho} (h : THm W mb n m) {row : Option Nat} (hg : W.grownBy W' row) (hne : some mb ≠ row) : THm W' mb n m := by
  obtain ⟨D, h1, h2⟩ := h
  exact ⟨D, h1.kept hg hne, h2⟩
theorem zero_hold (w : World) : (zeroValue 75).run Try.prog w = .ok (.agg Ho.zero.arr) w := by kernel_rfl
theorem THm.look {W : World} {mb n : Nat} {m : Nat → Option Ho} (h : THm W mb n m) {x : Nat} (hx : x < 18446744073709551616) : (Instr.lookup 62 (.map (some mb)) (.int .u64 (x : Int)) false).run Try.prog W = .ok (.agg ((m x).getD Ho.zero).arr) W := by
  obtain ⟨D, h1, _, h2⟩ := h
  obtain ⟨v, ps, hr, hv⟩ := h1.lookup KD Try.underlying62 (zero_hold W) (rfl : RV (.agg Ho.zero.arr) = _) (kU_of hx)
  rw [(h2 x hx).1] at hv
  cases hv
  exact hr
theorem THm.look_ok {W : World} {mb n : Nat} {m : Nat → Option Ho} (h : THm W mb n m) {x : Nat} (hx : x < 18446744073709551616) : (Instr.lookup 62 (.map (some mb)) (.int .u64 (x : Int)) true).run Try.prog W = .ok (.tuple #[.agg ((m x).getD Ho.zero).arr, .bool (m x).isSome]) W := by
  obtain ⟨D, h1, _, h2⟩ := h
  obtain ⟨v, ps, hr, hv⟩ := h1.look_ok KD Try.underlying62 (zero_hold W) (rfl : RV (.agg Ho.zero.arr) = _) (kU_of hx)
  rw [(h2 x hx).1] at hv
  cases hv
  rw [(h2 x hx).2] at hr
  exact hr
theorem THm.len {W : World} {mb n : Nat} {m : Nat → Option Ho} (h : THm W mb n m) (ty : TypeId) : (Builtin.len_ #[62] ty #[.map (some mb)]).run Try.prog W = .ok (.int .i64 (n : Nat)) W := by
  obtain ⟨D, h1, h2, _⟩ := h
  have := h1.len Try.underlying62 ty
  rw [h2] at this
  exact this
theorem thm_empty {W : World} {b : Nat} (h : W.heap[b]? = some (.map #[] 0)) : THm W b 0 (fun _ => none) := ⟨.map [], ⟨#[], 0, h, ⟨by simp, MapKept.stamped_empty 0, by simp⟩, Nat.le_refl _, rfl⟩, rfl, fun _ _ => ⟨rfl, rfl⟩⟩
/-- One is put in, whether its number is there or not. -/
theorem TAm.put {W : World} {mb n : Nat} {m : Nat → Option Ac} (h : TAm W mb n m) (a : Ac) (hx : a.id < 18446744073709551616) (hn : n < maxLen) :
    ∃ w', (Instr.mapUpdate 61 (.map (some mb)) (.int .u64 (a.id : Int)) (.agg a.arr)).run Try.prog W = .ok () w' ∧ TAm w' mb (if (m a.id).isSome = true then n else n + 1) (fun x => if x = a.id then some a else m x) ∧ W.grownBy w' (some mb) := by
  obtain ⟨D, h1, hs, h2⟩ := h
  have hti := h1.tidy KD
  obtain ⟨w', hr, ho, ht⟩ := h1.store KD Try.underlying61 hn (kU_of hx) (rfl : RV (.agg a.arr) = _)
  have hsz := Maps.size_put (k := kU a.id) hti (.held (.agg a.arr))
  rw [(h2 _ hx).2, hs] at hsz
  have ho' := own_tight ho
  rw [hsz] at ho'
  refine ⟨w', hr, ⟨_, ho', hsz, fun y hy => ?_⟩, ht.grown⟩
  dsimp only
  by_cases e : y = a.id
  · subst e; rw [if_pos rfl]; exact ⟨Maps.atKey_put_same (k := kU a.id) h1.isMap (show WideAt.IsKeyLit (kU a.id) from trivial) _ _, Maps.has_put_same h1.isMap (show WideAt.IsKeyLit (kU a.id) from trivial) _⟩
  · rw [if_neg e]
    rw [Maps.atKey_put_other (fun h => e (kU_inj h)), Maps.has_put_other (fun h => e (kU_inj h))]
    exact h2 y hy
/-- One that is there is taken out. -/
theorem TAm.del {W : World} {mb n : Nat} {m : Nat → Option Ac} (h : TAm W mb (n + 1) m) {k : Nat} (hx : k < 18446744073709551616) (hk : (m k).isSome = true) (ty : TypeId) :
    ∃ w', (Builtin.delete_ #[61, 25] ty #[.map (some mb), .int .u64 (k : Int)]).run Try.prog W = .ok (.tuple #[]) w' ∧ TAm w' mb n (fun x => if x = k then none else m x) ∧ W.grownBy w' (some mb) := by
  obtain ⟨D, h1, hs, h2⟩ := h
  have hti := h1.tidy KD
  obtain ⟨w', hr, ho, ht⟩ := h1.drop KD Try.underlying61 (kU_of hx) ty
  have hsz := Maps.size_del (k := kU k) hti
  rw [(h2 _ hx).2, hs, hk] at hsz
  have hsz' : Maps.size (D.del (kU k)) = n := by simp at hsz; omega
  have ho' := own_tight ho
  rw [hsz'] at ho'
  refine ⟨w', hr, ⟨_, ho', hsz', fun y hy => ?_⟩, ht.grown⟩
  dsimp only
  by_cases e : y = k
  · subst e; rw [if_pos rfl]; exact ⟨Maps.atKey_del_same _, Maps.has_del_same⟩
  · rw [if_neg e]
    rw [Maps.atKey_del_other (fun h => e (kU_inj h)), Maps.has_del_other (fun h => e (kU_inj h))]
    exact h2 y hy
theorem TAm.congr {W : World} {mb n n' : Nat} {m m' : Nat → Option Ac} (h : TAm W mb n m) (hn : n = n') (hm : ∀ x, m x = m' x) : TAm W mb n' m' := by
  obtain rfl := hn
  obtain rfl : m = m' := funext hm
  exact h
/-- One is put in, whether its number is there or not. -/
theorem THm.put {W : World} {mb n : Nat} {m : Nat → Option Ho} (h : THm W mb n m) (a : Ho) (hx : a.id < 18446744073709551616) (hn : n < maxLen) :
    ∃ w', (Instr.mapUpdate 62 (.map (some mb)) (.int .u64 (a.id : Int)) (.agg a.arr)).run Try.prog W = .ok () w' ∧ THm w' mb (if (m a.id).isSome = true then n else n + 1) (fun x => if x = a.id then some a else m x) ∧ W.grownBy w' (some mb) := by
  obtain ⟨D, h1, hs, h2⟩ := h
  have hti := h1.tidy KD
  obtain ⟨w', hr, ho, ht⟩ := h1.store KD Try.underlying62 hn (kU_of hx) (rfl : RV (.agg a.arr) = _)
  have hsz := Maps.size_put (k := kU a.id) hti (.held (.agg a.arr))
  rw [(h2 _ hx).2, hs] at hsz
  have ho' := own_tight ho
  rw [hsz] at ho'
  refine ⟨w', hr, ⟨_, ho', hsz, fun y hy => ?_⟩, ht.grown⟩
  dsimp only
  by_cases e : y = a.id
  · subst e; rw [if_pos rfl]; exact ⟨Maps.atKey_put_same (k := kU a.id) h1.isMap (show WideAt.IsKeyLit (kU a.id) from trivial) _ _, Maps.has_put_same h1.isMap (show WideAt.IsKeyLit (kU a.id) from trivial) _⟩
  · rw [if_neg e]
    rw [Maps.atKey_put_other (fun h => e (kU_inj h)), Maps.has_put_other (fun h => e (kU_inj h))]
    exact h2 y hy
/-- One that is there is taken out. -/
theorem THm.del {W : World} {mb n : Nat} {m : Nat → Option Ho} (h : THm W mb (n + 1) m) {k : Nat} (hx : k < 18446744073709551616) (hk : (m k).isSome = true) (ty : TypeId) :
    ∃ w', (Builtin.delete_ #[62, 25] ty #[.map (some mb), .int .u64 (k : Int)]).run Try.prog W = .ok (.tuple #[]) w' ∧ THm w' mb n (fun x => if x = k then none else m x) ∧ W.grownBy w' (some mb) := by
  obtain ⟨D, h1, hs, h2⟩ := h
  have hti := h1.tidy KD
  obtain ⟨w', hr, ho, ht⟩ := h1.drop KD Try.underlying62 (kU_of hx) ty
  have hsz := Maps.size_del (k := kU k) hti
  rw [(h2 _ hx).2, hs, hk] at hsz
  have hsz' : Maps.size (D.del (kU k)) = n := by simp at hsz; omega
  have ho' := own_tight ho
  rw [hsz'] at ho'
  refine ⟨w', hr, ⟨_, ho', hsz', fun y hy => ?_⟩, ht.grown⟩
  dsimp only
  by_cases e : y = k
  · subst e; rw [if_pos rfl]; exact ⟨Maps.atKey_del_same _, Maps.has_del_same⟩
  · rw [if_neg e]
    rw [Maps.atKey_del_other (fun h => e (kU_inj h)), Maps.has_del_other (fun h => e (kU_inj h))]
    exact h2 y hy
theorem THm.congr {W : World} {mb n n' : Nat} {m m' : Nat → Option Ho} (h : THm W mb n m) (hn : n = n') (hm : ∀ x, m x = m' x) : THm W mb n' m' := by
  obtain rfl := hn
  obtain rfl : m = m' := funext hm
  exact h
theorem far_two {w w1 w2 : World} {r : Option Nat} (h : w.grownBy w1 r) (h' : w1.grownBy w2 r) : w.grownBy w2 r := ⟨h'.os.trans h.os, h'.tape.trans h.tape, h'.output.trans h.output, Nat.le_trans h.size h'.size, fun k hk hne => (h'.block k (Nat.lt_of_lt_of_le hk h.size) hne).trans (h.block k hk hne)⟩
/-- A ledger as it lies: block p, its accounts in map a, its holds in map b; mk, ch: its marks and changes. -/
structure LG (W : World) (p a b : Nat) (mk ch : Value) (S : LS) : Prop where
  blk : ∃ cs : Array Value, W.heap[p]? = some (.cells cs 71 (0, 0)) ∧ cs.size = 326 ∧ (cs[0]? = some (.int .u64 (S.tot : Nat)) ∧ cs[1]? = some (.map (some a)) ∧ cs[2]? = some (.map (some b)) ∧ cs[3]? = some (.int .u64 (S.nx : Nat)) ∧ cs[324]? = some mk ∧ cs[325]? = some ch) ∧ ∀ k, k < 64 → ∀ (j : Nat) (v : Value), (S.rg k).vals[j]? = some v → cs[4 + k * 5 + j]? = some v
  acc : TAm W a S.acc.length (byK Ac.id S.acc)
  hol : THm W b S.hol.length (byK Ho.id S.hol)
  ne : a ≠ b
theorem LG.lt {W : World} {p a b : Nat} {mk ch : Value} {S : LS} (h : LG W p a b mk ch S) : p < W.heap.size ∧ a < W.heap.size ∧ b < W.heap.size := by
  obtain ⟨cs, h1, _⟩ := h.blk
  exact ⟨block_lt h1, h.acc.lt, h.hol.lt⟩
theorem LG.nes {W : World} {p a b : Nat} {mk ch : Value} {S : LS} (h : LG W p a b mk ch S) : p ≠ a ∧ p ≠ b ∧ a ≠ b := by
  obtain ⟨cs, h1, _⟩ := h.blk
  obtain ⟨es, k, h2⟩ := h.acc.obj
  obtain ⟨es', k', h3⟩ := h.hol.obj
  exact ⟨fun e => (by cases e; rw [h1] at h2; cases h2), fun e => (by cases e; rw [h1] at h3; cases h3), h.ne⟩
/-- Another block turns. -/
theorem LG.other {W W' : World} {p a b : Nat} {mk ch : Value} {S : LS} (h : LG W p a b mk ch S) {row : Option Nat} (hg : W.grownBy W' row) (n1 : some p ≠ row) (n2 : some a ≠ row) (n3 : some b ≠ row) : LG W' p a b mk ch S := by
  obtain ⟨cs, h1, h2⟩ := h.blk
  exact ⟨⟨cs, (hg.block _ (block_lt h1) n1).trans h1, h2⟩, h.acc.kept hg n2, h.hol.kept hg n3, h.ne⟩
theorem LG.kept {W W' : World} {p a b : Nat} {mk ch : Value} {S : LS} (h : LG W p a b mk ch S) (hb : Below W.heap.size W W') : LG W' p a b mk ch S := h.other (below_none hb) (by simp) (by simp) (by simp)
theorem LG.c {W : World} {p a b : Nat} {mk ch : Value} {S : LS} (h : LG W p a b mk ch S) : W.cell? ⟨p, 0, none⟩ = some (.int .u64 (S.tot : Nat)) ∧ W.cell? ⟨p, 1, none⟩ = some (.map (some a)) ∧ W.cell? ⟨p, 2, none⟩ = some (.map (some b)) ∧ W.cell? ⟨p, 3, none⟩ = some (.int .u64 (S.nx : Nat)) ∧ W.cell? ⟨p, 324, none⟩ = some mk ∧ W.cell? ⟨p, 325, none⟩ = some ch := by
  obtain ⟨cs, h1, _, ⟨h2, h3, h4, h5, h6, h7⟩, _⟩ := h.blk
  exact ⟨(block_cell h1 0).trans h2, (block_cell h1 1).trans h3, (block_cell h1 2).trans h4, (block_cell h1 3).trans h5, (block_cell h1 324).trans h6, (block_cell h1 325).trans h7⟩
theorem LG.free {W : World} {p a b : Nat} {mk ch : Value} {S : LS} (h : LG W p a b mk ch S) (k : Nat) : W.frozen? ⟨p, k, none⟩ = false := by
  obtain ⟨cs, h1, _⟩ := h.blk
  exact block_free h1 k
theorem LG.ring {W : World} {p a b : Nat} {mk ch : Value} {S : LS} (h : LG W p a b mk ch S) {k : Nat} (hk : k < 64) : W.cell? ⟨p, 4 + k * 5, none⟩ = some (.int .u64 ((S.rg k).sq : Nat)) ∧ W.cell? ⟨p, 4 + k * 5 + 1, none⟩ = some (.int .i64 ((S.rg k).kd : Nat)) ∧ W.cell? ⟨p, 4 + k * 5 + 2, none⟩ = some (.int .u64 ((S.rg k).fr : Nat)) ∧ W.cell? ⟨p, 4 + k * 5 + 3, none⟩ = some (.int .u64 ((S.rg k).tw : Nat)) ∧ W.cell? ⟨p, 4 + k * 5 + 4, none⟩ = some (.int .u64 ((S.rg k).am : Nat)) := by
  obtain ⟨cs, h1, _, _, h2⟩ := h.blk
  exact ⟨(block_cell h1 _).trans (h2 k hk 0 _ rfl), (block_cell h1 _).trans (h2 k hk 1 _ rfl), (block_cell h1 _).trans (h2 k hk 2 _ rfl), (block_cell h1 _).trans (h2 k hk 3 _ rfl), (block_cell h1 _).trans (h2 k hk 4 _ rfl)⟩
/-- Other accounts. -/
theorem LG.toA {W W' : World} {p a b : Nat} {mk ch : Value} {S : LS} (h : LG W p a b mk ch S) {l : List Ac} (ht : TAm W' a l.length (byK Ac.id l)) (hg : W.grownBy W' (some a)) : LG W' p a b mk ch { S with acc := l } := by
  obtain ⟨cs, h1, h2⟩ := h.blk
  obtain ⟨n1, n2, n3⟩ := h.nes
  exact ⟨⟨cs, (hg.block _ (block_lt h1) (fun e => n1 (Option.some.inj e))).trans h1, h2⟩, ht, h.hol.kept hg (fun e => n3 (Option.some.inj e).symm), h.ne⟩
/-- Other holds. -/
theorem LG.toH {W W' : World} {p a b : Nat} {mk ch : Value} {S : LS} (h : LG W p a b mk ch S) {l : List Ho} (ht : THm W' b l.length (byK Ho.id l)) (hg : W.grownBy W' (some b)) : LG W' p a b mk ch { S with hol := l } := by
  obtain ⟨cs, h1, h2⟩ := h.blk
  obtain ⟨n1, n2, n3⟩ := h.nes
  exact ⟨⟨cs, (hg.block _ (block_lt h1) (fun e => n2 (Option.some.inj e))).trans h1, h2⟩, h.acc.kept hg (fun e => n3 (Option.some.inj e)), ht, h.ne⟩
/-- A line is written into the ring at place k, and the next number. -/
def ring5 (V : World) (p k : Nat) (sq kd fr tw am : Int) : World := ((((V.setCell ⟨p, 4 + k * 5, none⟩ (.int .u64 sq)).setCell ⟨p, 4 + k * 5 + 1, none⟩ (.int .i64 kd)).setCell ⟨p, 4 + k * 5 + 2, none⟩ (.int .u64 fr)).setCell ⟨p, 4 + k * 5 + 3, none⟩ (.int .u64 tw)).setCell ⟨p, 4 + k * 5 + 4, none⟩ (.int .u64 am)
theorem LG.toLine {W : World} {p a b : Nat} {mk ch : Value} {S : LS} (h : LG W p a b mk ch S) (kd fr tw am : Nat) : LG ((ring5 W p (S.nx % 64) (S.nx : Int) (kd : Int) (fr : Int) (tw : Int) (am : Int)).setCell ⟨p, 3, none⟩ (.int .u64 ((S.nx + 1 : Nat) : Int))) p a b mk ch (S.line kd fr tw am) := by
  obtain ⟨cs, h1, hs, ⟨h2, h3, h4, h5, h6, h7⟩, h8⟩ := h.blk
  obtain ⟨n1, n2, n3⟩ := h.nes
  have hk : S.nx % 64 < 64 := Nat.mod_lt _ (by decide)
  obtain ⟨k, hkk⟩ : ∃ k, S.nx % 64 = k := ⟨_, rfl⟩
  rw [hkk] at hk ⊢
  have hg : W.grownBy ((ring5 W p k (S.nx : Int) (kd : Int) (fr : Int) (tw : Int) (am : Int)).setCell ⟨p, 3, none⟩ (.int .u64 ((S.nx + 1 : Nat) : Int))) (some p) := by
    unfold ring5
    exact far_two (far_two (far_two (far_two (far_two (grown_set _ p _ _) (grown_set _ p _ _)) (grown_set _ p _ _)) (grown_set _ p _ _)) (grown_set _ p _ _)) (grown_set _ p _ _)
  refine ⟨⟨_, heap_setCell_same _ p 3 _ _ _ (heap_setCell_same _ p _ _ _ _ (heap_setCell_same _ p _ _ _ _ (heap_setCell_same _ p _ _ _ _ (heap_setCell_same _ p _ _ _ _ (heap_setCell_same W p _ _ _ _ h1))))), by simpa using hs, ⟨?_, ?_, ?_, ?_, ?_, ?_⟩, fun k' hk' j v hj => ?_⟩, h.acc.kept hg (fun e => n1 (Option.some.inj e).symm), h.hol.kept hg (fun e => n2 (Option.some.inj e).symm), h.ne⟩
  · simp only [Array.getElem?_setIfInBounds]; repeat rw [if_neg (by omega)]
    exact h2
  · simp only [Array.getElem?_setIfInBounds]; repeat rw [if_neg (by omega)]
    exact h3
  · simp only [Array.getElem?_setIfInBounds]; repeat rw [if_neg (by omega)]
    exact h4
  · simp [hs]; rfl
  · simp only [Array.getElem?_setIfInBounds]; repeat rw [if_neg (by omega)]
    exact h6
  · simp only [Array.getElem?_setIfInBounds]; repeat rw [if_neg (by omega)]
    exact h7
  · have hj5 : j < 5 := (List.getElem?_eq_some_iff.1 hj).1
    have e : (S.line kd fr tw am).rg k' = if k' = k then ⟨S.nx, kd, fr, tw, am⟩ else S.rg k' := by unfold LS.line; rw [hkk]
    rw [e] at hj
    by_cases e' : k' = k
    · subst e'
      rw [if_pos rfl] at hj
      have : j = 0 ∨ j = 1 ∨ j = 2 ∨ j = 3 ∨ j = 4 := by omega
      rcases this with rfl | rfl | rfl | rfl | rfl <;>
        (simp only [Jn.vals, List.getElem?_cons_zero, List.getElem?_cons_succ, Option.some.injEq] at hj
         subst hj
         simp only [Array.getElem?_setIfInBounds, Array.size_setIfInBounds, hs]
         repeat (first | rw [if_pos trivial, if_pos (by omega)] | rw [if_pos (by omega), if_pos (by omega)] | rw [if_neg (by omega)]))
    · rw [if_neg e'] at hj
      simp only [Array.getElem?_setIfInBounds]
      repeat rw [if_neg (by omega)]
      exact h8 k' hk' j v hj
end Go.Proofs.Yteafdpmblbbpnaa
