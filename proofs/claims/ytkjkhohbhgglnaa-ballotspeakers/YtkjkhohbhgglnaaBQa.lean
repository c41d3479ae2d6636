import Derived.Test.YtkjkhohbhgglnaaBTy
namespace Go.Proofs.Ytkjkhohbhgglnaa
open Go.RowKit

/-- A step of a script. -/
structure Wd where
  (k : Int) (n bn : Nat) (bm nd : Int)
def Wd.cells (x : Wd) : Array Value := #[.int .i64 x.k, .int .u64 (x.n : Nat), .int .u64 (x.bn : Nat), .int .i64 x.bm, .int .i64 x.nd]
structure Wd.In (x : Wd) : Prop where
  (n : x.n < 18446744073709551616) (bn : x.bn < 18446744073709551616) (b1 : -9223372036854775808 ≤ x.bm) (b2 : x.bm < 9223372036854775808)
/-- A script as it lies. -/
structure Wds (W : World) (b off : Nat) (ws : List Wd) : Prop where
  ok : ∀ x ∈ ws, x.In
  at_ : ∀ i x, ws[i]? = some x → ∀ j v, x.cells[j]? = some v → W.cell? ⟨b, off + i * 5 + j, none⟩ = some v
theorem Wds.kept {W W' : World} {b off B : Nat} {ws : List Wd} (h : Wds W b off ws) (hb : b < B) (hg : Below B W W') : Wds W' b off ws :=
  ⟨h.ok, fun i x hi j v hj => (hg.cell (p := ⟨b, off + i * 5 + j, none⟩) hb).trans (h.at_ i x hi j v hj)⟩
theorem wd_cells {W : World} {p : Nat} {x : Wd} {t : TypeId} (h : W.heap[p]? = some (.cells x.cells t (0, 0))) :
    W.cell? ⟨p, 0, none⟩ = some (.int .i64 x.k) ∧ W.cell? ⟨p, 1, none⟩ = some (.int .u64 (x.n : Nat)) ∧ W.cell? ⟨p, 4, none⟩ = some (.int .i64 x.nd) :=
  ⟨block_cell h 0, block_cell h 1, block_cell h 4⟩
/-- What a step of a script does to the set of a key. -/
def sayS (c : Cf) (x : Wd) (key s : Nat) : Nat := if x.n = key ∧ x.k = 2 then 0 else if x.n = key ∧ x.k < 2 ∧ c.node x.nd = true then withB s x.nd else s
theorem sayS_other {c : Cf} {x : Wd} {key s : Nat} (h : x.n ≠ key) : sayS c x key s = s := by unfold sayS; rw [if_neg (by simp [h]), if_neg (by simp [h])]
theorem sayS_drop {c : Cf} {x : Wd} {key s : Nat} (h : x.n = key) (hk : x.k = 2) : sayS c x key s = 0 := by unfold sayS; rw [if_pos ⟨h, hk⟩]
theorem sayS_say {c : Cf} {x : Wd} {key s : Nat} (h : x.n = key) (hk : x.k < 2) (hn : c.node x.nd = true) : sayS c x key s = withB s x.nd := by unfold sayS; rw [if_neg (by omega), if_pos ⟨h, hk, hn⟩]
theorem sayS_not {c : Cf} {x : Wd} {key s : Nat} (hk : x.k ≠ 2) (hn : c.node x.nd = false) : sayS c x key s = s := by unfold sayS; rw [if_neg (by simp [hk]), if_neg (by simp [hn])]
theorem sayS_none {c : Cf} {x : Wd} {key s : Nat} (hk : x.k > 2) : sayS c x key s = s := by unfold sayS; rw [if_neg (by omega), if_neg (by omega)]
theorem say_drop (c : Cf) (x : Wd) (m : Nat → Nat) (hk : x.k = 2) : upd m x.n 0 = fun key => sayS c x key (m key) := by
  funext key
  unfold upd
  by_cases h : key = x.n
  · rw [if_pos h, sayS_drop h.symm hk]
  · rw [if_neg h, sayS_other (fun e => h e.symm)]
theorem say_say (c : Cf) (x : Wd) (m : Nat → Nat) (hk : x.k < 2) (hn : c.node x.nd = true) : upd m x.n (withB (m x.n) x.nd) = fun key => sayS c x key (m key) := by
  funext key
  unfold upd
  by_cases h : key = x.n
  · rw [if_pos h, sayS_say h.symm hk hn, h]
  · rw [if_neg h, sayS_other (fun e => h e.symm)]
theorem say_not (c : Cf) (x : Wd) (m : Nat → Nat) (hk : x.k ≠ 2) (hn : c.node x.nd = false) : m = fun key => sayS c x key (m key) := by
  funext key; rw [sayS_not hk hn]
theorem say_none (c : Cf) (x : Wd) (m : Nat → Nat) (hk : x.k > 2) : m = fun key => sayS c x key (m key) := by
  funext key; rw [sayS_none hk]
/-- A set of replicas alone. -/
theorem allN_has (f : Int) (hf : f = 1 ∨ f = 2 ∨ f = 3) (i : Nat) (h : (i : Int) < 2 * f + 1) : (allN f).testBit i = true := by
  rcases hf with rfl | rfl | rfl
  · have : i < 3 := by omega
    match i, this with
    | 0, _ => rfl
    | 1, _ => rfl
    | 2, _ => rfl
  · have : i < 5 := by omega
    match i, this with
    | 0, _ => rfl
    | 1, _ => rfl
    | 2, _ => rfl
    | 3, _ => rfl
    | 4, _ => rfl
  · have : i < 7 := by omega
    match i, this with
    | 0, _ => rfl
    | 1, _ => rfl
    | 2, _ => rfl
    | 3, _ => rfl
    | 4, _ => rfl
    | 5, _ => rfl
    | 6, _ => rfl
theorem alone_all {c : Cf} (hk : c.Ok) {nd : Int} (h : c.node nd = true) : aloneB nd &&& allN c.f = aloneB nd := by
  have h1 : 0 ≤ nd ∧ nd < 2 * c.f + 1 := by unfold Cf.node at h; exact of_decide_eq_true h
  have h3 := hk.f3
  unfold aloneB
  rw [if_pos (by omega)]
  apply Nat.eq_of_testBit_eq
  intro i
  rw [Nat.testBit_and]
  by_cases e : nd.toNat = i
  · subst e; rw [allN_has c.f hk.f_cases _ (by omega), Bool.and_true]
  · rw [Nat.testBit_two_pow_of_ne e, Bool.false_and]
theorem with_all {c : Cf} (hk : c.Ok) {nd : Int} (h : c.node nd = true) {s : Nat} (hs : s &&& allN c.f = s) : withB s nd &&& allN c.f = withB s nd := by
  unfold withB
  rw [Nat.and_or_distrib_right, hs, alone_all hk h]
theorem say_all {c : Cf} (hk : c.Ok) (x : Wd) {key s : Nat} (hs : s &&& allN c.f = s) : sayS c x key s &&& allN c.f = sayS c x key s := by
  unfold sayS
  split
  · simp
  · split
    · rename_i _ h; exact with_all hk h.2.2 hs
    · exact hs
theorem say_lt {c : Cf} (x : Wd) {key s : Nat} (hs : s < 4294967296) : sayS c x key s < 4294967296 := by
  unfold sayS
  split
  · omega
  · split
    · exact withB_lt _ _ hs
    · exact hs
theorem maj_count {c : Cf} {s : Nat} (hs : s &&& allN c.f = s) : c.maj s = decide (((countB s : Nat) : Int) ≥ c.f + 1) := by unfold Cf.maj; rw [hs]
/-- All that the law holds at a step: the group, the tally, what was said, the two keys, the configuration. -/
structure SP (w W : World) (c : Cf) (g pt bm ps pk pc a b n : Nat) (m : Nat → Nat) (p : Nat → Bool) (sa sb : Nat) : Prop where
  below : Below w.heap.size w W
  pg : W.heap[g]? = some (.cells c.cells 78 (0, 0))
  ty : TY W pt bm c n m p
  sd : W.heap[ps]? = some (.cells #[.int .u32 (sa : Nat), .int .u32 (sb : Nat)] 33 (0, 0))
  ke : W.heap[pk]? = some (.cells #[.int .u64 (a : Nat), .int .u64 (b : Nat)] 34 (0, 0))
  cf : W.heap[pc]? = some (.cells c.cells 24 (0, 0))
  bge : w.heap.size ≤ bm
  pge : w.heap.size ≤ ps
section
variable {w W W' : World} {c : Cf} {g pt bm ps pk pc a b n n' : Nat} {m m' : Nat → Nat} {p p' : Nat → Bool} {sa sb : Nat}
theorem ne_map {Y : KeyK Nat} {q : Nat} {cs : Array Value} {t : TypeId} {z : Nat × Nat} (h : W.heap[q]? = some (.cells cs t z)) (hm : TM Y W bm n m p) : q ≠ bm := fun e => by
  obtain ⟨D, ⟨es, clock, h1, _⟩, _⟩ := hm
  rw [e, h1] at h
  cases h
theorem SP.kept (h : SP w W c g pt bm ps pk pc a b n m p sa sb) (hb : Below W.heap.size W W') : SP w W' c g pt bm ps pk pc a b n m p sa sb :=
  ⟨h.below.trans (hb.mono h.below.size), (hb.block _ (block_lt h.pg)).trans h.pg, h.ty.kept hb, (hb.block _ (block_lt h.sd)).trans h.sd, (hb.block _ (block_lt h.ke)).trans h.ke, (hb.block _ (block_lt h.cf)).trans h.cf, h.bge, h.pge⟩
theorem SP.turn (h : SP w W c g pt bm ps pk pc a b n m p sa sb) (hg : W.grownBy W' (some bm)) (ht : TY W' pt bm c n' m' p') : SP w W' c g pt bm ps pk pc a b n' m' p' sa sb := by
  have ne := fun {q : Nat} {cs : Array Value} {t : TypeId} {z : Nat × Nat} (hq : W.heap[q]? = some (.cells cs t z)) => (hg.block q (block_lt hq) (by simpa using ne_map hq h.ty.tm)).trans hq
  exact ⟨h.below.grown hg h.below.size (fun k e => by cases e; exact h.bge), ne h.pg, ht, ne h.sd, ne h.ke, ne h.cf, h.bge, h.pge⟩
theorem SP.block (h : SP w W c g pt bm ps pk pc a b n m p sa sb) (hg : W.grownBy W' (some bm)) {q : Nat} {cs : Array Value} {t : TypeId} {z : Nat × Nat} (hq : W.heap[q]? = some (.cells cs t z)) : W'.heap[q]? = some (.cells cs t z) :=
  (hg.block q (block_lt hq) (by simpa using ne_map hq h.ty.tm)).trans hq
theorem set_a {V : World} {q : Nat} {x0 y0 : Value} {t : TypeId} (hr : V.heap[q]? = some (.cells #[x0, y0] t (0, 0))) (x : Value) : (V.setCell ⟨q, 0, none⟩ x).heap[q]? = some (.cells #[x, y0] t (0, 0)) := by
  have s1 := heap_setCell_same V q 0 _ _ x hr
  simp only [List.setIfInBounds_toArray, List.set_cons_zero] at s1
  exact s1
theorem set_b {V : World} {q : Nat} {x0 y0 : Value} {t : TypeId} (hr : V.heap[q]? = some (.cells #[x0, y0] t (0, 0))) (x : Value) : (V.setCell ⟨q, 1, none⟩ x).heap[q]? = some (.cells #[x0, x] t (0, 0)) := by
  have s1 := heap_setCell_same V q 1 _ _ x hr
  simp only [List.setIfInBounds_toArray, List.set_cons_zero, List.set_cons_succ] at s1
  exact s1
theorem SP.set (h : SP w W c g pt bm ps pk pc a b n m p sa sb) (j : Nat) (v : Value) {sa' sb' : Nat} (hs : (W.setCell ⟨ps, j, none⟩ v).heap[ps]? = some (.cells #[.int .u32 (sa' : Nat), .int .u32 (sb' : Nat)] 33 (0, 0))) : SP w (W.setCell ⟨ps, j, none⟩ v) c g pt bm ps pk pc a b n m p sa' sb' := by
  have hg := grown_set W ps j v
  have hsd := h.sd
  have e1 : g ≠ ps := fun e => by have := h.pg; rw [e, hsd] at this; simp at this
  have e2 : pt ≠ ps := fun e => by have := h.ty.blk; rw [e, hsd] at this; simp at this
  have e3 : pk ≠ ps := fun e => by have := h.ke; rw [e, hsd] at this; simp at this
  have e4 : pc ≠ ps := fun e => by have := h.cf; rw [e, hsd] at this; simp at this
  have e5 : ps ≠ bm := ne_map hsd h.ty.tm
  exact ⟨h.below.grown hg h.below.size (fun k e => by cases e; exact h.pge), (hg.block g (block_lt h.pg) (by simpa using e1)).trans h.pg, ⟨(hg.block pt (block_lt h.ty.blk) (by simpa using e2)).trans h.ty.blk, h.ty.tm.kept hg (by simpa using e5.symm)⟩, hs, (hg.block pk (block_lt h.ke) (by simpa using e3)).trans h.ke, (hg.block pc (block_lt h.cf) (by simpa using e4)).trans h.cf, h.bge, h.pge⟩
theorem SP.word (h : SP w W c g pt bm ps pk pc a b n m p sa sb) (j : Nat) (v : Value) {pw : Nat} {x : Wd} (hw : W.heap[pw]? = some (.cells x.cells 38 (0, 0))) : (W.setCell ⟨ps, j, none⟩ v).heap[pw]? = some (.cells x.cells 38 (0, 0)) := by
  have hsd := h.sd
  have e : pw ≠ ps := fun e => by rw [e, hsd] at hw; simp at hw
  exact ((grown_set W ps j v).block pw (block_lt hw) (by simpa using e)).trans hw
end
end Go.Proofs.Ytkjkhohbhgglnaa
