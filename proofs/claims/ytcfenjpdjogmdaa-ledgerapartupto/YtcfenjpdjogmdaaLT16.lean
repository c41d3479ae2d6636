import Derived.Test.YtcfenjpdjogmdaaLT03
import Derived.RangeFuncBox
import Derived.Deep.Cut
import Derived.BigQuiet
import Derived.Maps.AppendAt
import Derived.Deep.DeepAppendRoom
namespace Go.Proofs.Ytcfenjpdjogmdaa
open Go.RowKit

theorem cells_newK (W : World) (cs : List Value) (t : TypeId) : ∀ (j : Nat) (u : Value), cs[j]? = some u → (W.alloc (.cells cs.toArray t)).cell? (Addr.add ⟨W.heap.size, 0, none⟩ j) = some u := by
  intro j u hu
  have := World.cell?_alloc_new W cs.toArray t j
  have he : Addr.add ⟨W.heap.size, 0, none⟩ j = ⟨W.heap.size, j, none⟩ := by
    simp only [Addr.add]
    split <;> simp_all
  rw [he, this]
  simpa using hu
theorem cells_newD (W : World) (cs : List Value) (t : TypeId) : ∀ (j : Nat) (u : Value), cs[j]? = some u → (W.alloc (.cells cs.toArray t)).drew.cell? (Addr.add ⟨W.heap.size, 0, none⟩ j) = some u := cells_newK W cs t
theorem alloc_atK (w : World) (o : Obj) : (w.alloc o).heap[w.heap.size]? = some o := by simp [World.alloc, -World.alloc_eq]
end Go.Proofs.Ytcfenjpdjogmdaa
namespace Go.Proofs.Ytcfenjpdjogmdaa
open Go.RowKit

theorem FV.get {lim : Nat} {w : World} {ao : Option Addr} {L : List Lk} {b off : Nat} (h : FV lim w ao L b off) {k : Nat} (hk : k < L.length) : ∃ layer at_, L[k]? = some ⟨layer, at_⟩ ∧ ao = some ⟨b, off, none⟩ ∧ b < lim ∧ w.cell? ⟨b, off + k * 2, none⟩ = some (.string layer) ∧ w.cell? ⟨b, off + k * 2 + 1, none⟩ = some (.int .i64 at_) := by
  have hg : L[k]? = some L[k] := List.getElem?_eq_getElem hk
  obtain ⟨c0, c1⟩ := h.at_ k _ hg
  exact ⟨L[k].layer, L[k].at_, hg, h.ad (by omega), h.lt (by omega), c0, c1⟩

end Go.Proofs.Ytcfenjpdjogmdaa
namespace Go.Proofs.Ytcfenjpdjogmdaa
open Go.RowKit

end Go.Proofs.Ytcfenjpdjogmdaa
namespace Go.Proofs.Ytcfenjpdjogmdaa
open Go.RowKit

/-- An account. -/
structure Ac where
  (id ow ba cp : Nat)
instance : Inhabited Ac := ⟨⟨0, 0, 0, 0⟩⟩
def Ac.vals (a : Ac) : List Value := [.int .u64 (a.id : Nat), .int .u64 (a.ow : Nat), .int .u64 (a.ba : Nat), .int .u64 (a.cp : Nat)]
structure Ac.In (a : Ac) : Prop where
  (h0 : a.id < 18446744073709551616) (h1 : a.ow < 18446744073709551616) (h2 : a.ba < 18446744073709551616) (h3 : a.cp < 18446744073709551616)
def acells : List Ac → List Value
  | [] => []
  | a :: r => a.vals ++ acells r
theorem acells_app : ∀ (l r : List Ac), acells (l ++ r) = acells l ++ acells r
  | [], r => rfl
  | a :: l, r => by show a.vals ++ acells (l ++ r) = (a.vals ++ acells l) ++ acells r; rw [acells_app l r, List.append_assoc]
theorem acells_at : ∀ {l : List Ac} {i : Nat} {a : Ac}, l[i]? = some a → ∀ (j : Nat) (v : Value), a.vals[j]? = some v → (acells l)[i * 4 + j]? = some v
  | [], i, a, h => by simp at h
  | x :: l, 0, a, h => by
    simp at h
    subst h
    intro j v hj
    have hl := (List.getElem?_eq_some_iff.1 hj).1
    show (x.vals ++ acells l)[0 * 4 + j]? = some v
    rw [Nat.zero_mul, Nat.zero_add, List.getElem?_append_left hl]
    exact hj
  | x :: l, i + 1, a, h => by
    intro j v hj
    have ih := acells_at (l := l) (i := i) (by simpa using h) j v hj
    show (x.vals ++ acells l)[(i + 1) * 4 + j]? = some v
    rw [List.getElem?_append_right (by show 4 ≤ _; omega)]
    show (acells l)[(i + 1) * 4 + j - 4]? = some v
    rw [show (i + 1) * 4 + j - 4 = i * 4 + j by omega]
    exact ih
/-- Accounts as they lie. -/
structure Acs (W : World) (b off : Nat) (l : List Ac) : Prop where
  ok : ∀ x ∈ l, x.In
  at_ : ∀ (i : Nat) (x : Ac), l[i]? = some x → ∀ (j : Nat) (v : Value), x.vals[j]? = some v → W.cell? ⟨b, off + i * 4 + j, none⟩ = some v
theorem Acs.below {W W' : World} {b off : Nat} {l : List Ac} (h : Acs W b off l) {B : Nat} (hb : Below B W W') (hl : 0 < l.length → b < B) : Acs W' b off l :=
  ⟨h.ok, fun i x hi j v hj => (hb.cell (p := ⟨b, _, none⟩) (hl (by have := (List.getElem?_eq_some_iff.1 hi).1; omega))).trans (h.at_ i x hi j v hj)⟩
theorem Acs.four {W : World} {b off : Nat} {l : List Ac} (h : Acs W b off l) {k : Nat} {a : Ac} (hk : l[k]? = some a) : W.cell? ⟨b, off + k * 4, none⟩ = some (.int .u64 (a.id : Nat)) ∧ W.cell? ⟨b, off + k * 4 + 1, none⟩ = some (.int .u64 (a.ow : Nat)) ∧ W.cell? ⟨b, off + k * 4 + 2, none⟩ = some (.int .u64 (a.ba : Nat)) ∧ W.cell? ⟨b, off + k * 4 + 3, none⟩ = some (.int .u64 (a.cp : Nat)) :=
  ⟨h.at_ k a hk 0 _ rfl, h.at_ k a hk 1 _ rfl, h.at_ k a hk 2 _ rfl, h.at_ k a hk 3 _ rfl⟩
/-- A row of accounts that is somebody's own. -/
theorem acs_of_row {W : World} {base g n cap : Nat} {l : List Ac} (ho : W.ownsRow base 80 4 (.slice (some ⟨g, 0, none⟩) n cap) n (acells l)) (hin : ∀ x ∈ l, x.In) : Acs W g 0 l := by
  refine ⟨hin, fun i x hi j v hj => ?_⟩
  have hil := (List.getElem?_eq_some_iff.1 hi).1
  have hj4 : j < 4 := (List.getElem?_eq_some_iff.1 hj).1
  have := ho.cells (g := g) rfl (i * 4 + j) v (acells_at hi j v hj)
  rw [add_at] at this
  rw [Nat.zero_add] at this ⊢
  exact this
theorem infoAcc : (Try.prog.info? 80).map (fun i => (i.zero, i.size, i.bytes)) = some (some (.agg #[.int .u64 0, .int .u64 0, .int .u64 0, .int .u64 0]), 4, 32) := by kernel_rfl
/-- What stands behind the end of a list that is lent. -/
def spareA : List Ac := [⟨160, 0, 0, 0⟩, ⟨161, 0, 0, 0⟩, ⟨162, 0, 0, 0⟩]
theorem spare_step (l : List Ac) (j : Nat) (hj : j < 3) : acells (l ++ spareA.take j) ++ [.int .u64 ((160 : Int) + (j : Int)), .int .u64 0, .int .u64 0, .int .u64 0] = acells (l ++ spareA.take (j + 1)) := by
  have e : spareA.take (j + 1) = spareA.take j ++ [⟨160 + j, 0, 0, 0⟩] := by
    match j, hj with
    | 0, _ => rfl
    | 1, _ => rfl
    | 2, _ => rfl
  rw [e, ← List.append_assoc, acells_app (l ++ spareA.take j)]
  simp [acells, Ac.vals]
theorem take_step {l : List Ac} {k : Nat} {a : Ac} (h : l[k]? = some a) : acells (l.take k) ++ a.vals = acells (l.take (k + 1)) := by
  rw [List.take_add_one, h, acells_app]
  rfl
theorem cells_newA (W : World) (cs : List Value) (t : TypeId) : ∀ (j : Nat) (u : Value), cs[j]? = some u → (W.alloc (.cells cs.toArray t)).cell? (Addr.add ⟨W.heap.size, 0, none⟩ j) = some u := fun j u hu => cells_newD W cs t j u hu

set_option maxRecDepth 10000 in
set_option maxHeartbeats 1600000 in
theorem lendA {w : World} {b off : Nat} {ao : Option Addr} (n cap : Nat) {l : List Ac} (hn : n = l.length) (hA : Acs w b off l) (hao : 0 < n → ao = some ⟨b, off, none⟩) (hbw : 0 < n → b < w.heap.size) (hle : n ≤ 4398046510976) :
    Calls Try.prog 18 #[.slice ao n cap] w fun e w' => e = .returned (.slice (some ⟨w.heap.size, 0, none⟩) n (n + 3)) ∧ Hid (w'.ownsRow w.heap.size 80 4 (.slice (some ⟨w.heap.size, 0, none⟩) (n + 3) (n + 3)) (n + 3) (acells (l ++ spareA)) ∧ Below w.heap.size w w') := by
  obtain ⟨i0, hi, hz0, hz1, hz2⟩ := info_parts infoAcc
  have HA := hide hao
  have HC := hide hA
  have HB := hide hbw
  have HN := hide hn
  clear hA hao hbw hn
  go_enter Try.func18, Try.ntmps18
  go_wp2_with (first
    | (at_make; refine wpList_make_own _ rfl _ _ 22 rfl w.heap.size 80 i0 (.agg #[.int .u64 0, .int .u64 0, .int .u64 0, .int .u64 0]) 4 Try.underlying22 hi hz0 hz1 .i64 .i64 _ (n + 3) rfl rfl (by omega) (by rw [hz2]; omega) (by unfold maxLen; omega) (Nat.le_refl _) ?_; intro w0 hown0 hgrow0))
  go_loopw [3, 4] (fun v i wr => ∃ k : Nat, k ≤ n ∧ i = .int .i64 k ∧ v = .slice (some ⟨w.heap.size, 0, none⟩) k (n + 3) ∧ wr.ownsRow w.heap.size 80 4 v k (acells (l.take k)) ∧ Below w.heap.size w wr)
    (fun _ i _ => n - (intOf i).toNat)
  case atStart => exact ⟨0, by omega, rfl, rfl, hown0, (Below.refl _ _).grown hgrow0 (Nat.le_refl _) (fun k h => by cases h)⟩
  case round =>
    obtain ⟨k, hk, rfl, rfl, hown, hnx⟩ := hrel
    clear hgrow0 hown0
    have hsize := hnx.size
    by_cases hlt : k < n
    · obtain ⟨a, ha⟩ : ∃ a, l[k]? = some a := ⟨_, List.getElem?_eq_getElem (by have := HN.out; omega)⟩
      have hA' := HC.out.below hnx (fun hp => HB.out (by have := HN.out; omega))
      obtain ⟨c0, c1, c2, c3⟩ := hA'.four ha
      obtain rfl := HA.out (by omega)
      have HT := hide (take_step ha)
      clear hA' ha
      obtain ⟨x0, x1, x2, x3⟩ := a
      go_wp2_with (first
        | (at_builtin; refine wpList_append_own_spare _ rfl (.tmp 16) (.tmp 21) 22 rfl w.heap.size 80 i0 4 Try.underlying22 hi hz1 w.heap.size k (n + 3) _ rfl (hown.alloc _) ⟨wr.heap.size, 0, none⟩ 1 1 [.int .u64 (x0 : Nat), .int .u64 (x1 : Nat), .int .u64 (x2 : Nat), .int .u64 (x3 : Nat)] rfl rfl (cells_newA _ _ _) (by simp [Value.oneCell']) (by omega) ?_; intro w1 hown1 hgrow1))
      go_roundw
      case rel =>
        exact ⟨k + 1, by omega, by go_num, rfl, by rw [← HT.out]; exact hown1, (hnx.alloc (by omega) _).grown hgrow1 (by simp; omega) (fun j hj => by cases hj; exact Nat.le_refl _)⟩
      case measure => simp [intOf]; omega
    · obtain rfl : k = n := by omega
      have hall : l.take k = l := by rw [HN.out, List.take_length]
      rw [hall] at hown
      go_wp2
      go_loopw [3, 5] (fun v i wr => ∃ j : Nat, j ≤ 3 ∧ i = .int .i64 j ∧ v = .slice (some ⟨w.heap.size, 0, none⟩) (k + j) (k + 3) ∧ wr.ownsRow w.heap.size 80 4 v (k + j) (acells (l ++ spareA.take j)) ∧ Below w.heap.size w wr)
        (fun _ i _ => 3 - (intOf i).toNat)
      case atStart => exact ⟨0, by omega, rfl, rfl, by rw [List.take_zero, List.append_nil]; exact hown, hnx⟩
      case round =>
        clear hown hnx hsize
        obtain ⟨j, hj, rfl, rfl, hown, hnx⟩ := hrel
        have hsize := hnx.size
        by_cases hj4 : j < 3
        · have HT := hide (spare_step l j hj4)
          go_wp2_with (first
            | (at_builtin; refine wpList_append_own_spare _ rfl (.tmp 27) (.tmp 32) 22 rfl w.heap.size 80 i0 4 Try.underlying22 hi hz1 w.heap.size (k + j) (k + 3) _ rfl (hown.alloc _) ⟨wr.heap.size, 0, none⟩ 1 1 [.int .u64 ((160 : Int) + (j : Int)), .int .u64 0, .int .u64 0, .int .u64 0] rfl rfl (cells_newA _ _ _) (by simp [Value.oneCell']) (by omega) ?_; intro w1 hown1 hgrow1))
          go_roundw
          case rel =>
            exact ⟨j + 1, by omega, by go_num, by rw [Nat.add_assoc], by rw [← Nat.add_assoc, ← HT.out]; exact hown1, (hnx.alloc (by omega) _).grown hgrow1 (by simp; omega) (fun j hj => by cases hj; exact Nat.le_refl _)⟩
          case measure => simp [intOf]; omega
        · obtain rfl : j = 3 := by omega
          go_wp2
          go_ret
          exact ⟨rfl, hown, hnx⟩
end Go.Proofs.Ytcfenjpdjogmdaa
namespace Go.Proofs.Ytcfenjpdjogmdaa
open Go.RowKit

theorem below_dA {B : Nat} {w V : World} (h : Below B w V) (q : Nat) : Below B w (V.drewN q) := ⟨h.os, h.tape, h.output, h.size, h.block⟩
set_option maxRecDepth 10000 in
set_option maxHeartbeats 1600000 in
theorem sameA {w : World} {b off b' off' : Nat} {ao ao' : Option Addr} (n cap cap' : Nat) {l : List Ac} (hn : n = l.length) (h : Acs w b off l) (h' : Acs w b' off' l) (hao : 0 < n → ao = some ⟨b, off, none⟩ ∧ ao' = some ⟨b', off', none⟩) (hbw : 0 < n → b < w.heap.size ∧ b' < w.heap.size) (hle : n ≤ 4398046510976) :
    Calls Try.prog 35 #[.slice ao n cap, .slice ao' n cap'] w fun e w' => e = .returned (.bool true) ∧ Hid (Below w.heap.size w w') := by
  have HA := hide hao
  have HC := hide h
  have HC' := hide h'
  have HB := hide hbw
  have HN := hide hn
  clear h h' hao hbw hn
  go_enter Try.func35, Try.ntmps35
  go_wp2
  go_loopw [5] (fun i wr => ∃ k : Nat, k ≤ n ∧ i = .int .i64 k ∧ Hid (Below w.heap.size w wr)) (fun i _ => n - (intOf i).toNat)
  case atStart => exact ⟨0, by omega, rfl, Below.refl _ _⟩
  case round =>
    obtain ⟨k, hk, rfl, HB1⟩ := hrel
    by_cases hlt : k < n
    · obtain ⟨a, ha⟩ : ∃ a, l[k]? = some a := ⟨_, List.getElem?_eq_getElem (by have := HN.out; omega)⟩
      obtain ⟨c0, c1, c2, c3⟩ := (HC.out.below HB1.out (fun hp => (HB.out (by have := HN.out; omega)).1)).four ha
      obtain ⟨d0, d1, d2, d3⟩ := (HC'.out.below HB1.out (fun hp => (HB.out (by have := HN.out; omega)).2)).four ha
      obtain ⟨rfl, rfl⟩ := HA.out (by omega)
      have hl1 : b < wr.heap.size := Nat.lt_of_lt_of_le (HB.out (by omega)).1 HB1.out.size
      have hl2 : b' < wr.heap.size := Nat.lt_of_lt_of_le (HB.out (by omega)).2 HB1.out.size
      clear ha
      obtain ⟨x0, x1, x2, x3⟩ := a
      simp only at c0 c1 c2 c3 d0 d1 d2 d3
      go_wp2_with fail
      go_quiet (fail)
      go_wp2
      go_roundw
      case rel => exact ⟨k + 1, by omega, by go_num, below_dA HB1.out _⟩
      case measure => simp [intOf]; omega
    · obtain rfl : k = n := by omega
      go_wp2
      go_ret
      exact ⟨rfl, HB1.out⟩
end Go.Proofs.Ytcfenjpdjogmdaa
namespace Go.Proofs.Ytcfenjpdjogmdaa
open Go.RowKit

/-- Lists whose elements have numbers. -/
def byK {α : Type} (key : α → Nat) (l : List α) (x : Nat) : Option α := l.find? (fun a => key a == x)
def insK {α : Type} (key : α → Nat) : List α → α → List α
  | [], a => [a]
  | x :: r, a => if key a < key x then a :: x :: r else x :: insK key r a
def repK {α : Type} (key : α → Nat) (l : List α) (a : α) : List α := l.map (fun y => if key y = key a then a else y)
def remK {α : Type} (key : α → Nat) (l : List α) (x : Nat) : List α := l.filter (fun y => key y != x)
def UpK {α : Type} (key : α → Nat) (l : List α) : Prop := l.Pairwise (fun x y => key x < key y)
section Keyed
variable {α : Type} {key : α → Nat}
theorem byK_mem {l : List α} {x : Nat} {a : α} (h : byK key l x = some a) : a ∈ l ∧ key a = x := by
  unfold byK at h
  exact ⟨List.mem_of_find?_eq_some h, by simpa using List.find?_some h⟩
theorem byK_none {l : List α} {x : Nat} (h : byK key l x = none) : ∀ y ∈ l, key y ≠ x := fun y hy e => by
  unfold byK at h
  have := List.find?_eq_none.1 h y hy
  simp [e] at this
theorem byK_cons (y : α) (r : List α) (x : Nat) : byK key (y :: r) x = if key y = x then some y else byK key r x := by
  unfold byK
  rw [List.find?_cons]
  by_cases e : key y = x
  · simp [e]
  · rw [if_neg e]
    have : (key y == x) = false := by simpa using e
    rw [this]
theorem byK_nil (x : Nat) : byK key ([] : List α) x = none := rfl
theorem UpK.tail {a : α} {l : List α} (h : UpK key (a :: l)) : UpK key l := (List.pairwise_cons.1 h).2
theorem UpK.head {a : α} {l : List α} (h : UpK key (a :: l)) : ∀ y ∈ l, key a < key y := (List.pairwise_cons.1 h).1
theorem UpK.by : ∀ {l : List α} (_ : UpK key l) {a : α} (_ : a ∈ l), byK key l (key a) = some a
  | y :: r, h, a, ha => by
    rw [byK_cons]
    rcases List.mem_cons.1 ha with e | e
    · subst e; rw [if_pos rfl]
    · have := h.head a e
      rw [if_neg (by omega)]
      exact UpK.by h.tail e
theorem byK_far {l : List α} {x : Nat} (h : ∀ y ∈ l, key y ≠ x) : byK key l x = none := by
  unfold byK
  rw [List.find?_eq_none]
  intro y hy
  simpa using h y hy
theorem insK_mem {x a : α} : ∀ {l : List α}, x ∈ insK key l a ↔ x = a ∨ x ∈ l
  | [] => by simp [insK]
  | y :: r => by
    unfold insK
    split
    · simp
    · simp only [List.mem_cons, insK_mem (l := r)]
      constructor
      · rintro (h | h | h)
        · exact .inr (.inl h)
        · exact .inl h
        · exact .inr (.inr h)
      · rintro (h | h | h)
        · exact .inr (.inl h)
        · exact .inl h
        · exact .inr (.inr h)
theorem insK_len : ∀ (l : List α) (a : α), (insK key l a).length = l.length + 1
  | [], a => rfl
  | x :: r, a => by
    unfold insK
    split
    · rfl
    · simp [insK_len r a]
theorem insK_up : ∀ {l : List α} {a : α} (_ : UpK key l) (_ : ∀ y ∈ l, key y ≠ key a), UpK key (insK key l a)
  | [], a, _, _ => by unfold insK UpK; simp
  | x :: r, a, h, hn => by
    unfold insK
    split
    · rename_i hlt
      refine List.pairwise_cons.2 ⟨fun y hy => ?_, h⟩
      rcases List.mem_cons.1 hy with e | e
      · rw [e]; exact hlt
      · exact Nat.lt_trans hlt (h.head y e)
    · rename_i hlt
      refine List.pairwise_cons.2 ⟨fun y hy => ?_, insK_up h.tail (fun y hy => hn y (List.mem_cons_of_mem _ hy))⟩
      rcases insK_mem.1 hy with e | e
      · rw [e]; have := hn x (by simp); omega
      · exact h.head y e
theorem byK_ins : ∀ {l : List α} {a : α} (_ : byK key l (key a) = none) (x : Nat), byK key (insK key l a) x = if x = key a then some a else byK key l x
  | [], a, _, x => by
    unfold insK
    rw [byK_cons, byK_nil]
    by_cases e : key a = x
    · rw [if_pos e, if_pos e.symm]
    · rw [if_neg e, if_neg (fun h => e h.symm)]
  | y :: r, a, h, x => by
    have hy : key y ≠ key a := byK_none h y (by simp)
    rw [byK_cons, if_neg hy] at h
    unfold insK
    split
    · rw [byK_cons]
      by_cases e : key a = x
      · rw [if_pos e, if_pos e.symm]
      · rw [if_neg e, if_neg (fun h => e h.symm)]
    · rw [byK_cons, byK_cons, byK_ins h x]
      by_cases e : key y = x
      · rw [if_pos e, if_pos e, if_neg (by omega)]
      · rw [if_neg e, if_neg e]
theorem repK_len (l : List α) (a : α) : (repK key l a).length = l.length := by simp [repK]
theorem repK_mem {l : List α} {a y : α} (h : y ∈ repK key l a) : y = a ∨ y ∈ l := by
  unfold repK at h
  obtain ⟨z, hz, e⟩ := List.mem_map.1 h
  by_cases e' : key z = key a
  · rw [if_pos e'] at e; exact .inl e.symm
  · rw [if_neg e'] at e; exact .inr (e ▸ hz)
theorem repK_key (l : List α) (a : α) : (repK key l a).map key = l.map key := by
  unfold repK
  rw [List.map_map]
  refine List.map_congr_left (fun y _ => ?_)
  show key (if key y = key a then a else y) = key y
  by_cases e : key y = key a
  · rw [if_pos e, e]
  · rw [if_neg e]
theorem UpK.of_keys {l m : List α} (h : UpK key l) (e : m.map key = l.map key) : UpK key m := by
  unfold UpK at *
  have h1 : (l.map key).Pairwise (· < ·) := List.pairwise_map.2 h
  rw [← e] at h1
  exact List.pairwise_map.1 h1
theorem repK_up {l : List α} (h : UpK key l) (a : α) : UpK key (repK key l a) := h.of_keys (repK_key l a)
theorem repK_far : ∀ {l : List α} {a : α} (_ : ∀ y ∈ l, key y ≠ key a), repK key l a = l
  | [], _, _ => rfl
  | y :: r, a, h => by
    show (if key y = key a then a else y) :: repK key r a = _
    rw [if_neg (h y (by simp)), repK_far (fun z hz => h z (List.mem_cons_of_mem _ hz))]
theorem byK_rep : ∀ {l : List α} {a : α} (_ : (byK key l (key a)).isSome = true) (x : Nat), byK key (repK key l a) x = if x = key a then some a else byK key l x
  | [], a, h, x => by rw [byK_nil] at h; cases h
  | y :: r, a, h, x => by
    show byK key ((if key y = key a then a else y) :: repK key r a) x = _
    rw [byK_cons, byK_cons]
    by_cases e : key y = key a
    · rw [if_pos e]
      by_cases e' : key a = x
      · rw [if_pos e', if_pos e'.symm]
      · rw [if_neg e', if_neg (fun h => e' h.symm), if_neg (by omega)]
        by_cases e2 : (byK key r (key a)).isSome = true
        · rw [byK_rep e2 x, if_neg (fun h => e' h.symm)]
        · rw [repK_far (byK_none (by simpa using e2))]
    · rw [if_neg e]
      rw [byK_cons, if_neg e] at h
      rw [byK_rep h x]
      by_cases e' : key y = x
      · rw [if_pos e', if_pos e', if_neg (by omega)]
      · rw [if_neg e', if_neg e']
theorem remK_mem {l : List α} {x : Nat} {y : α} : y ∈ remK key l x ↔ y ∈ l ∧ key y ≠ x := by
  unfold remK
  rw [List.mem_filter]
  simp
theorem remK_up {l : List α} (h : UpK key l) (x : Nat) : UpK key (remK key l x) := List.Pairwise.filter _ h
theorem byK_rem : ∀ (l : List α) (x y : Nat), byK key (remK key l x) y = if y = x then none else byK key l y
  | [], x, y => by unfold remK; simp [byK_nil]
  | z :: r, x, y => by
    have ih := byK_rem r x y
    unfold remK at ih ⊢
    rw [List.filter_cons]
    by_cases e : key z = x
    · rw [if_neg (by simp [e]), ih, byK_cons]
      by_cases e' : y = x
      · rw [if_pos e', if_pos e']
      · rw [if_neg e', if_neg e', if_neg (by omega)]
    · rw [if_pos (by simp [e]), byK_cons, byK_cons, ih]
      by_cases e' : key z = y
      · rw [if_pos e', if_pos e', if_neg (by omega)]
      · rw [if_neg e', if_neg e']
theorem remK_far {l : List α} {x : Nat} (h : ∀ y ∈ l, key y ≠ x) : remK key l x = l := by
  unfold remK
  rw [List.filter_eq_self]
  intro y hy
  simpa using h y hy
theorem remK_len : ∀ {l : List α} {x : Nat} (_ : UpK key l) (_ : (byK key l x).isSome = true), (remK key l x).length + 1 = l.length
  | [], x, _, h => by rw [byK_nil] at h; cases h
  | z :: r, x, h, hs => by
    unfold remK
    rw [List.filter_cons]
    by_cases e : key z = x
    · rw [if_neg (by simp [e])]
      have : r.filter (fun y => key y != x) = r := remK_far (l := r) (fun y hy => by have := h.head y hy; omega)
      rw [this]
      rfl
    · rw [byK_cons, if_neg e] at hs
      have := remK_len h.tail hs
      unfold remK at this
      rw [if_pos (by simp [e])]
      simp only [List.length_cons]
      omega
theorem insK_last : ∀ {l : List α} {a : α} (_ : ∀ y ∈ l, key y ≤ key a), insK key l a = l ++ [a]
  | [], a, _ => rfl
  | y :: r, a, h => by
    unfold insK
    have := h y (by simp)
    rw [if_neg (by omega), insK_last (fun z hz => h z (List.mem_cons_of_mem _ hz))]
    rfl
theorem foldl_ins_up : ∀ (l m : List α) (_ : UpK key (m ++ l)), l.foldl (insK key) m = m ++ l
  | [], m, _ => by simp
  | a :: r, m, h => by
    rw [List.foldl_cons, insK_last (fun y hy => Nat.le_of_lt ((List.pairwise_append.1 h).2.2 y hy a (by simp)))]
    rw [foldl_ins_up r (m ++ [a]) (by simpa using h)]
    simp
theorem byK_take {l : List α} (h : UpK key l) {i : Nat} {a : α} (ha : l[i]? = some a) : byK key (l.take i) (key a) = none := byK_far (fun y hy => by
  have hi := (List.getElem?_eq_some_iff.1 ha).1
  have e : l = l.take i ++ a :: l.drop (i + 1) := by
    have h1 := List.take_append_drop i l
    rw [List.drop_eq_getElem_cons hi, (List.getElem?_eq_some_iff.1 ha).2] at h1
    exact h1.symm
  unfold UpK at h
  rw [e] at h
  have := (List.pairwise_append.1 h).2.2 y hy a (by simp)
  omega)
end Keyed
end Go.Proofs.Ytcfenjpdjogmdaa
namespace Go.Proofs.Ytcfenjpdjogmdaa
open Go.RowKit

/-- A hold. -/
structure Ho where
  (id fr am : Nat)
/-- A line of the journal. -/
structure Jn where
  (sq kd fr tw am : Nat)
/-- A share. -/
structure Sh where
  (tw am : Nat)
instance : Inhabited Ho := ⟨⟨0, 0, 0⟩⟩
instance : Inhabited Jn := ⟨⟨0, 0, 0, 0, 0⟩⟩
def Ho.zero : Ho := ⟨0, 0, 0⟩
def Jn.zero : Jn := ⟨0, 0, 0, 0, 0⟩
structure Ho.In (a : Ho) : Prop where
  (h0 : a.id < 18446744073709551616) (h1 : a.fr < 18446744073709551616) (h2 : a.am < 18446744073709551616)
structure Jn.In (a : Jn) : Prop where
  (h0 : a.sq < 18446744073709551616) (h1 : a.kd < 9223372036854775808) (h2 : a.fr < 18446744073709551616) (h3 : a.tw < 18446744073709551616) (h4 : a.am < 18446744073709551616)
structure Sh.In (a : Sh) : Prop where
  (h0 : a.tw < 18446744073709551616) (h1 : a.am < 18446744073709551616)
/-- What a ledger is. -/
structure LS where
  tot : Nat
  acc : List Ac
  hol : List Ho
  nx : Nat
  rg : Nat → Jn
/-- What always holds of it. -/
structure LS.Ok (S : LS) : Prop where
  ua : UpK Ac.id S.acc
  uh : UpK Ho.id S.hol
  ia : ∀ x ∈ S.acc, x.In
  ih : ∀ x ∈ S.hol, x.In
  ca : ∀ x ∈ S.acc, x.ba ≤ x.cp
  za : ∀ x ∈ S.acc, x.id ≠ 0
  zh : ∀ x ∈ S.hol, x.id ≠ 0 ∧ x.am ≠ 0
  la : S.acc.length ≤ 64
  lh : S.hol.length ≤ 64
  n0 : 1 ≤ S.nx
  n1 : S.nx ≤ 4611686018427387904
  ij : ∀ k, (S.rg k).In
/-- There is no room for n lines. -/
def LS.full (S : LS) (n : Nat) : Bool := decide (4611686018427387904 - S.nx < n)
def LS.line (S : LS) (kd fr tw am : Nat) : LS := { S with nx := S.nx + 1, rg := fun k => if k = S.nx % 64 then ⟨S.nx, kd, fr, tw, am⟩ else S.rg k }
def LS.setA (S : LS) (a : Ac) : LS := { S with acc := repK Ac.id S.acc a }
def LS.setH (S : LS) (h : Ho) : LS := { S with hol := if h.am = 0 then remK Ho.id S.hol h.id else repK Ho.id S.hol h }
def LS.creates (S : LS) (id ow cp : Nat) : Nat × LS :=
  if id = 0 then (40, S) else if (byK Ac.id S.acc id).isSome = true then (41, S) else if 64 ≤ S.acc.length ∨ S.full 1 = true then (43, S) else (0, ({ S with acc := insK Ac.id S.acc ⟨id, ow, 0, cp⟩ } : LS).line 1 id 0 cp)
def LS.closes (S : LS) (id : Nat) : Nat × LS :=
  if id = 0 then (40, S) else match byK Ac.id S.acc id with
  | none => (42, S)
  | some a => if a.ba ≠ 0 ∨ S.hol.any (fun h => h.fr == id) = true then (48, S) else if S.full 1 = true then (43, S) else (0, ({ S with acc := remK Ac.id S.acc id } : LS).line 2 id 0 0)
def LS.moves (S : LS) (f t m : Nat) : Nat × LS :=
  if f = 0 ∨ t = 0 then (40, S) else match byK Ac.id S.acc f, byK Ac.id S.acc t with
  | some a, some b => if f = t then (45, S) else if m = 0 then (44, S) else if a.ba < m then (46, S) else if b.cp - b.ba < m then (47, S) else if S.full 1 = true then (43, S) else (0, ((S.setA { a with ba := a.ba - m }).setA { b with ba := b.ba + m }).line 3 f t m)
  | _, _ => (42, S)
def LS.holds (S : LS) (h f m : Nat) : Nat × LS :=
  if h = 0 ∨ f = 0 then (40, S) else if (byK Ho.id S.hol h).isSome = true then (41, S) else match byK Ac.id S.acc f with
  | none => (42, S)
  | some a => if m = 0 then (44, S) else if a.ba < m then (46, S) else if 64 ≤ S.hol.length ∨ S.full 1 = true then (43, S) else (0, ({ S.setA { a with ba := a.ba - m } with hol := insK Ho.id S.hol ⟨h, f, m⟩ } : LS).line 4 f h m)
/-- A payment out of a hold that is there, to an account that is there. -/
def LS.paysOut (S : LS) (h t m : Nat) : LS :=
  let x := (byK Ho.id S.hol h).getD Ho.zero
  let a := (byK Ac.id S.acc t).getD ⟨0, 0, 0, 0⟩
  ((S.setH { x with am := x.am - m }).setA { a with ba := a.ba + m }).line 5 h t m
def LS.pays (S : LS) (h t m : Nat) : Nat × LS :=
  if h = 0 ∨ t = 0 then (40, S) else match byK Ho.id S.hol h, byK Ac.id S.acc t with
  | some x, some a => if m = 0 then (44, S) else if x.am < m then (46, S) else if a.cp - a.ba < m then (47, S) else if S.full 1 = true then (43, S) else (0, S.paysOut h t m)
  | _, _ => (42, S)
/-- What is wrong with a share alone. -/
def LS.share (S : LS) (s : Sh) : Nat := if s.tw = 0 then 40 else if (byK Ac.id S.acc s.tw).isSome = false then 42 else if s.am = 0 then 44 else 0
/-- The first fault of the shares, each alone. -/
def LS.shares (S : LS) : List Sh → Nat
  | [] => 0
  | s :: r => if S.share s ≠ 0 then S.share s else LS.shares S r
def shSum (l : List Sh) : Nat := (l.map Sh.am).sum
/-- What an account gets of the shares. -/
def shOf (l : List Sh) (x : Nat) : Nat := ((l.filter (fun s => s.tw == x)).map Sh.am).sum
/-- The accounts may have what they get. -/
def LS.fit (S : LS) (l : List Sh) : Bool := S.acc.all (fun a => decide (shOf l a.id ≤ a.cp - a.ba))
def LS.settles (S : LS) (h : Nat) (l : List Sh) : Nat × LS :=
  if h = 0 then (40, S) else match byK Ho.id S.hol h with
  | none => (42, S)
  | some x => if l.length = 0 ∨ 16 < l.length then (49, S) else if S.shares l ≠ 0 then (S.shares l, S) else if shSum l ≠ x.am then (49, S) else if S.fit l = false then (47, S) else if S.full l.length = true then (43, S) else (0, l.foldl (fun S s => S.paysOut h s.tw s.am) S)
theorem LS.Ok.line {S : LS} (h : S.Ok) (hf : S.full 1 = false) {kd fr tw am : Nat} (h1 : kd < 9223372036854775808) (h2 : fr < 18446744073709551616) (h3 : tw < 18446744073709551616) (h4 : am < 18446744073709551616) : (S.line kd fr tw am).Ok := by
  have hn : ¬ 4611686018427387904 - S.nx < 1 := by unfold LS.full at hf; simpa using hf
  have := h.n0
  have := h.n1
  refine ⟨h.ua, h.uh, h.ia, h.ih, h.ca, h.za, h.zh, h.la, h.lh, ?_, ?_, fun k => ?_⟩
  · show 1 ≤ S.nx + 1; omega
  · show S.nx + 1 ≤ _; omega
  · show (if k = S.nx % 64 then (⟨S.nx, kd, fr, tw, am⟩ : Jn) else S.rg k).In
    split
    · exact ⟨by show S.nx < _; omega, h1, h2, h3, h4⟩
    · exact h.ij k
theorem LS.Ok.setA {S : LS} (h : S.Ok) {a : Ac} (hi : a.In) (hc : a.ba ≤ a.cp) (hz : a.id ≠ 0) : (S.setA a).Ok := by
  refine ⟨repK_up h.ua a, h.uh, fun x hx => ?_, h.ih, fun x hx => ?_, fun x hx => ?_, h.zh, by show (repK Ac.id S.acc a).length ≤ 64; rw [repK_len]; exact h.la, h.lh, h.n0, h.n1, h.ij⟩
  · rcases repK_mem hx with e | e
    · rw [e]; exact hi
    · exact h.ia x e
  · rcases repK_mem hx with e | e
    · rw [e]; exact hc
    · exact h.ca x e
  · rcases repK_mem hx with e | e
    · rw [e]; exact hz
    · exact h.za x e
theorem LS.Ok.setH {S : LS} (h : S.Ok) {a : Ho} (hi : a.In) (hz : a.id ≠ 0) : (S.setH a).Ok := by
  by_cases e0 : a.am = 0
  · have e : (S.setH a) = { S with hol := remK Ho.id S.hol a.id } := by unfold LS.setH; rw [if_pos e0]
    rw [e]
    exact ⟨h.ua, remK_up h.uh _, h.ia, fun x hx => h.ih x (remK_mem.1 hx).1, h.ca, h.za, fun x hx => h.zh x (remK_mem.1 hx).1, h.la, Nat.le_trans (List.length_filter_le _ _) h.lh, h.n0, h.n1, h.ij⟩
  · have e : (S.setH a) = { S with hol := repK Ho.id S.hol a } := by unfold LS.setH; rw [if_neg e0]
    rw [e]
    refine ⟨h.ua, repK_up h.uh a, h.ia, fun x hx => ?_, h.ca, h.za, fun x hx => ?_, h.la, by show (repK Ho.id S.hol a).length ≤ 64; rw [repK_len]; exact h.lh, h.n0, h.n1, h.ij⟩
    · rcases repK_mem hx with e | e
      · rw [e]; exact hi
      · exact h.ih x e
    · rcases repK_mem hx with e | e
      · rw [e]; exact ⟨hz, e0⟩
      · exact h.zh x e
theorem LS.Ok.insA {S : LS} (h : S.Ok) {a : Ac} (hi : a.In) (hc : a.ba ≤ a.cp) (hz : a.id ≠ 0) (hno : byK Ac.id S.acc a.id = none) (hl : S.acc.length < 64) : ({ S with acc := insK Ac.id S.acc a } : LS).Ok := by
  refine ⟨insK_up h.ua (byK_none hno), h.uh, fun x hx => ?_, h.ih, fun x hx => ?_, fun x hx => ?_, h.zh, by show (insK Ac.id S.acc a).length ≤ 64; rw [insK_len]; omega, h.lh, h.n0, h.n1, h.ij⟩
  · rcases insK_mem.1 hx with e | e
    · rw [e]; exact hi
    · exact h.ia x e
  · rcases insK_mem.1 hx with e | e
    · rw [e]; exact hc
    · exact h.ca x e
  · rcases insK_mem.1 hx with e | e
    · rw [e]; exact hz
    · exact h.za x e
theorem LS.Ok.insH {S : LS} (h : S.Ok) {a : Ho} (hi : a.In) (hz : a.id ≠ 0 ∧ a.am ≠ 0) (hno : byK Ho.id S.hol a.id = none) (hl : S.hol.length < 64) : ({ S with hol := insK Ho.id S.hol a } : LS).Ok := by
  refine ⟨h.ua, insK_up h.uh (byK_none hno), h.ia, fun x hx => ?_, h.ca, h.za, fun x hx => ?_, h.la, by show (insK Ho.id S.hol a).length ≤ 64; rw [insK_len]; omega, h.n0, h.n1, h.ij⟩
  · rcases insK_mem.1 hx with e | e
    · rw [e]; exact hi
    · exact h.ih x e
  · rcases insK_mem.1 hx with e | e
    · rw [e]; exact hz
    · exact h.zh x e
theorem LS.Ok.remA {S : LS} (h : S.Ok) (x : Nat) : ({ S with acc := remK Ac.id S.acc x } : LS).Ok :=
  ⟨remK_up h.ua _, h.uh, fun y hy => h.ia y (remK_mem.1 hy).1, h.ih, fun y hy => h.ca y (remK_mem.1 hy).1, fun y hy => h.za y (remK_mem.1 hy).1, h.zh, Nat.le_trans (List.length_filter_le _ _) h.la, h.lh, h.n0, h.n1, h.ij⟩
theorem LS.Ok.creates {S : LS} (h : S.Ok) {id ow cp : Nat} (h0 : id < 18446744073709551616) (h1 : ow < 18446744073709551616) (h2 : cp < 18446744073709551616) : (S.creates id ow cp).2.Ok := by
  unfold LS.creates
  split
  · exact h
  split
  · exact h
  split
  · exact h
  rename_i c0 c1 c2
  rw [not_or] at c2
  exact (h.insA (a := ⟨id, ow, 0, cp⟩) ⟨h0, h1, by show 0 < _; decide, h2⟩ (Nat.zero_le _) c0 (by simpa using c1) (by omega)).line (by simpa [LS.full] using c2.2) (by decide) h0 (by decide) h2
theorem LS.Ok.closes {S : LS} (h : S.Ok) {id : Nat} (h0 : id < 18446744073709551616) : (S.closes id).2.Ok := by
  unfold LS.closes
  split
  · exact h
  split
  · exact h
  split
  · exact h
  split
  · exact h
  rename_i c2
  exact (h.remA id).line (by simpa [LS.full] using c2) (by decide) h0 (by decide) (by decide)
theorem LS.Ok.moves {S : LS} (h : S.Ok) {f t m : Nat} (h0 : f < 18446744073709551616) (h1 : t < 18446744073709551616) : (S.moves f t m).2.Ok := by
  unfold LS.moves
  split
  · exact h
  split
  · rename_i a b ha hb
    obtain ⟨ma, ea⟩ := byK_mem ha
    obtain ⟨mb, eb⟩ := byK_mem hb
    have ia := h.ia a ma
    have ib := h.ia b mb
    have ca := h.ca a ma
    have cb := h.ca b mb
    have := ia.h2
    have := ib.h3
    split
    · exact h
    split
    · exact h
    split
    · exact h
    split
    · exact h
    split
    · exact h
    rename_i c5
    exact ((h.setA (a := { a with ba := a.ba - m }) ⟨ia.h0, ia.h1, by show a.ba - m < _; omega, ia.h3⟩ (by show a.ba - m ≤ a.cp; omega) (h.za a ma)).setA (a := { b with ba := b.ba + m }) ⟨ib.h0, ib.h1, by show b.ba + m < _; omega, ib.h3⟩ (by show b.ba + m ≤ b.cp; omega) (h.za b mb)).line (by simpa [LS.full, LS.setA] using c5) (by decide) h0 h1 (by omega)
  · exact h
theorem LS.Ok.holds {S : LS} (h : S.Ok) {x f m : Nat} (h0 : x < 18446744073709551616) (h1 : f < 18446744073709551616) : (S.holds x f m).2.Ok := by
  unfold LS.holds
  split
  · exact h
  rename_i c0
  split
  · exact h
  rename_i c1
  split
  · exact h
  rename_i a ha
  obtain ⟨ma, ea⟩ := byK_mem ha
  have ia := h.ia a ma
  have ca := h.ca a ma
  have := ia.h2
  split
  · exact h
  split
  · exact h
  split
  · exact h
  rename_i c2 c3 c4
  rw [not_or] at c0 c4
  exact ((h.setA (a := { a with ba := a.ba - m }) ⟨ia.h0, ia.h1, by show a.ba - m < _; omega, ia.h3⟩ (by show a.ba - m ≤ a.cp; omega) (h.za a ma)).insH (a := ⟨x, f, m⟩) ⟨h0, h1, by show m < _; omega⟩ ⟨c0.1, c2⟩ (show byK Ho.id S.hol x = none by simpa using c1) (by show S.hol.length < 64; omega)).line (by simpa [LS.full, LS.setA] using c4.2) (by decide) h1 h0 (by omega)
theorem LS.Ok.paysOut {S : LS} (h : S.Ok) {x t m : Nat} (h0 : x < 18446744073709551616) (h1 : t < 18446744073709551616) {y : Ho} {a : Ac} (hy : byK Ho.id S.hol x = some y) (ha : byK Ac.id S.acc t = some a) (hm : m ≤ a.cp - a.ba) (hf : S.full 1 = false) : (S.paysOut x t m).Ok := by
  obtain ⟨ma, ea⟩ := byK_mem ha
  obtain ⟨mh, eh⟩ := byK_mem hy
  have ia := h.ia a ma
  have iy := h.ih y mh
  have ca := h.ca a ma
  have := ia.h3
  have := iy.h2
  unfold LS.paysOut
  rw [hy, ha]
  exact ((h.setH (a := { y with am := y.am - m }) ⟨iy.h0, iy.h1, by show y.am - m < _; omega⟩ (h.zh y mh).1).setA (a := { a with ba := a.ba + m }) ⟨ia.h0, ia.h1, by show a.ba + m < _; omega, ia.h3⟩ (by show a.ba + m ≤ a.cp; omega) (h.za a ma)).line (by simpa [LS.full, LS.setA, LS.setH] using hf) (by decide) h0 h1 (by omega)
theorem LS.Ok.pays {S : LS} (h : S.Ok) {x t m : Nat} (h0 : x < 18446744073709551616) (h1 : t < 18446744073709551616) : (S.pays x t m).2.Ok := by
  unfold LS.pays
  split
  · exact h
  split
  · rename_i y a hy ha
    split
    · exact h
    split
    · exact h
    split
    · exact h
    split
    · exact h
    rename_i c3 c4
    exact h.paysOut h0 h1 hy ha (by omega) (by simpa using c4)
  · exact h
end Go.Proofs.Ytcfenjpdjogmdaa
