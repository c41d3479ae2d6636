import Derived.Test.YtmbclemicfffoaaNG
import Derived.Maps.AppendAt
import Derived.Deep.DeepAppendRoom
namespace Go.Proofs.Ytmbclemicfffoaa
open Go.RowKit

/-- An account. -/
structure Ac where
  (id ow ba cp : Nat)
instance : Inhabited Ac := ⟨⟨0, 0, 0, 0⟩⟩
def Ac.vals (a : Ac) : List Value := [.int .u64 (a.id : Nat), .int .u64 (a.ow : Nat), .int .u64 (a.ba : Nat), .int .u64 (a.cp : Nat)]
structure Ac.In (a : Ac) : Prop where
  (h0 : a.id < 18446744073709551616) (h1 : a.ow < 18446744073709551616) (h2 : a.ba < 18446744073709551616) (h3 : a.cp < 18446744073709551616)
def acells : List Ac → List Value
  | [] => []
  | a :: r => a.vals ++ acells r
theorem acells_app : ∀ (l r : List Ac), acells (l ++ r) = acells l ++ acells r
  | [], r => rfl
  | a :: l, r => by show a.vals ++ acells (l ++ r) = (a.vals ++ acells l) ++ acells r; rw [acells_app l r, List.append_assoc]
theorem acells_len : ∀ (l : List Ac), (acells l).length = l.length * 4
  | [] => rfl
  | a :: l => by show (a.vals ++ acells l).length = _; rw [List.length_append, acells_len l]; show 4 + _ = (l.length + 1) * 4; omega
theorem acells_at : ∀ {l : List Ac} {i : Nat} {a : Ac}, l[i]? = some a → ∀ (j : Nat) (v : Value), a.vals[j]? = some v → (acells l)[i * 4 + j]? = some v
  | [], i, a, h => by simp at h
  | x :: l, 0, a, h => by
    simp at h
    subst h
    intro j v hj
    have hl := (List.getElem?_eq_some_iff.1 hj).1
    show (x.vals ++ acells l)[0 * 4 + j]? = some v
    rw [Nat.zero_mul, Nat.zero_add, List.getElem?_append_left hl]
    exact hj
  | x :: l, i + 1, a, h => by
    intro j v hj
    have ih := acells_at (l := l) (i := i) (by simpa using h) j v hj
    show (x.vals ++ acells l)[(i + 1) * 4 + j]? = some v
    rw [List.getElem?_append_right (by show 4 ≤ _; omega)]
    show (acells l)[(i + 1) * 4 + j - 4]? = some v
    rw [show (i + 1) * 4 + j - 4 = i * 4 + j by omega]
    exact ih
theorem acells_one : ∀ (l : List Ac), ∀ u ∈ acells l, u.oneCell' = true
  | [], u, h => by cases h
  | a :: l, u, h => by
    rcases List.mem_append.1 h with h | h
    · simp [Ac.vals] at h
      rcases h with rfl | rfl | rfl | rfl <;> rfl
    · exact acells_one l u h
/-- Accounts as they lie. -/
structure Acs (W : World) (b off : Nat) (l : List Ac) : Prop where
  ok : ∀ x ∈ l, x.In
  at_ : ∀ (i : Nat) (x : Ac), l[i]? = some x → ∀ (j : Nat) (v : Value), x.vals[j]? = some v → W.cell? ⟨b, off + i * 4 + j, none⟩ = some v
theorem Acs.below {W W' : World} {b off : Nat} {l : List Ac} (h : Acs W b off l) {B : Nat} (hb : Below B W W') (hl : 0 < l.length → b < B) : Acs W' b off l :=
  ⟨h.ok, fun i x hi j v hj => (hb.cell (p := ⟨b, _, none⟩) (hl (by have := (List.getElem?_eq_some_iff.1 hi).1; omega))).trans (h.at_ i x hi j v hj)⟩
theorem Acs.four {W : World} {b off : Nat} {l : List Ac} (h : Acs W b off l) {k : Nat} {a : Ac} (hk : l[k]? = some a) : W.cell? ⟨b, off + k * 4, none⟩ = some (.int .u64 (a.id : Nat)) ∧ W.cell? ⟨b, off + k * 4 + 1, none⟩ = some (.int .u64 (a.ow : Nat)) ∧ W.cell? ⟨b, off + k * 4 + 2, none⟩ = some (.int .u64 (a.ba : Nat)) ∧ W.cell? ⟨b, off + k * 4 + 3, none⟩ = some (.int .u64 (a.cp : Nat)) :=
  ⟨h.at_ k a hk 0 _ rfl, h.at_ k a hk 1 _ rfl, h.at_ k a hk 2 _ rfl, h.at_ k a hk 3 _ rfl⟩
/-- A row of accounts that is somebody's own. -/
theorem acs_of_row {W : World} {base g n cap : Nat} {l : List Ac} (ho : W.ownsRow base 37 4 (.slice (some ⟨g, 0, none⟩) n cap) n (acells l)) (hin : ∀ x ∈ l, x.In) : Acs W g 0 l := by
  refine ⟨hin, fun i x hi j v hj => ?_⟩
  have hil := (List.getElem?_eq_some_iff.1 hi).1
  have hj4 : j < 4 := (List.getElem?_eq_some_iff.1 hj).1
  have := ho.cells (g := g) rfl (i * 4 + j) v (acells_at hi j v hj)
  rw [add_at] at this
  rw [Nat.zero_add] at this ⊢
  exact this
theorem infoAcc : (Try.prog.info? 37).map (fun i => (i.zero, i.size, i.bytes)) = some (some (.agg #[.int .u64 0, .int .u64 0, .int .u64 0, .int .u64 0]), 4, 32) := by kernel_rfl
/-- What stands behind the end of a list that is lent. -/
def spareA : List Ac := [⟨160, 0, 0, 0⟩, ⟨161, 0, 0, 0⟩, ⟨162, 0, 0, 0⟩]
theorem spare_step (l : List Ac) (j : Nat) (hj : j < 3) : acells (l ++ spareA.take j) ++ [.int .u64 ((160 : Int) + (j : Int)), .int .u64 0, .int .u64 0, .int .u64 0] = acells (l ++ spareA.take (j + 1)) := by
  have e : spareA.take (j + 1) = spareA.take j ++ [⟨160 + j, 0, 0, 0⟩] := by
    match j, hj with
    | 0, _ => rfl
    | 1, _ => rfl
    | 2, _ => rfl
  rw [e, ← List.append_assoc, acells_app (l ++ spareA.take j)]
  simp [acells, Ac.vals]
theorem take_step {l : List Ac} {k : Nat} {a : Ac} (h : l[k]? = some a) : acells (l.take k) ++ a.vals = acells (l.take (k + 1)) := by
  rw [List.take_add_one, h, acells_app]
  rfl
theorem cells_newA (W : World) (cs : List Value) (t : TypeId) : ∀ (j : Nat) (u : Value), cs[j]? = some u → (W.alloc (.cells cs.toArray t)).cell? (Addr.add ⟨W.heap.size, 0, none⟩ j) = some u := fun j u hu => cells_newD W cs t j u hu

set_option maxRecDepth 10000 in
set_option maxHeartbeats 1600000 in
theorem lendA {w : World} {b off : Nat} {ao : Option Addr} (n cap : Nat) {l : List Ac} (hn : n = l.length) (hA : Acs w b off l) (hao : 0 < n → ao = some ⟨b, off, none⟩) (hbw : 0 < n → b < w.heap.size) (hle : n ≤ 4398046510976) :
    Calls Try.prog 8 #[.slice ao n cap] w fun e w' => e = .returned (.slice (some ⟨w.heap.size, 0, none⟩) n (n + 3)) ∧ Hid (w'.ownsRow w.heap.size 37 4 (.slice (some ⟨w.heap.size, 0, none⟩) (n + 3) (n + 3)) (n + 3) (acells (l ++ spareA)) ∧ Below w.heap.size w w') := by
  obtain ⟨i0, hi, hz0, hz1, hz2⟩ := info_parts infoAcc
  have HA := hide hao
  have HC := hide hA
  have HB := hide hbw
  have HN := hide hn
  clear hA hao hbw hn
  go_enter Try.func8, Try.ntmps8
  go_wp2_with (first
    | (at_make; refine wpList_make_own _ rfl _ _ 22 rfl w.heap.size 37 i0 (.agg #[.int .u64 0, .int .u64 0, .int .u64 0, .int .u64 0]) 4 Try.underlying22 hi hz0 hz1 .i64 .i64 _ (n + 3) rfl rfl (by omega) (by rw [hz2]; omega) (by unfold maxLen; omega) (Nat.le_refl _) ?_; intro w0 hown0 hgrow0))
  go_loopw [3, 4] (fun v i wr => ∃ k : Nat, k ≤ n ∧ i = .int .i64 k ∧ v = .slice (some ⟨w.heap.size, 0, none⟩) k (n + 3) ∧ wr.ownsRow w.heap.size 37 4 v k (acells (l.take k)) ∧ Below w.heap.size w wr)
    (fun _ i _ => n - (intOf i).toNat)
  case atStart => exact ⟨0, by omega, rfl, rfl, hown0, (Below.refl _ _).grown hgrow0 (Nat.le_refl _) (fun k h => by cases h)⟩
  case round =>
    obtain ⟨k, hk, rfl, rfl, hown, hnx⟩ := hrel
    clear hgrow0 hown0
    have hsize := hnx.size
    by_cases hlt : k < n
    · obtain ⟨a, ha⟩ : ∃ a, l[k]? = some a := ⟨_, List.getElem?_eq_getElem (by have := HN.out; omega)⟩
      have hA' := HC.out.below hnx (fun hp => HB.out (by have := HN.out; omega))
      obtain ⟨c0, c1, c2, c3⟩ := hA'.four ha
      obtain rfl := HA.out (by omega)
      have HT := hide (take_step ha)
      clear hA' ha
      obtain ⟨x0, x1, x2, x3⟩ := a
      go_wp2_with (first
        | (at_builtin; refine wpList_append_own_spare _ rfl (.tmp 16) (.tmp 21) 22 rfl w.heap.size 37 i0 4 Try.underlying22 hi hz1 w.heap.size k (n + 3) _ rfl (hown.alloc _) ⟨wr.heap.size, 0, none⟩ 1 1 [.int .u64 (x0 : Nat), .int .u64 (x1 : Nat), .int .u64 (x2 : Nat), .int .u64 (x3 : Nat)] rfl rfl (cells_newA _ _ _) (by simp [Value.oneCell']) (by omega) ?_; intro w1 hown1 hgrow1))
      go_roundw
      case rel =>
        exact ⟨k + 1, by omega, by go_num, rfl, by rw [← HT.out]; exact hown1, (hnx.alloc (by omega) _).grown hgrow1 (by simp; omega) (fun j hj => by cases hj; exact Nat.le_refl _)⟩
      case measure => simp [intOf]; omega
    · obtain rfl : k = n := by omega
      have hall : l.take k = l := by rw [HN.out, List.take_length]
      rw [hall] at hown
      go_wp2
      go_loopw [3, 5] (fun v i wr => ∃ j : Nat, j ≤ 3 ∧ i = .int .i64 j ∧ v = .slice (some ⟨w.heap.size, 0, none⟩) (k + j) (k + 3) ∧ wr.ownsRow w.heap.size 37 4 v (k + j) (acells (l ++ spareA.take j)) ∧ Below w.heap.size w wr)
        (fun _ i _ => 3 - (intOf i).toNat)
      case atStart => exact ⟨0, by omega, rfl, rfl, by rw [List.take_zero, List.append_nil]; exact hown, hnx⟩
      case round =>
        clear hown hnx hsize
        obtain ⟨j, hj, rfl, rfl, hown, hnx⟩ := hrel
        have hsize := hnx.size
        by_cases hj4 : j < 3
        · have HT := hide (spare_step l j hj4)
          go_wp2_with (first
            | (at_builtin; refine wpList_append_own_spare _ rfl (.tmp 27) (.tmp 32) 22 rfl w.heap.size 37 i0 4 Try.underlying22 hi hz1 w.heap.size (k + j) (k + 3) _ rfl (hown.alloc _) ⟨wr.heap.size, 0, none⟩ 1 1 [.int .u64 ((160 : Int) + (j : Int)), .int .u64 0, .int .u64 0, .int .u64 0] rfl rfl (cells_newA _ _ _) (by simp [Value.oneCell']) (by omega) ?_; intro w1 hown1 hgrow1))
          go_roundw
          case rel =>
            exact ⟨j + 1, by omega, by go_num, by rw [Nat.add_assoc], by rw [← Nat.add_assoc, ← HT.out]; exact hown1, (hnx.alloc (by omega) _).grown hgrow1 (by simp; omega) (fun j hj => by cases hj; exact Nat.le_refl _)⟩
          case measure => simp [intOf]; omega
        · obtain rfl : j = 3 := by omega
          go_wp2
          go_ret
          exact ⟨rfl, hown, hnx⟩
end Go.Proofs.Ytmbclemicfffoaa
