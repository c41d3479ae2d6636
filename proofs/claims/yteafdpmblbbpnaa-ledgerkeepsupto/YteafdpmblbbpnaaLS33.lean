import Derived.Test.YteafdpmblbbpnaaLS32
namespace Go.Proofs.Yteafdpmblbbpnaa
open Go.RowKit

def Sh.vals (s : Sh) : List Value := [.int .u64 (s.tw : Nat), .int .u64 (s.am : Nat)]
def scells : List Sh → List Value
  | [] => []
  | a :: r => a.vals ++ scells r
theorem scells_app : ∀ (l r : List Sh), scells (l ++ r) = scells l ++ scells r
  | [], r => rfl
  | a :: l, r => by show a.vals ++ scells (l ++ r) = (a.vals ++ scells l) ++ scells r; rw [scells_app l r, List.append_assoc]
theorem scells_at : ∀ {l : List Sh} {i : Nat} {a : Sh}, l[i]? = some a → ∀ (j : Nat) (v : Value), a.vals[j]? = some v → (scells l)[i * 2 + j]? = some v
  | [], i, a, h => by simp at h
  | x :: l, 0, a, h => by
    simp at h
    subst h
    intro j v hj
    have hl := (List.getElem?_eq_some_iff.1 hj).1
    show (x.vals ++ scells l)[0 * 2 + j]? = some v
    rw [Nat.zero_mul, Nat.zero_add, List.getElem?_append_left hl]
    exact hj
  | x :: l, i + 1, a, h => by
    intro j v hj
    have ih := scells_at (l := l) (i := i) (by simpa using h) j v hj
    show (x.vals ++ scells l)[(i + 1) * 2 + j]? = some v
    rw [List.getElem?_append_right (by show 2 ≤ _; omega)]
    show (scells l)[(i + 1) * 2 + j - 2]? = some v
    rw [show (i + 1) * 2 + j - 2 = i * 2 + j by omega]
    exact ih
theorem stake_step {l : List Sh} {k : Nat} {a : Sh} (h : l[k]? = some a) : scells (l.take k) ++ a.vals = scells (l.take (k + 1)) := by
  rw [List.take_add_one, h, Option.toList_some, scells_app]
  simp [scells]
theorem infoSh : (Try.prog.info? 109).map (fun i => (i.zero, i.size, i.bytes)) = some (some (.agg #[.int .u64 0, .int .u64 0]), 2, 16) := by kernel_rfl
def spareS : List Sh := [⟨160, 0⟩, ⟨161, 0⟩, ⟨162, 0⟩]
theorem spareS_step (l : List Sh) (j : Nat) (hj : j < 3) : scells (l ++ spareS.take j) ++ [.int .u64 ((160 : Int) + (j : Int)), .int .u64 0] = scells (l ++ spareS.take (j + 1)) := by
  have e : spareS.take (j + 1) = spareS.take j ++ [⟨160 + j, 0⟩] := by
    match j, hj with
    | 0, _ => rfl
    | 1, _ => rfl
    | 2, _ => rfl
  rw [e, ← List.append_assoc, scells_app (l ++ spareS.take j)]
  simp [scells, Sh.vals]
theorem shs_of_row {W : World} {base g n cap : Nat} {l r : List Sh} {m : Nat} (ho : W.ownsRow base 109 2 (.slice (some ⟨g, 0, none⟩) n cap) m (scells (l ++ r))) (hin : ∀ x ∈ l, x.In) : Shs W g 0 l := by
  refine ⟨hin, fun i x hi => ?_⟩
  have hil := (List.getElem?_eq_some_iff.1 hi).1
  have h2 : (l ++ r)[i]? = some x := by rw [List.getElem?_append_left hil]; exact hi
  have c0 := ho.cells (g := g) rfl (i * 2 + 0) _ (scells_at h2 0 _ rfl)
  have c1 := ho.cells (g := g) rfl (i * 2 + 1) _ (scells_at h2 1 _ rfl)
  rw [add_at, Nat.zero_add] at c0 c1
  rw [Nat.zero_add]
  exact ⟨c0, c1⟩
set_option maxRecDepth 10000 in
set_option maxHeartbeats 1600000 in
theorem lendS {w : World} {b off : Nat} {ao : Option Addr} (n cap : Nat) {l : List Sh} (hn : n = l.length) (hA : Shs w b off l) (hao : 0 < n → ao = some ⟨b, off, none⟩) (hbw : 0 < n → b < w.heap.size) (hle : n ≤ 8796093021952) :
    Calls Try.prog 30 #[.slice ao n cap] w fun e w' => e = .returned (.slice (some ⟨w.heap.size, 0, none⟩) n (n + 3)) ∧ Hid (w'.ownsRow w.heap.size 109 2 (.slice (some ⟨w.heap.size, 0, none⟩) (n + 3) (n + 3)) (n + 3) (scells (l ++ spareS)) ∧ Below w.heap.size w w') := by
  obtain ⟨i0, hi, hz0, hz1, hz2⟩ := info_parts infoSh
  have HA := hide hao
  have HC := hide hA
  have HB := hide hbw
  have HN := hide hn
  clear hA hao hbw hn
  go_enter Try.func30, Try.ntmps30
  go_wp2_with (first
    | (at_make; refine wpList_make_own _ rfl _ _ 33 rfl w.heap.size 109 i0 (.agg #[.int .u64 0, .int .u64 0]) 2 Try.underlying33 hi hz0 hz1 .i64 .i64 _ (n + 3) rfl rfl (by omega) (by rw [hz2]; omega) (by unfold maxLen; omega) (Nat.le_refl _) ?_; intro w0 hown0 hgrow0))
  go_loopw [3, 4] (fun v i wr => ∃ k : Nat, k ≤ n ∧ i = .int .i64 k ∧ v = .slice (some ⟨w.heap.size, 0, none⟩) k (n + 3) ∧ wr.ownsRow w.heap.size 109 2 v k (scells (l.take k)) ∧ Below w.heap.size w wr)
    (fun _ i _ => n - (intOf i).toNat)
  case atStart => exact ⟨0, by omega, rfl, rfl, hown0, (Below.refl _ _).grown hgrow0 (Nat.le_refl _) (fun k h => by cases h)⟩
  case round =>
    obtain ⟨k, hk, rfl, rfl, hown, hnx⟩ := hrel
    clear hgrow0 hown0
    have hsize := hnx.size
    by_cases hlt : k < n
    · obtain ⟨a, ha⟩ : ∃ a, l[k]? = some a := ⟨_, List.getElem?_eq_getElem (by have := HN.out; omega)⟩
      have hA' := HC.out.below hnx (fun hp => HB.out (by have := HN.out; omega))
      obtain ⟨c0, c1⟩ := hA'.at_ k a ha
      obtain rfl := HA.out (by omega)
      have HT := hide (stake_step ha)
      clear hA' ha
      obtain ⟨x0, x1⟩ := a
      go_wp2_with (first
        | (at_builtin; refine wpList_append_own_spare _ rfl (.tmp 16) (.tmp 21) 33 rfl w.heap.size 109 i0 2 Try.underlying33 hi hz1 w.heap.size k (n + 3) _ rfl (hown.alloc _) ⟨wr.heap.size, 0, none⟩ 1 1 [.int .u64 (x0 : Nat), .int .u64 (x1 : Nat)] rfl rfl (cells_newA _ _ _) (by simp [Value.oneCell']) (by omega) ?_; intro w1 hown1 hgrow1))
      go_roundw
      case rel =>
        exact ⟨k + 1, by omega, by go_num, rfl, by rw [← HT.out]; exact hown1, (hnx.alloc (by omega) _).grown hgrow1 (by simp; omega) (fun j hj => by cases hj; exact Nat.le_refl _)⟩
      case measure => simp [intOf]; omega
    · obtain rfl : k = n := by omega
      have hall : l.take k = l := by rw [HN.out, List.take_length]
      rw [hall] at hown
      go_wp2
      go_loopw [3, 5] (fun v i wr => ∃ j : Nat, j ≤ 3 ∧ i = .int .i64 j ∧ v = .slice (some ⟨w.heap.size, 0, none⟩) (k + j) (k + 3) ∧ wr.ownsRow w.heap.size 109 2 v (k + j) (scells (l ++ spareS.take j)) ∧ Below w.heap.size w wr)
        (fun _ i _ => 3 - (intOf i).toNat)
      case atStart => exact ⟨0, by omega, rfl, rfl, by rw [List.take_zero, List.append_nil]; exact hown, hnx⟩
      case round =>
        clear hown hnx hsize
        obtain ⟨j, hj, rfl, rfl, hown, hnx⟩ := hrel
        have hsize := hnx.size
        by_cases hj4 : j < 3
        · have HT := hide (spareS_step l j hj4)
          go_wp2_with (first
            | (at_builtin; refine wpList_append_own_spare _ rfl (.tmp 27) (.tmp 32) 33 rfl w.heap.size 109 i0 2 Try.underlying33 hi hz1 w.heap.size (k + j) (k + 3) _ rfl (hown.alloc _) ⟨wr.heap.size, 0, none⟩ 1 1 [.int .u64 ((160 : Int) + (j : Int)), .int .u64 0] rfl rfl (cells_newA _ _ _) (by simp [Value.oneCell']) (by omega) ?_; intro w1 hown1 hgrow1))
          go_roundw
          case rel =>
            exact ⟨j + 1, by omega, by go_num, by rw [Nat.add_assoc], by rw [← Nat.add_assoc, ← HT.out]; exact hown1, (hnx.alloc (by omega) _).grown hgrow1 (by simp; omega) (fun j hj => by cases hj; exact Nat.le_refl _)⟩
          case measure => simp [intOf]; omega
        · obtain rfl : j = 3 := by omega
          go_wp2
          go_ret
          exact ⟨rfl, hown, hnx⟩
end Go.Proofs.Yteafdpmblbbpnaa
namespace Go.Proofs.Yteafdpmblbbpnaa
open Go.RowKit

theorem LS.step_no {S T : LS} {k a b c : Nat} {l : List Sh} {d : Nat} (hS : S.step k a b c l = (d, T)) (hd : d ≠ 0) : T = S := by
  have fin : ∀ {x : Nat × LS}, x = (d, T) → x = (0, T) → T = S := fun e1 e2 => absurd (congrArg Prod.fst (e1.symm.trans e2)) hd
  unfold LS.step at hS
  repeat' split at hS
  · unfold LS.creates at hS
    repeat' split at hS
    all_goals first | (cases hS; rfl) | (cases hS; exact absurd rfl hd)
  · unfold LS.closes at hS
    repeat' split at hS
    all_goals first | (cases hS; rfl) | (cases hS; exact absurd rfl hd)
  · unfold LS.moves at hS
    repeat' split at hS
    all_goals first | (cases hS; rfl) | (cases hS; exact absurd rfl hd)
  · unfold LS.holds at hS
    repeat' split at hS
    all_goals first | (cases hS; rfl) | (cases hS; exact absurd rfl hd)
  · unfold LS.pays at hS
    repeat' split at hS
    all_goals first | (cases hS; rfl) | (cases hS; exact absurd rfl hd)
  · unfold LS.settles at hS
    repeat' split at hS
    all_goals first | (cases hS; rfl) | (cases hS; exact absurd rfl hd)
end Go.Proofs.Yteafdpmblbbpnaa
namespace Go.Proofs.Yteafdpmblbbpnaa
open Go.RowKit

/-- Holds as they lie. -/
structure Hos (W : World) (b off : Nat) (l : List Ho) : Prop where
  ok : ∀ x ∈ l, x.In
  at_ : ∀ (i : Nat) (x : Ho), l[i]? = some x → W.cell? ⟨b, off + i * 3, none⟩ = some (.int .u64 (x.id : Nat)) ∧ W.cell? ⟨b, off + i * 3 + 1, none⟩ = some (.int .u64 (x.fr : Nat)) ∧ W.cell? ⟨b, off + i * 3 + 2, none⟩ = some (.int .u64 (x.am : Nat))
/-- Lines as they lie. -/
structure Jns (W : World) (b off : Nat) (l : List Jn) : Prop where
  ok : ∀ x ∈ l, x.In
  at_ : ∀ (i : Nat) (x : Jn), l[i]? = some x → W.cell? ⟨b, off + i * 5, none⟩ = some (.int .u64 (x.sq : Nat)) ∧ W.cell? ⟨b, off + i * 5 + 1, none⟩ = some (.int .i64 (x.kd : Nat)) ∧ W.cell? ⟨b, off + i * 5 + 2, none⟩ = some (.int .u64 (x.fr : Nat)) ∧ W.cell? ⟨b, off + i * 5 + 3, none⟩ = some (.int .u64 (x.tw : Nat)) ∧ W.cell? ⟨b, off + i * 5 + 4, none⟩ = some (.int .u64 (x.am : Nat))
theorem cell_same {W W' : World} {b : Nat} (h : W'.heap[b]? = W.heap[b]?) (i : Nat) : W'.cell? ⟨b, i, none⟩ = W.cell? ⟨b, i, none⟩ := by simp [World.cell?, h]
theorem Acs.same {W W' : World} {b off : Nat} {l : List Ac} (h : Acs W b off l) (hb : W'.heap[b]? = W.heap[b]?) : Acs W' b off l := ⟨h.ok, fun i x hi j v hj => (cell_same hb _).trans (h.at_ i x hi j v hj)⟩
theorem Hos.same {W W' : World} {b off : Nat} {l : List Ho} (h : Hos W b off l) (hb : W'.heap[b]? = W.heap[b]?) : Hos W' b off l := ⟨h.ok, fun i x hi => by
  obtain ⟨c0, c1, c2⟩ := h.at_ i x hi
  exact ⟨(cell_same hb _).trans c0, (cell_same hb _).trans c1, (cell_same hb _).trans c2⟩⟩
theorem Jns.same {W W' : World} {b off : Nat} {l : List Jn} (h : Jns W b off l) (hb : W'.heap[b]? = W.heap[b]?) : Jns W' b off l := ⟨h.ok, fun i x hi => by
  obtain ⟨c0, c1, c2, c3, c4⟩ := h.at_ i x hi
  exact ⟨(cell_same hb _).trans c0, (cell_same hb _).trans c1, (cell_same hb _).trans c2, (cell_same hb _).trans c3, (cell_same hb _).trans c4⟩⟩
theorem hcells_at : ∀ {l : List Ho} {i : Nat} {a : Ho}, l[i]? = some a → ∀ (j : Nat) (v : Value), a.vals[j]? = some v → (hcells l)[i * 3 + j]? = some v
  | [], i, a, h => by simp at h
  | x :: l, 0, a, h => by
    simp at h
    subst h
    intro j v hj
    have hl := (List.getElem?_eq_some_iff.1 hj).1
    show (x.vals ++ hcells l)[0 * 3 + j]? = some v
    rw [Nat.zero_mul, Nat.zero_add, List.getElem?_append_left hl]
    exact hj
  | x :: l, i + 1, a, h => by
    intro j v hj
    have ih := hcells_at (l := l) (i := i) (by simpa using h) j v hj
    show (x.vals ++ hcells l)[(i + 1) * 3 + j]? = some v
    rw [List.getElem?_append_right (by show 3 ≤ _; omega)]
    show (hcells l)[(i + 1) * 3 + j - 3]? = some v
    rw [show (i + 1) * 3 + j - 3 = i * 3 + j by omega]
    exact ih
theorem jcells_at : ∀ {l : List Jn} {i : Nat} {a : Jn}, l[i]? = some a → ∀ (j : Nat) (v : Value), a.vals[j]? = some v → (jcells l)[i * 5 + j]? = some v
  | [], i, a, h => by simp at h
  | x :: l, 0, a, h => by
    simp at h
    subst h
    intro j v hj
    have hl := (List.getElem?_eq_some_iff.1 hj).1
    show (x.vals ++ jcells l)[0 * 5 + j]? = some v
    rw [Nat.zero_mul, Nat.zero_add, List.getElem?_append_left hl]
    exact hj
  | x :: l, i + 1, a, h => by
    intro j v hj
    have ih := jcells_at (l := l) (i := i) (by simpa using h) j v hj
    show (x.vals ++ jcells l)[(i + 1) * 5 + j]? = some v
    rw [List.getElem?_append_right (by show 5 ≤ _; omega)]
    show (jcells l)[(i + 1) * 5 + j - 5]? = some v
    rw [show (i + 1) * 5 + j - 5 = i * 5 + j by omega]
    exact ih
theorem hos_of_row {W : World} {base g n cap : Nat} {l : List Ho} {m : Nat} (ho : W.ownsRow base 75 3 (.slice (some ⟨g, 0, none⟩) n cap) m (hcells l)) (hin : ∀ x ∈ l, x.In) : Hos W g 0 l := by
  refine ⟨hin, fun i x hi => ?_⟩
  have c0 := ho.cells (g := g) rfl (i * 3 + 0) _ (hcells_at hi 0 _ rfl)
  have c1 := ho.cells (g := g) rfl (i * 3 + 1) _ (hcells_at hi 1 _ rfl)
  have c2 := ho.cells (g := g) rfl (i * 3 + 2) _ (hcells_at hi 2 _ rfl)
  rw [add_at, Nat.zero_add] at c0 c1 c2
  rw [Nat.zero_add]
  exact ⟨c0, c1, c2⟩
theorem jns_of_row {W : World} {base g n cap : Nat} {l : List Jn} {m : Nat} (ho : W.ownsRow base 38 5 (.slice (some ⟨g, 0, none⟩) n cap) m (jcells l)) (hin : ∀ x ∈ l, x.In) : Jns W g 0 l := by
  refine ⟨hin, fun i x hi => ?_⟩
  have c0 := ho.cells (g := g) rfl (i * 5 + 0) _ (jcells_at hi 0 _ rfl)
  have c1 := ho.cells (g := g) rfl (i * 5 + 1) _ (jcells_at hi 1 _ rfl)
  have c2 := ho.cells (g := g) rfl (i * 5 + 2) _ (jcells_at hi 2 _ rfl)
  have c3 := ho.cells (g := g) rfl (i * 5 + 3) _ (jcells_at hi 3 _ rfl)
  have c4 := ho.cells (g := g) rfl (i * 5 + 4) _ (jcells_at hi 4 _ rfl)
  rw [add_at, Nat.zero_add] at c0 c1 c2 c3 c4
  rw [Nat.zero_add]
  exact ⟨c0, c1, c2, c3, c4⟩
/-- An image's accounts and holds, as they lie: blocks ga and gh. -/
structure Im (W : World) (A : List Ac) (H : List Ho) (ao ho : Option Addr) (ga gh : Nat) : Prop where
  ao : 0 < A.length → ao = some ⟨ga, 0, none⟩ ∧ ga < W.heap.size
  ho : 0 < H.length → ho = some ⟨gh, 0, none⟩ ∧ gh < W.heap.size
  a : Acs W ga 0 A
  h : Hos W gh 0 H
theorem Im.kept {W W' : World} {A : List Ac} {H : List Ho} {ao ho : Option Addr} {ga gh : Nat} (h : Im W A H ao ho ga gh) (hs : W.heap.size ≤ W'.heap.size) (h1 : 0 < A.length → W'.heap[ga]? = W.heap[ga]?) (h2 : 0 < H.length → W'.heap[gh]? = W.heap[gh]?) : Im W' A H ao ho ga gh := by
  refine ⟨fun hp => ⟨(h.ao hp).1, Nat.lt_of_lt_of_le (h.ao hp).2 hs⟩, fun hp => ⟨(h.ho hp).1, Nat.lt_of_lt_of_le (h.ho hp).2 hs⟩, ?_, ?_⟩
  · by_cases e : 0 < A.length
    · exact h.a.same (h1 e)
    · exact ⟨h.a.ok, fun i x hi => by have := (List.getElem?_eq_some_iff.1 hi).1; omega⟩
  · by_cases e : 0 < H.length
    · exact h.h.same (h2 e)
    · exact ⟨h.h.ok, fun i x hi => by have := (List.getElem?_eq_some_iff.1 hi).1; omega⟩
theorem Im.below {W W' : World} {A : List Ac} {H : List Ho} {ao ho : Option Addr} {ga gh : Nat} (h : Im W A H ao ho ga gh) (hb : Below W.heap.size W W') : Im W' A H ao ho ga gh := h.kept hb.size (fun hp => hb.block _ (h.ao hp).2) (fun hp => hb.block _ (h.ho hp).2)
theorem slice_inj {a a' : Option Addr} {n n' c c' : Nat} (h : Value.slice a n c = .slice a' n' c') : a = a' ∧ n = n' ∧ c = c' := by cases h; exact ⟨rfl, rfl, rfl⟩
/-- Lists that are one's own are an image's. -/
theorem im_of_rows {W : World} {base base' : Nat} {A : List Ac} {H : List Ho} {ao ho : Option Addr} {cap hcap : Nat} (ra : W.ownsRow base 50 4 (.slice ao A.length cap) A.length (acells A)) (rh : W.ownsRow base' 75 3 (.slice ho H.length hcap) H.length (hcells H)) (ia : ∀ x ∈ A, x.In) (ih : ∀ x ∈ H, x.In) : ∃ ga gh, Im W A H ao ho ga gh ∧ (0 < A.length → base ≤ ga) ∧ (0 < H.length → base' ≤ gh) := by
  have ha : ∃ ga, (0 < A.length → ao = some ⟨ga, 0, none⟩ ∧ ga < W.heap.size ∧ base ≤ ga) ∧ Acs W ga 0 A := by
    rcases ra.2 with ⟨h1, h0⟩ | ⟨g, cp, cur, h1, _, hg, _⟩
    · exact ⟨0, fun h => by omega, ia, fun i x hi => by have := (List.getElem?_eq_some_iff.1 hi).1; omega⟩
    · obtain ⟨e, _, e3⟩ := slice_inj h1
      have := ra.lt g (by rw [h1]; rfl)
      rw [e] at ra
      exact ⟨g, fun _ => ⟨e, this.2, this.1⟩, acs_of_row ra ia⟩
  have hh : ∃ gh, (0 < H.length → ho = some ⟨gh, 0, none⟩ ∧ gh < W.heap.size ∧ base' ≤ gh) ∧ Hos W gh 0 H := by
    rcases rh.2 with ⟨h1, h0⟩ | ⟨g, cp, cur, h1, _, hg, _⟩
    · exact ⟨0, fun h => by omega, ih, fun i x hi => by have := (List.getElem?_eq_some_iff.1 hi).1; omega⟩
    · obtain ⟨e, _, e3⟩ := slice_inj h1
      have := rh.lt g (by rw [h1]; rfl)
      rw [e] at rh
      exact ⟨g, fun _ => ⟨e, this.2, this.1⟩, hos_of_row rh ih⟩
  obtain ⟨ga, h1, h2⟩ := ha
  obtain ⟨gh, h3, h4⟩ := hh
  exact ⟨ga, gh, ⟨fun hp => ⟨(h1 hp).1, (h1 hp).2.1⟩, fun hp => ⟨(h3 hp).1, (h3 hp).2.1⟩, h2, h4⟩, fun hp => (h1 hp).2.2, fun hp => (h3 hp).2.2⟩
abbrev z4 : Array Value := #[.int .u64 0, .int .u64 0, .int .u64 0, .int .u64 0]
set_option maxRecDepth 10000 in
set_option maxHeartbeats 3200000 in
/-- find: the account of an image. -/
theorem findI {w : World} {A : List Ac} {H : List Ho} {ao ho : Option Addr} {ga gh : Nat} (h : Im w A H ao ho ga gh) (n cap : Nat) (hn : n = A.length) (hle : n ≤ 64) (tot nx hv jv : Value) (x : Nat) :
    Calls Try.prog 16 #[.agg #[tot, nx, .slice ao n cap, hv, jv], .int .u64 (x : Nat)] w fun e w' => e = .returned (.tuple #[.agg ((byK Ac.id A x).getD Ac.zero).arr, .bool (byK Ac.id A x).isSome]) ∧ Hid (Below w.heap.size w w') := by
  obtain ⟨W1, hW1⟩ : ∃ W1, (w.alloc (.cells #[tot, nx, .slice ao n cap, hv, jv] 31)).alloc (.cells z4 50) = W1 := ⟨_, rfl⟩
  have b1 : Below w.heap.size w W1 := by rw [← hW1]; exact ((Below.refl _ w).alloc (Nat.le_refl _) _).alloc (by simp) _
  have e1 : (w.alloc (.cells #[tot, nx, .slice ao n cap, hv, jv] 31)).heap.size = w.heap.size + 1 := by simp
  have q2 : W1.heap[w.heap.size + 1]? = some (.cells z4 50 (0, 0)) := by rw [← hW1, ← e1]; exact alloc_atK _ _
  have q1 : W1.heap[w.heap.size]? = some (.cells #[tot, nx, .slice ao n cap, hv, jv] 31 (0, 0)) := by rw [← hW1]; exact ((World.grownBy_alloc _ _ none).block _ (by simp) (by simp)).trans (alloc_atK _ _)
  have H1 := hide (h.below b1)
  have c2 := block_cell q1 2
  have cl := block_lt q1
  have cl2 := block_lt q2
  have x0 := block_cell q2 0
  have x1 := block_cell q2 1
  have x2 := block_cell q2 2
  have x3 := block_cell q2 3
  simp at x0 x1 x2 x3
  have f0 := block_free q2 0
  have f1 := block_free q2 1
  have f2 := block_free q2 2
  have f3 := block_free q2 3
  have HQ2 := hide q2
  have HB1 := hide b1
  have HN := hide hn
  simp at c2
  have HR : Hid (∀ u0 u1 u2 u3 : Value, Below w.heap.size w ((((W1.setCell ⟨w.heap.size + 1, 0, none⟩ u0).setCell ⟨w.heap.size + 1, 1, none⟩ u1).setCell ⟨w.heap.size + 1, 2, none⟩ u2).setCell ⟨w.heap.size + 1, 3, none⟩ u3)) := fun u0 u1 u2 u3 => (((b1.setCell (p := ⟨w.heap.size + 1, 0, none⟩) (by simp) _).setCell (p := ⟨w.heap.size + 1, 1, none⟩) (by simp) _).setCell (p := ⟨w.heap.size + 1, 2, none⟩) (by simp) _).setCell (p := ⟨w.heap.size + 1, 3, none⟩) (by simp) _
  clear h b1 e1 q1 q2 hn
  go_enter Try.func16, Try.ntmps16
  go_upto_region 1 with fail
  clear hW1
  go_wp2
  go_loopw [6] (fun i wr => ∃ k : Nat, k ≤ n ∧ i = .int .i64 k ∧ Hid (byK Ac.id (A.take k) x = none) ∧ wr = W1) (fun i _ => n - (intOf i).toNat)
  case atStart => exact ⟨0, by omega, rfl, rfl, rfl⟩
  case round =>
    obtain ⟨k, hk, rfl, HF, rfl⟩ := hrel
    by_cases hlt : k < n
    · obtain ⟨y, hy⟩ : ∃ y, A[k]? = some y := ⟨_, List.getElem?_eq_getElem (by have := HN.out; omega)⟩
      obtain ⟨d0, d1, d2, d3⟩ := H1.out.a.four hy
      obtain ⟨rfl, gl⟩ := H1.out.ao (by have := HN.out; omega)
      have HY := hide hy
      simp only [Nat.zero_add] at d0 d1 d2 d3
      clear hy
      by_cases hx : y.id = x
      · have HE : Hid (byK Ac.id A x = some y) := by
          have e : A = A.take k ++ (y :: A.drop (k + 1)) := by
            have h1 := List.take_append_drop k A
            have hkl := (List.getElem?_eq_some_iff.1 HY.out)
            rw [List.drop_eq_getElem_cons hkl.1, hkl.2] at h1
            exact h1.symm
          rw [e, byK_app, HF.out, byK_cons, if_pos hx]
          rfl
        have g : ((y.id : Int) == (x : Int)) = true := by simp [hx]
        clear HF HY hx
        go_wp2
        refine bodyPost_ret (v := .tuple #[.agg #[.int .u64 (y.id : Nat), .int .u64 (y.ow : Nat), .int .u64 (y.ba : Nat), .int .u64 (y.cp : Nat)], .bool true]) (by simp [results, Try.results16, go_sem, x0, x1, x2, x3]) rfl ⟨by rw [HE.out]; rfl, HR.out _ _ _ _⟩
      · have HF2 : Hid (byK Ac.id (A.take (k + 1)) x = none) := by
          rw [List.take_add_one, HY.out, byK_app, HF.out]
          show byK Ac.id [y] x = none
          rw [byK_one, if_neg hx]
        have g : ((y.id : Int) == (x : Int)) = false := by simp; omega
        clear HF HY hx
        go_wp2
        go_roundw
        case rel => exact ⟨k + 1, by omega, by go_num, HF2, trivial⟩
        case measure => simp [intOf]; omega
    · obtain rfl : k = n := by omega
      have e : A.take k = A := by rw [HN.out, List.take_length]
      have HE := HF.out
      rw [e] at HE
      have HE := hide HE
      clear HF e
      go_wp2
      refine bodyPost_ret (v := .tuple #[.agg #[.int .u64 0, .int .u64 0, .int .u64 0, .int .u64 0], .bool false]) (by simp [results, Try.results16, go_sem, x0, x1, x2, x3]) rfl ⟨by rw [HE.out]; rfl, HR.out _ _ _ _⟩
end Go.Proofs.Yteafdpmblbbpnaa
