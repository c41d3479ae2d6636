import Derived.Test.YtcfenjpdjogmdaaLT46
namespace Go.Proofs.Ytcfenjpdjogmdaa
open Go.RowKit

def spareH : List Ho := [⟨160, 0, 0⟩, ⟨161, 0, 0⟩, ⟨162, 0, 0⟩]
theorem spareH_step (l : List Ho) (j : Nat) (hj : j < 3) : hcells (l ++ spareH.take j) ++ [.int .u64 ((160 : Int) + (j : Int)), .int .u64 0, .int .u64 0] = hcells (l ++ spareH.take (j + 1)) := by
  have e : spareH.take (j + 1) = spareH.take j ++ [⟨160 + j, 0, 0⟩] := by
    match j, hj with
    | 0, _ => rfl
    | 1, _ => rfl
    | 2, _ => rfl
  rw [e, ← List.append_assoc, hcells_app (l ++ spareH.take j)]
  simp [hcells, Ho.vals]
def spareJ : List Jn := [⟨160, 0, 0, 0, 0⟩, ⟨161, 0, 0, 0, 0⟩, ⟨162, 0, 0, 0, 0⟩]
theorem spareJ_step (l : List Jn) (j : Nat) (hj : j < 3) : jcells (l ++ spareJ.take j) ++ [.int .u64 ((160 : Int) + (j : Int)), .int .i64 0, .int .u64 0, .int .u64 0, .int .u64 0] = jcells (l ++ spareJ.take (j + 1)) := by
  have e : spareJ.take (j + 1) = spareJ.take j ++ [⟨160 + j, 0, 0, 0, 0⟩] := by
    match j, hj with
    | 0, _ => rfl
    | 1, _ => rfl
    | 2, _ => rfl
  rw [e, ← List.append_assoc, jcells_app (l ++ spareJ.take j)]
  simp [jcells, Jn.vals]
set_option maxRecDepth 10000 in
set_option maxHeartbeats 1600000 in
theorem lendH {w : World} {b off : Nat} {ao : Option Addr} (n cap : Nat) {l : List Ho} (hn : n = l.length) (hA : Hos w b off l) (hao : 0 < n → ao = some ⟨b, off, none⟩ ∧ b < w.heap.size) (hle : n ≤ 5864062014805) :
    Calls Try.prog 38 #[.slice ao n cap] w fun e w' => e = .returned (.slice (some ⟨w.heap.size, 0, none⟩) n (n + 3)) ∧ Hid (w'.ownsRow w.heap.size 83 3 (.slice (some ⟨w.heap.size, 0, none⟩) (n + 3) (n + 3)) (n + 3) (hcells (l ++ spareH)) ∧ Below w.heap.size w w') := by
  obtain ⟨i0, hi, hz0, hz1, hz2⟩ := info_parts infoHold
  have HA := hide hao
  have HC : Hid (∀ V, Below w.heap.size w V → ∀ (i : Nat) (x : Ho), l[i]? = some x → V.cell? ⟨b, off + i * 3, none⟩ = some (.int .u64 (x.id : Nat)) ∧ V.cell? ⟨b, off + i * 3 + 1, none⟩ = some (.int .u64 (x.fr : Nat)) ∧ V.cell? ⟨b, off + i * 3 + 2, none⟩ = some (.int .u64 (x.am : Nat))) := fun V hV i x hx => by
    obtain ⟨c0, c1, c2⟩ := hA.at_ i x hx
    have hb := (hao (by have := (List.getElem?_eq_some_iff.1 hx).1; omega)).2
    exact ⟨(hV.cell (p := ⟨b, _, none⟩) hb).trans c0, (hV.cell (p := ⟨b, _, none⟩) hb).trans c1, (hV.cell (p := ⟨b, _, none⟩) hb).trans c2⟩
  have HN := hide hn
  clear hA hao hn
  go_enter Try.func38, Try.ntmps38
  go_wp2_with (first
    | (at_make; refine wpList_make_own _ rfl _ _ 32 rfl w.heap.size 83 i0 (.agg #[.int .u64 0, .int .u64 0, .int .u64 0]) 3 Try.underlying32 hi hz0 hz1 .i64 .i64 _ (n + 3) rfl rfl (by omega) (by rw [hz2]; omega) (by unfold maxLen; omega) (Nat.le_refl _) ?_; intro w0 hown0 hgrow0))
  go_loopw [3, 4] (fun v i wr => ∃ k : Nat, k ≤ n ∧ i = .int .i64 k ∧ v = .slice (some ⟨w.heap.size, 0, none⟩) k (n + 3) ∧ wr.ownsRow w.heap.size 83 3 v k (hcells (l.take k)) ∧ Below w.heap.size w wr)
    (fun _ i _ => n - (intOf i).toNat)
  case atStart => exact ⟨0, by omega, rfl, rfl, hown0, (Below.refl _ _).grown hgrow0 (Nat.le_refl _) (fun k h => by cases h)⟩
  case round =>
    obtain ⟨k, hk, rfl, rfl, hown, hnx⟩ := hrel
    clear hgrow0 hown0
    have hsize := hnx.size
    by_cases hlt : k < n
    · obtain ⟨a, ha⟩ : ∃ a, l[k]? = some a := ⟨_, List.getElem?_eq_getElem (by have := HN.out; omega)⟩
      obtain ⟨c0, c1, c2⟩ := HC.out wr hnx k a ha
      obtain ⟨rfl, cl0⟩ := HA.out (by omega)
      have cl : b < wr.heap.size := by omega
      have HT := hide (htake_step ha)
      clear ha cl0
      obtain ⟨x0, x1, x2⟩ := a
      go_wp2_with (first
        | (at_builtin; refine wpList_append_own_spare _ rfl (.tmp 16) (.tmp 21) 32 rfl w.heap.size 83 i0 3 Try.underlying32 hi hz1 w.heap.size k (n + 3) _ rfl (hown.alloc _) ⟨wr.heap.size, 0, none⟩ 1 1 [.int .u64 (x0 : Nat), .int .u64 (x1 : Nat), .int .u64 (x2 : Nat)] rfl rfl (cells_newA _ _ _) (by simp [Value.oneCell']) (by omega) ?_; intro w1 hown1 hgrow1))
      go_roundw
      case rel =>
        exact ⟨k + 1, by omega, by go_num, rfl, by rw [← HT.out]; exact hown1, (hnx.alloc (by omega) _).grown hgrow1 (by simp; omega) (fun j hj => by cases hj; exact Nat.le_refl _)⟩
      case measure => simp [intOf]; omega
    · obtain rfl : k = n := by omega
      have hall : l.take k = l := by rw [HN.out, List.take_length]
      rw [hall] at hown
      go_wp2
      go_loopw [3, 5] (fun v i wr => ∃ j : Nat, j ≤ 3 ∧ i = .int .i64 j ∧ v = .slice (some ⟨w.heap.size, 0, none⟩) (k + j) (k + 3) ∧ wr.ownsRow w.heap.size 83 3 v (k + j) (hcells (l ++ spareH.take j)) ∧ Below w.heap.size w wr)
        (fun _ i _ => 3 - (intOf i).toNat)
      case atStart => exact ⟨0, by omega, rfl, rfl, by rw [List.take_zero, List.append_nil]; exact hown, hnx⟩
      case round =>
        clear hown hnx hsize
        obtain ⟨j, hj, rfl, rfl, hown, hnx⟩ := hrel
        have hsize := hnx.size
        by_cases hj4 : j < 3
        · have HT := hide (spareH_step l j hj4)
          go_wp2_with (first
            | (at_builtin; refine wpList_append_own_spare _ rfl (.tmp 27) (.tmp 32) 32 rfl w.heap.size 83 i0 3 Try.underlying32 hi hz1 w.heap.size (k + j) (k + 3) _ rfl (hown.alloc _) ⟨wr.heap.size, 0, none⟩ 1 1 [.int .u64 ((160 : Int) + (j : Int)), .int .u64 0, .int .u64 0] rfl rfl (cells_newA _ _ _) (by simp [Value.oneCell']) (by omega) ?_; intro w1 hown1 hgrow1))
          go_roundw
          case rel =>
            exact ⟨j + 1, by omega, by go_num, by rw [Nat.add_assoc], by rw [← Nat.add_assoc, ← HT.out]; exact hown1, (hnx.alloc (by omega) _).grown hgrow1 (by simp; omega) (fun j hj => by cases hj; exact Nat.le_refl _)⟩
          case measure => simp [intOf]; omega
        · obtain rfl : j = 3 := by omega
          go_wp2
          go_ret
          exact ⟨rfl, hown, hnx⟩
set_option maxRecDepth 10000 in
set_option maxHeartbeats 1600000 in
theorem lendJ {w : World} {b off : Nat} {ao : Option Addr} (n cap : Nat) {l : List Jn} (hn : n = l.length) (hA : Jns w b off l) (hao : 0 < n → ao = some ⟨b, off, none⟩ ∧ b < w.heap.size) (hle : n ≤ 3518437208883) :
    Calls Try.prog 39 #[.slice ao n cap] w fun e w' => e = .returned (.slice (some ⟨w.heap.size, 0, none⟩) n (n + 3)) ∧ Hid (w'.ownsRow w.heap.size 68 5 (.slice (some ⟨w.heap.size, 0, none⟩) (n + 3) (n + 3)) (n + 3) (jcells (l ++ spareJ)) ∧ Below w.heap.size w w') := by
  obtain ⟨i0, hi, hz0, hz1, hz2⟩ := info_parts infoEnt
  have HA := hide hao
  have HC : Hid (∀ V, Below w.heap.size w V → ∀ (i : Nat) (x : Jn), l[i]? = some x → V.cell? ⟨b, off + i * 5, none⟩ = some (.int .u64 (x.sq : Nat)) ∧ V.cell? ⟨b, off + i * 5 + 1, none⟩ = some (.int .i64 (x.kd : Nat)) ∧ V.cell? ⟨b, off + i * 5 + 2, none⟩ = some (.int .u64 (x.fr : Nat)) ∧ V.cell? ⟨b, off + i * 5 + 3, none⟩ = some (.int .u64 (x.tw : Nat)) ∧ V.cell? ⟨b, off + i * 5 + 4, none⟩ = some (.int .u64 (x.am : Nat))) := fun V hV i x hx => by
    obtain ⟨c0, c1, c2, c3, c4⟩ := hA.at_ i x hx
    have hb := (hao (by have := (List.getElem?_eq_some_iff.1 hx).1; omega)).2
    exact ⟨(hV.cell (p := ⟨b, _, none⟩) hb).trans c0, (hV.cell (p := ⟨b, _, none⟩) hb).trans c1, (hV.cell (p := ⟨b, _, none⟩) hb).trans c2, (hV.cell (p := ⟨b, _, none⟩) hb).trans c3, (hV.cell (p := ⟨b, _, none⟩) hb).trans c4⟩
  have HN := hide hn
  clear hA hao hn
  go_enter Try.func39, Try.ntmps39
  go_wp2_with (first
    | (at_make; refine wpList_make_own _ rfl _ _ 33 rfl w.heap.size 68 i0 (.agg #[.int .u64 0, .int .i64 0, .int .u64 0, .int .u64 0, .int .u64 0]) 5 Try.underlying33 hi hz0 hz1 .i64 .i64 _ (n + 3) rfl rfl (by omega) (by rw [hz2]; omega) (by unfold maxLen; omega) (Nat.le_refl _) ?_; intro w0 hown0 hgrow0))
  go_loopw [3, 4] (fun v i wr => ∃ k : Nat, k ≤ n ∧ i = .int .i64 k ∧ v = .slice (some ⟨w.heap.size, 0, none⟩) k (n + 3) ∧ wr.ownsRow w.heap.size 68 5 v k (jcells (l.take k)) ∧ Below w.heap.size w wr)
    (fun _ i _ => n - (intOf i).toNat)
  case atStart => exact ⟨0, by omega, rfl, rfl, hown0, (Below.refl _ _).grown hgrow0 (Nat.le_refl _) (fun k h => by cases h)⟩
  case round =>
    obtain ⟨k, hk, rfl, rfl, hown, hnx⟩ := hrel
    clear hgrow0 hown0
    have hsize := hnx.size
    by_cases hlt : k < n
    · obtain ⟨a, ha⟩ : ∃ a, l[k]? = some a := ⟨_, List.getElem?_eq_getElem (by have := HN.out; omega)⟩
      obtain ⟨c0, c1, c2, c3, c4⟩ := HC.out wr hnx k a ha
      obtain ⟨rfl, cl0⟩ := HA.out (by omega)
      have cl : b < wr.heap.size := by omega
      have HT := hide (jtake_step ha)
      clear ha cl0
      obtain ⟨x0, x1, x2, x3, x4⟩ := a
      go_wp2_with (first
        | (at_builtin; refine wpList_append_own_spare _ rfl (.tmp 16) (.tmp 21) 33 rfl w.heap.size 68 i0 5 Try.underlying33 hi hz1 w.heap.size k (n + 3) _ rfl (hown.alloc _) ⟨wr.heap.size, 0, none⟩ 1 1 [.int .u64 (x0 : Nat), .int .i64 (x1 : Nat), .int .u64 (x2 : Nat), .int .u64 (x3 : Nat), .int .u64 (x4 : Nat)] rfl rfl (cells_newA _ _ _) (by simp [Value.oneCell']) (by omega) ?_; intro w1 hown1 hgrow1))
      go_roundw
      case rel =>
        exact ⟨k + 1, by omega, by go_num, rfl, by rw [← HT.out]; exact hown1, (hnx.alloc (by omega) _).grown hgrow1 (by simp; omega) (fun j hj => by cases hj; exact Nat.le_refl _)⟩
      case measure => simp [intOf]; omega
    · obtain rfl : k = n := by omega
      have hall : l.take k = l := by rw [HN.out, List.take_length]
      rw [hall] at hown
      go_wp2
      go_loopw [3, 5] (fun v i wr => ∃ j : Nat, j ≤ 3 ∧ i = .int .i64 j ∧ v = .slice (some ⟨w.heap.size, 0, none⟩) (k + j) (k + 3) ∧ wr.ownsRow w.heap.size 68 5 v (k + j) (jcells (l ++ spareJ.take j)) ∧ Below w.heap.size w wr)
        (fun _ i _ => 3 - (intOf i).toNat)
      case atStart => exact ⟨0, by omega, rfl, rfl, by rw [List.take_zero, List.append_nil]; exact hown, hnx⟩
      case round =>
        clear hown hnx hsize
        obtain ⟨j, hj, rfl, rfl, hown, hnx⟩ := hrel
        have hsize := hnx.size
        by_cases hj4 : j < 3
        · have HT := hide (spareJ_step l j hj4)
          go_wp2_with (first
            | (at_builtin; refine wpList_append_own_spare _ rfl (.tmp 27) (.tmp 32) 33 rfl w.heap.size 68 i0 5 Try.underlying33 hi hz1 w.heap.size (k + j) (k + 3) _ rfl (hown.alloc _) ⟨wr.heap.size, 0, none⟩ 1 1 [.int .u64 ((160 : Int) + (j : Int)), .int .i64 0, .int .u64 0, .int .u64 0, .int .u64 0] rfl rfl (cells_newA _ _ _) (by simp [Value.oneCell']) (by omega) ?_; intro w1 hown1 hgrow1))
          go_roundw
          case rel =>
            exact ⟨j + 1, by omega, by go_num, by rw [Nat.add_assoc], by rw [← Nat.add_assoc, ← HT.out]; exact hown1, (hnx.alloc (by omega) _).grown hgrow1 (by simp; omega) (fun j hj => by cases hj; exact Nat.le_refl _)⟩
          case measure => simp [intOf]; omega
        · obtain rfl : j = 3 := by omega
          go_wp2
          go_ret
          exact ⟨rfl, hown, hnx⟩
/-- A list that was lent reads as it was. -/
theorem acs_lent {W : World} {base g m : Nat} {l r : List Ac} {cap : Nat} (ho : W.ownsRow base 80 4 (.slice (some ⟨g, 0, none⟩) m cap) m (acells (l ++ r))) (hin : ∀ x ∈ l, x.In) : Acs W g 0 l := by
  refine ⟨hin, fun i x hi j v hj => ?_⟩
  have hil := (List.getElem?_eq_some_iff.1 hi).1
  have h2 : (l ++ r)[i]? = some x := by rw [List.getElem?_append_left hil]; exact hi
  have := ho.cells (g := g) rfl (i * 4 + j) v (acells_at h2 j v hj)
  rw [add_at] at this
  rw [Nat.zero_add] at this ⊢
  exact this
theorem hos_lent {W : World} {base g m : Nat} {l r : List Ho} {cap : Nat} (ho : W.ownsRow base 83 3 (.slice (some ⟨g, 0, none⟩) m cap) m (hcells (l ++ r))) (hin : ∀ x ∈ l, x.In) : Hos W g 0 l := by
  refine ⟨hin, fun i x hi => ?_⟩
  have hil := (List.getElem?_eq_some_iff.1 hi).1
  have h2 : (l ++ r)[i]? = some x := by rw [List.getElem?_append_left hil]; exact hi
  have c0 := ho.cells (g := g) rfl (i * 3 + 0) _ (hcells_at h2 0 _ rfl)
  have c1 := ho.cells (g := g) rfl (i * 3 + 1) _ (hcells_at h2 1 _ rfl)
  have c2 := ho.cells (g := g) rfl (i * 3 + 2) _ (hcells_at h2 2 _ rfl)
  rw [add_at, Nat.zero_add] at c0 c1 c2
  rw [Nat.zero_add]
  exact ⟨c0, c1, c2⟩
theorem jns_lent {W : World} {base g m : Nat} {l r : List Jn} {cap : Nat} (ho : W.ownsRow base 68 5 (.slice (some ⟨g, 0, none⟩) m cap) m (jcells (l ++ r))) (hin : ∀ x ∈ l, x.In) : Jns W g 0 l := by
  refine ⟨hin, fun i x hi => ?_⟩
  have hil := (List.getElem?_eq_some_iff.1 hi).1
  have h2 : (l ++ r)[i]? = some x := by rw [List.getElem?_append_left hil]; exact hi
  have c0 := ho.cells (g := g) rfl (i * 5 + 0) _ (jcells_at h2 0 _ rfl)
  have c1 := ho.cells (g := g) rfl (i * 5 + 1) _ (jcells_at h2 1 _ rfl)
  have c2 := ho.cells (g := g) rfl (i * 5 + 2) _ (jcells_at h2 2 _ rfl)
  have c3 := ho.cells (g := g) rfl (i * 5 + 3) _ (jcells_at h2 3 _ rfl)
  have c4 := ho.cells (g := g) rfl (i * 5 + 4) _ (jcells_at h2 4 _ rfl)
  rw [add_at, Nat.zero_add] at c0 c1 c2 c3 c4
  rw [Nat.zero_add]
  exact ⟨c0, c1, c2, c3, c4⟩
/-- An image that was lent: its lists, to their last spare place. -/
structure ImL (B : Nat) (V : World) (A : List Ac) (H : List Ho) (J : List Jn) (ga gh gj : Nat) : Prop where
  ra : V.ownsRow B 80 4 (.slice (some ⟨ga, 0, none⟩) (A.length + 3) (A.length + 3)) (A.length + 3) (acells (A ++ spareA))
  rh : V.ownsRow B 83 3 (.slice (some ⟨gh, 0, none⟩) (H.length + 3) (H.length + 3)) (H.length + 3) (hcells (H ++ spareH))
  rj : V.ownsRow B 68 5 (.slice (some ⟨gj, 0, none⟩) (J.length + 3) (J.length + 3)) (J.length + 3) (jcells (J ++ spareJ))
theorem ImL.imj {B : Nat} {V : World} {A : List Ac} {H : List Ho} {J : List Jn} {ga gh gj : Nat} (h : ImL B V A H J ga gh gj) (ia : ∀ x ∈ A, x.In) (ih : ∀ x ∈ H, x.In) (ij : ∀ x ∈ J, x.In) : ImJ V A H J (some ⟨ga, 0, none⟩) (some ⟨gh, 0, none⟩) (some ⟨gj, 0, none⟩) ga gh gj :=
  ⟨⟨fun _ => ⟨rfl, (h.ra.lt ga rfl).2⟩, fun _ => ⟨rfl, (h.rh.lt gh rfl).2⟩, acs_lent h.ra ia, hos_lent h.rh ih⟩, fun _ => ⟨rfl, (h.rj.lt gj rfl).2⟩, jns_lent h.rj ij⟩
theorem ImL.fl {B : Nat} {V V' : World} {A : List Ac} {H : List Ho} {J : List Jn} {ga gh gj : Nat} (h : ImL B V A H J ga gh gj) (hf : Fl V V') : ImL B V' A H J ga gh gj :=
  ⟨row_fl h.ra hf (by decide) (by decide) (by decide), row_fl h.rh hf (by decide) (by decide) (by decide), row_fl h.rj hf (by decide) (by decide) (by decide)⟩
end Go.Proofs.Ytcfenjpdjogmdaa
namespace Go.Proofs.Ytcfenjpdjogmdaa
open Go.RowKit

/-- lendImage under way: its copy of the image, and the place of its answer. -/
structure Lm (V : World) (q : Nat) (T0 T1 : Int) (v2 v3 v4 : Value) (W : World) : Prop where
  bel : Below V.heap.size V W
  b1 : W.heap[q]? = some (.cells #[.int .u64 T0, .int .u64 T1, v2, v3, v4] 35 (0, 0))
  b2 : W.heap[q + 1]? = some (.cells #[.int .u64 0, .int .u64 0, .slice none 0 0, .slice none 0 0, .slice none 0 0] 35 (0, 0))
theorem Lm.kept {V W W' : World} {q : Nat} {T0 T1 : Int} {v2 v3 v4 : Value} (h : Lm V q T0 T1 v2 v3 v4 W) (hb : Below W.heap.size W W') : Lm V q T0 T1 v2 v3 v4 W' :=
  ⟨h.bel.trans (hb.mono h.bel.size), (hb.block _ (block_lt h.b1)).trans h.b1, (hb.block _ (block_lt h.b2)).trans h.b2⟩
theorem Lm.set {V W : World} {q : Nat} {T0 T1 : Int} {v2 v3 v4 : Value} (h : Lm V q T0 T1 v2 v3 v4 W) (hq : V.heap.size ≤ q) (v : Value) : Lm V q T0 T1 v v3 v4 (W.setCell ⟨q, 2, none⟩ v) ∧ Lm V q T0 T1 v2 v v4 (W.setCell ⟨q, 3, none⟩ v) ∧ Lm V q T0 T1 v2 v3 v (W.setCell ⟨q, 4, none⟩ v) := by
  have key : ∀ j, Below V.heap.size V (W.setCell ⟨q, j, none⟩ v) ∧ (W.setCell ⟨q, j, none⟩ v).heap[q + 1]? = W.heap[q + 1]? := fun j => by
    have hg := grown_set W q j v
    exact ⟨h.bel.grown hg h.bel.size (fun k e => by cases e; exact hq), hg.block _ (block_lt h.b2) (fun e => by cases e)⟩
  exact ⟨⟨(key 2).1, by rw [heap_setCell_same W q 2 _ _ _ h.b1]; rfl, (key 2).2.trans h.b2⟩, ⟨(key 3).1, by rw [heap_setCell_same W q 3 _ _ _ h.b1]; rfl, (key 3).2.trans h.b2⟩, ⟨(key 4).1, by rw [heap_setCell_same W q 4 _ _ _ h.b1]; rfl, (key 4).2.trans h.b2⟩⟩
theorem Lm.c {V W : World} {q : Nat} {T0 T1 : Int} {v2 v3 v4 : Value} (h : Lm V q T0 T1 v2 v3 v4 W) : W.cell? ⟨q, 0, none⟩ = some (.int .u64 T0) ∧ W.cell? ⟨q, 1, none⟩ = some (.int .u64 T1) ∧ W.cell? ⟨q, 2, none⟩ = some v2 ∧ W.cell? ⟨q, 3, none⟩ = some v3 ∧ W.cell? ⟨q, 4, none⟩ = some v4 ∧ q < W.heap.size ∧ W.frozen? ⟨q, 2, none⟩ = false ∧ W.frozen? ⟨q, 3, none⟩ = false ∧ W.frozen? ⟨q, 4, none⟩ = false :=
  ⟨block_cell h.b1 0, block_cell h.b1 1, block_cell h.b1 2, block_cell h.b1 3, block_cell h.b1 4, block_lt h.b1, block_free h.b1 2, block_free h.b1 3, block_free h.b1 4⟩
/-- A row of other elements stays where the copy turns. -/
theorem Lm.row {V W : World} {q : Nat} {T0 T1 : Int} {v2 v3 v4 : Value} (h : Lm V q T0 T1 v2 v3 v4 W) {B s n : Nat} {t : TypeId} {x : Value} {xs : List Value} (hr : W.ownsRow B t s x n xs) (ht : t ≠ 35) (j : Nat) (v : Value) : (W.setCell ⟨q, j, none⟩ v).ownsRow B t s x n xs := row_fq hr (Fq.of (grown_set W q j v) h.b1) ht
theorem row_below {W W' : World} {B s n : Nat} {t : TypeId} {v : Value} {xs : List Value} (h : W.ownsRow B t s v n xs) (hb : Below W.heap.size W W') : W'.ownsRow B t s v n xs := row_quietT h (below_none hb)
set_option maxRecDepth 10000 in
set_option maxHeartbeats 3200000 in
/-- lendImage: a copy with lists of its own, with spare room. -/
theorem lendImC {V : World} {A : List Ac} {H : List Ho} {J : List Jn} {ao ho jo : Option Addr} {ga gh gj : Nat} (h : ImJ V A H J ao ho jo ga gh gj) (n m k cap hcap jcap : Nat) (hn : n = A.length) (hm : m = H.length) (hk : k = J.length) (hA : n ≤ 64) (hH : m ≤ 64) (hJ : k ≤ 64) (T0 T1 : Int) :
    Calls Try.prog 12 #[.agg #[.int .u64 T0, .int .u64 T1, .slice ao n cap, .slice ho m hcap, .slice jo k jcap]] V fun e V' => ∃ ga' gh' gj', e = .returned (.agg #[.int .u64 T0, .int .u64 T1, .slice (some ⟨ga', 0, none⟩) n (n + 3), .slice (some ⟨gh', 0, none⟩) m (m + 3), .slice (some ⟨gj', 0, none⟩) k (k + 3)]) ∧ Hid (ImL V.heap.size V' A H J ga' gh' gj' ∧ Below V.heap.size V V') := by
  obtain ⟨W1, hW1⟩ : ∃ W1, (V.alloc (.cells #[.int .u64 T0, .int .u64 T1, .slice ao n cap, .slice ho m hcap, .slice jo k jcap] 35)).alloc (.cells #[.int .u64 0, .int .u64 0, .slice none 0 0, .slice none 0 0, .slice none 0 0] 35) = W1 := ⟨_, rfl⟩
  obtain ⟨q, hq⟩ : ∃ q, V.heap.size = q := ⟨_, rfl⟩
  have HL1 : Hid (Lm V q T0 T1 (.slice ao n cap) (.slice ho m hcap) (.slice jo k jcap) W1) := by
    subst hW1 hq
    refine ⟨((Below.refl _ V).alloc (Nat.le_refl _) _).alloc (by simp) _, ?_, ?_⟩
    · have h1 := alloc_atK V (.cells #[.int .u64 T0, .int .u64 T1, .slice ao n cap, .slice ho m hcap, .slice jo k jcap] 35)
      exact (((Below.refl _ (V.alloc _)).alloc (Nat.le_refl _) _).block _ (block_lt h1)).trans h1
    · have h2 := alloc_atK (V.alloc (.cells #[.int .u64 T0, .int .u64 T1, .slice ao n cap, .slice ho m hcap, .slice jo k jcap] 35)) (.cells #[.int .u64 0, .int .u64 0, .slice none 0 0, .slice none 0 0, .slice none 0 0] 35)
      have e : (V.alloc (.cells #[.int .u64 T0, .int .u64 T1, .slice ao n cap, .slice ho m hcap, .slice jo k jcap] 35)).heap.size = V.heap.size + 1 := by simp
      rw [e] at h2
      exact h2
  have HQ : Hid (V.heap.size ≤ q) := hide (by omega)
  have HA : Hid (∀ W, Below V.heap.size V W → Calls Try.prog 18 #[.slice ao n cap] W fun e w' => ∃ g, e = .returned (.slice (some ⟨g, 0, none⟩) n (n + 3)) ∧ Hid (w'.ownsRow V.heap.size 80 4 (.slice (some ⟨g, 0, none⟩) (n + 3) (n + 3)) (n + 3) (acells (A ++ spareA)) ∧ Below W.heap.size W w')) := fun W hW => by
    have hI := h.below hW
    refine (lendA n cap hn hI.a (fun hp => (hI.ao (by omega)).1) (fun hp => (hI.ao (by omega)).2) (by omega)).mono ?_
    rintro e w' ⟨rfl, G⟩
    exact ⟨_, rfl, row_lower G.out.1 hW.size, G.out.2⟩
  have HH : Hid (∀ W, Below V.heap.size V W → Calls Try.prog 38 #[.slice ho m hcap] W fun e w' => ∃ g, e = .returned (.slice (some ⟨g, 0, none⟩) m (m + 3)) ∧ Hid (w'.ownsRow V.heap.size 83 3 (.slice (some ⟨g, 0, none⟩) (m + 3) (m + 3)) (m + 3) (hcells (H ++ spareH)) ∧ Below W.heap.size W w')) := fun W hW => by
    have hI := h.below hW
    refine (lendH m hcap hm hI.h (fun hp => hI.ho (by omega)) (by omega)).mono ?_
    rintro e w' ⟨rfl, G⟩
    exact ⟨_, rfl, row_lower G.out.1 hW.size, G.out.2⟩
  have HJJ : Hid (∀ W, Below V.heap.size V W → Calls Try.prog 39 #[.slice jo k jcap] W fun e w' => ∃ g, e = .returned (.slice (some ⟨g, 0, none⟩) k (k + 3)) ∧ Hid (w'.ownsRow V.heap.size 68 5 (.slice (some ⟨g, 0, none⟩) (k + 3) (k + 3)) (k + 3) (jcells (J ++ spareJ)) ∧ Below W.heap.size W w')) := fun W hW => by
    have hI := h.below hW
    refine (lendJ k jcap hk hI.j (fun hp => hI.jo_ (by omega)) (by omega)).mono ?_
    rintro e w' ⟨rfl, G⟩
    exact ⟨_, rfl, row_lower G.out.1 hW.size, G.out.2⟩
  have HW1 := hide hW1
  have HQE := hide hq
  have HNL := hide (And.intro hn (And.intro hm hk))
  clear h hW1 hq hn hm hk
  go_enter Try.func12, Try.ntmps12
  go_upto_region 1 with fail
  rw [HW1.out, HQE.out]
  clear HW1
  obtain ⟨c0, c1, c2, c3, c4, cl, f2, f3, f4⟩ := HL1.out.c
  have HC := hide (HA.out W1 HL1.out.bel)
  clear HA c0 c1
  go_wp2_with fail
  refine HC.out.mono ?_
  rintro e V2 ⟨g2, rfl, G2⟩
  clear HC c2 c3 c4 cl f2 f3 f4
  have HL2 := hide (HL1.out.kept G2.out.2)
  obtain ⟨c0, c1, c2, c3, c4, cl, f2, f3, f4⟩ := HL2.out.c
  have HL3 := hide (HL2.out.set HQ.out (.slice (some ⟨g2, 0, none⟩) n (n + 3))).1
  have HR3 := hide (HL2.out.row G2.out.1 (by decide) 2 (.slice (some ⟨g2, 0, none⟩) n (n + 3)))
  clear HL1 HL2 G2 c0 c1
  go_upto_region 2 with fail
  clear c2 c3 c4 cl f2 f3 f4
  generalize V2.setCell ⟨q, 2, none⟩ (.slice (some ⟨g2, 0, none⟩) n (n + 3)) = V3 at *
  obtain ⟨c0, c1, c2, c3, c4, cl, f2, f3, f4⟩ := HL3.out.c
  have HC := hide (HH.out V3 HL3.out.bel)
  clear HH c0 c1
  go_wp2_with fail
  refine HC.out.mono ?_
  rintro e V4 ⟨g3, rfl, G4⟩
  clear HC c2 c3 c4 cl f2 f3 f4
  have HL4 := hide (HL3.out.kept G4.out.2)
  have HR4 := hide (row_below HR3.out G4.out.2)
  obtain ⟨c0, c1, c2, c3, c4, cl, f2, f3, f4⟩ := HL4.out.c
  have HL5 := hide (HL4.out.set HQ.out (.slice (some ⟨g3, 0, none⟩) m (m + 3))).2.1
  have HR5 := hide (HL4.out.row HR4.out (by decide) 3 (.slice (some ⟨g3, 0, none⟩) m (m + 3)))
  have HS5 := hide (HL4.out.row G4.out.1 (by decide) 3 (.slice (some ⟨g3, 0, none⟩) m (m + 3)))
  clear HL3 HL4 G4 HR3 HR4 c0 c1
  go_upto_region 3 with fail
  clear c2 c3 c4 cl f2 f3 f4
  generalize V4.setCell ⟨q, 3, none⟩ (.slice (some ⟨g3, 0, none⟩) m (m + 3)) = V5 at *
  obtain ⟨c0, c1, c2, c3, c4, cl, f2, f3, f4⟩ := HL5.out.c
  have HC := hide (HJJ.out V5 HL5.out.bel)
  clear HJJ c0 c1
  go_wp2_with fail
  refine HC.out.mono ?_
  rintro e V6 ⟨g4, rfl, G6⟩
  clear HC c2 c3 c4 cl f2 f3 f4
  have HL6 := hide (HL5.out.kept G6.out.2)
  have HR6 := hide (row_below HR5.out G6.out.2)
  have HS6 := hide (row_below HS5.out G6.out.2)
  obtain ⟨c0, c1, c2, c3, c4, cl, f2, f3, f4⟩ := HL6.out.c
  have HL7 := hide (HL6.out.set HQ.out (.slice (some ⟨g4, 0, none⟩) k (k + 3))).2.2
  have HR7 := hide (HL6.out.row HR6.out (by decide) 4 (.slice (some ⟨g4, 0, none⟩) k (k + 3)))
  have HS7 := hide (HL6.out.row HS6.out (by decide) 4 (.slice (some ⟨g4, 0, none⟩) k (k + 3)))
  have HU7 := hide (HL6.out.row G6.out.1 (by decide) 4 (.slice (some ⟨g4, 0, none⟩) k (k + 3)))
  clear HL5 HL6 G6 HR5 HR6 HS5 HS6 c0 c1
  go_upto_region 4 with fail
  clear c2 c3 c4 cl f2 f3 f4
  generalize V6.setCell ⟨q, 4, none⟩ (.slice (some ⟨g4, 0, none⟩) k (k + 3)) = V7 at *
  obtain ⟨c0, c1, c2, c3, c4, cl, f2, f3, f4⟩ := HL7.out.c
  have y0 := block_cell HL7.out.b2 0
  have y1 := block_cell HL7.out.b2 1
  have y2 := block_cell HL7.out.b2 2
  have y3 := block_cell HL7.out.b2 3
  have y4 := block_cell HL7.out.b2 4
  have yl := block_lt HL7.out.b2
  have z0 := block_free HL7.out.b2 0
  have z1 := block_free HL7.out.b2 1
  have z2 := block_free HL7.out.b2 2
  have z3 := block_free HL7.out.b2 3
  have z4 := block_free HL7.out.b2 4
  simp at y0 y1 y2 y3 y4
  have HEN : Hid (ImL V.heap.size (set5 V7 (q + 1) (.int .u64 T0) (.int .u64 T1) (.slice (some ⟨g2, 0, none⟩) n (n + 3)) (.slice (some ⟨g3, 0, none⟩) m (m + 3)) (.slice (some ⟨g4, 0, none⟩) k (k + 3))) A H J g2 g3 g4 ∧ Below V.heap.size V (set5 V7 (q + 1) (.int .u64 T0) (.int .u64 T1) (.slice (some ⟨g2, 0, none⟩) n (n + 3)) (.slice (some ⟨g3, 0, none⟩) m (m + 3)) (.slice (some ⟨g4, 0, none⟩) k (k + 3)))) := by
    have hg := set5_g V7 (q + 1) (.int .u64 T0) (.int .u64 T1) (.slice (some ⟨g2, 0, none⟩) n (n + 3)) (.slice (some ⟨g3, 0, none⟩) m (m + 3)) (.slice (some ⟨g4, 0, none⟩) k (k + 3))
    have hf := Fq.of hg HL7.out.b2
    obtain ⟨rfl, rfl, rfl⟩ := HNL.out
    exact ⟨⟨row_fq HR7.out hf (by decide), row_fq HS7.out hf (by decide), row_fq HU7.out hf (by decide)⟩, HL7.out.bel.grown hg HL7.out.bel.size (fun j e => by cases e; have := HQ.out; omega)⟩
  unfold set5 at HEN
  clear HL7 HR7 HS7 HU7 HQ HNL f2 f3 f4
  go_wp2
  refine bodyPost_ret (v := .agg #[.int .u64 T0, .int .u64 T1, .slice (some ⟨g2, 0, none⟩) n (n + 3), .slice (some ⟨g3, 0, none⟩) m (m + 3), .slice (some ⟨g4, 0, none⟩) k (k + 3)]) (by simp [results, Try.results12, go_sem, y0, y1, y2, y3, y4]) rfl ⟨g2, g3, g4, rfl, HEN.out⟩
end Go.Proofs.Ytcfenjpdjogmdaa
namespace Go.Proofs.Ytcfenjpdjogmdaa
open Go.RowKit

theorem own_cutN {w : World} {B m cap sz : Nat} {t : TypeId} {ao : Option Addr} {h : Nat} {xs : List Value} (ho : w.ownsRow B t sz (.slice ao h cap) h xs) (hm : m ≤ h) : w.ownsRow B t sz (.slice ao m cap) m (xs.take (m * sz)) := by
  have hl : m * sz ≤ h * sz := Nat.mul_le_mul_right _ hm
  refine ⟨by rw [List.length_take, ho.1]; omega, ?_⟩
  rcases ho.2 with ⟨e, h0⟩ | ⟨g, cp, cur, e, hb, hc, hnc, hx, hsz, htk⟩
  · cases e
    obtain rfl : m = 0 := by omega
    exact .inl ⟨rfl, rfl⟩
  · cases e
    refine .inr ⟨g, cap, cur, rfl, hb, hc, by omega, hx, hsz, ?_⟩
    rw [← htk, List.take_take, Nat.min_eq_left hl]
section
variable {P : Program} {ops : Array Oper} {rest : List Oper} {o : Oper} {a : Act} {Q : Exit → Act → World → Prop}
/-- Appended to a list of its own: what the old list shows stays. -/
theorem wpList_append_keepN (w : World) (hgd : o.guard = none) (s x : Operand) (t : TypeId)
    (ho : o.op = .call { callee := .builtin .append, args := #[s, x], argTypes := #[t, t] })
    (base : Nat) (e : TypeId) (i : TypeInfo) (z : Value) (size bytes : Nat) (ht : P.underlying t = some (.slice e)) (hi : P.info? e = some i) (hz : i.zero = some z)
    (hsize : i.size = size) (hby : i.bytes = bytes) (hzs : z.cells.size = size) (hsz : 0 < size)
    (v : Value) (n : Nat) (xs : List Value) (hs : a.eval s = v) (hown : w.ownsRow base e size v n xs)
    (ad : Addr) (m c : Nat) (news : List Value) (hx : a.eval x = .slice (some ad) m c) (hl : news.length = m * size) (hnews : ∀ j u, news[j]? = some u → w.cell? (ad.add j) = some u) (h1 : ∀ u ∈ news, u.oneCell' = true)
    (hm : 0 < m) (h63 : n + m ≤ maxLen) (hbytes : (n + m) * bytes ≤ 140737488355328) (hbase : base ≤ w.heap.size)
    (h : ∀ v' w', w'.ownsRow base e size v' (n + m) (xs ++ news) → w.grownBy w' v.ownBlock → w'.ownsRow base e size v n xs → (∀ g, v'.ownBlock = some g → v.ownBlock = some g ∨ w.heap.size ≤ g) → wpList P ops Q rest (a.put o.dst v') w') : wpList P ops Q (o :: rest) a w := by
  rcases hown.2 with ⟨rfl, rfl⟩ | ⟨g, cap, cur, rfl, hbg, hg, hnc, hcm, hcs, htake⟩
  · have hxs : xs = [] := List.eq_nil_of_length_eq_zero (by have := hown.1; omega)
    subst hxs
    refine wpList_append_grows w hgd s x t ho e i z size bytes ht hi hz hsize hby hzs hsz none 0 0 [] hs (fun _ => ⟨rfl, rfl⟩) (by simp) (fun b hb => by cases hb) ad m c news hx hl hnews h1 (by omega) h63 hbytes ?_
    intro v' w' hown' hgrow
    refine h v' w' ?_ ⟨hgrow.os, hgrow.tape, hgrow.output, hgrow.size, hgrow.block⟩ (World.ownsRow_nil _ _ _ _) (fun g hg => .inr (hown'.lt g hg).1)
    exact row_lower hown' hbase
  · by_cases hroom : n + m ≤ cap
    · refine wpList_append_own_spare w hgd s x t ho base e i size ht hi hsize g n cap xs hs hown ad m c news hx hl hnews h1 hroom ?_
      intro w' hown' hgrow
      refine h _ w' hown' hgrow ?_ (fun g' hg' => .inl hg')
      have q := own_cutN hown' (m := n) (by omega)
      have e1 : (xs ++ news).take (n * size) = xs := by
        rw [← hown.1]
        simp
      rw [e1] at q
      exact q
    · have holds : ∀ b, some (⟨g, 0, none⟩ : Addr) = some b → ∀ j u, xs[j]? = some u → w.cell? (b.add j) = some u := by
        intro b hb j u hj
        cases hb
        exact hown.cells rfl j u hj
      refine wpList_append_grows w hgd s x t ho e i z size bytes ht hi hz hsize hby hzs hsz (some ⟨g, 0, none⟩) n cap xs hs (fun h => by cases h) hown.1 holds ad m c news hx hl hnews h1 (by omega) h63 hbytes ?_
      intro v' w' hown' hgrow
      have hb : Below w.heap.size w w' := ⟨hgrow.os, hgrow.tape, hgrow.output, hgrow.size, fun k hk => hgrow.block k hk (by simp)⟩
      exact h v' w' (row_lower hown' hbase) ⟨hgrow.os, hgrow.tape, hgrow.output, hgrow.size, fun k hk _ => hgrow.block k hk (by simp)⟩ (row_below hown hb) (fun g hg => .inr (hown'.lt g hg).1)
end
/-- A number of a row is written. -/
theorem row_set {W : World} {B s g n cap : Nat} {T : TypeId} {xs : List Value} (h : W.ownsRow B T s (.slice (some ⟨g, 0, none⟩) n cap) n xs) (j : Nat) (u : Value) : (W.setCell ⟨g, j, none⟩ u).ownsRow B T s (.slice (some ⟨g, 0, none⟩) n cap) n (xs.set j u) := by
  refine ⟨by rw [List.length_set]; exact h.1, ?_⟩
  rcases h.2 with ⟨e, _⟩ | ⟨g', cap', cur, e, hbg, hg, hnc, hcm, hcs, htake⟩
  · cases e
  · cases e
    exact .inr ⟨g, cap, _, rfl, hbg, heap_setCell_same W g j _ _ _ hg, hnc, hcm, by simpa using hcs, by rw [← htake, Array.toList_setIfInBounds, List.take_set]⟩
/-- A row's place. -/
theorem row_place {W : World} {B s n cap : Nat} {T : TypeId} {ao : Option Addr} {xs : List Value} (h : W.ownsRow B T s (.slice ao n cap) n xs) (hn : 0 < n) : ∃ g, ao = some ⟨g, 0, none⟩ ∧ B ≤ g ∧ g < W.heap.size ∧ n ≤ cap ∧ (∀ j, W.frozen? ⟨g, j, none⟩ = false) ∧ (∀ j, j < n * s → ∃ u, W.cell? ⟨g, j, none⟩ = some u) ∧ ∃ cs, W.heap[g]? = some (.cells cs T (0, 0)) ∧ ∀ (j : Nat) (u : Value), xs[j]? = some u → cs[j]? = some u := by
  rcases h.2 with ⟨_, e⟩ | ⟨g, cap', cur, e, hbg, hg, hnc, hcm, hcs, htake⟩
  · omega
  · cases e
    have key : ∀ (j : Nat) (u : Value), xs[j]? = some u → cur[j]? = some u := fun j u hj => by
      have hl := (List.getElem?_eq_some_iff.1 hj).1
      rw [h.1] at hl
      rw [← htake, List.getElem?_take, if_pos hl] at hj
      rw [← Array.getElem?_toList]
      exact hj
    refine ⟨g, rfl, hbg, block_lt hg, hnc, fun j => block_free hg j, fun j hj => ?_, cur, hg, key⟩
    have hx : j < xs.length := by rw [h.1]; exact hj
    exact ⟨_, (block_cell hg j).trans (key j _ (List.getElem?_eq_getElem hx))⟩
/-- A list that was marked, whosesoever it is. -/
def MF (T : TypeId) (s : Nat) (mv : List Value) (V : World) (n : Nat) (ao : Option Addr) (P : Nat → Prop) : Prop := 0 < n → ∃ g cs, ao = some ⟨g, 0, none⟩ ∧ P g ∧ V.heap[g]? = some (.cells cs T (0, 0)) ∧ ∀ i, i < n → ∀ j, j < s → cs[i * s + j]? = mv[j]?
/-- What stands behind its end. -/
def beh (m i n : Nat) : Nat := if i < n then m else m + (i - n + 1) * 1099511627776
/-- A list that was marked and goes on. -/
def AF (T : TypeId) (s : Nat) (mv : List Value) (m : Nat) (V : World) (B n t : Nat) (v : Value) : Prop := ∃ ys, V.ownsRow B T s v (n + t) ys ∧ (∀ i, i < n → ∀ j, j < s → ys[i * s + j]? = mv[j]?) ∧ ∀ i, n ≤ i → i < n + t → ys[i * s]? = some (.int .u64 (beh m i n : Nat))
/-- The same, whosesoever it is, when it is whole. -/
def XF (T : TypeId) (s : Nat) (mv : List Value) (m : Nat) (V : World) (n : Nat) (xo : Option Addr) (P : Nat → Prop) : Prop := ∃ g cs, xo = some ⟨g, 0, none⟩ ∧ P g ∧ V.heap[g]? = some (.cells cs T (0, 0)) ∧ (∀ i, i < n → ∀ j, j < s → cs[i * s + j]? = mv[j]?) ∧ ∀ i, n ≤ i → i < n + 64 → cs[i * s]? = some (.int .u64 (beh m i n : Nat))
section
variable {T : TypeId} {s m n : Nat} {mv : List Value} {V V' : World} {ao : Option Addr} {P P' : Nat → Prop}
theorem MF.fl (h : MF T s mv V n ao P) (hf : Fl V V') (h1 : T ≠ 77) (h2 : T ≠ 3) (h3 : T ≠ 122) : MF T s mv V' n ao P := fun hn => by
  obtain ⟨g, cs, e, hp, hg, hc⟩ := h hn
  exact ⟨g, cs, e, hp, hf.at_ _ _ _ hg h1 h2 h3, hc⟩
theorem XF.fl (h : XF T s mv m V n ao P) (hf : Fl V V') (h1 : T ≠ 77) (h2 : T ≠ 3) (h3 : T ≠ 122) : XF T s mv m V' n ao P := by
  obtain ⟨g, cs, e, hp, hg, hc⟩ := h
  exact ⟨g, cs, e, hp, hf.at_ _ _ _ hg h1 h2 h3, hc⟩
theorem MF.off (h : MF T s mv V n ao P) (hb : ∀ g, g < V.heap.size → P g → V'.heap[g]? = V.heap[g]?) : MF T s mv V' n ao P := fun hn => by
  obtain ⟨g, cs, e, hp, hg, hc⟩ := h hn
  exact ⟨g, cs, e, hp, (hb g (block_lt hg) hp).trans hg, hc⟩
theorem XF.off (h : XF T s mv m V n ao P) (hb : ∀ g, g < V.heap.size → P g → V'.heap[g]? = V.heap[g]?) : XF T s mv m V' n ao P := by
  obtain ⟨g, cs, e, hp, hg, hc⟩ := h
  exact ⟨g, cs, e, hp, (hb g (block_lt hg) hp).trans hg, hc⟩
theorem MF.imp (h : MF T s mv V n ao P) (hp : ∀ g, P g → P' g) : MF T s mv V n ao P' := fun hn => by
  obtain ⟨g, cs, e, hq, hg, hc⟩ := h hn
  exact ⟨g, cs, e, hp g hq, hg, hc⟩
theorem XF.imp (h : XF T s mv m V n ao P) (hp : ∀ g, P g → P' g) : XF T s mv m V n ao P' := by
  obtain ⟨g, cs, e, hq, hg, hc⟩ := h
  exact ⟨g, cs, e, hp g hq, hg, hc⟩
theorem AF.xf {B cap : Nat} (h : AF T s mv m V B n 64 (.slice ao (n + 64) cap)) (hp : ∀ g, ao = some ⟨g, 0, none⟩ → P g) : XF T s mv m V n ao P := by
  obtain ⟨ys, ho, h1, h2⟩ := h
  obtain ⟨g, e, _, _, _, _, _, cs, hg, hc⟩ := row_place ho (by omega)
  have hl := ho.1
  have get : ∀ i, i < n + 64 → ∀ j, j < s → ∃ u, ys[i * s + j]? = some u := fun i hi j hj => by
    have : i * s + j < ys.length := by
      rw [hl]
      have := Nat.mul_le_mul_right s (show i + 1 ≤ n + 64 by omega)
      rw [Nat.add_mul] at this
      omega
    exact ⟨_, List.getElem?_eq_getElem this⟩
  refine ⟨g, cs, e, hp g e, hg, fun i hi j hj => ?_, fun i hi hi2 => hc _ _ (h2 i hi hi2)⟩
  obtain ⟨u, hu⟩ := get i (by omega) j hj
  rw [hc _ _ hu, ← h1 i hi j hj, hu]
/-- The list is gone on by one. -/
theorem AF.app {B t : Nat} {v' : Value} {w4 : World} {ys new : List Value} (hs : 0 < s) (h1 : ∀ i, i < n → ∀ j, j < s → ys[i * s + j]? = mv[j]?) (h2 : ∀ i, n ≤ i → i < n + t → ys[i * s]? = some (.int .u64 (beh m i n : Nat))) (hl : ys.length = (n + t) * s) (ho : w4.ownsRow B T s v' (n + t + 1) (ys ++ new)) (hn0 : new[0]? = some (.int .u64 (beh m (n + t) n : Nat))) : AF T s mv m w4 B n (t + 1) v' := by
  refine ⟨_, ho, fun i hi j hj => ?_, fun i hi hi2 => ?_⟩
  · have : i * s + j < ys.length := by
      rw [hl]
      have := Nat.mul_le_mul_right s (show i + 1 ≤ n + t by omega)
      rw [Nat.add_mul] at this
      omega
    rw [List.getElem?_append_left this]
    exact h1 i hi j hj
  · by_cases e : i < n + t
    · have : i * s < ys.length := by
        rw [hl]
        exact Nat.mul_lt_mul_of_pos_right e hs
      rw [List.getElem?_append_left this]
      exact h2 i hi e
    · obtain rfl : i = n + t := by omega
      rw [List.getElem?_append_right (by omega), hl, Nat.sub_self]
      exact hn0
/-- What it went on from stays. -/
theorem MF.app {B t : Nat} {v : Value} {w4 : World} {ys : List Value} (h : MF T s mv V n ao P) (h1 : ∀ i, i < n → ∀ j, j < s → ys[i * s + j]? = mv[j]?) (hg : V.grownBy w4 v.ownBlock) (hk : w4.ownsRow B T s v (n + t) ys) : MF T s mv w4 n ao P := fun hn => by
  obtain ⟨g, cs, e, hp, hgb, hc⟩ := h hn
  by_cases q : v.ownBlock = some g
  · obtain ⟨ao2, cap2, rfl⟩ := own_form2 hk
    obtain ⟨g2, e2, _, _, _, _, _, cs2, hg2, hc2⟩ := row_place hk (by omega)
    rw [e2] at q
    cases q
    refine ⟨_, cs2, e, hp, hg2, fun i hi j hj => ?_⟩
    have hl := hk.1
    have : i * s + j < ys.length := by
      rw [hl]
      have := Nat.mul_le_mul_right s (show i + 1 ≤ n + t by omega)
      rw [Nat.add_mul] at this
      omega
    have hu := List.getElem?_eq_getElem this
    rw [hc2 _ _ hu, ← h1 i hi j hj, hu]
  · exact ⟨g, cs, e, hp, (hg.block _ (block_lt hgb) (fun e' => q e'.symm)).trans hgb, hc⟩
/-- A row whose places are all marked. -/
theorem MF.of {B cap : Nat} {xs : List Value} (ho : V.ownsRow B T s (.slice ao n cap) n xs) (h1 : ∀ i, i < n → ∀ j, j < s → xs[i * s + j]? = mv[j]?) (hp : ∀ g, ao = some ⟨g, 0, none⟩ → P g) : MF T s mv V n ao P := fun hn => by
  obtain ⟨g, e, _, _, _, _, _, cs, hg, hc⟩ := row_place ho hn
  refine ⟨g, cs, e, hp g e, hg, fun i hi j hj => ?_⟩
  have hl := ho.1
  have : i * s + j < xs.length := by
    rw [hl]
    have := Nat.mul_le_mul_right s (show i + 1 ≤ n by omega)
    rw [Nat.add_mul] at this
    omega
  have hu := List.getElem?_eq_getElem this
  rw [hc _ _ hu, ← h1 i hi j hj, hu]
end
end Go.Proofs.Ytcfenjpdjogmdaa
namespace Go.Proofs.Ytcfenjpdjogmdaa
open Go.RowKit

def mvA (m : Nat) : List Value := [.int .u64 (m : Nat), .int .u64 (m : Nat), .int .u64 (m : Nat), .int .u64 (m : Nat)]
def mvH (m : Nat) : List Value := [.int .u64 (m : Nat), .int .u64 (m : Nat), .int .u64 (m : Nat)]
def mvJ (m : Nat) : List Value := [.int .u64 (m : Nat), .int .i64 (m : Nat), .int .u64 (m : Nat), .int .u64 0, .int .u64 0]
/-- What marked may turn: the image's lists, and new memory. -/
structure FrM (V W : World) (va vh vj : Value) : Prop where
  os : W.os = V.os
  tape : W.tape = V.tape
  output : W.output = V.output
  size : V.heap.size ≤ W.heap.size
  block : ∀ k, k < V.heap.size → va.ownBlock ≠ some k → vh.ownBlock ≠ some k → vj.ownBlock ≠ some k → W.heap[k]? = V.heap[k]?
theorem FrM.start {V W : World} {va vh vj : Value} (hb : Below V.heap.size V W) : FrM V W va vh vj := ⟨hb.os, hb.tape, hb.output, hb.size, fun k hk _ _ _ => hb.block k hk⟩
theorem FrM.go {V W W' : World} {va vh vj : Value} (h : FrM V W va vh vj) {row : Option Nat} (hg : W.grownBy W' row) (hr : ∀ g, row = some g → va.ownBlock = some g ∨ vh.ownBlock = some g ∨ vj.ownBlock = some g ∨ V.heap.size ≤ g) : FrM V W' va vh vj :=
  ⟨hg.os.trans h.os, hg.tape.trans h.tape, hg.output.trans h.output, Nat.le_trans h.size hg.size, fun k hk n1 n2 n3 => (hg.block k (Nat.lt_of_lt_of_le hk h.size) (fun e => by
    rcases hr k e.symm with q | q | q | q
    · exact n1 q
    · exact n2 q
    · exact n3 q
    · omega)).trans (h.block k hk n1 n2 n3)⟩
/-- marked under way: so many places are marked. -/
structure Mq (V : World) (q B m : Nat) (T0 T1 : Int) (ao ho jo : Option Addr) (n cap nh hcap nj jcap : Nat) (ka kh kj : Nat) (W : World) : Prop where
  fr : FrM V W (.slice ao n cap) (.slice ho nh hcap) (.slice jo nj jcap)
  b1 : W.heap[q]? = some (.cells #[.int .u64 T0, .int .u64 T1, .slice ao n cap, .slice ho nh hcap, .slice jo nj jcap] 35 (0, 0))
  b2 : W.heap[q + 1]? = some (.cells #[.int .u64 0, .int .u64 0, .slice none 0 0, .slice none 0 0, .slice none 0 0, .slice none 0 0, .slice none 0 0, .slice none 0 0, .int .u64 0] 48 (0, 0))
  rA : ∃ xs, W.ownsRow B 80 4 (.slice ao n cap) n xs ∧ ∀ i, i < ka → ∀ j, j < 4 → xs[i * 4 + j]? = (mvA m)[j]?
  rH : ∃ xs, W.ownsRow B 83 3 (.slice ho nh hcap) nh xs ∧ ∀ i, i < kh → ∀ j, j < 3 → xs[i * 3 + j]? = (mvH m)[j]?
  rJ : ∃ xs, W.ownsRow B 68 5 (.slice jo nj jcap) nj xs ∧ ∀ i, i < kj → ∀ j, j < 5 → xs[i * 5 + j]? = (mvJ m)[j]?
section
variable {V W W' : World} {q B m : Nat} {T0 T1 : Int} {ao ho jo : Option Addr} {n cap nh hcap nj jcap ka kh kj : Nat}
theorem Mq.kept (h : Mq V q B m T0 T1 ao ho jo n cap nh hcap nj jcap ka kh kj W) (hb : Below W.heap.size W W') : Mq V q B m T0 T1 ao ho jo n cap nh hcap nj jcap ka kh kj W' := by
  obtain ⟨xa, a1, a2⟩ := h.rA
  obtain ⟨xh, h1, h2⟩ := h.rH
  obtain ⟨xj, j1, j2⟩ := h.rJ
  exact ⟨h.fr.go (below_none hb) (fun g e => by cases e), (hb.block _ (block_lt h.b1)).trans h.b1, (hb.block _ (block_lt h.b2)).trans h.b2, ⟨xa, row_below a1 hb, a2⟩, ⟨xh, row_below h1 hb, h2⟩, ⟨xj, row_below j1 hb, j2⟩⟩
theorem Mq.setA (h : Mq V q B m T0 T1 ao ho jo n cap nh hcap nj jcap ka kh kj W) {g : Nat} (hao : ao = some ⟨g, 0, none⟩) (hk : ka < n) : Mq V q B m T0 T1 (some ⟨g, 0, none⟩) ho jo n cap nh hcap nj jcap (ka + 1) kh kj ((((W.setCell ⟨g, ka * 4, none⟩ (.int .u64 (m : Nat))).setCell ⟨g, ka * 4 + 1, none⟩ (.int .u64 (m : Nat))).setCell ⟨g, ka * 4 + 2, none⟩ (.int .u64 (m : Nat))).setCell ⟨g, ka * 4 + 3, none⟩ (.int .u64 (m : Nat))) := by
  subst hao
  obtain ⟨xs, h1, h2⟩ := h.rA
  obtain ⟨g', e, _, hgl, _, _, _, cs, hgb, _⟩ := row_place h1 (by omega)
  cases e
  have hg : W.grownBy ((((W.setCell ⟨g, ka * 4, none⟩ (.int .u64 (m : Nat))).setCell ⟨g, ka * 4 + 1, none⟩ (.int .u64 (m : Nat))).setCell ⟨g, ka * 4 + 2, none⟩ (.int .u64 (m : Nat))).setCell ⟨g, ka * 4 + 3, none⟩ (.int .u64 (m : Nat))) (some g) := far_two (far_two (far_two (grown_set W g (ka * 4) _) (grown_set _ g (ka * 4 + 1) _)) (grown_set _ g (ka * 4 + 2) _)) (grown_set _ g (ka * 4 + 3) _)
  obtain ⟨yH, hh1, hh2⟩ := h.rH
  obtain ⟨yJ, jj1, jj2⟩ := h.rJ
  have ne : ∀ {t : Nat} {cs' : Array Value} {ty : TypeId}, W.heap[t]? = some (.cells cs' ty (0, 0)) → ty ≠ 80 → some t ≠ some g := fun {t cs' ty} ht hty e => by
    cases e
    rw [hgb] at ht
    cases ht
    exact hty rfl
  have hr := (row_set (row_set (row_set (row_set h1 (ka * 4) (.int .u64 (m : Nat))) (ka * 4 + 1) (.int .u64 (m : Nat))) (ka * 4 + 2) (.int .u64 (m : Nat))) (ka * 4 + 3) (.int .u64 (m : Nat)))
  refine ⟨h.fr.go hg (fun x e => by cases e; exact .inl rfl), (hg.block _ (block_lt h.b1) (ne h.b1 (by decide))).trans h.b1, (hg.block _ (block_lt h.b2) (ne h.b2 (by decide))).trans h.b2, ⟨_, hr, ?_⟩, ⟨yH, hh1.kept hg (.inr (rowT_ne hh1 hgb (by decide))), hh2⟩, ⟨yJ, jj1.kept hg (.inr (rowT_ne jj1 hgb (by decide))), jj2⟩⟩
  intro i hi j hj
  have hxl := h1.1
  have hb : i * 4 + 3 < xs.length ∨ i = ka := by
    by_cases hii : i = ka
    · exact .inr hii
    · exact .inl (by omega)
  have hk2 : ka * 4 + 3 < xs.length := by omega
  by_cases hii : i = ka
  · subst hii
    have hj5 : j = 0 ∨ j = 1 ∨ j = 2 ∨ j = 3 := by omega
    rcases hj5 with rfl | rfl | rfl | rfl <;> simp [List.getElem?_set, mvA] <;> omega
  · simp only [List.getElem?_set]
    repeat rw [if_neg (by omega)]
    exact h2 i (by omega) j hj
theorem Mq.setH (h : Mq V q B m T0 T1 ao ho jo n cap nh hcap nj jcap ka kh kj W) {g : Nat} (hao : ho = some ⟨g, 0, none⟩) (hk : kh < nh) : Mq V q B m T0 T1 ao (some ⟨g, 0, none⟩) jo n cap nh hcap nj jcap ka (kh + 1) kj (((W.setCell ⟨g, kh * 3, none⟩ (.int .u64 (m : Nat))).setCell ⟨g, kh * 3 + 1, none⟩ (.int .u64 (m : Nat))).setCell ⟨g, kh * 3 + 2, none⟩ (.int .u64 (m : Nat))) := by
  subst hao
  obtain ⟨xs, h1, h2⟩ := h.rH
  obtain ⟨g', e, _, hgl, _, _, _, cs, hgb, _⟩ := row_place h1 (by omega)
  cases e
  have hg : W.grownBy (((W.setCell ⟨g, kh * 3, none⟩ (.int .u64 (m : Nat))).setCell ⟨g, kh * 3 + 1, none⟩ (.int .u64 (m : Nat))).setCell ⟨g, kh * 3 + 2, none⟩ (.int .u64 (m : Nat))) (some g) := far_two (far_two (grown_set W g (kh * 3) _) (grown_set _ g (kh * 3 + 1) _)) (grown_set _ g (kh * 3 + 2) _)
  obtain ⟨yA, aa1, aa2⟩ := h.rA
  obtain ⟨yJ, jj1, jj2⟩ := h.rJ
  have ne : ∀ {t : Nat} {cs' : Array Value} {ty : TypeId}, W.heap[t]? = some (.cells cs' ty (0, 0)) → ty ≠ 83 → some t ≠ some g := fun {t cs' ty} ht hty e => by
    cases e
    rw [hgb] at ht
    cases ht
    exact hty rfl
  have hr := (row_set (row_set (row_set h1 (kh * 3) (.int .u64 (m : Nat))) (kh * 3 + 1) (.int .u64 (m : Nat))) (kh * 3 + 2) (.int .u64 (m : Nat)))
  refine ⟨h.fr.go hg (fun x e => by cases e; exact .inr (.inl rfl)), (hg.block _ (block_lt h.b1) (ne h.b1 (by decide))).trans h.b1, (hg.block _ (block_lt h.b2) (ne h.b2 (by decide))).trans h.b2, ⟨yA, aa1.kept hg (.inr (rowT_ne aa1 hgb (by decide))), aa2⟩, ⟨_, hr, ?_⟩, ⟨yJ, jj1.kept hg (.inr (rowT_ne jj1 hgb (by decide))), jj2⟩⟩
  intro i hi j hj
  have hxl := h1.1
  have hb : i * 3 + 2 < xs.length ∨ i = kh := by
    by_cases hii : i = kh
    · exact .inr hii
    · exact .inl (by omega)
  have hk2 : kh * 3 + 2 < xs.length := by omega
  by_cases hii : i = kh
  · subst hii
    have hj5 : j = 0 ∨ j = 1 ∨ j = 2 := by omega
    rcases hj5 with rfl | rfl | rfl <;> simp [List.getElem?_set, mvH] <;> omega
  · simp only [List.getElem?_set]
    repeat rw [if_neg (by omega)]
    exact h2 i (by omega) j hj
theorem Mq.setJ (h : Mq V q B m T0 T1 ao ho jo n cap nh hcap nj jcap ka kh kj W) {g : Nat} (hao : jo = some ⟨g, 0, none⟩) (hk : kj < nj) : Mq V q B m T0 T1 ao ho (some ⟨g, 0, none⟩) n cap nh hcap nj jcap ka kh (kj + 1) (((((W.setCell ⟨g, kj * 5, none⟩ (.int .u64 (m : Nat))).setCell ⟨g, kj * 5 + 1, none⟩ (.int .i64 (m : Nat))).setCell ⟨g, kj * 5 + 2, none⟩ (.int .u64 (m : Nat))).setCell ⟨g, kj * 5 + 3, none⟩ (.int .u64 0)).setCell ⟨g, kj * 5 + 4, none⟩ (.int .u64 0)) := by
  subst hao
  obtain ⟨xs, h1, h2⟩ := h.rJ
  obtain ⟨g', e, _, hgl, _, _, _, cs, hgb, _⟩ := row_place h1 (by omega)
  cases e
  have hg : W.grownBy (((((W.setCell ⟨g, kj * 5, none⟩ (.int .u64 (m : Nat))).setCell ⟨g, kj * 5 + 1, none⟩ (.int .i64 (m : Nat))).setCell ⟨g, kj * 5 + 2, none⟩ (.int .u64 (m : Nat))).setCell ⟨g, kj * 5 + 3, none⟩ (.int .u64 0)).setCell ⟨g, kj * 5 + 4, none⟩ (.int .u64 0)) (some g) := far_two (far_two (far_two (far_two (grown_set W g (kj * 5) _) (grown_set _ g (kj * 5 + 1) _)) (grown_set _ g (kj * 5 + 2) _)) (grown_set _ g (kj * 5 + 3) _)) (grown_set _ g (kj * 5 + 4) _)
  obtain ⟨yA, aa1, aa2⟩ := h.rA
  obtain ⟨yH, hh1, hh2⟩ := h.rH
  have ne : ∀ {t : Nat} {cs' : Array Value} {ty : TypeId}, W.heap[t]? = some (.cells cs' ty (0, 0)) → ty ≠ 68 → some t ≠ some g := fun {t cs' ty} ht hty e => by
    cases e
    rw [hgb] at ht
    cases ht
    exact hty rfl
  have hr := (row_set (row_set (row_set (row_set (row_set h1 (kj * 5) (.int .u64 (m : Nat))) (kj * 5 + 1) (.int .i64 (m : Nat))) (kj * 5 + 2) (.int .u64 (m : Nat))) (kj * 5 + 3) (.int .u64 0)) (kj * 5 + 4) (.int .u64 0))
  refine ⟨h.fr.go hg (fun x e => by cases e; exact .inr (.inr (.inl rfl))), (hg.block _ (block_lt h.b1) (ne h.b1 (by decide))).trans h.b1, (hg.block _ (block_lt h.b2) (ne h.b2 (by decide))).trans h.b2, ⟨yA, aa1.kept hg (.inr (rowT_ne aa1 hgb (by decide))), aa2⟩, ⟨yH, hh1.kept hg (.inr (rowT_ne hh1 hgb (by decide))), hh2⟩, ⟨_, hr, ?_⟩⟩
  intro i hi j hj
  have hxl := h1.1
  have hb : i * 5 + 4 < xs.length ∨ i = kj := by
    by_cases hii : i = kj
    · exact .inr hii
    · exact .inl (by omega)
  have hk2 : kj * 5 + 4 < xs.length := by omega
  by_cases hii : i = kj
  · subst hii
    have hj5 : j = 0 ∨ j = 1 ∨ j = 2 ∨ j = 3 ∨ j = 4 := by omega
    rcases hj5 with rfl | rfl | rfl | rfl | rfl <;> simp [List.getElem?_set, mvJ] <;> omega
  · simp only [List.getElem?_set]
    repeat rw [if_neg (by omega)]
    exact h2 i (by omega) j hj
end
end Go.Proofs.Ytcfenjpdjogmdaa
