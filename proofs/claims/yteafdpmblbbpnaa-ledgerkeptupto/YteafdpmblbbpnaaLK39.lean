import Derived.Test.YteafdpmblbbpnaaLK38
namespace Go.Proofs.Yteafdpmblbbpnaa
open Go.RowKit

def Sh.vals (s : Sh) : List Value := [.int .u64 (s.tw : Nat), .int .u64 (s.am : Nat)]
def scells : List Sh → List Value
  | [] => []
  | a :: r => a.vals ++ scells r
theorem scells_app : ∀ (l r : List Sh), scells (l ++ r) = scells l ++ scells r
  | [], r => rfl
  | a :: l, r => by show a.vals ++ scells (l ++ r) = (a.vals ++ scells l) ++ scells r; rw [scells_app l r, List.append_assoc]
theorem scells_at : ∀ {l : List Sh} {i : Nat} {a : Sh}, l[i]? = some a → ∀ (j : Nat) (v : Value), a.vals[j]? = some v → (scells l)[i * 2 + j]? = some v
  | [], i, a, h => by simp at h
  | x :: l, 0, a, h => by
    simp at h
    subst h
    intro j v hj
    have hl := (List.getElem?_eq_some_iff.1 hj).1
    show (x.vals ++ scells l)[0 * 2 + j]? = some v
    rw [Nat.zero_mul, Nat.zero_add, List.getElem?_append_left hl]
    exact hj
  | x :: l, i + 1, a, h => by
    intro j v hj
    have ih := scells_at (l := l) (i := i) (by simpa using h) j v hj
    show (x.vals ++ scells l)[(i + 1) * 2 + j]? = some v
    rw [List.getElem?_append_right (by show 2 ≤ _; omega)]
    show (scells l)[(i + 1) * 2 + j - 2]? = some v
    rw [show (i + 1) * 2 + j - 2 = i * 2 + j by omega]
    exact ih
theorem stake_step {l : List Sh} {k : Nat} {a : Sh} (h : l[k]? = some a) : scells (l.take k) ++ a.vals = scells (l.take (k + 1)) := by
  rw [List.take_add_one, h, Option.toList_some, scells_app]
  simp [scells]
theorem infoSh : (Try.prog.info? 109).map (fun i => (i.zero, i.size, i.bytes)) = some (some (.agg #[.int .u64 0, .int .u64 0]), 2, 16) := by kernel_rfl
def spareS : List Sh := [⟨160, 0⟩, ⟨161, 0⟩, ⟨162, 0⟩]
theorem spareS_step (l : List Sh) (j : Nat) (hj : j < 3) : scells (l ++ spareS.take j) ++ [.int .u64 ((160 : Int) + (j : Int)), .int .u64 0] = scells (l ++ spareS.take (j + 1)) := by
  have e : spareS.take (j + 1) = spareS.take j ++ [⟨160 + j, 0⟩] := by
    match j, hj with
    | 0, _ => rfl
    | 1, _ => rfl
    | 2, _ => rfl
  rw [e, ← List.append_assoc, scells_app (l ++ spareS.take j)]
  simp [scells, Sh.vals]
theorem shs_of_row {W : World} {base g n cap : Nat} {l r : List Sh} {m : Nat} (ho : W.ownsRow base 109 2 (.slice (some ⟨g, 0, none⟩) n cap) m (scells (l ++ r))) (hin : ∀ x ∈ l, x.In) : Shs W g 0 l := by
  refine ⟨hin, fun i x hi => ?_⟩
  have hil := (List.getElem?_eq_some_iff.1 hi).1
  have h2 : (l ++ r)[i]? = some x := by rw [List.getElem?_append_left hil]; exact hi
  have c0 := ho.cells (g := g) rfl (i * 2 + 0) _ (scells_at h2 0 _ rfl)
  have c1 := ho.cells (g := g) rfl (i * 2 + 1) _ (scells_at h2 1 _ rfl)
  rw [add_at, Nat.zero_add] at c0 c1
  rw [Nat.zero_add]
  exact ⟨c0, c1⟩
set_option maxRecDepth 10000 in
set_option maxHeartbeats 1600000 in
theorem lendS {w : World} {b off : Nat} {ao : Option Addr} (n cap : Nat) {l : List Sh} (hn : n = l.length) (hA : Shs w b off l) (hao : 0 < n → ao = some ⟨b, off, none⟩) (hbw : 0 < n → b < w.heap.size) (hle : n ≤ 8796093021952) :
    Calls Try.prog 30 #[.slice ao n cap] w fun e w' => e = .returned (.slice (some ⟨w.heap.size, 0, none⟩) n (n + 3)) ∧ Hid (w'.ownsRow w.heap.size 109 2 (.slice (some ⟨w.heap.size, 0, none⟩) (n + 3) (n + 3)) (n + 3) (scells (l ++ spareS)) ∧ Below w.heap.size w w') := by
  obtain ⟨i0, hi, hz0, hz1, hz2⟩ := info_parts infoSh
  have HA := hide hao
  have HC := hide hA
  have HB := hide hbw
  have HN := hide hn
  clear hA hao hbw hn
  go_enter Try.func30, Try.ntmps30
  go_wp2_with (first
    | (at_make; refine wpList_make_own _ rfl _ _ 33 rfl w.heap.size 109 i0 (.agg #[.int .u64 0, .int .u64 0]) 2 Try.underlying33 hi hz0 hz1 .i64 .i64 _ (n + 3) rfl rfl (by omega) (by rw [hz2]; omega) (by unfold maxLen; omega) (Nat.le_refl _) ?_; intro w0 hown0 hgrow0))
  go_loopw [3, 4] (fun v i wr => ∃ k : Nat, k ≤ n ∧ i = .int .i64 k ∧ v = .slice (some ⟨w.heap.size, 0, none⟩) k (n + 3) ∧ wr.ownsRow w.heap.size 109 2 v k (scells (l.take k)) ∧ Below w.heap.size w wr)
    (fun _ i _ => n - (intOf i).toNat)
  case atStart => exact ⟨0, by omega, rfl, rfl, hown0, (Below.refl _ _).grown hgrow0 (Nat.le_refl _) (fun k h => by cases h)⟩
  case round =>
    obtain ⟨k, hk, rfl, rfl, hown, hnx⟩ := hrel
    clear hgrow0 hown0
    have hsize := hnx.size
    by_cases hlt : k < n
    · obtain ⟨a, ha⟩ : ∃ a, l[k]? = some a := ⟨_, List.getElem?_eq_getElem (by have := HN.out; omega)⟩
      have hA' := HC.out.below hnx (fun hp => HB.out (by have := HN.out; omega))
      obtain ⟨c0, c1⟩ := hA'.at_ k a ha
      obtain rfl := HA.out (by omega)
      have HT := hide (stake_step ha)
      clear hA' ha
      obtain ⟨x0, x1⟩ := a
      go_wp2_with (first
        | (at_builtin; refine wpList_append_own_spare _ rfl (.tmp 16) (.tmp 21) 33 rfl w.heap.size 109 i0 2 Try.underlying33 hi hz1 w.heap.size k (n + 3) _ rfl (hown.alloc _) ⟨wr.heap.size, 0, none⟩ 1 1 [.int .u64 (x0 : Nat), .int .u64 (x1 : Nat)] rfl rfl (cells_newA _ _ _) (by simp [Value.oneCell']) (by omega) ?_; intro w1 hown1 hgrow1))
      go_roundw
      case rel =>
        exact ⟨k + 1, by omega, by go_num, rfl, by rw [← HT.out]; exact hown1, (hnx.alloc (by omega) _).grown hgrow1 (by simp; omega) (fun j hj => by cases hj; exact Nat.le_refl _)⟩
      case measure => simp [intOf]; omega
    · obtain rfl : k = n := by omega
      have hall : l.take k = l := by rw [HN.out, List.take_length]
      rw [hall] at hown
      go_wp2
      go_loopw [3, 5] (fun v i wr => ∃ j : Nat, j ≤ 3 ∧ i = .int .i64 j ∧ v = .slice (some ⟨w.heap.size, 0, none⟩) (k + j) (k + 3) ∧ wr.ownsRow w.heap.size 109 2 v (k + j) (scells (l ++ spareS.take j)) ∧ Below w.heap.size w wr)
        (fun _ i _ => 3 - (intOf i).toNat)
      case atStart => exact ⟨0, by omega, rfl, rfl, by rw [List.take_zero, List.append_nil]; exact hown, hnx⟩
      case round =>
        clear hown hnx hsize
        obtain ⟨j, hj, rfl, rfl, hown, hnx⟩ := hrel
        have hsize := hnx.size
        by_cases hj4 : j < 3
        · have HT := hide (spareS_step l j hj4)
          go_wp2_with (first
            | (at_builtin; refine wpList_append_own_spare _ rfl (.tmp 27) (.tmp 32) 33 rfl w.heap.size 109 i0 2 Try.underlying33 hi hz1 w.heap.size (k + j) (k + 3) _ rfl (hown.alloc _) ⟨wr.heap.size, 0, none⟩ 1 1 [.int .u64 ((160 : Int) + (j : Int)), .int .u64 0] rfl rfl (cells_newA _ _ _) (by simp [Value.oneCell']) (by omega) ?_; intro w1 hown1 hgrow1))
          go_roundw
          case rel =>
            exact ⟨j + 1, by omega, by go_num, by rw [Nat.add_assoc], by rw [← Nat.add_assoc, ← HT.out]; exact hown1, (hnx.alloc (by omega) _).grown hgrow1 (by simp; omega) (fun j hj => by cases hj; exact Nat.le_refl _)⟩
          case measure => simp [intOf]; omega
        · obtain rfl : j = 3 := by omega
          go_wp2
          go_ret
          exact ⟨rfl, hown, hnx⟩
end Go.Proofs.Yteafdpmblbbpnaa
namespace Go.Proofs.Yteafdpmblbbpnaa
open Go.RowKit

theorem LS.step_no {S T : LS} {k a b c : Nat} {l : List Sh} {d : Nat} (hS : S.step k a b c l = (d, T)) (hd : d ≠ 0) : T = S := by
  have fin : ∀ {x : Nat × LS}, x = (d, T) → x = (0, T) → T = S := fun e1 e2 => absurd (congrArg Prod.fst (e1.symm.trans e2)) hd
  unfold LS.step at hS
  repeat' split at hS
  · unfold LS.creates at hS
    repeat' split at hS
    all_goals first | (cases hS; rfl) | (cases hS; exact absurd rfl hd)
  · unfold LS.closes at hS
    repeat' split at hS
    all_goals first | (cases hS; rfl) | (cases hS; exact absurd rfl hd)
  · unfold LS.moves at hS
    repeat' split at hS
    all_goals first | (cases hS; rfl) | (cases hS; exact absurd rfl hd)
  · unfold LS.holds at hS
    repeat' split at hS
    all_goals first | (cases hS; rfl) | (cases hS; exact absurd rfl hd)
  · unfold LS.pays at hS
    repeat' split at hS
    all_goals first | (cases hS; rfl) | (cases hS; exact absurd rfl hd)
  · unfold LS.settles at hS
    repeat' split at hS
    all_goals first | (cases hS; rfl) | (cases hS; exact absurd rfl hd)
set_option maxRecDepth 10000 in
set_option maxHeartbeats 6400000 in
theorem doesG {w : World} {p a b : Nat} {ch : Value} {S : LS} (h : LG w p a b nilS ch S) (hok : S.Ok) {k A B C : Nat} (h1 : 1 ≤ k) (h6 : k ≤ 6) (hA : A < 18446744073709551616) (hB : B < 18446744073709551616) (hC : C < 18446744073709551616) (N : Int) {so : Option Addr} {bs off : Nat} (sn sc : Nat) {l : List Sh} (hn : sn = l.length) (hSh : Shs w bs off l) (hso : 0 < sn → so = some ⟨bs, off, none⟩ ∧ bs < w.heap.size) (hle : sn ≤ 8796093021952) {c : Nat} {S' : LS} (hS : S.step k A B C l = (c, S')) :
    Calls Try.prog 8 #[.pointer (some ⟨p, 0, none⟩), .agg #[.int .i64 (k : Nat), .int .u64 (A : Nat), .int .u64 (B : Nat), .int .u64 (C : Nat), .int .i64 N, .slice so sn sc]] w fun e w' => e = .returned (.int .i64 (c : Nat)) ∧ Hid (LgP w w' p a b ch S') := by
  obtain ⟨W1, hW1⟩ : ∃ W1, w.alloc (.cells #[.int .i64 (k : Nat), .int .u64 (A : Nat), .int .u64 (B : Nat), .int .u64 (C : Nat), .int .i64 N, .slice so sn sc] 35) = W1 := ⟨_, rfl⟩
  have b1 : Below w.heap.size w W1 := by rw [← hW1]; exact (Below.refl _ w).alloc (Nat.le_refl _) _
  have q1 : W1.heap[w.heap.size]? = some (.cells #[.int .i64 (k : Nat), .int .u64 (A : Nat), .int .u64 (B : Nat), .int .u64 (C : Nat), .int .i64 N, .slice so sn sc] 35 (0, 0)) := by rw [← hW1]; exact alloc_atK _ _
  have hL1 := h.kept b1
  have HF1 : Hid (Fr3 w W1 p a b) := Fr3.below b1
  have HFIN : Hid (∀ w', LgP W1 w' p a b ch S' → Hid (LgP w w' p a b ch S')) := fun w' hw => ⟨hw.1, HF1.out.trans hw.2⟩
  have c0 := block_cell q1 0
  have c1 := block_cell q1 1
  have c2 := block_cell q1 2
  have c3 := block_cell q1 3
  have c5 := block_cell q1 5
  have cl := block_lt q1
  simp at c0 c1 c2 c3 c5
  have HQ1 := hide q1
  have HL1 := hide hL1
  have HSS : Hid (Shs W1 bs off l ∧ (0 < sn → so = some ⟨bs, off, none⟩ ∧ bs < W1.heap.size)) := ⟨hSh.below b1 (fun h0 => (hso (by omega)).2), fun h0 => ⟨(hso h0).1, Nat.lt_of_lt_of_le (hso h0).2 b1.size⟩⟩
  have HS := hide hS
  have HO := hide hok
  have HN := hide hn
  have HBD := hide (And.intro hA (And.intro hB hC))
  have HPL := hide h.lt
  have HB1 := hide b1
  clear h hok b1 q1 hL1 hSh hso hS hn hA hB hC
  go_enter Try.func8, Try.ntmps8
  go_upto_region 1 with fail
  clear hW1
  have hk : k = 1 ∨ k = 2 ∨ k = 3 ∨ k = 4 ∨ k = 5 ∨ k = 6 := by omega
  clear h1 h6
  rcases hk with rfl | rfl | rfl | rfl | rfl | rfl
  · have HC := hide (createG HL1.out HO.out HBD.out.1 HBD.out.2.1 HBD.out.2.2 (show S.creates A B C = (c, S') from HS.out))
    go_wp2_with fail
    refine HC.out.mono ?_
    rintro e w1 ⟨rfl, G⟩
    have HE := HFIN.out _ G.out
    clear G HC
    go_wp2
    go_ret
    exact ⟨rfl, HE⟩
  · have HC := hide (closeG HL1.out HO.out HBD.out.1 (show S.closes A = (c, S') from HS.out))
    go_wp2_with fail
    refine HC.out.mono ?_
    rintro e w1 ⟨rfl, G⟩
    have HE := HFIN.out _ G.out
    clear G HC
    go_wp2
    go_ret
    exact ⟨rfl, HE⟩
  · have HC := hide (moveG HL1.out HO.out HBD.out.1 HBD.out.2.1 HBD.out.2.2 (show S.moves A B C = (c, S') from HS.out))
    go_wp2_with fail
    refine HC.out.mono ?_
    rintro e w1 ⟨rfl, G⟩
    have HE := HFIN.out _ G.out
    clear G HC
    go_wp2
    go_ret
    exact ⟨rfl, HE⟩
  · have HC := hide (holdG HL1.out HO.out HBD.out.1 HBD.out.2.1 HBD.out.2.2 (show S.holds A B C = (c, S') from HS.out))
    go_wp2_with fail
    refine HC.out.mono ?_
    rintro e w1 ⟨rfl, G⟩
    have HE := HFIN.out _ G.out
    clear G HC
    go_wp2
    go_ret
    exact ⟨rfl, HE⟩
  · have HC := hide (payG HL1.out HO.out HBD.out.1 HBD.out.2.1 HBD.out.2.2 (show S.pays A B C = (c, S') from HS.out))
    go_wp2_with fail
    refine HC.out.mono ?_
    rintro e w1 ⟨rfl, G⟩
    have HE := HFIN.out _ G.out
    clear G HC
    go_wp2
    go_ret
    exact ⟨rfl, HE⟩
  · have HLD : Hid (Calls Try.prog 30 #[.slice so sn sc] W1.drew fun e w' => e = .returned (.slice (some ⟨W1.heap.size, 0, none⟩) sn (sn + 3)) ∧ (w'.cell? ⟨w.heap.size, 1, none⟩ = some (.int .u64 (A : Nat)) ∧ w'.cell? ⟨w.heap.size, 5, none⟩ = some (.slice so sn sc)) ∧ Hid (LG w' p a b nilS ch S ∧ Fr3 W1 w' p a b ∧ Shs w' W1.heap.size 0 l ∧ W1.heap.size < w'.heap.size)) := by
      have hd : Below W1.heap.size W1 W1.drew := (Below.refl _ _).drew
      refine (lendS (w := W1.drew) sn sc HN.out (HSS.out.1.below hd (fun h0 => (HSS.out.2 (by have := HN.out; omega)).2)) (fun h0 => (HSS.out.2 h0).1) (fun h0 => (HSS.out.2 h0).2) hle).mono ?_
      rintro e w' ⟨rfl, G⟩
      have hb : Below W1.heap.size W1 w' := hd.trans G.out.2
      have hq := (hb.block _ (block_lt HQ1.out)).trans HQ1.out
      refine ⟨rfl, ⟨block_cell hq 1, block_cell hq 5⟩, HL1.out.kept hb, Fr3.below hb, shs_of_row G.out.1 HSS.out.1.ok, ?_⟩
      exact (G.out.1.lt _ rfl).2
    have HST : Hid (∀ w', Hid (LG w' p a b nilS ch S ∧ Fr3 W1 w' p a b ∧ Shs w' W1.heap.size 0 l ∧ W1.heap.size < w'.heap.size) → Calls Try.prog 29 #[.pointer (some ⟨p, 0, none⟩), .int .u64 (A : Nat), .slice (some ⟨W1.heap.size, 0, none⟩) sn (sn + 3)] w' fun e w2 => e = .returned (.int .i64 (c : Nat)) ∧ (w2.cell? ⟨w.heap.size, 1, none⟩ = some (.int .u64 (A : Nat)) ∧ w2.cell? ⟨w.heap.size, 5, none⟩ = some (.slice so sn sc)) ∧ Hid (LgP w w2 p a b ch S')) := fun w' hw => by
      refine (settleG hw.out.1 HO.out HBD.out.1 sn (sn + 3) HN.out hw.out.2.2.1 (fun _ => ⟨rfl, hw.out.2.2.2, ?_, ?_, ?_⟩) hle (show S.settles A l = (c, S') from HS.out)).mono ?_
      · have := HPL.out; have := HB1.out.size; omega
      · have := HPL.out; have := HB1.out.size; omega
      · have := HPL.out; have := HB1.out.size; omega
      · rintro e w2 ⟨rfl, G⟩
        have hf := hw.out.2.1.trans G.out.2
        have hq := (hf.block w.heap.size (block_lt HQ1.out) (by have := HPL.out; omega) (by have := HPL.out; omega) (by have := HPL.out; omega)).trans HQ1.out
        exact ⟨rfl, ⟨block_cell hq 1, block_cell hq 5⟩, HFIN.out _ ⟨G.out.1, hf⟩⟩
    clear hle
    go_wp2_with fail
    go_region_held (fun w' => w'.cell? ⟨w.heap.size, 1, none⟩ = some (.int .u64 (A : Nat)) ∧ w'.cell? ⟨w.heap.size, 5, none⟩ = some (.slice so sn sc)) (go_keep)
      (first | (go_at_call 30; refine HLD.out.mono ?_; rintro e w1 ⟨rfl, hcs, HG⟩; have HN2 := hide (HST.out _ HG)) | (go_at_call 29; refine HN2.out.mono ?_; rintro e w2 ⟨rfl, hcs2, HE⟩))
    all_goals (go_wp2; go_ret; exact ⟨rfl, HE⟩)
end Go.Proofs.Yteafdpmblbbpnaa
