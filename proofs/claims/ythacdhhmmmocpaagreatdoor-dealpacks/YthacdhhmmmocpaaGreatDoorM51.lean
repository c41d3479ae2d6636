import Derived.Test.YthacdhhmmmocpaaGreatDoorM0
import Derived.Test.YthacdhhmmmocpaaGreatDoorM1
import Derived.Test.YthacdhhmmmocpaaGreatDoorKUnD
import Derived.Test.YthacdhhmmmocpaaGreatDoorPSame
import Derived.Test.YthacdhhmmmocpaaGreatDoorPCodec
import Derived.Laws.Strings
namespace Go.Proofs.YthacdhhmmmocpaaGreatDoor
open Go.RowKit Crc

/-- The lent copy, as it lies: three marks behind its end. -/
def Lent3 (wi : World) (gc n : Nat) (B : List Nat) : Prop := n = B.length ∧ wi.ownsRow gc 5 1 (.slice (some ⟨gc, 0, none⟩) (n + 3) (n + 3)) (n + 3) (vals (B ++ [161, 162, 163]))
set_option maxRecDepth 10000 in
set_option maxHeartbeats 800000 in
theorem lend5 {lim : Nat} {ao : Option Addr} {B : List Nat} {n cap : Nat} {w : World} (h : Shows lim w ao n cap B) (hlw : lim ≤ w.heap.size) :
    Calls Tryz.prog 10 #[.slice ao n cap] w fun e w' => e = .returned (.slice (some ⟨w.heap.size, 0, none⟩) n (n + 3)) ∧ Lent3 w' w.heap.size n B ∧ Below w.heap.size w w' := by
  obtain ⟨hn, -, hl, -, b, off, hao, hbl, hc⟩ := h
  obtain ⟨i0, hi, hz0, hz1, hz2⟩ := info_parts Tryz.info5
  have HA : Hid (0 < n → ao = some ⟨b, off, none⟩) := hao
  have HN : Hid (n = B.length) := hn
  have HC : Hid (∀ i, i < n → w.cell? ⟨b, off + i, none⟩ = some (.int .u8 ((B.getD i 0 : Nat) : Int))) := hc
  have HB : Hid (0 < n → b < w.heap.size) := fun e => Nat.lt_of_lt_of_le (hbl e) hlw
  clear hn hc hao hbl
  go_enter Tryz.func10, Tryz.ntmps10
  go_wp2_with (first
    | (at_make; refine wpList_make_own _ rfl _ _ 26 rfl w.heap.size 5 i0 (.int .u8 0) 1 Tryz.underlying26 hi hz0 hz1 .i64 .i64 _ (n + 3) rfl rfl (by omega) (by rw [hz2]; omega) (by unfold maxLen; omega) (Nat.le_refl _) ?_; intro w0 hown0 hgrow0))
  go_loopw [3, 4] (fun v i wr => ∃ k : Nat, k ≤ n ∧ i = .int .i64 k ∧ v = .slice (some ⟨w.heap.size, 0, none⟩) k (n + 3) ∧ wr.ownsRow w.heap.size 5 1 v k (vals (B.take k)) ∧ Below w.heap.size w wr)
    (fun _ i _ => n - (intOf i).toNat)
  case atStart => exact ⟨0, by omega, rfl, rfl, hown0, (Below.refl _ _).grown hgrow0 (Nat.le_refl _) (fun k h => by cases h)⟩
  case round =>
    obtain ⟨k, hk, rfl, rfl, hown, hnx⟩ := hrel
    clear hgrow0 hown0
    have hsize := hnx.size
    by_cases hlt : k < n
    · have hck := (hnx.cell (p := ⟨b, off + k, none⟩) (HB.out (by omega))).trans (HC.out k hlt)
      have HT : Hid (vals (B.take (k + 1)) = vals (B.take k) ++ [.int .u8 ((B.getD k 0 : Nat) : Int)]) := by
        show _ = _; rw [take_snoc B k (by have := HN.out; omega), vals_append, vals_one]
      obtain ⟨c, hcd⟩ : ∃ c, c = B.getD k 0 := ⟨_, rfl⟩
      rw [← hcd] at hck HT
      clear hcd
      obtain rfl := HA.out (by omega)
      go_wp2_with (first
        | (at_builtin; refine wpList_append_own_spare _ rfl _ _ 26 rfl w.heap.size 5 i0 1 Tryz.underlying26 hi hz1 w.heap.size k (n + 3) _ rfl (hown.alloc _) ⟨wr.heap.size, 0, none⟩ 1 1 [.int .u8 (c : Int)] rfl rfl (cell_one_new _ _ _) (Shade.one _ rfl) (by omega) ?_; intro w1 hown1 hgrow1))
      go_roundw
      case rel =>
        exact ⟨k + 1, by omega, by go_num, rfl, by rw [HT.out]; exact hown1, (hnx.alloc (by omega) _).grown hgrow1 (by simp; omega) (fun j hj => by cases hj; exact Nat.le_refl _)⟩
      case measure => simp [intOf]; omega
    · obtain rfl : k = n := by omega
      have hBk : B.take k = B := List.take_of_length_le (by have := HN.out; omega)
      rw [hBk] at hown
      clear hBk
      have HT : Hid (vals (B ++ [161, 162, 163]) = vals B ++ [.int .u8 161, .int .u8 162, .int .u8 163]) := by
        show _ = _; rw [vals_append]; rfl
      have h3 : ∀ (W : World) (j : Nat) (u : Value), [Value.int .u8 161, .int .u8 162, .int .u8 163][j]? = some u → (W.alloc (.cells #[.int .u8 161, .int .u8 162, .int .u8 163] 5)).cell? ((⟨W.heap.size, 0, none⟩ : Addr).add j) = some u := fun W j u h => by
        have e : (⟨W.heap.size, 0, none⟩ : Addr).add j = ⟨W.heap.size, j, none⟩ := by
          rcases j with _ | j <;> simp [Addr.add]
        rw [← h, e]
        exact (World.cell?_alloc_new W #[.int .u8 161, .int .u8 162, .int .u8 163] 5 j).trans (by simp)
      go_wp2_with (first
        | (at_builtin; refine wpList_append_own_spare _ rfl _ _ 26 rfl w.heap.size 5 i0 1 Tryz.underlying26 hi hz1 w.heap.size k (k + 3) _ rfl (hown.alloc _) ⟨wr.heap.size, 0, none⟩ 3 3 [.int .u8 161, .int .u8 162, .int .u8 163] rfl rfl (h3 wr) (by intro u hu; simp at hu; rcases hu with rfl | rfl | rfl <;> rfl) (by omega) ?_; intro w1 hown1 hgrow1))
      go_ret
      exact ⟨rfl, ⟨HN.out, by rw [HT.out]; exact hown1⟩, (hnx.alloc (by omega) _).grown hgrow1 (by simp; omega) (fun j hj => by cases hj; exact Nat.le_refl _)⟩
end Go.Proofs.YthacdhhmmmocpaaGreatDoor
namespace Go.Proofs.YthacdhhmmmocpaaGreatDoor
open Go.RowKit Crc

theorem Lent3.next {wi w' : World} {gc n : Nat} {B : List Nat} {row : Option Nat} (h : Lent3 wi gc n B) (hg : wi.grownBy w' row) (hr : row ≠ some gc) : Lent3 w' gc n B :=
  ⟨h.1, h.2.kept hg (.inr (by simpa [Value.ownBlock] using fun e => hr e.symm))⟩
theorem Lent3.shows {wi : World} {gc n : Nat} {B : List Nat} (h : Lent3 wi gc n B) (hB : ∀ x ∈ B, x < 256) (hl : n ≤ 140737488355328) : Shows wi.heap.size wi (some ⟨gc, 0, none⟩) n (n + 3) B := by
  refine ⟨h.1, by omega, hl, hB, gc, 0, fun _ => rfl, fun _ => owned_lt2 h.2, fun i hi => ?_⟩
  have := owned_cells h.2 i (by omega)
  rw [List.getD_eq_getElem?_getD, List.getElem?_append_left (by have := h.1; omega)] at this
  rw [Nat.zero_add, this, List.getD_eq_getElem?_getD]
theorem Lent3.mark {wi : World} {gc n : Nat} {B : List Nat} (h : Lent3 wi gc n B) : wi.cell? ⟨gc, n, none⟩ = some (.int .u8 161) ∧ wi.cell? ⟨gc, n + 1, none⟩ = some (.int .u8 162) ∧ wi.cell? ⟨gc, n + 2, none⟩ = some (.int .u8 163) := by
  have h0 := owned_cells h.2 n (by omega)
  have h1 := owned_cells h.2 (n + 1) (by omega)
  have h2 := owned_cells h.2 (n + 2) (by omega)
  have e := h.1
  subst e
  simp at h0 h1 h2
  exact ⟨h0, h1, h2⟩
set_option maxRecDepth 10000 in
set_option maxHeartbeats 800000 in
theorem kept5 {lim : Nat} {ao : Option Addr} {B : List Nat} {n cap gc : Nat} {w : World} (h : Lent3 w gc n B) (hs : Shows lim w ao n cap B) :
    Calls Tryz.prog 12 #[.slice (some ⟨gc, 0, none⟩) n (n + 3), .slice ao n cap] w fun e w' => e = .returned (.bool true) ∧ ∃ q, w' = w.drewN q := by
  obtain ⟨m0, m1, m2⟩ := h.mark
  have hl := hs.2.2.1
  have HS := hide (same_any (h.shows hs.2.2.2.1 hl) hs)
  clear h hs
  go_enter Tryz.func12, Tryz.ntmps12
  go_wp2_with fail
  refine HS.out.mono ?_
  rintro e w1 ⟨rfl, q, hw1⟩
  have hh : w1.heap = w.heap := by rw [hw1]; rfl
  have m0 : w1.cell? ⟨gc, n, none⟩ = some (.int .u8 161) := by simp only [World.cell?, hh]; exact m0
  have m1 : w1.cell? ⟨gc, n + 1, none⟩ = some (.int .u8 162) := by simp only [World.cell?, hh]; exact m1
  have m2 : w1.cell? ⟨gc, n + 2, none⟩ = some (.int .u8 163) := by simp only [World.cell?, hh]; exact m2
  have HW := hide hw1
  clear hw1 hh
  go_wp2
  go_ret
  exact ⟨rfl, q, HW.out⟩
end Go.Proofs.YthacdhhmmmocpaaGreatDoor
namespace Go.Proofs.YthacdhhmmmocpaaGreatDoor
open Go.RowKit Crc

def RSp (B : List Nat) (pos : Nat) : RS := ⟨true, 0, 0, B, pos, KR⟩
/-- A field put where it belongs. -/
def Cd.put (c : Cd) (z : Cd) (f : Nat) : Cd := if f = 7 then { z with terms := c.terms } else z.set f (c.num f)
theorem stray_zero {c : Cd} (h : c.stray = 0) : (∀ j, 1 ≤ j → j < 7 → ¬ c.strayAt j) ∧ (c.terms.toList.isEmpty = false → 7 ∈ fds c.verb) := by
  unfold Cd.stray at h
  repeat' split at h
  all_goals first | (exact absurd h (by decide)) | skip
  rename_i h1 h2 h3 h4 h5 h6 h7
  refine ⟨fun j a b => ?_, fun e => ?_⟩
  · rcases (by omega : j = 1 ∨ j = 2 ∨ j = 3 ∨ j = 4 ∨ j = 5 ∨ j = 6) with rfl | rfl | rfl | rfl | rfl | rfl <;> assumption
  · by_cases hm : 7 ∈ fds c.verb
    · exact hm
    · exact absurd ⟨e, hm⟩ h7
theorem rd_fold (c : Cd) (hc : c.Ok) (B : List Nat) : ∀ (L : List Nat) (pos : Nat) (z : Cd), (∀ f ∈ L, 1 ≤ f ∧ f ≤ 7) → (7 ∈ L → txtY c.terms 512 = 0) → B.drop pos = (L.map c.enc).flatten → pos ≤ B.length →
    L.foldl rdF ((RSp B pos), z) = ((RSp B B.length), L.foldl c.put z)
  | [], pos, z, _, _, hd, hp => by
    have : B.length ≤ pos := by simpa using hd
    obtain rfl : pos = B.length := by omega
    rfl
  | f :: L, pos, z, hL, h7, hd, hp => by
    have hs : RS.sound (RSp B pos) := ⟨rfl, rfl⟩
    have hr : RS.rest (RSp B pos) = c.enc f ++ (L.map c.enc).flatten := by
      unfold RS.rest restB
      rw [if_pos ⟨rfl, rfl⟩]
      simpa [RSp] using hd
    have hle : pos + (c.enc f).length ≤ B.length := by
      have := congrArg List.length hd
      simp at this
      omega
    have hd2 : B.drop (pos + (c.enc f).length) = (L.map c.enc).flatten := by
      rw [← List.drop_drop, hd]
      simp
    have key : rdF ((RSp B pos), z) f = (RSp B (pos + (c.enc f).length), c.put z f) := by
      unfold rdF
      by_cases hf : f = 7
      · subst hf
        have ht := h7 (by simp)
        have ht2 : ¬ (512 : Int) < (c.terms.size : Int) ∧ utf8Ok c.terms = true := by
          unfold txtY at ht
          split at ht
          · exact absurd ht (by decide)
          · split at ht
            · rename_i a b; exact ⟨a, b⟩
            · exact absurd ht (by decide)
        have he : c.enc 7 ++ (L.map c.enc).flatten = numB (strB c.terms).length ++ (strB c.terms ++ (L.map c.enc).flatten) := by
          unfold Cd.enc
          rw [if_pos rfl, strB_len, List.append_assoc]
        have hb := blobAt_numB (strB c.terms) ((L.map c.enc).flatten) 512 (by rw [strB_len]; have := hc.terms; omega) (by rw [strB_len]; omega)
        have hx : txA (RSp B pos) = (c.terms, (numB (strB c.terms).length).length + (strB c.terms).length, 0) := by
          unfold txA textAt
          rw [hr, he, hb, strOf_strB]
          simp [ht2.2]
        have hel : (c.enc 7).length = (numB (strB c.terms).length).length + (strB c.terms).length := by
          unfold Cd.enc
          rw [if_pos rfl, List.length_append, strB_len]
        rw [if_pos rfl]
        show (RS.step (RSp B pos) (txA (RSp B pos)).2.1 (txA (RSp B pos)).2.2, _) = _
        rw [hx, RS.step_ok hs, hel]
        rfl
      · have he : c.enc f = numB (c.num f) := by unfold Cd.enc; rw [if_neg hf]
        have hx : numAt (RS.rest (RSp B pos)) = (c.num f, (numB (c.num f)).length, 0) := by
          rw [hr, he]
          exact numAt_numB _ _ (hc.num f)
        rw [if_neg hf]
        show (RS.step (RSp B pos) (numAt (RS.rest (RSp B pos))).2.1 (numAt (RS.rest (RSp B pos))).2.2, z.set f (numAt (RS.rest (RSp B pos))).1) = _
        rw [hx, RS.step_ok hs, he]
        unfold Cd.put
        rw [if_neg hf]
        rfl
    rw [List.foldl_cons, List.foldl_cons, key]
    exact rd_fold c hc B L _ _ (fun g hg => hL g (by simp [hg])) (fun hg => h7 (by simp [hg])) hd2 hle
theorem put_all {c : Cd} (h : 1 ≤ c.verb ∧ c.verb ≤ 13) (hs : c.stray = 0) : (fds c.verb).foldl c.put (Cd.zero c.verb) = c := by
  obtain ⟨h1, h7⟩ := stray_zero hs
  have a1 := h1 1 (by omega) (by omega)
  have a2 := h1 2 (by omega) (by omega)
  have a3 := h1 3 (by omega) (by omega)
  have a4 := h1 4 (by omega) (by omega)
  have a5 := h1 5 (by omega) (by omega)
  have a6 := h1 6 (by omega) (by omega)
  obtain ⟨c0, c1, c2, c3, c4, c5, c6, c7⟩ := c
  have ht : c7.toList.isEmpty = true → c7 = ⟨#[]⟩ := fun e => by
    have e1 : c7.data.toList = [] := by
      have := List.isEmpty_iff.1 e
      rwa [ByteArray.toList_eq] at this
    exact ByteArray.ext (by simpa using e1)
  simp only [Cd.strayAt, Cd.num] at a1 a2 a3 a4 a5 a6
  have h7' : 7 ∉ fds c0 → c7 = ⟨#[]⟩ := fun e => by
    cases hq : c7.toList.isEmpty
    · exact absurd (h7 hq) e
    · exact ht hq
  clear h7 ht h1 hs
  rcases verb_cases h.1 h.2 with e | e | e | e | e | e | e | e | e | e | e | e | e
  all_goals
    simp only at e
    subst e
    simp [fds] at a1 a2 a3 a4 a5 a6 h7' ⊢
    simp [Cd.put, Cd.set, Cd.zero, Cd.num, *]
/-- What is packed is read back. -/
theorem trip {c : Cd} (hc : c.Ok) (hp : c.pkC = 0) : unA c.pkB = (c, [], 0) := by
  have h : 1 ≤ c.verb ∧ c.verb ≤ 13 := by
    by_cases h : 1 ≤ c.verb ∧ c.verb ≤ 13
    · exact h
    · unfold Cd.pkC at hp; rw [if_neg h] at hp; exact absurd hp (by decide)
  have hs : c.stray = 0 := by
    by_cases hs : c.stray = 0
    · exact hs
    · unfold Cd.pkC at hp; rw [if_pos h, if_neg hs] at hp; exact absurd hp (by decide)
  have he : c.pkS.errC = 0 := by unfold Cd.pkC at hp; rw [if_pos h, if_pos hs] at hp; exact hp
  have ht : c.verb = 4 → txtY c.terms 512 = 0 := fun hv => by
    by_cases ht : txtY c.terms 512 = 0
    · exact ht
    · have e := pk_bad c hv ht
      rw [e] at he
      exact absurd he ht
  have hB : c.pkB = c.verb.toNat :: ((fds c.verb).map c.enc).flatten := by
    have e := pk_ok c h ht
    have e2 : c.pkS.shown = c.bts (fds c.verb).length := by rw [e]; rfl
    unfold Cd.pkB
    rw [if_pos h, if_pos hs, if_pos he, e2]
    unfold Cd.bts
    rw [List.take_length]
  generalize c.pkB = B at *
  have hr : (RSn B).rest = B := by
    unfold RS.rest restB
    rw [if_pos ⟨rfl, rfl⟩]
    rfl
  have hl : 1 ≤ B.length := by rw [hB]; simp
  have hw : aheadW (RSn B).rest 1 = 0 := by unfold aheadW; rw [hr, if_neg (by omega)]
  have h1 : un1 B = (RSp B 1) := by
    unfold un1
    rw [hw, RS.step_ok ⟨rfl, rfl⟩]
    rfl
  have hv : unV B = c.verb := by
    unfold unV aheadV
    rw [hr, if_neg (by omega), hB]
    simp [hi]
    omega
  have hra : rdAll c.verb (RSp B 1) = ((RSp B B.length), c) := by
    unfold rdAll
    rw [rd_fold c hc B (fds c.verb) 1 _ (fun f hf => fds_mem hf) (fun h7 => ht (by
      obtain ⟨k, hk⟩ := List.getElem?_of_mem h7
      exact (fds_seven hk).2)) (by rw [hB]; rfl) hl, put_all h hs]
  unfold unA
  rw [hv, h1, hra]
  have x1 : RS.errC (RSp B 1) = 0 := rfl
  have x2 : RS.endC (RSp B B.length) = 0 := by
    unfold RS.endC
    rw [if_pos ⟨rfl, rfl⟩]
    simp [RSp]
  rw [if_neg (fun e => e x1), if_neg (fun e => e h)]
  simp only
  rw [if_neg (fun e => e x2)]
end Go.Proofs.YthacdhhmmmocpaaGreatDoor
