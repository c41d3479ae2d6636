import Derived.Test.YteafdpmblbbpnaaLS47
namespace Go.Proofs.Yteafdpmblbbpnaa
open Go.RowKit

theorem Tr.trans {w w1 w2 : World} {p a b : Nat} {Z Z1 Z2 : SZ} (h : Tr w w1 p a b Z Z1) (h' : Tr w1 w2 p a b Z1 Z2) : Tr w w2 p a b Z Z2 :=
  ⟨h'.os.trans h.os, h'.tape.trans h.tape, h'.output.trans h.output, Nat.le_trans h.size h'.size,
   fun k hk n1 n2 n3 n4 n5 => (h'.block k (Nat.lt_of_lt_of_le hk h.size) n1 n2 n3 (fun e => by rcases h.mvn k e with e | e; exact n4 e; omega) (fun e => by rcases h.cvn k e with e | e; exact n5 e; omega)).trans (h.block k hk n1 n2 n3 n4 n5),
   h.fl.trans h'.fl,
   fun k e => by
     rcases h'.mvn k e with e | e
     · exact h.mvn k e
     · exact .inr (Nat.le_trans h.size e),
   fun k e => by
     rcases h'.cvn k e with e | e
     · exact h.cvn k e
     · exact .inr (Nat.le_trans h.size e)⟩
set_option maxRecDepth 10000 in
set_option maxHeartbeats 3200000 in
/-- Undo of a mark that is set. -/
theorem undoM {w : World} {B p a b : Nat} {Z : SZ} {S S' : LS} (h : LM w B p a b Z S) (h16 : Z.ms.length ≤ 16) {k n : Nat} (h1 : 1 ≤ k) (hk : k ≤ Z.ms.length) (hn : Z.ms[k - 1]? = some n) (hnc : n ≤ Z.cs.length) (hc : Z.cs.length ≤ 1000000000000) (hA : S.acc.length ≤ 1000000000000) (hH : S.hol.length ≤ 1000000000000) (hS : undoAll (Z.cs.drop n) S.ms = S'.ms) :
    Calls Try.prog 31 #[.pointer (some ⟨p, 0, none⟩), .int .i64 (k : Nat)] w fun e w' => e = .returned (.int .i64 0) ∧ Hid (∃ Z', LM w' B p a b Z' S' ∧ Tr w w' p a b Z Z' ∧ Z'.ms = Z.ms.take (k - 1) ∧ Z'.cs = (if k = 1 then [] else Z.cs.take n)) := by
  obtain ⟨CS, hCS⟩ : ∃ x, (if k = 1 then [] else Z.cs.take n) = x := ⟨_, rfl⟩
  obtain ⟨MS', hMS⟩ : ∃ x, Z.ms.take (k - 1) = x := ⟨_, rfl⟩
  rw [hCS, hMS]
  have HCS := hide hCS
  have HMS := hide hMS
  clear hCS hMS
  have hm := markFaultM h (k : Int)
  rw [if_neg (by omega)] at hm
  have HM := hide hm
  have hT := takeBackM (h.kept (Below.refl _ w).drew) hnc hc hA hH hS
  have HT := hide hT
  have HU : Hid (∀ w1 Z1, LM w1 B p a b Z1 S' → Z1.ms = Z.ms → Calls Try.prog 33 #[.pointer (some ⟨p, 324, none⟩), .int .i64 (k : Nat)] w1 fun e w' => e = .returned (.tuple #[]) ∧ Hid (∃ Z', LM w' B p a b Z' S' ∧ Tr w1 w' p a b Z1 Z' ∧ Z'.ms = Z.ms.take (k - 1) ∧ Z'.cs = (if k = 1 then [] else Z1.cs))) := fun w1 Z1 hl hms => by
    have := unsetM hl (m := k) h1 (by rw [hms]; exact hk) (by rw [hms]; exact h16)
    rw [hms] at this
    exact this
  have HT1 : Hid (∀ w2, Hid (∃ Z', LM w2 B p a b Z' S' ∧ Tr w.drew w2 p a b Z Z' ∧ Z'.mv = Z.mv ∧ Z'.ms = Z.ms ∧ Z'.cs = Z.cs.take n) → Hid (∃ Z', LM w2 B p a b Z' S' ∧ Tr w w2 p a b Z Z' ∧ Z'.ms = Z.ms ∧ Z'.cs = Z.cs.take n)) := fun w2 hh => by
    obtain ⟨Z', g1, g2, _, g4, g5⟩ := hh.out
    exact ⟨Z', g1, (Tr.below (Below.refl _ w).drew).trans g2, g4, g5⟩
  have c4 := h.lg.c.2.2.2.2.1
  have cl := h.lg.lt.1
  obtain ⟨g, cap, cur, e1, hq, hcap, hmx, hcur⟩ : ∃ g cap cur, Z.mv = .slice (some ⟨g, 0, none⟩) Z.ms.length cap ∧ w.heap[g]? = some (.cells cur 3 (0, 0)) ∧ Z.ms.length ≤ cap ∧ cap ≤ maxLen ∧ cur[k - 1]? = some (.int .i64 (n : Nat)) := by
    rcases h.mr.2 with ⟨_, e⟩ | ⟨g, cap, cur, e, _, q2, q3, q4, q5, q6⟩
    · omega
    · refine ⟨g, cap, cur, e, q2, q3, q4, ?_⟩
      have hx : (Z.ms.map (fun m => Value.int .i64 (m : Nat)))[k - 1]? = some (.int .i64 (n : Nat)) := by rw [List.getElem?_map, hn]; rfl
      rw [← q6, List.getElem?_take_of_lt (by omega), Array.getElem?_toList] at hx
      exact hx
  rw [e1] at c4
  have x0 := (block_cell hq (k - 1)).trans hcur
  have gl := block_lt hq
  obtain ⟨j, hj⟩ : ∃ j, k - 1 = j := ⟨_, rfl⟩
  obtain ⟨L, hL⟩ : ∃ L, Z.ms.length = L := ⟨_, rfl⟩
  have hwm : IntKind.i64.wrap ((k : Int) - 1) = (j : Int) := by rw [IntWalk.i64_in _ ⟨by omega, by omega⟩]; omega
  have hjL : j < L := by omega
  rw [hj] at x0
  rw [hL] at c4 h16
  have HJ := hide hj
  clear h hn hnc hc hA hH hS hm hT hq hcap hmx hcur e1 hj hL hk h1
  go_enter Try.func31, Try.ntmps31
  go_wp2_with fail
  refine HM.out.mono ?_
  rintro e w1 ⟨rfl, rfl⟩
  clear HM
  go_upto_region 4 with fail
  go_cut [] from 12 (fun V => Hid (∃ Z', LM V B p a b Z' S' ∧ Tr w1 V p a b Z Z' ∧ Z'.ms = Z.ms ∧ Z'.cs = Z.cs.take n))
  case first =>
    go_region_with (go_at_call 54; refine HT.out.mono ?_; rintro e w2 ⟨rfl, G⟩; have G2 := HT1.out w2 G)
    all_goals go_wp2
    all_goals go_meet
    case rel => exact G2
  case rest =>
  obtain ⟨Z1, q1, q2, q3, q4⟩ := hcut.out
  have clc := q1.lg.lt.1
  have HUW := hide (HU.out wc Z1 q1 q3)
  have HFIN : Hid (∀ w3, Hid (∃ Z', LM w3 B p a b Z' S' ∧ Tr wc w3 p a b Z1 Z' ∧ Z'.ms = Z.ms.take (k - 1) ∧ Z'.cs = (if k = 1 then [] else Z1.cs)) → Hid (∃ Z', LM w3 B p a b Z' S' ∧ Tr w1 w3 p a b Z Z' ∧ Z'.ms = MS' ∧ Z'.cs = CS)) := fun w3 hh => by
    obtain ⟨Z', g1, g2, g3, g4⟩ := hh.out
    rw [q4] at g4
    exact ⟨Z', g1, q2.trans g2, g3.trans HMS.out, g4.trans HCS.out⟩
  clear hcut HU q1 q2 q3 q4 HT HT1
  go_wp2_with fail
  refine HUW.out.mono ?_
  rintro e w3 ⟨rfl, G⟩
  have HE := HFIN.out w3 G
  go_wp2
  go_ret
  exact ⟨rfl, HE⟩
end Go.Proofs.Yteafdpmblbbpnaa
namespace Go.Proofs.Yteafdpmblbbpnaa
open Go.RowKit

set_option maxRecDepth 10000 in
set_option maxHeartbeats 1600000 in
/-- Undo of a mark that is none. -/
theorem undoNo {w : World} {B p a b : Nat} {Z : SZ} {S : LS} (h : LM w B p a b Z S) {m : Int} (hbad : m < 1 ∨ (Z.ms.length : Int) < m) :
    Calls Try.prog 31 #[.pointer (some ⟨p, 0, none⟩), .int .i64 m] w fun e w' => e = .returned (.int .i64 50) ∧ w' = w := by
  have hm := markFaultM h m
  rw [if_pos hbad] at hm
  have HM := hide hm
  clear h hbad hm
  go_enter Try.func31, Try.ntmps31
  go_wp2_with fail
  refine HM.out.mono ?_
  rintro e w1 ⟨rfl, rfl⟩
  go_wp2
  go_ret
  exact ⟨rfl, rfl⟩
/-- What a ledger with marks has behind it: for each mark what it was when that was set. -/
structure Sv (Z : SZ) (S : LS) (Q : List LS) : Prop where
  len : Q.length = Z.ms.length
  m16 : Z.ms.length ≤ 16
  at_ : ∀ (i n : Nat) (s : LS), Z.ms[i]? = some n → Q[i]? = some s → n ≤ Z.cs.length ∧ undoAll (Z.cs.drop n) S.ms = s.ms
  mono : ∀ (i j n m : Nat), i ≤ j → Z.ms[i]? = some n → Z.ms[j]? = some m → n ≤ m
theorem Sv.none (mv cv : Value) (cs : List Bk) (S : LS) : Sv ⟨mv, cv, [], cs⟩ S [] := ⟨rfl, by simp, fun i n s h => by simp at h, fun i j n m _ h => by simp at h⟩
section
variable {Z Z' : SZ} {S S' : LS} {Q : List LS}
/-- A step that is noted. -/
theorem Sv.step (h : Sv Z S Q) {ds : List Bk} (hm : Z'.ms = Z.ms) (hc : Z'.cs = (if Z.ms = [] then Z.cs else Z.cs ++ ds)) (hu : undoAll ds S'.ms = S.ms) : Sv Z' S' Q := by
  refine ⟨by rw [hm]; exact h.len, by rw [hm]; exact h.m16, fun i n s h1 h2 => ?_, fun i j n m hij h1 h2 => h.mono i j n m hij (by rw [← hm]; exact h1) (by rw [← hm]; exact h2)⟩
  rw [hm] at h1
  have hne : Z.ms ≠ [] := fun e => by rw [e] at h1; simp at h1
  rw [if_neg hne] at hc
  obtain ⟨g1, g2⟩ := h.at_ i n s h1 h2
  rw [hc]
  refine ⟨by rw [List.length_append]; omega, ?_⟩
  rw [List.drop_append_of_le_length g1, undoAll_app, hu]
  exact g2
/-- A mark is set. -/
theorem Sv.mark (h : Sv Z S Q) (hl : Z.ms.length < 16) (hm : Z'.ms = Z.ms ++ [Z.cs.length]) (hc : Z'.cs = Z.cs) : Sv Z' S (Q ++ [S]) := by
  have hln := h.len
  have key : ∀ (i n : Nat), (Z.ms ++ [Z.cs.length])[i]? = some n → (i < Z.ms.length ∧ Z.ms[i]? = some n) ∨ (i = Z.ms.length ∧ n = Z.cs.length) := fun i n h1 => by
    by_cases hi : i < Z.ms.length
    · rw [List.getElem?_append_left hi] at h1
      exact .inl ⟨hi, h1⟩
    · rw [List.getElem?_append_right (by omega)] at h1
      have : i - Z.ms.length = 0 := by
        have := (List.getElem?_eq_some_iff.1 h1).1
        simp at this
        omega
      rw [this] at h1
      simp at h1
      exact .inr ⟨by omega, h1.symm⟩
  have hle : ∀ (i n : Nat), Z.ms[i]? = some n → n ≤ Z.cs.length := fun i n h1 => by
    obtain ⟨hi, _⟩ := List.getElem?_eq_some_iff.1 h1
    exact (h.at_ i n _ h1 (List.getElem?_eq_getElem (by omega))).1
  refine ⟨by rw [hm, List.length_append, List.length_append, hln]; rfl, by rw [hm, List.length_append]; simp; omega, fun i n s h1 h2 => ?_, fun i j n m hij h1 h2 => ?_⟩
  · rw [hm] at h1
    rw [hc]
    rcases key i n h1 with ⟨hi, h1⟩ | ⟨rfl, rfl⟩
    · rw [List.getElem?_append_left (by omega)] at h2
      exact h.at_ i n s h1 h2
    · rw [List.getElem?_append_right (by omega), ← hln] at h2
      simp at h2
      subst h2
      exact ⟨Nat.le_refl _, by rw [List.drop_length]; rfl⟩
  · rw [hm] at h1 h2
    rcases key i n h1 with ⟨hi, h1⟩ | ⟨rfl, rfl⟩ <;> rcases key j m h2 with ⟨hj, h2⟩ | ⟨rfl, rfl⟩
    · exact h.mono i j n m hij h1 h2
    · exact hle i n h1
    · omega
    · exact Nat.le_refl _
/-- A mark is let go of. -/
theorem Sv.keep (h : Sv Z S Q) {k : Nat} (hm : Z'.ms = Z.ms.take (k - 1)) (hc : Z'.cs = (if k = 1 then [] else Z.cs)) : Sv Z' S (Q.take (k - 1)) := by
  have hln := h.len
  have hmx := h.m16
  refine ⟨by rw [hm, List.length_take, List.length_take, hln], by rw [hm, List.length_take]; omega, fun i n s h1 h2 => ?_, fun i j n m hij h1 h2 => ?_⟩
  · rw [hm, List.getElem?_take] at h1
    rw [List.getElem?_take] at h2
    split at h1
    · rename_i hi
      rw [if_pos hi] at h2
      rw [hc, if_neg (by omega)]
      exact h.at_ i n s h1 h2
    · cases h1
  · rw [hm, List.getElem?_take] at h1 h2
    split at h1
    · split at h2
      · exact h.mono i j n m hij h1 h2
      · cases h2
    · cases h1
/-- A mark is taken back. -/
theorem Sv.undo (h : Sv Z S Q) {k n : Nat} (hn : Z.ms[k - 1]? = some n) {s : LS} (hq : Q[k - 1]? = some s) (hm : Z'.ms = Z.ms.take (k - 1)) (hc : Z'.cs = (if k = 1 then [] else Z.cs.take n)) : Sv Z' s (Q.take (k - 1)) := by
  have hln := h.len
  have hmx := h.m16
  obtain ⟨g1, g2⟩ := h.at_ _ _ _ hn hq
  refine ⟨by rw [hm, List.length_take, List.length_take, hln], by rw [hm, List.length_take]; omega, fun i n' s' h1 h2 => ?_, fun i j n m hij h1 h2 => ?_⟩
  · rw [hm, List.getElem?_take] at h1
    rw [List.getElem?_take] at h2
    split at h1
    · rename_i hi
      rw [if_pos hi] at h2
      rw [hc, if_neg (by omega)]
      have hle := h.mono i (k - 1) n' n (by omega) h1 hn
      obtain ⟨g3, g4⟩ := h.at_ i n' s' h1 h2
      refine ⟨by rw [List.length_take]; omega, ?_⟩
      rw [← g2, ← undoAll_app, ← g4]
      congr 1
      have e : Z.cs = Z.cs.take n ++ Z.cs.drop n := (List.take_append_drop n Z.cs).symm
      conv => rhs; rw [e]
      rw [List.drop_append_of_le_length (by rw [List.length_take]; omega)]
    · cases h1
  · rw [hm, List.getElem?_take] at h1 h2
    split at h1
    · split at h2
      · exact h.mono i j _ m hij h1 h2
      · cases h2
    · cases h1
end
end Go.Proofs.Yteafdpmblbbpnaa
