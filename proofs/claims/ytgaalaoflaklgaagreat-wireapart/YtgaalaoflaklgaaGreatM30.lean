import Derived.Test.YtgaalaoflaklgaaGreatM29
import Derived.Test.YtgaalaoflaklgaaGreatM13
import Derived.Test.YtgaalaoflaklgaaGreatM21
namespace Go.Proofs.YtgaalaoflaklgaaGreat
open Go.RowKit Crc

/-- The fields of a record's kind. -/
def fsOf (k : Int) : List Fd := if k = 1 ∨ k = 3 then [.ballot] else if k = 2 then [.ballot, .slot, .batch] else if k = 4 then [.slot] else if k = 5 then [.slot, .snap] else []
theorem fsOf_len (k : Int) : (fsOf k).length ≤ 5 := by
  unfold fsOf
  split
  · simp
  · split
    · simp
    · split
      · simp
      · split <;> simp
theorem recF_any (k : Int) (t : TypeId) (a : Addr) (w : World) :
    Calls Tryz.prog 31 #[.int .i64 k, .iface t (.pointer (some a))] w fun e w' => (fsOf k = [] ∧ e = .returned (.slice none 0 0) ∧ w' = w) ∨ (fsOf k ≠ [] ∧ e = .returned (.slice (some ⟨w.heap.size, 0, none⟩) (fsOf k).length (fsOf k).length) ∧ Hid (w'.heap[w.heap.size]? = some (.cells ((fsOf k).map fun f => mv f.name (.iface t (.pointer (some a)))).toArray 1 (0, 0)) ∧ Below w.heap.size w w')) := by
  by_cases h1 : k = 1 ∨ k = 3
  · have e : fsOf k = [.ballot] := if_pos h1
    rw [e]
    refine (recList_1 k h1 t a w).mono ?_
    rintro x w' ⟨rfl, rfl⟩
    exact .inr ⟨by simp, rfl, alloc_at _ _, below_alloc1 _ _⟩
  · by_cases h2 : k = 2
    · have e : fsOf k = [.ballot, .slot, .batch] := by unfold fsOf; rw [if_neg h1, if_pos h2]
      rw [e]
      subst h2
      refine (recList_2 t a w).mono ?_
      rintro x w' ⟨rfl, h3, h4⟩
      exact .inr ⟨by simp, rfl, h3, h4⟩
    · by_cases h4 : k = 4
      · have e : fsOf k = [.slot] := by unfold fsOf; rw [if_neg h1, if_neg h2, if_pos h4]
        rw [e]
        subst h4
        refine (recList_4 t a w).mono ?_
        rintro x w' ⟨rfl, rfl⟩
        exact .inr ⟨by simp, rfl, alloc_at _ _, below_alloc1 _ _⟩
      · by_cases h5 : k = 5
        · have e : fsOf k = [.slot, .snap] := by unfold fsOf; rw [if_neg h1, if_neg h2, if_neg h4, if_pos h5]
          rw [e]
          subst h5
          refine (recList_5 t a w).mono ?_
          rintro x w' ⟨rfl, h3, h4⟩
          exact .inr ⟨by simp, rfl, h3, h4⟩
        · have e : fsOf k = [] := by unfold fsOf; rw [if_neg h1, if_neg h2, if_neg h4, if_neg h5]
          rw [e]
          refine (recList_0 k (by omega) t a w).mono ?_
          rintro x w' ⟨rfl, rfl⟩
          exact .inl ⟨rfl, rfl, rfl⟩

/-- What is read of a record: its kind, the fault and its place, the values. -/
def rk (B : List Nat) : Nat := hi (aheadV (RS1 B).rest 1)
def rs1 (B : List Nat) : RS := (RS1 B).step 1 (aheadW (RS1 B).rest 1)
def rv0 : Rv := ⟨0, 0, 0, 0, [], []⟩
def recS (B : List Nat) : RS × Rv := frun (fsOf (rk B)) (rs1 B) rv0
instance fdNil (f : List Fd) : Decidable (f = []) := by
  cases f
  · exact isTrue rfl
  · exact isFalse (by simp)
def recC (B : List Nat) : Int := if (rs1 B).sound then (if fsOf (rk B) = [] then 25 else (recS B).1.endC) else (rs1 B).errC
def recA (B : List Nat) : Int := if (rs1 B).sound then (if fsOf (rk B) = [] then 0 else (recS B).1.endA) else (rs1 B).errA
def recV (B : List Nat) : Rv := if recC B = 0 then (recS B).2 else rv0
def recK (B : List Nat) : Nat := if recC B = 0 then rk B else 0
def mc0 : Mc := ⟨0, 0, 0, 0, .slice none 0 0, [], .slice none 0 0, []⟩
end Go.Proofs.YtgaalaoflaklgaaGreat
namespace Go.Proofs.YtgaalaoflaklgaaGreat
open Go.RowKit Crc

/-- A number that is taken is one that was laid down just so. -/
theorem numGo_inv : ∀ (B : List Nat) (i n : Nat), i ≤ 9 → (∀ x ∈ B, x < 256) → (numGo B i n).2.2 = 0 → ∃ v, (numGo B i n).1 = n + v * 2 ^ (7 * i) ∧ (0 < i → 0 < v) ∧ (numGo B i n).2.1 = i + (numTo (9 - i) v).length ∧ B = numTo (9 - i) v ++ B.drop (numTo (9 - i) v).length
  | [], _, _, _, _, h => by cases h
  | c :: r, i, n, hi, hB, h => by
    have hc : c < 256 := hB c (by simp)
    rw [numGo] at h ⊢
    by_cases h1 : i = 9 ∧ 1 < c
    · rw [if_pos h1] at h; cases h
    · rw [if_neg h1] at h ⊢
      by_cases h2 : 128 ≤ c
      · rw [if_pos h2] at h ⊢
        obtain ⟨v, e1, e2, e3, e4⟩ := numGo_inv r (i + 1) _ (by omega) (fun x hx => hB x (by simp [hx])) h
        have e2 := e2 (by omega)
        have ef : 9 - i = (9 - (i + 1)) + 1 := by omega
        have en : numTo (9 - i) (c % 128 + 128 * v) = c :: numTo (9 - (i + 1)) v := by
          rw [ef, numTo, if_neg (by omega)]
          congr 1
          · omega
          · congr 1; omega
        refine ⟨c % 128 + 128 * v, ?_, fun _ => by omega, ?_, ?_⟩
        · rw [e1, show 7 * (i + 1) = 7 + 7 * i by omega, Nat.pow_add, show (2 : Nat) ^ 7 = 128 from rfl, Nat.add_mul, ← Nat.mul_assoc, Nat.mul_comm 128 v]
          omega
        · rw [e3, en, List.length_cons]; omega
        · rw [en, List.length_cons, List.drop_succ_cons, List.cons_append, ← e4]
      · rw [if_neg h2] at h ⊢
        by_cases h3 : c = 0 ∧ 0 < i
        · rw [if_pos h3] at h; cases h
        · rw [if_neg h3]
          have en : numTo (9 - i) c = [c] := by
            cases 9 - i with
            | zero => rfl
            | succ f => rw [numTo, if_pos (by omega)]
          refine ⟨c, by rw [Nat.mod_eq_of_lt (by omega)], fun _ => by omega, by rw [en]; rfl, by rw [en]; rfl⟩
theorem numAt_inv {B : List Nat} (hB : ∀ x ∈ B, x < 256) (h : (numAt B).2.2 = 0) : (numAt B).2.1 = (numB (numAt B).1).length ∧ B = numB (numAt B).1 ++ B.drop (numAt B).2.1 := by
  unfold numAt numB at *
  obtain ⟨v, e1, e2, e3, e4⟩ := numGo_inv B 0 0 (by omega) hB h
  have ev : (numGo B 0 0).1 = v := by rw [e1]; simp
  rw [ev, e3]
  rw [Nat.zero_add]
  exact ⟨rfl, e4⟩
theorem countAt_inv {B : List Nat} {most : Int} (hB : ∀ x ∈ B, x < 256) (h : (countAt B most).2.2 = 0) : ((countAt B most).1 : Int) ≤ most ∧ (countAt B most).2.1 = (numB (countAt B most).1).length ∧ B = numB (countAt B most).1 ++ B.drop (countAt B most).2.1 := by
  unfold countAt at h ⊢
  by_cases h1 : (numAt B).2.2 ≠ 0
  · rw [if_pos h1] at h; exact absurd h h1
  · rw [if_neg h1] at h ⊢
    by_cases h2 : most < ((numAt B).1 : Int)
    · rw [if_pos h2] at h; cases h
    · rw [if_neg h2]
      exact ⟨by show ((numAt B).1 : Int) ≤ most; omega, numAt_inv hB (Classical.not_not.1 h1)⟩
theorem blobAt_inv {B : List Nat} {most : Int} (hB : ∀ x ∈ B, x < 256) (h : (blobAt B most).2.2 = 0) : ((blobAt B most).1.length : Int) ≤ most ∧ B = numB (blobAt B most).1.length ++ ((blobAt B most).1 ++ B.drop (blobAt B most).2.1) := by
  unfold blobAt at h ⊢
  by_cases h1 : (countAt B most).2.2 ≠ 0
  · rw [if_pos h1] at h; exact absurd h h1
  · rw [if_neg h1] at h ⊢
    by_cases h2 : B.length < (countAt B most).2.1 + (countAt B most).1
    · rw [if_pos h2] at h; cases h
    · rw [if_neg h2]
      obtain ⟨e1, e2, e3⟩ := countAt_inv hB (Classical.not_not.1 h1)
      have hl : ((B.drop (countAt B most).2.1).take (countAt B most).1).length = (countAt B most).1 := by
        rw [List.length_take, List.length_drop]; omega
      simp only [hl]
      refine ⟨e1, ?_⟩
      rw [← List.drop_drop, List.take_append_drop]
      exact e3

/-- A reader's steps. -/
theorem step_inv {s : RS} {z : Nat} {y : Int} (hs : s.sound) (h : (s.step z y).sound) : y = 0 ∧ (s.step z y).rest = s.rest.drop z := by
  unfold RS.step at h ⊢
  rw [if_pos hs] at h ⊢
  by_cases hy : y = 0
  · rw [if_pos hy]
    refine ⟨hy, ?_⟩
    have hs' : s.made = true ∧ s.why = 0 := hs
    show (if s.made = true ∧ s.why = 0 then s.B.drop (s.pos + z) else []) = (if s.made = true ∧ s.why = 0 then s.B.drop s.pos else []).drop z
    rw [if_pos hs', if_pos hs', List.drop_drop]
  · rw [if_neg hy] at h; exact absurd h.2 hy
theorem step_fwd {s : RS} (z : Nat) (hs : s.sound) : (s.step z 0).sound ∧ (s.step z 0).rest = s.rest.drop z := by
  have h : (s.step z 0).sound := by unfold RS.step; rw [if_pos hs, if_pos rfl]; exact hs
  exact ⟨h, (step_inv hs h).2⟩
theorem drop_len {X R : List Nat} : (X ++ R).drop X.length = R := List.drop_left
theorem num_inv {s : RS} (hb : ∀ x ∈ s.rest, x < 256) (hs : s.sound) (h : (rdNum s).sound) : s.rest = numB (numAt s.rest).1 ++ (rdNum s).rest := by
  unfold rdNum at h ⊢
  obtain ⟨e1, e2⟩ := step_inv hs h
  rw [e2]
  exact (numAt_inv hb e1).2
theorem num_fwd {s : RS} {v : Nat} {R : List Nat} (hs : s.sound) (hv : v < 18446744073709551616) (h : s.rest = numB v ++ R) : (numAt s.rest).1 = v ∧ (rdNum s).sound ∧ (rdNum s).rest = R := by
  have e := numAt_numB v R hv
  unfold rdNum
  rw [h, e]
  dsimp only
  refine ⟨rfl, (step_fwd _ hs).1, ?_⟩
  rw [(step_fwd _ hs).2, h]
  exact drop_len
theorem failP_not {s : RS} {a y : Int} (hy : y ≠ 0) : ¬ (s.failP a y).sound := by
  unfold RS.failP
  by_cases h : s.sound
  · rw [if_pos h]; exact fun x => hy x.2
  · rw [if_neg h]; exact h
theorem bound_inv {s : RS} {a b : Nat} (hb : ∀ x ∈ s.rest, x < 256) (hs : s.sound) (h : (rdBound s a b).sound) : s.rest = numB (numAt s.rest).1 ++ (rdBound s a b).rest ∧ a ≤ (numAt s.rest).1 ∧ (numAt s.rest).1 ≤ b := by
  unfold rdBound at h ⊢
  by_cases hy : bndY (numAt s.rest).1 a b = 0
  · rw [if_pos hy] at h ⊢
    refine ⟨num_inv hb hs h, ?_⟩
    unfold bndY at hy
    by_cases hx : (numAt s.rest).1 < a ∨ b < (numAt s.rest).1
    · rw [if_pos hx] at hy; cases hy
    · omega
  · rw [if_neg hy] at h; exact absurd h (failP_not (by decide))
theorem bound_fwd {s : RS} {v a b : Nat} {R : List Nat} (hs : s.sound) (hv : v < 18446744073709551616) (ha : a ≤ v) (hb : v ≤ b) (h : s.rest = numB v ++ R) : (numAt s.rest).1 = v ∧ (rdBound s a b).sound ∧ (rdBound s a b).rest = R := by
  obtain ⟨e1, e2, e3⟩ := num_fwd hs hv h
  have e : rdBound s a b = rdNum s := by
    have e0 : bndY v a b = 0 := by unfold bndY; rw [if_neg (by omega)]
    unfold rdBound
    rw [e1, if_pos e0]
  rw [e]; exact ⟨e1, e2, e3⟩
theorem blob_inv {s : RS} {most : Int} (hb : ∀ x ∈ s.rest, x < 256) (hs : s.sound) (h : (s.step (blobAt s.rest most).2.1 (blobAt s.rest most).2.2).sound) : ((blobAt s.rest most).1.length : Int) ≤ most ∧ s.rest = numB (blobAt s.rest most).1.length ++ ((blobAt s.rest most).1 ++ (s.step (blobAt s.rest most).2.1 (blobAt s.rest most).2.2).rest) := by
  obtain ⟨e1, e2⟩ := step_inv hs h
  rw [e2]
  exact blobAt_inv hb e1
theorem blob_fwd {s : RS} {most : Int} {C R : List Nat} (hs : s.sound) (hv : C.length < 18446744073709551616) (hm : (C.length : Int) ≤ most) (h : s.rest = numB C.length ++ (C ++ R)) : (blobAt s.rest most).1 = C ∧ (s.step (blobAt s.rest most).2.1 (blobAt s.rest most).2.2).sound ∧ (s.step (blobAt s.rest most).2.1 (blobAt s.rest most).2.2).rest = R := by
  have e := blobAt_numB C R most hv hm
  rw [h, e]
  dsimp only
  refine ⟨rfl, (step_fwd _ hs).1, ?_⟩
  rw [(step_fwd _ hs).2, h, ← List.append_assoc, ← List.length_append]
  exact drop_len
theorem count_inv {s : RS} {most : Int} (hb : ∀ x ∈ s.rest, x < 256) (hs : s.sound) (h : (s.step (countAt s.rest most).2.1 (countAt s.rest most).2.2).sound) : ((countAt s.rest most).1 : Int) ≤ most ∧ s.rest = numB (countAt s.rest most).1 ++ (s.step (countAt s.rest most).2.1 (countAt s.rest most).2.2).rest := by
  obtain ⟨e1, e2⟩ := step_inv hs h
  rw [e2]
  exact ⟨(countAt_inv hb e1).1, (countAt_inv hb e1).2.2⟩
theorem count_fwd {s : RS} {most : Int} {v : Nat} {R : List Nat} (hs : s.sound) (hv : v < 18446744073709551616) (hm : (v : Int) ≤ most) (h : s.rest = numB v ++ R) : (countAt s.rest most).1 = v ∧ (s.step (countAt s.rest most).2.1 (countAt s.rest most).2.2).sound ∧ (s.step (countAt s.rest most).2.1 (countAt s.rest most).2.2).rest = R := by
  have e := countAt_numB v R most hv hm
  rw [h, e]
  dsimp only
  refine ⟨rfl, (step_fwd _ hs).1, ?_⟩
  rw [(step_fwd _ hs).2, h]
  exact drop_len
theorem tail_lt {X R Y : List Nat} (hb : ∀ x ∈ Y, x < 256) (h : Y = X ++ R) : ∀ x ∈ R, x < 256 := fun x hx => hb x (by rw [h]; simp [hx])

/-- A request that is read, and its bytes. -/
def encV (v : Nat × Nat × List Nat) : List Nat := numB v.1 ++ (numB v.2.1 ++ (numB v.2.2.length ++ v.2.2))
def VOk (v : Nat × Nat × List Nat) : Prop := 256 ≤ v.1 ∧ v.1 < 18446744073709551616 ∧ v.2.1 < 18446744073709551616 ∧ v.2.2.length ≤ 700
theorem rq_inv {s : RS} (hb : ∀ x ∈ s.rest, x < 256) (hs : s.sound) (h : (rqS3 s).sound) : s.rest = encV (rqV s) ++ (rqS3 s).rest ∧ VOk (rqV s) := by
  have h2 : (rqS2 s).sound := Classical.byContradiction fun x => x (by have e : rqS3 s = rqS2 s := step_dead x _ _; rw [← e]; exact h)
  have h1 : (rqS1 s).sound := Classical.byContradiction fun x => x (by have e : rqS2 s = rqS1 s := rdNum_dead x; rw [← e]; exact h2)
  obtain ⟨a1, a2, a3⟩ := bound_inv hb hs h1
  have b1 := tail_lt hb a1
  have a4 := num_inv b1 h1 h2
  have b2 := tail_lt b1 a4
  obtain ⟨a5, a6⟩ := blob_inv b2 h2 h
  refine ⟨?_, a2, (numAt_ok _).1, (numAt_ok _).1, by exact Int.ofNat_le.1 a5⟩
  unfold encV rqV
  dsimp only
  rw [List.append_assoc, List.append_assoc, List.append_assoc]
  exact a1.trans (congrArg _ (a4.trans (congrArg _ a6)))
theorem rq_fwd {s : RS} {v : Nat × Nat × List Nat} {R : List Nat} (hs : s.sound) (hv : VOk v) (h : s.rest = encV v ++ R) : rqV s = v ∧ (rqS3 s).sound ∧ (rqS3 s).rest = R := by
  obtain ⟨x, y, C⟩ := v
  obtain ⟨v1, v2, v3, v4⟩ := hv
  dsimp only at v1 v2 v3 v4
  unfold encV at h
  simp only [List.append_assoc] at h
  obtain ⟨a1, a2, a3⟩ := bound_fwd (a := 256) (b := 18446744073709551615) hs v2 v1 (by omega) h
  obtain ⟨b1, b2, b3⟩ := num_fwd (s := rqS1 s) a2 v3 a3
  obtain ⟨c1, c2, c3⟩ := blob_fwd (s := rqS2 s) (most := 700) b2 (by omega) (by omega) b3
  refine ⟨?_, c2, c3⟩
  unfold rqV
  rw [a1, b1, c1]
theorem go_inv : ∀ (n : Nat) (s : RS), (∀ x ∈ s.rest, x < 256) → s.sound → (rdGo n s).2.sound → s.rest = ((rdGo n s).1.map encV).flatten ++ (rdGo n s).2.rest ∧ (∀ v ∈ (rdGo n s).1, VOk v) ∧ (rdGo n s).1.length = n
  | 0, s, _, _, _ => by simp [rdGo]
  | n + 1, s, hb, hs, h => by
    rw [rdGo] at h ⊢
    dsimp only at h ⊢
    have h1 : (rqS3 s).sound := Classical.byContradiction fun x => x (by rw [rdGo_dead n _ x] at h; exact h)
    obtain ⟨a1, a2⟩ := rq_inv hb hs h1
    obtain ⟨b1, b2, b3⟩ := go_inv n (rqS3 s) (tail_lt hb a1) h1 h
    refine ⟨?_, ?_, by rw [List.length_cons, b3]⟩
    · rw [List.map_cons, List.flatten_cons, List.append_assoc, ← b1]; exact a1
    · intro v hv
      rcases List.mem_cons.1 hv with rfl | hv
      · exact a2
      · exact b2 v hv
theorem go_fwd : ∀ (V : List (Nat × Nat × List Nat)) (s : RS) (R : List Nat), s.sound → (∀ v ∈ V, VOk v) → s.rest = (V.map encV).flatten ++ R → (rdGo V.length s).1 = V ∧ (rdGo V.length s).2.sound ∧ (rdGo V.length s).2.rest = R
  | [], s, R, hs, _, h => ⟨rfl, hs, by simpa [rdGo] using h⟩
  | v :: V, s, R, hs, hV, h => by
    rw [List.map_cons, List.flatten_cons, List.append_assoc] at h
    obtain ⟨a1, a2, a3⟩ := rq_fwd hs (hV v (by simp)) h
    obtain ⟨b1, b2, b3⟩ := go_fwd V (rqS3 s) R a2 (fun x hx => hV x (by simp [hx])) a3
    rw [List.length_cons, rdGo]
    dsimp only
    exact ⟨by rw [a1, b1], b2, b3⟩

/-- A batch that is read, and its bytes. -/
def encVs (st : Nat) (V : List (Nat × Nat × List Nat)) : List Nat := numB st ++ (numB V.length ++ (V.map encV).flatten)
def VsOk (st : Nat) (V : List (Nat × Nat × List Nat)) : Prop := st ≤ 1099511627776 ∧ V.length ≤ 8 ∧ ∀ v ∈ V, VOk v
theorem bat_inv {s : RS} (hb : ∀ x ∈ s.rest, x < 256) (hs : s.sound) (h : (bEnd s).sound) : s.rest = encVs (numAt s.rest).1 (bVals s) ++ (bEnd s).rest ∧ VsOk (numAt s.rest).1 (bVals s) := by
  have h2 : (bS2 s).sound := Classical.byContradiction fun x => x (by have e : bEnd s = bS2 s := rdGo_dead _ _ x; rw [← e]; exact h)
  have h1 : (bS1 s).sound := Classical.byContradiction fun x => x (by have e : bS2 s = bS1 s := step_dead x _ _; rw [← e]; exact h2)
  obtain ⟨a1, a2, a3⟩ := bound_inv hb hs h1
  have b1 := tail_lt hb a1
  obtain ⟨a4, a5⟩ := count_inv b1 h1 h2
  obtain ⟨c1, c2, c3⟩ := go_inv (bN s) (bS2 s) (tail_lt b1 a5) h2 h
  refine ⟨?_, a3, ?_, c2⟩
  · unfold encVs
    rw [List.append_assoc, List.append_assoc]
    refine a1.trans (congrArg _ (a5.trans ?_))
    rw [show (bVals s).length = (countAt (bS1 s).rest 8).1 from c3]
    exact congrArg _ c1
  · have a4 : ((countAt (bS1 s).rest 8).1 : Int) ≤ 8 := a4
    rw [show (bVals s).length = (countAt (bS1 s).rest 8).1 from c3]; omega
theorem bat_fwd {s : RS} {st : Nat} {V : List (Nat × Nat × List Nat)} {R : List Nat} (hs : s.sound) (hV : VsOk st V) (h : s.rest = encVs st V ++ R) : (numAt s.rest).1 = st ∧ bVals s = V ∧ (bEnd s).sound ∧ (bEnd s).rest = R := by
  obtain ⟨v1, v2, v3⟩ := hV
  unfold encVs at h
  rw [List.append_assoc, List.append_assoc] at h
  obtain ⟨a1, a2, a3⟩ := bound_fwd (a := 0) (b := 1099511627776) hs (by omega) (by omega) v1 h
  obtain ⟨b1, b2, b3⟩ := count_fwd (s := bS1 s) (most := 8) a2 (by omega) (by omega) a3
  have e : bN s = V.length := b1
  obtain ⟨c1, c2, c3⟩ := go_fwd V (bS2 s) R b2 v3 b3
  refine ⟨a1, ?_, ?_, ?_⟩
  · unfold bVals; rw [e]; exact c1
  · unfold bEnd; rw [e]; exact c2
  · unfold bEnd; rw [e]; exact c3
end Go.Proofs.YtgaalaoflaklgaaGreat
namespace Go.Proofs.YtgaalaoflaklgaaGreat
open Go.RowKit Crc

theorem big1 {x : Nat} (h : x < 256) : big x 1 = [x] := by
  show [x / 2 ^ (8 * (1 - 1 - 0)) % 256] = [x]
  rw [show 8 * (1 - 1 - 0) = 0 from rfl, Nat.pow_zero, Nat.div_one, Nat.mod_eq_of_lt h]
theorem byte_inv {s : RS} (hb : ∀ x ∈ s.rest, x < 256) (hs : s.sound) (h : (s.step 1 (aheadW s.rest 1)).sound) : s.rest = big (hi (aheadV s.rest 1)) 1 ++ (s.step 1 (aheadW s.rest 1)).rest := by
  obtain ⟨e1, e2⟩ := step_inv hs h
  rw [e2]
  unfold aheadW at e1
  by_cases hl : s.rest.length < 1
  · rw [if_pos hl] at e1; cases e1
  · unfold aheadV
    rw [if_neg hl]
    cases hr : s.rest with
    | nil => rw [hr] at hl; exact absurd (by decide) hl
    | cons c t =>
      have hc : c < 256 := hb c (by rw [hr]; simp)
      rw [show (c :: t).take 1 = [c] from rfl, show hi [c] = c by simp [hi], big1 hc]
      rfl
theorem byte_fwd {s : RS} {v : Nat} {R : List Nat} (hs : s.sound) (hv : v < 256) (h : s.rest = big v 1 ++ R) : hi (aheadV s.rest 1) = v ∧ (s.step 1 (aheadW s.rest 1)).sound ∧ (s.step 1 (aheadW s.rest 1)).rest = R := by
  obtain ⟨e1, e2⟩ := ahead_big v 1 R (by omega)
  rw [← h] at e1 e2
  rw [e2]
  refine ⟨e1, (step_fwd _ hs).1, ?_⟩
  rw [(step_fwd _ hs).2, h, big1 hv]
  rfl
theorem bal_inv {s : RS} (hb : ∀ x ∈ s.rest, x < 256) (hs : s.sound) (h : (balS s).sound) : s.rest = numB (numAt s.rest).1 ++ (big (nodeV s) 1 ++ (balS s).rest) ∧ (numAt s.rest).1 ≤ 1099511627776 ∧ nodeV s ≤ 6 := by
  unfold balS at h ⊢
  by_cases h6 : 6 < nodeV s
  · rw [if_pos h6] at h; exact absurd h (failP_not (by decide))
  · rw [if_neg h6] at h ⊢
    have h1 : (balS1 s).sound := Classical.byContradiction fun x => x (by have e : balS2 s = balS1 s := step_dead x _ _; rw [← e]; exact h)
    obtain ⟨a1, a2, a3⟩ := bound_inv hb hs h1
    exact ⟨a1.trans (congrArg _ (byte_inv (tail_lt hb a1) h1 h)), a3, by omega⟩
theorem bal_fwd {s : RS} {num node : Nat} {R : List Nat} (hs : s.sound) (hn : num ≤ 1099511627776) (h6 : node ≤ 6) (h : s.rest = numB num ++ (big node 1 ++ R)) : (numAt s.rest).1 = num ∧ nodeV s = node ∧ (balS s).sound ∧ (balS s).rest = R := by
  obtain ⟨a1, a2, a3⟩ := bound_fwd (a := 0) (b := 1099511627776) hs (by omega) (by omega) hn h
  obtain ⟨b1, b2, b3⟩ := byte_fwd (s := balS1 s) a2 (by omega) a3
  have e : nodeV s = node := b1
  have eb : balS s = balS2 s := by unfold balS; rw [if_neg (by omega)]
  rw [eb]
  exact ⟨a1, e, b2, b3⟩

/-- A record that is read: what it may be, and its bytes. -/
def Rv.bytes (k : Nat) (v : Rv) : List Nat := big k 1 ++ (if k = 1 ∨ k = 3 then numB v.num ++ big v.node 1 else if k = 2 then numB v.num ++ (big v.node 1 ++ (numB v.slot ++ encVs v.stamp v.V)) else if k = 4 then numB v.slot else numB v.slot ++ (numB v.D.length ++ v.D))
structure Rv.Ok (k : Nat) (v : Rv) : Prop where
  k1 : 1 ≤ k
  k5 : k ≤ 5
  bal : v.num ≤ 1099511627776 ∧ v.node ≤ 6
  bal0 : 3 < k → v.num = 0 ∧ v.node = 0
  slot : v.slot ≤ 1099511627776
  slot0 : k = 1 ∨ k = 3 → v.slot = 0
  bat : VsOk v.stamp v.V
  bat0 : k ≠ 2 → v.stamp = 0 ∧ v.V = []
  dat : v.D.length ≤ 40000
  dat0 : k ≠ 5 → v.D = []
theorem vs0 : VsOk 0 [] := ⟨by omega, by simp, fun v hv => by simp at hv⟩
theorem frun1 (f : Fd) (s : RS) (v : Rv) : frun [f] s v = (f.nxt s, f.upd s v) := rfl
theorem frun2 (f g : Fd) (s : RS) (v : Rv) : frun [f, g] s v = (g.nxt (f.nxt s), g.upd (f.nxt s) (f.upd s v)) := rfl
theorem frun3 (f g h : Fd) (s : RS) (v : Rv) : frun [f, g, h] s v = (h.nxt (g.nxt (f.nxt s)), h.upd (g.nxt (f.nxt s)) (g.upd (f.nxt s) (f.upd s v))) := rfl
theorem nxt_sound (f : Fd) {s : RS} (h : (f.nxt s).sound) : s.sound := Classical.byContradiction fun x => x (by rw [nxt_dead f x] at h; exact h)
theorem end_rest {s : RS} (h : s.endC = 0) : s.sound ∧ s.rest = [] := by
  have hs := endC_sound h
  refine ⟨hs, ?_⟩
  unfold RS.endC at h
  rw [if_pos hs] at h
  by_cases hp : s.pos < s.B.length
  · rw [if_pos hp] at h; cases h
  · have hs' : s.made = true ∧ s.why = 0 := hs
    unfold RS.rest restB
    rw [if_pos hs']
    exact List.drop_of_length_le (by omega)
theorem rest_end {s : RS} (h : s.sound) (hr : s.rest = []) : s.endC = 0 := by
  have hs' : s.made = true ∧ s.why = 0 := h
  unfold RS.rest restB at hr
  rw [if_pos hs'] at hr
  unfold RS.endC
  rw [if_pos h, if_neg (by have := List.drop_eq_nil_iff.1 hr; omega)]
theorem rs1_rest (B : List Nat) : (RS1 B).sound ∧ (RS1 B).rest = B := ⟨⟨rfl, rfl⟩, rfl⟩
theorem fs_case (k : Nat) : fsOf (k : Int) = if k = 1 ∨ k = 3 then [.ballot] else if k = 2 then [.ballot, .slot, .batch] else if k = 4 then [.slot] else if k = 5 then [.slot, .snap] else [] := by
  unfold fsOf
  have e : ∀ n : Nat, ((k : Int) = (n : Int)) = (k = n) := fun n => propext (by omega)
  have e1 := e 1
  have e2 := e 2
  have e3 := e 3
  have e4 := e 4
  have e5 := e 5
  simp only [Int.cast_ofNat_Int] at e1 e2 e3 e4 e5
  simp only [e1, e2, e3, e4, e5]
theorem frA (s : RS) : frun [.ballot] s rv0 = (balS s, ⟨(numAt s.rest).1, nodeV s, 0, 0, [], []⟩) := rfl
theorem frB (s : RS) : frun [.ballot, .slot, .batch] s rv0 = (bEnd (rdBound (balS s) 0 1099511627776), ⟨(numAt s.rest).1, nodeV s, (numAt (balS s).rest).1, (numAt (rdBound (balS s) 0 1099511627776).rest).1, bVals (rdBound (balS s) 0 1099511627776), []⟩) := rfl
theorem frC (s : RS) : frun [.slot] s rv0 = (rdBound s 0 1099511627776, ⟨0, 0, (numAt s.rest).1, 0, [], []⟩) := rfl
theorem frD (s : RS) : frun [.slot, .snap] s rv0 = ((rdBound s 0 1099511627776).step (blobAt (rdBound s 0 1099511627776).rest 40000).2.1 (blobAt (rdBound s 0 1099511627776).rest 40000).2.2, ⟨0, 0, (numAt s.rest).1, 0, [], (blobAt (rdBound s 0 1099511627776).rest 40000).1⟩) := rfl
theorem bound_sound {s : RS} {a b : Nat} (h : (rdBound s a b).sound) : s.sound := Classical.byContradiction fun x => x (by rw [rdBound_dead x] at h; exact h)
theorem bEnd_sound {s : RS} (h : (bEnd s).sound) : s.sound := nxt_sound .batch h
theorem step_sound {s : RS} {z : Nat} {y : Int} (h : (s.step z y).sound) : s.sound := Classical.byContradiction fun x => x (by rw [step_dead x] at h; exact h)
theorem recS_eq (B : List Nat) : recS B = frun (fsOf (rk B)) (rs1 B) rv0 := rfl
/-- What stands behind the kind. -/
theorem rec_at {k : Nat} {t : RS} (hs : t.sound) (hb : ∀ x ∈ t.rest, x < 256) (hf : fsOf (k : Int) ≠ []) (he : (frun (fsOf (k : Int)) t rv0).1.sound) (hr : (frun (fsOf (k : Int)) t rv0).1.rest = []) :
    Rv.bytes k (frun (fsOf (k : Int)) t rv0).2 = big k 1 ++ t.rest ∧ Rv.Ok k (frun (fsOf (k : Int)) t rv0).2 := by
  rw [fs_case] at hf
  by_cases c1 : k = 1 ∨ k = 3
  · have ef : fsOf (k : Int) = [.ballot] := by rw [fs_case, if_pos c1]
    have f1 : 1 ≤ k := by omega
    have f2 : k ≤ 5 := by omega
    have f3 : ¬ 3 < k := by omega
    rw [ef, frA] at he hr ⊢
    dsimp only at he hr ⊢
    unfold Rv.bytes
    rw [if_pos c1]
    obtain ⟨x1, x2, x3⟩ := bal_inv hb hs he
    rw [hr, List.append_nil] at x1
    exact ⟨congrArg _ x1.symm, f1, f2, ⟨x2, x3⟩, fun x => absurd x f3, Nat.zero_le _, fun _ => rfl, vs0, fun _ => ⟨rfl, rfl⟩, Nat.zero_le _, fun _ => rfl⟩
  · rw [if_neg c1] at hf
    by_cases c2 : k = 2
    · have ef : fsOf (k : Int) = [.ballot, .slot, .batch] := by rw [fs_case, if_neg c1, if_pos c2]
      have f1 : 1 ≤ k := by omega
      have f2 : k ≤ 5 := by omega
      have f3 : ¬ 3 < k := by omega
      rw [ef, frB] at he hr ⊢
      dsimp only at he hr ⊢
      unfold Rv.bytes
      rw [if_neg c1, if_pos c2]
      have s2 := bEnd_sound he
      have s1 := bound_sound s2
      obtain ⟨x1, x2, x3⟩ := bal_inv hb hs s1
      have b2 : ∀ x ∈ (balS t).rest, x < 256 := tail_lt (tail_lt hb x1) rfl
      generalize balS t = v at *
      obtain ⟨y1, y2, y3⟩ := bound_inv b2 s1 s2
      generalize rdBound v 0 1099511627776 = u at *
      obtain ⟨z1, z2⟩ := bat_inv (tail_lt b2 y1) s2 he
      rw [hr, List.append_nil] at z1
      refine ⟨congrArg _ ?_, f1, f2, ⟨x2, x3⟩, fun x => absurd x f3, y3, fun x => absurd x c1, z2, fun x => absurd c2 x, Nat.zero_le _, fun _ => rfl⟩
      exact (x1.trans (congrArg _ (congrArg _ (y1.trans (congrArg _ z1))))).symm
    · rw [if_neg c2] at hf
      by_cases c4 : k = 4
      · have ef : fsOf (k : Int) = [.slot] := by rw [fs_case, if_neg c1, if_neg c2, if_pos c4]
        have f1 : 1 ≤ k := by omega
        have f2 : k ≤ 5 := by omega
        rw [ef, frC] at he hr ⊢
        dsimp only at he hr ⊢
        unfold Rv.bytes
        rw [if_neg c1, if_neg c2, if_pos c4]
        obtain ⟨y1, y2, y3⟩ := bound_inv hb hs he
        rw [hr, List.append_nil] at y1
        exact ⟨congrArg _ y1.symm, f1, f2, ⟨Nat.zero_le _, Nat.zero_le _⟩, fun _ => ⟨rfl, rfl⟩, y3, fun x => absurd x c1, vs0, fun _ => ⟨rfl, rfl⟩, Nat.zero_le _, fun _ => rfl⟩
      · rw [if_neg c4] at hf
        by_cases c5 : k = 5
        · have ef : fsOf (k : Int) = [.slot, .snap] := by rw [fs_case, if_neg c1, if_neg c2, if_neg c4, if_pos c5]
          have f1 : 1 ≤ k := by omega
          have f2 : k ≤ 5 := by omega
          rw [ef, frD] at he hr ⊢
          dsimp only at he hr ⊢
          unfold Rv.bytes
          rw [if_neg c1, if_neg c2, if_neg c4]
          have s1 := step_sound he
          obtain ⟨y1, y2, y3⟩ := bound_inv hb hs s1
          generalize rdBound t 0 1099511627776 = u at *
          obtain ⟨z1, z2⟩ := blob_inv (most := 40000) (tail_lt hb y1) s1 he
          rw [hr, List.append_nil] at z2
          refine ⟨congrArg _ ?_, f1, f2, ⟨Nat.zero_le _, Nat.zero_le _⟩, fun _ => ⟨rfl, rfl⟩, y3, fun x => absurd x c1, vs0, fun _ => ⟨rfl, rfl⟩, Int.ofNat_le.1 z1, fun x => absurd c5 x⟩
          exact (y1.trans (congrArg _ z2)).symm
        · rw [if_neg c5] at hf; exact absurd rfl hf
theorem rec_inv {B : List Nat} (hb : ∀ x ∈ B, x < 256) (h : recC B = 0) : B = Rv.bytes (recK B) (recV B) ∧ Rv.Ok (recK B) (recV B) := by
  have hK : recK B = rk B := by unfold recK; rw [if_pos h]
  have hV : recV B = (recS B).2 := by unfold recV; rw [if_pos h]
  rw [hK, hV]
  unfold recC at h
  by_cases hs : (rs1 B).sound
  · rw [if_pos hs] at h
    by_cases hf : fsOf (rk B) = []
    · rw [if_pos hf] at h; cases h
    · rw [if_neg hf] at h
      obtain ⟨he, hr⟩ := end_rest h
      have a1 : B = big (rk B) 1 ++ (rs1 B).rest := by
        have := byte_inv (s := RS1 B) hb (rs1_rest B).1 hs
        exact this
      rw [recS_eq] at he hr ⊢
      obtain ⟨p, q⟩ := rec_at hs (tail_lt hb a1) hf he hr
      exact ⟨a1.trans p.symm, q⟩
  · rw [if_neg hs] at h
    exfalso
    unfold RS.errC at h
    by_cases hm : (rs1 B).made = true
    · rw [if_pos hm] at h; exact hs ⟨hm, h⟩
    · rw [if_neg hm] at h; cases h
/-- .. and the other way round. -/
theorem rec_to {k : Nat} {v : Rv} (hv : Rv.Ok k v) {t : RS} (hs : t.sound) (hr : big k 1 ++ t.rest = v.bytes k) : fsOf (k : Int) ≠ [] ∧ (frun (fsOf (k : Int)) t rv0).1.sound ∧ (frun (fsOf (k : Int)) t rv0).1.rest = [] ∧ (frun (fsOf (k : Int)) t rv0).2 = v := by
  have k1 := hv.k1
  have k5 := hv.k5
  obtain ⟨num, node, slot, stamp, V, D⟩ := v
  obtain ⟨-, -, ⟨q1, q2⟩, q3, q4, q5, q6, q7, q8, q9⟩ := hv
  dsimp only at *
  unfold Rv.bytes at hr
  have r3 := List.append_cancel_left hr
  dsimp only at r3
  clear hr
  by_cases c1 : k = 1 ∨ k = 3
  · have ef : fsOf (k : Int) = [.ballot] := by rw [fs_case, if_pos c1]
    rw [if_pos c1] at r3
    rw [ef, frA]
    dsimp only
    obtain ⟨x1, x2, x3, x4⟩ := bal_fwd (R := []) hs q1 q2 (by rw [r3, List.append_nil])
    refine ⟨by simp, x3, x4, ?_⟩
    rw [x1, x2, q5 c1, (q7 (by omega)).1, (q7 (by omega)).2, q9 (by omega)]
  · rw [if_neg c1] at r3
    by_cases c2 : k = 2
    · have ef : fsOf (k : Int) = [.ballot, .slot, .batch] := by rw [fs_case, if_neg c1, if_pos c2]
      rw [if_pos c2] at r3
      rw [ef, frB]
      dsimp only
      obtain ⟨x1, x2, x3, x4⟩ := bal_fwd hs q1 q2 r3
      obtain ⟨y1, y2, y3⟩ := bound_fwd (a := 0) (b := 1099511627776) x3 (by omega) (by omega) q4 x4
      obtain ⟨z1, z2, z3, z4⟩ := bat_fwd (R := []) y2 q6 (by rw [y3, List.append_nil])
      refine ⟨by simp, z3, z4, ?_⟩
      rw [x1, x2, y1, z1, z2, q9 (by omega)]
    · rw [if_neg c2] at r3
      by_cases c4 : k = 4
      · have ef : fsOf (k : Int) = [.slot] := by rw [fs_case, if_neg c1, if_neg c2, if_pos c4]
        rw [if_pos c4] at r3
        rw [ef, frC]
        dsimp only
        obtain ⟨y1, y2, y3⟩ := bound_fwd (a := 0) (b := 1099511627776) (R := []) hs (by omega) (by omega) q4 (by rw [r3, List.append_nil])
        refine ⟨by simp, y2, y3, ?_⟩
        rw [y1, (q3 (by omega)).1, (q3 (by omega)).2, (q7 (by omega)).1, (q7 (by omega)).2, q9 (by omega)]
      · rw [if_neg c4] at r3
        have c5 : k = 5 := by omega
        have ef : fsOf (k : Int) = [.slot, .snap] := by rw [fs_case, if_neg c1, if_neg c2, if_neg c4, if_pos c5]
        rw [ef, frD]
        dsimp only
        obtain ⟨y1, y2, y3⟩ := bound_fwd (a := 0) (b := 1099511627776) hs (by omega) (by omega) q4 r3
        obtain ⟨z1, z2, z3⟩ := blob_fwd (C := D) (most := 40000) (R := []) y2 (by omega) (by omega) (by rw [y3, List.append_nil])
        refine ⟨by simp, z2, z3, ?_⟩
        rw [y1, z1, (q3 (by omega)).1, (q3 (by omega)).2, (q7 (by omega)).1, (q7 (by omega)).2]
theorem rec_fwd {k : Nat} {v : Rv} (hv : Rv.Ok k v) : recC (v.bytes k) = 0 ∧ recK (v.bytes k) = k ∧ recV (v.bytes k) = v := by
  generalize hB : v.bytes k = B
  have hk : k < 256 := by have := hv.k5; omega
  obtain ⟨Y, hY⟩ : ∃ Y, v.bytes k = big k 1 ++ Y := ⟨_, rfl⟩
  obtain ⟨r1, r2, r3⟩ := byte_fwd (s := RS1 B) (R := Y) (rs1_rest B).1 hk ((rs1_rest B).2.trans (hB.symm.trans hY))
  have e1 : rk B = k := r1
  have r2 : (rs1 B).sound := r2
  have r3 : (rs1 B).rest = Y := r3
  obtain ⟨f1, f2, f3, f4⟩ := rec_to hv r2 (by rw [r3]; exact hY.symm)
  rw [← e1, ← recS_eq] at f2 f3 f4
  rw [← e1] at f1
  have hC : recC B = 0 := by unfold recC; rw [if_pos r2, if_neg f1]; exact rest_end f2 f3
  refine ⟨hC, ?_, ?_⟩
  · unfold recK; rw [if_pos hC]; exact e1
  · unfold recV; rw [if_pos hC]; exact f4
end Go.Proofs.YtgaalaoflaklgaaGreat
namespace Go.Proofs.YtgaalaoflaklgaaGreat
open Go.RowKit Crc

/-- A ballot that may not be. -/
def balBad (num : Nat) (node : Int) : Prop := 1099511627776 < num ∨ node < 0 ∨ 6 < node
instance (num : Nat) (node : Int) : Decidable (balBad num node) := by unfold balBad; infer_instance

set_option maxRecDepth 10000 in
theorem ballotNo_yes (num : Nat) (node : Int) (w : World) (h : balBad num node) :
    Calls Tryz.prog 66 #[.agg #[.int .u64 (num : Int), .int .i64 node]] w fun e w' => e = .returned (.bool true) ∧ Hid (Below w.heap.size w w') := by
  have HB := hide (below_alloc1 w (.cells #[.int .u64 (num : Int), .int .i64 node] 28))
  by_cases h1 : 1099511627776 < num
  · have d1 : decide ((num : Int) > 1099511627776) = true := by simp; omega
    clear h
    go_enter Tryz.func66, Tryz.ntmps66
    go_wp2
    go_ret
    exact ⟨rfl, HB.out⟩
  · have d1 : decide ((num : Int) > 1099511627776) = false := by simp; omega
    by_cases h2 : node < 0
    · have d2 : decide (node < 0) = true := by simp; omega
      clear h h1
      go_enter Tryz.func66, Tryz.ntmps66
      go_wp2
      go_ret
      exact ⟨rfl, HB.out⟩
    · have d2 : decide (node < 0) = false := by simp; omega
      have h3 : 6 < node := by rcases h with h | h | h <;> omega
      have d3 : decide (node > 6) = true := by simp; omega
      clear h h1
      go_enter Tryz.func66, Tryz.ntmps66
      go_wp2
      go_ret
      exact ⟨rfl, HB.out⟩
set_option maxRecDepth 10000 in
theorem ballotNo_no (num : Nat) (node : Int) (w : World) (h : ¬ balBad num node) :
    Calls Tryz.prog 66 #[.agg #[.int .u64 (num : Int), .int .i64 node]] w fun e w' => e = .returned (.bool false) ∧ Hid (Below w.heap.size w w') := by
  have HB := hide (below_alloc1 w (.cells #[.int .u64 (num : Int), .int .i64 node] 28))
  have h1 : ¬ 1099511627776 < num := fun e => h (.inl e)
  have h2 : ¬ node < 0 := fun e => h (.inr (.inl e))
  have h3 : ¬ 6 < node := fun e => h (.inr (.inr e))
  have d1 : decide ((num : Int) > 1099511627776) = false := by simp; omega
  have d2 : decide (node < 0) = false := by simp; omega
  have d3 : decide (node > 6) = false := by simp; omega
  clear h h1 h2 h3
  go_enter Tryz.func66, Tryz.ntmps66
  go_wp2
  go_ret
  exact ⟨rfl, HB.out⟩

set_option maxRecDepth 10000 in
theorem ballotFault_yes (num : Nat) (node : Int) (w : World) (h : balBad num node) :
    Calls Tryz.prog 125 #[.agg #[.int .u64 (num : Int), .int .i64 node]] w fun e w' => e = .returned (.int .i64 29) ∧ Hid (Below w.heap.size w w') := by
  have HB := hide (below_alloc1 w (.cells #[.int .u64 (num : Int), .int .i64 node] 28))
  by_cases h1 : 1099511627776 < num
  · have d1 : decide ((num : Int) > 1099511627776) = true := by simp; omega
    clear h
    go_enter Tryz.func125, Tryz.ntmps125
    go_wp2
    go_ret
    exact ⟨rfl, HB.out⟩
  · have d1 : decide ((num : Int) > 1099511627776) = false := by simp; omega
    by_cases h2 : node < 0
    · have d2 : decide (node < 0) = true := by simp; omega
      clear h h1
      go_enter Tryz.func125, Tryz.ntmps125
      go_wp2
      go_ret
      exact ⟨rfl, HB.out⟩
    · have d2 : decide (node < 0) = false := by simp; omega
      have h3 : 6 < node := by rcases h with h | h | h <;> omega
      have d3 : decide (node > 6) = true := by simp; omega
      clear h h1
      go_enter Tryz.func125, Tryz.ntmps125
      go_wp2
      go_ret
      exact ⟨rfl, HB.out⟩
set_option maxRecDepth 10000 in
theorem ballotFault_no (num : Nat) (node : Int) (w : World) (h : ¬ balBad num node) :
    Calls Tryz.prog 125 #[.agg #[.int .u64 (num : Int), .int .i64 node]] w fun e w' => e = .returned (.int .i64 0) ∧ Hid (Below w.heap.size w w') := by
  have HB := hide (below_alloc1 w (.cells #[.int .u64 (num : Int), .int .i64 node] 28))
  have h1 : ¬ 1099511627776 < num := fun e => h (.inl e)
  have h2 : ¬ node < 0 := fun e => h (.inr (.inl e))
  have h3 : ¬ 6 < node := fun e => h (.inr (.inr e))
  have d1 : decide ((num : Int) > 1099511627776) = false := by simp; omega
  have d2 : decide (node < 0) = false := by simp; omega
  have d3 : decide (node > 6) = false := by simp; omega
  clear h h1 h2 h3
  go_enter Tryz.func125, Tryz.ntmps125
  go_wp2
  go_ret
  exact ⟨rfl, HB.out⟩

end Go.Proofs.YtgaalaoflaklgaaGreat
