import Derived.Test.YtggpaljilpbmhaaGreatDoorY14
namespace Go.Proofs.YtggpaljilpbmhaaGreatDoor

/-- What is taken, what is laid up, what lies there behind an instruction. -/
def tkB (p : Pv) (i : Nat) : List Bool := colB p (fTakes (p.op i).toNat) (p.arg i)
def lyB (p : Pv) (i : Nat) : List Bool := colB p (fLays (p.op i).toNat) (p.arg i)
def aft (p : Pv) (i : Nat) (l : List Bool) : List Bool := l.take (l.length - (tkB p i).length) ++ lyB p i
/-- Where an instruction leads, and with what. -/
def edgs (p : Pv) (i : Nat) (l : List Bool) : List (Nat × List Bool) :=
 if (p.op i).toNat = 31 ∨ (p.op i).toNat = 32 then [] else if (p.op i).toNat = 25 then [((p.arg i).toNat, aft p i l)] else if (p.op i).toNat = 27 ∨ (p.op i).toNat = 28 then [((p.arg i).toNat, l), (i + 1, aft p i l)] else if (p.op i).toNat = 26 then [((p.arg i).toNat, aft p i l), (i + 1, aft p i l)] else [(i + 1, aft p i l)]
def fits (p : Pv) (i : Nat) (l : List Bool) : Prop := (tkB p i).length ≤ l.length ∧ l.drop (l.length - (tkB p i).length) = tkB p i ∧ l.length - (tkB p i).length + (lyB p i).length ≤ 64
def handAll (p : Pv) (i : Nat) : Kn → List (Nat × List Bool) → Except Int Kn
 | k, [] => .ok k
 | k, x :: r => bindK (handF p k i x.1 x.2) (fun k' => handAll p i k' r)
theorem bindK_id (r : Except Int Kn) : bindK r (fun k => .ok k) = r := by cases r <;> rfl
theorem visit_fits {p : Pv} {k : Kn} {i : Nat} (h : fits p i (kin (k i))) : visitF p k i = handAll p i k (edgs p i (kin (k i))) := by
 unfold visitF
 obtain ⟨h1, h2, h3⟩ := h
 unfold tkB at h1 h2 h3
 unfold lyB at h3
 rw [if_neg (by omega), if_neg (fun e => e h2), if_neg (by omega)]
 unfold edgs
 split
 ·rfl
 ·split
  ·simp only [handAll, bindK_id]
   rfl
  ·split
   ·simp only [handAll, bindK_id]
    rfl
   ·split
    ·simp only [handAll, bindK_id]
     rfl
    ·simp only [handAll, bindK_id]
     rfl
theorem visit_ok {p : Pv} {k k' : Kn} {i : Nat} (h : visitF p k i = .ok k') : fits p i (kin (k i)) := by
 unfold visitF at h
 split at h
 ·cases h
 ·rename_i a1
  split at h
  ·cases h
  ·rename_i a2
   split at h
   ·cases h
   ·rename_i a3
    refine ⟨?_, ?_, ?_⟩
    ·unfold tkB; omega
    ·exact Decidable.not_not.1 a2
    ·unfold tkB lyB; omega
/-- What is known stays known. -/
def Ext (k k' : Kn) : Prop := ∀ j l, k j = some l → k' j = some l
theorem hand_ok {p : Pv} {k k' : Kn} {i d : Nat} {l : List Bool} (h : handF p k i d l = .ok k') : d < p.n ∧ (d ≤ i → p.op d = 1) ∧ k' d = some l ∧ Ext k k' ∧ ∀ j, k' j = k j ∨ (j = d ∧ i < d) := by
 unfold handF at h
 split at h
 ·cases h
 ·rename_i a1
  split at h
  ·cases h
  ·rename_i a2
   have a2' : d ≤ i → p.op d = 1 := fun e => Decidable.not_not.1 (fun x => a2 ⟨e, x⟩)
   split at h
   ·rename_i a3
    cases h
    exact ⟨by omega, a2', a3, fun _ _ e => e, fun _ => .inl rfl⟩
   ·rename_i a3
    split at h
    ·cases h
    ·rename_i a4
     cases h
     have a5 : ¬ d ≤ i := fun e => a4 (.inl e)
     have a6 : k d = none := by
      cases e : k d with
      | none => rfl
      | some x => exact absurd (.inr (by rw [e]; rfl)) a4
     refine ⟨by omega, a2', by simp [updK], fun j x e => ?_, fun j => ?_⟩
     ·unfold updK
      by_cases ej : j = d
      ·subst ej; rw [a6] at e; cases e
      ·rw [if_neg ej]; exact e
     ·by_cases ej : j = d
      ·exact .inr ⟨ej, by omega⟩
      ·left
       unfold updK
       rw [if_neg ej]
theorem handAll_ok {p : Pv} {i : Nat} : ∀ {es : List (Nat × List Bool)} {k k' : Kn}, handAll p i k es = .ok k' → (∀ x ∈ es, x.1 < p.n ∧ (x.1 ≤ i → p.op x.1 = 1) ∧ k' x.1 = some x.2) ∧ Ext k k' ∧ ∀ j, k' j = k j ∨ (i < j ∧ ∃ l, (j, l) ∈ es)
 | [], k, k', h => by
  cases h
  exact ⟨fun x hx => (by cases hx), fun _ _ e => e, fun _ => .inl rfl⟩
 | x :: r, k, k', h => by
  unfold handAll at h
  cases e : handF p k i x.1 x.2 with
  | error y => rw [e] at h; cases h
  | ok k1 =>
   rw [e] at h
   have h1 := hand_ok e
   obtain ⟨g1, g2, g3⟩ := handAll_ok (es := r) h
   refine ⟨fun z hz => ?_, fun j l hj => g2 j l (h1.2.2.2.1 j l hj), fun j => ?_⟩
   ·rcases List.mem_cons.1 hz with rfl | hz
    ·exact ⟨h1.1, h1.2.1, g2 _ _ h1.2.2.1⟩
    ·exact g1 z hz
   ·rcases g3 j with q | ⟨q1, l, q2⟩
    ·rcases h1.2.2.2.2 j with q' | ⟨rfl, q'⟩
     ·exact .inl (q.trans q')
     ·exact .inr ⟨q', x.2, List.mem_cons_self ..⟩
    ·exact .inr ⟨q1, l, List.mem_cons_of_mem _ q2⟩
/-- A place at which a rule begins. -/
def Ent (p : Pv) (i : Nat) : Prop := ∃ e, e < 6 ∧ 0 ≤ p.en e ∧ (p.en e).toNat = i
theorem entK_some {p : Pv} : ∀ {m : Nat} {i : Nat} {l : List Bool}, entK p m i = some l → l = [] ∧ ∃ e, e < m ∧ 0 ≤ p.en e ∧ (p.en e).toNat = i
 | 0, i, l, h => by cases h
 | m + 1, i, l, h => by
  unfold entK at h
  by_cases e : 0 ≤ p.en m
  ·rw [if_pos e] at h
   unfold updK at h
   by_cases ei : i = (p.en m).toNat
   ·rw [if_pos ei] at h
    cases h
    exact ⟨rfl, m, by omega, e, ei.symm⟩
   ·rw [if_neg ei] at h
    obtain ⟨h1, e2, h2, h3⟩ := entK_some h
    exact ⟨h1, e2, by omega, h3⟩
  ·rw [if_neg e] at h
   obtain ⟨h1, e2, h2, h3⟩ := entK_some h
   exact ⟨h1, e2, by omega, h3⟩
theorem entK_has {p : Pv} : ∀ {m e : Nat}, e < m → 0 ≤ p.en e → entK p m (p.en e).toNat = some []
 | 0, e, h, _ => by omega
 | m + 1, e, h, h0 => by
  unfold entK
  by_cases em : e = m
  ·subst em
   rw [if_pos h0]
   simp [updK]
  ·have := entK_has (m := m) (e := e) (by omega) h0
   by_cases e2 : 0 ≤ p.en m
   ·rw [if_pos e2]
    unfold updK
    split
    ·rfl
    ·exact this
   ·rw [if_neg e2]
    exact this
/-- What is known of the places fits together, and every known place is led to from the front. -/
structure Flow (p : Pv) (k : Kn) : Prop where
 en : ∀ e, e < 6 → 0 ≤ p.en e → k (p.en e).toNat = some []
 fl : ∀ i l, i < p.n → k i = some l → fits p i l ∧ ∀ x ∈ edgs p i l, x.1 < p.n ∧ (x.1 ≤ i → p.op x.1 = 1) ∧ k x.1 = some x.2
 rc : ∀ i l, i < p.n → k i = some l → Ent p i ∨ ∃ j l0 l', j < i ∧ k j = some l0 ∧ (i, l') ∈ edgs p j l0
theorem go_flow {p : Pv} : ∀ {j : Nat} {k : Kn}, goF p j = .ok k → j ≤ p.n → (∀ e, e < 6 → 0 ≤ p.en e → k (p.en e).toNat = some []) ∧ (∀ i l, i < j → k i = some l → fits p i l ∧ ∀ x ∈ edgs p i l, x.1 < p.n ∧ (x.1 ≤ i → p.op x.1 = 1) ∧ k x.1 = some x.2) ∧ ∀ i l, k i = some l → Ent p i ∨ ∃ j' l0 l', j' < i ∧ j' < j ∧ k j' = some l0 ∧ (i, l') ∈ edgs p j' l0
 | 0, k, h, _ => by
  cases h
  exact ⟨fun e he h0 => entK_has he h0, fun i l hi => by omega, fun i l hi => .inl (entK_some hi).2⟩
 | j + 1, k, h, hn => by
  unfold goF at h
  cases e : goF p j with
  | error y => rw [e] at h; cases h
  | ok k0 =>
   rw [e] at h
   obtain ⟨g1, g2, g3⟩ := go_flow e (by omega)
   simp only at h
   cases ek : k0 j with
   | none =>
    rw [ek] at h
    simp at h
    subst h
    refine ⟨g1, fun i l hi hk => ?_, fun i l hk => ?_⟩
    ·by_cases ei : i = j
     ·subst ei; rw [ek] at hk; cases hk
     ·exact g2 i l (by omega) hk
    ·rcases g3 i l hk with q | ⟨j', l0, l', q1, q2, q3⟩
     ·exact .inl q
     ·exact .inr ⟨j', l0, l', q1, by omega, q3⟩
   | some l0 =>
    rw [ek] at h
    simp only [Option.isSome_some, if_true] at h
    cases ev : visitF p k0 j with
    | error y => rw [ev] at h; cases h
    | ok k1 =>
     rw [ev] at h
     simp only at h
     obtain rfl : k1 = k := by cases h; rfl
     have hf := visit_ok ev
     rw [visit_fits hf] at ev
     have hkin : kin (k0 j) = l0 := by rw [ek]; rfl
     rw [hkin] at hf ev
     obtain ⟨a1, a2, a3⟩ := handAll_ok ev
     have same : ∀ i, i ≤ j → k1 i = k0 i := fun i hi => by
      rcases a3 i with q | ⟨q, _⟩
      ·exact q
      ·omega
     refine ⟨fun e he h0 => a2 _ _ (g1 e he h0), fun i l hi hk => ?_, fun i l hk => ?_⟩
     ·rw [same i (by omega)] at hk
      by_cases ei : i = j
      ·subst ei
       rw [ek] at hk
       cases hk
       exact ⟨hf, a1⟩
      ·obtain ⟨b1, b2⟩ := g2 i l (by omega) hk
       exact ⟨b1, fun x hx => ⟨(b2 x hx).1, (b2 x hx).2.1, a2 _ _ (b2 x hx).2.2⟩⟩
     ·rcases a3 i with q | ⟨q, l', q2⟩
      ·rw [q] at hk
       rcases g3 i l hk with r | ⟨j', l1, l', r1, r2, r3, r4⟩
       ·exact .inl r
       ·exact .inr ⟨j', l1, l', r1, by omega, a2 _ _ r3, r4⟩
      ·exact .inr ⟨j, l0, l', q, by omega, by rw [same j (Nat.le_refl _)]; exact ek, q2⟩
theorem flow_of {p : Pv} {k : Kn} (h : verF p = .ok k) : Flow p k := by
 rw [verF_stat] at h
 cases e : statF p with
 | some z => rw [e] at h; cases h
 | none =>
  rw [e] at h
  obtain ⟨h1, h2, h3⟩ := go_flow h (Nat.le_refl _)
  refine ⟨h1, h2, fun i l _ hk => ?_⟩
  rcases h3 i l hk with q | ⟨j, l0, l', q1, _, q2, q3⟩
  ·exact .inl q
  ·exact .inr ⟨j, l0, l', q1, q2, q3⟩
theorem hand_go {p : Pv} {k kk : Kn} {i : Nat} (hsub : ∀ j l, kk j = some l → k j = some l) (hknow : ∀ d l, d ≤ i → d < p.n → k d = some l → kk d = some l) : ∀ {es : List (Nat × List Bool)} {k0 : Kn}, (∀ j l, k0 j = some l → k j = some l) → Ext kk k0 → (∀ x ∈ es, x.1 < p.n ∧ (x.1 ≤ i → p.op x.1 = 1) ∧ k x.1 = some x.2) → ∃ k', handAll p i k0 es = .ok k' ∧ (∀ j l, k' j = some l → k j = some l) ∧ Ext k0 k' ∧ ∀ x ∈ es, k' x.1 = some x.2
 | [], k0, h1, _, _ => ⟨k0, rfl, h1, fun _ _ e => e, fun x hx => (by cases hx)⟩
 | x :: r, k0, h1, h2, h3 => by
  obtain ⟨b1, b2, b3⟩ := h3 x (List.mem_cons_self ..)
  have key : ∃ k1, handF p k0 i x.1 x.2 = .ok k1 ∧ (∀ j l, k1 j = some l → k j = some l) ∧ Ext k0 k1 ∧ k1 x.1 = some x.2 := by
   unfold handF
   rw [if_neg (by omega), if_neg (fun e => e.2 (b2 e.1))]
   by_cases e : k0 x.1 = some x.2
   ·rw [if_pos e]
    exact ⟨k0, rfl, h1, fun _ _ e => e, e⟩
   ·rw [if_neg e]
    have hnone : k0 x.1 = none := by
     cases ek : k0 x.1 with
     | none => rfl
     | some y =>
      have := h1 _ _ ek
      rw [b3] at this
      cases this
      exact absurd ek e
    have hfw : ¬ x.1 ≤ i := fun hle => by
     have := h2 _ _ (hknow x.1 x.2 hle b1 b3)
     rw [hnone] at this
     cases this
    rw [if_neg (by rw [hnone]; intro q; rcases q with q | q; exact hfw q; cases q)]
    refine ⟨_, rfl, fun j l hj => ?_, fun j l hj => ?_, by simp [updK]⟩
    ·unfold updK at hj
     by_cases ej : j = x.1
     ·rw [if_pos ej] at hj; cases hj; rw [ej]; exact b3
     ·rw [if_neg ej] at hj; exact h1 j l hj
    ·unfold updK
     by_cases ej : j = x.1
     ·subst ej; rw [hnone] at hj; cases hj
     ·rw [if_neg ej]; exact hj
  obtain ⟨k1, c1, c2, c3, c4⟩ := key
  obtain ⟨k2, d1, d2, d3, d4⟩ := hand_go hsub hknow (es := r) (k0 := k1) c2 (fun j l e => c3 j l (h2 j l e)) (fun z hz => h3 z (List.mem_cons_of_mem _ hz))
  refine ⟨k2, ?_, d2, fun j l e => d3 j l (c3 j l e), fun z hz => ?_⟩
  ·unfold handAll
   rw [c1]
   exact d1
  ·rcases List.mem_cons.1 hz with rfl | hz
   ·exact d3 _ _ c4
   ·exact d4 z hz
theorem flow_go {p : Pv} {k : Kn} (h : Flow p k) : ∀ {j : Nat}, j ≤ p.n → ∃ kj, goF p j = .ok kj ∧ (∀ i l, kj i = some l → k i = some l) ∧ ∀ i l, i < p.n → k i = some l → (Ent p i ∨ ∃ j' l0 l', j' < i ∧ j' < j ∧ k j' = some l0 ∧ (i, l') ∈ edgs p j' l0) → kj i = some l
 | 0, _ => by
  refine ⟨_, rfl, fun i l hi => ?_, fun i l _ hk hev => ?_⟩
  ·obtain ⟨rfl, e, he, h0, rfl⟩ := entK_some hi
   exact h.en e he h0
  ·rcases hev with ⟨e, he, h0, rfl⟩ | ⟨j', l0, l', _, q, _⟩
   ·have := h.en e he h0
    rw [hk] at this
    rw [this]
    exact entK_has he h0
   ·omega
 | j + 1, hn => by
  obtain ⟨kj, g1, g2, g3⟩ := flow_go h (j := j) (by omega)
  cases ek : kj j with
  | none =>
   have hkj : k j = none := by
    cases e : k j with
    | none => rfl
    | some l =>
     have := g3 j l (by omega) e (by
      rcases h.rc j l (by omega) e with q | ⟨j', l0, l', q1, q2, q3⟩
      ·exact .inl q
      ·exact .inr ⟨j', l0, l', q1, q1, q2, q3⟩)
     rw [ek] at this
     cases this
   refine ⟨kj, ?_, g2, fun i l hi hk hev => g3 i l hi hk ?_⟩
   ·unfold goF
    rw [g1]
    simp [ek]
   ·rcases hev with q | ⟨j', l0, l', q1, q2, q3, q4⟩
    ·exact .inl q
    ·by_cases ej : j' = j
     ·subst ej; rw [hkj] at q3; cases q3
     ·exact .inr ⟨j', l0, l', q1, by omega, q3, q4⟩
  | some l0 =>
   have hkj := g2 j l0 ek
   obtain ⟨hf, he⟩ := h.fl j l0 (by omega) hkj
   have hkin : kin (kj j) = l0 := by rw [ek]; rfl
   obtain ⟨k', a1, a2, a3, a4⟩ := hand_go (p := p) (k := k) (kk := kj) (i := j) g2 (fun d l hd hdn hk => g3 d l hdn hk (by
    rcases h.rc d l hdn hk with q | ⟨j', l1, l', q1, q2, q3⟩
    ·exact .inl q
    ·exact .inr ⟨j', l1, l', q1, by omega, q2, q3⟩)) (es := edgs p j l0) (k0 := kj) g2 (fun _ _ e => e) he
   refine ⟨k', ?_, a2, fun i l hi hk hev => ?_⟩
   ·unfold goF
    rw [g1]
    simp only [ek, Option.isSome_some, if_true]
    rw [visit_fits (by rw [hkin]; exact hf), hkin, a1]
   ·rcases hev with q | ⟨j', l1, l', q1, q2, q3, q4⟩
    ·exact a3 _ _ (g3 i l hi hk (.inl q))
    ·by_cases ej : j' = j
     ·subst ej
      rw [hkj] at q3
      cases q3
      have := a4 _ q4
      have h2 := a2 _ _ this
      simp only at h2
      rw [hk] at h2
      rw [← h2] at this
      exact this
     ·exact a3 _ _ (g3 i l hi hk (.inr ⟨j', l1, l', q1, by omega, q3, q4⟩))
/-- What fits together is what Verify finds. -/
theorem ver_of {p : Pv} {k : Kn} (hs : statF p = none) (h : Flow p k) : ∃ k', verF p = .ok k' ∧ ∀ i, i < p.n → k' i = k i := by
 obtain ⟨k', g1, g2, g3⟩ := flow_go h (Nat.le_refl _)
 refine ⟨k', ?_, fun i hi => ?_⟩
 ·rw [verF_stat, hs]
  exact g1
 ·cases e : k i with
  | some l =>
   refine g3 i l hi e ?_
   rcases h.rc i l hi e with q | ⟨j', l0, l', q1, q2, q3⟩
   ·exact .inl q
   ·exact .inr ⟨j', l0, l', q1, by omega, q2, q3⟩
  | none =>
   cases e2 : k' i with
   | none => rfl
   | some l =>
    have := g2 i l e2
    rw [e] at this
    cases this
end Go.Proofs.YtggpaljilpbmhaaGreatDoor
namespace Go.Proofs.YtggpaljilpbmhaaGreatDoor

/-- How many places below one are kept; the place that is kept as the j-th. -/
def cnt (K : Nat → Bool) : Nat → Nat
 | 0 => 0
 | i + 1 => cnt K i + (if K i then 1 else 0)
def sel (K : Nat → Bool) : Nat → Nat → Nat
 | 0, _ => 0
 | n + 1, j => if K n = true ∧ cnt K n = j then n else sel K n j
theorem cnt_le (K : Nat → Bool) : ∀ i, cnt K i ≤ i
 | 0 => Nat.le_refl _
 | i + 1 => by
  have := cnt_le K i
  unfold cnt
  split <;> omega
theorem cnt_mono {K : Nat → Bool} {i j : Nat} (h : i ≤ j) : cnt K i ≤ cnt K j := by
 induction j with
 | zero =>
  obtain rfl : i = 0 := by omega
  exact Nat.le_refl _
 | succ j ih =>
  by_cases e : i = j + 1
  ·subst e; exact Nat.le_refl _
  ·have := ih (by omega)
   show _ ≤ cnt K j + _
   omega
theorem cnt_next {K : Nat → Bool} {i : Nat} (h : K i = true) : cnt K (i + 1) = cnt K i + 1 := by
 show cnt K i + _ = _
 rw [if_pos h]
theorem cnt_lt {K : Nat → Bool} {i j : Nat} (h : K i = true) (hj : i < j) : cnt K i < cnt K j := by
 have := cnt_mono (K := K) (show i + 1 ≤ j by omega)
 rw [cnt_next h] at this
 omega
theorem cnt_inj {K : Nat → Bool} {i j : Nat} (hi : K i = true) (hj : K j = true) (h : cnt K i = cnt K j) : i = j := by
 rcases Nat.lt_trichotomy i j with q | q | q
 ·have := cnt_lt hi q; omega
 ·exact q
 ·have := cnt_lt hj q; omega
theorem sel_spec {K : Nat → Bool} : ∀ {n j : Nat}, j < cnt K n → sel K n j < n ∧ K (sel K n j) = true ∧ cnt K (sel K n j) = j
 | 0, j, h => by cases h
 | n + 1, j, h => by
  unfold sel
  by_cases e : K n = true ∧ cnt K n = j
  ·rw [if_pos e]
   exact ⟨by omega, e.1, e.2⟩
  ·rw [if_neg e]
   have h2 : j < cnt K n := by
    have h3 : j < cnt K n + (if K n then 1 else 0) := h
    by_cases ek : K n = true
    ·rw [if_pos ek] at h3
     have : cnt K n ≠ j := fun q => e ⟨ek, q⟩
     omega
    ·rw [if_neg ek] at h3
     omega
   have := sel_spec h2
   exact ⟨by omega, this.2⟩
theorem sel_cnt {K : Nat → Bool} {n i : Nat} (hi : i < n) (hk : K i = true) : sel K n (cnt K i) = i := by
 have := sel_spec (cnt_lt hk hi)
 exact cnt_inj this.2.1 hk this.2.2
/-- Does its Arg name a place? -/
def wayP (o : Int) : Bool := decide (25 ≤ o) && decide (o ≤ 28)
theorem way_iff {o : Nat} (h : o ≤ 32) : (fArg o = 4) ↔ (25 ≤ o ∧ o ≤ 28) := by
 have : ∀ o, o < 33 → ((fArg o = 4) ↔ (25 ≤ o ∧ o ≤ 28)) := by decide
 exact this o (by omega)
/-- A program without the places that are not kept. -/
def cutF (p : Pv) (K : Nat → Bool) : Pv :=
 ⟨p.nc, p.ns, cnt K p.n, p.C, p.S, fun e => if 0 ≤ p.en e then ((cnt K (p.en e).toNat : Nat) : Int) else p.en e, fun j => p.op (sel K p.n j), fun j => if wayP (p.op (sel K p.n j)) = true then ((cnt K (p.arg (sel K p.n j)).toNat : Nat) : Int) else p.arg (sel K p.n j)⟩
theorem col_way (p p' : Pv) (a a' : Int) : ∀ o, 25 ≤ o → o ≤ 28 → colB p (fTakes o) a = colB p' (fTakes o) a' ∧ colB p (fLays o) a = colB p' (fLays o) a' := fun o h1 h2 => by
 have : o = 25 ∨ o = 26 ∨ o = 27 ∨ o = 28 := by omega
 rcases this with rfl | rfl | rfl | rfl <;> exact ⟨rfl, rfl⟩
theorem col_same {p p' : Pv} (h : p.S = p'.S) (col : List Nat) (a : Int) : colB p col a = colB p' col a := by
 unfold colB
 rw [h]
theorem wayP_nat {x : Int} (h : wayP x = true) : 25 ≤ x.toNat ∧ x.toNat ≤ 28 := by
 simp [wayP] at h
 omega
/-- Two instructions that differ only in where a way leads: what they take and lay up is the same. -/
theorem col_eq {p p' : Pv} {i j : Nat} (hS : p.S = p'.S) (ho : p.op i = p'.op j) (ha : wayP (p.op i) = true ∨ p.arg i = p'.arg j) : tkB p i = tkB p' j ∧ lyB p i = lyB p' j := by
 unfold tkB lyB
 rw [← ho]
 rcases ha with h | h
 ·have := wayP_nat h
  exact col_way p p' _ _ _ this.1 this.2
 ·rw [← h]
  exact ⟨col_same hS _ _, col_same hS _ _⟩
/-- The form of a program. -/
structure Wf (p : Pv) : Prop where
 sz : p.nc ≤ 256 ∧ p.ns ≤ 128 ∧ p.n ≤ 1024
 sl : ∀ j, j < p.ns → p.S j = 0 ∨ p.S j = 1
 en : ∀ e, e < 6 → p.en e = -1 ∨ isPl (p.en e) p.n = true
 ins : ∀ i, i < p.n → InOk p i
theorem Wf.of {p : Pv} (h : statF p = none) : Wf p := by
 obtain ⟨h1, h2, h3, h4⟩ := stat_none h
 exact ⟨size_none h1, slot_none h2, fun e he => ent_of h3 he, fun i hi => InOk.of h4 hi⟩
theorem firstBad_nil {f : Nat → Option (Int × Int)} : ∀ {n : Nat}, (∀ j, j < n → f j = none) → firstBad f n = none
 | 0, _ => rfl
 | n + 1, h => firstBad_next (firstBad_nil (fun j hj => h j (by omega))) (h n (by omega))
theorem Wf.stat {p : Pv} (h : Wf p) : statF p = none := by
 have h1 : sizeF p = none := by
  unfold sizeF
  obtain ⟨a, b, c⟩ := h.sz
  rw [if_neg (by omega), if_neg (by omega), if_neg (by omega)]
 have h2 : slotF p = none := firstBad_nil (fun j hj => by
  unfold slotB
  rw [if_neg (fun e => by rcases h.sl j hj with q | q; exact e.1 q; exact e.2 q)])
 have h3 : entF p = none := firstBad_nil (fun j hj => by
  unfold entB
  rw [if_neg (fun e => by rcases h.en j hj with q | q; exact e.1 q; rw [q] at e; cases e.2)])
 have h4 : insF p = none := firstBad_nil (fun j hj => by
  have := h.ins j hj
  unfold insB
  rw [this.o, this.a]
  rfl)
 unfold statF
 rw [h1, h2, h3, h4]
 rfl
theorem op_nat {p : Pv} {i : Nat} (h : InOk p i) : 1 ≤ p.op i ∧ p.op i ≤ 32 ∧ p.op i = ((p.op i).toNat : Nat) := by
 have := h.o
 simp [isO] at this
 omega
theorem InOk.way {p : Pv} {i : Nat} (h : InOk p i) (hw : wayP (p.op i) = true) : isPl (p.arg i) p.n = true := by
 have h1 := op_nat h
 have h2 := wayP_nat hw
 exact argF_place h.a ((way_iff (by omega)).2 h2)
theorem argF_with {p p' : Pv} {o : Nat} {a a' : Int} (ho : o ≤ 32) (h : argF p o a = true) (hc : p'.nc = p.nc) (hs : p'.ns = p.ns) (hw : 25 ≤ o ∧ o ≤ 28 → isPl a' p'.n = true) (hn : ¬ (25 ≤ o ∧ o ≤ 28) → a' = a) : argF p' o a' = true := by
 by_cases e : 25 ≤ o ∧ o ≤ 28
 ·have e4 := (way_iff ho).2 e
  simp [argF, e4, hw e]
 ·have e4 : fArg o ≠ 4 := fun q => e ((way_iff ho).1 q)
  rw [hn e]
  rcases fArg_le o ho with f | f | f | f | f | f
  ·simp [argF, f] at h ⊢; exact h
  ·simp [argF, f] at h ⊢; rw [hc]; exact h
  ·simp [argF, f] at h ⊢; exact h
  ·simp [argF, f] at h ⊢; rw [hs]; exact h
  ·exact absurd f e4
  ·simp [argF, f] at h ⊢; exact h
theorem isPl_mk {x n : Nat} (h : x < n) : isPl ((x : Nat) : Int) n = true := by
 simp [isPl]
 omega
theorem cut_wf {p : Pv} {K : Nat → Bool} (h : Wf p) (hw : ∀ i, i < p.n → K i = true → wayP (p.op i) = true → cnt K (p.arg i).toNat < cnt K p.n) (he : ∀ e, e < 6 → 0 ≤ p.en e → cnt K (p.en e).toNat < cnt K p.n) : Wf (cutF p K) := by
 refine ⟨⟨h.sz.1, h.sz.2.1, Nat.le_trans (cnt_le K p.n) h.sz.2.2⟩, h.sl, fun e hq => ?_, fun j hj => ?_⟩
 ·show (if 0 ≤ p.en e then _ else _) = _ ∨ isPl (if 0 ≤ p.en e then _ else _) _ = _
  by_cases e0 : 0 ≤ p.en e
  ·rw [if_pos e0]
   exact .inr (isPl_mk (he e hq e0))
  ·rw [if_neg e0]
   rcases h.en e hq with q | q
   ·exact .inl q
   ·simp [isPl] at q; omega
 ·obtain ⟨s1, s2, s3⟩ := sel_spec (show j < cnt K p.n from hj)
  have hi := h.ins _ s1
  have ho := op_nat hi
  refine ⟨hj, hi.o, ?_⟩
  show argF (cutF p K) (p.op (sel K p.n j)).toNat (if wayP (p.op (sel K p.n j)) = true then _ else _) = true
  refine argF_with (by omega) hi.a rfl rfl (fun e => ?_) (fun e => ?_)
  ·have hwp : wayP (p.op (sel K p.n j)) = true := by simp [wayP]; omega
   rw [if_pos hwp]
   exact isPl_mk (hw _ s1 s2 hwp)
  ·have hwp : ¬ wayP (p.op (sel K p.n j)) = true := fun q => e (wayP_nat q)
   rw [if_neg hwp]
/-- What is known of the places that are kept. -/
theorem cut_edgs {p : Pv} {K : Nat → Bool} {j : Nat} (hj : j < cnt K p.n) (hi : InOk p (sel K p.n j)) (l : List Bool) : edgs (cutF p K) j l = (edgs p (sel K p.n j) l).map (fun x => (cnt K x.1, x.2)) := by
 obtain ⟨s1, s2, s3⟩ := sel_spec hj
 have hc := col_eq (p := cutF p K) (p' := p) (i := j) (j := sel K p.n j) rfl rfl (by
  show wayP (p.op (sel K p.n j)) = true ∨ (if wayP (p.op (sel K p.n j)) = true then _ else _) = _
  by_cases e : wayP (p.op (sel K p.n j)) = true
  ·exact .inl e
  ·right; rw [if_neg e])
 have ha : ∀ l, aft (cutF p K) j l = aft p (sel K p.n j) l := fun l => by
  unfold aft
  rw [hc.1, hc.2]
 have hnx : cnt K (sel K p.n j + 1) = j + 1 := by rw [cnt_next s2, s3]
 have ho : (cutF p K).op j = p.op (sel K p.n j) := rfl
 have hw : 25 ≤ (p.op (sel K p.n j)).toNat → (p.op (sel K p.n j)).toNat ≤ 28 → ((cutF p K).arg j).toNat = cnt K (p.arg (sel K p.n j)).toNat := fun h1 h2 => by
  have q := op_nat hi
  have hwp : wayP (p.op (sel K p.n j)) = true := by simp [wayP]; omega
  have e : (cutF p K).arg j = if wayP (p.op (sel K p.n j)) = true then ((cnt K (p.arg (sel K p.n j)).toNat : Nat) : Int) else p.arg (sel K p.n j) := rfl
  rw [e, if_pos hwp]
  rfl
 unfold edgs
 rw [ho, ha]
 split
 ·rfl
 ·split
  ·rename_i q
   rw [hw (by omega) (by omega)]
   rfl
  ·split
   ·rename_i q
    rw [hw (by omega) (by omega)]
    simp only [List.map_cons, List.map_nil, hnx]
   ·split
    ·rename_i q
     rw [hw (by omega) (by omega)]
     simp only [List.map_cons, List.map_nil, hnx]
    ·simp only [List.map_cons, List.map_nil, hnx]
def kOf (k : Kn) (i : Nat) : Bool := (k i).isSome
theorem cut_flow {p : Pv} {k : Kn} (hw : Wf p) (h : Flow p k) : Flow (cutF p (kOf k)) (fun j => if j < cnt (kOf k) p.n then k (sel (kOf k) p.n j) else none) := by
 have hen : ∀ e, e < 6 → 0 ≤ p.en e → (p.en e).toNat < p.n ∧ kOf k (p.en e).toNat = true := fun e he h0 => by
  refine ⟨?_, by unfold kOf; rw [h.en e he h0]; rfl⟩
  rcases hw.en e he with q | q
  ·omega
  ·exact (isPl_nat q).2
 have kept : ∀ d l, d < p.n → k d = some l → cnt (kOf k) d < cnt (kOf k) p.n ∧ k (sel (kOf k) p.n (cnt (kOf k) d)) = some l ∧ kOf k d = true := fun d l hd hk => by
  have e : kOf k d = true := by unfold kOf; rw [hk]; rfl
  exact ⟨cnt_lt e hd, by rw [sel_cnt hd e]; exact hk, e⟩
 refine ⟨fun e he h0 => ?_, fun j l hj hk => ?_, fun j l hj hk => ?_⟩
 ·have h0' : 0 ≤ p.en e := by
   have h0 : 0 ≤ (if 0 ≤ p.en e then ((cnt (kOf k) (p.en e).toNat : Nat) : Int) else p.en e) := h0
   by_cases q : 0 ≤ p.en e
   ·exact q
   ·rw [if_neg q] at h0; exact absurd h0 q
  obtain ⟨a1, a2⟩ := hen e he h0'
  have b := kept _ _ a1 (h.en e he h0')
  have ee : ((cutF p (kOf k)).en e).toNat = cnt (kOf k) (p.en e).toNat := by
   show (if 0 ≤ p.en e then ((cnt (kOf k) (p.en e).toNat : Nat) : Int) else p.en e).toNat = _
   rw [if_pos h0']
   rfl
  show (if _ then _ else _) = _
  rw [ee, if_pos b.1]
  exact b.2.1
 ·have hj : j < cnt (kOf k) p.n := hj
  obtain ⟨s1, s2, s3⟩ := sel_spec hj
  simp only [hj, if_true] at hk
  obtain ⟨f1, f2⟩ := h.fl _ l s1 hk
  have hi := hw.ins _ s1
  have hc := col_eq (p := cutF p (kOf k)) (p' := p) (i := j) (j := sel (kOf k) p.n j) rfl rfl (by
   show wayP (p.op (sel (kOf k) p.n j)) = true ∨ (if wayP (p.op (sel (kOf k) p.n j)) = true then _ else _) = _
   by_cases e : wayP (p.op (sel (kOf k) p.n j)) = true
   ·exact .inl e
   ·right; rw [if_neg e])
  refine ⟨by unfold fits; rw [hc.1, hc.2]; exact f1, fun x hx => ?_⟩
  rw [cut_edgs hj hi] at hx
  obtain ⟨y, hy, rfl⟩ := List.mem_map.1 hx
  obtain ⟨g1, g2, g3⟩ := f2 y hy
  obtain ⟨b1, b2, b3⟩ := kept _ _ g1 g3
  refine ⟨b1, fun hle => ?_, by simp only [b1, if_true]; exact b2⟩
  show p.op (sel (kOf k) p.n (cnt (kOf k) y.1)) = 1
  rw [sel_cnt g1 b3]
  refine g2 ?_
  rcases Nat.lt_or_ge (sel (kOf k) p.n j) y.1 with q | q
  ·have := cnt_lt s2 q
   simp only at hle
   omega
  ·exact q
 ·have hj : j < cnt (kOf k) p.n := hj
  obtain ⟨s1, s2, s3⟩ := sel_spec hj
  simp only [hj, if_true] at hk
  rcases h.rc _ l s1 hk with ⟨e, he, h0, q⟩ | ⟨i, l0, l', q1, q2, q3⟩
  ·refine .inl ⟨e, he, ?_, ?_⟩
   ·show 0 ≤ (if 0 ≤ p.en e then ((cnt (kOf k) (p.en e).toNat : Nat) : Int) else p.en e)
    rw [if_pos h0]
    omega
   ·show (if 0 ≤ p.en e then ((cnt (kOf k) (p.en e).toNat : Nat) : Int) else p.en e).toNat = _
    rw [if_pos h0, q]
    exact s3
  ·obtain ⟨b1, b2, b3⟩ := kept i l0 (by omega) q2
   refine .inr ⟨cnt (kOf k) i, l0, l', ?_, ?_, ?_⟩
   ·have := cnt_lt b3 q1
    omega
   ·simp only [b1, if_true]
    exact b2
   ·have hii : InOk p (sel (kOf k) p.n (cnt (kOf k) i)) := by rw [sel_cnt (by omega) b3]; exact hw.ins i (by omega)
    rw [cut_edgs b1 hii, sel_cnt (by omega) b3]
    exact List.mem_map.2 ⟨_, q3, by rw [s3]⟩
theorem mem_way {p : Pv} {i : Nat} {l : List Bool} (hw : wayP (p.op i) = true) : ∃ l', ((p.arg i).toNat, l') ∈ edgs p i l := by
 have h2 := wayP_nat hw
 unfold edgs
 split
 ·omega
 ·split
  ·exact ⟨_, List.mem_cons_self ..⟩
  ·split
   ·exact ⟨_, List.mem_cons_self ..⟩
   ·split
    ·exact ⟨_, List.mem_cons_self ..⟩
    ·omega
/-- Cutting out what no way reaches leaves a program that is verified, every place of it reached. -/
theorem cut_ver {p : Pv} {k : Kn} (hv : verF p = .ok k) : Wf (cutF p (kOf k)) ∧ ∃ k', verF (cutF p (kOf k)) = .ok k' ∧ ∀ j, j < (cutF p (kOf k)).n → (k' j).isSome = true := by
 have hw : Wf p := Wf.of (by
  rw [verF_stat] at hv
  cases e : statF p with
  | none => rfl
  | some z => rw [e] at hv; cases hv)
 have hf := flow_of hv
 have w2 : Wf (cutF p (kOf k)) := cut_wf hw (fun i hi hk hwy => by
  have hk' : (k i).isSome = true := hk
  obtain ⟨l, hl⟩ := Option.isSome_iff_exists.1 hk'
  obtain ⟨l', hm⟩ := mem_way (l := l) hwy
  have g := (hf.fl i l hi hl).2 _ hm
  refine cnt_lt ?_ g.1
  unfold kOf
  rw [g.2.2]
  rfl) (fun e he h0 => by
  have g := hf.en e he h0
  refine cnt_lt (by unfold kOf; rw [g]; rfl) ?_
  rcases hw.en e he with q | q
  ·omega
  ·exact (isPl_nat q).2)
 refine ⟨w2, ?_⟩
 obtain ⟨k', g1, g2⟩ := ver_of w2.stat (cut_flow hw hf)
 refine ⟨k', g1, fun j hj => ?_⟩
 rw [g2 j hj]
 have hj : j < cnt (kOf k) p.n := hj
 simp only [hj, if_true]
 exact (sel_spec hj).2.1
end Go.Proofs.YtggpaljilpbmhaaGreatDoor
namespace Go.Proofs.YtggpaljilpbmhaaGreatDoor

/-- Where a way ends that leads through jumps. -/
def finF (p : Pv) : Nat → Nat → Nat
 | 0, x => x
 | f + 1, x => if p.op x = 25 then finF p f (p.arg x).toNat else x
def shortF (p : Pv) : Pv := ⟨p.nc, p.ns, p.n, p.C, p.S, p.en, p.op, fun i => if wayP (p.op i) = true then ((finF p p.n (p.arg i).toNat : Nat) : Int) else p.arg i⟩
theorem jump_edgs {p : Pv} {i : Nat} (h : p.op i = 25) (l : List Bool) : edgs p i l = [((p.arg i).toNat, l)] := by
 have ht : tkB p i = [] := by unfold tkB; rw [h]; rfl
 have hl : lyB p i = [] := by unfold lyB; rw [h]; rfl
 have ha : aft p i l = l := by unfold aft; rw [ht, hl]; simp
 unfold edgs
 rw [h, ha]
 rfl
theorem fin_stop {p : Pv} {x : Nat} (h : p.op x ≠ 25) : ∀ f, finF p f x = x
 | 0 => rfl
 | f + 1 => by unfold finF; rw [if_neg h]
/-- A chain of jumps ends at a place that is none, with the same operands. -/
theorem fin_ok {p : Pv} {k : Kn} (h : Flow p k) {l : List Bool} : ∀ {f x : Nat}, p.n - x ≤ f → x < p.n → k x = some l → p.op (finF p f x) ≠ 25 ∧ finF p f x < p.n ∧ k (finF p f x) = some l ∧ (x ≤ finF p f x ∨ p.op (finF p f x) = 1)
 | 0, x, hf, hx, _ => by omega
 | f + 1, x, hf, hx, hk => by
  unfold finF
  by_cases e : p.op x = 25
  ·rw [if_pos e]
   have g := (h.fl x l hx hk).2 ((p.arg x).toNat, l) (by rw [jump_edgs e]; exact List.mem_cons_self ..)
   simp only at g
   by_cases hb : (p.arg x).toNat ≤ x
   ·have h1 := g.2.1 hb
    rw [fin_stop (by rw [h1]; decide)]
    exact ⟨by rw [h1]; decide, g.1, g.2.2, .inr h1⟩
   ·obtain ⟨a1, a2, a3, a4⟩ := fin_ok h (f := f) (x := (p.arg x).toNat) (by omega) g.1 g.2.2
    refine ⟨a1, a2, a3, ?_⟩
    rcases a4 with q | q
    ·left; omega
    ·exact .inr q
  ·rw [if_neg e]
   exact ⟨e, hx, hk, .inl (Nat.le_refl _)⟩
/-- With steps enough it does not matter how many. -/
theorem fin_more {p : Pv} {k : Kn} (h : Flow p k) {l : List Bool} : ∀ {f g x : Nat}, p.n - x ≤ f → p.n - x ≤ g → x < p.n → k x = some l → finF p f x = finF p g x
 | 0, _, x, hf, _, hx, _ => by omega
 | _ + 1, 0, x, _, hg, hx, _ => by omega
 | f + 1, g + 1, x, hf, hg, hx, hk => by
  unfold finF
  by_cases e : p.op x = 25
  ·rw [if_pos e, if_pos e]
   have q := (h.fl x l hx hk).2 ((p.arg x).toNat, l) (by rw [jump_edgs e]; exact List.mem_cons_self ..)
   simp only at q
   by_cases hb : (p.arg x).toNat ≤ x
   ·have h1 := q.2.1 hb
    rw [fin_stop (by rw [h1]; decide), fin_stop (by rw [h1]; decide)]
   ·exact fin_more h (by omega) (by omega) q.1 q.2.2
  ·rw [if_neg e, if_neg e]
theorem fin_step {p : Pv} {k : Kn} (h : Flow p k) {l : List Bool} {x : Nat} (hx : x < p.n) (hk : k x = some l) (e : p.op x = 25) : finF p p.n x = finF p p.n (p.arg x).toNat := by
 have q := (h.fl x l hx hk).2 ((p.arg x).toNat, l) (by rw [jump_edgs e]; exact List.mem_cons_self ..)
 simp only at q
 have e1 : finF p p.n x = finF p (p.n - 1) (p.arg x).toNat := by
  obtain ⟨m, hm⟩ : ∃ m, p.n = m + 1 := ⟨p.n - 1, by omega⟩
  rw [hm]
  show (if p.op x = 25 then _ else _) = _
  rw [if_pos e]
  rfl
 rw [e1]
 by_cases hb : (p.arg x).toNat ≤ x
 ·have h1 := q.2.1 hb
  rw [fin_stop (by rw [h1]; decide), fin_stop (by rw [h1]; decide)]
 ·exact fin_more h (by omega) (by omega) q.1 q.2.2
/-- The edges of a shortened program. -/
theorem short_edgs {p : Pv} {i : Nat} (hi : InOk p i) (l : List Bool) (y : Nat × List Bool) : y ∈ edgs (shortF p) i l ↔ (∃ l', wayP (p.op i) = true ∧ y = (finF p p.n (p.arg i).toNat, l') ∧ ((p.arg i).toNat, l') ∈ edgs p i l ∧ ∃ r, edgs p i l = ((p.arg i).toNat, l') :: r) ∨ (y = (i + 1, aft p i l) ∧ (i + 1, aft p i l) ∈ edgs p i l ∧ (p.op i).toNat ≠ 25 ∧ (p.op i).toNat ≠ 31 ∧ (p.op i).toNat ≠ 32) := by
 have hq := op_nat hi
 have hc := col_eq (p := shortF p) (p' := p) (i := i) (j := i) rfl rfl (by
  show wayP (p.op i) = true ∨ (if wayP (p.op i) = true then _ else _) = _
  by_cases e : wayP (p.op i) = true
  ·exact .inl e
  ·right; rw [if_neg e])
 have ha : ∀ l, aft (shortF p) i l = aft p i l := fun l => by
  unfold aft
  rw [hc.1, hc.2]
 have ho : (shortF p).op i = p.op i := rfl
 have hw : 25 ≤ (p.op i).toNat → (p.op i).toNat ≤ 28 → wayP (p.op i) = true ∧ ((shortF p).arg i).toNat = finF p p.n (p.arg i).toNat := fun h1 h2 => by
  have hwp : wayP (p.op i) = true := by simp [wayP]; omega
  have e : (shortF p).arg i = if wayP (p.op i) = true then ((finF p p.n (p.arg i).toNat : Nat) : Int) else p.arg i := rfl
  exact ⟨hwp, by rw [e, if_pos hwp]; rfl⟩
 have hnw : ¬ (25 ≤ (p.op i).toNat ∧ (p.op i).toNat ≤ 28) → ¬ wayP (p.op i) = true := fun q e => q (wayP_nat e)
 unfold edgs
 rw [ho, ha]
 by_cases a1 : (p.op i).toNat = 31 ∨ (p.op i).toNat = 32
 ·rw [if_pos a1, if_pos a1]
  simp
 ·rw [if_neg a1, if_neg a1]
  by_cases a2 : (p.op i).toNat = 25
  ·rw [if_pos a2, if_pos a2]
   obtain ⟨w1, w2⟩ := hw (by omega) (by omega)
   rw [w2]
   constructor
   ·intro hm
    simp at hm
    exact .inl ⟨_, w1, hm, by simp, [], rfl⟩
   ·rintro (⟨l', _, rfl, hm, _⟩ | ⟨_, _, q, _⟩)
    ·simp at hm
     subst hm
     simp
    ·exact absurd a2 q
  ·rw [if_neg a2, if_neg a2]
   by_cases a3 : (p.op i).toNat = 27 ∨ (p.op i).toNat = 28
   ·rw [if_pos a3, if_pos a3]
    obtain ⟨w1, w2⟩ := hw (by omega) (by omega)
    rw [w2]
    constructor
    ·intro hm
     rcases List.mem_cons.1 hm with hm | hm
     ·exact .inl ⟨l, w1, hm, by simp, _, rfl⟩
     ·simp at hm
      exact .inr ⟨hm, by simp, a2, fun e => a1 (.inl e), fun e => a1 (.inr e)⟩
    ·rintro (⟨l', _, rfl, _, r, hr⟩ | ⟨rfl, _⟩)
     ·simp at hr
      obtain ⟨rfl, _⟩ := hr
      simp
     ·simp
   ·rw [if_neg a3, if_neg a3]
    by_cases a4 : (p.op i).toNat = 26
    ·rw [if_pos a4, if_pos a4]
     obtain ⟨w1, w2⟩ := hw (by omega) (by omega)
     rw [w2]
     constructor
     ·intro hm
      rcases List.mem_cons.1 hm with hm | hm
      ·exact .inl ⟨_, w1, hm, by simp, _, rfl⟩
      ·simp at hm
       exact .inr ⟨hm, by simp, a2, fun e => a1 (.inl e), fun e => a1 (.inr e)⟩
     ·rintro (⟨l', _, rfl, _, r, hr⟩ | ⟨rfl, _⟩)
      ·simp at hr
       obtain ⟨rfl, _⟩ := hr
       simp
      ·simp
    ·rw [if_neg a4, if_neg a4]
     constructor
     ·intro hm
      simp at hm
      exact .inr ⟨hm, by simp, a2, fun e => a1 (.inl e), fun e => a1 (.inr e)⟩
     ·rintro (⟨l', q, _⟩ | ⟨rfl, _⟩)
      ·exact absurd q (hnw (by omega))
      ·simp
theorem edgs_two {p : Pv} {i : Nat} {l : List Bool} {y : Nat × List Bool} (h : y ∈ edgs p i l) : (wayP (p.op i) = true ∧ y.1 = (p.arg i).toNat ∧ ∃ r, edgs p i l = y :: r) ∨ (y = (i + 1, aft p i l) ∧ (p.op i).toNat ≠ 25 ∧ (p.op i).toNat ≠ 31 ∧ (p.op i).toNat ≠ 32) := by
 have hw : 25 ≤ (p.op i).toNat → (p.op i).toNat ≤ 28 → wayP (p.op i) = true := fun h1 h2 => by simp [wayP]; omega
 unfold edgs at h ⊢
 by_cases a1 : (p.op i).toNat = 31 ∨ (p.op i).toNat = 32
 ·rw [if_pos a1] at h
  cases h
 ·rw [if_neg a1] at h ⊢
  by_cases a2 : (p.op i).toNat = 25
  ·rw [if_pos a2] at h ⊢
   simp at h
   subst h
   exact .inl ⟨hw (by omega) (by omega), rfl, [], rfl⟩
  ·rw [if_neg a2] at h ⊢
   by_cases a3 : (p.op i).toNat = 27 ∨ (p.op i).toNat = 28
   ·rw [if_pos a3] at h ⊢
    rcases List.mem_cons.1 h with h | h
    ·subst h
     exact .inl ⟨hw (by omega) (by omega), rfl, _, rfl⟩
    ·simp at h
     exact .inr ⟨h, a2, fun e => a1 (.inl e), fun e => a1 (.inr e)⟩
   ·rw [if_neg a3] at h ⊢
    by_cases a4 : (p.op i).toNat = 26
    ·rw [if_pos a4] at h ⊢
     rcases List.mem_cons.1 h with h | h
     ·subst h
      exact .inl ⟨hw (by omega) (by omega), rfl, _, rfl⟩
     ·simp at h
      exact .inr ⟨h, a2, fun e => a1 (.inl e), fun e => a1 (.inr e)⟩
    ·rw [if_neg a4] at h ⊢
     simp at h
     exact .inr ⟨h, a2, fun e => a1 (.inl e), fun e => a1 (.inr e)⟩
end Go.Proofs.YtggpaljilpbmhaaGreatDoor
namespace Go.Proofs.YtggpaljilpbmhaaGreatDoor

/-- Led to from the front in the shortened program. -/
def Rch (p : Pv) (k : Kn) (x : Nat) : Prop := ∀ P : Nat → Prop, (∀ i, Ent p i → P i) → (∀ i l d l', i < p.n → P i → k i = some l → (d, l') ∈ edgs (shortF p) i l → i < d → P d) → P x
theorem Rch.ent {p : Pv} {k : Kn} {i : Nat} (h : Ent p i) : Rch p k i := fun _ h1 _ => h1 i h
theorem Rch.step {p : Pv} {k : Kn} {i d : Nat} {l l' : List Bool} (h : Rch p k i) (hi : i < p.n) (hk : k i = some l) (he : (d, l') ∈ edgs (shortF p) i l) (hd : i < d) : Rch p k d := fun P h1 h2 => h2 i l d l' hi (h P h1 h2) hk he hd
theorem Rch.inv {p : Pv} {k : Kn} {x : Nat} (h : Rch p k x) : Ent p x ∨ ∃ i l l', i < x ∧ i < p.n ∧ Rch p k i ∧ k i = some l ∧ (x, l') ∈ edgs (shortF p) i l := by
 have := h (fun y => Rch p k y ∧ (Ent p y ∨ ∃ i l l', i < y ∧ i < p.n ∧ Rch p k i ∧ k i = some l ∧ (y, l') ∈ edgs (shortF p) i l)) (fun i hi => ⟨Rch.ent hi, .inl hi⟩) (fun i l d l' hi hp hk he hd => ⟨hp.1.step hi hk he hd, .inr ⟨i, l, l', hd, hi, hp.1, hk, he⟩⟩)
 exact this.2
theorem op25 {p : Pv} {i : Nat} (e : (p.op i).toNat ≠ 25) : p.op i ≠ 25 := fun q => e (by rw [q]; rfl)
/-- What was led to is led to, jumps aside; where a jump leads forward in the end is led to. -/
theorem rch_all {p : Pv} {k : Kn} (hw : Wf p) (h : Flow p k) : ∀ (m x : Nat) (l : List Bool), x < m → x < p.n → k x = some l → (p.op x ≠ 25 → Rch p k x) ∧ (p.op x = 25 → x < finF p p.n x → Rch p k (finF p p.n x))
 | 0, x, l, hm, _, _ => by omega
 | m + 1, x, l, hm, hx, hk => by
  have self : Rch p k x → p.op x = 25 → x < finF p p.n x → Rch p k (finF p p.n x) := fun hr e hlt => by
   refine hr.step hx hk (l' := l) ?_ hlt
   rw [short_edgs (hw.ins x hx)]
   have hwp : wayP (p.op x) = true := by rw [e]; rfl
   refine .inl ⟨l, hwp, ?_, ?_, [], ?_⟩
   ·rw [fin_step h hx hk e]
   ·rw [jump_edgs e]; exact List.mem_cons_self ..
   ·exact jump_edgs e l
  rcases h.rc x l hx hk with he | ⟨i, l0, l', hi, hki, hm2⟩
  ·have hr : Rch p k x := Rch.ent he
   exact ⟨fun _ => hr, self hr⟩
  ·have ih := rch_all hw h m i l0 (by omega) (by omega) hki
   have hii := hw.ins i (by omega)
   rcases edgs_two hm2 with ⟨q1, q2, r, q3⟩ | ⟨q1, q2, _, _⟩
   ·simp only at q2
    by_cases ei : p.op i = 25
    ·have ef : finF p p.n i = finF p p.n x := by rw [fin_step h (by omega) hki ei, ← q2]
     refine ⟨fun ex => ?_, fun ex hlt => ?_⟩
     ·have e2 : finF p p.n x = x := fin_stop ex _
      have := ih.2 ei (by rw [ef, e2]; exact hi)
      rw [ef, e2] at this
      exact this
     ·have := ih.2 ei (by rw [ef]; omega)
      rw [ef] at this
      exact this
    ·have hr := ih.1 ei
     have hed : (finF p p.n x, l') ∈ edgs (shortF p) i l0 := by
      rw [short_edgs hii]
      exact .inl ⟨l', q1, by rw [q2], by rw [← q2]; exact hm2, r, by rw [← q2]; exact q3⟩
     refine ⟨fun ex => ?_, fun ex hlt => hr.step (by omega) hki hed (by omega)⟩
     have e2 : finF p p.n x = x := fin_stop ex _
     rw [e2] at hed
     exact hr.step (by omega) hki hed hi
   ·have hr := ih.1 (op25 q2)
    have hed : (x, l') ∈ edgs (shortF p) i l0 := by
     rw [short_edgs hii]
     rw [q1] at hm2
     exact .inr ⟨q1, hm2, q2, by assumption, by assumption⟩
    have hr2 : Rch p k x := hr.step (by omega) hki hed hi
    exact ⟨fun _ => hr2, self hr2⟩
theorem short_wf {p : Pv} {k : Kn} (hw : Wf p) (h : Flow p k) (hall : ∀ i, i < p.n → (k i).isSome = true) : Wf (shortF p) := by
 refine ⟨hw.sz, hw.sl, hw.en, fun i hi => ?_⟩
 have hi : i < p.n := hi
 have hii := hw.ins i hi
 have hq := op_nat hii
 refine ⟨hi, hii.o, ?_⟩
 show argF (shortF p) (p.op i).toNat (if wayP (p.op i) = true then _ else _) = true
 refine argF_with (by omega) hii.a rfl rfl (fun e => ?_) (fun e => ?_)
 ·have hwp : wayP (p.op i) = true := by simp [wayP]; omega
  rw [if_pos hwp]
  have hp := isPl_nat (hii.way hwp)
  obtain ⟨l, hl⟩ := Option.isSome_iff_exists.1 (hall _ hp.2)
  exact isPl_mk (fin_ok h (by omega) hp.2 hl).2.1
 ·have hwp : ¬ wayP (p.op i) = true := fun q => e (wayP_nat q)
  rw [if_neg hwp]
theorem short_flow {p : Pv} {k : Kn} (hw : Wf p) (h : Flow p k) : ∃ k2 : Kn, Flow (shortF p) k2 := by
 classical
 refine ⟨fun i => if Rch p k i then k i else none, ?_, ?_, ?_⟩
 ·intro e he h0
  have hr : Rch p k (p.en e).toNat := Rch.ent ⟨e, he, h0, rfl⟩
  show (if Rch p k (p.en e).toNat then _ else _) = _
  rw [if_pos hr]
  exact h.en e he h0
 ·intro i l hi hk
  have hi : i < p.n := hi
  have hr : Rch p k i := by
   by_cases q : Rch p k i
   ·exact q
   ·simp only [if_neg q] at hk; cases hk
  simp only [if_pos hr] at hk
  have hii := hw.ins i hi
  obtain ⟨f1, f2⟩ := h.fl i l hi hk
  have hc := col_eq (p := shortF p) (p' := p) (i := i) (j := i) rfl rfl (by
   show wayP (p.op i) = true ∨ (if wayP (p.op i) = true then _ else _) = _
   by_cases e : wayP (p.op i) = true
   ·exact .inl e
   ·right; rw [if_neg e])
  refine ⟨by unfold fits; rw [hc.1, hc.2]; exact f1, fun y hy => ?_⟩
  have hy0 := hy
  rw [short_edgs hii] at hy
  rcases hy with ⟨l', w1, rfl, hm, _⟩ | ⟨rfl, hm, _⟩
  ·obtain ⟨g1, g2, g3⟩ := f2 _ hm
   simp only at g1 g2 g3
   obtain ⟨b1, b2, b3, b4⟩ := fin_ok h (f := p.n) (by omega) g1 g3
   have hb : finF p p.n (p.arg i).toNat ≤ i → p.op (finF p p.n (p.arg i).toNat) = 1 := fun hle => by
    rcases b4 with q | q
    ·have h1 := g2 (by omega)
     rw [fin_stop (by rw [h1]; decide)]
     exact h1
    ·exact q
   refine ⟨b2, hb, ?_⟩
   have hrf : Rch p k (finF p p.n (p.arg i).toNat) := by
    by_cases hle : i < finF p p.n (p.arg i).toNat
    ·exact hr.step hi hk hy0 hle
    ·exact (rch_all hw h _ _ l' (Nat.lt_succ_self _) b2 b3).1 b1
   simp only [if_pos hrf]
   exact b3
  ·obtain ⟨g1, g2, g3⟩ := f2 _ hm
   refine ⟨g1, fun hle => absurd hle (by simp), ?_⟩
   have : Rch p k (i + 1) := hr.step hi hk hy0 (by omega)
   simp only [if_pos this]
   exact g3
 ·intro i l hi hk
  have hr : Rch p k i := by
   by_cases q : Rch p k i
   ·exact q
   ·simp only [if_neg q] at hk; cases hk
  rcases hr.inv with q | ⟨j, l0, l', q1, q2, q3, q4, q5⟩
  ·exact .inl q
  ·exact .inr ⟨j, l0, l', q1, by simp only [if_pos q3]; exact q4, q5⟩
end Go.Proofs.YtggpaljilpbmhaaGreatDoor
namespace Go.Proofs.YtggpaljilpbmhaaGreatDoor

theorem ver_wf {p : Pv} {k : Kn} (hv : verF p = .ok k) : Wf p := Wf.of (by
 rw [verF_stat] at hv
 cases e : statF p with
 | none => rfl
 | some z => rw [e] at hv; cases hv)
/-- A verified program without what no way reaches, its ways shortened, is verified. -/
theorem short_ver {p : Pv} {k : Kn} (hv : verF p = .ok k) : ∃ k2, verF (shortF (cutF p (kOf k))) = .ok k2 := by
 obtain ⟨w1, k1, h1, h2⟩ := cut_ver hv
 have f1 := flow_of h1
 have w2 := short_wf w1 f1 h2
 obtain ⟨k2, f2⟩ := short_flow w1 f1
 obtain ⟨k3, h3, _⟩ := ver_of w2.stat f2
 exact ⟨k3, h3⟩
/-- The first jump to the next place. -/
def idleB (p : Pv) (j : Nat) : Bool := decide (p.op j = 25) && decide (p.arg j = (j : Int) + 1)
def fstI (p : Pv) : Nat → Option Nat
 | 0 => none
 | j + 1 => match fstI p j with
  | some x => some x
  | none => if idleB p j = true then some j else none
theorem fstI_some {p : Pv} : ∀ {m x : Nat}, fstI p m = some x → x < m ∧ idleB p x = true ∧ fstI p x = none
 | 0, x, h => by cases h
 | m + 1, x, h => by
  unfold fstI at h
  cases e : fstI p m with
  | some y =>
   rw [e] at h
   simp only at h
   cases h
   have := fstI_some e
   exact ⟨by omega, this.2⟩
  | none =>
   rw [e] at h
   simp only at h
   split at h
   ·rename_i q
    cases h
    exact ⟨by omega, q, e⟩
   ·cases h
theorem fstI_next {p : Pv} {j : Nat} (h : fstI p j = none) : fstI p (j + 1) = if idleB p j = true then some j else none := by
 show (match fstI p j with | some x => some x | none => _) = _
 rw [h]
theorem fstI_hit {p : Pv} {j : Nat} (h0 : fstI p j = none) (h : idleB p j = true) : ∀ {m : Nat}, j < m → fstI p m = some j
 | 0, hm => by omega
 | m + 1, hm => by
  by_cases e : j = m
  ·subst e
   rw [fstI_next h0, if_pos h]
  ·have := fstI_hit h0 h (m := m) (by omega)
   show (match fstI p m with | some x => some x | none => _) = _
   rw [this]
def butK (i : Nat) (x : Nat) : Bool := decide (x ≠ i)
theorem cnt_but (i : Nat) : ∀ x, cnt (butK i) x = if i < x then x - 1 else x
 | 0 => rfl
 | x + 1 => by
  have := cnt_but i x
  show cnt (butK i) x + (if butK i x then 1 else 0) = _
  rw [this]
  by_cases e : x = i
  ·subst e
   have hb : butK x x = false := by simp [butK]
   rw [hb]
   simp only [Bool.false_eq_true, if_false]
   split <;> split <;> omega
  ·have hb : butK i x = true := by simp [butK, e]
   rw [hb]
   simp only [if_true]
   split <;> split <;> omega
/-- Without the jumps to the next place, one after the other. -/
def idleF : Nat → Pv → Pv
 | 0, p => p
 | f + 1, p => match fstI p p.n with
  | none => p
  | some i => idleF f (cutF p (butK i))
theorem idle_wf {p : Pv} {i : Nat} (h : Wf p) (hi : fstI p p.n = some i) : Wf (cutF p (butK i)) ∧ (cutF p (butK i)).n + 1 = p.n ∧ ∀ a : Int, isPl a p.n = true → cnt (butK i) a.toNat < cnt (butK i) p.n := by
 obtain ⟨h1, h2, _⟩ := fstI_some hi
 simp [idleB] at h2
 have hin : i + 1 < p.n := by
  have hw : wayP (p.op i) = true := by rw [h2.1]; rfl
  have := isPl_nat ((h.ins i h1).way hw)
  omega
 have key : ∀ a : Int, isPl a p.n = true → cnt (butK i) a.toNat < cnt (butK i) p.n := fun a ha => by
  have := (isPl_nat ha).2
  rw [cnt_but, cnt_but, if_pos (show i < p.n by omega)]
  split <;> omega
 refine ⟨cut_wf h (fun j hj _ hw => key _ ((h.ins j hj).way hw)) (fun e he h0 => key _ (by rcases h.en e he with q | q; omega; exact q)), ?_, key⟩
 show cnt (butK i) p.n + 1 = _
 rw [cnt_but, if_pos (by omega)]
 omega
theorem idleF_none {p : Pv} {f : Nat} (h : fstI p p.n = none) : idleF f p = p := by
 cases f with
 | zero => rfl
 | succ f => show (match fstI p p.n with | none => p | some i => _) = _; rw [h]
theorem idleF_some {p : Pv} {f i : Nat} (h : fstI p p.n = some i) : idleF (f + 1) p = idleF f (cutF p (butK i)) := by
 show (match fstI p p.n with | none => p | some i => _) = _
 rw [h]
theorem idleF_wf : ∀ {f : Nat} {p : Pv}, Wf p → Wf (idleF f p)
 | 0, _, h => h
 | f + 1, p, h => by
  cases e : fstI p p.n with
  | none => rw [idleF_none e]; exact h
  | some i => rw [idleF_some e]; exact idleF_wf (idle_wf h e).1
/-- Is a constant laid up somewhere? -/
def usedB (p : Pv) (c : Nat) : Nat → Bool
 | 0 => false
 | j + 1 => usedB p c j || (decide (p.op j = 2) && decide (p.arg j = (c : Int)))
def usd (p : Pv) (c : Nat) : Bool := usedB p c p.n
theorem usedB_true {p : Pv} {c : Nat} : ∀ {m : Nat}, (usedB p c m = true ↔ ∃ j, j < m ∧ p.op j = 2 ∧ p.arg j = (c : Int))
 | 0 => by simp [usedB]
 | m + 1 => by
  have ih := usedB_true (p := p) (c := c) (m := m)
  unfold usedB
  rw [Bool.or_eq_true, ih]
  constructor
  ·rintro (⟨j, h1, h2⟩ | h)
   ·exact ⟨j, by omega, h2⟩
   ·simp at h
    exact ⟨m, by omega, h⟩
  ·rintro ⟨j, h1, h2⟩
   by_cases e : j = m
   ·subst e
    right
    simp [h2]
   ·exact .inl ⟨j, by omega, h2⟩
/-- Without the constants that nothing lays up. -/
def constF (p : Pv) : Pv := ⟨cnt (usd p) p.nc, p.ns, p.n, fun j => p.C (sel (usd p) p.nc j), p.S, p.en, p.op, fun i => if p.op i = 2 then ((cnt (usd p) (p.arg i).toNat : Nat) : Int) else p.arg i⟩
/-- What Tidy answers. -/
def tidF (p : Pv) (k k2 : Kn) : Pv := constF (idleF (cutF (shortF (cutF p (kOf k))) (kOf k2)).n (cutF (shortF (cutF p (kOf k))) (kOf k2)))
end Go.Proofs.YtggpaljilpbmhaaGreatDoor
namespace Go.Proofs.YtggpaljilpbmhaaGreatDoor

/-- A machine, as it is meant: where it stands, the height of its stack and what lies there (and what lay there), its slots, its fuel, what was paid, how it ended. -/
structure Ms where
 (pc : Int) (h : Nat) (sk : Nat → Int) (sv : Nat → Int) (slt : Nat → Int) (left : Int) (paid : Nat → Int) (ov : Bool) (en fail : Int)
def updI (f : Nat → Int) (i : Nat) (x : Int) (j : Nat) : Int := if j = i then x else f j
def Ms.nxt (s : Ms) : Ms := { s with pc := s.pc + 1 }
def Ms.go (s : Ms) (a : Int) : Ms := { s with pc := a }
def Ms.stop (s : Ms) (e : Int) : Ms := { s with pc := -1, ov := true, en := e }
def Ms.push (s : Ms) (k n : Int) : Ms := { s with h := s.h + 1, sk := updI s.sk s.h k, sv := updI s.sv s.h n }
def Ms.pop (s : Ms) (n : Nat) : Ms := { s with h := s.h - n }
/-- What lies below the top. -/
def Ms.top (s : Ms) (j : Nat) : Int := s.sv (s.h - 1 - j)
def bI (b : Bool) : Int := if b then 1 else 0
/-- A comparison. -/
def cmpB (o : Nat) (a b : Int) : Bool := if o = 9 ∨ o = 15 then decide (a = b) else if o = 10 ∨ o = 16 then !decide (a = b) else if o = 11 then decide (a < b) else if o = 12 then decide (a ≤ b) else if o = 13 then decide (b < a) else decide (b ≤ a)
def two64 : Int := 18446744073709551616
/-- What is worked out, and how it ends. -/
def reckI (o : Nat) (a b c : Int) : Int × Int :=
 if o = 17 then (if a + b < two64 then (a + b, 0) else (0, 3))
 else if o = 18 then (if b ≤ a then (a - b, 0) else (0, 3))
 else if o = 19 then (if a * b < two64 then (a * b, 0) else (0, 3))
 else if o = 20 then (if b = 0 then (0, 4) else (a / b, 0))
 else if o = 21 then (if b = 0 then (0, 4) else (a % b, 0))
 else if o = 22 then ((if b < a then b else a), 0)
 else if o = 23 then ((if a < b then b else a), 0)
 else if c = 0 then (0, 4) else if c ≤ a * b / two64 then (0, 3) else (a * b / c, 0)
/-- A payment. -/
def Ms.pay (s : Ms) (hd amount party : Int) : Ms :=
 if party < 1 ∨ 3 < party then s.stop 6 else if hd - s.paid 0 - s.paid 1 - s.paid 2 < amount then s.stop 5 else { s with pc := s.pc + 1, paid := updI s.paid (party - 1).toNat (s.paid (party - 1).toNat + amount) }
/-- One instruction. -/
def stepF (p : Pv) (ek ev : Nat → Int) (hd : Int) (s : Ms) : Ms :=
 let o := (p.op s.pc.toNat).toNat
 let a := p.arg s.pc.toNat
 if o = 1 then (if s.left = 0 then s.stop 2 else { s with left := s.left - 1 }.nxt)
 else if o = 2 then (s.push 0 (p.C a.toNat)).nxt
 else if o = 3 then (s.push 1 1).nxt
 else if o = 4 then (s.push 1 0).nxt
 else if o = 5 then (s.push (ek a.toNat) (ev a.toNat)).nxt
 else if o = 6 then (s.push (p.S a.toNat) (s.slt a.toNat)).nxt
 else if o = 7 then { s.pop 1 with slt := updI s.slt a.toNat (s.top 0) }.nxt
 else if o = 8 then ((s.pop 1).push 1 (1 - s.top 0)).nxt
 else if o ≤ 16 then ((s.pop 2).push 1 (bI (cmpB o (s.top 1) (s.top 0)))).nxt
 else if o ≤ 23 then (if (reckI o (s.top 1) (s.top 0) 0).2 = 0 then ((s.pop 2).push 0 (reckI o (s.top 1) (s.top 0) 0).1).nxt else (s.pop 2).stop (reckI o (s.top 1) (s.top 0) 0).2)
 else if o = 24 then (if (reckI o (s.top 2) (s.top 1) (s.top 0)).2 = 0 then ((s.pop 3).push 0 (reckI o (s.top 2) (s.top 1) (s.top 0)).1).nxt else (s.pop 3).stop (reckI o (s.top 2) (s.top 1) (s.top 0)).2)
 else if o = 25 then s.go a
 else if o = 26 then (if s.top 0 = 1 then (s.pop 1).nxt else (s.pop 1).go a)
 else if o = 27 then (if s.top 0 = 0 then s.go a else (s.pop 1).nxt)
 else if o = 28 then (if s.top 0 = 1 then s.go a else (s.pop 1).nxt)
 else if o = 29 then (s.pop 2).pay hd (s.top 1) (s.top 0)
 else if o = 30 then (if s.top 0 = 1 then (s.pop 1).nxt else { s.pop 1 with fail := a }.stop 1)
 else if o = 31 then { s with fail := a }.stop 1
 else s.stop 0
/-- A value is of its kind. -/
structure Okv (k n : Int) : Prop where
 kd : k = 0 ∨ k = 1
 lo : 0 ≤ n
 hi : n < two64
 b : k = 1 → n = 0 ∨ n = 1
theorem Okv.num {n : Int} (h0 : 0 ≤ n) (h1 : n < two64) : Okv 0 n := ⟨.inl rfl, h0, h1, fun e => by cases e⟩
theorem Okv.bit {n : Int} (h : n = 0 ∨ n = 1) : Okv 1 n := ⟨.inr rfl, by omega, by unfold two64; omega, fun _ => h⟩
/-- The machine's stack is of these kinds. -/
structure Stk (s : Ms) (l : List Bool) : Prop where
 h : s.h = l.length
 k : ∀ j b, l[j]? = some b → s.sk j = bI b
 v : ∀ j, j < s.h → Okv (s.sk j) (s.sv j)
/-- What holds of a machine all along. -/
structure Tm (p : Pv) (k : Kn) (hd : Int) (s : Ms) : Prop where
 run : s.ov = false → ∃ i l, s.pc = ((i : Nat) : Int) ∧ i < p.n ∧ k i = some l ∧ Stk s l
 sl : ∀ j, j < p.ns → Okv (p.S j) (s.slt j)
 l0 : 0 ≤ s.left
 l1 : s.left ≤ 1000
 p0 : 0 ≤ s.paid 0
 p1 : 0 ≤ s.paid 1
 p2 : 0 ≤ s.paid 2
 ps : s.paid 0 + s.paid 1 + s.paid 2 ≤ hd
 e0 : 0 ≤ s.en
 e1 : s.en ≤ 8
 en : s.ov = true → s.pc = -1
section
variable {p : Pv} {k : Kn} {hd : Int} {s : Ms} {ek ev : Nat → Int}
theorem Stk.pop {l : List Bool} {n : Nat} (h : Stk s l) : Stk (s.pop n) (l.take (l.length - n)) := by
 have hh := h.h
 refine ⟨?_, fun j b e => ?_, fun j hj => ?_⟩
 ·show s.h - n = _
  rw [List.length_take]
  omega
 ·rw [List.getElem?_take] at e
  split at e
  ·exact h.k j b e
  ·cases e
 ·have hj : j < s.h - n := hj
  exact h.v j (by omega)
theorem Stk.push {l : List Bool} (h : Stk s l) {b : Bool} {n : Int} (hn : Okv (bI b) n) : Stk (s.push (bI b) n) (l ++ [b]) := by
 have hh := h.h
 refine ⟨?_, fun j x e => ?_, fun j hj => ?_⟩
 ·show s.h + 1 = _
  simp
  omega
 ·show updI s.sk s.h (bI b) j = _
  unfold updI
  by_cases q : j = s.h
  ·rw [if_pos q]
   rw [q, hh, List.getElem?_append_right (Nat.le_refl _)] at e
   simp at e
   rw [e]
  ·rw [if_neg q]
   have : j < l.length := by
    have := (List.getElem?_eq_some_iff.1 e).1
    simp at this
    omega
   rw [List.getElem?_append_left this] at e
   exact h.k j x e
 ·have hj : j < s.h + 1 := hj
  show Okv (updI s.sk s.h (bI b) j) (updI s.sv s.h n j)
  unfold updI
  by_cases q : j = s.h
  ·rw [if_pos q, if_pos q]
   exact hn
  ·rw [if_neg q, if_neg q]
   exact h.v j (by omega)
/-- What lies on top, of its kind. -/
theorem Stk.top {l : List Bool} (h : Stk s l) {i : Nat} (hf : fits p i l) {j : Nat} {b : Bool} (hj : (tkB p i)[(tkB p i).length - 1 - j]? = some b) (hl : j < (tkB p i).length) : Okv (bI b) (s.top j) := by
 have hh := h.h
 obtain ⟨f1, f2, _⟩ := hf
 rw [← f2] at hj
 rw [List.getElem?_drop] at hj
 have f3 := congrArg List.length f2
 rw [List.length_drop] at f3
 have e : l.length - (tkB p i).length + ((List.drop (l.length - (tkB p i).length) l).length - 1 - j) = s.h - 1 - j := by
  rw [List.length_drop]
  omega
 rw [e] at hj
 have := h.v (s.h - 1 - j) (by omega)
 rw [h.k _ _ hj] at this
 exact this
end
end Go.Proofs.YtggpaljilpbmhaaGreatDoor
namespace Go.Proofs.YtggpaljilpbmhaaGreatDoor

/-- How far a machine may still go. -/
def mu (p : Pv) (s : Ms) : Nat := if s.ov = true then 0 else (s.left.toNat + (if p.op s.pc.toNat = 1 then 0 else 1)) * (p.n + 2) + (p.n - s.pc.toNat) + 1
theorem mu_pos {p : Pv} {s : Ms} (h : s.ov = false) : 0 < mu p s := by unfold mu; rw [h]; simp
theorem mu_edge {p : Pv} {s s' : Ms} {i x : Nat} (h : s.ov = false) (h' : s'.ov = false) (hi : s.pc = (i : Nat)) (hx : s'.pc = (x : Nat)) (hin : i < p.n) (hxn : x < p.n) (ho : p.op i ≠ 1) (hb : x ≤ i → p.op x = 1) (hl : s'.left = s.left) : mu p s' < mu p s := by
 unfold mu
 rw [h, h', hi, hx, hl]
 simp only [Bool.false_eq_true, if_false, Int.toNat_natCast]
 rw [if_neg ho]
 by_cases e : x ≤ i
 ·have e0 : (s.left.toNat + 0) * (p.n + 2) = s.left.toNat * (p.n + 2) := by rw [Nat.add_zero]
  have e1 : (s.left.toNat + 1) * (p.n + 2) = s.left.toNat * (p.n + 2) + (p.n + 2) := by rw [Nat.add_mul, Nat.one_mul]
  rw [if_pos (hb e), e0, e1]
  omega
 ·have : (s.left.toNat + (if p.op x = 1 then 0 else 1)) * (p.n + 2) ≤ (s.left.toNat + 1) * (p.n + 2) := Nat.mul_le_mul_right _ (by split <;> omega)
  omega
theorem mu_tick {p : Pv} {s s' : Ms} {i : Nat} (h : s.ov = false) (h' : s'.ov = false) (hi : s.pc = (i : Nat)) (hx : s'.pc = ((i + 1 : Nat) : Int)) (hin : i < p.n) (ho : p.op i = 1) (hl : s'.left = s.left - 1) (h1 : 1 ≤ s.left) : mu p s' < mu p s := by
 unfold mu
 rw [h, h', hi, hx, hl]
 simp only [Bool.false_eq_true, if_false, Int.toNat_natCast]
 rw [if_pos ho]
 have e : (s.left - 1).toNat = s.left.toNat - 1 := by omega
 have : ((s.left - 1).toNat + (if p.op (i + 1) = 1 then 0 else 1)) * (p.n + 2) ≤ (s.left.toNat + 0) * (p.n + 2) := Nat.mul_le_mul_right _ (by rw [e]; split <;> omega)
 omega
theorem reck_ok {o : Nat} {a b c : Int} (ha : 0 ≤ a) (ha2 : a < two64) (hb : 0 ≤ b) (hb2 : b < two64) (hc : 0 ≤ c) : 0 ≤ (reckI o a b c).1 ∧ (reckI o a b c).1 < two64 ∧ 0 ≤ (reckI o a b c).2 ∧ (reckI o a b c).2 ≤ 8 := by
 have hm : 0 ≤ a * b := Int.mul_nonneg ha hb
 have t : (0 : Int) < two64 := by unfold two64; decide
 have G : ∀ {x e : Int}, 0 ≤ x → x < two64 → 0 ≤ e → e ≤ 8 → 0 ≤ ((x, e) : Int × Int).1 ∧ ((x, e) : Int × Int).1 < two64 ∧ 0 ≤ ((x, e) : Int × Int).2 ∧ ((x, e) : Int × Int).2 ≤ 8 := fun a b c d => ⟨a, b, c, d⟩
 unfold reckI
 split
 ·split
  ·exact G (by omega) (by assumption) (by decide) (by decide)
  ·exact G (by decide) t (by decide) (by decide)
 split
 ·split
  ·exact G (by omega) (by omega) (by decide) (by decide)
  ·exact G (by decide) t (by decide) (by decide)
 split
 ·split
  ·exact G hm (by assumption) (by decide) (by decide)
  ·exact G (by decide) t (by decide) (by decide)
 split
 ·split
  ·exact G (by decide) t (by decide) (by decide)
  ·have := Int.ediv_le_self b ha
   exact G (Int.ediv_nonneg ha hb) (by omega) (by decide) (by decide)
 split
 ·split
  ·exact G (by decide) t (by decide) (by decide)
  ·rename_i h0
   have h1 := Int.emod_nonneg a h0
   have h2 := Int.emod_lt_of_pos a (show 0 < b by omega)
   exact G h1 (by omega) (by decide) (by decide)
 split
 ·split
  ·exact G hb hb2 (by decide) (by decide)
  ·exact G ha ha2 (by decide) (by decide)
 split
 ·split
  ·exact G hb hb2 (by decide) (by decide)
  ·exact G ha ha2 (by decide) (by decide)
 split
 ·exact G (by decide) t (by decide) (by decide)
 split
 ·exact G (by decide) t (by decide) (by decide)
 ·rename_i h0 h1
  have h2 : a * b / two64 < c := by omega
  have h3 : a * b < c * two64 := Int.lt_mul_of_ediv_lt t h2
  exact G (Int.ediv_nonneg hm hc) (Int.ediv_lt_of_lt_mul (by omega) (by rw [Int.mul_comm two64 c]; exact h3)) (by decide) (by decide)
/-- What a machine runs with. -/
structure Me (p : Pv) (k : Kn) (ek ev : Nat → Int) (hd : Int) : Prop where
 wf : Wf p
 fl : Flow p k
 C : ∀ j, j < p.nc → 0 ≤ p.C j ∧ p.C j < two64
 E : ∀ a, a < 8 → ek a = bI (decide (a = 7)) ∧ Okv (ek a) (ev a)
 h0 : 0 ≤ hd
 h1 : hd < two64
section
variable {p : Pv} {k : Kn} {hd : Int} {s : Ms} {ek ev : Nat → Int}
/-- A step that goes along an edge. -/
theorem Tm.edge {i x : Nat} {l l' : List Bool} {s' : Ms} (h : Tm p k hd s) (hf : Flow p k) (ho : s.ov = false) (hi : s.pc = (i : Nat)) (hin : i < p.n) (hk : k i = some l) (h1 : p.op i ≠ 1) (hm : (x, l') ∈ edgs p i l) (hx : s'.pc = (x : Nat)) (hv : s'.ov = false) (hs : Stk s' l') (hsl : ∀ j, j < p.ns → Okv (p.S j) (s'.slt j)) (hl : s'.left = s.left) (hp : s'.paid = s.paid) (he : s'.en = s.en) : Tm p k hd s' ∧ mu p s' < mu p s := by
 obtain ⟨g1, g2, g3⟩ := (hf.fl i l hin hk).2 _ hm
 simp only at g1 g2 g3
 refine ⟨⟨fun _ => ⟨x, l', hx, g1, g3, hs⟩, hsl, by rw [hl]; exact h.l0, by rw [hl]; exact h.l1, by rw [hp]; exact h.p0, by rw [hp]; exact h.p1, by rw [hp]; exact h.p2, by rw [hp]; exact h.ps, by rw [he]; exact h.e0, by rw [he]; exact h.e1, fun e => by rw [hv] at e; cases e⟩, mu_edge ho hv hi hx hin g1 h1 g2 hl⟩
/-- A step that ends. -/
theorem Tm.stopped {s' : Ms} (h : Tm p k hd s) (ho : s.ov = false) (hv : s'.ov = true) (hpc : s'.pc = -1) (hsl : s'.slt = s.slt) (hl : s'.left = s.left) (hp : s'.paid = s.paid) (he0 : 0 ≤ s'.en) (he1 : s'.en ≤ 8) : Tm p k hd s' ∧ mu p s' < mu p s := by
 refine ⟨⟨fun e => (by rw [hv] at e; cases e), by rw [hsl]; exact h.sl, by rw [hl]; exact h.l0, by rw [hl]; exact h.l1, by rw [hp]; exact h.p0, by rw [hp]; exact h.p1, by rw [hp]; exact h.p2, by rw [hp]; exact h.ps, he0, he1, fun _ => hpc⟩, ?_⟩
 have : mu p s' = 0 := by unfold mu; rw [if_pos hv]
 rw [this]
 exact mu_pos ho
theorem tk_of {i o : Nat} (h : (p.op i).toNat = o) : tkB p i = colB p (fTakes o) (p.arg i) := by unfold tkB; rw [h]
theorem ly_of {i o : Nat} (h : (p.op i).toNat = o) : lyB p i = colB p (fLays o) (p.arg i) := by unfold lyB; rw [h]
theorem edg_next {i o : Nat} {l : List Bool} (h : (p.op i).toNat = o) (h1 : o ≤ 24 ∨ o = 29 ∨ o = 30) : (i + 1, aft p i l) ∈ edgs p i l := by
 unfold edgs
 rw [h, if_neg (by omega), if_neg (by omega), if_neg (by omega), if_neg (by omega)]
 exact List.mem_cons_self ..
theorem pay_sum {paid : Nat → Int} {m : Nat} {a : Int} (hm : m < 3) : updI paid m (paid m + a) 0 + updI paid m (paid m + a) 1 + updI paid m (paid m + a) 2 = paid 0 + paid 1 + paid 2 + a := by
 match m, hm with
 | 0, _ => simp [updI]; omega
 | 1, _ => simp [updI]; omega
 | 2, _ => simp [updI]; omega
/-- A step keeps what holds, and comes nearer to the end. -/
theorem step_tm (he : Me p k ek ev hd) (h : Tm p k hd s) (ho : s.ov = false) : Tm p k hd (stepF p ek ev hd s) ∧ mu p (stepF p ek ev hd s) < mu p s := by
 obtain ⟨i, l, hi, hin, hk, hs⟩ := h.run ho
 have hfl := he.fl
 have hft := (he.fl.fl i l hin hk).1
 have hII := he.wf.ins i hin
 obtain ⟨h32a, h32b, hcast⟩ := op_nat hII
 have ht : s.pc.toNat = i := by rw [hi]; rfl
 obtain ⟨o, hop⟩ : ∃ o, (p.op i).toNat = o := ⟨_, rfl⟩
 have ho1 : 1 ≤ o := by omega
 have ho2 : o ≤ 32 := by omega
 have htk := tk_of hop
 have hly := ly_of hop
 have harg := hII.a
 rw [hop] at harg
 have hop1 : ∀ {q : Nat}, o = q → p.op i = q := fun e => by rw [hcast, hop, e]
 have hn1 : o ≠ 1 → p.op i ≠ 1 := fun e q => e (by rw [← hop, q]; rfl)
 have hx1 : ∀ a : Ms, a.pc = s.pc → a.nxt.pc = ((i + 1 : Nat) : Int) := fun a e => by show a.pc + 1 = _; rw [e, hi]; rfl
 have aft0 : ∀ {m : Nat} {tk ly : List Bool}, tkB p i = tk → lyB p i = ly → tk.length = m → aft p i l = l.take (l.length - m) ++ ly := fun e1 e2 e3 => by unfold aft; rw [e1, e2, e3]
 unfold stepF
 simp only [ht, hop]
 by_cases q1 : o = 1
 ·rw [if_pos q1]
  subst q1
  by_cases ql : s.left = 0
  ·rw [if_pos ql]
   exact h.stopped ho rfl rfl rfl rfl rfl (show (0 : Int) ≤ 2 by decide) (show (2 : Int) ≤ 8 by decide)
  ·rw [if_neg ql]
   have hl0 := h.l0
   have hl1 := h.l1
   obtain ⟨g1, g2, g3⟩ := hft
   have hm := edg_next (l := l) hop (.inl (by decide))
   obtain ⟨k1, k2, k3⟩ := (hfl.fl i l hin hk).2 _ hm
   have ea : aft p i l = l := by
    rw [aft0 (m := 0) (tk := []) (ly := []) (htk.trans (by rfl)) (hly.trans (by rfl)) rfl]
    simp
   rw [ea] at k3
   refine ⟨⟨fun _ => ⟨i + 1, l, hx1 _ rfl, k1, k3, ⟨hs.h, hs.k, hs.v⟩⟩, h.sl, by show 0 ≤ s.left - 1; omega, by show s.left - 1 ≤ 1000; omega, h.p0, h.p1, h.p2, h.ps, h.e0, h.e1, fun e => by rw [show ({ s with left := s.left - 1 } : Ms).nxt.ov = s.ov from rfl, ho] at e; cases e⟩, ?_⟩
   exact mu_tick ho ho hi (hx1 _ rfl) hin (by rw [hcast, hop]; rfl) rfl (by omega)
 rw [if_neg q1]
 have hE := fun {x : Nat} {l' : List Bool} {s' : Ms} => h.edge (x := x) (l' := l') (s' := s') hfl ho hi hin hk (hn1 q1)
 -- an instruction that lays up one value
 have hpush : ∀ {m : Nat} {b : Bool} {n : Int}, (o ≤ 24 ∨ o = 29 ∨ o = 30) → (tkB p i).length = m → lyB p i = [b] → Okv (bI b) n → Tm p k hd ((s.pop m).push (bI b) n).nxt ∧ mu p ((s.pop m).push (bI b) n).nxt < mu p s := fun {m b n} hq e1 e2 hv => by
  refine hE (edg_next hop hq) (hx1 _ rfl) ho ?_ h.sl rfl rfl rfl
  have e3 := (hs.pop (n := m)).push hv
  rw [aft0 rfl e2 e1]
  exact ⟨e3.h, e3.k, e3.v⟩
 have pop0 : s.pop 0 = s := rfl
 by_cases q2 : o = 2
 ·rw [if_pos q2]
  subst q2
  have hpl := isPl_nat (show isPl (p.arg i) p.nc = true by simpa [argF, fArg, formT] using harg)
  have := hpush (m := 0) (b := false) (n := p.C (p.arg i).toNat) (.inl (by decide)) (by rw [htk]; rfl) (hly.trans (by rfl)) (Okv.num (he.C _ hpl.2).1 (he.C _ hpl.2).2)
  exact this
 rw [if_neg q2]
 by_cases q3 : o = 3
 ·rw [if_pos q3]
  subst q3
  exact hpush (m := 0) (b := true) (n := 1) (.inl (by decide)) (by rw [htk]; rfl) (hly.trans (by rfl)) (Okv.bit (.inr rfl))
 rw [if_neg q3]
 by_cases q4 : o = 4
 ·rw [if_pos q4]
  subst q4
  exact hpush (m := 0) (b := true) (n := 0) (.inl (by decide)) (by rw [htk]; rfl) (hly.trans (by rfl)) (Okv.bit (.inl rfl))
 rw [if_neg q4]
 by_cases q5 : o = 5
 ·rw [if_pos q5]
  subst q5
  have hpl := isPl_nat (show isPl (p.arg i) 8 = true by simpa [argF, fArg, formT] using harg)
  obtain ⟨e1, e2⟩ := he.E _ hpl.2
  have e3 : lyB p i = [decide ((p.arg i).toNat = 7)] := by
   rw [hly]
   show [decide (p.arg i = 7)] = _
   congr 1
   exact decide_eq_decide.2 (by omega)
  rw [e1] at e2 ⊢
  exact hpush (m := 0) (.inl (by decide)) (by rw [htk]; rfl) e3 e2
 rw [if_neg q5]
 by_cases q6 : o = 6
 ·rw [if_pos q6]
  subst q6
  have hpl := isPl_nat (show isPl (p.arg i) p.ns = true by simpa [argF, fArg, formT] using harg)
  have e2 := h.sl _ hpl.2
  have e3 : lyB p i = [decide (p.S (p.arg i).toNat = 1)] := by rw [hly]; rfl
  have e4 : p.S (p.arg i).toNat = bI (decide (p.S (p.arg i).toNat = 1)) := by
   rcases e2.kd with q | q <;> rw [q] <;> rfl
  have := hpush (m := 0) (b := decide (p.S (p.arg i).toNat = 1)) (n := s.slt (p.arg i).toNat) (.inl (by decide)) (by rw [htk]; rfl) e3 (by rw [← e4]; exact e2)
  rw [← e4] at this
  exact this
 rw [if_neg q6]
 by_cases q7 : o = 7
 ·rw [if_pos q7]
  subst q7
  have hpl := isPl_nat (show isPl (p.arg i) p.ns = true by simpa [argF, fArg, formT] using harg)
  have e3 : tkB p i = [decide (p.S (p.arg i).toNat = 1)] := by rw [htk]; rfl
  have e4 : p.S (p.arg i).toNat = bI (decide (p.S (p.arg i).toNat = 1)) := by
   rcases (h.sl _ hpl.2).kd with q | q <;> rw [q] <;> rfl
  have ev := hs.top hft (j := 0) (b := decide (p.S (p.arg i).toNat = 1)) (by rw [e3]; rfl) (by rw [e3]; exact Nat.zero_lt_one)
  rw [← e4] at ev
  refine hE (edg_next hop (.inl (by decide))) (hx1 _ rfl) ho ?_ (fun j hj => ?_) rfl rfl rfl
  ·have e5 := hs.pop (n := 1)
   rw [aft0 (m := 1) (ly := []) e3 (hly.trans (by rfl)) rfl, List.append_nil]
   exact ⟨e5.h, e5.k, e5.v⟩
  ·show Okv (p.S j) (updI s.slt (p.arg i).toNat (s.top 0) j)
   unfold updI
   by_cases ej : j = (p.arg i).toNat
   ·rw [if_pos ej, ej]; exact ev
   ·rw [if_neg ej]; exact h.sl j hj
 rw [if_neg q7]
 by_cases q8 : o = 8
 ·rw [if_pos q8]
  subst q8
  have e3 : tkB p i = [true] := by rw [htk]; rfl
  have ev := hs.top hft (j := 0) (b := true) (by rw [e3]; rfl) (by rw [e3]; decide)
  exact hpush (m := 1) (b := true) (n := 1 - s.top 0) (.inl (by decide)) (by rw [e3]; rfl) (hly.trans (by rfl)) (Okv.bit (by have := ev.b rfl; omega))
 rw [if_neg q8]
 by_cases q16 : o ≤ 16
 ·rw [if_pos q16]
  have t1 : ∀ o, o ≤ 16 → 9 ≤ o → (colB p (fTakes o) (p.arg i)).length = 2 ∧ colB p (fLays o) (p.arg i) = [true] := fun o a b => by
   have hc : o = 9 ∨ o = 10 ∨ o = 11 ∨ o = 12 ∨ o = 13 ∨ o = 14 ∨ o = 15 ∨ o = 16 := by omega
   rcases hc with rfl | rfl | rfl | rfl | rfl | rfl | rfl | rfl <;> exact ⟨rfl, rfl⟩
  obtain ⟨t2, t3⟩ := t1 o q16 (by omega)
  refine hpush (m := 2) (b := true) (.inl (by omega)) (by rw [htk]; exact t2) (hly.trans t3) (Okv.bit ?_)
  cases cmpB o (s.top 1) (s.top 0) <;> simp [bI]
 rw [if_neg q16]
 have tnum : ∀ {j m : Nat}, tkB p i = List.replicate m false → j < m → 0 ≤ s.top j ∧ s.top j < two64 := fun {j m} e hj => by
  have := hs.top hft (j := j) (b := false) (by rw [e, List.getElem?_replicate]; simp; omega) (by rw [e]; simpa using hj)
  exact ⟨this.lo, this.hi⟩
 by_cases q23 : o ≤ 23
 ·rw [if_pos q23]
  have t1 : ∀ o, o ≤ 23 → 17 ≤ o → colB p (fTakes o) (p.arg i) = List.replicate 2 false ∧ colB p (fLays o) (p.arg i) = [false] := fun o a b => by
   have hc : o = 17 ∨ o = 18 ∨ o = 19 ∨ o = 20 ∨ o = 21 ∨ o = 22 ∨ o = 23 := by omega
   rcases hc with rfl | rfl | rfl | rfl | rfl | rfl | rfl <;> exact ⟨rfl, rfl⟩
  obtain ⟨t2, t3⟩ := t1 o q23 (by omega)
  have v0 := tnum (j := 0) (htk.trans t2) (by decide)
  have v1 := tnum (j := 1) (htk.trans t2) (by decide)
  obtain ⟨r0, r1, r2, r3⟩ := reck_ok (o := o) v1.1 v1.2 v0.1 v0.2 (Int.le_refl 0)
  by_cases qe : (reckI o (s.top 1) (s.top 0) 0).2 = 0
  ·rw [if_pos qe]
   exact hpush (m := 2) (b := false) (.inl (by omega)) (by rw [htk, t2]; rfl) (hly.trans t3) (Okv.num r0 r1)
  ·rw [if_neg qe]
   exact h.stopped ho rfl rfl rfl rfl rfl r2 r3
 rw [if_neg q23]
 by_cases q24 : o = 24
 ·rw [if_pos q24]
  have t2 : tkB p i = List.replicate 3 false := by rw [htk, q24]; rfl
  have t3 : lyB p i = [false] := by rw [hly, q24]; rfl
  have v0 := tnum (j := 0) t2 (by decide)
  have v1 := tnum (j := 1) t2 (by decide)
  have v2 := tnum (j := 2) t2 (by decide)
  obtain ⟨r0, r1, r2, r3⟩ := reck_ok (o := o) v2.1 v2.2 v1.1 v1.2 v0.1
  by_cases qe : (reckI o (s.top 2) (s.top 1) (s.top 0)).2 = 0
  ·rw [if_pos qe]
   exact hpush (m := 3) (b := false) (.inl (by omega)) (by rw [t2]; rfl) t3 (Okv.num r0 r1)
  ·rw [if_neg qe]
   exact h.stopped ho rfl rfl rfl rfl rfl r2 r3
 rw [if_neg q24]
 have hplace : 25 ≤ o → o ≤ 28 → p.arg i = (((p.arg i).toNat : Nat) : Int) := fun a b => (isPl_nat (hII.way (by unfold wayP; simp; omega))).1
 have hsame : ∀ {s' : Ms} {l' : List Bool}, s'.h = s.h → s'.sk = s.sk → s'.sv = s.sv → l' = l → Stk s' l' := fun e1 e2 e3 e4 => by subst e4; exact ⟨e1.trans hs.h, fun j b e => by rw [e2]; exact hs.k j b e, fun j hj => by rw [e2, e3]; exact hs.v j (by rw [← e1]; exact hj)⟩
 by_cases q25 : o = 25
 ·rw [if_pos q25]
  subst q25
  have ea : aft p i l = l := by
    rw [aft0 (m := 0) (tk := []) (ly := []) (htk.trans (by rfl)) (hly.trans (by rfl)) rfl]
    simp
  refine hE (x := (p.arg i).toNat) (l' := l) ?_ (hplace (by decide) (by decide)) ho (hsame rfl rfl rfl rfl) h.sl rfl rfl rfl
  unfold edgs
  rw [hop, if_neg (by decide), if_pos rfl, ea]
  exact List.mem_cons_self ..
 rw [if_neg q25]
 have hpop1 : ∀ {l' : List Bool}, tkB p i = [true] → lyB p i = [] → l' = aft p i l → ∀ {s' : Ms}, s'.h = s.h - 1 → s'.sk = s.sk → s'.sv = s.sv → Stk s' l' := fun {l'} e1 e2 e3 {s'} a1 a2 a3 => by
  have e5 := hs.pop (n := 1)
  rw [e3, aft0 (m := 1) e1 e2 rfl, List.append_nil]
  exact ⟨a1.trans e5.h, fun j b e => by rw [a2]; exact e5.k j b e, fun j hj => by rw [a2, a3]; exact e5.v j (by show j < s.h - 1; rw [← a1]; exact hj)⟩
 by_cases q26 : o = 26
 ·rw [if_pos q26]
  subst q26
  have t2 : tkB p i = [true] := by rw [htk]; rfl
  have t3 : lyB p i = [] := by rw [hly]; rfl
  by_cases qe : s.top 0 = 1
  ·rw [if_pos qe]
   refine hE (x := i + 1) (l' := aft p i l) ?_ (hx1 _ rfl) ho (hpop1 t2 t3 rfl rfl rfl rfl) h.sl rfl rfl rfl
   unfold edgs
   rw [hop, if_neg (by decide), if_neg (by decide), if_neg (by decide), if_pos rfl]
   exact List.mem_cons_of_mem _ (List.mem_cons_self ..)
  ·rw [if_neg qe]
   refine hE (x := (p.arg i).toNat) (l' := aft p i l) ?_ (hplace (by decide) (by decide)) ho (hpop1 t2 t3 rfl rfl rfl rfl) h.sl rfl rfl rfl
   unfold edgs
   rw [hop, if_neg (by decide), if_neg (by decide), if_neg (by decide), if_pos rfl]
   exact List.mem_cons_self ..
 rw [if_neg q26]
 have hskip : o = 27 ∨ o = 28 → (Tm p k hd (s.go (p.arg i)) ∧ mu p (s.go (p.arg i)) < mu p s) ∧ (Tm p k hd (s.pop 1).nxt ∧ mu p (s.pop 1).nxt < mu p s) := fun hq => by
  have t2 : tkB p i = [true] := by rw [htk]; rcases hq with q | q <;> rw [q] <;> rfl
  have t3 : lyB p i = [] := by rw [hly]; rcases hq with q | q <;> rw [q] <;> rfl
  have em : edgs p i l = [((p.arg i).toNat, l), (i + 1, aft p i l)] := by
   unfold edgs
   rw [hop, if_neg (by omega), if_neg (by omega), if_pos hq]
  constructor
  ·refine hE (x := (p.arg i).toNat) (l' := l) ?_ (hplace (by omega) (by omega)) ho (hsame rfl rfl rfl rfl) h.sl rfl rfl rfl
   rw [em]
   exact List.mem_cons_self ..
  ·refine hE (x := i + 1) (l' := aft p i l) ?_ (hx1 _ rfl) ho (hpop1 t2 t3 rfl rfl rfl rfl) h.sl rfl rfl rfl
   rw [em]
   exact List.mem_cons_of_mem _ (List.mem_cons_self ..)
 by_cases q27 : o = 27
 ·rw [if_pos q27]
  split
  ·exact (hskip (.inl q27)).1
  ·exact (hskip (.inl q27)).2
 rw [if_neg q27]
 by_cases q28 : o = 28
 ·rw [if_pos q28]
  split
  ·exact (hskip (.inr q28)).1
  ·exact (hskip (.inr q28)).2
 rw [if_neg q28]
 by_cases q29 : o = 29
 ·rw [if_pos q29]
  subst q29
  have t2 : tkB p i = List.replicate 2 false := by rw [htk]; rfl
  have t3 : lyB p i = [] := by rw [hly]; rfl
  have v0 := tnum (j := 0) t2 (by decide)
  have v1 := tnum (j := 1) t2 (by decide)
  unfold Ms.pay
  split
  ·exact h.stopped ho rfl rfl rfl rfl rfl (show (0 : Int) ≤ 6 by decide) (show (6 : Int) ≤ 8 by decide)
  ·rename_i hp1
   split
   ·exact h.stopped ho rfl rfl rfl rfl rfl (show (0 : Int) ≤ 5 by decide) (show (5 : Int) ≤ 8 by decide)
   ·rename_i hp2
    have hp2 : ¬ hd - s.paid 0 - s.paid 1 - s.paid 2 < s.top 1 := hp2
    have hm := edg_next (l := l) hop (.inr (.inl rfl))
    obtain ⟨k1, k2, k3⟩ := (hfl.fl i l hin hk).2 _ hm
    simp only at k1 k2 k3
    have ex : s.pc + 1 = ((i + 1 : Nat) : Int) := by rw [hi]; rfl
    have m3 : (s.top 0 - 1).toNat < 3 := by omega
    have e5 := hs.pop (n := 2)
    have ea : aft p i l = l.take (l.length - 2) := by rw [aft0 (m := 2) t2 t3 rfl, List.append_nil]
    rw [ea] at k3
    have hpos : ∀ j, 0 ≤ s.paid j → 0 ≤ updI s.paid (s.top 0 - 1).toNat (s.paid (s.top 0 - 1).toNat + s.top 1) j ∨ ¬ 0 ≤ s.paid (s.top 0 - 1).toNat := fun j hj => by
     unfold updI
     split
     ·by_cases q : 0 ≤ s.paid (s.top 0 - 1).toNat
      ·left; omega
      ·exact .inr q
     ·exact .inl hj
    have hpm : 0 ≤ s.paid (s.top 0 - 1).toNat := by
     have : (s.top 0 - 1).toNat = 0 ∨ (s.top 0 - 1).toNat = 1 ∨ (s.top 0 - 1).toNat = 2 := by omega
     rcases this with q | q | q <;> rw [q]
     ·exact h.p0
     ·exact h.p1
     ·exact h.p2
    have hq : ∀ j, 0 ≤ s.paid j → 0 ≤ updI s.paid (s.top 0 - 1).toNat (s.paid (s.top 0 - 1).toNat + s.top 1) j := fun j hj => by
     rcases hpos j hj with q | q
     ·exact q
     ·exact absurd hpm q
    refine ⟨⟨fun _ => ⟨i + 1, _, ex, k1, k3, ⟨e5.h, e5.k, e5.v⟩⟩, h.sl, h.l0, h.l1, hq 0 h.p0, hq 1 h.p1, hq 2 h.p2, ?_, h.e0, h.e1, fun e => ?_⟩, ?_⟩
    ·have hq2 := pay_sum (paid := s.paid) (a := s.top 1) m3
     have hps := h.ps
     show updI s.paid (s.top 0 - 1).toNat (s.paid (s.top 0 - 1).toNat + s.top 1) 0 + updI s.paid (s.top 0 - 1).toNat (s.paid (s.top 0 - 1).toNat + s.top 1) 1 + updI s.paid (s.top 0 - 1).toNat (s.paid (s.top 0 - 1).toNat + s.top 1) 2 ≤ hd
     rw [hq2]
     omega
    ·have e : s.ov = true := e
     rw [ho] at e
     cases e
    ·exact mu_edge ho ho hi ex hin k1 (hn1 q1) k2 rfl
 rw [if_neg q29]
 by_cases q30 : o = 30
 ·rw [if_pos q30]
  subst q30
  have t2 : tkB p i = [true] := by rw [htk]; rfl
  have t3 : lyB p i = [] := by rw [hly]; rfl
  split
  ·exact hE (edg_next hop (.inr (.inr rfl))) (hx1 _ rfl) ho (hpop1 t2 t3 rfl rfl rfl rfl) h.sl rfl rfl rfl
  ·exact h.stopped ho rfl rfl rfl rfl rfl (show (0 : Int) ≤ 1 by decide) (show (1 : Int) ≤ 8 by decide)
 rw [if_neg q30]
 split
 ·exact h.stopped ho rfl rfl rfl rfl rfl (show (0 : Int) ≤ 1 by decide) (show (1 : Int) ≤ 8 by decide)
 ·exact h.stopped ho rfl rfl rfl rfl rfl (show (0 : Int) ≤ 0 by decide) (show (0 : Int) ≤ 8 by decide)
/-- Some steps. -/
def runN (p : Pv) (ek ev : Nat → Int) (hd : Int) : Nat → Ms → Ms
 | 0, s => s
 | n + 1, s => if s.ov = true then s else runN p ek ev hd n (stepF p ek ev hd s)
theorem runN_over {n : Nat} (h : s.ov = true) : runN p ek ev hd n s = s := by
 cases n with
 | zero => rfl
 | succ n => show (if s.ov = true then s else _) = s; rw [if_pos h]
theorem runN_end (he : Me p k ek ev hd) : ∀ {n : Nat} {s : Ms}, Tm p k hd s → mu p s ≤ n → (runN p ek ev hd n s).ov = true
 | 0, s, h, hm => by
  cases e : s.ov with
  | true => exact e
  | false => have := mu_pos (p := p) e; omega
 | n + 1, s, h, hm => by
  show (if s.ov = true then s else runN p ek ev hd n (stepF p ek ev hd s)).ov = true
  cases e : s.ov with
  | true => exact e
  | false =>
   have := step_tm he h e
   exact runN_end he this.1 (by omega)
/-- More steps than it takes turn nothing. -/
theorem runN_more : ∀ {n m : Nat} {s : Ms}, (runN p ek ev hd n s).ov = true → n ≤ m → runN p ek ev hd m s = runN p ek ev hd n s
 | 0, m, s, h, _ => runN_over h
 | n + 1, 0, _, _, hm => by omega
 | n + 1, m + 1, s, h, hm => by
  have h : (if s.ov = true then s else runN p ek ev hd n (stepF p ek ev hd s)).ov = true := h
  show (if s.ov = true then s else runN p ek ev hd m (stepF p ek ev hd s)) = (if s.ov = true then s else runN p ek ev hd n (stepF p ek ev hd s))
  cases e : s.ov with
  | true => rfl
  | false =>
   rw [e] at h
   simp only [Bool.false_eq_true, if_false] at h ⊢
   exact runN_more h (by omega)
theorem mu_le (h : Tm p k hd s) (hw : Wf p) : mu p s ≤ 1200000 := by
 unfold mu
 split
 ·omega
 ·have h1 := h.l1
  have h2 := hw.sz.2.2
  have : (s.left.toNat + (if p.op s.pc.toNat = 1 then 0 else 1)) * (p.n + 2) ≤ 1001 * 1026 := Nat.mul_le_mul (by split <;> omega) (by omega)
  omega
end
end Go.Proofs.YtggpaljilpbmhaaGreatDoor
