import Derived.Test.YtggpaljilpbmhaaGreatDoorZ33
namespace Go.Proofs.YtggpaljilpbmhaaGreatDoor
open Go.RowKit

theorem enc1_same {p q : Pv} (h : p.nc = q.nc) (hC : p.C = q.C) : enc1 p p.nc = enc1 q q.nc := by
 rw [h]
 exact enc1_congr h (fun j _ => by rw [hC])
theorem enc2_same {p q : Pv} (h : p.nc = q.nc) (hC : p.C = q.C) (hn : p.ns = q.ns) (hS : p.S = q.S) : enc2 p p.ns = enc2 q q.ns := by
 rw [hn]
 exact enc2_congr (enc1_same h hC) hn (fun j _ => by rw [hS])
theorem enc3_same {p q : Pv} (h : p.nc = q.nc) (hC : p.C = q.C) (hn : p.ns = q.ns) (hS : p.S = q.S) (he : p.en = q.en) : enc3 p 6 = enc3 q 6 := enc3_congr (enc2_same h hC hn hS) (fun j _ => by rw [he])
section
variable {B : List Nat} {q : Pv} {i pos : Nat}
def setNs (q : Pv) (v : Nat) : Pv := { q with ns := v }
def setN (q : Pv) (v : Nat) : Pv := { q with n := v }
theorem R1.last (h : R1 B q q.nc pos) : ∀ p, Pkw p → encP p = B → p.nc = q.nc ∧ (enc1 p p.nc).length = pos := fun p hp e => by
 obtain ⟨a, b⟩ := h.ag p hp e
 exact ⟨a, by rw [a]; exact b⟩
theorem R1.cno (h : R1 B q q.nc pos) (hw : (countAt (B.drop pos) 128).2.2 ≠ 0) : ∀ p, Pkw p → encP p ≠ B := fun p hp e => by
 obtain ⟨a, b⟩ := h.last p hp e
 have c := (by rw [← enc2_zero]; exact pre2 (Nat.zero_le _) : enc1 p p.nc ++ numB p.ns <+: encP p)
 rw [e] at c
 have := pre_cnt (most := 128) c (by have := hp.ns; omega) (by have := hp.ns; omega)
 rw [b] at this
 rw [this] at hw
 exact hw rfl
theorem R2.start (h : R1 B q q.nc pos) (hB : ∀ x ∈ B, x < 256) (hw : (countAt (B.drop pos) 128).2.2 = 0) : R2 B (setNs q (countAt (B.drop pos) 128).1) 0 (pos + (countAt (B.drop pos) 128).2.1) := by
 have hps := h.ps
 have hw' : (countAt (B.drop (enc1 q q.nc).length) 128).2.2 = 0 := by rw [← hps]; exact hw
 obtain ⟨e0, e1, e2⟩ := cnt_pre h.pr hB hw'
 rw [← hps] at e0 e1 e2
 have ez : enc2 (setNs q (countAt (B.drop pos) 128).1) 0 = enc1 q q.nc ++ numB (countAt (B.drop pos) 128).1 := by
  rw [enc2_zero, enc1_congr (p := setNs q (countAt (B.drop pos) 128).1) (q := q) rfl (fun _ _ => rfl)]
  rfl
 refine ⟨h.nc, by show (countAt (B.drop pos) 128).1 ≤ 128; omega, by rw [ez]; exact e1, by rw [ez, List.length_append, ← hps, e2], h.C, fun j hj => absurd hj (Nat.not_lt_zero j), fun p hp e => ?_⟩
 obtain ⟨a, b⟩ := h.last p hp e
 have c := (by rw [← enc2_zero]; exact pre2 (Nat.zero_le _) : enc1 p p.nc ++ numB p.ns <+: encP p)
 rw [e] at c
 have := pre_cnt (most := 128) c (by have := hp.ns; omega) (by have := hp.ns; omega)
 rw [b] at this
 rw [this]
 exact ⟨a, rfl, by rw [enc2_zero, List.length_append, b]⟩
theorem R2.fail (h : R2 B q i pos) (hi : i < q.ns) (hw : aheadW (B.drop pos) 1 ≠ 0) : ∀ p, Pkw p → encP p ≠ B := fun p hp e => by
 obtain ⟨_, a, b⟩ := h.ag p hp e
 have c := (by rw [← enc2_next]; exact pre2 (by omega) : enc2 p i ++ big (p.S i).toNat 1 <+: encP p)
 rw [e] at c
 have hc := hp.S i (by omega)
 have := (pre_oct c (by omega)).1
 rw [b] at this
 exact hw this
theorem R2.step (h : R2 B q i pos) (hB : ∀ x ∈ B, x < 256) (hw : aheadW (B.drop pos) 1 = 0) : R2 B (setS q i (hi (aheadV (B.drop pos) 1) : Nat)) (i + 1) (pos + 1) := by
 have hps := h.ps
 have hw' : aheadW (B.drop (enc2 q i).length) 1 = 0 := by rw [← hps]; exact hw
 obtain ⟨e0, e1⟩ := oct_pre h.pr hB hw'
 rw [← hps] at e0 e1
 have hS : (setS q i (Go.Proofs.YtggpaljilpbmhaaGreatDoor.hi (aheadV (B.drop pos) 1) : Nat)).S i = (Go.Proofs.YtggpaljilpbmhaaGreatDoor.hi (aheadV (B.drop pos) 1) : Nat) := by show (if i = i then _ else _) = _; rw [if_pos rfl]
 have e3 : enc2 (setS q i (Go.Proofs.YtggpaljilpbmhaaGreatDoor.hi (aheadV (B.drop pos) 1) : Nat)) (i + 1) = enc2 q i ++ big (Go.Proofs.YtggpaljilpbmhaaGreatDoor.hi (aheadV (B.drop pos) 1)) 1 := by
  rw [enc2_next, enc2_congr (p := setS q i (Go.Proofs.YtggpaljilpbmhaaGreatDoor.hi (aheadV (B.drop pos) 1) : Nat)) (q := q) (enc1_same rfl rfl) rfl (fun j hj => by show (if j = i then _ else _) = _; rw [if_neg (by omega)]), hS]
  rfl
 refine ⟨h.nc, h.ns, by rw [e3]; exact e1, by rw [e3, List.length_append, ← hps, big_lenP], h.C, fun j hj => ?_, fun p hp e => ?_⟩
 ·show 0 ≤ (if j = i then _ else _) ∧ (if j = i then _ else _) < _
  by_cases ej : j = i
  ·rw [if_pos ej]; omega
  ·rw [if_neg ej]; exact h.S j (by omega)
 ·obtain ⟨a0, a, b⟩ := h.ag p hp e
  exact ⟨a0, a, by rw [enc2_next, List.length_append, b, big_lenP]⟩
theorem R3.start (h : R2 B q q.ns pos) : R3 B q 0 pos := by
 refine ⟨h.nc, h.ns, by rw [enc3_zero]; exact h.pr, by rw [enc3_zero]; exact h.ps, h.C, h.S, fun j hj => absurd hj (Nat.not_lt_zero j), fun p hp e => ?_⟩
 obtain ⟨a0, a, b⟩ := h.ag p hp e
 exact ⟨a0, a, by rw [enc3_zero, a]; exact b⟩
theorem R3.at (h : R3 B q i pos) (hi : i < 6) : ∀ p, Pkw p → encP p = B → numAt (B.drop pos) = ((p.en i + 1).toNat, (numB (p.en i + 1).toNat).length, 0) ∧ (p.en i + 1).toNat ≤ 1024 := fun p hp e => by
 obtain ⟨_, _, b⟩ := h.ag p hp e
 have c := (by rw [← enc3_next]; exact pre3 (by omega) : enc3 p i ++ numB (p.en i + 1).toNat <+: encP p)
 rw [e] at c
 have hc := hp.en i hi
 have := pre_num c (by omega)
 rw [b] at this
 exact ⟨this, by omega⟩
theorem R3.fail (h : R3 B q i pos) (hi : i < 6) (hw : plW 1024 (numAt (B.drop pos)) ≠ 0) : ∀ p, Pkw p → encP p ≠ B := fun p hp e => by
 obtain ⟨a, b⟩ := h.at hi p hp e
 rw [a] at hw
 apply hw
 unfold plW
 rw [if_pos rfl, if_neg (by show ¬ 1024 < (p.en i + 1).toNat; omega)]
theorem plW_zero {m : Nat} {r : Nat × Nat × Int} (h : plW m r = 0) : r.2.2 = 0 ∧ r.1 ≤ m := by
 unfold plW at h
 split at h
 ·rename_i h0
  split at h
  ·cases h
  ·exact ⟨h0, by omega⟩
 ·rename_i h0
  exact absurd h h0
theorem R3.step (h : R3 B q i pos) (hB : ∀ x ∈ B, x < 256) (hi : i < 6) (hw : plW 1024 (numAt (B.drop pos)) = 0) : R3 B (setE q i (((numAt (B.drop pos)).1 : Nat) - 1 : Int)) (i + 1) (pos + (numAt (B.drop pos)).2.1) := by
 obtain ⟨h0, hm⟩ := plW_zero hw
 have hps := h.ps
 have hw' : (numAt (B.drop (enc3 q i).length)).2.2 = 0 := by rw [← hps]; exact h0
 obtain ⟨e1, e2⟩ := num_pre h.pr hB hw'
 rw [← hps] at e1 e2
 have hE : (setE q i (((numAt (B.drop pos)).1 : Nat) - 1 : Int)).en i = (((numAt (B.drop pos)).1 : Nat) - 1 : Int) := by show (if i = i then _ else _) = _; rw [if_pos rfl]
 have e3 : enc3 (setE q i (((numAt (B.drop pos)).1 : Nat) - 1 : Int)) (i + 1) = enc3 q i ++ numB (numAt (B.drop pos)).1 := by
  rw [enc3_next, enc3_congr (p := setE q i (((numAt (B.drop pos)).1 : Nat) - 1 : Int)) (q := q) (enc2_same rfl rfl rfl rfl) (fun j hj => by show (if j = i then _ else _) = _; rw [if_neg (by omega)]), hE]
  have : ((((numAt (B.drop pos)).1 : Nat) : Int) - 1 + 1).toNat = (numAt (B.drop pos)).1 := by omega
  rw [this]
 refine ⟨h.nc, h.ns, by rw [e3]; exact e1, by rw [e3, List.length_append, ← hps, e2], h.C, h.S, fun j hj => ?_, fun p hp e => ?_⟩
 ·show -1 ≤ (if j = i then _ else _) ∧ (if j = i then _ else _) ≤ 1023
  by_cases ej : j = i
  ·rw [if_pos ej]; omega
  ·rw [if_neg ej]; exact h.en j (by omega)
 ·obtain ⟨a0, a, b⟩ := h.ag p hp e
  rw [(h.at hi p hp e).1]
  exact ⟨a0, a, by rw [enc3_next, List.length_append, b]⟩
theorem R3.cat (h : R3 B q 6 pos) : ∀ p, Pkw p → encP p = B → countAt (B.drop pos) 1024 = (p.n, (numB p.n).length, 0) := fun p hp e => by
 obtain ⟨_, _, b⟩ := h.ag p hp e
 have c := (by rw [← enc4_zero]; exact pre4 (Nat.zero_le _) : enc3 p 6 ++ numB p.n <+: encP p)
 rw [e] at c
 have := pre_cnt (most := 1024) c (by have := hp.n; omega) (by have := hp.n; omega)
 rw [b] at this
 exact this
theorem R3.cno (h : R3 B q 6 pos) (hw : (countAt (B.drop pos) 1024).2.2 ≠ 0) : ∀ p, Pkw p → encP p ≠ B := fun p hp e => by
 rw [h.cat p hp e] at hw
 exact hw rfl
theorem R4.start (h : R3 B q 6 pos) (hB : ∀ x ∈ B, x < 256) (hw : (countAt (B.drop pos) 1024).2.2 = 0) : R4 B (setN q (countAt (B.drop pos) 1024).1) 0 (pos + (countAt (B.drop pos) 1024).2.1) := by
 have hps := h.ps
 have hw' : (countAt (B.drop (enc3 q 6).length) 1024).2.2 = 0 := by rw [← hps]; exact hw
 obtain ⟨e0, e1, e2⟩ := cnt_pre h.pr hB hw'
 rw [← hps] at e0 e1 e2
 have ez : enc4 (setN q (countAt (B.drop pos) 1024).1) 0 = enc3 q 6 ++ numB (countAt (B.drop pos) 1024).1 := by
  rw [enc4_zero, enc3_congr (p := setN q (countAt (B.drop pos) 1024).1) (q := q) (enc2_same rfl rfl rfl rfl) (fun _ _ => rfl)]
  rfl
 refine ⟨h.nc, h.ns, by show (countAt (B.drop pos) 1024).1 ≤ 1024; omega, by rw [ez]; exact e1, by rw [ez, List.length_append, ← hps, e2], h.C, h.S, h.en, fun j hj => absurd hj (Nat.not_lt_zero j), fun p hp e => ?_⟩
 obtain ⟨_, _, b⟩ := h.ag p hp e
 rw [h.cat p hp e]
 exact ⟨rfl, by rw [enc4_zero, List.length_append, b]⟩
theorem R4.at (h : R4 B q i pos) (hi : i < q.n) : ∀ p, Pkw p → encP p = B → ∃ R, B.drop pos = (p.op i).toNat :: (argB p i ++ R) ∧ i < p.n ∧ (enc4 p i).length = pos := fun p hp e => by
 obtain ⟨a, b⟩ := h.ag p hp e
 have c := (by rw [← List.append_assoc, ← enc4_next]; exact pre4 (by omega) : enc4 p i ++ (big (p.op i).toNat 1 ++ argB p i) <+: encP p)
 rw [e] at c
 obtain ⟨R, hR⟩ := pre_drop c
 have ho := hp.op i (by omega)
 rw [b, big_one (by omega)] at hR
 exact ⟨R, hR, by omega, b⟩
/-- What is read of an instruction that was packed. -/
theorem inR_of {p : Pv} (hp : Pkw p) {i : Nat} (hi : i < p.n) {C R : List Nat} (h : C = (p.op i).toNat :: (argB p i ++ R)) : inR C = ((p.op i).toNat, (p.arg i).toNat, 1 + (argB p i).length, 0) := by
 have ho := hp.op i hi
 have ha := hp.arg i hi
 obtain ⟨h1, h2⟩ := oct_of h
 have hio : isO (((p.op i).toNat : Nat) : Int) = true := by simp [isO]; omega
 have hd : C.drop 1 = argB p i ++ R := by rw [h]; rfl
 unfold inR
 rw [h1, h2, hd]
 by_cases hz : fArg (p.op i).toNat = 0
 ·have := hp.zr i hi hz
  have hb : argB p i = [] := by unfold argB; rw [if_pos hz]
  rw [hb]
  simp only [if_pos hz, if_pos hio, this]
  rfl
 ·have hb : argB p i = numB (p.arg i).toNat := by unfold argB; rw [if_neg hz]
  rw [hb, numAt_numB _ _ (by omega)]
  simp only [if_neg hz, if_pos hio]
  have : plW 1023 ((p.arg i).toNat, (numB (p.arg i).toNat).length, 0) = 0 := by
   unfold plW
   rw [if_pos rfl, if_neg (by show ¬ 1023 < (p.arg i).toNat; omega)]
  rw [this]
  simp
theorem R4.fail (h : R4 B q i pos) (hi : i < q.n) (hw : (inR (B.drop pos)).2.2.2 ≠ 0) : ∀ p, Pkw p → encP p ≠ B := fun p hp e => by
 obtain ⟨R, a, b, _⟩ := h.at hi p hp e
 rw [inR_of hp b a] at hw
 exact hw rfl
theorem R4.step (h : R4 B q i pos) (hB : ∀ x ∈ B, x < 256) (hi : i < q.n) (hw : (inR (B.drop pos)).2.2.2 = 0) : R4 B (setI q i ((inR (B.drop pos)).1 : Nat) ((inR (B.drop pos)).2.1 : Nat)) (i + 1) (pos + (inR (B.drop pos)).2.2.1) := by
 have hps := h.ps
 obtain ⟨o, ho⟩ : ∃ o, Go.Proofs.YtggpaljilpbmhaaGreatDoor.hi (aheadV (B.drop pos) 1) = o := ⟨_, rfl⟩
 have hf : ∀ {o a : Nat}, 1 ≤ o → o ≤ 32 → a ≤ 1023 → (fArg o = 0 → a = 0) → ∀ {sz : Nat}, enc4 q i ++ (big o 1 ++ (if fArg o = 0 then [] else numB a)) <+: B → sz = 1 + (if fArg o = 0 then [] else numB a).length → (∀ p, Pkw p → encP p = B → inR (B.drop pos) = (o, a, sz, 0)) → R4 B (setI q i (o : Nat) (a : Nat)) (i + 1) (pos + sz) := by
  intro o a h1 h2 h3 h4 sz hpr hsz hag
  have hO : (setI q i (o : Nat) (a : Nat)).op i = (o : Nat) := by show (if i = i then _ else _) = _; rw [if_pos rfl]
  have hA : (setI q i (o : Nat) (a : Nat)).arg i = (a : Nat) := by show (if i = i then _ else _) = _; rw [if_pos rfl]
  have hOj : ∀ {j : Nat}, j ≠ i → (setI q i (o : Nat) (a : Nat)).op j = q.op j := fun {j} e => by show (if j = i then _ else _) = _; rw [if_neg e]
  have hAj : ∀ {j : Nat}, j ≠ i → (setI q i (o : Nat) (a : Nat)).arg j = q.arg j := fun {j} e => by show (if j = i then _ else _) = _; rw [if_neg e]
  have e3 : enc4 (setI q i (o : Nat) (a : Nat)) (i + 1) = enc4 q i ++ (big o 1 ++ (if fArg o = 0 then [] else numB a)) := by
   rw [enc4_next, enc4_congr (p := setI q i (o : Nat) (a : Nat)) (q := q) (enc3_same rfl rfl rfl rfl rfl) rfl (fun j hj => ⟨by show (if j = i then _ else _) = _; rw [if_neg (by omega)], by show (if j = i then _ else _) = _; rw [if_neg (by omega)]⟩), List.append_assoc]
   unfold argB
   rw [hO, hA]
   rfl
  refine ⟨h.nc, h.ns, h.n, by rw [e3]; exact hpr, by rw [e3, List.length_append, List.length_append, ← hps, big_lenP, hsz], h.C, h.S, h.en, fun j hj => ?_, fun p hp e => ?_⟩
  ·by_cases ej : j = i
   ·subst ej
    rw [hO, hA]
    refine ⟨by omega, by omega, by omega, by omega, fun hz => ?_⟩
    have hz : fArg o = 0 := hz
    have := h4 hz
    omega
   ·rw [hOj ej, hAj ej]; exact h.ins j (by omega)
  ·obtain ⟨a0, b0⟩ := h.ag p hp e
   obtain ⟨R, c1, c2, c3⟩ := h.at hi p hp e
   have d := inR_of hp c2 c1
   rw [hag p hp e] at d
   refine ⟨a0, ?_⟩
   rw [enc4_next, List.length_append, List.length_append, b0, big_lenP]
   have : sz = 1 + (argB p i).length := congrArg (fun x => x.2.2.1) d
   omega
 have h1 : aheadW (B.drop pos) 1 = 0 := by
  by_cases q1 : aheadW (B.drop pos) 1 = 0
  ·exact q1
  ·unfold inR at hw
   simp only [if_neg q1] at hw
   exact absurd hw q1
 have h2 : isO ((o : Nat) : Int) = true := by
  by_cases q2 : isO ((o : Nat) : Int) = true
  ·exact q2
  ·unfold inR at hw
   simp only [if_pos h1, ho, if_neg q2] at hw
   cases hw
 have h3 : 1 ≤ o ∧ o ≤ 32 := by simp [isO] at h2; omega
 have hw1 : aheadW (B.drop (enc4 q i).length) 1 = 0 := by rw [← hps]; exact h1
 obtain ⟨_, e1⟩ := oct_pre h.pr hB hw1
 rw [← hps, ho] at e1
 by_cases hz : fArg o = 0
 ·have er : inR (B.drop pos) = (o, 0, 1, 0) := by
   unfold inR
   simp only [if_pos h1, ho, if_pos h2, if_pos hz]
  rw [er]
  refine hf h3.1 h3.2 (by omega) (fun _ => rfl) (by rw [if_pos hz, List.append_nil]; exact e1) (by rw [if_pos hz]; rfl) (fun _ _ _ => er)
 ·have hd : (B.drop pos).drop 1 = B.drop (enc4 q i ++ big o 1).length := by rw [List.drop_drop, List.length_append, ← hps, big_lenP]
  obtain ⟨r, hr⟩ : ∃ r, numAt (B.drop (enc4 q i ++ big o 1).length) = r := ⟨_, rfl⟩
  have er : inR (B.drop pos) = (o, r.1, 1 + r.2.1, plW 1023 r) := by
   unfold inR
   simp only [if_pos h1, ho, if_pos h2, if_neg hz, hd, hr]
  rw [er] at hw ⊢
  obtain ⟨g0, g1⟩ := plW_zero hw
  have g0' : (numAt (B.drop (enc4 q i ++ big o 1).length)).2.2 = 0 := by rw [hr]; exact g0
  obtain ⟨f1, f2⟩ := num_pre e1 hB g0'
  rw [hr] at f1 f2
  rw [List.append_assoc] at f1
  have ep : plW 1023 r = 0 := hw
  refine hf h3.1 h3.2 g1 (fun q0 => absurd q0 hz) (by rw [if_neg hz]; exact f1) (by rw [if_neg hz, f2]) (fun _ _ _ => by rw [er, ep])
/-- All is read. -/
theorem R4.done (h : R4 B q q.n pos) (he : pos = B.length) : Pkw q ∧ encP q = B := by
 refine ⟨⟨h.nc, h.ns, h.n, h.C, h.S, h.en, fun i hi => ⟨(h.ins i hi).1, (h.ins i hi).2.1⟩, fun i hi => ⟨(h.ins i hi).2.2.1, (h.ins i hi).2.2.2.1⟩, fun i hi => (h.ins i hi).2.2.2.2⟩, ?_⟩
 exact List.IsPrefix.eq_of_length h.pr (by have : (enc4 q q.n).length = pos := h.ps.symm; show (enc4 q q.n).length = _; omega)
theorem R4.more (h : R4 B q q.n pos) (he : pos < B.length) : ∀ p, Pkw p → encP p ≠ B := fun p hp e => by
 obtain ⟨a, b⟩ := h.ag p hp e
 rw [← a] at b
 have : (encP p).length = pos := b
 rw [e] at this
 omega
end
end Go.Proofs.YtggpaljilpbmhaaGreatDoor
