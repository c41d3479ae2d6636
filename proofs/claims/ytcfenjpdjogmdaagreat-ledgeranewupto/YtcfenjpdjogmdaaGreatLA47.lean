import Derived.Test.YtcfenjpdjogmdaaGreatLA50
namespace Go.Proofs.YtcfenjpdjogmdaaGreat
open Go.RowKit

/-- lendImage under way: its copy of the image, and the place of its answer. -/
structure Lm (V : World) (q : Nat) (T0 T1 : Int) (v2 v3 v4 : Value) (W : World) : Prop where
  bel : Below V.heap.size V W
  b1 : W.heap[q]? = some (.cells #[.int .u64 T0, .int .u64 T1, v2, v3, v4] 35 (0, 0))
  b2 : W.heap[q + 1]? = some (.cells #[.int .u64 0, .int .u64 0, .slice none 0 0, .slice none 0 0, .slice none 0 0] 35 (0, 0))
theorem Lm.kept {V W W' : World} {q : Nat} {T0 T1 : Int} {v2 v3 v4 : Value} (h : Lm V q T0 T1 v2 v3 v4 W) (hb : Below W.heap.size W W') : Lm V q T0 T1 v2 v3 v4 W' :=
  ⟨h.bel.trans (hb.mono h.bel.size), (hb.block _ (block_lt h.b1)).trans h.b1, (hb.block _ (block_lt h.b2)).trans h.b2⟩
theorem Lm.set {V W : World} {q : Nat} {T0 T1 : Int} {v2 v3 v4 : Value} (h : Lm V q T0 T1 v2 v3 v4 W) (hq : V.heap.size ≤ q) (v : Value) : Lm V q T0 T1 v v3 v4 (W.setCell ⟨q, 2, none⟩ v) ∧ Lm V q T0 T1 v2 v v4 (W.setCell ⟨q, 3, none⟩ v) ∧ Lm V q T0 T1 v2 v3 v (W.setCell ⟨q, 4, none⟩ v) := by
  have key : ∀ j, Below V.heap.size V (W.setCell ⟨q, j, none⟩ v) ∧ (W.setCell ⟨q, j, none⟩ v).heap[q + 1]? = W.heap[q + 1]? := fun j => by
    have hg := grown_set W q j v
    exact ⟨h.bel.grown hg h.bel.size (fun k e => by cases e; exact hq), hg.block _ (block_lt h.b2) (fun e => by cases e)⟩
  exact ⟨⟨(key 2).1, by rw [heap_setCell_same W q 2 _ _ _ h.b1]; rfl, (key 2).2.trans h.b2⟩, ⟨(key 3).1, by rw [heap_setCell_same W q 3 _ _ _ h.b1]; rfl, (key 3).2.trans h.b2⟩, ⟨(key 4).1, by rw [heap_setCell_same W q 4 _ _ _ h.b1]; rfl, (key 4).2.trans h.b2⟩⟩
theorem Lm.c {V W : World} {q : Nat} {T0 T1 : Int} {v2 v3 v4 : Value} (h : Lm V q T0 T1 v2 v3 v4 W) : W.cell? ⟨q, 0, none⟩ = some (.int .u64 T0) ∧ W.cell? ⟨q, 1, none⟩ = some (.int .u64 T1) ∧ W.cell? ⟨q, 2, none⟩ = some v2 ∧ W.cell? ⟨q, 3, none⟩ = some v3 ∧ W.cell? ⟨q, 4, none⟩ = some v4 ∧ q < W.heap.size ∧ W.frozen? ⟨q, 2, none⟩ = false ∧ W.frozen? ⟨q, 3, none⟩ = false ∧ W.frozen? ⟨q, 4, none⟩ = false :=
  ⟨block_cell h.b1 0, block_cell h.b1 1, block_cell h.b1 2, block_cell h.b1 3, block_cell h.b1 4, block_lt h.b1, block_free h.b1 2, block_free h.b1 3, block_free h.b1 4⟩
/-- A row of other elements stays where the copy turns. -/
theorem Lm.row {V W : World} {q : Nat} {T0 T1 : Int} {v2 v3 v4 : Value} (h : Lm V q T0 T1 v2 v3 v4 W) {B s n : Nat} {t : TypeId} {x : Value} {xs : List Value} (hr : W.ownsRow B t s x n xs) (ht : t ≠ 35) (j : Nat) (v : Value) : (W.setCell ⟨q, j, none⟩ v).ownsRow B t s x n xs := row_fq hr (Fq.of (grown_set W q j v) h.b1) ht
theorem row_below {W W' : World} {B s n : Nat} {t : TypeId} {v : Value} {xs : List Value} (h : W.ownsRow B t s v n xs) (hb : Below W.heap.size W W') : W'.ownsRow B t s v n xs := row_quietT h (below_none hb)
set_option maxRecDepth 10000 in
set_option maxHeartbeats 3200000 in
/-- lendImage: a copy with lists of its own, with spare room. -/
theorem lendImC {V : World} {A : List Ac} {H : List Ho} {J : List Jn} {ao ho jo : Option Addr} {ga gh gj : Nat} (h : ImJ V A H J ao ho jo ga gh gj) (n m k cap hcap jcap : Nat) (hn : n = A.length) (hm : m = H.length) (hk : k = J.length) (hA : n ≤ 64) (hH : m ≤ 64) (hJ : k ≤ 64) (T0 T1 : Int) :
    Calls Tryz.prog 11 #[.agg #[.int .u64 T0, .int .u64 T1, .slice ao n cap, .slice ho m hcap, .slice jo k jcap]] V fun e V' => ∃ ga' gh' gj', e = .returned (.agg #[.int .u64 T0, .int .u64 T1, .slice (some ⟨ga', 0, none⟩) n (n + 3), .slice (some ⟨gh', 0, none⟩) m (m + 3), .slice (some ⟨gj', 0, none⟩) k (k + 3)]) ∧ Hid (ImL V.heap.size V' A H J ga' gh' gj' ∧ Below V.heap.size V V') := by
  obtain ⟨W1, hW1⟩ : ∃ W1, (V.alloc (.cells #[.int .u64 T0, .int .u64 T1, .slice ao n cap, .slice ho m hcap, .slice jo k jcap] 35)).alloc (.cells #[.int .u64 0, .int .u64 0, .slice none 0 0, .slice none 0 0, .slice none 0 0] 35) = W1 := ⟨_, rfl⟩
  obtain ⟨q, hq⟩ : ∃ q, V.heap.size = q := ⟨_, rfl⟩
  have HL1 : Hid (Lm V q T0 T1 (.slice ao n cap) (.slice ho m hcap) (.slice jo k jcap) W1) := by
    subst hW1 hq
    refine ⟨((Below.refl _ V).alloc (Nat.le_refl _) _).alloc (by simp) _, ?_, ?_⟩
    · have h1 := alloc_atK V (.cells #[.int .u64 T0, .int .u64 T1, .slice ao n cap, .slice ho m hcap, .slice jo k jcap] 35)
      exact (((Below.refl _ (V.alloc _)).alloc (Nat.le_refl _) _).block _ (block_lt h1)).trans h1
    · have h2 := alloc_atK (V.alloc (.cells #[.int .u64 T0, .int .u64 T1, .slice ao n cap, .slice ho m hcap, .slice jo k jcap] 35)) (.cells #[.int .u64 0, .int .u64 0, .slice none 0 0, .slice none 0 0, .slice none 0 0] 35)
      have e : (V.alloc (.cells #[.int .u64 T0, .int .u64 T1, .slice ao n cap, .slice ho m hcap, .slice jo k jcap] 35)).heap.size = V.heap.size + 1 := by simp
      rw [e] at h2
      exact h2
  have HQ : Hid (V.heap.size ≤ q) := hide (by omega)
  have HA : Hid (∀ W, Below V.heap.size V W → Calls Tryz.prog 20 #[.slice ao n cap] W fun e w' => ∃ g, e = .returned (.slice (some ⟨g, 0, none⟩) n (n + 3)) ∧ Hid (w'.ownsRow V.heap.size 81 4 (.slice (some ⟨g, 0, none⟩) (n + 3) (n + 3)) (n + 3) (acells (A ++ spareA)) ∧ Below W.heap.size W w')) := fun W hW => by
    have hI := h.below hW
    refine (lendA n cap hn hI.a (fun hp => (hI.ao (by omega)).1) (fun hp => (hI.ao (by omega)).2) (by omega)).mono ?_
    rintro e w' ⟨rfl, G⟩
    exact ⟨_, rfl, row_lower G.out.1 hW.size, G.out.2⟩
  have HH : Hid (∀ W, Below V.heap.size V W → Calls Tryz.prog 43 #[.slice ho m hcap] W fun e w' => ∃ g, e = .returned (.slice (some ⟨g, 0, none⟩) m (m + 3)) ∧ Hid (w'.ownsRow V.heap.size 84 3 (.slice (some ⟨g, 0, none⟩) (m + 3) (m + 3)) (m + 3) (hcells (H ++ spareH)) ∧ Below W.heap.size W w')) := fun W hW => by
    have hI := h.below hW
    refine (lendH m hcap hm hI.h (fun hp => hI.ho (by omega)) (by omega)).mono ?_
    rintro e w' ⟨rfl, G⟩
    exact ⟨_, rfl, row_lower G.out.1 hW.size, G.out.2⟩
  have HJJ : Hid (∀ W, Below V.heap.size V W → Calls Tryz.prog 44 #[.slice jo k jcap] W fun e w' => ∃ g, e = .returned (.slice (some ⟨g, 0, none⟩) k (k + 3)) ∧ Hid (w'.ownsRow V.heap.size 69 5 (.slice (some ⟨g, 0, none⟩) (k + 3) (k + 3)) (k + 3) (jcells (J ++ spareJ)) ∧ Below W.heap.size W w')) := fun W hW => by
    have hI := h.below hW
    refine (lendJ k jcap hk hI.j (fun hp => hI.jo_ (by omega)) (by omega)).mono ?_
    rintro e w' ⟨rfl, G⟩
    exact ⟨_, rfl, row_lower G.out.1 hW.size, G.out.2⟩
  have HW1 := hide hW1
  have HQE := hide hq
  have HNL := hide (And.intro hn (And.intro hm hk))
  clear h hW1 hq hn hm hk
  go_enter Tryz.func11, Tryz.ntmps11
  go_upto_region 1 with fail
  rw [HW1.out, HQE.out]
  clear HW1
  obtain ⟨c0, c1, c2, c3, c4, cl, f2, f3, f4⟩ := HL1.out.c
  have HC := hide (HA.out W1 HL1.out.bel)
  clear HA c0 c1
  go_wp2_with fail
  refine HC.out.mono ?_
  rintro e V2 ⟨g2, rfl, G2⟩
  clear HC c2 c3 c4 cl f2 f3 f4
  have HL2 := hide (HL1.out.kept G2.out.2)
  obtain ⟨c0, c1, c2, c3, c4, cl, f2, f3, f4⟩ := HL2.out.c
  have HL3 := hide (HL2.out.set HQ.out (.slice (some ⟨g2, 0, none⟩) n (n + 3))).1
  have HR3 := hide (HL2.out.row G2.out.1 (by decide) 2 (.slice (some ⟨g2, 0, none⟩) n (n + 3)))
  clear HL1 HL2 G2 c0 c1
  go_upto_region 2 with fail
  clear c2 c3 c4 cl f2 f3 f4
  generalize V2.setCell ⟨q, 2, none⟩ (.slice (some ⟨g2, 0, none⟩) n (n + 3)) = V3 at *
  obtain ⟨c0, c1, c2, c3, c4, cl, f2, f3, f4⟩ := HL3.out.c
  have HC := hide (HH.out V3 HL3.out.bel)
  clear HH c0 c1
  go_wp2_with fail
  refine HC.out.mono ?_
  rintro e V4 ⟨g3, rfl, G4⟩
  clear HC c2 c3 c4 cl f2 f3 f4
  have HL4 := hide (HL3.out.kept G4.out.2)
  have HR4 := hide (row_below HR3.out G4.out.2)
  obtain ⟨c0, c1, c2, c3, c4, cl, f2, f3, f4⟩ := HL4.out.c
  have HL5 := hide (HL4.out.set HQ.out (.slice (some ⟨g3, 0, none⟩) m (m + 3))).2.1
  have HR5 := hide (HL4.out.row HR4.out (by decide) 3 (.slice (some ⟨g3, 0, none⟩) m (m + 3)))
  have HS5 := hide (HL4.out.row G4.out.1 (by decide) 3 (.slice (some ⟨g3, 0, none⟩) m (m + 3)))
  clear HL3 HL4 G4 HR3 HR4 c0 c1
  go_upto_region 3 with fail
  clear c2 c3 c4 cl f2 f3 f4
  generalize V4.setCell ⟨q, 3, none⟩ (.slice (some ⟨g3, 0, none⟩) m (m + 3)) = V5 at *
  obtain ⟨c0, c1, c2, c3, c4, cl, f2, f3, f4⟩ := HL5.out.c
  have HC := hide (HJJ.out V5 HL5.out.bel)
  clear HJJ c0 c1
  go_wp2_with fail
  refine HC.out.mono ?_
  rintro e V6 ⟨g4, rfl, G6⟩
  clear HC c2 c3 c4 cl f2 f3 f4
  have HL6 := hide (HL5.out.kept G6.out.2)
  have HR6 := hide (row_below HR5.out G6.out.2)
  have HS6 := hide (row_below HS5.out G6.out.2)
  obtain ⟨c0, c1, c2, c3, c4, cl, f2, f3, f4⟩ := HL6.out.c
  have HL7 := hide (HL6.out.set HQ.out (.slice (some ⟨g4, 0, none⟩) k (k + 3))).2.2
  have HR7 := hide (HL6.out.row HR6.out (by decide) 4 (.slice (some ⟨g4, 0, none⟩) k (k + 3)))
  have HS7 := hide (HL6.out.row HS6.out (by decide) 4 (.slice (some ⟨g4, 0, none⟩) k (k + 3)))
  have HU7 := hide (HL6.out.row G6.out.1 (by decide) 4 (.slice (some ⟨g4, 0, none⟩) k (k + 3)))
  clear HL5 HL6 G6 HR5 HR6 HS5 HS6 c0 c1
  go_upto_region 4 with fail
  clear c2 c3 c4 cl f2 f3 f4
  generalize V6.setCell ⟨q, 4, none⟩ (.slice (some ⟨g4, 0, none⟩) k (k + 3)) = V7 at *
  obtain ⟨c0, c1, c2, c3, c4, cl, f2, f3, f4⟩ := HL7.out.c
  have y0 := block_cell HL7.out.b2 0
  have y1 := block_cell HL7.out.b2 1
  have y2 := block_cell HL7.out.b2 2
  have y3 := block_cell HL7.out.b2 3
  have y4 := block_cell HL7.out.b2 4
  have yl := block_lt HL7.out.b2
  have z0 := block_free HL7.out.b2 0
  have z1 := block_free HL7.out.b2 1
  have z2 := block_free HL7.out.b2 2
  have z3 := block_free HL7.out.b2 3
  have z4 := block_free HL7.out.b2 4
  simp at y0 y1 y2 y3 y4
  have HEN : Hid (ImL V.heap.size (set5 V7 (q + 1) (.int .u64 T0) (.int .u64 T1) (.slice (some ⟨g2, 0, none⟩) n (n + 3)) (.slice (some ⟨g3, 0, none⟩) m (m + 3)) (.slice (some ⟨g4, 0, none⟩) k (k + 3))) A H J g2 g3 g4 ∧ Below V.heap.size V (set5 V7 (q + 1) (.int .u64 T0) (.int .u64 T1) (.slice (some ⟨g2, 0, none⟩) n (n + 3)) (.slice (some ⟨g3, 0, none⟩) m (m + 3)) (.slice (some ⟨g4, 0, none⟩) k (k + 3)))) := by
    have hg := set5_g V7 (q + 1) (.int .u64 T0) (.int .u64 T1) (.slice (some ⟨g2, 0, none⟩) n (n + 3)) (.slice (some ⟨g3, 0, none⟩) m (m + 3)) (.slice (some ⟨g4, 0, none⟩) k (k + 3))
    have hf := Fq.of hg HL7.out.b2
    obtain ⟨rfl, rfl, rfl⟩ := HNL.out
    exact ⟨⟨row_fq HR7.out hf (by decide), row_fq HS7.out hf (by decide), row_fq HU7.out hf (by decide)⟩, HL7.out.bel.grown hg HL7.out.bel.size (fun j e => by cases e; have := HQ.out; omega)⟩
  unfold set5 at HEN
  clear HL7 HR7 HS7 HU7 HQ HNL f2 f3 f4
  go_wp2
  refine bodyPost_ret (v := .agg #[.int .u64 T0, .int .u64 T1, .slice (some ⟨g2, 0, none⟩) n (n + 3), .slice (some ⟨g3, 0, none⟩) m (m + 3), .slice (some ⟨g4, 0, none⟩) k (k + 3)]) (by simp [results, Tryz.results11, go_sem, y0, y1, y2, y3, y4]) rfl ⟨g2, g3, g4, rfl, HEN.out⟩
end Go.Proofs.YtcfenjpdjogmdaaGreat
namespace Go.Proofs.YtcfenjpdjogmdaaGreat
open Go.RowKit

/-- The first fault of the accounts of an image. -/
def aflt : Nat → Nat → List Ac → Nat × Nat
  | _, _, [] => (0, 0)
  | L, i, a :: r => if a.id = 0 then (i, 40) else if a.id ≤ L then (i, 4) else if a.cp < a.ba then (i, 47) else aflt a.id (i + 1) r
/-- The first fault of its holds. -/
def hflt (A : List Ac) : Nat → Nat → List Ho → Nat × Nat
  | _, _, [] => (0, 0)
  | L, i, h :: r => if h.id = 0 then (i, 40) else if h.id ≤ L then (i, 4) else if (byK Ac.id A h.fr).isSome = false then (i, 42) else if h.am = 0 then (i, 44) else hflt A h.id (i + 1) r
theorem drop_at {α : Type} {l : List α} {k : Nat} {x : α} (h : l[k]? = some x) : l.drop k = x :: l.drop (k + 1) := by
  obtain ⟨h1, h2⟩ := List.getElem?_eq_some_iff.1 h
  rw [List.drop_eq_getElem_cons h1, h2]
set_option maxRecDepth 10000 in
set_option maxHeartbeats 1600000 in
theorem sizeFaultC {w : World} (n cap m hcap k jcap : Nat) (ao ho jo : Option Addr) (T0 T1 : Int) {c : Int} (hc : (if 64 < n ∨ 64 < m then (43 : Int) else 0) = c) :
    Calls Tryz.prog 36 #[.agg #[.int .u64 T0, .int .u64 T1, .slice ao n cap, .slice ho m hcap, .slice jo k jcap]] w fun e w' => e = .returned (.tuple #[.int .i64 0, .int .i64 c]) ∧ Hid (Below w.heap.size w w') := by
  obtain ⟨W1, hW1⟩ : ∃ W1, w.alloc (.cells #[.int .u64 T0, .int .u64 T1, .slice ao n cap, .slice ho m hcap, .slice jo k jcap] 35) = W1 := ⟨_, rfl⟩
  have HB1 : Hid (Below w.heap.size w W1) := by rw [← hW1]; exact (Below.refl _ w).alloc (Nat.le_refl _) _
  have C1 : Hid (W1.heap[w.heap.size]? = some (.cells #[.int .u64 T0, .int .u64 T1, .slice ao n cap, .slice ho m hcap, .slice jo k jcap] 35 (0, 0))) := by rw [← hW1]; exact alloc_atK _ _
  have HW1 := hide hW1
  clear hW1
  go_enter Tryz.func36, Tryz.ntmps36
  go_upto_region 1 with fail
  rw [HW1.out]
  clear HW1
  have y2 := block_cell C1.out 2
  have y3 := block_cell C1.out 3
  have yl := block_lt C1.out
  simp at y2 y3
  by_cases h1 : 64 < n
  · have d1 : decide ((n : Int) > 64) = true := decide_eq_true (by omega)
    rw [if_pos (.inl h1)] at hc
    subst hc
    clear h1
    go_wp2
    go_ret2
    exact ⟨rfl, HB1⟩
  have d1 : decide ((n : Int) > 64) = false := decide_eq_false (by omega)
  by_cases h2 : 64 < m
  · have d2 : decide ((m : Int) > 64) = true := decide_eq_true (by omega)
    rw [if_pos (.inr h2)] at hc
    subst hc
    clear h1 h2
    go_wp2
    go_ret2
    exact ⟨rfl, HB1⟩
  have d2 : decide ((m : Int) > 64) = false := decide_eq_false (by omega)
  rw [if_neg (by omega)] at hc
  subst hc
  clear h1 h2
  go_wp2
  go_ret2
  exact ⟨rfl, HB1⟩
set_option maxRecDepth 10000 in
set_option maxHeartbeats 3200000 in
theorem accountsFaultC {w : World} {A : List Ac} {H : List Ho} {ao ho : Option Addr} {ga gh : Nat} (h : Im w A H ao ho ga gh) (n cap m hcap k jcap : Nat) (hn : n = A.length) (hle : n ≤ 64) (jo : Option Addr) (T0 T1 : Int) {x c : Nat} (hF : aflt 0 0 A = (x, c)) :
    Calls Tryz.prog 37 #[.agg #[.int .u64 T0, .int .u64 T1, .slice ao n cap, .slice ho m hcap, .slice jo k jcap]] w fun e w' => e = .returned (.tuple #[.int .i64 (x : Nat), .int .i64 (c : Nat)]) ∧ Hid (Below w.heap.size w w') := by
  obtain ⟨W1, hW1⟩ : ∃ W1, w.alloc (.cells #[.int .u64 T0, .int .u64 T1, .slice ao n cap, .slice ho m hcap, .slice jo k jcap] 35) = W1 := ⟨_, rfl⟩
  have HB1 : Hid (Below w.heap.size w W1) := by rw [← hW1]; exact (Below.refl _ w).alloc (Nat.le_refl _) _
  have C1 : Hid (W1.heap[w.heap.size]? = some (.cells #[.int .u64 T0, .int .u64 T1, .slice ao n cap, .slice ho m hcap, .slice jo k jcap] 35 (0, 0))) := by rw [← hW1]; exact alloc_atK _ _
  have HI := hide h
  have HN := hide hn
  have HF := hide hF
  have HW1 := hide hW1
  clear h hn hF hW1
  go_enter Tryz.func37, Tryz.ntmps37
  go_upto_region 1 with fail
  rw [HW1.out]
  clear HW1
  have y2 := block_cell C1.out 2
  have yl := block_lt C1.out
  simp at y2
  go_wp2
  go_loopw [4, 10] (fun la i wr => ∃ k L : Nat, k ≤ n ∧ i = .int .i64 k ∧ la = .int .u64 (L : Nat) ∧ Hid (aflt L k (A.drop k) = (x, c)) ∧ Hid (Below w.heap.size w wr)) (fun _ i _ => n - (intOf i).toNat)
  case atStart => exact ⟨0, 0, by omega, rfl, rfl, HF.out, HB1.out⟩
  case round =>
    clear HF y2 yl
    obtain ⟨k, L, hk, rfl, rfl, HR, HB⟩ := hrel
    by_cases hlt : k < n
    · obtain ⟨y, hy⟩ : ∃ y, A[k]? = some y := ⟨_, List.getElem?_eq_getElem (by have := HN.out; omega)⟩
      have hI := HI.out.below HB.out
      obtain ⟨d0, d1, d2, d3⟩ := hI.a.four hy
      obtain ⟨rfl, dl⟩ := hI.ao (by have := HN.out; omega)
      simp only [Nat.zero_add] at d0 d1 d2 d3
      have hR := HR.out
      rw [drop_at hy] at hR
      unfold aflt at hR
      obtain ⟨W2, hW2⟩ : ∃ W2, wr.alloc (.cells #[.int .u64 (y.id : Nat), .int .u64 (y.ow : Nat), .int .u64 (y.ba : Nat), .int .u64 (y.cp : Nat)] 81) = W2 := ⟨_, rfl⟩
      have HB2 : Hid (Below w.heap.size w W2) := by rw [← hW2]; exact HB.out.alloc HB.out.size _
      have C2 : Hid (W2.heap[wr.heap.size]? = some (.cells #[.int .u64 (y.id : Nat), .int .u64 (y.ow : Nat), .int .u64 (y.ba : Nat), .int .u64 (y.cp : Nat)] 81 (0, 0))) := by rw [← hW2]; exact alloc_atK _ _
      have HW2 := hide hW2
      clear hI hy hW2 HB HR
      go_upto_region 5 with fail
      rw [HW2.out]
      clear HW2 d0 d1 d2 d3 dl
      generalize wr.heap.size = q at *
      have z0 := block_cell C2.out 0
      have z2 := block_cell C2.out 2
      have z3 := block_cell C2.out 3
      have zl := block_lt C2.out
      simp at z0 z2 z3
      by_cases i0 : y.id = 0
      · rw [if_pos i0] at hR
        cases hR
        have g0 : ((y.id : Int) == 0) = true := by simp [i0]
        generalize (y.id : Int) = X0 at *
        clear i0
        go_wp2
        go_ret2
        exact ⟨rfl, HB2⟩
      rw [if_neg i0] at hR
      have g0 : ((y.id : Int) == 0) = false := by simp; omega
      by_cases i1 : y.id ≤ L
      · rw [if_pos i1] at hR
        cases hR
        have g1 : decide (y.id ≤ L) = true := decide_eq_true i1
        have g1i : decide ((y.id : Int) ≤ (L : Int)) = true := decide_eq_true (by omega)
        clear i0 i1
        go_wp2
        go_ret2
        exact ⟨rfl, HB2⟩
      rw [if_neg i1] at hR
      have g1 : decide (y.id ≤ L) = false := decide_eq_false i1
      have g1i : decide ((y.id : Int) ≤ (L : Int)) = false := decide_eq_false (by omega)
      by_cases i2 : y.cp < y.ba
      · rw [if_pos i2] at hR
        cases hR
        have g2 : decide (y.cp < y.ba) = true := decide_eq_true i2
        have g2i : decide ((y.ba : Int) > (y.cp : Int)) = true := decide_eq_true (by omega)
        clear i0 i1 i2
        go_wp2
        go_ret2
        exact ⟨rfl, HB2⟩
      rw [if_neg i2] at hR
      have g2 : decide (y.cp < y.ba) = false := decide_eq_false i2
      have g2i : decide ((y.ba : Int) > (y.cp : Int)) = false := decide_eq_false (by omega)
      have HR := hide hR
      clear i0 i1 i2 hR
      go_wp2
      go_roundw
      case rel => exact ⟨k + 1, y.id, by omega, by go_num, rfl, HR.out, HB2.out⟩
      case measure => simp [intOf]; omega
    · obtain rfl : k = n := by omega
      have hR := HR.out
      rw [List.drop_of_length_le (by have := HN.out; omega)] at hR
      cases hR
      go_wp2
      go_ret2
      exact ⟨rfl, HB⟩
theorem any_by {A : List Ac} {x : Nat} : A.any (fun a => a.id == x) = (byK Ac.id A x).isSome := by
  induction A with
  | nil => rfl
  | cons y r ih =>
    rw [List.any_cons, byK_cons, ih]
    by_cases e : y.id = x
    · simp [e]
    · rw [if_neg e]; simp [e]
set_option maxRecDepth 10000 in
set_option maxHeartbeats 1600000 in
/-- Is it the account that a hold was taken from? -/
theorem ofItC {W : World} (q : Nat) {y : Ho} (hq : W.heap[q]? = some (.cells #[.int .u64 (y.id : Nat), .int .u64 (y.fr : Nat), .int .u64 (y.am : Nat)] 84 (0, 0))) (a : Ac) :
    Calls Tryz.prog 78 #[.agg #[.int .u64 (a.id : Nat), .int .u64 (a.ow : Nat), .int .u64 (a.ba : Nat), .int .u64 (a.cp : Nat)], .pointer (some ⟨q, 0, none⟩)] W fun e w' => e = .returned (.bool (a.id == y.fr)) ∧ Below W.heap.size W w' := by
  obtain ⟨W1, hW1⟩ : ∃ W1, W.alloc (.cells #[.int .u64 (a.id : Nat), .int .u64 (a.ow : Nat), .int .u64 (a.ba : Nat), .int .u64 (a.cp : Nat)] 81) = W1 := ⟨_, rfl⟩
  have b1 : Below W.heap.size W W1 := by rw [← hW1]; exact (Below.refl _ W).alloc (Nat.le_refl _) _
  have c1 : W1.heap[W.heap.size]? = some (.cells #[.int .u64 (a.id : Nat), .int .u64 (a.ow : Nat), .int .u64 (a.ba : Nat), .int .u64 (a.cp : Nat)] 81 (0, 0)) := by rw [← hW1]; exact alloc_atK _ _
  have c2 := (b1.block _ (block_lt hq)).trans hq
  have x0 := block_cell c1 0
  have xl := block_lt c1
  have z1 := block_cell c2 1
  have zl := block_lt c2
  simp at x0 z1
  have HB1 := hide b1
  have HW1 := hide hW1
  obtain ⟨b, hb⟩ : ∃ b, (a.id == y.fr) = b := ⟨_, rfl⟩
  have hbi : ((a.id : Int) == (y.fr : Int)) = b := by
    rw [← hb]
    by_cases e : a.id = y.fr
    · rw [e]; simp
    · have e2 : ¬ (a.id : Int) = (y.fr : Int) := by omega
      rw [beq_eq_false_iff_ne.2 e, beq_eq_false_iff_ne.2 e2]
  rw [hb]
  clear b1 c1 c2 hW1 hq hb
  go_enter Tryz.func78, Tryz.ntmps78
  go_upto_region 1 with fail
  rw [HW1.out]
  clear HW1
  generalize (a.id : Int) = X0 at *
  generalize (y.fr : Int) = Y1 at *
  go_wp2
  go_ret
  exact ⟨rfl, HB1.out⟩
theorem anyA_take {f : Ac → Bool} {l : List Ac} {k : Nat} {r : Ac} (hr : l[k]? = some r) (h1 : (l.take k).any f = false) (h2 : f r = false) : (l.take (k + 1)).any f = false := by
  rw [List.take_add_one, hr, List.any_append, h1]
  simp [h2]
theorem anyA_at {f : Ac → Bool} {l : List Ac} {k : Nat} {r : Ac} (hr : l[k]? = some r) (h2 : f r = true) : l.any f = true := by
  rw [List.any_eq_true]
  exact ⟨r, List.mem_of_getElem? hr, h2⟩
set_option maxRecDepth 10000 in
set_option maxHeartbeats 1600000 in
/-- IndexFunc over accounts. -/
theorem indexA {w : World} {A : List Ac} {H : List Ho} {ao ho : Option Addr} {ga gh : Nat} (h : Im w A H ao ho ga gh) (n cap : Nat) (hn : n = A.length) (hle : n ≤ 64) (F : Nat) (cp : Value) (f : Ac → Bool) (hce : ∀ (a : Value) (w : World), (callFunc F #[a, cp]).run Tryz.prog w = .ok (.enter F #[a, cp]) w)
    (hf : ∀ (a : Ac) (W : World), Below w.heap.size w W → Calls Tryz.prog F #[.agg #[.int .u64 (a.id : Nat), .int .u64 (a.ow : Nat), .int .u64 (a.ba : Nat), .int .u64 (a.cp : Nat)], cp] W fun e w' => e = .returned (.bool (f a)) ∧ Below W.heap.size W w') :
    Calls Tryz.prog 119 #[.slice ao n cap, .func (.func F) #[] #[cp]] w fun e w' => ∃ i : Int, e = .returned (.int .i64 i) ∧ Hid (decide (i ≥ 0) = A.any f ∧ Below w.heap.size w w') := by
  have HI := hide h
  have HN := hide hn
  have HFF := hide hf
  clear h hn hf
  go_enter Tryz.func119, Tryz.ntmps119
  go_wp2
  go_loopw [5, 8] (fun j i wr => ∃ k : Nat, k ≤ n ∧ i = .int .i64 k ∧ Hid (Below w.heap.size w wr ∧ (A.take k).any f = false)) (fun _ i _ => n - (intOf i).toNat)
  case atStart => exact ⟨0, by omega, rfl, Below.refl _ _, rfl⟩
  case round =>
    obtain ⟨k, hk, rfl, HS⟩ := hrel
    by_cases hlt : k < n
    · obtain ⟨y, hy⟩ : ∃ y, A[k]? = some y := ⟨_, List.getElem?_eq_getElem (by have := HN.out; omega)⟩
      have hI := HI.out.below HS.out.1
      obtain ⟨d0, d1, d2, d3⟩ := hI.a.four hy
      obtain ⟨rfl, dl⟩ := hI.ao (by have := HN.out; omega)
      simp only [Nat.zero_add] at d0 d1 d2 d3
      have HW := hide (HFF.out y wr HS.out.1)
      have HR := hide hy
      clear hI hy
      obtain ⟨q, hq⟩ : ∃ q, f y = q := ⟨_, rfl⟩
      have HQ := hide hq
      rw [hq] at HW
      clear hq
      go_wp2_with fail
      refine HW.out.mono ?_
      rintro e w1 ⟨rfl, hb1⟩
      have HB1 : Hid (Below w.heap.size w w1) := HS.out.1.trans (hb1.mono HS.out.1.size)
      clear hb1
      cases q with
      | true =>
        go_wp2
        go_ret
        exact ⟨_, rfl, by rw [anyA_at HR.out HQ.out]; exact decide_eq_true (by omega), HB1.out⟩
      | false =>
        have HT := hide (anyA_take HR.out HS.out.2 HQ.out)
        go_wp2
        go_roundw
        case rel => exact ⟨k + 1, by omega, by go_num, HB1.out, HT.out⟩
        case measure => simp [intOf]; omega
    · obtain rfl : k = n := by omega
      have HF : Hid (A.any f = false) := by have h := HS.out.2; rwa [List.take_of_length_le (by have := HN.out; omega)] at h
      go_wp2
      go_ret
      exact ⟨_, rfl, by rw [HF.out]; rfl, HS.out.1⟩
set_option maxRecDepth 10000 in
set_option maxHeartbeats 1600000 in
theorem containsA {w : World} {A : List Ac} {H : List Ho} {ao ho : Option Addr} {ga gh : Nat} (h : Im w A H ao ho ga gh) (n cap : Nat) (hn : n = A.length) (hle : n ≤ 64) (q : Nat) {y : Ho} (hq : w.heap[q]? = some (.cells #[.int .u64 (y.id : Nat), .int .u64 (y.fr : Nat), .int .u64 (y.am : Nat)] 84 (0, 0))) :
    Calls Tryz.prog 79 #[.slice ao n cap, .func (.func 78) #[] #[.pointer (some ⟨q, 0, none⟩)]] w fun e w' => e = .returned (.bool (byK Ac.id A y.fr).isSome) ∧ Hid (Below w.heap.size w w') := by
  have HX := hide (indexA h n cap hn hle 78 (.pointer (some ⟨q, 0, none⟩)) (fun a => a.id == y.fr) (fun a w => by kernel_rfl) (fun a W hb => ofItC q ((hb.block _ (block_lt hq)).trans hq) a))
  obtain ⟨r, hr⟩ : ∃ r, (byK Ac.id A y.fr).isSome = r := ⟨_, rfl⟩
  rw [any_by, hr] at HX
  rw [hr]
  clear h hn hq hr
  go_enter Tryz.func79, Tryz.ntmps79
  go_wp2_with fail
  refine HX.out.mono ?_
  rintro e w1 ⟨i, rfl, G⟩
  have GB := hide G.out.2
  have gv := G.out.1
  clear HX G
  go_wp2
  go_ret
  exact ⟨rfl, GB.out⟩
end Go.Proofs.YtcfenjpdjogmdaaGreat
