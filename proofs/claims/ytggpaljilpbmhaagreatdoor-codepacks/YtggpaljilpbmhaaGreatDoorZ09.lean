import Derived.Test.YtggpaljilpbmhaaGreatDoorZ08
namespace Go.Proofs.YtggpaljilpbmhaaGreatDoor
open Go.RowKit

def bindK (r : Except Int Kn) (f : Kn → Except Int Kn) : Except Int Kn := match r with
 | .ok k => f k
 | .error y => .error y
def visitF (p : Pv) (k : Kn) (i : Nat) : Except Int Kn :=
 if (kin (k i)).length < (colB p (fTakes (p.op i).toNat) (p.arg i)).length then .error 85
 else if (kin (k i)).drop ((kin (k i)).length - (colB p (fTakes (p.op i).toNat) (p.arg i)).length) ≠ colB p (fTakes (p.op i).toNat) (p.arg i) then .error 86
 else if 64 < (kin (k i)).length - (colB p (fTakes (p.op i).toNat) (p.arg i)).length + (colB p (fLays (p.op i).toNat) (p.arg i)).length then .error 87
 else if (p.op i).toNat = 31 ∨ (p.op i).toNat = 32 then .ok k
 else if (p.op i).toNat = 25 then handF p k i (p.arg i).toNat ((kin (k i)).take ((kin (k i)).length - (colB p (fTakes (p.op i).toNat) (p.arg i)).length) ++ colB p (fLays (p.op i).toNat) (p.arg i))
 else if (p.op i).toNat = 27 ∨ (p.op i).toNat = 28 then bindK (handF p k i (p.arg i).toNat (kin (k i))) (fun k' => handF p k' i (i + 1) ((kin (k i)).take ((kin (k i)).length - (colB p (fTakes (p.op i).toNat) (p.arg i)).length) ++ colB p (fLays (p.op i).toNat) (p.arg i)))
 else if (p.op i).toNat = 26 then bindK (handF p k i (p.arg i).toNat ((kin (k i)).take ((kin (k i)).length - (colB p (fTakes (p.op i).toNat) (p.arg i)).length) ++ colB p (fLays (p.op i).toNat) (p.arg i))) (fun k' => handF p k' i (i + 1) ((kin (k i)).take ((kin (k i)).length - (colB p (fTakes (p.op i).toNat) (p.arg i)).length) ++ colB p (fLays (p.op i).toNat) (p.arg i)))
 else handF p k i (i + 1) ((kin (k i)).take ((kin (k i)).length - (colB p (fTakes (p.op i).toNat) (p.arg i)).length) ++ colB p (fLays (p.op i).toNat) (p.arg i))
theorem fTakes_col (o : Nat) (h : o ≤ 32) : Col (fTakes o) := by
 have : ∀ o, o ≤ 32 → Col (fTakes o) := by unfold Col; decide
 exact this o h
theorem fLays_col (o : Nat) (h : o ≤ 32) : Col (fLays o) := by
 have : ∀ o, o ≤ 32 → Col (fLays o) := by unfold Col; decide
 exact this o h
theorem col_arg (o : Nat) (h : o ≤ 32) : ((fTakes o = [115] ∨ fLays o = [115]) → fArg o = 3) ∧ ((fTakes o = [105] ∨ fLays o = [105]) → fArg o = 2) ∧ (25 ≤ o → o ≤ 28 → fArg o = 4) := by
 have : ∀ o, o ≤ 32 → ((fTakes o = [115] ∨ fLays o = [115]) → fArg o = 3) ∧ ((fTakes o = [105] ∨ fLays o = [105]) → fArg o = 2) ∧ (25 ≤ o → o ≤ 28 → fArg o = 4) := by decide
 exact this o h
theorem colB_len (p : Pv) (col : List Nat) (a : Int) (h : Col col) : (colB p col a).length ≤ 3 := by
 rcases h with rfl | rfl | rfl | rfl | rfl | rfl | rfl | rfl <;> simp [colB]
/-- An instruction that may be. -/
structure InOk (p : Pv) (i : Nat) : Prop where
 lt : i < p.n
 o : isO (p.op i) = true
 a : argF p (p.op i).toNat (p.arg i) = true
theorem argF_slot {p : Pv} {o : Nat} {a : Int} (h : argF p o a = true) (e : fArg o = 3) : isPl a p.ns = true := by simpa [argF, e] using h
theorem argF_inp {p : Pv} {o : Nat} {a : Int} (h : argF p o a = true) (e : fArg o = 2) : isPl a 8 = true := by simpa [argF, e] using h
theorem argF_place {p : Pv} {o : Nat} {a : Int} (h : argF p o a = true) (e : fArg o = 4) : isPl a p.n = true := by simpa [argF, e] using h
theorem isPl_nat {a : Int} {n : Nat} (h : isPl a n = true) : a = ((a.toNat : Nat) : Int) ∧ a.toNat < n := by
 simp [isPl] at h
 omega
set_option maxRecDepth 10000 in
set_option maxHeartbeats 6400000 in
theorem visitC {lim : Nat} {W : World} {q hb : Nat} {g : Pg} {p : Pv} {k : Kn} (h : WK lim W q hb g p k) (i : Nat) (hi : InOk p i) (hn : p.n ≤ 1024) (hkb : (kin (k i)).length ≤ 64) :
  Calls Tryz.prog 121 #[.pointer (some ⟨q, 0, none⟩), .int .i64 (i : Nat), .agg #[.int .i64 (p.op i), .int .i64 (p.arg i)]] W (Hd lim W q hb g p i (visitF p k i)) := by
 obtain ⟨o, hop, ho2, ho3⟩ : ∃ o : Nat, p.op i = (o : Int) ∧ o ≤ 32 ∧ 1 ≤ o := ⟨_, (isO_nat hi.o).1, (isO_nat hi.o).2.1, (isO_nat hi.o).2.2⟩
 have hia := hi.a
 unfold visitF
 rw [hop] at hia ⊢
 simp only [Int.toNat_natCast] at hia ⊢
 obtain ⟨W1, hW1⟩ : ∃ W1, W.alloc (.cells #[.int .i64 (o : Nat), .int .i64 (p.arg i)] 42) = W1 := ⟨_, rfl⟩
 have B1 : Below W.heap.size W W1 := by rw [← hW1]; exact below_alloc1 W _
 have A1 : W1.heap[W.heap.size]? = some (.cells #[.int .i64 (o : Nat), .int .i64 (p.arg i)] 42 (0, 0)) := by rw [← hW1]; exact alloc_atK _ _
 have h1 := h.kept B1
 obtain ⟨ca1, ca2, ca3⟩ := col_arg _ ho2
 have HTK : Hid (∀ n, Calls Tryz.prog 161 #[.pointer (some ⟨q, 0, none⟩), .string (txt (fTakes o)), .int .i64 (p.arg i)] (W1.drewN n) fun e w' => e = .returned (.string (ktx (colB p (fTakes o) (p.arg i)))) ∧ ∃ n', w' = (W1.drewN n).drewN n') := fun n => (kindsC (h1.kept (Go.below_drewN (Below.refl _ _) n)) _ (fTakes_col _ ho2) _ (fun e => argF_slot hia (ca1 (.inl e))) (fun e => argF_inp hia (ca2 (.inl e)))).mono (fun _ _ h => ⟨h.1, 0, by rw [h.2]; rfl⟩)
 have HLY : Hid (∀ W2, WK lim W2 q hb g p k → Calls Tryz.prog 161 #[.pointer (some ⟨q, 0, none⟩), .string (txt (fLays o)), .int .i64 (p.arg i)] W2 fun e w' => e = .returned (.string (ktx (colB p (fLays o) (p.arg i)))) ∧ ∃ n', w' = W2.drewN n') := fun W2 h2 => (kindsC h2 _ (fLays_col _ ho2) _ (fun e => argF_slot hia (ca1 (.inr e))) (fun e => argF_inp hia (ca2 (.inr e)))).mono (fun _ _ h => ⟨h.1, 0, by rw [h.2]; rfl⟩)
 obtain ⟨c0, c1, c8, c9, ql⟩ := h1.cells
 obtain ⟨s0, s1, f0, f1, sl⟩ := h1.shape i hi.lt
 have t1 := h1.tab.t _ ho2
 have t2 := h1.tab.l _ ho2
 have tz := h1.tab.z
 have hlt := hi.lt
 have z0 := block_cell A1 0
 have z1 := block_cell A1 1
 have zl := block_lt A1
 simp at z0 z1
 have hlT := colB_len p _ (p.arg i) (fTakes_col _ ho2)
 have hlL := colB_len p _ (p.arg i) (fLays_col _ ho2)
 have HPL : Hid (25 ≤ o → o ≤ 28 → isPl (p.arg i) p.n = true) := fun e1 e2 => argF_place hia (ca3 e1 e2)
 have HW1 := hide hW1
 have H1 := hide h1
 have HG1 := hide (grown_of_below B1 (some hb))
 clear h h1 A1 B1 hW1 c0 c1 c8 s0 f0 f1 ca1 ca2 ca3 hia hop hi
 generalize htk : colB p (fTakes o) (p.arg i) = tk at *
 generalize hly : colB p (fLays o) (p.arg i) = ly at *
 generalize hbb : kin (k i) = b at *
 clear htk hly
 obtain ⟨r, hr⟩ : ∃ r, (if b.length < tk.length then Except.error 85 else if b.drop (b.length - tk.length) ≠ tk then .error 86 else if 64 < b.length - tk.length + ly.length then .error 87 else if o = 31 ∨ o = 32 then .ok k else if o = 25 then handF p k i (p.arg i).toNat (b.take (b.length - tk.length) ++ ly) else if o = 27 ∨ o = 28 then bindK (handF p k i (p.arg i).toNat b) (fun k' => handF p k' i (i + 1) (b.take (b.length - tk.length) ++ ly)) else if o = 26 then bindK (handF p k i (p.arg i).toNat (b.take (b.length - tk.length) ++ ly)) (fun k' => handF p k' i (i + 1) (b.take (b.length - tk.length) ++ ly)) else handF p k i (i + 1) (b.take (b.length - tk.length) ++ ly)) = r := ⟨_, rfl⟩
 rw [hr]
 have HR := hide hr
 clear hr
 have hst := ktx_size tk
 have hsl := ktx_size ly
 have hsb := ktx_size b
 go_enter Tryz.func121, Tryz.ntmps121
 go_upto_region 1 with fail
 rw [HW1.out]
 go_upto_region 2 with fail
 go_quiet (first | (go_at_call 161; exact Calls.quiet_of (HTK.out _)))
 obtain ⟨W2, hW2⟩ : ∃ W2, W1.drewN nq = W2 := ⟨_, rfl⟩
 rw [hW2]
 have b2 : Below W1.heap.size W1 W2 := by rw [← hW2]; exact Go.below_drewN (Below.refl _ _) nq
 have H2 := hide (H1.out.kept b2)
 have HG2 : Hid (W.grownBy W2 (some hb)) := grown_tr HG1.out (grown_of_below b2 _)
 have y0 : W2.cell? ⟨W.heap.size, 0, none⟩ = some (.int .i64 (o : Nat)) := by rw [← hW2]; exact z0
 have y1 : W2.cell? ⟨W.heap.size, 1, none⟩ = some (.int .i64 (p.arg i)) := by rw [← hW2]; exact z1
 have yl : W.heap.size < W2.heap.size := by rw [← hW2]; exact zl
 have y2 : W2.cell? ⟨0, o * 3 + 2, none⟩ = some (.string (txt (fLays o))) := by rw [← hW2]; exact t2
 have yz : 10 < W2.heap.size := by rw [← hW2]; exact tz
 have HY : Hid (∀ n, Calls Tryz.prog 161 #[.pointer (some ⟨q, 0, none⟩), .string (txt (fLays o)), .int .i64 (p.arg i)] (W2.drewN n) fun e w' => e = .returned (.string (ktx ly)) ∧ ∃ n', w' = (W2.drewN n).drewN n') := fun n => HLY.out _ (H2.out.kept (Go.below_drewN (Below.refl _ _) n))
 clear hW2 b2 H1 HG1 HTK HLY HW1 t1 s1 sl c9 ql z0 z1 zl t2 tz
 go_upto_region 3 with fail
 go_quiet (first | (go_at_call 161; exact Calls.quiet_of (HY.out _)))
 obtain ⟨W3, hW3⟩ : ∃ W3, W2.drewN nq = W3 := ⟨_, rfl⟩
 rw [hW3]
 have b3 : Below W2.heap.size W2 W3 := by rw [← hW3]; exact Go.below_drewN (Below.refl _ _) nq
 have H3 := hide (H2.out.kept b3)
 have HG3 : Hid (W.grownBy W3 (some hb)) := grown_tr HG2.out (grown_of_below b3 _)
 have x0 : W3.cell? ⟨W.heap.size, 0, none⟩ = some (.int .i64 (o : Nat)) := by rw [← hW3]; exact y0
 have x1 : W3.cell? ⟨W.heap.size, 1, none⟩ = some (.int .i64 (p.arg i)) := by rw [← hW3]; exact y1
 have xl : W.heap.size < W3.heap.size := by rw [← hW3]; exact yl
 clear hW3 b3 H2 HG2 HY y0 y1 yl y2 yz
 go_upto_region 4 with fail
 clear hbb
 by_cases h5 : b.length < tk.length
 ·have hr := HR.out.symm.trans (if_pos h5)
  subst hr
  go_wp2_with fail
  refine (giveUp_any _ _ _).mono ?_
  rintro e w4 ⟨g', rfl, G⟩
  have HD : Hid (Hd lim W q hb g p i (.error 85) (.panicked [{ v := .iface 74 (.pointer (some ⟨g', 0, none⟩)), recovered := false }]) w4) := ⟨g', rfl, G.out.1, grown_tr HG3.out (grown_of_below G.out.2 _)⟩
  go_wp2
  exact ⟨rfl, HD.out⟩
 ·have HR1 := hide (HR.out.symm.trans (if_neg h5))
  clear HR
  obtain ⟨rr, hrr⟩ : ∃ rr, b.length - tk.length = rr := ⟨_, rfl⟩
  rw [hrr] at HR1
  have hri : (b.length : Int) - (tk.length : Int) = (rr : Int) := by omega
  have hrl : rr ≤ b.length := by omega
  have HHB : Hid (∀ W4 k' (d : Nat), WK lim W4 q hb g p k' → Calls Tryz.prog 162 #[.pointer (some ⟨q, 0, none⟩), .int .i64 (i : Nat), .int .i64 (d : Nat), .string (ktx b)] W4 (Hd lim W4 q hb g p i (handF p k' i d b))) := fun W4 k' d hk => handC hk i d b
  have HHA : Hid (∀ W4 k' (d : Nat), WK lim W4 q hb g p k' → Calls Tryz.prog 162 #[.pointer (some ⟨q, 0, none⟩), .int .i64 (i : Nat), .int .i64 (d : Nat), .string (ktx (b.take rr ++ ly))] W4 (Hd lim W4 q hb g p i (handF p k' i d (b.take rr ++ ly)))) := fun W4 k' d hk => handC hk i d _
  have HHN : Hid (∀ W4 k', WK lim W4 q hb g p k' → Calls Tryz.prog 162 #[.pointer (some ⟨q, 0, none⟩), .int .i64 (i : Nat), .int .i64 ((i : Int) + 1), .string (ktx (b.take rr ++ ly))] W4 (Hd lim W4 q hb g p i (handF p k' i (i + 1) (b.take rr ++ ly)))) := fun W4 k' hk => handC hk i (i + 1) _
  have eD : (ktx b).extract rr b.length = ktx (b.drop rr) := by rw [← ktx_drop, ktx_size]
  have eF := ktx_take b rr
  have eA := ktx_append (b.take rr) ly
  have eN : ((ktx (b.drop rr)).toList == (ktx tk).toList) = decide (b.drop rr = tk) := by
   by_cases e : b.drop rr = tk
   ·rw [e]; simp
   ·rw [decide_eq_false e]; exact beq_eq_false_iff_ne.2 (fun h => e (by rw [ktx_eq] at h; exact h))
  have hz2 : (ktx (b.take rr)).size + (ktx ly).size ≤ 9223372036854775807 := by rw [ktx_size, ktx_size]; simp; omega
  generalize ktx (b.take rr ++ ly) = SA at *
  generalize ktx (b.take rr) = SF at *
  generalize ktx (b.drop rr) = SD at *
  generalize ktx tk = ST at *
  generalize ktx ly = SL at *
  generalize ktx b = SB at *
  by_cases h6 : b.drop rr = tk
  ·rw [decide_eq_true h6] at eN
   have HR2 := hide (HR1.out.trans (if_neg (by simpa using h6)))
   have HTK := hide h6
   clear HR1 h6
   by_cases h7 : 64 < rr + ly.length
   ·have hr := HR2.out.trans (if_pos h7)
    subst hr
    go_wp2_with fail
    refine (giveUp_any _ _ _).mono ?_
    rintro e w4 ⟨g', rfl, G⟩
    have HD : Hid (Hd lim W q hb g p i (.error 87) (.panicked [{ v := .iface 74 (.pointer (some ⟨g', 0, none⟩)), recovered := false }]) w4) := ⟨g', rfl, G.out.1, grown_tr HG3.out (grown_of_below G.out.2 _)⟩
    go_wp2
    exact ⟨rfl, HD.out⟩
   ·have HR3 := hide (HR2.out.trans (if_neg h7))
    clear HR2
    by_cases h31 : o = 31
    ·have hr := HR3.out.trans (if_pos (Or.inl h31))
     subst hr
     subst h31
     have HD : Hid (Hd lim W q hb g p i (.ok k) (.returned (.tuple #[])) W3) := ⟨rfl, H3.out, HG3.out⟩
     go_wp2
     go_end0
     exact HD.out
    by_cases h32 : o = 32
    ·have hr := HR3.out.trans (if_pos (Or.inr h32))
     subst hr
     subst h32
     have HD : Hid (Hd lim W q hb g p i (.ok k) (.returned (.tuple #[])) W3) := ⟨rfl, H3.out, HG3.out⟩
     go_wp2
     go_end0
     exact HD.out
    have HR4 := hide (HR3.out.trans (if_neg (fun h => h.elim h31 h32)))
    clear HR3
    by_cases h25 : o = 25
    ·have hr := HR4.out.trans (if_pos h25)
     obtain ⟨t, ht, htn⟩ : ∃ t : Nat, p.arg i = (t : Int) ∧ t < p.n := ⟨_, (isPl_nat (HPL.out (by omega) (by omega))).1, (isPl_nat (HPL.out (by omega) (by omega))).2⟩
     rw [ht] at hr x1
     simp only [Int.toNat_natCast] at hr
     clear HR4 h31 h32
     subst h25
     have HRr := hide hr
     clear hr
     go_wp2_with fail
     refine (HHA.out _ _ t H3.out).mono ?_
     intro e w4 hh
     have HD := hide (hh.up HG3.out)
     cases hres : handF p k i t (b.take rr ++ ly) with
     | error y =>
      rw [hres] at hh HD
      obtain ⟨g', rfl, -⟩ := hh
      have HD2 : Hid (Hd lim W q hb g p i r (.panicked [{ v := .iface 74 (.pointer (some ⟨g', 0, none⟩)), recovered := false }]) w4) := by
       show Hd lim W q hb g p i r _ _
       rw [HRr.out, hres]
       exact HD.out
      clear HD hres
      go_wp2
      exact ⟨rfl, HD2.out⟩
     | ok k' =>
      rw [hres] at hh HD
      obtain ⟨rfl, -⟩ := hh
      have HD2 : Hid (Hd lim W q hb g p i r (.returned (.tuple #[])) w4) := by
       show Hd lim W q hb g p i r _ _
       rw [HRr.out, hres]
       exact HD.out
      clear HD hres
      go_wp2
      go_end0
      exact HD2.out
    have HR5 := hide (HR4.out.trans (if_neg h25))
    clear HR4
    by_cases h27 : o = 27
    ·have hr := HR5.out.trans (if_pos (Or.inl h27))
     obtain ⟨t, ht, htn⟩ : ∃ t : Nat, p.arg i = (t : Int) ∧ t < p.n := ⟨_, (isPl_nat (HPL.out (by omega) (by omega))).1, (isPl_nat (HPL.out (by omega) (by omega))).2⟩
     rw [ht] at hr x1
     simp only [Int.toNat_natCast] at hr
     clear HR5 h31 h32 h25
     subst h27
     have HRr := hide hr
     clear hr
     go_wp2_with fail
     refine (HHB.out _ _ t H3.out).mono ?_
     intro e w4 hh
     cases hres : handF p k i t b with
     | error y =>
      rw [hres] at hh
      have HD := hide (hh.up HG3.out)
      obtain ⟨g', rfl, -⟩ := hh
      have HD2 : Hid (Hd lim W q hb g p i r (.panicked [{ v := .iface 74 (.pointer (some ⟨g', 0, none⟩)), recovered := false }]) w4) := by
       show Hd lim W q hb g p i r _ _
       rw [HRr.out, hres]
       exact HD.out
      clear HD hres
      go_wp2
      exact ⟨rfl, HD2.out⟩
     | ok k' =>
      rw [hres] at hh
      obtain ⟨rfl, G4⟩ := hh
      have HG4 : Hid (W.grownBy w4 (some hb)) := grown_tr HG3.out G4.out.2
      go_wp2_with fail
      refine (HHN.out _ _ G4.out.1).mono ?_
      intro e w5 hh
      have HD := hide (hh.up HG4.out)
      have hrr : r = handF p k' i (i + 1) (b.take rr ++ ly) := by rw [HRr.out, hres]; rfl
      cases hres2 : handF p k' i (i + 1) (b.take rr ++ ly) with
      | error y =>
       rw [hres2] at hh HD
       obtain ⟨g', rfl, -⟩ := hh
       have HD2 : Hid (Hd lim W q hb g p i r (.panicked [{ v := .iface 74 (.pointer (some ⟨g', 0, none⟩)), recovered := false }]) w5) := by
        show Hd lim W q hb g p i r _ _
        rw [hrr, hres2]
        exact HD.out
       clear HD hres hres2 hrr
       go_wp2
       exact ⟨rfl, HD2.out⟩
      | ok k'' =>
       rw [hres2] at hh HD
       obtain ⟨rfl, -⟩ := hh
       have HD2 : Hid (Hd lim W q hb g p i r (.returned (.tuple #[])) w5) := by
        show Hd lim W q hb g p i r _ _
        rw [hrr, hres2]
        exact HD.out
       clear HD hres hres2 hrr
       go_wp2
       go_end0
       exact HD2.out
    by_cases h28 : o = 28
    ·have hr := HR5.out.trans (if_pos (Or.inr h28))
     obtain ⟨t, ht, htn⟩ : ∃ t : Nat, p.arg i = (t : Int) ∧ t < p.n := ⟨_, (isPl_nat (HPL.out (by omega) (by omega))).1, (isPl_nat (HPL.out (by omega) (by omega))).2⟩
     rw [ht] at hr x1
     simp only [Int.toNat_natCast] at hr
     clear HR5 h31 h32 h25 h27
     subst h28
     have HRr := hide hr
     clear hr
     go_wp2_with fail
     refine (HHB.out _ _ t H3.out).mono ?_
     intro e w4 hh
     cases hres : handF p k i t b with
     | error y =>
      rw [hres] at hh
      have HD := hide (hh.up HG3.out)
      obtain ⟨g', rfl, -⟩ := hh
      have HD2 : Hid (Hd lim W q hb g p i r (.panicked [{ v := .iface 74 (.pointer (some ⟨g', 0, none⟩)), recovered := false }]) w4) := by
       show Hd lim W q hb g p i r _ _
       rw [HRr.out, hres]
       exact HD.out
      clear HD hres
      go_wp2
      exact ⟨rfl, HD2.out⟩
     | ok k' =>
      rw [hres] at hh
      obtain ⟨rfl, G4⟩ := hh
      have HG4 : Hid (W.grownBy w4 (some hb)) := grown_tr HG3.out G4.out.2
      go_wp2_with fail
      refine (HHN.out _ _ G4.out.1).mono ?_
      intro e w5 hh
      have HD := hide (hh.up HG4.out)
      have hrr : r = handF p k' i (i + 1) (b.take rr ++ ly) := by rw [HRr.out, hres]; rfl
      cases hres2 : handF p k' i (i + 1) (b.take rr ++ ly) with
      | error y =>
       rw [hres2] at hh HD
       obtain ⟨g', rfl, -⟩ := hh
       have HD2 : Hid (Hd lim W q hb g p i r (.panicked [{ v := .iface 74 (.pointer (some ⟨g', 0, none⟩)), recovered := false }]) w5) := by
        show Hd lim W q hb g p i r _ _
        rw [hrr, hres2]
        exact HD.out
       clear HD hres hres2 hrr
       go_wp2
       exact ⟨rfl, HD2.out⟩
      | ok k'' =>
       rw [hres2] at hh HD
       obtain ⟨rfl, -⟩ := hh
       have HD2 : Hid (Hd lim W q hb g p i r (.returned (.tuple #[])) w5) := by
        show Hd lim W q hb g p i r _ _
        rw [hrr, hres2]
        exact HD.out
       clear HD hres hres2 hrr
       go_wp2
       go_end0
       exact HD2.out
    have HR6 := hide (HR5.out.trans (if_neg (fun h => h.elim h27 h28)))
    clear HR5
    by_cases h26 : o = 26
    ·have hr := HR6.out.trans (if_pos h26)
     obtain ⟨t, ht, htn⟩ : ∃ t : Nat, p.arg i = (t : Int) ∧ t < p.n := ⟨_, (isPl_nat (HPL.out (by omega) (by omega))).1, (isPl_nat (HPL.out (by omega) (by omega))).2⟩
     rw [ht] at hr x1
     simp only [Int.toNat_natCast] at hr
     clear HR6 h31 h32 h25 h27 h28
     subst h26
     have HRr := hide hr
     clear hr
     go_wp2_with fail
     refine (HHA.out _ _ t H3.out).mono ?_
     intro e w4 hh
     cases hres : handF p k i t (b.take rr ++ ly) with
     | error y =>
      rw [hres] at hh
      have HD := hide (hh.up HG3.out)
      obtain ⟨g', rfl, -⟩ := hh
      have HD2 : Hid (Hd lim W q hb g p i r (.panicked [{ v := .iface 74 (.pointer (some ⟨g', 0, none⟩)), recovered := false }]) w4) := by
       show Hd lim W q hb g p i r _ _
       rw [HRr.out, hres]
       exact HD.out
      clear HD hres
      go_wp2
      exact ⟨rfl, HD2.out⟩
     | ok k' =>
      rw [hres] at hh
      obtain ⟨rfl, G4⟩ := hh
      have HG4 : Hid (W.grownBy w4 (some hb)) := grown_tr HG3.out G4.out.2
      go_wp2_with fail
      refine (HHN.out _ _ G4.out.1).mono ?_
      intro e w5 hh
      have HD := hide (hh.up HG4.out)
      have hrr : r = handF p k' i (i + 1) (b.take rr ++ ly) := by rw [HRr.out, hres]; rfl
      cases hres2 : handF p k' i (i + 1) (b.take rr ++ ly) with
      | error y =>
       rw [hres2] at hh HD
       obtain ⟨g', rfl, -⟩ := hh
       have HD2 : Hid (Hd lim W q hb g p i r (.panicked [{ v := .iface 74 (.pointer (some ⟨g', 0, none⟩)), recovered := false }]) w5) := by
        show Hd lim W q hb g p i r _ _
        rw [hrr, hres2]
        exact HD.out
       clear HD hres hres2 hrr
       go_wp2
       exact ⟨rfl, HD2.out⟩
      | ok k'' =>
       rw [hres2] at hh HD
       obtain ⟨rfl, -⟩ := hh
       have HD2 : Hid (Hd lim W q hb g p i r (.returned (.tuple #[])) w5) := by
        show Hd lim W q hb g p i r _ _
        rw [hrr, hres2]
        exact HD.out
       clear HD hres hres2 hrr
       go_wp2
       go_end0
       exact HD2.out
    have HRr := hide (HR6.out.trans (if_neg h26))
    clear HR6
    have q31 : ((o : Int) == 31) = false := by simp; omega
    have q32 : ((o : Int) == 32) = false := by simp; omega
    have q25 : ((o : Int) == 25) = false := by simp; omega
    have q27 : ((o : Int) == 27) = false := by simp; omega
    have q28 : ((o : Int) == 28) = false := by simp; omega
    have q26 : ((o : Int) == 26) = false := by simp; omega
    go_wp2_with fail
    refine (HHN.out _ _ H3.out).mono ?_
    intro e w4 hh
    have HD := hide (hh.up HG3.out)
    cases hres : handF p k i (i + 1) (b.take rr ++ ly) with
    | error y =>
     rw [hres] at hh HD
     obtain ⟨g', rfl, -⟩ := hh
     have HD2 : Hid (Hd lim W q hb g p i r (.panicked [{ v := .iface 74 (.pointer (some ⟨g', 0, none⟩)), recovered := false }]) w4) := by
      show Hd lim W q hb g p i r _ _
      rw [HRr.out, hres]
      exact HD.out
     clear HD hres
     go_wp2
     exact ⟨rfl, HD2.out⟩
    | ok k' =>
     rw [hres] at hh HD
     obtain ⟨rfl, -⟩ := hh
     have HD2 : Hid (Hd lim W q hb g p i r (.returned (.tuple #[])) w4) := by
      show Hd lim W q hb g p i r _ _
      rw [HRr.out, hres]
      exact HD.out
     clear HD hres
     go_wp2
     go_end0
     exact HD2.out
  ·rw [decide_eq_false h6] at eN
   have hr := HR1.out.trans (if_pos (by simpa using h6))
   subst hr
   go_wp2_with fail
   refine (giveUp_any _ _ _).mono ?_
   rintro e w4 ⟨g', rfl, G⟩
   have HD : Hid (Hd lim W q hb g p i (.error 86) (.panicked [{ v := .iface 74 (.pointer (some ⟨g', 0, none⟩)), recovered := false }]) w4) := ⟨g', rfl, G.out.1, grown_tr HG3.out (grown_of_below G.out.2 _)⟩
   go_wp2
   exact ⟨rfl, HD.out⟩
end Go.Proofs.YtggpaljilpbmhaaGreatDoor
