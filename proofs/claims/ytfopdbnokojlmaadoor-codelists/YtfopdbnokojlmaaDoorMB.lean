import Derived.Test.YtfopdbnokojlmaaDoorMA
import Derived.Lib.ItoaLen
import Derived.Test.YtfopdbnokojlmaaDoorCvU
namespace Go.Proofs.YtfopdbnokojlmaaDoor
open Go.RowKit

theorem iB_size (n : Int) (h0 : -9223372036854775808 ≤ n) (h1 : n < 18446744073709551616) : (iB n).size ≤ 100 := by
  have e : (iB n).size = (Lib.itoa n).length := by
    show (iB n).data.size = _
    unfold iB
    simp
  rw [e]
  by_cases h : n ≤ 9223372036854775807
  · have := Lib.itoa_length_le n h0 h
    omega
  · obtain ⟨u, rfl⟩ : ∃ u : Nat, n = u := ⟨n.toNat, by omega⟩
    rw [Lib.itoa_nonneg, Lib.decDigits_length]
    have := Lib.numDigits_eq u (by omega) (by omega)
    split at this <;> omega
theorem insL_size (j o : Nat) (a : Int) (hj : j ≤ 1024) (ha : 0 ≤ a) (ha2 : a ≤ 1024) : 0 < (insL j o a).size ∧ (insL j o a).size ≤ 400 := by
  have h1 := iB_size j (by omega) (by omega)
  have h2 := iB_size a (by omega) (by omega)
  have h3 := wdB_size o
  have h4 := nmB_size a.toNat
  unfold insL tailB
  split
  · simp only [List.append_nil]
    rw [jn2_size]
    omega
  · split
    · simp only [List.cons_append, List.nil_append]
      rw [jn3_size]
      omega
    · simp only [List.cons_append, List.nil_append]
      rw [jn3_size]
      omega
set_option maxHeartbeats 6400000 in
set_option maxRecDepth 10000 in
theorem insC {B b : Nat} {t : ByteArray} (j o : Nat) (a : Int) {w : World} (h : Bd B b t w) (hT : Tab2 w) (ho2 : o ≤ 32) (hj : j ≤ 1024) (ha0 : 0 ≤ a) (ha1 : a ≤ 1024) (ha2 : fArg o = 2 → a < 8) (ht : t.size ≤ 1099511627776) :
    Calls Tryd.prog 20 #[.pointer (some ⟨b, 0, none⟩), .int .i64 (j : Nat), .agg #[.int .i64 (o : Nat), .int .i64 a]] w fun e w' => e = .returned (.tuple #[]) ∧ Hid (Bd B b (t ++ insL j o a ++ nlB) w' ∧ Kb B b w w') := by
  obtain ⟨W1, hW1⟩ : ∃ W1, w.alloc (.cells #[.int .i64 (o : Nat), .int .i64 a] 49) = W1 := ⟨_, rfl⟩
  have B1 : Below w.heap.size w W1 := by rw [← hW1]; exact below_alloc1 w _
  have A1 : W1.heap[w.heap.size]? = some (.cells #[.int .i64 (o : Nat), .int .i64 a] 49 (0, 0)) := by rw [← hW1]; exact alloc_atK _ _
  have hT1 := hT.next B1
  have HI : Hid (Calls Tryd.prog 11 #[.int .i64 (j : Nat)] W1.drew fun e w' => e = .returned (.string (iB j)) ∧ Hid (Below W1.heap.size W1 w')) := hide ((itoaC (w := W1.drew) (j : Int) (by omega) (by omega) hT1.p).mono fun _ _ hh => ⟨hh.1, hide ((Below.drew (Below.refl _ W1)).trans hh.2.out)⟩)
  have y0 := block_cell A1 0
  have y1 := block_cell A1 1
  have yl := block_lt A1
  simp at y0 y1
  have yw := hT1.wd o ho2
  have yz := hT1.t.z
  have HA1 := hide A1
  have HB1 := hide B1
  have HT1 := hide hT1
  have HD := hide h
  have hz := insL_size j o a hj ha0 ha1
  have HZ := hide hz
  have HW1 := hide hW1
  have HO := hide (show o ≤ 32 from ho2)
  have HA2 := hide ha2
  have HA0 := hide (And.intro ha0 ha1)
  have HTS := hide ht
  clear h hT hT1 hW1 B1 A1 hz ht ha2 hj ha0 ha1
  go_enter Tryd.func20, Tryd.ntmps20
  go_upto_region 1 with fail
  rw [HW1.out]
  go_region_with (go_at_call 11; refine HI.out.mono ?_; rintro e w2 ⟨rfl, G2⟩; have x0 := (G2.out.block _ (block_lt HA1.out)).trans HA1.out; have z0 := block_cell x0 0; have zl := block_lt x0; simp at z0; have zw := (HT1.out.next (w' := w2) G2.out).wd o HO.out)
  all_goals
    clear y0 y1 yl yw yz
    have HT2 := hide (HT1.out.next G2.out)
    have hb2 := (G2.out.block _ (block_lt HA1.out)).trans HA1.out
    have z1 := block_cell hb2 1
    simp at z1
    have za := HT2.out.t.a o HO.out
    have zz := HT2.out.t.z
    have HBd := hide (HD.out.below (HB1.out.trans (G2.out.mono HB1.out.size)))
    have HK := hide (HB1.out.trans (G2.out.mono HB1.out.size))
    clear hb2 x0 HI
    by_cases e0 : fArg o = 0
    · have HX : Hid (jn [iB j, wdB o] = insL j o a) := by
        show _ = _
        unfold insL tailB
        rw [if_pos e0]
        rfl
      rw [e0] at za
      clear e0
      have HLL := hide (line2 (iB j) (wdB o) HBd.out (by rw [HX.out]; have := HZ.out.2; omega) HTS.out)
      rw [HX.out] at HLL
      go_wp2_with fail
      refine HLL.out.mono ?_
      rintro e w3 ⟨rfl, G3⟩
      have HE : Hid (Bd B b (t ++ insL j o a ++ nlB) w3 ∧ Kb B b w w3) := ⟨G3.out.1, (Kb.below HK.out HD.out.le).trans G3.out.2⟩
      clear HLL G3 z0 zl zw z1 za zz
      go_wp2
      go_end0
      exact ⟨rfl, HE⟩
    · by_cases e2 : fArg o = 2
      · have h8 := HA2.out e2
        have h0a := HA0.out.1
        have HX : Hid (jn [iB j, wdB o, nmB a.toNat] = insL j o a) := by
          show _ = _
          unfold insL tailB
          rw [if_neg e0, if_pos e2]
          rfl
        rw [e2] at za
        obtain ⟨c, rfl⟩ := Int.eq_ofNat_of_zero_le h0a
        have zn := HT2.out.nm c (by omega)
        have hc8 : c < 8 := by omega
        have HLL := hide (line3 (iB j) (wdB o) (nmB c) HBd.out (by have h9 : jn [iB j, wdB o, nmB c] = insL j o (c : Nat) := HX.out; rw [h9]; have := HZ.out.2; omega) HTS.out)
        have h9 : jn [iB j, wdB o, nmB c] = insL j o (c : Nat) := HX.out
        rw [h9] at HLL
        clear h9 e0 e2 h8 h0a HX
        go_wp2_with fail
        refine HLL.out.mono ?_
        rintro e w3 ⟨rfl, G3⟩
        have HE : Hid (Bd B b (t ++ insL j o (c : Nat) ++ nlB) w3 ∧ Kb B b w w3) := ⟨G3.out.1, (Kb.below HK.out HD.out.le).trans G3.out.2⟩
        clear HLL G3 z0 zl zw z1 za zz zn
        go_wp2
        go_end0
        exact ⟨rfl, HE⟩
      · have HX : Hid (jn [iB j, wdB o, iB a] = insL j o a) := by
          show _ = _
          unfold insL tailB
          rw [if_neg e0, if_neg e2]
          rfl
        have HI2 := hide (itoaC (w := w2) a (by have := HA0.out; omega) (by have := HA0.out; omega) HT2.out.p)
        obtain ⟨f, hf⟩ : ∃ f : Int, f = (fArg o : Nat) := ⟨_, rfl⟩
        rw [← hf] at za
        have f0 : ¬ f = 0 := by omega
        have f2 : ¬ f = 2 := by omega
        clear hf e0 e2
        go_wp2_with fail
        refine HI2.out.mono ?_
        rintro e w3 ⟨rfl, G3⟩
        have HLL := hide (line3 (iB j) (wdB o) (iB a) (HBd.out.below G3.out) (by rw [HX.out]; have := HZ.out.2; omega) HTS.out)
        rw [HX.out] at HLL
        clear z0 zl zw z1 za zz
        go_wp2_with fail
        refine HLL.out.mono ?_
        rintro e w4 ⟨rfl, G4⟩
        have HE : Hid (Bd B b (t ++ insL j o a ++ nlB) w4 ∧ Kb B b w w4) := ⟨G4.out.1, (Kb.below (HK.out.trans (G3.out.mono HK.out.size)) HD.out.le).trans G4.out.2⟩
        clear HLL G4
        go_wp2
        go_end0
        exact ⟨rfl, HE⟩
end Go.Proofs.YtfopdbnokojlmaaDoor
namespace Go.Proofs.YtfopdbnokojlmaaDoor
open Go.RowKit

/-- Texts one behind the other. -/
def cat (f : Nat → ByteArray) : Nat → ByteArray
  | 0 => ⟨#[]⟩
  | n + 1 => cat f n ++ f n
theorem cat_size {f : Nat → ByteArray} {n : Nat} (h : ∀ j, j < n → (f j).size ≤ 500) : (cat f n).size ≤ n * 500 := by
  induction n with
  | zero => exact Nat.le_refl _
  | succ n ih =>
    have h1 := ih (fun j hj => h j (by omega))
    have h2 := h n (by omega)
    unfold cat
    rw [ByteArray.size_append]
    omega
theorem cat_next (t : ByteArray) (f : Nat → ByteArray) (n : Nat) (a b : ByteArray) (h : f n = a ++ b) : t ++ cat f n ++ a ++ b = t ++ cat f (n + 1) := by
  show _ = t ++ (cat f n ++ f n)
  rw [h, ← ByteArray.append_assoc, ← ByteArray.append_assoc]
theorem cat_none (t : ByteArray) (f : Nat → ByteArray) : t ++ cat f 0 = t := ByteArray.append_empty
def cB : ByteArray := ⟨#[99, 111, 110, 115, 116]⟩
def sB : ByteArray := ⟨#[115, 108, 111, 116]⟩
def oB : ByteArray := ⟨#[111, 110]⟩
def kdB (s : Int) : ByteArray := if s = 1 then ⟨#[98, 111, 111, 108]⟩ else ⟨#[110, 117, 109]⟩
def conL (p : Pv) (j : Nat) : ByteArray := jn [cB, iB j, iB (p.C j)] ++ nlB
def sltL (p : Pv) (j : Nat) : ByteArray := jn [sB, iB j, kdB (p.S j)] ++ nlB
def entL (p : Pv) (j : Nat) : ByteArray := if 0 ≤ p.en j then jn [oB, evB j, iB (p.en j)] ++ nlB else ⟨#[]⟩
def inL (p : Pv) (j : Nat) : ByteArray := insL j (p.op j).toNat (p.arg j) ++ nlB
/-- The listing. -/
def lst1 (p : Pv) : ByteArray := cat (conL p) p.nc
def lst2 (p : Pv) : ByteArray := lst1 p ++ cat (sltL p) p.ns
def lst3 (p : Pv) : ByteArray := lst2 p ++ cat (entL p) 6
def lst4 (p : Pv) : ByteArray := lst3 p ++ cat (inL p) p.n
/-- What a verified program's parts are. -/
structure Gd (p : Pv) : Prop where
  nc : p.nc ≤ 256
  ns : p.ns ≤ 128
  n : p.n ≤ 1024
  c : ∀ j, j < p.nc → 0 ≤ p.C j ∧ p.C j < 18446744073709551616
  s : ∀ j, j < p.ns → p.S j = 0 ∨ p.S j = 1
  e : ∀ j, j < 6 → p.en j = -1 ∨ (0 ≤ p.en j ∧ p.en j < 1024)
  o : ∀ j, j < p.n → 1 ≤ p.op j ∧ p.op j ≤ 32
  a : ∀ j, j < p.n → 0 ≤ p.arg j ∧ p.arg j ≤ 1024
  i : ∀ j, j < p.n → fArg (p.op j).toNat = 2 → p.arg j < 8
theorem Gd.of {p : Pv} {k : Kn} (h : verF p = .ok k) (hc : ∀ j, j < p.nc → 0 ≤ p.C j ∧ p.C j < 18446744073709551616) : Gd p := by
  rw [verF_stat] at h
  cases e : statF p with
  | some z => rw [e] at h; cases h
  | none =>
    obtain ⟨h1, h2, h3, h4⟩ := stat_none e
    obtain ⟨n1, n2, n3⟩ := size_none h1
    refine ⟨n1, n2, n3, hc, slot_none h2, fun j hj => ?_, fun j hj => ?_, fun j hj => ?_, fun j hj e2 => ?_⟩
    · rcases ent_of h3 hj with q | q
      · exact .inl q
      · simp [isPl] at q; exact .inr (by omega)
    · have := (InOk.of h4 hj).o
      simp [isO] at this
      omega
    · have q := InOk.of h4 hj
      have q1 := q.a
      have q2 := q.o
      simp [isO] at q2
      rcases fArg_le (p.op j).toNat (by omega) with f | f | f | f | f | f
      all_goals simp [argF, f, isPl] at q1
      all_goals omega
    · have q := argF_inp (InOk.of h4 hj).a e2
      simp [isPl] at q
      omega
theorem conL_size {p : Pv} (h : Gd p) {j : Nat} (hj : j < p.nc) : (jn [cB, iB j, iB (p.C j)]).size ≤ 400 ∧ (conL p j).size ≤ 500 := by
  have h1 := iB_size j (by omega) (by have := h.nc; omega)
  have h2 := iB_size (p.C j) (by have := h.c j hj; omega) (h.c j hj).2
  have h3 : cB.size = 5 := rfl
  have h4 : nlB.size = 1 := rfl
  have h5 := jn3_size cB (iB j) (iB (p.C j))
  unfold conL
  rw [ByteArray.size_append]
  omega
theorem sltL_size {p : Pv} (h : Gd p) {j : Nat} (hj : j < p.ns) : (jn [sB, iB j, kdB (p.S j)]).size ≤ 400 ∧ (sltL p j).size ≤ 500 := by
  have h1 := iB_size j (by omega) (by have := h.ns; omega)
  have h2 : (kdB (p.S j)).size ≤ 4 := by unfold kdB; split <;> decide
  have h3 : sB.size = 4 := rfl
  have h4 : nlB.size = 1 := rfl
  have h5 := jn3_size sB (iB j) (kdB (p.S j))
  unfold sltL
  rw [ByteArray.size_append]
  omega
theorem entL_size {p : Pv} (h : Gd p) {j : Nat} (hj : j < 6) : (0 ≤ p.en j → (jn [oB, evB j, iB (p.en j)]).size ≤ 400) ∧ (entL p j).size ≤ 500 := by
  by_cases e : 0 ≤ p.en j
  · have h2 := iB_size (p.en j) (by omega) (by have := h.e j hj; omega)
    have h1 := evB_size j
    have h3 : oB.size = 2 := rfl
    have h4 : nlB.size = 1 := rfl
    have h5 := jn3_size oB (evB j) (iB (p.en j))
    unfold entL
    rw [if_pos e, ByteArray.size_append]
    omega
  · refine ⟨fun x => absurd x e, ?_⟩
    unfold entL
    rw [if_neg e]
    decide
theorem inL_size {p : Pv} (h : Gd p) {j : Nat} (hj : j < p.n) : (inL p j).size ≤ 500 := by
  have h1 := insL_size j (p.op j).toNat (p.arg j) (by have := h.n; omega) (h.a j hj).1 (h.a j hj).2
  have h4 : nlB.size = 1 := rfl
  unfold inL
  rw [ByteArray.size_append]
  omega
theorem lst_size {p : Pv} (h : Gd p) : (∀ j, j ≤ p.nc → (cat (conL p) j).size ≤ 1000000) ∧ (∀ j, j ≤ p.ns → (lst1 p ++ cat (sltL p) j).size ≤ 1000000) ∧ (∀ j, j ≤ 6 → (lst2 p ++ cat (entL p) j).size ≤ 1000000) ∧ (∀ j, j ≤ p.n → (lst3 p ++ cat (inL p) j).size ≤ 1000000) := by
  have a1 : ∀ j, j ≤ p.nc → (cat (conL p) j).size ≤ j * 500 := fun j hj => cat_size (fun i hi => (conL_size h (by omega)).2)
  have a2 : ∀ j, j ≤ p.ns → (cat (sltL p) j).size ≤ j * 500 := fun j hj => cat_size (fun i hi => (sltL_size h (by omega)).2)
  have a3 : ∀ j, j ≤ 6 → (cat (entL p) j).size ≤ j * 500 := fun j hj => cat_size (fun i hi => (entL_size h (by omega)).2)
  have a4 : ∀ j, j ≤ p.n → (cat (inL p) j).size ≤ j * 500 := fun j hj => cat_size (fun i hi => inL_size h (by omega))
  have n1 := h.nc
  have n2 := h.ns
  have n3 := h.n
  have b1 := a1 p.nc (Nat.le_refl _)
  have b2 := a2 p.ns (Nat.le_refl _)
  have b3 := a3 6 (Nat.le_refl _)
  refine ⟨fun j hj => by have := a1 j hj; omega, fun j hj => ?_, fun j hj => ?_, fun j hj => ?_⟩
  · have := a2 j hj
    unfold lst1
    rw [ByteArray.size_append]
    omega
  · have := a3 j hj
    unfold lst2 lst1
    rw [ByteArray.size_append, ByteArray.size_append]
    omega
  · have := a4 j hj
    unfold lst3 lst2 lst1
    rw [ByteArray.size_append, ByteArray.size_append, ByteArray.size_append]
    omega
end Go.Proofs.YtfopdbnokojlmaaDoor
