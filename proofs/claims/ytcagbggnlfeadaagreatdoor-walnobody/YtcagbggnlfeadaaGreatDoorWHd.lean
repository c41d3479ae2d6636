import Derived.Test.YtcagbggnlfeadaaGreatDoorWApp
namespace Go.Proofs.YtcagbggnlfeadaaGreatDoor
open Go.RowKit Crc

/-- A fault of layer wal, as it lies in memory. -/
def WFault (w : World) (v : Value) (at_ why : Int) : Prop :=
  ∃ g, v = .iface 95 (.pointer (some ⟨g, 0, none⟩)) ∧ w.cell? ⟨g, 0, none⟩ = some (.string ⟨#[119, 97, 108]⟩) ∧ w.cell? ⟨g, 1, none⟩ = some (.int .i64 at_) ∧ w.cell? ⟨g, 2, none⟩ = some (.iface 43 (.int .i64 why))
set_option maxRecDepth 10000 in
set_option maxHeartbeats 400000 in
theorem refusalW (at_ why : Int) (w : World) :
    Calls Tryz.prog 25 #[.int .i64 at_, .iface 43 (.int .i64 why)] w fun e w' => ∃ v, e = .returned v ∧ v = .iface 95 (.pointer (some ⟨w.heap.size, 0, none⟩)) ∧ WFault w' v at_ why ∧ Below w.heap.size w w' := by
  go_enter Tryz.func25, Tryz.ntmps25
  go_wp2
  go_ret
  refine ⟨_, rfl, rfl, ⟨w.heap.size, rfl, by simp, by simp, by simp⟩, (Below.refl _ _).alloc (Nat.le_refl _) _⟩

def hdr0 (file base : Nat) : List Nat := [81, 76, 79, 71, 1] ++ big file 8 ++ big base 4
def hdr (file base : Nat) : List Nat := hdr0 file base ++ low4 (Crc.sum (hdr0 file base))
theorem hdr0_len (f b : Nat) : (hdr0 f b).length = 17 := by simp [hdr0, big, big_len]
theorem hdr_len (f b : Nat) : (hdr f b).length = 21 := by unfold hdr; rw [List.length_append, hdr0_len, low4_len]
theorem hdr0_lt (f b : Nat) : ∀ x ∈ hdr0 f b, x < 256 := by
  intro x hx
  simp only [hdr0, List.mem_append, List.mem_cons, List.not_mem_nil, or_false] at hx
  rcases hx with ((rfl | rfl | rfl | rfl | rfl) | hx) | hx
  all_goals first | omega | exact bigTo_lt _ _ _ x hx
theorem hdr_lt (f b : Nat) : ∀ x ∈ hdr f b, x < 256 := by
  intro x hx
  rcases List.mem_append.1 hx with hx | hx
  · exact hdr0_lt f b x hx
  · exact low4_lt _ (sum_lt _ (hdr0_lt f b)) x hx
theorem magic_cells (w w' : World) (C : Array Value) (fr : Nat × Nat) (hC : C = #[.int .u8 81, .int .u8 76, .int .u8 79, .int .u8 71]) (hw : (w.alloc (.cells C 5 fr)).grownBy w' none) :
    ∀ b, some (⟨w.heap.size, 0, none⟩ : Addr) = some b → ∀ j u, (vals [81, 76, 79, 71])[j]? = some u → w'.cell? (b.add j) = some u := by
  intro b hb j u hj
  cases hb
  rw [add_at, Nat.zero_add]
  refine hw.cell ?_ (by simp)
  rw [World.cell?_alloc_mark, hC]
  match j, hj with
  | 0, hj => simpa [vals] using hj
  | 1, hj => simpa [vals] using hj
  | 2, hj => simpa [vals] using hj
  | 3, hj => simpa [vals] using hj
  | j + 4, hj => simp [vals] at hj

theorem one_behind (w : World) (o : Obj) : ∀ j u, [Value.int .u8 1][j]? = some u → ((w.alloc o).alloc (.cells #[.int .u8 1] 5)).cell? ((⟨w.heap.size + 1, 0, none⟩ : Addr).add j) = some u := by
  intro j u hj
  match j, hj with
  | 0, hj => simp at hj; subst hj; simp [Addr.add]
  | j + 1, hj => simp at hj

set_option maxRecDepth 10000 in
set_option maxHeartbeats 800000 in
theorem appendHeader_any (file base : Nat) (w : World) (h0 : 0 < w.heap.size) (hT : Table w) (hb : base ≤ 64) :
    Calls Tryz.prog 66 #[.slice none 0 0, .int .u64 file, .int .i64 base] w fun e w' => ∃ v', e = .returned v' ∧ Owns w.heap.size w' v' (hdr file base) ∧ Below w.heap.size w w' := by
  obtain ⟨i0, hi, hz0, hz1, hz2⟩ := info_parts Tryz.info5
  have kc := fun (w : World) (C : Array Value) (n c : Nat) => Lib.run_convert_bytes_const (P := Tryz.prog) w 37 5 C n c Tryz.underlying37 Tryz.underlying5
  have HT := hide hT
  clear hT
  go_enter Tryz.func66, Tryz.ntmps66
  go_wp2_with (first
    | (at_builtin; refine wpList_append_grows _ rfl (.tmp 9) (.tmp 10) 37 rfl 5 i0 (.int .u8 0) 1 1 Tryz.underlying37 hi hz0 hz1 hz2 rfl (by omega) (some ⟨w.heap.size, 0, none⟩) 4 4 (vals [81, 76, 79, 71]) rfl (fun h => by cases h) rfl (magic_cells w _ _ _ rfl (World.grownBy_alloc _ _ _)) ⟨w.heap.size + 1, 0, none⟩ 1 1 [.int .u8 1] rfl rfl (one_behind _ _) (Shade.one _ rfl) (by omega) (by unfold maxLen; omega) (by omega) ?_; intro v1 w1 hown1 hgrow1))
  have HO1 : Hid (Owns w.heap.size w1 v1 [81, 76, 79, 71, 1]) := by
    refine Owns.lower (b := ((w.alloc (.cells #[.int .u8 81, .int .u8 76, .int .u8 79, .int .u8 71] 5 (4, 5))).alloc (.cells #[.int .u8 1] 5)).heap.size) ⟨hown1, by simp, by simp⟩ (by simp; omega)
  have HB1 : Hid (Below w.heap.size w w1) := (((Below.refl _ _).alloc (Nat.le_refl _) _).alloc (by simp) _).grown hgrow1 (by simp; omega) (fun k h => by cases h)
  clear hown1 hgrow1 kc
  go_wp2_with fail
  refine (appendHigh_any w.heap.size file 8 v1 _ _ _ w1 rfl rfl (by omega) HO1.out (by simp) HB1.out.size).mono ?_
  rintro e w2 ⟨v2, rfl, ho2, he2⟩
  have HO2 := hide ho2
  have HB2 : Hid (Below w.heap.size w w2) := HB1.out.grown he2.1 HB1.out.size (fun k h => (HO1.out.1.lt k h).1)
  clear ho2 he2 HO1 HB1
  go_wp2_with fail
  refine (appendHigh_any w.heap.size base 4 v2 _ _ _ w2 rfl rfl (by omega) HO2.out (by simp [big, big_len]) HB2.out.size).mono ?_
  rintro e w3 ⟨v3, rfl, ho3, he3⟩
  have HO3 : Hid (Owns w.heap.size w3 v3 (hdr0 file base)) := ho3
  have HB3 : Hid (Below w.heap.size w w3) := HB2.out.grown he3.1 HB2.out.size (fun k h => (HO2.out.1.lt k h).1)
  clear ho3 he3 HO2 HB2
  obtain ⟨a3, c3, hv3, hs3, _⟩ := HO3.out.form
  subst hv3
  rw [hdr0_len] at hs3 HO3 ⊢
  obtain ⟨ad3, ha3, hc3⟩ := shows_cells hs3 (by omega)
  subst ha3
  have HS3 := hide hs3
  have HC3 := hide hc3
  clear hs3 hc3
  go_wp2_with (first
    | (at_builtin; refine wpList_append_ext _ rfl (.tmp 19) (.tmp 20) 37 rfl w.heap.size 5 i0 (.int .u8 0) Tryz.underlying37 hi hz0 hz1 hz2 rfl (.slice none 0 0) 0 [] rfl (World.ownsRow_nil _ _ _ _) ad3 17 c3 (vals (hdr0 file base)) rfl (by rw [vals_len, hdr0_len]) HC3.out (vals_one' _) (by omega) (by omega) HB3.out.size ?_; intro v4 w4 hown4 hext4))
  have HO4 : Hid (Owns w.heap.size w4 v4 (hdr0 file base)) := ⟨by rw [hdr0_len]; simpa using hown4, hdr0_lt _ _, by rw [hdr0_len]; omega⟩
  have HB4 : Hid (Below w.heap.size w w4) := HB3.out.grown hext4.1 HB3.out.size (fun k h => by cases h)
  have HS4 := hide (HS3.out.kept hext4.1 (fun g hg => by cases hg))
  clear hown4 hext4 HO3 HB3 HS3 HC3
  go_wp2_with fail
  refine (appendSum_any HO4.out (by rw [hdr0_len]; omega) HB4.out.size HS4.out (HT.out.below HB4.out h0)).mono ?_
  rintro e w5 ⟨v5, rfl, ho5, he5⟩
  have HB5 : Hid (Below w.heap.size w w5) := HB4.out.grown he5.1 HB4.out.size (fun k h => (HO4.out.1.lt k h).1)
  have HO5 : Hid (Owns w.heap.size w5 v5 (hdr file base)) := ho5
  clear ho5 he5 HO4 HB4 HS4
  go_wp2
  go_ret
  exact ⟨_, rfl, HO5.out, HB5.out⟩

/-- Has that segment a header with that base? -/
def hdOk (file base : Nat) : Prop := (0 < file ∧ file ≤ 4611686018427387904) ∧ base ≤ 64
set_option maxRecDepth 10000 in
set_option maxHeartbeats 800000 in
theorem header_ok (file base : Nat) (w : World) (h0 : 0 < w.heap.size) (hT : Table w) (h : hdOk file base) :
    Calls Tryz.prog 70 #[.int .u64 file, .int .i64 base] w fun e w' => ∃ v', e = .returned (.tuple #[v', .nilIface]) ∧ Owns w.heap.size w' v' (hdr file base) ∧ Below w.heap.size w w' := by
  obtain ⟨⟨h1, h2⟩, h3⟩ := h
  have HA := hide (appendHeader_any file base w h0 hT h3)
  have e0 : ((file : Int) == 0) = false := by simp; omega
  clear hT
  go_enter Tryz.func70, Tryz.ntmps70
  go_wp2_with fail
  refine HA.out.mono ?_
  rintro e w5 ⟨v5, rfl, ho5, hb5⟩
  have HO5 := hide ho5
  have HB5 := hide hb5
  clear ho5 hb5
  go_wp2
  go_ret2
  exact ⟨_, rfl, HO5.out, HB5.out⟩
/-- Why it has none. -/
def hdNo (file : Nat) : Int := if 0 < file ∧ file ≤ 4611686018427387904 then 169 else 1
set_option maxRecDepth 10000 in
set_option maxHeartbeats 800000 in
theorem header_no (file : Nat) (base : Int) (w : World) (hf : file < 18446744073709551616) (h : ¬ ((0 < file ∧ file ≤ 4611686018427387904) ∧ 0 ≤ base ∧ base ≤ 64)) :
    Calls Tryz.prog 70 #[.int .u64 file, .int .i64 base] w fun e w' => ∃ v', e = .returned (.tuple #[.slice none 0 0, v']) ∧ WFault w' v' 0 (hdNo file) ∧ Below w.heap.size w w' := by
  by_cases h1 : 0 < file ∧ file ≤ 4611686018427387904
  · have HN : Hid (hdNo file = 169) := by show _ = _; unfold hdNo; rw [if_pos h1]
    have h2 : base < 0 ∨ 64 < base := by omega
    obtain ⟨h3, h4⟩ := h1
    rw [HN.out]
    have e0 : ((file : Int) == 0) = false := by simp; omega
    clear h HN
    rcases h2 with h2 | h2
    · go_enter Tryz.func70, Tryz.ntmps70
      go_wp2_with fail
      refine (refusalW _ _ _).mono ?_
      rintro e w2 ⟨v, rfl, rfl, hf, hb⟩
      go_wp2
      go_ret2
      exact ⟨_, rfl, hf, hb⟩
    · go_enter Tryz.func70, Tryz.ntmps70
      go_wp2_with fail
      refine (refusalW _ _ _).mono ?_
      rintro e w2 ⟨v, rfl, rfl, hf, hb⟩
      go_wp2
      go_ret2
      exact ⟨_, rfl, hf, hb⟩
  · have HN : Hid (hdNo file = 1) := by show _ = _; unfold hdNo; rw [if_neg h1]
    rw [HN.out]
    clear h HN
    have h2 : file = 0 ∨ 4611686018427387904 < file := by omega
    clear h1
    rcases h2 with rfl | h2
    · go_enter Tryz.func70, Tryz.ntmps70
      go_wp2_with fail
      refine (refusalW _ _ _).mono ?_
      rintro e w2 ⟨v, rfl, rfl, hf, hb⟩
      go_wp2
      go_ret2
      exact ⟨_, rfl, hf, hb⟩
    · have e0 : ((file : Int) == 0) = false := by simp; omega
      go_enter Tryz.func70, Tryz.ntmps70
      go_wp2_with fail
      refine (refusalW _ _ _).mono ?_
      rintro e w2 ⟨v, rfl, rfl, hf, hb⟩
      go_wp2
      go_ret2
      exact ⟨_, rfl, hf, hb⟩
end Go.Proofs.YtcagbggnlfeadaaGreatDoor
