import Derived.Test.YtofddonhoakicaaDoorWLd
namespace Go.Proofs.YtofddonhoakicaaDoor
open Go.RowKit Crc

theorem tot_le (Ls : List (List Nat)) (h : ∀ B ∈ Ls, B.length ≤ 60000) : tot Ls ≤ 60016 * Ls.length := by
  induction Ls with
  | nil => simp [tot]
  | cons C r ih =>
    have h1 := h C (by simp)
    have h2 := ih (fun B hB => h B (by simp [hB]))
    simp only [List.length_cons, tot]; omega
def LitR (Ls : List (List Nat)) (n : Nat) (x : Int) : Prop := (∀ B ∈ Ls, B.length ≤ 60000) → x = 268435392 - (tot (Ls.take n) : Int)
def LitOut (Ls : List (List Nat)) (w : World) (e : Ending) (w' : World) : Prop := ∃ r, e = .returned (.bool r) ∧ ((∀ B ∈ Ls, B.length ≤ 60000) → r = decide (tot Ls ≤ 268435392)) ∧ w' = w
set_option maxRecDepth 10000 in
set_option maxHeartbeats 1600000 in
theorem little_any {lim : Nat} {w : World} {ao : Option Addr} {g n cap : Nat} {Ls : List (List Nat)} (h : ShowsL lim w ao n cap Ls) (k3 : w.cell? ⟨g, 3, none⟩ = some (.slice none 0 0)) (k5 : w.cell? ⟨g, 5, none⟩ = some (.slice ao n cap)) :
    Calls Tryd.prog 5 #[.slice (some ⟨g, 0, none⟩) 1 1] w fun e w' => LitOut Ls w e w' := by
  obtain ⟨p1, _, p3, b, off, p5, _, p7⟩ := h
  have HN := hide p1
  have P5 := hide p5
  have P7 := hide p7
  clear p1 p5 p7
  go_enter Tryd.func5, Tryd.ntmps5
  go_wp2
  go_loopw [3, 4] (fun l i wr => ∃ (x : Int) (j : Nat), l = .int .i64 x ∧ i = .int .i64 j ∧ Hid (wr = w) ∧ (j = 0 ∧ x = 268435456 ∨ j = 1 ∧ 0 ≤ x ∧ Hid (LitR Ls n x))) (fun _ i _ => 1 - (intOf i).toNat)
  case atStart => exact ⟨268435456, 0, rfl, rfl, rfl, .inl ⟨rfl, rfl⟩⟩
  case round =>
    obtain ⟨x, j, rfl, rfl, HW, hor⟩ := hrel
    rcases hor with ⟨rfl, rfl⟩ | ⟨rfl, hx, HX⟩
    · have hw := HW.out
      subst hw
      go_wp2
      go_loopw [3, 5] (fun l i wr2 => ∃ (x : Int) (j : Nat), j ≤ n ∧ l = .int .i64 x ∧ i = .int .i64 j ∧ -9223372036854775808 ≤ x ∧ x ≤ 9223372036854775807 ∧ Hid (wr2 = wr) ∧ Hid (LitR Ls j x)) (fun _ i _ => n - (intOf i).toNat)
      case atStart => exact ⟨268435392, 0, by omega, by go_num, rfl, by omega, by omega, rfl, fun _ => by simp [tot]⟩
      case round =>
        obtain ⟨x, j, hj, rfl, rfl, hx1, hx2, HW2, HL⟩ := hrel
        have hw := HW2.out
        subst hw
        by_cases hlt : j < n
        · obtain rfl := P5.out (by omega)
          obtain ⟨ax, mx, cx, kx, sx⟩ := P7.out j hlt
          have hm : mx ≤ 140737488355328 := sx.2.2.1
          have HSX := hide sx
          clear sx
          go_wp2
          go_roundw
          case rel =>
            refine ⟨_, j + 1, by omega, rfl, by go_num, ?_, ?_, trivial, fun h6 => ?_⟩
            · unfold wrap64; omega
            · unfold wrap64; omega
            · have h1 := HL.out h6
              have h2 := tot_getD Ls j (by have := HN.out; omega)
              rw [h2, ← HSX.out.1]
              have h4 := h6 _ (mem_getD (Ls := Ls) (k := j) (by have := HN.out; omega))
              rw [← HSX.out.1] at h4
              have h5 := tot_le (Ls.take (j + 1)) (fun B hB => h6 B (List.mem_of_mem_take hB))
              rw [h2, ← HSX.out.1, List.length_take] at h5
              have h7 : min (j + 1) Ls.length ≤ j + 1 := Nat.min_le_left _ _
              generalize tot (Ls.take j) = t at *
              unfold wrap64
              omega
          case measure => simp [intOf]; omega
        · have HJ : Hid (j = n) := by show _ = _; omega
          have HL2 := hide HL.out
          clear HL HW HW2
          by_cases hx0 : x < 0
          · go_wp2
            go_ret
            refine ⟨_, rfl, fun h6 => ?_, rfl⟩
            have := HL2.out h6
            rw [HJ.out, List.take_of_length_le (by have := HN.out; omega)] at this
            simp
            omega
          · go_wp2
            go_roundw
            case rel =>
              refine ⟨x, 1, rfl, rfl, trivial, .inr ⟨rfl, by omega, ?_⟩⟩
              have := HL2.out
              rw [HJ.out] at this
              exact this
            case measure => simp [intOf]
    · go_wp2
      go_ret
      have hw := HW.out
      refine ⟨_, rfl, fun h6 => ?_, hw⟩
      have := HX.out h6
      rw [List.take_of_length_le (by have := HN.out; omega)] at this
      simp
      omega
end Go.Proofs.YtofddonhoakicaaDoor
