import Derived.Test.YtofddonhoakicaaDoorWAp
namespace Go.Proofs.YtofddonhoakicaaDoor
open Go.RowKit Crc

def Grw (W0 : World) (a : Option Addr) (L m : Nat) (c : Value) (W : World) : Prop := (m = 0 ∧ c = .slice a L L ∧ W = W0 ∨ ∃ B, B.length = L + m ∧ Owns W0.heap.size W c B) ∧ Below W0.heap.size W0 W
set_option maxRecDepth 10000 in
set_option maxHeartbeats 4000000 in
theorem apart_any {base : Nat} {w : World} {ao : Option Addr} {n c : Nat} {xs : List Value} {Ls : List (List Nat)} (h : OwnL base w (.slice ao n c) xs Ls) (hn : Ls.length = n) (hl : n ≤ 1099511627776) (hb : base ≤ w.heap.size) (h4 : ∀ j, (Ls.getD j []).length ≤ 1099511627776) :
    Calls Tryd.prog 18 #[.slice ao n c] w fun e w' => e = .returned (.bool true) ∧ Below base w w' := by
  obtain ⟨i0, hi, hz0, hz1, hz2⟩ := info_parts Tryd.info5
  have H0 : Hid (Fil base w (.slice ao n c) xs n 0 0 Ls w) := ⟨Ls, h, hn, Below.refl _ _, fun _ => rfl, fun j hj => by omega, fun m hm => by omega⟩
  have HL := hide h4
  clear h hn h4
  go_enter Tryd.func18, Tryd.ntmps18
  go_wp2
  go_loopw [3] (fun s wr => ∃ i : Nat, i ≤ n ∧ s = .int .i64 i ∧ Hid (Fil base w (.slice ao n c) xs n i 0 Ls wr)) (fun s _ => n - (intOf s).toNat)
  case atStart => exact ⟨0, by omega, rfl, H0⟩
  case round =>
    obtain ⟨i, hin, rfl, HF⟩ := hrel
    clear H0
    by_cases hlt : i < n
    · obtain ⟨gr, rfl, -⟩ := HF.out.row hlt
      go_wp2
      go_loopw [4] (fun s wr2 => ∃ k : Nat, k ≤ (Ls.getD i []).length ∧ s = .int .i64 k ∧ Hid (Fil base w (.slice (some ⟨gr, 0, none⟩) n c) xs n i k Ls wr2)) (fun s _ => (Ls.getD i []).length - (intOf s).toNat)
      case atStart => exact ⟨0, by omega, rfl, HF⟩
      case round =>
        obtain ⟨k, hk, rfl, HF2⟩ := hrel
        clear HF
        obtain ⟨gr', e, a, L, p1, p2, p3⟩ := HF2.out.row hlt
        cases e
        have hL40 := HL.out i
        have HP3 := hide p3
        rw [← p3] at hk hL40
        clear p3
        by_cases hkl : k < L
        · obtain ⟨g, rfl, ⟨u, p5⟩, p6, HFN⟩ := HF2.out.put hlt p2 hkl
          obtain ⟨r, hr⟩ : ∃ r, r = i % 200 := ⟨_, rfl⟩
          rw [← hr] at HFN
          have e4 : (i : Int) % 200 = (r : Int) := by omega
          have hr2 : r < 200 := by omega
          have HFN' := hide HFN
          have HP2 := hide p2
          clear HFN hr p2 HF2
          go_wp2
          go_roundw
          case rel => exact ⟨k + 1, by rw [← HP3.out]; omega, by go_num, HFN'.out⟩
          case measure => rw [← HP3.out]; simp [intOf]; omega
        · have HN := hide (HF2.out.next (by rw [← HP3.out]; omega))
          clear HF2 p2
          go_wp2
          go_roundw
          case rel => exact ⟨i + 1, by omega, by go_num, HN.out⟩
          case measure => simp [intOf]; omega
    · have HA : Hid (Fil base w (.slice ao n c) xs n n 0 Ls wr) := by
        have := HF.out
        rw [show i = n by omega] at this
        exact this
      clear HF
      go_wp2
      go_loopw [5] (fun s wr2 => ∃ i : Nat, i ≤ n ∧ s = .int .i64 i ∧ Hid (Fil base w (.slice ao n c) xs n n 0 Ls wr2)) (fun s _ => n - (intOf s).toNat)
      case atStart => exact ⟨0, by omega, rfl, HA⟩
      case round =>
        obtain ⟨i, hin, rfl, HF⟩ := hrel
        clear HA
        by_cases hlt : i < n
        · obtain ⟨gr, rfl, a, L, p1, p2, p3⟩ := HF.out.row hlt
          obtain ⟨B0, q1, q2, q3, q4, q5⟩ := HF.out.own hlt p2
          have hL40 := HL.out i
          rw [← p3] at hL40
          have Q1 := hide q1
          have Q2 := hide q2
          have Q4 := hide q4
          have Q5 := hide q5
          clear p2 p3 q1 q2 q4 q5
          rename World => W2
          go_wp2
          go_loopw [6, 7] (fun v s wr3 => ∃ m : Nat, m ≤ 64 ∧ s = .int .i64 m ∧ Hid (Grw W2 a L m v wr3)) (fun _ s _ => 64 - (intOf s).toNat)
          case atStart => exact ⟨0, by omega, rfl, .inl ⟨rfl, rfl, rfl⟩, Below.refl _ _⟩
          case round =>
            obtain ⟨m, hm, rfl, HG⟩ := hrel
            by_cases hm6 : m < 64
            · rcases HG.out.1 with ⟨rfl, hv, hw⟩ | ⟨B, hB, hO⟩
              · subst hv hw
                clear HG
                have HHO : Hid (∀ b, a = some b → ∀ j u, (vals B0)[j]? = some u → (wr.alloc (.cells #[.int .u8 241] 5)).cell? (b.add j) = some u) := fun b hb j u hj => (World.grownBy_alloc _ _ none).cell (Q5.out b hb j u hj) (by simp)
                go_wp2_with (first
                  | (at_builtin; go_loud (refine wpList_append_grows _ rfl (.tmp 48) (.tmp 49) 25 rfl 5 i0 (.int .u8 0) 1 1 Tryd.underlying25 hi hz0 hz1 hz2 rfl (by omega) a L L (vals B0) rfl Q4.out (by rw [vals_len, Nat.mul_one]; exact Q1.out.symm) HHO.out ⟨wr.heap.size, 0, none⟩ 1 1 [.int .u8 241] rfl rfl (cell_one_new _ _ _) (Shade.one _ rfl) (by omega) (by unfold maxLen; omega) (by omega) ?_; intro v1 w1 hown1 hgrow1)))
                go_roundw
                case rel =>
                  refine ⟨1, by omega, by go_num, .inr ⟨B0 ++ [241], by simp; exact Q1.out.symm, ?_⟩, ((Below.refl _ _).alloc (Nat.le_refl _) _).grown hgrow1 (by simp) (fun k h => by cases h)⟩
                  refine Owns.lower (b := (wr.alloc (.cells #[.int .u8 241] 5)).heap.size) ⟨?_, ?_, ?_⟩ (by simp)
                  · rw [vals_append, List.length_append, ← Q1.out]; exact hown1
                  · intro x hx
                    rcases List.mem_append.1 hx with hx | hx
                    · exact Q2.out x hx
                    · simp at hx; omega
                  · rw [List.length_append, ← Q1.out]; simp; omega
                case measure => simp [intOf]
              · have HO := hide hO
                have HBL := hide hB
                have HBw := hide HG.out.2
                clear hO hB HG
                go_wp2_with (first
                  | (at_builtin; go_loud (refine wpList_append_ext _ rfl (.tmp 48) (.tmp 49) 25 rfl W2.heap.size 5 i0 (.int .u8 0) Tryd.underlying25 hi hz0 hz1 hz2 rfl u6 B.length (vals B) rfl (HO.out.1.alloc _) ⟨wr.heap.size, 0, none⟩ 1 1 [.int .u8 241] rfl rfl (cell_one_new _ _ _) (Shade.one _ rfl) (by omega) (by rw [HBL.out]; omega) (by have := HBw.out.size; simp; omega) ?_; intro v1 w1 hown1 hext1)))
                go_roundw
                case rel =>
                  refine ⟨m + 1, by omega, by go_num, .inr ⟨B ++ [241], by simp; have := HBL.out; omega, ?_⟩, (HBw.out.alloc HBw.out.size _).grown hext1.1 (by have := HBw.out.size; simp; omega) (fun k h => (HO.out.1.lt k h).1)⟩
                  exact HO.out.snoc (by omega) (by rw [HBL.out]; omega) hown1
                case measure => simp [intOf]; omega
            · have HN := hide (HF.out.quiet HG.out.2 hb)
              clear HF HG
              go_wp2
              go_roundw
              case rel => exact ⟨i + 1, by omega, by go_num, HN.out⟩
              case measure => simp [intOf]; omega
        · have HA : Hid (Fil base w (.slice ao n c) xs n n 0 Ls wr) := HF.out
          clear HF
          rename World => W3
          go_wp2
          go_loopw [8] (fun s wr3 => ∃ i : Nat, i ≤ n ∧ s = .int .i64 i ∧ Hid (wr3 = W3)) (fun s _ => n - (intOf s).toNat)
          case atStart => exact ⟨0, by omega, rfl, rfl⟩
          case round =>
            obtain ⟨i, hin, rfl, HW⟩ := hrel
            have hw := HW.out
            subst hw
            clear HW
            by_cases hlt : i < n
            · obtain ⟨gr, rfl, a, L, p1, p2, p3⟩ := HA.out.row hlt
              have hL40 := HL.out i
              rw [← p3] at hL40
              have HP2 := hide p2
              clear p2 p3
              go_wp2
              go_loopw [9] (fun s wr4 => ∃ k : Nat, k ≤ L ∧ s = .int .i64 k ∧ Hid (wr4 = wr)) (fun s _ => L - (intOf s).toNat)
              case atStart => exact ⟨0, by omega, rfl, rfl⟩
              case round =>
                obtain ⟨k, hk, rfl, HW⟩ := hrel
                have hw := HW.out
                subst hw
                clear HW
                by_cases hkl : k < L
                · obtain ⟨g, rfl, p5⟩ := HA.out.byte hlt HP2.out hkl
                  obtain ⟨r, hr⟩ : ∃ r, r = i % 200 := ⟨_, rfl⟩
                  rw [← hr] at p5
                  have e4 : (i : Int) % 200 = (r : Int) := by omega
                  have hr2 : r < 200 := by omega
                  clear hr
                  go_wp2
                  go_roundw
                  case rel => exact ⟨k + 1, by omega, by go_num, trivial⟩
                  case measure => simp [intOf]; omega
                · go_wp2
                  go_roundw
                  case rel => exact ⟨i + 1, by omega, by go_num, trivial⟩
                  case measure => simp [intOf]; omega
            · have HB : Hid (Below base w wr) := by obtain ⟨_, _, _, h, _⟩ := HA.out; exact h
              clear HA
              go_wp2
              go_ret
              exact ⟨rfl, HB.out⟩
end Go.Proofs.YtofddonhoakicaaDoor
