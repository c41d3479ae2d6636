import Derived.Test.YtofddonhoakicaaDoorWSc
namespace Go.Proofs.YtofddonhoakicaaDoor
open Go.RowKit Crc

set_option maxRecDepth 10000 in
set_option maxHeartbeats 800000 in
theorem sameAll_any {l1 l2 : Nat} {w : World} {a1 a2 : Option Addr} {n1 n2 c1 c2 : Nat} {Ls : List (List Nat)} (h1 : ShowsL l1 w a1 n1 c1 Ls) (h2 : ShowsL l2 w a2 n2 c2 Ls) :
    Calls Tryd.prog 9 #[.slice a1 n1 c1, .slice a2 n2 c2] w fun e w' => e = .returned (.bool true) ∧ ∃ q, w' = w.drewN q := by
  obtain ⟨p1, _, p3, b1, o1, p5, _, p7⟩ := h1
  obtain ⟨q1, _, _, b2, o2, q5, _, q7⟩ := h2
  obtain rfl : n1 = n2 := by omega
  have P5 := hide p5
  have Q5 := hide q5
  have P7 := hide p7
  have Q7 := hide q7
  clear p1 p5 q5 p7 q7 q1
  go_enter Tryd.func9, Tryd.ntmps9
  go_wp2
  go_loopw [5] (fun i wr => ∃ k : Nat, k ≤ n1 ∧ i = .int .i64 k ∧ Hid (∃ q, wr = w.drewN q)) (fun i _ => n1 - (intOf i).toNat)
  case atStart => exact ⟨0, by omega, rfl, 0, rfl⟩
  case round =>
    obtain ⟨k, hk, rfl, HQ⟩ := hrel
    by_cases hlt : k < n1
    · obtain rfl := P5.out (by omega)
      obtain rfl := Q5.out (by omega)
      obtain ⟨ax, mx, cx, hx, sx⟩ := P7.out k hlt
      obtain ⟨ay, my, cy, hy, sy⟩ := Q7.out k hlt
      have hx' : wr.cell? ⟨b1, o1 + k, none⟩ = some (.slice ax mx cx) := by obtain ⟨q, h⟩ := HQ.out; rw [h]; exact hx
      have hy' : wr.cell? ⟨b2, o2 + k, none⟩ = some (.slice ay my cy) := by obtain ⟨q, h⟩ := HQ.out; rw [h]; exact hy
      have HS : Hid (∀ q', Calls Tryd.prog 13 #[.slice ax mx cx, .slice ay my cy] (wr.drewN q') fun e w' => e = .returned (.bool true) ∧ ∃ q2, w' = (wr.drewN q').drewN q2) := by
        intro q'
        obtain ⟨q, h⟩ := HQ.out
        have g : w.grownBy wr none := by rw [h]; exact drew_grown w q
        exact same_any ((sx.kept g (fun g h => by cases h)).kept (drew_grown _ q') (fun g h => by cases h)) ((sy.kept g (fun g h => by cases h)).kept (drew_grown _ q') (fun g h => by cases h))
      clear sx sy hx hy
      go_wp2
      go_quiet (first | (go_at_call 13; exact Calls.quiet_of (HS.out _)))
      go_wp2
      go_roundw
      case rel =>
        obtain ⟨q, h⟩ := HQ.out
        exact ⟨k + 1, by omega, by go_num, _, by rw [h]; exact World.drewN_drewN _ _ _⟩
      case measure => simp [intOf]; omega
    · have HQ2 := hide HQ.out
      clear HQ
      go_wp2
      go_ret
      exact ⟨rfl, HQ2.out⟩
end Go.Proofs.YtofddonhoakicaaDoor
