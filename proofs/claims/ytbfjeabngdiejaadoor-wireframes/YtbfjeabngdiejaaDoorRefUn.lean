import Derived.Test.YtbfjeabngdiejaaDoorRefFrame
namespace Go.Proofs.YtbfjeabngdiejaaDoor
open Go.RowKit Crc

theorem hi2 (B : List Nat) (h : 2 ≤ B.length) : hi (B.take 2) = B.getD 0 0 * 256 + B.getD 1 0 := by
  match B, h with
  | a :: b :: r, _ => simp [hi]
theorem hi4 (B : List Nat) (h : 8 ≤ B.length) : hi ((B.drop 4).take 4) = ((B.getD 4 0 * 256 + B.getD 5 0) * 256 + B.getD 6 0) * 256 + B.getD 7 0 := by
  match B, h with
  | _ :: _ :: _ :: _ :: a :: b :: c :: d :: r, _ => simp [hi]

def badV (p : Nat × Nat) : Value := .tuple #[.int .i64 0, .slice none 0 0, .agg #[.int .i64 (p.2 : Int), .int .i64 (p.1 : Int)]]

set_option maxHeartbeats 400000 in
theorem un_long (ao : Option Addr) (n cap : Nat) (w : World) (h : 65507 < n) (hl : n ≤ 140737488355328) :
    Calls Tryd.prog 23 #[.slice ao n cap] w fun e w' => e = .returned (badV (65507, 21)) ∧ Below w.heap.size w w' := by
  have h' : decide ((65507 : Int) < (n : Int)) = true := by simp; omega
  go_enter Tryd.func23, Tryd.ntmps23
  go_wp2_with fail
  refine bodyPost_ret (v := badV (65507, 21)) (by simp [badV, results, Tryd.results23, go_sem]) rfl ⟨rfl, ?_⟩
  repeat (first | exact Below.refl _ _ | exact Nat.le_refl _ | apply Below.setCell | apply Below.alloc)
set_option maxHeartbeats 400000 in
theorem un_short (ao : Option Addr) (n cap : Nat) (w : World) (h : n < 12) :
    Calls Tryd.prog 23 #[.slice ao n cap] w fun e w' => e = .returned (badV (n, 20)) ∧ Below w.heap.size w w' := by
  have h' : decide ((65507 : Int) < (n : Int)) = false := by simp; omega
  have h2 : decide ((n : Int) < 12) = true := by simp; omega
  go_enter Tryd.func23, Tryd.ntmps23
  go_wp2_with fail
  refine bodyPost_ret (v := badV (n, 20)) (by simp [badV, results, Tryd.results23, go_sem]) rfl ⟨rfl, ?_⟩
  repeat (first | exact Below.refl _ _ | exact Nat.le_refl _ | apply Below.setCell | apply Below.alloc)

set_option maxHeartbeats 800000 in
theorem un_magic (b off : Nat) (n cap m0 m1 : Nat) (w : World) (hbw : b < w.heap.size) (h12 : 12 ≤ n) (hl : n ≤ 65507) (k0 : w.cell? ⟨b, off, none⟩ = some (.int .u8 (m0 : Int))) (k1 : w.cell? ⟨b, off + 1, none⟩ = some (.int .u8 (m1 : Int))) (hm : ¬ (m0 = 81 ∧ m1 = 77)) :
    Calls Tryd.prog 23 #[.slice (some ⟨b, off, none⟩) n cap] w fun e w' => e = .returned (badV (0, 22)) ∧ Below w.heap.size w w' := by
  have h' : decide ((65507 : Int) < (n : Int)) = false := by simp; omega
  have h2 : decide ((n : Int) < 12) = false := by simp; omega
  by_cases e0 : m0 = 81
  · have c0 : ((m0 : Int) != 81) = false := by simp; omega
    have c1 : ((m1 : Int) != 77) = true := by simp; omega
    clear hm e0
    go_enter Tryd.func23, Tryd.ntmps23
    go_wp2_with fail
    refine bodyPost_ret (v := badV (0, 22)) (by simp [badV, results, Tryd.results23, go_sem]) rfl ⟨rfl, ?_⟩
    repeat (first | exact Below.refl _ _ | exact Nat.le_refl _ | apply Below.setCell | apply Below.alloc)
  · have c0 : ((m0 : Int) != 81) = true := by simp; omega
    clear hm e0
    go_enter Tryd.func23, Tryd.ntmps23
    go_wp2_with fail
    refine bodyPost_ret (v := badV (0, 22)) (by simp [badV, results, Tryd.results23, go_sem]) rfl ⟨rfl, ?_⟩
    repeat (first | exact Below.refl _ _ | exact Nat.le_refl _ | apply Below.setCell | apply Below.alloc)
end Go.Proofs.YtbfjeabngdiejaaDoor
