import Derived.Test.YtidhondcfagoaaaDoorM44
import Derived.BigRegion
namespace Go.Proofs.YtidhondcfagoaaaDoor
open Go.RowKit Crc

/-- The fields of each kind. -/
def mfOf (k : Nat) : List Mf := match k with
  | 1 => [.seq, .command]
  | 2 => [.seq, .stamp, .outcome, .result]
  | 3 => [.ballot]
  | 4 => [.ballot, .low, .votes]
  | 5 => [.ballot, .low]
  | 6 => [.ballot, .slot, .batch]
  | 7 => [.ballot, .slot, .batch]
  | 8 => [.ballot, .slot, .suspect]
  | 9 => [.slot, .index]
  | 10 => [.slot, .index, .total, .root, .chunk, .path]
  | _ => []
def frvM (p : Nat) : Value := .iface 56 (.pointer (some ⟨p, 0, none⟩))
def MlPost (fs : List Mf) (p : Nat) (w : World) (e : Ending) (w' : World) : Prop := e = .returned (.slice (some ⟨w.heap.size, 0, none⟩) fs.length fs.length) ∧ Hid (w'.heap[w.heap.size]? = some (.cells (fs.map fun f => mv f.name (frvM p)).toArray 1 (0, 0)) ∧ Below w.heap.size w w')
set_option maxRecDepth 10000 in
set_option maxHeartbeats 800000 in
theorem msgList_1 (p : Nat) (w : World) : Calls Tryd.prog 16 #[.int .i64 1, .iface 56 (.pointer (some ⟨p, 0, none⟩))] w (MlPost (mfOf 1) p w) := by
  have hmf := mk_func
  unfold MlPost
  go_enter Tryd.func16, Tryd.ntmps16
  go_wp2_with fail
  go_region
  all_goals
    go_wp2
    go_ret
    exact ⟨rfl, alloc_here w _, below_here w _⟩
set_option maxRecDepth 10000 in
set_option maxHeartbeats 800000 in
theorem msgList_2 (p : Nat) (w : World) : Calls Tryd.prog 16 #[.int .i64 2, .iface 56 (.pointer (some ⟨p, 0, none⟩))] w (MlPost (mfOf 2) p w) := by
  have hmf := mk_func
  unfold MlPost
  go_enter Tryd.func16, Tryd.ntmps16
  go_wp2_with fail
  go_region
  all_goals
    go_wp2
    go_ret
    exact ⟨rfl, alloc_here w _, below_here w _⟩
set_option maxRecDepth 10000 in
set_option maxHeartbeats 800000 in
theorem msgList_3 (p : Nat) (w : World) : Calls Tryd.prog 16 #[.int .i64 3, .iface 56 (.pointer (some ⟨p, 0, none⟩))] w (MlPost (mfOf 3) p w) := by
  have hmf := mk_func
  unfold MlPost
  go_enter Tryd.func16, Tryd.ntmps16
  go_wp2
  go_ret
  exact ⟨rfl, alloc_at _ _, below_alloc1 _ _⟩
set_option maxRecDepth 10000 in
set_option maxHeartbeats 800000 in
theorem msgList_4 (p : Nat) (w : World) : Calls Tryd.prog 16 #[.int .i64 4, .iface 56 (.pointer (some ⟨p, 0, none⟩))] w (MlPost (mfOf 4) p w) := by
  have hmf := mk_func
  unfold MlPost
  go_enter Tryd.func16, Tryd.ntmps16
  go_wp2_with fail
  go_region
  all_goals
    go_wp2
    go_ret
    exact ⟨rfl, alloc_here w _, below_here w _⟩
set_option maxRecDepth 10000 in
set_option maxHeartbeats 800000 in
theorem msgList_5 (p : Nat) (w : World) : Calls Tryd.prog 16 #[.int .i64 5, .iface 56 (.pointer (some ⟨p, 0, none⟩))] w (MlPost (mfOf 5) p w) := by
  have hmf := mk_func
  unfold MlPost
  go_enter Tryd.func16, Tryd.ntmps16
  go_wp2_with fail
  go_region
  all_goals
    go_wp2
    go_ret
    exact ⟨rfl, alloc_here w _, below_here w _⟩
set_option maxRecDepth 10000 in
set_option maxHeartbeats 800000 in
theorem msgList_6 (p : Nat) (w : World) : Calls Tryd.prog 16 #[.int .i64 6, .iface 56 (.pointer (some ⟨p, 0, none⟩))] w (MlPost (mfOf 6) p w) := by
  have hmf := mk_func
  unfold MlPost
  go_enter Tryd.func16, Tryd.ntmps16
  go_wp2_with fail
  go_region
  all_goals
    go_wp2
    go_ret
    exact ⟨rfl, alloc_here w _, below_here w _⟩
set_option maxRecDepth 10000 in
set_option maxHeartbeats 800000 in
theorem msgList_7 (p : Nat) (w : World) : Calls Tryd.prog 16 #[.int .i64 7, .iface 56 (.pointer (some ⟨p, 0, none⟩))] w (MlPost (mfOf 7) p w) := by
  have hmf := mk_func
  unfold MlPost
  go_enter Tryd.func16, Tryd.ntmps16
  go_wp2_with fail
  go_region
  all_goals
    go_wp2
    go_ret
    exact ⟨rfl, alloc_here w _, below_here w _⟩
set_option maxRecDepth 10000 in
set_option maxHeartbeats 800000 in
theorem msgList_8 (p : Nat) (w : World) : Calls Tryd.prog 16 #[.int .i64 8, .iface 56 (.pointer (some ⟨p, 0, none⟩))] w (MlPost (mfOf 8) p w) := by
  have hmf := mk_func
  unfold MlPost
  go_enter Tryd.func16, Tryd.ntmps16
  go_wp2_with fail
  go_region
  all_goals
    go_wp2
    go_ret
    exact ⟨rfl, alloc_here w _, below_here w _⟩
set_option maxRecDepth 10000 in
set_option maxHeartbeats 800000 in
theorem msgList_9 (p : Nat) (w : World) : Calls Tryd.prog 16 #[.int .i64 9, .iface 56 (.pointer (some ⟨p, 0, none⟩))] w (MlPost (mfOf 9) p w) := by
  have hmf := mk_func
  unfold MlPost
  go_enter Tryd.func16, Tryd.ntmps16
  go_wp2_with fail
  go_region
  all_goals
    go_wp2
    go_ret
    exact ⟨rfl, alloc_here w _, below_here w _⟩
set_option maxRecDepth 10000 in
set_option maxHeartbeats 800000 in
theorem msgList_10 (p : Nat) (w : World) : Calls Tryd.prog 16 #[.int .i64 10, .iface 56 (.pointer (some ⟨p, 0, none⟩))] w (MlPost (mfOf 10) p w) := by
  have hmf := mk_func
  unfold MlPost
  go_enter Tryd.func16, Tryd.ntmps16
  go_wp2_with fail
  go_region
  all_goals
    go_wp2
    go_ret
    exact ⟨rfl, alloc_here w _, below_here w _⟩
set_option maxRecDepth 10000 in
set_option maxHeartbeats 800000 in
theorem msgList_0 (k p : Nat) (hk : k < 1 ∨ 10 < k) (w : World) : Calls Tryd.prog 16 #[.int .i64 (k : Int), .iface 56 (.pointer (some ⟨p, 0, none⟩))] w fun e w' => e = .returned (.slice none 0 0) ∧ w' = w := by
  have h1 : ((k : Int) == 1) = false := by simp; omega
  have h2 : ((k : Int) == 2) = false := by simp; omega
  have h3 : ((k : Int) == 3) = false := by simp; omega
  have h4 : ((k : Int) == 4) = false := by simp; omega
  have h5 : ((k : Int) == 5) = false := by simp; omega
  have h6 : ((k : Int) == 6) = false := by simp; omega
  have h7 : ((k : Int) == 7) = false := by simp; omega
  have h8 : ((k : Int) == 8) = false := by simp; omega
  have h9 : ((k : Int) == 9) = false := by simp; omega
  have h10 : ((k : Int) == 10) = false := by simp; omega
  clear hk
  go_enter Tryd.func16, Tryd.ntmps16
  go_wp2
  go_ret
  exact ⟨rfl, rfl⟩
theorem mfOf_nodup (k : Nat) : (mfOf k).Nodup ∧ (mfOf k).length ≤ 6 := by
  by_cases h : k < 1 ∨ 10 < k
  · have e : mfOf k = [] := by unfold mfOf; split <;> first | omega | rfl
    rw [e]; exact ⟨List.nodup_nil, by simp⟩
  · have hk : k = 1 ∨ k = 2 ∨ k = 3 ∨ k = 4 ∨ k = 5 ∨ k = 6 ∨ k = 7 ∨ k = 8 ∨ k = 9 ∨ k = 10 := by omega
    rcases hk with rfl | rfl | rfl | rfl | rfl | rfl | rfl | rfl | rfl | rfl <;> exact ⟨by decide, by decide⟩
theorem msgList_any (k p : Nat) (hk : 1 ≤ k ∧ k ≤ 10) (w : World) : Calls Tryd.prog 16 #[.int .i64 (k : Int), .iface 56 (.pointer (some ⟨p, 0, none⟩))] w (MlPost (mfOf k) p w) := by
  have hk : k = 1 ∨ k = 2 ∨ k = 3 ∨ k = 4 ∨ k = 5 ∨ k = 6 ∨ k = 7 ∨ k = 8 ∨ k = 9 ∨ k = 10 := by omega
  rcases hk with rfl | rfl | rfl | rfl | rfl | rfl | rfl | rfl | rfl | rfl
  · exact msgList_1 p w
  · exact msgList_2 p w
  · exact msgList_3 p w
  · exact msgList_4 p w
  · exact msgList_5 p w
  · exact msgList_6 p w
  · exact msgList_7 p w
  · exact msgList_8 p w
  · exact msgList_9 p w
  · exact msgList_10 p w
end Go.Proofs.YtidhondcfagoaaaDoor
