import Derived.Test.YtldhafpeigdloaaGreatDoorM19
import Derived.BigRegion
namespace Go.Proofs.YtldhafpeigdloaaGreatDoor
open Go.RowKit Crc

/-- The fields of each kind. -/
def mfOf (k : Nat) : List Mf := match k with
  | 1 => [.seq, .command]
  | 2 => [.seq, .stamp, .outcome, .result]
  | 3 => [.ballot]
  | 4 => [.ballot, .low, .votes]
  | 5 => [.ballot, .low]
  | 6 => [.ballot, .slot, .batch]
  | 7 => [.ballot, .slot, .batch]
  | 8 => [.ballot, .slot, .suspect]
  | 9 => [.slot, .index]
  | 10 => [.slot, .index, .total, .root, .chunk, .path]
  | _ => []
def frvM (p : Nat) : Value := .iface 71 (.pointer (some ⟨p, 0, none⟩))
def MlPost (fs : List Mf) (p : Nat) (w : World) (e : Ending) (w' : World) : Prop := e = .returned (.slice (some ⟨w.heap.size, 0, none⟩) fs.length fs.length) ∧ Hid (w'.heap[w.heap.size]? = some (.cells (fs.map fun f => mv f.name (frvM p)).toArray 1 (0, 0)) ∧ Below w.heap.size w w')
/-- The same for whatever has the fields. -/
def MlPostT (t : TypeId) (fs : List Mf) (p : Nat) (w : World) (e : Ending) (w' : World) : Prop := e = .returned (.slice (some ⟨w.heap.size, 0, none⟩) fs.length fs.length) ∧ Hid (w'.heap[w.heap.size]? = some (.cells (fs.map fun f => mv f.name (.iface t (.pointer (some ⟨p, 0, none⟩)))).toArray 1 (0, 0)) ∧ Below w.heap.size w w')
set_option maxRecDepth 10000 in
set_option maxHeartbeats 800000 in
theorem msgT_1 (t : TypeId) (p : Nat) (w : World) : Calls Tryz.prog 12 #[.int .i64 1, .iface t (.pointer (some ⟨p, 0, none⟩))] w (MlPostT t (mfOf 1) p w) := by
  have hmf := mk_func
  unfold MlPostT
  go_enter Tryz.func12, Tryz.ntmps12
  go_wp2_with fail
  go_region
  all_goals
    go_wp2
    go_ret
    exact ⟨rfl, alloc_here w _, below_here w _⟩
set_option maxRecDepth 10000 in
set_option maxHeartbeats 800000 in
theorem msgT_2 (t : TypeId) (p : Nat) (w : World) : Calls Tryz.prog 12 #[.int .i64 2, .iface t (.pointer (some ⟨p, 0, none⟩))] w (MlPostT t (mfOf 2) p w) := by
  have hmf := mk_func
  unfold MlPostT
  go_enter Tryz.func12, Tryz.ntmps12
  go_wp2_with fail
  go_region
  all_goals
    go_wp2
    go_ret
    exact ⟨rfl, alloc_here w _, below_here w _⟩
set_option maxRecDepth 10000 in
set_option maxHeartbeats 800000 in
theorem msgT_3 (t : TypeId) (p : Nat) (w : World) : Calls Tryz.prog 12 #[.int .i64 3, .iface t (.pointer (some ⟨p, 0, none⟩))] w (MlPostT t (mfOf 3) p w) := by
  have hmf := mk_func
  unfold MlPostT
  go_enter Tryz.func12, Tryz.ntmps12
  go_wp2
  go_ret
  exact ⟨rfl, alloc_at _ _, below_alloc1 _ _⟩
set_option maxRecDepth 10000 in
set_option maxHeartbeats 800000 in
theorem msgT_4 (t : TypeId) (p : Nat) (w : World) : Calls Tryz.prog 12 #[.int .i64 4, .iface t (.pointer (some ⟨p, 0, none⟩))] w (MlPostT t (mfOf 4) p w) := by
  have hmf := mk_func
  unfold MlPostT
  go_enter Tryz.func12, Tryz.ntmps12
  go_wp2_with fail
  go_region
  all_goals
    go_wp2
    go_ret
    exact ⟨rfl, alloc_here w _, below_here w _⟩
set_option maxRecDepth 10000 in
set_option maxHeartbeats 800000 in
theorem msgT_5 (t : TypeId) (p : Nat) (w : World) : Calls Tryz.prog 12 #[.int .i64 5, .iface t (.pointer (some ⟨p, 0, none⟩))] w (MlPostT t (mfOf 5) p w) := by
  have hmf := mk_func
  unfold MlPostT
  go_enter Tryz.func12, Tryz.ntmps12
  go_wp2_with fail
  go_region
  all_goals
    go_wp2
    go_ret
    exact ⟨rfl, alloc_here w _, below_here w _⟩
set_option maxRecDepth 10000 in
set_option maxHeartbeats 800000 in
theorem msgT_6 (t : TypeId) (p : Nat) (w : World) : Calls Tryz.prog 12 #[.int .i64 6, .iface t (.pointer (some ⟨p, 0, none⟩))] w (MlPostT t (mfOf 6) p w) := by
  have hmf := mk_func
  unfold MlPostT
  go_enter Tryz.func12, Tryz.ntmps12
  go_wp2_with fail
  go_region
  all_goals
    go_wp2
    go_ret
    exact ⟨rfl, alloc_here w _, below_here w _⟩
set_option maxRecDepth 10000 in
set_option maxHeartbeats 800000 in
theorem msgT_7 (t : TypeId) (p : Nat) (w : World) : Calls Tryz.prog 12 #[.int .i64 7, .iface t (.pointer (some ⟨p, 0, none⟩))] w (MlPostT t (mfOf 7) p w) := by
  have hmf := mk_func
  unfold MlPostT
  go_enter Tryz.func12, Tryz.ntmps12
  go_wp2_with fail
  go_region
  all_goals
    go_wp2
    go_ret
    exact ⟨rfl, alloc_here w _, below_here w _⟩
set_option maxRecDepth 10000 in
set_option maxHeartbeats 800000 in
theorem msgT_8 (t : TypeId) (p : Nat) (w : World) : Calls Tryz.prog 12 #[.int .i64 8, .iface t (.pointer (some ⟨p, 0, none⟩))] w (MlPostT t (mfOf 8) p w) := by
  have hmf := mk_func
  unfold MlPostT
  go_enter Tryz.func12, Tryz.ntmps12
  go_wp2_with fail
  go_region
  all_goals
    go_wp2
    go_ret
    exact ⟨rfl, alloc_here w _, below_here w _⟩
set_option maxRecDepth 10000 in
set_option maxHeartbeats 800000 in
theorem msgT_9 (t : TypeId) (p : Nat) (w : World) : Calls Tryz.prog 12 #[.int .i64 9, .iface t (.pointer (some ⟨p, 0, none⟩))] w (MlPostT t (mfOf 9) p w) := by
  have hmf := mk_func
  unfold MlPostT
  go_enter Tryz.func12, Tryz.ntmps12
  go_wp2_with fail
  go_region
  all_goals
    go_wp2
    go_ret
    exact ⟨rfl, alloc_here w _, below_here w _⟩
set_option maxRecDepth 10000 in
set_option maxHeartbeats 800000 in
theorem msgT_10 (t : TypeId) (p : Nat) (w : World) : Calls Tryz.prog 12 #[.int .i64 10, .iface t (.pointer (some ⟨p, 0, none⟩))] w (MlPostT t (mfOf 10) p w) := by
  have hmf := mk_func
  unfold MlPostT
  go_enter Tryz.func12, Tryz.ntmps12
  go_wp2_with fail
  go_region
  all_goals
    go_wp2
    go_ret
    exact ⟨rfl, alloc_here w _, below_here w _⟩
set_option maxRecDepth 10000 in
set_option maxHeartbeats 800000 in
theorem msgT_0 (t : TypeId) (k : Int) (p : Nat) (hk : k < 1 ∨ 10 < k) (w : World) : Calls Tryz.prog 12 #[.int .i64 k, .iface t (.pointer (some ⟨p, 0, none⟩))] w fun e w' => e = .returned (.slice none 0 0) ∧ w' = w := by
  have h1 : (k == 1) = false := by simp; omega
  have h2 : (k == 2) = false := by simp; omega
  have h3 : (k == 3) = false := by simp; omega
  have h4 : (k == 4) = false := by simp; omega
  have h5 : (k == 5) = false := by simp; omega
  have h6 : (k == 6) = false := by simp; omega
  have h7 : (k == 7) = false := by simp; omega
  have h8 : (k == 8) = false := by simp; omega
  have h9 : (k == 9) = false := by simp; omega
  have h10 : (k == 10) = false := by simp; omega
  clear hk
  go_enter Tryz.func12, Tryz.ntmps12
  go_wp2
  go_ret
  exact ⟨rfl, rfl⟩
theorem mfOf_nodup (k : Nat) : (mfOf k).Nodup ∧ (mfOf k).length ≤ 6 := by
  by_cases h : k < 1 ∨ 10 < k
  · have e : mfOf k = [] := by unfold mfOf; split <;> first | omega | rfl
    rw [e]; exact ⟨List.nodup_nil, by simp⟩
  · have hk : k = 1 ∨ k = 2 ∨ k = 3 ∨ k = 4 ∨ k = 5 ∨ k = 6 ∨ k = 7 ∨ k = 8 ∨ k = 9 ∨ k = 10 := by omega
    rcases hk with rfl | rfl | rfl | rfl | rfl | rfl | rfl | rfl | rfl | rfl <;> exact ⟨by decide, by decide⟩
theorem msgList_0 (k p : Nat) (hk : k < 1 ∨ 10 < k) (w : World) : Calls Tryz.prog 12 #[.int .i64 (k : Int), .iface 71 (.pointer (some ⟨p, 0, none⟩))] w fun e w' => e = .returned (.slice none 0 0) ∧ w' = w := msgT_0 _ _ p (by omega) w
theorem msgT_any (t : TypeId) (k p : Nat) (hk : 1 ≤ k ∧ k ≤ 10) (w : World) : Calls Tryz.prog 12 #[.int .i64 (k : Int), .iface t (.pointer (some ⟨p, 0, none⟩))] w (MlPostT t (mfOf k) p w) := by
  have hk : k = 1 ∨ k = 2 ∨ k = 3 ∨ k = 4 ∨ k = 5 ∨ k = 6 ∨ k = 7 ∨ k = 8 ∨ k = 9 ∨ k = 10 := by omega
  rcases hk with rfl | rfl | rfl | rfl | rfl | rfl | rfl | rfl | rfl | rfl
  · exact msgT_1 t p w
  · exact msgT_2 t p w
  · exact msgT_3 t p w
  · exact msgT_4 t p w
  · exact msgT_5 t p w
  · exact msgT_6 t p w
  · exact msgT_7 t p w
  · exact msgT_8 t p w
  · exact msgT_9 t p w
  · exact msgT_10 t p w
theorem msgList_any (k p : Nat) (hk : 1 ≤ k ∧ k ≤ 10) (w : World) : Calls Tryz.prog 12 #[.int .i64 (k : Int), .iface 71 (.pointer (some ⟨p, 0, none⟩))] w (MlPost (mfOf k) p w) := msgT_any _ k p hk w
end Go.Proofs.YtldhafpeigdloaaGreatDoor
