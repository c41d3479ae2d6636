import Derived.Test.YtgaalaoflaklgaaGreatM35
namespace Go.Proofs.YtgaalaoflaklgaaGreat
open Go.RowKit Crc

set_option maxRecDepth 10000 in
set_option maxHeartbeats 800000 in
theorem rn_5b1 {w : World}  {num : Nat} {node : Int} {slot st : Nat} {ro : Option Addr} {rc n : Nat} {do_ : Option Addr} {m dc : Nat}  (h1 : num ≠ 0) : NoP w 5 num node slot st ro n rc do_ m dc 29 1 := by
  unfold NoP
  obtain ⟨W, hW⟩ : ∃ W, (w.alloc (.cells #[.int .i64 5, .int .u64 (num : Int), .int .i64 node, .int .u64 (slot : Int), .int .u64 (st : Int), .slice ro n rc, .slice do_ m dc] 31)).alloc (.cells #[.int .i64 0, .int .i64 0] 51) = W := ⟨_, rfl⟩
  obtain ⟨b0, q0, q1⟩ := bx_no hW
  have d1 : ((num : Int) != 0) = true := by simp; omega
  have B0 := hide b0
  have Q0 := hide q0
  have Q1 := hide q1
  have HW := hide hW
  clear b0 q0 q1 hW
  go_enter Tryz.func41, Tryz.ntmps41
  have hWW := HW.out
  subst hWW
  go_wp2
  refine bodyPost_ret (v := .agg #[.int .i64 29, .int .i64 1]) (by simp [results, Tryz.results41, go_sem]) rfl ⟨rfl, ?_⟩
  first
  | exact below_two B0.out _ _
  | exact below_two_alloc B0.out _ _ _
  | exact (below_alloc1 w _).alloc (by simp) _
  | exact ((below_alloc1 w _).alloc (by simp) _).alloc (by simp; omega) _

set_option maxRecDepth 10000 in
set_option maxHeartbeats 800000 in
theorem rn_5b2 {w : World}  {num : Nat} {node : Int} {slot st : Nat} {ro : Option Addr} {rc n : Nat} {do_ : Option Addr} {m dc : Nat}  (h1 : num = 0) (h2 : node ≠ 0) : NoP w 5 num node slot st ro n rc do_ m dc 29 1 := by
  unfold NoP
  obtain ⟨W, hW⟩ : ∃ W, (w.alloc (.cells #[.int .i64 5, .int .u64 (num : Int), .int .i64 node, .int .u64 (slot : Int), .int .u64 (st : Int), .slice ro n rc, .slice do_ m dc] 31)).alloc (.cells #[.int .i64 0, .int .i64 0] 51) = W := ⟨_, rfl⟩
  obtain ⟨b0, q0, q1⟩ := bx_no hW
  subst h1
  have d2 : (node != 0) = true := by simp; omega
  have B0 := hide b0
  have Q0 := hide q0
  have Q1 := hide q1
  have HW := hide hW
  clear b0 q0 q1 hW
  go_enter Tryz.func41, Tryz.ntmps41
  have hWW := HW.out
  subst hWW
  go_wp2
  refine bodyPost_ret (v := .agg #[.int .i64 29, .int .i64 1]) (by simp [results, Tryz.results41, go_sem]) rfl ⟨rfl, ?_⟩
  first
  | exact below_two B0.out _ _
  | exact below_two_alloc B0.out _ _ _
  | exact (below_alloc1 w _).alloc (by simp) _
  | exact ((below_alloc1 w _).alloc (by simp) _).alloc (by simp; omega) _

set_option maxRecDepth 10000 in
set_option maxHeartbeats 800000 in
theorem rn_5s1 {w : World}  {num : Nat} {node : Int} {slot st : Nat} {ro : Option Addr} {rc n : Nat} {do_ : Option Addr} {m dc : Nat}  (h1 : num = 0) (h2 : node = 0) (h3 : 1099511627776 < slot) : NoP w 5 num node slot st ro n rc do_ m dc 29 2 := by
  unfold NoP
  obtain ⟨W, hW⟩ : ∃ W, (w.alloc (.cells #[.int .i64 5, .int .u64 (num : Int), .int .i64 node, .int .u64 (slot : Int), .int .u64 (st : Int), .slice ro n rc, .slice do_ m dc] 31)).alloc (.cells #[.int .i64 0, .int .i64 0] 51) = W := ⟨_, rfl⟩
  obtain ⟨b0, q0, q1⟩ := bx_no hW
  subst h1
  subst h2
  have d3 : decide ((slot : Int) > 1099511627776) = true := by simp; omega
  have B0 := hide b0
  have Q0 := hide q0
  have Q1 := hide q1
  have HW := hide hW
  clear b0 q0 q1 hW
  go_enter Tryz.func41, Tryz.ntmps41
  have hWW := HW.out
  subst hWW
  go_wp2
  refine bodyPost_ret (v := .agg #[.int .i64 29, .int .i64 2]) (by simp [results, Tryz.results41, go_sem]) rfl ⟨rfl, ?_⟩
  first
  | exact below_two B0.out _ _
  | exact below_two_alloc B0.out _ _ _
  | exact (below_alloc1 w _).alloc (by simp) _
  | exact ((below_alloc1 w _).alloc (by simp) _).alloc (by simp; omega) _

set_option maxRecDepth 10000 in
set_option maxHeartbeats 800000 in
theorem rn_5t1 {w : World}  {num : Nat} {node : Int} {slot st : Nat} {ro : Option Addr} {rc n : Nat} {do_ : Option Addr} {m dc : Nat}  (h1 : num = 0) (h2 : node = 0) (h3 : ¬ 1099511627776 < slot) (h4 : st ≠ 0) : NoP w 5 num node slot st ro n rc do_ m dc 29 3 := by
  unfold NoP
  obtain ⟨W, hW⟩ : ∃ W, (w.alloc (.cells #[.int .i64 5, .int .u64 (num : Int), .int .i64 node, .int .u64 (slot : Int), .int .u64 (st : Int), .slice ro n rc, .slice do_ m dc] 31)).alloc (.cells #[.int .i64 0, .int .i64 0] 51) = W := ⟨_, rfl⟩
  obtain ⟨b0, q0, q1⟩ := bx_no hW
  subst h1
  subst h2
  have d3 : decide ((slot : Int) > 1099511627776) = false := by simp; omega
  have d4 : ((st : Int) != 0) = true := by simp; omega
  have B0 := hide b0
  have Q0 := hide q0
  have Q1 := hide q1
  have HW := hide hW
  clear b0 q0 q1 hW
  go_enter Tryz.func41, Tryz.ntmps41
  have hWW := HW.out
  subst hWW
  go_wp2
  refine bodyPost_ret (v := .agg #[.int .i64 29, .int .i64 3]) (by simp [results, Tryz.results41, go_sem]) rfl ⟨rfl, ?_⟩
  first
  | exact below_two B0.out _ _
  | exact below_two_alloc B0.out _ _ _
  | exact (below_alloc1 w _).alloc (by simp) _
  | exact ((below_alloc1 w _).alloc (by simp) _).alloc (by simp; omega) _

set_option maxRecDepth 10000 in
set_option maxHeartbeats 800000 in
theorem rn_5t2 {w : World}  {num : Nat} {node : Int} {slot st : Nat} {ro : Option Addr} {rc n : Nat} {do_ : Option Addr} {m dc : Nat}  (h1 : num = 0) (h2 : node = 0) (h3 : ¬ 1099511627776 < slot) (h4 : st = 0) (h5 : n ≠ 0) : NoP w 5 num node slot st ro n rc do_ m dc 29 3 := by
  unfold NoP
  obtain ⟨W, hW⟩ : ∃ W, (w.alloc (.cells #[.int .i64 5, .int .u64 (num : Int), .int .i64 node, .int .u64 (slot : Int), .int .u64 (st : Int), .slice ro n rc, .slice do_ m dc] 31)).alloc (.cells #[.int .i64 0, .int .i64 0] 51) = W := ⟨_, rfl⟩
  obtain ⟨b0, q0, q1⟩ := bx_no hW
  subst h1
  subst h2
  have d3 : decide ((slot : Int) > 1099511627776) = false := by simp; omega
  subst h4
  have d5 : ((n : Int) != 0) = true := by simp; omega
  have B0 := hide b0
  have Q0 := hide q0
  have Q1 := hide q1
  have HW := hide hW
  clear b0 q0 q1 hW
  go_enter Tryz.func41, Tryz.ntmps41
  have hWW := HW.out
  subst hWW
  go_wp2
  refine bodyPost_ret (v := .agg #[.int .i64 29, .int .i64 3]) (by simp [results, Tryz.results41, go_sem]) rfl ⟨rfl, ?_⟩
  first
  | exact below_two B0.out _ _
  | exact below_two_alloc B0.out _ _ _
  | exact (below_alloc1 w _).alloc (by simp) _
  | exact ((below_alloc1 w _).alloc (by simp) _).alloc (by simp; omega) _

set_option maxRecDepth 10000 in
set_option maxHeartbeats 800000 in
theorem rn_5d {w : World}  {num : Nat} {node : Int} {slot st : Nat} {ro : Option Addr} {rc n : Nat} {do_ : Option Addr} {m dc : Nat}  (h1 : num = 0) (h2 : node = 0) (h3 : ¬ 1099511627776 < slot) (h4 : st = 0) (h5 : n = 0) (h6 : 40000 < m) : NoP w 5 num node slot st ro n rc do_ m dc 21 4 := by
  unfold NoP
  obtain ⟨W, hW⟩ : ∃ W, (w.alloc (.cells #[.int .i64 5, .int .u64 (num : Int), .int .i64 node, .int .u64 (slot : Int), .int .u64 (st : Int), .slice ro n rc, .slice do_ m dc] 31)).alloc (.cells #[.int .i64 0, .int .i64 0] 51) = W := ⟨_, rfl⟩
  obtain ⟨b0, q0, q1⟩ := bx_no hW
  subst h1
  subst h2
  have d3 : decide ((slot : Int) > 1099511627776) = false := by simp; omega
  subst h4
  subst h5
  have d6 : decide ((m : Int) > 40000) = true := by simp; omega
  have B0 := hide b0
  have Q0 := hide q0
  have Q1 := hide q1
  have HW := hide hW
  clear b0 q0 q1 hW
  go_enter Tryz.func41, Tryz.ntmps41
  have hWW := HW.out
  subst hWW
  go_wp2
  refine bodyPost_ret (v := .agg #[.int .i64 21, .int .i64 4]) (by simp [results, Tryz.results41, go_sem]) rfl ⟨rfl, ?_⟩
  first
  | exact below_two B0.out _ _
  | exact below_two_alloc B0.out _ _ _
  | exact (below_alloc1 w _).alloc (by simp) _
  | exact ((below_alloc1 w _).alloc (by simp) _).alloc (by simp; omega) _

set_option maxRecDepth 10000 in
set_option maxHeartbeats 800000 in
theorem rn_5o {w : World}  {num : Nat} {node : Int} {slot st : Nat} {ro : Option Addr} {rc n : Nat} {do_ : Option Addr} {m dc : Nat}  (h1 : num = 0) (h2 : node = 0) (h3 : ¬ 1099511627776 < slot) (h4 : st = 0) (h5 : n = 0) (h6 : ¬ 40000 < m) : NoP w 5 num node slot st ro n rc do_ m dc 0 0 := by
  unfold NoP
  obtain ⟨W, hW⟩ : ∃ W, (w.alloc (.cells #[.int .i64 5, .int .u64 (num : Int), .int .i64 node, .int .u64 (slot : Int), .int .u64 (st : Int), .slice ro n rc, .slice do_ m dc] 31)).alloc (.cells #[.int .i64 0, .int .i64 0] 51) = W := ⟨_, rfl⟩
  obtain ⟨b0, q0, q1⟩ := bx_no hW
  subst h1
  subst h2
  have d3 : decide ((slot : Int) > 1099511627776) = false := by simp; omega
  subst h4
  subst h5
  have d6 : decide ((m : Int) > 40000) = false := by simp; omega
  have B0 := hide b0
  have Q0 := hide q0
  have Q1 := hide q1
  have HW := hide hW
  clear b0 q0 q1 hW
  go_enter Tryz.func41, Tryz.ntmps41
  have hWW := HW.out
  subst hWW
  go_wp2
  refine bodyPost_ret (v := .agg #[.int .i64 0, .int .i64 0]) (by simp [results, Tryz.results41, go_sem]) rfl ⟨rfl, ?_⟩
  first
  | exact below_two B0.out _ _
  | exact below_two_alloc B0.out _ _ _
  | exact (below_alloc1 w _).alloc (by simp) _
  | exact ((below_alloc1 w _).alloc (by simp) _).alloc (by simp; omega) _
end Go.Proofs.YtgaalaoflaklgaaGreat
