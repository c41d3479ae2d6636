import Derived.Test.YtgaalaoflaklgaaGreatM35
namespace Go.Proofs.YtgaalaoflaklgaaGreat
open Go.RowKit Crc

set_option maxRecDepth 10000 in
set_option maxHeartbeats 800000 in
theorem rn_2b {w : World}  {num : Nat} {node : Int} {slot st : Nat} {ro : Option Addr} {rc n : Nat} {do_ : Option Addr} {m dc : Nat}  (hb : balBad num node) : NoP w 2 num node slot st ro n rc do_ m dc 29 1 := by
  unfold NoP
  obtain ⟨W, hW⟩ : ∃ W, (w.alloc (.cells #[.int .i64 2, .int .u64 (num : Int), .int .i64 node, .int .u64 (slot : Int), .int .u64 (st : Int), .slice ro n rc, .slice do_ m dc] 31)).alloc (.cells #[.int .i64 0, .int .i64 0] 51) = W := ⟨_, rfl⟩
  obtain ⟨b0, q0, q1⟩ := bx_no hW
  have HBL := hide (ballotNo_yes num node W hb)
  have B0 := hide b0
  have Q0 := hide q0
  have Q1 := hide q1
  have HW := hide hW
  clear b0 q0 q1 hW
  go_enter Tryz.func41, Tryz.ntmps41
  go_wp2_with fail
  refine Calls.atW HW.out ?_
  clear HW
  refine HBL.out.mono ?_
  rintro e w1 ⟨rfl, b1⟩
  have B0 := hide (B0.out.trans (b1.out.mono B0.out.size))
  have Q0 := hide ((b1.out.block _ (block_lt Q0.out)).trans Q0.out)
  have Q1 := hide ((b1.out.block _ (block_lt Q1.out)).trans Q1.out)
  clear b1 HBL
  have x0 := block_cell Q0.out 0
  have x1 := block_cell Q0.out 1
  have x2 := block_cell Q0.out 2
  have x3 := block_cell Q0.out 3
  have x4 := block_cell Q0.out 4
  have x5 := block_cell Q0.out 5
  have x6 := block_cell Q0.out 6
  have y0 := block_cell Q1.out 0
  have y1 := block_cell Q1.out 1
  have z0 := block_free Q1.out 0
  have z1 := block_free Q1.out 1
  simp at x0 x1 x2 x3 x4 x5 x6 y0 y1
  have hl0 := block_lt Q0.out
  have hl1 := block_lt Q1.out
  go_wp2
  refine bodyPost_ret (v := .agg #[.int .i64 29, .int .i64 1]) (by simp [results, Tryz.results41, go_sem, y0, y1]) rfl ⟨rfl, ?_⟩
  first
  | exact below_two B0.out _ _
  | exact below_two_alloc B0.out _ _ _
  | exact (below_alloc1 w _).alloc (by simp) _
  | exact ((below_alloc1 w _).alloc (by simp) _).alloc (by simp; omega) _

set_option maxRecDepth 10000 in
set_option maxHeartbeats 800000 in
theorem rn_2s1 {w : World}  {num : Nat} {node : Int} {slot st : Nat} {ro : Option Addr} {rc n : Nat} {do_ : Option Addr} {m dc : Nat}  (hb : ¬ balBad num node) (h3 : 1099511627776 < slot) : NoP w 2 num node slot st ro n rc do_ m dc 29 2 := by
  unfold NoP
  obtain ⟨W, hW⟩ : ∃ W, (w.alloc (.cells #[.int .i64 2, .int .u64 (num : Int), .int .i64 node, .int .u64 (slot : Int), .int .u64 (st : Int), .slice ro n rc, .slice do_ m dc] 31)).alloc (.cells #[.int .i64 0, .int .i64 0] 51) = W := ⟨_, rfl⟩
  obtain ⟨b0, q0, q1⟩ := bx_no hW
  have d3 : decide ((slot : Int) > 1099511627776) = true := by simp; omega
  have HBL := hide (ballotNo_no num node W hb)
  have B0 := hide b0
  have Q0 := hide q0
  have Q1 := hide q1
  have HW := hide hW
  clear b0 q0 q1 hW
  go_enter Tryz.func41, Tryz.ntmps41
  go_wp2_with fail
  refine Calls.atW HW.out ?_
  clear HW
  refine HBL.out.mono ?_
  rintro e w1 ⟨rfl, b1⟩
  have B0 := hide (B0.out.trans (b1.out.mono B0.out.size))
  have Q0 := hide ((b1.out.block _ (block_lt Q0.out)).trans Q0.out)
  have Q1 := hide ((b1.out.block _ (block_lt Q1.out)).trans Q1.out)
  clear b1 HBL
  have x0 := block_cell Q0.out 0
  have x1 := block_cell Q0.out 1
  have x2 := block_cell Q0.out 2
  have x3 := block_cell Q0.out 3
  have x4 := block_cell Q0.out 4
  have x5 := block_cell Q0.out 5
  have x6 := block_cell Q0.out 6
  have y0 := block_cell Q1.out 0
  have y1 := block_cell Q1.out 1
  have z0 := block_free Q1.out 0
  have z1 := block_free Q1.out 1
  simp at x0 x1 x2 x3 x4 x5 x6 y0 y1
  have hl0 := block_lt Q0.out
  have hl1 := block_lt Q1.out
  go_wp2
  refine bodyPost_ret (v := .agg #[.int .i64 29, .int .i64 2]) (by simp [results, Tryz.results41, go_sem, y0, y1]) rfl ⟨rfl, ?_⟩
  first
  | exact below_two B0.out _ _
  | exact below_two_alloc B0.out _ _ _
  | exact (below_alloc1 w _).alloc (by simp) _
  | exact ((below_alloc1 w _).alloc (by simp) _).alloc (by simp; omega) _

set_option maxRecDepth 10000 in
set_option maxHeartbeats 800000 in
theorem rn_2t {w : World}  {num : Nat} {node : Int} {slot st : Nat} {ro : Option Addr} {rs : List Rq} {b off : Nat} {rc : Nat} {n : Nat} {do_ : Option Addr} {m dc : Nat} (h : Rqs w.heap.size w ro rs b off) (hn : rs.length = n) (hb : ¬ balBad num node) (h3 : ¬ 1099511627776 < slot) (hf : (bFault st rs).2 ≠ 0) : NoP w 2 num node slot st ro n rc do_ m dc (bFault st rs).2 3 := by
  unfold NoP
  obtain ⟨W, hW⟩ : ∃ W, (w.alloc (.cells #[.int .i64 2, .int .u64 (num : Int), .int .i64 node, .int .u64 (slot : Int), .int .u64 (st : Int), .slice ro n rc, .slice do_ m dc] 31)).alloc (.cells #[.int .i64 0, .int .i64 0] 51) = W := ⟨_, rfl⟩
  obtain ⟨b0, q0, q1⟩ := bx_no hW
  have d3 : decide ((slot : Int) > 1099511627776) = false := by simp; omega
  have hzb : ((bFault st rs).2 != 0) = true := by simp; omega
  have HBL := hide (ballotNo_no num node W hb)
  have HR := hide h
  have B0 := hide b0
  have Q0 := hide q0
  have Q1 := hide q1
  have HW := hide hW
  clear b0 q0 q1 hW
  go_enter Tryz.func41, Tryz.ntmps41
  go_wp2_with fail
  refine Calls.atW HW.out ?_
  clear HW
  refine HBL.out.mono ?_
  rintro e w1 ⟨rfl, b1⟩
  have B0 := hide (B0.out.trans (b1.out.mono B0.out.size))
  have Q0 := hide ((b1.out.block _ (block_lt Q0.out)).trans Q0.out)
  have Q1 := hide ((b1.out.block _ (block_lt Q1.out)).trans Q1.out)
  clear b1 HBL
  have x0 := block_cell Q0.out 0
  have x1 := block_cell Q0.out 1
  have x2 := block_cell Q0.out 2
  have x3 := block_cell Q0.out 3
  have x4 := block_cell Q0.out 4
  have x5 := block_cell Q0.out 5
  have x6 := block_cell Q0.out 6
  have y0 := block_cell Q1.out 0
  have y1 := block_cell Q1.out 1
  have z0 := block_free Q1.out 0
  have z1 := block_free Q1.out 1
  simp at x0 x1 x2 x3 x4 x5 x6 y0 y1
  have hl0 := block_lt Q0.out
  have hl1 := block_lt Q1.out
  go_wp2_with fail
  clear x0 x1 x2 x3 x4 x5 x6 y0 y1 z0 z1 hl0 hl1
  refine (batchNoN (n := n) HR.out B0.out hn).mono ?_
  rintro e w2 ⟨rfl, b2⟩
  have B0 := hide (B0.out.trans (b2.out.mono B0.out.size))
  have Q0 := hide ((b2.out.block _ (block_lt Q0.out)).trans Q0.out)
  have Q1 := hide ((b2.out.block _ (block_lt Q1.out)).trans Q1.out)
  clear b2 HR h
  generalize (((bFault st rs).1 : Nat) : Int) = ba at *
  have x0 := block_cell Q0.out 0
  have x1 := block_cell Q0.out 1
  have x2 := block_cell Q0.out 2
  have x3 := block_cell Q0.out 3
  have x4 := block_cell Q0.out 4
  have x5 := block_cell Q0.out 5
  have x6 := block_cell Q0.out 6
  have y0 := block_cell Q1.out 0
  have y1 := block_cell Q1.out 1
  have z0 := block_free Q1.out 0
  have z1 := block_free Q1.out 1
  simp at x0 x1 x2 x3 x4 x5 x6 y0 y1
  have hl0 := block_lt Q0.out
  have hl1 := block_lt Q1.out
  go_wp2
  refine bodyPost_ret (v := .agg #[.int .i64 (bFault st rs).2, .int .i64 3]) (by simp [results, Tryz.results41, go_sem, y0, y1, hl1]) rfl ⟨rfl, ?_⟩
  first
  | exact below_two B0.out _ _
  | exact below_two_alloc B0.out _ _ _
  | exact (below_alloc1 w _).alloc (by simp) _
  | exact ((below_alloc1 w _).alloc (by simp) _).alloc (by simp; omega) _

set_option maxRecDepth 10000 in
set_option maxHeartbeats 800000 in
theorem rn_2d {w : World}  {num : Nat} {node : Int} {slot st : Nat} {ro : Option Addr} {rs : List Rq} {b off : Nat} {rc : Nat} {n : Nat} {do_ : Option Addr} {m dc : Nat} (h : Rqs w.heap.size w ro rs b off) (hn : rs.length = n) (hb : ¬ balBad num node) (h3 : ¬ 1099511627776 < slot) (hf : (bFault st rs).2 = 0) (h6 : 0 < m) : NoP w 2 num node slot st ro n rc do_ m dc 29 4 := by
  unfold NoP
  obtain ⟨W, hW⟩ : ∃ W, (w.alloc (.cells #[.int .i64 2, .int .u64 (num : Int), .int .i64 node, .int .u64 (slot : Int), .int .u64 (st : Int), .slice ro n rc, .slice do_ m dc] 31)).alloc (.cells #[.int .i64 0, .int .i64 0] 51) = W := ⟨_, rfl⟩
  obtain ⟨b0, q0, q1⟩ := bx_no hW
  have d3 : decide ((slot : Int) > 1099511627776) = false := by simp; omega
  have d6 : decide ((m : Int) > 0) = true := by simp; omega
  have HBL := hide (ballotNo_no num node W hb)
  have HR := hide h
  have B0 := hide b0
  have Q0 := hide q0
  have Q1 := hide q1
  have HW := hide hW
  clear b0 q0 q1 hW
  go_enter Tryz.func41, Tryz.ntmps41
  go_wp2_with fail
  refine Calls.atW HW.out ?_
  clear HW
  refine HBL.out.mono ?_
  rintro e w1 ⟨rfl, b1⟩
  have B0 := hide (B0.out.trans (b1.out.mono B0.out.size))
  have Q0 := hide ((b1.out.block _ (block_lt Q0.out)).trans Q0.out)
  have Q1 := hide ((b1.out.block _ (block_lt Q1.out)).trans Q1.out)
  clear b1 HBL
  have x0 := block_cell Q0.out 0
  have x1 := block_cell Q0.out 1
  have x2 := block_cell Q0.out 2
  have x3 := block_cell Q0.out 3
  have x4 := block_cell Q0.out 4
  have x5 := block_cell Q0.out 5
  have x6 := block_cell Q0.out 6
  have y0 := block_cell Q1.out 0
  have y1 := block_cell Q1.out 1
  have z0 := block_free Q1.out 0
  have z1 := block_free Q1.out 1
  simp at x0 x1 x2 x3 x4 x5 x6 y0 y1
  have hl0 := block_lt Q0.out
  have hl1 := block_lt Q1.out
  go_wp2_with fail
  clear x0 x1 x2 x3 x4 x5 x6 y0 y1 z0 z1 hl0 hl1
  refine (batchNoN (n := n) HR.out B0.out hn).mono ?_
  rintro e w2 ⟨rfl, b2⟩
  have B0 := hide (B0.out.trans (b2.out.mono B0.out.size))
  have Q0 := hide ((b2.out.block _ (block_lt Q0.out)).trans Q0.out)
  have Q1 := hide ((b2.out.block _ (block_lt Q1.out)).trans Q1.out)
  clear b2 HR h
  rw [hf]
  generalize (((bFault st rs).1 : Nat) : Int) = ba at *
  clear hf
  have x0 := block_cell Q0.out 0
  have x1 := block_cell Q0.out 1
  have x2 := block_cell Q0.out 2
  have x3 := block_cell Q0.out 3
  have x4 := block_cell Q0.out 4
  have x5 := block_cell Q0.out 5
  have x6 := block_cell Q0.out 6
  have y0 := block_cell Q1.out 0
  have y1 := block_cell Q1.out 1
  have z0 := block_free Q1.out 0
  have z1 := block_free Q1.out 1
  simp at x0 x1 x2 x3 x4 x5 x6 y0 y1
  have hl0 := block_lt Q0.out
  have hl1 := block_lt Q1.out
  go_wp2
  refine bodyPost_ret (v := .agg #[.int .i64 29, .int .i64 4]) (by simp [results, Tryz.results41, go_sem, y0, y1, hl1]) rfl ⟨rfl, ?_⟩
  first
  | exact below_two B0.out _ _
  | exact below_two_alloc B0.out _ _ _
  | exact (below_alloc1 w _).alloc (by simp) _
  | exact ((below_alloc1 w _).alloc (by simp) _).alloc (by simp; omega) _

set_option maxRecDepth 10000 in
set_option maxHeartbeats 800000 in
theorem rn_2o {w : World}  {num : Nat} {node : Int} {slot st : Nat} {ro : Option Addr} {rs : List Rq} {b off : Nat} {rc : Nat} {n : Nat} {do_ : Option Addr} {m dc : Nat} (h : Rqs w.heap.size w ro rs b off) (hn : rs.length = n) (hb : ¬ balBad num node) (h3 : ¬ 1099511627776 < slot) (hf : (bFault st rs).2 = 0) (h6 : m = 0) : NoP w 2 num node slot st ro n rc do_ m dc 0 0 := by
  unfold NoP
  obtain ⟨W, hW⟩ : ∃ W, (w.alloc (.cells #[.int .i64 2, .int .u64 (num : Int), .int .i64 node, .int .u64 (slot : Int), .int .u64 (st : Int), .slice ro n rc, .slice do_ m dc] 31)).alloc (.cells #[.int .i64 0, .int .i64 0] 51) = W := ⟨_, rfl⟩
  obtain ⟨b0, q0, q1⟩ := bx_no hW
  have d3 : decide ((slot : Int) > 1099511627776) = false := by simp; omega
  subst h6
  have HBL := hide (ballotNo_no num node W hb)
  have HR := hide h
  have B0 := hide b0
  have Q0 := hide q0
  have Q1 := hide q1
  have HW := hide hW
  clear b0 q0 q1 hW
  go_enter Tryz.func41, Tryz.ntmps41
  go_wp2_with fail
  refine Calls.atW HW.out ?_
  clear HW
  refine HBL.out.mono ?_
  rintro e w1 ⟨rfl, b1⟩
  have B0 := hide (B0.out.trans (b1.out.mono B0.out.size))
  have Q0 := hide ((b1.out.block _ (block_lt Q0.out)).trans Q0.out)
  have Q1 := hide ((b1.out.block _ (block_lt Q1.out)).trans Q1.out)
  clear b1 HBL
  have x0 := block_cell Q0.out 0
  have x1 := block_cell Q0.out 1
  have x2 := block_cell Q0.out 2
  have x3 := block_cell Q0.out 3
  have x4 := block_cell Q0.out 4
  have x5 := block_cell Q0.out 5
  have x6 := block_cell Q0.out 6
  have y0 := block_cell Q1.out 0
  have y1 := block_cell Q1.out 1
  have z0 := block_free Q1.out 0
  have z1 := block_free Q1.out 1
  simp at x0 x1 x2 x3 x4 x5 x6 y0 y1
  have hl0 := block_lt Q0.out
  have hl1 := block_lt Q1.out
  go_wp2_with fail
  clear x0 x1 x2 x3 x4 x5 x6 y0 y1 z0 z1 hl0 hl1
  refine (batchNoN (n := n) HR.out B0.out hn).mono ?_
  rintro e w2 ⟨rfl, b2⟩
  have B0 := hide (B0.out.trans (b2.out.mono B0.out.size))
  have Q0 := hide ((b2.out.block _ (block_lt Q0.out)).trans Q0.out)
  have Q1 := hide ((b2.out.block _ (block_lt Q1.out)).trans Q1.out)
  clear b2 HR h
  rw [hf]
  generalize (((bFault st rs).1 : Nat) : Int) = ba at *
  clear hf
  have x0 := block_cell Q0.out 0
  have x1 := block_cell Q0.out 1
  have x2 := block_cell Q0.out 2
  have x3 := block_cell Q0.out 3
  have x4 := block_cell Q0.out 4
  have x5 := block_cell Q0.out 5
  have x6 := block_cell Q0.out 6
  have y0 := block_cell Q1.out 0
  have y1 := block_cell Q1.out 1
  have z0 := block_free Q1.out 0
  have z1 := block_free Q1.out 1
  simp at x0 x1 x2 x3 x4 x5 x6 y0 y1
  have hl0 := block_lt Q0.out
  have hl1 := block_lt Q1.out
  go_wp2
  refine bodyPost_ret (v := .agg #[.int .i64 0, .int .i64 0]) (by simp [results, Tryz.results41, go_sem, y0, y1, hl1]) rfl ⟨rfl, ?_⟩
  first
  | exact below_two B0.out _ _
  | exact below_two_alloc B0.out _ _ _
  | exact (below_alloc1 w _).alloc (by simp) _
  | exact ((below_alloc1 w _).alloc (by simp) _).alloc (by simp; omega) _

set_option maxRecDepth 10000 in
set_option maxHeartbeats 800000 in
theorem rn_4b1 {w : World}  {num : Nat} {node : Int} {slot st : Nat} {ro : Option Addr} {rc n : Nat} {do_ : Option Addr} {m dc : Nat}  (h1 : num ≠ 0) : NoP w 4 num node slot st ro n rc do_ m dc 29 1 := by
  unfold NoP
  obtain ⟨W, hW⟩ : ∃ W, (w.alloc (.cells #[.int .i64 4, .int .u64 (num : Int), .int .i64 node, .int .u64 (slot : Int), .int .u64 (st : Int), .slice ro n rc, .slice do_ m dc] 31)).alloc (.cells #[.int .i64 0, .int .i64 0] 51) = W := ⟨_, rfl⟩
  obtain ⟨b0, q0, q1⟩ := bx_no hW
  have d1 : ((num : Int) != 0) = true := by simp; omega
  have B0 := hide b0
  have Q0 := hide q0
  have Q1 := hide q1
  have HW := hide hW
  clear b0 q0 q1 hW
  go_enter Tryz.func41, Tryz.ntmps41
  have hWW := HW.out
  subst hWW
  go_wp2
  refine bodyPost_ret (v := .agg #[.int .i64 29, .int .i64 1]) (by simp [results, Tryz.results41, go_sem]) rfl ⟨rfl, ?_⟩
  first
  | exact below_two B0.out _ _
  | exact below_two_alloc B0.out _ _ _
  | exact (below_alloc1 w _).alloc (by simp) _
  | exact ((below_alloc1 w _).alloc (by simp) _).alloc (by simp; omega) _

set_option maxRecDepth 10000 in
set_option maxHeartbeats 800000 in
theorem rn_4b2 {w : World}  {num : Nat} {node : Int} {slot st : Nat} {ro : Option Addr} {rc n : Nat} {do_ : Option Addr} {m dc : Nat}  (h1 : num = 0) (h2 : node ≠ 0) : NoP w 4 num node slot st ro n rc do_ m dc 29 1 := by
  unfold NoP
  obtain ⟨W, hW⟩ : ∃ W, (w.alloc (.cells #[.int .i64 4, .int .u64 (num : Int), .int .i64 node, .int .u64 (slot : Int), .int .u64 (st : Int), .slice ro n rc, .slice do_ m dc] 31)).alloc (.cells #[.int .i64 0, .int .i64 0] 51) = W := ⟨_, rfl⟩
  obtain ⟨b0, q0, q1⟩ := bx_no hW
  subst h1
  have d2 : (node != 0) = true := by simp; omega
  have B0 := hide b0
  have Q0 := hide q0
  have Q1 := hide q1
  have HW := hide hW
  clear b0 q0 q1 hW
  go_enter Tryz.func41, Tryz.ntmps41
  have hWW := HW.out
  subst hWW
  go_wp2
  refine bodyPost_ret (v := .agg #[.int .i64 29, .int .i64 1]) (by simp [results, Tryz.results41, go_sem]) rfl ⟨rfl, ?_⟩
  first
  | exact below_two B0.out _ _
  | exact below_two_alloc B0.out _ _ _
  | exact (below_alloc1 w _).alloc (by simp) _
  | exact ((below_alloc1 w _).alloc (by simp) _).alloc (by simp; omega) _

set_option maxRecDepth 10000 in
set_option maxHeartbeats 800000 in
theorem rn_4s1 {w : World}  {num : Nat} {node : Int} {slot st : Nat} {ro : Option Addr} {rc n : Nat} {do_ : Option Addr} {m dc : Nat}  (h1 : num = 0) (h2 : node = 0) (h3 : 1099511627776 < slot) : NoP w 4 num node slot st ro n rc do_ m dc 29 2 := by
  unfold NoP
  obtain ⟨W, hW⟩ : ∃ W, (w.alloc (.cells #[.int .i64 4, .int .u64 (num : Int), .int .i64 node, .int .u64 (slot : Int), .int .u64 (st : Int), .slice ro n rc, .slice do_ m dc] 31)).alloc (.cells #[.int .i64 0, .int .i64 0] 51) = W := ⟨_, rfl⟩
  obtain ⟨b0, q0, q1⟩ := bx_no hW
  subst h1
  subst h2
  have d3 : decide ((slot : Int) > 1099511627776) = true := by simp; omega
  have B0 := hide b0
  have Q0 := hide q0
  have Q1 := hide q1
  have HW := hide hW
  clear b0 q0 q1 hW
  go_enter Tryz.func41, Tryz.ntmps41
  have hWW := HW.out
  subst hWW
  go_wp2
  refine bodyPost_ret (v := .agg #[.int .i64 29, .int .i64 2]) (by simp [results, Tryz.results41, go_sem]) rfl ⟨rfl, ?_⟩
  first
  | exact below_two B0.out _ _
  | exact below_two_alloc B0.out _ _ _
  | exact (below_alloc1 w _).alloc (by simp) _
  | exact ((below_alloc1 w _).alloc (by simp) _).alloc (by simp; omega) _

set_option maxRecDepth 10000 in
set_option maxHeartbeats 800000 in
theorem rn_4t1 {w : World}  {num : Nat} {node : Int} {slot st : Nat} {ro : Option Addr} {rc n : Nat} {do_ : Option Addr} {m dc : Nat}  (h1 : num = 0) (h2 : node = 0) (h3 : ¬ 1099511627776 < slot) (h4 : st ≠ 0) : NoP w 4 num node slot st ro n rc do_ m dc 29 3 := by
  unfold NoP
  obtain ⟨W, hW⟩ : ∃ W, (w.alloc (.cells #[.int .i64 4, .int .u64 (num : Int), .int .i64 node, .int .u64 (slot : Int), .int .u64 (st : Int), .slice ro n rc, .slice do_ m dc] 31)).alloc (.cells #[.int .i64 0, .int .i64 0] 51) = W := ⟨_, rfl⟩
  obtain ⟨b0, q0, q1⟩ := bx_no hW
  subst h1
  subst h2
  have d3 : decide ((slot : Int) > 1099511627776) = false := by simp; omega
  have d4 : ((st : Int) != 0) = true := by simp; omega
  have B0 := hide b0
  have Q0 := hide q0
  have Q1 := hide q1
  have HW := hide hW
  clear b0 q0 q1 hW
  go_enter Tryz.func41, Tryz.ntmps41
  have hWW := HW.out
  subst hWW
  go_wp2
  refine bodyPost_ret (v := .agg #[.int .i64 29, .int .i64 3]) (by simp [results, Tryz.results41, go_sem]) rfl ⟨rfl, ?_⟩
  first
  | exact below_two B0.out _ _
  | exact below_two_alloc B0.out _ _ _
  | exact (below_alloc1 w _).alloc (by simp) _
  | exact ((below_alloc1 w _).alloc (by simp) _).alloc (by simp; omega) _

set_option maxRecDepth 10000 in
set_option maxHeartbeats 800000 in
theorem rn_4t2 {w : World}  {num : Nat} {node : Int} {slot st : Nat} {ro : Option Addr} {rc n : Nat} {do_ : Option Addr} {m dc : Nat}  (h1 : num = 0) (h2 : node = 0) (h3 : ¬ 1099511627776 < slot) (h4 : st = 0) (h5 : n ≠ 0) : NoP w 4 num node slot st ro n rc do_ m dc 29 3 := by
  unfold NoP
  obtain ⟨W, hW⟩ : ∃ W, (w.alloc (.cells #[.int .i64 4, .int .u64 (num : Int), .int .i64 node, .int .u64 (slot : Int), .int .u64 (st : Int), .slice ro n rc, .slice do_ m dc] 31)).alloc (.cells #[.int .i64 0, .int .i64 0] 51) = W := ⟨_, rfl⟩
  obtain ⟨b0, q0, q1⟩ := bx_no hW
  subst h1
  subst h2
  have d3 : decide ((slot : Int) > 1099511627776) = false := by simp; omega
  subst h4
  have d5 : ((n : Int) != 0) = true := by simp; omega
  have B0 := hide b0
  have Q0 := hide q0
  have Q1 := hide q1
  have HW := hide hW
  clear b0 q0 q1 hW
  go_enter Tryz.func41, Tryz.ntmps41
  have hWW := HW.out
  subst hWW
  go_wp2
  refine bodyPost_ret (v := .agg #[.int .i64 29, .int .i64 3]) (by simp [results, Tryz.results41, go_sem]) rfl ⟨rfl, ?_⟩
  first
  | exact below_two B0.out _ _
  | exact below_two_alloc B0.out _ _ _
  | exact (below_alloc1 w _).alloc (by simp) _
  | exact ((below_alloc1 w _).alloc (by simp) _).alloc (by simp; omega) _

set_option maxRecDepth 10000 in
set_option maxHeartbeats 800000 in
theorem rn_4d {w : World}  {num : Nat} {node : Int} {slot st : Nat} {ro : Option Addr} {rc n : Nat} {do_ : Option Addr} {m dc : Nat}  (h1 : num = 0) (h2 : node = 0) (h3 : ¬ 1099511627776 < slot) (h4 : st = 0) (h5 : n = 0) (h6 : 0 < m) : NoP w 4 num node slot st ro n rc do_ m dc 29 4 := by
  unfold NoP
  obtain ⟨W, hW⟩ : ∃ W, (w.alloc (.cells #[.int .i64 4, .int .u64 (num : Int), .int .i64 node, .int .u64 (slot : Int), .int .u64 (st : Int), .slice ro n rc, .slice do_ m dc] 31)).alloc (.cells #[.int .i64 0, .int .i64 0] 51) = W := ⟨_, rfl⟩
  obtain ⟨b0, q0, q1⟩ := bx_no hW
  subst h1
  subst h2
  have d3 : decide ((slot : Int) > 1099511627776) = false := by simp; omega
  subst h4
  subst h5
  have d6 : decide ((m : Int) > 0) = true := by simp; omega
  have B0 := hide b0
  have Q0 := hide q0
  have Q1 := hide q1
  have HW := hide hW
  clear b0 q0 q1 hW
  go_enter Tryz.func41, Tryz.ntmps41
  have hWW := HW.out
  subst hWW
  go_wp2
  refine bodyPost_ret (v := .agg #[.int .i64 29, .int .i64 4]) (by simp [results, Tryz.results41, go_sem]) rfl ⟨rfl, ?_⟩
  first
  | exact below_two B0.out _ _
  | exact below_two_alloc B0.out _ _ _
  | exact (below_alloc1 w _).alloc (by simp) _
  | exact ((below_alloc1 w _).alloc (by simp) _).alloc (by simp; omega) _

set_option maxRecDepth 10000 in
set_option maxHeartbeats 800000 in
theorem rn_4o {w : World}  {num : Nat} {node : Int} {slot st : Nat} {ro : Option Addr} {rc n : Nat} {do_ : Option Addr} {m dc : Nat}  (h1 : num = 0) (h2 : node = 0) (h3 : ¬ 1099511627776 < slot) (h4 : st = 0) (h5 : n = 0) (h6 : m = 0) : NoP w 4 num node slot st ro n rc do_ m dc 0 0 := by
  unfold NoP
  obtain ⟨W, hW⟩ : ∃ W, (w.alloc (.cells #[.int .i64 4, .int .u64 (num : Int), .int .i64 node, .int .u64 (slot : Int), .int .u64 (st : Int), .slice ro n rc, .slice do_ m dc] 31)).alloc (.cells #[.int .i64 0, .int .i64 0] 51) = W := ⟨_, rfl⟩
  obtain ⟨b0, q0, q1⟩ := bx_no hW
  subst h1
  subst h2
  have d3 : decide ((slot : Int) > 1099511627776) = false := by simp; omega
  subst h4
  subst h5
  subst h6
  have B0 := hide b0
  have Q0 := hide q0
  have Q1 := hide q1
  have HW := hide hW
  clear b0 q0 q1 hW
  go_enter Tryz.func41, Tryz.ntmps41
  have hWW := HW.out
  subst hWW
  go_wp2
  refine bodyPost_ret (v := .agg #[.int .i64 0, .int .i64 0]) (by simp [results, Tryz.results41, go_sem]) rfl ⟨rfl, ?_⟩
  first
  | exact below_two B0.out _ _
  | exact below_two_alloc B0.out _ _ _
  | exact (below_alloc1 w _).alloc (by simp) _
  | exact ((below_alloc1 w _).alloc (by simp) _).alloc (by simp; omega) _
end Go.Proofs.YtgaalaoflaklgaaGreat
