import Derived.Test.YtlnfkooimpmahaaGreatM45
namespace Go.Proofs.YtlnfkooimpmahaaGreat
open Go.RowKit Crc

set_option maxRecDepth 10000 in
set_option maxHeartbeats 1600000 in
theorem en_3 {w : World} {num : Nat} {node : Int} {slot st : Nat} {ro : Option Addr} {rs : List Rq} {b off : Nat} {n rc : Nat} {do_ : Option Addr} {m dc : Nat} {D : List Nat} (hnum : num < 18446744073709551616) (_hslot : slot < 18446744073709551616) (_hst : st < 18446744073709551616) (h : Rqs w.heap.size w ro rs b off) (hn : rs.length = n) (hd : Shows w.heap.size w do_ m dc D) (h0 : (rNo 3 num node slot st rs m).1 = 0) : EnP w 3 num node slot st rs ro n rc do_ m dc D := by
  obtain ⟨ok, ha⟩ := rNo_ok h0
  have HRR : Hid (rRes 3 num node slot st rs m D = encRec 3 num node.toNat slot st rs m D) := if_pos h0
  have HLL := hide (layRec_ok (D := D) (s := WS1) ok (fun r hr => (h.ok r hr).hC.1) hd.1 rfl rfl rfl rfl)
  have hnd : node = (node.toNat : Int) ∧ node.toNat < 256 := by
    have hb := ok.bal (by decide)
    unfold balBad at hb
    omega
  have HND := hide hnd
  clear hnd
  have HR := hide h
  have HS := hide hd
  unfold EnP
  obtain ⟨W, hW⟩ : ∃ W, (w.alloc (.cells #[.int .i64 3, .int .u64 (num : Int), .int .i64 node, .int .u64 (slot : Int), .int .u64 (st : Int), .slice ro n rc, .slice do_ m dc] 31)).alloc (.cells #[.int .i64 0, .int .i64 0] 33) = W := ⟨_, rfl⟩
  obtain ⟨b0, q0, q1⟩ := bx_no hW
  have HNO := hide (recNo_any (k := 3) (num := num) (node := node) (slot := slot) (st := st) (rc := rc) (do_ := do_) (m := m) (dc := dc) ((h.below b0).wide b0.size) hn)
  unfold NoP at HNO
  have B0 := hide b0
  have Q0 := hide q0
  have Q1 := hide q1
  have HW := hide hW
  clear b0 q0 q1 hW
  rw [h0, ha] at HNO ⊢
  rw [HRR.out]
  clear h0 ha ok h hd HRR
  go_enter Tryz.func4, Tryz.ntmps4
  go_wp2_with fail
  refine Calls.atW HW.out ?_
  clear HW
  refine HNO.out.mono ?_
  rintro e w1 ⟨rfl, b1⟩
  have B1 := hide (B0.out.trans (b1.out.mono B0.out.size))
  have q0 := (b1.out.block _ (block_lt Q0.out)).trans Q0.out
  have q1 := (b1.out.block _ (block_lt Q1.out)).trans Q1.out
  clear b1 HNO B0 Q0 Q1
  have x0 := block_cell q0 0
  have x1 := block_cell q0 1
  have x2 := block_cell q0 2
  have x3 := block_cell q0 3
  have x4 := block_cell q0 4
  have x5 := block_cell q0 5
  have x6 := block_cell q0 6
  simp at x0 x1 x2 x3 x4 x5 x6
  have hl0 := block_lt q0
  have Q0 := hide q0
  have Q1 := hide q1
  clear q0 q1
  go_wp2_with fail
  clear x0 x1 x2 x3 x4 x5 x6 hl0
  refine (er_new B1.out Q0.out Q1.out).mono ?_
  rintro e w2 ⟨p, rfl, G2⟩
  obtain ⟨base, e2⟩ := G2.out
  have E2 := hide e2
  clear e2 G2 B1 Q0 Q1
  have x0 := block_cell E2.out.rb 0
  have x1 := block_cell E2.out.rb 1
  have x2 := block_cell E2.out.rb 2
  have x3 := block_cell E2.out.rb 3
  have x4 := block_cell E2.out.rb 4
  have x5 := block_cell E2.out.rb 5
  have x6 := block_cell E2.out.rb 6
  have y0 := block_cell E2.out.nb 0
  have y1 := block_cell E2.out.nb 1
  have z0 := block_free E2.out.nb 0
  have z1 := block_free E2.out.nb 1
  simp at x0 x1 x2 x3 x4 x5 x6 y0 y1
  have hl0 := block_lt E2.out.rb
  have hl1 := block_lt E2.out.nb
  go_wp2_with fail
  clear x0 x1 x2 x3 x4 x5 x6 y0 y1 z0 z1 hl0 hl1
  refine (eFix E2.out 3 3 rfl).mono ?_
  rintro e w3 ⟨rfl, E3⟩
  clear E2
  have x0 := block_cell E3.out.rb 0
  have x1 := block_cell E3.out.rb 1
  have x2 := block_cell E3.out.rb 2
  have x3 := block_cell E3.out.rb 3
  have x4 := block_cell E3.out.rb 4
  have x5 := block_cell E3.out.rb 5
  have x6 := block_cell E3.out.rb 6
  have y0 := block_cell E3.out.nb 0
  have y1 := block_cell E3.out.nb 1
  have z0 := block_free E3.out.nb 0
  have z1 := block_free E3.out.nb 1
  simp at x0 x1 x2 x3 x4 x5 x6 y0 y1
  have hl0 := block_lt E3.out.rb
  have hl1 := block_lt E3.out.nb
  go_wp2_with fail
  clear x0 x1 x2 x3 x4 x5 x6 y0 y1 z0 z1 hl0 hl1
  refine (eBal E3.out num node.toNat node HND.out.1 hnum HND.out.2).mono ?_
  rintro e w4 ⟨rfl, E4⟩
  clear E3
  have x0 := block_cell E4.out.rb 0
  have x1 := block_cell E4.out.rb 1
  have x2 := block_cell E4.out.rb 2
  have x3 := block_cell E4.out.rb 3
  have x4 := block_cell E4.out.rb 4
  have x5 := block_cell E4.out.rb 5
  have x6 := block_cell E4.out.rb 6
  have y0 := block_cell E4.out.nb 0
  have y1 := block_cell E4.out.nb 1
  have z0 := block_free E4.out.nb 0
  have z1 := block_free E4.out.nb 1
  simp at x0 x1 x2 x3 x4 x5 x6 y0 y1
  have hl0 := block_lt E4.out.rb
  have hl1 := block_lt E4.out.nb
  obtain ⟨vo, vn, vc, c2, FIN⟩ := er_end E4.out (.int .i64 0) (.int .i64 0)
  go_wp2
  refine bodyPost_ret (v := .tuple #[.slice vo vn vc, .agg #[.int .i64 0, .int .i64 0]]) (by simp [results, Tryz.results4, go_sem, y0, y1]) rfl ⟨_, rfl, ?_, FIN.out.2⟩
  have hL := congrArg WS.L HLL.out
  have hF := FIN.out.1
  have e : encRec 3 num node.toNat slot st rs m D = _ := hL.symm
  rw [e]
  exact hF

set_option maxRecDepth 10000 in
set_option maxHeartbeats 1600000 in
theorem en_4 {w : World} {num : Nat} {node : Int} {slot st : Nat} {ro : Option Addr} {rs : List Rq} {b off : Nat} {n rc : Nat} {do_ : Option Addr} {m dc : Nat} {D : List Nat} (_hnum : num < 18446744073709551616) (hslot : slot < 18446744073709551616) (_hst : st < 18446744073709551616) (h : Rqs w.heap.size w ro rs b off) (hn : rs.length = n) (hd : Shows w.heap.size w do_ m dc D) (h0 : (rNo 4 num node slot st rs m).1 = 0) : EnP w 4 num node slot st rs ro n rc do_ m dc D := by
  obtain ⟨ok, ha⟩ := rNo_ok h0
  have HRR : Hid (rRes 4 num node slot st rs m D = encRec 4 num node.toNat slot st rs m D) := if_pos h0
  have HLL := hide (layRec_ok (D := D) (s := WS1) ok (fun r hr => (h.ok r hr).hC.1) hd.1 rfl rfl rfl rfl)
  have HR := hide h
  have HS := hide hd
  unfold EnP
  obtain ⟨W, hW⟩ : ∃ W, (w.alloc (.cells #[.int .i64 4, .int .u64 (num : Int), .int .i64 node, .int .u64 (slot : Int), .int .u64 (st : Int), .slice ro n rc, .slice do_ m dc] 31)).alloc (.cells #[.int .i64 0, .int .i64 0] 33) = W := ⟨_, rfl⟩
  obtain ⟨b0, q0, q1⟩ := bx_no hW
  have HNO := hide (recNo_any (k := 4) (num := num) (node := node) (slot := slot) (st := st) (rc := rc) (do_ := do_) (m := m) (dc := dc) ((h.below b0).wide b0.size) hn)
  unfold NoP at HNO
  have B0 := hide b0
  have Q0 := hide q0
  have Q1 := hide q1
  have HW := hide hW
  clear b0 q0 q1 hW
  rw [h0, ha] at HNO ⊢
  rw [HRR.out]
  clear h0 ha ok h hd HRR
  go_enter Tryz.func4, Tryz.ntmps4
  go_wp2_with fail
  refine Calls.atW HW.out ?_
  clear HW
  refine HNO.out.mono ?_
  rintro e w1 ⟨rfl, b1⟩
  have B1 := hide (B0.out.trans (b1.out.mono B0.out.size))
  have q0 := (b1.out.block _ (block_lt Q0.out)).trans Q0.out
  have q1 := (b1.out.block _ (block_lt Q1.out)).trans Q1.out
  clear b1 HNO B0 Q0 Q1
  have x0 := block_cell q0 0
  have x1 := block_cell q0 1
  have x2 := block_cell q0 2
  have x3 := block_cell q0 3
  have x4 := block_cell q0 4
  have x5 := block_cell q0 5
  have x6 := block_cell q0 6
  simp at x0 x1 x2 x3 x4 x5 x6
  have hl0 := block_lt q0
  have Q0 := hide q0
  have Q1 := hide q1
  clear q0 q1
  go_wp2_with fail
  clear x0 x1 x2 x3 x4 x5 x6 hl0
  refine (er_new B1.out Q0.out Q1.out).mono ?_
  rintro e w2 ⟨p, rfl, G2⟩
  obtain ⟨base, e2⟩ := G2.out
  have E2 := hide e2
  clear e2 G2 B1 Q0 Q1
  have x0 := block_cell E2.out.rb 0
  have x1 := block_cell E2.out.rb 1
  have x2 := block_cell E2.out.rb 2
  have x3 := block_cell E2.out.rb 3
  have x4 := block_cell E2.out.rb 4
  have x5 := block_cell E2.out.rb 5
  have x6 := block_cell E2.out.rb 6
  have y0 := block_cell E2.out.nb 0
  have y1 := block_cell E2.out.nb 1
  have z0 := block_free E2.out.nb 0
  have z1 := block_free E2.out.nb 1
  simp at x0 x1 x2 x3 x4 x5 x6 y0 y1
  have hl0 := block_lt E2.out.rb
  have hl1 := block_lt E2.out.nb
  go_wp2_with fail
  clear x0 x1 x2 x3 x4 x5 x6 y0 y1 z0 z1 hl0 hl1
  refine (eFix E2.out 4 4 rfl).mono ?_
  rintro e w3 ⟨rfl, E3⟩
  clear E2
  have x0 := block_cell E3.out.rb 0
  have x1 := block_cell E3.out.rb 1
  have x2 := block_cell E3.out.rb 2
  have x3 := block_cell E3.out.rb 3
  have x4 := block_cell E3.out.rb 4
  have x5 := block_cell E3.out.rb 5
  have x6 := block_cell E3.out.rb 6
  have y0 := block_cell E3.out.nb 0
  have y1 := block_cell E3.out.nb 1
  have z0 := block_free E3.out.nb 0
  have z1 := block_free E3.out.nb 1
  simp at x0 x1 x2 x3 x4 x5 x6 y0 y1
  have hl0 := block_lt E3.out.rb
  have hl1 := block_lt E3.out.nb
  go_wp2_with fail
  clear x0 x1 x2 x3 x4 x5 x6 y0 y1 z0 z1 hl0 hl1
  refine (eNum E3.out slot hslot).mono ?_
  rintro e w4 ⟨rfl, E4⟩
  clear E3
  have x0 := block_cell E4.out.rb 0
  have x1 := block_cell E4.out.rb 1
  have x2 := block_cell E4.out.rb 2
  have x3 := block_cell E4.out.rb 3
  have x4 := block_cell E4.out.rb 4
  have x5 := block_cell E4.out.rb 5
  have x6 := block_cell E4.out.rb 6
  have y0 := block_cell E4.out.nb 0
  have y1 := block_cell E4.out.nb 1
  have z0 := block_free E4.out.nb 0
  have z1 := block_free E4.out.nb 1
  simp at x0 x1 x2 x3 x4 x5 x6 y0 y1
  have hl0 := block_lt E4.out.rb
  have hl1 := block_lt E4.out.nb
  obtain ⟨vo, vn, vc, c2, FIN⟩ := er_end E4.out (.int .i64 0) (.int .i64 0)
  go_wp2
  refine bodyPost_ret (v := .tuple #[.slice vo vn vc, .agg #[.int .i64 0, .int .i64 0]]) (by simp [results, Tryz.results4, go_sem, y0, y1]) rfl ⟨_, rfl, ?_, FIN.out.2⟩
  have hL := congrArg WS.L HLL.out
  have hF := FIN.out.1
  have e : encRec 4 num node.toNat slot st rs m D = _ := hL.symm
  rw [e]
  exact hF
end Go.Proofs.YtlnfkooimpmahaaGreat
namespace Go.Proofs.YtlnfkooimpmahaaGreat
open Go.RowKit Crc

set_option maxRecDepth 10000 in
set_option maxHeartbeats 1600000 in
theorem en_5 {w : World} {num : Nat} {node : Int} {slot st : Nat} {ro : Option Addr} {rs : List Rq} {b off : Nat} {n rc : Nat} {do_ : Option Addr} {m dc : Nat} {D : List Nat} (_hnum : num < 18446744073709551616) (hslot : slot < 18446744073709551616) (_hst : st < 18446744073709551616) (h : Rqs w.heap.size w ro rs b off) (hn : rs.length = n) (hd : Shows w.heap.size w do_ m dc D) (h0 : (rNo 5 num node slot st rs m).1 = 0) : EnP w 5 num node slot st rs ro n rc do_ m dc D := by
  obtain ⟨ok, ha⟩ := rNo_ok h0
  have HRR : Hid (rRes 5 num node slot st rs m D = encRec 5 num node.toNat slot st rs m D) := if_pos h0
  have HLL := hide (layRec_ok (D := D) (s := WS1) ok (fun r hr => (h.ok r hr).hC.1) hd.1 rfl rfl rfl rfl)
  have HM := hide ok.dat
  have HR := hide h
  have HS := hide hd
  unfold EnP
  obtain ⟨W, hW⟩ : ∃ W, (w.alloc (.cells #[.int .i64 5, .int .u64 (num : Int), .int .i64 node, .int .u64 (slot : Int), .int .u64 (st : Int), .slice ro n rc, .slice do_ m dc] 31)).alloc (.cells #[.int .i64 0, .int .i64 0] 33) = W := ⟨_, rfl⟩
  obtain ⟨b0, q0, q1⟩ := bx_no hW
  have HNO := hide (recNo_any (k := 5) (num := num) (node := node) (slot := slot) (st := st) (rc := rc) (do_ := do_) (m := m) (dc := dc) ((h.below b0).wide b0.size) hn)
  unfold NoP at HNO
  have B0 := hide b0
  have Q0 := hide q0
  have Q1 := hide q1
  have HW := hide hW
  clear b0 q0 q1 hW
  rw [h0, ha] at HNO ⊢
  rw [HRR.out]
  clear h0 ha ok h hd HRR
  go_enter Tryz.func4, Tryz.ntmps4
  go_wp2_with fail
  refine Calls.atW HW.out ?_
  clear HW
  refine HNO.out.mono ?_
  rintro e w1 ⟨rfl, b1⟩
  have B1 := hide (B0.out.trans (b1.out.mono B0.out.size))
  have q0 := (b1.out.block _ (block_lt Q0.out)).trans Q0.out
  have q1 := (b1.out.block _ (block_lt Q1.out)).trans Q1.out
  clear b1 HNO B0 Q0 Q1
  have x0 := block_cell q0 0
  have x1 := block_cell q0 1
  have x2 := block_cell q0 2
  have x3 := block_cell q0 3
  have x4 := block_cell q0 4
  have x5 := block_cell q0 5
  have x6 := block_cell q0 6
  simp at x0 x1 x2 x3 x4 x5 x6
  have hl0 := block_lt q0
  have Q0 := hide q0
  have Q1 := hide q1
  clear q0 q1
  go_wp2_with fail
  clear x0 x1 x2 x3 x4 x5 x6 hl0
  refine (er_new B1.out Q0.out Q1.out).mono ?_
  rintro e w2 ⟨p, rfl, G2⟩
  obtain ⟨base, e2⟩ := G2.out
  have E2 := hide e2
  clear e2 G2 B1 Q0 Q1
  have x0 := block_cell E2.out.rb 0
  have x1 := block_cell E2.out.rb 1
  have x2 := block_cell E2.out.rb 2
  have x3 := block_cell E2.out.rb 3
  have x4 := block_cell E2.out.rb 4
  have x5 := block_cell E2.out.rb 5
  have x6 := block_cell E2.out.rb 6
  have y0 := block_cell E2.out.nb 0
  have y1 := block_cell E2.out.nb 1
  have z0 := block_free E2.out.nb 0
  have z1 := block_free E2.out.nb 1
  simp at x0 x1 x2 x3 x4 x5 x6 y0 y1
  have hl0 := block_lt E2.out.rb
  have hl1 := block_lt E2.out.nb
  go_wp2_with fail
  clear x0 x1 x2 x3 x4 x5 x6 y0 y1 z0 z1 hl0 hl1
  refine (eFix E2.out 5 5 rfl).mono ?_
  rintro e w3 ⟨rfl, E3⟩
  clear E2
  have x0 := block_cell E3.out.rb 0
  have x1 := block_cell E3.out.rb 1
  have x2 := block_cell E3.out.rb 2
  have x3 := block_cell E3.out.rb 3
  have x4 := block_cell E3.out.rb 4
  have x5 := block_cell E3.out.rb 5
  have x6 := block_cell E3.out.rb 6
  have y0 := block_cell E3.out.nb 0
  have y1 := block_cell E3.out.nb 1
  have z0 := block_free E3.out.nb 0
  have z1 := block_free E3.out.nb 1
  simp at x0 x1 x2 x3 x4 x5 x6 y0 y1
  have hl0 := block_lt E3.out.rb
  have hl1 := block_lt E3.out.nb
  go_wp2_with fail
  clear x0 x1 x2 x3 x4 x5 x6 y0 y1 z0 z1 hl0 hl1
  refine (eNum E3.out slot hslot).mono ?_
  rintro e w4 ⟨rfl, E4⟩
  clear E3
  have x0 := block_cell E4.out.rb 0
  have x1 := block_cell E4.out.rb 1
  have x2 := block_cell E4.out.rb 2
  have x3 := block_cell E4.out.rb 3
  have x4 := block_cell E4.out.rb 4
  have x5 := block_cell E4.out.rb 5
  have x6 := block_cell E4.out.rb 6
  have y0 := block_cell E4.out.nb 0
  have y1 := block_cell E4.out.nb 1
  have z0 := block_free E4.out.nb 0
  have z1 := block_free E4.out.nb 1
  simp at x0 x1 x2 x3 x4 x5 x6 y0 y1
  have hl0 := block_lt E4.out.rb
  have hl1 := block_lt E4.out.nb
  go_wp2_with fail
  clear x0 x1 x2 x3 x4 x5 x6 y0 y1 z0 z1 hl0 hl1
  refine (eBlob E4.out HS.out HM.out).mono ?_
  rintro e w5 ⟨rfl, E5⟩
  clear E4
  have x0 := block_cell E5.out.rb 0
  have x1 := block_cell E5.out.rb 1
  have x2 := block_cell E5.out.rb 2
  have x3 := block_cell E5.out.rb 3
  have x4 := block_cell E5.out.rb 4
  have x5 := block_cell E5.out.rb 5
  have x6 := block_cell E5.out.rb 6
  have y0 := block_cell E5.out.nb 0
  have y1 := block_cell E5.out.nb 1
  have z0 := block_free E5.out.nb 0
  have z1 := block_free E5.out.nb 1
  simp at x0 x1 x2 x3 x4 x5 x6 y0 y1
  have hl0 := block_lt E5.out.rb
  have hl1 := block_lt E5.out.nb
  obtain ⟨vo, vn, vc, c2, FIN⟩ := er_end E5.out (.int .i64 0) (.int .i64 0)
  go_wp2
  refine bodyPost_ret (v := .tuple #[.slice vo vn vc, .agg #[.int .i64 0, .int .i64 0]]) (by simp [results, Tryz.results4, go_sem, y0, y1]) rfl ⟨_, rfl, ?_, FIN.out.2⟩
  have hL := congrArg WS.L HLL.out
  have hF := FIN.out.1
  have e : encRec 5 num node.toNat slot st rs m D = _ := hL.symm
  rw [e]
  exact hF
end Go.Proofs.YtlnfkooimpmahaaGreat
namespace Go.Proofs.YtlnfkooimpmahaaGreat
open Go.RowKit Crc

set_option maxRecDepth 10000 in
set_option maxHeartbeats 1600000 in
theorem en_no {k : Int} {w : World} {num : Nat} {node : Int} {slot st : Nat} {ro : Option Addr} {rs : List Rq} {b off : Nat} {n rc : Nat} {do_ : Option Addr} {m dc : Nat} {D : List Nat} (h : Rqs w.heap.size w ro rs b off) (hn : rs.length = n) (h0 : (rNo k num node slot st rs m).1 ≠ 0) : EnP w k num node slot st rs ro n rc do_ m dc D := by
  have HRR : Hid (rRes k num node slot st rs m D = []) := if_neg h0
  unfold EnP
  obtain ⟨W, hW⟩ : ∃ W, (w.alloc (.cells #[.int .i64 k, .int .u64 (num : Int), .int .i64 node, .int .u64 (slot : Int), .int .u64 (st : Int), .slice ro n rc, .slice do_ m dc] 31)).alloc (.cells #[.int .i64 0, .int .i64 0] 33) = W := ⟨_, rfl⟩
  obtain ⟨b0, q0, q1⟩ := bx_no hW
  have HNO := hide (recNo_any (k := k) (num := num) (node := node) (slot := slot) (st := st) (rc := rc) (do_ := do_) (m := m) (dc := dc) ((h.below b0).wide b0.size) hn)
  unfold NoP at HNO
  have B0 := hide b0
  have Q0 := hide q0
  have Q1 := hide q1
  have HW := hide hW
  clear b0 q0 q1 hW
  rw [HRR.out]
  clear h HRR
  generalize (rNo k num node slot st rs m).1 = c at *
  generalize (rNo k num node slot st rs m).2 = a at *
  go_enter Tryz.func4, Tryz.ntmps4
  go_wp2_with fail
  refine Calls.atW HW.out ?_
  clear HW
  refine HNO.out.mono ?_
  rintro e w1 ⟨rfl, b1⟩
  have B1 := hide (B0.out.trans (b1.out.mono B0.out.size))
  have q0 := (b1.out.block _ (block_lt Q0.out)).trans Q0.out
  have q1 := (b1.out.block _ (block_lt Q1.out)).trans Q1.out
  clear b1 HNO B0 Q0 Q1
  have hzb : (c != 0) = true := by simp [h0]
  have hl0 := block_lt q0
  have hlq := block_lt q1
  go_wp2_with fail
  obtain ⟨X, hX, t0, t1⟩ : ∃ X, w1.alloc (.cells #[.int .i64 c, .int .i64 a] 33) = X ∧ X.cell? ⟨w1.heap.size, 0, none⟩ = some (.int .i64 c) ∧ X.cell? ⟨w1.heap.size, 1, none⟩ = some (.int .i64 a) := ⟨_, rfl, World.cell?_alloc_new _ _ _ _, World.cell?_alloc_new _ _ _ _⟩
  have gA : w1.grownBy X none := by rw [← hX]; exact World.grownBy_alloc _ _ none
  have q2 := (gA.block _ (block_lt q1) (by simp)).trans q1
  have BX := hide (B1.out.grown gA B1.out.size (fun k e => by cases e))
  rw [hX]
  have y0 := block_cell q2 0
  have y1 := block_cell q2 1
  have z0 := block_free q2 0
  have z1 := block_free q2 1
  simp at y0 y1
  have hn1 : ¬ w.heap.size + 1 = w1.heap.size := by omega
  clear q0 q1 q2 gA hX B1 hl0 hlq
  generalize w1.heap.size = q at *
  go_region_held (fun w' => w'.cell? ⟨q, 0, none⟩ = some (.int .i64 c) ∧ w'.cell? ⟨q, 1, none⟩ = some (.int .i64 a)) (go_keep) (fail)
  go_wp2
  refine bodyPost_ret (v := .tuple #[.slice none 0 0, .agg #[.int .i64 c, .int .i64 a]]) (by simp [results, Tryz.results4, go_sem, y0, y1]) rfl ⟨_, rfl, ?_⟩
  have h := (fin_two (Owns.nil _ _) BX.out (.int .i64 c) (.int .i64 a)).2
  exact ⟨Owns.nil _ _, h.os, h.tape, h.output, h.size, h.block⟩

theorem encRec_ref {k : Int} {w : World} {num : Nat} {node : Int} {slot st : Nat} {ro : Option Addr} {rs : List Rq} {b off : Nat} {n rc : Nat} {do_ : Option Addr} {m dc : Nat} {D : List Nat} (hnum : num < 18446744073709551616) (hslot : slot < 18446744073709551616) (hst : st < 18446744073709551616) (h : Rqs w.heap.size w ro rs b off) (hn : rs.length = n) (hd : Shows w.heap.size w do_ m dc D) : EnP w k num node slot st rs ro n rc do_ m dc D := by
  by_cases h0 : (rNo k num node slot st rs m).1 = 0
  · obtain ⟨ok, _⟩ := rNo_ok h0
    have hk : k = 1 ∨ k = 2 ∨ k = 3 ∨ k = 4 ∨ k = 5 := by have := ok.k1; have := ok.k5; omega
    rcases hk with rfl | rfl | rfl | rfl | rfl
    · exact en_1 hnum hslot hst h hn hd h0
    · exact en_2 hnum hslot hst h hn hd h0
    · exact en_3 hnum hslot hst h hn hd h0
    · exact en_4 hnum hslot hst h hn hd h0
    · exact en_5 hnum hslot hst h hn hd h0
  · exact en_no h hn h0
end Go.Proofs.YtlnfkooimpmahaaGreat
