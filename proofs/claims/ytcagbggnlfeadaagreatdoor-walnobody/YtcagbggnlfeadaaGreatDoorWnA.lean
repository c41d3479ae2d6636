import Derived.Test.YtcagbggnlfeadaaGreatDoorWKd
import Derived.Test.YtcagbggnlfeadaaGreatDoorWLn
namespace Go.Proofs.YtcagbggnlfeadaaGreatDoor
open Go.RowKit Crc

theorem below_alloc1 (W : World) (o : Obj) : Below W.heap.size W (W.alloc o) := (Below.refl _ W).alloc (Nat.le_refl _) _
theorem map_nilW (w : World) : (binOp BinOp.neq 25 (.map none) (.map none)).run Tryz.prog w = .ok (.bool false) w := by kernel_rfl
/-- A disk that no call gave: nil, or plain. -/
def Dn (W : World) (v : Value) : Prop := v = .pointer none ∨ ∃ p, v = .pointer (some ⟨p, 0, none⟩) ∧ W.cell? ⟨p, 0, none⟩ = some (.map none) ∧ p < W.heap.size
theorem Dn.kept {W W' : World} {v : Value} (h : Dn W v) (hb : Below W.heap.size W W') : Dn W' v := by
  rcases h with h | ⟨p, h1, h2, h3⟩
  · exact .inl h
  · exact .inr ⟨p, h1, (hb.cell (p := ⟨p, 0, none⟩) h3).trans h2, Nat.lt_of_lt_of_le h3 hb.size⟩
/-- A log that no call gave: nil, or plain. -/
def Gn (W : World) (v : Value) : Prop := v = .pointer none ∨ ∃ p, v = .pointer (some ⟨p, 0, none⟩) ∧ W.cell? ⟨p, 0, none⟩ = some (.pointer none) ∧ p < W.heap.size
theorem Gn.kept {W W' : World} {v : Value} (h : Gn W v) (hb : Below W.heap.size W W') : Gn W' v := by
  rcases h with h | ⟨p, h1, h2, h3⟩
  · exact .inl h
  · exact .inr ⟨p, h1, (hb.cell (p := ⟨p, 0, none⟩) h3).trans h2, Nat.lt_of_lt_of_le h3 hb.size⟩
set_option maxRecDepth 10000 in
theorem madeD {W : World} {v : Value} (h : Dn W v) : Calls Tryz.prog 24 #[v] W fun e w' => e = .returned (.bool false) ∧ w' = W := by
  rcases h with rfl | ⟨p, rfl, q0, ql⟩
  · go_enter Tryz.func24, Tryz.ntmps24
    go_wp2
    go_ret
    exact ⟨rfl, rfl⟩
  · have hm := map_nilW W
    go_enter Tryz.func24, Tryz.ntmps24
    go_wp2
    go_ret
    exact ⟨rfl, rfl⟩
set_option maxRecDepth 10000 in
theorem aliveD {W : World} {v : Value} (h : Dn W v) : Calls Tryz.prog 32 #[v] W fun e w' => e = .returned (.int .i64 3) ∧ w' = W := by
  have HM := hide (madeD h)
  clear h
  go_enter Tryz.func32, Tryz.ntmps32
  go_wp2_with fail
  refine HM.out.mono ?_
  rintro e w1 ⟨rfl, rfl⟩
  go_wp2
  go_ret
  exact ⟨rfl, rfl⟩
set_option maxRecDepth 10000 in
theorem writableD {W : World} {v : Value} (h : Dn W v) (f : Int) : Calls Tryz.prog 37 #[v, .int .u64 f] W fun e w' => e = .returned (.tuple #[.pointer none, .int .i64 3]) ∧ w' = W := by
  have HM := hide (aliveD h)
  clear h
  go_enter Tryz.func37, Tryz.ntmps37
  go_wp2_with fail
  refine HM.out.mono ?_
  rintro e w1 ⟨rfl, rfl⟩
  go_wp2
  go_ret2
  exact ⟨rfl, rfl⟩
set_option maxRecDepth 10000 in
theorem createD {W : World} {v : Value} (h : Dn W v) (f : Int) : Calls Tryz.prog 8 #[v, .int .u64 f] W fun e w' => e = .returned (.int .i64 3) ∧ w' = W := by
  have HM := hide (aliveD h)
  clear h
  go_enter Tryz.func8, Tryz.ntmps8
  go_wp2_with fail
  refine HM.out.mono ?_
  rintro e w1 ⟨rfl, rfl⟩
  go_wp2
  go_ret
  exact ⟨rfl, rfl⟩
set_option maxRecDepth 10000 in
theorem appendD {W : World} {v : Value} (h : Dn W v) (f : Int) (a : Option Addr) (n c : Nat) : Calls Tryz.prog 9 #[v, .int .u64 f, .slice a n c] W fun e w' => e = .returned (.int .i64 3) ∧ w' = W := by
  have HM := hide (writableD h f)
  clear h
  go_enter Tryz.func9, Tryz.ntmps9
  go_wp2_with fail
  refine HM.out.mono ?_
  rintro e w1 ⟨rfl, rfl⟩
  go_wp2
  go_ret
  exact ⟨rfl, rfl⟩
set_option maxRecDepth 10000 in
theorem syncD {W : World} {v : Value} (h : Dn W v) (f : Int) : Calls Tryz.prog 11 #[v, .int .u64 f] W fun e w' => e = .returned (.int .i64 3) ∧ w' = W := by
  have HM := hide (writableD h f)
  clear h
  go_enter Tryz.func11, Tryz.ntmps11
  go_wp2_with fail
  refine HM.out.mono ?_
  rintro e w1 ⟨rfl, rfl⟩
  go_wp2
  go_ret
  exact ⟨rfl, rfl⟩
set_option maxRecDepth 10000 in
theorem cutD {W : World} {v : Value} (h : Dn W v) (f n : Int) : Calls Tryz.prog 12 #[v, .int .u64 f, .int .i64 n] W fun e w' => e = .returned (.int .i64 3) ∧ w' = W := by
  have HM := hide (writableD h f)
  clear h
  go_enter Tryz.func12, Tryz.ntmps12
  go_wp2_with fail
  refine HM.out.mono ?_
  rintro e w1 ⟨rfl, rfl⟩
  go_wp2
  go_ret
  exact ⟨rfl, rfl⟩
set_option maxRecDepth 10000 in
theorem removeD {W : World} {v : Value} (h : Dn W v) (f : Int) : Calls Tryz.prog 13 #[v, .int .u64 f] W fun e w' => e = .returned (.int .i64 3) ∧ w' = W := by
  have HM := hide (writableD h f)
  clear h
  go_enter Tryz.func13, Tryz.ntmps13
  go_wp2_with fail
  refine HM.out.mono ?_
  rintro e w1 ⟨rfl, rfl⟩
  go_wp2
  go_ret
  exact ⟨rfl, rfl⟩
set_option maxRecDepth 10000 in
theorem readD {W : World} {v : Value} (h : Dn W v) (f : Int) : Calls Tryz.prog 14 #[v, .int .u64 f] W fun e w' => e = .returned (.tuple #[.slice none 0 0, .int .i64 3]) ∧ w' = W := by
  have HM := hide (madeD h)
  clear h
  go_enter Tryz.func14, Tryz.ntmps14
  go_wp2_with fail
  refine HM.out.mono ?_
  rintro e w1 ⟨rfl, rfl⟩
  go_wp2
  go_ret2
  exact ⟨rfl, rfl⟩
set_option maxRecDepth 10000 in
theorem fuseD {W : World} {v : Value} (h : Dn W v) (n : Int) : Calls Tryz.prog 6 #[v, .int .i64 n] W fun e w' => e = .returned (.tuple #[]) ∧ w' = W := by
  have HM := hide (aliveD h)
  clear h
  go_enter Tryz.func6, Tryz.ntmps6
  go_wp2_with fail
  refine HM.out.mono ?_
  rintro e w1 ⟨rfl, rfl⟩
  go_wp2
  go_end0
  exact ⟨rfl, rfl⟩
set_option maxRecDepth 10000 in
theorem crashD {W : World} {v : Value} (h : Dn W v) (t : Value) : Calls Tryz.prog 7 #[v, t] W fun e w' => e = .returned (.tuple #[]) ∧ w' = W := by
  have HM := hide (madeD h)
  clear h
  go_enter Tryz.func7, Tryz.ntmps7
  go_wp2_with fail
  refine HM.out.mono ?_
  rintro e w1 ⟨rfl, rfl⟩
  go_wp2
  refine bodyPost_ret (v := .tuple #[]) (by simp [results, Tryz.results7, go_sem]) rfl ?_
  exact ⟨rfl, rfl⟩
set_option maxRecDepth 10000 in
theorem closedG {W : World} {v : Value} (h : Gn W v) : Calls Tryz.prog 39 #[v] W fun e w' => e = .returned (.int .i64 3) ∧ w' = W := by
  rcases h with rfl | ⟨p, rfl, q0, ql⟩
  · go_enter Tryz.func39, Tryz.ntmps39
    go_wp2
    go_ret
    exact ⟨rfl, rfl⟩
  · go_enter Tryz.func39, Tryz.ntmps39
    go_wp2
    go_ret
    exact ⟨rfl, rfl⟩
set_option maxRecDepth 10000 in
theorem lenG {W : World} {v : Value} (h : Gn W v) : Calls Tryz.prog 20 #[v] W fun e w' => e = .returned (.int .i64 0) ∧ w' = W := by
  have HM := hide (closedG h)
  clear h
  go_enter Tryz.func20, Tryz.ntmps20
  go_wp2_with fail
  refine HM.out.mono ?_
  rintro e w1 ⟨rfl, rfl⟩
  go_wp2
  go_ret
  exact ⟨rfl, rfl⟩
set_option maxRecDepth 10000 in
theorem safeG {W : World} {v : Value} (h : Gn W v) : Calls Tryz.prog 21 #[v] W fun e w' => e = .returned (.int .i64 0) ∧ w' = W := by
  have HM := hide (closedG h)
  clear h
  go_enter Tryz.func21, Tryz.ntmps21
  go_wp2_with fail
  refine HM.out.mono ?_
  rintro e w1 ⟨rfl, rfl⟩
  go_wp2
  go_ret
  exact ⟨rfl, rfl⟩
/-- The refusal of nobody. -/
def Nf (w : World) (v : Value) : Prop := Chain w.heap.size w [⟨⟨#[119, 97, 108]⟩, 0⟩] v 3
set_option maxRecDepth 10000 in
theorem zeroW (w : World) : Calls Tryz.prog 25 #[.int .i64 0, .iface 43 (.int .i64 3)] w fun e w' => ∃ v, e = .returned v ∧ Hid (Nf w' v ∧ Below w.heap.size w w') :=
  (refusalW 0 3 w).mono (by
    rintro e w' ⟨v, rfl, hv, ⟨g, hg, c0, c1, c2⟩, hb⟩
    refine ⟨v, rfl, ⟨g, _, hg, World.block_lt_of_cell? w' _ c0, c0, c1, c2, rfl⟩, hb⟩)
set_option maxRecDepth 10000 in
theorem appendG {W : World} {v : Value} (h : Gn W v) (a : Option Addr) (n c : Nat) : Calls Tryz.prog 15 #[v, .slice a n c] W fun e w' => ∃ f, e = .returned (.tuple #[.int .i64 0, f]) ∧ Hid (Nf w' f ∧ Below W.heap.size W w') := by
  have HM := hide (closedG h)
  have HZ := hide (zeroW W)
  clear h
  go_enter Tryz.func15, Tryz.ntmps15
  go_wp2_with fail
  refine HM.out.mono ?_
  rintro e w1 ⟨rfl, hw⟩
  rw [hw]
  go_wp2_with fail
  refine HZ.out.mono ?_
  rintro e w2 ⟨f, rfl, G⟩
  go_wp2
  go_ret2
  exact ⟨f, rfl, G⟩
set_option maxRecDepth 10000 in
theorem syncG {W : World} {v : Value} (h : Gn W v) : Calls Tryz.prog 17 #[v] W fun e w' => ∃ f, e = .returned f ∧ Hid (Nf w' f ∧ Below W.heap.size W w') := by
  have HM := hide (closedG h)
  have HZ := hide (zeroW W)
  clear h
  go_enter Tryz.func17, Tryz.ntmps17
  go_wp2_with fail
  refine HM.out.mono ?_
  rintro e w1 ⟨rfl, hw⟩
  rw [hw]
  go_wp2_with fail
  refine HZ.out.mono ?_
  rintro e w2 ⟨f, rfl, G⟩
  go_wp2
  go_ret
  exact ⟨f, rfl, G⟩
end Go.Proofs.YtcagbggnlfeadaaGreatDoor
