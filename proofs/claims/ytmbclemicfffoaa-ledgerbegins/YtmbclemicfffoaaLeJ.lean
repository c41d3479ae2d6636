import Derived.Test.YtmbclemicfffoaaLeI
namespace Go.Proofs.Ytmbclemicfffoaa
open Go.RowKit

theorem step_append_atA {P : Program} {ops : Array Oper} {o : Oper} {a : Act} {w : World} {K : Act → World → Prop} {Q : Exit → Act → World → Prop} {E : Prop}
    (hgd : o.guard = none) (s x : Operand) (t : TypeId) (ho : o.op = .call { callee := .builtin .append, args := #[s, x], argTypes := #[t, t] })
    (base : Nat) (e : TypeId) (i : TypeInfo) (z : Value) (size bytes : Nat) (ht : P.underlying t = some (.slice e)) (hi : P.info? e = some i) (hz : i.zero = some z)
    (hsize : i.size = size) (hby : i.bytes = bytes) (hzs : z.cells.size = size) (hsz : 0 < size)
    (v : Value) (n : Nat) (xs : List Value) (hs : a.eval s = v) (hown : w.ownsRow base e size v n xs)
    (ad : Addr) (m c : Nat) (news : List Value) (hx : a.eval x = .slice (some ad) m c) (hl : news.length = m * size) (hnews : ∀ j u, news[j]? = some u → w.cell? (ad.add j) = some u) (h1 : ∀ u ∈ news, u.oneCell' = true)
    (h63 : n + m ≤ maxLen) (hbytes : (n + m) * bytes ≤ 140737488355328) (hbase : base ≤ w.heap.size)
    (h : ∀ v' w', w'.ownsRow base e size v' (n + m) (xs ++ news) → w.grownBy w' v.ownBlock → K (a.put o.dst v') w') :
    if Region.wanted o (yielded ops a.tmps) = true then Oper.wp P o a w K Q else E := by
  have hw : Region.wanted o (yielded ops a.tmps) = true := by simp [Region.wanted, hgd]
  rw [if_pos hw]
  obtain ⟨v', w', hr, h2, h3, _, h5⟩ := run_append_own_at (P := P) w base t o.type e i z size bytes ht hi hz hsize hby hzs hsz v n xs hown ad m c news hl hnews h1 h63 hbytes hbase
  unfold Oper.wp execOp
  simp only [ho, resolve, invoke, builtin, Sem.run_bind, Sem.run_pure, Result.andThen_ok, List.map_toArray, List.map_cons, List.map_nil, hs, hx, hr]
  exact h v' w' h2 h3
/-- Between two rounds of Now. -/
structure Nq (w : World) (nb : Nat) (m : List Ac) (k : Nat) (v : Value) (wr : World) : Prop where
  bel : Below w.heap.size w wr
  res : wr.heap[w.heap.size]? = some (.cells #[.slice none 0 0, .slice none 0 0] 91 (0, 0))
  box : wr.heap[nb]? = some (.cells #[v, .slice none 0 0] 91 (0, 0))
  row : wr.ownsRow w.heap.size 37 4 v k (acells (m.take k))
set_option maxRecDepth 10000 in
set_option maxHeartbeats 8000000 in
theorem nowA {w : World} {p B : Nat} {m : List Ac} {s : Nat} (h : Bk w p B m s) (hin : ∀ x ∈ m, x.In) (hm : m.length ≤ 64) :
    Calls Try.prog 34 #[.pointer (some ⟨p, 0, none⟩)] w fun e w' => ∃ ao' cap', e = .returned (.agg #[.slice ao' m.length cap', .slice none 0 0]) ∧ Hid (w'.ownsRow w.heap.size 37 4 (.slice ao' m.length cap') m.length (acells m) ∧ Below w.heap.size w w') := by
  obtain ⟨i0, hi, hz0, hz1, hz2⟩ := info_parts infoAcc
  obtain ⟨ao2, cap2, hbk, hrow⟩ := h.v
  obtain ⟨mm, hmm⟩ : ∃ mm, m.length = mm := ⟨_, rfl⟩
  rw [hmm] at hbk hrow hm ⊢
  have HBK := hide hbk
  have HRW := hide hrow
  have HIN := hide hin
  have HM := hide hmm
  obtain ⟨W1, hW1⟩ : ∃ W1, (w.alloc (.cells #[.slice none 0 0, .slice none 0 0] 91)).alloc (.cells #[.slice none 0 0, .slice none 0 0] 91) = W1 := ⟨_, rfl⟩
  have hs1 : (w.alloc (.cells #[.slice none 0 0, .slice none 0 0] 91)).heap.size = w.heap.size + 1 := by simp
  have HS0 : Hid (Nq w (w.heap.size + 1) m 0 (.slice none 0 0) W1) := by
    rw [← hW1]
    refine ⟨((Below.refl _ w).alloc (Nat.le_refl _) _).alloc (by simp) _, (Below.heap_alloc _ _ _ (by simp)).trans (alloc_atK _ _), by rw [← hs1]; exact alloc_atK _ _, World.ownsRow_nil _ _ _ _⟩
  have KBK : Hid (∀ V, Below w.heap.size w V → V.cell? ⟨p, 0, none⟩ = some (.slice ao2 mm cap2) ∧ V.cell? ⟨p, 1, none⟩ = some (.slice none 0 0) ∧ V.cell? ⟨p, 5, none⟩ = some (.slice none 0 0) ∧ p < V.heap.size) := fun V hV => by
    have hb := (hV.block _ (block_lt HBK.out)).trans HBK.out
    exact ⟨block_cell hb 0, block_cell hb 1, block_cell hb 5, block_lt hb⟩
  have HW1 := hide hW1
  have HNB : Hid (w.heap.size + 1 ≠ w.heap.size) := hide (by omega)
  have HNL : Hid (w.heap.size ≤ w.heap.size + 1) := hide (by omega)
  clear h hbk hrow hin hmm hW1 hs1
  go_enter Try.func34, Try.ntmps34
  go_upto_region 2 with fail
  rw [HW1.out]
  clear HW1
  generalize w.heap.size + 1 = nb at *
  go_wp2
  go_loopw [4] (fun i wr => ∃ k : Nat, k ≤ mm ∧ i = .int .i64 k ∧ ∃ v, Hid (Nq w nb m k v wr)) (fun i _ => mm - (intOf i).toNat)
  case atStart => exact ⟨0, by omega, rfl, _, HS0.out⟩
  case round =>
    clear HS0
    obtain ⟨k, hk, rfl, v, HS⟩ := hrel
    obtain ⟨q0, q1, q5, ql⟩ := KBK.out wr HS.out.bel
    by_cases hlt : k < mm
    · obtain ⟨x, hx⟩ : ∃ x, m[k]? = some x := ⟨_, List.getElem?_eq_getElem (by have := HM.out; omega)⟩
      obtain ⟨g, rfl, hgl, hac⟩ : ∃ g, ao2 = some ⟨g, 0, none⟩ ∧ g < w.heap.size ∧ Acs w g 0 m := by
        have hr := HRW.out
        rcases hr.2 with ⟨e1, e2⟩ | ⟨g, cp, cur, e1, hbg, hg, _⟩
        · omega
        · cases e1
          exact ⟨g, rfl, block_lt hg, acs_of_row hr HIN.out⟩
      have HT := hide (take_step hx)
      have HXV : Hid (x.vals = [.int .u64 (x.id : Int), .int .u64 (x.ow : Int), .int .u64 (x.ba : Int), .int .u64 (x.cp : Int)]) := rfl
      obtain ⟨wd, hwd⟩ : ∃ wd, wr.drew = wd := ⟨_, rfl⟩
      have HSD : Hid (Nq w nb m k v wd) := by
        rw [← hwd]
        exact ⟨HS.out.bel.drew, HS.out.res, HS.out.box, HS.out.row⟩
      have KS2 : Hid (∀ V, Hid (Below w.heap.size w V ∧ nb < V.heap.size) → V.cell? ⟨p, 0, none⟩ = some (.slice (some ⟨g, 0, none⟩) mm cap2) ∧ p < V.heap.size ∧ V.cell? ⟨g, k * 4, none⟩ = some (.int .u64 (x.id : Int)) ∧ V.cell? ⟨g, k * 4 + 1, none⟩ = some (.int .u64 (x.ow : Int)) ∧ V.cell? ⟨g, k * 4 + 2, none⟩ = some (.int .u64 (x.ba : Int)) ∧ V.cell? ⟨g, k * 4 + 3, none⟩ = some (.int .u64 (x.cp : Int)) ∧ g < V.heap.size ∧ nb < V.heap.size) := fun V hV => by
        obtain ⟨a0, _, _, al⟩ := KBK.out V hV.out.1
        obtain ⟨c0, c1, c2, c3⟩ := (hac.below hV.out.1 (fun _ => hgl)).four hx
        simp only [Nat.zero_add] at c0 c1 c2 c3
        exact ⟨a0, al, c0, c1, c2, c3, Nat.lt_of_lt_of_le hgl hV.out.1.size, hV.out.2⟩
      have HY0 : Hid (Below w.heap.size w wd ∧ nb < wd.heap.size) := ⟨HSD.out.bel, block_lt HSD.out.box⟩
      have x0 : wd.cell? ⟨nb, 0, none⟩ = some v := block_cell HSD.out.box 0
      have KA1 : Hid (∀ o, (World.alloc wd o).cell? ⟨nb, 0, none⟩ = some v) := fun o => block_cell ((Below.heap_alloc _ _ _ (block_lt HSD.out.box)).trans HSD.out.box) 0
      have KA2 : Hid (∀ o, Hid (Below w.heap.size w (World.alloc wd o) ∧ nb < (World.alloc wd o).heap.size)) := fun o => ⟨HSD.out.bel.alloc HSD.out.bel.size o, block_lt ((Below.heap_alloc _ _ _ (block_lt HSD.out.box)).trans HSD.out.box)⟩
      have KA3 : Hid (∀ o, (World.alloc wd o).ownsRow w.heap.size 37 4 v k (acells (m.take k))) := fun o => HSD.out.row.alloc o
      have KA4 : Hid (∀ o, w.heap.size ≤ (World.alloc wd o).heap.size) := fun o => (KA2.out o).out.1.size
      have KA5 : Hid (∀ o v5 w6, w6.ownsRow w.heap.size 37 4 v5 (k + 1) (acells (m.take k) ++ [.int .u64 (x.id : Int), .int .u64 (x.ow : Int), .int .u64 (x.ba : Int), .int .u64 (x.cp : Int)]) → (World.alloc wd o).grownBy w6 v.ownBlock → ∃ ap cap6, v5 = .slice ap (k + 1) cap6 ∧ Hid (Below w.heap.size w w6 ∧ nb < w6.heap.size) ∧ w6.cell? ⟨nb, 0, none⟩ = some v ∧ Hid (w6.ownsRow w.heap.size 37 4 v5 (k + 1) (acells (m.take (k + 1))) ∧ w6.heap[w.heap.size]? = some (.cells #[.slice none 0 0, .slice none 0 0] 91 (0, 0)) ∧ w6.heap[nb]? = some (.cells #[v, .slice none 0 0] 91 (0, 0)))) := fun o v5 w6 ho hg => by
        have hra := KA3.out o
        have hb1 := (Below.heap_alloc wd o _ (block_lt HSD.out.box)).trans HSD.out.box
        have hb2 := (Below.heap_alloc wd o _ (block_lt HSD.out.res)).trans HSD.out.res
        have b1 := (hg.block _ (block_lt hb1) (fun e => row_ne_cells hra hb1 (by decide) e.symm)).trans hb1
        have b2 := (hg.block _ (block_lt hb2) (fun e => row_ne_cells hra hb2 (by decide) e.symm)).trans hb2
        obtain ⟨g6, cap6, e6⟩ := ownsRow_succ ho
        rw [← HXV.out, HT.out] at ho
        exact ⟨_, cap6, e6, ⟨(KA2.out o).out.1.grown hg (KA4.out o) (fun j e => (hra.lt j e).1), block_lt b1⟩, block_cell b1 0, ho, b2, b1⟩
      have KFz : Hid (∀ {v5 : Value} (w6 : World), Hid (w6.ownsRow w.heap.size 37 4 v5 (k + 1) (acells (m.take (k + 1))) ∧ w6.heap[w.heap.size]? = some (.cells #[.slice none 0 0, .slice none 0 0] 91 (0, 0)) ∧ w6.heap[nb]? = some (.cells #[v, .slice none 0 0] 91 (0, 0))) → w6.frozen? ⟨nb, 0, none⟩ = false) := fun w6 h6 => block_free h6.out.2.2 0
      have KN9 : Hid (∀ ap cap6 (w6 : World), Hid (Below w.heap.size w w6 ∧ nb < w6.heap.size) → Hid (w6.ownsRow w.heap.size 37 4 (.slice ap (k + 1) cap6) (k + 1) (acells (m.take (k + 1))) ∧ w6.heap[w.heap.size]? = some (.cells #[.slice none 0 0, .slice none 0 0] 91 (0, 0)) ∧ w6.heap[nb]? = some (.cells #[v, .slice none 0 0] 91 (0, 0))) → Hid (Hid (Below w.heap.size w (w6.setCell ⟨nb, 0, none⟩ (.slice ap (k + 1) cap6)) ∧ nb < (w6.setCell ⟨nb, 0, none⟩ (.slice ap (k + 1) cap6)).heap.size) ∧ Nq w nb m (k + 1) (.slice ap (k + 1) cap6) (w6.setCell ⟨nb, 0, none⟩ (.slice ap (k + 1) cap6)))) := fun ap cap6 w6 hb h6 => by
        have hg := grown_set w6 nb 0 (.slice ap (k + 1) cap6)
        have hbl := hb.out.1.grown hg hb.out.1.size (fun j e => by cases e; exact HNL.out)
        refine ⟨⟨hbl, Nat.lt_of_lt_of_le hb.out.2 hg.size⟩, hbl, (hg.block _ (block_lt h6.out.2.1) (fun e => HNB.out (Option.some.inj e).symm)).trans h6.out.2.1, heap_setCell_same w6 nb 0 _ _ _ h6.out.2.2, h6.out.1.kept hg (.inr (row_ne_cells h6.out.1 h6.out.2.2 (by decide)))⟩
      have HWD := hide hwd
      clear hx hac hgl hwd HS HSD HT HXV
      generalize (x.id : Int) = X0 at *
      generalize (x.ow : Int) = X1 at *
      generalize (x.ba : Int) = X2 at *
      generalize (x.cp : Int) = X3 at *
      go_upto_region 5 with fail
      clear q0 q1 q5 ql
      obtain rfl := HWD.out
      refine wp_region_L 12 (fun V => V.cell? ⟨nb, 0, none⟩ = some v) (fun V => V.cell? ⟨p, 0, none⟩ = some (.slice (some ⟨g, 0, none⟩) mm cap2) ∧ p < V.heap.size ∧ V.cell? ⟨g, k * 4, none⟩ = some (.int .u64 X0) ∧ V.cell? ⟨g, k * 4 + 1, none⟩ = some (.int .u64 X1) ∧ V.cell? ⟨g, k * 4 + 2, none⟩ = some (.int .u64 X2) ∧ V.cell? ⟨g, k * 4 + 3, none⟩ = some (.int .u64 X3) ∧ g < V.heap.size ∧ nb < V.heap.size) (by kernel_rfl) x0 (KS2.out _ HY0) (fun hS0 => ?_)
      refine wpAnyL_take (i := 0) (oi := { dst := some 17, op := Op.fieldAddr 91 (Operand.tmp 3) 0, type := 0, pos := "ledger.go:157", after := #[], guard := none }) (v := .pointer (some ⟨nb, 0, none⟩)) rfl (by decide) (by kernel_rfl) (by kernel_rfl) (by kernel_rfl) (fun _ _ _ h => h) (Or.inl ⟨by rfl, fun w2 hSw => ?_⟩) hS0 (fun hS1 => ?_)
      · obtain ⟨r0, r1, r2, r3, r4, r5, r6, r7⟩ := hSw
        go_simp
      simp only [Act.put, List.setIfInBounds_toArray, List.set_cons_zero, List.set_cons_succ]
      clear hS0
      refine wpAnyL_take (i := 2) (oi := { dst := some 19, op := Op.move (Operand.tmp 0), type := 24, pos := "ledger.go:157", after := #[], guard := none }) (v := .pointer (some ⟨p, 0, none⟩)) rfl (by decide) (by kernel_rfl) (by kernel_rfl) (by kernel_rfl) (fun _ _ _ h => h) (Or.inl ⟨by rfl, fun w2 hSw => ?_⟩) hS1 (fun hS2 => ?_)
      · obtain ⟨r0, r1, r2, r3, r4, r5, r6, r7⟩ := hSw
        go_simp
      simp only [Act.put, List.setIfInBounds_toArray, List.set_cons_zero, List.set_cons_succ]
      clear hS1
      refine wpAnyL_take (i := 3) (oi := { dst := some 20, op := Op.nilCheck (Operand.tmp 19), type := 0, pos := "ledger.go:157", after := #[{ on := 2, ground := Ground.data }], guard := none }) (v := .pointer (some ⟨p, 0, none⟩)) rfl (by decide) (by kernel_rfl) (by kernel_rfl) (by kernel_rfl) (fun _ _ _ h => h) (Or.inl ⟨by rfl, fun w2 hSw => ?_⟩) hS2 (fun hS3 => ?_)
      · obtain ⟨r0, r1, r2, r3, r4, r5, r6, r7⟩ := hSw
        go_simp
      simp only [Act.put, List.setIfInBounds_toArray, List.set_cons_zero, List.set_cons_succ]
      clear hS2
      refine wpAnyL_take (i := 4) (oi := { dst := some 21, op := Op.fieldAddr 35 (Operand.tmp 20) 0, type := 0, pos := "ledger.go:157", after := #[{ on := 3, ground := Ground.data }], guard := none }) (v := .pointer (some ⟨p, 0, none⟩)) rfl (by decide) (by kernel_rfl) (by kernel_rfl) (by kernel_rfl) (fun _ _ _ h => h) (Or.inl ⟨by rfl, fun w2 hSw => ?_⟩) hS3 (fun hS4 => ?_)
      · obtain ⟨r0, r1, r2, r3, r4, r5, r6, r7⟩ := hSw
        go_simp
      simp only [Act.put, List.setIfInBounds_toArray, List.set_cons_zero, List.set_cons_succ]
      clear hS3
      refine wpAnyL_take (i := 5) (oi := { dst := some 22, op := Op.load 22 (Operand.tmp 21), type := 22, pos := "ledger.go:157", after := #[{ on := 4, ground := Ground.data }], guard := none }) (v := .slice (some ⟨g, 0, none⟩) mm cap2) rfl (by decide) (by kernel_rfl) (by kernel_rfl) (by kernel_rfl) (fun _ _ _ h => h) (Or.inl ⟨by rfl, fun w2 hSw => ?_⟩) hS4 (fun hS5 => ?_)
      · obtain ⟨r0, r1, r2, r3, r4, r5, r6, r7⟩ := hSw
        go_simp
      simp only [Act.put, List.setIfInBounds_toArray, List.set_cons_zero, List.set_cons_succ]
      clear hS4
      refine wpAnyL_take (i := 6) (oi := { dst := some 23, op := Op.move (Operand.tmp 4), type := 3, pos := "ledger.go:157", after := #[], guard := none }) (v := .int .i64 k) rfl (by decide) (by kernel_rfl) (by kernel_rfl) (by kernel_rfl) (fun _ _ _ h => h) (Or.inl ⟨by rfl, fun w2 hSw => ?_⟩) hS5 (fun hS6 => ?_)
      · obtain ⟨r0, r1, r2, r3, r4, r5, r6, r7⟩ := hSw
        go_simp
      simp only [Act.put, List.setIfInBounds_toArray, List.set_cons_zero, List.set_cons_succ]
      clear hS5
      refine wpAnyL_take (i := 7) (oi := { dst := some 24, op := Op.indexAddr 22 (Operand.tmp 22) (Operand.tmp 23), type := 0, pos := "ledger.go:157", after := #[{ on := 5, ground := Ground.data }, { on := 6, ground := Ground.data }], guard := none }) (v := .pointer (some ⟨g, k * 4, none⟩)) rfl (by decide) (by kernel_rfl) (by kernel_rfl) (by kernel_rfl) (fun _ _ _ h => h) (Or.inl ⟨by rfl, fun w2 hSw => ?_⟩) hS6 (fun hS7 => ?_)
      · obtain ⟨r0, r1, r2, r3, r4, r5, r6, r7⟩ := hSw
        go_simp
      simp only [Act.put, List.setIfInBounds_toArray, List.set_cons_zero, List.set_cons_succ]
      clear hS6
      refine wpAnyL_take (i := 8) (oi := { dst := some 25, op := Op.load 37 (Operand.tmp 24), type := 37, pos := "ledger.go:157", after := #[{ on := 7, ground := Ground.data }], guard := none }) (v := .agg #[.int .u64 X0, .int .u64 X1, .int .u64 X2, .int .u64 X3]) rfl (by decide) (by kernel_rfl) (by kernel_rfl) (by kernel_rfl) (fun _ _ _ h => h) (Or.inl ⟨by rfl, fun w2 hSw => ?_⟩) hS7 (fun hS8 => ?_)
      · obtain ⟨r0, r1, r2, r3, r4, r5, r6, r7⟩ := hSw
        go_simp
      simp only [Act.put, List.setIfInBounds_toArray, List.set_cons_zero, List.set_cons_succ]
      clear hS7
      refine wpAnyL_take1 (i := 1) (oi := { dst := some 18, op := Op.load 22 (Operand.tmp 17), type := 22, pos := "ledger.go:157", after := #[{ on := 0, ground := Ground.data }], guard := none }) (v := v) rfl (by decide) (by kernel_rfl) (by kernel_rfl) (by kernel_rfl) (fun _ _ _ h => h) (Or.inl ⟨by rfl, fun w2 hSw => ?_⟩) hS8 (by kernel_rfl) (og := { dst := none, op := Op.store 22 (Operand.tmp 28) (Operand.tmp 27), type := 0, pos := "ledger.go:157", after := #[{ on := 11, ground := Ground.data }, { on := 10, ground := Ground.data }, { on := 10, ground := Ground.chain }, { on := 0, ground := Ground.phase }, { on := 1, ground := Ground.phase }, { on := 2, ground := Ground.phase }, { on := 3, ground := Ground.phase }, { on := 4, ground := Ground.phase }, { on := 5, ground := Ground.phase }, { on := 6, ground := Ground.phase }, { on := 7, ground := Ground.phase }, { on := 8, ground := Ground.phase }, { on := 9, ground := Ground.phase }, { on := 10, ground := Ground.phase }], guard := none }) rfl (by kernel_rfl) (fun hS9 => ?_)
      · go_simp
      simp only [Act.put, List.setIfInBounds_toArray, List.set_cons_zero, List.set_cons_succ]
      clear hS8
      refine wpAnyL_one (i := 9) (o := { dst := some 26, op := Op.buildSlice 22 1 #[(0, Operand.tmp 25)], type := 22, pos := "ledger.go:157", after := #[{ on := 8, ground := Ground.data }], guard := none }) (by kernel_rfl) rfl (fun K hK => ?_)
      clear hS9
      go_simp
      refine hK.out _ _ ⟨fun _ => KA1.out _, KS2.out _ (KA2.out _)⟩ ?_
      clear hK K
      refine wpAnyL_one (i := 10) (o := { dst := some 27, op := Op.call { callee := Callee.builtin Builtin.append, args := #[Operand.tmp 18, Operand.tmp 26], argTypes := #[22, 22] }, type := 22, pos := "ledger.go:157", after := #[{ on := 1, ground := Ground.data }, { on := 9, ground := Ground.data }], guard := none }) (by kernel_rfl) rfl (fun K hK => ?_)
      refine step_append_atA rfl (.tmp 18) (.tmp 26) 22 rfl w.heap.size 37 i0 (.agg #[.int .u64 0, .int .u64 0, .int .u64 0, .int .u64 0]) 4 32 Try.underlying22 hi hz0 hz1 hz2 rfl (by decide) v k (acells (m.take k)) (by simp [Act.eval]) (KA3.out _) ⟨wr.heap.size, 0, none⟩ 1 1 [.int .u64 X0, .int .u64 X1, .int .u64 X2, .int .u64 X3] (by simp [Act.eval]) rfl (cells_acc _ _ _ _ _ _) (by simp [Value.oneCell']) (by unfold maxLen; omega) (by omega) (KA4.out _) ?_
      intro v5 w6 ho hg
      obtain ⟨ap, cap6, rfl, HY6, n6, HN6⟩ := KA5.out _ v5 w6 ho hg
      clear ho hg
      simp only [Act.put, List.setIfInBounds_toArray, List.set_cons_zero, List.set_cons_succ]
      have kk := KS2.out _ HY6
      refine hK.out _ _ ⟨fun _ => n6, kk⟩ ?_
      clear hK K
      have k7 := kk.2.2.2.2.2.2.2
      refine wpAnyL_one (i := 11) (o := { dst := some 28, op := Op.fieldAddr 91 (Operand.tmp 3) 0, type := 0, pos := "ledger.go:157", after := #[{ on := 0, ground := Ground.phase }, { on := 1, ground := Ground.phase }, { on := 2, ground := Ground.phase }, { on := 3, ground := Ground.phase }, { on := 4, ground := Ground.phase }, { on := 5, ground := Ground.phase }, { on := 6, ground := Ground.phase }, { on := 7, ground := Ground.phase }, { on := 8, ground := Ground.phase }, { on := 9, ground := Ground.phase }, { on := 10, ground := Ground.phase }], guard := none }) (by kernel_rfl) rfl (fun K hK => ?_)
      go_simp
      refine hK.out _ _ ⟨fun _ => n6, kk⟩ ?_
      clear hK K
      have kf := KFz.out _ HN6
      refine wpAnyL_one (i := 12) (o := { dst := none, op := Op.store 22 (Operand.tmp 28) (Operand.tmp 27), type := 0, pos := "ledger.go:157", after := #[{ on := 11, ground := Ground.data }, { on := 10, ground := Ground.data }, { on := 10, ground := Ground.chain }, { on := 0, ground := Ground.phase }, { on := 1, ground := Ground.phase }, { on := 2, ground := Ground.phase }, { on := 3, ground := Ground.phase }, { on := 4, ground := Ground.phase }, { on := 5, ground := Ground.phase }, { on := 6, ground := Ground.phase }, { on := 7, ground := Ground.phase }, { on := 8, ground := Ground.phase }, { on := 9, ground := Ground.phase }, { on := 10, ground := Ground.phase }], guard := none }) (by kernel_rfl) rfl (fun K hK => ?_)
      go_simp
      have HY9 := KN9.out _ _ _ HY6 HN6
      refine hK.out _ _ ⟨fun e => absurd e (by decide), KS2.out _ HY9.out.1⟩ ?_
      clear hK K
      refine wpAnyL_done (by kernel_rfl) ?_ _
      clear KS2 KA1 KA2 KA3 KA4 KA5 KFz KN9 HY0 HY6 n6 HN6 kk k7 kf x0
      go_wp2
      go_roundw
      case rel => exact ⟨k + 1, by omega, by go_num, _, HY9.out.2⟩
      case measure => simp [intOf]; omega
    · obtain rfl : mm = k := by omega
      have e : m.take mm = m := by rw [← HM.out, List.take_length]
      have hrw := HS.out.row
      rw [e] at hrw
      obtain ⟨ao', cap', rfl⟩ : ∃ ao' cap', v = .slice ao' mm cap' := by
        rcases hrw.2 with ⟨rfl, h0⟩ | ⟨g, cap, cur, rfl, _⟩
        · exact ⟨none, 0, by rw [h0]⟩
        · exact ⟨_, cap, rfl⟩
      have HR := hide hrw
      clear hrw e
      go_wp2
      go_loopw [5] (fun i wq => i = .int .i64 0 ∧ Hid (wq = wr)) (fun _ _ => 0)
      case atStart => exact ⟨rfl, rfl⟩
      case round =>
        obtain ⟨rfl, HW⟩ := hrel
        obtain rfl := HW.out
        go_wp2
        go_loopw [6] (fun i wq => i = .int .i64 0 ∧ Hid (wq = wr)) (fun _ _ => 0)
        case atStart => exact ⟨rfl, rfl⟩
        case round =>
          obtain ⟨rfl, HW2⟩ := hrel
          obtain rfl := HW2.out
          have hrs := HS.out.res
          have y0 := block_cell hrs 0
          have y1 := block_cell hrs 1
          have f0 := block_free hrs 0
          have f1 := block_free hrs 1
          have yl := block_lt hrs
          have hbx := HS.out.box
          have z0 := block_cell hbx 0
          have z1 := block_cell hbx 1
          have zl := block_lt hbx
          have FIN := hide (fun (V : World) (u0 u1 : Value) => grown_two (grown_set V w.heap.size 0 u0) (grown_set (V.setCell ⟨w.heap.size, 0, none⟩ u0) w.heap.size 1 u1))
          have HRS := hide hrs
          have HBL := hide HS.out.bel
          simp at y0 y1 z0 z1
          clear hrs hbx HS HW HW2
          go_wp2
          refine bodyPost_ret (v := .agg #[.slice ao' mm cap', .slice none 0 0]) (by simp [results, Try.results34, go_sem, y0, y1]) rfl ⟨ao', cap', rfl, ?_, ?_⟩
          · exact HR.out.kept (FIN.out _ _ _) (.inr (row_ne_cells HR.out HRS.out (by decide)))
          · exact HBL.out.grown (FIN.out _ _ _) HBL.out.size (fun j e => by cases e; exact Nat.le_refl _)
end Go.Proofs.Ytmbclemicfffoaa
