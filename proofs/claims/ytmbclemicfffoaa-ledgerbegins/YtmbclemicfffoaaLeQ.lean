import Derived.Test.YtmbclemicfffoaaLeP
namespace Go.Proofs.Ytmbclemicfffoaa
open Go.RowKit

theorem row_acs {W : World} {B n cap : Nat} {ao : Option Addr} {m : List Ac} (h : W.ownsRow B 37 4 (.slice ao n cap) n (acells m)) (hin : ∀ x ∈ m, x.In) (hn : n = m.length) : ∃ g, Acs W g 0 m ∧ (0 < n → ao = some ⟨g, 0, none⟩ ∧ g < W.heap.size) := by
  rcases h.2 with ⟨e1, e2⟩ | ⟨g, cp, cur, e1, hbg, hg, _⟩
  · have hm : m = [] := List.length_eq_zero_iff.1 (by omega)
    subst hm
    exact ⟨0, ⟨fun y hy => (by cases hy), fun i y hy => (by simp at hy)⟩, fun h => by omega⟩
  · cases e1
    exact ⟨g, acs_of_row h hin, fun _ => ⟨rfl, block_lt hg⟩⟩
set_option maxRecDepth 10000 in
set_option maxHeartbeats 6400000 in
theorem likeA {w : World} {p a b : Nat} {l : List Ac} {s q B : Nat} (h : LP w p a b l s) (hb : Bk w q B (srt l) s) (hd : Dis l) (hin : ∀ x ∈ l, x.In) (hl : l.length ≤ 64) :
    Calls Try.prog 5 #[.pointer (some ⟨p, 0, none⟩), .pointer (some ⟨q, 0, none⟩)] w fun e w' => e = .returned (.bool true) ∧ Hid (Below w.heap.size w w') := by
  have hins : ∀ x ∈ srt l, x.In := fun x hx => by
    unfold srt at hx
    rw [srt_mem] at hx
    rcases hx with h | h
    · exact hin x h
    · cases h
  have hsl : (srt l).length = l.length := by unfold srt; rw [srt_len]; simp
  have HI := hide (imageA h hd hin hl)
  unfold ImgP at HI
  obtain ⟨n, hn⟩ : ∃ n, l.length = n := ⟨_, rfl⟩
  rw [hn] at HI hl hsl
  have HBK := hide hb
  have HINS := hide hins
  have HSL := hide hsl
  clear h hb hd hin hins hn hsl
  generalize hSI : (s : Int) = SI at *
  have HSI := hide hSI
  clear hSI
  go_enter Try.func5, Try.ntmps5
  go_wp2_with fail
  refine HI.out.mono ?_
  rintro e w2 ⟨ao, cap, rfl, G2⟩
  obtain ⟨W3, hW3⟩ : ∃ W3, w2.alloc (.cells #[.int .u64 SI, .int .u64 1, .slice ao n cap, .slice none 0 0, .slice none 0 0] 55) = W3 := ⟨_, rfl⟩
  have b3 : Below w2.heap.size w2 W3 := by rw [← hW3]; exact (Below.refl _ _).alloc (Nat.le_refl _) _
  have C3 : Hid (W3.heap[w2.heap.size]? = some (.cells #[.int .u64 SI, .int .u64 1, .slice ao n cap, .slice none 0 0, .slice none 0 0] 55 (0, 0))) := by rw [← hW3]; exact alloc_atK _ _
  have hb3 : Below w.heap.size w W3 := G2.out.2.1.trans (b3.mono G2.out.2.1.size)
  have HB3 := hide hb3
  have HRW : Hid (W3.ownsRow w.heap.size 37 4 (.slice ao n cap) n (acells (srt l))) := hide (row_quietT G2.out.1 (below_none b3))
  have HY0 : Hid (Below W3.heap.size W3 W3.drew) := hide ((Below.refl _ W3).drew)
  have KP : Hid (∀ V : World, Hid (Below W3.heap.size W3 V) → V.heap[w2.heap.size]? = W3.heap[w2.heap.size]?) := fun V hV => hV.out.block _ (block_lt C3.out)
  have KC : Hid (∀ V : World, V.heap[w2.heap.size]? = W3.heap[w2.heap.size]? → V.cell? ⟨w2.heap.size, 0, none⟩ = some (.int .u64 SI) ∧ V.cell? ⟨w2.heap.size, 1, none⟩ = some (.int .u64 1) ∧ V.cell? ⟨w2.heap.size, 2, none⟩ = some (.slice ao n cap) ∧ V.cell? ⟨w2.heap.size, 3, none⟩ = some (.slice none 0 0) ∧ V.cell? ⟨w2.heap.size, 4, none⟩ = some (.slice none 0 0) ∧ w2.heap.size < V.heap.size) := fun V hV => by
    have h1 := hV.trans C3.out
    exact ⟨block_cell h1 0, block_cell h1 1, block_cell h1 2, block_cell h1 3, block_cell h1 4, block_lt h1⟩
  have KI : Hid (∀ V, Hid (Below W3.heap.size W3 V) → Calls Try.prog 15 #[.pointer (some ⟨q, 0, none⟩)] V fun e w' => ∃ ao cap, e = .returned (.agg #[.int .u64 SI, .int .u64 1, .slice ao n cap, .slice none 0 0, .slice none 0 0]) ∧ Hid (w'.ownsRow V.heap.size 37 4 (.slice ao n cap) n (acells (srt l)) ∧ Below V.heap.size V w')) := fun V hV => by
    have h1 : Below w.heap.size w V := hb3.trans (hV.out.mono hb3.size)
    have := rimageA (HBK.out.kept h1) HINS.out (by rw [HSL.out]; exact hl)
    rw [HSL.out, HSI.out] at this
    exact this
  have KN1 : Hid (∀ (V : World) (ao' : Option Addr) (cap' : Nat) (V1 : World), Hid (Below W3.heap.size W3 V) → Hid (V1.ownsRow V.heap.size 37 4 (.slice ao' n cap') n (acells (srt l)) ∧ Below V.heap.size V V1) → Hid (Hid (Below W3.heap.size W3 V1) ∧ V1.ownsRow w.heap.size 37 4 (.slice ao' n cap') n (acells (srt l)))) := fun V ao' cap' V1 hV h1 => ⟨hV.out.trans (h1.out.2.mono hV.out.size), row_lower h1.out.1 (Nat.le_trans hb3.size hV.out.size)⟩
  have KSM : Hid (∀ (V1 : World) (ao' : Option Addr) (cap' : Nat), Hid (Hid (Below W3.heap.size W3 V1) ∧ V1.ownsRow w.heap.size 37 4 (.slice ao' n cap') n (acells (srt l))) → Calls Try.prog 14 #[.agg #[.int .u64 SI, .int .u64 1, .slice ao n cap, .slice none 0 0, .slice none 0 0], .agg #[.int .u64 SI, .int .u64 1, .slice ao' n cap', .slice none 0 0, .slice none 0 0]] V1 fun e w' => e = .returned (.bool true) ∧ Hid (Below V1.heap.size V1 w')) := fun V1 ao' cap' h1 => by
    obtain ⟨g1, ha1, hg1⟩ := row_acs (row_quietT HRW.out (below_none h1.out.1.out)) HINS.out HSL.out.symm
    obtain ⟨g2, ha2, hg2⟩ := row_acs h1.out.2 HINS.out HSL.out.symm
    exact sameImgA SI n cap cap' HSL.out.symm ha1 ha2 (fun hp => ⟨(hg1 hp).1, (hg2 hp).1⟩) (fun hp => ⟨(hg1 hp).2, (hg2 hp).2⟩) (by omega)
  have KN2 : Hid (∀ V V1 : World, Hid (Below W3.heap.size W3 V) → Hid (Below V.heap.size V V1) → Hid (Below W3.heap.size W3 V1)) := fun V V1 hV h1 => hide (hV.out.trans (h1.out.mono hV.out.size))
  have h00 := G2.out.2.2
  have KB : Hid (∀ V, Calls Try.prog 16 #[.agg #[.int .u64 SI, .int .u64 1, .slice ao n cap, .slice none 0 0, .slice none 0 0]] V fun e w' => e = .returned (.bool true) ∧ Hid (Below V.heap.size V w')) := fun V => bareA V SI ao n cap h00
  have HW3 := hide hW3
  clear hW3 b3 hb3 h00 G2 HI HRW C3 HBK HINS HSL HSI
  go_upto_region 2 with fail
  rw [HW3.out]
  clear HW3
  generalize w2.heap.size = mx at *
  refine wp_region_L 3 (fun _ => True) (fun V => V.heap[mx]? = W3.heap[mx]?) (by kernel_rfl) trivial rfl (fun hS0 => ?_)
  refine wpAnyL_take (i := 0) (oi := { dst := some 8, op := Op.load 55 (Operand.tmp 5), type := 55, pos := "exact.go:66", after := #[], guard := none }) (v := .agg #[.int .u64 SI, .int .u64 1, .slice ao n cap, .slice none 0 0, .slice none 0 0]) rfl (by decide) (by kernel_rfl) (by kernel_rfl) (by kernel_rfl) (fun _ _ _ h => h) (Or.inl ⟨by rfl, fun w2 hSw => ?_⟩) hS0 (fun hS1 => ?_)
  · obtain ⟨r0, r1, r2, r3, r4, r5⟩ := KC.out _ hSw
    go_simp
  simp only [Act.put, List.setIfInBounds_toArray, List.set_cons_zero, List.set_cons_succ]
  clear hS0
  refine wpAnyL_take (i := 1) (oi := { dst := some 9, op := Op.move (Operand.tmp 1), type := 24, pos := "exact.go:66", after := #[], guard := none }) (v := .pointer (some ⟨q, 0, none⟩)) rfl (by decide) (by kernel_rfl) (by kernel_rfl) (by kernel_rfl) (fun _ _ _ h => h) (Or.inl ⟨by rfl, fun w2 hSw => ?_⟩) hS1 (fun hS2 => ?_)
  · obtain ⟨r0, r1, r2, r3, r4, r5⟩ := KC.out _ hSw
    go_simp
  simp only [Act.put, List.setIfInBounds_toArray, List.set_cons_zero, List.set_cons_succ]
  clear hS1
  refine wpAnyL_one (i := 2) (o := { dst := some 10, op := Op.call { callee := Callee.value (Operand.func 15), args := #[Operand.tmp 9], argTypes := #[24] }, type := 55, pos := "exact.go:66", after := #[{ on := 1, ground := Ground.data }], guard := none }) (by kernel_rfl) rfl (fun K hK => ?_)
  clear hS2
  go_simp
  go_at_call 15
  refine (KI.out _ HY0).mono ?_
  rintro e V1 ⟨ao', cap', rfl, G1⟩
  have HY1 := KN1.out _ _ _ _ HY0 G1
  refine hK.out _ _ ⟨fun _ => trivial, KP.out _ HY1.out.1⟩ ?_
  clear hK K
  refine wpAnyL_one (i := 3) (o := { dst := some 11, op := Op.call { callee := Callee.value (Operand.func 14), args := #[Operand.tmp 8, Operand.tmp 10], argTypes := #[55, 55] }, type := 4, pos := "exact.go:66", after := #[{ on := 0, ground := Ground.data }, { on := 2, ground := Ground.data }, { on := 2, ground := Ground.chain }], guard := none }) (by kernel_rfl) rfl (fun K hK => ?_)
  go_simp
  go_at_call 14
  refine (KSM.out _ _ _ HY1).mono ?_
  rintro e V2 ⟨rfl, G2⟩
  have HY2 := KN2.out _ _ HY1.out.1 G2
  refine hK.out _ _ ⟨fun _ => trivial, KP.out _ HY2⟩ ?_
  clear hK K
  refine wpAnyL_one (i := 4) (o := { dst := some 12, op := Op.move (Operand.tmp 11), type := 4, pos := "exact.go:66", after := #[{ on := 3, ground := Ground.data }, { on := 3, ground := Ground.chain }], guard := none }) (by kernel_rfl) rfl (fun K hK => ?_)
  go_simp
  refine hK.out _ _ ⟨fun _ => trivial, KP.out _ HY2⟩ ?_
  clear hK K
  obtain ⟨r0, r1, r2, r3, r4, r5⟩ := KC.out _ (KP.out _ HY2)
  refine wpAnyL_one (i := 5) (o := { dst := some 13, op := Op.load 55 (Operand.tmp 5), type := 55, pos := "exact.go:66", after := #[{ on := 4, ground := Ground.guard }], guard := some (4, true) }) (by kernel_rfl) rfl (fun K hK => ?_)
  go_simp
  refine hK.out _ _ ⟨fun _ => trivial, KP.out _ HY2⟩ ?_
  clear hK K
  refine wpAnyL_one (i := 6) (o := { dst := some 14, op := Op.call { callee := Callee.value (Operand.func 16), args := #[Operand.tmp 13], argTypes := #[55] }, type := 4, pos := "exact.go:66", after := #[{ on := 5, ground := Ground.data }, { on := 4, ground := Ground.chain }, { on := 4, ground := Ground.guard }], guard := some (4, true) }) (by kernel_rfl) rfl (fun K hK => ?_)
  go_simp
  go_at_call 16
  refine (KB.out V2).mono ?_
  rintro e V3 ⟨rfl, G3⟩
  have HY3 := KN2.out _ _ HY2 G3
  refine hK.out _ _ ⟨fun _ => trivial, KP.out _ HY3⟩ ?_
  clear hK K
  refine wpAnyL_one (i := 7) (o := { dst := some 15, op := Op.pick (Operand.tmp 12) (Operand.tmp 14) (Operand.const (Value.bool false)), type := 4, pos := "exact.go:66", after := #[{ on := 4, ground := Ground.data }, { on := 6, ground := Ground.data }], guard := none }) (by kernel_rfl) rfl (fun K hK => ?_)
  go_simp
  refine hK.out _ _ ⟨fun _ => trivial, KP.out _ HY3⟩ ?_
  clear hK K
  refine wpAnyL_one (i := 8) (o := { dst := some 4, op := Op.assign (Operand.tmp 15), type := 4, pos := "exact.go:66", after := #[{ on := 7, ground := Ground.data }, { on := 6, ground := Ground.chain }, { on := 0, ground := Ground.phase }, { on := 1, ground := Ground.phase }, { on := 2, ground := Ground.phase }, { on := 3, ground := Ground.phase }, { on := 4, ground := Ground.phase }, { on := 5, ground := Ground.phase }, { on := 6, ground := Ground.phase }, { on := 7, ground := Ground.phase }], guard := none }) (by kernel_rfl) rfl (fun K hK => ?_)
  go_simp
  refine hK.out _ _ ⟨fun _ => trivial, KP.out _ HY3⟩ ?_
  clear hK K
  refine wpAnyL_done (by kernel_rfl) ?_ _
  go_wp2
  go_ret
  exact ⟨rfl, HB3.out.trans (HY3.out.mono HB3.out.size)⟩
end Go.Proofs.Ytmbclemicfffoaa
