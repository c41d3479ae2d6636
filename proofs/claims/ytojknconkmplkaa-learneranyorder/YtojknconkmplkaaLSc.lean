import Derived.Test.YtojknconkmplkaaLSb
import Derived.Test.YtojknconkmplkaaMJ
import Derived.Deep.DeepCutAuto
namespace Go.Proofs.Ytojknconkmplkaa
open Go.RowKit Crc

/-- Tallies as they lie. -/
structure Tys (w : World) (ao : Option Addr) (N b : Nat) (ts : List Ty) (rv : List (List (Nat × Nat × List Nat))) : Prop where
  len : ts.length = N
  ad : 0 < N → ao = some ⟨b, 0, none⟩
  lt : 0 < N → b < w.heap.size
  at_ : ∀ (i : Nat) (t : Ty), ts[i]? = some t → ∀ (j : Nat) (v : Value), t.cells[j]? = some v → w.cell? ⟨b, i * 7 + j, none⟩ = some v
  bt : ∀ (i : Nat) (t : Ty), ts[i]? = some t → ∃ r, rv[i]? = some r ∧ BtOk w t.st (.slice t.ro t.n t.rc) r
theorem Tys.kept {w w' : World} {ao : Option Addr} {N b : Nat} {ts : List Ty} {rv : List (List (Nat × Nat × List Nat))} (h : Tys w ao N b ts rv) (hb : Below w.heap.size w w') : Tys w' ao N b ts rv :=
  ⟨h.len, h.ad, fun e => Nat.lt_of_lt_of_le (h.lt e) hb.size, fun i t hi j v hj => (hb.cell (p := ⟨b, _, none⟩) (h.lt (by have := (List.getElem?_eq_some_iff.1 hi).1; have := h.len; omega))).trans (h.at_ i t hi j v hj), fun i t hi => by
    obtain ⟨r, h1, h2⟩ := h.bt i t hi
    exact ⟨r, h1, h2.kept hb⟩⟩
/-- The same, but for who is in one that is done. -/
structure Alike (t t' : Ty) : Prop where
  slot : t.slot = t'.slot
  num : t.num = t'.num
  node : t.node = t'.node
  st : t.st = t'.st
  dn : t.dn = t'.dn
  fr : t.dn = false → t.fr = t'.fr
set_option maxRecDepth 10000 in
set_option maxHeartbeats 3200000 in
theorem sameBut_yes {w : World} (low : Nat) {ao ao' : Option Addr} {N cap cap' b b' : Nat} {ts ts' : List Ty} {rv : List (List (Nat × Nat × List Nat))} (h : Tys w ao N b ts rv) (h' : Tys w ao' N b' ts' rv) (hal : ∀ (i : Nat) (t t' : Ty), ts[i]? = some t → ts'[i]? = some t' → Alike t t') (hN : N < 1000) :
    Calls Try.prog 9 #[.agg #[.int .u64 (low : Nat), .slice ao N cap], .agg #[.int .u64 (low : Nat), .slice ao' N cap']] w fun e w' => e = .returned (.bool true) ∧ Hid (Below w.heap.size w w') := by
  obtain ⟨W1, hW1⟩ : ∃ W1, (w.alloc (.cells #[.int .u64 (low : Nat), .slice ao N cap] 55)).alloc (.cells #[.int .u64 (low : Nat), .slice ao' N cap'] 55) = W1 := ⟨_, rfl⟩
  have hs1 : (w.alloc (.cells #[.int .u64 (low : Nat), .slice ao N cap] 55)).heap.size = w.heap.size + 1 := by simp
  have B1 : Hid (Below w.heap.size w W1) := by rw [← hW1]; exact ((Below.refl _ _).alloc (Nat.le_refl _) _).alloc (by simp) _
  have Q1 : Hid (W1.heap[w.heap.size]? = some (.cells #[.int .u64 (low : Nat), .slice ao N cap] 55 (0, 0))) := by rw [← hW1]; exact (Below.heap_alloc _ _ _ (by simp)).trans (alloc_atK _ _)
  have Q2 : Hid (W1.heap[w.heap.size + 1]? = some (.cells #[.int .u64 (low : Nat), .slice ao' N cap'] 55 (0, 0))) := by rw [← hW1, ← hs1]; exact alloc_atK _ _
  have KB : Hid (∀ V, Below W1.heap.size W1 V → V.cell? ⟨w.heap.size, 0, none⟩ = some (.int .u64 (low : Nat)) ∧ V.cell? ⟨w.heap.size, 1, none⟩ = some (.slice ao N cap) ∧ V.cell? ⟨w.heap.size + 1, 0, none⟩ = some (.int .u64 (low : Nat)) ∧ V.cell? ⟨w.heap.size + 1, 1, none⟩ = some (.slice ao' N cap') ∧ w.heap.size < V.heap.size ∧ w.heap.size + 1 < V.heap.size) := fun V hb => by
    have k1 := (hb.block _ (block_lt Q1.out)).trans Q1.out
    have k2 := (hb.block _ (block_lt Q2.out)).trans Q2.out
    exact ⟨block_cell k1 0, block_cell k1 1, block_cell k2 0, block_cell k2 1, block_lt k1, block_lt k2⟩
  have HA := hide (h.kept B1.out)
  have HA' := hide (h'.kept B1.out)
  have HAL := hide hal
  have HW1 := hide hW1
  have HNN := hide hN
  clear h h' hal hW1 hs1 Q1 Q2
  obtain ⟨q1, q2, q3, q4, q5, q6⟩ := KB.out W1 (Below.refl _ _)
  go_enter Try.func9, Try.ntmps9
  go_upto_region 1 with fail
  rw [HW1.out]
  clear HW1
  go_upto_if 21 with fail
  go_cut [] from 22 (fun V => Hid (Below W1.heap.size W1 V))
  case first =>
    go_wp2
    go_meet
    case rel => exact Below.refl _ _
  case rest =>
  have HC := hcut
  clear hcut q1 q2 q3 q4 q5 q6
  go_wp2
  go_loopw [5, 6, 7] (fun i _ _ wr => ∃ k : Nat, k ≤ N ∧ i = .int .i64 k ∧ Hid (Below W1.heap.size W1 wr)) (fun i _ _ _ => N - (intOf i).toNat)
  case atStart => exact ⟨0, by omega, rfl, HC.out⟩
  case round =>
    clear HC
    obtain ⟨k, hkN, rfl, HB⟩ := hrel
    obtain ⟨q1, q2, q3, q4, q5, q6⟩ := KB.out wr HB.out
    by_cases hlt : k < N
    · have hT := HA.out.kept HB.out
      have hT' := HA'.out.kept HB.out
      obtain ⟨tt, ht⟩ : ∃ t, ts[k]? = some t := ⟨_, List.getElem?_eq_getElem (by have := hT.len; omega)⟩
      obtain ⟨tt', ht'⟩ : ∃ t, ts'[k]? = some t := ⟨_, List.getElem?_eq_getElem (by have := hT'.len; omega)⟩
      have hal := HAL.out k tt tt' ht ht'
      have hc := hT.at_ k tt ht
      have hc' := hT'.at_ k tt' ht'
      obtain ⟨r, hr, hbt⟩ := hT.bt k tt ht
      obtain ⟨r', hr', hbt'⟩ := hT'.bt k tt' ht'
      obtain rfl : r = r' := by rw [hr] at hr'; cases hr'; rfl
      obtain rfl := hT.ad (by omega)
      obtain rfl := hT'.ad (by omega)
      have hbl : b < wr.heap.size := hT.lt (by omega)
      have hbl' : b' < wr.heap.size := hT'.lt (by omega)
      obtain ⟨sl, nu, no, fr, st, ro, n, rc, dn⟩ := tt
      obtain ⟨sl', nu', no', fr', st', ro', n', rc', dn'⟩ := tt'
      obtain ⟨e1, e2, e3, e4, e5, e6⟩ := hal
      simp only at e1 e2 e3 e4 e5 e6 hbt hbt'
      subst e1 e2 e3 e4 e5
      have KSB : Hid (∀ V, Below wr.heap.size wr V → Calls Try.prog 13 #[.agg #[.int .u64 (st : Nat), .slice ro n rc], .agg #[.int .u64 (st : Nat), .slice ro' n' rc']] V fun e w' => e = .returned (.bool true) ∧ Hid (Below V.heap.size V w')) := fun V hb => by
        obtain ⟨xo, xc, xs, xb, xf, y1, y2, y3, _⟩ := hbt.kept hb
        obtain ⟨zo, zc, zs, zb, zf, y1', y2', y3', _⟩ := hbt'.kept hb
        cases y1
        cases y1'
        refine (sameBatch_any st st xs.length zs.length rc rc' rfl rfl y3 y3').mono ?_
        rintro e w' ⟨rfl, g⟩
        refine ⟨?_, g⟩
        rw [y2, y2']
        simp
      have c0 := hc 0 _ rfl
      have c1 := hc 1 _ rfl
      have c2 := hc 2 _ rfl
      have c3 := hc 3 _ rfl
      have c4 := hc 4 _ rfl
      have c5 := hc 5 _ rfl
      have c6 := hc 6 _ rfl
      have d0 := hc' 0 _ rfl
      have d1 := hc' 1 _ rfl
      have d2 := hc' 2 _ rfl
      have d3 := hc' 3 _ rfl
      have d4 := hc' 4 _ rfl
      have d5 := hc' 5 _ rfl
      have d6 := hc' 6 _ rfl
      rw [Nat.add_zero] at c0 d0
      clear hT hT' ht ht' hc hc' hr hr' hbt hbt'
      have E6 := hide e6
      clear e6
      generalize (sl : Int) = si at *
      generalize (nu : Int) = ni at *
      generalize (st : Int) = ti at *
      obtain ⟨fi, hfi⟩ : ∃ x : Int, ((fr : Nat) : Int) = x := ⟨_, rfl⟩
      obtain ⟨gi, hgi⟩ : ∃ x : Int, ((fr' : Nat) : Int) = x := ⟨_, rfl⟩
      have EF : Hid (dn = false → fi = gi) := fun e => by rw [← hfi, ← hgi, E6.out e]
      rw [hfi] at c3
      rw [hgi] at d3
      clear hfi hgi E6
      obtain ⟨W2, hW2⟩ : ∃ W2, (wr.alloc (.cells #[.int .u64 si, .int .u64 ni, .int .i64 no, .int .u32 fi, .int .u64 ti, .slice ro n rc, .bool dn] 87)).alloc (.cells #[.int .u64 si, .int .u64 ni, .int .i64 no, .int .u32 gi, .int .u64 ti, .slice ro' n' rc', .bool dn] 87) = W2 := ⟨_, rfl⟩
      have es : (wr.alloc (.cells #[.int .u64 si, .int .u64 ni, .int .i64 no, .int .u32 fi, .int .u64 ti, .slice ro n rc, .bool dn] 87)).heap.size = wr.heap.size + 1 := by simp
      have B2 : Hid (Below wr.heap.size wr W2) := by rw [← hW2]; exact ((Below.refl _ _).alloc (Nat.le_refl _) _).alloc (by simp) _
      have X2 : Hid (W2.heap[wr.heap.size]? = some (.cells #[.int .u64 si, .int .u64 ni, .int .i64 no, .int .u32 fi, .int .u64 ti, .slice ro n rc, .bool dn] 87 (0, 0))) := by rw [← hW2]; exact (Below.heap_alloc _ _ _ (by simp)).trans (alloc_atK _ _)
      have Y2 : Hid (W2.heap[wr.heap.size + 1]? = some (.cells #[.int .u64 si, .int .u64 ni, .int .i64 no, .int .u32 gi, .int .u64 ti, .slice ro' n' rc', .bool dn] 87 (0, 0))) := by rw [← hW2, ← es]; exact alloc_atK _ _
      have HW2 := hide hW2
      clear hW2 es
      go_upto_region 7 with fail
      go_upto_region 8 with fail
      rw [HW2.out]
      clear HW2 c0 c1 c2 c3 c4 c5 c6 d0 d1 d2 d3 d4 d5 d6 q1 q2 q3 q4 q5 q6
      have x6 : W2.cell? ⟨wr.heap.size, 6, none⟩ = some (.bool dn) := block_cell X2.out 6
      have x3 : W2.cell? ⟨wr.heap.size, 3, none⟩ = some (.int .u32 fi) := block_cell X2.out 3
      have xf := block_free X2.out 3
      have y6 : W2.cell? ⟨wr.heap.size + 1, 6, none⟩ = some (.bool dn) := block_cell Y2.out 6
      have y3 : W2.cell? ⟨wr.heap.size + 1, 3, none⟩ = some (.int .u32 gi) := block_cell Y2.out 3
      have xl := block_lt X2.out
      have yl := block_lt Y2.out
      have hgs := hide (grown_set W2 wr.heap.size 3 (.int .u32 gi))
      cases dn with
      | true =>
        go_upto_region 10 with fail
        have B3 : Hid (Below wr.heap.size wr (W2.setCell ⟨wr.heap.size, 3, none⟩ (.int .u32 gi))) := B2.out.setCell (p := ⟨wr.heap.size, 3, none⟩) (Nat.le_refl _) _
        have X3 : Hid ((W2.setCell ⟨wr.heap.size, 3, none⟩ (.int .u32 gi)).heap[wr.heap.size]? = some (.cells #[.int .u64 si, .int .u64 ni, .int .i64 no, .int .u32 gi, .int .u64 ti, .slice ro n rc, .bool true] 87 (0, 0))) := heap_setCell_same W2 wr.heap.size 3 _ _ _ X2.out
        have Y3 : Hid ((W2.setCell ⟨wr.heap.size, 3, none⟩ (.int .u32 gi)).heap[wr.heap.size + 1]? = some (.cells #[.int .u64 si, .int .u64 ni, .int .i64 no, .int .u32 gi, .int .u64 ti, .slice ro' n' rc', .bool true] 87 (0, 0))) := (hgs.out.block _ yl (fun e => by have := Option.some.inj e; omega)).trans Y2.out
        clear x6 x3 xf y6 y3 xl yl hgs X2 Y2 B2
        generalize W2.setCell ⟨wr.heap.size, 3, none⟩ (.int .u32 gi) = WX at *
        have p0 : WX.cell? ⟨wr.heap.size, 0, none⟩ = some (.int .u64 si) := block_cell X3.out 0
        have p1 : WX.cell? ⟨wr.heap.size, 1, none⟩ = some (.int .u64 ni) := block_cell X3.out 1
        have p2 : WX.cell? ⟨wr.heap.size, 2, none⟩ = some (.int .i64 no) := block_cell X3.out 2
        have p3 : WX.cell? ⟨wr.heap.size, 3, none⟩ = some (.int .u32 gi) := block_cell X3.out 3
        have p4 : WX.cell? ⟨wr.heap.size, 4, none⟩ = some (.int .u64 ti) := block_cell X3.out 4
        have p5 : WX.cell? ⟨wr.heap.size, 5, none⟩ = some (.slice ro n rc) := block_cell X3.out 5
        have p6 : WX.cell? ⟨wr.heap.size, 6, none⟩ = some (.bool true) := block_cell X3.out 6
        have r0 : WX.cell? ⟨wr.heap.size + 1, 0, none⟩ = some (.int .u64 si) := block_cell Y3.out 0
        have r1 : WX.cell? ⟨wr.heap.size + 1, 1, none⟩ = some (.int .u64 ni) := block_cell Y3.out 1
        have r2 : WX.cell? ⟨wr.heap.size + 1, 2, none⟩ = some (.int .i64 no) := block_cell Y3.out 2
        have r3 : WX.cell? ⟨wr.heap.size + 1, 3, none⟩ = some (.int .u32 gi) := block_cell Y3.out 3
        have r4 : WX.cell? ⟨wr.heap.size + 1, 4, none⟩ = some (.int .u64 ti) := block_cell Y3.out 4
        have r5 : WX.cell? ⟨wr.heap.size + 1, 5, none⟩ = some (.slice ro' n' rc') := block_cell Y3.out 5
        have r6 : WX.cell? ⟨wr.heap.size + 1, 6, none⟩ = some (.bool true) := block_cell Y3.out 6
        have pl := block_lt X3.out
        have rl := block_lt Y3.out
        go_wp2_with fail
        refine (KSB.out _ B3.out).mono ?_
        rintro e w9 ⟨rfl, hb9⟩
        have HB9 := hide (HB.out.trans ((B3.out.trans (hb9.out.mono B3.out.size)).mono HB.out.size))
        clear p0 p1 p2 p3 p4 p5 p6 r0 r1 r2 r3 r4 r5 r6 pl rl hb9 B3 X3 Y3
        go_wp2
        go_roundw
        case rel => exact ⟨k + 1, by omega, by go_num, HB9⟩
        case measure => simp [intOf]; omega
      | false =>
        obtain rfl := EF.out rfl
        go_upto_region 10 with fail
        have B3 := B2
        have X3 := X2
        have Y3 := Y2
        clear x6 x3 xf y6 y3 xl yl hgs X2 Y2 B2
        generalize W2 = WX at *
        have p0 : WX.cell? ⟨wr.heap.size, 0, none⟩ = some (.int .u64 si) := block_cell X3.out 0
        have p1 : WX.cell? ⟨wr.heap.size, 1, none⟩ = some (.int .u64 ni) := block_cell X3.out 1
        have p2 : WX.cell? ⟨wr.heap.size, 2, none⟩ = some (.int .i64 no) := block_cell X3.out 2
        have p3 : WX.cell? ⟨wr.heap.size, 3, none⟩ = some (.int .u32 fi) := block_cell X3.out 3
        have p4 : WX.cell? ⟨wr.heap.size, 4, none⟩ = some (.int .u64 ti) := block_cell X3.out 4
        have p5 : WX.cell? ⟨wr.heap.size, 5, none⟩ = some (.slice ro n rc) := block_cell X3.out 5
        have p6 : WX.cell? ⟨wr.heap.size, 6, none⟩ = some (.bool false) := block_cell X3.out 6
        have r0 : WX.cell? ⟨wr.heap.size + 1, 0, none⟩ = some (.int .u64 si) := block_cell Y3.out 0
        have r1 : WX.cell? ⟨wr.heap.size + 1, 1, none⟩ = some (.int .u64 ni) := block_cell Y3.out 1
        have r2 : WX.cell? ⟨wr.heap.size + 1, 2, none⟩ = some (.int .i64 no) := block_cell Y3.out 2
        have r3 : WX.cell? ⟨wr.heap.size + 1, 3, none⟩ = some (.int .u32 fi) := block_cell Y3.out 3
        have r4 : WX.cell? ⟨wr.heap.size + 1, 4, none⟩ = some (.int .u64 ti) := block_cell Y3.out 4
        have r5 : WX.cell? ⟨wr.heap.size + 1, 5, none⟩ = some (.slice ro' n' rc') := block_cell Y3.out 5
        have r6 : WX.cell? ⟨wr.heap.size + 1, 6, none⟩ = some (.bool false) := block_cell Y3.out 6
        have pl := block_lt X3.out
        have rl := block_lt Y3.out
        go_wp2_with fail
        refine (KSB.out _ B3.out).mono ?_
        rintro e w9 ⟨rfl, hb9⟩
        have HB9 := hide (HB.out.trans ((B3.out.trans (hb9.out.mono B3.out.size)).mono HB.out.size))
        clear p0 p1 p2 p3 p4 p5 p6 r0 r1 r2 r3 r4 r5 r6 pl rl hb9 B3 X3 Y3
        go_wp2
        go_roundw
        case rel => exact ⟨k + 1, by omega, by go_num, HB9⟩
        case measure => simp [intOf]; omega
    · obtain rfl : k = N := by omega
      have HF := hide (B1.out.trans (HB.out.mono B1.out.size))
      go_wp2
      go_ret
      exact ⟨rfl, HF.out⟩
end Go.Proofs.Ytojknconkmplkaa
