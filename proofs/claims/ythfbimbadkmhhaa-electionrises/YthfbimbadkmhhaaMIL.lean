import Derived.Test.YthfbimbadkmhhaaMIK
import Derived.Test.YthfbimbadkmhhaaMGP
namespace Go.Proofs.Ythfbimbadkmhhaa
open Go.RowKit Crc

set_option maxRecDepth 10000 in
set_option maxHeartbeats 3200000 in
theorem call2 {W : World} {eb g : Nat} {c : Cf} {me : Nat} {fp : Nat → Prop} {x : Ex} (h : EL W eb g c me fp x) {lim : Nat} (hlw : lim ≤ W.heap.size) (hmi : ∀ b, Mine eb fp b → lim ≤ b) {o : Oq} (ho : o.Ok lim W) (hk : o.kd = 2) :
    Calls Try.prog 11 #[.pointer (some ⟨eb, 0, none⟩), .agg o.oc.toArray] W fun e W' => ∃ pv th, e = .returned (.tuple #[.bool false, .bool true]) ∧ Hid (Did W eb g c me fp ⟨x.num, x.node, x.sus, x.len, x.fin, pv, th⟩ W') := by
  obtain ⟨W1, hW1⟩ : ∃ W1, W.alloc (.cells o.oc.toArray 51) = W1 := ⟨_, rfl⟩
  have B1 : Below W.heap.size W W1 := by rw [← hW1]; exact below_alloc1 W _
  have C1 : W1.heap[W.heap.size]? = some (.cells o.oc.toArray 51 (0, 0)) := by rw [← hW1]; exact alloc_atK _ _
  have hR1 : Rqs W1.heap.size W1 o.ro o.rs o.b o.off := ((ho.below (B1.mono hlw)).wide (Nat.le_trans hlw B1.size)).hR
  obtain ⟨n, hn⟩ : ∃ n, o.rs.length = n := ⟨_, rfl⟩
  have HL : Hid (Calls Try.prog 15 #[.agg #[.int .u64 (o.st : Nat), .slice o.ro n o.rc]] W1 fun e W3 => ∃ R, e = .returned (.agg #[.int .u64 (o.st : Nat), .slice (some ⟨R, 0, none⟩) n (n + 1)]) ∧ Hid (∀ V4, V4 = W3.alloc (.cells #[.int .u64 (o.st : Nat), .slice (some ⟨R, 0, none⟩) n (n + 1)] 40) → (V4.cell? ⟨W3.heap.size, 0, none⟩ = some (.int .u64 (o.st : Nat)) ∧ V4.cell? ⟨W3.heap.size, 1, none⟩ = some (.slice (some ⟨R, 0, none⟩) n (n + 1)) ∧ W3.heap.size < V4.heap.size) ∧ Hid (Calls Try.prog 19 #[.pointer (some ⟨eb, 0, none⟩), .agg #[.int .u64 (o.st : Nat), .slice (some ⟨R, 0, none⟩) n (n + 1)]] V4 fun e W5 => e = .returned (.tuple #[]) ∧ Hid ((W5.cell? ⟨W3.heap.size, 0, none⟩ = some (.int .u64 (o.st : Nat)) ∧ W5.cell? ⟨W3.heap.size, 1, none⟩ = some (.slice (some ⟨R, 0, none⟩) n (n + 1)) ∧ W3.heap.size < W5.heap.size ∧ W5.cell? ⟨W.heap.size, 4, none⟩ = some (.int .u64 (o.st : Nat)) ∧ W5.cell? ⟨W.heap.size, 5, none⟩ = some (.slice o.ro n o.rc) ∧ W.heap.size < W5.heap.size) ∧ Calls Try.prog 17 #[.agg #[.int .u64 (o.st : Nat), .slice (some ⟨R, 0, none⟩) n (n + 1)], .agg #[.int .u64 (o.st : Nat), .slice o.ro n o.rc]] W5 fun e W7 => e = .returned (.bool true) ∧ Hid ((W7.cell? ⟨W3.heap.size, 0, none⟩ = some (.int .u64 (o.st : Nat)) ∧ W7.cell? ⟨W3.heap.size, 1, none⟩ = some (.slice (some ⟨R, 0, none⟩) n (n + 1)) ∧ W3.heap.size < W7.heap.size) ∧ Calls Try.prog 18 #[.agg #[.int .u64 (o.st : Nat), .slice (some ⟨R, 0, none⟩) n (n + 1)]] W7 fun e W8 => e = .returned (.tuple #[]) ∧ Hid (∃ pv th, Did W eb g c me fp ⟨x.num, x.node, x.sus, x.len, x.fin, pv, th⟩ W8)))))) := by
    refine (lendE o.st n o.rc hn hR1).mono ?_
    rintro e W3 ⟨R, rfl, G⟩
    refine ⟨R, rfl, fun V4 hV4 => ?_⟩
    obtain ⟨rs1, hv, b3, hL⟩ := G.out
    have b34 : Below W3.heap.size W3 V4 := by rw [hV4]; exact below_alloc1 W3 _
    have cB : V4.heap[W3.heap.size]? = some (.cells #[.int .u64 (o.st : Nat), .slice (some ⟨R, 0, none⟩) n (n + 1)] 40 (0, 0)) := by rw [hV4]; exact alloc_atK _ _
    have hL4 := hL.fe (Fe.below b34 (fun _ => False)) (fun _ _ _ e => e)
    have b14 : Below W1.heap.size W1 V4 := b3.trans (b34.mono b3.size)
    have b4 : Below W.heap.size W V4 := B1.trans (b14.mono B1.size)
    refine ⟨⟨block_cell cB 0, block_cell cB 1, block_lt cB⟩, ?_⟩
    have hml := h.mine_lt
    have s1 := B1.size
    have s3 := b3.size
    have s34 := b34.size
    have sW1 : W1.heap.size = W.heap.size + 1 := by rw [← hW1]; simp
    refine (executedA (h.kept b4) o.st n (n + 1) hL.len W1.heap.size (fun b hb => by have := hml b hb; omega) (by omega) (fun V hf => (hL4.fe hf (fun b h1 h2 e => by omega)).rqs)).mono ?_
    rintro e W5 ⟨rfl, D⟩
    refine ⟨rfl, ?_⟩
    have f5 := Did.out D.out
    have s5 := f5.size
    have cB5 := (f5.block _ (block_lt cB) (fun e => by have := hml _ e; omega)).trans cB
    have C15 := (f5.block W.heap.size (by omega) (fun e => by have := hml _ e; omega)).trans ((b14.block _ (block_lt C1)).trans C1)
    have hL5 := hL4.fe f5 (fun b h1 h2 e => by have := hml _ e; omega)
    have b5l : Below lim W W5 := (b4.mono hlw).trans (f5.toBelow lim (by omega) hmi)
    have c5 := ho.c5
    rw [hn] at c5
    refine ⟨⟨block_cell cB5 0, block_cell cB5 1, block_lt cB5, blk_cellE C15 ho.c4, blk_cellE C15 c5, block_lt C15⟩, ?_⟩
    have hR5 : Rqs W5.heap.size W5 o.ro o.rs o.b o.off := ((ho.below b5l).wide (by omega)).hR
    refine (keptE o.st hL5 o.rc hn hR5 hv).mono ?_
    rintro e W7 ⟨rfl, H7⟩
    have cB7 := (H7.out.block _ (block_lt cB5)).trans cB5
    have hL7 := hL5.fe (Fe.below H7.out (fun _ => False)) (fun _ _ _ e => e)
    refine ⟨rfl, ⟨block_cell cB7 0, block_cell cB7 1, block_lt cB7⟩, (spoilE o.st hL7.sp).mono ?_⟩
    rintro e W8 ⟨rfl, H8⟩
    exact ⟨rfl, _, _, Did.lent h b4 D.out H7.out H8.out (by omega) (by omega)⟩
  have z0 : W1.cell? ⟨W.heap.size, 0, none⟩ = some (.int .i64 2) := by rw [← hk]; exact blk_cellE C1 ho.c0
  have z4 := blk_cellE C1 ho.c4
  have z5 := blk_cellE C1 ho.c5
  rw [hn] at z5
  have zl := block_lt C1
  have HW1 := hide hW1
  clear ho h B1 C1 hW1 hk hmi hlw hn hR1
  generalize (o.st : Int) = sti at *
  generalize o.ro = ro at *
  generalize o.rc = rc at *
  generalize o.oc = oc at *
  go_enter Try.func11, Try.ntmps11
  go_upto_region 1 with fail
  rw [HW1.out]
  clear HW1
  generalize W.heap.size = ob at *
  go_upto_region 10 with fail
  go_wp2_with fail
  refine HL.out.mono ?_
  rintro e W3 ⟨R, rfl, G⟩
  clear z0 z4 z5 zl HL
  go_upto_region 11 with fail
  obtain ⟨V4, hV4⟩ : ∃ V4, V4 = W3.alloc (.cells #[.int .u64 sti, .slice (some ⟨R, 0, none⟩) n (n + 1)] 40) := ⟨_, rfl⟩
  rw [← hV4]
  obtain ⟨⟨a0, a1, al⟩, HRQ⟩ := G.out V4 hV4
  clear hV4 G
  go_wp2_with fail
  refine HRQ.out.mono ?_
  rintro e W5 ⟨rfl, G5⟩
  clear a0 a1 al HRQ
  obtain ⟨a0, a1, al, z4, z5, zl⟩ := G5.out.1
  have HK := hide G5.out.2
  clear G5
  go_wp2_with fail
  refine HK.out.mono ?_
  rintro e W7 ⟨rfl, G7⟩
  clear a0 a1 al z4 z5 zl HK
  obtain ⟨a0, a1, al⟩ := G7.out.1
  have HS := hide G7.out.2
  clear G7
  go_wp2_with fail
  refine HS.out.mono ?_
  rintro e W8 ⟨rfl, G8⟩
  clear a0 a1 al HS
  go_wp2
  refine bodyPost_ret (v := .tuple #[.bool false, .bool true]) (by simp [results, Try.results11, go_sem]) rfl ?_
  obtain ⟨pv, th, D⟩ := G8.out
  exact ⟨pv, th, rfl, D⟩
set_option maxRecDepth 10000 in
set_option maxHeartbeats 1600000 in
theorem call3 {W : World} {eb g : Nat} {c : Cf} {me : Nat} {fp : Nat → Prop} {x : Ex} (h : EL W eb g c me fp x) (hc : OkC c) {lim : Nat} {o : Oq} (ho : o.Ok lim W) (hk : o.kd = 3) :
    Calls Try.prog 11 #[.pointer (some ⟨eb, 0, none⟩), .agg o.oc.toArray] W fun e W' => e = .returned (.tuple #[.bool (Ev.beat c x.abs o.src o.kind o.num o.node o.susp o.now).2, .bool true]) ∧ Hid (Did W eb g c me fp (Ev.beat c x.abs o.src o.kind o.num o.node o.susp o.now).1 W') := by
  obtain ⟨W1, hW1⟩ : ∃ W1, W.alloc (.cells o.oc.toArray 51) = W1 := ⟨_, rfl⟩
  have B1 : Below W.heap.size W W1 := by rw [← hW1]; exact below_alloc1 W _
  have C1 : W1.heap[W.heap.size]? = some (.cells o.oc.toArray 51 (0, 0)) := by rw [← hW1]; exact alloc_atK _ _
  have z0 : W1.cell? ⟨W.heap.size, 0, none⟩ = some (.int .i64 3) := by rw [← hk]; exact blk_cellE C1 ho.c0
  have z6 := blk_cellE C1 ho.c6
  have z56 := blk_cellE C1 ho.c56
  have zl := block_lt C1
  have HR : Hid (W1.rangeAt W.heap.size 7 o.cs) := fun j v hv => by
    have hj : j < 49 := by rw [← ho.msg.len]; exact (List.getElem?_eq_some_iff.1 hv).1
    exact blk_cellE C1 ((ho.mid j hj).trans hv)
  have H49 : Hid (((Try.prog.info? 49).map (·.size)) = some o.cs.length) := by show _ = _; rw [ho.msg.len]; rfl
  have HB : Hid (Calls Try.prog 20 #[.pointer (some ⟨eb, 0, none⟩), .int .u64 (o.src : Nat), .agg o.cs.toArray, .int .u64 (o.now : Nat)] W1 fun e W' => e = .returned (.bool (Ev.beat c x.abs o.src o.kind o.num o.node o.susp o.now).2) ∧ Hid (Did W eb g c me fp (Ev.beat c x.abs o.src o.kind o.num o.node o.susp o.now).1 W')) := by
    refine (beatE (h.kept B1) hc.ok hc.em o.src ho.hs ho.msg o.now ho.hn).mono ?_
    rintro e W' ⟨rfl, D⟩
    exact ⟨rfl, Did.of (Fe.below B1 _) D.out⟩
  have HW1 := hide hW1
  clear ho h B1 C1 hW1 hc hk
  generalize (Ev.beat c x.abs o.src o.kind o.num o.node o.susp o.now).2 = z at *
  generalize (Ev.beat c x.abs o.src o.kind o.num o.node o.susp o.now).1 = s' at *
  generalize (o.src : Int) = si at *
  generalize (o.now : Int) = ni at *
  generalize o.oc = oc at *
  generalize o.cs = cs at *
  go_enter Try.func11, Try.ntmps11
  go_upto_region 1 with fail
  rw [HW1.out]
  clear HW1
  generalize W.heap.size = ob at *
  go_upto_region 15 with fail
  go_wp2_with (first
    | (refine wpList_load_mid rfl 49 _ rfl ob 7 rfl cs _ HR.out Try.underlying49 rfl H49.out ?_; simp only [Act.put, List.setIfInBounds_toArray, List.set_cons_zero, List.set_cons_succ])
    | (go_at_call 20; refine HB.out.mono ?_; rintro e w3 ⟨rfl, G3⟩; clear z0 z6 z56 zl))
  refine bodyPost_ret (v := .tuple #[.bool z, .bool true]) (by simp [results, Try.results11, go_sem]) rfl ⟨rfl, G3.out⟩
set_option maxRecDepth 10000 in
set_option maxHeartbeats 1600000 in
theorem call4 {W : World} {eb g : Nat} {c : Cf} {me : Nat} {fp : Nat → Prop} {x : Ex} (h : EL W eb g c me fp x) (hc : OkC c) {lim : Nat} {o : Oq} (ho : o.Ok lim W) (hk : o.kd = 4) :
    Calls Try.prog 11 #[.pointer (some ⟨eb, 0, none⟩), .agg o.oc.toArray] W fun e W' => e = .returned (.tuple #[.bool (Ev.timeout c me x.abs o.now).2, .bool true]) ∧ Hid (Did W eb g c me fp (Ev.timeout c me x.abs o.now).1 W') := by
  obtain ⟨W1, hW1⟩ : ∃ W1, W.alloc (.cells o.oc.toArray 51) = W1 := ⟨_, rfl⟩
  have B1 : Below W.heap.size W W1 := by rw [← hW1]; exact below_alloc1 W _
  have C1 : W1.heap[W.heap.size]? = some (.cells o.oc.toArray 51 (0, 0)) := by rw [← hW1]; exact alloc_atK _ _
  have z0 : W1.cell? ⟨W.heap.size, 0, none⟩ = some (.int .i64 4) := by rw [← hk]; exact blk_cellE C1 ho.c0
  have z6 := blk_cellE C1 ho.c6
  have z56 := blk_cellE C1 ho.c56
  have zl := block_lt C1
  have HB : Hid (Calls Try.prog 21 #[.pointer (some ⟨eb, 0, none⟩), .int .u64 (o.now : Nat)] W1 fun e W' => e = .returned (.bool (Ev.timeout c me x.abs o.now).2) ∧ Hid (Did W eb g c me fp (Ev.timeout c me x.abs o.now).1 W')) := by
    refine (timeoutE (h.kept B1) hc.ok hc.em hc.ep hc.pe o.now ho.hn).mono ?_
    rintro e W' ⟨rfl, D⟩
    exact ⟨rfl, Did.of (Fe.below B1 _) D.out⟩
  have HW1 := hide hW1
  clear ho h B1 C1 hW1 hc hk
  generalize (Ev.timeout c me x.abs o.now).2 = z at *
  generalize (Ev.timeout c me x.abs o.now).1 = s' at *
  generalize (o.src : Int) = si at *
  generalize (o.now : Int) = ni at *
  generalize o.oc = oc at *
  generalize o.cs = cs at *
  go_enter Try.func11, Try.ntmps11
  go_upto_region 1 with fail
  rw [HW1.out]
  clear HW1
  generalize W.heap.size = ob at *
  go_upto_region 17 with fail
  go_wp2_with (first
    | (go_at_call 21; refine HB.out.mono ?_; rintro e w3 ⟨rfl, G3⟩; clear z0 z6 z56 zl))
  refine bodyPost_ret (v := .tuple #[.bool z, .bool true]) (by simp [results, Try.results11, go_sem]) rfl ⟨rfl, G3.out⟩
set_option maxRecDepth 10000 in
set_option maxHeartbeats 1600000 in
theorem call5 {W : World} {eb g : Nat} {c : Cf} {me : Nat} {fp : Nat → Prop} {x : Ex} (h : EL W eb g c me fp x) (hc : OkC c) {lim : Nat} {o : Oq} (ho : o.Ok lim W) (hk : o.kd = 5) :
    Calls Try.prog 11 #[.pointer (some ⟨eb, 0, none⟩), .agg o.oc.toArray] W fun e W' => e = .returned (.tuple #[.bool (Ev.quorum c x.abs o.now).2, .bool true]) ∧ Hid (Did W eb g c me fp (Ev.quorum c x.abs o.now).1 W') := by
  obtain ⟨W1, hW1⟩ : ∃ W1, W.alloc (.cells o.oc.toArray 51) = W1 := ⟨_, rfl⟩
  have B1 : Below W.heap.size W W1 := by rw [← hW1]; exact below_alloc1 W _
  have C1 : W1.heap[W.heap.size]? = some (.cells o.oc.toArray 51 (0, 0)) := by rw [← hW1]; exact alloc_atK _ _
  have z0 : W1.cell? ⟨W.heap.size, 0, none⟩ = some (.int .i64 5) := by rw [← hk]; exact blk_cellE C1 ho.c0
  have z6 := blk_cellE C1 ho.c6
  have z56 := blk_cellE C1 ho.c56
  have zl := block_lt C1
  have HB : Hid (Calls Try.prog 22 #[.pointer (some ⟨eb, 0, none⟩), .int .u64 (o.now : Nat)] W1 fun e W' => e = .returned (.bool (Ev.quorum c x.abs o.now).2) ∧ Hid (Did W eb g c me fp (Ev.quorum c x.abs o.now).1 W')) := by
    refine (quorumA (h.kept B1) hc.ok hc.em o.now ho.hn).mono ?_
    rintro e W' ⟨rfl, D⟩
    exact ⟨rfl, Did.of (Fe.below B1 _) D.out⟩
  have HW1 := hide hW1
  clear ho h B1 C1 hW1 hc hk
  generalize (Ev.quorum c x.abs o.now).2 = z at *
  generalize (Ev.quorum c x.abs o.now).1 = s' at *
  generalize (o.src : Int) = si at *
  generalize (o.now : Int) = ni at *
  generalize o.oc = oc at *
  generalize o.cs = cs at *
  go_enter Try.func11, Try.ntmps11
  go_upto_region 1 with fail
  rw [HW1.out]
  clear HW1
  generalize W.heap.size = ob at *
  go_upto_region 19 with fail
  go_wp2_with (first
    | (go_at_call 22; refine HB.out.mono ?_; rintro e w3 ⟨rfl, G3⟩; clear z0 z6 z56 zl))
  refine bodyPost_ret (v := .tuple #[.bool z, .bool true]) (by simp [results, Try.results11, go_sem]) rfl ⟨rfl, G3.out⟩
set_option maxRecDepth 10000 in
set_option maxHeartbeats 1600000 in
theorem call0 {W : World} {eb g : Nat} {c : Cf} {me : Nat} {fp : Nat → Prop} {x : Ex} (h : EL W eb g c me fp x) {lim : Nat} {o : Oq} (ho : o.Ok lim W) (hk : o.kd ≠ 1 ∧ o.kd ≠ 2 ∧ o.kd ≠ 3 ∧ o.kd ≠ 4 ∧ o.kd ≠ 5) :
    Calls Try.prog 11 #[.pointer (some ⟨eb, 0, none⟩), .agg o.oc.toArray] W fun e W' => e = .returned (.tuple #[.bool false, .bool true]) ∧ Hid (Did W eb g c me fp x.abs W') := by
  obtain ⟨W1, hW1⟩ : ∃ W1, W.alloc (.cells o.oc.toArray 51) = W1 := ⟨_, rfl⟩
  have B1 : Below W.heap.size W W1 := by rw [← hW1]; exact below_alloc1 W _
  have C1 : W1.heap[W.heap.size]? = some (.cells o.oc.toArray 51 (0, 0)) := by rw [← hW1]; exact alloc_atK _ _
  have z0 := blk_cellE C1 ho.c0
  have zl := block_lt C1
  have HD := hide (Did.below h B1)
  have HW1 := hide hW1
  have e1 : (o.kd == 1) = false := beq_eq_false_iff_ne.2 hk.1
  have e2 : (o.kd == 2) = false := beq_eq_false_iff_ne.2 hk.2.1
  have e3 : (o.kd == 3) = false := beq_eq_false_iff_ne.2 hk.2.2.1
  have e4 : (o.kd == 4) = false := beq_eq_false_iff_ne.2 hk.2.2.2.1
  have e5 : (o.kd == 5) = false := beq_eq_false_iff_ne.2 hk.2.2.2.2
  clear ho h B1 C1 hW1 hk
  generalize o.oc = oc at *
  generalize o.kd = kd at *
  go_enter Try.func11, Try.ntmps11
  go_upto_region 1 with fail
  rw [HW1.out]
  clear HW1
  generalize W.heap.size = ob at *
  go_wp2
  refine bodyPost_ret (v := .tuple #[.bool false, .bool true]) (by simp [results, Try.results11, go_sem]) rfl ⟨rfl, HD.out⟩
/-- A call of any kind. -/
theorem callE {W : World} {eb g : Nat} {c : Cf} {me : Nat} {fp : Nat → Prop} {x : Ex} (h : EL W eb g c me fp x) (hc : OkC c) {lim : Nat} (hlw : lim ≤ W.heap.size) (hmi : ∀ b, Mine eb fp b → lim ≤ b) {o : Oq} (ho : o.Ok lim W) :
    Calls Try.prog 11 #[.pointer (some ⟨eb, 0, none⟩), .agg o.oc.toArray] W fun e W' => ∃ z s', e = .returned (.tuple #[.bool z, .bool true]) ∧ Hid (StepR c me x.abs o z s' ∧ Did W eb g c me fp s' W') := by
  by_cases h1 : o.kd = 1
  · refine (call1 h hlw hmi ho h1).mono ?_
    rintro e W' ⟨z, th, rfl, D⟩
    refine ⟨z, _, rfl, ?_, D.out⟩
    unfold StepR
    rw [if_neg (by omega), if_neg (by omega), if_neg (by omega)]
    exact ⟨rfl, rfl, rfl, rfl⟩
  · by_cases h2 : o.kd = 2
    · refine (call2 h hlw hmi ho h2).mono ?_
      rintro e W' ⟨pv, th, rfl, D⟩
      refine ⟨_, _, rfl, ?_, D.out⟩
      unfold StepR
      rw [if_neg (by omega), if_neg (by omega), if_neg (by omega)]
      exact ⟨rfl, rfl, rfl, rfl⟩
    · by_cases h3 : o.kd = 3
      · refine (call3 h hc ho h3).mono ?_
        rintro e W' ⟨rfl, D⟩
        refine ⟨_, _, rfl, ?_, D.out⟩
        unfold StepR
        rw [if_pos h3]
      · by_cases h4 : o.kd = 4
        · refine (call4 h hc ho h4).mono ?_
          rintro e W' ⟨rfl, D⟩
          refine ⟨_, _, rfl, ?_, D.out⟩
          unfold StepR
          rw [if_neg (by omega), if_pos h4]
        · by_cases h5 : o.kd = 5
          · refine (call5 h hc ho h5).mono ?_
            rintro e W' ⟨rfl, D⟩
            refine ⟨_, _, rfl, ?_, D.out⟩
            unfold StepR
            rw [if_neg (by omega), if_neg (by omega), if_pos h5]
          · refine (call0 h ho ⟨h1, h2, h3, h4, h5⟩).mono ?_
            rintro e W' ⟨rfl, D⟩
            refine ⟨_, _, rfl, ?_, D.out⟩
            unfold StepR
            rw [if_neg h3, if_neg h4, if_neg h5]
            exact ⟨rfl, rfl, rfl, rfl⟩
end Go.Proofs.Ythfbimbadkmhhaa
