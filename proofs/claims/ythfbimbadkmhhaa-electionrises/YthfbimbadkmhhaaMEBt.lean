import Derived.Test.YthfbimbadkmhhaaMGJ
import Derived.Test.YthfbimbadkmhhaaMGF
namespace Go.Proofs.Ythfbimbadkmhhaa
open Go.RowKit Crc

/-- A message, as far as Beat reads it: 49 cells. -/
structure MsgC (cs : List Value) (kind : Int) (num : Nat) (node : Int) (susp : Bool) : Prop where
  len : cs.length = 49
  c0 : cs[0]? = some (.int .i64 kind)
  c1 : cs[1]? = some (.int .u64 (num : Nat))
  c2 : cs[2]? = some (.int .i64 node)
  c13 : cs[13]? = some (.bool susp)
  hn : num < 18446744073709551616
theorem blk_cellE {W : World} {b : Nat} {cs : List Value} {t : TypeId} (h : W.heap[b]? = some (.cells cs.toArray t (0, 0))) {j : Nat} {v : Value} (hv : cs[j]? = some v) : W.cell? ⟨b, j, none⟩ = some v := by
  rw [block_cell h j, List.getElem?_toArray]
  exact hv
def Ev.beatOk (c : Cf) (src : Nat) (kind : Int) (num : Nat) (node : Int) : Bool := decide (kind = 8) && decide ((src : Int) < 2 * c.f + 1) && decide (num ≠ 0) && c.valid num node
def Ev.susp (s : Ev) (src : Nat) (num : Nat) (node : Int) (susp : Bool) : Ev := if susp = true ∧ num = s.num ∧ node = s.node then ⟨s.num, s.node, withB s.sus (src : Nat), s.len, s.fin, s.pv, s.th⟩ else s
def Ev.beat (c : Cf) (s : Ev) (src : Nat) (kind : Int) (num : Nat) (node : Int) (susp : Bool) (now : Nat) : Ev × Bool :=
  if Ev.beatOk c src kind num node = false then (s, false) else if cmpB s.num s.node num node < 0 then ((Ev.enter c s num node now).susp src num node susp, true) else (s.susp src num node susp, false)
theorem bal_eqE (n1 n2 m1 m2 : Int) (w : World) : (binOp BinOp.eql 33 (.agg #[.int .u64 n1, .int .i64 m1]) (.agg #[.int .u64 n2, .int .i64 m2])).run Try.prog w = .ok (.bool (decide (n1 = n2) && decide (m1 = m2))) w := bal_eq n1 n2 m1 m2 w
set_option maxRecDepth 100000 in
set_option maxHeartbeats 3200000 in
theorem beat_kind {W : World} {eb g : Nat} {c : Cf} {me : Nat} {fp : Nat → Prop} {x : Ex} (h : EL W eb g c me fp x) (hok : c.Ok) (_hem : c.em ≤ 100000) (src : Nat) (_hsrc : src < 18446744073709551616) {cs : List Value} {kind : Int} {num : Nat} {node : Int} {susp : Bool} (hm : MsgC cs kind num node susp) (now : Nat) (_hnow : now < 18446744073709551616) (h1 : kind ≠ 8) :
    Calls Try.prog 20 #[.pointer (some ⟨eb, 0, none⟩), .int .u64 (src : Nat), .agg cs.toArray, .int .u64 (now : Nat)] W fun e W' => e = .returned (.bool false) ∧ Hid (Did W eb g c me fp x.abs W') := by
  obtain ⟨W1, hW1⟩ : ∃ W1, W.alloc (.cells cs.toArray 49) = W1 := ⟨_, rfl⟩
  have B1 : Hid (Below W.heap.size W W1) := by rw [← hW1]; exact below_alloc1 W _
  have C1 : Hid (W1.heap[W.heap.size]? = some (.cells cs.toArray 49 (0, 0))) := by rw [← hW1]; exact alloc_atK _ _
  have HL := hide (h.kept B1.out)
  have K0 : Hid (∀ V, Hid (Below W1.heap.size W1 V) → V.cell? ⟨W.heap.size, 0, none⟩ = some (.int .i64 kind)) := fun V hb => blk_cellE ((hb.out.block _ (block_lt C1.out)).trans C1.out) hm.c0
  have K1 : Hid (∀ V, Hid (Below W1.heap.size W1 V) → V.cell? ⟨W.heap.size, 1, none⟩ = some (.int .u64 (num : Nat))) := fun V hb => blk_cellE ((hb.out.block _ (block_lt C1.out)).trans C1.out) hm.c1
  have K2 : Hid (∀ V, Hid (Below W1.heap.size W1 V) → V.cell? ⟨W.heap.size, 2, none⟩ = some (.int .i64 node)) := fun V hb => blk_cellE ((hb.out.block _ (block_lt C1.out)).trans C1.out) hm.c2
  have K13 : Hid (∀ V, Hid (Below W1.heap.size W1 V) → V.cell? ⟨W.heap.size, 13, none⟩ = some (.bool susp)) := fun V hb => blk_cellE ((hb.out.block _ (block_lt C1.out)).trans C1.out) hm.c13
  have KP : Hid (∀ V, Hid (Below W1.heap.size W1 V) → V.cell? ⟨eb, 0, none⟩ = some (.pointer (some ⟨g, 0, none⟩)) ∧ V.cell? ⟨eb, 2, none⟩ = some (.int .u64 (x.num : Nat)) ∧ V.cell? ⟨eb, 3, none⟩ = some (.int .i64 x.node) ∧ V.cell? ⟨eb, 4, none⟩ = some (.int .u32 (x.sus : Nat)) ∧ V.frozen? ⟨eb, 4, none⟩ = false) := fun V hb => ⟨(HL.out.kept hb.out).c 0, (HL.out.kept hb.out).c 2, (HL.out.kept hb.out).c 3, (HL.out.kept hb.out).c 4, (HL.out.kept hb.out).free 4⟩
  have KL : Hid (∀ V, Hid (Below W1.heap.size W1 V) → eb < V.heap.size) := fun V hb => (HL.out.kept hb.out).lt
  have KW : Hid (∀ V, Hid (Below W1.heap.size W1 V) → W.heap.size < V.heap.size) := fun V hb => Nat.lt_of_lt_of_le (block_lt C1.out) hb.out.size
  have KM : Hid (∀ V, Hid (Below W1.heap.size W1 V) → Calls Try.prog 13 #[.pointer (some ⟨eb, 0, none⟩)] V fun e w' => e = .returned (.bool true) ∧ w' = V) := fun V hb => madeE (HL.out.kept hb.out)
  have KN : Hid (∀ V, Hid (Below W1.heap.size W1 V) → Calls Try.prog 36 #[.pointer (some ⟨g, 0, none⟩)] V fun e V' => e = .returned (.int .i64 (2 * c.f + 1)) ∧ V' = V) := fun V hb => nodes_live (HL.out.kept hb.out).pg hok
  have KV : Hid (∀ V, Hid (Below W1.heap.size W1 V) → Calls Try.prog 27 #[.pointer (some ⟨g, 0, none⟩), .agg #[.int .u64 (num : Nat), .int .i64 node]] V fun e V' => e = .returned (.bool (c.valid num node)) ∧ Below V.heap.size V V') := fun V hb => valid_live num node (HL.out.kept hb.out).pg hok
  have KC : Hid (∀ V, Calls Try.prog 28 #[.agg #[.int .u64 (x.num : Nat), .int .i64 x.node], .agg #[.int .u64 (num : Nat), .int .i64 node]] V fun e V' => e = .returned (.bool (decide (cmpB x.num x.node num node < 0))) ∧ Below V.heap.size V V') := fun V => less_any x.num x.node num node V
  have KB : Hid (∀ V V', Hid (Below W1.heap.size W1 V) → Below V.heap.size V V' → Hid (Below W1.heap.size W1 V')) := fun V V' h h' => h.out.trans (h'.mono h.out.size)
  have KR : Hid (∀ V, Hid (Below W1.heap.size W1 V) → Hid (Below W1.heap.size W1 V.drew)) := fun V hb => hb.out.drew
  have HV1 : Hid (Below W1.heap.size W1 W1) := Below.refl _ W1
  have FIN : Hid (∀ V, Hid (Below W1.heap.size W1 V) → Did W eb g c me fp x.abs V) := fun V hb => Did.of (Fe.below B1.out _) ⟨fp, x, HL.out.kept hb.out, rfl, Fe.below hb.out _, fun _ hb => .inl hb⟩
  have hNw : IntKind.u64.wrap (2 * c.f + 1) = 2 * c.f + 1 := IntWalk.u64_in _ ⟨by have := hok.f1; omega, by have := hok.f3; omega⟩
  have HW1 := hide hW1
  have hd : (kind == 8) = false := by rw [beq_eq_false_iff_ne]; exact h1
  have hd2 : (kind != 8) = true := by simp [h1]
  clear h hm hok h1 hW1 C1 HL B1
  generalize 2 * c.f + 1 = ni at *
  generalize (src : Int) = si at *
  generalize (x.num : Int) = nu at *
  generalize x.node = no at *
  generalize (x.sus : Int) = su at *
  generalize (num : Int) = nm at *
  go_enter Try.func20, Try.ntmps20
  go_upto_region 1 with fail
  rw [HW1.out]
  clear HW1
  generalize W.heap.size = wb at *
  obtain ⟨q0, q2, q3, q4, f4⟩ := KP.out W1 HV1
  have ql := KL.out W1 HV1
  have wl := KW.out W1 HV1
  have m0 := K0.out W1 HV1
  have m1 := K1.out W1 HV1
  go_wp2_with (first
    | (go_at_call 13; refine (KM.out W1 HV1).mono ?_; rintro e V' ⟨rfl, hVV⟩; have hVW := hVV.symm; clear hVV; subst hVW)
    | (go_at_call 36; refine (KN.out _ HV1).mono ?_; rintro e V' ⟨rfl, hVV⟩; have hVW := hVV.symm; clear hVV; subst hVW))
  go_ret
  exact ⟨rfl, FIN.out _ HV1⟩
set_option maxRecDepth 100000 in
set_option maxHeartbeats 3200000 in
theorem beat_src {W : World} {eb g : Nat} {c : Cf} {me : Nat} {fp : Nat → Prop} {x : Ex} (h : EL W eb g c me fp x) (hok : c.Ok) (_hem : c.em ≤ 100000) (src : Nat) (_hsrc : src < 18446744073709551616) {cs : List Value} {kind : Int} {num : Nat} {node : Int} {susp : Bool} (hm : MsgC cs kind num node susp) (now : Nat) (_hnow : now < 18446744073709551616) (h1 : kind = 8) (h2 : ¬ (src : Int) < 2 * c.f + 1) :
    Calls Try.prog 20 #[.pointer (some ⟨eb, 0, none⟩), .int .u64 (src : Nat), .agg cs.toArray, .int .u64 (now : Nat)] W fun e W' => e = .returned (.bool false) ∧ Hid (Did W eb g c me fp x.abs W') := by
  obtain ⟨W1, hW1⟩ : ∃ W1, W.alloc (.cells cs.toArray 49) = W1 := ⟨_, rfl⟩
  have B1 : Hid (Below W.heap.size W W1) := by rw [← hW1]; exact below_alloc1 W _
  have C1 : Hid (W1.heap[W.heap.size]? = some (.cells cs.toArray 49 (0, 0))) := by rw [← hW1]; exact alloc_atK _ _
  have HL := hide (h.kept B1.out)
  have K0 : Hid (∀ V, Hid (Below W1.heap.size W1 V) → V.cell? ⟨W.heap.size, 0, none⟩ = some (.int .i64 kind)) := fun V hb => blk_cellE ((hb.out.block _ (block_lt C1.out)).trans C1.out) hm.c0
  have K1 : Hid (∀ V, Hid (Below W1.heap.size W1 V) → V.cell? ⟨W.heap.size, 1, none⟩ = some (.int .u64 (num : Nat))) := fun V hb => blk_cellE ((hb.out.block _ (block_lt C1.out)).trans C1.out) hm.c1
  have K2 : Hid (∀ V, Hid (Below W1.heap.size W1 V) → V.cell? ⟨W.heap.size, 2, none⟩ = some (.int .i64 node)) := fun V hb => blk_cellE ((hb.out.block _ (block_lt C1.out)).trans C1.out) hm.c2
  have K13 : Hid (∀ V, Hid (Below W1.heap.size W1 V) → V.cell? ⟨W.heap.size, 13, none⟩ = some (.bool susp)) := fun V hb => blk_cellE ((hb.out.block _ (block_lt C1.out)).trans C1.out) hm.c13
  have KP : Hid (∀ V, Hid (Below W1.heap.size W1 V) → V.cell? ⟨eb, 0, none⟩ = some (.pointer (some ⟨g, 0, none⟩)) ∧ V.cell? ⟨eb, 2, none⟩ = some (.int .u64 (x.num : Nat)) ∧ V.cell? ⟨eb, 3, none⟩ = some (.int .i64 x.node) ∧ V.cell? ⟨eb, 4, none⟩ = some (.int .u32 (x.sus : Nat)) ∧ V.frozen? ⟨eb, 4, none⟩ = false) := fun V hb => ⟨(HL.out.kept hb.out).c 0, (HL.out.kept hb.out).c 2, (HL.out.kept hb.out).c 3, (HL.out.kept hb.out).c 4, (HL.out.kept hb.out).free 4⟩
  have KL : Hid (∀ V, Hid (Below W1.heap.size W1 V) → eb < V.heap.size) := fun V hb => (HL.out.kept hb.out).lt
  have KW : Hid (∀ V, Hid (Below W1.heap.size W1 V) → W.heap.size < V.heap.size) := fun V hb => Nat.lt_of_lt_of_le (block_lt C1.out) hb.out.size
  have KM : Hid (∀ V, Hid (Below W1.heap.size W1 V) → Calls Try.prog 13 #[.pointer (some ⟨eb, 0, none⟩)] V fun e w' => e = .returned (.bool true) ∧ w' = V) := fun V hb => madeE (HL.out.kept hb.out)
  have KN : Hid (∀ V, Hid (Below W1.heap.size W1 V) → Calls Try.prog 36 #[.pointer (some ⟨g, 0, none⟩)] V fun e V' => e = .returned (.int .i64 (2 * c.f + 1)) ∧ V' = V) := fun V hb => nodes_live (HL.out.kept hb.out).pg hok
  have KV : Hid (∀ V, Hid (Below W1.heap.size W1 V) → Calls Try.prog 27 #[.pointer (some ⟨g, 0, none⟩), .agg #[.int .u64 (num : Nat), .int .i64 node]] V fun e V' => e = .returned (.bool (c.valid num node)) ∧ Below V.heap.size V V') := fun V hb => valid_live num node (HL.out.kept hb.out).pg hok
  have KC : Hid (∀ V, Calls Try.prog 28 #[.agg #[.int .u64 (x.num : Nat), .int .i64 x.node], .agg #[.int .u64 (num : Nat), .int .i64 node]] V fun e V' => e = .returned (.bool (decide (cmpB x.num x.node num node < 0))) ∧ Below V.heap.size V V') := fun V => less_any x.num x.node num node V
  have KB : Hid (∀ V V', Hid (Below W1.heap.size W1 V) → Below V.heap.size V V' → Hid (Below W1.heap.size W1 V')) := fun V V' h h' => h.out.trans (h'.mono h.out.size)
  have KR : Hid (∀ V, Hid (Below W1.heap.size W1 V) → Hid (Below W1.heap.size W1 V.drew)) := fun V hb => hb.out.drew
  have HV1 : Hid (Below W1.heap.size W1 W1) := Below.refl _ W1
  have FIN : Hid (∀ V, Hid (Below W1.heap.size W1 V) → Did W eb g c me fp x.abs V) := fun V hb => Did.of (Fe.below B1.out _) ⟨fp, x, HL.out.kept hb.out, rfl, Fe.below hb.out _, fun _ hb => .inl hb⟩
  have hNw : IntKind.u64.wrap (2 * c.f + 1) = 2 * c.f + 1 := IntWalk.u64_in _ ⟨by have := hok.f1; omega, by have := hok.f3; omega⟩
  have HW1 := hide hW1
  have hd : (kind != 8) = false := by simp [h1]
  have hd2 : decide (2 * c.f + 1 ≤ (src : Int)) = true := decide_eq_true (by omega)
  clear h hm hok h1 h2 hW1 C1 HL B1
  generalize 2 * c.f + 1 = ni at *
  generalize (src : Int) = si at *
  generalize (x.num : Int) = nu at *
  generalize x.node = no at *
  generalize (x.sus : Int) = su at *
  generalize (num : Int) = nm at *
  go_enter Try.func20, Try.ntmps20
  go_upto_region 1 with fail
  rw [HW1.out]
  clear HW1
  generalize W.heap.size = wb at *
  obtain ⟨q0, q2, q3, q4, f4⟩ := KP.out W1 HV1
  have ql := KL.out W1 HV1
  have wl := KW.out W1 HV1
  have m0 := K0.out W1 HV1
  have m1 := K1.out W1 HV1
  go_wp2_with (first
    | (go_at_call 13; refine (KM.out W1 HV1).mono ?_; rintro e V' ⟨rfl, hVV⟩; have hVW := hVV.symm; clear hVV; subst hVW)
    | (go_at_call 36; refine (KN.out _ HV1).mono ?_; rintro e V' ⟨rfl, hVV⟩; have hVW := hVV.symm; clear hVV; subst hVW))
  go_ret
  exact ⟨rfl, FIN.out _ HV1⟩
set_option maxRecDepth 100000 in
set_option maxHeartbeats 3200000 in
theorem beat_zero {W : World} {eb g : Nat} {c : Cf} {me : Nat} {fp : Nat → Prop} {x : Ex} (h : EL W eb g c me fp x) (hok : c.Ok) (_hem : c.em ≤ 100000) (src : Nat) (_hsrc : src < 18446744073709551616) {cs : List Value} {kind : Int} {num : Nat} {node : Int} {susp : Bool} (hm : MsgC cs kind num node susp) (now : Nat) (_hnow : now < 18446744073709551616) (h1 : kind = 8) (h2 : (src : Int) < 2 * c.f + 1) (h3 : num = 0) :
    Calls Try.prog 20 #[.pointer (some ⟨eb, 0, none⟩), .int .u64 (src : Nat), .agg cs.toArray, .int .u64 (now : Nat)] W fun e W' => e = .returned (.bool false) ∧ Hid (Did W eb g c me fp x.abs W') := by
  obtain ⟨W1, hW1⟩ : ∃ W1, W.alloc (.cells cs.toArray 49) = W1 := ⟨_, rfl⟩
  have B1 : Hid (Below W.heap.size W W1) := by rw [← hW1]; exact below_alloc1 W _
  have C1 : Hid (W1.heap[W.heap.size]? = some (.cells cs.toArray 49 (0, 0))) := by rw [← hW1]; exact alloc_atK _ _
  have HL := hide (h.kept B1.out)
  have K0 : Hid (∀ V, Hid (Below W1.heap.size W1 V) → V.cell? ⟨W.heap.size, 0, none⟩ = some (.int .i64 kind)) := fun V hb => blk_cellE ((hb.out.block _ (block_lt C1.out)).trans C1.out) hm.c0
  have K1 : Hid (∀ V, Hid (Below W1.heap.size W1 V) → V.cell? ⟨W.heap.size, 1, none⟩ = some (.int .u64 (num : Nat))) := fun V hb => blk_cellE ((hb.out.block _ (block_lt C1.out)).trans C1.out) hm.c1
  have K2 : Hid (∀ V, Hid (Below W1.heap.size W1 V) → V.cell? ⟨W.heap.size, 2, none⟩ = some (.int .i64 node)) := fun V hb => blk_cellE ((hb.out.block _ (block_lt C1.out)).trans C1.out) hm.c2
  have K13 : Hid (∀ V, Hid (Below W1.heap.size W1 V) → V.cell? ⟨W.heap.size, 13, none⟩ = some (.bool susp)) := fun V hb => blk_cellE ((hb.out.block _ (block_lt C1.out)).trans C1.out) hm.c13
  have KP : Hid (∀ V, Hid (Below W1.heap.size W1 V) → V.cell? ⟨eb, 0, none⟩ = some (.pointer (some ⟨g, 0, none⟩)) ∧ V.cell? ⟨eb, 2, none⟩ = some (.int .u64 (x.num : Nat)) ∧ V.cell? ⟨eb, 3, none⟩ = some (.int .i64 x.node) ∧ V.cell? ⟨eb, 4, none⟩ = some (.int .u32 (x.sus : Nat)) ∧ V.frozen? ⟨eb, 4, none⟩ = false) := fun V hb => ⟨(HL.out.kept hb.out).c 0, (HL.out.kept hb.out).c 2, (HL.out.kept hb.out).c 3, (HL.out.kept hb.out).c 4, (HL.out.kept hb.out).free 4⟩
  have KL : Hid (∀ V, Hid (Below W1.heap.size W1 V) → eb < V.heap.size) := fun V hb => (HL.out.kept hb.out).lt
  have KW : Hid (∀ V, Hid (Below W1.heap.size W1 V) → W.heap.size < V.heap.size) := fun V hb => Nat.lt_of_lt_of_le (block_lt C1.out) hb.out.size
  have KM : Hid (∀ V, Hid (Below W1.heap.size W1 V) → Calls Try.prog 13 #[.pointer (some ⟨eb, 0, none⟩)] V fun e w' => e = .returned (.bool true) ∧ w' = V) := fun V hb => madeE (HL.out.kept hb.out)
  have KN : Hid (∀ V, Hid (Below W1.heap.size W1 V) → Calls Try.prog 36 #[.pointer (some ⟨g, 0, none⟩)] V fun e V' => e = .returned (.int .i64 (2 * c.f + 1)) ∧ V' = V) := fun V hb => nodes_live (HL.out.kept hb.out).pg hok
  have KV : Hid (∀ V, Hid (Below W1.heap.size W1 V) → Calls Try.prog 27 #[.pointer (some ⟨g, 0, none⟩), .agg #[.int .u64 (num : Nat), .int .i64 node]] V fun e V' => e = .returned (.bool (c.valid num node)) ∧ Below V.heap.size V V') := fun V hb => valid_live num node (HL.out.kept hb.out).pg hok
  have KC : Hid (∀ V, Calls Try.prog 28 #[.agg #[.int .u64 (x.num : Nat), .int .i64 x.node], .agg #[.int .u64 (num : Nat), .int .i64 node]] V fun e V' => e = .returned (.bool (decide (cmpB x.num x.node num node < 0))) ∧ Below V.heap.size V V') := fun V => less_any x.num x.node num node V
  have KB : Hid (∀ V V', Hid (Below W1.heap.size W1 V) → Below V.heap.size V V' → Hid (Below W1.heap.size W1 V')) := fun V V' h h' => h.out.trans (h'.mono h.out.size)
  have KR : Hid (∀ V, Hid (Below W1.heap.size W1 V) → Hid (Below W1.heap.size W1 V.drew)) := fun V hb => hb.out.drew
  have HV1 : Hid (Below W1.heap.size W1 W1) := Below.refl _ W1
  have FIN : Hid (∀ V, Hid (Below W1.heap.size W1 V) → Did W eb g c me fp x.abs V) := fun V hb => Did.of (Fe.below B1.out _) ⟨fp, x, HL.out.kept hb.out, rfl, Fe.below hb.out _, fun _ hb => .inl hb⟩
  have hNw : IntKind.u64.wrap (2 * c.f + 1) = 2 * c.f + 1 := IntWalk.u64_in _ ⟨by have := hok.f1; omega, by have := hok.f3; omega⟩
  have HW1 := hide hW1
  have hd : (kind != 8) = false := by simp [h1]
  have hd2 : decide (2 * c.f + 1 ≤ (src : Int)) = false := decide_eq_false (by omega)
  have hd3 : ((num : Int) == 0) = true := by simp [h3]
  clear h hm hok h1 h2 h3 hW1 C1 HL B1
  generalize 2 * c.f + 1 = ni at *
  generalize (src : Int) = si at *
  generalize (x.num : Int) = nu at *
  generalize x.node = no at *
  generalize (x.sus : Int) = su at *
  generalize (num : Int) = nm at *
  go_enter Try.func20, Try.ntmps20
  go_upto_region 1 with fail
  rw [HW1.out]
  clear HW1
  generalize W.heap.size = wb at *
  obtain ⟨q0, q2, q3, q4, f4⟩ := KP.out W1 HV1
  have ql := KL.out W1 HV1
  have wl := KW.out W1 HV1
  have m0 := K0.out W1 HV1
  have m1 := K1.out W1 HV1
  go_wp2_with (first
    | (go_at_call 13; refine (KM.out W1 HV1).mono ?_; rintro e V' ⟨rfl, hVV⟩; have hVW := hVV.symm; clear hVV; subst hVW)
    | (go_at_call 36; refine (KN.out _ HV1).mono ?_; rintro e V' ⟨rfl, hVV⟩; have hVW := hVV.symm; clear hVV; subst hVW))
  go_ret
  exact ⟨rfl, FIN.out _ HV1⟩
set_option maxRecDepth 100000 in
set_option maxHeartbeats 3200000 in
theorem beat_bad {W : World} {eb g : Nat} {c : Cf} {me : Nat} {fp : Nat → Prop} {x : Ex} (h : EL W eb g c me fp x) (hok : c.Ok) (_hem : c.em ≤ 100000) (src : Nat) (_hsrc : src < 18446744073709551616) {cs : List Value} {kind : Int} {num : Nat} {node : Int} {susp : Bool} (hm : MsgC cs kind num node susp) (now : Nat) (_hnow : now < 18446744073709551616) (h1 : kind = 8) (h2 : (src : Int) < 2 * c.f + 1) (h3 : num ≠ 0) (h4 : c.valid num node = false) :
    Calls Try.prog 20 #[.pointer (some ⟨eb, 0, none⟩), .int .u64 (src : Nat), .agg cs.toArray, .int .u64 (now : Nat)] W fun e W' => e = .returned (.bool false) ∧ Hid (Did W eb g c me fp x.abs W') := by
  obtain ⟨W1, hW1⟩ : ∃ W1, W.alloc (.cells cs.toArray 49) = W1 := ⟨_, rfl⟩
  have B1 : Hid (Below W.heap.size W W1) := by rw [← hW1]; exact below_alloc1 W _
  have C1 : Hid (W1.heap[W.heap.size]? = some (.cells cs.toArray 49 (0, 0))) := by rw [← hW1]; exact alloc_atK _ _
  have HL := hide (h.kept B1.out)
  have K0 : Hid (∀ V, Hid (Below W1.heap.size W1 V) → V.cell? ⟨W.heap.size, 0, none⟩ = some (.int .i64 kind)) := fun V hb => blk_cellE ((hb.out.block _ (block_lt C1.out)).trans C1.out) hm.c0
  have K1 : Hid (∀ V, Hid (Below W1.heap.size W1 V) → V.cell? ⟨W.heap.size, 1, none⟩ = some (.int .u64 (num : Nat))) := fun V hb => blk_cellE ((hb.out.block _ (block_lt C1.out)).trans C1.out) hm.c1
  have K2 : Hid (∀ V, Hid (Below W1.heap.size W1 V) → V.cell? ⟨W.heap.size, 2, none⟩ = some (.int .i64 node)) := fun V hb => blk_cellE ((hb.out.block _ (block_lt C1.out)).trans C1.out) hm.c2
  have K13 : Hid (∀ V, Hid (Below W1.heap.size W1 V) → V.cell? ⟨W.heap.size, 13, none⟩ = some (.bool susp)) := fun V hb => blk_cellE ((hb.out.block _ (block_lt C1.out)).trans C1.out) hm.c13
  have KP : Hid (∀ V, Hid (Below W1.heap.size W1 V) → V.cell? ⟨eb, 0, none⟩ = some (.pointer (some ⟨g, 0, none⟩)) ∧ V.cell? ⟨eb, 2, none⟩ = some (.int .u64 (x.num : Nat)) ∧ V.cell? ⟨eb, 3, none⟩ = some (.int .i64 x.node) ∧ V.cell? ⟨eb, 4, none⟩ = some (.int .u32 (x.sus : Nat)) ∧ V.frozen? ⟨eb, 4, none⟩ = false) := fun V hb => ⟨(HL.out.kept hb.out).c 0, (HL.out.kept hb.out).c 2, (HL.out.kept hb.out).c 3, (HL.out.kept hb.out).c 4, (HL.out.kept hb.out).free 4⟩
  have KL : Hid (∀ V, Hid (Below W1.heap.size W1 V) → eb < V.heap.size) := fun V hb => (HL.out.kept hb.out).lt
  have KW : Hid (∀ V, Hid (Below W1.heap.size W1 V) → W.heap.size < V.heap.size) := fun V hb => Nat.lt_of_lt_of_le (block_lt C1.out) hb.out.size
  have KM : Hid (∀ V, Hid (Below W1.heap.size W1 V) → Calls Try.prog 13 #[.pointer (some ⟨eb, 0, none⟩)] V fun e w' => e = .returned (.bool true) ∧ w' = V) := fun V hb => madeE (HL.out.kept hb.out)
  have KN : Hid (∀ V, Hid (Below W1.heap.size W1 V) → Calls Try.prog 36 #[.pointer (some ⟨g, 0, none⟩)] V fun e V' => e = .returned (.int .i64 (2 * c.f + 1)) ∧ V' = V) := fun V hb => nodes_live (HL.out.kept hb.out).pg hok
  have KV : Hid (∀ V, Hid (Below W1.heap.size W1 V) → Calls Try.prog 27 #[.pointer (some ⟨g, 0, none⟩), .agg #[.int .u64 (num : Nat), .int .i64 node]] V fun e V' => e = .returned (.bool (c.valid num node)) ∧ Below V.heap.size V V') := fun V hb => valid_live num node (HL.out.kept hb.out).pg hok
  have KC : Hid (∀ V, Calls Try.prog 28 #[.agg #[.int .u64 (x.num : Nat), .int .i64 x.node], .agg #[.int .u64 (num : Nat), .int .i64 node]] V fun e V' => e = .returned (.bool (decide (cmpB x.num x.node num node < 0))) ∧ Below V.heap.size V V') := fun V => less_any x.num x.node num node V
  have KB : Hid (∀ V V', Hid (Below W1.heap.size W1 V) → Below V.heap.size V V' → Hid (Below W1.heap.size W1 V')) := fun V V' h h' => h.out.trans (h'.mono h.out.size)
  have KR : Hid (∀ V, Hid (Below W1.heap.size W1 V) → Hid (Below W1.heap.size W1 V.drew)) := fun V hb => hb.out.drew
  have HV1 : Hid (Below W1.heap.size W1 W1) := Below.refl _ W1
  have FIN : Hid (∀ V, Hid (Below W1.heap.size W1 V) → Did W eb g c me fp x.abs V) := fun V hb => Did.of (Fe.below B1.out _) ⟨fp, x, HL.out.kept hb.out, rfl, Fe.below hb.out _, fun _ hb => .inl hb⟩
  have hNw : IntKind.u64.wrap (2 * c.f + 1) = 2 * c.f + 1 := IntWalk.u64_in _ ⟨by have := hok.f1; omega, by have := hok.f3; omega⟩
  have HW1 := hide hW1
  have hd : (kind != 8) = false := by simp [h1]
  have hd2 : decide (2 * c.f + 1 ≤ (src : Int)) = false := decide_eq_false (by omega)
  have hd3 : ((num : Int) == 0) = false := by rw [beq_eq_false_iff_ne]; omega
  rw [h4] at KV
  clear h hm hok h1 h2 h3 h4 hW1 C1 HL B1
  generalize 2 * c.f + 1 = ni at *
  generalize (src : Int) = si at *
  generalize (x.num : Int) = nu at *
  generalize x.node = no at *
  generalize (x.sus : Int) = su at *
  generalize (num : Int) = nm at *
  go_enter Try.func20, Try.ntmps20
  go_upto_region 1 with fail
  rw [HW1.out]
  clear HW1
  generalize W.heap.size = wb at *
  obtain ⟨q0, q2, q3, q4, f4⟩ := KP.out W1 HV1
  have ql := KL.out W1 HV1
  have wl := KW.out W1 HV1
  have m0 := K0.out W1 HV1
  have m1 := K1.out W1 HV1
  go_upto_region 6 with (first
    | (go_at_call 13; refine (KM.out W1 HV1).mono ?_; rintro e V' ⟨rfl, hVV⟩; have hVW := hVV.symm; clear hVV; subst hVW)
    | (go_at_call 36; refine (KN.out _ HV1).mono ?_; rintro e V' ⟨rfl, hVV⟩; have hVW := hVV.symm; clear hVV; subst hVW))
  clear q0 q2 q3 q4 f4 ql wl m0 m1
  refine region_assign (fun V => Hid (Below W1.heap.size W1 V)) [(30, .pointer (some ⟨eb, 0, none⟩)), (31, .pointer (some ⟨eb, 0, none⟩)), (32, .pointer (some ⟨eb, 0, none⟩)), (33, .pointer (some ⟨g, 0, none⟩)), (34, .pointer (some ⟨wb, 1, none⟩)), (35, .agg #[.int .u64 nm, .int .i64 node]), (36, .bool false), (37, .bool true), (25, .bool true)] _ (by kernel_rfl) (by kernel_rfl) (by kernel_rfl) (by kernel_rfl) rfl (KR.out _ HV1) ?_ (fun V2 HV2 => ?_)
  · simp only [putAll, Act.put, List.setIfInBounds_toArray, List.set_cons_zero, List.set_cons_succ]
    repeat' (first | exact AllTo.nil | refine AllTo.cons ?_ ?_)
    all_goals first
      | exact stepTo_no (by rfl) rfl
      | (refine stepTo_yes (by rfl) (fun V hV K hK => ?_)
         obtain ⟨q0, q2, q3, q4, f4⟩ := KP.out V hV
         have ql := KL.out V hV
         have wl := KW.out V hV
         have m1 := K1.out V hV
         have m2 := K2.out V hV
         have m13 := K13.out V hV
         go_simp
         first
           | exact hK.out _ hV
           | (go_at_call 27; refine (KV.out V hV).mono ?_; rintro e V' ⟨rfl, hV'⟩; exact hK.out _ (KB.out _ _ hV hV')))
  simp only [putAll, Act.put, List.setIfInBounds_toArray, List.set_cons_zero, List.set_cons_succ]
  obtain ⟨q0, q2, q3, q4, f4⟩ := KP.out V2 HV2
  have ql := KL.out V2 HV2
  have wl := KW.out V2 HV2
  have m0 := K0.out V2 HV2
  have m1 := K1.out V2 HV2
  go_wp2
  go_ret
  exact ⟨rfl, FIN.out _ HV2⟩
set_option maxRecDepth 100000 in
set_option maxHeartbeats 3200000 in
theorem beat_quiet {W : World} {eb g : Nat} {c : Cf} {me : Nat} {fp : Nat → Prop} {x : Ex} (h : EL W eb g c me fp x) (hok : c.Ok) (_hem : c.em ≤ 100000) (src : Nat) (_hsrc : src < 18446744073709551616) {cs : List Value} {kind : Int} {num : Nat} {node : Int} {susp : Bool} (hm : MsgC cs kind num node susp) (now : Nat) (_hnow : now < 18446744073709551616) (h1 : kind = 8) (h2 : (src : Int) < 2 * c.f + 1) (h3 : num ≠ 0) (h4 : c.valid num node = true) (h5 : ¬ cmpB x.num x.node num node < 0) (h6 : susp = false) :
    Calls Try.prog 20 #[.pointer (some ⟨eb, 0, none⟩), .int .u64 (src : Nat), .agg cs.toArray, .int .u64 (now : Nat)] W fun e W' => e = .returned (.bool false) ∧ Hid (Did W eb g c me fp x.abs W') := by
  obtain ⟨W1, hW1⟩ : ∃ W1, W.alloc (.cells cs.toArray 49) = W1 := ⟨_, rfl⟩
  have B1 : Hid (Below W.heap.size W W1) := by rw [← hW1]; exact below_alloc1 W _
  have C1 : Hid (W1.heap[W.heap.size]? = some (.cells cs.toArray 49 (0, 0))) := by rw [← hW1]; exact alloc_atK _ _
  have HL := hide (h.kept B1.out)
  have K0 : Hid (∀ V, Hid (Below W1.heap.size W1 V) → V.cell? ⟨W.heap.size, 0, none⟩ = some (.int .i64 kind)) := fun V hb => blk_cellE ((hb.out.block _ (block_lt C1.out)).trans C1.out) hm.c0
  have K1 : Hid (∀ V, Hid (Below W1.heap.size W1 V) → V.cell? ⟨W.heap.size, 1, none⟩ = some (.int .u64 (num : Nat))) := fun V hb => blk_cellE ((hb.out.block _ (block_lt C1.out)).trans C1.out) hm.c1
  have K2 : Hid (∀ V, Hid (Below W1.heap.size W1 V) → V.cell? ⟨W.heap.size, 2, none⟩ = some (.int .i64 node)) := fun V hb => blk_cellE ((hb.out.block _ (block_lt C1.out)).trans C1.out) hm.c2
  have K13 : Hid (∀ V, Hid (Below W1.heap.size W1 V) → V.cell? ⟨W.heap.size, 13, none⟩ = some (.bool susp)) := fun V hb => blk_cellE ((hb.out.block _ (block_lt C1.out)).trans C1.out) hm.c13
  have KP : Hid (∀ V, Hid (Below W1.heap.size W1 V) → V.cell? ⟨eb, 0, none⟩ = some (.pointer (some ⟨g, 0, none⟩)) ∧ V.cell? ⟨eb, 2, none⟩ = some (.int .u64 (x.num : Nat)) ∧ V.cell? ⟨eb, 3, none⟩ = some (.int .i64 x.node) ∧ V.cell? ⟨eb, 4, none⟩ = some (.int .u32 (x.sus : Nat)) ∧ V.frozen? ⟨eb, 4, none⟩ = false) := fun V hb => ⟨(HL.out.kept hb.out).c 0, (HL.out.kept hb.out).c 2, (HL.out.kept hb.out).c 3, (HL.out.kept hb.out).c 4, (HL.out.kept hb.out).free 4⟩
  have KL : Hid (∀ V, Hid (Below W1.heap.size W1 V) → eb < V.heap.size) := fun V hb => (HL.out.kept hb.out).lt
  have KW : Hid (∀ V, Hid (Below W1.heap.size W1 V) → W.heap.size < V.heap.size) := fun V hb => Nat.lt_of_lt_of_le (block_lt C1.out) hb.out.size
  have KM : Hid (∀ V, Hid (Below W1.heap.size W1 V) → Calls Try.prog 13 #[.pointer (some ⟨eb, 0, none⟩)] V fun e w' => e = .returned (.bool true) ∧ w' = V) := fun V hb => madeE (HL.out.kept hb.out)
  have KN : Hid (∀ V, Hid (Below W1.heap.size W1 V) → Calls Try.prog 36 #[.pointer (some ⟨g, 0, none⟩)] V fun e V' => e = .returned (.int .i64 (2 * c.f + 1)) ∧ V' = V) := fun V hb => nodes_live (HL.out.kept hb.out).pg hok
  have KV : Hid (∀ V, Hid (Below W1.heap.size W1 V) → Calls Try.prog 27 #[.pointer (some ⟨g, 0, none⟩), .agg #[.int .u64 (num : Nat), .int .i64 node]] V fun e V' => e = .returned (.bool (c.valid num node)) ∧ Below V.heap.size V V') := fun V hb => valid_live num node (HL.out.kept hb.out).pg hok
  have KC : Hid (∀ V, Calls Try.prog 28 #[.agg #[.int .u64 (x.num : Nat), .int .i64 x.node], .agg #[.int .u64 (num : Nat), .int .i64 node]] V fun e V' => e = .returned (.bool (decide (cmpB x.num x.node num node < 0))) ∧ Below V.heap.size V V') := fun V => less_any x.num x.node num node V
  have KB : Hid (∀ V V', Hid (Below W1.heap.size W1 V) → Below V.heap.size V V' → Hid (Below W1.heap.size W1 V')) := fun V V' h h' => h.out.trans (h'.mono h.out.size)
  have KR : Hid (∀ V, Hid (Below W1.heap.size W1 V) → Hid (Below W1.heap.size W1 V.drew)) := fun V hb => hb.out.drew
  have HV1 : Hid (Below W1.heap.size W1 W1) := Below.refl _ W1
  have FIN : Hid (∀ V, Hid (Below W1.heap.size W1 V) → Did W eb g c me fp x.abs V) := fun V hb => Did.of (Fe.below B1.out _) ⟨fp, x, HL.out.kept hb.out, rfl, Fe.below hb.out _, fun _ hb => .inl hb⟩
  have hNw : IntKind.u64.wrap (2 * c.f + 1) = 2 * c.f + 1 := IntWalk.u64_in _ ⟨by have := hok.f1; omega, by have := hok.f3; omega⟩
  have HW1 := hide hW1
  have hd : (kind != 8) = false := by simp [h1]
  have hd2 : decide (2 * c.f + 1 ≤ (src : Int)) = false := decide_eq_false (by omega)
  have hd3 : ((num : Int) == 0) = false := by rw [beq_eq_false_iff_ne]; omega
  rw [h4] at KV
  rw [decide_eq_false h5] at KC
  subst h6
  clear h hm hok h1 h2 h3 h4 h5 hW1 C1 HL B1
  generalize 2 * c.f + 1 = ni at *
  generalize (src : Int) = si at *
  generalize (x.num : Int) = nu at *
  generalize x.node = no at *
  generalize (x.sus : Int) = su at *
  generalize (num : Int) = nm at *
  go_enter Try.func20, Try.ntmps20
  go_upto_region 1 with fail
  rw [HW1.out]
  clear HW1
  generalize W.heap.size = wb at *
  obtain ⟨q0, q2, q3, q4, f4⟩ := KP.out W1 HV1
  have ql := KL.out W1 HV1
  have wl := KW.out W1 HV1
  have m0 := K0.out W1 HV1
  have m1 := K1.out W1 HV1
  go_upto_region 6 with (first
    | (go_at_call 13; refine (KM.out W1 HV1).mono ?_; rintro e V' ⟨rfl, hVV⟩; have hVW := hVV.symm; clear hVV; subst hVW)
    | (go_at_call 36; refine (KN.out _ HV1).mono ?_; rintro e V' ⟨rfl, hVV⟩; have hVW := hVV.symm; clear hVV; subst hVW))
  clear q0 q2 q3 q4 f4 ql wl m0 m1
  refine region_assign (fun V => Hid (Below W1.heap.size W1 V)) [(30, .pointer (some ⟨eb, 0, none⟩)), (31, .pointer (some ⟨eb, 0, none⟩)), (32, .pointer (some ⟨eb, 0, none⟩)), (33, .pointer (some ⟨g, 0, none⟩)), (34, .pointer (some ⟨wb, 1, none⟩)), (35, .agg #[.int .u64 nm, .int .i64 node]), (36, .bool true), (37, .bool false), (25, .bool false)] _ (by kernel_rfl) (by kernel_rfl) (by kernel_rfl) (by kernel_rfl) rfl (KR.out _ HV1) ?_ (fun V2 HV2 => ?_)
  · simp only [putAll, Act.put, List.setIfInBounds_toArray, List.set_cons_zero, List.set_cons_succ]
    repeat' (first | exact AllTo.nil | refine AllTo.cons ?_ ?_)
    all_goals first
      | exact stepTo_no (by rfl) rfl
      | (refine stepTo_yes (by rfl) (fun V hV K hK => ?_)
         obtain ⟨q0, q2, q3, q4, f4⟩ := KP.out V hV
         have ql := KL.out V hV
         have wl := KW.out V hV
         have m1 := K1.out V hV
         have m2 := K2.out V hV
         have m13 := K13.out V hV
         go_simp
         first
           | exact hK.out _ hV
           | (go_at_call 27; refine (KV.out V hV).mono ?_; rintro e V' ⟨rfl, hV'⟩; exact hK.out _ (KB.out _ _ hV hV')))
  simp only [putAll, Act.put, List.setIfInBounds_toArray, List.set_cons_zero, List.set_cons_succ]
  obtain ⟨q0, q2, q3, q4, f4⟩ := KP.out V2 HV2
  have ql := KL.out V2 HV2
  have wl := KW.out V2 HV2
  have m0 := K0.out V2 HV2
  have m1 := K1.out V2 HV2
  go_upto_region 8 with fail
  clear q0 q2 q3 q4 f4 ql wl m0 m1
  refine region_assign (fun V => Hid (Below W1.heap.size W1 V)) [(38, .pointer (some ⟨eb, 0, none⟩)), (39, .pointer (some ⟨eb, 0, none⟩)), (40, .pointer (some ⟨eb, 2, none⟩)), (41, .agg #[.int .u64 nu, .int .i64 no]), (42, .pointer (some ⟨wb, 1, none⟩)), (43, .agg #[.int .u64 nm, .int .i64 node]), (44, .bool false), (9, .bool false)] _ (by kernel_rfl) (by kernel_rfl) (by kernel_rfl) (by kernel_rfl) rfl (KR.out _ HV2) ?_ (fun V3 HV3 => ?_)
  · simp only [putAll, Act.put, List.setIfInBounds_toArray, List.set_cons_zero, List.set_cons_succ]
    repeat' (first | exact AllTo.nil | refine AllTo.cons ?_ ?_)
    all_goals first
      | exact stepTo_no (by rfl) rfl
      | (refine stepTo_yes (by rfl) (fun V hV K hK => ?_)
         obtain ⟨q0, q2, q3, q4, f4⟩ := KP.out V hV
         have ql := KL.out V hV
         have wl := KW.out V hV
         have m1 := K1.out V hV
         have m2 := K2.out V hV
         have m13 := K13.out V hV
         go_simp
         first
           | exact hK.out _ hV
           | (go_at_call 28; refine (KC.out V).mono ?_; rintro e V' ⟨rfl, hV'⟩; exact hK.out _ (KB.out _ _ hV hV')))
  simp only [putAll, Act.put, List.setIfInBounds_toArray, List.set_cons_zero, List.set_cons_succ]
  obtain ⟨q0, q2, q3, q4, f4⟩ := KP.out V3 HV3
  have ql := KL.out V3 HV3
  have wl := KW.out V3 HV3
  have m0 := K0.out V3 HV3
  have m1 := K1.out V3 HV3
  go_upto_region 11 with fail
  clear q0 q2 q3 q4 f4 ql wl m0 m1
  refine region_assign (fun V => Hid (Below W1.heap.size W1 V)) [(51, .pointer (some ⟨wb, 13, none⟩)), (52, .bool false), (53, .bool false), (61, .bool false)] _ (by kernel_rfl) (by kernel_rfl) (by kernel_rfl) (by kernel_rfl) rfl (KR.out _ HV3) ?_ (fun V4 HV4 => ?_)
  · simp only [putAll, Act.put, List.setIfInBounds_toArray, List.set_cons_zero, List.set_cons_succ]
    repeat' (first | exact AllTo.nil | refine AllTo.cons ?_ ?_)
    all_goals first
      | exact stepTo_no (by rfl) rfl
      | (refine stepTo_yes (by rfl) (fun V hV K hK => ?_)
         obtain ⟨q0, q2, q3, q4, f4⟩ := KP.out V hV
         have ql := KL.out V hV
         have wl := KW.out V hV
         have m1 := K1.out V hV
         have m2 := K2.out V hV
         have m13 := K13.out V hV
         go_simp
         first
           | exact hK.out _ hV
           | fail)
  simp only [putAll, Act.put, List.setIfInBounds_toArray, List.set_cons_zero, List.set_cons_succ]
  obtain ⟨q0, q2, q3, q4, f4⟩ := KP.out V4 HV4
  have ql := KL.out V4 HV4
  have wl := KW.out V4 HV4
  have m0 := K0.out V4 HV4
  have m1 := K1.out V4 HV4
  go_wp2
  go_ret
  exact ⟨rfl, FIN.out _ HV4⟩
set_option maxRecDepth 100000 in
set_option maxHeartbeats 3200000 in
theorem beat_other {W : World} {eb g : Nat} {c : Cf} {me : Nat} {fp : Nat → Prop} {x : Ex} (h : EL W eb g c me fp x) (hok : c.Ok) (_hem : c.em ≤ 100000) (src : Nat) (_hsrc : src < 18446744073709551616) {cs : List Value} {kind : Int} {num : Nat} {node : Int} {susp : Bool} (hm : MsgC cs kind num node susp) (now : Nat) (_hnow : now < 18446744073709551616) (h1 : kind = 8) (h2 : (src : Int) < 2 * c.f + 1) (h3 : num ≠ 0) (h4 : c.valid num node = true) (h5 : ¬ cmpB x.num x.node num node < 0) (h6 : susp = true) (h7 : ¬ (num = x.num ∧ node = x.node)) :
    Calls Try.prog 20 #[.pointer (some ⟨eb, 0, none⟩), .int .u64 (src : Nat), .agg cs.toArray, .int .u64 (now : Nat)] W fun e W' => e = .returned (.bool false) ∧ Hid (Did W eb g c me fp x.abs W') := by
  obtain ⟨W1, hW1⟩ : ∃ W1, W.alloc (.cells cs.toArray 49) = W1 := ⟨_, rfl⟩
  have B1 : Hid (Below W.heap.size W W1) := by rw [← hW1]; exact below_alloc1 W _
  have C1 : Hid (W1.heap[W.heap.size]? = some (.cells cs.toArray 49 (0, 0))) := by rw [← hW1]; exact alloc_atK _ _
  have HL := hide (h.kept B1.out)
  have K0 : Hid (∀ V, Hid (Below W1.heap.size W1 V) → V.cell? ⟨W.heap.size, 0, none⟩ = some (.int .i64 kind)) := fun V hb => blk_cellE ((hb.out.block _ (block_lt C1.out)).trans C1.out) hm.c0
  have K1 : Hid (∀ V, Hid (Below W1.heap.size W1 V) → V.cell? ⟨W.heap.size, 1, none⟩ = some (.int .u64 (num : Nat))) := fun V hb => blk_cellE ((hb.out.block _ (block_lt C1.out)).trans C1.out) hm.c1
  have K2 : Hid (∀ V, Hid (Below W1.heap.size W1 V) → V.cell? ⟨W.heap.size, 2, none⟩ = some (.int .i64 node)) := fun V hb => blk_cellE ((hb.out.block _ (block_lt C1.out)).trans C1.out) hm.c2
  have K13 : Hid (∀ V, Hid (Below W1.heap.size W1 V) → V.cell? ⟨W.heap.size, 13, none⟩ = some (.bool susp)) := fun V hb => blk_cellE ((hb.out.block _ (block_lt C1.out)).trans C1.out) hm.c13
  have KP : Hid (∀ V, Hid (Below W1.heap.size W1 V) → V.cell? ⟨eb, 0, none⟩ = some (.pointer (some ⟨g, 0, none⟩)) ∧ V.cell? ⟨eb, 2, none⟩ = some (.int .u64 (x.num : Nat)) ∧ V.cell? ⟨eb, 3, none⟩ = some (.int .i64 x.node) ∧ V.cell? ⟨eb, 4, none⟩ = some (.int .u32 (x.sus : Nat)) ∧ V.frozen? ⟨eb, 4, none⟩ = false) := fun V hb => ⟨(HL.out.kept hb.out).c 0, (HL.out.kept hb.out).c 2, (HL.out.kept hb.out).c 3, (HL.out.kept hb.out).c 4, (HL.out.kept hb.out).free 4⟩
  have KL : Hid (∀ V, Hid (Below W1.heap.size W1 V) → eb < V.heap.size) := fun V hb => (HL.out.kept hb.out).lt
  have KW : Hid (∀ V, Hid (Below W1.heap.size W1 V) → W.heap.size < V.heap.size) := fun V hb => Nat.lt_of_lt_of_le (block_lt C1.out) hb.out.size
  have KM : Hid (∀ V, Hid (Below W1.heap.size W1 V) → Calls Try.prog 13 #[.pointer (some ⟨eb, 0, none⟩)] V fun e w' => e = .returned (.bool true) ∧ w' = V) := fun V hb => madeE (HL.out.kept hb.out)
  have KN : Hid (∀ V, Hid (Below W1.heap.size W1 V) → Calls Try.prog 36 #[.pointer (some ⟨g, 0, none⟩)] V fun e V' => e = .returned (.int .i64 (2 * c.f + 1)) ∧ V' = V) := fun V hb => nodes_live (HL.out.kept hb.out).pg hok
  have KV : Hid (∀ V, Hid (Below W1.heap.size W1 V) → Calls Try.prog 27 #[.pointer (some ⟨g, 0, none⟩), .agg #[.int .u64 (num : Nat), .int .i64 node]] V fun e V' => e = .returned (.bool (c.valid num node)) ∧ Below V.heap.size V V') := fun V hb => valid_live num node (HL.out.kept hb.out).pg hok
  have KC : Hid (∀ V, Calls Try.prog 28 #[.agg #[.int .u64 (x.num : Nat), .int .i64 x.node], .agg #[.int .u64 (num : Nat), .int .i64 node]] V fun e V' => e = .returned (.bool (decide (cmpB x.num x.node num node < 0))) ∧ Below V.heap.size V V') := fun V => less_any x.num x.node num node V
  have KB : Hid (∀ V V', Hid (Below W1.heap.size W1 V) → Below V.heap.size V V' → Hid (Below W1.heap.size W1 V')) := fun V V' h h' => h.out.trans (h'.mono h.out.size)
  have KR : Hid (∀ V, Hid (Below W1.heap.size W1 V) → Hid (Below W1.heap.size W1 V.drew)) := fun V hb => hb.out.drew
  have HV1 : Hid (Below W1.heap.size W1 W1) := Below.refl _ W1
  have FIN : Hid (∀ V, Hid (Below W1.heap.size W1 V) → Did W eb g c me fp x.abs V) := fun V hb => Did.of (Fe.below B1.out _) ⟨fp, x, HL.out.kept hb.out, rfl, Fe.below hb.out _, fun _ hb => .inl hb⟩
  have hNw : IntKind.u64.wrap (2 * c.f + 1) = 2 * c.f + 1 := IntWalk.u64_in _ ⟨by have := hok.f1; omega, by have := hok.f3; omega⟩
  have HW1 := hide hW1
  have hd : (kind != 8) = false := by simp [h1]
  have hd2 : decide (2 * c.f + 1 ≤ (src : Int)) = false := decide_eq_false (by omega)
  have hd3 : ((num : Int) == 0) = false := by rw [beq_eq_false_iff_ne]; omega
  rw [h4] at KV
  rw [decide_eq_false h5] at KC
  subst h6
  have hbq : ∀ w, (binOp BinOp.eql 33 (.agg #[.int .u64 (num : Nat), .int .i64 node]) (.agg #[.int .u64 (x.num : Nat), .int .i64 x.node])).run Try.prog w = .ok (.bool false) w := fun w => by
    have := bal_eqE (num : Int) (x.num : Int) node x.node w
    rw [this]
    congr 2
    by_cases e : (num : Int) = (x.num : Int)
    · have : ¬ node = x.node := fun e2 => h7 ⟨by omega, e2⟩
      simp [this]
    · simp [e]
  clear h7
  clear h hm hok h1 h2 h3 h4 h5 hW1 C1 HL B1
  generalize 2 * c.f + 1 = ni at *
  generalize (src : Int) = si at *
  generalize (x.num : Int) = nu at *
  generalize x.node = no at *
  generalize (x.sus : Int) = su at *
  generalize (num : Int) = nm at *
  go_enter Try.func20, Try.ntmps20
  go_upto_region 1 with fail
  rw [HW1.out]
  clear HW1
  generalize W.heap.size = wb at *
  obtain ⟨q0, q2, q3, q4, f4⟩ := KP.out W1 HV1
  have ql := KL.out W1 HV1
  have wl := KW.out W1 HV1
  have m0 := K0.out W1 HV1
  have m1 := K1.out W1 HV1
  go_upto_region 6 with (first
    | (go_at_call 13; refine (KM.out W1 HV1).mono ?_; rintro e V' ⟨rfl, hVV⟩; have hVW := hVV.symm; clear hVV; subst hVW)
    | (go_at_call 36; refine (KN.out _ HV1).mono ?_; rintro e V' ⟨rfl, hVV⟩; have hVW := hVV.symm; clear hVV; subst hVW))
  clear q0 q2 q3 q4 f4 ql wl m0 m1
  refine region_assign (fun V => Hid (Below W1.heap.size W1 V)) [(30, .pointer (some ⟨eb, 0, none⟩)), (31, .pointer (some ⟨eb, 0, none⟩)), (32, .pointer (some ⟨eb, 0, none⟩)), (33, .pointer (some ⟨g, 0, none⟩)), (34, .pointer (some ⟨wb, 1, none⟩)), (35, .agg #[.int .u64 nm, .int .i64 node]), (36, .bool true), (37, .bool false), (25, .bool false)] _ (by kernel_rfl) (by kernel_rfl) (by kernel_rfl) (by kernel_rfl) rfl (KR.out _ HV1) ?_ (fun V2 HV2 => ?_)
  · simp only [putAll, Act.put, List.setIfInBounds_toArray, List.set_cons_zero, List.set_cons_succ]
    repeat' (first | exact AllTo.nil | refine AllTo.cons ?_ ?_)
    all_goals first
      | exact stepTo_no (by rfl) rfl
      | (refine stepTo_yes (by rfl) (fun V hV K hK => ?_)
         obtain ⟨q0, q2, q3, q4, f4⟩ := KP.out V hV
         have ql := KL.out V hV
         have wl := KW.out V hV
         have m1 := K1.out V hV
         have m2 := K2.out V hV
         have m13 := K13.out V hV
         go_simp
         first
           | exact hK.out _ hV
           | (go_at_call 27; refine (KV.out V hV).mono ?_; rintro e V' ⟨rfl, hV'⟩; exact hK.out _ (KB.out _ _ hV hV')))
  simp only [putAll, Act.put, List.setIfInBounds_toArray, List.set_cons_zero, List.set_cons_succ]
  obtain ⟨q0, q2, q3, q4, f4⟩ := KP.out V2 HV2
  have ql := KL.out V2 HV2
  have wl := KW.out V2 HV2
  have m0 := K0.out V2 HV2
  have m1 := K1.out V2 HV2
  go_upto_region 8 with fail
  clear q0 q2 q3 q4 f4 ql wl m0 m1
  refine region_assign (fun V => Hid (Below W1.heap.size W1 V)) [(38, .pointer (some ⟨eb, 0, none⟩)), (39, .pointer (some ⟨eb, 0, none⟩)), (40, .pointer (some ⟨eb, 2, none⟩)), (41, .agg #[.int .u64 nu, .int .i64 no]), (42, .pointer (some ⟨wb, 1, none⟩)), (43, .agg #[.int .u64 nm, .int .i64 node]), (44, .bool false), (9, .bool false)] _ (by kernel_rfl) (by kernel_rfl) (by kernel_rfl) (by kernel_rfl) rfl (KR.out _ HV2) ?_ (fun V3 HV3 => ?_)
  · simp only [putAll, Act.put, List.setIfInBounds_toArray, List.set_cons_zero, List.set_cons_succ]
    repeat' (first | exact AllTo.nil | refine AllTo.cons ?_ ?_)
    all_goals first
      | exact stepTo_no (by rfl) rfl
      | (refine stepTo_yes (by rfl) (fun V hV K hK => ?_)
         obtain ⟨q0, q2, q3, q4, f4⟩ := KP.out V hV
         have ql := KL.out V hV
         have wl := KW.out V hV
         have m1 := K1.out V hV
         have m2 := K2.out V hV
         have m13 := K13.out V hV
         go_simp
         first
           | exact hK.out _ hV
           | (go_at_call 28; refine (KC.out V).mono ?_; rintro e V' ⟨rfl, hV'⟩; exact hK.out _ (KB.out _ _ hV hV')))
  simp only [putAll, Act.put, List.setIfInBounds_toArray, List.set_cons_zero, List.set_cons_succ]
  obtain ⟨q0, q2, q3, q4, f4⟩ := KP.out V3 HV3
  have ql := KL.out V3 HV3
  have wl := KW.out V3 HV3
  have m0 := K0.out V3 HV3
  have m1 := K1.out V3 HV3
  go_upto_region 11 with fail
  clear q0 q2 q3 q4 f4 ql wl m0 m1
  refine region_assign (fun V => Hid (Below W1.heap.size W1 V)) [(51, .pointer (some ⟨wb, 13, none⟩)), (52, .bool true), (53, .bool true), (54, .pointer (some ⟨wb, 1, none⟩)), (55, .agg #[.int .u64 nm, .int .i64 node]), (56, .pointer (some ⟨eb, 0, none⟩)), (57, .pointer (some ⟨eb, 0, none⟩)), (58, .pointer (some ⟨eb, 2, none⟩)), (59, .agg #[.int .u64 nu, .int .i64 no]), (60, .bool false), (61, .bool false)] _ (by kernel_rfl) (by kernel_rfl) (by kernel_rfl) (by kernel_rfl) rfl (KR.out _ HV3) ?_ (fun V4 HV4 => ?_)
  · simp only [putAll, Act.put, List.setIfInBounds_toArray, List.set_cons_zero, List.set_cons_succ]
    repeat' (first | exact AllTo.nil | refine AllTo.cons ?_ ?_)
    all_goals first
      | exact stepTo_no (by rfl) rfl
      | (refine stepTo_yes (by rfl) (fun V hV K hK => ?_)
         obtain ⟨q0, q2, q3, q4, f4⟩ := KP.out V hV
         have ql := KL.out V hV
         have wl := KW.out V hV
         have m1 := K1.out V hV
         have m2 := K2.out V hV
         have m13 := K13.out V hV
         go_simp
         first
           | exact hK.out _ hV
           | fail)
  simp only [putAll, Act.put, List.setIfInBounds_toArray, List.set_cons_zero, List.set_cons_succ]
  obtain ⟨q0, q2, q3, q4, f4⟩ := KP.out V4 HV4
  have ql := KL.out V4 HV4
  have wl := KW.out V4 HV4
  have m0 := K0.out V4 HV4
  have m1 := K1.out V4 HV4
  go_wp2
  go_ret
  exact ⟨rfl, FIN.out _ HV4⟩
set_option maxRecDepth 100000 in
set_option maxHeartbeats 3200000 in
theorem beat_susp {W : World} {eb g : Nat} {c : Cf} {me : Nat} {fp : Nat → Prop} {x : Ex} (h : EL W eb g c me fp x) (hok : c.Ok) (_hem : c.em ≤ 100000) (src : Nat) (_hsrc : src < 18446744073709551616) {cs : List Value} {kind : Int} {num : Nat} {node : Int} {susp : Bool} (hm : MsgC cs kind num node susp) (now : Nat) (_hnow : now < 18446744073709551616) (h1 : kind = 8) (h2 : (src : Int) < 2 * c.f + 1) (h3 : num ≠ 0) (h4 : c.valid num node = true) (h5 : ¬ cmpB x.num x.node num node < 0) (h6 : susp = true) (h7 : num = x.num) (h8 : node = x.node) :
    Calls Try.prog 20 #[.pointer (some ⟨eb, 0, none⟩), .int .u64 (src : Nat), .agg cs.toArray, .int .u64 (now : Nat)] W fun e W' => e = .returned (.bool false) ∧ Hid (Did W eb g c me fp ⟨x.num, x.node, withB x.sus (src : Nat), x.len, x.fin, x.ps.map Rq.val, x.ts.map Rq.val⟩ W') := by
  obtain ⟨W1, hW1⟩ : ∃ W1, W.alloc (.cells cs.toArray 49) = W1 := ⟨_, rfl⟩
  have B1 : Hid (Below W.heap.size W W1) := by rw [← hW1]; exact below_alloc1 W _
  have C1 : Hid (W1.heap[W.heap.size]? = some (.cells cs.toArray 49 (0, 0))) := by rw [← hW1]; exact alloc_atK _ _
  have HL := hide (h.kept B1.out)
  have K0 : Hid (∀ V, Hid (Below W1.heap.size W1 V) → V.cell? ⟨W.heap.size, 0, none⟩ = some (.int .i64 kind)) := fun V hb => blk_cellE ((hb.out.block _ (block_lt C1.out)).trans C1.out) hm.c0
  have K1 : Hid (∀ V, Hid (Below W1.heap.size W1 V) → V.cell? ⟨W.heap.size, 1, none⟩ = some (.int .u64 (num : Nat))) := fun V hb => blk_cellE ((hb.out.block _ (block_lt C1.out)).trans C1.out) hm.c1
  have K2 : Hid (∀ V, Hid (Below W1.heap.size W1 V) → V.cell? ⟨W.heap.size, 2, none⟩ = some (.int .i64 node)) := fun V hb => blk_cellE ((hb.out.block _ (block_lt C1.out)).trans C1.out) hm.c2
  have K13 : Hid (∀ V, Hid (Below W1.heap.size W1 V) → V.cell? ⟨W.heap.size, 13, none⟩ = some (.bool susp)) := fun V hb => blk_cellE ((hb.out.block _ (block_lt C1.out)).trans C1.out) hm.c13
  have KP : Hid (∀ V, Hid (Below W1.heap.size W1 V) → V.cell? ⟨eb, 0, none⟩ = some (.pointer (some ⟨g, 0, none⟩)) ∧ V.cell? ⟨eb, 2, none⟩ = some (.int .u64 (x.num : Nat)) ∧ V.cell? ⟨eb, 3, none⟩ = some (.int .i64 x.node) ∧ V.cell? ⟨eb, 4, none⟩ = some (.int .u32 (x.sus : Nat)) ∧ V.frozen? ⟨eb, 4, none⟩ = false) := fun V hb => ⟨(HL.out.kept hb.out).c 0, (HL.out.kept hb.out).c 2, (HL.out.kept hb.out).c 3, (HL.out.kept hb.out).c 4, (HL.out.kept hb.out).free 4⟩
  have KL : Hid (∀ V, Hid (Below W1.heap.size W1 V) → eb < V.heap.size) := fun V hb => (HL.out.kept hb.out).lt
  have KW : Hid (∀ V, Hid (Below W1.heap.size W1 V) → W.heap.size < V.heap.size) := fun V hb => Nat.lt_of_lt_of_le (block_lt C1.out) hb.out.size
  have KM : Hid (∀ V, Hid (Below W1.heap.size W1 V) → Calls Try.prog 13 #[.pointer (some ⟨eb, 0, none⟩)] V fun e w' => e = .returned (.bool true) ∧ w' = V) := fun V hb => madeE (HL.out.kept hb.out)
  have KN : Hid (∀ V, Hid (Below W1.heap.size W1 V) → Calls Try.prog 36 #[.pointer (some ⟨g, 0, none⟩)] V fun e V' => e = .returned (.int .i64 (2 * c.f + 1)) ∧ V' = V) := fun V hb => nodes_live (HL.out.kept hb.out).pg hok
  have KV : Hid (∀ V, Hid (Below W1.heap.size W1 V) → Calls Try.prog 27 #[.pointer (some ⟨g, 0, none⟩), .agg #[.int .u64 (num : Nat), .int .i64 node]] V fun e V' => e = .returned (.bool (c.valid num node)) ∧ Below V.heap.size V V') := fun V hb => valid_live num node (HL.out.kept hb.out).pg hok
  have KC : Hid (∀ V, Calls Try.prog 28 #[.agg #[.int .u64 (x.num : Nat), .int .i64 x.node], .agg #[.int .u64 (num : Nat), .int .i64 node]] V fun e V' => e = .returned (.bool (decide (cmpB x.num x.node num node < 0))) ∧ Below V.heap.size V V') := fun V => less_any x.num x.node num node V
  have KB : Hid (∀ V V', Hid (Below W1.heap.size W1 V) → Below V.heap.size V V' → Hid (Below W1.heap.size W1 V')) := fun V V' h h' => h.out.trans (h'.mono h.out.size)
  have KR : Hid (∀ V, Hid (Below W1.heap.size W1 V) → Hid (Below W1.heap.size W1 V.drew)) := fun V hb => hb.out.drew
  have HV1 : Hid (Below W1.heap.size W1 W1) := Below.refl _ W1
  have FIN : Hid (∀ V, Hid (Below W1.heap.size W1 V) → Did W eb g c me fp x.abs V) := fun V hb => Did.of (Fe.below B1.out _) ⟨fp, x, HL.out.kept hb.out, rfl, Fe.below hb.out _, fun _ hb => .inl hb⟩
  have hNw : IntKind.u64.wrap (2 * c.f + 1) = 2 * c.f + 1 := IntWalk.u64_in _ ⟨by have := hok.f1; omega, by have := hok.f3; omega⟩
  have HW1 := hide hW1
  have hd : (kind != 8) = false := by simp [h1]
  have hd2 : decide (2 * c.f + 1 ≤ (src : Int)) = false := decide_eq_false (by omega)
  have hd3 : ((num : Int) == 0) = false := by rw [beq_eq_false_iff_ne]; omega
  rw [h4] at KV
  rw [decide_eq_false h5] at KC
  have hcv : IntKind.i64.wrap (src : Int) = (src : Int) := IntWalk.i64_in _ ⟨by have := hok.f3; omega, by have := hok.f3; omega⟩
  subst h6
  subst h7
  subst h8
  have hbq : ∀ w, (binOp BinOp.eql 33 (.agg #[.int .u64 (x.num : Nat), .int .i64 x.node]) (.agg #[.int .u64 (x.num : Nat), .int .i64 x.node])).run Try.prog w = .ok (.bool true) w := fun w => by
    have := bal_eqE (x.num : Int) (x.num : Int) x.node x.node w
    rw [this]
    simp
  have KI : Hid (∀ V, Calls Try.prog 38 #[.int .u32 (x.sus : Nat), .int .i64 (src : Nat)] V fun e w' => e = .returned (.int .u32 ((withB x.sus (src : Nat) : Nat) : Int)) ∧ w' = V) := fun V => with_any x.sus h.su (src : Nat) V
  have FIN2 : Hid (∀ V, Hid (Below W1.heap.size W1 V) → Did W eb g c me fp ⟨x.num, x.node, withB x.sus (src : Nat), x.len, x.fin, x.ps.map Rq.val, x.ts.map Rq.val⟩ (V.setCell ⟨eb, 4, none⟩ (.int .u32 ((withB x.sus (src : Nat) : Nat) : Int)))) := fun V hb => by
    have U := (HL.out.kept hb.out).upd 4 (.int .u32 ((withB x.sus (src : Nat) : Nat) : Int)) x.num x.node (withB x.sus (src : Nat)) x.len x.fin rfl h.n1 h.va (withB_lt _ _ h.su) h.l1 h.l2 h.f2
    exact Did.of ((Fe.below B1.out _).trans ((Fe.below hb.out _).trans U.2 (fun _ _ e => e)) (fun _ _ e => e)) ⟨fp, _, U.1, rfl, Fe.refl _ _, fun _ hb => .inl hb⟩
  clear h hm hok h1 h2 h3 h4 h5 hW1 C1 HL B1
  generalize ((withB x.sus (src : Nat) : Nat) : Int) = wi at *
  generalize 2 * c.f + 1 = ni at *
  generalize (src : Int) = si at *
  generalize (x.num : Int) = nu at *
  generalize x.node = no at *
  generalize (x.sus : Int) = su at *
  go_enter Try.func20, Try.ntmps20
  go_upto_region 1 with fail
  rw [HW1.out]
  clear HW1
  generalize W.heap.size = wb at *
  obtain ⟨q0, q2, q3, q4, f4⟩ := KP.out W1 HV1
  have ql := KL.out W1 HV1
  have wl := KW.out W1 HV1
  have m0 := K0.out W1 HV1
  have m1 := K1.out W1 HV1
  go_upto_region 6 with (first
    | (go_at_call 13; refine (KM.out W1 HV1).mono ?_; rintro e V' ⟨rfl, hVV⟩; have hVW := hVV.symm; clear hVV; subst hVW)
    | (go_at_call 36; refine (KN.out _ HV1).mono ?_; rintro e V' ⟨rfl, hVV⟩; have hVW := hVV.symm; clear hVV; subst hVW))
  clear q0 q2 q3 q4 f4 ql wl m0 m1
  refine region_assign (fun V => Hid (Below W1.heap.size W1 V)) [(30, .pointer (some ⟨eb, 0, none⟩)), (31, .pointer (some ⟨eb, 0, none⟩)), (32, .pointer (some ⟨eb, 0, none⟩)), (33, .pointer (some ⟨g, 0, none⟩)), (34, .pointer (some ⟨wb, 1, none⟩)), (35, .agg #[.int .u64 nu, .int .i64 no]), (36, .bool true), (37, .bool false), (25, .bool false)] _ (by kernel_rfl) (by kernel_rfl) (by kernel_rfl) (by kernel_rfl) rfl (KR.out _ HV1) ?_ (fun V2 HV2 => ?_)
  · simp only [putAll, Act.put, List.setIfInBounds_toArray, List.set_cons_zero, List.set_cons_succ]
    repeat' (first | exact AllTo.nil | refine AllTo.cons ?_ ?_)
    all_goals first
      | exact stepTo_no (by rfl) rfl
      | (refine stepTo_yes (by rfl) (fun V hV K hK => ?_)
         obtain ⟨q0, q2, q3, q4, f4⟩ := KP.out V hV
         have ql := KL.out V hV
         have wl := KW.out V hV
         have m1 := K1.out V hV
         have m2 := K2.out V hV
         have m13 := K13.out V hV
         go_simp
         first
           | exact hK.out _ hV
           | (go_at_call 27; refine (KV.out V hV).mono ?_; rintro e V' ⟨rfl, hV'⟩; exact hK.out _ (KB.out _ _ hV hV')))
  simp only [putAll, Act.put, List.setIfInBounds_toArray, List.set_cons_zero, List.set_cons_succ]
  obtain ⟨q0, q2, q3, q4, f4⟩ := KP.out V2 HV2
  have ql := KL.out V2 HV2
  have wl := KW.out V2 HV2
  have m0 := K0.out V2 HV2
  have m1 := K1.out V2 HV2
  go_upto_region 8 with fail
  clear q0 q2 q3 q4 f4 ql wl m0 m1
  refine region_assign (fun V => Hid (Below W1.heap.size W1 V)) [(38, .pointer (some ⟨eb, 0, none⟩)), (39, .pointer (some ⟨eb, 0, none⟩)), (40, .pointer (some ⟨eb, 2, none⟩)), (41, .agg #[.int .u64 nu, .int .i64 no]), (42, .pointer (some ⟨wb, 1, none⟩)), (43, .agg #[.int .u64 nu, .int .i64 no]), (44, .bool false), (9, .bool false)] _ (by kernel_rfl) (by kernel_rfl) (by kernel_rfl) (by kernel_rfl) rfl (KR.out _ HV2) ?_ (fun V3 HV3 => ?_)
  · simp only [putAll, Act.put, List.setIfInBounds_toArray, List.set_cons_zero, List.set_cons_succ]
    repeat' (first | exact AllTo.nil | refine AllTo.cons ?_ ?_)
    all_goals first
      | exact stepTo_no (by rfl) rfl
      | (refine stepTo_yes (by rfl) (fun V hV K hK => ?_)
         obtain ⟨q0, q2, q3, q4, f4⟩ := KP.out V hV
         have ql := KL.out V hV
         have wl := KW.out V hV
         have m1 := K1.out V hV
         have m2 := K2.out V hV
         have m13 := K13.out V hV
         go_simp
         first
           | exact hK.out _ hV
           | (go_at_call 28; refine (KC.out V).mono ?_; rintro e V' ⟨rfl, hV'⟩; exact hK.out _ (KB.out _ _ hV hV')))
  simp only [putAll, Act.put, List.setIfInBounds_toArray, List.set_cons_zero, List.set_cons_succ]
  obtain ⟨q0, q2, q3, q4, f4⟩ := KP.out V3 HV3
  have ql := KL.out V3 HV3
  have wl := KW.out V3 HV3
  have m0 := K0.out V3 HV3
  have m1 := K1.out V3 HV3
  go_upto_region 11 with fail
  clear q0 q2 q3 q4 f4 ql wl m0 m1
  refine region_assign (fun V => Hid (Below W1.heap.size W1 V)) [(51, .pointer (some ⟨wb, 13, none⟩)), (52, .bool true), (53, .bool true), (54, .pointer (some ⟨wb, 1, none⟩)), (55, .agg #[.int .u64 nu, .int .i64 no]), (56, .pointer (some ⟨eb, 0, none⟩)), (57, .pointer (some ⟨eb, 0, none⟩)), (58, .pointer (some ⟨eb, 2, none⟩)), (59, .agg #[.int .u64 nu, .int .i64 no]), (60, .bool true), (61, .bool true)] _ (by kernel_rfl) (by kernel_rfl) (by kernel_rfl) (by kernel_rfl) rfl (KR.out _ HV3) ?_ (fun V4 HV4 => ?_)
  · simp only [putAll, Act.put, List.setIfInBounds_toArray, List.set_cons_zero, List.set_cons_succ]
    repeat' (first | exact AllTo.nil | refine AllTo.cons ?_ ?_)
    all_goals first
      | exact stepTo_no (by rfl) rfl
      | (refine stepTo_yes (by rfl) (fun V hV K hK => ?_)
         obtain ⟨q0, q2, q3, q4, f4⟩ := KP.out V hV
         have ql := KL.out V hV
         have wl := KW.out V hV
         have m1 := K1.out V hV
         have m2 := K2.out V hV
         have m13 := K13.out V hV
         go_simp
         first
           | exact hK.out _ hV
           | fail)
  simp only [putAll, Act.put, List.setIfInBounds_toArray, List.set_cons_zero, List.set_cons_succ]
  obtain ⟨q0, q2, q3, q4, f4⟩ := KP.out V4 HV4
  have ql := KL.out V4 HV4
  have wl := KW.out V4 HV4
  have m0 := K0.out V4 HV4
  have m1 := K1.out V4 HV4
  go_wp2_with (go_at_call 38; refine (KI.out _).mono ?_; rintro e V' ⟨rfl, rfl⟩)
  go_ret
  exact ⟨rfl, FIN2.out _ HV4⟩
/-- Behind a new view: what Beat reads, and what it makes of a suspicion. -/
theorem after_enter {W W5 : World} {eb g : Nat} {c : Cf} {me : Nat} {fp : Nat → Prop} {cs : List Value} {kind : Int} {num : Nat} {node : Int} {susp : Bool} (hm : MsgC cs kind num node susp) (src : Nat) {s : Ev} (hs1 : s.num = num) (hs2 : s.node = node) (hs3 : s.sus = 0)
    (G : ∃ fp' y, EL W5 eb g c me fp' y ∧ y.abs = s ∧ Fe W W5 (Mine eb fp) ∧ (∀ b, fp' b → fp b ∨ W.heap.size ≤ b) ∧ W5.heap[W.heap.size]? = some (.cells cs.toArray 49 (0, 0))) :
    (∀ V, Below W5.heap.size W5 V → V.cell? ⟨W.heap.size, 1, none⟩ = some (.int .u64 (num : Nat)) ∧ V.cell? ⟨W.heap.size, 2, none⟩ = some (.int .i64 node) ∧ V.cell? ⟨W.heap.size, 13, none⟩ = some (.bool susp) ∧ W.heap.size < V.heap.size ∧ V.cell? ⟨eb, 2, none⟩ = some (.int .u64 (num : Nat)) ∧ V.cell? ⟨eb, 3, none⟩ = some (.int .i64 node) ∧ V.cell? ⟨eb, 4, none⟩ = some (.int .u32 0) ∧ V.frozen? ⟨eb, 4, none⟩ = false ∧ eb < V.heap.size) ∧
    (∀ V, Below W5.heap.size W5 V → Did W eb g c me fp s V) ∧ (∀ V, Below W5.heap.size W5 V → Did W eb g c me fp ⟨s.num, s.node, withB 0 (src : Nat), s.len, s.fin, s.pv, s.th⟩ (V.setCell ⟨eb, 4, none⟩ (.int .u32 ((withB 0 (src : Nat) : Nat) : Int)))) := by
  obtain ⟨fp', y, h, rfl, f, n, b⟩ := G
  simp only [Ex.abs] at hs1 hs2 hs3
  refine ⟨fun V hb => ?_, fun V hb => ⟨fp', y, h.kept hb, rfl, f.trans (Fe.below hb _) (fun _ _ e => e), n⟩, fun V hb => ?_⟩
  · have bx := (hb.block _ (block_lt b)).trans b
    have hk := h.kept hb
    have c2 : V.cell? ⟨eb, 2, none⟩ = some (.int .u64 (y.num : Nat)) := hk.c 2
    have c3 : V.cell? ⟨eb, 3, none⟩ = some (.int .i64 y.node) := hk.c 3
    have c4 : V.cell? ⟨eb, 4, none⟩ = some (.int .u32 (y.sus : Nat)) := hk.c 4
    rw [hs1] at c2
    rw [hs2] at c3
    rw [hs3] at c4
    exact ⟨blk_cellE bx hm.c1, blk_cellE bx hm.c2, blk_cellE bx hm.c13, block_lt bx, c2, c3, c4, hk.free 4, hk.lt⟩
  · have U := (h.kept hb).upd 4 (.int .u32 ((withB 0 (src : Nat) : Nat) : Int)) y.num y.node (withB 0 (src : Nat)) y.len y.fin rfl h.n1 h.va (withB_lt _ _ (by decide)) h.l1 h.l2 h.f2
    have f2 : Fe W (V.setCell ⟨eb, 4, none⟩ (.int .u32 ((withB 0 (src : Nat) : Nat) : Int))) (Mine eb fp) := by
      refine (f.trans (Fe.below hb _) (fun _ _ e => e)).trans (Fe.grown (row := some eb) (grown_set _ eb 4 _) (T := Mine eb fp) (fun z e => by cases e; exact .inl rfl)) (fun _ _ e => e)
    exact ⟨fp', _, U.1, rfl, f2, n⟩
set_option maxRecDepth 100000 in
set_option maxHeartbeats 3200000 in
theorem beat_up {W : World} {eb g : Nat} {c : Cf} {me : Nat} {fp : Nat → Prop} {x : Ex} (h : EL W eb g c me fp x) (hok : c.Ok) (hem : c.em ≤ 100000) (src : Nat) (_hsrc : src < 18446744073709551616) {cs : List Value} {kind : Int} {num : Nat} {node : Int} {susp : Bool} (hm : MsgC cs kind num node susp) (now : Nat) (hnow : now < 18446744073709551616) (h1 : kind = 8) (h2 : (src : Int) < 2 * c.f + 1) (h3 : num ≠ 0) (h4 : c.valid num node = true) (h5 : cmpB x.num x.node num node < 0) (h6 : susp = false) :
    Calls Try.prog 20 #[.pointer (some ⟨eb, 0, none⟩), .int .u64 (src : Nat), .agg cs.toArray, .int .u64 (now : Nat)] W fun e W' => e = .returned (.bool true) ∧ Hid (Did W eb g c me fp (Ev.enter c x.abs num node now) W') := by
  obtain ⟨W1, hW1⟩ : ∃ W1, W.alloc (.cells cs.toArray 49) = W1 := ⟨_, rfl⟩
  have B1 : Hid (Below W.heap.size W W1) := by rw [← hW1]; exact below_alloc1 W _
  have C1 : Hid (W1.heap[W.heap.size]? = some (.cells cs.toArray 49 (0, 0))) := by rw [← hW1]; exact alloc_atK _ _
  have HL := hide (h.kept B1.out)
  have K0 : Hid (∀ V, Hid (Below W1.heap.size W1 V) → V.cell? ⟨W.heap.size, 0, none⟩ = some (.int .i64 kind)) := fun V hb => blk_cellE ((hb.out.block _ (block_lt C1.out)).trans C1.out) hm.c0
  have K1 : Hid (∀ V, Hid (Below W1.heap.size W1 V) → V.cell? ⟨W.heap.size, 1, none⟩ = some (.int .u64 (num : Nat))) := fun V hb => blk_cellE ((hb.out.block _ (block_lt C1.out)).trans C1.out) hm.c1
  have K2 : Hid (∀ V, Hid (Below W1.heap.size W1 V) → V.cell? ⟨W.heap.size, 2, none⟩ = some (.int .i64 node)) := fun V hb => blk_cellE ((hb.out.block _ (block_lt C1.out)).trans C1.out) hm.c2
  have K13 : Hid (∀ V, Hid (Below W1.heap.size W1 V) → V.cell? ⟨W.heap.size, 13, none⟩ = some (.bool susp)) := fun V hb => blk_cellE ((hb.out.block _ (block_lt C1.out)).trans C1.out) hm.c13
  have KP : Hid (∀ V, Hid (Below W1.heap.size W1 V) → V.cell? ⟨eb, 0, none⟩ = some (.pointer (some ⟨g, 0, none⟩)) ∧ V.cell? ⟨eb, 2, none⟩ = some (.int .u64 (x.num : Nat)) ∧ V.cell? ⟨eb, 3, none⟩ = some (.int .i64 x.node) ∧ V.cell? ⟨eb, 4, none⟩ = some (.int .u32 (x.sus : Nat)) ∧ V.frozen? ⟨eb, 4, none⟩ = false) := fun V hb => ⟨(HL.out.kept hb.out).c 0, (HL.out.kept hb.out).c 2, (HL.out.kept hb.out).c 3, (HL.out.kept hb.out).c 4, (HL.out.kept hb.out).free 4⟩
  have KL : Hid (∀ V, Hid (Below W1.heap.size W1 V) → eb < V.heap.size) := fun V hb => (HL.out.kept hb.out).lt
  have KW : Hid (∀ V, Hid (Below W1.heap.size W1 V) → W.heap.size < V.heap.size) := fun V hb => Nat.lt_of_lt_of_le (block_lt C1.out) hb.out.size
  have KM : Hid (∀ V, Hid (Below W1.heap.size W1 V) → Calls Try.prog 13 #[.pointer (some ⟨eb, 0, none⟩)] V fun e w' => e = .returned (.bool true) ∧ w' = V) := fun V hb => madeE (HL.out.kept hb.out)
  have KN : Hid (∀ V, Hid (Below W1.heap.size W1 V) → Calls Try.prog 36 #[.pointer (some ⟨g, 0, none⟩)] V fun e V' => e = .returned (.int .i64 (2 * c.f + 1)) ∧ V' = V) := fun V hb => nodes_live (HL.out.kept hb.out).pg hok
  have KV : Hid (∀ V, Hid (Below W1.heap.size W1 V) → Calls Try.prog 27 #[.pointer (some ⟨g, 0, none⟩), .agg #[.int .u64 (num : Nat), .int .i64 node]] V fun e V' => e = .returned (.bool (c.valid num node)) ∧ Below V.heap.size V V') := fun V hb => valid_live num node (HL.out.kept hb.out).pg hok
  have KC : Hid (∀ V, Calls Try.prog 28 #[.agg #[.int .u64 (x.num : Nat), .int .i64 x.node], .agg #[.int .u64 (num : Nat), .int .i64 node]] V fun e V' => e = .returned (.bool (decide (cmpB x.num x.node num node < 0))) ∧ Below V.heap.size V V') := fun V => less_any x.num x.node num node V
  have KB : Hid (∀ V V', Hid (Below W1.heap.size W1 V) → Below V.heap.size V V' → Hid (Below W1.heap.size W1 V')) := fun V V' h h' => h.out.trans (h'.mono h.out.size)
  have KR : Hid (∀ V, Hid (Below W1.heap.size W1 V) → Hid (Below W1.heap.size W1 V.drew)) := fun V hb => hb.out.drew
  have HV1 : Hid (Below W1.heap.size W1 W1) := Below.refl _ W1
  have FIN : Hid (∀ V, Hid (Below W1.heap.size W1 V) → Did W eb g c me fp x.abs V) := fun V hb => Did.of (Fe.below B1.out _) ⟨fp, x, HL.out.kept hb.out, rfl, Fe.below hb.out _, fun _ hb => .inl hb⟩
  have hNw : IntKind.u64.wrap (2 * c.f + 1) = 2 * c.f + 1 := IntWalk.u64_in _ ⟨by have := hok.f1; omega, by have := hok.f3; omega⟩
  have HW1 := hide hW1
  have hd : (kind != 8) = false := by simp [h1]
  have hd2 : decide (2 * c.f + 1 ≤ (src : Int)) = false := decide_eq_false (by omega)
  have hd3 : ((num : Int) == 0) = false := by rw [beq_eq_false_iff_ne]; omega
  rw [h4] at KV
  rw [decide_eq_true h5] at KC
  have hcv : IntKind.i64.wrap (src : Int) = (src : Int) := IntWalk.i64_in _ ⟨by have := hok.f3; omega, by have := hok.f3; omega⟩
  subst h6
  have KE : Hid (∀ V, Hid (Below W1.heap.size W1 V) → Calls Try.prog 37 #[.pointer (some ⟨eb, 0, none⟩), .agg #[.int .u64 (num : Nat), .int .i64 node], .int .u64 (now : Nat)] V fun e W' => e = .returned (.tuple #[]) ∧ Hid (∃ fp' y, EL W' eb g c me fp' y ∧ y.abs = Ev.enter c x.abs num node now ∧ Fe W W' (Mine eb fp) ∧ (∀ b, fp' b → fp b ∨ W.heap.size ≤ b) ∧ W'.heap[W.heap.size]? = some (.cells cs.toArray 49 (0, 0)))) := fun V hb => by
    refine (enterE (HL.out.kept hb.out) hok hem num node (by omega) h4 now hnow).mono ?_
    rintro e w' ⟨rfl, d⟩
    obtain ⟨fp', y, d1, d2, d3, d4⟩ := d.out
    refine ⟨rfl, fp', y, d1, d2, (Fe.below B1.out _).trans ((Fe.below hb.out _).trans d3 (fun _ _ e => e)) (fun _ _ e => e), fun b hb' => (d4 b hb').elim .inl (fun e => .inr (by have := hb.out.size; have := B1.out.size; omega)), ?_⟩
    have c1 := (hb.out.block _ (block_lt C1.out)).trans C1.out
    refine (d3.block _ (block_lt c1) ?_).trans c1
    rintro (e | e)
    · have := h.lt; omega
    · have := h.flt _ e; omega
  have HMC := hide hm
  clear h hm hok hem hnow h1 h2 h3 h4 h5 hW1 C1 HL B1
  generalize 2 * c.f + 1 = ni at *
  generalize hxn : (x.num : Int) = nu at *
  generalize hxo : x.node = no at *
  generalize (x.sus : Int) = su at *
  clear hxn hxo
  go_enter Try.func20, Try.ntmps20
  go_upto_region 1 with fail
  rw [HW1.out]
  clear HW1
  obtain ⟨q0, q2, q3, q4, f4⟩ := KP.out W1 HV1
  have ql := KL.out W1 HV1
  have wl := KW.out W1 HV1
  have m0 := K0.out W1 HV1
  have m1 := K1.out W1 HV1
  go_upto_region 6 with (first
    | (go_at_call 13; refine (KM.out W1 HV1).mono ?_; rintro e V' ⟨rfl, hVV⟩; have hVW := hVV.symm; clear hVV; subst hVW)
    | (go_at_call 36; refine (KN.out _ HV1).mono ?_; rintro e V' ⟨rfl, hVV⟩; have hVW := hVV.symm; clear hVV; subst hVW))
  clear q0 q2 q3 q4 f4 ql wl m0 m1
  refine region_assign (fun V => Hid (Below W1.heap.size W1 V)) [(30, .pointer (some ⟨eb, 0, none⟩)), (31, .pointer (some ⟨eb, 0, none⟩)), (32, .pointer (some ⟨eb, 0, none⟩)), (33, .pointer (some ⟨g, 0, none⟩)), (34, .pointer (some ⟨W.heap.size, 1, none⟩)), (35, .agg #[.int .u64 (num : Nat), .int .i64 node]), (36, .bool true), (37, .bool false), (25, .bool false)] _ (by kernel_rfl) (by kernel_rfl) (by kernel_rfl) (by kernel_rfl) rfl (KR.out _ HV1) ?_ (fun V2 HV2 => ?_)
  · simp only [putAll, Act.put, List.setIfInBounds_toArray, List.set_cons_zero, List.set_cons_succ]
    repeat' (first | exact AllTo.nil | refine AllTo.cons ?_ ?_)
    all_goals first
      | exact stepTo_no (by rfl) rfl
      | (refine stepTo_yes (by rfl) (fun V hV K hK => ?_)
         obtain ⟨q0, q2, q3, q4, f4⟩ := KP.out V hV
         have ql := KL.out V hV
         have wl := KW.out V hV
         have m1 := K1.out V hV
         have m2 := K2.out V hV
         have m13 := K13.out V hV
         go_simp
         first
           | exact hK.out _ hV
           | (go_at_call 27; refine (KV.out V hV).mono ?_; rintro e V' ⟨rfl, hV'⟩; exact hK.out _ (KB.out _ _ hV hV')))
  simp only [putAll, Act.put, List.setIfInBounds_toArray, List.set_cons_zero, List.set_cons_succ]
  obtain ⟨q0, q2, q3, q4, f4⟩ := KP.out V2 HV2
  have ql := KL.out V2 HV2
  have wl := KW.out V2 HV2
  have m0 := K0.out V2 HV2
  have m1 := K1.out V2 HV2
  go_upto_region 8 with fail
  clear q0 q2 q3 q4 f4 ql wl m0 m1
  refine region_assign (fun V => Hid (Below W1.heap.size W1 V)) [(38, .pointer (some ⟨eb, 0, none⟩)), (39, .pointer (some ⟨eb, 0, none⟩)), (40, .pointer (some ⟨eb, 2, none⟩)), (41, .agg #[.int .u64 nu, .int .i64 no]), (42, .pointer (some ⟨W.heap.size, 1, none⟩)), (43, .agg #[.int .u64 (num : Nat), .int .i64 node]), (44, .bool true), (9, .bool true)] _ (by kernel_rfl) (by kernel_rfl) (by kernel_rfl) (by kernel_rfl) rfl (KR.out _ HV2) ?_ (fun V3 HV3 => ?_)
  · simp only [putAll, Act.put, List.setIfInBounds_toArray, List.set_cons_zero, List.set_cons_succ]
    repeat' (first | exact AllTo.nil | refine AllTo.cons ?_ ?_)
    all_goals first
      | exact stepTo_no (by rfl) rfl
      | (refine stepTo_yes (by rfl) (fun V hV K hK => ?_)
         obtain ⟨q0, q2, q3, q4, f4⟩ := KP.out V hV
         have ql := KL.out V hV
         have wl := KW.out V hV
         have m1 := K1.out V hV
         have m2 := K2.out V hV
         have m13 := K13.out V hV
         go_simp
         first
           | exact hK.out _ hV
           | (go_at_call 28; refine (KC.out V).mono ?_; rintro e V' ⟨rfl, hV'⟩; exact hK.out _ (KB.out _ _ hV hV')))
  simp only [putAll, Act.put, List.setIfInBounds_toArray, List.set_cons_zero, List.set_cons_succ]
  obtain ⟨q0, q2, q3, q4, f4⟩ := KP.out V3 HV3
  have ql := KL.out V3 HV3
  have wl := KW.out V3 HV3
  have m0 := K0.out V3 HV3
  have m1 := K1.out V3 HV3
  have m2 := K2.out V3 HV3
  go_wp2_with fail
  refine (KE.out _ HV3).mono ?_
  rintro e W5 ⟨rfl, G⟩
  clear q0 q2 q3 q4 f4 ql wl m0 m1 m2
  go_upto_region 11 with fail
  obtain ⟨A1, A2, A3⟩ := after_enter (s := Ev.enter c x.abs num node now) HMC.out src rfl rfl rfl G.out
  have KY := hide A1
  have FINA := hide A2
  have FINB := hide A3
  clear A1 A2 A3 G
  have HV5 : Hid (Below W5.heap.size W5 W5.drew) := (Below.refl _ W5).drew
  generalize hnm : (num : Int) = nm at *
  generalize W.heap.size = wb at *
  clear hnm
  refine region_assign (fun V => Hid (Below W5.heap.size W5 V)) [(51, .pointer (some ⟨wb, 13, none⟩)), (52, .bool false), (53, .bool false), (61, .bool false)] _ (by kernel_rfl) (by kernel_rfl) (by kernel_rfl) (by kernel_rfl) rfl HV5 ?_ (fun V4 HV4 => ?_)
  · simp only [putAll, Act.put, List.setIfInBounds_toArray, List.set_cons_zero, List.set_cons_succ]
    repeat' (first | exact AllTo.nil | refine AllTo.cons ?_ ?_)
    all_goals first
      | exact stepTo_no (by rfl) rfl
      | (refine stepTo_yes (by rfl) (fun V hV K hK => ?_)
         obtain ⟨m1, m2, m13, wl, q2, q3, q4, f4, ql⟩ := KY.out V hV.out
         go_simp
         exact hK.out _ hV)
  simp only [putAll, Act.put, List.setIfInBounds_toArray, List.set_cons_zero, List.set_cons_succ]
  obtain ⟨m1, m2, m13, wl, q2, q3, q4, f4, ql⟩ := KY.out V4 HV4.out
  go_wp2
  go_ret
  exact ⟨rfl, FINA.out _ HV4.out⟩
set_option maxRecDepth 100000 in
set_option maxHeartbeats 3200000 in
theorem beat_upsusp {W : World} {eb g : Nat} {c : Cf} {me : Nat} {fp : Nat → Prop} {x : Ex} (h : EL W eb g c me fp x) (hok : c.Ok) (hem : c.em ≤ 100000) (src : Nat) (_hsrc : src < 18446744073709551616) {cs : List Value} {kind : Int} {num : Nat} {node : Int} {susp : Bool} (hm : MsgC cs kind num node susp) (now : Nat) (hnow : now < 18446744073709551616) (h1 : kind = 8) (h2 : (src : Int) < 2 * c.f + 1) (h3 : num ≠ 0) (h4 : c.valid num node = true) (h5 : cmpB x.num x.node num node < 0) (h6 : susp = true) :
    Calls Try.prog 20 #[.pointer (some ⟨eb, 0, none⟩), .int .u64 (src : Nat), .agg cs.toArray, .int .u64 (now : Nat)] W fun e W' => e = .returned (.bool true) ∧ Hid (Did W eb g c me fp ⟨(Ev.enter c x.abs num node now).num, (Ev.enter c x.abs num node now).node, withB 0 (src : Nat), (Ev.enter c x.abs num node now).len, (Ev.enter c x.abs num node now).fin, (Ev.enter c x.abs num node now).pv, (Ev.enter c x.abs num node now).th⟩ W') := by
  obtain ⟨W1, hW1⟩ : ∃ W1, W.alloc (.cells cs.toArray 49) = W1 := ⟨_, rfl⟩
  have B1 : Hid (Below W.heap.size W W1) := by rw [← hW1]; exact below_alloc1 W _
  have C1 : Hid (W1.heap[W.heap.size]? = some (.cells cs.toArray 49 (0, 0))) := by rw [← hW1]; exact alloc_atK _ _
  have HL := hide (h.kept B1.out)
  have K0 : Hid (∀ V, Hid (Below W1.heap.size W1 V) → V.cell? ⟨W.heap.size, 0, none⟩ = some (.int .i64 kind)) := fun V hb => blk_cellE ((hb.out.block _ (block_lt C1.out)).trans C1.out) hm.c0
  have K1 : Hid (∀ V, Hid (Below W1.heap.size W1 V) → V.cell? ⟨W.heap.size, 1, none⟩ = some (.int .u64 (num : Nat))) := fun V hb => blk_cellE ((hb.out.block _ (block_lt C1.out)).trans C1.out) hm.c1
  have K2 : Hid (∀ V, Hid (Below W1.heap.size W1 V) → V.cell? ⟨W.heap.size, 2, none⟩ = some (.int .i64 node)) := fun V hb => blk_cellE ((hb.out.block _ (block_lt C1.out)).trans C1.out) hm.c2
  have K13 : Hid (∀ V, Hid (Below W1.heap.size W1 V) → V.cell? ⟨W.heap.size, 13, none⟩ = some (.bool susp)) := fun V hb => blk_cellE ((hb.out.block _ (block_lt C1.out)).trans C1.out) hm.c13
  have KP : Hid (∀ V, Hid (Below W1.heap.size W1 V) → V.cell? ⟨eb, 0, none⟩ = some (.pointer (some ⟨g, 0, none⟩)) ∧ V.cell? ⟨eb, 2, none⟩ = some (.int .u64 (x.num : Nat)) ∧ V.cell? ⟨eb, 3, none⟩ = some (.int .i64 x.node) ∧ V.cell? ⟨eb, 4, none⟩ = some (.int .u32 (x.sus : Nat)) ∧ V.frozen? ⟨eb, 4, none⟩ = false) := fun V hb => ⟨(HL.out.kept hb.out).c 0, (HL.out.kept hb.out).c 2, (HL.out.kept hb.out).c 3, (HL.out.kept hb.out).c 4, (HL.out.kept hb.out).free 4⟩
  have KL : Hid (∀ V, Hid (Below W1.heap.size W1 V) → eb < V.heap.size) := fun V hb => (HL.out.kept hb.out).lt
  have KW : Hid (∀ V, Hid (Below W1.heap.size W1 V) → W.heap.size < V.heap.size) := fun V hb => Nat.lt_of_lt_of_le (block_lt C1.out) hb.out.size
  have KM : Hid (∀ V, Hid (Below W1.heap.size W1 V) → Calls Try.prog 13 #[.pointer (some ⟨eb, 0, none⟩)] V fun e w' => e = .returned (.bool true) ∧ w' = V) := fun V hb => madeE (HL.out.kept hb.out)
  have KN : Hid (∀ V, Hid (Below W1.heap.size W1 V) → Calls Try.prog 36 #[.pointer (some ⟨g, 0, none⟩)] V fun e V' => e = .returned (.int .i64 (2 * c.f + 1)) ∧ V' = V) := fun V hb => nodes_live (HL.out.kept hb.out).pg hok
  have KV : Hid (∀ V, Hid (Below W1.heap.size W1 V) → Calls Try.prog 27 #[.pointer (some ⟨g, 0, none⟩), .agg #[.int .u64 (num : Nat), .int .i64 node]] V fun e V' => e = .returned (.bool (c.valid num node)) ∧ Below V.heap.size V V') := fun V hb => valid_live num node (HL.out.kept hb.out).pg hok
  have KC : Hid (∀ V, Calls Try.prog 28 #[.agg #[.int .u64 (x.num : Nat), .int .i64 x.node], .agg #[.int .u64 (num : Nat), .int .i64 node]] V fun e V' => e = .returned (.bool (decide (cmpB x.num x.node num node < 0))) ∧ Below V.heap.size V V') := fun V => less_any x.num x.node num node V
  have KB : Hid (∀ V V', Hid (Below W1.heap.size W1 V) → Below V.heap.size V V' → Hid (Below W1.heap.size W1 V')) := fun V V' h h' => h.out.trans (h'.mono h.out.size)
  have KR : Hid (∀ V, Hid (Below W1.heap.size W1 V) → Hid (Below W1.heap.size W1 V.drew)) := fun V hb => hb.out.drew
  have HV1 : Hid (Below W1.heap.size W1 W1) := Below.refl _ W1
  have FIN : Hid (∀ V, Hid (Below W1.heap.size W1 V) → Did W eb g c me fp x.abs V) := fun V hb => Did.of (Fe.below B1.out _) ⟨fp, x, HL.out.kept hb.out, rfl, Fe.below hb.out _, fun _ hb => .inl hb⟩
  have hNw : IntKind.u64.wrap (2 * c.f + 1) = 2 * c.f + 1 := IntWalk.u64_in _ ⟨by have := hok.f1; omega, by have := hok.f3; omega⟩
  have HW1 := hide hW1
  have hd : (kind != 8) = false := by simp [h1]
  have hd2 : decide (2 * c.f + 1 ≤ (src : Int)) = false := decide_eq_false (by omega)
  have hd3 : ((num : Int) == 0) = false := by rw [beq_eq_false_iff_ne]; omega
  rw [h4] at KV
  rw [decide_eq_true h5] at KC
  have hcv : IntKind.i64.wrap (src : Int) = (src : Int) := IntWalk.i64_in _ ⟨by have := hok.f3; omega, by have := hok.f3; omega⟩
  subst h6
  have hbq : ∀ w, (binOp BinOp.eql 33 (.agg #[.int .u64 (num : Nat), .int .i64 node]) (.agg #[.int .u64 (num : Nat), .int .i64 node])).run Try.prog w = .ok (.bool true) w := fun w => by
    have := bal_eqE (num : Int) (num : Int) node node w
    rw [this]
    simp
  have KI : Hid (∀ V, Calls Try.prog 38 #[.int .u32 0, .int .i64 (src : Nat)] V fun e w' => e = .returned (.int .u32 ((withB 0 (src : Nat) : Nat) : Int)) ∧ w' = V) := fun V => with_any 0 (by decide) (src : Nat) V
  have KE : Hid (∀ V, Hid (Below W1.heap.size W1 V) → Calls Try.prog 37 #[.pointer (some ⟨eb, 0, none⟩), .agg #[.int .u64 (num : Nat), .int .i64 node], .int .u64 (now : Nat)] V fun e W' => e = .returned (.tuple #[]) ∧ Hid (∃ fp' y, EL W' eb g c me fp' y ∧ y.abs = Ev.enter c x.abs num node now ∧ Fe W W' (Mine eb fp) ∧ (∀ b, fp' b → fp b ∨ W.heap.size ≤ b) ∧ W'.heap[W.heap.size]? = some (.cells cs.toArray 49 (0, 0)))) := fun V hb => by
    refine (enterE (HL.out.kept hb.out) hok hem num node (by omega) h4 now hnow).mono ?_
    rintro e w' ⟨rfl, d⟩
    obtain ⟨fp', y, d1, d2, d3, d4⟩ := d.out
    refine ⟨rfl, fp', y, d1, d2, (Fe.below B1.out _).trans ((Fe.below hb.out _).trans d3 (fun _ _ e => e)) (fun _ _ e => e), fun b hb' => (d4 b hb').elim .inl (fun e => .inr (by have := hb.out.size; have := B1.out.size; omega)), ?_⟩
    have c1 := (hb.out.block _ (block_lt C1.out)).trans C1.out
    refine (d3.block _ (block_lt c1) ?_).trans c1
    rintro (e | e)
    · have := h.lt; omega
    · have := h.flt _ e; omega
  have HMC := hide hm
  clear h hm hok hem hnow h1 h2 h3 h4 h5 hW1 C1 HL B1
  generalize 2 * c.f + 1 = ni at *
  generalize hxn : (x.num : Int) = nu at *
  generalize hxo : x.node = no at *
  generalize (x.sus : Int) = su at *
  clear hxn hxo
  go_enter Try.func20, Try.ntmps20
  go_upto_region 1 with fail
  rw [HW1.out]
  clear HW1
  obtain ⟨q0, q2, q3, q4, f4⟩ := KP.out W1 HV1
  have ql := KL.out W1 HV1
  have wl := KW.out W1 HV1
  have m0 := K0.out W1 HV1
  have m1 := K1.out W1 HV1
  go_upto_region 6 with (first
    | (go_at_call 13; refine (KM.out W1 HV1).mono ?_; rintro e V' ⟨rfl, hVV⟩; have hVW := hVV.symm; clear hVV; subst hVW)
    | (go_at_call 36; refine (KN.out _ HV1).mono ?_; rintro e V' ⟨rfl, hVV⟩; have hVW := hVV.symm; clear hVV; subst hVW))
  clear q0 q2 q3 q4 f4 ql wl m0 m1
  refine region_assign (fun V => Hid (Below W1.heap.size W1 V)) [(30, .pointer (some ⟨eb, 0, none⟩)), (31, .pointer (some ⟨eb, 0, none⟩)), (32, .pointer (some ⟨eb, 0, none⟩)), (33, .pointer (some ⟨g, 0, none⟩)), (34, .pointer (some ⟨W.heap.size, 1, none⟩)), (35, .agg #[.int .u64 (num : Nat), .int .i64 node]), (36, .bool true), (37, .bool false), (25, .bool false)] _ (by kernel_rfl) (by kernel_rfl) (by kernel_rfl) (by kernel_rfl) rfl (KR.out _ HV1) ?_ (fun V2 HV2 => ?_)
  · simp only [putAll, Act.put, List.setIfInBounds_toArray, List.set_cons_zero, List.set_cons_succ]
    repeat' (first | exact AllTo.nil | refine AllTo.cons ?_ ?_)
    all_goals first
      | exact stepTo_no (by rfl) rfl
      | (refine stepTo_yes (by rfl) (fun V hV K hK => ?_)
         obtain ⟨q0, q2, q3, q4, f4⟩ := KP.out V hV
         have ql := KL.out V hV
         have wl := KW.out V hV
         have m1 := K1.out V hV
         have m2 := K2.out V hV
         have m13 := K13.out V hV
         go_simp
         first
           | exact hK.out _ hV
           | (go_at_call 27; refine (KV.out V hV).mono ?_; rintro e V' ⟨rfl, hV'⟩; exact hK.out _ (KB.out _ _ hV hV')))
  simp only [putAll, Act.put, List.setIfInBounds_toArray, List.set_cons_zero, List.set_cons_succ]
  obtain ⟨q0, q2, q3, q4, f4⟩ := KP.out V2 HV2
  have ql := KL.out V2 HV2
  have wl := KW.out V2 HV2
  have m0 := K0.out V2 HV2
  have m1 := K1.out V2 HV2
  go_upto_region 8 with fail
  clear q0 q2 q3 q4 f4 ql wl m0 m1
  refine region_assign (fun V => Hid (Below W1.heap.size W1 V)) [(38, .pointer (some ⟨eb, 0, none⟩)), (39, .pointer (some ⟨eb, 0, none⟩)), (40, .pointer (some ⟨eb, 2, none⟩)), (41, .agg #[.int .u64 nu, .int .i64 no]), (42, .pointer (some ⟨W.heap.size, 1, none⟩)), (43, .agg #[.int .u64 (num : Nat), .int .i64 node]), (44, .bool true), (9, .bool true)] _ (by kernel_rfl) (by kernel_rfl) (by kernel_rfl) (by kernel_rfl) rfl (KR.out _ HV2) ?_ (fun V3 HV3 => ?_)
  · simp only [putAll, Act.put, List.setIfInBounds_toArray, List.set_cons_zero, List.set_cons_succ]
    repeat' (first | exact AllTo.nil | refine AllTo.cons ?_ ?_)
    all_goals first
      | exact stepTo_no (by rfl) rfl
      | (refine stepTo_yes (by rfl) (fun V hV K hK => ?_)
         obtain ⟨q0, q2, q3, q4, f4⟩ := KP.out V hV
         have ql := KL.out V hV
         have wl := KW.out V hV
         have m1 := K1.out V hV
         have m2 := K2.out V hV
         have m13 := K13.out V hV
         go_simp
         first
           | exact hK.out _ hV
           | (go_at_call 28; refine (KC.out V).mono ?_; rintro e V' ⟨rfl, hV'⟩; exact hK.out _ (KB.out _ _ hV hV')))
  simp only [putAll, Act.put, List.setIfInBounds_toArray, List.set_cons_zero, List.set_cons_succ]
  obtain ⟨q0, q2, q3, q4, f4⟩ := KP.out V3 HV3
  have ql := KL.out V3 HV3
  have wl := KW.out V3 HV3
  have m0 := K0.out V3 HV3
  have m1 := K1.out V3 HV3
  have m2 := K2.out V3 HV3
  go_wp2_with fail
  refine (KE.out _ HV3).mono ?_
  rintro e W5 ⟨rfl, G⟩
  clear q0 q2 q3 q4 f4 ql wl m0 m1 m2
  go_upto_region 11 with fail
  obtain ⟨A1, A2, A3⟩ := after_enter (s := Ev.enter c x.abs num node now) HMC.out src rfl rfl rfl G.out
  have KY := hide A1
  have FINA := hide A2
  have FINB := hide A3
  clear A1 A2 A3 G
  have HV5 : Hid (Below W5.heap.size W5 W5.drew) := (Below.refl _ W5).drew
  generalize hnm : (num : Int) = nm at *
  generalize W.heap.size = wb at *
  clear hnm
  refine region_assign (fun V => Hid (Below W5.heap.size W5 V)) [(51, .pointer (some ⟨wb, 13, none⟩)), (52, .bool true), (53, .bool true), (54, .pointer (some ⟨wb, 1, none⟩)), (55, .agg #[.int .u64 nm, .int .i64 node]), (56, .pointer (some ⟨eb, 0, none⟩)), (57, .pointer (some ⟨eb, 0, none⟩)), (58, .pointer (some ⟨eb, 2, none⟩)), (59, .agg #[.int .u64 nm, .int .i64 node]), (60, .bool true), (61, .bool true)] _ (by kernel_rfl) (by kernel_rfl) (by kernel_rfl) (by kernel_rfl) rfl HV5 ?_ (fun V4 HV4 => ?_)
  · simp only [putAll, Act.put, List.setIfInBounds_toArray, List.set_cons_zero, List.set_cons_succ]
    repeat' (first | exact AllTo.nil | refine AllTo.cons ?_ ?_)
    all_goals first
      | exact stepTo_no (by rfl) rfl
      | (refine stepTo_yes (by rfl) (fun V hV K hK => ?_)
         obtain ⟨m1, m2, m13, wl, q2, q3, q4, f4, ql⟩ := KY.out V hV.out
         go_simp
         exact hK.out _ hV)
  simp only [putAll, Act.put, List.setIfInBounds_toArray, List.set_cons_zero, List.set_cons_succ]
  obtain ⟨m1, m2, m13, wl, q2, q3, q4, f4, ql⟩ := KY.out V4 HV4.out
  go_wp2_with (go_at_call 38; refine (KI.out _).mono ?_; rintro e V' ⟨rfl, rfl⟩)
  go_ret
  exact ⟨rfl, FINB.out _ HV4.out⟩
theorem beatE {W : World} {eb g : Nat} {c : Cf} {me : Nat} {fp : Nat → Prop} {x : Ex} (h : EL W eb g c me fp x) (hok : c.Ok) (hem : c.em ≤ 100000) (src : Nat) (hsrc : src < 18446744073709551616) {cs : List Value} {kind : Int} {num : Nat} {node : Int} {susp : Bool} (hm : MsgC cs kind num node susp) (now : Nat) (hnow : now < 18446744073709551616) :
    Calls Try.prog 20 #[.pointer (some ⟨eb, 0, none⟩), .int .u64 (src : Nat), .agg cs.toArray, .int .u64 (now : Nat)] W fun e W' => e = .returned (.bool (Ev.beat c x.abs src kind num node susp now).2) ∧ Hid (Did W eb g c me fp (Ev.beat c x.abs src kind num node susp now).1 W') := by
  unfold Ev.beat Ev.beatOk
  by_cases h1 : kind = 8
  · by_cases h2 : (src : Int) < 2 * c.f + 1
    · by_cases h3 : num = 0
      · rw [if_pos (by simp [h3])]
        exact beat_zero h hok hem src hsrc hm now hnow h1 h2 h3
      · cases h4 : c.valid num node with
        | false =>
          rw [if_pos (by simp)]
          exact beat_bad h hok hem src hsrc hm now hnow h1 h2 h3 h4
        | true =>
          rw [if_neg (by simp [h1, h2, h3])]
          by_cases h5 : cmpB x.num x.node num node < 0
          · rw [if_pos (by exact h5)]
            cases susp with
            | false =>
              have e : (Ev.enter c x.abs num node now).susp src num node false = Ev.enter c x.abs num node now := by unfold Ev.susp; rw [if_neg (by simp)]
              rw [e]
              exact beat_up h hok hem src hsrc hm now hnow h1 h2 h3 h4 h5 rfl
            | true =>
              have e : (Ev.enter c x.abs num node now).susp src num node true = ⟨(Ev.enter c x.abs num node now).num, (Ev.enter c x.abs num node now).node, withB 0 (src : Nat), (Ev.enter c x.abs num node now).len, (Ev.enter c x.abs num node now).fin, (Ev.enter c x.abs num node now).pv, (Ev.enter c x.abs num node now).th⟩ := by unfold Ev.susp; rw [if_pos ⟨rfl, rfl, rfl⟩]; rfl
              rw [e]
              exact beat_upsusp h hok hem src hsrc hm now hnow h1 h2 h3 h4 h5 rfl
          · rw [if_neg (by exact h5)]
            cases susp with
            | false =>
              have e : x.abs.susp src num node false = x.abs := by unfold Ev.susp; rw [if_neg (by simp)]
              rw [e]
              exact beat_quiet h hok hem src hsrc hm now hnow h1 h2 h3 h4 h5 rfl
            | true =>
              by_cases h7 : num = x.num ∧ node = x.node
              · have e : x.abs.susp src num node true = ⟨x.num, x.node, withB x.sus (src : Nat), x.len, x.fin, x.ps.map Rq.val, x.ts.map Rq.val⟩ := by unfold Ev.susp; rw [if_pos ⟨rfl, h7.1, h7.2⟩]; rfl
                rw [e]
                exact beat_susp h hok hem src hsrc hm now hnow h1 h2 h3 h4 h5 rfl h7.1 h7.2
              · have e : x.abs.susp src num node true = x.abs := by unfold Ev.susp; rw [if_neg (fun e => h7 e.2)]
                rw [e]
                exact beat_other h hok hem src hsrc hm now hnow h1 h2 h3 h4 h5 rfl h7
    · rw [if_pos (by simp [h2])]
      exact beat_src h hok hem src hsrc hm now hnow h1 h2
  · rw [if_pos (by simp [h1])]
    exact beat_kind h hok hem src hsrc hm now hnow h1
end Go.Proofs.Ythfbimbadkmhhaa
