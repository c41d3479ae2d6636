import Derived.Test.YthfiafjhnidlkaaM43
import Derived.DeepKeys3
namespace Go.Proofs.Ythfiafjhnidlkaa
open Go.RowKit Go.WideMaps

theorem wf_i64 {x : Int} (h1 : -9223372036854775808 ≤ x) (h2 : x < 9223372036854775808) : (Lit.int .i64 x).wf = true := by simp [Lit.wf, IntKind.min, IntKind.max, IntKind.bits, IntKind.signed]; omega
def balOk (x : Nat × Int) : Prop := x.1 < 18446744073709551616 ∧ -9223372036854775808 ≤ x.2 ∧ x.2 < 9223372036854775808
def balE (x : Nat × Int) : Value := .agg #[.int .u64 (x.1 : Int), .int .i64 x.2]
theorem bal_key (x : Nat × Int) (hx : balOk x) : keyOf Try.prog 36 (balE x) = some (.string (keyBytes [.int .u64 (x.1 : Int), .int .i64 x.2])) := by
  have h1 := wf_u64 hx.1
  have h2 := wf_i64 hx.2.1 hx.2.2
  have hkt : Try.prog.keyType 36 = true := by kernel_rfl
  unfold keyOf balE
  simp only [Try.underlying36]
  have hf : Value.formed Try.prog 36 (.agg #[.int .u64 (x.1 : Int), .int .i64 x.2]) = true := by kernel_rfl
  rw [hkt, hf]
  have hne : Try.prog.types.size ≠ 0 := by decide +kernel
  obtain ⟨m, hm⟩ : ∃ m, Try.prog.types.size + 1 = m + 1 + 1 := ⟨Try.prog.types.size - 1, by omega⟩
  rw [hm]
  have c1 : Try.prog.cellsOf 22 = 1 := by kernel_rfl
  have c2 : Try.prog.cellsOf 3 = 1 := by kernel_rfl
  have c3 : Try.prog.cellsOf 36 = 2 := by kernel_rfl
  simp [Program.keyLits, Try.underlying36, Try.underlying22, Try.underlying3, Value.cells, c1, c2, c3, h1, h2]
theorem bal_keyed : Maps.Keyed Try.prog 36 := Maps.Keyed.of_law (deep_law (m := 2) (by omega) (by kernel_rfl) (by kernel_rfl) (by kernel_rfl))
theorem balE_inj {x y : Nat × Int} (h : balE x = balE y) : x = y := by
  obtain ⟨a, b⟩ := x
  obtain ⟨c, d⟩ := y
  simp [balE] at h
  obtain ⟨h1, h2⟩ := h
  have : a = c := by omega
  rw [this, h2]
/-- The keys that are ballots. -/
def KB : KeyK (Nat × Int) where
  kt := 36
  mt := 112
  enc := balE
  lit := fun x => .string (keyBytes [.int .u64 (x.1 : Int), .int .i64 x.2])
  ok := balOk
  K := bal_keyed
  ht := Try.underlying112
  key := bal_key
  isk := fun _ => trivial
  inj := fun x y hx hy h => balE_inj (bal_keyed.inj (bal_key x hx) (by rw [h]; exact bal_key y hy))
end Go.Proofs.Ythfiafjhnidlkaa
namespace Go.Proofs.Ythfiafjhnidlkaa
open Go.RowKit

/-- A tally of ballots. -/
structure TZ (W : World) (pt b : Nat) (c : Cf) (n : Nat) (m : Nat × Int → Nat) (p : Nat × Int → Bool) : Prop where
  (blk : W.heap[pt]? = some (.cells (tcells c b) 114 (0, 0))) (tm : TM KB W b n m p)
theorem TZ.ne {W : World} {pt b : Nat} {c : Cf} {n : Nat} {m : Nat × Int → Nat} {p : Nat × Int → Bool} (h : TZ W pt b c n m p) : pt ≠ b := fun e => by
  obtain ⟨D, ⟨es, clock, h1, _⟩, _⟩ := h.tm
  have := h.blk
  rw [e, h1] at this
  cases this
theorem TZ.kept {W W' : World} {pt b : Nat} {c : Cf} {n : Nat} {m : Nat × Int → Nat} {p : Nat × Int → Bool} (h : TZ W pt b c n m p) (hb : Below W.heap.size W W') : TZ W' pt b c n m p :=
  ⟨(hb.block pt (block_lt h.blk)).trans h.blk, h.tm.kept (below_grown hb none) (by simp)⟩
theorem TZ.pc {W : World} {pt b : Nat} {c : Cf} {n : Nat} {m : Nat × Int → Nat} {p : Nat × Int → Bool} (h : TZ W pt b c n m p) : PC W (some ⟨pt, 0, none⟩) c :=
  ⟨pt, rfl, block_lt h.blk, block_cell h.blk 0, block_cell h.blk 3, block_cell h.blk 8, block_cell h.blk 9⟩
theorem TZ.cell {W : World} {pt b : Nat} {c : Cf} {n : Nat} {m : Nat × Int → Nat} {p : Nat × Int → Bool} (h : TZ W pt b c n m p) : W.cell? ⟨pt, 10, none⟩ = some (.map (some b)) := block_cell h.blk 10
theorem map_some_neqB (w : World) (r : Option Nat) : (binOp .neq 112 (.map r) (.map none)).run Try.prog w = .ok (.bool (!r.isNone)) w := run_neq_map_nil w _ _ _ r Try.underlying112
set_option maxRecDepth 10000 in
set_option maxHeartbeats 800000 in
theorem zmade {w : World} {pt b : Nat} (h : w.cell? ⟨pt, 10, none⟩ = some (.map (some b))) :
    Calls Try.prog 67 #[.pointer (some ⟨pt, 0, none⟩)] w fun e w' => e = .returned (.bool true) ∧ w' = w := by
  have q := map_some_neqB
  go_enter Try.func67, Try.ntmps67
  go_wp2
  go_ret
  exact ⟨rfl, rfl⟩
set_option maxRecDepth 10000 in
set_option maxHeartbeats 800000 in
theorem tlen {w : World} {pt b : Nat} {c : Cf} {n : Nat} {m : Nat → Nat} {p : Nat → Bool} (h : TY w pt b c n m p) : Calls Try.prog 40 #[.pointer (some ⟨pt, 0, none⟩)] w fun e w' => e = .returned (.int .i64 (n : Nat)) ∧ w' = w := by
  have q0 := h.cell
  have HM := hide (tmade q0)
  have q2 : ∀ ty, (Builtin.len_ #[79] ty #[.map (some b)]).run Try.prog w = .ok (.int .i64 (n : Nat)) w := fun ty => h.tm.len (Y := KU) ty
  clear h
  go_enter Try.func40, Try.ntmps40
  go_wp2_with fail
  refine HM.out.mono ?_
  rintro e w1 ⟨rfl, rfl⟩
  go_wp2
  go_ret
  exact ⟨rfl, rfl⟩
set_option maxRecDepth 10000 in
set_option maxHeartbeats 800000 in
theorem zlen {w : World} {pt b : Nat} {c : Cf} {n : Nat} {m : Nat × Int → Nat} {p : Nat × Int → Bool} (h : TZ w pt b c n m p) : Calls Try.prog 42 #[.pointer (some ⟨pt, 0, none⟩)] w fun e w' => e = .returned (.int .i64 (n : Nat)) ∧ w' = w := by
  have q0 := h.cell
  have HM := hide (zmade q0)
  have q2 : ∀ ty, (Builtin.len_ #[112] ty #[.map (some b)]).run Try.prog w = .ok (.int .i64 (n : Nat)) w := fun ty => h.tm.len (Y := KB) ty
  clear h
  go_enter Try.func42, Try.ntmps42
  go_wp2_with fail
  refine HM.out.mono ?_
  rintro e w1 ⟨rfl, rfl⟩
  go_wp2
  go_ret
  exact ⟨rfl, rfl⟩
set_option maxRecDepth 10000 in
set_option maxHeartbeats 800000 in
theorem newTally_okB {w : World} {a : Option Addr} {c : Cf} (h : PG w a c) (hok : c.Ok) :
    Calls Try.prog 34 #[.pointer a] w fun e w' => ∃ pt b, e = .returned (.pointer (some ⟨pt, 0, none⟩)) ∧ Hid (TZ w' pt b c 0 (fun _ => 0) (fun _ => false) ∧ w.heap.size ≤ b ∧ Below w.heap.size w w') := by
  have HM := hide (made_live h hok)
  obtain ⟨g, rfl, hg⟩ := h
  have m1 := run_makeMap (P := Try.prog) 112 w
  obtain ⟨z0, z1, z2, z3, z4, z5, z6, z7, z8, z9⟩ := cfg_cells hg
  have HR : Hid (∃ pt b, some (⟨w.heap.size + 1, 0, none⟩ : Addr) = some ⟨pt, 0, none⟩ ∧ TZ ((w.alloc (.map #[] 0)).alloc (.cells (tcells c w.heap.size) 114)) pt b c 0 (fun _ => 0) (fun _ => false) ∧ w.heap.size ≤ b ∧ Below w.heap.size w ((w.alloc (.map #[] 0)).alloc (.cells (tcells c w.heap.size) 114))) := by
    refine ⟨_, w.heap.size, rfl, ⟨?_, (tm_made KB w).kept (World.grownBy_alloc _ _ none) (by simp)⟩, Nat.le_refl _, ((Below.refl _ w).alloc (Nat.le_refl _) _).alloc (by simp) _⟩
    have h := alloc_atK (w.alloc (.map #[] 0)) (.cells (tcells c w.heap.size) 114)
    rw [World.size_alloc] at h
    exact h
  unfold tcells at HR
  clear hg hok
  generalize c.f = f at *
  generalize c.mb = mb at *
  generalize (c.delay : Int) = d at *
  generalize (c.win : Int) = wn at *
  generalize (c.every : Int) = ev at *
  generalize (c.beat : Int) = bt at *
  generalize (c.ep : Int) = ep at *
  generalize (c.em : Int) = em at *
  generalize (c.mn : Int) = mn at *
  generalize (c.ms : Int) = ms at *
  go_enter Try.func34, Try.ntmps34
  go_wp2_with fail
  refine HM.out.mono ?_
  rintro e w2 ⟨rfl, rfl⟩
  go_wp2
  go_ret
  obtain ⟨pt, b, e1, h⟩ := HR.out
  exact ⟨pt, b, by rw [← e1]; simp, h⟩
set_option maxRecDepth 10000 in
set_option maxHeartbeats 1600000 in
theorem znodes {w : World} {pt b : Nat} {c : Cf} {n : Nat} {m : Nat × Int → Nat} {p : Nat × Int → Bool} (h : TZ w pt b c n m p) (k : Nat × Int) (hk : balOk k) :
    Calls Try.prog 39 #[.pointer (some ⟨pt, 0, none⟩), .agg #[.int .u64 (k.1 : Int), .int .i64 k.2]] w fun e w' => e = .returned (.int .u32 ((m k : Nat) : Int)) ∧ Below w.heap.size w w' := by
  obtain ⟨W1, hW1⟩ : ∃ W1, w.alloc (.cells #[.int .u64 (k.1 : Int), .int .i64 k.2] 36) = W1 := ⟨_, rfl⟩
  have b1 : Below w.heap.size w W1 := by rw [← hW1]; exact (Below.refl _ w).alloc (Nat.le_refl _) _
  have C1 : Hid (W1.heap[w.heap.size]? = some (.cells #[.int .u64 (k.1 : Int), .int .i64 k.2] 36 (0, 0))) := by rw [← hW1]; exact alloc_atK _ _
  have HW1 := hide hW1
  have B1 := hide b1
  have HZ := hide (h.kept b1)
  have KC : Hid (∀ V, Hid (Below W1.heap.size W1 V) → V.cell? ⟨pt, 10, none⟩ = some (.map (some b)) ∧ pt < V.heap.size ∧ V.cell? ⟨w.heap.size, 0, none⟩ = some (.int .u64 (k.1 : Int)) ∧ V.cell? ⟨w.heap.size, 1, none⟩ = some (.int .i64 k.2) ∧ w.heap.size < V.heap.size) := fun V hV => by
    have c1 := (hV.out.block _ (block_lt C1.out)).trans C1.out
    exact ⟨(HZ.out.kept hV.out).cell, block_lt (HZ.out.kept hV.out).blk, block_cell c1 0, block_cell c1 1, block_lt c1⟩
  have KL : Hid (∀ V, Hid (Below W1.heap.size W1 V) → (Instr.lookup 112 (.map (some b)) (.agg #[.int .u64 (k.1 : Int), .int .i64 k.2]) false).run Try.prog V = .ok (.int .u32 ((m k : Nat) : Int)) V) := fun V hV => (HZ.out.kept hV.out).tm.look (Y := KB) (x := k) hk
  have HD1 : Hid (Below W1.heap.size W1 W1) := Below.refl _ _
  have HD : Hid (∀ V, Hid (Below W1.heap.size W1 V) → Hid (Below W1.heap.size W1 V.drew)) := fun V h => h.out.drew
  have KK : Hid (∀ V V', Hid (Below W1.heap.size W1 V) → Below V.heap.size V V' → Hid (Below W1.heap.size W1 V')) := fun V V' h h' => h.out.trans (h'.mono h.out.size)
  have KM : Hid (∀ V, Hid (Below W1.heap.size W1 V) → Calls Try.prog 67 #[.pointer (some ⟨pt, 0, none⟩)] V fun e V' => e = .returned (.bool true) ∧ V' = V) := fun V hV => zmade (HZ.out.kept hV.out).cell
  clear h hk hW1 b1
  generalize ((m k : Nat) : Int) = x at *
  generalize (k.1 : Int) = kn at *
  generalize k.2 = km at *
  go_enter Try.func39, Try.ntmps39
  go_upto_region 1 with fail
  rw [HW1.out]
  clear HW1
  go_wp2_with fail
  refine (KM.out _ HD1).mono ?_
  rintro e w2 ⟨rfl, rfl⟩
  go_upto_region 3 with fail
  refine region_assign (fun V => Hid (Below w2.heap.size w2 V)) [(8, .pointer (some ⟨pt, 0, none⟩)), (9, .pointer (some ⟨pt, 0, none⟩)), (10, .pointer (some ⟨pt, 10, none⟩)), (11, .map (some b)), (12, .agg #[.int .u64 kn, .int .i64 km]), (13, .int .u32 x), (4, .int .u32 x)] _ (by kernel_rfl) (by kernel_rfl) (by kernel_rfl) (by kernel_rfl) rfl (HD.out _ HD1) ?_ (fun V1 HV1 => ?_)
  · simp only [putAll, Act.put, List.setIfInBounds_toArray, List.set_cons_zero, List.set_cons_succ]
    repeat' (first | exact AllTo.nil | refine AllTo.cons ?_ ?_)
    all_goals first
      | exact stepTo_no (by rfl) rfl
      | (refine stepTo_yes (by rfl) (fun V hV K hK => ?_)
         have q0 := KC.out V hV
         have q1 := KL.out V hV
         go_simp
         first
           | exact hK.out _ hV)
  simp only [putAll, Act.put, List.setIfInBounds_toArray, List.set_cons_zero, List.set_cons_succ]
  go_wp2
  go_ret
  exact ⟨rfl, B1.out.trans (HV1.out.mono B1.out.size)⟩
set_option maxRecDepth 10000 in
set_option maxHeartbeats 1600000 in
theorem zreached {w : World} {pt b : Nat} {c : Cf} {n : Nat} {m : Nat × Int → Nat} {p : Nat × Int → Bool} (h : TZ w pt b c n m p) (hok : c.Ok) (k : Nat × Int) (hk : balOk k) :
    Calls Try.prog 65 #[.pointer (some ⟨pt, 0, none⟩), .agg #[.int .u64 (k.1 : Int), .int .i64 k.2]] w fun e w' => e = .returned (.bool (c.maj (m k))) ∧ Below w.heap.size w w' := by
  obtain ⟨W1, hW1⟩ : ∃ W1, w.alloc (.cells #[.int .u64 (k.1 : Int), .int .i64 k.2] 36) = W1 := ⟨_, rfl⟩
  have b1 : Below w.heap.size w W1 := by rw [← hW1]; exact (Below.refl _ w).alloc (Nat.le_refl _) _
  have C1 : Hid (W1.heap[w.heap.size]? = some (.cells #[.int .u64 (k.1 : Int), .int .i64 k.2] 36 (0, 0))) := by rw [← hW1]; exact alloc_atK _ _
  have HW1 := hide hW1
  have B1 := hide b1
  have HZ := hide (h.kept b1)
  have KC : Hid (∀ V, Hid (Below W1.heap.size W1 V) → V.cell? ⟨pt, 10, none⟩ = some (.map (some b)) ∧ pt < V.heap.size ∧ V.cell? ⟨w.heap.size, 0, none⟩ = some (.int .u64 (k.1 : Int)) ∧ V.cell? ⟨w.heap.size, 1, none⟩ = some (.int .i64 k.2) ∧ w.heap.size < V.heap.size) := fun V hV => by
    have c1 := (hV.out.block _ (block_lt C1.out)).trans C1.out
    exact ⟨(HZ.out.kept hV.out).cell, block_lt (HZ.out.kept hV.out).blk, block_cell c1 0, block_cell c1 1, block_lt c1⟩
  have KL : Hid (∀ V, Hid (Below W1.heap.size W1 V) → (Instr.lookup 112 (.map (some b)) (.agg #[.int .u64 (k.1 : Int), .int .i64 k.2]) false).run Try.prog V = .ok (.int .u32 ((m k : Nat) : Int)) V) := fun V hV => (HZ.out.kept hV.out).tm.look (Y := KB) (x := k) hk
  have HD1 : Hid (Below W1.heap.size W1 W1) := Below.refl _ _
  have HD : Hid (∀ V, Hid (Below W1.heap.size W1 V) → Hid (Below W1.heap.size W1 V.drew)) := fun V h => h.out.drew
  have KK : Hid (∀ V V', Hid (Below W1.heap.size W1 V) → Below V.heap.size V V' → Hid (Below W1.heap.size W1 V')) := fun V V' h h' => h.out.trans (h'.mono h.out.size)
  have KM : Hid (∀ V, Hid (Below W1.heap.size W1 V) → Calls Try.prog 67 #[.pointer (some ⟨pt, 0, none⟩)] V fun e V' => e = .returned (.bool true) ∧ V' = V) := fun V hV => zmade (HZ.out.kept hV.out).cell
  have KJ : Hid (∀ V, Hid (Below W1.heap.size W1 V) → Calls Try.prog 25 #[.pointer (some ⟨pt, 0, none⟩), .int .u32 ((m k : Nat) : Int)] V fun e w' => e = .returned (.bool (c.maj (m k))) ∧ Below V.heap.size V w') := fun V hV => majority_pc (m k) (HZ.out.tm.small k) (HZ.out.kept hV.out).pc hok
  clear h hk hW1 b1 hok
  generalize c.maj (m k) = v at *
  generalize ((m k : Nat) : Int) = x at *
  generalize (k.1 : Int) = kn at *
  generalize k.2 = km at *
  go_enter Try.func65, Try.ntmps65
  go_upto_region 1 with fail
  rw [HW1.out]
  clear HW1
  refine region_assign (fun V => Hid (Below W1.heap.size W1 V)) [(5, .pointer (some ⟨pt, 0, none⟩)), (6, .bool true), (7, .bool true), (8, .pointer (some ⟨pt, 0, none⟩)), (9, .pointer (some ⟨pt, 0, none⟩)), (10, .pointer (some ⟨pt, 0, none⟩)), (11, .pointer (some ⟨pt, 0, none⟩)), (12, .pointer (some ⟨pt, 0, none⟩)), (13, .pointer (some ⟨pt, 10, none⟩)), (14, .map (some b)), (15, .agg #[.int .u64 kn, .int .i64 km]), (16, .int .u32 x), (17, .bool v), (18, .bool v), (4, .bool v)] _ (by kernel_rfl) (by kernel_rfl) (by kernel_rfl) (by kernel_rfl) rfl (HD.out _ HD1) ?_ (fun V1 HV1 => ?_)
  · simp only [putAll, Act.put, List.setIfInBounds_toArray, List.set_cons_zero, List.set_cons_succ]
    repeat' (first | exact AllTo.nil | refine AllTo.cons ?_ ?_)
    all_goals first
      | exact stepTo_no (by rfl) rfl
      | (refine stepTo_yes (by rfl) (fun V hV K hK => ?_)
         have q0 := KC.out V hV
         have q1 := KL.out V hV
         go_simp
         first
           | exact hK.out _ hV
           | (go_at_call 67; refine (KM.out V hV).mono ?_; rintro e V' ⟨rfl, hV'⟩; subst hV'; exact hK.out _ hV)
           | (go_at_call 25; refine (KJ.out V hV).mono ?_; rintro e V' ⟨rfl, hV'⟩; exact hK.out _ (KK.out _ _ hV hV')))
  simp only [putAll, Act.put, List.setIfInBounds_toArray, List.set_cons_zero, List.set_cons_succ]
  go_wp2
  go_ret
  exact ⟨rfl, B1.out.trans (HV1.out.mono B1.out.size)⟩
end Go.Proofs.Ythfiafjhnidlkaa
