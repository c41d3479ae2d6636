import Derived.Test.YthfiafjhnidlkaaM44
import Derived.Test.YthfiafjhnidlkaaM41
namespace Go.Proofs.Ythfiafjhnidlkaa
open Go.RowKit

/-- A tally in a world that has grown by its map. -/
structure ZG (W1 : World) (pt b : Nat) (c : Cf) (n : Nat) (m : Nat × Int → Nat) (p : Nat × Int → Bool) (V : World) : Prop where
  gr : W1.grownBy V (some b)
  tz : TZ V pt b c n m p
theorem ZG.kept {W1 : World} {pt b : Nat} {c : Cf} {n : Nat} {m : Nat × Int → Nat} {p : Nat × Int → Bool} {V V' : World} (h : ZG W1 pt b c n m p V) (hb : Below V.heap.size V V') : ZG W1 pt b c n m p V' := ⟨grown_trans' h.gr (below_grown hb _), h.tz.kept hb⟩
theorem TZ.drop {w : World} {pt b : Nat} {c : Cf} {n : Nat} {m : Nat × Int → Nat} {p : Nat × Int → Bool} (h : TZ w pt b c n m p) (k : Nat × Int) (hk : balOk k) (ty : TypeId) : ∃ w', (Builtin.delete_ #[112, 36] ty #[.map (some b), .agg #[.int .u64 (k.1 : Int), .int .i64 k.2]]).run Try.prog w = .ok (.tuple #[]) w' ∧ TZ w' pt b c (dnN (p k) n) (upd m k 0) (upd p k false) ∧ w.grownBy w' (some b) := by
  obtain ⟨w1, hr, h1, h2⟩ := h.tm.drop (Y := KB) (x := k) hk ty
  exact ⟨w1, hr, ⟨(h2.block pt (block_lt h.blk) (by simpa using h.ne)).trans h.blk, h1⟩, h2⟩
theorem TZ.store {w : World} {pt b : Nat} {c : Cf} {n : Nat} {m : Nat × Int → Nat} {p : Nat × Int → Bool} (h : TZ w pt b c n m p) (k : Nat × Int) (hk : balOk k) (hn : n ≤ 64) {v : Nat} (hv : v < 4294967296) : ∃ w', (Instr.mapUpdate 112 (.map (some b)) (.agg #[.int .u64 (k.1 : Int), .int .i64 k.2]) (.int .u32 (v : Nat))).run Try.prog w = .ok () w' ∧ TZ w' pt b c (upN (p k) n) (upd m k v) (upd p k true) ∧ w.grownBy w' (some b) := by
  obtain ⟨w1, hr, h1, h2⟩ := h.tm.store (Y := KB) (x := k) hk (by show n < maxLen; unfold maxLen; omega) hv
  exact ⟨w1, hr, ⟨(h2.block pt (block_lt h.blk) (by simpa using h.ne)).trans h.blk, h1⟩, h2⟩
set_option maxRecDepth 10000 in
set_option maxHeartbeats 1600000 in
theorem zdrop {w : World} {pt b : Nat} {c : Cf} {n : Nat} {m : Nat × Int → Nat} {p : Nat × Int → Bool} (h : TZ w pt b c n m p) (k : Nat × Int) (hk : balOk k) :
    Calls Try.prog 64 #[.pointer (some ⟨pt, 0, none⟩), .agg #[.int .u64 (k.1 : Int), .int .i64 k.2]] w fun e w' => (∃ v, e = .returned v) ∧ Hid (TZ w' pt b c (dnN (p k) n) (upd m k 0) (upd p k false) ∧ w.grownBy w' (some b)) := by
  obtain ⟨W1, hW1⟩ : ∃ W1, w.alloc (.cells #[.int .u64 (k.1 : Int), .int .i64 k.2] 36) = W1 := ⟨_, rfl⟩
  have b1 : Below w.heap.size w W1 := by rw [← hW1]; exact (Below.refl _ w).alloc (Nat.le_refl _) _
  have C1 : Hid (W1.heap[w.heap.size]? = some (.cells #[.int .u64 (k.1 : Int), .int .i64 k.2] 36 (0, 0))) := by rw [← hW1]; exact alloc_atK _ _
  have HW1 := hide hW1
  have B1 := hide b1
  have HZ := hide (h.kept b1)
  have KC : Hid (∀ V, Hid (Below W1.heap.size W1 V) → V.cell? ⟨pt, 10, none⟩ = some (.map (some b)) ∧ pt < V.heap.size ∧ V.cell? ⟨w.heap.size, 0, none⟩ = some (.int .u64 (k.1 : Int)) ∧ V.cell? ⟨w.heap.size, 1, none⟩ = some (.int .i64 k.2) ∧ w.heap.size < V.heap.size) := fun V hV => by
    have c1 := (hV.out.block _ (block_lt C1.out)).trans C1.out
    exact ⟨(HZ.out.kept hV.out).cell, block_lt (HZ.out.kept hV.out).blk, block_cell c1 0, block_cell c1 1, block_lt c1⟩
  have KL : Hid (∀ V, Hid (Below W1.heap.size W1 V) → (Instr.lookup 112 (.map (some b)) (.agg #[.int .u64 (k.1 : Int), .int .i64 k.2]) false).run Try.prog V = .ok (.int .u32 ((m k : Nat) : Int)) V) := fun V hV => (HZ.out.kept hV.out).tm.look (Y := KB) (x := k) hk
  have HD1 : Hid (Below W1.heap.size W1 W1) := Below.refl _ _
  have HD : Hid (∀ V, Hid (Below W1.heap.size W1 V) → Hid (Below W1.heap.size W1 V.drew)) := fun V h => h.out.drew
  have KK : Hid (∀ V V', Hid (Below W1.heap.size W1 V) → Below V.heap.size V V' → Hid (Below W1.heap.size W1 V')) := fun V V' h h' => h.out.trans (h'.mono h.out.size)
  have KM : Hid (∀ V, Hid (Below W1.heap.size W1 V) → Calls Try.prog 67 #[.pointer (some ⟨pt, 0, none⟩)] V fun e V' => e = .returned (.bool true) ∧ V' = V) := fun V hV => zmade (HZ.out.kept hV.out).cell
  obtain ⟨SD, hSD⟩ : ∃ SD : Bool → World → Prop, SD = fun d V => if d = true then ZG W1 pt b c (dnN (p k) n) (upd m k 0) (upd p k false) V else ZG W1 pt b c n m p V := ⟨_, rfl⟩
  have HSD : ∀ d V, SD d V → W1.grownBy V (some b) ∧ ∃ n' m' p', TZ V pt b c n' m' p' := fun d V hV => by
    rw [hSD] at hV
    cases d with
    | true => exact ⟨hV.gr, _, _, _, hV.tz⟩
    | false => exact ⟨hV.gr, _, _, _, hV.tz⟩
  have KD : Hid (∀ d V, Hid (SD d V) → V.cell? ⟨pt, 10, none⟩ = some (.map (some b)) ∧ pt < V.heap.size ∧ V.cell? ⟨w.heap.size, 0, none⟩ = some (.int .u64 (k.1 : Int)) ∧ V.cell? ⟨w.heap.size, 1, none⟩ = some (.int .i64 k.2) ∧ w.heap.size < V.heap.size) := fun d V hV => by
    have hz := (HSD d V hV.out).2
    have hg := (HSD d V hV.out).1
    have hne : w.heap.size ≠ b := fun e => by
      obtain ⟨D, ⟨es, clock, h1, _⟩, _⟩ := HZ.out.tm
      have := C1.out
      rw [e, h1] at this
      cases this
    have c1 := (hg.block _ (block_lt C1.out) (fun e => hne (Option.some.inj e))).trans C1.out
    obtain ⟨n', m', p', hz⟩ := hz
    exact ⟨hz.cell, block_lt hz.blk, block_cell c1 0, block_cell c1 1, block_lt c1⟩
  have KE : Hid (∀ V, Hid (SD false V) → ∃ V', (∀ ty, (Builtin.delete_ #[112, 36] ty #[.map (some b), .agg #[.int .u64 (k.1 : Int), .int .i64 k.2]]).run Try.prog V = .ok (.tuple #[]) V') ∧ Hid (SD true V')) := fun V hV => by
    have h0 : ZG W1 pt b c n m p V := by have := hV.out; rw [hSD] at this; exact this
    obtain ⟨V', h1, h2, h3⟩ := h0.tz.drop k hk 3
    exact ⟨V', fun _ => h1, by show SD true V'; rw [hSD]; exact ⟨grown_trans' h0.gr h3, h2⟩⟩
  have SD0 : Hid (SD false W1.drew) := by show SD false W1.drew; rw [hSD]; exact ⟨below_grown (Below.refl _ W1).drew _, HZ.out.kept (Below.refl _ W1).drew⟩
  have FIN : Hid (∀ V, SD true V → TZ V pt b c (dnN (p k) n) (upd m k 0) (upd p k false) ∧ w.grownBy V (some b)) := fun V hV => by
    rw [hSD] at hV
    exact ⟨hV.tz, grown_trans' (below_grown B1.out _) hV.gr⟩
  clear h hk hW1 b1 hSD HSD KL
  generalize (k.1 : Int) = kn at *
  generalize k.2 = km at *
  go_enter Try.func64, Try.ntmps64
  go_upto_region 1 with fail
  rw [HW1.out]
  clear HW1
  go_wp2_with fail
  refine (KM.out _ HD1).mono ?_
  rintro e w2 ⟨rfl, rfl⟩
  go_upto_region 2 with fail
  refine region_assign1 (fun d V => Hid (SD d V)) 5 [(6, .pointer (some ⟨pt, 0, none⟩)), (7, .pointer (some ⟨pt, 0, none⟩)), (8, .pointer (some ⟨pt, 10, none⟩)), (9, .map (some b)), (10, .agg #[.int .u64 kn, .int .i64 km])] _ (by kernel_rfl) (by decide) (by kernel_rfl) (by kernel_rfl) (by kernel_rfl) rfl SD0 ?_ (fun V1 HV1 => ?_)
  · simp only [putAll, Act.put, List.setIfInBounds_toArray, List.set_cons_zero, List.set_cons_succ]
    repeat' (first | exact AllFro.nil | refine AllFro.at_ rfl ?_ ?_ | refine AllFro.off (by decide) ?_ ?_)
    all_goals first
      | (intro d
         refine stepTo_yes (by rfl) (fun V hV K hK => ?_)
         have q0 := KD.out d V hV
         go_simp
         exact hK.out _ hV)
      | (refine ⟨by rfl, fun V hV K hK => ?_⟩
         obtain ⟨V', q1, q2⟩ := KE.out V hV
         go_simp
         exact hK.out _ q2)
  simp only [putAll, Act.put, List.setIfInBounds_toArray, List.set_cons_zero, List.set_cons_succ]
  go_wp2
  go_end0
  exact ⟨⟨_, rfl⟩, FIN.out _ HV1.out⟩
set_option maxRecDepth 10000 in
set_option maxHeartbeats 1600000 in
theorem zspeak_node {w : World} {pt b : Nat} {c : Cf} {n : Nat} {m : Nat × Int → Nat} {p : Nat × Int → Bool} (h : TZ w pt b c n m p) (hok : c.Ok) (k : Nat × Int) (hk : balOk k) (nd : Int) (hn : c.node nd = false) :
    Calls Try.prog 63 #[.pointer (some ⟨pt, 0, none⟩), .agg #[.int .u64 (k.1 : Int), .int .i64 k.2], .int .i64 nd] w fun e w' => e = .returned (.tuple #[.int .i64 0, .int .i64 182]) ∧ Below w.heap.size w w' := by
  obtain ⟨W1, hW1⟩ : ∃ W1, w.alloc (.cells #[.int .u64 (k.1 : Int), .int .i64 k.2] 36) = W1 := ⟨_, rfl⟩
  have b1 : Below w.heap.size w W1 := by rw [← hW1]; exact (Below.refl _ w).alloc (Nat.le_refl _) _
  have C1 : Hid (W1.heap[w.heap.size]? = some (.cells #[.int .u64 (k.1 : Int), .int .i64 k.2] 36 (0, 0))) := by rw [← hW1]; exact alloc_atK _ _
  have HW1 := hide hW1
  have B1 := hide b1
  have HZ := hide (h.kept b1)
  have KC : Hid (∀ V, Hid (Below W1.heap.size W1 V) → V.cell? ⟨pt, 10, none⟩ = some (.map (some b)) ∧ pt < V.heap.size ∧ V.cell? ⟨w.heap.size, 0, none⟩ = some (.int .u64 (k.1 : Int)) ∧ V.cell? ⟨w.heap.size, 1, none⟩ = some (.int .i64 k.2) ∧ w.heap.size < V.heap.size) := fun V hV => by
    have c1 := (hV.out.block _ (block_lt C1.out)).trans C1.out
    exact ⟨(HZ.out.kept hV.out).cell, block_lt (HZ.out.kept hV.out).blk, block_cell c1 0, block_cell c1 1, block_lt c1⟩
  have KL : Hid (∀ V, Hid (Below W1.heap.size W1 V) → (Instr.lookup 112 (.map (some b)) (.agg #[.int .u64 (k.1 : Int), .int .i64 k.2]) false).run Try.prog V = .ok (.int .u32 ((m k : Nat) : Int)) V) := fun V hV => (HZ.out.kept hV.out).tm.look (Y := KB) (x := k) hk
  have HD1 : Hid (Below W1.heap.size W1 W1) := Below.refl _ _
  have HD : Hid (∀ V, Hid (Below W1.heap.size W1 V) → Hid (Below W1.heap.size W1 V.drew)) := fun V h => h.out.drew
  have KK : Hid (∀ V V', Hid (Below W1.heap.size W1 V) → Below V.heap.size V V' → Hid (Below W1.heap.size W1 V')) := fun V V' h h' => h.out.trans (h'.mono h.out.size)
  have KM : Hid (∀ V, Hid (Below W1.heap.size W1 V) → Calls Try.prog 67 #[.pointer (some ⟨pt, 0, none⟩)] V fun e V' => e = .returned (.bool true) ∧ V' = V) := fun V hV => zmade (HZ.out.kept hV.out).cell
  have KL2 : Hid (∀ V, Hid (Below W1.heap.size W1 V) → (Instr.lookup 112 (.map (some b)) (.agg #[.int .u64 (k.1 : Int), .int .i64 k.2]) true).run Try.prog V = .ok (.tuple #[.int .u32 ((m k : Nat) : Int), .bool (p k)]) V) := fun V hV => (HZ.out.kept hV.out).tm.look_ok (Y := KB) (x := k) hk
  have KN : Hid (∀ V, Hid (Below W1.heap.size W1 V) → Calls Try.prog 12 #[.pointer (some ⟨pt, 0, none⟩), .int .i64 nd] V fun e V' => e = .returned (.bool (c.node nd)) ∧ V' = V) := fun V hV => node_pc nd (HZ.out.kept hV.out).pc hok
  have KLn : Hid (∀ V, Hid (Below W1.heap.size W1 V) → ∀ ty, (Builtin.len_ #[112] ty #[.map (some b)]).run Try.prog V = .ok (.int .i64 (n : Nat)) V) := fun V hV ty => (HZ.out.kept hV.out).tm.len (Y := KB) ty
  rw [hn] at KN
  clear h hk hW1 b1 hn hok KL
  generalize p k = pk at *
  generalize ((m k : Nat) : Int) = x at *
  generalize (k.1 : Int) = kn at *
  generalize k.2 = km at *
  go_enter Try.func63, Try.ntmps63
  go_upto_region 1 with fail
  rw [HW1.out]
  clear HW1
  go_wp2_with fail
  refine (KM.out _ HD1).mono ?_
  rintro e w2 ⟨rfl, rfl⟩
  go_upto_region 3 with fail
  refine region_assign (fun V => Hid (Below w2.heap.size w2 V)) [(14, .pointer (some ⟨pt, 0, none⟩)), (15, .pointer (some ⟨pt, 0, none⟩)), (16, .pointer (some ⟨pt, 10, none⟩)), (17, .map (some b)), (18, .agg #[.int .u64 kn, .int .i64 km]), (19, .tuple #[.int .u32 x, .bool pk]), (13, .tuple #[.int .u32 x, .bool pk]), (20, .int .u32 x), (21, .bool pk), (8, .int .u32 x), (9, .bool pk)] _ (by kernel_rfl) (by kernel_rfl) (by kernel_rfl) (by kernel_rfl) rfl (HD.out _ HD1) ?_ (fun V1 HV1 => ?_)
  · simp only [putAll, Act.put, List.setIfInBounds_toArray, List.set_cons_zero, List.set_cons_succ]
    repeat' (first | exact AllTo.nil | refine AllTo.cons ?_ ?_)
    all_goals first
      | exact stepTo_no (by rfl) rfl
      | (refine stepTo_yes (by rfl) (fun V hV K hK => ?_)
         have q0 := KC.out V hV
         have q1 := KL2.out V hV
         go_simp
         first
           | exact hK.out _ hV)
  simp only [putAll, Act.put, List.setIfInBounds_toArray, List.set_cons_zero, List.set_cons_succ]
  have r0 := KC.out _ HV1
  go_wp2_with fail
  refine (KN.out _ HV1).mono ?_
  rintro e w3 ⟨rfl, rfl⟩
  go_wp2
  go_ret2
  exact ⟨rfl, B1.out.trans (HV1.out.mono B1.out.size)⟩
set_option maxRecDepth 10000 in
set_option maxHeartbeats 1600000 in
theorem zspeak_full {w : World} {pt b : Nat} {c : Cf} {n : Nat} {m : Nat × Int → Nat} {p : Nat × Int → Bool} (h : TZ w pt b c n m p) (hok : c.Ok) (k : Nat × Int) (hk : balOk k) (nd : Int) (hn : c.node nd = true) (hp : p k = false) (h64 : 64 ≤ n) :
    Calls Try.prog 63 #[.pointer (some ⟨pt, 0, none⟩), .agg #[.int .u64 (k.1 : Int), .int .i64 k.2], .int .i64 nd] w fun e w' => e = .returned (.tuple #[.int .i64 0, .int .i64 185]) ∧ Below w.heap.size w w' := by
  obtain ⟨W1, hW1⟩ : ∃ W1, w.alloc (.cells #[.int .u64 (k.1 : Int), .int .i64 k.2] 36) = W1 := ⟨_, rfl⟩
  have b1 : Below w.heap.size w W1 := by rw [← hW1]; exact (Below.refl _ w).alloc (Nat.le_refl _) _
  have C1 : Hid (W1.heap[w.heap.size]? = some (.cells #[.int .u64 (k.1 : Int), .int .i64 k.2] 36 (0, 0))) := by rw [← hW1]; exact alloc_atK _ _
  have HW1 := hide hW1
  have B1 := hide b1
  have HZ := hide (h.kept b1)
  have KC : Hid (∀ V, Hid (Below W1.heap.size W1 V) → V.cell? ⟨pt, 10, none⟩ = some (.map (some b)) ∧ pt < V.heap.size ∧ V.cell? ⟨w.heap.size, 0, none⟩ = some (.int .u64 (k.1 : Int)) ∧ V.cell? ⟨w.heap.size, 1, none⟩ = some (.int .i64 k.2) ∧ w.heap.size < V.heap.size) := fun V hV => by
    have c1 := (hV.out.block _ (block_lt C1.out)).trans C1.out
    exact ⟨(HZ.out.kept hV.out).cell, block_lt (HZ.out.kept hV.out).blk, block_cell c1 0, block_cell c1 1, block_lt c1⟩
  have KL : Hid (∀ V, Hid (Below W1.heap.size W1 V) → (Instr.lookup 112 (.map (some b)) (.agg #[.int .u64 (k.1 : Int), .int .i64 k.2]) false).run Try.prog V = .ok (.int .u32 ((m k : Nat) : Int)) V) := fun V hV => (HZ.out.kept hV.out).tm.look (Y := KB) (x := k) hk
  have HD1 : Hid (Below W1.heap.size W1 W1) := Below.refl _ _
  have HD : Hid (∀ V, Hid (Below W1.heap.size W1 V) → Hid (Below W1.heap.size W1 V.drew)) := fun V h => h.out.drew
  have KK : Hid (∀ V V', Hid (Below W1.heap.size W1 V) → Below V.heap.size V V' → Hid (Below W1.heap.size W1 V')) := fun V V' h h' => h.out.trans (h'.mono h.out.size)
  have KM : Hid (∀ V, Hid (Below W1.heap.size W1 V) → Calls Try.prog 67 #[.pointer (some ⟨pt, 0, none⟩)] V fun e V' => e = .returned (.bool true) ∧ V' = V) := fun V hV => zmade (HZ.out.kept hV.out).cell
  have KL2 : Hid (∀ V, Hid (Below W1.heap.size W1 V) → (Instr.lookup 112 (.map (some b)) (.agg #[.int .u64 (k.1 : Int), .int .i64 k.2]) true).run Try.prog V = .ok (.tuple #[.int .u32 ((m k : Nat) : Int), .bool (p k)]) V) := fun V hV => (HZ.out.kept hV.out).tm.look_ok (Y := KB) (x := k) hk
  have KN : Hid (∀ V, Hid (Below W1.heap.size W1 V) → Calls Try.prog 12 #[.pointer (some ⟨pt, 0, none⟩), .int .i64 nd] V fun e V' => e = .returned (.bool (c.node nd)) ∧ V' = V) := fun V hV => node_pc nd (HZ.out.kept hV.out).pc hok
  have KLn : Hid (∀ V, Hid (Below W1.heap.size W1 V) → ∀ ty, (Builtin.len_ #[112] ty #[.map (some b)]).run Try.prog V = .ok (.int .i64 (n : Nat)) V) := fun V hV ty => (HZ.out.kept hV.out).tm.len (Y := KB) ty
  rw [hn] at KN
  rw [hp] at KL2
  have hge : (n : Int) ≥ 64 := by omega
  clear h hk hW1 b1 hn hok KL hp h64
  generalize (n : Int) = n at *
  generalize ((m k : Nat) : Int) = x at *
  generalize (k.1 : Int) = kn at *
  generalize k.2 = km at *
  go_enter Try.func63, Try.ntmps63
  go_upto_region 1 with fail
  rw [HW1.out]
  clear HW1
  go_wp2_with fail
  refine (KM.out _ HD1).mono ?_
  rintro e w2 ⟨rfl, rfl⟩
  go_upto_region 3 with fail
  refine region_assign (fun V => Hid (Below w2.heap.size w2 V)) [(14, .pointer (some ⟨pt, 0, none⟩)), (15, .pointer (some ⟨pt, 0, none⟩)), (16, .pointer (some ⟨pt, 10, none⟩)), (17, .map (some b)), (18, .agg #[.int .u64 kn, .int .i64 km]), (19, .tuple #[.int .u32 x, .bool false]), (13, .tuple #[.int .u32 x, .bool false]), (20, .int .u32 x), (21, .bool false), (8, .int .u32 x), (9, .bool false)] _ (by kernel_rfl) (by kernel_rfl) (by kernel_rfl) (by kernel_rfl) rfl (HD.out _ HD1) ?_ (fun V1 HV1 => ?_)
  · simp only [putAll, Act.put, List.setIfInBounds_toArray, List.set_cons_zero, List.set_cons_succ]
    repeat' (first | exact AllTo.nil | refine AllTo.cons ?_ ?_)
    all_goals first
      | exact stepTo_no (by rfl) rfl
      | (refine stepTo_yes (by rfl) (fun V hV K hK => ?_)
         have q0 := KC.out V hV
         have q1 := KL2.out V hV
         go_simp
         first
           | exact hK.out _ hV)
  simp only [putAll, Act.put, List.setIfInBounds_toArray, List.set_cons_zero, List.set_cons_succ]
  have r0 := KC.out _ HV1
  go_wp2_with fail
  refine (KN.out _ HV1).mono ?_
  rintro e w3 ⟨rfl, rfl⟩
  have r1 := KLn.out _ HV1
  go_wp2
  go_ret2
  exact ⟨rfl, B1.out.trans (HV1.out.mono B1.out.size)⟩
set_option maxRecDepth 10000 in
set_option maxHeartbeats 1600000 in
theorem zspeak_ok {w : World} {pt b : Nat} {c : Cf} {n : Nat} {m : Nat × Int → Nat} {p : Nat × Int → Bool} (h : TZ w pt b c n m p) (hok : c.Ok) (k : Nat × Int) (hk : balOk k) (nd : Int) (hn : c.node nd = true) (h64 : p k = true ∨ n < 64) (hn0 : n ≤ 64) :
    Calls Try.prog 63 #[.pointer (some ⟨pt, 0, none⟩), .agg #[.int .u64 (k.1 : Int), .int .i64 k.2], .int .i64 nd] w fun e w' => e = .returned (.tuple #[.int .i64 ((countB (withB (m k) nd) : Nat) : Int), .int .i64 0]) ∧ Hid (TZ w' pt b c (upN (p k) n) (upd m k (withB (m k) nd)) (upd p k true) ∧ w.grownBy w' (some b)) := by
  obtain ⟨W1, hW1⟩ : ∃ W1, w.alloc (.cells #[.int .u64 (k.1 : Int), .int .i64 k.2] 36) = W1 := ⟨_, rfl⟩
  have b1 : Below w.heap.size w W1 := by rw [← hW1]; exact (Below.refl _ w).alloc (Nat.le_refl _) _
  have C1 : Hid (W1.heap[w.heap.size]? = some (.cells #[.int .u64 (k.1 : Int), .int .i64 k.2] 36 (0, 0))) := by rw [← hW1]; exact alloc_atK _ _
  have HW1 := hide hW1
  have B1 := hide b1
  have HZ := hide (h.kept b1)
  have KC : Hid (∀ V, Hid (Below W1.heap.size W1 V) → V.cell? ⟨pt, 10, none⟩ = some (.map (some b)) ∧ pt < V.heap.size ∧ V.cell? ⟨w.heap.size, 0, none⟩ = some (.int .u64 (k.1 : Int)) ∧ V.cell? ⟨w.heap.size, 1, none⟩ = some (.int .i64 k.2) ∧ w.heap.size < V.heap.size) := fun V hV => by
    have c1 := (hV.out.block _ (block_lt C1.out)).trans C1.out
    exact ⟨(HZ.out.kept hV.out).cell, block_lt (HZ.out.kept hV.out).blk, block_cell c1 0, block_cell c1 1, block_lt c1⟩
  have KL : Hid (∀ V, Hid (Below W1.heap.size W1 V) → (Instr.lookup 112 (.map (some b)) (.agg #[.int .u64 (k.1 : Int), .int .i64 k.2]) false).run Try.prog V = .ok (.int .u32 ((m k : Nat) : Int)) V) := fun V hV => (HZ.out.kept hV.out).tm.look (Y := KB) (x := k) hk
  have HD1 : Hid (Below W1.heap.size W1 W1) := Below.refl _ _
  have HD : Hid (∀ V, Hid (Below W1.heap.size W1 V) → Hid (Below W1.heap.size W1 V.drew)) := fun V h => h.out.drew
  have KK : Hid (∀ V V', Hid (Below W1.heap.size W1 V) → Below V.heap.size V V' → Hid (Below W1.heap.size W1 V')) := fun V V' h h' => h.out.trans (h'.mono h.out.size)
  have KM : Hid (∀ V, Hid (Below W1.heap.size W1 V) → Calls Try.prog 67 #[.pointer (some ⟨pt, 0, none⟩)] V fun e V' => e = .returned (.bool true) ∧ V' = V) := fun V hV => zmade (HZ.out.kept hV.out).cell
  have KL2 : Hid (∀ V, Hid (Below W1.heap.size W1 V) → (Instr.lookup 112 (.map (some b)) (.agg #[.int .u64 (k.1 : Int), .int .i64 k.2]) true).run Try.prog V = .ok (.tuple #[.int .u32 ((m k : Nat) : Int), .bool (p k)]) V) := fun V hV => (HZ.out.kept hV.out).tm.look_ok (Y := KB) (x := k) hk
  have KN : Hid (∀ V, Hid (Below W1.heap.size W1 V) → Calls Try.prog 12 #[.pointer (some ⟨pt, 0, none⟩), .int .i64 nd] V fun e V' => e = .returned (.bool (c.node nd)) ∧ V' = V) := fun V hV => node_pc nd (HZ.out.kept hV.out).pc hok
  have KLn : Hid (∀ V, Hid (Below W1.heap.size W1 V) → ∀ ty, (Builtin.len_ #[112] ty #[.map (some b)]).run Try.prog V = .ok (.int .i64 (n : Nat)) V) := fun V hV ty => (HZ.out.kept hV.out).tm.len (Y := KB) ty
  rw [hn] at KN
  have hwl := withB_lt (m k) nd (HZ.out.tm.small k)
  have KW := hide (fun V => with_any (m k) (HZ.out.tm.small k) nd V)
  have KCt := hide (fun V => count_any (withB (m k) nd) hwl V)
  obtain ⟨SD, hSD⟩ : ∃ SD : Bool → World → Prop, SD = fun d V => if d = true then ZG W1 pt b c (upN (p k) n) (upd m k (withB (m k) nd)) (upd p k true) V else ZG W1 pt b c n m p V := ⟨_, rfl⟩
  have HSD : ∀ d V, SD d V → W1.grownBy V (some b) ∧ ∃ n' m' p', TZ V pt b c n' m' p' := fun d V hV => by
    rw [hSD] at hV
    cases d with
    | true => exact ⟨hV.gr, _, _, _, hV.tz⟩
    | false => exact ⟨hV.gr, _, _, _, hV.tz⟩
  have KD : Hid (∀ d V, Hid (SD d V) → V.cell? ⟨pt, 10, none⟩ = some (.map (some b)) ∧ pt < V.heap.size ∧ V.cell? ⟨w.heap.size, 0, none⟩ = some (.int .u64 (k.1 : Int)) ∧ V.cell? ⟨w.heap.size, 1, none⟩ = some (.int .i64 k.2) ∧ w.heap.size < V.heap.size) := fun d V hV => by
    have hz := (HSD d V hV.out).2
    have hg := (HSD d V hV.out).1
    have hne : w.heap.size ≠ b := fun e => by
      obtain ⟨D, ⟨es, clock, h1, _⟩, _⟩ := HZ.out.tm
      have := C1.out
      rw [e, h1] at this
      cases this
    have c1 := (hg.block _ (block_lt C1.out) (fun e => hne (Option.some.inj e))).trans C1.out
    obtain ⟨n', m', p', hz⟩ := hz
    exact ⟨hz.cell, block_lt hz.blk, block_cell c1 0, block_cell c1 1, block_lt c1⟩
  have KE : Hid (∀ V, Hid (SD false V) → ∃ V', (Instr.mapUpdate 112 (.map (some b)) (.agg #[.int .u64 (k.1 : Int), .int .i64 k.2]) (.int .u32 ((withB (m k) nd : Nat) : Int))).run Try.prog V = .ok () V' ∧ Hid (SD true V')) := fun V hV => by
    have h0 : ZG W1 pt b c n m p V := by have := hV.out; rw [hSD] at this; exact this
    obtain ⟨V', h1, h2, h3⟩ := h0.tz.store k hk hn0 hwl
    exact ⟨V', h1, by show SD true V'; rw [hSD]; exact ⟨grown_trans' h0.gr h3, h2⟩⟩
  have SDB : Hid (∀ V, Hid (Below W1.heap.size W1 V) → Hid (SD false V.drew)) := fun V hV => by
    show SD false V.drew
    rw [hSD]
    exact ⟨below_grown hV.out.drew _, HZ.out.kept hV.out.drew⟩
  have FIN : Hid (∀ V V', SD true V → Below V.heap.size V V' → TZ V' pt b c (upN (p k) n) (upd m k (withB (m k) nd)) (upd p k true) ∧ w.grownBy V' (some b)) := fun V V' hV hb => by
    rw [hSD] at hV
    exact ⟨hV.tz.kept hb, grown_trans' (grown_trans' (below_grown B1.out _) hV.gr) (below_grown hb _)⟩
  have h64' : p k = false → ¬ (n : Int) ≥ 64 := fun h => by
    rcases h64 with h' | h'
    · rw [h] at h'; cases h'
    · omega
  clear h hk hW1 b1 hn hok KL hwl hSD HSD h64 hn0
  generalize upN (p k) n = n1 at *
  generalize upd m k (withB (m k) nd) = m1 at *
  generalize upd p k true = p1 at *
  generalize ((countB (withB (m k) nd) : Nat) : Int) = cn at *
  generalize ((withB (m k) nd : Nat) : Int) = x1 at *
  generalize p k = pk at *
  generalize (n : Int) = ni at *
  generalize ((m k : Nat) : Int) = x at *
  generalize (k.1 : Int) = kn at *
  generalize k.2 = km at *
  go_enter Try.func63, Try.ntmps63
  go_upto_region 1 with fail
  rw [HW1.out]
  clear HW1
  go_wp2_with fail
  refine (KM.out _ HD1).mono ?_
  rintro e w2 ⟨rfl, rfl⟩
  go_upto_region 3 with fail
  refine region_assign (fun V => Hid (Below w2.heap.size w2 V)) [(14, .pointer (some ⟨pt, 0, none⟩)), (15, .pointer (some ⟨pt, 0, none⟩)), (16, .pointer (some ⟨pt, 10, none⟩)), (17, .map (some b)), (18, .agg #[.int .u64 kn, .int .i64 km]), (19, .tuple #[.int .u32 x, .bool pk]), (13, .tuple #[.int .u32 x, .bool pk]), (20, .int .u32 x), (21, .bool pk), (8, .int .u32 x), (9, .bool pk)] _ (by kernel_rfl) (by kernel_rfl) (by kernel_rfl) (by kernel_rfl) rfl (HD.out _ HD1) ?_ (fun V1 HV1 => ?_)
  · simp only [putAll, Act.put, List.setIfInBounds_toArray, List.set_cons_zero, List.set_cons_succ]
    repeat' (first | exact AllTo.nil | refine AllTo.cons ?_ ?_)
    all_goals first
      | exact stepTo_no (by rfl) rfl
      | (refine stepTo_yes (by rfl) (fun V hV K hK => ?_)
         have q0 := KC.out V hV
         have q1 := KL2.out V hV
         go_simp
         first
           | exact hK.out _ hV)
  simp only [putAll, Act.put, List.setIfInBounds_toArray, List.set_cons_zero, List.set_cons_succ]
  have r0 := KC.out _ HV1
  go_wp2_with fail
  refine (KN.out _ HV1).mono ?_
  rintro e w3 ⟨rfl, rfl⟩
  have r1 := KLn.out _ HV1
  cases pk with
  | true =>
    clear h64'
    go_wp2_with fail
    refine (KW.out _).mono ?_
    rintro e w4 ⟨rfl, rfl⟩
    go_upto_region 9 with fail
    refine region_assign1 (fun d V => Hid (SD d V)) 6 [(43, .pointer (some ⟨pt, 0, none⟩)), (44, .pointer (some ⟨pt, 0, none⟩)), (45, .pointer (some ⟨pt, 10, none⟩)), (46, .map (some b)), (47, .agg #[.int .u64 kn, .int .i64 km]), (48, .int .u32 x1)] _ (by kernel_rfl) (by decide) (by kernel_rfl) (by kernel_rfl) (by kernel_rfl) rfl (SDB.out _ HV1) ?_ (fun V2 HV2 => ?_)
    · simp only [putAll, Act.put, List.setIfInBounds_toArray, List.set_cons_zero, List.set_cons_succ]
      repeat' (first | exact AllFro.nil | refine AllFro.at_ rfl ?_ ?_ | refine AllFro.off (by decide) ?_ ?_)
      all_goals first
        | (intro d
           refine stepTo_yes (by rfl) (fun V hV K hK => ?_)
           have q0 := KD.out d V hV
           go_simp
           exact hK.out _ hV)
        | (refine ⟨by rfl, fun V hV K hK => ?_⟩
           obtain ⟨V', q1, q2⟩ := KE.out V hV
           go_simp
           exact hK.out _ q2)
    simp only [putAll, Act.put, List.setIfInBounds_toArray, List.set_cons_zero, List.set_cons_succ]
    go_wp2_with fail
    refine (KCt.out _).mono ?_
    rintro e w5 ⟨rfl, b5⟩
    have FF := hide (FIN.out _ _ HV2.out b5)
    clear b5
    go_wp2
    go_ret2
    exact ⟨rfl, FF⟩
  | false =>
    have hlt := h64' rfl
    clear h64'
    go_wp2_with fail
    refine (KW.out _).mono ?_
    rintro e w4 ⟨rfl, rfl⟩
    go_upto_region 9 with fail
    refine region_assign1 (fun d V => Hid (SD d V)) 6 [(43, .pointer (some ⟨pt, 0, none⟩)), (44, .pointer (some ⟨pt, 0, none⟩)), (45, .pointer (some ⟨pt, 10, none⟩)), (46, .map (some b)), (47, .agg #[.int .u64 kn, .int .i64 km]), (48, .int .u32 x1)] _ (by kernel_rfl) (by decide) (by kernel_rfl) (by kernel_rfl) (by kernel_rfl) rfl (SDB.out _ HV1) ?_ (fun V2 HV2 => ?_)
    · simp only [putAll, Act.put, List.setIfInBounds_toArray, List.set_cons_zero, List.set_cons_succ]
      repeat' (first | exact AllFro.nil | refine AllFro.at_ rfl ?_ ?_ | refine AllFro.off (by decide) ?_ ?_)
      all_goals first
        | (intro d
           refine stepTo_yes (by rfl) (fun V hV K hK => ?_)
           have q0 := KD.out d V hV
           go_simp
           exact hK.out _ hV)
        | (refine ⟨by rfl, fun V hV K hK => ?_⟩
           obtain ⟨V', q1, q2⟩ := KE.out V hV
           go_simp
           exact hK.out _ q2)
    simp only [putAll, Act.put, List.setIfInBounds_toArray, List.set_cons_zero, List.set_cons_succ]
    go_wp2_with fail
    refine (KCt.out _).mono ?_
    rintro e w5 ⟨rfl, b5⟩
    have FF := hide (FIN.out _ _ HV2.out b5)
    clear b5
    go_wp2
    go_ret2
    exact ⟨rfl, FF⟩
end Go.Proofs.Ythfiafjhnidlkaa
