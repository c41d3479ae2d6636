import Derived.Test.YtgeacmhofgnkfaaLNobH
namespace Go.Proofs.Ytgeacmhofgnkfaa
open Go.RowKit

theorem grown_cell {w W : World} {r : Nat} (h : w.grownBy W (some r)) {a : Addr} {v : Value} (hv : w.cell? a = some v) (hne : a.block ≠ r) : W.cell? a = some v := by
  have hb := h.block a.block (World.block_lt_of_cell? w a hv) (fun e => hne (Option.some.inj e))
  simpa [World.cell?, hb] using hv

set_option maxRecDepth 10000 in
set_option maxHeartbeats 800000 in
theorem lwrite_one {w : World} {p : Nat} (kind from_ to_ amount : Int) (c3 : w.cell? ⟨p, 3, none⟩ = some (.int .u64 1))
    (c9 : w.cell? ⟨p, 9, none⟩ = some (.int .u64 0)) (c10 : w.cell? ⟨p, 10, none⟩ = some (.int .i64 0)) (c11 : w.cell? ⟨p, 11, none⟩ = some (.int .u64 0)) (c12 : w.cell? ⟨p, 12, none⟩ = some (.int .u64 0)) (c13 : w.cell? ⟨p, 13, none⟩ = some (.int .u64 0))
    (c324 : w.cell? ⟨p, 324, none⟩ = some (.slice none 0 0)) (hf : ∀ k, w.frozen? ⟨p, k, none⟩ = false) :
    Calls Try.prog 21 #[.pointer (some ⟨p, 0, none⟩), .int .i64 kind, .int .u64 from_, .int .u64 to_, .int .u64 amount] w fun e w' => e = .returned (.tuple #[]) ∧ w.grownBy w' (some p) := by
  have HJ := hide (jwrite_one (w := w.drew) (p := p) kind from_ to_ amount c3 c9 c10 c11 c12 c13 c324 hf)
  clear c3 c9 c10 c11 c12 c13 c324 hf
  go_enter Try.func21, Try.ntmps21
  go_region_with (first | (go_at_call 41; refine HJ.out.mono ?_; rintro e w1 ⟨fn, fi, ca, rfl, h1, HG⟩; have HG := hide HG; have HN := hide (note_none h1 fn fi ca); clear h1) | (go_at_call 39; refine HN.out.mono ?_; rintro e w2 ⟨rfl, rfl⟩))
  go_wp2
  go_end0
  have h := HG.out
  exact ⟨rfl, ⟨h.os, h.tape, h.output, h.size, h.block⟩⟩

set_option maxRecDepth 10000 in
set_option maxHeartbeats 800000 in
theorem setacc_one {w : World} {p a : Nat} (c1 : w.cell? ⟨p, 1, none⟩ = some (.map (some a))) (c324 : w.cell? ⟨p, 324, none⟩ = some (.slice none 0 0)) (ha : w.heap[a]? = some (.map #[] 0)) (hpa : p ≠ a) :
    Calls Try.prog 20 #[.pointer (some ⟨p, 0, none⟩), .agg #[.int .u64 1, .int .u64 1, .int .u64 0, .int .u64 1]] w fun e w' => e = .returned (.tuple #[]) ∧ w.grownBy w' (some a) := by
  have hlt : p < w.heap.size := World.block_lt_of_cell? w ⟨p, 1, none⟩ c1
  have hla : a < w.heap.size := (Array.getElem?_eq_some_iff.1 ha).1
  have HP : Hid (Calls Try.prog 40 #[.map (some a), .int .u64 1, .agg #[.int .u64 1, .int .u64 1, .int .u64 0, .int .u64 1]] (w.alloc (.cells #[.int .u64 1, .int .u64 1, .int .u64 0, .int .u64 1] 51)).drew fun e w' => ∃ fn fi ca, e = .returned (.func fn fi ca) ∧ w'.cell? ⟨p, 1, none⟩ = some (.map (some a)) ∧ (w'.cell? ⟨w.heap.size, 0, none⟩ = some (.int .u64 1) ∧ w'.cell? ⟨w.heap.size, 1, none⟩ = some (.int .u64 1) ∧ w'.cell? ⟨w.heap.size, 2, none⟩ = some (.int .u64 0) ∧ w'.cell? ⟨w.heap.size, 3, none⟩ = some (.int .u64 1)) ∧ Hid (w'.cell? ⟨p, 324, none⟩ = some (.slice none 0 0) ∧ w.grownBy w' (some a))) := by
    have hg0 := World.grownBy_alloc w (.cells #[.int .u64 1, .int .u64 1, .int .u64 0, .int .u64 1] 51) (some a)
    have hm : (w.alloc (.cells #[.int .u64 1, .int .u64 1, .int .u64 0, .int .u64 1] 51)).drew.heap[a]? = some (.map #[] 0) := ((World.grownBy_alloc w (.cells #[.int .u64 1, .int .u64 1, .int .u64 0, .int .u64 1] 51) none).block a hla (by simp)).trans ha
    refine (put_new hm).mono ?_
    rintro e w' ⟨fn, fi, ca, rfl, hg⟩
    have hnew : ∀ k v, (#[Value.int .u64 1, .int .u64 1, .int .u64 0, .int .u64 1])[k]? = some v → w'.cell? ⟨w.heap.size, k, none⟩ = some v := fun k v hv => grown_cell hg (a := ⟨w.heap.size, k, none⟩) ((World.cell?_alloc_new w _ _ _).trans hv) (by simp; omega)
    have hold : ∀ b v, w.cell? b = some v → b.block ≠ a → w'.cell? b = some v := fun b v hv hb => grown_cell hg ((World.cell?_alloc_lt w _ _ (World.block_lt_of_cell? w b hv)).trans hv) hb
    exact ⟨fn, fi, ca, rfl, hold _ _ c1 hpa, ⟨hnew 0 _ rfl, hnew 1 _ rfl, hnew 2 _ rfl, hnew 3 _ rfl⟩, hold _ _ c324 hpa, ⟨hg.os.trans hg0.os, hg.tape.trans hg0.tape, hg.output.trans hg0.output, Nat.le_trans hg0.size hg.size, fun k hk hne => (hg.block k (Nat.lt_of_lt_of_le hk hg0.size) hne).trans (hg0.block k hk hne)⟩⟩
  clear c324 ha hla
  go_enter Try.func20, Try.ntmps20
  go_wp2_with fail
  go_region_held (fun w' => w'.cell? ⟨p, 1, none⟩ = some (.map (some a)) ∧ (w'.cell? ⟨w.heap.size, 0, none⟩ = some (.int .u64 1) ∧ w'.cell? ⟨w.heap.size, 1, none⟩ = some (.int .u64 1) ∧ w'.cell? ⟨w.heap.size, 2, none⟩ = some (.int .u64 0) ∧ w'.cell? ⟨w.heap.size, 3, none⟩ = some (.int .u64 1))) (go_keep)
    (first | (go_at_call 40; refine HP.out.mono ?_; rintro e w1 ⟨fn, fi, ca, rfl, h1, h2, HG⟩; have HN := hide (note_none HG.out.1 fn fi ca)) | (go_at_call 39; refine HN.out.mono ?_; rintro e w2 ⟨rfl, rfl⟩))
  go_wp2
  go_end0
  exact ⟨rfl, HG.out.2⟩
end Go.Proofs.Ytgeacmhofgnkfaa
