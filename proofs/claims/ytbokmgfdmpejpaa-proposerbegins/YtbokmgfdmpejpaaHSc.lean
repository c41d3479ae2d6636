import Derived.Test.YtbokmgfdmpejpaaHSa
import Derived.Test.YtbokmgfdmpejpaaHSb
import Derived.Test.YtbokmgfdmpejpaaHSe
import Derived.Test.YtbokmgfdmpejpaaHSf
namespace Go.Proofs.Ytbokmgfdmpejpaa
open Go.RowKit

set_option maxRecDepth 100000 in
set_option maxHeartbeats 8000000 in
theorem state_pp {w : World} {p g : Nat} {c : Cf} {me : Int} {n : Nat} {m : Int} (h : PP w p g c me n m) : Calls Try.prog 14 #[.pointer (some ⟨p, 0, none⟩)] w fun e w' => e = .returned (.agg (scells n m)) ∧ Hid (Below w.heap.size w w') := by
  obtain ⟨W1, hW1⟩ : ∃ W1, w.alloc (.cells #[.int .i64 0, .int .u64 0, .int .i64 0, .int .u64 0, .slice none 0 0, .slice none 0 0, .slice none 0 0, .slice none 0 0, .bool false, .int .u64 0] 70) = W1 := ⟨_, rfl⟩
  have b1 : Below w.heap.size w W1 := by rw [← hW1]; exact (Below.refl _ w).alloc (Nat.le_refl _) _
  have C1 : Hid (W1.heap[w.heap.size]? = some (.cells #[.int .i64 0, .int .u64 0, .int .i64 0, .int .u64 0, .slice none 0 0, .slice none 0 0, .slice none 0 0, .slice none 0 0, .bool false, .int .u64 0] 70 (0, 0))) := by rw [← hW1]; exact alloc_atK _ _
  have HP := hide (h.kept b1)
  have B1 := hide b1
  have HMD := hide (made_pp HP.out)
  have HW1 := hide hW1
  clear h b1 hW1
  unfold scells
  go_enter Try.func14, Try.ntmps14
  go_upto_region 1 with fail
  rw [HW1.out]
  clear HW1
  go_wp2_with fail
  refine HMD.out.mono ?_
  rintro e w2 ⟨rfl, rfl⟩
  clear HMD
  go_upto_region 3 with fail
  refine st_reg3 (HP.out.cell 2) (HP.out.cell 3) (HP.out.cell 4) (HP.out.cell 5) (HP.out.cell 30) (HP.out.cell 31) (block_lt HP.out.blk) ?_
  have SS3 : Hid (SS w p g c me n m w2.heap.size (w2.drew.alloc (.cells #[.int .i64 0, .int .u64 (n : Nat), .int .i64 m, .int .u64 0, .slice none 0 0, .slice none 0 0, .slice none 0 0, .slice none 0 0, .bool false, .int .u64 0] 70))) := by
    have b3 : Below w2.heap.size w2 (w2.drew.alloc (.cells #[.int .i64 0, .int .u64 (n : Nat), .int .i64 m, .int .u64 0, .slice none 0 0, .slice none 0 0, .slice none 0 0, .slice none 0 0, .bool false, .int .u64 0] 70)) := (Below.refl _ w2).drew.alloc (Nat.le_refl _) _
    exact ⟨HP.out.kept b3, alloc_atK _ _, (b3.block _ (block_lt C1.out)).trans C1.out, B1.out.trans (b3.mono B1.out.size), B1.out.size, by have := block_lt C1.out; omega⟩
  clear HP C1 B1
  generalize (w2.drew.alloc (.cells #[.int .i64 0, .int .u64 (n : Nat), .int .i64 m, .int .u64 0, .slice none 0 0, .slice none 0 0, .slice none 0 0, .slice none 0 0, .bool false, .int .u64 0] 70)) = W3 at *
  generalize w2.heap.size = ps at *
  go_upto_region 4 with fail
  refine st_reg4 SS3 (fun V4 HV4 => ?_)
  clear SS3
  go_upto_region 5 with fail
  refine st_reg5 (proms_at HV4.out.pp) proms_size ?_
  go_wp2_with fail
  change Code.wp Try.prog stLoop _ _ _
  refine st_loop ix_prom HV4 (fun e4 e5 e61 e62 e63 e64 e65 e66 e67 e68 e69 e70 e71 e72 e73 e74 e75 e76 e77 e78 e79 V5 HV5 => ?_)
  clear HV4
  go_upto_region 11 with fail
  refine st_reg11 HV5 (fun V6 HV6 => ?_)
  have x := HV6.out.1
  unfold scells at x
  have x0 := block_cell x 0
  have x1 := block_cell x 1
  have x2 := block_cell x 2
  have x3 := block_cell x 3
  have x4 := block_cell x 4
  have x5 := block_cell x 5
  have x6 := block_cell x 6
  have x7 := block_cell x 7
  have x8 := block_cell x 8
  have x9 := block_cell x 9
  simp at x0 x1 x2 x3 x4 x5 x6 x7 x8 x9
  go_wp2
  exact bodyPost_ret (v := .agg #[.int .i64 0, .int .u64 (n : Nat), .int .i64 m, .int .u64 0, .slice none 0 0, .slice none 0 0, .slice none 0 0, .slice none 0 0, .bool false, .int .u64 0]) (by simp [results, Try.results14, go_sem, x0, x1, x2, x3, x4, x5, x6, x7, x8, x9]) rfl ⟨rfl, HV6.out.2⟩
end Go.Proofs.Ytbokmgfdmpejpaa
