import Derived.Test.YtcfenjpdjogmdaaLT13
namespace Go.Proofs.Ytcfenjpdjogmdaa
open Go.RowKit
set_option maxRecDepth 10000 in
theorem len64Z_1 (w : World) : Calls Try.prog 93 #[.int .u64 1] w fun e w' => e = .returned (.int .i64 1) ∧ w' = w := by
  go_enter Try.func93, Try.ntmps93
  go_wp2
  go_ret
  exact ⟨by kernel_rfl, rfl⟩
set_option maxRecDepth 10000 in
theorem len64Z_2 (w : World) : Calls Try.prog 93 #[.int .u64 2] w fun e w' => e = .returned (.int .i64 2) ∧ w' = w := by
  go_enter Try.func93, Try.ntmps93
  go_wp2
  go_ret
  exact ⟨by kernel_rfl, rfl⟩
set_option maxRecDepth 10000 in
theorem len64Z_3 (w : World) : Calls Try.prog 93 #[.int .u64 3] w fun e w' => e = .returned (.int .i64 2) ∧ w' = w := by
  go_enter Try.func93, Try.ntmps93
  go_wp2
  go_ret
  exact ⟨by kernel_rfl, rfl⟩
set_option maxRecDepth 10000 in
theorem len64Z_4 (w : World) : Calls Try.prog 93 #[.int .u64 4] w fun e w' => e = .returned (.int .i64 3) ∧ w' = w := by
  go_enter Try.func93, Try.ntmps93
  go_wp2
  go_ret
  exact ⟨by kernel_rfl, rfl⟩
set_option maxRecDepth 10000 in
theorem len64Z_5 (w : World) : Calls Try.prog 93 #[.int .u64 5] w fun e w' => e = .returned (.int .i64 3) ∧ w' = w := by
  go_enter Try.func93, Try.ntmps93
  go_wp2
  go_ret
  exact ⟨by kernel_rfl, rfl⟩
set_option maxRecDepth 10000 in
theorem len64Z_6 (w : World) : Calls Try.prog 93 #[.int .u64 6] w fun e w' => e = .returned (.int .i64 3) ∧ w' = w := by
  go_enter Try.func93, Try.ntmps93
  go_wp2
  go_ret
  exact ⟨by kernel_rfl, rfl⟩
set_option maxRecDepth 10000 in
theorem len64Z_7 (w : World) : Calls Try.prog 93 #[.int .u64 7] w fun e w' => e = .returned (.int .i64 3) ∧ w' = w := by
  go_enter Try.func93, Try.ntmps93
  go_wp2
  go_ret
  exact ⟨by kernel_rfl, rfl⟩
set_option maxRecDepth 10000 in
theorem len64Z_8 (w : World) : Calls Try.prog 93 #[.int .u64 8] w fun e w' => e = .returned (.int .i64 4) ∧ w' = w := by
  go_enter Try.func93, Try.ntmps93
  go_wp2
  go_ret
  exact ⟨by kernel_rfl, rfl⟩
set_option maxRecDepth 10000 in
theorem len64Z_9 (w : World) : Calls Try.prog 93 #[.int .u64 9] w fun e w' => e = .returned (.int .i64 4) ∧ w' = w := by
  go_enter Try.func93, Try.ntmps93
  go_wp2
  go_ret
  exact ⟨by kernel_rfl, rfl⟩
set_option maxRecDepth 10000 in
theorem len64Z_10 (w : World) : Calls Try.prog 93 #[.int .u64 10] w fun e w' => e = .returned (.int .i64 4) ∧ w' = w := by
  go_enter Try.func93, Try.ntmps93
  go_wp2
  go_ret
  exact ⟨by kernel_rfl, rfl⟩
set_option maxRecDepth 10000 in
theorem len64Z_11 (w : World) : Calls Try.prog 93 #[.int .u64 11] w fun e w' => e = .returned (.int .i64 4) ∧ w' = w := by
  go_enter Try.func93, Try.ntmps93
  go_wp2
  go_ret
  exact ⟨by kernel_rfl, rfl⟩
set_option maxRecDepth 10000 in
theorem len64Z_12 (w : World) : Calls Try.prog 93 #[.int .u64 12] w fun e w' => e = .returned (.int .i64 4) ∧ w' = w := by
  go_enter Try.func93, Try.ntmps93
  go_wp2
  go_ret
  exact ⟨by kernel_rfl, rfl⟩
set_option maxRecDepth 10000 in
theorem len64Z_13 (w : World) : Calls Try.prog 93 #[.int .u64 13] w fun e w' => e = .returned (.int .i64 4) ∧ w' = w := by
  go_enter Try.func93, Try.ntmps93
  go_wp2
  go_ret
  exact ⟨by kernel_rfl, rfl⟩
set_option maxRecDepth 10000 in
theorem len64Z_14 (w : World) : Calls Try.prog 93 #[.int .u64 14] w fun e w' => e = .returned (.int .i64 4) ∧ w' = w := by
  go_enter Try.func93, Try.ntmps93
  go_wp2
  go_ret
  exact ⟨by kernel_rfl, rfl⟩
set_option maxRecDepth 10000 in
theorem len64Z_15 (w : World) : Calls Try.prog 93 #[.int .u64 15] w fun e w' => e = .returned (.int .i64 4) ∧ w' = w := by
  go_enter Try.func93, Try.ntmps93
  go_wp2
  go_ret
  exact ⟨by kernel_rfl, rfl⟩
set_option maxRecDepth 10000 in
theorem len64Z_16 (w : World) : Calls Try.prog 93 #[.int .u64 16] w fun e w' => e = .returned (.int .i64 5) ∧ w' = w := by
  go_enter Try.func93, Try.ntmps93
  go_wp2
  go_ret
  exact ⟨by kernel_rfl, rfl⟩
set_option maxRecDepth 10000 in
theorem len64Z_17 (w : World) : Calls Try.prog 93 #[.int .u64 17] w fun e w' => e = .returned (.int .i64 5) ∧ w' = w := by
  go_enter Try.func93, Try.ntmps93
  go_wp2
  go_ret
  exact ⟨by kernel_rfl, rfl⟩
set_option maxRecDepth 10000 in
theorem len64Z_18 (w : World) : Calls Try.prog 93 #[.int .u64 18] w fun e w' => e = .returned (.int .i64 5) ∧ w' = w := by
  go_enter Try.func93, Try.ntmps93
  go_wp2
  go_ret
  exact ⟨by kernel_rfl, rfl⟩
set_option maxRecDepth 10000 in
theorem len64Z_19 (w : World) : Calls Try.prog 93 #[.int .u64 19] w fun e w' => e = .returned (.int .i64 5) ∧ w' = w := by
  go_enter Try.func93, Try.ntmps93
  go_wp2
  go_ret
  exact ⟨by kernel_rfl, rfl⟩
set_option maxRecDepth 10000 in
theorem len64Z_20 (w : World) : Calls Try.prog 93 #[.int .u64 20] w fun e w' => e = .returned (.int .i64 5) ∧ w' = w := by
  go_enter Try.func93, Try.ntmps93
  go_wp2
  go_ret
  exact ⟨by kernel_rfl, rfl⟩
set_option maxRecDepth 10000 in
theorem len64Z_21 (w : World) : Calls Try.prog 93 #[.int .u64 21] w fun e w' => e = .returned (.int .i64 5) ∧ w' = w := by
  go_enter Try.func93, Try.ntmps93
  go_wp2
  go_ret
  exact ⟨by kernel_rfl, rfl⟩
set_option maxRecDepth 10000 in
theorem len64Z_22 (w : World) : Calls Try.prog 93 #[.int .u64 22] w fun e w' => e = .returned (.int .i64 5) ∧ w' = w := by
  go_enter Try.func93, Try.ntmps93
  go_wp2
  go_ret
  exact ⟨by kernel_rfl, rfl⟩
set_option maxRecDepth 10000 in
theorem len64Z_23 (w : World) : Calls Try.prog 93 #[.int .u64 23] w fun e w' => e = .returned (.int .i64 5) ∧ w' = w := by
  go_enter Try.func93, Try.ntmps93
  go_wp2
  go_ret
  exact ⟨by kernel_rfl, rfl⟩
set_option maxRecDepth 10000 in
theorem len64Z_24 (w : World) : Calls Try.prog 93 #[.int .u64 24] w fun e w' => e = .returned (.int .i64 5) ∧ w' = w := by
  go_enter Try.func93, Try.ntmps93
  go_wp2
  go_ret
  exact ⟨by kernel_rfl, rfl⟩
set_option maxRecDepth 10000 in
theorem len64Z_25 (w : World) : Calls Try.prog 93 #[.int .u64 25] w fun e w' => e = .returned (.int .i64 5) ∧ w' = w := by
  go_enter Try.func93, Try.ntmps93
  go_wp2
  go_ret
  exact ⟨by kernel_rfl, rfl⟩
set_option maxRecDepth 10000 in
theorem len64Z_26 (w : World) : Calls Try.prog 93 #[.int .u64 26] w fun e w' => e = .returned (.int .i64 5) ∧ w' = w := by
  go_enter Try.func93, Try.ntmps93
  go_wp2
  go_ret
  exact ⟨by kernel_rfl, rfl⟩
set_option maxRecDepth 10000 in
theorem len64Z_27 (w : World) : Calls Try.prog 93 #[.int .u64 27] w fun e w' => e = .returned (.int .i64 5) ∧ w' = w := by
  go_enter Try.func93, Try.ntmps93
  go_wp2
  go_ret
  exact ⟨by kernel_rfl, rfl⟩
set_option maxRecDepth 10000 in
theorem len64Z_28 (w : World) : Calls Try.prog 93 #[.int .u64 28] w fun e w' => e = .returned (.int .i64 5) ∧ w' = w := by
  go_enter Try.func93, Try.ntmps93
  go_wp2
  go_ret
  exact ⟨by kernel_rfl, rfl⟩
set_option maxRecDepth 10000 in
theorem len64Z_29 (w : World) : Calls Try.prog 93 #[.int .u64 29] w fun e w' => e = .returned (.int .i64 5) ∧ w' = w := by
  go_enter Try.func93, Try.ntmps93
  go_wp2
  go_ret
  exact ⟨by kernel_rfl, rfl⟩
set_option maxRecDepth 10000 in
theorem len64Z_30 (w : World) : Calls Try.prog 93 #[.int .u64 30] w fun e w' => e = .returned (.int .i64 5) ∧ w' = w := by
  go_enter Try.func93, Try.ntmps93
  go_wp2
  go_ret
  exact ⟨by kernel_rfl, rfl⟩
set_option maxRecDepth 10000 in
theorem len64Z_31 (w : World) : Calls Try.prog 93 #[.int .u64 31] w fun e w' => e = .returned (.int .i64 5) ∧ w' = w := by
  go_enter Try.func93, Try.ntmps93
  go_wp2
  go_ret
  exact ⟨by kernel_rfl, rfl⟩
set_option maxRecDepth 10000 in
theorem len64Z_32 (w : World) : Calls Try.prog 93 #[.int .u64 32] w fun e w' => e = .returned (.int .i64 6) ∧ w' = w := by
  go_enter Try.func93, Try.ntmps93
  go_wp2
  go_ret
  exact ⟨by kernel_rfl, rfl⟩
set_option maxRecDepth 10000 in
theorem len64Z_33 (w : World) : Calls Try.prog 93 #[.int .u64 33] w fun e w' => e = .returned (.int .i64 6) ∧ w' = w := by
  go_enter Try.func93, Try.ntmps93
  go_wp2
  go_ret
  exact ⟨by kernel_rfl, rfl⟩
set_option maxRecDepth 10000 in
theorem len64Z_34 (w : World) : Calls Try.prog 93 #[.int .u64 34] w fun e w' => e = .returned (.int .i64 6) ∧ w' = w := by
  go_enter Try.func93, Try.ntmps93
  go_wp2
  go_ret
  exact ⟨by kernel_rfl, rfl⟩
set_option maxRecDepth 10000 in
theorem len64Z_35 (w : World) : Calls Try.prog 93 #[.int .u64 35] w fun e w' => e = .returned (.int .i64 6) ∧ w' = w := by
  go_enter Try.func93, Try.ntmps93
  go_wp2
  go_ret
  exact ⟨by kernel_rfl, rfl⟩
set_option maxRecDepth 10000 in
theorem len64Z_36 (w : World) : Calls Try.prog 93 #[.int .u64 36] w fun e w' => e = .returned (.int .i64 6) ∧ w' = w := by
  go_enter Try.func93, Try.ntmps93
  go_wp2
  go_ret
  exact ⟨by kernel_rfl, rfl⟩
set_option maxRecDepth 10000 in
theorem len64Z_37 (w : World) : Calls Try.prog 93 #[.int .u64 37] w fun e w' => e = .returned (.int .i64 6) ∧ w' = w := by
  go_enter Try.func93, Try.ntmps93
  go_wp2
  go_ret
  exact ⟨by kernel_rfl, rfl⟩
set_option maxRecDepth 10000 in
theorem len64Z_38 (w : World) : Calls Try.prog 93 #[.int .u64 38] w fun e w' => e = .returned (.int .i64 6) ∧ w' = w := by
  go_enter Try.func93, Try.ntmps93
  go_wp2
  go_ret
  exact ⟨by kernel_rfl, rfl⟩
set_option maxRecDepth 10000 in
theorem len64Z_39 (w : World) : Calls Try.prog 93 #[.int .u64 39] w fun e w' => e = .returned (.int .i64 6) ∧ w' = w := by
  go_enter Try.func93, Try.ntmps93
  go_wp2
  go_ret
  exact ⟨by kernel_rfl, rfl⟩
set_option maxRecDepth 10000 in
theorem len64Z_40 (w : World) : Calls Try.prog 93 #[.int .u64 40] w fun e w' => e = .returned (.int .i64 6) ∧ w' = w := by
  go_enter Try.func93, Try.ntmps93
  go_wp2
  go_ret
  exact ⟨by kernel_rfl, rfl⟩
set_option maxRecDepth 10000 in
theorem len64Z_41 (w : World) : Calls Try.prog 93 #[.int .u64 41] w fun e w' => e = .returned (.int .i64 6) ∧ w' = w := by
  go_enter Try.func93, Try.ntmps93
  go_wp2
  go_ret
  exact ⟨by kernel_rfl, rfl⟩
set_option maxRecDepth 10000 in
theorem len64Z_42 (w : World) : Calls Try.prog 93 #[.int .u64 42] w fun e w' => e = .returned (.int .i64 6) ∧ w' = w := by
  go_enter Try.func93, Try.ntmps93
  go_wp2
  go_ret
  exact ⟨by kernel_rfl, rfl⟩
set_option maxRecDepth 10000 in
theorem len64Z_43 (w : World) : Calls Try.prog 93 #[.int .u64 43] w fun e w' => e = .returned (.int .i64 6) ∧ w' = w := by
  go_enter Try.func93, Try.ntmps93
  go_wp2
  go_ret
  exact ⟨by kernel_rfl, rfl⟩
set_option maxRecDepth 10000 in
theorem len64Z_44 (w : World) : Calls Try.prog 93 #[.int .u64 44] w fun e w' => e = .returned (.int .i64 6) ∧ w' = w := by
  go_enter Try.func93, Try.ntmps93
  go_wp2
  go_ret
  exact ⟨by kernel_rfl, rfl⟩
set_option maxRecDepth 10000 in
theorem len64Z_45 (w : World) : Calls Try.prog 93 #[.int .u64 45] w fun e w' => e = .returned (.int .i64 6) ∧ w' = w := by
  go_enter Try.func93, Try.ntmps93
  go_wp2
  go_ret
  exact ⟨by kernel_rfl, rfl⟩
set_option maxRecDepth 10000 in
theorem len64Z_46 (w : World) : Calls Try.prog 93 #[.int .u64 46] w fun e w' => e = .returned (.int .i64 6) ∧ w' = w := by
  go_enter Try.func93, Try.ntmps93
  go_wp2
  go_ret
  exact ⟨by kernel_rfl, rfl⟩
set_option maxRecDepth 10000 in
theorem len64Z_47 (w : World) : Calls Try.prog 93 #[.int .u64 47] w fun e w' => e = .returned (.int .i64 6) ∧ w' = w := by
  go_enter Try.func93, Try.ntmps93
  go_wp2
  go_ret
  exact ⟨by kernel_rfl, rfl⟩
set_option maxRecDepth 10000 in
theorem len64Z_48 (w : World) : Calls Try.prog 93 #[.int .u64 48] w fun e w' => e = .returned (.int .i64 6) ∧ w' = w := by
  go_enter Try.func93, Try.ntmps93
  go_wp2
  go_ret
  exact ⟨by kernel_rfl, rfl⟩
set_option maxRecDepth 10000 in
theorem len64Z_49 (w : World) : Calls Try.prog 93 #[.int .u64 49] w fun e w' => e = .returned (.int .i64 6) ∧ w' = w := by
  go_enter Try.func93, Try.ntmps93
  go_wp2
  go_ret
  exact ⟨by kernel_rfl, rfl⟩
set_option maxRecDepth 10000 in
theorem len64Z_50 (w : World) : Calls Try.prog 93 #[.int .u64 50] w fun e w' => e = .returned (.int .i64 6) ∧ w' = w := by
  go_enter Try.func93, Try.ntmps93
  go_wp2
  go_ret
  exact ⟨by kernel_rfl, rfl⟩
set_option maxRecDepth 10000 in
theorem len64Z_51 (w : World) : Calls Try.prog 93 #[.int .u64 51] w fun e w' => e = .returned (.int .i64 6) ∧ w' = w := by
  go_enter Try.func93, Try.ntmps93
  go_wp2
  go_ret
  exact ⟨by kernel_rfl, rfl⟩
set_option maxRecDepth 10000 in
theorem len64Z_52 (w : World) : Calls Try.prog 93 #[.int .u64 52] w fun e w' => e = .returned (.int .i64 6) ∧ w' = w := by
  go_enter Try.func93, Try.ntmps93
  go_wp2
  go_ret
  exact ⟨by kernel_rfl, rfl⟩
set_option maxRecDepth 10000 in
theorem len64Z_53 (w : World) : Calls Try.prog 93 #[.int .u64 53] w fun e w' => e = .returned (.int .i64 6) ∧ w' = w := by
  go_enter Try.func93, Try.ntmps93
  go_wp2
  go_ret
  exact ⟨by kernel_rfl, rfl⟩
set_option maxRecDepth 10000 in
theorem len64Z_54 (w : World) : Calls Try.prog 93 #[.int .u64 54] w fun e w' => e = .returned (.int .i64 6) ∧ w' = w := by
  go_enter Try.func93, Try.ntmps93
  go_wp2
  go_ret
  exact ⟨by kernel_rfl, rfl⟩
set_option maxRecDepth 10000 in
theorem len64Z_55 (w : World) : Calls Try.prog 93 #[.int .u64 55] w fun e w' => e = .returned (.int .i64 6) ∧ w' = w := by
  go_enter Try.func93, Try.ntmps93
  go_wp2
  go_ret
  exact ⟨by kernel_rfl, rfl⟩
set_option maxRecDepth 10000 in
theorem len64Z_56 (w : World) : Calls Try.prog 93 #[.int .u64 56] w fun e w' => e = .returned (.int .i64 6) ∧ w' = w := by
  go_enter Try.func93, Try.ntmps93
  go_wp2
  go_ret
  exact ⟨by kernel_rfl, rfl⟩
set_option maxRecDepth 10000 in
theorem len64Z_57 (w : World) : Calls Try.prog 93 #[.int .u64 57] w fun e w' => e = .returned (.int .i64 6) ∧ w' = w := by
  go_enter Try.func93, Try.ntmps93
  go_wp2
  go_ret
  exact ⟨by kernel_rfl, rfl⟩
set_option maxRecDepth 10000 in
theorem len64Z_58 (w : World) : Calls Try.prog 93 #[.int .u64 58] w fun e w' => e = .returned (.int .i64 6) ∧ w' = w := by
  go_enter Try.func93, Try.ntmps93
  go_wp2
  go_ret
  exact ⟨by kernel_rfl, rfl⟩
set_option maxRecDepth 10000 in
theorem len64Z_59 (w : World) : Calls Try.prog 93 #[.int .u64 59] w fun e w' => e = .returned (.int .i64 6) ∧ w' = w := by
  go_enter Try.func93, Try.ntmps93
  go_wp2
  go_ret
  exact ⟨by kernel_rfl, rfl⟩
set_option maxRecDepth 10000 in
theorem len64Z_60 (w : World) : Calls Try.prog 93 #[.int .u64 60] w fun e w' => e = .returned (.int .i64 6) ∧ w' = w := by
  go_enter Try.func93, Try.ntmps93
  go_wp2
  go_ret
  exact ⟨by kernel_rfl, rfl⟩
set_option maxRecDepth 10000 in
theorem len64Z_61 (w : World) : Calls Try.prog 93 #[.int .u64 61] w fun e w' => e = .returned (.int .i64 6) ∧ w' = w := by
  go_enter Try.func93, Try.ntmps93
  go_wp2
  go_ret
  exact ⟨by kernel_rfl, rfl⟩
set_option maxRecDepth 10000 in
theorem len64Z_62 (w : World) : Calls Try.prog 93 #[.int .u64 62] w fun e w' => e = .returned (.int .i64 6) ∧ w' = w := by
  go_enter Try.func93, Try.ntmps93
  go_wp2
  go_ret
  exact ⟨by kernel_rfl, rfl⟩
set_option maxRecDepth 10000 in
theorem len64Z_63 (w : World) : Calls Try.prog 93 #[.int .u64 63] w fun e w' => e = .returned (.int .i64 6) ∧ w' = w := by
  go_enter Try.func93, Try.ntmps93
  go_wp2
  go_ret
  exact ⟨by kernel_rfl, rfl⟩
set_option maxRecDepth 10000 in
theorem len64Z_64 (w : World) : Calls Try.prog 93 #[.int .u64 64] w fun e w' => e = .returned (.int .i64 7) ∧ w' = w := by
  go_enter Try.func93, Try.ntmps93
  go_wp2
  go_ret
  exact ⟨by kernel_rfl, rfl⟩
set_option maxRecDepth 10000 in
theorem len64Z_65 (w : World) : Calls Try.prog 93 #[.int .u64 65] w fun e w' => e = .returned (.int .i64 7) ∧ w' = w := by
  go_enter Try.func93, Try.ntmps93
  go_wp2
  go_ret
  exact ⟨by kernel_rfl, rfl⟩
set_option maxRecDepth 10000 in
theorem len64Z_66 (w : World) : Calls Try.prog 93 #[.int .u64 66] w fun e w' => e = .returned (.int .i64 7) ∧ w' = w := by
  go_enter Try.func93, Try.ntmps93
  go_wp2
  go_ret
  exact ⟨by kernel_rfl, rfl⟩
set_option maxRecDepth 10000 in
theorem len64Z_67 (w : World) : Calls Try.prog 93 #[.int .u64 67] w fun e w' => e = .returned (.int .i64 7) ∧ w' = w := by
  go_enter Try.func93, Try.ntmps93
  go_wp2
  go_ret
  exact ⟨by kernel_rfl, rfl⟩
set_option maxRecDepth 10000 in
theorem len64Z_68 (w : World) : Calls Try.prog 93 #[.int .u64 68] w fun e w' => e = .returned (.int .i64 7) ∧ w' = w := by
  go_enter Try.func93, Try.ntmps93
  go_wp2
  go_ret
  exact ⟨by kernel_rfl, rfl⟩
set_option maxRecDepth 10000 in
theorem len64Z_69 (w : World) : Calls Try.prog 93 #[.int .u64 69] w fun e w' => e = .returned (.int .i64 7) ∧ w' = w := by
  go_enter Try.func93, Try.ntmps93
  go_wp2
  go_ret
  exact ⟨by kernel_rfl, rfl⟩
set_option maxRecDepth 10000 in
theorem len64Z_70 (w : World) : Calls Try.prog 93 #[.int .u64 70] w fun e w' => e = .returned (.int .i64 7) ∧ w' = w := by
  go_enter Try.func93, Try.ntmps93
  go_wp2
  go_ret
  exact ⟨by kernel_rfl, rfl⟩
set_option maxRecDepth 10000 in
theorem len64Z_71 (w : World) : Calls Try.prog 93 #[.int .u64 71] w fun e w' => e = .returned (.int .i64 7) ∧ w' = w := by
  go_enter Try.func93, Try.ntmps93
  go_wp2
  go_ret
  exact ⟨by kernel_rfl, rfl⟩
set_option maxRecDepth 10000 in
theorem len64Z_72 (w : World) : Calls Try.prog 93 #[.int .u64 72] w fun e w' => e = .returned (.int .i64 7) ∧ w' = w := by
  go_enter Try.func93, Try.ntmps93
  go_wp2
  go_ret
  exact ⟨by kernel_rfl, rfl⟩
set_option maxRecDepth 10000 in
theorem len64Z_73 (w : World) : Calls Try.prog 93 #[.int .u64 73] w fun e w' => e = .returned (.int .i64 7) ∧ w' = w := by
  go_enter Try.func93, Try.ntmps93
  go_wp2
  go_ret
  exact ⟨by kernel_rfl, rfl⟩
set_option maxRecDepth 10000 in
theorem len64Z_74 (w : World) : Calls Try.prog 93 #[.int .u64 74] w fun e w' => e = .returned (.int .i64 7) ∧ w' = w := by
  go_enter Try.func93, Try.ntmps93
  go_wp2
  go_ret
  exact ⟨by kernel_rfl, rfl⟩
set_option maxRecDepth 10000 in
theorem len64Z_75 (w : World) : Calls Try.prog 93 #[.int .u64 75] w fun e w' => e = .returned (.int .i64 7) ∧ w' = w := by
  go_enter Try.func93, Try.ntmps93
  go_wp2
  go_ret
  exact ⟨by kernel_rfl, rfl⟩
set_option maxRecDepth 10000 in
theorem len64Z_76 (w : World) : Calls Try.prog 93 #[.int .u64 76] w fun e w' => e = .returned (.int .i64 7) ∧ w' = w := by
  go_enter Try.func93, Try.ntmps93
  go_wp2
  go_ret
  exact ⟨by kernel_rfl, rfl⟩
set_option maxRecDepth 10000 in
theorem len64Z_77 (w : World) : Calls Try.prog 93 #[.int .u64 77] w fun e w' => e = .returned (.int .i64 7) ∧ w' = w := by
  go_enter Try.func93, Try.ntmps93
  go_wp2
  go_ret
  exact ⟨by kernel_rfl, rfl⟩
set_option maxRecDepth 10000 in
theorem len64Z_78 (w : World) : Calls Try.prog 93 #[.int .u64 78] w fun e w' => e = .returned (.int .i64 7) ∧ w' = w := by
  go_enter Try.func93, Try.ntmps93
  go_wp2
  go_ret
  exact ⟨by kernel_rfl, rfl⟩
set_option maxRecDepth 10000 in
theorem len64Z_79 (w : World) : Calls Try.prog 93 #[.int .u64 79] w fun e w' => e = .returned (.int .i64 7) ∧ w' = w := by
  go_enter Try.func93, Try.ntmps93
  go_wp2
  go_ret
  exact ⟨by kernel_rfl, rfl⟩
set_option maxRecDepth 10000 in
theorem len64Z_80 (w : World) : Calls Try.prog 93 #[.int .u64 80] w fun e w' => e = .returned (.int .i64 7) ∧ w' = w := by
  go_enter Try.func93, Try.ntmps93
  go_wp2
  go_ret
  exact ⟨by kernel_rfl, rfl⟩
set_option maxRecDepth 10000 in
theorem len64Z_81 (w : World) : Calls Try.prog 93 #[.int .u64 81] w fun e w' => e = .returned (.int .i64 7) ∧ w' = w := by
  go_enter Try.func93, Try.ntmps93
  go_wp2
  go_ret
  exact ⟨by kernel_rfl, rfl⟩
set_option maxRecDepth 10000 in
theorem len64Z_82 (w : World) : Calls Try.prog 93 #[.int .u64 82] w fun e w' => e = .returned (.int .i64 7) ∧ w' = w := by
  go_enter Try.func93, Try.ntmps93
  go_wp2
  go_ret
  exact ⟨by kernel_rfl, rfl⟩
set_option maxRecDepth 10000 in
theorem len64Z_83 (w : World) : Calls Try.prog 93 #[.int .u64 83] w fun e w' => e = .returned (.int .i64 7) ∧ w' = w := by
  go_enter Try.func93, Try.ntmps93
  go_wp2
  go_ret
  exact ⟨by kernel_rfl, rfl⟩
set_option maxRecDepth 10000 in
theorem len64Z_84 (w : World) : Calls Try.prog 93 #[.int .u64 84] w fun e w' => e = .returned (.int .i64 7) ∧ w' = w := by
  go_enter Try.func93, Try.ntmps93
  go_wp2
  go_ret
  exact ⟨by kernel_rfl, rfl⟩
set_option maxRecDepth 10000 in
theorem len64Z_85 (w : World) : Calls Try.prog 93 #[.int .u64 85] w fun e w' => e = .returned (.int .i64 7) ∧ w' = w := by
  go_enter Try.func93, Try.ntmps93
  go_wp2
  go_ret
  exact ⟨by kernel_rfl, rfl⟩
set_option maxRecDepth 10000 in
theorem len64Z_86 (w : World) : Calls Try.prog 93 #[.int .u64 86] w fun e w' => e = .returned (.int .i64 7) ∧ w' = w := by
  go_enter Try.func93, Try.ntmps93
  go_wp2
  go_ret
  exact ⟨by kernel_rfl, rfl⟩
set_option maxRecDepth 10000 in
theorem len64Z_87 (w : World) : Calls Try.prog 93 #[.int .u64 87] w fun e w' => e = .returned (.int .i64 7) ∧ w' = w := by
  go_enter Try.func93, Try.ntmps93
  go_wp2
  go_ret
  exact ⟨by kernel_rfl, rfl⟩
set_option maxRecDepth 10000 in
theorem len64Z_88 (w : World) : Calls Try.prog 93 #[.int .u64 88] w fun e w' => e = .returned (.int .i64 7) ∧ w' = w := by
  go_enter Try.func93, Try.ntmps93
  go_wp2
  go_ret
  exact ⟨by kernel_rfl, rfl⟩
set_option maxRecDepth 10000 in
theorem len64Z_89 (w : World) : Calls Try.prog 93 #[.int .u64 89] w fun e w' => e = .returned (.int .i64 7) ∧ w' = w := by
  go_enter Try.func93, Try.ntmps93
  go_wp2
  go_ret
  exact ⟨by kernel_rfl, rfl⟩
set_option maxRecDepth 10000 in
theorem len64Z_90 (w : World) : Calls Try.prog 93 #[.int .u64 90] w fun e w' => e = .returned (.int .i64 7) ∧ w' = w := by
  go_enter Try.func93, Try.ntmps93
  go_wp2
  go_ret
  exact ⟨by kernel_rfl, rfl⟩
set_option maxRecDepth 10000 in
theorem len64Z_91 (w : World) : Calls Try.prog 93 #[.int .u64 91] w fun e w' => e = .returned (.int .i64 7) ∧ w' = w := by
  go_enter Try.func93, Try.ntmps93
  go_wp2
  go_ret
  exact ⟨by kernel_rfl, rfl⟩
set_option maxRecDepth 10000 in
theorem len64Z_92 (w : World) : Calls Try.prog 93 #[.int .u64 92] w fun e w' => e = .returned (.int .i64 7) ∧ w' = w := by
  go_enter Try.func93, Try.ntmps93
  go_wp2
  go_ret
  exact ⟨by kernel_rfl, rfl⟩
set_option maxRecDepth 10000 in
theorem len64Z_93 (w : World) : Calls Try.prog 93 #[.int .u64 93] w fun e w' => e = .returned (.int .i64 7) ∧ w' = w := by
  go_enter Try.func93, Try.ntmps93
  go_wp2
  go_ret
  exact ⟨by kernel_rfl, rfl⟩
set_option maxRecDepth 10000 in
theorem len64Z_94 (w : World) : Calls Try.prog 93 #[.int .u64 94] w fun e w' => e = .returned (.int .i64 7) ∧ w' = w := by
  go_enter Try.func93, Try.ntmps93
  go_wp2
  go_ret
  exact ⟨by kernel_rfl, rfl⟩
set_option maxRecDepth 10000 in
theorem len64Z_95 (w : World) : Calls Try.prog 93 #[.int .u64 95] w fun e w' => e = .returned (.int .i64 7) ∧ w' = w := by
  go_enter Try.func93, Try.ntmps93
  go_wp2
  go_ret
  exact ⟨by kernel_rfl, rfl⟩
set_option maxRecDepth 10000 in
theorem len64Z_96 (w : World) : Calls Try.prog 93 #[.int .u64 96] w fun e w' => e = .returned (.int .i64 7) ∧ w' = w := by
  go_enter Try.func93, Try.ntmps93
  go_wp2
  go_ret
  exact ⟨by kernel_rfl, rfl⟩
set_option maxRecDepth 10000 in
theorem len64Z_97 (w : World) : Calls Try.prog 93 #[.int .u64 97] w fun e w' => e = .returned (.int .i64 7) ∧ w' = w := by
  go_enter Try.func93, Try.ntmps93
  go_wp2
  go_ret
  exact ⟨by kernel_rfl, rfl⟩
set_option maxRecDepth 10000 in
theorem len64Z_98 (w : World) : Calls Try.prog 93 #[.int .u64 98] w fun e w' => e = .returned (.int .i64 7) ∧ w' = w := by
  go_enter Try.func93, Try.ntmps93
  go_wp2
  go_ret
  exact ⟨by kernel_rfl, rfl⟩
set_option maxRecDepth 10000 in
theorem len64Z_99 (w : World) : Calls Try.prog 93 #[.int .u64 99] w fun e w' => e = .returned (.int .i64 7) ∧ w' = w := by
  go_enter Try.func93, Try.ntmps93
  go_wp2
  go_ret
  exact ⟨by kernel_rfl, rfl⟩
set_option maxRecDepth 10000 in
theorem len64Z_100 (w : World) : Calls Try.prog 93 #[.int .u64 100] w fun e w' => e = .returned (.int .i64 7) ∧ w' = w := by
  go_enter Try.func93, Try.ntmps93
  go_wp2
  go_ret
  exact ⟨by kernel_rfl, rfl⟩
set_option maxRecDepth 10000 in
theorem len64Z_101 (w : World) : Calls Try.prog 93 #[.int .u64 101] w fun e w' => e = .returned (.int .i64 7) ∧ w' = w := by
  go_enter Try.func93, Try.ntmps93
  go_wp2
  go_ret
  exact ⟨by kernel_rfl, rfl⟩
set_option maxRecDepth 10000 in
theorem len64Z_102 (w : World) : Calls Try.prog 93 #[.int .u64 102] w fun e w' => e = .returned (.int .i64 7) ∧ w' = w := by
  go_enter Try.func93, Try.ntmps93
  go_wp2
  go_ret
  exact ⟨by kernel_rfl, rfl⟩
set_option maxRecDepth 10000 in
theorem len64Z_103 (w : World) : Calls Try.prog 93 #[.int .u64 103] w fun e w' => e = .returned (.int .i64 7) ∧ w' = w := by
  go_enter Try.func93, Try.ntmps93
  go_wp2
  go_ret
  exact ⟨by kernel_rfl, rfl⟩
set_option maxRecDepth 10000 in
theorem len64Z_104 (w : World) : Calls Try.prog 93 #[.int .u64 104] w fun e w' => e = .returned (.int .i64 7) ∧ w' = w := by
  go_enter Try.func93, Try.ntmps93
  go_wp2
  go_ret
  exact ⟨by kernel_rfl, rfl⟩
set_option maxRecDepth 10000 in
theorem len64Z_105 (w : World) : Calls Try.prog 93 #[.int .u64 105] w fun e w' => e = .returned (.int .i64 7) ∧ w' = w := by
  go_enter Try.func93, Try.ntmps93
  go_wp2
  go_ret
  exact ⟨by kernel_rfl, rfl⟩
set_option maxRecDepth 10000 in
theorem len64Z_106 (w : World) : Calls Try.prog 93 #[.int .u64 106] w fun e w' => e = .returned (.int .i64 7) ∧ w' = w := by
  go_enter Try.func93, Try.ntmps93
  go_wp2
  go_ret
  exact ⟨by kernel_rfl, rfl⟩
set_option maxRecDepth 10000 in
theorem len64Z_107 (w : World) : Calls Try.prog 93 #[.int .u64 107] w fun e w' => e = .returned (.int .i64 7) ∧ w' = w := by
  go_enter Try.func93, Try.ntmps93
  go_wp2
  go_ret
  exact ⟨by kernel_rfl, rfl⟩
set_option maxRecDepth 10000 in
theorem len64Z_108 (w : World) : Calls Try.prog 93 #[.int .u64 108] w fun e w' => e = .returned (.int .i64 7) ∧ w' = w := by
  go_enter Try.func93, Try.ntmps93
  go_wp2
  go_ret
  exact ⟨by kernel_rfl, rfl⟩
set_option maxRecDepth 10000 in
theorem len64Z_109 (w : World) : Calls Try.prog 93 #[.int .u64 109] w fun e w' => e = .returned (.int .i64 7) ∧ w' = w := by
  go_enter Try.func93, Try.ntmps93
  go_wp2
  go_ret
  exact ⟨by kernel_rfl, rfl⟩
set_option maxRecDepth 10000 in
theorem len64Z_110 (w : World) : Calls Try.prog 93 #[.int .u64 110] w fun e w' => e = .returned (.int .i64 7) ∧ w' = w := by
  go_enter Try.func93, Try.ntmps93
  go_wp2
  go_ret
  exact ⟨by kernel_rfl, rfl⟩
set_option maxRecDepth 10000 in
theorem len64Z_111 (w : World) : Calls Try.prog 93 #[.int .u64 111] w fun e w' => e = .returned (.int .i64 7) ∧ w' = w := by
  go_enter Try.func93, Try.ntmps93
  go_wp2
  go_ret
  exact ⟨by kernel_rfl, rfl⟩
set_option maxRecDepth 10000 in
theorem len64Z_112 (w : World) : Calls Try.prog 93 #[.int .u64 112] w fun e w' => e = .returned (.int .i64 7) ∧ w' = w := by
  go_enter Try.func93, Try.ntmps93
  go_wp2
  go_ret
  exact ⟨by kernel_rfl, rfl⟩
set_option maxRecDepth 10000 in
theorem len64Z_113 (w : World) : Calls Try.prog 93 #[.int .u64 113] w fun e w' => e = .returned (.int .i64 7) ∧ w' = w := by
  go_enter Try.func93, Try.ntmps93
  go_wp2
  go_ret
  exact ⟨by kernel_rfl, rfl⟩
set_option maxRecDepth 10000 in
theorem len64Z_114 (w : World) : Calls Try.prog 93 #[.int .u64 114] w fun e w' => e = .returned (.int .i64 7) ∧ w' = w := by
  go_enter Try.func93, Try.ntmps93
  go_wp2
  go_ret
  exact ⟨by kernel_rfl, rfl⟩
set_option maxRecDepth 10000 in
theorem len64Z_115 (w : World) : Calls Try.prog 93 #[.int .u64 115] w fun e w' => e = .returned (.int .i64 7) ∧ w' = w := by
  go_enter Try.func93, Try.ntmps93
  go_wp2
  go_ret
  exact ⟨by kernel_rfl, rfl⟩
set_option maxRecDepth 10000 in
theorem len64Z_116 (w : World) : Calls Try.prog 93 #[.int .u64 116] w fun e w' => e = .returned (.int .i64 7) ∧ w' = w := by
  go_enter Try.func93, Try.ntmps93
  go_wp2
  go_ret
  exact ⟨by kernel_rfl, rfl⟩
set_option maxRecDepth 10000 in
theorem len64Z_117 (w : World) : Calls Try.prog 93 #[.int .u64 117] w fun e w' => e = .returned (.int .i64 7) ∧ w' = w := by
  go_enter Try.func93, Try.ntmps93
  go_wp2
  go_ret
  exact ⟨by kernel_rfl, rfl⟩
set_option maxRecDepth 10000 in
theorem len64Z_118 (w : World) : Calls Try.prog 93 #[.int .u64 118] w fun e w' => e = .returned (.int .i64 7) ∧ w' = w := by
  go_enter Try.func93, Try.ntmps93
  go_wp2
  go_ret
  exact ⟨by kernel_rfl, rfl⟩
set_option maxRecDepth 10000 in
theorem len64Z_119 (w : World) : Calls Try.prog 93 #[.int .u64 119] w fun e w' => e = .returned (.int .i64 7) ∧ w' = w := by
  go_enter Try.func93, Try.ntmps93
  go_wp2
  go_ret
  exact ⟨by kernel_rfl, rfl⟩
set_option maxRecDepth 10000 in
theorem len64Z_120 (w : World) : Calls Try.prog 93 #[.int .u64 120] w fun e w' => e = .returned (.int .i64 7) ∧ w' = w := by
  go_enter Try.func93, Try.ntmps93
  go_wp2
  go_ret
  exact ⟨by kernel_rfl, rfl⟩
set_option maxRecDepth 10000 in
theorem len64Z_121 (w : World) : Calls Try.prog 93 #[.int .u64 121] w fun e w' => e = .returned (.int .i64 7) ∧ w' = w := by
  go_enter Try.func93, Try.ntmps93
  go_wp2
  go_ret
  exact ⟨by kernel_rfl, rfl⟩
set_option maxRecDepth 10000 in
theorem len64Z_122 (w : World) : Calls Try.prog 93 #[.int .u64 122] w fun e w' => e = .returned (.int .i64 7) ∧ w' = w := by
  go_enter Try.func93, Try.ntmps93
  go_wp2
  go_ret
  exact ⟨by kernel_rfl, rfl⟩
set_option maxRecDepth 10000 in
theorem len64Z_123 (w : World) : Calls Try.prog 93 #[.int .u64 123] w fun e w' => e = .returned (.int .i64 7) ∧ w' = w := by
  go_enter Try.func93, Try.ntmps93
  go_wp2
  go_ret
  exact ⟨by kernel_rfl, rfl⟩
set_option maxRecDepth 10000 in
theorem len64Z_124 (w : World) : Calls Try.prog 93 #[.int .u64 124] w fun e w' => e = .returned (.int .i64 7) ∧ w' = w := by
  go_enter Try.func93, Try.ntmps93
  go_wp2
  go_ret
  exact ⟨by kernel_rfl, rfl⟩
set_option maxRecDepth 10000 in
theorem len64Z_125 (w : World) : Calls Try.prog 93 #[.int .u64 125] w fun e w' => e = .returned (.int .i64 7) ∧ w' = w := by
  go_enter Try.func93, Try.ntmps93
  go_wp2
  go_ret
  exact ⟨by kernel_rfl, rfl⟩
set_option maxRecDepth 10000 in
theorem len64Z_126 (w : World) : Calls Try.prog 93 #[.int .u64 126] w fun e w' => e = .returned (.int .i64 7) ∧ w' = w := by
  go_enter Try.func93, Try.ntmps93
  go_wp2
  go_ret
  exact ⟨by kernel_rfl, rfl⟩
set_option maxRecDepth 10000 in
theorem len64Z_127 (w : World) : Calls Try.prog 93 #[.int .u64 127] w fun e w' => e = .returned (.int .i64 7) ∧ w' = w := by
  go_enter Try.func93, Try.ntmps93
  go_wp2
  go_ret
  exact ⟨by kernel_rfl, rfl⟩
set_option maxRecDepth 10000 in
theorem len64Z_128 (w : World) : Calls Try.prog 93 #[.int .u64 128] w fun e w' => e = .returned (.int .i64 8) ∧ w' = w := by
  go_enter Try.func93, Try.ntmps93
  go_wp2
  go_ret
  exact ⟨by kernel_rfl, rfl⟩
set_option maxRecDepth 10000 in
theorem len64Z_129 (w : World) : Calls Try.prog 93 #[.int .u64 129] w fun e w' => e = .returned (.int .i64 8) ∧ w' = w := by
  go_enter Try.func93, Try.ntmps93
  go_wp2
  go_ret
  exact ⟨by kernel_rfl, rfl⟩
set_option maxRecDepth 10000 in
theorem len64Z_130 (w : World) : Calls Try.prog 93 #[.int .u64 130] w fun e w' => e = .returned (.int .i64 8) ∧ w' = w := by
  go_enter Try.func93, Try.ntmps93
  go_wp2
  go_ret
  exact ⟨by kernel_rfl, rfl⟩
set_option maxRecDepth 10000 in
theorem len64Z_131 (w : World) : Calls Try.prog 93 #[.int .u64 131] w fun e w' => e = .returned (.int .i64 8) ∧ w' = w := by
  go_enter Try.func93, Try.ntmps93
  go_wp2
  go_ret
  exact ⟨by kernel_rfl, rfl⟩
set_option maxRecDepth 10000 in
theorem len64Z_132 (w : World) : Calls Try.prog 93 #[.int .u64 132] w fun e w' => e = .returned (.int .i64 8) ∧ w' = w := by
  go_enter Try.func93, Try.ntmps93
  go_wp2
  go_ret
  exact ⟨by kernel_rfl, rfl⟩
set_option maxRecDepth 10000 in
theorem len64Z_133 (w : World) : Calls Try.prog 93 #[.int .u64 133] w fun e w' => e = .returned (.int .i64 8) ∧ w' = w := by
  go_enter Try.func93, Try.ntmps93
  go_wp2
  go_ret
  exact ⟨by kernel_rfl, rfl⟩
set_option maxRecDepth 10000 in
theorem len64Z_134 (w : World) : Calls Try.prog 93 #[.int .u64 134] w fun e w' => e = .returned (.int .i64 8) ∧ w' = w := by
  go_enter Try.func93, Try.ntmps93
  go_wp2
  go_ret
  exact ⟨by kernel_rfl, rfl⟩
set_option maxRecDepth 10000 in
theorem len64Z_135 (w : World) : Calls Try.prog 93 #[.int .u64 135] w fun e w' => e = .returned (.int .i64 8) ∧ w' = w := by
  go_enter Try.func93, Try.ntmps93
  go_wp2
  go_ret
  exact ⟨by kernel_rfl, rfl⟩
set_option maxRecDepth 10000 in
theorem len64Z_136 (w : World) : Calls Try.prog 93 #[.int .u64 136] w fun e w' => e = .returned (.int .i64 8) ∧ w' = w := by
  go_enter Try.func93, Try.ntmps93
  go_wp2
  go_ret
  exact ⟨by kernel_rfl, rfl⟩
set_option maxRecDepth 10000 in
theorem len64Z_137 (w : World) : Calls Try.prog 93 #[.int .u64 137] w fun e w' => e = .returned (.int .i64 8) ∧ w' = w := by
  go_enter Try.func93, Try.ntmps93
  go_wp2
  go_ret
  exact ⟨by kernel_rfl, rfl⟩
set_option maxRecDepth 10000 in
theorem len64Z_138 (w : World) : Calls Try.prog 93 #[.int .u64 138] w fun e w' => e = .returned (.int .i64 8) ∧ w' = w := by
  go_enter Try.func93, Try.ntmps93
  go_wp2
  go_ret
  exact ⟨by kernel_rfl, rfl⟩
set_option maxRecDepth 10000 in
theorem len64Z_139 (w : World) : Calls Try.prog 93 #[.int .u64 139] w fun e w' => e = .returned (.int .i64 8) ∧ w' = w := by
  go_enter Try.func93, Try.ntmps93
  go_wp2
  go_ret
  exact ⟨by kernel_rfl, rfl⟩
set_option maxRecDepth 10000 in
theorem len64Z_140 (w : World) : Calls Try.prog 93 #[.int .u64 140] w fun e w' => e = .returned (.int .i64 8) ∧ w' = w := by
  go_enter Try.func93, Try.ntmps93
  go_wp2
  go_ret
  exact ⟨by kernel_rfl, rfl⟩
set_option maxRecDepth 10000 in
theorem len64Z_141 (w : World) : Calls Try.prog 93 #[.int .u64 141] w fun e w' => e = .returned (.int .i64 8) ∧ w' = w := by
  go_enter Try.func93, Try.ntmps93
  go_wp2
  go_ret
  exact ⟨by kernel_rfl, rfl⟩
set_option maxRecDepth 10000 in
theorem len64Z_142 (w : World) : Calls Try.prog 93 #[.int .u64 142] w fun e w' => e = .returned (.int .i64 8) ∧ w' = w := by
  go_enter Try.func93, Try.ntmps93
  go_wp2
  go_ret
  exact ⟨by kernel_rfl, rfl⟩
set_option maxRecDepth 10000 in
theorem len64Z_143 (w : World) : Calls Try.prog 93 #[.int .u64 143] w fun e w' => e = .returned (.int .i64 8) ∧ w' = w := by
  go_enter Try.func93, Try.ntmps93
  go_wp2
  go_ret
  exact ⟨by kernel_rfl, rfl⟩
set_option maxRecDepth 10000 in
theorem len64Z_144 (w : World) : Calls Try.prog 93 #[.int .u64 144] w fun e w' => e = .returned (.int .i64 8) ∧ w' = w := by
  go_enter Try.func93, Try.ntmps93
  go_wp2
  go_ret
  exact ⟨by kernel_rfl, rfl⟩
set_option maxRecDepth 10000 in
theorem len64Z_145 (w : World) : Calls Try.prog 93 #[.int .u64 145] w fun e w' => e = .returned (.int .i64 8) ∧ w' = w := by
  go_enter Try.func93, Try.ntmps93
  go_wp2
  go_ret
  exact ⟨by kernel_rfl, rfl⟩
set_option maxRecDepth 10000 in
theorem len64Z_146 (w : World) : Calls Try.prog 93 #[.int .u64 146] w fun e w' => e = .returned (.int .i64 8) ∧ w' = w := by
  go_enter Try.func93, Try.ntmps93
  go_wp2
  go_ret
  exact ⟨by kernel_rfl, rfl⟩
set_option maxRecDepth 10000 in
theorem len64Z_147 (w : World) : Calls Try.prog 93 #[.int .u64 147] w fun e w' => e = .returned (.int .i64 8) ∧ w' = w := by
  go_enter Try.func93, Try.ntmps93
  go_wp2
  go_ret
  exact ⟨by kernel_rfl, rfl⟩
set_option maxRecDepth 10000 in
theorem len64Z_148 (w : World) : Calls Try.prog 93 #[.int .u64 148] w fun e w' => e = .returned (.int .i64 8) ∧ w' = w := by
  go_enter Try.func93, Try.ntmps93
  go_wp2
  go_ret
  exact ⟨by kernel_rfl, rfl⟩
set_option maxRecDepth 10000 in
theorem len64Z_149 (w : World) : Calls Try.prog 93 #[.int .u64 149] w fun e w' => e = .returned (.int .i64 8) ∧ w' = w := by
  go_enter Try.func93, Try.ntmps93
  go_wp2
  go_ret
  exact ⟨by kernel_rfl, rfl⟩
set_option maxRecDepth 10000 in
theorem len64Z_150 (w : World) : Calls Try.prog 93 #[.int .u64 150] w fun e w' => e = .returned (.int .i64 8) ∧ w' = w := by
  go_enter Try.func93, Try.ntmps93
  go_wp2
  go_ret
  exact ⟨by kernel_rfl, rfl⟩
set_option maxRecDepth 10000 in
theorem len64Z_151 (w : World) : Calls Try.prog 93 #[.int .u64 151] w fun e w' => e = .returned (.int .i64 8) ∧ w' = w := by
  go_enter Try.func93, Try.ntmps93
  go_wp2
  go_ret
  exact ⟨by kernel_rfl, rfl⟩
set_option maxRecDepth 10000 in
theorem len64Z_152 (w : World) : Calls Try.prog 93 #[.int .u64 152] w fun e w' => e = .returned (.int .i64 8) ∧ w' = w := by
  go_enter Try.func93, Try.ntmps93
  go_wp2
  go_ret
  exact ⟨by kernel_rfl, rfl⟩
set_option maxRecDepth 10000 in
theorem len64Z_153 (w : World) : Calls Try.prog 93 #[.int .u64 153] w fun e w' => e = .returned (.int .i64 8) ∧ w' = w := by
  go_enter Try.func93, Try.ntmps93
  go_wp2
  go_ret
  exact ⟨by kernel_rfl, rfl⟩
set_option maxRecDepth 10000 in
theorem len64Z_154 (w : World) : Calls Try.prog 93 #[.int .u64 154] w fun e w' => e = .returned (.int .i64 8) ∧ w' = w := by
  go_enter Try.func93, Try.ntmps93
  go_wp2
  go_ret
  exact ⟨by kernel_rfl, rfl⟩
set_option maxRecDepth 10000 in
theorem len64Z_155 (w : World) : Calls Try.prog 93 #[.int .u64 155] w fun e w' => e = .returned (.int .i64 8) ∧ w' = w := by
  go_enter Try.func93, Try.ntmps93
  go_wp2
  go_ret
  exact ⟨by kernel_rfl, rfl⟩
set_option maxRecDepth 10000 in
theorem len64Z_156 (w : World) : Calls Try.prog 93 #[.int .u64 156] w fun e w' => e = .returned (.int .i64 8) ∧ w' = w := by
  go_enter Try.func93, Try.ntmps93
  go_wp2
  go_ret
  exact ⟨by kernel_rfl, rfl⟩
set_option maxRecDepth 10000 in
theorem len64Z_157 (w : World) : Calls Try.prog 93 #[.int .u64 157] w fun e w' => e = .returned (.int .i64 8) ∧ w' = w := by
  go_enter Try.func93, Try.ntmps93
  go_wp2
  go_ret
  exact ⟨by kernel_rfl, rfl⟩
set_option maxRecDepth 10000 in
theorem len64Z_158 (w : World) : Calls Try.prog 93 #[.int .u64 158] w fun e w' => e = .returned (.int .i64 8) ∧ w' = w := by
  go_enter Try.func93, Try.ntmps93
  go_wp2
  go_ret
  exact ⟨by kernel_rfl, rfl⟩
set_option maxRecDepth 10000 in
theorem len64Z_159 (w : World) : Calls Try.prog 93 #[.int .u64 159] w fun e w' => e = .returned (.int .i64 8) ∧ w' = w := by
  go_enter Try.func93, Try.ntmps93
  go_wp2
  go_ret
  exact ⟨by kernel_rfl, rfl⟩
set_option maxRecDepth 10000 in
theorem len64Z_160 (w : World) : Calls Try.prog 93 #[.int .u64 160] w fun e w' => e = .returned (.int .i64 8) ∧ w' = w := by
  go_enter Try.func93, Try.ntmps93
  go_wp2
  go_ret
  exact ⟨by kernel_rfl, rfl⟩
set_option maxRecDepth 10000 in
theorem len64Z_161 (w : World) : Calls Try.prog 93 #[.int .u64 161] w fun e w' => e = .returned (.int .i64 8) ∧ w' = w := by
  go_enter Try.func93, Try.ntmps93
  go_wp2
  go_ret
  exact ⟨by kernel_rfl, rfl⟩
set_option maxRecDepth 10000 in
theorem len64Z_162 (w : World) : Calls Try.prog 93 #[.int .u64 162] w fun e w' => e = .returned (.int .i64 8) ∧ w' = w := by
  go_enter Try.func93, Try.ntmps93
  go_wp2
  go_ret
  exact ⟨by kernel_rfl, rfl⟩
set_option maxRecDepth 10000 in
theorem len64Z_163 (w : World) : Calls Try.prog 93 #[.int .u64 163] w fun e w' => e = .returned (.int .i64 8) ∧ w' = w := by
  go_enter Try.func93, Try.ntmps93
  go_wp2
  go_ret
  exact ⟨by kernel_rfl, rfl⟩
set_option maxRecDepth 10000 in
theorem len64Z_164 (w : World) : Calls Try.prog 93 #[.int .u64 164] w fun e w' => e = .returned (.int .i64 8) ∧ w' = w := by
  go_enter Try.func93, Try.ntmps93
  go_wp2
  go_ret
  exact ⟨by kernel_rfl, rfl⟩
set_option maxRecDepth 10000 in
theorem len64Z_165 (w : World) : Calls Try.prog 93 #[.int .u64 165] w fun e w' => e = .returned (.int .i64 8) ∧ w' = w := by
  go_enter Try.func93, Try.ntmps93
  go_wp2
  go_ret
  exact ⟨by kernel_rfl, rfl⟩
set_option maxRecDepth 10000 in
theorem len64Z_166 (w : World) : Calls Try.prog 93 #[.int .u64 166] w fun e w' => e = .returned (.int .i64 8) ∧ w' = w := by
  go_enter Try.func93, Try.ntmps93
  go_wp2
  go_ret
  exact ⟨by kernel_rfl, rfl⟩
set_option maxRecDepth 10000 in
theorem len64Z_167 (w : World) : Calls Try.prog 93 #[.int .u64 167] w fun e w' => e = .returned (.int .i64 8) ∧ w' = w := by
  go_enter Try.func93, Try.ntmps93
  go_wp2
  go_ret
  exact ⟨by kernel_rfl, rfl⟩
set_option maxRecDepth 10000 in
theorem len64Z_168 (w : World) : Calls Try.prog 93 #[.int .u64 168] w fun e w' => e = .returned (.int .i64 8) ∧ w' = w := by
  go_enter Try.func93, Try.ntmps93
  go_wp2
  go_ret
  exact ⟨by kernel_rfl, rfl⟩
set_option maxRecDepth 10000 in
theorem len64Z_169 (w : World) : Calls Try.prog 93 #[.int .u64 169] w fun e w' => e = .returned (.int .i64 8) ∧ w' = w := by
  go_enter Try.func93, Try.ntmps93
  go_wp2
  go_ret
  exact ⟨by kernel_rfl, rfl⟩
set_option maxRecDepth 10000 in
theorem len64Z_170 (w : World) : Calls Try.prog 93 #[.int .u64 170] w fun e w' => e = .returned (.int .i64 8) ∧ w' = w := by
  go_enter Try.func93, Try.ntmps93
  go_wp2
  go_ret
  exact ⟨by kernel_rfl, rfl⟩
set_option maxRecDepth 10000 in
theorem len64Z_171 (w : World) : Calls Try.prog 93 #[.int .u64 171] w fun e w' => e = .returned (.int .i64 8) ∧ w' = w := by
  go_enter Try.func93, Try.ntmps93
  go_wp2
  go_ret
  exact ⟨by kernel_rfl, rfl⟩
set_option maxRecDepth 10000 in
theorem len64Z_172 (w : World) : Calls Try.prog 93 #[.int .u64 172] w fun e w' => e = .returned (.int .i64 8) ∧ w' = w := by
  go_enter Try.func93, Try.ntmps93
  go_wp2
  go_ret
  exact ⟨by kernel_rfl, rfl⟩
set_option maxRecDepth 10000 in
theorem len64Z_173 (w : World) : Calls Try.prog 93 #[.int .u64 173] w fun e w' => e = .returned (.int .i64 8) ∧ w' = w := by
  go_enter Try.func93, Try.ntmps93
  go_wp2
  go_ret
  exact ⟨by kernel_rfl, rfl⟩
set_option maxRecDepth 10000 in
theorem len64Z_174 (w : World) : Calls Try.prog 93 #[.int .u64 174] w fun e w' => e = .returned (.int .i64 8) ∧ w' = w := by
  go_enter Try.func93, Try.ntmps93
  go_wp2
  go_ret
  exact ⟨by kernel_rfl, rfl⟩
set_option maxRecDepth 10000 in
theorem len64Z_175 (w : World) : Calls Try.prog 93 #[.int .u64 175] w fun e w' => e = .returned (.int .i64 8) ∧ w' = w := by
  go_enter Try.func93, Try.ntmps93
  go_wp2
  go_ret
  exact ⟨by kernel_rfl, rfl⟩
set_option maxRecDepth 10000 in
theorem len64Z_176 (w : World) : Calls Try.prog 93 #[.int .u64 176] w fun e w' => e = .returned (.int .i64 8) ∧ w' = w := by
  go_enter Try.func93, Try.ntmps93
  go_wp2
  go_ret
  exact ⟨by kernel_rfl, rfl⟩
set_option maxRecDepth 10000 in
theorem len64Z_177 (w : World) : Calls Try.prog 93 #[.int .u64 177] w fun e w' => e = .returned (.int .i64 8) ∧ w' = w := by
  go_enter Try.func93, Try.ntmps93
  go_wp2
  go_ret
  exact ⟨by kernel_rfl, rfl⟩
set_option maxRecDepth 10000 in
theorem len64Z_178 (w : World) : Calls Try.prog 93 #[.int .u64 178] w fun e w' => e = .returned (.int .i64 8) ∧ w' = w := by
  go_enter Try.func93, Try.ntmps93
  go_wp2
  go_ret
  exact ⟨by kernel_rfl, rfl⟩
set_option maxRecDepth 10000 in
theorem len64Z_179 (w : World) : Calls Try.prog 93 #[.int .u64 179] w fun e w' => e = .returned (.int .i64 8) ∧ w' = w := by
  go_enter Try.func93, Try.ntmps93
  go_wp2
  go_ret
  exact ⟨by kernel_rfl, rfl⟩
set_option maxRecDepth 10000 in
theorem len64Z_180 (w : World) : Calls Try.prog 93 #[.int .u64 180] w fun e w' => e = .returned (.int .i64 8) ∧ w' = w := by
  go_enter Try.func93, Try.ntmps93
  go_wp2
  go_ret
  exact ⟨by kernel_rfl, rfl⟩
set_option maxRecDepth 10000 in
theorem len64Z_181 (w : World) : Calls Try.prog 93 #[.int .u64 181] w fun e w' => e = .returned (.int .i64 8) ∧ w' = w := by
  go_enter Try.func93, Try.ntmps93
  go_wp2
  go_ret
  exact ⟨by kernel_rfl, rfl⟩
set_option maxRecDepth 10000 in
theorem len64Z_182 (w : World) : Calls Try.prog 93 #[.int .u64 182] w fun e w' => e = .returned (.int .i64 8) ∧ w' = w := by
  go_enter Try.func93, Try.ntmps93
  go_wp2
  go_ret
  exact ⟨by kernel_rfl, rfl⟩
set_option maxRecDepth 10000 in
theorem len64Z_183 (w : World) : Calls Try.prog 93 #[.int .u64 183] w fun e w' => e = .returned (.int .i64 8) ∧ w' = w := by
  go_enter Try.func93, Try.ntmps93
  go_wp2
  go_ret
  exact ⟨by kernel_rfl, rfl⟩
set_option maxRecDepth 10000 in
theorem len64Z_184 (w : World) : Calls Try.prog 93 #[.int .u64 184] w fun e w' => e = .returned (.int .i64 8) ∧ w' = w := by
  go_enter Try.func93, Try.ntmps93
  go_wp2
  go_ret
  exact ⟨by kernel_rfl, rfl⟩
set_option maxRecDepth 10000 in
theorem len64Z_185 (w : World) : Calls Try.prog 93 #[.int .u64 185] w fun e w' => e = .returned (.int .i64 8) ∧ w' = w := by
  go_enter Try.func93, Try.ntmps93
  go_wp2
  go_ret
  exact ⟨by kernel_rfl, rfl⟩
set_option maxRecDepth 10000 in
theorem len64Z_186 (w : World) : Calls Try.prog 93 #[.int .u64 186] w fun e w' => e = .returned (.int .i64 8) ∧ w' = w := by
  go_enter Try.func93, Try.ntmps93
  go_wp2
  go_ret
  exact ⟨by kernel_rfl, rfl⟩
set_option maxRecDepth 10000 in
theorem len64Z_187 (w : World) : Calls Try.prog 93 #[.int .u64 187] w fun e w' => e = .returned (.int .i64 8) ∧ w' = w := by
  go_enter Try.func93, Try.ntmps93
  go_wp2
  go_ret
  exact ⟨by kernel_rfl, rfl⟩
set_option maxRecDepth 10000 in
theorem len64Z_188 (w : World) : Calls Try.prog 93 #[.int .u64 188] w fun e w' => e = .returned (.int .i64 8) ∧ w' = w := by
  go_enter Try.func93, Try.ntmps93
  go_wp2
  go_ret
  exact ⟨by kernel_rfl, rfl⟩
set_option maxRecDepth 10000 in
theorem len64Z_189 (w : World) : Calls Try.prog 93 #[.int .u64 189] w fun e w' => e = .returned (.int .i64 8) ∧ w' = w := by
  go_enter Try.func93, Try.ntmps93
  go_wp2
  go_ret
  exact ⟨by kernel_rfl, rfl⟩
set_option maxRecDepth 10000 in
theorem len64Z_190 (w : World) : Calls Try.prog 93 #[.int .u64 190] w fun e w' => e = .returned (.int .i64 8) ∧ w' = w := by
  go_enter Try.func93, Try.ntmps93
  go_wp2
  go_ret
  exact ⟨by kernel_rfl, rfl⟩
set_option maxRecDepth 10000 in
theorem len64Z_191 (w : World) : Calls Try.prog 93 #[.int .u64 191] w fun e w' => e = .returned (.int .i64 8) ∧ w' = w := by
  go_enter Try.func93, Try.ntmps93
  go_wp2
  go_ret
  exact ⟨by kernel_rfl, rfl⟩
set_option maxRecDepth 10000 in
theorem len64Z_192 (w : World) : Calls Try.prog 93 #[.int .u64 192] w fun e w' => e = .returned (.int .i64 8) ∧ w' = w := by
  go_enter Try.func93, Try.ntmps93
  go_wp2
  go_ret
  exact ⟨by kernel_rfl, rfl⟩
set_option maxRecDepth 10000 in
theorem len64Z_193 (w : World) : Calls Try.prog 93 #[.int .u64 193] w fun e w' => e = .returned (.int .i64 8) ∧ w' = w := by
  go_enter Try.func93, Try.ntmps93
  go_wp2
  go_ret
  exact ⟨by kernel_rfl, rfl⟩
set_option maxRecDepth 10000 in
theorem len64Z_194 (w : World) : Calls Try.prog 93 #[.int .u64 194] w fun e w' => e = .returned (.int .i64 8) ∧ w' = w := by
  go_enter Try.func93, Try.ntmps93
  go_wp2
  go_ret
  exact ⟨by kernel_rfl, rfl⟩
set_option maxRecDepth 10000 in
theorem len64Z_195 (w : World) : Calls Try.prog 93 #[.int .u64 195] w fun e w' => e = .returned (.int .i64 8) ∧ w' = w := by
  go_enter Try.func93, Try.ntmps93
  go_wp2
  go_ret
  exact ⟨by kernel_rfl, rfl⟩
set_option maxRecDepth 10000 in
theorem len64Z_196 (w : World) : Calls Try.prog 93 #[.int .u64 196] w fun e w' => e = .returned (.int .i64 8) ∧ w' = w := by
  go_enter Try.func93, Try.ntmps93
  go_wp2
  go_ret
  exact ⟨by kernel_rfl, rfl⟩
set_option maxRecDepth 10000 in
theorem len64Z_197 (w : World) : Calls Try.prog 93 #[.int .u64 197] w fun e w' => e = .returned (.int .i64 8) ∧ w' = w := by
  go_enter Try.func93, Try.ntmps93
  go_wp2
  go_ret
  exact ⟨by kernel_rfl, rfl⟩
set_option maxRecDepth 10000 in
theorem len64Z_198 (w : World) : Calls Try.prog 93 #[.int .u64 198] w fun e w' => e = .returned (.int .i64 8) ∧ w' = w := by
  go_enter Try.func93, Try.ntmps93
  go_wp2
  go_ret
  exact ⟨by kernel_rfl, rfl⟩
set_option maxRecDepth 10000 in
theorem len64Z_199 (w : World) : Calls Try.prog 93 #[.int .u64 199] w fun e w' => e = .returned (.int .i64 8) ∧ w' = w := by
  go_enter Try.func93, Try.ntmps93
  go_wp2
  go_ret
  exact ⟨by kernel_rfl, rfl⟩
set_option maxRecDepth 10000 in
theorem len64Z_200 (w : World) : Calls Try.prog 93 #[.int .u64 200] w fun e w' => e = .returned (.int .i64 8) ∧ w' = w := by
  go_enter Try.func93, Try.ntmps93
  go_wp2
  go_ret
  exact ⟨by kernel_rfl, rfl⟩
set_option maxRecDepth 10000 in
theorem len64Z_201 (w : World) : Calls Try.prog 93 #[.int .u64 201] w fun e w' => e = .returned (.int .i64 8) ∧ w' = w := by
  go_enter Try.func93, Try.ntmps93
  go_wp2
  go_ret
  exact ⟨by kernel_rfl, rfl⟩
set_option maxRecDepth 10000 in
theorem len64Z_202 (w : World) : Calls Try.prog 93 #[.int .u64 202] w fun e w' => e = .returned (.int .i64 8) ∧ w' = w := by
  go_enter Try.func93, Try.ntmps93
  go_wp2
  go_ret
  exact ⟨by kernel_rfl, rfl⟩
set_option maxRecDepth 10000 in
theorem len64Z_203 (w : World) : Calls Try.prog 93 #[.int .u64 203] w fun e w' => e = .returned (.int .i64 8) ∧ w' = w := by
  go_enter Try.func93, Try.ntmps93
  go_wp2
  go_ret
  exact ⟨by kernel_rfl, rfl⟩
set_option maxRecDepth 10000 in
theorem len64Z_204 (w : World) : Calls Try.prog 93 #[.int .u64 204] w fun e w' => e = .returned (.int .i64 8) ∧ w' = w := by
  go_enter Try.func93, Try.ntmps93
  go_wp2
  go_ret
  exact ⟨by kernel_rfl, rfl⟩
set_option maxRecDepth 10000 in
theorem len64Z_205 (w : World) : Calls Try.prog 93 #[.int .u64 205] w fun e w' => e = .returned (.int .i64 8) ∧ w' = w := by
  go_enter Try.func93, Try.ntmps93
  go_wp2
  go_ret
  exact ⟨by kernel_rfl, rfl⟩
set_option maxRecDepth 10000 in
theorem len64Z_206 (w : World) : Calls Try.prog 93 #[.int .u64 206] w fun e w' => e = .returned (.int .i64 8) ∧ w' = w := by
  go_enter Try.func93, Try.ntmps93
  go_wp2
  go_ret
  exact ⟨by kernel_rfl, rfl⟩
set_option maxRecDepth 10000 in
theorem len64Z_207 (w : World) : Calls Try.prog 93 #[.int .u64 207] w fun e w' => e = .returned (.int .i64 8) ∧ w' = w := by
  go_enter Try.func93, Try.ntmps93
  go_wp2
  go_ret
  exact ⟨by kernel_rfl, rfl⟩
set_option maxRecDepth 10000 in
theorem len64Z_208 (w : World) : Calls Try.prog 93 #[.int .u64 208] w fun e w' => e = .returned (.int .i64 8) ∧ w' = w := by
  go_enter Try.func93, Try.ntmps93
  go_wp2
  go_ret
  exact ⟨by kernel_rfl, rfl⟩
set_option maxRecDepth 10000 in
theorem len64Z_209 (w : World) : Calls Try.prog 93 #[.int .u64 209] w fun e w' => e = .returned (.int .i64 8) ∧ w' = w := by
  go_enter Try.func93, Try.ntmps93
  go_wp2
  go_ret
  exact ⟨by kernel_rfl, rfl⟩
set_option maxRecDepth 10000 in
theorem len64Z_210 (w : World) : Calls Try.prog 93 #[.int .u64 210] w fun e w' => e = .returned (.int .i64 8) ∧ w' = w := by
  go_enter Try.func93, Try.ntmps93
  go_wp2
  go_ret
  exact ⟨by kernel_rfl, rfl⟩
set_option maxRecDepth 10000 in
theorem len64Z_211 (w : World) : Calls Try.prog 93 #[.int .u64 211] w fun e w' => e = .returned (.int .i64 8) ∧ w' = w := by
  go_enter Try.func93, Try.ntmps93
  go_wp2
  go_ret
  exact ⟨by kernel_rfl, rfl⟩
set_option maxRecDepth 10000 in
theorem len64Z_212 (w : World) : Calls Try.prog 93 #[.int .u64 212] w fun e w' => e = .returned (.int .i64 8) ∧ w' = w := by
  go_enter Try.func93, Try.ntmps93
  go_wp2
  go_ret
  exact ⟨by kernel_rfl, rfl⟩
set_option maxRecDepth 10000 in
theorem len64Z_213 (w : World) : Calls Try.prog 93 #[.int .u64 213] w fun e w' => e = .returned (.int .i64 8) ∧ w' = w := by
  go_enter Try.func93, Try.ntmps93
  go_wp2
  go_ret
  exact ⟨by kernel_rfl, rfl⟩
set_option maxRecDepth 10000 in
theorem len64Z_214 (w : World) : Calls Try.prog 93 #[.int .u64 214] w fun e w' => e = .returned (.int .i64 8) ∧ w' = w := by
  go_enter Try.func93, Try.ntmps93
  go_wp2
  go_ret
  exact ⟨by kernel_rfl, rfl⟩
set_option maxRecDepth 10000 in
theorem len64Z_215 (w : World) : Calls Try.prog 93 #[.int .u64 215] w fun e w' => e = .returned (.int .i64 8) ∧ w' = w := by
  go_enter Try.func93, Try.ntmps93
  go_wp2
  go_ret
  exact ⟨by kernel_rfl, rfl⟩
set_option maxRecDepth 10000 in
theorem len64Z_216 (w : World) : Calls Try.prog 93 #[.int .u64 216] w fun e w' => e = .returned (.int .i64 8) ∧ w' = w := by
  go_enter Try.func93, Try.ntmps93
  go_wp2
  go_ret
  exact ⟨by kernel_rfl, rfl⟩
set_option maxRecDepth 10000 in
theorem len64Z_217 (w : World) : Calls Try.prog 93 #[.int .u64 217] w fun e w' => e = .returned (.int .i64 8) ∧ w' = w := by
  go_enter Try.func93, Try.ntmps93
  go_wp2
  go_ret
  exact ⟨by kernel_rfl, rfl⟩
set_option maxRecDepth 10000 in
theorem len64Z_218 (w : World) : Calls Try.prog 93 #[.int .u64 218] w fun e w' => e = .returned (.int .i64 8) ∧ w' = w := by
  go_enter Try.func93, Try.ntmps93
  go_wp2
  go_ret
  exact ⟨by kernel_rfl, rfl⟩
set_option maxRecDepth 10000 in
theorem len64Z_219 (w : World) : Calls Try.prog 93 #[.int .u64 219] w fun e w' => e = .returned (.int .i64 8) ∧ w' = w := by
  go_enter Try.func93, Try.ntmps93
  go_wp2
  go_ret
  exact ⟨by kernel_rfl, rfl⟩
set_option maxRecDepth 10000 in
theorem len64Z_220 (w : World) : Calls Try.prog 93 #[.int .u64 220] w fun e w' => e = .returned (.int .i64 8) ∧ w' = w := by
  go_enter Try.func93, Try.ntmps93
  go_wp2
  go_ret
  exact ⟨by kernel_rfl, rfl⟩
set_option maxRecDepth 10000 in
theorem len64Z_221 (w : World) : Calls Try.prog 93 #[.int .u64 221] w fun e w' => e = .returned (.int .i64 8) ∧ w' = w := by
  go_enter Try.func93, Try.ntmps93
  go_wp2
  go_ret
  exact ⟨by kernel_rfl, rfl⟩
set_option maxRecDepth 10000 in
theorem len64Z_222 (w : World) : Calls Try.prog 93 #[.int .u64 222] w fun e w' => e = .returned (.int .i64 8) ∧ w' = w := by
  go_enter Try.func93, Try.ntmps93
  go_wp2
  go_ret
  exact ⟨by kernel_rfl, rfl⟩
set_option maxRecDepth 10000 in
theorem len64Z_223 (w : World) : Calls Try.prog 93 #[.int .u64 223] w fun e w' => e = .returned (.int .i64 8) ∧ w' = w := by
  go_enter Try.func93, Try.ntmps93
  go_wp2
  go_ret
  exact ⟨by kernel_rfl, rfl⟩
set_option maxRecDepth 10000 in
theorem len64Z_224 (w : World) : Calls Try.prog 93 #[.int .u64 224] w fun e w' => e = .returned (.int .i64 8) ∧ w' = w := by
  go_enter Try.func93, Try.ntmps93
  go_wp2
  go_ret
  exact ⟨by kernel_rfl, rfl⟩
set_option maxRecDepth 10000 in
theorem len64Z_225 (w : World) : Calls Try.prog 93 #[.int .u64 225] w fun e w' => e = .returned (.int .i64 8) ∧ w' = w := by
  go_enter Try.func93, Try.ntmps93
  go_wp2
  go_ret
  exact ⟨by kernel_rfl, rfl⟩
set_option maxRecDepth 10000 in
theorem len64Z_226 (w : World) : Calls Try.prog 93 #[.int .u64 226] w fun e w' => e = .returned (.int .i64 8) ∧ w' = w := by
  go_enter Try.func93, Try.ntmps93
  go_wp2
  go_ret
  exact ⟨by kernel_rfl, rfl⟩
set_option maxRecDepth 10000 in
theorem len64Z_227 (w : World) : Calls Try.prog 93 #[.int .u64 227] w fun e w' => e = .returned (.int .i64 8) ∧ w' = w := by
  go_enter Try.func93, Try.ntmps93
  go_wp2
  go_ret
  exact ⟨by kernel_rfl, rfl⟩
set_option maxRecDepth 10000 in
theorem len64Z_228 (w : World) : Calls Try.prog 93 #[.int .u64 228] w fun e w' => e = .returned (.int .i64 8) ∧ w' = w := by
  go_enter Try.func93, Try.ntmps93
  go_wp2
  go_ret
  exact ⟨by kernel_rfl, rfl⟩
set_option maxRecDepth 10000 in
theorem len64Z_229 (w : World) : Calls Try.prog 93 #[.int .u64 229] w fun e w' => e = .returned (.int .i64 8) ∧ w' = w := by
  go_enter Try.func93, Try.ntmps93
  go_wp2
  go_ret
  exact ⟨by kernel_rfl, rfl⟩
set_option maxRecDepth 10000 in
theorem len64Z_230 (w : World) : Calls Try.prog 93 #[.int .u64 230] w fun e w' => e = .returned (.int .i64 8) ∧ w' = w := by
  go_enter Try.func93, Try.ntmps93
  go_wp2
  go_ret
  exact ⟨by kernel_rfl, rfl⟩
set_option maxRecDepth 10000 in
theorem len64Z_231 (w : World) : Calls Try.prog 93 #[.int .u64 231] w fun e w' => e = .returned (.int .i64 8) ∧ w' = w := by
  go_enter Try.func93, Try.ntmps93
  go_wp2
  go_ret
  exact ⟨by kernel_rfl, rfl⟩
set_option maxRecDepth 10000 in
theorem len64Z_232 (w : World) : Calls Try.prog 93 #[.int .u64 232] w fun e w' => e = .returned (.int .i64 8) ∧ w' = w := by
  go_enter Try.func93, Try.ntmps93
  go_wp2
  go_ret
  exact ⟨by kernel_rfl, rfl⟩
set_option maxRecDepth 10000 in
theorem len64Z_233 (w : World) : Calls Try.prog 93 #[.int .u64 233] w fun e w' => e = .returned (.int .i64 8) ∧ w' = w := by
  go_enter Try.func93, Try.ntmps93
  go_wp2
  go_ret
  exact ⟨by kernel_rfl, rfl⟩
set_option maxRecDepth 10000 in
theorem len64Z_234 (w : World) : Calls Try.prog 93 #[.int .u64 234] w fun e w' => e = .returned (.int .i64 8) ∧ w' = w := by
  go_enter Try.func93, Try.ntmps93
  go_wp2
  go_ret
  exact ⟨by kernel_rfl, rfl⟩
set_option maxRecDepth 10000 in
theorem len64Z_235 (w : World) : Calls Try.prog 93 #[.int .u64 235] w fun e w' => e = .returned (.int .i64 8) ∧ w' = w := by
  go_enter Try.func93, Try.ntmps93
  go_wp2
  go_ret
  exact ⟨by kernel_rfl, rfl⟩
set_option maxRecDepth 10000 in
theorem len64Z_236 (w : World) : Calls Try.prog 93 #[.int .u64 236] w fun e w' => e = .returned (.int .i64 8) ∧ w' = w := by
  go_enter Try.func93, Try.ntmps93
  go_wp2
  go_ret
  exact ⟨by kernel_rfl, rfl⟩
set_option maxRecDepth 10000 in
theorem len64Z_237 (w : World) : Calls Try.prog 93 #[.int .u64 237] w fun e w' => e = .returned (.int .i64 8) ∧ w' = w := by
  go_enter Try.func93, Try.ntmps93
  go_wp2
  go_ret
  exact ⟨by kernel_rfl, rfl⟩
set_option maxRecDepth 10000 in
theorem len64Z_238 (w : World) : Calls Try.prog 93 #[.int .u64 238] w fun e w' => e = .returned (.int .i64 8) ∧ w' = w := by
  go_enter Try.func93, Try.ntmps93
  go_wp2
  go_ret
  exact ⟨by kernel_rfl, rfl⟩
set_option maxRecDepth 10000 in
theorem len64Z_239 (w : World) : Calls Try.prog 93 #[.int .u64 239] w fun e w' => e = .returned (.int .i64 8) ∧ w' = w := by
  go_enter Try.func93, Try.ntmps93
  go_wp2
  go_ret
  exact ⟨by kernel_rfl, rfl⟩
set_option maxRecDepth 10000 in
theorem len64Z_240 (w : World) : Calls Try.prog 93 #[.int .u64 240] w fun e w' => e = .returned (.int .i64 8) ∧ w' = w := by
  go_enter Try.func93, Try.ntmps93
  go_wp2
  go_ret
  exact ⟨by kernel_rfl, rfl⟩
set_option maxRecDepth 10000 in
theorem len64Z_241 (w : World) : Calls Try.prog 93 #[.int .u64 241] w fun e w' => e = .returned (.int .i64 8) ∧ w' = w := by
  go_enter Try.func93, Try.ntmps93
  go_wp2
  go_ret
  exact ⟨by kernel_rfl, rfl⟩
set_option maxRecDepth 10000 in
theorem len64Z_242 (w : World) : Calls Try.prog 93 #[.int .u64 242] w fun e w' => e = .returned (.int .i64 8) ∧ w' = w := by
  go_enter Try.func93, Try.ntmps93
  go_wp2
  go_ret
  exact ⟨by kernel_rfl, rfl⟩
set_option maxRecDepth 10000 in
theorem len64Z_243 (w : World) : Calls Try.prog 93 #[.int .u64 243] w fun e w' => e = .returned (.int .i64 8) ∧ w' = w := by
  go_enter Try.func93, Try.ntmps93
  go_wp2
  go_ret
  exact ⟨by kernel_rfl, rfl⟩
set_option maxRecDepth 10000 in
theorem len64Z_244 (w : World) : Calls Try.prog 93 #[.int .u64 244] w fun e w' => e = .returned (.int .i64 8) ∧ w' = w := by
  go_enter Try.func93, Try.ntmps93
  go_wp2
  go_ret
  exact ⟨by kernel_rfl, rfl⟩
set_option maxRecDepth 10000 in
theorem len64Z_245 (w : World) : Calls Try.prog 93 #[.int .u64 245] w fun e w' => e = .returned (.int .i64 8) ∧ w' = w := by
  go_enter Try.func93, Try.ntmps93
  go_wp2
  go_ret
  exact ⟨by kernel_rfl, rfl⟩
set_option maxRecDepth 10000 in
theorem len64Z_246 (w : World) : Calls Try.prog 93 #[.int .u64 246] w fun e w' => e = .returned (.int .i64 8) ∧ w' = w := by
  go_enter Try.func93, Try.ntmps93
  go_wp2
  go_ret
  exact ⟨by kernel_rfl, rfl⟩
set_option maxRecDepth 10000 in
theorem len64Z_247 (w : World) : Calls Try.prog 93 #[.int .u64 247] w fun e w' => e = .returned (.int .i64 8) ∧ w' = w := by
  go_enter Try.func93, Try.ntmps93
  go_wp2
  go_ret
  exact ⟨by kernel_rfl, rfl⟩
set_option maxRecDepth 10000 in
theorem len64Z_248 (w : World) : Calls Try.prog 93 #[.int .u64 248] w fun e w' => e = .returned (.int .i64 8) ∧ w' = w := by
  go_enter Try.func93, Try.ntmps93
  go_wp2
  go_ret
  exact ⟨by kernel_rfl, rfl⟩
set_option maxRecDepth 10000 in
theorem len64Z_249 (w : World) : Calls Try.prog 93 #[.int .u64 249] w fun e w' => e = .returned (.int .i64 8) ∧ w' = w := by
  go_enter Try.func93, Try.ntmps93
  go_wp2
  go_ret
  exact ⟨by kernel_rfl, rfl⟩
set_option maxRecDepth 10000 in
theorem len64Z_250 (w : World) : Calls Try.prog 93 #[.int .u64 250] w fun e w' => e = .returned (.int .i64 8) ∧ w' = w := by
  go_enter Try.func93, Try.ntmps93
  go_wp2
  go_ret
  exact ⟨by kernel_rfl, rfl⟩
set_option maxRecDepth 10000 in
theorem len64Z_251 (w : World) : Calls Try.prog 93 #[.int .u64 251] w fun e w' => e = .returned (.int .i64 8) ∧ w' = w := by
  go_enter Try.func93, Try.ntmps93
  go_wp2
  go_ret
  exact ⟨by kernel_rfl, rfl⟩
set_option maxRecDepth 10000 in
theorem len64Z_252 (w : World) : Calls Try.prog 93 #[.int .u64 252] w fun e w' => e = .returned (.int .i64 8) ∧ w' = w := by
  go_enter Try.func93, Try.ntmps93
  go_wp2
  go_ret
  exact ⟨by kernel_rfl, rfl⟩
set_option maxRecDepth 10000 in
theorem len64Z_253 (w : World) : Calls Try.prog 93 #[.int .u64 253] w fun e w' => e = .returned (.int .i64 8) ∧ w' = w := by
  go_enter Try.func93, Try.ntmps93
  go_wp2
  go_ret
  exact ⟨by kernel_rfl, rfl⟩
set_option maxRecDepth 10000 in
theorem len64Z_254 (w : World) : Calls Try.prog 93 #[.int .u64 254] w fun e w' => e = .returned (.int .i64 8) ∧ w' = w := by
  go_enter Try.func93, Try.ntmps93
  go_wp2
  go_ret
  exact ⟨by kernel_rfl, rfl⟩
set_option maxRecDepth 10000 in
theorem len64Z_255 (w : World) : Calls Try.prog 93 #[.int .u64 255] w fun e w' => e = .returned (.int .i64 8) ∧ w' = w := by
  go_enter Try.func93, Try.ntmps93
  go_wp2
  go_ret
  exact ⟨by kernel_rfl, rfl⟩
theorem len64Z : ∀ (x : Nat), 0 < x → x < 256 → ∃ v : Nat, 2 ^ v ≤ 2 * x ∧ v ≤ 8 ∧ ∀ w : World, Calls Try.prog 93 #[.int .u64 (x : Nat)] w fun e w' => e = .returned (.int .i64 (v : Nat)) ∧ w' = w := by
  intro x h1 h2
  by_cases h : x < 128
  · by_cases h : x < 64
    · by_cases h : x < 32
      · by_cases h : x < 16
        · by_cases h : x < 8
          · by_cases h : x < 4
            · by_cases h : x < 2
              · obtain rfl : x = 1 := by omega
                exact ⟨1, by decide, by decide, len64Z_1⟩
              · by_cases h : x < 3
                · obtain rfl : x = 2 := by omega
                  exact ⟨2, by decide, by decide, len64Z_2⟩
                · obtain rfl : x = 3 := by omega
                  exact ⟨2, by decide, by decide, len64Z_3⟩
            · by_cases h : x < 6
              · by_cases h : x < 5
                · obtain rfl : x = 4 := by omega
                  exact ⟨3, by decide, by decide, len64Z_4⟩
                · obtain rfl : x = 5 := by omega
                  exact ⟨3, by decide, by decide, len64Z_5⟩
              · by_cases h : x < 7
                · obtain rfl : x = 6 := by omega
                  exact ⟨3, by decide, by decide, len64Z_6⟩
                · obtain rfl : x = 7 := by omega
                  exact ⟨3, by decide, by decide, len64Z_7⟩
          · by_cases h : x < 12
            · by_cases h : x < 10
              · by_cases h : x < 9
                · obtain rfl : x = 8 := by omega
                  exact ⟨4, by decide, by decide, len64Z_8⟩
                · obtain rfl : x = 9 := by omega
                  exact ⟨4, by decide, by decide, len64Z_9⟩
              · by_cases h : x < 11
                · obtain rfl : x = 10 := by omega
                  exact ⟨4, by decide, by decide, len64Z_10⟩
                · obtain rfl : x = 11 := by omega
                  exact ⟨4, by decide, by decide, len64Z_11⟩
            · by_cases h : x < 14
              · by_cases h : x < 13
                · obtain rfl : x = 12 := by omega
                  exact ⟨4, by decide, by decide, len64Z_12⟩
                · obtain rfl : x = 13 := by omega
                  exact ⟨4, by decide, by decide, len64Z_13⟩
              · by_cases h : x < 15
                · obtain rfl : x = 14 := by omega
                  exact ⟨4, by decide, by decide, len64Z_14⟩
                · obtain rfl : x = 15 := by omega
                  exact ⟨4, by decide, by decide, len64Z_15⟩
        · by_cases h : x < 24
          · by_cases h : x < 20
            · by_cases h : x < 18
              · by_cases h : x < 17
                · obtain rfl : x = 16 := by omega
                  exact ⟨5, by decide, by decide, len64Z_16⟩
                · obtain rfl : x = 17 := by omega
                  exact ⟨5, by decide, by decide, len64Z_17⟩
              · by_cases h : x < 19
                · obtain rfl : x = 18 := by omega
                  exact ⟨5, by decide, by decide, len64Z_18⟩
                · obtain rfl : x = 19 := by omega
                  exact ⟨5, by decide, by decide, len64Z_19⟩
            · by_cases h : x < 22
              · by_cases h : x < 21
                · obtain rfl : x = 20 := by omega
                  exact ⟨5, by decide, by decide, len64Z_20⟩
                · obtain rfl : x = 21 := by omega
                  exact ⟨5, by decide, by decide, len64Z_21⟩
              · by_cases h : x < 23
                · obtain rfl : x = 22 := by omega
                  exact ⟨5, by decide, by decide, len64Z_22⟩
                · obtain rfl : x = 23 := by omega
                  exact ⟨5, by decide, by decide, len64Z_23⟩
          · by_cases h : x < 28
            · by_cases h : x < 26
              · by_cases h : x < 25
                · obtain rfl : x = 24 := by omega
                  exact ⟨5, by decide, by decide, len64Z_24⟩
                · obtain rfl : x = 25 := by omega
                  exact ⟨5, by decide, by decide, len64Z_25⟩
              · by_cases h : x < 27
                · obtain rfl : x = 26 := by omega
                  exact ⟨5, by decide, by decide, len64Z_26⟩
                · obtain rfl : x = 27 := by omega
                  exact ⟨5, by decide, by decide, len64Z_27⟩
            · by_cases h : x < 30
              · by_cases h : x < 29
                · obtain rfl : x = 28 := by omega
                  exact ⟨5, by decide, by decide, len64Z_28⟩
                · obtain rfl : x = 29 := by omega
                  exact ⟨5, by decide, by decide, len64Z_29⟩
              · by_cases h : x < 31
                · obtain rfl : x = 30 := by omega
                  exact ⟨5, by decide, by decide, len64Z_30⟩
                · obtain rfl : x = 31 := by omega
                  exact ⟨5, by decide, by decide, len64Z_31⟩
      · by_cases h : x < 48
        · by_cases h : x < 40
          · by_cases h : x < 36
            · by_cases h : x < 34
              · by_cases h : x < 33
                · obtain rfl : x = 32 := by omega
                  exact ⟨6, by decide, by decide, len64Z_32⟩
                · obtain rfl : x = 33 := by omega
                  exact ⟨6, by decide, by decide, len64Z_33⟩
              · by_cases h : x < 35
                · obtain rfl : x = 34 := by omega
                  exact ⟨6, by decide, by decide, len64Z_34⟩
                · obtain rfl : x = 35 := by omega
                  exact ⟨6, by decide, by decide, len64Z_35⟩
            · by_cases h : x < 38
              · by_cases h : x < 37
                · obtain rfl : x = 36 := by omega
                  exact ⟨6, by decide, by decide, len64Z_36⟩
                · obtain rfl : x = 37 := by omega
                  exact ⟨6, by decide, by decide, len64Z_37⟩
              · by_cases h : x < 39
                · obtain rfl : x = 38 := by omega
                  exact ⟨6, by decide, by decide, len64Z_38⟩
                · obtain rfl : x = 39 := by omega
                  exact ⟨6, by decide, by decide, len64Z_39⟩
          · by_cases h : x < 44
            · by_cases h : x < 42
              · by_cases h : x < 41
                · obtain rfl : x = 40 := by omega
                  exact ⟨6, by decide, by decide, len64Z_40⟩
                · obtain rfl : x = 41 := by omega
                  exact ⟨6, by decide, by decide, len64Z_41⟩
              · by_cases h : x < 43
                · obtain rfl : x = 42 := by omega
                  exact ⟨6, by decide, by decide, len64Z_42⟩
                · obtain rfl : x = 43 := by omega
                  exact ⟨6, by decide, by decide, len64Z_43⟩
            · by_cases h : x < 46
              · by_cases h : x < 45
                · obtain rfl : x = 44 := by omega
                  exact ⟨6, by decide, by decide, len64Z_44⟩
                · obtain rfl : x = 45 := by omega
                  exact ⟨6, by decide, by decide, len64Z_45⟩
              · by_cases h : x < 47
                · obtain rfl : x = 46 := by omega
                  exact ⟨6, by decide, by decide, len64Z_46⟩
                · obtain rfl : x = 47 := by omega
                  exact ⟨6, by decide, by decide, len64Z_47⟩
        · by_cases h : x < 56
          · by_cases h : x < 52
            · by_cases h : x < 50
              · by_cases h : x < 49
                · obtain rfl : x = 48 := by omega
                  exact ⟨6, by decide, by decide, len64Z_48⟩
                · obtain rfl : x = 49 := by omega
                  exact ⟨6, by decide, by decide, len64Z_49⟩
              · by_cases h : x < 51
                · obtain rfl : x = 50 := by omega
                  exact ⟨6, by decide, by decide, len64Z_50⟩
                · obtain rfl : x = 51 := by omega
                  exact ⟨6, by decide, by decide, len64Z_51⟩
            · by_cases h : x < 54
              · by_cases h : x < 53
                · obtain rfl : x = 52 := by omega
                  exact ⟨6, by decide, by decide, len64Z_52⟩
                · obtain rfl : x = 53 := by omega
                  exact ⟨6, by decide, by decide, len64Z_53⟩
              · by_cases h : x < 55
                · obtain rfl : x = 54 := by omega
                  exact ⟨6, by decide, by decide, len64Z_54⟩
                · obtain rfl : x = 55 := by omega
                  exact ⟨6, by decide, by decide, len64Z_55⟩
          · by_cases h : x < 60
            · by_cases h : x < 58
              · by_cases h : x < 57
                · obtain rfl : x = 56 := by omega
                  exact ⟨6, by decide, by decide, len64Z_56⟩
                · obtain rfl : x = 57 := by omega
                  exact ⟨6, by decide, by decide, len64Z_57⟩
              · by_cases h : x < 59
                · obtain rfl : x = 58 := by omega
                  exact ⟨6, by decide, by decide, len64Z_58⟩
                · obtain rfl : x = 59 := by omega
                  exact ⟨6, by decide, by decide, len64Z_59⟩
            · by_cases h : x < 62
              · by_cases h : x < 61
                · obtain rfl : x = 60 := by omega
                  exact ⟨6, by decide, by decide, len64Z_60⟩
                · obtain rfl : x = 61 := by omega
                  exact ⟨6, by decide, by decide, len64Z_61⟩
              · by_cases h : x < 63
                · obtain rfl : x = 62 := by omega
                  exact ⟨6, by decide, by decide, len64Z_62⟩
                · obtain rfl : x = 63 := by omega
                  exact ⟨6, by decide, by decide, len64Z_63⟩
    · by_cases h : x < 96
      · by_cases h : x < 80
        · by_cases h : x < 72
          · by_cases h : x < 68
            · by_cases h : x < 66
              · by_cases h : x < 65
                · obtain rfl : x = 64 := by omega
                  exact ⟨7, by decide, by decide, len64Z_64⟩
                · obtain rfl : x = 65 := by omega
                  exact ⟨7, by decide, by decide, len64Z_65⟩
              · by_cases h : x < 67
                · obtain rfl : x = 66 := by omega
                  exact ⟨7, by decide, by decide, len64Z_66⟩
                · obtain rfl : x = 67 := by omega
                  exact ⟨7, by decide, by decide, len64Z_67⟩
            · by_cases h : x < 70
              · by_cases h : x < 69
                · obtain rfl : x = 68 := by omega
                  exact ⟨7, by decide, by decide, len64Z_68⟩
                · obtain rfl : x = 69 := by omega
                  exact ⟨7, by decide, by decide, len64Z_69⟩
              · by_cases h : x < 71
                · obtain rfl : x = 70 := by omega
                  exact ⟨7, by decide, by decide, len64Z_70⟩
                · obtain rfl : x = 71 := by omega
                  exact ⟨7, by decide, by decide, len64Z_71⟩
          · by_cases h : x < 76
            · by_cases h : x < 74
              · by_cases h : x < 73
                · obtain rfl : x = 72 := by omega
                  exact ⟨7, by decide, by decide, len64Z_72⟩
                · obtain rfl : x = 73 := by omega
                  exact ⟨7, by decide, by decide, len64Z_73⟩
              · by_cases h : x < 75
                · obtain rfl : x = 74 := by omega
                  exact ⟨7, by decide, by decide, len64Z_74⟩
                · obtain rfl : x = 75 := by omega
                  exact ⟨7, by decide, by decide, len64Z_75⟩
            · by_cases h : x < 78
              · by_cases h : x < 77
                · obtain rfl : x = 76 := by omega
                  exact ⟨7, by decide, by decide, len64Z_76⟩
                · obtain rfl : x = 77 := by omega
                  exact ⟨7, by decide, by decide, len64Z_77⟩
              · by_cases h : x < 79
                · obtain rfl : x = 78 := by omega
                  exact ⟨7, by decide, by decide, len64Z_78⟩
                · obtain rfl : x = 79 := by omega
                  exact ⟨7, by decide, by decide, len64Z_79⟩
        · by_cases h : x < 88
          · by_cases h : x < 84
            · by_cases h : x < 82
              · by_cases h : x < 81
                · obtain rfl : x = 80 := by omega
                  exact ⟨7, by decide, by decide, len64Z_80⟩
                · obtain rfl : x = 81 := by omega
                  exact ⟨7, by decide, by decide, len64Z_81⟩
              · by_cases h : x < 83
                · obtain rfl : x = 82 := by omega
                  exact ⟨7, by decide, by decide, len64Z_82⟩
                · obtain rfl : x = 83 := by omega
                  exact ⟨7, by decide, by decide, len64Z_83⟩
            · by_cases h : x < 86
              · by_cases h : x < 85
                · obtain rfl : x = 84 := by omega
                  exact ⟨7, by decide, by decide, len64Z_84⟩
                · obtain rfl : x = 85 := by omega
                  exact ⟨7, by decide, by decide, len64Z_85⟩
              · by_cases h : x < 87
                · obtain rfl : x = 86 := by omega
                  exact ⟨7, by decide, by decide, len64Z_86⟩
                · obtain rfl : x = 87 := by omega
                  exact ⟨7, by decide, by decide, len64Z_87⟩
          · by_cases h : x < 92
            · by_cases h : x < 90
              · by_cases h : x < 89
                · obtain rfl : x = 88 := by omega
                  exact ⟨7, by decide, by decide, len64Z_88⟩
                · obtain rfl : x = 89 := by omega
                  exact ⟨7, by decide, by decide, len64Z_89⟩
              · by_cases h : x < 91
                · obtain rfl : x = 90 := by omega
                  exact ⟨7, by decide, by decide, len64Z_90⟩
                · obtain rfl : x = 91 := by omega
                  exact ⟨7, by decide, by decide, len64Z_91⟩
            · by_cases h : x < 94
              · by_cases h : x < 93
                · obtain rfl : x = 92 := by omega
                  exact ⟨7, by decide, by decide, len64Z_92⟩
                · obtain rfl : x = 93 := by omega
                  exact ⟨7, by decide, by decide, len64Z_93⟩
              · by_cases h : x < 95
                · obtain rfl : x = 94 := by omega
                  exact ⟨7, by decide, by decide, len64Z_94⟩
                · obtain rfl : x = 95 := by omega
                  exact ⟨7, by decide, by decide, len64Z_95⟩
      · by_cases h : x < 112
        · by_cases h : x < 104
          · by_cases h : x < 100
            · by_cases h : x < 98
              · by_cases h : x < 97
                · obtain rfl : x = 96 := by omega
                  exact ⟨7, by decide, by decide, len64Z_96⟩
                · obtain rfl : x = 97 := by omega
                  exact ⟨7, by decide, by decide, len64Z_97⟩
              · by_cases h : x < 99
                · obtain rfl : x = 98 := by omega
                  exact ⟨7, by decide, by decide, len64Z_98⟩
                · obtain rfl : x = 99 := by omega
                  exact ⟨7, by decide, by decide, len64Z_99⟩
            · by_cases h : x < 102
              · by_cases h : x < 101
                · obtain rfl : x = 100 := by omega
                  exact ⟨7, by decide, by decide, len64Z_100⟩
                · obtain rfl : x = 101 := by omega
                  exact ⟨7, by decide, by decide, len64Z_101⟩
              · by_cases h : x < 103
                · obtain rfl : x = 102 := by omega
                  exact ⟨7, by decide, by decide, len64Z_102⟩
                · obtain rfl : x = 103 := by omega
                  exact ⟨7, by decide, by decide, len64Z_103⟩
          · by_cases h : x < 108
            · by_cases h : x < 106
              · by_cases h : x < 105
                · obtain rfl : x = 104 := by omega
                  exact ⟨7, by decide, by decide, len64Z_104⟩
                · obtain rfl : x = 105 := by omega
                  exact ⟨7, by decide, by decide, len64Z_105⟩
              · by_cases h : x < 107
                · obtain rfl : x = 106 := by omega
                  exact ⟨7, by decide, by decide, len64Z_106⟩
                · obtain rfl : x = 107 := by omega
                  exact ⟨7, by decide, by decide, len64Z_107⟩
            · by_cases h : x < 110
              · by_cases h : x < 109
                · obtain rfl : x = 108 := by omega
                  exact ⟨7, by decide, by decide, len64Z_108⟩
                · obtain rfl : x = 109 := by omega
                  exact ⟨7, by decide, by decide, len64Z_109⟩
              · by_cases h : x < 111
                · obtain rfl : x = 110 := by omega
                  exact ⟨7, by decide, by decide, len64Z_110⟩
                · obtain rfl : x = 111 := by omega
                  exact ⟨7, by decide, by decide, len64Z_111⟩
        · by_cases h : x < 120
          · by_cases h : x < 116
            · by_cases h : x < 114
              · by_cases h : x < 113
                · obtain rfl : x = 112 := by omega
                  exact ⟨7, by decide, by decide, len64Z_112⟩
                · obtain rfl : x = 113 := by omega
                  exact ⟨7, by decide, by decide, len64Z_113⟩
              · by_cases h : x < 115
                · obtain rfl : x = 114 := by omega
                  exact ⟨7, by decide, by decide, len64Z_114⟩
                · obtain rfl : x = 115 := by omega
                  exact ⟨7, by decide, by decide, len64Z_115⟩
            · by_cases h : x < 118
              · by_cases h : x < 117
                · obtain rfl : x = 116 := by omega
                  exact ⟨7, by decide, by decide, len64Z_116⟩
                · obtain rfl : x = 117 := by omega
                  exact ⟨7, by decide, by decide, len64Z_117⟩
              · by_cases h : x < 119
                · obtain rfl : x = 118 := by omega
                  exact ⟨7, by decide, by decide, len64Z_118⟩
                · obtain rfl : x = 119 := by omega
                  exact ⟨7, by decide, by decide, len64Z_119⟩
          · by_cases h : x < 124
            · by_cases h : x < 122
              · by_cases h : x < 121
                · obtain rfl : x = 120 := by omega
                  exact ⟨7, by decide, by decide, len64Z_120⟩
                · obtain rfl : x = 121 := by omega
                  exact ⟨7, by decide, by decide, len64Z_121⟩
              · by_cases h : x < 123
                · obtain rfl : x = 122 := by omega
                  exact ⟨7, by decide, by decide, len64Z_122⟩
                · obtain rfl : x = 123 := by omega
                  exact ⟨7, by decide, by decide, len64Z_123⟩
            · by_cases h : x < 126
              · by_cases h : x < 125
                · obtain rfl : x = 124 := by omega
                  exact ⟨7, by decide, by decide, len64Z_124⟩
                · obtain rfl : x = 125 := by omega
                  exact ⟨7, by decide, by decide, len64Z_125⟩
              · by_cases h : x < 127
                · obtain rfl : x = 126 := by omega
                  exact ⟨7, by decide, by decide, len64Z_126⟩
                · obtain rfl : x = 127 := by omega
                  exact ⟨7, by decide, by decide, len64Z_127⟩
  · by_cases h : x < 192
    · by_cases h : x < 160
      · by_cases h : x < 144
        · by_cases h : x < 136
          · by_cases h : x < 132
            · by_cases h : x < 130
              · by_cases h : x < 129
                · obtain rfl : x = 128 := by omega
                  exact ⟨8, by decide, by decide, len64Z_128⟩
                · obtain rfl : x = 129 := by omega
                  exact ⟨8, by decide, by decide, len64Z_129⟩
              · by_cases h : x < 131
                · obtain rfl : x = 130 := by omega
                  exact ⟨8, by decide, by decide, len64Z_130⟩
                · obtain rfl : x = 131 := by omega
                  exact ⟨8, by decide, by decide, len64Z_131⟩
            · by_cases h : x < 134
              · by_cases h : x < 133
                · obtain rfl : x = 132 := by omega
                  exact ⟨8, by decide, by decide, len64Z_132⟩
                · obtain rfl : x = 133 := by omega
                  exact ⟨8, by decide, by decide, len64Z_133⟩
              · by_cases h : x < 135
                · obtain rfl : x = 134 := by omega
                  exact ⟨8, by decide, by decide, len64Z_134⟩
                · obtain rfl : x = 135 := by omega
                  exact ⟨8, by decide, by decide, len64Z_135⟩
          · by_cases h : x < 140
            · by_cases h : x < 138
              · by_cases h : x < 137
                · obtain rfl : x = 136 := by omega
                  exact ⟨8, by decide, by decide, len64Z_136⟩
                · obtain rfl : x = 137 := by omega
                  exact ⟨8, by decide, by decide, len64Z_137⟩
              · by_cases h : x < 139
                · obtain rfl : x = 138 := by omega
                  exact ⟨8, by decide, by decide, len64Z_138⟩
                · obtain rfl : x = 139 := by omega
                  exact ⟨8, by decide, by decide, len64Z_139⟩
            · by_cases h : x < 142
              · by_cases h : x < 141
                · obtain rfl : x = 140 := by omega
                  exact ⟨8, by decide, by decide, len64Z_140⟩
                · obtain rfl : x = 141 := by omega
                  exact ⟨8, by decide, by decide, len64Z_141⟩
              · by_cases h : x < 143
                · obtain rfl : x = 142 := by omega
                  exact ⟨8, by decide, by decide, len64Z_142⟩
                · obtain rfl : x = 143 := by omega
                  exact ⟨8, by decide, by decide, len64Z_143⟩
        · by_cases h : x < 152
          · by_cases h : x < 148
            · by_cases h : x < 146
              · by_cases h : x < 145
                · obtain rfl : x = 144 := by omega
                  exact ⟨8, by decide, by decide, len64Z_144⟩
                · obtain rfl : x = 145 := by omega
                  exact ⟨8, by decide, by decide, len64Z_145⟩
              · by_cases h : x < 147
                · obtain rfl : x = 146 := by omega
                  exact ⟨8, by decide, by decide, len64Z_146⟩
                · obtain rfl : x = 147 := by omega
                  exact ⟨8, by decide, by decide, len64Z_147⟩
            · by_cases h : x < 150
              · by_cases h : x < 149
                · obtain rfl : x = 148 := by omega
                  exact ⟨8, by decide, by decide, len64Z_148⟩
                · obtain rfl : x = 149 := by omega
                  exact ⟨8, by decide, by decide, len64Z_149⟩
              · by_cases h : x < 151
                · obtain rfl : x = 150 := by omega
                  exact ⟨8, by decide, by decide, len64Z_150⟩
                · obtain rfl : x = 151 := by omega
                  exact ⟨8, by decide, by decide, len64Z_151⟩
          · by_cases h : x < 156
            · by_cases h : x < 154
              · by_cases h : x < 153
                · obtain rfl : x = 152 := by omega
                  exact ⟨8, by decide, by decide, len64Z_152⟩
                · obtain rfl : x = 153 := by omega
                  exact ⟨8, by decide, by decide, len64Z_153⟩
              · by_cases h : x < 155
                · obtain rfl : x = 154 := by omega
                  exact ⟨8, by decide, by decide, len64Z_154⟩
                · obtain rfl : x = 155 := by omega
                  exact ⟨8, by decide, by decide, len64Z_155⟩
            · by_cases h : x < 158
              · by_cases h : x < 157
                · obtain rfl : x = 156 := by omega
                  exact ⟨8, by decide, by decide, len64Z_156⟩
                · obtain rfl : x = 157 := by omega
                  exact ⟨8, by decide, by decide, len64Z_157⟩
              · by_cases h : x < 159
                · obtain rfl : x = 158 := by omega
                  exact ⟨8, by decide, by decide, len64Z_158⟩
                · obtain rfl : x = 159 := by omega
                  exact ⟨8, by decide, by decide, len64Z_159⟩
      · by_cases h : x < 176
        · by_cases h : x < 168
          · by_cases h : x < 164
            · by_cases h : x < 162
              · by_cases h : x < 161
                · obtain rfl : x = 160 := by omega
                  exact ⟨8, by decide, by decide, len64Z_160⟩
                · obtain rfl : x = 161 := by omega
                  exact ⟨8, by decide, by decide, len64Z_161⟩
              · by_cases h : x < 163
                · obtain rfl : x = 162 := by omega
                  exact ⟨8, by decide, by decide, len64Z_162⟩
                · obtain rfl : x = 163 := by omega
                  exact ⟨8, by decide, by decide, len64Z_163⟩
            · by_cases h : x < 166
              · by_cases h : x < 165
                · obtain rfl : x = 164 := by omega
                  exact ⟨8, by decide, by decide, len64Z_164⟩
                · obtain rfl : x = 165 := by omega
                  exact ⟨8, by decide, by decide, len64Z_165⟩
              · by_cases h : x < 167
                · obtain rfl : x = 166 := by omega
                  exact ⟨8, by decide, by decide, len64Z_166⟩
                · obtain rfl : x = 167 := by omega
                  exact ⟨8, by decide, by decide, len64Z_167⟩
          · by_cases h : x < 172
            · by_cases h : x < 170
              · by_cases h : x < 169
                · obtain rfl : x = 168 := by omega
                  exact ⟨8, by decide, by decide, len64Z_168⟩
                · obtain rfl : x = 169 := by omega
                  exact ⟨8, by decide, by decide, len64Z_169⟩
              · by_cases h : x < 171
                · obtain rfl : x = 170 := by omega
                  exact ⟨8, by decide, by decide, len64Z_170⟩
                · obtain rfl : x = 171 := by omega
                  exact ⟨8, by decide, by decide, len64Z_171⟩
            · by_cases h : x < 174
              · by_cases h : x < 173
                · obtain rfl : x = 172 := by omega
                  exact ⟨8, by decide, by decide, len64Z_172⟩
                · obtain rfl : x = 173 := by omega
                  exact ⟨8, by decide, by decide, len64Z_173⟩
              · by_cases h : x < 175
                · obtain rfl : x = 174 := by omega
                  exact ⟨8, by decide, by decide, len64Z_174⟩
                · obtain rfl : x = 175 := by omega
                  exact ⟨8, by decide, by decide, len64Z_175⟩
        · by_cases h : x < 184
          · by_cases h : x < 180
            · by_cases h : x < 178
              · by_cases h : x < 177
                · obtain rfl : x = 176 := by omega
                  exact ⟨8, by decide, by decide, len64Z_176⟩
                · obtain rfl : x = 177 := by omega
                  exact ⟨8, by decide, by decide, len64Z_177⟩
              · by_cases h : x < 179
                · obtain rfl : x = 178 := by omega
                  exact ⟨8, by decide, by decide, len64Z_178⟩
                · obtain rfl : x = 179 := by omega
                  exact ⟨8, by decide, by decide, len64Z_179⟩
            · by_cases h : x < 182
              · by_cases h : x < 181
                · obtain rfl : x = 180 := by omega
                  exact ⟨8, by decide, by decide, len64Z_180⟩
                · obtain rfl : x = 181 := by omega
                  exact ⟨8, by decide, by decide, len64Z_181⟩
              · by_cases h : x < 183
                · obtain rfl : x = 182 := by omega
                  exact ⟨8, by decide, by decide, len64Z_182⟩
                · obtain rfl : x = 183 := by omega
                  exact ⟨8, by decide, by decide, len64Z_183⟩
          · by_cases h : x < 188
            · by_cases h : x < 186
              · by_cases h : x < 185
                · obtain rfl : x = 184 := by omega
                  exact ⟨8, by decide, by decide, len64Z_184⟩
                · obtain rfl : x = 185 := by omega
                  exact ⟨8, by decide, by decide, len64Z_185⟩
              · by_cases h : x < 187
                · obtain rfl : x = 186 := by omega
                  exact ⟨8, by decide, by decide, len64Z_186⟩
                · obtain rfl : x = 187 := by omega
                  exact ⟨8, by decide, by decide, len64Z_187⟩
            · by_cases h : x < 190
              · by_cases h : x < 189
                · obtain rfl : x = 188 := by omega
                  exact ⟨8, by decide, by decide, len64Z_188⟩
                · obtain rfl : x = 189 := by omega
                  exact ⟨8, by decide, by decide, len64Z_189⟩
              · by_cases h : x < 191
                · obtain rfl : x = 190 := by omega
                  exact ⟨8, by decide, by decide, len64Z_190⟩
                · obtain rfl : x = 191 := by omega
                  exact ⟨8, by decide, by decide, len64Z_191⟩
    · by_cases h : x < 224
      · by_cases h : x < 208
        · by_cases h : x < 200
          · by_cases h : x < 196
            · by_cases h : x < 194
              · by_cases h : x < 193
                · obtain rfl : x = 192 := by omega
                  exact ⟨8, by decide, by decide, len64Z_192⟩
                · obtain rfl : x = 193 := by omega
                  exact ⟨8, by decide, by decide, len64Z_193⟩
              · by_cases h : x < 195
                · obtain rfl : x = 194 := by omega
                  exact ⟨8, by decide, by decide, len64Z_194⟩
                · obtain rfl : x = 195 := by omega
                  exact ⟨8, by decide, by decide, len64Z_195⟩
            · by_cases h : x < 198
              · by_cases h : x < 197
                · obtain rfl : x = 196 := by omega
                  exact ⟨8, by decide, by decide, len64Z_196⟩
                · obtain rfl : x = 197 := by omega
                  exact ⟨8, by decide, by decide, len64Z_197⟩
              · by_cases h : x < 199
                · obtain rfl : x = 198 := by omega
                  exact ⟨8, by decide, by decide, len64Z_198⟩
                · obtain rfl : x = 199 := by omega
                  exact ⟨8, by decide, by decide, len64Z_199⟩
          · by_cases h : x < 204
            · by_cases h : x < 202
              · by_cases h : x < 201
                · obtain rfl : x = 200 := by omega
                  exact ⟨8, by decide, by decide, len64Z_200⟩
                · obtain rfl : x = 201 := by omega
                  exact ⟨8, by decide, by decide, len64Z_201⟩
              · by_cases h : x < 203
                · obtain rfl : x = 202 := by omega
                  exact ⟨8, by decide, by decide, len64Z_202⟩
                · obtain rfl : x = 203 := by omega
                  exact ⟨8, by decide, by decide, len64Z_203⟩
            · by_cases h : x < 206
              · by_cases h : x < 205
                · obtain rfl : x = 204 := by omega
                  exact ⟨8, by decide, by decide, len64Z_204⟩
                · obtain rfl : x = 205 := by omega
                  exact ⟨8, by decide, by decide, len64Z_205⟩
              · by_cases h : x < 207
                · obtain rfl : x = 206 := by omega
                  exact ⟨8, by decide, by decide, len64Z_206⟩
                · obtain rfl : x = 207 := by omega
                  exact ⟨8, by decide, by decide, len64Z_207⟩
        · by_cases h : x < 216
          · by_cases h : x < 212
            · by_cases h : x < 210
              · by_cases h : x < 209
                · obtain rfl : x = 208 := by omega
                  exact ⟨8, by decide, by decide, len64Z_208⟩
                · obtain rfl : x = 209 := by omega
                  exact ⟨8, by decide, by decide, len64Z_209⟩
              · by_cases h : x < 211
                · obtain rfl : x = 210 := by omega
                  exact ⟨8, by decide, by decide, len64Z_210⟩
                · obtain rfl : x = 211 := by omega
                  exact ⟨8, by decide, by decide, len64Z_211⟩
            · by_cases h : x < 214
              · by_cases h : x < 213
                · obtain rfl : x = 212 := by omega
                  exact ⟨8, by decide, by decide, len64Z_212⟩
                · obtain rfl : x = 213 := by omega
                  exact ⟨8, by decide, by decide, len64Z_213⟩
              · by_cases h : x < 215
                · obtain rfl : x = 214 := by omega
                  exact ⟨8, by decide, by decide, len64Z_214⟩
                · obtain rfl : x = 215 := by omega
                  exact ⟨8, by decide, by decide, len64Z_215⟩
          · by_cases h : x < 220
            · by_cases h : x < 218
              · by_cases h : x < 217
                · obtain rfl : x = 216 := by omega
                  exact ⟨8, by decide, by decide, len64Z_216⟩
                · obtain rfl : x = 217 := by omega
                  exact ⟨8, by decide, by decide, len64Z_217⟩
              · by_cases h : x < 219
                · obtain rfl : x = 218 := by omega
                  exact ⟨8, by decide, by decide, len64Z_218⟩
                · obtain rfl : x = 219 := by omega
                  exact ⟨8, by decide, by decide, len64Z_219⟩
            · by_cases h : x < 222
              · by_cases h : x < 221
                · obtain rfl : x = 220 := by omega
                  exact ⟨8, by decide, by decide, len64Z_220⟩
                · obtain rfl : x = 221 := by omega
                  exact ⟨8, by decide, by decide, len64Z_221⟩
              · by_cases h : x < 223
                · obtain rfl : x = 222 := by omega
                  exact ⟨8, by decide, by decide, len64Z_222⟩
                · obtain rfl : x = 223 := by omega
                  exact ⟨8, by decide, by decide, len64Z_223⟩
      · by_cases h : x < 240
        · by_cases h : x < 232
          · by_cases h : x < 228
            · by_cases h : x < 226
              · by_cases h : x < 225
                · obtain rfl : x = 224 := by omega
                  exact ⟨8, by decide, by decide, len64Z_224⟩
                · obtain rfl : x = 225 := by omega
                  exact ⟨8, by decide, by decide, len64Z_225⟩
              · by_cases h : x < 227
                · obtain rfl : x = 226 := by omega
                  exact ⟨8, by decide, by decide, len64Z_226⟩
                · obtain rfl : x = 227 := by omega
                  exact ⟨8, by decide, by decide, len64Z_227⟩
            · by_cases h : x < 230
              · by_cases h : x < 229
                · obtain rfl : x = 228 := by omega
                  exact ⟨8, by decide, by decide, len64Z_228⟩
                · obtain rfl : x = 229 := by omega
                  exact ⟨8, by decide, by decide, len64Z_229⟩
              · by_cases h : x < 231
                · obtain rfl : x = 230 := by omega
                  exact ⟨8, by decide, by decide, len64Z_230⟩
                · obtain rfl : x = 231 := by omega
                  exact ⟨8, by decide, by decide, len64Z_231⟩
          · by_cases h : x < 236
            · by_cases h : x < 234
              · by_cases h : x < 233
                · obtain rfl : x = 232 := by omega
                  exact ⟨8, by decide, by decide, len64Z_232⟩
                · obtain rfl : x = 233 := by omega
                  exact ⟨8, by decide, by decide, len64Z_233⟩
              · by_cases h : x < 235
                · obtain rfl : x = 234 := by omega
                  exact ⟨8, by decide, by decide, len64Z_234⟩
                · obtain rfl : x = 235 := by omega
                  exact ⟨8, by decide, by decide, len64Z_235⟩
            · by_cases h : x < 238
              · by_cases h : x < 237
                · obtain rfl : x = 236 := by omega
                  exact ⟨8, by decide, by decide, len64Z_236⟩
                · obtain rfl : x = 237 := by omega
                  exact ⟨8, by decide, by decide, len64Z_237⟩
              · by_cases h : x < 239
                · obtain rfl : x = 238 := by omega
                  exact ⟨8, by decide, by decide, len64Z_238⟩
                · obtain rfl : x = 239 := by omega
                  exact ⟨8, by decide, by decide, len64Z_239⟩
        · by_cases h : x < 248
          · by_cases h : x < 244
            · by_cases h : x < 242
              · by_cases h : x < 241
                · obtain rfl : x = 240 := by omega
                  exact ⟨8, by decide, by decide, len64Z_240⟩
                · obtain rfl : x = 241 := by omega
                  exact ⟨8, by decide, by decide, len64Z_241⟩
              · by_cases h : x < 243
                · obtain rfl : x = 242 := by omega
                  exact ⟨8, by decide, by decide, len64Z_242⟩
                · obtain rfl : x = 243 := by omega
                  exact ⟨8, by decide, by decide, len64Z_243⟩
            · by_cases h : x < 246
              · by_cases h : x < 245
                · obtain rfl : x = 244 := by omega
                  exact ⟨8, by decide, by decide, len64Z_244⟩
                · obtain rfl : x = 245 := by omega
                  exact ⟨8, by decide, by decide, len64Z_245⟩
              · by_cases h : x < 247
                · obtain rfl : x = 246 := by omega
                  exact ⟨8, by decide, by decide, len64Z_246⟩
                · obtain rfl : x = 247 := by omega
                  exact ⟨8, by decide, by decide, len64Z_247⟩
          · by_cases h : x < 252
            · by_cases h : x < 250
              · by_cases h : x < 249
                · obtain rfl : x = 248 := by omega
                  exact ⟨8, by decide, by decide, len64Z_248⟩
                · obtain rfl : x = 249 := by omega
                  exact ⟨8, by decide, by decide, len64Z_249⟩
              · by_cases h : x < 251
                · obtain rfl : x = 250 := by omega
                  exact ⟨8, by decide, by decide, len64Z_250⟩
                · obtain rfl : x = 251 := by omega
                  exact ⟨8, by decide, by decide, len64Z_251⟩
            · by_cases h : x < 254
              · by_cases h : x < 253
                · obtain rfl : x = 252 := by omega
                  exact ⟨8, by decide, by decide, len64Z_252⟩
                · obtain rfl : x = 253 := by omega
                  exact ⟨8, by decide, by decide, len64Z_253⟩
              · by_cases h : x < 255
                · obtain rfl : x = 254 := by omega
                  exact ⟨8, by decide, by decide, len64Z_254⟩
                · obtain rfl : x = 255 := by omega
                  exact ⟨8, by decide, by decide, len64Z_255⟩
end Go.Proofs.Ytcfenjpdjogmdaa
