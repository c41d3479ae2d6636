import Derived.Test.YtgdliomkdkjlaaaPWriter
import Derived.Test.YtgdliomkdkjlaaaPCopied
namespace Go.Proofs.Ytgdliomkdkjlaaa
open Go.RowKit Crc

set_option maxRecDepth 10000 in
set_option maxHeartbeats 400000 in
theorem wU8_good (base lim p v : Nat) (vi place most : Int) (L : List Nat) (w : World) (hvi : vi = (v : Int)) (hv : v < 256) (hW : Wr base w p true place 0 most L) (hm : most ≤ 65507) (hfit : ((L.length + 1 : Nat) : Int) ≤ most) (hbs : base ≤ w.heap.size) (hl1 : lim ≤ base) (hl2 : lim ≤ p) :
    Calls Try.prog 29 #[.pointer (some ⟨p, 0, none⟩), .int .u8 vi] w fun e w' => e = .returned (.tuple #[]) ∧ Wr base w' p true place 0 most (L ++ big v 1) ∧ Below lim w w' := by
  have HF : Hid (Calls Try.prog 70 #[.pointer (some ⟨p, 0, none⟩), .int .u64 vi, .int .i64 1] w fun e w' => e = .returned (.tuple #[]) ∧ Wr base w' p true place 0 most (L ++ big v 1) ∧ Below lim w w') := fixed_good base lim p v 1 vi 1 place most L w hvi rfl (by omega) hW hm hfit hbs hl1 hl2
  have h0 : 0 ≤ vi := by omega
  have h1 : vi < 256 := by omega
  clear hW hvi
  go_enter Try.func29, Try.ntmps29
  go_wp2_with fail
  refine HF.out.mono ?_
  rintro e w1 ⟨rfl, hr⟩
  have HR : Hid (Wr base w1 p true place 0 most (L ++ big v 1) ∧ Below lim w w1) := hr
  clear hr
  go_wp2
  go_end0
  exact ⟨rfl, HR.out⟩

set_option maxRecDepth 10000 in
set_option maxHeartbeats 400000 in
theorem wU16_good (base lim p v : Nat) (vi place most : Int) (L : List Nat) (w : World) (hvi : vi = (v : Int)) (hv : v < 65536) (hW : Wr base w p true place 0 most L) (hm : most ≤ 65507) (hfit : ((L.length + 2 : Nat) : Int) ≤ most) (hbs : base ≤ w.heap.size) (hl1 : lim ≤ base) (hl2 : lim ≤ p) :
    Calls Try.prog 31 #[.pointer (some ⟨p, 0, none⟩), .int .u16 vi] w fun e w' => e = .returned (.tuple #[]) ∧ Wr base w' p true place 0 most (L ++ big v 2) ∧ Below lim w w' := by
  have HF : Hid (Calls Try.prog 70 #[.pointer (some ⟨p, 0, none⟩), .int .u64 vi, .int .i64 2] w fun e w' => e = .returned (.tuple #[]) ∧ Wr base w' p true place 0 most (L ++ big v 2) ∧ Below lim w w') := fixed_good base lim p v 2 vi 2 place most L w hvi rfl (by omega) hW hm hfit hbs hl1 hl2
  have h0 : 0 ≤ vi := by omega
  have h1 : vi < 65536 := by omega
  clear hW hvi
  go_enter Try.func31, Try.ntmps31
  go_wp2_with fail
  refine HF.out.mono ?_
  rintro e w1 ⟨rfl, hr⟩
  have HR : Hid (Wr base w1 p true place 0 most (L ++ big v 2) ∧ Below lim w w1) := hr
  clear hr
  go_wp2
  go_end0
  exact ⟨rfl, HR.out⟩

set_option maxRecDepth 10000 in
set_option maxHeartbeats 400000 in
theorem wU32_good (base lim p v : Nat) (vi place most : Int) (L : List Nat) (w : World) (hvi : vi = (v : Int)) (hv : v < 4294967296) (hW : Wr base w p true place 0 most L) (hm : most ≤ 65507) (hfit : ((L.length + 4 : Nat) : Int) ≤ most) (hbs : base ≤ w.heap.size) (hl1 : lim ≤ base) (hl2 : lim ≤ p) :
    Calls Try.prog 32 #[.pointer (some ⟨p, 0, none⟩), .int .u32 vi] w fun e w' => e = .returned (.tuple #[]) ∧ Wr base w' p true place 0 most (L ++ big v 4) ∧ Below lim w w' := by
  have HF : Hid (Calls Try.prog 70 #[.pointer (some ⟨p, 0, none⟩), .int .u64 vi, .int .i64 4] w fun e w' => e = .returned (.tuple #[]) ∧ Wr base w' p true place 0 most (L ++ big v 4) ∧ Below lim w w') := fixed_good base lim p v 4 vi 4 place most L w hvi rfl (by omega) hW hm hfit hbs hl1 hl2
  have h0 : 0 ≤ vi := by omega
  have h1 : vi < 4294967296 := by omega
  clear hW hvi
  go_enter Try.func32, Try.ntmps32
  go_wp2_with fail
  refine HF.out.mono ?_
  rintro e w1 ⟨rfl, hr⟩
  have HR : Hid (Wr base w1 p true place 0 most (L ++ big v 4) ∧ Below lim w w1) := hr
  clear hr
  go_wp2
  go_end0
  exact ⟨rfl, HR.out⟩

set_option maxRecDepth 10000 in
set_option maxHeartbeats 400000 in
theorem wU64_good (base lim p v : Nat) (vi place most : Int) (L : List Nat) (w : World) (hvi : vi = (v : Int)) (hW : Wr base w p true place 0 most L) (hm : most ≤ 65507) (hfit : ((L.length + 8 : Nat) : Int) ≤ most) (hbs : base ≤ w.heap.size) (hl1 : lim ≤ base) (hl2 : lim ≤ p) :
    Calls Try.prog 33 #[.pointer (some ⟨p, 0, none⟩), .int .u64 vi] w fun e w' => e = .returned (.tuple #[]) ∧ Wr base w' p true place 0 most (L ++ big v 8) ∧ Below lim w w' := by
  have HF : Hid (Calls Try.prog 70 #[.pointer (some ⟨p, 0, none⟩), .int .u64 vi, .int .i64 8] w fun e w' => e = .returned (.tuple #[]) ∧ Wr base w' p true place 0 most (L ++ big v 8) ∧ Below lim w w') := fixed_good base lim p v 8 vi 8 place most L w hvi rfl (by omega) hW hm hfit hbs hl1 hl2
  clear hW hvi
  go_enter Try.func33, Try.ntmps33
  go_wp2_with fail
  refine HF.out.mono ?_
  rintro e w1 ⟨rfl, hr⟩
  have HR : Hid (Wr base w1 p true place 0 most (L ++ big v 8) ∧ Below lim w w1) := hr
  clear hr
  go_wp2
  go_end0
  exact ⟨rfl, HR.out⟩

set_option maxRecDepth 10000 in
set_option maxHeartbeats 400000 in
theorem wFlag_good (base lim p : Nat) (b : Bool) (place most : Int) (L : List Nat) (w : World) (hW : Wr base w p true place 0 most L) (hm : most ≤ 65507) (hfit : ((L.length + 1 : Nat) : Int) ≤ most) (hbs : base ≤ w.heap.size) (hl1 : lim ≤ base) (hl2 : lim ≤ p) :
    Calls Try.prog 36 #[.pointer (some ⟨p, 0, none⟩), .bool b] w fun e w' => e = .returned (.tuple #[]) ∧ Wr base w' p true place 0 most (L ++ big (if b then 1 else 0) 1) ∧ Below lim w w' := by
  cases b
  · have HF : Hid (Calls Try.prog 29 #[.pointer (some ⟨p, 0, none⟩), .int .u8 0] w fun e w' => e = .returned (.tuple #[]) ∧ Wr base w' p true place 0 most (L ++ big 0 1) ∧ Below lim w w') := wU8_good base lim p 0 0 place most L w rfl (by omega) hW hm hfit hbs hl1 hl2
    clear hW
    go_enter Try.func36, Try.ntmps36
    go_wp2_with fail
    refine HF.out.mono ?_
    rintro e w1 ⟨rfl, hr⟩
    have HR : Hid (Wr base w1 p true place 0 most (L ++ big 0 1) ∧ Below lim w w1) := hr
    clear hr
    go_wp2
    go_end0
    exact ⟨rfl, HR.out⟩
  · have HF : Hid (Calls Try.prog 29 #[.pointer (some ⟨p, 0, none⟩), .int .u8 1] w fun e w' => e = .returned (.tuple #[]) ∧ Wr base w' p true place 0 most (L ++ big 1 1) ∧ Below lim w w') := wU8_good base lim p 1 1 place most L w rfl (by omega) hW hm hfit hbs hl1 hl2
    clear hW
    go_enter Try.func36, Try.ntmps36
    go_wp2_with fail
    refine HF.out.mono ?_
    rintro e w1 ⟨rfl, hr⟩
    have HR : Hid (Wr base w1 p true place 0 most (L ++ big 1 1) ∧ Below lim w w1) := hr
    clear hr
    go_wp2
    go_end0
    exact ⟨rfl, HR.out⟩

/-- All that a method of the writer's needs behind 'takes': the laid list, its growth, its store. -/
theorem wr_open {base lim p : Nat} {w : World} {place most : Int} {L : List Nat} (hW : Wr base w p true place 0 most L) (hm : most ≤ 65507) (hlen : (L.length : Int) ≤ most) (hl1 : lim ≤ base) (hl2 : lim ≤ p) :
    ∃ (ao : Option Addr) (cap : Nat), w.cell? ⟨p, 4, none⟩ = some (.slice ao L.length cap) ∧ Owns base w (.slice ao L.length cap) L ∧
      (∀ sz : Int, sz ≤ most - (L.length : Int) → Calls Try.prog 73 #[.pointer (some ⟨p, 0, none⟩), .int .i64 sz, .int .i64 0] w fun e w' => e = .returned (.bool true) ∧ ∃ q, w' = w.drewN q) ∧
      (∀ (w2 : World) (v' : Value) (L' : List Nat), Owns base w2 v' L' → Ext w w2 (.slice ao L.length cap) v' → w2.cell? ⟨p, 4, none⟩ = some (.slice ao L.length cap) ∧ w2.frozen? ⟨p, 4, none⟩ = false ∧ Wr base (w2.setCell ⟨p, 4, none⟩ v') p true place 0 most L' ∧ Below lim w (w2.setCell ⟨p, 4, none⟩ v')) := by
  obtain ⟨u, hb, hO, hne⟩ := hW
  obtain ⟨ao, cap, rfl, hS, _⟩ := hO.form
  have c0 := block_cell hb 0
  have c2 := block_cell hb 2
  have c3 := block_cell hb 3
  have c4 := block_cell hb 4
  simp at c0 c2 c3 c4
  refine ⟨ao, cap, c4, hO, fun sz hsz => takes_good p most ao L.length cap sz w c0 c2 c3 c4 hm hlen hsz, fun w2 v' L' ho he => ?_⟩
  obtain ⟨k4, f4⟩ := wr_cell hb hne he
  exact ⟨k4, f4, wr_after hb hne (fun g hg => (hO.1.lt g hg).1) he ho hl1 hl2⟩
theorem ext_drew {w w2 : World} {v v' : Value} {q : Nat} (he : Ext (w.drewN q) w2 v v') : Ext w w2 v v' := ⟨⟨he.1.os, he.1.tape, he.1.output, he.1.size, he.1.block⟩, he.2⟩

set_option maxRecDepth 10000 in
set_option maxHeartbeats 800000 in
theorem wNum_good (base lim p v : Nat) (vi place most : Int) (L : List Nat) (w : World) (hvi : vi = (v : Int)) (hv : v < 18446744073709551616) (hW : Wr base w p true place 0 most L) (hm : most ≤ 65507) (hfit : ((L.length + (numB v).length : Nat) : Int) ≤ most) (hbs : base ≤ w.heap.size) (hl1 : lim ≤ base) (hl2 : lim ≤ p) :
    Calls Try.prog 34 #[.pointer (some ⟨p, 0, none⟩), .int .u64 vi] w fun e w' => e = .returned (.tuple #[]) ∧ Wr base w' p true place 0 most (L ++ numB v) ∧ Below lim w w' := by
  obtain ⟨ao, cap, c4, hO, htk, hfin⟩ := wr_open hW hm (by omega) hl1 hl2
  have HNS : Hid (Calls Try.prog 74 #[.int .u64 vi] w fun e w' => e = .returned (.int .i64 ((numB v).length : Nat)) ∧ w' = w) := numSize_any v vi w hvi hv
  have HTK : Hid (Calls Try.prog 73 #[.pointer (some ⟨p, 0, none⟩), .int .i64 ((numB v).length : Nat), .int .i64 0] w fun e w' => e = .returned (.bool true) ∧ ∃ q, w' = w.drewN q) := htk _ (by omega)
  have HAP : Hid (∀ q, Calls Try.prog 75 #[.slice ao L.length cap, .int .u64 vi] (w.drewN q) fun e w' => ∃ v', e = .returned v' ∧ Owns base w' v' (L ++ numB v) ∧ Ext (w.drewN q) w' (.slice ao L.length cap) v') :=
    fun q => appendNum_any base _ L v vi (w.drewN q) hvi hv (hO.drew q) (by omega) hbs
  have HFIN := hide hfin
  clear hfin htk hO hW hvi
  generalize (numB v).length = ns at *
  go_enter Try.func34, Try.ntmps34
  go_wp2_with fail
  refine HNS.out.mono ?_
  rintro e w0 ⟨rfl, rfl⟩
  go_wp2_with fail
  refine HTK.out.mono ?_
  rintro e w1 ⟨rfl, q, rfl⟩
  go_wp2_with fail
  refine (HAP.out q).mono ?_
  rintro e w2 ⟨v', rfl, ho, he⟩
  obtain ⟨k4, f4, hr⟩ := HFIN.out w2 v' _ ho (ext_drew he)
  obtain ⟨a', c', rfl, _, _⟩ := ho.form
  have HR := hide hr
  clear hr ho he HFIN HAP HTK HNS c4
  generalize (L ++ numB v).length = m at *
  go_wp2
  go_end0
  exact ⟨rfl, HR.out⟩
end Go.Proofs.Ytgdliomkdkjlaaa
