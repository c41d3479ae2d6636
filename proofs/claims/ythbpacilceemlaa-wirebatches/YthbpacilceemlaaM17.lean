import Derived.Test.YthbpacilceemlaaM16
import Derived.Test.YthbpacilceemlaaM0
namespace Go.Proofs.Ythbpacilceemlaa
open Go.RowKit Crc

set_option maxRecDepth 10000 in
set_option maxHeartbeats 400000 in
theorem newWriter_full (w : World) :
    Calls Try.prog 22 #[.int .i64 65507] w fun e w' => e = .returned (.pointer (some ⟨w.heap.size, 0, none⟩)) ∧ Wr w.heap.size w' w.heap.size true 0 0 65507 [] ∧ Below w.heap.size w w' := by
  go_enter Try.func22, Try.ntmps22
  go_wp2
  go_ret
  refine ⟨rfl, ⟨.slice none 0 0, ?_, Owns.nil _ _, by simp [Value.ownBlock]⟩, (Below.refl _ w).alloc (Nat.le_refl _) _⟩
  exact heap_alloc_new w _

set_option maxRecDepth 10000 in
set_option maxHeartbeats 400000 in
theorem told_sound (p : Nat) (w : World) (h0 : w.cell? ⟨p, 0, none⟩ = some (.bool true)) (h2 : w.cell? ⟨p, 2, none⟩ = some (.int .i64 0)) :
    Calls Try.prog 67 #[.pointer (some ⟨p, 0, none⟩)] w fun e w' => e = .returned .nilIface ∧ w' = w := by
  go_enter Try.func67, Try.ntmps67
  go_wp2
  go_ret
  exact ⟨rfl, rfl⟩

set_option maxRecDepth 10000 in
set_option maxHeartbeats 400000 in
theorem wLen_any (base p : Nat) (made : Bool) (place why most : Int) (L : List Nat) (w : World) (hW : Wr base w p made place why most L) :
    Calls Try.prog 9 #[.pointer (some ⟨p, 0, none⟩)] w fun e w' => e = .returned (.int .i64 (L.length : Nat)) ∧ w' = w := by
  obtain ⟨u, hb, hO, hne⟩ := hW
  obtain ⟨ao, cap, rfl, hS, _⟩ := hO.form
  have c4 := block_cell hb 4
  simp at c4
  clear hb hO hne hS
  generalize L.length = n at *
  go_enter Try.func9, Try.ntmps9
  go_wp2
  go_ret
  exact ⟨rfl, rfl⟩

set_option maxRecDepth 10000 in
set_option maxHeartbeats 400000 in
theorem wBytes_good (base p : Nat) (place most : Int) (L : List Nat) (w : World) (hW : Wr base w p true place 0 most L) :
    Calls Try.prog 24 #[.pointer (some ⟨p, 0, none⟩)] w fun e w' => ∃ v, e = .returned (.tuple #[v, .nilIface]) ∧ Owns w.heap.size w' v L ∧ Below w.heap.size w w' := by
  obtain ⟨u, hb, hO, hne⟩ := hW
  obtain ⟨ao, cap, rfl, hS, _⟩ := hO.form
  have c0 := block_cell hb 0
  have c2 := block_cell hb 2
  have c4 := block_cell hb 4
  simp at c0 c2 c4
  have HTS := hide (told_sound p w c0 c2)
  have HCP := hide (copied_sh hS (Nat.le_refl _))
  have HOO := hide hO.2
  clear hb hO hne hS c0 c2
  generalize L.length = n at c4 HCP
  go_enter Try.func24, Try.ntmps24
  go_wp2_with fail
  refine HTS.out.mono ?_
  rintro e w1 ⟨rfl, rfl⟩
  go_wp2_with fail
  refine HCP.out.mono ?_
  rintro e w2 ⟨v, rfl, _, _, hfr⟩
  go_wp2
  go_ret2
  exact ⟨v, rfl, ⟨hfr.1, HOO.out⟩, hfr.2⟩

set_option maxRecDepth 10000 in
set_option maxHeartbeats 400000 in
theorem readerAt_any (ao : Option Addr) (n cap pos : Nat) (w : World) :
    Calls Try.prog 52 #[.slice ao n cap, .int .i64 (pos : Int)] w fun e w' => e = .returned (.agg #[.bool true, .int .i64 0, .int .i64 0, .slice ao n cap, .int .i64 (pos : Int)]) ∧ Below w.heap.size w w' := by
  go_enter Try.func52, Try.ntmps52
  go_wp2
  refine bodyPost_ret (v := .agg #[.bool true, .int .i64 0, .int .i64 0, .slice ao n cap, .int .i64 (pos : Int)]) (by simp [results, Try.results52, go_sem]) rfl ⟨rfl, (Below.refl _ w).alloc (Nat.le_refl _) _⟩

set_option maxRecDepth 10000 in
set_option maxHeartbeats 400000 in
theorem newReader_any {lim : Nat} {w : World} {ao : Option Addr} {n cap : Nat} {B : List Nat} (h : Shows lim w ao n cap B) (hlw : lim ≤ w.heap.size) :
    Calls Try.prog 12 #[.slice ao n cap] w fun e w' => ∃ p lim', e = .returned (.pointer (some ⟨p, 0, none⟩)) ∧ w.heap.size ≤ p ∧ w.heap.size ≤ lim' ∧ RdS lim' w' p ⟨true, 0, 0, B, 0⟩ ∧ Below w.heap.size w w' := by
  have HCP := hide (copied_sh h hlw)
  have HB := hide h.2.2.2.1
  have HN := hide h.1
  have HN2 := hide h.2.2.1
  clear h
  go_enter Try.func12, Try.ntmps12
  go_wp2_with fail
  refine HCP.out.mono ?_
  rintro e w1 ⟨v, rfl, _, _, hfr⟩
  have HO1 : Hid (Owns w.heap.size w1 v B) := ⟨hfr.1, HB.out, by rw [← HN.out]; exact HN2.out⟩
  have HB1 := hide hfr.2
  clear hfr
  obtain ⟨a1, c1, rfl, hs1, _⟩ := HO1.out.form
  have HS1 := hide hs1
  have HBL : Hid (B.length = n) := HN.out.symm
  clear hs1
  generalize hbl : B.length = m at *
  go_wp2_with fail
  refine (readerAt_any a1 m c1 0 w1).mono ?_
  rintro e w2 ⟨rfl, hb2⟩
  have HB2 := hide hb2
  clear hb2
  go_wp2
  go_ret
  refine ⟨w2.heap.size, w1.heap.size, rfl, Nat.le_trans HB1.out.size HB2.out.size, HB1.out.size, ⟨a1, c1, ?_, ?_, Nat.zero_le _, HB2.out.size⟩, ?_⟩
  · rw [hbl]
    exact heap_alloc_new w2 _
  · rw [hbl]
    exact (HS1.out.kept (below_none HB2.out) (fun g hg => by cases hg)).kept (World.grownBy_alloc w2 _ none) (fun g hg => by cases hg)
  · exact (HB1.out.trans (HB2.out.mono HB1.out.size)).alloc (Nat.le_trans HB1.out.size HB2.out.size) _

set_option maxRecDepth 10000 in
set_option maxHeartbeats 400000 in
theorem rAt_any (lim p : Nat) (s : RS) (w : World) (hR : RdS lim w p s) :
    Calls Try.prog 27 #[.pointer (some ⟨p, 0, none⟩)] w fun e w' => e = .returned (.int .i64 (s.pos : Nat)) ∧ w' = w := by
  obtain ⟨ao, cap, hb, hS, hp, hl⟩ := hR
  have c4 := block_cell hb 4
  simp at c4
  clear hb hS hp hl
  go_enter Try.func27, Try.ntmps27
  go_wp2
  go_ret
  exact ⟨rfl, rfl⟩

set_option maxRecDepth 10000 in
set_option maxHeartbeats 400000 in
theorem rLeft_any (lim p : Nat) (s : RS) (w : World) (hR : RdS lim w p s) :
    Calls Try.prog 28 #[.pointer (some ⟨p, 0, none⟩)] w fun e w' => e = .returned (.int .i64 ((s.B.length - s.pos : Nat) : Int)) ∧ ∃ q, w' = w.drewN q := by
  obtain ⟨ao, cap, hb, hS, hp, hl⟩ := hR
  have c3 := block_cell hb 3
  have c4 := block_cell hb 4
  simp at c3 c4
  have hn := hS.2.2.1
  clear hb hS hl
  have HE : Hid ((s.B.length : Int) - (s.pos : Int) = ((s.B.length - s.pos : Nat) : Int)) := by show _ = _; omega
  generalize s.B.length = n at *
  generalize s.pos = pos at *
  have h0 : (pos : Int) ≤ (n : Int) := by omega
  go_enter Try.func28, Try.ntmps28
  go_wp2_with fail
  go_quiet (fail)
  go_wp2
  go_ret
  exact ⟨by rw [← HE.out]; rfl, _, rfl⟩

set_option maxRecDepth 10000 in
set_option maxHeartbeats 400000 in
theorem rErr_sound (lim p : Nat) (s : RS) (w : World) (hR : RdS lim w p s) (hs : s.sound) :
    Calls Try.prog 19 #[.pointer (some ⟨p, 0, none⟩)] w fun e w' => e = .returned .nilIface ∧ w' = w := by
  obtain ⟨ao, cap, hb, hS, hp, hl⟩ := hR
  have c0 := block_cell hb 0
  have c2 := block_cell hb 2
  simp at c0 c2
  rw [hs.1] at c0
  rw [hs.2] at c2
  have HTS := hide (told_sound p w c0 c2)
  clear hb hS hp hl hs c0 c2
  go_enter Try.func19, Try.ntmps19
  go_wp2_with fail
  refine HTS.out.mono ?_
  rintro e w1 ⟨rfl, rfl⟩
  go_wp2
  go_ret
  exact ⟨rfl, rfl⟩

set_option maxRecDepth 10000 in
set_option maxHeartbeats 400000 in
theorem rEnd_sound (lim p : Nat) (s : RS) (w : World) (hR : RdS lim w p s) (hs : s.sound) (he : s.pos = s.B.length) :
    Calls Try.prog 26 #[.pointer (some ⟨p, 0, none⟩)] w fun e w' => e = .returned .nilIface ∧ ∃ q, w' = w.drewN q := by
  have HER := hide (rErr_sound lim p s w hR hs)
  have HLF : Hid (Calls Try.prog 28 #[.pointer (some ⟨p, 0, none⟩)] w fun e w' => e = .returned (.int .i64 0) ∧ ∃ q, w' = w.drewN q) := by
    have h := rLeft_any lim p s w hR
    rw [he, Nat.sub_self] at h
    exact h
  clear hR hs he
  go_enter Try.func26, Try.ntmps26
  go_wp2_with fail
  refine HER.out.mono ?_
  rintro e w1 ⟨rfl, rfl⟩
  go_wp2_with fail
  refine HLF.out.mono ?_
  rintro e w2 ⟨rfl, q, rfl⟩
  go_wp2
  go_ret
  exact ⟨rfl, q, rfl⟩
end Go.Proofs.Ythbpacilceemlaa
namespace Go.Proofs.Ythbpacilceemlaa
open Go.RowKit Crc

set_option maxRecDepth 10000 in
set_option maxHeartbeats 400000 in
theorem told_nil (w : World) : Calls Try.prog 18 #[.nilIface] w fun e w' => e = .returned (.tuple #[.int .i64 0, .int .i64 0]) ∧ w' = w := by
  go_enter Try.func18, Try.ntmps18
  go_wp2
  go_ret2
  exact ⟨rfl, rfl⟩
theorem assert_ptr (g : Nat) (w : World) : (Instr.typeAssert (.iface 101 (.pointer (some ⟨g, 0, none⟩))) 58 101 true).run Try.prog w = .ok (.tuple #[.pointer (some ⟨g, 0, none⟩), .bool true]) w := by kernel_rfl
theorem assert_num (n : Int) (w : World) : (Instr.typeAssert (.iface 41 (.int .i64 n)) 58 41 true).run Try.prog w = .ok (.tuple #[.int .i64 n, .bool true]) w := by kernel_rfl
set_option maxRecDepth 10000 in
set_option maxHeartbeats 400000 in
theorem told_fault (v : Value) (at_ why : Int) (w : World) (h : IsFault w v at_ why) (hne : why ≠ 0) :
    Calls Try.prog 18 #[v] w fun e w' => e = .returned (.tuple #[.int .i64 why, .int .i64 at_]) ∧ ∃ q, w' = w.drewN q := by
  obtain ⟨g, rfl, k0, k1, k2⟩ := h
  have hw : (why == 0) = false := by simp [hne]
  clear hne
  have ta1 := assert_ptr g
  have ta2 := assert_num why
  go_enter Try.func18, Try.ntmps18
  go_wp2
  go_quiet (fail)
  go_wp2
  go_ret2
  exact ⟨rfl, _, rfl⟩
set_option maxRecDepth 10000 in
set_option maxHeartbeats 400000 in
theorem refusal_any (at_ why : Int) (w : World) :
    Calls Try.prog 66 #[.int .i64 at_, .int .i64 why] w fun e w' => ∃ v, e = .returned v ∧ v = .iface 101 (.pointer (some ⟨w.heap.size, 0, none⟩)) ∧ IsFault w' v at_ why ∧ Below w.heap.size w w' := by
  go_enter Try.func66, Try.ntmps66
  go_wp2
  go_ret
  refine ⟨_, rfl, rfl, ⟨w.heap.size, rfl, ?_, ?_, ?_⟩, (Below.refl _ _).alloc (Nat.le_refl _) _⟩ <;> simp
end Go.Proofs.Ythbpacilceemlaa
