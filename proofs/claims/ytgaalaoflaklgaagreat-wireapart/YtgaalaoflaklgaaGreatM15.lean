import Derived.Test.YtgaalaoflaklgaaGreatPXR
import Derived.Lib.AppendStr
import Derived.Test.YtgaalaoflaklgaaGreatM2
import Derived.Test.YtgaalaoflaklgaaGreatM13
namespace Go.Proofs.YtgaalaoflaklgaaGreat
open Go.RowKit Crc

/-- What put says behind bytes that were just made. -/
theorem put_after {base p : Nat} {w w1 : World} {s : WS} (hW : RefW base w p s) (hi : s.Inv) (hbs : base ≤ w.heap.size) {v : Value} {F : List Nat} (y : Int) (hO : Owns w.heap.size w1 v F) (hb : Below w.heap.size w w1) :
    Calls Tryz.prog 68 #[.pointer (some ⟨p, 0, none⟩), v, .int .i64 y] w1 fun e w' => e = .returned (.tuple #[]) ∧ Hid (RefW base w' p (s.put F y) ∧ Tch 2 w w' p) := by
  obtain ⟨ao, cap, rfl, hS, _⟩ := hO.form
  refine (refPut_any (hW.below hb) hi (Nat.le_trans hbs hb.size) ao _ cap F y hS (Nat.le_refl _)).mono ?_
  rintro e w' ⟨rfl, h⟩
  exact ⟨rfl, h.out.1, Tch.from hb hW.plt h.out.2⟩

set_option maxRecDepth 10000 in
set_option maxHeartbeats 400000 in
theorem refWFixed {base p : Nat} {w : World} {s : WS} (hW : RefW base w p s) (hi : s.Inv) (hbs : base ≤ w.heap.size) (v k : Nat) (vi ki : Int) (hvi : vi = (v : Int)) (hki : ki = (k : Int)) (hk : k ≤ 8) :
    Calls Tryz.prog 43 #[.pointer (some ⟨p, 0, none⟩), .int .u64 vi, .int .i64 ki] w fun e w' => e = .returned (.tuple #[]) ∧ Hid (RefW base w' p (s.put (big v k) 0) ∧ Tch 2 w w' p) := by
  have HB := hide (big_any v k vi ki w hvi hki hk)
  have HP : Hid (∀ w1 x, Owns w.heap.size w1 x (big v k) → Below w.heap.size w w1 → _) := fun w1 x h1 h2 => put_after hW hi hbs (v := x) 0 h1 h2
  clear hW hi hvi hki
  go_enter Tryz.func43, Tryz.ntmps43
  go_wp2_with fail
  refine HB.out.mono ?_
  rintro e w1 ⟨x, rfl, h1, h2⟩
  have HP1 := hide (HP.out w1 x h1 h2)
  obtain ⟨a1, c1, rfl, _, _⟩ := h1.form
  clear h1 h2
  generalize (big v k).length = m at *
  go_wp2_with fail
  refine HP1.out.mono ?_
  rintro e w2 ⟨rfl, H⟩
  go_wp2
  go_end0
  exact ⟨rfl, H⟩

set_option maxRecDepth 10000 in
set_option maxHeartbeats 400000 in
theorem refWNum {base p : Nat} {w : World} {s : WS} (hW : RefW base w p s) (hi : s.Inv) (hbs : base ≤ w.heap.size) (v : Nat) (vi : Int) (hvi : vi = (v : Int)) (hv : v < 18446744073709551616) :
    Calls Tryz.prog 45 #[.pointer (some ⟨p, 0, none⟩), .int .u64 vi] w fun e w' => e = .returned (.tuple #[]) ∧ Hid (RefW base w' p (s.put (numB v) 0) ∧ Tch 2 w w' p) := by
  have HB := hide (refNumB v vi w hvi hv)
  have HP : Hid (∀ w1 x, Owns w.heap.size w1 x (numB v) → Below w.heap.size w w1 → _) := fun w1 x h1 h2 => put_after hW hi hbs (v := x) 0 h1 h2
  clear hW hi hvi
  go_enter Tryz.func45, Tryz.ntmps45
  go_wp2_with fail
  refine HB.out.mono ?_
  rintro e w1 ⟨x, rfl, h1, h2⟩
  have HP1 := hide (HP.out w1 x h1 h2)
  obtain ⟨a1, c1, rfl, _, _⟩ := h1.form
  clear h1 h2
  generalize (numB v).length = m at *
  go_wp2_with fail
  refine HP1.out.mono ?_
  rintro e w2 ⟨rfl, H⟩
  go_wp2
  go_end0
  exact ⟨rfl, H⟩

/-- A refusal without bytes. -/
theorem put_none {base p : Nat} {w : World} {s : WS} (hW : RefW base w p s) (hi : s.Inv) (hbs : base ≤ w.heap.size) (F : List Nat) {y : Int} (hy : y ≠ 0) :
    Calls Tryz.prog 68 #[.pointer (some ⟨p, 0, none⟩), .slice none 0 0, .int .i64 y] w fun e w' => e = .returned (.tuple #[]) ∧ Hid (RefW base w' p (s.put F y) ∧ Tch 2 w w' p) := by
  refine (refPut_any (flim := 0) hW hi hbs none 0 0 [] y shows_none (Nat.zero_le _)).mono ?_
  rintro e w' ⟨rfl, h⟩
  refine ⟨rfl, ?_, h.out.2⟩
  have h1 := h.out.1
  by_cases hs : s.sound
  · rw [WS.put_own hs F hy]
    rw [WS.put_own hs [] hy] at h1
    exact h1
  · rw [WS.put_not hs]
    rw [WS.put_not hs] at h1
    exact h1

set_option maxRecDepth 10000 in
set_option maxHeartbeats 400000 in
theorem refWBlob {base p blim : Nat} {w : World} {s : WS} (hW : RefW base w p s) (hi : s.Inv) (hbs : base ≤ w.heap.size) (bo : Option Addr) (n bcap : Nat) (B : List Nat) (cm : Int) (hS : Shows blim w bo n bcap B) (hbl : blim ≤ w.heap.size) (hn : n ≤ 140737488351232) :
    Calls Tryz.prog 47 #[.pointer (some ⟨p, 0, none⟩), .slice bo n bcap, .int .i64 cm] w fun e w' => e = .returned (.tuple #[]) ∧ Hid (RefW base w' p (s.put (numB n ++ B) (cntY n cm)) ∧ Tch 2 w w' p) := by
  by_cases h : cm < (n : Int)
  · have HC : Hid (cntY n cm = 21) := by unfold cntY; rw [if_pos (.inr h)]; rfl
    rw [HC.out]
    have HP := hide (put_none hW hi hbs (numB n ++ B) (y := 21) (by decide))
    have d1 : decide (cm < (n : Int)) = true := by simp [h]
    clear hW hi h hS
    go_enter Tryz.func47, Tryz.ntmps47
    go_wp2_with fail
    refine HP.out.mono ?_
    rintro e w2 ⟨rfl, H⟩
    go_wp2
    refine bodyPost_ret (v := .tuple #[]) (by simp [results, Tryz.results47, go_sem]) rfl ⟨rfl, H⟩
  · have HC : Hid (cntY n cm = 0) := by unfold cntY; rw [if_neg (by omega)]; rfl
    rw [HC.out]
    have hnl : (numB n).length ≤ 10 := numTo_len 9 n
    have HB := hide (refNumB n n w rfl (by omega))
    have HJN : Hid (∀ w1 a1 c1, Shows w1.heap.size w1 a1 (numB n).length c1 (numB n) → Below w.heap.size w w1 → Calls Tryz.prog 71 #[.slice a1 (numB n).length c1, .slice bo n bcap] w1 fun e w' => ∃ v, e = .returned v ∧ Hid (Owns w.heap.size w' v (numB n ++ B) ∧ Below w.heap.size w w')) := by
      intro w1 a1 c1 hs1 hb1
      refine (join_any hs1 (Nat.le_refl _) (hS.kept (below_none hb1) (fun g hg => by cases hg)) (Nat.le_trans hbl hb1.size) (by omega)).mono ?_
      rintro e w' ⟨v, rfl, h1, h2⟩
      exact ⟨v, rfl, h1.lower hb1.size, hb1.trans (h2.mono hb1.size)⟩
    have HP : Hid (∀ w1 x, Owns w.heap.size w1 x (numB n ++ B) → Below w.heap.size w w1 → _) := fun w1 x h1 h2 => put_after hW hi hbs (v := x) 0 h1 h2
    have d1 : decide (cm < (n : Int)) = false := by simp; omega
    have hcv : IntKind.u64.wrap (n : Int) = (n : Int) := by simp [IntKind.wrap, IntKind.bits, IntKind.signed]; omega
    clear hW hi h HC hS hnl
    go_enter Tryz.func47, Tryz.ntmps47
    go_wp2_with fail
    refine HB.out.mono ?_
    rintro e w1 ⟨x, rfl, h1, h2⟩
    obtain ⟨a1, c1, rfl, hs1, _⟩ := h1.form
    have HJ1 := hide (HJN.out w1 a1 c1 hs1 h2)
    clear h1 h2 hs1 HJN
    generalize (numB n).length = m at *
    go_wp2_with fail
    refine HJ1.out.mono ?_
    rintro e w2 ⟨x2, rfl, H2⟩
    have HP1 := hide (HP.out w2 x2 H2.out.1 H2.out.2)
    obtain ⟨a2, c2, rfl, _, _⟩ := H2.out.1.form
    clear H2 HP
    generalize (numB n ++ B).length = m2 at *
    go_wp2_with fail
    refine HP1.out.mono ?_
    rintro e w3 ⟨rfl, H⟩
    go_wp2
    go_end0
    exact ⟨rfl, H⟩
end Go.Proofs.YtgaalaoflaklgaaGreat
namespace Go.Proofs.YtgaalaoflaklgaaGreat
open Go.RowKit Crc

theorem Tch.trans {j p : Nat} {a b c : World} (h : Tch j a b p) (k : Tch j b c p) : Tch j a c p :=
  ⟨k.os.trans h.os, k.tape.trans h.tape, k.output.trans h.output, Nat.le_trans h.size k.size,
   fun q hq hf => (k.keep q (Nat.lt_of_lt_of_le hq h.size) (fun e => (h.foot q e).elim hf (fun e => by omega))).trans (h.keep q hq hf),
   fun q hq => (k.foot q hq).elim (fun e => h.foot q e) (fun e => .inr (Nat.le_trans h.size e))⟩

/-- A writer, the program's or the reference's: its own block p, its list in cell j. -/
structure Mach (j p base : Nat) (I : World → WS → Prop) : Prop where
  lt : ∀ w s, I w s → ∀ k, Foot w p j k → base ≤ k ∧ k < w.heap.size
  below : ∀ w w' s, I w s → Below w.heap.size w w' → I w' s
structure LS (j p base : Nat) (I : World → WS → Prop) (s : WS) (w0 w : World) : Prop where
  i : I w s
  inv : s.Inv
  bs : base ≤ w.heap.size
  tch : Tch j w0 w p
/-- A block that is not the writer's. -/
structure Box (j p : Nat) (w : World) (B : Nat) (o : Obj) : Prop where
  sep : ¬ Foot w p j B
  at_ : w.heap[B]? = some o
section
variable {j p base : Nat} {I : World → WS → Prop} {s : WS} {w0 w w' : World} {B : Nat} {o : Obj}
theorem Mach.plt (M : Mach j p base I) (h : I w s) : p < w.heap.size := (M.lt w s h p (.inl rfl)).2
theorem Tch.of_below (hb : Below w.heap.size w w') (hp : p < w.heap.size) : Tch j w w' p := Tch.from hb hp (Tch.refl j p w')
theorem LS.begin (h : I w s) (hi : s.Inv) (hbs : base ≤ w.heap.size) : LS j p base I s w w := ⟨h, hi, hbs, Tch.refl _ _ _⟩
theorem LS.quiet (M : Mach j p base I) (h : LS j p base I s w0 w) (hb : Below w.heap.size w w') : LS j p base I s w0 w' :=
  ⟨M.below _ _ _ h.i hb, h.inv, Nat.le_trans h.bs hb.size, h.tch.trans (Tch.of_below hb (M.plt h.i))⟩
theorem LS.step {F : List Nat} {y : Int} (h : LS j p base I s w0 w) (hi : I w' (s.put F y)) (ht : Tch j w w' p) : LS j p base I (s.put F y) w0 w' :=
  ⟨hi, WS.put_inv h.inv F y, Nat.le_trans h.bs ht.size, h.tch.trans ht⟩
theorem Mach.belowOf (M : Mach j p base I) (h0 : I w s) (hbs : base ≤ w.heap.size) (ht : Tch j w w' p) : Below base w w' :=
  ⟨ht.os, ht.tape, ht.output, ht.size, fun k hk => ht.keep k (by omega) (fun hf => by have := (M.lt _ _ h0 k hf).1; omega)⟩
theorem Box.step (h : Box j p w B o) (ht : Tch j w w' p) : Box j p w' B o := by
  have hlt := (Array.getElem?_eq_some_iff.1 h.at_).1
  exact ⟨fun hf => (ht.foot B hf).elim h.sep (fun e => by omega), (ht.keep B hlt h.sep).trans h.at_⟩
theorem Box.new (M : Mach j p base I) (h : I w s) (o : Obj) : Box j p (w.alloc o) w.heap.size o := by
  refine ⟨fun hf => ?_, by simp [World.alloc, -World.alloc_eq]⟩
  have := (M.lt _ _ h _ ((Foot.old (below_alloc1 w o) (M.plt h)).1 hf)).2
  omega
theorem Box.quiet (h : Box j p w B o) (hp : p < w.heap.size) (hb : Below w.heap.size w w') : Box j p w' B o := h.step (Tch.of_below hb hp)
end

/-- A batch as it is laid down. -/
def layGo : WS → List Rq → WS
  | s, [] => s
  | s, r :: t => layGo (((s.put (numB r.cl) 0).put (numB r.sq) 0).put (numB r.cn ++ r.C) (cntY r.cn 700)) t
def layB (s : WS) (stamp : Nat) (rs : List Rq) : WS := layGo ((s.put (numB stamp) 0).put (numB rs.length) 0) rs

theorem mach_prog (base p : Nat) (hp : base ≤ p) : Mach 4 p base (fun w s => WrS base w p s) := by
  refine ⟨fun w s h k hf => ?_, fun w w' s h hb => ?_⟩
  · obtain ⟨v, hb, hO, hne⟩ := h
    rcases hf with rfl | ⟨u, hu, hg⟩
    · exact ⟨hp, block_lt hb⟩
    · have c4 := block_cell hb 4
      rw [hu] at c4
      simp at c4
      subst c4
      exact hO.1.lt k hg
  · have := WrP.below (po := some ⟨p, 0, none⟩) (.inr ⟨p, rfl, h⟩) hb
    rcases this with ⟨h, _⟩ | ⟨q, h, h2⟩
    · cases h
    · cases h; exact h2

theorem of_wrP {base p : Nat} {w w' : World} {s : WS} (h : WrP base w' (some ⟨p, 0, none⟩) s ∧ TchP w w' (some ⟨p, 0, none⟩)) : WrS base w' p s ∧ Tch 4 w w' p := by
  obtain ⟨h1, h2⟩ := h
  refine ⟨?_, ?_⟩
  · rcases h1 with ⟨h, _⟩ | ⟨q, h, h3⟩
    · cases h
    · cases h; exact h3
  · rcases h2 with ⟨h, _⟩ | ⟨q, h, h3⟩
    · cases h
    · cases h; exact h3
end Go.Proofs.YtgaalaoflaklgaaGreat
namespace Go.Proofs.YtgaalaoflaklgaaGreat
open Go.RowKit Crc

set_option maxRecDepth 10000 in
set_option maxHeartbeats 1600000 in
theorem layBatch_prog {base p : Nat} {w : World} {s : WS} (hW : WrS base w p s) (hi : s.Inv) (hbs : base ≤ w.heap.size) (hp : base ≤ p) (stamp : Nat) (hst : stamp < 18446744073709551616) {ro : Option Addr} {rs : List Rq} {b off : Nat} (rc : Nat) (hR : Rqs base w ro rs b off) (h8 : rs.length ≤ 8) (h7 : ∀ r ∈ rs, r.cn ≤ 700) (hco : ∀ r ∈ rs, ∀ b off, r.co = some ⟨b, off, none⟩ → b < base) :
    Calls Tryz.prog 25 #[.pointer (some ⟨p, 0, none⟩), .agg #[.int .u64 (stamp : Int), .slice ro rs.length rc]] w fun e w' => e = .returned (.tuple #[]) ∧ Hid (WrS base w' p (layB s stamp rs) ∧ Tch 4 w w' p) := by
  have M := mach_prog base p hp
  have HL0 : Hid (LS 4 p base (fun w s => WrS base w p s) s w (w.alloc (.cells #[.int .u64 (stamp : Int), .slice ro rs.length rc] 25))) := (LS.begin hW hi hbs).quiet M (below_alloc1 w _)
  have HB0 : Hid (Box 4 p (w.alloc (.cells #[.int .u64 (stamp : Int), .slice ro rs.length rc] 25)) w.heap.size (.cells #[.int .u64 (stamp : Int), .slice ro rs.length rc] 25)) := Box.new M hW _
  have HNum : Hid (∀ (s' : WS) (w' : World) (v : Nat), LS 4 p base (fun w s => WrS base w p s) s' w w' → v < 18446744073709551616 → Calls Tryz.prog 53 #[.pointer (some ⟨p, 0, none⟩), .int .u64 (v : Int)] w' fun e w'' => e = .returned (.tuple #[]) ∧ Hid (LS 4 p base (fun w s => WrS base w p s) (s'.put (numB v) 0) w w'' ∧ Tch 4 w' w'' p)) := fun s' w' v h hv => by
    refine (wNumP (.inr ⟨p, rfl, h.i⟩) h.inv h.bs v v rfl hv).mono ?_
    rintro e w'' ⟨rfl, H⟩
    have H := of_wrP H.out
    exact ⟨rfl, h.step H.1 H.2, H.2⟩
  have HCnt : Hid (∀ (s' : WS) (w' : World), LS 4 p base (fun w s => WrS base w p s) s' w w' → Calls Tryz.prog 54 #[.pointer (some ⟨p, 0, none⟩), .int .i64 (rs.length : Int), .int .i64 8] w' fun e w'' => e = .returned (.tuple #[]) ∧ Hid (LS 4 p base (fun w s => WrS base w p s) (s'.put (numB rs.length) 0) w w'' ∧ Tch 4 w' w'' p)) := fun s' w' h => by
    refine (wCountP (.inr ⟨p, rfl, h.i⟩) h.inv h.bs rs.length 8 (by omega) (by omega)).mono ?_
    rintro e w'' ⟨rfl, H⟩
    have H := of_wrP H.out
    rw [show cntY (rs.length : Int) 8 = 0 by unfold cntY; rw [if_neg (by omega)], show ((rs.length : Int)).toNat = rs.length by omega] at H
    exact ⟨rfl, h.step H.1 H.2, H.2⟩
  have HBlob : Hid (∀ (s' : WS) (w' : World) (bo : Option Addr) (n bcap : Nat) (Bs : List Nat), LS 4 p base (fun w s => WrS base w p s) s' w w' → Shows base w' bo n bcap Bs → n ≤ 700 → (∀ b off, bo = some ⟨b, off, none⟩ → b < base) → Calls Tryz.prog 55 #[.pointer (some ⟨p, 0, none⟩), .slice bo n bcap, .int .i64 700] w' fun e w'' => e = .returned (.tuple #[]) ∧ Hid (LS 4 p base (fun w s => WrS base w p s) (s'.put (numB n ++ Bs) (cntY n 700)) w w'' ∧ Tch 4 w' w'' p)) := fun s' w' bo n bcap Bs h hS hn hX => by
    refine (wBlobP (.inr ⟨p, rfl, h.i⟩) h.inv h.bs bo n bcap Bs 700 hS (fun q u g hq hu hg bb oo hbo => ?_)).mono ?_
    · cases hq
      have h1 := hX bb oo hbo
      have h2 := (M.lt _ _ h.i g (.inr ⟨u, hu, hg⟩)).1
      omega
    · rintro e w'' ⟨rfl, H⟩
      have H := of_wrP H.out
      exact ⟨rfl, h.step H.1 H.2, H.2⟩
  have HR : Hid (∀ s' wr, LS 4 p base (fun w s => WrS base w p s) s' w wr → Rqs base wr ro rs b off) := fun s' wr h => hR.below (M.belowOf hW hbs h.tch)
  have HE : Hid (layB s stamp rs = layGo ((s.put (numB stamp) 0).put (numB rs.length) 0) rs) := rfl
  have HM := hide M
  have H7 := hide h7
  have HCO := hide hco
  clear hW hi hR M h7 hco
  go_enter Tryz.func25, Tryz.ntmps25
  go_wp2_with fail
  refine (HNum.out _ _ stamp HL0.out hst).mono ?_
  rintro e w1 ⟨rfl, H1⟩
  have HB1 := hide (HB0.out.step H1.out.2)
  have c0 := block_cell HB1.out.at_ 1
  simp at c0
  go_wp2_with fail
  refine (HCnt.out _ _ H1.out.1).mono ?_
  rintro e w2 ⟨rfl, H2⟩
  have HB2 := hide (HB1.out.step H2.out.2)
  have c1 := block_cell HB2.out.at_ 1
  simp at c1
  go_wp2
  go_loopw [18] (fun i wr => ∃ k : Nat, k ≤ rs.length ∧ i = .int .i64 k ∧ Hid (∃ s', LS 4 p base (fun w s => WrS base w p s) s' w wr ∧ layB s stamp rs = layGo s' (rs.drop k))) (fun i _ => rs.length - (intOf i).toNat)
  case atStart => exact ⟨0, by omega, rfl, _, H2.out.1, HE.out⟩
  case round =>
    obtain ⟨k, hk, rfl, HS⟩ := hrel
    obtain ⟨s', hls, hlay⟩ := HS.out
    have HLS := hide hls
    have HLAY := hide hlay
    clear hls hlay HS H2 HB2 H1 HB1 HL0 HB0 c0 c1
    by_cases hlt : k < rs.length
    · obtain ⟨r, hr, hd, hok, hbl, rfl, c0, c1, c2⟩ := (HR.out _ _ HLS.out).get hlt
      have hmem := List.mem_of_getElem? hr
      have hr7 := H7.out r hmem
      rw [hd] at HLAY
      obtain ⟨cl, sq, co, cn, cc, C⟩ := r
      have HOK := hide hok
      have HMEM := hide hmem
      simp only at c0 c1 c2 hr7
      clear hr hd hok hmem
      have HL3 := hide (HLS.out.quiet HM.out (below_alloc1 wr (.cells #[.int .u64 (cl : Int), .int .u64 (sq : Int), .slice co cn cc] 67)))
      have HB3 := hide (Box.new HM.out HLS.out.i (.cells #[.int .u64 (cl : Int), .int .u64 (sq : Int), .slice co cn cc] 67))
      go_wp2_with fail
      refine (HNum.out _ _ cl HL3.out HOK.out.hc).mono ?_
      rintro e w3 ⟨rfl, H3⟩
      have HB4 := hide (HB3.out.step H3.out.2)
      have x1 := block_cell HB4.out.at_ 1
      simp at x1
      go_wp2_with fail
      refine (HNum.out _ _ sq H3.out.1 HOK.out.hs).mono ?_
      rintro e w4 ⟨rfl, H4⟩
      have HB5 := hide (HB4.out.step H4.out.2)
      have x2 := block_cell HB5.out.at_ 2
      simp at x2
      have HSH := hide ((HR.out _ _ H4.out.1).ok _ HMEM.out).hC
      go_wp2_with fail
      refine (HBlob.out _ _ co cn cc C H4.out.1 HSH.out hr7 (HCO.out _ HMEM.out)).mono ?_
      rintro e w5 ⟨rfl, H5⟩
      go_wp2
      go_roundw
      case rel => exact ⟨k + 1, by omega, by go_num, _, H5.out.1, HLAY.out⟩
      case measure => simp [intOf]; omega
    · obtain rfl : k = rs.length := by omega
      go_wp2
      go_end0
      refine ⟨rfl, ?_⟩
      rw [HLAY.out, List.drop_length]
      exact ⟨HLS.out.i, HLS.out.tch⟩
end Go.Proofs.YtgaalaoflaklgaaGreat
