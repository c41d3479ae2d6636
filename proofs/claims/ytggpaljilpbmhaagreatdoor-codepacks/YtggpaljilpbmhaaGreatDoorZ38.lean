import Derived.Test.YtggpaljilpbmhaaGreatDoorZ35
import Derived.Test.YtggpaljilpbmhaaGreatDoorZ23
import Derived.Test.YtggpaljilpbmhaaGreatDoorZ37
import Derived.Test.YtggpaljilpbmhaaGreatDoorZ20
import Derived.Deep.DeepCutAuto
namespace Go.Proofs.YtggpaljilpbmhaaGreatDoor
open Go.RowKit

/-- What of the reference's unpacker and reader is touched. -/
structure Fr2 (ub rp : Nat) (w w' : World) : Prop where
 os : w'.os = w.os
 tape : w'.tape = w.tape
 output : w'.output = w.output
 size : w.heap.size ≤ w'.heap.size
 block : ∀ i, i < w.heap.size → i ≠ ub → i ≠ rp → w'.heap[i]? = w.heap[i]?
section
variable {ub rp : Nat} {w w' w'' : World}
theorem Fr2.trans (h : Fr2 ub rp w w') (k : Fr2 ub rp w' w'') : Fr2 ub rp w w'' :=
 ⟨k.os.trans h.os, k.tape.trans h.tape, k.output.trans h.output, Nat.le_trans h.size k.size, fun i hi a b => (k.block i (Nat.lt_of_lt_of_le hi h.size) a b).trans (h.block i hi a b)⟩
theorem Fr2.below (h : Below w.heap.size w w') : Fr2 ub rp w w' := ⟨h.os, h.tape, h.output, h.size, fun i hi _ _ => h.block i hi⟩
theorem Fr2.gu (h : w.grownBy w' (some ub)) : Fr2 ub rp w w' := ⟨h.os, h.tape, h.output, h.size, fun i hi a _ => h.block i hi (by simpa using a)⟩
theorem Fr2.gr (h : w.grownBy w' (some rp)) : Fr2 ub rp w w' := ⟨h.os, h.tape, h.output, h.size, fun i hi _ a => h.block i hi (by simpa using a)⟩
theorem Fr2.refl (ub rp : Nat) (w : World) : Fr2 ub rp w w := ⟨rfl, rfl, rfl, Nat.le_refl _, fun _ _ _ _ => rfl⟩
end
theorem FV.grownX {W W' : World} {q : Nat} {cs : Array Value} {t : TypeId} {ao : Option Addr} {L : List Lk} {b off : Nat} (h : FV W.heap.size W ao L b off) (hg : W.grownBy W' (some q)) (hq : W.heap[q]? = some (.cells cs t (0, 0))) (hs : ∀ (j : Nat) (x : ByteArray), cs[j]? ≠ some (Value.string x)) : FV W'.heap.size W' ao L b off := by
 refine ⟨h.ad, fun e => Nat.lt_of_lt_of_le (h.lt e) hg.size, h.le, fun j l hl => ?_⟩
 have hne : b ≠ q := fun e => by
  have := (h.at_ j l hl).1
  rw [e, block_cell hq] at this
  exact hs _ _ this
 obtain ⟨a1, a2⟩ := h.at_ j l hl
 exact ⟨hg.cell a1 (by simpa using hne), hg.cell a2 (by simpa using hne)⟩
set_option maxRecDepth 10000 in
set_option maxHeartbeats 800000 in
theorem refuseN (y a : Int) (w : World) : Calls Tryz.prog 88 #[.int .i64 y, .int .i64 a] w (FvN w [⟨⟨#[99, 111, 100, 101]⟩, a⟩] y) := by
 obtain ⟨W1, hW1⟩ : ∃ W1, w.alloc (.cells #[.slice none 0 0, .int .i64 0] 54) = W1 := ⟨_, rfl⟩
 have B1 : Below w.heap.size w W1 := by rw [← hW1]; exact below_alloc1 w _
 have A1 : W1.heap[w.heap.size]? = some (.cells #[.slice none 0 0, .int .i64 0] 54 (0, 0)) := by rw [← hW1]; exact alloc_atK _ _
 have HN := hide (newN ⟨#[99, 111, 100, 101]⟩ a y W1)
 have HW1 := hide hW1
 have HB1 := hide B1
 have HA1 := hide A1
 clear hW1 B1 A1
 unfold FvN at HN ⊢
 go_enter Tryz.func88, Tryz.ntmps88
 go_upto_region 1 with fail
 rw [HW1.out]
 clear HW1
 go_wp2_with fail
 refine HN.out.mono ?_
 rintro e w2 ⟨ao, cap, rfl, G⟩
 obtain ⟨b, off, hlb, hf, hb⟩ := G.out
 have HLB : Hid (w.heap.size ≤ b) := Nat.le_trans HB1.out.size hlb
 clear hlb
 have A2 := (hb.block _ (block_lt HA1.out)).trans HA1.out
 have z0 := block_cell A2 0
 have z1 := block_cell A2 1
 have f0 := block_free A2 0
 have f1 := block_free A2 1
 have zl := block_lt A2
 simp at z0 z1
 have HD : Hid (FV ((w2.setCell ⟨w.heap.size, 0, none⟩ (.slice ao 1 cap)).setCell ⟨w.heap.size, 1, none⟩ (.int .i64 y)).heap.size ((w2.setCell ⟨w.heap.size, 0, none⟩ (.slice ao 1 cap)).setCell ⟨w.heap.size, 1, none⟩ (.int .i64 y)) ao [⟨⟨#[99, 111, 100, 101]⟩, a⟩] b off ∧ Below w.heap.size w ((w2.setCell ⟨w.heap.size, 0, none⟩ (.slice ao 1 cap)).setCell ⟨w.heap.size, 1, none⟩ (.int .i64 y))) := by
  refine ⟨setFv A2 (fun x => by simp) (fun x => by simp) hf 1 cap y, ?_⟩
  exact ((HB1.out.trans (hb.mono HB1.out.size)).setCell (p := ⟨w.heap.size, 0, none⟩) (Nat.le_refl _) _).setCell (p := ⟨w.heap.size, 1, none⟩) (Nat.le_refl _) _
 clear hf hb A2 G
 go_wp2
 refine bodyPost_ret (v := .agg #[.slice ao 1 cap, .int .i64 y]) (by simp [results, Tryz.results88, go_sem, z0, z1]) rfl ?_
 exact ⟨ao, cap, rfl, b, off, HLB.out, HD.out⟩
/-- The unpacker: nothing was refused, and reading goes on at that place. -/
def UN (d rp ub : Nat) (B : List Nat) (pos : Nat) (w : World) : Prop := (ub ≠ rp ∧ ub ≠ d) ∧ w.heap[ub]? = some (.cells #[.pointer (some ⟨rp, 0, none⟩), .slice none 0 0, .int .i64 0] 171 (0, 0)) ∧ RefS d w rp (rsU B pos)
/-- The reader has refused something: that is not noted yet. -/
def UQ (d rp ub : Nat) (z : Fz) (w : World) : Prop := (ub ≠ rp ∧ ub ≠ d) ∧ ∃ s : RS, s.made = true ∧ s.why ≠ 0 ∧ z = fzW s.place s.why ∧ w.heap[ub]? = some (.cells #[.pointer (some ⟨rp, 0, none⟩), .slice none 0 0, .int .i64 0] 171 (0, 0)) ∧ RefS d w rp s
/-- It is noted. -/
def UF (d rp ub lim : Nat) (z : Fz) (w : World) : Prop := (ub ≠ rp ∧ ub ≠ d) ∧ z.2 ≠ 0 ∧ ∃ (s : RS) (ao : Option Addr) (cap b off : Nat), s.made = true ∧ lim ≤ b ∧ w.heap[ub]? = some (.cells #[.pointer (some ⟨rp, 0, none⟩), .slice ao z.1.length cap, .int .i64 z.2] 171 (0, 0)) ∧ FV w.heap.size w ao z.1 b off ∧ RefS d w rp s
def Us (d rp ub lim : Nat) (B : List Nat) (r : Except Fz Nat) (w : World) : Prop := match r with
 | .ok pos => UN d rp ub B pos w
 | .error z => UQ d rp ub z w ∨ UF d rp ub lim z w
def Ub (d rp ub lim : Nat) (B : List Nat) (r : Except Fz Nat) (w : World) : Prop := match r with
 | .ok pos => UN d rp ub B pos w
 | .error z => UF d rp ub lim z w
def isE : Except Fz Nat → Bool
 | .ok _ => false
 | .error _ => true
def wantR (ok : Bool) (y a : Int) : Except Fz Nat → Except Fz Nat
 | .ok pos => if ok then .ok pos else .error (fzO a y)
 | .error z => .error z
section
variable {d rp ub lim : Nat} {B : List Nat} {r : Except Fz Nat} {w w' : World}
theorem Ub.us (h : Ub d rp ub lim B r w) : Us d rp ub lim B r w := by
 cases r with
 | ok pos => exact h
 | error z => exact .inr h
theorem RefS.blk {s : RS} (h : RefS d w rp s) : ∃ (ao : Option Addr) (cap : Nat), w.heap[rp]? = some (.cells #[.bool s.made, .slice ao s.B.length cap, .int .i64 (s.pos : Int), .int .i64 s.why, .int .i64 s.place] 175 (0, 0)) := by
 obtain ⟨ao, cap, hb, _⟩ := h
 exact ⟨ao, cap, hb⟩
theorem RefS.below {s : RS} (h : RefS d w rp s) (hb : Below w.heap.size w w') : RefS d w' rp s := h.kept (row := none) (grown_belowU hb) (by simp) (by simp)
theorem Us.next (h : Us d rp ub lim B r w) (hb : Below w.heap.size w w') : Us d rp ub lim B r w' := by
 cases r with
 | ok pos => exact ⟨h.1, (hb.block _ (block_lt h.2.1)).trans h.2.1, h.2.2.below hb⟩
 | error z =>
  rcases h with ⟨n, s, h1, h2, h3, h4, h5⟩ | ⟨n, z0, s, ao, cap, b, off, h1, hl, h2, h3, h4⟩
  ·exact .inl ⟨n, s, h1, h2, h3, (hb.block _ (block_lt h4)).trans h4, h5.below hb⟩
  ·exact .inr ⟨n, z0, s, ao, cap, b, off, h1, hl, (hb.block _ (block_lt h2)).trans h2, h3.next hb, h4.below hb⟩
theorem Ub.next (h : Ub d rp ub lim B r w) (hb : Below w.heap.size w w') : Ub d rp ub lim B r w' := by
 cases r with
 | ok pos => exact ⟨h.1, (hb.block _ (block_lt h.2.1)).trans h.2.1, h.2.2.below hb⟩
 | error z =>
  obtain ⟨n, z0, s, ao, cap, b, off, h1, hl, h2, h3, h4⟩ := h
  exact ⟨n, z0, s, ao, cap, b, off, h1, hl, (hb.block _ (block_lt h2)).trans h2, h3.next hb, h4.below hb⟩
theorem Us.ne (h : Us d rp ub lim B r w) : ub ≠ rp ∧ ub ≠ d := by
 cases r with
 | ok pos => exact h.1
 | error z => rcases h with h | h <;> exact h.1
/-- The refusal is laid into the unpacker. -/
theorem ub_set {z : Fz} {ao0 : Option Addr} {n0 c0 : Nat} {y0 : Int} {ao : Option Addr} {cap b off : Nat} {wf : World} (hu : w.heap[ub]? = some (.cells #[.pointer (some ⟨rp, 0, none⟩), .slice ao0 n0 c0, .int .i64 y0] 171 (0, 0))) (hf : FV w.heap.size w ao z.1 b off) (hw : (w.setCell ⟨ub, 1, none⟩ (.slice ao z.1.length cap)).setCell ⟨ub, 2, none⟩ (.int .i64 z.2) = wf) :
  wf.heap[ub]? = some (.cells #[.pointer (some ⟨rp, 0, none⟩), .slice ao z.1.length cap, .int .i64 z.2] 171 (0, 0)) ∧ FV wf.heap.size wf ao z.1 b off ∧ w.grownBy wf (some ub) := by
 have s1 := heap_setCell_same w ub 1 _ _ (.slice ao z.1.length cap) hu
 simp only [lsA, lsB, lsC] at s1
 have s2 := heap_setCell_same _ ub 2 _ _ (.int .i64 z.2) s1
 have g1 := grown_set w ub 1 (.slice ao z.1.length cap)
 have g2 := grown_set (w.setCell ⟨ub, 1, none⟩ (.slice ao z.1.length cap)) ub 2 (.int .i64 z.2)
 have hs : ∀ (a : Option Addr) (n c : Nat) (y : Int) (j : Nat) (x : ByteArray), (#[.pointer (some ⟨rp, 0, none⟩), .slice a n c, .int .i64 y] : Array Value)[j]? ≠ some (Value.string x) := by
  intro a n c y j x
  match j with
  | 0 => simp
  | 1 => simp
  | 2 => simp
  | j + 3 => simp
 rw [← hw]
 exact ⟨by simpa using s2, (hf.grownX g1 hu (hs _ _ _ _)).grownX g2 s1 (hs _ _ _ _), grown_trans (row := some ub) g1 g2⟩
theorem RefS.offU {s : RS} {q : Nat} (h : RefS d w rp s) (hg : w.grownBy w' (some q)) (h1 : q ≠ rp) (h2 : q ≠ d) : RefS d w' rp s := h.kept (row := some q) hg (by simpa using h1) (by simpa using h2)
end
set_option maxRecDepth 10000 in
set_option maxHeartbeats 6400000 in
theorem badQ {d rp ub lim : Nat} {z : Fz} {w : World} (h : UQ d rp ub z w) (hlm : lim ≤ w.heap.size) : Calls Tryz.prog 91 #[.pointer (some ⟨ub, 0, none⟩)] w fun e w' => e = .returned (.bool true) ∧ Hid (UF d rp ub lim z w' ∧ Fr2 ub rp w w') := by
 obtain ⟨hne, s, hm, hw, rfl, hu, hr⟩ := h
 obtain ⟨ao, cap, hb⟩ := hr.blk
 have HR := hide hr
 obtain ⟨nB, hnB⟩ : ∃ nB, s.B.length = nB := ⟨_, rfl⟩
 obtain ⟨ps, hps⟩ : ∃ ps, (s.pos : Int) = ps := ⟨_, rfl⟩
 obtain ⟨wy, hwy⟩ : ∃ wy, s.why = wy := ⟨_, rfl⟩
 obtain ⟨pl, hpl⟩ : ∃ pl, s.place = pl := ⟨_, rfl⟩
 rw [hm, hnB, hps, hwy, hpl] at hb
 rw [hwy] at hw
 rw [hwy, hpl]
 have HM := hide hm
 have HU := hide (And.intro hu hb)
 have HNE := hide hne
 have HW := hide hw
 have HLM0 := hide hlm
 clear hr hnB hps hwy hpl hm hne hlm
 have k0 := block_cell hu 0
 have k1 := block_cell hu 1
 have k2 := block_cell hu 2
 have kl := block_lt hu
 have r3 := block_cell hb 3
 have rl := block_lt hb
 simp at k0 k1 k2 r3
 have hwb : (wy != 0) = true := by simpa using hw
 clear hu hb hw
 go_enter Tryz.func91, Tryz.ntmps91
 go_wp2_with fail
 refine (anyNo w).mono ?_
 rintro x wa ⟨rfl, Ga⟩
 obtain ⟨wi, hwi⟩ : ∃ wi, w = wi := ⟨_, rfl⟩
 have HFA : Hid (Below w.heap.size w wa) := Ga
 have HLM : Hid (lim ≤ wa.heap.size) := Nat.le_trans HLM0.out HFA.out.size
 have HU0 := HU
 clear HU
 have HU : Hid (wa.heap[ub]? = some (.cells #[.pointer (some ⟨rp, 0, none⟩), .slice none 0 0, .int .i64 0] 171 (0, 0)) ∧ wa.heap[rp]? = some (.cells #[.bool true, .slice ao nB cap, .int .i64 ps, .int .i64 wy, .int .i64 pl] 175 (0, 0))) := ⟨(HFA.out.block _ (block_lt HU0.out.1)).trans HU0.out.1, (HFA.out.block _ (block_lt HU0.out.2)).trans HU0.out.2⟩
 have HRA : Hid (RefS d wa rp s) := HR.out.below HFA.out
 clear Ga HU0 HR hwi k0 k1 k2 kl r3 rl
 have k0 := block_cell HU.out.1 0
 have k1 := block_cell HU.out.1 1
 have k2 := block_cell HU.out.1 2
 have kl := block_lt HU.out.1
 have r3 := block_cell HU.out.2 3
 have rl := block_lt HU.out.2
 simp at k0 k1 k2 r3
 go_upto_region 2 with fail
 clear k0 k1 k2 kl r3 rl hwb
 go_cut [2] from 3 (fun a V => a = .bool false ∧ Hid (UF d rp ub lim (fzW pl wy) V ∧ Fr2 ub rp wa V))
 case first =>
  refine wp_region_held_drew (S := fun (w : World) => w.cell? ⟨ub, 0, none⟩ = some (.pointer (some ⟨rp, 0, none⟩)) ∧ w.heap[rp]? = some (.cells #[.bool true, .slice ao nB cap, .int .i64 ps, .int .i64 wy, .int .i64 pl] 175 (0, 0))) (by kernel_rfl) ⟨(block_cell HU.out.1 0).trans rfl, HU.out.2⟩ (fun hH => ?_)
  refine wpAnyH_take (i := 0) (oi := ⟨some 20, .move (.tmp 0), 167, "verify.go:386", #[], none⟩) (v := .pointer (some ⟨ub, 0, none⟩)) rfl (by kernel_rfl) (by kernel_rfl) (by kernel_rfl) (fun _ _ _ h => h) (Or.inl ⟨by rfl, fun w' hSw => ?_⟩) hH ?_
  ·go_simp
  simp only [Act.put, lsA, lsB, lsC]
  refine wpAnyH_take (i := 1) (oi := ⟨some 21, .move (.tmp 0), 167, "verify.go:386", #[], none⟩) (v := .pointer (some ⟨ub, 0, none⟩)) rfl (by kernel_rfl) (by kernel_rfl) (by kernel_rfl) (fun _ _ _ h => h) (Or.inl ⟨by rfl, fun w' hSw => ?_⟩) hH ?_
  ·go_simp
  simp only [Act.put, lsA, lsB, lsC]
  refine wpAnyH_take (i := 2) (oi := ⟨some 22, .nilCheck (.tmp 21), 0, "verify.go:386", #[⟨1, .data⟩], none⟩) (v := .pointer (some ⟨ub, 0, none⟩)) rfl (by kernel_rfl) (by kernel_rfl) (by kernel_rfl) (fun _ _ _ h => h) (Or.inl ⟨by rfl, fun w' hSw => ?_⟩) hH ?_
  ·go_simp
  simp only [Act.put, lsA, lsB, lsC]
  refine wpAnyH_take (i := 3) (oi := ⟨some 23, .fieldAddr 171 (.tmp 22) 0, 0, "verify.go:386", #[⟨2, .data⟩], none⟩) (v := .pointer (some ⟨ub, 0, none⟩)) rfl (by kernel_rfl) (by kernel_rfl) (by kernel_rfl) (fun _ _ _ h => h) (Or.inl ⟨by rfl, fun w' hSw => ?_⟩) hH ?_
  ·go_simp
  simp only [Act.put, lsA, lsB, lsC]
  refine wpAnyH_take (i := 4) (oi := ⟨some 24, .load 168 (.tmp 23), 168, "verify.go:386", #[⟨3, .data⟩], none⟩) (v := .pointer (some ⟨rp, 0, none⟩)) rfl (by kernel_rfl) (by kernel_rfl) (by kernel_rfl) (fun _ _ _ h => h) (Or.inl ⟨by rfl, fun w' hSw => ?_⟩) hH ?_
  ·obtain ⟨k0, _⟩ := hSw
   have kl := block_lt_of_cell k0
   go_simp
  simp only [Act.put, lsA, lsB, lsC]
  refine wpAnyH_take (i := 5) (oi := ⟨some 25, .nilCheck (.tmp 24), 0, "verify.go:386", #[⟨4, .data⟩], none⟩) (v := .pointer (some ⟨rp, 0, none⟩)) rfl (by kernel_rfl) (by kernel_rfl) (by kernel_rfl) (fun _ _ _ h => h) (Or.inl ⟨by rfl, fun w' hSw => ?_⟩) hH ?_
  ·go_simp
  simp only [Act.put, lsA, lsB, lsC]
  refine wpAnyH_take (i := 6) (oi := ⟨some 26, .fieldAddr 175 (.tmp 25) 3, 0, "verify.go:386", #[⟨5, .data⟩], none⟩) (v := .pointer (some ⟨rp, 3, none⟩)) rfl (by kernel_rfl) (by kernel_rfl) (by kernel_rfl) (fun _ _ _ h => h) (Or.inl ⟨by rfl, fun w' hSw => ?_⟩) hH ?_
  ·go_simp
  simp only [Act.put, lsA, lsB, lsC]
  refine wpAnyH_take (i := 7) (oi := ⟨some 27, .fieldAddr 94 (.tmp 26) 1, 0, "verify.go:386", #[⟨6, .data⟩], none⟩) (v := .pointer (some ⟨rp, 4, none⟩)) rfl (by kernel_rfl) (by kernel_rfl) (by kernel_rfl) (fun _ _ _ h => h) (Or.inl ⟨by rfl, fun w' hSw => ?_⟩) hH ?_
  ·go_simp
  simp only [Act.put, lsA, lsB, lsC]
  refine wpAnyH_take (i := 8) (oi := ⟨some 28, .load 3 (.tmp 27), 3, "verify.go:386", #[⟨7, .data⟩], none⟩) (v := .int .i64 pl) rfl (by kernel_rfl) (by kernel_rfl) (by kernel_rfl) (fun _ _ _ h => h) (Or.inl ⟨by rfl, fun w' hSw => ?_⟩) hH ?_
  ·obtain ⟨_, hrb⟩ := hSw
   have k0 := block_cell hrb 4
   have kl := block_lt hrb
   simp at k0
   go_simp
  simp only [Act.put, lsA, lsB, lsC]
  refine wpAnyH_take (i := 9) (oi := ⟨some 29, .move (.tmp 0), 167, "verify.go:386", #[], none⟩) (v := .pointer (some ⟨ub, 0, none⟩)) rfl (by kernel_rfl) (by kernel_rfl) (by kernel_rfl) (fun _ _ _ h => h) (Or.inl ⟨by rfl, fun w' hSw => ?_⟩) hH ?_
  ·go_simp
  simp only [Act.put, lsA, lsB, lsC]
  refine wpAnyH_take (i := 10) (oi := ⟨some 30, .nilCheck (.tmp 29), 0, "verify.go:386", #[⟨9, .data⟩], none⟩) (v := .pointer (some ⟨ub, 0, none⟩)) rfl (by kernel_rfl) (by kernel_rfl) (by kernel_rfl) (fun _ _ _ h => h) (Or.inl ⟨by rfl, fun w' hSw => ?_⟩) hH ?_
  ·go_simp
  simp only [Act.put, lsA, lsB, lsC]
  refine wpAnyH_take (i := 11) (oi := ⟨some 31, .fieldAddr 171 (.tmp 30) 0, 0, "verify.go:386", #[⟨10, .data⟩], none⟩) (v := .pointer (some ⟨ub, 0, none⟩)) rfl (by kernel_rfl) (by kernel_rfl) (by kernel_rfl) (fun _ _ _ h => h) (Or.inl ⟨by rfl, fun w' hSw => ?_⟩) hH ?_
  ·go_simp
  simp only [Act.put, lsA, lsB, lsC]
  refine wpAnyH_take (i := 12) (oi := ⟨some 32, .load 168 (.tmp 31), 168, "verify.go:386", #[⟨11, .data⟩], none⟩) (v := .pointer (some ⟨rp, 0, none⟩)) rfl (by kernel_rfl) (by kernel_rfl) (by kernel_rfl) (fun _ _ _ h => h) (Or.inl ⟨by rfl, fun w' hSw => ?_⟩) hH ?_
  ·obtain ⟨k0, _⟩ := hSw
   have kl := block_lt_of_cell k0
   go_simp
  simp only [Act.put, lsA, lsB, lsC]
  refine wpAnyH_take (i := 13) (oi := ⟨some 33, .nilCheck (.tmp 32), 0, "verify.go:386", #[⟨12, .data⟩], none⟩) (v := .pointer (some ⟨rp, 0, none⟩)) rfl (by kernel_rfl) (by kernel_rfl) (by kernel_rfl) (fun _ _ _ h => h) (Or.inl ⟨by rfl, fun w' hSw => ?_⟩) hH ?_
  ·go_simp
  simp only [Act.put, lsA, lsB, lsC]
  refine wpAnyH_take (i := 14) (oi := ⟨some 34, .fieldAddr 175 (.tmp 33) 3, 0, "verify.go:386", #[⟨13, .data⟩], none⟩) (v := .pointer (some ⟨rp, 3, none⟩)) rfl (by kernel_rfl) (by kernel_rfl) (by kernel_rfl) (fun _ _ _ h => h) (Or.inl ⟨by rfl, fun w' hSw => ?_⟩) hH ?_
  ·go_simp
  simp only [Act.put, lsA, lsB, lsC]
  refine wpAnyH_take (i := 15) (oi := ⟨some 35, .fieldAddr 94 (.tmp 34) 1, 0, "verify.go:386", #[⟨14, .data⟩], none⟩) (v := .pointer (some ⟨rp, 4, none⟩)) rfl (by kernel_rfl) (by kernel_rfl) (by kernel_rfl) (fun _ _ _ h => h) (Or.inl ⟨by rfl, fun w' hSw => ?_⟩) hH ?_
  ·go_simp
  simp only [Act.put, lsA, lsB, lsC]
  refine wpAnyH_take (i := 16) (oi := ⟨some 36, .load 3 (.tmp 35), 3, "verify.go:386", #[⟨15, .data⟩], none⟩) (v := .int .i64 pl) rfl (by kernel_rfl) (by kernel_rfl) (by kernel_rfl) (fun _ _ _ h => h) (Or.inl ⟨by rfl, fun w' hSw => ?_⟩) hH ?_
  ·obtain ⟨_, hrb⟩ := hSw
   have k0 := block_cell hrb 4
   have kl := block_lt hrb
   simp at k0
   go_simp
  simp only [Act.put, lsA, lsB, lsC]
  refine wpAnyH_take (i := 17) (oi := ⟨some 37, .move (.tmp 0), 167, "verify.go:386", #[], none⟩) (v := .pointer (some ⟨ub, 0, none⟩)) rfl (by kernel_rfl) (by kernel_rfl) (by kernel_rfl) (fun _ _ _ h => h) (Or.inl ⟨by rfl, fun w' hSw => ?_⟩) hH ?_
  ·go_simp
  simp only [Act.put, lsA, lsB, lsC]
  refine wpAnyH_take (i := 18) (oi := ⟨some 38, .nilCheck (.tmp 37), 0, "verify.go:386", #[⟨17, .data⟩], none⟩) (v := .pointer (some ⟨ub, 0, none⟩)) rfl (by kernel_rfl) (by kernel_rfl) (by kernel_rfl) (fun _ _ _ h => h) (Or.inl ⟨by rfl, fun w' hSw => ?_⟩) hH ?_
  ·go_simp
  simp only [Act.put, lsA, lsB, lsC]
  refine wpAnyH_take (i := 19) (oi := ⟨some 39, .fieldAddr 171 (.tmp 38) 0, 0, "verify.go:386", #[⟨18, .data⟩], none⟩) (v := .pointer (some ⟨ub, 0, none⟩)) rfl (by kernel_rfl) (by kernel_rfl) (by kernel_rfl) (fun _ _ _ h => h) (Or.inl ⟨by rfl, fun w' hSw => ?_⟩) hH ?_
  ·go_simp
  simp only [Act.put, lsA, lsB, lsC]
  refine wpAnyH_take (i := 20) (oi := ⟨some 40, .load 168 (.tmp 39), 168, "verify.go:386", #[⟨19, .data⟩], none⟩) (v := .pointer (some ⟨rp, 0, none⟩)) rfl (by kernel_rfl) (by kernel_rfl) (by kernel_rfl) (fun _ _ _ h => h) (Or.inl ⟨by rfl, fun w' hSw => ?_⟩) hH ?_
  ·obtain ⟨k0, _⟩ := hSw
   have kl := block_lt_of_cell k0
   go_simp
  simp only [Act.put, lsA, lsB, lsC]
  refine wpAnyH_take (i := 21) (oi := ⟨some 41, .nilCheck (.tmp 40), 0, "verify.go:386", #[⟨20, .data⟩], none⟩) (v := .pointer (some ⟨rp, 0, none⟩)) rfl (by kernel_rfl) (by kernel_rfl) (by kernel_rfl) (fun _ _ _ h => h) (Or.inl ⟨by rfl, fun w' hSw => ?_⟩) hH ?_
  ·go_simp
  simp only [Act.put, lsA, lsB, lsC]
  refine wpAnyH_take (i := 22) (oi := ⟨some 42, .fieldAddr 175 (.tmp 41) 3, 0, "verify.go:386", #[⟨21, .data⟩], none⟩) (v := .pointer (some ⟨rp, 3, none⟩)) rfl (by kernel_rfl) (by kernel_rfl) (by kernel_rfl) (fun _ _ _ h => h) (Or.inl ⟨by rfl, fun w' hSw => ?_⟩) hH ?_
  ·go_simp
  simp only [Act.put, lsA, lsB, lsC]
  refine wpAnyH_take (i := 23) (oi := ⟨some 43, .fieldAddr 94 (.tmp 42) 0, 0, "verify.go:386", #[⟨22, .data⟩], none⟩) (v := .pointer (some ⟨rp, 3, none⟩)) rfl (by kernel_rfl) (by kernel_rfl) (by kernel_rfl) (fun _ _ _ h => h) (Or.inl ⟨by rfl, fun w' hSw => ?_⟩) hH ?_
  ·go_simp
  simp only [Act.put, lsA, lsB, lsC]
  refine wpAnyH_take (i := 24) (oi := ⟨some 44, .load 3 (.tmp 43), 3, "verify.go:386", #[⟨23, .data⟩], none⟩) (v := .int .i64 wy) rfl (by kernel_rfl) (by kernel_rfl) (by kernel_rfl) (fun _ _ _ h => h) (Or.inl ⟨by rfl, fun w' hSw => ?_⟩) hH ?_
  ·obtain ⟨_, hrb⟩ := hSw
   have k0 := block_cell hrb 3
   have kl := block_lt hrb
   simp at k0
   go_simp
  simp only [Act.put, lsA, lsB, lsC]
  refine wpAnyH_ready (rs := [25]) (by kernel_rfl) (by simp) ?_
  refine AllReadyH.cons rfl (fun K hK => ?_) AllReadyH.nil
  go_simp
  go_wp2_with fail
  refine (newN ⟨#[119, 105, 114, 101]⟩ pl wy _).mono ?_
  rintro x w1 ⟨a1, c1, rfl, G1⟩
  obtain ⟨b1, o1, _, f1, bl1⟩ := G1.out
  have HU1 := hide ((bl1.block _ (by exact block_lt HU.out.1)).trans HU.out.1)
  have HS1 : Hid ((fun (w : World) => w.cell? ⟨ub, 0, none⟩ = some (.pointer (some ⟨rp, 0, none⟩)) ∧ w.heap[rp]? = some (.cells #[.bool true, .slice ao nB cap, .int .i64 ps, .int .i64 wy, .int .i64 pl] 175 (0, 0))) w1) := ⟨(block_cell HU1.out 0).trans rfl, (bl1.block _ (by exact block_lt HU.out.2)).trans HU.out.2⟩
  have HB1 : Hid (Below wa.heap.size wa w1) := (Below.refl _ wa).drew.trans bl1
  have HWR := hide (wrapN ⟨#[99, 111, 100, 101]⟩ pl wy 1 c1 rfl (by decide) w1 f1)
  unfold FvN at HWR
  clear G1 f1 bl1
  refine hK.out _ _ HS1.out (fun _ => ?_)
  clear hK K
  refine wpAnyH_ready (rs := [26]) (by kernel_rfl) (by simp) ?_
  refine AllReadyH.cons rfl (fun K hK => ?_) AllReadyH.nil
  go_simp
  go_wp2_with fail
  refine HWR.out.mono ?_
  rintro x w2 ⟨a2, c2, rfl, G2⟩
  obtain ⟨b2, o2, lb2, f2, bl2⟩ := G2.out
  have HLB : Hid (lim ≤ b2) := Nat.le_trans (Nat.le_trans HLM.out HB1.out.size) lb2
  clear lb2
  have HU2 := hide ((bl2.block _ (block_lt HU1.out)).trans HU1.out)
  have HS2 : Hid ((fun (w : World) => w.cell? ⟨ub, 0, none⟩ = some (.pointer (some ⟨rp, 0, none⟩)) ∧ w.heap[rp]? = some (.cells #[.bool true, .slice ao nB cap, .int .i64 ps, .int .i64 wy, .int .i64 pl] 175 (0, 0))) w2) := ⟨(block_cell HU2.out 0).trans rfl, (bl2.block _ (block_lt HS1.out.2)).trans HS1.out.2⟩
  have HB2 : Hid (Below wa.heap.size wa w2) := HB1.out.trans (bl2.mono HB1.out.size)
  have HF2 : Hid (FV w2.heap.size w2 a2 [⟨⟨#[99, 111, 100, 101]⟩, pl⟩, ⟨⟨#[119, 105, 114, 101]⟩, pl⟩] b2 o2) := f2
  clear G2 f2 bl2 HWR HS1 HB1
  refine hK.out _ _ HS2.out (fun _ => ?_)
  clear hK K
  refine wpAnyH_take (i := 27) (oi := ⟨some 47, .nilCheck (.tmp 20), 0, "verify.go:386", #[⟨0, .data⟩, ⟨0, .phase⟩, ⟨1, .phase⟩, ⟨2, .phase⟩, ⟨3, .phase⟩, ⟨4, .phase⟩, ⟨5, .phase⟩, ⟨6, .phase⟩, ⟨7, .phase⟩, ⟨8, .phase⟩, ⟨9, .phase⟩, ⟨10, .phase⟩, ⟨11, .phase⟩, ⟨12, .phase⟩, ⟨13, .phase⟩, ⟨14, .phase⟩, ⟨15, .phase⟩, ⟨16, .phase⟩, ⟨17, .phase⟩, ⟨18, .phase⟩, ⟨19, .phase⟩, ⟨20, .phase⟩, ⟨21, .phase⟩, ⟨22, .phase⟩, ⟨23, .phase⟩, ⟨24, .phase⟩, ⟨25, .phase⟩, ⟨26, .phase⟩], none⟩) (v := .pointer (some ⟨ub, 0, none⟩)) rfl (by kernel_rfl) (by kernel_rfl) (by kernel_rfl) (fun _ _ _ h => h) (Or.inl ⟨by rfl, fun w' hSw => ?_⟩) HS2.out ?_
  ·go_simp
  simp only [Act.put, lsA, lsB, lsC]
  refine wpAnyH_take (i := 28) (oi := ⟨some 48, .fieldAddr 171 (.tmp 47) 1, 0, "verify.go:386", #[⟨27, .data⟩, ⟨0, .phase⟩, ⟨1, .phase⟩, ⟨2, .phase⟩, ⟨3, .phase⟩, ⟨4, .phase⟩, ⟨5, .phase⟩, ⟨6, .phase⟩, ⟨7, .phase⟩, ⟨8, .phase⟩, ⟨9, .phase⟩, ⟨10, .phase⟩, ⟨11, .phase⟩, ⟨12, .phase⟩, ⟨13, .phase⟩, ⟨14, .phase⟩, ⟨15, .phase⟩, ⟨16, .phase⟩, ⟨17, .phase⟩, ⟨18, .phase⟩, ⟨19, .phase⟩, ⟨20, .phase⟩, ⟨21, .phase⟩, ⟨22, .phase⟩, ⟨23, .phase⟩, ⟨24, .phase⟩, ⟨25, .phase⟩, ⟨26, .phase⟩], none⟩) (v := .pointer (some ⟨ub, 1, none⟩)) rfl (by kernel_rfl) (by kernel_rfl) (by kernel_rfl) (fun _ _ _ h => h) (Or.inl ⟨by rfl, fun w' hSw => ?_⟩) HS2.out ?_
  ·go_simp
  simp only [Act.put, lsA, lsB, lsC]
  have y0 := block_cell HU2.out 0
  have y1 := block_cell HU2.out 1
  have y2 := block_cell HU2.out 2
  have g1 := block_free HU2.out 1
  have g2 := block_free HU2.out 2
  have yl := block_lt HU2.out
  simp at y0 y1 y2
  refine wpAnyH_ready (rs := [29]) (by kernel_rfl) (by simp) ?_
  refine AllReadyH.cons rfl (fun K hK => ?_) AllReadyH.nil
  go_simp
  go_wp2_with fail
  generalize hwf : World.setCell _ _ _ = wf
  obtain ⟨k1, k2, k3⟩ := ub_set (z := fzW pl wy) HU2.out HF2.out hwf
  have HD3 := hide (And.intro k1 (And.intro k2 (And.intro k3 ((k3.block _ (block_lt HS2.out.2) (by simpa using fun e => HNE.out.1 e.symm)).trans HS2.out.2))))
  have HB3 : Hid (Fr2 ub rp wa wf) := (Fr2.below HB2.out).trans (Fr2.gu k3)
  have HDD : Hid (UF d rp ub lim (fzW pl wy) wf ∧ Fr2 ub rp wa wf) := ⟨⟨HNE.out, HW.out, s, a2, c2, b2, o2, HM.out, HLB.out, HD3.out.1, HD3.out.2.1, (HRA.out.below HB2.out).offU HD3.out.2.2.1 HNE.out.1 HNE.out.2⟩, HB3.out⟩
  have HDU := hide HD3.out.1
  have HDR := hide HD3.out.2.2.2
  clear hwf k1 k2 k3 HD3 HB3 y0 y1 y2 g1 g2 yl
  refine hK.out _ _ ?_ (fun _ => ?_)
  ·exact ⟨(block_cell HDU.out 0).trans rfl, HDR.out⟩
  clear hK K
  refine wpAnyH_done (by kernel_rfl) ?_ _
  go_wp2
  go_meet
  case rel => exact ⟨rfl, HDD⟩
 case rest =>
 obtain ⟨rfl, HZ⟩ := hcut
 obtain ⟨n1, z0, s1, a1, c1, b1, o1, m1, l1, u1, f1, r1⟩ := HZ.out.1
 have z0' : wy ≠ 0 := z0
 have HE := hide (And.intro n1 (And.intro z0 (And.intro m1 (And.intro l1 (And.intro u1 (And.intro f1 r1))))))
 have HFR := hide (Fr2.trans (Fr2.below HFA.out) HZ.out.2)
 have k0 := block_cell u1 0
 have k1 := block_cell u1 1
 have k2 := block_cell u1 2
 have kl := block_lt u1
 simp [fzW] at k0 k1 k2
 clear n1 z0 m1 l1 u1 f1 r1 HZ HFA HRA HU
 go_wp2_with fail
 refine (anyYes _ _ _ _ z0' _).mono ?_
 rintro x w9 ⟨rfl, G9⟩
 have HD : Hid (UF d rp ub lim (fzW pl wy) w9 ∧ Fr2 ub rp w w9) := by
  obtain ⟨n1, z0, m1, l1, u1, f1, r1⟩ := HE.out
  exact ⟨⟨n1, z0, s1, a1, c1, b1, o1, m1, l1, (G9.out.block _ (block_lt u1)).trans u1, f1.next G9.out, r1.below G9.out⟩, HFR.out.trans (Fr2.below G9.out)⟩
 clear G9 HE HFR k0 k1 k2 kl
 go_wp2
 go_ret
 exact ⟨rfl, HD⟩
set_option maxRecDepth 10000 in
set_option maxHeartbeats 1600000 in
theorem badN {d rp ub : Nat} {B : List Nat} {pos : Nat} {w : World} (h : UN d rp ub B pos w) : Calls Tryz.prog 91 #[.pointer (some ⟨ub, 0, none⟩)] w fun e w' => e = .returned (.bool false) ∧ Hid (UN d rp ub B pos w' ∧ Fr2 ub rp w w') := by
 obtain ⟨hne, hu, hr⟩ := h
 obtain ⟨ao, cap, hb⟩ := hr.blk
 have HN := hide (fun w' (hb : Below w.heap.size w w') => And.intro (show UN d rp ub B pos w' from ⟨hne, (hb.block _ (block_lt hu)).trans hu, hr.below hb⟩) (Fr2.below (ub := ub) (rp := rp) hb))
 have HU := hide hu
 have HB := hide hb
 have k0 := block_cell hu 0
 have k1 := block_cell hu 1
 have k2 := block_cell hu 2
 have kl := block_lt hu
 simp at k0 k1 k2
 clear hne hu hr hb
 go_enter Tryz.func91, Tryz.ntmps91
 go_wp2_with fail
 refine (anyNo w).mono ?_
 rintro x wa ⟨rfl, Ga⟩
 have u1 := (Ga.out.block _ (block_lt HU.out)).trans HU.out
 have b1 := (Ga.out.block _ (block_lt HB.out)).trans HB.out
 have HA := hide Ga.out
 clear k0 k1 k2 kl Ga
 have k0 := block_cell u1 0
 have k1 := block_cell u1 1
 have k2 := block_cell u1 2
 have kl := block_lt u1
 have r3 := block_cell b1 3
 have rl := block_lt b1
 simp [rsU] at k0 k1 k2 r3
 clear u1 b1 HU HB
 go_wp2_with fail
 refine (anyNo wa).mono ?_
 rintro x wb ⟨rfl, Gb⟩
 have HD := hide (HN.out wb (HA.out.trans (Gb.out.mono HA.out.size)))
 clear k0 k1 k2 kl r3 rl Gb HA HN
 go_wp2
 go_ret
 exact ⟨rfl, HD⟩
set_option maxRecDepth 10000 in
set_option maxHeartbeats 1600000 in
theorem badF {d rp ub lim : Nat} {z : Fz} {w : World} (h : UF d rp ub lim z w) : Calls Tryz.prog 91 #[.pointer (some ⟨ub, 0, none⟩)] w fun e w' => e = .returned (.bool true) ∧ Hid (UF d rp ub lim z w' ∧ Fr2 ub rp w w') := by
 obtain ⟨hne, z0, s, ao, cap, b, off, hm, hlb, hu, hf, hr⟩ := h
 have HN := hide (fun w' (hb : Below w.heap.size w w') => And.intro (show UF d rp ub lim z w' from ⟨hne, z0, s, ao, cap, b, off, hm, hlb, (hb.block _ (block_lt hu)).trans hu, hf.next hb, hr.below hb⟩) (Fr2.below (ub := ub) (rp := rp) hb))
 have HU := hide hu
 have k0 := block_cell hu 0
 have k1 := block_cell hu 1
 have k2 := block_cell hu 2
 have kl := block_lt hu
 simp at k0 k1 k2
 have HA := hide (fun w => anyYes ao z.1.length cap z.2 z0 w)
 obtain ⟨n, hn⟩ : ∃ n, z.1.length = n := ⟨_, rfl⟩
 obtain ⟨y, hy⟩ : ∃ y, z.2 = y := ⟨_, rfl⟩
 rw [hn, hy] at HA HU
 rw [hn] at k1
 rw [hy] at k2
 clear hne hu hr hf hm z0 hn hy
 go_enter Tryz.func91, Tryz.ntmps91
 go_wp2_with fail
 refine (HA.out w).mono ?_
 rintro x wa ⟨rfl, Ga⟩
 have u1 := (Ga.out.block _ (block_lt HU.out)).trans HU.out
 have HG := hide Ga.out
 clear k0 k1 k2 kl Ga
 have k0 := block_cell u1 0
 have k1 := block_cell u1 1
 have k2 := block_cell u1 2
 have kl := block_lt u1
 simp at k0 k1 k2
 clear u1 HU
 go_wp2_with fail
 refine (HA.out wa).mono ?_
 rintro x wb ⟨rfl, Gb⟩
 have HD := hide (HN.out wb (HG.out.trans (Gb.out.mono HG.out.size)))
 clear k0 k1 k2 kl Gb HG HN HA
 go_wp2
 go_ret
 exact ⟨rfl, HD⟩
/-- Was something refused? -/
theorem badU {d rp ub lim : Nat} {B : List Nat} {r : Except Fz Nat} {w : World} (h : Us d rp ub lim B r w) (hlm : lim ≤ w.heap.size) : Calls Tryz.prog 91 #[.pointer (some ⟨ub, 0, none⟩)] w fun e w' => e = .returned (.bool (isE r)) ∧ Hid (Ub d rp ub lim B r w' ∧ Fr2 ub rp w w') := by
 cases r with
 | ok pos => exact badN h
 | error z =>
  rcases h with h | h
  ·exact badQ h hlm
  ·exact badF h
set_option maxRecDepth 10000 in
set_option maxHeartbeats 1600000 in
theorem wantU {d rp ub lim : Nat} {B : List Nat} {r : Except Fz Nat} {w : World} (h : Us d rp ub lim B r w) (hlm : lim ≤ w.heap.size) (ok : Bool) (y a : Int) (hy : y ≠ 0) : Calls Tryz.prog 94 #[.pointer (some ⟨ub, 0, none⟩), .bool ok, .int .i64 y, .int .i64 a] w fun e w' => e = .returned (.tuple #[]) ∧ Hid (Ub d rp ub lim B (wantR ok y a r) w' ∧ Fr2 ub rp w w') := by
 have HB := hide (badU h hlm)
 have HLM := hide hlm
 clear h hlm
 go_enter Tryz.func94, Tryz.ntmps94
 go_wp2_with fail
 refine HB.out.mono ?_
 rintro x w1 ⟨rfl, G⟩
 clear HB
 cases r with
 | error z =>
  have hE : isE (.error z) = true := rfl
  rw [hE]
  clear hE
  go_wp2
  go_end0
  exact ⟨rfl, G⟩
 | ok pos =>
  have hE : isE (.ok pos) = false := rfl
  rw [hE]
  clear hE
  cases ok with
  | true =>
   go_wp2
   go_end0
   exact ⟨rfl, G⟩
  | false =>
   have HRF := hide (refuseN y a w1)
   unfold FvN at HRF
   go_wp2_with fail
   refine HRF.out.mono ?_
   rintro x w2 ⟨ao, cap, rfl, G2⟩
   obtain ⟨b, off, lb2, f2, b2⟩ := G2.out
   have HLB : Hid (lim ≤ b) := Nat.le_trans (Nat.le_trans HLM.out G.out.2.size) lb2
   clear lb2
   obtain ⟨⟨hne, hu, hr⟩, hfr⟩ := G.out
   have u2 := (b2.block _ (block_lt hu)).trans hu
   have HX := hide (fun wf hw => ub_set (z := fzO a y) (cap := cap) (wf := wf) u2 f2 hw)
   have HY := hide (And.intro hne (And.intro (hr.below b2) (hfr.trans (Fr2.below b2))))
   have y1 := block_cell u2 1
   have y2 := block_cell u2 2
   have g1 := block_free u2 1
   have g2 := block_free u2 2
   have yl := block_lt u2
   simp at y1 y2
   clear HRF G G2 f2 b2 hne hu hr hfr u2
   go_wp2
   generalize hwf : World.setCell _ _ _ = wf
   obtain ⟨k1, k2, k3⟩ := HX.out wf hwf
   have HD : Hid (Ub d rp ub lim B (wantR false y a (.ok pos)) wf ∧ Fr2 ub rp w wf) := ⟨⟨HY.out.1, hy, _, ao, cap, b, off, (show (rsU B pos).made = true from rfl), HLB.out, k1, k2, HY.out.2.1.offU k3 HY.out.1.1 HY.out.1.2⟩, HY.out.2.2.trans (Fr2.gu k3)⟩
   clear hwf k1 k2 k3 HX HY y1 y2 g1 g2 yl
   go_end0
   exact ⟨rfl, HD⟩
end Go.Proofs.YtggpaljilpbmhaaGreatDoor
