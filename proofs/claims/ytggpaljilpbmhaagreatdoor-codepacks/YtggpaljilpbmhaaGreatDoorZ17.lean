import Derived.Test.YtggpaljilpbmhaaGreatDoorZ46
import Derived.Test.YtggpaljilpbmhaaGreatDoorZ43
import Derived.Test.YtggpaljilpbmhaaGreatDoorZ23
namespace Go.Proofs.YtggpaljilpbmhaaGreatDoor
open Go.RowKit

/-- A program as bytes. -/
def encC (p : Pv) : Nat → List Nat
 | 0 => []
 | m + 1 => encC p m ++ numB (p.C m).toNat
def encS (p : Pv) : Nat → List Nat
 | 0 => []
 | m + 1 => encS p m ++ big (p.S m).toNat 1
def encE (p : Pv) : Nat → List Nat
 | 0 => []
 | m + 1 => encE p m ++ numB (p.en m + 1).toNat
def argB (p : Pv) (i : Nat) : List Nat := if fArg (p.op i).toNat = 0 then [] else numB (p.arg i).toNat
def encI (p : Pv) : Nat → List Nat
 | 0 => []
 | m + 1 => encI p m ++ (big (p.op m).toNat 1 ++ argB p m)
def encH : List Nat := [] ++ big 20803 2 ++ big 1 1
def enc1 (p : Pv) (m : Nat) : List Nat := encH ++ numB p.nc ++ encC p m
def enc2 (p : Pv) (m : Nat) : List Nat := enc1 p p.nc ++ numB p.ns ++ encS p m
def enc3 (p : Pv) (m : Nat) : List Nat := enc2 p p.ns ++ encE p m
def enc4 (p : Pv) (m : Nat) : List Nat := enc3 p 6 ++ numB p.n ++ encI p m
def encP (p : Pv) : List Nat := enc4 p p.n
theorem big_lenP (v s : Nat) : (big v s).length = s := big_len v s s
theorem numB_lenP (v : Nat) : (numB v).length ≤ 10 := numTo_len 9 v
theorem numB_two {v : Nat} (h : v < 16384) : (numB v).length ≤ 2 := by
 by_cases q : v < 128
 ·rw [numB_small v q]; simp
 ·rw [numB_big v q (by omega), numB_small (v / 128) (by omega)]
  simp
theorem enc1_next (p : Pv) (m : Nat) : enc1 p (m + 1) = enc1 p m ++ numB (p.C m).toNat := by unfold enc1; rw [show encC p (m + 1) = encC p m ++ numB (p.C m).toNat from rfl]; simp only [List.append_assoc]
theorem enc2_next (p : Pv) (m : Nat) : enc2 p (m + 1) = enc2 p m ++ big (p.S m).toNat 1 := by unfold enc2; rw [show encS p (m + 1) = encS p m ++ big (p.S m).toNat 1 from rfl]; simp only [List.append_assoc]
theorem enc3_next (p : Pv) (m : Nat) : enc3 p (m + 1) = enc3 p m ++ numB (p.en m + 1).toNat := by unfold enc3; rw [show encE p (m + 1) = encE p m ++ numB (p.en m + 1).toNat from rfl]; simp only [List.append_assoc]
theorem enc4_next (p : Pv) (m : Nat) : enc4 p (m + 1) = enc4 p m ++ big (p.op m).toNat 1 ++ argB p m := by unfold enc4; rw [show encI p (m + 1) = encI p m ++ (big (p.op m).toNat 1 ++ argB p m) from rfl]; simp only [List.append_assoc]
section
variable {p : Pv}
theorem Wf.small (h : Wf p) {i : Nat} (hi : i < p.n) : 0 ≤ p.arg i ∧ p.arg i ≤ 1024 := by
 have g := h.ins i hi
 have h1 := op_nat g
 have ha := g.a
 obtain ⟨s1, s2, s3⟩ := h.sz
 rcases fArg_le (p.op i).toNat (by omega) with f | f | f | f | f | f
 ·simp [argF, f] at ha; omega
 ·simp [argF, f] at ha; have := isPl_nat ha; omega
 ·simp [argF, f] at ha; have := isPl_nat ha; omega
 ·simp [argF, f] at ha; have := isPl_nat ha; omega
 ·simp [argF, f] at ha; have := isPl_nat ha; omega
 ·simp [argF, f] at ha; omega
theorem Wf.enb (h : Wf p) {e : Nat} (he : e < 6) : -1 ≤ p.en e ∧ p.en e ≤ 1023 := by
 rcases h.en e he with q | q
 ·omega
 ·have := isPl_nat q; have := h.sz; omega
theorem argB_len (h : Wf p) {i : Nat} (hi : i < p.n) : (argB p i).length ≤ 2 := by
 unfold argB
 split
 ·simp
 ·have := h.small hi
  exact numB_two (by omega)
theorem len1 (h : Wf p) : ∀ {m : Nat}, (enc1 p m).length ≤ 5 + 10 * m
 | 0 => by
  have := numB_two (v := p.nc) (by have := h.sz; omega)
  have e : enc1 p 0 = encH ++ numB p.nc ++ [] := rfl
  have e2 : encH.length = 3 := by unfold encH; simp [big_lenP]
  rw [e]
  simp only [List.length_append, List.length_nil, e2]
  omega
 | m + 1 => by
  have := len1 h (m := m)
  have := numB_lenP (p.C m).toNat
  rw [enc1_next, List.length_append]
  omega
theorem len2 (h : Wf p) : ∀ {m : Nat}, (enc2 p m).length ≤ 2567 + m
 | 0 => by
  have := numB_two (v := p.ns) (by have := h.sz; omega)
  have := len1 h (m := p.nc)
  have := h.sz
  have e : enc2 p 0 = enc1 p p.nc ++ numB p.ns ++ [] := rfl
  rw [e]
  simp only [List.length_append, List.length_nil]
  omega
 | m + 1 => by
  have := len2 h (m := m)
  rw [enc2_next, List.length_append, big_lenP]
  omega
theorem len3 (h : Wf p) : ∀ {m : Nat}, m ≤ 6 → (enc3 p m).length ≤ 2695 + 2 * m
 | 0, _ => by
  have := len2 h (m := p.ns)
  have := h.sz
  have e : enc3 p 0 = enc2 p p.ns ++ [] := rfl
  rw [e]
  simp only [List.length_append, List.length_nil]
  omega
 | m + 1, hm => by
  have := len3 h (m := m) (by omega)
  have := h.enb (e := m) (by omega)
  have := numB_two (v := (p.en m + 1).toNat) (by omega)
  rw [enc3_next, List.length_append]
  omega
theorem len4 (h : Wf p) : ∀ {m : Nat}, m ≤ p.n → (enc4 p m).length ≤ 2709 + 3 * m
 | 0, _ => by
  have := len3 h (m := 6) (by omega)
  have := numB_two (v := p.n) (by have := h.sz; omega)
  have e : enc4 p 0 = enc3 p 6 ++ numB p.n ++ [] := rfl
  rw [e]
  simp only [List.length_append, List.length_nil]
  omega
 | m + 1, hm => by
  have := len4 h (m := m) (by omega)
  have := argB_len h (i := m) (by omega)
  rw [enc4_next, List.length_append, List.length_append, big_lenP]
  omega
end
/-- Pack's world. -/
structure Pq (W : World) (g : Pg) (p : Pv) (B wb : Nat) (L : List Nat) (w : World) : Prop where
 bp : w.heap[W.heap.size]? = some (.cells (g.cs p).toArray 27 (0, 0))
 ok : g.Ok p W.heap.size w
 tab : Tab w
 z : 10 < W.heap.size
 bel : Below W.heap.size W w
 wr : Wr KW B w wb true 0 0 8192 L
 hB : B ≤ wb
 hs : B ≤ w.heap.size
 lb : W.heap.size < B
section
variable {W : World} {g : Pg} {p : Pv} {B wb : Nat} {L L' : List Nat} {w w' : World}
theorem Pq.step (h : Pq W g p B wb L w) (hw : Wr KW B w' wb true 0 0 8192 L') (hb : Below B w w') : Pq W g p B wb L' w' :=
 ⟨(hb.block _ h.lb).trans h.bp, h.ok.kept hb (Nat.le_of_lt h.lb), h.tab.below hb (Nat.lt_trans h.z h.lb), h.z, h.bel.trans (hb.mono (Nat.le_of_lt h.lb)), hw, h.hB, Nat.le_trans h.hs hb.size, h.lb⟩
theorem Pq.box (h : Pq W g p B wb L w) (o : Obj) : Pq W g p B wb L (w.alloc o) := h.step (h.wr.alloc o) ((below_alloc1 w o).mono h.hs)
theorem Pq.u8 (h : Pq W g p B wb L w) (v : Nat) (vi : Int) (hvi : vi = (v : Int)) (hv : v < 256) (hfit : L.length + 1 ≤ 8192) : Calls Tryz.prog 43 #[.pointer (some ⟨wb, 0, none⟩), .int .u8 vi] w fun e w' => e = .returned (.tuple #[]) ∧ Hid (Pq W g p B wb (L ++ big v 1) w') :=
 (wU8_good B B wb v vi 0 8192 L w hvi hv h.wr (by decide) (by omega) h.hs (Nat.le_refl _) h.hB).mono fun _ _ ⟨h1, h2, h3⟩ => ⟨h1, h.step h2 h3⟩
theorem Pq.u16 (h : Pq W g p B wb L w) (v : Nat) (vi : Int) (hvi : vi = (v : Int)) (hv : v < 65536) (hfit : L.length + 2 ≤ 8192) : Calls Tryz.prog 42 #[.pointer (some ⟨wb, 0, none⟩), .int .u16 vi] w fun e w' => e = .returned (.tuple #[]) ∧ Hid (Pq W g p B wb (L ++ big v 2) w') :=
 (wU16_good B B wb v vi 0 8192 L w hvi hv h.wr (by decide) (by omega) h.hs (Nat.le_refl _) h.hB).mono fun _ _ ⟨h1, h2, h3⟩ => ⟨h1, h.step h2 h3⟩
theorem Pq.num (h : Pq W g p B wb L w) (v : Nat) (vi : Int) (hvi : vi = (v : Int)) (hv : v < 18446744073709551616) (hfit : L.length + (numB v).length ≤ 8192) : Calls Tryz.prog 45 #[.pointer (some ⟨wb, 0, none⟩), .int .u64 vi] w fun e w' => e = .returned (.tuple #[]) ∧ Hid (Pq W g p B wb (L ++ numB v) w') :=
 (wNum_good B B wb v vi 0 8192 L w hvi hv h.wr (by decide) (by omega) h.hs (Nat.le_refl _) h.hB).mono fun _ _ ⟨h1, h2, h3⟩ => ⟨h1, h.step h2 h3⟩
theorem Pq.count (h : Pq W g p B wb L w) (v : Nat) (vi cm : Int) (hvi : vi = (v : Int)) (hv : v < 9223372036854775808) (hcm : vi ≤ cm) (hfit : L.length + (numB v).length ≤ 8192) : Calls Tryz.prog 44 #[.pointer (some ⟨wb, 0, none⟩), .int .i64 vi, .int .i64 cm] w fun e w' => e = .returned (.tuple #[]) ∧ Hid (Pq W g p B wb (L ++ numB v) w') :=
 (wCount_good B B wb v vi cm 0 8192 L w hvi hv hcm h.wr (by decide) (by omega) h.hs (Nat.le_refl _) h.hB).mono fun _ _ ⟨h1, h2, h3⟩ => ⟨h1, h.step h2 h3⟩
end
set_option maxRecDepth 10000 in
set_option maxHeartbeats 400000 in
theorem newWriterP (w : World) :
  Calls Tryz.prog 41 #[.int .i64 8192] w fun e w' => e = .returned (.pointer (some ⟨w.heap.size, 0, none⟩)) ∧ Hid (Wr KW w.heap.size w' w.heap.size true 0 0 8192 [] ∧ Below w.heap.size w w') := by
 go_enter Tryz.func41, Tryz.ntmps41
 go_wp2
 go_ret
 refine ⟨rfl, ⟨.slice none 0 0, ?_, Owns.nil _ _, by simp [Value.ownBlock]⟩, (Below.refl _ w).alloc (Nat.le_refl _) _⟩
 exact heap_alloc_new w _
end Go.Proofs.YtggpaljilpbmhaaGreatDoor
