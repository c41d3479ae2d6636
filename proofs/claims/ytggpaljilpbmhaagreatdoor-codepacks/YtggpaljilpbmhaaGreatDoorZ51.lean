import Derived.Test.YtggpaljilpbmhaaGreatDoorZ45
import Derived.Test.YtggpaljilpbmhaaGreatDoorZ49
import Derived.Test.YtggpaljilpbmhaaGreatDoorZ50
import Derived.Test.YtggpaljilpbmhaaGreatDoorZ25
import Derived.Deep.DeepCutAuto
import Derived.Test.YtggpaljilpbmhaaGreatDoorZ40
namespace Go.Proofs.YtggpaljilpbmhaaGreatDoor
open Go.RowKit

/-- A fault has one link or two. -/
def fzOk (f : Fz) : Prop := 0 < f.1.length ∧ f.1.length ≤ 11
theorem fzW_ok (p y : Int) : fzOk (fzW p y) := ⟨by show 0 < 2; decide, by show 2 ≤ 11; decide⟩
theorem fzO_ok (p y : Int) : fzOk (fzO p y) := ⟨by show 0 < 1; decide, by show 1 ≤ 11; decide⟩
theorem fzP_ok (p y : Int) (r : Nat × Nat × Int) : fzOk (fzP p y r) := by
 unfold fzP
 split
 ·exact fzO_ok _ _
 ·exact fzW_ok _ _
theorem fzI_ok (p : Nat) (B : List Nat) : fzOk (fzI p B) := by
 unfold fzI
 split
 ·split
  ·exact fzP_ok _ _ _
  ·exact fzO_ok _ _
 ·exact fzW_ok _ _
theorem fzH_ok (B : List Nat) : fzOk (fzH B) := by
 unfold fzH
 split
 ·exact fzW_ok _ _
 ·split
  ·exact fzO_ok _ _
  ·split
   ·exact fzW_ok _ _
   ·exact fzO_ok _ _
theorem loopE_ok {f : Nat → Pv × Nat → Except Fz (Pv × Nat)} (hf : ∀ i s z, f i s = .error z → fzOk z) : ∀ {n : Nat} {s : Pv × Nat} {z : Fz}, loopE f n s = .error z → fzOk z
 | 0, _, _, h => by cases h
 | n + 1, s, z, h => by
  cases e : loopE f n s with
  | ok s' => rw [loopE_next e] at h; exact hf _ _ _ h
  | error z' =>
   simp only [loopE, e] at h
   cases h
   exact loopE_ok hf e
theorem stp1_ok {B : List Nat} : ∀ i s z, stp1 B i s = .error z → fzOk z := fun i s z h => by
 unfold stp1 at h
 split at h
 ·cases h
 ·cases h; exact fzW_ok _ _
theorem stp2_ok {B : List Nat} : ∀ i s z, stp2 B i s = .error z → fzOk z := fun i s z h => by
 unfold stp2 at h
 split at h
 ·cases h
 ·cases h; exact fzW_ok _ _
theorem stp3_ok {B : List Nat} : ∀ i s z, stp3 B i s = .error z → fzOk z := fun i s z h => by
 unfold stp3 at h
 split at h
 ·cases h
 ·cases h; exact fzP_ok _ _ _
theorem stp4_ok {B : List Nat} : ∀ i s z, stp4 B i s = .error z → fzOk z := fun i s z h => by
 unfold stp4 at h
 split at h
 ·cases h
 ·cases h; exact fzI_ok _ _
theorem aft4_ok {B : List Nat} {r : Except Fz (Pv × Nat)} (hr : ∀ z, r = .error z → fzOk z) {z : Fz} (h : aft4 B r = .error z) : fzOk z := by
 cases r with
 | error f => cases h; exact hr _ rfl
 | ok s =>
  have h : (if s.2 < B.length then (.error (fzW s.2 28) : Except Fz Pv) else .ok s.1) = .error z := h
  split at h
  ·cases h; exact fzW_ok _ _
  ·cases h
theorem aft3_ok {B : List Nat} {r : Except Fz (Pv × Nat)} (hr : ∀ z, r = .error z → fzOk z) {z : Fz} (h : aft3 B r = .error z) : fzOk z := by
 cases r with
 | error f => cases h; exact hr _ rfl
 | ok s =>
  have h : (if (countAt (B.drop s.2) 1024).2.2 = 0 then aft4 B (loopE (stp4 B) (countAt (B.drop s.2) 1024).1 (setN s.1 (countAt (B.drop s.2) 1024).1, s.2 + (countAt (B.drop s.2) 1024).2.1)) else .error (fzW s.2 (countAt (B.drop s.2) 1024).2.2)) = .error z := h
  split at h
  ·exact aft4_ok (fun z e => loopE_ok stp4_ok e) h
  ·cases h; exact fzW_ok _ _
theorem aft2_ok {B : List Nat} {r : Except Fz (Pv × Nat)} (hr : ∀ z, r = .error z → fzOk z) {z : Fz} (h : aft2 B r = .error z) : fzOk z := by
 cases r with
 | error f => cases h; exact hr _ rfl
 | ok s => exact aft3_ok (fun z e => loopE_ok stp3_ok e) (show aft3 B (loopE (stp3 B) 6 s) = .error z from h)
theorem aft1_ok {B : List Nat} {r : Except Fz (Pv × Nat)} (hr : ∀ z, r = .error z → fzOk z) {z : Fz} (h : aft1 B r = .error z) : fzOk z := by
 cases r with
 | error f => cases h; exact hr _ rfl
 | ok s =>
  have h : (if (countAt (B.drop s.2) 128).2.2 = 0 then aft2 B (loopE (stp2 B) (countAt (B.drop s.2) 128).1 (setNs s.1 (countAt (B.drop s.2) 128).1, s.2 + (countAt (B.drop s.2) 128).2.1)) else .error (fzW s.2 (countAt (B.drop s.2) 128).2.2)) = .error z := h
  split at h
  ·exact aft2_ok (fun z e => loopE_ok stp2_ok e) h
  ·cases h; exact fzW_ok _ _
theorem upF_fz {B : List Nat} {z : Fz} (h : upF B = .error z) : fzOk z := by
 unfold upF at h
 split at h
 ·cases h; exact fzO_ok _ _
 ·cases e : upR B with
  | error f =>
   rw [e] at h
   cases h
   unfold upR at e
   split at e
   ·split at e
    ·exact aft1_ok (fun z e => loopE_ok stp1_ok e) e
    ·cases e; exact fzW_ok _ _
   ·cases e; exact fzH_ok _
  | ok q =>
   rw [e] at h
   simp only at h
   split at h
   ·cases h; exact fzO_ok _ _
   ·cases h
/-- An error and a fault of the reference that are alike. -/
def ErX (w : World) (v : Value) (aF : Option Addr) (nF cF : Nat) (yF : Int) : Prop := (v = .nilIface ∧ aF = none ∧ nF = 0 ∧ cF = 0 ∧ yF = 0) ∨ ∃ L b off, nF = List.length L ∧ yF ≠ 0 ∧ 0 < L.length ∧ L.length ≤ 11 ∧ Chain w.heap.size w L v yF ∧ FV w.heap.size w aF L b off
theorem isX {w : World} {v : Value} {aF : Option Addr} {nF cF : Nat} {yF : Int} (h : ErX w v aF nF cF yF) : Calls Tryz.prog 17 #[v, .agg #[.slice aF nF cF, .int .i64 yF]] w fun e w' => e = .returned (.bool true) ∧ Hid (Below w.heap.size w w') := by
 rcases h with ⟨rfl, rfl, rfl, rfl, rfl⟩ | ⟨L, b, off, rfl, hy, h0, h11, hc, hf⟩
 ·exact is_any (L := []) (b := 0) (o := 0) 0 0 rfl (.inl ⟨rfl, rfl, rfl⟩) (FV.nil _ _ _ _ _)
 ·exact is_any L.length cF rfl (.inr ⟨hc, h0, h11, hy⟩) hf
theorem ErX.next {w w' : World} {v : Value} {aF : Option Addr} {nF cF : Nat} {yF : Int} (h : ErX w v aF nF cF yF) (hb : Below w.heap.size w w') : ErX w' v aF nF cF yF := by
 rcases h with h | ⟨L, b, off, e, hy, h0, h11, hc, hf⟩
 ·exact .inl h
 ·exact .inr ⟨L, b, off, e, hy, h0, h11, (Chain.below hb hc).wide hb.size, hf.next hb⟩
/-- A program that is nothing. -/
def gZ : Pg := ⟨none, none, none, 0, 0, 0, 0, 0, 0, 0, 0, 0⟩
theorem okZ (lim : Nat) (w : World) : gZ.Ok (ini1 0) lim w :=
 ⟨fun h => absurd h (Nat.not_lt_zero _), fun h => absurd h (Nat.not_lt_zero _), fun h => absurd h (Nat.not_lt_zero _), fun _ h => absurd h (Nat.not_lt_zero _), fun _ h => absurd h (Nat.not_lt_zero _), fun _ h => absurd h (Nat.not_lt_zero _), fun _ h => absurd h (Nat.not_lt_zero _), Nat.zero_le _, Nat.zero_le _, Nat.zero_le _⟩
/-- Unpack of the reference, then of the program: what they answer agrees. -/
theorem unpackBoth {W : World} {l0 : Nat} {ao : Option Addr} {n cap : Nat} {B : List Nat} (h : Shows l0 W ao n cap B) (hl : l0 ≤ W.heap.size) :
  Calls Tryz.prog 49 #[.slice ao n cap] W fun e w' => ∃ (q : Pv) (g1 : Pg) (aF : Option Addr) (nF cF : Nat) (yF : Int), e = .returned (.tuple #[.agg (g1.cs q).toArray, .agg #[.slice aF nF cF, .int .i64 yF]]) ∧
   Hid (Below W.heap.size W w' ∧ g1.Ok q w'.heap.size w' ∧ ∀ (w2 : World) (l2 : Nat) (a2 : Option Addr) (n2 c2 : Nat), Shows l2 w2 a2 n2 c2 B → l2 ≤ w2.heap.size → ErrT w2 → Tab w2 → Below w'.heap.size w' w2 →
    Calls Tryz.prog 20 #[.slice a2 n2 c2] w2 fun e w3 => ∃ (g2 : Pg) (v : Value), e = .returned (.tuple #[.agg (g2.cs q).toArray, v]) ∧ Hid (Below w2.heap.size w2 w3 ∧ g2.Ok q w3.heap.size w3 ∧ ErX w3 v aF nF cF yF)) := by
 refine (unpackQ h hl).mono ?_
 rintro e w' (⟨f, aF, cF, rfl, G⟩ | ⟨q, gq, rfl, G⟩)
 ·obtain ⟨g1, g2, g3, b, off, g4⟩ := G.out
  refine ⟨ini1 0, gZ, aF, f.1.length, cF, f.2, rfl, g1, okZ _ _, fun w2 l2 a2 n2 c2 hs hl2 he ht hb => ?_⟩
  refine (unpackX hs hl2 he ht).mono ?_
  rintro e w3 (⟨gf, f', rfl, K⟩ | ⟨q', gq', rfl, K⟩)
  ·obtain ⟨k1, k2, k3⟩ := K.out
   have : f' = f := by rw [g2] at k2; cases k2; rfl
   subst this
   obtain ⟨o1, o2⟩ := upF_fz g2
   exact ⟨gZ, _, rfl, k1, okZ _ _, .inr ⟨f'.1, b, off, rfl, g3, o1, o2, k3, (g4.next hb).next k1⟩⟩
  ·obtain ⟨_, _, _, k⟩ := K.out
   rw [g2] at k
   cases k
 ·obtain ⟨g1, g2, g3, g4⟩ := G.out
  refine ⟨q, gq, none, 0, 0, 0, rfl, g1, g2.ok, fun w2 l2 a2 n2 c2 hs hl2 he ht hb => ?_⟩
  refine (unpackX hs hl2 he ht).mono ?_
  rintro e w3 (⟨gf, f', rfl, K⟩ | ⟨q', gq', rfl, K⟩)
  ·obtain ⟨_, k, _⟩ := K.out
   rw [g4] at k
   cases k
  ·obtain ⟨k1, k2, _, k4⟩ := K.out
   have : q' = q := by rw [g4] at k4; cases k4; rfl
   subst this
   exact ⟨gq', _, rfl, k1, k2.ok, .inl ⟨rfl, rfl, rfl, rfl, rfl⟩⟩
end Go.Proofs.YtggpaljilpbmhaaGreatDoor
namespace Go.Proofs.YtggpaljilpbmhaaGreatDoor
open Go.RowKit Crc

set_option maxRecDepth 10000 in
set_option maxHeartbeats 6400000 in
theorem unpacksW {W : World} {l0 : Nat} {ao : Option Addr} {n cap : Nat} {B : List Nat} (h : Shows l0 W ao n cap B) (hl : l0 ≤ W.heap.size) (he : ErrT W) (hT : Tab W) :
  Calls Tryz.prog 19 #[.slice ao n cap] W fun e w' => e = .returned (.bool true) ∧ Hid (Below W.heap.size W w') := by
 obtain ⟨i0, hi, hz0, hz1, hz2⟩ := info_parts Tryz.info5
 have HI0 := hide (And.intro hi (And.intro hz0 (And.intro hz1 hz2)))
 have HUB := hide (unpackBoth h hl)
 have HSH := hide h
 have HLL := hide hl
 have HER := hide he
 have HTB := hide hT
 obtain ⟨p1, _, p3, p4, b, off, p5, p6, p7⟩ := h
 have HA : Hid (0 < n → ao = some ⟨b, off, none⟩) := p5
 have HN : Hid (n = B.length) := p1
 have HB : Hid (∀ x ∈ B, x < 256) := p4
 have HW : Hid (0 < n → b < W.heap.size) := fun h0 => Nat.lt_of_lt_of_le (p6 h0) hl
 have HC : Hid (∀ i, i < n → W.cell? ⟨b, off + i, none⟩ = some (.int .u8 ((B.getD i 0 : Nat) : Int))) := p7
 clear hi hz0 hz1 hz2 hl he hT p1 p4 p5 p6 p7
 go_enter Tryz.func19, Tryz.ntmps19
 go_wp2_with fail
 refine HUB.out.mono ?_
 rintro x w1 ⟨q, g1, aF, nF, cF, yF, rfl, G⟩
 have HCS : Hid (∀ g : Pg, (g.cs q).toArray = #[.slice g.ca q.nc g.cc, .slice g.sa q.ns g.sc, .int .i64 (q.en 0), .int .i64 (q.en 1), .int .i64 (q.en 2), .int .i64 (q.en 3), .int .i64 (q.en 4), .int .i64 (q.en 5), .slice g.ia q.n g.ic]) := fun _ => rfl
 rw [HCS.out g1]
 go_upto_region 4 with fail
 obtain ⟨w3, hw3⟩ : ∃ w3, (w1.alloc (.cells #[.slice g1.ca q.nc g1.cc, .slice g1.sa q.ns g1.sc, .int .i64 (q.en 0), .int .i64 (q.en 1), .int .i64 (q.en 2), .int .i64 (q.en 3), .int .i64 (q.en 4), .int .i64 (q.en 5), .slice g1.ia q.n g1.ic] 27)).alloc (.cells #[.slice aF nF cF, .int .i64 yF] 54) = w3 := ⟨_, rfl⟩
 obtain ⟨A3, A4, b3⟩ := two_box2L w1 _ _ _ _ hw3
 rw [hw3]
 obtain ⟨qb, hqb⟩ : ∃ qb, w1.heap.size = qb := ⟨_, rfl⟩
 rw [hqb] at A3 A4 ⊢
 obtain ⟨k1, k2, k3⟩ := G.out
 have HA3 := hide A3
 have HA4 := hide A4
 have HB3 : Hid (Below W.heap.size W w3) := k1.trans (b3.mono k1.size)
 have HOK : Hid (g1.Ok q w3.heap.size w3) := (k2.kept b3 (Nat.le_refl _)).wide b3.size
 have HUP := hide (fun (w2 : World) (l2 : Nat) (a2 : Option Addr) (n2 c2 : Nat) hs hl2 he2 ht2 (hb2 : Below w3.heap.size w3 w2) => k3 w2 l2 a2 n2 c2 hs hl2 he2 ht2 (b3.trans (hb2.mono b3.size)))
 clear hw3 A3 A4 b3 k1 k2 k3 G HUB hqb
 go_loopw [5, 6] (fun v i wr => ∃ k : Nat, k ≤ n ∧ i = .int .i64 k ∧ Hid (Owns w3.heap.size wr v (B.take k)) ∧ Hid (Below w3.heap.size w3 wr)) (fun _ i _ => n - (intOf i).toNat)
 case atStart => exact ⟨0, by omega, rfl, by rw [List.take_zero]; exact hide (Owns.nil _ _), hide (Below.refl _ _)⟩
 case round =>
  obtain ⟨k, hk, rfl, HO, HNX⟩ := hrel
  have hsize := HNX.out.size
  by_cases hlt : k < n
  ·have hck := (HNX.out.cell (p := ⟨b, off + k, none⟩) (Nat.lt_of_lt_of_le (HW.out (by omega)) HB3.out.size)).trans ((HB3.out.cell (p := ⟨b, off + k, none⟩) (HW.out (by omega))).trans (HC.out k hlt))
   obtain rfl := HA.out (by omega)
   have hcb : B.getD k 0 < 256 := by
    rw [List.getD_eq_getElem?_getD]
    cases e : B[k]? with
    | none => simp
    | some x => simpa using HB.out x (List.mem_of_getElem? e)
   have htl : (B.take k).length = k := by rw [List.length_take]; have := HN.out; omega
   have hown : wr.ownsRow w3.heap.size 5 1 u5 k (vals (B.take k)) := by have := HO.out.1; rw [htl] at this; exact this
   have HTS : Hid (B.take (k + 1) = B.take k ++ [B.getD k 0]) := take_snoc B k (by have := HN.out; omega)
   obtain ⟨c, hcd⟩ : ∃ c, c = B.getD k 0 := ⟨_, rfl⟩
   rw [← hcd] at hck hcb HTS
   clear hcd
   have HTL : Hid ((B.take k).length = k) := htl
   have HHO : Hid (wr.ownsRow w3.heap.size 5 1 u5 k (vals (B.take k))) := hown
   clear htl hown
   have hbw : b < wr.heap.size := Nat.lt_of_lt_of_le (HW.out (by omega)) (Nat.le_trans HB3.out.size hsize)
   go_wp2_with (first
    | (at_builtin; refine wpList_append_own _ rfl (.tmp 20) (.tmp 25) 51 rfl w3.heap.size 5 i0 (.int .u8 0) 1 1 Tryz.underlying51 HI0.out.1 HI0.out.2.1 HI0.out.2.2.1 HI0.out.2.2.2 rfl (by decide) u5 k (vals (B.take k)) rfl (HHO.out.alloc _) ⟨wr.heap.size, 0, none⟩ 1 1 [.int .u8 (c : Int)] rfl rfl (cell_one_new _ _ _) (Shade.one _ rfl) (by unfold maxLen; omega) (by omega) (by simp; omega) ?_; intro v5 w5 hown1 hgrow1 _))
   have HNV : Hid (Below w3.heap.size w3 w5) := (HNX.out.alloc (by omega) _).grown hgrow1 (by simp; omega) (fun j hj => (HHO.out.lt j hj).1)
   have HOV : Hid (Owns w3.heap.size w5 v5 (B.take (k + 1))) := by
    show Owns _ _ _ _
    rw [HTS.out]
    exact HO.out.snoc hcb (by rw [HTL.out]; omega) (by rw [HTL.out]; exact hown1)
   clear hown1 hgrow1 HHO HTS HTL HO HNX hck hcb hbw hsize
   go_wp2
   go_roundw
   case rel => exact ⟨k + 1, by omega, by go_num, HOV, HNV⟩
   case measure => simp [intOf]; omega
  ·obtain rfl : k = n := by omega
   have hOB : Owns w3.heap.size wr u5 B := by
    have := HO.out
    rw [List.take_of_length_le (by have := HN.out; omega)] at this
    exact this
   obtain ⟨a5, c5, rfl, hs5, _⟩ := hOB.form
   rw [← HN.out] at hs5 ⊢
   have HS5 := hide hs5
   have HBW := hide (HB3.out.trans (HNX.out.mono HB3.out.size))
   have HUC := hide (HUP.out wr wr.heap.size a5 k c5 hs5 (Nat.le_refl _) ((HBW.out.cell (p := ⟨1, 0, none⟩) HER.out.lt).trans HER.out) (HTB.out.below HBW.out HTB.out.z) HNX.out)
   clear hOB hs5 HO hlt
   go_wp2_with fail
   refine HUC.out.mono ?_
   rintro x w6 ⟨g2, v, rfl, G⟩
   rw [HCS.out g2]
   obtain ⟨k1, k2, k3⟩ := G.out
   obtain ⟨w7, hw7⟩ : ∃ w7, w6.alloc (.cells #[.slice g2.ca q.nc g2.cc, .slice g2.sa q.ns g2.sc, .int .i64 (q.en 0), .int .i64 (q.en 1), .int .i64 (q.en 2), .int .i64 (q.en 3), .int .i64 (q.en 4), .int .i64 (q.en 5), .slice g2.ia q.n g2.ic] 27) = w7 := ⟨_, rfl⟩
   have b7 : Below w6.heap.size w6 w7 := by rw [← hw7]; exact below_alloc1 _ _
   have A7 : w7.heap[w6.heap.size]? = some (.cells #[.slice g2.ca q.nc g2.cc, .slice g2.sa q.ns g2.sc, .int .i64 (q.en 0), .int .i64 (q.en 1), .int .i64 (q.en 2), .int .i64 (q.en 3), .int .i64 (q.en 4), .int .i64 (q.en 5), .slice g2.ia q.n g2.ic] 27 (0, 0)) := by rw [← hw7]; exact alloc_atK _ _
   obtain ⟨pb, hpb⟩ : ∃ pb, w6.heap.size = pb := ⟨_, rfl⟩
   have b37 := HNX.out.trans ((k1.trans (b7.mono k1.size)).mono HNX.out.size)
   have HB7 : Hid (Below W.heap.size W w7) := HB3.out.trans (b37.mono HB3.out.size)
   have B3 := (b37.block _ (block_lt HA3.out)).trans HA3.out
   have HB4 := hide ((b37.block _ (block_lt HA4.out)).trans HA4.out)
   have HSM := hide (sameT ((k2.kept b7 (Nat.le_refl _)).wide b7.size) ((HOK.out.kept b37 (Nat.le_refl _)).wide b37.size))
   have HEX := hide (k3.next b7)
   have HS7 : Hid (Shows w7.heap.size w7 a5 k c5 B) := ((HS5.out.kept (row := none) (grown_belowU (k1.trans (b7.mono k1.size))) (fun g e => by cases e))).wide (Nat.le_trans k1.size b7.size)
   have HW7 := hide hw7
   rw [HCS.out g2, HCS.out g1] at HSM
   rw [hpb] at A7
   clear hw7 b7 k1 k2 k3 G b37 HUC HNX HBW HB3 HUP HS5 HA3 HA4 HOK
   go_upto_region 8 with fail
   rw [HW7.out]
   clear HW7
   try rw [hpb]
   clear hpb
   have x0 := block_cell A7 0
   have x1 := block_cell A7 1
   have x2 := block_cell A7 2
   have x3 := block_cell A7 3
   have x4 := block_cell A7 4
   have x5 := block_cell A7 5
   have x6 := block_cell A7 6
   have x7 := block_cell A7 7
   have x8 := block_cell A7 8
   have xl := block_lt A7
   simp at x0 x1 x2 x3 x4 x5 x6 x7 x8
   have y0 := block_cell B3 0
   have y1 := block_cell B3 1
   have y2 := block_cell B3 2
   have y3 := block_cell B3 3
   have y4 := block_cell B3 4
   have y5 := block_cell B3 5
   have y6 := block_cell B3 6
   have y7 := block_cell B3 7
   have y8 := block_cell B3 8
   have yl := block_lt B3
   simp at y0 y1 y2 y3 y4 y5 y6 y7 y8
   clear A7 B3
   go_wp2_with fail
   refine HSM.out.mono ?_
   rintro x w8 ⟨rfl, G⟩
   have F8 := (G.out.block _ (block_lt HB4.out)).trans HB4.out
   have HB8 := hide (HB7.out.trans (G.out.mono HB7.out.size))
   have HIS := hide (isX (HEX.out.next G.out))
   have HS8 : Hid (Shows w8.heap.size w8 a5 k c5 B) := (HS7.out.kept (row := none) (grown_belowU G.out) (fun g e => by cases e)).wide G.out.size
   clear G HSM HB7 HEX HS7 HB4 x0 x1 x2 x3 x4 x5 x6 x7 x8 xl y0 y1 y2 y3 y4 y5 y6 y7 y8 yl
   have f0 := block_cell F8 0
   have f1 := block_cell F8 1
   have fl := block_lt F8
   simp at f0 f1
   clear F8
   go_wp2_with fail
   refine HIS.out.mono ?_
   rintro x w9 ⟨rfl, G⟩
   have HB9 := hide (HB8.out.trans (G.out.mono HB8.out.size))
   have HSB := hide (sameB_any (HS8.out.kept (row := none) (grown_belowU G.out) (fun g e => by cases e)) (HSH.out.kept (row := none) (grown_belowU (HB8.out.trans (G.out.mono HB8.out.size))) (fun g e => by cases e)))
   clear G HIS HB8 HS8 f0 f1 fl
   go_wp2_with fail
   refine HSB.out.mono ?_
   rintro x w10 ⟨rfl, nq, hwq⟩
   have HD : Hid (Below W.heap.size W w10) := by rw [hwq]; exact HB9.out.trans (Go.below_drewN (Below.refl _ w9) nq)
   clear hwq HSB HB9
   go_wp2
   go_ret
   exact ⟨rfl, HD⟩
end Go.Proofs.YtggpaljilpbmhaaGreatDoor
namespace Go.Proofs.YtggpaljilpbmhaaGreatDoor
open Go.RowKit

theorem shows_noneQ (lim : Nat) (w : World) : Shows lim w none 0 0 [] := ⟨rfl, by omega, by omega, by simp, 0, 0, fun h => by omega, fun h => by omega, fun i hi => by omega⟩
/-- Pack of the reference, then of the program: what they answer agrees. -/
theorem packBoth {W : World} {g : Pg} {p : Pv} (h : g.Ok p W.heap.size W) (hC : ∀ j, j < p.nc → 0 ≤ p.C j ∧ p.C j < 18446744073709551616) :
  Calls Tryz.prog 13 #[.agg (g.cs p).toArray] W fun e w' => ∃ (aw : Option Addr) (nw cw : Nat) (aF : Option Addr) (nF cF : Nat) (yF : Int) (Bp : List Nat), e = .returned (.tuple #[.slice aw nw cw, .agg #[.slice aF nF cF, .int .i64 yF]]) ∧
   Hid (Below W.heap.size W w' ∧ Shows w'.heap.size w' aw nw cw Bp ∧ ∀ (w2 : World) (g2 : Pg), g2.Ok p w2.heap.size w2 → Tab w2 → Below w'.heap.size w' w2 →
    Calls Tryz.prog 15 #[.agg (g2.cs p).toArray] w2 fun e w3 => ∃ (a3 : Option Addr) (c3 : Nat) (v : Value), e = .returned (.tuple #[.slice a3 nw c3, v]) ∧ Hid (Below w2.heap.size w2 w3 ∧ Shows w3.heap.size w3 a3 nw c3 Bp ∧ ErX w3 v aF nF cF yF)) := by
 refine (packQ h hC).mono ?_
 intro e w' hh
 cases hv : verF p with
 | error z =>
  obtain ⟨a, y⟩ := z
  rw [hv] at hh
  obtain ⟨aF, cF, rfl, G⟩ := hh
  obtain ⟨hy, ⟨b, off, hf⟩, hb⟩ := G.out
  refine ⟨none, 0, 0, aF, 1, cF, y, [], rfl, hb, shows_noneQ _ _, fun w2 g2 ho ht hb2 => ?_⟩
  refine (packX ho ht hv).mono ?_
  rintro e w3 ⟨gf, rfl, K⟩
  obtain ⟨k1, k2⟩ := K.out
  exact ⟨none, 0, _, rfl, k2, shows_noneQ _ _, .inr ⟨_, b, off, rfl, hy, by show 0 < 1; decide, by show 1 ≤ 11; decide, k1, (hf.next hb2).next k2⟩⟩
 | ok k =>
  rw [hv] at hh
  obtain ⟨v, rfl, G⟩ := hh
  obtain ⟨hO, hb⟩ := G.out
  obtain ⟨aw, cw, rfl, hs, _⟩ := hO.form
  refine ⟨aw, _, cw, none, 0, 0, 0, encP p, rfl, hb, hs, fun w2 g2 ho ht hb2 => ?_⟩
  refine (packC ho ht hC).mono ?_
  intro e w3 hh
  rw [hv] at hh
  obtain ⟨v, rfl, K⟩ := hh
  obtain ⟨kO, kb⟩ := K.out
  obtain ⟨a3, c3, rfl, ks, _⟩ := kO.form
  exact ⟨a3, c3, _, rfl, kb, ks, .inl ⟨rfl, rfl, rfl, rfl, rfl⟩⟩
/-- What is given to the law. -/
structure Ly (W : World) (g : Pg) (p : Pv) (l0 : Nat) (ao : Option Addr) (n cap : Nat) (B : List Nat) : Prop where
 k : g.Ok p W.heap.size W
 t : Tab W
 e : ErrT W
 s : Shows l0 W ao n cap B
 l : l0 ≤ W.heap.size
 b0 : p.nc * 8 ≤ 140737488351232
 b1 : p.ns * 8 ≤ 140737488351232
 b2 : p.n * 16 ≤ 140737488351232
 C : ∀ j, j < p.nc → 0 ≤ p.C j ∧ p.C j < 18446744073709551616
/-- A world of the law. -/
structure Lz (W : World) (g g' : Pg) (p : Pv) (fb cb : Nat) (aF : Option Addr) (nF cF : Nat) (yF : Int) (aw : Option Addr) (nw cw : Nat) (Bp : List Nat) (w : World) : Prop where
 pb : w.heap[W.heap.size]? = some (.cells (g.cs p).toArray 27 (0, 0))
 pf : w.heap[fb]? = some (.cells #[.slice aF nF cF, .int .i64 yF] 54 (0, 0))
 pc : w.heap[cb]? = some (.cells (g'.cs p).toArray 27 (0, 0))
 ok : g'.Ok p w.heap.size w
 sp : Sp g' p w.heap.size w
 sw : Shows w.heap.size w aw nw cw Bp
 bel : Below W.heap.size W w
section
variable {W w w' : World} {g g' : Pg} {p : Pv} {fb cb : Nat} {aF : Option Addr} {nF cF : Nat} {yF : Int} {aw : Option Addr} {nw cw : Nat} {Bp : List Nat} {l0 : Nat} {ao : Option Addr} {n cap : Nat} {B : List Nat}
theorem shows_next (h : Shows w.heap.size w aw nw cw Bp) (hb : Below w.heap.size w w') : Shows w'.heap.size w' aw nw cw Bp := (h.kept (row := none) (grown_belowU hb) (fun g e => by cases e)).wide hb.size
theorem Lz.next (h : Lz W g g' p fb cb aF nF cF yF aw nw cw Bp w) (hb : Below w.heap.size w w') : Lz W g g' p fb cb aF nF cF yF aw nw cw Bp w' :=
 ⟨(hb.block _ (block_lt h.pb)).trans h.pb, (hb.block _ (block_lt h.pf)).trans h.pf, (hb.block _ (block_lt h.pc)).trans h.pc, (h.ok.kept hb (Nat.le_refl _)).wide hb.size, (h.sp.kept hb (Nat.le_refl _)).wide hb.size, shows_next h.sw hb, h.bel.trans (hb.mono h.bel.size)⟩
theorem Ly.tab (x : Ly W g p l0 ao n cap B) (h : Below W.heap.size W w) : Tab w := x.t.below h x.t.z
theorem Ly.err (x : Ly W g p l0 ao n cap B) (h : Below W.heap.size W w) : ErrT w := (h.cell (p := ⟨1, 0, none⟩) x.e.lt).trans x.e
theorem Ly.sh (x : Ly W g p l0 ao n cap B) (h : Below W.heap.size W w) : Shows l0 w ao n cap B := x.s.kept (row := none) (grown_belowU h) (fun g e => by cases e)
theorem Ly.ok (x : Ly W g p l0 ao n cap B) (h : Below W.heap.size W w) : g.Ok p w.heap.size w := (x.k.kept h (Nat.le_refl _)).wide h.size
end
set_option maxRecDepth 10000 in
set_option maxHeartbeats 6400000 in
theorem packsW {W : World} {g : Pg} {p : Pv} {l0 : Nat} {ao : Option Addr} {n cap : Nat} {B : List Nat} (h : Ly W g p l0 ao n cap B) :
  Calls Tryz.prog 4 #[.agg (g.cs p).toArray, .slice ao n cap] W fun x w' => x = .returned (.bool true) ∧ Below W.heap.size W w' := by
 have HX := hide h
 obtain ⟨W1, hW1⟩ : ∃ W1, W.alloc (.cells (g.cs p).toArray 27) = W1 := ⟨_, rfl⟩
 have B1 : Below W.heap.size W W1 := by rw [← hW1]; exact below_alloc1 W _
 have A1 : W1.heap[W.heap.size]? = some (.cells (g.cs p).toArray 27 (0, 0)) := by rw [← hW1]; exact alloc_atK _ _
 have HCS : Hid (∀ g : Pg, (g.cs p).toArray = #[.slice g.ca p.nc g.cc, .slice g.sa p.ns g.sc, .int .i64 (p.en 0), .int .i64 (p.en 1), .int .i64 (p.en 2), .int .i64 (p.en 3), .int .i64 (p.en 4), .int .i64 (p.en 5), .slice g.ia p.n g.ic]) := fun _ => rfl
 have HPB := hide (packBoth (HX.out.ok B1) HX.out.C)
 rw [HCS.out g] at HPB hW1 ⊢
 have HW1 := hide hW1
 have HA1 := hide A1
 have HB1 := hide B1
 clear h hW1 B1
 have y0 := block_cell A1 0
 have y1 := block_cell A1 1
 have y2 := block_cell A1 2
 have y3 := block_cell A1 3
 have y4 := block_cell A1 4
 have y5 := block_cell A1 5
 have y6 := block_cell A1 6
 have y7 := block_cell A1 7
 have y8 := block_cell A1 8
 have yl := block_lt A1
 simp [Pg.cs] at y0 y1 y2 y3 y4 y5 y6 y7 y8
 clear A1
 go_enter Tryz.func4, Tryz.ntmps4
 go_upto_region 1 with fail
 rw [HW1.out]
 clear HW1
 go_wp2_with fail
 refine HPB.out.mono ?_
 rintro x w2 ⟨aw, nw, cw, aF, nF, cF, yF, Bp, rfl, G⟩
 obtain ⟨k1, k2, k3⟩ := G.out
 obtain ⟨w3, hw3⟩ : ∃ w3, w2.alloc (.cells #[.slice aF nF cF, .int .i64 yF] 54) = w3 := ⟨_, rfl⟩
 have b3 : Below w2.heap.size w2 w3 := by rw [← hw3]; exact below_alloc1 _ _
 have A3 : w3.heap[w2.heap.size]? = some (.cells #[.slice aF nF cF, .int .i64 yF] 54 (0, 0)) := by rw [← hw3]; exact alloc_atK _ _
 obtain ⟨fb, hfb⟩ : ∃ fb, w2.heap.size = fb := ⟨_, rfl⟩
 have b13 := k1.trans (b3.mono k1.size)
 have HB3 := hide (HB1.out.trans (b13.mono HB1.out.size))
 have HA2 := hide ((b13.block _ (block_lt HA1.out)).trans HA1.out)
 have HSW := hide (shows_next k2 b3)
 have HPP := hide (fun (w : World) (g2 : Pg) ho ht (hb : Below w3.heap.size w3 w) => k3 w g2 ho ht (b3.trans (hb.mono b3.size)))
 have HLE := hide (lendT (HX.out.ok HB3.out) HX.out.b0 HX.out.b1 HX.out.b2)
 rw [hfb] at A3
 have HA3 := hide A3
 have HW3 := hide hw3
 rw [HCS.out g] at HLE
 clear k1 k2 k3 G hw3 b3 b13 A3 HPB HB1 HA1 y0 y1 y2 y3 y4 y5 y6 y7 y8 yl
 go_upto_region 2 with fail
 rw [HW3.out]
 clear HW3
 try rw [hfb]
 clear hfb
 have y0 := block_cell HA2.out 0
 have y1 := block_cell HA2.out 1
 have y2 := block_cell HA2.out 2
 have y3 := block_cell HA2.out 3
 have y4 := block_cell HA2.out 4
 have y5 := block_cell HA2.out 5
 have y6 := block_cell HA2.out 6
 have y7 := block_cell HA2.out 7
 have y8 := block_cell HA2.out 8
 have yl := block_lt HA2.out
 simp [Pg.cs] at y0 y1 y2 y3 y4 y5 y6 y7 y8
 go_wp2_with fail
 refine HLE.out.mono ?_
 rintro x w4 ⟨g', rfl, G⟩
 obtain ⟨k1, k2, k3⟩ := G.out
 rw [HCS.out g']
 obtain ⟨w5, hw5⟩ : ∃ w5, w4.alloc (.cells #[.slice g'.ca p.nc g'.cc, .slice g'.sa p.ns g'.sc, .int .i64 (p.en 0), .int .i64 (p.en 1), .int .i64 (p.en 2), .int .i64 (p.en 3), .int .i64 (p.en 4), .int .i64 (p.en 5), .slice g'.ia p.n g'.ic] 27) = w5 := ⟨_, rfl⟩
 have b5 : Below w4.heap.size w4 w5 := by rw [← hw5]; exact below_alloc1 _ _
 have A5 : w5.heap[w4.heap.size]? = some (.cells (g'.cs p).toArray 27 (0, 0)) := by rw [← hw5]; exact alloc_atK _ _
 obtain ⟨cb, hcb⟩ : ∃ cb, w4.heap.size = cb := ⟨_, rfl⟩
 rw [hcb] at A5
 have b35 := k3.trans (b5.mono k3.size)
 have HL5 : Hid (Lz W g g' p fb cb aF nF cF yF aw nw cw Bp w5) := ⟨(b35.block _ (block_lt HA2.out)).trans HA2.out, (b35.block _ (block_lt HA3.out)).trans HA3.out, A5, (k1.kept b5 (Nat.le_refl _)).wide b5.size, (k2.kept b5 (Nat.le_refl _)).wide b5.size, shows_next HSW.out b35, HB3.out.trans (b35.mono HB3.out.size)⟩
 have HPK := hide (HPP.out w5 g' HL5.out.ok (HX.out.tab HL5.out.bel) b35)
 rw [HCS.out g'] at HPK
 have HW5 := hide hw5
 clear k1 k2 k3 G hw5 b5 b35 A5 HLE HB3 HA2 HA3 HSW HPP y0 y1 y2 y3 y4 y5 y6 y7 y8 yl
 go_upto_region 3 with fail
 rw [HW5.out]
 clear HW5
 try rw [hcb]
 clear hcb
 have x0 := block_cell HL5.out.pc 0
 have x1 := block_cell HL5.out.pc 1
 have x2 := block_cell HL5.out.pc 2
 have x3 := block_cell HL5.out.pc 3
 have x4 := block_cell HL5.out.pc 4
 have x5 := block_cell HL5.out.pc 5
 have x6 := block_cell HL5.out.pc 6
 have x7 := block_cell HL5.out.pc 7
 have x8 := block_cell HL5.out.pc 8
 have xl := block_lt HL5.out.pc
 simp [Pg.cs] at x0 x1 x2 x3 x4 x5 x6 x7 x8
 go_wp2_with fail
 refine HPK.out.mono ?_
 rintro x w6 ⟨a3, c3, v, rfl, G⟩
 obtain ⟨k1, k2, k3⟩ := G.out
 have HL6 := hide (HL5.out.next k1)
 have HSB := hide (sameB_any k2 HL6.out.sw)
 have HEX := hide k3
 clear k1 k2 k3 G HPK HL5 x0 x1 x2 x3 x4 x5 x6 x7 x8 xl
 go_upto_region 4 with fail
 go_wp2_with fail
 refine HSB.out.mono ?_
 rintro x w7 ⟨rfl, nq, hwq⟩
 have b7 : Below w6.heap.size w6 w7 := by rw [hwq]; exact Go.below_drewN (Below.refl _ w6) nq
 have HL7 := hide (HL6.out.next b7)
 have HIS := hide (isX (HEX.out.next b7))
 clear hwq b7 HSB HEX HL6
 have f0 := block_cell HL7.out.pf 0
 have f1 := block_cell HL7.out.pf 1
 have fl := block_lt HL7.out.pf
 simp at f0 f1
 go_wp2_with fail
 refine HIS.out.mono ?_
 rintro x w8 ⟨rfl, G⟩
 have HL8 := hide (HL7.out.next G.out)
 have HKP := hide (keptT HL8.out.ok (HX.out.ok HL8.out.bel) HL8.out.sp)
 rw [HCS.out g', HCS.out g] at HKP
 clear G HIS HL7 f0 f1 fl
 have x0 := block_cell HL8.out.pc 0
 have x1 := block_cell HL8.out.pc 1
 have x2 := block_cell HL8.out.pc 2
 have x3 := block_cell HL8.out.pc 3
 have x4 := block_cell HL8.out.pc 4
 have x5 := block_cell HL8.out.pc 5
 have x6 := block_cell HL8.out.pc 6
 have x7 := block_cell HL8.out.pc 7
 have x8 := block_cell HL8.out.pc 8
 have xl := block_lt HL8.out.pc
 simp [Pg.cs] at x0 x1 x2 x3 x4 x5 x6 x7 x8
 have y0 := block_cell HL8.out.pb 0
 have y1 := block_cell HL8.out.pb 1
 have y2 := block_cell HL8.out.pb 2
 have y3 := block_cell HL8.out.pb 3
 have y4 := block_cell HL8.out.pb 4
 have y5 := block_cell HL8.out.pb 5
 have y6 := block_cell HL8.out.pb 6
 have y7 := block_cell HL8.out.pb 7
 have y8 := block_cell HL8.out.pb 8
 have yl := block_lt HL8.out.pb
 simp [Pg.cs] at y0 y1 y2 y3 y4 y5 y6 y7 y8
 go_wp2_with fail
 refine HKP.out.mono ?_
 rintro x w9 ⟨rfl, G⟩
 have HL9 := hide (HL8.out.next G.out)
 have HU1 := hide (unpacksW HL9.out.sw (Nat.le_refl _) (HX.out.err HL9.out.bel) (HX.out.tab HL9.out.bel))
 clear G HKP HL8 x0 x1 x2 x3 x4 x5 x6 x7 x8 xl y0 y1 y2 y3 y4 y5 y6 y7 y8 yl
 go_upto_region 6 with fail
 go_wp2_with fail
 refine HU1.out.mono ?_
 rintro x w10 ⟨rfl, G⟩
 have HB10 := hide (HL9.out.bel.trans (G.out.mono HL9.out.bel.size))
 have HU2 := hide (unpacksW (HX.out.sh HB10.out) (Nat.le_trans HX.out.l HB10.out.size) (HX.out.err HB10.out) (HX.out.tab HB10.out))
 clear G HU1 HL9
 go_wp2_with fail
 refine HU2.out.mono ?_
 rintro x w11 ⟨rfl, G⟩
 have HD := hide (HB10.out.trans (G.out.mono HB10.out.size))
 clear G HU2 HB10
 go_wp2
 go_ret
 exact ⟨rfl, HD.out⟩
end Go.Proofs.YtggpaljilpbmhaaGreatDoor
