import Derived.Test.YtggpaljilpbmhaaGreatDoorZ38
import Derived.Test.YtggpaljilpbmhaaGreatDoorZ33
namespace Go.Proofs.YtggpaljilpbmhaaGreatDoor
open Go.RowKit

def rdR (B : List Nat) (Z : List Nat → Nat) (Y : List Nat → Int) : Except Fz Nat → Except Fz Nat
 | .ok pos => if Y (B.drop pos) = 0 then .ok (pos + Z (B.drop pos)) else .error (fzW pos (Y (B.drop pos)))
 | .error z => .error z
section
variable {d rp ub lim : Nat} {B : List Nat} {r : Except Fz Nat} {w w' : World}
theorem Us.ucell (h : Us d rp ub lim B r w) : w.cell? ⟨ub, 0, none⟩ = some (.pointer (some ⟨rp, 0, none⟩)) := by
 cases r with
 | ok pos => exact (block_cell h.2.1 0).trans rfl
 | error z =>
  rcases h with ⟨n, s, h1, h2, h3, h4, h5⟩ | ⟨n, z0, s, ao, cap, b, off, h1, hl, h2, h3, h4⟩
  ·exact (block_cell h4 0).trans rfl
  ·exact (block_cell h2 0).trans rfl
theorem Us.ref (h : Us d rp ub lim B r w) : ∃ s : RS, RefS d w rp s ∧ ∀ pos, r = .ok pos → s = rsU B pos := by
 cases r with
 | ok pos => exact ⟨_, h.2.2, fun p e => by cases e; rfl⟩
 | error z =>
  rcases h with ⟨n, s, h1, h2, h3, h4, h5⟩ | ⟨n, z0, s, ao, cap, b, off, h1, hl, h2, h3, h4⟩
  ·exact ⟨s, h5, fun p e => by cases e⟩
  ·exact ⟨s, h4, fun p e => by cases e⟩
theorem RS.step_made (s : RS) (z : Nat) (y : Int) : (s.step z y).made = s.made := by unfold RS.step; split <;> (try split) <;> rfl
theorem rd_noS (b : Bool) (ao : Option Addr) (n c : Nat) (y u v : Int) (j : Nat) (x : ByteArray) : (#[.bool b, .slice ao n c, .int .i64 y, .int .i64 u, .int .i64 v] : Array Value)[j]? ≠ some (Value.string x) := by
 match j with
 | 0 => simp
 | 1 => simp
 | 2 => simp
 | 3 => simp
 | 4 => simp
 | j + 5 => simp
theorem RefS.rlt {s : RS} (h : RefS d w rp s) : ∀ x ∈ s.rest, x < 256 := by
 obtain ⟨ao, cap, hb, h1, h2, h3, _⟩ := h
 unfold RS.rest restB
 split
 ·exact fun x hx => h3 x (List.mem_of_mem_drop hx)
 ·exact fun x hx => by cases hx
/-- A field is read, or nothing any more. -/
theorem us_call {M : FuncId} {args : Array Value} {mk : Nat → Value} {V Z : List Nat → Nat} {Y : List Nat → Int} (hM : ∀ s, RefS d w rp s → Calls Tryz.prog M args w fun e w' => e = .returned (mk (V s.rest)) ∧ RefS d w' rp (s.step (Z s.rest) (Y s.rest)) ∧ w.grownBy w' (some rp)) (h : Us d rp ub lim B r w) :
  Calls Tryz.prog M args w fun e w' => ∃ x, e = .returned (mk x) ∧ Hid ((∃ L, x = V L ∧ ∀ b ∈ L, b < 256) ∧ (∀ pos, r = .ok pos → x = V (B.drop pos)) ∧ Us d rp ub lim B (rdR B Z Y r) w' ∧ Fr2 ub rp w w') := by
 cases r with
 | ok pos =>
  have hlt := h.2.2.rlt
  refine (hM _ h.2.2).mono ?_
  rintro e w' ⟨rfl, hr, hg⟩
  have hu := (hg.block _ (block_lt h.2.1) (by simpa using h.1.1)).trans h.2.1
  rw [rsU_rest] at hlt
  rw [rsU_rest, rsU_step] at hr
  refine ⟨_, rfl, ⟨_, rfl, by rw [rsU_rest]; exact hlt⟩, fun p e => by cases e; rw [rsU_rest], ?_, Fr2.gr hg⟩
  show Us d rp ub lim B (if Y (B.drop pos) = 0 then _ else _) w'
  by_cases e : Y (B.drop pos) = 0
  ·rw [if_pos e]
   rw [if_pos e] at hr
   exact ⟨h.1, hu, hr⟩
  ·rw [if_neg e]
   rw [if_neg e] at hr
   exact .inl ⟨h.1, { rsU B pos with place := (pos : Int), why := Y (B.drop pos) }, rfl, e, rfl, hu, hr⟩
 | error z =>
  rcases h with ⟨n, s, h1, h2, h3, h4, h5⟩ | ⟨n, z0, s, ao, cap, b, off, h1, hl, h2, h3, h4⟩
  ·refine (hM s h5).mono ?_
   rintro e w' ⟨rfl, hr, hg⟩
   rw [RS.step_not (fun q => h2 q.2)] at hr
   exact ⟨_, rfl, ⟨_, rfl, h5.rlt⟩, (fun p e => by cases e), .inl ⟨n, s, h1, h2, h3, (hg.block _ (block_lt h4) (by simpa using n.1)).trans h4, hr⟩, Fr2.gr hg⟩
  ·refine (hM s h4).mono ?_
   rintro e w' ⟨rfl, hr, hg⟩
   obtain ⟨ao', cap', hb⟩ := h4.blk
   exact ⟨_, rfl, ⟨_, rfl, h4.rlt⟩, (fun p e => by cases e), .inr ⟨n, z0, _, ao, cap, b, off, by rw [RS.step_made]; exact h1, hl, (hg.block _ (block_lt h2) (by simpa using n.1)).trans h2, h3.grownX hg hb (rd_noS _ _ _ _ _ _ _), hr⟩, Fr2.gr hg⟩
theorem fixedU (h : Us d rp ub lim B r w) (k : Nat) (ki : Int) (hk : ki = (k : Int)) (h0 : 0 < k) (h8 : k ≤ 8) : Calls Tryz.prog 93 #[.pointer (some ⟨rp, 0, none⟩), .int .i64 ki] w fun e w' => ∃ x : Nat, e = .returned (.int .u64 (x : Int)) ∧ Hid ((∃ L, x = hi (aheadV L k) ∧ ∀ b ∈ L, b < 256) ∧ (∀ pos, r = .ok pos → x = hi (aheadV (B.drop pos) k)) ∧ Us d rp ub lim B (rdR B (fun _ => k) (fun L => aheadW L k) r) w' ∧ Fr2 ub rp w w') :=
 us_call (mk := fun x => .int .u64 (x : Int)) (V := fun L => hi (aheadV L k)) (Z := fun _ => k) (Y := fun L => aheadW L k) (fun s hs => refFixed_any d rp s k ki w hk h0 h8 hs) h
theorem numU (h : Us d rp ub lim B r w) : Calls Tryz.prog 133 #[.pointer (some ⟨rp, 0, none⟩)] w fun e w' => ∃ x : Nat, e = .returned (.int .u64 (x : Int)) ∧ Hid ((∃ L, x = (numAt L).1 ∧ ∀ b ∈ L, b < 256) ∧ (∀ pos, r = .ok pos → x = (numAt (B.drop pos)).1) ∧ Us d rp ub lim B (rdR B (fun L => (numAt L).2.1) (fun L => (numAt L).2.2) r) w' ∧ Fr2 ub rp w w') :=
 us_call (mk := fun x => .int .u64 (x : Int)) (V := fun L => (numAt L).1) (Z := fun L => (numAt L).2.1) (Y := fun L => (numAt L).2.2) (fun s hs => refNum_any d rp s w hs) h
theorem countQ (h : Us d rp ub lim B r w) (most : Int) (h1 : -9223372036854775808 ≤ most) (h2 : most < 9223372036854775808) : Calls Tryz.prog 92 #[.pointer (some ⟨rp, 0, none⟩), .int .i64 most] w fun e w' => ∃ x : Nat, e = .returned (.int .i64 (x : Int)) ∧ Hid ((∃ L, x = (countAt L most).1 ∧ ∀ b ∈ L, b < 256) ∧ (∀ pos, r = .ok pos → x = (countAt (B.drop pos) most).1) ∧ Us d rp ub lim B (rdR B (fun L => (countAt L most).2.1) (fun L => (countAt L most).2.2) r) w' ∧ Fr2 ub rp w w') :=
 us_call (mk := fun x => .int .i64 (x : Int)) (V := fun L => (countAt L most).1) (Z := fun L => (countAt L most).2.1) (Y := fun L => (countAt L most).2.2) (fun s hs => refCount_any d rp s most w hs h1 h2) h
theorem Us.ublk (h : Us d rp ub lim B r w) : ∃ ao n c y, w.heap[ub]? = some (.cells #[.pointer (some ⟨rp, 0, none⟩), .slice ao n c, .int .i64 y] 171 (0, 0)) := by
 cases r with
 | ok pos => exact ⟨_, _, _, _, h.2.1⟩
 | error z =>
  rcases h with ⟨n, s, h1, h2, h3, h4, h5⟩ | ⟨n, z0, s, ao, cap, b, off, h1, hl, h2, h3, h4⟩
  ·exact ⟨_, _, _, _, h4⟩
  ·exact ⟨_, _, _, _, h2⟩
/-- The reader's place. -/
theorem Us.rpos (h : Us d rp ub lim B r w) : ∃ b ao n c ps y z, w.heap[rp]? = some (.cells #[.bool b, .slice ao n c, .int .i64 ps, .int .i64 y, .int .i64 z] 175 (0, 0)) ∧ ∀ pos, r = .ok pos → ps = (pos : Int) := by
 obtain ⟨s, hs, hp⟩ := h.ref
 obtain ⟨ao, cap, hb⟩ := hs.blk
 refine ⟨_, _, _, _, _, _, _, hb, fun pos e => ?_⟩
 rw [hp pos e]
 rfl
end
/-- A number that is at most so great. -/
def mostR (n : Nat) (y : Int) (B : List Nat) : Except Fz Nat → Except Fz Nat
 | .ok pos => if plW n (numAt (B.drop pos)) = 0 then .ok (pos + (numAt (B.drop pos)).2.1) else .error (fzP pos y (numAt (B.drop pos)))
 | .error z => .error z
theorem most_math {n : Nat} {y ps : Int} {B : List Nat} {r : Except Fz Nat} {x : Nat} (hx : ∀ pos, r = .ok pos → x = (numAt (B.drop pos)).1) (hp : ∀ pos, r = .ok pos → ps = (pos : Int)) : wantR (decide (x ≤ n)) y ps (rdR B (fun L => (numAt L).2.1) (fun L => (numAt L).2.2) r) = mostR n y B r := by
 cases r with
 | error z => rfl
 | ok pos =>
  have hx := hx pos rfl
  have hp := hp pos rfl
  subst hp
  show wantR _ y _ (if (numAt (B.drop pos)).2.2 = 0 then _ else _) = (if plW n (numAt (B.drop pos)) = 0 then _ else _)
  unfold plW fzP
  by_cases e : (numAt (B.drop pos)).2.2 = 0
  ·rw [if_pos e, if_pos e, if_pos e]
   by_cases hn : n < (numAt (B.drop pos)).1
   ·rw [if_pos hn, if_neg (by decide)]
    have : decide (x ≤ n) = false := by simp; omega
    rw [this]
    rfl
   ·rw [if_neg hn, if_pos rfl]
    have : decide (x ≤ n) = true := by simp; omega
    rw [this]
    rfl
  ·rw [if_neg e, if_neg e, if_neg e, if_neg e]
   rfl
set_option maxRecDepth 10000 in
set_option maxHeartbeats 3200000 in
theorem mostU {d rp ub lim : Nat} {B : List Nat} {r : Except Fz Nat} {w : World} (h : Us d rp ub lim B r w) (hlm : lim ≤ w.heap.size) (n : Nat) (hn : n ≤ 1024) (y : Int) (hy : y ≠ 0) : Calls Tryz.prog 95 #[.pointer (some ⟨ub, 0, none⟩), .int .u64 (n : Nat), .int .i64 y] w fun e w' => ∃ x : Nat, e = .returned (.int .i64 (x : Int)) ∧ Hid (x ≤ n ∧ (∀ pos, r = .ok pos → plW n (numAt (B.drop pos)) = 0 → x = (numAt (B.drop pos)).1) ∧ Ub d rp ub lim B (mostR n y B r) w' ∧ Fr2 ub rp w w') := by
 obtain ⟨b, ao, nb, c, ps, y2, z2, hrb, hps⟩ := h.rpos
 have k0 := h.ucell
 have kl := block_lt_of_cell k0
 have r2 := block_cell hrb 2
 have rl := block_lt hrb
 simp at r2
 have HNU := hide (numU h)
 have HPS := hide hps
 have HLM := hide hlm
 clear h hps hrb hlm
 go_enter Tryz.func95, Tryz.ntmps95
 go_wp2_with fail
 refine HNU.out.mono ?_
 rintro x w2 ⟨v, rfl, G⟩
 obtain ⟨⟨L, hL, hLb⟩, hv, hu, hf⟩ := G.out
 have hv64 : v < 18446744073709551616 := by rw [hL]; exact (numAt_ok L).1
 have HV := hide hv
 have HWU := hide (wantU hu (Nat.le_trans HLM.out hf.size) (decide (v ≤ n)) y ps hy)
 rw [most_math hv HPS.out] at HWU
 have HF := hide hf
 clear HLM
 clear G hL hLb hv hu hf HNU k0 kl r2 rl
 by_cases hle : v ≤ n
 ·have t1 : decide (v ≤ n) = true := by simpa using hle
  have t2 : decide (((v : Nat) : Int) ≤ (n : Int)) = true := by simp; omega
  have t3 : decide (n < v) = false := by simp; omega
  have t4 : decide (((v : Nat) : Int) > (n : Int)) = false := by simp; omega
  rw [t1] at HWU
  have hwr : IntKind.i64.wrap ((v : Nat) : Int) = ((v : Nat) : Int) := wrap64_nat (by omega)
  have HLE := hide hle
  clear hle
  go_wp2_with fail
  refine HWU.out.mono ?_
  rintro x w3 ⟨rfl, G3⟩
  have HD : Hid (v ≤ n ∧ (∀ pos, r = .ok pos → plW n (numAt (B.drop pos)) = 0 → v = (numAt (B.drop pos)).1) ∧ Ub d rp ub lim B (mostR n y B r) w3 ∧ Fr2 ub rp w w3) := ⟨HLE.out, fun pos e _ => HV.out pos e, G3.out.1, HF.out.trans G3.out.2⟩
  clear G3 HWU HF HV HLE
  go_wp2
  go_ret
  exact ⟨v, rfl, HD⟩
 ·have t1 : decide (v ≤ n) = false := by simpa using hle
  have t2 : decide (((v : Nat) : Int) ≤ (n : Int)) = false := by simp; omega
  have t3 : decide (n < v) = true := by simp; omega
  have t4 : decide (((v : Nat) : Int) > (n : Int)) = true := by simp; omega
  rw [t1] at HWU
  have HLE : Hid (n < v) := by show n < v; omega
  clear hle
  go_wp2_with fail
  refine HWU.out.mono ?_
  rintro x w3 ⟨rfl, G3⟩
  have HD : Hid (0 ≤ n ∧ (∀ pos, r = .ok pos → plW n (numAt (B.drop pos)) = 0 → 0 = (numAt (B.drop pos)).1) ∧ Ub d rp ub lim B (mostR n y B r) w3 ∧ Fr2 ub rp w w3) := ⟨Nat.zero_le _, fun pos e hp => by
   have := HV.out pos e
   have := (plW_zero hp).2
   have := HLE.out
   omega, G3.out.1, HF.out.trans G3.out.2⟩
  clear G3 HWU HF HV HLE
  go_wp2
  go_ret
  exact ⟨0, rfl, HD⟩
end Go.Proofs.YtggpaljilpbmhaaGreatDoor
namespace Go.Proofs.YtggpaljilpbmhaaGreatDoor
open Go.RowKit

/-- Nothing but three blocks is touched. -/
structure Fr3 (ub rp pb : Nat) (w w' : World) : Prop where
 os : w'.os = w.os
 tape : w'.tape = w.tape
 output : w'.output = w.output
 size : w.heap.size ≤ w'.heap.size
 block : ∀ i, i < w.heap.size → i ≠ ub → i ≠ rp → i ≠ pb → w'.heap[i]? = w.heap[i]?
section
variable {ub rp pb : Nat} {w w' w'' : World}
theorem Fr3.refl (ub rp pb : Nat) (w : World) : Fr3 ub rp pb w w := ⟨rfl, rfl, rfl, Nat.le_refl _, fun _ _ _ _ _ => rfl⟩
theorem Fr3.trans (h : Fr3 ub rp pb w w') (k : Fr3 ub rp pb w' w'') : Fr3 ub rp pb w w'' :=
 ⟨k.os.trans h.os, k.tape.trans h.tape, k.output.trans h.output, Nat.le_trans h.size k.size, fun i hi a b c => (k.block i (Nat.lt_of_lt_of_le hi h.size) a b c).trans (h.block i hi a b c)⟩
theorem Fr3.two (h : Fr2 ub rp w w') : Fr3 ub rp pb w w' := ⟨h.os, h.tape, h.output, h.size, fun i hi a b _ => h.block i hi a b⟩
theorem Fr3.below (h : Below w.heap.size w w') : Fr3 ub rp pb w w' := ⟨h.os, h.tape, h.output, h.size, fun i hi _ _ _ => h.block i hi⟩
theorem Fr3.gp (h : w.grownBy w' (some pb)) : Fr3 ub rp pb w w' := ⟨h.os, h.tape, h.output, h.size, fun i hi _ _ c => h.block i hi (by simpa using c)⟩
/-- What was touched from a world on that lay already in another. -/
theorem Fr3.far {w0 : World} (h : Fr3 ub rp pb w0 w) {row : Option Nat} (hg : w.grownBy w' row) (hr : ∀ g, row = some g → w0.heap.size ≤ g) : Fr3 ub rp pb w0 w' :=
 ⟨hg.os.trans h.os, hg.tape.trans h.tape, hg.output.trans h.output, Nat.le_trans h.size hg.size, fun i hi a b c => (hg.block i (Nat.lt_of_lt_of_le hi h.size) (fun e => by have := hr i e.symm; omega)).trans (h.block i hi a b c)⟩
end
theorem own_fr2 {ub rp : Nat} {w w' : World} {B n sz : Nat} {t : TypeId} {v : Value} {xs : List Value} (h : w.ownsRow B t sz v n xs) (hf : Fr2 ub rp w w') (h1 : v.ownBlock ≠ some ub) (h2 : v.ownBlock ≠ some rp) : w'.ownsRow B t sz v n xs := by
 refine ⟨h.1, ?_⟩
 rcases h.2 with q | ⟨g, cap, cur, q1, q2, q3, q4⟩
 ·exact .inl q
 ·subst q1
  exact .inr ⟨g, cap, cur, rfl, q2, (hf.block g (block_lt q3) (fun e => h1 (by rw [e]; rfl)) (fun e => h2 (by rw [e]; rfl))).trans q3, q4⟩
section
variable {d rp ub lim : Nat} {B : List Nat} {r : Except Fz Nat} {w w' : World}
/-- A block that is none of its own was turned. -/
theorem Us.off (h : Us d rp ub lim B r w) {q : Nat} (hg : w.grownBy w' (some q)) (h1 : q ≠ ub) (h2 : q ≠ rp) (h3 : q ≠ d) (h4 : q < lim) : Us d rp ub lim B r w' := by
 cases r with
 | ok pos => exact ⟨h.1, (hg.block _ (block_lt h.2.1) (by simpa using fun e => h1 e.symm)).trans h.2.1, h.2.2.offU hg h2 h3⟩
 | error z =>
  rcases h with ⟨n, s, k1, k2, k3, k4, k5⟩ | ⟨n, z0, s, ao, cap, b, off, k1, kl, k2, k3, k4⟩
  ·exact .inl ⟨n, s, k1, k2, k3, (hg.block _ (block_lt k4) (by simpa using fun e => h1 e.symm)).trans k4, k5.offU hg h2 h3⟩
  ·refine .inr ⟨n, z0, s, ao, cap, b, off, k1, kl, (hg.block _ (block_lt k2) (by simpa using fun e => h1 e.symm)).trans k2, ⟨k3.ad, fun e => Nat.lt_of_lt_of_le (k3.lt e) hg.size, k3.le, fun i l hl => ?_⟩, k4.offU hg h2 h3⟩
   obtain ⟨a1, a2⟩ := k3.at_ i l hl
   have hb : b ≠ q := by omega
   exact ⟨hg.cell a1 (by simpa using hb), hg.cell a2 (by simpa using hb)⟩
theorem Us.offP (h : Us d rp ub lim B r w) {q : Nat} {cs : Array Value} {t : TypeId} (hg : w.grownBy w' (some q)) (h1 : q ≠ ub) (h2 : q ≠ rp) (h3 : q ≠ d) (hq : w.heap[q]? = some (.cells cs t (0, 0))) (hs : ∀ (j : Nat) (x : ByteArray), cs[j]? ≠ some (Value.string x)) : Us d rp ub lim B r w' := by
 cases r with
 | ok pos => exact ⟨h.1, (hg.block _ (block_lt h.2.1) (by simpa using fun e => h1 e.symm)).trans h.2.1, h.2.2.offU hg h2 h3⟩
 | error z =>
  rcases h with ⟨n, s, k1, k2, k3, k4, k5⟩ | ⟨n, z0, s, ao, cap, b, off, k1, kl, k2, k3, k4⟩
  ·exact .inl ⟨n, s, k1, k2, k3, (hg.block _ (block_lt k4) (by simpa using fun e => h1 e.symm)).trans k4, k5.offU hg h2 h3⟩
  ·exact .inr ⟨n, z0, s, ao, cap, b, off, k1, kl, (hg.block _ (block_lt k2) (by simpa using fun e => h1 e.symm)).trans k2, k3.grownX hg hq hs, k4.offU hg h2 h3⟩
theorem Us.relim {pos lim' : Nat} (h : Us d rp ub lim B (.ok pos) w) : Us d rp ub lim' B (.ok pos) w := h
theorem Us.low {lim' : Nat} (h : Us d rp ub lim B r w) (hl : lim' ≤ lim) : Us d rp ub lim' B r w := by
 cases r with
 | ok pos => exact h
 | error z =>
  rcases h with h | ⟨n, z0, s, ao, cap, b, off, k1, kl, k⟩
  ·exact .inl h
  ·exact .inr ⟨n, z0, s, ao, cap, b, off, k1, Nat.le_trans hl kl, k⟩
end
theorem prog_noS (x0 x1 x8 : Option Addr) (n0 c0 n1 c1 n8 c8 : Nat) (e0 e1 e2 e3 e4 e5 : Int) : ∀ (i : Nat) (k : ByteArray), (#[.slice x0 n0 c0, .slice x1 n1 c1, .int .i64 e0, .int .i64 e1, .int .i64 e2, .int .i64 e3, .int .i64 e4, .int .i64 e5, .slice x8 n8 c8] : Array Value)[i]? ≠ some (Value.string k)
 | 0, _ => by simp
 | 1, _ => by simp
 | 2, _ => by simp
 | 3, _ => by simp
 | 4, _ => by simp
 | 5, _ => by simp
 | 6, _ => by simp
 | 7, _ => by simp
 | 8, _ => by simp
 | n + 9, _ => by simp
/-- The world of the reference's reading of a program. -/
structure Vh (W : World) (Ra Rb Rc d rp ub pb lim : Nat) (B : List Nat) (r : Except Fz Nat) (va vb vc : Value) (ja jb jc : Nat) (xa xb xc : List Value) (en : Nat → Int) (w : World) : Prop where
 pc : w.heap[pb]? = some (.cells #[va, vb, .int .i64 (en 0), .int .i64 (en 1), .int .i64 (en 2), .int .i64 (en 3), .int .i64 (en 4), .int .i64 (en 5), vc] 27 (0, 0))
 us : Us d rp ub lim B r w
 qa : w.ownsRow Ra 28 1 va ja xa
 qb : w.ownsRow Rb 3 1 vb jb xb
 qc : w.ownsRow Rc 42 2 vc jc xc
 fr : Fr3 ub rp pb W w
 lo : d < W.heap.size ∧ rp < W.heap.size ∧ ub < W.heap.size ∧ pb < W.heap.size
 ne : pb ≠ ub ∧ pb ≠ rp ∧ pb ≠ d
 ra : Ra ≤ W.heap.size ∧ Rb ≤ W.heap.size ∧ Rc ≤ W.heap.size
section
variable {W : World} {Ra Rb Rc d rp ub pb lim lim' : Nat} {B : List Nat} {r r' : Except Fz Nat} {va vb vc : Value} {ja jb jc : Nat} {xa xb xc : List Value} {en : Nat → Int} {w w' : World}
theorem Vh.read (h : Vh W Ra Rb Rc d rp ub pb lim B r va vb vc ja jb jc xa xb xc en w) (hf : Fr2 ub rp w w') (hu : Us d rp ub lim' B r' w') : Vh W Ra Rb Rc d rp ub pb lim' B r' va vb vc ja jb jc xa xb xc en w' := by
 obtain ⟨ao, n, c, y, hub⟩ := h.us.ublk
 obtain ⟨b, a2, n2, c2, ps, y2, z2, hrp, _⟩ := h.us.rpos
 exact ⟨(hf.block pb (block_lt h.pc) h.ne.1 h.ne.2.1).trans h.pc, hu, own_fr2 h.qa hf (own_off2 h.qa (by decide) hub) (own_off2 h.qa (by decide) hrp), own_fr2 h.qb hf (own_off2 h.qb (by decide) hub) (own_off2 h.qb (by decide) hrp), own_fr2 h.qc hf (own_off2 h.qc (by decide) hub) (own_off2 h.qc (by decide) hrp), h.fr.trans (Fr3.two hf), h.lo, h.ne, h.ra⟩
theorem Vh.next (h : Vh W Ra Rb Rc d rp ub pb lim B r va vb vc ja jb jc xa xb xc en w) (hb : Below w.heap.size w w') : Vh W Ra Rb Rc d rp ub pb lim B r va vb vc ja jb jc xa xb xc en w' := h.read (Fr2.below hb) (h.us.next hb)
theorem Vh.relim {pos : Nat} (h : Vh W Ra Rb Rc d rp ub pb lim B (.ok pos) va vb vc ja jb jc xa xb xc en w) : Vh W Ra Rb Rc d rp ub pb lim' B (.ok pos) va vb vc ja jb jc xa xb xc en w := ⟨h.pc, h.us, h.qa, h.qb, h.qc, h.fr, h.lo, h.ne, h.ra⟩
theorem Vh.low (h : Vh W Ra Rb Rc d rp ub pb lim B r va vb vc ja jb jc xa xb xc en w) (hl : lim' ≤ lim) : Vh W Ra Rb Rc d rp ub pb lim' B r va vb vc ja jb jc xa xb xc en w := ⟨h.pc, h.us.low hl, h.qa, h.qb, h.qc, h.fr, h.lo, h.ne, h.ra⟩
theorem Vh.noS (h : Vh W Ra Rb Rc d rp ub pb lim B r va vb vc ja jb jc xa xb xc en w) : ∀ (j : Nat) (x : ByteArray), (#[va, vb, .int .i64 (en 0), .int .i64 (en 1), .int .i64 (en 2), .int .i64 (en 3), .int .i64 (en 4), .int .i64 (en 5), vc] : Array Value)[j]? ≠ some (Value.string x) := by
 obtain ⟨_, _, ea⟩ := own_val2 h.qa
 obtain ⟨_, _, eb⟩ := own_val2 h.qb
 obtain ⟨_, _, ec⟩ := own_val2 h.qc
 rw [ea, eb, ec]
 exact prog_noS _ _ _ _ _ _ _ _ _ _ _ _ _ _ _
theorem us_row (h : Us d rp ub lim B r w) {o : Obj} {v : Value} (hg : (w.alloc o).grownBy w' v.ownBlock) (hl : ∀ g, v.ownBlock = some g → g < lim) (hlo : ∀ g, v.ownBlock = some g → g ≠ ub ∧ g ≠ rp ∧ g ≠ d) : Us d rp ub lim B r w' := by
 have h1 := h.next (below_alloc1 w o)
 cases e : v.ownBlock with
 | none =>
  rw [e] at hg
  exact h1.next ⟨hg.os, hg.tape, hg.output, hg.size, fun k hk => hg.block k hk (by simp)⟩
 | some g =>
  rw [e] at hg
  obtain ⟨n1, n2, n3⟩ := hlo g e
  exact h1.off hg n1 n2 n3 (hl g e)
theorem Vh.stepA {o : Obj} {va' : Value} {ys : List Value} (h : Vh W Ra Rb Rc d rp ub pb lim B r va vb vc ja jb jc xa xb xc en w) (hR : W.heap.size ≤ Ra) (hl : ∀ g, va.ownBlock = some g → g < lim) (ho : w'.ownsRow Ra 28 1 va' (ja + 1) (xa ++ ys)) (hg : (w.alloc o).grownBy w' va.ownBlock) :
  Vh W Ra Rb Rc d rp ub pb lim B r va' vb vc (ja + 1) jb jc (xa ++ ys) xb xc en (w'.setCell ⟨pb, 0, none⟩ va') ∧ w'.heap[pb]? = some (.cells #[va, vb, .int .i64 (en 0), .int .i64 (en 1), .int .i64 (en 2), .int .i64 (en 3), .int .i64 (en 4), .int .i64 (en 5), vc] 27 (0, 0)) := by
 have al := below_alloc1 w o
 have hgW : ∀ g, va.ownBlock = some g → W.heap.size ≤ g := fun g e => Nat.le_trans hR (h.qa.lt g e).1
 obtain ⟨l1, l2, l3, l4⟩ := h.lo
 have kw : w'.heap[pb]? = some (.cells #[va, vb, .int .i64 (en 0), .int .i64 (en 1), .int .i64 (en 2), .int .i64 (en 3), .int .i64 (en 4), .int .i64 (en 5), vc] 27 (0, 0)) :=
  (hg.block _ (Nat.lt_of_lt_of_le (block_lt h.pc) al.size) (fun x => by have := hgW pb x.symm; omega)).trans ((al.block _ (block_lt h.pc)).trans h.pc)
 have us1 := us_row h.us hg hl (fun g e => by have := hgW g e; omega)
 have G := grown_set w' pb 0 va'
 have s1 := heap_setCell_same w' pb 0 _ _ va' kw
 have fr1 := (h.fr.trans (Fr3.below al)).far hg hgW
 have rb : w'.ownsRow Rb 3 1 vb jb xb := by
  refine (row_quietT h.qb (World.grownBy_alloc w o none)).kept hg ?_
  cases e : vb.ownBlock with
  | none => exact .inl rfl
  | some b =>
   obtain ⟨_, cs, hc⟩ := own_typ2 h.qb e
   exact .inr (fun y => own_off2 h.qa (by decide) hc y.symm)
 have rc : w'.ownsRow Rc 42 2 vc jc xc := by
  refine (row_quietT h.qc (World.grownBy_alloc w o none)).kept hg ?_
  cases e : vc.ownBlock with
  | none => exact .inl rfl
  | some b =>
   obtain ⟨_, cs, hc⟩ := own_typ2 h.qc e
   exact .inr (fun y => own_off2 h.qa (by decide) hc y.symm)
 refine ⟨⟨by simpa using s1, us1.offP G h.ne.1 h.ne.2.1 h.ne.2.2 kw h.noS, ho.kept G (.inr (own_off2 ho (by decide) kw)), rb.kept G (.inr (own_off2 rb (by decide) kw)), rc.kept G (.inr (own_off2 rc (by decide) kw)), fr1.trans (Fr3.gp G), h.lo, h.ne, h.ra⟩, kw⟩
theorem Vh.stepB {o : Obj} {vb' : Value} {ys : List Value} (h : Vh W Ra Rb Rc d rp ub pb lim B r va vb vc ja jb jc xa xb xc en w) (hR : W.heap.size ≤ Rb) (hl : ∀ g, vb.ownBlock = some g → g < lim) (ho : w'.ownsRow Rb 3 1 vb' (jb + 1) (xb ++ ys)) (hg : (w.alloc o).grownBy w' vb.ownBlock) :
  Vh W Ra Rb Rc d rp ub pb lim B r va vb' vc ja (jb + 1) jc xa (xb ++ ys) xc en (w'.setCell ⟨pb, 1, none⟩ vb') ∧ w'.heap[pb]? = some (.cells #[va, vb, .int .i64 (en 0), .int .i64 (en 1), .int .i64 (en 2), .int .i64 (en 3), .int .i64 (en 4), .int .i64 (en 5), vc] 27 (0, 0)) := by
 have al := below_alloc1 w o
 have hgW : ∀ g, vb.ownBlock = some g → W.heap.size ≤ g := fun g e => Nat.le_trans hR (h.qb.lt g e).1
 obtain ⟨l1, l2, l3, l4⟩ := h.lo
 have kw : w'.heap[pb]? = some (.cells #[va, vb, .int .i64 (en 0), .int .i64 (en 1), .int .i64 (en 2), .int .i64 (en 3), .int .i64 (en 4), .int .i64 (en 5), vc] 27 (0, 0)) :=
  (hg.block _ (Nat.lt_of_lt_of_le (block_lt h.pc) al.size) (fun x => by have := hgW pb x.symm; omega)).trans ((al.block _ (block_lt h.pc)).trans h.pc)
 have us1 := us_row h.us hg hl (fun g e => by have := hgW g e; omega)
 have G := grown_set w' pb 1 vb'
 have s1 := heap_setCell_same w' pb 1 _ _ vb' kw
 have fr1 := (h.fr.trans (Fr3.below al)).far hg hgW
 have ra : w'.ownsRow Ra 28 1 va ja xa := by
  refine (row_quietT h.qa (World.grownBy_alloc w o none)).kept hg ?_
  cases e : va.ownBlock with
  | none => exact .inl rfl
  | some b =>
   obtain ⟨_, cs, hc⟩ := own_typ2 h.qa e
   exact .inr (fun y => own_off2 h.qb (by decide) hc y.symm)
 have rc : w'.ownsRow Rc 42 2 vc jc xc := by
  refine (row_quietT h.qc (World.grownBy_alloc w o none)).kept hg ?_
  cases e : vc.ownBlock with
  | none => exact .inl rfl
  | some b =>
   obtain ⟨_, cs, hc⟩ := own_typ2 h.qc e
   exact .inr (fun y => own_off2 h.qb (by decide) hc y.symm)
 refine ⟨⟨by simpa using s1, us1.offP G h.ne.1 h.ne.2.1 h.ne.2.2 kw h.noS, ra.kept G (.inr (own_off2 ra (by decide) kw)), ho.kept G (.inr (own_off2 ho (by decide) kw)), rc.kept G (.inr (own_off2 rc (by decide) kw)), fr1.trans (Fr3.gp G), h.lo, h.ne, h.ra⟩, kw⟩
theorem Vh.stepC {o : Obj} {vc' : Value} {ys : List Value} (h : Vh W Ra Rb Rc d rp ub pb lim B r va vb vc ja jb jc xa xb xc en w) (hR : W.heap.size ≤ Rc) (hl : ∀ g, vc.ownBlock = some g → g < lim) (ho : w'.ownsRow Rc 42 2 vc' (jc + 1) (xc ++ ys)) (hg : (w.alloc o).grownBy w' vc.ownBlock) :
  Vh W Ra Rb Rc d rp ub pb lim B r va vb vc' ja jb (jc + 1) xa xb (xc ++ ys) en (w'.setCell ⟨pb, 8, none⟩ vc') ∧ w'.heap[pb]? = some (.cells #[va, vb, .int .i64 (en 0), .int .i64 (en 1), .int .i64 (en 2), .int .i64 (en 3), .int .i64 (en 4), .int .i64 (en 5), vc] 27 (0, 0)) := by
 have al := below_alloc1 w o
 have hgW : ∀ g, vc.ownBlock = some g → W.heap.size ≤ g := fun g e => Nat.le_trans hR (h.qc.lt g e).1
 obtain ⟨l1, l2, l3, l4⟩ := h.lo
 have kw : w'.heap[pb]? = some (.cells #[va, vb, .int .i64 (en 0), .int .i64 (en 1), .int .i64 (en 2), .int .i64 (en 3), .int .i64 (en 4), .int .i64 (en 5), vc] 27 (0, 0)) :=
  (hg.block _ (Nat.lt_of_lt_of_le (block_lt h.pc) al.size) (fun x => by have := hgW pb x.symm; omega)).trans ((al.block _ (block_lt h.pc)).trans h.pc)
 have us1 := us_row h.us hg hl (fun g e => by have := hgW g e; omega)
 have G := grown_set w' pb 8 vc'
 have s1 := heap_setCell_same w' pb 8 _ _ vc' kw
 have fr1 := (h.fr.trans (Fr3.below al)).far hg hgW
 have ra : w'.ownsRow Ra 28 1 va ja xa := by
  refine (row_quietT h.qa (World.grownBy_alloc w o none)).kept hg ?_
  cases e : va.ownBlock with
  | none => exact .inl rfl
  | some b =>
   obtain ⟨_, cs, hc⟩ := own_typ2 h.qa e
   exact .inr (fun y => own_off2 h.qc (by decide) hc y.symm)
 have rb : w'.ownsRow Rb 3 1 vb jb xb := by
  refine (row_quietT h.qb (World.grownBy_alloc w o none)).kept hg ?_
  cases e : vb.ownBlock with
  | none => exact .inl rfl
  | some b =>
   obtain ⟨_, cs, hc⟩ := own_typ2 h.qb e
   exact .inr (fun y => own_off2 h.qc (by decide) hc y.symm)
 refine ⟨⟨by simpa using s1, us1.offP G h.ne.1 h.ne.2.1 h.ne.2.2 kw h.noS, ra.kept G (.inr (own_off2 ra (by decide) kw)), rb.kept G (.inr (own_off2 rb (by decide) kw)), ho.kept G (.inr (own_off2 ho (by decide) kw)), fr1.trans (Fr3.gp G), h.lo, h.ne, h.ra⟩, kw⟩
theorem Vh.setE (h : Vh W Ra Rb Rc d rp ub pb lim B r va vb vc ja jb jc xa xb xc en w) {e : Nat} (he : e < 6) (x : Int) : Vh W Ra Rb Rc d rp ub pb lim B r va vb vc ja jb jc xa xb xc (fun j => if j = e then x else en j) (w.setCell ⟨pb, 2 + e, none⟩ (.int .i64 x)) := by
 have kw := h.pc
 have G := grown_set w pb (2 + e) (.int .i64 x)
 have s1 := heap_setCell_same w pb (2 + e) _ _ (.int .i64 x) kw
 refine ⟨?_, h.us.offP G h.ne.1 h.ne.2.1 h.ne.2.2 kw h.noS, h.qa.kept G (.inr (own_off2 h.qa (by decide) kw)), h.qb.kept G (.inr (own_off2 h.qb (by decide) kw)), h.qc.kept G (.inr (own_off2 h.qc (by decide) kw)), h.fr.trans (Fr3.gp G), h.lo, h.ne, h.ra⟩
 rw [s1]
 match e, he with
 | 0, _ => simp
 | 1, _ => simp
 | 2, _ => simp
 | 3, _ => simp
 | 4, _ => simp
 | 5, _ => simp
end
end Go.Proofs.YtggpaljilpbmhaaGreatDoor
