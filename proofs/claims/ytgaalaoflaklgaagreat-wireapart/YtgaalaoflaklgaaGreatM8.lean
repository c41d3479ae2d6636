import Derived.Test.YtgaalaoflaklgaaGreatM7
import Derived.Test.YtgaalaoflaklgaaGreatM5
import Derived.Test.YtgaalaoflaklgaaGreatM3
namespace Go.Proofs.YtgaalaoflaklgaaGreat
open Go.RowKit Crc

theorem RefS.world {d : Nat} {w w' : World} {p : Nat} {s : RS} (h : RefS d w p s) (he : w'.heap = w.heap) : RefS d w' p s := by
  obtain ⟨ao, cap, hb, h1, h2, h3, h4, h5, h6, h7⟩ := h
  refine ⟨ao, cap, by rw [he]; exact hb, h1, h2, h3, h4, h5, h6, fun i hi => ?_⟩
  exact (World.cell?_of_block (w := w) (w' := w') (a := ⟨d, i, none⟩) (by rw [he])).trans (h7 i hi)
theorem RefS.posle {d : Nat} {w : World} {p : Nat} {s : RS} (h : RefS d w p s) : s.pos ≤ s.B.length := by obtain ⟨ao, cap, hb, h1, h2, h3, h4, _⟩ := h; exact h4
/-- The place moved on. -/
theorem RefS.moved {d : Nat} {w : World} {p : Nat} {s : RS} (h : RefS d w p s) (k : Nat) (hk : s.pos + k ≤ s.B.length) :
    RefS d (w.setCell ⟨p, 2, none⟩ (.int .i64 ((s.pos : Int) + (k : Int)))) p { s with pos := s.pos + k } ∧ w.grownBy (w.setCell ⟨p, 2, none⟩ (.int .i64 ((s.pos : Int) + (k : Int)))) (some p) := by
  obtain ⟨ao, cap, hb, h1, h2, h3, h4, h5, h6, h7⟩ := h
  refine ⟨⟨ao, cap, ?_, h1, h2, h3, hk, h5, h6, fun i hi => ?_⟩, grown_set _ _ _ _⟩
  · rw [heap_setCell_same w p 2 _ _ _ hb]; simp
  · exact (grown_set w p 2 _).cell (h7 i hi) (fun e => h6 (by simp only at hi; omega) (by cases e; rfl))

theorem wrap64_nat {n : Nat} (h : n < 9223372036854775808) : IntKind.i64.wrap (n : Int) = (n : Int) := by
  have h1 : (n : Int) < 9223372036854775808 := by omega
  simp [IntKind.wrap, IntKind.bits, IntKind.signed]
  omega
theorem wrapu64_nat {n : Nat} (h : n < 18446744073709551616) : IntKind.u64.wrap (n : Int) = (n : Int) := by
  have h1 : (n : Int) < 18446744073709551616 := by omega
  simp [IntKind.wrap, IntKind.bits, IntKind.signed]
  omega

set_option maxRecDepth 10000 in
set_option maxHeartbeats 1600000 in
theorem refFixed_any (d p : Nat) (s : RS) (k : Nat) (ki : Int) (w : World) (hki : ki = (k : Int)) (hk : 0 < k) (hk8 : k ≤ 8) (hR : RefS d w p s) :
    Calls Tryz.prog 73 #[.pointer (some ⟨p, 0, none⟩), .int .i64 ki] w fun e w' => e = .returned (.int .u64 (hi (aheadV s.rest k) : Nat)) ∧ RefS d w' p (s.step k (aheadW s.rest k)) ∧ w.grownBy w' (some p) := by
  subst hki
  by_cases hs : s.sound
  · have HDD := hide (dead_sound d p s w hR hs)
    have HLE := hide (refLeft_any d p s w hR (fun h => by rw [hs.1] at h; cases h))
    have hpl := hR.posle
    have hrest : s.rest = s.B.drop s.pos := by unfold RS.rest restB; rw [if_pos (show s.made = true ∧ s.why = 0 from hs)]
    by_cases hsh : s.B.length - s.pos < k
    · have HE : Hid (hi (aheadV s.rest k) = 0 ∧ aheadW s.rest k = 20) := by
        have : s.rest.length < k := by rw [hrest, List.length_drop]; exact hsh
        exact ⟨by unfold aheadV; rw [if_pos this]; rfl, by unfold aheadW; rw [if_pos this]⟩
      have HS : Hid (s.step k 20 = { s with why := 20, place := s.pos, pos := s.pos }) := by unfold RS.step; rw [if_pos hs]; rfl
      have HFA := hide (fun q => refFail_any d p s 20 s.pos (w.drewN q) (hR.world rfl) hpl)
      obtain ⟨ao, cap, hb, -⟩ := hR
      have c2 := block_cell hb 2
      simp at c2
      have HL : Hid (((s.B.length - s.pos : Nat) : Int) < (k : Int)) := by show _ < _; omega
      generalize hm : s.B.length - s.pos = m at *
      have h1 := HL.out
      generalize hq : s.pos = pos at *
      clear hb hrest hsh hs hpl hm
      go_enter Tryz.func73, Tryz.ntmps73
      go_wp2_with fail
      refine HDD.out.mono ?_
      rintro e w1 ⟨rfl, rfl⟩
      go_wp2_with fail
      refine HLE.out.mono ?_
      rintro e w1 ⟨rfl, q, rfl⟩
      go_wp2_with fail
      refine (HFA.out q).mono ?_
      rintro e w2 ⟨rfl, h5, h6⟩
      go_wp2
      go_ret
      refine ⟨by rw [HE.out.1]; rfl, ?_, grown_from h6⟩
      rw [HE.out.2, HS.out]
      exact h5
    · have hnl : ¬ s.rest.length < k := by rw [hrest, List.length_drop]; exact hsh
      have HE : Hid (aheadV s.rest k = (s.B.drop s.pos).take k ∧ aheadW s.rest k = 0) := by
        exact ⟨by unfold aheadV; rw [if_neg hnl, hrest], by unfold aheadW; rw [if_neg hnl]⟩
      have HS : Hid (s.step k 0 = { s with pos := s.pos + k }) := by unfold RS.step; rw [if_pos hs]; rfl
      have HMV := hide (fun q => (hR.world (w' := w.drewN q) rfl).moved k (by omega))
      have HB : Hid (∀ x ∈ s.B, x < 256) := by obtain ⟨ao, cap, hb, h1, h2, h3, -⟩ := hR; exact h3
      obtain ⟨ao, cap, hb, h1, h2, h3, h4, h5, h6, h7⟩ := hR
      obtain rfl := h5 (by omega)
      have HC := hide h7
      have c1 := block_cell hb 1
      have c2 := block_cell hb 2
      have f2 := block_free hb 2
      simp at c1 c2
      have HLn := hide (show s.pos + k ≤ s.B.length by omega)
      have hL : ¬ (((s.B.length - s.pos : Nat) : Int) < (k : Int)) := by omega
      have hn47 : (s.B.length : Int) ≤ 140737488355328 := by omega
      have hpk : (s.pos : Int) + (k : Int) ≤ (s.B.length : Int) := by omega
      generalize hm : s.B.length - s.pos = m at *
      clear hb hrest hsh hs hpl hm h1 h2 h3 h4 h5 h6 h7 hnl
      go_enter Tryz.func73, Tryz.ntmps73
      go_wp2_with fail
      refine HDD.out.mono ?_
      rintro e wa ⟨rfl, rfl⟩
      go_wp2_with fail
      refine HLE.out.mono ?_
      rintro e w1 ⟨rfl, q, rfl⟩
      go_wp2_with fail
      go_loopw [5, 6] (fun v i wr => ∃ j x q : Nat, j ≤ k ∧ i = .int .i64 j ∧ v = .int .u64 x ∧ wr = wa.drewN q ∧ Hid (x = hi ((s.B.drop s.pos).take j))) (fun _ i _ => k - (intOf i).toNat)
      case atStart => exact ⟨0, 0, q, Nat.zero_le _, rfl, rfl, rfl, by show _ = _; simp [hi]⟩
      case round =>
        obtain ⟨j, x, q, hj, rfl, rfl, rfl, HX⟩ := hrel
        by_cases hlt : j < k
        · have hcj := HC.out (s.pos + j) (by have := HLn.out; omega)
          have hcb : s.B.getD (s.pos + j) 0 < 256 := getD_lt s.B HB.out _
          have hst := hi_step (s.B.drop s.pos) j (by rw [List.length_drop]; have := HLn.out; omega)
          rw [← HX.out] at hst
          have hgd : (s.B.drop s.pos).getD j 0 = s.B.getD (s.pos + j) 0 := by rw [List.getD_eq_getElem?_getD, List.getElem?_drop, ← List.getD_eq_getElem?_getD]
          rw [hgd] at hst
          obtain ⟨c, hcd⟩ : ∃ c, c = s.B.getD (s.pos + j) 0 := ⟨_, rfl⟩
          rw [← hcd] at hcj hcb hst
          have hxl : x < 72057594037927936 := by
            have h1 := hi_lt ((s.B.drop s.pos).take j) (fun x hx => HB.out x (List.mem_of_mem_drop (List.mem_of_mem_take hx)))
            rw [← HX.out, List.length_take] at h1
            have h2 : 256 ^ min j (s.B.drop s.pos).length ≤ 256 ^ 7 := Nat.pow_le_pow_right (by omega) (by omega)
            omega
          have HS1 : Hid (x * 256 + c = hi ((s.B.drop s.pos).take (j + 1))) := hst.symm
          have hEl : ((s.pos + j : Nat) : Int) < (s.B.length : Int) := by have := HLn.out; omega
          have he : IntKind.i64.wrap ((s.pos : Int) + (j : Int)) = ((s.pos + j : Nat) : Int) := by rw [← Int.natCast_add]; exact wrap64_nat (by omega)
          have hx1 : IntKind.u64.wrap ((x : Int) * 256) = ((x * 256 : Nat) : Int) := by rw [show (x : Int) * 256 = ((x * 256 : Nat) : Int) by omega]; exact wrapu64_nat (by omega)
          have hx2 : IntKind.u64.wrap (((x * 256 : Nat) : Int) + (c : Int)) = ((x * 256 + c : Nat) : Int) := by rw [← Int.natCast_add]; exact wrapu64_nat (by omega)
          have hcp : IntKind.u64.wrap (c : Int) = (c : Int) := wrapu64_nat (by omega)
          generalize hE : s.pos + j = E at *
          generalize hX : x * 256 = X at *
          generalize hY : X + c = Y at *
          have HY := hide hY
          clear hst hcd HX hgd hE hX hY
          have hji : (j : Int) < (k : Int) := by omega
          have hcc : (c : Int) < 256 := by omega
          go_wp2_with fail
          go_quiet (fail)
          go_wp2
          go_roundw
          case rel => exact ⟨j + 1, Y, _, by omega, by go_num, rfl, rfl, HS1⟩
          case measure => simp [intOf]; omega
        · obtain rfl : j = k := by omega
          have HFX : Hid (x = hi (aheadV s.rest j)) := by
            show _ = _
            rw [HX.out, HE.out.1]
          have HMQ := hide (HMV.out q)
          have hpk2 : (s.pos : Int) + (j : Int) ≤ 140737488355328 := by omega
          clear HX HC HMV
          go_wp2
          go_ret
          refine ⟨by rw [← HFX.out]; rfl, ?_, grown_from HMQ.out.2⟩
          rw [HE.out.2, HS.out]
          exact HMQ.out.1
  · have HDD := hide (dead_not d p s w hR hs)
    have HE : Hid (hi (aheadV s.rest k) = 0 ∧ ∀ y, s.step k y = s) := by
      have hrest : s.rest = [] := restB_sound hs
      refine ⟨?_, fun y => by unfold RS.step; rw [if_neg hs]⟩
      rw [hrest]
      unfold aheadV
      split <;> simp [hi]
    have HR := hide hR
    clear hR hs
    go_enter Tryz.func73, Tryz.ntmps73
    go_wp2_with fail
    refine HDD.out.mono ?_
    rintro e wa ⟨rfl, rfl⟩
    go_wp2
    go_ret
    refine ⟨by rw [HE.out.1]; rfl, ?_, ⟨rfl, rfl, rfl, Nat.le_refl _, fun _ _ _ => rfl⟩⟩
    rw [HE.out.2]
    exact HR.out
end Go.Proofs.YtgaalaoflaklgaaGreat
namespace Go.Proofs.YtgaalaoflaklgaaGreat
open Go.RowKit Crc

theorem wr64_nat {n : Nat} (h : n < 9223372036854775808) : wrap64 (n : Int) = (n : Int) := by
  unfold wrap64
  omega
theorem utfC_succ (b : Nat → Nat) (j : Nat) : utfC b (j + 1) = true ↔ utfC b j = true ∧ 128 ≤ b (j + 1) ∧ b (j + 1) < 192 := by simp [utfC]
theorem utfC_mono (b : Nat → Nat) : ∀ {k j : Nat}, utfC b k = true → j ≤ k → utfC b j = true
  | 0, j, h, hj => by obtain rfl : j = 0 := by omega
                      exact h
  | k + 1, j, h, hj => by
    by_cases e : j = k + 1
    · subst e; exact h
    · exact utfC_mono b ((utfC_succ b k).1 h).1 (by omega)
theorem utfB_at (s : ByteArray) (pos j : Nat) (h : pos + j < s.size) : (s[pos + j]'h).toNat = utfB s pos j := by
  unfold utfB
  have e : s.get! (pos + j) = s[pos + j]'h := by
    simp [ByteArray.get!, getElem!_pos, h]
    rfl
  rw [e]
theorem utfK_short {n k v0 least : Nat} {b : Nat → Nat} (h : n ≤ k) : utfK n k v0 least b = 0 := by rw [utfK_eq, if_pos h]
theorem utfK_cont {n k v0 least : Nat} {b : Nat → Nat} (h : ¬ utfC b k = true) : utfK n k v0 least b = 0 := by
  rw [utfK_eq, if_neg h]
  split <;> rfl
theorem utfK_bad {n k v0 least : Nat} {b : Nat → Nat} (h : utfBad (utfV v0 b k) least) : utfK n k v0 least b = 0 := by
  rw [utfK_eq, if_pos h]
  split
  · rfl
  · split <;> rfl
theorem utfK_good {n k v0 least : Nat} {b : Nat → Nat} (h1 : ¬ n ≤ k) (h2 : utfC b k = true) (h3 : ¬ utfBad (utfV v0 b k) least) : utfK n k v0 least b = k + 1 := by rw [utfK_eq, if_neg h1, if_pos h2, if_neg h3]

end Go.Proofs.YtgaalaoflaklgaaGreat
namespace Go.Proofs.YtgaalaoflaklgaaGreat
open Go.RowKit Crc
variable {K : Kd}

/-! The writer's methods once more, with what they touch: the writer's own block and its list's. -/
/-- The blocks of a writer: its own, and its list's (which lies in cell j). -/
def Foot (w : World) (p j k : Nat) : Prop := k = p ∨ ∃ u, w.cell? ⟨p, j, none⟩ = some u ∧ u.ownBlock = some k
/-- Nothing but these was touched; what is new of them is new memory. -/
structure Tch (j : Nat) (w w' : World) (p : Nat) : Prop where
  os : w'.os = w.os
  tape : w'.tape = w.tape
  output : w'.output = w.output
  size : w.heap.size ≤ w'.heap.size
  keep : ∀ k, k < w.heap.size → ¬ Foot w p j k → w'.heap[k]? = w.heap[k]?
  foot : ∀ k, Foot w' p j k → Foot w p j k ∨ w.heap.size ≤ k
theorem Foot.old {w w1 : World} {p j k : Nat} (hb : Below w.heap.size w w1) (hp : p < w.heap.size) : Foot w1 p j k ↔ Foot w p j k := by
  unfold Foot
  rw [hb.cell (p := ⟨p, j, none⟩) hp]
theorem Tch.from {j p : Nat} {w w1 w2 : World} (hb : Below w.heap.size w w1) (hp : p < w.heap.size) (h : Tch j w1 w2 p) : Tch j w w2 p :=
  ⟨h.os.trans hb.os, h.tape.trans hb.tape, h.output.trans hb.output, Nat.le_trans hb.size h.size, fun k hk hf => (h.keep k (Nat.lt_of_lt_of_le hk hb.size) (fun e => hf ((Foot.old hb hp).1 e))).trans (hb.block k hk),
   fun k hk => (h.foot k hk).elim (fun e => .inl ((Foot.old hb hp).1 e)) (fun e => .inr (Nat.le_trans hb.size e))⟩
theorem Tch.row {j p : Nat} {w w' : World} (hg : w.grownBy w' (some p)) (hc : w'.cell? ⟨p, j, none⟩ = w.cell? ⟨p, j, none⟩) : Tch j w w' p :=
  ⟨hg.os, hg.tape, hg.output, hg.size, fun k hk hf => hg.block k hk (fun e => hf (.inl (by cases e; rfl))), fun k hk => .inl (by unfold Foot at hk ⊢; rwa [hc] at hk)⟩
theorem Tch.refl (j p : Nat) (w : World) : Tch j w w p := ⟨rfl, rfl, rfl, Nat.le_refl _, fun _ _ _ => rfl, fun _ h => .inl h⟩
structure BT (lim : Nat) (w w' : World) (p : Nat) : Prop where
  below : Below lim w w'
  touch : Tch 4 w w' p
theorem BT.from {lim p : Nat} {w w1 w2 : World} (hb : Below w.heap.size w w1) (hp : p < w.heap.size) (hl : lim ≤ w.heap.size) (h : BT lim w1 w2 p) : BT lim w w2 p :=
  ⟨(hb.mono hl).trans h.below, Tch.from hb hp h.touch⟩
theorem wr_afterx {base lim : Nat} {w w2 : World} {p : Nat} {made : Bool} {place why most : Int} {v v' : Value} {L : List Nat} (hb : w.heap[p]? = some (.cells (List.toArray (.bool made :: .int .i64 place :: .int .i64 why :: .int .i64 most :: v :: K.R)) K.t (0, 0)))
    (hne : v.ownBlock ≠ some p) (hO0 : ∀ g, v.ownBlock = some g → base ≤ g) (hE : Ext w w2 v v') (hO : Owns base w2 v' L) (hl1 : lim ≤ base) (hl2 : lim ≤ p) :
    Wr K base (w2.setCell ⟨p, 4, none⟩ v') p made place why most L ∧ BT lim w (w2.setCell ⟨p, 4, none⟩ v') p := by
  obtain ⟨h1, h2⟩ := wr_after hb hne hO0 hE hO hl1 hl2
  have c4 := block_cell hb 4
  simp at c4
  have hp := block_lt hb
  have hb2 : w2.heap[p]? = some (.cells (List.toArray (.bool made :: .int .i64 place :: .int .i64 why :: .int .i64 most :: v :: K.R)) K.t (0, 0)) := (hE.1.block p hp (fun e => hne e.symm)).trans hb
  have hb3 : (w2.setCell ⟨p, 4, none⟩ v').heap[p]? = some (.cells (List.toArray (.bool made :: .int .i64 place :: .int .i64 why :: .int .i64 most :: v' :: K.R)) K.t (0, 0)) := by
    rw [heap_setCell_same w2 p 4 _ _ v' hb2]; rfl
  refine ⟨h1, h2, h2.os, h2.tape, h2.output, by simpa using hE.1.size, fun k hk hf => ?_, fun k hk => ?_⟩
  · have h3 := heap_setCell_other w2 ⟨p, 4, none⟩ k v' (fun e => hf (.inl (by simpa using e)))
    exact h3.trans (hE.1.block k hk (fun e => hf (.inr ⟨v, c4, e.symm⟩)))
  · rcases hk with rfl | ⟨u, hu, hg⟩
    · exact .inl (.inl rfl)
    · have h4 := block_cell hb3 4
      rw [hu] at h4
      simp at h4
      subst h4
      rcases hE.2 k hg with h | h
      · exact .inl (.inr ⟨v, c4, h⟩)
      · exact .inr h
theorem fixed_goodx (base lim p v s : Nat) (vi si place most : Int) (L : List Nat) (w : World) (hvi : vi = (v : Int)) (hsi : si = (s : Int)) (hs : s ≤ 8) (hW : Wr K base w p true place 0 most L) (hm : most ≤ 65507) (hfit : ((L.length + s : Nat) : Int) ≤ most) (hbs : base ≤ w.heap.size) (hl1 : lim ≤ base) (hl2 : lim ≤ p) :
    Calls Tryz.prog 63 #[.pointer (some ⟨p, 0, none⟩), .int .u64 vi, .int .i64 si] w fun e w' => e = .returned (.tuple #[]) ∧ Wr K base w' p true place 0 most (L ++ big v s) ∧ BT lim w w' p := by
  obtain ⟨u, hb, hO, hne⟩ := hW
  obtain ⟨ao, cap, rfl, hS, _⟩ := hO.form
  have c0 := block_cell hb 0
  have c2 := block_cell hb 2
  have c3 := block_cell hb 3
  have c4 := block_cell hb 4
  simp at c0 c2 c3 c4
  have HTK : Hid (Calls Tryz.prog 80 #[.pointer (some ⟨p, 0, none⟩), .int .i64 si, .int .i64 0] w fun e w' => e = .returned (.bool true) ∧ ∃ q, w' = w.drewN q) := takes_good p most ao L.length cap si w c0 c2 c3 c4 hm (by omega) (by omega)
  have HAP : Hid (∀ q, Calls Tryz.prog 92 #[.slice ao L.length cap, .int .u64 vi, .int .i64 si] (w.drewN q) fun e w' => ∃ v', e = .returned v' ∧ Owns base w' v' (L ++ big v s) ∧ Ext (w.drewN q) w' (.slice ao L.length cap) v') :=
    fun q => appendHigh_any base v s _ vi si L (w.drewN q) hvi hsi hs (hO.drew q) (by omega) hbs
  have HFIN : Hid (∀ (q : Nat) (w2 : World) (v' : Value), Owns base w2 v' (L ++ big v s) → Ext (w.drewN q) w2 (.slice ao L.length cap) v' → Wr K base (w2.setCell ⟨p, 4, none⟩ v') p true place 0 most (L ++ big v s) ∧ BT lim w (w2.setCell ⟨p, 4, none⟩ v') p) := by
    intro q w2 v' ho he
    have he' : Ext w w2 (.slice ao L.length cap) v' := ⟨⟨he.1.os, he.1.tape, he.1.output, he.1.size, he.1.block⟩, he.2⟩
    exact wr_afterx hb hne (fun g hg => (hO.1.lt g hg).1) he' ho hl1 hl2
  have HCL : Hid (∀ (q : Nat) (w2 : World) (v' : Value), Ext (w.drewN q) w2 (.slice ao L.length cap) v' → w2.cell? ⟨p, 4, none⟩ = some (.slice ao L.length cap) ∧ w2.frozen? ⟨p, 4, none⟩ = false) := by
    intro q w2 v' he
    exact wr_cell hb hne (show Ext w w2 (.slice ao L.length cap) v' from ⟨⟨he.1.os, he.1.tape, he.1.output, he.1.size, he.1.block⟩, he.2⟩)
  clear hb hO hne hS c0 c2 c3 hvi hsi
  go_enter Tryz.func63, Tryz.ntmps63
  go_wp2_with fail
  refine HTK.out.mono ?_
  rintro e w1 ⟨rfl, q, rfl⟩
  go_wp2_with fail
  refine (HAP.out q).mono ?_
  rintro e w2 ⟨v', rfl, ho, he⟩
  obtain ⟨k4, f4⟩ := HCL.out q w2 v' he
  have HF2 := HFIN.out q w2 v' ho he
  obtain ⟨a', c', rfl, _, _⟩ := ho.form
  have HF2' : Hid (Wr K base (w2.setCell ⟨p, 4, none⟩ (.slice a' (L ++ big v s).length c')) p true place 0 most (L ++ big v s) ∧ BT lim w (w2.setCell ⟨p, 4, none⟩ (.slice a' (L ++ big v s).length c')) p) := HF2
  clear HF2 ho he HFIN HCL HAP HTK c4
  generalize (L ++ big v s).length = m at *
  go_wp2
  go_end0
  exact ⟨rfl, HF2'.out⟩

theorem wU8_goodx (base lim p v : Nat) (vi place most : Int) (L : List Nat) (w : World) (hvi : vi = (v : Int)) (hv : v < 256) (hW : Wr K base w p true place 0 most L) (hm : most ≤ 65507) (hfit : ((L.length + 1 : Nat) : Int) ≤ most) (hbs : base ≤ w.heap.size) (hl1 : lim ≤ base) (hl2 : lim ≤ p) :
    Calls Tryz.prog 35 #[.pointer (some ⟨p, 0, none⟩), .int .u8 vi] w fun e w' => e = .returned (.tuple #[]) ∧ Wr K base w' p true place 0 most (L ++ big v 1) ∧ BT lim w w' p := by
  have HF : Hid (Calls Tryz.prog 63 #[.pointer (some ⟨p, 0, none⟩), .int .u64 vi, .int .i64 1] w fun e w' => e = .returned (.tuple #[]) ∧ Wr K base w' p true place 0 most (L ++ big v 1) ∧ BT lim w w' p) := fixed_goodx base lim p v 1 vi 1 place most L w hvi rfl (by omega) hW hm hfit hbs hl1 hl2
  have h0 : 0 ≤ vi := by omega
  have h1 : vi < 256 := by omega
  clear hW hvi
  go_enter Tryz.func35, Tryz.ntmps35
  go_wp2_with fail
  refine HF.out.mono ?_
  rintro e w1 ⟨rfl, hr⟩
  have HR : Hid (Wr K base w1 p true place 0 most (L ++ big v 1) ∧ BT lim w w1 p) := hr
  clear hr
  go_wp2
  go_end0
  exact ⟨rfl, HR.out⟩

theorem wr_openx {base lim p : Nat} {w : World} {place most : Int} {L : List Nat} (hW : Wr K base w p true place 0 most L) (hm : most ≤ 65507) (hlen : (L.length : Int) ≤ most) (hl1 : lim ≤ base) (hl2 : lim ≤ p) :
    ∃ (ao : Option Addr) (cap : Nat), w.cell? ⟨p, 4, none⟩ = some (.slice ao L.length cap) ∧ Owns base w (.slice ao L.length cap) L ∧
      (∀ sz : Int, sz ≤ most - (L.length : Int) → Calls Tryz.prog 80 #[.pointer (some ⟨p, 0, none⟩), .int .i64 sz, .int .i64 0] w fun e w' => e = .returned (.bool true) ∧ ∃ q, w' = w.drewN q) ∧
      (∀ (w2 : World) (v' : Value) (L' : List Nat), Owns base w2 v' L' → Ext w w2 (.slice ao L.length cap) v' → w2.cell? ⟨p, 4, none⟩ = some (.slice ao L.length cap) ∧ w2.frozen? ⟨p, 4, none⟩ = false ∧ Wr K base (w2.setCell ⟨p, 4, none⟩ v') p true place 0 most L' ∧ BT lim w (w2.setCell ⟨p, 4, none⟩ v') p) := by
  obtain ⟨u, hb, hO, hne⟩ := hW
  obtain ⟨ao, cap, rfl, hS, _⟩ := hO.form
  have c0 := block_cell hb 0
  have c2 := block_cell hb 2
  have c3 := block_cell hb 3
  have c4 := block_cell hb 4
  simp at c0 c2 c3 c4
  refine ⟨ao, cap, c4, hO, fun sz hsz => takes_good p most ao L.length cap sz w c0 c2 c3 c4 hm hlen hsz, fun w2 v' L' ho he => ?_⟩
  obtain ⟨k4, f4⟩ := wr_cell hb hne he
  exact ⟨k4, f4, wr_afterx hb hne (fun g hg => (hO.1.lt g hg).1) he ho hl1 hl2⟩

theorem wNum_goodx (base lim p v : Nat) (vi place most : Int) (L : List Nat) (w : World) (hvi : vi = (v : Int)) (hv : v < 18446744073709551616) (hW : Wr K base w p true place 0 most L) (hm : most ≤ 65507) (hfit : ((L.length + (numB v).length : Nat) : Int) ≤ most) (hbs : base ≤ w.heap.size) (hl1 : lim ≤ base) (hl2 : lim ≤ p) :
    Calls Tryz.prog 53 #[.pointer (some ⟨p, 0, none⟩), .int .u64 vi] w fun e w' => e = .returned (.tuple #[]) ∧ Wr K base w' p true place 0 most (L ++ numB v) ∧ BT lim w w' p := by
  obtain ⟨ao, cap, c4, hO, htk, hfin⟩ := wr_openx hW hm (by omega) hl1 hl2
  have HNS : Hid (Calls Tryz.prog 81 #[.int .u64 vi] w fun e w' => e = .returned (.int .i64 ((numB v).length : Nat)) ∧ w' = w) := numSize_any v vi w hvi hv
  have HTK : Hid (Calls Tryz.prog 80 #[.pointer (some ⟨p, 0, none⟩), .int .i64 ((numB v).length : Nat), .int .i64 0] w fun e w' => e = .returned (.bool true) ∧ ∃ q, w' = w.drewN q) := htk _ (by omega)
  have HAP : Hid (∀ q, Calls Tryz.prog 82 #[.slice ao L.length cap, .int .u64 vi] (w.drewN q) fun e w' => ∃ v', e = .returned v' ∧ Owns base w' v' (L ++ numB v) ∧ Ext (w.drewN q) w' (.slice ao L.length cap) v') :=
    fun q => appendNum_any base _ L v vi (w.drewN q) hvi hv (hO.drew q) (by omega) hbs
  have HFIN := hide hfin
  clear hfin htk hO hW hvi
  generalize (numB v).length = ns at *
  go_enter Tryz.func53, Tryz.ntmps53
  go_wp2_with fail
  refine HNS.out.mono ?_
  rintro e w0 ⟨rfl, rfl⟩
  go_wp2_with fail
  refine HTK.out.mono ?_
  rintro e w1 ⟨rfl, q, rfl⟩
  go_wp2_with fail
  refine (HAP.out q).mono ?_
  rintro e w2 ⟨v', rfl, ho, he⟩
  obtain ⟨k4, f4, hr⟩ := HFIN.out w2 v' _ ho (ext_drew he)
  obtain ⟨a', c', rfl, _, _⟩ := ho.form
  have HR := hide hr
  clear hr ho he HFIN HAP HTK HNS c4
  generalize (L ++ numB v).length = m at *
  go_wp2
  go_end0
  exact ⟨rfl, HR.out⟩

theorem wCount_goodx (base lim p v : Nat) (vi cm place most : Int) (L : List Nat) (w : World) (hvi : vi = (v : Int)) (hv : v < 9223372036854775808) (hcm : vi ≤ cm) (hW : Wr K base w p true place 0 most L) (hm : most ≤ 65507) (hfit : ((L.length + (numB v).length : Nat) : Int) ≤ most) (hbs : base ≤ w.heap.size) (hl1 : lim ≤ base) (hl2 : lim ≤ p) :
    Calls Tryz.prog 54 #[.pointer (some ⟨p, 0, none⟩), .int .i64 vi, .int .i64 cm] w fun e w' => e = .returned (.tuple #[]) ∧ Wr K base w' p true place 0 most (L ++ numB v) ∧ BT lim w w' p := by
  obtain ⟨ao, cap, c4, hO, htk, hfin⟩ := wr_openx hW hm (by omega) hl1 hl2
  have HNS : Hid (Calls Tryz.prog 81 #[.int .u64 vi] w fun e w' => e = .returned (.int .i64 ((numB v).length : Nat)) ∧ w' = w) := numSize_any v vi w hvi (by omega)
  have HCF : Hid (Calls Tryz.prog 83 #[.int .i64 vi, .int .i64 cm] w fun e w' => e = .returned (.int .i64 0) ∧ w' = w) := countFault_good vi cm w (by omega) hcm
  have HTK : Hid (Calls Tryz.prog 80 #[.pointer (some ⟨p, 0, none⟩), .int .i64 ((numB v).length : Nat), .int .i64 0] w fun e w' => e = .returned (.bool true) ∧ ∃ q, w' = w.drewN q) := htk _ (by omega)
  have HAP : Hid (∀ q, Calls Tryz.prog 82 #[.slice ao L.length cap, .int .u64 vi] (w.drewN q) fun e w' => ∃ v', e = .returned v' ∧ Owns base w' v' (L ++ numB v) ∧ Ext (w.drewN q) w' (.slice ao L.length cap) v') :=
    fun q => appendNum_any base _ L v vi (w.drewN q) hvi (by omega) (hO.drew q) (by omega) hbs
  have HFIN := hide hfin
  have h0 : 0 ≤ vi := by omega
  have h1 : vi ≤ 9223372036854775807 := by omega
  clear hfin htk hO hW hvi
  generalize (numB v).length = ns at *
  go_enter Tryz.func54, Tryz.ntmps54
  go_wp2_with fail
  refine HNS.out.mono ?_
  rintro e w0 ⟨rfl, rfl⟩
  go_wp2_with fail
  refine HCF.out.mono ?_
  rintro e w0 ⟨rfl, rfl⟩
  go_wp2_with fail
  refine HTK.out.mono ?_
  rintro e w1 ⟨rfl, q, rfl⟩
  go_wp2_with fail
  refine (HAP.out q).mono ?_
  rintro e w2 ⟨v', rfl, ho, he⟩
  obtain ⟨k4, f4, hr⟩ := HFIN.out w2 v' _ ho (ext_drew he)
  obtain ⟨a', c', rfl, _, _⟩ := ho.form
  have HR := hide hr
  clear hr ho he HFIN HAP HTK HNS HCF c4
  generalize (L ++ numB v).length = m at *
  go_wp2
  go_end0
  exact ⟨rfl, HR.out⟩

theorem wBlob_genx (base lim p : Nat) (bo : Option Addr) (n bcap blim : Nat) (B : List Nat) (cm place most : Int) (L : List Nat) (w : World) (hS : Shows blim w bo n bcap B) (hKP : ∀ (u v' : Value) (w2 : World), w.cell? ⟨p, 4, none⟩ = some u → Ext w w2 u v' → Shows blim w2 bo n bcap B) (hcm : (n : Int) ≤ cm) (hW : Wr K base w p true place 0 most L) (hm : most ≤ 65507) (hfit : ((L.length + (numB n).length + n : Nat) : Int) ≤ most) (hbs : base ≤ w.heap.size) (hl1 : lim ≤ base) (hl2 : lim ≤ p) :
    Calls Tryz.prog 55 #[.pointer (some ⟨p, 0, none⟩), .slice bo n bcap, .int .i64 cm] w fun e w' => e = .returned (.tuple #[]) ∧ Wr K base w' p true place 0 most (L ++ numB n ++ B) ∧ BT lim w w' p := by
  obtain ⟨i0, hi, hz0, hz1, hz2⟩ := info_parts Tryz.info5
  obtain ⟨ao, cap, c4, hO, htk, hfin⟩ := wr_openx hW hm (by omega) hl1 hl2
  have hn47 := hS.2.2.1
  have HNS : Hid (Calls Tryz.prog 81 #[.int .u64 (n : Int)] w fun e w' => e = .returned (.int .i64 ((numB n).length : Nat)) ∧ w' = w) := numSize_any n _ w rfl (by omega)
  have HCF : Hid (Calls Tryz.prog 83 #[.int .i64 (n : Int), .int .i64 cm] w fun e w' => e = .returned (.int .i64 0) ∧ w' = w) := countFault_good n cm w (by omega) hcm
  have HTK : Hid (Calls Tryz.prog 80 #[.pointer (some ⟨p, 0, none⟩), .int .i64 (((numB n).length : Nat) + (n : Int)), .int .i64 0] w fun e w' => e = .returned (.bool true) ∧ ∃ q, w' = w.drewN q) := htk _ (by omega)
  have HAP : Hid (∀ q, Calls Tryz.prog 82 #[.slice ao L.length cap, .int .u64 (n : Int)] (w.drewN q) fun e w' => ∃ v', e = .returned v' ∧ Owns base w' v' (L ++ numB n) ∧ Ext (w.drewN q) w' (.slice ao L.length cap) v') :=
    fun q => appendNum_any base _ L n _ (w.drewN q) rfl (by omega) (hO.drew q) (by omega) hbs
  have HKP : Hid (∀ (w2 : World) (v' : Value), Ext w w2 (.slice ao L.length cap) v' → Shows blim w2 bo n bcap B) := fun w2 v' he => hKP _ v' w2 c4 he
  have HFIN := hide hfin
  have HNB : Hid (n = B.length) := hS.1
  have hnl : (numB n).length ≤ 10 := numTo_len 9 n
  have HBS : Hid (∀ (w2 : World) (v' : Value), Ext w w2 (.slice ao L.length cap) v' → base ≤ w2.heap.size) := fun w2 v' he => Nat.le_trans hbs he.1.size
  clear hfin htk hO hW hS hKP
  generalize hns : (numB n).length = ns at *
  have HNS2 := hide hns
  clear hns
  go_enter Tryz.func55, Tryz.ntmps55
  go_wp2_with fail
  refine HNS.out.mono ?_
  rintro e w0 ⟨rfl, rfl⟩
  go_wp2_with fail
  refine HCF.out.mono ?_
  rintro e w0 ⟨rfl, rfl⟩
  go_wp2_with fail
  refine HTK.out.mono ?_
  rintro e w1 ⟨rfl, q, rfl⟩
  go_wp2_with fail
  refine (HAP.out q).mono ?_
  rintro e w2 ⟨v', rfl, ho, he⟩
  have HE := hide (ext_drew he)
  have HO := hide ho
  obtain ⟨a', c', rfl, hs', _⟩ := ho.form
  have hcap' : (L ++ numB n).length ≤ c' := hs'.2.1
  have HSB := hide (HKP.out w2 _ HE.out)
  have hll : (L ++ numB n).length = L.length + ns := by rw [List.length_append, HNS2.out]
  have HLL := hide hll
  have hbd : (L ++ numB n).length ≤ 100000 := by omega
  clear ho he hs' HAP HTK HNS HCF HKP hll
  generalize hm' : (L ++ numB n).length = m at *
  by_cases hn0 : n = 0
  · obtain rfl : n = 0 := hn0
    have HB0 : Hid (B = []) := List.eq_nil_of_length_eq_zero HNB.out.symm
    obtain ⟨k4, f4, hr⟩ := HFIN.out w2 _ _ HO.out HE.out
    have HR := hide hr
    have HAN := hide (fun wx => append_none_run a' bo m c' bcap hcap' wx)
    clear hr HFIN c4 hm'
    go_wp2_with (first
      | (at_builtin; refine wpList_append_nothing rfl (.tmp 27) (.tmp 28) 29 rfl _ _ rfl rfl (HAN.out _) ?_))
    go_end0
    refine ⟨rfl, ?_⟩
    rw [HB0.out, List.append_nil]
    exact HR.out
  · obtain ⟨hq1, _, _, hBlt, bb, oo, q5, q6, q7⟩ := HSB.out
    clear hq1
    obtain rfl := q5 (by omega)
    have HSRC := hide (vals_cell (B := B) (w := w2) (b := bb) (off := oo) (fun i hi => q7 i (by have := HNB.out; omega)))
    have HBLT := hide hBlt
    have HOW : Hid (w2.ownsRow base 5 1 (.slice a' m c') m (vals (L ++ numB n))) := by
      have h := HO.out.1
      rw [hm'] at h
      exact h
    have HMM := hide hm'
    clear q5 q6 q7 hBlt hm'
    go_wp2_with (first
      | (at_builtin; refine wpList_append_ext _ rfl (.tmp 27) (.tmp 28) 29 rfl base 5 i0 (.int .u8 0) Tryz.underlying29 hi hz0 hz1 hz2 rfl _ m (vals (L ++ numB n)) rfl HOW.out ⟨bb, oo, none⟩ n bcap (vals B) rfl (by rw [vals_len]; exact HNB.out.symm) HSRC.out (vals_one' B) (by omega) (by omega) (HBS.out w2 _ HE.out) ?_; intro v' w3 hown3 hext3; have HO3 : Hid (Owns base w3 v' (L ++ numB n ++ B)) := owns_join HO.out HBLT.out (by rw [HMM.out, ← HNB.out]; omega) (by rw [HMM.out, ← HNB.out]; exact hown3); obtain ⟨k4, f4, hr⟩ := HFIN.out w3 v' _ HO3.out (HE.out.trans hext3); obtain ⟨a3, c3, rfl, _, _⟩ := HO3.out.form; have HR := hide hr; clear hr hown3 hext3))
    go_end0
    refine ⟨rfl, ?_⟩
    rw [show L.length + ((numB n).length + B.length) = (L ++ numB n ++ B).length by simp]
    exact HR.out

end Go.Proofs.YtgaalaoflaklgaaGreat
