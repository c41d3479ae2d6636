import Derived.Test.YthfiafjhnidlkaaM41
namespace Go.Proofs.Ythfiafjhnidlkaa
open Go.RowKit

theorem kr_set_snoc (L : List Kr) (x y : Kr) : (L ++ [x]).set L.length y = L ++ [y] := by
  induction L with
  | nil => rfl
  | cons a t ih => simp
theorem kr_get_snoc (L : List Kr) (x : Kr) : (L ++ [x])[L.length]? = some x := by simp
set_option maxRecDepth 10000 in
set_option maxHeartbeats 3200000 in
theorem rspeak_new {w : World} {pr h B : Nat} {c : Cf} {v : Value} {L : List Kr} (r : RT w pr h B c v L) (hL : L.length < 64) (hB : B ≤ w.heap.size) (n num : Nat) (node nd : Int) (hn : c.node nd = true) (hno : ∀ x ∈ L, x.is n num node = false) :
    Calls Try.prog 60 #[.pointer (some ⟨pr, 0, none⟩), .int .u64 (n : Int), .agg #[.int .u64 (num : Int), .int .i64 node], .int .i64 nd] w fun e w' => e = .returned (.tuple #[.int .i64 ((countB (withB 0 nd) : Nat) : Int), .int .i64 0]) ∧ Hid (∃ v', RT w' pr h B c v' (L ++ [⟨n, num, node, withB 0 nd⟩]) ∧ RFr w w' pr v ∧ ∀ j, v'.ownBlock = some j → w.heap.size ≤ j ∨ v.ownBlock = some j) := by
  obtain ⟨i0, hi0, hz0, hz1, hz2⟩ := info_parts infoKey
  obtain ⟨W1, hW1⟩ : ∃ W1, w.alloc (.cells #[.int .u64 (num : Int), .int .i64 node] 36) = W1 := ⟨_, rfl⟩
  have b1 : Below w.heap.size w W1 := by rw [← hW1]; exact (Below.refl _ w).alloc (Nat.le_refl _) _
  have C1 : Hid (W1.heap[w.heap.size]? = some (.cells #[.int .u64 (num : Int), .int .i64 node] 36 (0, 0))) := by rw [← hW1]; exact alloc_atK _ _
  have HW1 := hide hW1
  have B1 := hide b1
  have R1 := hide (r.kept b1)
  have KN := hide (refNode nd R1.out.grp)
  have HF := hide (rfind R1.out (by omega) n num node)
  have q0 := block_cell R1.out.blk 0
  have q2 := block_lt R1.out.blk
  have x0 : W1.cell? ⟨w.heap.size, 0, none⟩ = some (.int .u64 (num : Int)) := block_cell C1.out 0
  have x1 : W1.cell? ⟨w.heap.size, 1, none⟩ = some (.int .i64 node) := block_cell C1.out 1
  have hl1 := block_lt C1.out
  have KW : Hid (∀ V, Calls Try.prog 21 #[.int .u32 0, .int .i64 nd] V fun e w' => e = .returned (.int .u32 ((withB 0 nd : Nat) : Int)) ∧ w' = V) := fun V => refWith 0 (by decide) nd V
  have KCt := hide (fun V => refCount (withB 0 nd) (withB_lt _ nd (by decide)) V)
  have HNO := hide hno
  have HB := hide hB
  have HZ0 := hide hz0
  simp at q0
  rw [hn] at KN
  clear r b1 hW1 hn hno hB hz0
  go_enter Try.func60, Try.ntmps60
  go_upto_region 1 with fail
  rw [HW1.out]
  clear HW1
  go_wp2_with fail
  refine KN.out.mono ?_
  rintro e w2 ⟨rfl, rfl⟩
  go_wp2_with fail
  refine HF.out.mono ?_
  rintro e w3 ⟨z, rfl, G2⟩
  have B2 := hide (B1.out.trans (G2.out.2.mono B1.out.size))
  have R2 := hide (R1.out.kept G2.out.2)
  have hz : z = -1 := by
    rcases G2.out.1 with ⟨i', x', hi', hx', rfl⟩ | ⟨_, hz⟩
    · rw [HNO.out x' (List.mem_of_getElem? hi')] at hx'
      cases hx'
    · exact hz
  subst hz
  have c3 := (G2.out.2.block _ (block_lt C1.out)).trans C1.out
  have y0 : w3.cell? ⟨w.heap.size, 0, none⟩ = some (.int .u64 (num : Int)) := block_cell c3 0
  have y1 : w3.cell? ⟨w.heap.size, 1, none⟩ = some (.int .i64 node) := block_cell c3 1
  have y2 := block_lt c3
  have q1 := block_cell R2.out.blk 1
  have q3 := block_lt R2.out.blk
  obtain ⟨ao, cap, hv⟩ := R2.out.list
  subst hv
  simp at q1
  have hlt : ¬ ((L.length : Nat) : Int) ≥ 64 := by omega
  have HOW : Hid (∀ o, (w3.alloc o).drew.ownsRow B 124 4 (.slice ao L.length cap) L.length (krcells L)) := fun o => row_quietT (row_quietT R2.out.row (World.grownBy_alloc w3 o none)) (drew_grownK _)
  have HSW : Hid (B ≤ w3.heap.size) := Nat.le_trans HB.out B2.out.size
  have HNX : Hid (∀ (v' : Value) (w5 : World) (o : Obj), w5.ownsRow B 124 4 v' (L.length + 1) (krcells L ++ [.int .u64 (n : Int), .int .u64 (num : Int), .int .i64 node, .int .u32 0]) → (w3.alloc o).drew.grownBy w5 (Value.slice ao L.length cap).ownBlock → (v'.ownBlock = (Value.slice ao L.length cap).ownBlock ∨ v'.ownBlock = some (w3.alloc o).drew.heap.size) →
      (RT (w5.setCell ⟨pr, 1, none⟩ v') pr h B c v' (L ++ [⟨n, num, node, 0⟩]) ∧ RFr w (w5.setCell ⟨pr, 1, none⟩ v') pr (.slice ao L.length cap) ∧ ∀ j, v'.ownBlock = some j → w.heap.size ≤ j ∨ (Value.slice ao L.length cap).ownBlock = some j) ∧ w5.cell? ⟨pr, 1, none⟩ = some (.slice ao L.length cap) ∧ w5.frozen? ⟨pr, 1, none⟩ = false ∧ pr < w5.heap.size) := fun v' w5 o ho hg hat => by
    have ba : Below w3.heap.size w3 (w3.alloc o).drew := ((Below.refl _ w3).alloc (Nat.le_refl _) _).drew
    have ra := R2.out.kept ba
    have hne := row_tally ra.row ra.blk
    have hng := row_group ra.row ra.gb
    have e5 := (hg.block _ (block_lt ra.blk) (fun e => hne e.symm)).trans ra.blk
    have eg := (hg.block _ (block_lt ra.gb) (fun e => hng e.symm)).trans ra.gb
    have gs := grown_set w5 pr 1 v'
    have hph : h ≠ pr := fun e => by
      have h1 := ra.gb
      rw [e, ra.blk] at h1
      cases h1
    refine ⟨⟨⟨heap_setCell_same w5 pr 1 _ _ _ e5, ?_, (gs.block _ (block_lt eg) (fun e => hph (Option.some.inj e))).trans eg, ra.ok⟩, ⟨?_, ?_, ?_, ?_, ?_⟩, ?_⟩, block_cell e5 1, block_free e5 1, block_lt e5⟩
    · have := ho.kept gs (.inr (row_tally ho e5))
      rw [List.length_append, krcells_snoc]
      exact this
    · exact gs.os.trans (hg.os.trans (ba.os.trans B2.out.os))
    · exact gs.tape.trans (hg.tape.trans (ba.tape.trans B2.out.tape))
    · exact gs.output.trans (hg.output.trans (ba.output.trans B2.out.output))
    · exact Nat.le_trans B2.out.size (Nat.le_trans ba.size (Nat.le_trans hg.size gs.size))
    · intro j hj h1 h2
      have j3 := Nat.lt_of_lt_of_le hj B2.out.size
      have ja := Nat.lt_of_lt_of_le j3 ba.size
      exact (gs.block j (Nat.lt_of_lt_of_le ja hg.size) (fun e => h1 (Option.some.inj e))).trans ((hg.block j ja (fun e => h2 e.symm)).trans ((ba.block j j3).trans (B2.out.block j hj)))
    · intro j hj
      rcases hat with e | e
      · exact .inr (e.symm.trans hj)
      · rw [e] at hj
        cases hj
        exact .inl (Nat.le_trans B2.out.size ba.size)
  clear q0 q2 x0 x1 hl1 G2 c3
  go_upto_region 7 with fail
  go_region_law (first
    | (refine step_append_atK rfl (.tmp 34) (.tmp 38) 83 rfl B 124 i0 _ 4 32 Try.underlying83 hi0 HZ0.out hz1 hz2 rfl (by decide) (.slice ao L.length cap) L.length (krcells L) (by simp [Act.eval]) (HOW.out _) ⟨w3.heap.size, 0, none⟩ 1 1 [.int .u64 (n : Int), .int .u64 (num : Int), .int .i64 node, .int .u32 0] (by simp [Act.eval]) rfl (cells_newD _ _ _) (by simp [Value.oneCell']) (by unfold maxLen; omega) (by omega) (Nat.le_trans HSW.out (by simp)) ?_; intro v' w5 ho hg2 hat; obtain ⟨g', cap', rfl⟩ := ownsRow_succ ho; have hnx := HNX.out _ _ _ ho hg2 hat; have NX := hide hnx.1; obtain ⟨-, p1, p2, p3⟩ := hnx; clear ho hg2 hat))
  all_goals
    clear q1 y0 y1 y2 q3 p1 p2 p3 HNX HOW hlt
    generalize w5.setCell ⟨pr, 1, none⟩ (.slice (some ⟨g', 0, none⟩) (L.length + 1) cap') = W8 at *
    have r8 := NX.out.1
    have q1 := block_cell r8.blk 1
    have q3 := block_lt r8.blk
    simp at q1
    clear r8
    obtain ⟨SD, hSD⟩ : ∃ SD : Bool → World → Prop, SD = fun d V => RT V pr h B c (.slice (some ⟨g', 0, none⟩) (L.length + 1) cap') (L ++ [⟨n, num, node, if d = true then withB 0 nd else 0⟩]) ∧ W8.grownBy V (some g') := ⟨_, rfl⟩
    have KD : Hid (∀ d V, Hid (SD d V) → V.cell? ⟨pr, 1, none⟩ = some (.slice (some ⟨g', 0, none⟩) (L.length + 1) cap') ∧ pr < V.heap.size ∧ g' < V.heap.size) := fun d V hV => by
      have h0 := hV.out
      rw [hSD] at h0
      refine ⟨block_cell h0.1.blk 1, block_lt h0.1.blk, ?_⟩
      obtain ⟨_, _, _, _, g2, cp, _, hvv, hgl, _⟩ := h0.1.get (i := L.length) (by simp)
      have e1 := congrArg Value.ownBlock hvv
      cases e1
      exact hgl
    have KF : Hid (∀ V, Hid (SD false V) → V.cell? ⟨g', L.length * 4 + 3, none⟩ = some (.int .u32 0) ∧ V.frozen? ⟨g', L.length * 4 + 3, none⟩ = false ∧ Hid (SD true (V.setCell ⟨g', L.length * 4 + 3, none⟩ (.int .u32 ((withB 0 nd : Nat) : Int))))) := fun V hV => by
      have h0 := hV.out
      rw [hSD] at h0
      simp only [Bool.false_eq_true, if_false] at h0
      obtain ⟨a, u, d, f, g2, cp, hx', hvv, hgl, _, _, _, y3⟩ := h0.1.get (i := L.length) (by simp)
      have e1 := congrArg Value.ownBlock hvv
      cases e1
      rw [kr_get_snoc] at hx'
      cases hx'
      refine ⟨y3, h0.1.free _, ?_⟩
      show SD true _
      rw [hSD]
      have h1 := h0.1.set (kr_get_snoc L _) (withB 0 nd)
      rw [kr_set_snoc] at h1
      exact ⟨h1, grown_trans h0.2 (grown_set _ _ _ _)⟩
    have KT : Hid (∀ V, Hid (SD true V) → V.cell? ⟨g', L.length * 4 + 3, none⟩ = some (.int .u32 ((withB 0 nd : Nat) : Int)) ∧ ∃ v', RT V pr h B c v' (L ++ [⟨n, num, node, withB 0 nd⟩]) ∧ RFr w V pr (.slice ao L.length cap) ∧ ∀ j, v'.ownBlock = some j → w.heap.size ≤ j ∨ (Value.slice ao L.length cap).ownBlock = some j) := fun V hV => by
      have h0 := hV.out
      rw [hSD] at h0
      simp only [if_true] at h0
      obtain ⟨a, u, d, f, g2, cp, hx', hvv, hgl, _, _, _, y3⟩ := h0.1.get (i := L.length) (by simp)
      have e1 := congrArg Value.ownBlock hvv
      cases e1
      rw [kr_get_snoc] at hx'
      cases hx'
      obtain ⟨n1, n2, n3⟩ := NX.out
      refine ⟨y3, _, h0.1, ⟨h0.2.os.trans n2.os, h0.2.tape.trans n2.tape, h0.2.output.trans n2.output, Nat.le_trans n2.size h0.2.size, fun j hj h1 h2 => ?_⟩, n3⟩
      refine (h0.2.block j (Nat.lt_of_lt_of_le hj n2.size) (fun e => ?_)).trans (n2.block j hj h1 h2)
      rcases n3 j e.symm with h3 | h3
      · omega
      · exact h2 h3
    have S0 : Hid (SD false W8.drew) := by
      show SD false _
      rw [hSD]
      simp only [Bool.false_eq_true, if_false]
      have hb : Below W8.heap.size W8 W8.drew := (Below.refl _ _).drew
      exact ⟨NX.out.1.kept hb, below_grownS hb _⟩
    clear hSD
    generalize hcn : ((countB (withB 0 nd) : Nat) : Int) = cn at *
    have HCN := hide hcn
    clear hcn
    generalize ((withB 0 nd : Nat) : Int) = x1 at *
    go_upto_region 9 with fail
    clear q1
    obtain ⟨N1, hN1⟩ : ∃ N1, L.length + 1 = N1 := ⟨_, rfl⟩
    have hlt2 : L.length < N1 := by omega
    simp only [hN1] at KD ⊢
    clear hN1
    refine region_assignP (fun d V => Hid (SD d V)) 17 [14, 12] [(48, .pointer (some ⟨pr, 0, none⟩)), (49, .pointer (some ⟨pr, 0, none⟩)), (50, .pointer (some ⟨pr, 1, none⟩)), (51, .slice (some ⟨g', 0, none⟩) N1 cap'), (52, .int .i64 (L.length : Nat)), (53, .pointer (some ⟨pr, 0, none⟩)), (54, .pointer (some ⟨pr, 0, none⟩)), (55, .pointer (some ⟨pr, 1, none⟩)), (56, .slice (some ⟨g', 0, none⟩) N1 cap'), (57, .int .i64 (L.length : Nat)), (58, .pointer (some ⟨g', L.length * 4, none⟩)), (59, .pointer (some ⟨g', L.length * 4 + 3, none⟩)), (60, .int .u32 0), (61, .int .i64 nd), (62, .int .u32 x1), (63, .pointer (some ⟨g', L.length * 4, none⟩)), (64, .pointer (some ⟨g', L.length * 4 + 3, none⟩))] _ (by kernel_rfl) (by decide) (by kernel_rfl) (by kernel_rfl) (by kernel_rfl) (by kernel_rfl) rfl S0 ?_ (fun V2 HV2 => ?_)
    · simp only [putAll, Act.put, List.setIfInBounds_toArray, List.set_cons_zero, List.set_cons_succ]
      repeat' (first | exact AllPre.nil | refine AllPre.at_ rfl ?_ ?_ | refine AllPre.pre (by decide) (by decide) ?_ ?_ | refine AllPre.off (by decide) (by decide) ?_ ?_)
      all_goals first
        | (intro d
           refine stepTo_yes (by rfl) (fun V hV K hK => ?_)
           have q0 := KD.out d V hV
           go_simp
           exact hK.out _ hV)
        | (refine stepTo_yes (by rfl) (fun V hV K hK => ?_)
           have q0 := KD.out false V hV
           have q1 := KF.out V hV
           obtain ⟨q1, q2, q3⟩ := q1
           clear q3
           go_simp
           first
             | exact hK.out _ hV
             | (go_at_call 21; refine (KW.out V).mono ?_; rintro e V' ⟨rfl, rfl⟩; exact hK.out _ hV))
        | (refine ⟨by rfl, fun V hV K hK => ?_⟩
           have q0 := KD.out false V hV
           obtain ⟨q1, q2, q3⟩ := KF.out V hV
           have H3 := hide q3
           clear q3
           go_simp
           exact hK.out _ H3.out)
    simp only [putAll, Act.put, List.setIfInBounds_toArray, List.set_cons_zero, List.set_cons_succ]
    have r0 := KD.out true _ HV2
    obtain ⟨r1, r2⟩ := KT.out _ HV2
    have R3 := hide r2
    clear r2
    go_wp2_with fail
    refine (KCt.out _).mono ?_
    rintro e w6 ⟨rfl, rfl⟩
    go_wp2
    go_ret2
    exact ⟨by rw [HCN.out]; rfl, R3.out⟩
end Go.Proofs.Ythfiafjhnidlkaa
