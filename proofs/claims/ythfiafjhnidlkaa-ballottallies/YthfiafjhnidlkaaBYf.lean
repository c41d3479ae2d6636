import Derived.Test.YthfiafjhnidlkaaM46
namespace Go.Proofs.Ythfiafjhnidlkaa
open Go.RowKit

/-- A tally of the program and one of the reference that are alike. -/
structure P1 (w : World) (pt b pr h B : Nat) (c : Cf) (n : Nat) (m : Nat → Nat) (p : Nat → Bool) (v : Value) (L : List Kr) : Prop where
  ty : TY w pt b c n m p
  rt : RT w pr h B c v L
  mt : Mat KR.one n m p L
/-- What a step may turn. -/
def tch (b pr : Nat) (v : Value) : Nat → Prop := fun j => j = b ∨ j = pr ∨ v.ownBlock = some j
def Nx1 (w w' : World) (pt b pr h B : Nat) (c : Cf) (v : Value) : Prop := ∃ n' m' p' v' L', P1 w' pt b pr h B c n' m' p' v' L' ∧ Fr w w' (tch b pr v) ∧ ∀ j, v'.ownBlock = some j → w.heap.size ≤ j ∨ v.ownBlock = some j
section
variable {w W1 w2 w3 : World} {pt b pr h B : Nat} {c : Cf} {n : Nat} {m : Nat → Nat} {p : Nat → Bool} {v : Value} {L : List Kr}
theorem P1.kept (P : P1 w pt b pr h B c n m p v L) (b1 : Below w.heap.size w W1) : P1 W1 pt b pr h B c n m p v L := ⟨P.ty.kept b1, P.rt.kept b1, P.mt⟩
theorem P1.still (P : P1 w pt b pr h B c n m p v L) (b1 : Below w.heap.size w W1) : Nx1 w W1 pt b pr h B c v := ⟨n, m, p, v, L, P.kept b1, Fr.below b1 _, fun _ h => .inr h⟩
theorem P1.mid (P : P1 w pt b pr h B c n m p v L) (b1 : Below w.heap.size w W1) (g2 : W1.grownBy w2 (some b)) : RT w2 pr h B c v L := by
  have r1 := P.rt.kept b1
  obtain ⟨es, clock, hb⟩ := (P.ty.kept b1).tm.map
  obtain ⟨h1, h2, h3⟩ := r1.not_map hb
  exact r1.fr (Fr.grown g2 (T := fun j => j = b) rfl) h1 h2 (fun j hj e => h3 (by rw [← e]; exact hj))
theorem P1.next (P : P1 w pt b pr h B c n m p v L) (b1 : Below w.heap.size w W1) {n' : Nat} {m' : Nat → Nat} {p' : Nat → Bool} (t2 : TY w2 pt b c n' m' p') (g2 : W1.grownBy w2 (some b)) (r3 : RNx w2 w3 pr h B c v KR.one n' m' p') : Nx1 w w3 pt b pr h B c v := by
  have r2 := P.mid b1 g2
  obtain ⟨es, clock, hb⟩ := t2.tm.map
  obtain ⟨h1, h2, h3⟩ := r2.not_map hb
  obtain ⟨v', L', r, hm, fr, own⟩ := r3
  have hpt : pt ≠ pr := fun e => by
    have := t2.blk
    rw [e, r2.blk] at this
    cases this
  have hpv : v.ownBlock ≠ some pt := fun e => by
    rcases r2.row.2 with ⟨h0, _⟩ | ⟨g, cap, cur, h0, _, hg, _⟩
    · rw [h0] at e; cases e
    · rw [h0] at e
      cases e
      rw [t2.blk] at hg
      cases hg
  have f3 : Fr w2 w3 (fun j => j = pr ∨ v.ownBlock = some j) := Fr.rfr fr (.inl rfl) (fun j e => .inr e)
  have t3 := t2.fr f3 (fun e => e.elim hpt hpv) (fun e => e.elim (fun e => h1 e.symm) h3)
  have f12 : Fr w w2 (tch b pr v) := (Fr.below b1 _).trans (Fr.grown g2 (T := tch b pr v) (.inl rfl)) (fun _ _ h => h)
  refine ⟨n', m', p', v', L', ⟨t3, r, hm⟩, f12.trans f3 (fun j _ e => .inr e), fun j hj => ?_⟩
  rcases own j hj with e | e
  · exact .inl (Nat.le_trans f12.size e)
  · exact .inr e
end
set_option maxRecDepth 10000 in
set_option maxHeartbeats 3200000 in
theorem first_ok {w : World} {pt b pr h B : Nat} {c : Cf} {n : Nat} {m : Nat → Nat} {p : Nat → Bool} {v : Value} {L : List Kr} (P : P1 w pt b pr h B c n m p v L) (hB : B ≤ w.heap.size) (x : Wd) (hx : x.In) :
    Calls Try.prog 36 #[.pointer (some ⟨pt, 0, none⟩), .pointer (some ⟨pr, 0, none⟩), .agg x.cells] w fun e w' => e = .returned (.bool true) ∧ Hid (Nx1 w w' pt b pr h B c v) := by
  have hk : x.n < 18446744073709551616 := hx.n
  obtain ⟨W1, hW1⟩ : ∃ W1, w.alloc (.cells x.cells 38) = W1 := ⟨_, rfl⟩
  have b1 : Below w.heap.size w W1 := by rw [← hW1]; exact (Below.refl _ w).alloc (Nat.le_refl _) _
  have C1 : Hid (W1.heap[w.heap.size]? = some (.cells x.cells 38 (0, 0))) := by rw [← hW1]; exact alloc_atK _ _
  have HW1 := hide hW1
  have B1 := hide b1
  have PP := hide P
  have PW := hide (P.kept b1)
  have HB := hide (Nat.le_trans hB b1.size)
  have HBW := hide (P.ty.tm.lt)
  have hL : L.length ≤ 64 := by have := P.mt.len; have := P.mt.le; omega
  have KX : Hid (∀ V : World, V.heap[w.heap.size]? = some (.cells x.cells 38 (0, 0)) → V.cell? ⟨w.heap.size, 0, none⟩ = some (.int .i64 x.k) ∧ V.cell? ⟨w.heap.size, 1, none⟩ = some (.int .u64 (x.n : Nat)) ∧ V.cell? ⟨w.heap.size, 2, none⟩ = some (.int .u64 (x.bn : Nat)) ∧ V.cell? ⟨w.heap.size, 3, none⟩ = some (.int .i64 x.bm) ∧ V.cell? ⟨w.heap.size, 4, none⟩ = some (.int .i64 x.nd) ∧ w.heap.size < V.heap.size) := fun V hV => ⟨block_cell hV 0, block_cell hV 1, block_cell hV 2, block_cell hV 3, block_cell hV 4, block_lt hV⟩
  have KC : Hid (∀ V, Hid (Below W1.heap.size W1 V) → V.heap[w.heap.size]? = some (.cells x.cells 38 (0, 0))) := fun V hV => (hV.out.block _ (block_lt C1.out)).trans C1.out
  have KB : Hid (∀ V V', Hid (Below W1.heap.size W1 V) → Below V.heap.size V V' → Hid (Below W1.heap.size W1 V')) := fun V V' h h' => h.out.trans (h'.mono h.out.size)
  have HD : Hid (Below W1.heap.size W1 W1.drew) := (Below.refl _ W1).drew
  have HSP := hide (tspeak_all PW.out.ty P.rt.ok x.n hk x.nd P.mt.le)
  have HDR := hide (tdrop PW.out.ty x.n hk)
  have HND : Hid (∀ V, Hid (Below W1.heap.size W1 V) → Calls Try.prog 16 #[.pointer (some ⟨pt, 0, none⟩), .int .u64 (x.n : Nat)] V fun e V' => e = .returned (.int .u32 ((m x.n : Nat) : Int)) ∧ Hid (Below W1.heap.size W1 V')) := fun V hV => by
    refine (tnodes (PW.out.kept hV.out).ty x.n hk).mono ?_
    rintro e V' ⟨rfl, h2⟩
    exact ⟨rfl, by rw [h2]; exact hV⟩
  have HRC : Hid (∀ V, Hid (Below W1.heap.size W1 V) → Calls Try.prog 14 #[.pointer (some ⟨pt, 0, none⟩), .int .u64 (x.n : Nat)] V fun e V' => e = .returned (.bool (c.maj (m x.n))) ∧ Hid (Below W1.heap.size W1 V')) := fun V hV => by
    refine (treached (PW.out.kept hV.out).ty P.rt.ok x.n hk).mono ?_
    rintro e V' ⟨rfl, h2⟩
    exact ⟨rfl, KB.out _ _ hV h2⟩
  have RND : Hid (∀ V, Hid (Below W1.heap.size W1 V) → Calls Try.prog 38 #[.pointer (some ⟨pr, 0, none⟩), .int .u64 (x.n : Nat), .agg #[.int .u64 0, .int .i64 0]] V fun e V' => e = .returned (.int .u32 ((m x.n : Nat) : Int)) ∧ Hid (Below W1.heap.size W1 V')) := fun V hV => by
    have h1 := rnodes (PW.out.kept hV.out).rt hL P.mt.apart (KR.one.n x.n) (KR.one.num x.n) (KR.one.node x.n)
    rw [P.mt.fr x.n] at h1
    refine h1.mono ?_
    rintro e V' ⟨rfl, h2⟩
    exact ⟨rfl, KB.out _ _ hV h2⟩
  have RRC : Hid (∀ V, Hid (Below W1.heap.size W1 V) → Calls Try.prog 62 #[.pointer (some ⟨pr, 0, none⟩), .int .u64 (x.n : Nat), .agg #[.int .u64 0, .int .i64 0]] V fun e V' => e = .returned (.bool (c.maj (m x.n))) ∧ Hid (Below W1.heap.size W1 V')) := fun V hV => by
    have h1 := rreached (PW.out.kept hV.out).rt hL P.mt.apart (KR.one.n x.n) (KR.one.num x.n) (KR.one.node x.n) (by rw [P.mt.fr x.n]; exact P.mt.sm _)
    rw [P.mt.fr x.n] at h1
    refine h1.mono ?_
    rintro e V' ⟨rfl, h2⟩
    exact ⟨rfl, KB.out _ _ hV h2⟩
  have HLN := hide (tlen PW.out.ty)
  have RLN := hide (rlen PW.out.rt)
  have HML := hide P.mt.len
  have FIN : Hid (∀ V, Hid (Below W1.heap.size W1 V) → Nx1 w V pt b pr h B c v) := fun V hV => PP.out.still (B1.out.trans (hV.out.mono B1.out.size))
  obtain ⟨x0, x1, x2, x3, x4, hbx⟩ := KX.out _ C1.out
  have H1 : Hid (Below W1.heap.size W1 W1) := Below.refl _ _
  clear P hB hx hW1 b1 hk hL
  go_enter Try.func36, Try.ntmps36
  go_upto_region 1 with fail
  rw [HW1.out]
  clear HW1
  by_cases k0 : x.k = 0
  · rw [k0] at x0
    go_wp2_with fail
    refine HSP.out.mono ?_
    rintro e w2 ⟨a, f, rfl, G⟩
    obtain ⟨n', m', p', t2, g2, sp⟩ := G.out
    have T2 := hide t2
    have G2 := hide g2
    have R2 := hide (rspeak_all (PP.out.mid B1.out g2) (Nat.le_trans HB.out g2.size) PP.out.mt sp)
    obtain ⟨y0, y1, y2, y3, y4, hby⟩ := KX.out w2 ((g2.block _ hbx (by have := HBW.out; simp; omega)).trans C1.out)
    clear t2 g2 sp G x0 x1 x2 x3 x4 hbx y0
    go_wp2_with fail
    refine R2.out.mono ?_
    rintro e w3 ⟨rfl, r3⟩
    have N3 := hide (PP.out.next B1.out T2.out G2.out r3.out)
    clear r3 y1 y2 y3 y4 hby
    go_wp2
    go_ret
    exact ⟨rfl, N3.out⟩
  · by_cases k2 : x.k = 2
    · rw [k2] at x0
      go_wp2_with fail
      refine HDR.out.mono ?_
      rintro e w2 ⟨rfl, t2, g2⟩
      have T2 := hide t2
      have G2 := hide g2
      have R2 := hide (rdrop_all (PP.out.mid B1.out g2) (Nat.le_trans HB.out g2.size) PP.out.mt x.n)
      obtain ⟨y0, y1, y2, y3, y4, hby⟩ := KX.out w2 ((g2.block _ hbx (by have := HBW.out; simp; omega)).trans C1.out)
      clear t2 g2 x0 x1 x2 x3 x4 hbx y0
      go_wp2_with fail
      refine R2.out.mono ?_
      rintro e w3 ⟨⟨u, rfl⟩, r3⟩
      have N3 := hide (PP.out.next B1.out T2.out G2.out r3.out)
      clear r3 y1 y2 y3 y4 hby
      go_wp2
      go_ret
      exact ⟨rfl, N3.out⟩
    · by_cases k4 : x.k = 4
      · rw [k4] at x0
        generalize ((m x.n : Nat) : Int) = mk at *
        go_upto_region 10 with fail
        refine region_assign (fun V => Hid (Below W1.heap.size W1 V)) [(55, .pointer (some ⟨pt, 0, none⟩)), (56, .pointer (some ⟨w.heap.size, 1, none⟩)), (57, .int .u64 (x.n : Nat)), (58, .int .u32 mk), (59, .pointer (some ⟨pr, 0, none⟩)), (60, .pointer (some ⟨w.heap.size, 1, none⟩)), (61, .int .u64 (x.n : Nat)), (62, .agg #[.int .u64 0, .int .i64 0]), (63, .int .u32 mk), (64, .bool true), (6, .bool true)] _ (by kernel_rfl) (by kernel_rfl) (by kernel_rfl) (by kernel_rfl) rfl HD ?_ (fun V1 HV1 => ?_)
        · simp only [putAll, Act.put, List.setIfInBounds_toArray, List.set_cons_zero, List.set_cons_succ]
          repeat' (first | exact AllTo.nil | refine AllTo.cons ?_ ?_)
          all_goals first
            | exact stepTo_no (by rfl) rfl
            | (refine stepTo_yes (by rfl) (fun V hV K hK => ?_)
               have q0 := KX.out _ (KC.out V hV)
               go_simp
               first
                 | exact hK.out _ hV
                 | (go_at_call 16; refine (HND.out V hV).mono ?_; rintro e V' ⟨rfl, hV'⟩; exact hK.out _ hV')
                 | (go_at_call 38; refine (RND.out V hV).mono ?_; rintro e V' ⟨rfl, hV'⟩; exact hK.out _ hV'))
        simp only [putAll, Act.put, List.setIfInBounds_toArray, List.set_cons_zero, List.set_cons_succ]
        go_wp2
        go_ret
        exact ⟨rfl, FIN.out _ HV1⟩
      · by_cases k6 : x.k = 6
        · rw [k6] at x0
          generalize c.maj (m x.n) = mk at *
          go_upto_region 12 with fail
          refine region_assign (fun V => Hid (Below W1.heap.size W1 V)) [(67, .pointer (some ⟨pt, 0, none⟩)), (68, .pointer (some ⟨w.heap.size, 1, none⟩)), (69, .int .u64 (x.n : Nat)), (70, .bool mk), (71, .pointer (some ⟨pr, 0, none⟩)), (72, .pointer (some ⟨w.heap.size, 1, none⟩)), (73, .int .u64 (x.n : Nat)), (74, .agg #[.int .u64 0, .int .i64 0]), (75, .bool mk), (76, .bool true), (6, .bool true)] _ (by kernel_rfl) (by kernel_rfl) (by kernel_rfl) (by kernel_rfl) rfl HD ?_ (fun V1 HV1 => ?_)
          · simp only [putAll, Act.put, List.setIfInBounds_toArray, List.set_cons_zero, List.set_cons_succ]
            repeat' (first | exact AllTo.nil | refine AllTo.cons ?_ ?_)
            all_goals first
              | exact stepTo_no (by rfl) rfl
              | (refine stepTo_yes (by rfl) (fun V hV K hK => ?_)
                 have q0 := KX.out _ (KC.out V hV)
                 go_simp
                 first
                   | exact hK.out _ hV
                   | (go_at_call 14; refine (HRC.out V hV).mono ?_; rintro e V' ⟨rfl, hV'⟩; exact hK.out _ hV')
                   | (go_at_call 62; refine (RRC.out V hV).mono ?_; rintro e V' ⟨rfl, hV'⟩; exact hK.out _ hV'))
          simp only [putAll, Act.put, List.setIfInBounds_toArray, List.set_cons_zero, List.set_cons_succ]
          go_wp2
          go_ret
          exact ⟨rfl, FIN.out _ HV1⟩
        · by_cases k8 : x.k = 8
          · rw [k8] at x0
            rw [HML.out] at RLN
            go_wp2_with fail
            refine HLN.out.mono ?_
            rintro e w2 ⟨rfl, rfl⟩
            go_wp2_with fail
            refine RLN.out.mono ?_
            rintro e w3 ⟨rfl, rfl⟩
            go_wp2
            go_ret
            exact ⟨rfl, FIN.out _ H1⟩
          · go_wp2
            go_ret
            exact ⟨rfl, FIN.out _ H1⟩
end Go.Proofs.Ythfiafjhnidlkaa
