import Derived.Test.YthfiafjhnidlkaaBYf
import Derived.Test.YthfiafjhnidlkaaM46
namespace Go.Proofs.Ythfiafjhnidlkaa
open Go.RowKit

/-- A tally of the program and one of the reference that are alike. -/
structure P2 (w : World) (pt b pr h B : Nat) (c : Cf) (n : Nat) (m : Nat × Int → Nat) (p : Nat × Int → Bool) (v : Value) (L : List Kr) : Prop where
  ty : TZ w pt b c n m p
  rt : RT w pr h B c v L
  mt : Mat KR.two n m p L
def Nx2 (w w' : World) (pt b pr h B : Nat) (c : Cf) (v : Value) : Prop := ∃ n' m' p' v' L', P2 w' pt b pr h B c n' m' p' v' L' ∧ Fr w w' (tch b pr v) ∧ ∀ j, v'.ownBlock = some j → w.heap.size ≤ j ∨ v.ownBlock = some j
section
variable {w W1 w2 w3 : World} {pt b pr h B : Nat} {c : Cf} {n : Nat} {m : Nat × Int → Nat} {p : Nat × Int → Bool} {v : Value} {L : List Kr}
theorem P2.kept (P : P2 w pt b pr h B c n m p v L) (b1 : Below w.heap.size w W1) : P2 W1 pt b pr h B c n m p v L := ⟨P.ty.kept b1, P.rt.kept b1, P.mt⟩
theorem P2.still (P : P2 w pt b pr h B c n m p v L) (b1 : Below w.heap.size w W1) : Nx2 w W1 pt b pr h B c v := ⟨n, m, p, v, L, P.kept b1, Fr.below b1 _, fun _ h => .inr h⟩
theorem P2.mid (P : P2 w pt b pr h B c n m p v L) (b1 : Below w.heap.size w W1) (g2 : W1.grownBy w2 (some b)) : RT w2 pr h B c v L := by
  have r1 := P.rt.kept b1
  obtain ⟨es, clock, hb⟩ := (P.ty.kept b1).tm.map
  obtain ⟨h1, h2, h3⟩ := r1.not_map hb
  exact r1.fr (Fr.grown g2 (T := fun j => j = b) rfl) h1 h2 (fun j hj e => h3 (by rw [← e]; exact hj))
theorem P2.next (P : P2 w pt b pr h B c n m p v L) (b1 : Below w.heap.size w W1) {n' : Nat} {m' : Nat × Int → Nat} {p' : Nat × Int → Bool} (t2 : TZ w2 pt b c n' m' p') (g2 : W1.grownBy w2 (some b)) (r3 : RNx w2 w3 pr h B c v KR.two n' m' p') : Nx2 w w3 pt b pr h B c v := by
  have r2 := P.mid b1 g2
  obtain ⟨es, clock, hb⟩ := t2.tm.map
  obtain ⟨h1, h2, h3⟩ := r2.not_map hb
  obtain ⟨v', L', r, hm, fr, own⟩ := r3
  have hpt : pt ≠ pr := fun e => by
    have := t2.blk
    rw [e, r2.blk] at this
    cases this
  have hpv : v.ownBlock ≠ some pt := fun e => by
    rcases r2.row.2 with ⟨h0, _⟩ | ⟨g, cap, cur, h0, _, hg, _⟩
    · rw [h0] at e; cases e
    · rw [h0] at e
      cases e
      rw [t2.blk] at hg
      cases hg
  have f3 : Fr w2 w3 (fun j => j = pr ∨ v.ownBlock = some j) := Fr.rfr fr (.inl rfl) (fun j e => .inr e)
  have t3 := t2.fr f3 (fun e => e.elim hpt hpv) (fun e => e.elim (fun e => h1 e.symm) h3)
  have f12 : Fr w w2 (tch b pr v) := (Fr.below b1 _).trans (Fr.grown g2 (T := tch b pr v) (.inl rfl)) (fun _ _ h => h)
  refine ⟨n', m', p', v', L', ⟨t3, r, hm⟩, f12.trans f3 (fun j _ e => .inr e), fun j hj => ?_⟩
  rcases own j hj with e | e
  · exact .inl (Nat.le_trans f12.size e)
  · exact .inr e
end
set_option maxRecDepth 10000 in
set_option maxHeartbeats 3200000 in
theorem second_ok {w : World} {pt b pr h B : Nat} {c : Cf} {n : Nat} {m : Nat × Int → Nat} {p : Nat × Int → Bool} {v : Value} {L : List Kr} (P : P2 w pt b pr h B c n m p v L) (hB : B ≤ w.heap.size) (x : Wd) (hx : x.In) :
    Calls Try.prog 37 #[.pointer (some ⟨pt, 0, none⟩), .pointer (some ⟨pr, 0, none⟩), .agg x.cells] w fun e w' => e = .returned (.bool true) ∧ Hid (Nx2 w w' pt b pr h B c v) := by
  have hk : balOk (x.bn, x.bm) := ⟨hx.bn, hx.b1, hx.b2⟩
  obtain ⟨W1, hW1⟩ : ∃ W1, w.alloc (.cells x.cells 38) = W1 := ⟨_, rfl⟩
  have b1 : Below w.heap.size w W1 := by rw [← hW1]; exact (Below.refl _ w).alloc (Nat.le_refl _) _
  have C1 : Hid (W1.heap[w.heap.size]? = some (.cells x.cells 38 (0, 0))) := by rw [← hW1]; exact alloc_atK _ _
  have HW1 := hide hW1
  have B1 := hide b1
  have PP := hide P
  have PW := hide (P.kept b1)
  have HB := hide (Nat.le_trans hB b1.size)
  have HBW := hide (P.ty.tm.lt)
  have hL : L.length ≤ 64 := by have := P.mt.len; have := P.mt.le; omega
  have KX : Hid (∀ V : World, V.heap[w.heap.size]? = some (.cells x.cells 38 (0, 0)) → V.cell? ⟨w.heap.size, 0, none⟩ = some (.int .i64 x.k) ∧ V.cell? ⟨w.heap.size, 1, none⟩ = some (.int .u64 (x.n : Nat)) ∧ V.cell? ⟨w.heap.size, 2, none⟩ = some (.int .u64 (x.bn : Nat)) ∧ V.cell? ⟨w.heap.size, 3, none⟩ = some (.int .i64 x.bm) ∧ V.cell? ⟨w.heap.size, 4, none⟩ = some (.int .i64 x.nd) ∧ w.heap.size < V.heap.size) := fun V hV => ⟨block_cell hV 0, block_cell hV 1, block_cell hV 2, block_cell hV 3, block_cell hV 4, block_lt hV⟩
  have KC : Hid (∀ V, Hid (Below W1.heap.size W1 V) → V.heap[w.heap.size]? = some (.cells x.cells 38 (0, 0))) := fun V hV => (hV.out.block _ (block_lt C1.out)).trans C1.out
  have KB : Hid (∀ V V', Hid (Below W1.heap.size W1 V) → Below V.heap.size V V' → Hid (Below W1.heap.size W1 V')) := fun V V' h h' => h.out.trans (h'.mono h.out.size)
  have HD : Hid (Below W1.heap.size W1 W1.drew) := (Below.refl _ W1).drew
  have HSP := hide (zspeak_all PW.out.ty P.rt.ok (x.bn, x.bm) hk x.nd P.mt.le)
  have HDR := hide (zdrop PW.out.ty (x.bn, x.bm) hk)
  have HND : Hid (∀ V, Hid (Below W1.heap.size W1 V) → Calls Try.prog 39 #[.pointer (some ⟨pt, 0, none⟩), .agg #[.int .u64 (x.bn : Nat), .int .i64 x.bm]] V fun e V' => e = .returned (.int .u32 ((m (x.bn, x.bm) : Nat) : Int)) ∧ Hid (Below W1.heap.size W1 V')) := fun V hV => by
    refine (znodes (PW.out.kept hV.out).ty (x.bn, x.bm) hk).mono ?_
    rintro e V' ⟨rfl, h2⟩
    exact ⟨rfl, KB.out _ _ hV h2⟩
  have HRC : Hid (∀ V, Hid (Below W1.heap.size W1 V) → Calls Try.prog 65 #[.pointer (some ⟨pt, 0, none⟩), .agg #[.int .u64 (x.bn : Nat), .int .i64 x.bm]] V fun e V' => e = .returned (.bool (c.maj (m (x.bn, x.bm)))) ∧ Hid (Below W1.heap.size W1 V')) := fun V hV => by
    refine (zreached (PW.out.kept hV.out).ty P.rt.ok (x.bn, x.bm) hk).mono ?_
    rintro e V' ⟨rfl, h2⟩
    exact ⟨rfl, KB.out _ _ hV h2⟩
  have RND : Hid (∀ V, Hid (Below W1.heap.size W1 V) → Calls Try.prog 38 #[.pointer (some ⟨pr, 0, none⟩), .int .u64 0, .agg #[.int .u64 (x.bn : Nat), .int .i64 x.bm]] V fun e V' => e = .returned (.int .u32 ((m (x.bn, x.bm) : Nat) : Int)) ∧ Hid (Below W1.heap.size W1 V')) := fun V hV => by
    have h1 := rnodes (PW.out.kept hV.out).rt hL P.mt.apart (KR.two.n (x.bn, x.bm)) (KR.two.num (x.bn, x.bm)) (KR.two.node (x.bn, x.bm))
    rw [P.mt.fr (x.bn, x.bm)] at h1
    refine h1.mono ?_
    rintro e V' ⟨rfl, h2⟩
    exact ⟨rfl, KB.out _ _ hV h2⟩
  have RRC : Hid (∀ V, Hid (Below W1.heap.size W1 V) → Calls Try.prog 62 #[.pointer (some ⟨pr, 0, none⟩), .int .u64 0, .agg #[.int .u64 (x.bn : Nat), .int .i64 x.bm]] V fun e V' => e = .returned (.bool (c.maj (m (x.bn, x.bm)))) ∧ Hid (Below W1.heap.size W1 V')) := fun V hV => by
    have h1 := rreached (PW.out.kept hV.out).rt hL P.mt.apart (KR.two.n (x.bn, x.bm)) (KR.two.num (x.bn, x.bm)) (KR.two.node (x.bn, x.bm)) (by rw [P.mt.fr (x.bn, x.bm)]; exact P.mt.sm _)
    rw [P.mt.fr (x.bn, x.bm)] at h1
    refine h1.mono ?_
    rintro e V' ⟨rfl, h2⟩
    exact ⟨rfl, KB.out _ _ hV h2⟩
  have HLN := hide (zlen PW.out.ty)
  have RLN := hide (rlen PW.out.rt)
  have HML := hide P.mt.len
  have FIN : Hid (∀ V, Hid (Below W1.heap.size W1 V) → Nx2 w V pt b pr h B c v) := fun V hV => PP.out.still (B1.out.trans (hV.out.mono B1.out.size))
  obtain ⟨x0, x1, x2, x3, x4, hbx⟩ := KX.out _ C1.out
  have H1 : Hid (Below W1.heap.size W1 W1) := Below.refl _ _
  clear P hB hx hW1 b1 hk hL
  go_enter Try.func37, Try.ntmps37
  go_upto_region 1 with fail
  rw [HW1.out]
  clear HW1
  by_cases k0 : x.k = 1
  · rw [k0] at x0
    go_wp2_with fail
    refine HSP.out.mono ?_
    rintro e w2 ⟨a, f, rfl, G⟩
    obtain ⟨n', m', p', t2, g2, sp⟩ := G.out
    have T2 := hide t2
    have G2 := hide g2
    have R2 := hide (rspeak_all (PP.out.mid B1.out g2) (Nat.le_trans HB.out g2.size) PP.out.mt sp)
    obtain ⟨y0, y1, y2, y3, y4, hby⟩ := KX.out w2 ((g2.block _ hbx (by have := HBW.out; simp; omega)).trans C1.out)
    clear t2 g2 sp G x0 x1 x2 x3 x4 hbx y0
    go_wp2_with fail
    refine R2.out.mono ?_
    rintro e w3 ⟨rfl, r3⟩
    have N3 := hide (PP.out.next B1.out T2.out G2.out r3.out)
    clear r3 y1 y2 y3 y4 hby
    go_wp2
    go_ret
    exact ⟨rfl, N3.out⟩
  · by_cases k2 : x.k = 3
    · rw [k2] at x0
      go_wp2_with fail
      refine HDR.out.mono ?_
      rintro e w2 ⟨⟨u0, rfl⟩, t2, g2⟩
      have T2 := hide t2
      have G2 := hide g2
      have R2 := hide (rdrop_all (PP.out.mid B1.out g2) (Nat.le_trans HB.out g2.size) PP.out.mt (x.bn, x.bm))
      obtain ⟨y0, y1, y2, y3, y4, hby⟩ := KX.out w2 ((g2.block _ hbx (by have := HBW.out; simp; omega)).trans C1.out)
      clear t2 g2 x0 x1 x2 x3 x4 hbx y0
      go_wp2_with fail
      refine R2.out.mono ?_
      rintro e w3 ⟨⟨u, rfl⟩, r3⟩
      have N3 := hide (PP.out.next B1.out T2.out G2.out r3.out)
      clear r3 y1 y2 y3 y4 hby
      go_wp2
      go_ret
      exact ⟨rfl, N3.out⟩
    · by_cases k4 : x.k = 5
      · rw [k4] at x0
        generalize ((m (x.bn, x.bm) : Nat) : Int) = mk at *
        go_upto_region 10 with fail
        refine region_assign (fun V => Hid (Below W1.heap.size W1 V)) [(53, .pointer (some ⟨pt, 0, none⟩)), (54, .pointer (some ⟨w.heap.size, 2, none⟩)), (55, .agg #[.int .u64 (x.bn : Nat), .int .i64 x.bm]), (56, .int .u32 mk), (57, .pointer (some ⟨pr, 0, none⟩)), (58, .pointer (some ⟨w.heap.size, 2, none⟩)), (59, .agg #[.int .u64 (x.bn : Nat), .int .i64 x.bm]), (60, .int .u32 mk), (61, .bool true), (6, .bool true)] _ (by kernel_rfl) (by kernel_rfl) (by kernel_rfl) (by kernel_rfl) rfl HD ?_ (fun V1 HV1 => ?_)
        · simp only [putAll, Act.put, List.setIfInBounds_toArray, List.set_cons_zero, List.set_cons_succ]
          repeat' (first | exact AllTo.nil | refine AllTo.cons ?_ ?_)
          all_goals first
            | exact stepTo_no (by rfl) rfl
            | (refine stepTo_yes (by rfl) (fun V hV K hK => ?_)
               have q0 := KX.out _ (KC.out V hV)
               go_simp
               first
                 | exact hK.out _ hV
                 | (go_at_call 39; refine (HND.out V hV).mono ?_; rintro e V' ⟨rfl, hV'⟩; exact hK.out _ hV')
                 | (go_at_call 38; refine (RND.out V hV).mono ?_; rintro e V' ⟨rfl, hV'⟩; exact hK.out _ hV'))
        simp only [putAll, Act.put, List.setIfInBounds_toArray, List.set_cons_zero, List.set_cons_succ]
        go_wp2
        go_ret
        exact ⟨rfl, FIN.out _ HV1⟩
      · by_cases k6 : x.k = 7
        · rw [k6] at x0
          generalize c.maj (m (x.bn, x.bm)) = mk at *
          go_upto_region 12 with fail
          refine region_assign (fun V => Hid (Below W1.heap.size W1 V)) [(64, .pointer (some ⟨pt, 0, none⟩)), (65, .pointer (some ⟨w.heap.size, 2, none⟩)), (66, .agg #[.int .u64 (x.bn : Nat), .int .i64 x.bm]), (67, .bool mk), (68, .pointer (some ⟨pr, 0, none⟩)), (69, .pointer (some ⟨w.heap.size, 2, none⟩)), (70, .agg #[.int .u64 (x.bn : Nat), .int .i64 x.bm]), (71, .bool mk), (72, .bool true), (6, .bool true)] _ (by kernel_rfl) (by kernel_rfl) (by kernel_rfl) (by kernel_rfl) rfl HD ?_ (fun V1 HV1 => ?_)
          · simp only [putAll, Act.put, List.setIfInBounds_toArray, List.set_cons_zero, List.set_cons_succ]
            repeat' (first | exact AllTo.nil | refine AllTo.cons ?_ ?_)
            all_goals first
              | exact stepTo_no (by rfl) rfl
              | (refine stepTo_yes (by rfl) (fun V hV K hK => ?_)
                 have q0 := KX.out _ (KC.out V hV)
                 go_simp
                 first
                   | exact hK.out _ hV
                   | (go_at_call 65; refine (HRC.out V hV).mono ?_; rintro e V' ⟨rfl, hV'⟩; exact hK.out _ hV')
                   | (go_at_call 62; refine (RRC.out V hV).mono ?_; rintro e V' ⟨rfl, hV'⟩; exact hK.out _ hV'))
          simp only [putAll, Act.put, List.setIfInBounds_toArray, List.set_cons_zero, List.set_cons_succ]
          go_wp2
          go_ret
          exact ⟨rfl, FIN.out _ HV1⟩
        · by_cases k8 : x.k = 9
          · rw [k8] at x0
            rw [HML.out] at RLN
            go_wp2_with fail
            refine HLN.out.mono ?_
            rintro e w2 ⟨rfl, rfl⟩
            go_wp2_with fail
            refine RLN.out.mono ?_
            rintro e w3 ⟨rfl, rfl⟩
            go_wp2
            go_ret
            exact ⟨rfl, FIN.out _ H1⟩
          · go_wp2
            go_ret
            exact ⟨rfl, FIN.out _ H1⟩
end Go.Proofs.Ythfiafjhnidlkaa
