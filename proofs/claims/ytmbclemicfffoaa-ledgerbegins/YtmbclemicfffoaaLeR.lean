import Derived.Test.YtmbclemicfffoaaLeQ
namespace Go.Proofs.Ytmbclemicfffoaa
open Go.RowKit

def set4 (V : World) (g i : Nat) (u : Value) : World := (((V.setCell ⟨g, i, none⟩ u).setCell ⟨g, i + 1, none⟩ u).setCell ⟨g, i + 2, none⟩ u).setCell ⟨g, i + 3, none⟩ u
theorem set4_g (V : World) (g i : Nat) (u : Value) : V.grownBy (set4 V g i u) (some g) := grown_two (grown_two (grown_two (grown_set _ g i u) (grown_set _ g (i + 1) u)) (grown_set _ g (i + 2) u)) (grown_set _ g (i + 3) u)
theorem set4_at {V : World} {g i : Nat} {u : Value} {cs : Array Value} {t : TypeId} (h : V.heap[g]? = some (.cells cs t (0, 0))) : ∃ cs' : Array Value, (set4 V g i u).heap[g]? = some (.cells cs' t (0, 0)) ∧ cs'.size = cs.size := by
  have h1 := heap_setCell_same V g i _ _ u h
  have h2 := heap_setCell_same _ g (i + 1) _ _ u h1
  have h3 := heap_setCell_same _ g (i + 2) _ _ u h2
  have h4 := heap_setCell_same _ g (i + 3) _ _ u h3
  exact ⟨_, h4, by simp⟩
theorem LP.other {W W' : World} {p a b g : Nat} {l : List Ac} {s : Nat} (h : LP W p a b l s) (hg : W.grownBy W' (some g)) {cs : Array Value} (hc : W.heap[g]? = some (.cells cs 37 (0, 0))) : LP W' p a b l s := by
  obtain ⟨cs', h1, h2⟩ := h.blk
  obtain ⟨es, k, h3⟩ := h.acc.obj
  have n1 : some p ≠ some g := fun e => by cases e; rw [h1] at hc; exact absurd (obj_ty hc) (by decide)
  have n2 : some a ≠ some g := fun e => by cases e; rw [h3] at hc; cases hc
  have n3 : some b ≠ some g := fun e => by cases e; have := h.hol; rw [hc] at this; cases this
  exact ⟨⟨cs', (hg.block _ (block_lt h1) n1).trans h1, h2⟩, h.acc.kept hg n2, (hg.block _ (block_lt h.hol) n3).trans h.hol, h.ne⟩
theorem Bk.row_other {W W' : World} {p B g : Nat} {m : List Ac} {s : Nat} (h : Bk W p B m s) (hg : W.grownBy W' (some g)) {cs : Array Value} (hc : W.heap[g]? = some (.cells cs 37 (0, 0))) (hB : g < B) : Bk W' p B m s := by
  obtain ⟨ao, cap, h1, h2⟩ := h.v
  have n1 : some p ≠ some g := fun e => by cases e; rw [h1] at hc; exact absurd (obj_ty hc) (by decide)
  refine ⟨⟨ao, cap, (hg.block _ (block_lt h1) n1).trans h1, h2.kept hg (.inr (fun e => ?_))⟩⟩
  have := (h2.lt g e).1
  omega
/-- What begin gives. -/
def BegP (l : List Ac) (g : Nat) (v v' : Value) (W : World) : Prop := (v = .pointer none ∧ v' = .pointer none) ∨ (l.length ≤ 64 ∧ Good l l.length ∧ ∃ p a b q B, g < B ∧ v = .pointer (some ⟨p, 0, none⟩) ∧ v' = .pointer (some ⟨q, 0, none⟩) ∧ LP W p a b l (sumA l) ∧ Bk W q B (srt l) (sumA l))
theorem BegP.kept {l : List Ac} {g : Nat} {v v' : Value} {W W' : World} (h : BegP l g v v' W) (hb : Below W.heap.size W W') : BegP l g v v' W' := by
  rcases h with h | ⟨h1, h2, p, a, b, q, B, h3, h4, h5, h6, h7⟩
  · exact .inl h
  · exact .inr ⟨h1, h2, p, a, b, q, B, h3, h4, h5, h6.kept hb, h7.kept hb⟩
theorem BegP.other {l : List Ac} {g : Nat} {v v' : Value} {W W' : World} (h : BegP l g v v' W) (hg : W.grownBy W' (some g)) {cs : Array Value} (hc : W.heap[g]? = some (.cells cs 37 (0, 0))) : BegP l g v v' W' := by
  rcases h with h | ⟨h1, h2, p, a, b, q, B, h3, h4, h5, h6, h7⟩
  · exact .inl h
  · exact .inr ⟨h1, h2, p, a, b, q, B, h3, h4, h5, h6.other hg hc, h7.row_other hg hc h3⟩
/-- While the list that was lent is written over. -/
structure Bz (w : World) (l : List Ac) (n : Nat) (v v' : Value) (wr : World) : Prop where
  bel : Below w.heap.size w wr
  blk : ∃ cs : Array Value, wr.heap[w.heap.size]? = some (.cells cs 37 (0, 0)) ∧ cs.size = (n + 3) * 4
  beg : BegP l w.heap.size v v' wr
theorem Bz.next {w : World} {l : List Ac} {n : Nat} {v v' : Value} {wr : World} (h : Bz w l n v v' wr) (i : Nat) (u : Value) : Bz w l n v v' (set4 wr w.heap.size i u) := by
  obtain ⟨cs, h1, h2⟩ := h.blk
  have hg := set4_g wr w.heap.size i u
  obtain ⟨cs', h3, h4⟩ := set4_at (i := i) (u := u) h1
  exact ⟨h.bel.grown hg h.bel.size (fun j e => by cases e; exact Nat.le_refl _), ⟨cs', h3, by omega⟩, h.beg.other hg h1⟩
theorem Bz.cell {w : World} {l : List Ac} {n : Nat} {v v' : Value} {wr : World} (h : Bz w l n v v' wr) {i : Nat} (hi : i < (n + 3) * 4) : ∃ u, wr.cell? ⟨w.heap.size, i, none⟩ = some u := by
  obtain ⟨cs, h1, h2⟩ := h.blk
  exact ⟨_, (block_cell h1 i).trans (Array.getElem?_eq_getElem (by omega))⟩
set_option maxRecDepth 10000 in
set_option maxHeartbeats 6400000 in
theorem beginA {w : World} {b0 off : Nat} {ao : Option Addr} (n cap : Nat) {l : List Ac} (hn : n = l.length) (hA : Acs w b0 off l) (hao : 0 < n → ao = some ⟨b0, off, none⟩) (hbw : 0 < n → b0 < w.heap.size) (hle : n ≤ 4398046510976) :
    Calls Try.prog 4 #[.slice ao n cap] w fun e w' => ∃ v v', e = .returned (.tuple #[v, v', .bool true]) ∧ Hid (Below w.heap.size w w' ∧ BegP l w.heap.size v v' w') := by
  have HLD := hide (lendA n cap hn hA hao hbw hle)
  have HN := hide hn
  have HA := hide hA
  have HAO := hide hao
  have HBW := hide hbw
  clear hn hA hao hbw
  go_enter Try.func4, Try.ntmps4
  go_wp2_with fail
  refine HLD.out.mono ?_
  rintro e w1 ⟨rfl, G1⟩
  have hsp : ∀ x ∈ l ++ spareA, x.In := fun x hx => by
    rcases List.mem_append.1 hx with hx | hx
    · exact HA.out.ok x hx
    · simp [spareA] at hx
      rcases hx with rfl | rfl | rfl <;> exact ⟨by decide, by decide, by decide, by decide⟩
  have hS1 := acs_of_row G1.out.1 hsp
  have hA1 : Acs w1 w.heap.size 0 l := ⟨HA.out.ok, fun i x hi j v hj => hS1.at_ i x (by rw [List.getElem?_append_left (List.getElem?_eq_some_iff.1 hi).1]; exact hi) j v hj⟩
  have hgl : w.heap.size < w1.heap.size := (G1.out.1.lt w.heap.size rfl).2
  have HNW := hide (newA n (n + 3) HN.out hA1 (fun _ => rfl) (fun _ => hgl) hle)
  have HGL := hide hgl
  clear hsp hS1 hA1 hgl HLD
  go_wp2_with fail
  refine HNW.out.mono ?_
  rintro e w2 ⟨v, er, rfl, G2⟩
  have b2 := G2.out.1
  have hbw2 : Below w.heap.size w w2 := G1.out.2.trans (b2.mono G1.out.2.size)
  have HA2 := hide (HA.out.below hbw2 (fun hp => HBW.out (by have := HN.out; omega)))
  have HRN := hide (rnewA n cap HN.out HA2.out HAO.out (fun hp => Nat.lt_of_lt_of_le (HBW.out hp) hbw2.size) hle)
  have HR2 := hide (row_quietT G1.out.1 (below_none b2))
  have HB2 := hide hbw2
  have HGL2 : Hid (w.heap.size < w2.heap.size) := hide (Nat.lt_of_lt_of_le HGL.out b2.size)
  clear b2 hbw2 G1 HNW HGL
  go_upto_region 3 with fail
  go_wp2_with fail
  refine HRN.out.mono ?_
  rintro e w3 ⟨v', fo, L, fc, c, rfl, G3⟩
  have b3 := G3.out.2.1
  obtain ⟨fb, fof, hf3⟩ := G3.out.1
  have hb13 : Below w.heap.size w w3 := HB2.out.trans (b3.mono HB2.out.size)
  have HJ : Hid (((er = .nilIface ∧ L = [] ∧ c = 0) ∨ (Chain w3.heap.size w3 L er c ∧ 0 < L.length ∧ L.length ≤ 11 ∧ c ≠ 0)) ∧ BegP l w.heap.size v v' w3) := by
    rcases G2.out.2 with ⟨a1, a2, a3⟩ | ⟨a1, k, c1, a2, a3, a4⟩ | ⟨a1, a2, a3, p, a, b, a4, a5, _, _⟩
    · rcases G3.out.2.2 with ⟨d1, d2, d3, d4⟩ | ⟨d1, _⟩ | ⟨d1, _⟩
      · subst d3 d4
        exact ⟨.inr ⟨(Chain.below b3 a3).wide b3.size, by simp, by simp, by decide⟩, .inl ⟨a2, d2⟩⟩
      · omega
      · omega
    · rcases G3.out.2.2 with ⟨d1, d2, d3, d4⟩ | ⟨d1, k2, c2, d2, d3, d4, d5⟩ | ⟨d1, d2, _⟩
      · omega
      · obtain ⟨rfl, rfl⟩ := bad_det a2 d2
        obtain ⟨_, _, _, _, hne⟩ := a2
        subst d4 d5
        exact ⟨.inr ⟨(Chain.below b3 a4).wide b3.size, by simp, by simp, by omega⟩, .inl ⟨a3, d3⟩⟩
      · exact (good_bad d2 a2).elim
    · rcases G3.out.2.2 with ⟨d1, d2, d3, d4⟩ | ⟨d1, k2, c2, d2, d3, d4, d5⟩ | ⟨d1, d2, d3, d4, q, d5, d6⟩
      · omega
      · exact (good_bad a2 d2).elim
      · exact ⟨.inl ⟨a3, d3, d4⟩, .inr ⟨a1, a2, p, a, b, q, w2.heap.size, HGL2.out, a4, d5, a5.kept b3, d6⟩⟩
  obtain ⟨W4, hW4⟩ : ∃ W4, w3.alloc (.cells #[.slice fo L.length fc, .int .i64 c] 49) = W4 := ⟨_, rfl⟩
  have b4 : Below w3.heap.size w3 W4 := by rw [← hW4]; exact (Below.refl _ _).alloc (Nat.le_refl _) _
  have C4 : Hid (W4.heap[w3.heap.size]? = some (.cells #[.slice fo L.length fc, .int .i64 c] 49 (0, 0))) := by rw [← hW4]; exact alloc_atK _ _
  have HIS : Hid (Calls Try.prog 11 #[er, .agg #[.slice fo L.length fc, .int .i64 c]] W4 fun e w' => e = .returned (.bool true) ∧ Hid (Below W4.heap.size W4 w')) := is_any L.length fc rfl (by
    rcases HJ.out.1 with h | ⟨h1, h2⟩
    · exact .inl h
    · exact .inr ⟨(Chain.below b4 h1).wide b4.size, h2⟩) ((hf3.below b4).wide b4.size)
  have hb14 : Below w.heap.size w W4 := hb13.trans (b4.mono hb13.size)
  have hrow4 := row_quietT (row_quietT HR2.out (below_none b3)) (below_none b4)
  have KKP : Hid (∀ V, Below W4.heap.size W4 V → Calls Try.prog 12 #[.slice (some ⟨w.heap.size, 0, none⟩) n (n + 3), .slice ao n cap] V fun e w' => e = .returned (.bool true) ∧ Hid (Below V.heap.size V w')) := fun V hV => by
    have hb := hb14.trans (hV.mono hb14.size)
    exact keptA n cap HN.out HA.out.ok (row_quietT hrow4 (below_none hV)) (HA.out.below hb (fun hp => HBW.out (by have := HN.out; omega))) HAO.out (fun hp => Nat.lt_of_lt_of_le (HBW.out hp) hb.size) hle
  have KBZ : Hid (∀ V, Below W4.heap.size W4 V → Bz w l n v v' V) := fun V hV => by
    have hr := row_quietT hrow4 (below_none hV)
    refine ⟨hb14.trans (hV.mono hb14.size), ?_, (HJ.out.2.kept b4).kept hV⟩
    rcases hr.2 with ⟨e1, _⟩ | ⟨g, cp, cur, e1, _, hg, _, _, hs, _⟩
    · cases e1
    · cases e1
      exact ⟨cur, hg, hs⟩
  have x0 := block_cell C4.out 0
  have x1 := block_cell C4.out 1
  have xl := block_lt C4.out
  simp at x0 x1
  have HW4 := hide hW4
  have HVV : Hid ((v = .pointer none ∧ v' = .pointer none) ∨ ∃ p q, v = .pointer (some ⟨p, 0, none⟩) ∧ v' = .pointer (some ⟨q, 0, none⟩)) := by
    rcases HJ.out.2 with h | ⟨_, _, p, a, b, q, B, _, h4, h5, _⟩
    · exact .inl h
    · exact .inr ⟨p, q, h4, h5⟩
  clear b3 b4 hf3 hb13 hb14 hrow4 hW4 G2 G3 HJ HRN HR2 HB2 HGL2 HA2 HA HAO HBW C4
  go_upto_region 4 with fail
  rw [HW4.out]
  clear HW4
  generalize w3.heap.size = fx at *
  generalize L.length = LL at *
  have KLP : Hid (∀ V i u, Bz w l n v v' V → Bz w l n v v' (set4 V w.heap.size i u)) := fun V i u h => h.next i u
  unfold set4 at KLP
  rcases HVV.out with ⟨rfl, rfl⟩ | ⟨p, q, rfl, rfl⟩
  · clear HVV
    go_wp2_with fail
    refine HIS.out.mono ?_
    rintro e w5 ⟨rfl, G5⟩
    have HK1 := hide (KKP.out w5 G5.out)
    go_wp2_with fail
    refine HK1.out.mono ?_
    rintro e w6 ⟨rfl, G6⟩
    have HZ0 := hide (KBZ.out w6 (G5.out.trans (G6.out.mono G5.out.size)))
    clear G5 G6 HK1 KKP KBZ HIS x0 x1 xl
    go_wp2
    go_loopw [10] (fun i wr => ∃ k : Nat, k ≤ n ∧ i = .int .i64 k ∧ Hid (Bz w l n (.pointer none) (.pointer none) wr)) (fun i _ => n - (intOf i).toNat)
    case atStart => exact ⟨0, by omega, rfl, HZ0.out⟩
    case round =>
      clear HZ0
      obtain ⟨k, hk, rfl, HS⟩ := hrel
      by_cases hlt : k < n
      · obtain ⟨u0, c0⟩ := HS.out.cell (i := k * 4) (by omega)
        obtain ⟨u1, c1⟩ := HS.out.cell (i := k * 4 + 1) (by omega)
        obtain ⟨u2, c2⟩ := HS.out.cell (i := k * 4 + 2) (by omega)
        obtain ⟨u3, c3⟩ := HS.out.cell (i := k * 4 + 3) (by omega)
        obtain ⟨cs, hcs, _⟩ := HS.out.blk
        have f0 := block_free hcs (k * 4)
        have f1 := block_free hcs (k * 4 + 1)
        have f2 := block_free hcs (k * 4 + 2)
        have f3 := block_free hcs (k * 4 + 3)
        have fl := block_lt hcs
        have HNX := hide (KLP.out wr (k * 4) (.int .u64 7) HS.out)
        clear hcs HS
        go_wp2
        go_roundw
        case rel => exact ⟨k + 1, by omega, by go_num, HNX.out⟩
        case measure => simp [intOf]; omega
      · obtain rfl : k = n := by omega
        have HE : Hid (Below w.heap.size w wr ∧ BegP l w.heap.size (.pointer none) (.pointer none) wr) := ⟨HS.out.bel, HS.out.beg⟩
        clear HS
        go_wp2
        refine bodyPost_ret (v := .tuple #[.pointer none, .pointer none, .bool true]) (by simp [results, Try.results4, go_sem]) rfl ⟨_, _, rfl, HE.out⟩
  · clear HVV
    go_wp2_with fail
    refine HIS.out.mono ?_
    rintro e w5 ⟨rfl, G5⟩
    have HK1 := hide (KKP.out w5 G5.out)
    go_wp2_with fail
    refine HK1.out.mono ?_
    rintro e w6 ⟨rfl, G6⟩
    have HZ0 := hide (KBZ.out w6 (G5.out.trans (G6.out.mono G5.out.size)))
    clear G5 G6 HK1 KKP KBZ HIS x0 x1 xl
    go_wp2
    go_loopw [10] (fun i wr => ∃ k : Nat, k ≤ n ∧ i = .int .i64 k ∧ Hid (Bz w l n (.pointer (some ⟨p, 0, none⟩)) (.pointer (some ⟨q, 0, none⟩)) wr)) (fun i _ => n - (intOf i).toNat)
    case atStart => exact ⟨0, by omega, rfl, HZ0.out⟩
    case round =>
      clear HZ0
      obtain ⟨k, hk, rfl, HS⟩ := hrel
      by_cases hlt : k < n
      · obtain ⟨u0, c0⟩ := HS.out.cell (i := k * 4) (by omega)
        obtain ⟨u1, c1⟩ := HS.out.cell (i := k * 4 + 1) (by omega)
        obtain ⟨u2, c2⟩ := HS.out.cell (i := k * 4 + 2) (by omega)
        obtain ⟨u3, c3⟩ := HS.out.cell (i := k * 4 + 3) (by omega)
        obtain ⟨cs, hcs, _⟩ := HS.out.blk
        have f0 := block_free hcs (k * 4)
        have f1 := block_free hcs (k * 4 + 1)
        have f2 := block_free hcs (k * 4 + 2)
        have f3 := block_free hcs (k * 4 + 3)
        have fl := block_lt hcs
        have HNX := hide (KLP.out wr (k * 4) (.int .u64 7) HS.out)
        clear hcs HS
        go_wp2
        go_roundw
        case rel => exact ⟨k + 1, by omega, by go_num, HNX.out⟩
        case measure => simp [intOf]; omega
      · obtain rfl : k = n := by omega
        have HE : Hid (Below w.heap.size w wr ∧ BegP l w.heap.size (.pointer (some ⟨p, 0, none⟩)) (.pointer (some ⟨q, 0, none⟩)) wr) := ⟨HS.out.bel, HS.out.beg⟩
        clear HS
        go_wp2
        refine bodyPost_ret (v := .tuple #[.pointer (some ⟨p, 0, none⟩), .pointer (some ⟨q, 0, none⟩), .bool true]) (by simp [results, Try.results4, go_sem]) rfl ⟨_, _, rfl, HE.out⟩
end Go.Proofs.Ytmbclemicfffoaa
