import Derived.Test.YtcfenjpdjogmdaaLT35
import Derived.Test.YtcfenjpdjogmdaaLT34
namespace Go.Proofs.Ytcfenjpdjogmdaa
open Go.RowKit

theorem Shs.fl {W W' : World} {bs off : Nat} {l : List Sh} (h : Shs W bs off l) (hf : Fl W W') (hl : 0 < l.length → ∃ cs, W.heap[bs]? = some (.cells cs 109 (0, 0))) : Shs W' bs off l :=
  ⟨h.ok, fun i x hi => by
    have hp : 0 < l.length := by have := (List.getElem?_eq_some_iff.1 hi).1; omega
    obtain ⟨cs, h1⟩ := hl hp
    have hb := (hf.at_ _ _ _ h1 (by decide) (by decide) (by decide)).trans h1.symm
    obtain ⟨c0, c1⟩ := h.at_ i x hi
    exact ⟨by simpa [World.cell?, hb] using c0, by simpa [World.cell?, hb] using c1⟩⟩
set_option maxRecDepth 10000 in
set_option maxHeartbeats 6400000 in
theorem settleM {w : World} {B p a b : Nat} {Z : SZ} {S : LS} (hM : LM w B p a b Z S) (hz0 : Z.cs.length ≤ 100000000000) (hok : S.Ok) {id : Nat} (hi : id < 18446744073709551616) {bs off : Nat} {ao : Option Addr} (n cap : Nat) {l : List Sh} (hn : n = l.length) (hA : Shs w bs off l) (hao : 0 < n → ao = some ⟨bs, off, none⟩ ∧ ∃ cs, w.heap[bs]? = some (.cells cs 109 (0, 0))) (hle : n ≤ 8796093021952) {c : Nat} {S' : LS} (hS : S.settles id l = (c, S')) :
    Calls Try.prog 25 #[.pointer (some ⟨p, 0, none⟩), .int .u64 (id : Nat), .slice ao n cap] w fun e w' => e = .returned (.int .i64 (c : Nat)) ∧ Hid (Run B p a b w Z S 48 w' S') := by
  have h := hM.lg
  have hR0 := Run.start hM hz0
  clear hM hz0
  have HS := hide hS
  have c2 := h.c.2.2.1
  have cl := h.lt.1
  have HM := hide (madeG h)
  have hlk := h.hol.look_ok hi
  obtain ⟨oa, hoa⟩ : ∃ oa, byK Ho.id S.hol id = oa := ⟨_, rfl⟩
  obtain ⟨W1, hW1⟩ : ∃ W1, w.alloc (.cells (oa.getD Ho.zero).arr 83) = W1 := ⟨_, rfl⟩
  have b1 : Below w.heap.size w W1 := by rw [← hW1]; exact (Below.refl _ w).alloc (Nat.le_refl _) _
  have q1 : W1.heap[w.heap.size]? = some (.cells (oa.getD Ho.zero).arr 83 (0, 0)) := by rw [← hW1]; exact alloc_atK _ _
  have h1 := h.kept b1
  have f1 := hR0.kept b1
  clear hR0
  have el := h1.lt.1
  have HA1 : Hid (Shs W1 bs off l) := hA.below b1 (fun h0 => by obtain ⟨_, cs, h⟩ := hao (by rw [hn]; exact h0); exact block_lt h)
  have HL := hide h1
  have HO := hide hok
  have HF1 := hide f1
  have HW1 := hide hW1
  have HA := hide hoa
  have HAO : Hid (0 < n → ao = some ⟨bs, off, none⟩ ∧ bs < W1.heap.size ∧ ∃ cs, W1.heap[bs]? = some (.cells cs 109 (0, 0))) := fun h0 => by
    obtain ⟨e, cs, h⟩ := hao h0
    have := (b1.block _ (block_lt h)).trans h
    exact ⟨e, block_lt this, cs, this⟩
  have HQ1 := hide q1
  have HI := hide hi
  have HN := hide hn
  rw [hoa] at hlk
  clear h hok b1 h1 f1 hW1 hoa hi q1 hS hA hao hn
  unfold Ho.arr at hlk HW1 HQ1
  go_enter Try.func25, Try.ntmps25
  go_wp2_with fail
  refine HM.out.mono ?_
  rintro e w1 ⟨rfl, rfl⟩
  clear HM
  go_upto_region 4 with fail
  rw [HW1.out]
  clear HW1 hlk c2 cl
  by_cases h0 : id = 0
  · have e : S.settles id l = (40, S) := by unfold LS.settles; rw [if_pos h0]
    have HR := hide (pair_inv (e.symm.trans HS.out))
    have HE : Hid (Run B p a b w1 Z S 48 W1 S) := HF1.out.le (by omega)
    clear e
    subst h0
    go_wp2
    go_ret
    exact ⟨by rw [HR.out.1]; rfl, by rw [HR.out.2]; exact HE.out⟩
  have g0 : ((id : Int) == 0) = false := by simp; omega
  rcases oa with _ | x
  · have e : S.settles id l = (42, S) := by unfold LS.settles; rw [if_neg h0, HA.out]
    have HR := hide (pair_inv (e.symm.trans HS.out))
    have HE : Hid (Run B p a b w1 Z S 48 W1 S) := HF1.out.le (by omega)
    clear e h0
    go_wp2
    go_ret
    exact ⟨by rw [HR.out.1]; rfl, by rw [HR.out.2]; exact HE.out⟩
  by_cases hn0 : n = 0
  · have e : S.settles id l = (49, S) := by unfold LS.settles; rw [if_neg h0, HA.out]; dsimp only; rw [if_pos (.inl (by rw [← HN.out]; exact hn0))]
    have HR := hide (pair_inv (e.symm.trans HS.out))
    have HE : Hid (Run B p a b w1 Z S 48 W1 S) := HF1.out.le (by omega)
    clear e h0 HAO HN
    subst hn0
    go_wp2
    go_ret
    exact ⟨by rw [HR.out.1]; rfl, by rw [HR.out.2]; exact HE.out⟩
  have g1 : ((n : Int) == 0) = false := by simp; omega
  by_cases h16 : 16 < n
  · have e : S.settles id l = (49, S) := by unfold LS.settles; rw [if_neg h0, HA.out]; dsimp only; rw [if_pos (.inr (by rw [← HN.out]; exact h16))]
    have HR := hide (pair_inv (e.symm.trans HS.out))
    have HE : Hid (Run B p a b w1 Z S 48 W1 S) := HF1.out.le (by omega)
    have g2 : decide ((n : Int) > 16) = true := decide_eq_true (by omega)
    have g2' : decide ((16 : Int) < (n : Int)) = true := decide_eq_true (by omega)
    clear e h0 hn0
    go_wp2
    go_ret
    exact ⟨by rw [HR.out.1]; rfl, by rw [HR.out.2]; exact HE.out⟩
  have g2 : decide ((n : Int) > 16) = false := decide_eq_false (by omega)
  have g2' : decide ((16 : Int) < (n : Int)) = false := decide_eq_false (by omega)
  obtain ⟨f, hf⟩ : ∃ f, S.sf x l = f := ⟨_, rfl⟩
  have HSF := hide (sharesFaultG HL.out HO.out x (HO.out.ih x (byK_mem HA.out).1).h2 n cap HN.out HA1.out (fun h0 => ⟨(HAO.out h0).1, (HAO.out h0).2.1⟩) (by omega) (show _ = f from hf))
  unfold Ho.arr at HSF
  have hl : ¬ (l.length = 0 ∨ 16 < l.length) := by have := HN.out; omega
  have HG := hide (And.intro h0 hl)
  have HFF := hide hf
  have x0 := block_cell HQ1.out 0
  have x1 := block_cell HQ1.out 1
  have x2 := block_cell HQ1.out 2
  have xl := block_lt HQ1.out
  simp at x0 x1 x2
  clear h0 hl hf
  go_wp2_with fail
  refine HSF.out.mono ?_
  rintro e w3 ⟨rfl, G3⟩
  have HB3 := hide G3.out
  have h3 := HL.out.kept G3.out
  have HL3 := hide h3
  have el := h3.lt.1
  clear HSF G3 h3 x0 x1 x2 xl g0 HQ1
  by_cases hf0 : f = 0
  · have hy := LS.settles_yes HG.out.1 HA.out HG.out.2 (HFF.out.trans hf0)
    have HR := hide (pair_inv (hy.1.symm.trans HS.out))
    have HY := hide hy.2
    have HKN := hide (LS.known hy.2.1)
    have g3 : ((f : Int) == 0) = true := by simp; omega
    have g3' : ((f : Int) != 0) = false := by simp; omega
    have HF3 := hide (HF1.out.kept HB3.out)
    have HSS : Hid (Shs w3 bs off l ∧ (0 < n → ∃ cs, w3.heap[bs]? = some (.cells cs 109 (0, 0)))) := ⟨HA1.out.below HB3.out (fun h0 => (HAO.out (by rw [HN.out]; exact h0)).2.1), fun h0 => by
      obtain ⟨_, _, cs, h⟩ := HAO.out h0
      exact ⟨cs, (HB3.out.block _ (block_lt h)).trans h⟩⟩
    clear hy hf0
    go_wp2
    go_loopw [48] (fun i wr => ∃ k : Nat, k ≤ n ∧ i = .int .i64 k ∧ Hid (Run B p a b w1 Z S (3 * k) wr ((l.take k).foldl (fun S s => S.paysOut id s.tw s.am) S) ∧ Fl w3 wr ∧ Stp S id x.am l k ((l.take k).foldl (fun S s => S.paysOut id s.tw s.am) S))) (fun i _ => n - (intOf i).toNat)
    case atStart => exact ⟨0, by omega, rfl, HF3.out, Fl.refl _, Stp.start HO.out HA.out⟩
    case round =>
      obtain ⟨k, hk, rfl, HF⟩ := hrel
      obtain ⟨T, hT⟩ : ∃ T, (l.take k).foldl (fun S s => S.paysOut id s.tw s.am) S = T := ⟨_, rfl⟩
      rw [hT] at HF
      by_cases hlt : k < n
      · obtain ⟨y, hy⟩ : ∃ y, l[k]? = some y := ⟨_, List.getElem?_eq_getElem (by have := HN.out; omega)⟩
        obtain ⟨rfl, hb⟩ := HAO.out (by omega)
        obtain ⟨c0, c1⟩ := (HSS.out.1.fl HF.out.2.1 (fun h0 => HSS.out.2 (by rw [HN.out]; exact h0))).at_ k y hy
        have cl : bs < wr.heap.size := by
          obtain ⟨cs, h⟩ := HSS.out.2 (by omega)
          exact Nat.lt_of_lt_of_le (block_lt h) HF.out.2.1.size
        have hyin := HSS.out.1.ok y (List.mem_of_getElem? hy)
        obtain ⟨W2, hW2⟩ : ∃ W2, wr.alloc (.cells #[.int .u64 (y.tw : Nat), .int .u64 (y.am : Nat)] 109) = W2 := ⟨_, rfl⟩
        have b2 : Below wr.heap.size wr W2 := by rw [← hW2]; exact (Below.refl _ wr).alloc (Nat.le_refl _) _
        have q2 : W2.heap[wr.heap.size]? = some (.cells #[.int .u64 (y.tw : Nat), .int .u64 (y.am : Nat)] 109 (0, 0)) := by rw [← hW2]; exact alloc_atK _ _
        have hnx := HF.out.2.2.next hy HI.out hyin HKN.out HY.out.2.1 (fun t ht => LS.fit_le HY.out.2.2.1 t ht) HY.out.2.2.2
        obtain ⟨⟨hh, zz, e1, e2, e3, e4⟩, hstp⟩ := hnx
        have HPO := hide (payOutM (HF.out.1.kept b2) (by omega) HF.out.2.2.ok HI.out hyin.h0 e1 e2 e3 e4)
        have HT1 : Hid ((l.take (k + 1)).foldl (fun S s => S.paysOut id s.tw s.am) S = T.paysOut id y.tw y.am) := by
          have e5 : l.take (k + 1) = l.take k ++ [y] := by rw [List.take_add_one, hy]; rfl
          rw [e5, List.foldl_append, hT]; exact rfl
        have HST := hide hstp
        have HF2 := hide (HF.out.2.1.trans (Fl.below b2))
        have HW2 := hide hW2
        have y0 := block_cell q2 0
        have y1 := block_cell q2 1
        have yl := block_lt q2
        simp at y0 y1
        clear hy hb hyin hW2 b2 q2 e1 e2 e3 e4 hstp hT
        go_upto_region 16 with fail
        rw [HW2.out]
        clear HW2 c0 c1 cl
        go_wp2_with fail
        refine HPO.out.mono ?_
        rintro e w4 ⟨rfl, G4⟩
        have HJ : Hid (Run B p a b w1 Z S (3 * (k + 1)) w4 ((l.take (k + 1)).foldl (fun S s => S.paysOut id s.tw s.am) S) ∧ Fl w3 w4 ∧ Stp S id x.am l (k + 1) ((l.take (k + 1)).foldl (fun S s => S.paysOut id s.tw s.am) S)) := by
          rw [HT1.out]
          exact ⟨G4.out.1.le (by omega), HF2.out.trans G4.out.2, HST.out⟩
        clear HPO G4 y0 y1 yl
        go_wp2
        go_roundw
        case rel => exact ⟨k + 1, by omega, by go_num, HJ.out⟩
        case measure => simp [intOf]; omega
      · obtain rfl : k = n := by omega
        have e : l.take k = l := by rw [HN.out, List.take_length]
        rw [e] at hT
        have HE : Hid (Run B p a b w1 Z S 48 wr S') := by
          rw [HR.out.2, hT]
          exact HF.out.1.le (by omega)
        go_wp2
        go_ret
        exact ⟨by rw [HR.out.1]; rfl, HE.out⟩
  · have HR := hide (pair_inv ((LS.settles_no HG.out.1 HA.out HG.out.2 (by rw [HFF.out]; exact hf0)).symm.trans HS.out))
    have g3 : ((f : Int) == 0) = false := by simp; omega
    have g3' : ((f : Int) != 0) = true := by simp; omega
    have HE : Hid (Run B p a b w1 Z S 48 w3 S) := (HF1.out.kept HB3.out).le (by omega)
    clear hf0
    go_wp2
    go_ret
    exact ⟨by rw [HR.out.1, HFF.out]; rfl, by rw [HR.out.2]; exact HE.out⟩
end Go.Proofs.Ytcfenjpdjogmdaa
namespace Go.Proofs.Ytcfenjpdjogmdaa
open Go.RowKit

theorem RunX.from {B p a b : Nat} {w w0 : World} {Z0 : SZ} {S0 : LS} {n : Nat} {ex : List Bk} {w' : World} {S' : LS} (h : RunX B p a b w0 Z0 S0 n ex w' S') (hb : Below w.heap.size w w0) : RunX B p a b w Z0 S0 n ex w' S' := by
  obtain ⟨Z, ds, h1, h2, h3, h4, h5, h6, h7⟩ := h.z
  refine ⟨⟨Z, ds, h1, h2, h3, h4, h5, h6, fun k hk => ?_⟩, h.os.trans hb.os, h.tape.trans hb.tape, h.output.trans hb.output, Nat.le_trans hb.size h.size, fun k hk n1 n2 n3 n4 n5 => (h.block k (Nat.lt_of_lt_of_le hk hb.size) n1 n2 n3 n4 n5).trans (hb.block k hk), (Fl.below hb).trans h.fl, h.z0⟩
  rcases h7 k hk with e | e
  · exact .inl e
  · exact .inr (Nat.le_trans hb.size e)
set_option maxRecDepth 10000 in
set_option maxHeartbeats 6400000 in
theorem doesM {w : World} {L0 p a b : Nat} {Z : SZ} {S : LS} (hM : LM w L0 p a b Z S) (hz0 : Z.cs.length ≤ 100000000000) (hok : S.Ok) {k A B C : Nat} (h1 : 1 ≤ k) (h6 : k ≤ 6) (hA : A < 18446744073709551616) (hB : B < 18446744073709551616) (hC : C < 18446744073709551616) (N : Int) {so : Option Addr} {bs off : Nat} (sn sc : Nat) {l : List Sh} (hn : sn = l.length) (hSh : Shs w bs off l) (hso : 0 < sn → so = some ⟨bs, off, none⟩ ∧ bs < w.heap.size) (hle : sn ≤ 8796093021952) {c : Nat} {S' : LS} (hS : S.step k A B C l = (c, S')) :
    Calls Try.prog 6 #[.pointer (some ⟨p, 0, none⟩), .agg #[.int .i64 (k : Nat), .int .u64 (A : Nat), .int .u64 (B : Nat), .int .u64 (C : Nat), .int .i64 N, .slice so sn sc]] w fun e w' => e = .returned (.int .i64 (c : Nat)) ∧ Hid (Run L0 p a b w Z S 48 w' S') := by
  obtain ⟨W1, hW1⟩ : ∃ W1, w.alloc (.cells #[.int .i64 (k : Nat), .int .u64 (A : Nat), .int .u64 (B : Nat), .int .u64 (C : Nat), .int .i64 N, .slice so sn sc] 30) = W1 := ⟨_, rfl⟩
  have b1 : Below w.heap.size w W1 := by rw [← hW1]; exact (Below.refl _ w).alloc (Nat.le_refl _) _
  have q1 : W1.heap[w.heap.size]? = some (.cells #[.int .i64 (k : Nat), .int .u64 (A : Nat), .int .u64 (B : Nat), .int .u64 (C : Nat), .int .i64 N, .slice so sn sc] 30 (0, 0)) := by rw [← hW1]; exact alloc_atK _ _
  have hL1 := hM.kept b1
  have HFIN : Hid (∀ V w', Below w.heap.size w V → Run L0 p a b V Z S 48 w' S' → Hid (Run L0 p a b w Z S 48 w' S')) := fun V w' hV hr => hr.from hV
  have c0 := block_cell q1 0
  have c1 := block_cell q1 1
  have c2 := block_cell q1 2
  have c3 := block_cell q1 3
  have c5 := block_cell q1 5
  have cl := block_lt q1
  simp at c0 c1 c2 c3 c5
  have HQ1 := hide q1
  have HL1 := hide hL1
  have HSS : Hid (Shs W1 bs off l ∧ (0 < sn → so = some ⟨bs, off, none⟩ ∧ bs < W1.heap.size)) := ⟨hSh.below b1 (fun h0 => (hso (by omega)).2), fun h0 => ⟨(hso h0).1, Nat.lt_of_lt_of_le (hso h0).2 b1.size⟩⟩
  have HS := hide hS
  have HO := hide hok
  have HN := hide hn
  have HBD := hide (And.intro hA (And.intro hB hC))
  have HZ := hide hz0
  have HB1 := hide b1
  clear hM hok b1 q1 hL1 hSh hso hS hn hA hB hC hz0
  go_enter Try.func6, Try.ntmps6
  go_upto_region 1 with fail
  clear hW1
  have hk : k = 1 ∨ k = 2 ∨ k = 3 ∨ k = 4 ∨ k = 5 ∨ k = 6 := by omega
  clear h1 h6
  rcases hk with rfl | rfl | rfl | rfl | rfl | rfl
  · have HC := hide (createM HL1.out HZ.out HO.out HBD.out.1 HBD.out.2.1 HBD.out.2.2 (show S.creates A B C = (c, S') from HS.out))
    go_wp2_with fail
    refine HC.out.mono ?_
    rintro e w1 ⟨rfl, G⟩
    have HE := HFIN.out _ _ HB1.out G.out
    clear G HC
    go_wp2
    go_ret
    exact ⟨rfl, HE⟩
  · have HC := hide (closeM HL1.out HZ.out HO.out HBD.out.1 (show S.closes A = (c, S') from HS.out))
    go_wp2_with fail
    refine HC.out.mono ?_
    rintro e w1 ⟨rfl, G⟩
    have HE := HFIN.out _ _ HB1.out G.out
    clear G HC
    go_wp2
    go_ret
    exact ⟨rfl, HE⟩
  · have HC := hide (moveM HL1.out HZ.out HO.out HBD.out.1 HBD.out.2.1 HBD.out.2.2 (show S.moves A B C = (c, S') from HS.out))
    go_wp2_with fail
    refine HC.out.mono ?_
    rintro e w1 ⟨rfl, G⟩
    have HE := HFIN.out _ _ HB1.out G.out
    clear G HC
    go_wp2
    go_ret
    exact ⟨rfl, HE⟩
  · have HC := hide (holdM HL1.out HZ.out HO.out HBD.out.1 HBD.out.2.1 HBD.out.2.2 (show S.holds A B C = (c, S') from HS.out))
    go_wp2_with fail
    refine HC.out.mono ?_
    rintro e w1 ⟨rfl, G⟩
    have HE := HFIN.out _ _ HB1.out G.out
    clear G HC
    go_wp2
    go_ret
    exact ⟨rfl, HE⟩
  · have HC := hide (payM HL1.out HZ.out HO.out HBD.out.1 HBD.out.2.1 HBD.out.2.2 (show S.pays A B C = (c, S') from HS.out))
    go_wp2_with fail
    refine HC.out.mono ?_
    rintro e w1 ⟨rfl, G⟩
    have HE := HFIN.out _ _ HB1.out G.out
    clear G HC
    go_wp2
    go_ret
    exact ⟨rfl, HE⟩
  · have HLD : Hid (Calls Try.prog 26 #[.slice so sn sc] W1.drew fun e w' => e = .returned (.slice (some ⟨W1.heap.size, 0, none⟩) sn (sn + 3)) ∧ (w'.cell? ⟨w.heap.size, 1, none⟩ = some (.int .u64 (A : Nat)) ∧ w'.cell? ⟨w.heap.size, 5, none⟩ = some (.slice so sn sc)) ∧ Hid (LM w' L0 p a b Z S ∧ Below W1.heap.size W1 w' ∧ Shs w' W1.heap.size 0 l ∧ ∃ cs, w'.heap[W1.heap.size]? = some (.cells cs 109 (0, 0)))) := by
      have hd : Below W1.heap.size W1 W1.drew := (Below.refl _ _).drew
      refine (lendS (w := W1.drew) sn sc HN.out (HSS.out.1.below hd (fun h0 => (HSS.out.2 (by have := HN.out; omega)).2)) (fun h0 => (HSS.out.2 h0).1) (fun h0 => (HSS.out.2 h0).2) hle).mono ?_
      rintro e w' ⟨rfl, G⟩
      have hb : Below W1.heap.size W1 w' := hd.trans G.out.2
      have hq := (hb.block _ (block_lt HQ1.out)).trans HQ1.out
      refine ⟨rfl, ⟨block_cell hq 1, block_cell hq 5⟩, HL1.out.kept hb, hb, shs_of_row G.out.1 HSS.out.1.ok, ?_⟩
      rcases G.out.1.2 with ⟨e1, _⟩ | ⟨g, cp, cur, e1, _, hg, _⟩
      · cases e1
      · cases e1
        exact ⟨cur, hg⟩
    have HST : Hid (∀ w', Hid (LM w' L0 p a b Z S ∧ Below W1.heap.size W1 w' ∧ Shs w' W1.heap.size 0 l ∧ ∃ cs, w'.heap[W1.heap.size]? = some (.cells cs 109 (0, 0))) → Calls Try.prog 25 #[.pointer (some ⟨p, 0, none⟩), .int .u64 (A : Nat), .slice (some ⟨W1.heap.size, 0, none⟩) sn (sn + 3)] w' fun e w2 => e = .returned (.int .i64 (c : Nat)) ∧ (w2.cell? ⟨w.heap.size, 1, none⟩ = some (.int .u64 (A : Nat)) ∧ w2.cell? ⟨w.heap.size, 5, none⟩ = some (.slice so sn sc)) ∧ Hid (Run L0 p a b w Z S 48 w2 S')) := fun w' hw => by
      refine (settleM hw.out.1 HZ.out HO.out HBD.out.1 sn (sn + 3) HN.out hw.out.2.2.1 (fun _ => ⟨rfl, hw.out.2.2.2⟩) hle (show S.settles A l = (c, S') from HS.out)).mono ?_
      rintro e w2 ⟨rfl, G⟩
      have hq1 := (hw.out.2.1.block _ (block_lt HQ1.out)).trans HQ1.out
      have hq := G.out.fl.at_ _ _ _ hq1 (by decide) (by decide) (by decide)
      exact ⟨rfl, ⟨block_cell hq 1, block_cell hq 5⟩, HFIN.out _ _ (HB1.out.trans (hw.out.2.1.mono HB1.out.size)) G.out⟩
    clear hle
    go_wp2_with fail
    go_region_held (fun w' => w'.cell? ⟨w.heap.size, 1, none⟩ = some (.int .u64 (A : Nat)) ∧ w'.cell? ⟨w.heap.size, 5, none⟩ = some (.slice so sn sc)) (go_keep)
      (first | (go_at_call 26; refine HLD.out.mono ?_; rintro e w1 ⟨rfl, hcs, HG⟩; have HN2 := hide (HST.out _ HG)) | (go_at_call 25; refine HN2.out.mono ?_; rintro e w2 ⟨rfl, hcs2, HE⟩))
    all_goals (go_wp2; go_ret; exact ⟨rfl, HE⟩)
end Go.Proofs.Ytcfenjpdjogmdaa
namespace Go.Proofs.Ytcfenjpdjogmdaa
open Go.RowKit

theorem row_take {W : World} {B g L cap k : Nat} {t : TypeId} {xs : List Value} (h : W.ownsRow B t 1 (.slice (some ⟨g, 0, none⟩) L cap) L xs) (hk : k ≤ L) : W.ownsRow B t 1 (.slice (some ⟨g, 0, none⟩) k cap) k (xs.take k) := by
  have hl := h.1
  refine ⟨by rw [List.length_take]; omega, .inr ?_⟩
  rcases h.2 with ⟨e, _⟩ | ⟨g', cap', cur, e, q1, q2, q3, q4, q5, q6⟩
  · cases e
  · cases e
    refine ⟨g, cap, cur, rfl, q1, q2, by omega, q4, q5, ?_⟩
    rw [← q6, List.take_take, Nat.mul_one, Nat.mul_one, Nat.min_eq_left hk]
/-- From one state of the marks to another. -/
structure Tr (w w' : World) (p a b : Nat) (Z Z' : SZ) : Prop where
  os : w'.os = w.os
  tape : w'.tape = w.tape
  output : w'.output = w.output
  size : w.heap.size ≤ w'.heap.size
  block : ∀ k, k < w.heap.size → k ≠ p → k ≠ a → k ≠ b → Z.mv.ownBlock ≠ some k → Z.cv.ownBlock ≠ some k → w'.heap[k]? = w.heap[k]?
  fl : Fl w w'
  mvn : ∀ k, Z'.mv.ownBlock = some k → Z.mv.ownBlock = some k ∨ w.heap.size ≤ k
  cvn : ∀ k, Z'.cv.ownBlock = some k → Z.cv.ownBlock = some k ∨ w.heap.size ≤ k
theorem Tr.below {w w' : World} {p a b : Nat} {Z : SZ} (hb : Below w.heap.size w w') : Tr w w' p a b Z Z :=
  ⟨hb.os, hb.tape, hb.output, hb.size, fun k hk _ _ _ _ _ => hb.block k hk, Fl.below hb, fun _ h => .inl h, fun _ h => .inl h⟩
theorem RunX.tr {B p a b : Nat} {w0 : World} {Z0 : SZ} {S0 : LS} {n : Nat} {w : World} {S : LS} (h : Run B p a b w0 Z0 S0 n w S) : ∃ Z ds, LM w B p a b Z S ∧ Tr w0 w p a b Z0 Z ∧ Z.ms = Z0.ms ∧ Z.cs = (if Z0.ms = [] then Z0.cs else Z0.cs ++ ds) ∧ ds.length ≤ n ∧ undoAll ds S.ms = S0.ms := by
  obtain ⟨Z, ds, h1, h2, h3, h4, h5, h6, h7⟩ := h.z
  rw [List.append_nil] at h6
  exact ⟨Z, ds, h1, ⟨h.os, h.tape, h.output, h.size, h.block, h.fl, fun k hk => .inl (by rw [← h2]; exact hk), h7⟩, h3, h4, h5, h6⟩
/-- A box of the ledger itself turns. -/
theorem LM.pset {W : World} {B p a b : Nat} {Z : SZ} {S : LS} (h : LM W B p a b Z S) (o : Nat) (v : Value) : Fl W (W.setCell ⟨p, o, none⟩ v) ∧ (∀ {n : Nat} {t : TypeId} {u : Value} {ys : List Value}, W.ownsRow B t 1 u n ys → t ≠ 77 → (W.setCell ⟨p, o, none⟩ v).ownsRow B t 1 u n ys) := by
  obtain ⟨cs, q, _⟩ := h.lg.blk
  have gs := grown_set W p o v
  exact ⟨Fl.bel gs q (.inl rfl), fun {n t u ys} hr ht => hr.kept gs (.inr (rowT_ne hr q (fun e => ht e.symm)))⟩
theorem LM.setMk {W : World} {B p a b : Nat} {Z : SZ} {S : LS} (h : LM W B p a b Z S) {v : Value} {ms : List Nat} (hr : W.ownsRow B 3 1 v ms.length (ms.map (fun m => .int .i64 (m : Nat)))) : LM (W.setCell ⟨p, 324, none⟩ v) B p a b { Z with mv := v, ms := ms } S := by
  obtain ⟨hf, hk⟩ := h.pset 324 v
  obtain ⟨xs, hc, hd⟩ := h.cr
  exact ⟨h.lg.setMk v, hk hr (by decide), ⟨xs, hk hc (by decide), fun i d u hi hu => (hd i d u hi hu).fl hf⟩, h.lo⟩
theorem LM.setNil {W : World} {B p a b : Nat} {Z : SZ} {S : LS} (h : LM W B p a b Z S) : LM (W.setCell ⟨p, 325, none⟩ nilS) B p a b { Z with cv := nilS, cs := [] } S := by
  obtain ⟨hf, hk⟩ := h.pset 325 nilS
  exact ⟨h.lg.setCh nilS, hk h.mr (by decide), ⟨[], World.ownsRow_nil _ _ _ _, fun i d u hi hu => by simp at hu⟩, h.lo⟩
theorem infoInt1 : (Try.prog.info? 3).map (fun i => (i.zero, i.size, i.bytes)) = some (some (.int .i64 0), 1, 8) := by kernel_rfl
set_option maxRecDepth 10000 in
set_option maxHeartbeats 1600000 in
/-- unset: a mark, and all inside it, is let go. -/
theorem unsetM {w : World} {B p a b : Nat} {Z : SZ} {S : LS} (h : LM w B p a b Z S) {m : Nat} (h1 : 1 ≤ m) (hm : m ≤ Z.ms.length) (h16 : Z.ms.length ≤ 16) :
    Calls Try.prog 34 #[.pointer (some ⟨p, 324, none⟩), .int .i64 (m : Nat)] w fun e w' => e = .returned (.tuple #[]) ∧ Hid (∃ Z', LM w' B p a b Z' S ∧ Tr w w' p a b Z Z' ∧ Z'.ms = Z.ms.take (m - 1) ∧ Z'.cs = (if m = 1 then [] else Z.cs)) := by
  obtain ⟨MS', hMS⟩ : ∃ x, Z.ms.take (m - 1) = x := ⟨_, rfl⟩
  obtain ⟨CS, hCS⟩ : ∃ x, (if m = 1 then [] else Z.cs) = x := ⟨_, rfl⟩
  rw [hMS, hCS]
  have c4 := h.lg.c.2.2.2.2.1
  have c5 := h.lg.c.2.2.2.2.2
  have cl := h.lg.lt.1
  have f4 := h.lg.free 324
  have f5 := h.lg.free 325
  obtain ⟨g, cap, cur, e1, hgl⟩ : ∃ g cap cur, Z.mv = .slice (some ⟨g, 0, none⟩) Z.ms.length cap ∧ w.heap[g]? = some (.cells cur 3 (0, 0)) ∧ Z.ms.length ≤ cap ∧ cap ≤ maxLen := by
    rcases h.mr.2 with ⟨_, e⟩ | ⟨g, cap, cur, e, _, q2, q3, q4, _⟩
    · omega
    · exact ⟨g, cap, cur, e, q2, q3, q4⟩
  have hmr := h.mr
  rw [e1] at c4 hmr
  have hk := row_take hmr (k := m - 1) (by omega)
  rw [← List.map_take] at hk
  have hlen : (Z.ms.take (m - 1)).length = m - 1 := by rw [List.length_take]; omega
  have hk2 : w.ownsRow B 3 1 (.slice (some ⟨g, 0, none⟩) (m - 1) cap) (Z.ms.take (m - 1)).length ((Z.ms.take (m - 1)).map (fun m => .int .i64 (m : Nat))) := by rw [hlen]; exact hk
  have hM := h.setMk hk2
  obtain ⟨cs0, q0, _⟩ := h.lg.blk
  have g1 := grown_set w p 324 (.slice (some ⟨g, 0, none⟩) (m - 1) cap)
  have fl1 : Fl w (w.setCell ⟨p, 324, none⟩ (.slice (some ⟨g, 0, none⟩) (m - 1) cap)) := (h.pset 324 _).1
  have HE1 : Hid (1 < m → ∃ Z', LM (w.setCell ⟨p, 324, none⟩ (.slice (some ⟨g, 0, none⟩) (m - 1) cap)) B p a b Z' S ∧ Tr w (w.setCell ⟨p, 324, none⟩ (.slice (some ⟨g, 0, none⟩) (m - 1) cap)) p a b Z Z' ∧ Z'.ms = MS' ∧ Z'.cs = CS) := fun h2 => ⟨_, hM, ⟨g1.os, g1.tape, g1.output, g1.size, fun k hk n1 _ _ _ _ => g1.block k hk (fun e => n1 (Option.some.inj e)), fl1, fun k hk => .inl (by rw [e1]; exact hk), fun k hk => .inl hk⟩, hMS, by rw [← hCS, if_neg (by omega)]⟩
  have HE2 : Hid (m = 1 → ∃ Z', LM ((w.setCell ⟨p, 324, none⟩ (.slice (some ⟨g, 0, none⟩) (m - 1) cap)).setCell ⟨p, 325, none⟩ nilS) B p a b Z' S ∧ Tr w ((w.setCell ⟨p, 324, none⟩ (.slice (some ⟨g, 0, none⟩) (m - 1) cap)).setCell ⟨p, 325, none⟩ nilS) p a b Z Z' ∧ Z'.ms = MS' ∧ Z'.cs = CS) := fun h2 => by
    have g2 := grown_set (w.setCell ⟨p, 324, none⟩ (.slice (some ⟨g, 0, none⟩) (m - 1) cap)) p 325 nilS
    have gg := far_two g1 g2
    exact ⟨_, hM.setNil, ⟨gg.os, gg.tape, gg.output, gg.size, fun k hk n1 _ _ _ _ => gg.block k hk (fun e => n1 (Option.some.inj e)), fl1.trans (hM.pset 325 nilS).1, fun k hk => .inl (by rw [e1]; exact hk), fun k hk => (by cases hk)⟩, hMS, by rw [← hCS, if_pos h2]⟩
  obtain ⟨hq, hcap, hmx⟩ := hgl
  have hc0 : ¬ cap = 0 := by omega
  have hmi : ((m : Int) - 1) = ((m - 1 : Nat) : Int) := by omega
  obtain ⟨M, hMM⟩ : ∃ M, m - 1 = M := ⟨_, rfl⟩
  rw [hMM] at HE1 HE2 hmi
  have hMc : M ≤ cap := by omega
  have hmM : m = M + 1 := by omega
  have hwm : IntKind.i64.wrap ((m : Int) - 1) = (M : Int) := by rw [IntWalk.i64_in _ ⟨by omega, by omega⟩]; omega
  have HMM := hide hMM
  clear hMS hCS h hmr hk hk2 hM q0 g1 fl1 e1 hlen hq hMM
  unfold maxLen at hmx
  go_enter Try.func34, Try.ntmps34
  by_cases hm1 : m = 1
  · have hM0 : M = 0 := by omega
    subst hM0
    have HE := hide (HE2.out hm1)
    unfold nilS at HE
    clear HE1 HE2
    go_wp2
    go_end0
    exact ⟨rfl, HE⟩
  · have HE := hide (HE1.out (by omega))
    have g0 : ((M : Int) == 0) = false := by simp; omega
    clear HE1 HE2
    go_wp2
    go_end0
    exact ⟨rfl, HE⟩
end Go.Proofs.Ytcfenjpdjogmdaa
