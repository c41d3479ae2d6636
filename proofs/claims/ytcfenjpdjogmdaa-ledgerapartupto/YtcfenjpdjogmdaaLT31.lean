import Derived.Test.YtcfenjpdjogmdaaLT30
namespace Go.Proofs.Ytcfenjpdjogmdaa
open Go.RowKit

/-- What sharesFault says. -/
def LS.sf (S : LS) (x : Ho) (l : List Sh) : Nat := if S.shares l ≠ 0 then S.shares l else if shSum l ≠ x.am then 49 else if S.fit l = false then 47 else if S.full l.length = true then 43 else 0
theorem LS.settles_no {S : LS} {h : Nat} {x : Ho} {l : List Sh} (h0 : h ≠ 0) (hx : byK Ho.id S.hol h = some x) (hl : ¬ (l.length = 0 ∨ 16 < l.length)) (hc : S.sf x l ≠ 0) : S.settles h l = (S.sf x l, S) := by
  unfold LS.settles
  rw [if_neg h0, hx]
  dsimp only
  rw [if_neg hl]
  unfold LS.sf at hc ⊢
  by_cases c1 : S.shares l ≠ 0
  · rw [if_pos c1, if_pos c1]
  rw [if_neg c1] at hc ⊢
  rw [if_neg c1]
  by_cases c2 : shSum l ≠ x.am
  · rw [if_pos c2, if_pos c2]
  rw [if_neg c2] at hc ⊢
  rw [if_neg c2]
  by_cases c3 : S.fit l = false
  · rw [if_pos c3, if_pos c3]
  rw [if_neg c3] at hc ⊢
  rw [if_neg c3]
  by_cases c4 : S.full l.length = true
  · rw [if_pos c4, if_pos c4]
  rw [if_neg c4] at hc
  exact absurd rfl hc
theorem LS.settles_yes {S : LS} {h : Nat} {x : Ho} {l : List Sh} (h0 : h ≠ 0) (hx : byK Ho.id S.hol h = some x) (hl : ¬ (l.length = 0 ∨ 16 < l.length)) (hc : S.sf x l = 0) : S.settles h l = (0, l.foldl (fun S s => S.paysOut h s.tw s.am) S) ∧ S.shares l = 0 ∧ shSum l = x.am ∧ S.fit l = true ∧ S.full l.length = false := by
  unfold LS.settles
  rw [if_neg h0, hx]
  dsimp only
  rw [if_neg hl]
  unfold LS.sf at hc
  by_cases c1 : S.shares l ≠ 0
  · rw [if_pos c1] at hc; exact absurd hc c1
  rw [if_neg c1] at hc ⊢
  by_cases c2 : shSum l ≠ x.am
  · rw [if_pos c2] at hc; cases hc
  rw [if_neg c2] at hc ⊢
  by_cases c3 : S.fit l = false
  · rw [if_pos c3] at hc; cases hc
  rw [if_neg c3] at hc ⊢
  by_cases c4 : S.full l.length = true
  · rw [if_pos c4] at hc; cases hc
  rw [if_neg c4]
  exact ⟨rfl, by omega, by omega, by simpa using c3, by simpa using c4⟩
theorem LS.fit_le {S : LS} {l : List Sh} (h : S.fit l = true) (t : Nat) (ht : (byK Ac.id S.acc t).isSome = true) : shOf l t ≤ S.room t := by
  obtain ⟨a, ha⟩ := Option.isSome_iff_exists.1 ht
  obtain ⟨ma, ea⟩ := byK_mem ha
  unfold LS.fit at h
  have h1 := List.all_eq_true.1 h a ma
  unfold LS.room
  rw [ha]
  rw [ea] at h1
  simpa using h1
theorem Shs.fr {W W' : World} {p a b bs off : Nat} {l : List Sh} (h : Shs W bs off l) (hf : Fr3 W W' p a b) (hl : 0 < l.length → bs < W.heap.size ∧ bs ≠ p ∧ bs ≠ a ∧ bs ≠ b) : Shs W' bs off l :=
  ⟨h.ok, fun i x hi => by
    have hp : 0 < l.length := by have := (List.getElem?_eq_some_iff.1 hi).1; omega
    obtain ⟨h1, h2, h3, h4⟩ := hl hp
    have hb := hf.block bs h1 h2 h3 h4
    obtain ⟨c0, c1⟩ := h.at_ i x hi
    exact ⟨by simpa [World.cell?, hb] using c0, by simpa [World.cell?, hb] using c1⟩⟩
set_option maxRecDepth 10000 in
set_option maxHeartbeats 6400000 in
theorem settleG {w : World} {p a b : Nat} {ch : Value} {S : LS} (h : LG w p a b nilS ch S) (hok : S.Ok) {id : Nat} (hi : id < 18446744073709551616) {bs off : Nat} {ao : Option Addr} (n cap : Nat) {l : List Sh} (hn : n = l.length) (hA : Shs w bs off l) (hao : 0 < n → ao = some ⟨bs, off, none⟩ ∧ bs < w.heap.size ∧ bs ≠ p ∧ bs ≠ a ∧ bs ≠ b) (hle : n ≤ 8796093021952) {c : Nat} {S' : LS} (hS : S.settles id l = (c, S')) :
    Calls Try.prog 25 #[.pointer (some ⟨p, 0, none⟩), .int .u64 (id : Nat), .slice ao n cap] w fun e w' => e = .returned (.int .i64 (c : Nat)) ∧ Hid (LgP w w' p a b ch S') := by
  have HS := hide hS
  have c2 := h.c.2.2.1
  have cl := h.lt.1
  have HM := hide (madeG h)
  have hlk := h.hol.look_ok hi
  obtain ⟨oa, hoa⟩ : ∃ oa, byK Ho.id S.hol id = oa := ⟨_, rfl⟩
  obtain ⟨W1, hW1⟩ : ∃ W1, w.alloc (.cells (oa.getD Ho.zero).arr 83) = W1 := ⟨_, rfl⟩
  have b1 : Below w.heap.size w W1 := by rw [← hW1]; exact (Below.refl _ w).alloc (Nat.le_refl _) _
  have q1 : W1.heap[w.heap.size]? = some (.cells (oa.getD Ho.zero).arr 83 (0, 0)) := by rw [← hW1]; exact alloc_atK _ _
  have h1 := h.kept b1
  have f1 : Fr3 w W1 p a b := Fr3.below b1
  have el := h1.lt.1
  have HA1 : Hid (Shs W1 bs off l) := hA.below b1 (fun h0 => (hao (by rw [hn]; exact h0)).2.1)
  have HL := hide h1
  have HO := hide hok
  have HF1 := hide f1
  have HW1 := hide hW1
  have HA := hide hoa
  have HAO : Hid (0 < n → ao = some ⟨bs, off, none⟩ ∧ bs < W1.heap.size ∧ bs ≠ p ∧ bs ≠ a ∧ bs ≠ b) := fun h0 => ⟨(hao h0).1, Nat.lt_of_lt_of_le (hao h0).2.1 b1.size, (hao h0).2.2⟩
  have HQ1 := hide q1
  have HI := hide hi
  have HN := hide hn
  rw [hoa] at hlk
  clear h hok b1 h1 f1 hW1 hoa hi q1 hS hA hao hn
  unfold Ho.arr at hlk HW1 HQ1
  go_enter Try.func25, Try.ntmps25
  go_wp2_with fail
  refine HM.out.mono ?_
  rintro e w1 ⟨rfl, rfl⟩
  clear HM
  go_upto_region 4 with fail
  rw [HW1.out]
  clear HW1 hlk c2 cl
  by_cases h0 : id = 0
  · have e : S.settles id l = (40, S) := by unfold LS.settles; rw [if_pos h0]
    have HR := hide (pair_inv (e.symm.trans HS.out))
    have HE : Hid (LgP w1 W1 p a b ch S) := ⟨HL.out, HF1.out⟩
    clear e
    subst h0
    go_wp2
    go_ret
    exact ⟨by rw [HR.out.1]; rfl, by rw [HR.out.2]; exact HE.out⟩
  have g0 : ((id : Int) == 0) = false := by simp; omega
  rcases oa with _ | x
  · have e : S.settles id l = (42, S) := by unfold LS.settles; rw [if_neg h0, HA.out]
    have HR := hide (pair_inv (e.symm.trans HS.out))
    have HE : Hid (LgP w1 W1 p a b ch S) := ⟨HL.out, HF1.out⟩
    clear e h0
    go_wp2
    go_ret
    exact ⟨by rw [HR.out.1]; rfl, by rw [HR.out.2]; exact HE.out⟩
  by_cases hn0 : n = 0
  · have e : S.settles id l = (49, S) := by unfold LS.settles; rw [if_neg h0, HA.out]; dsimp only; rw [if_pos (.inl (by rw [← HN.out]; exact hn0))]
    have HR := hide (pair_inv (e.symm.trans HS.out))
    have HE : Hid (LgP w1 W1 p a b ch S) := ⟨HL.out, HF1.out⟩
    clear e h0 HAO HN
    subst hn0
    go_wp2
    go_ret
    exact ⟨by rw [HR.out.1]; rfl, by rw [HR.out.2]; exact HE.out⟩
  have g1 : ((n : Int) == 0) = false := by simp; omega
  by_cases h16 : 16 < n
  · have e : S.settles id l = (49, S) := by unfold LS.settles; rw [if_neg h0, HA.out]; dsimp only; rw [if_pos (.inr (by rw [← HN.out]; exact h16))]
    have HR := hide (pair_inv (e.symm.trans HS.out))
    have HE : Hid (LgP w1 W1 p a b ch S) := ⟨HL.out, HF1.out⟩
    have g2 : decide ((n : Int) > 16) = true := decide_eq_true (by omega)
    have g2' : decide ((16 : Int) < (n : Int)) = true := decide_eq_true (by omega)
    clear e h0 hn0
    go_wp2
    go_ret
    exact ⟨by rw [HR.out.1]; rfl, by rw [HR.out.2]; exact HE.out⟩
  have g2 : decide ((n : Int) > 16) = false := decide_eq_false (by omega)
  have g2' : decide ((16 : Int) < (n : Int)) = false := decide_eq_false (by omega)
  obtain ⟨f, hf⟩ : ∃ f, S.sf x l = f := ⟨_, rfl⟩
  have HSF := hide (sharesFaultG HL.out HO.out x (HO.out.ih x (byK_mem HA.out).1).h2 n cap HN.out HA1.out (fun h0 => ⟨(HAO.out h0).1, (HAO.out h0).2.1⟩) (by omega) (show _ = f from hf))
  unfold Ho.arr at HSF
  have hl : ¬ (l.length = 0 ∨ 16 < l.length) := by have := HN.out; omega
  have HG := hide (And.intro h0 hl)
  have HFF := hide hf
  have x0 := block_cell HQ1.out 0
  have x1 := block_cell HQ1.out 1
  have x2 := block_cell HQ1.out 2
  have xl := block_lt HQ1.out
  simp at x0 x1 x2
  clear h0 hl hf
  go_wp2_with fail
  refine HSF.out.mono ?_
  rintro e w3 ⟨rfl, G3⟩
  have HB3 := hide G3.out
  have h3 := HL.out.kept G3.out
  have HL3 := hide h3
  have el := h3.lt.1
  clear HSF G3 h3 x0 x1 x2 xl g0 HQ1
  by_cases hf0 : f = 0
  · have hy := LS.settles_yes HG.out.1 HA.out HG.out.2 (HFF.out.trans hf0)
    have HR := hide (pair_inv (hy.1.symm.trans HS.out))
    have HY := hide hy.2
    have HKN := hide (LS.known hy.2.1)
    have g3 : ((f : Int) == 0) = true := by simp; omega
    have g3' : ((f : Int) != 0) = false := by simp; omega
    have HF3 := hide (HF1.out.trans (Fr3.below (p := p) (a := a) (b := b) HB3.out))
    have HSS : Hid (Shs w3 bs off l ∧ (0 < n → bs < w3.heap.size)) := ⟨HA1.out.below HB3.out (fun h0 => (HAO.out (by rw [HN.out]; exact h0)).2.1), fun h0 => Nat.lt_of_lt_of_le (HAO.out h0).2.1 HB3.out.size⟩
    clear hy hf0 h16
    go_wp2
    go_loopw [48] (fun i wr => ∃ k : Nat, k ≤ n ∧ i = .int .i64 k ∧ Hid (LG wr p a b nilS ch ((l.take k).foldl (fun S s => S.paysOut id s.tw s.am) S) ∧ Fr3 w3 wr p a b ∧ Stp S id x.am l k ((l.take k).foldl (fun S s => S.paysOut id s.tw s.am) S))) (fun i _ => n - (intOf i).toNat)
    case atStart => exact ⟨0, by omega, rfl, HL3.out, Fr3.refl _ _ _ _, Stp.start HO.out HA.out⟩
    case round =>
      obtain ⟨k, hk, rfl, HF⟩ := hrel
      obtain ⟨T, hT⟩ : ∃ T, (l.take k).foldl (fun S s => S.paysOut id s.tw s.am) S = T := ⟨_, rfl⟩
      rw [hT] at HF
      by_cases hlt : k < n
      · obtain ⟨y, hy⟩ : ∃ y, l[k]? = some y := ⟨_, List.getElem?_eq_getElem (by have := HN.out; omega)⟩
        obtain ⟨rfl, hb⟩ := HAO.out (by omega)
        obtain ⟨c0, c1⟩ := (HSS.out.1.fr HF.out.2.1 (fun h0 => ⟨HSS.out.2 (by rw [HN.out]; exact h0), hb.2⟩)).at_ k y hy
        have cl : bs < wr.heap.size := Nat.lt_of_lt_of_le (HSS.out.2 (by omega)) HF.out.2.1.size
        have hyin := HSS.out.1.ok y (List.mem_of_getElem? hy)
        obtain ⟨W2, hW2⟩ : ∃ W2, wr.alloc (.cells #[.int .u64 (y.tw : Nat), .int .u64 (y.am : Nat)] 109) = W2 := ⟨_, rfl⟩
        have b2 : Below wr.heap.size wr W2 := by rw [← hW2]; exact (Below.refl _ wr).alloc (Nat.le_refl _) _
        have q2 : W2.heap[wr.heap.size]? = some (.cells #[.int .u64 (y.tw : Nat), .int .u64 (y.am : Nat)] 109 (0, 0)) := by rw [← hW2]; exact alloc_atK _ _
        have hnx := HF.out.2.2.next hy HI.out hyin HKN.out HY.out.2.1 (fun t ht => LS.fit_le HY.out.2.2.1 t ht) HY.out.2.2.2
        obtain ⟨⟨hh, zz, e1, e2, e3, e4⟩, hstp⟩ := hnx
        have HPO := hide (payOutG (HF.out.1.kept b2) HF.out.2.2.ok HI.out hyin.h0 e1 e2 e3 e4)
        have HT1 : Hid ((l.take (k + 1)).foldl (fun S s => S.paysOut id s.tw s.am) S = T.paysOut id y.tw y.am) := by
          have e5 : l.take (k + 1) = l.take k ++ [y] := by rw [List.take_add_one, hy]; rfl
          rw [e5, List.foldl_append, hT]; exact rfl
        have HST := hide hstp
        have HF2 := hide (HF.out.2.1.trans (Fr3.below (p := p) (a := a) (b := b) b2))
        have HW2 := hide hW2
        have y0 := block_cell q2 0
        have y1 := block_cell q2 1
        have yl := block_lt q2
        simp at y0 y1
        clear hy hb hyin hW2 b2 q2 e1 e2 e3 e4 hstp hT
        go_upto_region 16 with fail
        rw [HW2.out]
        clear HW2 c0 c1 cl
        go_wp2_with fail
        refine HPO.out.mono ?_
        rintro e w4 ⟨rfl, G4⟩
        have HJ : Hid (LG w4 p a b nilS ch ((l.take (k + 1)).foldl (fun S s => S.paysOut id s.tw s.am) S) ∧ Fr3 w3 w4 p a b ∧ Stp S id x.am l (k + 1) ((l.take (k + 1)).foldl (fun S s => S.paysOut id s.tw s.am) S)) := by
          rw [HT1.out]
          exact ⟨G4.out.1, HF2.out.trans G4.out.2, HST.out⟩
        clear HPO G4 y0 y1 yl
        go_wp2
        go_roundw
        case rel => exact ⟨k + 1, by omega, by go_num, HJ.out⟩
        case measure => simp [intOf]; omega
      · obtain rfl : k = n := by omega
        have e : l.take k = l := by rw [HN.out, List.take_length]
        rw [e] at hT
        have HE : Hid (LgP w1 wr p a b ch S') := by
          rw [HR.out.2, hT]
          exact ⟨HF.out.1, HF3.out.trans HF.out.2.1⟩
        go_wp2
        go_ret
        exact ⟨by rw [HR.out.1]; rfl, HE.out⟩
  · have HR := hide (pair_inv ((LS.settles_no HG.out.1 HA.out HG.out.2 (by rw [HFF.out]; exact hf0)).symm.trans HS.out))
    have g3 : ((f : Int) == 0) = false := by simp; omega
    have g3' : ((f : Int) != 0) = true := by simp; omega
    have HE : Hid (LgP w1 w3 p a b ch S) := ⟨HL3.out, HF1.out.trans (Fr3.below HB3.out)⟩
    clear hf0
    go_wp2
    go_ret
    exact ⟨by rw [HR.out.1, HFF.out]; rfl, by rw [HR.out.2]; exact HE.out⟩
end Go.Proofs.Ytcfenjpdjogmdaa
namespace Go.Proofs.Ytcfenjpdjogmdaa
open Go.RowKit

theorem line_in {S : LS} (h : S.Ok) {kd fr tw am : Nat} (h1 : kd < 9223372036854775808) (h2 : fr < 18446744073709551616) (h3 : tw < 18446744073709551616) (h4 : am < 18446744073709551616) : (⟨S.nx, kd, fr, tw, am⟩ : Jn).In := ⟨by show S.nx < _; have := h.n1; omega, h1, h2, h3, h4⟩
theorem creates_ln {S T : LS} (h : S.Ok) {id ow cp : Nat} (h0 : id < 18446744073709551616) (h1 : ow < 18446744073709551616) (h2 : cp < 18446744073709551616) (hS : S.creates id ow cp = (0, T)) : Ln S ⟨S.nx, 1, id, 0, cp⟩ T := by
  have hT := h.creates h0 h1 h2
  rw [hS] at hT
  unfold LS.creates at hS
  split at hS
  · cases hS
  split at hS
  · cases hS
  split at hS
  · cases hS
  rename_i c0 c1 c2
  cases hS
  exact ⟨h, hT, rfl, rfl, rfl, rfl, line_in h (by decide) h0 (by decide) h2, .inl ⟨rfl, by simpa using c1, ⟨ow, rfl⟩, rfl⟩⟩
theorem closes_ln {S T : LS} (h : S.Ok) {id : Nat} (h0 : id < 18446744073709551616) (hS : S.closes id = (0, T)) : Ln S ⟨S.nx, 2, id, 0, 0⟩ T := by
  have hT := h.closes h0
  rw [hS] at hT
  unfold LS.closes at hS
  split at hS
  · cases hS
  split at hS
  · cases hS
  rename_i a ha
  split at hS
  · cases hS
  rename_i c1
  split at hS
  · cases hS
  rw [not_or] at c1
  cases hS
  exact ⟨h, hT, rfl, rfl, rfl, rfl, line_in h (by decide) h0 (by decide) (by decide), .inr (.inl ⟨rfl, ⟨a, ha, by have := c1.1; omega⟩, rfl, rfl⟩)⟩
theorem moves_ln {S T : LS} (h : S.Ok) {f t m : Nat} (h0 : f < 18446744073709551616) (h1 : t < 18446744073709551616) (h2 : m < 18446744073709551616) (hS : S.moves f t m = (0, T)) : Ln S ⟨S.nx, 3, f, t, m⟩ T := by
  have hT := h.moves (m := m) h0 h1
  rw [hS] at hT
  unfold LS.moves at hS
  split at hS
  · cases hS
  split at hS
  · rename_i a b ha hb
    split at hS
    · cases hS
    split at hS
    · cases hS
    split at hS
    · cases hS
    split at hS
    · cases hS
    split at hS
    · cases hS
    rename_i c1 c2 c3 c4 c5
    cases hS
    exact ⟨h, hT, rfl, rfl, rfl, rfl, line_in h (by decide) h0 h1 h2, .inr (.inr (.inl ⟨rfl, c1, ⟨a, b, ha, hb, by show m ≤ a.ba; omega, by show m ≤ b.cp - b.ba; omega, rfl⟩, rfl⟩))⟩
  · cases hS
theorem holds_ln {S T : LS} (h : S.Ok) {x f m : Nat} (h0 : x < 18446744073709551616) (h1 : f < 18446744073709551616) (h2 : m < 18446744073709551616) (hS : S.holds x f m = (0, T)) : Ln S ⟨S.nx, 4, f, x, m⟩ T := by
  have hT := h.holds (m := m) h0 h1
  rw [hS] at hT
  unfold LS.holds at hS
  split at hS
  · cases hS
  split at hS
  · cases hS
  split at hS
  · cases hS
  rename_i a ha
  split at hS
  · cases hS
  split at hS
  · cases hS
  split at hS
  · cases hS
  rename_i c1 _ c3 c4 c5
  cases hS
  exact ⟨h, hT, rfl, rfl, rfl, rfl, line_in h (by decide) h1 h0 h2, .inr (.inr (.inr (.inl ⟨rfl, c3, by simpa using c1, ⟨a, ha, by show m ≤ a.ba; omega, rfl⟩, rfl⟩)))⟩
theorem paysOut_ln {S : LS} (h : S.Ok) {x t m : Nat} (h0 : x < 18446744073709551616) (h1 : t < 18446744073709551616) (h2 : m < 18446744073709551616) {y : Ho} {a : Ac} (hy : byK Ho.id S.hol x = some y) (ha : byK Ac.id S.acc t = some a) (hm : m ≤ y.am) (hc : m ≤ a.cp - a.ba) (hf : S.full 1 = false) : Ln S ⟨S.nx, 5, x, t, m⟩ (S.paysOut x t m) := by
  have hT := h.paysOut h0 h1 hy ha hc hf
  refine ⟨h, hT, rfl, rfl, rfl, rfl, line_in h (by decide) h0 h1 h2, .inr (.inr (.inr (.inr ⟨rfl, y, a, hy, ha, hm, hc, ?_, ?_⟩)))⟩
  · unfold LS.paysOut
    rw [hy, ha]
    rfl
  · unfold LS.paysOut
    rw [hy, ha]
    rfl
theorem pays_ln {S T : LS} (h : S.Ok) {x t m : Nat} (h0 : x < 18446744073709551616) (h1 : t < 18446744073709551616) (h2 : m < 18446744073709551616) (hS : S.pays x t m = (0, T)) : Ln S ⟨S.nx, 5, x, t, m⟩ T := by
  unfold LS.pays at hS
  split at hS
  · cases hS
  split at hS
  · rename_i y a hy ha
    split at hS
    · cases hS
    split at hS
    · cases hS
    split at hS
    · cases hS
    split at hS
    · cases hS
    rename_i c2 c3 c4 c5
    cases hS
    exact paysOut_ln h h0 h1 h2 hy ha (by omega) (by omega) (by simpa using c5)
  · cases hS
/-- The lines that lead from one ledger to another. -/
inductive Rn : LS → List Jn → LS → Prop where
  | nil (S : LS) : Rn S [] S
  | snoc {S T U : LS} {es : List Jn} {e : Jn} : Rn S es T → Ln T e U → Rn S (es ++ [e]) U
theorem Rn.one {S T : LS} {e : Jn} (h : Ln S e T) : Rn S [e] T := Rn.snoc (es := []) (.nil S) h
theorem Rn.trans {S T : LS} {es : List Jn} (h : Rn S es T) : ∀ {fs : List Jn} {U : LS}, Rn T fs U → Rn S (es ++ fs) U := by
  intro fs U h2
  induction h2 with
  | nil => simpa using h
  | snoc _ hl ih => rw [← List.append_assoc]; exact .snoc ih hl
theorem Rn.nx {S T : LS} {es : List Jn} (h : Rn S es T) : T.nx = S.nx + es.length := by
  induction h with
  | nil => rfl
  | snoc _ hl ih => rw [hl.nx, ih, List.length_append]; rfl
theorem Rn.ok {S T : LS} {es : List Jn} (h : Rn S es T) (hS : S.Ok) : T.Ok := by
  cases h with
  | nil => exact hS
  | snoc _ hl => exact hl.t
/-- Line i has its number. -/
theorem Rn.sq {S T : LS} {es : List Jn} (h : Rn S es T) : ∀ (i : Nat) (e : Jn), es[i]? = some e → e.sq = S.nx + i ∧ e.In := by
  induction h with
  | nil => intro i e he; simp at he
  | @snoc T U es e' hr hl ih =>
    intro i e he
    by_cases hi : i < es.length
    · rw [List.getElem?_append_left hi] at he
      exact ih i e he
    · have hi2 := (List.getElem?_eq_some_iff.1 he).1
      rw [List.length_append] at hi2
      simp only [List.length_cons, List.length_nil] at hi2
      obtain rfl : i = es.length := by omega
      rw [List.getElem?_append_right (Nat.le_refl _), Nat.sub_self] at he
      simp at he
      subst he
      exact ⟨by rw [hl.sq, hr.nx], hl.ein⟩
/-- The last 64 lines stand in the ring. -/
theorem Rn.ring {S T : LS} {es : List Jn} (h : Rn S es T) : ∀ (i : Nat) (e : Jn), es[i]? = some e → es.length ≤ i + 64 → T.rg ((S.nx + i) % 64) = e := by
  induction h with
  | nil => intro i e he; simp at he
  | @snoc T U es e' hr hl ih =>
    intro i e he h64
    rw [List.length_append] at h64
    simp only [List.length_cons, List.length_nil] at h64
    rw [hl.rg]
    by_cases hi : i < es.length
    · rw [List.getElem?_append_left hi] at he
      show (if (S.nx + i) % 64 = T.nx % 64 then e' else T.rg ((S.nx + i) % 64)) = e
      rw [hr.nx, if_neg (by omega)]
      exact ih i e he (by omega)
    · have hi2 := (List.getElem?_eq_some_iff.1 he).1
      rw [List.length_append] at hi2
      simp only [List.length_cons, List.length_nil] at hi2
      obtain rfl : i = es.length := by omega
      rw [List.getElem?_append_right (Nat.le_refl _), Nat.sub_self] at he
      simp at he
      show (if (S.nx + es.length) % 64 = T.nx % 64 then e' else _) = e
      rw [hr.nx, if_pos rfl]
      exact he
/-- The journal as it is told. -/
def LS.jl (S : LS) : List Jn := (List.range (min (S.nx - 1) 64)).map (fun i => S.rg ((S.nx - min (S.nx - 1) 64 + i) % 64))
theorem LS.jl_len (S : LS) : S.jl.length = min (S.nx - 1) 64 := by unfold LS.jl; simp
theorem LS.jl_at (S : LS) {i : Nat} (h : i < min (S.nx - 1) 64) : S.jl[i]? = some (S.rg ((S.nx - min (S.nx - 1) 64 + i) % 64)) := by
  unfold LS.jl
  rw [List.getElem?_map, List.getElem?_range h]
  rfl
theorem LS.jl_in {S : LS} (h : S.Ok) : ∀ x ∈ S.jl, x.In := fun x hx => by
  unfold LS.jl at hx
  obtain ⟨i, _, rfl⟩ := List.mem_map.1 hx
  exact h.ij _
/-- As long as nothing has fallen out, the journal is the lines. -/
theorem Rn.jl {S T : LS} {es : List Jn} (h : Rn S es T) (h1 : S.nx = 1) (hl : es.length ≤ 64) : T.jl = es := by
  have hn := h.nx
  have em : min (T.nx - 1) 64 = es.length := by omega
  refine List.ext_getElem? (fun i => ?_)
  by_cases hi : i < es.length
  · rw [T.jl_at (by omega), em]
    obtain ⟨e, he⟩ : ∃ e, es[i]? = some e := ⟨_, List.getElem?_eq_getElem hi⟩
    have := h.ring i e he (by omega)
    rw [h1] at this
    rw [he, show T.nx - es.length + i = 1 + i by omega, this]
  · rw [List.getElem?_eq_none (by rw [T.jl_len]; omega), List.getElem?_eq_none (by omega)]
/-- The fold goes along with all lines. -/
theorem Rn.fold {S T : LS} {es : List Jn} (h : Rn S es T) {A : List Ac} {H : List Ho} (h0 : RepS A H S) : ∃ AH : Nat → List Ac × List Ho, AH 0 = (A, H) ∧ (∀ (i : Nat) (e : Jn), es[i]? = some e → foldF e (AH i).1 (AH i).2 = ((AH (i + 1)).1, (AH (i + 1)).2, true)) ∧ RepS (AH es.length).1 (AH es.length).2 T := by
  induction h with
  | nil => exact ⟨fun _ => (A, H), rfl, fun i e he => by simp at he, h0⟩
  | @snoc T U es e' hr hl ih =>
    obtain ⟨AH, z0, z1, z2⟩ := ih
    obtain ⟨A', H', q1, q2⟩ := fold_step z2 hl
    refine ⟨fun i => if i ≤ es.length then AH i else (A', H'), by show (if 0 ≤ es.length then AH 0 else _) = _; rw [if_pos (Nat.zero_le _)]; exact z0, fun i e he => ?_, ?_⟩
    · by_cases hi : i < es.length
      · rw [List.getElem?_append_left hi] at he
        simp only
        rw [if_pos (by omega), if_pos (by omega)]
        exact z1 i e he
      · have hi2 := (List.getElem?_eq_some_iff.1 he).1
        rw [List.length_append] at hi2
        simp only [List.length_cons, List.length_nil] at hi2
        obtain rfl : i = es.length := by omega
        rw [List.getElem?_append_right (Nat.le_refl _), Nat.sub_self] at he
        simp at he
        subst he
        simp only
        rw [if_pos (Nat.le_refl _), if_neg (by omega)]
        exact q1
    · rw [List.length_append]
      simp only [List.length_cons, List.length_nil]
      rw [if_neg (by omega)]
      exact q2
theorem settles_rn {S T : LS} (h : S.Ok) {id : Nat} (hi : id < 18446744073709551616) {l : List Sh} (hin : ∀ s ∈ l, s.In) (hS : S.settles id l = (0, T)) : ∃ es, es.length = l.length ∧ Rn S es T ∧ l.length ≤ 16 := by
  have hS0 := hS
  unfold LS.settles at hS
  split at hS
  · cases hS
  rename_i c0
  split at hS
  · cases hS
  rename_i x hx
  split at hS
  · cases hS
  rename_i c1
  by_cases hf : S.sf x l = 0
  · have hy := LS.settles_yes c0 hx c1 hf
    have hT : T = l.foldl (fun S s => S.paysOut id s.tw s.am) S := by
      have := hS0.symm.trans hy.1
      cases this
      rfl
    have hkn := LS.known hy.2.1
    have key : ∀ k, k ≤ l.length → ∃ es, es.length = k ∧ Rn S es ((l.take k).foldl (fun S s => S.paysOut id s.tw s.am) S) ∧ Stp S id x.am l k ((l.take k).foldl (fun S s => S.paysOut id s.tw s.am) S) := by
      intro k
      induction k with
      | zero => intro _; exact ⟨[], rfl, .nil S, Stp.start h hx⟩
      | succ k ih =>
        intro hk
        obtain ⟨es, e1, e2, e3⟩ := ih (by omega)
        obtain ⟨y, hyk⟩ : ∃ y, l[k]? = some y := ⟨_, List.getElem?_eq_getElem (by omega)⟩
        have hyin := hin y (List.mem_of_getElem? hyk)
        obtain ⟨⟨hh, zz, d1, d2, d3, d4⟩, hstp⟩ := e3.next hyk hi hyin hkn hy.2.2.1 (fun t ht => LS.fit_le hy.2.2.2.1 t ht) hy.2.2.2.2
        have hfu : ((l.take k).foldl (fun S s => S.paysOut id s.tw s.am) S).full 1 = false := by
          have h1 := hy.2.2.2.2
          unfold LS.full at h1 ⊢
          have h2 := of_decide_eq_false h1
          have := e3.nx
          exact decide_eq_false (by omega)
        have hln := paysOut_ln e3.ok hi hyin.h0 hyin.h1 d1 d2 d3 d4 hfu
        have e5 : (l.take (k + 1)).foldl (fun S s => S.paysOut id s.tw s.am) S = ((l.take k).foldl (fun S s => S.paysOut id s.tw s.am) S).paysOut id y.tw y.am := by
          have e5 : l.take (k + 1) = l.take k ++ [y] := by rw [List.take_add_one, hyk]; rfl
          rw [e5, List.foldl_append]
          rfl
        rw [e5]
        exact ⟨_, by rw [List.length_append, e1]; rfl, .snoc e2 hln, hstp⟩
    obtain ⟨es, e1, e2, _⟩ := key l.length (Nat.le_refl _)
    rw [List.take_length] at e2
    exact ⟨es, e1, by rw [hT]; exact e2, by omega⟩
  · have := LS.settles_no c0 hx c1 hf
    rw [this] at hS0
    have := congrArg Prod.fst hS0
    exact absurd this hf
/-- A step of a script: its answer and the ledger behind it. -/
def LS.step (S : LS) (k a b c : Nat) (l : List Sh) : Nat × LS :=
  if k = 1 then S.creates a b c else if k = 2 then S.closes a else if k = 3 then S.moves a b c else if k = 4 then S.holds a b c else if k = 5 then S.pays a b c else S.settles a l
theorem step_rn {S T : LS} (h : S.Ok) {k a b c : Nat} {l : List Sh} (ha : a < 18446744073709551616) (hb : b < 18446744073709551616) (hc : c < 18446744073709551616) (hin : ∀ s ∈ l, s.In) (hS : S.step k a b c l = (0, T)) : ∃ es, es.length = (if k = 1 ∨ k = 2 ∨ k = 3 ∨ k = 4 ∨ k = 5 then 1 else l.length) ∧ Rn S es T ∧ es.length ≤ 16 := by
  unfold LS.step at hS
  by_cases k1 : k = 1
  · rw [if_pos k1] at hS; exact ⟨_, by simp [k1], Rn.one (creates_ln h ha hb hc hS), by simp⟩
  rw [if_neg k1] at hS
  by_cases k2 : k = 2
  · rw [if_pos k2] at hS; exact ⟨_, by simp [k2], Rn.one (closes_ln h ha hS), by simp⟩
  rw [if_neg k2] at hS
  by_cases k3 : k = 3
  · rw [if_pos k3] at hS; exact ⟨_, by simp [k3], Rn.one (moves_ln h ha hb hc hS), by simp⟩
  rw [if_neg k3] at hS
  by_cases k4 : k = 4
  · rw [if_pos k4] at hS; exact ⟨_, by simp [k4], Rn.one (holds_ln h ha hb hc hS), by simp⟩
  rw [if_neg k4] at hS
  by_cases k5 : k = 5
  · rw [if_pos k5] at hS; exact ⟨_, by simp [k5], Rn.one (pays_ln h ha hb hc hS), by simp⟩
  rw [if_neg k5] at hS
  obtain ⟨es, e1, e2, e3⟩ := settles_rn h ha hin hS
  exact ⟨es, by rw [e1, if_neg (by omega)], e2, by omega⟩
end Go.Proofs.Ytcfenjpdjogmdaa
