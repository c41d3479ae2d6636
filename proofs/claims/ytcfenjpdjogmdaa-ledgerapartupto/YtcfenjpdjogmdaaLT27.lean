import Derived.Test.YtcfenjpdjogmdaaLT25
import Derived.Maps.RangeWalk
import Derived.Test.YtcfenjpdjogmdaaLT26
namespace Go.Proofs.Ytcfenjpdjogmdaa
open Go.RowKit

set_option maxRecDepth 10000 in
set_option maxHeartbeats 3200000 in
theorem holdsOfG {w : World} {p a b : Nat} {mk ch : Value} {S : LS} (h : LG w p a b mk ch S) (hok : S.Ok) (id : Nat) :
    Calls Try.prog 47 #[.pointer (some ⟨p, 0, none⟩), .int .u64 (id : Nat)] w fun e w' => e = .returned (.bool (S.hol.any (fun h => h.fr == id))) ∧ Hid (Below w.heap.size w w') := by
  have c2 := h.c.2.2.1
  have cl := h.lt.1
  obtain ⟨D, hown, hsz, hD⟩ := h.hol
  obtain ⟨n, hn⟩ : ∃ n, S.hol.length = n := ⟨_, rfl⟩
  rw [hn] at hown
  have HD := hide hD
  have HO := hide hok
  obtain ⟨any, hany⟩ : ∃ any, (S.hol.any (fun h => h.fr == id)) = any := ⟨_, rfl⟩
  have HANY := hide hany
  rw [hany]
  clear hD hok hn hsz h hany
  go_enter Try.func47, Try.ntmps47
  go_wp2_with (first
    | (at_range; refine wpList_range_own _ rfl _ 66 rfl 25 83 KD Try.underlying66 RV b n _ rfl hown ?_; intro w0 hrg0 hg0 hs0)
    | go_in)
  go_frame
  go_loopw [6] (fun _ wr => ∃ (left : Lit → Bool) (cnt : Nat), Hid (wr.ranges Try.prog 25 RV b w.heap.size n D left cnt) ∧ Hid (Below w.heap.size w wr ∧ ∀ (x : Nat) (y : Ho), byK Ho.id S.hol x = some y → left (kU x) = false → y.fr ≠ id)) (fun _ wr => wr.rangeLeft b w.heap.size)
  case atStart =>
    refine ⟨_, _, hrg0, ⟨hg0.os, hg0.tape, hg0.output, hg0.size, fun k hk => hg0.block k hk (by simp)⟩, fun x y hx hl => ?_⟩
    have hy := (byK_mem hx)
    have h1 := (HD.out x (by rw [← hy.2]; exact (HO.out.ih y hy.1).h0)).2
    rw [hx] at h1
    rw [h1] at hl
    cases hl
  case round =>
    clear hrg0 hg0 hs0 hown
    obtain ⟨left, cnt, HRG, HGR⟩ := hrel
    have HEND : Hid ((∀ kl, left kl = false) → any = false) := fun hl0 => by
      rw [← HANY.out]
      rw [List.any_eq_false]
      intro y hy
      have := HGR.out.2 y.id y (HO.out.uh.by hy) (hl0 _)
      simpa using this
    go_wp2_with (first
      | (at_next; refine wpList_next_ranges _ rfl _ rfl 25 KD RV (Value.int .u64) (fun v : Value => v) (fun key kl hkey => by obtain ⟨x, rfl, _⟩ := Maps.keyOf_int_inv Try.underlying25 hkey; exact ⟨x, rfl⟩) (fun v y _ => ⟨v, rfl⟩) b w.heap.size n _ _ _ rfl HRG.out ?_ ?_)
      | go_in)
    · intro _ hl0
      have HE := hide (HEND.out hl0)
      have HB := hide HGR.out.1
      clear hl0
      go_wp2
      go_ret
      exact ⟨by rw [HE.out]; rfl, HB.out⟩
    · intro x cv kl yd yp w1 cnt1 hkey hlx hv hat hrg1 hlt hg1 hs1 hen
      obtain ⟨x', ex, rfl, hwx⟩ := Maps.keyOf_int_inv Try.underlying25 hkey
      cases ex
      obtain ⟨xn, rfl, hxn⟩ : ∃ xn : Nat, x = (xn : Int) ∧ xn < 18446744073709551616 := ⟨x.toNat, by simp [Lit.wf, IntKind.min, IntKind.max, IntKind.bits, IntKind.signed] at hwx; omega, by simp [Lit.wf, IntKind.min, IntKind.max, IntKind.bits, IntKind.signed] at hwx; omega⟩
      have hd := HD.out xn hxn
      have hh : Maps.has D (kU xn) = true := Maps.has_true_of_atKey hat
      rw [hh] at hd
      obtain ⟨y, hy⟩ : ∃ y, byK Ho.id S.hol xn = some y := Option.isSome_iff_exists.1 hd.2.symm
      have hcv : cv = .agg y.arr := by
        have h1 := hd.1
        rw [hat, hy] at h1
        have h2 : yd = .held cv := by cases hv; rfl
        rw [h2] at h1
        cases h1
        rfl
      subst hcv
      have b1 : Below w.heap.size w w1 := HGR.out.1.grown hg1 HGR.out.1.size (fun j e => by cases e; exact Nat.le_refl _)
      obtain ⟨W2, hW2⟩ : ∃ W2, w1.alloc (.cells y.arr 83) = W2 := ⟨_, rfl⟩
      have q2 : W2.heap[w1.heap.size]? = some (.cells y.arr 83 (0, 0)) := by rw [← hW2]; exact alloc_atK _ _
      have HB2 : Hid (Below w.heap.size w W2) := by rw [← hW2]; exact b1.alloc b1.size _
      have HR2 : Hid (W2.ranges Try.prog 25 RV b w.heap.size n D (fun z => left z && !z.sameKey (kU xn)) cnt1) := by rw [← hW2]; exact hrg1.alloc _
      have HY := hide hy
      have HLT := hide hlt
      have HW2 := hide hW2
      have z0 := block_cell q2 0
      have z1 := block_cell q2 1
      have z2 := block_cell q2 2
      have zl := block_lt q2
      clear hkey hlx hv hat hrg1 hlt hg1 hs1 hxn hwx hd hh hy b1 hW2 q2 HEND HD
      unfold Ho.arr at *
      simp at z0 z1 z2
      by_cases hfr : y.fr = id
      · have HE : Hid (any = true) := by
          rw [← HANY.out]
          exact List.any_eq_true.2 ⟨y, (byK_mem HY.out).1, by simpa using hfr⟩
        have g : ((y.fr : Int) == (id : Int)) = true := by simp; omega
        clear hfr
        go_upto_region 4 with fail
        rw [HW2.out]
        clear HW2 hen
        go_wp2
        go_ret
        exact ⟨by rw [HE.out]; rfl, HB2.out⟩
      · have g : ((y.fr : Int) == (id : Int)) = false := by simp; omega
        have HJ : Hid (∀ (x' : Nat) (y' : Ho), byK Ho.id S.hol x' = some y' → (left (kU x') && !(kU x').sameKey (kU xn)) = false → y'.fr ≠ id) := fun x' y' hx' hl => by
          by_cases e : x' = xn
          · subst e
            rw [HY.out] at hx'
            cases hx'
            exact hfr
          · have e' : (kU x').sameKey (kU xn) = false := by
              have : ¬ (x' : Int) = (xn : Int) := by omega
              simp [Lit.sameKey, this]
            rw [e'] at hl
            exact HGR.out.2 x' y' hx' (by simpa using hl)
        clear hfr
        go_upto_region 4 with fail
        rw [HW2.out]
        clear HW2 hen
        go_wp2
        go_roundw
        case rel => exact ⟨_, cnt1, HR2.out, HB2.out, HJ.out⟩
        case measure => rw [HR2.out.left_eq, HRG.out.left_eq]; exact HLT.out
end Go.Proofs.Ytcfenjpdjogmdaa
namespace Go.Proofs.Ytcfenjpdjogmdaa
open Go.RowKit

set_option maxRecDepth 10000 in
set_option maxHeartbeats 6400000 in
theorem closeG {w : World} {p a b : Nat} {ch : Value} {S : LS} (h : LG w p a b nilS ch S) (hok : S.Ok) {id : Nat} (hi : id < 18446744073709551616) {c : Nat} {S' : LS} (hS : S.closes id = (c, S')) :
    Calls Try.prog 21 #[.pointer (some ⟨p, 0, none⟩), .int .u64 (id : Nat)] w fun e w' => e = .returned (.int .i64 (c : Nat)) ∧ Hid (LgP w w' p a b ch S') := by
  have HS := hide hS
  have c1 := h.c.2.1
  have cl := h.lt.1
  have HM := hide (madeG h)
  have hlk := h.acc.look_ok hi
  obtain ⟨oa, hoa⟩ : ∃ oa, byK Ac.id S.acc id = oa := ⟨_, rfl⟩
  obtain ⟨W1, hW1⟩ : ∃ W1, w.alloc (.cells (oa.getD Ac.zero).arr 80) = W1 := ⟨_, rfl⟩
  have b1 : Below w.heap.size w W1 := by rw [← hW1]; exact (Below.refl _ w).alloc (Nat.le_refl _) _
  have q1 : W1.heap[w.heap.size]? = some (.cells (oa.getD Ac.zero).arr 80 (0, 0)) := by rw [← hW1]; exact alloc_atK _ _
  have h1 := h.kept b1
  have f1 : Fr3 w W1 p a b := Fr3.below b1
  have el := h1.lt.1
  have HL := hide h1
  have HO := hide hok
  have HF1 := hide f1
  have HW1 := hide hW1
  have HA := hide hoa
  have HQ1 := hide q1
  have HI := hide hi
  have HHO := hide (holdsOfG h1 hok id)
  rw [hoa] at hlk
  clear h hok b1 h1 f1 hW1 hoa hi q1 hS
  unfold Ac.arr at hlk HW1 HQ1
  go_enter Try.func21, Try.ntmps21
  go_wp2_with fail
  refine HM.out.mono ?_
  rintro e w1 ⟨rfl, rfl⟩
  clear HM
  go_upto_region 4 with fail
  rw [HW1.out]
  clear HW1 hlk c1 cl
  by_cases h0 : id = 0
  · have e : S.closes id = (40, S) := by unfold LS.closes; rw [if_pos h0]
    have HR := hide (pair_inv (e.symm.trans HS.out))
    have HE : Hid (LgP w1 W1 p a b ch S) := ⟨HL.out, HF1.out⟩
    clear e HHO
    subst h0
    go_wp2
    go_ret
    exact ⟨by rw [HR.out.1]; rfl, by rw [HR.out.2]; exact HE.out⟩
  have g0 : ((id : Int) == 0) = false := by simp; omega
  rcases oa with _ | y
  · have e : S.closes id = (42, S) := by unfold LS.closes; rw [if_neg h0, HA.out]
    have HR := hide (pair_inv (e.symm.trans HS.out))
    have HE : Hid (LgP w1 W1 p a b ch S) := ⟨HL.out, HF1.out⟩
    clear e h0 HHO
    go_wp2
    go_ret
    exact ⟨by rw [HR.out.1]; rfl, by rw [HR.out.2]; exact HE.out⟩
  have x2 := block_cell HQ1.out 2
  have xl := block_lt HQ1.out
  simp at x2
  by_cases hb : y.ba = 0
  rotate_left
  · have g1 : ((y.ba : Int) == 0) = false := by simp; omega
    have g1' : ((y.ba : Int) != 0) = true := by simp; omega
    have e : S.closes id = (48, S) := by unfold LS.closes; rw [if_neg h0, HA.out]; dsimp only; rw [if_pos (.inl hb)]
    have HR := hide (pair_inv (e.symm.trans HS.out))
    have HE : Hid (LgP w1 W1 p a b ch S) := ⟨HL.out, HF1.out⟩
    clear e h0 hb HHO
    go_wp2
    go_ret
    exact ⟨by rw [HR.out.1]; rfl, by rw [HR.out.2]; exact HE.out⟩
  have g1 : ((y.ba : Int) == 0) = true := by simp; omega
  have g1' : ((y.ba : Int) != 0) = false := by simp; omega
  obtain ⟨any, hany⟩ : ∃ any, (S.hol.any (fun h => h.fr == id)) = any := ⟨_, rfl⟩
  rw [hany] at HHO
  have HANY := hide hany
  rcases any with _ | _
  rotate_left
  · have e : S.closes id = (48, S) := by unfold LS.closes; rw [if_neg h0, HA.out]; dsimp only; rw [if_pos (.inr HANY.out)]
    have HR := hide (pair_inv (e.symm.trans HS.out))
    clear e h0 hb hany
    go_wp2_with fail
    refine HHO.out.mono ?_
    rintro e w3 ⟨rfl, G3⟩
    have HE : Hid (LgP w1 w3 p a b ch S) := ⟨HL.out.kept G3.out, HF1.out.trans (Fr3.below G3.out)⟩
    go_wp2
    go_ret
    exact ⟨by rw [HR.out.1]; rfl, by rw [HR.out.2]; exact HE.out⟩
  have hno : ¬ (y.ba ≠ 0 ∨ S.hol.any (fun h => h.fr == id) = true) := by rw [HANY.out]; simp [hb]
  by_cases hfl : S.full 1 = true
  · have e : S.closes id = (43, S) := by unfold LS.closes; rw [if_neg h0, HA.out]; dsimp only; rw [if_neg hno, if_pos hfl]
    have HR := hide (pair_inv (e.symm.trans HS.out))
    clear e h0 hb hany hno
    go_wp2_with fail
    refine HHO.out.mono ?_
    rintro e w3 ⟨rfl, G3⟩
    have h3 := HL.out.kept G3.out
    have HFU := hide (fullG h3 HO.out 1 (by decide))
    rw [hfl] at HFU
    have HE : Hid (LgP w1 w3 p a b ch S) := ⟨h3, HF1.out.trans (Fr3.below G3.out)⟩
    have el := h3.lt.1
    clear hfl h3
    go_wp2_with fail
    refine HFU.out.mono ?_
    rintro e w4 ⟨rfl, rfl⟩
    go_wp2
    go_ret
    exact ⟨by rw [HR.out.1]; rfl, by rw [HR.out.2]; exact HE.out⟩
  have hfl' : S.full 1 = false := by simpa using hfl
  have e : S.closes id = (0, ({ S with acc := remK Ac.id S.acc id } : LS).line 2 id 0 0) := by unfold LS.closes; rw [if_neg h0, HA.out]; dsimp only; rw [if_neg hno, if_neg hfl]
  have HR := hide (pair_inv (e.symm.trans HS.out))
  have HFL := hide hfl'
  clear e h0 hb hany hno hfl hfl'
  go_wp2_with fail
  refine HHO.out.mono ?_
  rintro e w3 ⟨rfl, G3⟩
  have h3 := HL.out.kept G3.out
  have HL3 := hide h3
  have HF3 := hide (HF1.out.trans (Fr3.below (p := p) (a := a) (b := b) G3.out))
  have HFU := hide (fullG h3 HO.out 1 (by decide))
  rw [HFL.out] at HFU
  have el := h3.lt.1
  clear HHO G3 h3 HL HF1 x2 xl HQ1 g0 g1 g1'
  go_wp2_with fail
  refine HFU.out.mono ?_
  rintro e w4 ⟨rfl, rfl⟩
  clear HFU
  have c1 := HL3.out.c.2.1
  have HP : Hid (Calls Try.prog 49 #[.map (some a), .int .u64 (id : Nat)] w4.drew fun e w' => ∃ v, e = .returned v ∧ w'.cell? ⟨p, 1, none⟩ = some (.map (some a)) ∧ Hid (LG w' p a b nilS ch { S with acc := remK Ac.id S.acc id } ∧ Fr3 w4 w' p a b)) := by
    have hg0 : w4.grownBy w4.drew none := ⟨rfl, rfl, rfl, Nat.le_refl _, fun _ _ _ => rfl⟩
    have h0 := HL3.out.other hg0 (by simp) (by simp) (by simp)
    have hlen := remK_len HO.out.ua (x := id) (by rw [HA.out]; rfl)
    refine (dropA (n := (remK Ac.id S.acc id).length) (by rw [hlen]; exact h0.acc) HI.out HA.out).mono ?_
    rintro e w' ⟨v, rfl, G⟩
    obtain ⟨_, ht, hg⟩ := G.out
    have ht' : TAm w' a (remK Ac.id S.acc id).length (byK Ac.id (remK Ac.id S.acc id)) := ht.congr rfl (fun y => (byK_rem _ _ y).symm)
    have hL := h0.toA ht' hg
    exact ⟨v, rfl, hL.c.2.1, hL, (Fr3.of hg0 (fun r e => by cases e)).trans (Fr3.of hg (fun r e => .inr (.inl (Option.some.inj e).symm)))⟩
  go_upto_region 12 with fail
  go_region_held (fun w' => w'.cell? ⟨p, 1, none⟩ = some (.map (some a))) (go_keep)
    (first | (go_at_call 49; refine HP.out.mono ?_; rintro e w5 ⟨v, rfl, h1, HG⟩; have HN := hide (note0 HG.out.1.c.2.2.2.2.1 v)) | (go_at_call 48; refine HN.out.mono ?_; rintro e w6 ⟨rfl, rfl⟩))
  have HO7 : Hid (({ S with acc := remK Ac.id S.acc id } : LS).Ok) := HO.out.remA id
  have HLW := hide (lwriteG HG.out.1 HO7.out 2 id 0 0)
  have HF7 := hide (HF3.out.trans HG.out.2)
  clear HP HN HL3 HF3 h1 HG c1
  go_wp2_with fail
  refine HLW.out.mono ?_
  rintro e w8 ⟨rfl, G8⟩
  have HE : Hid (LgP w1 w8 p a b ch S') := by
    rw [HR.out.2]
    exact ⟨G8.out.1, HF7.out.trans G8.out.2⟩
  clear HLW G8 HF7
  go_wp2
  go_ret
  exact ⟨by rw [HR.out.1]; rfl, HE.out⟩
end Go.Proofs.Ytcfenjpdjogmdaa
namespace Go.Proofs.Ytcfenjpdjogmdaa
open Go.RowKit

/-- Numbers as they lie. -/
def Ug (W : World) (g off : Nat) (l : List Nat) : Prop := ∀ (i : Nat) (v : Nat), l[i]? = some v → W.cell? ⟨g, off + i, none⟩ = some (.int .u64 (v : Nat))
theorem take_sum {l : List Nat} {k v : Nat} (h : l[k]? = some v) : (l.take (k + 1)).sum = (l.take k).sum + v := by
  rw [List.take_add_one, h]
  simp
theorem take_le : ∀ (l : List Nat) (k : Nat), (l.take k).sum ≤ l.sum
  | [], k => by simp
  | x :: r, 0 => by simp
  | x :: r, k + 1 => by
    have := take_le r k
    simp only [List.take_succ_cons, List.sum_cons]
    omega
set_option maxRecDepth 10000 in
set_option maxHeartbeats 1600000 in
theorem makeUpG {w : World} {g off : Nat} {ao : Option Addr} (n cap : Nat) {l : List Nat} (hn : n = l.length) (hU : Ug w g off l) (hao : 0 < n → ao = some ⟨g, off, none⟩ ∧ g < w.heap.size) (hle : n ≤ 8796093021952) (x : Nat) (hx : x < 18446744073709551616) :
    Calls Try.prog 66 #[.int .u64 (x : Nat), .slice ao n cap] w fun e w' => e = .returned (.bool (decide (l.sum = x))) ∧ w' = w := by
  have HN := hide hn
  have HU := hide hU
  have HA := hide hao
  obtain ⟨R, hR⟩ : ∃ R, decide (l.sum = x) = R := ⟨_, rfl⟩
  rw [hR]
  have HR := hide hR
  clear hn hU hao hR
  go_enter Try.func66, Try.ntmps66
  go_wp2
  go_loopw [0, 9] (fun wh i wr => ∃ k y : Nat, k ≤ n ∧ i = .int .i64 k ∧ wh = .int .u64 y ∧ wr = w ∧ Hid ((l.take k).sum + y = x)) (fun _ i _ => n - (intOf i).toNat)
  case atStart => exact ⟨0, x, by omega, rfl, rfl, rfl, by simp [hide]⟩
  case round =>
    obtain ⟨k, y, hk, rfl, rfl, rfl, HY⟩ := hrel
    by_cases hlt : k < n
    · obtain ⟨v, hv⟩ : ∃ v, l[k]? = some v := ⟨_, List.getElem?_eq_getElem (by have := HN.out; omega)⟩
      have c0 := HU.out k v hv
      have hs := take_sum hv
      have hs2 := take_le l (k + 1)
      have HV := hide (And.intro hs hs2)
      obtain ⟨rfl, cl⟩ := HA.out (by omega)
      clear hs hs2 hv
      by_cases hc : y < v
      · have HF : Hid (R = false) := by
          rw [← HR.out]
          have := HV.out
          have := HY.out
          exact decide_eq_false (by omega)
        have d : decide (y < v) = true := decide_eq_true hc
        go_wp2
        go_ret
        exact ⟨by rw [HF.out]; rfl, rfl⟩
      · have d : decide (y < v) = false := decide_eq_false hc
        have hy : y < 18446744073709551616 := by have := HY.out; omega
        have hw : IntKind.u64.wrap ((y : Int) - (v : Int)) = ((y - v : Nat) : Int) := by
          rw [IntWalk.u64_in _ ⟨by omega, by omega⟩]
          omega
        have HJ : Hid ((l.take (k + 1)).sum + (y - v) = x) := by
          have := HV.out.1
          have := HY.out
          show _ = _
          omega
        clear hy
        go_wp2
        go_roundw
        case rel => exact ⟨k + 1, y - v, by omega, by go_num, by first | rfl | trivial, by first | rfl | trivial, HJ.out⟩
        case measure => simp [intOf]; omega
    · obtain rfl : k = n := by omega
      have HF : Hid (R = ((y : Int) == 0)) := by
        rw [← HR.out]
        have e : l.take k = l := by rw [HN.out, List.take_length]
        have := HY.out
        rw [e] at this
        by_cases h0 : y = 0
        · have e1 : ((y : Int) == 0) = true := by simp; omega
          rw [e1]
          exact decide_eq_true (by omega)
        · have : ((y : Int) == 0) = false := by simp; omega
          rw [this]
          exact decide_eq_false (by omega)
      go_wp2
      go_ret
      exact ⟨by rw [HF.out]; rfl, rfl⟩
set_option maxRecDepth 10000 in
set_option maxHeartbeats 6400000 in
theorem shareFaultG {w : World} {p a b : Nat} {mk ch : Value} {S : LS} (h : LG w p a b mk ch S) (s : Sh) (hs : s.In) :
    Calls Try.prog 65 #[.pointer (some ⟨p, 0, none⟩), .agg #[.int .u64 (s.tw : Nat), .int .u64 (s.am : Nat)]] w fun e w' => e = .returned (.int .i64 (S.share s : Nat)) ∧ Hid (Below w.heap.size w w') := by
  obtain ⟨oa, hoa⟩ : ∃ oa, byK Ac.id S.acc s.tw = oa := ⟨_, rfl⟩
  obtain ⟨W1, hW1⟩ : ∃ W1, w.alloc (.cells #[.int .u64 (s.tw : Nat), .int .u64 (s.am : Nat)] 109) = W1 := ⟨_, rfl⟩
  have b1 : Below w.heap.size w W1 := by rw [← hW1]; exact (Below.refl _ w).alloc (Nat.le_refl _) _
  have q1 : W1.heap[w.heap.size]? = some (.cells #[.int .u64 (s.tw : Nat), .int .u64 (s.am : Nat)] 109 (0, 0)) := by rw [← hW1]; exact alloc_atK _ _
  have HKP : Hid (∀ V, Below W1.heap.size W1 V → (V.cell? ⟨p, 1, none⟩ = some (.map (some a)) ∧ (V.cell? ⟨w.heap.size, 0, none⟩ = some (.int .u64 (s.tw : Nat)) ∧ V.cell? ⟨w.heap.size, 1, none⟩ = some (.int .u64 (s.am : Nat))) ∧ (Instr.lookup 65 (.map (some a)) (.int .u64 (s.tw : Int)) true).run Try.prog V = .ok (.tuple #[.agg (oa.getD Ac.zero).arr, .bool oa.isSome]) V) ∧ p < V.heap.size) := fun V hV => by
    have hL := (h.kept b1).kept hV
    have l2 := hL.acc.look_ok hs.h0
    rw [hoa] at l2
    have q := (hV.block _ (block_lt q1)).trans q1
    exact ⟨⟨hL.c.2.1, ⟨block_cell q 0, block_cell q 1⟩, l2⟩, hL.lt.1⟩
  obtain ⟨⟨c1, ⟨x0, x1⟩, l2⟩, pl⟩ := HKP.out W1.drew (Below.refl _ W1).drew
  have xl : w.heap.size < W1.drew.heap.size := block_lt q1
  have HB1 := hide b1
  have HA := hide hoa
  have HQ := hide q1
  have HW1 := hide hW1
  clear h b1 hoa q1 hW1 hs
  unfold Ac.arr at l2 HKP
  go_enter Try.func65, Try.ntmps65
  go_upto_region 1 with fail
  rw [HW1.out]
  clear HW1
  go_region_held (fun V => V.cell? ⟨p, 1, none⟩ = some (.map (some a)) ∧ (V.cell? ⟨w.heap.size, 0, none⟩ = some (.int .u64 (s.tw : Nat)) ∧ V.cell? ⟨w.heap.size, 1, none⟩ = some (.int .u64 (s.am : Nat))) ∧ (Instr.lookup 65 (.map (some a)) (.int .u64 (s.tw : Int)) true).run Try.prog V = .ok (.tuple #[.agg #[.int .u64 ((oa.getD Ac.zero).id : Nat), .int .u64 ((oa.getD Ac.zero).ow : Nat), .int .u64 ((oa.getD Ac.zero).ba : Nat), .int .u64 ((oa.getD Ac.zero).cp : Nat)], .bool oa.isSome]) V)
    ((refine (HKP.out _ ?_).1; repeat (first | exact Below.refl _ _ | refine Below.drew ?_ | refine Below.setCell ?_ (by simp) _ | refine Below.alloc ?_ (by first | exact Nat.le_refl _ | (simp; done)) _))) (fail)
  all_goals
    obtain ⟨W2, hW2⟩ : ∃ W2, (W1.alloc (.cells #[.int .u64 ((oa.getD Ac.zero).id : Nat), .int .u64 ((oa.getD Ac.zero).ow : Nat), .int .u64 ((oa.getD Ac.zero).ba : Nat), .int .u64 ((oa.getD Ac.zero).cp : Nat)] 80)).drew = W2 := ⟨_, rfl⟩
    rw [hW2]
    have b2 : Below W1.heap.size W1 W2 := by rw [← hW2]; exact Below.drew ((Below.refl _ _).alloc (Nat.le_refl _) _)
    obtain ⟨⟨_, ⟨y0, y1⟩, _⟩, _⟩ := HKP.out W2 b2
    have yl : w.heap.size < W2.heap.size := Nat.lt_of_lt_of_le (block_lt HQ.out) b2.size
    have HB := hide (HB1.out.trans (b2.mono HB1.out.size))
    have HSH : Hid (S.share s = if s.tw = 0 then 40 else if oa.isSome = false then 42 else if s.am = 0 then 44 else 0) := by unfold LS.share; rw [HA.out]; exact rfl
    obtain ⟨R, hR⟩ : ∃ R, S.share s = R := ⟨_, rfl⟩
    have HR := hide hR
    clear hW2 b2 HKP HQ HB1 HA x0 x1 xl c1 l2 pl hR
    rcases oa with _ | y
    · by_cases h0 : s.tw = 0
      · have HF : Hid (S.share s = 40) := by rw [HSH.out, if_pos h0]; exact rfl
        have g : ((s.tw : Int) == 0) = true := by simp; omega
        clear h0 HSH
        go_wp2
        go_ret
        exact ⟨by rw [HF.out]; rfl, HB.out⟩
      · have HF : Hid (S.share s = 42) := by rw [HSH.out, if_neg h0]; exact rfl
        have g : ((s.tw : Int) == 0) = false := by simp; omega
        clear h0 HSH
        go_wp2
        go_ret
        exact ⟨by rw [HF.out]; rfl, HB.out⟩
    · by_cases h0 : s.tw = 0
      · have HF : Hid (S.share s = 40) := by rw [HSH.out, if_pos h0]; exact rfl
        have g : ((s.tw : Int) == 0) = true := by simp; omega
        clear h0 HSH
        go_wp2
        go_ret
        exact ⟨by rw [HF.out]; rfl, HB.out⟩
      · have g : ((s.tw : Int) == 0) = false := by simp; omega
        by_cases h1 : s.am = 0
        · have HF : Hid (S.share s = 44) := by rw [HSH.out, if_neg h0, if_neg (by simp), if_pos h1]; exact rfl
          have g' : ((s.am : Int) == 0) = true := by simp; omega
          clear h0 h1 HSH
          go_wp2
          go_ret
          exact ⟨by rw [HF.out]; rfl, HB.out⟩
        · have HF : Hid (S.share s = 0) := by rw [HSH.out, if_neg h0, if_neg (by simp), if_neg h1]; exact rfl
          have g' : ((s.am : Int) == 0) = false := by simp; omega
          clear h0 h1 HSH
          go_wp2
          go_ret
          exact ⟨by rw [HF.out]; rfl, HB.out⟩
end Go.Proofs.Ytcfenjpdjogmdaa
