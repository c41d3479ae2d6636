import Derived.Test.YtcfenjpdjogmdaaLT28
import Derived.Carry
namespace Go.Proofs.Ytcfenjpdjogmdaa
open Go.RowKit

/-- Between two rounds of fit. -/
structure Ft (w : World) (S : LS) (l : List Sh) (k : Nat) (V : World) : Prop where
  bel : Below w.heap.size w V
  tu : TUm V w.heap.size k (shOf (l.take k))
  le : ∀ x, shOf (l.take k) x ≤ S.room x
set_option maxRecDepth 10000 in
set_option maxHeartbeats 6400000 in
theorem fitG {w : World} {p a b : Nat} {mk ch : Value} {S : LS} (h : LG w p a b mk ch S) (hok : S.Ok) {bs off : Nat} {ao : Option Addr} (n cap : Nat) {l : List Sh} (hn : n = l.length) (hA : Shs w bs off l) (hao : 0 < n → ao = some ⟨bs, off, none⟩ ∧ bs < w.heap.size) (hle : n ≤ 64) (hkn : S.shares l = 0) (hsum : shSum l < 18446744073709551616) :
    Calls Try.prog 68 #[.pointer (some ⟨p, 0, none⟩), .slice ao n cap] w fun e w' => e = .returned (.bool (S.fit l)) ∧ Hid (Below w.heap.size w w') := by
  have HL := hide h
  have HO := hide hok
  have HA := hide hao
  have HC := hide hA
  have HN := hide hn
  have HKN := hide (LS.known hkn)
  have HSU := hide hsum
  have HS0 : Hid (Ft w S l 0 (w.alloc (.map #[] 0))) := ⟨(Below.refl _ w).alloc (Nat.le_refl _) _, tum_made w, fun x => Nat.zero_le _⟩
  have m1 := run_makeMap (P := Try.prog) 138 w
  obtain ⟨R, hR⟩ : ∃ R, S.fit l = R := ⟨_, rfl⟩
  rw [hR]
  have HR := hide hR
  clear h hok hao hA hn hkn hsum hR
  go_enter Try.func68, Try.ntmps68
  go_wp2
  go_loopw [11] (fun i wr => ∃ k : Nat, k ≤ n ∧ i = .int .i64 k ∧ Hid (Ft w S l k wr)) (fun i _ => n - (intOf i).toNat)
  case atStart => exact ⟨0, by omega, rfl, HS0.out⟩
  case round =>
    clear HS0 m1
    obtain ⟨k, hk, rfl, HF⟩ := hrel
    by_cases hlt : k < n
    · obtain ⟨x, hx⟩ : ∃ x, l[k]? = some x := ⟨_, List.getElem?_eq_getElem (by have := HN.out; omega)⟩
      obtain ⟨rfl, hb⟩ := HA.out (by omega)
      obtain ⟨c0, c1⟩ := (HC.out.below HF.out.bel (fun _ => hb)).at_ k x hx
      have cl : bs < wr.heap.size := Nat.lt_of_lt_of_le hb HF.out.bel.size
      have hxin := HC.out.ok x (List.mem_of_getElem? hx)
      have hxk := HKN.out x (List.mem_of_getElem? hx)
      obtain ⟨z, hz⟩ := Option.isSome_iff_exists.1 hxk.2.1
      have hzin := HO.out.ia z (byK_mem hz).1
      have hzc := HO.out.ca z (byK_mem hz).1
      have hst := shOf_take hx
      have hle1 : shOf (l.take (k + 1)) x.tw < 18446744073709551616 := by
        have h1 := shOf_le l (k + 1) x.tw
        have h2 := shOf_sum l x.tw
        have := HSU.out
        omega
      have hsv : shOf (l.take (k + 1)) x.tw = shOf (l.take k) x.tw + x.am := by rw [hst, if_pos rfl]
      obtain ⟨W2, hW2⟩ : ∃ W2, wr.alloc (.cells #[.int .u64 (x.tw : Nat), .int .u64 (x.am : Nat)] 109) = W2 := ⟨_, rfl⟩
      have b2 : Below w.heap.size w W2 := by rw [← hW2]; exact HF.out.bel.alloc HF.out.bel.size _
      have q2 : W2.heap[wr.heap.size]? = some (.cells #[.int .u64 (x.tw : Nat), .int .u64 (x.am : Nat)] 109 (0, 0)) := by rw [← hW2]; exact alloc_atK _ _
      have t2 : TUm W2 w.heap.size k (shOf (l.take k)) := by rw [← hW2]; exact HF.out.tu.kept (World.grownBy_alloc wr _ none) (by simp)
      have hlk := t2.look hxin.h0
      obtain ⟨W3, hr3, t3, g3⟩ := t2.put hxin.h0 (by unfold maxLen; omega) (shOf (l.take (k + 1)) x.tw)
      have t3' : TUm W3 w.heap.size (k + 1) (shOf (l.take (k + 1))) := by
        have e : (fun y => if y = x.tw then shOf (l.take (k + 1)) x.tw else shOf (l.take k) y) = shOf (l.take (k + 1)) := by
          funext y
          by_cases e : y = x.tw
          · rw [if_pos e, e]
          · rw [if_neg e, hst, if_neg (fun e' => e e'.symm)]; rfl
        rw [e] at t3
        exact t3
      have b3 : Below w.heap.size w W3 := b2.grown g3 b2.size (fun j e => by cases e; exact Nat.le_refl _)
      have q3 : W3.heap[wr.heap.size]? = some (.cells #[.int .u64 (x.tw : Nat), .int .u64 (x.am : Nat)] 109 (0, 0)) := (g3.block _ (block_lt q2) (fun e => by
        obtain ⟨es, q, ho⟩ := t2.obj
        have q2' := q2
        rw [Option.some.inj e, ho] at q2'
        cases q2')).trans q2
      obtain ⟨A1, hA1⟩ : ∃ A1, shOf (l.take k) x.tw = A1 := ⟨_, rfl⟩
      obtain ⟨A2, hA2⟩ : ∃ A2, shOf (l.take (k + 1)) x.tw = A2 := ⟨_, rfl⟩
      have hroom : S.room x.tw = z.cp - z.ba := by unfold LS.room; rw [hz]; rfl
      have HKP : Hid (∀ V, Below W3.heap.size W3 V → (V.cell? ⟨p, 1, none⟩ = some (.map (some a)) ∧ (V.cell? ⟨wr.heap.size, 0, none⟩ = some (.int .u64 (x.tw : Nat)) ∧ V.cell? ⟨wr.heap.size, 1, none⟩ = some (.int .u64 (x.am : Nat))) ∧ (Instr.lookup 138 (.map (some w.heap.size)) (.int .u64 (x.tw : Int)) false).run Try.prog V = .ok (.int .u64 (A2 : Int)) V ∧ (Instr.lookup 65 (.map (some a)) (.int .u64 (x.tw : Int)) false).run Try.prog V = .ok (.agg #[.int .u64 (z.id : Nat), .int .u64 (z.ow : Nat), .int .u64 (z.ba : Nat), .int .u64 (z.cp : Nat)]) V) ∧ p < V.heap.size ∧ wr.heap.size < V.heap.size) := fun V hV => by
        have hL := HL.out.kept (b3.trans (hV.mono b3.size))
        have l1 := (t3'.kept (below_none hV) (by simp)).look hxin.h0
        have l2 := hL.acc.look hxin.h0
        rw [hz] at l2
        rw [hA2] at l1
        have q := (hV.block _ (block_lt q3)).trans q3
        exact ⟨⟨hL.c.2.1, ⟨block_cell q 0, block_cell q 1⟩, l1, l2⟩, hL.lt.1, block_lt q⟩
      have HRM := hide (roomG W3.drew z hzin hzc)
      unfold Ac.arr at HRM
      obtain ⟨r, hrr⟩ : ∃ r, z.cp - z.ba = r := ⟨_, rfl⟩
      rw [hrr] at HRM
      have HNX : Hid (∀ V, Below W3.heap.size W3 V → ¬ r < A2 → Ft w S l (k + 1) V) := fun V hV hc => ⟨b3.trans (hV.mono b3.size), t3'.kept (below_none hV) (by simp), fun y => by
        by_cases e : y = x.tw
        · rw [e, hA2, hroom, hrr]; omega
        · rw [hst, if_neg (fun e' => e e'.symm)]; exact HF.out.le y⟩
      have HNO : Hid (r < A2 → R = false) := fun hc => by
        rw [← HR.out]
        exact LS.fit_no hxk.2.1 (k := k + 1) (by rw [hroom, hrr, hA2]; exact hc)
      have HB3 := hide b3
      have hwr : IntKind.u64.wrap ((A1 : Int) + (x.am : Int)) = (A2 : Int) := by
        rw [IntWalk.u64_in _ ⟨by omega, by omega⟩]
        omega
      rw [hA1] at hlk
      rw [hA2] at hr3
      have HW2 := hide hW2
      have y0 := block_cell q2 0
      have y1 := block_cell q2 1
      have yl := block_lt q2
      simp at y0 y1
      clear hx hb hxin hxk hz hzin hzc hst hle1 hsv hW2 b2 q2 t2 t3 t3' g3 b3 q3 hA1 hA2 hroom hrr
      go_upto_region 5 with fail
      rw [HW2.out]
      clear HW2 c0 c1 cl
      go_upto_region 6 with fail
      clear y0 y1 yl hlk hr3 hwr
      obtain ⟨⟨d1, ⟨z0, z1⟩, l1, l2⟩, pl, zl⟩ := HKP.out W3.drew (Below.refl _ W3).drew
      go_region_held (fun V => V.cell? ⟨p, 1, none⟩ = some (.map (some a)) ∧ (V.cell? ⟨wr.heap.size, 0, none⟩ = some (.int .u64 (x.tw : Nat)) ∧ V.cell? ⟨wr.heap.size, 1, none⟩ = some (.int .u64 (x.am : Nat))) ∧ (Instr.lookup 138 (.map (some w.heap.size)) (.int .u64 (x.tw : Int)) false).run Try.prog V = .ok (.int .u64 (A2 : Int)) V ∧ (Instr.lookup 65 (.map (some a)) (.int .u64 (x.tw : Int)) false).run Try.prog V = .ok (.agg #[.int .u64 (z.id : Nat), .int .u64 (z.ow : Nat), .int .u64 (z.ba : Nat), .int .u64 (z.cp : Nat)]) V)
        (first | exact (HKP.out _ (Below.refl _ _).drew).1 | exact (HKP.out _ ((Below.refl _ _).drew.trans HG5.out)).1)
        (first | (go_at_call 50; refine HRM.out.mono ?_; rintro e V5 ⟨rfl, HG5⟩))
      all_goals
        have hB5 : Below W3.heap.size W3 V5 := (Below.refl _ W3).drew.trans HG5.out
        have HBE := hide (HB3.out.trans (hB5.mono HB3.out.size))
        by_cases hc : r < A2
        · have HF2 := hide (HNO.out hc)
          have d : decide (r < A2) = true := decide_eq_true hc
          clear hB5 HKP HNX HNO HRM HG5 d1 z0 z1 l1 l2 pl zl hc
          rw [d]
          clear d
          go_wp2
          go_ret
          exact ⟨by rw [HF2.out]; rfl, HBE.out⟩
        · have HJ := hide (HNX.out V5 hB5 hc)
          have d : decide (r < A2) = false := decide_eq_false hc
          clear hB5 HKP HNX HNO HRM HG5 d1 z0 z1 l1 l2 pl zl hc
          rw [d]
          clear d
          go_wp2
          go_roundw
          case rel => exact ⟨k + 1, by omega, by go_num, HJ.out⟩
          case measure => simp [intOf]; omega
    · obtain rfl : k = n := by omega
      have e : l.take k = l := by rw [HN.out, List.take_length]
      have HF2 : Hid (R = true) := by
        rw [← HR.out]
        have := HF.out.le
        rw [e] at this
        exact LS.fit_yes HO.out.ua this
      have HBE := hide HF.out.bel
      go_wp2
      go_ret
      exact ⟨by rw [HF2.out]; rfl, HBE.out⟩
end Go.Proofs.Ytcfenjpdjogmdaa
namespace Go.Proofs.Ytcfenjpdjogmdaa
open Go.RowKit

theorem LS.shares_app {S : LS} : ∀ (l r : List Sh), S.shares (l ++ r) = if S.shares l ≠ 0 then S.shares l else S.shares r
  | [], r => by rw [List.nil_append]; unfold LS.shares; rw [if_neg (by simp)]
  | y :: l, r => by
    rw [List.cons_append]
    show (if S.share y ≠ 0 then S.share y else LS.shares S (l ++ r)) = if (if S.share y ≠ 0 then S.share y else LS.shares S l) ≠ 0 then (if S.share y ≠ 0 then S.share y else LS.shares S l) else LS.shares S r
    by_cases e : S.share y ≠ 0
    · rw [if_pos e, if_pos e, if_pos e]
    · rw [if_neg e, if_neg e, LS.shares_app l r]
theorem LS.shares_take {S : LS} {l : List Sh} {k : Nat} {s : Sh} (h : l[k]? = some s) (h0 : S.shares (l.take k) = 0) : S.shares (l.take (k + 1)) = S.share s := by
  have e1 : l.take (k + 1) = l.take k ++ [s] := by rw [List.take_add_one, h]; rfl
  rw [e1, LS.shares_app, if_neg (by simp [h0])]
  show (if S.share s ≠ 0 then S.share s else 0) = S.share s
  by_cases e : S.share s ≠ 0
  · rw [if_pos e]
  · rw [if_neg e]; omega
theorem LS.shares_pre {S : LS} {l : List Sh} {k : Nat} (h : S.shares (l.take k) ≠ 0) : S.shares l = S.shares (l.take k) := by
  have := LS.shares_app (S := S) (l.take k) (l.drop k)
  rw [List.take_append_drop, if_pos h] at this
  exact this
/-- The amounts as they lie. -/
theorem Wu.us {w V : World} {v : Value} {l : List Sh} (h : Wu w v l V) : ∃ ao cap g, v = .slice ao l.length cap ∧ Ug V g 0 (l.map Sh.am) ∧ (0 < l.length → ao = some ⟨g, 0, none⟩ ∧ g < V.heap.size) := by
  rcases h.row.2 with ⟨rfl, h0⟩ | ⟨g, cap, cur, rfl, h1⟩
  · have e : l = [] := List.length_eq_zero_iff.1 h0
    subst e
    exact ⟨none, 0, 0, rfl, fun i v hi => by simp at hi, fun h => by simp at h⟩
  · refine ⟨_, cap, g, rfl, fun i v hi => ?_, fun _ => ⟨rfl, (h.row.lt g rfl).2⟩⟩
    have hv : (amV l)[i]? = some (.int .u64 (v : Nat)) := by
      unfold amV
      rw [List.getElem?_map] at hi ⊢
      cases e : l[i]? with
      | none => rw [e] at hi; cases hi
      | some s => rw [e] at hi; cases hi; rfl
    have := h.row.cells (g := g) rfl i _ hv
    rw [add_at] at this
    rw [Nat.zero_add] at this ⊢
    exact this
set_option maxRecDepth 10000 in
set_option maxHeartbeats 6400000 in
theorem sharesFaultG {w : World} {p a b : Nat} {mk ch : Value} {S : LS} (h : LG w p a b mk ch S) (hok : S.Ok) (x : Ho) (hx : x.am < 18446744073709551616) {bs off : Nat} {ao : Option Addr} (n cap : Nat) {l : List Sh} (hn : n = l.length) (hA : Shs w bs off l) (hao : 0 < n → ao = some ⟨bs, off, none⟩ ∧ bs < w.heap.size) (hle : n ≤ 64) {c : Nat} (hc : (if S.shares l ≠ 0 then S.shares l else if shSum l ≠ x.am then 49 else if S.fit l = false then 47 else if S.full l.length = true then 43 else 0) = c) :
    Calls Try.prog 53 #[.pointer (some ⟨p, 0, none⟩), .agg x.arr, .slice ao n cap] w fun e w' => e = .returned (.int .i64 (c : Nat)) ∧ Hid (Below w.heap.size w w') := by
  obtain ⟨W1, hW1⟩ : ∃ W1, w.alloc (.cells x.arr 83) = W1 := ⟨_, rfl⟩
  have b1 : Below w.heap.size w W1 := by rw [← hW1]; exact (Below.refl _ w).alloc (Nat.le_refl _) _
  have q1 : W1.heap[w.heap.size]? = some (.cells x.arr 83 (0, 0)) := by rw [← hW1]; exact alloc_atK _ _
  have HL := hide h
  have HO := hide hok
  have HA := hide hao
  have HC := hide hA
  have HN := hide hn
  have HX := hide hx
  have HCC := hide hc
  have HB1 := hide b1
  have HQ1 := hide q1
  have HW1 := hide hW1
  have el := (h.kept b1).lt.1
  clear h hok hao hA hn hx hc b1 q1 hW1
  unfold Ho.arr at HQ1 HW1 ⊢
  go_enter Try.func53, Try.ntmps53
  go_upto_region 1 with fail
  rw [HW1.out]
  clear HW1
  go_wp2
  go_loopw [12] (fun i wr => ∃ k : Nat, k ≤ n ∧ i = .int .i64 k ∧ Hid (Below w.heap.size w wr ∧ W1.heap.size ≤ wr.heap.size ∧ wr.heap[w.heap.size]? = some (.cells #[.int .u64 (x.id : Nat), .int .u64 (x.fr : Nat), .int .u64 (x.am : Nat)] 83 (0, 0)) ∧ S.shares (l.take k) = 0)) (fun i _ => n - (intOf i).toNat)
  case atStart => exact ⟨0, by omega, rfl, HB1.out, Nat.le_refl _, HQ1.out, rfl⟩
  case round =>
    obtain ⟨k, hk, rfl, HF⟩ := hrel
    by_cases hlt : k < n
    · obtain ⟨y, hy⟩ : ∃ y, l[k]? = some y := ⟨_, List.getElem?_eq_getElem (by have := HN.out; omega)⟩
      obtain ⟨rfl, hb⟩ := HA.out (by omega)
      obtain ⟨c0, c1⟩ := (HC.out.below HF.out.1 (fun _ => hb)).at_ k y hy
      have cl : bs < wr.heap.size := Nat.lt_of_lt_of_le hb HF.out.1.size
      have hyin := HC.out.ok y (List.mem_of_getElem? hy)
      obtain ⟨W2, hW2⟩ : ∃ W2, wr.alloc (.cells #[.int .u64 (y.tw : Nat), .int .u64 (y.am : Nat)] 109) = W2 := ⟨_, rfl⟩
      have b2 : Below wr.heap.size wr W2 := by rw [← hW2]; exact (Below.refl _ wr).alloc (Nat.le_refl _) _
      have q2 : W2.heap[wr.heap.size]? = some (.cells #[.int .u64 (y.tw : Nat), .int .u64 (y.am : Nat)] 109 (0, 0)) := by rw [← hW2]; exact alloc_atK _ _
      have bw2 := HF.out.1.trans (b2.mono HF.out.1.size)
      have HSF := hide (shareFaultG (HL.out.kept bw2) y hyin)
      have HBW := hide bw2
      have HQB := hide ((b2.block _ (block_lt HF.out.2.2.1)).trans HF.out.2.2.1)
      have HSZ := hide (Nat.le_trans HF.out.2.1 b2.size)
      obtain ⟨f, hf⟩ : ∃ f, S.share y = f := ⟨_, rfl⟩
      have HST := hide ((LS.shares_take hy HF.out.2.2.2).trans hf)
      rw [hf] at HSF
      have HW2 := hide hW2
      have y0 := block_cell q2 0
      have y1 := block_cell q2 1
      have yl := block_lt q2
      simp at y0 y1
      clear hy hb hyin hW2 b2 q2 bw2 hf
      go_upto_region 4 with fail
      rw [HW2.out]
      clear HW2 c0 c1 cl
      go_wp2_with fail
      refine HSF.out.mono ?_
      rintro e w3 ⟨rfl, G3⟩
      have HB3 := hide (HBW.out.trans (G3.out.mono HBW.out.size))
      have HQ3 := hide ((G3.out.block _ (block_lt HQB.out)).trans HQB.out)
      have HS3 := hide (Nat.le_trans HSZ.out G3.out.size)
      clear HSF G3 y0 y1 yl HBW HQB HSZ
      by_cases h0 : f = 0
      · have g : ((f : Int) == 0) = true := by simp; omega
        have g' : ((f : Int) != 0) = false := by simp; omega
        have HJ : Hid (S.shares (l.take (k + 1)) = 0) := HST.out.trans h0
        clear h0
        go_wp2
        go_roundw
        case rel => exact ⟨k + 1, by omega, by go_num, HB3.out, HS3.out, HQ3.out, HJ.out⟩
        case measure => simp [intOf]; omega
      · have g : ((f : Int) == 0) = false := by simp; omega
        have g' : ((f : Int) != 0) = true := by simp; omega
        have HE : Hid (c = f) := by
          have h1 := HST.out
          have h2 := LS.shares_pre (S := S) (l := l) (k := k + 1) (by rw [h1]; exact h0)
          have := HCC.out
          rw [h2, h1, if_pos h0] at this
          exact this.symm
        clear h0
        go_wp2
        go_ret
        exact ⟨by rw [HE.out]; rfl, HB3.out⟩
    · obtain rfl : k = n := by omega
      have hsh : S.shares l = 0 := by
        have e : l.take k = l := by rw [HN.out, List.take_length]
        rw [← e]
        exact HF.out.2.2.2
      have hdr : Below wr.heap.size wr wr.drew := (Below.refl _ wr).drew
      have haw : 0 < k → ao = some ⟨bs, off, none⟩ ∧ bs < wr.heap.size := fun h0 => ⟨(HA.out h0).1, Nat.lt_of_lt_of_le (HA.out h0).2 HF.out.1.size⟩
      have hsw : Shs wr bs off l := HC.out.below HF.out.1 (fun h0 => (HA.out (by rw [HN.out]; exact h0)).2)
      have HAM := hide (amountsG (w := wr.drew) k cap HN.out (hsw.below hdr (fun h0 => (haw (by rw [HN.out]; exact h0)).2)) haw hle)
      have HKP : Hid (∀ V, Below wr.heap.size wr V → V.cell? ⟨w.heap.size, 2, none⟩ = some (.int .u64 (x.am : Nat)) ∧ w.heap.size < V.heap.size) := fun V hV => by
        have q := (hV.block _ (block_lt HF.out.2.2.1)).trans HF.out.2.2.1
        exact ⟨block_cell q 2, block_lt q⟩
      obtain ⟨B, hB⟩ : ∃ B, decide ((l.map Sh.am).sum = x.am) = B := ⟨_, rfl⟩
      have HMU : Hid (∀ V ao5 cap5 g5, Ug V g5 0 (l.map Sh.am) → (0 < l.length → ao5 = some ⟨g5, 0, none⟩ ∧ g5 < V.heap.size) → Calls Try.prog 66 #[.int .u64 (x.am : Nat), .slice ao5 l.length cap5] V fun e w' => e = .returned (.bool B) ∧ w' = V) := fun V ao5 cap5 g5 h1 h2 => by
        have := makeUpG (w := V) l.length cap5 (l := l.map Sh.am) (by simp) h1 h2 (by have := HN.out; omega) x.am HX.out
        rw [hB] at this
        exact this
      have HBB := hide hB
      have HSH := hide hsh
      have HFIT : Hid (∀ V, Below wr.heap.size wr V → shSum l < 18446744073709551616 → Calls Try.prog 68 #[.pointer (some ⟨p, 0, none⟩), .slice ao k cap] V fun e w' => e = .returned (.bool (S.fit l)) ∧ Hid (Below V.heap.size V w')) := fun V hV hs => fitG (HL.out.kept (HF.out.1.trans (hV.mono HF.out.1.size))) HO.out k cap HN.out (hsw.below hV (fun h0 => (haw (by rw [HN.out]; exact h0)).2)) (fun h0 => ⟨(haw h0).1, Nat.lt_of_lt_of_le (haw h0).2 hV.size⟩) hle hsh hs
      have HWR := hide HF.out.1
      obtain ⟨d2, dl⟩ := HKP.out wr.drew hdr
      clear hsh hdr haw hsw hB hlt hk
      go_upto_region 8 with fail
      go_region_held (fun V => V.cell? ⟨w.heap.size, 2, none⟩ = some (.int .u64 (x.am : Nat)))
        (first | exact (HKP.out _ (Below.refl _ _).drew).1 | exact (HKP.out _ ((Below.refl _ _).drew.trans HG5.out.bel)).1)
        (first | (go_at_call 67; refine HAM.out.mono ?_; rintro e V5 ⟨v, rfl, HG5⟩; obtain ⟨ao5, cap5, g5, rfl, hu5, ha5⟩ := HG5.out.us; have HM5 := hide (HMU.out V5 ao5 cap5 g5 hu5 ha5); clear hu5 ha5) | (go_at_call 66; refine HM5.out.mono ?_; rintro e V6 ⟨rfl, rfl⟩))
      have hB6 : Below wr.heap.size wr V6 := (Below.refl _ wr).drew.trans HG5.out.bel
      have HB6 := hide hB6
      have HB6w := hide (HWR.out.trans (hB6.mono HWR.out.size))
      rcases B with _ | _
      · have HE : Hid (c = 49) := by
          have := HCC.out
          rw [if_neg (by simp [HSH.out]), if_pos (by unfold shSum; exact of_decide_eq_false HBB.out)] at this
          exact this.symm
        clear hB6 HKP HMU HFIT HAM HM5 HG5 d2 dl
        go_wp2
        go_ret
        exact ⟨by rw [HE.out]; rfl, HB6w.out⟩
      · have hsum : shSum l = x.am := of_decide_eq_true HBB.out
        obtain ⟨R, hR⟩ : ∃ R, S.fit l = R := ⟨_, rfl⟩
        have HF6 := hide (HFIT.out V6 hB6 (by rw [hsum]; exact HX.out))
        rw [hR] at HF6
        have HSR := hide (And.intro hsum hR)
        clear hB6 HKP HMU HFIT HAM HM5 HG5 d2 dl hsum hR
        go_wp2_with fail
        refine HF6.out.mono ?_
        rintro e V7 ⟨rfl, G7⟩
        have HB7w := hide (HB6w.out.trans (G7.out.mono HB6w.out.size))
        clear HF6
        rcases R with _ | _
        · have HE : Hid (c = 47) := by
            have := HCC.out
            rw [if_neg (by simp [HSH.out]), if_neg (by simp [HSR.out.1]), if_pos HSR.out.2] at this
            exact this.symm
          go_wp2
          go_ret
          exact ⟨by rw [HE.out]; rfl, HB7w.out⟩
        · have h7 := HL.out.kept HB7w.out
          have HFU := hide (fullG h7 HO.out k (by omega))
          have e7 := h7.lt.1
          obtain ⟨u, hu⟩ : ∃ u, S.full k = u := ⟨_, rfl⟩
          rw [hu] at HFU
          have HU := hide hu
          clear hu h7 el
          go_wp2_with fail
          refine HFU.out.mono ?_
          rintro e V8 ⟨rfl, rfl⟩
          clear HFU
          rcases u with _ | _
          · have HE : Hid (c = 0) := by
              have := HCC.out
              rw [if_neg (by simp [HSH.out]), if_neg (by simp [HSR.out.1]), if_neg (by simp [HSR.out.2]), ← HN.out, HU.out, if_neg (by simp)] at this
              exact this.symm
            go_wp2
            go_ret
            exact ⟨by rw [HE.out]; rfl, HB7w.out⟩
          · have HE : Hid (c = 43) := by
              have := HCC.out
              rw [if_neg (by simp [HSH.out]), if_neg (by simp [HSR.out.1]), if_neg (by simp [HSR.out.2]), ← HN.out, HU.out, if_pos rfl] at this
              exact this.symm
            go_wp2
            go_ret
            exact ⟨by rw [HE.out]; rfl, HB7w.out⟩
end Go.Proofs.Ytcfenjpdjogmdaa
