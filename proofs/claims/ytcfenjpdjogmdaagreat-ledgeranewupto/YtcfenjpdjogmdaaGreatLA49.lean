import Derived.Test.YtcfenjpdjogmdaaGreatLA48
namespace Go.Proofs.YtcfenjpdjogmdaaGreat
open Go.RowKit

/-- What Restore gives. -/
def RstP (w : World) (T0 : Nat) (A : List Ac) (H : List Ho) (nx : Nat) (J : List Jz) (v er : Value) (w' : World) : Prop := Below w.heap.size w w' ∧ ((∃ x c : Nat, rstF T0 A H nx J = (x, c) ∧ c ≠ 0 ∧ v = .pointer none ∧ Chain w'.heap.size w' [⟨ledgerN, (x : Int)⟩] er (c : Int)) ∨ (PassK T0 A H nx J 5 ∧ er = .nilIface ∧ ∃ p a b, v = .pointer (some ⟨p, 0, none⟩) ∧ LG w' p a b nilS nilS ⟨T0, A, H, nx, rgs J⟩ ∧ w.heap.size ≤ p ∧ w.heap.size ≤ a ∧ w.heap.size ≤ b))
/-- Restore under way. -/
structure Rs (w W1 : World) (q p a b : Nat) (bx : Array Value) (V : World) (S : LS) : Prop where
  b0 : Below w.heap.size w W1
  bel : Below W1.heap.size W1 V
  box : W1.heap[q]? = some (.cells bx 35 (0, 0))
  lg : LG V p a b nilS nilS S
  ge : W1.heap.size ≤ p ∧ W1.heap.size ≤ a ∧ W1.heap.size ≤ b
section
variable {w W1 : World} {q p a b : Nat} {bx : Array Value} {V V' : World} {S S' : LS}
theorem Rs.low (h : Rs w W1 q p a b bx V S) : Below w.heap.size w V := h.b0.trans (h.bel.mono h.b0.size)
theorem Rs.bxs (h : Rs w W1 q p a b bx V S) : V.heap[q]? = some (.cells bx 35 (0, 0)) := (h.bel.block _ (block_lt h.box)).trans h.box
theorem Rs.kept (h : Rs w W1 q p a b bx V S) (hb : Below V.heap.size V V') : Rs w W1 q p a b bx V' S := ⟨h.b0, h.bel.trans (hb.mono h.bel.size), h.box, h.lg.kept hb, h.ge⟩
theorem Rs.to (h : Rs w W1 q p a b bx V S) {g : Nat} (hg : V.grownBy V' (some g)) (hge : g = p ∨ g = a ∨ g = b) (hl : LG V' p a b nilS nilS S') : Rs w W1 q p a b bx V' S' :=
  ⟨h.b0, h.bel.grown hg h.bel.size (fun j e => by cases e; have := h.ge; rcases hge with rfl | rfl | rfl <;> omega), h.box, hl, h.ge⟩
/-- A block that is none of the ledger's stays. -/
theorem Rs.other (h : Rs w W1 q p a b bx V S) {g : Nat} (hg : V.grownBy V' (some g)) (hge : g = p ∨ g = a ∨ g = b) {t : Nat} {cs : Array Value} {ty : TypeId} (ht : V.heap[t]? = some (.cells cs ty (0, 0))) (hty : ty ≠ 78) : V'.heap[t]? = some (.cells cs ty (0, 0)) := by
  obtain ⟨c1, h1, _⟩ := h.lg.blk
  obtain ⟨es, k, h2⟩ := h.lg.acc.obj
  obtain ⟨es', k', h3⟩ := h.lg.hol.obj
  refine (hg.block t (block_lt ht) (fun e => ?_)).trans ht
  cases e
  rcases hge with rfl | rfl | rfl
  · rw [h1] at ht; cases ht; exact hty rfl
  · rw [h2] at ht; cases ht
  · rw [h3] at ht; cases ht
end
theorem byA_snoc {l : List Ac} (hu : UpK Ac.id l) {k : Nat} {x : Ac} (hx : l[k]? = some x) : (l.take (k + 1)).length = (l.take k).length + 1 ∧ (byK Ac.id (l.take k) x.id) = none ∧ ∀ y, byK Ac.id (l.take (k + 1)) y = if y = x.id then some x else byK Ac.id (l.take k) y := by
  have hno := byK_take hu hx
  have e : l.take (k + 1) = l.take k ++ [x] := by rw [List.take_add_one, hx]; rfl
  refine ⟨by rw [e, List.length_append]; rfl, hno, fun y => ?_⟩
  rw [e, byK_app, byK_one]
  by_cases h : y = x.id
  · rw [if_pos h, h, hno, if_pos rfl]; rfl
  · rw [if_neg h, if_neg (fun h' => h h'.symm)]
    cases byK Ac.id (l.take k) y <;> rfl
theorem byH_snoc {l : List Ho} (hu : UpK Ho.id l) {k : Nat} {x : Ho} (hx : l[k]? = some x) : (l.take (k + 1)).length = (l.take k).length + 1 ∧ (byK Ho.id (l.take k) x.id) = none ∧ ∀ y, byK Ho.id (l.take (k + 1)) y = if y = x.id then some x else byK Ho.id (l.take k) y := by
  have hno := byK_take hu hx
  have e : l.take (k + 1) = l.take k ++ [x] := by rw [List.take_add_one, hx]; rfl
  refine ⟨by rw [e, List.length_append]; rfl, hno, fun y => ?_⟩
  rw [e, byK_app, byK_one]
  by_cases h : y = x.id
  · rw [if_pos h, h, hno, if_pos rfl]; rfl
  · rw [if_neg h, if_neg (fun h' => h h'.symm)]
    cases byK Ho.id (l.take k) y <;> rfl
set_option maxRecDepth 10000 in
set_option maxHeartbeats 16000000 in
/-- Restore of any image. -/
theorem restoreC {w : World} {A : List Ac} {H : List Ho} {J : List Jz} {ao ho jo : Option Addr} {ga gh gj : Nat} (h : ImZ w A H J ao ho jo ga gh gj) (n cap m hcap k jcap : Nat) (hn : n = A.length) (hm : m = H.length) (hk : k = J.length) (T0 : Nat) (h64 : T0 < 18446744073709551616) (nx : Nat) (hnx : nx < 18446744073709551616) :
    Calls Tryz.prog 10 #[.agg #[.int .u64 (T0 : Nat), .int .u64 (nx : Nat), .slice ao n cap, .slice ho m hcap, .slice jo k jcap]] w fun e w' => ∃ v er, e = .returned (.tuple #[v, er]) ∧ Hid (RstP w T0 A H nx J v er w') := by
  obtain ⟨W0, hW0⟩ : ∃ W0, w.alloc (.cells #[.int .u64 (T0 : Nat), .int .u64 (nx : Nat), .slice ao n cap, .slice ho m hcap, .slice jo k jcap] 35) = W0 := ⟨_, rfl⟩
  obtain ⟨W1, hW1⟩ : ∃ W1, W0.alloc (.cells #[.func (.func 36) #[] #[], .func (.func 37) #[] #[], .func (.func 38) #[] #[], .func (.func 39) #[] #[], .func (.func 40) #[] #[]] 86) = W1 := ⟨_, rfl⟩
  obtain ⟨q, hq⟩ : ∃ q, w.heap.size = q := ⟨_, rfl⟩
  obtain ⟨fb, hfb⟩ : ∃ q, W0.heap.size = q := ⟨_, rfl⟩
  have b0 : Below w.heap.size w W0 := by rw [← hW0]; exact (Below.refl _ w).alloc (Nat.le_refl _) _
  have b1 : Below W0.heap.size W0 W1 := by rw [← hW1]; exact (Below.refl _ W0).alloc (Nat.le_refl _) _
  have HB1 : Hid (Below w.heap.size w W1) := b0.trans (b1.mono b0.size)
  have C1 : Hid (W1.heap[q]? = some (.cells #[.int .u64 (T0 : Nat), .int .u64 (nx : Nat), .slice ao n cap, .slice ho m hcap, .slice jo k jcap] 35 (0, 0))) := by
    have : W0.heap[q]? = some (.cells #[.int .u64 (T0 : Nat), .int .u64 (nx : Nat), .slice ao n cap, .slice ho m hcap, .slice jo k jcap] 35 (0, 0)) := by rw [← hW0, ← hq]; exact alloc_atK _ _
    exact (b1.block _ (block_lt this)).trans this
  have CF : Hid (W1.heap[fb]? = some (.cells #[.func (.func 36) #[] #[], .func (.func 37) #[] #[], .func (.func 38) #[] #[], .func (.func 39) #[] #[], .func (.func 40) #[] #[]] 86 (0, 0))) := by rw [← hW1, ← hfb]; exact alloc_atK _ _
  have HI := hide h
  have HN := hide (And.intro hn (And.intro hm hk))
  have HW0 := hide hW0
  have HW1 := hide hW1
  have HQ := hide hq
  have HFB := hide hfb
  clear h hn hm hk hW0 hW1 hq hfb b0 b1
  go_enter Tryz.func10, Tryz.ntmps10
  go_upto_region 1 with fail
  rw [HW0.out, HQ.out]
  go_upto_region 2 with fail
  rw [HW1.out, HFB.out]
  clear HW0 HW1
  go_wp2
  go_loopw [19] (fun i wr => ∃ j : Nat, j ≤ 5 ∧ i = .int .i64 j ∧ Hid (PassK T0 A H nx J j) ∧ Hid (Below W1.heap.size W1 wr)) (fun i _ => 5 - (intOf i).toNat)
  case atStart => exact ⟨0, by omega, rfl, ⟨fun h => by omega, fun h => by omega, fun h => by omega, fun h => by omega, fun h => by omega⟩, Below.refl _ _⟩
  case round =>
    obtain ⟨j, hj, rfl, HP, HB⟩ := hrel
    by_cases hlt : j < 5
    · obtain ⟨F, x, c, hF, hce, hcall, hyes, hno⟩ := checkC (HI.out.below (HB1.out.trans (HB.out.mono HB1.out.size))) n cap m hcap k jcap HN.out.1 HN.out.2.1 HN.out.2.2 T0 h64 nx hnx hlt HP.out
      have HC := hide hcall
      have HY := hide hyes
      have HNO := hide hno
      have f0 : wr.cell? ⟨fb, j, none⟩ = some (.func (.func F) #[] #[]) := by
        have h1 := block_cell ((HB.out.block _ (block_lt CF.out)).trans CF.out) j
        rw [h1]
        have hj5 : j = 0 ∨ j = 1 ∨ j = 2 ∨ j = 3 ∨ j = 4 := by omega
        rcases hj5 with rfl | rfl | rfl | rfl | rfl <;> (simp at hF; subst hF; rfl)
      have fl : fb < wr.heap.size := Nat.lt_of_lt_of_le (block_lt CF.out) HB.out.size
      have cq := (HB.out.block _ (block_lt C1.out)).trans C1.out
      have y0 := block_cell cq 0
      have y1 := block_cell cq 1
      have y2 := block_cell cq 2
      have y3 := block_cell cq 3
      have y4 := block_cell cq 4
      have yl := block_lt cq
      simp at y0 y1 y2 y3 y4
      clear cq hF hcall hyes hno HP
      go_wp2_with fail
      refine HC.out.mono ?_
      rintro e w2 ⟨rfl, G2⟩
      have HB2 : Hid (Below W1.heap.size W1 w2) := HB.out.trans (G2.out.mono HB.out.size)
      clear HC G2 HB f0 fl y0 y1 y2 y3 y4 yl hce
      by_cases hc : c = 0
      · have HP2 := hide (HY.out hc)
        subst hc
        clear HY HNO
        go_wp2
        go_roundw
        case rel => exact ⟨j + 1, by omega, by go_num, HP2.out, HB2.out⟩
        case measure => simp [intOf]; omega
      · have HRF := hide (HNO.out hc)
        have HBW : Hid (Below w.heap.size w w2) := HB1.out.trans (HB2.out.mono HB1.out.size)
        have hc2 : ((c : Int) == 0) = false := by simp [hc]
        have hc3 : ((c : Int) != 0) = true := by simp [hc]
        have HR1 := hide (refusalL (w := w2) (x : Int) (c : Int))
        have HC0 := hide hc
        clear HY HNO hc HB2
        go_wp2_with fail
        refine HR1.out.mono ?_
        rintro e w3 ⟨g, rfl, G3⟩
        have HE : Hid (RstP w T0 A H nx J (.pointer none) (.iface 137 (.pointer (some ⟨g, 0, none⟩))) w3) := ⟨HBW.out.trans (G3.out.2.mono HBW.out.size), .inl ⟨x, c, HRF.out, HC0.out, rfl, G3.out.1⟩⟩
        clear HR1 G3
        go_wp2
        go_ret2
        exact ⟨_, _, rfl, HE⟩
    · obtain rfl : j = 5 := by omega
      have HBK := hide (blankG wr)
      clear CF
      go_wp2_with fail
      refine HBK.out.mono ?_
      rintro e w2 ⟨p, a, b, rfl, G2⟩
      have HR0 : Hid (Rs w W1 q p a b #[.int .u64 (T0 : Nat), .int .u64 (nx : Nat), .slice ao n cap, .slice ho m hcap, .slice jo k jcap] w2 ⟨0, [], [], 1, fun _ => Jn.zero⟩) := by
        have hs := HB.out.size
        obtain ⟨g1, g2, g3, g4, g5⟩ := G2.out
        exact ⟨HB1.out, HB.out.trans (g2.mono HB.out.size), C1.out, g1.lg (fun i x hx => by simp at hx) rfl, by omega, by omega, by omega⟩
      clear HBK G2 HB
      have c0 := HR0.out.lg.c.1
      have cl := HR0.out.lg.lt.1
      have cf := HR0.out.lg.free 0
      have y0 := block_cell HR0.out.bxs 0
      have yl := block_lt HR0.out.bxs
      simp at y0
      have HR1 := hide (HR0.out.to (grown_set w2 p 0 (.int .u64 (T0 : Nat))) (.inl rfl) (HR0.out.lg.setTot T0))
      clear HR0
      go_upto_region 11 with fail
      clear c0 cl cf y0 yl
      generalize w2.setCell ⟨p, 0, none⟩ (.int .u64 (T0 : Nat)) = w3 at *
      have y2 := block_cell HR1.out.bxs 2
      have yl := block_lt HR1.out.bxs
      simp at y2
      go_wp2
      clear y2 yl
      have hA := aflt_ok (HP.out.2.1 (by omega))
      have hH := hflt_ok (HP.out.2.2.1 (by omega))
      have hJ := jflt_ok (HP.out.2.2.2.2 (by omega))
      have h0 := HP.out.1 (by omega)
      have HA := hide hA
      have HH := hide hH
      have HJ := hide hJ
      have hn64 : n ≤ 64 := by have := HN.out.1; omega
      have hm64 : m ≤ 64 := by have := HN.out.2.1; omega
      have hk64 : k ≤ 64 := by have := HN.out.2.2; have := hJ.2.2.1; omega
      clear hA hH hJ h0
      go_loopw [44] (fun i wr => ∃ j : Nat, j ≤ n ∧ i = .int .i64 j ∧ Hid (Rs w W1 q p a b #[.int .u64 (T0 : Nat), .int .u64 (nx : Nat), .slice ao n cap, .slice ho m hcap, .slice jo k jcap] wr ⟨T0, A.take j, [], 1, fun _ => Jn.zero⟩)) (fun i _ => n - (intOf i).toNat)
      case atStart => exact ⟨0, by omega, rfl, HR1.out⟩
      case round =>
        clear HR1
        obtain ⟨j, hj, rfl, HR⟩ := hrel
        by_cases hlt : j < n
        · obtain ⟨x, hx⟩ : ∃ x, A[j]? = some x := ⟨_, List.getElem?_eq_getElem (by have := HN.out.1; omega)⟩
          have hI := HI.out.below HR.out.low
          obtain ⟨d0, d1, d2, d3⟩ := hI.a.four hx
          obtain ⟨rfl, dl⟩ := hI.ao (by have := HN.out.1; omega)
          simp only [Nat.zero_add] at d0 d1 d2 d3
          have hin := hI.a.ok x (List.mem_of_getElem? hx)
          obtain ⟨s1, s2, s3⟩ := byA_snoc HA.out.1 hx
          obtain ⟨W2, hW2⟩ : ∃ W2, wr.alloc (.cells #[.int .u64 (x.id : Nat), .int .u64 (x.ow : Nat), .int .u64 (x.ba : Nat), .int .u64 (x.cp : Nat)] 81) = W2 := ⟨_, rfl⟩
          have b2 : Below wr.heap.size wr W2 := by rw [← hW2]; exact (Below.refl _ wr).alloc (Nat.le_refl _) _
          have C2 : W2.heap[wr.heap.size]? = some (.cells #[.int .u64 (x.id : Nat), .int .u64 (x.ow : Nat), .int .u64 (x.ba : Nat), .int .u64 (x.cp : Nat)] 81 (0, 0)) := by rw [← hW2]; exact alloc_atK _ _
          have hR2 := HR.out.kept b2
          obtain ⟨W3, hW3⟩ : ∃ W3, W2.drew = W3 := ⟨_, rfl⟩
          have b3 : Below W2.heap.size W2 W3 := by rw [← hW3]; exact (Below.refl _ W2).drew
          have C3 : W3.heap[wr.heap.size]? = some (.cells #[.int .u64 (x.id : Nat), .int .u64 (x.ow : Nat), .int .u64 (x.ba : Nat), .int .u64 (x.cp : Nat)] 81 (0, 0)) := (b3.block _ (block_lt C2)).trans C2
          have hR3 := hR2.kept b3
          obtain ⟨wf, hr, ht, hg⟩ := hR3.lg.acc.put x hin.h0 (by show (A.take j).length < maxLen; rw [List.length_take]; unfold maxLen; omega)
          have hs2 : byK Ac.id (A.take j) x.id = none := s2
          have ht2 : TAm wf a (A.take (j + 1)).length (byK Ac.id (A.take (j + 1))) := by
            refine ht.congr ?_ (fun y => ?_)
            · show (if (byK Ac.id (A.take j) x.id).isSome = true then _ else _) = _
              rw [hs2, if_neg (by simp), s1]
            · rw [s3 y]
          have HRf : Hid (Rs w W1 q p a b #[.int .u64 (T0 : Nat), .int .u64 (nx : Nat), .slice (some ⟨ga, 0, none⟩) n cap, .slice ho m hcap, .slice jo k jcap] wf ⟨T0, A.take (j + 1), [], 1, fun _ => Jn.zero⟩) := hR3.to hg (.inr (.inl rfl)) (hR3.lg.toA ht2 hg)
          have y1 := hR3.lg.c.2.1
          have pl := hR3.lg.lt.1
          have z0 := block_cell C3 0
          have z1 := block_cell C3 1
          have z2 := block_cell C3 2
          have z3 := block_cell C3 3
          have zl := block_lt C3
          simp at z0 z1 z2 z3
          have HW2 := hide hW2
          have HW3 := hide hW3
          clear hI hx hin s1 s2 s3 b2 C2 hR2 b3 C3 hR3 ht hg hs2 ht2 HR hW2 hW3
          unfold Ac.arr at hr
          generalize (x.id : Int) = X0 at *
          generalize (x.ow : Int) = X1 at *
          generalize (x.ba : Int) = X2 at *
          generalize (x.cp : Int) = X3 at *
          go_upto_region 14 with fail
          rw [HW2.out]
          clear HW2 d0 d1 d2 d3 dl
          generalize wr.heap.size = tb at *
          refine region_assignP (fun d V => Hid (V = if d = true then wf else W3)) 7 [3, 5, 6] [(48, .pointer (some ⟨p, 0, none⟩)), (49, .pointer (some ⟨p, 0, none⟩)), (50, .pointer (some ⟨p, 1, none⟩)), (51, .map (some a)), (52, .pointer (some ⟨tb, 0, none⟩)), (53, .int .u64 X0), (54, .agg #[.int .u64 X0, .int .u64 X1, .int .u64 X2, .int .u64 X3])] _ (by kernel_rfl) (by decide) (by kernel_rfl) (by kernel_rfl) (by kernel_rfl) (by kernel_rfl) rfl (show W2.drew = _ from HW3.out) ?_ (fun V9 HV9 => ?_)
          · simp only [putAll, Act.put, List.setIfInBounds_toArray, List.set_cons_zero, List.set_cons_succ]
            repeat' (first | exact AllPre.nil | refine AllPre.at_ rfl ?_ ?_ | refine AllPre.pre (by decide) (by decide) ?_ ?_ | refine AllPre.off (by decide) (by decide) ?_ ?_)
            all_goals first
              | (intro d
                 refine stepTo_yes (by rfl) (fun V hV K hK => ?_)
                 go_simp
                 exact hK.out _ hV)
              | (refine stepTo_yes (by rfl) (fun V hV K hK => ?_)
                 have e : V = W3 := hV.out
                 subst e
                 go_simp
                 exact hK.out _ hV)
              | (refine ⟨by rfl, fun V hV K hK => ?_⟩
                 have e : V = W3 := hV.out
                 subst e
                 go_simp
                 exact hK.out _ rfl)
          simp only [putAll, Act.put, List.setIfInBounds_toArray, List.set_cons_zero, List.set_cons_succ]
          have e9 : V9 = wf := HV9.out
          rw [e9]
          clear e9 HV9 hr y1 pl z0 z1 z2 z3 zl HW3
          go_wp2
          go_roundw
          case rel => exact ⟨j + 1, by omega, by go_num, HRf.out⟩
          case measure => simp [intOf]; omega
        · obtain rfl : n = j := by omega
          have HR1 : Hid (Rs w W1 q p a b #[.int .u64 (T0 : Nat), .int .u64 (nx : Nat), .slice ao n cap, .slice ho m hcap, .slice jo k jcap] wr ⟨T0, A, [], 1, fun _ => Jn.zero⟩) := by have := HR.out; rwa [List.take_of_length_le (l := A) (by have := HN.out.1; omega)] at this
          clear HR
          have y3 := block_cell HR1.out.bxs 3
          have yl := block_lt HR1.out.bxs
          simp at y3
          go_wp2
          clear y3 yl
          go_loopw [59] (fun i wr => ∃ j : Nat, j ≤ m ∧ i = .int .i64 j ∧ Hid (Rs w W1 q p a b #[.int .u64 (T0 : Nat), .int .u64 (nx : Nat), .slice ao n cap, .slice ho m hcap, .slice jo k jcap] wr ⟨T0, A, H.take j, 1, fun _ => Jn.zero⟩)) (fun i _ => m - (intOf i).toNat)
          case atStart => exact ⟨0, by omega, rfl, HR1.out⟩
          case round =>
            clear HR1
            obtain ⟨j, hj, rfl, HR⟩ := hrel
            by_cases hlt : j < m
            · obtain ⟨x, hx⟩ : ∃ x, H[j]? = some x := ⟨_, List.getElem?_eq_getElem (by have := HN.out.2.1; omega)⟩
              have hI := HI.out.below HR.out.low
              obtain ⟨d0, d1, d2⟩ := hI.h.at_ j x hx
              obtain ⟨rfl, dl⟩ := hI.ho (by have := HN.out.2.1; omega)
              simp only [Nat.zero_add] at d0 d1 d2
              have hin := hI.h.ok x (List.mem_of_getElem? hx)
              obtain ⟨s1, s2, s3⟩ := byH_snoc HH.out.1 hx
              obtain ⟨W2, hW2⟩ : ∃ W2, wr.alloc (.cells #[.int .u64 (x.id : Nat), .int .u64 (x.fr : Nat), .int .u64 (x.am : Nat)] 84) = W2 := ⟨_, rfl⟩
              have b2 : Below wr.heap.size wr W2 := by rw [← hW2]; exact (Below.refl _ wr).alloc (Nat.le_refl _) _
              have C2 : W2.heap[wr.heap.size]? = some (.cells #[.int .u64 (x.id : Nat), .int .u64 (x.fr : Nat), .int .u64 (x.am : Nat)] 84 (0, 0)) := by rw [← hW2]; exact alloc_atK _ _
              have hR2 := HR.out.kept b2
              obtain ⟨W3, hW3⟩ : ∃ W3, W2.drew = W3 := ⟨_, rfl⟩
              have b3 : Below W2.heap.size W2 W3 := by rw [← hW3]; exact (Below.refl _ W2).drew
              have C3 : W3.heap[wr.heap.size]? = some (.cells #[.int .u64 (x.id : Nat), .int .u64 (x.fr : Nat), .int .u64 (x.am : Nat)] 84 (0, 0)) := (b3.block _ (block_lt C2)).trans C2
              have hR3 := hR2.kept b3
              obtain ⟨wf, hr, ht, hg⟩ := hR3.lg.hol.put x hin.h0 (by show (H.take j).length < maxLen; rw [List.length_take]; unfold maxLen; omega)
              have hs2 : byK Ho.id (H.take j) x.id = none := s2
              have ht2 : THm wf b (H.take (j + 1)).length (byK Ho.id (H.take (j + 1))) := by
                refine ht.congr ?_ (fun y => ?_)
                · show (if (byK Ho.id (H.take j) x.id).isSome = true then _ else _) = _
                  rw [hs2, if_neg (by simp), s1]
                · rw [s3 y]
              have HRf : Hid (Rs w W1 q p a b #[.int .u64 (T0 : Nat), .int .u64 (nx : Nat), .slice ao n cap, .slice (some ⟨gh, 0, none⟩) m hcap, .slice jo k jcap] wf ⟨T0, A, H.take (j + 1), 1, fun _ => Jn.zero⟩) := hR3.to hg (.inr (.inr rfl)) (hR3.lg.toH ht2 hg)
              have y1 := hR3.lg.c.2.2.1
              have pl := hR3.lg.lt.1
              have z0 := block_cell C3 0
              have z1 := block_cell C3 1
              have z2 := block_cell C3 2
              have zl := block_lt C3
              simp at z0 z1 z2
              have HW2 := hide hW2
              have HW3 := hide hW3
              clear hI hx hin s1 s2 s3 b2 C2 hR2 b3 C3 hR3 ht hg hs2 ht2 HR hW2 hW3
              unfold Ho.arr at hr
              generalize (x.id : Int) = X0 at *
              generalize (x.fr : Int) = X1 at *
              generalize (x.am : Int) = X2 at *
              go_upto_region 19 with fail
              rw [HW2.out]
              clear HW2 d0 d1 d2 dl
              generalize wr.heap.size = tb at *
              refine region_assignP (fun d V => Hid (V = if d = true then wf else W3)) 7 [3, 5, 6] [(63, .pointer (some ⟨p, 0, none⟩)), (64, .pointer (some ⟨p, 0, none⟩)), (65, .pointer (some ⟨p, 2, none⟩)), (66, .map (some b)), (67, .pointer (some ⟨tb, 0, none⟩)), (68, .int .u64 X0), (69, .agg #[.int .u64 X0, .int .u64 X1, .int .u64 X2])] _ (by kernel_rfl) (by decide) (by kernel_rfl) (by kernel_rfl) (by kernel_rfl) (by kernel_rfl) rfl (show W2.drew = _ from HW3.out) ?_ (fun V9 HV9 => ?_)
              · simp only [putAll, Act.put, List.setIfInBounds_toArray, List.set_cons_zero, List.set_cons_succ]
                repeat' (first | exact AllPre.nil | refine AllPre.at_ rfl ?_ ?_ | refine AllPre.pre (by decide) (by decide) ?_ ?_ | refine AllPre.off (by decide) (by decide) ?_ ?_)
                all_goals first
                  | (intro d
                     refine stepTo_yes (by rfl) (fun V hV K hK => ?_)
                     go_simp
                     exact hK.out _ hV)
                  | (refine stepTo_yes (by rfl) (fun V hV K hK => ?_)
                     have e : V = W3 := hV.out
                     subst e
                     go_simp
                     exact hK.out _ hV)
                  | (refine ⟨by rfl, fun V hV K hK => ?_⟩
                     have e : V = W3 := hV.out
                     subst e
                     go_simp
                     exact hK.out _ rfl)
              simp only [putAll, Act.put, List.setIfInBounds_toArray, List.set_cons_zero, List.set_cons_succ]
              have e9 : V9 = wf := HV9.out
              rw [e9]
              clear e9 HV9 hr y1 pl z0 z1 z2 zl HW3
              go_wp2
              go_roundw
              case rel => exact ⟨j + 1, by omega, by go_num, HRf.out⟩
              case measure => simp [intOf]; omega
            · obtain rfl : m = j := by omega
              have HR1 : Hid (Rs w W1 q p a b #[.int .u64 (T0 : Nat), .int .u64 (nx : Nat), .slice ao n cap, .slice ho m hcap, .slice jo k jcap] wr ⟨T0, A, H, 1, fun _ => Jn.zero⟩) := by have := HR.out; rwa [List.take_of_length_le (l := H) (by have := HN.out.2.1; omega)] at this
              clear HR
              have c3 := HR1.out.lg.c.2.2.2.1
              have cl := HR1.out.lg.lt.1
              have cf := HR1.out.lg.free 3
              have y1 := block_cell HR1.out.bxs 1
              have yl := block_lt HR1.out.bxs
              simp at y1
              have HR2 := hide (HR1.out.to (grown_set wr p 3 (.int .u64 (nx : Nat))) (.inl rfl) (HR1.out.lg.setNx nx))
              clear HR1
              go_upto_region 22 with fail
              clear c3 cl cf y1 yl
              generalize wr.setCell ⟨p, 3, none⟩ (.int .u64 (nx : Nat)) = w4 at *
              have y4 := block_cell HR2.out.bxs 4
              have yl := block_lt HR2.out.bxs
              simp at y4
              go_wp2
              clear y4 yl
              go_loopw [80] (fun i wr => ∃ r : Nat, r ≤ k ∧ i = .int .i64 r ∧ Hid (Rs w W1 q p a b #[.int .u64 (T0 : Nat), .int .u64 (nx : Nat), .slice ao n cap, .slice ho m hcap, .slice jo k jcap] wr ⟨T0, A, H, nx, rgs (J.take r)⟩)) (fun i _ => k - (intOf i).toNat)
              case atStart => exact ⟨0, by omega, rfl, HR2.out⟩
              case round =>
                clear HR2
                obtain ⟨r, hr, rfl, HR⟩ := hrel
                by_cases hlt : r < k
                · obtain ⟨x, hx⟩ : ∃ x, J[r]? = some x := ⟨_, List.getElem?_eq_getElem (by have := HN.out.2.2; omega)⟩
                  have hI := HI.out.below HR.out.low
                  obtain ⟨d0, d1, d2, d3, d4⟩ := hI.j r x hx
                  obtain ⟨rfl, dl⟩ := hI.jo_ (by have := HN.out.2.2; omega)
                  simp only [Nat.zero_add] at d0 d1 d2 d3 d4
                  obtain ⟨e0, e1, e2⟩ := HJ.out.2.2.2 r x hx
                  obtain ⟨W2, hW2⟩ : ∃ W2, wr.alloc (.cells #[.int .u64 (x.sq : Nat), .int .i64 x.kd, .int .u64 (x.fr : Nat), .int .u64 (x.tw : Nat), .int .u64 (x.am : Nat)] 69) = W2 := ⟨_, rfl⟩
                  have b2 : Below wr.heap.size wr W2 := by rw [← hW2]; exact (Below.refl _ wr).alloc (Nat.le_refl _) _
                  have C2 : W2.heap[wr.heap.size]? = some (.cells #[.int .u64 (x.sq : Nat), .int .i64 x.kd, .int .u64 (x.fr : Nat), .int .u64 (x.tw : Nat), .int .u64 (x.am : Nat)] 69 (0, 0)) := by rw [← hW2]; exact alloc_atK _ _
                  have hR2 := HR.out.kept b2
                  obtain ⟨W3, hW3⟩ : ∃ W3, W2.drew = W3 := ⟨_, rfl⟩
                  have b3 : Below W2.heap.size W2 W3 := by rw [← hW3]; exact (Below.refl _ W2).drew
                  have C3 : W3.heap[wr.heap.size]? = some (.cells #[.int .u64 (x.sq : Nat), .int .i64 x.kd, .int .u64 (x.fr : Nat), .int .u64 (x.tw : Nat), .int .u64 (x.am : Nat)] 69 (0, 0)) := (b3.block _ (block_lt C2)).trans C2
                  have hR3 := hR2.kept b3
                  obtain ⟨rr, hrr⟩ : ∃ rr, x.sq % 64 = rr := ⟨_, rfl⟩
                  have hrr64 : rr < 64 := by omega
                  have hm : (x.sq : Int).tmod 64 = (rr : Int) := by rw [Int.tmod_eq_emod_of_nonneg (by omega)]; omega
                  have hki : (rr : Int) < 64 := by omega
                  have hk0 : (0 : Int) ≤ (rr : Int) := by omega
                  have hkd : ((x.n.kd : Nat) : Int) = x.kd := by show ((x.kd.toNat : Nat) : Int) = x.kd; omega
                  have hLr := hR3.lg.toRing hrr64 x.n
                  have hgr := ring5_g W3 p rr (x.n.sq : Int) (x.n.kd : Int) (x.n.fr : Int) (x.n.tw : Int) (x.n.am : Int)
                  rw [hkd] at hLr hgr
                  have HRf : Hid (Rs w W1 q p a b #[.int .u64 (T0 : Nat), .int .u64 (nx : Nat), .slice ao n cap, .slice ho m hcap, .slice (some ⟨gj, 0, none⟩) k jcap] (ring5 W3 p rr (x.sq : Int) x.kd (x.fr : Int) (x.tw : Int) (x.am : Int)) ⟨T0, A, H, nx, rgs (J.take (r + 1))⟩) := by
                    rw [rgs_take hx, hrr]
                    exact hR3.to hgr (.inl rfl) hLr
                  unfold ring5 at HRf
                  have pl := hR3.lg.lt.1
                  have f0 := hR3.lg.free (4 + rr * 5)
                  have f1 := hR3.lg.free (4 + rr * 5 + 1)
                  have f2 := hR3.lg.free (4 + rr * 5 + 2)
                  have f3 := hR3.lg.free (4 + rr * 5 + 3)
                  have f4 := hR3.lg.free (4 + rr * 5 + 4)
                  obtain ⟨r0, r1, r2, r3, r4⟩ := hR3.lg.ring hrr64
                  have z0 := block_cell C3 0
                  have z1 := block_cell C3 1
                  have z2 := block_cell C3 2
                  have z3 := block_cell C3 3
                  have z4 := block_cell C3 4
                  have zl := block_lt C3
                  simp at z0 z1 z2 z3 z4
                  have HW2 := hide hW2
                  have HW3 := hide hW3
                  clear hI hx e0 e1 e2 b2 C2 hR2 b3 C3 hR3 hrr hrr64 hkd hLr hgr HR hW2 hW3
                  generalize (x.sq : Int) = X0 at *
                  generalize x.kd = X1 at *
                  generalize (x.fr : Int) = X2 at *
                  generalize (x.tw : Int) = X3 at *
                  generalize (x.am : Int) = X4 at *
                  go_upto_region 25 with fail
                  rw [HW2.out]
                  clear HW2 d0 d1 d2 d3 d4 dl
                  generalize wr.heap.size = tb at *
                  refine region_assignP (fun d V => Hid (V = if d = true then ((((W3.setCell ⟨p, 4 + rr * 5, none⟩ (.int .u64 X0)).setCell ⟨p, 4 + rr * 5 + 1, none⟩ (.int .i64 X1)).setCell ⟨p, 4 + rr * 5 + 2, none⟩ (.int .u64 X2)).setCell ⟨p, 4 + rr * 5 + 3, none⟩ (.int .u64 X3)).setCell ⟨p, 4 + rr * 5 + 4, none⟩ (.int .u64 X4) else W3)) 9 [4, 8, 3, 2] [(84, .pointer (some ⟨p, 0, none⟩)), (85, .pointer (some ⟨tb, 0, none⟩)), (86, .int .u64 X0), (87, .int .u64 (rr : Nat)), (88, .agg #[.int .u64 X0, .int .i64 X1, .int .u64 X2, .int .u64 X3, .int .u64 X4]), (89, .pointer (some ⟨p, 0, none⟩)), (90, .pointer (some ⟨p, 3, none⟩)), (91, .pointer (some ⟨p, 4, none⟩)), (92, .pointer (some ⟨p, 4 + rr * 5, none⟩))] _ (by kernel_rfl) (by decide) (by kernel_rfl) (by kernel_rfl) (by kernel_rfl) (by kernel_rfl) rfl (show W2.drew = _ from HW3.out) ?_ (fun V9 HV9 => ?_)
                  · simp only [putAll, Act.put, List.setIfInBounds_toArray, List.set_cons_zero, List.set_cons_succ]
                    repeat' (first | exact AllPre.nil | refine AllPre.at_ rfl ?_ ?_ | refine AllPre.pre (by decide) (by decide) ?_ ?_ | refine AllPre.off (by decide) (by decide) ?_ ?_)
                    all_goals first
                      | (intro d
                         refine stepTo_yes (by rfl) (fun V hV K hK => ?_)
                         go_simp
                         exact hK.out _ hV)
                      | (refine stepTo_yes (by rfl) (fun V hV K hK => ?_)
                         have e : V = W3 := hV.out
                         subst e
                         go_simp
                         exact hK.out _ hV)
                      | (refine ⟨by rfl, fun V hV K hK => ?_⟩
                         have e : V = W3 := hV.out
                         subst e
                         go_simp
                         exact hK.out _ rfl)
                  simp only [putAll, Act.put, List.setIfInBounds_toArray, List.set_cons_zero, List.set_cons_succ]
                  have e9 : V9 = ((((W3.setCell ⟨p, 4 + rr * 5, none⟩ (.int .u64 X0)).setCell ⟨p, 4 + rr * 5 + 1, none⟩ (.int .i64 X1)).setCell ⟨p, 4 + rr * 5 + 2, none⟩ (.int .u64 X2)).setCell ⟨p, 4 + rr * 5 + 3, none⟩ (.int .u64 X3)).setCell ⟨p, 4 + rr * 5 + 4, none⟩ (.int .u64 X4) := HV9.out
                  rw [e9]
                  clear e9 HV9 pl f0 f1 f2 f3 f4 r0 r1 r2 r3 r4 z0 z1 z2 z3 z4 zl HW3 hm hki hk0
                  generalize ((((W3.setCell ⟨p, 4 + rr * 5, none⟩ (.int .u64 X0)).setCell ⟨p, 4 + rr * 5 + 1, none⟩ (.int .i64 X1)).setCell ⟨p, 4 + rr * 5 + 2, none⟩ (.int .u64 X2)).setCell ⟨p, 4 + rr * 5 + 3, none⟩ (.int .u64 X3)).setCell ⟨p, 4 + rr * 5 + 4, none⟩ (.int .u64 X4) = wf at *
                  go_wp2
                  go_roundw
                  case rel => exact ⟨r + 1, by omega, by go_num, HRf.out⟩
                  case measure => simp [intOf]; omega
                · obtain rfl : k = r := by omega
                  have HE : Hid (RstP w T0 A H nx J (.pointer (some ⟨p, 0, none⟩)) .nilIface wr) := by
                    have hr := HR.out
                    rw [List.take_of_length_le (l := J) (by have := HN.out.2.2; omega)] at hr
                    obtain ⟨g1, g2, g3⟩ := hr.ge
                    have hs := HB1.out.size
                    exact ⟨hr.low, .inr ⟨HP.out, rfl, p, a, b, rfl, hr.lg, by omega, by omega, by omega⟩⟩
                  clear HR
                  go_wp2
                  go_ret2
                  exact ⟨_, _, rfl, HE⟩
end Go.Proofs.YtcfenjpdjogmdaaGreat
