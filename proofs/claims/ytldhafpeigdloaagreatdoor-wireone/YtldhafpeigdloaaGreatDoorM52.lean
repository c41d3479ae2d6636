import Derived.Test.YtldhafpeigdloaaGreatDoorVOne
import Derived.Deep.DeepCutAuto
import Derived.Deep.DeepAppendWide
import Derived.Test.YtldhafpeigdloaaGreatDoorM0
import Derived.Test.YtldhafpeigdloaaGreatDoorM9
import Derived.Test.YtldhafpeigdloaaGreatDoorM26
import Derived.Test.YtldhafpeigdloaaGreatDoorM21
import Derived.ProofKit
import Derived.OpenShut
import Derived.ChangeOld
import Derived.Below
import Derived.SizedLaws
import Derived.Deep.DeepHandedRow
import Derived.Lib.LaidTab
namespace Go.Proofs.YtldhafpeigdloaaGreatDoor
open Go.RowKit Crc

set_option maxRecDepth 10000 in
set_option maxHeartbeats 400000 in
theorem ff_great (ao : Option Addr) (n cap : Nat) (w : World) (h : 65507 < n) (hl : n ≤ 4611686018427387904) :
    Calls Tryz.prog 23 #[.slice ao n cap] w fun e w' => e = .returned (pairV (65507, 21)) ∧ w' = w := by
  go_enter Tryz.func23, Tryz.ntmps23
  go_wp2
  go_ret2
  exact ⟨rfl, rfl⟩
set_option maxRecDepth 10000 in
set_option maxHeartbeats 400000 in
theorem decode_great (ao : Option Addr) (n cap : Nat) (w : World) (h : 65507 < n) (hl : n ≤ 4611686018427387904) :
    Calls Tryz.prog 8 #[.slice ao n cap] w fun e w' => ∃ (cs : List Value) (g : Nat), e = .returned (.tuple #[.agg cs.toArray, .iface 84 (.pointer (some ⟨g, 0, none⟩))]) ∧ Hid (cs.length = 49 ∧ (∀ v ∈ cs, v.oneCell' = true) ∧ Below w.heap.size w w') := by
  have HF : Hid (∀ W : World, Below w.heap.size w W → Calls Tryz.prog 23 #[.slice ao n cap] W fun e w' => e = .returned (.tuple #[.int .i64 ((65507 : Nat) : Int), .int .i64 ((21 : Nat) : Int)]) ∧ ∃ q, w' = W.drewN q) := fun W hb => (ff_great ao n cap W h hl).mono fun _ _ ⟨a, c⟩ => ⟨a, 0, c⟩
  obtain ⟨at_, hat⟩ : ∃ at_ : Nat, 65507 = at_ := ⟨_, rfl⟩
  obtain ⟨why, hwhy⟩ : ∃ why : Nat, 21 = why := ⟨_, rfl⟩
  have hne : (why : Int) ≠ 0 := by omega
  rw [hat, hwhy] at HF
  clear hat hwhy h hl
  have hne' : ((why : Int) != 0) = true := by simpa using hne
  clear hne
  have HBD : Hid (∀ W, (Instr.build 36 #[]).run Tryz.prog W = .ok (.agg msgZ.toArray) W) := fun W => build_zero W
  have HSZ : Hid ((Tryz.prog.info? 36).map (·.size) = some msgZ.length) := by show _ = _; rw [msgZ_len]; kernel_rfl
  have HONE : Hid (∀ v ∈ msgZ, v.oneCell' = true) := msgZ_one
  have HLN : Hid (msgZ.length = 49) := msgZ_len
  have HWZ : Hid (∀ Z : Array Value, Z.size = 49 → Below w.heap.size w (w.alloc (.cells Z 36)) ∧ (w.alloc (.cells Z 36)).there w.heap.size 0 msgZ.length ∧ w.heap.size < (w.alloc (.cells Z 36)).heap.size) := fun Z hZ =>
    ⟨(Below.refl _ w).alloc (Nat.le_refl _) _, block_there (Z := Z) (t := 36) (by simp [World.alloc, -World.alloc_eq]) (by rw [msgZ_len]; omega), by simp⟩
  generalize msgZ = cs at *
  go_enter Tryz.func8, Tryz.ntmps8
  go_wp2_with fail
  generalize hW : World.alloc w _ = W
  obtain ⟨Z, hZ, hW⟩ : ∃ Z : Array Value, Z.size = 49 ∧ w.alloc (.cells Z 36) = W := ⟨_, by rfl, hW⟩
  have HW := HWZ.out Z hZ
  rw [hW] at HW
  have HB0 : Hid (Below w.heap.size w W) := HW.1
  have HTH : Hid (W.there w.heap.size 0 cs.length) := HW.2.1
  have hlt := HW.2.2
  clear HW hW HWZ
  refine (HF.out W HB0.out).mono ?_
  rintro e w1 ⟨rfl, q, hq⟩
  have HB1 : Hid (Below w.heap.size w w1) := by rw [hq]; exact Go.below_drewN HB0.out q
  have HTH1 : Hid (w1.there w.heap.size 0 cs.length) := by rw [hq]; exact HTH.out
  have hlt1 : w.heap.size < w1.heap.size := by rw [hq]; exact hlt
  clear hq HB0 HTH hlt
  go_wp2_with (refine wpList_pure rfl (exec_build (t := 36) (parts := #[]) rfl (by simpa using HBD.out _)) ?_)
  refine (refusal_any _ _ _).mono ?_
  rintro e w2 ⟨v, rfl, rfl, hf, hb⟩
  have HB2 : Hid (Below w.heap.size w w2) := HB1.out.trans (hb.mono HB1.out.size)
  have HTH2 : Hid (w2.there w.heap.size 0 cs.length) := fun j hj => ⟨by rw [hb.cell (p := ⟨w.heap.size, 0 + j, none⟩) hlt1]; exact (HTH1.out j hj).1, by have h := (HTH1.out j hj).2; simp only [World.frozen?] at h ⊢; rw [hb.block _ hlt1]; exact h⟩
  clear hf hb HB1 HTH1
  generalize w1.heap.size = g at *
  go_wp2_with (refine wpList_store_mid rfl 36 _ _ rfl w.heap.size 0 cs.toArray rfl rfl (by simpa using HTH2.out) (by simpa using HSZ.out) (all_oneCell_toArray HONE.out) ?_)
  have hld := run_loadVar_mid (P := Tryz.prog) (w2.setCells w.heap.size 0 cs) w.heap.size 0 36 cs _ (World.rangeAt_setCells_same _ _ _ _ HTH2.out) Tryz.underlying36 rfl HSZ.out
  refine bodyPost_ret (v := .tuple #[.agg cs.toArray, .iface 84 (.pointer (some ⟨g, 0, none⟩))]) ?_ rfl ⟨cs, _, rfl, HLN.out, HONE.out, HB2.out.trans (grown_setC _ _ _ _)⟩
  simp [results, Tryz.results8, asAddr, hld]

theorem shows_take {lim : Nat} {w : World} {ao : Option Addr} {n cap : Nat} {B : List Nat} (h : Shows lim w ao n cap B) {r : Nat} (hr : r ≤ n) : Shows lim w ao r cap (B.take r) := by
  obtain ⟨p1, p2, p3, p4, b, off, p5, p6, p7⟩ := h
  refine ⟨by rw [List.length_take]; omega, by omega, by omega, fun x hx => p4 x (List.mem_of_mem_take hx), b, off, fun e => p5 (by omega), fun e => p6 (by omega), fun i hi => ?_⟩
  rw [p7 i (by omega), List.getD_eq_getElem?_getD, List.getD_eq_getElem?_getD, List.getElem?_take, if_pos hi]
/-- The row of a lent list. -/
theorem lent_row {w : World} {g n : Nat} {B : List Nat} (h : Lent w g n B) {base : Nat} (hb : base ≤ g) : w.ownsRow base 5 1 (.slice (some ⟨g, 0, none⟩) n (n + 4)) n (vals B) := by
  obtain ⟨h1, h2⟩ := h
  rcases h2.2 with ⟨e, _⟩ | ⟨g', cap, cur, e, hbg, hg, hnc, hcm, hcs, htake⟩
  · cases e
  · cases e
    refine ⟨by rw [vals_len, h1]; omega, .inr ⟨g, n + 4, cur, rfl, hb, hg, by omega, hcm, hcs, ?_⟩⟩
    have e : (cur.toList.take ((n + 4) * 1)).take (n * 1) = (vals (B ++ marksTo 4)).take (n * 1) := by rw [htake]
    rw [List.take_take, Nat.min_eq_left (by omega)] at e
    rw [e, Nat.mul_one, vals, List.map_append, List.take_append_of_le_length (by rw [List.length_map]; omega), List.take_of_length_le (by rw [List.length_map]; omega)]
    rfl
/-- Between two bytes of the lengthening. -/
structure Lg (w : World) (B M : List Nat) (n k : Nat) (v : Value) (W : World) : Prop where
  bel : Below w.heap.size w W
  row : W.ownsRow w.heap.size 5 1 v (n + k) (vals (B ++ M.take k))
theorem Lg.next {w : World} {B M : List Nat} {n k : Nat} {v v' : Value} {W w2 : World} {o : Obj} (h : Lg w B M n k v W) (hk : k < M.length) (ho : w2.ownsRow w.heap.size 5 1 v' (n + k + 1) (vals (B ++ M.take k) ++ [.int .u8 ((M.getD k 0 : Nat) : Int)])) (hg : (W.alloc o).grownBy w2 v.ownBlock) : Lg w B M n (k + 1) v' w2 := by
  have b1 := h.bel.alloc h.bel.size o
  have r1 := row_quiet h.row (World.grownBy_alloc W o none)
  refine ⟨b1.grown hg b1.size (fun g e => (r1.lt g e).1), ?_⟩
  have e2 : M.take (k + 1) = M.take k ++ [M.getD k 0] := by
    rw [List.take_add_one, List.getD_eq_getElem?_getD, List.getElem?_eq_getElem hk]
    rfl
  have e : vals (B ++ M.take (k + 1)) = vals (B ++ M.take k) ++ [.int .u8 ((M.getD k 0 : Nat) : Int)] := by
    rw [e2, ← List.append_assoc]
    unfold vals
    rw [List.map_append]
    rfl
  rw [e]
  exact ho

set_option maxRecDepth 10000 in
set_option maxHeartbeats 1600000 in
theorem whole_walk {w : World} (m : Mg) (hm : m.Ok w.heap.size w) (h0 : 0 < w.heap.size) (hT : ∀ w1 : World, Below w.heap.size w w1 → Table w1) (cut : Int) (hcut : -9223372036854775808 ≤ cut ∧ cut < 9223372036854775808) {bo : Option Addr} {bn bc : Nat} {BB : List Nat} (hb : Shows w.heap.size w bo bn bc BB) (hbn : bn ≤ 140737488351232) :
    Calls Tryz.prog 4 #[.agg m.R.toArray, .int .i64 cut, .slice bo bn bc] w fun e w' => e = .returned (.bool true) ∧ Below w.heap.size w w' := by
  obtain ⟨i0, hi0, hz0, hz1, hz2⟩ := info_parts Tryz.info5
  have HM : Hid (∀ W, Below w.heap.size w W → m.Ok W.heap.size W) := fun W h => (hm.below h).wide h.size
  have HBB : Hid (∀ W, Below w.heap.size w W → Shows W.heap.size W bo bn bc BB) := fun W h => (hb.belowL h).wide h.size
  have HBL : Hid (bn = BB.length ∧ ∀ x ∈ BB, x < 256) := ⟨hb.1, hb.2.2.2.1⟩
  have HZ : Hid (∀ W, Below w.heap.size w W → 0 < W.heap.size ∧ ∀ w1 : World, Below W.heap.size W w1 → Table w1) := fun W h => ⟨Nat.lt_of_lt_of_le h0 h.size, fun w1 h1 => hT w1 (h.trans (h1.mono h.size))⟩
  have HL : Hid (m.R.length = 49) := Mg.len hm.rl
  have HSZ : Hid ((Tryz.prog.info? 36).map (·.size) = some m.R.length) := by show _ = _; rw [HL.out]; kernel_rfl
  have S1 := hide (mx_new w m.R)
  obtain ⟨hc1, hc2⟩ := hcut
  clear hm hb h0 hT
  obtain ⟨W1, hW1⟩ : ∃ W1, w.alloc (.cells m.R.toArray 36) = W1 := ⟨_, rfl⟩
  have HW1 := hide hW1
  rw [hW1] at S1
  clear hW1
  obtain ⟨bb, hbb⟩ : ∃ bb : Bool, decide ((mNo m).1 = 0) = bb := ⟨_, rfl⟩
  have HMY := hide (mayMsg_any m (HM.out W1 S1.out.bel))
  rw [hbb] at HMY
  have HB : Hid (bb = true → (mNo m).1 = 0) := fun e => of_decide_eq_true (hbb.trans e)
  clear hbb
  generalize hcs : m.R = cs at *
  have HCS := hide hcs
  clear hcs
  have HCM : Hid (∀ W, Below w.heap.size w W → Calls Tryz.prog 6 #[.agg cs.toArray] W fun e w' => ∃ x : Mg, e = .returned (.agg x.R.toArray) ∧ Hid (Copied W m x w')) := fun W h => by rw [← HCS.out]; exact copyMsg_any m (HM.out W h)
  go_enter Tryz.func4, Tryz.ntmps4
  go_upto_region 1 with fail
  rw [HW1.out]
  have RG1 := hide (blk_range S1.out.q0)
  go_step
  refine wpList_load_mid rfl 36 _ rfl w.heap.size 0 rfl cs _ RG1.out Tryz.underlying36 rfl HSZ.out ?_
  simp only [Act.put, List.setIfInBounds_toArray, List.set_cons_zero, List.set_cons_succ]
  go_wp2_with fail
  refine HMY.out.mono ?_
  rintro e w2 ⟨rfl, hb2⟩
  have S2 := hide (S1.out.next hb2.out)
  clear hb2 RG1 HMY S1 HW1
  cases bb with
  | false =>
    go_wp2
    go_ret
    exact ⟨rfl, S2.out.bel⟩
  | true =>
    have RG2 := hide (blk_range S2.out.q0)
    go_upto_region 3 with fail
    go_step
    refine wpList_load_mid rfl 36 _ rfl w.heap.size 0 rfl cs _ RG2.out Tryz.underlying36 rfl HSZ.out ?_
    simp only [Act.put, List.setIfInBounds_toArray, List.set_cons_zero, List.set_cons_succ]
    go_wp2_with fail
    refine (HCM.out w2 S2.out.bel).mono ?_
    rintro e w3 ⟨x, rfl, G3⟩
    have S3 := hide (S2.out.next G3.out.bel)
    have HE := hide (encm_any x G3.out.ok G3.out.co (HZ.out w3 S3.out.bel).1 (HZ.out w3 S3.out.bel).2)
    have HNX : Hid ((mNo x).1 = 0) := by
      have e1 := (mNo_iff (HM.out w2 S2.out.bel)).1 (HB.out (by trivial))
      rw [← G3.out.mv, ← G3.out.kind, ← G3.out.pos] at e1
      exact (mNo_iff G3.out.ok).2 e1
    unfold EncPost at HE
    go_wp2_with fail
    refine HE.out.mono ?_
    clear HE
    rintro e w4 ⟨fv, xx, rfl, G4⟩
    obtain ⟨g1, g2, g3⟩ := G4.out
    rw [HNX.out] at g2
    obtain rfl := errV_none g2
    have S4 := hide (S3.out.next g3)
    obtain ⟨fo, fc, rfl, hsh, hor⟩ := g1.form
    have WH := hide (whole G3.out.ok HNX.out hsh.2.2.2.1)
    obtain ⟨FB, hFB⟩ : ∃ FB, mRes x = FB := ⟨_, rfl⟩
    obtain ⟨h1, h2, h3, h4, h5, h6, h7, h8, h9, h10⟩ := WH.out
    rw [hFB] at hsh h4 h6 h7 h8
    have HF : Hid ((ff FB).2 = 0 ∧ mdC (FB.getD 3 0) (FB.take (FB.length - 4)) = 0) := ⟨h6, by rw [h7]; exact h8⟩
    have HSH := hide hsh
    have HFB := hide hsh.2.2.2.1
    have hlf : 12 ≤ FB.length ∧ FB.length ≤ 65507 := by omega
    obtain ⟨gf, rfl⟩ : ∃ gf, fo = some ⟨gf, 0, none⟩ := by
      rcases hor with ⟨rfl, rfl⟩ | ⟨gf, e, _⟩
      · have := hsh.2.1; omega
      · exact ⟨gf, e⟩
    rw [hFB]
    have hfc := hsh.2.1
    clear h1 h2 h3 h4 h5 h6 h7 h8 h9 h10 hsh hor g1 g2 g3 G4 G3 WH hFB S2 S3 RG2 HNX
    obtain ⟨L, hL⟩ : ∃ L, FB.length = L := ⟨_, rfl⟩
    rw [hL] at HSH hlf hfc ⊢
    have HLL := hide hL
    clear hL
    obtain ⟨hl1, hl2⟩ := hlf
    go_wp2_with fail
    refine (lend_to HSH.out).mono ?_
    rintro e w5 ⟨g5, rfl, G5⟩
    have S5 := hide (S4.out.next G5.out.2.2.2)
    have SH5 := hide ((HSH.out.belowL G5.out.2.2.2).wide G5.out.2.2.2.size)
    have HD := hide (dec_any G5.out.1 (HZ.out w5 S5.out.bel).1 (HZ.out w5 S5.out.bel).2)
    unfold DecP at HD
    clear G5 HSH S4
    go_wp2_with fail
    refine HD.out.mono ?_
    clear HD
    rintro e w6 ⟨cs6, x6, b6, rfl, hx6, G6⟩
    obtain ⟨l6, o6, be6, if6, -⟩ := G6.out
    have e6 : b6 = true := if6.2 HF.out
    subst e6
    obtain rfl : x6 = .nilIface := by
      rcases hx6 with ⟨h, _⟩ | ⟨_, _, h⟩
      · exact h
      · cases h
    have S6 := hide (S5.out.next be6)
    have SH6 := hide ((SH5.out.belowL be6).wide be6.size)
    clear l6 o6 be6 if6 hx6 G6 S5 SH5
    go_upto_if 36 with fail
    go_cut [1] from 11 (fun s1 W => (∃ A : Nat, s1 = .int .i64 (A : Int) ∧ A ≤ 9223372036854775807) ∧ W = w6)
    case first =>
      by_cases hneg : cut < 0
      · go_wp2
        go_meet
        case rel => exact ⟨⟨(-(cut + 1)).toNat, by rw [Int.toNat_of_nonneg (by omega)], by omega⟩, rfl⟩
      · go_wp2
        go_meet
        case rel => exact ⟨⟨cut.toNat, by rw [Int.toNat_of_nonneg (by omega)], by omega⟩, rfl⟩
    case rest =>
    obtain ⟨⟨A, rfl, hA⟩, rfl⟩ := hcut
    clear hc1 hc2
    obtain ⟨r, hr⟩ : ∃ r : Nat, r = A % L := ⟨_, rfl⟩
    have hrl : r < L := by rw [hr]; exact Nat.mod_lt _ (by omega)
    have he : (A : Int) % (L : Int) = (r : Int) := by rw [hr, Int.natCast_emod]
    clear hr
    have HD : Hid (Calls Tryz.prog 8 #[.slice (some ⟨gf, 0, none⟩) r fc] wc (DecP (FB.take r) wc)) := dec_any (shows_take SH6.out (by omega)) (HZ.out wc S6.out.bel).1 (HZ.out wc S6.out.bel).2
    have HCT : Hid ((ff (FB.take r)).2 ≠ 0) := ff_cut HF.out.1 (by rw [HLL.out]; exact hrl)
    unfold DecP at HD
    go_wp2_with fail
    refine HD.out.mono ?_
    clear HD he
    rintro e w7 ⟨cs7, x7, b7, rfl, hx7, G7⟩
    obtain ⟨l7, o7, be7, if7, -⟩ := G7.out
    obtain ⟨g7, rfl⟩ : ∃ g7, x7 = .iface 84 (.pointer (some ⟨g7, 0, none⟩)) := by
      rcases hx7 with ⟨_, h⟩ | ⟨g, h, _⟩
      · exact absurd (if7.1 h).1 HCT.out
      · exact ⟨g, h⟩
    have S7 := hide (S6.out.next be7)
    have SH7 := hide ((SH6.out.belowL be7).wide be7.size)
    clear l7 o7 be7 if7 hx7 G7 S6 SH6 HCT
    by_cases hb0 : bn = 0
    · subst hb0
      go_wp2
      go_ret
      exact ⟨rfl, S7.out.bel⟩
    · go_wp2_with fail
      refine (lend_to SH7.out).mono ?_
      rintro e w8 ⟨g8, rfl, G8⟩
      have S8 := hide (S7.out.next G8.out.2.2.2)
      have LG0 : Hid (Lg w FB BB L 0 (.slice (some ⟨g8, 0, none⟩) L (L + 4)) w8) := ⟨S8.out.bel, by
        have h := lent_row G8.out.2.1 (Nat.le_trans S7.out.bel.size G8.out.2.2.1)
        rw [List.take_zero, List.append_nil]
        exact h⟩
      clear G8 S7 SH7 S8
      go_wp2
      go_loopw [9, 10] (fun v i wr => ∃ k : Nat, k ≤ bn ∧ i = .int .i64 k ∧ Hid (Lg w FB BB L k v wr)) (fun _ i _ => bn - (intOf i).toNat)
      case atStart => exact ⟨0, by omega, rfl, LG0.out⟩
      case round =>
        obtain ⟨k, hk, rfl, LGR⟩ := hrel
        clear LG0
        by_cases hlt : k < bn
        · obtain ⟨p1, p2, p3, p4, b, off, p5, p6, p7⟩ := HBB.out wr LGR.out.bel
          obtain rfl := p5 (by omega)
          have c0 := p7 k hlt
          have hbw : b < wr.heap.size := p6 (by omega)
          have HRW : Hid (∀ o, (wr.alloc o).ownsRow w.heap.size 5 1 u9 (L + k) (vals (FB ++ BB.take k))) := fun o => row_quiet LGR.out.row (World.grownBy_alloc wr o none)
          have HNX : Hid (∀ (v' : Value) (w2 : World) (o : Obj), w2.ownsRow w.heap.size 5 1 v' (L + k + 1) (vals (FB ++ BB.take k) ++ [.int .u8 ((BB.getD k 0 : Nat) : Int)]) → (wr.alloc o).grownBy w2 u9.ownBlock → Lg w FB BB L (k + 1) v' w2) := fun v' w2 o ho hg => LGR.out.next (by rw [← HBL.out.1]; exact hlt) ho hg
          have HSW : Hid (w.heap.size ≤ wr.heap.size) := LGR.out.bel.size
          generalize BB.getD k 0 = bt at *
          clear p1 p2 p3 p4 p5 p6 p7
          go_wp2_with (first
            | (at_builtin; refine wpList_append_own_wide _ rfl (.tmp 63) (.tmp 68) 31 rfl w.heap.size 5 i0 (.int .u8 0) 1 1 Tryz.underlying31 hi0 hz0 hz1 hz2 rfl (by decide) u9 (L + k) (vals (FB ++ BB.take k)) rfl (HRW.out _) ⟨wr.heap.size, 0, none⟩ 1 1 [.int .u8 (bt : Int)] rfl rfl (cells_new _ _ _) (by simp [Value.oneCell']) (by unfold maxLen; omega) (by omega) (by have := HSW.out; simp; omega) ?_; intro v' w2 ho hg _; obtain ⟨g', cap', rfl⟩ := ownsRow_succ ho; have NX := hide (HNX.out _ _ _ ho hg); clear ho hg))
          go_roundw
          case rel => exact ⟨k + 1, by omega, by go_num, NX.out⟩
          case measure => simp [intOf]; omega
        · obtain rfl : k = bn := by omega
          clear hlt hk
          have HDL : Hid (Calls Tryz.prog 8 #[u9] wr fun e w' => ∃ (cs : List Value) (g : Nat), e = .returned (.tuple #[.agg cs.toArray, .iface 84 (.pointer (some ⟨g, 0, none⟩))]) ∧ Hid (Below wr.heap.size wr w')) := by
            have hrow := LGR.out.row
            have hle := HBL.out.1
            rw [List.take_of_length_le (by omega)] at hrow
            have hll : (FB ++ BB).length = L + k := by rw [List.length_append, HLL.out, ← hle]
            by_cases hg : 65507 < L + k
            · rcases hrow.2 with ⟨_, h0⟩ | ⟨g, cap, cur, rfl, _⟩
              · omega
              · exact (decode_great (some ⟨g, 0, none⟩) (L + k) cap wr hg (by omega)).mono (fun _ _ ⟨cs, g, e, G⟩ => ⟨cs, g, e, G.out.2.2⟩)
            · have hB : ∀ y ∈ FB ++ BB, y < 256 := fun y hy => by
                rcases List.mem_append.1 hy with h | h
                · exact HFB.out y h
                · exact HBL.out.2 y h
              have hO : Owns w.heap.size wr u9 (FB ++ BB) := ⟨by rw [hll]; exact hrow, hB, by omega⟩
              obtain ⟨ao, cap, rfl, hs, _⟩ := hO.form
              refine (dec_any hs (HZ.out wr LGR.out.bel).1 (HZ.out wr LGR.out.bel).2).mono ?_
              rintro e w' ⟨cs, x, bb, rfl, hx, G⟩
              rcases hx with ⟨_, h⟩ | ⟨g, h, _⟩
              · exact absurd (G.out.2.2.2.1.1 h).1 (ff_more HF.out.1 (by omega))
              · exact ⟨cs, g, by rw [h], G.out.2.2.1⟩
          go_wp2_with fail
          refine HDL.out.mono ?_
          rintro e w9 ⟨cs9, g9, rfl, G9⟩
          go_wp2
          go_ret
          exact ⟨rfl, LGR.out.bel.trans (G9.out.mono LGR.out.bel.size)⟩
end Go.Proofs.YtldhafpeigdloaaGreatDoor
namespace Go.Proofs.YtldhafpeigdloaaGreatDoor
open Go.ChangeShapes Go.WideShapes Go.ChangeAt Go.RowKit Go.Deep

theorem cellsRq : Tryz.prog.cellsOf 100 = 3 := by kernel_rfl
theorem bytesRq : Tryz.prog.bytesOf 100 = 40 := by kernel_rfl
theorem cellsRqs : Tryz.prog.cellsOf 27 = 1 := by kernel_rfl
theorem cellsBt : Tryz.prog.cellsOf 29 = 2 := by kernel_rfl
instance : Inhabited Rq := ⟨⟨0, 0, none, 0, 0, []⟩⟩
theorem pair2 {α : Type} {l : List α} (h : l.length = 2) : ∃ a b, l = [a, b] := by
  match l, h with
  | [a, b], _ => exact ⟨a, b, rfl⟩
theorem list3 {α : Type} {l : List α} (h : l.length = 3) : ∃ a b c, l = [a, b, c] := by
  match l, h with
  | [a, b, c], _ => exact ⟨a, b, c, rfl⟩

/-- Bytes that came in, with the reach's own bound. -/
theorem view_bytesB {H : Type} {enc : TypeId × Value → H} {W : World} {fuel : Nat} {cs : List Value} {x : DataW H × List MemPlace}
    (hf : DataW.trod enc Tryz.prog W 0 (fun _ => true) true fuel 31 cs = some x) (hr : ∀ n ∈ x.1.weights Tryz.prog 31, n ≤ reachBytes) :
    ∃ (ao : Option Addr) (len cap : Nat) (B : List Nat), cs = [.slice ao len cap] ∧ Shows W.heap.size W ao len cap B ∧ len ≤ 140737488351232 := by
  obtain ⟨ao, len, cap, B, rfl, hS⟩ := view_bytes hf hr
  refine ⟨ao, len, cap, B, rfl, hS, ?_⟩
  rcases open_ints Tryz.underlying31 Tryz.underlying5 cellsU8 hf with ⟨hcs, _⟩ | ⟨x, l, c, zs, hcs, _, hl, hm, hz, hx, hcell, hwz⟩
  · simp at hcs
    omega
  · simp at hcs
    obtain ⟨rfl, rfl, rfl⟩ := hcs
    subst hx
    have hr := hr ((lits .u8 (zs.take len)).length + (lits (H := H) .u8 (zs.drop len)).length) (by
      simp only [DataW.weights, Tryz.underlying31, bytesU8, Nat.mul_one]
      exact List.mem_cons_self ..)
    simp only [lits, List.length_map, List.length_take, List.length_drop, reachBytes] at hr
    simp only [if_true] at hz
    omega

/-- A request that came in. -/
theorem view_request {H : Type} {enc : TypeId × Value → H} {W : World} {fuel : Nat} {cs : List Value} {x : DataW H × List MemPlace}
    (h : DataW.trod enc Tryz.prog W 0 (fun _ => true) true fuel 100 cs = some x) (hr : ∀ n ∈ x.1.weights Tryz.prog 100, n ≤ reachBytes) :
    ∃ r : Rq, cs = r.cells.toList ∧ r.Ok W.heap.size W := by
  obtain ⟨xs, n, _, rfl, hl, hlen, hf⟩ := DataW.trod_struct Tryz.underlying100 h
  rw [cellsRq] at hl
  have hlen : xs.length = 3 := hlen
  obtain ⟨c0, c1, c2, rfl⟩ := list3 hl
  obtain ⟨y0, y1, y2, rfl⟩ := list3 hlen
  have e0 : DataW.trod enc Tryz.prog W 0 (fun _ => true) true n 23 (List.take (Tryz.prog.cellsOf 23) [c0, c1, c2]) = some y0 := hf 0 _ rfl
  rw [cellsU64] at e0
  have e1 : DataW.trod enc Tryz.prog W 0 (fun _ => true) true n 23 (List.take (Tryz.prog.cellsOf 23) [c1, c2]) = some y1 := hf 1 _ rfl
  rw [cellsU64] at e1
  have e2 : DataW.trod enc Tryz.prog W 0 (fun _ => true) true n 31 (List.take (Tryz.prog.cellsOf 31) [c2]) = some y2 := hf 2 _ rfl
  rw [cellsBs] at e2
  have hr : ∀ n ∈ DataW.weightsEach Tryz.prog [23, 23, 31] [y0.1, y1.1, y2.1], n ≤ reachBytes := by
    intro n hn
    refine hr n ?_
    simp only [DataW.weights, Tryz.underlying100]
    exact hn
  obtain ⟨K, k0, _, wK⟩ := DataW.trod_int Tryz.underlying23 e0
  obtain ⟨N, k1, _, wN⟩ := DataW.trod_int Tryz.underlying23 e1
  obtain ⟨ao, len, cap, B, k2, hB, hBn⟩ := view_bytesB e2 (fun n hn => hr n (DataW.weights_mem_each (j := 2) rfl rfl n hn))
  have bK := bounds_u64 wK
  have bN := bounds_u64 wN
  simp only [List.take, List.cons.injEq, and_true] at k0 k1 k2
  subst k0 k1 k2
  have hKK : ((K.toNat : Nat) : Int) = K := by omega
  have hNN : ((N.toNat : Nat) : Int) = N := by omega
  exact ⟨⟨K.toNat, N.toNat, ao, len, cap, B⟩, by simp [Rq.cells, hNN, hKK], by simp only; omega, by simp only; omega, hB⟩

/-- The requests that came in. -/
theorem view_requests {H : Type} {enc : TypeId × Value → H} {W : World} {fuel : Nat} {cs : List Value} {x : DataW H × List MemPlace}
    (hf : DataW.trod enc Tryz.prog W 0 (fun _ => true) true fuel 27 cs = some x) (hr : ∀ n ∈ x.1.weights Tryz.prog 27, n ≤ reachBytes) :
    ∃ (ao : Option Addr) (len cap : Nat) (rs : List Rq) (b off : Nat), cs = [.slice ao len cap] ∧ len = rs.length ∧ Rqs W.heap.size W ao rs b off := by
  have hlt := DataW.trod_lt fuel _ _ _ hf
  rcases open_slice Tryz.underlying27 hf with ⟨rfl, _⟩ | ⟨a, len, cap, m, n, D, Pl, rfl, _, hl, hm, hmm, hx, hall⟩
  · exact ⟨none, 0, 0, [], 0, 0, rfl, rfl, fun h => by simp at h, fun h => by simp at h, by simp, by simp, by simp⟩
  · simp only [if_true] at hmm
    subst hmm
    simp only [cellsRq] at hx
    subst hx
    simp only [cellsRq] at hall
    simp only [DataW.weights, Tryz.underlying27, bytesRq, List.length_map, List.length_range] at hr
    have hcap := hr _ (List.mem_cons_self ..)
    simp only [reachBytes] at hcap
    obtain ⟨F, hF⟩ := choose_lt (α := Rq) (n := len) (p := fun i f => f.Ok W.heap.size W ∧ ∀ j v, f.cells[j]? = some v → W.cell? (a.add (i * 3 + j)) = some v) (fun i hi => by
      obtain ⟨cs, h1, h2⟩ := hall i (by omega)
      obtain ⟨f, rfl, hok⟩ := view_request h2 (fun n hn => hr n (List.mem_cons_of_mem _ (List.mem_append_left _ (weights_all hn (List.mem_map.2 ⟨i, List.mem_range.2 hi, rfl⟩)))))
      refine ⟨f, hok, fun j v hj => ?_⟩
      have hj3 : j < 3 := by
        have := (Array.getElem?_eq_some_iff.1 hj).1
        simpa [Rq.cells] using this
      have h3 := (World.cells?_some h1).2.2 j hj3
      rw [add_add] at h3
      rw [h3]
      simpa using hj)
    by_cases hp : 0 < len
    · obtain ⟨b, off, spot⟩ := a
      have h00 := (hF 0 hp).2 0 _ rfl
      have hspot : spot = none := by simpa [Addr.add] using World.cell?_spot h00
      subst hspot
      have hbW : b < W.heap.size := hlt (.cell b off) (List.mem_append_left _ (MemPlace.mem_row.2 ⟨0, by omega, by simp⟩))
      refine ⟨_, len, _, (List.range len).map F, b, off, rfl, by simp, fun _ => rfl, fun _ => hbW, by simp; omega, ?_, ?_⟩
      · intro i f hi j v hj
        have hil : i < len := by
          have := (List.getElem?_eq_some_iff.1 hi).1
          simpa using this
        rw [List.getElem?_map, List.getElem?_range hil] at hi
        cases hi
        have := (hF i hil).2 j v hj
        rw [add_plain] at this
        rw [Nat.add_assoc]
        exact this
      · intro f hf
        obtain ⟨i, hi, rfl⟩ := List.mem_map.1 hf
        exact (hF i (List.mem_range.1 hi)).1
    · obtain rfl : len = 0 := by omega
      exact ⟨_, 0, _, [], 0, 0, rfl, rfl, fun h => by simp at h, fun h => by simp at h, by simp, by simp, by simp⟩

theorem cellsBl : Tryz.prog.cellsOf 25 = 2 := by kernel_rfl
theorem cellsIn : Tryz.prog.cellsOf 3 = 1 := by kernel_rfl
theorem list5 {α : Type} {l : List α} (h : l.length = 5) : ∃ a b c d e, l = [a, b, c, d, e] := by
  match l, h with
  | [a, b, c, d, e], _ => exact ⟨a, b, c, d, e, rfl⟩
theorem list7 {α : Type} {l : List α} (h : l.length = 7) : ∃ a b c d e f g, l = [a, b, c, d, e, f, g] := by
  match l, h with
  | [a, b, c, d, e, f, g], _ => exact ⟨a, b, c, d, e, f, g, rfl⟩
/-- A batch that came in. -/
theorem view_batchL {H : Type} {enc : TypeId × Value → H} {W : World} {fuel : Nat} {cs : List Value} {x : DataW H × List MemPlace}
    (h : DataW.trod enc Tryz.prog W 0 (fun _ => true) true fuel 29 cs = some x) (hr : ∀ n ∈ x.1.weights Tryz.prog 29, n ≤ reachBytes) :
    ∃ (st : Nat) (ao : Option Addr) (cap : Nat) (rs : List Rq) (b off : Nat), cs = [.int .u64 (st : Int), .slice ao rs.length cap] ∧ st < 18446744073709551616 ∧ Rqs W.heap.size W ao rs b off := by
  obtain ⟨xs, n, _, rfl, hl, hlen, hf⟩ := DataW.trod_struct Tryz.underlying29 h
  rw [cellsBt] at hl
  have hlen : xs.length = 2 := hlen
  obtain ⟨c0, c1, rfl⟩ := pair2 hl
  obtain ⟨y0, y1, rfl⟩ := pair2 hlen
  have e0 : DataW.trod enc Tryz.prog W 0 (fun _ => true) true n 23 (List.take (Tryz.prog.cellsOf 23) [c0, c1]) = some y0 := hf 0 _ rfl
  rw [cellsU64] at e0
  have e1 : DataW.trod enc Tryz.prog W 0 (fun _ => true) true n 27 (List.take (Tryz.prog.cellsOf 27) [c1]) = some y1 := hf 1 _ rfl
  rw [cellsRqs] at e1
  have hr : ∀ n ∈ DataW.weightsEach Tryz.prog [23, 27] [y0.1, y1.1], n ≤ reachBytes := by
    intro n hn
    refine hr n ?_
    simp only [DataW.weights, Tryz.underlying29]
    exact hn
  obtain ⟨K, k0, _, wK⟩ := DataW.trod_int Tryz.underlying23 e0
  obtain ⟨ao, len, cap, rs, b, off, k1, rfl, hR⟩ := view_requests e1 (fun n hn => hr n (DataW.weights_mem_each (j := 1) rfl rfl n hn))
  have bK := bounds_u64 wK
  simp only [List.take, List.cons.injEq, and_true] at k0 k1
  subst k0 k1
  have hKK : ((K.toNat : Nat) : Int) = K := by omega
  exact ⟨K.toNat, ao, cap, rs, b, off, by rw [hKK], by omega, hR⟩
/-- A ballot that came in. -/
theorem view_ballotL {H : Type} {enc : TypeId × Value → H} {W : World} {fuel : Nat} {cs : List Value} {x : DataW H × List MemPlace}
    (h : DataW.trod enc Tryz.prog W 0 (fun _ => true) true fuel 25 cs = some x) :
    ∃ (num : Nat) (node : Int), cs = [.int .u64 (num : Int), .int .i64 node] ∧ num < 18446744073709551616 := by
  obtain ⟨xs, n, _, rfl, hl, hlen, hf⟩ := DataW.trod_struct Tryz.underlying25 h
  rw [cellsBl] at hl
  have hlen : xs.length = 2 := hlen
  obtain ⟨c0, c1, rfl⟩ := pair2 hl
  obtain ⟨y0, y1, rfl⟩ := pair2 hlen
  have e0 : DataW.trod enc Tryz.prog W 0 (fun _ => true) true n 23 (List.take (Tryz.prog.cellsOf 23) [c0, c1]) = some y0 := hf 0 _ rfl
  rw [cellsU64] at e0
  have e1 : DataW.trod enc Tryz.prog W 0 (fun _ => true) true n 3 (List.take (Tryz.prog.cellsOf 3) [c1]) = some y1 := hf 1 _ rfl
  rw [cellsIn] at e1
  obtain ⟨K, k0, _, wK⟩ := DataW.trod_int Tryz.underlying23 e0
  obtain ⟨N, k1, _, _⟩ := DataW.trod_int Tryz.underlying3 e1
  have bK := bounds_u64 wK
  simp only [List.take, List.cons.injEq, and_true] at k0 k1
  subst k0 k1
  have hKK : ((K.toNat : Nat) : Int) = K := by omega
  exact ⟨K.toNat, N, by rw [hKK], by omega⟩
end Go.Proofs.YtldhafpeigdloaaGreatDoor
namespace Go.Proofs.YtldhafpeigdloaaGreatDoor
open Go.ChangeShapes Go.WideShapes Go.ChangeAt Go.RowKit Go.Deep

theorem cellsVt : Tryz.prog.cellsOf 66 = 5 := by kernel_rfl
theorem bytesVt : Tryz.prog.bytesOf 66 = 56 := by kernel_rfl
instance : Inhabited Vi := ⟨⟨0, 0, 0, 0, none, 0, 0, [], 0, 0⟩⟩
/-- A vote that came in. -/
theorem view_vote {H : Type} {enc : TypeId × Value → H} {W : World} {fuel : Nat} {cs : List Value} {x : DataW H × List MemPlace}
    (h : DataW.trod enc Tryz.prog W 0 (fun _ => true) true fuel 66 cs = some x) (hr : ∀ n ∈ x.1.weights Tryz.prog 66, n ≤ reachBytes) :
    ∃ t : Vi, cs = t.cells ∧ t.Ok W.heap.size W := by
  obtain ⟨xs, n, _, rfl, hl, hlen, hf⟩ := DataW.trod_struct Tryz.underlying66 h
  rw [cellsVt] at hl
  have hlen : xs.length = 3 := hlen
  obtain ⟨c0, c1, c2, c3, c4, rfl⟩ := list5 hl
  obtain ⟨y0, y1, y2, rfl⟩ := list3 hlen
  have e0 : DataW.trod enc Tryz.prog W 0 (fun _ => true) true n 23 (List.take (Tryz.prog.cellsOf 23) [c0, c1, c2, c3, c4]) = some y0 := hf 0 _ rfl
  rw [cellsU64] at e0
  have e1 : DataW.trod enc Tryz.prog W 0 (fun _ => true) true n 25 (List.take (Tryz.prog.cellsOf 25) [c1, c2, c3, c4]) = some y1 := hf 1 _ rfl
  rw [cellsBl] at e1
  have e2 : DataW.trod enc Tryz.prog W 0 (fun _ => true) true n 29 (List.take (Tryz.prog.cellsOf 29) [c3, c4]) = some y2 := hf 2 _ rfl
  rw [cellsBt] at e2
  have hr : ∀ n ∈ DataW.weightsEach Tryz.prog [23, 25, 29] [y0.1, y1.1, y2.1], n ≤ reachBytes := by
    intro n hn
    refine hr n ?_
    simp only [DataW.weights, Tryz.underlying66]
    exact hn
  obtain ⟨K, k0, _, wK⟩ := DataW.trod_int Tryz.underlying23 e0
  obtain ⟨num, node, k1, hnum⟩ := view_ballotL e1
  obtain ⟨st, ao, cap, rs, b, off, k2, hst, hR⟩ := view_batchL e2 (fun n hn => hr n (DataW.weights_mem_each (j := 2) rfl rfl n hn))
  have bK := bounds_u64 wK
  simp only [List.take, List.cons.injEq, and_true] at k0 k1 k2
  obtain ⟨k1, k1'⟩ := k1
  obtain ⟨k2, k2'⟩ := k2
  subst k0 k1 k1' k2 k2'
  have hKK : ((K.toNat : Nat) : Int) = K := by omega
  exact ⟨⟨K.toNat, num, node, st, ao, rs.length, cap, rs, b, off⟩, by simp [Vi.cells, hKK], by simp only; omega, hnum, hst, hR, rfl⟩
/-- The votes that came in. -/
theorem view_votes {H : Type} {enc : TypeId × Value → H} {W : World} {fuel : Nat} {cs : List Value} {x : DataW H × List MemPlace}
    (hf : DataW.trod enc Tryz.prog W 0 (fun _ => true) true fuel 26 cs = some x) (hr : ∀ n ∈ x.1.weights Tryz.prog 26, n ≤ reachBytes) :
    ∃ (ao : Option Addr) (len cap : Nat) (ts : List Vi) (b off : Nat), cs = [.slice ao len cap] ∧ len = ts.length ∧ Vos W.heap.size W ao ts b off := by
  have hlt := DataW.trod_lt fuel _ _ _ hf
  rcases open_slice Tryz.underlying26 hf with ⟨rfl, _⟩ | ⟨a, len, cap, m, n, D, Pl, rfl, _, hl, hm, hmm, hx, hall⟩
  · exact ⟨none, 0, 0, [], 0, 0, rfl, rfl, fun h => by simp at h, fun h => by simp at h, by simp, by simp, by simp⟩
  · simp only [if_true] at hmm
    subst hmm
    simp only [cellsVt] at hx
    subst hx
    simp only [cellsVt] at hall
    simp only [DataW.weights, Tryz.underlying26, bytesVt, List.length_map, List.length_range] at hr
    have hcap := hr _ (List.mem_cons_self ..)
    simp only [reachBytes] at hcap
    obtain ⟨F, hF⟩ := choose_lt (α := Vi) (n := len) (p := fun i f => f.Ok W.heap.size W ∧ ∀ j v, f.cells[j]? = some v → W.cell? (a.add (i * 5 + j)) = some v) (fun i hi => by
      obtain ⟨cs, h1, h2⟩ := hall i (by omega)
      obtain ⟨f, rfl, hok⟩ := view_vote h2 (fun n hn => hr n (List.mem_cons_of_mem _ (List.mem_append_left _ (weights_all hn (List.mem_map.2 ⟨i, List.mem_range.2 hi, rfl⟩)))))
      refine ⟨f, hok, fun j v hj => ?_⟩
      have hj5 : j < 5 := by
        have := (List.getElem?_eq_some_iff.1 hj).1
        simpa [Vi.cells] using this
      have h3 := (World.cells?_some h1).2.2 j hj5
      rw [add_add] at h3
      rw [h3]
      simpa using hj)
    by_cases hp : 0 < len
    · obtain ⟨b, off, spot⟩ := a
      have h00 := (hF 0 hp).2 0 _ rfl
      have hspot : spot = none := by simpa [Addr.add] using World.cell?_spot h00
      subst hspot
      have hbW : b < W.heap.size := hlt (.cell b off) (List.mem_append_left _ (MemPlace.mem_row.2 ⟨0, by omega, by simp⟩))
      refine ⟨_, len, _, (List.range len).map F, b, off, rfl, by simp, fun _ => rfl, fun _ => hbW, by simp; omega, ?_, ?_⟩
      · intro i f hi j v hj
        have hil : i < len := by
          have := (List.getElem?_eq_some_iff.1 hi).1
          simpa using this
        rw [List.getElem?_map, List.getElem?_range hil] at hi
        cases hi
        have := (hF i hil).2 j v hj
        rw [add_plain] at this
        rw [Nat.add_assoc]
        exact this
      · intro f hf
        obtain ⟨i, hi, rfl⟩ := List.mem_map.1 hf
        exact (hF i (List.mem_range.1 hi)).1
    · obtain rfl : len = 0 := by omega
      exact ⟨_, 0, _, [], 0, 0, rfl, rfl, fun h => by simp at h, fun h => by simp at h, by simp, by simp, by simp⟩
end Go.Proofs.YtldhafpeigdloaaGreatDoor
namespace Go.Proofs.YtldhafpeigdloaaGreatDoor
open Go.ChangeShapes Go.WideShapes Go.ChangeAt Go.RowKit Go.Deep

theorem cellsHs : Tryz.prog.cellsOf 33 = 32 := by kernel_rfl
theorem bytesHs : Tryz.prog.bytesOf 33 = 32 := by kernel_rfl
/-- A hash that came in. -/
theorem view_hash {H : Type} {enc : TypeId × Value → H} {W : World} {fuel : Nat} {cs : List Value} {x : DataW H × List MemPlace}
    (h : DataW.trod enc Tryz.prog W 0 (fun _ => true) true fuel 33 cs = some x) :
    ∃ t : List Nat, cs = vals t ∧ t.length = 32 ∧ ∀ y ∈ t, y < 256 := by
  have hu : Tryz.prog.underlying 33 = some (.array 32 5) := by kernel_rfl
  have hu8 : Tryz.prog.underlying 5 = some (.int .u8) := by kernel_rfl
  have hc8 : Tryz.prog.cellsOf 5 = 1 := by kernel_rfl
  obtain ⟨xs, n, _, _, hl, hlen, hf⟩ := DataW.trod_array hu h
  rw [cellsHs] at hl
  obtain ⟨F, hF⟩ := choose_lt (α := Nat) (n := 32) (p := fun i y => cs[i]? = some (.int .u8 (y : Int)) ∧ y < 256) (fun i hi => by
    have e := hf i hi
    rw [hc8, Nat.mul_one, List.getElem?_eq_getElem (by omega)] at e
    obtain ⟨K, k0, _, wK⟩ := DataW.trod_int hu8 e
    have bK := bounds_u8 wK
    refine ⟨K.toNat, ?_, by omega⟩
    have e2 : (cs.drop i).take 1 = [cs[i]'(by omega)] := by
      rw [List.drop_eq_getElem_cons (by omega)]
      rfl
    rw [e2] at k0
    rw [List.getElem?_eq_getElem (by omega)]
    simp only [List.cons.injEq, and_true] at k0
    rw [k0, Int.toNat_of_nonneg (by omega)])
  refine ⟨(List.range 32).map F, ?_, by simp, fun y hy => ?_⟩
  · refine List.ext_getElem? (fun i => ?_)
    by_cases hi : i < 32
    · rw [(hF i hi).1]
      simp [vals, List.getElem?_map, List.getElem?_range hi]
    · rw [List.getElem?_eq_none (by omega), List.getElem?_eq_none (by simp [vals]; omega)]
  · obtain ⟨i, hi, rfl⟩ := List.mem_map.1 hy
    exact (hF i (List.mem_range.1 hi)).2
/-- The path that came in. -/
theorem view_path {H : Type} {enc : TypeId × Value → H} {W : World} {fuel : Nat} {cs : List Value} {x : DataW H × List MemPlace}
    (hf : DataW.trod enc Tryz.prog W 0 (fun _ => true) true fuel 34 cs = some x) (hr : ∀ n ∈ x.1.weights Tryz.prog 34, n ≤ reachBytes) :
    ∃ (ao : Option Addr) (len cap : Nat) (hs : List (List Nat)) (b off : Nat), cs = [.slice ao len cap] ∧ len = hs.length ∧ Hos W.heap.size W ao hs b off := by
  have hlt := DataW.trod_lt fuel _ _ _ hf
  rcases open_slice Tryz.underlying34 hf with ⟨rfl, _⟩ | ⟨a, len, cap, m, n, D, Pl, rfl, _, hl, hm, hmm, hx, hall⟩
  · exact ⟨none, 0, 0, [], 0, 0, rfl, rfl, fun h => by simp at h, fun h => by simp at h, by simp, by simp, by simp⟩
  · simp only [if_true] at hmm
    subst hmm
    simp only [cellsHs] at hx
    subst hx
    simp only [cellsHs] at hall
    simp only [DataW.weights, Tryz.underlying34, bytesHs, List.length_map, List.length_range] at hr
    have hcap := hr _ (List.mem_cons_self ..)
    simp only [reachBytes] at hcap
    obtain ⟨F, hF⟩ := choose_lt (α := List Nat) (n := len) (p := fun i f => (f.length = 32 ∧ ∀ y ∈ f, y < 256) ∧ ∀ j v, (vals f)[j]? = some v → W.cell? (a.add (i * 32 + j)) = some v) (fun i hi => by
      obtain ⟨cs, h1, h2⟩ := hall i (by omega)
      obtain ⟨f, rfl, hok⟩ := view_hash h2
      refine ⟨f, hok, fun j v hj => ?_⟩
      have hj5 : j < 32 := by
        have := (List.getElem?_eq_some_iff.1 hj).1
        rw [vals_len, hok.1] at this
        exact this
      have h3 := (World.cells?_some h1).2.2 j hj5
      rw [add_add] at h3
      rw [h3]
      simpa using hj)
    by_cases hp : 0 < len
    · obtain ⟨b, off, spot⟩ := a
      obtain ⟨y, hy⟩ : ∃ y, (vals (F 0))[0]? = some y := ⟨_, List.getElem?_eq_getElem (by rw [vals_len, (hF 0 hp).1.1]; omega)⟩
      have h00 := (hF 0 hp).2 0 _ hy
      have hspot : spot = none := by simpa [Addr.add] using World.cell?_spot h00
      subst hspot
      have hbW : b < W.heap.size := hlt (.cell b off) (List.mem_append_left _ (MemPlace.mem_row.2 ⟨0, by omega, by simp⟩))
      refine ⟨_, len, _, (List.range len).map F, b, off, rfl, by simp, fun _ => rfl, fun _ => hbW, by simp; omega, ?_, ?_⟩
      · intro f hf
        obtain ⟨i, hi, rfl⟩ := List.mem_map.1 hf
        exact (hF i (List.mem_range.1 hi)).1
      · intro i f hi j v hj
        have hil : i < len := by
          have := (List.getElem?_eq_some_iff.1 hi).1
          simpa using this
        rw [List.getElem?_map, List.getElem?_range hil] at hi
        cases hi
        have := (hF i hil).2 j v hj
        rw [add_plain] at this
        rw [Nat.add_assoc]
        exact this
    · obtain rfl : len = 0 := by omega
      exact ⟨_, 0, _, [], 0, 0, rfl, rfl, fun h => by simp at h, fun h => by simp at h, by simp, by simp, by simp⟩
end Go.Proofs.YtldhafpeigdloaaGreatDoor
namespace Go.Proofs.YtldhafpeigdloaaGreatDoor
open Go.ChangeShapes Go.WideShapes Go.ChangeAt Go.RowKit Go.Deep

theorem cellsKd : Tryz.prog.cellsOf 22 = 1 := by kernel_rfl
theorem cellsVs : Tryz.prog.cellsOf 26 = 1 := by kernel_rfl
theorem cellsEr : Tryz.prog.cellsOf 30 = 1 := by kernel_rfl
theorem cellsBo : Tryz.prog.cellsOf 4 = 1 := by kernel_rfl
theorem cellsHl : Tryz.prog.cellsOf 34 = 1 := by kernel_rfl
theorem cellsMs : Tryz.prog.cellsOf 36 = 49 := by kernel_rfl
theorem list16 {α : Type} {l : List α} (h : l.length = 16) : ∃ y0 y1 y2 y3 y4 y5 y6 y7 y8 y9 y10 y11 y12 y13 y14 y15, l = [y0, y1, y2, y3, y4, y5, y6, y7, y8, y9, y10, y11, y12, y13, y14, y15] := by
  match l, h with
  | [y0, y1, y2, y3, y4, y5, y6, y7, y8, y9, y10, y11, y12, y13, y14, y15], _ => exact ⟨y0, y1, y2, y3, y4, y5, y6, y7, y8, y9, y10, y11, y12, y13, y14, y15, rfl⟩
theorem peel (L : List Value) (a c : Nat) {p : List Value} (h : (L.drop a).take c = p) : L.drop a = p ++ L.drop (a + c) := by
  rw [← h, ← List.drop_drop, List.take_append_drop]
/-- The message that came in. -/
theorem view_msg {H : Type} {enc : TypeId × Value → H} {W : World} {cs : Array Value} {d : DataW H} {p : List MemPlace}
    (h : DataW.Trod enc Tryz.prog W 0 (fun _ => true) true 36 (.agg cs) d p) (hr : ∀ n ∈ d.weights Tryz.prog 36, n ≤ reachBytes) :
    ∃ m : Mg, cs = m.R.toArray ∧ m.Ok W.heap.size W := by
  obtain ⟨fuel, hf0⟩ := h
  obtain ⟨xs, n, _, hx, hl, hlen, hf⟩ := DataW.trod_struct Tryz.underlying36 hf0
  clear hf0
  simp only [Prod.mk.injEq] at hx
  obtain ⟨hd, _⟩ := hx
  subst hd
  rw [cellsMs] at hl
  have hlen : xs.length = 16 := hlen
  obtain ⟨y0, y1, y2, y3, y4, y5, y6, y7, y8, y9, y10, y11, y12, y13, y14, y15, rfl⟩ := list16 hlen
  obtain ⟨L, hL⟩ : ∃ L : List Value, (Value.agg cs).cells.toList = L := ⟨_, rfl⟩
  have hcs : cs.toList = L := hL
  have hl : L.length = 49 := by rw [← hL]; exact hl
  have e0 : DataW.trod enc Tryz.prog W 0 (fun _ => true) true n 22 ((L.drop 0).take (Tryz.prog.cellsOf 22)) = some y0 := by rw [← hL]; exact hf 0 _ rfl
  rw [cellsKd] at e0
  have e1 : DataW.trod enc Tryz.prog W 0 (fun _ => true) true n 25 ((L.drop 1).take (Tryz.prog.cellsOf 25)) = some y1 := by rw [← hL]; exact hf 1 _ rfl
  rw [cellsBl] at e1
  have e2 : DataW.trod enc Tryz.prog W 0 (fun _ => true) true n 23 ((L.drop 3).take (Tryz.prog.cellsOf 23)) = some y2 := by rw [← hL]; exact hf 2 _ rfl
  rw [cellsU64] at e2
  have e3 : DataW.trod enc Tryz.prog W 0 (fun _ => true) true n 23 ((L.drop 4).take (Tryz.prog.cellsOf 23)) = some y3 := by rw [← hL]; exact hf 3 _ rfl
  rw [cellsU64] at e3
  have e4 : DataW.trod enc Tryz.prog W 0 (fun _ => true) true n 26 ((L.drop 5).take (Tryz.prog.cellsOf 26)) = some y4 := by rw [← hL]; exact hf 4 _ rfl
  rw [cellsVs] at e4
  have e5 : DataW.trod enc Tryz.prog W 0 (fun _ => true) true n 29 ((L.drop 6).take (Tryz.prog.cellsOf 29)) = some y5 := by rw [← hL]; exact hf 5 _ rfl
  rw [cellsBt] at e5
  have e6 : DataW.trod enc Tryz.prog W 0 (fun _ => true) true n 23 ((L.drop 8).take (Tryz.prog.cellsOf 23)) = some y6 := by rw [← hL]; exact hf 6 _ rfl
  rw [cellsU64] at e6
  have e7 : DataW.trod enc Tryz.prog W 0 (fun _ => true) true n 23 ((L.drop 9).take (Tryz.prog.cellsOf 23)) = some y7 := by rw [← hL]; exact hf 7 _ rfl
  rw [cellsU64] at e7
  have e8 : DataW.trod enc Tryz.prog W 0 (fun _ => true) true n 30 ((L.drop 10).take (Tryz.prog.cellsOf 30)) = some y8 := by rw [← hL]; exact hf 8 _ rfl
  rw [cellsEr] at e8
  have e9 : DataW.trod enc Tryz.prog W 0 (fun _ => true) true n 31 ((L.drop 11).take (Tryz.prog.cellsOf 31)) = some y9 := by rw [← hL]; exact hf 9 _ rfl
  rw [cellsBs] at e9
  have e10 : DataW.trod enc Tryz.prog W 0 (fun _ => true) true n 31 ((L.drop 12).take (Tryz.prog.cellsOf 31)) = some y10 := by rw [← hL]; exact hf 10 _ rfl
  rw [cellsBs] at e10
  have e11 : DataW.trod enc Tryz.prog W 0 (fun _ => true) true n 4 ((L.drop 13).take (Tryz.prog.cellsOf 4)) = some y11 := by rw [← hL]; exact hf 11 _ rfl
  rw [cellsBo] at e11
  have e12 : DataW.trod enc Tryz.prog W 0 (fun _ => true) true n 23 ((L.drop 14).take (Tryz.prog.cellsOf 23)) = some y12 := by rw [← hL]; exact hf 12 _ rfl
  rw [cellsU64] at e12
  have e13 : DataW.trod enc Tryz.prog W 0 (fun _ => true) true n 23 ((L.drop 15).take (Tryz.prog.cellsOf 23)) = some y13 := by rw [← hL]; exact hf 13 _ rfl
  rw [cellsU64] at e13
  have e14 : DataW.trod enc Tryz.prog W 0 (fun _ => true) true n 33 ((L.drop 16).take (Tryz.prog.cellsOf 33)) = some y14 := by rw [← hL]; exact hf 14 _ rfl
  rw [cellsHs] at e14
  have e15 : DataW.trod enc Tryz.prog W 0 (fun _ => true) true n 34 ((L.drop 48).take (Tryz.prog.cellsOf 34)) = some y15 := by rw [← hL]; exact hf 15 _ rfl
  rw [cellsHl] at e15
  clear hf hlen
  have hr : ∀ n ∈ DataW.weightsEach Tryz.prog [22, 25, 23, 23, 26, 29, 23, 23, 30, 31, 31, 4, 23, 23, 33, 34] [y0.1, y1.1, y2.1, y3.1, y4.1, y5.1, y6.1, y7.1, y8.1, y9.1, y10.1, y11.1, y12.1, y13.1, y14.1, y15.1], n ≤ reachBytes := by
    intro n hn
    refine hr n ?_
    simp only [DataW.weights, Tryz.underlying36]
    exact hn
  obtain ⟨kind, k0, _, _⟩ := DataW.trod_int Tryz.underlying22 e0
  obtain ⟨num, node, k1, hnum⟩ := view_ballotL e1
  obtain ⟨s2, k2, _, w2⟩ := DataW.trod_int Tryz.underlying23 e2
  obtain ⟨s3, k3, _, w3⟩ := DataW.trod_int Tryz.underlying23 e3
  obtain ⟨vo, vn, vc, vs, vb, voff, k4, hvn, hV⟩ := view_votes e4 (fun n hn => hr n (DataW.weights_mem_each (j := 4) rfl rfl n hn))
  obtain ⟨st, ro, rc, rs, b, off, k5, hst, hR⟩ := view_batchL e5 (fun n hn => hr n (DataW.weights_mem_each (j := 5) rfl rfl n hn))
  obtain ⟨s6, k6, _, w6⟩ := DataW.trod_int Tryz.underlying23 e6
  obtain ⟨s7, k7, _, w7⟩ := DataW.trod_int Tryz.underlying23 e7
  obtain ⟨code, k8, _, w8⟩ := DataW.trod_int Tryz.underlying30 e8
  obtain ⟨co, cn, cc, C, k9, hC, -⟩ := view_bytesB e9 (fun n hn => hr n (DataW.weights_mem_each (j := 9) rfl rfl n hn))
  obtain ⟨do_, dn, dc, D, k10, hD, -⟩ := view_bytesB e10 (fun n hn => hr n (DataW.weights_mem_each (j := 10) rfl rfl n hn))
  obtain ⟨sus, k11, _⟩ := DataW.trod_bool Tryz.underlying4 e11
  obtain ⟨s12, k12, _, w12⟩ := DataW.trod_int Tryz.underlying23 e12
  obtain ⟨s13, k13, _, w13⟩ := DataW.trod_int Tryz.underlying23 e13
  obtain ⟨root, k14, rl, rb⟩ := view_hash e14
  obtain ⟨po, pn, pc, hs, pb, poff, k15, hpn, hP⟩ := view_path e15 (fun n hn => hr n (DataW.weights_mem_each (j := 15) rfl rfl n hn))
  have b2 := bounds_u64 w2
  have b3 := bounds_u64 w3
  have b6 := bounds_u64 w6
  have b7 := bounds_u64 w7
  have b8 := bounds_i64 w8
  have b12 := bounds_u64 w12
  have b13 := bounds_u64 w13
  clear e0 e1 e2 e3 e4 e5 e6 e7 e8 e9 e10 e11 e12 e13 e14 e15 hr w2 w3 w6 w7 w8 w12 w13
  obtain ⟨slot, rfl⟩ := Int.eq_ofNat_of_zero_le b2.1
  obtain ⟨low, rfl⟩ := Int.eq_ofNat_of_zero_le b3.1
  obtain ⟨seq, rfl⟩ := Int.eq_ofNat_of_zero_le b6.1
  obtain ⟨stamp, rfl⟩ := Int.eq_ofNat_of_zero_le b7.1
  obtain ⟨idx, rfl⟩ := Int.eq_ofNat_of_zero_le b12.1
  obtain ⟨cnt, rfl⟩ := Int.eq_ofNat_of_zero_le b13.1
  have q0 := peel L 0 1 k0
  have q1 := peel L 1 2 k1
  have q2 := peel L 3 1 k2
  have q3 := peel L 4 1 k3
  have q4 := peel L 5 1 k4
  have q5 := peel L 6 2 k5
  have q6 := peel L 8 1 k6
  have q7 := peel L 9 1 k7
  have q8 := peel L 10 1 k8
  have q9 := peel L 11 1 k9
  have q10 := peel L 12 1 k10
  have q11 := peel L 13 1 k11
  have q12 := peel L 14 1 k12
  have q13 := peel L 15 1 k13
  have q14 := peel L 16 32 k14
  have q15 := peel L 48 1 k15
  have q16 : L.drop 49 = [] := List.drop_eq_nil_of_le (by omega)
  refine ⟨⟨kind, num, node, slot, low, vo, vn, vc, vs, vb, voff, st, ro, rs.length, rc, rs, b, off, seq, stamp, code, co, cn, cc, C, do_, dn, dc, D, sus, idx, cnt, root, po, pn, pc, hs, pb, poff⟩, ?_, ?_⟩
  · have e : cs = L.toArray := by rw [← hcs]
    have e2 : L = L.drop 0 := rfl
    rw [e, e2, q0, q1, q2, q3, q4, q5, q6, q7, q8, q9, q10, q11, q12, q13, q14, q15, q16]
    show ([Value.int .i64 kind] ++ _).toArray = _
    simp only [Mg.R, Mg.pre, List.cons_append, List.nil_append, List.append_nil]
  · exact ⟨hnum, by show slot < _; omega, by show low < _; omega, hst, by show seq < _; omega, by show stamp < _; omega, by show idx < _; omega, by show cnt < _; omega, by show -9223372036854775808 ≤ code ∧ code < 9223372036854775808; omega, hV, hvn.symm, hR, rfl, hC, hD, rl, rb, hP, hpn.symm⟩
end Go.Proofs.YtldhafpeigdloaaGreatDoor
namespace Go.Proofs.YtldhafpeigdloaaGreatDoor.laidTab
open Go.ChangeShapes Go.WideShapes Go.ChangeAt Go.RowKit Crc

theorem gTabType : (Tryz.prog.globals[0]?).map (·.type) = some 105 := by kernel_rfl
theorem cellsA : Tryz.prog.cellsOf 105 = 16 := by kernel_rfl
theorem cellsE : Tryz.prog.cellsOf 96 = 1 := by kernel_rfl
def tabZ : List Int := [0, 274646895, 549293790, 820201905, 1098587580, 1361435347, 1640403810, 1905808397, 2197175160, 2460548119, 2722870694, 2987750089, 3280807620, 3553878443, 3811616794, 4084100981]
theorem lt_size {W : World} (h : Table W) : 0 < W.heap.size := by
  have := h 0 (by omega)
  simp only [World.cell?] at this
  by_cases hs : 0 < W.heap.size
  · exact hs
  · have : W.heap.size = 0 := by omega
    simp_all
def lay (w : World) : World :=
  { w with heap := w.heap.modify 0 fun
      | .cells _ t frozen => .cells #[.int .u32 0, .int .u32 274646895, .int .u32 549293790, .int .u32 820201905, .int .u32 1098587580, .int .u32 1361435347, .int .u32 1640403810, .int .u32 1905808397, .int .u32 2197175160, .int .u32 2460548119, .int .u32 2722870694, .int .u32 2987750089, .int .u32 3280807620, .int .u32 3553878443, .int .u32 3811616794, .int .u32 4084100981] t frozen
      | o => o }
theorem table_below {W w1 : World} (h0 : 0 < W.heap.size) (h : Table W) (hb : Below W.heap.size W w1) : Table w1 := fun i hi => (hb.cell (p := ⟨0, i, none⟩) h0).trans (h i hi)
end Go.Proofs.YtldhafpeigdloaaGreatDoor.laidTab
