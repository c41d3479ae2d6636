import Derived.Test.YtgaalaoflaklgaaGreatM52
import Derived.Deep.DeepCutAuto
import Derived.Handy
namespace Go.Proofs.YtgaalaoflaklgaaGreat
open Go.RowKit Crc

/-- What stands all along: nothing old has turned; the two boxes. -/
structure Ap (w : World) (V R : Array Value) (W : World) : Prop where
  bel : Below w.heap.size w W
  vb : W.heap[w.heap.size]? = some (.cells V 25 (0, 0))
  rb : W.heap[w.heap.size + 1]? = some (.cells R 31 (0, 0))
theorem Ap.quiet {w : World} {V R : Array Value} {W W' : World} (h : Ap w V R W) (hg : W.grownBy W' none) : Ap w V R W' :=
  ⟨h.bel.grown hg h.bel.size (fun k e => by cases e), (hg.block _ (block_lt h.vb) (by simp)).trans h.vb, (hg.block _ (block_lt h.rb) (by simp)).trans h.rb⟩
theorem Ap.below {w : World} {V R : Array Value} {W W' : World} (h : Ap w V R W) (hb : Below W.heap.size W W') : Ap w V R W' := h.quiet (below_none hb)
theorem Ap.alloc {w : World} {V R : Array Value} {W : World} (h : Ap w V R W) (o : Obj) : Ap w V R (W.alloc o) := h.quiet (World.grownBy_alloc _ _ _)
theorem Ap.lt {w : World} {V R : Array Value} {W : World} (h : Ap w V R W) : w.heap.size + 1 < W.heap.size := block_lt h.rb
theorem cells2 {W : World} {b : Nat} {x0 x1 : Value} {t : TypeId} (h : W.heap[b]? = some (.cells #[x0, x1] t (0, 0))) : W.cell? ⟨b, 0, none⟩ = some x0 ∧ W.cell? ⟨b, 1, none⟩ = some x1 := by
  have p0 := block_cell h 0
  have p1 := block_cell h 1
  simp at p0 p1
  exact ⟨p0, p1⟩
theorem errV_or {w : World} {x : Value} {c a : Int} (h : ErrV w x c a) : ∃ bb : Bool, (bb = true ↔ c = 0) ∧ ((x = .nilIface ∧ bb = true) ∨ ∃ g, x = .iface 117 (.pointer (some ⟨g, 0, none⟩)) ∧ bb = false) := by
  by_cases hc : c = 0
  · rw [hc] at h
    exact ⟨true, by simp [hc], .inl ⟨errV_none h, rfl⟩⟩
  · obtain ⟨g, e⟩ := errV_some h hc
    exact ⟨false, by simp [hc], .inr ⟨g, e, rfl⟩⟩
theorem drew_grown1 (w : World) : w.grownBy w.drew none := ⟨rfl, rfl, rfl, Nat.le_refl _, fun _ _ _ => rfl⟩
/-- What a store into a new box leaves. -/
theorem Ap.store2 {w : World} {V R : Array Value} {W : World} (h : Ap w V R W) (Z : Array Value) (t : TypeId) (a b : Value) : Ap w V R (((W.alloc (.cells Z t)).setCell ⟨W.heap.size, 0, none⟩ a).setCell ⟨W.heap.size, 1, none⟩ b) := by
  refine h.quiet ?_
  have g1 := grown_new (w := W) (o := .cells Z t) (grown_trans (row := some W.heap.size) (grown_set _ W.heap.size 0 a) (grown_set _ W.heap.size 1 b))
  exact g1

set_option maxRecDepth 10000 in
set_option maxHeartbeats 3200000 in
theorem apart_walk {w : World} (st : Nat) (hst : st < 18446744073709551616) {ro : Option Addr} {rs : List Rq} {b off : Nat} (rc n : Nat) (hn : rs.length = n) (h : Rqs w.heap.size w ro rs b off)
    (k : Int) (num : Nat) (hnum : num < 18446744073709551616) (node : Int) (slot st2 : Nat) (hslot : slot < 18446744073709551616) (hst2 : st2 < 18446744073709551616) {ro2 : Option Addr} {rs2 : List Rq} {b2 off2 : Nat} (rc2 n2 : Nat) (hn2 : rs2.length = n2) (h2 : Rqs w.heap.size w ro2 rs2 b2 off2) {do_ : Option Addr} {m dc : Nat} {D : List Nat} (hd : Shows w.heap.size w do_ m dc D) (hm : m ≤ 140737488351232)
    {bo : Option Addr} {bn bc : Nat} {BB : List Nat} (hb : Shows w.heap.size w bo bn bc BB) :
    Calls Tryz.prog 3 #[.agg #[.int .u64 (st : Int), .slice ro n rc], .agg #[.int .i64 k, .int .u64 (num : Int), .int .i64 node, .int .u64 (slot : Int), .int .u64 (st2 : Int), .slice ro2 n2 rc2, .slice do_ m dc], .slice bo bn bc] w fun e w' => e = .returned (.bool true) ∧ Below w.heap.size w w' := by
  have HR : Hid (∀ W, Below w.heap.size w W → Rqs W.heap.size W ro rs b off) := fun W hb => (h.below hb).wide hb.size
  have HR2 : Hid (∀ W, Below w.heap.size w W → Rqs W.heap.size W ro2 rs2 b2 off2) := fun W hb => (h2.below hb).wide hb.size
  have HDD : Hid (∀ W, Below w.heap.size w W → Shows W.heap.size W do_ m dc D) := fun W hb => (hd.belowL hb).wide hb.size
  have HBB : Hid (∀ W, Below w.heap.size w W → Shows W.heap.size W bo bn bc BB) := fun W h => (hb.belowL h).wide h.size
  have HN := hide hn
  have HN2 := hide hn2
  have HST := hide hst
  have HNS := hide (And.intro hnum (And.intro hslot hst2))
  have HCN := hide (And.intro h.cn h2.cn)
  have HNU := hide (And.intro h.nums h2.nums)
  clear hn hn2 hst hnum hslot hst2 h h2 hd hb
  obtain ⟨W2, hW2⟩ : ∃ W2, (w.alloc (.cells #[.int .u64 (st : Int), .slice ro n rc] 25)).alloc (.cells #[.int .i64 k, .int .u64 (num : Int), .int .i64 node, .int .u64 (slot : Int), .int .u64 (st2 : Int), .slice ro2 n2 rc2, .slice do_ m dc] 31) = W2 := ⟨_, rfl⟩
  have S2 : Hid (Ap w #[.int .u64 (st : Int), .slice ro n rc] #[.int .i64 k, .int .u64 (num : Int), .int .i64 node, .int .u64 (slot : Int), .int .u64 (st2 : Int), .slice ro2 n2 rc2, .slice do_ m dc] W2) := by
    have hsz : (w.alloc (.cells #[.int .u64 (st : Int), .slice ro n rc] 25)).heap.size = w.heap.size + 1 := by simp
    rw [← hW2]
    refine ⟨(below_alloc1 w _).alloc (by simp) _, ?_, ?_⟩
    · exact ((World.grownBy_alloc _ _ none).block _ (by rw [hsz]; omega) (by simp)).trans (alloc_at _ _)
    · rw [← hsz]; exact alloc_at _ _
  have HW2 := hide hW2
  clear hW2
  go_enter Tryz.func3, Tryz.ntmps3
  go_wp2_with fail
  refine Calls.atW HW2.out ?_
  clear HW2
  refine (ap_copyB st rc n HN.out (HR.out W2 S2.out.bel)).mono ?_
  rintro e w3 ⟨co, cc, rfl, G3⟩
  obtain ⟨rs1, b1, g1, g2, g3, g4, g5⟩ := G3.out
  have S3 := hide (S2.out.below g5)
  have HE := hide (ap_encB (cc := cc) st HST.out HCN.out.1 g1 g2 g3 g4)
  clear g1 g2 g3 g4 g5 G3 S2
  go_wp2_with fail
  refine HE.out.mono ?_
  clear HE
  rintro e w4 ⟨fo, fc, x, rfl, G4⟩
  have S4 := hide (S3.out.below G4.out.2.2)
  obtain ⟨bb, hbb, hxx⟩ := errV_or G4.out.2.1
  have HBE := hide hbb
  have HM : Hid (∀ wx : World, wx.heap = w4.heap → Calls Tryz.prog 7 #[.agg #[.int .u64 (st : Int), .slice ro n rc]] wx fun e w' => e = .returned (.bool bb) ∧ Hid (Below wx.heap.size wx w')) := by
    intro wx hx
    have h0 := mayBatch_any (w := wx) st rc n HN.out (by rw [hx]; exact (HR.out w4 S4.out.bel).heap hx)
    rw [show decide ((bFault st rs).2 = 0) = bb by have h := HBE.out; cases bb with | true => exact decide_eq_true (h.1 rfl) | false => exact decide_eq_false (fun e => Bool.noConfusion (h.2 e))] at h0
    exact h0
  have hlt4 := S4.out.lt
  obtain ⟨p0, p1⟩ := cells2 S4.out.vb
  clear hbb
  go_upto_region 2 with fail
  go_cut [29] from 25 (fun s29 W => s29 = .bool false ∧ Hid (Ap w #[.int .u64 (st : Int), .slice ro n rc] #[.int .i64 k, .int .u64 (num : Int), .int .i64 node, .int .u64 (slot : Int), .int .u64 (st2 : Int), .slice ro2 n2 rc2, .slice do_ m dc] W ∧ Shows W.heap.size W fo (bRes st rs).length fc (bRes st rs)))
  case first =>
    rcases hxx with ⟨rfl, rfl⟩ | ⟨g, rfl, rfl⟩
    all_goals
      go_region_held (fun w' => w'.cell? ⟨w.heap.size, 0, none⟩ = some (.int .u64 (st : Int)) ∧ w'.cell? ⟨w.heap.size, 1, none⟩ = some (.slice ro n rc)) (go_keep)
        ((go_at_call 7; refine (HM.out _ ?_).mono ?_; rfl; rintro e w5 ⟨rfl, hb5⟩; have S5 := hide ((S4.out.quiet (drew_grown1 w4)).below hb5.out); have Z5 := hide (((G4.out.1.world (w' := w4.drew) rfl).kept (below_none hb5.out) (fun g e => by cases e)).wide hb5.out.size); have hq := cells2 S5.out.vb; clear hb5))
      go_wp2
      go_meet
      case rel => exact ⟨rfl, S5.out, Z5.out⟩
  case rest =>
  obtain ⟨rfl, C5⟩ := hcut
  clear p0 p1 HM hlt4 S4 G4 S3
  go_upto_region 4 with fail
  go_cut [31] from 25 (fun s31 W => s31 = .bool bb ∧ Hid (Ap w #[.int .u64 (st : Int), .slice ro n rc] #[.int .i64 k, .int .u64 (num : Int), .int .i64 node, .int .u64 (slot : Int), .int .u64 (st2 : Int), .slice ro2 n2 rc2, .slice do_ m dc] W ∧ Shows W.heap.size W fo (bRes st rs).length fc (bRes st rs)))
  case first =>
    rcases hxx with ⟨rfl, rfl⟩ | ⟨g, rfl, rfl⟩
    all_goals
      go_wp2
      go_meet
      case rel => exact ⟨rfl, C5⟩
  case rest =>
  clear C5
  obtain ⟨rfl, C5⟩ := hcut
  go_upto_if 31 with fail
  go_cut [] from 25 (fun W => Hid (Ap w #[.int .u64 (st : Int), .slice ro n rc] #[.int .i64 k, .int .u64 (num : Int), .int .i64 node, .int .u64 (slot : Int), .int .u64 (st2 : Int), .slice ro2 n2 rc2, .slice do_ m dc] W))
  case first =>
    cases bb
    · go_wp2
      go_meet
      case rel => exact C5.out.1
    · have HF := hide (batch_fwd HNU.out.1 (HBE.out.1 rfl))
      clear hxx
      generalize bRes st rs = F at *
      generalize hFL : F.length = L at *
      clear hFL
      go_wp2_with fail
      refine (lend_at C5.out.2).mono ?_
      rintro e w6 ⟨g6, rfl, G6⟩
      have S6 := hide (C5.out.1.below G6.out.2)
      go_wp2_with fail
      refine (ap_decB G6.out.1).mono ?_
      rintro e w7 ⟨st', vo, m', vc, x', rfl, G7⟩
      obtain ⟨rs7, b7, h71, h72, -, h74, h75, h76⟩ := G7.out
      obtain ⟨f1, f2, f3⟩ := HF.out
      rw [f1] at h74 h75
      have hx7 := errV_none h74
      subst hx7
      obtain ⟨hs7, hv7⟩ := h75 rfl
      rw [f2] at hs7
      rw [f3] at hv7
      subst hs7
      have hn7 : m' = n := by have := congrArg List.length hv7; have := HN.out; simp at *; omega
      subst hn7
      have S7 := hide (S6.out.below h76)
      have H7 := hide h72
      have V7 := hide hv7
      obtain ⟨q0, q1⟩ := cells2 S7.out.vb
      have hlt7 : w.heap.size < w7.heap.size := by have := S7.out.lt; omega
      clear h71 h72 h74 h75 h76 hv7 f1 f2 f3 G7 G6 S6 HF
      go_wp2_with fail
      refine (same_at (W7 := w7) (by go_grown) st' _ rc m' H7.out (HR.out w7 S7.out.bel) V7.out HN.out).mono ?_
      rintro e w8 ⟨rfl, hb8⟩
      have S8 := hide (S7.out.below hb8.out)
      clear hb8 S7 q0 q1 hlt7
      go_wp2
      go_meet
      case rel => exact S8
  case rest =>
  clear C5 hxx HBE
  obtain ⟨q0, q1, q2, q3, q4, q5, q6⟩ := cells7' hcut.out.rb
  go_wp2_with fail
  clear q0 q1 q2 q3 q4 q5 q6
  refine (copyRec_any k num node slot st2 rc2 n2 HN2.out (HR2.out wc hcut.out.bel) (HDD.out wc hcut.out.bel)).mono ?_
  rintro e w9 ⟨co2, cc2, g9, rfl, G9⟩
  obtain ⟨rs9, k1, k2, k3⟩ := G9.out
  have S9 := hide (hcut.out.below k3)
  have HE := hide (ap_encR k num HNS.out.1 node slot st2 HNS.out.2.1 HNS.out.2.2 HCN.out.2 hm (HDD.out wc hcut.out.bel).2.2.2.1 k1 k2)
  have HMD := hide (HDD.out wc hcut.out.bel).1
  clear k1 k2 k3 G9 hcut
  go_wp2_with fail
  refine HE.out.mono ?_
  clear HE
  rintro e w10 ⟨fo2, fc2, x2, rfl, G10⟩
  have S10 := hide (S9.out.below G10.out.2.2)
  obtain ⟨bb2, hbb2, hxx⟩ := errV_or G10.out.2.1
  have HBE := hide hbb2
  have Z10 := hide G10.out.1
  clear hbb2 G10 S9
  go_upto_region 9 with fail
  go_cut [53] from 25 (fun s53 W => s53 = .bool bb2 ∧ W = w10)
  case first =>
    rcases hxx with ⟨rfl, rfl⟩ | ⟨g, rfl, rfl⟩
    all_goals
      go_wp2
      go_meet
      case rel => exact ⟨rfl, rfl⟩
  case rest =>
  obtain ⟨rfl, rfl⟩ := hcut
  clear hxx
  go_upto_if 53 with fail
  go_cut [] from 25 (fun W => Hid (Ap w #[.int .u64 (st : Int), .slice ro n rc] #[.int .i64 k, .int .u64 (num : Int), .int .i64 node, .int .u64 (slot : Int), .int .u64 (st2 : Int), .slice ro2 n2 rc2, .slice do_ m dc] W))
  case first =>
    cases bb2
    · have HMF : Hid (MayP wc k num node slot st2 ro2 n2 rc2 do_ m dc false) := by
        have h0 := may_any (w := wc) k num node slot st2 n2 rc2 HN2.out (HR2.out wc S10.out.bel) do_ m dc
        rw [decide_eq_false (fun e => Bool.noConfusion (HBE.out.2 e))] at h0
        exact h0
      unfold MayP at HMF
      obtain ⟨q0, q1, q2, q3, q4, q5, q6⟩ := cells7' S10.out.rb
      go_wp2_with fail
      refine HMF.out.mono ?_
      rintro e w11 ⟨rfl, hb11⟩
      have S11 := hide (S10.out.below hb11.out)
      clear hb11 q0 q1 q2 q3 q4 q5 q6
      go_wp2
      go_meet
      case rel => exact S11
    · have HOK := hide (HBE.out.1 rfl)
      generalize hF : rRes k num node slot st2 rs2 m D = F at *
      have HRF := hide hF
      clear hF
      generalize hFL : F.length = L at *
      clear hFL
      go_wp2_with fail
      refine (lend_at Z10.out).mono ?_
      rintro e w11 ⟨g11, rfl, G11⟩
      have S11 := hide (S10.out.below G11.out.2)
      go_wp2_with fail
      refine (ap_decR_ok G11.out.1 HNU.out.2 HN2.out HMD.out HOK.out HRF.out).mono ?_
      rintro e w12 ⟨vo, vc, d0, dc2, rfl, G12⟩
      obtain ⟨rs12, b12, h1, h2, h3, h4⟩ := G12.out
      have S12 := hide (S11.out.below h4)
      have H12 := hide (And.intro h1 (And.intro h2 h3))
      obtain ⟨q0, q1, q2, q3, q4, q5, q6⟩ := cells7' S12.out.rb
      have hlt12 := S12.out.lt
      clear h1 h2 h3 h4 G12 G11 S11 S10 Z10
      go_wp2_with fail
      refine (sameR_at (W7 := w12) (by go_grown) k num node slot st2 _ rc2 n2 H12.out.1 (HR2.out w12 S12.out.bel) H12.out.2.1 HN2.out H12.out.2.2 (HDD.out w12 S12.out.bel)).mono ?_
      rintro e w13 ⟨rfl, hb13⟩
      have S13 := hide (S12.out.below hb13.out)
      clear hb13 S12 q0 q1 q2 q3 q4 q5 q6 hlt12
      go_wp2
      go_meet
      case rel => exact S13
  case rest =>
  clear S10 Z10 HBE HMD
  go_wp2_with fail
  refine (lend_at (HBB.out wc hcut.out.bel)).mono ?_
  rintro e w14 ⟨g14, rfl, G14⟩
  have S14 := hide (hcut.out.below G14.out.2)
  clear hcut
  go_wp2_with fail
  refine (ap_decB G14.out.1).mono ?_
  rintro e w15 ⟨st3, vo3, m3, vc3, x3, rfl, G15⟩
  obtain ⟨rs3, b3, h1, h2, h3, h4, h5, h6⟩ := G15.out
  have S15 := hide (S14.out.below h6)
  obtain ⟨bb3, hbb3, hxx⟩ := errV_or h4
  have HBE := hide hbb3
  have HG := hide (And.intro h1 (And.intro h2 (And.intro h3 h5)))
  clear h1 h2 h3 h4 h5 h6 hbb3 G14 G15 S14
  go_upto_region 16 with fail
  go_cut [77] from 25 (fun s77 W => s77 = .bool bb3 ∧ Hid (Ap w #[.int .u64 (st : Int), .slice ro n rc] #[.int .i64 k, .int .u64 (num : Int), .int .i64 node, .int .u64 (slot : Int), .int .u64 (st2 : Int), .slice ro2 n2 rc2, .slice do_ m dc] W ∧ W.heap[w15.heap.size]? = some (.cells #[.int .u64 (st3 : Int), .slice vo3 m3 vc3] 25 (0, 0)) ∧ Below w15.heap.size w15 W))
  case first =>
    have HA : Hid (∀ o, Ap w #[.int .u64 (st : Int), .slice ro n rc] #[.int .i64 k, .int .u64 (num : Int), .int .i64 node, .int .u64 (slot : Int), .int .u64 (st2 : Int), .slice ro2 n2 rc2, .slice do_ m dc] (w15.alloc o) ∧ Below w15.heap.size w15 (w15.alloc o)) := fun o => ⟨S15.out.alloc o, below_alloc1 _ _⟩
    rcases hxx with ⟨rfl, rfl⟩ | ⟨g, rfl, rfl⟩
    all_goals
      go_wp2
      go_meet
      case rel => exact ⟨rfl, (HA.out _).1, alloc_at _ _, (HA.out _).2⟩
  case rest =>
  obtain ⟨rfl, C16⟩ := hcut
  clear hxx S15
  have HW16 : Hid (Below w15.heap.size w15 wc) := C16.out.2.2
  go_upto_if 77 with fail
  go_cut [] from 25 (fun W => Hid (Ap w #[.int .u64 (st : Int), .slice ro n rc] #[.int .i64 k, .int .u64 (num : Int), .int .i64 node, .int .u64 (slot : Int), .int .u64 (st2 : Int), .slice ro2 n2 rc2, .slice do_ m dc] W))
  case first =>
    cases bb3
    · go_wp2
      go_meet
      case rel => exact C16.out.1
    · have hz := HBE.out.1 rfl
      obtain ⟨a1, a2, a3, a4⟩ := HG.out
      obtain ⟨a5, a6⟩ := a4 hz
      have hBy := (HBB.out wc C16.out.1.bel).2.2.2.1
      obtain ⟨a7, a8⟩ := batch_inv hBy hz a6 a2.nums
      rw [← a5] at a7 a8
      have hst3 : st3 < 18446744073709551616 := by rw [a5]; exact (numAt_ok _).1
      have HE := hide (ap_encB (W := wc) (cc := vc3) st3 hst3 (rs := rs3) (fun r hr => (a2.nums r hr).1) a1 ((a2.below (HW16.out)).wide HW16.out.size) rfl (fun r hr b off e => Nat.lt_of_lt_of_le (a3 r hr b off e) HW16.out.size))
      rw [a8] at HE
      have HA7 := hide a7
      obtain ⟨q0, q1⟩ := cells2 C16.out.2.1
      clear a1 a2 a3 a4 a5 a6 a7 a8 hz hBy hst3
      go_wp2_with fail
      refine HE.out.mono ?_
      rintro e w17 ⟨f17, c17, x17, rfl, G17⟩
      have S17 := hide (C16.out.1.below G17.out.2.2)
      have hx17 : x17 = .nilIface := by have h0 := G17.out.2.1; rw [HA7.out] at h0; exact errV_none h0
      subst hx17
      have Z17 := hide G17.out.1
      clear G17 HE q0 q1
      have hlen := (HBB.out w17 S17.out.bel).1
      have HLB := hide hlen
      generalize hFL : BB.length = L at *
      clear hFL hlen
      go_wp2_with fail
      refine (sameY_at Z17.out (HBB.out w17 S17.out.bel)).mono ?_
      rintro e w18 ⟨rfl, hb18⟩
      have S18 := hide (S17.out.below hb18.out)
      clear hb18 S17 Z17
      go_wp2
      go_meet
      case rel => exact S18
  case rest =>
  clear C16 HBE HG HW16
  go_wp2_with fail
  refine (lend_at (HBB.out wc hcut.out.bel)).mono ?_
  rintro e w19 ⟨g19, rfl, G19⟩
  have S19 := hide (hcut.out.below G19.out.2)
  clear hcut
  go_wp2_with fail
  refine (ap_decR G19.out.1).mono ?_
  rintro e w20 ⟨num5, node5, slot5, st5, vo5, m5, vc5, d5, dm5, dc5, x5, rfl, G20⟩
  obtain ⟨rs5, b5, D5, r5⟩ := G20.out
  have S20 := hide (S19.out.below r5.bel)
  have HBY := hide (HBB.out w20 S20.out.bel).2.2.2.1
  have R5 := hide r5
  obtain ⟨bb5, hbb5, hxx⟩ := errV_or r5.er
  have HBE := hide hbb5
  clear hbb5 G19 G20 S19 r5
  rcases hxx with ⟨rfl, rfl⟩ | ⟨g, rfl, rfl⟩
  · have HEN : Hid (∀ W8, Below w20.heap.size w20 W8 → _) := fun W8 hb => ap_back R5.out HBY.out (HBE.out.1 rfl) vc5 hb
    have HA : Hid (∀ o, Below w20.heap.size w20 (w20.alloc o)) := fun o => below_alloc1 _ _
    generalize recK BB = k5 at *
    have HLB : Hid (bn = BB.length) := (HBB.out w20 S20.out.bel).1
    generalize hFL : BB.length = L at *
    clear hFL
    go_wp2_with fail
    have hb21 := HA.out (.cells #[.int .i64 (k5 : Int), .int .u64 (num5 : Int), .int .i64 (node5 : Int), .int .u64 (slot5 : Int), .int .u64 (st5 : Int), .slice vo5 m5 vc5, .slice d5 dm5 dc5] 31)
    have Q21 := hide (alloc_at w20 (.cells #[.int .i64 (k5 : Int), .int .u64 (num5 : Int), .int .i64 (node5 : Int), .int .u64 (slot5 : Int), .int .u64 (st5 : Int), .slice vo5 m5 vc5, .slice d5 dm5 dc5] 31))
    have HB21 := hide hb21
    clear hb21
    refine (HEN.out _ HB21.out).1.mono ?_
    rintro e w22 ⟨fo5, fc5, rfl, G22⟩
    have B22 := hide (HB21.out.trans (G22.out.2.mono HB21.out.size))
    have Q22 := hide ((G22.out.2.block _ (block_lt Q21.out)).trans Q21.out)
    have S22 := hide (S20.out.below B22.out)
    have Z22 := hide G22.out.1
    clear G22 Q21 HB21 HA
    go_wp2_with fail
    refine (sameY_at Z22.out (HBB.out w22 S22.out.bel)).mono ?_
    rintro e w23 ⟨rfl, hb23⟩
    have B23 := hide (B22.out.trans (hb23.out.mono B22.out.size))
    have S23 := hide (S22.out.below hb23.out)
    obtain ⟨q0, q1, q2, q3, q4, q5, q6⟩ := cells7' ((hb23.out.block _ (block_lt Q22.out)).trans Q22.out)
    have HMY := hide (HEN.out w23 B23.out).2
    unfold MayP at HMY
    clear hb23 S22 Z22 Q22 B22 HEN
    go_wp2_with fail
    refine HMY.out.mono ?_
    rintro e w24 ⟨rfl, hb24⟩
    have S24 := hide (S23.out.below hb24.out)
    clear hb24 S23 q0 q1 q2 q3 q4 q5 q6
    go_wp2
    go_ret
    exact ⟨rfl, S24.out.bel⟩
  · have HA : Hid (∀ o, Below w.heap.size w (w20.alloc o)) := fun o => (S20.out.alloc o).bel
    go_wp2
    go_ret
    exact ⟨rfl, HA.out _⟩
end Go.Proofs.YtgaalaoflaklgaaGreat
