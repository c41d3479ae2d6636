import Derived.Test.YtcfenjpdjogmdaaLT50
import Derived.Test.YtcfenjpdjogmdaaLT45
import Derived.Test.YtcfenjpdjogmdaaLT51
namespace Go.Proofs.Ytcfenjpdjogmdaa
open Go.RowKit

set_option maxRecDepth 10000 in
set_option maxHeartbeats 16000000 in
/-- The law: what was handed out stays as it was, and what was marked turns no ledger. -/
theorem apartW {w : World} {b0 off : Nat} {ao : Option Addr} (n cap : Nat) {l : List Ac} (hn : n = l.length) (hA : Acs w b0 off l) (hao : 0 < n → ao = some ⟨b0, off, none⟩) (hbw : 0 < n → b0 < w.heap.size) (hle : n ≤ 4398046510976) {b1 f1 : Nat} {so1 : Option Addr} (n1 c1 : Nat) (h1 : Scr w b1 f1 so1 n1) :
    Calls Try.prog 4 #[.slice ao n cap, .slice so1 n1 c1] w fun e w' => e = .returned (.bool true) ∧ Hid (Below w.heap.size w w') := by
  obtain ⟨iM, hiM, hzM0, hzM1, hzM2⟩ := info_parts infoMk
  obtain ⟨iI, hiI, hzI0, hzI1, hzI2⟩ := info_parts infoIm
  have HST := hide (startedA n cap hn hA hao hbw hle)
  have HST2 : Hid (∀ V, Below w.heap.size w V → Calls Try.prog 5 #[.slice ao n cap] V fun e w' => ∃ (v : Value) (s : Nat), e = .returned (.tuple #[v, .int .u64 (s : Nat), .bool true]) ∧ Hid (StP V l v s w')) := fun V hV => startedA n cap hn (hA.below hV (fun hp => hbw (by omega))) hao (fun hp => Nat.lt_of_lt_of_le (hbw hp) hV.size) hle
  have HIN : Hid (∀ x ∈ l, x.In) := hA.ok
  have hn1 := h1.le
  obtain ⟨O, hO⟩ := h1.fn
  have HO := hide hO
  clear hn hA hao hbw hle h1 hO
  go_enter Try.func4, Try.ntmps4
  go_wp2_with fail
  refine HST.out.mono ?_
  rintro e w1 ⟨v, s, rfl, G1⟩
  have HS2 := hide (HST2.out w1 G1.out.1)
  clear HST HST2
  go_upto_region 2 with fail
  go_wp2_with fail
  refine HS2.out.mono ?_
  rintro e w2 ⟨v', s', rfl, G2⟩
  clear HS2
  have hb2 := G1.out.1.trans (G2.out.1.mono G1.out.1.size)
  rcases G1.out.2 with ⟨rfl, hno⟩ | ⟨g1, g2, hs, p, a, b, rfl, g4, g5, g6, g7⟩
  · rcases G2.out.2 with ⟨rfl, _⟩ | ⟨k1, k2, _⟩
    · have HE := hide hb2
      clear hb2 G1 G2 hno
      go_wp2
      go_ret
      exact ⟨rfl, HE.out⟩
    · exact absurd ⟨k1, k2⟩ hno
  rcases G2.out.2 with ⟨_, hno⟩ | ⟨_, _, _, p', a', b', rfl, k4, k5, k6, k7⟩
  · exact absurd ⟨g1, g2⟩ hno
  obtain ⟨S0, hS0⟩ : ∃ S, LS0 l = S := ⟨_, rfl⟩
  have hok : S0.Ok := by rw [← hS0]; exact LS0_ok g2 HIN.out g1
  have hlg : LG w1 p a b nilS nilS S0 := by rw [← hS0]; exact g4.lg g2.dis rfl
  have hkg : LG w2 p' a' b' nilS nilS S0 := by rw [← hS0]; exact k4.lg g2.dis rfl
  have han : S0.An s := by rw [hs, ← hS0]; exact LS0_an (by rw [hS0]; exact hok)
  have hs64 : s < 18446744073709551616 := by rw [hs]; exact good_sum g2
  have HS64 := hide hs64
  have HRA : Hid (∀ k, k ≤ n1 → (runs S0 O k).1.An s ∧ ∀ q ∈ (runs S0 O k).2, q.An s) := runs_an han (fun k hk => (HO.out k hk).1)
  have HT0 : Hid (Two w p a b p' a' b' 0 0 w2 S0 [] S0 []) := by
    have h1 := hlg.lt
    have hs1 := G1.out.1.size
    refine ⟨hb2, ⟨nilS, nilS, [], []⟩, ⟨nilS, nilS, [], []⟩, ⟨⟨hlg.kept G2.out.1, World.ownsRow_nil _ _ _ _, ⟨[], World.ownsRow_nil _ _ _ _, fun i d v hi => by simp at hi⟩, g5, g6, g7⟩, Sv.none _ _ _ _, Nat.le_refl _, hok, fun q hq => by cases hq⟩, ⟨⟨hkg, World.ownsRow_nil _ _ _ _, ⟨[], World.ownsRow_nil _ _ _ _, fun i d v hi => by simp at hi⟩, by omega, by omega, by omega⟩, Sv.none _ _ _ _, Nat.le_refl _, hok, fun q hq => by cases hq⟩, fun x hx hy => ?_⟩
    have e0 : nilS.ownBlock = none := rfl
    rcases hx with e | e | e | e | e
    all_goals first
      | (have e' : nilS.ownBlock = some x := e; rw [e0] at e'; cases e'; done)
      | skip
    all_goals
      rcases hy with e2 | e2 | e2 | e2 | e2
      all_goals first
        | (have e' : nilS.ownBlock = some x := e2; rw [e0] at e'; cases e'; done)
        | omega
  have HP0 : Hid (Ap w p a b p' a' b' (48 * 0) 0 (runs S0 O 0).1 (runs S0 O 0).2 S0 [] (.slice none 0 0) [] (fun _ => True) w2) := ⟨HT0.out, World.ownsRow_nil _ _ _ _, fun d hd => by cases hd⟩
  clear hb2 G1 G2 g1 g2 g4 g5 g6 g7 k4 k5 k6 k7 hS0 hok hlg hkg HIN han hs64 hs HT0
  go_upto_region 5 with fail
  go_wp2
  go_loopw [11, 12] (fun out i wr => ∃ k : Nat, k ≤ n1 ∧ i = .int .i64 k ∧ ∃ L : List Mkd, L.length = k ∧ Hid (Ap w p a b p' a' b' (48 * k) 0 (runs S0 O k).1 (runs S0 O k).2 S0 [] out L (fun _ => True) wr)) (fun _ i _ => n1 - (intOf i).toNat)
  case atStart => exact ⟨0, by omega, rfl, [], rfl, HP0.out⟩
  case round =>
    clear HP0
    obtain ⟨k, hk, rfl, L, hL, HB⟩ := hrel
    generalize u11 = out at *
    by_cases hlt : k < n1
    · obtain ⟨hoo, rfl, hsc⟩ := HO.out k hlt
      obtain ⟨c0, d1, d2, d3, d4, d5, cl⟩ := hsc wr HB.out.two.bel
      obtain ⟨x, hx⟩ : ∃ x, stepQ (runs S0 O k).1 (runs S0 O k).2 (O k) = x := ⟨_, rfl⟩
      obtain ⟨c, T, R⟩ := x
      have hrun : runs S0 O (k + 1) = (T, R) := by show (stepQ (runs S0 O k).1 (runs S0 O k).2 (O k)).2 = (T, R); rw [hx]
      have HAN : Hid (T.An s) := by have := (HRA.out (k + 1) (by omega)).1; rw [hrun] at this; exact this
      have HD := hide (HB.out.does (by omega) hoo hx)
      have HRUN := hide hrun
      clear HB hsc hx hoo hrun
      generalize O k = o at *
      unfold OpR.arr at HD
      generalize (o.A : Int) = XA at *
      generalize (o.B : Int) = XB at *
      generalize (o.C : Int) = XC at *
      generalize o.K = KI at *
      generalize o.N = NI at *
      go_upto_region 9 with fail
      go_wp2_with fail
      refine HD.out.mono ?_
      rintro e V1 ⟨rfl, G1⟩
      clear HD c0 d1 d2 d3 d4 d5 cl
      have HIM := hide (G1.out.two.imageL)
      unfold imgV at HIM
      go_upto_region 10 with fail
      go_wp2_with fail
      refine HIM.out.mono ?_
      rintro e V2 ⟨iao, icap, iho, ihcap, ijo, ijcap, rfl, G2⟩
      have HA2 : Hid (Ap w p a b p' a' b' (48 * k + 48) 0 T R S0 [] out L (fun _ => True) V2) := G1.out.kept G2.out.2.2
      have hok := HAN.out.kp.1
      obtain ⟨ga, gh, gj, himj⟩ := (ImX.of G2.out.1).imj hok
      have HLM := hide (lendImC himj _ _ _ icap ihcap ijcap rfl rfl rfl hok.la hok.lh (by rw [T.jl_len]; omega) (T.tot : Nat) (T.nx : Nat))
      clear G1 G2 HIM himj hok
      go_wp2_with fail
      refine HLM.out.mono ?_
      rintro e V3 ⟨ga', gh', gj', rfl, G3⟩
      clear HLM ga gh gj
      obtain ⟨q, hq⟩ : ∃ q, V3.heap.size = q := ⟨_, rfl⟩
      obtain ⟨V4, hV4⟩ : ∃ V4, V3.alloc (.cells #[.int .u64 (T.tot : Nat), .int .u64 (T.nx : Nat), .slice (some ⟨ga', 0, none⟩) T.acc.length (T.acc.length + 3), .slice (some ⟨gh', 0, none⟩) T.hol.length (T.hol.length + 3), .slice (some ⟨gj', 0, none⟩) T.jl.length (T.jl.length + 3)] 35) = V4 := ⟨_, rfl⟩
      have hbx : Below V3.heap.size V3 V4 ∧ V4.heap[q]? = some (.cells #[.int .u64 (T.tot : Nat), .int .u64 (T.nx : Nat), .slice (some ⟨ga', 0, none⟩) T.acc.length (T.acc.length + 3), .slice (some ⟨gh', 0, none⟩) T.hol.length (T.hol.length + 3), .slice (some ⟨gj', 0, none⟩) T.jl.length (T.jl.length + 3)] 35 (0, 0)) := by rw [← hV4, ← hq]; exact ⟨(Below.refl _ V3).alloc (Nat.le_refl _) _, alloc_atK V3 _⟩
      have HA4 : Hid (Ap w p a b p' a' b' (48 * k + 48) 0 T R S0 [] out L (fun _ => True) V4) := (HA2.out.kept G3.out.2).kept hbx.1
      have HW4 : Hid (WasL V4 q T ga' gh' gj') := ⟨hbx.2, _, G3.out.1.fl (Fl.below hbx.1)⟩
      have HV4 := hide hV4
      have HQ4 := hide hq
      clear G3 HA2 hbx hV4 hq
      go_upto_region 11 with fail
      rw [HV4.out, HQ4.out]
      clear HV4 HQ4
      have hkp := HAN.out.kp
      have HEX := hide (HW4.out.exact_ hkp HS64.out)
      unfold lentV at HEX
      have x0 := block_cell HW4.out.box 0
      have x1 := block_cell HW4.out.box 1
      have x2 := block_cell HW4.out.box 2
      have x3 := block_cell HW4.out.box 3
      have x4 := block_cell HW4.out.box 4
      have xl := block_lt HW4.out.box
      simp at x0 x1 x2 x3 x4
      clear hkp
      go_wp2_with fail
      refine HEX.out.mono ?_
      rintro e V5 ⟨rfl, G5⟩
      have HA5 : Hid (Ap w p a b p' a' b' (48 * k + 48) 0 T R S0 [] out L (fun _ => True) V5) := HA4.out.kept G5.out
      have HW5 : Hid (WasL V5 q T ga' gh' gj') := HW4.out.kept G5.out
      clear HEX HA4 HW4 G5 x0 x1 x2 x3 x4 xl
      have HIM := hide (HA5.out.two.imageL)
      unfold imgV at HIM
      go_upto_region 13 with fail
      obtain ⟨m, hm⟩ : ∃ m, k + 1000 = m := ⟨_, rfl⟩
      have hm2 : m ≤ 2000000000 := by omega
      have hw1 : IntKind.u64.wrap (k : Int) = (k : Int) := IntWalk.u64_in _ ⟨by omega, by omega⟩
      have hw2 : IntKind.u64.wrap ((k : Int) + 1000) = (m : Int) := by rw [IntWalk.u64_in _ ⟨by omega, by omega⟩]; omega
      clear hm
      go_wp2_with fail
      refine HIM.out.mono ?_
      rintro e V6 ⟨iao, icap, iho, ihcap, ijo, ijcap, rfl, G6⟩
      have HMK := hide (markFresh hm2 G6.out.1 G6.out.2.2 HAN.out.kp.1)
      unfold imgV at HMK
      clear HIM G6
      go_wp2_with fail
      refine HMK.out.mono ?_
      rintro e V7 ⟨ya, yac, yh, yhc, yj, yjc, rfl, G7⟩
      have HA7 : Hid (Ap w p a b p' a' b' (48 * k + 48) 0 T R S0 [] out L (fun _ => True) V7) := HA5.out.kept G7.out.2
      have HW7 : Hid (WasL V7 q T ga' gh' gj') := HW5.out.kept G7.out.2
      have HAP : Hid (∀ o v' w4, w4.ownsRow w.heap.size 48 9 v' (L.length + 1) (mkcs L ++ [.int .u64 (T.tot : Nat), .int .u64 (T.nx : Nat), .slice iao T.acc.length icap, .slice iho T.hol.length ihcap, .slice ijo T.jl.length ijcap, .slice ya (T.acc.length + 64) yac, .slice yh (T.hol.length + 64) yhc, .slice yj (T.jl.length + 64) yjc, .int .u64 (m : Nat)]) → (V7.alloc o).grownBy w4 out.ownBlock → ∃ L', L'.length = k + 1 ∧ Hid (Ap w p a b p' a' b' (48 * k + 48) 0 T R S0 [] v' L' (fun _ => True) w4 ∧ WasL w4 q T ga' gh' gj')) := fun o v' w4 hr hg => by
        have hd := G7.out.1
        refine ⟨_, ?_, HA7.out.app ⟨hd.r.imp (fun _ _ => trivial), hd.m, hd.n, hd.nh, hd.nj⟩ hr hg, ?_⟩
        · rw [List.length_append, hL]; rfl
        · have hb : Below V7.heap.size V7 (V7.alloc o) := (Below.refl _ V7).alloc (Nat.le_refl _) o
          exact (HW7.out.kept hb).row (HA7.out.kept hb).out.row hg
      have HOW : Hid (∀ o, (V7.alloc o).ownsRow w.heap.size 48 9 out L.length (mkcs L)) := fun o => HA7.out.out.row.alloc o
      have HSZ : Hid (∀ o, w.heap.size ≤ (V7.alloc o).heap.size) := fun o => by have := HA7.out.two.bel.size; simp; omega
      clear HMK G7 HA5 HW5 HA7 HW7
      go_upto_region 14 with (at_builtin; refine wpList_append_own _ rfl (.tmp 76) (.tmp 83) 44 rfl w.heap.size 48 iM (.agg #[.int .u64 0, .int .u64 0, .slice none 0 0, .slice none 0 0, .slice none 0 0, .slice none 0 0, .slice none 0 0, .slice none 0 0, .int .u64 0]) 9 168 Try.underlying44 hiM hzM0 hzM1 hzM2 rfl (by decide) out L.length (mkcs L) rfl (HOW.out _) ⟨V7.heap.size, 0, none⟩ 1 1 [.int .u64 (T.tot : Nat), .int .u64 (T.nx : Nat), .slice iao T.acc.length icap, .slice iho T.hol.length ihcap, .slice ijo T.jl.length ijcap, .slice ya (T.acc.length + 64) yac, .slice yh (T.hol.length + 64) yhc, .slice yj (T.jl.length + 64) yjc, .int .u64 (m : Nat)] rfl rfl (cells_newA _ _ _) (by simp [Value.oneCell']) (by unfold maxLen; omega) (by omega) (HSZ.out _) ?_; intro v' w4 ho hg _; have HR2 := hide (HAP.out _ _ _ ho hg); clear ho hg)
      obtain ⟨L', hL', HS⟩ := HR2.out
      clear HR2 HAP HOW HSZ
      have HI : Hid (∀ V, Hid (Ap w p a b p' a' b' (48 * k + 48) 0 T R S0 [] v' L' (fun _ => True) V ∧ WasL V q T ga' gh' gj') → Calls Try.prog 7 #[.pointer (some ⟨p, 0, none⟩)] V fun e V1 => ∃ xao xcap xho xhcap xjo xjcap, e = .returned (imgV T xao xcap xho xhcap xjo xjcap) ∧ (V1.cell? ⟨q, 0, none⟩ = some (.int .u64 (T.tot : Nat)) ∧ V1.cell? ⟨q, 1, none⟩ = some (.int .u64 (T.nx : Nat)) ∧ V1.cell? ⟨q, 2, none⟩ = some (.slice (some ⟨ga', 0, none⟩) T.acc.length (T.acc.length + 3)) ∧ V1.cell? ⟨q, 3, none⟩ = some (.slice (some ⟨gh', 0, none⟩) T.hol.length (T.hol.length + 3)) ∧ V1.cell? ⟨q, 4, none⟩ = some (.slice (some ⟨gj', 0, none⟩) T.jl.length (T.jl.length + 3)) ∧ q < V1.heap.size) ∧ Hid (Ap w p a b p' a' b' (48 * k + 48) 0 T R S0 [] v' L' (fun _ => True) V1 ∧ WasL V1 q T ga' gh' gj' ∧ ImX V1 T xao xcap xho xhcap xjo xjcap)) := fun V hV => by
        refine (hV.out.1.two.imageL).mono ?_
        rintro e V1 ⟨xao, xcap, xho, xhcap, xjo, xjcap, rfl, G⟩
        have hw := hV.out.2.kept G.out.2.2
        exact ⟨xao, xcap, xho, xhcap, xjo, xjcap, rfl, ⟨block_cell hw.box 0, block_cell hw.box 1, block_cell hw.box 2, block_cell hw.box 3, block_cell hw.box 4, block_lt hw.box⟩, hV.out.1.kept G.out.2.2, hw, ImX.of G.out.1⟩
      have HSM : Hid (∀ V xao xcap xho xhcap xjo xjcap, Hid (Ap w p a b p' a' b' (48 * k + 48) 0 T R S0 [] v' L' (fun _ => True) V ∧ WasL V q T ga' gh' gj' ∧ ImX V T xao xcap xho xhcap xjo xjcap) → Calls Try.prog 11 #[imgV T xao xcap xho xhcap xjo xjcap, lentV T ga' gh' gj'] V fun e V1 => e = .returned (.bool true) ∧ (V1.cell? ⟨q, 0, none⟩ = some (.int .u64 (T.tot : Nat)) ∧ V1.cell? ⟨q, 1, none⟩ = some (.int .u64 (T.nx : Nat)) ∧ V1.cell? ⟨q, 2, none⟩ = some (.slice (some ⟨ga', 0, none⟩) T.acc.length (T.acc.length + 3)) ∧ V1.cell? ⟨q, 3, none⟩ = some (.slice (some ⟨gh', 0, none⟩) T.hol.length (T.hol.length + 3)) ∧ V1.cell? ⟨q, 4, none⟩ = some (.slice (some ⟨gj', 0, none⟩) T.jl.length (T.jl.length + 3)) ∧ q < V1.heap.size) ∧ Hid (Ap w p a b p' a' b' (48 * k + 48) 0 T R S0 [] v' L' (fun _ => True) V1)) := fun V xao xcap xho xhcap xjo xjcap hV => by
        refine (hV.out.2.1.same_ hV.out.2.2 (Two.ok hV.out.1.two).1).mono ?_
        rintro e V1 ⟨rfl, G⟩
        have hw := hV.out.2.1.kept G.out
        exact ⟨rfl, ⟨block_cell hw.box 0, block_cell hw.box 1, block_cell hw.box 2, block_cell hw.box 3, block_cell hw.box 4, block_lt hw.box⟩, hV.out.1.kept G.out⟩
      have HI0 := hide (HI.out w4.drew ⟨HS.out.1.kept (Below.refl _ _).drew, HS.out.2.kept (Below.refl _ _).drew⟩)
      have x0 := block_cell HS.out.2.box 0
      have x1 := block_cell HS.out.2.box 1
      have x2 := block_cell HS.out.2.box 2
      have x3 := block_cell HS.out.2.box 3
      have x4 := block_cell HS.out.2.box 4
      have xl := block_lt HS.out.2.box
      simp at x0 x1 x2 x3 x4
      have hfo := own_form2 HS.out.1.out.row
      have hlb : L'.length ≤ 1048576 := by omega
      have HL1 := hide hL'
      unfold imgV at HI0 HSM
      unfold lentV at HSM
      clear HI HS hL'
      obtain ⟨yo, yc, rfl⟩ := hfo
      go_region_held (fun V => (V.cell? ⟨q, 0, none⟩ = some (.int .u64 (T.tot : Nat)) ∧ V.cell? ⟨q, 1, none⟩ = some (.int .u64 (T.nx : Nat)) ∧ V.cell? ⟨q, 2, none⟩ = some (.slice (some ⟨ga', 0, none⟩) T.acc.length (T.acc.length + 3)) ∧ V.cell? ⟨q, 3, none⟩ = some (.slice (some ⟨gh', 0, none⟩) T.hol.length (T.hol.length + 3)) ∧ V.cell? ⟨q, 4, none⟩ = some (.slice (some ⟨gj', 0, none⟩) T.jl.length (T.jl.length + 3)) ∧ q < V.heap.size)) (go_keep)
        (first | (go_at_call 7; refine HI0.out.mono ?_; rintro e V2 ⟨xao, xcap, xho, xhcap, xjo, xjcap, rfl, hc2, G2⟩; have HS2 := hide (HSM.out _ _ _ _ _ _ _ G2)) | (go_at_call 11; refine HS2.out.mono ?_; rintro e V3 ⟨rfl, hc3, GF⟩))
      all_goals
        clear HI0 HSM x0 x1 x2 x3 x4 xl
        go_wp2
        go_loopw [14] (fun i wr => ∃ j : Nat, j ≤ L'.length ∧ i = .int .i64 j ∧ Hid (Ap w p a b p' a' b' (48 * k + 48) 0 T R S0 [] (.slice yo L'.length yc) L' (fun _ => True) wr)) (fun i _ => L'.length - (intOf i).toNat)
        case atStart => exact ⟨0, by omega, rfl, GF.out⟩
        case round =>
          obtain ⟨j, hj, rfl, HQ⟩ := hrel
          by_cases hlt2 : j < L'.length
          · obtain ⟨d, hd, g, c, e, gl, gle, hcs⟩ := HQ.out.out.at_ hlt2
            cases e
            have z0 := hcs 0 _ rfl
            have z1 := hcs 1 _ rfl
            have z2 := hcs 2 _ rfl
            have z3 := hcs 3 _ rfl
            have z4 := hcs 4 _ rfl
            have z5 := hcs 5 _ rfl
            have z6 := hcs 6 _ rfl
            have z7 := hcs 7 _ rfl
            have z8 := hcs 8 _ rfl
            rw [Nat.add_zero] at z0
            have HSt := hide hd.still
            unfold Mkd.cs at HSt
            clear hcs hd
            go_wp2_with fail
            refine HSt.out.mono ?_
            rintro e V4 ⟨rfl, G4⟩
            have HN := hide (HQ.out.kept G4.out)
            clear HSt HQ z0 z1 z2 z3 z4 z5 z6 z7 z8 gl gle G4
            go_wp2
            go_roundw
            case rel => exact ⟨j + 1, by omega, by go_num, HN.out⟩
            case measure => simp [intOf]; omega
          · have HE : Hid (Ap w p a b p' a' b' (48 * (k + 1)) 0 (runs S0 O (k + 1)).1 (runs S0 O (k + 1)).2 S0 [] (.slice yo L'.length yc) L' (fun _ => True) wr) := by
              have h := HQ.out
              rw [HRUN.out]
              exact h
            clear HQ
            go_wp2
            go_roundw
            case rel => exact ⟨k + 1, by omega, by go_num, L', HL1.out, HE.out⟩
            case measure => simp [intOf]; omega
    · obtain rfl : n1 = k := by omega
      obtain ⟨X, hX⟩ : ∃ X, wr.heap.size = X := ⟨_, rfl⟩
      obtain ⟨x, hx⟩ : ∃ x, runs S0 O n1 = x := ⟨_, rfl⟩
      obtain ⟨S, Q⟩ := x
      have HWX : Hid (w.heap.size ≤ X) := by have := HB.out.two.bel.size; rw [hX] at this; exact this
      have H30 : Hid (A3 w p a b p' a' b' (48 * n1) (48 * 0) S Q (runs S0 O 0).1 (runs S0 O 0).2 out L X X (.slice none 0 0) [] wr) := by
        have h2 := HB.out.two
        have h3 := HB.out.out.lt
        rw [hx] at h2
        rw [hX] at h3
        exact ⟨⟨h2, h3⟩, ⟨World.ownsRow_nil _ _ _ _, fun d hd => (by cases hd), fun d hd => (by cases hd), List.Pairwise.nil⟩, Nat.le_refl _, by omega⟩
      have HRN := hide hx
      have hLb : L.length ≤ 1048576 + 0 := by omega
      clear HB hX hx hL
      go_wp2
      go_loopw [15, 16] (fun vt i wr => ∃ k : Nat, k ≤ n1 ∧ i = .int .i64 k ∧ ∃ (LL : List Ltd) (Y : Nat), LL.length = 2 * k ∧ Hid (A3 w p a b p' a' b' (48 * n1) (48 * k) S Q (runs S0 O k).1 (runs S0 O k).2 out L X Y vt LL wr)) (fun _ i _ => n1 - (intOf i).toNat)
      case atStart => exact ⟨0, by omega, rfl, [], X, rfl, H30.out⟩
      case round =>
        clear H30
        obtain ⟨k, hk, rfl, LL, Y, hLL, HB⟩ := hrel
        generalize u15 = vt at *
        by_cases hlt : k < n1
        · obtain ⟨hoo, rfl, hsc⟩ := HO.out k hlt
          obtain ⟨c0, d1, d2, d3, d4, d5, cl⟩ := hsc wr HB.out.ap.two.bel
          obtain ⟨x, hx⟩ : ∃ x, stepQ (runs S0 O k).1 (runs S0 O k).2 (O k) = x := ⟨_, rfl⟩
          obtain ⟨c, T, R⟩ := x
          have hrun : runs S0 O (k + 1) = (T, R) := by show (stepQ (runs S0 O k).1 (runs S0 O k).2 (O k)).2 = (T, R); rw [hx]
          have HD := hide (HB.out.does (by omega) hoo hx)
          have HRUN := hide hrun
          have hLb2 : LL.length ≤ 2097152 := by omega
          have HLL := hide hLL
          clear HB hsc hx hoo hrun hLL
          generalize O k = o at *
          unfold OpR.arr at HD
          generalize (o.A : Int) = XA at *
          generalize (o.B : Int) = XB at *
          generalize (o.C : Int) = XC at *
          generalize o.K = KI at *
          generalize o.N = NI at *
          go_upto_region 25 with fail
          go_wp2_with fail
          refine HD.out.mono ?_
          rintro e V1 ⟨rfl, G1⟩
          clear HD c0 d1 d2 d3 d4 d5 cl
          have HIM := hide G1.out.image
          unfold imgV at HIM
          go_upto_region 26 with fail
          go_wp2_with fail
          refine HIM.out.mono ?_
          rintro e V2 ⟨xao, xcap, xho, xhcap, xjo, xjcap, rfl, G2⟩
          have HIM2 := hide G2.out.1.image
          unfold imgV at HIM2
          clear HIM
          go_wp2_with fail
          refine HIM2.out.mono ?_
          rintro e V3 ⟨yao, ycap, yho, yhcap, yjo, yjcap, rfl, G3⟩
          have HAP : Hid (∀ o v' w4, w4.ownsRow w.heap.size 35 5 v' (LL.length + 2) (ltcs LL ++ [.int .u64 (T.tot : Nat), .int .u64 (T.nx : Nat), .slice xao T.acc.length xcap, .slice xho T.hol.length xhcap, .slice xjo T.jl.length xjcap, .int .u64 (T.tot : Nat), .int .u64 (T.nx : Nat), .slice yao T.acc.length ycap, .slice yho T.hol.length yhcap, .slice yjo T.jl.length yjcap]) → (V3.alloc o).grownBy w4 vt.ownBlock → ∃ (LL' : List Ltd) (Y' : Nat), LL'.length = 2 * (k + 1) ∧ Hid (A3 w p a b p' a' b' (48 * n1) (48 * k + 48) S Q T R out L X Y' v' LL' w4)) := fun o v' w4 hr hg => by
            refine ⟨_, _, ?_, G3.out.1.app (d := ⟨T, xao, xho, xjo, xcap, xhcap, xjcap, V1.heap.size, V2.heap.size⟩) (e := ⟨T, yao, yho, yjo, ycap, yhcap, yjcap, V2.heap.size, V3.heap.size⟩) (G2.out.2.2.fl (Fl.below G3.out.2.1)) G3.out.2.2 G1.out.hY (Nat.le_refl _) (Nat.le_refl _) hr hg⟩
            rw [List.length_append, HLL.out]
            show 2 * k + 2 = 2 * (k + 1)
            omega
          have HOW : Hid (∀ o, (V3.alloc o).ownsRow w.heap.size 35 5 vt LL.length (ltcs LL)) := fun o => G3.out.1.lt.row.alloc o
          have HSZ : Hid (∀ o, w.heap.size ≤ (V3.alloc o).heap.size) := fun o => by have := G3.out.1.ap.two.bel.size; simp; omega
          clear HIM2 G1 G2 G3
          go_wp2_with (at_builtin; refine wpList_append_own _ rfl (.tmp 114) (.tmp 119) 51 rfl w.heap.size 35 iI (.agg #[.int .u64 0, .int .u64 0, .slice none 0 0, .slice none 0 0, .slice none 0 0]) 5 88 Try.underlying51 hiI hzI0 hzI1 hzI2 rfl (by decide) vt LL.length (ltcs LL) rfl (HOW.out _) ⟨V3.heap.size, 0, none⟩ 2 2 [.int .u64 (T.tot : Nat), .int .u64 (T.nx : Nat), .slice xao T.acc.length xcap, .slice xho T.hol.length xhcap, .slice xjo T.jl.length xjcap, .int .u64 (T.tot : Nat), .int .u64 (T.nx : Nat), .slice yao T.acc.length ycap, .slice yho T.hol.length yhcap, .slice yjo T.jl.length yjcap] rfl rfl (cells_newA _ _ _) (by simp [Value.oneCell']) (by unfold maxLen; omega) (by omega) (HSZ.out _) ?_; intro v' w4 ho hg _; have HR2 := hide (HAP.out _ _ _ ho hg); clear ho hg)
          go_roundw
          case rel =>
            obtain ⟨LL', Y', h1, h2⟩ := HR2.out
            exact ⟨k + 1, by omega, by go_num, LL', Y', h1, by rw [HRUN.out]; exact h2⟩
          case measure => simp [intOf]; omega
        · obtain rfl : n1 = k := by omega
          have H40 : Hid (A4 w p a b p' a' b' S S out L X Y vt LL 0 wr) := by
            have h := HB.out.a4 HWX.out
            rw [HRN.out] at h
            exact h
          have hft := own_form2 HB.out.lt.row
          have hLb2 : LL.length ≤ 2097152 := by omega
          clear HB hLL HRN HRA HO HWX
          obtain ⟨tgo, tc, rfl⟩ := hft
          go_wp2
          go_loopw [11, 17] (fun out i wr => ∃ r : Nat, r ≤ LL.length ∧ i = .int .i64 r ∧ ∃ L : List Mkd, L.length ≤ 1048576 + r ∧ Hid (A4 w p a b p' a' b' S S out L X Y (.slice tgo LL.length tc) LL r wr)) (fun _ i _ => LL.length - (intOf i).toNat)
          case atStart => exact ⟨0, by omega, rfl, L, hLb, H40.out⟩
          case round =>
            clear H40 hLb
            obtain ⟨r, hr, rfl, L, hL, HB⟩ := hrel
            generalize u11 = out at *
            by_cases hlt : r < LL.length
            · obtain ⟨d, hd⟩ : ∃ d, LL[r]? = some d := ⟨_, List.getElem?_eq_getElem hlt⟩
              obtain ⟨g, c, e, gl, gle, hcs⟩ := HB.out.at_ hd
              cases e
              have z0 := hcs 0 _ rfl
              have z1 := hcs 1 _ rfl
              have z2 := hcs 2 _ rfl
              have z3 := hcs 3 _ rfl
              have z4 := hcs 4 _ rfl
              rw [Nat.add_zero] at z0
              obtain ⟨m, hm⟩ : ∃ m, r + 1000000000 = m := ⟨_, rfl⟩
              have hm2 : m ≤ 2000000000 := by omega
              have hw1 : IntKind.u64.wrap (r : Int) = (r : Int) := IntWalk.u64_in _ ⟨by omega, by omega⟩
              have hw2 : IntKind.u64.wrap ((r : Int) + 1000000000) = (m : Int) := by rw [IntWalk.u64_in _ ⟨by omega, by omega⟩]; omega
              have HMK := hide (HB.out.mark hd hm2)
              unfold Ltd.cs at HMK
              clear hcs hm HB hd
              go_upto_region 30 with fail
              go_wp2_with fail
              refine HMK.out.mono ?_
              rintro e V7 ⟨ya, yac, yh, yhc, yj, yjc, rfl, G7⟩
              have HAP : Hid (∀ o v' w4, w4.ownsRow w.heap.size 48 9 v' (L.length + 1) (mkcs L ++ [.int .u64 (d.S.tot : Nat), .int .u64 (d.S.nx : Nat), .slice d.ao d.S.acc.length d.cap, .slice d.ho d.S.hol.length d.hcap, .slice d.jo d.S.jl.length d.jcap, .slice ya (d.S.acc.length + 64) yac, .slice yh (d.S.hol.length + 64) yhc, .slice yj (d.S.jl.length + 64) yjc, .int .u64 (m : Nat)]) → (V7.alloc o).grownBy w4 out.ownBlock → ∃ L' : List Mkd, L'.length ≤ 1048576 + (r + 1) ∧ Hid (A4 w p a b p' a' b' S S v' L' X Y (.slice (some ⟨g, 0, none⟩) LL.length tc) LL (r + 1) w4)) := fun o v' w4 hr hg => by
                refine ⟨_, ?_, G7.out.1.app G7.out.2 hr hg⟩
                rw [List.length_append]
                show L.length + 1 ≤ _
                omega
              have HOW : Hid (∀ o, (V7.alloc o).ownsRow w.heap.size 48 9 out L.length (mkcs L)) := fun o => G7.out.1.out.row.alloc o
              have HSZ : Hid (∀ o, w.heap.size ≤ (V7.alloc o).heap.size) := fun o => by have := G7.out.1.bel.size; simp; omega
              clear HMK G7 z0 z1 z2 z3 z4 gl
              go_wp2_with (at_builtin; refine wpList_append_own _ rfl (.tmp 127) (.tmp 136) 44 rfl w.heap.size 48 iM (.agg #[.int .u64 0, .int .u64 0, .slice none 0 0, .slice none 0 0, .slice none 0 0, .slice none 0 0, .slice none 0 0, .slice none 0 0, .int .u64 0]) 9 168 Try.underlying44 hiM hzM0 hzM1 hzM2 rfl (by decide) out L.length (mkcs L) rfl (HOW.out _) ⟨V7.heap.size, 0, none⟩ 1 1 [.int .u64 (d.S.tot : Nat), .int .u64 (d.S.nx : Nat), .slice d.ao d.S.acc.length d.cap, .slice d.ho d.S.hol.length d.hcap, .slice d.jo d.S.jl.length d.jcap, .slice ya (d.S.acc.length + 64) yac, .slice yh (d.S.hol.length + 64) yhc, .slice yj (d.S.jl.length + 64) yjc, .int .u64 (m : Nat)] rfl rfl (cells_newA _ _ _) (by simp [Value.oneCell']) (by unfold maxLen; omega) (by omega) (HSZ.out _) ?_; intro v' w4 ho hg _; have HR2 := hide (HAP.out _ _ _ ho hg); clear ho hg)
              go_roundw
              case rel =>
                obtain ⟨L', h1, h2⟩ := HR2.out
                exact ⟨r + 1, by omega, by go_num, L', h1, h2⟩
              case measure => simp [intOf]; omega
            · have hfo := own_form2 HB.out.out.row
              have hlb : L.length ≤ 4194304 := by omega
              obtain ⟨yo, yc, rfl⟩ := hfo
              have HB0 := HB
              clear HB
              go_wp2
              clear hL hr hlt
              go_loopw [18] (fun i wr => ∃ j : Nat, j ≤ L.length ∧ i = .int .i64 j ∧ Hid (A4 w p a b p' a' b' S S (.slice yo L.length yc) L X Y (.slice tgo LL.length tc) LL r wr)) (fun i _ => L.length - (intOf i).toNat)
              case atStart => exact ⟨0, by omega, rfl, HB0.out⟩
              case round =>
                clear HB0
                obtain ⟨j, hj, rfl, HQ⟩ := hrel
                by_cases hlt2 : j < L.length
                · obtain ⟨d, hd, g, c, e, gl, gle, hcs⟩ := HQ.out.out.at_ hlt2
                  cases e
                  have z0 := hcs 0 _ rfl
                  have z1 := hcs 1 _ rfl
                  have z2 := hcs 2 _ rfl
                  have z3 := hcs 3 _ rfl
                  have z4 := hcs 4 _ rfl
                  have z5 := hcs 5 _ rfl
                  have z6 := hcs 6 _ rfl
                  have z7 := hcs 7 _ rfl
                  have z8 := hcs 8 _ rfl
                  rw [Nat.add_zero] at z0
                  have HSt := hide hd.still
                  unfold Mkd.cs at HSt
                  clear hcs hd
                  go_wp2_with fail
                  refine HSt.out.mono ?_
                  rintro e V4 ⟨rfl, G4⟩
                  have HN := hide (HQ.out.kept G4.out)
                  clear HSt HQ z0 z1 z2 z3 z4 z5 z6 z7 z8 gl gle G4
                  go_wp2
                  go_roundw
                  case rel => exact ⟨j + 1, by omega, by go_num, HN.out⟩
                  case measure => simp [intOf]; omega
                · have HIL := hide HQ.out.imageL
                  unfold imgV at HIL
                  clear HQ
                  go_upto_region 36 with fail
                  go_wp2_with fail
                  refine HIL.out.mono ?_
                  rintro e V5 ⟨iao, icap, iho, ihcap, ijo, ijcap, rfl, G5⟩
                  have HIK := hide G5.out.1.imageK
                  unfold imgV at HIK
                  clear HIL
                  go_wp2_with fail
                  refine HIK.out.mono ?_
                  rintro e V6 ⟨xao, xcap, xho, xhcap, xjo, xjcap, rfl, G6⟩
                  have HSM := hide ((G5.out.2.fl (Fl.below G6.out.2.2)).same_ G6.out.2.1 G6.out.1.ok.1)
                  have HE0 : Hid (∀ V8, Below V6.heap.size V6 V8 → Below w.heap.size w V8) := fun V8 hb => (G6.out.1.kept hb).bel
                  unfold imgV at HSM
                  clear HIK G5 G6
                  go_wp2_with fail
                  refine HSM.out.mono ?_
                  rintro e V8 ⟨rfl, G8⟩
                  have HE := hide (HE0.out _ G8.out)
                  clear HSM HE0 G8
                  go_wp2
                  go_ret
                  exact ⟨rfl, HE.out⟩
end Go.Proofs.Ytcfenjpdjogmdaa
namespace Go.Proofs.Ytcfenjpdjogmdaa
open Go.RowKit

theorem ledgerApartProof : Rows.LedgerApartUptoSaid := ledgerApart_upto fun _ _ _ len0 cap0 _ _ _ _ len1 cap1 _ hn0 hle0 hA0 hao0 hb0 hO1 hle1 hao1 hb1 => (apartW len0 cap0 hn0 hA0 hao0 hb0 hle0 len1 cap1 ⟨hO1, hle1, hao1, hb1⟩).mono (fun _ _ h => ⟨h.1, h.2.out⟩)
end Go.Proofs.Ytcfenjpdjogmdaa
