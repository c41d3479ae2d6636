import Derived.Test.YteafdpmblbbpnaaLB51
import Derived.Deep.CutBlock
namespace Go.Proofs.Yteafdpmblbbpnaa
open Go.RowKit

set_option maxRecDepth 10000 in
set_option maxHeartbeats 16000000 in
/-- The law: what the ledger was begun with, gone on line by line of its own journal, is what the ledger is. -/
theorem booksW {w : World} {b0 off : Nat} {ao : Option Addr} (n cap : Nat) {l : List Ac} (hn : n = l.length) (hA : Acs w b0 off l) (hao : 0 < n → ao = some ⟨b0, off, none⟩) (hbw : 0 < n → b0 < w.heap.size) (hle : n ≤ 4398046510976) {bs offs : Nat} {so : Option Addr} (sn sc : Nat) (hO : Ops w.heap.size w bs offs sn) (hsle : sn ≤ 4398046510976) (hso : 0 < sn → so = some ⟨bs, offs, none⟩) (hbs : 0 < sn → bs < w.heap.size) :
    Calls Try.prog 3 #[.slice ao n cap, .slice so sn sc] w fun e w' => e = .returned (.bool true) ∧ Hid (Below w.heap.size w w') := by
  have HST := hide (startedA n cap hn hA hao hbw hle)
  have HIN : Hid (∀ x ∈ l, x.In) := hA.ok
  have HO := hide hO
  have HSO := hide hso
  have HBS := hide hbs
  clear hn hA hao hbw hle hO hso hbs
  go_enter Try.func3, Try.ntmps3
  go_wp2_with fail
  refine HST.out.mono ?_
  rintro e w1 ⟨v, s, rfl, G1⟩
  clear HST
  have G1b := G1.out.1
  rcases G1.out.2 with rfl | ⟨g1, g2, _, p, a, b, rfl, g4, g5, g6, g7⟩
  · have HE := hide G1b
    clear G1b G1
    go_wp2
    go_ret
    exact ⟨rfl, HE.out⟩
  obtain ⟨S0, hS0⟩ : ∃ S, LS0 l = S := ⟨_, rfl⟩
  have hlg : LG w1 p a b nilS nilS S0 := by rw [← hS0]; exact g4.lg g2.dis rfl
  have hok : S0.Ok := by rw [← hS0]; exact LS0_ok g2 HIN.out g1
  have hnx0 : Hid (S0.nx = 1 ∧ S0.hol = []) := by rw [← hS0]; exact hide ⟨rfl, rfl⟩
  have HIM := hide (imageG hlg hok)
  have HP := hide (And.intro g5 (And.intro g6 g7))
  have HLG := hide hlg
  have HOK := hide hok
  have HB1 := hide G1b
  clear hlg hok g1 g2 g4 g5 g6 g7 G1 G1b hS0 HIN
  go_wp2_with fail
  refine HIM.out.mono ?_
  rintro e w2 ⟨iao, icap, iho, ihcap, ijo, ijcap, rfl, G2⟩
  obtain ⟨ga, gh, hIm, hga, hgh⟩ := im_of_rows G2.out.1.ra G2.out.1.rh HOK.out.ia HOK.out.ih
  obtain ⟨W2, hW2⟩ : ∃ W2, w2.alloc (.cells #[.int .u64 (S0.tot : Nat), .int .u64 (S0.nx : Nat), .slice iao S0.acc.length icap, .slice iho S0.hol.length ihcap, .slice ijo S0.jl.length ijcap] 31) = W2 := ⟨_, rfl⟩
  have HBo : Hid (Bo w w1.heap.size p a b w2.heap.size #[.int .u64 (S0.tot : Nat), .int .u64 (S0.nx : Nat), .slice iao S0.acc.length icap, .slice iho S0.hol.length ihcap, .slice ijo S0.jl.length ijcap] S0.acc S0.hol iao iho ga gh S0 0 S0 W2) := by
    have b2 : Below w2.heap.size w2 W2 := by rw [← hW2]; exact (Below.refl _ w2).alloc (Nat.le_refl _) _
    have b12 := G2.out.2.trans (b2.mono G2.out.2.size)
    have hl := HLG.out.lt
    refine ⟨HB1.out.trans (b12.mono HB1.out.size), HLG.out.kept b12, HOK.out, ⟨[], rfl, .nil S0⟩, by rw [← hW2]; exact alloc_atK _ _, hIm.below b2, HP.out.1, HP.out.2.1, HP.out.2.2, hl.1, hl.2.1, hl.2.2, G2.out.2.size, hga, hgh⟩
  have HSZ1 : Hid (w.heap.size ≤ w1.heap.size) := HB1.out.size
  have HW2 := hide hW2
  clear hW2 hIm hga hgh G2 HIM HLG HP HB1
  go_upto_region 6 with fail
  rw [HW2.out]
  clear HW2
  generalize w2.heap.size = mb at *
  go_upto_block 0 with fail
  go_cut [8] (fun ln V => ∃ L : Nat, ln = .int .i64 (L : Nat) ∧ L ≤ 56 ∧ ∃ S, Hid (Bo w w1.heap.size p a b mb #[.int .u64 (S0.tot : Nat), .int .u64 (S0.nx : Nat), .slice iao S0.acc.length icap, .slice iho S0.hol.length ihcap, .slice ijo S0.jl.length ijcap] S0.acc S0.hol iao iho ga gh S0 L S V))
  case first =>
    go_wp2
    go_loopw [8, 10] (fun ln i wr => ∃ k L : Nat, k ≤ sn ∧ L ≤ 56 ∧ i = .int .i64 k ∧ ln = .int .i64 (L : Nat) ∧ ∃ S, Hid (Bo w w1.heap.size p a b mb #[.int .u64 (S0.tot : Nat), .int .u64 (S0.nx : Nat), .slice iao S0.acc.length icap, .slice iho S0.hol.length ihcap, .slice ijo S0.jl.length ijcap] S0.acc S0.hol iao iho ga gh S0 L S wr)) (fun _ i _ => sn - (intOf i).toNat)
    case atStart => exact ⟨0, 0, by omega, by omega, rfl, rfl, S0, HBo.out⟩
    case round =>
      clear HBo
      obtain ⟨k, L, hk, hL, rfl, rfl, S, HB⟩ := hrel
      by_cases hlt : k < sn
      · by_cases h40 : L ≤ 40
        · obtain ⟨o, ho, hoo⟩ := (HO.out.below HB.out.bel (Nat.le_refl _) HBS.out) k hlt
          obtain rfl := HSO.out (by omega)
          have c0 := ho 0 (.int .i64 o.K) (by simp [OpR.arr])
          have c1 := ho 1 (.int .u64 (o.A : Nat)) (by simp [OpR.arr])
          have c2 := ho 2 (.int .u64 (o.B : Nat)) (by simp [OpR.arr])
          have c3 := ho 3 (.int .u64 (o.C : Nat)) (by simp [OpR.arr])
          have c4 := ho 4 (.int .i64 o.N) (by simp [OpR.arr])
          have c5 := ho 5 (.slice o.so o.sn o.sc) (by simp [OpR.arr])
          rw [Nat.add_zero] at c0
          have cl : bs < wr.heap.size := Nat.lt_of_lt_of_le (HBS.out (by omega)) HB.out.bel.size
          obtain ⟨W3, hW3⟩ : ∃ W3, wr.alloc (.cells o.arr 35) = W3 := ⟨_, rfl⟩
          have b3 : Below wr.heap.size wr W3 := by rw [← hW3]; exact (Below.refl _ wr).alloc (Nat.le_refl _) _
          have C3 : Hid (W3.heap[wr.heap.size]? = some (.cells o.arr 35 (0, 0))) := by rw [← hW3]; exact alloc_atK _ _
          have HB3 := hide (HB.out.kept b3)
          have HOO := hide (hoo.below b3 HB.out.bel.size)
          have hne := HB.out.ne
          have hmb := block_lt HB.out.box
          have HNE : Hid (wr.heap.size ≠ p ∧ wr.heap.size ≠ a ∧ wr.heap.size ≠ b) := hide (by omega)
          have HWS : Hid (w.heap.size ≤ W3.heap.size) := hide (Nat.le_trans HB.out.bel.size b3.size)
          have HW3 := hide hW3
          clear hW3 b3 ho hoo hne hmb HB
          unfold OpR.arr at HW3
          go_upto_region 10 with fail
          rw [HW3.out]
          clear HW3 c0 c1 c2 c3 c4 c5 cl
          generalize wr.heap.size = ob at *
          have x0 := block_cell C3.out 0
          have x1 := block_cell C3.out 1
          have x2 := block_cell C3.out 2
          have x3 := block_cell C3.out 3
          have x4 := block_cell C3.out 4
          have x5 := block_cell C3.out 5
          have xl := block_lt C3.out
          simp [OpR.arr] at x0 x1 x2 x3 x4 x5
          obtain ⟨KI, hKI⟩ : ∃ x, o.K = x := ⟨_, rfl⟩
          rw [hKI] at x0
          by_cases k1 : KI < 1
          · clear hKI C3 HOO HNE HWS
            go_wp2
            go_roundw
            case rel => exact ⟨k + 1, L, by omega, by omega, by go_num, rfl, S, HB3.out⟩
            case measure => simp [intOf]; omega
          by_cases k6 : KI > 6
          · clear hKI C3 HOO HNE HWS
            go_wp2
            go_roundw
            case rel => exact ⟨k + 1, L, by omega, by omega, by go_num, rfl, S, HB3.out⟩
            case measure => simp [intOf]; omega
          obtain ⟨kk, hkk⟩ : ∃ kk : Nat, KI = (kk : Int) := Int.eq_ofNat_of_zero_le (by omega)
          obtain ⟨cS, hcS⟩ : ∃ cS, S.step kk o.A o.B o.C o.l = cS := ⟨_, rfl⟩
          obtain ⟨c, S'⟩ := cS
          obtain ⟨bo, oo, hsh, hso2⟩ := HOO.out.sh
          have h1 : 1 ≤ kk := by omega
          have h6 : kk ≤ 6 := by omega
          have HD := hide (doesG HB3.out.lg HB3.out.ok h1 h6 HOO.out.hA HOO.out.hB HOO.out.hC o.N o.sn o.sc HOO.out.hn hsh (fun h0 => ⟨(hso2 h0).1, Nat.lt_of_lt_of_le (hso2 h0).2 HWS.out⟩) HOO.out.le hcS)
          rw [← hkk] at HD
          have HSH : Hid (∀ s ∈ o.l, s.In) := hsh.ok
          have HCS := hide hcS
          have HKK := hide hkk
          have HH := hide (And.intro h1 h6)
          have HKI := hide hKI
          generalize (o.A : Int) = XA at *
          generalize (o.B : Int) = XB at *
          generalize (o.C : Int) = XC at *
          clear hcS hsh hso2 hkk h1 h6 hKI
          go_upto_region 11 with fail
          go_wp2_with fail
          refine HD.out.mono ?_
          rintro e w4 ⟨rfl, G4⟩
          have hnx := HB3.out.does G4.out HH.out.1 HH.out.2 HOO.out.hA HOO.out.hB HOO.out.hC HSH.out HCS.out
          have hq := (G4.out.2.block _ (block_lt C3.out) HNE.out.1 HNE.out.2.1 HNE.out.2.2).trans C3.out
          clear x0 x1 x2 x3 x4 x5 xl
          have x0 := block_cell hq 0
          have x5 := block_cell hq 5
          have xl := block_lt hq
          simp [OpR.arr] at x0 x5
          have HNX := hide hnx
          have hsn := HOO.out.hn
          rw [HKI.out] at x0
          have hk66 : kk = 6 ↔ KI = 6 := by have := HKK.out; omega
          have HK66 := hide hk66
          clear hq hnx hk66 HD HCS HSH HKK HH HKI C3 HNE HWS HB3 G4 HOO
          by_cases hc : c = 0
          · have g0 : ((c : Int) == 0) = true := by simp [hc]
            by_cases hk6 : KI = 6
            · obtain ⟨h16, h5⟩ := HNX.out.2.1 hc (HK66.out.2 hk6)
              rw [← hsn] at h16 h5
              have HB5 := hide h5
              have g6 : (KI == 6) = true := by simp [hk6]
              generalize (c : Int) = CI at *
              clear h5 hc hk6 HNX HK66 hsn
              go_wp2
              go_roundw
              case rel => exact ⟨k + 1, L + o.sn, by omega, by omega, by go_num, by go_num, S', HB5.out⟩
              case measure => simp [intOf]; omega
            · have HB5 := hide (HNX.out.2.2 hc (fun h => hk6 (HK66.out.1 h)))
              have g6 : (KI == 6) = false := by simp [hk6]
              generalize (c : Int) = CI at *
              clear hc hk6 HNX HK66 hsn
              go_wp2
              go_roundw
              case rel => exact ⟨k + 1, L + 1, by omega, by omega, by go_num, by go_num, S', HB5.out⟩
              case measure => simp [intOf]; omega
          · have HB5 := hide (HNX.out.1 hc)
            have g0 : ((c : Int) == 0) = false := by simp; omega
            generalize (c : Int) = CI at *
            clear hc HNX HK66 hsn
            go_wp2
            go_roundw
            case rel => exact ⟨k + 1, L, by omega, by omega, by go_num, rfl, S', HB5.out⟩
            case measure => simp [intOf]; omega
        · have d40 : decide ((L : Int) ≤ 40) = false := decide_eq_false (by omega)
          go_wp2
          go_meet
          case rel => exact ⟨L, rfl, hL, S, HB.out⟩
      · go_wp2
        go_meet
        case rel => exact ⟨L, rfl, hL, S, HB.out⟩
  case rest =>
  obtain ⟨L, rfl, hL, S, HB⟩ := hcut
  obtain ⟨W5, hW5⟩ : ∃ V, V = wc := ⟨_, rfl⟩
  subst hW5
  clear HBo HO HSO HBS
  have HI2 := hide (imageG HB.out.lg HB.out.ok)
  obtain ⟨es, hel, hrn⟩ := HB.out.rn
  have hjl : S.jl = es := hrn.jl hnx0.out.1 (by omega)
  have hjL : S.jl.length = L := by rw [hjl, hel]
  have hSn : S.nx = 1 + L := by have := hrn.nx; rw [hnx0.out.1] at this; omega
  obtain ⟨AH, z0, z1, z2, z3⟩ := hrn.foldR HOK.out (RepS.own HOK.out)
  have hin : ∀ (i : Nat) (e : Jn), es[i]? = some e → e.sq = 1 + i ∧ e.In := fun i e he => by have := hrn.sq i e he; rw [hnx0.out.1] at this; exact this
  have hAin := fold_in (fun i e he => (hin i e he).2) z1 (by rw [z0]; exact HOK.out.ia) (by rw [z0]; exact HOK.out.ih)
  have HZ := hide (And.intro hin (And.intro z1 (And.intro z3 hAin)))
  have HZ2 := hide z2
  have HSO2 := hide HB.out.ok
  have HEL := hide hel
  obtain ⟨NX, hNX⟩ : ∃ X : Int, (S.nx : Int) = X := ⟨_, rfl⟩
  obtain ⟨NT, hNT⟩ : ∃ X : Int, (S.tot : Int) = X := ⟨_, rfl⟩
  obtain ⟨T0, hT0⟩ : ∃ X : Nat, S0.tot = X := ⟨_, rfl⟩
  obtain ⟨T1, hT1⟩ : ∃ X : Nat, S0.nx = X := ⟨_, rfl⟩
  have hwL : IntKind.u64.wrap ((L : Nat) : Int) = (L : Int) := IntWalk.u64_in _ ⟨by omega, by omega⟩
  have hwL1 : IntKind.u64.wrap ((L : Int) + 1) = NX := by rw [IntWalk.u64_in _ ⟨by omega, by omega⟩]; omega
  go_upto_region 16 with fail
  go_wp2_with fail
  refine HI2.out.mono ?_
  rintro e w5 ⟨nao, ncap, nho, nhcap, njo, njcap, rfl, G5⟩
  obtain ⟨na, nh, hIm, hna, hnh⟩ := im_of_rows G5.out.1.ra G5.out.1.rh HB.out.ok.ia HB.out.ok.ih
  obtain ⟨nj, hj1, hj2, hJn⟩ := jn_of_row G5.out.1.rj (LS.jl_in HB.out.ok)
  rw [hjl, hel] at hj1 hj2 
  rw [hjl] at hJn
  rw [hjL, hNX, hNT]
  obtain ⟨W6, hW6⟩ : ∃ W6, w5.alloc (.cells #[.int .u64 NT, .int .u64 NX, .slice nao S.acc.length ncap, .slice nho S.hol.length nhcap, .slice njo L njcap] 31) = W6 := ⟨_, rfl⟩
  have HBq : Hid (Bq w mb w5.heap.size (T0 : Nat) (T1 : Nat) #[.int .u64 NT, .int .u64 NX, .slice nao S.acc.length ncap, .slice nho S.hol.length nhcap, .slice njo L njcap] S.acc S.hol nao nho na nh es njo nj (AH 0).1 (AH 0).2 iao icap iho ihcap ijo S0.jl.length ijcap ga gh W6) := by
    have b6 : Below w5.heap.size w5 W6 := by rw [← hW6]; exact (Below.refl _ w5).alloc (Nat.le_refl _) _
    have hk := HB.out.kept (G5.out.2.trans (b6.mono G5.out.2.size))
    have hml := block_lt HB.out.box
    have h5 := G5.out.2.size
    obtain ⟨n1, n2, n3, n4, n5, n6, n7, n8, n9⟩ := HB.out.ne
    refine ⟨hk.bel, ?_, by rw [← hW6]; exact alloc_atK _ _, hIm.below b6, hJn.off (fun hp => b6.block _ (hj1 (by omega)).2), fun hp => ⟨(hj1 (by omega)).1, Nat.lt_of_lt_of_le (hj1 (by omega)).2 b6.size⟩, by rw [z0]; exact hk.im, by omega, by omega, fun hp => by have := hna hp; omega, fun hp => by have := hnh hp; omega, fun hp => by have := hj2 (by omega); omega⟩
    have := hk.box
    rw [hT0, hT1] at this
    rw [z0]
    exact this
  have HW6 := hide hW6
  clear hW6 hIm hna hnh hj1 hj2 hJn G5 HI2 hrn hjl hjL z0 z1 z2 z3 hin hAin hel hNX hNT hSn
  go_upto_region 17 with fail
  rw [HW6.out]
  clear HW6
  generalize w5.heap.size = nb at *
  have x1 := block_cell HBq.out.nbox 1
  have x4 := block_cell HBq.out.nbox 4
  have xl := block_lt HBq.out.nbox
  simp at x1 x4
  go_wp2
  go_loopw [14] (fun i wr => ∃ k : Nat, k ≤ L ∧ i = .int .i64 k ∧ ∃ (ai : Option Addr) (cp : Nat) (hi : Option Addr) (hcp : Nat) (ja : Option Addr) (jl jc gi gj : Nat), Hid (Bq w mb nb (T0 : Nat) (T1 : Nat) #[.int .u64 NT, .int .u64 NX, .slice nao S.acc.length ncap, .slice nho S.hol.length nhcap, .slice njo L njcap] S.acc S.hol nao nho na nh es njo nj (AH k).1 (AH k).2 ai cp hi hcp ja jl jc gi gj wr)) (fun i _ => L - (intOf i).toNat)
  case atStart => exact ⟨0, by omega, rfl, _, _, _, _, _, _, _, _, _, HBq.out⟩
  case round =>
    clear x1 x4 xl HBq
    obtain ⟨k, hk, rfl, ai, cp, hi, hcp, ja, jl, jc, gi, gj, HB6⟩ := hrel
    have m0 := block_cell HB6.out.box 0
    have m1 := block_cell HB6.out.box 1
    have m2 := block_cell HB6.out.box 2
    have m3 := block_cell HB6.out.box 3
    have m4 := block_cell HB6.out.box 4
    have ml := block_lt HB6.out.box
    have x0 := block_cell HB6.out.nbox 0
    have x1 := block_cell HB6.out.nbox 1
    have x2 := block_cell HB6.out.nbox 2
    have x3 := block_cell HB6.out.nbox 3
    have x4 := block_cell HB6.out.nbox 4
    have xl := block_lt HB6.out.nbox
    simp at m0 m1 m2 m3 m4 x0 x1 x2 x3 x4
    by_cases hlt : k < L
    · obtain ⟨e, he⟩ : ∃ e, es[k]? = some e := ⟨_, List.getElem?_eq_getElem (by have := HEL.out; omega)⟩
      obtain ⟨c0, c1, c2, c3, c4⟩ := HB6.out.jn.at_ k e he
      obtain ⟨rfl, cl⟩ := HB6.out.jo (by have := HEL.out; omega)
      rw [Nat.zero_add] at c0 c1 c2 c3 c4
      have hzz := HZ.out.1 k e he
      have hF := HZ.out.2.1 k e he
      have hl64 := HZ.out.2.2.1 k (by have := HEL.out; omega)
      have hin2 := HZ.out.2.2.2 (k + 1) (by have := HEL.out; omega)
      obtain ⟨A1, hA1⟩ : ∃ A, (AH (k + 1)).1 = A := ⟨_, rfl⟩
      obtain ⟨H1, hH1⟩ : ∃ A, (AH (k + 1)).2 = A := ⟨_, rfl⟩
      obtain ⟨Ak, hAk⟩ : ∃ A, (AH k).1 = A := ⟨_, rfl⟩
      obtain ⟨Hk, hHk⟩ : ∃ A, (AH k).2 = A := ⟨_, rfl⟩
      rw [hA1, hH1, hAk, hHk] at hF
      rw [hA1, hH1] at hin2
      rw [hAk, hHk] at hl64 HB6
      rw [hAk] at m2
      rw [hHk] at m3
      have HAI := hide hin2
      have HKW : Hid (∀ V, Below wr.heap.size wr V → Im V Ak Hk ai hi gi gj) := fun V hV => HB6.out.im.below hV
      have HQ : Hid (∀ V, Below wr.heap.size wr V → (V.cell? ⟨mb, 0, none⟩ = some (.int .u64 (T0 : Nat)) ∧ V.cell? ⟨mb, 1, none⟩ = some (.int .u64 (T1 : Nat)) ∧ V.cell? ⟨mb, 2, none⟩ = some (.slice ai Ak.length cp) ∧ V.cell? ⟨mb, 3, none⟩ = some (.slice hi Hk.length hcp) ∧ V.cell? ⟨mb, 4, none⟩ = some (.slice ja jl jc) ∧ mb < V.heap.size) ∧ (V.cell? ⟨nb, 4, none⟩ = some (.slice (some ⟨nj, 0, none⟩) L njcap) ∧ nb < V.heap.size) ∧ (V.cell? ⟨nj, k * 5, none⟩ = some (.int .u64 (e.sq : Int)) ∧ V.cell? ⟨nj, k * 5 + 1, none⟩ = some (.int .i64 (e.kd : Int)) ∧ V.cell? ⟨nj, k * 5 + 2, none⟩ = some (.int .u64 (e.fr : Int)) ∧ V.cell? ⟨nj, k * 5 + 3, none⟩ = some (.int .u64 (e.tw : Int)) ∧ V.cell? ⟨nj, k * 5 + 4, none⟩ = some (.int .u64 (e.am : Int)) ∧ nj < V.heap.size)) := fun V hV => by
        have hk := HB6.out.kept hV
        obtain ⟨d0, d1, d2, d3, d4⟩ := hk.jn.at_ k e he
        rw [Nat.zero_add] at d0 d1 d2 d3 d4
        exact ⟨⟨block_cell hk.box 0, block_cell hk.box 1, block_cell hk.box 2, block_cell hk.box 3, block_cell hk.box 4, block_lt hk.box⟩, ⟨block_cell hk.nbox 4, block_lt hk.nbox⟩, d0, d1, d2, d3, d4, (hk.jo (by have := HEL.out; omega)).2⟩
      have HF3 : Hid (∀ V, Below wr.heap.size wr V → Calls Try.prog 9 #[.agg #[.int .u64 (T0 : Nat), .int .u64 (T1 : Nat), .slice ai Ak.length cp, .slice hi Hk.length hcp, .slice ja jl jc], .agg #[.int .u64 (e.sq : Int), .int .i64 (e.kd : Int), .int .u64 (e.fr : Int), .int .u64 (e.tw : Int), .int .u64 (e.am : Int)]] V fun x w' => ∃ ao' cap' ho' hcap', x = .returned (.tuple #[.agg #[.int .u64 (T0 : Nat), .int .u64 (T1 : Nat), .slice ao' A1.length cap', .slice ho' H1.length hcap', .slice none 0 0], .bool true]) ∧ Hid (w'.ownsRow V.heap.size 50 4 (.slice ao' A1.length cap') A1.length (acells A1) ∧ w'.ownsRow V.heap.size 75 3 (.slice ho' H1.length hcap') H1.length (hcells H1) ∧ Below V.heap.size V w')) := fun V hV => foldI (HKW.out V hV) Ak.length Hk.length cp hcp rfl rfl hl64.1 hl64.2 e hzz.2 T0 T1 _ hF
      obtain ⟨SQ, hSQ⟩ : ∃ X : Int, (e.sq : Int) = X := ⟨_, rfl⟩
      have hwk : IntKind.u64.wrap ((k : Nat) : Int) = (k : Int) := IntWalk.u64_in _ ⟨by omega, by omega⟩
      have hwk1 : IntKind.u64.wrap ((k : Int) + 1) = SQ := by rw [IntWalk.u64_in _ ⟨by omega, by omega⟩]; have := hzz.1; omega
      have HHK := hide (And.intro hA1 hH1)
      rw [hSQ] at c0 HQ HF3
      generalize (e.kd : Int) = KD at *
      generalize (e.fr : Int) = FR at *
      generalize (e.tw : Int) = TW at *
      generalize (e.am : Int) = AM at *
      clear he hzz hF hl64 hin2 hAk hHk hA1 hH1 hSQ HKW
      go_upto_region 24 with fail
      clear hwk hwk1 x0 x1 x2 x3
      go_cut [15, 16] (fun bx f V => ∃ g : Nat, bx = .pointer (some ⟨g, 0, none⟩) ∧ f = .bool true ∧ ∃ (a6 : Option Addr) (cap6 : Nat) (h6 : Option Addr) (hcap6 g6 k6 : Nat), Hid (Below wr.heap.size wr V ∧ V.heap[g]? = some (.cells #[.int .u64 (T0 : Nat), .int .u64 (T1 : Nat), .slice a6 A1.length cap6, .slice h6 H1.length hcap6, .slice none 0 0] 31 (0, 0))) ∧ Hid (Im V A1 H1 a6 h6 g6 k6 ∧ (0 < A1.length → wr.heap.size ≤ g6) ∧ (0 < H1.length → wr.heap.size ≤ k6)))
      case first =>
        clear m0 m1 m2 m3 m4 ml x4 xl c0 c1 c2 c3 c4 cl
        have HB0 : Hid (Below wr.heap.size wr wr.drew) := (Below.refl _ _).drew
        refine wp_region_held_drew (S := fun V : World => Below wr.heap.size wr V) (by kernel_rfl) HB0.out (fun hH => ?_)
        refine wpAnyH_take (i := 0) (oi := { dst := some 104, op := Op.load 31 (Operand.tmp 9), type := 31, pos := "outright.go:219", after := #[], guard := none }) (v := .agg #[.int .u64 (T0 : Nat), .int .u64 (T1 : Nat), .slice ai Ak.length cp, .slice hi Hk.length hcp, .slice ja jl jc]) rfl (by kernel_rfl) (by kernel_rfl) (by kernel_rfl) (fun _ _ _ h => h) (Or.inl ⟨by rfl, fun w' hSw => ?_⟩) hH ?_
        · obtain ⟨⟨m0, m1, m2, m3, m4, ml⟩, ⟨x4, xl⟩, c0, c1, c2, c3, c4, cl⟩ := HQ.out _ hSw
          go_simp
        simp only [Act.put, List.setIfInBounds_toArray, List.set_cons_zero, List.set_cons_succ]
        refine wpAnyH_take (i := 1) (oi := { dst := some 105, op := Op.fieldAddr 31 (Operand.tmp 13) 4, type := 0, pos := "outright.go:219", after := #[], guard := none }) (v := .pointer (some ⟨nb, 4, none⟩)) rfl (by kernel_rfl) (by kernel_rfl) (by kernel_rfl) (fun _ _ _ h => h) (Or.inl ⟨by rfl, fun w' hSw => ?_⟩) hH ?_
        · obtain ⟨⟨m0, m1, m2, m3, m4, ml⟩, ⟨x4, xl⟩, c0, c1, c2, c3, c4, cl⟩ := HQ.out _ hSw
          go_simp
        simp only [Act.put, List.setIfInBounds_toArray, List.set_cons_zero, List.set_cons_succ]
        refine wpAnyH_take (i := 2) (oi := { dst := some 106, op := Op.load 29 (Operand.tmp 105), type := 29, pos := "outright.go:219", after := #[{ on := 1, ground := Ground.data }], guard := none }) (v := .slice (some ⟨nj, 0, none⟩) L njcap) rfl (by kernel_rfl) (by kernel_rfl) (by kernel_rfl) (fun _ _ _ h => h) (Or.inl ⟨by rfl, fun w' hSw => ?_⟩) hH ?_
        · obtain ⟨⟨m0, m1, m2, m3, m4, ml⟩, ⟨x4, xl⟩, c0, c1, c2, c3, c4, cl⟩ := HQ.out _ hSw
          go_simp
        simp only [Act.put, List.setIfInBounds_toArray, List.set_cons_zero, List.set_cons_succ]
        refine wpAnyH_take (i := 3) (oi := { dst := some 107, op := Op.move (Operand.tmp 14), type := 3, pos := "outright.go:219", after := #[], guard := none }) (v := .int .i64 k) rfl (by kernel_rfl) (by kernel_rfl) (by kernel_rfl) (fun _ _ _ h => h) (Or.inl ⟨by rfl, fun w' hSw => ?_⟩) hH ?_
        · obtain ⟨⟨m0, m1, m2, m3, m4, ml⟩, ⟨x4, xl⟩, c0, c1, c2, c3, c4, cl⟩ := HQ.out _ hSw
          go_simp
        simp only [Act.put, List.setIfInBounds_toArray, List.set_cons_zero, List.set_cons_succ]
        refine wpAnyH_take (i := 4) (oi := { dst := some 108, op := Op.indexAddr 29 (Operand.tmp 106) (Operand.tmp 107), type := 0, pos := "outright.go:219", after := #[{ on := 2, ground := Ground.data }, { on := 3, ground := Ground.data }], guard := none }) (v := .pointer (some ⟨nj, k * 5, none⟩)) rfl (by kernel_rfl) (by kernel_rfl) (by kernel_rfl) (fun _ _ _ h => h) (Or.inl ⟨by rfl, fun w' hSw => ?_⟩) hH ?_
        · obtain ⟨⟨m0, m1, m2, m3, m4, ml⟩, ⟨x4, xl⟩, c0, c1, c2, c3, c4, cl⟩ := HQ.out _ hSw
          go_simp
        simp only [Act.put, List.setIfInBounds_toArray, List.set_cons_zero, List.set_cons_succ]
        refine wpAnyH_take (i := 5) (oi := { dst := some 109, op := Op.load 38 (Operand.tmp 108), type := 38, pos := "outright.go:219", after := #[{ on := 4, ground := Ground.data }], guard := none }) (v := .agg #[.int .u64 SQ, .int .i64 KD, .int .u64 FR, .int .u64 TW, .int .u64 AM]) rfl (by kernel_rfl) (by kernel_rfl) (by kernel_rfl) (fun _ _ _ h => h) (Or.inl ⟨by rfl, fun w' hSw => ?_⟩) hH ?_
        · obtain ⟨⟨m0, m1, m2, m3, m4, ml⟩, ⟨x4, xl⟩, c0, c1, c2, c3, c4, cl⟩ := HQ.out _ hSw
          go_simp
        simp only [Act.put, List.setIfInBounds_toArray, List.set_cons_zero, List.set_cons_succ]
        refine wpAnyH_ready (rs := [6, 10]) (by kernel_rfl) (by simp) ?_
        refine AllReadyH.cons rfl (fun K hK => ?_) (AllReadyH.cons rfl (fun K hK => ?_) AllReadyH.nil)
        · go_simp
          go_wp2_with fail
          refine (HF3.out wr.drew HB0.out).mono ?_
          rintro x wa ⟨a6, cap6, h6, hcap6, rfl, G1⟩
          have HBwa : Hid (Below wr.heap.size wr wa) := HB0.out.trans (G1.out.2.2.mono HB0.out.size)
          obtain ⟨g6, k6, hM6, hg6, hk6⟩ := im_of_rows G1.out.1 G1.out.2.1 HAI.out.1 HAI.out.2
          have HMwa : Hid (Im wa A1 H1 a6 h6 g6 k6 ∧ (0 < A1.length → wr.heap.size ≤ g6) ∧ (0 < H1.length → wr.heap.size ≤ k6)) := ⟨hM6, hg6, hk6⟩
          clear hM6 hg6 hk6
          refine hK.out _ _ HBwa.out (fun _ => ?_)
          clear hK K
          refine wpAnyH_take (i := 7) (oi := { dst := some 103, op := Op.move (Operand.tmp 110), type := 39, pos := "outright.go:219", after := #[{ on := 6, ground := Ground.data }], guard := none }) (v := .tuple #[.agg #[.int .u64 (T0 : Nat), .int .u64 (T1 : Nat), .slice a6 A1.length cap6, .slice h6 H1.length hcap6, .slice none 0 0], .bool true]) rfl (by kernel_rfl) (by kernel_rfl) (by kernel_rfl) (fun _ _ _ h => h) (Or.inl ⟨by rfl, fun w' hSw => ?_⟩) HBwa.out ?_
          · go_simp
          simp only [Act.put, List.setIfInBounds_toArray, List.set_cons_zero, List.set_cons_succ]
          refine wpAnyH_take (i := 8) (oi := { dst := some 111, op := Op.extract (Operand.tmp 103) 0, type := 31, pos := "outright.go:219", after := #[{ on := 7, ground := Ground.data }], guard := none }) (v := .agg #[.int .u64 (T0 : Nat), .int .u64 (T1 : Nat), .slice a6 A1.length cap6, .slice h6 H1.length hcap6, .slice none 0 0]) rfl (by kernel_rfl) (by kernel_rfl) (by kernel_rfl) (fun _ _ _ h => h) (Or.inl ⟨by rfl, fun w' hSw => ?_⟩) HBwa.out ?_
          · go_simp
          simp only [Act.put, List.setIfInBounds_toArray, List.set_cons_zero, List.set_cons_succ]
          refine wpAnyH_take (i := 9) (oi := { dst := some 112, op := Op.extract (Operand.tmp 103) 1, type := 4, pos := "outright.go:219", after := #[{ on := 7, ground := Ground.data }, { on := 11, ground := Ground.gcOnly Departure.lateStores }], guard := none }) (v := .bool true) rfl (by kernel_rfl) (by kernel_rfl) (by kernel_rfl) (fun _ _ _ h => h) (Or.inl ⟨by rfl, fun w' hSw => ?_⟩) HBwa.out ?_
          · go_simp
          simp only [Act.put, List.setIfInBounds_toArray, List.set_cons_zero, List.set_cons_succ]
          refine wpAnyH_ready (rs := [10]) (by kernel_rfl) (by simp) ?_
          refine AllReadyH.cons rfl (fun K hK => ?_) AllReadyH.nil
          go_simp
          go_wp2_with fail
          obtain ⟨wb, hw⟩ : ∃ w', wa.alloc (.cells #[.int .u64 0, .int .u64 0, .slice none 0 0, .slice none 0 0, .slice none 0 0] 31) = w' := ⟨_, rfl⟩
          have bA : Below wa.heap.size wa wb := by rw [← hw]; exact ((Below.refl _ _).alloc (Nat.le_refl _) _)
          have HXwb : Hid (wb.heap[wa.heap.size]? = some (.cells #[.int .u64 0, .int .u64 0, .slice none 0 0, .slice none 0 0, .slice none 0 0] 31 (0, 0))) := by rw [← hw]; exact alloc_atK _ _
          have HMwb : Hid (Im wb A1 H1 a6 h6 g6 k6 ∧ (0 < A1.length → wr.heap.size ≤ g6) ∧ (0 < H1.length → wr.heap.size ≤ k6)) := ⟨HMwa.out.1.below bA, HMwa.out.2⟩
          have HSA : Hid (wr.heap.size ≤ wr.heap.size) := Nat.le_refl _
          rw [hw]
          clear hw
          have HBwb : Hid (Below wr.heap.size wr wb) := HBwa.out.trans (bA.mono HBwa.out.size)
          refine hK.out _ _ HBwb.out (fun _ => ?_)
          clear hK K
          have o0 := block_cell HXwb.out 0
          have o1 := block_cell HXwb.out 1
          have o2 := block_cell HXwb.out 2
          have o3 := block_cell HXwb.out 3
          have o4 := block_cell HXwb.out 4
          have p0 := block_free HXwb.out 0
          have p1 := block_free HXwb.out 1
          have p2 := block_free HXwb.out 2
          have p3 := block_free HXwb.out 3
          have p4 := block_free HXwb.out 4
          have ol := block_lt HXwb.out
          simp at o0 o1 o2 o3 o4
          refine wpAnyH_ready (rs := [11]) (by kernel_rfl) (by simp) ?_
          refine AllReadyH.cons rfl (fun K hK => ?_) AllReadyH.nil
          go_simp
          go_wp2_with fail
          generalize hwf : World.setCell _ _ _ = wf
          have hS6 := set5b rfl HXwb.out HBwb.out HBwa.out.size _ _ _ _ _ hwf
          have HFF : Hid (Below wr.heap.size wr wf ∧ wf.heap[wa.heap.size]? = some (.cells #[.int .u64 (T0 : Nat), .int .u64 (T1 : Nat), .slice a6 A1.length cap6, .slice h6 H1.length hcap6, .slice none 0 0] 31 (0, 0))) := ⟨hS6.2.1, hS6.1⟩
          have HMF : Hid (Im wf A1 H1 a6 h6 g6 k6 ∧ (0 < A1.length → wr.heap.size ≤ g6) ∧ (0 < H1.length → wr.heap.size ≤ k6)) := ⟨HMwb.out.1.kept hS6.2.2.size (fun hp => hS6.2.2.block _ (HMwb.out.1.ao hp).2 (fun e => by have := Option.some.inj e; have := (HMwa.out.1.ao hp).2; omega)) (fun hp => hS6.2.2.block _ (HMwb.out.1.ho hp).2 (fun e => by have := Option.some.inj e; have := (HMwa.out.1.ho hp).2; omega)), fun hp => by have := HMwb.out.2.1 hp; have := HSA.out; omega, fun hp => by have := HMwb.out.2.2 hp; have := HSA.out; omega⟩
          clear hwf hS6 o0 o1 o2 o3 o4 p0 p1 p2 p3 p4 ol
          refine hK.out _ _ HFF.out.1 (fun _ => ?_)
          clear hK K
          refine wpAnyH_ready (rs := [12]) (by kernel_rfl) (by simp) ?_
          refine AllReadyH.cons rfl (fun K hK => ?_) AllReadyH.nil
          go_simp
          go_wp2_with fail
          refine hK.out _ _ HFF.out.1 (fun _ => ?_)
          clear hK K
          refine wpAnyH_done (by kernel_rfl) ?_ _
          go_wp2
          go_meet
          case rel => exact ⟨_, rfl, rfl, a6, cap6, h6, hcap6, g6, k6, HFF.out, HMF.out⟩
        · go_simp
          go_wp2_with fail
          obtain ⟨wa, hw⟩ : ∃ w', (wr.alloc (.cells #[.int .u64 0, .int .u64 0, .slice none 0 0, .slice none 0 0, .slice none 0 0] 31)).drew = w' := ⟨_, rfl⟩
          have bA : Below wr.heap.size wr wa := by rw [← hw]; exact ((Below.refl _ _).alloc (Nat.le_refl _) _).drew
          have HXwa : Hid (wa.heap[wr.heap.size]? = some (.cells #[.int .u64 0, .int .u64 0, .slice none 0 0, .slice none 0 0, .slice none 0 0] 31 (0, 0))) := by rw [← hw]; exact alloc_atK _ _
          rw [hw]
          clear hw
          have HBwa : Hid (Below wr.heap.size wr wa) := bA
          refine hK.out _ _ HBwa.out (fun _ => ?_)
          clear hK K
          refine wpAnyH_ready (rs := [6]) (by kernel_rfl) (by simp) ?_
          refine AllReadyH.cons rfl (fun K hK => ?_) AllReadyH.nil
          go_simp
          go_wp2_with fail
          refine (HF3.out wa HBwa.out).mono ?_
          rintro x wb ⟨a6, cap6, h6, hcap6, rfl, G1⟩
          have HBwb : Hid (Below wr.heap.size wr wb) := HBwa.out.trans (G1.out.2.2.mono HBwa.out.size)
          have HXwb := hide ((G1.out.2.2.block _ (block_lt HXwa.out)).trans HXwa.out)
          have HSA : Hid (wr.heap.size < wa.heap.size) := block_lt HXwa.out
          obtain ⟨g6, k6, hM6, hg6, hk6⟩ := im_of_rows G1.out.1 G1.out.2.1 HAI.out.1 HAI.out.2
          have HMwb : Hid (Im wb A1 H1 a6 h6 g6 k6 ∧ (0 < A1.length → wa.heap.size ≤ g6) ∧ (0 < H1.length → wa.heap.size ≤ k6)) := ⟨hM6, hg6, hk6⟩
          clear hM6 hg6 hk6
          refine hK.out _ _ HBwb.out (fun _ => ?_)
          clear hK K
          refine wpAnyH_take (i := 7) (oi := { dst := some 103, op := Op.move (Operand.tmp 110), type := 39, pos := "outright.go:219", after := #[{ on := 6, ground := Ground.data }], guard := none }) (v := .tuple #[.agg #[.int .u64 (T0 : Nat), .int .u64 (T1 : Nat), .slice a6 A1.length cap6, .slice h6 H1.length hcap6, .slice none 0 0], .bool true]) rfl (by kernel_rfl) (by kernel_rfl) (by kernel_rfl) (fun _ _ _ h => h) (Or.inl ⟨by rfl, fun w' hSw => ?_⟩) HBwb.out ?_
          · go_simp
          simp only [Act.put, List.setIfInBounds_toArray, List.set_cons_zero, List.set_cons_succ]
          refine wpAnyH_take (i := 8) (oi := { dst := some 111, op := Op.extract (Operand.tmp 103) 0, type := 31, pos := "outright.go:219", after := #[{ on := 7, ground := Ground.data }], guard := none }) (v := .agg #[.int .u64 (T0 : Nat), .int .u64 (T1 : Nat), .slice a6 A1.length cap6, .slice h6 H1.length hcap6, .slice none 0 0]) rfl (by kernel_rfl) (by kernel_rfl) (by kernel_rfl) (fun _ _ _ h => h) (Or.inl ⟨by rfl, fun w' hSw => ?_⟩) HBwb.out ?_
          · go_simp
          simp only [Act.put, List.setIfInBounds_toArray, List.set_cons_zero, List.set_cons_succ]
          refine wpAnyH_take (i := 9) (oi := { dst := some 112, op := Op.extract (Operand.tmp 103) 1, type := 4, pos := "outright.go:219", after := #[{ on := 7, ground := Ground.data }, { on := 11, ground := Ground.gcOnly Departure.lateStores }], guard := none }) (v := .bool true) rfl (by kernel_rfl) (by kernel_rfl) (by kernel_rfl) (fun _ _ _ h => h) (Or.inl ⟨by rfl, fun w' hSw => ?_⟩) HBwb.out ?_
          · go_simp
          simp only [Act.put, List.setIfInBounds_toArray, List.set_cons_zero, List.set_cons_succ]
          have o0 := block_cell HXwb.out 0
          have o1 := block_cell HXwb.out 1
          have o2 := block_cell HXwb.out 2
          have o3 := block_cell HXwb.out 3
          have o4 := block_cell HXwb.out 4
          have p0 := block_free HXwb.out 0
          have p1 := block_free HXwb.out 1
          have p2 := block_free HXwb.out 2
          have p3 := block_free HXwb.out 3
          have p4 := block_free HXwb.out 4
          have ol := block_lt HXwb.out
          simp at o0 o1 o2 o3 o4
          refine wpAnyH_ready (rs := [11]) (by kernel_rfl) (by simp) ?_
          refine AllReadyH.cons rfl (fun K hK => ?_) AllReadyH.nil
          go_simp
          go_wp2_with fail
          generalize hwf : World.setCell _ _ _ = wf
          have hS6 := set5b rfl HXwb.out HBwb.out (Nat.le_refl _) _ _ _ _ _ hwf
          have HFF : Hid (Below wr.heap.size wr wf ∧ wf.heap[wr.heap.size]? = some (.cells #[.int .u64 (T0 : Nat), .int .u64 (T1 : Nat), .slice a6 A1.length cap6, .slice h6 H1.length hcap6, .slice none 0 0] 31 (0, 0))) := ⟨hS6.2.1, hS6.1⟩
          have HMF : Hid (Im wf A1 H1 a6 h6 g6 k6 ∧ (0 < A1.length → wr.heap.size ≤ g6) ∧ (0 < H1.length → wr.heap.size ≤ k6)) := ⟨HMwb.out.1.kept hS6.2.2.size (fun hp => hS6.2.2.block _ (HMwb.out.1.ao hp).2 (fun e => by have := Option.some.inj e; have := HMwb.out.2.1 hp; have := HSA.out; omega)) (fun hp => hS6.2.2.block _ (HMwb.out.1.ho hp).2 (fun e => by have := Option.some.inj e; have := HMwb.out.2.2 hp; have := HSA.out; omega)), fun hp => by have := HMwb.out.2.1 hp; have := HSA.out; omega, fun hp => by have := HMwb.out.2.2 hp; have := HSA.out; omega⟩
          clear hwf hS6 o0 o1 o2 o3 o4 p0 p1 p2 p3 p4 ol
          refine hK.out _ _ HFF.out.1 (fun _ => ?_)
          clear hK K
          refine wpAnyH_ready (rs := [12]) (by kernel_rfl) (by simp) ?_
          refine AllReadyH.cons rfl (fun K hK => ?_) AllReadyH.nil
          go_simp
          go_wp2_with fail
          refine hK.out _ _ HFF.out.1 (fun _ => ?_)
          clear hK K
          refine wpAnyH_done (by kernel_rfl) ?_ _
          go_wp2
          go_meet
          case rel => exact ⟨_, rfl, rfl, a6, cap6, h6, hcap6, g6, k6, HFF.out, HMF.out⟩
      case rest =>
      obtain ⟨g, rfl, rfl, a6, cap6, h6, hcap6, g6, k6, HG1, HG2⟩ := hcut
      obtain ⟨V1, hV1⟩ : ∃ V, V = wc := ⟨_, rfl⟩
      subst hV1
      have HNX := hide (HB6.out.next HG1.out.1 HG2.out.1 HG2.out.2.1 HG2.out.2.2 cap6 hcap6)
      have hk7 := HB6.out.kept HG1.out.1
      clear m0 m1 m2 m3 m4 ml x4 xl c0 c1 c2 c3 c4 cl
      have z0 := block_cell HG1.out.2 0
      have z1 := block_cell HG1.out.2 1
      have z2 := block_cell HG1.out.2 2
      have z3 := block_cell HG1.out.2 3
      have z4 := block_cell HG1.out.2 4
      have zl := block_lt HG1.out.2
      have m0 := block_cell hk7.box 0
      have m1 := block_cell hk7.box 1
      have m2 := block_cell hk7.box 2
      have m3 := block_cell hk7.box 3
      have m4 := block_cell hk7.box 4
      have ml := block_lt hk7.box
      have f0 := block_free hk7.box 0
      have f1 := block_free hk7.box 1
      have f2 := block_free hk7.box 2
      have f3 := block_free hk7.box 3
      have f4 := block_free hk7.box 4
      simp at z0 z1 z2 z3 z4 m0 m1 m2 m3 m4
      clear hk7 HG1 HG2 HQ HF3 HAI HB6
      go_wp2
      go_roundw
      case rel => exact ⟨k + 1, by omega, by go_num, a6, cap6, h6, hcap6, none, 0, 0, g6, k6, by rw [HHK.out.1, HHK.out.2]; exact HNX⟩
      case measure => simp [intOf]; omega
    · obtain rfl : k = L := by omega
      have h2 := HZ2.out
      rw [HEL.out] at h2
      have hb := h2.both HSO2.out
      obtain ⟨Ak, hAk⟩ : ∃ A, (AH k).1 = A := ⟨_, rfl⟩
      obtain ⟨Hk, hHk⟩ : ∃ A, (AH k).2 = A := ⟨_, rfl⟩
      rw [hAk, hHk] at h2 hb HB6
      rw [hAk] at m2
      rw [hHk] at m3
      have hla := h2.la
      have hlh := h2.lh
      rw [hla] at m2
      rw [hlh] at m3
      have hS64 := HSO2.out.la
      have hH64 := HSO2.out.lh
      have HA1 := hide (asSetsI HB6.out.im HB6.out.imn S.acc.length S.hol.length cp hcp ncap nhcap hla.symm rfl hlh.symm rfl hS64 hH64 hb.1 hb.2.1 HSO2.out.uh.nd (.int .u64 (T0 : Nat)) (.int .u64 (T1 : Nat)) (.slice ja jl jc) (.int .u64 NT) (.int .u64 NX) (.slice njo k njcap) ⟨_, _, _, rfl⟩ ⟨_, rfl⟩ ⟨_, rfl⟩)
      have HA2 : Hid (∀ V, Below wr.heap.size wr V → (Calls Try.prog 10 #[.agg #[.int .u64 NT, .int .u64 NX, .slice nao S.acc.length ncap, .slice nho S.hol.length nhcap, .slice njo k njcap], .agg #[.int .u64 (T0 : Nat), .int .u64 (T1 : Nat), .slice ai S.acc.length cp, .slice hi S.hol.length hcp, .slice ja jl jc]] V fun e w' => e = .returned (.bool true) ∧ Hid (Below V.heap.size V w'))) := fun V hV => asSetsI (HB6.out.kept hV).imn (HB6.out.kept hV).im S.acc.length S.hol.length ncap nhcap cp hcp rfl hla.symm rfl hlh.symm hS64 hH64 hb.2.2.1 hb.2.2.2 h2.nh (.int .u64 NT) (.int .u64 NX) (.slice njo k njcap) (.int .u64 (T0 : Nat)) (.int .u64 (T1 : Nat)) (.slice ja jl jc) ⟨_, _, _, rfl⟩ ⟨_, rfl⟩ ⟨_, rfl⟩
      have HLA := hide (And.intro hla hlh)
      clear h2 hb hla hlh hS64 hH64 hAk hHk
      go_wp2_with fail
      refine HA1.out.mono ?_
      rintro e w7 ⟨rfl, G7⟩
      have hk7 := HB6.out.kept G7.out
      have HA3 := hide (HA2.out w7 G7.out)
      have HB7 := hide hk7.bel
      clear m0 m1 m2 m3 m4 ml x0 x1 x2 x3 x4 xl
      have m0 := block_cell hk7.box 0
      have m1 := block_cell hk7.box 1
      have m2 := block_cell hk7.box 2
      have m3 := block_cell hk7.box 3
      have m4 := block_cell hk7.box 4
      have ml := block_lt hk7.box
      have x0 := block_cell hk7.nbox 0
      have x1 := block_cell hk7.nbox 1
      have x2 := block_cell hk7.nbox 2
      have x3 := block_cell hk7.nbox 3
      have x4 := block_cell hk7.nbox 4
      have xl := block_lt hk7.nbox
      rw [HLA.out.1] at m2
      rw [HLA.out.2] at m3
      simp at m0 m1 m2 m3 m4 x0 x1 x2 x3 x4
      clear hk7 HA1 HA2 HB6 HLA G7
      go_wp2_with fail
      refine HA3.out.mono ?_
      rintro e w8 ⟨rfl, G8⟩
      have HE : Hid (Below w.heap.size w w8) := HB7.out.trans (G8.out.mono HB7.out.size)
      clear G8 HA3 HB7
      go_wp2
      go_ret
      exact ⟨rfl, HE⟩
end Go.Proofs.Yteafdpmblbbpnaa
