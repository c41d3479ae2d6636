import Derived.Test.YtcfenjpdjogmdaaLU50
import Derived.Test.YtcfenjpdjogmdaaLU51
namespace Go.Proofs.Ytcfenjpdjogmdaa
open Go.RowKit

set_option maxRecDepth 10000 in
set_option maxHeartbeats 6000000 in
/-- The law: what was taken back is as if it had never been. -/
theorem undoneW {w : World} {b0 off : Nat} {ao : Option Addr} (n cap : Nat) {l : List Ac} (hn : n = l.length) (hA : Acs w b0 off l) (hao : 0 < n → ao = some ⟨b0, off, none⟩) (hbw : 0 < n → b0 < w.heap.size) (hle : n ≤ 4398046510976) {b1 f1 b2 f2 b3 f3 : Nat} {so1 so2 so3 : Option Addr} (n1 c1 n2 c2 n3 c3 : Nat) (h1 : Scr w b1 f1 so1 n1) (h2 : Scr w b2 f2 so2 n2) (h3 : Scr w b3 f3 so3 n3) :
    Calls Try.prog 3 #[.slice ao n cap, .slice so1 n1 c1, .slice so2 n2 c2, .slice so3 n3 c3] w fun e w' => e = .returned (.bool true) ∧ Hid (Below w.heap.size w w') := by
  have HST := hide (startedA n cap hn hA hao hbw hle)
  have HST2 : Hid (∀ V, Below w.heap.size w V → Calls Try.prog 5 #[.slice ao n cap] V fun e w' => ∃ (v : Value) (s : Nat), e = .returned (.tuple #[v, .int .u64 (s : Nat), .bool true]) ∧ Hid (StP V l v s w')) := fun V hV => startedA n cap hn (hA.below hV (fun hp => hbw (by omega))) hao (fun hp => Nat.lt_of_lt_of_le (hbw hp) hV.size) hle
  have HIN : Hid (∀ x ∈ l, x.In) := hA.ok
  have H1 := hide h1
  have H2 := hide h2
  have H3 := hide h3
  have hn1 := h1.le
  have hn2 := h2.le
  have hn3 := h3.le
  clear hn hA hao hbw hle h1 h2 h3
  go_enter Try.func3, Try.ntmps3
  go_wp2_with fail
  refine HST.out.mono ?_
  rintro e w1 ⟨v, s, rfl, G1⟩
  have HS2 := hide (HST2.out w1 G1.out.1)
  clear HST HST2
  go_upto_region 2 with fail
  go_wp2_with fail
  refine HS2.out.mono ?_
  rintro e w2 ⟨v', s', rfl, G2⟩
  clear HS2
  have hb2 := G1.out.1.trans (G2.out.1.mono G1.out.1.size)
  rcases G1.out.2 with ⟨rfl, hno⟩ | ⟨g1, g2, _, p, a, b, rfl, g4, g5, g6, g7⟩
  · rcases G2.out.2 with ⟨rfl, _⟩ | ⟨k1, k2, _⟩
    · have HE := hide hb2
      clear hb2 G1 G2 hno
      go_wp2
      go_ret
      exact ⟨rfl, HE.out⟩
    · exact absurd ⟨k1, k2⟩ hno
  rcases G2.out.2 with ⟨_, hno⟩ | ⟨_, _, _, p', a', b', rfl, k4, k5, k6, k7⟩
  · exact absurd ⟨g1, g2⟩ hno
  obtain ⟨S0, hS0⟩ : ∃ S, LS0 l = S := ⟨_, rfl⟩
  have hok : S0.Ok := by rw [← hS0]; exact LS0_ok g2 HIN.out g1
  have hlg : LG w1 p a b nilS nilS S0 := by rw [← hS0]; exact g4.lg g2.dis rfl
  have hkg : LG w2 p' a' b' nilS nilS S0 := by rw [← hS0]; exact k4.lg g2.dis rfl
  have HT0 : Hid (Tv w p a b p' a' b' 0 S0 [] w2) := by
    have h1 := hlg.lt
    have hs1 := G1.out.1.size
    refine ⟨hb2, ⟨nilS, nilS, [], []⟩, ⟨nilS, nilS, [], []⟩, ⟨⟨hlg.kept G2.out.1, World.ownsRow_nil _ _ _ _, ⟨[], World.ownsRow_nil _ _ _ _, fun i d v hi => by simp at hi⟩, g5, g6, g7⟩, Sv.none _ _ _ _, Nat.le_refl _, hok, fun q hq => by cases hq⟩, ⟨⟨hkg, World.ownsRow_nil _ _ _ _, ⟨[], World.ownsRow_nil _ _ _ _, fun i d v hi => by simp at hi⟩, by omega, by omega, by omega⟩, Sv.none _ _ _ _, Nat.le_refl _, hok, fun q hq => by cases hq⟩, fun x hx hy => ?_⟩
    have e0 : nilS.ownBlock = none := rfl
    rcases hx with e | e | e | e | e
    all_goals first
      | (have e' : nilS.ownBlock = some x := e; rw [e0] at e'; cases e'; done)
      | skip
    all_goals
      rcases hy with e2 | e2 | e2 | e2 | e2
      all_goals first
        | (have e' : nilS.ownBlock = some x := e2; rw [e0] at e'; cases e'; done)
        | omega
  clear hb2 G1 G2 g1 g2 g4 g5 g6 g7 k4 k5 k6 k7 hS0 hok hlg hkg HIN
  go_upto_region 6 with fail
  go_wp2
  go_loopw [15, 16] (fun om i wr => ∃ k m : Nat, k ≤ n1 ∧ i = .int .i64 k ∧ om = .int .i64 (m : Nat) ∧ ∃ S Q, Hid (Tv w p a b p' a' b' (48 * k) S Q wr ∧ Q.length = m)) (fun _ i _ => n1 - (intOf i).toNat)
  case atStart => exact ⟨0, 0, by omega, rfl, rfl, S0, [], HT0.out, rfl⟩
  case round =>
    clear HT0
    obtain ⟨k, m, hk, rfl, rfl, S, Q, HB⟩ := hrel
    have hm16 : m ≤ 16 := by have := (Two.ok HB.out.1).2.2; have := HB.out.2; omega
    by_cases hlt : k < n1
    · obtain ⟨o, hoo, rfl, hsc⟩ := H1.out.at_ hlt
      obtain ⟨c0, d1, d2, d3, d4, d5, cl⟩ := hsc wr HB.out.1.bel
      by_cases h8 : o.K = 8
      · have e8 : (o.K == 8) = true := by simp [h8]
        clear h8
        generalize o.K = KI at *
        have HB2 : Hid (Tv w p a b p' a' b' (48 * (k + 1)) S Q wr ∧ Q.length = m) := ⟨Two.le HB.out.1 (by omega) (by omega), HB.out.2⟩
        clear HB hsc hoo d1 d2 d3 d4 d5
        go_wp2
        go_roundw
        case rel => exact ⟨k + 1, m, by omega, by go_num, rfl, S, Q, HB2.out⟩
        case measure => simp [intOf]; omega
      have e8 : (o.K == 8) = false := by simp [h8]
      by_cases h9 : o.K = 9
      · have e9 : (o.K == 9) = true := by simp [h9]
        clear h8 h9
        generalize o.K = KI at *
        have HB2 : Hid (Tv w p a b p' a' b' (48 * (k + 1)) S Q wr ∧ Q.length = m) := ⟨Two.le HB.out.1 (by omega) (by omega), HB.out.2⟩
        clear HB hsc hoo d1 d2 d3 d4 d5
        go_wp2
        go_roundw
        case rel => exact ⟨k + 1, m, by omega, by go_num, rfl, S, Q, HB2.out⟩
        case measure => simp [intOf]; omega
      have e9 : (o.K == 9) = false := by simp [h9]
      obtain ⟨x, hx⟩ : ∃ x, stepQ S Q o = x := ⟨_, rfl⟩
      obtain ⟨c, T, R⟩ := x
      have hup := stepQ_up hx h8 h9 (Two.ok HB.out.1).2.2
      have hLK := Tv.LK (p := p) (a := a) (b := b) (p' := p') (a' := a') (b' := b') (M := 48 * k) (by omega) hoo hx hsc
      have HL := hide (hLK.1 wr HB.out.1)
      have HDK := hide hLK.2
      have HQ := hide HB.out.2
      have HUP : Hid ((o.K = 7 ∧ c = 0 ∧ R.length = m + 1 ∧ m < 16) ∨ ((o.K ≠ 7 ∨ c ≠ 0) ∧ R.length = m)) := by
        rcases hup with ⟨u1, u2, u3, u4⟩ | ⟨u1, u2⟩
        · exact .inl ⟨u1, u2, by rw [u3, List.length_append, HB.out.2]; rfl, by have := HB.out.2; omega⟩
        · exact .inr ⟨u1, by rw [u2]; exact HB.out.2⟩
      clear hup hLK HB hsc hx h8 h9 hoo
      unfold OpR.arr scrC at HL HDK
      generalize (o.A : Int) = XA at *
      generalize (o.B : Int) = XB at *
      generalize (o.C : Int) = XC at *
      generalize o.K = KI at *
      generalize o.N = NI at *
      go_upto_region 10 with fail
      go_wp2_with fail
      refine HL.out.mono ?_
      clear c0 d1 d2 d3 d4 d5 cl
      rintro e V1 ⟨rfl, ⟨c0, d1, d2, d3, d4, d5, cl⟩, G1⟩
      have HK := hide (HDK.out V1 G1)
      clear HL HDK G1
      go_upto_region 11 with fail
      go_wp2_with fail
      refine HK.out.mono ?_
      clear c0 d1 d2 d3 d4 d5 cl
      rintro e V2 ⟨rfl, ⟨c0, d1, d2, d3, d4, d5, cl⟩, G2⟩
      have HB2 : Hid (Tv w p a b p' a' b' (48 * (k + 1)) T R V2) := Two.le G2.out (by omega) (by omega)
      clear HK G2 d1 d2 d3 d4 d5
      have ecc : (c != c) = false := by simp
      rcases HUP.out with ⟨rfl, rfl, u3, u4⟩ | ⟨u1, u2⟩
      · clear HUP
        go_wp2
        go_roundw
        case rel => exact ⟨k + 1, m + 1, by omega, by go_num, by go_num, T, R, HB2.out, u3⟩
        case measure => simp [intOf]; omega
      · clear HUP
        by_cases h7 : KI = 7
        · have e7 : (KI == 7) = true := by simp [h7]
          have ec : (c == 0) = false := by simp; rcases u1 with u1 | u1 <;> first | exact absurd h7 u1 | exact u1
          clear u1 h7
          go_wp2
          go_roundw
          case rel => exact ⟨k + 1, m, by omega, by go_num, rfl, T, R, HB2.out, u2⟩
          case measure => simp [intOf]; omega
        · have e7 : (KI == 7) = false := by simp [h7]
          clear u1 h7
          go_wp2
          go_roundw
          case rel => exact ⟨k + 1, m, by omega, by go_num, rfl, T, R, HB2.out, u2⟩
          case measure => simp [intOf]; omega
    · obtain rfl : k = n1 := by omega
      have HIM := hide (Two.imageL HB.out.1)
      have HQ := hide HB.out.2
      unfold imgV at HIM
      clear H1 HB
      go_upto_region 15 with fail
      go_wp2_with fail
      refine HIM.out.mono ?_
      rintro e w4 ⟨iao, icap, iho, ihcap, ijo, ijcap, rfl, G4⟩
      clear HIM
      obtain ⟨W5, hW5⟩ : ∃ W5, w4.alloc (.cells #[.int .u64 (S.tot : Nat), .int .u64 (S.nx : Nat), .slice iao S.acc.length icap, .slice iho S.hol.length ihcap, .slice ijo S.jl.length ijcap] 35) = W5 := ⟨_, rfl⟩
      obtain ⟨q8, hq8⟩ : ∃ q, w4.heap.size = q := ⟨_, rfl⟩
      have b5 : Below w4.heap.size w4 W5 := by rw [← hW5]; exact (Below.refl _ w4).alloc (Nat.le_refl _) _
      have HT5 : Hid (Tv w p a b p' a' b' (48 * k) S Q W5) := Two.kept G4.out.2.1 b5
      have HWS5 : Hid (WasR W5 q8 S iao icap iho ihcap ijo ijcap) := by rw [← hW5, ← hq8]; exact WasR.new G4.out.1
      have HW5 := hide hW5
      have HQE := hide hq8
      clear b5 hW5 hq8 G4
      go_upto_region 16 with fail
      rw [HW5.out, HQE.out]
      clear HW5 HQE
      have hmk := Two.markL HT5.out
      rw [HQ.out] at hmk
      by_cases h16 : m = 16
      · rw [if_pos h16, if_pos h16, if_pos h16] at hmk
        have HMK := hide hmk
        have g1 : decide ((m : Int) ≥ 16) = true := decide_eq_true (by omega)
        have g2 : decide (16 ≤ m) = true := decide_eq_true (by omega)
        clear hmk h16 HT5 HWS5 HQ
        go_wp2_with fail
        refine HMK.out.mono ?_
        rintro e w6 ⟨rfl, G6⟩
        have HE : Hid (Below w.heap.size w w6) := G6.out.1.bel
        clear HMK G6
        go_wp2
        go_ret
        exact ⟨rfl, HE⟩
      · rw [if_neg h16, if_neg h16, if_neg h16] at hmk
        have HMK := hide hmk
        have g1 : decide ((m : Int) ≥ 16) = false := decide_eq_false (by omega)
        have g2 : decide (16 ≤ m) = false := decide_eq_false (by omega)
        have hm15 : m ≤ 15 := by omega
        clear hmk h16 HT5
        go_wp2_with fail
        refine HMK.out.mono ?_
        rintro e w6 ⟨rfl, G6⟩
        have HWS6 : Hid (WasR w6 q8 S iao icap iho ihcap ijo ijcap) := HWS5.out.fl G6.out.2
        have HT6 := hide G6.out.1
        have HINS := hide (insideC n2 c2 ((m : Int) + 1) H2.out.ops HT6.out.bel H2.out.le H2.out.ao H2.out.lt)
        clear HMK HWS5 G6
        go_upto_region 21 with fail
        go_wp2_with fail
        refine HINS.out.mono ?_
        rintro e w7 ⟨L, vo, vc, rfl, G7⟩
        have HT7 : Hid (Two w p a b p' a' b' (48 * k + 48) (48 * k) w7 S ((Q ++ [S]) ++ []) S Q) := by rw [List.append_nil]; exact HT6.out.kept G7.out.2.2.1
        have HWS7 : Hid (WasR w7 q8 S iao icap iho ihcap ijo ijcap) := HWS6.out.kept G7.out.2.2.1
        have HOP7 := hide G7.out.2.1
        have HLK := hide G7.out.2.2.2
        have hL := G7.out.1
        generalize w6.heap.size = B6 at *
        clear HINS HWS6 HT6 G7 H2
        go_wp2
        go_loopw [22] (fun i wr => ∃ j : Nat, j ≤ L.length ∧ i = .int .i64 j ∧ ∃ S1 E, Hid (Two w p a b p' a' b' (48 * k + 48 + 48 * j) (48 * k) wr S1 ((Q ++ [S]) ++ E) S Q ∧ WasR wr q8 S iao icap iho ihcap ijo ijcap ∧ OpsR w B6 wr vo vc L)) (fun i _ => L.length - (intOf i).toNat)
        case atStart => exact ⟨0, by omega, rfl, S, [], HT7.out, HWS7.out, HOP7.out⟩
        case round =>
          clear HT7 HWS7 HOP7
          obtain ⟨j, hj, rfl, S1, E, HB⟩ := hrel
          by_cases hlt2 : j < L.length
          · obtain ⟨o, ho⟩ : ∃ o, L[j]? = some o := ⟨_, List.getElem?_eq_getElem hlt2⟩
            obtain ⟨g, rfl, hg, hvc, hcell⟩ := HB.out.2.2.at_ ho
            obtain ⟨c0, d1, d2, d3, d4, d5, cl⟩ := scr_of hcell hg
            have hoo := HB.out.2.2.ok o (List.mem_of_getElem? ho)
            obtain ⟨x, hx⟩ : ∃ x, stepQ S1 ((Q ++ [S]) ++ E) o = x := ⟨_, rfl⟩
            obtain ⟨c, T, R⟩ := x
            obtain ⟨E', hE'⟩ := stepQ_pre hx (fun h => by
              have h1 := HLK.out o (List.mem_of_getElem? ho) h
              have h2 := HQ.out
              rw [List.length_append, h2]
              show ((m + 1 : Nat) : Int) < _
              omega)
            rw [hE'] at hx
            have HD := hide (Two.doesL HB.out.1 (by omega) hoo hx)
            have HFL : Hid (∀ V, Fl wr V → WasR V q8 S iao icap iho ihcap ijo ijcap ∧ OpsR w B6 V (some ⟨g, 0, none⟩) vc L) := fun V hV => ⟨HB.out.2.1.fl hV, HB.out.2.2.fl hV⟩
            clear hx hE' hoo ho hcell hg HB
            unfold OpR.arr at HD
            generalize (o.A : Int) = XA at *
            generalize (o.B : Int) = XB at *
            generalize (o.C : Int) = XC at *
            generalize o.K = KI at *
            generalize o.N = NI at *
            go_upto_region 25 with fail
            go_wp2_with fail
            refine HD.out.mono ?_
            rintro e V1 ⟨rfl, G1⟩
            have HB2 : Hid (Two w p a b p' a' b' (48 * k + 48 + 48 * (j + 1)) (48 * k) V1 T ((Q ++ [S]) ++ E') S Q ∧ WasR V1 q8 S iao icap iho ihcap ijo ijcap ∧ OpsR w B6 V1 (some ⟨g, 0, none⟩) vc L) := ⟨G1.out.1.le (by omega) (Nat.le_refl _), HFL.out V1 G1.out.2⟩
            clear HD HFL G1 c0 d1 d2 d3 d4 d5 cl
            go_wp2
            go_roundw
            case rel => exact ⟨j + 1, by omega, by go_num, T, E', HB2.out⟩
            case measure => simp [intOf]; omega
          · obtain rfl : j = L.length := by omega
            obtain ⟨M0, hM0⟩ : ∃ M0, 48 * k + 48 + 48 * L.length + 48 = M0 := ⟨_, rfl⟩
            have hM0' : M0 ≤ 200000000 := by omega
            have HUN : Hid (∀ V, Hid (Two w p a b p' a' b' (48 * k + 48 + 48 * L.length) (48 * k) V S1 ((Q ++ [S]) ++ E) S Q ∧ WasR V q8 S iao icap iho ihcap ijo ijcap) → Calls Try.prog 10 #[.pointer (some ⟨p, 0, none⟩), .int .i64 ((m : Int) + 1)] V fun e V1 => e = .returned (.int .i64 0) ∧ (V1.cell? ⟨q8, 0, none⟩ = some (.int .u64 (S.tot : Nat)) ∧ V1.cell? ⟨q8, 1, none⟩ = some (.int .u64 (S.nx : Nat)) ∧ V1.cell? ⟨q8, 2, none⟩ = some (.slice iao S.acc.length icap) ∧ V1.cell? ⟨q8, 3, none⟩ = some (.slice iho S.hol.length ihcap) ∧ V1.cell? ⟨q8, 4, none⟩ = some (.slice ijo S.jl.length ijcap) ∧ q8 < V1.heap.size) ∧ Hid (Tv w p a b p' a' b' M0 S Q V1 ∧ WasR V1 q8 S iao icap iho ihcap ijo ijcap)) := fun V hV => by
              have hlen : ((Q ++ [S]) ++ E)[m + 1 - 1]? = some S := by
                rw [Nat.add_sub_cancel, List.append_assoc, ← HQ.out, List.getElem?_append_right (Nat.le_refl _), Nat.sub_self]
                rfl
              have htk : ((Q ++ [S]) ++ E).take (m + 1 - 1) = Q := by
                rw [Nat.add_sub_cancel, List.append_assoc, ← HQ.out, List.take_left]
              have hu := hV.out.1.undoL (by omega) (k := m + 1) (by omega) (by rw [List.length_append, List.length_append, HQ.out]; show m + 1 ≤ m + 1 + _; omega) hlen
              rw [htk] at hu
              have em : (((m + 1 : Nat) : Int)) = (m : Int) + 1 := by omega
              rw [em] at hu
              refine hu.mono ?_
              rintro e V1 ⟨rfl, G⟩
              have hw := hV.out.2.fl G.out.2
              exact ⟨rfl, ⟨block_cell hw.box 0, block_cell hw.box 1, block_cell hw.box 2, block_cell hw.box 3, block_cell hw.box 4, block_lt hw.box⟩, G.out.1.le (by omega) (by omega), hw⟩
            have HI : Hid (∀ V, Hid (Tv w p a b p' a' b' M0 S Q V ∧ WasR V q8 S iao icap iho ihcap ijo ijcap) → Calls Try.prog 7 #[.pointer (some ⟨p, 0, none⟩)] V fun e V1 => ∃ xao xcap xho xhcap xjo xjcap, e = .returned (imgV S xao xcap xho xhcap xjo xjcap) ∧ (V1.cell? ⟨q8, 0, none⟩ = some (.int .u64 (S.tot : Nat)) ∧ V1.cell? ⟨q8, 1, none⟩ = some (.int .u64 (S.nx : Nat)) ∧ V1.cell? ⟨q8, 2, none⟩ = some (.slice iao S.acc.length icap) ∧ V1.cell? ⟨q8, 3, none⟩ = some (.slice iho S.hol.length ihcap) ∧ V1.cell? ⟨q8, 4, none⟩ = some (.slice ijo S.jl.length ijcap) ∧ q8 < V1.heap.size) ∧ Hid (Tv w p a b p' a' b' M0 S Q V1 ∧ ImX V1 S xao xcap xho xhcap xjo xjcap ∧ WasR V1 q8 S iao icap iho ihcap ijo ijcap)) := fun V hV => by
              refine (Two.imageL hV.out.1).mono ?_
              rintro e V1 ⟨xao, xcap, xho, xhcap, xjo, xjcap, rfl, G⟩
              have hw := hV.out.2.kept G.out.2.2
              exact ⟨xao, xcap, xho, xhcap, xjo, xjcap, rfl, ⟨block_cell hw.box 0, block_cell hw.box 1, block_cell hw.box 2, block_cell hw.box 3, block_cell hw.box 4, block_lt hw.box⟩, G.out.2.1, ImX.of G.out.1, hw⟩
            have HSM : Hid (∀ V xao xcap xho xhcap xjo xjcap, Hid (Tv w p a b p' a' b' M0 S Q V ∧ ImX V S xao xcap xho xhcap xjo xjcap ∧ WasR V q8 S iao icap iho ihcap ijo ijcap) → Calls Try.prog 11 #[imgV S xao xcap xho xhcap xjo xjcap, imgV S iao icap iho ihcap ijo ijcap] V fun e V1 => e = .returned (.bool true) ∧ (V1.cell? ⟨q8, 0, none⟩ = some (.int .u64 (S.tot : Nat)) ∧ V1.cell? ⟨q8, 1, none⟩ = some (.int .u64 (S.nx : Nat)) ∧ V1.cell? ⟨q8, 2, none⟩ = some (.slice iao S.acc.length icap) ∧ V1.cell? ⟨q8, 3, none⟩ = some (.slice iho S.hol.length ihcap) ∧ V1.cell? ⟨q8, 4, none⟩ = some (.slice ijo S.jl.length ijcap) ∧ q8 < V1.heap.size) ∧ Hid (Tv w p a b p' a' b' M0 S Q V1)) := fun V xao xcap xho xhcap xjo xjcap hV => by
              refine (hV.out.2.1.same_ hV.out.2.2.imx (Two.ok hV.out.1).1).mono ?_
              rintro e V1 ⟨rfl, G⟩
              have hw := hV.out.2.2.kept G.out
              exact ⟨rfl, ⟨block_cell hw.box 0, block_cell hw.box 1, block_cell hw.box 2, block_cell hw.box 3, block_cell hw.box 4, block_lt hw.box⟩, Two.kept hV.out.1 G.out⟩
            have hw0 := HB.out.2.1.box
            have HU0 := hide (HUN.out wr.drew ⟨HB.out.1.kept (Below.refl _ _).drew, HB.out.2.1.kept (Below.refl _ _).drew⟩)
            have x0 := block_cell hw0 0
            have x1 := block_cell hw0 1
            have x2 := block_cell hw0 2
            have x3 := block_cell hw0 3
            have x4 := block_cell hw0 4
            have xl := block_lt hw0
            simp at x0 x1 x2 x3 x4
            unfold imgV at HI HSM
            clear hw0 HUN HB HQ HLK hM0
            go_upto_region 26 with fail
            go_region_held (fun V => V.cell? ⟨q8, 0, none⟩ = some (.int .u64 (S.tot : Nat)) ∧ V.cell? ⟨q8, 1, none⟩ = some (.int .u64 (S.nx : Nat)) ∧ V.cell? ⟨q8, 2, none⟩ = some (.slice iao S.acc.length icap) ∧ V.cell? ⟨q8, 3, none⟩ = some (.slice iho S.hol.length ihcap) ∧ V.cell? ⟨q8, 4, none⟩ = some (.slice ijo S.jl.length ijcap) ∧ q8 < V.heap.size) (go_keep)
              (first | (go_at_call 10; refine HU0.out.mono ?_; rintro e V1 ⟨rfl, hc1, G1⟩; have HI1 := hide (HI.out _ G1)) | (go_at_call 7; refine HI1.out.mono ?_; rintro e V2 ⟨xao, xcap, xho, xhcap, xjo, xjcap, rfl, hc2, G2⟩; have HS2 := hide (HSM.out _ _ _ _ _ _ _ G2)) | (go_at_call 11; refine HS2.out.mono ?_; rintro e V3 ⟨rfl, hc3, GF⟩))
            all_goals
              clear HU0 HI HSM x0 x1 x2 x3 x4 xl
              go_wp2
              go_loopw [23] (fun i wr => ∃ j : Nat, j ≤ n3 ∧ i = .int .i64 j ∧ ∃ S Q, Hid (Tv w p a b p' a' b' (M0 + 48 * j) S Q wr)) (fun i _ => n3 - (intOf i).toNat)
              case atStart => exact ⟨0, by omega, rfl, S, Q, GF.out⟩
              case round =>
                obtain ⟨j, hj, rfl, S, Q, HB⟩ := hrel
                by_cases hlt : j < n3
                · obtain ⟨o, hoo, rfl, hsc⟩ := H3.out.at_ hlt
                  obtain ⟨x, hx⟩ : ∃ x, stepQ S Q o = x := ⟨_, rfl⟩
                  obtain ⟨c, T, R⟩ := x
                  have hLK := Tv.LK (p := p) (a := a) (b := b) (p' := p') (a' := a') (b' := b') (M := M0 + 48 * j) (by omega) hoo hx hsc
                  have hKL := Tv.KL (p := p) (a := a) (b := b) (p' := p') (a' := a') (b' := b') (M := M0 + 48 * j) (by omega) hoo hx hsc
                  have hIM := Tv.imgs (w := w) (p := p) (a := a) (b := b) (p' := p') (a' := a') (b' := b') (M := M0 + 48 * j + 48) (S := T) (Q := R) hsc
                  have H0 : Hid (Tv w p a b p' a' b' (M0 + 48 * j) S Q wr.drew) := Two.kept HB.out (Below.refl _ _).drew
                  have HL0 := hide (hLK.1 _ H0)
                  have HDK := hide hLK.2
                  have HK0 := hide (hKL.1 _ H0)
                  have HDL := hide hKL.2
                  have HIL := hide hIM.1
                  have HIK := hide hIM.2.1
                  have HIL2 := hide hIM.2.2.1
                  have HIK2 := hide hIM.2.2.2.1
                  have HSM := hide hIM.2.2.2.2
                  obtain ⟨z0, z1, z2, z3, z4, z5, zl⟩ := hsc wr HB.out.bel
                  clear hLK hKL hIM hx hoo hsc HB H0
                  unfold OpR.arr scrC at HL0 HDK HK0 HDL
                  unfold imgV scrC at HIL HIK HIL2 HIK2
                  unfold imgV scrC at HSM
                  generalize (o.A : Int) = XA at *
                  generalize (o.B : Int) = XB at *
                  generalize (o.C : Int) = XC at *
                  generalize o.K = KI at *
                  generalize o.N = NI at *
                  have ecc : (c != c) = false := by simp
                  go_upto_region 31 with fail
                  go_region_held (fun V => V.cell? ⟨b3, f3 + j * 6, none⟩ = some (.int .i64 KI) ∧ V.cell? ⟨b3, f3 + j * 6 + 1, none⟩ = some (.int .u64 XA) ∧ V.cell? ⟨b3, f3 + j * 6 + 2, none⟩ = some (.int .u64 XB) ∧ V.cell? ⟨b3, f3 + j * 6 + 3, none⟩ = some (.int .u64 XC) ∧ V.cell? ⟨b3, f3 + j * 6 + 4, none⟩ = some (.int .i64 NI) ∧ V.cell? ⟨b3, f3 + j * 6 + 5, none⟩ = some (.slice o.so o.sn o.sc) ∧ b3 < V.heap.size) (go_keep)
                    (first | (go_at_call 11; refine HS2.out.mono ?_; rintro e V5 ⟨rfl, hc5, GE⟩) | (go_at_call 7; refine HJ2.out.mono ?_; rintro e V4 ⟨yao, ycap, yho, yhcap, yjo, yjcap, rfl, hc4, G4⟩; have HS2 := hide (HSM.out _ _ _ _ _ _ _ _ _ _ _ _ _ G4)) | (go_at_call 7; refine HJL.out.mono ?_; rintro e V3 ⟨xao, xcap, xho, xhcap, xjo, xjcap, rfl, hc3, G3⟩; have HJ2 := hide (HIK2.out _ _ _ _ _ _ _ G3)) | (go_at_call 7; refine HJK.out.mono ?_; rintro e V3 ⟨xao, xcap, xho, xhcap, xjo, xjcap, rfl, hc3, G3⟩; have HJ2 := hide (HIL2.out _ _ _ _ _ _ _ G3)) | (go_at_call 6; refine HK1.out.mono ?_; rintro e V2 ⟨rfl, hc2, GF⟩; have HJL := hide (HIL.out _ GF); have HJK := hide (HIK.out _ GF)) | (go_at_call 6; refine HL1.out.mono ?_; rintro e V2 ⟨rfl, hc2, GF⟩; have HJL := hide (HIL.out _ GF); have HJK := hide (HIK.out _ GF)) | (go_at_call 6; refine HL0.out.mono ?_; rintro e V1 ⟨rfl, hc1, G1⟩; have HK1 := hide (HDK.out _ G1)) | (go_at_call 6; refine HK0.out.mono ?_; rintro e V1 ⟨rfl, hc1, G1⟩; have HL1 := hide (HDL.out _ G1)))
                  all_goals go_wp2
                  all_goals go_roundw
                  all_goals first
                    | (case rel => exact ⟨j + 1, by omega, by go_num, T, R, Two.le GE.out (by omega) (by omega)⟩)
                    | (case measure => simp [intOf]; omega)
                    | skip
                · obtain rfl : j = n3 := by omega
                  have HE : Hid (Below w.heap.size w wr) := HB.out.bel
                  clear HB
                  go_wp2
                  go_ret
                  exact ⟨rfl, HE⟩
end Go.Proofs.Ytcfenjpdjogmdaa
namespace Go.Proofs.Ytcfenjpdjogmdaa
open Go.RowKit

theorem ledgerUndoneProof : Rows.LedgerUndoneUptoSaid := ledgerUndone_upto fun _ _ _ len0 cap0 _ _ _ _ len1 cap1 _ _ _ len2 cap2 _ _ _ len3 cap3 _ hn0 hle0 hA0 hao0 hb0 hO1 hle1 hao1 hb1 hO2 hle2 hao2 hb2 hO3 hle3 hao3 hb3 => (undoneW len0 cap0 hn0 hA0 hao0 hb0 hle0 len1 cap1 len2 cap2 len3 cap3 ⟨hO1, hle1, hao1, hb1⟩ ⟨hO2, hle2, hao2, hb2⟩ ⟨hO3, hle3, hao3, hb3⟩).mono (fun _ _ h => ⟨h.1, h.2.out⟩)
end Go.Proofs.Ytcfenjpdjogmdaa
