import Derived.Test.YteafdpmblbbpnaaLS49
namespace Go.Proofs.Yteafdpmblbbpnaa
open Go.RowKit

theorem good_sum {l : List Ac} (hg : Good l l.length) : sumA l < 18446744073709551616 := by
  have key : ∀ k, k ≤ l.length → sumA (l.take k) < 18446744073709551616 := by
    intro k
    induction k with
    | zero => intro _; simp [sumA]
    | succ k ih =>
      intro hk
      have hx : l[k]? = some l[k] := List.getElem?_eq_getElem (by omega)
      have h1 := hg k _ (by omega) hx
      have h2 := ih (by omega)
      rw [List.take_add_one, hx]
      show sumA (l.take k ++ [l[k]]) < _
      rw [sumA_app]
      unfold faultA at h1
      split at h1
      · cases h1
      split at h1
      · cases h1
      split at h1
      · cases h1
      split at h1
      · cases h1
      · omega
  have := key l.length (Nat.le_refl _)
  rw [List.take_length] at this
  exact this
set_option maxRecDepth 100000 in
set_option maxHeartbeats 16000000 in
/-- The law: the sum is kept. -/
theorem keepsW {w : World} {b0 off : Nat} {ao : Option Addr} (n cap : Nat) {l : List Ac} (hn : n = l.length) (hA : Acs w b0 off l) (hao : 0 < n → ao = some ⟨b0, off, none⟩) (hbw : 0 < n → b0 < w.heap.size) (hle : n ≤ 4398046510976) {bs offs : Nat} {so : Option Addr} (sn sc : Nat) (hO : Ops w.heap.size w bs offs sn) (hsle : sn ≤ 1048576) (hso : 0 < sn → so = some ⟨bs, offs, none⟩) (hbs : 0 < sn → bs < w.heap.size) :
    Calls Try.prog 5 #[.slice ao n cap, .slice so sn sc] w fun e w' => e = .returned (.bool true) ∧ Hid (Below w.heap.size w w') := by
  have HST := hide (startedA n cap hn hA hao hbw hle)
  have HIN : Hid (∀ x ∈ l, x.In) := hA.ok
  have HO := hide hO
  have HSO := hide hso
  have HBS := hide hbs
  have HNL := hide hn
  clear hn hA hao hbw hle hO hso hbs
  go_enter Try.func5, Try.ntmps5
  go_wp2_with fail
  refine HST.out.mono ?_
  rintro e w1 ⟨v, s, rfl, G1⟩
  clear HST
  rcases G1.out.2 with ⟨rfl, hno⟩ | ⟨g1, g2, hs, p, a, b, rfl, g4, g5, g6, g7⟩
  · have HE := hide G1.out.1
    clear G1 hno
    go_wp2
    go_ret
    exact ⟨rfl, HE.out⟩
  obtain ⟨S0, hS0⟩ : ∃ S, LS0 l = S := ⟨_, rfl⟩
  have hok : S0.Ok := by rw [← hS0]; exact LS0_ok g2 HIN.out g1
  have hlg : LG w1 p a b nilS nilS S0 := by rw [← hS0]; exact g4.lg g2.dis rfl
  have hkp : S0.Kp s := by rw [hs, ← hS0]; exact LS0_kp (by rw [hS0]; exact hok)
  have hlen : S0.acc.length = n := by rw [← hS0, LS0_len, HNL.out]
  have hs64 : s < 18446744073709551616 := by rw [hs]; exact good_sum g2
  have HS64 := hide hs64
  have HLEN := hide hlen
  have HK0 : Hid (KpR w s 0 p a b w1 S0) := ⟨G1.out.1, ⟨⟨nilS, nilS, [], []⟩, [], ⟨hlg, World.ownsRow_nil _ _ _ _, ⟨[], World.ownsRow_nil _ _ _ _, fun i d v hi => by simp at hi⟩, g5, g6, g7⟩, Sv.none _ _ _ _, Nat.le_refl _, fun q hq => by cases hq⟩, hkp, by rw [← hS0]; exact Nat.le_refl _⟩
  have HIM := hide (imageG hlg hok)
  clear G1 g1 g2 g4 g5 g6 g7 hS0 hok hlg hs hs64 hlen HIN HNL
  go_upto_region 4 with fail
  go_wp2_with fail
  refine HIM.out.mono ?_
  rintro e w2 ⟨iao, icap, iho, ihcap, ijo, ijcap, rfl, G2⟩
  clear HIM
  obtain ⟨W3, hW3⟩ : ∃ W3, w2.alloc (.cells #[.int .u64 (S0.tot : Nat), .int .u64 (S0.nx : Nat), .slice iao S0.acc.length icap, .slice iho S0.hol.length ihcap, .slice ijo S0.jl.length ijcap] 31) = W3 := ⟨_, rfl⟩
  obtain ⟨q8, hq8⟩ : ∃ q, w2.heap.size = q := ⟨_, rfl⟩
  have b3 : Below w2.heap.size w2 W3 := by rw [← hW3]; exact (Below.refl _ w2).alloc (Nat.le_refl _) _
  have HK3 : Hid (KpR w s 0 p a b W3 S0) := (HK0.out.kept G2.out.2).kept b3
  have HWS3 : Hid (WasR W3 q8 S0 iao icap iho ihcap ijo ijcap) := by rw [← hW3, ← hq8]; exact WasR.new G2.out.1
  have HQ8 : Hid (w.heap.size ≤ q8) := by have := HK0.out.bel.size; have := G2.out.2.size; exact hide (by omega)
  have HEX := hide (HWS3.out.exact_ hkp HS64.out)
  have HW3 := hide hW3
  have hbx := HWS3.out.box
  have x0 := block_cell hbx 0
  have x1 := block_cell hbx 1
  have x2 := block_cell hbx 2
  have x3 := block_cell hbx 3
  have x4 := block_cell hbx 4
  have xl := block_lt hbx
  simp at x0 x1 x2 x3 x4
  have HQE := hide hq8
  clear HK0 G2 b3 hW3 hbx hkp hq8
  go_upto_region 5 with fail
  rw [HW3.out, HQE.out]
  clear HW3 HQE
  unfold imgV at HEX
  go_wp2_with fail
  refine HEX.out.mono ?_
  rintro e w4 ⟨rfl, G4⟩
  have HK4 : Hid (KpR w s 0 p a b w4 S0) := HK3.out.kept G4.out
  have HWS4 : Hid (WasR w4 q8 S0 iao icap iho ihcap ijo ijcap) := HWS3.out.kept G4.out
  have hbx := HWS4.out.box
  have y2 := block_cell hbx 2
  have yl := block_lt hbx
  simp at y2
  clear HK3 HWS3 HEX G4 hbx x0 x1 x2 x3 x4 xl
  rw [HLEN.out] at y2
  clear HLEN
  go_upto_region 7 with fail
  clear y2 yl
  go_wp2
  go_loopw [9] (fun i wr => ∃ k : Nat, k ≤ sn ∧ i = .int .i64 k ∧ ∃ (S : LS) (iao : Option Addr) (icap : Nat) (iho : Option Addr) (ihcap : Nat) (ijo : Option Addr) (ijcap : Nat), Hid (KpR w s k p a b wr S ∧ WasR wr q8 S iao icap iho ihcap ijo ijcap)) (fun i _ => sn - (intOf i).toNat)
  case atStart => exact ⟨0, by omega, rfl, S0, iao, icap, iho, ihcap, ijo, ijcap, HK4.out, HWS4.out⟩
  case round =>
    clear HK4 HWS4
    obtain ⟨k, hk, rfl, S, aao, acap, aho, ahcap, ajo, ajcap, HB⟩ := hrel
    by_cases hlt : k < sn
    · obtain ⟨o, ho0, hoo⟩ := HO.out k hlt
      have ho : ∀ (j : Nat) (v : Value), o.arr[j]? = some v → wr.cell? ⟨bs, offs + k * 6 + j, none⟩ = some v := fun j v hj => (HB.out.1.bel.cell (p := ⟨bs, _, none⟩) (HBS.out (by omega))).trans (ho0 j v hj)
      obtain rfl := HSO.out (by omega)
      have c0 := ho 0 (.int .i64 o.K) (by simp [OpR.arr])
      have c1 := ho 1 (.int .u64 (o.A : Nat)) (by simp [OpR.arr])
      have c2 := ho 2 (.int .u64 (o.B : Nat)) (by simp [OpR.arr])
      have c3 := ho 3 (.int .u64 (o.C : Nat)) (by simp [OpR.arr])
      have c4 := ho 4 (.int .i64 o.N) (by simp [OpR.arr])
      have c5 := ho 5 (.slice o.so o.sn o.sc) (by simp [OpR.arr])
      rw [Nat.add_zero] at c0
      have cl : bs < wr.heap.size := Nat.lt_of_lt_of_le (HBS.out (by omega)) HB.out.1.bel.size
      obtain ⟨W3, hW3⟩ : ∃ W3, wr.alloc (.cells o.arr 35) = W3 := ⟨_, rfl⟩
      have b3 : Below wr.heap.size wr W3 := by rw [← hW3]; exact (Below.refl _ wr).alloc (Nat.le_refl _) _
      have hbx : W3.heap[wr.heap.size]? = some (opBox o) := by rw [← hW3]; exact alloc_atK _ _
      have HB3 : Hid (KpR w s k p a b W3 S ∧ WasR W3 q8 S aao acap aho ahcap ajo ajcap ∧ W3.heap[wr.heap.size]? = some (opBox o)) := ⟨HB.out.1.kept b3, HB.out.2.kept b3, hbx⟩
      have HOO := hide hoo
      have HW3 := hide hW3
      clear hW3 b3 ho ho0 hoo HB hbx
      unfold OpR.arr at HW3
      go_upto_region 11 with fail
      rw [HW3.out]
      clear HW3 c0 c1 c2 c3 c4 c5 cl
      generalize wr.heap.size = ob at *
      obtain ⟨x0, x1, x2, x3, x4, x5, xl⟩ := op_cells HB3.out.2.2
      have HDO := hide (HB3.out.1.does (by omega) HOO.out)
      unfold OpR.arr at HDO
      go_wp2_with fail
      refine HDO.out.mono ?_
      rintro e w4 ⟨c, rfl, G4⟩
      obtain ⟨S', K4, f4, hcS, hmv⟩ := G4.out
      obtain ⟨mk4, ch4, l4⟩ := K4.lg
      have HIM := hide (imageG l4 K4.kp.1)
      have HB4 : Hid (KpR w s (k + 1) p a b w4 S' ∧ WasR w4 q8 S aao acap aho ahcap ajo ajcap ∧ w4.heap[ob]? = some (opBox o) ∧ S.Kp s ∧ S.nx ≤ 1 + 16 * k) := ⟨K4, HB3.out.2.1.fl f4, f4.op HB3.out.2.2, HB3.out.1.kp, HB3.out.1.nx⟩
      have HCS := hide hcS
      have HMV := hide hmv
      clear HDO G4 K4 f4 hcS hmv l4 HB3 x0 x1 x2 x3 x4 x5 xl
      go_upto_region 12 with fail
      go_wp2_with fail
      refine HIM.out.mono ?_
      rintro e w5 ⟨nao, ncap, nho, nhcap, njo, njcap, rfl, G5⟩
      clear HIM
      obtain ⟨W6, hW6⟩ : ∃ W6, w5.alloc (.cells #[.int .u64 (S'.tot : Nat), .int .u64 (S'.nx : Nat), .slice nao S'.acc.length ncap, .slice nho S'.hol.length nhcap, .slice njo S'.jl.length njcap] 31) = W6 := ⟨_, rfl⟩
      obtain ⟨q12, hq12⟩ : ∃ q, w5.heap.size = q := ⟨_, rfl⟩
      have b6 : Below w5.heap.size w5 W6 := by rw [← hW6]; exact (Below.refl _ w5).alloc (Nat.le_refl _) _
      have HB6 : Hid (∀ V, Below W6.heap.size W6 V → KpR w s (k + 1) p a b V S' ∧ WasR V q8 S aao acap aho ahcap ajo ajcap ∧ WasR V q12 S' nao ncap nho nhcap njo njcap ∧ V.heap[ob]? = some (opBox o)) := fun V hV => by
        have hn : WasR W6 q12 S' nao ncap nho nhcap njo njcap := by rw [← hW6, ← hq12]; exact WasR.new G5.out.1
        have k4 := HB4.out
        exact ⟨((k4.1.kept G5.out.2).kept b6).kept hV, ((k4.2.1.kept G5.out.2).kept b6).kept hV, hn.kept hV, (hV.block _ (block_lt ((Fl.below b6).op ((Fl.below G5.out.2).op k4.2.2.1)))).trans ((Fl.below b6).op ((Fl.below G5.out.2).op k4.2.2.1))⟩
      have HKS : Hid (S.Kp s ∧ S.nx ≤ 1 + 16 * k) := HB4.out.2.2.2
      have HW6 := hide hW6
      have HQE := hide hq12
      clear hW6 hq12 b6 HB4 G5
      go_upto_region 13 with fail
      rw [HW6.out, HQE.out]
      clear HW6 HQE
      have HS0 : Hid (S'.Kp s) := (HB6.out W6 (Below.refl _ _)).1.kp
      have HEX := hide ((HB6.out W6 (Below.refl _ _)).2.2.1.exact_ HS0.out HS64.out)
      have HTT : Hid (∀ V, Below W6.heap.size W6 V → Calls Try.prog 15 #[.pointer (some ⟨p, 0, none⟩)] V fun e w' => e = .returned (.int .u64 (s : Nat)) ∧ w' = V) := fun V hV => by
        obtain ⟨mk, ch, hl⟩ := (HB6.out V hV).1.lg
        have := totalG hl
        rw [HS0.out.2.2] at this
        exact this
      have HSM : Hid (c ≠ 0 → ∀ V, Below W6.heap.size W6 V → Calls Try.prog 13 #[imgV S aao acap aho ahcap ajo ajcap, imgV S' nao ncap nho nhcap njo njcap] V fun e w' => e = .returned (.bool true) ∧ Hid (Below V.heap.size V w')) := fun h0 V hV => by
        have hB := HB6.out V hV
        have he := HCS.out h0
        have h2 := hB.2.1
        have h3 := hB.2.2.1
        rw [he] at h3 ⊢
        exact h2.same_ h3 HKS.out.1.1
      have HCE : Hid (∀ V, Below W6.heap.size W6 V → (V.cell? ⟨q12, 0, none⟩ = some (.int .u64 (S'.tot : Nat)) ∧ V.cell? ⟨q12, 1, none⟩ = some (.int .u64 (S'.nx : Nat)) ∧ V.cell? ⟨q12, 2, none⟩ = some (.slice nao S'.acc.length ncap) ∧ V.cell? ⟨q12, 3, none⟩ = some (.slice nho S'.hol.length nhcap) ∧ V.cell? ⟨q12, 4, none⟩ = some (.slice njo S'.jl.length njcap) ∧ q12 < V.heap.size) ∧ (V.cell? ⟨q8, 0, none⟩ = some (.int .u64 (S.tot : Nat)) ∧ V.cell? ⟨q8, 1, none⟩ = some (.int .u64 (S.nx : Nat)) ∧ V.cell? ⟨q8, 2, none⟩ = some (.slice aao S.acc.length acap) ∧ V.cell? ⟨q8, 3, none⟩ = some (.slice aho S.hol.length ahcap) ∧ V.cell? ⟨q8, 4, none⟩ = some (.slice ajo S.jl.length ajcap) ∧ q8 < V.heap.size) ∧ opCells V ob o) := fun V hV => by
        obtain ⟨_, h2, h3, h4⟩ := HB6.out V hV
        exact ⟨⟨block_cell h3.box 0, block_cell h3.box 1, block_cell h3.box 2, block_cell h3.box 3, block_cell h3.box 4, block_lt h3.box⟩, ⟨block_cell h2.box 0, block_cell h2.box 1, block_cell h2.box 2, block_cell h2.box 3, block_cell h2.box 4, block_lt h2.box⟩, op_cells h4⟩
      unfold imgV at HEX HSM
      obtain ⟨⟨n0, n1, n2, n3, n4, nl⟩, -, -⟩ := HCE.out W6 (Below.refl _ _)
      go_wp2_with fail
      refine HEX.out.mono ?_
      rintro e w7 ⟨rfl, G7⟩
      have HT7 := hide (HTT.out w7 G7.out)
      clear HEX n0 n1 n2 n3 n4 nl
      obtain ⟨⟨n0, n1, n2, n3, n4, nl⟩, ⟨a0, a1, a2, a3, a4, al⟩, -⟩ := HCE.out w7 G7.out
      go_wp2_with fail
      refine HT7.out.mono ?_
      rintro e w8 ⟨rfl, rfl⟩
      clear HT7 HTT
      by_cases hc0 : c = 0
      · subst hc0
        have HVX := G7
        clear n0 n1 n2 n3 n4 nl a0 a1 a2 a3 a4 al
        obtain ⟨-, ⟨a0, a1, a2, a3, a4, al⟩, x0, x1, x2, x3, x4, x5, xl⟩ := HCE.out w8 HVX.out
        have hF1 := (HB6.out w8 HVX.out).2.1.find_ HKS.out.1.1 o.A
        unfold imgV Ac.arr at hF1
        obtain ⟨x, hx⟩ : ∃ x, (byK Ac.id S.acc o.A).getD Ac.zero = x := ⟨_, rfl⟩
        obtain ⟨fx, hfx⟩ : ∃ fx, (byK Ac.id S.acc o.A).isSome = fx := ⟨_, rfl⟩
        rw [hx, hfx] at hF1
        have HF1 := hide hF1
        have HXF := hide (And.intro hx hfx)
        clear hF1 hx hfx
        go_upto_region 15 with fail
        go_wp2_with fail
        refine HF1.out.mono ?_
        rintro e w10 ⟨rfl, G10⟩
        clear HF1
        obtain ⟨W11, hW11⟩ : ∃ W11, w10.alloc (.cells #[.int .u64 (x.id : Nat), .int .u64 (x.ow : Nat), .int .u64 (x.ba : Nat), .int .u64 (x.cp : Nat)] 50) = W11 := ⟨_, rfl⟩
        obtain ⟨q13, hq13⟩ : ∃ q, w10.heap.size = q := ⟨_, rfl⟩
        have b11 : Below w10.heap.size w10 W11 := by rw [← hW11]; exact (Below.refl _ w10).alloc (Nat.le_refl _) _
        have HX11 : Hid (W11.heap[q13]? = some (.cells #[.int .u64 (x.id : Nat), .int .u64 (x.ow : Nat), .int .u64 (x.ba : Nat), .int .u64 (x.cp : Nat)] 50 (0, 0))) := by rw [← hW11, ← hq13]; exact alloc_atK _ _
        have HV10 : Hid (Below W6.heap.size W6 w10) := HVX.out.trans (G10.out.mono HVX.out.size)
        have HV11 : Hid (Below W6.heap.size W6 W11) := HV10.out.trans (b11.mono HV10.out.size)
        have HW11 := hide hW11
        have HQE := hide hq13
        clear hW11 hq13 b11 G10 HV10 HVX a0 a1 a2 a3 a4 al x0 x1 x2 x3 x4 x5 xl
        go_upto_region 16 with fail
        rw [HW11.out, HQE.out]
        clear HW11 HQE
        obtain ⟨-, ⟨a0, a1, a2, a3, a4, al⟩, x0, x1, x2, x3, x4, x5, xl⟩ := HCE.out W11 HV11.out
        have hF2 := (HB6.out W11 HV11.out).2.1.find_ HKS.out.1.1 o.B
        unfold imgV Ac.arr at hF2
        obtain ⟨y, hy⟩ : ∃ x, (byK Ac.id S.acc o.B).getD Ac.zero = x := ⟨_, rfl⟩
        obtain ⟨fy, hfy⟩ : ∃ fx, (byK Ac.id S.acc o.B).isSome = fx := ⟨_, rfl⟩
        rw [hy, hfy] at hF2
        have HF2 := hide hF2
        have HYF := hide (And.intro hy hfy)
        clear hF2 hy hfy
        go_wp2_with fail
        refine HF2.out.mono ?_
        rintro e w12 ⟨rfl, G12⟩
        clear HF2
        obtain ⟨W13, hW13⟩ : ∃ W13, w12.alloc (.cells #[.int .u64 (y.id : Nat), .int .u64 (y.ow : Nat), .int .u64 (y.ba : Nat), .int .u64 (y.cp : Nat)] 50) = W13 := ⟨_, rfl⟩
        obtain ⟨q15, hq15⟩ : ∃ q, w12.heap.size = q := ⟨_, rfl⟩
        have b13 : Below w12.heap.size w12 W13 := by rw [← hW13]; exact (Below.refl _ w12).alloc (Nat.le_refl _) _
        have B13 : Below W11.heap.size W11 W13 := G12.out.trans (b13.mono G12.out.size)
        have HBX : Hid (∀ V, Below W13.heap.size W13 V → V.heap[q13]? = some (.cells #[.int .u64 (x.id : Nat), .int .u64 (x.ow : Nat), .int .u64 (x.ba : Nat), .int .u64 (x.cp : Nat)] 50 (0, 0)) ∧ V.heap[q15]? = some (.cells #[.int .u64 (y.id : Nat), .int .u64 (y.ow : Nat), .int .u64 (y.ba : Nat), .int .u64 (y.cp : Nat)] 50 (0, 0))) := fun V hV => by
          have h1 : W13.heap[q15]? = some (.cells #[.int .u64 (y.id : Nat), .int .u64 (y.ow : Nat), .int .u64 (y.ba : Nat), .int .u64 (y.cp : Nat)] 50 (0, 0)) := by rw [← hW13, ← hq15]; exact alloc_atK _ _
          have h2 := (B13.block _ (block_lt HX11.out)).trans HX11.out
          exact ⟨(hV.block _ (block_lt h2)).trans h2, (hV.block _ (block_lt h1)).trans h1⟩
        have HV13 : Hid (Below W6.heap.size W6 W13) := HV11.out.trans (B13.mono HV11.out.size)
        have HW13 := hide hW13
        have HQE := hide hq15
        clear hW13 hq15 b13 B13 G12 HV11 HX11 a0 a1 a2 a3 a4 al x0 x1 x2 x3 x4 x5 xl
        go_upto_region 17 with fail
        rw [HW13.out, HQE.out]
        clear HW13 HQE
        obtain ⟨⟨n0, n1, n2, n3, n4, nl⟩, ⟨a0, a1, a2, a3, a4, al⟩, x0, x1, x2, x3, x4, x5, xl⟩ := HCE.out W13 HV13.out
        have hqx := (HBX.out W13 (Below.refl _ _)).1
        have hqy := (HBX.out W13 (Below.refl _ _)).2
        have d2 := block_cell hqx 2
        have dl := block_lt hqx
        have e2 := block_cell hqy 2
        have e3 := block_cell hqy 3
        have el := block_lt hqy
        simp at d2 e2 e3
        clear hqx hqy
        have HEND : Hid (∀ V, Below W6.heap.size W6 V → (V.frozen? ⟨q8, 0, none⟩ = false ∧ V.frozen? ⟨q8, 1, none⟩ = false ∧ V.frozen? ⟨q8, 2, none⟩ = false ∧ V.frozen? ⟨q8, 3, none⟩ = false ∧ V.frozen? ⟨q8, 4, none⟩ = false) ∧ Hid (KpR w s (k + 1) p a b (((((V.setCell ⟨q8, 0, none⟩ (.int .u64 (S'.tot : Nat))).setCell ⟨q8, 1, none⟩ (.int .u64 (S'.nx : Nat))).setCell ⟨q8, 2, none⟩ (.slice nao S'.acc.length ncap)).setCell ⟨q8, 3, none⟩ (.slice nho S'.hol.length nhcap)).setCell ⟨q8, 4, none⟩ (.slice njo S'.jl.length njcap)) S' ∧ WasR (((((V.setCell ⟨q8, 0, none⟩ (.int .u64 (S'.tot : Nat))).setCell ⟨q8, 1, none⟩ (.int .u64 (S'.nx : Nat))).setCell ⟨q8, 2, none⟩ (.slice nao S'.acc.length ncap)).setCell ⟨q8, 3, none⟩ (.slice nho S'.hol.length nhcap)).setCell ⟨q8, 4, none⟩ (.slice njo S'.jl.length njcap)) q8 S' nao ncap nho nhcap njo njcap)) := fun V hV => by
          obtain ⟨h1, h2, h3, _⟩ := HB6.out V hV
          obtain ⟨k1, k2⟩ := h3.store h2.box
          exact ⟨⟨block_free h2.box 0, block_free h2.box 1, block_free h2.box 2, block_free h2.box 3, block_free h2.box 4⟩, h1.fq h2.box HQ8.out k2, k1⟩
        have HYC : Hid (y.ba ≤ y.cp ∧ y.cp < 18446744073709551616 ∧ x.ba < 18446744073709551616) := by
          have hyy := HYF.out.1
          have hxx := HXF.out.1
          have hk := HKS.out.1.1
          have key : ∀ z : Nat, ((byK Ac.id S.acc z).getD Ac.zero).ba ≤ ((byK Ac.id S.acc z).getD Ac.zero).cp ∧ ((byK Ac.id S.acc z).getD Ac.zero).cp < 18446744073709551616 := fun z => by
            cases e : byK Ac.id S.acc z with
            | none => exact ⟨Nat.le_refl _, by decide⟩
            | some u =>
              obtain ⟨hm, _⟩ := byK_mem e
              exact ⟨hk.ca u hm, (hk.ia u hm).h3⟩
          have h1 := key o.A
          have h2 := key o.B
          rw [hxx] at h1
          rw [hyy] at h2
          exact ⟨h2.1, h2.2, by omega⟩
        obtain ⟨D, hD⟩ : ∃ D : Nat, y.cp - y.ba = D := ⟨_, rfl⟩
        have hwY : IntKind.u64.wrap ((y.cp : Int) - (y.ba : Int)) = (D : Int) := by have := HYC.out; rw [IntWalk.u64_in _ ⟨by omega, by omega⟩]; omega
        by_cases bK : o.K = 3
        · have gK : (o.K == 3) = true := by simp [bK]
          cases fx
          · skip
            obtain ⟨⟨f0, f1, f2, f3, f4⟩, HE⟩ := HEND.out W13 HV13.out
            clear HEND HB6 HCE HMV HCS
            go_wp2
            go_roundw
            case rel => exact ⟨k + 1, by omega, by go_num, S', nao, ncap, nho, nhcap, njo, njcap, HE.out⟩
            case measure => simp [intOf]; omega
          cases fy
          · skip
            obtain ⟨⟨f0, f1, f2, f3, f4⟩, HE⟩ := HEND.out W13 HV13.out
            clear HEND HB6 HCE HMV HCS
            go_wp2
            go_roundw
            case rel => exact ⟨k + 1, by omega, by go_num, S', nao, ncap, nho, nhcap, njo, njcap, HE.out⟩
            case measure => simp [intOf]; omega
          by_cases bA : o.A = o.B
          · have gA : ((o.A : Int) == (o.B : Int)) = true := by simp [bA]
            obtain ⟨⟨f0, f1, f2, f3, f4⟩, HE⟩ := HEND.out W13 HV13.out
            clear HEND HB6 HCE HMV HCS
            go_wp2
            go_roundw
            case rel => exact ⟨k + 1, by omega, by go_num, S', nao, ncap, nho, nhcap, njo, njcap, HE.out⟩
            case measure => simp [intOf]; omega
          have gA : ((o.A : Int) == (o.B : Int)) = false := by simp; omega
          have gA2 : (o.A == o.B) = false := by simp [bA]
          have gA3 : ((o.A : Int) != (o.B : Int)) = true := by simp; omega
          have gA4 : ¬ (o.A : Int) = (o.B : Int) := by omega
          have gA5 : decide ((o.A : Int) = (o.B : Int)) = false := decide_eq_false (by omega)
          by_cases bC : 0 < o.C
          · have gC : decide ((o.C : Int) > 0) = true := decide_eq_true (by omega)
            have gC2 : decide (0 < o.C) = true := decide_eq_true bC
            by_cases bX : o.C ≤ x.ba
            · have gX : decide ((o.C : Int) ≤ (x.ba : Int)) = true := decide_eq_true (by omega)
              have gX2 : decide (o.C ≤ x.ba) = true := decide_eq_true bX
              by_cases bY : o.C ≤ D
              · have gY : decide ((o.C : Int) ≤ (D : Int)) = true := decide_eq_true (by omega)
                have gY2 : decide (o.C ≤ D) = true := decide_eq_true bY
                have hmv := HMV.out bK
                have hx1 : byK Ac.id S.acc o.A = some x := by
                  obtain ⟨h1, h2⟩ := HXF.out
                  obtain ⟨u, hu⟩ := Option.isSome_iff_exists.1 h2
                  rw [hu] at h1
                  rw [hu, ← h1]
                  rfl
                have hy1 : byK Ac.id S.acc o.B = some y := by
                  obtain ⟨h1, h2⟩ := HYF.out
                  obtain ⟨u, hu⟩ := Option.isSome_iff_exists.1 h2
                  rw [hu] at h1
                  rw [hu, ← h1]
                  rfl
                have hmy := fun d h => moves_yes HKS.out.1.1 hx1 hy1 bA bC bX (by rw [hD]; exact bY) (by have := HKS.out.2; omega) (d := d) (T := S') h
                obtain ⟨d, -, hmv⟩ := hmv
                obtain ⟨-, hx2, hy2⟩ := hmy d hmv
                have hF3 := (HB6.out W13 HV13.out).2.2.1.find_ HS0.out.1 o.A
                unfold imgV Ac.arr at hF3
                rw [hx2] at hF3
                have HF3 := hide hF3
                have HF4 : Hid (∀ V, Below W6.heap.size W6 V → Calls Try.prog 16 #[.agg #[.int .u64 (S'.tot : Nat), .int .u64 (S'.nx : Nat), .slice nao S'.acc.length ncap, .slice nho S'.hol.length nhcap, .slice njo S'.jl.length njcap], .int .u64 (o.B : Nat)] V fun e w' => e = .returned (.tuple #[.agg #[.int .u64 (y.id : Nat), .int .u64 (y.ow : Nat), .int .u64 ((y.ba + o.C : Nat) : Int), .int .u64 (y.cp : Nat)], .bool true]) ∧ Hid (Below V.heap.size V w')) := fun V hV => by
                  have hF4 := (HB6.out V hV).2.2.1.find_ HS0.out.1 o.B
                  unfold imgV Ac.arr at hF4
                  rw [hy2] at hF4
                  exact hF4
                have hwX : IntKind.u64.wrap ((x.ba : Int) - (o.C : Int)) = ((x.ba - o.C : Nat) : Int) := by have := HYC.out; rw [IntWalk.u64_in _ ⟨by omega, by omega⟩]; omega
                have hwB : IntKind.u64.wrap ((y.ba : Int) + (o.C : Int)) = ((y.ba + o.C : Nat) : Int) := by have := HYC.out; rw [IntWalk.u64_in _ ⟨by omega, by omega⟩]; omega
                obtain ⟨XD, hXD⟩ : ∃ XD : Nat, x.ba - o.C = XD := ⟨_, rfl⟩
                obtain ⟨YD, hYD⟩ : ∃ YD : Nat, y.ba + o.C = YD := ⟨_, rfl⟩
                rw [hXD] at hwX
                rw [hYD] at hwB
                have hF3e : Hid (Calls Try.prog 16 #[.agg #[.int .u64 (S'.tot : Nat), .int .u64 (S'.nx : Nat), .slice nao S'.acc.length ncap, .slice nho S'.hol.length nhcap, .slice njo S'.jl.length njcap], .int .u64 (o.A : Nat)] W13 fun e w' => e = .returned (.tuple #[.agg #[.int .u64 (x.id : Nat), .int .u64 (x.ow : Nat), .int .u64 (XD : Nat), .int .u64 (x.cp : Nat)], .bool true]) ∧ Hid (Below W13.heap.size W13 w')) := by rw [← hXD]; exact HF3.out
                rw [hYD] at HF4
                clear HF3 hF3 hXD hYD hmv hmy hx2 hy2 hx1 hy1 bA bC bX bY bK hD HXF HYF HYC
                clear gC2 gX2 gY2 gA2
                unfold opCells at HCE
                generalize (x.ba : Int) = XBA at *
                generalize (y.ba : Int) = YBA at *
                generalize (y.cp : Int) = YCP at *
                generalize (o.A : Int) = XA at *
                generalize (o.B : Int) = XB at *
                generalize (o.C : Int) = XC at *
                generalize o.K = KI at *
                generalize (D : Int) = DI at *
                generalize (XD : Int) = XDI at *
                generalize (YD : Int) = YDI at *
                go_upto_region 18 with fail
                go_wp2_with fail
                refine hF3e.out.mono ?_
                rintro e w14 ⟨rfl, G14⟩
                clear hF3e
                obtain ⟨W15, hW15⟩ : ∃ W15, w14.alloc (.cells #[.int .u64 (x.id : Nat), .int .u64 (x.ow : Nat), .int .u64 XDI, .int .u64 (x.cp : Nat)] 50) = W15 := ⟨_, rfl⟩
                obtain ⟨q17, hq17⟩ : ∃ q, w14.heap.size = q := ⟨_, rfl⟩
                have b15 : Below w14.heap.size w14 W15 := by rw [← hW15]; exact (Below.refl _ w14).alloc (Nat.le_refl _) _
                have HX15 : Hid (W15.heap[q17]? = some (.cells #[.int .u64 (x.id : Nat), .int .u64 (x.ow : Nat), .int .u64 XDI, .int .u64 (x.cp : Nat)] 50 (0, 0))) := by rw [← hW15, ← hq17]; exact alloc_atK _ _
                have B15 : Hid (Below W13.heap.size W13 W15) := G14.out.trans (b15.mono G14.out.size)
                have HV15 : Hid (Below W6.heap.size W6 W15) := HV13.out.trans (B15.out.mono HV13.out.size)
                have HW15 := hide hW15
                have HQE := hide hq17
                clear hW15 hq17 b15 G14 n0 n1 n2 n3 n4 nl a0 a1 a2 a3 a4 al x0 x1 x2 x3 x4 x5 xl d2 dl e2 e3 el
                go_upto_region 19 with fail
                rw [HW15.out, HQE.out]
                clear HW15 HQE
                obtain ⟨⟨n0, n1, n2, n3, n4, nl⟩, -, x0, x1, x2, x3, x4, x5, xl⟩ := HCE.out W15 HV15.out
                have HF5 := hide (HF4.out W15 HV15.out)
                clear HF4
                go_wp2_with fail
                refine HF5.out.mono ?_
                rintro e w16 ⟨rfl, G16⟩
                clear HF5
                obtain ⟨W17, hW17⟩ : ∃ W17, w16.alloc (.cells #[.int .u64 (y.id : Nat), .int .u64 (y.ow : Nat), .int .u64 YDI, .int .u64 YCP] 50) = W17 := ⟨_, rfl⟩
                obtain ⟨q19, hq19⟩ : ∃ q, w16.heap.size = q := ⟨_, rfl⟩
                have b17 : Below w16.heap.size w16 W17 := by rw [← hW17]; exact (Below.refl _ w16).alloc (Nat.le_refl _) _
                have B17 : Below W15.heap.size W15 W17 := G16.out.trans (b17.mono G16.out.size)
                have hz : W17.heap[q19]? = some (.cells #[.int .u64 (y.id : Nat), .int .u64 (y.ow : Nat), .int .u64 YDI, .int .u64 YCP] 50 (0, 0)) := by rw [← hW17, ← hq19]; exact alloc_atK _ _
                have hu := (B17.block _ (block_lt HX15.out)).trans HX15.out
                obtain ⟨hqx, hqy⟩ := HBX.out W17 (B15.out.trans (B17.mono B15.out.size))
                have HV17 : Hid (Below W6.heap.size W6 W17) := HV15.out.trans (B17.mono HV15.out.size)
                have HW17 := hide hW17
                have HQE := hide hq19
                clear hW17 hq19 b17 G16 B17 B15 HX15 HV15 n0 n1 n2 n3 n4 nl x0 x1 x2 x3 x4 x5 xl
                obtain ⟨⟨n0, n1, n2, n3, n4, nl⟩, ⟨a0, a1, a2, a3, a4, al⟩, x0, x1, x2, x3, x4, x5, xl⟩ := HCE.out W17 HV17.out
                have d2 := block_cell hqx 2
                have dl := block_lt hqx
                have e2 := block_cell hqy 2
                have el := block_lt hqy
                have u2 := block_cell hu 2
                have ul := block_lt hu
                have z2 := block_cell hz 2
                have zl := block_lt hz
                simp at d2 e2 u2 z2
                clear hqx hqy hu hz
                go_upto_region 20 with fail
                rw [HW17.out, HQE.out]
                clear HW17 HQE
                obtain ⟨⟨f0, f1, f2, f3, f4⟩, HE⟩ := HEND.out W17 HV17.out
                clear HEND HB6 HCE HMV HCS HBX HSM
                go_wp2
                go_roundw
                case rel => exact ⟨k + 1, by omega, by go_num, S', nao, ncap, nho, nhcap, njo, njcap, HE.out⟩
                case measure => simp [intOf]; omega
              · have gY : decide ((o.C : Int) ≤ (D : Int)) = false := decide_eq_false (by omega)
                have gY2 : decide (o.C ≤ D) = false := decide_eq_false bY
                obtain ⟨⟨f0, f1, f2, f3, f4⟩, HE⟩ := HEND.out W13 HV13.out
                clear HEND HB6 HCE HMV HCS
                go_wp2
                go_roundw
                case rel => exact ⟨k + 1, by omega, by go_num, S', nao, ncap, nho, nhcap, njo, njcap, HE.out⟩
                case measure => simp [intOf]; omega
            · have gX : decide ((o.C : Int) ≤ (x.ba : Int)) = false := decide_eq_false (by omega)
              have gX2 : decide (o.C ≤ x.ba) = false := decide_eq_false bX
              obtain ⟨⟨f0, f1, f2, f3, f4⟩, HE⟩ := HEND.out W13 HV13.out
              clear HEND HB6 HCE HMV HCS
              go_wp2
              go_roundw
              case rel => exact ⟨k + 1, by omega, by go_num, S', nao, ncap, nho, nhcap, njo, njcap, HE.out⟩
              case measure => simp [intOf]; omega
          · have gC : decide ((o.C : Int) > 0) = false := decide_eq_false (by omega)
            have gC2 : decide (0 < o.C) = false := decide_eq_false bC
            obtain ⟨⟨f0, f1, f2, f3, f4⟩, HE⟩ := HEND.out W13 HV13.out
            clear HEND HB6 HCE HMV HCS
            go_wp2
            go_roundw
            case rel => exact ⟨k + 1, by omega, by go_num, S', nao, ncap, nho, nhcap, njo, njcap, HE.out⟩
            case measure => simp [intOf]; omega
        · have gK : (o.K == 3) = false := by simp [bK]
          obtain ⟨⟨f0, f1, f2, f3, f4⟩, HE⟩ := HEND.out W13 HV13.out
          clear HEND HB6 HCE HMV HCS
          go_wp2
          go_roundw
          case rel => exact ⟨k + 1, by omega, by go_num, S', nao, ncap, nho, nhcap, njo, njcap, HE.out⟩
          case measure => simp [intOf]; omega
      · have g0 : (c == 0) = false := by simp [hc0]
        have HSM7 := hide (HSM.out hc0 w8 G7.out)
        go_wp2_with fail
        refine HSM7.out.mono ?_
        rintro e w9 ⟨rfl, G9⟩
        have HVX : Hid (Below W6.heap.size W6 w9) := G7.out.trans (G9.out.mono G7.out.size)
        clear n0 n1 n2 n3 n4 nl a0 a1 a2 a3 a4 al
        obtain ⟨-, ⟨a0, a1, a2, a3, a4, al⟩, x0, x1, x2, x3, x4, x5, xl⟩ := HCE.out w9 HVX.out
        have hF1 := (HB6.out w9 HVX.out).2.1.find_ HKS.out.1.1 o.A
        unfold imgV Ac.arr at hF1
        obtain ⟨x, hx⟩ : ∃ x, (byK Ac.id S.acc o.A).getD Ac.zero = x := ⟨_, rfl⟩
        obtain ⟨fx, hfx⟩ : ∃ fx, (byK Ac.id S.acc o.A).isSome = fx := ⟨_, rfl⟩
        rw [hx, hfx] at hF1
        have HF1 := hide hF1
        have HXF := hide (And.intro hx hfx)
        clear hF1 hx hfx
        go_upto_region 15 with fail
        go_wp2_with fail
        refine HF1.out.mono ?_
        rintro e w10 ⟨rfl, G10⟩
        clear HF1
        obtain ⟨W11, hW11⟩ : ∃ W11, w10.alloc (.cells #[.int .u64 (x.id : Nat), .int .u64 (x.ow : Nat), .int .u64 (x.ba : Nat), .int .u64 (x.cp : Nat)] 50) = W11 := ⟨_, rfl⟩
        obtain ⟨q13, hq13⟩ : ∃ q, w10.heap.size = q := ⟨_, rfl⟩
        have b11 : Below w10.heap.size w10 W11 := by rw [← hW11]; exact (Below.refl _ w10).alloc (Nat.le_refl _) _
        have HX11 : Hid (W11.heap[q13]? = some (.cells #[.int .u64 (x.id : Nat), .int .u64 (x.ow : Nat), .int .u64 (x.ba : Nat), .int .u64 (x.cp : Nat)] 50 (0, 0))) := by rw [← hW11, ← hq13]; exact alloc_atK _ _
        have HV10 : Hid (Below W6.heap.size W6 w10) := HVX.out.trans (G10.out.mono HVX.out.size)
        have HV11 : Hid (Below W6.heap.size W6 W11) := HV10.out.trans (b11.mono HV10.out.size)
        have HW11 := hide hW11
        have HQE := hide hq13
        clear hW11 hq13 b11 G10 HV10 HVX a0 a1 a2 a3 a4 al x0 x1 x2 x3 x4 x5 xl
        go_upto_region 16 with fail
        rw [HW11.out, HQE.out]
        clear HW11 HQE
        obtain ⟨-, ⟨a0, a1, a2, a3, a4, al⟩, x0, x1, x2, x3, x4, x5, xl⟩ := HCE.out W11 HV11.out
        have hF2 := (HB6.out W11 HV11.out).2.1.find_ HKS.out.1.1 o.B
        unfold imgV Ac.arr at hF2
        obtain ⟨y, hy⟩ : ∃ x, (byK Ac.id S.acc o.B).getD Ac.zero = x := ⟨_, rfl⟩
        obtain ⟨fy, hfy⟩ : ∃ fx, (byK Ac.id S.acc o.B).isSome = fx := ⟨_, rfl⟩
        rw [hy, hfy] at hF2
        have HF2 := hide hF2
        have HYF := hide (And.intro hy hfy)
        clear hF2 hy hfy
        go_wp2_with fail
        refine HF2.out.mono ?_
        rintro e w12 ⟨rfl, G12⟩
        clear HF2
        obtain ⟨W13, hW13⟩ : ∃ W13, w12.alloc (.cells #[.int .u64 (y.id : Nat), .int .u64 (y.ow : Nat), .int .u64 (y.ba : Nat), .int .u64 (y.cp : Nat)] 50) = W13 := ⟨_, rfl⟩
        obtain ⟨q15, hq15⟩ : ∃ q, w12.heap.size = q := ⟨_, rfl⟩
        have b13 : Below w12.heap.size w12 W13 := by rw [← hW13]; exact (Below.refl _ w12).alloc (Nat.le_refl _) _
        have B13 : Below W11.heap.size W11 W13 := G12.out.trans (b13.mono G12.out.size)
        have HBX : Hid (∀ V, Below W13.heap.size W13 V → V.heap[q13]? = some (.cells #[.int .u64 (x.id : Nat), .int .u64 (x.ow : Nat), .int .u64 (x.ba : Nat), .int .u64 (x.cp : Nat)] 50 (0, 0)) ∧ V.heap[q15]? = some (.cells #[.int .u64 (y.id : Nat), .int .u64 (y.ow : Nat), .int .u64 (y.ba : Nat), .int .u64 (y.cp : Nat)] 50 (0, 0))) := fun V hV => by
          have h1 : W13.heap[q15]? = some (.cells #[.int .u64 (y.id : Nat), .int .u64 (y.ow : Nat), .int .u64 (y.ba : Nat), .int .u64 (y.cp : Nat)] 50 (0, 0)) := by rw [← hW13, ← hq15]; exact alloc_atK _ _
          have h2 := (B13.block _ (block_lt HX11.out)).trans HX11.out
          exact ⟨(hV.block _ (block_lt h2)).trans h2, (hV.block _ (block_lt h1)).trans h1⟩
        have HV13 : Hid (Below W6.heap.size W6 W13) := HV11.out.trans (B13.mono HV11.out.size)
        have HW13 := hide hW13
        have HQE := hide hq15
        clear hW13 hq15 b13 B13 G12 HV11 HX11 a0 a1 a2 a3 a4 al x0 x1 x2 x3 x4 x5 xl
        go_upto_region 17 with fail
        rw [HW13.out, HQE.out]
        clear HW13 HQE
        obtain ⟨⟨n0, n1, n2, n3, n4, nl⟩, ⟨a0, a1, a2, a3, a4, al⟩, x0, x1, x2, x3, x4, x5, xl⟩ := HCE.out W13 HV13.out
        have hqx := (HBX.out W13 (Below.refl _ _)).1
        have hqy := (HBX.out W13 (Below.refl _ _)).2
        have d2 := block_cell hqx 2
        have dl := block_lt hqx
        have e2 := block_cell hqy 2
        have e3 := block_cell hqy 3
        have el := block_lt hqy
        simp at d2 e2 e3
        clear hqx hqy
        have HEND : Hid (∀ V, Below W6.heap.size W6 V → (V.frozen? ⟨q8, 0, none⟩ = false ∧ V.frozen? ⟨q8, 1, none⟩ = false ∧ V.frozen? ⟨q8, 2, none⟩ = false ∧ V.frozen? ⟨q8, 3, none⟩ = false ∧ V.frozen? ⟨q8, 4, none⟩ = false) ∧ Hid (KpR w s (k + 1) p a b (((((V.setCell ⟨q8, 0, none⟩ (.int .u64 (S'.tot : Nat))).setCell ⟨q8, 1, none⟩ (.int .u64 (S'.nx : Nat))).setCell ⟨q8, 2, none⟩ (.slice nao S'.acc.length ncap)).setCell ⟨q8, 3, none⟩ (.slice nho S'.hol.length nhcap)).setCell ⟨q8, 4, none⟩ (.slice njo S'.jl.length njcap)) S' ∧ WasR (((((V.setCell ⟨q8, 0, none⟩ (.int .u64 (S'.tot : Nat))).setCell ⟨q8, 1, none⟩ (.int .u64 (S'.nx : Nat))).setCell ⟨q8, 2, none⟩ (.slice nao S'.acc.length ncap)).setCell ⟨q8, 3, none⟩ (.slice nho S'.hol.length nhcap)).setCell ⟨q8, 4, none⟩ (.slice njo S'.jl.length njcap)) q8 S' nao ncap nho nhcap njo njcap)) := fun V hV => by
          obtain ⟨h1, h2, h3, _⟩ := HB6.out V hV
          obtain ⟨k1, k2⟩ := h3.store h2.box
          exact ⟨⟨block_free h2.box 0, block_free h2.box 1, block_free h2.box 2, block_free h2.box 3, block_free h2.box 4⟩, h1.fq h2.box HQ8.out k2, k1⟩
        have HYC : Hid (y.ba ≤ y.cp ∧ y.cp < 18446744073709551616 ∧ x.ba < 18446744073709551616) := by
          have hyy := HYF.out.1
          have hxx := HXF.out.1
          have hk := HKS.out.1.1
          have key : ∀ z : Nat, ((byK Ac.id S.acc z).getD Ac.zero).ba ≤ ((byK Ac.id S.acc z).getD Ac.zero).cp ∧ ((byK Ac.id S.acc z).getD Ac.zero).cp < 18446744073709551616 := fun z => by
            cases e : byK Ac.id S.acc z with
            | none => exact ⟨Nat.le_refl _, by decide⟩
            | some u =>
              obtain ⟨hm, _⟩ := byK_mem e
              exact ⟨hk.ca u hm, (hk.ia u hm).h3⟩
          have h1 := key o.A
          have h2 := key o.B
          rw [hxx] at h1
          rw [hyy] at h2
          exact ⟨h2.1, h2.2, by omega⟩
        obtain ⟨D, hD⟩ : ∃ D : Nat, y.cp - y.ba = D := ⟨_, rfl⟩
        have hwY : IntKind.u64.wrap ((y.cp : Int) - (y.ba : Int)) = (D : Int) := by have := HYC.out; rw [IntWalk.u64_in _ ⟨by omega, by omega⟩]; omega
        by_cases bK : o.K = 3
        · have gK : (o.K == 3) = true := by simp [bK]
          cases fx
          · skip
            obtain ⟨⟨f0, f1, f2, f3, f4⟩, HE⟩ := HEND.out W13 HV13.out
            clear HEND HB6 HCE HMV HCS
            go_wp2
            go_roundw
            case rel => exact ⟨k + 1, by omega, by go_num, S', nao, ncap, nho, nhcap, njo, njcap, HE.out⟩
            case measure => simp [intOf]; omega
          cases fy
          · skip
            obtain ⟨⟨f0, f1, f2, f3, f4⟩, HE⟩ := HEND.out W13 HV13.out
            clear HEND HB6 HCE HMV HCS
            go_wp2
            go_roundw
            case rel => exact ⟨k + 1, by omega, by go_num, S', nao, ncap, nho, nhcap, njo, njcap, HE.out⟩
            case measure => simp [intOf]; omega
          by_cases bA : o.A = o.B
          · have gA : ((o.A : Int) == (o.B : Int)) = true := by simp [bA]
            obtain ⟨⟨f0, f1, f2, f3, f4⟩, HE⟩ := HEND.out W13 HV13.out
            clear HEND HB6 HCE HMV HCS
            go_wp2
            go_roundw
            case rel => exact ⟨k + 1, by omega, by go_num, S', nao, ncap, nho, nhcap, njo, njcap, HE.out⟩
            case measure => simp [intOf]; omega
          have gA : ((o.A : Int) == (o.B : Int)) = false := by simp; omega
          have gA2 : (o.A == o.B) = false := by simp [bA]
          have gA3 : ((o.A : Int) != (o.B : Int)) = true := by simp; omega
          have gA4 : ¬ (o.A : Int) = (o.B : Int) := by omega
          have gA5 : decide ((o.A : Int) = (o.B : Int)) = false := decide_eq_false (by omega)
          by_cases bC : 0 < o.C
          · have gC : decide ((o.C : Int) > 0) = true := decide_eq_true (by omega)
            have gC2 : decide (0 < o.C) = true := decide_eq_true bC
            by_cases bX : o.C ≤ x.ba
            · have gX : decide ((o.C : Int) ≤ (x.ba : Int)) = true := decide_eq_true (by omega)
              have gX2 : decide (o.C ≤ x.ba) = true := decide_eq_true bX
              by_cases bY : o.C ≤ D
              · have gY : decide ((o.C : Int) ≤ (D : Int)) = true := decide_eq_true (by omega)
                have gY2 : decide (o.C ≤ D) = true := decide_eq_true bY
                have hmv := HMV.out bK
                have hx1 : byK Ac.id S.acc o.A = some x := by
                  obtain ⟨h1, h2⟩ := HXF.out
                  obtain ⟨u, hu⟩ := Option.isSome_iff_exists.1 h2
                  rw [hu] at h1
                  rw [hu, ← h1]
                  rfl
                have hy1 : byK Ac.id S.acc o.B = some y := by
                  obtain ⟨h1, h2⟩ := HYF.out
                  obtain ⟨u, hu⟩ := Option.isSome_iff_exists.1 h2
                  rw [hu] at h1
                  rw [hu, ← h1]
                  rfl
                have hmy := fun d h => moves_yes HKS.out.1.1 hx1 hy1 bA bC bX (by rw [hD]; exact bY) (by have := HKS.out.2; omega) (d := d) (T := S') h
                obtain ⟨d, hcd, hmv⟩ := hmv
                obtain ⟨hd0, -, -⟩ := hmy d hmv
                exact absurd (by omega) hc0
              · have gY : decide ((o.C : Int) ≤ (D : Int)) = false := decide_eq_false (by omega)
                have gY2 : decide (o.C ≤ D) = false := decide_eq_false bY
                obtain ⟨⟨f0, f1, f2, f3, f4⟩, HE⟩ := HEND.out W13 HV13.out
                clear HEND HB6 HCE HMV HCS
                go_wp2
                go_roundw
                case rel => exact ⟨k + 1, by omega, by go_num, S', nao, ncap, nho, nhcap, njo, njcap, HE.out⟩
                case measure => simp [intOf]; omega
            · have gX : decide ((o.C : Int) ≤ (x.ba : Int)) = false := decide_eq_false (by omega)
              have gX2 : decide (o.C ≤ x.ba) = false := decide_eq_false bX
              obtain ⟨⟨f0, f1, f2, f3, f4⟩, HE⟩ := HEND.out W13 HV13.out
              clear HEND HB6 HCE HMV HCS
              go_wp2
              go_roundw
              case rel => exact ⟨k + 1, by omega, by go_num, S', nao, ncap, nho, nhcap, njo, njcap, HE.out⟩
              case measure => simp [intOf]; omega
          · have gC : decide ((o.C : Int) > 0) = false := decide_eq_false (by omega)
            have gC2 : decide (0 < o.C) = false := decide_eq_false bC
            obtain ⟨⟨f0, f1, f2, f3, f4⟩, HE⟩ := HEND.out W13 HV13.out
            clear HEND HB6 HCE HMV HCS
            go_wp2
            go_roundw
            case rel => exact ⟨k + 1, by omega, by go_num, S', nao, ncap, nho, nhcap, njo, njcap, HE.out⟩
            case measure => simp [intOf]; omega
        · have gK : (o.K == 3) = false := by simp [bK]
          obtain ⟨⟨f0, f1, f2, f3, f4⟩, HE⟩ := HEND.out W13 HV13.out
          clear HEND HB6 HCE HMV HCS
          go_wp2
          go_roundw
          case rel => exact ⟨k + 1, by omega, by go_num, S', nao, ncap, nho, nhcap, njo, njcap, HE.out⟩
          case measure => simp [intOf]; omega
    · obtain rfl : k = sn := by omega
      have HE : Hid (Below w.heap.size w wr) := HB.out.1.bel
      clear HB
      go_wp2
      go_ret
      exact ⟨rfl, HE⟩
end Go.Proofs.Yteafdpmblbbpnaa
