import Derived.Test.YteafdpmblbbpnaaLK50
namespace Go.Proofs.Yteafdpmblbbpnaa
open Go.RowKit

def opBox (o : OpR) : Obj := .cells o.arr 35 (0, 0)
def opCells (V : World) (ob : Nat) (o : OpR) : Prop := V.cell? ⟨ob, 0, none⟩ = some (.int .i64 o.K) ∧ V.cell? ⟨ob, 1, none⟩ = some (.int .u64 (o.A : Nat)) ∧ V.cell? ⟨ob, 2, none⟩ = some (.int .u64 (o.B : Nat)) ∧ V.cell? ⟨ob, 3, none⟩ = some (.int .u64 (o.C : Nat)) ∧ V.cell? ⟨ob, 4, none⟩ = some (.int .i64 o.N) ∧ V.cell? ⟨ob, 5, none⟩ = some (.slice o.so o.sn o.sc) ∧ ob < V.heap.size
theorem op_cells {V : World} {ob : Nat} {o : OpR} (h : V.heap[ob]? = some (opBox o)) : opCells V ob o :=
  ⟨block_cell h 0, block_cell h 1, block_cell h 2, block_cell h 3, block_cell h 4, block_cell h 5, block_lt h⟩
theorem Fl.op {V V' : World} (h : Fl V V') {ob : Nat} {o : OpR} (hb : V.heap[ob]? = some (opBox o)) : V'.heap[ob]? = some (opBox o) := h.at_ _ _ _ hb (by decide) (by decide) (by decide)
section
variable {w : World} {p a b p' a' b' m N : Nat} {S S1 : LS}
/-- A step by the ledger with marks. -/
theorem Tw.doesL {Sk : LS} {V : World} {ob : Nat} {o : OpR} (h : Tw w p a b p' a' b' m N S Sk V) (hbx : V.heap[ob]? = some (opBox o)) (hN : N ≤ 100000000000) (hok : S.Ok) {k c : Nat} (hK : o.K = (k : Int)) (h1 : 1 ≤ k) (h6 : k ≤ 6) (ho : o.Ok w.heap.size w) (hS : S.step k o.A o.B o.C o.l = (c, S1)) :
    Calls Try.prog 8 #[.pointer (some ⟨p, 0, none⟩), .agg o.arr] V fun e V' => e = .returned (.int .i64 (c : Nat)) ∧ opCells V' ob o ∧ Hid (Tw w p a b p' a' b' m (N + 48) S1 Sk V' ∧ V'.heap[ob]? = some (opBox o)) := by
  obtain ⟨Z, hZ, hm, hc⟩ := h.l
  have hoV := ho.below h.bel (Nat.le_refl _)
  obtain ⟨bs, off, hsh, hso⟩ := hoV.sh
  have hd := doesM hZ (by omega) hok h1 h6 ho.hA ho.hB ho.hC o.N o.sn o.sc ho.hn hsh (fun h0 => ⟨(hso h0).1, Nat.lt_of_lt_of_le (hso h0).2 h.bel.size⟩) ho.le hS
  rw [← hK] at hd
  refine hd.mono ?_
  rintro e V' ⟨rfl, G⟩
  obtain ⟨Z', ds, g1, g2, g3, g4, g5, _⟩ := G.out.tr
  have hq := g2.fl.op hbx
  have hT := h.ltr hZ g1 g2 (M := N + 48) (by
    rw [g4]
    split
    · omega
    · rw [List.length_append]; omega)
  rw [g3, hm] at hT
  exact ⟨rfl, op_cells hq, hT, hq⟩
/-- The same step by the ledger without. -/
theorem Tw.doesK {Sl : LS} {V : World} {ob : Nat} {o : OpR} (h : Tw w p a b p' a' b' m N Sl S V) (hbx : V.heap[ob]? = some (opBox o)) (hok : S.Ok) {k c : Nat} (hK : o.K = (k : Int)) (h1 : 1 ≤ k) (h6 : k ≤ 6) (ho : o.Ok w.heap.size w) (hS : S.step k o.A o.B o.C o.l = (c, S1)) :
    Calls Try.prog 8 #[.pointer (some ⟨p', 0, none⟩), .agg o.arr] V fun e V' => e = .returned (.int .i64 (c : Nat)) ∧ opCells V' ob o ∧ Hid (Tw w p a b p' a' b' m N Sl S1 V' ∧ V'.heap[ob]? = some (opBox o)) := by
  have hoV := ho.below h.bel (Nat.le_refl _)
  obtain ⟨bs, off, hsh, hso⟩ := hoV.sh
  have hd := doesG h.k hok h1 h6 ho.hA ho.hB ho.hC o.N o.sn o.sc ho.hn hsh (fun h0 => ⟨(hso h0).1, Nat.lt_of_lt_of_le (hso h0).2 h.bel.size⟩) ho.le hS
  rw [← hK] at hd
  refine hd.mono ?_
  rintro e V' ⟨rfl, G⟩
  have hq := (G.out.2.fl h.k).op hbx
  exact ⟨rfl, op_cells hq, h.ktr G.out, hq⟩
end
/-- The step keeps what always holds. -/
theorem step_ok {S T : LS} (h : S.Ok) {k a b c : Nat} {l : List Sh} (ha : a < 18446744073709551616) (hb : b < 18446744073709551616) (hc : c < 18446744073709551616) (hin : ∀ s ∈ l, s.In) {d : Nat} (hS : S.step k a b c l = (d, T)) : T.Ok := by
  by_cases hd : d = 0
  · subst hd
    obtain ⟨es, _, e2, _⟩ := step_rn h ha hb hc hin hS
    exact e2.ok h
  · have := LS.step_no hS hd
    subst this
    exact h
set_option maxRecDepth 10000 in
set_option maxHeartbeats 16000000 in
/-- The law: marks that are set and let go turn nothing. -/
theorem keptW {w : World} {b0 off : Nat} {ao : Option Addr} (n cap : Nat) {l : List Ac} (hn : n = l.length) (hA : Acs w b0 off l) (hao : 0 < n → ao = some ⟨b0, off, none⟩) (hbw : 0 < n → b0 < w.heap.size) (hle : n ≤ 4398046510976) {bs offs : Nat} {so : Option Addr} (sn sc : Nat) (hO : Ops w.heap.size w bs offs sn) (hsle : sn ≤ 1048576) (hso : 0 < sn → so = some ⟨bs, offs, none⟩) (hbs : 0 < sn → bs < w.heap.size) :
    Calls Try.prog 4 #[.slice ao n cap, .slice so sn sc] w fun e w' => e = .returned (.bool true) ∧ Hid (Below w.heap.size w w') := by
  have HST := hide (startedA n cap hn hA hao hbw hle)
  have HST2 : Hid (∀ V, Below w.heap.size w V → Calls Try.prog 6 #[.slice ao n cap] V fun e w' => ∃ (v : Value) (s : Nat), e = .returned (.tuple #[v, .int .u64 (s : Nat), .bool true]) ∧ Hid (StP V l v s w')) := fun V hV => startedA n cap hn (hA.below hV (fun hp => hbw (by omega))) hao (fun hp => Nat.lt_of_lt_of_le (hbw hp) hV.size) hle
  have HIN : Hid (∀ x ∈ l, x.In) := hA.ok
  have HO := hide hO
  have HSO := hide hso
  have HBS := hide hbs
  clear hn hA hao hbw hle hO hso hbs
  go_enter Try.func4, Try.ntmps4
  go_wp2_with fail
  refine HST.out.mono ?_
  rintro e w1 ⟨v, s, rfl, G1⟩
  have HS2 := hide (HST2.out w1 G1.out.1)
  clear HST HST2
  go_upto_region 2 with fail
  go_wp2_with fail
  refine HS2.out.mono ?_
  rintro e w2 ⟨v', s', rfl, G2⟩
  clear HS2
  have hb2 := G1.out.1.trans (G2.out.1.mono G1.out.1.size)
  rcases G1.out.2 with ⟨rfl, hno⟩ | ⟨g1, g2, _, p, a, b, rfl, g4, g5, g6, g7⟩
  · rcases G2.out.2 with ⟨rfl, _⟩ | ⟨k1, k2, _⟩
    · have HE := hide hb2
      clear hb2 G1 G2 hno
      go_wp2
      go_ret
      exact ⟨rfl, HE.out⟩
    · exact absurd ⟨k1, k2⟩ hno
  rcases G2.out.2 with ⟨_, hno⟩ | ⟨_, _, _, p', a', b', rfl, k4, k5, k6, k7⟩
  · exact absurd ⟨g1, g2⟩ hno
  obtain ⟨S0, hS0⟩ : ∃ S, LS0 l = S := ⟨_, rfl⟩
  have hok : S0.Ok := by rw [← hS0]; exact LS0_ok g2 HIN.out g1
  have hlg : LG w1 p a b nilS nilS S0 := by rw [← hS0]; exact g4.lg g2.dis rfl
  have hkg : LG w2 p' a' b' nilS nilS S0 := by rw [← hS0]; exact k4.lg g2.dis rfl
  have HT0 : Hid (Tw w p a b p' a' b' 0 0 S0 S0 w2) := by
    have h1 := hlg.lt
    exact ⟨hb2, ⟨⟨nilS, nilS, [], []⟩, ⟨hlg.kept G2.out.1, World.ownsRow_nil _ _ _ _, ⟨[], World.ownsRow_nil _ _ _ _, fun i d v hi => by simp at hi⟩, g5, g6, g7⟩, rfl, Nat.le_refl _⟩, hkg, by omega, by omega, by omega, by omega, by omega, by omega, by omega, by omega, by omega, by have := G1.out.1.size; omega, by have := G1.out.1.size; omega, by have := G1.out.1.size; omega⟩
  have HOK0 := hide hok
  clear hb2 G1 G2 g1 g2 g4 g5 g6 g7 k4 k5 k6 k7 hS0 hok hlg hkg HIN
  go_upto_region 6 with fail
  go_wp2
  go_loopw [11, 12] (fun om i wr => ∃ k m : Nat, k ≤ sn ∧ m ≤ 16 ∧ i = .int .i64 k ∧ om = .int .i64 (m : Nat) ∧ ∃ S, Hid (Tw w p a b p' a' b' m (48 * k) S S wr ∧ S.Ok)) (fun _ i _ => sn - (intOf i).toNat)
  case atStart => exact ⟨0, 0, by omega, by omega, rfl, rfl, S0, HT0.out, HOK0.out⟩
  case round =>
    clear HT0 HOK0
    obtain ⟨k, m, hk, hm, rfl, rfl, S, HB⟩ := hrel
    by_cases hlt : k < sn
    · obtain ⟨o, ho0, hoo⟩ := HO.out k hlt
      have ho : ∀ (j : Nat) (v : Value), o.arr[j]? = some v → wr.cell? ⟨bs, offs + k * 6 + j, none⟩ = some v := fun j v hj => (HB.out.1.bel.cell (p := ⟨bs, _, none⟩) (HBS.out (by omega))).trans (ho0 j v hj)
      obtain rfl := HSO.out (by omega)
      have c0 := ho 0 (.int .i64 o.K) (by simp [OpR.arr])
      have c1 := ho 1 (.int .u64 (o.A : Nat)) (by simp [OpR.arr])
      have c2 := ho 2 (.int .u64 (o.B : Nat)) (by simp [OpR.arr])
      have c3 := ho 3 (.int .u64 (o.C : Nat)) (by simp [OpR.arr])
      have c4 := ho 4 (.int .i64 o.N) (by simp [OpR.arr])
      have c5 := ho 5 (.slice o.so o.sn o.sc) (by simp [OpR.arr])
      rw [Nat.add_zero] at c0
      have cl : bs < wr.heap.size := Nat.lt_of_lt_of_le (HBS.out (by omega)) HB.out.1.bel.size
      obtain ⟨W3, hW3⟩ : ∃ W3, wr.alloc (.cells o.arr 35) = W3 := ⟨_, rfl⟩
      have b3 : Below wr.heap.size wr W3 := by rw [← hW3]; exact (Below.refl _ wr).alloc (Nat.le_refl _) _
      have hbx : W3.heap[wr.heap.size]? = some (opBox o) := by rw [← hW3]; exact alloc_atK _ _
      have HB3 : Hid (Tw w p a b p' a' b' m (48 * k) S S W3 ∧ S.Ok ∧ W3.heap[wr.heap.size]? = some (opBox o)) := ⟨HB.out.1.kept b3, HB.out.2, hbx⟩
      have HOO := hide hoo
      have HW3 := hide hW3
      clear hW3 b3 ho ho0 hoo HB hbx
      unfold OpR.arr at HW3
      go_upto_region 10 with fail
      rw [HW3.out]
      clear HW3 c0 c1 c2 c3 c4 c5 cl
      generalize wr.heap.size = ob at *
      obtain ⟨x0, x1, x2, x3, x4, x5, xl⟩ := op_cells HB3.out.2.2
      by_cases k1 : 1 ≤ o.K ∧ o.K ≤ 6
      · obtain ⟨kk, hkk⟩ : ∃ kk : Nat, o.K = (kk : Int) := Int.eq_ofNat_of_zero_le (by omega)
        obtain ⟨cS, hcS⟩ : ∃ cS, S.step kk o.A o.B o.C o.l = cS := ⟨_, rfl⟩
        obtain ⟨c, S1⟩ := cS
        have d1 : decide (o.K ≥ 1) = true := decide_eq_true k1.1
        have d2 : decide (o.K ≤ 6) = true := decide_eq_true k1.2
        have HOK1 : Hid (S1.Ok) := by
          obtain ⟨_, _, hsh, _⟩ := HOO.out.sh
          exact step_ok HB3.out.2.1 HOO.out.hA HOO.out.hB HOO.out.hC hsh.ok hcS
        have h1k : 1 ≤ kk := by omega
        have h6k : kk ≤ 6 := by omega
        have DL : Hid (∀ Sk V, Hid (Tw w p a b p' a' b' m (48 * k) S Sk V ∧ V.heap[ob]? = some (opBox o)) → Calls Try.prog 8 #[.pointer (some ⟨p, 0, none⟩), .agg #[.int .i64 o.K, .int .u64 (o.A : Nat), .int .u64 (o.B : Nat), .int .u64 (o.C : Nat), .int .i64 o.N, .slice o.so o.sn o.sc]] V fun e V' => e = .returned (.int .i64 (c : Nat)) ∧ opCells V' ob o ∧ Hid (Tw w p a b p' a' b' m (48 * k + 48) S1 Sk V' ∧ V'.heap[ob]? = some (opBox o))) := fun Sk V hV => hV.out.1.doesL hV.out.2 (by omega) HB3.out.2.1 hkk h1k h6k HOO.out hcS
        have DK : Hid (∀ Sl M V, Hid (Tw w p a b p' a' b' m M Sl S V ∧ V.heap[ob]? = some (opBox o)) → Calls Try.prog 8 #[.pointer (some ⟨p', 0, none⟩), .agg #[.int .i64 o.K, .int .u64 (o.A : Nat), .int .u64 (o.B : Nat), .int .u64 (o.C : Nat), .int .i64 o.N, .slice o.so o.sn o.sc]] V fun e V' => e = .returned (.int .i64 (c : Nat)) ∧ opCells V' ob o ∧ Hid (Tw w p a b p' a' b' m M Sl S1 V' ∧ V'.heap[ob]? = some (opBox o))) := fun Sl M V hV => hV.out.1.doesK hV.out.2 HB3.out.2.1 hkk h1k h6k HOO.out hcS
        have H0 : Hid (Tw w p a b p' a' b' m (48 * k) S S W3.drew ∧ W3.drew.heap[ob]? = some (opBox o)) := ⟨HB3.out.1.kept (Below.refl _ _).drew, HB3.out.2.2⟩
        have HL0 := hide (DL.out _ _ H0)
        have HK0 := hide (DK.out _ _ _ H0)
        clear hcS hkk h1k h6k k1 HB3 HOO H0
        unfold opCells at DL DK HL0 HK0
        generalize (o.A : Int) = XA at *
        generalize (o.B : Int) = XB at *
        generalize (o.C : Int) = XC at *
        generalize o.K = KI at *
        go_upto_region 11 with fail
        go_region_held (fun V => V.cell? ⟨ob, 0, none⟩ = some (.int .i64 KI) ∧ V.cell? ⟨ob, 1, none⟩ = some (.int .u64 XA) ∧ V.cell? ⟨ob, 2, none⟩ = some (.int .u64 XB) ∧ V.cell? ⟨ob, 3, none⟩ = some (.int .u64 XC) ∧ V.cell? ⟨ob, 4, none⟩ = some (.int .i64 o.N) ∧ V.cell? ⟨ob, 5, none⟩ = some (.slice o.so o.sn o.sc) ∧ ob < V.heap.size) (go_keep)
          (first | (go_at_call 8; refine HK1.out.mono ?_; rintro e V2 ⟨rfl, hc2, GF⟩) | (go_at_call 8; refine HL1.out.mono ?_; rintro e V2 ⟨rfl, hc2, GF⟩) | (go_at_call 8; refine HL0.out.mono ?_; rintro e V1 ⟨rfl, hc1, G1⟩; have HK1 := hide (DK.out _ _ _ G1)) | (go_at_call 8; refine HK0.out.mono ?_; rintro e V1 ⟨rfl, hc1, G1⟩; have HL1 := hide (DL.out _ _ G1)))
        all_goals go_wp2
        all_goals go_roundw
        all_goals first
          | (case rel => exact ⟨k + 1, m, by omega, hm, by go_num, rfl, S1, GF.out.1, HOK1.out⟩)
          | (case measure => simp [intOf]; omega)
          | skip
      · have HT := hide (HB3.out.1.le (M := 48 * (k + 1)) (by omega))
        have HSK := hide HB3.out.2.1
        obtain ⟨Z, hZ, rfl, hzc⟩ := HB3.out.1.l
        have HMK := hide (markM hZ hm)
        have HKE := hide (keepM hZ hm o.N)
        have HLT : Hid (∀ V' Z', LM V' w.heap.size p a b Z' S → Tr W3 V' p a b Z Z' → Z'.cs.length ≤ 48 * (k + 1) → Tw w p a b p' a' b' Z'.ms.length (48 * (k + 1)) S S V') := fun V' Z' h1 h2 h3 => HB3.out.1.ltr hZ h1 h2 h3
        have HZC : Hid (Z.cs.length ≤ 48 * (k + 1)) := hide (by omega)
        have HBX : Hid (∀ V' Z', Tr W3 V' p a b Z Z' → V'.cell? ⟨ob, 4, none⟩ = some (.int .i64 o.N) ∧ ob < V'.heap.size) := fun V' Z' h2 => by
          have h3 := op_cells (h2.fl.op HB3.out.2.2)
          exact ⟨h3.2.2.2.2.1, h3.2.2.2.2.2.2⟩
        generalize (o.A : Int) = XA at *
        generalize (o.B : Int) = XB at *
        generalize (o.C : Int) = XC at *
        generalize o.K = KI at *
        generalize o.N = NI at *
        clear hZ hzc HB3 HOO
        by_cases q1 : KI ≥ 1
        · have d1 : decide (KI ≥ 1) = true := decide_eq_true q1
          have d2 : decide (KI ≤ 6) = false := decide_eq_false (by omega)
          by_cases k7 : KI = 7
          · have e7 : (KI == 7) = true := by simp [k7]
            clear k1 q1 k7 HKE
            go_upto_region 14 with fail
            go_wp2_with fail
            refine HMK.out.mono ?_
            rintro e w4 ⟨n1, c1, rfl, GM⟩
            have hcase : (n1 = 0 ∧ c1 = 50 ∧ Z.ms.length = 16 ∧ w4 = W3) ∨ (n1 = (Z.ms.length : Int) + 1 ∧ c1 = 0 ∧ Z.ms.length < 16 ∧ Hid (Tw w p a b p' a' b' (Z.ms.length + 1) (48 * (k + 1)) S S w4)) := by
              rcases GM.out with h | ⟨h1, h2, h3, Z', z1, z2, z3, z4⟩
              · exact .inl h
              · have := HLT.out w4 Z' z1 z2 (by rw [z4]; exact HZC.out)
                rw [z3, List.length_append] at this
                exact .inr ⟨h1, h2, h3, this⟩
            clear GM HMK HLT x0 x1 x2 x3 x4 x5 xl
            rcases hcase with ⟨rfl, rfl, h16, rfl⟩ | ⟨rfl, rfl, h16, HT2⟩
            · have g1 : decide ((Z.ms.length : Int) < 16) = false := decide_eq_false (by omega)
              generalize hL : Z.ms.length = L at *
              clear hL
              go_wp2
              go_roundw
              case rel => exact ⟨k + 1, L, by omega, hm, by go_num, by rw [h16]; rfl, S, HT.out, HSK.out⟩
              case measure => simp [intOf]; omega
            · have g1 : decide ((Z.ms.length : Int) < 16) = true := decide_eq_true (by omega)
              clear HT
              generalize hL : Z.ms.length = L at *
              clear hL
              go_wp2
              go_roundw
              case rel => exact ⟨k + 1, L + 1, by omega, by omega, by go_num, by go_num, S, HT2.out, HSK.out⟩
              case measure => simp [intOf]; omega
          · have e7 : (KI == 7) = false := by simp [k7]
            by_cases k9 : KI = 9
            · have e9 : (KI == 9) = true := by simp [k9]
              clear k1 q1 k7 k9 HMK
              by_cases hg : 1 ≤ NI ∧ NI ≤ (Z.ms.length : Int)
              · obtain ⟨kq, hkq⟩ : ∃ kq : Nat, NI = (kq : Int) := Int.eq_ofNat_of_zero_le (by omega)
                have q1 : decide (NI ≥ 1) = true := decide_eq_true hg.1
                have q2 : decide (NI ≤ (Z.ms.length : Int)) = true := decide_eq_true hg.2
                have HFIN : Hid (∀ w' c, KeepP W3 w' w.heap.size p a b Z S NI c → c = 0 ∧ (w'.cell? ⟨ob, 4, none⟩ = some (.int .i64 NI) ∧ ob < w'.heap.size) ∧ Hid (Tw w p a b p' a' b' (kq - 1) (48 * (k + 1)) S S w')) := fun w' c hkp => by
                  rcases hkp with ⟨_, h2, _⟩ | ⟨h1, k2, h2, h3, h4, Z', z1, z2, z3, z4⟩
                  · omega
                  · obtain rfl : k2 = kq := by omega
                    have hlen : Z'.ms.length = k2 - 1 := by rw [z3, List.length_take]; omega
                    have := HLT.out w' Z' z1 z2 (by
                      rw [z4]
                      split
                      · simp
                      · exact HZC.out)
                    rw [hlen] at this
                    exact ⟨h1, HBX.out w' Z' z2, this⟩
                have hq16 : kq - 1 ≤ 16 := by omega
                have hNq : NI - 1 = ((kq - 1 : Nat) : Int) := by omega
                have hwN : IntKind.i64.wrap (NI - 1) = ((kq - 1 : Nat) : Int) := by rw [IntWalk.i64_in _ ⟨by omega, by omega⟩]; exact hNq
                generalize kq - 1 = M at *
                clear hkq HLT HT HZC hNq hg HBX
                go_upto_region 22 with fail
                go_upto_region 23 with fail
                go_wp2_with fail
                refine HKE.out.mono ?_
                rintro e w4 ⟨c1, rfl, GK⟩
                obtain ⟨rfl, ⟨y4, yl⟩, HT2⟩ := HFIN.out _ _ GK.out
                clear HKE GK HFIN x0 x1 x2 x3 x4 x5 xl
                go_wp2
                go_roundw
                case rel => exact ⟨k + 1, M, by omega, hq16, by go_num, rfl, S, HT2.out, HSK.out⟩
                case measure => simp [intOf]; omega
              · have HFIN : Hid (∀ w' c, KeepP W3 w' w.heap.size p a b Z S NI c → c = 50 ∧ w' = W3) := fun w' c hkp => by
                  rcases hkp with ⟨h1, _, h3⟩ | ⟨_, k2, h2, h3, h4, _⟩
                  · exact ⟨h1, h3⟩
                  · omega
                clear HLT HZC
                by_cases q1 : NI ≥ 1
                · have d3 : decide (NI ≥ 1) = true := decide_eq_true q1
                  have d4 : decide (NI ≤ (Z.ms.length : Int)) = false := decide_eq_false (by omega)
                  go_upto_region 23 with fail
                  go_wp2_with fail
                  refine HKE.out.mono ?_
                  rintro e w4 ⟨c1, rfl, GK⟩
                  obtain ⟨rfl, rfl⟩ := HFIN.out _ _ GK.out
                  clear HKE GK HFIN hg
                  go_wp2
                  go_roundw
                  case rel => exact ⟨k + 1, _, by omega, hm, by go_num, rfl, S, HT.out, HSK.out⟩
                  case measure => simp [intOf]; omega
                · have d3 : decide (NI ≥ 1) = false := decide_eq_false q1
                  go_upto_region 23 with fail
                  go_wp2_with fail
                  refine HKE.out.mono ?_
                  rintro e w4 ⟨c1, rfl, GK⟩
                  obtain ⟨rfl, rfl⟩ := HFIN.out _ _ GK.out
                  clear HKE GK HFIN hg
                  go_wp2
                  go_roundw
                  case rel => exact ⟨k + 1, _, by omega, hm, by go_num, rfl, S, HT.out, HSK.out⟩
                  case measure => simp [intOf]; omega
            · have e9 : (KI == 9) = false := by simp [k9]
              clear HMK HKE HLT HZC k1 q1 k7 k9
              go_wp2
              go_roundw
              case rel => exact ⟨k + 1, _, by omega, hm, by go_num, rfl, S, HT.out, HSK.out⟩
              case measure => simp [intOf]; omega
        · have d1 : decide (KI ≥ 1) = false := decide_eq_false q1
          have e7 : (KI == 7) = false := by simp; omega
          have e9 : (KI == 9) = false := by simp; omega
          clear HMK HKE HLT HZC k1 q1
          go_wp2
          go_roundw
          case rel => exact ⟨k + 1, _, by omega, hm, by go_num, rfl, S, HT.out, HSK.out⟩
          case measure => simp [intOf]; omega
    · obtain rfl : k = sn := by omega
      obtain ⟨Z, hZ, _⟩ := HB.out.1.l
      have HI1 := hide (imageG hZ.lg HB.out.2)
      clear hZ HO HSO HBS
      go_wp2_with fail
      refine HI1.out.mono ?_
      rintro e w4 ⟨ao4, cp4, ho4, hcp4, jo4, jcp4, rfl, G4⟩
      have HI2 := hide (imageG (HB.out.1.k.kept G4.out.2) HB.out.2)
      clear HI1
      go_wp2_with fail
      refine HI2.out.mono ?_
      rintro e w5 ⟨ao5, cp5, ho5, hcp5, jo5, jcp5, rfl, G5⟩
      have HSM : Hid (Calls Try.prog 13 #[.agg #[.int .u64 (S.tot : Nat), .int .u64 (S.nx : Nat), .slice ao4 S.acc.length cp4, .slice ho4 S.hol.length hcp4, .slice jo4 S.jl.length jcp4], .agg #[.int .u64 (S.tot : Nat), .int .u64 (S.nx : Nat), .slice ao5 S.acc.length cp5, .slice ho5 S.hol.length hcp5, .slice jo5 S.jl.length jcp5]] w5 fun e w' => e = .returned (.bool true) ∧ Hid (Below w5.heap.size w5 w')) := by
        have hok := HB.out.2
        obtain ⟨g1, g2, g3, hj⟩ := imj_of G4.out.1 hok.ia hok.ih (LS.jl_in hok)
        obtain ⟨k1, k2, k3, hj'⟩ := imj_of G5.out.1 hok.ia hok.ih (LS.jl_in hok)
        exact sameImageI (hj.below G5.out.2) hj' hok.la hok.lh (by rw [LS.jl_len]; omega) _ _ _ _ _ _ _ _
      have HBL : Hid (Below w.heap.size w w5) := by
        have h1 := HB.out.1.bel
        have h2 := h1.trans (G4.out.2.mono h1.size)
        exact h2.trans (G5.out.2.mono h2.size)
      clear HI2 G4 G5 HB
      go_wp2_with fail
      refine HSM.out.mono ?_
      rintro e w6 ⟨rfl, G6⟩
      have HE : Hid (Below w.heap.size w w6) := HBL.out.trans (G6.out.mono HBL.out.size)
      clear HSM G6 HBL
      go_wp2
      go_ret
      exact ⟨rfl, HE⟩
end Go.Proofs.Yteafdpmblbbpnaa
