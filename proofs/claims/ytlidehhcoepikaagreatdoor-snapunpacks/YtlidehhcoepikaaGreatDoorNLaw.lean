import Derived.Test.YtlidehhcoepikaaGreatDoorM51
namespace Go.Proofs.YtlidehhcoepikaaGreatDoor
open Go.RowKit Crc

set_option maxRecDepth 10000 in
set_option maxHeartbeats 6400000 in
theorem su_walk {lim : Nat} {w : World} {ao : Option Addr} {n cap : Nat} {B : List Nat} (hg : ErrT w) (h : Shows lim w ao n cap B) (hlw : lim ≤ w.heap.size) :
    Calls Tryz.prog 4 #[.slice ao n cap] w fun e w' => e = .returned (.bool true) ∧ Below w.heap.size w w' := by
  have HS : Hid (Shows w.heap.size w ao n cap B) := by
    obtain ⟨p1, p2, p3, p4, b, off, p5, p6, p7⟩ := h
    exact ⟨p1, p2, p3, p4, b, off, p5, fun e => Nat.lt_of_lt_of_le (p6 e) hlw, p7⟩
  have HG := hide hg
  clear h hg hlw
  by_cases hbig : 48000 < n
  · go_enter Tryz.func4, Tryz.ntmps4
    go_wp2
    go_ret
    exact ⟨rfl, Below.refl _ w⟩
  · have HT := hide (twin_sh HS.out (Nat.le_refl _))
    have UA : Hid (∀ {T : World}, ErrT T → ∀ {lm : Nat} {a : Option Addr} {k m : Nat}, Shows lm T a k m B → lm ≤ T.heap.size → Calls Tryz.prog 13 #[.slice a k m] T (UnP B T)) := fun hg _ _ _ _ h hl => unpack_any hg h hl
    have UR : Hid (∀ {T : World} {lm : Nat} {a : Option Addr} {k m : Nat}, Shows lm T a k m B → lm ≤ T.heap.size → Calls Tryz.prog 14 #[.slice a k m] T (RuP B T)) := fun h hl => runpack_any h hl
    have AU : Hid (∀ {m : Mi} {lo hi : Nat} {W0 W : World}, m.Own lo W0 → m.val = unV B → ((unE B).2 ≠ 0 → m = Mi.zero) → W0.heap.size = hi → m.Own lo W → lo ≤ hi → hi ≤ W.heap.size → Calls Tryz.prog 17 #[.agg #[.int .u64 (m.slot : Int), .int .u64 (m.now : Int), .int .u64 (m.tot : Int), .int .u64 (m.nx : Int), .slice m.ao m.an m.ac, .slice m.ho m.hn m.hc, .slice m.jo m.jn m.jc, .slice m.dO m.dn m.dc, .int .u64 (m.ends : Int), .slice m.so m.sn m.sc]] W fun e w' => e = .returned (.bool true) ∧ Hid (OutR lo hi W w' ∧ ((unE B).2 ≠ 0 → OutR lo lo W w'))) := fun h0 hv hz hhi h hlo hs => apart_un h0 hv hz hhi h hlo hs
    have SM : Hid (∀ {m : Mi} {lo : Nat} {W : World}, m.Own lo W → m.val = unV B → m.small) := fun h hv => (Mi.fine h hv).1
    unfold UnP at UA
    unfold RuP at UR
    generalize unE B = ue at UA UR AU
    generalize unV B = uv at UA UR AU SM
    obtain ⟨LU, pu⟩ := ue
    simp only at UA UR AU
    go_enter Tryz.func4, Tryz.ntmps4
    go_wp2_with fail
    refine HT.out.mono ?_
    rintro e w1 ⟨rfl, T1, bb1⟩
    have HT1 := hide T1
    have B1 := hide bb1
    have hgc : w.heap.size < w1.heap.size := owned_lt2 T1.2
    have UN1 := hide (UA.out (errT_belowN HG.out bb1) (T1.shows HS.out.2.2.2.1 HS.out.2.2.1) (Nat.le_refl _))
    clear T1 bb1 HT
    go_wp2_with fail
    refine UN1.out.mono ?_
    rintro e w2 ⟨m1, v1, rfl, G1, Z1⟩
    obtain ⟨W2, hW2⟩ : ∃ W2, w2.alloc (.cells #[.int .u64 (m1.slot : Int), .int .u64 (m1.now : Int), .int .u64 (m1.tot : Int), .int .u64 (m1.nx : Int), .slice m1.ao m1.an m1.ac, .slice m1.ho m1.hn m1.hc, .slice m1.jo m1.jn m1.jc, .slice m1.dO m1.dn m1.dc, .int .u64 (m1.ends : Int), .slice m1.so m1.sn m1.sc] 33) = W2 := ⟨_, rfl⟩
    have b2 : Below w2.heap.size w2 W2 := by rw [← hW2]; exact (Below.refl _ w2).alloc (Nat.le_refl _) _
    have s2 : W2.heap.size = w2.heap.size + 1 := by rw [← hW2]; simp
    have q2 : W2.heap[w2.heap.size]? = some (.cells m1.cells 33 (0, 0)) := by rw [← hW2]; exact alloc_atN _ _
    have BW2 := hide (G1.out.2.2.2.trans (b2.mono G1.out.2.2.2.size))
    have B2 := hide (B1.out.trans (BW2.out.mono B1.out.size))
    have T2 := hide (HT1.out.next (below_none BW2.out) (by simp))
    have UN2 := hide (UA.out (errT_belowN HG.out B2.out) (T2.out.shows HS.out.2.2.2.1 HS.out.2.2.1) (Nat.le_refl _))
    have hs12 : w1.heap.size ≤ w2.heap.size := G1.out.2.2.2.size
    have HW2 := hide hW2
    have Q2 := hide (And.intro b2 (And.intro s2 q2))
    clear b2 s2 q2 hW2 UN1 BW2 HT1
    go_wp2_with fail
    rw [HW2.out]
    refine UN2.out.mono ?_
    rintro e w3 ⟨m2, v2, rfl, G2, Z2⟩
    obtain ⟨W3, hW3⟩ : ∃ W3, w3.alloc (.cells #[.int .u64 (m2.slot : Int), .int .u64 (m2.now : Int), .int .u64 (m2.tot : Int), .int .u64 (m2.nx : Int), .slice m2.ao m2.an m2.ac, .slice m2.ho m2.hn m2.hc, .slice m2.jo m2.jn m2.jc, .slice m2.dO m2.dn m2.dc, .int .u64 (m2.ends : Int), .slice m2.so m2.sn m2.sc] 33) = W3 := ⟨_, rfl⟩
    have b3 : Below w3.heap.size w3 W3 := by rw [← hW3]; exact (Below.refl _ w3).alloc (Nat.le_refl _) _
    have s3 : W3.heap.size = w3.heap.size + 1 := by rw [← hW3]; simp
    have q3 : W3.heap[w3.heap.size]? = some (.cells m2.cells 33 (0, 0)) := by rw [← hW3]; exact alloc_atN _ _
    have BW3 := hide (G2.out.2.2.2.trans (b3.mono G2.out.2.2.2.size))
    have B3 := hide (B2.out.trans (BW3.out.mono B2.out.size))
    have T3 := hide (T2.out.next (below_none BW3.out) (by simp))
    have UN3 := hide (UR.out (showsU HS.out B3.out) (Nat.le_refl _))
    have hs23 : W2.heap.size ≤ w3.heap.size := G2.out.2.2.2.size
    have HW3 := hide hW3
    have Q3 := hide (And.intro b3 (And.intro s3 q3))
    clear b3 s3 q3 hW3 UN2 T2 HW2
    go_wp2_with fail
    rw [HW3.out]
    refine UN3.out.mono ?_
    rintro e w4 ⟨m3, a4, k4, rfl, G3⟩
    obtain ⟨W4, hW4⟩ : ∃ W4, (w4.alloc (.cells #[.int .u64 (m3.slot : Int), .int .u64 (m3.now : Int), .int .u64 (m3.tot : Int), .int .u64 (m3.nx : Int), .slice m3.ao m3.an m3.ac, .slice m3.ho m3.hn m3.hc, .slice m3.jo m3.jn m3.jc, .slice m3.dO m3.dn m3.dc, .int .u64 (m3.ends : Int), .slice m3.so m3.sn m3.sc] 33)).alloc (.cells #[.slice a4 LU.length k4, .int .i64 pu] 43) = W4 := ⟨_, rfl⟩
    have b4 : Below w4.heap.size w4 W4 := by rw [← hW4]; exact ((Below.refl _ w4).alloc (Nat.le_refl _) _).alloc (by simp) _
    have q8 : W4.heap[w4.heap.size]? = some (.cells m3.cells 33 (0, 0)) := by rw [← hW4]; exact ((World.grownBy_alloc _ _ none).block _ (by simp) (by simp)).trans (alloc_atN _ _)
    have q9 : W4.heap[w4.heap.size + 1]? = some (.cells #[.slice a4 LU.length k4, .int .i64 pu] 43 (0, 0)) := by
      rw [← hW4]
      have e : w4.heap.size + 1 = (w4.alloc (.cells #[.int .u64 (m3.slot : Int), .int .u64 (m3.now : Int), .int .u64 (m3.tot : Int), .int .u64 (m3.nx : Int), .slice m3.ao m3.an m3.ac, .slice m3.ho m3.hn m3.hc, .slice m3.jo m3.jn m3.jc, .slice m3.dO m3.dn m3.dc, .int .u64 (m3.ends : Int), .slice m3.so m3.sn m3.sc] 33)).heap.size := by simp
      rw [e]
      exact alloc_atN _ _
    have hs34 : W3.heap.size ≤ w4.heap.size := G3.out.2.2.2.size
    obtain ⟨b2, s2, q2⟩ := Q2.out
    obtain ⟨b3, s3, q3⟩ := Q3.out
    have c3' : Below W3.heap.size W3 W4 := G3.out.2.2.2.trans (b4.mono G3.out.2.2.2.size)
    have c3 : Below w3.heap.size w3 W4 := b3.trans (c3'.mono b3.size)
    have c2' : Below W2.heap.size W2 W4 := G2.out.2.2.2.trans (c3.mono G2.out.2.2.2.size)
    have c2 : Below w2.heap.size w2 W4 := b2.trans (c2'.mono b2.size)
    have LX : Hid (Lx w w3.heap.size W2.heap.size W3.heap.size w4.heap.size m2 m3 a4 k4 LU.length pu W4) := ⟨B3.out.trans (c3'.mono B3.out.size), (c3'.block _ (by omega)).trans q3, q8, q9, G2.out.1.below c3, G3.out.1.below b4⟩
    have LY : Hid (Ly w2.heap.size w1.heap.size m1 W4) := ⟨(c2'.block _ (by omega)).trans q2, G1.out.1.below c2⟩
    have E1 : Hid (ErrC' W4 v1 LU pu) := G1.out.2.2.1.imp id (fun ⟨a, b⟩ => ⟨(Chain.below c2 a).wide c2.size, b⟩)
    have F4 : Hid (∃ b off, FV W4.heap.size W4 a4 LU b off) := by
      obtain ⟨b, off, hf⟩ := G3.out.2.2.1
      exact ⟨b, off, (hf.below b4).wide b4.size⟩
    have T4 := hide (T3.out.next (below_none c3') (by simp))
    have IN : Hid (w.heap.size < w1.heap.size ∧ w1.heap.size ≤ w2.heap.size ∧ W2.heap.size = w2.heap.size + 1 ∧ W2.heap.size ≤ w3.heap.size ∧ W3.heap.size = w3.heap.size + 1 ∧ W3.heap.size ≤ w4.heap.size) := ⟨hgc, hs12, s2, hs23, s3, hs34⟩
    have V1 := hide G1.out.2.1
    have V2 := hide G2.out.2.1
    have V3 := hide G3.out.2.1
    have AP1 : Hid (∀ W, m1.Own w1.heap.size W → w2.heap.size ≤ W.heap.size → Calls Tryz.prog 17 #[.agg #[.int .u64 (m1.slot : Int), .int .u64 (m1.now : Int), .int .u64 (m1.tot : Int), .int .u64 (m1.nx : Int), .slice m1.ao m1.an m1.ac, .slice m1.ho m1.hn m1.hc, .slice m1.jo m1.jn m1.jc, .slice m1.dO m1.dn m1.dc, .int .u64 (m1.ends : Int), .slice m1.so m1.sn m1.sc]] W fun e w' => e = .returned (.bool true) ∧ Hid (OutR w1.heap.size w2.heap.size W w' ∧ (pu ≠ 0 → OutR w1.heap.size w1.heap.size W w'))) := fun W h hs => AU.out G1.out.1 G1.out.2.1 Z1.out rfl h hs12 hs
    have AP2 : Hid (∀ W, m2.Own W2.heap.size W → w3.heap.size ≤ W.heap.size → Calls Tryz.prog 17 #[.agg #[.int .u64 (m2.slot : Int), .int .u64 (m2.now : Int), .int .u64 (m2.tot : Int), .int .u64 (m2.nx : Int), .slice m2.ao m2.an m2.ac, .slice m2.ho m2.hn m2.hc, .slice m2.jo m2.jn m2.jc, .slice m2.dO m2.dn m2.dc, .int .u64 (m2.ends : Int), .slice m2.so m2.sn m2.sc]] W fun e w' => e = .returned (.bool true) ∧ Hid (OutR W2.heap.size w3.heap.size W w' ∧ (pu ≠ 0 → OutR W2.heap.size W2.heap.size W w'))) := fun W h hs => AU.out G2.out.1 G2.out.2.1 Z2.out rfl h hs23 hs
    have LUN : Hid (pu = 0 → LU = []) := fun e => by
      rcases E1.out with ⟨-, e2, -⟩ | ⟨-, -, -, e4⟩
      · exact e2
      · exact absurd e e4
    have SI : Hid (∀ {ma mb : Mi} {la lb : Nat} {W : World}, ma.Own la W → mb.Own lb W → ma.val = uv → mb.val = uv → Calls Tryz.prog 15 #[.agg #[.int .u64 (ma.slot : Int), .int .u64 (ma.now : Int), .int .u64 (ma.tot : Int), .int .u64 (ma.nx : Int), .slice ma.ao ma.an ma.ac, .slice ma.ho ma.hn ma.hc, .slice ma.jo ma.jn ma.jc, .slice ma.dO ma.dn ma.dc, .int .u64 (ma.ends : Int), .slice ma.so ma.sn ma.sc], .agg #[.int .u64 (mb.slot : Int), .int .u64 (mb.now : Int), .int .u64 (mb.tot : Int), .int .u64 (mb.nx : Int), .slice mb.ao mb.an mb.ac, .slice mb.ho mb.hn mb.hc, .slice mb.jo mb.jn mb.jc, .slice mb.dO mb.dn mb.dc, .int .u64 (mb.ends : Int), .slice mb.so mb.sn mb.sc]] W fun e w' => e = .returned (.bool true) ∧ Hid (Below W.heap.size W w')) := fun h1 h2 e1 e2 => sameImage_any h1 h2 (e1.trans e2.symm) (SM.out h1 e1)
    have IS1 : Hid (Calls Tryz.prog 9 #[v1, .agg #[.slice a4 LU.length k4, .int .i64 pu]] W4 fun e w' => e = .returned (.bool true) ∧ Hid (Below W4.heap.size W4 w')) := by
      obtain ⟨b, off, hf⟩ := F4.out
      exact is_any LU.length k4 rfl E1.out hf
    have HW4 := hide hW4
    have QS : Hid (∀ {W W' : World}, Lx w w3.heap.size W2.heap.size W3.heap.size w4.heap.size m2 m3 a4 k4 LU.length pu W → Below W.heap.size W W' → Lx w w3.heap.size W2.heap.size W3.heap.size w4.heap.size m2 m3 a4 k4 LU.length pu W') := fun h hb => h.step (outR_below (lo := w.heap.size) hb) (Nat.le_refl _) (by omega) (by omega) (by omega) (by omega)
    have QY : Hid (∀ {W W' : World}, Ly w2.heap.size w1.heap.size m1 W → Below W.heap.size W W' → Ly w2.heap.size w1.heap.size m1 W') := fun h hb => h.step (outR_below (lo := w.heap.size) hb) (by omega) (by omega)
    clear hW4 b4 q8 q9 b2 s2 q2 b3 s3 q3 c3' c3 c2' c2 hs34 Q2 Q3 G1 G2 G3 Z1 Z2 T3 B1 B2 B3 HW3 UN3 hgc hs12 hs23 UR AU E1
    go_wp2_with fail
    rw [HW4.out]
    clear HW4
    generalize w2.heap.size = x4 at *
    generalize w3.heap.size = x6 at *
    generalize w4.heap.size = x8 at *
    generalize W2.heap.size = l2 at *
    generalize W3.heap.size = l3 at *
    refine IS1.out.mono ?_
    rintro e w5 ⟨rfl, hb⟩
    have LX := hide (QS.out LX.out hb.out)
    have LY := hide (QY.out LY.out hb.out)
    have F5 : Hid (∃ b off, FV w5.heap.size w5 a4 LU b off) := F4.out.imp fun b h => h.imp fun off hf => (hf.below hb.out).wide hb.out.size
    have T5 := hide (T4.out.next (below_none hb.out) (by simp))
    clear hb IS1 F4 T4
    have p0 := block_cell LY.out.b4 0
    have p1 := block_cell LY.out.b4 1
    have p2 := block_cell LY.out.b4 2
    have p3 := block_cell LY.out.b4 3
    have p4 := block_cell LY.out.b4 4
    have p5 := block_cell LY.out.b4 5
    have p6 := block_cell LY.out.b4 6
    have p7 := block_cell LY.out.b4 7
    have p8 := block_cell LY.out.b4 8
    have p9 := block_cell LY.out.b4 9
    simp [Mi.cells] at p0 p1 p2 p3 p4 p5 p6 p7 p8 p9
    have r0 := block_cell LX.out.b8 0
    have r1 := block_cell LX.out.b8 1
    have r2 := block_cell LX.out.b8 2
    have r3 := block_cell LX.out.b8 3
    have r4 := block_cell LX.out.b8 4
    have r5 := block_cell LX.out.b8 5
    have r6 := block_cell LX.out.b8 6
    have r7 := block_cell LX.out.b8 7
    have r8 := block_cell LX.out.b8 8
    have r9 := block_cell LX.out.b8 9
    simp [Mi.cells] at r0 r1 r2 r3 r4 r5 r6 r7 r8 r9
    have hp := block_lt LY.out.b4
    have hr := block_lt LX.out.b8
    go_wp2_with fail
    clear p0 p1 p2 p3 p4 p5 p6 p7 p8 p9 r0 r1 r2 r3 r4 r5 r6 r7 r8 r9 hp hr
    refine (SI.out LY.out.o1 LX.out.o3 V1.out V3.out).mono ?_
    rintro e w6 ⟨rfl, hb⟩
    have LX := hide (QS.out LX.out hb.out)
    have LY := hide (QY.out LY.out hb.out)
    have F6 : Hid (∃ b off, FV w6.heap.size w6 a4 LU b off) := F5.out.imp fun b h => h.imp fun off hf => (hf.below hb.out).wide hb.out.size
    have T6 := hide (T5.out.next (below_none hb.out) (by simp))
    clear hb F5 T5
    have KP := hide (kept6 T6.out (showsU HS.out LX.out.bel))
    go_wp2_with fail
    refine KP.out.mono ?_
    rintro e w7 ⟨rfl, q7, hw7⟩
    have hb : Below w6.heap.size w6 w7 := by rw [hw7]; exact below_drewN (Below.refl _ w6)
    have LX := hide (QS.out LX.out hb)
    have LY := hide (QY.out LY.out hb)
    have F7 : Hid (∃ b off, FV w7.heap.size w7 a4 LU b off) := F6.out.imp fun b h => h.imp fun off hf => (hf.below hb).wide hb.size
    have T7 := hide (T6.out.next (below_none hb) (by simp))
    clear hb hw7 KP F6 T6
    have R0 : Hid (∃ xs : List Value, w7.ownsRow w.heap.size 5 1 (.slice (some ⟨w.heap.size, 0, none⟩) (n + 72) (n + 72)) (n + 72) xs ∧ (∀ j, j < n + 72 → ∃ c : Int, xs[j]? = some (.int .u8 c)) ∧ w7.grownBy w7 (some w.heap.size)) := ⟨_, T7.out.2, fun j hj => vals_int _ j (by have := T7.out.2.1; simp [vals] at this; simp; omega), ⟨rfl, rfl, rfl, Nat.le_refl _, fun _ _ _ => rfl⟩⟩
    go_wp2_with fail
    go_loopw [10] (fun i wr => ∃ k : Nat, k ≤ n ∧ i = .int .i64 k ∧ Hid (∃ xs : List Value, wr.ownsRow w.heap.size 5 1 (.slice (some ⟨w.heap.size, 0, none⟩) (n + 72) (n + 72)) (n + 72) xs ∧ (∀ j, j < n + 72 → ∃ c : Int, xs[j]? = some (.int .u8 c)) ∧ w7.grownBy wr (some w.heap.size))) (fun i _ => n - (intOf i).toNat)
    case atStart => exact ⟨0, by omega, rfl, R0.out⟩
    case round =>
      obtain ⟨k, hk, rfl, HSS⟩ := hrel
      clear R0
      obtain ⟨xs, hown, hint, hgr⟩ := HSS.out
      by_cases hlt : k < n
      · obtain ⟨c, hc⟩ := hint k (by omega)
        have hck : wr.cell? ⟨w.heap.size, k, none⟩ = some (.int .u8 c) := (hown.cellAt k (by omega)).trans hc
        have hfz := hown.frozenAt k
        have HI := hide (And.intro hown (And.intro hint hgr))
        clear hown hint hgr HSS hc
        go_wp2
        go_roundw
        case rel =>
          obtain ⟨hown, hint, hgr⟩ := HI.out
          refine ⟨k + 1, by omega, by go_num, xs.set k _, (hown.stored _ _).1, fun j hj => ?_, grown_trans hgr (hown.stored _ _).2⟩
          rw [List.getElem?_set]
          have hl : xs.length = (n + 72) * 1 := hown.1
          split
          · rw [if_pos (by omega)]; exact ⟨_, rfl⟩
          · exact hint j hj
        case measure => simp [intOf]; omega
      · obtain rfl : n = k := by omega
        have LX : Hid (Lx w x6 l2 l3 x8 m2 m3 a4 k4 LU.length pu wr) := LX.out.step (outR_grown hgr) (Nat.le_refl _) (by have := IN.out; omega) (by have := IN.out; omega) (by have := IN.out; omega) (by have := IN.out; omega)
        have LY : Hid (Ly x4 w1.heap.size m1 wr) := LY.out.step (outR_grown hgr) (by have := IN.out; omega) (by have := IN.out; omega)
        have F8 : Hid (∃ b off, FV wr.heap.size wr a4 LU b off) := by
          obtain ⟨b, off, hf⟩ := F7.out
          obtain ⟨cs, h1, h2⟩ := T7.out.nostr
          exact ⟨b, off, (fv_grownN hf hgr (fv_neN hf h1 h2)).wide hgr.size⟩
        clear hown hint hgr HSS F7 T7
        have p0 := block_cell LY.out.b4 0
        have p1 := block_cell LY.out.b4 1
        have p2 := block_cell LY.out.b4 2
        have p3 := block_cell LY.out.b4 3
        have p4 := block_cell LY.out.b4 4
        have p5 := block_cell LY.out.b4 5
        have p6 := block_cell LY.out.b4 6
        have p7 := block_cell LY.out.b4 7
        have p8 := block_cell LY.out.b4 8
        have p9 := block_cell LY.out.b4 9
        simp [Mi.cells] at p0 p1 p2 p3 p4 p5 p6 p7 p8 p9
        have r0 := block_cell LX.out.b8 0
        have r1 := block_cell LX.out.b8 1
        have r2 := block_cell LX.out.b8 2
        have r3 := block_cell LX.out.b8 3
        have r4 := block_cell LX.out.b8 4
        have r5 := block_cell LX.out.b8 5
        have r6 := block_cell LX.out.b8 6
        have r7 := block_cell LX.out.b8 7
        have r8 := block_cell LX.out.b8 8
        have r9 := block_cell LX.out.b8 9
        simp [Mi.cells] at r0 r1 r2 r3 r4 r5 r6 r7 r8 r9
        have hp := block_lt LY.out.b4
        have hr := block_lt LX.out.b8
        go_wp2_with fail
        clear p0 p1 p2 p3 p4 p5 p6 p7 p8 p9 r0 r1 r2 r3 r4 r5 r6 r7 r8 r9 hp hr
        refine (SI.out LY.out.o1 LX.out.o3 V1.out V3.out).mono ?_
        rintro e w9 ⟨rfl, hb⟩
        have LX := hide (QS.out LX.out hb.out)
        have LY := hide (QY.out LY.out hb.out)
        have F9 : Hid (∃ b off, FV w9.heap.size w9 a4 LU b off) := F8.out.imp fun b h => h.imp fun off hf => (hf.below hb.out).wide hb.out.size
        clear hb F8
        have p0 := block_cell LX.out.b6 0
        have p1 := block_cell LX.out.b6 1
        have p2 := block_cell LX.out.b6 2
        have p3 := block_cell LX.out.b6 3
        have p4 := block_cell LX.out.b6 4
        have p5 := block_cell LX.out.b6 5
        have p6 := block_cell LX.out.b6 6
        have p7 := block_cell LX.out.b6 7
        have p8 := block_cell LX.out.b6 8
        have p9 := block_cell LX.out.b6 9
        simp [Mi.cells] at p0 p1 p2 p3 p4 p5 p6 p7 p8 p9
        have r0 := block_cell LX.out.b8 0
        have r1 := block_cell LX.out.b8 1
        have r2 := block_cell LX.out.b8 2
        have r3 := block_cell LX.out.b8 3
        have r4 := block_cell LX.out.b8 4
        have r5 := block_cell LX.out.b8 5
        have r6 := block_cell LX.out.b8 6
        have r7 := block_cell LX.out.b8 7
        have r8 := block_cell LX.out.b8 8
        have r9 := block_cell LX.out.b8 9
        simp [Mi.cells] at r0 r1 r2 r3 r4 r5 r6 r7 r8 r9
        have hp := block_lt LX.out.b6
        have hr := block_lt LX.out.b8
        go_wp2_with fail
        clear p0 p1 p2 p3 p4 p5 p6 p7 p8 p9 r0 r1 r2 r3 r4 r5 r6 r7 r8 r9 hp hr
        refine (SI.out LX.out.o2 LX.out.o3 V2.out V3.out).mono ?_
        rintro e w10 ⟨rfl, hb⟩
        have LX := hide (QS.out LX.out hb.out)
        have LY := hide (QY.out LY.out hb.out)
        have F10 : Hid (∃ b off, FV w10.heap.size w10 a4 LU b off) := F9.out.imp fun b h => h.imp fun off hf => (hf.below hb.out).wide hb.out.size
        clear hb F9
        have p0 := block_cell LY.out.b4 0
        have p1 := block_cell LY.out.b4 1
        have p2 := block_cell LY.out.b4 2
        have p3 := block_cell LY.out.b4 3
        have p4 := block_cell LY.out.b4 4
        have p5 := block_cell LY.out.b4 5
        have p6 := block_cell LY.out.b4 6
        have p7 := block_cell LY.out.b4 7
        have p8 := block_cell LY.out.b4 8
        have p9 := block_cell LY.out.b4 9
        simp [Mi.cells] at p0 p1 p2 p3 p4 p5 p6 p7 p8 p9
        have hp := block_lt LY.out.b4
        go_wp2_with fail
        clear p0 p1 p2 p3 p4 p5 p6 p7 p8 p9 hp
        refine (AP1.out _ LY.out.o1 (Nat.le_of_lt (block_lt LY.out.b4))).mono ?_
        rintro e w11 ⟨rfl, ho⟩
        have LX := hide (LX.out.step ho.out.1 (by have := IN.out; omega) (by have := IN.out; omega) (by have := IN.out; omega) (by have := IN.out; omega) (by have := IN.out; omega))
        have F11 := hide (fv_apart LUN.out F10.out ho.out.2)
        clear ho F10 LY AP1 QY
        have p0 := block_cell LX.out.b6 0
        have p1 := block_cell LX.out.b6 1
        have p2 := block_cell LX.out.b6 2
        have p3 := block_cell LX.out.b6 3
        have p4 := block_cell LX.out.b6 4
        have p5 := block_cell LX.out.b6 5
        have p6 := block_cell LX.out.b6 6
        have p7 := block_cell LX.out.b6 7
        have p8 := block_cell LX.out.b6 8
        have p9 := block_cell LX.out.b6 9
        simp [Mi.cells] at p0 p1 p2 p3 p4 p5 p6 p7 p8 p9
        have r0 := block_cell LX.out.b8 0
        have r1 := block_cell LX.out.b8 1
        have r2 := block_cell LX.out.b8 2
        have r3 := block_cell LX.out.b8 3
        have r4 := block_cell LX.out.b8 4
        have r5 := block_cell LX.out.b8 5
        have r6 := block_cell LX.out.b8 6
        have r7 := block_cell LX.out.b8 7
        have r8 := block_cell LX.out.b8 8
        have r9 := block_cell LX.out.b8 9
        simp [Mi.cells] at r0 r1 r2 r3 r4 r5 r6 r7 r8 r9
        have hp := block_lt LX.out.b6
        have hr := block_lt LX.out.b8
        go_wp2_with fail
        clear p0 p1 p2 p3 p4 p5 p6 p7 p8 p9 r0 r1 r2 r3 r4 r5 r6 r7 r8 r9 hp hr
        refine (SI.out LX.out.o2 LX.out.o3 V2.out V3.out).mono ?_
        rintro e w12 ⟨rfl, hb⟩
        have LX := hide (QS.out LX.out hb.out)
        have F12 : Hid (∃ b off, FV w12.heap.size w12 a4 LU b off) := F11.out.imp fun b h => h.imp fun off hf => (hf.below hb.out).wide hb.out.size
        clear hb F11
        have p0 := block_cell LX.out.b6 0
        have p1 := block_cell LX.out.b6 1
        have p2 := block_cell LX.out.b6 2
        have p3 := block_cell LX.out.b6 3
        have p4 := block_cell LX.out.b6 4
        have p5 := block_cell LX.out.b6 5
        have p6 := block_cell LX.out.b6 6
        have p7 := block_cell LX.out.b6 7
        have p8 := block_cell LX.out.b6 8
        have p9 := block_cell LX.out.b6 9
        simp [Mi.cells] at p0 p1 p2 p3 p4 p5 p6 p7 p8 p9
        have hp := block_lt LX.out.b6
        go_wp2_with fail
        clear p0 p1 p2 p3 p4 p5 p6 p7 p8 p9 hp
        refine (AP2.out _ LX.out.o2 (Nat.le_of_lt (block_lt LX.out.b6))).mono ?_
        rintro e w13 ⟨rfl, ho⟩
        have LZ := hide (LX.out.z.step ho.out.1 (by have := IN.out; omega) (by have := IN.out; omega) (by have := IN.out; omega))
        have F13 := hide (fv_apart LUN.out F12.out ho.out.2)
        clear ho F12 LX AP2 QS
        have UN4 := hide (UA.out (errT_belowN HG.out LZ.out.bel) (showsU HS.out LZ.out.bel) (Nat.le_refl _))
        go_wp2_with fail
        refine UN4.out.mono ?_
        rintro e w14 ⟨m4, v4, rfl, G4, -⟩
        obtain ⟨W14, hW14⟩ : ∃ W14, w14.alloc (.cells #[.int .u64 (m4.slot : Int), .int .u64 (m4.now : Int), .int .u64 (m4.tot : Int), .int .u64 (m4.nx : Int), .slice m4.ao m4.an m4.ac, .slice m4.ho m4.hn m4.hc, .slice m4.jo m4.jn m4.jc, .slice m4.dO m4.dn m4.dc, .int .u64 (m4.ends : Int), .slice m4.so m4.sn m4.sc] 33) = W14 := ⟨_, rfl⟩
        have b14 : Below w14.heap.size w14 W14 := by rw [← hW14]; exact (Below.refl _ w14).alloc (Nat.le_refl _) _
        have q14 : W14.heap[w14.heap.size]? = some (.cells m4.cells 33 (0, 0)) := by rw [← hW14]; exact alloc_atN _ _
        have LZ := hide (LZ.out.step (outR_below (lo := w.heap.size) G4.out.2.2.2) (Nat.le_refl _) (by have := IN.out; omega) (by have := IN.out; omega))
        have LW := hide (LZ.out.step (outR_below (lo := w.heap.size) b14) (Nat.le_refl _) (by have := IN.out; omega) (by have := IN.out; omega))
        have O4 := hide (G4.out.1.below b14)
        have V4 := hide G4.out.2.1
        have Q14 := hide q14
        have IS4 : Hid (Calls Tryz.prog 9 #[v4, .agg #[.slice a4 LU.length k4, .int .i64 pu]] W14 fun e w' => e = .returned (.bool true) ∧ Hid (Below W14.heap.size W14 w')) := by
          obtain ⟨b, off, hf⟩ := F13.out
          have bb := G4.out.2.2.2.trans (b14.mono G4.out.2.2.2.size)
          exact is_any LU.length k4 rfl (G4.out.2.2.1.imp id (fun ⟨a, b⟩ => ⟨(Chain.below b14 a).wide b14.size, b⟩)) ((hf.below bb).wide bb.size)
        have y0 := block_cell LZ.out.b9 0
        have y1 := block_cell LZ.out.b9 1
        simp at y0 y1
        have h9 := block_lt LZ.out.b9
        have HW14 := hide hW14
        clear b14 q14 hW14 G4 UN4 F13
        go_wp2_with fail
        rw [HW14.out]
        refine IS4.out.mono ?_
        rintro e w15 ⟨rfl, hb⟩
        have LZ := hide (LW.out.step (outR_below (lo := w.heap.size) hb.out) (Nat.le_refl _) (by have := IN.out; omega) (by have := IN.out; omega))
        have O4 := hide (O4.out.below hb.out)
        have Q15 := hide ((hb.out.block _ (block_lt Q14.out)).trans Q14.out)
        clear hb IS4 HW14 Q14 LW y0 y1 h9
        have p0 := block_cell Q15.out 0
        have p1 := block_cell Q15.out 1
        have p2 := block_cell Q15.out 2
        have p3 := block_cell Q15.out 3
        have p4 := block_cell Q15.out 4
        have p5 := block_cell Q15.out 5
        have p6 := block_cell Q15.out 6
        have p7 := block_cell Q15.out 7
        have p8 := block_cell Q15.out 8
        have p9 := block_cell Q15.out 9
        simp [Mi.cells] at p0 p1 p2 p3 p4 p5 p6 p7 p8 p9
        have r0 := block_cell LZ.out.b8 0
        have r1 := block_cell LZ.out.b8 1
        have r2 := block_cell LZ.out.b8 2
        have r3 := block_cell LZ.out.b8 3
        have r4 := block_cell LZ.out.b8 4
        have r5 := block_cell LZ.out.b8 5
        have r6 := block_cell LZ.out.b8 6
        have r7 := block_cell LZ.out.b8 7
        have r8 := block_cell LZ.out.b8 8
        have r9 := block_cell LZ.out.b8 9
        simp [Mi.cells] at r0 r1 r2 r3 r4 r5 r6 r7 r8 r9
        have hp := block_lt Q15.out
        have hr := block_lt LZ.out.b8
        generalize w14.heap.size = x11 at *
        go_wp2_with fail
        clear p0 p1 p2 p3 p4 p5 p6 p7 p8 p9 r0 r1 r2 r3 r4 r5 r6 r7 r8 r9 hp hr
        refine (SI.out O4.out LZ.out.o3 V4.out V3.out).mono ?_
        rintro e w16 ⟨rfl, hb⟩
        have FB := hide (LZ.out.step (outR_below (lo := w.heap.size) hb.out) (Nat.le_refl _) (by have := IN.out; omega) (by have := IN.out; omega)).bel
        clear hb
        go_wp2_with fail
        go_ret
        exact ⟨rfl, FB.out⟩
end Go.Proofs.YtlidehhcoepikaaGreatDoor
