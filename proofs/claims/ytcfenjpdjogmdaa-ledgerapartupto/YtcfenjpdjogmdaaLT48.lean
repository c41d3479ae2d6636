import Derived.Test.YtcfenjpdjogmdaaLT47
namespace Go.Proofs.Ytcfenjpdjogmdaa
open Go.RowKit

theorem row_oth {W W' : World} {B s n k : Nat} {T T' : TypeId} {v : Value} {ys : List Value} {cs : Array Value} (ho : W.ownsRow B T s v n ys) (hg : W.grownBy W' v.ownBlock) (hb : W.heap[k]? = some (.cells cs T' (0, 0))) (ht : T' ≠ T) : W'.heap[k]? = some (.cells cs T' (0, 0)) := by
  refine (hg.block k (block_lt hb) (fun e => ?_)).trans hb
  rcases ho.2 with ⟨rfl, _⟩ | ⟨g, cp, cur, rfl, _, hgb, _⟩
  · cases e
  · cases e
    rw [hgb] at hb
    cases hb
    exact ht rfl
theorem MF.oth {T T' : TypeId} {s s' : Nat} {mv : List Value} {W W' : World} {n n' B : Nat} {ao : Option Addr} {P : Nat → Prop} {v : Value} {ys : List Value} (h : MF T' s' mv W n' ao P) (ho : W.ownsRow B T s v n ys) (hg : W.grownBy W' v.ownBlock) (ht : T' ≠ T) : MF T' s' mv W' n' ao P := fun hn => by
  obtain ⟨g, cs, e, hp, hgb, hc⟩ := h hn
  exact ⟨g, cs, e, hp, row_oth ho hg hgb ht, hc⟩
theorem AF.oth {T T' : TypeId} {s s' m : Nat} {mv : List Value} {W W' : World} {n n' t B B' : Nat} {v v' : Value} {ys : List Value} (h : AF T' s' mv m W B' n' t v') (ho : W.ownsRow B T s v n ys) (hg : W.grownBy W' v.ownBlock) (ht : T' ≠ T) : AF T' s' mv m W' B' n' t v' := by
  obtain ⟨zs, h1, h2⟩ := h
  exact ⟨zs, h1.kept hg (rows2_ne ho h1 (fun e => ht e.symm)), h2⟩
theorem AF.below {T : TypeId} {s m : Nat} {mv : List Value} {W W' : World} {n t B : Nat} {v : Value} (h : AF T s mv m W B n t v) (hb : Below W.heap.size W W') : AF T s mv m W' B n t v := by
  obtain ⟨zs, h1, h2⟩ := h
  exact ⟨zs, row_below h1 hb, h2⟩
/-- marked under way: the lists are marked, and so many stand behind their ends. -/
structure Mr (V : World) (q B m : Nat) (T0 T1 : Int) (ao ho jo : Option Addr) (n cap nh hcap nj jcap : Nat) (tA tH tJ : Nat) (vA vH vJ : Value) (W : World) : Prop where
  fr : FrM V W (.slice ao n cap) (.slice ho nh hcap) (.slice jo nj jcap)
  hB : B ≤ V.heap.size
  b1 : W.heap[q]? = some (.cells #[.int .u64 T0, .int .u64 T1, .slice ao n cap, .slice ho nh hcap, .slice jo nj jcap] 35 (0, 0))
  b2 : W.heap[q + 1]? = some (.cells #[.int .u64 0, .int .u64 0, .slice none 0 0, .slice none 0 0, .slice none 0 0, .slice none 0 0, .slice none 0 0, .slice none 0 0, .int .u64 0] 48 (0, 0))
  mA : MF 80 4 (mvA m) W n ao (fun g => ao = some ⟨g, 0, none⟩)
  aA : AF 80 4 (mvA m) m W B n tA vA
  pA : ∀ g, vA.ownBlock = some g → ao = some ⟨g, 0, none⟩ ∨ V.heap.size ≤ g
  mH : MF 83 3 (mvH m) W nh ho (fun g => ho = some ⟨g, 0, none⟩)
  aH : AF 83 3 (mvH m) m W B nh tH vH
  pH : ∀ g, vH.ownBlock = some g → ho = some ⟨g, 0, none⟩ ∨ V.heap.size ≤ g
  mJ : MF 68 5 (mvJ m) W nj jo (fun g => jo = some ⟨g, 0, none⟩)
  aJ : AF 68 5 (mvJ m) m W B nj tJ vJ
  pJ : ∀ g, vJ.ownBlock = some g → jo = some ⟨g, 0, none⟩ ∨ V.heap.size ≤ g
section
variable {V W W' : World} {q B m : Nat} {T0 T1 : Int} {ao ho jo : Option Addr} {n cap nh hcap nj jcap tA tH tJ : Nat} {vA vH vJ : Value}
theorem own_at0 {a : Option Addr} {x g c : Nat} (h : a = some ⟨g, 0, none⟩) : (Value.slice a x c).ownBlock = some g := by rw [h]; rfl
theorem Mr.below (h : Mr V q B m T0 T1 ao ho jo n cap nh hcap nj jcap tA tH tJ vA vH vJ W) (hb : Below W.heap.size W W') : Mr V q B m T0 T1 ao ho jo n cap nh hcap nj jcap tA tH tJ vA vH vJ W' :=
  ⟨h.fr.go (below_none hb) (fun g e => by cases e), h.hB, (hb.block _ (block_lt h.b1)).trans h.b1, (hb.block _ (block_lt h.b2)).trans h.b2, h.mA.off (fun g hg _ => hb.block g hg), h.aA.below hb, h.pA, h.mH.off (fun g hg _ => hb.block g hg), h.aH.below hb, h.pH, h.mJ.off (fun g hg _ => hb.block g hg), h.aJ.below hb, h.pJ⟩
theorem Mr.appA (h : Mr V q B m T0 T1 ao ho jo n cap nh hcap nj jcap tA tH tJ vA vH vJ W) {o : Obj} {v' : Value} {w4 : World} {ys new : List Value} (y0 : W.ownsRow B 80 4 vA (n + tA) ys) (y1 : ∀ i, i < n → ∀ j, j < 4 → ys[i * 4 + j]? = (mvA m)[j]?) (y2 : ∀ i, n ≤ i → i < n + tA → ys[i * 4]? = some (.int .u64 (beh m i n : Nat))) (hrow : w4.ownsRow B 80 4 v' (n + tA + 1) (ys ++ new)) (hg : (W.alloc o).grownBy w4 vA.ownBlock) (hk : w4.ownsRow B 80 4 vA (n + tA) ys) (hat : ∀ g, v'.ownBlock = some g → vA.ownBlock = some g ∨ (W.alloc o).heap.size ≤ g) (hn0 : new[0]? = some (.int .u64 (beh m (n + tA) n : Nat))) : Mr V q B m T0 T1 ao ho jo n cap nh hcap nj jcap (tA + 1) tH tJ v' vH vJ w4 := by
  have hb : Below W.heap.size W (W.alloc o) := (Below.refl _ W).alloc (Nat.le_refl _) o
  have h1 := h.below hb
  have y0' := row_below y0 hb
  refine ⟨h1.fr.go hg (fun g e => ?_), h.hB, row_oth y0' hg h1.b1 (by decide), row_oth y0' hg h1.b2 (by decide), h1.mA.app y1 hg hk, AF.app (by decide) y1 y2 y0.1 hrow hn0, fun g e => ?_, h1.mH.oth y0' hg (by decide), h1.aH.oth y0' hg (by decide), h1.pH, h1.mJ.oth y0' hg (by decide), h1.aJ.oth y0' hg (by decide), h1.pJ⟩
  · rcases h.pA g e with e' | e'
    · exact .inl (own_at0 e')
    · exact .inr (.inr (.inr e'))
  · rcases hat g e with e' | e'
    · exact h.pA g e'
    · exact .inr (by have := hb.size; have := h.fr.size; omega)
theorem Mr.appH (h : Mr V q B m T0 T1 ao ho jo n cap nh hcap nj jcap tA tH tJ vA vH vJ W) {o : Obj} {v' : Value} {w4 : World} {ys new : List Value} (y0 : W.ownsRow B 83 3 vH (nh + tH) ys) (y1 : ∀ i, i < nh → ∀ j, j < 3 → ys[i * 3 + j]? = (mvH m)[j]?) (y2 : ∀ i, nh ≤ i → i < nh + tH → ys[i * 3]? = some (.int .u64 (beh m i nh : Nat))) (hrow : w4.ownsRow B 83 3 v' (nh + tH + 1) (ys ++ new)) (hg : (W.alloc o).grownBy w4 vH.ownBlock) (hk : w4.ownsRow B 83 3 vH (nh + tH) ys) (hat : ∀ g, v'.ownBlock = some g → vH.ownBlock = some g ∨ (W.alloc o).heap.size ≤ g) (hn0 : new[0]? = some (.int .u64 (beh m (nh + tH) nh : Nat))) : Mr V q B m T0 T1 ao ho jo n cap nh hcap nj jcap tA (tH + 1) tJ vA v' vJ w4 := by
  have hb : Below W.heap.size W (W.alloc o) := (Below.refl _ W).alloc (Nat.le_refl _) o
  have h1 := h.below hb
  have y0' := row_below y0 hb
  refine ⟨h1.fr.go hg (fun g e => ?_), h.hB, row_oth y0' hg h1.b1 (by decide), row_oth y0' hg h1.b2 (by decide), h1.mA.oth y0' hg (by decide), h1.aA.oth y0' hg (by decide), h1.pA, h1.mH.app y1 hg hk, AF.app (by decide) y1 y2 y0.1 hrow hn0, fun g e => ?_, h1.mJ.oth y0' hg (by decide), h1.aJ.oth y0' hg (by decide), h1.pJ⟩
  · rcases h.pH g e with e' | e'
    · exact .inr (.inl (own_at0 e'))
    · exact .inr (.inr (.inr e'))
  · rcases hat g e with e' | e'
    · exact h.pH g e'
    · exact .inr (by have := hb.size; have := h.fr.size; omega)
theorem Mr.appJ (h : Mr V q B m T0 T1 ao ho jo n cap nh hcap nj jcap tA tH tJ vA vH vJ W) {o : Obj} {v' : Value} {w4 : World} {ys new : List Value} (y0 : W.ownsRow B 68 5 vJ (nj + tJ) ys) (y1 : ∀ i, i < nj → ∀ j, j < 5 → ys[i * 5 + j]? = (mvJ m)[j]?) (y2 : ∀ i, nj ≤ i → i < nj + tJ → ys[i * 5]? = some (.int .u64 (beh m i nj : Nat))) (hrow : w4.ownsRow B 68 5 v' (nj + tJ + 1) (ys ++ new)) (hg : (W.alloc o).grownBy w4 vJ.ownBlock) (hk : w4.ownsRow B 68 5 vJ (nj + tJ) ys) (hat : ∀ g, v'.ownBlock = some g → vJ.ownBlock = some g ∨ (W.alloc o).heap.size ≤ g) (hn0 : new[0]? = some (.int .u64 (beh m (nj + tJ) nj : Nat))) : Mr V q B m T0 T1 ao ho jo n cap nh hcap nj jcap tA tH (tJ + 1) vA vH v' w4 := by
  have hb : Below W.heap.size W (W.alloc o) := (Below.refl _ W).alloc (Nat.le_refl _) o
  have h1 := h.below hb
  have y0' := row_below y0 hb
  refine ⟨h1.fr.go hg (fun g e => ?_), h.hB, row_oth y0' hg h1.b1 (by decide), row_oth y0' hg h1.b2 (by decide), h1.mA.oth y0' hg (by decide), h1.aA.oth y0' hg (by decide), h1.pA, h1.mH.oth y0' hg (by decide), h1.aH.oth y0' hg (by decide), h1.pH, h1.mJ.app y1 hg hk, AF.app (by decide) y1 y2 y0.1 hrow hn0, fun g e => ?_⟩
  · rcases h.pJ g e with e' | e'
    · exact .inr (.inr (.inl (own_at0 e')))
    · exact .inr (.inr (.inr e'))
  · rcases hat g e with e' | e'
    · exact h.pJ g e'
    · exact .inr (by have := hb.size; have := h.fr.size; omega)
theorem Mq.mr (h : Mq V q B m T0 T1 ao ho jo n cap nh hcap nj jcap n nh nj W) (hB : B ≤ V.heap.size) : Mr V q B m T0 T1 ao ho jo n cap nh hcap nj jcap 0 0 0 (.slice ao n cap) (.slice ho nh hcap) (.slice jo nj jcap) W := by
  obtain ⟨xa, a1, a2⟩ := h.rA
  obtain ⟨xh, h1, h2⟩ := h.rH
  obtain ⟨xj, j1, j2⟩ := h.rJ
  have pp : ∀ {T : TypeId} {s n c : Nat} {a : Option Addr} {xs : List Value}, W.ownsRow B T s (.slice a n c) n xs → ∀ g, (Value.slice a n c).ownBlock = some g → a = some ⟨g, 0, none⟩ ∨ V.heap.size ≤ g := fun {T s n c a xs} hr g e => by
    rcases hr.2 with ⟨e1, _⟩ | ⟨g', cp, cur, e1, _⟩
    · rw [e1] at e; cases e
    · cases e1
      cases e
      exact .inl rfl
  exact ⟨h.fr, hB, h.b1, h.b2, MF.of a1 a2 (fun _ e => e), ⟨xa, a1, a2, fun i h1 h2 => by omega⟩, pp a1, MF.of h1 h2 (fun _ e => e), ⟨xh, h1, h2, fun i h1 h2 => by omega⟩, pp h1, MF.of j1 j2 (fun _ e => e), ⟨xj, j1, j2, fun i h1 h2 => by omega⟩, pp j1⟩
end
/-- An image that was marked. -/
structure MkR (V : World) (m : Nat) (n nh nj : Nat) (ao ho jo xa xh xj : Option Addr) (P : Nat → Prop) : Prop where
  mA : MF 80 4 (mvA m) V n ao P
  xA : XF 80 4 (mvA m) m V n xa P
  mH : MF 83 3 (mvH m) V nh ho P
  xH : XF 83 3 (mvH m) m V nh xh P
  mJ : MF 68 5 (mvJ m) V nj jo P
  xJ : XF 68 5 (mvJ m) m V nj xj P
set_option maxRecDepth 10000 in
set_option maxHeartbeats 6400000 in
/-- marked: every place of every list, and 64 behind their ends. -/
theorem markedC {V : World} {B m : Nat} (hm : m ≤ 2000000000) (T0 T1 : Int) {ao ho jo : Option Addr} (n cap nh hcap nj jcap : Nat) {xa xh xj : List Value} (ra : V.ownsRow B 80 4 (.slice ao n cap) n xa) (rh : V.ownsRow B 83 3 (.slice ho nh hcap) nh xh) (rj : V.ownsRow B 68 5 (.slice jo nj jcap) nj xj) (hB : B ≤ V.heap.size) (hn : n ≤ 64) (hnh : nh ≤ 64) (hnj : nj ≤ 64) :
    Calls Try.prog 14 #[.agg #[.int .u64 T0, .int .u64 T1, .slice ao n cap, .slice ho nh hcap, .slice jo nj jcap], .int .u64 (m : Nat)] V fun e V' => ∃ ya yac yh yhc yj yjc, e = .returned (.agg #[.int .u64 T0, .int .u64 T1, .slice ao n cap, .slice ho nh hcap, .slice jo nj jcap, .slice ya (n + 64) yac, .slice yh (nh + 64) yhc, .slice yj (nj + 64) yjc, .int .u64 (m : Nat)]) ∧ Hid (MkR V' m n nh nj ao ho jo ya yh yj (fun g => ao = some ⟨g, 0, none⟩ ∨ ho = some ⟨g, 0, none⟩ ∨ jo = some ⟨g, 0, none⟩ ∨ V.heap.size ≤ g) ∧ FrM V V' (.slice ao n cap) (.slice ho nh hcap) (.slice jo nj jcap)) := by
  obtain ⟨ia, hia, hz0a, hz1a, hz2a⟩ := info_parts infoAcc
  obtain ⟨ih, hih, hz0h, hz1h, hz2h⟩ := info_parts infoHold
  obtain ⟨ij, hij, hz0j, hz1j, hz2j⟩ := info_parts infoEnt
  obtain ⟨W1, hW1⟩ : ∃ W1, (V.alloc (.cells #[.int .u64 T0, .int .u64 T1, .slice ao n cap, .slice ho nh hcap, .slice jo nj jcap] 35)).alloc (.cells #[.int .u64 0, .int .u64 0, .slice none 0 0, .slice none 0 0, .slice none 0 0, .slice none 0 0, .slice none 0 0, .slice none 0 0, .int .u64 0] 48) = W1 := ⟨_, rfl⟩
  obtain ⟨q, hq⟩ : ∃ q, V.heap.size = q := ⟨_, rfl⟩
  have HM0 : Hid (Mq V q B m T0 T1 ao ho jo n cap nh hcap nj jcap 0 0 0 W1) := by
    have b1 := (Below.refl _ V).alloc (Nat.le_refl _) (.cells #[.int .u64 T0, .int .u64 T1, .slice ao n cap, .slice ho nh hcap, .slice jo nj jcap] 35)
    have b2 := (Below.refl _ (V.alloc (.cells #[.int .u64 T0, .int .u64 T1, .slice ao n cap, .slice ho nh hcap, .slice jo nj jcap] 35))).alloc (Nat.le_refl _) (.cells #[.int .u64 0, .int .u64 0, .slice none 0 0, .slice none 0 0, .slice none 0 0, .slice none 0 0, .slice none 0 0, .slice none 0 0, .int .u64 0] 48)
    have b12 := b1.trans (b2.mono b1.size)
    have e1 : (V.alloc (.cells #[.int .u64 T0, .int .u64 T1, .slice ao n cap, .slice ho nh hcap, .slice jo nj jcap] 35)).heap.size = V.heap.size + 1 := by simp
    have q1 := alloc_atK V (.cells #[.int .u64 T0, .int .u64 T1, .slice ao n cap, .slice ho nh hcap, .slice jo nj jcap] 35)
    have q2 := alloc_atK (V.alloc (.cells #[.int .u64 T0, .int .u64 T1, .slice ao n cap, .slice ho nh hcap, .slice jo nj jcap] 35)) (.cells #[.int .u64 0, .int .u64 0, .slice none 0 0, .slice none 0 0, .slice none 0 0, .slice none 0 0, .slice none 0 0, .slice none 0 0, .int .u64 0] 48)
    rw [e1] at q2
    subst hW1 hq
    exact ⟨FrM.start b12, (b2.block _ (block_lt q1)).trans q1, q2, ⟨xa, row_below ra b12, fun i hi => by omega⟩, ⟨xh, row_below rh b12, fun i hi => by omega⟩, ⟨xj, row_below rj b12, fun i hi => by omega⟩⟩
  have HB := hide hB
  have HW1 := hide hW1
  have HQ := hide hq
  have hwm : IntKind.i64.wrap (m : Int) = (m : Int) := IntWalk.i64_in _ ⟨by omega, by omega⟩
  clear ra rh rj hB hW1 hq
  go_enter Try.func14, Try.ntmps14
  go_upto_region 1 with fail
  rw [HW1.out, HQ.out]
  clear HW1
  have y := block_cell HM0.out.b1 2
  have yl := block_lt HM0.out.b1
  simp at y
  go_wp2
  clear y yl
  go_loopw [5] (fun i wr => ∃ k : Nat, k ≤ n ∧ i = .int .i64 k ∧ Hid (Mq V q B m T0 T1 ao ho jo n cap nh hcap nj jcap k 0 0 wr)) (fun i _ => n - (intOf i).toNat)
  case atStart => exact ⟨0, by omega, rfl, HM0.out⟩
  case round =>
    clear HM0
    obtain ⟨k, hk, rfl, HM⟩ := hrel
    have y := block_cell HM.out.b1 2
    have yl := block_lt HM.out.b1
    simp at y
    by_cases hlt : k < n
    · obtain ⟨xs, h1, h2⟩ := HM.out.rA
      obtain ⟨g, rfl, _, gl, hgc, gf, gc, cs, hgb, _⟩ := row_place h1 (by omega)
      obtain ⟨u0, r0⟩ := gc (k * 4) (by omega)
      have f0 := gf (k * 4)
      obtain ⟨u1, r1⟩ := gc (k * 4 + 1) (by omega)
      have f1 := gf (k * 4 + 1)
      obtain ⟨u2, r2⟩ := gc (k * 4 + 2) (by omega)
      have f2 := gf (k * 4 + 2)
      obtain ⟨u3, r3⟩ := gc (k * 4 + 3) (by omega)
      have f3 := gf (k * 4 + 3)
      have HS := hide (HM.out.setA rfl hlt)
      clear h1 h2 gc gf hgb HM
      go_wp2
      go_roundw
      case rel => exact ⟨k + 1, by omega, by go_num, HS.out⟩
      case measure => simp [intOf]; omega
    · obtain rfl : n = k := by omega
      have HMA := HM
      clear HM
      have y3 := block_cell HMA.out.b1 3
      simp at y3
      go_wp2
      clear y y3 yl
      go_loopw [6] (fun i wr => ∃ k : Nat, k ≤ nh ∧ i = .int .i64 k ∧ Hid (Mq V q B m T0 T1 ao ho jo n cap nh hcap nj jcap n k 0 wr)) (fun i _ => nh - (intOf i).toNat)
      case atStart => exact ⟨0, by omega, rfl, HMA.out⟩
      case round =>
        clear HMA
        obtain ⟨k, hk, rfl, HM⟩ := hrel
        have y := block_cell HM.out.b1 3
        have yl := block_lt HM.out.b1
        simp at y
        by_cases hlt : k < nh
        · obtain ⟨xs, h1, h2⟩ := HM.out.rH
          obtain ⟨g, rfl, _, gl, hgc, gf, gc, cs, hgb, _⟩ := row_place h1 (by omega)
          obtain ⟨u0, r0⟩ := gc (k * 3) (by omega)
          have f0 := gf (k * 3)
          obtain ⟨u1, r1⟩ := gc (k * 3 + 1) (by omega)
          have f1 := gf (k * 3 + 1)
          obtain ⟨u2, r2⟩ := gc (k * 3 + 2) (by omega)
          have f2 := gf (k * 3 + 2)
          have HS := hide (HM.out.setH rfl hlt)
          clear h1 h2 gc gf hgb HM
          go_wp2
          go_roundw
          case rel => exact ⟨k + 1, by omega, by go_num, HS.out⟩
          case measure => simp [intOf]; omega
        · obtain rfl : nh = k := by omega
          have HMH := HM
          clear HM
          have y4 := block_cell HMH.out.b1 4
          simp at y4
          go_wp2
          clear y y4 yl
          go_loopw [7] (fun i wr => ∃ k : Nat, k ≤ nj ∧ i = .int .i64 k ∧ Hid (Mq V q B m T0 T1 ao ho jo n cap nh hcap nj jcap n nh k wr)) (fun i _ => nj - (intOf i).toNat)
          case atStart => exact ⟨0, by omega, rfl, HMH.out⟩
          case round =>
            clear HMH
            obtain ⟨k, hk, rfl, HM⟩ := hrel
            have y := block_cell HM.out.b1 4
            have yl := block_lt HM.out.b1
            simp at y
            by_cases hlt : k < nj
            · obtain ⟨xs, h1, h2⟩ := HM.out.rJ
              obtain ⟨g, rfl, _, gl, hgc, gf, gc, cs, hgb, _⟩ := row_place h1 (by omega)
              obtain ⟨u0, r0⟩ := gc (k * 5) (by omega)
              have f0 := gf (k * 5)
              obtain ⟨u1, r1⟩ := gc (k * 5 + 1) (by omega)
              have f1 := gf (k * 5 + 1)
              obtain ⟨u2, r2⟩ := gc (k * 5 + 2) (by omega)
              have f2 := gf (k * 5 + 2)
              obtain ⟨u3, r3⟩ := gc (k * 5 + 3) (by omega)
              have f3 := gf (k * 5 + 3)
              obtain ⟨u4, r4⟩ := gc (k * 5 + 4) (by omega)
              have f4 := gf (k * 5 + 4)
              have HS := hide (HM.out.setJ rfl hlt)
              clear h1 h2 gc gf hgb HM
              go_wp2
              go_roundw
              case rel => exact ⟨k + 1, by omega, by go_num, HS.out⟩
              case measure => simp [intOf]; omega
            · obtain rfl : nj = k := by omega
              clear y yl
              have HR0 : Hid (Mr V q B m T0 T1 ao ho jo n cap nh hcap nj jcap 0 0 0 (.slice ao n cap) (.slice ho nh hcap) (.slice jo nj jcap) wr) := HM.out.mr HB.out
              have y2 := block_cell HR0.out.b1 2
              have y3 := block_cell HR0.out.b1 3
              have y4 := block_cell HR0.out.b1 4
              have yl := block_lt HR0.out.b1
              simp at y2 y3 y4
              clear HM
              go_upto_region 13 with fail
              go_quiet (fail)
              have HR1 : Hid (Mr V q B m T0 T1 ao ho jo n cap nh hcap nj jcap 0 0 0 (.slice ao n cap) (.slice ho nh hcap) (.slice jo nj jcap) (wr.drewN nq)) := HR0.out.below (below_dA (Below.refl _ _) _)
              generalize wr.drewN nq = wd at *
              clear HR0 y2 y3 y4 yl
              go_wp2
              go_loopw [8, 9, 10, 11] (fun va vh vj i wr => ∃ t : Nat, t ≤ 64 ∧ i = .int .u64 ((t + 1 : Nat) : Int) ∧ Hid (Mr V q B m T0 T1 ao ho jo n cap nh hcap nj jcap t t t va vh vj wr)) (fun _ _ _ i _ => 65 - (intOf i).toNat)
              case atStart => exact ⟨0, by omega, rfl, HR1.out⟩
              case round =>
                clear HR1
                obtain ⟨t, ht, rfl, HR⟩ := hrel
                obtain ⟨K, hK⟩ : ∃ K, t + 1 = K := ⟨_, rfl⟩
                rw [hK]
                by_cases hlt : t < 64
                · have g1 : decide ((K : Int) ≤ 64) = true := decide_eq_true (by omega)
                  obtain ⟨MK, hMK⟩ : ∃ MK : Nat, K * 1099511627776 = MK := ⟨_, rfl⟩
                  obtain ⟨X, hX⟩ : ∃ X : Nat, m + MK = X := ⟨_, rfl⟩
                  have hw1 : IntKind.u64.wrap ((K : Int) * 1099511627776) = (MK : Int) := by rw [IntWalk.u64_in _ ⟨by omega, by omega⟩]; omega
                  have hw2 : IntKind.u64.wrap ((m : Int) + (MK : Int)) = (X : Int) := by rw [IntWalk.u64_in _ ⟨by omega, by omega⟩]; omega
                  have HX : Hid (∀ z, beh m (z + t) z = X) := fun z => by unfold beh; rw [if_neg (by omega), ← hX, ← hMK, ← hK]; congr 2; omega
                  clear hMK hX
                  generalize u8 = va at *
                  generalize u9 = vh at *
                  generalize u10 = vj at *
                  obtain ⟨ysa, y0a, y1a, y2a⟩ := HR.out.aA
                  have HOWa : Hid (∀ o, (wr.alloc o).ownsRow B 80 4 va (n + t) ysa) := fun o => y0a.alloc o
                  have HSZa : Hid (∀ o, B ≤ (wr.alloc o).heap.size) := fun o => by have := HR.out.fr.size; have := HR.out.hB; simp; omega
                  have HAPa : Hid (∀ o v' w4, w4.ownsRow B 80 4 v' (n + t + 1) (ysa ++ [.int .u64 (X : Nat), .int .u64 0, .int .u64 0, .int .u64 0]) → (wr.alloc o).grownBy w4 va.ownBlock → w4.ownsRow B 80 4 va (n + t) ysa → (∀ g, v'.ownBlock = some g → va.ownBlock = some g ∨ (wr.alloc o).heap.size ≤ g) → Hid (Mr V q B m T0 T1 ao ho jo n cap nh hcap nj jcap (t + 1) t t v' vh vj w4)) := fun o v' w4 ho hg hk hat => HR.out.appA y0a y1a y2a ho hg hk hat (by rw [HX.out]; rfl)
                  clear y0a y1a y2a HR
                  go_upto_region 18 with (at_builtin; refine wpList_append_keepN _ rfl (.tmp 69) (.tmp 75) 22 rfl B 80 ia (.agg #[.int .u64 0, .int .u64 0, .int .u64 0, .int .u64 0]) 4 32 Try.underlying22 hia hz0a hz1a hz2a rfl (by decide) va (n + t) ysa rfl (HOWa.out _) ⟨wr.heap.size, 0, none⟩ 1 1 [.int .u64 (X : Nat), .int .u64 0, .int .u64 0, .int .u64 0] rfl rfl (cells_newA _ _ _) (by simp [Value.oneCell']) (by omega) (by unfold maxLen; omega) (by omega) (HSZa.out _) ?_; intro v1 w1 ho hg hk hat; have HR1 := hide (HAPa.out _ _ _ ho hg hk hat); clear ho hg hk hat)
                  clear HOWa HSZa HAPa
                  obtain ⟨ysh, y0h, y1h, y2h⟩ := HR1.out.aH
                  have HOWh : Hid (∀ o, (w1.alloc o).ownsRow B 83 3 vh (nh + t) ysh) := fun o => y0h.alloc o
                  have HSZh : Hid (∀ o, B ≤ (w1.alloc o).heap.size) := fun o => by have := HR1.out.fr.size; have := HR1.out.hB; simp; omega
                  have HAPh : Hid (∀ o v' w4, w4.ownsRow B 83 3 v' (nh + t + 1) (ysh ++ [.int .u64 (X : Nat), .int .u64 0, .int .u64 0]) → (w1.alloc o).grownBy w4 vh.ownBlock → w4.ownsRow B 83 3 vh (nh + t) ysh → (∀ g, v'.ownBlock = some g → vh.ownBlock = some g ∨ (w1.alloc o).heap.size ≤ g) → Hid (Mr V q B m T0 T1 ao ho jo n cap nh hcap nj jcap (t + 1) (t + 1) t v1 v' vj w4)) := fun o v' w4 ho hg hk hat => HR1.out.appH y0h y1h y2h ho hg hk hat (by rw [HX.out]; rfl)
                  clear y0h y1h y2h HR1
                  go_upto_region 19 with (at_builtin; refine wpList_append_keepN _ rfl (.tmp 77) (.tmp 83) 32 rfl B 83 ih (.agg #[.int .u64 0, .int .u64 0, .int .u64 0]) 3 24 Try.underlying32 hih hz0h hz1h hz2h rfl (by decide) vh (nh + t) ysh rfl (HOWh.out _) ⟨w1.heap.size, 0, none⟩ 1 1 [.int .u64 (X : Nat), .int .u64 0, .int .u64 0] rfl rfl (cells_newA _ _ _) (by simp [Value.oneCell']) (by omega) (by unfold maxLen; omega) (by omega) (HSZh.out _) ?_; intro v2 w2 ho hg hk hat; have HR2 := hide (HAPh.out _ _ _ ho hg hk hat); clear ho hg hk hat)
                  clear HOWh HSZh HAPh
                  obtain ⟨ysj, y0j, y1j, y2j⟩ := HR2.out.aJ
                  have HOWj : Hid (∀ o, (w2.alloc o).ownsRow B 68 5 vj (nj + t) ysj) := fun o => y0j.alloc o
                  have HSZj : Hid (∀ o, B ≤ (w2.alloc o).heap.size) := fun o => by have := HR2.out.fr.size; have := HR2.out.hB; simp; omega
                  have HAPj : Hid (∀ o v' w4, w4.ownsRow B 68 5 v' (nj + t + 1) (ysj ++ [.int .u64 (X : Nat), .int .i64 0, .int .u64 0, .int .u64 0, .int .u64 0]) → (w2.alloc o).grownBy w4 vj.ownBlock → w4.ownsRow B 68 5 vj (nj + t) ysj → (∀ g, v'.ownBlock = some g → vj.ownBlock = some g ∨ (w2.alloc o).heap.size ≤ g) → Hid (Mr V q B m T0 T1 ao ho jo n cap nh hcap nj jcap (t + 1) (t + 1) (t + 1) v1 v2 v' w4)) := fun o v' w4 ho hg hk hat => HR2.out.appJ y0j y1j y2j ho hg hk hat (by rw [HX.out]; rfl)
                  clear y0j y1j y2j HR2
                  go_upto_region 16 with (at_builtin; refine wpList_append_keepN _ rfl (.tmp 85) (.tmp 91) 33 rfl B 68 ij (.agg #[.int .u64 0, .int .i64 0, .int .u64 0, .int .u64 0, .int .u64 0]) 5 40 Try.underlying33 hij hz0j hz1j hz2j rfl (by decide) vj (nj + t) ysj rfl (HOWj.out _) ⟨w2.heap.size, 0, none⟩ 1 1 [.int .u64 (X : Nat), .int .i64 0, .int .u64 0, .int .u64 0, .int .u64 0] rfl rfl (cells_newA _ _ _) (by simp [Value.oneCell']) (by omega) (by unfold maxLen; omega) (by omega) (HSZj.out _) ?_; intro v3 w3 ho hg hk hat; have HR3 := hide (HAPj.out _ _ _ ho hg hk hat); clear ho hg hk hat)
                  clear HOWj HSZj HAPj
                  go_wp2
                  go_roundw
                  case rel => exact ⟨t + 1, by omega, by rw [hK]; go_num, HR3.out.out⟩
                  case measure => simp [intOf]; omega
                · obtain rfl : t = 64 := by omega
                  subst hK
                  generalize u8 = va at *
                  generalize u9 = vh at *
                  generalize u10 = vj at *
                  obtain ⟨ysa, y0a, _⟩ := HR.out.aA
                  obtain ⟨ya, yac, rfl⟩ := own_form2 y0a
                  obtain ⟨ysh, y0h, _⟩ := HR.out.aH
                  obtain ⟨yh, yhc, rfl⟩ := own_form2 y0h
                  obtain ⟨ysj, y0j, _⟩ := HR.out.aJ
                  obtain ⟨yj, yjc, rfl⟩ := own_form2 y0j
                  have x0 := block_cell HR.out.b1 0
                  have x1 := block_cell HR.out.b1 1
                  have x2 := block_cell HR.out.b1 2
                  have x3 := block_cell HR.out.b1 3
                  have x4 := block_cell HR.out.b1 4
                  have xl := block_lt HR.out.b1
                  simp at x0 x1 x2 x3 x4
                  have z0 := block_cell HR.out.b2 0
                  have f0 := block_free HR.out.b2 0
                  have z1 := block_cell HR.out.b2 1
                  have f1 := block_free HR.out.b2 1
                  have z2 := block_cell HR.out.b2 2
                  have f2 := block_free HR.out.b2 2
                  have z3 := block_cell HR.out.b2 3
                  have f3 := block_free HR.out.b2 3
                  have z4 := block_cell HR.out.b2 4
                  have f4 := block_free HR.out.b2 4
                  have z5 := block_cell HR.out.b2 5
                  have f5 := block_free HR.out.b2 5
                  have z6 := block_cell HR.out.b2 6
                  have f6 := block_free HR.out.b2 6
                  have z7 := block_cell HR.out.b2 7
                  have f7 := block_free HR.out.b2 7
                  have z8 := block_cell HR.out.b2 8
                  have f8 := block_free HR.out.b2 8
                  have zl := block_lt HR.out.b2
                  simp at z0 z1 z2 z3 z4 z5 z6 z7 z8
                  have HE : Hid (MkR (((((((((wr.setCell ⟨q + 1, 0, none⟩ (.int .u64 T0)).setCell ⟨q + 1, 1, none⟩ (.int .u64 T1)).setCell ⟨q + 1, 2, none⟩ (.slice ao n cap)).setCell ⟨q + 1, 3, none⟩ (.slice ho nh hcap)).setCell ⟨q + 1, 4, none⟩ (.slice jo nj jcap)).setCell ⟨q + 1, 5, none⟩ (.slice ya (n + 64) yac)).setCell ⟨q + 1, 6, none⟩ (.slice yh (nh + 64) yhc)).setCell ⟨q + 1, 7, none⟩ (.slice yj (nj + 64) yjc)).setCell ⟨q + 1, 8, none⟩ (.int .u64 (m : Nat))) m n nh nj ao ho jo ya yh yj (fun g => ao = some ⟨g, 0, none⟩ ∨ ho = some ⟨g, 0, none⟩ ∨ jo = some ⟨g, 0, none⟩ ∨ V.heap.size ≤ g) ∧ FrM V (((((((((wr.setCell ⟨q + 1, 0, none⟩ (.int .u64 T0)).setCell ⟨q + 1, 1, none⟩ (.int .u64 T1)).setCell ⟨q + 1, 2, none⟩ (.slice ao n cap)).setCell ⟨q + 1, 3, none⟩ (.slice ho nh hcap)).setCell ⟨q + 1, 4, none⟩ (.slice jo nj jcap)).setCell ⟨q + 1, 5, none⟩ (.slice ya (n + 64) yac)).setCell ⟨q + 1, 6, none⟩ (.slice yh (nh + 64) yhc)).setCell ⟨q + 1, 7, none⟩ (.slice yj (nj + 64) yjc)).setCell ⟨q + 1, 8, none⟩ (.int .u64 (m : Nat))) (.slice ao n cap) (.slice ho nh hcap) (.slice jo nj jcap)) := by
                    have hg : wr.grownBy (((((((((wr.setCell ⟨q + 1, 0, none⟩ (.int .u64 T0)).setCell ⟨q + 1, 1, none⟩ (.int .u64 T1)).setCell ⟨q + 1, 2, none⟩ (.slice ao n cap)).setCell ⟨q + 1, 3, none⟩ (.slice ho nh hcap)).setCell ⟨q + 1, 4, none⟩ (.slice jo nj jcap)).setCell ⟨q + 1, 5, none⟩ (.slice ya (n + 64) yac)).setCell ⟨q + 1, 6, none⟩ (.slice yh (nh + 64) yhc)).setCell ⟨q + 1, 7, none⟩ (.slice yj (nj + 64) yjc)).setCell ⟨q + 1, 8, none⟩ (.int .u64 (m : Nat))) (some (q + 1)) := far_two (far_two (far_two (far_two (far_two (far_two (far_two (far_two (grown_set wr (q + 1) 0 _) (grown_set _ (q + 1) 1 _)) (grown_set _ (q + 1) 2 _)) (grown_set _ (q + 1) 3 _)) (grown_set _ (q + 1) 4 _)) (grown_set _ (q + 1) 5 _)) (grown_set _ (q + 1) 6 _)) (grown_set _ (q + 1) 7 _)) (grown_set _ (q + 1) 8 _)
                    have h := HR.out
                    have hq := HQ.out
                    have off : ∀ {g : Nat} {cs : Array Value} {ty : TypeId}, wr.heap[g]? = some (.cells cs ty (0, 0)) → ty ≠ 48 → (((((((((wr.setCell ⟨q + 1, 0, none⟩ (.int .u64 T0)).setCell ⟨q + 1, 1, none⟩ (.int .u64 T1)).setCell ⟨q + 1, 2, none⟩ (.slice ao n cap)).setCell ⟨q + 1, 3, none⟩ (.slice ho nh hcap)).setCell ⟨q + 1, 4, none⟩ (.slice jo nj jcap)).setCell ⟨q + 1, 5, none⟩ (.slice ya (n + 64) yac)).setCell ⟨q + 1, 6, none⟩ (.slice yh (nh + 64) yhc)).setCell ⟨q + 1, 7, none⟩ (.slice yj (nj + 64) yjc)).setCell ⟨q + 1, 8, none⟩ (.int .u64 (m : Nat))).heap[g]? = some (.cells cs ty (0, 0)) := fun {g cs ty} hgb hty => (hg.block g (block_lt hgb) (fun e => by
                      cases e
                      rw [h.b2] at hgb
                      cases hgb
                      exact hty rfl)).trans hgb
                    have mA : MF 80 4 (mvA m) (((((((((wr.setCell ⟨q + 1, 0, none⟩ (.int .u64 T0)).setCell ⟨q + 1, 1, none⟩ (.int .u64 T1)).setCell ⟨q + 1, 2, none⟩ (.slice ao n cap)).setCell ⟨q + 1, 3, none⟩ (.slice ho nh hcap)).setCell ⟨q + 1, 4, none⟩ (.slice jo nj jcap)).setCell ⟨q + 1, 5, none⟩ (.slice ya (n + 64) yac)).setCell ⟨q + 1, 6, none⟩ (.slice yh (nh + 64) yhc)).setCell ⟨q + 1, 7, none⟩ (.slice yj (nj + 64) yjc)).setCell ⟨q + 1, 8, none⟩ (.int .u64 (m : Nat))) n ao (fun g => ao = some ⟨g, 0, none⟩ ∨ ho = some ⟨g, 0, none⟩ ∨ jo = some ⟨g, 0, none⟩ ∨ V.heap.size ≤ g) := fun hn0 => by
                      obtain ⟨g, cs, e, hp, hgb, hc⟩ := h.mA hn0
                      exact ⟨g, cs, e, .inl hp, off hgb (by decide), hc⟩
                    have xA : XF 80 4 (mvA m) m (((((((((wr.setCell ⟨q + 1, 0, none⟩ (.int .u64 T0)).setCell ⟨q + 1, 1, none⟩ (.int .u64 T1)).setCell ⟨q + 1, 2, none⟩ (.slice ao n cap)).setCell ⟨q + 1, 3, none⟩ (.slice ho nh hcap)).setCell ⟨q + 1, 4, none⟩ (.slice jo nj jcap)).setCell ⟨q + 1, 5, none⟩ (.slice ya (n + 64) yac)).setCell ⟨q + 1, 6, none⟩ (.slice yh (nh + 64) yhc)).setCell ⟨q + 1, 7, none⟩ (.slice yj (nj + 64) yjc)).setCell ⟨q + 1, 8, none⟩ (.int .u64 (m : Nat))) n ya (fun g => ao = some ⟨g, 0, none⟩ ∨ ho = some ⟨g, 0, none⟩ ∨ jo = some ⟨g, 0, none⟩ ∨ V.heap.size ≤ g) := by
                      obtain ⟨g, cs, e, hp, hgb, hc⟩ := (h.aA).xf (P := fun g => ao = some ⟨g, 0, none⟩ ∨ ho = some ⟨g, 0, none⟩ ∨ jo = some ⟨g, 0, none⟩ ∨ V.heap.size ≤ g) (fun g e => by
                        rcases h.pA g (own_at0 e) with e1 | e1
                        · exact .inl e1
                        · exact .inr (.inr (.inr e1)))
                      exact ⟨g, cs, e, hp, off hgb (by decide), hc⟩
                    have mH : MF 83 3 (mvH m) (((((((((wr.setCell ⟨q + 1, 0, none⟩ (.int .u64 T0)).setCell ⟨q + 1, 1, none⟩ (.int .u64 T1)).setCell ⟨q + 1, 2, none⟩ (.slice ao n cap)).setCell ⟨q + 1, 3, none⟩ (.slice ho nh hcap)).setCell ⟨q + 1, 4, none⟩ (.slice jo nj jcap)).setCell ⟨q + 1, 5, none⟩ (.slice ya (n + 64) yac)).setCell ⟨q + 1, 6, none⟩ (.slice yh (nh + 64) yhc)).setCell ⟨q + 1, 7, none⟩ (.slice yj (nj + 64) yjc)).setCell ⟨q + 1, 8, none⟩ (.int .u64 (m : Nat))) nh ho (fun g => ao = some ⟨g, 0, none⟩ ∨ ho = some ⟨g, 0, none⟩ ∨ jo = some ⟨g, 0, none⟩ ∨ V.heap.size ≤ g) := fun hn0 => by
                      obtain ⟨g, cs, e, hp, hgb, hc⟩ := h.mH hn0
                      exact ⟨g, cs, e, .inr (.inl hp), off hgb (by decide), hc⟩
                    have xH : XF 83 3 (mvH m) m (((((((((wr.setCell ⟨q + 1, 0, none⟩ (.int .u64 T0)).setCell ⟨q + 1, 1, none⟩ (.int .u64 T1)).setCell ⟨q + 1, 2, none⟩ (.slice ao n cap)).setCell ⟨q + 1, 3, none⟩ (.slice ho nh hcap)).setCell ⟨q + 1, 4, none⟩ (.slice jo nj jcap)).setCell ⟨q + 1, 5, none⟩ (.slice ya (n + 64) yac)).setCell ⟨q + 1, 6, none⟩ (.slice yh (nh + 64) yhc)).setCell ⟨q + 1, 7, none⟩ (.slice yj (nj + 64) yjc)).setCell ⟨q + 1, 8, none⟩ (.int .u64 (m : Nat))) nh yh (fun g => ao = some ⟨g, 0, none⟩ ∨ ho = some ⟨g, 0, none⟩ ∨ jo = some ⟨g, 0, none⟩ ∨ V.heap.size ≤ g) := by
                      obtain ⟨g, cs, e, hp, hgb, hc⟩ := (h.aH).xf (P := fun g => ao = some ⟨g, 0, none⟩ ∨ ho = some ⟨g, 0, none⟩ ∨ jo = some ⟨g, 0, none⟩ ∨ V.heap.size ≤ g) (fun g e => by
                        rcases h.pH g (own_at0 e) with e1 | e1
                        · exact .inr (.inl e1)
                        · exact .inr (.inr (.inr e1)))
                      exact ⟨g, cs, e, hp, off hgb (by decide), hc⟩
                    have mJ : MF 68 5 (mvJ m) (((((((((wr.setCell ⟨q + 1, 0, none⟩ (.int .u64 T0)).setCell ⟨q + 1, 1, none⟩ (.int .u64 T1)).setCell ⟨q + 1, 2, none⟩ (.slice ao n cap)).setCell ⟨q + 1, 3, none⟩ (.slice ho nh hcap)).setCell ⟨q + 1, 4, none⟩ (.slice jo nj jcap)).setCell ⟨q + 1, 5, none⟩ (.slice ya (n + 64) yac)).setCell ⟨q + 1, 6, none⟩ (.slice yh (nh + 64) yhc)).setCell ⟨q + 1, 7, none⟩ (.slice yj (nj + 64) yjc)).setCell ⟨q + 1, 8, none⟩ (.int .u64 (m : Nat))) nj jo (fun g => ao = some ⟨g, 0, none⟩ ∨ ho = some ⟨g, 0, none⟩ ∨ jo = some ⟨g, 0, none⟩ ∨ V.heap.size ≤ g) := fun hn0 => by
                      obtain ⟨g, cs, e, hp, hgb, hc⟩ := h.mJ hn0
                      exact ⟨g, cs, e, .inr (.inr (.inl hp)), off hgb (by decide), hc⟩
                    have xJ : XF 68 5 (mvJ m) m (((((((((wr.setCell ⟨q + 1, 0, none⟩ (.int .u64 T0)).setCell ⟨q + 1, 1, none⟩ (.int .u64 T1)).setCell ⟨q + 1, 2, none⟩ (.slice ao n cap)).setCell ⟨q + 1, 3, none⟩ (.slice ho nh hcap)).setCell ⟨q + 1, 4, none⟩ (.slice jo nj jcap)).setCell ⟨q + 1, 5, none⟩ (.slice ya (n + 64) yac)).setCell ⟨q + 1, 6, none⟩ (.slice yh (nh + 64) yhc)).setCell ⟨q + 1, 7, none⟩ (.slice yj (nj + 64) yjc)).setCell ⟨q + 1, 8, none⟩ (.int .u64 (m : Nat))) nj yj (fun g => ao = some ⟨g, 0, none⟩ ∨ ho = some ⟨g, 0, none⟩ ∨ jo = some ⟨g, 0, none⟩ ∨ V.heap.size ≤ g) := by
                      obtain ⟨g, cs, e, hp, hgb, hc⟩ := (h.aJ).xf (P := fun g => ao = some ⟨g, 0, none⟩ ∨ ho = some ⟨g, 0, none⟩ ∨ jo = some ⟨g, 0, none⟩ ∨ V.heap.size ≤ g) (fun g e => by
                        rcases h.pJ g (own_at0 e) with e1 | e1
                        · exact .inr (.inr (.inl e1))
                        · exact .inr (.inr (.inr e1)))
                      exact ⟨g, cs, e, hp, off hgb (by decide), hc⟩
                    exact ⟨⟨mA, xA, mH, xH, mJ, xJ⟩, h.fr.go hg (fun g e => by cases e; exact .inr (.inr (.inr (by omega))))⟩
                  clear HR y0a y0h y0j HB HQ
                  go_wp2
                  refine bodyPost_ret (v := .agg #[.int .u64 T0, .int .u64 T1, .slice ao n cap, .slice ho nh hcap, .slice jo nj jcap, .slice ya (n + 64) yac, .slice yh (nh + 64) yhc, .slice yj (nj + 64) yjc, .int .u64 (m : Nat)]) (by simp [results, Try.results14, go_sem, z0, z1, z2, z3, z4, z5, z6, z7, z8]) rfl ⟨ya, yac, yh, yhc, yj, yjc, rfl, HE.out⟩
end Go.Proofs.Ytcfenjpdjogmdaa
