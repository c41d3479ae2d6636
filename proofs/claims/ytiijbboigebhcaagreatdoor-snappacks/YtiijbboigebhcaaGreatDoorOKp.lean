import Derived.Deep.DeepCutAuto
import Derived.Deep.RegionHeld
import Derived.BigQuiet
import Derived.Test.YtiijbboigebhcaaGreatDoorM33
import Derived.Test.YtiijbboigebhcaaGreatDoorM35
namespace Go.Proofs.YtiijbboigebhcaaGreatDoor
open Go.RowKit Crc

/-- The mark behind a row. -/
theorem mark_at {W : World} {base z n cap : Nat} {e : TypeId} {ao : Option Addr} {xs ys : List Value} {u : Value} (h : W.ownsRow base e z (.slice ao (n + 1) cap) (n + 1) (xs ++ ys)) (hy : ys.length = z) (hu : ys[0]? = some u) : ∃ g, ao = some ⟨g, 0, none⟩ ∧ g < W.heap.size ∧ W.cell? ⟨g, n * z, none⟩ = some u ∧ n + 1 ≤ cap := by
  have hl : xs.length = n * z := by have := h.1; rw [List.length_append, hy, Nat.add_mul] at this; omega
  obtain ⟨g, h1, h2, h3, -⟩ := (hr_of h).at_ (i := n * z) (u := u) (by rw [List.getElem?_append_right (by omega), hl, Nat.sub_self]; exact hu)
  subst h1
  exact ⟨g, rfl, h2, h3, own_cap h⟩
theorem Twn.below {m m' : Mi} {lo : Nat} {W W' : World} (h : Twn m m' lo W) (hb : Below W.heap.size W W') : Twn m m' lo W' := by
  obtain ⟨h1, h2, h3, ⟨x1, k1⟩, ⟨x2, k2⟩, ⟨x3, k3⟩, ⟨x4, k4⟩, ⟨x5, k5⟩, h9⟩ := h
  have g := below_none hb
  exact ⟨h1, h2, h3.below hb, ⟨x1, own_other k1 g (.inl rfl) (t := 0) (by decide)⟩, ⟨x2, own_other k2 g (.inl rfl) (t := 0) (by decide)⟩, ⟨x3, own_other k3 g (.inl rfl) (t := 0) (by decide)⟩, ⟨x4, own_other k4 g (.inl rfl) (t := 0) (by decide)⟩, ⟨x5, own_other k5 g (.inl rfl) (t := 0) (by decide)⟩, h9.quiet hb⟩
set_option maxRecDepth 10000 in
set_option maxHeartbeats 3200000 in
theorem keptImage_any (m m' : Mi) {lo : Nat} {w : World} (hv : m.Vw w) (ht : Twn m m' lo w) (hs : m.Sml) : Calls Tryz.prog 11 #[.agg #[.int .u64 (m'.slot : Int), .int .u64 (m'.now : Int), .int .u64 (m'.tot : Int), .int .u64 (m'.nx : Int), .slice m'.ao m'.an m'.ac, .slice m'.ho m'.hn m'.hc, .slice m'.jo m'.jn m'.jc, .slice m'.dO m'.dn m'.dc, .int .u64 (m'.ends : Int), .slice m'.so m'.sn m'.sc], .agg #[.int .u64 (m.slot : Int), .int .u64 (m.now : Int), .int .u64 (m.tot : Int), .int .u64 (m.nx : Int), .slice m.ao m.an m.ac, .slice m.ho m.hn m.hc, .slice m.jo m.jn m.jc, .slice m.dO m.dn m.dc, .int .u64 (m.ends : Int), .slice m.so m.sn m.sc]] w fun e w' => e = .returned (.bool true) ∧ Hid (Below w.heap.size w w') := by
  have SIX : Hid (∀ W, Below w.heap.size w W → Calls Tryz.prog 15 #[.agg #[.int .u64 (m.slot : Int), .int .u64 (m.now : Int), .int .u64 (m.tot : Int), .int .u64 (m.nx : Int), .slice m.ao m.an m.ac, .slice m.ho m.hn m.hc, .slice m.jo m.jn m.jc, .slice m.dO m.dn m.dc, .int .u64 (m.ends : Int), .slice m.so m.sn m.sc], .agg #[.int .u64 (m'.slot : Int), .int .u64 (m'.now : Int), .int .u64 (m'.tot : Int), .int .u64 (m'.nx : Int), .slice m'.ao m'.an m'.ac, .slice m'.ho m'.hn m'.hc, .slice m'.jo m'.jn m'.jc, .slice m'.dO m'.dn m'.dc, .int .u64 (m'.ends : Int), .slice m'.so m'.sn m'.sc]] W fun e w' => e = .returned (.bool true) ∧ Hid (Below W.heap.size W w')) := fun W hb => sameImage_v (hv.below hb) (ht.own.below hb) ht.val.symm ⟨by have := hs.a; omega, by have := hs.h; omega, by have := hs.j; omega, by have := hs.d; omega, by have := hs.s; omega⟩
  obtain ⟨xa, ka⟩ := ht.ka
  obtain ⟨xh, kh⟩ := ht.kh
  obtain ⟨xj, kj⟩ := ht.kj
  obtain ⟨xd, kd⟩ := ht.kd
  obtain ⟨xs, ks⟩ := ht.ks
  obtain ⟨ga, ea, la, ma, pa⟩ := mark_at ka rfl rfl
  obtain ⟨gh, eh, lh, mh, ph⟩ := mark_at kh rfl rfl
  obtain ⟨gj, ej, lj, mj, pj⟩ := mark_at kj rfl rfl
  obtain ⟨gd, ed, ld, md, pd⟩ := mark_at kd rfl rfl
  obtain ⟨gs, es, ls, ms, ps⟩ := mark_at ks rfl rfl
  have HT := hide ht
  obtain ⟨l1, l2, l3, l4, l5⟩ := ht.len
  have hsa := hs.a
  have hsh := hs.h
  have hsj := hs.j
  have hsd := hs.d
  have hss := hs.s
  have HLS := hide hv.s.row.len
  have HV := hide hv
  have HSU := hide hs.u
  obtain ⟨s', t', x', y', A', H', J', D', u', S', ao', an', ac', ho', hn', hc', jo', jn', jc', dO', dn', dc', so', sn', sc'⟩ := m'
  dsimp only at *
  subst l1 l2 l3 l4 l5 ea eh ej ed es
  obtain ⟨W1, hW1⟩ : ∃ W1, (w.alloc (.cells #[.int .u64 (s' : Int), .int .u64 (t' : Int), .int .u64 (x' : Int), .int .u64 (y' : Int), .slice (some ⟨ga, 0, none⟩) m.an ac', .slice (some ⟨gh, 0, none⟩) m.hn hc', .slice (some ⟨gj, 0, none⟩) m.jn jc', .slice (some ⟨gd, 0, none⟩) m.dn dc', .int .u64 (u' : Int), .slice (some ⟨gs, 0, none⟩) m.sn sc'] 33)).alloc (.cells #[.int .u64 (m.slot : Int), .int .u64 (m.now : Int), .int .u64 (m.tot : Int), .int .u64 (m.nx : Int), .slice m.ao m.an m.ac, .slice m.ho m.hn m.hc, .slice m.jo m.jn m.jc, .slice m.dO m.dn m.dc, .int .u64 (m.ends : Int), .slice m.so m.sn m.sc] 33) = W1 := ⟨_, rfl⟩
  have s0 : (w.alloc (.cells #[.int .u64 (s' : Int), .int .u64 (t' : Int), .int .u64 (x' : Int), .int .u64 (y' : Int), .slice (some ⟨ga, 0, none⟩) m.an ac', .slice (some ⟨gh, 0, none⟩) m.hn hc', .slice (some ⟨gj, 0, none⟩) m.jn jc', .slice (some ⟨gd, 0, none⟩) m.dn dc', .int .u64 (u' : Int), .slice (some ⟨gs, 0, none⟩) m.sn sc'] 33)).heap.size = w.heap.size + 1 := by simp
  have b1 : Below w.heap.size w W1 := by rw [← hW1]; exact ((Below.refl _ w).alloc (Nat.le_refl _) _).alloc (by simp) _
  have q1 : W1.heap[w.heap.size]? = some (.cells #[.int .u64 (s' : Int), .int .u64 (t' : Int), .int .u64 (x' : Int), .int .u64 (y' : Int), .slice (some ⟨ga, 0, none⟩) m.an ac', .slice (some ⟨gh, 0, none⟩) m.hn hc', .slice (some ⟨gj, 0, none⟩) m.jn jc', .slice (some ⟨gd, 0, none⟩) m.dn dc', .int .u64 (u' : Int), .slice (some ⟨gs, 0, none⟩) m.sn sc'] 33 (0, 0)) := by rw [← hW1]; exact ((World.grownBy_alloc _ _ none).block _ (by rw [s0]; omega) (by simp)).trans (alloc_atN _ _)
  have q2 : W1.heap[w.heap.size + 1]? = some (.cells #[.int .u64 (m.slot : Int), .int .u64 (m.now : Int), .int .u64 (m.tot : Int), .int .u64 (m.nx : Int), .slice m.ao m.an m.ac, .slice m.ho m.hn m.hc, .slice m.jo m.jn m.jc, .slice m.dO m.dn m.dc, .int .u64 (m.ends : Int), .slice m.so m.sn m.sc] 33 (0, 0)) := by rw [← hW1, ← s0]; exact alloc_atN _ _
  have SI := hide (SIX.out W1 b1)
  have CE : Hid (∀ V, Below W1.heap.size W1 V → V.heap[w.heap.size]? = some (.cells #[.int .u64 (s' : Int), .int .u64 (t' : Int), .int .u64 (x' : Int), .int .u64 (y' : Int), .slice (some ⟨ga, 0, none⟩) m.an ac', .slice (some ⟨gh, 0, none⟩) m.hn hc', .slice (some ⟨gj, 0, none⟩) m.jn jc', .slice (some ⟨gd, 0, none⟩) m.dn dc', .int .u64 (u' : Int), .slice (some ⟨gs, 0, none⟩) m.sn sc'] 33 (0, 0)) ∧ V.heap[w.heap.size + 1]? = some (.cells #[.int .u64 (m.slot : Int), .int .u64 (m.now : Int), .int .u64 (m.tot : Int), .int .u64 (m.nx : Int), .slice m.ao m.an m.ac, .slice m.ho m.hn m.hc, .slice m.jo m.jn m.jc, .slice m.dO m.dn m.dc, .int .u64 (m.ends : Int), .slice m.so m.sn m.sc] 33 (0, 0)) ∧ Below w.heap.size w V) := fun V h => ⟨(h.block _ (block_lt q1)).trans q1, (h.block _ (block_lt q2)).trans q2, below_trans1 b1 h⟩
  have MK : Hid (∀ V, Below w.heap.size w V → (V.cell? ⟨ga, m.an * 4, none⟩ = some (.int .u64 81) ∧ V.cell? ⟨gh, m.hn * 3, none⟩ = some (.int .u64 82) ∧ V.cell? ⟨gj, m.jn * 5, none⟩ = some (.int .u64 83) ∧ V.cell? ⟨gd, m.dn * 13, none⟩ = some (.int .u64 84) ∧ V.cell? ⟨gs, m.sn * 5, none⟩ = some (.int .u64 85)) ∧ (ga < V.heap.size ∧ gh < V.heap.size ∧ gj < V.heap.size ∧ gd < V.heap.size ∧ gs < V.heap.size)) := fun V h => ⟨⟨(h.cell (p := ⟨ga, _, none⟩) la).trans ma, (h.cell (p := ⟨gh, _, none⟩) lh).trans mh, (h.cell (p := ⟨gj, _, none⟩) lj).trans mj, (h.cell (p := ⟨gd, _, none⟩) ld).trans md, (h.cell (p := ⟨gs, _, none⟩) ls).trans ms⟩, by have := h.size; omega⟩
  have HW1 := hide hW1
  have Q1 := hide q1
  have Q2 := hide q2
  clear s0 b1 q1 q2 hW1 hv ht hs ka kh kj kd ks la lh lj ld ls ma mh mj md ms SIX
  go_enter Tryz.func11, Tryz.ntmps11
  go_upto_region 1 with fail
  rw [HW1.out]
  have y0 := block_cell Q1.out 0
  have y1 := block_cell Q1.out 1
  have y2 := block_cell Q1.out 2
  have y3 := block_cell Q1.out 3
  have y4 := block_cell Q1.out 4
  have y5 := block_cell Q1.out 5
  have y6 := block_cell Q1.out 6
  have y7 := block_cell Q1.out 7
  have y8 := block_cell Q1.out 8
  have y9 := block_cell Q1.out 9
  simp at y0 y1 y2 y3 y4 y5 y6 y7 y8 y9
  have hly := block_lt Q1.out
  have z0 := block_cell Q2.out 0
  have z1 := block_cell Q2.out 1
  have z2 := block_cell Q2.out 2
  have z3 := block_cell Q2.out 3
  have z4 := block_cell Q2.out 4
  have z5 := block_cell Q2.out 5
  have z6 := block_cell Q2.out 6
  have z7 := block_cell Q2.out 7
  have z8 := block_cell Q2.out 8
  have z9 := block_cell Q2.out 9
  simp at z0 z1 z2 z3 z4 z5 z6 z7 z8 z9
  have hlz := block_lt Q2.out
  go_wp2_with fail
  refine SI.out.mono ?_
  rintro e W2 ⟨rfl, G2⟩
  clear hly hlz y0 z0 y1 z1 y2 z2 y3 z3 y4 z4 y5 z5 y6 z6 y7 z7 y8 z8 y9 z9
  obtain ⟨r1, r2, B2⟩ := CE.out _ G2.out
  have HB2 := hide B2
  obtain ⟨⟨ma, mh, mj, md, ms⟩, la, lh, lj, ld, ls⟩ := MK.out _ B2
  have y4 := block_cell r1 4
  have y5 := block_cell r1 5
  have y6 := block_cell r1 6
  have y7 := block_cell r1 7
  have y9 := block_cell r1 9
  simp at y4 y5 y6 y7 y9
  have hly := block_lt r1
  have z4 := block_cell r2 4
  have z5 := block_cell r2 5
  have z6 := block_cell r2 6
  have z7 := block_cell r2 7
  have z9 := block_cell r2 9
  simp at z4 z5 z6 z7 z9
  have hlz := block_lt r2
  have R2 := hide (And.intro r1 r2)
  clear r1 r2 B2 SI HW1 Q1 Q2
  have wa : IntKind.i64.wrap ((m.an : Int) + 1) = (m.an : Int) + 1 := by simp [IntKind.wrap, IntKind.bits, IntKind.signed]; omega
  have wh : IntKind.i64.wrap ((m.hn : Int) + 1) = (m.hn : Int) + 1 := by simp [IntKind.wrap, IntKind.bits, IntKind.signed]; omega
  have wj : IntKind.i64.wrap ((m.jn : Int) + 1) = (m.jn : Int) + 1 := by simp [IntKind.wrap, IntKind.bits, IntKind.signed]; omega
  go_wp2_with fail
  go_quiet (fail)
  go_wp2_with fail
  go_quiet (fail)
  go_wp2_with fail
  go_quiet (fail)
  have R0 := hide (Below.refl W2.heap.size W2)
  go_wp2
  clear ma mh mj md ms la lh lj ld ls hly hlz y4 y5 y6 y7 y9 z4 z5 z6 z7 z9 wa wh wj
  go_loopw [11] (fun i wr => ∃ k : Nat, k ≤ m.sn ∧ i = .int .i64 k ∧ Hid (Below W2.heap.size W2 wr)) (fun i _ => m.sn - (intOf i).toNat)
  case atStart => exact ⟨0, by omega, rfl, by first | exact R0.out | exact Go.below_drewN R0.out 1 | exact Go.below_drewN R0.out 2 | exact Go.below_drewN R0.out 3 | exact Go.below_drewN R0.out _⟩
  case round =>
    obtain ⟨k, hk, rfl, HS⟩ := hrel
    have r1 := (HS.out.block _ (block_lt R2.out.1)).trans R2.out.1
    have r2 := (HS.out.block _ (block_lt R2.out.2)).trans R2.out.2
    have y9 := block_cell r1 9
    have z9 := block_cell r2 9
    simp at y9 z9
    have hly := block_lt r1
    have hlz := block_lt r2
    by_cases hlk : k < m.sn
    · obtain ⟨x, hx⟩ : ∃ x, m.S[k]? = some x := ⟨_, List.getElem?_eq_getElem (by rw [HLS.out]; exact hlk)⟩
      have bw := below_trans1 HB2.out HS.out
      obtain ⟨b, off, hao, hbw, hc⟩ := (HV.out.below bw).s.row.at_ (fun _ => rfl) hx
      have T2 := HT.out.below bw
      have hlen := T2.dat.len
      obtain ⟨y, hy⟩ : ∃ y, S'[k]? = some y := ⟨_, List.getElem?_eq_getElem (by dsimp only at hlen; omega)⟩
      obtain ⟨x2, g, e1, e2, tw, -, -⟩ := T2.dat.at_ k y hy
      rw [hx] at e1
      cases e1
      obtain ⟨gs', ee, -, -, -, hd⟩ := T2.own.s.row.at_ len_Sn hy
      cases ee
      have hgs : gs < wr.heap.size := by have := (MK.out _ bw).2.2.2.2.2; exact this
      have c4 := hc 4 _ rfl
      have d4 := hd 4 _ rfl
      rw [e2] at d4
      have hcn := HSU.out x (List.mem_of_getElem? hx)
      have SHX := hide ((HV.out.below bw).s.own x (List.mem_of_getElem? hx))
      have TWX := hide tw
      rw [hao] at z9
      have SB : Hid (∀ V, Below wr.heap.size wr V → V.cell? ⟨w.heap.size, 9, none⟩ = some (.slice (some ⟨gs, 0, none⟩) m.sn sc') ∧ V.cell? ⟨w.heap.size + 1, 9, none⟩ = some (.slice (some ⟨b, off, none⟩) m.sn m.sc) ∧ V.cell? ⟨gs, k * 5 + 4, none⟩ = some (.slice (some ⟨g, 0, none⟩) x.cn (x.cn + 72)) ∧ V.cell? ⟨b, off + k * 5 + 4, none⟩ = some (.slice x.co x.cn x.cc) ∧ Hid (Below wr.heap.size wr V)) := fun V hv => ⟨(hv.cell (p := ⟨w.heap.size, 9, none⟩) hly).trans y9, (hv.cell (p := ⟨w.heap.size + 1, 9, none⟩) hlz).trans z9, (hv.cell (p := ⟨gs, _, none⟩) hgs).trans d4, (hv.cell (p := ⟨b, _, none⟩) hbw).trans c4, hv⟩
      have HK : Hid (∀ V, (fun V : World => V.cell? ⟨w.heap.size, 9, none⟩ = some (.slice (some ⟨gs, 0, none⟩) m.sn sc') ∧ V.cell? ⟨w.heap.size + 1, 9, none⟩ = some (.slice (some ⟨b, off, none⟩) m.sn m.sc) ∧ V.cell? ⟨gs, k * 5 + 4, none⟩ = some (.slice (some ⟨g, 0, none⟩) x.cn (x.cn + 72)) ∧ V.cell? ⟨b, off + k * 5 + 4, none⟩ = some (.slice x.co x.cn x.cc) ∧ Hid (Below wr.heap.size wr V)) V → Calls Tryz.prog 16 #[.slice (some ⟨g, 0, none⟩) x.cn (x.cn + 72), .slice x.co x.cn x.cc] V fun e w' => e = .returned (.bool true) ∧ Hid ((fun V : World => V.cell? ⟨w.heap.size, 9, none⟩ = some (.slice (some ⟨gs, 0, none⟩) m.sn sc') ∧ V.cell? ⟨w.heap.size + 1, 9, none⟩ = some (.slice (some ⟨b, off, none⟩) m.sn m.sc) ∧ V.cell? ⟨gs, k * 5 + 4, none⟩ = some (.slice (some ⟨g, 0, none⟩) x.cn (x.cn + 72)) ∧ V.cell? ⟨b, off + k * 5 + 4, none⟩ = some (.slice x.co x.cn x.cc) ∧ Hid (Below wr.heap.size wr V)) w')) := fun V hV => (kept6 (TWX.out.other (below_none hV.2.2.2.2.out) (.inl rfl) (t := 0) (by decide)) (SHX.out.grows hV.2.2.2.2.out)).mono fun _ w' ⟨e, q, hw⟩ => ⟨e, by rw [hw]; exact SB.out _ (Go.below_drewN hV.2.2.2.2.out q)⟩
      have SDR : Hid ((fun V : World => V.cell? ⟨w.heap.size, 9, none⟩ = some (.slice (some ⟨gs, 0, none⟩) m.sn sc') ∧ V.cell? ⟨w.heap.size + 1, 9, none⟩ = some (.slice (some ⟨b, off, none⟩) m.sn m.sc) ∧ V.cell? ⟨gs, k * 5 + 4, none⟩ = some (.slice (some ⟨g, 0, none⟩) x.cn (x.cn + 72)) ∧ V.cell? ⟨b, off + k * 5 + 4, none⟩ = some (.slice x.co x.cn x.cc) ∧ Hid (Below wr.heap.size wr V)) wr.drew) := SB.out _ (Go.below_drewN (Below.refl _ _) 1)
      have HS2 := hide HS.out
      clear HS T2 hlen hx hy e2 tw hd hc hao bw r1 r2 c4 d4 hbw
      go_upto_region 14 with fail
      clear y9 z9 hly hlz hgs
      go_region_held (fun V : World => V.cell? ⟨w.heap.size, 9, none⟩ = some (.slice (some ⟨gs, 0, none⟩) m.sn sc') ∧ V.cell? ⟨w.heap.size + 1, 9, none⟩ = some (.slice (some ⟨b, off, none⟩) m.sn m.sc) ∧ V.cell? ⟨gs, k * 5 + 4, none⟩ = some (.slice (some ⟨g, 0, none⟩) x.cn (x.cn + 72)) ∧ V.cell? ⟨b, off + k * 5 + 4, none⟩ = some (.slice x.co x.cn x.cc) ∧ Hid (Below wr.heap.size wr V)) (first | with_reducible exact SDR.out | with_reducible exact G.out)
        (first
          | (go_at_call 16; refine (HK.out _ (by assumption)).mono ?_; rintro e w6 ⟨rfl, G⟩))
      have B6 := hide (below_trans1 HS2.out G.out.2.2.2.2.out)
      clear G SB HK SDR
      go_wp2
      go_roundw
      case rel => exact ⟨k + 1, by omega, by go_num, B6.out⟩
      case measure => simp [intOf]; omega
    · have FIN := hide (below_trans1 HB2.out HS.out)
      go_wp2
      go_ret
      exact ⟨rfl, FIN.out⟩
end Go.Proofs.YtiijbboigebhcaaGreatDoor
