import Derived.Deep.DeepCutAuto
import Derived.Test.YtiijbboigebhcaaGreatDoorM45
import Derived.Test.YtiijbboigebhcaaGreatDoorM33
import Derived.Test.YtiijbboigebhcaaGreatDoorOKp
import Derived.Test.YtiijbboigebhcaaGreatDoorOPj
namespace Go.Proofs.YtiijbboigebhcaaGreatDoor
open Go.RowKit Crc

set_option maxRecDepth 10000 in
set_option maxHeartbeats 800000 in
theorem packS_any (m : Mi) {base : Nat} {w : World} (hb : m.small) (h : m.Own base w) (hr : m.Rn) : Calls Tryz.prog 7 #[.agg #[.int .u64 (m.slot : Int), .int .u64 (m.now : Int), .int .u64 (m.tot : Int), .int .u64 (m.nx : Int), .slice m.ao m.an m.ac, .slice m.ho m.hn m.hc, .slice m.jo m.jn m.jc, .slice m.dO m.dn m.dc, .int .u64 (m.ends : Int), .slice m.so m.sn m.sc]] w (PackQ m w) := by
  obtain ⟨W1, hW1⟩ : ∃ W1, w.alloc (.cells #[.int .u64 (m.slot : Int), .int .u64 (m.now : Int), .int .u64 (m.tot : Int), .int .u64 (m.nx : Int), .slice m.ao m.an m.ac, .slice m.ho m.hn m.hc, .slice m.jo m.jn m.jc, .slice m.dO m.dn m.dc, .int .u64 (m.ends : Int), .slice m.so m.sn m.sc] 33) = W1 := ⟨_, rfl⟩
  have b1 : Below w.heap.size w W1 := by rw [← hW1]; exact (Below.refl _ w).alloc (Nat.le_refl _) _
  have Q1 : Hid (W1.heap[w.heap.size]? = some (.cells #[.int .u64 (m.slot : Int), .int .u64 (m.now : Int), .int .u64 (m.tot : Int), .int .u64 (m.nx : Int), .slice m.ao m.an m.ac, .slice m.ho m.hn m.hc, .slice m.jo m.jn m.jc, .slice m.dO m.dn m.dc, .int .u64 (m.ends : Int), .slice m.so m.sn m.sc] 33 (0, 0))) := by show _ = _; rw [← hW1]; exact alloc_atN _ _
  have WP := hide (wrongPart_any m hb (h.below b1))
  have B1 := hide b1
  have OW := hide (h.below b1)
  have HSM := hide hb
  have HW1 := hide hW1
  have HRN := hide hr
  unfold PackQ
  by_cases hp : m.part < 0
  · have e1 : m.pkB = big 1364414032 4 ++ big 1 1 ++ m.enc := by unfold Mi.pkB; rw [if_pos hp]
    have e2 : m.pkL = [] := by unfold Mi.pkL; rw [if_pos hp]
    have e3 : m.pkC = 0 := by unfold Mi.pkC; rw [if_pos hp]
    rw [e1, e2, e3]
    obtain ⟨fit, gd⟩ := part_fine hp hr
    have PE := hide (pack_end m fit)
    have GD := hide gd
    have hpd : decide (0 ≤ m.part) = false := by simp; omega
    clear e1 e2 e3 fit gd b1 h hb hW1 hr
    generalize m.part = pt at *
    generalize big 1364414032 4 ++ big 1 1 ++ m.enc = BY at *
    go_enter Tryz.func7, Tryz.ntmps7
    go_upto_region 1 with fail
    rw [HW1.out]
    have x0 := block_cell Q1.out 0
    have x1 := block_cell Q1.out 1
    have x2 := block_cell Q1.out 2
    have x3 := block_cell Q1.out 3
    have x4 := block_cell Q1.out 4
    have x5 := block_cell Q1.out 5
    have x6 := block_cell Q1.out 6
    have x7 := block_cell Q1.out 7
    have x8 := block_cell Q1.out 8
    have x9 := block_cell Q1.out 9
    simp at x0 x1 x2 x3 x4 x5 x6 x7 x8 x9
    have hlt := block_lt Q1.out
    go_wp2_with fail
    refine WP.out.mono ?_
    rintro e W2 ⟨rfl, G2⟩
    have Q2 := hide ((G2.out.block _ hlt).trans Q1.out)
    have LOW2 := hide (own_low HSM.out (OW.out.below G2.out))
    have B2 := hide (below_trans1 B1.out G2.out)
    clear hlt x0 x1 x2 x3 x4 x5 x6 x7 x8 x9
    have hl2 := block_lt Q2.out
    have B23 : Hid (Below W2.heap.size W2 (W2.alloc (wNew 40000))) := (Below.refl _ _).alloc (Nat.le_refl _) _
    have WK := hide (wk_new W2)
    clear OW WP Q1 HW1 B1 G2
    go_wp2_with fail
    refine (newWriter_any 40000 W2).mono ?_
    rintro e W3 ⟨rfl, hW3⟩
    rw [← hW3] at B23 WK
    clear hW3
    have BP : Hid (∀ s' V, Wa (W2.heap.size + 1) W2.heap.size W3 s' V → Below W2.heap.size W2 V) := fun s' V hv => B23.out.trans (Wa.below WK.out hv)
    have A3 := hide (Wa.start WK.out)
    have N0 := hide (u32_w A3.out 1364414032 1364414032 rfl (by decide))
    go_wp2_with fail
    refine N0.out.mono ?_
    rintro e W4 ⟨rfl, G4⟩
    have N1 := hide (u8_w G4.out 1 1 rfl (by decide))
    go_wp2_with fail
    refine N1.out.mono ?_
    rintro e W5 ⟨rfl, G5⟩
    have N2 := hide (layState_any G5.out m (LOW2.out.deep (BP.out _ _ G5.out)) GD.out)
    have Q5 := hide (((BP.out _ _ G5.out).block _ hl2).trans Q2.out)
    clear hl2 N0 N1
    have x0 := block_cell Q5.out 0
    have x1 := block_cell Q5.out 1
    have x2 := block_cell Q5.out 2
    have x3 := block_cell Q5.out 3
    have x4 := block_cell Q5.out 4
    have x5 := block_cell Q5.out 5
    have x6 := block_cell Q5.out 6
    have x7 := block_cell Q5.out 7
    have x8 := block_cell Q5.out 8
    have x9 := block_cell Q5.out 9
    simp at x0 x1 x2 x3 x4 x5 x6 x7 x8 x9
    have hlt := block_lt Q5.out
    go_wp2_with fail
    refine N2.out.mono ?_
    rintro e W6 ⟨rfl, G6⟩
    clear hlt x0 x1 x2 x3 x4 x5 x6 x7 x8 x9
    have N3 := hide (wBytesP G6.out.k.wr G6.out.k.pl)
    have B6 := hide (B2.out.trans ((BP.out _ _ G6.out).mono B2.out.size))
    have FIN : Hid (∀ w' v x, Owns W6.heap.size w' v (m.lay (lO (wsS.put (big 1364414032 4) 0) 1)).shown → ErrV w' x (m.lay (lO (wsS.put (big 1364414032 4) 0) 1)).errC (m.lay (lO (wsS.put (big 1364414032 4) 0) 1)).errA → Below W6.heap.size W6 w' → x = .nilIface ∧ Owns w.heap.size w' v BY ∧ Below w.heap.size w w') := fun w' v x h1 h2 h3 => by
      have e1 : (m.lay (lO (wsS.put (big 1364414032 4) 0) 1)).shown = BY := by unfold WS.shown; rw [if_pos PE.out.1, PE.out.2]
      rw [WS.errC_sound PE.out.1] at h2
      rw [e1] at h1
      refine ⟨?_, h1.lower B6.out.size, below_trans1 B6.out h3⟩
      rcases h2 with ⟨rfl, -⟩ | ⟨-, h4⟩
      · rfl
      · exact absurd rfl h4
    clear N2 G4 G5 A3 BP LOW2 Q2 Q5 B23 WK B2 GD PE
    go_wp2_with fail
    refine N3.out.mono ?_
    rintro e W7 ⟨v, x, rfl, G7⟩
    obtain ⟨rfl, o7, b7⟩ := FIN.out _ _ _ G7.out.1 G7.out.2.1 G7.out.2.2
    obtain ⟨ao, cap, rfl, -, -⟩ := o7.form
    have O7 := hide (And.intro o7 b7)
    clear o7 b7 G7 FIN N3 G6 B6
    go_wp2
    go_ret2
    exact ⟨_, _, rfl, O7.out.1, .inl ⟨rfl, rfl, rfl⟩, O7.out.2⟩
  · have e1 : m.pkB = [] := by unfold Mi.pkB; rw [if_neg hp]
    have e2 : m.pkL = [⟨snapN, m.part⟩] := by unfold Mi.pkL; rw [if_neg hp]
    have e3 : m.pkC = 121 := by unfold Mi.pkC; rw [if_neg hp]
    rw [e1, e2, e3]
    have hpd : decide (0 ≤ m.part) = true := by simp; omega
    clear e1 e2 e3 b1 h hb hW1 hr
    generalize m.part = pt at *
    go_enter Tryz.func7, Tryz.ntmps7
    go_upto_region 1 with fail
    rw [HW1.out]
    have x0 := block_cell Q1.out 0
    have x1 := block_cell Q1.out 1
    have x2 := block_cell Q1.out 2
    have x3 := block_cell Q1.out 3
    have x4 := block_cell Q1.out 4
    have x5 := block_cell Q1.out 5
    have x6 := block_cell Q1.out 6
    have x7 := block_cell Q1.out 7
    have x8 := block_cell Q1.out 8
    have x9 := block_cell Q1.out 9
    simp at x0 x1 x2 x3 x4 x5 x6 x7 x8 x9
    have hlt := block_lt Q1.out
    go_wp2_with fail
    refine WP.out.mono ?_
    rintro e W2 ⟨rfl, G2⟩
    clear hlt x0 x1 x2 x3 x4 x5 x6 x7 x8 x9
    have B2 := hide (below_trans1 B1.out G2.out)
    go_wp2_with fail
    refine (refusalD pt (chain_end _ 121)).mono ?_
    rintro e w3 ⟨g, rfl, G⟩
    go_wp2
    go_ret2
    exact ⟨_, _, rfl, Owns.nil _ _, .inr ⟨G.out.1, by simp, by simp, by simp⟩, below_trans1 B2.out G.out.2⟩
end Go.Proofs.YtiijbboigebhcaaGreatDoor
namespace Go.Proofs.YtiijbboigebhcaaGreatDoor
open Go.RowKit Crc

theorem part_vw {m : Mi} {w : World} (h : m.Vw w) : m.part = m.val.part := by
  unfold Mi.part Vm.part
  rw [okS_map m.S (fun x hx => h.s.cn x hx)]
  rfl
def eSv (x : Nat × Nat × Nat × Int × List Nat) : List Nat := eNs [x.1, x.2.1, x.2.2.1, x.2.2.2.1.toNat] ++ (numB x.2.2.2.2.length ++ x.2.2.2.2)
theorem eSn_val (L : List Sn) : L.flatMap eSn = (L.map Sn.val).flatMap eSv := by
  induction L with
  | nil => rfl
  | cons x r ih =>
    rw [List.flatMap_cons, List.map_cons, List.flatMap_cons, ih]
    rfl
theorem enc_val {m m' : Mi} (h : m'.val = m.val) : m'.enc = m.enc := by
  obtain ⟨s, t, x, y, A, H, J, D, u, S, a1, na, ac1, b1, nb, bc1, c1, nc, cc1, d1, nd, dc1, f1, nf, fc1⟩ := m
  obtain ⟨s', t', x', y', A', H', J', D', u', S', a2, na', ac2, b2, nb', bc2, c2, nc', cc2, d2, nd', dc2, f2, nf', fc2⟩ := m'
  have h : Vm.mk s' t' x' y' A' H' J' D' u' (S'.map Sn.val) = Vm.mk s t x y A H J D u (S.map Sn.val) := h
  injection h with e1 e2 e3 e4 e5 e6 e7 e8 e9 e10
  subst e1 e2 e3 e4 e5 e6 e7 e8 e9
  have el : S'.length = S.length := by simpa using congrArg List.length e10
  unfold Mi.enc eLs
  dsimp only
  rw [eSn_val S', eSn_val S, e10, el]
theorem rn_tw {m m' : Mi} {lo : Nat} {W : World} (h : Twn m m' lo W) (hr : m.Rn) : m'.Rn := by
  have hv := h.val
  have hd := h.dat
  obtain ⟨s, t, x, y, A, H, J, D, u, S, a1, na, ac1, b1, nb, bc1, c1, nc, cc1, d1, nd, dc1, f1, nf, fc1⟩ := m
  obtain ⟨s', t', x', y', A', H', J', D', u', S', a2, na', ac2, b2, nb', bc2, c2, nc', cc2, d2, nd', dc2, f2, nf', fc2⟩ := m'
  have hv : Vm.mk s' t' x' y' A' H' J' D' u' (S'.map Sn.val) = Vm.mk s t x y A H J D u (S.map Sn.val) := hv
  injection hv with e1 e2 e3 e4 e5 e6 e7 e8 e9 e10
  subst e1 e2 e3 e4 e5 e6 e7 e8 e9
  refine ⟨hr.n, hr.b, hr.e, hr.a, hr.h, hr.j, hr.d, fun y hy => ?_, fun y hy => ?_⟩
  · obtain ⟨j, hj, e⟩ := List.getElem_of_mem hy
    obtain ⟨x, g, h1, h2, -⟩ := hd.at_ j y (by rw [List.getElem?_eq_getElem hj, e])
    subst h2
    exact hr.s x (List.mem_of_getElem? h1)
  · obtain ⟨j, hj, e⟩ := List.getElem_of_mem hy
    obtain ⟨x, g, h1, h2, -⟩ := hd.at_ j y (by rw [List.getElem?_eq_getElem hj, e])
    subst h2
    exact hr.c x (List.mem_of_getElem? h1)
theorem pk_tw {m m' : Mi} {lo : Nat} {W w : World} (h : Twn m m' lo W) (hv : m.Vw w) : m'.pkB = m.pkB ∧ m'.pkL = m.pkL ∧ m'.pkC = m.pkC := by
  have e : m'.part = m.part := by rw [Mi.part_val m' h.own, part_vw hv, h.val]
  refine ⟨?_, ?_, ?_⟩
  · unfold Mi.pkB; rw [e, enc_val h.val]
  · unfold Mi.pkL; rw [e]
  · unfold Mi.pkC; rw [e]
theorem small_tw {m m' : Mi} {lo : Nat} {W : World} (h : Twn m m' lo W) (hs : m.Sml) : m'.small := by
  obtain ⟨l1, l2, l3, l4, l5⟩ := h.len
  have := hs.a
  have := hs.h
  have := hs.j
  have := hs.d
  have := hs.s
  exact ⟨by omega, by omega, by omega, by omega, by omega⟩
theorem small_sml {m : Mi} (hs : m.Sml) : m.small := by
  have := hs.a
  have := hs.h
  have := hs.j
  have := hs.d
  have := hs.s
  exact ⟨by omega, by omega, by omega, by omega, by omega⟩
theorem rpack_any (m : Mi) {w : World} (hb : m.small) (h : m.Vw w) (hr : m.Rn) : Calls Tryz.prog 8 #[.agg #[.int .u64 (m.slot : Int), .int .u64 (m.now : Int), .int .u64 (m.tot : Int), .int .u64 (m.nx : Int), .slice m.ao m.an m.ac, .slice m.ho m.hn m.hc, .slice m.jo m.jn m.jc, .slice m.dO m.dn m.dc, .int .u64 (m.ends : Int), .slice m.so m.sn m.sc]] w (RPackQ m w) := by
  by_cases hp : m.part < 0
  · exact rpack_ok m hb h hr hp
  · exact rpack_bad m hb h hp
theorem pkL_c (m : Mi) : m.pkL.length ≤ 11 := by
  unfold Mi.pkL
  split <;> simp
end Go.Proofs.YtiijbboigebhcaaGreatDoor
