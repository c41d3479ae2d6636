import Derived.Test.YtiijbboigebhcaaGreatDoorNPt
import Derived.Test.YtiijbboigebhcaaGreatDoorM27
namespace Go.Proofs.YtiijbboigebhcaaGreatDoor
open Go.RowKit Crc
theorem rdC_le {α : Type} (f : RS → α × RS) (m : Nat) (s : RS) : (rdC f m s).1.length ≤ m := by
  unfold rdC
  rw [rdL_len]
  exact cV_le s m
theorem rdIm_small (s : RS) : (rdIm s).1.b.A.length ≤ 64 ∧ (rdIm s).1.b.H.length ≤ 64 ∧ (rdIm s).1.b.J.length ≤ 64 ∧ (rdIm s).1.D.length ≤ 32 ∧ (rdIm s).1.S.length ≤ 16 := by
  have hA : (bkA (nS (nS s))).1.length ≤ 64 := by unfold bkA; exact rdC_le _ _ _
  have hH : (bkH (nS (nS s))).1.length ≤ 64 := by unfold bkH; exact rdC_le _ _ _
  have hJ : (bkJ (nS (nS s))).1.length ≤ 64 := by unfold bkJ; exact rdC_le _ _ _
  have hD : (imD s).1.length ≤ 32 := by unfold imD; exact rdC_le _ _ _
  have hS : (imS s).1.length ≤ 16 := by unfold imS; exact rdC_le _ _ _
  unfold rdIm imB rdBk
  generalize bkA (nS (nS s)) = xa at *
  generalize bkH (nS (nS s)) = xb at *
  generalize bkJ (nS (nS s)) = xc at *
  generalize imD s = xd at *
  generalize imS s = xe at *
  exact ⟨hA, hH, hJ, hD, hS⟩
attribute [local irreducible] nV nS rdC rdBk rdIm

def okV1 (x : Nat × Nat × Nat × Int × List Nat) : Bool := decide (0 ≤ x.2.2.2.1) && decide (x.2.2.2.1 ≤ 1023) && decide (x.2.2.2.2.length ≤ 256)
def okSv (L : List (Nat × Nat × Nat × Int × List Nat)) : Bool := L.all okV1 && (rises (fun x => x.1) 0 L && decide (L.length ≤ 16))
def Vm.part (v : Vm) : Int := fstF [decide (v.slot ≤ 1099511627776), decide (v.now ≤ 1099511627776), okAc v.A, okHo v.H, okEn v.J, okDe v.D, okSv v.S]
def Vm.zero : Vm := ⟨0, 0, 0, 0, [], [], [], [], 0, []⟩
theorem rises_map (a : Nat) : ∀ (L : List Sn), rises Sn.cl a L = rises (fun x : Nat × Nat × Nat × Int × List Nat => x.1) a (L.map Sn.val)
  | [] => rfl
  | x :: r => by
    rw [List.map_cons, rises, rises, rises_map x.cl r]
    rfl
theorem okS_map (L : List Sn) (h : ∀ x ∈ L, x.cn = x.D.length) : okSn L = okSv (L.map Sn.val) := by
  unfold okSn okSv
  rw [rises_map, List.length_map, List.all_map]
  congr 1
  induction L with
  | nil => rfl
  | cons x r ih =>
    rw [List.all_cons, List.all_cons, ih (fun y hy => h y (List.mem_cons_of_mem _ hy))]
    congr 1
    unfold okS1
    rw [h x (List.mem_cons_self ..)]
    rfl
theorem OwnSs.cn {base : Nat} {w : World} {v : Value} {L : List Sn} (h : OwnSs base w v L) : ∀ x ∈ L, x.cn = x.D.length := fun x hx => by
  obtain ⟨ao, cap, e, -⟩ := (h.own x hx).form
  have e : Value.slice x.co x.cn x.cc = .slice ao x.D.length cap := e
  cases e' : x.cn
  all_goals (rw [e'] at e; injection e)
theorem Mi.part_val {base : Nat} {w : World} (m : Mi) (h : m.Own base w) : m.part = m.val.part := by
  unfold Mi.part Vm.part
  rw [okS_map m.S h.s.cn]
  rfl
def unI (B : List Nat) : Im := (rdIm (oS (hd1 B))).1
def unS (B : List Nat) : RS := (rdIm (oS (hd1 B))).2
/-- What is refused of an image's bytes. -/
def unE (B : List Nat) : List Lk × Int :=
  if 40000 < B.length then ([⟨snapN, 0⟩], 120)
  else if (hdA B).2 ≠ 0 then hdA B
  else if (unS B).endC ≠ 0 then ([⟨snapN, (unS B).endA⟩, ⟨wireN, (unS B).endA⟩], (unS B).endC)
  else if 0 ≤ (unI B).pv.part then ([⟨snapN, (unI B).pv.part⟩], 121) else ([], 0)
def unV (B : List Nat) : Vm := if (unE B).2 = 0 then (unI B).pv else Vm.zero
theorem Chain.otherN {n q : Nat} {W W' : World} (hg : W.grownBy W' (some q)) {k : IntKind} {z : Int} (hq : W.cell? ⟨q, 0, none⟩ = some (.int k z)) : ∀ {L : List Lk} {u : Value} {c : Int}, Chain n W L u c → Chain n W' L u c
  | [], _, _, h => h
  | l :: r, u, c, h => by
    obtain ⟨g, v, e, hlt, h0, h1, h2, h3⟩ := h
    have hne : g ≠ q := fun e => by rw [e, hq] at h0; cases h0
    have hne' : some g ≠ some q := fun e => hne (by cases e; rfl)
    exact ⟨g, v, e, hlt, hg.cell h0 hne', hg.cell h1 hne', hg.cell h2 hne', Chain.otherN hg hq h3⟩
def st10 (W : World) (q : Nat) (x0 x1 x2 x3 x4 x5 x6 x7 x8 x9 : Value) : World := ((((((((((W.setCell ⟨q, 0, none⟩ x0).setCell ⟨q, 1, none⟩ x1).setCell ⟨q, 2, none⟩ x2).setCell ⟨q, 3, none⟩ x3).setCell ⟨q, 4, none⟩ x4).setCell ⟨q, 5, none⟩ x5).setCell ⟨q, 6, none⟩ x6).setCell ⟨q, 7, none⟩ x7).setCell ⟨q, 8, none⟩ x8).setCell ⟨q, 9, none⟩ x9)
theorem st10_grown (W : World) (q : Nat) (x0 x1 x2 x3 x4 x5 x6 x7 x8 x9 : Value) : W.grownBy (st10 W q x0 x1 x2 x3 x4 x5 x6 x7 x8 x9) (some q) :=
  (grown_trans (row := some q) (grown_trans (row := some q) (grown_trans (row := some q) (grown_trans (row := some q) (grown_trans (row := some q) (grown_trans (row := some q) (grown_trans (row := some q) (grown_trans (row := some q) (grown_trans (row := some q) (grown_set _ _ _ _) (grown_set _ _ _ _)) (grown_set _ _ _ _)) (grown_set _ _ _ _)) (grown_set _ _ _ _)) (grown_set _ _ _ _)) (grown_set _ _ _ _)) (grown_set _ _ _ _)) (grown_set _ _ _ _)) (grown_set _ _ _ _))
/-- How Unpack ends: the image, the error. -/
def UnP (B : List Nat) (w : World) (e : Ending) (w' : World) : Prop := ∃ (m : Mi) (v : Value), e = .returned (.tuple #[.agg #[.int .u64 (m.slot : Int), .int .u64 (m.now : Int), .int .u64 (m.tot : Int), .int .u64 (m.nx : Int), .slice m.ao m.an m.ac, .slice m.ho m.hn m.hc, .slice m.jo m.jn m.jc, .slice m.dO m.dn m.dc, .int .u64 (m.ends : Int), .slice m.so m.sn m.sc], v]) ∧ Hid (m.Own w.heap.size w' ∧ m.val = unV B ∧ ErrC' w' v (unE B).1 (unE B).2 ∧ Below w.heap.size w w') ∧ Hid ((unE B).2 ≠ 0 → m = Mi.zero)
theorem un_fin {w W : World} {B : List Nat} {m : Mi} {u : Value} {base : Nat} (hq : W.heap[w.heap.size]? = some (.cells #[.int .u64 0, .int .u64 0, .int .u64 0, .int .u64 0, .slice none 0 0, .slice none 0 0, .slice none 0 0, .slice none 0 0, .int .u64 0, .slice none 0 0] 33 (0, 0))) (ho : m.Own base W) (hbase : w.heap.size < base) (hm : m.val = unV B) (hE : ErrC' W u (unE B).1 (unE B).2) (hb : Below w.heap.size w W) (x0 x1 x2 x3 x4 x5 x6 x7 x8 x9 : Value) : m.Own w.heap.size (st10 W w.heap.size x0 x1 x2 x3 x4 x5 x6 x7 x8 x9) ∧ m.val = unV B ∧ ErrC' (st10 W w.heap.size x0 x1 x2 x3 x4 x5 x6 x7 x8 x9) u (unE B).1 (unE B).2 ∧ Below w.heap.size w (st10 W w.heap.size x0 x1 x2 x3 x4 x5 x6 x7 x8 x9) := by
  have g := st10_grown W w.heap.size x0 x1 x2 x3 x4 x5 x6 x7 x8 x9
  have h0 : W.cell? ⟨w.heap.size, 0, none⟩ = some (.int .u64 0) := block_cell hq 0
  exact ⟨(ho.past g (some_lt hbase)).lower (by omega), hm, hE.imp id (fun ⟨a, b⟩ => ⟨(Chain.otherN g h0 a).wide g.size, b⟩), hb.grown g hb.size (fun k e => by cases e; exact Nat.le_refl _)⟩
theorem At_.below {lim p : Nat} {w W : World} {s : RS} (h : At_ lim p w s W) {w0 : World} (hb : Below w0.heap.size w0 w) (hp : w0.heap.size ≤ p) : Below w0.heap.size w0 W := hb.grown h.2 hb.size (fun k e => by cases e; exact hp)
set_option maxRecDepth 10000 in
set_option maxHeartbeats 3200000 in
theorem unpack_any {lim : Nat} {w : World} {ao : Option Addr} {n cap : Nat} {B : List Nat} (hg : ErrT w) (h : Shows lim w ao n cap B) (hlw : lim ≤ w.heap.size) :
    Calls Tryz.prog 13 #[.slice ao n cap] w (UnP B w) := by
  unfold UnP
  obtain ⟨W0, hW0⟩ : ∃ W0, w.alloc (.cells #[.int .u64 0, .int .u64 0, .int .u64 0, .int .u64 0, .slice none 0 0, .slice none 0 0, .slice none 0 0, .slice none 0 0, .int .u64 0, .slice none 0 0] 33) = W0 := ⟨_, rfl⟩
  have s0 : W0.heap.size = w.heap.size + 1 := by rw [← hW0]; simp
  have b0 : Below w.heap.size w W0 := by rw [← hW0]; exact (Below.refl _ w).alloc (Nat.le_refl _) _
  have q0 : W0.heap[w.heap.size]? = some (.cells #[.int .u64 0, .int .u64 0, .int .u64 0, .int .u64 0, .slice none 0 0, .slice none 0 0, .slice none 0 0, .slice none 0 0, .int .u64 0, .slice none 0 0] 33 (0, 0)) := by rw [← hW0]; exact alloc_atN _ _
  have HN := hide (newReader_any (h.kept (below_none b0) (fun k e => by cases e)) (Nat.le_trans hlw b0.size))
  have RES : Hid (∀ W, Below W0.heap.size W0 W → W.heap[w.heap.size]? = some (.cells #[.int .u64 0, .int .u64 0, .int .u64 0, .int .u64 0, .slice none 0 0, .slice none 0 0, .slice none 0 0, .slice none 0 0, .int .u64 0, .slice none 0 0] 33 (0, 0)) ∧ Below w.heap.size w W) := fun W hb => ⟨(hb.block _ (by omega)).trans q0, b0.trans (hb.mono b0.size)⟩
  have hnB : n = B.length := h.1
  have HW0 := hide hW0
  have HS0 := hide s0
  have HG := hide (errT_belowN hg b0)
  have hw0 : 0 < W0.heap.size := by omega
  have U0 : Hid (40000 < n → unE B = ([⟨snapN, 0⟩], 120)) := fun h => by unfold unE; rw [if_pos (by omega)]
  have U1 : Hid (¬ 40000 < n → (hdA B).2 ≠ 0 → unE B = hdA B) := fun h h2 => by unfold unE; rw [if_neg (by omega), if_pos h2]
  have U2 : Hid (¬ 40000 < n → (hdA B).2 = 0 → (unS B).endC ≠ 0 → unE B = ([⟨snapN, (unS B).endA⟩, ⟨wireN, (unS B).endA⟩], (unS B).endC)) := fun h h2 h3 => by unfold unE; rw [if_neg (by omega), if_neg (fun e => e h2), if_pos h3]
  have U3 : Hid (¬ 40000 < n → (hdA B).2 = 0 → (unS B).endC = 0 → 0 ≤ (unI B).pv.part → unE B = ([⟨snapN, (unI B).pv.part⟩], 121)) := fun h h2 h3 h4 => by unfold unE; rw [if_neg (by omega), if_neg (fun e => e h2), if_neg (fun e => e h3), if_pos h4]
  have U4 : Hid (¬ 40000 < n → (hdA B).2 = 0 → (unS B).endC = 0 → ¬ 0 ≤ (unI B).pv.part → unE B = ([], 0)) := fun h h2 h3 h4 => by unfold unE; rw [if_neg (by omega), if_neg (fun e => e h2), if_neg (fun e => e h3), if_neg h4]
  clear h hg hW0 s0 b0 q0 hnB
  go_enter Tryz.func13, Tryz.ntmps13
  by_cases hlen : 40000 < n
  · have hld : decide ((40000 : Int) < (n : Int)) = true := decide_eq_true (by omega)
    have HU := hide (U0.out hlen)
    go_wp2_with fail
    rw [HW0.out]
    refine (refusalD 0 (chain_end _ 120)).mono ?_
    rintro e w5 ⟨g5, rfl, G5⟩
    have BX : Hid (Below W0.heap.size W0 w5) := G5.out.2
    have HC := hide (RES.out _ BX.out).1
    have FB := hide (RES.out _ BX.out).2
    have z0 := block_cell HC.out 0
    have f0 := block_free HC.out 0
    have z1 := block_cell HC.out 1
    have f1 := block_free HC.out 1
    have z2 := block_cell HC.out 2
    have f2 := block_free HC.out 2
    have z3 := block_cell HC.out 3
    have f3 := block_free HC.out 3
    have z4 := block_cell HC.out 4
    have f4 := block_free HC.out 4
    have z5 := block_cell HC.out 5
    have f5 := block_free HC.out 5
    have z6 := block_cell HC.out 6
    have f6 := block_free HC.out 6
    have z7 := block_cell HC.out 7
    have f7 := block_free HC.out 7
    have z8 := block_cell HC.out 8
    have f8 := block_free HC.out 8
    have z9 := block_cell HC.out 9
    have f9 := block_free HC.out 9
    simp at z0 z1 z2 z3 z4 z5 z6 z7 z8 z9
    have FIN : Hid (∀ x0 x1 x2 x3 x4 x5 x6 x7 x8 x9, Mi.zero.Own w.heap.size (st10 w5 w.heap.size x0 x1 x2 x3 x4 x5 x6 x7 x8 x9) ∧ Mi.zero.val = unV B ∧ ErrC' (st10 w5 w.heap.size x0 x1 x2 x3 x4 x5 x6 x7 x8 x9) (.iface 117 (.pointer (some ⟨g5, 0, none⟩))) (unE B).1 (unE B).2 ∧ Below w.heap.size w (st10 w5 w.heap.size x0 x1 x2 x3 x4 x5 x6 x7 x8 x9)) := fun x0 x1 x2 x3 x4 x5 x6 x7 x8 x9 => un_fin HC.out (Mi.zero_own (w.heap.size + 1) _) (by omega) (by unfold unV; rw [HU.out, if_neg (by simp)]; rfl) (by rw [HU.out]; exact .inr ⟨G5.out.1, by simp, by simp, by simp⟩) FB.out x0 x1 x2 x3 x4 x5 x6 x7 x8 x9
    go_wp2
    refine bodyPost_ret (v := .tuple #[.agg #[.int .u64 0, .int .u64 0, .int .u64 0, .int .u64 0, .slice none 0 0, .slice none 0 0, .slice none 0 0, .slice none 0 0, .int .u64 0, .slice none 0 0], .iface 117 (.pointer (some ⟨g5, 0, none⟩))]) (by simp [results, Tryz.results13, go_sem, z0, z1, z2, z3, z4, z5, z6, z7, z8, z9]) rfl ?_
    exact ⟨Mi.zero, _, rfl, FIN.out _ _ _ _ _ _ _ _ _ _, fun _ => rfl⟩
  · have hld : decide ((40000 : Int) < (n : Int)) = false := decide_eq_false (by omega)
    go_wp2_with fail
    rw [HW0.out]
    refine HN.out.mono ?_
    rintro e w1 ⟨p, lm, rfl, hp, hlm, hR, hb1⟩
    have B1 := hide hb1
    have HH := hide (readHead_any (lim := lm) (p := p) (B := B) (errT_belowN HG.out hb1) (by omega) (.inr ⟨p, rfl, hR⟩))
    clear hR hb1 HN hlm
    go_wp2_with fail
    refine HH.out.mono ?_
    rintro e w2 ⟨v2, rfl, G2⟩
    have B2 := hide (B1.out.grown G2.out.2.1 B1.out.size (fun k e => by cases e; exact hp))
    clear HH
    rcases G2.out.1 with ⟨rfl, -, hc2⟩ | ⟨hch, hl1, hl2, hc2⟩
    · have A2 := hide (G2.out.2.2 hc2)
      have HST := hide (readState_any A2.out.1)
      have HSM := hide (rdIm_small (oS (hd1 B)))
      have HPL := hide (pl_Im (pl_o (pl_hd B)))
      have HEI : Hid ((rdIm (oS (hd1 B))).1 = unI B ∧ (rdIm (oS (hd1 B))).2 = unS B) := ⟨rfl, rfl⟩
      rw [HEI.out.1, HEI.out.2] at HST
      rw [HEI.out.1] at HSM
      rw [HEI.out.2] at HPL
      clear HEI G2
      go_wp2_with fail
      refine HST.out.mono ?_
      rintro e w3 ⟨m, rfl, G3⟩
      have hpw1 := A2.out.2.size
      have MS : Hid m.small := by
        obtain ⟨o, hv, -⟩ := G3.out
        obtain ⟨l1, l2, l3, l4, l5⟩ := HSM.out
        have e1 : m.A = (unI B).b.A := congrArg Vm.A hv
        have e2 : m.H = (unI B).b.H := congrArg Vm.H hv
        have e3 : m.J = (unI B).b.J := congrArg Vm.J hv
        have e4 : m.D = (unI B).D := congrArg Vm.D hv
        have e5 : m.S.length = (unI B).S.length := by
          have := congrArg (fun v => v.S.length) hv
          simpa [Mi.val, Im.pv] using this
        have n1 := o.bk.a.num'
        have n2 := o.bk.h.num'
        have n3 := o.bk.j.num'
        have n4 := o.d.num'
        have n5 := o.s.row.num'
        rw [← e1] at l1
        rw [← e2] at l2
        rw [← e3] at l3
        rw [← e4] at l4
        exact ⟨by omega, by omega, by omega, by omega, by omega⟩
      have HPV : Hid (m.part = (unI B).pv.part) := by
        show _ = _
        rw [m.part_val G3.out.1, G3.out.2.1]
      have OM := hide (And.intro G3.out.1 G3.out.2.1)
      obtain ⟨W4, hW4⟩ : ∃ W4, w3.alloc (.cells #[.int .u64 (m.slot : Int), .int .u64 (m.now : Int), .int .u64 (m.tot : Int), .int .u64 (m.nx : Int), .slice m.ao m.an m.ac, .slice m.ho m.hn m.hc, .slice m.jo m.jn m.jc, .slice m.dO m.dn m.dc, .int .u64 (m.ends : Int), .slice m.so m.sn m.sc] 33) = W4 := ⟨_, rfl⟩
      have b4 : Below w3.heap.size w3 W4 := by rw [← hW4]; exact (Below.refl _ w3).alloc (Nat.le_refl _) _
      have q4 : W4.heap[w3.heap.size]? = some (.cells #[.int .u64 (m.slot : Int), .int .u64 (m.now : Int), .int .u64 (m.tot : Int), .int .u64 (m.nx : Int), .slice m.ao m.an m.ac, .slice m.ho m.hn m.hc, .slice m.jo m.jn m.jc, .slice m.dO m.dn m.dc, .int .u64 (m.ends : Int), .slice m.so m.sn m.sc] 33 (0, 0)) := by rw [← hW4]; exact alloc_atN _ _
      have A4 : Hid (At_ lm p w1 (unS B) W4) := (A2.out.trans G3.out.2.2).quiet (below_none b4)
      have Q4 := hide q4
      have HW4 := hide hW4
      have BB4 := hide b4
      simp only [Mi.cells]
      clear G3 A2 HST b4 q4 hW4
      go_wp2_with fail
      rw [HW4.out]
      refine (end_at A4.out HPL.out).mono ?_
      rintro e w5 ⟨v5, rfl, hv5, G5⟩
      have Q5 := hide ((G5.out.2.block _ (block_lt Q4.out)).trans Q4.out)
      have B5 := hide (B1.out.grown G5.out.1.2 B1.out.size (fun k e => by cases e; exact hp))
      have BB5 := hide (below_trans1 BB4.out G5.out.2)
      clear A4 HW4 Q4 BB4
      rcases hv5 with ⟨rfl, hc5⟩ | ⟨hf5, hc5⟩
      · have OM5 := hide (OM.out.1.below BB5.out)
        have HWP := hide (wrongPart_any m MS.out OM5.out)
        clear G5
        have c0 := block_cell Q5.out 0
        have c1 := block_cell Q5.out 1
        have c2 := block_cell Q5.out 2
        have c3 := block_cell Q5.out 3
        have c4 := block_cell Q5.out 4
        have c5 := block_cell Q5.out 5
        have c6 := block_cell Q5.out 6
        have c7 := block_cell Q5.out 7
        have c8 := block_cell Q5.out 8
        have c9 := block_cell Q5.out 9
        simp at c0 c1 c2 c3 c4 c5 c6 c7 c8 c9
        go_wp2_with fail
        refine HWP.out.mono ?_
        rintro e w6 ⟨rfl, G6⟩
        have Q6 := hide ((G6.out.block _ (block_lt Q5.out)).trans Q5.out)
        have B6 := hide (B5.out.trans (G6.out.mono B5.out.size))
        have OM6 := hide (OM5.out.below G6.out)
        clear c0 c1 c2 c3 c4 c5 c6 c7 c8 c9 HWP Q5
        rw [HPV.out]
        by_cases hpt : 0 ≤ (unI B).pv.part
        · have hpd : decide (0 ≤ (unI B).pv.part) = true := decide_eq_true hpt
          have HU := hide (U3.out hlen hc2 hc5 hpt)
          generalize (unI B).pv.part = pt at *
          go_wp2_with fail
          refine (refusalD pt (chain_end _ 121)).mono ?_
          rintro e w7 ⟨g7, rfl, G7⟩
          have BX : Hid (Below W0.heap.size W0 w7) := B6.out.trans (G7.out.2.mono B6.out.size)
          have HC := hide (RES.out _ BX.out).1
          have FB := hide (RES.out _ BX.out).2
          have z0 := block_cell HC.out 0
          have f0 := block_free HC.out 0
          have z1 := block_cell HC.out 1
          have f1 := block_free HC.out 1
          have z2 := block_cell HC.out 2
          have f2 := block_free HC.out 2
          have z3 := block_cell HC.out 3
          have f3 := block_free HC.out 3
          have z4 := block_cell HC.out 4
          have f4 := block_free HC.out 4
          have z5 := block_cell HC.out 5
          have f5 := block_free HC.out 5
          have z6 := block_cell HC.out 6
          have f6 := block_free HC.out 6
          have z7 := block_cell HC.out 7
          have f7 := block_free HC.out 7
          have z8 := block_cell HC.out 8
          have f8 := block_free HC.out 8
          have z9 := block_cell HC.out 9
          have f9 := block_free HC.out 9
          simp at z0 z1 z2 z3 z4 z5 z6 z7 z8 z9
          have FIN : Hid (∀ x0 x1 x2 x3 x4 x5 x6 x7 x8 x9, Mi.zero.Own w.heap.size (st10 w7 w.heap.size x0 x1 x2 x3 x4 x5 x6 x7 x8 x9) ∧ Mi.zero.val = unV B ∧ ErrC' (st10 w7 w.heap.size x0 x1 x2 x3 x4 x5 x6 x7 x8 x9) (.iface 117 (.pointer (some ⟨g7, 0, none⟩))) (unE B).1 (unE B).2 ∧ Below w.heap.size w (st10 w7 w.heap.size x0 x1 x2 x3 x4 x5 x6 x7 x8 x9)) := fun x0 x1 x2 x3 x4 x5 x6 x7 x8 x9 => un_fin HC.out (Mi.zero_own (w.heap.size + 1) _) (by omega) (by unfold unV; rw [HU.out, if_neg (by simp)]; rfl) (by rw [HU.out]; exact .inr ⟨G7.out.1, by simp, by simp, by simp⟩) FB.out x0 x1 x2 x3 x4 x5 x6 x7 x8 x9
          go_wp2
          refine bodyPost_ret (v := .tuple #[.agg #[.int .u64 0, .int .u64 0, .int .u64 0, .int .u64 0, .slice none 0 0, .slice none 0 0, .slice none 0 0, .slice none 0 0, .int .u64 0, .slice none 0 0], .iface 117 (.pointer (some ⟨g7, 0, none⟩))]) (by simp [results, Tryz.results13, go_sem, z0, z1, z2, z3, z4, z5, z6, z7, z8, z9]) rfl ?_
          exact ⟨Mi.zero, _, rfl, FIN.out _ _ _ _ _ _ _ _ _ _, fun _ => rfl⟩
        · have hpd : decide (0 ≤ (unI B).pv.part) = false := decide_eq_false hpt
          have HU := hide (U4.out hlen hc2 hc5 (by omega))
          generalize (unI B).pv.part = pt at *
          have HC := hide (RES.out _ B6.out).1
          have FB := hide (RES.out _ B6.out).2
          have z0 := block_cell HC.out 0
          have f0 := block_free HC.out 0
          have z1 := block_cell HC.out 1
          have f1 := block_free HC.out 1
          have z2 := block_cell HC.out 2
          have f2 := block_free HC.out 2
          have z3 := block_cell HC.out 3
          have f3 := block_free HC.out 3
          have z4 := block_cell HC.out 4
          have f4 := block_free HC.out 4
          have z5 := block_cell HC.out 5
          have f5 := block_free HC.out 5
          have z6 := block_cell HC.out 6
          have f6 := block_free HC.out 6
          have z7 := block_cell HC.out 7
          have f7 := block_free HC.out 7
          have z8 := block_cell HC.out 8
          have f8 := block_free HC.out 8
          have z9 := block_cell HC.out 9
          have f9 := block_free HC.out 9
          simp at z0 z1 z2 z3 z4 z5 z6 z7 z8 z9
          have c0 := block_cell Q6.out 0
          have c1 := block_cell Q6.out 1
          have c2 := block_cell Q6.out 2
          have c3 := block_cell Q6.out 3
          have c4 := block_cell Q6.out 4
          have c5 := block_cell Q6.out 5
          have c6 := block_cell Q6.out 6
          have c7 := block_cell Q6.out 7
          have c8 := block_cell Q6.out 8
          have c9 := block_cell Q6.out 9
          simp at c0 c1 c2 c3 c4 c5 c6 c7 c8 c9
          have FIN : Hid (∀ x0 x1 x2 x3 x4 x5 x6 x7 x8 x9, m.Own w.heap.size (st10 w6 w.heap.size x0 x1 x2 x3 x4 x5 x6 x7 x8 x9) ∧ m.val = unV B ∧ ErrC' (st10 w6 w.heap.size x0 x1 x2 x3 x4 x5 x6 x7 x8 x9) .nilIface (unE B).1 (unE B).2 ∧ Below w.heap.size w (st10 w6 w.heap.size x0 x1 x2 x3 x4 x5 x6 x7 x8 x9)) := fun x0 x1 x2 x3 x4 x5 x6 x7 x8 x9 => un_fin HC.out OM6.out (by have := HS0.out; have := B2.out.size; omega) (by unfold unV; rw [HU.out, if_pos rfl]; exact OM.out.2) (by rw [HU.out]; exact .inl ⟨rfl, rfl, rfl⟩) FB.out x0 x1 x2 x3 x4 x5 x6 x7 x8 x9
          go_wp2
          refine bodyPost_ret (v := .tuple #[.agg #[.int .u64 (m.slot : Int), .int .u64 (m.now : Int), .int .u64 (m.tot : Int), .int .u64 (m.nx : Int), .slice m.ao m.an m.ac, .slice m.ho m.hn m.hc, .slice m.jo m.jn m.jc, .slice m.dO m.dn m.dc, .int .u64 (m.ends : Int), .slice m.so m.sn m.sc], .nilIface]) (by simp [results, Tryz.results13, go_sem, z0, z1, z2, z3, z4, z5, z6, z7, z8, z9]) rfl ?_
          exact ⟨m, _, rfl, FIN.out _ _ _ _ _ _ _ _ _ _, fun hc => absurd (by rw [HU.out]) hc⟩
      · have HU := hide (U2.out hlen hc2 hc5)
        have HBH := hide (behind_any (errT_belowN HG.out B5.out) hf5)
        have HCN := hide hc5
        obtain ⟨gf, rfl, -⟩ := hf5
        clear G5
        go_wp2_with fail
        refine HBH.out.mono ?_
        rintro e w7 ⟨g7, rfl, G7⟩
        have BX : Hid (Below W0.heap.size W0 w7) := B5.out.trans (G7.out.2.mono B5.out.size)
        have HC := hide (RES.out _ BX.out).1
        have FB := hide (RES.out _ BX.out).2
        have z0 := block_cell HC.out 0
        have f0 := block_free HC.out 0
        have z1 := block_cell HC.out 1
        have f1 := block_free HC.out 1
        have z2 := block_cell HC.out 2
        have f2 := block_free HC.out 2
        have z3 := block_cell HC.out 3
        have f3 := block_free HC.out 3
        have z4 := block_cell HC.out 4
        have f4 := block_free HC.out 4
        have z5 := block_cell HC.out 5
        have f5 := block_free HC.out 5
        have z6 := block_cell HC.out 6
        have f6 := block_free HC.out 6
        have z7 := block_cell HC.out 7
        have f7 := block_free HC.out 7
        have z8 := block_cell HC.out 8
        have f8 := block_free HC.out 8
        have z9 := block_cell HC.out 9
        have f9 := block_free HC.out 9
        simp at z0 z1 z2 z3 z4 z5 z6 z7 z8 z9
        have FIN : Hid (∀ x0 x1 x2 x3 x4 x5 x6 x7 x8 x9, Mi.zero.Own w.heap.size (st10 w7 w.heap.size x0 x1 x2 x3 x4 x5 x6 x7 x8 x9) ∧ Mi.zero.val = unV B ∧ ErrC' (st10 w7 w.heap.size x0 x1 x2 x3 x4 x5 x6 x7 x8 x9) (.iface 117 (.pointer (some ⟨g7, 0, none⟩))) (unE B).1 (unE B).2 ∧ Below w.heap.size w (st10 w7 w.heap.size x0 x1 x2 x3 x4 x5 x6 x7 x8 x9)) := fun x0 x1 x2 x3 x4 x5 x6 x7 x8 x9 => un_fin HC.out (Mi.zero_own (w.heap.size + 1) _) (by omega) (by unfold unV; rw [HU.out, if_neg (by exact HCN.out)]; rfl) (by rw [HU.out]; exact .inr ⟨G7.out.1, by simp, by simp, HCN.out⟩) FB.out x0 x1 x2 x3 x4 x5 x6 x7 x8 x9
        go_wp2
        refine bodyPost_ret (v := .tuple #[.agg #[.int .u64 0, .int .u64 0, .int .u64 0, .int .u64 0, .slice none 0 0, .slice none 0 0, .slice none 0 0, .slice none 0 0, .int .u64 0, .slice none 0 0], .iface 117 (.pointer (some ⟨g7, 0, none⟩))]) (by simp [results, Tryz.results13, go_sem, z0, z1, z2, z3, z4, z5, z6, z7, z8, z9]) rfl ?_
        exact ⟨Mi.zero, _, rfl, FIN.out _ _ _ _ _ _ _ _ _ _, fun _ => rfl⟩
    · have HU := hide (U1.out hlen hc2)
      have BX := B2
      have HCC := hide (And.intro hch (And.intro hl1 (And.intro hl2 hc2)))
      obtain ⟨gv, rfl⟩ : ∃ gv, v2 = .iface 117 (.pointer (some ⟨gv, 0, none⟩)) := by
        cases hL : (hdA B).1 with
        | nil => rw [hL] at hl1; exact absurd hl1 (by simp)
        | cons l r => rw [hL] at hch; obtain ⟨g, _, e, _⟩ := hch; exact ⟨g, e⟩
      clear hch hl1 hl2 hc2 G2
      have HC := hide (RES.out _ BX.out).1
      have FB := hide (RES.out _ BX.out).2
      have z0 := block_cell HC.out 0
      have f0 := block_free HC.out 0
      have z1 := block_cell HC.out 1
      have f1 := block_free HC.out 1
      have z2 := block_cell HC.out 2
      have f2 := block_free HC.out 2
      have z3 := block_cell HC.out 3
      have f3 := block_free HC.out 3
      have z4 := block_cell HC.out 4
      have f4 := block_free HC.out 4
      have z5 := block_cell HC.out 5
      have f5 := block_free HC.out 5
      have z6 := block_cell HC.out 6
      have f6 := block_free HC.out 6
      have z7 := block_cell HC.out 7
      have f7 := block_free HC.out 7
      have z8 := block_cell HC.out 8
      have f8 := block_free HC.out 8
      have z9 := block_cell HC.out 9
      have f9 := block_free HC.out 9
      simp at z0 z1 z2 z3 z4 z5 z6 z7 z8 z9
      have FIN : Hid (∀ x0 x1 x2 x3 x4 x5 x6 x7 x8 x9, Mi.zero.Own w.heap.size (st10 w2 w.heap.size x0 x1 x2 x3 x4 x5 x6 x7 x8 x9) ∧ Mi.zero.val = unV B ∧ ErrC' (st10 w2 w.heap.size x0 x1 x2 x3 x4 x5 x6 x7 x8 x9) (.iface 117 (.pointer (some ⟨gv, 0, none⟩))) (unE B).1 (unE B).2 ∧ Below w.heap.size w (st10 w2 w.heap.size x0 x1 x2 x3 x4 x5 x6 x7 x8 x9)) := fun x0 x1 x2 x3 x4 x5 x6 x7 x8 x9 => un_fin HC.out (Mi.zero_own (w.heap.size + 1) _) (by omega) (by unfold unV; rw [HU.out, if_neg (by exact HCC.out.2.2.2)]; rfl) (by rw [HU.out]; exact .inr HCC.out) FB.out x0 x1 x2 x3 x4 x5 x6 x7 x8 x9
      go_wp2
      refine bodyPost_ret (v := .tuple #[.agg #[.int .u64 0, .int .u64 0, .int .u64 0, .int .u64 0, .slice none 0 0, .slice none 0 0, .slice none 0 0, .slice none 0 0, .int .u64 0, .slice none 0 0], .iface 117 (.pointer (some ⟨gv, 0, none⟩))]) (by simp [results, Tryz.results13, go_sem, z0, z1, z2, z3, z4, z5, z6, z7, z8, z9]) rfl ?_
      exact ⟨Mi.zero, _, rfl, FIN.out _ _ _ _ _ _ _ _ _ _, fun _ => rfl⟩
end Go.Proofs.YtiijbboigebhcaaGreatDoor
