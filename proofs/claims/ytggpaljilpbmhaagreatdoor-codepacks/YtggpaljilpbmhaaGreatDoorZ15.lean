import Derived.Test.YtggpaljilpbmhaaGreatDoorZ14
namespace Go.Proofs.YtggpaljilpbmhaaGreatDoor
open Go.RowKit

/-- The world of the reference's visit. -/
structure Vs (lim : Nat) (W : World) (q ba bs ca cc : Nat) (g : Pg) (p : Pv) (k : Kn) (o : Nat) (a : Int) (xb : Nat) (w : World) : Prop where
 prg : w.heap[W.heap.size]? = some (.cells (g.cs p).toArray 27 (0, 0))
 ins : w.heap[xb]? = some (.cells #[.int .i64 (o : Nat), .int .i64 a] 42 (0, 0))
 rw : RW lim w q ba bs ca cc g p k
 g2 : G2w W w ba bs
section
variable {lim : Nat} {W : World} {q ba bs ca cc : Nat} {g : Pg} {p : Pv} {k k' : Kn} {o : Nat} {a : Int} {xb : Nat} {w w' : World}
theorem Vs.next (h : Vs lim W q ba bs ca cc g p k o a xb w) (hb : Below w.heap.size w w') : Vs lim W q ba bs ca cc g p k o a xb w' :=
 ⟨(hb.block _ (block_lt h.prg)).trans h.prg, (hb.block _ (block_lt h.ins)).trans h.ins, h.rw.kept hb, h.g2.trans (G2w.of hb)⟩
theorem Vs.hand (h : Vs lim W q ba bs ca cc g p k o a xb w) (hr : RW lim w' q ba bs ca cc g p k') (hg : G2w w w' ba bs) : Vs lim W q ba bs ca cc g p k' o a xb w' := by
 obtain ⟨c1, a1, a2⟩ := h.rw.rowA
 obtain ⟨c2, b1, b2⟩ := h.rw.rowB
 have n1 : W.heap.size ≠ ba := fun e => by have := h.prg; rw [e, a1] at this; simp at this
 have n2 : W.heap.size ≠ bs := fun e => by have := h.prg; rw [e, b1] at this; simp at this
 have n3 : xb ≠ ba := fun e => by have := h.ins; rw [e, a1] at this; simp at this
 have n4 : xb ≠ bs := fun e => by have := h.ins; rw [e, b1] at this; simp at this
 exact ⟨(hg.block _ (block_lt h.prg) n1 n2).trans h.prg, (hg.block _ (block_lt h.ins) n3 n4).trans h.ins, hr, h.g2.trans hg⟩
theorem Vs.cells (h : Vs lim W q ba bs ca cc g p k o a xb w) : w.cell? ⟨W.heap.size, 0, none⟩ = some (.slice g.ca p.nc g.cc) ∧ w.cell? ⟨W.heap.size, 1, none⟩ = some (.slice g.sa p.ns g.sc) ∧ w.cell? ⟨W.heap.size, 2, none⟩ = some (.int .i64 (p.en 0)) ∧ w.cell? ⟨W.heap.size, 3, none⟩ = some (.int .i64 (p.en 1)) ∧ w.cell? ⟨W.heap.size, 4, none⟩ = some (.int .i64 (p.en 2)) ∧ w.cell? ⟨W.heap.size, 5, none⟩ = some (.int .i64 (p.en 3)) ∧ w.cell? ⟨W.heap.size, 6, none⟩ = some (.int .i64 (p.en 4)) ∧ w.cell? ⟨W.heap.size, 7, none⟩ = some (.int .i64 (p.en 5)) ∧ w.cell? ⟨W.heap.size, 8, none⟩ = some (.slice g.ia p.n g.ic) ∧ W.heap.size < w.heap.size ∧ w.cell? ⟨xb, 0, none⟩ = some (.int .i64 (o : Nat)) ∧ w.cell? ⟨xb, 1, none⟩ = some (.int .i64 a) ∧ xb < w.heap.size :=
 ⟨block_cell h.prg 0, block_cell h.prg 1, block_cell h.prg 2, block_cell h.prg 3, block_cell h.prg 4, block_cell h.prg 5, block_cell h.prg 6, block_cell h.prg 7, block_cell h.prg 8, block_lt h.prg, block_cell h.ins 0, block_cell h.ins 1, block_lt h.ins⟩
end
def visL (p : Pv) (k : Kn) (i o : Nat) (a : Int) (l T L : List Bool) : Except Int Kn :=
 if l.length < T.length then .error 85
 else if l.drop (l.length - T.length) ≠ T then .error 86
 else if 64 < l.length - T.length + L.length then .error 87
 else if o = 31 ∨ o = 32 then .ok k
 else if o = 25 then handF p k i a.toNat (l.take (l.length - T.length) ++ L)
 else if o = 27 ∨ o = 28 then bindK (handF p k i a.toNat l) (fun k' => handF p k' i (i + 1) (l.take (l.length - T.length) ++ L))
 else if o = 26 then bindK (handF p k i a.toNat (l.take (l.length - T.length) ++ L)) (fun k' => handF p k' i (i + 1) (l.take (l.length - T.length) ++ L))
 else handF p k i (i + 1) (l.take (l.length - T.length) ++ L)
theorem visitF_eq (p : Pv) (k : Kn) (i : Nat) : visitF p k i = visL p k i (p.op i).toNat (p.arg i) (kin (k i)) (colB p (fTakes (p.op i).toNat) (p.arg i)) (colB p (fLays (p.op i).toNat) (p.arg i)) := rfl
theorem rl_facts (o : Nat) (h : o ≤ 32) : (∀ c, c ∈ rTakes o ∨ c ∈ rLays o → (c = 98 ∨ c = 110 ∨ c = 115 ∨ c = 105) ∧ (c = 115 → fArg o = 3)) ∧ (rTakes o).length ≤ 3 ∧ ((rLays o = [] ∧ (o = 0 ∨ o = 1 ∨ o = 7 ∨ (25 ≤ o ∧ o ≤ 32))) ∨ (∃ c, rLays o = [c]) ∧ o < 25) := by
 have : ∀ o, o ≤ 32 → (∀ c ∈ rTakes o ++ rLays o, (c = 98 ∨ c = 110 ∨ c = 115 ∨ c = 105) ∧ (c = 115 → fArg o = 3)) ∧ (rTakes o).length ≤ 3 ∧ ((rLays o = [] ∧ (o = 0 ∨ o = 1 ∨ o = 7 ∨ (25 ≤ o ∧ o ≤ 32))) ∨ (rLays o).length = 1 ∧ o < 25) := by decide
 obtain ⟨h1, h2, h3⟩ := this o h
 refine ⟨fun c hc => h1 c (by simpa using hc), h2, ?_⟩
 rcases h3 with h3 | ⟨h3, h4⟩
 ·exact .inl h3
 ·exact .inr ⟨List.length_eq_one_iff.1 h3, h4⟩
theorem txt_at (l : List Nat) (j : Nat) (h : j < (txt l).size) (hl : j < l.length) (hc : l[j] < 256) : ((txt l)[j]'h).toNat = l[j] := by
 have e : (txt l)[j]'h = UInt8.ofNat l[j] := by
  show (txt l).data[j] = _
  show (List.map UInt8.ofNat l)[j]'(by simpa using hl) = _
  simp
 rw [e, UInt8.toNat_ofNat']
 exact Nat.mod_eq_of_lt hc
theorem wp_append1 {P : Program} {o : Oper} {a : Act} {w w' : World} {K : Act → World → Prop} {Q : Exit → Act → World → Prop} (s x : Operand) (t : TypeId) (ho : o.op = .call { callee := .builtin .append, args := #[s, x], argTypes := #[t, t] }) {v v' : Value} {ad : Addr} {m c : Nat} (hs : a.eval s = v) (hx : a.eval x = .slice (some ad) m c)
  (hr : (Builtin.append_ #[t, t] o.type #[v, .slice (some ad) m c]).run P w = .ok v' w') (hK : K (a.put o.dst v') w') : Oper.wp P o a w K Q := by
 unfold Oper.wp execOp
 simp only [ho, resolve, invoke, builtin, Sem.run_bind, Sem.run_pure, Result.andThen_ok, List.map_toArray, List.map_cons, List.map_nil, hs, hx, hr]
 exact hK
set_option maxRecDepth 10000 in
set_option maxHeartbeats 12800000 in
theorem visitR {lim : Nat} {W : World} {q ba bs ca cc : Nat} {g : Pg} {p : Pv} {k : Kn} (h : RW lim W q ba bs ca cc g p k) (hkb : KB k) (i : Nat) (hok : InOk p i) (hsl : ∀ j, j < p.ns → p.S j = 0 ∨ p.S j = 1) (hn : p.n ≤ 1024) :
  Calls Tryz.prog 165 #[.pointer (some ⟨q, 0, none⟩), .agg (g.cs p).toArray, .int .i64 (i : Nat)] W (HdR lim W q ba bs ca cc g p (visitF p k i)) := by
 obtain ⟨i0, hi0, hz0, hz1, hz2⟩ := info_parts Tryz.infoI
 have ho := isO_nat hok.o
 obtain ⟨r, hr⟩ : ∃ r, visitF p k i = r := ⟨_, rfl⟩
 rw [hr]
 rw [visitF_eq, ← colB_takes p _ ho.2.1, ← colB_lays p _ ho.2.1] at hr
 obtain ⟨rf1, rf2, rf3⟩ := rl_facts _ ho.2.1
 have harg := hok.a
 obtain ⟨o, hoo⟩ : ∃ o, (p.op i).toNat = o := ⟨_, rfl⟩
 obtain ⟨a, haa⟩ : ∃ a, p.arg i = a := ⟨_, rfl⟩
 rw [hoo] at ho hr rf1 rf2 rf3 harg
 rw [haa] at hr harg
 obtain ⟨W1, hW1⟩ : ∃ W1, W.alloc (.cells (g.cs p).toArray 27) = W1 := ⟨_, rfl⟩
 obtain ⟨W2, hW2⟩ : ∃ W2, W1.alloc (.cells #[.int .i64 (o : Nat), .int .i64 a] 42) = W2 := ⟨_, rfl⟩
 have B1 : Below W.heap.size W W1 := by rw [← hW1]; exact below_alloc1 W _
 have A1 : W1.heap[W.heap.size]? = some (.cells (g.cs p).toArray 27 (0, 0)) := by rw [← hW1]; exact alloc_atK _ _
 have B2 : Below W1.heap.size W1 W2 := by rw [← hW2]; exact below_alloc1 W1 _
 have A2 : W2.heap[W1.heap.size]? = some (.cells #[.int .i64 (o : Nat), .int .i64 a] 42 (0, 0)) := by rw [← hW2]; exact alloc_atK _ _
 have HV2 : Hid (Vs lim W q ba bs ca cc g p k o a W1.heap.size W2) := ⟨(B2.block _ (block_lt A1)).trans A1, A2, (h.kept B1).kept B2, (G2w.of B1).trans (G2w.of B2)⟩
 have hlt := hok.lt
 have HRW := hide (h.kept B1)
 obtain ⟨hia, hib⟩ := HRW.out.ok.hi (by omega)
 have vo := HRW.out.ok.vo i hlt
 have va := HRW.out.ok.va i hlt
 rw [ho.1] at vo
 rw [haa] at va
 have hbl : g.ib < W1.heap.size := Nat.lt_of_lt_of_le hib HRW.out.le
 have y8 := block_cell A1 8
 have yl := block_lt A1
 simp [Pg.cs] at y8
 have HW1 := hide hW1
 have HW2 := hide hW2
 have HCS : Hid (g.cs p = [.slice g.ca p.nc g.cc, .slice g.sa p.ns g.sc, .int .i64 (p.en 0), .int .i64 (p.en 1), .int .i64 (p.en 2), .int .i64 (p.en 3), .int .i64 (p.en 4), .int .i64 (p.en 5), .slice g.ia p.n g.ic]) := rfl
 rw [hia] at y8
 have HKOF : Hid (∀ w c, Vs lim W q ba bs ca cc g p k o a W1.heap.size w → (c ∈ rTakes o ∨ c ∈ rLays o) → Calls Tryz.prog 195 #[.agg (g.cs p).toArray, .agg #[.int .i64 (o : Nat), .int .i64 a], .int .u8 (c : Nat)] w fun e w' => e = .returned (iv (rKind p a c)) ∧ Hid (Below w.heap.size w w')) := fun w c hw hc =>
  kindOfR (hw.rw.ok.wide hw.rw.le) (o : Nat) a c (rf1 c hc).1 (fun e => by
   have hp := argF_slot harg ((rf1 c hc).2 e)
   exact ⟨hp, hsl _ (isPl_nat hp).2⟩)
 have HHD : Hid (∀ (k1 : Kn) (w : World) (d : Nat) (v : Value) (m : List Bool), Vs lim W q ba bs ca cc g p k1 o a W1.heap.size w → KB k1 → KI w v m → m.length ≤ 64 → d ≤ 2048 → Calls Tryz.prog 197 #[.pointer (some ⟨q, 0, none⟩), .agg (g.cs p).toArray, .int .i64 (i : Nat), .int .i64 (d : Nat), v] w (HdR lim w q ba bs ca cc g p (handF p k1 i d m))) := fun k1 w d v m hw hkb1 hv hm hd => handR hw.rw hkb1 i d hd (by omega) hv hm
 have HAD : Hid (25 ≤ o → o ≤ 28 → a = ((a.toNat : Nat) : Int) ∧ a.toNat ≤ 2048) := fun h1 h2 => by
  have hp := argF_place harg ((col_arg o ho.2.1).2.2 h1 h2)
  have := isPl_nat hp
  exact ⟨this.1, by omega⟩
 rw [HCS.out] at HW1 HKOF HHD ⊢
 have HIA := hide hia
 have hll := hkb i
 obtain ⟨q0, q1, ql, a0, af, al, bl, sv, b0, hki⟩ := HV2.out.rw.at_ i hlt
 have hcc := HV2.out.rw.hcc
 have HRF1 := hide rf1
 generalize hlk : kin (k i) = l at *
 obtain ⟨so, sc, hsv⟩ := hki.val
 subst hsv
 have HKI := hide hki
 obtain ⟨T, hT⟩ : ∃ T, (rTakes o).map (rKind p a) = T := ⟨_, rfl⟩
 obtain ⟨L, hL⟩ : ∃ L, (rLays o).map (rKind p a) = L := ⟨_, rfl⟩
 rw [hT, hL] at hr
 have HR := hide hr
 have hTn : (rTakes o).length = T.length := by rw [← hT, List.length_map]
 have HTL := hide hT
 have HLL := hide hL
 have HTK := hide (takesR o ho.2.1)
 have HLY := hide (laysR o ho.2.1)
 obtain ⟨ts, hts⟩ : ∃ ts, txt (rTakes o) = ts := ⟨_, rfl⟩
 have hsz : ts.size = T.length := by rw [← hts, txt_size, hTn]
 have HTS := hide hts
 rw [hts] at HTK
 have HO := hide ho
 have hT3 : T.length ≤ 3 := by omega
 have hscap := hki.cell.2.1
 clear h B1 hW1 hr hia hoo haa A1 A2 B2 hW2 hT hL hts ho rf1 hki harg a0 af al q0 hlk hTn rf2 hbl
 have hbl : g.ib < W1.heap.size := Nat.lt_of_lt_of_le hib HRW.out.le
 go_enter Tryz.func165, Tryz.ntmps165
 go_upto_region 1 with fail
 rw [HW1.out]
 clear HW1
 go_upto_region 3 with fail
 rw [HW2.out]
 clear HW2 vo va y8 HRW hbl hib
 go_upto_region 4 with fail
 go_wp2_with fail
 refine (HTK.out _).mono ?_
 rintro e w3 ⟨rfl, hw3⟩
 rw [hw3]
 clear hw3 w3
 by_cases hlT : l.length < T.length
 ·have hr : r = .error 85 := by rw [← HR.out]; unfold visL; rw [if_pos hlT]
  subst hr
  have d1 : (l.length : Int) - (ts.size : Int) < 0 := by omega
  have HD := hide HV2.out.g2
  go_wp2
  go_ret
  exact ⟨rfl, by decide, HD⟩
 obtain ⟨bn, hbn⟩ : ∃ bn, l.length - T.length = bn := ⟨_, rfl⟩
 have hbl' : (l.length : Int) - (T.length : Int) = (bn : Nat) := by omega
 have hbz : ¬ ((bn : Int) < 0) := by omega
 have HLB : Hid (l.length = bn + T.length) := by show _ = _; omega
 have hble : bn ≤ l.length := by omega
 have HR2 : Hid ((if l.drop bn ≠ T then .error 86
   else if 64 < bn + L.length then .error 87
   else if o = 31 ∨ o = 32 then .ok k
   else if o = 25 then handF p k i a.toNat (l.take bn ++ L)
   else if o = 27 ∨ o = 28 then bindK (handF p k i a.toNat l) (fun k' => handF p k' i (i + 1) (l.take bn ++ L))
   else if o = 26 then bindK (handF p k i a.toNat (l.take bn ++ L)) (fun k' => handF p k' i (i + 1) (l.take bn ++ L))
   else handF p k i (i + 1) (l.take bn ++ L)) = r) := by
  show _ = _
  rw [← HR.out]; unfold visL; rw [if_neg hlT, hbn]
 clear HR hbn hlT
 go_upto_region 9 with fail
 clear q1 ql b0 bl yl
 go_loopw [12] (fun x wr => ∃ j : Nat, j ≤ T.length ∧ x = .int .i64 (j : Nat) ∧ Hid ((l.drop bn).take j = T.take j ∧ Vs lim W q ba bs ca cc g p k o a W1.heap.size wr ∧ KI wr (.slice so l.length sc) l)) (fun x _ => T.length - (intOf x).toNat)
 case atStart => exact ⟨0, by omega, rfl, rfl, HV2.out, HKI.out⟩
 case round =>
  obtain ⟨j, hj, rfl, HJ⟩ := hrel
  clear HV2 HKI
  by_cases hjt : j < T.length
  ·obtain ⟨sb, hso, hsbl, hsc⟩ := HJ.out.2.2.cell.2.2 (by omega)
   subst hso
   obtain ⟨m, hm⟩ : ∃ m, bn + j = m := ⟨_, rfl⟩
   have hml : m < l.length := by have := HLB.out; omega
   obtain ⟨x, hx⟩ : ∃ x, l[m]? = some x := ⟨_, List.getElem?_eq_getElem hml⟩
   have hjr : j < (rTakes o).length := by rw [← HTL.out, List.length_map] at hjt; exact hjt
   obtain ⟨c, hc⟩ : ∃ c, (rTakes o)[j] = c := ⟨_, rfl⟩
   have hcm : c ∈ rTakes o := hc ▸ List.getElem_mem hjr
   have hTj : T[j]? = some (rKind p a c) := by rw [← HTL.out, List.getElem?_map, List.getElem?_eq_getElem hjr, hc]; rfl
   have hjs : j < ts.size := by omega
   have hat : (ts[j]'hjs).toNat = c := by
    have hh := HTS.out
    subst hh
    rw [txt_at _ j hjs hjr (by rw [hc]; rcases (HRF1.out c (.inl hcm)).1 with e | e | e | e <;> omega), hc]
   have hmm : (bn : Int) + (j : Int) = ((m : Nat) : Int) := by omega
   obtain ⟨y, hy⟩ : ∃ y, rKind p a c = y := ⟨_, rfl⟩
   obtain ⟨xi, hxi⟩ : ∃ xi : Int, (if x = true then 1 else 0) = xi := ⟨_, rfl⟩
   obtain ⟨yi, hyi⟩ : ∃ yi : Int, (if y = true then 1 else 0) = yi := ⟨_, rfl⟩
   have hne : (xi != yi) = (x != y) := by rw [← hxi, ← hyi]; exact iv_ne x y
   have HX : Hid (∀ w, KI w (.slice (some ⟨sb, 0, none⟩) l.length sc) l → w.cell? ⟨sb, m, none⟩ = some (.int .i64 xi) ∧ sb < w.heap.size) := fun w hw => by
    obtain ⟨sb', e1, e2, e3⟩ := hw.cell.2.2 (by omega)
    cases e1
    have := e3 m x hx
    unfold iv at this
    rw [hxi] at this
    exact ⟨this, e2⟩
   have HKO : Hid (∀ w, (Vs lim W q ba bs ca cc g p k o a W1.heap.size w ∧ KI w (.slice (some ⟨sb, 0, none⟩) l.length sc) l) → Calls Tryz.prog 195 #[.agg [.slice g.ca p.nc g.cc, .slice g.sa p.ns g.sc, .int .i64 (p.en 0), .int .i64 (p.en 1), .int .i64 (p.en 2), .int .i64 (p.en 3), .int .i64 (p.en 4), .int .i64 (p.en 5), .slice g.ia p.n g.ic].toArray, .agg #[.int .i64 (o : Nat), .int .i64 a], .int .u8 (c : Nat)] w fun e w' => e = .returned (.int .i64 yi) ∧ Hid (Vs lim W q ba bs ca cc g p k o a W1.heap.size w' ∧ KI w' (.slice (some ⟨sb, 0, none⟩) l.length sc) l)) := fun w hw => by
    have := HKOF.out w c hw.1 (.inl hcm)
    rw [hy] at this
    unfold iv at this
    rw [hyi] at this
    exact this.mono (fun e w' g => ⟨g.1, hw.1.next g.2.out, hw.2.below g.2.out⟩)
   have HXX := hide hx
   have HYY : Hid (T[j]? = some y) := by show _ = _; rw [hTj, hy]
   have HTJ := hide HJ.out.1
   have HM := hide hm
   have HS0 : Hid (Vs lim W q ba bs ca cc g p k o a W1.heap.size wr.drew ∧ KI wr.drew (.slice (some ⟨sb, 0, none⟩) l.length sc) l) := ⟨HJ.out.2.1.next (Below.refl _ _).drew, HJ.out.2.2.below (Below.refl _ _).drew⟩
   clear hsc hxi hyi hx hTj hc hjr hm HJ hsbl hy
   go_upto_region 11 with fail
   refine wp_region_held_drew (S := fun w => Vs lim W q ba bs ca cc g p k o a W1.heap.size w ∧ KI w (.slice (some ⟨sb, 0, none⟩) l.length sc) l) (by kernel_rfl) HS0.out (fun hH => ?_)
   refine wpAnyH_take (i := 0) (oi := ⟨some 46, .move (.tmp 9), 23, "verify.go:171", #[], none⟩) (v := .slice (some ⟨sb, 0, none⟩) l.length sc) rfl (by kernel_rfl) (by kernel_rfl) (by kernel_rfl) (fun _ _ _ h => h) (Or.inl ⟨by rfl, fun w' hSw => ?_⟩) hH ?_
   ·go_simp
   simp only [Act.put, lsA, lsB, lsC]
   refine wpAnyH_take (i := 1) (oi := ⟨some 47, .move (.tmp 11), 3, "verify.go:171", #[], none⟩) (v := .int .i64 (bn : Nat)) rfl (by kernel_rfl) (by kernel_rfl) (by kernel_rfl) (fun _ _ _ h => h) (Or.inl ⟨by rfl, fun w' hSw => ?_⟩) hH ?_
   ·go_simp
   simp only [Act.put, lsA, lsB, lsC]
   refine wpAnyH_take (i := 2) (oi := ⟨some 48, .move (.tmp 12), 3, "verify.go:171", #[], none⟩) (v := .int .i64 (j : Nat)) rfl (by kernel_rfl) (by kernel_rfl) (by kernel_rfl) (fun _ _ _ h => h) (Or.inl ⟨by rfl, fun w' hSw => ?_⟩) hH ?_
   ·go_simp
   simp only [Act.put, lsA, lsB, lsC]
   refine wpAnyH_take (i := 3) (oi := ⟨some 49, .binOp .add 3 (.tmp 47) (.tmp 48) 3, 3, "verify.go:171", #[⟨1, .data⟩, ⟨2, .data⟩], none⟩) (v := .int .i64 (m : Nat)) rfl (by kernel_rfl) (by kernel_rfl) (by kernel_rfl) (fun _ _ _ h => h) (Or.inl ⟨by rfl, fun w' hSw => ?_⟩) hH ?_
   ·go_simp
    rw [IntKind.wrap_i64]
    omega
   simp only [Act.put, lsA, lsB, lsC]
   refine wpAnyH_take (i := 4) (oi := ⟨some 50, .indexAddr 23 (.tmp 46) (.tmp 49), 0, "verify.go:171", #[⟨0, .data⟩, ⟨3, .data⟩], none⟩) (v := .pointer (some ⟨sb, m, none⟩)) rfl (by kernel_rfl) (by kernel_rfl) (by kernel_rfl) (fun _ _ _ h => h) (Or.inl ⟨by rfl, fun w' hSw => ?_⟩) hH ?_
   ·go_simp
   simp only [Act.put, lsA, lsB, lsC]
   refine wpAnyH_take (i := 5) (oi := ⟨some 51, .load 3 (.tmp 50), 3, "verify.go:171", #[⟨4, .data⟩], none⟩) (v := .int .i64 xi) rfl (by kernel_rfl) (by kernel_rfl) (by kernel_rfl) (fun _ _ _ h => h) (Or.inl ⟨by rfl, fun w' hSw => ?_⟩) hH ?_
   ·obtain ⟨z0, zl⟩ := HX.out _ hSw.2
    go_simp
   simp only [Act.put, lsA, lsB, lsC]
   refine wpAnyH_take (i := 6) (oi := ⟨some 52, .load 27 (.tmp 4), 27, "verify.go:171", #[], none⟩) (v := .agg #[.slice g.ca p.nc g.cc, .slice g.sa p.ns g.sc, .int .i64 (p.en 0), .int .i64 (p.en 1), .int .i64 (p.en 2), .int .i64 (p.en 3), .int .i64 (p.en 4), .int .i64 (p.en 5), .slice g.ia p.n g.ic]) rfl (by kernel_rfl) (by kernel_rfl) (by kernel_rfl) (fun _ _ _ h => h) (Or.inl ⟨by rfl, fun w' hSw => ?_⟩) hH ?_
   ·obtain ⟨y0, y1, y2, y3, y4, y5, y6, y7, y8, yl, x0, x1, xl⟩ := hSw.1.cells
    go_simp
   simp only [Act.put, lsA, lsB, lsC]
   refine wpAnyH_take (i := 7) (oi := ⟨some 53, .load 42 (.tmp 7), 42, "verify.go:171", #[], none⟩) (v := .agg #[.int .i64 (o : Nat), .int .i64 a]) rfl (by kernel_rfl) (by kernel_rfl) (by kernel_rfl) (fun _ _ _ h => h) (Or.inl ⟨by rfl, fun w' hSw => ?_⟩) hH ?_
   ·obtain ⟨y0, y1, y2, y3, y4, y5, y6, y7, y8, yl, x0, x1, xl⟩ := hSw.1.cells
    go_simp
   simp only [Act.put, lsA, lsB, lsC]
   refine wpAnyH_take (i := 8) (oi := ⟨some 54, .move (.tmp 10), 9, "verify.go:171", #[], none⟩) (v := .string ts) rfl (by kernel_rfl) (by kernel_rfl) (by kernel_rfl) (fun _ _ _ h => h) (Or.inl ⟨by rfl, fun w' hSw => ?_⟩) hH ?_
   ·go_simp
   simp only [Act.put, lsA, lsB, lsC]
   refine wpAnyH_take (i := 9) (oi := ⟨some 55, .move (.tmp 12), 3, "verify.go:171", #[], none⟩) (v := .int .i64 (j : Nat)) rfl (by kernel_rfl) (by kernel_rfl) (by kernel_rfl) (fun _ _ _ h => h) (Or.inl ⟨by rfl, fun w' hSw => ?_⟩) hH ?_
   ·go_simp
   simp only [Act.put, lsA, lsB, lsC]
   refine wpAnyH_take (i := 10) (oi := ⟨some 56, .index 9 (.tmp 54) (.tmp 55), 5, "verify.go:171", #[⟨8, .data⟩, ⟨9, .data⟩], none⟩) (v := .int .u8 (c : Nat)) rfl (by kernel_rfl) (by kernel_rfl) (by kernel_rfl) (fun _ _ _ h => h) (Or.inl ⟨by rfl, fun w' hSw => ?_⟩) hH ?_
   ·go_simp
   simp only [Act.put, lsA, lsB, lsC]
   refine wpAnyH_ready (rs := [11]) (by kernel_rfl) (by simp) ?_
   refine AllReadyH.cons rfl (fun K hK => ?_) AllReadyH.nil
   go_simp
   go_wp2_with fail
   refine (HKO.out _ hH).mono ?_
   rintro e w5 ⟨rfl, G5⟩
   go_wp2_with fail
   refine hK.out _ _ G5.out (fun hG5 => ?_)
   clear hK K
   refine wpAnyH_take (i := 12) (oi := ⟨some 58, .binOp .neq 3 (.tmp 51) (.tmp 57) 3, 4, "verify.go:171", #[⟨5, .data⟩, ⟨11, .data⟩], none⟩) (v := .bool (xi != yi)) rfl (by kernel_rfl) (by kernel_rfl) (by kernel_rfl) (fun _ _ _ h => h) (Or.inl ⟨by rfl, fun w' hSw => ?_⟩) hG5 ?_
   ·go_simp
   simp only [Act.put, lsA, lsB, lsC]
   refine wpAnyH_done (by kernel_rfl) ?_ _
   by_cases hxy : x = y
   ·have HD : Hid ((l.drop bn).take (j + 1) = T.take (j + 1)) := by
     show _ = _
     rw [List.take_add_one, List.take_add_one, HTJ.out, HYY.out, List.getElem?_drop, HM.out, HXX.out, hxy]
    have e2 : (xi != yi) = false := by rw [hne]; simpa using hxy
    rw [e2]
    clear hne e2
    go_wp2
    go_roundw
    case rel => exact ⟨j + 1, by omega, by go_num, HD.out, G5.out⟩
    case measure => simp [intOf]; omega
   ·have hr : r = .error 86 := by
     rw [← HR2.out, if_pos]
     intro e
     apply hxy
     have h1 : (l.drop bn)[j]? = some x := by rw [List.getElem?_drop, HM.out]; exact HXX.out
     rw [e, HYY.out] at h1
     cases h1
     rfl
    subst hr
    have e2 : (xi != yi) = true := by rw [hne]; simpa using hxy
    rw [e2]
    have HD := hide G5.out.1.g2
    clear hne e2
    go_wp2
    go_ret
    exact ⟨rfl, by decide, HD⟩
  ·obtain rfl : j = T.length := by omega
   have hdT : l.drop bn = T := by
    have := HJ.out.1
    rwa [List.take_length, List.take_of_length_le (by rw [List.length_drop]; have := HLB.out; omega)] at this
   have HR3 : Hid ((if 64 < bn + L.length then .error 87
     else if o = 31 ∨ o = 32 then .ok k
     else if o = 25 then handF p k i a.toNat (l.take bn ++ L)
     else if o = 27 ∨ o = 28 then bindK (handF p k i a.toNat l) (fun k' => handF p k' i (i + 1) (l.take bn ++ L))
     else if o = 26 then bindK (handF p k i a.toNat (l.take bn ++ L)) (fun k' => handF p k' i (i + 1) (l.take bn ++ L))
     else handF p k i (i + 1) (l.take bn ++ L)) = r) := by
    show _ = _
    rw [← HR2.out, if_neg (show ¬ (l.drop bn ≠ T) from fun h => h hdT)]
   have HV := hide HJ.out.2.1
   have HKw := hide HJ.out.2.2
   have HCP := hide (copyR (HKw.out.take bn hble) (by rw [List.length_take]; omega))
   have hlt2 : (l.take bn).length = bn := by rw [List.length_take]; omega
   rw [hlt2] at HCP
   clear HJ hdT HR2 hlt2
   have hbsc : bn ≤ sc := by omega
   go_wp2_with fail
   refine HCP.out.mono ?_
   rintro e w3 ⟨v3, rfl, G3⟩
   have HO3 := hide G3.out.1
   have HB3 := hide G3.out.2
   obtain ⟨ao3, cap3, hv3⟩ := (KI.own (l := l.take bn) (by rw [List.length_take, Nat.min_eq_left hble]; exact HO3.out)).val
   rw [List.length_take, Nat.min_eq_left hble] at hv3
   have HV3E := hide hv3
   clear hv3
   have HV3 := hide (HV.out.next HB3.out)
   have HKs := hide (HKw.out.below HB3.out)
   clear G3
   go_wp2_with fail
   refine (HLY.out _).mono ?_
   rintro e w4 ⟨rfl, hw4⟩
   rw [hw4]
   clear hw4 w4
   rcases rf3 with ⟨hle, hoc⟩ | ⟨⟨c, hlc⟩, ho25⟩
   ·have hv3 := HV3E.out
    subst hv3
    have hL : L = [] := by rw [← HLL.out, hle]; rfl
    obtain ⟨M, hM⟩ : ∃ M, l.take bn = M := ⟨_, rfl⟩
    have HR4 : Hid ((if 64 < bn then .error 87
     else if o = 31 ∨ o = 32 then .ok k
     else if o = 25 then handF p k i a.toNat M
     else if o = 27 ∨ o = 28 then bindK (handF p k i a.toNat l) (fun k' => handF p k' i (i + 1) M)
     else if o = 26 then bindK (handF p k i a.toNat M) (fun k' => handF p k' i (i + 1) M)
     else handF p k i (i + 1) M) = r) := by
     show _ = _
     rw [← HR3.out, hL, List.append_nil, hM]
     rfl
    have hMl : M.length = bn := by rw [← hM, List.length_take]; omega
    rw [if_neg (by omega)] at HR4
    have HM64 : Hid (M.length ≤ 64) := by show _ ≤ _; omega
    have HKc : Hid (KI w3 (.slice ao3 bn cap3) M) := by
     refine KI.own (l := M) (base := wr.heap.size) ?_
     rw [hMl, ← hM]
     exact HO3.out
    have HVc := hide HV3.out
    have h64 : ¬ (64 < (bn : Int)) := by omega
    rw [show txt (rLays o) = ⟨#[]⟩ by rw [hle]; rfl]
    clear hMl hM hL HR3 HO3 HB3 HLL HKOF HV3 HRF1 HTL HTS HLY HKw HV HCP
    have hO := HO.out.2
    have hcase : o = 1 ∨ o = 7 ∨ o = 25 ∨ o = 26 ∨ o = 27 ∨ o = 28 ∨ o = 29 ∨ o = 30 ∨ o = 31 ∨ o = 32 := by omega
    clear hO hoc HO
    rcases hcase with rfl | rfl | rfl | rfl | rfl | rfl | rfl | rfl | rfl | rfl
    ·skip
     have hr : r = handF p k i (i + 1) M := by rw [← HR4.out]; simp
     subst hr
     clear HR4
     obtain ⟨y0, y1, y2, y3, y4, y5, y6, y7, y8, yl, x0, x1, xl⟩ := HVc.out.cells
     go_wp2_with fail
     refine (HHD.out _ _ (i + 1) _ _ HVc.out hkb HKc.out HM64.out (by omega)).mono ?_
     intro e w9 hh9
     have hi1 : ((i + 1 : Nat) : Int) = (i : Int) + 1 := by omega
     generalize handF p k i (i + 1) M = r9 at *
     cases r9 with
     | ok k9 =>
      obtain ⟨rfl, G9⟩ := hh9
      have HD : Hid (RW lim w9 q ba bs ca cc g p k9 ∧ G2w W w9 ba bs) := ⟨G9.out.1, HVc.out.g2.trans G9.out.2⟩
      go_wp2
      go_ret
      exact ⟨rfl, HD⟩
     | error y9 =>
      obtain ⟨rfl, hne9, G9⟩ := hh9
      have HD : Hid (G2w W w9 ba bs) := HVc.out.g2.trans G9.out
      go_wp2
      go_ret
      exact ⟨rfl, hne9, HD⟩
    ·skip
     have hr : r = handF p k i (i + 1) M := by rw [← HR4.out]; simp
     subst hr
     clear HR4
     obtain ⟨y0, y1, y2, y3, y4, y5, y6, y7, y8, yl, x0, x1, xl⟩ := HVc.out.cells
     go_wp2_with fail
     refine (HHD.out _ _ (i + 1) _ _ HVc.out hkb HKc.out HM64.out (by omega)).mono ?_
     intro e w9 hh9
     have hi1 : ((i + 1 : Nat) : Int) = (i : Int) + 1 := by omega
     generalize handF p k i (i + 1) M = r9 at *
     cases r9 with
     | ok k9 =>
      obtain ⟨rfl, G9⟩ := hh9
      have HD : Hid (RW lim w9 q ba bs ca cc g p k9 ∧ G2w W w9 ba bs) := ⟨G9.out.1, HVc.out.g2.trans G9.out.2⟩
      go_wp2
      go_ret
      exact ⟨rfl, HD⟩
     | error y9 =>
      obtain ⟨rfl, hne9, G9⟩ := hh9
      have HD : Hid (G2w W w9 ba bs) := HVc.out.g2.trans G9.out
      go_wp2
      go_ret
      exact ⟨rfl, hne9, HD⟩
    ·skip
     obtain ⟨ha1, ha2⟩ := HAD.out (by omega) (by omega)
     obtain ⟨d, hd⟩ : ∃ d, a.toNat = d := ⟨_, rfl⟩
     rw [hd] at ha1 ha2 HR4
     subst ha1
     obtain ⟨y0, y1, y2, y3, y4, y5, y6, y7, y8, yl, x0, x1, xl⟩ := HVc.out.cells
     go_wp2_with fail
     refine (HHD.out _ _ d _ _ HVc.out hkb HKc.out HM64.out (by omega)).mono ?_
     intro e w8 hh8
     cases h8 : handF p k i d M with
     | error y8 =>
      have hr : r = .error y8 := by rw [← HR4.out]; simp [h8]
      subst hr
      rw [h8] at hh8
      obtain ⟨rfl, hne8, G8⟩ := hh8
      have HD : Hid (G2w W w8 ba bs) := HVc.out.g2.trans G8.out
      have hz8 : (y8 != 0) = true := by simpa using hne8
      clear HR4 h8
      go_wp2
      go_ret
      exact ⟨rfl, hne8, HD⟩
     | ok k8 =>
      rw [h8] at hh8
      obtain ⟨rfl, G8⟩ := hh8
      have hr : r = .ok k8 := by rw [← HR4.out]; simp [h8]
      subst hr
      have HD : Hid (RW lim w8 q ba bs ca cc g p k8 ∧ G2w W w8 ba bs) := ⟨G8.out.1, HVc.out.g2.trans G8.out.2⟩
      clear HR4 h8
      go_wp2
      go_ret
      exact ⟨rfl, HD⟩
    ·skip
     obtain ⟨ha1, ha2⟩ := HAD.out (by omega) (by omega)
     obtain ⟨d, hd⟩ : ∃ d, a.toNat = d := ⟨_, rfl⟩
     rw [hd] at ha1 ha2 HR4
     subst ha1
     obtain ⟨y0, y1, y2, y3, y4, y5, y6, y7, y8, yl, x0, x1, xl⟩ := HVc.out.cells
     go_wp2_with fail
     refine (HHD.out _ _ d _ _ HVc.out hkb HKc.out HM64.out (by omega)).mono ?_
     intro e w8 hh8
     cases h8 : handF p k i d M with
     | error y8 =>
      have hr : r = .error y8 := by rw [← HR4.out]; simp [h8, bindK]
      subst hr
      rw [h8] at hh8
      obtain ⟨rfl, hne8, G8⟩ := hh8
      have HD : Hid (G2w W w8 ba bs) := HVc.out.g2.trans G8.out
      have hz8 : (y8 != 0) = true := by simpa using hne8
      clear HR4 h8
      go_wp2
      go_ret
      exact ⟨rfl, hne8, HD⟩
     | ok k8 =>
      rw [h8] at hh8
      obtain ⟨rfl, G8⟩ := hh8
      have hr : r = handF p k8 i (i + 1) M := by rw [← HR4.out]; simp [h8, bindK]
      subst hr
      have HV8 := hide (HVc.out.hand G8.out.1 G8.out.2)
      have HK8 : Hid (KI w8 (.slice ao3 bn cap3) M) := HKc.out.kept (fun b cs e => G8.out.2.int HVc.out.rw e)
      have hkb8 : KB k8 := hkb.hand HM64.out h8
      clear HR4 h8 y0 y1 y2 y3 y4 y5 y6 y7 y8 yl x0 x1 xl
      obtain ⟨y0, y1, y2, y3, y4, y5, y6, y7, y8, yl, x0, x1, xl⟩ := HV8.out.cells
      go_wp2_with fail
      refine (HHD.out _ _ (i + 1) _ _ HV8.out hkb8 HK8.out HM64.out (by omega)).mono ?_
      intro e w9 hh9
      have hi1 : ((i + 1 : Nat) : Int) = (i : Int) + 1 := by omega
      generalize handF p k8 i (i + 1) M = r9 at *
      cases r9 with
      | ok k9 =>
       obtain ⟨rfl, G9⟩ := hh9
       have HD : Hid (RW lim w9 q ba bs ca cc g p k9 ∧ G2w W w9 ba bs) := ⟨G9.out.1, HV8.out.g2.trans G9.out.2⟩
       go_wp2
       go_ret
       exact ⟨rfl, HD⟩
      | error y9 =>
       obtain ⟨rfl, hne9, G9⟩ := hh9
       have HD : Hid (G2w W w9 ba bs) := HV8.out.g2.trans G9.out
       go_wp2
       go_ret
       exact ⟨rfl, hne9, HD⟩
    ·skip
     obtain ⟨ha1, ha2⟩ := HAD.out (by omega) (by omega)
     obtain ⟨d, hd⟩ : ∃ d, a.toNat = d := ⟨_, rfl⟩
     rw [hd] at ha1 ha2 HR4
     subst ha1
     obtain ⟨y0, y1, y2, y3, y4, y5, y6, y7, y8, yl, x0, x1, xl⟩ := HVc.out.cells
     go_wp2_with fail
     refine (HHD.out _ _ d _ _ HVc.out hkb HKs.out hll (by omega)).mono ?_
     intro e w8 hh8
     cases h8 : handF p k i d l with
     | error y8 =>
      have hr : r = .error y8 := by rw [← HR4.out]; simp [h8, bindK]
      subst hr
      rw [h8] at hh8
      obtain ⟨rfl, hne8, G8⟩ := hh8
      have HD : Hid (G2w W w8 ba bs) := HVc.out.g2.trans G8.out
      have hz8 : (y8 != 0) = true := by simpa using hne8
      clear HR4 h8
      go_wp2
      go_ret
      exact ⟨rfl, hne8, HD⟩
     | ok k8 =>
      rw [h8] at hh8
      obtain ⟨rfl, G8⟩ := hh8
      have hr : r = handF p k8 i (i + 1) M := by rw [← HR4.out]; simp [h8, bindK]
      subst hr
      have HV8 := hide (HVc.out.hand G8.out.1 G8.out.2)
      have HK8 : Hid (KI w8 (.slice ao3 bn cap3) M) := HKc.out.kept (fun b cs e => G8.out.2.int HVc.out.rw e)
      have hkb8 : KB k8 := hkb.hand hll h8
      clear HR4 h8 y0 y1 y2 y3 y4 y5 y6 y7 y8 yl x0 x1 xl
      obtain ⟨y0, y1, y2, y3, y4, y5, y6, y7, y8, yl, x0, x1, xl⟩ := HV8.out.cells
      go_wp2_with fail
      refine (HHD.out _ _ (i + 1) _ _ HV8.out hkb8 HK8.out HM64.out (by omega)).mono ?_
      intro e w9 hh9
      have hi1 : ((i + 1 : Nat) : Int) = (i : Int) + 1 := by omega
      generalize handF p k8 i (i + 1) M = r9 at *
      cases r9 with
      | ok k9 =>
       obtain ⟨rfl, G9⟩ := hh9
       have HD : Hid (RW lim w9 q ba bs ca cc g p k9 ∧ G2w W w9 ba bs) := ⟨G9.out.1, HV8.out.g2.trans G9.out.2⟩
       go_wp2
       go_ret
       exact ⟨rfl, HD⟩
      | error y9 =>
       obtain ⟨rfl, hne9, G9⟩ := hh9
       have HD : Hid (G2w W w9 ba bs) := HV8.out.g2.trans G9.out
       go_wp2
       go_ret
       exact ⟨rfl, hne9, HD⟩
    ·skip
     obtain ⟨ha1, ha2⟩ := HAD.out (by omega) (by omega)
     obtain ⟨d, hd⟩ : ∃ d, a.toNat = d := ⟨_, rfl⟩
     rw [hd] at ha1 ha2 HR4
     subst ha1
     obtain ⟨y0, y1, y2, y3, y4, y5, y6, y7, y8, yl, x0, x1, xl⟩ := HVc.out.cells
     go_wp2_with fail
     refine (HHD.out _ _ d _ _ HVc.out hkb HKs.out hll (by omega)).mono ?_
     intro e w8 hh8
     cases h8 : handF p k i d l with
     | error y8 =>
      have hr : r = .error y8 := by rw [← HR4.out]; simp [h8, bindK]
      subst hr
      rw [h8] at hh8
      obtain ⟨rfl, hne8, G8⟩ := hh8
      have HD : Hid (G2w W w8 ba bs) := HVc.out.g2.trans G8.out
      have hz8 : (y8 != 0) = true := by simpa using hne8
      clear HR4 h8
      go_wp2
      go_ret
      exact ⟨rfl, hne8, HD⟩
     | ok k8 =>
      rw [h8] at hh8
      obtain ⟨rfl, G8⟩ := hh8
      have hr : r = handF p k8 i (i + 1) M := by rw [← HR4.out]; simp [h8, bindK]
      subst hr
      have HV8 := hide (HVc.out.hand G8.out.1 G8.out.2)
      have HK8 : Hid (KI w8 (.slice ao3 bn cap3) M) := HKc.out.kept (fun b cs e => G8.out.2.int HVc.out.rw e)
      have hkb8 : KB k8 := hkb.hand hll h8
      clear HR4 h8 y0 y1 y2 y3 y4 y5 y6 y7 y8 yl x0 x1 xl
      obtain ⟨y0, y1, y2, y3, y4, y5, y6, y7, y8, yl, x0, x1, xl⟩ := HV8.out.cells
      go_wp2_with fail
      refine (HHD.out _ _ (i + 1) _ _ HV8.out hkb8 HK8.out HM64.out (by omega)).mono ?_
      intro e w9 hh9
      have hi1 : ((i + 1 : Nat) : Int) = (i : Int) + 1 := by omega
      generalize handF p k8 i (i + 1) M = r9 at *
      cases r9 with
      | ok k9 =>
       obtain ⟨rfl, G9⟩ := hh9
       have HD : Hid (RW lim w9 q ba bs ca cc g p k9 ∧ G2w W w9 ba bs) := ⟨G9.out.1, HV8.out.g2.trans G9.out.2⟩
       go_wp2
       go_ret
       exact ⟨rfl, HD⟩
      | error y9 =>
       obtain ⟨rfl, hne9, G9⟩ := hh9
       have HD : Hid (G2w W w9 ba bs) := HV8.out.g2.trans G9.out
       go_wp2
       go_ret
       exact ⟨rfl, hne9, HD⟩
    ·skip
     have hr : r = handF p k i (i + 1) M := by rw [← HR4.out]; simp
     subst hr
     clear HR4
     obtain ⟨y0, y1, y2, y3, y4, y5, y6, y7, y8, yl, x0, x1, xl⟩ := HVc.out.cells
     go_wp2_with fail
     refine (HHD.out _ _ (i + 1) _ _ HVc.out hkb HKc.out HM64.out (by omega)).mono ?_
     intro e w9 hh9
     have hi1 : ((i + 1 : Nat) : Int) = (i : Int) + 1 := by omega
     generalize handF p k i (i + 1) M = r9 at *
     cases r9 with
     | ok k9 =>
      obtain ⟨rfl, G9⟩ := hh9
      have HD : Hid (RW lim w9 q ba bs ca cc g p k9 ∧ G2w W w9 ba bs) := ⟨G9.out.1, HVc.out.g2.trans G9.out.2⟩
      go_wp2
      go_ret
      exact ⟨rfl, HD⟩
     | error y9 =>
      obtain ⟨rfl, hne9, G9⟩ := hh9
      have HD : Hid (G2w W w9 ba bs) := HVc.out.g2.trans G9.out
      go_wp2
      go_ret
      exact ⟨rfl, hne9, HD⟩
    ·skip
     have hr : r = handF p k i (i + 1) M := by rw [← HR4.out]; simp
     subst hr
     clear HR4
     obtain ⟨y0, y1, y2, y3, y4, y5, y6, y7, y8, yl, x0, x1, xl⟩ := HVc.out.cells
     go_wp2_with fail
     refine (HHD.out _ _ (i + 1) _ _ HVc.out hkb HKc.out HM64.out (by omega)).mono ?_
     intro e w9 hh9
     have hi1 : ((i + 1 : Nat) : Int) = (i : Int) + 1 := by omega
     generalize handF p k i (i + 1) M = r9 at *
     cases r9 with
     | ok k9 =>
      obtain ⟨rfl, G9⟩ := hh9
      have HD : Hid (RW lim w9 q ba bs ca cc g p k9 ∧ G2w W w9 ba bs) := ⟨G9.out.1, HVc.out.g2.trans G9.out.2⟩
      go_wp2
      go_ret
      exact ⟨rfl, HD⟩
     | error y9 =>
      obtain ⟨rfl, hne9, G9⟩ := hh9
      have HD : Hid (G2w W w9 ba bs) := HVc.out.g2.trans G9.out
      go_wp2
      go_ret
      exact ⟨rfl, hne9, HD⟩
    ·skip
     have hr : r = .ok k := by rw [← HR4.out]; simp
     subst hr
     clear HR4
     have HD : Hid (RW lim w3 q ba bs ca cc g p k ∧ G2w W w3 ba bs) := ⟨HVc.out.rw, HVc.out.g2⟩
     go_wp2
     go_ret
     exact ⟨rfl, HD⟩
    ·skip
     have hr : r = .ok k := by rw [← HR4.out]; simp
     subst hr
     clear HR4
     have HD : Hid (RW lim w3 q ba bs ca cc g p k ∧ G2w W w3 ba bs) := ⟨HVc.out.rw, HVc.out.g2⟩
     go_wp2
     go_ret
     exact ⟨rfl, HD⟩
   ·obtain ⟨y, hy⟩ : ∃ y, rKind p a c = y := ⟨_, rfl⟩
    obtain ⟨yi, hyi⟩ : ∃ yi : Int, (if y = true then 1 else 0) = yi := ⟨_, rfl⟩
    have hL : L = [y] := by rw [← HLL.out, hlc, ← hy]; rfl
    obtain ⟨M, hM⟩ : ∃ M, l.take bn ++ [y] = M := ⟨_, rfl⟩
    have HR4 : Hid ((if 64 < bn + 1 then .error 87 else handF p k i (i + 1) M) = r) := by
     show _ = _
     rw [← HR3.out, hL, hM]
     rw [if_neg (show ¬ (o = 31 ∨ o = 32) by omega), if_neg (show ¬ o = 25 by omega), if_neg (show ¬ (o = 27 ∨ o = 28) by omega), if_neg (show ¬ o = 26 by omega)]
     rfl
    have hMl : M.length = bn + 1 := by rw [← hM]; simp; omega
    have hcm : c ∈ rLays o := by rw [hlc]; simp
    have hc256 : c < 256 := by rcases (HRF1.out c (.inr hcm)).1 with e | e | e | e <;> omega
    obtain ⟨ls, hls⟩ : ∃ ls, txt (rLays o) = ls := ⟨_, rfl⟩
    have hlz : ls.size = 1 := by rw [← hls, hlc]; rfl
    have hl0 : 0 < ls.size := by omega
    have hat : (ls[0]'hl0).toNat = c := by
     subst hls
     rw [txt_at _ 0 hl0 (by rw [hlc]; simp) (by simp [hlc, hc256])]
     simp [hlc]
    have hlst : ls.toList = [UInt8.ofNat c] := by rw [← hls, txt_toList, hlc]; rfl
    have HKL : Hid (∀ w, Vs lim W q ba bs ca cc g p k o a W1.heap.size w → Calls Tryz.prog 195 #[.agg [.slice g.ca p.nc g.cc, .slice g.sa p.ns g.sc, .int .i64 (p.en 0), .int .i64 (p.en 1), .int .i64 (p.en 2), .int .i64 (p.en 3), .int .i64 (p.en 4), .int .i64 (p.en 5), .slice g.ia p.n g.ic].toArray, .agg #[.int .i64 (o : Nat), .int .i64 a], .int .u8 (c : Nat)] w fun e w' => e = .returned (.int .i64 yi) ∧ Hid (Below w.heap.size w w')) := fun w hw => by
     have := HKOF.out w c hw (.inr hcm)
     rw [hy] at this
     unfold iv at this
     rw [hyi] at this
     exact this
    have HYI := hide hyi
    have HMM := hide hM
    have HBd : Hid (Below w3.heap.size w3 w3.drew) := (Below.refl _ _).drew
    have HML := hide hMl
    have e25 : ¬ (25 ≤ (o : Int)) := by omega
    have n25 : ((o : Int) == 25) = false := by simp; omega
    have n31 : ((o : Int) == 31) = false := by simp; omega
    have n32 : ((o : Int) == 32) = false := by simp; omega
    rw [hls]
    clear hMl hM hL HR3 HLL HKOF HRF1 HTL HTS HLY HKw HCP hyi hy hlc hcm hc256 hls
    go_upto_region 16 with fail
    clear hlst
    refine wp_region_held_drew (S := fun w => Vs lim W q ba bs ca cc g p k o a W1.heap.size w) (by kernel_rfl) (HV3.out.next HBd.out) (fun hH => ?_)
    refine wpAnyH_take (i := 0) (oi := ⟨some 67, .move (.tmp 13), 23, "verify.go:178", #[], none⟩) (v := v3) rfl (by kernel_rfl) (by kernel_rfl) (by kernel_rfl) (fun _ _ _ h => h) (Or.inl ⟨by rfl, fun w' hSw => ?_⟩) hH ?_
    ·go_simp
    simp only [Act.put, lsA, lsB, lsC]
    refine wpAnyH_take (i := 1) (oi := ⟨some 68, .load 27 (.tmp 4), 27, "verify.go:178", #[], none⟩) (v := .agg #[.slice g.ca p.nc g.cc, .slice g.sa p.ns g.sc, .int .i64 (p.en 0), .int .i64 (p.en 1), .int .i64 (p.en 2), .int .i64 (p.en 3), .int .i64 (p.en 4), .int .i64 (p.en 5), .slice g.ia p.n g.ic]) rfl (by kernel_rfl) (by kernel_rfl) (by kernel_rfl) (fun _ _ _ h => h) (Or.inl ⟨by rfl, fun w' hSw => ?_⟩) hH ?_
    ·obtain ⟨y0, y1, y2, y3, y4, y5, y6, y7, y8, yl, x0, x1, xl⟩ := hSw.cells
     go_simp
    simp only [Act.put, lsA, lsB, lsC]
    refine wpAnyH_take (i := 2) (oi := ⟨some 69, .load 42 (.tmp 7), 42, "verify.go:178", #[], none⟩) (v := .agg #[.int .i64 (o : Nat), .int .i64 a]) rfl (by kernel_rfl) (by kernel_rfl) (by kernel_rfl) (fun _ _ _ h => h) (Or.inl ⟨by rfl, fun w' hSw => ?_⟩) hH ?_
    ·obtain ⟨y0, y1, y2, y3, y4, y5, y6, y7, y8, yl, x0, x1, xl⟩ := hSw.cells
     go_simp
    simp only [Act.put, lsA, lsB, lsC]
    refine wpAnyH_take (i := 3) (oi := ⟨some 70, .move (.tmp 14), 9, "verify.go:178", #[], none⟩) (v := .string ls) rfl (by kernel_rfl) (by kernel_rfl) (by kernel_rfl) (fun _ _ _ h => h) (Or.inl ⟨by rfl, fun w' hSw => ?_⟩) hH ?_
    ·go_simp
    simp only [Act.put, lsA, lsB, lsC]
    refine wpAnyH_take (i := 4) (oi := ⟨some 71, .index 9 (.tmp 70) (.const (.int .i64 0)), 5, "verify.go:178", #[⟨3, .data⟩], none⟩) (v := .int .u8 (c : Nat)) rfl (by kernel_rfl) (by kernel_rfl) (by kernel_rfl) (fun _ _ _ h => h) (Or.inl ⟨by rfl, fun w' hSw => ?_⟩) hH ?_
    ·go_simp
    simp only [Act.put, lsA, lsB, lsC]
    refine wpAnyH_ready (rs := [5]) (by kernel_rfl) (by simp) ?_
    refine AllReadyH.cons rfl (fun K hK => ?_) AllReadyH.nil
    go_simp
    go_wp2_with fail
    refine (HKL.out _ hH).mono ?_
    rintro e w6 ⟨rfl, G6⟩
    go_wp2_with fail
    refine hK.out _ _ (HV3.out.next (w' := w6) (HBd.out.trans (G6.out.mono HBd.out.size))) (fun hG6 => ?_)
    clear hK K
    have HB6 := hide (HB3.out.trans ((HBd.out.trans (G6.out.mono HBd.out.size)).mono HB3.out.size))
    have HO6 : Hid ((w6.alloc (.cells #[.int .i64 yi] 3)).ownsRow wr.heap.size 3 1 v3 bn ((l.take bn).map iv)) := row_quietT (row_quietT HO3.out (grown_of_below (HBd.out.trans (G6.out.mono HBd.out.size)) none)) (World.grownBy_alloc _ _ none)
    refine wpAnyH_ready (rs := [6]) (by kernel_rfl) (by simp) ?_
    refine AllReadyH.cons rfl (fun K hK => ?_) AllReadyH.nil
    go_simp
    go_wp2_with fail
    refine hK.out _ _ (hG6.next (below_alloc1 w6 _)) (fun hG7 => ?_)
    clear hK K
    obtain ⟨v8, w8, hrun, ho8, hg8, _⟩ := run_append_own (P := Tryz.prog) (w6.alloc (.cells #[.int .i64 yi] 3)) wr.heap.size 23 23 3 i0 (.int .i64 0) 1 8 Tryz.underlying23 hi0 hz0 hz1 hz2 rfl (by decide) v3 bn _ HO6.out ⟨w6.heap.size, 0, none⟩ 1 1 [.int .i64 yi] rfl (cell_one_new _ _ _) (by simp [Value.oneCell']) (by unfold maxLen; omega) (by omega) (by have := HB6.out.size; simp; omega)
    have HB8 : Hid (Below wr.heap.size wr w8) := ((HB6.out.alloc HB6.out.size _)).grown hg8 (by have := HB6.out.size; simp; omega) (fun g e => (HO3.out.lt g e).1)
    have HO8 := hide ho8
    clear ho8 hg8
    refine wpAnyH_ready (rs := [7]) (by kernel_rfl) (by simp) ?_
    refine AllReadyH.cons rfl (fun K hK => ?_) AllReadyH.nil
    rw [if_pos (by kernel_rfl)]
    refine wp_append1 (.tmp 67) (.tmp 73) 23 rfl (v := v3) (v' := v8) (w' := w8) rfl rfl hrun ?_
    simp only [Act.put, List.setIfInBounds_toArray]
    refine hK.out _ _ (HV.out.next HB8.out) (fun hG8 => ?_)
    clear hK K
    refine wpAnyH_ready (rs := [8]) (by kernel_rfl) (by simp) ?_
    refine AllReadyH.cons rfl (fun K hK => ?_) AllReadyH.nil
    go_simp
    go_wp2_with fail
    refine hK.out _ _ hG8 (fun hG9 => ?_)
    clear hK K
    refine wpAnyH_done (by kernel_rfl) ?_ _
    have HVc := hide hG9
    obtain ⟨av, hav⟩ : ∃ av, v8 = av := ⟨_, rfl⟩
    have HKc : Hid (KI w8 v8 M) := by
     refine KI.own (l := M) (base := wr.heap.size) ?_
     rw [HML.out, ← HMM.out, List.map_append]
     have := HO8.out
     rw [← HYI.out] at this
     exact this
    obtain ⟨ao8, cap8, hv8⟩ := HKc.out.val
    rw [HML.out] at hv8
    subst hv8
    clear HO8 HB8 hG8 hG9 hG7 hG6 HB6 HO6 hrun HKL HO3 HB3 HBd hav av
    by_cases h65 : 64 < bn + 1
    ·have hr : r = .error 87 := by rw [← HR4.out, if_pos h65]
     subst hr
     have e65 : 64 < (bn : Int) + 1 := by omega
     have HD := hide HVc.out.g2
     clear HR4
     go_wp2
     go_ret
     exact ⟨rfl, by decide, HD⟩
    ·rw [if_neg h65] at HR4
     have e65 : ¬ (64 < (bn : Int) + 1) := by omega
     have HM64 : Hid (M.length ≤ 64) := by show _ ≤ _; have := HML.out; omega
     have hr : r = handF p k i (i + 1) M := by rw [← HR4.out]
     subst hr
     clear HR4
     obtain ⟨y0, y1, y2, y3, y4, y5, y6, y7, y8, yl, x0, x1, xl⟩ := HVc.out.cells
     go_wp2_with fail
     refine (HHD.out _ _ (i + 1) _ _ HVc.out hkb HKc.out HM64.out (by omega)).mono ?_
     intro e w9 hh9
     have hi1 : ((i + 1 : Nat) : Int) = (i : Int) + 1 := by omega
     generalize handF p k i (i + 1) M = r9 at *
     cases r9 with
     | ok k9 =>
      obtain ⟨rfl, G9⟩ := hh9
      have HD : Hid (RW lim w9 q ba bs ca cc g p k9 ∧ G2w W w9 ba bs) := ⟨G9.out.1, HVc.out.g2.trans G9.out.2⟩
      go_wp2
      go_ret
      exact ⟨rfl, HD⟩
     | error y9 =>
      obtain ⟨rfl, hne9, G9⟩ := hh9
      have HD : Hid (G2w W w9 ba bs) := HVc.out.g2.trans G9.out
      go_wp2
      go_ret
      exact ⟨rfl, hne9, HD⟩
end Go.Proofs.YtggpaljilpbmhaaGreatDoor
