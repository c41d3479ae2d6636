import Derived.Test.YtggpaljilpbmhaaGreatDoorY74
import Derived.Test.YtggpaljilpbmhaaGreatDoorY56
import Derived.Deep.DeepCutAuto
namespace Go.Proofs.YtggpaljilpbmhaaGreatDoor
open Go.RowKit

set_option maxRecDepth 10000 in
set_option maxHeartbeats 12800000 in
theorem tidyR_walk {W : World} {g : Pg} {p : Pv} {ev : Int} {e : En} {fuel : Int} (h : g.Ok p W.heap.size W) (hT : Tab W) (hlv : ∀ w, Below W.heap.size W w → Calls Tryz.prog 6 #[.int .i64 ev, .int .u64 fuel] w fun e w' => e = .returned (.bool true) ∧ Hid (Below w.heap.size w w'))
  (h1 : ∀ pb eb w, Ta W g p e pb eb w → Calls Tryz.prog 8 #[.agg #[.slice g.ca p.nc g.cc, .slice g.sa p.ns g.sc, .int .i64 (p.en 0), .int .i64 (p.en 1), .int .i64 (p.en 2), .int .i64 (p.en 3), .int .i64 (p.en 4), .int .i64 (p.en 5), .slice g.ia p.n g.ic]] w fun x w1 => ∃ g1 : Pg, x = .returned (.agg (g1.cs p).toArray) ∧ Hid (Below w.heap.size w w1 ∧ ∀ w2, Below w1.heap.size w1 w2 → Calls Tryz.prog 7 #[.agg (g1.cs p).toArray] w2 fun x w3 => ∃ gf, x = .returned (.tuple #[.agg #[.slice none 0 0, .slice none 0 0, .int .i64 0, .int .i64 0, .int .i64 0, .int .i64 0, .int .i64 0, .int .i64 0, .slice none 0 0], .iface 74 (.pointer (some ⟨gf, 0, none⟩))]) ∧ Hid (Below w2.heap.size w2 w3)))
  (h2 : ∀ pb eb w, Ta W g p e pb eb w → Calls Tryz.prog 8 #[.agg #[.slice g.ca p.nc g.cc, .slice g.sa p.ns g.sc, .int .i64 (p.en 0), .int .i64 (p.en 1), .int .i64 (p.en 2), .int .i64 (p.en 3), .int .i64 (p.en 4), .int .i64 (p.en 5), .slice g.ia p.n g.ic]] w fun x w1 => ∃ g1 : Pg, x = .returned (.agg (g1.cs p).toArray) ∧ Hid (Below w.heap.size w w1 ∧ Calls Tryz.prog 9 #[.agg (g1.cs p).toArray] w1 fun x w2 => ∃ gf, x = .returned (.iface 74 (.pointer (some ⟨gf, 0, none⟩))) ∧ Hid (Below w1.heap.size w1 w2))) :
  Calls Tryz.prog 3 #[.agg (g.cs p).toArray, .int .i64 ev, .agg e.cs.toArray, .int .u64 fuel] W fun x w' => x = .returned (.bool true) ∧ Below W.heap.size W w' := by
 obtain ⟨W1, hW1⟩ : ∃ W1, (W.alloc (.cells (g.cs p).toArray 27)).alloc (.cells e.cs.toArray 30) = W1 := ⟨_, rfl⟩
 obtain ⟨A1, A2, B1⟩ := two_box2L W _ _ _ _ hW1
 have HLV := hide (hlv W1 B1)
 have HCS : Hid (∀ (g : Pg), (g.cs p).toArray = #[.slice g.ca p.nc g.cc, .slice g.sa p.ns g.sc, .int .i64 (p.en 0), .int .i64 (p.en 1), .int .i64 (p.en 2), .int .i64 (p.en 3), .int .i64 (p.en 4), .int .i64 (p.en 5), .slice g.ia p.n g.ic]) := fun _ => rfl
 have HEC : Hid (e.cs.toArray = #[.int .u64 e.x0, .int .u64 e.x1, .int .u64 e.x2, .int .u64 e.x3, .int .u64 e.x4, .int .u64 e.x5, .int .u64 e.x6, .bool e.x7]) := rfl
 obtain ⟨pb, hpb⟩ : ∃ pb, W.heap.size = pb := ⟨_, rfl⟩
 obtain ⟨eb, heb⟩ : ∃ eb, pb + 1 = eb := ⟨_, rfl⟩
 rw [hpb, heb] at A2
 rw [hpb] at A1
 have HT1 : Hid (Ta W g p e pb eb W1) := Ta.mk A1 A2 (h.kept B1 (Nat.le_refl _)) (hT.below B1 hT.z) hT.z B1
 have HW1 := hide hW1
 have HPB := hide hpb
 have HEB := hide heb
 have HCP := hide (h1 pb eb)
 have HC2 := hide (h2 pb eb)
 clear hlv h1 h2 A1 A2 B1 hW1 h hT
 rw [HCS.out g, HEC.out] at HW1 ⊢
 go_enter Tryz.func3, Tryz.ntmps3
 go_upto_region 1 with fail
 rw [HW1.out]
 clear hpb heb
 clear HW1
 go_wp2_with fail
 refine HLV.out.mono ?_
 rintro x w2 ⟨rfl, G2⟩
 have HTA := hide (HT1.out.next G2.out)
 clear HLV G2 HT1
 have HPE : Hid ((∀ o, w2.heap.size ≤ o → pb ≠ o) ∧ ∀ o, w2.heap.size ≤ o → eb ≠ o) := ⟨fun o h => by have := block_lt HTA.out.bp; omega, fun o h => by have := block_lt HTA.out.be; omega⟩
 have k0 := block_cell HTA.out.bp 0
 have k1 := block_cell HTA.out.bp 1
 have k2 := block_cell HTA.out.bp 2
 have k3 := block_cell HTA.out.bp 3
 have k4 := block_cell HTA.out.bp 4
 have k5 := block_cell HTA.out.bp 5
 have k6 := block_cell HTA.out.bp 6
 have k7 := block_cell HTA.out.bp 7
 have k8 := block_cell HTA.out.bp 8
 have kl := block_lt HTA.out.bp
 simp [Pg.cs] at k0 k1 k2 k3 k4 k5 k6 k7 k8
 go_wp2_with fail
 refine (HCP.out w2 HTA.out).mono ?_
 rintro x wa ⟨g1, rfl, G1⟩
 rw [HCS.out g1]
 have HRN := hide (G1.out.2 wa (Below.refl _ _))
 rw [HCS.out g1] at HRN
 have HTA1 := hide (HTA.out.next G1.out.1)
 clear G1 HCP HTA HPE k0 k1 k2 k3 k4 k5 k6 k7 k8 kl
 go_wp2_with fail
 refine HRN.out.mono ?_
 rintro x wb ⟨gf, rfl, G2⟩
 have HTA2 := hide (HTA1.out.next G2.out)
 clear G2 HTA1 HRN
 go_upto_region 4 with fail
 obtain ⟨wc, hw⟩ : ∃ w', wb.alloc (.cells #[.slice none 0 0, .slice none 0 0, .int .i64 0, .int .i64 0, .int .i64 0, .int .i64 0, .int .i64 0, .int .i64 0, .slice none 0 0] 27) = w' := ⟨_, rfl⟩
 have bA : Below wb.heap.size wb wc := by rw [← hw]; exact below_alloc1 _ _
 have hA : wc.heap[wb.heap.size]? = some (.cells #[.slice none 0 0, .slice none 0 0, .int .i64 0, .int .i64 0, .int .i64 0, .int .i64 0, .int .i64 0, .int .i64 0, .slice none 0 0] 27 (0, 0)) := by rw [← hw]; exact alloc_atK _ _
 rw [hw]
 clear hw
 obtain ⟨qb, hqb⟩ : ∃ b, wb.heap.size = b := ⟨_, rfl⟩
 rw [hqb] at hA ⊢
 have HTB := hide (HTA2.out.next bA)
 have HVC := HC2.out wc HTB.out
 clear bA hA hqb HTA2 HC2
 have k0 := block_cell HTB.out.bp 0
 have k1 := block_cell HTB.out.bp 1
 have k2 := block_cell HTB.out.bp 2
 have k3 := block_cell HTB.out.bp 3
 have k4 := block_cell HTB.out.bp 4
 have k5 := block_cell HTB.out.bp 5
 have k6 := block_cell HTB.out.bp 6
 have k7 := block_cell HTB.out.bp 7
 have k8 := block_cell HTB.out.bp 8
 have kl := block_lt HTB.out.bp
 simp [Pg.cs] at k0 k1 k2 k3 k4 k5 k6 k7 k8
 go_wp2_with fail
 refine HVC.mono ?_
 rintro x w8 ⟨g1, rfl, G8⟩
 rw [HCS.out g1] at G8 ⊢
 have HVF := hide G8.out.2
 have HT8 := hide (HTB.out.next G8.out.1)
 clear G8 HVC HTB k0 k1 k2 k3 k4 k5 k6 k7 k8 kl
 go_wp2_with fail
 refine HVF.out.mono ?_
 rintro x w9 ⟨gv, rfl, G9⟩
 have HD : Hid (Below W.heap.size W w9) := hide (HT8.out.next G9.out).bel
 clear G9 HVF HT8
 go_wp2
 go_ret
 exact ⟨rfl, HD.out⟩
end Go.Proofs.YtggpaljilpbmhaaGreatDoor
namespace Go.Proofs.YtggpaljilpbmhaaGreatDoor
open Go.RowKit

theorem Tb.off {W : World} {g : Pg} {p : Pv} {e : En} {q : Pv} {gq : Pg} {pb eb qb ob : Nat} {w w' : World} {cs : Array Value} (h : Tb W g p e q gq pb eb qb w) (hg : w.grownBy w' (some ob)) (ho : W.heap.size ≤ ob) (h1 : pb ≠ ob) (h2 : eb ≠ ob) (h3 : qb ≠ ob) (hx : w.heap[ob]? = some (.cells cs 47 (0, 0))) : Tb W g p e q gq pb eb qb w' :=
 ⟨h.a.off hg ho h1 h2, (hg.block _ (block_lt h.bq) (by simpa using h3)).trans h.bq, h.po.off hx (by decide) (by decide) (by decide) hg⟩
theorem eqItemsT (xs : Array Value) (w : World) : ∀ is : List Nat, (∀ i ∈ is, ∃ x, xs[i * 1]? = some (.int .u64 x)) → (Op.eqItems 9998 28 1 xs xs is).run Tryz.prog w = .ok true w
 | [], _ => rfl
 | i :: is, h => by
  obtain ⟨x, hx⟩ := h i (by simp)
  have ih := eqItemsT xs w is (fun j hj => h j (by simp [hj]))
  have hp := run_part_plain (P := Tryz.prog) w (e := 28) (by kernel_rfl) hx
  have he : (Op.equalIn 9998 28 (.int .u64 x) (.int .u64 x)).run Tryz.prog w = .ok true w := by
   rw [show 9998 = 9997 + 1 from rfl, run_equalIn_int w 9997 28 .u64 .u64 x x Tryz.underlying28]
   simp
  simp only [Op.eqItems, Sem.run_bind, hp, Result.andThen_ok, he, Bool.not_true, Bool.false_eq_true, if_false, ih]
theorem eqPaidT (a0 a1 a2 : Int) (w : World) : (Op.equalIn 9999 45 (.agg #[.int .u64 a0, .int .u64 a1, .int .u64 a2]) (.agg #[.int .u64 a0, .int .u64 a1, .int .u64 a2])).run Tryz.prog w = .ok true w := by
 obtain ⟨i0, hi, hz0, hz1, hz2⟩ := info_parts Tryz.infoU
 have hc : Tryz.prog.cellsOf 28 = 1 := by kernel_rfl
 rw [show 9999 = 9998 + 1 from rfl, run_equalIn_array w 9998 _ _ Tryz.underlying45 hi, hc]
 refine eqItemsT _ w _ (fun i hm => ?_)
 have : i < 3 := by simpa using hm
 match i, this with
 | 0, _ => exact ⟨_, rfl⟩
 | 1, _ => exact ⟨_, rfl⟩
 | 2, _ => exact ⟨_, rfl⟩
/-- No error, or a fault. -/
def ErrB (b : Bool) (V : Value) : Prop := (b = true ∧ V = .nilIface) ∨ (b = false ∧ ∃ gf, V = .iface 74 (.pointer (some ⟨gf, 0, none⟩)))
set_option maxRecDepth 10000 in
set_option maxHeartbeats 12800000 in
theorem tidyK_walk {W : World} {g : Pg} {p : Pv} {ev : Int} {e : En} {fuel : Int} {q : Pv} {b : Bool} {E0 E1 E2 E3 E4 E5 : Int} (h : g.Ok p W.heap.size W) (hT : Tab W) (hlv : ∀ w, Below W.heap.size W w → Calls Tryz.prog 6 #[.int .i64 ev, .int .u64 fuel] w fun e w' => e = .returned (.bool true) ∧ Hid (Below w.heap.size w w'))
  (h1 : ∀ pb eb w, Ta W g p e pb eb w → Calls Tryz.prog 8 #[.agg #[.slice g.ca p.nc g.cc, .slice g.sa p.ns g.sc, .int .i64 (p.en 0), .int .i64 (p.en 1), .int .i64 (p.en 2), .int .i64 (p.en 3), .int .i64 (p.en 4), .int .i64 (p.en 5), .slice g.ia p.n g.ic]] w fun x w1 => ∃ g1 : Pg, x = .returned (.agg (g1.cs p).toArray) ∧ Hid (Below w.heap.size w w1 ∧ ∀ w2, Below w1.heap.size w1 w2 → Calls Tryz.prog 7 #[.agg (g1.cs p).toArray] w2 fun x w3 => ∃ gq : Pg, x = .returned (.tuple #[.agg #[.slice gq.ca q.nc gq.cc, .slice gq.sa q.ns gq.sc, .int .i64 (q.en 0), .int .i64 (q.en 1), .int .i64 (q.en 2), .int .i64 (q.en 3), .int .i64 (q.en 4), .int .i64 (q.en 5), .slice gq.ia q.n gq.ic], .nilIface]) ∧ Hid (Po w2.heap.size gq q w3 ∧ Below w2.heap.size w2 w3)))
  (h2 : ∀ pb eb w, Ta W g p e pb eb w → Calls Tryz.prog 8 #[.agg #[.slice g.ca p.nc g.cc, .slice g.sa p.ns g.sc, .int .i64 (p.en 0), .int .i64 (p.en 1), .int .i64 (p.en 2), .int .i64 (p.en 3), .int .i64 (p.en 4), .int .i64 (p.en 5), .slice g.ia p.n g.ic]] w fun x w1 => ∃ g1 : Pg, x = .returned (.agg (g1.cs p).toArray) ∧ Hid (Below w.heap.size w w1 ∧ Calls Tryz.prog 9 #[.agg (g1.cs p).toArray] w1 fun x w2 => x = .returned .nilIface ∧ Hid (Below w1.heap.size w1 w2)))
  (hqn : q.n ≤ p.n) (hqc : q.nc ≤ p.nc) (hwf : Wf q) (hnj : NJ q) (hni : NI q)
  (hvq : ∀ pb eb qb gq w, Tb W g p e q gq pb eb qb w → Calls Tryz.prog 9 #[.agg #[.slice gq.ca q.nc gq.cc, .slice gq.sa q.ns gq.sc, .int .i64 (q.en 0), .int .i64 (q.en 1), .int .i64 (q.en 2), .int .i64 (q.en 3), .int .i64 (q.en 4), .int .i64 (q.en 5), .slice gq.ia q.n gq.ic]] w fun x w1 => x = .returned .nilIface ∧ Hid (Below w.heap.size w w1))
  (hsh : ∀ pb eb qb gq w, Tb W g p e q gq pb eb qb w → ∀ i : Nat, i < q.n → Calls Tryz.prog 10 #[.agg #[.slice gq.ca q.nc gq.cc, .slice gq.sa q.ns gq.sc, .int .i64 (q.en 0), .int .i64 (q.en 1), .int .i64 (q.en 2), .int .i64 (q.en 3), .int .i64 (q.en 4), .int .i64 (q.en 5), .slice gq.ia q.n gq.ic], .int .i64 (i : Nat)] w fun x w1 => ∃ v, x = .returned (.tuple #[v, .bool true, .nilIface]) ∧ Hid (Below w.heap.size w w1))
  (htd : ∀ pb eb qb gq w, Tb W g p e q gq pb eb qb w → Calls Tryz.prog 7 #[.agg #[.slice gq.ca q.nc gq.cc, .slice gq.sa q.ns gq.sc, .int .i64 (q.en 0), .int .i64 (q.en 1), .int .i64 (q.en 2), .int .i64 (q.en 3), .int .i64 (q.en 4), .int .i64 (q.en 5), .slice gq.ia q.n gq.ic]] w fun x w1 => ∃ ga : Pg, x = .returned (.tuple #[.agg #[.slice ga.ca q.nc ga.cc, .slice ga.sa q.ns ga.sc, .int .i64 (q.en 0), .int .i64 (q.en 1), .int .i64 (q.en 2), .int .i64 (q.en 3), .int .i64 (q.en 4), .int .i64 (q.en 5), .slice ga.ia q.n ga.ic], .nilIface]) ∧ Hid (ga.Ok q w1.heap.size w1 ∧ Below w.heap.size w w1))
  (hsm : ∀ pb eb qb gq w, Tb W g p e q gq pb eb qb w → ∀ ga : Pg, ga.Ok q w.heap.size w → Calls Tryz.prog 11 #[.agg #[.slice ga.ca q.nc ga.cc, .slice ga.sa q.ns ga.sc, .int .i64 (q.en 0), .int .i64 (q.en 1), .int .i64 (q.en 2), .int .i64 (q.en 3), .int .i64 (q.en 4), .int .i64 (q.en 5), .slice ga.ia q.n ga.ic], .agg #[.slice gq.ca q.nc gq.cc, .slice gq.sa q.ns gq.sc, .int .i64 (q.en 0), .int .i64 (q.en 1), .int .i64 (q.en 2), .int .i64 (q.en 3), .int .i64 (q.en 4), .int .i64 (q.en 5), .slice gq.ia q.n gq.ic]] w fun x w1 => x = .returned (.bool true) ∧ Hid (Below w.heap.size w w1))
  (hrp : ∀ pb eb w, Ta W g p e pb eb w → Calls Tryz.prog 8 #[.agg #[.slice g.ca p.nc g.cc, .slice g.sa p.ns g.sc, .int .i64 (p.en 0), .int .i64 (p.en 1), .int .i64 (p.en 2), .int .i64 (p.en 3), .int .i64 (p.en 4), .int .i64 (p.en 5), .slice g.ia p.n g.ic]] w fun x w1 => ∃ g1 : Pg, x = .returned (.agg (g1.cs p).toArray) ∧ Hid (Below w.heap.size w w1 ∧ ∀ w2, Below w1.heap.size w1 w2 → Calls Tryz.prog 12 #[.agg (g1.cs p).toArray, .int .i64 ev, .agg #[.int .u64 e.x0, .int .u64 e.x1, .int .u64 e.x2, .int .u64 e.x3, .int .u64 e.x4, .int .u64 e.x5, .int .u64 e.x6, .bool e.x7], .int .u64 fuel] w2 fun x w3 => ∃ V, x = .returned (.tuple #[.agg #[.int .i64 E0, .int .u64 E1, .int .u64 E2, .int .u64 E3, .int .u64 E4, .int .u64 E5], V]) ∧ Hid (Below w2.heap.size w2 w3 ∧ ErrB b V)))
  (hrq : ∀ pb eb qb gq w, Tb W g p e q gq pb eb qb w → Calls Tryz.prog 12 #[.agg #[.slice gq.ca q.nc gq.cc, .slice gq.sa q.ns gq.sc, .int .i64 (q.en 0), .int .i64 (q.en 1), .int .i64 (q.en 2), .int .i64 (q.en 3), .int .i64 (q.en 4), .int .i64 (q.en 5), .slice gq.ia q.n gq.ic], .int .i64 ev, .agg #[.int .u64 e.x0, .int .u64 e.x1, .int .u64 e.x2, .int .u64 e.x3, .int .u64 e.x4, .int .u64 e.x5, .int .u64 e.x6, .bool e.x7], .int .u64 fuel] w fun x w3 => ∃ V, x = .returned (.tuple #[.agg #[.int .i64 E0, .int .u64 E1, .int .u64 E2, .int .u64 E3, .int .u64 E4, .int .u64 E5], V]) ∧ Hid (Below w.heap.size w w3 ∧ ErrB b V)) :
  Calls Tryz.prog 3 #[.agg (g.cs p).toArray, .int .i64 ev, .agg e.cs.toArray, .int .u64 fuel] W fun x w' => x = .returned (.bool true) ∧ Below W.heap.size W w' := by
 obtain ⟨W1, hW1⟩ : ∃ W1, (W.alloc (.cells (g.cs p).toArray 27)).alloc (.cells e.cs.toArray 30) = W1 := ⟨_, rfl⟩
 obtain ⟨A1, A2, B1⟩ := two_box2L W _ _ _ _ hW1
 have HLV := hide (hlv W1 B1)
 have HCS : Hid (∀ (g : Pg), (g.cs p).toArray = #[.slice g.ca p.nc g.cc, .slice g.sa p.ns g.sc, .int .i64 (p.en 0), .int .i64 (p.en 1), .int .i64 (p.en 2), .int .i64 (p.en 3), .int .i64 (p.en 4), .int .i64 (p.en 5), .slice g.ia p.n g.ic]) := fun _ => rfl
 have HQS : Hid (∀ (g : Pg), (g.cs q).toArray = #[.slice g.ca q.nc g.cc, .slice g.sa q.ns g.sc, .int .i64 (q.en 0), .int .i64 (q.en 1), .int .i64 (q.en 2), .int .i64 (q.en 3), .int .i64 (q.en 4), .int .i64 (q.en 5), .slice g.ia q.n g.ic]) := fun _ => rfl
 have HEC : Hid (e.cs.toArray = #[.int .u64 e.x0, .int .u64 e.x1, .int .u64 e.x2, .int .u64 e.x3, .int .u64 e.x4, .int .u64 e.x5, .int .u64 e.x6, .bool e.x7]) := rfl
 obtain ⟨pb, hpb⟩ : ∃ pb, W.heap.size = pb := ⟨_, rfl⟩
 obtain ⟨eb, heb⟩ : ∃ eb, pb + 1 = eb := ⟨_, rfl⟩
 rw [hpb, heb] at A2
 rw [hpb] at A1
 have HT1 : Hid (Ta W g p e pb eb W1) := Ta.mk A1 A2 (h.kept B1 (Nat.le_refl _)) (hT.below B1 hT.z) hT.z B1
 have HW1 := hide hW1
 have HPB := hide hpb
 have HEB := hide heb
 have HCP := hide (h1 pb eb)
 have HC2 := hide (h2 pb eb)
 clear hlv h1 h2 A1 A2 B1 hW1 h hT
 rw [HCS.out g, HEC.out] at HW1 ⊢
 go_enter Tryz.func3, Tryz.ntmps3
 go_upto_region 1 with fail
 rw [HW1.out]
 clear hpb heb
 clear HW1
 go_wp2_with fail
 refine HLV.out.mono ?_
 rintro x w2 ⟨rfl, G2⟩
 have HTA := hide (HT1.out.next G2.out)
 clear HLV G2 HT1
 have HPE : Hid ((∀ o, w2.heap.size ≤ o → pb ≠ o) ∧ ∀ o, w2.heap.size ≤ o → eb ≠ o) := ⟨fun o h => by have := block_lt HTA.out.bp; omega, fun o h => by have := block_lt HTA.out.be; omega⟩
 have k0 := block_cell HTA.out.bp 0
 have k1 := block_cell HTA.out.bp 1
 have k2 := block_cell HTA.out.bp 2
 have k3 := block_cell HTA.out.bp 3
 have k4 := block_cell HTA.out.bp 4
 have k5 := block_cell HTA.out.bp 5
 have k6 := block_cell HTA.out.bp 6
 have k7 := block_cell HTA.out.bp 7
 have k8 := block_cell HTA.out.bp 8
 have kl := block_lt HTA.out.bp
 simp [Pg.cs] at k0 k1 k2 k3 k4 k5 k6 k7 k8
 go_wp2_with fail
 refine (HCP.out w2 HTA.out).mono ?_
 rintro x wa ⟨g1, rfl, G1⟩
 rw [HCS.out g1]
 have HRN := hide (G1.out.2 wa (Below.refl _ _))
 rw [HCS.out g1] at HRN
 have HTA1 := hide (HTA.out.next G1.out.1)
 clear G1 HCP HTA HPE k0 k1 k2 k3 k4 k5 k6 k7 k8 kl
 go_wp2_with fail
 refine HRN.out.mono ?_
 rintro x wb ⟨gq, rfl, G2⟩
 have HTA2 := hide (HTA1.out.next G2.out.2)
 have HPO : Hid (Po W.heap.size gq q wb) := hide (G2.out.1.low HTA1.out.bel.size)
 clear G2 HTA1 HRN
 go_upto_region 4 with fail
 obtain ⟨wc, hw⟩ : ∃ w', wb.alloc (.cells #[.slice gq.ca q.nc gq.cc, .slice gq.sa q.ns gq.sc, .int .i64 (q.en 0), .int .i64 (q.en 1), .int .i64 (q.en 2), .int .i64 (q.en 3), .int .i64 (q.en 4), .int .i64 (q.en 5), .slice gq.ia q.n gq.ic] 27) = w' := ⟨_, rfl⟩
 have bA : Below wb.heap.size wb wc := by rw [← hw]; exact below_alloc1 _ _
 have hA : wc.heap[wb.heap.size]? = some (.cells #[.slice gq.ca q.nc gq.cc, .slice gq.sa q.ns gq.sc, .int .i64 (q.en 0), .int .i64 (q.en 1), .int .i64 (q.en 2), .int .i64 (q.en 3), .int .i64 (q.en 4), .int .i64 (q.en 5), .slice gq.ia q.n gq.ic] 27 (0, 0)) := by rw [← hw]; exact alloc_atK _ _
 rw [hw]
 clear hw
 obtain ⟨qb, hqb⟩ : ∃ b, wb.heap.size = b := ⟨_, rfl⟩
 rw [hqb] at hA ⊢
 have HTB : Hid (Tb W g p e q gq pb eb qb wc) := Tb.mk (HTA2.out.next bA) hA (HPO.out.next bA)
 have HVC := HC2.out wc HTB.out.a
 clear bA hA hqb HTA2 HPO HC2
 have HVQ := hide (hvq pb eb qb gq)
 have HSH := hide (hsh pb eb qb gq)
 have HTD := hide (htd pb eb qb gq)
 have HSM := hide (hsm pb eb qb gq)
 have HRQ := hide (hrq pb eb qb gq)
 have HRP := hide (hrp pb eb)
 clear hvq hsh htd hsm hrq hrp
 have k0 := block_cell HTB.out.a.bp 0
 have k1 := block_cell HTB.out.a.bp 1
 have k2 := block_cell HTB.out.a.bp 2
 have k3 := block_cell HTB.out.a.bp 3
 have k4 := block_cell HTB.out.a.bp 4
 have k5 := block_cell HTB.out.a.bp 5
 have k6 := block_cell HTB.out.a.bp 6
 have k7 := block_cell HTB.out.a.bp 7
 have k8 := block_cell HTB.out.a.bp 8
 have kl := block_lt HTB.out.a.bp
 simp [Pg.cs] at k0 k1 k2 k3 k4 k5 k6 k7 k8
 go_wp2_with fail
 refine HVC.mono ?_
 rintro x w8 ⟨g1, rfl, G8⟩
 rw [HCS.out g1] at G8 ⊢
 have HVF := hide G8.out.2
 have HT8 := hide (HTB.out.next G8.out.1)
 clear G8 HVC HTB k0 k1 k2 k3 k4 k5 k6 k7 k8 kl
 go_wp2_with fail
 refine HVF.out.mono ?_
 rintro x w9 ⟨rfl, G9⟩
 have HT9 := hide (HT8.out.next G9.out)
 clear G9 HVF HT8
 have k0 := block_cell HT9.out.a.bp 0
 have k1 := block_cell HT9.out.a.bp 1
 have k2 := block_cell HT9.out.a.bp 2
 have k3 := block_cell HT9.out.a.bp 3
 have k4 := block_cell HT9.out.a.bp 4
 have k5 := block_cell HT9.out.a.bp 5
 have k6 := block_cell HT9.out.a.bp 6
 have k7 := block_cell HT9.out.a.bp 7
 have k8 := block_cell HT9.out.a.bp 8
 have kl := block_lt HT9.out.a.bp
 simp [Pg.cs] at k0 k1 k2 k3 k4 k5 k6 k7 k8
 have y0 := block_cell HT9.out.bq 0
 have y1 := block_cell HT9.out.bq 1
 have y2 := block_cell HT9.out.bq 2
 have y3 := block_cell HT9.out.bq 3
 have y4 := block_cell HT9.out.bq 4
 have y5 := block_cell HT9.out.bq 5
 have y6 := block_cell HT9.out.bq 6
 have y7 := block_cell HT9.out.bq 7
 have y8 := block_cell HT9.out.bq 8
 have yl := block_lt HT9.out.bq
 simp [Pg.cs] at y0 y1 y2 y3 y4 y5 y6 y7 y8
 have hl1 : decide (p.n < q.n) = false := by simp; omega
 have hl2 : decide (p.nc < q.nc) = false := by simp; omega
 go_wp2_with fail
 refine (HVQ.out w9 HT9.out).mono ?_
 rintro x w10 ⟨rfl, G10⟩
 have HTC := hide (HT9.out.next G10.out)
 clear G10 HT9 k0 k1 k2 k3 k4 k5 k6 k7 k8 kl y0 y1 y2 y3 y4 y5 y6 y7 y8 yl HVQ hl1 hl2
 have y8 := block_cell HTC.out.bq 8
 have yl := block_lt HTC.out.bq
 simp [Pg.cs] at y8
 go_upto_region 9 with fail
 clear y8 yl
 go_loopw [11] (fun i wr => ∃ j : Nat, j ≤ q.n ∧ i = .int .i64 (j : Nat) ∧ Hid (Tb W g p e q gq pb eb qb wr)) (fun i _ => q.n - (intOf i).toNat)
 case atStart => exact ⟨0, by omega, rfl, HTC.out⟩
 case round =>
  obtain ⟨j, hj, rfl, HTJ⟩ := hrel
  have h24 := hwf.sz.2.2
  clear HTC
  have y0 := block_cell HTJ.out.bq 0
  have y1 := block_cell HTJ.out.bq 1
  have y2 := block_cell HTJ.out.bq 2
  have y3 := block_cell HTJ.out.bq 3
  have y4 := block_cell HTJ.out.bq 4
  have y5 := block_cell HTJ.out.bq 5
  have y6 := block_cell HTJ.out.bq 6
  have y7 := block_cell HTJ.out.bq 7
  have y8 := block_cell HTJ.out.bq 8
  have yl := block_lt HTJ.out.bq
  simp [Pg.cs] at y0 y1 y2 y3 y4 y5 y6 y7 y8
  by_cases hlt : j < q.n
  ·go_upto_region 11 with fail
   go_wp2_with fail
   refine (HSH.out wr HTJ.out j hlt).mono ?_
   rintro x w3 ⟨vk, rfl, G3⟩
   have HT3 := hide (HTJ.out.next G3.out)
   clear G3 y0 y1 y2 y3 y4 y5 y6 y7 y8 yl HTJ
   obtain ⟨e2, l2⟩ := HT3.out.po.ok.hi (by omega)
   have v3 := HT3.out.po.ok.vo j hlt
   have v4 := HT3.out.po.ok.va j hlt
   have y8 := block_cell HT3.out.bq 8
   have yl := block_lt HT3.out.bq
   simp [Pg.cs] at y8
   rw [e2] at y8
   clear e2
   go_upto_region 13 with fail
   obtain ⟨w4, hw⟩ : ∃ w', w3.alloc (.cells #[.int .i64 (q.op j), .int .i64 (q.arg j)] 42) = w' := ⟨_, rfl⟩
   have bA : Below w3.heap.size w3 w4 := by rw [← hw]; exact below_alloc1 _ _
   have hA : w4.heap[w3.heap.size]? = some (.cells #[.int .i64 (q.op j), .int .i64 (q.arg j)] 42 (0, 0)) := by rw [← hw]; exact alloc_atK _ _
   rw [hw]
   clear hw v3 v4 y8 yl l2
   obtain ⟨nb, hnb⟩ : ∃ b, w3.heap.size = b := ⟨_, rfl⟩
   rw [hnb] at hA ⊢
   have HT4 := hide (HT3.out.next bA)
   clear bA hnb HT3
   have z0 := block_cell hA 0
   have z1 := block_cell hA 1
   have zl := block_lt hA
   simp at z0 z1
   clear hA
   have hins := hwf.ins j hlt
   have hopn := op_nat hins
   by_cases c1 : q.op j < 25
   ·have t1 : decide (q.op j ≥ 25) = false := by simp; omega
    have t2 : (q.op j == 25) = false := by simp; omega
    clear hopn
    go_wp2
    go_roundw
    case rel => exact ⟨j + 1, by omega, by go_num, HT4.out⟩
    case measure => simp [intOf]; omega
   ·have t1 : decide (q.op j ≥ 25) = true := by simp; omega
    by_cases c2 : 28 < q.op j
    ·have t2 : (q.op j == 25) = false := by simp; omega
     have t3 : decide (q.op j ≤ 28) = false := by simp; omega
     clear hopn c1
     go_wp2
     go_roundw
     case rel => exact ⟨j + 1, by omega, by go_num, HT4.out⟩
     case measure => simp [intOf]; omega
    ·have hw : wayP (q.op j) = true := by simp [wayP]; omega
     have hat := isPl_nat (hins.way hw)
     have hnt := hnj j hlt hw
     have hid := hni j hlt
     have t3 : decide (q.op j ≤ 28) = true := by simp; omega
     obtain ⟨t, ht⟩ : ∃ t : Nat, q.arg j = (t : Int) := ⟨_, hat.1⟩
     rw [ht] at z1 hnt hat
     have htl : t < q.n := by have := hat.2; omega
     have hnt : q.op t ≠ 25 := hnt
     have t4 : (q.op t == 25) = false := by simpa using hnt
     obtain ⟨e2, l2⟩ := HT4.out.po.ok.hi (by omega)
     have v3 := HT4.out.po.ok.vo t htl
     have y8 := block_cell HT4.out.bq 8
     have yl := block_lt HT4.out.bq
     simp [Pg.cs] at y8
     rw [e2] at y8
     unfold idleB at hid
     rw [ht] at hid
     clear hnt hat hw hins hopn c1 c2 e2
     by_cases c3 : q.op j = 25
     ·have t5 : (q.op j == 25) = true := by simpa using c3
      have t6 : ((t : Int) == (j : Int) + 1) = false := by
       rw [c3] at hid
       simpa using hid
      clear hid c3
      go_wp2
      go_roundw
      case rel => exact ⟨j + 1, by omega, by go_num, HT4.out⟩
      case measure => simp [intOf]; omega
     ·have t5 : (q.op j == 25) = false := by simpa using c3
      clear hid c3
      go_wp2
      go_roundw
      case rel => exact ⟨j + 1, by omega, by go_num, HT4.out⟩
      case measure => simp [intOf]; omega
  ·obtain rfl : j = q.n := by omega
   go_upto_region 15 with fail
   go_wp2_with fail
   refine (HTD.out wr HTJ.out).mono ?_
   rintro x w5 ⟨ga, rfl, G5⟩
   have HT5 := hide (HTJ.out.next G5.out.2)
   have HGA : Hid (ga.Ok q w5.heap.size w5) := hide G5.out.1
   clear G5 y0 y1 y2 y3 y4 y5 y6 y7 y8 yl HTD HTJ HSH
   go_upto_region 16 with fail
   obtain ⟨w6, hw⟩ : ∃ w', w5.alloc (.cells #[.slice ga.ca q.nc ga.cc, .slice ga.sa q.ns ga.sc, .int .i64 (q.en 0), .int .i64 (q.en 1), .int .i64 (q.en 2), .int .i64 (q.en 3), .int .i64 (q.en 4), .int .i64 (q.en 5), .slice ga.ia q.n ga.ic] 27) = w' := ⟨_, rfl⟩
   have bA : Below w5.heap.size w5 w6 := by rw [← hw]; exact below_alloc1 _ _
   have hA : w6.heap[w5.heap.size]? = some (.cells #[.slice ga.ca q.nc ga.cc, .slice ga.sa q.ns ga.sc, .int .i64 (q.en 0), .int .i64 (q.en 1), .int .i64 (q.en 2), .int .i64 (q.en 3), .int .i64 (q.en 4), .int .i64 (q.en 5), .slice ga.ia q.n ga.ic] 27 (0, 0)) := by rw [← hw]; exact alloc_atK _ _
   rw [hw]
   clear hw
   obtain ⟨ab, hab⟩ : ∃ b, w5.heap.size = b := ⟨_, rfl⟩
   rw [hab] at hA ⊢
   have HT6 := hide (HT5.out.next bA)
   have HSMc := hide (HSM.out w6 HT6.out ga ((HGA.out.kept bA (Nat.le_refl _)).wide bA.size))
   have HA6 := hide hA
   clear bA hA HGA HT5 HSM hab
   have a0 := block_cell HA6.out 0
   have a1 := block_cell HA6.out 1
   have a2 := block_cell HA6.out 2
   have a3 := block_cell HA6.out 3
   have a4 := block_cell HA6.out 4
   have a5 := block_cell HA6.out 5
   have a6 := block_cell HA6.out 6
   have a7 := block_cell HA6.out 7
   have a8 := block_cell HA6.out 8
   have al := block_lt HA6.out
   simp at a0 a1 a2 a3 a4 a5 a6 a7 a8
   have y0 := block_cell HT6.out.bq 0
   have y1 := block_cell HT6.out.bq 1
   have y2 := block_cell HT6.out.bq 2
   have y3 := block_cell HT6.out.bq 3
   have y4 := block_cell HT6.out.bq 4
   have y5 := block_cell HT6.out.bq 5
   have y6 := block_cell HT6.out.bq 6
   have y7 := block_cell HT6.out.bq 7
   have y8 := block_cell HT6.out.bq 8
   have yl := block_lt HT6.out.bq
   simp [Pg.cs] at y0 y1 y2 y3 y4 y5 y6 y7 y8
   go_wp2_with fail
   refine HSMc.out.mono ?_
   rintro x w7 ⟨rfl, G7⟩
   have HT7 := hide (HT6.out.next G7.out)
   clear G7 HSMc HT6 HA6 a0 a1 a2 a3 a4 a5 a6 a7 a8 al y0 y1 y2 y3 y4 y5 y6 y7 y8 yl
   have HPE : Hid ((∀ o, w7.heap.size ≤ o → pb ≠ o) ∧ (∀ o, w7.heap.size ≤ o → eb ≠ o) ∧ ∀ o, w7.heap.size ≤ o → qb ≠ o) := ⟨fun o h => by have := block_lt HT7.out.a.bp; omega, fun o h => by have := block_lt HT7.out.a.be; omega, fun o h => by have := block_lt HT7.out.bq; omega⟩
   go_upto_region 18 with fail
   go_cut [17, 18] from 132 (fun a b0 Vw => ∃ ob V, a = .pointer (some ⟨ob, 0, none⟩) ∧ b0 = V ∧ Hid (Vw.heap[ob]? = some (.cells #[.int .i64 E0, .int .u64 E1, .int .u64 E2, .int .u64 E3, .int .u64 E4, .int .u64 E5] 47 (0, 0)) ∧ Below w7.heap.size w7 Vw ∧ ErrB b V))
   case first =>
    have HL0 := hide (HT7.out.next (Below.refl _ w7).drew)
    have HB0 : Hid (Below w7.heap.size w7 w7.drew) := (Below.refl _ _).drew
    refine wp_region_held_drew (S := Tb W g p e q gq pb eb qb) (by kernel_rfl) HL0.out (fun hH => ?_)
    refine wpAnyH_take (i := 0) (oi := ⟨some 133, .load 27 (.tmp 4), 27, "outright.go:145", #[], none⟩) (v := .agg #[.slice g.ca p.nc g.cc, .slice g.sa p.ns g.sc, .int .i64 (p.en 0), .int .i64 (p.en 1), .int .i64 (p.en 2), .int .i64 (p.en 3), .int .i64 (p.en 4), .int .i64 (p.en 5), .slice g.ia p.n g.ic]) rfl (by kernel_rfl) (by kernel_rfl) (by kernel_rfl) (fun _ _ _ h => h) (Or.inl ⟨by rfl, fun w' hSw => ?_⟩) hH ?_
    ·have k0 := block_cell hSw.a.bp 0
     have k1 := block_cell hSw.a.bp 1
     have k2 := block_cell hSw.a.bp 2
     have k3 := block_cell hSw.a.bp 3
     have k4 := block_cell hSw.a.bp 4
     have k5 := block_cell hSw.a.bp 5
     have k6 := block_cell hSw.a.bp 6
     have k7 := block_cell hSw.a.bp 7
     have k8 := block_cell hSw.a.bp 8
     have kl := block_lt hSw.a.bp
     simp [Pg.cs] at k0 k1 k2 k3 k4 k5 k6 k7 k8
     go_simp
    simp only [Act.put, lsA, lsB, lsC]
    refine wpAnyH_take (i := 2) (oi := ⟨some 135, .move (.tmp 1), 3, "outright.go:145", #[], none⟩) (v := .int .i64 ev) rfl (by kernel_rfl) (by kernel_rfl) (by kernel_rfl) (fun _ _ _ h => h) (Or.inl ⟨by rfl, fun w' hSw => ?_⟩) hH ?_
    ·go_simp
    simp only [Act.put, lsA, lsB, lsC]
    refine wpAnyH_take (i := 3) (oi := ⟨some 136, .load 30 (.tmp 6), 30, "outright.go:145", #[], none⟩) (v := .agg #[.int .u64 e.x0, .int .u64 e.x1, .int .u64 e.x2, .int .u64 e.x3, .int .u64 e.x4, .int .u64 e.x5, .int .u64 e.x6, .bool e.x7]) rfl (by kernel_rfl) (by kernel_rfl) (by kernel_rfl) (fun _ _ _ h => h) (Or.inl ⟨by rfl, fun w' hSw => ?_⟩) hH ?_
    ·have k0 := block_cell hSw.a.be 0
     have k1 := block_cell hSw.a.be 1
     have k2 := block_cell hSw.a.be 2
     have k3 := block_cell hSw.a.be 3
     have k4 := block_cell hSw.a.be 4
     have k5 := block_cell hSw.a.be 5
     have k6 := block_cell hSw.a.be 6
     have k7 := block_cell hSw.a.be 7
     have kl := block_lt hSw.a.be
     simp [En.cs] at k0 k1 k2 k3 k4 k5 k6 k7
     go_simp
    simp only [Act.put, lsA, lsB, lsC]
    refine wpAnyH_take (i := 4) (oi := ⟨some 137, .move (.tmp 3), 28, "outright.go:145", #[], none⟩) (v := .int .u64 fuel) rfl (by kernel_rfl) (by kernel_rfl) (by kernel_rfl) (fun _ _ _ h => h) (Or.inl ⟨by rfl, fun w' hSw => ?_⟩) hH ?_
    ·go_simp
    simp only [Act.put, lsA, lsB, lsC]
    refine wpAnyH_ready (rs := [1, 9]) (by kernel_rfl) (by simp) ?_
    refine AllReadyH.cons rfl (fun K hK => ?_) (AllReadyH.cons rfl (fun K hK => ?_) AllReadyH.nil)
    ·go_simp
     go_wp2_with fail
     refine (HRP.out w7.drew HL0.out.a).mono ?_
     rintro x wa ⟨g1, rfl, G1⟩
     rw [HCS.out g1]
     have HLwa := hide (HL0.out.next G1.out.1)
     have HBwa : Hid (Below w7.heap.size w7 wa) := HB0.out.trans (G1.out.1.mono HB0.out.size)
     have HRN := hide G1.out.2
     rw [HCS.out g1] at HRN
     clear G1
     refine hK.out _ _ HLwa.out (fun _ => ?_)
     clear hK K
     refine wpAnyH_ready (rs := [5, 9]) (by kernel_rfl) (by simp) ?_
     refine AllReadyH.cons rfl (fun K hK => ?_) (AllReadyH.cons rfl (fun K hK => ?_) AllReadyH.nil)
     ·go_simp
      go_wp2_with fail
      refine (HRN.out wa (Below.refl _ _)).mono ?_
      rintro x wb ⟨V, rfl, G2⟩
      have HLwb := hide (HLwa.out.next G2.out.1)
      have HBwb : Hid (Below w7.heap.size w7 wb) := HBwa.out.trans (G2.out.1.mono HBwa.out.size)
      have HPwb : Hid (ErrB b V) := hide G2.out.2
      clear HRN
      refine hK.out _ _ HLwb.out (fun _ => ?_)
      clear hK K
      refine wpAnyH_take (i := 6) (oi := ⟨some 132, .move (.tmp 138), 48, "outright.go:145", #[⟨5, .data⟩], none⟩) (v := .tuple #[.agg #[.int .i64 E0, .int .u64 E1, .int .u64 E2, .int .u64 E3, .int .u64 E4, .int .u64 E5], V]) rfl (by kernel_rfl) (by kernel_rfl) (by kernel_rfl) (fun _ _ _ h => h) (Or.inl ⟨by rfl, fun w' hSw => ?_⟩) HLwb.out ?_
      ·go_simp
      simp only [Act.put, lsA, lsB, lsC]
      refine wpAnyH_take (i := 7) (oi := ⟨some 139, .extract (.tmp 132) 0, 47, "outright.go:145", #[⟨6, .data⟩], none⟩) (v := .agg #[.int .i64 E0, .int .u64 E1, .int .u64 E2, .int .u64 E3, .int .u64 E4, .int .u64 E5]) rfl (by kernel_rfl) (by kernel_rfl) (by kernel_rfl) (fun _ _ _ h => h) (Or.inl ⟨by rfl, fun w' hSw => ?_⟩) HLwb.out ?_
      ·go_simp
      simp only [Act.put, lsA, lsB, lsC]
      refine wpAnyH_take (i := 8) (oi := ⟨some 140, .extract (.tmp 132) 1, 33, "outright.go:145", #[⟨6, .data⟩, ⟨10, .gcOnly .lateStores⟩], none⟩) (v := V) rfl (by kernel_rfl) (by kernel_rfl) (by kernel_rfl) (fun _ _ _ h => h) (Or.inl ⟨by rfl, fun w' hSw => ?_⟩) HLwb.out ?_
      ·go_simp
      simp only [Act.put, lsA, lsB, lsC]
      refine wpAnyH_ready (rs := [9]) (by kernel_rfl) (by simp) ?_
      refine AllReadyH.cons rfl (fun K hK => ?_) AllReadyH.nil
      go_simp
      go_wp2_with fail
      obtain ⟨wd, hw⟩ : ∃ w', wb.alloc (.cells #[.int .i64 0, .int .u64 0, .int .u64 0, .int .u64 0, .int .u64 0, .int .u64 0] 47) = w' := ⟨_, rfl⟩
      have bA : Below wb.heap.size wb wd := by rw [← hw]; exact below_alloc1 _ _
      have HXwd : Hid (wd.heap[wb.heap.size]? = some (.cells #[.int .i64 0, .int .u64 0, .int .u64 0, .int .u64 0, .int .u64 0, .int .u64 0] 47 (0, 0))) := by rw [← hw]; exact alloc_atK _ _
      rw [hw]
      clear hw
      have HLwd := hide (HLwb.out.next bA)
      have HBwd : Hid (Below w7.heap.size w7 wd) := HBwb.out.trans (bA.mono HBwb.out.size)
      have HPwd := HPwb
      clear bA
      have HBO : Hid (w7.heap.size ≤ wb.heap.size) := HBwb.out.size
      refine hK.out _ _ HLwd.out (fun _ => ?_)
      clear hK K
      have o0 := block_cell HXwd.out 0
      have o1 := block_cell HXwd.out 1
      have o2 := block_cell HXwd.out 2
      have o3 := block_cell HXwd.out 3
      have o4 := block_cell HXwd.out 4
      have o5 := block_cell HXwd.out 5
      have p0 := block_free HXwd.out 0
      have p1 := block_free HXwd.out 1
      have p2 := block_free HXwd.out 2
      have p3 := block_free HXwd.out 3
      have p4 := block_free HXwd.out 4
      have p5 := block_free HXwd.out 5
      have ol := block_lt HXwd.out
      simp at o0 o1 o2 o3 o4 o5
      refine wpAnyH_ready (rs := [10]) (by kernel_rfl) (by simp) ?_
      refine AllReadyH.cons rfl (fun K hK => ?_) AllReadyH.nil
      go_simp
      go_wp2_with fail
      generalize hwf : World.setCell _ _ _ = wf
      have hS6 := set6 rfl HXwd.out HBwd.out (by first | exact Nat.le_refl _ | exact HBO.out) _ _ _ _ _ _ hwf
      have hne1 : pb ≠ wb.heap.size := HPE.out.1 _ (by first | exact Nat.le_refl _ | exact HBO.out)
      have hne2 : eb ≠ wb.heap.size := HPE.out.2.1 _ (by first | exact Nat.le_refl _ | exact HBO.out)
      have hne3 : qb ≠ wb.heap.size := HPE.out.2.2 _ (by first | exact Nat.le_refl _ | exact HBO.out)
      have HLf := hide (HLwd.out.off hS6.2.2 (Nat.le_trans HT7.out.a.bel.size (by first | exact Nat.le_refl _ | exact HBO.out)) hne1 hne2 hne3 HXwd.out)
      have HFF : Hid (wf.heap[wb.heap.size]? = some (.cells #[.int .i64 E0, .int .u64 E1, .int .u64 E2, .int .u64 E3, .int .u64 E4, .int .u64 E5] 47 (0, 0)) ∧ Below w7.heap.size w7 wf ∧ ErrB b V) := ⟨hS6.1, hS6.2.1, HPwd.out⟩
      clear hwf hS6 hne1 hne2 hne3 o0 o1 o2 o3 o4 o5 p0 p1 p2 p3 p4 p5 ol
      refine hK.out _ _ HLf.out (fun _ => ?_)
      clear hK K
      refine wpAnyH_ready (rs := [11]) (by kernel_rfl) (by simp) ?_
      refine AllReadyH.cons rfl (fun K hK => ?_) AllReadyH.nil
      go_simp
      go_wp2_with fail
      refine hK.out _ _ HLf.out (fun _ => ?_)
      clear hK K
      refine wpAnyH_done (by kernel_rfl) ?_ _
      go_wp2
      go_meet
      case rel => exact ⟨_, V, rfl, rfl, HFF.out⟩
     ·go_simp
      go_wp2_with fail
      obtain ⟨wb, hw⟩ : ∃ w', wa.alloc (.cells #[.int .i64 0, .int .u64 0, .int .u64 0, .int .u64 0, .int .u64 0, .int .u64 0] 47) = w' := ⟨_, rfl⟩
      have bA : Below wa.heap.size wa wb := by rw [← hw]; exact below_alloc1 _ _
      have HXwb : Hid (wb.heap[wa.heap.size]? = some (.cells #[.int .i64 0, .int .u64 0, .int .u64 0, .int .u64 0, .int .u64 0, .int .u64 0] 47 (0, 0))) := by rw [← hw]; exact alloc_atK _ _
      rw [hw]
      clear hw
      have HLwb := hide (HLwa.out.next bA)
      have HBwb : Hid (Below w7.heap.size w7 wb) := HBwa.out.trans (bA.mono HBwa.out.size)
      have HBA := hide bA
      clear bA
      refine hK.out _ _ HLwb.out (fun _ => ?_)
      clear hK K
      refine wpAnyH_ready (rs := [5]) (by kernel_rfl) (by simp) ?_
      refine AllReadyH.cons rfl (fun K hK => ?_) AllReadyH.nil
      go_simp
      go_wp2_with fail
      refine (HRN.out wb HBA.out).mono ?_
      rintro x wd ⟨V, rfl, G2⟩
      have HLwd := hide (HLwb.out.next G2.out.1)
      have HBwd : Hid (Below w7.heap.size w7 wd) := HBwb.out.trans (G2.out.1.mono HBwb.out.size)
      have HPwd : Hid (ErrB b V) := hide G2.out.2
      have HXwd := hide ((G2.out.1.block _ (block_lt HXwb.out)).trans HXwb.out)
      have HBO : Hid (w7.heap.size ≤ wa.heap.size) := HBwa.out.size
      clear HRN
      refine hK.out _ _ HLwd.out (fun _ => ?_)
      clear hK K
      refine wpAnyH_take (i := 6) (oi := ⟨some 132, .move (.tmp 138), 48, "outright.go:145", #[⟨5, .data⟩], none⟩) (v := .tuple #[.agg #[.int .i64 E0, .int .u64 E1, .int .u64 E2, .int .u64 E3, .int .u64 E4, .int .u64 E5], V]) rfl (by kernel_rfl) (by kernel_rfl) (by kernel_rfl) (fun _ _ _ h => h) (Or.inl ⟨by rfl, fun w' hSw => ?_⟩) HLwd.out ?_
      ·go_simp
      simp only [Act.put, lsA, lsB, lsC]
      refine wpAnyH_take (i := 7) (oi := ⟨some 139, .extract (.tmp 132) 0, 47, "outright.go:145", #[⟨6, .data⟩], none⟩) (v := .agg #[.int .i64 E0, .int .u64 E1, .int .u64 E2, .int .u64 E3, .int .u64 E4, .int .u64 E5]) rfl (by kernel_rfl) (by kernel_rfl) (by kernel_rfl) (fun _ _ _ h => h) (Or.inl ⟨by rfl, fun w' hSw => ?_⟩) HLwd.out ?_
      ·go_simp
      simp only [Act.put, lsA, lsB, lsC]
      refine wpAnyH_take (i := 8) (oi := ⟨some 140, .extract (.tmp 132) 1, 33, "outright.go:145", #[⟨6, .data⟩, ⟨10, .gcOnly .lateStores⟩], none⟩) (v := V) rfl (by kernel_rfl) (by kernel_rfl) (by kernel_rfl) (fun _ _ _ h => h) (Or.inl ⟨by rfl, fun w' hSw => ?_⟩) HLwd.out ?_
      ·go_simp
      simp only [Act.put, lsA, lsB, lsC]
      have o0 := block_cell HXwd.out 0
      have o1 := block_cell HXwd.out 1
      have o2 := block_cell HXwd.out 2
      have o3 := block_cell HXwd.out 3
      have o4 := block_cell HXwd.out 4
      have o5 := block_cell HXwd.out 5
      have p0 := block_free HXwd.out 0
      have p1 := block_free HXwd.out 1
      have p2 := block_free HXwd.out 2
      have p3 := block_free HXwd.out 3
      have p4 := block_free HXwd.out 4
      have p5 := block_free HXwd.out 5
      have ol := block_lt HXwd.out
      simp at o0 o1 o2 o3 o4 o5
      refine wpAnyH_ready (rs := [10]) (by kernel_rfl) (by simp) ?_
      refine AllReadyH.cons rfl (fun K hK => ?_) AllReadyH.nil
      go_simp
      go_wp2_with fail
      generalize hwf : World.setCell _ _ _ = wf
      have hS6 := set6 rfl HXwd.out HBwd.out (by first | exact Nat.le_refl _ | exact HBO.out) _ _ _ _ _ _ hwf
      have hne1 : pb ≠ wa.heap.size := HPE.out.1 _ (by first | exact Nat.le_refl _ | exact HBO.out)
      have hne2 : eb ≠ wa.heap.size := HPE.out.2.1 _ (by first | exact Nat.le_refl _ | exact HBO.out)
      have hne3 : qb ≠ wa.heap.size := HPE.out.2.2 _ (by first | exact Nat.le_refl _ | exact HBO.out)
      have HLf := hide (HLwd.out.off hS6.2.2 (Nat.le_trans HT7.out.a.bel.size (by first | exact Nat.le_refl _ | exact HBO.out)) hne1 hne2 hne3 HXwd.out)
      have HFF : Hid (wf.heap[wa.heap.size]? = some (.cells #[.int .i64 E0, .int .u64 E1, .int .u64 E2, .int .u64 E3, .int .u64 E4, .int .u64 E5] 47 (0, 0)) ∧ Below w7.heap.size w7 wf ∧ ErrB b V) := ⟨hS6.1, hS6.2.1, HPwd.out⟩
      clear hwf hS6 hne1 hne2 hne3 o0 o1 o2 o3 o4 o5 p0 p1 p2 p3 p4 p5 ol
      refine hK.out _ _ HLf.out (fun _ => ?_)
      clear hK K
      refine wpAnyH_ready (rs := [11]) (by kernel_rfl) (by simp) ?_
      refine AllReadyH.cons rfl (fun K hK => ?_) AllReadyH.nil
      go_simp
      go_wp2_with fail
      refine hK.out _ _ HLf.out (fun _ => ?_)
      clear hK K
      refine wpAnyH_done (by kernel_rfl) ?_ _
      go_wp2
      go_meet
      case rel => exact ⟨_, V, rfl, rfl, HFF.out⟩
    ·go_simp
     go_wp2_with fail
     obtain ⟨wa, hw⟩ : ∃ w', (w7.alloc (.cells #[.int .i64 0, .int .u64 0, .int .u64 0, .int .u64 0, .int .u64 0, .int .u64 0] 47)).drew = w' := ⟨_, rfl⟩
     have bA : Below w7.drew.heap.size w7.drew wa := by rw [← hw]; exact below_alloc1 w7.drew _
     have HXwa : Hid (wa.heap[w7.heap.size]? = some (.cells #[.int .i64 0, .int .u64 0, .int .u64 0, .int .u64 0, .int .u64 0, .int .u64 0] 47 (0, 0))) := by rw [← hw]; exact alloc_atK w7.drew _
     rw [hw]
     clear hw
     have HLwa := hide (HL0.out.next bA)
     have HBwa : Hid (Below w7.heap.size w7 wa) := HB0.out.trans (bA.mono HB0.out.size)
     clear bA
     refine hK.out _ _ HLwa.out (fun _ => ?_)
     clear hK K
     refine wpAnyH_ready (rs := [1]) (by kernel_rfl) (by simp) ?_
     refine AllReadyH.cons rfl (fun K hK => ?_) AllReadyH.nil
     go_simp
     go_wp2_with fail
     refine (HRP.out wa HLwa.out.a).mono ?_
     rintro x wb ⟨g1, rfl, G1⟩
     rw [HCS.out g1]
     have HLwb := hide (HLwa.out.next G1.out.1)
     have HBwb : Hid (Below w7.heap.size w7 wb) := HBwa.out.trans (G1.out.1.mono HBwa.out.size)
     have HRN := hide G1.out.2
     rw [HCS.out g1] at HRN
     have HXwb := hide ((G1.out.1.block _ (block_lt HXwa.out)).trans HXwa.out)
     clear G1
     refine hK.out _ _ HLwb.out (fun _ => ?_)
     clear hK K
     refine wpAnyH_ready (rs := [5]) (by kernel_rfl) (by simp) ?_
     refine AllReadyH.cons rfl (fun K hK => ?_) AllReadyH.nil
     go_simp
     go_wp2_with fail
     refine (HRN.out wb (Below.refl _ _)).mono ?_
     rintro x wd ⟨V, rfl, G2⟩
     have HLwd := hide (HLwb.out.next G2.out.1)
     have HBwd : Hid (Below w7.heap.size w7 wd) := HBwb.out.trans (G2.out.1.mono HBwb.out.size)
     have HPwd : Hid (ErrB b V) := hide G2.out.2
     have HXwd := hide ((G2.out.1.block _ (block_lt HXwb.out)).trans HXwb.out)
     have HBO : Hid (w7.heap.size ≤ w7.heap.size) := Nat.le_refl _
     clear HRN
     refine hK.out _ _ HLwd.out (fun _ => ?_)
     clear hK K
     refine wpAnyH_take (i := 6) (oi := ⟨some 132, .move (.tmp 138), 48, "outright.go:145", #[⟨5, .data⟩], none⟩) (v := .tuple #[.agg #[.int .i64 E0, .int .u64 E1, .int .u64 E2, .int .u64 E3, .int .u64 E4, .int .u64 E5], V]) rfl (by kernel_rfl) (by kernel_rfl) (by kernel_rfl) (fun _ _ _ h => h) (Or.inl ⟨by rfl, fun w' hSw => ?_⟩) HLwd.out ?_
     ·go_simp
     simp only [Act.put, lsA, lsB, lsC]
     refine wpAnyH_take (i := 7) (oi := ⟨some 139, .extract (.tmp 132) 0, 47, "outright.go:145", #[⟨6, .data⟩], none⟩) (v := .agg #[.int .i64 E0, .int .u64 E1, .int .u64 E2, .int .u64 E3, .int .u64 E4, .int .u64 E5]) rfl (by kernel_rfl) (by kernel_rfl) (by kernel_rfl) (fun _ _ _ h => h) (Or.inl ⟨by rfl, fun w' hSw => ?_⟩) HLwd.out ?_
     ·go_simp
     simp only [Act.put, lsA, lsB, lsC]
     refine wpAnyH_take (i := 8) (oi := ⟨some 140, .extract (.tmp 132) 1, 33, "outright.go:145", #[⟨6, .data⟩, ⟨10, .gcOnly .lateStores⟩], none⟩) (v := V) rfl (by kernel_rfl) (by kernel_rfl) (by kernel_rfl) (fun _ _ _ h => h) (Or.inl ⟨by rfl, fun w' hSw => ?_⟩) HLwd.out ?_
     ·go_simp
     simp only [Act.put, lsA, lsB, lsC]
     have o0 := block_cell HXwd.out 0
     have o1 := block_cell HXwd.out 1
     have o2 := block_cell HXwd.out 2
     have o3 := block_cell HXwd.out 3
     have o4 := block_cell HXwd.out 4
     have o5 := block_cell HXwd.out 5
     have p0 := block_free HXwd.out 0
     have p1 := block_free HXwd.out 1
     have p2 := block_free HXwd.out 2
     have p3 := block_free HXwd.out 3
     have p4 := block_free HXwd.out 4
     have p5 := block_free HXwd.out 5
     have ol := block_lt HXwd.out
     simp at o0 o1 o2 o3 o4 o5
     refine wpAnyH_ready (rs := [10]) (by kernel_rfl) (by simp) ?_
     refine AllReadyH.cons rfl (fun K hK => ?_) AllReadyH.nil
     go_simp
     go_wp2_with fail
     generalize hwf : World.setCell _ _ _ = wf
     have hS6 := set6 rfl HXwd.out HBwd.out (by first | exact Nat.le_refl _ | exact HBO.out) _ _ _ _ _ _ hwf
     have hne1 : pb ≠ w7.heap.size := HPE.out.1 _ (by first | exact Nat.le_refl _ | exact HBO.out)
     have hne2 : eb ≠ w7.heap.size := HPE.out.2.1 _ (by first | exact Nat.le_refl _ | exact HBO.out)
     have hne3 : qb ≠ w7.heap.size := HPE.out.2.2 _ (by first | exact Nat.le_refl _ | exact HBO.out)
     have HLf := hide (HLwd.out.off hS6.2.2 (Nat.le_trans HT7.out.a.bel.size (by first | exact Nat.le_refl _ | exact HBO.out)) hne1 hne2 hne3 HXwd.out)
     have HFF : Hid (wf.heap[w7.heap.size]? = some (.cells #[.int .i64 E0, .int .u64 E1, .int .u64 E2, .int .u64 E3, .int .u64 E4, .int .u64 E5] 47 (0, 0)) ∧ Below w7.heap.size w7 wf ∧ ErrB b V) := ⟨hS6.1, hS6.2.1, HPwd.out⟩
     clear hwf hS6 hne1 hne2 hne3 o0 o1 o2 o3 o4 o5 p0 p1 p2 p3 p4 p5 ol
     refine hK.out _ _ HLf.out (fun _ => ?_)
     clear hK K
     refine wpAnyH_ready (rs := [11]) (by kernel_rfl) (by simp) ?_
     refine AllReadyH.cons rfl (fun K hK => ?_) AllReadyH.nil
     go_simp
     go_wp2_with fail
     refine hK.out _ _ HLf.out (fun _ => ?_)
     clear hK K
     refine wpAnyH_done (by kernel_rfl) ?_ _
     go_wp2
     go_meet
     case rel => exact ⟨_, V, rfl, rfl, HFF.out⟩
   case rest =>
    obtain ⟨ob, V, rfl, rfl, GA⟩ := hcut
    have HT8 := hide (HT7.out.next GA.out.2.1)
    have HO1 := hide GA.out.1
    have HV1 := hide GA.out.2.2
    clear GA HT7 HPE HRP
    have y0 := block_cell HT8.out.bq 0
    have y1 := block_cell HT8.out.bq 1
    have y2 := block_cell HT8.out.bq 2
    have y3 := block_cell HT8.out.bq 3
    have y4 := block_cell HT8.out.bq 4
    have y5 := block_cell HT8.out.bq 5
    have y6 := block_cell HT8.out.bq 6
    have y7 := block_cell HT8.out.bq 7
    have y8 := block_cell HT8.out.bq 8
    have yl := block_lt HT8.out.bq
    simp [Pg.cs] at y0 y1 y2 y3 y4 y5 y6 y7 y8
    have k0 := block_cell HT8.out.a.be 0
    have k1 := block_cell HT8.out.a.be 1
    have k2 := block_cell HT8.out.a.be 2
    have k3 := block_cell HT8.out.a.be 3
    have k4 := block_cell HT8.out.a.be 4
    have k5 := block_cell HT8.out.a.be 5
    have k6 := block_cell HT8.out.a.be 6
    have k7 := block_cell HT8.out.a.be 7
    have kl := block_lt HT8.out.a.be
    simp [En.cs] at k0 k1 k2 k3 k4 k5 k6 k7
    go_wp2_with fail
    refine (HRQ.out wc HT8.out).mono ?_
    rintro x w9' ⟨V2, rfl, G9⟩
    have HT9 := hide (HT8.out.next G9.out.1)
    have HO2 := hide ((G9.out.1.block _ (block_lt HO1.out)).trans HO1.out)
    have HV2 := hide G9.out.2
    clear G9 HT8 HO1 HRQ y0 y1 y2 y3 y4 y5 y6 y7 y8 yl k0 k1 k2 k3 k4 k5 k6 k7 kl
    go_upto_region 20 with fail
    obtain ⟨wz, hw⟩ : ∃ w', w9'.alloc (.cells #[.int .i64 E0, .int .u64 E1, .int .u64 E2, .int .u64 E3, .int .u64 E4, .int .u64 E5] 47) = w' := ⟨_, rfl⟩
    have bA : Below w9'.heap.size w9' wz := by rw [← hw]; exact below_alloc1 _ _
    have hA : wz.heap[w9'.heap.size]? = some (.cells #[.int .i64 E0, .int .u64 E1, .int .u64 E2, .int .u64 E3, .int .u64 E4, .int .u64 E5] 47 (0, 0)) := by rw [← hw]; exact alloc_atK _ _
    rw [hw]
    clear hw
    obtain ⟨ob2, hob2⟩ : ∃ b, w9'.heap.size = b := ⟨_, rfl⟩
    rw [hob2] at hA ⊢
    have HTZ := hide (HT9.out.next bA)
    have HO3 := hide ((bA.block _ (block_lt HO2.out)).trans HO2.out)
    have HO4 := hide hA
    have HD : Hid (Below W.heap.size W wz) := hide HTZ.out.a.bel
    clear bA hA hob2 HT9 HO2 HTZ
    have k0 := block_cell HO3.out 0
    have k1 := block_cell HO3.out 1
    have k2 := block_cell HO3.out 2
    have k3 := block_cell HO3.out 3
    have k4 := block_cell HO3.out 4
    have k5 := block_cell HO3.out 5
    have kl := block_lt HO3.out
    simp at k0 k1 k2 k3 k4 k5
    have z0 := block_cell HO4.out 0
    have z1 := block_cell HO4.out 1
    have z2 := block_cell HO4.out 2
    have z3 := block_cell HO4.out 3
    have z4 := block_cell HO4.out 4
    have z5 := block_cell HO4.out 5
    have zl := block_lt HO4.out
    simp at z0 z1 z2 z3 z4 z5
    have HEQ := eqPaidT E2 E3 E4 wz.drew
    rcases HV1.out with ⟨hb, rfl⟩ | ⟨hb, gf1, rfl⟩
    ·rcases HV2.out with ⟨_, rfl⟩ | ⟨hb2, _⟩
     ·clear HV1 HV2 HO3 HO4
      go_region
      go_wp2
      go_ret
      exact ⟨rfl, HD.out.drew⟩
     ·rw [hb] at hb2; cases hb2
    ·rcases HV2.out with ⟨hb2, _⟩ | ⟨_, gf2, rfl⟩
     ·rw [hb] at hb2; cases hb2
     ·clear HV1 HV2 HO3 HO4
      go_region
      go_wp2
      go_ret
      exact ⟨rfl, HD.out.drew⟩
end Go.Proofs.YtggpaljilpbmhaaGreatDoor
