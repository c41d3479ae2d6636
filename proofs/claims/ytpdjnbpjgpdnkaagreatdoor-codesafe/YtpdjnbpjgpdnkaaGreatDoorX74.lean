import Derived.Test.YtpdjnbpjgpdnkaaGreatDoorX73
import Derived.Test.YtpdjnbpjgpdnkaaGreatDoorX66
import Derived.Test.YtpdjnbpjgpdnkaaGreatDoorCards
import Derived.Test.YtpdjnbpjgpdnkaaGreatDoorTie
namespace Go.Proofs.YtpdjnbpjgpdnkaaGreatDoor
open Go.RowKit

theorem safeW {W : World} {g : Pg} {p : Pv} (h : g.Ok p W.heap.size W) (hT : Tab W) (hC : ∀ j, j < p.nc → 0 ≤ p.C j ∧ p.C j < two64) (b0 : p.nc * 8 ≤ 140737488351232) (b1 : p.ns * 8 ≤ 140737488351232) (b2 : p.n * 16 ≤ 140737488351232) (ev : Int) {e : En} (he : e.Ok) {fuel : Int} (hf0 : 0 ≤ fuel) :
  Calls Tryz.prog 4 #[.agg (g.cs p).toArray, .int .i64 ev, .agg e.cs.toArray, .int .u64 fuel] W fun x w' => x = .returned (.bool true) ∧ Below W.heap.size W w' := by
 have hlv : ∀ w, Below W.heap.size W w → Calls Tryz.prog 5 #[.int .i64 ev, .int .u64 fuel] w fun e w' => e = .returned (.bool true) ∧ Hid (Below w.heap.size w w') := fun w hb => livesC (hT.below hb hT.z) ev fuel hf0
 have hcp : ∀ w, Below W.heap.size W w → Calls Tryz.prog 7 #[.agg (g.cs p).toArray] w fun x w1 => ∃ g1 : Pg, x = .returned (.agg (g1.cs p).toArray) ∧ g1.Ok p w1.heap.size w1 ∧ Below w.heap.size w w1 := fun w hb =>
  (copyRw ((h.kept hb (Nat.le_refl _)).wide hb.size) b0 b1 b2).mono fun x w1 ⟨g1, q1, q2, q3⟩ => ⟨g1, q1, q2.ok, q3⟩
 cases hz : rnFL p ev with
 | true =>
  obtain ⟨k, hv, hp⟩ := rnFL_ok hz
  have hpn := isPl_nat hp
  have hx := (he.b 2 (by decide)).1
  refine safeK (g := g) (p := p) (e := e) (k := k) (s0 := ldS p ev fuel) (by omega) (by omega) (ver_wf hv).sz.2.2 ?_ hlv (fun pb eb _ _ w hw => ?_) (fun pb eb _ _ w hw => ?_)
  ·unfold ldS
   split
   ·show min fuel 1000 ≤ _; exact Int.le_refl _
   ·show min fuel 1000 ≤ _; exact Int.le_refl _
  ·refine (hcp w hw.2.2).mono ?_
   rintro x w1 ⟨g1, rfl, ok, b⟩
   have bW1 := hw.2.2.trans (b.mono hw.2.2.size)
   refine ⟨g1, rfl, b, (loadC ok (hT.below bW1 hT.z) ev e fuel).mono ?_⟩
   intro x w3 hh
   rw [hv] at hh
   obtain ⟨mb, c, rfl, G⟩ := hh.2 hp
   have L := G.out
   have bw3 : Below w.heap.size w w3 := b.trans (L.b.mono b.size)
   have bW3 := bW1.trans (L.b.mono bW1.size)
   have hm := he.me hv hC
   refine ⟨mb, rfl, c, ⟨by rw [L.ek, L.ev, L.hd]; exact hm, hv, L.hd, L.ns, L.kd⟩, ?_⟩
   have lmb : w.heap.size ≤ mb := Nat.le_trans b.size L.lo
   refine ⟨L.m, L.r, by rw [L.hd]; exact ld_tm hv hp hf0 hx, ?_, ?_, (bw3.block _ (block_lt hw.1)).trans hw.1, (bw3.block _ (block_lt hw.2.1)).trans hw.2.1, h.kept bW3 (Nat.le_refl _), hT.below bW3 hT.z, bW3, Nat.le_trans hw.2.2.size lmb, hT.z, ?_, ?_⟩
   ·unfold ldS
    split
    ·exact Nat.zero_le _
    ·exact Nat.zero_le _
   ·unfold ldS
    split
    ·intro _; exact (by decide : (8 : Int) ≠ 7)
    ·intro q; cases q
   ·have := block_lt hw.1; omega
   ·have := block_lt hw.2.1; omega
  ·refine (hcp w hw.2.2).mono ?_
   rintro x w1 ⟨g1, rfl, ok, b⟩
   have bW1 := hw.2.2.trans (b.mono hw.2.2.size)
   refine ⟨g1, rfl, b, (verifyC ok (hT.below bW1 hT.z)).mono ?_⟩
   intro x w2 hh
   rw [hv] at hh
   exact hh
 | false =>
  have hno := rnFL_no hz
  refine safeR (g := g) (p := p) (e := e) hlv (fun pb eb _ _ w hw => ?_) (fun pb eb _ _ w hw => ?_)
  ·refine (hcp w hw.2.2).mono ?_
   rintro x w1 ⟨g1, rfl, ok, b⟩
   have bW1 := hw.2.2.trans (b.mono hw.2.2.size)
   refine ⟨g1, rfl, b, (loadC ok (hT.below bW1 hT.z) ev e fuel).mono ?_⟩
   intro x w3 hh
   rcases hno with ⟨z, hv⟩ | ⟨k, hv, hp⟩
   ·obtain ⟨a, y⟩ := z
    rw [hv] at hh
    obtain ⟨gf, rfl, G⟩ := hh
    exact ⟨gf, rfl, G.out.2⟩
   ·rw [hv] at hh
    obtain ⟨gf, rfl, G⟩ := hh.1 hp
    exact ⟨gf, rfl, G.out.2⟩
  ·refine (hcp w hw.2.2).mono ?_
   rintro x w1 ⟨g1, rfl, ok, b⟩
   refine ⟨g1, rfl, b, ?_⟩
   have bW1 := hw.2.2.trans (b.mono hw.2.2.size)
   refine (verifyC ok (hT.below bW1 hT.z)).mono ?_
   intro x w2 hh
   rcases hno with ⟨z, hv⟩ | ⟨k, hv, hp⟩
   ·obtain ⟨a, y⟩ := z
    rw [hv] at hh
    obtain ⟨gv, rfl, G⟩ := hh
    exact .inl ⟨gv, rfl, G.out.2⟩
   ·rw [hv] at hh
    exact .inr ⟨hh.1, by simp [isPl] at hp; omega, hh.2⟩
end Go.Proofs.YtpdjnbpjgpdnkaaGreatDoor
namespace Go.Proofs.YtpdjnbpjgpdnkaaGreatDoor.codeSafe
open Go.ChangeShapes Go.WideShapes Go.ChangeAt Go.RowKit Go.Deep
def leafD : DataW Unit → Value
 | .lit (.int k z) => .int k z
 | .lit (.string b) => .string ⟨b.toArray⟩
 | _ => .nilIface
def row1 : DataW Unit → List Value
 | .agg l => l.map leafD
 | _ => []
def row2 : DataW Unit → List Value
 | .agg l => l.flatMap row1
 | _ => []
def put (w0 : World) (g : Nat) (l : List Value) : World :=
 { w0 with heap := w0.heap.modify g fun
   | .cells _ t frozen => .cells l.toArray t frozen
   | o => o }
def put0 (w0 : World) : World := put w0 0 [.iface 172 (.agg #[.pointer (some ⟨10 + 1, 37, none⟩)])]
def lay (w0 : World) : World :=
 put (put (put (put (put (put (put (put (put0 w0) 10 (row1 Rows.laid_quorum_terms_keywords)) 4 (row2 Rows.laid_quorum_terms_operators)) 3 (row2 Rows.laid_quorum_terms_inputs)) 1 (row2 Rows.laid_quorum_code_forms)) 2 (row2 Rows.laid_quorum_code_inputs)) 5 (row1 Rows.laid_quorum_code_parties)) 7 (row2 Rows.laid_quorum_code_operators)) 6 (row1 Rows.laid_quorum_code_calls)
set_option maxRecDepth 100000 in
theorem contract (H : Type) (enc : TypeId × Value → H) (W : World) (base : Nat) (args : Array Value) (ds gs : List (DataW H)) (before : List MemPlace)
  (hval : ∀ (j : Nat) t v, Tryz.f4.params[j]? = some t → args[j]? = some v → Value.okWide Tryz.prog W .any base t v)
  (hW : DataW.Whole enc Tryz.prog Tryz.f4.params.toList Rows.codeSafeSpec.vars false W args.toList ds gs before) (hL : laidMetH Tryz.prog Rows.codeSafeRow.laid W) (hSh : W.ShapedOpen Tryz.prog)
  (hsz : (DataW.weightsEach Tryz.prog (Tryz.f4.params.toList ++ Rows.codeSafeSpec.plain.varTypes Tryz.prog) (ds ++ gs)).all (· ≤ reachBytes) = true) :
  Calls Tryz.prog 4 args W fun e W' => ∃ v, e = .returned v ∧ Rows.codeSafeSpec.post enc Tryz.prog Tryz.f4 false true false false W args v W' := by
 have hW' := hW
 obtain ⟨p, q, hA0, hV, rfl, hfz, hnd⟩ := hW
 have hA : DataW.TrodAll enc Tryz.prog W 0 (fun _ => true) true Tryz.f4.params.toList args.toList ds p := hA0
 rw [Tryz.params4] at hA hval hsz
 obtain ⟨v0, vs0, d0, ds0, p0, q0, hargs, rfl, rfl, h0, r0⟩ := trodAll_cons hA
 obtain ⟨v1, vs1, d1, ds1, p1, q1, rfl, rfl, rfl, h1, r1⟩ := trodAll_cons r0
 obtain ⟨v2, vs2, d2, ds2, p2, q2, rfl, rfl, rfl, h2, r2⟩ := trodAll_cons r1
 obtain ⟨v3, vs3, d3, ds3, p3, q3, rfl, rfl, rfl, h3, r3⟩ := trodAll_cons r2
 obtain ⟨rfl, rfl, rfl⟩ := trodAll_nil r3
 obtain rfl : args = #[v0, v1, v2, v3] := by cases args; simp_all
 obtain ⟨rfl, rfl⟩ := trodVars_none hV
 have hT := tab_okF (W := W) hL (room_ok hSh)
 obtain ⟨cs0, rfl, _⟩ := okWide_struct Tryz.underlying27 (hval 0 27 v0 rfl rfl)
 have k0 := h0
 have lt0 : ∀ x ∈ p0, x.block < W.heap.size := by obtain ⟨m, hm⟩ := k0; exact DataW.trod_lt m _ _ _ hm
 obtain ⟨g, pv, hcs, hok, l0, l1, l2, hC⟩ := view_progC h0 (fun n hn => by
  have := List.all_eq_true.1 hsz n (DataW.weights_mem_each (j := 0) (t := 27) (d := d0) rfl rfl n hn)
  simpa using this)
 obtain rfl : cs0 = (g.cs pv).toArray := by
  apply Array.toList_inj.1
  simpa [Value.cells] using hcs
 obtain ⟨a1, rfl, rfl, rfl, w1⟩ := open_int Tryz.underlying3 (hval 1 3 v1 rfl rfl) h1
 obtain ⟨cs2, rfl, _⟩ := okWide_struct Tryz.underlying30 (hval 2 30 v2 rfl rfl)
 have k2 := h2
 have lt2 : ∀ x ∈ p2, x.block < W.heap.size := by obtain ⟨m, hm⟩ := k2; exact DataW.trod_lt m _ _ _ hm
 obtain ⟨e, hes, heo⟩ := view_env h2
 obtain rfl : cs2 = e.cs.toArray := by
  apply Array.toList_inj.1
  simpa [Value.cells] using hes
 obtain ⟨a3, rfl, rfl, rfl, w3⟩ := open_int Tryz.underlying28 (hval 3 28 v3 rfl rfl) h3
 have walk := safeW hok hT hC l0 l1 l2 a1 heo (bnd w3).1
 refine walk.mono fun e W' ⟨he, bel⟩ => ?_
 subst he
 exact ⟨_, rfl, _, _, _, [], _, [], hW', trodAll_mk1 (shut_bool Tryz.underlying4 _), (trodAll_cons_mk (Below.trod laidOut (by kernel_rfl) (of_decide_eq_true (by kernel_rfl)) k0 bel lt0) (trodAll_cons_mk (shut_int Tryz.underlying3 w1) (trodAll_cons_mk (Below.trod laidOut (by kernel_rfl) (of_decide_eq_true (by kernel_rfl)) k2 bel lt2) (trodAll_cons_mk (shut_int Tryz.underlying28 w3) trodAll_mk0)))), rfl, bel.frame _, fun h => by cases h⟩
theorem laid_met (os : Os) : laidMetH Tryz.prog Rows.codeSafeRow.laid ((lay (World.holding Tryz.prog os ⟨#[], #[], []⟩)).forCall (fun _ _ => 0) ⟨#[], #[.agg #[.slice none 0 0, .slice none 0 0, .int .i64 0, .int .i64 0, .int .i64 0, .int .i64 0, .int .i64 0, .int .i64 0, .slice none 0 0], .int .i64 0, .agg #[.int .u64 0, .int .u64 0, .int .u64 0, .int .u64 0, .int .u64 0, .int .u64 0, .int .u64 0, .bool false], .int .u64 0], []⟩).memory :=
 laidMetH_of_parts (laidMet_of_run' 8 (by kernel_rfl) (by kernel_rfl)) (by kernel_rfl)
theorem reads (os : Os) {H : Type} (enc : TypeId × Value → H) : ∃ places, DataW.whole enc Tryz.prog ((lay (World.holding Tryz.prog os ⟨#[], #[], []⟩)).forCall (fun _ _ => 0) ⟨#[], #[.agg #[.slice none 0 0, .slice none 0 0, .int .i64 0, .int .i64 0, .int .i64 0, .int .i64 0, .int .i64 0, .int .i64 0, .slice none 0 0], .int .i64 0, .agg #[.int .u64 0, .int .u64 0, .int .u64 0, .int .u64 0, .int .u64 0, .int .u64 0, .int .u64 0, .bool false], .int .u64 0], []⟩).memory Tryz.f4.params.toList Rows.codeSafeSpec.vars false #[Value.agg #[.slice none 0 0, .slice none 0 0, .int .i64 0, .int .i64 0, .int .i64 0, .int .i64 0, .int .i64 0, .int .i64 0, .slice none 0 0], .int .i64 0, .agg #[.int .u64 0, .int .u64 0, .int .u64 0, .int .u64 0, .int .u64 0, .int .u64 0, .int .u64 0, .bool false], .int .u64 0].toList 8 = some ([.agg [.nil, .nil, .agg [.lit (.int .i64 0), .lit (.int .i64 0), .lit (.int .i64 0), .lit (.int .i64 0), .lit (.int .i64 0), .lit (.int .i64 0)], .nil], .lit (.int .i64 0), .agg [.lit (.int .u64 0), .lit (.int .u64 0), .lit (.int .u64 0), .lit (.int .u64 0), .lit (.int .u64 0), .lit (.int .u64 0), .lit (.int .u64 0), .lit (.bool false)], .lit (.int .u64 0)], [], places) :=
 ⟨[], by kernel_rfl⟩
set_option maxRecDepth 100000 in
theorem lifted (os : Os) (started : os.Started) (H : Type) (enc : TypeId × Value → H) (F : Stop.Interp) :
  ReturnsInHanded {} Tryz.checked os 4 .any ((OpenSpec.ofChange Rows.codeSafeSpec).preRow enc Tryz.prog Tryz.f4 Rows.codeSafeRow.domain false Rows.codeSafeRow.laid) (((OpenSpec.ofChange Rows.codeSafeSpec).at F).post enc Tryz.prog Tryz.f4 false true false false) := by
 obtain ⟨places, hx⟩ := reads os enc
 refine returnsInHanded_of_row (C := Tryz.checked) (s := OpenSpec.ofChange Rows.codeSafeSpec) own started (by kernel_rfl) Tryz.func4
  (witness_row_at (enc := enc) (C := Tryz.checked) false (lay (World.holding Tryz.prog os ⟨#[], #[], []⟩)) #[.agg #[.slice none 0 0, .slice none 0 0, .int .i64 0, .int .i64 0, .int .i64 0, .int .i64 0, .int .i64 0, .int .i64 0, .slice none 0 0], .int .i64 0, .agg #[.int .u64 0, .int .u64 0, .int .u64 0, .int .u64 0, .int .u64 0, .int .u64 0, .int .u64 0, .bool false], .int .u64 0] rfl (by kernel_rfl) (by kernel_rfl) (by kernel_rfl)
   (OpenSpec.preRow_of_cond 8 hx (by kernel_rfl) (fun k hk => by cases hk) (by kernel_rfl) (laid_met os))) ?_
 intro W base args ds gs before hval hW _ _ hsz hL hSh _
 exact contract H enc W base args ds gs before hval hW hL hSh hsz
theorem said : Rows.CodeSafeSaid :=
 OpenClaim.holds_of_cond 4 Tryz.f4 rfl rfl rfl rfl rfl rfl rfl ⟨rfl, rfl, rfl, rfl, rfl⟩ rfl rfl rfl rfl rfl (by kernel_rfl) Tryz.func4 (by kernel_rfl)
  (of_decide_eq_true (by kernel_rfl)) (by unfold Func.isWrapper; first | (rw [if_pos (by decide +kernel)]; kernel_rfl) | (rw [if_neg (by decide +kernel)]; exact ⟨rfl, rfl⟩))
  (fun os started H enc _ F => by rw [OpenClaim.pre_eq_preRow]; exact lifted os started H enc F)
theorem plain (f : FuncId) (fn : Func) (hf : Tryz.pinned.checked.prog.funcNamed Rows.codeSafeRow.func = some f) (hfn : Tryz.pinned.checked.prog.funcs[f]? = some fn) :
  Rows.codeSafeCard.stood.looks = Tryz.pinned.checked.prog.looks [] ∧ ∀ (j : Nat) t, fn.params[j]? = some t → Tryz.pinned.checked.prog.wantsStandIn t = false := by
 obtain rfl : f = 4 := Option.some.inj ((show Tryz.prog.funcNamed Rows.codeSafeRow.func = some 4 by kernel_rfl).symm.trans hf) |>.symm
 obtain rfl : fn = Tryz.f4 := (Option.some.inj (Tryz.func4.symm.trans hfn)).symm
 refine ⟨by kernel_rfl, fun j t ht => ?_⟩
 rw [Tryz.params4] at ht
 have hm : t = 27 ∨ t = 3 ∨ t = 30 ∨ t = 28 := by have := Array.mem_of_getElem? ht; simp at this; rcases this with rfl | rfl | rfl | rfl <;> simp
 rcases hm with rfl | rfl | rfl | rfl
 ·exact (show Tryz.prog.wantsStandIn 27 = false by kernel_rfl)
 ·exact (show Tryz.prog.wantsStandIn 3 = false by kernel_rfl)
 ·exact (show Tryz.prog.wantsStandIn 30 = false by kernel_rfl)
 ·exact (show Tryz.prog.wantsStandIn 28 = false by kernel_rfl)
theorem card : Rows.CodeSafeCardSaid :=
 Claim7.holds_tied_plain_at .later [] _ _ _ _ said (fun _ h => by cases h) (by kernel_rfl) (fun _ h => by cases h) codeSafe_row_tie rfl ⟨rfl, rfl⟩ (by kernel_rfl) rfl plain (by kernel_rfl)
end Go.Proofs.YtpdjnbpjgpdnkaaGreatDoor.codeSafe
namespace Go.Proofs.YtpdjnbpjgpdnkaaGreatDoor
theorem codeSafe_card_holds : Rows.CodeSafeCardSaid := codeSafe.card
#print axioms codeSafe_card_holds
end Go.Proofs.YtpdjnbpjgpdnkaaGreatDoor
