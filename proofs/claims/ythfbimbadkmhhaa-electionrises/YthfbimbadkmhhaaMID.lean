import Derived.Test.YthfbimbadkmhhaaMGK
namespace Go.Proofs.Ythfbimbadkmhhaa
open Go.RowKit Crc

set_option maxRecDepth 10000 in
set_option maxHeartbeats 3200000 in
/-- A request that is refused: one that waits makes it needless, or there is no room. -/
theorem request_no {W : World} {eb g : Nat} {c : Cf} {me : Nat} {fp : Nat → Prop} {x : Ex} (h : EL W eb g c me fp x) (cl sq : Nat) (co : Option Addr) (cn cc : Nat) (C : List Nat) (hlen : cn = C.length) (hg : goodR (cl, sq, C) = true) (pa ta : Bool) (hp : (x.ps.any fun k => overR k.val (cl, sq, C)) = pa) (ht : (x.ts.any fun k => overR k.val (cl, sq, C)) = ta) (hl : pa = true ∨ ta = true ∨ 32 ≤ x.ts.length) :
    Calls Try.prog 16 #[.pointer (some ⟨eb, 0, none⟩), .agg #[.int .u64 (cl : Int), .int .u64 (sq : Int), .slice co cn cc]] W fun e W' => e = .returned (.bool false) ∧ Hid (Did W eb g c me fp x.abs W') := by
  obtain ⟨W1, hW1⟩ : ∃ W1, W.alloc (.cells #[.int .u64 (cl : Int), .int .u64 (sq : Int), .slice co cn cc] 37) = W1 := ⟨_, rfl⟩
  have B1 : Hid (Below W.heap.size W W1) := by rw [← hW1]; exact below_alloc1 W _
  have C1 : Hid (W1.heap[W.heap.size]? = some (.cells #[.int .u64 (cl : Int), .int .u64 (sq : Int), .slice co cn cc] 37 (0, 0))) := by rw [← hW1]; exact alloc_atK _ _
  have HL := hide (h.kept B1.out)
  have KM : Hid (∀ V, Hid (Below W1.heap.size W1 V) → Calls Try.prog 13 #[.pointer (some ⟨eb, 0, none⟩)] V fun e w' => e = .returned (.bool true) ∧ w' = V) := fun V hb => madeE (HL.out.kept hb.out)
  have KV : Hid (∀ V, Hid (Below W1.heap.size W1 V) → Calls Try.prog 31 #[.agg #[.int .u64 (cl : Int), .int .u64 (sq : Int), .slice co cn cc]] V fun e w' => e = .returned (.bool true) ∧ Hid (Below W1.heap.size W1 w')) := fun V hb => by
    refine (validReqE cl sq co cn cc C hlen V).mono ?_
    rintro e w' ⟨rfl, G⟩
    exact ⟨by rw [hg], hb.out.trans (G.out.mono hb.out.size)⟩
  have KZ : Hid (∀ V, Hid (Below W1.heap.size W1 V) → V.cell? ⟨W.heap.size, 0, none⟩ = some (.int .u64 (cl : Int)) ∧ V.cell? ⟨W.heap.size, 1, none⟩ = some (.int .u64 (sq : Int)) ∧ V.cell? ⟨W.heap.size, 2, none⟩ = some (.slice co cn cc) ∧ W.heap.size < V.heap.size) := fun V hb => by
    have b := (hb.out.block _ (block_lt C1.out)).trans C1.out
    exact ⟨block_cell b 0, block_cell b 1, block_cell b 2, block_lt b⟩
  have KP : Hid (∀ V, Hid (Below W1.heap.size W1 V) → V.cell? ⟨eb, 7, none⟩ = some (.slice x.po x.ps.length x.pc) ∧ V.cell? ⟨eb, 8, none⟩ = some (.slice x.qo x.ts.length x.tc) ∧ eb < V.heap.size) := fun V hb => ⟨(HL.out.kept hb.out).c 7, (HL.out.kept hb.out).c 8, (HL.out.kept hb.out).lt⟩
  have KS7 : Hid (∀ V, Hid (Below W1.heap.size W1 V) → Calls Try.prog 32 #[.slice x.po x.ps.length x.pc, .agg #[.int .u64 (cl : Int), .int .u64 (sq : Int), .slice co cn cc]] V fun e w' => e = .returned (.bool pa) ∧ Hid (Below W1.heap.size W1 w')) := fun V hb => by
    obtain ⟨ao, cap, b, e, _, hR⟩ := (HL.out.kept hb.out).qp.form
    simp only [Value.slice.injEq] at e
    obtain ⟨rfl, -, rfl⟩ := e
    refine (supersedesE x.ps.length x.pc rfl hR cl sq co cn cc C).mono ?_
    rintro e w' ⟨rfl, G⟩
    exact ⟨by rw [hp], hb.out.trans (G.out.mono hb.out.size)⟩
  have KS8 : Hid (∀ V, Hid (Below W1.heap.size W1 V) → Calls Try.prog 32 #[.slice x.qo x.ts.length x.tc, .agg #[.int .u64 (cl : Int), .int .u64 (sq : Int), .slice co cn cc]] V fun e w' => e = .returned (.bool ta) ∧ Hid (Below W1.heap.size W1 w')) := fun V hb => by
    obtain ⟨ao, cap, b, e, _, hR⟩ := (HL.out.kept hb.out).qt.form
    simp only [Value.slice.injEq] at e
    obtain ⟨rfl, -, rfl⟩ := e
    refine (supersedesE x.ts.length x.tc rfl hR cl sq co cn cc C).mono ?_
    rintro e w' ⟨rfl, G⟩
    exact ⟨by rw [ht], hb.out.trans (G.out.mono hb.out.size)⟩
  have KR : Hid (∀ V, Hid (Below W1.heap.size W1 V) → Hid (Below W1.heap.size W1 V.drew)) := fun V hb => hb.out.drew
  have FIN : Hid (∀ V, Hid (Below W1.heap.size W1 V) → Did W eb g c me fp x.abs V) := fun V hb => Did.below h (B1.out.trans (hb.out.mono B1.out.size))
  have HV1 : Hid (Below W1.heap.size W1 W1) := Below.refl _ W1
  have HLL : Hid (pa = true ∨ ta = true ∨ decide ((32 : Int) ≤ (x.ts.length : Int)) = true) := hl.imp id (fun e => e.imp id (fun e => decide_eq_true (by omega)))
  have HW1 := hide hW1
  clear h hlen hg hp ht hl hW1 B1 C1 HL
  generalize hcl : (cl : Int) = ci at *
  generalize hsq : (sq : Int) = si at *
  clear hcl hsq
  generalize x.ts.length = tn at *
  generalize x.ps.length = pn at *
  generalize x.qo = qo at *
  generalize x.tc = tc at *
  generalize x.po = po at *
  generalize x.pc = pc at *
  go_enter Try.func16, Try.ntmps16
  go_upto_region 1 with fail
  rw [HW1.out]
  clear HW1
  generalize W.heap.size = wb at *
  obtain ⟨z0, z1, z2, zl⟩ := KZ.out W1 HV1
  go_wp2_with fail
  refine (KM.out W1 HV1).mono ?_
  rintro e V' ⟨rfl, hVV⟩
  have hVW := hVV.symm
  clear hVV
  subst hVW
  go_wp2_with fail
  refine (KV.out W1 HV1).mono ?_
  rintro e W2 ⟨rfl, HV2⟩
  clear z0 z1 z2 zl
  go_upto_region 4 with fail
  refine region_assign (fun V => Hid (Below W1.heap.size W1 V)) [(13, .pointer (some ⟨eb, 0, none⟩)), (14, .pointer (some ⟨eb, 0, none⟩)), (15, .pointer (some ⟨eb, 7, none⟩)), (16, .slice po pn pc), (17, .agg #[.int .u64 ci, .int .u64 si, .slice co cn cc]), (18, .bool pa), (12, .bool pa)] _ (by kernel_rfl) (by kernel_rfl) (by kernel_rfl) (by kernel_rfl) rfl (KR.out _ HV2) ?_ (fun V3 HV3 => ?_)
  · simp only [putAll, Act.put, List.setIfInBounds_toArray, List.set_cons_zero, List.set_cons_succ]
    repeat' (first | exact AllTo.nil | refine AllTo.cons ?_ ?_)
    all_goals first
      | exact stepTo_no (by rfl) rfl
      | (refine stepTo_yes (by rfl) (fun V hV K hK => ?_)
         obtain ⟨z0, z1, z2, zl⟩ := KZ.out V hV
         obtain ⟨q7, q8, ql⟩ := KP.out V hV
         go_simp
         first
           | exact hK.out _ hV
           | (go_at_call 32; refine (KS7.out V hV).mono ?_; rintro e V' ⟨rfl, hV'⟩; exact hK.out _ hV'))
  simp only [putAll, Act.put, List.setIfInBounds_toArray, List.set_cons_zero, List.set_cons_succ]
  cases pa with
  | true =>
    go_wp2
    go_ret
    exact ⟨rfl, FIN.out _ HV3⟩
  | false =>
    go_upto_region 5 with fail
    refine region_assign (fun V => Hid (Below W1.heap.size W1 V)) [(19, .pointer (some ⟨eb, 0, none⟩)), (20, .pointer (some ⟨eb, 0, none⟩)), (21, .pointer (some ⟨eb, 8, none⟩)), (22, .slice qo tn tc), (23, .agg #[.int .u64 ci, .int .u64 si, .slice co cn cc]), (24, .bool ta), (12, .bool ta)] _ (by kernel_rfl) (by kernel_rfl) (by kernel_rfl) (by kernel_rfl) rfl (KR.out _ HV3) ?_ (fun V4 HV4 => ?_)
    · simp only [putAll, Act.put, List.setIfInBounds_toArray, List.set_cons_zero, List.set_cons_succ]
      repeat' (first | exact AllTo.nil | refine AllTo.cons ?_ ?_)
      all_goals first
        | exact stepTo_no (by rfl) rfl
        | (refine stepTo_yes (by rfl) (fun V hV K hK => ?_)
           obtain ⟨z0, z1, z2, zl⟩ := KZ.out V hV
           obtain ⟨q7, q8, ql⟩ := KP.out V hV
           go_simp
           first
             | exact hK.out _ hV
             | (go_at_call 32; refine (KS8.out V hV).mono ?_; rintro e V' ⟨rfl, hV'⟩; exact hK.out _ hV'))
    simp only [putAll, Act.put, List.setIfInBounds_toArray, List.set_cons_zero, List.set_cons_succ]
    cases ta with
    | true =>
      go_wp2
      go_ret
      exact ⟨rfl, FIN.out _ HV4⟩
    | false =>
      have hlt : decide ((32 : Int) ≤ (tn : Int)) = true := by
        rcases HLL.out with e | e | e
        · cases e
        · cases e
        · exact e
      obtain ⟨z0, z1, z2, zl⟩ := KZ.out V4 HV4
      obtain ⟨q7, q8, ql⟩ := KP.out V4 HV4
      go_wp2
      go_ret
      exact ⟨rfl, FIN.out _ HV4⟩
/-- A request of any kind: whatever is answered, nothing but the queue of this epoch has turned. -/
theorem request_any {W : World} {eb g : Nat} {c : Cf} {me : Nat} {fp : Nat → Prop} {x : Ex} (h : EL W eb g c me fp x) (cl sq : Nat) (co : Option Addr) (cn cc : Nat) (C : List Nat) (hr : (Rq.mk cl sq co cn cc C).Ok W.heap.size W) :
    Calls Try.prog 16 #[.pointer (some ⟨eb, 0, none⟩), .agg #[.int .u64 (cl : Int), .int .u64 (sq : Int), .slice co cn cc]] W fun e W' => ∃ z th, e = .returned (.bool z) ∧ Hid (Did W eb g c me fp ⟨x.num, x.node, x.sus, x.len, x.fin, x.ps.map Rq.val, th⟩ W') := by
  cases hg : goodR (cl, sq, C) with
  | false =>
    refine (request_bad h cl sq co cn cc C hr.hC.1 hg).mono ?_
    rintro e W' ⟨rfl, D⟩
    exact ⟨_, _, rfl, D⟩
  | true =>
    by_cases hall : (x.ps.any fun k => overR k.val (cl, sq, C)) = true ∨ (x.ts.any fun k => overR k.val (cl, sq, C)) = true ∨ 32 ≤ x.ts.length
    · refine (request_no h cl sq co cn cc C hr.hC.1 hg _ _ rfl rfl hall).mono ?_
      rintro e W' ⟨rfl, D⟩
      exact ⟨_, _, rfl, D⟩
    · have h1 : (x.ps.any fun k => overR k.val (cl, sq, C)) = false := by
        cases e : (x.ps.any fun k => overR k.val (cl, sq, C)) with
        | false => rfl
        | true => exact absurd (.inl e) hall
      have h2 : (x.ts.any fun k => overR k.val (cl, sq, C)) = false := by
        cases e : (x.ts.any fun k => overR k.val (cl, sq, C)) with
        | false => rfl
        | true => exact absurd (.inr (.inl e)) hall
      refine (request_ok h cl sq co cn cc C hr hg h1 h2 (by have : ¬ 32 ≤ x.ts.length := fun e => hall (.inr (.inr e)); omega)).mono ?_
      rintro e W' ⟨rfl, D⟩
      exact ⟨_, _, rfl, D⟩
end Go.Proofs.Ythfbimbadkmhhaa
