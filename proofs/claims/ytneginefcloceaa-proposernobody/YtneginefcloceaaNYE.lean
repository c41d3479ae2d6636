import Derived.Test.YtneginefcloceaaNYD
namespace Go.Proofs.Ytneginefcloceaa
open Go.RowKit Crc

/-- A script as it lies. -/
structure OqsN (lim : Nat) (w : World) (ao : Option Addr) (os : List OqN) (b off : Nat) : Prop where
  ad : 0 < os.length → ao = some ⟨b, off, none⟩
  lt : 0 < os.length → b < lim
  at_ : ∀ (i : Nat) (o : OqN), os[i]? = some o → w.rangeAt b (off + i * 58) o.cs
  le : os.length ≤ 140737488355328
  ok : ∀ o ∈ os, o.Ok lim w
/-- The world within a round. -/
structure R11 (w : World) (o : OqN) (v : Value) (sb b at_ : Nat) (W : World) : Prop where
  bel : Below w.heap.size w W
  pn : Pn W v
  st : W.heap[sb]? = some (.cells #[.slice none 0 0, .slice none 0 0] 46 (0, 0))
  bl : b < w.heap.size
  rg : W.rangeAt b at_ o.cs
  ok : o.Ok w.heap.size W
theorem R11.next {w : World} {o : OqN} {v : Value} {sb b at_ : Nat} {W W' : World} (h : R11 w o v sb b at_ W) (hb : Below W.heap.size W W') : R11 w o v sb b at_ W' :=
  ⟨h.bel.trans (hb.mono h.bel.size), h.pn.kept hb, (hb.block _ (block_lt h.st)).trans h.st, h.bl, fun j u hu => (hb.cell (p := ⟨b, _, none⟩) (Nat.lt_of_lt_of_le h.bl h.bel.size)).trans (h.rg j u hu), h.ok.below (hb.mono h.bel.size)⟩
theorem R11.mid {w : World} {o : OqN} {v : Value} {sb b at_ : Nat} {W : World} (h : R11 w o v sb b at_ W) : W.rangeAt b (at_ + 5) o.m.cs := fun j u hu => by
  have hj := (List.getElem?_eq_some_iff.1 hu).1
  have := h.rg (5 + j) u (by
    unfold OqN.cs
    rw [List.getElem?_append_right (by simp), List.getElem?_append_left (by simp; omega)]
    simpa using hu)
  rw [Nat.add_assoc]
  exact this
theorem fldS (ro so : Option Addr) (rn rc sn sc : Nat) (w : World) : (Instr.field 46 (.agg #[.slice ro rn rc, .slice so sn sc]) 1).run Try.prog w = .ok (.slice so sn sc) w := by kernel_rfl
set_option maxRecDepth 100000 in
set_option maxHeartbeats 6400000 in
theorem nobody_walk {w : World} (plain : Bool) {ao : Option Addr} {os : List OqN} {b off : Nat} (n cap : Nat) (hn : os.length = n) (h : OqsN w.heap.size w ao os b off) :
    Calls Try.prog 3 #[.bool plain, .slice ao n cap] w fun e w' => e = .returned (.bool true) ∧ Below w.heap.size w w' := by
  have HO := hide h
  have HLN := hide hn
  have hle := h.le
  rw [hn] at hle
  have HNW : Hid (∀ W, Calls Try.prog 4 #[.agg #[.int .i64 1, .int .i64 1, .int .u64 0, .int .u64 1, .int .u64 1, .int .u64 1, .int .u64 1, .int .u64 1, .int .u64 1, .int .u64 1], .int .i64 0] W fun e w' => ∃ p g, e = .returned (.tuple #[.pointer (some ⟨p, 0, none⟩), .nilIface]) ∧ Hid (PP w' p g cf1 0 0 0 ∧ Below W.heap.size W w' ∧ W.heap.size ≤ p)) := fun W => new0 cf1 cf1_in cf1_bad 0 cf1_node W
  have HEG : Hid (∀ W p g lim, PP W p g cf1 0 0 0 → lim ≤ p → Calls Try.prog 5 #[.pointer (some ⟨p, 0, none⟩), .agg #[.int .u64 1, .int .i64 0], .slice none 0 0] W fun e w' => ∃ ro rn rc so sc, e = .returned (.agg #[.slice ro rn rc, .slice so 3 sc]) ∧ Hid (Below lim W w')) := fun W p g lim hp hl => enterG hp cf1_ok rfl cf1_led hl
  have HST : Hid (∀ W v, Pn W v → Calls Try.prog 12 #[v] W fun e w' => e = .returned st0 ∧ Hid (Below W.heap.size W w')) := fun W v hp => stateN hp
  have HSS : Hid (∀ W, Calls Try.prog 11 #[st0, st0] W fun e w' => e = .returned (.bool true) ∧ Hid (Below W.heap.size W w')) := fun W => sameState0 W
  unfold st0 at HST HSS
  have HPL : Hid (∀ (W : World) (cs : Array Value) (t : TypeId), cs[0]? = some (.pointer none) → Pn (W.alloc (.cells cs t)) (.pointer (some ⟨W.heap.size, 0, none⟩))) := fun W cs t h0 => .inr ⟨_, rfl, (World.cell?_alloc_new W cs t 0).trans h0, by simp⟩
  clear h hn
  go_enter Try.func3, Try.ntmps3
  -- which proposer
  go_upto_region 2 with fail
  cases plain
  case false =>
    go_upto_region 4 with fail
    have HV0 : Hid (Below w.heap.size w w ∧ Pn w (.pointer none)) := ⟨Below.refl _ _, .inl rfl⟩
    have HV : Hid (Below w.heap.size w w ∧ Pn w (.pointer none)) := HV0
    go_wp2_with fail
    refine (HNW.out _).mono ?_
    rintro e w2 ⟨p, g, rfl, G2⟩
    go_wp2_with fail
    refine (HEG.out _ p g w.heap.size G2.out.1 G2.out.2.2).mono ?_
    rintro e w3 ⟨ro, rn, rc, so, sc, rfl, G3⟩
    have HV3 : Hid (Below w.heap.size w w3 ∧ Pn w3 (.pointer none)) := by
      have b3 := G2.out.2.1.trans G3.out
      exact ⟨HV.out.1.trans (b3.mono HV.out.1.size), HV.out.2.kept b3⟩
    clear HV HV0 G2 G3 HNW HEG HPL
    have hfd := fldS ro so rn rc 3 sc
    go_wp2
    clear hfd
    go_loopw [8, 9] (fun i _ wr => ∃ k : Nat, k ≤ n ∧ i = .int .i64 (k : Nat) ∧ Hid (Below w.heap.size w wr ∧ Pn wr (.pointer none))) (fun i _ _ => n - (intOf i).toNat)
    case atStart => exact ⟨0, by omega, rfl, HV3.out⟩
    case round =>
      obtain ⟨k, hk, rfl, HV⟩ := hrel
      clear HV3
      by_cases hlt : k < n
      · obtain ⟨o, ho⟩ : ∃ o, os[k]? = some o := ⟨_, List.getElem?_eq_getElem (by rw [HLN.out]; exact hlt)⟩
        have hpos : 0 < os.length := by rw [HLN.out]; omega
        obtain rfl := HO.out.ad hpos
        have hbl := HO.out.lt hpos
        have hok := HO.out.ok o (List.mem_of_getElem? ho)
        have hrg := HO.out.at_ k o ho
        have HR0 : Hid (∀ W, Below wr.heap.size wr W → W.rangeAt b (off + k * 58) o.cs ∧ o.Ok w.heap.size W ∧ Below w.heap.size w W ∧ Pn W (.pointer none)) := fun W hb => by
          have b1 := HV.out.1.trans (hb.mono HV.out.1.size)
          exact ⟨fun j u hu => (b1.cell (p := ⟨b, _, none⟩) hbl).trans (hrg j u hu), hok.below b1, b1, HV.out.2.kept hb⟩
        have HCS : Hid ((Try.prog.info? 61).map (·.size) = some o.cs.length) := by show _ = _; rw [OqN.len hok.hm.len]; kernel_rfl
        have HMS : Hid ((Try.prog.info? 59).map (·.size) = some o.m.cs.length) := by show _ = _; rw [hok.hm.len]; kernel_rfl
        have RG : Hid (wr.rangeAt b (off + k * 58) o.cs) := (HR0.out wr (Below.refl _ _)).1
        have HCA : Hid (Calls Try.prog 6 #[.pointer none, .agg o.cs.toArray] wr fun e w' => e = .returned (.agg #[.slice none 0 0, .slice none 0 0]) ∧ Hid (∀ W, w'.alloc (.cells #[.slice none 0 0, .slice none 0 0] 46) = W → R11 w o (.pointer none) w'.heap.size b (off + k * 58) W)) := by
          have h0 := HR0.out wr (Below.refl _ _)
          refine (callsN h0.2.2.2 o (h0.2.1.wide h0.2.2.1.size)).mono ?_
          rintro e w' ⟨rfl, G⟩
          refine ⟨rfl, fun W hW => ?_⟩
          have bW : Below w'.heap.size w' W := by rw [← hW]; exact below_alloc1 w' _
          have h1 := HR0.out W (G.out.trans (bW.mono G.out.size))
          exact ⟨h1.2.2.1, h1.2.2.2, by rw [← hW]; exact alloc_atK _ _, hbl, h1.1, h1.2.1⟩
        have HFI : Hid (∀ {sb : Nat} W, R11 w o (.pointer none) sb b (off + k * 58) W → Calls Try.prog 8 #[.agg o.cs.toArray] W fun e w' => ∃ qa qb qo qn qc, e = .returned (.agg #[.int .u64 qa, .int .u64 qb, .slice qo qn qc]) ∧ Hid (R11 w o (.pointer none) sb b (off + k * 58) w')) := fun W hr => (firstN o (hr.ok.wide hr.bel.size)).mono (fun _ _ ⟨a, b, c, d, e, h1, h2⟩ => ⟨a, b, c, d, e, h1, hr.next h2.out⟩)
        have HRQ : Hid (∀ {sb : Nat} W a b' co cn cc, R11 w o (.pointer none) sb b (off + k * 58) W → Calls Try.prog 7 #[.pointer none, .agg #[.int .u64 a, .int .u64 b', .slice co cn cc]] W fun e w' => e = .returned (.bool false) ∧ Hid (R11 w o (.pointer none) sb b (off + k * 58) w')) := fun W a b' co cn cc hr => (requestN hr.pn a b' co cn cc).mono (fun _ _ g => ⟨g.1, hr.next g.2.out⟩)
        have HLM : Hid (∀ {sb : Nat} W, R11 w o (.pointer none) sb b (off + k * 58) W → Calls Try.prog 10 #[.agg o.m.cs.toArray] W fun e w' => ∃ d : List Value, e = .returned (.agg d.toArray) ∧ Hid (R11 w o (.pointer none) sb b (off + k * 58) w')) := fun W hr => (lendMsgN o.m (hr.ok.hm.wide hr.bel.size)).mono (fun _ _ ⟨d, h1, h2⟩ => ⟨d, h1, hr.next h2.out.2.2⟩)
        have HPR : Hid (∀ {sb : Nat} W s (d : List Value), R11 w o (.pointer none) sb b (off + k * 58) W → Calls Try.prog 9 #[.pointer none, .int .u64 s, .agg d.toArray] W fun e w' => e = .returned (.bool false) ∧ Hid (R11 w o (.pointer none) sb b (off + k * 58) w')) := fun W s d hr => (promiseN hr.pn s).mono (fun _ _ g => ⟨g.1, hr.next g.2.out⟩)
        have hbw : b < wr.heap.size := Nat.lt_of_lt_of_le hbl HV.out.1.size
        have HFINR : Hid (∀ {sb : Nat} W, R11 w o (.pointer none) sb b (off + k * 58) W → Below w.heap.size w W ∧ Pn W (.pointer none)) := fun W hr => ⟨hr.bel, hr.pn⟩
        clear ho hpos hbl hok hrg HR0 HV
        go_upto_region 10 with fail
        iterate 13 go_step
        refine wpList_load_mid rfl 61 _ rfl b (off + k * 58) rfl o.cs _ RG.out Try.underlying61 rfl HCS.out ?_
        simp only [Act.put, List.setIfInBounds_toArray, List.set_cons_zero, List.set_cons_succ]
        go_wp2_with fail
        refine HCA.out.mono ?_
        rintro e w2 ⟨rfl, G2⟩
        go_upto_region 11 with fail
        obtain ⟨W3, hW3⟩ : ∃ W3, w2.alloc (.cells #[.slice none 0 0, .slice none 0 0] 46) = W3 := ⟨_, rfl⟩
        have HR3 := hide (G2.out W3 hW3)
        rw [hW3]
        clear hW3 G2 HCA RG
        generalize w2.heap.size = sb at *
        refine wp_region_held_drew (S := fun W => R11 w o (.pointer none) sb b (off + k * 58) W) (by kernel_rfl) (HR3.out.next ⟨rfl, rfl, rfl, Nat.le_refl _, fun _ _ => rfl⟩) (fun hH => ?_)
        refine wpAnyH_take (i := 0) (oi := { dst := some 44, op := Op.fieldAddr 46 (Operand.tmp 9) 0, type := 0, pos := "outright.go:431", after := #[], guard := none }) (v := .pointer (some ⟨sb, 0, none⟩)) rfl (by kernel_rfl) (by kernel_rfl) (by kernel_rfl) (fun _ _ _ h => h) (Or.inl ⟨by rfl, fun w' hSw => ?_⟩) hH ?_
        · go_simp
        simp only [Act.put, List.setIfInBounds_toArray, List.set_cons_zero, List.set_cons_succ]
        refine wpAnyH_take (i := 1) (oi := { dst := some 45, op := Op.load 43 (Operand.tmp 44), type := 43, pos := "outright.go:431", after := #[{ on := 0, ground := Ground.data }], guard := none }) (v := .slice none 0 0) rfl (by kernel_rfl) (by kernel_rfl) (by kernel_rfl) (fun _ _ _ h => h) (Or.inl ⟨by rfl, fun w' hSw => ?_⟩) hH ?_
        · have z := block_cell hSw.st 0
          simp at z
          go_simp
        simp only [Act.put, List.setIfInBounds_toArray, List.set_cons_zero, List.set_cons_succ]
        refine wpAnyH_take (i := 2) (oi := { dst := some 46, op := Op.call { callee := Callee.builtin Builtin.len, args := #[Operand.tmp 45], argTypes := #[43] }, type := 3, pos := "outright.go:431", after := #[{ on := 1, ground := Ground.data }], guard := none }) (v := .int .i64 0) rfl (by kernel_rfl) (by kernel_rfl) (by kernel_rfl) (fun _ _ _ h => h) (Or.inl ⟨by rfl, fun w' hSw => ?_⟩) hH ?_
        · go_simp
        simp only [Act.put, List.setIfInBounds_toArray, List.set_cons_zero, List.set_cons_succ]
        refine wpAnyH_take (i := 3) (oi := { dst := some 47, op := Op.binOp BinOp.gtr 3 (Operand.tmp 46) (Operand.const (Value.int IntKind.i64 0)) 3, type := 4, pos := "outright.go:431", after := #[{ on := 2, ground := Ground.data }], guard := none }) (v := .bool false) rfl (by kernel_rfl) (by kernel_rfl) (by kernel_rfl) (fun _ _ _ h => h) (Or.inl ⟨by rfl, fun w' hSw => ?_⟩) hH ?_
        · go_simp
        simp only [Act.put, List.setIfInBounds_toArray, List.set_cons_zero, List.set_cons_succ]
        refine wpAnyH_take (i := 4) (oi := { dst := some 48, op := Op.move (Operand.tmp 47), type := 4, pos := "outright.go:431", after := #[{ on := 3, ground := Ground.data }], guard := none }) (v := .bool false) rfl (by kernel_rfl) (by kernel_rfl) (by kernel_rfl) (fun _ _ _ h => h) (Or.inl ⟨by rfl, fun w' hSw => ?_⟩) hH ?_
        · go_simp
        simp only [Act.put, List.setIfInBounds_toArray, List.set_cons_zero, List.set_cons_succ]
        refine wpAnyH_take (i := 5) (oi := { dst := some 49, op := Op.fieldAddr 46 (Operand.tmp 9) 1, type := 0, pos := "outright.go:431", after := #[{ on := 4, ground := Ground.guard }], guard := some (4, false) }) (v := .pointer (some ⟨sb, 1, none⟩)) rfl (by kernel_rfl) (by kernel_rfl) (by kernel_rfl) (fun _ _ _ h => h) (Or.inl ⟨by rfl, fun w' hSw => ?_⟩) hH ?_
        · go_simp
        simp only [Act.put, List.setIfInBounds_toArray, List.set_cons_zero, List.set_cons_succ]
        refine wpAnyH_take (i := 6) (oi := { dst := some 50, op := Op.load 44 (Operand.tmp 49), type := 44, pos := "outright.go:431", after := #[{ on := 5, ground := Ground.data }, { on := 4, ground := Ground.guard }], guard := some (4, false) }) (v := .slice none 0 0) rfl (by kernel_rfl) (by kernel_rfl) (by kernel_rfl) (fun _ _ _ h => h) (Or.inl ⟨by rfl, fun w' hSw => ?_⟩) hH ?_
        · have z := block_cell hSw.st 1
          simp at z
          go_simp
        simp only [Act.put, List.setIfInBounds_toArray, List.set_cons_zero, List.set_cons_succ]
        refine wpAnyH_take (i := 7) (oi := { dst := some 51, op := Op.call { callee := Callee.builtin Builtin.len, args := #[Operand.tmp 50], argTypes := #[44] }, type := 3, pos := "outright.go:431", after := #[{ on := 6, ground := Ground.data }, { on := 4, ground := Ground.guard }], guard := some (4, false) }) (v := .int .i64 0) rfl (by kernel_rfl) (by kernel_rfl) (by kernel_rfl) (fun _ _ _ h => h) (Or.inl ⟨by rfl, fun w' hSw => ?_⟩) hH ?_
        · go_simp
        simp only [Act.put, List.setIfInBounds_toArray, List.set_cons_zero, List.set_cons_succ]
        refine wpAnyH_take (i := 8) (oi := { dst := some 52, op := Op.binOp BinOp.gtr 3 (Operand.tmp 51) (Operand.const (Value.int IntKind.i64 0)) 3, type := 4, pos := "outright.go:431", after := #[{ on := 7, ground := Ground.data }, { on := 4, ground := Ground.guard }], guard := some (4, false) }) (v := .bool false) rfl (by kernel_rfl) (by kernel_rfl) (by kernel_rfl) (fun _ _ _ h => h) (Or.inl ⟨by rfl, fun w' hSw => ?_⟩) hH ?_
        · go_simp
        simp only [Act.put, List.setIfInBounds_toArray, List.set_cons_zero, List.set_cons_succ]
        refine wpAnyH_take (i := 9) (oi := { dst := some 53, op := Op.pick (Operand.tmp 48) (Operand.const (Value.bool true)) (Operand.tmp 52), type := 4, pos := "outright.go:431", after := #[{ on := 4, ground := Ground.data }, { on := 8, ground := Ground.data }], guard := none }) (v := .bool false) rfl (by kernel_rfl) (by kernel_rfl) (by kernel_rfl) (fun _ _ _ h => h) (Or.inl ⟨by rfl, fun w' hSw => ?_⟩) hH ?_
        · go_simp
        simp only [Act.put, List.setIfInBounds_toArray, List.set_cons_zero, List.set_cons_succ]
        refine wpAnyH_take (i := 10) (oi := { dst := some 54, op := Op.move (Operand.tmp 53), type := 4, pos := "outright.go:431", after := #[{ on := 9, ground := Ground.data }, { on := 4, ground := Ground.chain }], guard := none }) (v := .bool false) rfl (by kernel_rfl) (by kernel_rfl) (by kernel_rfl) (fun _ _ _ h => h) (Or.inl ⟨by rfl, fun w' hSw => ?_⟩) hH ?_
        · go_simp
        simp only [Act.put, List.setIfInBounds_toArray, List.set_cons_zero, List.set_cons_succ]
        refine wpAnyH_take (i := 11) (oi := { dst := some 55, op := Op.move (Operand.tmp 5), type := 23, pos := "outright.go:431", after := #[{ on := 10, ground := Ground.guard }], guard := some (10, false) }) (v := .pointer none) rfl (by kernel_rfl) (by kernel_rfl) (by kernel_rfl) (fun _ _ _ h => h) (Or.inl ⟨by rfl, fun w' hSw => ?_⟩) hH ?_
        · go_simp
        simp only [Act.put, List.setIfInBounds_toArray, List.set_cons_zero, List.set_cons_succ]
        refine wpAnyH_take (i := 12) (oi := { dst := some 56, op := Op.move (Operand.tmp 1), type := 22, pos := "outright.go:431", after := #[{ on := 10, ground := Ground.guard }], guard := some (10, false) }) (v := .slice (some ⟨b, off, none⟩) n cap) rfl (by kernel_rfl) (by kernel_rfl) (by kernel_rfl) (fun _ _ _ h => h) (Or.inl ⟨by rfl, fun w' hSw => ?_⟩) hH ?_
        · go_simp
        simp only [Act.put, List.setIfInBounds_toArray, List.set_cons_zero, List.set_cons_succ]
        refine wpAnyH_take (i := 13) (oi := { dst := some 57, op := Op.move (Operand.tmp 8), type := 3, pos := "outright.go:431", after := #[{ on := 10, ground := Ground.guard }], guard := some (10, false) }) (v := .int .i64 (k : Int)) rfl (by kernel_rfl) (by kernel_rfl) (by kernel_rfl) (fun _ _ _ h => h) (Or.inl ⟨by rfl, fun w' hSw => ?_⟩) hH ?_
        · go_simp
        simp only [Act.put, List.setIfInBounds_toArray, List.set_cons_zero, List.set_cons_succ]
        refine wpAnyH_take (i := 14) (oi := { dst := some 58, op := Op.indexAddr 22 (Operand.tmp 56) (Operand.tmp 57), type := 0, pos := "outright.go:431", after := #[{ on := 12, ground := Ground.data }, { on := 13, ground := Ground.data }, { on := 10, ground := Ground.guard }], guard := some (10, false) }) (v := .pointer (some ⟨b, off + k * 58, none⟩)) rfl (by kernel_rfl) (by kernel_rfl) (by kernel_rfl) (fun _ _ _ h => h) (Or.inl ⟨by rfl, fun w' hSw => ?_⟩) hH ?_
        · go_simp
        simp only [Act.put, List.setIfInBounds_toArray, List.set_cons_zero, List.set_cons_succ]
        refine wpAnyH_take (i := 15) (oi := { dst := some 59, op := Op.load 61 (Operand.tmp 58), type := 61, pos := "outright.go:431", after := #[{ on := 14, ground := Ground.data }, { on := 10, ground := Ground.guard }], guard := some (10, false) }) (v := .agg o.cs.toArray) rfl (by kernel_rfl) (by kernel_rfl) (by kernel_rfl) (fun _ _ _ h => h) ?_ hH ?_
        · exact yieldsIf_load_mid (by rfl) 61 (.tmp 58) rfl b (off + k * 58) (by simp [Act.eval]) o.cs _ (fun _ h => h.rg) Try.underlying61 rfl HCS.out
        simp only [Act.put, List.setIfInBounds_toArray, List.set_cons_zero, List.set_cons_succ]
        refine wpAnyH_ready (rs := [16]) (by kernel_rfl) (by simp) ?_
        refine AllReadyH.cons rfl (fun K hK => ?_) AllReadyH.nil
        go_simp
        go_wp2_with fail
        refine (HFI.out _ hH).mono ?_
        rintro e w3 ⟨qa, qb, qo, qn, qc, rfl, G3⟩
        go_wp2_with fail
        refine hK.out _ _ G3.out (fun hG3 => ?_)
        clear hK K
        refine wpAnyH_ready (rs := [17]) (by kernel_rfl) (by simp) ?_
        refine AllReadyH.cons rfl (fun K hK => ?_) AllReadyH.nil
        go_simp
        go_wp2_with fail
        refine (HRQ.out _ qa qb qo qn qc hG3).mono ?_
        rintro e w4 ⟨rfl, G4⟩
        go_wp2_with fail
        refine hK.out _ _ G4.out (fun hG4 => ?_)
        clear hK K
        refine wpAnyH_take (i := 18) (oi := { dst := some 62, op := Op.pick (Operand.tmp 54) (Operand.const (Value.bool true)) (Operand.tmp 61), type := 4, pos := "outright.go:431", after := #[{ on := 10, ground := Ground.data }, { on := 17, ground := Ground.data }], guard := none }) (v := .bool false) rfl (by kernel_rfl) (by kernel_rfl) (by kernel_rfl) (fun _ _ _ h => h) (Or.inl ⟨by rfl, fun w' hSw => ?_⟩) hG4 ?_
        · go_simp
        simp only [Act.put, List.setIfInBounds_toArray, List.set_cons_zero, List.set_cons_succ]
        refine wpAnyH_take (i := 19) (oi := { dst := some 63, op := Op.move (Operand.tmp 62), type := 4, pos := "outright.go:431", after := #[{ on := 18, ground := Ground.data }, { on := 17, ground := Ground.chain }], guard := none }) (v := .bool false) rfl (by kernel_rfl) (by kernel_rfl) (by kernel_rfl) (fun _ _ _ h => h) (Or.inl ⟨by rfl, fun w' hSw => ?_⟩) hG4 ?_
        · go_simp
        simp only [Act.put, List.setIfInBounds_toArray, List.set_cons_zero, List.set_cons_succ]
        refine wpAnyH_take (i := 20) (oi := { dst := some 64, op := Op.move (Operand.tmp 5), type := 23, pos := "outright.go:431", after := #[{ on := 19, ground := Ground.guard }], guard := some (19, false) }) (v := .pointer none) rfl (by kernel_rfl) (by kernel_rfl) (by kernel_rfl) (fun _ _ _ h => h) (Or.inl ⟨by rfl, fun w' hSw => ?_⟩) hG4 ?_
        · go_simp
        simp only [Act.put, List.setIfInBounds_toArray, List.set_cons_zero, List.set_cons_succ]
        refine wpAnyH_take (i := 21) (oi := { dst := some 65, op := Op.move (Operand.tmp 1), type := 22, pos := "outright.go:431", after := #[{ on := 19, ground := Ground.guard }], guard := some (19, false) }) (v := .slice (some ⟨b, off, none⟩) n cap) rfl (by kernel_rfl) (by kernel_rfl) (by kernel_rfl) (fun _ _ _ h => h) (Or.inl ⟨by rfl, fun w' hSw => ?_⟩) hG4 ?_
        · go_simp
        simp only [Act.put, List.setIfInBounds_toArray, List.set_cons_zero, List.set_cons_succ]
        refine wpAnyH_take (i := 22) (oi := { dst := some 66, op := Op.move (Operand.tmp 8), type := 3, pos := "outright.go:431", after := #[{ on := 19, ground := Ground.guard }], guard := some (19, false) }) (v := .int .i64 (k : Int)) rfl (by kernel_rfl) (by kernel_rfl) (by kernel_rfl) (fun _ _ _ h => h) (Or.inl ⟨by rfl, fun w' hSw => ?_⟩) hG4 ?_
        · go_simp
        simp only [Act.put, List.setIfInBounds_toArray, List.set_cons_zero, List.set_cons_succ]
        refine wpAnyH_take (i := 23) (oi := { dst := some 67, op := Op.indexAddr 22 (Operand.tmp 65) (Operand.tmp 66), type := 0, pos := "outright.go:431", after := #[{ on := 21, ground := Ground.data }, { on := 22, ground := Ground.data }, { on := 19, ground := Ground.guard }], guard := some (19, false) }) (v := .pointer (some ⟨b, off + k * 58, none⟩)) rfl (by kernel_rfl) (by kernel_rfl) (by kernel_rfl) (fun _ _ _ h => h) (Or.inl ⟨by rfl, fun w' hSw => ?_⟩) hG4 ?_
        · go_simp
        simp only [Act.put, List.setIfInBounds_toArray, List.set_cons_zero, List.set_cons_succ]
        refine wpAnyH_take (i := 24) (oi := { dst := some 68, op := Op.fieldAddr 61 (Operand.tmp 67) 3, type := 0, pos := "outright.go:431", after := #[{ on := 23, ground := Ground.data }, { on := 19, ground := Ground.guard }], guard := some (19, false) }) (v := .pointer (some ⟨b, off + k * 58 + 4, none⟩)) rfl (by kernel_rfl) (by kernel_rfl) (by kernel_rfl) (fun _ _ _ h => h) (Or.inl ⟨by rfl, fun w' hSw => ?_⟩) hG4 ?_
        · go_simp
        simp only [Act.put, List.setIfInBounds_toArray, List.set_cons_zero, List.set_cons_succ]
        refine wpAnyH_take (i := 25) (oi := { dst := some 69, op := Op.load 49 (Operand.tmp 68), type := 49, pos := "outright.go:431", after := #[{ on := 24, ground := Ground.data }, { on := 19, ground := Ground.guard }], guard := some (19, false) }) (v := .int .u64 o.src) rfl (by kernel_rfl) (by kernel_rfl) (by kernel_rfl) (fun _ _ _ h => h) (Or.inl ⟨by rfl, fun w' hSw => ?_⟩) hG4 ?_
        · have z := hSw.rg 4 (.int .u64 o.src) rfl
          go_simp
        simp only [Act.put, List.setIfInBounds_toArray, List.set_cons_zero, List.set_cons_succ]
        refine wpAnyH_take (i := 26) (oi := { dst := some 70, op := Op.move (Operand.tmp 1), type := 22, pos := "outright.go:431", after := #[{ on := 19, ground := Ground.guard }], guard := some (19, false) }) (v := .slice (some ⟨b, off, none⟩) n cap) rfl (by kernel_rfl) (by kernel_rfl) (by kernel_rfl) (fun _ _ _ h => h) (Or.inl ⟨by rfl, fun w' hSw => ?_⟩) hG4 ?_
        · go_simp
        simp only [Act.put, List.setIfInBounds_toArray, List.set_cons_zero, List.set_cons_succ]
        refine wpAnyH_take (i := 27) (oi := { dst := some 71, op := Op.move (Operand.tmp 8), type := 3, pos := "outright.go:431", after := #[{ on := 19, ground := Ground.guard }], guard := some (19, false) }) (v := .int .i64 (k : Int)) rfl (by kernel_rfl) (by kernel_rfl) (by kernel_rfl) (fun _ _ _ h => h) (Or.inl ⟨by rfl, fun w' hSw => ?_⟩) hG4 ?_
        · go_simp
        simp only [Act.put, List.setIfInBounds_toArray, List.set_cons_zero, List.set_cons_succ]
        refine wpAnyH_take (i := 28) (oi := { dst := some 72, op := Op.indexAddr 22 (Operand.tmp 70) (Operand.tmp 71), type := 0, pos := "outright.go:431", after := #[{ on := 26, ground := Ground.data }, { on := 27, ground := Ground.data }, { on := 19, ground := Ground.guard }], guard := some (19, false) }) (v := .pointer (some ⟨b, off + k * 58, none⟩)) rfl (by kernel_rfl) (by kernel_rfl) (by kernel_rfl) (fun _ _ _ h => h) (Or.inl ⟨by rfl, fun w' hSw => ?_⟩) hG4 ?_
        · go_simp
        simp only [Act.put, List.setIfInBounds_toArray, List.set_cons_zero, List.set_cons_succ]
        refine wpAnyH_take (i := 29) (oi := { dst := some 73, op := Op.fieldAddr 61 (Operand.tmp 72) 4, type := 0, pos := "outright.go:431", after := #[{ on := 28, ground := Ground.data }, { on := 19, ground := Ground.guard }], guard := some (19, false) }) (v := .pointer (some ⟨b, off + k * 58 + 5, none⟩)) rfl (by kernel_rfl) (by kernel_rfl) (by kernel_rfl) (fun _ _ _ h => h) (Or.inl ⟨by rfl, fun w' hSw => ?_⟩) hG4 ?_
        · go_simp
        simp only [Act.put, List.setIfInBounds_toArray, List.set_cons_zero, List.set_cons_succ]
        refine wpAnyH_take (i := 30) (oi := { dst := some 74, op := Op.load 59 (Operand.tmp 73), type := 59, pos := "outright.go:431", after := #[{ on := 29, ground := Ground.data }, { on := 19, ground := Ground.guard }], guard := some (19, false) }) (v := .agg o.m.cs.toArray) rfl (by kernel_rfl) (by kernel_rfl) (by kernel_rfl) (fun _ _ _ h => h) ?_ hG4 ?_
        · exact yieldsIf_load_mid (by rfl) 59 (.tmp 73) rfl b (off + k * 58 + 5) (by simp [Act.eval]) o.m.cs _ (fun _ h => h.mid) Try.underlying59 rfl HMS.out
        simp only [Act.put, List.setIfInBounds_toArray, List.set_cons_zero, List.set_cons_succ]
        refine wpAnyH_ready (rs := [31]) (by kernel_rfl) (by simp) ?_
        refine AllReadyH.cons rfl (fun K hK => ?_) AllReadyH.nil
        go_simp
        go_wp2_with fail
        refine (HLM.out _ hG4).mono ?_
        rintro e w5 ⟨d, rfl, G5⟩
        go_wp2_with fail
        refine hK.out _ _ G5.out (fun hG5 => ?_)
        clear hK K
        refine wpAnyH_ready (rs := [32]) (by kernel_rfl) (by simp) ?_
        refine AllReadyH.cons rfl (fun K hK => ?_) AllReadyH.nil
        go_simp
        go_wp2_with fail
        refine (HPR.out _ o.src d hG5).mono ?_
        rintro e w6 ⟨rfl, G6⟩
        go_wp2_with fail
        refine hK.out _ _ G6.out (fun hG6 => ?_)
        clear hK K
        refine wpAnyH_take (i := 33) (oi := { dst := some 77, op := Op.pick (Operand.tmp 63) (Operand.const (Value.bool true)) (Operand.tmp 76), type := 4, pos := "outright.go:431", after := #[{ on := 19, ground := Ground.data }, { on := 32, ground := Ground.data }], guard := none }) (v := .bool false) rfl (by kernel_rfl) (by kernel_rfl) (by kernel_rfl) (fun _ _ _ h => h) (Or.inl ⟨by rfl, fun w' hSw => ?_⟩) hG6 ?_
        · go_simp
        simp only [Act.put, List.setIfInBounds_toArray, List.set_cons_zero, List.set_cons_succ]
        refine wpAnyH_done (by kernel_rfl) ?_ _
        have HF := hide (HFINR.out _ G6.out)
        clear HFI HRQ HLM HPR HFINR HR3 hH hG3 hG4 hG5 hG6 G3 G4 G5 G6
        go_wp2
        go_roundw
        case rel => exact ⟨k + 1, by omega, by go_num, HF.out⟩
        case measure => simp [intOf]; omega
      · obtain rfl : k = n := by omega
        go_wp2_with fail
        refine (HST.out _ _ HV.out.2).mono ?_
        rintro e w4 ⟨rfl, G4⟩
        go_wp2_with fail
        refine (HSS.out _).mono ?_
        rintro e w5 ⟨rfl, G5⟩
        have FIN : Hid (Below w.heap.size w w5) := by
          have b4 := HV.out.1.trans (G4.out.mono HV.out.1.size)
          exact b4.trans (G5.out.mono b4.size)
        clear HV G4 G5
        go_wp2
        go_ret
        exact ⟨rfl, FIN.out⟩
  case true =>
    go_upto_region 4 with fail
    generalize hW1 : World.alloc w _ = W1
    have HV0 : Hid (Below w.heap.size w W1 ∧ Pn W1 (.pointer (some ⟨w.heap.size, 0, none⟩))) := by
      rw [← hW1]
      exact ⟨below_alloc1 w _, HPL.out w _ _ rfl⟩
    clear hW1
    have HV : Hid (Below w.heap.size w W1 ∧ Pn W1 (.pointer (some ⟨w.heap.size, 0, none⟩))) := HV0
    go_wp2_with fail
    refine (HNW.out _).mono ?_
    rintro e w2 ⟨p, g, rfl, G2⟩
    go_wp2_with fail
    refine (HEG.out _ p g W1.heap.size G2.out.1 G2.out.2.2).mono ?_
    rintro e w3 ⟨ro, rn, rc, so, sc, rfl, G3⟩
    have HV3 : Hid (Below w.heap.size w w3 ∧ Pn w3 (.pointer (some ⟨w.heap.size, 0, none⟩))) := by
      have b3 := G2.out.2.1.trans G3.out
      exact ⟨HV.out.1.trans (b3.mono HV.out.1.size), HV.out.2.kept b3⟩
    clear HV HV0 G2 G3 HNW HEG HPL
    have hfd := fldS ro so rn rc 3 sc
    go_wp2
    clear hfd
    go_loopw [8, 9] (fun i _ wr => ∃ k : Nat, k ≤ n ∧ i = .int .i64 (k : Nat) ∧ Hid (Below w.heap.size w wr ∧ Pn wr (.pointer (some ⟨w.heap.size, 0, none⟩)))) (fun i _ _ => n - (intOf i).toNat)
    case atStart => exact ⟨0, by omega, rfl, HV3.out⟩
    case round =>
      obtain ⟨k, hk, rfl, HV⟩ := hrel
      clear HV3
      by_cases hlt : k < n
      · obtain ⟨o, ho⟩ : ∃ o, os[k]? = some o := ⟨_, List.getElem?_eq_getElem (by rw [HLN.out]; exact hlt)⟩
        have hpos : 0 < os.length := by rw [HLN.out]; omega
        obtain rfl := HO.out.ad hpos
        have hbl := HO.out.lt hpos
        have hok := HO.out.ok o (List.mem_of_getElem? ho)
        have hrg := HO.out.at_ k o ho
        have HR0 : Hid (∀ W, Below wr.heap.size wr W → W.rangeAt b (off + k * 58) o.cs ∧ o.Ok w.heap.size W ∧ Below w.heap.size w W ∧ Pn W (.pointer (some ⟨w.heap.size, 0, none⟩))) := fun W hb => by
          have b1 := HV.out.1.trans (hb.mono HV.out.1.size)
          exact ⟨fun j u hu => (b1.cell (p := ⟨b, _, none⟩) hbl).trans (hrg j u hu), hok.below b1, b1, HV.out.2.kept hb⟩
        have HCS : Hid ((Try.prog.info? 61).map (·.size) = some o.cs.length) := by show _ = _; rw [OqN.len hok.hm.len]; kernel_rfl
        have HMS : Hid ((Try.prog.info? 59).map (·.size) = some o.m.cs.length) := by show _ = _; rw [hok.hm.len]; kernel_rfl
        have RG : Hid (wr.rangeAt b (off + k * 58) o.cs) := (HR0.out wr (Below.refl _ _)).1
        have HCA : Hid (Calls Try.prog 6 #[.pointer (some ⟨w.heap.size, 0, none⟩), .agg o.cs.toArray] wr fun e w' => e = .returned (.agg #[.slice none 0 0, .slice none 0 0]) ∧ Hid (∀ W, w'.alloc (.cells #[.slice none 0 0, .slice none 0 0] 46) = W → R11 w o (.pointer (some ⟨w.heap.size, 0, none⟩)) w'.heap.size b (off + k * 58) W)) := by
          have h0 := HR0.out wr (Below.refl _ _)
          refine (callsN h0.2.2.2 o (h0.2.1.wide h0.2.2.1.size)).mono ?_
          rintro e w' ⟨rfl, G⟩
          refine ⟨rfl, fun W hW => ?_⟩
          have bW : Below w'.heap.size w' W := by rw [← hW]; exact below_alloc1 w' _
          have h1 := HR0.out W (G.out.trans (bW.mono G.out.size))
          exact ⟨h1.2.2.1, h1.2.2.2, by rw [← hW]; exact alloc_atK _ _, hbl, h1.1, h1.2.1⟩
        have HFI : Hid (∀ {sb : Nat} W, R11 w o (.pointer (some ⟨w.heap.size, 0, none⟩)) sb b (off + k * 58) W → Calls Try.prog 8 #[.agg o.cs.toArray] W fun e w' => ∃ qa qb qo qn qc, e = .returned (.agg #[.int .u64 qa, .int .u64 qb, .slice qo qn qc]) ∧ Hid (R11 w o (.pointer (some ⟨w.heap.size, 0, none⟩)) sb b (off + k * 58) w')) := fun W hr => (firstN o (hr.ok.wide hr.bel.size)).mono (fun _ _ ⟨a, b, c, d, e, h1, h2⟩ => ⟨a, b, c, d, e, h1, hr.next h2.out⟩)
        have HRQ : Hid (∀ {sb : Nat} W a b' co cn cc, R11 w o (.pointer (some ⟨w.heap.size, 0, none⟩)) sb b (off + k * 58) W → Calls Try.prog 7 #[.pointer (some ⟨w.heap.size, 0, none⟩), .agg #[.int .u64 a, .int .u64 b', .slice co cn cc]] W fun e w' => e = .returned (.bool false) ∧ Hid (R11 w o (.pointer (some ⟨w.heap.size, 0, none⟩)) sb b (off + k * 58) w')) := fun W a b' co cn cc hr => (requestN hr.pn a b' co cn cc).mono (fun _ _ g => ⟨g.1, hr.next g.2.out⟩)
        have HLM : Hid (∀ {sb : Nat} W, R11 w o (.pointer (some ⟨w.heap.size, 0, none⟩)) sb b (off + k * 58) W → Calls Try.prog 10 #[.agg o.m.cs.toArray] W fun e w' => ∃ d : List Value, e = .returned (.agg d.toArray) ∧ Hid (R11 w o (.pointer (some ⟨w.heap.size, 0, none⟩)) sb b (off + k * 58) w')) := fun W hr => (lendMsgN o.m (hr.ok.hm.wide hr.bel.size)).mono (fun _ _ ⟨d, h1, h2⟩ => ⟨d, h1, hr.next h2.out.2.2⟩)
        have HPR : Hid (∀ {sb : Nat} W s (d : List Value), R11 w o (.pointer (some ⟨w.heap.size, 0, none⟩)) sb b (off + k * 58) W → Calls Try.prog 9 #[.pointer (some ⟨w.heap.size, 0, none⟩), .int .u64 s, .agg d.toArray] W fun e w' => e = .returned (.bool false) ∧ Hid (R11 w o (.pointer (some ⟨w.heap.size, 0, none⟩)) sb b (off + k * 58) w')) := fun W s d hr => (promiseN hr.pn s).mono (fun _ _ g => ⟨g.1, hr.next g.2.out⟩)
        have hbw : b < wr.heap.size := Nat.lt_of_lt_of_le hbl HV.out.1.size
        have HFINR : Hid (∀ {sb : Nat} W, R11 w o (.pointer (some ⟨w.heap.size, 0, none⟩)) sb b (off + k * 58) W → Below w.heap.size w W ∧ Pn W (.pointer (some ⟨w.heap.size, 0, none⟩))) := fun W hr => ⟨hr.bel, hr.pn⟩
        clear ho hpos hbl hok hrg HR0 HV
        go_upto_region 10 with fail
        iterate 13 go_step
        refine wpList_load_mid rfl 61 _ rfl b (off + k * 58) rfl o.cs _ RG.out Try.underlying61 rfl HCS.out ?_
        simp only [Act.put, List.setIfInBounds_toArray, List.set_cons_zero, List.set_cons_succ]
        go_wp2_with fail
        refine HCA.out.mono ?_
        rintro e w2 ⟨rfl, G2⟩
        go_upto_region 11 with fail
        obtain ⟨W3, hW3⟩ : ∃ W3, w2.alloc (.cells #[.slice none 0 0, .slice none 0 0] 46) = W3 := ⟨_, rfl⟩
        have HR3 := hide (G2.out W3 hW3)
        rw [hW3]
        clear hW3 G2 HCA RG
        generalize w2.heap.size = sb at *
        refine wp_region_held_drew (S := fun W => R11 w o (.pointer (some ⟨w.heap.size, 0, none⟩)) sb b (off + k * 58) W) (by kernel_rfl) (HR3.out.next ⟨rfl, rfl, rfl, Nat.le_refl _, fun _ _ => rfl⟩) (fun hH => ?_)
        refine wpAnyH_take (i := 0) (oi := { dst := some 44, op := Op.fieldAddr 46 (Operand.tmp 9) 0, type := 0, pos := "outright.go:431", after := #[], guard := none }) (v := .pointer (some ⟨sb, 0, none⟩)) rfl (by kernel_rfl) (by kernel_rfl) (by kernel_rfl) (fun _ _ _ h => h) (Or.inl ⟨by rfl, fun w' hSw => ?_⟩) hH ?_
        · go_simp
        simp only [Act.put, List.setIfInBounds_toArray, List.set_cons_zero, List.set_cons_succ]
        refine wpAnyH_take (i := 1) (oi := { dst := some 45, op := Op.load 43 (Operand.tmp 44), type := 43, pos := "outright.go:431", after := #[{ on := 0, ground := Ground.data }], guard := none }) (v := .slice none 0 0) rfl (by kernel_rfl) (by kernel_rfl) (by kernel_rfl) (fun _ _ _ h => h) (Or.inl ⟨by rfl, fun w' hSw => ?_⟩) hH ?_
        · have z := block_cell hSw.st 0
          simp at z
          go_simp
        simp only [Act.put, List.setIfInBounds_toArray, List.set_cons_zero, List.set_cons_succ]
        refine wpAnyH_take (i := 2) (oi := { dst := some 46, op := Op.call { callee := Callee.builtin Builtin.len, args := #[Operand.tmp 45], argTypes := #[43] }, type := 3, pos := "outright.go:431", after := #[{ on := 1, ground := Ground.data }], guard := none }) (v := .int .i64 0) rfl (by kernel_rfl) (by kernel_rfl) (by kernel_rfl) (fun _ _ _ h => h) (Or.inl ⟨by rfl, fun w' hSw => ?_⟩) hH ?_
        · go_simp
        simp only [Act.put, List.setIfInBounds_toArray, List.set_cons_zero, List.set_cons_succ]
        refine wpAnyH_take (i := 3) (oi := { dst := some 47, op := Op.binOp BinOp.gtr 3 (Operand.tmp 46) (Operand.const (Value.int IntKind.i64 0)) 3, type := 4, pos := "outright.go:431", after := #[{ on := 2, ground := Ground.data }], guard := none }) (v := .bool false) rfl (by kernel_rfl) (by kernel_rfl) (by kernel_rfl) (fun _ _ _ h => h) (Or.inl ⟨by rfl, fun w' hSw => ?_⟩) hH ?_
        · go_simp
        simp only [Act.put, List.setIfInBounds_toArray, List.set_cons_zero, List.set_cons_succ]
        refine wpAnyH_take (i := 4) (oi := { dst := some 48, op := Op.move (Operand.tmp 47), type := 4, pos := "outright.go:431", after := #[{ on := 3, ground := Ground.data }], guard := none }) (v := .bool false) rfl (by kernel_rfl) (by kernel_rfl) (by kernel_rfl) (fun _ _ _ h => h) (Or.inl ⟨by rfl, fun w' hSw => ?_⟩) hH ?_
        · go_simp
        simp only [Act.put, List.setIfInBounds_toArray, List.set_cons_zero, List.set_cons_succ]
        refine wpAnyH_take (i := 5) (oi := { dst := some 49, op := Op.fieldAddr 46 (Operand.tmp 9) 1, type := 0, pos := "outright.go:431", after := #[{ on := 4, ground := Ground.guard }], guard := some (4, false) }) (v := .pointer (some ⟨sb, 1, none⟩)) rfl (by kernel_rfl) (by kernel_rfl) (by kernel_rfl) (fun _ _ _ h => h) (Or.inl ⟨by rfl, fun w' hSw => ?_⟩) hH ?_
        · go_simp
        simp only [Act.put, List.setIfInBounds_toArray, List.set_cons_zero, List.set_cons_succ]
        refine wpAnyH_take (i := 6) (oi := { dst := some 50, op := Op.load 44 (Operand.tmp 49), type := 44, pos := "outright.go:431", after := #[{ on := 5, ground := Ground.data }, { on := 4, ground := Ground.guard }], guard := some (4, false) }) (v := .slice none 0 0) rfl (by kernel_rfl) (by kernel_rfl) (by kernel_rfl) (fun _ _ _ h => h) (Or.inl ⟨by rfl, fun w' hSw => ?_⟩) hH ?_
        · have z := block_cell hSw.st 1
          simp at z
          go_simp
        simp only [Act.put, List.setIfInBounds_toArray, List.set_cons_zero, List.set_cons_succ]
        refine wpAnyH_take (i := 7) (oi := { dst := some 51, op := Op.call { callee := Callee.builtin Builtin.len, args := #[Operand.tmp 50], argTypes := #[44] }, type := 3, pos := "outright.go:431", after := #[{ on := 6, ground := Ground.data }, { on := 4, ground := Ground.guard }], guard := some (4, false) }) (v := .int .i64 0) rfl (by kernel_rfl) (by kernel_rfl) (by kernel_rfl) (fun _ _ _ h => h) (Or.inl ⟨by rfl, fun w' hSw => ?_⟩) hH ?_
        · go_simp
        simp only [Act.put, List.setIfInBounds_toArray, List.set_cons_zero, List.set_cons_succ]
        refine wpAnyH_take (i := 8) (oi := { dst := some 52, op := Op.binOp BinOp.gtr 3 (Operand.tmp 51) (Operand.const (Value.int IntKind.i64 0)) 3, type := 4, pos := "outright.go:431", after := #[{ on := 7, ground := Ground.data }, { on := 4, ground := Ground.guard }], guard := some (4, false) }) (v := .bool false) rfl (by kernel_rfl) (by kernel_rfl) (by kernel_rfl) (fun _ _ _ h => h) (Or.inl ⟨by rfl, fun w' hSw => ?_⟩) hH ?_
        · go_simp
        simp only [Act.put, List.setIfInBounds_toArray, List.set_cons_zero, List.set_cons_succ]
        refine wpAnyH_take (i := 9) (oi := { dst := some 53, op := Op.pick (Operand.tmp 48) (Operand.const (Value.bool true)) (Operand.tmp 52), type := 4, pos := "outright.go:431", after := #[{ on := 4, ground := Ground.data }, { on := 8, ground := Ground.data }], guard := none }) (v := .bool false) rfl (by kernel_rfl) (by kernel_rfl) (by kernel_rfl) (fun _ _ _ h => h) (Or.inl ⟨by rfl, fun w' hSw => ?_⟩) hH ?_
        · go_simp
        simp only [Act.put, List.setIfInBounds_toArray, List.set_cons_zero, List.set_cons_succ]
        refine wpAnyH_take (i := 10) (oi := { dst := some 54, op := Op.move (Operand.tmp 53), type := 4, pos := "outright.go:431", after := #[{ on := 9, ground := Ground.data }, { on := 4, ground := Ground.chain }], guard := none }) (v := .bool false) rfl (by kernel_rfl) (by kernel_rfl) (by kernel_rfl) (fun _ _ _ h => h) (Or.inl ⟨by rfl, fun w' hSw => ?_⟩) hH ?_
        · go_simp
        simp only [Act.put, List.setIfInBounds_toArray, List.set_cons_zero, List.set_cons_succ]
        refine wpAnyH_take (i := 11) (oi := { dst := some 55, op := Op.move (Operand.tmp 5), type := 23, pos := "outright.go:431", after := #[{ on := 10, ground := Ground.guard }], guard := some (10, false) }) (v := .pointer (some ⟨w.heap.size, 0, none⟩)) rfl (by kernel_rfl) (by kernel_rfl) (by kernel_rfl) (fun _ _ _ h => h) (Or.inl ⟨by rfl, fun w' hSw => ?_⟩) hH ?_
        · go_simp
        simp only [Act.put, List.setIfInBounds_toArray, List.set_cons_zero, List.set_cons_succ]
        refine wpAnyH_take (i := 12) (oi := { dst := some 56, op := Op.move (Operand.tmp 1), type := 22, pos := "outright.go:431", after := #[{ on := 10, ground := Ground.guard }], guard := some (10, false) }) (v := .slice (some ⟨b, off, none⟩) n cap) rfl (by kernel_rfl) (by kernel_rfl) (by kernel_rfl) (fun _ _ _ h => h) (Or.inl ⟨by rfl, fun w' hSw => ?_⟩) hH ?_
        · go_simp
        simp only [Act.put, List.setIfInBounds_toArray, List.set_cons_zero, List.set_cons_succ]
        refine wpAnyH_take (i := 13) (oi := { dst := some 57, op := Op.move (Operand.tmp 8), type := 3, pos := "outright.go:431", after := #[{ on := 10, ground := Ground.guard }], guard := some (10, false) }) (v := .int .i64 (k : Int)) rfl (by kernel_rfl) (by kernel_rfl) (by kernel_rfl) (fun _ _ _ h => h) (Or.inl ⟨by rfl, fun w' hSw => ?_⟩) hH ?_
        · go_simp
        simp only [Act.put, List.setIfInBounds_toArray, List.set_cons_zero, List.set_cons_succ]
        refine wpAnyH_take (i := 14) (oi := { dst := some 58, op := Op.indexAddr 22 (Operand.tmp 56) (Operand.tmp 57), type := 0, pos := "outright.go:431", after := #[{ on := 12, ground := Ground.data }, { on := 13, ground := Ground.data }, { on := 10, ground := Ground.guard }], guard := some (10, false) }) (v := .pointer (some ⟨b, off + k * 58, none⟩)) rfl (by kernel_rfl) (by kernel_rfl) (by kernel_rfl) (fun _ _ _ h => h) (Or.inl ⟨by rfl, fun w' hSw => ?_⟩) hH ?_
        · go_simp
        simp only [Act.put, List.setIfInBounds_toArray, List.set_cons_zero, List.set_cons_succ]
        refine wpAnyH_take (i := 15) (oi := { dst := some 59, op := Op.load 61 (Operand.tmp 58), type := 61, pos := "outright.go:431", after := #[{ on := 14, ground := Ground.data }, { on := 10, ground := Ground.guard }], guard := some (10, false) }) (v := .agg o.cs.toArray) rfl (by kernel_rfl) (by kernel_rfl) (by kernel_rfl) (fun _ _ _ h => h) ?_ hH ?_
        · exact yieldsIf_load_mid (by rfl) 61 (.tmp 58) rfl b (off + k * 58) (by simp [Act.eval]) o.cs _ (fun _ h => h.rg) Try.underlying61 rfl HCS.out
        simp only [Act.put, List.setIfInBounds_toArray, List.set_cons_zero, List.set_cons_succ]
        refine wpAnyH_ready (rs := [16]) (by kernel_rfl) (by simp) ?_
        refine AllReadyH.cons rfl (fun K hK => ?_) AllReadyH.nil
        go_simp
        go_wp2_with fail
        refine (HFI.out _ hH).mono ?_
        rintro e w3 ⟨qa, qb, qo, qn, qc, rfl, G3⟩
        go_wp2_with fail
        refine hK.out _ _ G3.out (fun hG3 => ?_)
        clear hK K
        refine wpAnyH_ready (rs := [17]) (by kernel_rfl) (by simp) ?_
        refine AllReadyH.cons rfl (fun K hK => ?_) AllReadyH.nil
        go_simp
        go_wp2_with fail
        refine (HRQ.out _ qa qb qo qn qc hG3).mono ?_
        rintro e w4 ⟨rfl, G4⟩
        go_wp2_with fail
        refine hK.out _ _ G4.out (fun hG4 => ?_)
        clear hK K
        refine wpAnyH_take (i := 18) (oi := { dst := some 62, op := Op.pick (Operand.tmp 54) (Operand.const (Value.bool true)) (Operand.tmp 61), type := 4, pos := "outright.go:431", after := #[{ on := 10, ground := Ground.data }, { on := 17, ground := Ground.data }], guard := none }) (v := .bool false) rfl (by kernel_rfl) (by kernel_rfl) (by kernel_rfl) (fun _ _ _ h => h) (Or.inl ⟨by rfl, fun w' hSw => ?_⟩) hG4 ?_
        · go_simp
        simp only [Act.put, List.setIfInBounds_toArray, List.set_cons_zero, List.set_cons_succ]
        refine wpAnyH_take (i := 19) (oi := { dst := some 63, op := Op.move (Operand.tmp 62), type := 4, pos := "outright.go:431", after := #[{ on := 18, ground := Ground.data }, { on := 17, ground := Ground.chain }], guard := none }) (v := .bool false) rfl (by kernel_rfl) (by kernel_rfl) (by kernel_rfl) (fun _ _ _ h => h) (Or.inl ⟨by rfl, fun w' hSw => ?_⟩) hG4 ?_
        · go_simp
        simp only [Act.put, List.setIfInBounds_toArray, List.set_cons_zero, List.set_cons_succ]
        refine wpAnyH_take (i := 20) (oi := { dst := some 64, op := Op.move (Operand.tmp 5), type := 23, pos := "outright.go:431", after := #[{ on := 19, ground := Ground.guard }], guard := some (19, false) }) (v := .pointer (some ⟨w.heap.size, 0, none⟩)) rfl (by kernel_rfl) (by kernel_rfl) (by kernel_rfl) (fun _ _ _ h => h) (Or.inl ⟨by rfl, fun w' hSw => ?_⟩) hG4 ?_
        · go_simp
        simp only [Act.put, List.setIfInBounds_toArray, List.set_cons_zero, List.set_cons_succ]
        refine wpAnyH_take (i := 21) (oi := { dst := some 65, op := Op.move (Operand.tmp 1), type := 22, pos := "outright.go:431", after := #[{ on := 19, ground := Ground.guard }], guard := some (19, false) }) (v := .slice (some ⟨b, off, none⟩) n cap) rfl (by kernel_rfl) (by kernel_rfl) (by kernel_rfl) (fun _ _ _ h => h) (Or.inl ⟨by rfl, fun w' hSw => ?_⟩) hG4 ?_
        · go_simp
        simp only [Act.put, List.setIfInBounds_toArray, List.set_cons_zero, List.set_cons_succ]
        refine wpAnyH_take (i := 22) (oi := { dst := some 66, op := Op.move (Operand.tmp 8), type := 3, pos := "outright.go:431", after := #[{ on := 19, ground := Ground.guard }], guard := some (19, false) }) (v := .int .i64 (k : Int)) rfl (by kernel_rfl) (by kernel_rfl) (by kernel_rfl) (fun _ _ _ h => h) (Or.inl ⟨by rfl, fun w' hSw => ?_⟩) hG4 ?_
        · go_simp
        simp only [Act.put, List.setIfInBounds_toArray, List.set_cons_zero, List.set_cons_succ]
        refine wpAnyH_take (i := 23) (oi := { dst := some 67, op := Op.indexAddr 22 (Operand.tmp 65) (Operand.tmp 66), type := 0, pos := "outright.go:431", after := #[{ on := 21, ground := Ground.data }, { on := 22, ground := Ground.data }, { on := 19, ground := Ground.guard }], guard := some (19, false) }) (v := .pointer (some ⟨b, off + k * 58, none⟩)) rfl (by kernel_rfl) (by kernel_rfl) (by kernel_rfl) (fun _ _ _ h => h) (Or.inl ⟨by rfl, fun w' hSw => ?_⟩) hG4 ?_
        · go_simp
        simp only [Act.put, List.setIfInBounds_toArray, List.set_cons_zero, List.set_cons_succ]
        refine wpAnyH_take (i := 24) (oi := { dst := some 68, op := Op.fieldAddr 61 (Operand.tmp 67) 3, type := 0, pos := "outright.go:431", after := #[{ on := 23, ground := Ground.data }, { on := 19, ground := Ground.guard }], guard := some (19, false) }) (v := .pointer (some ⟨b, off + k * 58 + 4, none⟩)) rfl (by kernel_rfl) (by kernel_rfl) (by kernel_rfl) (fun _ _ _ h => h) (Or.inl ⟨by rfl, fun w' hSw => ?_⟩) hG4 ?_
        · go_simp
        simp only [Act.put, List.setIfInBounds_toArray, List.set_cons_zero, List.set_cons_succ]
        refine wpAnyH_take (i := 25) (oi := { dst := some 69, op := Op.load 49 (Operand.tmp 68), type := 49, pos := "outright.go:431", after := #[{ on := 24, ground := Ground.data }, { on := 19, ground := Ground.guard }], guard := some (19, false) }) (v := .int .u64 o.src) rfl (by kernel_rfl) (by kernel_rfl) (by kernel_rfl) (fun _ _ _ h => h) (Or.inl ⟨by rfl, fun w' hSw => ?_⟩) hG4 ?_
        · have z := hSw.rg 4 (.int .u64 o.src) rfl
          go_simp
        simp only [Act.put, List.setIfInBounds_toArray, List.set_cons_zero, List.set_cons_succ]
        refine wpAnyH_take (i := 26) (oi := { dst := some 70, op := Op.move (Operand.tmp 1), type := 22, pos := "outright.go:431", after := #[{ on := 19, ground := Ground.guard }], guard := some (19, false) }) (v := .slice (some ⟨b, off, none⟩) n cap) rfl (by kernel_rfl) (by kernel_rfl) (by kernel_rfl) (fun _ _ _ h => h) (Or.inl ⟨by rfl, fun w' hSw => ?_⟩) hG4 ?_
        · go_simp
        simp only [Act.put, List.setIfInBounds_toArray, List.set_cons_zero, List.set_cons_succ]
        refine wpAnyH_take (i := 27) (oi := { dst := some 71, op := Op.move (Operand.tmp 8), type := 3, pos := "outright.go:431", after := #[{ on := 19, ground := Ground.guard }], guard := some (19, false) }) (v := .int .i64 (k : Int)) rfl (by kernel_rfl) (by kernel_rfl) (by kernel_rfl) (fun _ _ _ h => h) (Or.inl ⟨by rfl, fun w' hSw => ?_⟩) hG4 ?_
        · go_simp
        simp only [Act.put, List.setIfInBounds_toArray, List.set_cons_zero, List.set_cons_succ]
        refine wpAnyH_take (i := 28) (oi := { dst := some 72, op := Op.indexAddr 22 (Operand.tmp 70) (Operand.tmp 71), type := 0, pos := "outright.go:431", after := #[{ on := 26, ground := Ground.data }, { on := 27, ground := Ground.data }, { on := 19, ground := Ground.guard }], guard := some (19, false) }) (v := .pointer (some ⟨b, off + k * 58, none⟩)) rfl (by kernel_rfl) (by kernel_rfl) (by kernel_rfl) (fun _ _ _ h => h) (Or.inl ⟨by rfl, fun w' hSw => ?_⟩) hG4 ?_
        · go_simp
        simp only [Act.put, List.setIfInBounds_toArray, List.set_cons_zero, List.set_cons_succ]
        refine wpAnyH_take (i := 29) (oi := { dst := some 73, op := Op.fieldAddr 61 (Operand.tmp 72) 4, type := 0, pos := "outright.go:431", after := #[{ on := 28, ground := Ground.data }, { on := 19, ground := Ground.guard }], guard := some (19, false) }) (v := .pointer (some ⟨b, off + k * 58 + 5, none⟩)) rfl (by kernel_rfl) (by kernel_rfl) (by kernel_rfl) (fun _ _ _ h => h) (Or.inl ⟨by rfl, fun w' hSw => ?_⟩) hG4 ?_
        · go_simp
        simp only [Act.put, List.setIfInBounds_toArray, List.set_cons_zero, List.set_cons_succ]
        refine wpAnyH_take (i := 30) (oi := { dst := some 74, op := Op.load 59 (Operand.tmp 73), type := 59, pos := "outright.go:431", after := #[{ on := 29, ground := Ground.data }, { on := 19, ground := Ground.guard }], guard := some (19, false) }) (v := .agg o.m.cs.toArray) rfl (by kernel_rfl) (by kernel_rfl) (by kernel_rfl) (fun _ _ _ h => h) ?_ hG4 ?_
        · exact yieldsIf_load_mid (by rfl) 59 (.tmp 73) rfl b (off + k * 58 + 5) (by simp [Act.eval]) o.m.cs _ (fun _ h => h.mid) Try.underlying59 rfl HMS.out
        simp only [Act.put, List.setIfInBounds_toArray, List.set_cons_zero, List.set_cons_succ]
        refine wpAnyH_ready (rs := [31]) (by kernel_rfl) (by simp) ?_
        refine AllReadyH.cons rfl (fun K hK => ?_) AllReadyH.nil
        go_simp
        go_wp2_with fail
        refine (HLM.out _ hG4).mono ?_
        rintro e w5 ⟨d, rfl, G5⟩
        go_wp2_with fail
        refine hK.out _ _ G5.out (fun hG5 => ?_)
        clear hK K
        refine wpAnyH_ready (rs := [32]) (by kernel_rfl) (by simp) ?_
        refine AllReadyH.cons rfl (fun K hK => ?_) AllReadyH.nil
        go_simp
        go_wp2_with fail
        refine (HPR.out _ o.src d hG5).mono ?_
        rintro e w6 ⟨rfl, G6⟩
        go_wp2_with fail
        refine hK.out _ _ G6.out (fun hG6 => ?_)
        clear hK K
        refine wpAnyH_take (i := 33) (oi := { dst := some 77, op := Op.pick (Operand.tmp 63) (Operand.const (Value.bool true)) (Operand.tmp 76), type := 4, pos := "outright.go:431", after := #[{ on := 19, ground := Ground.data }, { on := 32, ground := Ground.data }], guard := none }) (v := .bool false) rfl (by kernel_rfl) (by kernel_rfl) (by kernel_rfl) (fun _ _ _ h => h) (Or.inl ⟨by rfl, fun w' hSw => ?_⟩) hG6 ?_
        · go_simp
        simp only [Act.put, List.setIfInBounds_toArray, List.set_cons_zero, List.set_cons_succ]
        refine wpAnyH_done (by kernel_rfl) ?_ _
        have HF := hide (HFINR.out _ G6.out)
        clear HFI HRQ HLM HPR HFINR HR3 hH hG3 hG4 hG5 hG6 G3 G4 G5 G6
        go_wp2
        go_roundw
        case rel => exact ⟨k + 1, by omega, by go_num, HF.out⟩
        case measure => simp [intOf]; omega
      · obtain rfl : k = n := by omega
        go_wp2_with fail
        refine (HST.out _ _ HV.out.2).mono ?_
        rintro e w4 ⟨rfl, G4⟩
        go_wp2_with fail
        refine (HSS.out _).mono ?_
        rintro e w5 ⟨rfl, G5⟩
        have FIN : Hid (Below w.heap.size w w5) := by
          have b4 := HV.out.1.trans (G4.out.mono HV.out.1.size)
          exact b4.trans (G5.out.mono b4.size)
        clear HV G4 G5
        go_wp2
        go_ret
        exact ⟨rfl, FIN.out⟩
end Go.Proofs.Ytneginefcloceaa
