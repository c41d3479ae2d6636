import Derived.Test.YtcagbggnlfeadaaGreatDoorWnC
import Derived.Test.YtcagbggnlfeadaaGreatDoorWLd
import Derived.Test.YtcagbggnlfeadaaGreatDoorWnG
import Derived.Deep.RegionHeld
import Derived.OrdersHeld
namespace Go.Proofs.YtcagbggnlfeadaaGreatDoor
open Go.RowKit Crc

/-- A step of a script as it lies. -/
structure Ow where
  (kind file num : Int) (da : Option Addr) (dn dc : Nat) (D : List Nat) (ta : Option Addr) (tn tc : Nat) (ba : Option Addr) (bn bc : Nat) (Ls : List (List Nat))
def Ow.cs (o : Ow) : Array Value := #[.int .i64 o.kind, .int .u64 o.file, .int .i64 o.num, .slice o.da o.dn o.dc, .slice o.ta o.tn o.tc, .slice o.ba o.bn o.bc]
structure Ow.Ok (o : Ow) (lim : Nat) (w : World) : Prop where
  hD : Shows lim w o.da o.dn o.dc o.D
  hL : ShowsL lim w o.ba o.bn o.bc o.Ls
  hn : o.bn ≤ 5864062014805
theorem Ow.Ok.below {o : Ow} {lim k : Nat} {w w' : World} (h : o.Ok lim w) (hb : Below k w w') (hk : lim ≤ k) : o.Ok lim w' := ⟨h.hD.belowN hb hk, h.hL.below hb hk, h.hn⟩
/-- A script as it lies. -/
structure Ows (lim : Nat) (w : World) (ao : Option Addr) (os : List Ow) (b off : Nat) : Prop where
  ad : 0 < os.length → ao = some ⟨b, off, none⟩
  lt : 0 < os.length → b < lim
  at_ : ∀ (i : Nat) (o : Ow), os[i]? = some o → ∀ j u, o.cs[j]? = some u → w.cell? ⟨b, off + i * 6 + j, none⟩ = some u
  le : os.length ≤ 140737488355328
  ok : ∀ o ∈ os, o.Ok lim w
/-- The world within a round. -/
structure Rn (w : World) (o : Ow) (dv lv : Value) (sb : Nat) (W : World) : Prop where
  bel : Below w.heap.size w W
  dn : Dn W dv
  gn : Gn W lv
  op : W.heap[sb]? = some (.cells o.cs 40 (0, 0))
  ok : o.Ok w.heap.size W
theorem Rn.next {w : World} {o : Ow} {dv lv : Value} {sb : Nat} {W W' : World} (h : Rn w o dv lv sb W) (hb : Below W.heap.size W W') : Rn w o dv lv sb W' :=
  ⟨h.bel.trans (hb.mono h.bel.size), h.dn.kept hb, h.gn.kept hb, (hb.block _ (block_lt h.op)).trans h.op, h.ok.below hb h.bel.size⟩
set_option maxRecDepth 100000 in
set_option maxHeartbeats 6400000 in
theorem nobody_walk {w : World} (plain : Bool) {ao : Option Addr} {os : List Ow} {b off : Nat} (n cap : Nat) (hn : os.length = n) (h : Ows w.heap.size w ao os b off) (h0 : 0 < w.heap.size) (hT : Table w) :
    Calls Tryz.prog 3 #[.bool plain, .slice ao n cap] w fun e w' => e = .returned (.bool true) ∧ Below w.heap.size w w' := by
  have HO := hide h
  have HLN := hide hn
  have hle := h.le
  rw [hn] at hle
  have HT := hide hT
  have HND : Hid (∀ W, Calls Tryz.prog 5 #[] W fun e w' => ∃ p m, e = .returned (.pointer (some ⟨p, 0, none⟩)) ∧ Hid (FD W.heap.size w' p m 0 (.pointer none) false ∧ Below W.heap.size W w')) := fun W => newDisk0 W
  have HIM : Hid (∀ W v, Dn W v → Calls Tryz.prog 23 #[v] W fun e w' => e = .returned (.agg #[.slice none 0 0, .int .i64 0]) ∧ Hid (Below W.heap.size W w')) := fun W v hp => imageD hp
  have HSI : Hid (∀ W, Calls Tryz.prog 22 #[.agg #[.slice none 0 0, .int .i64 0], .agg #[.slice none 0 0, .int .i64 0]] W fun e w' => e = .returned (.bool true) ∧ Hid (Below W.heap.size W w')) := fun W => sameImage0 W
  clear h hn hT
  go_enter Tryz.func3, Tryz.ntmps3
  go_upto_region 3 with fail
  cases plain
  case false =>
    go_upto_region 6 with fail
    have HV : Hid (Below w.heap.size w w ∧ Dn w (.pointer none) ∧ Gn w (.pointer none)) := ⟨Below.refl _ _, .inl rfl, .inl rfl⟩
    have HOP : Hid (∀ W p m, Below w.heap.size w W → FD w.heap.size W p m 0 (.pointer none) false → Calls Tryz.prog 4 #[.pointer (some ⟨p, 0, none⟩)] W fun e w' => ∃ q, e = .returned (.tuple #[.pointer (some q), .slice none 0 0, .nilIface]) ∧ Hid (Below w.heap.size w w' ∧ Dn w' (.pointer none) ∧ Gn w' (.pointer none))) := fun W p m hb hf => by
      have b1 := HV.out.1.trans (hb.mono HV.out.1.size)
      refine (openF hf hb.size (by have := HV.out.1.size; omega) (HT.out.below b1 h0)).mono ?_
      rintro e w' ⟨q, rfl, G⟩
      have b2 := hb.trans G.out
      exact ⟨q, rfl, HV.out.1.trans (b2.mono HV.out.1.size), HV.out.2.1.kept b2, HV.out.2.2.kept b2⟩
    clear HT
    go_wp2_with fail
    refine (HND.out _).mono ?_
    rintro e w2 ⟨p, m, rfl, G2⟩
    go_wp2_with fail
    refine (HOP.out _ p m G2.out.2 G2.out.1).mono ?_
    rintro e w3 ⟨q, rfl, G3⟩
    clear HOP HND G2 HV
    go_wp2
    go_loopw [10] (fun i wr => ∃ k : Nat, k ≤ n ∧ i = .int .i64 (k : Nat) ∧ Hid (Below w.heap.size w wr ∧ Dn wr (.pointer none) ∧ Gn wr (.pointer none))) (fun i _ => n - (intOf i).toNat)
    case atStart => exact ⟨0, by omega, rfl, G3.out⟩
    case round =>
      obtain ⟨k, hk, rfl, HV⟩ := hrel
      clear G3
      by_cases hlt : k < n
      · obtain ⟨o, ho⟩ : ∃ o, os[k]? = some o := ⟨_, List.getElem?_eq_getElem (by rw [HLN.out]; exact hlt)⟩
        have hpos : 0 < os.length := by rw [HLN.out]; omega
        obtain rfl := HO.out.ad hpos
        have hbl := HO.out.lt hpos
        have hok := HO.out.ok o (List.mem_of_getElem? ho)
        have hat := HO.out.at_ k o ho
        have hbw : b < wr.heap.size := Nat.lt_of_lt_of_le hbl HV.out.1.size
        have hc : ∀ j u, o.cs[j]? = some u → wr.cell? ⟨b, off + k * 6 + j, none⟩ = some u := fun j u hu => (HV.out.1.cell (p := ⟨b, _, none⟩) hbl).trans (hat j u hu)
        have HR0 : Hid (∀ W, wr.alloc (.cells o.cs 40) = W → Rn w o (.pointer none) (.pointer none) wr.heap.size W) := fun W hW => by
          have b1 : Below wr.heap.size wr W := by rw [← hW]; exact below_alloc1 wr _
          have b2 := HV.out.1.trans (b1.mono HV.out.1.size)
          exact ⟨b2, HV.out.2.1.kept b1, HV.out.2.2.kept b1, by rw [← hW]; exact alloc_atK _ _, hok.below b2 (Nat.le_refl _)⟩
        have c0 := hc 0 (.int .i64 o.kind) rfl
        rw [Nat.add_zero] at c0
        have c1 := hc 1 (.int .u64 o.file) rfl
        have c2 := hc 2 (.int .i64 o.num) rfl
        have c3 := hc 3 (.slice o.da o.dn o.dc) rfl
        have c4 := hc 4 (.slice o.ta o.tn o.tc) rfl
        have c5 := hc 5 (.slice o.ba o.bn o.bc) rfl
        clear ho hpos hbl hok hat hc
        unfold Ow.cs at HR0
        go_upto_region 13 with fail
        obtain ⟨W3, hW3⟩ : ∃ W3, wr.alloc (.cells #[.int .i64 o.kind, .int .u64 o.file, .int .i64 o.num, .slice o.da o.dn o.dc, .slice o.ta o.tn o.tc, .slice o.ba o.bn o.bc] 40) = W3 := ⟨_, rfl⟩
        have HR3 := hide (HR0.out W3 hW3)
        rw [hW3]
        clear hW3 HR0 c0 c1 c2 c3 c4 c5 hbw
        generalize wr.heap.size = sb at *
        clear HV
        have HCR : Hid (∀ W, Rn w o (.pointer none) (.pointer none) sb W → Calls Tryz.prog 8 #[.pointer none, .int .u64 o.file] W fun e w' => e = .returned (.int .i64 3) ∧ Hid (Rn w o (.pointer none) (.pointer none) sb w')) := fun W hr => (createD hr.dn _).mono (fun _ _ g => ⟨g.1, by rw [g.2]; exact hr⟩)
        have HLE : Hid (∀ W, Rn w o (.pointer none) (.pointer none) sb W → Calls Tryz.prog 10 #[.slice o.da o.dn o.dc] W fun e w' => ∃ g, e = .returned (.slice (some ⟨g, 0, none⟩) o.dn (o.dn + 3)) ∧ Hid (Rn w o (.pointer none) (.pointer none) sb w')) := fun W hr => (lendN hr.ok.hD hr.bel.size).mono (fun _ _ ⟨g, h1, h2⟩ => ⟨g, h1, hr.next h2.out⟩)
        have HAP : Hid (∀ W g, Rn w o (.pointer none) (.pointer none) sb W → Calls Tryz.prog 9 #[.pointer none, .int .u64 o.file, .slice (some ⟨g, 0, none⟩) o.dn (o.dn + 3)] W fun e w' => e = .returned (.int .i64 3) ∧ Hid (Rn w o (.pointer none) (.pointer none) sb w')) := fun W g hr => (appendD hr.dn _ _ _ _).mono (fun _ _ g => ⟨g.1, by rw [g.2]; exact hr⟩)
        have HSY : Hid (∀ W, Rn w o (.pointer none) (.pointer none) sb W → Calls Tryz.prog 11 #[.pointer none, .int .u64 o.file] W fun e w' => e = .returned (.int .i64 3) ∧ Hid (Rn w o (.pointer none) (.pointer none) sb w')) := fun W hr => (syncD hr.dn _).mono (fun _ _ g => ⟨g.1, by rw [g.2]; exact hr⟩)
        have HCT : Hid (∀ W, Rn w o (.pointer none) (.pointer none) sb W → Calls Tryz.prog 12 #[.pointer none, .int .u64 o.file, .int .i64 o.num] W fun e w' => e = .returned (.int .i64 3) ∧ Hid (Rn w o (.pointer none) (.pointer none) sb w')) := fun W hr => (cutD hr.dn _ _).mono (fun _ _ g => ⟨g.1, by rw [g.2]; exact hr⟩)
        have HRM : Hid (∀ W, Rn w o (.pointer none) (.pointer none) sb W → Calls Tryz.prog 13 #[.pointer none, .int .u64 o.file] W fun e w' => e = .returned (.int .i64 3) ∧ Hid (Rn w o (.pointer none) (.pointer none) sb w')) := fun W hr => (removeD hr.dn _).mono (fun _ _ g => ⟨g.1, by rw [g.2]; exact hr⟩)
        have HNO : Hid (∀ W f, Nf W f → Rn w o (.pointer none) (.pointer none) sb W → Calls Tryz.prog 16 #[f] W fun e w' => e = .returned (.bool true) ∧ Hid (Rn w o (.pointer none) (.pointer none) sb w')) := fun W f hf hr => (noneN hf).mono (fun _ _ g => ⟨g.1, hr.next g.2.out⟩)
        have z1 := block_cell HR3.out.op 1
        have z2 := block_cell HR3.out.op 2
        have z4 := block_cell HR3.out.op 4
        have zl := block_lt HR3.out.op
        simp [Ow.cs] at z1 z2 z4
        go_wp2_with fail
        refine (fuseD HR3.out.dn _).mono ?_
        rintro e w4 ⟨rfl, hw⟩
        rw [hw]
        clear hw
        go_wp2_with fail
        refine (crashD HR3.out.dn _).mono ?_
        rintro e w5 ⟨rfl, hw⟩
        rw [hw]
        clear hw
        go_upto_region 15 with fail
        refine wp_region_held_drew (S := fun W => Rn w o (.pointer none) (.pointer none) sb W) (by kernel_rfl) (HR3.out.next ⟨rfl, rfl, rfl, Nat.le_refl _, fun _ _ => rfl⟩) (fun hH => ?_)
        clear z1 z2 z4 zl
        refine wpAnyH_take (i := 0) (oi := { dst := some 54, op := Op.move (Operand.tmp 5), type := 23, pos := "outright.go:358", after := #[], guard := none }) (v := .pointer none) rfl (by kernel_rfl) (by kernel_rfl) (by kernel_rfl) (fun _ _ _ h => h) (Or.inl ⟨by rfl, fun w' hSw => ?_⟩) hH ?_
        · go_simp
        simp only [Act.put, List.setIfInBounds_toArray, List.set_cons_zero, List.set_cons_succ]
        refine wpAnyH_take (i := 1) (oi := { dst := some 55, op := Op.fieldAddr 40 (Operand.tmp 11) 1, type := 0, pos := "outright.go:358", after := #[], guard := none }) (v := .pointer (some ⟨sb, 1, none⟩)) rfl (by kernel_rfl) (by kernel_rfl) (by kernel_rfl) (fun _ _ _ h => h) (Or.inl ⟨by rfl, fun w' hSw => ?_⟩) hH ?_
        · go_simp
        simp only [Act.put, List.setIfInBounds_toArray, List.set_cons_zero, List.set_cons_succ]
        refine wpAnyH_take (i := 2) (oi := { dst := some 56, op := Op.load 28 (Operand.tmp 55), type := 28, pos := "outright.go:358", after := #[{ on := 1, ground := Ground.data }], guard := none }) (v := .int .u64 o.file) rfl (by kernel_rfl) (by kernel_rfl) (by kernel_rfl) (fun _ _ _ h => h) (Or.inl ⟨by rfl, fun w' hSw => ?_⟩) hH ?_
        · have z := block_cell hSw.op 1
          simp [Ow.cs] at z
          go_simp
        simp only [Act.put, List.setIfInBounds_toArray, List.set_cons_zero, List.set_cons_succ]
        refine wpAnyH_ready (rs := [3]) (by kernel_rfl) (by simp) ?_
        refine AllReadyH.cons rfl (fun K hK => ?_) AllReadyH.nil
        go_simp
        go_wp2_with fail
        refine (HCR.out _ hH).mono ?_
        rintro e w3 ⟨rfl, G3⟩
        go_wp2_with fail
        refine hK.out _ _ G3.out (fun hG3 => ?_)
        clear hK K
        refine wpAnyH_take (i := 4) (oi := { dst := some 58, op := Op.binOp BinOp.neq 43 (Operand.tmp 57) (Operand.const (Value.int IntKind.i64 3)) 43, type := 4, pos := "outright.go:358", after := #[{ on := 3, ground := Ground.data }], guard := none }) (v := .bool false) rfl (by kernel_rfl) (by kernel_rfl) (by kernel_rfl) (fun _ _ _ h => h) (Or.inl ⟨by rfl, fun w' hSw => ?_⟩) hG3 ?_
        · go_simp
        simp only [Act.put, List.setIfInBounds_toArray, List.set_cons_zero, List.set_cons_succ]
        refine wpAnyH_take (i := 5) (oi := { dst := some 59, op := Op.move (Operand.tmp 58), type := 4, pos := "outright.go:358", after := #[{ on := 4, ground := Ground.data }, { on := 3, ground := Ground.chain }], guard := none }) (v := .bool false) rfl (by kernel_rfl) (by kernel_rfl) (by kernel_rfl) (fun _ _ _ h => h) (Or.inl ⟨by rfl, fun w' hSw => ?_⟩) hG3 ?_
        · go_simp
        simp only [Act.put, List.setIfInBounds_toArray, List.set_cons_zero, List.set_cons_succ]
        refine wpAnyH_take (i := 6) (oi := { dst := some 60, op := Op.move (Operand.tmp 5), type := 23, pos := "outright.go:358", after := #[{ on := 5, ground := Ground.guard }], guard := some (5, false) }) (v := .pointer none) rfl (by kernel_rfl) (by kernel_rfl) (by kernel_rfl) (fun _ _ _ h => h) (Or.inl ⟨by rfl, fun w' hSw => ?_⟩) hG3 ?_
        · go_simp
        simp only [Act.put, List.setIfInBounds_toArray, List.set_cons_zero, List.set_cons_succ]
        refine wpAnyH_take (i := 7) (oi := { dst := some 61, op := Op.fieldAddr 40 (Operand.tmp 11) 1, type := 0, pos := "outright.go:358", after := #[{ on := 5, ground := Ground.guard }], guard := some (5, false) }) (v := .pointer (some ⟨sb, 1, none⟩)) rfl (by kernel_rfl) (by kernel_rfl) (by kernel_rfl) (fun _ _ _ h => h) (Or.inl ⟨by rfl, fun w' hSw => ?_⟩) hG3 ?_
        · go_simp
        simp only [Act.put, List.setIfInBounds_toArray, List.set_cons_zero, List.set_cons_succ]
        refine wpAnyH_take (i := 8) (oi := { dst := some 62, op := Op.load 28 (Operand.tmp 61), type := 28, pos := "outright.go:358", after := #[{ on := 7, ground := Ground.data }, { on := 5, ground := Ground.guard }], guard := some (5, false) }) (v := .int .u64 o.file) rfl (by kernel_rfl) (by kernel_rfl) (by kernel_rfl) (fun _ _ _ h => h) (Or.inl ⟨by rfl, fun w' hSw => ?_⟩) hG3 ?_
        · have z := block_cell hSw.op 1
          simp [Ow.cs] at z
          go_simp
        simp only [Act.put, List.setIfInBounds_toArray, List.set_cons_zero, List.set_cons_succ]
        refine wpAnyH_take (i := 9) (oi := { dst := some 63, op := Op.fieldAddr 40 (Operand.tmp 11) 3, type := 0, pos := "outright.go:358", after := #[{ on := 5, ground := Ground.guard }], guard := some (5, false) }) (v := .pointer (some ⟨sb, 3, none⟩)) rfl (by kernel_rfl) (by kernel_rfl) (by kernel_rfl) (fun _ _ _ h => h) (Or.inl ⟨by rfl, fun w' hSw => ?_⟩) hG3 ?_
        · go_simp
        simp only [Act.put, List.setIfInBounds_toArray, List.set_cons_zero, List.set_cons_succ]
        refine wpAnyH_take (i := 10) (oi := { dst := some 64, op := Op.load 37 (Operand.tmp 63), type := 37, pos := "outright.go:358", after := #[{ on := 9, ground := Ground.data }, { on := 5, ground := Ground.guard }], guard := some (5, false) }) (v := .slice o.da o.dn o.dc) rfl (by kernel_rfl) (by kernel_rfl) (by kernel_rfl) (fun _ _ _ h => h) (Or.inl ⟨by rfl, fun w' hSw => ?_⟩) hG3 ?_
        · have z := block_cell hSw.op 3
          simp [Ow.cs] at z
          go_simp
        simp only [Act.put, List.setIfInBounds_toArray, List.set_cons_zero, List.set_cons_succ]
        refine wpAnyH_ready (rs := [11]) (by kernel_rfl) (by simp) ?_
        refine AllReadyH.cons rfl (fun K hK => ?_) AllReadyH.nil
        go_simp
        go_wp2_with fail
        refine (HLE.out _ hG3).mono ?_
        rintro e w4 ⟨g4, rfl, G4⟩
        go_wp2_with fail
        refine hK.out _ _ G4.out (fun hG4 => ?_)
        clear hK K
        refine wpAnyH_ready (rs := [12]) (by kernel_rfl) (by simp) ?_
        refine AllReadyH.cons rfl (fun K hK => ?_) AllReadyH.nil
        go_simp
        go_wp2_with fail
        refine (HAP.out _ g4 hG4).mono ?_
        rintro e w5 ⟨rfl, G5⟩
        go_wp2_with fail
        refine hK.out _ _ G5.out (fun hG5 => ?_)
        clear hK K
        refine wpAnyH_take (i := 13) (oi := { dst := some 67, op := Op.binOp BinOp.neq 43 (Operand.tmp 66) (Operand.const (Value.int IntKind.i64 3)) 43, type := 4, pos := "outright.go:358", after := #[{ on := 12, ground := Ground.data }, { on := 5, ground := Ground.guard }], guard := some (5, false) }) (v := .bool false) rfl (by kernel_rfl) (by kernel_rfl) (by kernel_rfl) (fun _ _ _ h => h) (Or.inl ⟨by rfl, fun w' hSw => ?_⟩) hG5 ?_
        · go_simp
        simp only [Act.put, List.setIfInBounds_toArray, List.set_cons_zero, List.set_cons_succ]
        refine wpAnyH_take (i := 14) (oi := { dst := some 68, op := Op.pick (Operand.tmp 59) (Operand.const (Value.bool true)) (Operand.tmp 67), type := 4, pos := "outright.go:358", after := #[{ on := 5, ground := Ground.data }, { on := 13, ground := Ground.data }], guard := none }) (v := .bool false) rfl (by kernel_rfl) (by kernel_rfl) (by kernel_rfl) (fun _ _ _ h => h) (Or.inl ⟨by rfl, fun w' hSw => ?_⟩) hG5 ?_
        · go_simp
        simp only [Act.put, List.setIfInBounds_toArray, List.set_cons_zero, List.set_cons_succ]
        refine wpAnyH_take (i := 15) (oi := { dst := some 69, op := Op.move (Operand.tmp 68), type := 4, pos := "outright.go:358", after := #[{ on := 14, ground := Ground.data }, { on := 12, ground := Ground.chain }], guard := none }) (v := .bool false) rfl (by kernel_rfl) (by kernel_rfl) (by kernel_rfl) (fun _ _ _ h => h) (Or.inl ⟨by rfl, fun w' hSw => ?_⟩) hG5 ?_
        · go_simp
        simp only [Act.put, List.setIfInBounds_toArray, List.set_cons_zero, List.set_cons_succ]
        refine wpAnyH_take (i := 16) (oi := { dst := some 70, op := Op.move (Operand.tmp 5), type := 23, pos := "outright.go:358", after := #[{ on := 15, ground := Ground.guard }], guard := some (15, false) }) (v := .pointer none) rfl (by kernel_rfl) (by kernel_rfl) (by kernel_rfl) (fun _ _ _ h => h) (Or.inl ⟨by rfl, fun w' hSw => ?_⟩) hG5 ?_
        · go_simp
        simp only [Act.put, List.setIfInBounds_toArray, List.set_cons_zero, List.set_cons_succ]
        refine wpAnyH_take (i := 17) (oi := { dst := some 71, op := Op.fieldAddr 40 (Operand.tmp 11) 1, type := 0, pos := "outright.go:358", after := #[{ on := 15, ground := Ground.guard }], guard := some (15, false) }) (v := .pointer (some ⟨sb, 1, none⟩)) rfl (by kernel_rfl) (by kernel_rfl) (by kernel_rfl) (fun _ _ _ h => h) (Or.inl ⟨by rfl, fun w' hSw => ?_⟩) hG5 ?_
        · go_simp
        simp only [Act.put, List.setIfInBounds_toArray, List.set_cons_zero, List.set_cons_succ]
        refine wpAnyH_take (i := 18) (oi := { dst := some 72, op := Op.load 28 (Operand.tmp 71), type := 28, pos := "outright.go:358", after := #[{ on := 17, ground := Ground.data }, { on := 15, ground := Ground.guard }], guard := some (15, false) }) (v := .int .u64 o.file) rfl (by kernel_rfl) (by kernel_rfl) (by kernel_rfl) (fun _ _ _ h => h) (Or.inl ⟨by rfl, fun w' hSw => ?_⟩) hG5 ?_
        · have z := block_cell hSw.op 1
          simp [Ow.cs] at z
          go_simp
        simp only [Act.put, List.setIfInBounds_toArray, List.set_cons_zero, List.set_cons_succ]
        refine wpAnyH_ready (rs := [19]) (by kernel_rfl) (by simp) ?_
        refine AllReadyH.cons rfl (fun K hK => ?_) AllReadyH.nil
        go_simp
        go_wp2_with fail
        refine (HSY.out _ hG5).mono ?_
        rintro e w6 ⟨rfl, G6⟩
        go_wp2_with fail
        refine hK.out _ _ G6.out (fun hG6 => ?_)
        clear hK K
        refine wpAnyH_take (i := 20) (oi := { dst := some 74, op := Op.binOp BinOp.neq 43 (Operand.tmp 73) (Operand.const (Value.int IntKind.i64 3)) 43, type := 4, pos := "outright.go:358", after := #[{ on := 19, ground := Ground.data }, { on := 15, ground := Ground.guard }], guard := some (15, false) }) (v := .bool false) rfl (by kernel_rfl) (by kernel_rfl) (by kernel_rfl) (fun _ _ _ h => h) (Or.inl ⟨by rfl, fun w' hSw => ?_⟩) hG6 ?_
        · go_simp
        simp only [Act.put, List.setIfInBounds_toArray, List.set_cons_zero, List.set_cons_succ]
        refine wpAnyH_take (i := 21) (oi := { dst := some 75, op := Op.pick (Operand.tmp 69) (Operand.const (Value.bool true)) (Operand.tmp 74), type := 4, pos := "outright.go:358", after := #[{ on := 15, ground := Ground.data }, { on := 20, ground := Ground.data }], guard := none }) (v := .bool false) rfl (by kernel_rfl) (by kernel_rfl) (by kernel_rfl) (fun _ _ _ h => h) (Or.inl ⟨by rfl, fun w' hSw => ?_⟩) hG6 ?_
        · go_simp
        simp only [Act.put, List.setIfInBounds_toArray, List.set_cons_zero, List.set_cons_succ]
        refine wpAnyH_take (i := 22) (oi := { dst := some 76, op := Op.move (Operand.tmp 75), type := 4, pos := "outright.go:358", after := #[{ on := 21, ground := Ground.data }, { on := 19, ground := Ground.chain }], guard := none }) (v := .bool false) rfl (by kernel_rfl) (by kernel_rfl) (by kernel_rfl) (fun _ _ _ h => h) (Or.inl ⟨by rfl, fun w' hSw => ?_⟩) hG6 ?_
        · go_simp
        simp only [Act.put, List.setIfInBounds_toArray, List.set_cons_zero, List.set_cons_succ]
        refine wpAnyH_take (i := 23) (oi := { dst := some 77, op := Op.move (Operand.tmp 5), type := 23, pos := "outright.go:358", after := #[{ on := 22, ground := Ground.guard }], guard := some (22, false) }) (v := .pointer none) rfl (by kernel_rfl) (by kernel_rfl) (by kernel_rfl) (fun _ _ _ h => h) (Or.inl ⟨by rfl, fun w' hSw => ?_⟩) hG6 ?_
        · go_simp
        simp only [Act.put, List.setIfInBounds_toArray, List.set_cons_zero, List.set_cons_succ]
        refine wpAnyH_take (i := 24) (oi := { dst := some 78, op := Op.fieldAddr 40 (Operand.tmp 11) 1, type := 0, pos := "outright.go:358", after := #[{ on := 22, ground := Ground.guard }], guard := some (22, false) }) (v := .pointer (some ⟨sb, 1, none⟩)) rfl (by kernel_rfl) (by kernel_rfl) (by kernel_rfl) (fun _ _ _ h => h) (Or.inl ⟨by rfl, fun w' hSw => ?_⟩) hG6 ?_
        · go_simp
        simp only [Act.put, List.setIfInBounds_toArray, List.set_cons_zero, List.set_cons_succ]
        refine wpAnyH_take (i := 25) (oi := { dst := some 79, op := Op.load 28 (Operand.tmp 78), type := 28, pos := "outright.go:358", after := #[{ on := 24, ground := Ground.data }, { on := 22, ground := Ground.guard }], guard := some (22, false) }) (v := .int .u64 o.file) rfl (by kernel_rfl) (by kernel_rfl) (by kernel_rfl) (fun _ _ _ h => h) (Or.inl ⟨by rfl, fun w' hSw => ?_⟩) hG6 ?_
        · have z := block_cell hSw.op 1
          simp [Ow.cs] at z
          go_simp
        simp only [Act.put, List.setIfInBounds_toArray, List.set_cons_zero, List.set_cons_succ]
        refine wpAnyH_take (i := 26) (oi := { dst := some 80, op := Op.fieldAddr 40 (Operand.tmp 11) 2, type := 0, pos := "outright.go:358", after := #[{ on := 22, ground := Ground.guard }], guard := some (22, false) }) (v := .pointer (some ⟨sb, 2, none⟩)) rfl (by kernel_rfl) (by kernel_rfl) (by kernel_rfl) (fun _ _ _ h => h) (Or.inl ⟨by rfl, fun w' hSw => ?_⟩) hG6 ?_
        · go_simp
        simp only [Act.put, List.setIfInBounds_toArray, List.set_cons_zero, List.set_cons_succ]
        refine wpAnyH_take (i := 27) (oi := { dst := some 81, op := Op.load 3 (Operand.tmp 80), type := 3, pos := "outright.go:358", after := #[{ on := 26, ground := Ground.data }, { on := 22, ground := Ground.guard }], guard := some (22, false) }) (v := .int .i64 o.num) rfl (by kernel_rfl) (by kernel_rfl) (by kernel_rfl) (fun _ _ _ h => h) (Or.inl ⟨by rfl, fun w' hSw => ?_⟩) hG6 ?_
        · have z := block_cell hSw.op 2
          simp [Ow.cs] at z
          go_simp
        simp only [Act.put, List.setIfInBounds_toArray, List.set_cons_zero, List.set_cons_succ]
        refine wpAnyH_ready (rs := [28]) (by kernel_rfl) (by simp) ?_
        refine AllReadyH.cons rfl (fun K hK => ?_) AllReadyH.nil
        go_simp
        go_wp2_with fail
        refine (HCT.out _ hG6).mono ?_
        rintro e w7 ⟨rfl, G7⟩
        go_wp2_with fail
        refine hK.out _ _ G7.out (fun hG7 => ?_)
        clear hK K
        refine wpAnyH_take (i := 29) (oi := { dst := some 83, op := Op.binOp BinOp.neq 43 (Operand.tmp 82) (Operand.const (Value.int IntKind.i64 3)) 43, type := 4, pos := "outright.go:358", after := #[{ on := 28, ground := Ground.data }, { on := 22, ground := Ground.guard }], guard := some (22, false) }) (v := .bool false) rfl (by kernel_rfl) (by kernel_rfl) (by kernel_rfl) (fun _ _ _ h => h) (Or.inl ⟨by rfl, fun w' hSw => ?_⟩) hG7 ?_
        · go_simp
        simp only [Act.put, List.setIfInBounds_toArray, List.set_cons_zero, List.set_cons_succ]
        refine wpAnyH_take (i := 30) (oi := { dst := some 84, op := Op.pick (Operand.tmp 76) (Operand.const (Value.bool true)) (Operand.tmp 83), type := 4, pos := "outright.go:358", after := #[{ on := 22, ground := Ground.data }, { on := 29, ground := Ground.data }], guard := none }) (v := .bool false) rfl (by kernel_rfl) (by kernel_rfl) (by kernel_rfl) (fun _ _ _ h => h) (Or.inl ⟨by rfl, fun w' hSw => ?_⟩) hG7 ?_
        · go_simp
        simp only [Act.put, List.setIfInBounds_toArray, List.set_cons_zero, List.set_cons_succ]
        refine wpAnyH_take (i := 31) (oi := { dst := some 85, op := Op.move (Operand.tmp 84), type := 4, pos := "outright.go:358", after := #[{ on := 30, ground := Ground.data }, { on := 28, ground := Ground.chain }], guard := none }) (v := .bool false) rfl (by kernel_rfl) (by kernel_rfl) (by kernel_rfl) (fun _ _ _ h => h) (Or.inl ⟨by rfl, fun w' hSw => ?_⟩) hG7 ?_
        · go_simp
        simp only [Act.put, List.setIfInBounds_toArray, List.set_cons_zero, List.set_cons_succ]
        refine wpAnyH_take (i := 32) (oi := { dst := some 86, op := Op.move (Operand.tmp 5), type := 23, pos := "outright.go:358", after := #[{ on := 31, ground := Ground.guard }], guard := some (31, false) }) (v := .pointer none) rfl (by kernel_rfl) (by kernel_rfl) (by kernel_rfl) (fun _ _ _ h => h) (Or.inl ⟨by rfl, fun w' hSw => ?_⟩) hG7 ?_
        · go_simp
        simp only [Act.put, List.setIfInBounds_toArray, List.set_cons_zero, List.set_cons_succ]
        refine wpAnyH_take (i := 33) (oi := { dst := some 87, op := Op.fieldAddr 40 (Operand.tmp 11) 1, type := 0, pos := "outright.go:358", after := #[{ on := 31, ground := Ground.guard }], guard := some (31, false) }) (v := .pointer (some ⟨sb, 1, none⟩)) rfl (by kernel_rfl) (by kernel_rfl) (by kernel_rfl) (fun _ _ _ h => h) (Or.inl ⟨by rfl, fun w' hSw => ?_⟩) hG7 ?_
        · go_simp
        simp only [Act.put, List.setIfInBounds_toArray, List.set_cons_zero, List.set_cons_succ]
        refine wpAnyH_take (i := 34) (oi := { dst := some 88, op := Op.load 28 (Operand.tmp 87), type := 28, pos := "outright.go:358", after := #[{ on := 33, ground := Ground.data }, { on := 31, ground := Ground.guard }], guard := some (31, false) }) (v := .int .u64 o.file) rfl (by kernel_rfl) (by kernel_rfl) (by kernel_rfl) (fun _ _ _ h => h) (Or.inl ⟨by rfl, fun w' hSw => ?_⟩) hG7 ?_
        · have z := block_cell hSw.op 1
          simp [Ow.cs] at z
          go_simp
        simp only [Act.put, List.setIfInBounds_toArray, List.set_cons_zero, List.set_cons_succ]
        refine wpAnyH_ready (rs := [35]) (by kernel_rfl) (by simp) ?_
        refine AllReadyH.cons rfl (fun K hK => ?_) AllReadyH.nil
        go_simp
        go_wp2_with fail
        refine (HRM.out _ hG7).mono ?_
        rintro e w8 ⟨rfl, G8⟩
        go_wp2_with fail
        refine hK.out _ _ G8.out (fun hG8 => ?_)
        clear hK K
        refine wpAnyH_take (i := 36) (oi := { dst := some 90, op := Op.binOp BinOp.neq 43 (Operand.tmp 89) (Operand.const (Value.int IntKind.i64 3)) 43, type := 4, pos := "outright.go:358", after := #[{ on := 35, ground := Ground.data }, { on := 31, ground := Ground.guard }], guard := some (31, false) }) (v := .bool false) rfl (by kernel_rfl) (by kernel_rfl) (by kernel_rfl) (fun _ _ _ h => h) (Or.inl ⟨by rfl, fun w' hSw => ?_⟩) hG8 ?_
        · go_simp
        simp only [Act.put, List.setIfInBounds_toArray, List.set_cons_zero, List.set_cons_succ]
        refine wpAnyH_take (i := 37) (oi := { dst := some 91, op := Op.pick (Operand.tmp 85) (Operand.const (Value.bool true)) (Operand.tmp 90), type := 4, pos := "outright.go:358", after := #[{ on := 31, ground := Ground.data }, { on := 36, ground := Ground.data }], guard := none }) (v := .bool false) rfl (by kernel_rfl) (by kernel_rfl) (by kernel_rfl) (fun _ _ _ h => h) (Or.inl ⟨by rfl, fun w' hSw => ?_⟩) hG8 ?_
        · go_simp
        simp only [Act.put, List.setIfInBounds_toArray, List.set_cons_zero, List.set_cons_succ]
        refine wpAnyH_done (by kernel_rfl) ?_ _
        clear HCR HAP HSY HCT HRM hG3 hG4 hG5 hG6 hG7 hG8 G3 G4 G5 G6 G7 HR3 hH
        have y1 := block_cell G8.out.op 1
        have y3 := block_cell G8.out.op 3
        have yl := block_lt G8.out.op
        simp [Ow.cs] at y1 y3
        go_wp2_with fail
        refine (readD G8.out.dn _).mono ?_
        rintro e w9 ⟨rfl, hw⟩
        rw [hw]
        clear hw
        go_wp2_with fail
        refine (HLE.out _ G8.out).mono ?_
        rintro e w10 ⟨g10, rfl, G10⟩
        clear y1 y3 yl
        go_wp2_with fail
        refine (appendG G10.out.gn _ _ _).mono ?_
        rintro e w11 ⟨f11, rfl, G11⟩
        have HR11 := hide (G10.out.next G11.out.2)
        go_wp2_with fail
        refine (HNO.out _ _ G11.out.1 HR11.out).mono ?_
        rintro e w12 ⟨rfl, G12⟩
        go_wp2_with fail
        refine (syncG G12.out.gn).mono ?_
        rintro e w13 ⟨f13, rfl, G13⟩
        have HR13 := hide (G12.out.next G13.out.2)
        go_wp2_with fail
        refine (HNO.out _ _ G13.out.1 HR13.out).mono ?_
        rintro e w14 ⟨rfl, G14⟩
        have y5 := block_cell G14.out.op 5
        have yl := block_lt G14.out.op
        simp [Ow.cs] at y5
        go_wp2_with fail
        refine (lendAllN G14.out.ok.hL G14.out.bel.size G14.out.ok.hn).mono ?_
        rintro e w15 ⟨g15, rfl, G15⟩
        have HR15 := hide (G14.out.next G15.out)
        clear y5 yl
        go_wp2_with fail
        refine (rotateG HR15.out.gn _ _ _).mono ?_
        rintro e w16 ⟨f16, rfl, G16⟩
        have HR16 := hide (HR15.out.next G16.out.2)
        go_wp2_with fail
        refine (HNO.out _ _ G16.out.1 HR16.out).mono ?_
        rintro e w17 ⟨rfl, G17⟩
        go_wp2_with fail
        refine (lenG G17.out.gn).mono ?_
        rintro e w18 ⟨rfl, hw⟩
        rw [hw]
        clear hw
        go_wp2_with fail
        refine (safeG G17.out.gn).mono ?_
        rintro e w19 ⟨rfl, hw⟩
        rw [hw]
        clear hw
        go_wp2_with fail
        refine (openD G17.out.dn).mono ?_
        rintro e w20 ⟨f20, rfl, G20⟩
        have HR20 := hide (G17.out.next G20.out.2)
        go_wp2_with fail
        refine (HNO.out _ _ G20.out.1 HR20.out).mono ?_
        rintro e w21 ⟨rfl, G21⟩
        have HF : Hid (Below w.heap.size w w21 ∧ Dn w21 (.pointer none) ∧ Gn w21 (.pointer none)) := ⟨G21.out.bel, G21.out.dn, G21.out.gn⟩
        clear HLE HNO G8 G10 G11 HR11 G12 G13 HR13 G14 G15 HR15 G16 HR16 G17 G20 HR20 G21
        go_wp2
        go_roundw
        case rel => exact ⟨k + 1, by omega, by go_num, HF.out⟩
        case measure => simp [intOf]; omega
      · obtain rfl : k = n := by omega
        go_wp2_with fail
        refine (HIM.out _ _ HV.out.2.1).mono ?_
        rintro e w4 ⟨rfl, G4⟩
        go_wp2_with fail
        refine (HSI.out _).mono ?_
        rintro e w5 ⟨rfl, G5⟩
        have FIN : Hid (Below w.heap.size w w5) := by
          have b4 := HV.out.1.trans (G4.out.mono HV.out.1.size)
          exact b4.trans (G5.out.mono b4.size)
        clear HV G4 G5
        go_wp2
        go_ret
        exact ⟨rfl, FIN.out⟩
  case true =>
    go_upto_region 6 with fail
    obtain ⟨W2, hW2⟩ : ∃ W2, (w.alloc (.cells #[.map none, .int .i64 0] 27)).alloc (.cells #[.pointer none, .int .u64 0, .int .i64 0, .int .i64 0, .bool false] 30) = W2 := ⟨_, rfl⟩
    have HV : Hid (Below w.heap.size w W2 ∧ Dn W2 (.pointer (some ⟨w.heap.size, 0, none⟩)) ∧ Gn W2 (.pointer (some ⟨w.heap.size + 1, 0, none⟩))) := by
      have e1 : (w.alloc (.cells #[.map none, .int .i64 0] 27)).heap.size = w.heap.size + 1 := by simp
      have q0 : W2.heap[w.heap.size]? = some (.cells #[.map none, .int .i64 0] 27 (0, 0)) := by rw [← hW2]; exact ((below_alloc1 _ _).block _ (by rw [e1]; omega)).trans (alloc_atK _ _)
      have q1 : W2.heap[w.heap.size + 1]? = some (.cells #[.pointer none, .int .u64 0, .int .i64 0, .int .i64 0, .bool false] 30 (0, 0)) := by rw [← hW2, ← e1]; exact alloc_atK _ _
      exact ⟨by rw [← hW2]; exact (below_alloc1 w _).alloc (by simp) _, .inr ⟨_, rfl, block_cell q0 0, block_lt q0⟩, .inr ⟨_, rfl, block_cell q1 0, block_lt q1⟩⟩
    rw [hW2]
    clear hW2
    have HOP : Hid (∀ W p m, Below W2.heap.size W2 W → FD W2.heap.size W p m 0 (.pointer none) false → Calls Tryz.prog 4 #[.pointer (some ⟨p, 0, none⟩)] W fun e w' => ∃ q, e = .returned (.tuple #[.pointer (some q), .slice none 0 0, .nilIface]) ∧ Hid (Below w.heap.size w w' ∧ Dn w' (.pointer (some ⟨w.heap.size, 0, none⟩)) ∧ Gn w' (.pointer (some ⟨w.heap.size + 1, 0, none⟩)))) := fun W p m hb hf => by
      have b1 := HV.out.1.trans (hb.mono HV.out.1.size)
      refine (openF hf hb.size (by have := HV.out.1.size; omega) (HT.out.below b1 h0)).mono ?_
      rintro e w' ⟨q, rfl, G⟩
      have b2 := hb.trans G.out
      exact ⟨q, rfl, HV.out.1.trans (b2.mono HV.out.1.size), HV.out.2.1.kept b2, HV.out.2.2.kept b2⟩
    clear HT
    go_wp2_with fail
    refine (HND.out _).mono ?_
    rintro e w2 ⟨p, m, rfl, G2⟩
    go_wp2_with fail
    refine (HOP.out _ p m G2.out.2 G2.out.1).mono ?_
    rintro e w3 ⟨q, rfl, G3⟩
    clear HOP HND G2 HV
    go_wp2
    go_loopw [10] (fun i wr => ∃ k : Nat, k ≤ n ∧ i = .int .i64 (k : Nat) ∧ Hid (Below w.heap.size w wr ∧ Dn wr (.pointer (some ⟨w.heap.size, 0, none⟩)) ∧ Gn wr (.pointer (some ⟨w.heap.size + 1, 0, none⟩)))) (fun i _ => n - (intOf i).toNat)
    case atStart => exact ⟨0, by omega, rfl, G3.out⟩
    case round =>
      obtain ⟨k, hk, rfl, HV⟩ := hrel
      clear G3
      by_cases hlt : k < n
      · obtain ⟨o, ho⟩ : ∃ o, os[k]? = some o := ⟨_, List.getElem?_eq_getElem (by rw [HLN.out]; exact hlt)⟩
        have hpos : 0 < os.length := by rw [HLN.out]; omega
        obtain rfl := HO.out.ad hpos
        have hbl := HO.out.lt hpos
        have hok := HO.out.ok o (List.mem_of_getElem? ho)
        have hat := HO.out.at_ k o ho
        have hbw : b < wr.heap.size := Nat.lt_of_lt_of_le hbl HV.out.1.size
        have hc : ∀ j u, o.cs[j]? = some u → wr.cell? ⟨b, off + k * 6 + j, none⟩ = some u := fun j u hu => (HV.out.1.cell (p := ⟨b, _, none⟩) hbl).trans (hat j u hu)
        have HR0 : Hid (∀ W, wr.alloc (.cells o.cs 40) = W → Rn w o (.pointer (some ⟨w.heap.size, 0, none⟩)) (.pointer (some ⟨w.heap.size + 1, 0, none⟩)) wr.heap.size W) := fun W hW => by
          have b1 : Below wr.heap.size wr W := by rw [← hW]; exact below_alloc1 wr _
          have b2 := HV.out.1.trans (b1.mono HV.out.1.size)
          exact ⟨b2, HV.out.2.1.kept b1, HV.out.2.2.kept b1, by rw [← hW]; exact alloc_atK _ _, hok.below b2 (Nat.le_refl _)⟩
        have c0 := hc 0 (.int .i64 o.kind) rfl
        rw [Nat.add_zero] at c0
        have c1 := hc 1 (.int .u64 o.file) rfl
        have c2 := hc 2 (.int .i64 o.num) rfl
        have c3 := hc 3 (.slice o.da o.dn o.dc) rfl
        have c4 := hc 4 (.slice o.ta o.tn o.tc) rfl
        have c5 := hc 5 (.slice o.ba o.bn o.bc) rfl
        clear ho hpos hbl hok hat hc
        unfold Ow.cs at HR0
        go_upto_region 13 with fail
        obtain ⟨W3, hW3⟩ : ∃ W3, wr.alloc (.cells #[.int .i64 o.kind, .int .u64 o.file, .int .i64 o.num, .slice o.da o.dn o.dc, .slice o.ta o.tn o.tc, .slice o.ba o.bn o.bc] 40) = W3 := ⟨_, rfl⟩
        have HR3 := hide (HR0.out W3 hW3)
        rw [hW3]
        clear hW3 HR0 c0 c1 c2 c3 c4 c5 hbw
        generalize wr.heap.size = sb at *
        clear HV
        have HCR : Hid (∀ W, Rn w o (.pointer (some ⟨w.heap.size, 0, none⟩)) (.pointer (some ⟨w.heap.size + 1, 0, none⟩)) sb W → Calls Tryz.prog 8 #[.pointer (some ⟨w.heap.size, 0, none⟩), .int .u64 o.file] W fun e w' => e = .returned (.int .i64 3) ∧ Hid (Rn w o (.pointer (some ⟨w.heap.size, 0, none⟩)) (.pointer (some ⟨w.heap.size + 1, 0, none⟩)) sb w')) := fun W hr => (createD hr.dn _).mono (fun _ _ g => ⟨g.1, by rw [g.2]; exact hr⟩)
        have HLE : Hid (∀ W, Rn w o (.pointer (some ⟨w.heap.size, 0, none⟩)) (.pointer (some ⟨w.heap.size + 1, 0, none⟩)) sb W → Calls Tryz.prog 10 #[.slice o.da o.dn o.dc] W fun e w' => ∃ g, e = .returned (.slice (some ⟨g, 0, none⟩) o.dn (o.dn + 3)) ∧ Hid (Rn w o (.pointer (some ⟨w.heap.size, 0, none⟩)) (.pointer (some ⟨w.heap.size + 1, 0, none⟩)) sb w')) := fun W hr => (lendN hr.ok.hD hr.bel.size).mono (fun _ _ ⟨g, h1, h2⟩ => ⟨g, h1, hr.next h2.out⟩)
        have HAP : Hid (∀ W g, Rn w o (.pointer (some ⟨w.heap.size, 0, none⟩)) (.pointer (some ⟨w.heap.size + 1, 0, none⟩)) sb W → Calls Tryz.prog 9 #[.pointer (some ⟨w.heap.size, 0, none⟩), .int .u64 o.file, .slice (some ⟨g, 0, none⟩) o.dn (o.dn + 3)] W fun e w' => e = .returned (.int .i64 3) ∧ Hid (Rn w o (.pointer (some ⟨w.heap.size, 0, none⟩)) (.pointer (some ⟨w.heap.size + 1, 0, none⟩)) sb w')) := fun W g hr => (appendD hr.dn _ _ _ _).mono (fun _ _ g => ⟨g.1, by rw [g.2]; exact hr⟩)
        have HSY : Hid (∀ W, Rn w o (.pointer (some ⟨w.heap.size, 0, none⟩)) (.pointer (some ⟨w.heap.size + 1, 0, none⟩)) sb W → Calls Tryz.prog 11 #[.pointer (some ⟨w.heap.size, 0, none⟩), .int .u64 o.file] W fun e w' => e = .returned (.int .i64 3) ∧ Hid (Rn w o (.pointer (some ⟨w.heap.size, 0, none⟩)) (.pointer (some ⟨w.heap.size + 1, 0, none⟩)) sb w')) := fun W hr => (syncD hr.dn _).mono (fun _ _ g => ⟨g.1, by rw [g.2]; exact hr⟩)
        have HCT : Hid (∀ W, Rn w o (.pointer (some ⟨w.heap.size, 0, none⟩)) (.pointer (some ⟨w.heap.size + 1, 0, none⟩)) sb W → Calls Tryz.prog 12 #[.pointer (some ⟨w.heap.size, 0, none⟩), .int .u64 o.file, .int .i64 o.num] W fun e w' => e = .returned (.int .i64 3) ∧ Hid (Rn w o (.pointer (some ⟨w.heap.size, 0, none⟩)) (.pointer (some ⟨w.heap.size + 1, 0, none⟩)) sb w')) := fun W hr => (cutD hr.dn _ _).mono (fun _ _ g => ⟨g.1, by rw [g.2]; exact hr⟩)
        have HRM : Hid (∀ W, Rn w o (.pointer (some ⟨w.heap.size, 0, none⟩)) (.pointer (some ⟨w.heap.size + 1, 0, none⟩)) sb W → Calls Tryz.prog 13 #[.pointer (some ⟨w.heap.size, 0, none⟩), .int .u64 o.file] W fun e w' => e = .returned (.int .i64 3) ∧ Hid (Rn w o (.pointer (some ⟨w.heap.size, 0, none⟩)) (.pointer (some ⟨w.heap.size + 1, 0, none⟩)) sb w')) := fun W hr => (removeD hr.dn _).mono (fun _ _ g => ⟨g.1, by rw [g.2]; exact hr⟩)
        have HNO : Hid (∀ W f, Nf W f → Rn w o (.pointer (some ⟨w.heap.size, 0, none⟩)) (.pointer (some ⟨w.heap.size + 1, 0, none⟩)) sb W → Calls Tryz.prog 16 #[f] W fun e w' => e = .returned (.bool true) ∧ Hid (Rn w o (.pointer (some ⟨w.heap.size, 0, none⟩)) (.pointer (some ⟨w.heap.size + 1, 0, none⟩)) sb w')) := fun W f hf hr => (noneN hf).mono (fun _ _ g => ⟨g.1, hr.next g.2.out⟩)
        have z1 := block_cell HR3.out.op 1
        have z2 := block_cell HR3.out.op 2
        have z4 := block_cell HR3.out.op 4
        have zl := block_lt HR3.out.op
        simp [Ow.cs] at z1 z2 z4
        go_wp2_with fail
        refine (fuseD HR3.out.dn _).mono ?_
        rintro e w4 ⟨rfl, hw⟩
        rw [hw]
        clear hw
        go_wp2_with fail
        refine (crashD HR3.out.dn _).mono ?_
        rintro e w5 ⟨rfl, hw⟩
        rw [hw]
        clear hw
        go_upto_region 15 with fail
        refine wp_region_held_drew (S := fun W => Rn w o (.pointer (some ⟨w.heap.size, 0, none⟩)) (.pointer (some ⟨w.heap.size + 1, 0, none⟩)) sb W) (by kernel_rfl) (HR3.out.next ⟨rfl, rfl, rfl, Nat.le_refl _, fun _ _ => rfl⟩) (fun hH => ?_)
        clear z1 z2 z4 zl
        refine wpAnyH_take (i := 0) (oi := { dst := some 54, op := Op.move (Operand.tmp 5), type := 23, pos := "outright.go:358", after := #[], guard := none }) (v := .pointer (some ⟨w.heap.size, 0, none⟩)) rfl (by kernel_rfl) (by kernel_rfl) (by kernel_rfl) (fun _ _ _ h => h) (Or.inl ⟨by rfl, fun w' hSw => ?_⟩) hH ?_
        · go_simp
        simp only [Act.put, List.setIfInBounds_toArray, List.set_cons_zero, List.set_cons_succ]
        refine wpAnyH_take (i := 1) (oi := { dst := some 55, op := Op.fieldAddr 40 (Operand.tmp 11) 1, type := 0, pos := "outright.go:358", after := #[], guard := none }) (v := .pointer (some ⟨sb, 1, none⟩)) rfl (by kernel_rfl) (by kernel_rfl) (by kernel_rfl) (fun _ _ _ h => h) (Or.inl ⟨by rfl, fun w' hSw => ?_⟩) hH ?_
        · go_simp
        simp only [Act.put, List.setIfInBounds_toArray, List.set_cons_zero, List.set_cons_succ]
        refine wpAnyH_take (i := 2) (oi := { dst := some 56, op := Op.load 28 (Operand.tmp 55), type := 28, pos := "outright.go:358", after := #[{ on := 1, ground := Ground.data }], guard := none }) (v := .int .u64 o.file) rfl (by kernel_rfl) (by kernel_rfl) (by kernel_rfl) (fun _ _ _ h => h) (Or.inl ⟨by rfl, fun w' hSw => ?_⟩) hH ?_
        · have z := block_cell hSw.op 1
          simp [Ow.cs] at z
          go_simp
        simp only [Act.put, List.setIfInBounds_toArray, List.set_cons_zero, List.set_cons_succ]
        refine wpAnyH_ready (rs := [3]) (by kernel_rfl) (by simp) ?_
        refine AllReadyH.cons rfl (fun K hK => ?_) AllReadyH.nil
        go_simp
        go_wp2_with fail
        refine (HCR.out _ hH).mono ?_
        rintro e w3 ⟨rfl, G3⟩
        go_wp2_with fail
        refine hK.out _ _ G3.out (fun hG3 => ?_)
        clear hK K
        refine wpAnyH_take (i := 4) (oi := { dst := some 58, op := Op.binOp BinOp.neq 43 (Operand.tmp 57) (Operand.const (Value.int IntKind.i64 3)) 43, type := 4, pos := "outright.go:358", after := #[{ on := 3, ground := Ground.data }], guard := none }) (v := .bool false) rfl (by kernel_rfl) (by kernel_rfl) (by kernel_rfl) (fun _ _ _ h => h) (Or.inl ⟨by rfl, fun w' hSw => ?_⟩) hG3 ?_
        · go_simp
        simp only [Act.put, List.setIfInBounds_toArray, List.set_cons_zero, List.set_cons_succ]
        refine wpAnyH_take (i := 5) (oi := { dst := some 59, op := Op.move (Operand.tmp 58), type := 4, pos := "outright.go:358", after := #[{ on := 4, ground := Ground.data }, { on := 3, ground := Ground.chain }], guard := none }) (v := .bool false) rfl (by kernel_rfl) (by kernel_rfl) (by kernel_rfl) (fun _ _ _ h => h) (Or.inl ⟨by rfl, fun w' hSw => ?_⟩) hG3 ?_
        · go_simp
        simp only [Act.put, List.setIfInBounds_toArray, List.set_cons_zero, List.set_cons_succ]
        refine wpAnyH_take (i := 6) (oi := { dst := some 60, op := Op.move (Operand.tmp 5), type := 23, pos := "outright.go:358", after := #[{ on := 5, ground := Ground.guard }], guard := some (5, false) }) (v := .pointer (some ⟨w.heap.size, 0, none⟩)) rfl (by kernel_rfl) (by kernel_rfl) (by kernel_rfl) (fun _ _ _ h => h) (Or.inl ⟨by rfl, fun w' hSw => ?_⟩) hG3 ?_
        · go_simp
        simp only [Act.put, List.setIfInBounds_toArray, List.set_cons_zero, List.set_cons_succ]
        refine wpAnyH_take (i := 7) (oi := { dst := some 61, op := Op.fieldAddr 40 (Operand.tmp 11) 1, type := 0, pos := "outright.go:358", after := #[{ on := 5, ground := Ground.guard }], guard := some (5, false) }) (v := .pointer (some ⟨sb, 1, none⟩)) rfl (by kernel_rfl) (by kernel_rfl) (by kernel_rfl) (fun _ _ _ h => h) (Or.inl ⟨by rfl, fun w' hSw => ?_⟩) hG3 ?_
        · go_simp
        simp only [Act.put, List.setIfInBounds_toArray, List.set_cons_zero, List.set_cons_succ]
        refine wpAnyH_take (i := 8) (oi := { dst := some 62, op := Op.load 28 (Operand.tmp 61), type := 28, pos := "outright.go:358", after := #[{ on := 7, ground := Ground.data }, { on := 5, ground := Ground.guard }], guard := some (5, false) }) (v := .int .u64 o.file) rfl (by kernel_rfl) (by kernel_rfl) (by kernel_rfl) (fun _ _ _ h => h) (Or.inl ⟨by rfl, fun w' hSw => ?_⟩) hG3 ?_
        · have z := block_cell hSw.op 1
          simp [Ow.cs] at z
          go_simp
        simp only [Act.put, List.setIfInBounds_toArray, List.set_cons_zero, List.set_cons_succ]
        refine wpAnyH_take (i := 9) (oi := { dst := some 63, op := Op.fieldAddr 40 (Operand.tmp 11) 3, type := 0, pos := "outright.go:358", after := #[{ on := 5, ground := Ground.guard }], guard := some (5, false) }) (v := .pointer (some ⟨sb, 3, none⟩)) rfl (by kernel_rfl) (by kernel_rfl) (by kernel_rfl) (fun _ _ _ h => h) (Or.inl ⟨by rfl, fun w' hSw => ?_⟩) hG3 ?_
        · go_simp
        simp only [Act.put, List.setIfInBounds_toArray, List.set_cons_zero, List.set_cons_succ]
        refine wpAnyH_take (i := 10) (oi := { dst := some 64, op := Op.load 37 (Operand.tmp 63), type := 37, pos := "outright.go:358", after := #[{ on := 9, ground := Ground.data }, { on := 5, ground := Ground.guard }], guard := some (5, false) }) (v := .slice o.da o.dn o.dc) rfl (by kernel_rfl) (by kernel_rfl) (by kernel_rfl) (fun _ _ _ h => h) (Or.inl ⟨by rfl, fun w' hSw => ?_⟩) hG3 ?_
        · have z := block_cell hSw.op 3
          simp [Ow.cs] at z
          go_simp
        simp only [Act.put, List.setIfInBounds_toArray, List.set_cons_zero, List.set_cons_succ]
        refine wpAnyH_ready (rs := [11]) (by kernel_rfl) (by simp) ?_
        refine AllReadyH.cons rfl (fun K hK => ?_) AllReadyH.nil
        go_simp
        go_wp2_with fail
        refine (HLE.out _ hG3).mono ?_
        rintro e w4 ⟨g4, rfl, G4⟩
        go_wp2_with fail
        refine hK.out _ _ G4.out (fun hG4 => ?_)
        clear hK K
        refine wpAnyH_ready (rs := [12]) (by kernel_rfl) (by simp) ?_
        refine AllReadyH.cons rfl (fun K hK => ?_) AllReadyH.nil
        go_simp
        go_wp2_with fail
        refine (HAP.out _ g4 hG4).mono ?_
        rintro e w5 ⟨rfl, G5⟩
        go_wp2_with fail
        refine hK.out _ _ G5.out (fun hG5 => ?_)
        clear hK K
        refine wpAnyH_take (i := 13) (oi := { dst := some 67, op := Op.binOp BinOp.neq 43 (Operand.tmp 66) (Operand.const (Value.int IntKind.i64 3)) 43, type := 4, pos := "outright.go:358", after := #[{ on := 12, ground := Ground.data }, { on := 5, ground := Ground.guard }], guard := some (5, false) }) (v := .bool false) rfl (by kernel_rfl) (by kernel_rfl) (by kernel_rfl) (fun _ _ _ h => h) (Or.inl ⟨by rfl, fun w' hSw => ?_⟩) hG5 ?_
        · go_simp
        simp only [Act.put, List.setIfInBounds_toArray, List.set_cons_zero, List.set_cons_succ]
        refine wpAnyH_take (i := 14) (oi := { dst := some 68, op := Op.pick (Operand.tmp 59) (Operand.const (Value.bool true)) (Operand.tmp 67), type := 4, pos := "outright.go:358", after := #[{ on := 5, ground := Ground.data }, { on := 13, ground := Ground.data }], guard := none }) (v := .bool false) rfl (by kernel_rfl) (by kernel_rfl) (by kernel_rfl) (fun _ _ _ h => h) (Or.inl ⟨by rfl, fun w' hSw => ?_⟩) hG5 ?_
        · go_simp
        simp only [Act.put, List.setIfInBounds_toArray, List.set_cons_zero, List.set_cons_succ]
        refine wpAnyH_take (i := 15) (oi := { dst := some 69, op := Op.move (Operand.tmp 68), type := 4, pos := "outright.go:358", after := #[{ on := 14, ground := Ground.data }, { on := 12, ground := Ground.chain }], guard := none }) (v := .bool false) rfl (by kernel_rfl) (by kernel_rfl) (by kernel_rfl) (fun _ _ _ h => h) (Or.inl ⟨by rfl, fun w' hSw => ?_⟩) hG5 ?_
        · go_simp
        simp only [Act.put, List.setIfInBounds_toArray, List.set_cons_zero, List.set_cons_succ]
        refine wpAnyH_take (i := 16) (oi := { dst := some 70, op := Op.move (Operand.tmp 5), type := 23, pos := "outright.go:358", after := #[{ on := 15, ground := Ground.guard }], guard := some (15, false) }) (v := .pointer (some ⟨w.heap.size, 0, none⟩)) rfl (by kernel_rfl) (by kernel_rfl) (by kernel_rfl) (fun _ _ _ h => h) (Or.inl ⟨by rfl, fun w' hSw => ?_⟩) hG5 ?_
        · go_simp
        simp only [Act.put, List.setIfInBounds_toArray, List.set_cons_zero, List.set_cons_succ]
        refine wpAnyH_take (i := 17) (oi := { dst := some 71, op := Op.fieldAddr 40 (Operand.tmp 11) 1, type := 0, pos := "outright.go:358", after := #[{ on := 15, ground := Ground.guard }], guard := some (15, false) }) (v := .pointer (some ⟨sb, 1, none⟩)) rfl (by kernel_rfl) (by kernel_rfl) (by kernel_rfl) (fun _ _ _ h => h) (Or.inl ⟨by rfl, fun w' hSw => ?_⟩) hG5 ?_
        · go_simp
        simp only [Act.put, List.setIfInBounds_toArray, List.set_cons_zero, List.set_cons_succ]
        refine wpAnyH_take (i := 18) (oi := { dst := some 72, op := Op.load 28 (Operand.tmp 71), type := 28, pos := "outright.go:358", after := #[{ on := 17, ground := Ground.data }, { on := 15, ground := Ground.guard }], guard := some (15, false) }) (v := .int .u64 o.file) rfl (by kernel_rfl) (by kernel_rfl) (by kernel_rfl) (fun _ _ _ h => h) (Or.inl ⟨by rfl, fun w' hSw => ?_⟩) hG5 ?_
        · have z := block_cell hSw.op 1
          simp [Ow.cs] at z
          go_simp
        simp only [Act.put, List.setIfInBounds_toArray, List.set_cons_zero, List.set_cons_succ]
        refine wpAnyH_ready (rs := [19]) (by kernel_rfl) (by simp) ?_
        refine AllReadyH.cons rfl (fun K hK => ?_) AllReadyH.nil
        go_simp
        go_wp2_with fail
        refine (HSY.out _ hG5).mono ?_
        rintro e w6 ⟨rfl, G6⟩
        go_wp2_with fail
        refine hK.out _ _ G6.out (fun hG6 => ?_)
        clear hK K
        refine wpAnyH_take (i := 20) (oi := { dst := some 74, op := Op.binOp BinOp.neq 43 (Operand.tmp 73) (Operand.const (Value.int IntKind.i64 3)) 43, type := 4, pos := "outright.go:358", after := #[{ on := 19, ground := Ground.data }, { on := 15, ground := Ground.guard }], guard := some (15, false) }) (v := .bool false) rfl (by kernel_rfl) (by kernel_rfl) (by kernel_rfl) (fun _ _ _ h => h) (Or.inl ⟨by rfl, fun w' hSw => ?_⟩) hG6 ?_
        · go_simp
        simp only [Act.put, List.setIfInBounds_toArray, List.set_cons_zero, List.set_cons_succ]
        refine wpAnyH_take (i := 21) (oi := { dst := some 75, op := Op.pick (Operand.tmp 69) (Operand.const (Value.bool true)) (Operand.tmp 74), type := 4, pos := "outright.go:358", after := #[{ on := 15, ground := Ground.data }, { on := 20, ground := Ground.data }], guard := none }) (v := .bool false) rfl (by kernel_rfl) (by kernel_rfl) (by kernel_rfl) (fun _ _ _ h => h) (Or.inl ⟨by rfl, fun w' hSw => ?_⟩) hG6 ?_
        · go_simp
        simp only [Act.put, List.setIfInBounds_toArray, List.set_cons_zero, List.set_cons_succ]
        refine wpAnyH_take (i := 22) (oi := { dst := some 76, op := Op.move (Operand.tmp 75), type := 4, pos := "outright.go:358", after := #[{ on := 21, ground := Ground.data }, { on := 19, ground := Ground.chain }], guard := none }) (v := .bool false) rfl (by kernel_rfl) (by kernel_rfl) (by kernel_rfl) (fun _ _ _ h => h) (Or.inl ⟨by rfl, fun w' hSw => ?_⟩) hG6 ?_
        · go_simp
        simp only [Act.put, List.setIfInBounds_toArray, List.set_cons_zero, List.set_cons_succ]
        refine wpAnyH_take (i := 23) (oi := { dst := some 77, op := Op.move (Operand.tmp 5), type := 23, pos := "outright.go:358", after := #[{ on := 22, ground := Ground.guard }], guard := some (22, false) }) (v := .pointer (some ⟨w.heap.size, 0, none⟩)) rfl (by kernel_rfl) (by kernel_rfl) (by kernel_rfl) (fun _ _ _ h => h) (Or.inl ⟨by rfl, fun w' hSw => ?_⟩) hG6 ?_
        · go_simp
        simp only [Act.put, List.setIfInBounds_toArray, List.set_cons_zero, List.set_cons_succ]
        refine wpAnyH_take (i := 24) (oi := { dst := some 78, op := Op.fieldAddr 40 (Operand.tmp 11) 1, type := 0, pos := "outright.go:358", after := #[{ on := 22, ground := Ground.guard }], guard := some (22, false) }) (v := .pointer (some ⟨sb, 1, none⟩)) rfl (by kernel_rfl) (by kernel_rfl) (by kernel_rfl) (fun _ _ _ h => h) (Or.inl ⟨by rfl, fun w' hSw => ?_⟩) hG6 ?_
        · go_simp
        simp only [Act.put, List.setIfInBounds_toArray, List.set_cons_zero, List.set_cons_succ]
        refine wpAnyH_take (i := 25) (oi := { dst := some 79, op := Op.load 28 (Operand.tmp 78), type := 28, pos := "outright.go:358", after := #[{ on := 24, ground := Ground.data }, { on := 22, ground := Ground.guard }], guard := some (22, false) }) (v := .int .u64 o.file) rfl (by kernel_rfl) (by kernel_rfl) (by kernel_rfl) (fun _ _ _ h => h) (Or.inl ⟨by rfl, fun w' hSw => ?_⟩) hG6 ?_
        · have z := block_cell hSw.op 1
          simp [Ow.cs] at z
          go_simp
        simp only [Act.put, List.setIfInBounds_toArray, List.set_cons_zero, List.set_cons_succ]
        refine wpAnyH_take (i := 26) (oi := { dst := some 80, op := Op.fieldAddr 40 (Operand.tmp 11) 2, type := 0, pos := "outright.go:358", after := #[{ on := 22, ground := Ground.guard }], guard := some (22, false) }) (v := .pointer (some ⟨sb, 2, none⟩)) rfl (by kernel_rfl) (by kernel_rfl) (by kernel_rfl) (fun _ _ _ h => h) (Or.inl ⟨by rfl, fun w' hSw => ?_⟩) hG6 ?_
        · go_simp
        simp only [Act.put, List.setIfInBounds_toArray, List.set_cons_zero, List.set_cons_succ]
        refine wpAnyH_take (i := 27) (oi := { dst := some 81, op := Op.load 3 (Operand.tmp 80), type := 3, pos := "outright.go:358", after := #[{ on := 26, ground := Ground.data }, { on := 22, ground := Ground.guard }], guard := some (22, false) }) (v := .int .i64 o.num) rfl (by kernel_rfl) (by kernel_rfl) (by kernel_rfl) (fun _ _ _ h => h) (Or.inl ⟨by rfl, fun w' hSw => ?_⟩) hG6 ?_
        · have z := block_cell hSw.op 2
          simp [Ow.cs] at z
          go_simp
        simp only [Act.put, List.setIfInBounds_toArray, List.set_cons_zero, List.set_cons_succ]
        refine wpAnyH_ready (rs := [28]) (by kernel_rfl) (by simp) ?_
        refine AllReadyH.cons rfl (fun K hK => ?_) AllReadyH.nil
        go_simp
        go_wp2_with fail
        refine (HCT.out _ hG6).mono ?_
        rintro e w7 ⟨rfl, G7⟩
        go_wp2_with fail
        refine hK.out _ _ G7.out (fun hG7 => ?_)
        clear hK K
        refine wpAnyH_take (i := 29) (oi := { dst := some 83, op := Op.binOp BinOp.neq 43 (Operand.tmp 82) (Operand.const (Value.int IntKind.i64 3)) 43, type := 4, pos := "outright.go:358", after := #[{ on := 28, ground := Ground.data }, { on := 22, ground := Ground.guard }], guard := some (22, false) }) (v := .bool false) rfl (by kernel_rfl) (by kernel_rfl) (by kernel_rfl) (fun _ _ _ h => h) (Or.inl ⟨by rfl, fun w' hSw => ?_⟩) hG7 ?_
        · go_simp
        simp only [Act.put, List.setIfInBounds_toArray, List.set_cons_zero, List.set_cons_succ]
        refine wpAnyH_take (i := 30) (oi := { dst := some 84, op := Op.pick (Operand.tmp 76) (Operand.const (Value.bool true)) (Operand.tmp 83), type := 4, pos := "outright.go:358", after := #[{ on := 22, ground := Ground.data }, { on := 29, ground := Ground.data }], guard := none }) (v := .bool false) rfl (by kernel_rfl) (by kernel_rfl) (by kernel_rfl) (fun _ _ _ h => h) (Or.inl ⟨by rfl, fun w' hSw => ?_⟩) hG7 ?_
        · go_simp
        simp only [Act.put, List.setIfInBounds_toArray, List.set_cons_zero, List.set_cons_succ]
        refine wpAnyH_take (i := 31) (oi := { dst := some 85, op := Op.move (Operand.tmp 84), type := 4, pos := "outright.go:358", after := #[{ on := 30, ground := Ground.data }, { on := 28, ground := Ground.chain }], guard := none }) (v := .bool false) rfl (by kernel_rfl) (by kernel_rfl) (by kernel_rfl) (fun _ _ _ h => h) (Or.inl ⟨by rfl, fun w' hSw => ?_⟩) hG7 ?_
        · go_simp
        simp only [Act.put, List.setIfInBounds_toArray, List.set_cons_zero, List.set_cons_succ]
        refine wpAnyH_take (i := 32) (oi := { dst := some 86, op := Op.move (Operand.tmp 5), type := 23, pos := "outright.go:358", after := #[{ on := 31, ground := Ground.guard }], guard := some (31, false) }) (v := .pointer (some ⟨w.heap.size, 0, none⟩)) rfl (by kernel_rfl) (by kernel_rfl) (by kernel_rfl) (fun _ _ _ h => h) (Or.inl ⟨by rfl, fun w' hSw => ?_⟩) hG7 ?_
        · go_simp
        simp only [Act.put, List.setIfInBounds_toArray, List.set_cons_zero, List.set_cons_succ]
        refine wpAnyH_take (i := 33) (oi := { dst := some 87, op := Op.fieldAddr 40 (Operand.tmp 11) 1, type := 0, pos := "outright.go:358", after := #[{ on := 31, ground := Ground.guard }], guard := some (31, false) }) (v := .pointer (some ⟨sb, 1, none⟩)) rfl (by kernel_rfl) (by kernel_rfl) (by kernel_rfl) (fun _ _ _ h => h) (Or.inl ⟨by rfl, fun w' hSw => ?_⟩) hG7 ?_
        · go_simp
        simp only [Act.put, List.setIfInBounds_toArray, List.set_cons_zero, List.set_cons_succ]
        refine wpAnyH_take (i := 34) (oi := { dst := some 88, op := Op.load 28 (Operand.tmp 87), type := 28, pos := "outright.go:358", after := #[{ on := 33, ground := Ground.data }, { on := 31, ground := Ground.guard }], guard := some (31, false) }) (v := .int .u64 o.file) rfl (by kernel_rfl) (by kernel_rfl) (by kernel_rfl) (fun _ _ _ h => h) (Or.inl ⟨by rfl, fun w' hSw => ?_⟩) hG7 ?_
        · have z := block_cell hSw.op 1
          simp [Ow.cs] at z
          go_simp
        simp only [Act.put, List.setIfInBounds_toArray, List.set_cons_zero, List.set_cons_succ]
        refine wpAnyH_ready (rs := [35]) (by kernel_rfl) (by simp) ?_
        refine AllReadyH.cons rfl (fun K hK => ?_) AllReadyH.nil
        go_simp
        go_wp2_with fail
        refine (HRM.out _ hG7).mono ?_
        rintro e w8 ⟨rfl, G8⟩
        go_wp2_with fail
        refine hK.out _ _ G8.out (fun hG8 => ?_)
        clear hK K
        refine wpAnyH_take (i := 36) (oi := { dst := some 90, op := Op.binOp BinOp.neq 43 (Operand.tmp 89) (Operand.const (Value.int IntKind.i64 3)) 43, type := 4, pos := "outright.go:358", after := #[{ on := 35, ground := Ground.data }, { on := 31, ground := Ground.guard }], guard := some (31, false) }) (v := .bool false) rfl (by kernel_rfl) (by kernel_rfl) (by kernel_rfl) (fun _ _ _ h => h) (Or.inl ⟨by rfl, fun w' hSw => ?_⟩) hG8 ?_
        · go_simp
        simp only [Act.put, List.setIfInBounds_toArray, List.set_cons_zero, List.set_cons_succ]
        refine wpAnyH_take (i := 37) (oi := { dst := some 91, op := Op.pick (Operand.tmp 85) (Operand.const (Value.bool true)) (Operand.tmp 90), type := 4, pos := "outright.go:358", after := #[{ on := 31, ground := Ground.data }, { on := 36, ground := Ground.data }], guard := none }) (v := .bool false) rfl (by kernel_rfl) (by kernel_rfl) (by kernel_rfl) (fun _ _ _ h => h) (Or.inl ⟨by rfl, fun w' hSw => ?_⟩) hG8 ?_
        · go_simp
        simp only [Act.put, List.setIfInBounds_toArray, List.set_cons_zero, List.set_cons_succ]
        refine wpAnyH_done (by kernel_rfl) ?_ _
        clear HCR HAP HSY HCT HRM hG3 hG4 hG5 hG6 hG7 hG8 G3 G4 G5 G6 G7 HR3 hH
        have y1 := block_cell G8.out.op 1
        have y3 := block_cell G8.out.op 3
        have yl := block_lt G8.out.op
        simp [Ow.cs] at y1 y3
        go_wp2_with fail
        refine (readD G8.out.dn _).mono ?_
        rintro e w9 ⟨rfl, hw⟩
        rw [hw]
        clear hw
        go_wp2_with fail
        refine (HLE.out _ G8.out).mono ?_
        rintro e w10 ⟨g10, rfl, G10⟩
        clear y1 y3 yl
        go_wp2_with fail
        refine (appendG G10.out.gn _ _ _).mono ?_
        rintro e w11 ⟨f11, rfl, G11⟩
        have HR11 := hide (G10.out.next G11.out.2)
        go_wp2_with fail
        refine (HNO.out _ _ G11.out.1 HR11.out).mono ?_
        rintro e w12 ⟨rfl, G12⟩
        go_wp2_with fail
        refine (syncG G12.out.gn).mono ?_
        rintro e w13 ⟨f13, rfl, G13⟩
        have HR13 := hide (G12.out.next G13.out.2)
        go_wp2_with fail
        refine (HNO.out _ _ G13.out.1 HR13.out).mono ?_
        rintro e w14 ⟨rfl, G14⟩
        have y5 := block_cell G14.out.op 5
        have yl := block_lt G14.out.op
        simp [Ow.cs] at y5
        go_wp2_with fail
        refine (lendAllN G14.out.ok.hL G14.out.bel.size G14.out.ok.hn).mono ?_
        rintro e w15 ⟨g15, rfl, G15⟩
        have HR15 := hide (G14.out.next G15.out)
        clear y5 yl
        go_wp2_with fail
        refine (rotateG HR15.out.gn _ _ _).mono ?_
        rintro e w16 ⟨f16, rfl, G16⟩
        have HR16 := hide (HR15.out.next G16.out.2)
        go_wp2_with fail
        refine (HNO.out _ _ G16.out.1 HR16.out).mono ?_
        rintro e w17 ⟨rfl, G17⟩
        go_wp2_with fail
        refine (lenG G17.out.gn).mono ?_
        rintro e w18 ⟨rfl, hw⟩
        rw [hw]
        clear hw
        go_wp2_with fail
        refine (safeG G17.out.gn).mono ?_
        rintro e w19 ⟨rfl, hw⟩
        rw [hw]
        clear hw
        go_wp2_with fail
        refine (openD G17.out.dn).mono ?_
        rintro e w20 ⟨f20, rfl, G20⟩
        have HR20 := hide (G17.out.next G20.out.2)
        go_wp2_with fail
        refine (HNO.out _ _ G20.out.1 HR20.out).mono ?_
        rintro e w21 ⟨rfl, G21⟩
        have HF : Hid (Below w.heap.size w w21 ∧ Dn w21 (.pointer (some ⟨w.heap.size, 0, none⟩)) ∧ Gn w21 (.pointer (some ⟨w.heap.size + 1, 0, none⟩))) := ⟨G21.out.bel, G21.out.dn, G21.out.gn⟩
        clear HLE HNO G8 G10 G11 HR11 G12 G13 HR13 G14 G15 HR15 G16 HR16 G17 G20 HR20 G21
        go_wp2
        go_roundw
        case rel => exact ⟨k + 1, by omega, by go_num, HF.out⟩
        case measure => simp [intOf]; omega
      · obtain rfl : k = n := by omega
        go_wp2_with fail
        refine (HIM.out _ _ HV.out.2.1).mono ?_
        rintro e w4 ⟨rfl, G4⟩
        go_wp2_with fail
        refine (HSI.out _).mono ?_
        rintro e w5 ⟨rfl, G5⟩
        have FIN : Hid (Below w.heap.size w w5) := by
          have b4 := HV.out.1.trans (G4.out.mono HV.out.1.size)
          exact b4.trans (G5.out.mono b4.size)
        clear HV G4 G5
        go_wp2
        go_ret
        exact ⟨rfl, FIN.out⟩
end Go.Proofs.YtcagbggnlfeadaaGreatDoor
