import Derived.Test.YtidhondcfagoaaaDoorM1
import Derived.Test.YtidhondcfagoaaaDoorM39
import Derived.Deep.MidRow
namespace Go.Proofs.YtidhondcfagoaaaDoor
open Go.RowKit Crc

/-- An operation with a known run. -/
theorem op_value {P : Program} {o : Oper} {a : Act} {w w' : World} {K : Act → World → Prop} {Q : Exit → Act → World → Prop} {v : Value} (e : (execOp a.eval o).run P w = .ok (.value v) w') (h : K (a.put o.dst v) w') : Oper.wp P o a w K Q := by
  unfold Oper.wp
  rw [e]
  exact h
theorem op_pure {P : Program} {o : Oper} {a : Act} {w : World} {K : Act → World → Prop} {Q : Exit → Act → World → Prop} {v : Value} (e : (execOp a.eval o).run P w = .ok (.value v) w) (h : K (a.put o.dst v) w) : Oper.wp P o a w K Q := op_value e h
theorem exec_build {P : Program} {o : Oper} {a : Act} {w : World} {t : TypeId} {parts : Array (Nat × Operand)} {V : Value} (ho : o.op = .build t parts) (h : (Instr.build t (parts.map fun x => (x.1, a.eval x.2))).run P w = .ok V w) : (execOp a.eval o).run P w = .ok (.value V) w := by
  unfold execOp
  simp only [ho, Sem.run_bind, h, Result.andThen_ok, Sem.run_pure]
theorem wpList_pure {P : Program} {ops : Array Oper} {rest : List Oper} {op : Oper} {a : Act} {w : World} {Q : Exit → Act → World → Prop} {v : Value} (hgd : op.guard = none) (e : (execOp a.eval op).run P w = .ok (.value v) w) (h : wpList P ops Q rest (a.put op.dst v) w) : wpList P ops Q (op :: rest) a w :=
  wpList_plain hgd fun _ hK => op_pure e (hK _ _ h)
end Go.Proofs.YtidhondcfagoaaaDoor
namespace Go.Proofs.YtidhondcfagoaaaDoor
open Go.RowKit Crc

/-- The bytes of a hash that lie ahead. -/
def hashB (B : List Nat) : List Nat := if B.length < 32 then List.replicate 32 0 else B.take 32
theorem hashB_len (B : List Nat) : (hashB B).length = 32 := by
  unfold hashB
  split
  · simp
  · rw [List.length_take]; omega
set_option maxRecDepth 10000 in
set_option maxHeartbeats 400000 in
theorem ahead32_no {w : World} (ao : Option Addr) (n cap : Nat) (hn : n < 32) :
    Calls Tryd.prog 75 #[.slice ao n cap, .int .i64 32] w fun e w' => e = .returned (.tuple #[.slice none 0 0, .int .i64 20]) ∧ w' = w := by
  have d : decide ((n : Int) < 32) = true := by simp; omega
  clear hn
  go_enter Tryd.func75, Tryd.ntmps75
  go_wp2
  go_ret2
  exact ⟨rfl, rfl⟩
set_option maxRecDepth 10000 in
set_option maxHeartbeats 400000 in
theorem ahead32_yes {w : World} (b off n cap : Nat) (hn : 32 ≤ n) (hc : n ≤ cap) :
    Calls Tryd.prog 75 #[.slice (some ⟨b, off, none⟩) n cap, .int .i64 32] w fun e w' => e = .returned (.tuple #[.slice (some ⟨b, off, none⟩) 32 cap, .int .i64 0]) ∧ w' = w := by
  have d : decide ((n : Int) < 32) = false := by simp; omega
  have hkc : (32 : Int) ≤ (cap : Int) := by omega
  go_enter Tryd.func75, Tryd.ntmps75
  go_wp2
  go_ret2
  exact ⟨rfl, rfl⟩

theorem block_there2 {W : World} {g : Nat} {Z : Array Value} {t : TypeId} {n : Nat} (hb : W.heap[g]? = some (.cells Z t (0, 0))) (h : n ≤ Z.size) : W.there g 0 n := fun j hj => by
  rw [Nat.zero_add, block_cell hb j]
  exact ⟨by rw [Array.getElem?_eq_getElem (by omega)]; rfl, block_free hb j⟩
theorem range_block {W : World} {g : Nat} {cs : List Value} {t : TypeId} (hb : W.heap[g]? = some (.cells cs.toArray t (0, 0))) : W.rangeAt g 0 cs := fun j v hv => by
  rw [Nat.zero_add, block_cell hb j]
  simpa using hv
theorem grown_setCellsH (b : Nat) : ∀ (vs : List Value) (o : Nat) (w : World), w.grownBy (w.setCells b o vs) (some b)
  | [], _, w => ⟨rfl, rfl, rfl, Nat.le_refl _, fun _ _ _ => rfl⟩
  | v :: r, o, w => by
    rw [World.setCells]
    exact grown_trans (row := some b) (grown_set w b o v) (grown_setCellsH b r (o + 1) _)
theorem grown_row (w : World) (g : Nat) (cs : Array Value) : w.grownBy (w.setRow g cs) (some g) :=
  ⟨rfl, rfl, rfl, by simp [World.setRow], fun k _ hk => setRow_other w g k cs (fun e => hk (by rw [e]))⟩
/-- What is new does not count. -/
theorem grown_newer {w W W' : World} {g : Nat} {row : Option Nat} (h : w.grownBy W row) (hg : W.grownBy W' (some g)) (hn : w.heap.size ≤ g) : w.grownBy W' row :=
  ⟨hg.os.trans h.os, hg.tape.trans h.tape, hg.output.trans h.output, Nat.le_trans h.size hg.size, fun k hk hr => (hg.block k (Nat.lt_of_lt_of_le hk h.size) (by simp; omega)).trans (h.block k hk hr)⟩
theorem grown_weak {w W : World} (h : w.grownBy W none) (p : Nat) : w.grownBy W (some p) := ⟨h.os, h.tape, h.output, h.size, fun k hk _ => h.block k hk (by simp)⟩
theorem two_boxes {w W : World} {Z1 Z2 : Array Value} {t : TypeId} (hW : (w.alloc (.cells Z1 t)).alloc (.cells Z2 t) = W) : w.grownBy W none ∧ W.heap[w.heap.size]? = some (.cells Z1 t (0, 0)) ∧ W.heap[w.heap.size + 1]? = some (.cells Z2 t (0, 0)) ∧ W.heap.size = w.heap.size + 1 + 1 := by
  have hsz : (w.alloc (.cells Z1 t)).heap.size = w.heap.size + 1 := by simp
  subst hW
  refine ⟨grown_quiet (World.grownBy_alloc _ _ _) (World.grownBy_alloc _ _ _), ?_, ?_, by simp⟩
  · exact ((World.grownBy_alloc _ _ none).block _ (by rw [hsz]; omega) (by simp)).trans (alloc_at _ _)
  · rw [← hsz]; exact alloc_at _ _

set_option maxRecDepth 10000 in
set_option maxHeartbeats 1600000 in
theorem readHash_yes (lim p : Nat) (s : RS) (w : World) (hR : RdS lim w p s) (h32 : 32 ≤ s.rest.length) :
    Calls Tryd.prog 64 #[.pointer (some ⟨p, 0, none⟩)] w fun e w' => e = .returned (.agg (vals (s.rest.take 32)).toArray) ∧ Hid (RdS lim w' p (s.step 32 0) ∧ w.grownBy w' (some p)) := by
  have hp := hR.plt
  have HRR := hide hR
  have HH : Hid ((s.rest.take 32).length = 32 ∧ ∀ x ∈ s.rest.take 32, x < 256) := ⟨by rw [List.length_take]; omega, fun x hx => (rest_lt hR).1 x (List.mem_of_mem_take hx)⟩
  have H32 := hide h32
  have HRL : Hid (lim ≤ p) := by obtain ⟨_, _, _, _, _, hl⟩ := hR; exact hl
  have HSZ : Hid ((Tryd.prog.info? 44).map (·.size) = some (vals (s.rest.take 32)).length) := by show _ = _; rw [vals_len, HH.out.1]; kernel_rfl
  have HFT : Hid (s.sound → s.pos + 32 ≤ s.B.length) := fun h => by have := rest_len h; omega
  clear hR h32
  obtain ⟨H, hH⟩ : ∃ H, s.rest.take 32 = H := ⟨_, rfl⟩
  have HHe := hide hH
  rw [hH] at HH HSZ ⊢
  clear hH
  go_enter Tryd.func64, Tryd.ntmps64
  go_wp2_with fail
  generalize hW : World.alloc (World.alloc w _) _ = W
  obtain ⟨Z1, Z2, z1, z2, hW⟩ : ∃ Z1 Z2 : Array Value, Z1.size = 32 ∧ Z2.size = 32 ∧ (w.alloc (.cells Z1 44)).alloc (.cells Z2 44) = W := ⟨_, _, by rfl, by rfl, hW⟩
  obtain ⟨g0, b0, b1, hsz⟩ := two_boxes hW
  have HZ := hide (And.intro z1 z2)
  have G0 := hide g0
  have B0 := hide b0
  have B1 := hide b1
  clear hW z1 z2 g0 b0 b1 hsz
  refine (rest_any lim p s.made s.place s.why s.B s.pos W (HRR.out.quiet G0.out)).mono ?_
  rintro e w1 ⟨ao, n, cap, rfl, hS, q, hq⟩
  have hn : 32 ≤ n ∧ n ≤ cap ∧ n = s.rest.length := ⟨by rw [hS.1]; exact H32.out, hS.2.1, hS.1⟩
  obtain ⟨n32, ncap, -⟩ := hn
  obtain ⟨b, off, e1, hsrc⟩ : ∃ b off, ao = some ⟨b, off, none⟩ ∧ ∀ j v, (vals H)[j]? = some v → w1.cell? ((⟨b, off, none⟩ : Addr).add j) = some v := by
    obtain ⟨h1, h2, h3, h4, b, off, h5, h6, h7⟩ := hS
    refine ⟨b, off, h5 (by omega), ?_⟩
    refine vals_cell (fun i hi => ?_)
    have hl := HH.out.1
    rw [hq, ← HHe.out, getD_take (by omega)]
    exact h7 i (by omega)
  subst e1
  have HSRC := hide hsrc
  have G1 : Hid (w.grownBy w1 none) := by rw [hq]; exact grown_quiet G0.out (drew_grown W q)
  have R1 : Hid (RdS lim w1 p s) := by rw [hq]; exact HRR.out.quiet (grown_quiet G0.out (drew_grown W q))
  have B01 : Hid (w1.heap[w.heap.size]? = some (.cells Z1 44 (0, 0))) := by rw [hq]; exact B0.out
  have B11 : Hid (w1.heap[w.heap.size + 1]? = some (.cells Z2 44 (0, 0))) := by rw [hq]; exact B1.out
  clear hq hS hsrc G0 B0 B1 HRR
  go_wp2_with fail
  refine (ahead32_yes b off n cap n32 ncap).mono ?_
  rintro e w2 ⟨rfl, rfl⟩
  have hcs : (vals H).length = Nat.min 32 32 := by rw [vals_len]; exact HH.out.1
  have hcl : (vals H).length = 32 := by rw [vals_len]; exact HH.out.1
  have HCS := hide hcs
  have HCL := hide hcl
  clear hcs hcl
  go_wp2_with (refine wpList_copy_own rfl (.tmp 12) (.tmp 13) 22 22 rfl 5 Tryd.underlying22 size5 (w.heap.size + 1) 0 32 32 ⟨b, off, none⟩ 32 cap rfl rfl Z2 44 B11.out (vals H) HCS.out HSRC.out (by rw [HCL.out, HZ.out.2]; omega) (vals_one' H) ?_)
  have hrow : vals H ++ List.drop (vals H).length Z2.toList = vals H := by
    rw [List.drop_of_length_le (by rw [HCL.out, Array.length_toList, HZ.out.2]; omega)]
    simp
  rw [hrow]
  generalize hW3 : World.setRow w2 (w.heap.size + 1) (vals H).toArray = W3
  have g3 := grown_row w2 (w.heap.size + 1) (vals H).toArray
  have hb3 := setRow_heap w2 (w.heap.size + 1) _ (vals H).toArray _ _ B11.out
  rw [hW3] at g3 hb3
  have hl := HRL.out
  have B13 := hide hb3
  have B03 : Hid (W3.heap[w.heap.size]? = some (.cells Z1 44 (0, 0))) := (g3.block _ (block_lt B01.out) (by simp)).trans B01.out
  have R3 : Hid (RdS lim W3 p s) := R1.out.kept g3 (fun g e => by cases e; omega)
  have N3 := hide (grown_newer G1.out g3 (by omega))
  clear hW3 hrow g3 hb3 G1 R1 B01 B11 HSRC n32 ncap hl
  refine (step_any lim p s 32 32 0 W3 R3.out rfl (fun h _ => HFT.out h)).mono ?_
  rintro e w4 ⟨rfl, r4, g4⟩
  have R4 := hide r4
  have N4 := hide (grown_trans (row := some p) (grown_weak N3.out p) g4)
  have B14 := hide ((g4.block _ (block_lt B13.out) (by simp; omega)).trans B13.out)
  have B04 := hide ((g4.block _ (block_lt B03.out) (by simp; omega)).trans B03.out)
  have RG4 := hide (range_block B14.out)
  have TH4 : Hid (w4.there w.heap.size 0 (vals H).length) := block_there2 B04.out (by rw [HCL.out, HZ.out.1]; omega)
  clear r4 g4 R3 N3 B13 B03
  go_wp2_with (first
    | (refine wpList_load_mid rfl 44 _ rfl (w.heap.size + 1) 0 rfl (vals H) _ RG4.out Tryd.underlying44 rfl HSZ.out ?_)
    | (refine wpList_store_mid rfl 44 _ _ rfl w.heap.size 0 (vals H).toArray rfl rfl (by simpa using TH4.out) (by simpa using HSZ.out) (all_oneCell_toArray (vals_one' H)) ?_))
  have hl := HRL.out
  have hld := run_loadVar_mid (P := Tryd.prog) (w4.setCells w.heap.size 0 (vals H)) w.heap.size 0 44 (vals H) _ (World.rangeAt_setCells_same _ _ _ _ TH4.out) Tryd.underlying44 rfl HSZ.out
  refine bodyPost_ret (v := .agg (vals H).toArray) ?_ rfl ⟨rfl, R4.out.kept (grown_setCellsH _ _ _ _) (fun g e => by cases e; omega), grown_newer N4.out (grown_setCellsH _ _ _ _) (Nat.le_refl _)⟩
  simp [results, Tryd.results64, asAddr, hld, Act.put]

theorem copy_nil (g : Nat) (w : World) : (Builtin.copy_ #[22, 22] 3 #[.slice (some ⟨g, 0, none⟩) 32 32, .slice none 0 0]).run Tryd.prog w = .ok (.int .i64 0) w := by kernel_rfl
set_option maxRecDepth 10000 in
set_option maxHeartbeats 1600000 in
theorem readHash_no (lim p : Nat) (s : RS) (w : World) (hR : RdS lim w p s) (h32 : s.rest.length < 32) :
    Calls Tryd.prog 64 #[.pointer (some ⟨p, 0, none⟩)] w fun e w' => e = .returned (.agg (vals (List.replicate 32 0)).toArray) ∧ Hid (RdS lim w' p (s.step 32 20) ∧ w.grownBy w' (some p)) := by
  have hp := hR.plt
  have HRR := hide hR
  have HCL : Hid ((vals (List.replicate 32 0)).length = 32) := rfl
  have H32 := hide h32
  have HRL : Hid (lim ≤ p) := by obtain ⟨_, _, _, _, _, hl⟩ := hR; exact hl
  have HSZ : Hid ((Tryd.prog.info? 44).map (·.size) = some (vals (List.replicate 32 0)).length) := by show _ = _; rw [HCL.out]; kernel_rfl
  clear hR h32
  obtain ⟨H, hH⟩ : ∃ H, List.replicate 32 0 = H := ⟨_, rfl⟩
  have HHe := hide hH
  rw [hH] at HCL HSZ ⊢
  clear hH
  go_enter Tryd.func64, Tryd.ntmps64
  go_wp2_with fail
  generalize hW : World.alloc (World.alloc w _) _ = W
  obtain ⟨Z1, Z2, z1, z2, hW⟩ : ∃ Z1 Z2 : Array Value, Z1.size = 32 ∧ Z2 = (vals (List.replicate 32 0)).toArray ∧ (w.alloc (.cells Z1 44)).alloc (.cells Z2 44) = W := ⟨_, _, by rfl, by rfl, hW⟩
  obtain ⟨g0, b0, b1, hsz⟩ := two_boxes hW
  rw [z2, HHe.out] at b1
  have HZ := hide z1
  have G0 := hide g0
  have B0 := hide b0
  have B1 := hide b1
  clear hW z1 z2 g0 b0 b1 hsz
  refine (rest_any lim p s.made s.place s.why s.B s.pos W (HRR.out.quiet G0.out)).mono ?_
  rintro e w1 ⟨ao, n, cap, rfl, hS, q, hq⟩
  have n32 : n < 32 := by rw [hS.1]; exact H32.out
  have G1 : Hid (w.grownBy w1 none) := by rw [hq]; exact grown_quiet G0.out (drew_grown W q)
  have R1 : Hid (RdS lim w1 p s) := by rw [hq]; exact HRR.out.quiet (grown_quiet G0.out (drew_grown W q))
  have B03 : Hid (w1.heap[w.heap.size]? = some (.cells Z1 44 (0, 0))) := by rw [hq]; exact B0.out
  have B13 : Hid (w1.heap[w.heap.size + 1]? = some (.cells (vals H).toArray 44 (0, 0))) := by rw [hq]; exact B1.out
  clear hq hS G0 B0 B1 HRR
  go_wp2_with fail
  refine (ahead32_no ao n cap n32).mono ?_
  rintro e w2 ⟨rfl, rfl⟩
  have hcp := copy_nil (w.heap.size + 1)
  clear n32
  go_wp2_with fail
  refine (step_any lim p s 32 32 20 w2 R1.out rfl (fun _ h => by cases h)).mono ?_
  rintro e w4 ⟨rfl, r4, g4⟩
  have R4 := hide r4
  have N4 := hide (grown_trans (row := some p) (grown_weak G1.out p) g4)
  have B14 := hide ((g4.block _ (block_lt B13.out) (by simp; omega)).trans B13.out)
  have B04 := hide ((g4.block _ (block_lt B03.out) (by simp; omega)).trans B03.out)
  have RG4 := hide (range_block B14.out)
  have TH4 : Hid (w4.there w.heap.size 0 (vals H).length) := block_there2 B04.out (by rw [HCL.out, HZ.out]; omega)
  clear r4 g4 R1 G1 B13 B03
  go_wp2_with (first
    | (refine wpList_load_mid rfl 44 _ rfl (w.heap.size + 1) 0 rfl (vals H) _ RG4.out Tryd.underlying44 rfl HSZ.out ?_)
    | (refine wpList_store_mid rfl 44 _ _ rfl w.heap.size 0 (vals H).toArray rfl rfl (by simpa using TH4.out) (by simpa using HSZ.out) (all_oneCell_toArray (vals_one' H)) ?_))
  have hl := HRL.out
  have hld := run_loadVar_mid (P := Tryd.prog) (w4.setCells w.heap.size 0 (vals H)) w.heap.size 0 44 (vals H) _ (World.rangeAt_setCells_same _ _ _ _ TH4.out) Tryd.underlying44 rfl HSZ.out
  refine bodyPost_ret (v := .agg (vals H).toArray) ?_ rfl ⟨rfl, R4.out.kept (grown_setCellsH _ _ _ _) (fun g e => by cases e; omega), grown_newer N4.out (grown_setCellsH _ _ _ _) (Nat.le_refl _)⟩
  simp [results, Tryd.results64, asAddr, hld, Act.put]

/-- A hash that is read. -/
def rdHash (s : RS) : RS := s.step 32 (aheadW s.rest 32)
theorem readHash_any (lim p : Nat) (s : RS) (w : World) (hR : RdS lim w p s) :
    Calls Tryd.prog 64 #[.pointer (some ⟨p, 0, none⟩)] w fun e w' => e = .returned (.agg (vals (hashB s.rest)).toArray) ∧ Hid (RdS lim w' p (rdHash s) ∧ w.grownBy w' (some p)) := by
  unfold rdHash aheadW hashB
  by_cases h : s.rest.length < 32
  · rw [if_pos h, if_pos h]; exact readHash_no lim p s w hR h
  · rw [if_neg h, if_neg h]; exact readHash_yes lim p s w hR (by omega)
end Go.Proofs.YtidhondcfagoaaaDoor
