import Derived.Test.YtgaalaoflaklgaaGreatRFw
import Derived.Test.YtgaalaoflaklgaaGreatM29
import Derived.Test.YtgaalaoflaklgaaGreatRDec
import Derived.Deep.RegionHeld
import Derived.Test.YtgaalaoflaklgaaGreatRFm
namespace Go.Proofs.YtgaalaoflaklgaaGreat
open Go.RowKit Crc

def Fd.wok (f : Fd) (node : Int) (nd : Nat) (rs : List Rq) : Prop := match f with
  | .ballot => node = (nd : Int) ∧ nd < 256
  | .slot => True
  | .batch => rs.length ≤ 8 ∧ ∀ r ∈ rs, r.cn ≤ 700
  | .snap => True
/-- What lies beside the writer. -/
structure Wx (base num slot st : Nat) (ro : Option Addr) (rs : List Rq) (b off n : Nat) (do_ : Option Addr) (m dc : Nat) (D : List Nat) (w : World) : Prop where
  hnum : num < 18446744073709551616
  hslot : slot < 18446744073709551616
  hst : st < 18446744073709551616
  hR : Rqs base w ro rs b off
  hn : rs.length = n
  hco : ∀ r ∈ rs, ∀ b off, r.co = some ⟨b, off, none⟩ → b < base
  hS : Shows base w do_ m dc D
  hdo : ∀ b off, do_ = some ⟨b, off, none⟩ → b < base
theorem Wx.below {base num slot st : Nat} {ro : Option Addr} {rs : List Rq} {b off n : Nat} {do_ : Option Addr} {m dc : Nat} {D : List Nat} {w w' : World} (h : Wx base num slot st ro rs b off n do_ m dc D w) (hb : Below base w w') : Wx base num slot st ro rs b off n do_ m dc D w' :=
  ⟨h.hnum, h.hslot, h.hst, h.hR.below hb, h.hn, h.hco, h.hS.belowL hb, h.hdo⟩
theorem wf_any (f : Fd) {base p : Nat} {w : World} {s : WS} {num : Nat} {node : Int} {nd slot st : Nat} {ro : Option Addr} {rs : List Rq} {b off : Nat} {n rc : Nat} {do_ : Option Addr} {m dc : Nat} {D : List Nat} (hW : WrS base w p s) (hK : s.K.R = msgR num node slot st (.slice ro n rc) (.slice do_ m dc)) (hi : s.Inv) (hbs : base ≤ w.heap.size) (hp : base ≤ p) (hx : Wx base num slot st ro rs b off n do_ m dc D w) (hf : f.wok node nd rs) :
    Calls Tryz.prog f.wfn #[.pointer (some ⟨p, 0, none⟩)] w fun e w' => e = .returned (.tuple #[]) ∧ Hid (WrS base w' p (f.lay num nd slot st rs m D s) ∧ Tch 4 w w' p) := by
  cases f with
  | ballot => exact wf_ballot hW hK hi hbs hp nd hf.1 hx.hnum hf.2
  | slot => exact wf_slot hW hK hi hbs hx.hslot
  | batch => exact wf_batch hW hK hi hbs hp hx.hst hx.hR hx.hn hf.1 hf.2 hx.hco
  | snap => exact wf_snap hW hK hi hbs hx.hS hx.hdo
/-- While the fields are written. -/
structure Wl (fs : List Fd) (base p num nd slot st : Nat) (rs : List Rq) (m : Nat) (D : List Nat) (s : WS) (w : World) (k : Nat) (wr : World) : Prop where
  wrs : WrS base wr p (layAll num nd slot st rs m D (fs.take k) s)
  inv : (layAll num nd slot st rs m D (fs.take k) s).Inv
  kk : (layAll num nd slot st rs m D (fs.take k) s).K = s.K
  tch : Tch 4 w wr p
theorem layAll_snoc (num nd slot st : Nat) (rs : List Rq) (m : Nat) (D : List Nat) (fs : List Fd) (f : Fd) (s : WS) : layAll num nd slot st rs m D (fs ++ [f]) s = f.lay num nd slot st rs m D (layAll num nd slot st rs m D fs s) := by simp [layAll]
theorem Wl.next {fs : List Fd} {base p num nd slot st : Nat} {rs : List Rq} {m : Nat} {D : List Nat} {s : WS} {w : World} {k : Nat} {wr w1 : World} {f : Fd} (h : Wl fs base p num nd slot st rs m D s w k wr) (hf : fs[k]? = some f) (h1 : WrS base w1 p (f.lay num nd slot st rs m D (layAll num nd slot st rs m D (fs.take k) s))) (h2 : Tch 4 wr w1 p) : Wl fs base p num nd slot st rs m D s w (k + 1) w1 := by
  have e : layAll num nd slot st rs m D (fs.take (k + 1)) s = f.lay num nd slot st rs m D (layAll num nd slot st rs m D (fs.take k) s) := by
    rw [List.take_add_one, hf]
    exact layAll_snoc num nd slot st rs m D (fs.take k) f s
  refine ⟨by rw [e]; exact h1, by rw [e]; exact lay_inv _ _ _ _ _ _ _ f h.inv, by rw [e, lay_K]; exact h.kk, h.tch.trans h2⟩

set_option maxRecDepth 10000 in
set_option maxHeartbeats 1600000 in
theorem write_any (fs : List Fd) (hfl : fs.length ≤ 5) {base p lb : Nat} {w : World} {s : WS} {num : Nat} {node : Int} {nd slot st : Nat} {ro : Option Addr} {rs : List Rq} {b off : Nat} {n rc : Nat} {do_ : Option Addr} {m dc : Nat} {D : List Nat} (hW : WrS base w p s) (hK : s.K.R = msgR num node slot st (.slice ro n rc) (.slice do_ m dc)) (hi : s.Inv) (hbs : base ≤ w.heap.size) (hp : base ≤ p) (hx : Wx base num slot st ro rs b off n do_ m dc D w) (hf : ∀ f ∈ fs, f.wok node nd rs)
    (hb : Box 4 p w lb (.cells (fs.map fun f => mv f.name (.iface 93 (.pointer (some ⟨p, 0, none⟩)))).toArray 1 (0, 0))) (hsd : (layAll num nd slot st rs m D fs s).sound) (hpl : (layAll num nd slot st rs m D fs s).place = 0) :
    Calls Tryz.prog 36 #[.pointer (some ⟨p, 0, none⟩), .slice (some ⟨lb, 0, none⟩) fs.length fs.length] w fun e w' => ∃ v, e = .returned (.tuple #[v, .nilIface]) ∧ Hid (Owns base w' v (layAll num nd slot st rs m D fs s).L ∧ Below base w w') := by
  have M := mach_prog base p hp
  have H0 : Hid (Wl fs base p num nd slot st rs m D s w 0 w) := ⟨hW, hi, rfl, Tch.refl _ _ _⟩
  have HC : Hid (∀ wr, Tch 4 w wr p → ∀ (k : Nat), k < fs.length → ∃ f, fs[k]? = some f ∧ wr.cell? ⟨lb, k, none⟩ = some (.func (.method f.name) #[.iface 93 (.pointer (some ⟨p, 0, none⟩))] #[])) := fun wr ht k hk => by
    refine ⟨fs[k], List.getElem?_eq_getElem hk, ?_⟩
    rw [block_cell (hb.step ht).at_]
    simp [List.getElem?_eq_getElem hk, mv]
  have HX : Hid (∀ wr, Tch 4 w wr p → Wx base num slot st ro rs b off n do_ m dc D wr ∧ Below base w wr ∧ base ≤ wr.heap.size) := fun wr ht => by
    have hbw := M.belowOf hW hbs ht
    exact ⟨hx.below hbw, hbw, Nat.le_trans hbs ht.size⟩
  have HF := hide hf
  have HKK := hide hK
  have HE : Hid (∀ wr, Wl fs base p num nd slot st rs m D s w fs.length wr → Calls Tryz.prog 26 #[.pointer (some ⟨p, 0, none⟩)] wr fun e w' => ∃ v, e = .returned (.tuple #[v, .nilIface]) ∧ Hid (Owns base w' v (layAll num nd slot st rs m D fs s).L ∧ Below base w w')) := fun wr hl => by
    have h1 := hl.wrs
    rw [List.take_length] at h1
    have hbw := M.belowOf hW hbs hl.tch
    have h2 : Wr (layAll num nd slot st rs m D fs s).K base wr p true 0 0 (layAll num nd slot st rs m D fs s).most (layAll num nd slot st rs m D fs s).L := by
      have h3 := h1
      unfold WrS at h3
      rw [hsd.1, hsd.2, hpl] at h3
      exact h3
    refine (wBytes_good base p 0 _ _ wr h2).mono ?_
    rintro e w' ⟨v, rfl, ho, hb2⟩
    have : base ≤ wr.heap.size := Nat.le_trans hbs hl.tch.size
    exact ⟨v, rfl, ho.low this, hbw.trans (hb2.mono this)⟩
  have hm := wm_any
  have hcf := wc_any
  clear hW hK hi hx hf hb M hsd hpl
  generalize (layAll num nd slot st rs m D fs s).L = LL at *
  go_enter Tryz.func36, Tryz.ntmps36
  go_wp2
  go_loopw [10] (fun i wr => ∃ k : Nat, k ≤ fs.length ∧ i = .int .i64 k ∧ Hid (Wl fs base p num nd slot st rs m D s w k wr)) (fun i _ => fs.length - (intOf i).toNat)
  case atStart => exact ⟨0, by omega, rfl, H0.out⟩
  case round =>
    obtain ⟨k, hk, rfl, HS⟩ := hrel
    clear H0
    by_cases hlt : k < fs.length
    · obtain ⟨f, hf, c0⟩ := HC.out wr HS.out.tch k hlt
      have HFF := hide hf
      clear hf
      go_wp2_with fail
      refine (wf_any (nd := nd) f HS.out.wrs (by rw [HS.out.kk]; exact HKK.out) HS.out.inv (HX.out wr HS.out.tch).2.2 hp (HX.out wr HS.out.tch).1 (HF.out f (List.mem_of_getElem? HFF.out))).mono ?_
      rintro e w1 ⟨rfl, G1⟩
      have HS1 := hide (HS.out.next HFF.out G1.out.1 G1.out.2)
      clear c0 G1 HS
      go_wp2
      exact ⟨⟨k + 1, by omega, by go_num, HS1.out⟩, by simp [intOf]; omega⟩
    · obtain rfl : k = fs.length := by omega
      go_wp2_with fail
      refine (HE.out wr HS.out).mono ?_
      rintro e w2 ⟨v, rfl, G2⟩
      go_wp2
      go_ret2
      exact ⟨_, rfl, G2⟩
end Go.Proofs.YtgaalaoflaklgaaGreat
namespace Go.Proofs.YtgaalaoflaklgaaGreat
open Go.RowKit Crc

theorem newW (w : World) : Calls Tryz.prog 24 #[.int .i64 65507] w fun e w' => e = .returned (.pointer (some ⟨w.heap.size, 0, none⟩)) ∧ w' = w.alloc (.cells #[.bool true, .int .i64 0, .int .i64 0, .int .i64 65507, .slice none 0 0] 97) :=
  (newWriter_any 65507 w).mono (fun _ _ h => ⟨h.1, h.2⟩)
theorem fin_nw {w W : World} {num : Nat} {node : Int} {slot st : Nat} {ro : Option Addr} {n rc : Nat} {do_ : Option Addr} {m dc : Nat} (hb : Below w.heap.size w W) :
    WrS w.heap.size (W.alloc (.cells (List.toArray ([.bool true, .int .i64 0, .int .i64 0, .int .i64 65507, .slice none 0 0] ++ (msgR num node slot st (.slice ro n rc) (.slice do_ m dc)))) 99)) W.heap.size ⟨true, 0, 0, 65507, [], ⟨99, (msgR num node slot st (.slice ro n rc) (.slice do_ m dc))⟩⟩ ∧ Below w.heap.size w (W.alloc (.cells (List.toArray ([.bool true, .int .i64 0, .int .i64 0, .int .i64 65507, .slice none 0 0] ++ (msgR num node slot st (.slice ro n rc) (.slice do_ m dc)))) 99)) ∧ w.heap.size ≤ W.heap.size :=
  ⟨⟨.slice none 0 0, alloc_at _ _, Owns.nil _ _, by simp [Value.ownBlock]⟩, hb.alloc hb.size _, hb.size⟩
theorem build_fw (num : Nat) (node : Int) (slot st : Nat) (ro : Option Addr) (n rc : Nat) (do_ : Option Addr) (m dc : Nat) (w : World) : (Instr.build 99 #[(0, .agg #[.bool true, .int .i64 0, .int .i64 0, .int .i64 65507, .slice none 0 0]), (1, .agg (msgR num node slot st (.slice ro n rc) (.slice do_ m dc)).toArray)]).run Tryz.prog w = .ok (.agg (List.toArray ([.bool true, .int .i64 0, .int .i64 0, .int .i64 65507, .slice none 0 0] ++ (msgR num node slot st (.slice ro n rc) (.slice do_ m dc))))) w := by kernel_rfl
theorem build_ck (num : Nat) (node : Int) (slot st : Nat) (ro : Option Addr) (n rc : Nat) (do_ : Option Addr) (m dc : Nat) (w : World) : (Instr.build 87 #[(0, .agg (msgR num node slot st (.slice ro n rc) (.slice do_ m dc)).toArray)]).run Tryz.prog w = .ok (.agg ((msgR num node slot st (.slice ro n rc) (.slice do_ m dc)) ++ ((List.replicate 16 false).map Value.bool ++ (List.replicate 16 (0 : Int)).map (Value.int .i64))).toArray) w := by kernel_rfl
theorem op_value {P : Program} {o : Oper} {a : Act} {w w' : World} {K : Act → World → Prop} {Q : Exit → Act → World → Prop} {v : Value} (e : (execOp a.eval o).run P w = .ok (.value v) w') (h : K (a.put o.dst v) w') : Oper.wp P o a w K Q := by
  unfold Oper.wp
  rw [e]
  exact h
end Go.Proofs.YtgaalaoflaklgaaGreat
namespace Go.Proofs.YtgaalaoflaklgaaGreat
open Go.RowKit Crc

theorem op_pure {P : Program} {o : Oper} {a : Act} {w : World} {K : Act → World → Prop} {Q : Exit → Act → World → Prop} {v : Value} (e : (execOp a.eval o).run P w = .ok (.value v) w) (h : K (a.put o.dst v) w) : Oper.wp P o a w K Q := op_value e h
theorem exec_build {P : Program} {o : Oper} {a : Act} {w : World} {t : TypeId} {parts : Array (Nat × Operand)} {V : Value} (ho : o.op = .build t parts) (h : (Instr.build t (parts.map fun x => (x.1, a.eval x.2))).run P w = .ok V w) : (execOp a.eval o).run P w = .ok (.value V) w := by
  unfold execOp
  simp only [ho, Sem.run_bind, h, Result.andThen_ok, Sem.run_pure]

set_option maxRecDepth 10000 in
set_option maxHeartbeats 1600000 in
theorem newFW_any (num : Nat) (node : Int) (slot st : Nat) (ro : Option Addr) (n rc : Nat) (do_ : Option Addr) (m dc : Nat) (w : World) :
    Calls Tryz.prog 34 #[.agg (msgR num node slot st (.slice ro n rc) (.slice do_ m dc)).toArray] w fun e w' => ∃ p, e = .returned (.pointer (some ⟨p, 0, none⟩)) ∧ Hid (WrS w.heap.size w' p ⟨true, 0, 0, 65507, [], ⟨99, (msgR num node slot st (.slice ro n rc) (.slice do_ m dc))⟩⟩ ∧ Below w.heap.size w w' ∧ w.heap.size ≤ p) := by
  have HBD := hide (build_fw num node slot st ro n rc do_ m dc)
  have HSZ : Hid ((Tryz.prog.info? 83).map (·.size) = some (List.length (msgR num node slot st (.slice ro n rc) (.slice do_ m dc)))) := by show _ = _; rw [msgR_len]; kernel_rfl
  have HFN : Hid (∀ W : World, Below w.heap.size w W → WrS w.heap.size (W.alloc (.cells (List.toArray ([.bool true, .int .i64 0, .int .i64 0, .int .i64 65507, .slice none 0 0] ++ (msgR num node slot st (.slice ro n rc) (.slice do_ m dc)))) 99)) W.heap.size ⟨true, 0, 0, 65507, [], ⟨99, (msgR num node slot st (.slice ro n rc) (.slice do_ m dc))⟩⟩ ∧ Below w.heap.size w (W.alloc (.cells (List.toArray ([.bool true, .int .i64 0, .int .i64 0, .int .i64 65507, .slice none 0 0] ++ (msgR num node slot st (.slice ro n rc) (.slice do_ m dc)))) 99)) ∧ w.heap.size ≤ W.heap.size) := fun W hb => fin_nw hb
  generalize (msgR num node slot st (.slice ro n rc) (.slice do_ m dc)) = cs at *
  obtain ⟨W, hW⟩ : ∃ W, w.alloc (.cells cs.toArray 83) = W := ⟨_, rfl⟩
  have q0 : W.heap[w.heap.size]? = some (.cells cs.toArray 83 (0, 0)) := by rw [← hW]; exact alloc_at _ _
  have rg : Hid (W.drew.rangeAt w.heap.size 0 cs) := fun j v hv => by
    show W.cell? ⟨w.heap.size, 0 + j, none⟩ = some v
    rw [Nat.zero_add, block_cell q0 j, List.getElem?_toArray]; exact hv
  have B0 : Hid (Below w.heap.size w W) := by show Below _ _ _; rw [← hW]; exact below_alloc1 w _
  have HW := hide hW
  clear hW q0
  go_enter Tryz.func34, Tryz.ntmps34
  go_wp2_with fail
  rw [HW.out]
  clear HW
  refine wp_region_held_drew (S := fun w' => w'.rangeAt w.heap.size 0 cs) (by kernel_rfl) rg.out (fun hH => ?_)
  refine wpAnyH_take (i := 3) (oi := _) (v := .agg cs.toArray) rfl (by kernel_rfl) (by kernel_rfl) (by kernel_rfl) (fun _ _ _ h => h) (yieldsIf_load_mid (by rfl) 83 _ rfl w.heap.size 0 rfl cs _ (fun _ h => h) Tryz.underlying83 rfl HSZ.out) hH ?_
  simp only [Act.put, List.setIfInBounds_toArray]
  refine wpAnyH_ready (rs := [0]) (by kernel_rfl) (by simp) ?_
  refine AllReadyH.cons rfl (fun K hK => ?_) AllReadyH.nil
  go_simp
  go_wp2_with (go_at_call 24; refine (newW _).mono ?_; rintro e w1 ⟨rfl, rfl⟩)
  refine hK.out _ _ (World.rangeAt_alloc hH _) (fun hH1 => ?_)
  clear hK K
  refine wpAnyH_ready (rs := [1]) (by kernel_rfl) (by simp) ?_
  refine AllReadyH.cons rfl (fun K hK => ?_) AllReadyH.nil
  go_simp
  refine hK.out _ _ (hH1) (fun hH2 => ?_)
  clear hK K
  refine wpAnyH_ready (rs := [2]) (by kernel_rfl) (by simp) ?_
  refine AllReadyH.cons rfl (fun K hK => ?_) AllReadyH.nil
  go_simp
  refine hK.out _ _ (hH2) (fun hH3 => ?_)
  clear hK K
  refine wpAnyH_ready (rs := [4]) (by kernel_rfl) (by simp) ?_
  refine AllReadyH.cons rfl (fun K hK => ?_) AllReadyH.nil
  rw [if_pos (by rfl)]
  refine op_pure (exec_build (t := 99) (parts := #[(0, .tmp 5), (1, .tmp 6)]) rfl (by have h := HBD.out; simpa [Act.eval] using h _)) ?_
  refine hK.out _ _ hH3 (fun hH4 => ?_)
  clear hK K
  refine wpAnyH_ready (rs := [5]) (by kernel_rfl) (by simp) ?_
  refine AllReadyH.cons rfl (fun K hK => ?_) AllReadyH.nil
  go_simp
  refine hK.out _ _ (World.rangeAt_alloc hH4 _) (fun hH5 => ?_)
  clear hK K
  refine wpAnyH_ready (rs := [6]) (by kernel_rfl) (by simp) ?_
  refine AllReadyH.cons rfl (fun K hK => ?_) AllReadyH.nil
  go_simp
  refine hK.out _ _ (hH5) (fun hH6 => ?_)
  clear hK K
  refine wpAnyH_done (by kernel_rfl) ?_ _
  go_wp2
  go_ret
  refine ⟨_, rfl, ?_⟩
  have b1 : Below w.heap.size w (W.alloc (.cells #[.bool true, .int .i64 0, .int .i64 0, .int .i64 65507, .slice none 0 0] 97)) := B0.out.alloc B0.out.size _
  have e : (W.alloc (.cells #[.bool true, .int .i64 0, .int .i64 0, .int .i64 65507, .slice none 0 0] 97)).heap.size = W.heap.size + 1 := by simp
  have h := HFN.out _ b1
  rw [e] at h
  exact ⟨h.1, ⟨h.2.1.os, h.2.1.tape, h.2.1.output, h.2.1.size, h.2.1.block⟩, h.2.2⟩
end Go.Proofs.YtgaalaoflaklgaaGreat
namespace Go.Proofs.YtgaalaoflaklgaaGreat
open Go.RowKit Crc

theorem wpList_pure {P : Program} {ops : Array Oper} {rest : List Oper} {op : Oper} {a : Act} {w : World} {Q : Exit → Act → World → Prop} {v : Value} (hgd : op.guard = none) (e : (execOp a.eval op).run P w = .ok (.value v) w) (h : wpList P ops Q rest (a.put op.dst v) w) : wpList P ops Q (op :: rest) a w :=
  wpList_plain hgd fun _ hK => op_pure e (hK _ _ h)
theorem build_msg (num : Nat) (node : Int) (slot st : Nat) (ro : Option Addr) (n rc : Nat) (do_ : Option Addr) (m dc : Nat) (w : World) : (Instr.build 83 #[(1, .agg #[.int .u64 (num : Int), .int .i64 node]), (2, .int .u64 (slot : Int)), (5, .agg #[.int .u64 (st : Int), .slice ro n rc]), (10, .slice do_ m dc)]).run Tryz.prog w = .ok (.agg (msgR num node slot st (.slice ro n rc) (.slice do_ m dc)).toArray) w := by kernel_rfl
theorem Box.ofBelow {j p base : Nat} {I : World → WS → Prop} {s : WS} {w w' : World} {o : Obj} (M : Mach j p base I) (h : I w s) (hb : Below w.heap.size w w') (hat : w'.heap[w.heap.size]? = some o) : Box j p w' w.heap.size o := by
  refine ⟨fun hf => ?_, hat⟩
  have := (M.lt _ _ h _ ((Foot.old hb (M.plt h)).1 hf)).2
  omega
/-- What stands while a record is encoded. -/
structure Es (w : World) (R : Array Value) (bm cb : Nat) (cs : List Value) (W : World) : Prop where
  bel : Below w.heap.size w W
  rb : W.heap[w.heap.size]? = some (.cells R 31 (0, 0))
  mb : W.rangeAt bm 0 cs
  lt : w.heap.size < bm
  lt2 : bm < cb
  lt3 : cb ≤ W.heap.size
theorem Es.next {w : World} {R : Array Value} {bm cb : Nat} {cs : List Value} {W W' : World} (h : Es w R bm cb cs W) (hb : Below cb W W') : Es w R bm cb cs W' := by
  have h1 := h.lt
  have h2 := h.lt2
  have h3 := h.lt3
  refine ⟨h.bel.trans (hb.mono (by omega)), (hb.block _ (by omega)).trans h.rb, fun j v hv => ?_, h1, h2, Nat.le_trans h3 hb.size⟩
  exact (hb.cell (p := ⟨bm, 0 + j, none⟩) (by simpa using h2)).trans (h.mb j v hv)
theorem Es.below {w : World} {R : Array Value} {bm cb : Nat} {cs : List Value} {W W' : World} (h : Es w R bm cb cs W) (hb : Below W.heap.size W W') : Es w R bm cb cs W' := h.next (hb.mono h.lt3)
set_option maxRecDepth 10000 in
theorem place_any (a : Int) (w : World) : Calls Tryz.prog 33 #[.int .i64 a] w fun e w' => e = .returned (.int .i64 (plc a)) ∧ w' = w := by
  unfold plc
  by_cases h5 : a = 5
  · subst h5
    rw [if_pos rfl]
    go_enter Tryz.func33, Tryz.ntmps33
    go_wp2
    go_ret
    exact ⟨rfl, rfl⟩
  · rw [if_neg h5]
    by_cases h10 : a = 10
    · subst h10
      rw [if_pos rfl]
      go_enter Tryz.func33, Tryz.ntmps33
      go_wp2
      go_ret
      exact ⟨rfl, rfl⟩
    · rw [if_neg h10]
      have d5 : (a == 5) = false := by simp; omega
      have d10 : (a == 10) = false := by simp; omega
      go_enter Tryz.func33, Tryz.ntmps33
      go_wp2
      go_ret
      exact ⟨rfl, rfl⟩
theorem fsOf_nil {k : Int} : fsOf k = [] ↔ k < 1 ∨ 5 < k := by
  unfold fsOf
  constructor
  · intro h
    split at h
    · cases h
    · split at h
      · cases h
      · split at h
        · cases h
        · split at h
          · cases h
          · omega
  · intro h
    rw [if_neg (by omega), if_neg (by omega), if_neg (by omega), if_neg (by omega)]
theorem rNo_kind {k : Int} {num : Nat} {node : Int} {slot st : Nat} {rs : List Rq} {m : Nat} (h : fsOf k = []) : rNo k num node slot st rs m = (25, 0) := by
  unfold rNo
  rw [if_pos (fsOf_nil.1 h)]
theorem setCells_block {t : TypeId} (b : Nat) : ∀ (vs : List Value) (o : Nat) (w : World) (C : Array Value), w.heap[b]? = some (.cells C t (0, 0)) → ∃ C' : Array Value, (w.setCells b o vs).heap[b]? = some (.cells C' t (0, 0)) ∧ C'.size = C.size
  | [], _, w, C, h => ⟨C, h, rfl⟩
  | v :: r, o, w, C, h => by
    rw [World.setCells]
    have h1 := heap_setCell_same w b o _ _ v h
    obtain ⟨C', h2, h3⟩ := setCells_block b r (o + 1) _ _ h1
    exact ⟨C', h2, by rw [h3]; simp⟩
theorem block_of_range {W : World} {b : Nat} {C : Array Value} {t : TypeId} {cs : List Value} (hb : W.heap[b]? = some (.cells C t (0, 0))) (hs : C.size = cs.length) (hr : W.rangeAt b 0 cs) : W.heap[b]? = some (.cells cs.toArray t (0, 0)) := by
  have e : C = cs.toArray := by
    refine Array.ext (by simpa using hs) (fun i h1 h2 => ?_)
    have h3 := hr i _ (List.getElem?_eq_getElem (by simpa using h2))
    rw [Nat.zero_add, block_cell hb i, Array.getElem?_eq_getElem h1] at h3
    simpa using h3
  rw [← e]
  exact hb
/-- A struct that is stored into a box of its own: the box. -/
theorem wpList_store_box {P : Program} {ops : Array Oper} {rest : List Oper} {op : Oper} {a : Act} {w : World} {Z : Array Value} {t : TypeId} {Q : Exit → Act → World → Prop} (hgd : op.guard = none) (ty : TypeId) (x y : Operand) (ho : op.op = .store ty x y)
    (cs : List Value) (hx : a.eval x = .pointer (some ⟨w.heap.size, 0, none⟩)) (hy : a.eval y = .agg cs.toArray)
    (hz : cs.length = Z.size) (hi : (P.info? ty).map (·.size) = some cs.length) (h1 : ∀ v ∈ cs, v.oneCell' = true)
    (h : ∀ W, w.grownBy W none → W.heap[w.heap.size]? = some (.cells cs.toArray t (0, 0)) → wpList P ops Q rest (a.put op.dst undef) W) : wpList P ops Q (op :: rest) a (w.alloc (.cells Z t)) := by
  have ht : (w.alloc (.cells Z t)).there w.heap.size 0 cs.length := there_new (by omega)
  refine wpList_store_mid hgd ty x y ho w.heap.size 0 cs.toArray hx hy (by simpa using ht) (by simpa using hi) (all_oneCell_toArray h1) ?_
  have g := grown_setCells w.heap.size cs.toArray.toList 0 (w.alloc (.cells Z t))
  obtain ⟨C', h2, h3⟩ := setCells_block w.heap.size cs.toArray.toList 0 (w.alloc (.cells Z t)) Z (alloc_at _ _)
  exact h _ (grown_new g) (block_of_range h2 (by omega) (World.rangeAt_setCells_same _ _ _ _ ht))
end Go.Proofs.YtgaalaoflaklgaaGreat
