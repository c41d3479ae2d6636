import Derived.Test.YtgaalaoflaklgaaGreatPRefBlob
import Derived.Test.YtgaalaoflaklgaaGreatM8
import Derived.Test.YtgaalaoflaklgaaGreatM12
import Derived.Test.YtgaalaoflaklgaaGreatM25
import Derived.Test.YtgaalaoflaklgaaGreatRList
namespace Go.Proofs.YtgaalaoflaklgaaGreat
open Go.RowKit Crc

theorem strOf_size (L : List Nat) : (strOf L).size = L.length := by
  have h := foldl_push (L.map (fun (x : Nat) => (x : Int))) ByteArray.empty
  have h2 : (strOf L).data.toList.length = L.length := by
    unfold strOf
    rw [h]
    simp
  rw [Array.length_toList] at h2
  exact h2
theorem strOf_nil : strOf [] = ByteArray.empty := rfl
/-- A step that is taken back. -/
theorem RS.step_twice {s : RS} (hs : s.sound) (z z' : Nat) {y : Int} (hy : y ≠ 0) : { s.step z 0 with why := y, place := (s.pos : Int), pos := s.pos } = s.step z' y := RS.step_back hs z z' hy

end Go.Proofs.YtgaalaoflaklgaaGreat
namespace Go.Proofs.YtgaalaoflaklgaaGreat
open Go.RowKit Crc

/-- Both readers, in one state. -/
structure Pair (base limr d pv : Nat) (po : Option Addr) (w : World) (s : RS) : Prop where
  prog : RdP limr w po s
  ref : RefS d w pv s
  place : s.sound → s.place = 0
  plain : s.made = false → s.B.length = s.pos
  lim : limr ≤ pv
  nepv : rowP po ≠ some pv
  ned : rowP po ≠ some d
  bpo : ∀ g, rowP po = some g → base ≤ g ∧ g < w.heap.size
  bpv : base ≤ pv
  dlt : d < w.heap.size
  len : s.B.length ≤ 140737488351232
def Keep (base : Nat) (w w' : World) : Prop := ∀ W, Below base W w → Below base W w'
/-- What a step leaves. -/
def Res (base limr d pv : Nat) (po : Option Addr) (w w' : World) : Prop := (∃ s', Pair base limr d pv po w' s') ∧ Keep base w w'
theorem Keep.trans {base : Nat} {a b c : World} (h : Keep base a b) (k : Keep base b c) : Keep base a c := fun W hW => k W (h W hW)
theorem Pair.pvlt {base limr d pv : Nat} {po : Option Addr} {w : World} {s : RS} (h : Pair base limr d pv po w s) : pv < w.heap.size := refS_size h.ref
theorem Pair.base_le {base limr d pv : Nat} {po : Option Addr} {w : World} {s : RS} (h : Pair base limr d pv po w s) : base ≤ w.heap.size := by have h1 := h.bpv; have h2 := h.pvlt; omega
/-- Only new blocks were written. -/
theorem Pair.quiet {base limr d pv : Nat} {po : Option Addr} {w w' : World} {s : RS} {row : Option Nat} (h : Pair base limr d pv po w s) (hg : w.grownBy w' row) (hr : ∀ g, row = some g → w.heap.size ≤ g) : Pair base limr d pv po w' s ∧ Keep base w w' := by
  have h1 := h.pvlt
  have h2 := h.lim
  have h3 := h.dlt
  refine ⟨⟨h.prog.kept hg (fun g hg' => ⟨by have := hr g hg'; omega, fun e => ?_⟩), h.ref.kept hg (fun e => ?_) (fun e => ?_), h.place, h.plain, h.lim, h.nepv, h.ned, fun g e => ⟨(h.bpo g e).1, Nat.lt_of_lt_of_le (h.bpo g e).2 hg.size⟩, h.bpv, Nat.lt_of_lt_of_le h3 hg.size, h.len⟩, fun W hW => hW.grown hg h.base_le (fun k hk => Nat.le_trans h.base_le (hr k hk))⟩
  · have := (h.bpo g e).2; have := hr g hg'; omega
  · have := hr pv e; omega
  · have := hr d e; omega
theorem RS.step_place {s : RS} (h : s.sound → s.place = 0) (z : Nat) (y : Int) : (s.step z y).sound → (s.step z y).place = 0 := by
  intro hs
  by_cases h0 : s.sound
  · by_cases hy : y = 0
    · subst hy
      rw [RS.step_ok h0]
      exact h h0
    · exact absurd hs (RS.unsound z hy)
  · rw [RS.step_not h0] at hs ⊢
    exact h hs
theorem RS.step_plain {s : RS} (h : s.made = false → s.B.length = s.pos) (z : Nat) (y : Int) : (s.step z y).made = false → (s.step z y).B.length = (s.step z y).pos := by
  by_cases h0 : s.sound
  · intro hm
    have : (s.step z y).made = s.made := by unfold RS.step; split <;> (try split) <;> rfl
    rw [this, h0.1] at hm
    cases hm
  · rw [RS.step_not h0]
    exact h
/-- Both went on. -/
theorem Pair.next {base limr d pv : Nat} {po : Option Addr} {w w1 w2 : World} {s : RS} {z : Nat} {y : Int} (h : Pair base limr d pv po w s) (hp : RdP limr w1 po (s.step z y)) (hg1 : w.grownBy w1 (rowP po)) (hr : RefS d w2 pv (s.step z y)) (hg2 : w1.grownBy w2 (some pv)) : Res base limr d pv po w w2 := by
  refine ⟨⟨s.step z y, ⟨hp.kept hg2 (fun g e => by cases e; exact ⟨h.lim, h.nepv⟩), hr, RS.step_place h.place z y, RS.step_plain h.plain z y, h.lim, h.nepv, h.ned, fun g e => ⟨(h.bpo g e).1, Nat.lt_of_lt_of_le (h.bpo g e).2 (Nat.le_trans hg1.size hg2.size)⟩, h.bpv, Nat.lt_of_lt_of_le h.dlt (Nat.le_trans hg1.size hg2.size), by rw [RS.step_B]; exact h.len⟩⟩, ?_⟩
  intro W hW
  exact (hW.grown hg1 h.base_le (fun k hk => (h.bpo k hk).1)).grown hg2 (Nat.le_trans h.base_le hg1.size) (fun k hk => by cases hk; exact h.bpv)
/-- A block was written that was new to an earlier state. -/
theorem Pair.wrote {base limr d pv : Nat} {po : Option Addr} {w0 w w' : World} {s0 s : RS} {row : Option Nat} (h0 : Pair base limr d pv po w0 s0) (h : Pair base limr d pv po w s) (hg : w.grownBy w' row) (hr : ∀ g, row = some g → w0.heap.size ≤ g) : Pair base limr d pv po w' s ∧ Keep base w w' := by
  have h1 := h0.pvlt
  have h2 := h0.lim
  have h3 := h0.dlt
  refine ⟨⟨h.prog.kept hg (fun g hg' => ⟨by have := hr g hg'; omega, fun e => ?_⟩), h.ref.kept hg (fun e => ?_) (fun e => ?_), h.place, h.plain, h.lim, h.nepv, h.ned, fun g e => ⟨(h.bpo g e).1, Nat.lt_of_lt_of_le (h.bpo g e).2 hg.size⟩, h.bpv, Nat.lt_of_lt_of_le h.dlt hg.size, h.len⟩, fun W hW => hW.grown hg h.base_le (fun k hk => Nat.le_trans h0.base_le (hr k hk))⟩
  · have := (h0.bpo g e).2; have := hr g hg'; omega
  · have := hr pv e; omega
  · have := hr d e; omega
/-- The reference's reader behind the program's step. -/
theorem Pair.refAt {base limr d pv : Nat} {po : Option Addr} {w w1 : World} {s : RS} (h : Pair base limr d pv po w s) (hg1 : w.grownBy w1 (rowP po)) : RefS d w1 pv s := h.ref.kept hg1 h.nepv h.ned

end Go.Proofs.YtgaalaoflaklgaaGreat
namespace Go.Proofs.YtgaalaoflaklgaaGreat
open Go.RowKit Crc

theorem failP_place {s : RS} (h : s.sound → s.place = 0) (a y : Int) (hy : y ≠ 0) : (s.failP a y).sound → (s.failP a y).place = 0 := by
  unfold RS.failP
  by_cases hs : s.sound
  · rw [if_pos hs]
    intro h2
    exact absurd h2.2 hy
  · rw [if_neg hs]
    exact h
theorem rdBound_place {s : RS} (h : s.sound → s.place = 0) (a b : Nat) : (rdBound s a b).sound → (rdBound s a b).place = 0 := by
  unfold rdBound
  have h1 : (rdNum s).sound → (rdNum s).place = 0 := RS.step_place h _ _
  split
  · exact h1
  · exact failP_place h1 _ _ (by decide)
theorem rqS3_place {s : RS} (h : s.sound → s.place = 0) : (rqS3 s).sound → (rqS3 s).place = 0 := RS.step_place (RS.step_place (rdBound_place h _ _) _ _) _ _
theorem rdGo_place : ∀ (n : Nat) (s : RS), (s.sound → s.place = 0) → (rdGo n s).2.sound → (rdGo n s).2.place = 0
  | 0, _, h => h
  | n + 1, s, h => rdGo_place n (rqS3 s) (rqS3_place h)
theorem bEnd_place {s : RS} (h : s.sound → s.place = 0) : (bEnd s).sound → (bEnd s).place = 0 := rdGo_place _ _ (RS.step_place (rdBound_place h _ _) _ _)

/-- The state of a new reader. -/
def RS1 (B : List Nat) : RS := ⟨true, 0, 0, B, 0, KR⟩

theorem OwnRs.next {base : Nat} {w w' : World} {v : Value} {rs : List Rq} {row : Option Nat} (h : OwnRs base w v rs) (hf : FreeRs base w rs) (hg : w.grownBy w' row) (h1 : v.ownBlock = none ∨ v.ownBlock ≠ row) (h2 : ∀ r ∈ rs, r.sl.ownBlock = none ∨ r.sl.ownBlock ≠ row) : OwnRs base w' v rs ∧ FreeRs base w' rs := by
  have f2 := hf.next hg h2
  refine ⟨⟨h.row.kept hg h1, fun r hx => ?_, h.le⟩, f2⟩
  obtain ⟨vo, vc, hv, hS, _⟩ := (f2.own r hx).form
  have hv' : Value.slice r.co r.cn r.cc = .slice vo r.C.length vc := hv
  simp only [Value.slice.injEq] at hv'
  obtain ⟨e3, e4, e5⟩ := hv'
  refine ⟨(h.ok r hx).hc, (h.ok r hx).hs, ?_⟩
  rw [e3, e4, e5]
  exact hS
theorem OwnRs.quiet {base : Nat} {w w' : World} {v : Value} {rs : List Rq} (h : OwnRs base w v rs) (hf : FreeRs base w rs) (hg : w.grownBy w' none) : OwnRs base w' v rs ∧ FreeRs base w' rs := by
  refine h.next hf hg ?_ (fun r hx => ?_)
  · cases v.ownBlock with
    | none => exact .inl rfl
    | some g => exact .inr (by simp)
  · cases r.sl.ownBlock with
    | none => exact .inl rfl
    | some g => exact .inr (by simp)
theorem OwnRs.past {base g : Nat} {w w' : World} {v : Value} {rs : List Rq} (h : OwnRs base w v rs) (hf : FreeRs base w rs) (hg : w.grownBy w' (some g)) (hl : g < base) : OwnRs base w' v rs ∧ FreeRs base w' rs :=
  h.next hf hg (.inr (fun e => by have := (h.row.lt _ e).1; omega)) (fun r hx => .inr (fun e => by have := ((hf.own r hx).1.lt _ e).1; omega))
theorem OwnRs.lower {base base' : Nat} {w : World} {v : Value} {rs : List Rq} (h : OwnRs base w v rs) (hl : base' ≤ base) : OwnRs base' w v rs := by
  refine ⟨⟨h.row.1, ?_⟩, h.ok, h.le⟩
  rcases h.row.2 with h0 | ⟨g, cap, cur, h1, h2, h3⟩
  · exact .inl h0
  · exact .inr ⟨g, cap, cur, h1, by omega, h3⟩
theorem FreeRs.lower {base base' : Nat} {w : World} {rs : List Rq} (h : FreeRs base w rs) (hl : base' ≤ base) : FreeRs base' w rs := ⟨fun r hx => (h.own r hx).lower hl, h.apart⟩
theorem OwnRs.nil (base : Nat) (w : World) : OwnRs base w (.slice none 0 0) [] ∧ FreeRs base w [] := ⟨⟨World.ownsRow_nil _ _ _ _, fun r hx => by simp at hx, by simp⟩, fun r hx => by simp at hx, by simp⟩

theorem errV_set2 {w : World} {x : Value} {c a : Int} {B : Nat} {k : IntKind} {m : Int} (h : ErrV w x c a) (hB : w.cell? ⟨B, 0, none⟩ = some (.int k m)) (u1 u2 : Value) : ErrV ((w.setCell ⟨B, 0, none⟩ u1).setCell ⟨B, 1, none⟩ u2) x c a := by
  rcases h with h | ⟨⟨g, h1, h2, h3, h4⟩, hc⟩
  · exact .inl h
  · have hne : B ≠ g := fun e => by subst e; rw [hB] at h2; cases h2
    have hk : ∀ j, ((w.setCell ⟨B, 0, none⟩ u1).setCell ⟨B, 1, none⟩ u2).cell? ⟨g, j, none⟩ = w.cell? ⟨g, j, none⟩ := fun j => by
      rw [World.cell?_setCell_other _ _ _ _ (by simp), World.cell?_setCell_other _ _ _ _ (by simp)]
    exact .inr ⟨⟨g, h1, (hk 0).trans h2, (hk 1).trans h3, (hk 2).trans h4⟩, hc⟩
theorem fin_dp {w w4 : World} {o : Obj} {v : Value} {rs1 : List Rq} (hb : Below (w.heap.size + 1) (w.alloc o) w4) (h : OwnRs (w.heap.size + 1) w4 v rs1) (hf : FreeRs (w.heap.size + 1) w4 rs1) (x y : Value) :
    Below w.heap.size w ((w4.setCell ⟨w.heap.size, 0, none⟩ x).setCell ⟨w.heap.size, 1, none⟩ y) ∧ OwnRs w.heap.size ((w4.setCell ⟨w.heap.size, 0, none⟩ x).setCell ⟨w.heap.size, 1, none⟩ y) v rs1 ∧ FreeRs w.heap.size ((w4.setCell ⟨w.heap.size, 0, none⟩ x).setCell ⟨w.heap.size, 1, none⟩ y) rs1 := by
  obtain ⟨a1, a2⟩ := h.past hf (grown_set w4 w.heap.size 0 x) (by omega)
  obtain ⟨b1, b2⟩ := a1.past a2 (grown_set _ w.heap.size 1 y) (by omega)
  have hbw : Below w.heap.size w w4 := (below_alloc1 w o).trans (hb.mono (by omega))
  exact ⟨(hbw.setCell (p := ⟨w.heap.size, 0, none⟩) (Nat.le_refl _) _).setCell (p := ⟨w.heap.size, 1, none⟩) (Nat.le_refl _) _, b1.lower (by omega), b2.lower (by omega)⟩

set_option maxRecDepth 10000 in
set_option maxHeartbeats 1600000 in
theorem decBatch_prog {lim : Nat} {w : World} {ao : Option Addr} {n cap : Nat} {B : List Nat} (h : Shows lim w ao n cap B) (hl : lim ≤ w.heap.size) :
    Calls Tryz.prog 8 #[.slice ao n cap] w fun e w' => ∃ (st : Nat) (v x : Value) (rs1 : List Rq), e = .returned (.tuple #[.agg #[.int .u64 (st : Int), v], x]) ∧ Hid (ErrV w' x (bEnd (RS1 B)).endC (bEnd (RS1 B)).endA ∧ Below w.heap.size w w' ∧ OwnRs w.heap.size w' v rs1 ∧ FreeRs w.heap.size w' rs1 ∧ (if (bEnd (RS1 B)).endC = 0 then st = (numAt (RS1 B).rest).1 ∧ rs1.map Rq.val = bVals (RS1 B) else st = 0 ∧ rs1 = [])) := by
  obtain rfl := h.1
  have hb0 := below_alloc1 w (.cells #[.int .u64 0, .slice none 0 0] 25)
  have H1 : Hid (Calls Tryz.prog 27 #[.slice ao B.length cap, .int .i64 0] (w.alloc (.cells #[.int .u64 0, .slice none 0 0] 25)) fun e w1 => e = .returned (.agg #[.bool true, .int .i64 0, .int .i64 0, .slice ao B.length cap, .int .i64 0]) ∧ Hid (Below (w.heap.size + 1) (w.alloc (.cells #[.int .u64 0, .slice none 0 0] 25)) w1)) := by
    have h1 := readerAt_any ao B.length cap 0 (w.alloc (.cells #[.int .u64 0, .slice none 0 0] 25))
    rw [show (w.alloc (.cells #[.int .u64 0, .slice none 0 0] 25)).heap.size = w.heap.size + 1 by simp] at h1
    exact h1.mono (fun _ _ h => ⟨h.1, h.2⟩)
  have H2 : Hid (∀ w1, Below (w.heap.size + 1) (w.alloc (.cells #[.int .u64 0, .slice none 0 0] 25)) w1 → Calls Tryz.prog 28 #[.pointer (some ⟨w1.heap.size, 0, none⟩)] (w1.alloc (.cells #[.bool true, .int .i64 0, .int .i64 0, .slice ao B.length cap, .int .i64 0] 71)) fun e w3 => ∃ v rs1, e = .returned (.agg #[.int .u64 ((numAt (RS1 B).rest).1 : Nat), v]) ∧ (∃ vo vn vc, v = .slice vo vn vc) ∧ Hid (OwnRs (w.heap.size + 1) w3 v rs1 ∧ FreeRs (w.heap.size + 1) w3 rs1 ∧ rs1.map Rq.val = bVals (RS1 B) ∧ RdS lim w3 w1.heap.size (bEnd (RS1 B)) ∧ Below (w.heap.size + 1) (w.alloc (.cells #[.int .u64 0, .slice none 0 0] 25)) w3)) := by
    intro w1 hb1
    have hs1 : w.heap.size + 1 ≤ w1.heap.size := by have := hb1.size; simpa using this
    have hbw : Below w.heap.size w w1 := hb0.trans (hb1.mono (by omega))
    have hb2 := below_alloc1 w1 (.cells #[.bool true, .int .i64 0, .int .i64 0, .slice ao B.length cap, .int .i64 0] 71)
    have hS : Shows lim (w1.alloc (.cells #[.bool true, .int .i64 0, .int .i64 0, .slice ao B.length cap, .int .i64 0] 71)) ao B.length cap B := (h.belowL (hbw.mono hl)).belowL (hb2.mono (by omega))
    have hrd : RdS lim (w1.alloc (.cells #[.bool true, .int .i64 0, .int .i64 0, .slice ao B.length cap, .int .i64 0] 71)) w1.heap.size (RS1 B) := by
      refine ⟨ao, cap, ?_, ?_, Nat.zero_le _, by omega⟩
      · rw [alloc_at]; rfl
      · exact hS
    refine (readBatch_any lim w1.heap.size (RS1 B) _ hrd).mono ?_
    rintro e w3 ⟨v, rs1, rfl, G⟩
    obtain ⟨g1, g2, g3, g4, g5⟩ := G.out
    obtain ⟨vo, vc, _, hv, _⟩ := g1.form
    have hsA : (w1.alloc (.cells #[.bool true, .int .i64 0, .int .i64 0, .slice ao B.length cap, .int .i64 0] 71)).heap.size = w1.heap.size + 1 := by simp
    refine ⟨v, rs1, rfl, ⟨_, _, _, hv⟩, g1.lower (by omega), g2.lower (by omega), g3, g4, ?_⟩
    exact (hb1.trans (hb2.mono (by omega))).grown g5 (by omega) (fun k e => by cases e; omega)
  have H3 : Hid (∀ p w3 o, RdS lim w3 p (bEnd (RS1 B)) → Calls Tryz.prog 29 #[.pointer (some ⟨p, 0, none⟩)] (w3.alloc o) fun e w4 => ∃ x, e = .returned x ∧ ErrV w4 x (bEnd (RS1 B)).endC (bEnd (RS1 B)).endA ∧ Hid (Below (w3.alloc o).heap.size (w3.alloc o) w4)) := fun p w3 o hr => (rEndP (.inr ⟨p, rfl, hr.quiet (World.grownBy_alloc w3 o none)⟩) (bEnd_place (fun _ => rfl))).mono (fun _ _ ⟨v, h1, h2, h3⟩ => ⟨v, h1, h2, h3⟩)
  clear h hb0
  go_enter Tryz.func8, Tryz.ntmps8
  go_wp2_with fail
  refine H1.out.mono ?_
  rintro e w1 ⟨rfl, G1⟩
  go_wp2_with fail
  refine (H2.out w1 G1.out).mono ?_
  rintro e w3 ⟨v, rs1, rfl, ⟨vo, vn, vc, rfl⟩, G3⟩
  go_wp2_with fail
  refine (H3.out _ w3 _ G3.out.2.2.2.1).mono ?_
  rintro e w4 ⟨x, rfl, hE, G4⟩
  have HE := hide hE
  have HB4 : Hid (Below (w.heap.size + 1) (w.alloc (.cells #[.int .u64 0, .slice none 0 0] 25)) w4 ∧ w4.heap[w3.heap.size]? = some (.cells #[.int .u64 ((numAt (RS1 B).rest).1 : Nat), .slice vo vn vc] 25 (0, 0)) ∧ w4.heap[w.heap.size]? = some (.cells #[.int .u64 0, .slice none 0 0] 25 (0, 0)) ∧ OwnRs (w.heap.size + 1) w4 (.slice vo vn vc) rs1 ∧ FreeRs (w.heap.size + 1) w4 rs1) := by
    obtain ⟨g1, g2, g3, g4, g5⟩ := G3.out
    have hs3 : w.heap.size + 1 ≤ w3.heap.size := by have := g5.size; simpa using this
    have hbA := below_alloc1 w3 (.cells #[.int .u64 ((numAt (RS1 B).rest).1 : Nat), .slice vo vn vc] 25)
    have hsA : (w3.alloc (.cells #[.int .u64 ((numAt (RS1 B).rest).1 : Nat), .slice vo vn vc] 25)).heap.size = w3.heap.size + 1 := by simp
    have b4 := (g5.trans (hbA.mono (by omega))).trans (G4.out.mono (by omega))
    obtain ⟨o1, o2⟩ := g1.quiet g2 (below_none hbA)
    obtain ⟨o3, o4⟩ := o1.quiet o2 (below_none G4.out)
    exact ⟨b4, (G4.out.block _ (by omega)).trans (alloc_at _ _), (b4.block _ (by omega)).trans (alloc_at _ _), o3, o4⟩
  have x0 := block_cell HB4.out.2.1 0
  have x1 := block_cell HB4.out.2.1 1
  have y0 := block_cell HB4.out.2.2.1 0
  have y1 := block_cell HB4.out.2.2.1 1
  have f0 := block_free HB4.out.2.2.1 0
  have f1 := block_free HB4.out.2.2.1 1
  simp at x0 x1 y0 y1
  have hl3 := block_lt HB4.out.2.1
  have hl4 := block_lt HB4.out.2.2.1
  clear G1 G4 H1 H2 H3 hE
  by_cases hz : (bEnd (RS1 B)).endC = 0
  · have hx : x = .nilIface := by have h := HE.out; rw [hz] at h; exact errV_none h
    subst hx
    have HZ := hide hz
    clear hz
    go_wp2
    refine bodyPost_ret (v := .tuple #[.agg #[.int .u64 ((numAt (RS1 B).rest).1 : Nat), .slice vo vn vc], .nilIface]) (by simp [results, Tryz.results8, go_sem, y0, y1]) rfl ⟨_, _, _, rfl, rs1, ?_⟩
    obtain ⟨k1, k2, k3⟩ := fin_dp HB4.out.1 HB4.out.2.2.2.1 HB4.out.2.2.2.2 (.int .u64 ((numAt (RS1 B).rest).1 : Nat)) (.slice vo vn vc)
    have hea : (bEnd (RS1 B)).endA = 0 := by
      rcases HE.out with ⟨_, _, h⟩ | ⟨_, h⟩
      · exact h
      · exact absurd HZ.out h
    exact ⟨.inl ⟨rfl, rfl, hea⟩, k1, k2, k3, rfl, G3.out.2.2.1⟩
  · obtain ⟨g, hx⟩ := errV_some HE.out hz
    subst hx
    have HZ := hide hz
    clear hz
    go_wp2
    refine bodyPost_ret (v := .tuple #[.agg #[.int .u64 0, .slice none 0 0], .iface 117 (.pointer (some ⟨g, 0, none⟩))]) (by simp [results, Tryz.results8, go_sem, y0, y1]) rfl ⟨0, _, _, rfl, [], ?_⟩
    obtain ⟨k1, _, _⟩ := fin_dp HB4.out.1 HB4.out.2.2.2.1 HB4.out.2.2.2.2 (.int .u64 0) (.slice none 0 0)
    have n := OwnRs.nil w.heap.size ((w4.setCell ⟨w.heap.size, 0, none⟩ (.int .u64 0)).setCell ⟨w.heap.size, 1, none⟩ (.slice none 0 0))
    exact ⟨errV_set2 HE.out y0 _ _, k1, n.1, n.2, rfl, rfl⟩
end Go.Proofs.YtgaalaoflaklgaaGreat
namespace Go.Proofs.YtgaalaoflaklgaaGreat
open Go.RowKit Crc

/-- The state with one cell behind the reader set. -/
def RS.setR (s : RS) (j : Nat) (v : Value) : RS := { s with K := ⟨s.K.t, s.K.R.set j v⟩ }
theorem RdS.setR {lim : Nat} {w : World} {p : Nat} {s : RS} (h : RdS lim w p s) (j : Nat) (v : Value) : RdS lim (w.setCell ⟨p, j + 5, none⟩ v) p (s.setR j v) := by
  obtain ⟨ao, cap, hb, hS, hp, hl⟩ := h
  refine ⟨ao, cap, ?_, hS.kept (grown_set w p (j + 5) v) (fun g e => by cases e; exact hl), hp, hl⟩
  rw [heap_setCell_same w p (j + 5) _ _ v hb]
  simp [RS.setR]
theorem RdS.cellR {lim : Nat} {w : World} {p : Nat} {s : RS} (h : RdS lim w p s) (j : Nat) : w.cell? ⟨p, j + 5, none⟩ = s.K.R[j]? ∧ w.frozen? ⟨p, j + 5, none⟩ = false := by
  obtain ⟨ao, cap, hb, hS, hp, hl⟩ := h
  refine ⟨?_, block_free hb _⟩
  rw [block_cell hb]
  simp
theorem step_K (s : RS) (z : Nat) (y : Int) : (s.step z y).K = s.K := by unfold RS.step; split <;> (try split) <;> rfl
theorem failP_K (s : RS) (a y : Int) : (s.failP a y).K = s.K := by unfold RS.failP; split <;> rfl
theorem rdBound_K (s : RS) (a b : Nat) : (rdBound s a b).K = s.K := by
  unfold rdBound
  split
  · exact step_K _ _ _
  · rw [failP_K]; exact step_K _ _ _
theorem balS_K (s : RS) : (balS s).K = s.K := by
  unfold balS balS2
  split
  · rw [failP_K, step_K]; exact rdBound_K _ _ _
  · rw [step_K]; exact rdBound_K _ _ _
theorem rqS3_K (s : RS) : (rqS3 s).K = s.K := by
  unfold rqS3 rqS2 rdNum
  rw [step_K, step_K]
  exact rdBound_K _ _ _
theorem rdGo_K : ∀ (n : Nat) (s : RS), (rdGo n s).2.K = s.K
  | 0, s => rfl
  | n + 1, s => by rw [rdGo]; exact (rdGo_K n _).trans (rqS3_K s)
theorem bEnd_K (s : RS) : (bEnd s).K = s.K := by
  unfold bEnd
  rw [rdGo_K]
  unfold bS2
  rw [step_K]
  exact rdBound_K _ _ _
theorem some_at {R : List Value} {j : Nat} (h : j < R.length) : ∃ v, R[j]? = some v := ⟨_, List.getElem?_eq_getElem h⟩

set_option maxRecDepth 10000 in
set_option maxHeartbeats 800000 in
theorem fSlot_any (lim p : Nat) (s : RS) (w : World) (hR : RdS lim w p s) (hK : s.K.R.length = 49) :
    Calls Tryz.prog 133 #[.pointer (some ⟨p, 0, none⟩)] w fun e w' => e = .returned (.tuple #[]) ∧ Hid (RdS lim w' p ((rdBound s 0 1099511627776).setR 3 (.int .u64 ((numAt s.rest).1 : Nat))) ∧ w.grownBy w' (some p)) := by
  have H1 : Hid (Calls Tryz.prog 58 #[.pointer (some ⟨p, 0, none⟩), .int .u64 0, .int .u64 1099511627776] w fun e w1 => e = .returned (.int .u64 ((numAt s.rest).1 : Nat)) ∧ Hid (RdS lim w1 p (rdBound s 0 1099511627776) ∧ w.grownBy w1 (some p))) := readBound_any lim p s 0 1099511627776 _ hR
  have HK : Hid ((rdBound s 0 1099511627776).K.R.length = 49) := by show _ = _; rw [rdBound_K]; exact hK
  clear hR hK
  go_enter Tryz.func133, Tryz.ntmps133
  go_wp2_with fail
  refine H1.out.mono ?_
  rintro e w1 ⟨rfl, G1⟩
  obtain ⟨u, hu⟩ := some_at (j := 3) (by have := HK.out; omega : 3 < (rdBound s 0 1099511627776).K.R.length)
  obtain ⟨c0, f0⟩ := G1.out.1.cellR 3
  rw [hu] at c0
  clear hu
  go_wp2
  go_end0
  exact ⟨rfl, G1.out.1.setR 3 _, grown_trans (row := some p) G1.out.2 (grown_set _ _ _ _)⟩

set_option maxRecDepth 10000 in
set_option maxHeartbeats 800000 in
theorem fBallot_any (lim p : Nat) (s : RS) (w : World) (hR : RdS lim w p s) (hK : s.K.R.length = 49) :
    Calls Tryz.prog 131 #[.pointer (some ⟨p, 0, none⟩)] w fun e w' => e = .returned (.tuple #[]) ∧ Hid (RdS lim w' p (((balS s).setR 1 (.int .u64 ((numAt s.rest).1 : Nat))).setR 2 (.int .i64 ((nodeV s : Nat) : Int))) ∧ w.grownBy w' (some p)) := by
  have H1 := hide (readBallot_any lim p s w hR)
  have HK : Hid ((balS s).K.R.length = 49) := by show _ = _; rw [balS_K]; exact hK
  clear hR hK
  go_enter Tryz.func131, Tryz.ntmps131
  go_wp2_with fail
  refine H1.out.mono ?_
  rintro e w1 ⟨rfl, G1⟩
  obtain ⟨u, hu⟩ := some_at (j := 1) (by have := HK.out; omega : 1 < (balS s).K.R.length)
  obtain ⟨c0, f0⟩ := G1.out.1.cellR 1
  rw [hu] at c0
  obtain ⟨u', hu'⟩ := some_at (j := 2) (by have := HK.out; omega : 2 < (balS s).K.R.length)
  obtain ⟨c1, f1⟩ := G1.out.1.cellR 2
  rw [hu'] at c1
  clear hu hu'
  go_wp2
  go_end0
  exact ⟨rfl, (G1.out.1.setR 1 _).setR 2 _, grown_trans (row := some p) (grown_trans (row := some p) G1.out.2 (grown_set _ _ _ _)) (grown_set _ _ _ _)⟩

theorem own_set {base p j : Nat} {w : World} {v : Value} {rs : List Rq} (h : OwnRs base w v rs) (hf : FreeRs base w rs) (hp : p < base) (x : Value) : OwnRs base (w.setCell ⟨p, j, none⟩ x) v rs ∧ FreeRs base (w.setCell ⟨p, j, none⟩ x) rs := h.past hf (grown_set _ _ _ _) hp

set_option maxRecDepth 10000 in
set_option maxHeartbeats 800000 in
theorem fBatch_any (lim p : Nat) (s : RS) (w : World) (hR : RdS lim w p s) (hK : s.K.R.length = 49) :
    Calls Tryz.prog 132 #[.pointer (some ⟨p, 0, none⟩)] w fun e w' => e = .returned (.tuple #[]) ∧ Hid (∃ v rs1, OwnRs w.heap.size w' v rs1 ∧ FreeRs w.heap.size w' rs1 ∧ rs1.map Rq.val = bVals s ∧ RdS lim w' p (((bEnd s).setR 6 (.int .u64 ((numAt s.rest).1 : Nat))).setR 7 v) ∧ w.grownBy w' (some p)) := by
  have hp := hR.plt
  have H1 := hide (readBatch_any lim p s w hR)
  have HK : Hid ((bEnd s).K.R.length = 49) := by show _ = _; rw [bEnd_K]; exact hK
  clear hR hK
  go_enter Tryz.func132, Tryz.ntmps132
  go_wp2_with fail
  refine H1.out.mono ?_
  rintro e w1 ⟨v, rs1, rfl, G1⟩
  obtain ⟨u, hu⟩ := some_at (j := 6) (by have := HK.out; omega : 6 < (bEnd s).K.R.length)
  obtain ⟨c0, f0⟩ := G1.out.2.2.2.1.cellR 6
  rw [hu] at c0
  obtain ⟨u', hu'⟩ := some_at (j := 7) (by have := HK.out; omega : 7 < (bEnd s).K.R.length)
  obtain ⟨c1, f1⟩ := G1.out.2.2.2.1.cellR 7
  rw [hu'] at c1
  obtain ⟨vo, vc, _, hv, _⟩ := G1.out.1.form
  subst hv
  clear hu hu'
  go_wp2
  go_end0
  obtain ⟨g1, g2, g3, g4, g5⟩ := G1.out
  obtain ⟨a1, a2⟩ := own_set g1 g2 hp (j := 6 + 5) (.int .u64 ((numAt s.rest).1 : Nat))
  obtain ⟨b1, b2⟩ := own_set a1 a2 hp (j := 7 + 5) (.slice vo rs1.length vc)
  exact ⟨rfl, _, rs1, b1, b2, g3, (g4.setR 6 _).setR 7 _, grown_trans (row := some p) (grown_trans (row := some p) g5 (grown_set _ _ _ _)) (grown_set _ _ _ _)⟩

set_option maxRecDepth 10000 in
set_option maxHeartbeats 800000 in
theorem fSnap_any (lim p : Nat) (s : RS) (w : World) (hR : RdS lim w p s) (hK : s.K.R.length = 49) :
    Calls Tryz.prog 134 #[.pointer (some ⟨p, 0, none⟩)] w fun e w' => e = .returned (.tuple #[]) ∧ Hid (∃ v, Owns w.heap.size w' v (blobAt s.rest 40000).1 ∧ RdS lim w' p ((s.step (blobAt s.rest 40000).2.1 (blobAt s.rest 40000).2.2).setR 12 v) ∧ w.grownBy w' (some p)) := by
  have hp := hR.plt
  have H1 := hide (rBlob_any lim p s 40000 w hR (by omega) (by omega))
  have HK : Hid ((s.step (blobAt s.rest 40000).2.1 (blobAt s.rest 40000).2.2).K.R.length = 49) := by show _ = _; rw [step_K]; exact hK
  clear hR hK
  generalize s.step (blobAt s.rest 40000).2.1 (blobAt s.rest 40000).2.2 = t at *
  go_enter Tryz.func134, Tryz.ntmps134
  go_wp2_with fail
  refine H1.out.mono ?_
  rintro e w1 ⟨v, rfl, g1, _, g2, g3⟩
  have G1 := hide g1
  have G2 := hide g2
  have G3 := hide g3
  obtain ⟨u, hu⟩ := some_at (j := 12) (by have := HK.out; omega : 12 < t.K.R.length)
  obtain ⟨c0, f0⟩ := G2.out.cellR 12
  rw [hu] at c0
  obtain ⟨vo, vc, hv, _, _⟩ := G1.out.form
  subst hv
  clear hu g1 g2 g3
  go_wp2
  go_end0
  exact ⟨rfl, _, G1.out.kept (grown_set _ _ _ _) (.inr (fun e => by have := (G1.out.1.lt _ e).1; omega)), G2.out.setR 12 _, grown_trans (row := some p) G3.out (grown_set _ _ _ _)⟩
end Go.Proofs.YtgaalaoflaklgaaGreat
namespace Go.Proofs.YtgaalaoflaklgaaGreat
open Go.RowKit Crc

/-- The fields that a record may have. -/
inductive Fd where
  | ballot | slot | batch | snap
def Fd.name : Fd → String
  | .ballot => "quorum/wire.ballot"
  | .slot => "quorum/wire.slot"
  | .batch => "quorum/wire.batch"
  | .snap => "quorum/wire.snapshot"
def Fd.rfn : Fd → Nat
  | .ballot => 131
  | .slot => 133
  | .batch => 132
  | .snap => 134
theorem rm_any (f : Fd) (a : Addr) (w : World) : (method 293 101 (.pointer (some a)) f.name).run Tryz.prog w = .ok (f.rfn, .pointer (some a)) w := by
  cases f <;> kernel_rfl
theorem cf_any (f : Fd) (args : Array Value) (w : World) : (callFunc f.rfn args).run Tryz.prog w = .ok (.enter f.rfn args) w := by
  cases f <;> kernel_rfl

/-- A reader's state, whatever lies behind it. -/
def RS.un (s : RS) : RS := { s with K := KR }
theorem un_setR (s : RS) (j : Nat) (v : Value) : (s.setR j v).un = s.un := rfl
theorem un_sound (s : RS) : s.un.sound ↔ s.sound := Iff.rfl
theorem un_step (s : RS) (z : Nat) (y : Int) : (s.step z y).un = s.un.step z y := by
  unfold RS.step
  by_cases h : s.sound
  · rw [if_pos h, if_pos (show s.un.sound from h)]
    split <;> rfl
  · rw [if_neg h, if_neg (show ¬ s.un.sound from h)]
theorem un_failP (s : RS) (a y : Int) : (s.failP a y).un = s.un.failP a y := by
  unfold RS.failP
  by_cases h : s.sound
  · rw [if_pos h, if_pos (show s.un.sound from h)]; rfl
  · rw [if_neg h, if_neg (show ¬ s.un.sound from h)]
theorem un_rdBound (s : RS) (a b : Nat) : (rdBound s a b).un = rdBound s.un a b := by
  unfold rdBound
  show (if bndY (numAt s.rest).1 a b = 0 then rdNum s else (rdNum s).failP s.pos 29).un = if bndY (numAt s.rest).1 a b = 0 then rdNum s.un else (rdNum s.un).failP s.pos 29
  split
  · exact un_step _ _ _
  · rw [un_failP]; unfold rdNum; rw [un_step]; rfl
theorem un_balS (s : RS) : (balS s).un = balS s.un ∧ nodeV s.un = nodeV s := by
  have h1 : (balS1 s).un = balS1 s.un := un_rdBound _ _ _
  have h2 : nodeV s.un = nodeV s := by unfold nodeV; rw [← h1]; rfl
  have h3 : (balS2 s).un = balS2 s.un := by unfold balS2; rw [un_step, ← h1]; rfl
  refine ⟨?_, h2⟩
  unfold balS
  rw [h2]
  split
  · rw [un_failP, h3, ← h1]; rfl
  · exact h3
theorem un_rq (s : RS) : (rqS3 s).un = rqS3 s.un ∧ rqV s.un = rqV s := by
  have h1 : (rqS1 s).un = rqS1 s.un := un_rdBound _ _ _
  have h2 : (rqS2 s).un = rqS2 s.un := by unfold rqS2 rdNum; rw [un_step, ← h1]; rfl
  refine ⟨?_, ?_⟩
  · unfold rqS3; rw [un_step, ← h2]; rfl
  · unfold rqV; rw [← h2, ← h1]; rfl
theorem un_rdGo : ∀ (n : Nat) (s : RS), (rdGo n s).2.un = (rdGo n s.un).2 ∧ (rdGo n s.un).1 = (rdGo n s).1
  | 0, s => ⟨rfl, rfl⟩
  | n + 1, s => by
    obtain ⟨h1, h2⟩ := un_rq s
    obtain ⟨h3, h4⟩ := un_rdGo n (rqS3 s)
    rw [rdGo, rdGo, ← h1, h2]
    exact ⟨h3, by rw [h4]⟩
theorem un_batch (s : RS) : (bEnd s).un = bEnd s.un ∧ bVals s.un = bVals s := by
  have h1 : (bS1 s).un = bS1 s.un := un_rdBound _ _ _
  have h2 : bN s.un = bN s := by unfold bN; rw [← h1]; rfl
  have h3 : (bS2 s).un = bS2 s.un := by unfold bS2; rw [un_step, ← h1]; rfl
  obtain ⟨h4, h5⟩ := un_rdGo (bN s) (bS2 s)
  unfold bEnd bVals
  rw [h2, ← h3]
  exact ⟨h4, h5⟩

/-- What is read of a record. -/
structure Rv where
  (num node slot stamp : Nat) (V : List (Nat × Nat × List Nat)) (D : List Nat)
def Fd.nxt : Fd → RS → RS
  | .ballot, s => balS s
  | .slot, s => rdBound s 0 1099511627776
  | .batch, s => bEnd s
  | .snap, s => s.step (blobAt s.rest 40000).2.1 (blobAt s.rest 40000).2.2
def Fd.upd : Fd → RS → Rv → Rv
  | .ballot, s, v => { v with num := (numAt s.rest).1, node := nodeV s }
  | .slot, s, v => { v with slot := (numAt s.rest).1 }
  | .batch, s, v => { v with stamp := (numAt s.rest).1, V := bVals s }
  | .snap, s, v => { v with D := (blobAt s.rest 40000).1 }

/-- The message behind a reader or writer, as it lies. -/
structure Mc where
  (num node slot stamp : Nat) (bv : Value) (rs : List Rq) (dv : Value) (D : List Nat)
def Mc.tail : List Value := [.bool false, .int .u64 0, .int .u64 0] ++ List.replicate 32 (.int .u8 0) ++ [.slice none 0 0]
def Mc.R (c : Mc) : List Value := .int .i64 0 :: .int .u64 (c.num : Int) :: .int .i64 (c.node : Int) :: .int .u64 (c.slot : Int) :: .int .u64 0 :: .slice none 0 0 :: .int .u64 (c.stamp : Int) :: c.bv :: .int .u64 0 :: .int .u64 0 :: .int .i64 0 :: .slice none 0 0 :: c.dv :: Mc.tail
theorem Mc.len (c : Mc) : c.R.length = 49 := by simp [Mc.R, Mc.tail]
def Mc.rv (c : Mc) : Rv := ⟨c.num, c.node, c.slot, c.stamp, c.rs.map Rq.val, c.D⟩
/-- A reader with its message. -/
structure Fr (lim base p : Nat) (s : RS) (c : Mc) (w : World) : Prop where
  rd : RdS lim w p s
  k : s.K = ⟨103, c.R⟩
  own : OwnRs base w c.bv c.rs
  free : FreeRs base w c.rs
  dat : Owns base w c.dv c.D
  hp : p < base
  hb : base ≤ w.heap.size
  ap : ∀ r ∈ c.rs, r.sl.ownBlock = none ∨ r.sl.ownBlock ≠ c.dv.ownBlock

theorem Fr.quiet {lim base p : Nat} {s : RS} {c : Mc} {w w' : World} (h : Fr lim base p s c w) (hg : w.grownBy w' none) : Fr lim base p s c w' := by
  obtain ⟨a, b⟩ := h.own.quiet h.free hg
  exact ⟨h.rd.quiet hg, h.k, a, b, h.dat.quiet hg, h.hp, Nat.le_trans h.hb hg.size, h.ap⟩
theorem Fr.past {lim base p : Nat} {s : RS} {c : Mc} {w w' : World} (h : Fr lim base p s c w) (hg : w.grownBy w' (some p)) : OwnRs base w' c.bv c.rs ∧ FreeRs base w' c.rs ∧ Owns base w' c.dv c.D := by
  obtain ⟨a, b⟩ := h.own.past h.free hg h.hp
  exact ⟨a, b, h.dat.kept hg (.inr (fun e => by have := (h.dat.1.lt _ e).1; have := h.hp; omega))⟩

/-- What a field's reading leaves. -/
def FdPost (f : Fd) (lim base p : Nat) (s : RS) (c : Mc) (w w' : World) : Prop := ∃ s' c', Fr lim base p s' c' w' ∧ s'.un = f.nxt s.un ∧ c'.rv = f.upd s.un c.rv ∧ w.grownBy w' (some p)
theorem nxt_ballot (s : RS) : Fd.ballot.nxt s = balS s := rfl
theorem nxt_slot (s : RS) : Fd.slot.nxt s = rdBound s 0 1099511627776 := rfl
theorem nxt_batch (s : RS) : Fd.batch.nxt s = bEnd s := rfl
theorem nxt_snap (s : RS) : Fd.snap.nxt s = s.step (blobAt s.rest 40000).2.1 (blobAt s.rest 40000).2.2 := rfl
theorem upd_ballot (s : RS) (v : Rv) : Fd.ballot.upd s v = ⟨(numAt s.rest).1, nodeV s, v.slot, v.stamp, v.V, v.D⟩ := rfl
theorem upd_slot (s : RS) (v : Rv) : Fd.slot.upd s v = ⟨v.num, v.node, (numAt s.rest).1, v.stamp, v.V, v.D⟩ := rfl
theorem upd_batch (s : RS) (v : Rv) : Fd.batch.upd s v = ⟨v.num, v.node, v.slot, (numAt s.rest).1, bVals s, v.D⟩ := rfl
theorem upd_snap (s : RS) (v : Rv) : Fd.snap.upd s v = ⟨v.num, v.node, v.slot, v.stamp, v.V, (blobAt s.rest 40000).1⟩ := rfl
theorem un_rest (s : RS) : s.un.rest = s.rest := rfl
theorem setR_K (s : RS) (j : Nat) (v : Value) : (s.setR j v).K = ⟨s.K.t, s.K.R.set j v⟩ := rfl
theorem R_ballot (c : Mc) (n m : Nat) : (c.R.set 1 (.int .u64 (n : Int))).set 2 (.int .i64 (m : Int)) = (Mc.mk n m c.slot c.stamp c.bv c.rs c.dv c.D).R := rfl
theorem R_slot (c : Mc) (n : Nat) : c.R.set 3 (.int .u64 (n : Int)) = (Mc.mk c.num c.node n c.stamp c.bv c.rs c.dv c.D).R := rfl
theorem R_batch (c : Mc) (n : Nat) (v : Value) (rs : List Rq) : (c.R.set 6 (.int .u64 (n : Int))).set 7 v = (Mc.mk c.num c.node c.slot n v rs c.dv c.D).R := rfl
theorem R_snap (c : Mc) (v : Value) (D : List Nat) : c.R.set 12 v = (Mc.mk c.num c.node c.slot c.stamp c.bv c.rs v D).R := rfl

theorem post_ballot {lim base p : Nat} {s : RS} {c : Mc} {w w' : World} (h : Fr lim base p s c w) (g1 : RdS lim w' p (((balS s).setR 1 (.int .u64 ((numAt s.rest).1 : Nat))).setR 2 (.int .i64 ((nodeV s : Nat) : Int)))) (g2 : w.grownBy w' (some p)) : FdPost .ballot lim base p s c w w' := by
  obtain ⟨a1, a2, a3⟩ := h.past g2
  obtain ⟨u1, u2⟩ := un_balS s
  refine ⟨_, Mc.mk (numAt s.rest).1 (nodeV s) c.slot c.stamp c.bv c.rs c.dv c.D, ⟨g1, ?_, a1, a2, a3, h.hp, Nat.le_trans h.hb g2.size, h.ap⟩, ?_, ?_, g2⟩
  · rw [setR_K, setR_K, balS_K, h.k, R_ballot]
  · rw [un_setR, un_setR, u1, nxt_ballot]
  · rw [upd_ballot, u2, un_rest]; rfl
theorem post_slot {lim base p : Nat} {s : RS} {c : Mc} {w w' : World} (h : Fr lim base p s c w) (g1 : RdS lim w' p ((rdBound s 0 1099511627776).setR 3 (.int .u64 ((numAt s.rest).1 : Nat)))) (g2 : w.grownBy w' (some p)) : FdPost .slot lim base p s c w w' := by
  obtain ⟨a1, a2, a3⟩ := h.past g2
  refine ⟨_, Mc.mk c.num c.node (numAt s.rest).1 c.stamp c.bv c.rs c.dv c.D, ⟨g1, ?_, a1, a2, a3, h.hp, Nat.le_trans h.hb g2.size, h.ap⟩, ?_, ?_, g2⟩
  · rw [setR_K, rdBound_K, h.k, R_slot]
  · rw [un_setR, un_rdBound, nxt_slot]
  · rw [upd_slot, un_rest]; rfl
theorem post_batch {lim base p : Nat} {s : RS} {c : Mc} {w w' : World} {v : Value} {rs1 : List Rq} (h : Fr lim base p s c w) (g1 : OwnRs w.heap.size w' v rs1) (g2 : FreeRs w.heap.size w' rs1) (g3 : rs1.map Rq.val = bVals s) (g4 : RdS lim w' p (((bEnd s).setR 6 (.int .u64 ((numAt s.rest).1 : Nat))).setR 7 v)) (g5 : w.grownBy w' (some p)) : FdPost .batch lim base p s c w w' := by
  obtain ⟨a1, a2, a3⟩ := h.past g5
  obtain ⟨u1, u2⟩ := un_batch s
  have ap : ∀ r ∈ rs1, r.sl.ownBlock = none ∨ r.sl.ownBlock ≠ c.dv.ownBlock := fun r hr => by
    cases e : r.sl.ownBlock with
    | none => exact .inl rfl
    | some g => exact .inr (fun e2 => by have h1 := ((g2.own r hr).1.lt g e).1; have h2 := (h.dat.1.lt g e2.symm).2; omega)
  refine ⟨_, Mc.mk c.num c.node c.slot (numAt s.rest).1 v rs1 c.dv c.D, ⟨g4, ?_, g1.lower h.hb, g2.lower h.hb, a3, h.hp, Nat.le_trans h.hb g5.size, ap⟩, ?_, ?_, g5⟩
  · rw [setR_K, setR_K, bEnd_K, h.k, R_batch c _ v rs1]
  · rw [un_setR, un_setR, u1, nxt_batch]
  · rw [upd_batch, un_rest, u2, ← g3]; rfl
theorem post_snap {lim base p : Nat} {s : RS} {c : Mc} {w w' : World} {v : Value} (h : Fr lim base p s c w) (g1 : Owns w.heap.size w' v (blobAt s.rest 40000).1) (g2 : RdS lim w' p ((s.step (blobAt s.rest 40000).2.1 (blobAt s.rest 40000).2.2).setR 12 v)) (g3 : w.grownBy w' (some p)) : FdPost .snap lim base p s c w w' := by
  obtain ⟨a1, a2, a3⟩ := h.past g3
  have ap : ∀ r ∈ c.rs, r.sl.ownBlock = none ∨ r.sl.ownBlock ≠ v.ownBlock := fun r hr => by
    cases e : r.sl.ownBlock with
    | none => exact .inl rfl
    | some g => exact .inr (fun e2 => by have h1 := ((h.free.own r hr).1.lt g e).2; have h2 := (g1.1.lt g e2.symm).1; omega)
  refine ⟨_, Mc.mk c.num c.node c.slot c.stamp c.bv c.rs v (blobAt s.rest 40000).1, ⟨g2, ?_, a1, a2, g1.lower h.hb, h.hp, Nat.le_trans h.hb g3.size, ap⟩, ?_, ?_, g3⟩
  · rw [setR_K, step_K, h.k, R_snap c v (blobAt s.rest 40000).1]
  · rw [un_setR, un_step, nxt_snap, un_rest]
  · rw [upd_snap, un_rest]; rfl

theorem fd_any (f : Fd) {lim base p : Nat} {s : RS} {c : Mc} {w : World} (h : Fr lim base p s c w) :
    Calls Tryz.prog f.rfn #[.pointer (some ⟨p, 0, none⟩)] w fun e w' => e = .returned (.tuple #[]) ∧ Hid (FdPost f lim base p s c w w') := by
  have hK : s.K.R.length = 49 := by rw [h.k]; exact c.len
  cases f with
  | ballot => exact (fBallot_any lim p s w h.rd hK).mono (fun e w' ⟨h1, G⟩ => ⟨h1, post_ballot h G.out.1 G.out.2⟩)
  | slot => exact (fSlot_any lim p s w h.rd hK).mono (fun e w' ⟨h1, G⟩ => ⟨h1, post_slot h G.out.1 G.out.2⟩)
  | batch =>
    refine (fBatch_any lim p s w h.rd hK).mono ?_
    rintro e w' ⟨rfl, G⟩
    obtain ⟨v, rs1, g1, g2, g3, g4, g5⟩ := G.out
    exact ⟨rfl, post_batch h g1 g2 g3 g4 g5⟩
  | snap =>
    refine (fSnap_any lim p s w h.rd hK).mono ?_
    rintro e w' ⟨rfl, G⟩
    obtain ⟨v, g1, g2, g3⟩ := G.out
    exact ⟨rfl, post_snap h g1 g2 g3⟩
end Go.Proofs.YtgaalaoflaklgaaGreat
namespace Go.Proofs.YtgaalaoflaklgaaGreat
open Go.RowKit Crc

/-- The reference's faults go back to where the field begins. -/
def RS.failR (s : RS) (a : Nat) : RS := { s with why := 29, place := a, pos := a }
def upS (s : RS) (most : Nat) : RS := if (rdNum s).sound ∧ most < (numAt s.rest).1 then (rdNum s).failR s.pos else rdNum s
def upV (s : RS) (most : Nat) : Nat := if (rdNum s).sound ∧ most < (numAt s.rest).1 then 0 else (numAt s.rest).1
def rrS1 (s : RS) : RS := if (rdNum s).sound ∧ (numAt s.rest).1 < 256 then (rdNum s).failR s.pos else rdNum s
def rrS2 (s : RS) : RS := rdNum (rrS1 s)
def rrS3 (s : RS) : RS := (rrS2 s).step (blobAt (rrS2 s).rest 700).2.1 (blobAt (rrS2 s).rest 700).2.2
def rrV (s : RS) : Nat × Nat × List Nat := ((numAt s.rest).1, (numAt (rrS1 s).rest).1, (blobAt (rrS2 s).rest 700).1)
def rrGo : Nat → RS → List (Nat × Nat × List Nat) × RS
  | 0, s => ([], s)
  | n + 1, s => if s.sound then (rrV s :: (rrGo n (rrS3 s)).1, (rrGo n (rrS3 s)).2) else ([], s)
def cN (s : RS) : Nat := (countAt (upS s 1099511627776).rest 8).1
def cS2 (s : RS) : RS := (upS s 1099511627776).step (countAt (upS s 1099511627776).rest 8).2.1 (countAt (upS s 1099511627776).rest 8).2.2
def cVals (s : RS) : List (Nat × Nat × List Nat) := (rrGo (cN s) (cS2 s)).1
def cEnd (s : RS) : RS := (rrGo (cN s) (cS2 s)).2

set_option maxRecDepth 10000 in
set_option maxHeartbeats 800000 in
theorem upTo_any (d p : Nat) (s : RS) (most : Nat) (w : World) (hR : RefS d w p s) :
    Calls Tryz.prog 76 #[.pointer (some ⟨p, 0, none⟩), .int .u64 (most : Int)] w fun e w' => e = .returned (.int .u64 (upV s most : Nat)) ∧ Hid (RefS d w' p (upS s most) ∧ w.grownBy w' (some p)) := by
  have hpl := hR.posle
  have hc := hR
  obtain ⟨ao, cap, hb, -⟩ := hc
  have c2 := block_cell hb 2
  simp at c2
  have HNM : Hid (Calls Tryz.prog 98 #[.pointer (some ⟨p, 0, none⟩)] w fun e w' => e = .returned (.int .u64 ((numAt s.rest).1 : Nat)) ∧ Hid (RefS d w' p (rdNum s) ∧ w.grownBy w' (some p))) := (refNum_any d p s w hR).mono (fun _ _ h => ⟨h.1, h.2⟩)
  have hBB : (rdNum s).B = s.B := by unfold rdNum RS.step; split <;> (try split) <;> rfl
  have HFL : Hid (∀ w', RefS d w' p (rdNum s) → Calls Tryz.prog 97 #[.pointer (some ⟨p, 0, none⟩), .int .i64 29, .int .i64 (s.pos : Int)] w' fun e w2 => e = .returned (.tuple #[]) ∧ Hid (RefS d w2 p ((rdNum s).failR s.pos) ∧ w'.grownBy w2 (some p))) := fun w' h => (refFail_any d p (rdNum s) 29 s.pos w' h (by rw [hBB]; exact hpl)).mono (fun _ _ h => ⟨h.1, h.2⟩)
  clear hR hb hpl hBB
  by_cases hs : (rdNum s).sound
  · have HD := hide (fun w' (h : RefS d w' p (rdNum s)) => dead_sound d p (rdNum s) w' h hs)
    by_cases hm : most < (numAt s.rest).1
    · have HE : Hid (upS s most = (rdNum s).failR s.pos ∧ upV s most = 0) := ⟨if_pos ⟨hs, hm⟩, if_pos ⟨hs, hm⟩⟩
      have hd : decide ((most : Int) < ((numAt s.rest).1 : Nat)) = true := by simp; omega
      rw [HE.out.1, HE.out.2]
      generalize (numAt s.rest).1 = v at *
      generalize hq : s.pos = q at *
      clear hs hq
      go_enter Tryz.func76, Tryz.ntmps76
      go_wp2_with fail
      refine HNM.out.mono ?_
      rintro e w1 ⟨rfl, G1⟩
      go_wp2_with fail
      refine (HD.out w1 G1.out.1).mono ?_
      rintro e w2 ⟨rfl, rfl⟩
      go_wp2_with fail
      refine (HFL.out _ G1.out.1).mono ?_
      rintro e w3 ⟨rfl, G3⟩
      go_wp2
      go_ret
      exact ⟨rfl, G3.out.1, grown_trans (row := some p) G1.out.2 G3.out.2⟩
    · have HE : Hid (upS s most = rdNum s ∧ upV s most = (numAt s.rest).1) := ⟨if_neg (fun h => hm h.2), if_neg (fun h => hm h.2)⟩
      have hd : decide ((most : Int) < ((numAt s.rest).1 : Nat)) = false := by simp; omega
      rw [HE.out.1, HE.out.2]
      generalize (numAt s.rest).1 = v at *
      clear hs
      go_enter Tryz.func76, Tryz.ntmps76
      go_wp2_with fail
      refine HNM.out.mono ?_
      rintro e w1 ⟨rfl, G1⟩
      go_wp2_with fail
      refine (HD.out w1 G1.out.1).mono ?_
      rintro e w2 ⟨rfl, rfl⟩
      go_wp2
      go_ret
      exact ⟨rfl, G1⟩
  · have HD := hide (fun w' (h : RefS d w' p (rdNum s)) => dead_not d p (rdNum s) w' h hs)
    have HE : Hid (upS s most = rdNum s ∧ upV s most = (numAt s.rest).1) := ⟨if_neg (fun h => hs h.1), if_neg (fun h => hs h.1)⟩
    rw [HE.out.1, HE.out.2]
    generalize (numAt s.rest).1 = v at *
    clear hs
    go_enter Tryz.func76, Tryz.ntmps76
    go_wp2_with fail
    refine HNM.out.mono ?_
    rintro e w1 ⟨rfl, G1⟩
    go_wp2_with fail
    refine (HD.out w1 G1.out.1).mono ?_
    rintro e w2 ⟨rfl, rfl⟩
    go_wp2
    go_ret
    exact ⟨rfl, G1⟩

/-- Between two rounds of the reading. -/
structure Rr (w : World) (d p B stamp n : Nat) (s0 : RS) (k : Nat) (v : Value) (rs1 : List Rq) (s : RS) (wr : World) : Prop where
  gr : w.grownBy wr (some p)
  res : wr.heap[w.heap.size]? = some (.cells #[.int .u64 0, .slice none 0 0] 25 (0, 0))
  box : wr.heap[B]? = some (.cells #[.int .u64 (stamp : Int), v] 25 (0, 0))
  row : wr.ownsRow (B + 1) 67 3 v k (rcells rs1)
  len : rs1.length = k
  free : FreeRs (B + 1) wr rs1
  num : ∀ r ∈ rs1, r.num
  cn : ∀ r ∈ rs1, r.cn = r.C.length
  rd : RefS d wr p s
  go : rrGo n s0 = (rs1.map Rq.val ++ (rrGo (n - k) s).1, (rrGo (n - k) s).2)

theorem Rr.next {w : World} {d p B stamp n : Nat} {s0 : RS} {k : Nat} {v v' : Value} {rs1 : List Rq} {s : RS} {wr w1 w2 : World} {vo : Option Addr} {vc : Nat} {o2 : Obj}
    (hp : p < w.heap.size) (hd : d < w.heap.size) (hsd : s.sound) (hB : w.heap.size < B) (h : Rr w d p B stamp n s0 k v rs1 s wr) (hkn : k < n)
    (ho : Owns (wr.heap.size + 1) w1 (.slice vo (rrV s).2.2.length vc) (rrV s).2.2) (hR : RefS d w1 p (rrS3 s)) (hg : wr.grownBy w1 (some p)) (hn : (rrV s).1 < 18446744073709551616 ∧ (rrV s).2.1 < 18446744073709551616)
    (hr : w2.ownsRow (B + 1) 67 3 v' (k + 1) (rcells (rs1 ++ [⟨(rrV s).1, (rrV s).2.1, vo, (rrV s).2.2.length, vc, (rrV s).2.2⟩]))) (hg2 : (w1.alloc o2).grownBy w2 v.ownBlock) :
    Rr w d p B stamp n s0 (k + 1) v' (rs1 ++ [⟨(rrV s).1, (rrV s).2.1, vo, (rrV s).2.2.length, vc, (rrV s).2.2⟩]) (rrS3 s) (w2.setCell ⟨B, 1, none⟩ v') ∧ w2.cell? ⟨B, 1, none⟩ = some v ∧ w2.frozen? ⟨B, 1, none⟩ = false := by
  have hs0 := h.gr.size
  have hBl := block_lt h.box
  have hgA := World.grownBy_alloc w1 o2 none
  have hwp : ∀ u, v.ownBlock = some u → u ≠ p := fun u e => by have := (h.row.lt u e).1; omega
  have row1 : w1.ownsRow (B + 1) 67 3 v k (rcells rs1) := h.row.kept hg (.inr (fun e => hwp p e rfl))
  have rowA := row_quiet row1 hgA
  have box1 : w1.heap[B]? = _ := (grown_pos hg hBl (by omega)).trans h.box
  have boxA : (w1.alloc o2).heap[B]? = _ := (hgA.block _ (block_lt box1) (by simp)).trans box1
  have hrc := row_ne_box rowA boxA
  have box2 : w2.heap[B]? = _ := (hg2.block _ (block_lt boxA) (fun e => hrc e.symm)).trans boxA
  have res1 : w1.heap[w.heap.size]? = _ := (grown_pos hg (block_lt h.res) (by omega)).trans h.res
  have resA : (w1.alloc o2).heap[w.heap.size]? = _ := (hgA.block _ (block_lt res1) (by simp)).trans res1
  have hrr := row_ne_box rowA resA
  have res2 : w2.heap[w.heap.size]? = _ := (hg2.block _ (block_lt resA) (fun e => hrr e.symm)).trans resA
  have f1 : FreeRs (B + 1) w1 rs1 := h.free.next hg (fun r hx => .inr (fun e => by have := ((h.free.own r hx).1.lt p e).1; omega))
  have f1' : FreeRs (B + 1) w1 (rs1 ++ [⟨(rrV s).1, (rrV s).2.1, vo, (rrV s).2.2.length, vc, (rrV s).2.2⟩]) := by
    refine ⟨fun r hx => ?_, ?_⟩
    · rcases List.mem_append.1 hx with hx | hx
      · exact f1.own r hx
      · simp at hx; subst hx; exact ho.lower (by omega)
    · rw [List.pairwise_append]
      refine ⟨h.free.apart, by simp, fun a ha b hb => ?_⟩
      simp at hb
      subst hb
      cases e : a.sl.ownBlock with
      | none => exact .inl rfl
      | some g =>
        refine .inr (fun e2 => ?_)
        have h1 := ((h.free.own a ha).1.lt g e).2
        have h2 := (ho.1.lt g e2.symm).1
        omega
  have fA := f1'.next hgA (fun r hx => by
    cases r.sl.ownBlock with
    | none => exact .inl rfl
    | some g => exact .inr (by simp))
  have f2 := fA.next hg2 (fun r hx => owns_ne_row (fA.own r hx) rowA)
  have f3 := f2.next (grown_set w2 B 1 v') (fun r hx => .inr (owns_ne_cells (f2.own r hx) box2 (by decide)))
  have hrd : RefS d (w2.setCell ⟨B, 1, none⟩ v') p (rrS3 s) := by
    refine (((hR.kept hgA (by simp) (by simp)).kept hg2 (fun e => ?_) (fun e => ?_)).kept (grown_set w2 B 1 v') (by simp; omega) (by simp; omega))
    · have := (rowA.lt p e).1; omega
    · have := (rowA.lt d e).1; omega
  have g3 : w.grownBy (w2.setCell ⟨B, 1, none⟩ v') (some p) := by
    have ga := grown_trans (row := some p) h.gr hg
    have hsz := ga.size
    refine ⟨hg2.os.trans ga.os, hg2.tape.trans ga.tape, hg2.output.trans ga.output, by have := hg2.size; simp at this ⊢; omega, fun q hq hne => ?_⟩
    have e1 := ga.block q hq hne
    have e2 := hgA.block q (by omega) (by simp)
    have e3 := hg2.block q (by simp; omega) (fun e => by have := (rowA.lt q e.symm).1; omega)
    have e4 := (grown_set w2 B 1 v').block q (by have := hg2.size; simp at this; omega) (by simp; omega)
    exact e4.trans (e3.trans (e2.trans e1))
  refine ⟨⟨g3, ?_, ?_, hr.kept (grown_set _ _ _ _) (.inr (row_ne_box hr box2)), by simp [h.len], f3, ?_, ?_, hrd, ?_⟩, block_cell box2 1, block_free box2 1⟩
  · exact ((grown_set w2 B 1 v').block _ (block_lt res2) (by simp; omega)).trans res2
  · rw [heap_setCell_same w2 B 1 _ _ v' box2]; rfl
  · intro r hx
    rcases List.mem_append.1 hx with hx | hx
    · exact h.num r hx
    · simp at hx; subst hx; exact ⟨hn.1, hn.2, ho.2.1, ho.2.2⟩
  · intro r hx
    rcases List.mem_append.1 hx with hx | hx
    · exact h.cn r hx
    · simp at hx; subst hx; rfl
  · rw [h.go, show n - k = (n - (k + 1)) + 1 by omega, rrGo, if_pos hsd]
    simp [Rq.val]
end Go.Proofs.YtgaalaoflaklgaaGreat
