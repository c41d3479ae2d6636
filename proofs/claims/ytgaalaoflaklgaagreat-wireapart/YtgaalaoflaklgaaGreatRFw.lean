import Derived.Test.YtgaalaoflaklgaaGreatM40
import Derived.Test.YtgaalaoflaklgaaGreatM44
namespace Go.Proofs.YtgaalaoflaklgaaGreat
open Go.RowKit Crc

theorem WrS.lt {base p : Nat} {w : World} {s : WS} (h : WrS base w p s) : p < w.heap.size := by obtain ⟨v, hb, _⟩ := h; exact block_lt hb
theorem WrS.cellR {base p : Nat} {w : World} {s : WS} (h : WrS base w p s) (j : Nat) {u : Value} (hj : s.K.R[j]? = some u) : w.cell? ⟨p, 5 + j, none⟩ = some u := by
  obtain ⟨v, hb, _⟩ := h
  rw [block_cell hb (5 + j), List.getElem?_toArray, Nat.add_comm 5 j]
  exact hj
theorem put_K (s : WS) (F : List Nat) (y : Int) : (s.put F y).K = s.K := by
  unfold WS.put
  split
  · split
    · rfl
    · split <;> rfl
  · rfl
theorem layGo_K : ∀ (rs : List Rq) (s : WS), (layGo s rs).K = s.K
  | [], _ => rfl
  | r :: t, s => by rw [layGo, layGo_K t, put_K, put_K, put_K]
theorem lay_K (num nd slot st : Nat) (rs : List Rq) (m : Nat) (D : List Nat) (f : Fd) (s : WS) : (f.lay num nd slot st rs m D s).K = s.K := by
  cases f with
  | ballot => exact (put_K _ _ _).trans (put_K _ _ _)
  | slot => exact put_K _ _ _
  | batch => exact (layGo_K _ _).trans ((put_K _ _ _).trans (put_K _ _ _))
  | snap => exact put_K _ _ _
theorem layGo_inv : ∀ (rs : List Rq) (s : WS), s.Inv → (layGo s rs).Inv
  | [], _, h => h
  | r :: t, s, h => by rw [layGo]; exact layGo_inv t _ (WS.put_inv (WS.put_inv (WS.put_inv h _ _) _ _) _ _)
theorem lay_inv (num nd slot st : Nat) (rs : List Rq) (m : Nat) (D : List Nat) (f : Fd) {s : WS} (h : s.Inv) : (f.lay num nd slot st rs m D s).Inv := by
  cases f with
  | ballot => exact WS.put_inv (WS.put_inv h _ _) _ _
  | slot => exact WS.put_inv h _ _
  | batch => exact layGo_inv _ _ (WS.put_inv (WS.put_inv h _ _) _ _)
  | snap => exact WS.put_inv h _ _

def Fd.wfn : Fd → Nat
  | .ballot => 126
  | .slot => 128
  | .batch => 127
  | .snap => 129
theorem wm_any (f : Fd) (a : Addr) (w : World) : (method 293 93 (.pointer (some a)) f.name).run Tryz.prog w = .ok (f.wfn, .pointer (some a)) w := by
  cases f <;> kernel_rfl
theorem wc_any (f : Fd) (args : Array Value) (w : World) : (callFunc f.wfn args).run Tryz.prog w = .ok (.enter f.wfn args) w := by
  cases f <;> kernel_rfl

theorem numS {base p : Nat} {w : World} {s : WS} (hW : WrS base w p s) (hi : s.Inv) (hbs : base ≤ w.heap.size) (v : Nat) (hv : v < 18446744073709551616) :
    Calls Tryz.prog 53 #[.pointer (some ⟨p, 0, none⟩), .int .u64 (v : Int)] w fun e w' => e = .returned (.tuple #[]) ∧ Hid (WrS base w' p (s.put (numB v) 0) ∧ Tch 4 w w' p) :=
  (wNumP (.inr ⟨p, rfl, hW⟩) hi hbs v v rfl hv).mono (fun _ _ h => ⟨h.1, of_wrP h.2.out⟩)
theorem u8S {base p : Nat} {w : World} {s : WS} (hW : WrS base w p s) (hi : s.Inv) (hbs : base ≤ w.heap.size) (v : Nat) (hv : v < 256) :
    Calls Tryz.prog 35 #[.pointer (some ⟨p, 0, none⟩), .int .u8 (v : Int)] w fun e w' => e = .returned (.tuple #[]) ∧ Hid (WrS base w' p (s.put (big v 1) 0) ∧ Tch 4 w w' p) :=
  (wU8P (.inr ⟨p, rfl, hW⟩) hi hbs v v rfl hv).mono (fun _ _ h => ⟨h.1, of_wrP h.2.out⟩)

set_option maxRecDepth 10000 in
set_option maxHeartbeats 800000 in
theorem layBallot_prog {base p : Nat} {w : World} {s : WS} (hW : WrS base w p s) (hi : s.Inv) (hbs : base ≤ w.heap.size) (hp : base ≤ p) (num nd : Nat) (hn : num < 18446744073709551616) (hd : nd < 256) :
    Calls Tryz.prog 130 #[.pointer (some ⟨p, 0, none⟩), .agg #[.int .u64 (num : Int), .int .i64 (nd : Int)]] w fun e w' => e = .returned (.tuple #[]) ∧ Hid (WrS base w' p ((s.put (numB num) 0).put (big nd 1) 0) ∧ Tch 4 w w' p) := by
  have M := mach_prog base p hp
  have HL0 : Hid (LS 4 p base (fun w s => WrS base w p s) s w (w.alloc (.cells #[.int .u64 (num : Int), .int .i64 (nd : Int)] 28))) := (LS.begin hW hi hbs).quiet M (below_alloc1 w _)
  have HB0 : Hid (Box 4 p (w.alloc (.cells #[.int .u64 (num : Int), .int .i64 (nd : Int)] 28)) w.heap.size (.cells #[.int .u64 (num : Int), .int .i64 (nd : Int)] 28)) := Box.new M hW _
  clear hW hi M
  go_enter Tryz.func130, Tryz.ntmps130
  go_wp2_with fail
  refine (numS HL0.out.i HL0.out.inv HL0.out.bs num hn).mono ?_
  rintro e w1 ⟨rfl, H1⟩
  have HL1 := hide (HL0.out.step H1.out.1 H1.out.2)
  have HB1 := hide (HB0.out.step H1.out.2)
  have c1 := block_cell HB1.out.at_ 1
  simp at c1
  clear H1 HL0 HB0
  go_wp2_with fail
  clear c1
  refine (u8S HL1.out.i HL1.out.inv HL1.out.bs nd hd).mono ?_
  rintro e w2 ⟨rfl, H2⟩
  go_wp2
  go_end0
  have HL2 := HL1.out.step H2.out.1 H2.out.2
  exact ⟨rfl, HL2.i, HL2.tch⟩

theorem WrS.drew {base p : Nat} {w : World} {s : WS} (h : WrS base w p s) : WrS base w.drew p s := h
theorem tch_drew {p : Nat} {w w' : World} (h : Tch 4 w.drew w' p) : Tch 4 w w' p := ⟨h.os, h.tape, h.output, h.size, h.keep, h.foot⟩
theorem hRd {base : Nat} {w : World} {ro : Option Addr} {rs : List Rq} {b off : Nat} (h : Rqs base w ro rs b off) : Rqs base w.drew ro rs b off := h.below ⟨rfl, rfl, rfl, Nat.le_refl _, fun _ _ => rfl⟩
theorem hSd {base : Nat} {w : World} {ao : Option Addr} {n cap : Nat} {B : List Nat} (h : Shows base w ao n cap B) : Shows base w.drew ao n cap B := h.belowL ⟨rfl, rfl, rfl, Nat.le_refl _, fun _ _ => rfl⟩
section
variable {base p : Nat} {w : World} {s : WS} {num : Nat} {node : Int} {slot st : Nat} {ro : Option Addr} {rs : List Rq} {b off : Nat} {n rc : Nat} {do_ : Option Addr} {m dc : Nat} {D : List Nat}
set_option maxRecDepth 10000 in
theorem wf_ballot (hW : WrS base w p s) (hK : s.K.R = msgR num node slot st (.slice ro n rc) (.slice do_ m dc)) (hi : s.Inv) (hbs : base ≤ w.heap.size) (hp : base ≤ p) (nd : Nat) (hnd : node = (nd : Int)) (hn : num < 18446744073709551616) (hd : nd < 256) :
    Calls Tryz.prog 126 #[.pointer (some ⟨p, 0, none⟩)] w fun e w' => e = .returned (.tuple #[]) ∧ Hid (WrS base w' p ((s.put (numB num) 0).put (big nd 1) 0) ∧ Tch 4 w w' p) := by
  subst hnd
  have c1 := hW.cellR 1 (u := .int .u64 (num : Int)) (by rw [hK]; rfl)
  have c2 := hW.cellR 2 (u := .int .i64 (nd : Int)) (by rw [hK]; rfl)
  simp only [Nat.reduceAdd] at c1 c2
  have HB := hide (layBallot_prog hW.drew hi hbs hp num nd hn hd)
  clear hW hK hi
  go_enter Tryz.func126, Tryz.ntmps126
  go_wp2_with fail
  go_region_with (go_at_call 130; refine HB.out.mono ?_; rintro e w1 ⟨rfl, H1⟩)
  all_goals go_wp2
  all_goals go_end0
  all_goals exact ⟨rfl, H1.out.1, tch_drew H1.out.2⟩
set_option maxRecDepth 10000 in
theorem wf_slot (hW : WrS base w p s) (hK : s.K.R = msgR num node slot st (.slice ro n rc) (.slice do_ m dc)) (hi : s.Inv) (hbs : base ≤ w.heap.size) (hs : slot < 18446744073709551616) :
    Calls Tryz.prog 128 #[.pointer (some ⟨p, 0, none⟩)] w fun e w' => e = .returned (.tuple #[]) ∧ Hid (WrS base w' p (s.put (numB slot) 0) ∧ Tch 4 w w' p) := by
  have c1 := hW.cellR 3 (u := .int .u64 (slot : Int)) (by rw [hK]; rfl)
  simp only [Nat.reduceAdd] at c1
  have HB := hide (numS hW.drew hi hbs slot hs)
  clear hW hK hi
  go_enter Tryz.func128, Tryz.ntmps128
  go_wp2_with fail
  go_region_with (go_at_call 53; refine HB.out.mono ?_; rintro e w1 ⟨rfl, H1⟩)
  all_goals go_wp2
  all_goals go_end0
  all_goals exact ⟨rfl, H1.out.1, tch_drew H1.out.2⟩
set_option maxRecDepth 10000 in
theorem wf_batch (hW : WrS base w p s) (hK : s.K.R = msgR num node slot st (.slice ro n rc) (.slice do_ m dc)) (hi : s.Inv) (hbs : base ≤ w.heap.size) (hp : base ≤ p) (hst : st < 18446744073709551616) (hR : Rqs base w ro rs b off) (hn : rs.length = n) (h8 : rs.length ≤ 8) (h7 : ∀ r ∈ rs, r.cn ≤ 700) (hco : ∀ r ∈ rs, ∀ b off, r.co = some ⟨b, off, none⟩ → b < base) :
    Calls Tryz.prog 127 #[.pointer (some ⟨p, 0, none⟩)] w fun e w' => e = .returned (.tuple #[]) ∧ Hid (WrS base w' p (layB s st rs) ∧ Tch 4 w w' p) := by
  have c1 := hW.cellR 6 (u := .int .u64 (st : Int)) (by rw [hK]; rfl)
  have c2 := hW.cellR 7 (u := .slice ro n rc) (by rw [hK]; rfl)
  simp only [Nat.reduceAdd] at c1 c2
  have HB : Hid (Calls Tryz.prog 25 #[.pointer (some ⟨p, 0, none⟩), .agg #[.int .u64 (st : Int), .slice ro n rc]] w.drew fun e w' => e = .returned (.tuple #[]) ∧ Hid (WrS base w' p (layB s st rs) ∧ Tch 4 w.drew w' p)) := by
    have h := layBatch_prog hW.drew hi hbs hp st hst rc (hRd hR) h8 h7 hco
    rw [hn] at h
    exact h
  clear hW hK hi hR h7 hco
  go_enter Tryz.func127, Tryz.ntmps127
  go_wp2_with fail
  go_region_with (go_at_call 25; refine HB.out.mono ?_; rintro e w1 ⟨rfl, H1⟩)
  all_goals go_wp2
  all_goals go_end0
  all_goals exact ⟨rfl, H1.out.1, tch_drew H1.out.2⟩
set_option maxRecDepth 10000 in
theorem wf_snap (hW : WrS base w p s) (hK : s.K.R = msgR num node slot st (.slice ro n rc) (.slice do_ m dc)) (hi : s.Inv) (hbs : base ≤ w.heap.size) (hS : Shows base w do_ m dc D) (hdo : ∀ b off, do_ = some ⟨b, off, none⟩ → b < base) :
    Calls Tryz.prog 129 #[.pointer (some ⟨p, 0, none⟩)] w fun e w' => e = .returned (.tuple #[]) ∧ Hid (WrS base w' p (s.put (numB m ++ D) (cntY m 40000)) ∧ Tch 4 w w' p) := by
  have c1 := hW.cellR 12 (u := .slice do_ m dc) (by rw [hK]; rfl)
  simp only [Nat.reduceAdd] at c1
  have HB : Hid (Calls Tryz.prog 55 #[.pointer (some ⟨p, 0, none⟩), .slice do_ m dc, .int .i64 40000] w.drew fun e w' => e = .returned (.tuple #[]) ∧ Hid (WrS base w' p (s.put (numB m ++ D) (cntY m 40000)) ∧ Tch 4 w.drew w' p)) := by
    refine (wBlobP (.inr ⟨p, rfl, hW.drew⟩) hi hbs do_ m dc D 40000 (hSd hS) (fun q u g e hu hg b off hb => ?_)).mono (fun _ _ h => ⟨h.1, of_wrP h.2.out⟩)
    cases e
    obtain ⟨v, hbk, hO, _⟩ := hW
    have c4 := block_cell hbk 4
    have hu : w.cell? ⟨p, 4, none⟩ = some u := hu
    rw [hu] at c4
    simp at c4
    subst c4
    have h1 := (hO.1.lt g hg).1
    have h2 := hdo b off hb
    omega
  clear hW hK hi hS hdo
  go_enter Tryz.func129, Tryz.ntmps129
  go_wp2_with fail
  go_region_with (go_at_call 55; refine HB.out.mono ?_; rintro e w1 ⟨rfl, H1⟩)
  all_goals go_wp2
  all_goals go_end0
  all_goals exact ⟨rfl, H1.out.1, tch_drew H1.out.2⟩
end
end Go.Proofs.YtgaalaoflaklgaaGreat
