import Derived.Test.YtldhafpeigdloaaGreatDoorM33
import Derived.Test.YtldhafpeigdloaaGreatDoorM26
import Derived.Deep.MidRow
import Derived.ChangeKeysEq
namespace Go.Proofs.YtldhafpeigdloaaGreatDoor
open Go.RowKit Crc

theorem WrS.lt {base p : Nat} {w : World} {s : WS} (h : WrS base w p s) : p < w.heap.size := by obtain ⟨v, hb, _⟩ := h; exact block_lt hb
theorem WrS.cellR {base p : Nat} {w : World} {s : WS} (h : WrS base w p s) (j : Nat) {u : Value} (hj : s.K.R[j]? = some u) : w.cell? ⟨p, 5 + j, none⟩ = some u := by
  obtain ⟨v, hb, _⟩ := h
  rw [block_cell hb (5 + j), List.getElem?_toArray, Nat.add_comm 5 j]
  exact hj
theorem put_K (s : WS) (F : List Nat) (y : Int) : (s.put F y).K = s.K := by
  unfold WS.put
  split
  · split
    · rfl
    · split <;> rfl
  · rfl
theorem layGo_K : ∀ (rs : List Rq) (s : WS), (layGo s rs).K = s.K
  | [], _ => rfl
  | r :: t, s => by rw [layGo, layGo_K t, put_K, put_K, put_K]
theorem lay_K (num nd slot st : Nat) (rs : List Rq) (m : Nat) (D : List Nat) (f : Fd) (s : WS) : (f.lay num nd slot st rs m D s).K = s.K := by
  cases f with
  | ballot => exact (put_K _ _ _).trans (put_K _ _ _)
  | slot => exact put_K _ _ _
  | batch => exact (layGo_K _ _).trans ((put_K _ _ _).trans (put_K _ _ _))
  | snap => exact put_K _ _ _
theorem layGo_inv : ∀ (rs : List Rq) (s : WS), s.Inv → (layGo s rs).Inv
  | [], _, h => h
  | r :: t, s, h => by rw [layGo]; exact layGo_inv t _ (WS.put_inv (WS.put_inv (WS.put_inv h _ _) _ _) _ _)
theorem lay_inv (num nd slot st : Nat) (rs : List Rq) (m : Nat) (D : List Nat) (f : Fd) {s : WS} (h : s.Inv) : (f.lay num nd slot st rs m D s).Inv := by
  cases f with
  | ballot => exact WS.put_inv (WS.put_inv h _ _) _ _
  | slot => exact WS.put_inv h _ _
  | batch => exact layGo_inv _ _ (WS.put_inv (WS.put_inv h _ _) _ _)
  | snap => exact WS.put_inv h _ _

theorem numS {base p : Nat} {w : World} {s : WS} (hW : WrS base w p s) (hi : s.Inv) (hbs : base ≤ w.heap.size) (v : Nat) (hv : v < 18446744073709551616) :
    Calls Tryz.prog 100 #[.pointer (some ⟨p, 0, none⟩), .int .u64 (v : Int)] w fun e w' => e = .returned (.tuple #[]) ∧ Hid (WrS base w' p (s.put (numB v) 0) ∧ Tch 4 w w' p) :=
  (wNumP (.inr ⟨p, rfl, hW⟩) hi hbs v v rfl hv).mono (fun _ _ h => ⟨h.1, of_wrP h.2.out⟩)
theorem u8S {base p : Nat} {w : World} {s : WS} (hW : WrS base w p s) (hi : s.Inv) (hbs : base ≤ w.heap.size) (v : Nat) (hv : v < 256) :
    Calls Tryz.prog 104 #[.pointer (some ⟨p, 0, none⟩), .int .u8 (v : Int)] w fun e w' => e = .returned (.tuple #[]) ∧ Hid (WrS base w' p (s.put (big v 1) 0) ∧ Tch 4 w w' p) :=
  (wU8P (.inr ⟨p, rfl, hW⟩) hi hbs v v rfl hv).mono (fun _ _ h => ⟨h.1, of_wrP h.2.out⟩)

set_option maxRecDepth 10000 in
set_option maxHeartbeats 800000 in
theorem layBallot_prog {base p : Nat} {w : World} {s : WS} (hW : WrS base w p s) (hi : s.Inv) (hbs : base ≤ w.heap.size) (hp : base ≤ p) (num nd : Nat) (hn : num < 18446744073709551616) (hd : nd < 256) :
    Calls Tryz.prog 97 #[.pointer (some ⟨p, 0, none⟩), .agg #[.int .u64 (num : Int), .int .i64 (nd : Int)]] w fun e w' => e = .returned (.tuple #[]) ∧ Hid (WrS base w' p ((s.put (numB num) 0).put (big nd 1) 0) ∧ Tch 4 w w' p) := by
  have M := mach_prog base p hp
  have HL0 : Hid (LS 4 p base (fun w s => WrS base w p s) s w (w.alloc (.cells #[.int .u64 (num : Int), .int .i64 (nd : Int)] 25))) := (LS.begin hW hi hbs).quiet M (below_alloc1 w _)
  have HB0 : Hid (Box 4 p (w.alloc (.cells #[.int .u64 (num : Int), .int .i64 (nd : Int)] 25)) w.heap.size (.cells #[.int .u64 (num : Int), .int .i64 (nd : Int)] 25)) := Box.new M hW _
  clear hW hi M
  go_enter Tryz.func97, Tryz.ntmps97
  go_wp2_with fail
  refine (numS HL0.out.i HL0.out.inv HL0.out.bs num hn).mono ?_
  rintro e w1 ⟨rfl, H1⟩
  have HL1 := hide (HL0.out.step H1.out.1 H1.out.2)
  have HB1 := hide (HB0.out.step H1.out.2)
  have c1 := block_cell HB1.out.at_ 1
  simp at c1
  clear H1 HL0 HB0
  go_wp2_with fail
  clear c1
  refine (u8S HL1.out.i HL1.out.inv HL1.out.bs nd hd).mono ?_
  rintro e w2 ⟨rfl, H2⟩
  go_wp2
  go_end0
  have HL2 := HL1.out.step H2.out.1 H2.out.2
  exact ⟨rfl, HL2.i, HL2.tch⟩

theorem WrS.drew {base p : Nat} {w : World} {s : WS} (h : WrS base w p s) : WrS base w.drew p s := h
theorem tch_drew {p : Nat} {w w' : World} (h : Tch 4 w.drew w' p) : Tch 4 w w' p := ⟨h.os, h.tape, h.output, h.size, h.keep, h.foot⟩
theorem hRd {base : Nat} {w : World} {ro : Option Addr} {rs : List Rq} {b off : Nat} (h : Rqs base w ro rs b off) : Rqs base w.drew ro rs b off := h.below ⟨rfl, rfl, rfl, Nat.le_refl _, fun _ _ => rfl⟩
theorem hSd {base : Nat} {w : World} {ao : Option Addr} {n cap : Nat} {B : List Nat} (h : Shows base w ao n cap B) : Shows base w.drew ao n cap B := h.belowL ⟨rfl, rfl, rfl, Nat.le_refl _, fun _ _ => rfl⟩
section
variable {base p : Nat} {w : World} {s : WS} {num : Nat} {node : Int} {slot st : Nat} {ro : Option Addr} {rs : List Rq} {b off : Nat} {n rc : Nat} {do_ : Option Addr} {m dc : Nat} {D : List Nat}
set_option maxRecDepth 10000 in
theorem wf_ballot (hW : WrS base w p s) (hK : s.K.R = msgR num node slot st (.slice ro n rc) (.slice do_ m dc)) (hi : s.Inv) (hbs : base ≤ w.heap.size) (hp : base ≤ p) (nd : Nat) (hnd : node = (nd : Int)) (hn : num < 18446744073709551616) (hd : nd < 256) :
    Calls Tryz.prog 81 #[.pointer (some ⟨p, 0, none⟩)] w fun e w' => e = .returned (.tuple #[]) ∧ Hid (WrS base w' p ((s.put (numB num) 0).put (big nd 1) 0) ∧ Tch 4 w w' p) := by
  subst hnd
  have c1 := hW.cellR 1 (u := .int .u64 (num : Int)) (by rw [hK]; rfl)
  have c2 := hW.cellR 2 (u := .int .i64 (nd : Int)) (by rw [hK]; rfl)
  simp only [Nat.reduceAdd] at c1 c2
  have HB := hide (layBallot_prog hW.drew hi hbs hp num nd hn hd)
  clear hW hK hi
  go_enter Tryz.func81, Tryz.ntmps81
  go_wp2_with fail
  go_region_with (go_at_call 97; refine HB.out.mono ?_; rintro e w1 ⟨rfl, H1⟩)
  all_goals go_wp2
  all_goals go_end0
  all_goals exact ⟨rfl, H1.out.1, tch_drew H1.out.2⟩
set_option maxRecDepth 10000 in
theorem wf_slot (hW : WrS base w p s) (hK : s.K.R = msgR num node slot st (.slice ro n rc) (.slice do_ m dc)) (hi : s.Inv) (hbs : base ≤ w.heap.size) (hs : slot < 18446744073709551616) :
    Calls Tryz.prog 92 #[.pointer (some ⟨p, 0, none⟩)] w fun e w' => e = .returned (.tuple #[]) ∧ Hid (WrS base w' p (s.put (numB slot) 0) ∧ Tch 4 w w' p) := by
  have c1 := hW.cellR 3 (u := .int .u64 (slot : Int)) (by rw [hK]; rfl)
  simp only [Nat.reduceAdd] at c1
  have HB := hide (numS hW.drew hi hbs slot hs)
  clear hW hK hi
  go_enter Tryz.func92, Tryz.ntmps92
  go_wp2_with fail
  go_region_with (go_at_call 100; refine HB.out.mono ?_; rintro e w1 ⟨rfl, H1⟩)
  all_goals go_wp2
  all_goals go_end0
  all_goals exact ⟨rfl, H1.out.1, tch_drew H1.out.2⟩
set_option maxRecDepth 10000 in
theorem wf_batch (hW : WrS base w p s) (hK : s.K.R = msgR num node slot st (.slice ro n rc) (.slice do_ m dc)) (hi : s.Inv) (hbs : base ≤ w.heap.size) (hp : base ≤ p) (hst : st < 18446744073709551616) (hR : Rqs base w ro rs b off) (hn : rs.length = n) (h8 : rs.length ≤ 8) (h7 : ∀ r ∈ rs, r.cn ≤ 700) (hco : ∀ r ∈ rs, ∀ b off, r.co = some ⟨b, off, none⟩ → b < base) :
    Calls Tryz.prog 82 #[.pointer (some ⟨p, 0, none⟩)] w fun e w' => e = .returned (.tuple #[]) ∧ Hid (WrS base w' p (layB s st rs) ∧ Tch 4 w w' p) := by
  have c1 := hW.cellR 6 (u := .int .u64 (st : Int)) (by rw [hK]; rfl)
  have c2 := hW.cellR 7 (u := .slice ro n rc) (by rw [hK]; rfl)
  simp only [Nat.reduceAdd] at c1 c2
  have HB : Hid (Calls Tryz.prog 98 #[.pointer (some ⟨p, 0, none⟩), .agg #[.int .u64 (st : Int), .slice ro n rc]] w.drew fun e w' => e = .returned (.tuple #[]) ∧ Hid (WrS base w' p (layB s st rs) ∧ Tch 4 w.drew w' p)) := by
    have h := layBatch_prog hW.drew hi hbs hp st hst rc (hRd hR) h8 h7 hco
    rw [hn] at h
    exact h
  clear hW hK hi hR h7 hco
  go_enter Tryz.func82, Tryz.ntmps82
  go_wp2_with fail
  go_region_with (go_at_call 98; refine HB.out.mono ?_; rintro e w1 ⟨rfl, H1⟩)
  all_goals go_wp2
  all_goals go_end0
  all_goals exact ⟨rfl, H1.out.1, tch_drew H1.out.2⟩
end
end Go.Proofs.YtldhafpeigdloaaGreatDoor
namespace Go.Proofs.YtldhafpeigdloaaGreatDoor
open Go.RowKit Crc

/-- A hash as it is laid down. -/
def layH : WS → List Nat → WS
  | s, [] => s
  | s, x :: t => layH (s.put (big x 1) 0) t
theorem index_hash {cs : List Value} {k : Nat} {v : Value} (hk : k < 32) (hv : cs[k]? = some v) (w : World) : (Instr.index 33 (.agg cs.toArray) (.int .i64 (k : Int))).run Tryz.prog w = .ok v w := by
  have hu : Tryz.prog.underlying 33 = some (.array 32 5) := by kernel_rfl
  have hp : Tryz.prog.plainKey 5 = true := by kernel_rfl
  obtain ⟨i0, hi, hz0, hz1, hz2⟩ := info_parts Tryz.info5
  have hc : Tryz.prog.cellsOf 5 = 1 := by kernel_rfl
  have h1 := run_part_plain (P := Tryz.prog) w hp (xs := cs.toArray) (off := k * 1) (by rw [Nat.mul_one, List.getElem?_toArray]; exact hv)
  have hb : (0 : Int) ≤ (k : Int) ∧ (k : Int) < ((32 : Nat) : Int) := by omega
  simp only [Instr.index, asIntOf, Sem.run_bind, Sem.run_pure, Result.andThen_ok, run_underlying hu]
  rw [if_pos hb]
  simp only [Sem.run_bind, run_sizeOf w hi, Result.andThen_ok, Int.toNat_natCast, hc]
  exact h1
set_option maxRecDepth 10000 in
set_option maxHeartbeats 800000 in
theorem layHash_prog {base p : Nat} {w : World} {s : WS} (hW : WrS base w p s) (hi : s.Inv) (hbs : base ≤ w.heap.size) (hp : base ≤ p) (h : List Nat) (hl : h.length = 32) (hb : ∀ x ∈ h, x < 256) :
    Calls Tryz.prog 102 #[.pointer (some ⟨p, 0, none⟩), .agg (vals h).toArray] w fun e w' => e = .returned (.tuple #[]) ∧ Hid (WrS base w' p (layH s h) ∧ Tch 4 w w' p) := by
  have M := mach_prog base p hp
  have HL0 : Hid (LS 4 p base (fun w s => WrS base w p s) s w (w.alloc (.cells (vals h).toArray 33))) := (LS.begin hW hi hbs).quiet M (below_alloc1 w _)
  have HRG : Hid ((w.alloc (.cells (vals h).toArray 33)).rangeAt w.heap.size 0 (vals h)) := by
    refine fun j v hv => ?_
    rw [Nat.zero_add, block_cell (alloc_at _ _) j, List.getElem?_toArray]
    exact hv
  have HSZ : Hid ((Tryz.prog.info? 33).map (·.size) = some (vals h).length) := by show _ = _; rw [vals_len, hl]; kernel_rfl
  have HU8 : Hid (∀ (s' : WS) (w' : World) (v : Nat), LS 4 p base (fun w s => WrS base w p s) s' w w' → v < 256 → Calls Tryz.prog 104 #[.pointer (some ⟨p, 0, none⟩), .int .u8 (v : Int)] w' fun e w'' => e = .returned (.tuple #[]) ∧ Hid (LS 4 p base (fun w s => WrS base w p s) (s'.put (big v 1) 0) w w'')) := fun s' w' v h hv => (u8S h.i h.inv h.bs v hv).mono (fun _ _ H => ⟨H.1, h.step H.2.out.1 H.2.out.2⟩)
  have HG : Hid (∀ k, k < 32 → ∃ x, (vals h)[k]? = some (.int .u8 ((x : Nat) : Int)) ∧ x < 256 ∧ h.drop k = x :: h.drop (k + 1)) := fun k hk => by
    have hk' : k < h.length := by omega
    exact ⟨h[k], by simp [vals, List.getElem?_map, List.getElem?_eq_getElem hk'], hb _ (List.getElem_mem hk'), List.drop_eq_getElem_cons hk'⟩
  have HEND : Hid (h.drop 32 = []) := List.drop_eq_nil_of_le (by omega)
  have HVL : Hid ((vals h).length = 32) := by show _ = _; rw [vals_len, hl]
  clear hW hi M hb hl
  obtain ⟨cs, hcs⟩ : ∃ cs, vals h = cs := ⟨_, rfl⟩
  rw [hcs] at HRG HSZ HG HVL HL0 ⊢
  clear hcs
  go_enter Tryz.func102, Tryz.ntmps102
  go_wp2_with (refine wpList_load_mid rfl 33 _ rfl w.heap.size 0 rfl cs _ HRG.out Tryz.underlying33 rfl HSZ.out ?_)
  go_loopw [7] (fun i wr => ∃ k : Nat, k ≤ 32 ∧ i = .int .i64 k ∧ Hid (∃ s', LS 4 p base (fun w s => WrS base w p s) s' w wr ∧ layH s h = layH s' (h.drop k))) (fun i _ => 32 - (intOf i).toNat)
  case atStart => exact ⟨0, by omega, rfl, _, HL0.out, rfl⟩
  case round =>
    obtain ⟨k, hk, rfl, HS⟩ := hrel
    obtain ⟨s', hls, hlay⟩ := HS.out
    have HLS := hide hls
    have HLAY := hide hlay
    clear hls hlay HS HL0 HRG HSZ
    by_cases hlt : k < 32
    · obtain ⟨x, hx, hx2, hd⟩ := HG.out k hlt
      rw [hd] at HLAY
      have hix := index_hash hlt hx wr
      clear hd hx
      go_wp2_with fail
      refine (HU8.out _ _ x HLS.out hx2).mono ?_
      rintro e w3 ⟨rfl, H3⟩
      go_wp2
      go_roundw
      case rel => exact ⟨k + 1, by omega, by go_num, _, H3.out, HLAY.out⟩
      case measure => simp [intOf]; omega
    · obtain rfl : k = 32 := by omega
      go_wp2
      go_end0
      refine ⟨rfl, ?_⟩
      rw [HLAY.out, HEND.out]
      exact ⟨HLS.out.i, HLS.out.tch⟩
end Go.Proofs.YtldhafpeigdloaaGreatDoor
