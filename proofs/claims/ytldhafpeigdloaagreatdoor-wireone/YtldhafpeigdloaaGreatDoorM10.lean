import Derived.Test.YtldhafpeigdloaaGreatDoorM9
import Derived.Test.YtldhafpeigdloaaGreatDoorM7
import Derived.Test.YtldhafpeigdloaaGreatDoorM8
namespace Go.Proofs.YtldhafpeigdloaaGreatDoor
open Go.RowKit Crc

def clampW (m : Int) : Int := if m < 0 then 0 else if 65507 < m then 65507 else m
def wNew (m : Int) : Obj := .cells #[.bool true, .int .i64 0, .int .i64 0, .int .i64 (clampW m), .slice none 0 0] 89 (0, 0)
def wZero : Obj := .cells #[.bool false, .int .i64 0, .int .i64 0, .int .i64 0, .slice none 0 0] 89 (0, 0)
set_option maxRecDepth 10000 in
set_option maxHeartbeats 400000 in
theorem newWriter_any (m : Int) (w : World) :
    Calls Tryz.prog 29 #[.int .i64 m] w fun e w' => e = .returned (.pointer (some ⟨w.heap.size, 0, none⟩)) ∧ w' = w.alloc (wNew m) := by
  by_cases h0 : m < 0
  · have HC : Hid (clampW m = 0) := by unfold clampW; rw [if_pos h0]; rfl
    unfold wNew
    rw [HC.out]
    have d0 : decide (m < 0) = true := by simp [h0]
    have d1 : decide (0 < m) = false := by simp; omega
    have d2 : max m 0 = 0 := by omega
    go_enter Tryz.func29, Tryz.ntmps29
    go_wp2
    go_ret
    exact ⟨rfl, rfl⟩
  · by_cases h1 : 65507 < m
    · have HC : Hid (clampW m = 65507) := by unfold clampW; rw [if_neg h0, if_pos h1]; rfl
      unfold wNew
      rw [HC.out]
      have d0 : decide (m < 0) = false := by simp; omega
      have d1 : decide (0 < m) = true := by simp; omega
      have d2 : max m 0 = m := by omega
      have d3 : decide (65507 < m) = true := by simp; omega
      have d4 : decide (m < 65507) = false := by simp; omega
      go_enter Tryz.func29, Tryz.ntmps29
      go_wp2
      go_ret
      exact ⟨rfl, rfl⟩
    · have HC : Hid (clampW m = m) := by unfold clampW; rw [if_neg h0, if_neg h1]; rfl
      unfold wNew
      rw [HC.out]
      have d0 : decide (m < 0) = false := by simp; omega
      have d3 : decide (65507 < m) = false := by simp; omega
      go_enter Tryz.func29, Tryz.ntmps29
      go_wp2
      go_ret
      exact ⟨rfl, rfl⟩

theorem clampW_le (m : Int) : 0 ≤ clampW m ∧ clampW m ≤ 65507 := by
  unfold clampW
  split
  · omega
  · split <;> omega
theorem foot_plain {w : World} {p j k : Nat} (hc : w.cell? ⟨p, j, none⟩ = some (.slice none 0 0)) (h : Foot w p j k) : k = p := by
  rcases h with h | ⟨u, hu, hg⟩
  · exact h
  · rw [hc] at hu
    cases hu
    cases hg
theorem Fl.Ok.belowB {base : Nat} {w w' : World} {f : Fl} (h : f.Ok base w) (hb : Below base w w') : f.Ok base w' := ⟨h.hN, h.hK1, h.hK2, h.hI1, h.hI2, h.hM1, h.hM2, h.hB.belowB hb, h.hS⟩

end Go.Proofs.YtldhafpeigdloaaGreatDoor
namespace Go.Proofs.YtldhafpeigdloaaGreatDoor
open Go.RowKit Crc

/-- What comes of a batch. -/
def bRes (stamp : Nat) (rs : List Rq) : List Nat := if (bFault stamp rs).2 = 0 then encL stamp rs else []
theorem Rqs.wide {lim lim' : Nat} {w : World} {ro : Option Addr} {rs : List Rq} {b off : Nat} (h : Rqs lim w ro rs b off) (hl : lim ≤ lim') : Rqs lim' w ro rs b off :=
  ⟨h.ad, fun h0 => Nat.lt_of_lt_of_le (h.lt h0) hl, h.le, h.at_, fun r hr => ⟨(h.ok r hr).hc, (h.ok r hr).hs, (h.ok r hr).hC.wide hl⟩⟩
theorem Owns.low {base base' : Nat} {w : World} {v : Value} {B : List Nat} (h : Owns base w v B) (hl : base' ≤ base) : Owns base' w v B := by
  refine ⟨⟨h.1.1, ?_⟩, h.2⟩
  rcases h.1.2 with h0 | ⟨g, cap, cur, h1, h2, h3⟩
  · exact .inl h0
  · exact .inr ⟨g, cap, cur, h1, Nat.le_trans hl h2, h3⟩
theorem bGo_at : ∀ (rs : List Rq) (i : Nat), (bGo rs i).2 = 0 → (bGo rs i).1 = 0
  | [], _, _ => rfl
  | x :: t, i, h => by
    by_cases hx : x.why = 0
    · rw [bGo, if_pos hx] at h ⊢
      exact bGo_at t (i + 1) h
    · rw [bGo, if_neg hx] at h
      exact absurd h hx
theorem bFault_at {stamp : Nat} {rs : List Rq} (h : (bFault stamp rs).2 = 0) : (bFault stamp rs).1 = 0 := by
  unfold bFault at h ⊢
  by_cases h1 : 1099511627776 < stamp
  · rw [if_pos h1] at h; cases h
  · by_cases h2 : 8 < rs.length
    · rw [if_neg h1, if_pos h2] at h; cases h
    · rw [if_neg h1, if_neg h2] at h ⊢
      exact bGo_at rs 0 h

end Go.Proofs.YtldhafpeigdloaaGreatDoor
namespace Go.Proofs.YtldhafpeigdloaaGreatDoor
open Go.RowKit Crc

theorem alloc_at (w : World) (o : Obj) : (w.alloc o).heap[w.heap.size]? = some o := by simp [World.alloc, -World.alloc_eq]
theorem fin_two {w w3 : World} {v : Value} {B : List Nat} (h : Owns (w.heap.size + 1 + 1) w3 v B) (hb : Below w.heap.size w w3) (x y : Value) :
    Owns w.heap.size ((w3.setCell ⟨w.heap.size + 1, 0, none⟩ x).setCell ⟨w.heap.size + 1, 1, none⟩ y) v B ∧ Below w.heap.size w ((w3.setCell ⟨w.heap.size + 1, 0, none⟩ x).setCell ⟨w.heap.size + 1, 1, none⟩ y) := by
  have hne : v.ownBlock ≠ some (w.heap.size + 1) := fun e => by have := (h.1.lt _ e).1; omega
  exact ⟨((h.kept (grown_set _ _ _ _) (.inr hne)).kept (grown_set _ _ _ _) (.inr hne)).low (by omega), (hb.setCell (p := ⟨w.heap.size + 1, 0, none⟩) (by simp) _).setCell (p := ⟨w.heap.size + 1, 1, none⟩) (by simp) _⟩

end Go.Proofs.YtldhafpeigdloaaGreatDoor
namespace Go.Proofs.YtldhafpeigdloaaGreatDoor
open Go.RowKit Crc

/-- What a request says. -/
def Rq.val (r : Rq) : Nat × Nat × List Nat := (r.cl, r.sq, r.C)
theorem below_dN {l : Nat} {w w1 : World} (h : Below l w w1) (q : Nat) : Below l w (w1.drewN q) := ⟨h.os, h.tape, h.output, h.size, h.block⟩

set_option maxRecDepth 10000 in
set_option maxHeartbeats 800000 in
theorem sameRequest_any {l1 l2 : Nat} {w : World} {r1 r2 : Rq} (h1 : r1.Ok l1 w) (h2 : r2.Ok l2 w) (hl1 : l1 ≤ w.heap.size) (hl2 : l2 ≤ w.heap.size) (hv : r1.val = r2.val) :
    Calls Tryz.prog 37 #[.agg r1.cells, .agg r2.cells] w fun e w' => e = .returned (.bool true) ∧ Below w.heap.size w w' := by
  obtain ⟨cl, sq, co, cn, cc, C⟩ := r1
  obtain ⟨cl2, sq2, co2, cn2, cc2, C2⟩ := r2
  simp only [Rq.val, Prod.mk.injEq] at hv
  obtain ⟨rfl, rfl, rfl⟩ := hv
  have HBB : Hid (∀ o o', Below w.heap.size w ((w.alloc o).alloc o')) := fun o o' => (below_alloc1 w o).alloc (by simp) o'
  have HSM : Hid (∀ o o', Calls Tryz.prog 11 #[.slice co cn cc, .slice co2 cn2 cc2] ((w.alloc o).alloc o') fun e w' => e = .returned (.bool true) ∧ ∃ q, w' = ((w.alloc o).alloc o').drewN q) := fun o o' => same_any ((h1.hC.wide hl1).belowL (HBB.out o o')) ((h2.hC.wide hl2).belowL (HBB.out o o'))
  clear h1 h2
  rw [show (Rq.mk cl sq co cn cc C).cells = #[.int .u64 (cl : Int), .int .u64 (sq : Int), .slice co cn cc] from rfl, show (Rq.mk cl sq co2 cn2 cc2 C).cells = #[.int .u64 (cl : Int), .int .u64 (sq : Int), .slice co2 cn2 cc2] from rfl]
  go_enter Tryz.func37, Tryz.ntmps37
  go_wp2_with fail
  refine (HSM.out _ _).mono ?_
  rintro e w1 ⟨rfl, q, rfl⟩
  go_wp2
  go_ret
  exact ⟨rfl, below_dN (HBB.out _ _) q⟩

set_option maxRecDepth 10000 in
set_option maxHeartbeats 1600000 in
theorem sameBatch_any {l1 l2 : Nat} {w : World} (stamp : Nat) {ro1 ro2 : Option Addr} {rs1 rs2 : List Rq} {b1 off1 b2 off2 : Nat} (rc1 rc2 : Nat) (h1 : Rqs l1 w ro1 rs1 b1 off1) (h2 : Rqs l2 w ro2 rs2 b2 off2) (hl1 : l1 ≤ w.heap.size) (hl2 : l2 ≤ w.heap.size) (hv : rs1.map Rq.val = rs2.map Rq.val) :
    Calls Tryz.prog 27 #[.agg #[.int .u64 (stamp : Int), .slice ro1 rs1.length rc1], .agg #[.int .u64 (stamp : Int), .slice ro2 rs2.length rc2]] w fun e w' => e = .returned (.bool true) ∧ Below w.heap.size w w' := by
  have hlen : rs2.length = rs1.length := by have := congrArg List.length hv; simpa using this.symm
  have hle := h1.le
  have hb0 : Below w.heap.size w ((w.alloc (.cells #[.int .u64 (stamp : Int), .slice ro1 rs1.length rc1] 29)).alloc (.cells #[.int .u64 (stamp : Int), .slice ro2 rs1.length rc2] 29)) := (below_alloc1 w _).alloc (by simp) _
  have H1 := hide (h1.wide hl1)
  have H2 := hide (h2.wide hl2)
  have HV := hide hv
  have HLEN := hide hlen
  have e1 : (w.alloc (.cells #[.int .u64 (stamp : Int), .slice ro1 rs1.length rc1] 29)).heap.size = w.heap.size + 1 := by simp
  have HC : Hid (∀ wr, Below (w.heap.size + 1 + 1) ((w.alloc (.cells #[.int .u64 (stamp : Int), .slice ro1 rs1.length rc1] 29)).alloc (.cells #[.int .u64 (stamp : Int), .slice ro2 rs1.length rc2] 29)) wr → wr.cell? ⟨w.heap.size, 1, none⟩ = some (.slice ro1 rs1.length rc1) ∧ wr.cell? ⟨w.heap.size + 1, 1, none⟩ = some (.slice ro2 rs1.length rc2) ∧ Below w.heap.size w wr) := by
    intro wr hb
    refine ⟨(hb.cell (p := ⟨w.heap.size, 1, none⟩) (by simp; omega)).trans ((World.cell?_alloc_lt _ _ _ (by rw [e1]; simp)).trans (World.cell?_alloc_new w _ _ _)), (hb.cell (p := ⟨w.heap.size + 1, 1, none⟩) (by simp)).trans (by rw [← e1]; exact World.cell?_alloc_new _ _ _ _), hb0.trans (hb.mono (by omega))⟩
  rw [hlen]
  clear h1 h2 hv hlen e1 hb0
  go_enter Tryz.func27, Tryz.ntmps27
  go_wp2
  go_loopw [5] (fun i wr => ∃ k : Nat, k ≤ rs1.length ∧ i = .int .i64 k ∧ Hid (Below (w.heap.size + 1 + 1) ((w.alloc (.cells #[.int .u64 (stamp : Int), .slice ro1 rs1.length rc1] 29)).alloc (.cells #[.int .u64 (stamp : Int), .slice ro2 rs1.length rc2] 29)) wr)) (fun i _ => rs1.length - (intOf i).toNat)
  case atStart => exact ⟨0, by omega, rfl, Below.refl _ _⟩
  case round =>
    obtain ⟨k, hk, rfl, HW⟩ := hrel
    obtain ⟨m1, m2, hbw⟩ := HC.out wr HW.out
    have HBW := hide hbw
    clear hbw
    by_cases hlt : k < rs1.length
    · have hlt2 : k < rs2.length := by have := HLEN.out; omega
      obtain ⟨r1, hr1, _, hok1, hbl1, rfl, a0, a1, a2⟩ := (H1.out.below HBW.out).get hlt
      obtain ⟨r2, hr2, _, hok2, hbl2, rfl, b0, b1', b2'⟩ := (H2.out.below HBW.out).get hlt2
      have hval : r1.val = r2.val := by
        have h := congrArg (fun l => l[k]?) HV.out
        simp only [List.getElem?_map, hr1, hr2, Option.map_some] at h
        exact Option.some.inj h
      have HSR : Hid (∀ q, Calls Tryz.prog 37 #[.agg #[.int .u64 (r1.cl : Int), .int .u64 (r1.sq : Int), .slice r1.co r1.cn r1.cc], .agg #[.int .u64 (r2.cl : Int), .int .u64 (r2.sq : Int), .slice r2.co r2.cn r2.cc]] (wr.drewN q) fun e w' => e = .returned (.bool true) ∧ (∀ a v, wr.cell? a = some v → w'.cell? a = some v) ∧ Hid (Below wr.heap.size wr w')) := fun q => by
        refine (sameRequest_any (w := wr.drewN q) (r1 := r1) (r2 := r2) (hok1.below (below_dN (Below.refl _ _) q)) (hok2.below (below_dN (Below.refl _ _) q)) HBW.out.size HBW.out.size hval).mono ?_
        rintro e w' ⟨rfl, h⟩
        have h' : Below wr.heap.size wr w' := ⟨h.os, h.tape, h.output, h.size, h.block⟩
        exact ⟨rfl, fun a v hv => (h'.cell (World.block_lt_of_cell? wr a hv)).trans hv, h'⟩
      have HWS := hide HBW.out.size
      obtain ⟨cl, sq, co, cn, cc, C⟩ := r1
      obtain ⟨cl2, sq2, co2, cn2, cc2, C2⟩ := r2
      simp only at a0 a1 a2 b0 b1' b2' HSR
      clear hr1 hr2 hok1 hok2 hval hlt2 hbl1 hbl2
      go_wp2_with fail
      go_region_held (fun w' => (w'.cell? ⟨w.heap.size, 1, none⟩ = some (.slice (some ⟨b1, off1, none⟩) rs1.length rc1) ∧ w'.cell? ⟨w.heap.size + 1, 1, none⟩ = some (.slice (some ⟨b2, off2, none⟩) rs1.length rc2)) ∧ (w'.cell? ⟨b1, off1 + k * 3, none⟩ = some (.int .u64 (cl : Int)) ∧ w'.cell? ⟨b1, off1 + k * 3 + 1, none⟩ = some (.int .u64 (sq : Int)) ∧ w'.cell? ⟨b1, off1 + k * 3 + 2, none⟩ = some (.slice co cn cc)) ∧ (w'.cell? ⟨b2, off2 + k * 3, none⟩ = some (.int .u64 (cl2 : Int)) ∧ w'.cell? ⟨b2, off2 + k * 3 + 1, none⟩ = some (.int .u64 (sq2 : Int)) ∧ w'.cell? ⟨b2, off2 + k * 3 + 2, none⟩ = some (.slice co2 cn2 cc2))) (go_keep)
        (first | (go_at_call 37; refine (HSR.out 1).mono ?_; rintro e w1 ⟨rfl, hall, HB1⟩; have n1 := hall _ _ m1; have n2 := hall _ _ m2; have n3 := hall _ _ a0; have n4 := hall _ _ a1; have n5 := hall _ _ a2; have n6 := hall _ _ b0; have n7 := hall _ _ b1'; have n8 := hall _ _ b2'; clear hall))
      all_goals go_wp2
      all_goals go_roundw
      case rel => exact ⟨k + 1, by omega, by go_num, HW.out.trans (HB1.out.mono (by have := HW.out.size; simp at this; omega))⟩
      case measure => simp [intOf]; omega
    · obtain rfl : k = rs1.length := by omega
      go_wp2
      go_ret
      exact ⟨rfl, HBW.out⟩
end Go.Proofs.YtldhafpeigdloaaGreatDoor
