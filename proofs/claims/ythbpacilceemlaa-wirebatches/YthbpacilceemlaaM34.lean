import Derived.Test.YthbpacilceemlaaM23
import Derived.Test.YthbpacilceemlaaM24
import Derived.Test.YthbpacilceemlaaQNo
import Derived.Test.YthbpacilceemlaaPYB
namespace Go.Proofs.Ythbpacilceemlaa
open Go.RowKit Crc

/-- What comes of a batch. -/
def bRes (stamp : Nat) (rs : List Rq) : List Nat := if (bFault stamp rs).2 = 0 then encL stamp rs else []
theorem Rqs.wide {lim lim' : Nat} {w : World} {ro : Option Addr} {rs : List Rq} {b off : Nat} (h : Rqs lim w ro rs b off) (hl : lim ≤ lim') : Rqs lim' w ro rs b off :=
  ⟨h.ad, fun h0 => Nat.lt_of_lt_of_le (h.lt h0) hl, h.le, h.at_, fun r hr => ⟨(h.ok r hr).hc, (h.ok r hr).hs, (h.ok r hr).hC.wide hl⟩⟩
theorem Owns.low {base base' : Nat} {w : World} {v : Value} {B : List Nat} (h : Owns base w v B) (hl : base' ≤ base) : Owns base' w v B := by
  refine ⟨⟨h.1.1, ?_⟩, h.2⟩
  rcases h.1.2 with h0 | ⟨g, cap, cur, h1, h2, h3⟩
  · exact .inl h0
  · exact .inr ⟨g, cap, cur, h1, Nat.le_trans hl h2, h3⟩
theorem bGo_at : ∀ (rs : List Rq) (i : Nat), (bGo rs i).2 = 0 → (bGo rs i).1 = 0
  | [], _, _ => rfl
  | x :: t, i, h => by
    by_cases hx : x.why = 0
    · rw [bGo, if_pos hx] at h ⊢
      exact bGo_at t (i + 1) h
    · rw [bGo, if_neg hx] at h
      exact absurd h hx
theorem bFault_at {stamp : Nat} {rs : List Rq} (h : (bFault stamp rs).2 = 0) : (bFault stamp rs).1 = 0 := by
  unfold bFault at h ⊢
  by_cases h1 : 1099511627776 < stamp
  · rw [if_pos h1] at h; cases h
  · by_cases h2 : 8 < rs.length
    · rw [if_neg h1, if_pos h2] at h; cases h
    · rw [if_neg h1, if_neg h2] at h ⊢
      exact bGo_at rs 0 h

set_option maxRecDepth 10000 in
set_option maxHeartbeats 1600000 in
theorem encBatch_prog {w : World} (stamp : Nat) (hst : stamp < 18446744073709551616) {ro : Option Addr} {rs : List Rq} {b off : Nat} (rc : Nat) (h : Rqs w.heap.size w ro rs b off) (hco : ∀ r ∈ rs, ∀ b off, r.co = some ⟨b, off, none⟩ → b < w.heap.size) :
    Calls Try.prog 31 #[.agg #[.int .u64 (stamp : Int), .slice ro rs.length rc]] w fun e w' => ∃ v x, e = .returned (.tuple #[v, x]) ∧ Hid (Owns w.heap.size w' v (bRes stamp rs) ∧ ErrV w' x (bFault stamp rs).2 (bFault stamp rs).1 ∧ Below w.heap.size w w') := by
  have hb0 := below_alloc1 w (.cells #[.int .u64 (stamp : Int), .slice ro rs.length rc] 71)
  have HFA : Hid (Calls Try.prog 78 #[.agg #[.int .u64 (stamp : Int), .slice ro rs.length rc]] (w.alloc (.cells #[.int .u64 (stamp : Int), .slice ro rs.length rc] 71)) fun e w' => e = .returned (.tuple #[.int .i64 ((bFault stamp rs).1 : Int), .int .i64 (bFault stamp rs).2]) ∧ w'.cell? ⟨w.heap.size, 0, none⟩ = some (.int .u64 (stamp : Int)) ∧ w'.cell? ⟨w.heap.size, 1, none⟩ = some (.slice ro rs.length rc) ∧ Hid (Below w.heap.size w w' ∧ w.heap.size < w'.heap.size)) := by
    refine (batchFault_any stamp rc ((h.below hb0).wide hb0.size)).mono ?_
    rintro e w' ⟨rfl, hb⟩
    have hc : ∀ k v, (#[Value.int .u64 (stamp : Int), .slice ro rs.length rc])[k]? = some v → w'.cell? ⟨w.heap.size, k, none⟩ = some v := fun k v hv => (hb.cell (p := ⟨w.heap.size, k, none⟩) (by simp)).trans ((World.cell?_alloc_new w _ _ _).trans hv)
    exact ⟨rfl, hc 0 _ rfl, hc 1 _ rfl, hb0.trans (hb.mono hb0.size), by have := hb.size; simp at this; omega⟩
  have HR := hide h
  have HCO := hide hco
  clear h hb0 hco
  by_cases hz : (bFault stamp rs).2 = 0
  · have HLY : Hid (∀ w1, Below w.heap.size w w1 → w1.cell? ⟨w.heap.size, 0, none⟩ = some (.int .u64 (stamp : Int)) → w1.cell? ⟨w.heap.size, 1, none⟩ = some (.slice ro rs.length rc) → Calls Try.prog 22 #[.int .i64 65507] w1 fun e w2 => ∃ p, e = .returned (.pointer (some ⟨p, 0, none⟩)) ∧ w2.cell? ⟨w.heap.size, 0, none⟩ = some (.int .u64 (stamp : Int)) ∧ w2.cell? ⟨w.heap.size, 1, none⟩ = some (.slice ro rs.length rc) ∧ Hid (Calls Try.prog 79 #[.pointer (some ⟨p, 0, none⟩), .agg #[.int .u64 (stamp : Int), .slice ro rs.length rc]] w2 fun e w3 => e = .returned (.tuple #[]) ∧ Hid (Calls Try.prog 24 #[.pointer (some ⟨p, 0, none⟩)] w3 fun e w4 => ∃ v, e = .returned (.tuple #[v, .nilIface]) ∧ Hid (Owns w.heap.size w4 v (encL stamp rs) ∧ Below w.heap.size w w4)))) := by
      intro w1 hb1 c0 c1
      obtain ⟨k1, k2, k3⟩ := bFault_ok hz
      have hlt : w.heap.size < w1.heap.size := World.block_lt_of_cell? w1 ⟨w.heap.size, 0, none⟩ c0
      refine (newWriter_full w1).mono ?_
      rintro e w2 ⟨rfl, hW, hb2⟩
      have hb2w : Below w.heap.size w w2 := hb1.trans (hb2.mono (by omega))
      refine ⟨w1.heap.size, rfl, (hb2.cell (p := ⟨w.heap.size, 0, none⟩) hlt).trans c0, (hb2.cell (p := ⟨w.heap.size, 1, none⟩) hlt).trans c1, ?_⟩
      have hs2 : w1.heap.size ≤ w2.heap.size := hb2.size
      have hWS : WrS w1.heap.size w2 w1.heap.size WS1 := hW
      refine (layBatch_prog (base := w1.heap.size) hWS (fun _ => ⟨by simp [WS1], by simp [WS1]⟩) hs2 (Nat.le_refl _) stamp hst rc ((HR.out.below hb2w).wide (by omega)) k2 (fun r hr => (k3 r hr).2) (fun r hr b off hbo => by have := HCO.out r hr b off hbo; omega)).mono ?_
      rintro e w3 ⟨rfl, H3⟩
      obtain ⟨hw3, ht3⟩ := H3.out
      refine ⟨rfl, ?_⟩
      rw [layB_ok k2 hst (fun r hr => ⟨(k3 r hr).2, (HR.out.ok r hr).hC.1, (HR.out.ok r hr).hc, (HR.out.ok r hr).hs⟩)] at hw3
      refine (wBytes_good w1.heap.size w1.heap.size 0 65507 (encL stamp rs) w3 hw3).mono ?_
      rintro e w4 ⟨v, rfl, ho, hb4⟩
      have hb3 : Below w1.heap.size w2 w3 := (mach_prog w1.heap.size w1.heap.size (Nat.le_refl _)).belowOf hWS hs2 ht3
      have hb3w : Below w.heap.size w w3 := hb2w.trans (hb3.mono (by omega))
      exact ⟨v, rfl, ho.low (by have := hb3w.size; omega), hb3w.trans (hb4.mono hb3w.size)⟩
    have HBR : Hid (bRes stamp rs = encL stamp rs) := if_pos hz
    have HAT := hide (bFault_at hz)
    rw [hz] at HFA ⊢
    go_enter Try.func31, Try.ntmps31
    go_wp2_with fail
    refine HFA.out.mono ?_
    rintro e w1 ⟨rfl, c0, c1, H1⟩
    go_wp2_with fail
    refine (HLY.out w1 H1.out.1 c0 c1).mono ?_
    rintro e w2 ⟨p, rfl, d0, d1, H2⟩
    go_wp2_with fail
    refine H2.out.mono ?_
    rintro e w3 ⟨rfl, H3⟩
    go_wp2_with fail
    refine H3.out.mono ?_
    rintro e w4 ⟨v, rfl, H4⟩
    obtain ⟨vo, vc, hv, _, _⟩ := H4.out.1.form
    subst hv
    go_wp2
    go_ret2
    refine ⟨_, _, rfl, ?_⟩
    rw [HBR.out, HAT.out]
    exact ⟨H4.out.1, .inl ⟨rfl, rfl, rfl⟩, H4.out.2⟩
  · have HBR : Hid (bRes stamp rs = []) := if_neg hz
    have hz' : ((bFault stamp rs).2 == 0) = false := by simp [hz]
    have hz2 : ((bFault stamp rs).2 != 0) = true := by simp [hz]
    have HZ := hide hz
    generalize hF : (bFault stamp rs).2 = y at *
    generalize hG : (bFault stamp rs).1 = a at *
    clear hF hG hz
    go_enter Try.func31, Try.ntmps31
    go_wp2_with fail
    refine HFA.out.mono ?_
    rintro e w1 ⟨rfl, c0, c1, H1⟩
    go_wp2_with fail
    refine (refusal_any _ _ _).mono ?_
    rintro e w2 ⟨v, rfl, rfl, hv, hb2⟩
    have HV := hide hv
    have HB2 := hide hb2
    clear hv hb2
    go_wp2
    go_ret2
    refine ⟨_, _, rfl, ?_⟩
    rw [HBR.out]
    exact ⟨Owns.nil _ _, .inr ⟨HV.out, HZ.out⟩, H1.out.1.trans (HB2.out.mono (by have := H1.out.2; omega))⟩
end Go.Proofs.Ythbpacilceemlaa
namespace Go.Proofs.Ythbpacilceemlaa
open Go.RowKit Crc

theorem alloc_at (w : World) (o : Obj) : (w.alloc o).heap[w.heap.size]? = some o := by simp [World.alloc, -World.alloc_eq]
theorem fin_two {w w3 : World} {v : Value} {B : List Nat} (h : Owns (w.heap.size + 1 + 1) w3 v B) (hb : Below w.heap.size w w3) (x y : Value) :
    Owns w.heap.size ((w3.setCell ⟨w.heap.size + 1, 0, none⟩ x).setCell ⟨w.heap.size + 1, 1, none⟩ y) v B ∧ Below w.heap.size w ((w3.setCell ⟨w.heap.size + 1, 0, none⟩ x).setCell ⟨w.heap.size + 1, 1, none⟩ y) := by
  have hne : v.ownBlock ≠ some (w.heap.size + 1) := fun e => by have := (h.1.lt _ e).1; omega
  exact ⟨((h.kept (grown_set _ _ _ _) (.inr hne)).kept (grown_set _ _ _ _) (.inr hne)).low (by omega), (hb.setCell (p := ⟨w.heap.size + 1, 0, none⟩) (by simp) _).setCell (p := ⟨w.heap.size + 1, 1, none⟩) (by simp) _⟩

set_option maxRecDepth 10000 in
set_option maxHeartbeats 1600000 in
theorem encBatch_ref {w : World} (stamp : Nat) (hst : stamp < 18446744073709551616) {ro : Option Addr} {rs : List Rq} {b off : Nat} (rc : Nat) (h : Rqs w.heap.size w ro rs b off) :
    Calls Try.prog 29 #[.agg #[.int .u64 (stamp : Int), .slice ro rs.length rc]] w fun e w' => ∃ v, e = .returned (.tuple #[v, .agg #[.int .i64 (bFault stamp rs).2, .int .i64 ((bFault stamp rs).1 : Int)]]) ∧ Hid (Owns w.heap.size w' v (bRes stamp rs) ∧ Below w.heap.size w w') := by
  have hb0 : Below w.heap.size w ((w.alloc (.cells #[.int .u64 (stamp : Int), .slice ro rs.length rc] 71)).alloc (.cells #[.int .i64 0, .int .i64 0] 34)) := (below_alloc1 w _).alloc (by simp) _
  have HFA : Hid (Calls Try.prog 76 #[.agg #[.int .u64 (stamp : Int), .slice ro rs.length rc]] ((w.alloc (.cells #[.int .u64 (stamp : Int), .slice ro rs.length rc] 71)).alloc (.cells #[.int .i64 0, .int .i64 0] 34)) fun e w' => e = .returned (.agg #[.int .i64 (bFault stamp rs).2, .int .i64 ((bFault stamp rs).1 : Int)]) ∧ (w'.cell? ⟨w.heap.size, 0, none⟩ = some (.int .u64 (stamp : Int)) ∧ w'.cell? ⟨w.heap.size, 1, none⟩ = some (.slice ro rs.length rc)) ∧ (w'.cell? ⟨w.heap.size + 1, 0, none⟩ = some (.int .i64 0) ∧ w'.cell? ⟨w.heap.size + 1, 1, none⟩ = some (.int .i64 0)) ∧ (w'.frozen? ⟨w.heap.size + 1, 0, none⟩ = false ∧ w'.frozen? ⟨w.heap.size + 1, 1, none⟩ = false) ∧ Hid (Below w.heap.size w w') ∧ w.heap.size + 1 < w'.heap.size) := by
    refine (batchNo_any stamp rc ((h.below hb0).wide hb0.size)).mono ?_
    rintro e w' ⟨rfl, hb⟩
    have e1 : (w.alloc (.cells #[.int .u64 (stamp : Int), .slice ro rs.length rc] 71)).heap.size = w.heap.size + 1 := by simp
    have e2 : ((w.alloc (.cells #[.int .u64 (stamp : Int), .slice ro rs.length rc] 71)).alloc (.cells #[.int .i64 0, .int .i64 0] 34)).heap.size = w.heap.size + 1 + 1 := by simp
    have hc : ∀ k v, (#[Value.int .u64 (stamp : Int), .slice ro rs.length rc])[k]? = some v → w'.cell? ⟨w.heap.size, k, none⟩ = some v := fun k v hv => (hb.cell (p := ⟨w.heap.size, k, none⟩) (by rw [e2]; simp; omega)).trans ((World.cell?_alloc_lt _ _ _ (by rw [e1]; simp)).trans ((World.cell?_alloc_new w _ _ _).trans hv))
    have hd : ∀ k v, (#[Value.int .i64 0, .int .i64 0])[k]? = some v → w'.cell? ⟨w.heap.size + 1, k, none⟩ = some v := fun k v hv => (hb.cell (p := ⟨w.heap.size + 1, k, none⟩) (by rw [e2]; simp)).trans (by rw [← e1]; exact (World.cell?_alloc_new _ _ _ _).trans hv)
    have hf : ∀ k, w'.frozen? ⟨w.heap.size + 1, k, none⟩ = false := fun k => (World.frozen?_of_block (hb.block (w.heap.size + 1) (by rw [e2]; omega))).trans (by rw [← e1]; exact World.frozen?_alloc_new _ _ _ _)
    exact ⟨rfl, ⟨hc 0 _ rfl, hc 1 _ rfl⟩, ⟨hd 0 _ rfl, hd 1 _ rfl⟩, ⟨hf 0, hf 1⟩, hb0.trans (hb.mono hb0.size), by have := hb.size; rw [e2] at this; omega⟩
  have HR := hide h
  clear h hb0
  by_cases hz : (bFault stamp rs).2 = 0
  · have HBR : Hid (bRes stamp rs = encL stamp rs) := if_pos hz
    have HAT := hide (bFault_at hz)
    have HLY : Hid (∀ w1 o, Below w.heap.size w w1 → w.heap.size + 1 < w1.heap.size → (w1.cell? ⟨w.heap.size, 0, none⟩ = some (.int .u64 (stamp : Int)) ∧ w1.cell? ⟨w.heap.size, 1, none⟩ = some (.slice ro rs.length rc)) → (w1.cell? ⟨w.heap.size + 1, 0, none⟩ = some (.int .i64 0) ∧ w1.cell? ⟨w.heap.size + 1, 1, none⟩ = some (.int .i64 0)) → (w1.frozen? ⟨w.heap.size + 1, 0, none⟩ = false ∧ w1.frozen? ⟨w.heap.size + 1, 1, none⟩ = false) →
        Calls Try.prog 35 #[.int .i64 65507] (w1.alloc o) fun e w2 => ∃ p, e = .returned (.pointer (some ⟨p, 0, none⟩)) ∧ w2.cell? ⟨w.heap.size, 0, none⟩ = some (.int .u64 (stamp : Int)) ∧ w2.cell? ⟨w.heap.size, 1, none⟩ = some (.slice ro rs.length rc) ∧ Hid (Calls Try.prog 77 #[.pointer (some ⟨p, 0, none⟩), .agg #[.int .u64 (stamp : Int), .slice ro rs.length rc]] w2 fun e w3 => e = .returned (.tuple #[]) ∧ ∃ vo vn vc, w3.cell? ⟨p, 2, none⟩ = some (.slice vo vn vc) ∧ (w3.cell? ⟨w.heap.size + 1, 0, none⟩ = some (.int .i64 0) ∧ w3.cell? ⟨w.heap.size + 1, 1, none⟩ = some (.int .i64 0)) ∧ (w3.frozen? ⟨w.heap.size + 1, 0, none⟩ = false ∧ w3.frozen? ⟨w.heap.size + 1, 1, none⟩ = false) ∧ Hid (Owns (w.heap.size + 1 + 1) w3 (.slice vo vn vc) (encL stamp rs) ∧ Below w.heap.size w w3))) := by
      intro w1 o hb1 hs1 hc hd hf
      obtain ⟨k1, k2, k3⟩ := bFault_ok hz
      have hbA := below_alloc1 w1 o
      have hsA : (w1.alloc o).heap.size = w1.heap.size + 1 := by simp
      refine (refNewWriter_any 65507 (w1.alloc o)).mono ?_
      rintro e w2 ⟨rfl, hw2⟩
      have hbN : Below (w1.alloc o).heap.size (w1.alloc o) w2 := by rw [hw2]; exact below_alloc1 _ _
      have hb12 : Below w1.heap.size w1 w2 := hbA.trans (hbN.mono (by omega))
      have hb2w : Below w.heap.size w w2 := hb1.trans (hb12.mono (by omega))
      have hat : w2.heap[(w1.alloc o).heap.size]? = some (vNew 65507) := by rw [hw2]; exact alloc_at _ _
      have hW : RefW (w1.alloc o).heap.size w2 (w1.alloc o).heap.size WS1 := ⟨.slice none 0 0, hat, Owns.nil _ _, by simp [Value.ownBlock]⟩
      refine ⟨(w1.alloc o).heap.size, rfl, (hb12.cell (p := ⟨w.heap.size, 0, none⟩) (by simp; omega)).trans hc.1, (hb12.cell (p := ⟨w.heap.size, 1, none⟩) (by simp; omega)).trans hc.2, ?_⟩
      refine (layBatch_ref (base := (w1.alloc o).heap.size) hW (fun _ => ⟨by simp [WS1], by simp [WS1]⟩) hbN.size (Nat.le_refl _) stamp hst rc ((HR.out.below hb2w).wide (by omega)) k2 (fun r hr => (k3 r hr).2)).mono ?_
      rintro e w3 ⟨rfl, H3⟩
      obtain ⟨hw3, ht3⟩ := H3.out
      refine ⟨rfl, ?_⟩
      rw [layB_ok k2 hst (fun r hr => ⟨(k3 r hr).2, (HR.out.ok r hr).hC.1, (HR.out.ok r hr).hc, (HR.out.ok r hr).hs⟩)] at hw3
      have hb3 : Below (w1.alloc o).heap.size w2 w3 := (mach_ref _ _ (Nat.le_refl _)).belowOf hW hbN.size ht3
      have hb13 : Below w1.heap.size w1 w3 := hb12.trans (hb3.mono (by omega))
      obtain ⟨v, hbk, hO, _⟩ := hw3
      obtain ⟨vo, vc, hv, _, _⟩ := hO.form
      subst hv
      have c2 : w3.cell? ⟨(w1.alloc o).heap.size, 2, none⟩ = some (.slice vo (encL stamp rs).length vc) := block_cell hbk 2
      refine ⟨vo, _, vc, c2, ⟨(hb13.cell (p := ⟨w.heap.size + 1, 0, none⟩) hs1).trans hd.1, (hb13.cell (p := ⟨w.heap.size + 1, 1, none⟩) hs1).trans hd.2⟩, ⟨(World.frozen?_of_block (hb13.block (w.heap.size + 1) hs1)).trans hf.1, (World.frozen?_of_block (hb13.block (w.heap.size + 1) hs1)).trans hf.2⟩, hO.low (by omega), hb1.trans (hb13.mono (by omega))⟩
    have HZ := hide hz
    rw [hz, HAT.out] at HFA ⊢
    go_enter Try.func29, Try.ntmps29
    go_wp2_with fail
    refine HFA.out.mono ?_
    rintro e w1 ⟨rfl, ⟨c0, c1⟩, ⟨d0, d1⟩, ⟨f0, f1⟩, HB1, hs1⟩
    have hs0 : w.heap.size < w1.heap.size := by omega
    go_wp2_with fail
    refine (HLY.out w1 _ HB1.out hs1 ⟨c0, c1⟩ ⟨d0, d1⟩ ⟨f0, f1⟩).mono ?_
    rintro e w2 ⟨p, rfl, x0, x1, H2⟩
    go_wp2_with fail
    refine H2.out.mono ?_
    rintro e w3 ⟨rfl, vo, vn, vc, y2, ⟨z0, z1⟩, ⟨g0, g1⟩, H3⟩
    go_wp2
    refine bodyPost_ret (v := .tuple #[.slice vo vn vc, .agg #[.int .i64 0, .int .i64 0]]) (by simp [results, Try.results29, go_sem, z0, z1]) rfl ⟨_, rfl, ?_⟩
    rw [HBR.out]
    exact fin_two H3.out.1 H3.out.2 _ _
  · have HBR : Hid (bRes stamp rs = []) := if_neg hz
    have hz' : ((bFault stamp rs).2 == 0) = false := by simp [hz]
    have hz2 : ((bFault stamp rs).2 != 0) = true := by simp [hz]
    generalize hF : (bFault stamp rs).2 = y at *
    generalize hG : (bFault stamp rs).1 = a at *
    clear hF hG hz
    go_enter Try.func29, Try.ntmps29
    go_wp2_with fail
    refine HFA.out.mono ?_
    rintro e w1 ⟨rfl, ⟨c0, c1⟩, ⟨d0, d1⟩, ⟨f0, f1⟩, HB1, hs1⟩
    have hs0 : w.heap.size < w1.heap.size := by omega
    go_wp2_with fail
    obtain ⟨W, hW, q0, q1, hk, HWB⟩ : ∃ W, w1.alloc (.cells #[.int .i64 y, .int .i64 (a : Int)] 34) = W ∧ W.cell? ⟨w1.heap.size, 0, none⟩ = some (.int .i64 y) ∧ W.cell? ⟨w1.heap.size, 1, none⟩ = some (.int .i64 (a : Int)) ∧ ((W.cell? ⟨w.heap.size + 1, 0, none⟩ = some (.int .i64 0) ∧ W.cell? ⟨w.heap.size + 1, 1, none⟩ = some (.int .i64 0)) ∧ (W.frozen? ⟨w.heap.size + 1, 0, none⟩ = false ∧ W.frozen? ⟨w.heap.size + 1, 1, none⟩ = false)) ∧ Hid (Below w.heap.size w W) :=
      ⟨_, rfl, World.cell?_alloc_new _ _ _ _, World.cell?_alloc_new _ _ _ _, ⟨⟨(World.cell?_alloc_lt _ _ _ hs1).trans d0, (World.cell?_alloc_lt _ _ _ hs1).trans d1⟩, ⟨(World.frozen?_alloc_old _ _ _ (by simp; omega)).trans f0, (World.frozen?_alloc_old _ _ _ (by simp; omega)).trans f1⟩⟩, HB1.out.trans ((below_alloc1 w1 _).mono (by omega))⟩
    rw [hW]
    obtain ⟨⟨k0, k1⟩, ⟨j0, j1⟩⟩ := hk
    have hne : ¬ w.heap.size + 1 = w1.heap.size := by omega
    have hne' : ¬ w1.heap.size = w.heap.size + 1 := by omega
    clear hW c0 c1 d0 d1 f0 f1 HB1 hs1 hs0
    generalize w1.heap.size = q at *
    go_region_held (fun w' => w'.cell? ⟨q, 0, none⟩ = some (.int .i64 y) ∧ w'.cell? ⟨q, 1, none⟩ = some (.int .i64 (a : Int))) (go_keep) (fail)
    go_wp2
    refine bodyPost_ret (v := .tuple #[.slice none 0 0, .agg #[.int .i64 y, .int .i64 (a : Int)]]) (by simp [results, Try.results29, go_sem, k0, k1]) rfl ⟨_, rfl, ?_⟩
    rw [HBR.out]
    have h := (fin_two (Owns.nil _ _) HWB.out (.int .i64 y) (.int .i64 (a : Int))).2
    exact ⟨Owns.nil _ _, h.os, h.tape, h.output, h.size, h.block⟩
end Go.Proofs.Ythbpacilceemlaa
