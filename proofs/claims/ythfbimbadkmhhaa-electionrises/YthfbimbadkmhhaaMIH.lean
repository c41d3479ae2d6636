import Derived.Test.YthfbimbadkmhhaaMIF
import Derived.Test.YthfbimbadkmhhaaMGQ
namespace Go.Proofs.Ythfbimbadkmhhaa
open Go.RowKit Crc

/-- What a lent list says at a place. -/
theorem Lb.at {lo hi R n : Nat} {w : World} {rs : List Rq} (h : Lb lo hi w R n rs) {k : Nat} (hk : k < n) : ∃ (r : Rq) (g : Nat), rs[k]? = some r ∧ r.cn = r.C.length ∧ r.cn ≤ 140737488355328 ∧ w.cell? ⟨R, k * 3, none⟩ = some (.int .u64 (r.cl : Int)) ∧ w.cell? ⟨R, k * 3 + 1, none⟩ = some (.int .u64 (r.sq : Int)) ∧ w.cell? ⟨R, k * 3 + 2, none⟩ = some (.slice (some ⟨g, 0, none⟩) r.cn (r.cn + 2)) ∧ R < w.heap.size ∧ w.cell? ⟨g, r.cn, none⟩ = some (.int .u8 160) ∧ w.cell? ⟨g, r.cn + 1, none⟩ = some (.int .u8 161) ∧ g < w.heap.size := by
  have hl := h.len
  have hr : rs[k]? = some (rs[k]'(by omega)) := List.getElem?_eq_getElem (by omega)
  have q := h.lq _ (List.mem_of_getElem? hr)
  generalize rs[k]'(by omega) = r at *
  obtain ⟨g, e, hg, ho⟩ := q.bk
  obtain ⟨c0, c1, c2, c3, _⟩ := row_read h.row (by simp [hl]) (i := k) (r := r) (by rw [List.getElem?_append_left (by omega)]; exact hr)
  rw [e, q.hcc] at c2
  rcases ho.2 with ⟨e, _⟩ | ⟨g', cap, cur, e, hb, hgg, h4, h5, h6, h7⟩
  · cases e
  · simp only [Value.slice.injEq, Option.some.injEq, Addr.mk.injEq] at e
    obtain ⟨⟨rfl, _⟩, _, rfl⟩ := e
    have hat : ∀ j v, j < r.cn + 2 → (vals (r.C ++ [160, 161]))[j]? = some v → w.cell? ⟨g, j, none⟩ = some v := fun j v hj hv => by
      rw [block_cell hgg, ← Array.getElem?_toList]
      rw [← h7, List.getElem?_take, if_pos (by omega)] at hv
      exact hv
    have hn := q.hn
    refine ⟨r, g, hr, q.hn, q.hle, c0, c1, c2, c3, hat _ _ (by omega) ?_, hat _ _ (by omega) ?_, block_lt hgg⟩
    · rw [hn]; simp [vals]
    · rw [hn]; simp [vals]
theorem val_at {rs rs2 : List Rq} (h : rs.map Rq.val = rs2.map Rq.val) {k : Nat} {r r2 : Rq} (h1 : rs[k]? = some r) (h2 : rs2[k]? = some r2) : r.C = r2.C := by
  have e := congrArg (fun l => l[k]?) h
  simp only [List.getElem?_map, h1, h2, Option.map_some, Option.some.injEq] at e
  have := congrArg (fun v => v.2.2) e
  exact this
set_option maxRecDepth 10000 in
set_option maxHeartbeats 1600000 in
theorem keptE {w : World} (st : Nat) {lo hi R n : Nat} {rs : List Rq} (h : Lb lo hi w R n rs) {ro2 : Option Addr} {rs2 : List Rq} {b2 off2 : Nat} (rc2 : Nat) (e2 : rs2.length = n) (h2 : Rqs w.heap.size w ro2 rs2 b2 off2) (hv : rs.map Rq.val = rs2.map Rq.val) :
    Calls Try.prog 17 #[.agg #[.int .u64 (st : Nat), .slice (some ⟨R, 0, none⟩) n (n + 1)], .agg #[.int .u64 (st : Nat), .slice ro2 n rc2]] w fun e w' => e = .returned (.bool true) ∧ Hid (Below w.heap.size w w') := by
  have hle := h.le
  obtain ⟨W2, hW2⟩ : ∃ W2, (w.alloc (.cells #[.int .u64 (st : Nat), .slice (some ⟨R, 0, none⟩) n (n + 1)] 40)).alloc (.cells #[.int .u64 (st : Nat), .slice ro2 n rc2] 40) = W2 := ⟨_, rfl⟩
  have B2 : Hid (Below w.heap.size w W2) := by rw [← hW2]; exact (below_alloc1 w _).alloc (by simp) _
  have HA : Hid (W2.heap[w.heap.size]? = some (.cells #[.int .u64 (st : Nat), .slice (some ⟨R, 0, none⟩) n (n + 1)] 40 (0, 0)) ∧ W2.heap[w.heap.size + 1]? = some (.cells #[.int .u64 (st : Nat), .slice ro2 n rc2] 40 (0, 0))) := by rw [← hW2]; exact two_box w _ _
  have HS : Hid (Calls Try.prog 33 #[.agg #[.int .u64 (st : Nat), .slice (some ⟨R, 0, none⟩) n (n + 1)], .agg #[.int .u64 (st : Nat), .slice ro2 n rc2]] W2 fun e w' => e = .returned (.bool true) ∧ Hid (Below W2.heap.size W2 w')) := by
    have hL := h.fe (Fe.below B2.out (fun _ => False)) (fun _ _ _ e => e)
    refine (sameBatch_any st st n n (n + 1) rc2 h.len e2 hL.rqs ((h2.below B2.out).wide B2.out.size)).mono ?_
    rintro e w' ⟨rfl, G⟩
    refine ⟨?_, G⟩
    rw [decide_eq_true (rfl : st = st), decide_eq_true hv]
    rfl
  have KX : Hid (∀ V, Below W2.heap.size W2 V → (V.cell? ⟨w.heap.size, 1, none⟩ = some (.slice (some ⟨R, 0, none⟩) n (n + 1)) ∧ V.cell? ⟨w.heap.size + 1, 1, none⟩ = some (.slice ro2 n rc2) ∧ w.heap.size + 1 < V.heap.size ∧ w.heap.size < V.heap.size)) := fun V hb => by
    have b1 := (hb.block _ (block_lt HA.out.1)).trans HA.out.1
    have b2 := (hb.block _ (block_lt HA.out.2)).trans HA.out.2
    exact ⟨block_cell b1 1, block_cell b2 1, block_lt b2, block_lt b1⟩
  have KK : Hid (∀ V, Below W2.heap.size W2 V → ∀ k, k < n → ∃ (m g : Nat) (co2 : Option Addr) (cc2 : Nat), m ≤ 140737488355328 ∧ ro2 = some ⟨b2, off2, none⟩ ∧ V.cell? ⟨b2, off2 + k * 3 + 2, none⟩ = some (.slice co2 m cc2) ∧ b2 < V.heap.size ∧ V.cell? ⟨R, k * 3 + 2, none⟩ = some (.slice (some ⟨g, 0, none⟩) m (m + 2)) ∧ R < V.heap.size ∧ V.cell? ⟨g, m, none⟩ = some (.int .u8 160) ∧ V.cell? ⟨g, m + 1, none⟩ = some (.int .u8 161) ∧ g < V.heap.size) := fun V hb k hk => by
    have hbw := B2.out.trans (hb.mono B2.out.size)
    have hL := h.fe (Fe.below hbw (fun _ => False)) (fun _ _ _ e => e)
    obtain ⟨r, g, hr, hn, hle, _, _, c2, hR, d0, d1, hg⟩ := hL.at hk
    obtain ⟨r2, hr2, _, hok2, hbl2, hro, _, _, x2⟩ := (h2.below hbw).get (k := k) (by omega)
    have e : r2.cn = r.cn := by
      have := hok2.hC.1
      rw [this, hn, val_at hv hr hr2]
    rw [e] at x2
    exact ⟨r.cn, g, r2.co, r2.cc, hle, hro, x2, by have := hbw.size; omega, c2, hR, d0, d1, hg⟩
  have KE : Hid (∀ V, Below W2.heap.size W2 V → V.cell? ⟨R, n * 3, none⟩ = some (.int .u64 77) ∧ V.cell? ⟨R, n * 3 + 1, none⟩ = some (.int .u64 78) ∧ V.cell? ⟨R, n * 3 + 2, none⟩ = some (.slice none 0 0) ∧ R < V.heap.size) := fun V hb => by
    have hbw := B2.out.trans (hb.mono B2.out.size)
    have hL := h.fe (Fe.below hbw (fun _ => False)) (fun _ _ _ e => e)
    obtain ⟨c0, c1, c2, c3, _⟩ := row_read hL.row (by simp [h.len]) (i := n) (r := mark77) (by rw [List.getElem?_append_right (by rw [h.len]; exact Nat.le_refl _)]; simp [h.len])
    exact ⟨c0, c1, c2, c3⟩
  have FIN : Hid (∀ V, Below W2.heap.size W2 V → ∀ o, Below w.heap.size w (V.alloc o)) := fun V hb o => by
    have hbw := B2.out.trans (hb.mono B2.out.size)
    exact hbw.alloc hbw.size o
  have z0 := block_cell HA.out.1 0
  have z1 := block_cell HA.out.1 1
  have y0 := block_cell HA.out.2 0
  have y1 := block_cell HA.out.2 1
  have zl := block_lt HA.out.1
  have yl := block_lt HA.out.2
  simp at z0 z1 y0 y1
  have HW2 := hide hW2
  clear h h2 hv e2 hW2 B2 HA
  go_enter Try.func17, Try.ntmps17
  go_upto_region 1 with fail
  rw [HW2.out]
  clear HW2
  go_wp2_with fail
  refine HS.out.mono ?_
  rintro e w1 ⟨rfl, HB1⟩
  clear z0 z1 y0 y1 zl yl HS
  go_wp2
  go_loopw [5, 6, 7] (fun i _ _ wr => ∃ k : Nat, k ≤ n ∧ i = .int .i64 k ∧ Hid (Below W2.heap.size W2 wr)) (fun i _ _ _ => n - (intOf i).toNat)
  case atStart => exact ⟨0, by omega, rfl, HB1.out⟩
  case round =>
    obtain ⟨k, hk, rfl, HB⟩ := hrel
    clear HB1
    obtain ⟨p1, p2, pl2, pl1⟩ := KX.out wr HB.out
    by_cases hlt : k < n
    · obtain ⟨m, g, co2, cc2, hm, rfl, x2, xl, c2, cl, d0, d1, dl⟩ := KK.out wr HB.out k hlt
      go_wp2
      go_roundw
      case rel => exact ⟨k + 1, by omega, by go_num, HB.out⟩
      case measure => simp [intOf]; omega
    · obtain rfl : k = n := by omega
      obtain ⟨c0, c1, c2, cl⟩ := KE.out wr HB.out
      go_wp2
      go_ret
      exact ⟨rfl, FIN.out _ HB.out _⟩
end Go.Proofs.Ythfbimbadkmhhaa
