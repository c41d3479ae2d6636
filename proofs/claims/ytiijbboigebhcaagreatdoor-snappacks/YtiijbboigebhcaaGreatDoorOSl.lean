import Derived.Deep.DeepCutAuto
import Derived.Test.YtiijbboigebhcaaGreatDoorM31
import Derived.BigQuiet
namespace Go.Proofs.YtiijbboigebhcaaGreatDoor
open Go.RowKit Crc

/-- No more of anything than somewhat above the limits. -/
structure Mi.Sml (m : Mi) : Prop where
  a : m.an ≤ 80
  h : m.hn ≤ 80
  j : m.jn ≤ 80
  d : m.dn ≤ 40
  s : m.sn ≤ 24
  t : ∀ x ∈ m.D, x.t.size ≤ 2000
  u : ∀ x ∈ m.S, x.cn ≤ 2000
set_option maxRecDepth 10000 in
set_option maxHeartbeats 3200000 in
theorem small_any (m : Mi) {w : World} (h : m.Vw w) : Calls Tryz.prog 5 #[.agg #[.int .u64 (m.slot : Int), .int .u64 (m.now : Int), .int .u64 (m.tot : Int), .int .u64 (m.nx : Int), .slice m.ao m.an m.ac, .slice m.ho m.hn m.hc, .slice m.jo m.jn m.jc, .slice m.dO m.dn m.dc, .int .u64 (m.ends : Int), .slice m.so m.sn m.sc]] w fun e w' => ∃ b, e = .returned (.bool b) ∧ Hid ((b = true → m.Sml) ∧ Below w.heap.size w w') := by
  obtain ⟨W1, hW1⟩ : ∃ W1, w.alloc (.cells #[.int .u64 (m.slot : Int), .int .u64 (m.now : Int), .int .u64 (m.tot : Int), .int .u64 (m.nx : Int), .slice m.ao m.an m.ac, .slice m.ho m.hn m.hc, .slice m.jo m.jn m.jc, .slice m.dO m.dn m.dc, .int .u64 (m.ends : Int), .slice m.so m.sn m.sc] 33) = W1 := ⟨_, rfl⟩
  have b1 : Below w.heap.size w W1 := by rw [← hW1]; exact (Below.refl _ w).alloc (Nat.le_refl _) _
  have q1 : W1.heap[w.heap.size]? = some (.cells #[.int .u64 (m.slot : Int), .int .u64 (m.now : Int), .int .u64 (m.tot : Int), .int .u64 (m.nx : Int), .slice m.ao m.an m.ac, .slice m.ho m.hn m.hc, .slice m.jo m.jn m.jc, .slice m.dO m.dn m.dc, .int .u64 (m.ends : Int), .slice m.so m.sn m.sc] 33 (0, 0)) := by rw [← hW1]; exact alloc_atN _ _
  have VD := hide (h.below b1).d
  have VS := hide (h.below b1).s.row
  have HLD := hide h.d.len
  have HLS := hide h.s.row.len
  have BB := hide b1
  have HW1 := hide hW1
  have y4 := block_cell q1 4
  have y5 := block_cell q1 5
  have y6 := block_cell q1 6
  have y7 := block_cell q1 7
  have y9 := block_cell q1 9
  simp at y4 y5 y6 y7 y9
  have hwW := block_lt q1
  have FALSE : Hid (∃ b, Ending.returned (.bool false) = .returned (.bool b) ∧ Hid ((b = true → m.Sml) ∧ Below w.heap.size w W1)) := ⟨false, rfl, fun e => (by cases e), BB.out⟩
  clear h b1 q1 hW1
  go_enter Tryz.func5, Tryz.ntmps5
  go_upto_region 1 with fail
  rw [HW1.out]
  by_cases han : 80 < m.an
  · have ean : decide ((80 : Int) < (m.an : Int)) = true := decide_eq_true (by omega)
    go_wp2
    go_ret
    exact FALSE.out
  have ean : decide ((80 : Int) < (m.an : Int)) = false := decide_eq_false (by omega)
  by_cases hhn : 80 < m.hn
  · have ehn : decide ((80 : Int) < (m.hn : Int)) = true := decide_eq_true (by omega)
    go_wp2
    go_ret
    exact FALSE.out
  have ehn : decide ((80 : Int) < (m.hn : Int)) = false := decide_eq_false (by omega)
  by_cases hjn : 80 < m.jn
  · have ejn : decide ((80 : Int) < (m.jn : Int)) = true := decide_eq_true (by omega)
    go_wp2
    go_ret
    exact FALSE.out
  have ejn : decide ((80 : Int) < (m.jn : Int)) = false := decide_eq_false (by omega)
  by_cases hdn : 40 < m.dn
  · have edn : decide ((40 : Int) < (m.dn : Int)) = true := decide_eq_true (by omega)
    go_wp2
    go_ret
    exact FALSE.out
  have edn : decide ((40 : Int) < (m.dn : Int)) = false := decide_eq_false (by omega)
  by_cases hsn : 24 < m.sn
  · have esn : decide ((24 : Int) < (m.sn : Int)) = true := decide_eq_true (by omega)
    go_wp2
    go_ret
    exact FALSE.out
  have esn : decide ((24 : Int) < (m.sn : Int)) = false := decide_eq_false (by omega)
  go_wp2
  clear ean ehn ejn edn esn
  go_loopw [3] (fun i wr => ∃ k : Nat, k ≤ m.dn ∧ i = .int .i64 k ∧ wr = W1 ∧ Hid (∀ i x, i < k → m.D[i]? = some x → x.t.size ≤ 2000)) (fun i _ => m.dn - (intOf i).toNat)
  case atStart => exact ⟨0, by omega, rfl, by first | rfl | trivial, fun i x hi => (by omega)⟩
  case round =>
    obtain ⟨k, hk, rfl, hwr, HS⟩ := hrel
    subst hwr
    by_cases hlk : k < m.dn
    · obtain ⟨x, hx⟩ : ∃ x, m.D[k]? = some x := ⟨_, List.getElem?_eq_getElem (by rw [HLD.out]; exact hlk)⟩
      obtain ⟨g, of, hao, hgl, hc⟩ := VD.out.at_ (fun _ => rfl) hx
      have c12 := hc 12 _ rfl
      rw [hao] at y7
      have NX : Hid (x.t.size ≤ 2000 → ∀ i y, i < k + 1 → m.D[i]? = some y → y.t.size ≤ 2000) := fun ht i y hi hy => by
        rcases Nat.lt_or_eq_of_le (Nat.lt_succ_iff.1 hi) with q | rfl
        · exact HS.out i y q hy
        · rw [hx] at hy
          cases hy
          exact ht
      clear hc hx hao
      by_cases ht : 2000 < x.t.size
      · have et : decide ((2000 : Int) < (x.t.size : Int)) = true := decide_eq_true (by omega)
        go_wp2
        go_ret
        exact FALSE.out
      · have et : decide ((2000 : Int) < (x.t.size : Int)) = false := decide_eq_false (by omega)
        have NX2 := hide (NX.out (by omega))
        go_wp2
        go_roundw
        case rel => exact ⟨k + 1, by omega, by go_num, by first | rfl | trivial, NX2.out⟩
        case measure => simp [intOf]; omega
    · obtain rfl : k = m.dn := by omega
      have HD := hide HS.out
      clear HS
      generalize wr = W1 at *
      go_wp2
      go_loopw [4] (fun i wr => ∃ k : Nat, k ≤ m.sn ∧ i = .int .i64 k ∧ wr = W1 ∧ Hid (∀ i x, i < k → m.S[i]? = some x → x.cn ≤ 2000)) (fun i _ => m.sn - (intOf i).toNat)
      case atStart => exact ⟨0, by omega, rfl, by first | rfl | trivial, fun i x hi => (by omega)⟩
      case round =>
        obtain ⟨k, hk, rfl, hwr, HS⟩ := hrel
        subst hwr
        by_cases hlk : k < m.sn
        · obtain ⟨x, hx⟩ : ∃ x, m.S[k]? = some x := ⟨_, List.getElem?_eq_getElem (by rw [HLS.out]; exact hlk)⟩
          obtain ⟨g, of, hao, hgl, hc⟩ := VS.out.at_ (fun _ => rfl) hx
          have c4 := hc 4 _ rfl
          rw [hao] at y9
          have NX : Hid (x.cn ≤ 2000 → ∀ i y, i < k + 1 → m.S[i]? = some y → y.cn ≤ 2000) := fun ht i y hi hy => by
            rcases Nat.lt_or_eq_of_le (Nat.lt_succ_iff.1 hi) with q | rfl
            · exact HS.out i y q hy
            · rw [hx] at hy
              cases hy
              exact ht
          clear hc hx hao
          by_cases ht : 2000 < x.cn
          · have et : decide ((2000 : Int) < (x.cn : Int)) = true := decide_eq_true (by omega)
            go_wp2
            go_ret
            exact FALSE.out
          · have et : decide ((2000 : Int) < (x.cn : Int)) = false := decide_eq_false (by omega)
            have NX2 := hide (NX.out (by omega))
            go_wp2
            go_roundw
            case rel => exact ⟨k + 1, by omega, by go_num, by first | rfl | trivial, NX2.out⟩
            case measure => simp [intOf]; omega
        · have FIN : Hid (m.Sml) := ⟨by omega, by omega, by omega, by omega, by omega, fun x hx => by
            obtain ⟨i, hi, e⟩ := List.getElem_of_mem hx
            exact HD.out i x (by have := HLD.out; omega) (by rw [List.getElem?_eq_getElem hi, e]), fun x hx => by
            obtain ⟨i, hi, e⟩ := List.getElem_of_mem hx
            exact HS.out i x (by have := HLS.out; omega) (by rw [List.getElem?_eq_getElem hi, e])⟩
          go_wp2
          go_ret
          exact ⟨true, rfl, fun _ => FIN.out, BB.out⟩
end Go.Proofs.YtiijbboigebhcaaGreatDoor
