import Derived.Test.YtiijbboigebhcaaGreatDoorOLb
namespace Go.Proofs.YtiijbboigebhcaaGreatDoor
open Go.RowKit Crc

/-- A row of elements that lies below a block, wherever. -/
structure Rs {α : Type} (lim : Nat) (w : World) (z : Nat) (f : α → List Value) (ao : Option Addr) (n : Nat) (L : List α) : Prop where
  len : L.length = n
  le : n ≤ 1000
  at_ : ∃ b off, (0 < n → ao = some ⟨b, off, none⟩ ∧ b < lim) ∧ ∀ i x, L[i]? = some x → ∀ j u, (f x)[j]? = some u → w.cell? ⟨b, off + i * z + j, none⟩ = some u
theorem Rs.deep {α : Type} {lim : Nat} {w w' : World} {z : Nat} {f : α → List Value} {ao : Option Addr} {n : Nat} {L : List α} (h : Rs lim w z f ao n L) (hb : Below lim w w') : Rs lim w' z f ao n L := by
  obtain ⟨b, off, h1, h2⟩ := h.at_
  refine ⟨h.len, h.le, b, off, h1, fun i x hx j u hu => ?_⟩
  have hi := (List.getElem?_eq_some_iff.1 hx).1
  exact (hb.cell (p := ⟨b, off + i * z + j, none⟩) (h1 (by have := h.len; omega)).2).trans (h2 i x hx j u hu)
theorem Rw.rs {α : Type} {base : Nat} {w : World} {e : TypeId} {z : Nat} {f : α → List Value} {ao : Option Addr} {n cap : Nat} {L : List α} (h : Rw base w e z f (.slice ao n cap) L) (hz : ∀ x, (f x).length = z) (hn : n ≤ 1000) : Rs w.heap.size w z f ao n L := by
  have hl : L.length = n := h.num'
  by_cases h0 : 0 < n
  · obtain ⟨x, hx⟩ : ∃ x, L[0]? = some x := ⟨_, List.getElem?_eq_getElem (by omega)⟩
    obtain ⟨g, e1, e2, -, -, -⟩ := h.at_ hz hx
    refine ⟨hl, hn, g, 0, fun _ => ⟨e1, e2⟩, fun i y hy j u hu => ?_⟩
    obtain ⟨g', e1', -, -, -, e3'⟩ := h.at_ hz hy
    rw [e1] at e1'
    cases e1'
    rw [Nat.zero_add]
    exact e3' j u hu
  · refine ⟨hl, hn, 0, 0, fun h => absurd h h0, fun i y hy => ?_⟩
    have := (List.getElem?_eq_some_iff.1 hy).1
    omega
set_option maxRecDepth 10000 in
set_option maxHeartbeats 1600000 in
theorem layList_Ac {base p : Nat} {w W : World} {s : WS} (h : Wa base p w s W) {ao : Option Addr} {n cap : Nat} {L : List Ac} (hr : Rs p W 4 Ac.cells ao n L) (hx : ∀ x ∈ L, x.ok) : Calls Tryz.prog 99 #[.pointer (some ⟨p, 0, none⟩), .slice ao n cap, .int .i64 64, .func (.func 100) #[] #[]] W fun e W' => e = .returned (.tuple #[]) ∧ Hid (Wa base p w (lLs lAc 64 s L) W') := by
  have HC := hide (count_w (Wa.start h.k) n 64 hr.le)
  have HR := hide hr
  have hn := hr.le
  have HL := hide hr.len
  have HX := hide hx
  have HK := hide h.k
  obtain ⟨b, off, h1, -⟩ := hr.at_
  have HA : Hid (∀ k, k < n → ao = some ⟨b, off, none⟩ ∧ b < p) := fun k hk => h1 (by omega)
  have HFI : Hid (∀ V, Wa base p W ((L.take n).foldl lAc (lC s n 64)) V → Wa base p w (lLs lAc 64 s L) V) := fun V hv => by
    rw [List.take_of_length_le (by have := hr.len; omega)] at hv
    unfold lLs
    rw [hr.len]
    exact h.trans hv
  have HCE : Hid (∀ s' V, Wa base p W s' V → ∀ i x, L[i]? = some x → ∀ j u, (Ac.cells x)[j]? = some u → V.cell? ⟨b, off + i * 4 + j, none⟩ = some u) := fun s' V hv i x hx j u hu => by
    obtain ⟨b', off', g1, g2⟩ := (hr.deep (Wa.below h.k hv)).at_
    have hi := (List.getElem?_eq_some_iff.1 hx).1
    have e1 := (h1 (by have := hr.len; omega)).1
    have e2 := (g1 (by have := hr.len; omega)).1
    rw [e1] at e2
    cases e2
    exact g2 i x hx j u hu
  clear h hr hx h1
  go_enter Tryz.func99, Tryz.ntmps99
  go_wp2_with fail
  refine HC.out.mono ?_
  rintro e w1 ⟨rfl, H1⟩
  go_wp2
  go_loopw [17] (fun i wr => ∃ k : Nat, k ≤ n ∧ i = .int .i64 k ∧ Hid (Wa base p W ((L.take k).foldl lAc (lC s n 64)) wr)) (fun i _ => n - (intOf i).toNat)
  case atStart => exact ⟨0, by omega, rfl, H1.out⟩
  case round =>
    obtain ⟨k, hk, rfl, HS⟩ := hrel
    by_cases hlt : k < n
    · obtain ⟨x, hx⟩ : ∃ x, L[k]? = some x := ⟨_, List.getElem?_eq_getElem (by rw [HL.out]; exact hlt)⟩
      obtain ⟨rfl, hbp⟩ := HA.out k hlt
      have hmem := List.mem_of_getElem? hx
      have hc := HCE.out _ _ HS.out k x hx
      have c0 := hc 0 _ rfl
      have c1 := hc 1 _ rfl
      have c2 := hc 2 _ rfl
      have c3 := hc 3 _ rfl
      simp only [Nat.add_zero] at c0
      have hbw : b < wr.heap.size := Nat.lt_trans hbp HS.out.k.lt
      have HN : Hid (∀ o, Calls Tryz.prog 100 #[.pointer (some ⟨p, 0, none⟩), .agg #[.int .u64 (x.a : Int), .int .u64 (x.b : Int), .int .u64 (x.c : Int), .int .u64 (x.d : Int)]] (wr.alloc o) fun e W' => e = .returned (.tuple #[]) ∧ Hid (Wa base p W (lAc ((L.take k).foldl lAc (lC s n 64)) x) W')) := fun o => layAccount_any (HS.out.alloc o) x (HX.out x hmem)
      have HY : Hid (∀ V, Wa base p W (lAc ((L.take k).foldl lAc (lC s n 64)) x) V → Wa base p W ((L.take (k + 1)).foldl lAc (lC s n 64)) V) := fun V h => by
        rw [List.take_add_one, hx]
        simpa using h
      clear hc hx hmem hbp
      go_wp2_with fail
      refine (HN.out _).mono ?_
      rintro e w2 ⟨rfl, G⟩
      go_wp2
      go_roundw
      case rel => exact ⟨k + 1, by omega, by go_num, HY.out _ G.out⟩
      case measure => simp [intOf]; omega
    · obtain rfl : k = n := by omega
      go_wp2
      go_end0
      exact ⟨rfl, HFI.out _ HS.out⟩
set_option maxRecDepth 10000 in
set_option maxHeartbeats 1600000 in
theorem layList_Ho {base p : Nat} {w W : World} {s : WS} (h : Wa base p w s W) {ao : Option Addr} {n cap : Nat} {L : List Ho} (hr : Rs p W 3 Ho.cells ao n L) (hx : ∀ x ∈ L, x.ok) : Calls Tryz.prog 101 #[.pointer (some ⟨p, 0, none⟩), .slice ao n cap, .int .i64 64, .func (.func 102) #[] #[]] W fun e W' => e = .returned (.tuple #[]) ∧ Hid (Wa base p w (lLs lHo 64 s L) W') := by
  have HC := hide (count_w (Wa.start h.k) n 64 hr.le)
  have HR := hide hr
  have hn := hr.le
  have HL := hide hr.len
  have HX := hide hx
  have HK := hide h.k
  obtain ⟨b, off, h1, -⟩ := hr.at_
  have HA : Hid (∀ k, k < n → ao = some ⟨b, off, none⟩ ∧ b < p) := fun k hk => h1 (by omega)
  have HFI : Hid (∀ V, Wa base p W ((L.take n).foldl lHo (lC s n 64)) V → Wa base p w (lLs lHo 64 s L) V) := fun V hv => by
    rw [List.take_of_length_le (by have := hr.len; omega)] at hv
    unfold lLs
    rw [hr.len]
    exact h.trans hv
  have HCE : Hid (∀ s' V, Wa base p W s' V → ∀ i x, L[i]? = some x → ∀ j u, (Ho.cells x)[j]? = some u → V.cell? ⟨b, off + i * 3 + j, none⟩ = some u) := fun s' V hv i x hx j u hu => by
    obtain ⟨b', off', g1, g2⟩ := (hr.deep (Wa.below h.k hv)).at_
    have hi := (List.getElem?_eq_some_iff.1 hx).1
    have e1 := (h1 (by have := hr.len; omega)).1
    have e2 := (g1 (by have := hr.len; omega)).1
    rw [e1] at e2
    cases e2
    exact g2 i x hx j u hu
  clear h hr hx h1
  go_enter Tryz.func101, Tryz.ntmps101
  go_wp2_with fail
  refine HC.out.mono ?_
  rintro e w1 ⟨rfl, H1⟩
  go_wp2
  go_loopw [17] (fun i wr => ∃ k : Nat, k ≤ n ∧ i = .int .i64 k ∧ Hid (Wa base p W ((L.take k).foldl lHo (lC s n 64)) wr)) (fun i _ => n - (intOf i).toNat)
  case atStart => exact ⟨0, by omega, rfl, H1.out⟩
  case round =>
    obtain ⟨k, hk, rfl, HS⟩ := hrel
    by_cases hlt : k < n
    · obtain ⟨x, hx⟩ : ∃ x, L[k]? = some x := ⟨_, List.getElem?_eq_getElem (by rw [HL.out]; exact hlt)⟩
      obtain ⟨rfl, hbp⟩ := HA.out k hlt
      have hmem := List.mem_of_getElem? hx
      have hc := HCE.out _ _ HS.out k x hx
      have c0 := hc 0 _ rfl
      have c1 := hc 1 _ rfl
      have c2 := hc 2 _ rfl
      simp only [Nat.add_zero] at c0
      have hbw : b < wr.heap.size := Nat.lt_trans hbp HS.out.k.lt
      have HN : Hid (∀ o, Calls Tryz.prog 102 #[.pointer (some ⟨p, 0, none⟩), .agg #[.int .u64 (x.a : Int), .int .u64 (x.b : Int), .int .u64 (x.c : Int)]] (wr.alloc o) fun e W' => e = .returned (.tuple #[]) ∧ Hid (Wa base p W (lHo ((L.take k).foldl lHo (lC s n 64)) x) W')) := fun o => layHold_any (HS.out.alloc o) x (HX.out x hmem)
      have HY : Hid (∀ V, Wa base p W (lHo ((L.take k).foldl lHo (lC s n 64)) x) V → Wa base p W ((L.take (k + 1)).foldl lHo (lC s n 64)) V) := fun V h => by
        rw [List.take_add_one, hx]
        simpa using h
      clear hc hx hmem hbp
      go_wp2_with fail
      refine (HN.out _).mono ?_
      rintro e w2 ⟨rfl, G⟩
      go_wp2
      go_roundw
      case rel => exact ⟨k + 1, by omega, by go_num, HY.out _ G.out⟩
      case measure => simp [intOf]; omega
    · obtain rfl : k = n := by omega
      go_wp2
      go_end0
      exact ⟨rfl, HFI.out _ HS.out⟩
set_option maxRecDepth 10000 in
set_option maxHeartbeats 1600000 in
theorem layList_En {base p : Nat} {w W : World} {s : WS} (h : Wa base p w s W) {ao : Option Addr} {n cap : Nat} {L : List En} (hr : Rs p W 5 En.cells ao n L) (hx : ∀ x ∈ L, x.ok) : Calls Tryz.prog 103 #[.pointer (some ⟨p, 0, none⟩), .slice ao n cap, .int .i64 64, .func (.func 104) #[] #[]] W fun e W' => e = .returned (.tuple #[]) ∧ Hid (Wa base p w (lLs lEn 64 s L) W') := by
  have HC := hide (count_w (Wa.start h.k) n 64 hr.le)
  have HR := hide hr
  have hn := hr.le
  have HL := hide hr.len
  have HX := hide hx
  have HK := hide h.k
  obtain ⟨b, off, h1, -⟩ := hr.at_
  have HA : Hid (∀ k, k < n → ao = some ⟨b, off, none⟩ ∧ b < p) := fun k hk => h1 (by omega)
  have HFI : Hid (∀ V, Wa base p W ((L.take n).foldl lEn (lC s n 64)) V → Wa base p w (lLs lEn 64 s L) V) := fun V hv => by
    rw [List.take_of_length_le (by have := hr.len; omega)] at hv
    unfold lLs
    rw [hr.len]
    exact h.trans hv
  have HCE : Hid (∀ s' V, Wa base p W s' V → ∀ i x, L[i]? = some x → ∀ j u, (En.cells x)[j]? = some u → V.cell? ⟨b, off + i * 5 + j, none⟩ = some u) := fun s' V hv i x hx j u hu => by
    obtain ⟨b', off', g1, g2⟩ := (hr.deep (Wa.below h.k hv)).at_
    have hi := (List.getElem?_eq_some_iff.1 hx).1
    have e1 := (h1 (by have := hr.len; omega)).1
    have e2 := (g1 (by have := hr.len; omega)).1
    rw [e1] at e2
    cases e2
    exact g2 i x hx j u hu
  clear h hr hx h1
  go_enter Tryz.func103, Tryz.ntmps103
  go_wp2_with fail
  refine HC.out.mono ?_
  rintro e w1 ⟨rfl, H1⟩
  go_wp2
  go_loopw [17] (fun i wr => ∃ k : Nat, k ≤ n ∧ i = .int .i64 k ∧ Hid (Wa base p W ((L.take k).foldl lEn (lC s n 64)) wr)) (fun i _ => n - (intOf i).toNat)
  case atStart => exact ⟨0, by omega, rfl, H1.out⟩
  case round =>
    obtain ⟨k, hk, rfl, HS⟩ := hrel
    by_cases hlt : k < n
    · obtain ⟨x, hx⟩ : ∃ x, L[k]? = some x := ⟨_, List.getElem?_eq_getElem (by rw [HL.out]; exact hlt)⟩
      obtain ⟨rfl, hbp⟩ := HA.out k hlt
      have hmem := List.mem_of_getElem? hx
      have hc := HCE.out _ _ HS.out k x hx
      have c0 := hc 0 _ rfl
      have c1 := hc 1 _ rfl
      have c2 := hc 2 _ rfl
      have c3 := hc 3 _ rfl
      have c4 := hc 4 _ rfl
      simp only [Nat.add_zero] at c0
      have hbw : b < wr.heap.size := Nat.lt_trans hbp HS.out.k.lt
      have HN : Hid (∀ o, Calls Tryz.prog 104 #[.pointer (some ⟨p, 0, none⟩), .agg #[.int .u64 (x.a : Int), .int .i64 x.k, .int .u64 (x.b : Int), .int .u64 (x.c : Int), .int .u64 (x.d : Int)]] (wr.alloc o) fun e W' => e = .returned (.tuple #[]) ∧ Hid (Wa base p W (lEn ((L.take k).foldl lEn (lC s n 64)) x) W')) := fun o => layEntry_any (HS.out.alloc o) x (HX.out x hmem)
      have HY : Hid (∀ V, Wa base p W (lEn ((L.take k).foldl lEn (lC s n 64)) x) V → Wa base p W ((L.take (k + 1)).foldl lEn (lC s n 64)) V) := fun V h => by
        rw [List.take_add_one, hx]
        simpa using h
      clear hc hx hmem hbp
      go_wp2_with fail
      refine (HN.out _).mono ?_
      rintro e w2 ⟨rfl, G⟩
      go_wp2
      go_roundw
      case rel => exact ⟨k + 1, by omega, by go_num, HY.out _ G.out⟩
      case measure => simp [intOf]; omega
    · obtain rfl : k = n := by omega
      go_wp2
      go_end0
      exact ⟨rfl, HFI.out _ HS.out⟩
set_option maxRecDepth 10000 in
set_option maxHeartbeats 1600000 in
theorem layList_De {base p : Nat} {w W : World} {s : WS} (h : Wa base p w s W) {ao : Option Addr} {n cap : Nat} {L : List De} (hr : Rs p W 13 De.cells ao n L) (hx : ∀ x ∈ L, x.ok) : Calls Tryz.prog 59 #[.pointer (some ⟨p, 0, none⟩), .slice ao n cap, .int .i64 32, .func (.func 60) #[] #[]] W fun e W' => e = .returned (.tuple #[]) ∧ Hid (Wa base p w (lLs lDe 32 s L) W') := by
  have HC := hide (count_w (Wa.start h.k) n 32 hr.le)
  have HR := hide hr
  have hn := hr.le
  have HL := hide hr.len
  have HX := hide hx
  have HK := hide h.k
  obtain ⟨b, off, h1, -⟩ := hr.at_
  have HA : Hid (∀ k, k < n → ao = some ⟨b, off, none⟩ ∧ b < p) := fun k hk => h1 (by omega)
  have HFI : Hid (∀ V, Wa base p W ((L.take n).foldl lDe (lC s n 32)) V → Wa base p w (lLs lDe 32 s L) V) := fun V hv => by
    rw [List.take_of_length_le (by have := hr.len; omega)] at hv
    unfold lLs
    rw [hr.len]
    exact h.trans hv
  have HCE : Hid (∀ s' V, Wa base p W s' V → ∀ i x, L[i]? = some x → ∀ j u, (De.cells x)[j]? = some u → V.cell? ⟨b, off + i * 13 + j, none⟩ = some u) := fun s' V hv i x hx j u hu => by
    obtain ⟨b', off', g1, g2⟩ := (hr.deep (Wa.below h.k hv)).at_
    have hi := (List.getElem?_eq_some_iff.1 hx).1
    have e1 := (h1 (by have := hr.len; omega)).1
    have e2 := (g1 (by have := hr.len; omega)).1
    rw [e1] at e2
    cases e2
    exact g2 i x hx j u hu
  clear h hr hx h1
  go_enter Tryz.func59, Tryz.ntmps59
  go_wp2_with fail
  refine HC.out.mono ?_
  rintro e w1 ⟨rfl, H1⟩
  go_wp2
  go_loopw [17] (fun i wr => ∃ k : Nat, k ≤ n ∧ i = .int .i64 k ∧ Hid (Wa base p W ((L.take k).foldl lDe (lC s n 32)) wr)) (fun i _ => n - (intOf i).toNat)
  case atStart => exact ⟨0, by omega, rfl, H1.out⟩
  case round =>
    obtain ⟨k, hk, rfl, HS⟩ := hrel
    by_cases hlt : k < n
    · obtain ⟨x, hx⟩ : ∃ x, L[k]? = some x := ⟨_, List.getElem?_eq_getElem (by rw [HL.out]; exact hlt)⟩
      obtain ⟨rfl, hbp⟩ := HA.out k hlt
      have hmem := List.mem_of_getElem? hx
      have hc := HCE.out _ _ HS.out k x hx
      have c0 := hc 0 _ rfl
      have c1 := hc 1 _ rfl
      have c2 := hc 2 _ rfl
      have c3 := hc 3 _ rfl
      have c4 := hc 4 _ rfl
      have c5 := hc 5 _ rfl
      have c6 := hc 6 _ rfl
      have c7 := hc 7 _ rfl
      have c8 := hc 8 _ rfl
      have c9 := hc 9 _ rfl
      have c10 := hc 10 _ rfl
      have c11 := hc 11 _ rfl
      have c12 := hc 12 _ rfl
      simp only [Nat.add_zero] at c0
      have hbw : b < wr.heap.size := Nat.lt_trans hbp HS.out.k.lt
      have HN : Hid (∀ o, Calls Tryz.prog 60 #[.pointer (some ⟨p, 0, none⟩), .agg #[.int .u64 (x.a : Int), .int .u64 (x.b : Int), .int .u64 (x.c : Int), .int .u64 (x.d : Int), .int .u64 (x.e : Int), .int .u64 (x.f : Int), .int .u64 (x.g : Int), .int .i64 x.ph, .int .u64 (x.p : Int), .int .u64 (x.q : Int), .int .u64 (x.r : Int), .int .u64 (x.z : Int), .string x.t]] (wr.alloc o) fun e W' => e = .returned (.tuple #[]) ∧ Hid (Wa base p W (lDe ((L.take k).foldl lDe (lC s n 32)) x) W')) := fun o => layDeal_any (HS.out.alloc o) x (HX.out x hmem)
      have HY : Hid (∀ V, Wa base p W (lDe ((L.take k).foldl lDe (lC s n 32)) x) V → Wa base p W ((L.take (k + 1)).foldl lDe (lC s n 32)) V) := fun V h => by
        rw [List.take_add_one, hx]
        simpa using h
      clear hc hx hmem hbp
      go_wp2_with fail
      refine (HN.out _).mono ?_
      rintro e w2 ⟨rfl, G⟩
      go_wp2
      go_roundw
      case rel => exact ⟨k + 1, by omega, by go_num, HY.out _ G.out⟩
      case measure => simp [intOf]; omega
    · obtain rfl : k = n := by omega
      go_wp2
      go_end0
      exact ⟨rfl, HFI.out _ HS.out⟩
set_option maxRecDepth 10000 in
set_option maxHeartbeats 1600000 in
theorem layList_Sn {base p : Nat} {w W : World} {s : WS} (h : Wa base p w s W) {ao : Option Addr} {n cap : Nat} {L : List Sn} (hr : Rs p W 5 Sn.cells ao n L) (hx : ∀ x ∈ L, x.ok) (hd : ∀ x ∈ L, x.dn p W) : Calls Tryz.prog 61 #[.pointer (some ⟨p, 0, none⟩), .slice ao n cap, .int .i64 16, .func (.func 62) #[] #[]] W fun e W' => e = .returned (.tuple #[]) ∧ Hid (Wa base p w (lLs lSn 16 s L) W') := by
  have HC := hide (count_w (Wa.start h.k) n 16 hr.le)
  have HR := hide hr
  have hn := hr.le
  have HL := hide hr.len
  have HX := hide hx
  have HK := hide h.k
  obtain ⟨b, off, h1, -⟩ := hr.at_
  have HA : Hid (∀ k, k < n → ao = some ⟨b, off, none⟩ ∧ b < p) := fun k hk => h1 (by omega)
  have HFI : Hid (∀ V, Wa base p W ((L.take n).foldl lSn (lC s n 16)) V → Wa base p w (lLs lSn 16 s L) V) := fun V hv => by
    rw [List.take_of_length_le (by have := hr.len; omega)] at hv
    unfold lLs
    rw [hr.len]
    exact h.trans hv
  have HCE : Hid (∀ s' V, Wa base p W s' V → ∀ i x, L[i]? = some x → ∀ j u, (Sn.cells x)[j]? = some u → V.cell? ⟨b, off + i * 5 + j, none⟩ = some u) := fun s' V hv i x hx j u hu => by
    obtain ⟨b', off', g1, g2⟩ := (hr.deep (Wa.below h.k hv)).at_
    have hi := (List.getElem?_eq_some_iff.1 hx).1
    have e1 := (h1 (by have := hr.len; omega)).1
    have e2 := (g1 (by have := hr.len; omega)).1
    rw [e1] at e2
    cases e2
    exact g2 i x hx j u hu
  have HDN : Hid (∀ s' V, Wa base p W s' V → ∀ x ∈ L, x.dn p V) := fun s' V hv x hm => ⟨(hd x hm).sh.deep (Wa.below h.k hv), (hd x hm).lt⟩
  clear hd
  clear h hr hx h1
  go_enter Tryz.func61, Tryz.ntmps61
  go_wp2_with fail
  refine HC.out.mono ?_
  rintro e w1 ⟨rfl, H1⟩
  go_wp2
  go_loopw [17] (fun i wr => ∃ k : Nat, k ≤ n ∧ i = .int .i64 k ∧ Hid (Wa base p W ((L.take k).foldl lSn (lC s n 16)) wr)) (fun i _ => n - (intOf i).toNat)
  case atStart => exact ⟨0, by omega, rfl, H1.out⟩
  case round =>
    obtain ⟨k, hk, rfl, HS⟩ := hrel
    by_cases hlt : k < n
    · obtain ⟨x, hx⟩ : ∃ x, L[k]? = some x := ⟨_, List.getElem?_eq_getElem (by rw [HL.out]; exact hlt)⟩
      obtain ⟨rfl, hbp⟩ := HA.out k hlt
      have hmem := List.mem_of_getElem? hx
      have hc := HCE.out _ _ HS.out k x hx
      have c0 := hc 0 _ rfl
      have c1 := hc 1 _ rfl
      have c2 := hc 2 _ rfl
      have c3 := hc 3 _ rfl
      have c4 := hc 4 _ rfl
      simp only [Nat.add_zero] at c0
      have hbw : b < wr.heap.size := Nat.lt_trans hbp HS.out.k.lt
      have HN : Hid (∀ o, Calls Tryz.prog 62 #[.pointer (some ⟨p, 0, none⟩), .agg #[.int .u64 (x.cl : Int), .int .u64 (x.sq : Int), .int .u64 (x.st : Int), .int .i64 x.cd, .slice x.co x.cn x.cc]] (wr.alloc o) fun e W' => e = .returned (.tuple #[]) ∧ Hid (Wa base p W (lSn ((L.take k).foldl lSn (lC s n 16)) x) W')) := fun o => laySession_any (HS.out.alloc o) x (HX.out x hmem) ⟨(HDN.out _ _ HS.out x hmem).sh.deep (((Below.refl _ wr).alloc (Nat.le_refl _) o).mono (Nat.le_of_lt HS.out.k.lt)), (HDN.out _ _ HS.out x hmem).lt⟩
      have HY : Hid (∀ V, Wa base p W (lSn ((L.take k).foldl lSn (lC s n 16)) x) V → Wa base p W ((L.take (k + 1)).foldl lSn (lC s n 16)) V) := fun V h => by
        rw [List.take_add_one, hx]
        simpa using h
      clear hc hx hmem hbp
      go_wp2_with fail
      refine (HN.out _).mono ?_
      rintro e w2 ⟨rfl, G⟩
      go_wp2
      go_roundw
      case rel => exact ⟨k + 1, by omega, by go_num, HY.out _ G.out⟩
      case measure => simp [intOf]; omega
    · obtain rfl : k = n := by omega
      go_wp2
      go_end0
      exact ⟨rfl, HFI.out _ HS.out⟩
end Go.Proofs.YtiijbboigebhcaaGreatDoor
