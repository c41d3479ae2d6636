import Derived.Test.YtlidehhcoepikaaGreatDoorM1
import Derived.Test.YtlidehhcoepikaaGreatDoorM39
import Derived.Test.YtlidehhcoepikaaGreatDoorNRd
import Derived.Test.YtlidehhcoepikaaGreatDoorNAp
import Derived.Test.YtlidehhcoepikaaGreatDoorNRfU
import Derived.Test.YtlidehhcoepikaaGreatDoorKSame
namespace Go.Proofs.YtlidehhcoepikaaGreatDoor
open Go.RowKit Crc

set_option maxRecDepth 10000 in
set_option maxHeartbeats 800000 in
theorem twin_any (b off : Nat) (ao : Option Addr) (B : List Nat) (n cap : Nat) (w : World) (hao : 0 < n → ao = some ⟨b, off, none⟩) (hn : n = B.length) (hl : n ≤ 140737488355328)
  (hbw : 0 < n → b < w.heap.size) (hc : ∀ i, i < n → w.cell? ⟨b, off + i, none⟩ = some (.int .u8 ((B.getD i 0 : Nat) : Int))) :
    Calls Tryz.prog 12 #[.slice ao n cap] w fun e w' => e = .returned (.slice (some ⟨w.heap.size, 0, none⟩) n (n + 72)) ∧
      w'.ownsRow w.heap.size 5 1 (.slice (some ⟨w.heap.size, 0, none⟩) (n + 72) (n + 72)) (n + 72) (vals (B ++ marksTo 72)) ∧ Below w.heap.size w w' := by
  obtain ⟨i0, hi, hz0, hz1, hz2⟩ := info_parts Tryz.info5
  have HA : Hid (0 < n → ao = some ⟨b, off, none⟩) := hao
  have HN : Hid (n = B.length) := hn
  have HC : Hid (∀ i, i < n → w.cell? ⟨b, off + i, none⟩ = some (.int .u8 ((B.getD i 0 : Nat) : Int))) := hc
  have HB : Hid (0 < n → b < w.heap.size) := hbw
  clear hn hc hao hbw
  go_enter Tryz.func12, Tryz.ntmps12
  go_wp2_with (first
    | (at_make; refine wpList_make_own _ rfl _ _ 36 rfl w.heap.size 5 i0 (.int .u8 0) 1 Tryz.underlying36 hi hz0 hz1 .i64 .i64 _ (n + 72) rfl rfl (by omega) (by rw [hz2]; omega) (by unfold maxLen; omega) (Nat.le_refl _) ?_; intro w0 hown0 hgrow0))
  go_loopw [3, 4] (fun v i wr => ∃ k : Nat, k ≤ n ∧ i = .int .i64 k ∧ v = .slice (some ⟨w.heap.size, 0, none⟩) k (n + 72) ∧ wr.ownsRow w.heap.size 5 1 v k (vals (B.take k)) ∧ Below w.heap.size w wr)
    (fun _ i _ => n - (intOf i).toNat)
  case atStart => exact ⟨0, by omega, rfl, rfl, hown0, (Below.refl _ _).grown hgrow0 (Nat.le_refl _) (fun k h => by cases h)⟩
  case round =>
    obtain ⟨k, hk, rfl, rfl, hown, hnx⟩ := hrel
    clear hgrow0 hown0
    have hsize := hnx.size
    by_cases hlt : k < n
    · have hck := (hnx.cell (p := ⟨b, off + k, none⟩) (HB.out (by omega))).trans (HC.out k hlt)
      have HT : Hid (vals (B.take (k + 1)) = vals (B.take k) ++ [.int .u8 ((B.getD k 0 : Nat) : Int)]) := by
        show _ = _; rw [take_snoc B k (by have := HN.out; omega), vals_append, vals_one]
      obtain ⟨c, hcd⟩ : ∃ c, c = B.getD k 0 := ⟨_, rfl⟩
      rw [← hcd] at hck HT
      clear hcd
      obtain rfl := HA.out (by omega)
      go_wp2_with (first
        | (at_builtin; refine wpList_append_own_spare _ rfl (.tmp 16) (.tmp 21) 36 rfl w.heap.size 5 i0 1 Tryz.underlying36 hi hz1 w.heap.size k (n + 72) _ rfl (hown.alloc _) ⟨wr.heap.size, 0, none⟩ 1 1 [.int .u8 (c : Int)] rfl rfl (cell_one_new _ _ _) (Shade.one _ rfl) (by omega) ?_; intro w1 hown1 hgrow1))
      go_roundw
      case rel =>
        exact ⟨k + 1, by omega, by go_num, rfl, by rw [HT.out]; exact hown1, (hnx.alloc (by omega) _).grown hgrow1 (by simp; omega) (fun j hj => by cases hj; exact Nat.le_refl _)⟩
      case measure => simp [intOf]; omega
    · obtain rfl : k = n := by omega
      have hBk : B.take k = B := List.take_of_length_le (by have := HN.out; omega)
      rw [hBk] at hown
      clear hBk
      go_wp2
      go_loopw [3, 5] (fun v i wr => ∃ j : Nat, j ≤ 72 ∧ i = .int .i64 j ∧ v = .slice (some ⟨w.heap.size, 0, none⟩) (k + j) (k + 72) ∧ wr.ownsRow w.heap.size 5 1 v (k + j) (vals (B ++ marksTo j)) ∧ Below w.heap.size w wr)
        (fun _ i _ => 72 - (intOf i).toNat)
      case atStart => exact ⟨0, by omega, rfl, rfl, by simpa [marksTo] using hown, hnx⟩
      case round =>
        clear hown hnx hsize
        obtain ⟨j, hj, rfl, rfl, hown, hnx⟩ := hrel
        have hsize := hnx.size
        by_cases hj4 : j < 72
        · have HT : Hid (vals (B ++ marksTo (j + 1)) = vals (B ++ marksTo j) ++ [.int .u8 ((160 : Int) + (j : Int))]) := by
            show _ = _; rw [marksTo_succ, ← List.append_assoc, vals_append, vals_one]; simp
          go_wp2_with (first
            | (at_builtin; refine wpList_append_own_spare _ rfl (.tmp 27) (.tmp 31) 36 rfl w.heap.size 5 i0 1 Tryz.underlying36 hi hz1 w.heap.size (k + j) (k + 72) _ rfl (hown.alloc _) ⟨wr.heap.size, 0, none⟩ 1 1 [.int .u8 ((160 : Int) + (j : Int))] rfl rfl (cell_one_new _ _ _) (Shade.one _ rfl) (by omega) ?_; intro w1 hown1 hgrow1))
          go_roundw
          case rel =>
            exact ⟨j + 1, by omega, by go_num, by rw [Nat.add_assoc], by rw [HT.out, ← Nat.add_assoc]; exact hown1, (hnx.alloc (by omega) _).grown hgrow1 (by simp; omega) (fun j hj => by cases hj; exact Nat.le_refl _)⟩
          case measure => simp [intOf]; omega
        · obtain rfl : j = 72 := by omega
          go_wp2
          go_ret
          exact ⟨rfl, hown, hnx⟩
/-- The lent copy, as it lies. -/
def Tw (wi : World) (gc n : Nat) (B : List Nat) : Prop := n = B.length ∧ wi.ownsRow gc 5 1 (.slice (some ⟨gc, 0, none⟩) (n + 72) (n + 72)) (n + 72) (vals (B ++ marksTo 72))
theorem Tw.next {wi w' : World} {gc n : Nat} {B : List Nat} {row : Option Nat} (h : Tw wi gc n B) (hg : wi.grownBy w' row) (hr : row ≠ some gc) : Tw w' gc n B :=
  ⟨h.1, h.2.kept hg (.inr (by simpa [Value.ownBlock] using fun e => hr e.symm))⟩
theorem Tw.shows {wi : World} {gc n : Nat} {B : List Nat} (h : Tw wi gc n B) (hB : ∀ x ∈ B, x < 256) (hl : n ≤ 140737488355328) : Shows wi.heap.size wi (some ⟨gc, 0, none⟩) n (n + 72) B := by
  refine ⟨h.1, by omega, hl, hB, gc, 0, fun _ => rfl, fun _ => owned_lt2 h.2, fun i hi => ?_⟩
  have := owned_cells h.2 i (by omega)
  rw [List.getD_eq_getElem?_getD, List.getElem?_append_left (by have := h.1; omega)] at this
  rw [Nat.zero_add, this, List.getD_eq_getElem?_getD]
theorem twin_sh {lim : Nat} {ao : Option Addr} {B : List Nat} {n cap : Nat} {w : World} (h : Shows lim w ao n cap B) (hl : lim ≤ w.heap.size) :
    Calls Tryz.prog 12 #[.slice ao n cap] w fun e w' => e = .returned (.slice (some ⟨w.heap.size, 0, none⟩) n (n + 72)) ∧ Tw w' w.heap.size n B ∧ Below w.heap.size w w' := by
  obtain ⟨h1, h2, h3, h4, b, off, h5, h6, h7⟩ := h
  exact (twin_any b off ao B n cap w h5 h1 h3 (fun h => Nat.lt_of_lt_of_le (h6 h) hl) h7).mono fun e w' ⟨p, q, r⟩ => ⟨p, ⟨h1, q⟩, r⟩
set_option maxRecDepth 10000 in
set_option maxHeartbeats 800000 in
theorem kept6 {lim : Nat} {ao : Option Addr} {B : List Nat} {n cap gc : Nat} {w : World} (h : Tw w gc n B) (hs : Shows lim w ao n cap B) :
    Calls Tryz.prog 16 #[.slice (some ⟨gc, 0, none⟩) n (n + 72), .slice ao n cap] w fun e w' => e = .returned (.bool true) ∧ ∃ q, w' = w.drewN q := by
  have hl := hs.2.2.1
  have HS := hide (same_any (h.shows hs.2.2.2.1 hl) hs)
  have HG : Hid (∀ j, j < 72 → w.cell? ⟨gc, n + j, none⟩ = some (.int .u8 ((160 : Int) + (j : Int)))) := fun j hj => by
    have q := owned_cells h.2 (n + j) (by omega)
    have e : (B ++ marksTo 72).getD (n + j) 0 = 160 + j := by
      rw [List.getD_eq_getElem?_getD, List.getElem?_append_right (by have := h.1; omega), show n + j - B.length = j by have := h.1; omega]
      simp [marksTo, hj]
    rw [e] at q
    rw [q]
    simp
  clear h hs
  go_enter Tryz.func16, Tryz.ntmps16
  go_wp2_with fail
  refine HS.out.mono ?_
  rintro e w1 ⟨rfl, q, hw1⟩
  have hh : w1.heap = w.heap := by rw [hw1]; rfl
  have HG : Hid (∀ j, j < 72 → w1.cell? ⟨gc, n + j, none⟩ = some (.int .u8 ((160 : Int) + (j : Int)))) := fun j hj => by simp only [World.cell?, hh]; exact HG.out j hj
  have HW := hide hw1
  clear hw1 hh HS
  go_wp2
  go_loopw [6] (fun i wr => ∃ k : Nat, k ≤ 72 ∧ i = .int .i64 k ∧ Hid (∃ q, wr = w1.drewN q)) (fun i _ => 72 - (intOf i).toNat)
  case atStart => exact ⟨0, by omega, rfl, 0, rfl⟩
  case round =>
    obtain ⟨k, hk, rfl, HS⟩ := hrel
    obtain ⟨r, hr⟩ := HS.out
    have hh : wr.heap = w1.heap := by rw [hr]; rfl
    by_cases hlt : k < 72
    · have c0 : wr.cell? ⟨gc, n + k, none⟩ = some (.int .u8 ((160 : Int) + (k : Int))) := by simp only [World.cell?, hh]; exact HG.out k hlt
      have DN : Hid (∀ q, ∃ r, wr.drewN q = w1.drewN r) := fun q => ⟨r + q, by rw [hr]; simp [World.drewN, Nat.add_assoc]⟩
      clear hr hh HS
      go_wp2
      go_roundw
      case rel => exact ⟨k + 1, by omega, by go_num, by first | exact DN.out 0 | exact DN.out _⟩
      case measure => simp [intOf]; omega
    · go_wp2
      go_ret
      exact ⟨rfl, q + r, by first | (rw [hr, HW.out]; simp [World.drewN, Nat.add_assoc]) | (rw [HW.out]; simp [World.drewN, Nat.add_assoc])⟩
end Go.Proofs.YtlidehhcoepikaaGreatDoor
namespace Go.Proofs.YtlidehhcoepikaaGreatDoor
open Go.RowKit Crc
attribute [local irreducible] nV nS rdC rdBk rdIm hdA hd1 oS

theorem fine_part {v : Vm} (h : v.part < 0) : ∀ x ∈ v.S, x.2.2.2.2.length ≤ 256 := by
  intro x hx
  unfold Vm.part at h
  have h1 := (fstF_cons _ _ h).2
  have h2 := (fstF_cons _ _ h1).2
  have h3 := (fstF_cons _ _ h2).2
  have h4 := (fstF_cons _ _ h3).2
  have h5 := (fstF_cons _ _ h4).2
  have h6 := (fstF_cons _ _ h5).2
  have h7 := (fstF_cons _ _ h6).1
  unfold okSv at h7
  rw [Bool.and_eq_true] at h7
  have h8 := List.all_eq_true.1 h7.1 x hx
  unfold okV1 at h8
  simp at h8
  exact h8.2
theorem un_part (B : List Nat) (h : (unE B).2 = 0) : (unI B).pv.part < 0 := by
  unfold unE at h
  split at h
  · cases h
  · split at h
    · rename_i h1; exact absurd h h1
    · split at h
      · rename_i h1; exact absurd h h1
      · split at h
        · cases h
        · omega
theorem un_fine (B : List Nat) : (unV B).A.length ≤ 64 ∧ (unV B).H.length ≤ 64 ∧ (unV B).J.length ≤ 64 ∧ (unV B).D.length ≤ 32 ∧ (unV B).S.length ≤ 16 ∧ ∀ x ∈ (unV B).S, x.2.2.2.2.length ≤ 256 := by
  unfold unV
  split
  · rename_i h
    have hp := fine_part (un_part B h)
    have hs := rdIm_small (oS (hd1 B))
    have e : unI B = (rdIm (oS (hd1 B))).1 := rfl
    rw [← e] at hs
    refine ⟨hs.1, hs.2.1, hs.2.2.1, hs.2.2.2.1, ?_, hp⟩
    have := hs.2.2.2.2
    unfold Im.pv
    simpa using this
  · exact ⟨by decide, by decide, by decide, by decide, by decide, fun x hx => by cases hx⟩
theorem Mi.fine {m : Mi} {B : List Nat} {lo : Nat} {w : World} (h : m.Own lo w) (hv : m.val = unV B) : m.small ∧ m.sn ≤ 16 ∧ Bd m lo w.heap.size ∧ Wh m lo w.heap.size := by
  have hf := un_fine B
  rw [← hv] at hf
  obtain ⟨f1, f2, f3, f4, f5, f6⟩ := hf
  have f1 : m.A.length ≤ 64 := f1
  have f2 : m.H.length ≤ 64 := f2
  have f3 : m.J.length ≤ 64 := f3
  have f4 : m.D.length ≤ 32 := f4
  have f5 : (m.S.map Sn.val).length ≤ 16 := f5
  rw [List.length_map] at f5
  have n1 := h.bk.a.num'
  have n2 := h.bk.h.num'
  have n3 := h.bk.j.num'
  have n4 := h.d.num'
  have n5 := h.s.row.num'
  refine ⟨⟨by omega, by omega, by omega, by omega, by omega⟩, by omega, ⟨fun x hx g e => (h.s.own x hx).1.lt g e, h.s.ap, h.s.cn, fun x hx => ?_⟩, ⟨fun g e => World.ownsRow.lt h.bk.a g e, fun g e => World.ownsRow.lt h.bk.h g e, fun g e => World.ownsRow.lt h.d g e, fun g e => World.ownsRow.lt h.bk.j g e, fun g e => World.ownsRow.lt h.s.row g e⟩⟩
  have q : x.D.length ≤ 256 := f6 (Sn.val x) (List.mem_map_of_mem hx)
  rw [h.s.cn x hx]
  omega
theorem own_at {W W' : World} {base z n : Nat} {e : TypeId} {v : Value} {xs : List Value} (h : W.ownsRow base e z v n xs) (hk : ∀ g, base ≤ g → g < W.heap.size → W'.heap[g]? = W.heap[g]?) : W'.ownsRow base e z v n xs := by
  refine ⟨h.1, ?_⟩
  rcases h.2 with h0 | ⟨g, cap, cur, h1, hbg, hg, rest⟩
  · exact .inl h0
  · exact .inr ⟨g, cap, cur, h1, hbg, (hk g hbg (block_lt hg)).trans hg, rest⟩
theorem Mi.Own.at_ {m : Mi} {base : Nat} {W W' : World} (h : m.Own base W) (hk : ∀ g, base ≤ g → g < W.heap.size → W'.heap[g]? = W.heap[g]?) : m.Own base W' :=
  ⟨⟨own_at h.bk.a hk, own_at h.bk.h hk, own_at h.bk.j hk⟩, own_at h.d hk, ⟨own_at h.s.row hk, fun x hx => ⟨own_at (h.s.own x hx).1 hk, (h.s.own x hx).2⟩, h.s.ap⟩⟩
theorem OutR.wide {lo hi : Nat} {W W' : World} (h : OutR lo lo W W') : OutR lo hi W W' := ⟨h.os, h.tape, h.output, h.size, fun k hk _ => h.block k hk (by omega)⟩
theorem OutR.bel {lo : Nat} {W W' : World} (h : OutR lo lo W W') : Below W.heap.size W W' := ⟨h.os, h.tape, h.output, h.size, fun k hk => h.block k hk (by omega)⟩
theorem outR_below {lo : Nat} {W W' : World} (h : Below W.heap.size W W') : OutR lo lo W W' := ⟨h.os, h.tape, h.output, h.size, fun k hk _ => h.block k hk⟩
theorem outR_grown {g : Nat} {W W' : World} (h : W.grownBy W' (some g)) : OutR g (g + 1) W W' := ⟨h.os, h.tape, h.output, h.size, fun k hk hn => h.block k hk (fun e => by cases e; omega)⟩
theorem OutR.below' {lo hi : Nat} {w W W' : World} (h : OutR lo hi W W') (hb : Below w.heap.size w W) (hl : w.heap.size ≤ lo) : Below w.heap.size w W' := ⟨h.os.trans hb.os, h.tape.trans hb.tape, h.output.trans hb.output, Nat.le_trans hb.size h.size, fun k hk => (h.block k (Nat.lt_of_lt_of_le hk hb.size) (by omega)).trans (hb.block k hk)⟩
theorem apart_un {m : Mi} {B : List Nat} {lo hi : Nat} {W0 W : World} (h0 : m.Own lo W0) (hv : m.val = unV B) (hz : (unE B).2 ≠ 0 → m = Mi.zero) (hhi : W0.heap.size = hi) (h : m.Own lo W) (hlo : lo ≤ hi) (hs : hi ≤ W.heap.size) : Calls Tryz.prog 17 #[.agg #[.int .u64 (m.slot : Int), .int .u64 (m.now : Int), .int .u64 (m.tot : Int), .int .u64 (m.nx : Int), .slice m.ao m.an m.ac, .slice m.ho m.hn m.hc, .slice m.jo m.jn m.jc, .slice m.dO m.dn m.dc, .int .u64 (m.ends : Int), .slice m.so m.sn m.sc]] W fun e w' => e = .returned (.bool true) ∧ Hid (OutR lo hi W w' ∧ ((unE B).2 ≠ 0 → OutR lo lo W w')) := by
  by_cases hc : (unE B).2 = 0
  · obtain ⟨s, n, bd, wh⟩ := Mi.fine h0 hv
    rw [hhi] at bd wh
    refine (apart_any h bd wh hlo hs s n).mono ?_
    rintro e w' ⟨rfl, o⟩
    exact ⟨rfl, o.out, fun q => absurd hc q⟩
  · obtain rfl := hz hc
    refine (apart_any (m := Mi.zero) (lo := lo) (hi := lo) h ⟨fun x hx => (by cases hx), .nil, fun x hx => (by cases hx), fun x hx => (by cases hx)⟩ ⟨fun g e => (by cases e), fun g e => (by cases e), fun g e => (by cases e), fun g e => (by cases e), fun g e => (by cases e)⟩ (Nat.le_refl _) (by omega) ⟨by decide, by decide, by decide, by decide, by decide⟩ (by decide)).mono ?_
    rintro e w' ⟨rfl, o⟩
    exact ⟨rfl, o.out.wide, fun _ => o.out⟩
theorem showsU {w W : World} {ao : Option Addr} {n cap : Nat} {B : List Nat} (h : Shows w.heap.size w ao n cap B) (hb : Below w.heap.size w W) : Shows W.heap.size W ao n cap B := by
  have q := h.kept (below_none hb) (fun g e => by cases e)
  obtain ⟨p1, p2, p3, p4, b, off, p5, p6, p7⟩ := q
  exact ⟨p1, p2, p3, p4, b, off, p5, fun e => Nat.lt_of_lt_of_le (p6 e) hb.size, p7⟩
/-- What the law holds at a time. -/
structure Lx (w : World) (x6 l2 l3 x8 : Nat) (m2 m3 : Mi) (ao : Option Addr) (cap k : Nat) (c : Int) (W : World) : Prop where
  bel : Below w.heap.size w W
  b6 : W.heap[x6]? = some (.cells m2.cells 33 (0, 0))
  b8 : W.heap[x8]? = some (.cells m3.cells 33 (0, 0))
  b9 : W.heap[x8 + 1]? = some (.cells #[.slice ao k cap, .int .i64 c] 43 (0, 0))
  o2 : m2.Own l2 W
  o3 : m3.Own l3 W
theorem Lx.step {w : World} {x6 l2 l3 x8 : Nat} {m2 m3 : Mi} {ao : Option Addr} {cap k : Nat} {c : Int} {W W' : World} {lo hi : Nat} (h : Lx w x6 l2 l3 x8 m2 m3 ao cap k c W) (ho : OutR lo hi W W') (hl : w.heap.size ≤ lo) (h2 : hi ≤ l2) (h3 : hi ≤ l3) (h6 : hi ≤ x6) (h8 : hi ≤ x8) : Lx w x6 l2 l3 x8 m2 m3 ao cap k c W' :=
  ⟨ho.below' h.bel hl, (ho.block _ (block_lt h.b6) (by omega)).trans h.b6, (ho.block _ (block_lt h.b8) (by omega)).trans h.b8, (ho.block _ (block_lt h.b9) (by omega)).trans h.b9, h.o2.at_ (fun g h1 h2 => ho.block g h2 (by omega)), h.o3.at_ (fun g h1 h2 => ho.block g h2 (by omega))⟩
end Go.Proofs.YtlidehhcoepikaaGreatDoor
namespace Go.Proofs.YtlidehhcoepikaaGreatDoor
open Go.RowKit Crc
theorem Tw.nostr {W : World} {gc n : Nat} {B : List Nat} (h : Tw W gc n B) : ∃ cs, W.heap[gc]? = some (.cells cs 5 (0, 0)) ∧ ∀ (i : Nat) (s : ByteArray), cs[i]? ≠ some (.string s) := by
  obtain ⟨h1, h2⟩ := h
  rcases h2.2 with ⟨e, _⟩ | ⟨g, cap, cur, e, hbg, hg, hnc, hcm, hcs, ht⟩
  · cases e
  · cases e
    refine ⟨cur, hg, fun i s he => ?_⟩
    have hlt : i < cur.size := (Array.getElem?_eq_some_iff.1 he).1
    have hx : (vals (B ++ marksTo 72))[i]? = some (.string s) := by
      rw [← ht, List.getElem?_take, if_pos (by omega)]
      simpa using he
    obtain ⟨c, hc⟩ := vals_int (B ++ marksTo 72) i (by have := (List.getElem?_eq_some_iff.1 hx).1; simpa [vals] using this)
    rw [hx] at hc
    cases hc
structure Ly (x4 l1 : Nat) (m1 : Mi) (W : World) : Prop where
  b4 : W.heap[x4]? = some (.cells m1.cells 33 (0, 0))
  o1 : m1.Own l1 W
theorem Ly.step {x4 l1 lo hi : Nat} {m1 : Mi} {W W' : World} (h : Ly x4 l1 m1 W) (ho : OutR lo hi W W') (h1 : hi ≤ l1) (h4 : hi ≤ x4) : Ly x4 l1 m1 W' :=
  ⟨(ho.block _ (block_lt h.b4) (by omega)).trans h.b4, h.o1.at_ (fun g h1 h2 => ho.block g h2 (by omega))⟩
structure Lz (w : World) (l3 x8 : Nat) (m3 : Mi) (ao : Option Addr) (cap k : Nat) (c : Int) (W : World) : Prop where
  bel : Below w.heap.size w W
  b8 : W.heap[x8]? = some (.cells m3.cells 33 (0, 0))
  b9 : W.heap[x8 + 1]? = some (.cells #[.slice ao k cap, .int .i64 c] 43 (0, 0))
  o3 : m3.Own l3 W
theorem Lz.step {w : World} {l3 x8 : Nat} {m3 : Mi} {ao : Option Addr} {cap k : Nat} {c : Int} {W W' : World} {lo hi : Nat} (h : Lz w l3 x8 m3 ao cap k c W) (ho : OutR lo hi W W') (hl : w.heap.size ≤ lo) (h3 : hi ≤ l3) (h8 : hi ≤ x8) : Lz w l3 x8 m3 ao cap k c W' :=
  ⟨ho.below' h.bel hl, (ho.block _ (block_lt h.b8) (by omega)).trans h.b8, (ho.block _ (block_lt h.b9) (by omega)).trans h.b9, h.o3.at_ (fun g h1 h2 => ho.block g h2 (by omega))⟩
theorem Lx.z {w : World} {x6 l2 l3 x8 : Nat} {m2 m3 : Mi} {ao : Option Addr} {cap k : Nat} {c : Int} {W : World} (h : Lx w x6 l2 l3 x8 m2 m3 ao cap k c W) : Lz w l3 x8 m3 ao cap k c W := ⟨h.bel, h.b8, h.b9, h.o3⟩
theorem fv_apart {W W' : World} {ao : Option Addr} {L : List Lk} {pu : Int} {lo : Nat} (hL : pu = 0 → L = []) (h : ∃ b off, FV W.heap.size W ao L b off) (ho : pu ≠ 0 → OutR lo lo W W') : ∃ b off, FV W'.heap.size W' ao L b off := by
  by_cases hp : pu = 0
  · rw [hL hp]; exact ⟨0, 0, FV.nil _ _ _ _ _⟩
  · obtain ⟨b, off, hf⟩ := h
    have hb := (ho hp).bel
    exact ⟨b, off, (hf.below hb).wide hb.size⟩
end Go.Proofs.YtlidehhcoepikaaGreatDoor
