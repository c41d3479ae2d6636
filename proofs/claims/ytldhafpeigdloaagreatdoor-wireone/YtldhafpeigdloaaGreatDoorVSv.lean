import Derived.Test.YtldhafpeigdloaaGreatDoorM48
import Derived.Test.YtldhafpeigdloaaGreatDoorM29
import Derived.Deep.RegionHeld
namespace Go.Proofs.YtldhafpeigdloaaGreatDoor
open Go.RowKit Crc

/-- Two votes of one value. -/
structure Vi.like (t s : Vi) : Prop where
  slot : t.slot = s.slot
  num : t.num = s.num
  node : t.node = s.node
  st : t.st = s.st
  rs : t.rs.map Rq.val = s.rs.map Rq.val
set_option maxRecDepth 10000 in
set_option maxHeartbeats 800000 in
theorem sameVotes_any {l1 l2 : Nat} {w : World} {vo1 vo2 : Option Addr} {t1 t2 : List Vi} {b1 off1 b2 off2 : Nat} (vc1 vc2 n1 n2 : Nat) (h1 : Vos l1 w vo1 t1 b1 off1) (h2 : Vos l2 w vo2 t2 b2 off2) (hl1 : l1 ≤ w.heap.size) (hl2 : l2 ≤ w.heap.size) (hn1 : t1.length = n1) (hn2 : t2.length = n2) (hn : n1 = n2) (hv : ∀ (i : Nat) (t s : Vi), t1[i]? = some t → t2[i]? = some s → t.like s) :
    Calls Tryz.prog 26 #[.slice vo1 n1 vc1, .slice vo2 n2 vc2] w fun e w' => e = .returned (.bool true) ∧ Hid (Below w.heap.size w w') := by
  have hle := h1.le
  have H1 := hide h1
  have H2 := hide h2
  have HV := hide hv
  have HN2 : Hid (t2.length = n1) := hn2.trans hn.symm
  clear h1 h2 hv hn2
  subst hn
  subst hn1
  go_enter Tryz.func26, Tryz.ntmps26
  go_wp2
  go_loopw [5] (fun i wr => ∃ k : Nat, k ≤ t1.length ∧ i = .int .i64 k ∧ Hid (Below w.heap.size w wr)) (fun i _ => t1.length - (intOf i).toNat)
  case atStart => exact ⟨0, by omega, rfl, Below.refl _ _⟩
  case round =>
    obtain ⟨k, hk, rfl, HW⟩ := hrel
    by_cases hlt : k < t1.length
    · obtain ⟨t, gt, -, okt, bl1, rfl, c0, c1, c2, c3, c4⟩ := (H1.out.below (HW.out.mono hl1)).get hlt
      obtain ⟨s, gs, -, oks, bl2, rfl, d0, d1, d2, d3, d4⟩ := (H2.out.below (HW.out.mono hl2)).get (k := k) (by rw [HN2.out]; exact hlt)
      have lk := HV.out k t s gt gs
      rw [← lk.slot] at d0
      rw [← lk.num] at d1
      rw [← lk.node] at d2
      rw [← lk.st] at d3
      have hw1 : b1 < wr.heap.size := Nat.lt_of_lt_of_le bl1 (Nat.le_trans hl1 HW.out.size)
      have hw2 : b2 < wr.heap.size := Nat.lt_of_lt_of_le bl2 (Nat.le_trans hl2 HW.out.size)
      have hbe : ∀ w, (binOp BinOp.neq 25 (.agg #[.int .u64 (t.num : Int), .int .i64 t.node]) (.agg #[.int .u64 (t.num : Int), .int .i64 t.node])).run Tryz.prog w = .ok (.bool false) w := fun w => by rw [bal_cmp]; simp
      have HSB : Hid (Calls Tryz.prog 27 #[.agg #[.int .u64 (t.st : Int), .slice t.ro t.n t.rc], .agg #[.int .u64 (t.st : Int), .slice s.ro s.n s.rc]] wr.drew fun e w' => e = .returned (.bool true) ∧ Hid (Below wr.heap.size wr w')) := by
        have q := sameBatch_any (w := wr.drew) t.st t.rc s.rc (okt.hR.below ⟨rfl, rfl, rfl, Nat.le_refl _, fun _ _ => rfl⟩) (oks.hR.below ⟨rfl, rfl, rfl, Nat.le_refl _, fun _ _ => rfl⟩) (Nat.le_trans hl1 HW.out.size) (Nat.le_trans hl2 HW.out.size) lk.rs
        rw [okt.hn, oks.hn] at q
        exact q.mono (fun _ _ h => ⟨h.1, ⟨h.2.os, h.2.tape, h.2.output, h.2.size, h.2.block⟩⟩)
      have HKP : Hid (∀ V, Below wr.heap.size wr V → (V.cell? ⟨b1, off1 + k * 5, none⟩ = some (.int .u64 (t.slot : Int)) ∧ V.cell? ⟨b1, off1 + k * 5 + 1, none⟩ = some (.int .u64 (t.num : Int)) ∧ V.cell? ⟨b1, off1 + k * 5 + 2, none⟩ = some (.int .i64 t.node) ∧ V.cell? ⟨b1, off1 + k * 5 + 3, none⟩ = some (.int .u64 (t.st : Int)) ∧ V.cell? ⟨b1, off1 + k * 5 + 4, none⟩ = some (.slice t.ro t.n t.rc)) ∧ (V.cell? ⟨b2, off2 + k * 5, none⟩ = some (.int .u64 (t.slot : Int)) ∧ V.cell? ⟨b2, off2 + k * 5 + 1, none⟩ = some (.int .u64 (t.num : Int)) ∧ V.cell? ⟨b2, off2 + k * 5 + 2, none⟩ = some (.int .i64 t.node) ∧ V.cell? ⟨b2, off2 + k * 5 + 3, none⟩ = some (.int .u64 (t.st : Int)) ∧ V.cell? ⟨b2, off2 + k * 5 + 4, none⟩ = some (.slice s.ro s.n s.rc))) := fun V hb => ⟨⟨(hb.cell (p := ⟨b1, _, none⟩) hw1).trans c0, (hb.cell (p := ⟨b1, _, none⟩) hw1).trans c1, (hb.cell (p := ⟨b1, _, none⟩) hw1).trans c2, (hb.cell (p := ⟨b1, _, none⟩) hw1).trans c3, (hb.cell (p := ⟨b1, _, none⟩) hw1).trans c4⟩, (hb.cell (p := ⟨b2, _, none⟩) hw2).trans d0, (hb.cell (p := ⟨b2, _, none⟩) hw2).trans d1, (hb.cell (p := ⟨b2, _, none⟩) hw2).trans d2, (hb.cell (p := ⟨b2, _, none⟩) hw2).trans d3, (hb.cell (p := ⟨b2, _, none⟩) hw2).trans d4⟩
      clear gt gs okt oks lk bl1 bl2
      go_wp2_with fail
      go_region_held (fun V => (V.cell? ⟨b1, off1 + k * 5, none⟩ = some (.int .u64 (t.slot : Int)) ∧ V.cell? ⟨b1, off1 + k * 5 + 1, none⟩ = some (.int .u64 (t.num : Int)) ∧ V.cell? ⟨b1, off1 + k * 5 + 2, none⟩ = some (.int .i64 t.node) ∧ V.cell? ⟨b1, off1 + k * 5 + 3, none⟩ = some (.int .u64 (t.st : Int)) ∧ V.cell? ⟨b1, off1 + k * 5 + 4, none⟩ = some (.slice t.ro t.n t.rc)) ∧ (V.cell? ⟨b2, off2 + k * 5, none⟩ = some (.int .u64 (t.slot : Int)) ∧ V.cell? ⟨b2, off2 + k * 5 + 1, none⟩ = some (.int .u64 (t.num : Int)) ∧ V.cell? ⟨b2, off2 + k * 5 + 2, none⟩ = some (.int .i64 t.node) ∧ V.cell? ⟨b2, off2 + k * 5 + 3, none⟩ = some (.int .u64 (t.st : Int)) ∧ V.cell? ⟨b2, off2 + k * 5 + 4, none⟩ = some (.slice s.ro s.n s.rc))) (first | go_keep | exact HKP.out _ G2.out)
        ((go_at_call 27; refine HSB.out.mono ?_; rintro e w2 ⟨rfl, G2⟩))
      clear c0 c1 c2 c3 c4 d0 d1 d2 d3 d4
      go_wp2
      go_roundw
      case rel => exact ⟨k + 1, by omega, by go_num, HW.out.trans (G2.out.mono HW.out.size)⟩
      case measure => simp [intOf]; omega
    · obtain rfl : k = t1.length := by omega
      go_wp2
      go_ret
      exact ⟨rfl, HW⟩
end Go.Proofs.YtldhafpeigdloaaGreatDoor
