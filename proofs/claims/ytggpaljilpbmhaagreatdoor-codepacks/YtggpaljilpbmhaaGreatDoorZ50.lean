import Derived.Test.YtggpaljilpbmhaaGreatDoorZ41
import Derived.Test.YtggpaljilpbmhaaGreatDoorZ36
import Derived.Test.YtggpaljilpbmhaaGreatDoorZ44
import Derived.Test.YtggpaljilpbmhaaGreatDoorZ39
import Derived.Test.YtggpaljilpbmhaaGreatDoorZ21
import Derived.Test.YtggpaljilpbmhaaGreatDoorZ46
import Derived.Test.YtggpaljilpbmhaaGreatDoorZ42
import Derived.Test.YtggpaljilpbmhaaGreatDoorZ43
namespace Go.Proofs.YtggpaljilpbmhaaGreatDoor
open Go.RowKit

theorem zback {W w wf : World} {b : Nat} {cs : Array Value} (h : w.heap[b]? = some (.cells cs 27 (0, 0))) (hc : cs.size = 9) (hB : Below W.heap.size W w) (hb : W.heap.size ≤ b) (v0 v1 v2 v3 v4 v5 v6 v7 v8 : Value) (e : set9 w b v0 v1 v2 v3 v4 v5 v6 v7 v8 = wf) : wf.heap[b]? = some (.cells #[v0, v1, v2, v3, v4, v5, v6, v7, v8] 27 (0, 0)) ∧ Below W.heap.size W wf := by
 obtain ⟨s, G⟩ := set9_blk h hc v0 v1 v2 v3 v4 v5 v6 v7 v8
 rw [e] at s G
 exact ⟨s, hB.grown G hB.size (fun x e => by cases e; exact hb)⟩
end Go.Proofs.YtggpaljilpbmhaaGreatDoor
namespace Go.Proofs.YtggpaljilpbmhaaGreatDoor
open Go.RowKit

/-- What is read of bytes: the program, or the fault. -/
def upF (B : List Nat) : Except Fz Pv :=
 if 8192 < B.length then .error (fzO 8192 80) else match upR B with
 | .error f => .error f
 | .ok q => match verF q with
  | .error z => .error (fzO z.1 z.2)
  | .ok _ => .ok q
theorem upF_long {B : List Nat} (h : 8192 < B.length) : upF B = .error (fzO 8192 80) := by unfold upF; rw [if_pos h]
theorem upF_bad {B : List Nat} (h : ¬ 8192 < B.length) {f : Fz} (e : upR B = .error f) : upF B = .error f := by unfold upF; rw [if_neg h, e]
theorem upF_ver {B : List Nat} (h : ¬ 8192 < B.length) {q : Pv} (e : upR B = .ok q) {z : Int × Int} (hv : verF q = .error z) : upF B = .error (fzO z.1 z.2) := by unfold upF; rw [if_neg h, e]; simp only [hv]
theorem upF_ok {B : List Nat} (h : ¬ 8192 < B.length) {q : Pv} (e : upR B = .ok q) {k : Kn} (hv : verF q = .ok k) : upF B = .ok q := by unfold upF; rw [if_neg h, e]; simp only [hv]
/-- What Unpack answers. -/
def UkX (W : World) (B : List Nat) (e : Ending) (w' : World) : Prop :=
 (∃ gf f, e = .returned (.tuple #[.agg zP, .iface 74 (.pointer (some ⟨gf, 0, none⟩))]) ∧ Hid (Below W.heap.size W w' ∧ upF B = .error f ∧ Chain w'.heap.size w' f.1 (.iface 74 (.pointer (some ⟨gf, 0, none⟩))) f.2)) ∨
 (∃ (q : Pv) (gq : Pg), e = .returned (.tuple #[.agg (gq.cs q).toArray, .nilIface]) ∧ Hid (Below W.heap.size W w' ∧ Po W.heap.size gq q w' ∧ Pkw q ∧ upF B = .ok q))
theorem zch {w wf : World} {b : Nat} {L : List Lk} {v : Value} {c : Int} (h : w.heap[b]? = some (.cells zP 27 (0, 0))) (v0 v1 v2 v3 v4 v5 v6 v7 v8 : Value) (hch : Chain w.heap.size w L v c) (e : set9 w b v0 v1 v2 v3 v4 v5 v6 v7 v8 = wf) : Chain wf.heap.size wf L v c := by
 subst e
 exact (Chain.grownX (set9_grown w b v0 v1 v2 v3 v4 v5 v6 v7 v8) h (fun s e => by cases e) hch).wide (set9_grown w b v0 v1 v2 v3 v4 v5 v6 v7 v8).size
set_option maxRecDepth 10000 in
set_option maxHeartbeats 3200000 in
theorem unpackX {W : World} {l0 : Nat} {ao : Option Addr} {n cap : Nat} {B : List Nat} (h : Shows l0 W ao n cap B) (hl : l0 ≤ W.heap.size) (hg : ErrT W) (hT : Tab W) :
  Calls Tryz.prog 20 #[.slice ao n cap] W (UkX W B) := by
 obtain ⟨W1, hW1⟩ : ∃ W1, W.alloc (.cells zP 27) = W1 := ⟨_, rfl⟩
 have b1 : Below W.heap.size W W1 := by rw [← hW1]; exact below_alloc1 W _
 have A1 : W1.heap[W.heap.size]? = some (.cells zP 27 (0, 0)) := by rw [← hW1]; exact alloc_atK _ _
 have HUP := hide (unpackedX (h.kept (row := none) (grown_belowU b1) (fun g e => by cases e)) (Nat.le_trans hl b1.size) ((b1.cell (p := ⟨1, 0, none⟩) hg.lt).trans hg) (hT.below b1 hT.z))
 have HN := hide h.1
 have HB1 := hide b1
 have HA1 := hide A1
 have HW1 := hide hW1
 have HTZ := hide hT
 clear h hl hg hT b1 A1 hW1
 obtain ⟨pb, hpb⟩ : ∃ pb, W.heap.size = pb := ⟨_, rfl⟩
 have HPB := hide hpb
 unfold zP at HW1
 go_enter Tryz.func20, Tryz.ntmps20
 go_upto_region 1 with fail
 rw [HW1.out]
 clear HW1 hpb
 by_cases h8 : 8192 < n
 ·have HNO : Hid (upF B = .error (fzO 8192 80)) := upF_long (by rw [← HN.out]; exact h8)
  go_wp2_with fail
  refine (refusalC 8192 80 W1).mono ?_
  rintro x w2 ⟨rfl, hw2⟩
  obtain ⟨ft, bt⟩ := ft_new hw2
  clear hw2
  have G2 := hide bt
  have HFT := hide ft
  clear ft bt
  have A2 : w2.heap[pb]? = some (.cells zP 27 (0, 0)) := by rw [← HPB.out]; exact (G2.out.block _ (block_lt HA1.out)).trans HA1.out
  have HBW := hide (HB1.out.trans (G2.out.mono HB1.out.size))
  clear G2
  have HZB := hide (fun wf => zback (W := W) (wf := wf) A2 rfl HBW.out (by rw [HPB.out]; exact Nat.le_refl _) (.slice none 0 0) (.slice none 0 0) (.int .i64 0) (.int .i64 0) (.int .i64 0) (.int .i64 0) (.int .i64 0) (.int .i64 0) (.slice none 0 0))
  have HCF := hide (fun wf => zch (wf := wf) A2 (.slice none 0 0) (.slice none 0 0) (.int .i64 0) (.int .i64 0) (.int .i64 0) (.int .i64 0) (.int .i64 0) (.int .i64 0) (.slice none 0 0) HFT.out)
  have y0 := block_cell A2 0
  have y1 := block_cell A2 1
  have y2 := block_cell A2 2
  have y3 := block_cell A2 3
  have y4 := block_cell A2 4
  have y5 := block_cell A2 5
  have y6 := block_cell A2 6
  have y7 := block_cell A2 7
  have y8 := block_cell A2 8
  have f0 := block_free A2 0
  have f1 := block_free A2 1
  have f2 := block_free A2 2
  have f3 := block_free A2 3
  have f4 := block_free A2 4
  have f5 := block_free A2 5
  have f6 := block_free A2 6
  have f7 := block_free A2 7
  have f8 := block_free A2 8
  have yl := block_lt A2
  simp [zP] at y0 y1 y2 y3 y4 y5 y6 y7 y8
  clear A2
  go_wp2
  obtain ⟨wf, hwf⟩ : ∃ wf, set9 w2 pb (.slice none 0 0) (.slice none 0 0) (.int .i64 0) (.int .i64 0) (.int .i64 0) (.int .i64 0) (.int .i64 0) (.int .i64 0) (.slice none 0 0) = wf := ⟨_, rfl⟩
  obtain ⟨hblk, hbw⟩ := HZB.out wf hwf
  have hcf := HCF.out wf hwf
  unfold set9 at hwf
  rw [hwf]
  clear hwf HZB HBW HCF HFT y0 y1 y2 y3 y4 y5 y6 y7 y8 f0 f1 f2 f3 f4 f5 f6 f7 f8 yl
  have c0 := block_cell hblk 0
  have c1 := block_cell hblk 1
  have c2 := block_cell hblk 2
  have c3 := block_cell hblk 3
  have c4 := block_cell hblk 4
  have c5 := block_cell hblk 5
  have c6 := block_cell hblk 6
  have c7 := block_cell hblk 7
  have c8 := block_cell hblk 8
  simp at c0 c1 c2 c3 c4 c5 c6 c7 c8
  have HE : Hid (Below W.heap.size W wf ∧ upF B = .error (fzO 8192 80) ∧ Chain wf.heap.size wf (fzO 8192 80).1 (.iface 74 (.pointer (some ⟨W1.heap.size, 0, none⟩))) (fzO 8192 80).2) := ⟨hbw, HNO.out, hcf⟩
  clear hcf
  refine bodyPost_ret (v := .tuple #[.agg #[.slice none 0 0, .slice none 0 0, .int .i64 0, .int .i64 0, .int .i64 0, .int .i64 0, .int .i64 0, .int .i64 0, .slice none 0 0], .iface 74 (.pointer (some ⟨W1.heap.size, 0, none⟩))]) (by simp [results, Tryz.results20, go_sem, c0, c1, c2, c3, c4, c5, c6, c7, c8]) rfl ?_
  exact .inl ⟨_, _, rfl, HE⟩
 ·have HL8 : Hid (¬ 8192 < B.length) := by
   have e := HN.out
   have : ¬ 8192 < B.length := by omega
   exact this
  go_upto_region 3 with fail
  go_wp2_with fail
  refine HUP.out.mono ?_
  intro x w2 hh
  clear HUP
  rcases hh with ⟨gf, fz, rfl, G⟩ | ⟨q, g, rfl, G⟩
  ·have HCH0 := hide G.out.2.2
   have hz : (.agg zP : Value) = .agg #[.slice none 0 0, .slice none 0 0, .int .i64 0, .int .i64 0, .int .i64 0, .int .i64 0, .int .i64 0, .int .i64 0, .slice none 0 0] := rfl
   rw [hz]
   clear hz
   go_upto_region 4 with fail
   obtain ⟨w3, hw3⟩ : ∃ w3, w2.alloc (.cells #[.slice none 0 0, .slice none 0 0, .int .i64 0, .int .i64 0, .int .i64 0, .int .i64 0, .int .i64 0, .int .i64 0, .slice none 0 0] 27) = w3 := ⟨_, rfl⟩
   have b3 : Below w2.heap.size w2 w3 := by rw [← hw3]; exact below_alloc1 _ _
   rw [hw3]
   have b13 := G.out.1.trans (b3.mono G.out.1.size)
   have A3 : w3.heap[pb]? = some (.cells zP 27 (0, 0)) := by rw [← HPB.out]; exact (b13.block _ (block_lt HA1.out)).trans HA1.out
   have HBW := hide (HB1.out.trans (b13.mono HB1.out.size))
   have HNO : Hid (upF B = .error fz) := upF_bad HL8.out G.out.2.1
   have HCH : Hid (Chain w3.heap.size w3 fz.1 (.iface 74 (.pointer (some ⟨gf, 0, none⟩))) fz.2) := (Chain.below b3 HCH0.out).wide b3.size
   clear hw3 b3 b13 G HCH0
   have HZB := hide (fun wf => zback (W := W) (wf := wf) A3 rfl HBW.out (by rw [HPB.out]; exact Nat.le_refl _) (.slice none 0 0) (.slice none 0 0) (.int .i64 0) (.int .i64 0) (.int .i64 0) (.int .i64 0) (.int .i64 0) (.int .i64 0) (.slice none 0 0))
   have HCF := hide (fun wf => zch (wf := wf) A3 (.slice none 0 0) (.slice none 0 0) (.int .i64 0) (.int .i64 0) (.int .i64 0) (.int .i64 0) (.int .i64 0) (.int .i64 0) (.slice none 0 0) HCH.out)
   have y0 := block_cell A3 0
   have y1 := block_cell A3 1
   have y2 := block_cell A3 2
   have y3 := block_cell A3 3
   have y4 := block_cell A3 4
   have y5 := block_cell A3 5
   have y6 := block_cell A3 6
   have y7 := block_cell A3 7
   have y8 := block_cell A3 8
   have f0 := block_free A3 0
   have f1 := block_free A3 1
   have f2 := block_free A3 2
   have f3 := block_free A3 3
   have f4 := block_free A3 4
   have f5 := block_free A3 5
   have f6 := block_free A3 6
   have f7 := block_free A3 7
   have f8 := block_free A3 8
   have yl := block_lt A3
   simp [zP] at y0 y1 y2 y3 y4 y5 y6 y7 y8
   clear A3
   go_wp2
   obtain ⟨wf, hwf⟩ : ∃ wf, set9 w3 pb (.slice none 0 0) (.slice none 0 0) (.int .i64 0) (.int .i64 0) (.int .i64 0) (.int .i64 0) (.int .i64 0) (.int .i64 0) (.slice none 0 0) = wf := ⟨_, rfl⟩
   obtain ⟨hblk, hbw⟩ := HZB.out wf hwf
   have hcf := HCF.out wf hwf
   unfold set9 at hwf
   rw [hwf]
   clear hwf HZB HBW HCF HCH y0 y1 y2 y3 y4 y5 y6 y7 y8 f0 f1 f2 f3 f4 f5 f6 f7 f8 yl
   have c0 := block_cell hblk 0
   have c1 := block_cell hblk 1
   have c2 := block_cell hblk 2
   have c3 := block_cell hblk 3
   have c4 := block_cell hblk 4
   have c5 := block_cell hblk 5
   have c6 := block_cell hblk 6
   have c7 := block_cell hblk 7
   have c8 := block_cell hblk 8
   simp at c0 c1 c2 c3 c4 c5 c6 c7 c8
   have HE : Hid (Below W.heap.size W wf ∧ upF B = .error fz ∧ Chain wf.heap.size wf fz.1 (.iface 74 (.pointer (some ⟨gf, 0, none⟩))) fz.2) := ⟨hbw, HNO.out, hcf⟩
   clear hcf
   refine bodyPost_ret (v := .tuple #[.agg #[.slice none 0 0, .slice none 0 0, .int .i64 0, .int .i64 0, .int .i64 0, .int .i64 0, .int .i64 0, .int .i64 0, .slice none 0 0], .iface 74 (.pointer (some ⟨gf, 0, none⟩))]) (by simp [results, Tryz.results20, go_sem, c0, c1, c2, c3, c4, c5, c6, c7, c8]) rfl ?_
   exact .inl ⟨_, _, rfl, HE⟩
  ·obtain ⟨p, hpq⟩ : ∃ p, q = p := ⟨_, rfl⟩
   subst hpq
   have HP := G
   clear G
   have HCS : Hid ((g.cs q).toArray = #[.slice g.ca q.nc g.cc, .slice g.sa q.ns g.sc, .int .i64 (q.en 0), .int .i64 (q.en 1), .int .i64 (q.en 2), .int .i64 (q.en 3), .int .i64 (q.en 4), .int .i64 (q.en 5), .slice g.ia q.n g.ic]) := rfl
   rw [HCS.out]
   obtain ⟨w3, hw3⟩ : ∃ w3, w2.alloc (.cells #[.slice g.ca q.nc g.cc, .slice g.sa q.ns g.sc, .int .i64 (q.en 0), .int .i64 (q.en 1), .int .i64 (q.en 2), .int .i64 (q.en 3), .int .i64 (q.en 4), .int .i64 (q.en 5), .slice g.ia q.n g.ic] 27) = w3 := ⟨_, rfl⟩
   have b3 : Below w2.heap.size w2 w3 := by rw [← hw3]; exact below_alloc1 _ _
   have A4 : w3.heap[w2.heap.size]? = some (.cells #[.slice g.ca q.nc g.cc, .slice g.sa q.ns g.sc, .int .i64 (q.en 0), .int .i64 (q.en 1), .int .i64 (q.en 2), .int .i64 (q.en 3), .int .i64 (q.en 4), .int .i64 (q.en 5), .slice g.ia q.n g.ic] 27 (0, 0)) := by rw [← hw3]; exact alloc_atK _ _
   have b13 := HP.out.1.trans (b3.mono HP.out.1.size)
   have b03 := HB1.out.trans (b13.mono HB1.out.size)
   have A3 : w3.heap[pb]? = some (.cells zP 27 (0, 0)) := by rw [← HPB.out]; exact (b13.block _ (block_lt HA1.out)).trans HA1.out
   have HPO := hide (HP.out.2.1.next b3)
   have HV := hide (verifyC HPO.out.ok (HTZ.out.below b03 HTZ.out.z))
   rw [HCS.out] at HV
   have HA3 := hide A3
   have HA4 := hide A4
   have HB3 := hide b03
   have HL3 := hide (And.intro (block_lt A3) (block_lt A4))
   have HLE := hide HB1.out.size
   have HR := hide HP.out.2.2
   have HW3 := hide hw3
   clear hw3 b3 b13 b03 A3 HP HB1 HTZ HA1
   go_upto_region 4 with fail
   rw [HW3.out]
   clear HW3
   have y0 := block_cell A4 0
   have y1 := block_cell A4 1
   have y2 := block_cell A4 2
   have y3 := block_cell A4 3
   have y4 := block_cell A4 4
   have y5 := block_cell A4 5
   have y6 := block_cell A4 6
   have y7 := block_cell A4 7
   have y8 := block_cell A4 8
   have yl := block_lt A4
   simp at y0 y1 y2 y3 y4 y5 y6 y7 y8
   clear A4
   go_wp2_with fail
   refine HV.out.mono ?_
   intro x w4 hh
   clear HV y0 y1 y2 y3 y4 y5 y6 y7 y8 yl
   cases hv : verF q with
   | error z =>
    obtain ⟨a, y⟩ := z
    rw [hv] at hh
    obtain ⟨gf, rfl, G⟩ := hh
    have HNO : Hid (upF B = .error (fzO a y)) := upF_ver HL8.out HR.out.2 hv
    have HCH : Hid (Chain w4.heap.size w4 (fzO a y).1 (.iface 74 (.pointer (some ⟨gf, 0, none⟩))) (fzO a y).2) := G.out.1
    have A5 := (G.out.2.block _ (block_lt HA3.out)).trans HA3.out
    have HBW := hide (HB3.out.trans (G.out.2.mono HB3.out.size))
    clear hv G HR HPO HA3 HA4 HB3 HL3 HLE
    have HZB := hide (fun wf => zback (W := W) (wf := wf) A5 rfl HBW.out (by rw [HPB.out]; exact Nat.le_refl _) (.slice none 0 0) (.slice none 0 0) (.int .i64 0) (.int .i64 0) (.int .i64 0) (.int .i64 0) (.int .i64 0) (.int .i64 0) (.slice none 0 0))
    have HCF := hide (fun wf => zch (wf := wf) A5 (.slice none 0 0) (.slice none 0 0) (.int .i64 0) (.int .i64 0) (.int .i64 0) (.int .i64 0) (.int .i64 0) (.int .i64 0) (.slice none 0 0) HCH.out)
    have y0 := block_cell A5 0
    have y1 := block_cell A5 1
    have y2 := block_cell A5 2
    have y3 := block_cell A5 3
    have y4 := block_cell A5 4
    have y5 := block_cell A5 5
    have y6 := block_cell A5 6
    have y7 := block_cell A5 7
    have y8 := block_cell A5 8
    have f0 := block_free A5 0
    have f1 := block_free A5 1
    have f2 := block_free A5 2
    have f3 := block_free A5 3
    have f4 := block_free A5 4
    have f5 := block_free A5 5
    have f6 := block_free A5 6
    have f7 := block_free A5 7
    have f8 := block_free A5 8
    have yl := block_lt A5
    simp [zP] at y0 y1 y2 y3 y4 y5 y6 y7 y8
    clear A5
    go_wp2
    obtain ⟨wf, hwf⟩ : ∃ wf, set9 w4 pb (.slice none 0 0) (.slice none 0 0) (.int .i64 0) (.int .i64 0) (.int .i64 0) (.int .i64 0) (.int .i64 0) (.int .i64 0) (.slice none 0 0) = wf := ⟨_, rfl⟩
    obtain ⟨hblk, hbw⟩ := HZB.out wf hwf
    have hcf := HCF.out wf hwf
    unfold set9 at hwf
    rw [hwf]
    clear hwf HZB HBW HCF HCH y0 y1 y2 y3 y4 y5 y6 y7 y8 f0 f1 f2 f3 f4 f5 f6 f7 f8 yl
    have c0 := block_cell hblk 0
    have c1 := block_cell hblk 1
    have c2 := block_cell hblk 2
    have c3 := block_cell hblk 3
    have c4 := block_cell hblk 4
    have c5 := block_cell hblk 5
    have c6 := block_cell hblk 6
    have c7 := block_cell hblk 7
    have c8 := block_cell hblk 8
    simp at c0 c1 c2 c3 c4 c5 c6 c7 c8
    have HE : Hid (Below W.heap.size W wf ∧ upF B = .error (fzO a y) ∧ Chain wf.heap.size wf (fzO a y).1 (.iface 74 (.pointer (some ⟨gf, 0, none⟩))) (fzO a y).2) := ⟨hbw, HNO.out, hcf⟩
    clear hcf
    refine bodyPost_ret (v := .tuple #[.agg #[.slice none 0 0, .slice none 0 0, .int .i64 0, .int .i64 0, .int .i64 0, .int .i64 0, .int .i64 0, .int .i64 0, .slice none 0 0], .iface 74 (.pointer (some ⟨gf, 0, none⟩))]) (by simp [results, Tryz.results20, go_sem, c0, c1, c2, c3, c4, c5, c6, c7, c8]) rfl ?_
    exact .inl ⟨_, _, rfl, HE⟩
   | ok k =>
    rw [hv] at hh
    obtain ⟨rfl, G⟩ := hh
    have A5 := (G.out.block _ (block_lt HA3.out)).trans HA3.out
    have A6 := (G.out.block _ (block_lt HA4.out)).trans HA4.out
    have HBW := hide (HB3.out.trans (G.out.mono HB3.out.size))
    have HPO5 := hide (HPO.out.next G.out)
    have HZB := hide (fun wf => zback (W := W) (wf := wf) A5 rfl HBW.out (by rw [HPB.out]; exact Nat.le_refl _) (.slice g.ca q.nc g.cc) (.slice g.sa q.ns g.sc) (.int .i64 (q.en 0)) (.int .i64 (q.en 1)) (.int .i64 (q.en 2)) (.int .i64 (q.en 3)) (.int .i64 (q.en 4)) (.int .i64 (q.en 5)) (.slice g.ia q.n g.ic))
    have HZO : Hid (∀ wf, set9 w4 pb (.slice g.ca q.nc g.cc) (.slice g.sa q.ns g.sc) (.int .i64 (q.en 0)) (.int .i64 (q.en 1)) (.int .i64 (q.en 2)) (.int .i64 (q.en 3)) (.int .i64 (q.en 4)) (.int .i64 (q.en 5)) (.slice g.ia q.n g.ic) = wf → Po W.heap.size g q wf) := hide (by
     intro wf e
     subst e
     exact (HPO5.out.off A5 (by decide) (by decide) (by decide) (set9_grown w4 pb _ _ _ _ _ _ _ _ _)).low HLE.out)
    have HVV := hide hv
    clear hv G HPO HA3 HA4 HB3 HL3 HLE HPO5
    have y0 := block_cell A5 0
    have y1 := block_cell A5 1
    have y2 := block_cell A5 2
    have y3 := block_cell A5 3
    have y4 := block_cell A5 4
    have y5 := block_cell A5 5
    have y6 := block_cell A5 6
    have y7 := block_cell A5 7
    have y8 := block_cell A5 8
    have f0 := block_free A5 0
    have f1 := block_free A5 1
    have f2 := block_free A5 2
    have f3 := block_free A5 3
    have f4 := block_free A5 4
    have f5 := block_free A5 5
    have f6 := block_free A5 6
    have f7 := block_free A5 7
    have f8 := block_free A5 8
    have yl := block_lt A5
    have t0 := block_cell A6 0
    have t1 := block_cell A6 1
    have t2 := block_cell A6 2
    have t3 := block_cell A6 3
    have t4 := block_cell A6 4
    have t5 := block_cell A6 5
    have t6 := block_cell A6 6
    have t7 := block_cell A6 7
    have t8 := block_cell A6 8
    have tl := block_lt A6
    simp [zP] at y0 y1 y2 y3 y4 y5 y6 y7 y8
    simp at t0 t1 t2 t3 t4 t5 t6 t7 t8
    clear A5 A6
    go_wp2
    obtain ⟨wf, hwf⟩ : ∃ wf, set9 w4 pb (.slice g.ca q.nc g.cc) (.slice g.sa q.ns g.sc) (.int .i64 (q.en 0)) (.int .i64 (q.en 1)) (.int .i64 (q.en 2)) (.int .i64 (q.en 3)) (.int .i64 (q.en 4)) (.int .i64 (q.en 5)) (.slice g.ia q.n g.ic) = wf := ⟨_, rfl⟩
    obtain ⟨hblk, hbw⟩ := HZB.out wf hwf
    have hpo := HZO.out wf hwf
    unfold set9 at hwf
    rw [hwf]
    clear hwf HZB HZO HBW y0 y1 y2 y3 y4 y5 y6 y7 y8 f0 f1 f2 f3 f4 f5 f6 f7 f8 yl t0 t1 t2 t3 t4 t5 t6 t7 t8 tl
    have c0 := block_cell hblk 0
    have c1 := block_cell hblk 1
    have c2 := block_cell hblk 2
    have c3 := block_cell hblk 3
    have c4 := block_cell hblk 4
    have c5 := block_cell hblk 5
    have c6 := block_cell hblk 6
    have c7 := block_cell hblk 7
    have c8 := block_cell hblk 8
    simp at c0 c1 c2 c3 c4 c5 c6 c7 c8
    have HE : Hid (Below W.heap.size W wf ∧ Po W.heap.size g q wf ∧ Pkw q ∧ upF B = .ok q) := ⟨hbw, hpo, HR.out.1, upF_ok HL8.out HR.out.2 HVV.out⟩
    refine bodyPost_ret (v := .tuple #[.agg (g.cs q).toArray, .nilIface]) (by simp [results, Tryz.results20, go_sem, Pg.cs, c0, c1, c2, c3, c4, c5, c6, c7, c8]) rfl ?_
    exact .inr ⟨q, g, rfl, HE⟩
end Go.Proofs.YtggpaljilpbmhaaGreatDoor
namespace Go.Proofs.YtggpaljilpbmhaaGreatDoor
open Go.RowKit Crc

theorem copy_sh {lim : Nat} {w : World} {ao : Option Addr} {n cap : Nat} {B : List Nat} (h : Shows lim w ao n cap B) (hlw : lim ≤ w.heap.size) :
  Calls Tryz.prog 132 #[.slice ao n cap] w fun e w' => ∃ v, e = .returned v ∧ Owns w.heap.size w' v B ∧ Below w.heap.size w w' := by
 obtain ⟨h1, h2, h3, h4, b, off, h5, h6, h7⟩ := h
 exact copy_walk b off ao B n cap w h5 h1 h3 h4 (fun h => Nat.lt_of_lt_of_le (h6 h) hlw) h7

set_option maxRecDepth 10000 in
set_option maxHeartbeats 800000 in
theorem refNew_any {lim : Nat} {w : World} {ao : Option Addr} {n cap : Nat} {B : List Nat} (h : Shows lim w ao n cap B) (hlw : lim ≤ w.heap.size) :
  Calls Tryz.prog 89 #[.slice ao n cap] w fun e w' => ∃ p d, e = .returned (.pointer (some ⟨p, 0, none⟩)) ∧ w.heap.size ≤ p ∧ w.heap.size ≤ d ∧ d ≤ p ∧ RefS d w' p ⟨true, 0, 0, B, 0, KR⟩ ∧ Below w.heap.size w w' := by
 have HCP := hide (copy_sh h hlw)
 clear h
 go_enter Tryz.func89, Tryz.ntmps89
 go_wp2_with fail
 refine HCP.out.mono ?_
 rintro e w1 ⟨v, rfl, hO, hb1⟩
 obtain ⟨a1, c1, rfl, hs1, ha⟩ := hO.form
 have HO := hide (And.intro hO (And.intro hs1 ha))
 have HB1 := hide hb1
 clear hO hs1 ha hb1
 generalize hbl : B.length = m at *
 go_wp2
 go_ret
 have hsz := HB1.out.size
 obtain ⟨hO, hs1, ha⟩ := HO.out
 have hbel : Below w.heap.size w (w1.alloc (.cells #[.bool true, .slice a1 m c1, .int .i64 0, .int .i64 0, .int .i64 0] 175 (0, 0))) := HB1.out.alloc hsz _
 have hg : w1.grownBy (w1.alloc (.cells #[.bool true, .slice a1 m c1, .int .i64 0, .int .i64 0, .int .i64 0] 175 (0, 0))) none := World.grownBy_alloc w1 _ none
 obtain ⟨h1, h2, h3, h4, b, off, h5, h6, h7⟩ := hs1
 rcases ha with ⟨rfl, rfl⟩ | ⟨g, rfl, hg1, hg2⟩
 ·have hm0 : m = 0 := by omega
  refine ⟨w1.heap.size, w1.heap.size, rfl, hsz, hsz, Nat.le_refl _, ⟨none, 0, ?_, ⟨by simp only; omega, .inr ⟨rfl, rfl, by simp only; omega⟩⟩, by simp only; omega, h4, by simp, fun h => by simp only at h; omega, fun h => by simp only at h; omega, fun i hi => by simp only at hi; omega⟩, hbel⟩
  simp only [hbl]
  exact heap_alloc_new w1 _
 ·refine ⟨w1.heap.size, g, rfl, hsz, hg1, Nat.le_of_lt hg2, ⟨some ⟨g, 0, none⟩, c1, ?_, ⟨by simp only; omega, .inl rfl⟩, by simp only; omega, h4, by simp, fun _ => rfl, fun _ => by omega, fun i hi => ?_⟩, hbel⟩
  ·simp only [hbl]
   exact heap_alloc_new w1 _
  ·simp only at hi
   have e := h5 (by omega)
   simp only [Option.some.injEq, Addr.mk.injEq, and_true] at e
   obtain ⟨rfl, rfl⟩ := e
   have h8 := h7 i (by omega)
   rw [Nat.zero_add] at h8
   exact hg.cell h8 (by simp)
end Go.Proofs.YtggpaljilpbmhaaGreatDoor
namespace Go.Proofs.YtggpaljilpbmhaaGreatDoor
open Go.RowKit

/-- The results' boxes, nothing laid down yet; what lay ahead stays. -/
structure Bx (W : World) (b0 : Nat) (w : World) : Prop where
 bel : Below W.heap.size W w
 a0 : w.heap[b0]? = some (.cells zP 27 (0, 0))
 a1 : w.heap[b0 + 1]? = some (.cells #[.slice none 0 0, .int .i64 0] 54 (0, 0))
 lo : W.heap.size ≤ b0
section
variable {W : World} {b0 ub rp pb : Nat} {w w' : World}
theorem Bx.three (h : Bx W b0 w) (hf : Fr3 ub rp pb w w') (h1 : b0 + 1 < ub) (h2 : b0 + 1 < rp) (h3 : b0 + 1 < pb) : Bx W b0 w' := by
 have := h.lo
 refine ⟨⟨hf.os.trans h.bel.os, hf.tape.trans h.bel.tape, hf.output.trans h.bel.output, Nat.le_trans h.bel.size hf.size, fun k hk => (hf.block k (Nat.lt_of_lt_of_le hk h.bel.size) (by omega) (by omega) (by omega)).trans (h.bel.block k hk)⟩, (hf.block _ (block_lt h.a0) (by omega) (by omega) (by omega)).trans h.a0, (hf.block _ (block_lt h.a1) (by omega) (by omega) (by omega)).trans h.a1, h.lo⟩
theorem Bx.two (h : Bx W b0 w) (hf : Fr2 ub rp w w') (h1 : b0 + 1 < ub) (h2 : b0 + 1 < rp) : Bx W b0 w' := h.three (pb := ub) (Fr3.two hf) h1 h2 h1
theorem Bx.next (h : Bx W b0 w) (hb : Below w.heap.size w w') : Bx W b0 w' :=
 ⟨h.bel.trans (hb.mono h.bel.size), (hb.block _ (block_lt h.a0)).trans h.a0, (hb.block _ (block_lt h.a1)).trans h.a1, h.lo⟩
/-- The results are laid down. -/
theorem Bx.fin (h : Bx W b0 w) {v0 v1 v2 v3 v4 v5 v6 v7 v8 f0 f1 : Value} {w1 wf : World} (e1 : set9 w b0 v0 v1 v2 v3 v4 v5 v6 v7 v8 = w1) (e2 : (w1.setCell ⟨b0 + 1, 0, none⟩ f0).setCell ⟨b0 + 1, 1, none⟩ f1 = wf) :
  w1.heap[b0]? = some (.cells #[v0, v1, v2, v3, v4, v5, v6, v7, v8] 27 (0, 0)) ∧ w1.heap[b0 + 1]? = some (.cells #[.slice none 0 0, .int .i64 0] 54 (0, 0)) ∧ w.grownBy w1 (some b0) ∧
  wf.heap[b0]? = some (.cells #[v0, v1, v2, v3, v4, v5, v6, v7, v8] 27 (0, 0)) ∧ wf.heap[b0 + 1]? = some (.cells #[f0, f1] 54 (0, 0)) ∧ w1.grownBy wf (some (b0 + 1)) ∧ Below W.heap.size W wf := by
 obtain ⟨s, G⟩ := set9_blk h.a0 rfl v0 v1 v2 v3 v4 v5 v6 v7 v8
 rw [e1] at s G
 have t := (G.block _ (block_lt h.a1) (by simp)).trans h.a1
 have s1 := heap_setCell_same w1 (b0 + 1) 0 _ _ f0 t
 simp only [List.setIfInBounds_toArray, List.set_cons_zero] at s1
 have s2 := heap_setCell_same _ (b0 + 1) 1 _ _ f1 s1
 have G2 := grown_trans (row := some (b0 + 1)) (grown_set w1 (b0 + 1) 0 f0) (grown_set (w1.setCell ⟨b0 + 1, 0, none⟩ f0) (b0 + 1) 1 f1)
 rw [e2] at s2 G2
 have hlo := h.lo
 have B1 := h.bel.grown G h.bel.size (fun x e => by cases e; exact hlo)
 exact ⟨s, t, G, (G2.block _ (block_lt s) (by simp)).trans s, by simpa using s2, G2, B1.grown G2 B1.size (fun x e => by cases e; omega)⟩
end
theorem flt_noS (ao : Option Addr) (n c : Nat) (y : Int) (j : Nat) (x : ByteArray) : (#[.slice ao n c, .int .i64 y] : Array Value)[j]? ≠ some (Value.string x) := by
 match j with
 | 0 => simp
 | 1 => simp
 | j + 2 => simp
/-- What the reference's Unpack answers. -/
def UpQ (W : World) (B : List Nat) (e : Ending) (w' : World) : Prop :=
 (∃ (f : Fz) (ao : Option Addr) (cap : Nat), e = .returned (.tuple #[.agg zP, .agg #[.slice ao f.1.length cap, .int .i64 f.2]]) ∧ Hid (Below W.heap.size W w' ∧ upF B = .error f ∧ f.2 ≠ 0 ∧ ∃ b off, FV w'.heap.size w' ao f.1 b off)) ∨
 (∃ (q : Pv) (gq : Pg), e = .returned (.tuple #[.agg (gq.cs q).toArray, .agg #[.slice none 0 0, .int .i64 0]]) ∧ Hid (Below W.heap.size W w' ∧ Po W.heap.size gq q w' ∧ Pkw q ∧ upF B = .ok q))
theorem cnt4_math {B : List Nat} {q : Pv} {pos n : Nat} (hB : ∀ x ∈ B, x < 256) (h : X3 B q 6 pos) (hn : n = (countAt (B.drop pos) 1024).1) : Sg (fun p => X4 B (setN q n) 0 p) B (rdR B (fun L => (countAt L 1024).2.1) (fun L => (countAt L 1024).2.2) (.ok pos)) := by
 subst hn
 show Sg _ B (if (countAt (B.drop pos) 1024).2.2 = 0 then _ else _)
 by_cases hw : (countAt (B.drop pos) 1024).2.2 = 0
 ·rw [if_pos hw]; exact .inr ⟨_, rfl, X4.start h hB hw⟩
 ·rw [if_neg hw]; exact .inl ⟨_, rfl, h.cno hw⟩
/-- An operation was read, and it may be or not. -/
theorem op4_math {B : List Nat} {q : Pv} {j pos o : Nat} (h : X4 B q j pos) (hj : j < q.n) (ho : o = hi (aheadV (B.drop pos) 1)) {c : Bool} (hc : c = isO (o : Nat)) :
  (∃ z, wantR c 83 pos (rdR B (fun _ => 1) (fun L => aheadW L 1) (.ok pos)) = .error z ∧ upR B = .error z) ∨ (wantR c 83 pos (rdR B (fun _ => 1) (fun L => aheadW L 1) (.ok pos)) = .ok (pos + 1) ∧ aheadW (B.drop pos) 1 = 0 ∧ isO (o : Nat) = true) := by
 show (∃ z, wantR c 83 pos (if aheadW (B.drop pos) 1 = 0 then .ok (pos + 1) else .error (fzW pos (aheadW (B.drop pos) 1))) = .error z ∧ _) ∨ (wantR c 83 pos (if aheadW (B.drop pos) 1 = 0 then .ok (pos + 1) else .error (fzW pos (aheadW (B.drop pos) 1))) = _ ∧ _)
 subst hc
 by_cases hw : aheadW (B.drop pos) 1 = 0
 ·rw [if_pos hw]
  cases hio : isO (o : Nat) with
  | true => exact .inr ⟨rfl, hw, rfl⟩
  | false =>
   refine .inl ⟨_, rfl, ?_⟩
   have h1 : (inR (B.drop pos)).2.2.2 ≠ 0 := by
    unfold inR
    simp only
    rw [if_pos hw, ← ho, if_neg (by rw [hio]; decide)]
    decide
   rw [h.fail hj h1]
   unfold fzI
   rw [if_pos hw, ← ho, if_neg (by rw [hio]; decide)]
 ·rw [if_neg hw]
  refine .inl ⟨_, rfl, ?_⟩
  have h1 : (inR (B.drop pos)).2.2.2 ≠ 0 := by
   unfold inR
   simp only
   rw [if_neg hw]
   exact hw
  rw [h.fail hj h1]
  unfold fzI
  rw [if_neg hw]
theorem ins4_plain {B : List Nat} {q : Pv} {j pos o : Nat} (hB : ∀ x ∈ B, x < 256) (h : X4 B q j pos) (hj : j < q.n) (ho : o = hi (aheadV (B.drop pos) 1)) (hw : aheadW (B.drop pos) 1 = 0) (hio : isO (o : Nat) = true) (hf : fArg o = 0) : X4 B (setI q j (o : Nat) (0 : Nat)) (j + 1) (pos + 1) := by
 have e : inR (B.drop pos) = (o, 0, 1, 0) := by
  unfold inR
  rw [← ho, if_pos hf, if_pos hf, if_pos hw, if_pos hio, if_pos hf]
 have := h.step hB hj (by rw [e])
 rw [e] at this
 exact this
theorem ins4_arg {B : List Nat} {q : Pv} {j pos o v : Nat} (hB : ∀ x ∈ B, x < 256) (h : X4 B q j pos) (hj : j < q.n) (ho : o = hi (aheadV (B.drop pos) 1)) (hw : aheadW (B.drop pos) 1 = 0) (hio : isO (o : Nat) = true) (hf : fArg o ≠ 0) (hv : ∀ p, (.ok (pos + 1) : Except Fz Nat) = .ok p → plW 1023 (numAt (B.drop p)) = 0 → v = (numAt (B.drop p)).1) :
  Sg (fun p => X4 B (setI q j (o : Nat) (v : Nat)) (j + 1) p) B (mostR 1023 84 B (.ok (pos + 1))) := by
 show Sg _ B (if plW 1023 (numAt (B.drop (pos + 1))) = 0 then _ else _)
 have e : inR (B.drop pos) = (o, (numAt (B.drop (pos + 1))).1, 1 + (numAt (B.drop (pos + 1))).2.1, plW 1023 (numAt (B.drop (pos + 1)))) := by
  unfold inR
  rw [← ho, if_neg hf, if_neg hf, if_pos hw, if_pos hio, if_neg hf, List.drop_drop]
 by_cases hp : plW 1023 (numAt (B.drop (pos + 1))) = 0
 ·rw [if_pos hp]
  have hv := hv _ rfl hp
  have := h.step hB hj (by rw [e]; exact hp)
  rw [e] at this
  rw [hv]
  exact .inr ⟨_, rfl, by rw [Nat.add_assoc]; exact this⟩
 ·rw [if_neg hp]
  refine .inl ⟨_, rfl, ?_⟩
  rw [h.fail hj (by rw [e]; exact hp)]
  unfold fzI
  rw [if_pos hw, ← ho, if_pos hio, List.drop_drop]
section
variable {W : World} {Ra Rb Rc d rp ub pb lim : Nat} {B : List Nat} {r : Except Fz Nat} {va vb vc : Value} {ja jb jc : Nat} {xa xb xc : List Value} {en : Nat → Int} {w w' : World}
/-- A box of its own was turned. -/
theorem Vh.box (h : Vh W Ra Rb Rc d rp ub pb lim B r va vb vc ja jb jc xa xb xc en w) {q : Nat} {cs : Array Value} {t : TypeId} (hg : w.grownBy w' (some q)) (hq : w.heap[q]? = some (.cells cs t (0, 0))) (hs : ∀ (j : Nat) (x : ByteArray), cs[j]? ≠ some (Value.string x)) (hW : W.heap.size ≤ q) (ha : va.ownBlock ≠ some q) (hb : vb.ownBlock ≠ some q) (hc : vc.ownBlock ≠ some q) : Vh W Ra Rb Rc d rp ub pb lim B r va vb vc ja jb jc xa xb xc en w' := by
 obtain ⟨l1, l2, l3, l4⟩ := h.lo
 exact ⟨(hg.block _ (block_lt h.pc) (by simp; omega)).trans h.pc, h.us.offP hg (by omega) (by omega) (by omega) hq hs, h.qa.kept hg (.inr ha), h.qb.kept hg (.inr hb), h.qc.kept hg (.inr hc), h.fr.far hg (fun g e => by cases e; exact hW), h.lo, h.ne, h.ra⟩
end
theorem two_noS (o a : Int) (j : Nat) (x : ByteArray) : (#[.int .i64 o, .int .i64 a] : Array Value)[j]? ≠ some (Value.string x) := by
 match j with
 | 0 => simp
 | 1 => simp
 | j + 2 => simp
end Go.Proofs.YtggpaljilpbmhaaGreatDoor
namespace Go.Proofs.YtggpaljilpbmhaaGreatDoor
open Go.RowKit Crc

set_option maxRecDepth 10000 in
set_option maxHeartbeats 400000 in
theorem sameB_walk (b1 o1 b2 o2 : Nat) (a1 a2 : Option Addr) (B : List Nat) (n c1 c2 : Nat) (w : World) (hl : n ≤ 140737488355328) (h1 : 0 < n → a1 = some ⟨b1, o1, none⟩) (h2 : 0 < n → a2 = some ⟨b2, o2, none⟩)
 (k1 : ∀ i, i < n → w.cell? ⟨b1, o1 + i, none⟩ = some (.int .u8 ((B.getD i 0 : Nat) : Int))) (k2 : ∀ i, i < n → w.cell? ⟨b2, o2 + i, none⟩ = some (.int .u8 ((B.getD i 0 : Nat) : Int))) :
  Calls Tryz.prog 16 #[.slice a1 n c1, .slice a2 n c2] w fun e w' => e = .returned (.bool true) ∧ ∃ q, w' = w.drewN q := by
 have H1 : Hid (0 < n → a1 = some ⟨b1, o1, none⟩) := h1
 have H2 : Hid (0 < n → a2 = some ⟨b2, o2, none⟩) := h2
 have K1 : Hid (∀ i, i < n → w.cell? ⟨b1, o1 + i, none⟩ = some (.int .u8 ((B.getD i 0 : Nat) : Int))) := k1
 have K2 : Hid (∀ i, i < n → w.cell? ⟨b2, o2 + i, none⟩ = some (.int .u8 ((B.getD i 0 : Nat) : Int))) := k2
 clear h1 h2 k1 k2
 go_enter Tryz.func16, Tryz.ntmps16
 go_wp2
 go_loopw [5] (fun i wr => ∃ k q : Nat, k ≤ n ∧ i = .int .i64 k ∧ wr = w.drewN q) (fun i _ => n - (intOf i).toNat)
 case atStart => exact ⟨0, 0, by omega, rfl, rfl⟩
 case round =>
  obtain ⟨k, q, hk, rfl, rfl⟩ := hrel
  by_cases hlt : k < n
  ·obtain rfl := H1.out (by omega)
   obtain rfl := H2.out (by omega)
   have g1 := K1.out k hlt
   have g2 := K2.out k hlt
   generalize B.getD k 0 = c at *
   go_wp2
   go_quiet (fail)
   go_wp2
   go_roundw
   case rel => exact ⟨k + 1, _, by omega, by go_num, rfl⟩
   case measure => simp [intOf]; omega
  ·go_wp2
   go_ret
   exact ⟨rfl, q, rfl⟩
theorem sameB_any {l1 l2 : Nat} {a1 a2 : Option Addr} {B : List Nat} {n1 n2 c1 c2 : Nat} {w : World} (h1 : Shows l1 w a1 n1 c1 B) (h2 : Shows l2 w a2 n2 c2 B) :
  Calls Tryz.prog 16 #[.slice a1 n1 c1, .slice a2 n2 c2] w fun e w' => e = .returned (.bool true) ∧ ∃ q, w' = w.drewN q := by
 obtain ⟨p1, _, p3, _, b, off, p5, _, p7⟩ := h1
 obtain ⟨q1, _, _, _, b', off', q5, _, q7⟩ := h2
 obtain rfl : n1 = n2 := by omega
 exact sameB_walk b off b' off' a1 a2 B n1 c1 c2 w p3 p5 q5 p7 q7
end Go.Proofs.YtggpaljilpbmhaaGreatDoor
