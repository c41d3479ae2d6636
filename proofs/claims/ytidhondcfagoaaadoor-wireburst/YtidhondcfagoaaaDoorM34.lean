import Derived.Test.YtidhondcfagoaaaDoorM33
import Derived.Test.YtidhondcfagoaaaDoorM9
import Derived.Test.YtidhondcfagoaaaDoorM16
import Derived.Test.YtidhondcfagoaaaDoorM17
namespace Go.Proofs.YtidhondcfagoaaaDoor
open Go.RowKit Crc

theorem cell_req_new (W : World) (x y z : Value) (t : TypeId) : ∀ (j : Nat) (u : Value), [x, y, z][j]? = some u → (W.alloc (.cells #[x, y, z] t)).cell? (Addr.add ⟨W.heap.size, 0, none⟩ j) = some u := by
  intro j u hu
  have := World.cell?_alloc_new W #[x, y, z] t j
  have he : Addr.add ⟨W.heap.size, 0, none⟩ j = ⟨W.heap.size, j, none⟩ := by
    simp only [Addr.add]
    split <;> simp_all
  rw [he, this]
  simpa using hu

theorem fin_copy {w wr : World} {v : Value} {rs rs1 : List Rq} {cs : Array Value} (hn : ∀ r ∈ rs1, r.num) (h : OwnRs (w.heap.size + 3) wr v rs1) (hl : LentRs wr rs1) (hv : rs1.map Rq.val = rs.map Rq.val) (hb : wr.heap[w.heap.size + 1]? = some (.cells cs 41 (0, 0))) (hbw : Below w.heap.size w wr) (x y : Value) :
    OwnRs w.heap.size ((wr.setCell ⟨w.heap.size + 1, 0, none⟩ x).setCell ⟨w.heap.size + 1, 1, none⟩ y) v rs1 ∧ rs1.map Rq.val = rs.map Rq.val ∧ LentRs ((wr.setCell ⟨w.heap.size + 1, 0, none⟩ x).setCell ⟨w.heap.size + 1, 1, none⟩ y) rs1 ∧ (∀ r ∈ rs1, ∀ b off, r.co = some ⟨b, off, none⟩ → b < ((wr.setCell ⟨w.heap.size + 1, 0, none⟩ x).setCell ⟨w.heap.size + 1, 1, none⟩ y).heap.size) ∧ Below w.heap.size w ((wr.setCell ⟨w.heap.size + 1, 0, none⟩ x).setCell ⟨w.heap.size + 1, 1, none⟩ y) := by
  have hne : v.ownBlock ≠ some (w.heap.size + 1) := fun e => by have := (h.row.lt _ e).1; omega
  have r2 := (h.row.kept (grown_set wr (w.heap.size + 1) 0 x) (.inr hne)).kept (grown_set _ (w.heap.size + 1) 1 y) (.inr hne)
  have hb2 := heap_setCell_same wr (w.heap.size + 1) 0 _ _ x hb
  have l2 := (hl.next (grown_set wr (w.heap.size + 1) 0 x) (fun gc n C hL => lent_ne_cells hL hb (by decide))).next (grown_set _ (w.heap.size + 1) 1 y) (fun gc n C hL => lent_ne_cells hL hb2 (by decide))
  obtain ⟨o1, o2⟩ := l2.ok hn
  refine ⟨⟨⟨r2.1, ?_⟩, o1, h.le⟩, hv, l2, o2, (hbw.setCell (p := ⟨w.heap.size + 1, 0, none⟩) (by simp) _).setCell (p := ⟨w.heap.size + 1, 1, none⟩) (by simp) _⟩
  rcases r2.2 with h0 | ⟨g, cap, cur, h1, h2, h3⟩
  · exact .inl h0
  · exact .inr ⟨g, cap, cur, h1, by omega, h3⟩

end Go.Proofs.YtidhondcfagoaaaDoor
namespace Go.Proofs.YtidhondcfagoaaaDoor
open Go.RowKit Crc

/-- A fault noted from outside. -/
def RS.failP (s : RS) (a y : Int) : RS := if s.sound then { s with place := a, why := y } else s

set_option maxRecDepth 10000 in
set_option maxHeartbeats 800000 in
theorem failP_any (lim p : Nat) (s : RS) (a y : Int) (w : World) (hR : RdS lim w p s) :
    Calls Tryd.prog 61 #[.pointer (some ⟨p, 0, none⟩), .int .i64 a, .int .i64 y] w fun e w' => e = .returned (.tuple #[]) ∧ RdS lim w' p (s.failP a y) ∧ w.grownBy w' (some p) := by
  have HRR := hide hR
  obtain ⟨made, place, why0, B, pos, K⟩ := s
  obtain ⟨ao, cap, hb, hS, hp, hl⟩ := hR
  simp only at hb hS hp hl
  have c0 := block_cell hb 0
  have c1 := block_cell hb 1
  have c2 := block_cell hb 2
  have f1 := block_free hb 1
  have f2 := block_free hb 2
  simp at c0 c1 c2
  by_cases hd : made = true ∧ why0 = 0
  · obtain ⟨rfl, rfl⟩ := hd
    refine (fail_sound p place a y w c0 c1 c2 f1 f2).mono ?_
    rintro e w' ⟨rfl, rfl⟩
    refine ⟨rfl, ?_, grown_trans (row := some p) (grown_set _ _ _ _) (grown_set _ _ _ _)⟩
    rw [show RS.failP ⟨true, place, 0, B, pos, K⟩ a y = ⟨true, a, y, B, pos, K⟩ by simp [RS.failP, RS.sound]]
    have hb1 : (w.setCell ⟨p, 1, none⟩ (.int .i64 a)).heap[p]? = some (.cells (List.toArray (.bool true :: .int .i64 a :: .int .i64 0 :: .slice ao B.length cap :: .int .i64 (pos : Int) :: K.R)) K.t (0, 0)) := by
      rw [heap_setCell_same w p 1 _ _ _ hb]; simp
    refine ⟨ao, cap, ?_, ?_, hp, hl⟩
    · rw [heap_setCell_same _ p 2 _ _ _ hb1]; simp
    · exact (hS.kept (grown_set _ _ _ _) (fun g hg => by cases hg; exact hl)).kept (grown_set _ _ _ _) (fun g hg => by cases hg; exact hl)
  · have hsb : (made && (why0 == 0)) = false := by
      cases made
      · rfl
      · simp at hd; simp [hd]
    have HSD := hide (sound_any p made why0 w c0 c2)
    rw [hsb] at HSD
    have HF : Hid (RS.failP ⟨made, place, why0, B, pos, K⟩ a y = ⟨made, place, why0, B, pos, K⟩) := if_neg hd
    clear hb hS hp hl hd hsb c0 c1 c2 f1 f2
    go_enter Tryd.func61, Tryd.ntmps61
    go_wp2_with fail
    refine HSD.out.mono ?_
    rintro e w1 ⟨rfl, rfl⟩
    go_wp2
    go_end0
    refine ⟨rfl, ?_, rfl, rfl, rfl, Nat.le_refl _, fun _ _ _ => rfl⟩
    rw [HF.out]
    exact HRR.out

def bndY (n least most : Nat) : Int := if n < least ∨ most < n then 29 else 0
set_option maxRecDepth 10000 in
theorem boundFault_any (n least most : Nat) (w : World) :
    Calls Tryd.prog 73 #[.int .u64 (n : Int), .int .u64 (least : Int), .int .u64 (most : Int)] w fun e w' => e = .returned (.int .i64 (bndY n least most)) ∧ w' = w := by
  by_cases h1 : n < least
  · have d1 : decide ((n : Int) < (least : Int)) = true := by simp; omega
    have HY : Hid (bndY n least most = 29) := if_pos (.inl h1)
    rw [HY.out]
    go_enter Tryd.func73, Tryd.ntmps73
    go_wp2
    go_ret
    exact ⟨rfl, rfl⟩
  · have d1 : decide ((n : Int) < (least : Int)) = false := by simp; omega
    by_cases h2 : most < n
    · have d2 : decide ((most : Int) < (n : Int)) = true := by simp; omega
      have HY : Hid (bndY n least most = 29) := if_pos (.inr h2)
      rw [HY.out]
      go_enter Tryd.func73, Tryd.ntmps73
      go_wp2
      go_ret
      exact ⟨rfl, rfl⟩
    · have d2 : decide ((most : Int) < (n : Int)) = false := by simp; omega
      have HY : Hid (bndY n least most = 0) := if_neg (by omega)
      rw [HY.out]
      go_enter Tryd.func73, Tryd.ntmps73
      go_wp2
      go_ret
      exact ⟨rfl, rfl⟩

def rdNum (s : RS) : RS := s.step (numAt s.rest).2.1 (numAt s.rest).2.2
def rdBound (s : RS) (least most : Nat) : RS := if bndY (numAt s.rest).1 least most = 0 then rdNum s else (rdNum s).failP s.pos 29

set_option maxRecDepth 10000 in
set_option maxHeartbeats 800000 in
theorem readBound_any (lim p : Nat) (s : RS) (least most : Nat) (w : World) (hR : RdS lim w p s) :
    Calls Tryd.prog 62 #[.pointer (some ⟨p, 0, none⟩), .int .u64 (least : Int), .int .u64 (most : Int)] w fun e w' => e = .returned (.int .u64 ((numAt s.rest).1 : Nat)) ∧ Hid (RdS lim w' p (rdBound s least most) ∧ w.grownBy w' (some p)) := by
  have HAT := hide (rAt_any lim p s w hR)
  have HNM : Hid (Calls Tryd.prog 65 #[.pointer (some ⟨p, 0, none⟩)] w fun e w' => e = .returned (.int .u64 ((numAt s.rest).1 : Nat)) ∧ Hid (RdS lim w' p (rdNum s) ∧ w.grownBy w' (some p))) := (rNum_any lim p s w hR).mono (fun _ _ h => ⟨h.1, h.2⟩)
  have HBF := hide (boundFault_any (numAt s.rest).1 least most)
  have HFP : Hid (∀ w', RdS lim w' p (rdNum s) → Calls Tryd.prog 61 #[.pointer (some ⟨p, 0, none⟩), .int .i64 (s.pos : Int), .int .i64 29] w' fun e w2 => e = .returned (.tuple #[]) ∧ Hid (RdS lim w2 p ((rdNum s).failP s.pos 29) ∧ w'.grownBy w2 (some p))) := fun w' h => (failP_any lim p (rdNum s) s.pos 29 w' h).mono (fun _ _ h => ⟨h.1, h.2⟩)
  clear hR
  by_cases hy : bndY (numAt s.rest).1 least most = 0
  · have HE : Hid (rdBound s least most = rdNum s) := if_pos hy
    rw [hy] at HBF
    rw [HE.out]
    generalize (numAt s.rest).1 = n at *
    clear hy
    go_enter Tryd.func62, Tryd.ntmps62
    go_wp2_with fail
    refine HAT.out.mono ?_
    rintro e w1 ⟨rfl, rfl⟩
    go_wp2_with fail
    refine HNM.out.mono ?_
    rintro e w2 ⟨rfl, H2⟩
    go_wp2_with fail
    refine (HBF.out _).mono ?_
    rintro e w3 ⟨rfl, rfl⟩
    go_wp2
    go_ret
    exact ⟨rfl, H2⟩
  · have HE : Hid (rdBound s least most = (rdNum s).failP s.pos 29) := if_neg hy
    have h29 : bndY (numAt s.rest).1 least most = 29 := by
      unfold bndY at hy ⊢
      by_cases h : (numAt s.rest).1 < least ∨ most < (numAt s.rest).1
      · rw [if_pos h]
      · rw [if_neg h] at hy; exact absurd rfl hy
    rw [h29] at HBF
    rw [HE.out]
    generalize (numAt s.rest).1 = n at *
    clear hy h29
    go_enter Tryd.func62, Tryd.ntmps62
    go_wp2_with fail
    refine HAT.out.mono ?_
    rintro e w1 ⟨rfl, rfl⟩
    go_wp2_with fail
    refine HNM.out.mono ?_
    rintro e w2 ⟨rfl, H2⟩
    go_wp2_with fail
    refine (HBF.out _).mono ?_
    rintro e w3 ⟨rfl, rfl⟩
    go_wp2_with fail
    refine (HFP.out _ H2.out.1).mono ?_
    rintro e w4 ⟨rfl, H4⟩
    go_wp2
    go_ret
    exact ⟨rfl, H4.out.1, grown_trans (row := some p) H2.out.2 H4.out.2⟩
end Go.Proofs.YtidhondcfagoaaaDoor
