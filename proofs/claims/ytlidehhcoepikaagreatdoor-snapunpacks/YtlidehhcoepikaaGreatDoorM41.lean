import Derived.Test.YtlidehhcoepikaaGreatDoorM18
import Derived.Test.YtlidehhcoepikaaGreatDoorM9
import Derived.Test.YtlidehhcoepikaaGreatDoorNRlS
import Derived.Test.YtlidehhcoepikaaGreatDoorNUn
namespace Go.Proofs.YtlidehhcoepikaaGreatDoor
open Go.RowKit Crc

/-- The reference's reader and a struct that is being filled. -/
structure Dr (d p : Nat) (w : World) (q : Nat) (T : TypeId) (s : RS) (cs : Array Value) (W : World) : Prop where
  rd : RefS d W p s
  gr : w.grownBy W (some p)
  box : W.heap[q]? = some (.cells cs T (0, 0))
theorem grown_self (w : World) (row : Option Nat) : w.grownBy w row := ⟨rfl, rfl, rfl, Nat.le_refl _, fun _ _ _ => rfl⟩
theorem grown_noneN {a b : World} (h : a.grownBy b none) (row : Option Nat) : a.grownBy b row := ⟨h.os, h.tape, h.output, h.size, fun k hk _ => h.block k hk (by simp)⟩
theorem RefS.quiet {d p : Nat} {w w' : World} {s : RS} (h : RefS d w p s) (hg : w.grownBy w' none) : RefS d w' p s := h.kept hg (by simp) (by simp)
/-- Behind writes into newer memory the old is as it was. -/
theorem grown_new {w W W' : World} {p q : Nat} (h : w.grownBy W (some p)) (hg : W.grownBy W' (some q)) (hq : w.heap.size ≤ q) : w.grownBy W' (some p) :=
  ⟨hg.os.trans h.os, hg.tape.trans h.tape, hg.output.trans h.output, Nat.le_trans h.size hg.size, fun k hk hr => (hg.block k (Nat.lt_of_lt_of_le hk h.size) (by simp; omega)).trans (h.block k hk hr)⟩
theorem Dr.start {d p : Nat} {w : World} {s : RS} (h : RefS d w p s) (cs : Array Value) (T : TypeId) : Dr d p w w.heap.size T s cs (w.alloc (.cells cs T)) := ⟨h.quiet (World.grownBy_alloc _ _ none), World.grownBy_alloc _ _ _, alloc_atN _ _⟩
theorem Dr.set {d p : Nat} {w : World} {q : Nat} {T : TypeId} {s : RS} {cs : Array Value} {W : World} (h : Dr d p w q T s cs W) (hd : d < w.heap.size) (hp : p < w.heap.size) (hq : w.heap.size ≤ q) (j : Nat) (v : Value) : Dr d p w q T s (cs.setIfInBounds j v) (W.setCell ⟨q, j, none⟩ v) :=
  ⟨h.rd.kept (grown_set _ _ _ _) (by simp; omega) (by simp; omega), grown_new h.gr (grown_set _ _ _ _) hq, heap_setCell_same W q j _ _ v h.box⟩
theorem Dr.read {d p : Nat} {w : World} {q : Nat} {T : TypeId} {s s' : RS} {cs : Array Value} {W W' : World} (h : Dr d p w q T s cs W) (hp : p < w.heap.size) (hq : w.heap.size ≤ q) (hr : RefS d W' p s') (hg : W.grownBy W' (some p)) : Dr d p w q T s' cs W' :=
  ⟨hr, grown_trans (row := some p) h.gr hg, (hg.block _ (block_lt h.box) (by simp; omega)).trans h.box⟩
theorem num_dr {d p : Nat} {w : World} {q : Nat} {T : TypeId} {s : RS} {cs : Array Value} {W : World} (hp : p < w.heap.size) (hq : w.heap.size ≤ q) (h : Dr d p w q T s cs W) : Calls Tryz.prog 42 #[.pointer (some ⟨p, 0, none⟩)] W fun e w' => e = .returned (.int .u64 (nV s : Nat)) ∧ Hid (Dr d p w q T (nS s) cs w') :=
  (refNum_any d p s W h.rd).mono fun _ _ ⟨a, b, c⟩ => ⟨a, h.read hp hq b c⟩
theorem oct_dr {d p : Nat} {w : World} {q : Nat} {T : TypeId} {s : RS} {cs : Array Value} {W : World} (hp : p < w.heap.size) (hq : w.heap.size ≤ q) (h : Dr d p w q T s cs W) : Calls Tryz.prog 40 #[.pointer (some ⟨p, 0, none⟩), .int .i64 1] W fun e w' => e = .returned (.int .u64 (oV s : Nat)) ∧ Hid (Dr d p w q T (oS s) cs w') :=
  (refFixed_any d p s 1 1 W rfl (by omega) (by omega) h.rd).mono fun _ _ ⟨a, b, c⟩ => ⟨a, h.read hp hq b c⟩
theorem cnt_dr {d p : Nat} {w : World} {q : Nat} {T : TypeId} {s : RS} {cs : Array Value} {W : World} (hp : p < w.heap.size) (hq : w.heap.size ≤ q) (h : Dr d p w q T s cs W) (m : Int) (h1 : -9223372036854775808 ≤ m) (h2 : m < 9223372036854775808) : Calls Tryz.prog 44 #[.pointer (some ⟨p, 0, none⟩), .int .i64 m] W fun e w' => e = .returned (.int .i64 (cV s m : Nat)) ∧ Hid (Dr d p w q T (cS s m) cs w' ∧ W.grownBy w' (some p)) :=
  (refCount_any d p s m W h.rd h1 h2).mono fun _ _ ⟨a, b, c⟩ => ⟨a, h.read hp hq b c, c⟩
theorem blob_dr {d p : Nat} {w : World} {q : Nat} {T : TypeId} {s : RS} {cs : Array Value} {W : World} (hp : p < w.heap.size) (hq : w.heap.size ≤ q) (h : Dr d p w q T s cs W) (m : Int) (h1 : -9223372036854775808 ≤ m) (h2 : m < 9223372036854775808) : Calls Tryz.prog 85 #[.pointer (some ⟨p, 0, none⟩), .int .i64 m] W fun e w' => ∃ ao n cap, e = .returned (.slice ao n cap) ∧ n = (bV s m).length ∧ Hid (Owns W.heap.size w' (.slice ao n cap) (bV s m) ∧ Dr d p w q T (bS s m) cs w') :=
  (refBlob_any d p s m W h.rd h1 h2).mono fun _ _ ⟨v, a, o, b, c⟩ => by
    obtain ⟨ao, cap, e, -⟩ := o.form
    subst e
    exact ⟨ao, _, cap, a, rfl, o, h.read hp hq b c⟩
theorem RefS.small {d p : Nat} {w : World} {s : RS} (h : RefS d w p s) : ∀ x ∈ s.rest, x < 256 := by
  obtain ⟨ao, cap, hb, h1, h2, h3, h4, h5, h6, h7⟩ := h
  intro x hx
  unfold RS.rest restB at hx
  split at hx
  · first | exact h2 x (List.mem_of_mem_drop hx) | exact h3 x (List.mem_of_mem_drop hx) | exact h1 x (List.mem_of_mem_drop hx) | exact h5 x (List.mem_of_mem_drop hx) | exact h6 x (List.mem_of_mem_drop hx) | exact h7 x (List.mem_of_mem_drop hx)
  · cases hx
theorem RefS.oct {d p : Nat} {w : World} {s : RS} (h : RefS d w p s) : oV s < 256 := hi_take_lt (k := 1) h.small

/-- A list that grows in a field of a struct. -/
structure Lr {α : Type} (d p : Nat) (w : World) (q : Nat) (T : TypeId) (C : Value → Array Value) (e : TypeId) (z : Nat) (f : α → List Value) (O : World → Prop) (s : RS) (L : List α) (v : Value) (W : World) : Prop where
  dr : Dr d p w q T s (C v) W
  row : Rw (q + 1) W e z f v L
  oth : O W
/-- What else is to stay: under writes at the reader, at the struct, at a row of that type. -/
def Stays (p q : Nat) (e : TypeId) (O : World → Prop) : Prop := ∀ (W W' : World) (row : Option Nat), O W → W.grownBy W' row → (row = none ∨ row = some p ∨ row = some q ∨ ∃ g cur, row = some g ∧ W.heap[g]? = some (.cells cur e (0, 0))) → O W'
theorem Rw.block {α : Type} {base : Nat} {w : World} {e : TypeId} {z : Nat} {f : α → List Value} {v : Value} {L : List α} (h : Rw base w e z f v L) : v.ownBlock = none ∨ ∃ g cur, v.ownBlock = some g ∧ w.heap[g]? = some (.cells cur e (0, 0)) := by
  rcases h.2 with ⟨rfl, _⟩ | ⟨g, cap, cur, rfl, _, hg, _⟩
  · exact .inl rfl
  · exact .inr ⟨g, cur, rfl, hg⟩
theorem Lr.next {α : Type} {d p : Nat} {w : World} {q : Nat} {T : TypeId} {C : Value → Array Value} {e : TypeId} {z : Nat} {f : α → List Value} {O : World → Prop} {s s' : RS} {L : List α} {v : Value} {wr W : World} (h : Lr d p w q T C e z f O s L v wr) (hO : Stays p q e O) (j : Nat) (hC : ∀ u u', (C u).setIfInBounds j u' = C u') (hC2 : ∀ u, (C u)[j]? = some u)
    (hd : d < w.heap.size) (hp : p < w.heap.size) (hq : w.heap.size ≤ q) (hr : RefS d W p s') (hg : wr.grownBy W (some p)) {x : α} {o : Obj} {w3 : World} {v' : Value} (ho : w3.ownsRow (q + 1) e z v' (L.length + 1) (flat f L ++ f x)) (hg3 : (W.alloc o).grownBy w3 v.ownBlock) :
    Lr d p w q T C e z f O s' (L ++ [x]) v' (w3.setCell ⟨q, j, none⟩ v') ∧ w3.cell? ⟨q, j, none⟩ = some v ∧ w3.frozen? ⟨q, j, none⟩ = false ∧ q < w3.heap.size := by
  have hA := World.grownBy_alloc W o none
  have d1 := (h.dr.read hp hq hr hg)
  have r1 : Rw (q + 1) W e z f v L := h.row.past hg (some_lt (by omega))
  have r2 := r1.quiet hA
  have b2 : (W.alloc o).heap[q]? = some (.cells (C v) T (0, 0)) := (hA.block _ (block_lt d1.box) (by simp)).trans d1.box
  have hne : v.ownBlock ≠ some q := fun e2 => by have := (World.ownsRow.lt r2 q e2).1; omega
  have b3 : w3.heap[q]? = some (.cells (C v) T (0, 0)) := (hg3.block _ (block_lt b2) (fun e2 => hne e2.symm)).trans b2
  have hs1 := h.dr.gr.size
  have hs2 := hg.size
  have gW : w.grownBy (W.alloc o) (some p) := grown_trans (row := some p) d1.gr (grown_noneN hA _)
  have g3 : w.grownBy w3 (some p) := by
    cases hb : v.ownBlock with
    | none => rw [hb] at hg3; exact grown_trans (row := some p) gW (grown_noneN hg3 _)
    | some g => rw [hb] at hg3; exact grown_new gW hg3 (by have := (World.ownsRow.lt r2 g hb).1; omega)
  have rd3 : RefS d w3 p s' := (d1.rd.quiet hA).kept hg3 (fun e2 => by have := (World.ownsRow.lt r2 p e2).1; omega) (fun e2 => by have := (World.ownsRow.lt r2 d e2).1; omega)
  have o1 := hO wr W _ h.oth hg (.inr (.inl rfl))
  have o2 := hO W _ _ o1 hA (.inl rfl)
  have o3 := hO _ w3 _ o2 hg3 (r2.block.imp id (fun ⟨g, cur, e1, e2⟩ => .inr (.inr ⟨g, cur, e1, e2⟩)))
  have o4 := hO _ _ _ o3 (grown_set w3 q j v') (.inr (.inr (.inl rfl)))
  have row3 : Rw (q + 1) w3 e z f v' (L ++ [x]) := by
    unfold Rw
    rw [flat_snoc]
    simpa using ho
  refine ⟨⟨⟨rd3.kept (grown_set _ _ _ _) (by simp; omega) (by simp; omega), grown_new g3 (grown_set _ _ _ _) hq, ?_⟩, row3.past (grown_set _ _ _ _) (some_lt (by omega)), o4⟩, (block_cell b3 j).trans (hC2 v), block_free b3 j, block_lt b3⟩
  rw [← hC v v']
  exact heap_setCell_same w3 q j _ _ v' b3
end Go.Proofs.YtlidehhcoepikaaGreatDoor
namespace Go.Proofs.YtlidehhcoepikaaGreatDoor
open Go.RowKit Crc

def capC (c : Nat) : Nat := if 1023 < c then 1024 else c
theorem nV_lt (s : RS) : nV s < 18446744073709551616 := (numAt_ok s.rest).1
set_option maxRecDepth 10000 in
set_option maxHeartbeats 1600000 in
theorem refSession_any {d p : Nat} {w : World} {s : RS} (h : RefS d w p s) (hd : d < w.heap.size) : Calls Tryz.prog 46 #[.pointer (some ⟨p, 0, none⟩)] w fun e w' => ∃ (a b c g : Nat) (ao : Option Addr) (n cap : Nat), e = .returned (.agg #[.int .u64 (a : Int), .int .u64 (b : Int), .int .u64 (c : Int), .int .i64 (g : Int), .slice ao n cap]) ∧ Hid (a = (rdSn s).1.1 ∧ b = (rdSn s).1.2.1 ∧ c = (rdSn s).1.2.2.1 ∧ g = capC (rdSn s).1.2.2.2.1 ∧ Owns w.heap.size w' (.slice ao n cap) (rdSn s).1.2.2.2.2 ∧ w.grownBy w' (some p) ∧ RefS d w' p (rdSn s).2) := by
  have hp := refS_size h
  obtain ⟨W0, hW0⟩ : ∃ W0, w.alloc (.cells #[.int .u64 0, .int .u64 0, .int .u64 0, .int .i64 0, .slice none 0 0] 61) = W0 := ⟨_, rfl⟩
  have s0 : W0.heap.size = w.heap.size + 1 := by rw [← hW0]; simp
  have g0 : w.grownBy W0 (some p) := by rw [← hW0]; exact World.grownBy_alloc _ _ _
  have q0 : W0.heap[w.heap.size]? = some (.cells #[.int .u64 0, .int .u64 0, .int .u64 0, .int .i64 0, .slice none 0 0] 61 (0, 0)) := by rw [← hW0]; exact alloc_atN _ _
  have RES : Hid (∀ W, W0.grownBy W (some p) → W.heap[w.heap.size]? = some (.cells #[.int .u64 0, .int .u64 0, .int .u64 0, .int .i64 0, .slice none 0 0] 61 (0, 0))) := fun W hg => (hg.block _ (by omega) (by simp; omega)).trans q0
  obtain ⟨W1, hW1⟩ : ∃ W1, W0.alloc (.cells #[.int .u64 0, .int .u64 0, .int .u64 0, .int .i64 0, .slice none 0 0] 61) = W1 := ⟨_, rfl⟩
  have D0 : Hid (Dr d p W0 (w.heap.size + 1) 61 s #[.int .u64 0, .int .u64 0, .int .u64 0, .int .i64 0, .slice none 0 0] W1) := by
    have q := Dr.start (d := d) (p := p) (w := W0) (s := s) (h.quiet (by rw [← hW0]; exact World.grownBy_alloc _ _ none)) #[.int .u64 0, .int .u64 0, .int .u64 0, .int .i64 0, .slice none 0 0] 61
    rw [s0, hW1] at q
    exact q
  have GW0 := hide g0
  have HW : Hid ((w.alloc (.cells #[.int .u64 0, .int .u64 0, .int .u64 0, .int .i64 0, .slice none 0 0] 61)).alloc (.cells #[.int .u64 0, .int .u64 0, .int .u64 0, .int .i64 0, .slice none 0 0] 61) = W1) := by
    show _ = _
    rw [hW0]; exact hW1
  have hdW : d < W0.heap.size := by omega
  have hpW : p < W0.heap.size := by omega
  have HE : Hid ((rdSn s).1 = (nV s, nV (nS s), nV (nS (nS s)), nV (nS (nS (nS s))), bV (nS (nS (nS (nS s)))) 256) ∧ (rdSn s).2 = bS (nS (nS (nS (nS s)))) 256) := ⟨rfl, rfl⟩
  have hlt3 : nV (nS (nS (nS s))) < 18446744073709551616 := nV_lt _
  have N0 : Hid (∀ W cs, Dr d p W0 (w.heap.size + 1) 61 s cs W → Calls Tryz.prog 42 #[.pointer (some ⟨p, 0, none⟩)] W fun e w' => e = .returned (.int .u64 ((nV s : Nat) : Int)) ∧ Hid (Dr d p W0 (w.heap.size + 1) 61 (nS s) cs w')) := fun W cs h => num_dr hpW (by omega) h
  have N1 : Hid (∀ W cs, Dr d p W0 (w.heap.size + 1) 61 (nS s) cs W → Calls Tryz.prog 42 #[.pointer (some ⟨p, 0, none⟩)] W fun e w' => e = .returned (.int .u64 ((nV (nS s) : Nat) : Int)) ∧ Hid (Dr d p W0 (w.heap.size + 1) 61 (nS (nS s)) cs w')) := fun W cs h => num_dr hpW (by omega) h
  have N2 : Hid (∀ W cs, Dr d p W0 (w.heap.size + 1) 61 (nS (nS s)) cs W → Calls Tryz.prog 42 #[.pointer (some ⟨p, 0, none⟩)] W fun e w' => e = .returned (.int .u64 ((nV (nS (nS s)) : Nat) : Int)) ∧ Hid (Dr d p W0 (w.heap.size + 1) 61 (nS (nS (nS s))) cs w')) := fun W cs h => num_dr hpW (by omega) h
  have N3 : Hid (∀ W cs, Dr d p W0 (w.heap.size + 1) 61 (nS (nS (nS s))) cs W → Calls Tryz.prog 42 #[.pointer (some ⟨p, 0, none⟩)] W fun e w' => e = .returned (.int .u64 ((nV (nS (nS (nS s))) : Nat) : Int)) ∧ Hid (Dr d p W0 (w.heap.size + 1) 61 (nS (nS (nS (nS s)))) cs w')) := fun W cs h => num_dr hpW (by omega) h
  have NB : Hid (∀ W cs, Dr d p W0 (w.heap.size + 1) 61 (nS (nS (nS (nS s)))) cs W → Calls Tryz.prog 85 #[.pointer (some ⟨p, 0, none⟩), .int .i64 256] W fun e w' => ∃ ao n cap, e = .returned (.slice ao n cap) ∧ n = (bV (nS (nS (nS (nS s)))) 256).length ∧ Hid (Owns W.heap.size w' (.slice ao n cap) (bV (nS (nS (nS (nS s)))) 256) ∧ Dr d p W0 (w.heap.size + 1) 61 (bS (nS (nS (nS (nS s)))) 256) cs w')) := fun W cs h => blob_dr hpW (by omega) h 256 (by omega) (by omega)
  clear h hW0 g0 q0 hW1
  generalize rdSn s = rd at *
  generalize nV s = a0 at *
  generalize nS s = t1 at *
  generalize nV t1 = a1 at *
  generalize nS t1 = t2 at *
  generalize nV t2 = a2 at *
  generalize nS t2 = t3 at *
  generalize nV t3 = a3 at *
  generalize nS t3 = t4 at *
  generalize bV t4 256 = D at *
  generalize bS t4 256 = t5 at *
  go_enter Tryz.func46, Tryz.ntmps46
  go_wp2_with fail
  rw [HW.out]
  refine (N0.out _ _ (D0.out)).mono ?_
  rintro e v1 ⟨rfl, H1⟩
  have c1 := block_cell H1.out.box 0
  have f1 := block_free H1.out.box 0
  have l1 := block_lt H1.out.box
  simp at c1
  go_wp2_with fail
  refine (N1.out _ _ ((H1.out.set hdW hpW (by omega) 0 (.int .u64 (a0 : Int))))).mono ?_
  rintro e v2 ⟨rfl, H2⟩
  have c2 := block_cell H2.out.box 1
  have f2 := block_free H2.out.box 1
  have l2 := block_lt H2.out.box
  simp at c2
  clear c1 f1 l1
  go_wp2_with fail
  refine (N2.out _ _ ((H2.out.set hdW hpW (by omega) 1 (.int .u64 (a1 : Int))))).mono ?_
  rintro e v3 ⟨rfl, H3⟩
  have c3 := block_cell H3.out.box 2
  have f3 := block_free H3.out.box 2
  have l3 := block_lt H3.out.box
  simp at c3
  clear c2 f2 l2
  go_wp2_with fail
  refine (N3.out _ _ ((H3.out.set hdW hpW (by omega) 2 (.int .u64 (a2 : Int))))).mono ?_
  rintro e v4 ⟨rfl, H4⟩
  have c4 := block_cell H4.out.box 3
  have f4 := block_free H4.out.box 3
  have l4 := block_lt H4.out.box
  simp at c4
  clear c3 f3 l3
  by_cases hcap : 1023 < a3
  · have HCP : Hid (capC a3 = 1024) := if_pos hcap
    have hcd : decide ((1023 : Int) < (a3 : Int)) = true := decide_eq_true (by omega)
    go_wp2_with fail
    refine (NB.out _ _ (H4.out.set hdW hpW (by omega) 3 (.int .i64 (1024 : Int)))).mono ?_
    rintro e v5 ⟨ao, n, cap, rfl, hn, G5⟩
    have HN := hide hn
    clear hn
    have c5 := block_cell G5.out.2.box 4
    have f5 := block_free G5.out.2.box 4
    have l5 := block_lt G5.out.2.box
    simp at c5
    clear c4 f4
    by_cases hpos : 0 < n
    · have hpd : decide ((0 : Int) < (n : Int)) = true := decide_eq_true (by omega)
      obtain ⟨V, hV⟩ : ∃ V, (v5.setCell ⟨w.heap.size + 1, 4, none⟩ (.slice ao n cap)) = V := ⟨_, rfl⟩
      have DV : Hid (Dr d p W0 (w.heap.size + 1) 61 t5 #[.int .u64 (a0 : Int), .int .u64 (a1 : Int), .int .u64 (a2 : Int), .int .i64 (1024 : Int), .slice ao n cap] V) := by
        rw [← hV]
        exact G5.out.2.set hdW hpW (by omega) 4 (.slice ao n cap)
      have OD : Hid (Owns (w.heap.size + 1) V (.slice ao n cap) D) := by
        rw [← hV]
        have hge := H4.out.box
        have hb := block_lt hge
        exact (G5.out.1.kept (grown_set _ _ _ _) (.inr (fun e => by have := (G5.out.1.1.lt _ e).1; simp at this; omega))).lower (by simp; omega)
      have e0 := block_cell DV.out.box 0
      have e1 := block_cell DV.out.box 1
      have e2 := block_cell DV.out.box 2
      have e3 := block_cell DV.out.box 3
      have e4 := block_cell DV.out.box 4
      simp at e0 e1 e2 e3 e4
      have hC := RES.out _ DV.out.gr
      have z0 := block_cell hC 0
      have g0 := block_free hC 0
      have z1 := block_cell hC 1
      have g1 := block_free hC 1
      have z2 := block_cell hC 2
      have g2 := block_free hC 2
      have z3 := block_cell hC 3
      have g3 := block_free hC 3
      have z4 := block_cell hC 4
      have g4 := block_free hC 4
      simp at z0 z1 z2 z3 z4
      have FIN : Hid (∀ x0 x1 x2 x3 x4, (a0 = rd.1.1 ∧ a1 = rd.1.2.1 ∧ a2 = rd.1.2.2.1 ∧ 1024 = capC rd.1.2.2.2.1 ∧ Owns w.heap.size (((((V.setCell ⟨w.heap.size, 0, none⟩ x0).setCell ⟨w.heap.size, 1, none⟩ x1).setCell ⟨w.heap.size, 2, none⟩ x2).setCell ⟨w.heap.size, 3, none⟩ x3).setCell ⟨w.heap.size, 4, none⟩ x4) (.slice ao n cap) rd.1.2.2.2.2 ∧ w.grownBy (((((V.setCell ⟨w.heap.size, 0, none⟩ x0).setCell ⟨w.heap.size, 1, none⟩ x1).setCell ⟨w.heap.size, 2, none⟩ x2).setCell ⟨w.heap.size, 3, none⟩ x3).setCell ⟨w.heap.size, 4, none⟩ x4) (some p) ∧ RefS d (((((V.setCell ⟨w.heap.size, 0, none⟩ x0).setCell ⟨w.heap.size, 1, none⟩ x1).setCell ⟨w.heap.size, 2, none⟩ x2).setCell ⟨w.heap.size, 3, none⟩ x3).setCell ⟨w.heap.size, 4, none⟩ x4) p rd.2)) := fun x0 x1 x2 x3 x4 => by
        have g : V.grownBy (((((V.setCell ⟨w.heap.size, 0, none⟩ x0).setCell ⟨w.heap.size, 1, none⟩ x1).setCell ⟨w.heap.size, 2, none⟩ x2).setCell ⟨w.heap.size, 3, none⟩ x3).setCell ⟨w.heap.size, 4, none⟩ x4) (some w.heap.size) := (grown_trans (row := some w.heap.size) (grown_trans (row := some w.heap.size) (grown_trans (row := some w.heap.size) (grown_trans (row := some w.heap.size) (grown_set _ _ _ _) (grown_set _ _ _ _)) (grown_set _ _ _ _)) (grown_set _ _ _ _)) (grown_set _ _ _ _))
        rw [HE.out.1, HE.out.2]
        exact ⟨rfl, rfl, rfl, HCP.out.symm, (OD.out.kept g (.inr (fun e => by have := (OD.out.1.lt _ e).1; omega))).lower (by omega), grown_new (grown_trans (row := some p) GW0.out DV.out.gr) g (Nat.le_refl _), DV.out.rd.kept g (by simp; omega) (by simp; omega)⟩
      have HVV := hide hV
      have hqV := block_lt DV.out.box
      go_wp2
      refine bodyPost_ret (v := .agg #[.int .u64 (a0 : Int), .int .u64 (a1 : Int), .int .u64 (a2 : Int), .int .i64 (1024 : Int), .slice ao n cap]) (by simp [results, Tryz.results46, go_sem, z0, z1, z2, z3, z4]) rfl ?_
      exact ⟨a0, a1, a2, 1024, _, _, _, rfl, FIN.out _ _ _ _ _⟩
    · have hpd : decide ((0 : Int) < (n : Int)) = false := decide_eq_false (by omega)
      obtain ⟨V, hV⟩ : ∃ V, v5 = V := ⟨_, rfl⟩
      have DV : Hid (Dr d p W0 (w.heap.size + 1) 61 t5 #[.int .u64 (a0 : Int), .int .u64 (a1 : Int), .int .u64 (a2 : Int), .int .i64 (1024 : Int), .slice none 0 0] V) := by
        rw [← hV]
        exact G5.out.2
      have OD : Hid (Owns (w.heap.size + 1) V (.slice none 0 0) D) := by
        have e0 : D = [] := List.eq_nil_of_length_eq_zero (by have := HN.out; omega)
        rw [e0]
        exact Owns.nil _ _
      have e0 := block_cell DV.out.box 0
      have e1 := block_cell DV.out.box 1
      have e2 := block_cell DV.out.box 2
      have e3 := block_cell DV.out.box 3
      have e4 := block_cell DV.out.box 4
      simp at e0 e1 e2 e3 e4
      have hC := RES.out _ DV.out.gr
      have z0 := block_cell hC 0
      have g0 := block_free hC 0
      have z1 := block_cell hC 1
      have g1 := block_free hC 1
      have z2 := block_cell hC 2
      have g2 := block_free hC 2
      have z3 := block_cell hC 3
      have g3 := block_free hC 3
      have z4 := block_cell hC 4
      have g4 := block_free hC 4
      simp at z0 z1 z2 z3 z4
      have FIN : Hid (∀ x0 x1 x2 x3 x4, (a0 = rd.1.1 ∧ a1 = rd.1.2.1 ∧ a2 = rd.1.2.2.1 ∧ 1024 = capC rd.1.2.2.2.1 ∧ Owns w.heap.size (((((V.setCell ⟨w.heap.size, 0, none⟩ x0).setCell ⟨w.heap.size, 1, none⟩ x1).setCell ⟨w.heap.size, 2, none⟩ x2).setCell ⟨w.heap.size, 3, none⟩ x3).setCell ⟨w.heap.size, 4, none⟩ x4) (.slice none 0 0) rd.1.2.2.2.2 ∧ w.grownBy (((((V.setCell ⟨w.heap.size, 0, none⟩ x0).setCell ⟨w.heap.size, 1, none⟩ x1).setCell ⟨w.heap.size, 2, none⟩ x2).setCell ⟨w.heap.size, 3, none⟩ x3).setCell ⟨w.heap.size, 4, none⟩ x4) (some p) ∧ RefS d (((((V.setCell ⟨w.heap.size, 0, none⟩ x0).setCell ⟨w.heap.size, 1, none⟩ x1).setCell ⟨w.heap.size, 2, none⟩ x2).setCell ⟨w.heap.size, 3, none⟩ x3).setCell ⟨w.heap.size, 4, none⟩ x4) p rd.2)) := fun x0 x1 x2 x3 x4 => by
        have g : V.grownBy (((((V.setCell ⟨w.heap.size, 0, none⟩ x0).setCell ⟨w.heap.size, 1, none⟩ x1).setCell ⟨w.heap.size, 2, none⟩ x2).setCell ⟨w.heap.size, 3, none⟩ x3).setCell ⟨w.heap.size, 4, none⟩ x4) (some w.heap.size) := (grown_trans (row := some w.heap.size) (grown_trans (row := some w.heap.size) (grown_trans (row := some w.heap.size) (grown_trans (row := some w.heap.size) (grown_set _ _ _ _) (grown_set _ _ _ _)) (grown_set _ _ _ _)) (grown_set _ _ _ _)) (grown_set _ _ _ _))
        rw [HE.out.1, HE.out.2]
        exact ⟨rfl, rfl, rfl, HCP.out.symm, (OD.out.kept g (.inr (fun e => by have := (OD.out.1.lt _ e).1; omega))).lower (by omega), grown_new (grown_trans (row := some p) GW0.out DV.out.gr) g (Nat.le_refl _), DV.out.rd.kept g (by simp; omega) (by simp; omega)⟩
      have HVV := hide hV
      have hqV := block_lt DV.out.box
      go_wp2
      refine bodyPost_ret (v := .agg #[.int .u64 (a0 : Int), .int .u64 (a1 : Int), .int .u64 (a2 : Int), .int .i64 (1024 : Int), .slice none 0 0]) (by simp [results, Tryz.results46, go_sem, z0, z1, z2, z3, z4]) rfl ?_
      exact ⟨a0, a1, a2, 1024, _, _, _, rfl, FIN.out _ _ _ _ _⟩
  · have HCP : Hid (capC a3 = a3) := if_neg hcap
    have hcd : decide ((1023 : Int) < (a3 : Int)) = false := decide_eq_false (by omega)
    go_wp2_with fail
    refine (NB.out _ _ (H4.out.set hdW hpW (by omega) 3 (.int .i64 (a3 : Int)))).mono ?_
    rintro e v5 ⟨ao, n, cap, rfl, hn, G5⟩
    have HN := hide hn
    clear hn
    have c5 := block_cell G5.out.2.box 4
    have f5 := block_free G5.out.2.box 4
    have l5 := block_lt G5.out.2.box
    simp at c5
    clear c4 f4
    by_cases hpos : 0 < n
    · have hpd : decide ((0 : Int) < (n : Int)) = true := decide_eq_true (by omega)
      obtain ⟨V, hV⟩ : ∃ V, (v5.setCell ⟨w.heap.size + 1, 4, none⟩ (.slice ao n cap)) = V := ⟨_, rfl⟩
      have DV : Hid (Dr d p W0 (w.heap.size + 1) 61 t5 #[.int .u64 (a0 : Int), .int .u64 (a1 : Int), .int .u64 (a2 : Int), .int .i64 (a3 : Int), .slice ao n cap] V) := by
        rw [← hV]
        exact G5.out.2.set hdW hpW (by omega) 4 (.slice ao n cap)
      have OD : Hid (Owns (w.heap.size + 1) V (.slice ao n cap) D) := by
        rw [← hV]
        have hge := H4.out.box
        have hb := block_lt hge
        exact (G5.out.1.kept (grown_set _ _ _ _) (.inr (fun e => by have := (G5.out.1.1.lt _ e).1; simp at this; omega))).lower (by simp; omega)
      have e0 := block_cell DV.out.box 0
      have e1 := block_cell DV.out.box 1
      have e2 := block_cell DV.out.box 2
      have e3 := block_cell DV.out.box 3
      have e4 := block_cell DV.out.box 4
      simp at e0 e1 e2 e3 e4
      have hC := RES.out _ DV.out.gr
      have z0 := block_cell hC 0
      have g0 := block_free hC 0
      have z1 := block_cell hC 1
      have g1 := block_free hC 1
      have z2 := block_cell hC 2
      have g2 := block_free hC 2
      have z3 := block_cell hC 3
      have g3 := block_free hC 3
      have z4 := block_cell hC 4
      have g4 := block_free hC 4
      simp at z0 z1 z2 z3 z4
      have FIN : Hid (∀ x0 x1 x2 x3 x4, (a0 = rd.1.1 ∧ a1 = rd.1.2.1 ∧ a2 = rd.1.2.2.1 ∧ a3 = capC rd.1.2.2.2.1 ∧ Owns w.heap.size (((((V.setCell ⟨w.heap.size, 0, none⟩ x0).setCell ⟨w.heap.size, 1, none⟩ x1).setCell ⟨w.heap.size, 2, none⟩ x2).setCell ⟨w.heap.size, 3, none⟩ x3).setCell ⟨w.heap.size, 4, none⟩ x4) (.slice ao n cap) rd.1.2.2.2.2 ∧ w.grownBy (((((V.setCell ⟨w.heap.size, 0, none⟩ x0).setCell ⟨w.heap.size, 1, none⟩ x1).setCell ⟨w.heap.size, 2, none⟩ x2).setCell ⟨w.heap.size, 3, none⟩ x3).setCell ⟨w.heap.size, 4, none⟩ x4) (some p) ∧ RefS d (((((V.setCell ⟨w.heap.size, 0, none⟩ x0).setCell ⟨w.heap.size, 1, none⟩ x1).setCell ⟨w.heap.size, 2, none⟩ x2).setCell ⟨w.heap.size, 3, none⟩ x3).setCell ⟨w.heap.size, 4, none⟩ x4) p rd.2)) := fun x0 x1 x2 x3 x4 => by
        have g : V.grownBy (((((V.setCell ⟨w.heap.size, 0, none⟩ x0).setCell ⟨w.heap.size, 1, none⟩ x1).setCell ⟨w.heap.size, 2, none⟩ x2).setCell ⟨w.heap.size, 3, none⟩ x3).setCell ⟨w.heap.size, 4, none⟩ x4) (some w.heap.size) := (grown_trans (row := some w.heap.size) (grown_trans (row := some w.heap.size) (grown_trans (row := some w.heap.size) (grown_trans (row := some w.heap.size) (grown_set _ _ _ _) (grown_set _ _ _ _)) (grown_set _ _ _ _)) (grown_set _ _ _ _)) (grown_set _ _ _ _))
        rw [HE.out.1, HE.out.2]
        exact ⟨rfl, rfl, rfl, HCP.out.symm, (OD.out.kept g (.inr (fun e => by have := (OD.out.1.lt _ e).1; omega))).lower (by omega), grown_new (grown_trans (row := some p) GW0.out DV.out.gr) g (Nat.le_refl _), DV.out.rd.kept g (by simp; omega) (by simp; omega)⟩
      have HVV := hide hV
      have hqV := block_lt DV.out.box
      go_wp2
      refine bodyPost_ret (v := .agg #[.int .u64 (a0 : Int), .int .u64 (a1 : Int), .int .u64 (a2 : Int), .int .i64 (a3 : Int), .slice ao n cap]) (by simp [results, Tryz.results46, go_sem, z0, z1, z2, z3, z4]) rfl ?_
      exact ⟨a0, a1, a2, a3, _, _, _, rfl, FIN.out _ _ _ _ _⟩
    · have hpd : decide ((0 : Int) < (n : Int)) = false := decide_eq_false (by omega)
      obtain ⟨V, hV⟩ : ∃ V, v5 = V := ⟨_, rfl⟩
      have DV : Hid (Dr d p W0 (w.heap.size + 1) 61 t5 #[.int .u64 (a0 : Int), .int .u64 (a1 : Int), .int .u64 (a2 : Int), .int .i64 (a3 : Int), .slice none 0 0] V) := by
        rw [← hV]
        exact G5.out.2
      have OD : Hid (Owns (w.heap.size + 1) V (.slice none 0 0) D) := by
        have e0 : D = [] := List.eq_nil_of_length_eq_zero (by have := HN.out; omega)
        rw [e0]
        exact Owns.nil _ _
      have e0 := block_cell DV.out.box 0
      have e1 := block_cell DV.out.box 1
      have e2 := block_cell DV.out.box 2
      have e3 := block_cell DV.out.box 3
      have e4 := block_cell DV.out.box 4
      simp at e0 e1 e2 e3 e4
      have hC := RES.out _ DV.out.gr
      have z0 := block_cell hC 0
      have g0 := block_free hC 0
      have z1 := block_cell hC 1
      have g1 := block_free hC 1
      have z2 := block_cell hC 2
      have g2 := block_free hC 2
      have z3 := block_cell hC 3
      have g3 := block_free hC 3
      have z4 := block_cell hC 4
      have g4 := block_free hC 4
      simp at z0 z1 z2 z3 z4
      have FIN : Hid (∀ x0 x1 x2 x3 x4, (a0 = rd.1.1 ∧ a1 = rd.1.2.1 ∧ a2 = rd.1.2.2.1 ∧ a3 = capC rd.1.2.2.2.1 ∧ Owns w.heap.size (((((V.setCell ⟨w.heap.size, 0, none⟩ x0).setCell ⟨w.heap.size, 1, none⟩ x1).setCell ⟨w.heap.size, 2, none⟩ x2).setCell ⟨w.heap.size, 3, none⟩ x3).setCell ⟨w.heap.size, 4, none⟩ x4) (.slice none 0 0) rd.1.2.2.2.2 ∧ w.grownBy (((((V.setCell ⟨w.heap.size, 0, none⟩ x0).setCell ⟨w.heap.size, 1, none⟩ x1).setCell ⟨w.heap.size, 2, none⟩ x2).setCell ⟨w.heap.size, 3, none⟩ x3).setCell ⟨w.heap.size, 4, none⟩ x4) (some p) ∧ RefS d (((((V.setCell ⟨w.heap.size, 0, none⟩ x0).setCell ⟨w.heap.size, 1, none⟩ x1).setCell ⟨w.heap.size, 2, none⟩ x2).setCell ⟨w.heap.size, 3, none⟩ x3).setCell ⟨w.heap.size, 4, none⟩ x4) p rd.2)) := fun x0 x1 x2 x3 x4 => by
        have g : V.grownBy (((((V.setCell ⟨w.heap.size, 0, none⟩ x0).setCell ⟨w.heap.size, 1, none⟩ x1).setCell ⟨w.heap.size, 2, none⟩ x2).setCell ⟨w.heap.size, 3, none⟩ x3).setCell ⟨w.heap.size, 4, none⟩ x4) (some w.heap.size) := (grown_trans (row := some w.heap.size) (grown_trans (row := some w.heap.size) (grown_trans (row := some w.heap.size) (grown_trans (row := some w.heap.size) (grown_set _ _ _ _) (grown_set _ _ _ _)) (grown_set _ _ _ _)) (grown_set _ _ _ _)) (grown_set _ _ _ _))
        rw [HE.out.1, HE.out.2]
        exact ⟨rfl, rfl, rfl, HCP.out.symm, (OD.out.kept g (.inr (fun e => by have := (OD.out.1.lt _ e).1; omega))).lower (by omega), grown_new (grown_trans (row := some p) GW0.out DV.out.gr) g (Nat.le_refl _), DV.out.rd.kept g (by simp; omega) (by simp; omega)⟩
      have HVV := hide hV
      have hqV := block_lt DV.out.box
      go_wp2
      refine bodyPost_ret (v := .agg #[.int .u64 (a0 : Int), .int .u64 (a1 : Int), .int .u64 (a2 : Int), .int .i64 (a3 : Int), .slice none 0 0]) (by simp [results, Tryz.results46, go_sem, z0, z1, z2, z3, z4]) rfl ?_
      exact ⟨a0, a1, a2, a3, _, _, _, rfl, FIN.out _ _ _ _ _⟩
end Go.Proofs.YtlidehhcoepikaaGreatDoor
namespace Go.Proofs.YtlidehhcoepikaaGreatDoor
open Go.RowKit Crc
/-- A reader with a fault stays. -/
theorem dd_n {s : RS} (h : ¬ s.sound) : nS s = s := RS.step_not h _ _
theorem dd_o {s : RS} (h : ¬ s.sound) : oS s = s := RS.step_not h _ _
theorem dd_c {s : RS} (h : ¬ s.sound) (m : Int) : cS s m = s := RS.step_not h _ _
theorem dd_b {s : RS} (h : ¬ s.sound) (m : Int) : bS s m = s := RS.step_not h _ _
theorem dead_end {s : RS} (h : ¬ s.sound) : s.endC = s.errC ∧ s.endA = s.errA := by
  unfold RS.endC RS.endA
  rw [if_neg h, if_neg h]
  exact ⟨rfl, rfl⟩
theorem dead_oV {s : RS} (h : ¬ (oS s).sound) : oV s = 0 := by
  unfold oV
  by_cases hs : s.sound
  · have hw : aheadW s.rest 1 ≠ 0 := fun e => h (by
      show (s.step 1 (aheadW s.rest 1)).sound
      unfold RS.step
      rw [if_pos hs, e, if_pos rfl]
      exact hs)
    unfold aheadW at hw
    unfold aheadV
    split at hw
    · rw [if_pos (by assumption)]; rfl
    · exact absurd rfl hw
  · have : s.rest = [] := by unfold RS.rest; exact restB_sound hs
    rw [this]
    rfl
theorem dead_hdV {B : List Nat} (h : ¬ (hd1 B).sound) : hdV B = 0 := by
  have hw : aheadW (RSn B).rest 4 ≠ 0 := fun e => h (by
    show ((RSn B).step 4 (aheadW (RSn B).rest 4)).sound
    unfold RS.step
    rw [if_pos ⟨rfl, rfl⟩, e, if_pos rfl]
    exact ⟨rfl, rfl⟩)
  unfold hdV
  unfold aheadW at hw
  unfold aheadV
  split at hw
  · rw [if_pos (by assumption)]; rfl
  · exact absurd rfl hw
attribute [local irreducible] nV nS oV oS cV cS bV bS

def rvS (x : Nat × Nat × Nat × Nat × List Nat) : Nat × Nat × Nat × Int × List Nat := (x.1, x.2.1, x.2.2.1, ((capC x.2.2.2.1 : Nat) : Int), x.2.2.2.2)
def Im.rv (x : Im) : Vm := ⟨x.slot, x.now, x.b.tot, x.b.nx, x.b.A, x.b.H, x.b.J, x.D, x.ends, x.S.map rvS⟩
theorem okV_eq {x : Nat × Nat × Nat × Nat × List Nat} (h : x.2.2.2.1 < 18446744073709551616) : okV1 (rvS x) = okV1 (pvS x) ∧ (okV1 (pvS x) = true → rvS x = pvS x) := by
  obtain ⟨a, b, c, d, D⟩ := x
  have h : d < 18446744073709551616 := h
  have hw : (d ≤ 1023 ∧ wrap64 (d : Int) = d) ∨ (1023 < d ∧ (wrap64 (d : Int) < 0 ∨ 1023 < wrap64 (d : Int))) := by
    by_cases hd : d ≤ 1023
    · exact .inl ⟨hd, by unfold wrap64; omega⟩
    · refine .inr ⟨by omega, ?_⟩
      unfold wrap64
      omega
  rcases hw with ⟨h1, h2⟩ | ⟨h1, h2⟩
  · have e : rvS (a, b, c, d, D) = pvS (a, b, c, d, D) := by
      show (a, b, c, ((capC d : Nat) : Int), D) = (a, b, c, wrap64 (d : Int), D)
      rw [h2]
      unfold capC
      rw [if_neg (by omega)]
    exact ⟨by rw [e], fun _ => e⟩
  · have e1 : okV1 (rvS (a, b, c, d, D)) = false := by
      show (decide (0 ≤ ((capC d : Nat) : Int)) && decide (((capC d : Nat) : Int) ≤ 1023) && decide (D.length ≤ 256)) = false
      unfold capC
      rw [if_pos h1]
      simp
    have e2 : okV1 (pvS (a, b, c, d, D)) = false := by
      show (decide (0 ≤ wrap64 (d : Int)) && decide (wrap64 (d : Int) ≤ 1023) && decide (D.length ≤ 256)) = false
      rcases h2 with h2 | h2
      · rw [decide_eq_false (by omega)]; simp
      · rw [decide_eq_false (p := wrap64 (d : Int) ≤ 1023) (by omega)]; simp
    exact ⟨by rw [e1, e2], fun h => by rw [e2] at h; cases h⟩
theorem rises_rp (L : List (Nat × Nat × Nat × Nat × List Nat)) : ∀ a : Nat, rises (fun x : Nat × Nat × Nat × Int × List Nat => x.1) a (L.map rvS) = rises (fun x => x.1) a (L.map pvS) := by
  induction L with
  | nil => exact fun a => by rw [List.map_nil, List.map_nil]
  | cons x r ih =>
    intro a
    have e1 : (rvS x).1 = x.1 := rfl
    have e2 : (pvS x).1 = x.1 := rfl
    rw [List.map_cons, List.map_cons, rises, rises, e1, e2, ih x.1]
theorem all_rp (L : List (Nat × Nat × Nat × Nat × List Nat)) : (∀ x ∈ L, x.2.2.2.1 < 18446744073709551616) → (L.map rvS).all okV1 = (L.map pvS).all okV1 ∧ ((L.map pvS).all okV1 = true → L.map rvS = L.map pvS) := by
  induction L with
  | nil => exact fun _ => ⟨by rw [List.map_nil, List.map_nil], fun _ => by rw [List.map_nil, List.map_nil]⟩
  | cons x r ih =>
    intro h
    obtain ⟨i1, i2⟩ := ih (fun y hy => h y (List.mem_cons_of_mem _ hy))
    obtain ⟨j1, j2⟩ := okV_eq (h x (List.mem_cons_self ..))
    refine ⟨by rw [List.map_cons, List.map_cons, List.all_cons, List.all_cons, i1, j1], fun ha => ?_⟩
    rw [List.map_cons, List.all_cons, Bool.and_eq_true] at ha
    rw [List.map_cons, List.map_cons, i2 ha.2, j2 ha.1]
theorem okSv_rp (L : List (Nat × Nat × Nat × Nat × List Nat)) (h : ∀ x ∈ L, x.2.2.2.1 < 18446744073709551616) : okSv (L.map rvS) = okSv (L.map pvS) ∧ (okSv (L.map pvS) = true → L.map rvS = L.map pvS) := by
  obtain ⟨i1, i2⟩ := all_rp L h
  unfold okSv
  refine ⟨by rw [i1, rises_rp, List.length_map, List.length_map], fun ha => ?_⟩
  rw [Bool.and_eq_true] at ha
  exact i2 ha.1
theorem rdL_code (s : RS) (n : Nat) : ∀ x ∈ (rdL rdSn s n).1, x.2.2.2.1 < 18446744073709551616 := by
  induction n with
  | zero => intro x hx; rw [rdL] at hx; cases hx
  | succ n ih =>
    intro x hx
    rw [rdL] at hx
    rcases List.mem_append.1 hx with hx | hx
    · exact ih x hx
    · rw [List.mem_singleton.1 hx]
      generalize (rdL rdSn s n).2 = s1
      show nV (nS (nS (nS s1))) < 18446744073709551616
      exact nV_lt _
theorem fstF_cons (b : Bool) (L : List Bool) : fstF (b :: L) < 0 → b = true ∧ fstF L < 0 := by
  cases b with
  | false => intro h; exact absurd h (by simp [fstF])
  | true =>
    intro h
    unfold fstF at h
    split at h
    · exact ⟨rfl, by assumption⟩
    · rename_i h2; omega
theorem rv_part (s : RS) : (rdIm s).1.rv.part = (rdIm s).1.pv.part ∧ (¬ 0 ≤ (rdIm s).1.pv.part → (rdIm s).1.rv = (rdIm s).1.pv) := by
  have hS : ∀ x ∈ (rdIm s).1.S, x.2.2.2.1 < 18446744073709551616 := by
    have h : ∀ x ∈ (imS s).1, x.2.2.2.1 < 18446744073709551616 := by
      unfold imS rdC
      exact rdL_code _ _
    unfold rdIm
    generalize imS s = y at *
    exact h
  generalize (rdIm s).1 = m at *
  obtain ⟨i1, i2⟩ := okSv_rp m.S hS
  refine ⟨?_, fun h => ?_⟩
  · show fstF [_, _, _, _, _, _, okSv (m.S.map rvS)] = fstF [_, _, _, _, _, _, okSv (m.S.map pvS)]
    rw [i1]
    rfl
  · have h7 : fstF [decide (m.slot ≤ 1099511627776), decide (m.now ≤ 1099511627776), okAc m.b.A, okHo m.b.H, okEn m.b.J, okDe m.D, okSv (m.S.map pvS)] < 0 := by
      have : m.pv.part < 0 := by omega
      exact this
    have h6 := (fstF_cons _ _ (fstF_cons _ _ (fstF_cons _ _ (fstF_cons _ _ (fstF_cons _ _ (fstF_cons _ _ (fstF_cons _ _ h7).2).2).2).2).2).2).1
    show Vm.mk _ _ _ _ _ _ _ _ _ (m.S.map rvS) = Vm.mk _ _ _ _ _ _ _ _ _ (m.S.map pvS)
    rw [i2 h6]
theorem dd_Ac (s : RS) (h : ¬ s.sound) : (rdAc s).2 = s := by show nS (nS (nS (nS s))) = s; simp only [dd_n h]
theorem dd_Ho (s : RS) (h : ¬ s.sound) : (rdHo s).2 = s := by show nS (nS (nS s)) = s; simp only [dd_n h]
theorem dd_En (s : RS) (h : ¬ s.sound) : (rdEn s).2 = s := by show nS (nS (nS (oS (nS s)))) = s; simp only [dd_n h, dd_o h]
theorem dd_De (s : RS) (h : ¬ s.sound) : (rdDe s).2 = s := by show bS (nS (nS (nS (nS (oS (nS (nS (nS (nS (nS (nS (nS s)))))))))))) 512 = s; simp only [dd_n h, dd_o h, dd_b h]
theorem dd_Sn (s : RS) (h : ¬ s.sound) : (rdSn s).2 = s := by show bS (nS (nS (nS (nS s)))) 256 = s; simp only [dd_n h, dd_b h]
theorem dd_L {α : Type} {f : RS → α × RS} (hf : ∀ s : RS, ¬ s.sound → (f s).2 = s) {s : RS} (h : ¬ s.sound) : ∀ n, (rdL f s n).2 = s
  | 0 => rfl
  | n + 1 => by
    show (f (rdL f s n).2).2 = s
    rw [dd_L hf h n]
    exact hf s h
theorem dd_C {α : Type} {f : RS → α × RS} (hf : ∀ s : RS, ¬ s.sound → (f s).2 = s) {s : RS} (h : ¬ s.sound) (m : Int) : (rdC f m s).2 = s := by
  unfold rdC
  rw [dd_c h]
  exact dd_L hf h _
theorem dd_Bk {s : RS} (h : ¬ s.sound) : (rdBk s).2 = s := by
  have h1 : (bkA s).2 = s := by unfold bkA; rw [dd_n h, dd_n h]; exact dd_C dd_Ac h 64
  have h2 : (bkH s).2 = s := by unfold bkH; rw [h1]; exact dd_C dd_Ho h 64
  have h3 : (bkJ s).2 = s := by unfold bkJ; rw [h2]; exact dd_C dd_En h 64
  unfold rdBk
  generalize bkJ s = y at *
  exact h3
theorem dd_Im {s : RS} (h : ¬ s.sound) : (rdIm s).2 = s := by
  have h1 : (imB s).2 = s := by unfold imB; rw [dd_n h, dd_n h]; exact dd_Bk h
  have h2 : (imD s).2 = s := by unfold imD; rw [h1, dd_n h]; exact dd_C dd_De h 32
  have h3 : (imS s).2 = s := by unfold imS; rw [h2]; exact dd_C dd_Sn h 16
  unfold rdIm
  generalize imS s = y at *
  exact h3
end Go.Proofs.YtlidehhcoepikaaGreatDoor
