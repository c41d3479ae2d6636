import Derived.Test.YtldhafpeigdloaaGreatDoorM24
import Derived.Test.YtldhafpeigdloaaGreatDoorM12
import Derived.Deep.RegionHeld
import Derived.Test.YtldhafpeigdloaaGreatDoorM8
import Derived.Test.YtldhafpeigdloaaGreatDoorM7
import Derived.Test.YtldhafpeigdloaaGreatDoorM9
import Derived.Test.YtldhafpeigdloaaGreatDoorM21
namespace Go.Proofs.YtldhafpeigdloaaGreatDoor
open Go.RowKit Crc

end Go.Proofs.YtldhafpeigdloaaGreatDoor
namespace Go.Proofs.YtldhafpeigdloaaGreatDoor
open Go.RowKit Crc

end Go.Proofs.YtldhafpeigdloaaGreatDoor
namespace Go.Proofs.YtldhafpeigdloaaGreatDoor
open Go.RowKit Crc

end Go.Proofs.YtldhafpeigdloaaGreatDoor
namespace Go.Proofs.YtldhafpeigdloaaGreatDoor
open Go.RowKit Crc

theorem blobAt_len (B : List Nat) (most : Int) : (blobAt B most).1.length ≤ B.length := by
  unfold blobAt
  split
  · simp
  · split
    · simp
    · simp only [List.length_take, List.length_drop]; omega
theorem rest_le (s : RS) : s.rest.length ≤ s.B.length := by
  unfold RS.rest restB
  split
  · rw [List.length_drop]; omega
  · simp
theorem own_far {base : Nat} {w : World} {v : Value} {B : List Nat} (h : Owns base w v B) : ∀ g, v.ownBlock = some g → base ≤ g := by
  intro g hg
  obtain ⟨a0, c0, rfl, _, (⟨rfl, _⟩ | ⟨g', rfl, hb, _⟩)⟩ := h.form
  · cases hg
  · have : g' = g := by simpa [Value.ownBlock] using hg
    omega

end Go.Proofs.YtldhafpeigdloaaGreatDoor
namespace Go.Proofs.YtldhafpeigdloaaGreatDoor
open Go.RowKit Crc

end Go.Proofs.YtldhafpeigdloaaGreatDoor
namespace Go.Proofs.YtldhafpeigdloaaGreatDoor
open Go.RowKit Crc

/-- Two boxes laid anew. -/
theorem fin_dr {w w4 : World} {v : Value} {rs1 : List Rq} (hb : Below w.heap.size w w4) (h : OwnRs (w.heap.size + 1 + 1) w4 v rs1) (hf : FreeRs (w.heap.size + 1 + 1) w4 rs1) (a b c e : Value) :
    Below w.heap.size w ((((w4.setCell ⟨w.heap.size, 0, none⟩ a).setCell ⟨w.heap.size, 1, none⟩ b).setCell ⟨w.heap.size + 1, 0, none⟩ c).setCell ⟨w.heap.size + 1, 1, none⟩ e) ∧ OwnRs w.heap.size ((((w4.setCell ⟨w.heap.size, 0, none⟩ a).setCell ⟨w.heap.size, 1, none⟩ b).setCell ⟨w.heap.size + 1, 0, none⟩ c).setCell ⟨w.heap.size + 1, 1, none⟩ e) v rs1 ∧ FreeRs w.heap.size ((((w4.setCell ⟨w.heap.size, 0, none⟩ a).setCell ⟨w.heap.size, 1, none⟩ b).setCell ⟨w.heap.size + 1, 0, none⟩ c).setCell ⟨w.heap.size + 1, 1, none⟩ e) rs1 := by
  obtain ⟨a1, a2⟩ := h.past hf (grown_set w4 w.heap.size 0 a) (by omega)
  obtain ⟨b1, b2⟩ := a1.past a2 (grown_set _ w.heap.size 1 b) (by omega)
  obtain ⟨c1, c2⟩ := b1.past b2 (grown_set _ (w.heap.size + 1) 0 c) (by omega)
  obtain ⟨e1, e2⟩ := c1.past c2 (grown_set _ (w.heap.size + 1) 1 e) (by omega)
  exact ⟨(((hb.setCell (p := ⟨w.heap.size, 0, none⟩) (Nat.le_refl _) _).setCell (p := ⟨w.heap.size, 1, none⟩) (Nat.le_refl _) _).setCell (p := ⟨w.heap.size + 1, 0, none⟩) (by simp) _).setCell (p := ⟨w.heap.size + 1, 1, none⟩) (by simp) _, e1.lower (by omega), e2.lower (by omega)⟩

end Go.Proofs.YtldhafpeigdloaaGreatDoor
namespace Go.Proofs.YtldhafpeigdloaaGreatDoor
open Go.RowKit Crc

/-- The same, or both with one fault. -/
def Sim (s t : RS) : Prop := s = t ∨ (¬ s.sound ∧ ¬ t.sound ∧ s.made = t.made ∧ s.why = t.why ∧ s.place = t.place)
theorem rrGo_dead (n : Nat) (s : RS) (h : ¬ s.sound) : rrGo n s = ([], s) := by
  cases n with
  | zero => rfl
  | succ n => rw [rrGo, if_neg h]
theorem num_zero {s : RS} (hs : s.sound) (h : ¬ (rdNum s).sound) : (numAt s.rest).1 = 0 := by
  by_cases hz : (numAt s.rest).2.2 = 0
  · exfalso
    apply h
    unfold rdNum RS.step
    rw [if_pos hs, if_pos hz]
    exact hs
  · exact ((numAt_ok s.rest).2.2.2 hz).1
theorem fail_sim {s : RS} (h : s.sound) (a : Nat) : Sim (s.failP a 29) (s.failR a) := by
  refine .inr ⟨?_, ?_, ?_, ?_, ?_⟩
  · unfold RS.failP; rw [if_pos h]; intro h2; exact absurd h2.2 (by simp)
  · intro h2; exact absurd h2.2 (by simp [RS.failR])
  · unfold RS.failP; rw [if_pos h]; rfl
  · unfold RS.failP; rw [if_pos h]; rfl
  · unfold RS.failP; rw [if_pos h]; rfl
theorem bS1_sim {s : RS} (hs : s.sound) : Sim (bS1 s) (upS s 1099511627776) := by
  unfold bS1 upS rdBound
  by_cases h1 : (rdNum s).sound
  · by_cases h2 : 1099511627776 < (numAt s.rest).1
    · rw [if_neg (by unfold bndY; rw [if_pos (.inr h2)]; decide), if_pos ⟨h1, h2⟩]
      exact fail_sim h1 s.pos
    · rw [if_pos (by unfold bndY; rw [if_neg (by omega)]), if_neg (fun h => h2 h.2)]
      exact .inl rfl
  · rw [num_zero hs h1, if_pos (by unfold bndY; rw [if_neg (by omega)]), if_neg (fun h => h1 h.1)]
    exact .inl rfl
theorem rqS1_sim {s : RS} (_hs : s.sound) : Sim (rqS1 s) (rrS1 s) := by
  unfold rqS1 rrS1 rdBound
  have hlt := (numAt_ok s.rest).1
  by_cases h1 : (rdNum s).sound
  · by_cases h2 : (numAt s.rest).1 < 256
    · rw [if_neg (by unfold bndY; rw [if_pos (.inl h2)]; decide), if_pos ⟨h1, h2⟩]
      exact fail_sim h1 s.pos
    · rw [if_pos (by unfold bndY; rw [if_neg (by omega)]), if_neg (fun h => h2 h.2)]
      exact .inl rfl
  · rw [failP_dead h1]
    have e : (if (rdNum s).sound ∧ (numAt s.rest).1 < 256 then (rdNum s).failR s.pos else rdNum s) = rdNum s := if_neg (fun h => h1 h.1)
    rw [e]
    split <;> exact .inl rfl
theorem sim_num {s t : RS} (h : Sim s t) : Sim (rdNum s) (rdNum t) ∧ s.rest = t.rest := by
  rcases h with rfl | ⟨h1, h2, h3⟩
  · exact ⟨.inl rfl, rfl⟩
  · rw [rdNum_dead h1, rdNum_dead h2, rest_dead h1, rest_dead h2]
    exact ⟨.inr ⟨h1, h2, h3⟩, rfl⟩
theorem sim_step {s t : RS} (h : Sim s t) (z : Nat) (y : Int) : Sim (s.step z y) (t.step z y) := by
  rcases h with rfl | ⟨h1, h2, h3⟩
  · exact .inl rfl
  · rw [step_dead h1, step_dead h2]
    exact .inr ⟨h1, h2, h3⟩
theorem rq_sim {s : RS} (hs : s.sound) : rqV s = rrV s ∧ Sim (rqS3 s) (rrS3 s) := by
  have h1 := rqS1_sim hs
  have h2 := sim_num h1
  have h3 := sim_num h2.1
  unfold rqV rrV rqS3 rrS3
  unfold rqS2 rrS2
  rw [h2.2, h3.2]
  exact ⟨rfl, sim_step h2.1 _ _⟩
theorem go_sim : ∀ (n : Nat) (s : RS), Sim (rdGo n s).2 (rrGo n s).2 ∧ ((rdGo n s).2.sound → (rdGo n s).1 = (rrGo n s).1)
  | 0, s => ⟨.inl rfl, fun _ => rfl⟩
  | n + 1, s => by
    by_cases hs : s.sound
    · obtain ⟨h1, h2⟩ := rq_sim hs
      rw [rdGo, rrGo, if_pos hs]
      rcases h2 with h2 | ⟨h3, h4, h5⟩
      · rw [← h2, ← h1]
        have ih := go_sim n (rqS3 s)
        exact ⟨ih.1, fun h => by rw [ih.2 h]⟩
      · rw [rrGo_dead n _ h4]
        have e := rdGo_dead n _ h3
        refine ⟨?_, fun h => ?_⟩
        · rw [e]; exact .inr ⟨h3, h4, h5⟩
        · rw [e] at h; exact absurd h h3
    · rw [rrGo_dead _ s hs]
      have e := rdGo_dead (n + 1) s hs
      rw [e]
      exact ⟨.inl rfl, fun h => absurd h hs⟩
theorem sim_end {s t : RS} (h : Sim s t) : s.endC = t.endC ∧ s.endA = t.endA := by
  rcases h with rfl | ⟨h1, h2, h3, h4, h5⟩
  · exact ⟨rfl, rfl⟩
  · unfold RS.endC RS.endA RS.errC RS.errA
    rw [if_neg h1, if_neg h2, if_neg h1, if_neg h2, h3, h4, h5]
    exact ⟨rfl, rfl⟩
/-- Both read one batch. -/
theorem batch_key {s : RS} (hs : s.sound) : Sim (bEnd s) (cEnd s) ∧ ((bEnd s).sound → (numAt s.rest).1 = upV s 1099511627776 ∧ bVals s = cVals s) := by
  rcases bS1_sim hs with h | ⟨h1, h2, h3⟩
  · have e1 : bN s = cN s := by unfold bN cN; rw [h]
    have e2 : bS2 s = cS2 s := by unfold bS2 cS2; rw [h]
    have g := go_sim (cN s) (cS2 s)
    unfold bEnd cEnd bVals cVals
    rw [e1, e2]
    refine ⟨g.1, fun hd => ⟨?_, g.2 hd⟩⟩
    by_cases hc : (rdNum s).sound ∧ 1099511627776 < (numAt s.rest).1
    · exfalso
      have hu : ¬ (upS s 1099511627776).sound := by
        unfold upS; rw [if_pos hc]; intro h2; exact absurd h2.2 (by simp [RS.failR])
      have h2 : ¬ (cS2 s).sound := by unfold cS2; rw [step_dead hu]; exact hu
      rw [rdGo_dead _ _ h2] at hd
      exact h2 hd
    · unfold upV; rw [if_neg hc]
  · have b2 : bS2 s = bS1 s := step_dead h1 _ _
    have c2 : cS2 s = upS s 1099511627776 := step_dead h2 _ _
    have e1 : bEnd s = bS1 s := by unfold bEnd; rw [b2]; exact rdGo_dead _ _ h1
    have e2 : cEnd s = upS s 1099511627776 := by unfold cEnd; rw [c2, rrGo_dead _ _ h2]
    rw [e1, e2]
    exact ⟨.inr ⟨h1, h2, h3⟩, fun h => absurd h h1⟩
theorem batch_sim {s : RS} (hs : s.sound) : (bEnd s).endC = (cEnd s).endC ∧ (bEnd s).endA = (cEnd s).endA ∧ ((bEnd s).endC = 0 → (numAt s.rest).1 = upV s 1099511627776 ∧ bVals s = cVals s) := by
  have key := batch_key hs
  have he := sim_end key.1
  exact ⟨he.1, he.2, fun h => key.2 (endC_sound h)⟩
end Go.Proofs.YtldhafpeigdloaaGreatDoor
namespace Go.Proofs.YtldhafpeigdloaaGreatDoor
open Go.RowKit Crc

/-- Fields that are read one behind the other. -/
def frun : List Fd → RS → Rv → RS × Rv
  | [], s, v => (s, v)
  | f :: t, s, v => frun t (f.nxt s) (f.upd s v)
theorem bal_dead {s : RS} (h : ¬ s.sound) : balS s = s := by
  have h1 : balS1 s = s := rdBound_dead h _ _
  unfold balS balS2
  rw [h1, step_dead h, failP_dead h]
  split <;> rfl
theorem nxt_dead (f : Fd) {s : RS} (h : ¬ s.sound) : f.nxt s = s := by
  cases f with
  | ballot => exact bal_dead h
  | slot => exact rdBound_dead h _ _
  | batch =>
    show bEnd s = s
    have h1 : bS1 s = s := rdBound_dead h _ _
    have h2 : bS2 s = s := by unfold bS2; rw [h1]; exact step_dead h _ _
    unfold bEnd
    rw [h2]
    exact rdGo_dead _ _ h
  | snap => exact step_dead h _ _
theorem frun_dead : ∀ (fs : List Fd) {s : RS} (v : Rv), ¬ s.sound → (frun fs s v).1 = s
  | [], _, _, _ => rfl
  | f :: t, s, v, h => by
    rw [frun, nxt_dead f h]
    exact frun_dead t _ h
theorem bal_place {s : RS} (h : s.sound → s.place = 0) : (balS s).sound → (balS s).place = 0 := by
  have h1 : (balS1 s).sound → (balS1 s).place = 0 := rdBound_place h _ _
  have h2 : (balS2 s).sound → (balS2 s).place = 0 := RS.step_place h1 _ _
  unfold balS
  split
  · exact failP_place h2 _ _ (by decide)
  · exact h2
theorem nxt_place (f : Fd) {s : RS} (h : s.sound → s.place = 0) : (f.nxt s).sound → (f.nxt s).place = 0 := by
  cases f with
  | ballot => exact bal_place h
  | slot => exact rdBound_place h _ _
  | batch => exact bEnd_place h
  | snap => exact RS.step_place h _ _
theorem frun_snoc : ∀ (fs : List Fd) (f : Fd) (s : RS) (v : Rv), frun (fs ++ [f]) s v = (f.nxt (frun fs s v).1, f.upd (frun fs s v).1 (frun fs s v).2)
  | [], f, s, v => rfl
  | g :: t, f, s, v => by rw [List.cons_append, frun, frun_snoc t f]; rfl
theorem frun_app : ∀ (fs gs : List Fd) (s : RS) (v : Rv), frun (fs ++ gs) s v = frun gs (frun fs s v).1 (frun fs s v).2
  | [], gs, s, v => rfl
  | g :: t, gs, s, v => by rw [List.cons_append, frun, frun_app t gs]; rfl
theorem un_end (s : RS) : s.un.endC = s.endC ∧ s.un.endA = s.endA := ⟨rfl, rfl⟩
def frv (p : Nat) : Value := .iface 71 (.pointer (some ⟨p, 0, none⟩))
end Go.Proofs.YtldhafpeigdloaaGreatDoor
namespace Go.Proofs.YtldhafpeigdloaaGreatDoor
open Go.RowKit Crc

/-- While the fields are read. -/
structure Rl (fs : List Fd) (lim base p : Nat) (s : RS) (c : Mc) (w : World) (k : Nat) (s' : RS) (c' : Mc) (wr : World) : Prop where
  fr : Fr lim base p s' c' wr
  run : frun (fs.take k) s.un c.rv = (s'.un, c'.rv)
  gr : w.grownBy wr (some p)
  pl : s'.sound → s'.place = 0
theorem Rl.next {fs : List Fd} {lim base p : Nat} {s : RS} {c : Mc} {w : World} {k : Nat} {s' s1 : RS} {c' c1 : Mc} {wr w1 : World} {f : Fd} (h : Rl fs lim base p s c w k s' c' wr) (hf : fs[k]? = some f) (h1 : Fr lim base p s1 c1 w1) (h2 : s1.un = f.nxt s'.un) (h3 : c1.rv = f.upd s'.un c'.rv) (h4 : wr.grownBy w1 (some p)) : Rl fs lim base p s c w (k + 1) s1 c1 w1 := by
  refine ⟨h1, ?_, grown_trans (row := some p) h.gr h4, ?_⟩
  · rw [List.take_add_one, hf]
    show frun (fs.take k ++ [f]) s.un c.rv = _
    rw [frun_snoc, h.run, h2, h3]
  · have hp := nxt_place f (s := s'.un) h.pl
    rw [← h2] at hp
    exact hp
/-- Where a fault ends the reading. -/
theorem Rl.dead {fs : List Fd} {lim base p : Nat} {s : RS} {c : Mc} {w : World} {k : Nat} {s' : RS} {c' : Mc} {wr : World} (h : Rl fs lim base p s c w k s' c' wr) (hd : ¬ s'.sound) : (frun fs s.un c.rv).1 = s'.un := by
  have e := frun_app (fs.take k) (fs.drop k) s.un c.rv
  rw [List.take_append_drop, h.run] at e
  rw [e]
  exact frun_dead _ _ hd
theorem Rd.cells2 {K : Kd} {lim : Nat} {w : World} {p : Nat} {made : Bool} {place why : Int} {B : List Nat} {pos : Nat} (h : Rd K lim w p made place why B pos) : w.cell? ⟨p, 0, none⟩ = some (.bool made) ∧ w.cell? ⟨p, 2, none⟩ = some (.int .i64 why) := by
  obtain ⟨ao, cap, hb, _⟩ := h
  exact ⟨(block_cell hb 0).trans (by simp), (block_cell hb 2).trans (by simp)⟩

end Go.Proofs.YtldhafpeigdloaaGreatDoor
namespace Go.Proofs.YtldhafpeigdloaaGreatDoor
open Go.RowKit Crc

/-- The fields of a record's kind. -/
def fsOf (k : Int) : List Fd := if k = 1 ∨ k = 3 then [.ballot] else if k = 2 then [.ballot, .slot, .batch] else if k = 4 then [.slot] else if k = 5 then [.slot, .snap] else []
theorem fsOf_len (k : Int) : (fsOf k).length ≤ 5 := by
  unfold fsOf
  split
  · simp
  · split
    · simp
    · split
      · simp
      · split <;> simp
/-- What is read of a record: its kind, the fault and its place, the values. -/
def rk (B : List Nat) : Nat := hi (aheadV (RS1 B).rest 1)
def rs1 (B : List Nat) : RS := (RS1 B).step 1 (aheadW (RS1 B).rest 1)
def rv0 : Rv := ⟨0, 0, 0, 0, [], []⟩
def recS (B : List Nat) : RS × Rv := frun (fsOf (rk B)) (rs1 B) rv0
instance fdNil (f : List Fd) : Decidable (f = []) := by
  cases f
  · exact isTrue rfl
  · exact isFalse (by simp)
def recC (B : List Nat) : Int := if (rs1 B).sound then (if fsOf (rk B) = [] then 25 else (recS B).1.endC) else (rs1 B).errC
def recA (B : List Nat) : Int := if (rs1 B).sound then (if fsOf (rk B) = [] then 0 else (recS B).1.endA) else (rs1 B).errA
def recV (B : List Nat) : Rv := if recC B = 0 then (recS B).2 else rv0
def recK (B : List Nat) : Nat := if recC B = 0 then rk B else 0
def mc0 : Mc := ⟨0, 0, 0, 0, .slice none 0 0, [], .slice none 0 0, []⟩
end Go.Proofs.YtldhafpeigdloaaGreatDoor
namespace Go.Proofs.YtldhafpeigdloaaGreatDoor
open Go.RowKit Crc

theorem infoSl : (Tryz.prog.info? 31).map (fun i => (i.zero, i.size, i.bytes)) = some (some (.slice none 0 0), 1, 24) := by kernel_rfl
theorem cell_one_new (W : World) (x : Value) (t : TypeId) : ∀ (j : Nat) (u : Value), [x][j]? = some u → (W.alloc (.cells #[x] t)).cell? (Addr.add ⟨W.heap.size, 0, none⟩ j) = some u := by
  intro j u hu
  have := World.cell?_alloc_new W #[x] t j
  have he : Addr.add ⟨W.heap.size, 0, none⟩ j = ⟨W.heap.size, j, none⟩ := by
    simp only [Addr.add]
    split <;> simp_all
  rw [he, this]
  simpa using hu
/-- A list of lists of its own. -/
abbrev Sls (base : Nat) (w : World) (v : Value) (n : Nat) (xs : List Value) : Prop := w.ownsRow base 31 1 v n xs
theorem row_lower {base base' size k : Nat} {e : TypeId} {w : World} {v : Value} {xs : List Value} (h : w.ownsRow base e size v k xs) (hl : base' ≤ base) : w.ownsRow base' e size v k xs := by
  refine ⟨h.1, ?_⟩
  rcases h.2 with h0 | ⟨g, cap, cur, h1, h2, h3⟩
  · exact .inl h0
  · exact .inr ⟨g, cap, cur, h1, by omega, h3⟩

end Go.Proofs.YtldhafpeigdloaaGreatDoor
namespace Go.Proofs.YtldhafpeigdloaaGreatDoor
open Go.RowKit Crc

section
variable {P : Program} {ops : Array Oper} {rest : List Oper} {o : Oper} {a : Act} {Q : Exit → Act → World → Prop}
/-- As wpList_append_ext, and what lay there before stays where the list moved. -/
theorem wpList_append_moved (w : World) (hgd : o.guard = none) (s x : Operand) (t : TypeId)
    (ho : o.op = .call { callee := .builtin .append, args := #[s, x], argTypes := #[t, t] })
    (base : Nat) (e : TypeId) (i : TypeInfo) (z : Value) (size bytes : Nat) (ht : P.underlying t = some (.slice e)) (hi : P.info? e = some i) (hz : i.zero = some z)
    (hsize : i.size = size) (hby : i.bytes = bytes) (hzs : z.cells.size = size) (hsz : 0 < size)
    (v : Value) (n : Nat) (xs : List Value) (hs : a.eval s = v) (hown : w.ownsRow base e size v n xs)
    (ad : Addr) (m c : Nat) (news : List Value) (hx : a.eval x = .slice (some ad) m c) (hl : news.length = m * size) (hnews : ∀ j u, news[j]? = some u → w.cell? (ad.add j) = some u) (h1 : ∀ u ∈ news, u.oneCell' = true)
    (hm : 0 < m) (h63 : n + m ≤ maxLen) (hbytes : (n + m) * bytes ≤ 140737488355328) (hbase : base ≤ w.heap.size)
    (h : ∀ v' w', w'.ownsRow base e size v' (n + m) (xs ++ news) → Ext w w' v v' → (v'.ownBlock = v.ownBlock ∨ w.grownBy w' none) → wpList P ops Q rest (a.put o.dst v') w') : wpList P ops Q (o :: rest) a w := by
  rcases hown.2 with ⟨rfl, rfl⟩ | ⟨g, cap, cur, rfl, hbg, hg, hnc, hcm, hcs, htake⟩
  · have hxs : xs = [] := List.eq_nil_of_length_eq_zero (by have := hown.1; omega)
    subst hxs
    refine wpList_append_grows w hgd s x t ho e i z size bytes ht hi hz hsize hby hzs hsz none 0 0 [] hs (fun _ => ⟨rfl, rfl⟩) (by simp) (fun b hb => by cases hb) ad m c news hx hl hnews h1 (by omega) h63 hbytes ?_
    intro v' w' hown' hgrow
    refine h v' w' ?_ ⟨⟨hgrow.os, hgrow.tape, hgrow.output, hgrow.size, hgrow.block⟩, fun g hg => .inr (hown'.lt g hg).1⟩ (.inr hgrow)
    refine ⟨hown'.1, ?_⟩
    rcases hown'.2 with h0 | ⟨g, cap, cur, hv, hbg, rest⟩
    · exact .inl h0
    · exact .inr ⟨g, cap, cur, hv, by omega, rest⟩
  · by_cases hroom : n + m ≤ cap
    · refine wpList_append_own_spare w hgd s x t ho base e i size ht hi hsize g n cap xs hs hown ad m c news hx hl hnews h1 hroom ?_
      intro w' hown' hgrow
      exact h _ w' hown' ⟨hgrow, fun g' hg' => .inl hg'⟩ (.inl rfl)
    · have holds : ∀ b, some (⟨g, 0, none⟩ : Addr) = some b → ∀ j u, xs[j]? = some u → w.cell? (b.add j) = some u := by
        intro b hb j u hj
        cases hb
        exact hown.cells rfl j u hj
      refine wpList_append_grows w hgd s x t ho e i z size bytes ht hi hz hsize hby hzs hsz (some ⟨g, 0, none⟩) n cap xs hs (fun h => by cases h) hown.1 holds ad m c news hx hl hnews h1 (by omega) h63 hbytes ?_
      intro v' w' hown' hgrow
      refine h v' w' ?_ ⟨⟨hgrow.os, hgrow.tape, hgrow.output, hgrow.size, fun k hk _ => hgrow.block k hk (by simp)⟩, fun g hg => .inr (hown'.lt g hg).1⟩ (.inr hgrow)
      refine ⟨hown'.1, ?_⟩
      rcases hown'.2 with h0 | ⟨g, cap, cur, hv, hbg, rest⟩
      · exact .inl h0
      · exact .inr ⟨g, cap, cur, hv, by omega, rest⟩
end

/-- Nothing but these blocks, and new ones, has turned. -/
structure Out (S : Nat → Prop) (w w' : World) : Prop where
  os : w'.os = w.os
  tape : w'.tape = w.tape
  output : w'.output = w.output
  size : w.heap.size ≤ w'.heap.size
  block : ∀ q, q < w.heap.size → ¬ S q → w'.heap[q]? = w.heap[q]?
theorem Out.refl (S : Nat → Prop) (w : World) : Out S w w := ⟨rfl, rfl, rfl, Nat.le_refl _, fun _ _ _ => rfl⟩
theorem Out.trans {S : Nat → Prop} {a b c : World} (h : Out S a b) (k : Out S b c) : Out S a c :=
  ⟨k.os.trans h.os, k.tape.trans h.tape, k.output.trans h.output, Nat.le_trans h.size k.size, fun q hq hn => (k.block q (Nat.lt_of_lt_of_le hq h.size) hn).trans (h.block q hq hn)⟩
theorem Out.grown {S : Nat → Prop} {a b c : World} {row : Option Nat} (h : Out S a b) (hg : b.grownBy c row) (hr : ∀ g, row = some g → S g ∨ a.heap.size ≤ g) : Out S a c :=
  ⟨hg.os.trans h.os, hg.tape.trans h.tape, hg.output.trans h.output, Nat.le_trans h.size hg.size, fun q hq hn => (hg.block q (Nat.lt_of_lt_of_le hq h.size) (fun e => by
    rcases hr q e.symm with h1 | h1
    · exact hn h1
    · omega)).trans (h.block q hq hn)⟩
theorem Out.below {S : Nat → Prop} {w w' : World} (h : Below w.heap.size w w') : Out S w w' := ⟨h.os, h.tape, h.output, h.size, fun q hq _ => h.block q hq⟩
theorem Out.belowT {S : Nat → Prop} {B : Nat} {w w' w2 : World} (h : Out S w w') (hb : Below B w' w2) (hB : w.heap.size ≤ B) : Out S w w2 :=
  ⟨hb.os.trans h.os, hb.tape.trans h.tape, hb.output.trans h.output, Nat.le_trans h.size hb.size, fun q hq hn => (hb.block q (by omega)).trans (h.block q hq hn)⟩
theorem Out.row {S : Nat → Prop} {w w' : World} {base size n : Nat} {e : TypeId} {v : Value} {xs : List Value} (h : Out S w w') (hr : w.ownsRow base e size v n xs) (hn : ∀ g, v.ownBlock = some g → ¬ S g) : w'.ownsRow base e size v n xs := by
  refine ⟨hr.1, ?_⟩
  rcases hr.2 with h0 | ⟨g, cap, cur, rfl, h2, h3, h4⟩
  · exact .inl h0
  · exact .inr ⟨g, cap, cur, rfl, h2, (h.block g (block_lt h3) (hn g rfl)).trans h3, h4⟩
theorem Out.lent {S : Nat → Prop} {w w' : World} {gc n : Nat} {C : List Nat} (h : Out S w w') (hl : Lent w gc n C) (hn : ¬ S gc) : Lent w' gc n C := ⟨hl.1, h.row hl.2 (fun g e => by cases e; exact hn)⟩

/-- Bytes at the head of a block. -/
def Has (w : World) (v : Value) (C : List Nat) : Prop :=
  (∀ x ∈ C, x < 256) ∧ C.length ≤ 140737488355328 ∧ (v = .slice none 0 0 ∧ C = [] ∨ ∃ g cap cur, v = .slice (some ⟨g, 0, none⟩) C.length cap ∧ C.length ≤ cap ∧ w.heap[g]? = some (.cells cur 5 (0, 0)) ∧ cur.toList.take C.length = vals C)
theorem Owns.has {base : Nat} {w : World} {v : Value} {C : List Nat} (h : Owns base w v C) : Has w v C := by
  refine ⟨h.2.1, h.2.2, ?_⟩
  rcases h.1.2 with ⟨h0, h1⟩ | ⟨g, cap, cur, h1, h2, h3, h4, h5, h6, h7⟩
  · exact .inl ⟨h0, List.eq_nil_of_length_eq_zero h1⟩
  · exact .inr ⟨g, cap, cur, h1, h4, h3, by simpa using h7⟩
theorem Has.kept {w w' : World} {v : Value} {C : List Nat} {row : Option Nat} (h : Has w v C) (hg : w.grownBy w' row) (hne : v.ownBlock = none ∨ v.ownBlock ≠ row) : Has w' v C := by
  refine ⟨h.1, h.2.1, ?_⟩
  rcases h.2.2 with h0 | ⟨g, cap, cur, rfl, h2, h3, h4⟩
  · exact .inl h0
  · refine .inr ⟨g, cap, cur, rfl, h2, (hg.block g (block_lt h3) ?_).trans h3, h4⟩
    rcases hne with hne | hne
    · cases hne
    · exact fun e => hne e
theorem Has.quiet {w w' : World} {v : Value} {C : List Nat} (h : Has w v C) (hg : w.grownBy w' none) : Has w' v C := h.kept hg (by cases v.ownBlock <;> simp)
theorem Has.lt {w : World} {v : Value} {C : List Nat} (h : Has w v C) (g : Nat) (e : v.ownBlock = some g) : g < w.heap.size := by
  rcases h.2.2 with ⟨rfl, _⟩ | ⟨g', cap, cur, rfl, h2, h3, h4⟩
  · cases e
  · cases e; exact block_lt h3
theorem Has.ne_row {base k : Nat} {w : World} {v u : Value} {C : List Nat} {xs : List Value} (h : Has w v C) (hr : Sls base w u k xs) : v.ownBlock = none ∨ v.ownBlock ≠ u.ownBlock := by
  rcases h.2.2 with ⟨rfl, _⟩ | ⟨g, cap, cur, rfl, h2, h3, h4⟩
  · exact .inl rfl
  · refine .inr (fun e => ?_)
    rcases hr.2 with ⟨rfl, _⟩ | ⟨g', cap', cur', rfl, _, hg', _⟩
    · cases e
    · cases e
      rw [h3] at hg'
      cases hg'
theorem Lent.ne_row {base k gc n : Nat} {w : World} {u : Value} {C : List Nat} {xs : List Value} (hl : Lent w gc n C) (h : Sls base w u k xs) : u.ownBlock ≠ some gc := by
  intro e
  rcases h.2 with ⟨rfl, _⟩ | ⟨g, cap, cur, rfl, _, hg, _⟩
  · cases e
  · cases e
    rcases hl.2.2 with ⟨h, _⟩ | ⟨g', cap', cur', h1, _, hg', _⟩
    · cases h
    · cases h1
      rw [hg] at hg'
      cases hg'
/-- The same block, longer: its head is what it was. -/
theorem Has.head {base : Nat} {w : World} {v x : Value} {C D : List Nat} {w0 : World} (h0 : Has w0 v C) (hx : Owns base w x (C ++ D)) (he : x.ownBlock = v.ownBlock) : Has w v C := by
  refine ⟨h0.1, h0.2.1, ?_⟩
  rcases h0.2.2 with h1 | ⟨g, cap, cur, rfl, h2, h3, h4⟩
  · exact .inl h1
  · rcases hx.1.2 with ⟨rfl, _⟩ | ⟨g', cap', cur', rfl, _, hg', _, _, _, ht⟩
    · cases he
    · cases he
      refine .inr ⟨g, cap, cur', rfl, h2, hg', ?_⟩
      have h5 := congrArg (List.take C.length) ht
      rw [List.take_take] at h5
      have e1 : min C.length ((C ++ D).length * 1) = C.length := by simp
      rw [e1] at h5
      rw [h5, vals_append]
      have : C.length = (vals C).length := (vals_len C).symm
      rw [this, List.take_left]
theorem Has.form {w : World} {v : Value} {C : List Nat} (h : Has w v C) : ∃ ao cap, v = .slice ao C.length cap ∧ Shows w.heap.size w ao C.length cap C ∧ (0 < C.length → ∃ g cur, ao = some ⟨g, 0, none⟩ ∧ w.heap[g]? = some (.cells cur 5 (0, 0)) ∧ ∀ i, i < C.length → w.cell? ⟨g, i, none⟩ = some (.int .u8 ((C.getD i 0 : Nat) : Int))) := by
  rcases h.2.2 with ⟨rfl, rfl⟩ | ⟨g, cap, cur, rfl, h2, h3, h4⟩
  · exact ⟨none, 0, rfl, ⟨rfl, by simp, by simp, by simp, 0, 0, fun h => by simp at h, fun h => by simp at h, fun i hi => by simp at hi⟩, fun h => by simp at h⟩
  · have hc : ∀ i, i < C.length → w.cell? ⟨g, i, none⟩ = some (.int .u8 ((C.getD i 0 : Nat) : Int)) := fun i hi => by
      rw [block_cell h3]
      have h5 : (vals C)[i]? = cur[i]? := by
        rw [← h4, List.getElem?_take, if_pos hi]; simp
      rw [← h5]
      simp [vals, List.getElem?_eq_getElem hi]
    exact ⟨_, cap, rfl, ⟨rfl, h2, h.2.1, h.1, g, 0, fun _ => rfl, fun _ => block_lt h3, fun i hi => by rw [Nat.zero_add]; exact hc i hi⟩, fun _ => ⟨g, cur, rfl, h3, hc⟩⟩
theorem Has.store {w : World} {v : Value} {C : List Nat} {g m c : Nat} (h : Has w v C) (he : v.ownBlock = some g) (hc : c < 256) : Has (w.setCell ⟨g, m, none⟩ (.int .u8 (c : Int))) v (C.set m c) := by
  refine ⟨fun x hx => ?_, by simpa using h.2.1, ?_⟩
  · rcases List.mem_or_eq_of_mem_set hx with h1 | h1
    · exact h.1 x h1
    · omega
  · rcases h.2.2 with ⟨rfl, _⟩ | ⟨g', cap, cur, rfl, h2, h3, h4⟩
    · cases he
    · cases he
      refine .inr ⟨g', cap, cur.setIfInBounds m (.int .u8 (c : Int)), by simp, by simpa using h2, ?_, ?_⟩
      · rw [heap_setCell_same w g' m _ _ _ h3]
      · rw [List.length_set]
        apply List.ext_getElem?
        intro i
        have h5 := congrArg (fun l => l[i]?) h4
        simp only [List.getElem?_take] at h5
        simp only [List.getElem?_take, vals, List.getElem?_map, Array.getElem?_toList] at h5 ⊢
        by_cases hi : i < C.length
        · rw [if_pos hi] at h5 ⊢
          by_cases e : m = i
          · subst e
            have : m < cur.size := by
              rw [List.getElem?_eq_getElem hi] at h5
              simp at h5
              exact (Array.getElem?_eq_some_iff.1 h5).1
            simp [hi, this]
          · rw [Array.getElem?_setIfInBounds_ne e, List.getElem?_set_ne e]
            exact h5
        · rw [if_neg hi, List.getElem?_eq_none (by simp; omega)]
          rfl
end Go.Proofs.YtldhafpeigdloaaGreatDoor
namespace Go.Proofs.YtldhafpeigdloaaGreatDoor
open Go.RowKit Crc

/-- A block of one of these lists. -/
def inB (rs : List Rq) (q : Nat) : Prop := ∃ r ∈ rs, r.sl.ownBlock = some q
def mkB (j : Nat) : Nat := 192 + j % 40
def flB (j : Nat) : Nat := j % 191
theorem mkB_lt (j : Nat) : mkB j < 256 := by unfold mkB; omega
theorem flB_lt (j : Nat) : flB j < 256 := by unfold flB; omega
/-- The lists that are looked at, as they lay at first. -/
structure F0 (w : World) (lv : Value) (rs : List Rq) : Prop where
  row : Sls 0 w lv rs.length (rs.map Rq.sl)
  own : ∀ (j : Nat) (r : Rq), rs[j]? = some r → Owns 0 w r.sl r.C
  apart : ∀ (i j : Nat) (a b : Rq), i ≠ j → rs[i]? = some a → rs[j]? = some b → a.sl.ownBlock = none ∨ a.sl.ownBlock ≠ b.sl.ownBlock
  le : rs.length ≤ 3518437208883
  cl : ∀ (j : Nat) (r : Rq), rs[j]? = some r → r.C.length ≤ 1000000
theorem F0.lo {w : World} {lv : Value} {rs : List Rq} (h : F0 w lv rs) {q : Nat} (hq : inB rs q) : q < w.heap.size := by
  obtain ⟨r, hr, e⟩ := hq
  obtain ⟨j, hj⟩ := List.getElem?_of_mem hr
  exact ((h.own j r hj).1.lt q e).2
theorem F0.lo' {w : World} {lv : Value} {rs : List Rq} (h : F0 w lv rs) {j : Nat} {r : Rq} (hr : rs[j]? = some r) {q : Nat} (e : r.sl.ownBlock = some q) : q < w.heap.size := ((h.own j r hr).1.lt q e).2
theorem F0.off {w : World} {lv : Value} {rs : List Rq} (h : F0 w lv rs) (g : Nat) (e : lv.ownBlock = some g) : ¬ inB rs g := fun ⟨r, hr, e2⟩ => by
  obtain ⟨j, hj⟩ := List.getElem?_of_mem hr
  rcases (h.own j r hj).has.ne_row h.row with h1 | h1
  · rw [h1] at e2; cases e2
  · exact h1 (e2.trans e.symm)
theorem sls_at {base n : Nat} {w : World} {v : Value} {xs : List Value} (h : Sls base w v n xs) {i : Nat} {u : Value} (hu : xs[i]? = some u) : ∃ g cap, v = .slice (some ⟨g, 0, none⟩) n cap ∧ w.cell? ⟨g, i, none⟩ = some u := by
  have hi : i < n := by have := (List.getElem?_eq_some_iff.1 hu).1; have := h.1; omega
  rcases h.2 with ⟨_, h0⟩ | ⟨g, cap, cur, hv, _, hg, _, _, _, ht⟩
  · omega
  · refine ⟨g, cap, hv, ?_⟩
    rw [block_cell hg]
    rw [← ht, List.getElem?_take, if_pos (by omega)] at hu
    simpa using hu
theorem sls_form {base n : Nat} {w : World} {v : Value} {xs : List Value} (h : Sls base w v n xs) : ∃ ao cap, v = .slice ao n cap := by
  rcases h.2 with ⟨h0, h1⟩ | ⟨g, cap, cur, hv, _⟩
  · exact ⟨none, 0, by rw [h0, h1]⟩
  · exact ⟨_, _, hv⟩

/-- Between two rounds of the lending. -/
structure F1 (w : World) (rs : List Rq) (k : Nat) (v : Value) (gs : List Value) (wr : World) : Prop where
  bel : Below w.heap.size w wr
  row : Sls w.heap.size wr v k gs
  lent : ∀ (j : Nat) (r : Rq) (u : Value), rs[j]? = some r → gs[j]? = some u → ∃ gc, u = .slice (some ⟨gc, 0, none⟩) r.cn (r.cn + 4) ∧ w.heap.size ≤ gc ∧ Lent wr gc r.cn r.C
theorem F1.start (w : World) (rs : List Rq) : F1 w rs 0 (.slice none 0 0) [] w := ⟨Below.refl _ _, World.ownsRow_nil _ _ _ _, fun j r u _ h => by simp at h⟩
theorem F1.next {w : World} {rs : List Rq} {k : Nat} {v v' : Value} {gs : List Value} {wr w1 w2 : World} {r : Rq} {o : Obj} (h : F1 w rs k v gs wr) (hr : rs[k]? = some r) (hl : Lent w1 wr.heap.size r.cn r.C) (hb : Below wr.heap.size wr w1)
    (ho : Sls w.heap.size w2 v' (k + 1) (gs ++ [.slice (some ⟨wr.heap.size, 0, none⟩) r.cn (r.cn + 4)])) (hg : (w1.alloc o).grownBy w2 v.ownBlock) : F1 w rs (k + 1) v' (gs ++ [.slice (some ⟨wr.heap.size, 0, none⟩) r.cn (r.cn + 4)]) w2 := by
  have hs := h.bel.size
  have hs1 := hb.size
  have hgA := World.grownBy_alloc w1 o none
  have rowA : Sls w.heap.size (w1.alloc o) v k gs := row_quiet (row_quiet h.row (below_none hb)) hgA
  have hgl : gs.length = k := by have := h.row.1; omega
  refine ⟨((h.bel.trans (hb.mono hs)).grown hgA (by omega) (fun g e => by cases e)).grown hg (by simp; omega) (fun g e => (h.row.lt g e).1), ho, fun j r' u hj hu => ?_⟩
  rcases Nat.lt_or_ge j k with hjk | hjk
  · rw [List.getElem?_append_left (by omega)] at hu
    obtain ⟨gc, e1, e2, e3⟩ := h.lent j r' u hj hu
    have l1 := (e3.next (below_none hb) (by simp)).next hgA (by simp)
    exact ⟨gc, e1, e2, l1.next hg (l1.ne_row rowA)⟩
  · have : j = k := by
      have := (List.getElem?_eq_some_iff.1 hu).1
      simp at this
      omega
    subst this
    rw [List.getElem?_append_right (by omega), hgl] at hu
    simp at hu
    rw [hr] at hj
    cases hj
    subst hu
    have l1 := hl.next hgA (by simp)
    exact ⟨_, rfl, hs, l1.next hg (l1.ne_row rowA)⟩

/-- Between two rounds of one list's growing. -/
structure F3 (wr0 : World) (r : Rq) (c m : Nat) (x : Value) (wr : World) : Prop where
  ext : Ext wr0 wr r.sl x
  own : Owns 0 wr x (r.C ++ List.replicate m c)
  has : Has wr r.sl r.C
  ty : x.ownBlock = r.sl.ownBlock ∨ ∀ g, x.ownBlock = some g → wr0.heap.size ≤ g
theorem F3.start {wr0 : World} {r : Rq} (c : Nat) (h : Owns 0 wr0 r.sl r.C) : F3 wr0 r c 0 r.sl wr0 := ⟨Ext.refl _ _, by simpa using h, h.has, .inl rfl⟩
theorem F3.next {wr0 : World} {r : Rq} {c m : Nat} {x x' : Value} {wr w' : World} {o : Obj} (h : F3 wr0 r c m x wr) (hc : c < 256) (hl : r.C.length + m + 1 ≤ 140737488355328) (h0 : ∀ g, r.sl.ownBlock = some g → g < wr0.heap.size)
    (ho : w'.ownsRow 0 5 1 x' (r.C.length + m + 1) (vals (r.C ++ List.replicate m c) ++ [.int .u8 (c : Int)])) (he : Ext (wr.alloc o) w' x x') (hm : x'.ownBlock = x.ownBlock ∨ (wr.alloc o).grownBy w' none) : F3 wr0 r c (m + 1) x' w' := by
  have hgA := World.grownBy_alloc wr o none
  have e1 : r.C ++ List.replicate (m + 1) c = (r.C ++ List.replicate m c) ++ [c] := by rw [List.replicate_succ', List.append_assoc]
  have own' : Owns 0 w' x' (r.C ++ List.replicate (m + 1) c) := by
    rw [e1]
    refine h.own.snoc hc (by simp; omega) ?_
    have e2 : (r.C ++ List.replicate m c).length + 1 = r.C.length + m + 1 := by simp
    rw [e2]; exact ho
  have hasA := h.has.quiet hgA
  have hE : Ext wr0 w' r.sl x' := (h.ext.alloc o).trans he
  refine ⟨hE, own', ?_, ?_⟩
  · rcases hm with hm | hm
    · rcases h.ty with ht | ht
      · exact h.has.head own' (hm.trans ht)
      · refine hasA.kept he.1 ?_
        cases e : r.sl.ownBlock with
        | none => exact .inl rfl
        | some g => exact .inr (fun e2 => by have := ht g e2.symm; have := h0 g e; omega)
    · exact hasA.quiet hm
  · rcases hm with hm | hm
    · rcases h.ty with ht | ht
      · exact .inl (hm.trans ht)
      · exact .inr (fun g e => ht g (hm.symm.trans e))
    · rcases h.ty with ht | ht
      · rcases Classical.em (x'.ownBlock = r.sl.ownBlock) with h1 | h1
        · exact .inl h1
        · refine .inr (fun g e => ?_)
          rcases hE.2 g e with h2 | h2
          · exact absurd (e.trans h2.symm) h1
          · exact h2
      · refine .inr (fun g e => ?_)
        rcases he.2 g e with h2 | h2
        · exact ht g h2
        · have := h.ext.1.size
          simp at h2
          omega

/-- Between two rounds of the growing. -/
structure F2 (W1 : World) (rs : List Rq) (i : Nat) (v : Value) (ys : List Value) (wr : World) : Prop where
  out : Out (inB rs) W1 wr
  has : ∀ (j : Nat) (r : Rq), rs[j]? = some r → Has wr r.sl r.C
  row : Sls W1.heap.size wr v i ys
  ext : ∀ (j : Nat) (r : Rq) (u : Value), rs[j]? = some r → ys[j]? = some u → Owns 0 wr u (r.C ++ List.replicate 64 (mkB j)) ∧ ∀ g, u.ownBlock = some g → r.sl.ownBlock = some g ∨ W1.heap.size ≤ g
  own : ∀ (j : Nat) (r : Rq), i ≤ j → rs[j]? = some r → Owns 0 wr r.sl r.C
theorem F2.start {w W1 : World} {lv : Value} {rs : List Rq} (h : F0 w lv rs) (hb : Below w.heap.size w W1) : F2 W1 rs 0 (.slice none 0 0) [] W1 :=
  ⟨Out.refl _ _, fun j r hr => ((h.own j r hr).quiet (below_none hb)).has, World.ownsRow_nil _ _ _ _, fun j r u _ h => by simp at h, fun j r _ hr => (h.own j r hr).quiet (below_none hb)⟩
theorem F2.next {w W1 : World} {lv : Value} {rs : List Rq} {i : Nat} {v v' : Value} {ys : List Value} {wr0 wr w2 : World} {r : Rq} {x : Value} {o : Obj} (h0 : F0 w lv rs) (hb : Below w.heap.size w W1) (h : F2 W1 rs i v ys wr0) (hr : rs[i]? = some r) (h3 : F3 wr0 r (mkB i) 64 x wr)
    (ho : Sls W1.heap.size w2 v' (i + 1) (ys ++ [x])) (hg : (wr.alloc o).grownBy w2 v.ownBlock) : F2 W1 rs (i + 1) v' (ys ++ [x]) w2 := by
  have hs := hb.size
  have hs1 := h.out.size
  have hgA := World.grownBy_alloc wr o none
  have hyl : ys.length = i := by have := h.row.1; omega
  have hvr : v.ownBlock = none ∨ v.ownBlock ≠ r.sl.ownBlock := by
    cases e : v.ownBlock with
    | none => exact .inl rfl
    | some g => exact .inr (fun e2 => by have := (h.row.lt g e).1; have := h0.lo' hr e2.symm; omega)
  have rowA : Sls W1.heap.size (wr.alloc o) v i ys := row_quiet (h.row.kept h3.ext.1 hvr) hgA
  have low : ∀ (j : Nat) (a : Rq), rs[j]? = some a → a.sl.ownBlock = none ∨ a.sl.ownBlock ≠ v.ownBlock := fun j a hj => by
    cases e : a.sl.ownBlock with
    | none => exact .inl rfl
    | some g => exact .inr (fun e2 => by have := (h.row.lt g e2.symm).1; have := h0.lo' hj e; omega)
  refine ⟨?_, fun j a hj => ?_, ho, fun j a u hj hu => ?_, fun j a hij hj => ?_⟩
  · refine ((h.out.grown h3.ext.1 (fun g e => .inl ⟨r, List.mem_of_getElem? hr, e⟩)).grown hgA (fun g e => by cases e)).grown hg (fun g e => .inr (h.row.lt g e).1)
  · rcases Classical.em (j = i) with e | e
    · subst e
      rw [hr] at hj
      cases hj
      exact (h3.has.quiet hgA).kept hg (low j r hr)
    · exact (((h.has j a hj).kept h3.ext.1 (h0.apart j i a r e hj hr)).quiet hgA).kept hg (low j a hj)
  · rcases Nat.lt_or_ge j i with hjk | hjk
    · rw [List.getElem?_append_left (by omega)] at hu
      obtain ⟨e1, e2⟩ := h.ext j a u hj hu
      have hne : u.ownBlock = none ∨ u.ownBlock ≠ r.sl.ownBlock := by
        cases e : u.ownBlock with
        | none => exact .inl rfl
        | some g =>
          refine .inr (fun e3 => ?_)
          rcases e2 g e with e4 | e4
          · rcases h0.apart j i a r (by omega) hj hr with e5 | e5
            · rw [e5] at e4; cases e4
            · exact e5 (e4.trans e3)
          · have := h0.lo' hr e3.symm; omega
      have o1 := (e1.kept h3.ext.1 hne).quiet hgA
      exact ⟨o1.kept hg (o1.has.ne_row rowA), e2⟩
    · have : j = i := by
        have := (List.getElem?_eq_some_iff.1 hu).1
        simp at this
        omega
      subst this
      rw [List.getElem?_append_right (by omega), hyl] at hu
      simp at hu
      rw [hr] at hj
      cases hj
      subst hu
      have o1 := h3.own.quiet hgA
      refine ⟨o1.kept hg (o1.has.ne_row rowA), fun g e => ?_⟩
      rcases h3.ext.2 g e with e2 | e2
      · exact .inl e2
      · exact .inr (by omega)
  · exact (((h.own j a (by omega) hj).kept h3.ext.1 (h0.apart j i a r (by omega) hj hr)).quiet hgA).kept hg (low j a hj)

theorem F2.quiet {W1 : World} {rs : List Rq} {i : Nat} {v : Value} {ys : List Value} {wr w' : World} (h : F2 W1 rs i v ys wr) (hg : wr.grownBy w' none) : F2 W1 rs i v ys w' :=
  ⟨h.out.grown hg (fun g e => by cases e), fun j r hj => (h.has j r hj).quiet hg, row_quiet h.row hg, fun j r u hj hu => ⟨(h.ext j r u hj hu).1.quiet hg, (h.ext j r u hj hu).2⟩, fun j r hij hj => (h.own j r hij hj).quiet hg⟩
/-- What is looked at when all have grown. -/
theorem F2.look {w W1 : World} {lo : Option Addr} {lc : Nat} {rs : List Rq} {wv v : Value} {gs ys : List Value} {wr : World} {k : Nat} {r : Rq} (h0 : F0 w (.slice lo rs.length lc) rs) (h1 : F1 w rs rs.length wv gs W1) (h : F2 W1 rs rs.length v ys wr) (hr : rs[k]? = some r) :
    ∃ lb wb wcap gc gb gcap yb ycap, lo = some ⟨lb, 0, none⟩ ∧ wr.cell? ⟨lb, k, none⟩ = some (.slice r.co r.cn r.cc) ∧ wv = .slice (some ⟨wb, 0, none⟩) rs.length wcap ∧ wr.cell? ⟨wb, k, none⟩ = some (.slice (some ⟨gc, 0, none⟩) r.cn (r.cn + 4)) ∧
      v = .slice (some ⟨gb, 0, none⟩) rs.length gcap ∧ wr.cell? ⟨gb, k, none⟩ = some (.slice (some ⟨yb, 0, none⟩) (r.cn + 64) ycap) ∧ r.cn ≤ 1000000 ∧ Shows wr.heap.size wr r.co r.cn r.cc r.C ∧ Shows wr.heap.size wr (some ⟨gc, 0, none⟩) r.cn (r.cn + 4) r.C ∧ ∀ t, t < 64 → wr.cell? ⟨yb, r.cn + t, none⟩ = some (.int .u8 ((mkB k : Nat) : Int)) := by
  have hk : k < rs.length := (List.getElem?_eq_some_iff.1 hr).1
  have hb := h1.bel
  have hlrow : Sls 0 wr (.slice lo rs.length lc) rs.length (rs.map Rq.sl) := h.out.row (row_quiet h0.row (below_none hb)) h0.off
  have hlow : ∀ g, w.heap.size ≤ g → ¬ inB rs g := fun g hg hi => by have := h0.lo hi; omega
  have hwrow : Sls w.heap.size wr wv rs.length gs := h.out.row h1.row (fun g e => hlow g (h1.row.lt g e).1)
  have hgl : gs.length = rs.length := by have := h1.row.1; omega
  have hyl : ys.length = rs.length := by have := h.row.1; omega
  have hgk : gs[k]? = some gs[k] := List.getElem?_eq_getElem (by omega)
  have hyk : ys[k]? = some ys[k] := List.getElem?_eq_getElem (by omega)
  obtain ⟨lb, lc', e1, c0⟩ := sls_at hlrow (i := k) (u := r.sl) (by rw [List.getElem?_map, hr]; rfl)
  cases e1
  obtain ⟨gc, eg, hgc, hL⟩ := h1.lent k r _ hr hgk
  obtain ⟨wb, wcap, e2, c1⟩ := sls_at hwrow hgk
  obtain ⟨gb, gcap, e3, c2⟩ := sls_at h.row hyk
  obtain ⟨ho, _⟩ := h.ext k r _ hr hyk
  rw [eg] at c1
  obtain ⟨ao, cap, e4, hs, _⟩ := (h.has k r hr).form
  have e' : Value.slice r.co r.cn r.cc = .slice ao r.C.length cap := e4
  simp only [Value.slice.injEq] at e'
  obtain ⟨e5, e6, e7⟩ := e'
  have hlen : (r.C ++ List.replicate 64 (mkB k)).length = r.cn + 64 := by simp [e6]
  obtain ⟨yo, ycap, e8, _, hyy⟩ := ho.has.form
  obtain ⟨yb, cur, e9, _, hyc⟩ := hyy (by omega)
  rw [e8, e9, hlen] at c2
  have hB : ∀ x ∈ r.C, x < 256 := (h.has k r hr).1
  refine ⟨lb, wb, wcap, gc, gb, gcap, yb, ycap, rfl, c0, e2, c1, e3, c2, by have := h0.cl k r hr; omega, by rw [e5, e6, e7]; exact hs, ?_, fun t ht => ?_⟩
  · refine Lent.shows (h.out.lent hL (hlow gc hgc)) hB (by have := h0.cl k r hr; omega)
  · rw [hyc _ (by omega)]
    congr 4
    rw [List.getD_eq_getElem?_getD, List.getElem?_append_right (by omega)]
    rw [List.getElem?_replicate, if_pos (by omega)]
    rfl

/-- While the lists are written full. -/
structure F4 (W2 : World) (lv : Value) (rs : List Rq) (i m : Nat) (wr : World) : Prop where
  out : Out (inB rs) W2 wr
  row : Sls 0 wr lv rs.length (rs.map Rq.sl)
  fil : ∀ (j : Nat) (r : Rq), rs[j]? = some r → ∃ D, Has wr r.sl D ∧ D.length = r.C.length ∧ ∀ t, t < (if j < i then r.C.length else if j = i then m else 0) → D.getD t 0 = flB j
theorem F4.start {W1 W2 : World} {lv v : Value} {rs : List Rq} {i : Nat} {ys : List Value} (h : F2 W1 rs i v ys W2) (hr : Sls 0 W2 lv rs.length (rs.map Rq.sl)) : F4 W2 lv rs 0 0 W2 :=
  ⟨Out.refl _ _, hr, fun j r hj => ⟨r.C, h.has j r hj, rfl, fun t ht => by rw [if_neg (by omega)] at ht; split at ht <;> omega⟩⟩
theorem F4.turn {W2 : World} {lv : Value} {rs : List Rq} {i : Nat} {wr : World} {r : Rq} (h : F4 W2 lv rs i r.C.length wr) (hr : rs[i]? = some r) : F4 W2 lv rs (i + 1) 0 wr :=
  ⟨h.out, h.row, fun j a hj => by
    obtain ⟨D, d1, d2, d3⟩ := h.fil j a hj
    refine ⟨D, d1, d2, fun t ht => d3 t ?_⟩
    rcases Nat.lt_trichotomy j i with e | e | e
    · rw [if_pos e]; rw [if_pos (by omega)] at ht; exact ht
    · subst e
      rw [hr] at hj
      cases hj
      rw [if_pos (by omega)] at ht
      rw [if_neg (by omega), if_pos rfl]; exact ht
    · rw [if_neg (by omega)] at ht
      split at ht <;> omega⟩
theorem F4.store {w W2 wr : World} {lv : Value} {rs : List Rq} {i m : Nat} {r : Rq} {g : Nat} (h0 : F0 w lv rs) (h : F4 W2 lv rs i m wr) (hr : rs[i]? = some r) (hm : m < r.C.length) (hg : r.sl.ownBlock = some g) : F4 W2 lv rs i (m + 1) (wr.setCell ⟨g, m, none⟩ (.int .u8 ((flB i : Nat) : Int))) := by
  have hgs := grown_set wr g m (.int .u8 ((flB i : Nat) : Int))
  refine ⟨h.out.grown hgs (fun q e => .inl ⟨r, List.mem_of_getElem? hr, by rw [hg]; exact e⟩), ?_, fun j a hj => ?_⟩
  · refine h.row.kept hgs ?_
    rcases Classical.em (lv.ownBlock = some g) with e | e
    · exact absurd ⟨r, List.mem_of_getElem? hr, hg⟩ (h0.off g e)
    · exact .inr e
  · obtain ⟨D, d1, d2, d3⟩ := h.fil j a hj
    rcases Classical.em (j = i) with e | e
    · subst e
      rw [hr] at hj
      cases hj
      refine ⟨D.set m (flB j), d1.store hg (flB_lt j), by simpa using d2, fun t ht => ?_⟩
      rw [if_neg (by omega), if_pos rfl] at ht
      rcases Nat.lt_or_ge t m with e | e
      · have h3 := d3 t (by rw [if_neg (by omega), if_pos rfl]; exact e)
        simp only [List.getD_eq_getElem?_getD] at h3 ⊢
        rw [List.getElem?_set_ne (by omega)]
        exact h3
      · obtain rfl : t = m := by omega
        simp only [List.getD_eq_getElem?_getD]
        rw [List.getElem?_set_self (by omega)]
        rfl
    · refine ⟨D, d1.kept hgs ?_, d2, fun t ht => d3 t ?_⟩
      · rcases h0.apart j i a r e hj hr with h1 | h1
        · exact .inl h1
        · exact .inr (by rw [← hg]; exact h1)
      · split at ht <;> simp_all
/-- What is written, and looked at, in the end. -/
theorem F4.look {w W2 : World} {lo : Option Addr} {lc : Nat} {rs : List Rq} {i m : Nat} {wr : World} {k : Nat} {r : Rq} (h0 : F0 w (.slice lo rs.length lc) rs) (h : F4 W2 (.slice lo rs.length lc) rs i m wr) (hr : rs[k]? = some r) :
    ∃ lb, lo = some ⟨lb, 0, none⟩ ∧ wr.cell? ⟨lb, k, none⟩ = some (.slice r.co r.cn r.cc) ∧ r.cn = r.C.length ∧ r.cn ≤ 1000000 ∧ (0 < r.cn → ∃ g, r.co = some ⟨g, 0, none⟩ ∧ ∀ t, t < r.cn → ∃ c : Nat, wr.cell? ⟨g, t, none⟩ = some (.int .u8 (c : Int)) ∧ wr.frozen? ⟨g, t, none⟩ = false ∧ (t < (if k < i then r.C.length else if k = i then m else 0) → c = flB k)) := by
  obtain ⟨lb, lc', e1, c0⟩ := sls_at h.row (i := k) (u := r.sl) (by rw [List.getElem?_map, hr]; rfl)
  cases e1
  obtain ⟨D, d1, d2, d3⟩ := h.fil k r hr
  obtain ⟨ao, cap, e4, hs, hh⟩ := d1.form
  have e' : Value.slice r.co r.cn r.cc = .slice ao D.length cap := e4
  simp only [Value.slice.injEq] at e'
  obtain ⟨e5, e6, e7⟩ := e'
  refine ⟨lb, rfl, c0, by omega, by have := h0.cl k r hr; omega, fun hp => ?_⟩
  obtain ⟨g, cur, e8, hg, hc⟩ := hh (by omega)
  exact ⟨g, e5.trans e8, fun t ht => ⟨_, hc t (by omega), block_free hg t, fun h => d3 t h⟩⟩
end Go.Proofs.YtldhafpeigdloaaGreatDoor
namespace Go.Proofs.YtldhafpeigdloaaGreatDoor
open Go.RowKit Crc

theorem sls_same {base base' n : Nat} {w w' : World} {lo : Option Addr} {lc : Nat} {xs : List Value} (_h : Sls base w (.slice lo n lc) n xs) (h' : Sls base' w' (.slice lo n lc) n xs) {k : Nat} {u : Value} (hu : xs[k]? = some u) : ∃ lb, lo = some ⟨lb, 0, none⟩ ∧ w'.cell? ⟨lb, k, none⟩ = some u := by
  obtain ⟨g, cap, e, hc⟩ := sls_at h' hu
  cases e
  exact ⟨g, rfl, hc⟩

end Go.Proofs.YtldhafpeigdloaaGreatDoor
namespace Go.Proofs.YtldhafpeigdloaaGreatDoor
open Go.RowKit Crc

theorem infoReqs : (Tryz.prog.info? 27).map (fun i => (i.zero, i.size, i.bytes)) = some (some (.slice none 0 0), 1, 24) := by kernel_rfl
/-- The numbers of requests. -/
def SqA (n m : Nat) (zs : List Value) : Prop := ∀ t, t < n → ∃ c : Nat, zs[t * 3 + 1]? = some (.int .u64 (c : Int)) ∧ (t < m → c = t + 1)
def SqB (n m : Nat) (zs : List Value) : Prop := (∀ t, t < n → zs[t * 3 + 1]? = some (.int .u64 ((t : Int) + 1))) ∧ ∀ t, t < m → zs[(n + t) * 3 + 1]? = some (.int .u64 (1000000 + (t : Int)))
def HasQ (w : World) (v : Value) (n : Nat) : Prop := v = .slice none 0 0 ∧ n = 0 ∨ ∃ g cap cur, v = .slice (some ⟨g, 0, none⟩) n cap ∧ w.heap[g]? = some (.cells cur 100 (0, 0)) ∧ ∀ t, t < n → cur[t * 3 + 1]? = some (.int .u64 ((t : Int) + 1))
theorem HasQ.kept {w w' : World} {v : Value} {n : Nat} {row : Option Nat} (h : HasQ w v n) (hg : w.grownBy w' row) (hne : v.ownBlock = none ∨ v.ownBlock ≠ row) : HasQ w' v n := by
  rcases h with h0 | ⟨g, cap, cur, rfl, h3, h4⟩
  · exact .inl h0
  · refine .inr ⟨g, cap, cur, rfl, (hg.block g (block_lt h3) ?_).trans h3, h4⟩
    rcases hne with hne | hne
    · cases hne
    · exact fun e => hne e
theorem HasQ.quiet {w w' : World} {v : Value} {n : Nat} (h : HasQ w v n) (hg : w.grownBy w' none) : HasQ w' v n := h.kept hg (by cases v.ownBlock <;> simp)
theorem HasQ.of {base n k m : Nat} {w w0 : World} {v x : Value} {zs zs' : List Value} (h0 : w0.ownsRow base 100 3 v n zs ∨ HasQ w0 v n) (hx : w.ownsRow base 100 3 x (n + k) zs') (hs : SqB n m zs') (he : x.ownBlock = v.ownBlock) : HasQ w v n := by
  have hv : v = .slice none 0 0 ∧ n = 0 ∨ ∃ g cap, v = .slice (some ⟨g, 0, none⟩) n cap := by
    rcases h0 with h0 | h0
    · rcases h0.2 with h1 | ⟨g, cap, cur, h1, _⟩
      · exact .inl h1
      · exact .inr ⟨g, cap, h1⟩
    · rcases h0 with h1 | ⟨g, cap, cur, h1, _⟩
      · exact .inl h1
      · exact .inr ⟨g, cap, h1⟩
  rcases hv with hv | ⟨g, cap, rfl⟩
  · exact .inl hv
  · rcases hx.2 with ⟨rfl, _⟩ | ⟨g', cap', cur', rfl, _, hg', _, _, _, ht⟩
    · cases he
    · cases he
      refine .inr ⟨g, cap, cur', rfl, hg', fun t htn => ?_⟩
      have h1 := hs.1 t htn
      rw [← ht, List.getElem?_take, if_pos (by omega)] at h1
      simpa using h1
/-- While the requests get their numbers. -/
def Q1 (w : World) (v : Value) (n m : Nat) (wr : World) : Prop := (∃ ys, wr.ownsRow 0 100 3 v n ys ∧ SqA n m ys) ∧ w.grownBy wr v.ownBlock
theorem Q1.store {w wr : World} {g cap n m : Nat} (h : Q1 w (.slice (some ⟨g, 0, none⟩) n cap) n m wr) (hm : m < n) : Q1 w (.slice (some ⟨g, 0, none⟩) n cap) n (m + 1) (wr.setCell ⟨g, m * 3 + 1, none⟩ (.int .u64 ((m : Int) + 1))) := by
  obtain ⟨⟨ys, h1, h2⟩, h3⟩ := h
  obtain ⟨s1, s2⟩ := h1.stored (m * 3 + 1) (.int .u64 ((m : Int) + 1))
  refine ⟨⟨_, s1, fun t ht => ?_⟩, grown_trans h3 s2⟩
  have hl : ys.length = n * 3 := h1.1
  rcases Classical.em (t = m) with e | e
  · subst e
    exact ⟨t + 1, by rw [List.getElem?_set_self (by omega)]; simp, fun _ => rfl⟩
  · obtain ⟨c, c1, c2⟩ := h2 t ht
    exact ⟨c, by rw [List.getElem?_set_ne (by omega)]; exact c1, fun h => c2 (by omega)⟩
theorem Q1.look {w wr : World} {g cap n m : Nat} (h : Q1 w (.slice (some ⟨g, 0, none⟩) n cap) n m wr) {t : Nat} (ht : t < n) : ∃ c : Nat, wr.cell? ⟨g, t * 3 + 1, none⟩ = some (.int .u64 (c : Int)) ∧ wr.frozen? ⟨g, t * 3 + 1, none⟩ = false := by
  obtain ⟨⟨ys, h1, h2⟩, h3⟩ := h
  obtain ⟨c, c1, _⟩ := h2 t ht
  exact ⟨c, (h1.cellAt _ (by omega)).trans c1, h1.frozenAt _⟩
/-- While the list of requests grows. -/
structure Q3 (wr0 : World) (v : Value) (n m : Nat) (x : Value) (wr : World) : Prop where
  ext : Ext wr0 wr v x
  own : ∃ zs, wr.ownsRow 0 100 3 x (n + m) zs ∧ SqB n m zs
  has : HasQ wr v n
  ty : x.ownBlock = v.ownBlock ∨ ∀ g, x.ownBlock = some g → wr0.heap.size ≤ g
theorem Q3.start {w wr0 : World} {v : Value} {n : Nat} (h : Q1 w v n n wr0) : Q3 wr0 v n 0 v wr0 := by
  obtain ⟨⟨ys, h1, h2⟩, h3⟩ := h
  have hs : SqB n 0 ys := ⟨fun t ht => by obtain ⟨c, c1, c2⟩ := h2 t ht; rw [c1, c2 ht]; simp, fun t ht => by omega⟩
  exact ⟨Ext.refl _ _, ⟨ys, h1, hs⟩, HasQ.of (.inl h1) (k := 0) h1 hs rfl, .inl rfl⟩
theorem Q3.next {wr0 : World} {v : Value} {n m : Nat} {x x' : Value} {wr w' : World} {o : Obj} {zs : List Value} (h : Q3 wr0 v n m x wr) (h0 : ∀ g, v.ownBlock = some g → g < wr0.heap.size) (hz : (wr.alloc o).ownsRow 0 100 3 x (n + m) zs) (hs : SqB n m zs)
    (ho : w'.ownsRow 0 100 3 x' (n + m + 1) (zs ++ [.int .u64 0, .int .u64 (1000000 + (m : Int)), .slice none 0 0])) (he : Ext (wr.alloc o) w' x x') (hm : x'.ownBlock = x.ownBlock ∨ (wr.alloc o).grownBy w' none) : Q3 wr0 v n (m + 1) x' w' := by
  have hgA := World.grownBy_alloc wr o none
  have hl : zs.length = (n + m) * 3 := hz.1
  have hs' : SqB n (m + 1) (zs ++ [.int .u64 0, .int .u64 (1000000 + (m : Int)), .slice none 0 0]) := by
    refine ⟨fun t ht => by rw [List.getElem?_append_left (by omega)]; exact hs.1 t ht, fun t ht => ?_⟩
    rcases Nat.lt_or_ge t m with e | e
    · rw [List.getElem?_append_left (by omega)]; exact hs.2 t e
    · obtain rfl : t = m := by omega
      rw [List.getElem?_append_right (by omega)]
      have e1 : (n + t) * 3 + 1 - zs.length = 1 := by omega
      rw [e1]
      rfl
  have hasA := h.has.quiet hgA
  have hE : Ext wr0 w' v x' := (h.ext.alloc o).trans he
  refine ⟨hE, ⟨_, ho, hs'⟩, ?_, ?_⟩
  · rcases hm with hm | hm
    · rcases h.ty with ht | ht
      · exact HasQ.of (zs := zs) (.inr h.has) (k := m + 1) ho hs' (hm.trans ht)
      · refine hasA.kept he.1 ?_
        cases e : v.ownBlock with
        | none => exact .inl rfl
        | some g => exact .inr (fun e2 => by have := ht g e2.symm; have := h0 g e; omega)
    · exact hasA.quiet hm
  · rcases hm with hm | hm
    · rcases h.ty with ht | ht
      · exact .inl (hm.trans ht)
      · exact .inr (fun g e => ht g (hm.symm.trans e))
    · rcases h.ty with ht | ht
      · rcases Classical.em (x'.ownBlock = v.ownBlock) with h1 | h1
        · exact .inl h1
        · refine .inr (fun g e => ?_)
          rcases hE.2 g e with h2 | h2
          · exact absurd (e.trans h2.symm) h1
          · exact h2
      · refine .inr (fun g e => ?_)
        rcases he.2 g e with h2 | h2
        · exact ht g h2
        · have := h.ext.1.size
          simp at h2
          omega
/-- All have grown: what is looked at. -/
structure Q5 (W1 : World) (v : Value) (n : Nat) (mb xb xc : Nat) (wr : World) : Prop where
  out : Out (fun q => v.ownBlock = some q) W1 wr
  more : wr.cell? ⟨mb, 0, none⟩ = some (.slice (some ⟨xb, 0, none⟩) (n + 64) xc)
  has : HasQ wr v n
  mar : ∀ t, t < 64 → wr.cell? ⟨xb, (n + t) * 3 + 1, none⟩ = some (.int .u64 (1000000 + (t : Int)))
theorem Q5.quiet {W1 : World} {v : Value} {n mb xb xc : Nat} {wr w' : World} (h : Q5 W1 v n mb xb xc wr) (hg : wr.grownBy w' none) : Q5 W1 v n mb xb xc w' :=
  ⟨h.out.grown hg (fun g e => by cases e), hg.cell h.more (by simp), h.has.quiet hg, fun t ht => hg.cell (h.mar t ht) (by simp)⟩
theorem ownsRow_one {base : Nat} {e : TypeId} {w : World} {v u : Value} (h : w.ownsRow base e 1 v 1 [u]) : ∃ g cap, v = .slice (some ⟨g, 0, none⟩) 1 cap ∧ base ≤ g ∧ w.cell? ⟨g, 0, none⟩ = some u ∧ ∃ cur, w.heap[g]? = some (.cells cur e (0, 0)) := by
  rcases h.2 with ⟨_, h0⟩ | ⟨g, cap, cur, rfl, hb, hg, hn, hc, hs, ht⟩
  · cases h0
  · refine ⟨g, cap, rfl, hb, ?_, cur, hg⟩
    rw [block_cell hg]
    have h1 := congrArg (fun l => l[0]?) ht
    simpa using h1
theorem Q5.of {W1 wr w2 : World} {v v' : Value} {n xg xc : Nat} {o : Obj} (h : Q3 W1 v n 64 (.slice (some ⟨xg, 0, none⟩) (n + 64) xc) wr) (ho : w2.ownsRow W1.heap.size 27 1 v' 1 [.slice (some ⟨xg, 0, none⟩) (n + 64) xc]) (hg : (wr.alloc o).grownBy w2 none) : ∃ mb mc, v' = .slice (some ⟨mb, 0, none⟩) 1 mc ∧ Q5 W1 v n mb xg xc w2 := by
  obtain ⟨mb, mc, e, hb, hc, _⟩ := ownsRow_one ho
  have hgA := World.grownBy_alloc wr o none
  have g2 := grown_quiet hgA hg
  refine ⟨mb, mc, e, ?_, hc, h.has.quiet g2, fun t ht => ?_⟩
  · exact (Out.refl _ W1 |>.grown h.ext.1 (fun g e => .inl e)).grown g2 (fun g e => by cases e)
  · obtain ⟨zs, z1, z2⟩ := h.own
    exact g2.cell ((z1.cellAt _ (by omega)).trans (z2.2 t ht)) (by simp)
theorem HasQ.look {w : World} {v : Value} {n t : Nat} (h : HasQ w v n) (ht : t < n) : ∃ g cap, v = .slice (some ⟨g, 0, none⟩) n cap ∧ w.cell? ⟨g, t * 3 + 1, none⟩ = some (.int .u64 ((t : Int) + 1)) := by
  rcases h with ⟨_, h0⟩ | ⟨g, cap, cur, e, h3, h4⟩
  · omega
  · exact ⟨g, cap, e, (block_cell h3 _).trans (h4 t ht)⟩
end Go.Proofs.YtldhafpeigdloaaGreatDoor
