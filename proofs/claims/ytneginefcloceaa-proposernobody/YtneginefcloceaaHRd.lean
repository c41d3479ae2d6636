import Derived.Test.YtneginefcloceaaHRf
namespace Go.Proofs.Ytneginefcloceaa
open Go.RowKit

/-- A record as it lies; its lists are not looked at. -/
structure Rd where
  (k : Int) (num : Nat) (node : Int) (slot st : Nat) (ro : Option Addr) (rl rc : Nat) (eo : Option Addr) (el ec : Nat)
def Rd.cells (f : Rd) : Array Value := #[.int .i64 f.k, .int .u64 (f.num : Nat), .int .i64 f.node, .int .u64 (f.slot : Nat), .int .u64 (f.st : Nat), .slice f.ro f.rl f.rc, .slice f.eo f.el f.ec]
structure Rds (lim : Nat) (W : World) (ao : Option Addr) (rs : List Rd) (b off : Nat) : Prop where
  ad : 0 < rs.length → ao = some ⟨b, off, none⟩
  lt : 0 < rs.length → b < lim
  le : rs.length ≤ 140737488355328
  at_ : ∀ (i : Nat) (f : Rd), rs[i]? = some f → ∀ (j : Nat) (v : Value), f.cells[j]? = some v → W.cell? ⟨b, off + i * 7 + j, none⟩ = some v
theorem Rds.below {lim : Nat} {W W' : World} {ao : Option Addr} {rs : List Rd} {b off : Nat} (h : Rds lim W ao rs b off) (hb : Below lim W W') : Rds lim W' ao rs b off :=
  ⟨h.ad, h.lt, h.le, fun i f hi j v hj => (hb.cell (p := ⟨b, _, none⟩) (h.lt (by have := (List.getElem?_eq_some_iff.1 hi).1; omega))).trans (h.at_ i f hi j v hj)⟩
theorem Rds.wide {lim lim' : Nat} {W : World} {ao : Option Addr} {rs : List Rd} {b off : Nat} (h : Rds lim W ao rs b off) (hl : lim ≤ lim') : Rds lim' W ao rs b off := ⟨h.ad, fun e => Nat.lt_of_lt_of_le (h.lt e) hl, h.le, h.at_⟩
theorem Rds.get {lim : Nat} {W : World} {ao : Option Addr} {rs : List Rd} {b off : Nat} (h : Rds lim W ao rs b off) {k : Nat} (hk : k < rs.length) : ∃ kd num node slot st ro rl rc eo el ec, rs[k]? = some ⟨kd, num, node, slot, st, ro, rl, rc, eo, el, ec⟩ ∧ ao = some ⟨b, off, none⟩ ∧ b < lim ∧
    W.cell? ⟨b, off + k * 7, none⟩ = some (.int .i64 kd) ∧ W.cell? ⟨b, off + k * 7 + 1, none⟩ = some (.int .u64 (num : Nat)) ∧ W.cell? ⟨b, off + k * 7 + 2, none⟩ = some (.int .i64 node) ∧ W.cell? ⟨b, off + k * 7 + 3, none⟩ = some (.int .u64 (slot : Nat)) ∧
    W.cell? ⟨b, off + k * 7 + 4, none⟩ = some (.int .u64 (st : Nat)) ∧ W.cell? ⟨b, off + k * 7 + 5, none⟩ = some (.slice ro rl rc) ∧ W.cell? ⟨b, off + k * 7 + 6, none⟩ = some (.slice eo el ec) := by
  obtain ⟨f, hf⟩ : ∃ f, rs[k]? = some f := ⟨_, List.getElem?_eq_getElem hk⟩
  have hc := h.at_ k f hf
  obtain ⟨kd, num, node, slot, st, ro, rl, rc, eo, el, ec⟩ := f
  exact ⟨kd, num, node, slot, st, ro, rl, rc, eo, el, ec, hf, h.ad (by omega), h.lt (by omega), hc 0 _ rfl, hc 1 _ rfl, hc 2 _ rfl, hc 3 _ rfl, hc 4 _ rfl, hc 5 _ rfl, hc 6 _ rfl⟩
/-- Is a record's ballot none of me's? -/
def Cf.stray (c : Cf) (me : Int) (n : Nat) (m : Int) : Bool := decide (m ≠ me) || !c.led n m
/-- What Recover finds: the place of the first record that may not be, or the greatest ballot. -/
def scan (c : Cf) (me : Int) : Nat → Nat → Int → List Rd → Sum Nat (Nat × Int)
  | _, n, m, [] => .inr (n, m)
  | i, n, m, f :: t => if f.k ≠ 3 then scan c me (i + 1) n m t else if c.stray me f.num f.node = true then .inl i
    else if cmpB n m f.num f.node < 0 then scan c me (i + 1) f.num f.node t else scan c me (i + 1) n m t
theorem scan_end (c : Cf) (me : Int) (n : Nat) (m : Int) (rs : List Rd) {k : Nat} (h : rs.length ≤ k) : scan c me k n m (rs.drop k) = .inr (n, m) := by
  rw [List.drop_eq_nil_of_le h]; rfl
theorem scan_at {c : Cf} {me : Int} {n : Nat} {m : Int} {rs : List Rd} {k : Nat} {f : Rd} (h : rs[k]? = some f) : scan c me k n m (rs.drop k) = if f.k ≠ 3 then scan c me (k + 1) n m (rs.drop (k + 1)) else if c.stray me f.num f.node = true then .inl k
    else if cmpB n m f.num f.node < 0 then scan c me (k + 1) f.num f.node (rs.drop (k + 1)) else scan c me (k + 1) n m (rs.drop (k + 1)) := by
  obtain ⟨hk, e⟩ := List.getElem?_eq_some_iff.1 h
  rw [List.drop_eq_getElem_cons hk, e]
  rfl
theorem PP.ne {W : World} {p g : Nat} {c : Cf} {me : Int} {n : Nat} {m : Int} (h : PP W p g c me n m) : g ≠ p := fun e => by
  obtain ⟨q, e1, h2⟩ := h.grp
  cases e1
  have h1 := h.blk
  rw [e] at h2
  rw [h2] at h1
  cases h1
theorem PP.set {W : World} {p g : Nat} {c : Cf} {me : Int} {n : Nat} {m : Int} (h : PP W p g c me n m) (n' : Nat) (m' : Int) : PP ((W.setCell ⟨p, 2, none⟩ (.int .u64 (n' : Nat))).setCell ⟨p, 3, none⟩ (.int .i64 m')) p g c me n' m' := by
  refine ⟨?_, ?_⟩
  · exact heap_setCell_same _ p 3 _ _ _ (heap_setCell_same W p 2 _ _ (.int .u64 (n' : Nat)) h.blk)
  · obtain ⟨q, e1, h2⟩ := h.grp
    cases e1
    refine ⟨g, rfl, ?_⟩
    have g1 := grown_trans (grown_set W p 2 (.int .u64 (n' : Nat))) (grown_set _ p 3 (.int .i64 m'))
    exact (g1.block _ (block_lt h2) (fun e => h.ne (by cases e; rfl))).trans h2
end Go.Proofs.Ytneginefcloceaa
