import Derived.Test.YtojknconkmplkaaLMa
import Derived.Test.YtojknconkmplkaaMM
import Derived.Test.YtojknconkmplkaaBMb
import Derived.Deep.RegionHeld3
import Derived.Maps.AppendAt
namespace Go.Proofs.Ytojknconkmplkaa
open Go.RowKit Crc

/-- A tally as it is told. -/
structure Ty where
  (slot num : Nat) (node : Int) (fr st : Nat) (ro : Option Addr) (n rc : Nat) (dn : Bool)
def Ty.cells (t : Ty) : List Value := [.int .u64 (t.slot : Nat), .int .u64 (t.num : Nat), .int .i64 t.node, .int .u32 (t.fr : Nat), .int .u64 (t.st : Nat), .slice t.ro t.n t.rc, .bool t.dn]
def tcells (ts : List Ty) : List Value := (ts.map Ty.cells).flatten
theorem tcells_snoc (ts : List Ty) (t : Ty) : tcells (ts ++ [t]) = tcells ts ++ t.cells := by simp [tcells]
theorem tcells_at : ∀ (ts : List Ty) (i : Nat) (t : Ty), ts[i]? = some t → ∀ j v, t.cells[j]? = some v → (tcells ts)[i * 7 + j]? = some v
  | [], i, t, h, j, v, hv => by simp at h
  | a :: r, 0, t, h, j, v, hv => by
    simp at h
    subst h
    have hj : j < a.cells.length := (List.getElem?_eq_some_iff.1 hv).1
    show (a.cells ++ tcells r)[0 * 7 + j]? = some v
    rw [Nat.zero_mul, Nat.zero_add, List.getElem?_append_left hj]
    exact hv
  | a :: r, i + 1, t, h, j, v, hv => by
    have h' : r[i]? = some t := by simpa using h
    have := tcells_at r i t h' j v hv
    show (a.cells ++ tcells r)[(i + 1) * 7 + j]? = some v
    have e : (i + 1) * 7 + j = a.cells.length + (i * 7 + j) := by simp [Ty.cells]; omega
    rw [e, List.getElem?_append_right (by omega), Nat.add_sub_cancel_left]
    exact this
/-- It tells what the learner holds of x. -/
structure ToldT (c : Cf) (u : Nat → Jv) (x : Nat) (t : Ty) : Prop where
  slot : t.slot = x
  num : t.num = (u x).num
  node : t.node = (u x).node
  fr : t.fr = (u x).fr
  st : t.st = (u x).st
  dn : t.dn = c.maj (u x).fr
theorem nodup_few : ∀ (n : Nat) (l : List Nat), l.Nodup → (∀ x ∈ l, x < n) → l.length ≤ n
  | 0, l, _, h => by
    cases l with
    | nil => simp
    | cons a r => exact absurd (h a (by simp)) (by omega)
  | n + 1, l, hn, h => by
    have h1 := nodup_few n (l.erase n) (hn.erase n) (fun x hx => by
      have hm := (hn.mem_erase_iff.1 hx)
      have := h x hm.2
      omega)
    by_cases hm : n ∈ l
    · rw [List.length_erase_of_mem hm] at h1; omega
    · rw [List.erase_of_not_mem hm] at h1; omega
theorem infoTally : (Try.prog.info? 87).map (fun i => (i.zero, i.size, i.bytes)) = some (some (.agg #[.int .u64 0, .int .u64 0, .int .i64 0, .int .u32 0, .int .u64 0, .slice none 0 0, .bool false]), 7, 72) := by kernel_rfl
theorem cell_new7 (W : World) (t : Ty) (y : TypeId) : ∀ (j : Nat) (u : Value), t.cells[j]? = some u → (W.alloc (.cells t.cells.toArray y)).cell? (Addr.add ⟨W.heap.size, 0, none⟩ j) = some u := by
  intro j u hj
  rw [Addr.add_mid, Nat.zero_add, block_cell (alloc_atK W (.cells t.cells.toArray y)) j, List.getElem?_toArray]
  exact hj
/-- Between two rounds of State. -/
structure Sl (w : World) (c : Cf) (u : Nat → Jv) (ks : List Nat) (bs kb sb low : Nat) (k : Nat) (v : Value) (ts : List Ty) (wr : World) : Prop where
  bel : Below w.heap.size w wr
  box : wr.heap[sb]? = some (.cells #[.int .u64 (low : Nat), v] 55 (0, 0))
  res : wr.heap[w.heap.size]? = some (.cells #[.int .u64 0, .slice none 0 0] 55 (0, 0))
  row : wr.ownsRow bs 87 7 v k (tcells ts)
  len : ts.length = k
  told : ∀ (i : Nat) (t : Ty) (x : Nat), ts[i]? = some t → ks[i]? = some x → ToldT c u x t
  bt : ∀ (i : Nat) (t : Ty), ts[i]? = some t → ∃ lo hi, hi ≤ wr.heap.size ∧ (∀ q, v.ownBlock = some q → ¬ (lo ≤ q ∧ q < hi)) ∧ (sb < lo) ∧ BtOn lo hi wr t.st (.slice t.ro t.n t.rc) (u t.slot).rs
  keys : ∀ (i x : Nat), ks[i]? = some x → wr.cell? ⟨kb, i, none⟩ = some (.int .u64 (x : Nat))
  sz : bs ≤ wr.heap.size
theorem row_lt {base size k : Nat} {e : TypeId} {w : World} {v : Value} {xs : List Value} (h : w.ownsRow base e size v k xs) {q : Nat} (hq : v.ownBlock = some q) : base ≤ q ∧ q < w.heap.size := by
  rcases h.2 with ⟨rfl, _⟩ | ⟨g, cap, cur, rfl, hbg, hb, _⟩
  · cases hq
  · cases hq
    exact ⟨hbg, block_lt hb⟩
theorem Sl.next {w : World} {c : Cf} {u : Nat → Jv} {ks : List Nat} {bs kb sb low : Nat} {k : Nat} {v v' : Value} {ts : List Ty} {wr w1 w3 w5 w6 : World} {o : Obj} {x : Nat} {t : Ty}
    (h : Sl w c u ks bs kb sb low k v ts wr) (hx : ks[k]? = some x) (ht : ToldT c u x t) (hsb : w.heap.size < sb ∧ sb < bs) (hkb : 0 < ks.length → kb < bs ∧ kb ≠ sb ∧ w.heap.size ≤ kb)
    (b1 : Below wr.heap.size wr w1) (b3 : Below w1.heap.size w1 w3) (hbt : BtOn w1.heap.size w3.heap.size w3 t.st (.slice t.ro t.n t.rc) (u t.slot).rs) (b5 : Below w3.heap.size w3 w5)
    (ho : w6.ownsRow bs 87 7 v' (k + 1) (tcells ts ++ t.cells)) (hg : (w5.alloc o).grownBy w6 v.ownBlock) (hv : v'.ownBlock = v.ownBlock ∨ v'.ownBlock = some (w5.alloc o).heap.size) :
    (w6.cell? ⟨sb, 1, none⟩ = some v ∧ w6.frozen? ⟨sb, 1, none⟩ = false ∧ sb < w6.heap.size) ∧ Sl w c u ks bs kb sb low (k + 1) v' (ts ++ [t]) (w6.setCell ⟨sb, 1, none⟩ v') := by
  have s0 := h.bel.size
  have s1 := b1.size
  have s3 := b3.size
  have s5 := b5.size
  have sA : (w5.alloc o).heap.size = w5.heap.size + 1 := by simp
  have s6 := hg.size
  have bA : Below wr.heap.size wr (w5.alloc o) := (b1.trans ((b3.trans (b5.mono s3)).mono s1)).trans (((Below.refl _ w5).alloc (Nat.le_refl _) o).mono (by omega))
  have rowW := h.row
  have hown : ∀ q, v.ownBlock = some q → bs ≤ q ∧ q < wr.heap.size := fun q hq => row_lt rowW hq
  have hsz := h.sz
  -- blocks below wr's size other than the row are kept up to w6
  have keep6 : ∀ q, q < wr.heap.size → v.ownBlock ≠ some q → w6.heap[q]? = wr.heap[q]? := fun q hq hn => (hg.block q (by have := bA.size; omega) (fun e => hn e.symm)).trans (bA.block q hq)
  have hnsb : v.ownBlock ≠ some sb := fun e => by have := (hown sb e).1; omega
  have hlsb : sb < wr.heap.size := block_lt h.box
  have box6 : w6.heap[sb]? = some (.cells #[.int .u64 (low : Nat), v] 55 (0, 0)) := (keep6 sb hlsb hnsb).trans h.box
  have gs := grown_set w6 sb 1 v'
  have keep7 : ∀ q, q ≠ sb → q < w6.heap.size → (w6.setCell ⟨sb, 1, none⟩ v').heap[q]? = w6.heap[q]? := fun q hn hq => gs.block q hq (fun e => hn (Option.some.inj e))
  refine ⟨⟨block_cell box6 1, block_free box6 1, block_lt box6⟩, ⟨?_, ?_, ?_, ?_, by simp [h.len], fun i t' x' hi hx' => ?_, fun i t' hi => ?_, fun i x' hi => ?_, ?_⟩⟩
  · have f : Below w.heap.size w w6 := ⟨hg.os.trans (bA.os.trans h.bel.os), hg.tape.trans (bA.tape.trans h.bel.tape), hg.output.trans (bA.output.trans h.bel.output), by omega, fun q hq => (keep6 q (by omega) (fun e => by have := (hown q e).1; omega)).trans (h.bel.block q hq)⟩
    exact f.setCell (p := ⟨sb, 1, none⟩) (by show w.heap.size ≤ sb; omega) _
  · exact heap_setCell_same w6 sb 1 _ _ v' box6
  · rw [keep7 _ (by omega) (by omega), keep6 _ (by omega) (fun e => by have := (hown _ e).1; omega)]
    exact h.res
  · rw [tcells_snoc]
    refine ho.kept gs (.inr (fun e => ?_))
    rcases hv with hv | hv
    · rw [hv] at e; exact hnsb e
    · rw [hv] at e; have := Option.some.inj e; omega
  · by_cases hi' : i < ts.length
    · rw [List.getElem?_append_left hi'] at hi
      exact h.told i t' x' hi hx'
    · rw [List.getElem?_append_right (by omega)] at hi
      have e : i - ts.length = 0 := by
        have := (List.getElem?_eq_some_iff.1 hi).1
        simp at this
        omega
      rw [e] at hi
      simp at hi
      subst hi
      have : i = k := by have := h.len; omega
      subst this
      rw [hx] at hx'
      cases hx'
      exact ht
  · have hsz7 : (w6.setCell ⟨sb, 1, none⟩ v').heap.size = w6.heap.size := by simp
    by_cases hi' : i < ts.length
    · rw [List.getElem?_append_left hi'] at hi
      obtain ⟨lo, hi2, h1, h2, h3, h4⟩ := h.bt i t' hi
      refine ⟨lo, hi2, by omega, fun q hq => ?_, h3, h4.next (by omega) (fun q j u' hq1 hq2 hc => ?_)⟩
      · rcases hv with hv | hv
        · rw [hv] at hq; exact h2 q hq
        · rw [hv] at hq; have := Option.some.inj hq; omega
      · have e1 : (w6.setCell ⟨sb, 1, none⟩ v').heap[q]? = wr.heap[q]? := (keep7 q (by omega) (by omega)).trans (keep6 q (by omega) (fun e => h2 q e ⟨hq1, hq2⟩))
        rw [← hc]
        simp [World.cell?, e1]
    · rw [List.getElem?_append_right (by omega)] at hi
      have e : i - ts.length = 0 := by
        have := (List.getElem?_eq_some_iff.1 hi).1
        simp at this
        omega
      rw [e] at hi
      simp at hi
      subst hi
      refine ⟨w1.heap.size, w3.heap.size, by omega, fun q hq => ?_, by omega, hbt.next (by omega) (fun q j u' hq1 hq2 hc => ?_)⟩
      · rcases hv with hv | hv
        · rw [hv] at hq; have := (hown q hq).2; omega
        · rw [hv] at hq; have := Option.some.inj hq; omega
      · have e0 : (w5.alloc o).heap[q]? = w3.heap[q]? := (Below.heap_alloc _ _ _ (by omega)).trans (b5.block q hq2)
        have e1 : w6.heap[q]? = w3.heap[q]? := (hg.block q (by omega) (fun e => by have := (hown q e.symm).2; omega)).trans e0
        have e2 := (keep7 q (by omega) (by omega)).trans e1
        rw [← hc]
        simp [World.cell?, e2]
  · have hp : 0 < ks.length := by have := (List.getElem?_eq_some_iff.1 hi).1; omega
    obtain ⟨p1, p2, p3⟩ := hkb hp
    have e2 := (keep7 kb p2 (by omega)).trans (keep6 kb (by omega) (fun e => by have := (hown kb e).1; omega))
    rw [← h.keys i x' hi]
    simp [World.cell?, e2]
  · have : (w6.setCell ⟨sb, 1, none⟩ v').heap.size = w6.heap.size := by simp
    omega
end Go.Proofs.Ytojknconkmplkaa
