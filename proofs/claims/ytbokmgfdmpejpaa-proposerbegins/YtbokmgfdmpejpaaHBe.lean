import Derived.Test.YtbokmgfdmpejpaaHBw
namespace Go.Proofs.Ytbokmgfdmpejpaa
open Go.RowKit

/-- The program's proposer, idle. -/
def paP (c : Cf) (me : Int) (n : Nat) (m : Int) (W : World) (a : Option Addr) : Prop := ∃ p g, a = some ⟨p, 0, none⟩ ∧ PP W p g c me n m
/-- The reference's. -/
def haP (c : Cf) (me : Int) (n : Nat) (m : Int) (W : World) (a : Option Addr) : Prop := ∃ q h, a = some ⟨q, 0, none⟩ ∧ RP W q h c me n m
theorem paP.kept {c : Cf} {me : Int} {n : Nat} {m : Int} {W W' : World} {a : Option Addr} (h : paP c me n m W a) (hb : Below W.heap.size W W') : paP c me n m W' a := by
  obtain ⟨p, g, e, h1⟩ := h
  exact ⟨p, g, e, h1.kept hb⟩
theorem haP.kept {c : Cf} {me : Int} {n : Nat} {m : Int} {W W' : World} {a : Option Addr} (h : haP c me n m W a) (hb : Below W.heap.size W W') : haP c me n m W' a := by
  obtain ⟨p, g, e, h1⟩ := h
  exact ⟨p, g, e, h1.kept hb⟩
theorem likeP_ok {c : Cf} {me : Int} {n : Nat} {m : Int} {W : World} {a b : Option Addr} (h : paP c me n m W a) (h' : haP c me n m W b) : LikeP W a b := by
  obtain ⟨p, g, rfl, hp⟩ := h
  obtain ⟨q, h, rfl, hr⟩ := h'
  exact .inr ⟨p, q, rfl, rfl, like_idle hp hr⟩
theorem rds_nil (w : World) : Rds w.heap.size w none [] 0 0 := ⟨fun h => absurd h (by simp), fun h => absurd h (by simp), by simp, fun i f hi => by simp at hi⟩
/-- What refuses, at the program: as begins_any wants it. -/
theorem pno {W : World} {L : List Lk} {k : Int} {f : Nat} {args : Array Value} (hL : 0 < L.length) (hL2 : L.length ≤ 11) (hk : k ≠ 0)
    (h : Calls Try.prog f args W fun e w' => ∃ g, e = .returned (.tuple #[.pointer none, .iface 155 (.pointer (some ⟨g, 0, none⟩))]) ∧ Hid (Chain w'.heap.size w' L (.iface 155 (.pointer (some ⟨g, 0, none⟩))) k ∧ Below W.heap.size W w')) :
    Calls Try.prog f args W fun e w' => ∃ a, PNewP W (.pointer a) L k e w' ∧ Hid (a = none) :=
  h.mono fun _ _ ⟨_, h1, h2⟩ => ⟨none, ⟨_, h1, .inr ⟨h2.out.1, hL, hL2, hk⟩, h2.out.2⟩, rfl⟩
theorem rno {W : World} {L : List Lk} {k : Int} {f : Nat} {args : Array Value} (h : Calls Try.prog f args W (RNewP W (.pointer none) L k)) : Calls Try.prog f args W fun e w' => ∃ a, RNewP W (.pointer a) L k e w' ∧ Hid (a = none) :=
  h.mono fun _ _ h1 => ⟨none, h1, rfl⟩
theorem begins_no (c : Cf) (me : Int) (sl : Value) (L : List Lk) (k : Int) (hL : 0 < L.length) (hL2 : L.length ≤ 11) (hk : k ≠ 0)
    (hP : ∀ (s : Value) W, Calls Try.prog 18 #[.agg c.cells, .int .i64 me, s] W fun e w' => ∃ g, e = .returned (.tuple #[.pointer none, .iface 155 (.pointer (some ⟨g, 0, none⟩))]) ∧ Hid (Chain w'.heap.size w' L (.iface 155 (.pointer (some ⟨g, 0, none⟩))) k ∧ Below W.heap.size W w'))
    (hR : ∀ W, Calls Try.prog 8 #[.agg c.cells, .int .i64 me] W (RNewP W (.pointer none) L k)) (w : World) :
    Calls Try.prog 3 #[.agg c.cells, .int .i64 me, sl] w fun e w' => e = .returned (.bool true) ∧ Below w.heap.size w w' :=
  begins_any c me sl w L k (fun _ a => a = none) (fun _ a => a = none) hL2 (fun W _ => pnew_of c me W L k _ (fun W => pno hL hL2 hk (hP _ W))) (fun W _ => rno (hR W)) (fun _ _ _ h _ => h) (fun _ _ _ h _ => h) (fun _ _ _ h h' => .inl ⟨h, h'⟩)
    (fun W _ => (begin_any c me sl W L k (fun _ a => a = none) (fun _ a => a = none) hL2 (fun W _ => pno hL hL2 hk (hP _ W)) (fun W _ => rno (rrec_no c me sl L k hk hR W)) (fun _ _ _ h _ => h) (fun _ _ _ h _ => h) (fun _ _ a b h h' => by rw [h, h'])).mono fun _ _ ⟨a, b, h1, h2⟩ => ⟨a, b, h1, .inl ⟨h2.out.1, h2.out.2.1⟩, h2.out.2.2⟩)
theorem begins_walk (c : Cf) (hin : c.In) (me : Int) {ao : Option Addr} {rs : List Rd} {b off : Nat} (len cap : Nat) (hlen : rs.length = len) (w : World) (hR : Rds w.heap.size w ao rs b off) (hnm : ∀ f ∈ rs, f.num < 18446744073709551616) :
    Calls Try.prog 3 #[.agg c.cells, .int .i64 me, .slice ao len cap] w fun e w' => e = .returned (.bool true) ∧ Below w.heap.size w w' := by
  rcases badOf_cases c with hk | ⟨k, hk⟩
  · cases hn : c.node me with
    | false => exact begins_no c me _ [⟨proposerN, 1⟩] 182 (by simp) (by simp) (by omega) (fun s W => rec_node c hin hk me hn s W) (fun W => rnew_node c hk me hn W) w
    | true =>
      refine begins_any c me _ w [] 0 (paP c me 0 0) (haP c me 0 0) (by simp) (fun W _ => pnew_of c me W [] 0 _ (fun W => ?_)) (fun W _ => ?_) (fun _ _ _ h hb => h.kept hb) (fun _ _ _ h hb => h.kept hb) (fun _ _ _ h h' => likeP_ok h h') (fun W hW => ?_)
      · refine (rec_any c hin hk me hn 0 0 rfl W (rds_nil W) (fun f hf => by simp at hf)).mono fun e w' h => ?_
        obtain ⟨p, g, h1, h2⟩ := (h : ∃ p g, e = .returned (.tuple #[.pointer (some ⟨p, 0, none⟩), .nilIface]) ∧ Hid (PP w' p g c me 0 0 ∧ Below W.heap.size W w'))
        exact ⟨_, ⟨_, h1, .inl ⟨rfl, rfl, rfl⟩, h2.out.2⟩, p, g, rfl, h2.out.1⟩
      · exact (rnew_ok c hk me hn W).mono fun _ _ ⟨q, h, h1, h2⟩ => ⟨_, h1, q, h, rfl, h2.out.1⟩
      · have hP := fun W' (hb : Below W.heap.size W W') => rec_any c hin hk me hn len cap hlen W' ((hR.below (hW.trans (hb.mono hW.size))).wide (hW.trans (hb.mono hW.size)).size) hnm
        have hQ := fun W' (hb : Below W.heap.size W W') => rrec_any c hk me hn len cap hlen W' ((hR.below (hW.trans (hb.mono hW.size))).wide (hW.trans (hb.mono hW.size)).size) hnm
        unfold RecP at hP
        unfold RRecP at hQ
        cases hs : scan c me 0 0 0 rs with
        | inl i =>
          rw [hs] at hP hQ
          exact (begin_any c me _ W [⟨proposerN, (i : Int)⟩] 220 (fun _ a => a = none) (fun _ a => a = none) (by simp) (fun W' hb => pno (by simp) (by simp) (by omega) (hP W' hb)) (fun W' hb => rno (hQ W' hb)) (fun _ _ _ h _ => h) (fun _ _ _ h _ => h) (fun _ _ a b h h' => by rw [h, h'])).mono fun _ _ ⟨a, b, h1, h2⟩ => ⟨a, b, h1, .inl ⟨h2.out.1, h2.out.2.1⟩, h2.out.2.2⟩
        | inr bb =>
          rw [hs] at hP hQ
          exact (begin_any c me _ W [] 0 (paP c me bb.1 bb.2) (haP c me bb.1 bb.2) (by simp)
            (fun W' hb => (hP W' hb).mono fun _ _ ⟨p, g, h1, h2⟩ => ⟨_, ⟨_, h1, .inl ⟨rfl, rfl, rfl⟩, h2.out.2⟩, p, g, rfl, h2.out.1⟩)
            (fun W' hb => (hQ W' hb).mono fun _ _ ⟨q, h, h1, h2⟩ => ⟨_, h1, q, h, rfl, h2.out⟩)
            (fun _ _ _ h hb => h.kept hb) (fun _ _ _ h hb => h.kept hb) (fun _ _ a b h h' => by obtain ⟨_, _, rfl, _⟩ := h; obtain ⟨_, _, rfl, _⟩ := h'; rfl)).mono fun _ _ ⟨a, b, h1, h2⟩ => ⟨a, b, h1, likeP_ok h2.out.1 h2.out.2.1, h2.out.2.2⟩
  · exact begins_no c me _ [⟨proposerN, 0⟩, ⟨ballotN, (k : Int)⟩] 180 (by simp) (by simp) (by omega) (fun s W => rec_bad c hin k hk me s W) (fun W => rnew_bad c k hk me W) w
end Go.Proofs.Ytbokmgfdmpejpaa
