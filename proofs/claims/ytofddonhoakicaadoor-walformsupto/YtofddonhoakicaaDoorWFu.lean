import Derived.Test.YtofddonhoakicaaDoorWRt
import Derived.Test.YtofddonhoakicaaDoorWAw
namespace Go.Proofs.YtofddonhoakicaaDoor
open Go.RowKit Crc

def ErrP (w : World) (L : List Lk) (c : Int) (v : Value) : Prop := (v = .nilIface ∧ L = [] ∧ c = 0) ∨ (Chain w.heap.size w L v c ∧ 0 < L.length ∧ L.length ≤ 11 ∧ c ≠ 0)
theorem ErrP.below {w w' : World} {L : List Lk} {c : Int} {v : Value} (h : ErrP w L c v) (hb : Below w.heap.size w w') : ErrP w' L c v := by
  rcases h with h | ⟨h1, h2⟩
  · exact .inl h
  · exact .inr ⟨(Chain.below hb h1).wide hb.size, h2⟩
theorem Chain.grown {lim p : Nat} {W W' : World} {cs : Array Value} {t : TypeId} (hg : W.grownBy W' (some p)) (hp : W.heap[p]? = some (.cells cs t (0, 0))) (hc : ∀ (i : Nat) (s : ByteArray), cs[i]? ≠ some (.string s)) : ∀ {L : List Lk} {v : Value} {c : Int}, Chain lim W L v c → Chain lim W' L v c
  | [], _, _, h => h
  | _ :: _, _, _, h => by
    obtain ⟨g, u, e, hgl, c0, c1, c2, h⟩ := h
    have hne : some g ≠ some p := fun e => by
      cases e
      rw [block_cell hp] at c0
      exact hc _ _ c0
    exact ⟨g, u, e, hgl, hg.cell c0 hne, hg.cell c1 hne, hg.cell c2 hne, Chain.grown hg hp hc h⟩
theorem ErrP.grown {w w' : World} {p : Nat} {cs : Array Value} {t : TypeId} {L : List Lk} {c : Int} {v : Value} (h : ErrP w L c v) (hg : w.grownBy w' (some p)) (hp : w.heap[p]? = some (.cells cs t (0, 0))) (hc : ∀ (i : Nat) (s : ByteArray), cs[i]? ≠ some (.string s)) : ErrP w' L c v := by
  rcases h with h | ⟨h1, h2⟩
  · exact .inl h
  · exact .inr ⟨(Chain.grown hg hp hc h1).wide hg.size, h2⟩
theorem wfault_chain {w : World} {v : Value} {c : Int} (h : WFault w v 0 c) : Chain w.heap.size w [⟨walN, 0⟩] v c := by
  obtain ⟨g, e, h0, h1, h2⟩ := h
  have hlt : g < w.heap.size := by
    rcases Nat.lt_or_ge g w.heap.size with h | h
    · exact h
    · simp [World.cell?, Array.getElem?_eq_none h] at h0
  exact ⟨g, _, e, hlt, h0, h1, h2, rfl⟩
/-- Bytes and an error. -/
def EfP (w : World) (B : List Nat) (L : List Lk) (c : Int) (e : Ending) (w' : World) : Prop := ∃ ao cap ev, e = .returned (.tuple #[.slice ao B.length cap, ev]) ∧ Hid (Owns w.heap.size w' (.slice ao B.length cap) B ∧ ErrP w' L c ev ∧ Below w.heap.size w w')
theorem efp_ok {P : Program} {f : FuncId} {args : Array Value} {w : World} {B : List Nat} (h : Calls P f args w fun e w' => ∃ v', e = .returned (.tuple #[v', .nilIface]) ∧ Owns w.heap.size w' v' B ∧ Below w.heap.size w w') : Calls P f args w (EfP w B [] 0) := by
  refine h.mono ?_
  rintro e w' ⟨v, rfl, ho, hb⟩
  obtain ⟨ao, cap, rfl, _, _⟩ := ho.form
  exact ⟨ao, cap, _, rfl, ho, .inl ⟨rfl, rfl, rfl⟩, hb⟩
theorem efp_no {P : Program} {f : FuncId} {args : Array Value} {w : World} {c : Int} (hc : c ≠ 0) (h : Calls P f args w fun e w' => ∃ v', e = .returned (.tuple #[.slice none 0 0, v']) ∧ WFault w' v' 0 c ∧ Below w.heap.size w w') : Calls P f args w (EfP w [] [⟨walN, 0⟩] c) := by
  refine h.mono ?_
  rintro e w' ⟨v, rfl, hf, hb⟩
  exact ⟨none, 0, v, rfl, Owns.nil _ _, .inr ⟨wfault_chain hf, by simp, by simp, hc⟩, hb⟩
theorem hdNo_ne (file : Nat) : hdNo file ≠ 0 := by unfold hdNo; split <;> decide
theorem frNo_ne (i : Int) : frNo i ≠ 0 := by unfold frNo; split <;> decide
theorem header_both (file : Nat) (base : Int) (hf : file < 18446744073709551616) : ∃ (B : List Nat) (L : List Lk) (c : Int), (∀ w : World, 0 < w.heap.size → Table w → Calls Tryd.prog 10 #[.int .u64 file, .int .i64 base] w (EfP w B L c)) ∧ ∀ w, Calls Tryd.prog 11 #[.int .u64 file, .int .i64 base] w (BfP w B L c) := by
  by_cases h : (0 < file ∧ file ≤ 4611686018427387904) ∧ 0 ≤ base ∧ base ≤ 64
  · obtain ⟨b, rfl⟩ := Int.eq_ofNat_of_zero_le h.2.1
    have hok : hdOk file b := ⟨h.1, by omega⟩
    exact ⟨_, _, _, fun w h0 hT => efp_ok (header_ok file b w h0 hT hok), fun w => refHeader_ok file b w hok⟩
  · exact ⟨_, _, _, fun w _ _ => efp_no (hdNo_ne file) (header_no file base w hf h), fun w => refHeader_no file base w h⟩
theorem frame_both (i : Int) (n : Nat) (B0 : List Nat) : ∃ (B : List Nat) (L : List Lk) (c : Int), (∀ (w : World) (lim : Nat) (ao : Option Addr) (cap : Nat), Shows lim w ao n cap B0 → lim ≤ w.heap.size → 0 < w.heap.size → Table w → Calls Tryd.prog 14 #[.int .i64 i, .slice ao n cap] w (EfP w B L c)) ∧ ∀ (w : World) (lim : Nat) (ao : Option Addr) (cap : Nat), Shows lim w ao n cap B0 → lim ≤ w.heap.size → Calls Tryd.prog 15 #[.int .i64 i, .slice ao n cap] w (BfP w B L c) := by
  by_cases h : (0 ≤ i ∧ i ≤ 2147483647) ∧ n ≤ 60000
  · obtain ⟨k, rfl⟩ := Int.eq_ofNat_of_zero_le h.1.1
    exact ⟨_, _, _, fun w lim ao cap hs hl h0 hT => efp_ok (frame_ok hs hl h0 h.2 (by omega) hT), fun w lim ao cap hs hl => refFrame_ok hs hl h.2 (by omega)⟩
  · exact ⟨_, _, _, fun w lim ao cap hs _ _ _ => efp_no (frNo_ne i) (frame_no i ao n cap w hs.2.2.1 h), fun w lim ao cap _ _ => refFrame_no i ao n cap w h⟩
theorem nosA {o : Option Addr} {n m : Nat} {c : Int} (i : Nat) (s : ByteArray) : (#[Value.slice o n m, .int .i64 c] : Array Value)[i]? ≠ some (.string s) := by
  rcases i with _ | _ | _
  · simp
  · simp
  · simp
theorem sameO {b1 b2 : Nat} {w : World} {a1 a2 : Option Addr} {c1 c2 : Nat} {n : Nat} {B : List Nat} (hn : n = B.length) (h1 : Owns b1 w (.slice a1 n c1) B) (h2 : Owns b2 w (.slice a2 n c2) B) : Calls Tryd.prog 13 #[.slice a1 n c1, .slice a2 n c2] w fun e w' => e = .returned (.bool true) ∧ ∃ q, w' = w.drewN q := same_any (owns_shows h1 hn) (owns_shows h2 hn)
end Go.Proofs.YtofddonhoakicaaDoor
