import Derived.Test.YtfopdbnokojlmaaDoorMH
import Derived.Test.YtfopdbnokojlmaaDoorCvU
import Derived.Lib.QuietBelow
import Derived.Deep.DeepCutAuto
import Derived.Deep.CutBlock
namespace Go.Proofs.YtfopdbnokojlmaaDoor
open Go.RowKit

/-- The reference's listing under way. -/
structure Fn (W : World) (g : Pg) (p : Pv) (w : World) : Prop where
  fm : Fm W g p w
  tp : TabP w
theorem TabP.next {w w' : World} (h : TabP w) (hb : Below w.heap.size w w') : TabP w' := by
  have hz : 4 < w.heap.size := by
    unfold TabP Lib.TabIs World.var? at h
    rw [gPow] at h
    simp only [Option.bind_some] at h
    rcases Nat.lt_or_ge 4 w.heap.size with h' | h'
    · exact h'
    · rw [Array.getElem?_eq_none h'] at h; simp at h
  unfold TabP Lib.TabIs World.var? at *
  rw [gPow] at *
  simp only [Option.bind_some] at *
  rw [hb.block _ hz]
  exact h
theorem Fn.next {W : World} {g : Pg} {p : Pv} {w w' : World} (h : Fn W g p w) (hb : Below w.heap.size w w') : Fn W g p w' := ⟨h.fm.next hb, h.tp.next hb⟩
/-- What the reference's List answers. -/
def LsR (W : World) (p : Pv) (r : Except (Int × Int) Kn) (e : Ending) (w' : World) : Prop := match r with
  | .ok _ => e = .returned (.tuple #[.string (lst4 p), .agg #[.slice none 0 0, .int .i64 0]]) ∧ Hid (Below W.heap.size W w')
  | .error (a, y) => ∃ ao cap, e = .returned (.tuple #[.string ⟨#[]⟩, .agg #[.slice ao 1 cap, .int .i64 y]]) ∧ Hid (∃ b off, FV w'.heap.size w' ao [⟨⟨#[99, 111, 100, 101]⟩, a⟩] b off ∧ Below W.heap.size W w')
/-- A call in a world of the class. -/
theorem reg_of {f : FuncId} {args : Array Value} {w : World} {v : Value} (h : ∀ w1, Below w.heap.size w w1 → Calls Tryd.prog f args w1 fun e w' => e = .returned v ∧ Hid (Below w1.heap.size w1 w')) (d : Nat) (os : Array Obj) :
    Calls Tryd.prog f args (Sort.grow (redrawn w d) os) fun e w'' => e = .returned v ∧ ∃ p : Regrown, w'' = Sort.grow (redrawn w p.d) p.os :=
  Calls.regrown_of ((h _ (below_regrown w d os)).mono fun _ _ hh => ⟨hh.1, hh.2.out⟩)
theorem same_of {f : FuncId} {args : Array Value} {w : World} {v : Value} (h : Calls Tryd.prog f args w fun e w' => e = .returned v ∧ w' = w) : Calls Tryd.prog f args w fun e w' => e = .returned v ∧ Hid (Below w.heap.size w w') :=
  h.mono fun _ _ hh => ⟨hh.1, hide (hh.2 ▸ Below.refl _ _)⟩
theorem con_eq (p : Pv) (j : Nat) (t : ByteArray) : t ++ ⟨#[99, 111, 110, 115, 116, 32]⟩ ++ iB j ++ ⟨#[32]⟩ ++ iB (p.C j) ++ ⟨#[10]⟩ = t ++ conL p j := by
  unfold conL
  rw [jn3]
  apply ByteArray.ext
  apply Array.toList_inj.1
  simp [ByteArray.data_append, cB, nlB]
theorem slt_eq (p : Pv) (j : Nat) (t : ByteArray) : t ++ ⟨#[115, 108, 111, 116, 32]⟩ ++ iB j ++ ⟨#[32]⟩ ++ kdB (p.S j) ++ ⟨#[10]⟩ = t ++ sltL p j := by
  unfold sltL
  rw [jn3]
  apply ByteArray.ext
  apply Array.toList_inj.1
  simp [ByteArray.data_append, sB, nlB]
theorem ent_eq (p : Pv) (j : Nat) (t : ByteArray) (h : 0 ≤ p.en j) : t ++ ⟨#[111, 110, 32]⟩ ++ evB j ++ ⟨#[32]⟩ ++ iB (p.en j) ++ ⟨#[10]⟩ = t ++ entL p j := by
  unfold entL
  rw [if_pos h, jn3]
  apply ByteArray.ext
  apply Array.toList_inj.1
  simp [ByteArray.data_append, oB, nlB]
theorem in0_eq (j o : Nat) (a : Int) (t : ByteArray) (h : fArg o = 0) : t ++ iB j ++ ⟨#[32]⟩ ++ wdB o ++ ⟨#[10]⟩ = t ++ (insL j o a ++ nlB) := by
  unfold insL tailB
  rw [if_pos h, List.append_nil, jn2]
  apply ByteArray.ext
  apply Array.toList_inj.1
  simp [ByteArray.data_append, nlB]
theorem in2_eq (j o : Nat) (a : Int) (t : ByteArray) (h0 : fArg o ≠ 0) (h : fArg o = 2) : t ++ iB j ++ ⟨#[32]⟩ ++ wdB o ++ ⟨#[32]⟩ ++ nmB a.toNat ++ ⟨#[10]⟩ = t ++ (insL j o a ++ nlB) := by
  unfold insL tailB
  rw [if_neg h0, if_pos h]
  show _ = t ++ (jn [iB j, wdB o, nmB a.toNat] ++ nlB)
  rw [jn3]
  apply ByteArray.ext
  apply Array.toList_inj.1
  simp [ByteArray.data_append, nlB]
theorem in1_eq (j o : Nat) (a : Int) (t : ByteArray) (h0 : fArg o ≠ 0) (h : fArg o ≠ 2) : t ++ iB j ++ ⟨#[32]⟩ ++ wdB o ++ ⟨#[32]⟩ ++ iB a ++ ⟨#[10]⟩ = t ++ (insL j o a ++ nlB) := by
  unfold insL tailB
  rw [if_neg h0, if_neg h]
  show _ = t ++ (jn [iB j, wdB o, iB a] ++ nlB)
  rw [jn3]
  apply ByteArray.ext
  apply Array.toList_inj.1
  simp [ByteArray.data_append, nlB]
theorem f5 : ∀ o, o < 33 → 1 ≤ o → (fArg o = 2 ↔ o = 5) := by decide
end Go.Proofs.YtfopdbnokojlmaaDoor
