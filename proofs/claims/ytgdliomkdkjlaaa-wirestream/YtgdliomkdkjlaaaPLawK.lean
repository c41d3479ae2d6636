import Derived.Test.YtgdliomkdkjlaaaPLawJ
import Derived.Test.YtgdliomkdkjlaaaPLawE
import Derived.Test.YtgdliomkdkjlaaaPLawB
namespace Go.Proofs.Ytgdliomkdkjlaaa
open Go.RowKit Crc

theorem put_any (base lim p : Nat) (f : Fl) (X L : List Nat) (w : World) (hf : f.Ok lim w) (hX : f.enc = some X) (hW : Wr base w p true 0 0 65507 L) (hfit : L.length + X.length ≤ 65507) (hbs : base ≤ w.heap.size) (hl1 : lim ≤ base) (hl2 : lim ≤ p) :
    Calls Try.prog 22 #[.pointer (some ⟨p, 0, none⟩), .agg f.cells] w fun e w' => e = .returned (.tuple #[]) ∧ Wr base w' p true 0 0 65507 (L ++ X) ∧ Below lim w w' := by
  by_cases h8 : f.K = 8
  · exact put_blob base lim p f X L w hf h8 hX hW hfit hbs hl1 hl2
  · by_cases h9 : f.K = 9
    · exact put_text base lim p f X L w hf h9 hX hW hfit hbs hl1 hl2
    · exact put_low base lim p f X L w hf h8 h9 hX hW hfit hbs hl1 hl2

theorem RS.step_none {s : RS} : s.step 0 0 = s := by
  unfold RS.step
  split
  · simp
  · rfl
theorem take_any (lim limb p : Nat) (f : Fl) (X R : List Nat) (s : RS) (w : World) (hf : f.Ok limb w) (hlb : limb ≤ p) (hX : f.enc = some X) (hR : RdS lim w p s) (hrest : s.rest = X ++ R) :
    Calls Try.prog 24 #[.pointer (some ⟨p, 0, none⟩), .agg f.cells] w fun e w' => e = .returned (.bool true) ∧ RdS lim w' p (s.step X.length 0) ∧ w.grownBy w' (some p) := by
  by_cases h1 : f.K = 1
  · exact take_u8 lim p f X R s w hf.hN h1 hX hR hrest
  by_cases h2 : f.K = 2
  · exact take_u16 lim p f X R s w hf.hN h2 hX hR hrest
  by_cases h3 : f.K = 3
  · exact take_u32 lim p f X R s w hf.hN h3 hX hR hrest
  by_cases h4 : f.K = 4
  · exact take_u64 lim p f X R s w hf.hN h4 hX hR hrest
  by_cases h5 : f.K = 5
  · exact take_num lim p f X R s w hf.hN h5 hX hR hrest
  by_cases h6 : f.K = 6
  · exact take_flag lim p f X R s w h6 hX hR hrest
  by_cases h7 : f.K = 7
  · exact take_count lim p f X R s w hf.hI2 hf.hM1 hf.hM2 h7 hX hR hrest
  by_cases h8 : f.K = 8
  · exact take_blob lim limb p f X R s w hf hlb h8 hX hR hrest
  by_cases h9 : f.K = 9
  · exact take_text lim p f X R s w hf.hM1 hf.hM2 hf.hS h9 hX hR hrest
  obtain rfl : [] = X := by simpa [Fl.enc, h1, h2, h3, h4, h5, h6, h7, h8, h9] using hX
  have h := take_other lim p f s w hX ⟨h1, h2, h3, h4, h5, h6, h7, h8, h9⟩ hR
  rw [show ([] : List Nat).length = 0 from rfl, RS.step_none]
  exact h

theorem Fl.Ok.next {lim : Nat} {w w' : World} {f : Fl} {row : Option Nat} (h : f.Ok lim w) (hg : w.grownBy w' row) (hr : ∀ g, row = some g → lim ≤ g) : f.Ok lim w' :=
  ⟨h.hN, h.hK1, h.hK2, h.hI1, h.hI2, h.hM1, h.hM2, h.hB.kept hg hr, h.hS⟩

/-- What the first k fields lay down, if they may be. -/
def encTo (fs : List Fl) : Nat → Option (List Nat)
  | 0 => some []
  | k + 1 => match encTo fs k, (fs[k]?).bind Fl.enc with
    | some A, some X => some (A ++ X)
    | _, _ => none
theorem encTo_some {fs : List Fl} : ∀ {n : Nat} {A : List Nat}, encTo fs n = some A → ∀ k, k ≤ n → ∃ P Q, encTo fs k = some P ∧ A = P ++ Q
  | 0, A, h, k, hk => by
    obtain rfl : k = 0 := by omega
    exact ⟨A, [], h, by simp⟩
  | n + 1, A, h, k, hk => by
    rw [encTo] at h
    split at h
    · rename_i P X h1 h2
      cases h
      by_cases e : k = n + 1
      · subst e
        refine ⟨P ++ X, [], ?_, by simp⟩
        rw [encTo, h1, h2]
      · obtain ⟨P', Q, h3, h4⟩ := encTo_some h1 k (by omega)
        exact ⟨P', Q ++ X, h3, by rw [h4, List.append_assoc]⟩
    · cases h
end Go.Proofs.Ytgdliomkdkjlaaa
