import Derived.Test.YtcagbggnlfeadaaGreatDoorWSum
import Derived.Test.YtcagbggnlfeadaaGreatDoorPExt
import Derived.Test.YtcagbggnlfeadaaGreatDoorPAppendX
import Derived.Test.YtcagbggnlfeadaaGreatDoorPHigh
import Derived.Test.YtcagbggnlfeadaaGreatDoorPCopied
import Derived.Test.YtcagbggnlfeadaaGreatDoorPSame
import Derived.Shelf.Bytes.SlEqualAll
import Derived.Lib.SlBytesConst
namespace Go.Proofs.YtcagbggnlfeadaaGreatDoor
open Go.RowKit Crc

def ints (B : List Nat) : List Int := B.map fun (x : Nat) => (x : Int)
theorem ints_len (B : List Nat) : (ints B).length = B.length := by simp [ints]
theorem ints_getD (B : List Nat) (i : Nat) : (ints B).getD i 0 = ((B.getD i 0 : Nat) : Int) := by
  unfold ints
  rw [List.getD_eq_getElem?_getD, List.getD_eq_getElem?_getD, List.getElem?_map]
  cases B[i]? <;> rfl
theorem Shows.bytesIn {lim : Nat} {w : World} {ao : Option Addr} {n cap : Nat} {B : List Nat} (h : Shows lim w ao n cap B) : Lib.BytesIn w ao n (ints B) := by
  obtain ⟨h1, h2, h3, h4, b, off, h5, h6, h7⟩ := h
  intro hn
  exact ⟨b, off, h5 hn, fun i hi => by rw [ints_getD]; exact h7 i hi⟩
theorem bytesOf_inj : ∀ (A B : List Nat), (∀ x ∈ A, x < 256) → (∀ x ∈ B, x < 256) → Lib.bytesOf (ints A) = Lib.bytesOf (ints B) → A = B := by
  intro A
  induction A with
  | nil => intro B _ _ h; cases B with | nil => rfl | cons b r => simp [ints, Lib.bytesOf] at h
  | cons a r ih =>
    intro B hA hB h
    cases B with
    | nil => simp [ints, Lib.bytesOf] at h
    | cons b s =>
      unfold ints Lib.bytesOf at h
      simp only [List.map_cons, List.cons.injEq] at h
      have h1 := congrArg UInt8.toNat h.1
      have ha := hA a (by simp)
      have hb := hB b (by simp)
      simp only [Int.toNat_natCast] at h1
      rw [UInt8.toNat_ofNat_of_lt' (by simpa using ha), UInt8.toNat_ofNat_of_lt' (by simpa using hb)] at h1
      rw [h1, ih s (fun x hx => hA x (by simp [hx])) (fun x hx => hB x (by simp [hx])) h.2]

set_option maxRecDepth 10000 in
set_option maxHeartbeats 400000 in
theorem equal_any {l1 l2 : Nat} {w : World} {a1 a2 : Option Addr} {n1 n2 c1 c2 : Nat} {B1 B2 : List Nat} (h1 : Shows l1 w a1 n1 c1 B1) (h2 : Shows l2 w a2 n2 c2 B2) :
    Calls Tryz.prog 71 #[.slice a1 n1 c1, .slice a2 n2 c2] w fun e w' => e = .returned (.bool (decide (B1 = B2))) ∧ w' = w := by
  have k1 := h1.bytesIn.convert (P := Tryz.prog) (by rw [ints_len]; exact h1.1.symm) c1 37 5 9 Tryz.underlying37 Tryz.underlying5 Tryz.underlying9
  have k2 := h2.bytesIn.convert (P := Tryz.prog) (by rw [ints_len]; exact h2.1.symm) c2 37 5 9 Tryz.underlying37 Tryz.underlying5 Tryz.underlying9
  have HD : Hid (((strOfNums (ints B1)).toList == (strOfNums (ints B2)).toList) = decide (B1 = B2)) := by
    show _ = _
    rw [Lib.strOfNums_toList, Lib.strOfNums_toList]
    by_cases h : B1 = B2
    · subst h; simp
    · have : ¬ Lib.bytesOf (ints B1) = Lib.bytesOf (ints B2) := fun e => h (bytesOf_inj B1 B2 h1.2.2.2.1 h2.2.2.2.1 e)
      simp [h, this]
  clear h1 h2
  generalize strOfNums (ints B1) = S1 at *
  generalize strOfNums (ints B2) = S2 at *
  go_enter Tryz.func71, Tryz.ntmps71
  go_wp2
  go_ret
  exact ⟨by rw [← HD.out]; rfl, rfl⟩
end Go.Proofs.YtcagbggnlfeadaaGreatDoor
