import Derived.Test.YtfopdbnokojlmaaDoorClB
import Derived.Test.YtfopdbnokojlmaaDoorCvC
namespace Go.Proofs.YtfopdbnokojlmaaDoor
open Go.RowKit

/-- Parts, one space apart. -/
def jn (xs : List ByteArray) : ByteArray := ⟨(Lib.join (xs.map (·.data.toList)) [32]).toArray⟩
def nlB : ByteArray := ⟨#[10]⟩
theorem joinC {sb n c : Nat} (xs : List ByteArray) {w : World} (hn : xs.length = n) (hcells : ∀ (j : Nat) x, xs[j]? = some x → w.cell? ⟨sb, j, none⟩ = some (.string x)) (hbk : sb < w.heap.size) (hN : n ≤ 140737488355328) (hcap : n ≤ c) (hlen : (jn xs).size ≤ 140737488355328) :
    Calls Tryd.prog 30 #[.slice (some ⟨sb, 0, none⟩) n c, .string ⟨#[32]⟩] w fun e w' => e = .returned (.string (jn xs)) ∧ Hid (Below w.heap.size w w') := by
  subst hn
  exact (Tryd.strings_Join sb 0 c xs ⟨#[32]⟩ w (fun j x hx => by rw [Nat.zero_add]; exact hcells j x hx) hbk hN hcap (by simpa [jn, ByteArray.size] using hlen)).mono fun e w' ⟨he, hb⟩ => ⟨he, hide hb⟩
set_option maxHeartbeats 2000000 in
set_option maxRecDepth 10000 in
theorem lineC {B b sb n c : Nat} {t : ByteArray} (xs : List ByteArray) {w : World} (h : Bd B b t w) (hn : xs.length = n) (hcells : ∀ (j : Nat) x, xs[j]? = some x → w.cell? ⟨sb, j, none⟩ = some (.string x)) (hbk : sb < w.heap.size) (hN : n ≤ 100) (hcap : n ≤ c) (hj : 0 < (jn xs).size) (hlen : t.size + (jn xs).size + 1 ≤ 140737488355328) :
    Calls Tryd.prog 18 #[.pointer (some ⟨b, 0, none⟩), .slice (some ⟨sb, 0, none⟩) n c] w fun e w' => e = .returned (.tuple #[]) ∧ Hid (Bd B b (t ++ jn xs ++ nlB) w' ∧ Kb B b w w') := by
  have HJ : Hid (Calls Tryd.prog 30 #[.slice (some ⟨sb, 0, none⟩) n c, .string ⟨#[32]⟩] w.drew fun e w' => e = .returned (.string (jn xs)) ∧ Hid (Below w.heap.size w.drew w')) := hide (joinC (w := w.drew) xs hn hcells hbk (by omega) hcap (by omega))
  have HW : Hid (∀ w1, Bd B b t w1 → Calls Tryd.prog 29 #[.pointer (some ⟨b, 0, none⟩), .string (jn xs)] w1 fun e w' => e = .returned (.tuple #[.int .i64 (jn xs).size, .nilIface]) ∧ Hid (Bd B b (t ++ jn xs) w' ∧ Kb B b w1 w')) := hide (fun w1 h1 => writeC (jn xs) h1 hj (by omega))
  have HV : Hid (∀ w1, Bd B b (t ++ jn xs) w1 → Calls Tryd.prog 29 #[.pointer (some ⟨b, 0, none⟩), .string ⟨#[10]⟩] w1 fun e w' => e = .returned (.tuple #[.int .i64 1, .nilIface]) ∧ Hid (Bd B b (t ++ jn xs ++ nlB) w' ∧ Kb B b w1 w')) := hide (fun w1 h1 => writeC nlB h1 (by decide) (by rw [ByteArray.size_append]; show _ + 1 ≤ _; omega))
  have HB : Hid (Bd B b t w.drew) := hide (h.below (Below.drew (Below.refl _ w)))
  have HL := hide h.le
  clear h hcells hbk hn hN hcap hlen hj
  generalize jn xs = J at *
  generalize (J.size : Int) = z at *
  go_enter Tryd.func18, Tryd.ntmps18
  go_wp2_with fail
  go_region_with (first
    | (go_at_call 30; refine HJ.out.mono ?_; rintro e w1 ⟨rfl, G1⟩)
    | (go_at_call 29; refine (HW.out _ (HB.out.below G1.out)).mono ?_; rintro e w2 ⟨rfl, G2⟩))
  all_goals
    go_wp2_with (go_at_call 29; refine (HV.out _ G2.out.1).mono ?_; rintro e w3 ⟨rfl, G3⟩)
    go_end0
    exact ⟨rfl, hide ⟨G3.out.1, (Kb.below (w := w) ((Below.drew (Below.refl _ w)).trans G1.out) HL.out).trans (G2.out.2.trans G3.out.2)⟩⟩
end Go.Proofs.YtfopdbnokojlmaaDoor
namespace Go.Proofs.YtfopdbnokojlmaaDoor
open Go.RowKit

/-- The words of the instructions, of the events, of the inputs. -/
def wordT : List (List Nat) := [[], [116, 105, 99, 107], [110, 117, 109], [116, 114, 117, 101], [102, 97, 108, 115, 101], [101, 110, 118], [103, 101, 116], [112, 117, 116], [110, 111, 116], [101, 113], [110, 101], [108, 116], [108, 101], [103, 116], [103, 101], [101, 113, 98], [110, 101, 98], [97, 100, 100], [115, 117, 98], [109, 117, 108], [100, 105, 118], [109, 111, 100], [109, 105, 110], [109, 97, 120], [115, 104, 97, 114, 101], [106, 117, 109, 112], [106, 117, 109, 112, 110, 111, 116], [115, 107, 105, 112, 110, 111, 116], [115, 107, 105, 112, 121, 101, 115], [112, 97, 121], [114, 101, 113, 117, 105, 114, 101], [102, 97, 105, 108], [100, 111, 110, 101]]
def evT : List (List Nat) := [[102, 117, 110, 100], [114, 101, 108, 101, 97, 115, 101], [100, 105, 115, 112, 117, 116, 101], [97, 114, 98, 105, 116, 114, 97, 116, 101], [114, 101, 102, 117, 110, 100], [101, 120, 112, 105, 114, 101]]
def namT : List (List Nat) := [[99, 97, 108, 108, 101, 114], [97, 109, 111, 117, 110, 116], [104, 101, 108, 100], [110, 111, 119], [111, 112, 101, 110, 101, 100], [100, 117, 101], [97, 115, 107, 101, 100], [100, 105, 115, 112, 117, 116, 101, 100]]
def wdB (o : Nat) : ByteArray := txt (wordT.getD o [])
def evB (o : Nat) : ByteArray := txt (evT.getD o [])
def nmB (o : Nat) : ByteArray := txt (namT.getD o [])
/-- The other tables as they lie. -/
structure Tab2 (w : World) : Prop where
  t : Tab w
  p : TabP w
  wd : ∀ o, o ≤ 32 → w.cell? ⟨1, o, none⟩ = some (.string (wdB o))
  ev : ∀ o, o < 6 → w.cell? ⟨0, o, none⟩ = some (.string (evB o))
  nm : ∀ o, o < 8 → w.cell? ⟨3, o * 2, none⟩ = some (.string (nmB o))
theorem Tab2.below {w w' : World} {k : Nat} (h : Tab2 w) (hb : Below k w w') (hk : 7 < k) : Tab2 w' :=
  ⟨h.t.below hb hk, h.p.below hb hk, fun o ho => (hb.cell (p := ⟨1, _, none⟩) (by show 1 < k; omega)).trans (h.wd o ho), fun o ho => (hb.cell (p := ⟨0, _, none⟩) (by show 0 < k; omega)).trans (h.ev o ho), fun o ho => (hb.cell (p := ⟨3, _, none⟩) (by show 3 < k; omega)).trans (h.nm o ho)⟩
theorem Tab2.next {w w' : World} (h : Tab2 w) (hb : Below w.heap.size w w') : Tab2 w' := h.below hb h.t.z
/-- What is written behind the word. -/
def tailB (o : Nat) (a : Int) : List ByteArray := if fArg o = 0 then [] else if fArg o = 2 then [nmB a.toNat] else [iB a]
def insL (j o : Nat) (a : Int) : ByteArray := jn ([iB j, wdB o] ++ tailB o a)
theorem txt_size (l : List Nat) : (txt l).size = l.length := by
  show (txt l).data.size = _
  unfold txt
  simp
theorem wdB_size (o : Nat) : (wdB o).size ≤ 100 := by
  unfold wdB
  rw [txt_size]
  by_cases h : o < 33
  · have : ∀ o, o < 33 → (wordT.getD o []).length ≤ 100 := by decide
    exact this o h
  · rw [List.getD_eq_getElem?_getD, List.getElem?_eq_none (by show 33 ≤ o; omega)]
    decide
theorem nmB_size (o : Nat) : (nmB o).size ≤ 100 := by
  unfold nmB
  rw [txt_size]
  by_cases h : o < 8
  · have : ∀ o, o < 8 → (namT.getD o []).length ≤ 100 := by decide
    exact this o h
  · rw [List.getD_eq_getElem?_getD, List.getElem?_eq_none (by show 8 ≤ o; omega)]
    decide
theorem evB_size (o : Nat) : (evB o).size ≤ 100 := by
  unfold evB
  rw [txt_size]
  by_cases h : o < 6
  · have : ∀ o, o < 6 → (evT.getD o []).length ≤ 100 := by decide
    exact this o h
  · rw [List.getD_eq_getElem?_getD, List.getElem?_eq_none (by show 6 ≤ o; omega)]
    decide
theorem jn2 (a b : ByteArray) : jn [a, b] = a ++ ⟨#[32]⟩ ++ b := by
  apply ByteArray.ext
  apply Array.toList_inj.1
  simp [jn, Lib.join, List.intercalate, List.intersperse, ByteArray.data_append]
theorem jn3 (a b c : ByteArray) : jn [a, b, c] = a ++ ⟨#[32]⟩ ++ b ++ ⟨#[32]⟩ ++ c := by
  apply ByteArray.ext
  apply Array.toList_inj.1
  simp [jn, Lib.join, List.intercalate, List.intersperse, ByteArray.data_append]
theorem jn2_size (a b : ByteArray) : (jn [a, b]).size = a.size + 1 + b.size := by
  rw [jn2, ByteArray.size_append, ByteArray.size_append]
  rfl
theorem jn3_size (a b c : ByteArray) : (jn [a, b, c]).size = a.size + 1 + b.size + 1 + c.size := by
  rw [jn3, ByteArray.size_append, ByteArray.size_append, ByteArray.size_append, ByteArray.size_append]
  rfl
theorem line2 {B b : Nat} {t : ByteArray} (x y : ByteArray) {w : World} (h : Bd B b t w) (hj : (jn [x, y]).size ≤ 1000) (ht : t.size ≤ 1099511627776) :
    Calls Tryd.prog 18 #[.pointer (some ⟨b, 0, none⟩), .slice (some ⟨w.heap.size, 0, none⟩) 2 2] (w.alloc (.cells #[.string x, .string y] 9)) fun e w' => e = .returned (.tuple #[]) ∧ Hid (Bd B b (t ++ jn [x, y] ++ nlB) w' ∧ Kb B b w w') := by
  have hb := below_alloc1 w (.cells #[.string x, .string y] 9)
  refine (lineC [x, y] (h.below hb) rfl ?_ (by simp) (by simp) (Nat.le_refl _) ?_ (by omega)).mono fun e w' hh => ⟨hh.1, hide ⟨hh.2.out.1, (Kb.below hb h.le).trans hh.2.out.2⟩⟩
  · intro j u hu
    rw [World.cell?_alloc_new]
    match j, hu with
    | 0, hu => simp at hu; subst hu; rfl
    | 1, hu => simp at hu; subst hu; rfl
  · rw [jn2_size]; omega
theorem line3 {B b : Nat} {t : ByteArray} (x y z : ByteArray) {w : World} (h : Bd B b t w) (hj : (jn [x, y, z]).size ≤ 1000) (ht : t.size ≤ 1099511627776) :
    Calls Tryd.prog 18 #[.pointer (some ⟨b, 0, none⟩), .slice (some ⟨w.heap.size, 0, none⟩) 3 3] (w.alloc (.cells #[.string x, .string y, .string z] 9)) fun e w' => e = .returned (.tuple #[]) ∧ Hid (Bd B b (t ++ jn [x, y, z] ++ nlB) w' ∧ Kb B b w w') := by
  have hb := below_alloc1 w (.cells #[.string x, .string y, .string z] 9)
  refine (lineC [x, y, z] (h.below hb) rfl ?_ (by simp) (by simp) (Nat.le_refl _) ?_ (by omega)).mono fun e w' hh => ⟨hh.1, hide ⟨hh.2.out.1, (Kb.below hb h.le).trans hh.2.out.2⟩⟩
  · intro j u hu
    rw [World.cell?_alloc_new]
    match j, hu with
    | 0, hu => simp at hu; subst hu; rfl
    | 1, hu => simp at hu; subst hu; rfl
    | 2, hu => simp at hu; subst hu; rfl
  · rw [jn3_size]; omega
end Go.Proofs.YtfopdbnokojlmaaDoor
