import Derived.Test.YtgdliomkdkjlaaaPText
namespace Go.Proofs.Ytgdliomkdkjlaaa
open Go.RowKit Crc

theorem Wr.alloc {base : Nat} {w : World} {p : Nat} {made : Bool} {place why most : Int} {L : List Nat} (h : Wr base w p made place why most L) (o : Obj) : Wr base (w.alloc o) p made place why most L := by
  obtain ⟨v, hb, hO, hne⟩ := h
  exact ⟨v, (Below.heap_alloc w o p (block_lt hb)).trans hb, hO.quiet (World.grownBy_alloc w o none), hne⟩

set_option maxRecDepth 10000 in
set_option maxHeartbeats 1600000 in
theorem wText_good (base lim p : Nat) (s : ByteArray) (cm place most : Int) (L : List Nat) (w : World) (hs : Ascii s) (hcm : (s.size : Int) ≤ cm) (hW : Wr base w p true place 0 most L) (hm : most ≤ 65507) (hfit : ((L.length + (numB s.size).length + s.size : Nat) : Int) ≤ most) (hbs : base ≤ w.heap.size) (hl1 : lim ≤ base) (hl2 : lim ≤ p) :
    Calls Try.prog 42 #[.pointer (some ⟨p, 0, none⟩), .string s, .int .i64 cm] w fun e w' => e = .returned (.tuple #[]) ∧ Wr base w' p true place 0 most (L ++ numB s.size ++ strB s) ∧ Below lim w w' := by
  obtain ⟨i0, hi, hz0, hz1, hz2⟩ := info_parts Try.info5
  have hlw : lim ≤ w.heap.size := by omega
  have HTF := hide (textFault_ascii s cm w hs hcm)
  have HNS : Hid (Calls Try.prog 74 #[.int .u64 (s.size : Int)] w fun e w' => e = .returned (.int .i64 ((numB s.size).length : Nat)) ∧ w' = w) := numSize_any s.size _ w rfl (by omega)
  have HOP := hide (fun (w1 : World) (pos : Nat) (h : w1 = w.iter s pos) => wr_open (lim := lim) (w := w1) (place := place) (most := most) (L := L) (by rw [h]; exact hW.alloc (.stringIter s pos)) hm (by omega) hl1 hl2)
  have HBI : Hid (∀ pos, Below lim w (w.iter s pos) ∧ base ≤ (w.iter s pos).heap.size) := fun pos => ⟨(Below.refl lim w).alloc hlw _, by unfold World.iter; simp; omega⟩
  have hnl : (numB s.size).length ≤ 10 := numTo_len 9 s.size
  have hsz : s.size ≤ 65507 := by omega
  have HST := hide (strB_vals s)
  have HSL := hide (strB_len s)
  clear hW hs
  generalize hns : (numB s.size).length = ns at *
  have HNS2 := hide hns
  clear hns
  go_enter Try.func42, Try.ntmps42
  go_wp2_with fail
  refine HNS.out.mono ?_
  rintro e w0 ⟨rfl, rfl⟩
  go_wp2_with fail
  refine HTF.out.mono ?_
  rintro e w1 ⟨rfl, pos, hw1⟩
  obtain ⟨ao, cap, c4, hO, htk, hfin⟩ := HOP.out w1 pos hw1
  obtain ⟨hbel, hbs1⟩ := HBI.out pos
  rw [← hw1] at hbel hbs1
  have HFIN := hide hfin
  have HTK : Hid (Calls Try.prog 73 #[.pointer (some ⟨p, 0, none⟩), .int .i64 ((ns : Int) + (s.size : Int)), .int .i64 0] w1 fun e w' => e = .returned (.bool true) ∧ ∃ q, w' = w1.drewN q) := htk _ (by omega)
  have HAP : Hid (∀ q, Calls Try.prog 75 #[.slice ao L.length cap, .int .u64 (s.size : Int)] (w1.drewN q) fun e w' => ∃ v', e = .returned v' ∧ Owns base w' v' (L ++ numB s.size) ∧ Ext (w1.drewN q) w' (.slice ao L.length cap) v') :=
    fun q => appendNum_any base _ L s.size _ (w1.drewN q) rfl (by omega) (hO.drew q) (by omega) hbs1
  have HBEL := hide hbel
  have HBS : Hid (∀ (w2 : World) (v' : Value), Ext w1 w2 (.slice ao L.length cap) v' → base ≤ w2.heap.size) := fun w2 v' he => Nat.le_trans hbs1 he.1.size
  clear hfin htk hO hw1 HOP HBI hbel hbs1 HNS HTF
  go_wp2_with fail
  refine HTK.out.mono ?_
  rintro e w3 ⟨rfl, q, rfl⟩
  go_wp2_with fail
  refine (HAP.out q).mono ?_
  rintro e w2 ⟨v', rfl, ho, he⟩
  have HE := hide (ext_drew he)
  have HO := hide ho
  obtain ⟨a', c', rfl, hs', _⟩ := ho.form
  have hll : (L ++ numB s.size).length = L.length + ns := by rw [List.length_append, HNS2.out]
  have hbd : (L ++ numB s.size).length ≤ 65507 := by omega
  clear ho he hs' HAP HTK hll
  generalize hm' : (L ++ numB s.size).length = m at *
  have HOW : Hid (w2.ownsRow base 5 1 (.slice a' m c') m (vals (L ++ numB s.size))) := by
    have h := HO.out.1
    rw [hm'] at h
    exact h
  have HMM := hide hm'
  clear hm'
  go_wp2_with (first
    | (at_builtin; refine wpList_append_string_ext _ rfl (.tmp 26) (.tmp 27) 29 9 rfl base 5 i0 Try.underlying29 Try.underlying9 hi hz0 hz1 hz2 _ m (vals (L ++ numB s.size)) rfl HOW.out s rfl (by omega) (HBS.out w2 _ HE.out) ?_; intro v' w3 hown3 hext3; have HO3 : Hid (Owns base w3 v' (L ++ numB s.size ++ strB s)) := owns_join HO.out (strB_lt s) (by rw [HMM.out, HSL.out]; omega) (by rw [HMM.out, HSL.out, HST.out]; exact hown3); obtain ⟨k4, f4, hr⟩ := HFIN.out w3 v' _ HO3.out (HE.out.trans hext3); obtain ⟨a3, c3, rfl, _, _⟩ := HO3.out.form; have HR := hide hr; clear hr hown3 hext3))
  go_end0
  refine ⟨rfl, ?_⟩
  first
    | exact ⟨HR.out.1, HBEL.out.trans HR.out.2⟩
    | (rw [show L.length + ((numB s.size).length + (strB s).length) = (L ++ numB s.size ++ strB s).length by simp]; exact ⟨HR.out.1, HBEL.out.trans HR.out.2⟩)
end Go.Proofs.Ytgdliomkdkjlaaa
