import Derived.Test.YtgdliomkdkjlaaaPXP
namespace Go.Proofs.Ytgdliomkdkjlaaa
open Go.RowKit Crc

theorem Shows.sep {lim : Nat} {w w' : World} {row : Option Nat} {ao : Option Addr} {n cap : Nat} {B : List Nat} (h : Shows lim w ao n cap B) (hg : w.grownBy w' row) (hs : ∀ g, row = some g → ∀ b off, ao = some ⟨b, off, none⟩ → b ≠ g) : Shows lim w' ao n cap B := by
  obtain ⟨h1, h2, h3, h4, b, off, h5, h6, h7⟩ := h
  refine ⟨h1, h2, h3, h4, b, off, h5, h6, fun i hi => ?_⟩
  exact hg.cell (h7 i hi) (fun e => hs b e.symm b off (h5 (by omega)) rfl)

set_option maxRecDepth 10000 in
set_option maxHeartbeats 800000 in
theorem wBlobP {base blim : Nat} {w : World} {po : Option Addr} {s : WS} (hW : WrP base w po s) (hi : s.Inv) (hbs : base ≤ w.heap.size) (bo : Option Addr) (n bcap : Nat) (B : List Nat) (cm : Int) (hS : Shows blim w bo n bcap B)
    (hsep : ∀ p u g, po = some ⟨p, 0, none⟩ → w.cell? ⟨p, 4, none⟩ = some u → u.ownBlock = some g → ∀ b off, bo = some ⟨b, off, none⟩ → b ≠ g) :
    Calls Try.prog 40 #[.pointer po, .slice bo n bcap, .int .i64 cm] w fun e w' => e = .returned (.tuple #[]) ∧ Hid (WrP base w' po (s.put (numB n ++ B) (cntY n cm)) ∧ TchP w w' po) := by
  have hn47 := hS.2.2.1
  have hnB := hS.1
  have HCF := hide (countFault_any n cm w)
  have HNS : Hid (Calls Try.prog 74 #[.int .u64 (n : Int)] w fun e w' => e = .returned (.int .i64 ((numB n).length : Nat)) ∧ w' = w) := numSize_any n _ w rfl (by omega)
  by_cases ht : s.takes (numB n ++ B) (cntY n cm)
  · obtain ⟨p, rfl, hWp⟩ := wrP_some hW ht.1
    have hy := ht.2.1
    have hc : ¬ ((n : Int) < 0 ∨ cm < n) := by
      intro h
      unfold cntY at hy
      rw [if_pos h] at hy
      cases hy
    rw [hy] at ht ⊢
    have hfit := ht.2.2
    rw [List.length_append, ← hnB] at hfit
    refine (wBlob_genx base 0 p bo n bcap blim B cm s.place s.most s.L w hS (fun u v' w2 hu he => hS.sep he.1 (fun g hg => hsep p u g rfl hu hg)) (by omega) (wrS_open hWp ht.1) (hi ht.1.1).1 (by omega) hbs (Nat.zero_le _) (Nat.zero_le _)).mono ?_
    rintro e w' ⟨rfl, h⟩
    rw [List.append_assoc] at h
    exact ⟨rfl, wrP_good ht h⟩
  · have HT := hide (takes_noP hW hi (numB n ++ B) (((numB n).length : Nat) + (n : Int)) (cntY n cm) ht (fun _ => by rw [List.length_append, ← hnB]; omega))
    have hnl : (numB n).length ≤ 10 := numTo_len 9 n
    generalize (numB n).length = ns at *
    clear hW hi ht hS hsep hnB
    go_enter Try.func40, Try.ntmps40
    go_wp2_with fail
    refine HNS.out.mono ?_
    rintro e w0 ⟨rfl, rfl⟩
    go_wp2_with fail
    refine HCF.out.mono ?_
    rintro e w0 ⟨rfl, rfl⟩
    go_wp2_with fail
    refine HT.out.mono ?_
    rintro e w1 ⟨rfl, H⟩
    go_wp2
    go_end0
    exact ⟨rfl, H⟩

/-- Why a text may not be. -/
def txtY (S : ByteArray) (most : Int) : Int := if most < (S.size : Int) then 21 else if utf8Ok S = true then 0 else 27
set_option maxRecDepth 10000 in
set_option maxHeartbeats 400000 in
theorem textFault_any (S : ByteArray) (most : Int) (w : World) :
    Calls Try.prog 79 #[.string S, .int .i64 most] w fun e w' => e = .returned (.int .i64 (txtY S most)) ∧ Below w.heap.size w w' := by
  by_cases hl : most < (S.size : Int)
  · have HC : Hid (txtY S most = 21) := by unfold txtY; rw [if_pos hl]; rfl
    have d : decide (most < (S.size : Int)) = true := by simp [hl]
    clear hl
    go_enter Try.func79, Try.ntmps79
    go_wp2
    go_ret
    exact ⟨by rw [HC.out]; rfl, Below.refl _ _⟩
  · have HC : Hid (txtY S most = if utf8Ok S = true then 0 else 27) := by unfold txtY; rw [if_neg hl]; rfl
    have HT := hide (isText_any S w)
    have d : decide (most < (S.size : Int)) = false := by simp; omega
    have HB : Hid (∀ pos, Below w.heap.size w (w.iter S pos)) := fun pos => (Below.refl _ w).alloc (Nat.le_refl _) _
    clear hl
    generalize utf8Ok S = ok at *
    cases ok
    · go_enter Try.func79, Try.ntmps79
      go_wp2_with fail
      refine HT.out.mono ?_
      rintro e w1 ⟨rfl, pos, rfl⟩
      go_wp2
      go_ret
      exact ⟨by rw [HC.out]; rfl, HB.out pos⟩
    · go_enter Try.func79, Try.ntmps79
      go_wp2_with fail
      refine HT.out.mono ?_
      rintro e w1 ⟨rfl, pos, rfl⟩
      go_wp2
      go_ret
      exact ⟨by rw [HC.out]; rfl, HB.out pos⟩

theorem WrP.below {base : Nat} {w w' : World} {po : Option Addr} {s : WS} (h : WrP base w po s) (hb : Below w.heap.size w w') : WrP base w' po s := by
  rcases h with ⟨rfl, rfl⟩ | ⟨p, rfl, v, hbk, hO, hne⟩
  · exact .inl ⟨rfl, rfl⟩
  · exact .inr ⟨p, rfl, v, (hb.block p (block_lt hbk)).trans hbk, hO.quiet (below_none hb), hne⟩
theorem TchP.below {w w1 w2 : World} {po : Option Addr} (hb : Below w.heap.size w w1) (hp : ∀ p, po = some ⟨p, 0, none⟩ → p < w.heap.size) (h : TchP w1 w2 po) : TchP w w2 po := by
  rcases h with ⟨rfl, hg⟩ | ⟨p, rfl, h⟩
  · exact .inl ⟨rfl, grown_trans (below_none hb) hg⟩
  · exact .inr ⟨p, rfl, Tch.from hb (hp p rfl) h⟩
theorem WrP.plt {base : Nat} {w : World} {po : Option Addr} {s : WS} (h : WrP base w po s) : ∀ p, po = some ⟨p, 0, none⟩ → p < w.heap.size := by
  intro p hp
  rcases h with ⟨rfl, _⟩ | ⟨p', rfl, v, hbk, _⟩
  · cases hp
  · cases hp; exact block_lt hbk

set_option maxRecDepth 10000 in
set_option maxHeartbeats 800000 in
theorem wTextP {base : Nat} {w : World} {po : Option Addr} {s : WS} (hW : WrP base w po s) (hi : s.Inv) (hbs : base ≤ w.heap.size) (S : ByteArray) (cm : Int) (hS : S.size ≤ 140737488355328) :
    Calls Try.prog 42 #[.pointer po, .string S, .int .i64 cm] w fun e w' => e = .returned (.tuple #[]) ∧ Hid (WrP base w' po (s.put (numB S.size ++ strB S) (txtY S cm)) ∧ TchP w w' po) := by
  have HTF := hide (textFault_any S cm w)
  have HNS : Hid (Calls Try.prog 74 #[.int .u64 (S.size : Int)] w fun e w' => e = .returned (.int .i64 ((numB S.size).length : Nat)) ∧ w' = w) := numSize_any S.size _ w rfl (by omega)
  by_cases ht : s.takes (numB S.size ++ strB S) (txtY S cm)
  · obtain ⟨p, rfl, hWp⟩ := wrP_some hW ht.1
    have hy := ht.2.1
    have hc : ¬ cm < (S.size : Int) := by
      intro h
      unfold txtY at hy
      rw [if_pos h] at hy
      cases hy
    have hu : utf8Ok S = true := by
      unfold txtY at hy
      rw [if_neg hc] at hy
      by_cases h : utf8Ok S = true
      · exact h
      · rw [if_neg h] at hy; cases hy
    rw [hy] at ht ⊢
    have hfit := ht.2.2
    rw [List.length_append, strB_len] at hfit
    refine (wText_goodx base 0 p S cm s.place s.most s.L w hu (by omega) (wrS_open hWp ht.1) (hi ht.1.1).1 (by omega) hbs (Nat.zero_le _) (Nat.zero_le _)).mono ?_
    rintro e w' ⟨rfl, h⟩
    rw [List.append_assoc] at h
    exact ⟨rfl, wrP_good ht h⟩
  · have HT : Hid (∀ w1, Below w.heap.size w w1 → Calls Try.prog 73 #[.pointer po, .int .i64 (((numB S.size).length : Nat) + (S.size : Int)), .int .i64 (txtY S cm)] w1 fun e w' => e = .returned (.bool false) ∧ Hid (WrP base w' po (s.put (numB S.size ++ strB S) (txtY S cm)) ∧ TchP w w' po)) := by
      intro w1 hb
      refine (takes_noP (hW.below hb) hi (numB S.size ++ strB S) _ (txtY S cm) ht (fun _ => by rw [List.length_append, strB_len]; omega)).mono ?_
      rintro e w' ⟨rfl, h⟩
      exact ⟨rfl, h.out.1, TchP.below hb hW.plt h.out.2⟩
    have hnl : (numB S.size).length ≤ 10 := numTo_len 9 S.size
    generalize (numB S.size).length = ns at *
    clear hW hi ht
    go_enter Try.func42, Try.ntmps42
    go_wp2_with fail
    refine HNS.out.mono ?_
    rintro e w0 ⟨rfl, rfl⟩
    go_wp2_with fail
    refine HTF.out.mono ?_
    rintro e w1 ⟨rfl, hb1⟩
    have HT1 := hide (HT.out w1 hb1)
    clear hb1
    go_wp2_with fail
    refine HT1.out.mono ?_
    rintro e w2 ⟨rfl, H⟩
    go_wp2
    go_end0
    exact ⟨rfl, H⟩
end Go.Proofs.Ytgdliomkdkjlaaa
