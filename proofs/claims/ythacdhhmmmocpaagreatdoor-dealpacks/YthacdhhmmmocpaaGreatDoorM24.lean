import Derived.Test.YthacdhhmmmocpaaGreatDoorM17
namespace Go.Proofs.YthacdhhmmmocpaaGreatDoor
open Go.RowKit Crc

/-- The text of bytes. -/
def strOf (L : List Nat) : ByteArray := (L.map (fun (x : Nat) => (x : Int))).foldl (fun r n => r.push (UInt8.ofNat n.toNat)) ByteArray.empty
theorem foldl_push (L : List Int) : ∀ acc : ByteArray, (L.foldl (fun r n => r.push (UInt8.ofNat n.toNat)) acc).data.toList = acc.data.toList ++ L.map (fun n => UInt8.ofNat n.toNat) := by
  induction L with
  | nil => intro acc; simp
  | cons n r ih => intro acc; rw [List.foldl_cons, ih]; simp [ByteArray.push]
theorem strOf_strB (s : ByteArray) : strOf (strB s) = s := by
  have h := foldl_push ((strB s).map (fun (x : Nat) => (x : Int))) ByteArray.empty
  have h2 : (strOf (strB s)).data.toList = s.data.toList := by
    unfold strOf
    rw [h]
    simp [strB, Function.comp_def]
  have h3 : (strOf (strB s)).data = s.data := Array.ext' h2
  cases hs : strOf (strB s) with
  | mk d => cases s with | mk d' => rw [hs] at h3; simp at h3; rw [h3]

theorem run_str {lim : Nat} {w : World} {ao : Option Addr} {n cap : Nat} {B : List Nat} (h : Shows lim w ao n cap B) :
    (convert 26 9 (.slice ao n cap)).run Tryz.prog w = .ok (.string (strOf B)) w := by
  rw [run_convert_bytes_string w 26 9 5 ao n cap Tryz.underlying26 Tryz.underlying5 Tryz.underlying9]
  obtain ⟨h1, h2, h3, h4, b, off, h5, h6, h7⟩ := h
  cases ao with
  | none =>
    have hn : n = 0 := by
      rcases Nat.eq_zero_or_pos n with h | h
      · exact h
      · have := h5 h; cases this
    obtain rfl : B = [] := List.eq_nil_of_length_eq_zero (by omega)
    simp [Conv.bytesToString, strOf, Sem.run_pure]
  | some ad =>
    have hl := run_loadCells_list (P := Tryz.prog) (w := w) ad (vals B) (by
      intro j v hj
      have hj2 := (vals_get B j v hj).1
      have := h5 (by omega)
      cases this
      exact vals_cell (fun i hi => h7 i (by omega)) j v hj)
    rw [vals_len, ← h1] at hl
    have e : vals B = (B.map (fun (x : Nat) => (x : Int))).map (Value.int .u8) := by simp [vals]
    rw [e] at hl
    exact run_bytesToString w ad n cap _ hl

def textAt (B : List Nat) (most : Int) (ok : Bool) : ByteArray × Nat × Int :=
  if (blobAt B most).2.2 ≠ 0 then (ByteArray.empty, 0, (blobAt B most).2.2) else if ok then (strOf (blobAt B most).1, (blobAt B most).2.1, 0) else (ByteArray.empty, 0, 27)

set_option maxRecDepth 10000 in
set_option maxHeartbeats 800000 in
theorem textAhead_any {lim : Nat} {w : World} {ao : Option Addr} {n cap : Nat} {B : List Nat} (h : Shows lim w ao n cap B) (most : Int) (hm1 : -9223372036854775808 ≤ most) (hm2 : most < 9223372036854775808) (ok : Bool)
    (hT : ∀ wx : World, Calls Tryz.prog 72 #[.string (strOf (blobAt B most).1)] wx fun e w' => e = .returned (.bool ok) ∧ ∃ pos, w' = wx.iter (strOf (blobAt B most).1) pos) :
    Calls Tryz.prog 78 #[.slice ao n cap, .int .i64 most] w fun e w' => e = .returned (.tuple #[.string (textAt B most ok).1, .int .i64 ((textAt B most ok).2.1 : Nat), .int .i64 (textAt B most ok).2.2]) ∧ Below w.heap.size w w' := by
  have HBL := hide (blobAhead_any h most hm1 hm2)
  have HT := hide hT
  have HTA : Hid (textAt B most ok = if (blobAt B most).2.2 ≠ 0 then (ByteArray.empty, 0, (blobAt B most).2.2) else if ok then (strOf (blobAt B most).1, (blobAt B most).2.1, 0) else (ByteArray.empty, 0, 27)) := rfl
  clear h hT
  generalize hr : blobAt B most = r at *
  clear hr
  obtain ⟨L, z, y⟩ := r
  simp only at HBL HT HTA
  by_cases hy : y = 0
  · subst hy
    cases ok
    · have HF : Hid (textAt B most false = (ByteArray.empty, 0, 27)) := by have h1 := HTA.out; simp at h1; exact h1
      clear HTA
      go_enter Tryz.func78, Tryz.ntmps78
      go_wp2_with fail
      refine HBL.out.mono ?_
      rintro e w1 ⟨a2, n2, c2, rfl, hs2, q, rfl⟩
      have hcv := run_str (hs2.world (w' := w.drewN q) rfl)
      clear hs2
      generalize strOf L = S at *
      go_wp2_with fail
      refine (HT.out _).mono ?_
      rintro e w2 ⟨rfl, pos, rfl⟩
      go_wp2
      go_ret3
      exact ⟨by rw [HF.out]; rfl, (Below.alloc (a := w) (w := w.drewN q) ⟨rfl, rfl, rfl, Nat.le_refl _, fun _ _ => rfl⟩ (Nat.le_refl _) _)⟩
    · have HF : Hid (textAt B most true = (strOf L, z, 0)) := by have h1 := HTA.out; simp at h1; exact h1
      clear HTA
      go_enter Tryz.func78, Tryz.ntmps78
      go_wp2_with fail
      refine HBL.out.mono ?_
      rintro e w1 ⟨a2, n2, c2, rfl, hs2, q, rfl⟩
      have hcv := run_str (hs2.world (w' := w.drewN q) rfl)
      clear hs2
      generalize strOf L = S at *
      go_wp2_with fail
      refine (HT.out _).mono ?_
      rintro e w2 ⟨rfl, pos, rfl⟩
      go_wp2
      go_ret3
      exact ⟨by rw [HF.out]; rfl, (Below.alloc (a := w) (w := w.drewN q) ⟨rfl, rfl, rfl, Nat.le_refl _, fun _ _ => rfl⟩ (Nat.le_refl _) _)⟩
  · have HF : Hid (textAt B most ok = (ByteArray.empty, 0, y)) := by have h1 := HTA.out; simp [hy] at h1; exact h1
    have hyb : (y == 0) = false := by simp [hy]
    clear HTA hy
    go_enter Tryz.func78, Tryz.ntmps78
    go_wp2_with fail
    refine HBL.out.mono ?_
    rintro e w1 ⟨a2, n2, c2, rfl, hs2, q, rfl⟩
    clear hs2
    go_wp2
    go_ret3
    exact ⟨by rw [HF.out]; rfl, rfl, rfl, rfl, Nat.le_refl _, fun _ _ => rfl⟩

theorem textAt_ok (B : List Nat) (most : Int) (ok : Bool) : (textAt B most ok).2.1 ≤ B.length := by
  unfold textAt
  split
  · simp
  · split
    · exact blobAt_ok B most
    · simp

set_option maxRecDepth 10000 in
set_option maxHeartbeats 800000 in
theorem rText_any (lim p : Nat) (s : RS) (most : Int) (w : World) (hR : RdS lim w p s) (hm1 : -9223372036854775808 ≤ most) (hm2 : most < 9223372036854775808) (ok : Bool)
    (hT : ∀ wx : World, Calls Tryz.prog 72 #[.string (strOf (blobAt s.rest most).1)] wx fun e w' => e = .returned (.bool ok) ∧ ∃ pos, w' = wx.iter (strOf (blobAt s.rest most).1) pos) :
    Calls Tryz.prog 61 #[.pointer (some ⟨p, 0, none⟩), .int .i64 most] w fun e w' => e = .returned (.string (textAt s.rest most ok).1) ∧ RdS lim w' p (s.step (textAt s.rest most ok).2.1 (textAt s.rest most ok).2.2) ∧ w.grownBy w' (some p) := by
  have HRS := hide (rest_any lim p s.made s.place s.why s.B s.pos w hR)
  have HST : Hid (∀ wx, RdS lim wx p s → Calls Tryz.prog 75 #[.pointer (some ⟨p, 0, none⟩), .int .i64 ((textAt s.rest most ok).2.1 : Nat), .int .i64 (textAt s.rest most ok).2.2] wx fun e w' => e = .returned (.tuple #[]) ∧ RdS lim w' p (s.step (textAt s.rest most ok).2.1 (textAt s.rest most ok).2.2) ∧ wx.grownBy w' (some p)) :=
    fun wx hx => step_any lim p s (textAt s.rest most ok).2.1 (textAt s.rest most ok).2.1 (textAt s.rest most ok).2.2 wx hx rfl (fun h _ => step_fits hx (textAt_ok s.rest most ok) h)
  have HT := hide hT
  have HR := hide hR
  clear hR hT
  go_enter Tryz.func61, Tryz.ntmps61
  go_wp2_with fail
  refine HRS.out.mono ?_
  rintro e w1 ⟨a1, n1, c1, rfl, hs1, q, rfl⟩
  have HS1 : Hid (Shows lim (w.drewN q) a1 n1 c1 s.rest) := hs1.world (w' := w.drewN q) rfl
  clear hs1
  go_wp2_with fail
  refine (textAhead_any HS1.out most hm1 hm2 ok HT.out).mono ?_
  rintro e w2 ⟨rfl, hb2⟩
  have HG2 := hide (grown_from (below_none hb2))
  have HR2 := hide (HR.out.kept HG2.out (fun g hg => by cases hg))
  clear HS1 hb2
  go_wp2_with fail
  refine (HST.out _ HR2.out).mono ?_
  rintro e w3 ⟨rfl, hr3, hg3⟩
  have HR3 := hide hr3
  have HG3 := hide hg3
  clear hr3 hg3
  go_wp2
  go_ret
  refine ⟨rfl, HR3.out, ?_⟩
  have h1 := HG2.out
  exact grown_trans ⟨h1.os, h1.tape, h1.output, h1.size, fun k hk _ => h1.block k hk (by simp)⟩ HG3.out
end Go.Proofs.YthacdhhmmmocpaaGreatDoor
namespace Go.Proofs.YthacdhhmmmocpaaGreatDoor
open Go.RowKit Crc

set_option maxRecDepth 10000 in
set_option maxHeartbeats 400000 in
theorem newWriter_full (w : World) :
    Calls Tryz.prog 17 #[.int .i64 65507] w fun e w' => e = .returned (.pointer (some ⟨w.heap.size, 0, none⟩)) ∧ Wr KW w.heap.size w' w.heap.size true 0 0 65507 [] ∧ Below w.heap.size w w' := by
  go_enter Tryz.func17, Tryz.ntmps17
  go_wp2
  go_ret
  refine ⟨rfl, ⟨.slice none 0 0, ?_, Owns.nil _ _, by simp [Value.ownBlock]⟩, (Below.refl _ w).alloc (Nat.le_refl _) _⟩
  exact heap_alloc_new w _

set_option maxRecDepth 10000 in
set_option maxHeartbeats 400000 in
theorem told_sound (p : Nat) (w : World) (h0 : w.cell? ⟨p, 0, none⟩ = some (.bool true)) (h2 : w.cell? ⟨p, 2, none⟩ = some (.int .i64 0)) :
    Calls Tryz.prog 53 #[.pointer (some ⟨p, 0, none⟩)] w fun e w' => e = .returned .nilIface ∧ w' = w := by
  go_enter Tryz.func53, Tryz.ntmps53
  go_wp2
  go_ret
  exact ⟨rfl, rfl⟩

set_option maxRecDepth 10000 in
set_option maxHeartbeats 400000 in
theorem wBytes_good {K : Kd} (base p : Nat) (place most : Int) (L : List Nat) (w : World) (hW : Wr K base w p true place 0 most L) :
    Calls Tryz.prog 22 #[.pointer (some ⟨p, 0, none⟩)] w fun e w' => ∃ v, e = .returned (.tuple #[v, .nilIface]) ∧ Owns w.heap.size w' v L ∧ Below w.heap.size w w' := by
  obtain ⟨u, hb, hO, hne⟩ := hW
  obtain ⟨ao, cap, rfl, hS, _⟩ := hO.form
  have c0 := block_cell hb 0
  have c2 := block_cell hb 2
  have c4 := block_cell hb 4
  simp at c0 c2 c4
  have HTS := hide (told_sound p w c0 c2)
  have HCP := hide (copied_sh hS (Nat.le_refl _))
  have HOO := hide hO.2
  clear hb hO hne hS c0 c2
  generalize L.length = n at c4 HCP
  go_enter Tryz.func22, Tryz.ntmps22
  go_wp2_with fail
  refine HTS.out.mono ?_
  rintro e w1 ⟨rfl, rfl⟩
  go_wp2_with fail
  refine HCP.out.mono ?_
  rintro e w2 ⟨v, rfl, _, _, hfr⟩
  go_wp2
  go_ret2
  exact ⟨v, rfl, ⟨hfr.1, HOO.out⟩, hfr.2⟩

set_option maxRecDepth 10000 in
set_option maxHeartbeats 400000 in
theorem readerAt_any (ao : Option Addr) (n cap pos : Nat) (w : World) :
    Calls Tryz.prog 58 #[.slice ao n cap, .int .i64 (pos : Int)] w fun e w' => e = .returned (.agg #[.bool true, .int .i64 0, .int .i64 0, .slice ao n cap, .int .i64 (pos : Int)]) ∧ Below w.heap.size w w' := by
  go_enter Tryz.func58, Tryz.ntmps58
  go_wp2
  refine bodyPost_ret (v := .agg #[.bool true, .int .i64 0, .int .i64 0, .slice ao n cap, .int .i64 (pos : Int)]) (by simp [results, Tryz.results58, go_sem]) rfl ⟨rfl, (Below.refl _ w).alloc (Nat.le_refl _) _⟩

set_option maxRecDepth 10000 in
set_option maxHeartbeats 400000 in
theorem newReader_any {lim : Nat} {w : World} {ao : Option Addr} {n cap : Nat} {B : List Nat} (h : Shows lim w ao n cap B) (hlw : lim ≤ w.heap.size) :
    Calls Tryz.prog 34 #[.slice ao n cap] w fun e w' => ∃ p lim', e = .returned (.pointer (some ⟨p, 0, none⟩)) ∧ w.heap.size ≤ p ∧ w.heap.size ≤ lim' ∧ RdS lim' w' p ⟨true, 0, 0, B, 0, KR⟩ ∧ Below w.heap.size w w' := by
  have HCP := hide (copied_sh h hlw)
  have HB := hide h.2.2.2.1
  have HN := hide h.1
  have HN2 := hide h.2.2.1
  clear h
  go_enter Tryz.func34, Tryz.ntmps34
  go_wp2_with fail
  refine HCP.out.mono ?_
  rintro e w1 ⟨v, rfl, _, _, hfr⟩
  have HO1 : Hid (Owns w.heap.size w1 v B) := ⟨hfr.1, HB.out, by rw [← HN.out]; exact HN2.out⟩
  have HB1 := hide hfr.2
  clear hfr
  obtain ⟨a1, c1, rfl, hs1, _⟩ := HO1.out.form
  have HS1 := hide hs1
  have HBL : Hid (B.length = n) := HN.out.symm
  clear hs1
  generalize hbl : B.length = m at *
  go_wp2_with fail
  refine (readerAt_any a1 m c1 0 w1).mono ?_
  rintro e w2 ⟨rfl, hb2⟩
  have HB2 := hide hb2
  clear hb2
  go_wp2
  go_ret
  refine ⟨w2.heap.size, w1.heap.size, rfl, Nat.le_trans HB1.out.size HB2.out.size, HB1.out.size, ⟨a1, c1, ?_, ?_, Nat.zero_le _, HB2.out.size⟩, ?_⟩
  · rw [hbl]
    exact heap_alloc_new w2 _
  · rw [hbl]
    exact (HS1.out.kept (below_none HB2.out) (fun g hg => by cases hg)).kept (World.grownBy_alloc w2 _ none) (fun g hg => by cases hg)
  · exact (HB1.out.trans (HB2.out.mono HB1.out.size)).alloc (Nat.le_trans HB1.out.size HB2.out.size) _

set_option maxRecDepth 10000 in
set_option maxHeartbeats 400000 in
theorem rLeft_any (lim p : Nat) (s : RS) (w : World) (hR : RdS lim w p s) :
    Calls Tryz.prog 63 #[.pointer (some ⟨p, 0, none⟩)] w fun e w' => e = .returned (.int .i64 ((s.B.length - s.pos : Nat) : Int)) ∧ ∃ q, w' = w.drewN q := by
  obtain ⟨ao, cap, hb, hS, hp, hl⟩ := hR
  have c3 := block_cell hb 3
  have c4 := block_cell hb 4
  simp at c3 c4
  have hn := hS.2.2.1
  clear hb hS hl
  have HE : Hid ((s.B.length : Int) - (s.pos : Int) = ((s.B.length - s.pos : Nat) : Int)) := by show _ = _; omega
  generalize s.B.length = n at *
  generalize s.pos = pos at *
  have h0 : (pos : Int) ≤ (n : Int) := by omega
  go_enter Tryz.func63, Tryz.ntmps63
  go_wp2_with fail
  go_quiet (fail)
  go_wp2
  go_ret
  exact ⟨by rw [← HE.out]; rfl, _, rfl⟩

set_option maxRecDepth 10000 in
set_option maxHeartbeats 400000 in
theorem rErr_sound (lim p : Nat) (s : RS) (w : World) (hR : RdS lim w p s) (hs : s.sound) :
    Calls Tryz.prog 36 #[.pointer (some ⟨p, 0, none⟩)] w fun e w' => e = .returned .nilIface ∧ w' = w := by
  obtain ⟨ao, cap, hb, hS, hp, hl⟩ := hR
  have c0 := block_cell hb 0
  have c2 := block_cell hb 2
  simp at c0 c2
  rw [hs.1] at c0
  rw [hs.2] at c2
  have HTS := hide (told_sound p w c0 c2)
  clear hb hS hp hl hs c0 c2
  go_enter Tryz.func36, Tryz.ntmps36
  go_wp2_with fail
  refine HTS.out.mono ?_
  rintro e w1 ⟨rfl, rfl⟩
  go_wp2
  go_ret
  exact ⟨rfl, rfl⟩

set_option maxRecDepth 10000 in
set_option maxHeartbeats 400000 in
theorem rEnd_sound (lim p : Nat) (s : RS) (w : World) (hR : RdS lim w p s) (hs : s.sound) (he : s.pos = s.B.length) :
    Calls Tryz.prog 39 #[.pointer (some ⟨p, 0, none⟩)] w fun e w' => e = .returned .nilIface ∧ ∃ q, w' = w.drewN q := by
  have HER := hide (rErr_sound lim p s w hR hs)
  have HLF : Hid (Calls Tryz.prog 63 #[.pointer (some ⟨p, 0, none⟩)] w fun e w' => e = .returned (.int .i64 0) ∧ ∃ q, w' = w.drewN q) := by
    have h := rLeft_any lim p s w hR
    rw [he, Nat.sub_self] at h
    exact h
  clear hR hs he
  go_enter Tryz.func39, Tryz.ntmps39
  go_wp2_with fail
  refine HER.out.mono ?_
  rintro e w1 ⟨rfl, rfl⟩
  go_wp2_with fail
  refine HLF.out.mono ?_
  rintro e w2 ⟨rfl, q, rfl⟩
  go_wp2
  go_ret
  exact ⟨rfl, q, rfl⟩
end Go.Proofs.YthacdhhmmmocpaaGreatDoor
