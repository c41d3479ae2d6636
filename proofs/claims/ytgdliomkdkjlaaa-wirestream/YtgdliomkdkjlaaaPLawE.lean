import Derived.Test.YtgdliomkdkjlaaaPLawD
namespace Go.Proofs.Ytgdliomkdkjlaaa
open Go.RowKit Crc

theorem blob_lend {base lim p bn bc : Nat} {bo : Option Addr} {B L : List Nat} {M : Int} {w : World} (hB : Shows lim w bo bn bc B) (hA : (bn : Int) ≤ M) (hW : Wr base w p true 0 0 65507 L) (hfit : L.length + ((numB bn).length + bn) ≤ 65507) (hbs : base ≤ w.heap.size) (hl1 : lim ≤ base) (hl2 : lim ≤ p) :
    ∀ o : Obj, (w.alloc o).cell? ⟨w.heap.size, 5, none⟩ = some (.int .i64 M) → Calls Try.prog 10 #[.slice bo bn bc] (w.alloc o).drew fun e w1 => e = .returned (.slice (some ⟨w.heap.size + 1, 0, none⟩) bn (bn + 4)) ∧ w1.cell? ⟨w.heap.size, 5, none⟩ = some (.int .i64 M) ∧
      Hid (Calls Try.prog 40 #[.pointer (some ⟨p, 0, none⟩), .slice (some ⟨w.heap.size + 1, 0, none⟩) bn (bn + 4), .int .i64 M] w1 fun e w' => e = .returned (.tuple #[]) ∧ Wr base w' p true 0 0 65507 (L ++ numB bn ++ B) ∧ Below lim w w') := by
    have hlw : lim ≤ w.heap.size := by omega
    intro o ho
    rw [show w.heap.size + 1 = (w.alloc o).heap.size by simp]
    have hb0 := below_alloc w o
    have hWa : Wr base (w.alloc o).drew p true 0 0 65507 L := (hW.alloc o).next ⟨rfl, rfl, rfl, Nat.le_refl _, fun _ _ _ => rfl⟩
    have hBa : Shows lim (w.alloc o).drew bo bn bc B := (hB.kept (World.grownBy_alloc w o none) (fun g hg => by cases hg)).world rfl
    have hla : lim ≤ (w.alloc o).drew.heap.size := Nat.le_trans hlw hb0.size
    refine (lend_sh hBa hla).mono ?_
    rintro e w1 ⟨rfl, hlent, hb1⟩
    refine ⟨rfl, (hb1.cell (p := ⟨w.heap.size, 5, none⟩) (by show w.heap.size < (w.alloc o).heap.size; simp)).trans ho, ?_⟩
    have hg1 := below_none hb1
    have hW1 : Wr base w1 p true 0 0 65507 L := hWa.next hg1
    have hp : p < (w.alloc o).drew.heap.size := by obtain ⟨v, hb, _⟩ := hWa; exact block_lt hb
    have h47 := hB.2.2.1
    have hBl := hB.2.2.2.1
    refine (wBlob_gen base lim p (some ⟨(w.alloc o).heap.size, 0, none⟩) bn (bn + 4) ((w.alloc o).heap.size + 1) B M 0 65507 L w1 (hlent.shows1 hBl h47) ?_ (by omega) hW1 (by omega) (by omega) (by have := hb1.size; have := hb0.size; show base ≤ _; have h3 : (w.alloc o).drew.heap.size = (w.alloc o).heap.size := rfl; omega) hl1 hl2).mono ?_
    · intro u v' w2 hu he
      refine (hlent.next he.1 ?_).shows1 hBl h47
      intro e
      have hu0 : (w.alloc o).drew.cell? ⟨p, 4, none⟩ = some u := by rw [← hb1.cell (p := ⟨p, 4, none⟩) hp]; exact hu
      have := (hWa.own_lt hu0 e).2
      exact absurd this (Nat.lt_irrefl _)
    · rintro e w2 ⟨rfl, hw2, hb2⟩
      refine ⟨rfl, hw2, ?_⟩
      have k0 : Below lim w (w.alloc o).drew := (hb0.mono hlw).drew
      exact (k0.trans (hb1.mono hla)).trans hb2

set_option maxRecDepth 10000 in
set_option maxHeartbeats 800000 in
theorem put_blob (base lim p : Nat) (f : Fl) (X L : List Nat) (w : World) (hf : f.Ok lim w) (h8 : f.K = 8) (hX : f.enc = some X) (hW : Wr base w p true 0 0 65507 L) (hfit : L.length + X.length ≤ 65507) (hbs : base ≤ w.heap.size) (hl1 : lim ≤ base) (hl2 : lim ≤ p) :
    Calls Try.prog 22 #[.pointer (some ⟨p, 0, none⟩), .agg f.cells] w fun e w' => e = .returned (.tuple #[]) ∧ Wr base w' p true 0 0 65507 (L ++ X) ∧ Below lim w w' := by
  obtain ⟨hN, hK1, hK2, hI1, hI2, hM1, hM2, hB, hS⟩ := hf
  obtain ⟨K, N, I, bo, bn, bc, B, S, M⟩ := f
  simp only at hN hK1 hK2 hI1 hI2 hM1 hM2 hB hS h8
  unfold Fl.cells
  simp only
  subst h8
  have hA : ¬ (M < (bn : Int)) := by
    intro h
    simp [Fl.enc, h] at hX
  obtain rfl : numB bn ++ B = X := by simpa [Fl.enc, hA] using hX
  rw [List.length_append] at hfit
  have hbl := hB.1
  have HL := hide (blob_lend (M := M) (p := p) (L := L) hB (by omega) hW (by omega) hbs hl1 hl2)
  clear hX hA hW hB hbl
  rw [← List.append_assoc]
  go_enter Try.func22, Try.ntmps22
  go_wp2_with fail
  go_region_with (first | (go_at_call 10; refine (HL.out _ (by simp)).mono ?_; rintro e w1 ⟨rfl, hm5, HB1⟩) | (go_at_call 40; refine HB1.out.mono ?_; rintro e w2 ⟨rfl, hw2, hb2⟩))
  all_goals go_wp2
  all_goals go_end0
  all_goals exact ⟨rfl, hw2, hb2⟩
end Go.Proofs.Ytgdliomkdkjlaaa
