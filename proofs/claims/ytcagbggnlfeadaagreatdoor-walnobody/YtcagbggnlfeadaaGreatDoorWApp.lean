import Derived.Test.YtcagbggnlfeadaaGreatDoorWEq
namespace Go.Proofs.YtcagbggnlfeadaaGreatDoor
open Go.RowKit Crc

def low4 (s : Nat) : List Nat := [s % 256, s / 256 % 256, s / 65536 % 256, s / 16777216]
theorem vals_low4 (S : Nat) : vals (low4 S) = [.int .u8 ((S : Int) % (256 : Int)), .int .u8 ((S : Int) / (256 : Int) % (256 : Int)), .int .u8 ((S : Int) / (65536 : Int) % (256 : Int)), .int .u8 ((S : Int) / (16777216 : Int))] := by
  simp [vals, low4]
theorem sum_lt (B : List Nat) (hB : ∀ x ∈ B, x < 256) : Crc.sum B < 4294967296 := xor_lt32 _ _ (sumFrom_lt _ _ (by omega) hB) (by omega)
theorem low4_lt (S : Nat) (h : S < 4294967296) : ∀ x ∈ low4 S, x < 256 := by
  intro x hx
  simp only [low4, List.mem_cons, List.not_mem_nil, or_false] at hx
  rcases hx with rfl | rfl | rfl | rfl <;> omega
theorem low4_len (S : Nat) : (low4 S).length = 4 := rfl
theorem shows_cells {lim : Nat} {w : World} {ao : Option Addr} {n cap : Nat} {B : List Nat} (h : Shows lim w ao n cap B) (hn : 0 < n) : ∃ ad, ao = some ad ∧ ∀ j u, (vals B)[j]? = some u → w.cell? (ad.add j) = some u := by
  obtain ⟨h1, h2, h3, h4, b, off, h5, h6, h7⟩ := h
  exact ⟨⟨b, off, none⟩, h5 hn, vals_cell (fun i hi => h7 i (by omega))⟩
theorem sum_sh {lim : Nat} {w : World} {ao : Option Addr} {n cap : Nat} {B : List Nat} (h : Shows lim w ao n cap B) (hT : Table w) :
    Calls Tryz.prog 73 #[.slice ao n cap] w fun e w' => e = .returned (.int .u32 (Crc.sum B)) ∧ w' = w := by
  obtain ⟨h1, h2, h3, h4, b, off, h5, h6, h7⟩ := h
  exact sum_any b off ao B n cap w h5 h1 h3 h4 hT h7
theorem Table.kept {w w' : World} {row : Option Nat} (h : Table w) (hg : w.grownBy w' row) (hr : row ≠ some 0) : Table w' := fun i hi => hg.cell (h i hi) (by simpa using fun e => hr e.symm)
theorem Table.below {w w' : World} {k : Nat} (h : Table w) (hb : Below k w w') (hk : 0 < k) : Table w' := fun i hi => (hb.cell (p := ⟨0, i, none⟩) hk).trans (h i hi)
theorem Owns.ne0 {base : Nat} {w : World} {v : Value} {B : List Nat} (h : Owns base w v B) (hb : 0 < base) : v.ownBlock ≠ some 0 := fun e => by have := (h.1.lt 0 e).1; omega

set_option maxRecDepth 10000 in
set_option maxHeartbeats 800000 in
theorem appendSum_any {base lim : Nat} {w : World} {sl : Value} {L : List Nat} {ao : Option Addr} {n cap : Nat} {B : List Nat} (hO : Owns base w sl L) (hl : L.length + 4 ≤ 140737488355328) (hbase : base ≤ w.heap.size) (h : Shows lim w ao n cap B) (hT : Table w) :
    Calls Tryz.prog 65 #[sl, .slice ao n cap] w fun e w' => ∃ v', e = .returned v' ∧ Owns base w' v' (L ++ low4 (Crc.sum B)) ∧ Ext w w' sl v' := by
  obtain ⟨i0, hi, hz0, hz1, hz2⟩ := info_parts Tryz.info5
  have HS := hide (sum_sh h hT)
  have hS := sum_lt B h.2.2.2.1
  have HO := hide hO
  have HV := hide (vals_low4 (Crc.sum B))
  clear h hT hO
  generalize Crc.sum B = S at *
  have HB := hide (low4_lt S hS)
  go_enter Tryz.func65, Tryz.ntmps65
  go_wp2_with fail
  refine HS.out.mono ?_
  rintro e w1 ⟨rfl, rfl⟩
  go_wp2_with (first
    | (at_builtin; refine wpList_append_ext _ rfl (.tmp 8) (.tmp 20) 37 rfl base 5 i0 (.int .u8 0) Tryz.underlying37 hi hz0 hz1 hz2 rfl sl L.length (vals L) rfl (HO.out.1.alloc _) ⟨w1.heap.size, 0, none⟩ 4 4 [.int .u8 ((S : Int) % (256 : Int)), .int .u8 ((S : Int) / (256 : Int) % (256 : Int)), .int .u8 ((S : Int) / (65536 : Int) % (256 : Int)), .int .u8 ((S : Int) / (16777216 : Int))] rfl rfl (cell_four_new _ _ _ _ _ _) (one4 _ _ _ _) (by omega) hl (by simp; omega) ?_; intro v' w2 hown2 hext2))
  go_ret
  refine ⟨_, rfl, ⟨?_, ?_, ?_⟩, ((Ext.refl _ _).alloc _).trans hext2⟩
  · rw [vals_append, HV.out, List.length_append, low4_len]; exact hown2
  · intro x hx
    rcases List.mem_append.1 hx with hx | hx
    · exact HO.out.2.1 x hx
    · exact HB.out x hx
  · rw [List.length_append, low4_len]; exact hl

set_option maxRecDepth 10000 in
set_option maxHeartbeats 800000 in
theorem summed_any {l1 l2 : Nat} {w : World} {a1 a2 : Option Addr} {n1 n2 c1 c2 : Nat} {B1 B2 : List Nat} (h1 : Shows l1 w a1 n1 c1 B1) (h2 : Shows l2 w a2 n2 c2 B2) (hT : Table w) :
    Calls Tryz.prog 72 #[.slice a1 n1 c1, .slice a2 n2 c2] w fun e w' => e = .returned (.bool (decide (low4 (Crc.sum B1) = B2))) ∧ Below w.heap.size w w' := by
  have HA := hide (appendSum_any (Owns.nil w.heap.size w) (by simp) (Nat.le_refl _) h1 hT)
  have HE : Hid (∀ w1 v1, Owns w.heap.size w1 v1 ([] ++ low4 (Crc.sum B1)) → Ext w w1 (.slice none 0 0) v1 → Calls Tryz.prog 71 #[v1, .slice a2 n2 c2] w1 fun e w' => e = .returned (.bool (decide (low4 (Crc.sum B1) = B2))) ∧ w' = w1) := by
    intro w1 v1 ho he
    obtain ⟨ao, cap, rfl, hs, _⟩ := ho.form
    exact equal_any hs (h2.kept he.1 (fun g hg => by cases hg))
  clear h1 h2 hT
  generalize decide (low4 (Crc.sum B1) = B2) = R at *
  go_enter Tryz.func72, Tryz.ntmps72
  go_wp2_with fail
  refine HA.out.mono ?_
  rintro e w1 ⟨v1, rfl, ho, he⟩
  have H2 := hide (HE.out w1 v1 ho he)
  have HBe : Hid (Below w.heap.size w w1) := (Below.refl _ _).grown he.1 (Nat.le_refl _) (fun k h => by cases h)
  clear ho he
  go_wp2_with fail
  refine H2.out.mono ?_
  rintro e w2 ⟨rfl, rfl⟩
  go_wp2
  go_ret
  exact ⟨rfl, HBe.out⟩
end Go.Proofs.YtcagbggnlfeadaaGreatDoor
