import Derived.Test.YteafdpmblbbpnaaLK19
import Derived.Test.YteafdpmblbbpnaaLK24
namespace Go.Proofs.Yteafdpmblbbpnaa
open Go.RowKit

/-- No two have one number. -/
def Dis (l : List Ac) : Prop := ∀ (i : Nat) (a : Ac), l[i]? = some a → byId (l.take i) a.id = none
theorem Good.dis {l : List Ac} (h : Good l l.length) : Dis l := fun i a ha => (fault_zero (h i a (List.getElem?_eq_some_iff.1 ha).1 ha)).2.1
theorem Dis.by {l : List Ac} (h : Dis l) {a : Ac} (ha : a ∈ l) : byId l a.id = some a := by
  obtain ⟨i, hi⟩ := List.getElem?_of_mem ha
  have hl := (List.getElem?_eq_some_iff.1 hi).1
  have e : l = l.take i ++ a :: l.drop (i + 1) := by
    have h1 := List.take_append_drop i l
    have h2 : l.drop i = a :: l.drop (i + 1) := by
      rw [List.drop_eq_getElem_cons hl]
      congr 1
      exact (List.getElem?_eq_some_iff.1 hi).2
    rw [h2] at h1
    exact h1.symm
  have hn := h i a hi
  unfold byId at hn ⊢
  rw [e, List.find?_append]
  rw [hn]
  simp
theorem insA_up : ∀ (m : List Ac) (a : Ac), m.Pairwise (fun x y => x.id < y.id) → (∀ y ∈ m, y.id ≠ a.id) → (insA m a).Pairwise (fun x y => x.id < y.id)
  | [], a, _, _ => by simp [insA]
  | x :: r, a, h, hn => by
    have h1 := List.pairwise_cons.1 h
    unfold insA
    split
    · rename_i hlt
      refine List.pairwise_cons.2 ⟨fun y hy => ?_, h⟩
      rcases List.mem_cons.1 hy with e | e
      · rw [e]; exact hlt
      · exact Nat.lt_trans hlt (h1.1 y e)
    · rename_i hlt
      refine List.pairwise_cons.2 ⟨fun y hy => ?_, insA_up r a h1.2 (fun y hy => hn y (List.mem_cons_of_mem _ hy))⟩
      rcases insA_mem.1 hy with e | e
      · rw [e]; have := hn x (by simp); omega
      · exact h1.1 y e
theorem byId_none {l : List Ac} {x : Nat} (h : byId l x = none) : ∀ y ∈ l, y.id ≠ x := fun y hy e => by
  unfold byId at h
  have := List.find?_eq_none.1 h y hy
  simp [e] at this
theorem srt_up {l : List Ac} (h : Dis l) : ∀ k, k ≤ l.length → (srt (l.take k)).Pairwise (fun x y => x.id < y.id)
  | 0, _ => by simp [srt]
  | k + 1, hk => by
    have hlt : k < l.length := by omega
    have hx : l[k]? = some l[k] := List.getElem?_eq_getElem hlt
    have e : l.take (k + 1) = l.take k ++ [l[k]] := by rw [List.take_add_one, hx]; rfl
    rw [e, srt_app]
    refine insA_up _ _ (srt_up h k (by omega)) (fun y hy => ?_)
    unfold srt at hy
    rw [srt_mem] at hy
    rcases hy with hy | hy
    · exact byId_none (h k _ hx) y hy
    · cases hy
theorem srt_all {l : List Ac} (h : Dis l) : (srt l).Pairwise (fun x y => x.id < y.id) := by
  have := srt_up h l.length (Nat.le_refl _)
  rw [List.take_length] at this
  exact this
theorem nodup_sub : ∀ (xs ys : List Nat), xs.Nodup → (∀ x ∈ xs, x ∈ ys) → xs.length ≤ ys.length
  | [], ys, _, _ => by simp
  | x :: r, ys, hn, hs => by
    have hx := hs x (by simp)
    have h1 := List.nodup_cons.1 hn
    have ih := nodup_sub r (ys.erase x) h1.2 (fun y hy => (List.mem_erase_of_ne (fun e : y = x => h1.1 (by rw [← e]; exact hy))).2 (hs y (List.mem_cons_of_mem _ hy)))
    have hl := List.length_erase_of_mem hx
    have hp := List.length_pos_of_mem hx
    simp only [List.length_cons]
    omega
theorem up_eqA : ∀ (l l' : List Nat), l.Pairwise (· < ·) → l'.Pairwise (· < ·) → (∀ x, x ∈ l ↔ x ∈ l') → l = l'
  | [], [], _, _, _ => rfl
  | [], b :: r, _, _, h => by have := (h b).2 (by simp); simp at this
  | a :: r, [], _, _, h => by have := (h a).1 (by simp); simp at this
  | a :: r, b :: s, h1, h2, h => by
    have p1 := List.pairwise_cons.1 h1
    have p2 := List.pairwise_cons.1 h2
    have e : a = b := by
      rcases List.mem_cons.1 ((h a).1 (by simp)) with e | e
      · exact e
      · rcases List.mem_cons.1 ((h b).2 (by simp)) with e' | e'
        · exact e'.symm
        · have := p1.1 b e'; have := p2.1 a e; omega
    subst e
    rw [up_eqA r s p1.2 p2.2 (fun x => ?_)]
    constructor
    · intro hx
      rcases List.mem_cons.1 ((h x).1 (List.mem_cons_of_mem _ hx)) with e | e
      · subst e; have := p1.1 x hx; omega
      · exact e
    · intro hx
      rcases List.mem_cons.1 ((h x).2 (List.mem_cons_of_mem _ hx)) with e | e
      · subst e; have := p2.1 x hx; omega
      · exact e
theorem byId_some {l : List Ac} {x : Nat} : (byId l x).isSome = true ↔ ∃ a ∈ l, a.id = x := by
  unfold byId
  rw [List.find?_isSome]
  simp
/-- The sorted keys are the numbers of the sorted accounts. -/
theorem keys_srt {l : List Ac} (h : Dis l) (hin : ∀ x ∈ l, x.In) {ks : List Nat} (h1 : ks.Pairwise (· < ·)) (h2 : ∀ x ∈ ks, x < 18446744073709551616) (h3 : ∀ x, x < 18446744073709551616 → (x ∈ ks ↔ (byId l x).isSome = true)) : ks = (srt l).map Ac.id := by
  refine up_eqA _ _ h1 (List.pairwise_map.2 (srt_all h)) (fun x => ?_)
  constructor
  · intro hx
    obtain ⟨a, ha, e⟩ := byId_some.1 ((h3 x (h2 x hx)).1 hx)
    exact List.mem_map.2 ⟨a, (by unfold srt; rw [srt_mem]; exact .inl ha), e⟩
  · intro hx
    obtain ⟨a, ha, e⟩ := List.mem_map.1 hx
    have ha' : a ∈ l := by unfold srt at ha; rw [srt_mem] at ha; rcases ha with h | h; exact h; cases h
    subst e
    exact (h3 _ (hin a ha').h0).2 (byId_some.2 ⟨a, ha', rfl⟩)
end Go.Proofs.Yteafdpmblbbpnaa
