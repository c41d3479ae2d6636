import Derived.Test.YtcfenjpdjogmdaaLT17
import Derived.Test.YtcfenjpdjogmdaaLT22
import Derived.Test.YtcfenjpdjogmdaaLT24
namespace Go.Proofs.Ytcfenjpdjogmdaa
open Go.RowKit

theorem infoHold : (Try.prog.info? 83).map (fun i => (i.zero, i.size, i.bytes)) = some (some (.agg #[.int .u64 0, .int .u64 0, .int .u64 0]), 3, 24) := by kernel_rfl
end Go.Proofs.Ytcfenjpdjogmdaa
namespace Go.Proofs.Ytcfenjpdjogmdaa
open Go.RowKit

/-- No two have one number. -/
def Dis (l : List Ac) : Prop := ∀ (i : Nat) (a : Ac), l[i]? = some a → byId (l.take i) a.id = none
theorem Good.dis {l : List Ac} (h : Good l l.length) : Dis l := fun i a ha => (fault_zero (h i a (List.getElem?_eq_some_iff.1 ha).1 ha)).2.1
theorem Dis.by {l : List Ac} (h : Dis l) {a : Ac} (ha : a ∈ l) : byId l a.id = some a := by
  obtain ⟨i, hi⟩ := List.getElem?_of_mem ha
  have hl := (List.getElem?_eq_some_iff.1 hi).1
  have e : l = l.take i ++ a :: l.drop (i + 1) := by
    have h1 := List.take_append_drop i l
    have h2 : l.drop i = a :: l.drop (i + 1) := by
      rw [List.drop_eq_getElem_cons hl]
      congr 1
      exact (List.getElem?_eq_some_iff.1 hi).2
    rw [h2] at h1
    exact h1.symm
  have hn := h i a hi
  unfold byId at hn ⊢
  rw [e, List.find?_append]
  rw [hn]
  simp
theorem insA_up : ∀ (m : List Ac) (a : Ac), m.Pairwise (fun x y => x.id < y.id) → (∀ y ∈ m, y.id ≠ a.id) → (insA m a).Pairwise (fun x y => x.id < y.id)
  | [], a, _, _ => by simp [insA]
  | x :: r, a, h, hn => by
    have h1 := List.pairwise_cons.1 h
    unfold insA
    split
    · rename_i hlt
      refine List.pairwise_cons.2 ⟨fun y hy => ?_, h⟩
      rcases List.mem_cons.1 hy with e | e
      · rw [e]; exact hlt
      · exact Nat.lt_trans hlt (h1.1 y e)
    · rename_i hlt
      refine List.pairwise_cons.2 ⟨fun y hy => ?_, insA_up r a h1.2 (fun y hy => hn y (List.mem_cons_of_mem _ hy))⟩
      rcases insA_mem.1 hy with e | e
      · rw [e]; have := hn x (by simp); omega
      · exact h1.1 y e
theorem byId_none {l : List Ac} {x : Nat} (h : byId l x = none) : ∀ y ∈ l, y.id ≠ x := fun y hy e => by
  unfold byId at h
  have := List.find?_eq_none.1 h y hy
  simp [e] at this
theorem srt_up {l : List Ac} (h : Dis l) : ∀ k, k ≤ l.length → (srt (l.take k)).Pairwise (fun x y => x.id < y.id)
  | 0, _ => by simp [srt]
  | k + 1, hk => by
    have hlt : k < l.length := by omega
    have hx : l[k]? = some l[k] := List.getElem?_eq_getElem hlt
    have e : l.take (k + 1) = l.take k ++ [l[k]] := by rw [List.take_add_one, hx]; rfl
    rw [e, srt_app]
    refine insA_up _ _ (srt_up h k (by omega)) (fun y hy => ?_)
    unfold srt at hy
    rw [srt_mem] at hy
    rcases hy with hy | hy
    · exact byId_none (h k _ hx) y hy
    · cases hy
theorem srt_all {l : List Ac} (h : Dis l) : (srt l).Pairwise (fun x y => x.id < y.id) := by
  have := srt_up h l.length (Nat.le_refl _)
  rw [List.take_length] at this
  exact this
theorem nodup_sub : ∀ (xs ys : List Nat), xs.Nodup → (∀ x ∈ xs, x ∈ ys) → xs.length ≤ ys.length
  | [], ys, _, _ => by simp
  | x :: r, ys, hn, hs => by
    have hx := hs x (by simp)
    have h1 := List.nodup_cons.1 hn
    have ih := nodup_sub r (ys.erase x) h1.2 (fun y hy => (List.mem_erase_of_ne (fun e : y = x => h1.1 (by rw [← e]; exact hy))).2 (hs y (List.mem_cons_of_mem _ hy)))
    have hl := List.length_erase_of_mem hx
    have hp := List.length_pos_of_mem hx
    simp only [List.length_cons]
    omega
theorem up_eqA : ∀ (l l' : List Nat), l.Pairwise (· < ·) → l'.Pairwise (· < ·) → (∀ x, x ∈ l ↔ x ∈ l') → l = l'
  | [], [], _, _, _ => rfl
  | [], b :: r, _, _, h => by have := (h b).2 (by simp); simp at this
  | a :: r, [], _, _, h => by have := (h a).1 (by simp); simp at this
  | a :: r, b :: s, h1, h2, h => by
    have p1 := List.pairwise_cons.1 h1
    have p2 := List.pairwise_cons.1 h2
    have e : a = b := by
      rcases List.mem_cons.1 ((h a).1 (by simp)) with e | e
      · exact e
      · rcases List.mem_cons.1 ((h b).2 (by simp)) with e' | e'
        · exact e'.symm
        · have := p1.1 b e'; have := p2.1 a e; omega
    subst e
    rw [up_eqA r s p1.2 p2.2 (fun x => ?_)]
    constructor
    · intro hx
      rcases List.mem_cons.1 ((h x).1 (List.mem_cons_of_mem _ hx)) with e | e
      · subst e; have := p1.1 x hx; omega
      · exact e
    · intro hx
      rcases List.mem_cons.1 ((h x).2 (List.mem_cons_of_mem _ hx)) with e | e
      · subst e; have := p2.1 x hx; omega
      · exact e
theorem byId_some {l : List Ac} {x : Nat} : (byId l x).isSome = true ↔ ∃ a ∈ l, a.id = x := by
  unfold byId
  rw [List.find?_isSome]
  simp
/-- The sorted keys are the numbers of the sorted accounts. -/
theorem keys_srt {l : List Ac} (h : Dis l) (hin : ∀ x ∈ l, x.In) {ks : List Nat} (h1 : ks.Pairwise (· < ·)) (h2 : ∀ x ∈ ks, x < 18446744073709551616) (h3 : ∀ x, x < 18446744073709551616 → (x ∈ ks ↔ (byId l x).isSome = true)) : ks = (srt l).map Ac.id := by
  refine up_eqA _ _ h1 (List.pairwise_map.2 (srt_all h)) (fun x => ?_)
  constructor
  · intro hx
    obtain ⟨a, ha, e⟩ := byId_some.1 ((h3 x (h2 x hx)).1 hx)
    exact List.mem_map.2 ⟨a, (by unfold srt; rw [srt_mem]; exact .inl ha), e⟩
  · intro hx
    obtain ⟨a, ha, e⟩ := List.mem_map.1 hx
    have ha' : a ∈ l := by unfold srt at ha; rw [srt_mem] at ha; rcases ha with h | h; exact h; cases h
    subst e
    exact (h3 _ (hin a ha').h0).2 (byId_some.2 ⟨a, ha', rfl⟩)
end Go.Proofs.Ytcfenjpdjogmdaa
namespace Go.Proofs.Ytcfenjpdjogmdaa
open Go.RowKit

/-- Between two rounds of rising. -/
structure Rz (w : World) (l : List Ac) (kb n k : Nat) (wr : World) : Prop where
  bel : Below w.heap.size w wr
  row : wr.ownsRow w.heap.size 80 4 (.slice (some ⟨w.heap.size, 0, none⟩) k n) k (acells ((srt l).take k))
  key : ∀ (i : Nat) (x : Ac), (srt l)[i]? = some x → wr.cell? ⟨kb, i, none⟩ = some (.int .u64 (x.id : Nat))
  kl : kb < wr.heap.size
  ne : kb ≠ w.heap.size
theorem Rz.next {w : World} {l : List Ac} {kb n k : Nat} {wr w4 : World} (h : Rz w l kb n k wr) (o : Obj) {x : Ac} (hx : (srt l)[k]? = some x) (ho : w4.ownsRow w.heap.size 80 4 (.slice (some ⟨w.heap.size, 0, none⟩) (k + 1) n) (k + 1) (acells ((srt l).take k) ++ x.vals)) (hg : (wr.alloc o).grownBy w4 (some w.heap.size)) : Rz w l kb n (k + 1) w4 := by
  have hb := h.bel.alloc h.bel.size o
  refine ⟨hb.grown hg hb.size (fun j e => by cases e; exact Nat.le_refl _), by rw [← take_step hx]; exact ho, fun i y hy => ?_, ?_, h.ne⟩
  · have h1 : (wr.alloc o).cell? ⟨kb, i, none⟩ = some (.int .u64 (y.id : Nat)) := by rw [World.cell?_alloc_some _ _ _ (by rw [h.key i y hy]; rfl)]; exact h.key i y hy
    exact hg.cell h1 (fun e => h.ne (Option.some.inj e))
  · have := hg.size
    have := h.kl
    simp at *
    omega
set_option maxRecDepth 10000 in
set_option maxHeartbeats 4000000 in
/-- rising: the accounts, sorted. -/
theorem risingA {w : World} {mb : Nat} {l : List Ac} (h : TAm w mb l.length (byId l)) (hd : Dis l) (hin : ∀ x ∈ l, x.In) (hl : l.length ≤ 64) :
    Calls Try.prog 29 #[.map (some mb)] w fun e w' => ∃ ao cap, e = .returned (.slice ao l.length cap) ∧ Hid (w'.ownsRow w.heap.size 80 4 (.slice ao l.length cap) l.length (acells (srt l)) ∧ Below w.heap.size w w' ∧ (l.length = 0 → ao = none ∧ cap = 0)) := by
  obtain ⟨i0, hi, hz0, hz1, hz2⟩ := info_parts infoAcc
  obtain ⟨n, hn⟩ : ∃ n, l.length = n := ⟨_, rfl⟩
  have HT := hide h
  have HD := hide hd
  have HIN := hide hin
  have HN := hide hn
  rw [hn] at hl ⊢
  have hlen := h.len 3
  rw [hn] at hlen
  have HLN : Hid (∀ V, Below w.heap.size w V → (Builtin.len_ #[65] 3 #[.map (some mb)]).run Try.prog V = .ok (.int .i64 (n : Nat)) V) := fun V hV => by
    have := (HT.out.kept (below_none hV) (by simp)).len 3
    rw [HN.out] at this
    exact this
  clear h hd hin hn
  go_enter Try.func29, Try.ntmps29
  by_cases h0 : n = 0
  · subst h0
    have hnil : srt l = [] := List.length_eq_zero_iff.1 (by unfold srt; rw [srt_len, HN.out]; rfl)
    have HE : Hid (w.ownsRow w.heap.size 80 4 (.slice none 0 0) 0 (acells (srt l)) ∧ Below w.heap.size w w ∧ ((0 : Nat) = 0 → (none : Option Addr) = none ∧ 0 = 0)) := by
      rw [hnil]
      exact ⟨World.ownsRow_nil _ _ _ _, Below.refl _ _, fun _ => ⟨rfl, rfl⟩⟩
    clear hnil
    go_wp2
    go_ret
    exact ⟨none, 0, rfl, hide ⟨HE.out.1, HE.out.2.1, by simp⟩⟩
  have g0 : (((n : Nat) : Int) == 0) = false := by simp; omega
  go_upto_region 4 with (first
    | (at_make; refine wpList_make_own _ rfl _ _ 22 rfl w.heap.size 80 i0 (.agg #[.int .u64 0, .int .u64 0, .int .u64 0, .int .u64 0]) 4 Try.underlying22 hi hz0 hz1 .i64 .i64 _ n rfl rfl (by omega) (by rw [hz2]; omega) (by unfold maxLen; omega) (Nat.le_refl _) ?_; intro w0 hown0 hgrow0))
  have hb0 : Below w.heap.size w w0 := (Below.refl _ _).grown hgrow0 (Nat.le_refl _) (fun k h => by cases h)
  obtain ⟨W1, hW1⟩ : ∃ W1, w0.alloc (.cells #[.map (some mb)] 65) = W1 := ⟨_, rfl⟩
  have b1 : Below w0.heap.size w0 W1 := by rw [← hW1]; exact (Below.refl _ _).alloc (Nat.le_refl _) _
  have hb1 : Below w.heap.size w W1 := hb0.trans (b1.mono hb0.size)
  have C1 : W1.heap[w0.heap.size]? = some (.cells #[.map (some mb)] 65 (0, 0)) := by rw [← hW1]; exact alloc_atK _ _
  have HKY := hide (keysU_any (some mb) w0)
  rw [hW1] at HKY
  obtain ⟨D, hD1, hD2, hD3⟩ := HT.out.kept (below_none hb1) (by simp)
  have HSO : Hid (Calls Try.prog 54 #[.func (.func 71) #[] #[.pointer (some ⟨w0.heap.size, 0, none⟩)]] W1 fun e w' => ∃ ao cap, e = .returned (.slice ao n cap) ∧ Hid (∃ b, (ao = some ⟨b, 0, none⟩ ∧ b < w'.heap.size ∧ W1.heap.size ≤ b) ∧ (∀ (i : Nat) (x : Ac), (srt l)[i]? = some x → w'.cell? ⟨b, i, none⟩ = some (.int .u64 (x.id : Nat))) ∧ Below W1.heap.size W1 w')) := by
    refine (sortedKeys_any w0.heap.size mb l.length D (fun xs hxs => ?_) (by rw [hD2]; have := HN.out; omega) W1 (block_lt C1) (block_cell C1 0) hD1).mono ?_
    · have := nodup_sub xs (l.map Ac.id) hxs.1 (fun x hx => by
        have h1 := (hxs.2.2 x (hxs.2.1 x hx)).1 hx
        rw [(hD3 x (hxs.2.1 x hx)).2] at h1
        obtain ⟨a, ha, e⟩ := byId_some.1 h1
        exact List.mem_map.2 ⟨a, ha, e⟩)
      rw [List.length_map, HN.out] at this
      omega
    · rintro e w' ⟨ao, n', cap, rfl, G⟩
      obtain ⟨ks, b, hk, hkl, _, hao, hcell, hbel⟩ := G.out
      have hks : ks = (srt l).map Ac.id := keys_srt HD.out HIN.out hk.1 hk.2.1 (fun x hx => by rw [hk.2.2 x hx, (hD3 x hx).2])
      have e : n' = n := by rw [← hkl, hks, List.length_map]; unfold srt; rw [srt_len, HN.out]; simp
      subst e
      refine ⟨ao, cap, rfl, b, hao (by omega), fun i x hx => hcell i x.id ?_, hbel⟩
      rw [hks, List.getElem?_map, hx]
      rfl
  have HB1 := hide hb1
  have HR0 : Hid (W1.ownsRow w.heap.size 80 4 (.slice (some ⟨w.heap.size, 0, none⟩) 0 n) 0 []) := hide (row_quietT hown0 (below_none b1))
  clear hD1 hD2 hD3 C1 b1 hb1 hb0 hW1 hown0 hgrow0 hlen g0
  go_wp2_with fail
  refine HKY.out.mono ?_
  rintro e w1 ⟨rfl, rfl⟩
  go_wp2_with fail
  refine HSO.out.mono ?_
  rintro e w2 ⟨ao2, cap2, rfl, G2⟩
  obtain ⟨kb, ⟨rfl, hkl, hkb⟩, hkc, hb2⟩ := G2.out
  have HS0 : Hid (Rz w l kb n 0 w2) := ⟨HB1.out.trans (hb2.mono HB1.out.size), row_quietT HR0.out (below_none hb2), hkc, hkl, fun e => by
    have := (HR0.out.lt w.heap.size rfl).2
    omega⟩
  have HLK : Hid (∀ (V : World) (x : Ac), Below w.heap.size w V → x ∈ l → (Instr.lookup 65 (.map (some mb)) (.int .u64 (x.id : Int)) false).run Try.prog V = .ok (.agg x.arr) V) := fun V x hV hx => by
    have := (HT.out.kept (below_none hV) (by simp)).look (HIN.out x hx).h0
    rw [HD.out.by hx] at this
    exact this
  clear G2 hkc hkl hkb hb2 HR0 HB1 HSO HKY HT HD
  go_wp2
  go_loopw [3, 16] (fun v i wr => ∃ k : Nat, k ≤ n ∧ i = .int .i64 k ∧ v = .slice (some ⟨w.heap.size, 0, none⟩) k n ∧ Hid (Rz w l kb n k wr)) (fun _ i _ => n - (intOf i).toNat)
  case atStart => exact ⟨0, by omega, rfl, rfl, HS0.out⟩
  case round =>
    clear HS0
    obtain ⟨k, hk, rfl, rfl, HS⟩ := hrel
    by_cases hlt : k < n
    · obtain ⟨x, hx⟩ : ∃ x, (srt l)[k]? = some x := ⟨_, List.getElem?_eq_getElem (by unfold srt; rw [srt_len]; have := HN.out; simp; omega)⟩
      have hxl : x ∈ l := by
        have := List.mem_of_getElem? hx
        unfold srt at this
        rw [srt_mem] at this
        rcases this with h | h
        · exact h
        · cases h
      have c0 := HS.out.key k x hx
      have cl := HS.out.kl
      have hlk := HLK.out wr x HS.out.bel hxl
      have KAP : Hid (∀ o w4, w4.ownsRow w.heap.size 80 4 (.slice (some ⟨w.heap.size, 0, none⟩) (k + 1) n) (k + 1) (acells ((srt l).take k) ++ [.int .u64 (x.id : Int), .int .u64 (x.ow : Int), .int .u64 (x.ba : Int), .int .u64 (x.cp : Int)]) → (World.alloc wr o).grownBy w4 (some w.heap.size) → Rz w l kb n (k + 1) w4) := fun o w4 ho hg => HS.out.next o hx ho hg
      have HOW : Hid (∀ o, (World.alloc wr o).ownsRow w.heap.size 80 4 (.slice (some ⟨w.heap.size, 0, none⟩) k n) k (acells ((srt l).take k))) := fun o => HS.out.row.alloc o
      unfold Ac.arr at hlk
      clear hx hxl HS
      generalize (x.id : Int) = X0 at *
      generalize (x.ow : Int) = X1 at *
      generalize (x.ba : Int) = X2 at *
      generalize (x.cp : Int) = X3 at *
      go_wp2_with (first
        | (at_builtin; refine wpList_append_own_spare _ rfl (.tmp 20) (.tmp 24) 22 rfl w.heap.size 80 i0 4 Try.underlying22 hi hz1 w.heap.size k n _ rfl (HOW.out _) ⟨wr.heap.size, 0, none⟩ 1 1 [.int .u64 X0, .int .u64 X1, .int .u64 X2, .int .u64 X3] rfl rfl (cells_newA _ _ _) (by simp [Value.oneCell']) (by omega) ?_; intro w4 ho hg; have HR2 := hide (KAP.out _ _ ho hg); clear ho hg))
      go_roundw
      case rel => exact ⟨k + 1, by omega, by go_num, rfl, HR2.out⟩
      case measure => simp [intOf]; omega
    · obtain rfl : n = k := by omega
      have e : (srt l).take n = srt l := by rw [List.take_of_length_le]; unfold srt; rw [srt_len, HN.out]; simp
      have hr := HS.out.row
      rw [e] at hr
      have HE : Hid (wr.ownsRow w.heap.size 80 4 (.slice (some ⟨w.heap.size, 0, none⟩) n n) n (acells (srt l)) ∧ Below w.heap.size w wr) := ⟨hr, HS.out.bel⟩
      clear hr e HS
      go_wp2
      go_ret
      exact ⟨_, _, rfl, HE.out.1, HE.out.2, fun e => absurd e h0⟩
end Go.Proofs.Ytcfenjpdjogmdaa
namespace Go.Proofs.Ytcfenjpdjogmdaa
open Go.RowKit

def Ho.vals (a : Ho) : List Value := [.int .u64 (a.id : Nat), .int .u64 (a.fr : Nat), .int .u64 (a.am : Nat)]
def hcells : List Ho → List Value
  | [] => []
  | a :: r => a.vals ++ hcells r
theorem hcells_app : ∀ (l r : List Ho), hcells (l ++ r) = hcells l ++ hcells r
  | [], r => rfl
  | a :: l, r => by show a.vals ++ hcells (l ++ r) = (a.vals ++ hcells l) ++ hcells r; rw [hcells_app l r, List.append_assoc]
theorem htake_step {l : List Ho} {k : Nat} {a : Ho} (h : l[k]? = some a) : hcells (l.take k) ++ a.vals = hcells (l.take (k + 1)) := by
  rw [List.take_add_one, h, Option.toList_some, hcells_app]
  simp [hcells]
/-- The sorted keys are the numbers of the holds. -/
theorem keys_up {l : List Ho} (hu : UpK Ho.id l) (hin : ∀ x ∈ l, x.In) {ks : List Nat} (h1 : ks.Pairwise (· < ·)) (h2 : ∀ x ∈ ks, x < 18446744073709551616) (h3 : ∀ x, x < 18446744073709551616 → (x ∈ ks ↔ (byK Ho.id l x).isSome = true)) : ks = l.map Ho.id := by
  refine up_eqA _ _ h1 (List.pairwise_map.2 hu) (fun x => ?_)
  constructor
  · intro hx
    obtain ⟨a, ha⟩ := Option.isSome_iff_exists.1 ((h3 x (h2 x hx)).1 hx)
    obtain ⟨hm, e⟩ := byK_mem ha
    exact List.mem_map.2 ⟨a, hm, e⟩
  · intro hx
    obtain ⟨a, ha, e⟩ := List.mem_map.1 hx
    subst e
    exact (h3 _ (hin a ha).h0).2 (by rw [hu.by ha]; rfl)
/-- Between two rounds of rising. -/
structure RzH (w : World) (l : List Ho) (kb n k : Nat) (wr : World) : Prop where
  bel : Below w.heap.size w wr
  row : wr.ownsRow w.heap.size 83 3 (.slice (some ⟨w.heap.size, 0, none⟩) k n) k (hcells (l.take k))
  key : ∀ (i : Nat) (x : Ho), l[i]? = some x → wr.cell? ⟨kb, i, none⟩ = some (.int .u64 (x.id : Nat))
  kl : kb < wr.heap.size
  ne : kb ≠ w.heap.size
theorem RzH.next {w : World} {l : List Ho} {kb n k : Nat} {wr w4 : World} (h : RzH w l kb n k wr) (o : Obj) {x : Ho} (hx : l[k]? = some x) (ho : w4.ownsRow w.heap.size 83 3 (.slice (some ⟨w.heap.size, 0, none⟩) (k + 1) n) (k + 1) (hcells (l.take k) ++ x.vals)) (hg : (wr.alloc o).grownBy w4 (some w.heap.size)) : RzH w l kb n (k + 1) w4 := by
  have hb := h.bel.alloc h.bel.size o
  refine ⟨hb.grown hg hb.size (fun j e => by cases e; exact Nat.le_refl _), by rw [← htake_step hx]; exact ho, fun i y hy => ?_, ?_, h.ne⟩
  · have h1 : (wr.alloc o).cell? ⟨kb, i, none⟩ = some (.int .u64 (y.id : Nat)) := by rw [World.cell?_alloc_some _ _ _ (by rw [h.key i y hy]; rfl)]; exact h.key i y hy
    exact hg.cell h1 (fun e => h.ne (Option.some.inj e))
  · have := hg.size
    have := h.kl
    simp at *
    omega
set_option maxRecDepth 10000 in
set_option maxHeartbeats 4000000 in
/-- rising: the accounts, sorted. -/
theorem risingHo {w : World} {mb : Nat} {l : List Ho} (h : THm w mb l.length (byK Ho.id l)) (hd : UpK Ho.id l) (hin : ∀ x ∈ l, x.In) (hl : l.length ≤ 64) :
    Calls Try.prog 30 #[.map (some mb)] w fun e w' => ∃ ao cap, e = .returned (.slice ao l.length cap) ∧ Hid (w'.ownsRow w.heap.size 83 3 (.slice ao l.length cap) l.length (hcells l) ∧ Below w.heap.size w w' ∧ (l.length = 0 → ao = none ∧ cap = 0)) := by
  obtain ⟨i0, hi, hz0, hz1, hz2⟩ := info_parts infoHold
  obtain ⟨n, hn⟩ : ∃ n, l.length = n := ⟨_, rfl⟩
  have HT := hide h
  have HD := hide hd
  have HIN := hide hin
  have HN := hide hn
  rw [hn] at hl ⊢
  have hlen := h.len 3
  rw [hn] at hlen
  have HLN : Hid (∀ V, Below w.heap.size w V → (Builtin.len_ #[66] 3 #[.map (some mb)]).run Try.prog V = .ok (.int .i64 (n : Nat)) V) := fun V hV => by
    have := (HT.out.kept (below_none hV) (by simp)).len 3
    rw [HN.out] at this
    exact this
  clear h hd hin hn
  go_enter Try.func30, Try.ntmps30
  by_cases h0 : n = 0
  · subst h0
    have hnil : l = [] := List.length_eq_zero_iff.1 HN.out
    have HE : Hid (w.ownsRow w.heap.size 83 3 (.slice none 0 0) 0 (hcells l) ∧ Below w.heap.size w w ∧ ((0 : Nat) = 0 → (none : Option Addr) = none ∧ 0 = 0)) := by
      rw [hnil]
      exact ⟨World.ownsRow_nil _ _ _ _, Below.refl _ _, fun _ => ⟨rfl, rfl⟩⟩
    clear hnil
    go_wp2
    go_ret
    exact ⟨none, 0, rfl, hide ⟨HE.out.1, HE.out.2.1, by simp⟩⟩
  have g0 : (((n : Nat) : Int) == 0) = false := by simp; omega
  go_upto_region 4 with (first
    | (at_make; refine wpList_make_own _ rfl _ _ 32 rfl w.heap.size 83 i0 (.agg #[.int .u64 0, .int .u64 0, .int .u64 0]) 3 Try.underlying32 hi hz0 hz1 .i64 .i64 _ n rfl rfl (by omega) (by rw [hz2]; omega) (by unfold maxLen; omega) (Nat.le_refl _) ?_; intro w0 hown0 hgrow0))
  have hb0 : Below w.heap.size w w0 := (Below.refl _ _).grown hgrow0 (Nat.le_refl _) (fun k h => by cases h)
  obtain ⟨W1, hW1⟩ : ∃ W1, w0.alloc (.cells #[.map (some mb)] 66) = W1 := ⟨_, rfl⟩
  have b1 : Below w0.heap.size w0 W1 := by rw [← hW1]; exact (Below.refl _ _).alloc (Nat.le_refl _) _
  have hb1 : Below w.heap.size w W1 := hb0.trans (b1.mono hb0.size)
  have C1 : W1.heap[w0.heap.size]? = some (.cells #[.map (some mb)] 66 (0, 0)) := by rw [← hW1]; exact alloc_atK _ _
  have HKY := hide (keysUH_any (some mb) w0)
  rw [hW1] at HKY
  obtain ⟨D, hD1, hD2, hD3⟩ := HT.out.kept (below_none hb1) (by simp)
  have HSO : Hid (Calls Try.prog 54 #[.func (.func 72) #[] #[.pointer (some ⟨w0.heap.size, 0, none⟩)]] W1 fun e w' => ∃ ao cap, e = .returned (.slice ao n cap) ∧ Hid (∃ b, (ao = some ⟨b, 0, none⟩ ∧ b < w'.heap.size ∧ W1.heap.size ≤ b) ∧ (∀ (i : Nat) (x : Ho), l[i]? = some x → w'.cell? ⟨b, i, none⟩ = some (.int .u64 (x.id : Nat))) ∧ Below W1.heap.size W1 w')) := by
    refine (sortedKeysH_any w0.heap.size mb l.length D (fun xs hxs => ?_) (by rw [hD2]; have := HN.out; omega) W1 (block_lt C1) (block_cell C1 0) hD1).mono ?_
    · have := nodup_sub xs (l.map Ho.id) hxs.1 (fun x hx => by
        have h1 := (hxs.2.2 x (hxs.2.1 x hx)).1 hx
        rw [(hD3 x (hxs.2.1 x hx)).2] at h1
        obtain ⟨a, ha⟩ := Option.isSome_iff_exists.1 h1
        exact List.mem_map.2 ⟨a, (byK_mem ha).1, (byK_mem ha).2⟩)
      rw [List.length_map, HN.out] at this
      omega
    · rintro e w' ⟨ao, n', cap, rfl, G⟩
      obtain ⟨ks, b, hk, hkl, _, hao, hcell, hbel⟩ := G.out
      have hks : ks = l.map Ho.id := keys_up HD.out HIN.out hk.1 hk.2.1 (fun x hx => by rw [hk.2.2 x hx, (hD3 x hx).2])
      have e : n' = n := by rw [← hkl, hks, List.length_map, HN.out]
      subst e
      refine ⟨ao, cap, rfl, b, hao (by omega), fun i x hx => hcell i x.id ?_, hbel⟩
      rw [hks, List.getElem?_map, hx]
      rfl
  have HB1 := hide hb1
  have HR0 : Hid (W1.ownsRow w.heap.size 83 3 (.slice (some ⟨w.heap.size, 0, none⟩) 0 n) 0 []) := hide (row_quietT hown0 (below_none b1))
  clear hD1 hD2 hD3 C1 b1 hb1 hb0 hW1 hown0 hgrow0 hlen g0
  go_wp2_with fail
  refine HKY.out.mono ?_
  rintro e w1 ⟨rfl, rfl⟩
  go_wp2_with fail
  refine HSO.out.mono ?_
  rintro e w2 ⟨ao2, cap2, rfl, G2⟩
  obtain ⟨kb, ⟨rfl, hkl, hkb⟩, hkc, hb2⟩ := G2.out
  have HS0 : Hid (RzH w l kb n 0 w2) := ⟨HB1.out.trans (hb2.mono HB1.out.size), row_quietT HR0.out (below_none hb2), hkc, hkl, fun e => by
    have := (HR0.out.lt w.heap.size rfl).2
    omega⟩
  have HLK : Hid (∀ (V : World) (x : Ho), Below w.heap.size w V → x ∈ l → (Instr.lookup 66 (.map (some mb)) (.int .u64 (x.id : Int)) false).run Try.prog V = .ok (.agg x.arr) V) := fun V x hV hx => by
    have := (HT.out.kept (below_none hV) (by simp)).look (HIN.out x hx).h0
    rw [HD.out.by hx] at this
    exact this
  clear G2 hkc hkl hkb hb2 HR0 HB1 HSO HKY HT HD
  go_wp2
  go_loopw [3, 16] (fun v i wr => ∃ k : Nat, k ≤ n ∧ i = .int .i64 k ∧ v = .slice (some ⟨w.heap.size, 0, none⟩) k n ∧ Hid (RzH w l kb n k wr)) (fun _ i _ => n - (intOf i).toNat)
  case atStart => exact ⟨0, by omega, rfl, rfl, HS0.out⟩
  case round =>
    clear HS0
    obtain ⟨k, hk, rfl, rfl, HS⟩ := hrel
    by_cases hlt : k < n
    · obtain ⟨x, hx⟩ : ∃ x, l[k]? = some x := ⟨_, List.getElem?_eq_getElem (by have := HN.out; omega)⟩
      have hxl : x ∈ l := List.mem_of_getElem? hx
      have c0 := HS.out.key k x hx
      have cl := HS.out.kl
      have hlk := HLK.out wr x HS.out.bel hxl
      have KAP : Hid (∀ o w4, w4.ownsRow w.heap.size 83 3 (.slice (some ⟨w.heap.size, 0, none⟩) (k + 1) n) (k + 1) (hcells (l.take k) ++ [.int .u64 (x.id : Int), .int .u64 (x.fr : Int), .int .u64 (x.am : Int)]) → (World.alloc wr o).grownBy w4 (some w.heap.size) → RzH w l kb n (k + 1) w4) := fun o w4 ho hg => HS.out.next o hx ho hg
      have HOW : Hid (∀ o, (World.alloc wr o).ownsRow w.heap.size 83 3 (.slice (some ⟨w.heap.size, 0, none⟩) k n) k (hcells (l.take k))) := fun o => HS.out.row.alloc o
      unfold Ho.arr at hlk
      clear hx hxl HS
      generalize (x.id : Int) = X0 at *
      generalize (x.fr : Int) = X1 at *
      generalize (x.am : Int) = X2 at *
      go_wp2_with (first
        | (at_builtin; refine wpList_append_own_spare _ rfl (.tmp 20) (.tmp 24) 32 rfl w.heap.size 83 i0 3 Try.underlying32 hi hz1 w.heap.size k n _ rfl (HOW.out _) ⟨wr.heap.size, 0, none⟩ 1 1 [.int .u64 X0, .int .u64 X1, .int .u64 X2] rfl rfl (cells_newA _ _ _) (by simp [Value.oneCell']) (by omega) ?_; intro w4 ho hg; have HR2 := hide (KAP.out _ _ ho hg); clear ho hg))
      go_roundw
      case rel => exact ⟨k + 1, by omega, by go_num, rfl, HR2.out⟩
      case measure => simp [intOf]; omega
    · obtain rfl : n = k := by omega
      have e : l.take n = l := by rw [List.take_of_length_le]; rw [HN.out]; exact Nat.le_refl _
      have hr := HS.out.row
      rw [e] at hr
      have HE : Hid (wr.ownsRow w.heap.size 83 3 (.slice (some ⟨w.heap.size, 0, none⟩) n n) n (hcells l) ∧ Below w.heap.size w wr) := ⟨hr, HS.out.bel⟩
      clear hr e HS
      go_wp2
      go_ret
      exact ⟨_, _, rfl, HE.out.1, HE.out.2, fun e => absurd e h0⟩
end Go.Proofs.Ytcfenjpdjogmdaa
namespace Go.Proofs.Ytcfenjpdjogmdaa
open Go.RowKit

theorem insA_eq : ∀ (l : List Ac) (a : Ac), insA l a = insK Ac.id l a
  | [], a => rfl
  | x :: r, a => by
    unfold insA insK
    rw [insA_eq r a]
theorem srt_same {l : List Ac} (h : UpK Ac.id l) : srt l = l := by
  unfold srt
  have e : insA = insK Ac.id := by funext l a; exact insA_eq l a
  rw [e, foldl_ins_up l [] h]
  rfl
theorem dis_up {l : List Ac} (h : UpK Ac.id l) : Dis l := fun _ _ ha => byK_take h ha
/-- rising: the accounts of a ledger. -/
theorem risingG {w : World} {mb : Nat} {l : List Ac} (h : TAm w mb l.length (byK Ac.id l)) (hu : UpK Ac.id l) (hin : ∀ x ∈ l, x.In) (hl : l.length ≤ 64) :
    Calls Try.prog 29 #[.map (some mb)] w fun e w' => ∃ ao cap, e = .returned (.slice ao l.length cap) ∧ Hid (w'.ownsRow w.heap.size 80 4 (.slice ao l.length cap) l.length (acells l) ∧ Below w.heap.size w w' ∧ (l.length = 0 → ao = none ∧ cap = 0)) := by
  have := risingA (show TAm w mb l.length (byId l) from h) (dis_up hu) hin hl
  rw [srt_same hu] at this
  exact this
end Go.Proofs.Ytcfenjpdjogmdaa
namespace Go.Proofs.Ytcfenjpdjogmdaa
open Go.RowKit

set_option maxRecDepth 10000 in
theorem linesAtG (w : World) (n : Nat) (h1 : 1 ≤ n) (h2 : n ≤ 4611686018427387904) : Calls Try.prog 57 #[.int .u64 (n : Nat)] w fun e w' => e = .returned (.int .i64 ((min (n - 1) 64 : Nat) : Int)) ∧ w' = w := by
  have hw : IntKind.u64.wrap ((n : Int) - 1) = ((n - 1 : Nat) : Int) := by
    rw [IntWalk.u64_in _ ⟨by omega, by omega⟩]
    omega
  obtain ⟨m, hm⟩ : ∃ m, n - 1 = m := ⟨_, rfl⟩
  rw [hm] at hw ⊢
  by_cases h : m ≤ 64
  · have e : min m 64 = m := Nat.min_eq_left h
    have g : decide ((m : Int) < 64) = true ∨ m = 64 := by
      by_cases e : m = 64
      · exact .inr e
      · exact .inl (decide_eq_true (by omega))
    have hi : IntKind.i64.wrap (m : Int) = (m : Int) := IntWalk.i64_in _ ⟨by omega, by omega⟩
    rw [e]
    clear h1 h2 hm e
    rcases g with g | rfl
    · go_enter Try.func57, Try.ntmps57
      go_wp2
      go_ret
      exact ⟨rfl, rfl⟩
    · go_enter Try.func57, Try.ntmps57
      go_wp2
      go_ret
      exact ⟨rfl, rfl⟩
  · have e : min m 64 = 64 := Nat.min_eq_right (by omega)
    have g : ¬ (m : Int) ≤ 64 := by omega
    have g' : decide ((m : Int) ≤ 64) = false := decide_eq_false g
    rw [e]
    clear h1 h2 hm e h
    go_enter Try.func57, Try.ntmps57
    go_wp2
    go_ret
    exact ⟨rfl, rfl⟩
end Go.Proofs.Ytcfenjpdjogmdaa
namespace Go.Proofs.Ytcfenjpdjogmdaa
open Go.RowKit

/-- A ledger that was begun with these accounts, to its last cell. -/
structure LP2 (W : World) (p a b : Nat) (l : List Ac) (s : Nat) : Prop extends LP W p a b l s where
  more : ∃ cs : Array Value, W.heap[p]? = some (.cells cs 77 (0, 0)) ∧ cs.size = 326 ∧ cs[324]? = some nilS ∧ cs[325]? = some nilS ∧ ∀ k, k < 64 → ∀ (j : Nat) (v : Value), Jn.zero.vals[j]? = some v → cs[4 + k * 5 + j]? = some v
theorem LP2.kept {W W' : World} {p a b : Nat} {l : List Ac} {s : Nat} (h : LP2 W p a b l s) (hb : Below W.heap.size W W') : LP2 W' p a b l s := by
  obtain ⟨cs, h1, h2⟩ := h.more
  exact ⟨h.toLP.kept hb, cs, (hb.block _ (block_lt h1)).trans h1, h2⟩
theorem LP2.put {W W' : World} {p a b : Nat} {l : List Ac} {s : Nat} (h : LP2 W p a b l s) {x : Ac} (hno : byId l x.id = none) (ht : TAm W' a (l.length + 1) (updA (byId l) x)) (hg : W.grownBy W' (some a)) : LP2 W' p a b (l ++ [x]) s := by
  obtain ⟨cs, h1, h2⟩ := h.more
  obtain ⟨es, k, h3⟩ := h.acc.obj
  exact ⟨h.toLP.put hno ht hg, cs, (hg.block _ (block_lt h1) (fun e => by cases e; rw [h1] at h3; cases h3)).trans h1, h2⟩
theorem LP2.sum {W : World} {p a b : Nat} {l : List Ac} {s : Nat} (h : LP2 W p a b l s) (s' : Nat) : LP2 (W.setCell ⟨p, 0, none⟩ (.int .u64 (s' : Nat))) p a b l s' := by
  obtain ⟨cs, h1, h2, h3, h4, h5⟩ := h.more
  refine ⟨h.toLP.sum s', cs.setIfInBounds 0 (.int .u64 (s' : Nat)), heap_setCell_same W p 0 _ _ _ h1, by simpa using h2, by simpa using h3, by simpa using h4, fun k hk j v hj => ?_⟩
  simp only [Array.getElem?_setIfInBounds]
  rw [if_neg (by omega)]
  exact h5 k hk j v hj
def ledOk (cs : Array Value) : Bool := cs.size == 326 && (List.range 64).all (fun k => (List.range 5).all (fun j => match Jn.zero.vals[j]?, cs[4 + k * 5 + j]? with
  | some (.int ka a), some (.int kb b) => ka == kb && a == b
  | _, _ => false))
theorem led_ok (a b : Nat) : ledOk (led a b) = true ∧ (led a b)[324]? = some nilS ∧ (led a b)[325]? = some nilS := by
  refine ⟨by kernel_rfl, by kernel_rfl, by kernel_rfl⟩
theorem led_ring {cs : Array Value} (h : ledOk cs = true) : cs.size = 326 ∧ ∀ k, k < 64 → ∀ (j : Nat) (v : Value), Jn.zero.vals[j]? = some v → cs[4 + k * 5 + j]? = some v := by
  unfold ledOk at h
  rw [Bool.and_eq_true] at h
  refine ⟨by simpa using h.1, fun k hk j v hj => ?_⟩
  have hj5 : j < 5 := (List.getElem?_eq_some_iff.1 hj).1
  have h1 := List.all_eq_true.1 (List.all_eq_true.1 h.2 k (List.mem_range.2 hk)) j (List.mem_range.2 hj5)
  rw [hj] at h1
  split at h1
  · rename_i ka a kb b e1 e2
    cases e1
    rw [Bool.and_eq_true] at h1
    rw [e2, eq_of_beq h1.1, eq_of_beq h1.2]
  · cases h1
theorem blankG (w : World) : Calls Try.prog 42 #[] w fun e w' => ∃ p a b, e = .returned (.pointer (some ⟨p, 0, none⟩)) ∧ Hid (LP2 w' p a b [] 0 ∧ Below w.heap.size w w' ∧ w.heap.size ≤ p ∧ w.heap.size ≤ a ∧ w.heap.size ≤ b) := by
  refine (blank_any w).mono ?_
  rintro e w' ⟨rfl, rfl⟩
  have h1 := lp_blank w
  have h2 := led_ok w.heap.size (w.heap.size + 1)
  obtain ⟨h3, h4⟩ := led_ring h2.1
  have e2 : ((w.alloc (.map #[] 0)).alloc (.map #[] 0)).heap.size = w.heap.size + 2 := by simp
  have hc := alloc_atK ((w.alloc (.map #[] 0)).alloc (.map #[] 0)) (.cells (led w.heap.size (w.heap.size + 1)) 77 (0, 0))
  rw [e2] at hc
  exact ⟨_, _, _, rfl, ⟨h1, _, hc, h3, h2.2.1, h2.2.2, h4⟩, (((Below.refl _ w).alloc (Nat.le_refl _) _).alloc (by simp) _).alloc (by simp; omega) _, by omega, Nat.le_refl _, by omega⟩
/-- What New gives. -/
def NewPG (w : World) (l : List Ac) (v er : Value) (w' : World) : Prop := Below w.heap.size w w' ∧ ((64 < l.length ∧ v = .pointer none ∧ Chain w'.heap.size w' [⟨ledgerN, 0⟩] er 43) ∨ (l.length ≤ 64 ∧ ∃ k c : Nat, Bad l k c ∧ v = .pointer none ∧ Chain w'.heap.size w' [⟨ledgerN, (k : Int)⟩] er (c : Int)) ∨ (l.length ≤ 64 ∧ Good l l.length ∧ er = .nilIface ∧ ∃ p a b, v = .pointer (some ⟨p, 0, none⟩) ∧ LP2 w' p a b l (sumA l) ∧ w.heap.size ≤ p ∧ w.heap.size ≤ a ∧ w.heap.size ≤ b))
/-- Between two rounds of New. -/
structure NwG (w : World) (l : List Ac) (p a b k : Nat) (wr : World) : Prop where
  bel : Below w.heap.size w wr
  lp : LP2 wr p a b (l.take k) (sumA (l.take k))
  good : Good l k
  hs : sumA (l.take k) < 18446744073709551616
  hp : w.heap.size ≤ p
  ha : w.heap.size ≤ a
  hb : w.heap.size ≤ b
set_option maxRecDepth 10000 in
set_option maxHeartbeats 6400000 in
theorem newG {w : World} {b0 off : Nat} {ao : Option Addr} (n cap : Nat) {l : List Ac} (hn : n = l.length) (hA : Acs w b0 off l) (hao : 0 < n → ao = some ⟨b0, off, none⟩) (hbw : 0 < n → b0 < w.heap.size) (hle : n ≤ 4398046510976) :
    Calls Try.prog 17 #[.slice ao n cap] w fun e w' => ∃ v er, e = .returned (.tuple #[v, er]) ∧ Hid (NewPG w l v er w') := by
  have HA := hide hao
  have HC := hide hA
  have HB := hide hbw
  have HN := hide hn
  have HRF : Hid (∀ (W : World) (i c : Int), Calls Try.prog 41 #[.int .i64 i, .int .i64 c] W fun e w' => ∃ g, e = .returned (.iface 124 (.pointer (some ⟨g, 0, none⟩))) ∧ Hid (Chain w'.heap.size w' [⟨ledgerN, i⟩] (.iface 124 (.pointer (some ⟨g, 0, none⟩))) c ∧ Below W.heap.size W w')) := fun W i c => refusalL i c
  have HBK := hide (blankG w)
  clear hA hao hbw hn
  go_enter Try.func17, Try.ntmps17
  by_cases h64 : 64 < n
  · have d1 : decide ((n : Int) > 64) = true := decide_eq_true (by omega)
    have HR1 := hide (HRF.out w 0 43)
    go_wp2_with fail
    refine HR1.out.mono ?_
    rintro e w1 ⟨g, rfl, G⟩
    go_wp2
    go_ret2
    exact ⟨_, _, rfl, G.out.2, .inl ⟨by have := HN.out; omega, rfl, G.out.1⟩⟩
  have d1 : decide ((n : Int) > 64) = false := decide_eq_false (by omega)
  go_wp2_with fail
  refine HBK.out.mono ?_
  rintro e w1 ⟨p, a, b, rfl, G⟩
  have HS0 : Hid (NwG w l p a b 0 w1) := ⟨G.out.2.1, G.out.1, fun i x hi => by omega, by simp [sumA], G.out.2.2.1, G.out.2.2.2.1, G.out.2.2.2.2⟩
  clear G HBK d1
  go_wp2
  go_loopw [15] (fun i wr => ∃ k : Nat, k ≤ n ∧ i = .int .i64 k ∧ Hid (NwG w l p a b k wr)) (fun i _ => n - (intOf i).toNat)
  case atStart => exact ⟨0, by omega, rfl, HS0.out⟩
  case round =>
    clear HS0
    obtain ⟨k, hk, rfl, HS⟩ := hrel
    by_cases hlt : k < n
    · obtain ⟨x, hx⟩ : ∃ x, l[k]? = some x := ⟨_, List.getElem?_eq_getElem (by have := HN.out; omega)⟩
      have hA1 := HC.out.below HS.out.bel (fun hp => HB.out (by have := HN.out; omega))
      obtain ⟨c0, c1, c2, c3⟩ := hA1.four hx
      obtain rfl := HA.out (by omega)
      have cl : b0 < wr.heap.size := Nat.lt_of_lt_of_le (HB.out (by omega)) HS.out.bel.size
      have hin := hA1.ok x (List.mem_of_getElem? hx)
      obtain ⟨W2, hW2⟩ : ∃ W2, wr.alloc (.cells x.arr 80) = W2 := ⟨_, rfl⟩
      have b2 : Below wr.heap.size wr W2 := by rw [← hW2]; exact (Below.refl _ wr).alloc (Nat.le_refl _) _
      have C2 : Hid (W2.heap[wr.heap.size]? = some (.cells x.arr 80 (0, 0))) := by rw [← hW2]; exact alloc_atK _ _
      have HB2 := hide b2
      have HFF := hide (firstFaultA (HS.out.lp.kept b2).toLP HS.out.hs x hin)
      have HW2 := hide hW2
      have HX := hide hx
      have HIN := hide hin
      have x0 := block_cell C2.out 0
      have x1 := block_cell C2.out 1
      have x2 := block_cell C2.out 2
      have x3 := block_cell C2.out 3
      have xl := block_lt C2.out
      clear hA1 hx hin hW2 b2
      unfold Ac.arr at HW2 HFF C2 x0 x1 x2 x3
      simp at x0 x1 x2 x3
      go_upto_region 7 with fail
      rw [HW2.out]
      clear c0 c1 c2 c3 cl HW2
      go_wp2_with fail
      refine HFF.out.mono ?_
      rintro e w3 ⟨rfl, G3⟩
      have HB3 := hide (HB2.out.trans (G3.out.mono HB2.out.size))
      have C3 := hide ((G3.out.block _ (block_lt C2.out)).trans C2.out)
      clear x0 x1 x2 x3 xl HFF G3 C2
      by_cases hF : faultA (l.take k) (sumA (l.take k)) x = 0
      · rw [hF]
        have HF := hide hF
        have hz := fault_zero hF
        have HL3 := hide ((HS.out.lp.kept HB3.out).kept (Below.refl _ w3).drew)
        obtain ⟨wf, hr, ht, hg⟩ := HL3.out.acc.store x HIN.out.h0 (by have := HN.out; rw [List.length_take]; unfold maxLen; omega) hz.2.1
        have HLf := hide (HL3.out.put hz.2.1 ht hg)
        have HBf : Hid (Below w.heap.size w wf) := ((HS.out.bel.trans (HB3.out.mono HS.out.bel.size)).drew).grown hg (by have := HS.out.bel.size; have := HB3.out.size; exact Nat.le_trans ‹_› ‹_›) (fun j e => by cases e; exact HS.out.ha)
        have Cf := hide ((hg.block _ (block_lt C3.out) (fun e => by
          obtain ⟨es, q, ho⟩ := HL3.out.acc.obj
          cases e
          have hc : w3.drew.heap[wr.heap.size]? = _ := C3.out
          rw [hc] at ho
          cases ho)).trans C3.out)
        have y1 := HL3.out.c.2.1
        have yl := HL3.out.c.2.2.2.2
        have C3d : w3.drew.heap[wr.heap.size]? = _ := C3.out
        have z0 := block_cell C3d 0
        have z1 := block_cell C3d 1
        have z2 := block_cell C3d 2
        have z3 := block_cell C3d 3
        have zl := block_lt C3d
        have hsb : sumA (l.take k) + x.ba < 18446744073709551616 := by have := HS.out.hs; have := hz.2.2.2; omega
        have hwS : IntKind.u64.wrap ((sumA (l.take k) : Int) + (x.ba : Int)) = (sumA (l.take k) : Int) + (x.ba : Int) := IntWalk.u64_in _ ⟨by omega, by omega⟩
        have HLS := hide ((HLf.out.kept (Below.refl _ wf).drew).sum (sumA (l.take k) + x.ba))
        have f0 := HLf.out.c.1
        have fl := HLf.out.c.2.2.2.2
        have HNX : Hid (NwG w l p a b (k + 1) (wf.drew.setCell ⟨p, 0, none⟩ (.int .u64 ((sumA (l.take k) : Int) + (x.ba : Int))))) := by
          have e : l.take (k + 1) = l.take k ++ [x] := by rw [List.take_add_one, HX.out]; rfl
          refine ⟨(HBf.out.drew).setCell (p := ⟨p, 0, none⟩) HS.out.hp _, ?_, HS.out.good.step HX.out HF.out, by rw [e, sumA_app]; exact hsb, HS.out.hp, HS.out.ha, HS.out.hb⟩
          rw [e, sumA_app]
          exact HLS.out
        have frz : wf.drew.frozen? ⟨p, 0, none⟩ = false := by
          obtain ⟨cs, hc, _⟩ := (HLf.out.kept (Below.refl _ wf).drew).blk
          exact block_free hc 0
        have fd0 : wf.drew.cell? ⟨p, 0, none⟩ = some (.int .u64 (sumA (l.take k) : Nat)) := f0
        have fdl : p < wf.drew.heap.size := fl
        have Cfd : wf.drew.heap[wr.heap.size]? = _ := Cf.out
        have v2 := block_cell Cfd 2
        have vl := block_lt Cfd
        simp at z0 z1 z2 z3 v2
        clear hF hz ht hg C3d Cfd hsb HLS f0 fl HL3 HLf C3 Cf HS HX HIN HB2 HB3 HF HBf
        unfold Ac.arr at hr
        generalize (sumA (l.take k) : Int) = SI at *
        generalize (x.id : Int) = X0 at *
        generalize (x.ow : Int) = X1 at *
        generalize (x.ba : Int) = X2 at *
        generalize (x.cp : Int) = X3 at *
        generalize wr.heap.size = tb at *
        go_upto_region 10 with fail
        refine region_assignP (fun d V => Hid (V = if d = true then wf else w3.drew)) 7 [3, 5, 6] [(28, .pointer (some ⟨p, 0, none⟩)), (29, .pointer (some ⟨p, 0, none⟩)), (30, .pointer (some ⟨p, 1, none⟩)), (31, .map (some a)), (32, .pointer (some ⟨tb, 0, none⟩)), (33, .int .u64 X0), (34, .agg #[.int .u64 X0, .int .u64 X1, .int .u64 X2, .int .u64 X3])] _ (by kernel_rfl) (by decide) (by kernel_rfl) (by kernel_rfl) (by kernel_rfl) (by kernel_rfl) rfl (show w3.drew = _ from rfl) ?_ (fun V9 HV9 => ?_)
        · simp only [putAll, Act.put, List.setIfInBounds_toArray, List.set_cons_zero, List.set_cons_succ]
          repeat' (first | exact AllPre.nil | refine AllPre.at_ rfl ?_ ?_ | refine AllPre.pre (by decide) (by decide) ?_ ?_ | refine AllPre.off (by decide) (by decide) ?_ ?_)
          all_goals first
            | (intro d
               refine stepTo_yes (by rfl) (fun V hV K hK => ?_)
               go_simp
               exact hK.out _ hV)
            | (refine stepTo_yes (by rfl) (fun V hV K hK => ?_)
               have e : V = w3.drew := hV.out
               subst e
               go_simp
               exact hK.out _ hV)
            | (refine ⟨by rfl, fun V hV K hK => ?_⟩
               have e : V = w3.drew := hV.out
               subst e
               go_simp
               exact hK.out _ rfl)
        simp only [putAll, Act.put, List.setIfInBounds_toArray, List.set_cons_zero, List.set_cons_succ]
        have e9 : V9 = wf := HV9.out
        rw [e9]
        clear e9 HV9 hr y1 yl z0 z1 z2 z3 zl
        go_upto_region 11 with fail
        refine region_assignP (fun d V => Hid (V = if d = true then wf.drew.setCell ⟨p, 0, none⟩ (.int .u64 (SI + X2)) else wf.drew)) 9 [6, 3, 5] [(35, .pointer (some ⟨p, 0, none⟩)), (36, .pointer (some ⟨p, 0, none⟩)), (37, .pointer (some ⟨p, 0, none⟩)), (38, .int .u64 SI), (39, .pointer (some ⟨tb, 2, none⟩)), (40, .int .u64 X2), (41, .int .u64 (SI + X2)), (42, .pointer (some ⟨p, 0, none⟩)), (43, .pointer (some ⟨p, 0, none⟩))] _ (by kernel_rfl) (by decide) (by kernel_rfl) (by kernel_rfl) (by kernel_rfl) (by kernel_rfl) rfl (show wf.drew = _ from rfl) ?_ (fun V9 HV9 => ?_)
        · simp only [putAll, Act.put, List.setIfInBounds_toArray, List.set_cons_zero, List.set_cons_succ]
          repeat' (first | exact AllPre.nil | refine AllPre.at_ rfl ?_ ?_ | refine AllPre.pre (by decide) (by decide) ?_ ?_ | refine AllPre.off (by decide) (by decide) ?_ ?_)
          all_goals first
            | (intro d
               refine stepTo_yes (by rfl) (fun V hV K hK => ?_)
               go_simp
               exact hK.out _ hV)
            | (refine stepTo_yes (by rfl) (fun V hV K hK => ?_)
               have e : V = wf.drew := hV.out
               subst e
               go_simp
               exact hK.out _ hV)
            | (refine ⟨by rfl, fun V hV K hK => ?_⟩
               have e : V = wf.drew := hV.out
               subst e
               go_simp
               exact hK.out _ rfl)
        simp only [putAll, Act.put, List.setIfInBounds_toArray, List.set_cons_zero, List.set_cons_succ]
        have e9 : V9 = wf.drew.setCell ⟨p, 0, none⟩ (.int .u64 (SI + X2)) := HV9.out
        rw [e9]
        clear e9 HV9 v2 vl fd0 fdl frz hwS
        generalize wf.drew.setCell ⟨p, 0, none⟩ (.int .u64 (SI + X2)) = WF at *
        go_wp2
        go_roundw
        case rel => exact ⟨k + 1, by omega, by go_num, HNX.out⟩
        case measure => simp [intOf]; omega
      · obtain ⟨F, hFF⟩ : ∃ F, faultA (l.take k) (sumA (l.take k)) x = F := ⟨_, rfl⟩
        have HBD : Hid (Bad l k F) := ⟨x, HX.out, HS.out.good, hFF, by omega⟩
        rw [hFF]
        have g : ((F : Int) == 0) = false := by simp; omega
        have HR1 := hide (HRF.out w3 (k : Int) (F : Int))
        have BF := hide (HS.out.bel.trans (HB3.out.mono HS.out.bel.size))
        clear hF hFF HS HX HIN HB2 HB3 C3
        go_wp2_with fail
        refine HR1.out.mono ?_
        rintro e w4 ⟨q, rfl, G⟩
        go_wp2
        go_ret2
        exact ⟨_, _, rfl, BF.out.trans (G.out.2.mono BF.out.size), .inr (.inl ⟨by have := HN.out; omega, k, F, HBD.out, rfl, G.out.1⟩)⟩
    · obtain rfl : k = n := by omega
      have e : l.take k = l := by rw [HN.out, List.take_length]
      have HE : Hid (NewPG w l (.pointer (some ⟨p, 0, none⟩)) .nilIface wr) := by
        have hlp := HS.out.lp
        rw [e] at hlp
        exact ⟨HS.out.bel, .inr (.inr ⟨by have := HN.out; omega, by rw [← HN.out]; exact HS.out.good, rfl, p, a, b, rfl, hlp, HS.out.hp, HS.out.ha, HS.out.hb⟩)⟩
      clear HS e
      go_wp2
      go_ret2
      exact ⟨_, _, rfl, HE.out⟩
/-- The ledger that New gives. -/
def LS0 (l : List Ac) : LS := ⟨sumA l, srt l, [], 1, fun _ => Jn.zero⟩
theorem srt_by {l : List Ac} (hd : Dis l) (x : Nat) : byK Ac.id (srt l) x = byId l x := by
  have hu : UpK Ac.id (srt l) := srt_all hd
  cases e : byId l x with
  | none => exact byK_far (fun y hy => byId_none e y (by
      unfold srt at hy
      rw [srt_mem] at hy
      rcases hy with hy | hy
      · exact hy
      · cases hy))
  | some a =>
    have hm : a ∈ l ∧ a.id = x := byK_mem (key := Ac.id) e
    have : a ∈ srt l := by unfold srt; rw [srt_mem]; exact .inl hm.1
    have := hu.by this
    rw [hm.2] at this
    exact this
theorem srt_length (l : List Ac) : (srt l).length = l.length := by unfold srt; rw [srt_len]; simp
theorem LP2.lg {W : World} {p a b : Nat} {l : List Ac} {s : Nat} (h : LP2 W p a b l s) (hd : Dis l) (hs : s = sumA l) : LG W p a b nilS nilS (LS0 l) := by
  subst hs
  obtain ⟨cs, h1, h2, h3, h4, h5⟩ := h.more
  obtain ⟨cs', g1, g2⟩ := h.blk
  rw [h1] at g1
  cases g1
  refine ⟨⟨cs, h1, h2, ⟨g2.1, g2.2.1, g2.2.2.1, g2.2.2.2, h3, h4⟩, fun k hk j v hj => h5 k hk j v hj⟩, ?_, ?_, h.ne⟩
  · exact h.acc.congr (srt_length l).symm (fun x => (srt_by hd x).symm)
  · exact (thm_empty h.hol).congr rfl (fun x => rfl)
theorem LS0_ok {l : List Ac} (hg : Good l l.length) (hin : ∀ x ∈ l, x.In) (hl : l.length ≤ 64) : (LS0 l).Ok := by
  have hf : ∀ x ∈ l, x.id ≠ 0 ∧ x.ba ≤ x.cp := fun x hx => by
    obtain ⟨i, hi⟩ := List.getElem?_of_mem hx
    have := fault_zero (hg i x (List.getElem?_eq_some_iff.1 hi).1 hi)
    exact ⟨this.1, this.2.2.1⟩
  have hm : ∀ x ∈ srt l, x ∈ l := fun x hx => by
    unfold srt at hx
    rw [srt_mem] at hx
    rcases hx with hx | hx
    · exact hx
    · cases hx
  refine ⟨srt_all hg.dis, List.Pairwise.nil, fun x hx => hin x (hm x hx), fun x hx => (by cases hx), fun x hx => (hf x (hm x hx)).2, fun x hx => (hf x (hm x hx)).1, fun x hx => (by cases hx), ?_, Nat.zero_le _, Nat.le_refl _, by show 1 ≤ _; decide, fun k => ?_⟩
  · show (srt l).length ≤ 64
    rw [srt_length]; exact hl
  · exact ⟨by show 0 < _; decide, by show 0 < _; decide, by show 0 < _; decide, by show 0 < _; decide, by show 0 < _; decide⟩
end Go.Proofs.Ytcfenjpdjogmdaa
