import Derived.Test.YtmbclemicfffoaaLeL
import Derived.Test.YtmbclemicfffoaaLeM
namespace Go.Proofs.Ytmbclemicfffoaa
open Go.RowKit

/-- Between two rounds of rising. -/
structure Rz (w : World) (l : List Ac) (kb n k : Nat) (wr : World) : Prop where
  bel : Below w.heap.size w wr
  row : wr.ownsRow w.heap.size 37 4 (.slice (some ⟨w.heap.size, 0, none⟩) k n) k (acells ((srt l).take k))
  key : ∀ (i : Nat) (x : Ac), (srt l)[i]? = some x → wr.cell? ⟨kb, i, none⟩ = some (.int .u64 (x.id : Nat))
  kl : kb < wr.heap.size
  ne : kb ≠ w.heap.size
theorem Rz.next {w : World} {l : List Ac} {kb n k : Nat} {wr w4 : World} (h : Rz w l kb n k wr) (o : Obj) {x : Ac} (hx : (srt l)[k]? = some x) (ho : w4.ownsRow w.heap.size 37 4 (.slice (some ⟨w.heap.size, 0, none⟩) (k + 1) n) (k + 1) (acells ((srt l).take k) ++ x.vals)) (hg : (wr.alloc o).grownBy w4 (some w.heap.size)) : Rz w l kb n (k + 1) w4 := by
  have hb := h.bel.alloc h.bel.size o
  refine ⟨hb.grown hg hb.size (fun j e => by cases e; exact Nat.le_refl _), by rw [← take_step hx]; exact ho, fun i y hy => ?_, ?_, h.ne⟩
  · have h1 : (wr.alloc o).cell? ⟨kb, i, none⟩ = some (.int .u64 (y.id : Nat)) := by rw [World.cell?_alloc_some _ _ _ (by rw [h.key i y hy]; rfl)]; exact h.key i y hy
    exact hg.cell h1 (fun e => h.ne (Option.some.inj e))
  · have := hg.size
    have := h.kl
    simp at *
    omega
set_option maxRecDepth 10000 in
set_option maxHeartbeats 4000000 in
/-- rising: the accounts, sorted. -/
theorem risingA {w : World} {mb : Nat} {l : List Ac} (h : TAm w mb l.length (byId l)) (hd : Dis l) (hin : ∀ x ∈ l, x.In) (hl : l.length ≤ 64) :
    Calls Try.prog 29 #[.map (some mb)] w fun e w' => ∃ ao cap, e = .returned (.slice ao l.length cap) ∧ Hid (w'.ownsRow w.heap.size 37 4 (.slice ao l.length cap) l.length (acells (srt l)) ∧ Below w.heap.size w w' ∧ (l.length = 0 → ao = none ∧ cap = 0)) := by
  obtain ⟨i0, hi, hz0, hz1, hz2⟩ := info_parts infoAcc
  obtain ⟨n, hn⟩ : ∃ n, l.length = n := ⟨_, rfl⟩
  have HT := hide h
  have HD := hide hd
  have HIN := hide hin
  have HN := hide hn
  rw [hn] at hl ⊢
  have hlen := h.len 3
  rw [hn] at hlen
  have HLN : Hid (∀ V, Below w.heap.size w V → (Builtin.len_ #[60] 3 #[.map (some mb)]).run Try.prog V = .ok (.int .i64 (n : Nat)) V) := fun V hV => by
    have := (HT.out.kept (below_none hV) (by simp)).len 3
    rw [HN.out] at this
    exact this
  clear h hd hin hn
  go_enter Try.func29, Try.ntmps29
  by_cases h0 : n = 0
  · subst h0
    have hnil : srt l = [] := List.length_eq_zero_iff.1 (by unfold srt; rw [srt_len, HN.out]; rfl)
    have HE : Hid (w.ownsRow w.heap.size 37 4 (.slice none 0 0) 0 (acells (srt l)) ∧ Below w.heap.size w w ∧ ((0 : Nat) = 0 → (none : Option Addr) = none ∧ 0 = 0)) := by
      rw [hnil]
      exact ⟨World.ownsRow_nil _ _ _ _, Below.refl _ _, fun _ => ⟨rfl, rfl⟩⟩
    clear hnil
    go_wp2
    go_ret
    exact ⟨none, 0, rfl, hide ⟨HE.out.1, HE.out.2.1, by simp⟩⟩
  have g0 : (((n : Nat) : Int) == 0) = false := by simp; omega
  go_upto_region 4 with (first
    | (at_make; refine wpList_make_own _ rfl _ _ 22 rfl w.heap.size 37 i0 (.agg #[.int .u64 0, .int .u64 0, .int .u64 0, .int .u64 0]) 4 Try.underlying22 hi hz0 hz1 .i64 .i64 _ n rfl rfl (by omega) (by rw [hz2]; omega) (by unfold maxLen; omega) (Nat.le_refl _) ?_; intro w0 hown0 hgrow0))
  have hb0 : Below w.heap.size w w0 := (Below.refl _ _).grown hgrow0 (Nat.le_refl _) (fun k h => by cases h)
  obtain ⟨W1, hW1⟩ : ∃ W1, w0.alloc (.cells #[.map (some mb)] 60) = W1 := ⟨_, rfl⟩
  have b1 : Below w0.heap.size w0 W1 := by rw [← hW1]; exact (Below.refl _ _).alloc (Nat.le_refl _) _
  have hb1 : Below w.heap.size w W1 := hb0.trans (b1.mono hb0.size)
  have C1 : W1.heap[w0.heap.size]? = some (.cells #[.map (some mb)] 60 (0, 0)) := by rw [← hW1]; exact alloc_atK _ _
  have HKY := hide (keysU_any (some mb) w0)
  rw [hW1] at HKY
  obtain ⟨D, hD1, hD2, hD3⟩ := HT.out.kept (below_none hb1) (by simp)
  have HSO : Hid (Calls Try.prog 37 #[.func (.func 44) #[] #[.pointer (some ⟨w0.heap.size, 0, none⟩)]] W1 fun e w' => ∃ ao cap, e = .returned (.slice ao n cap) ∧ Hid (∃ b, (ao = some ⟨b, 0, none⟩ ∧ b < w'.heap.size ∧ W1.heap.size ≤ b) ∧ (∀ (i : Nat) (x : Ac), (srt l)[i]? = some x → w'.cell? ⟨b, i, none⟩ = some (.int .u64 (x.id : Nat))) ∧ Below W1.heap.size W1 w')) := by
    refine (sortedKeys_any w0.heap.size mb l.length D (fun xs hxs => ?_) (by rw [hD2]; have := HN.out; omega) W1 (block_lt C1) (block_cell C1 0) hD1).mono ?_
    · have := nodup_sub xs (l.map Ac.id) hxs.1 (fun x hx => by
        have h1 := (hxs.2.2 x (hxs.2.1 x hx)).1 hx
        rw [(hD3 x (hxs.2.1 x hx)).2] at h1
        obtain ⟨a, ha, e⟩ := byId_some.1 h1
        exact List.mem_map.2 ⟨a, ha, e⟩)
      rw [List.length_map, HN.out] at this
      omega
    · rintro e w' ⟨ao, n', cap, rfl, G⟩
      obtain ⟨ks, b, hk, hkl, _, hao, hcell, hbel⟩ := G.out
      have hks : ks = (srt l).map Ac.id := keys_srt HD.out HIN.out hk.1 hk.2.1 (fun x hx => by rw [hk.2.2 x hx, (hD3 x hx).2])
      have e : n' = n := by rw [← hkl, hks, List.length_map]; unfold srt; rw [srt_len, HN.out]; simp
      subst e
      refine ⟨ao, cap, rfl, b, hao (by omega), fun i x hx => hcell i x.id ?_, hbel⟩
      rw [hks, List.getElem?_map, hx]
      rfl
  have HB1 := hide hb1
  have HR0 : Hid (W1.ownsRow w.heap.size 37 4 (.slice (some ⟨w.heap.size, 0, none⟩) 0 n) 0 []) := hide (row_quietT hown0 (below_none b1))
  clear hD1 hD2 hD3 C1 b1 hb1 hb0 hW1 hown0 hgrow0 hlen g0
  go_wp2_with fail
  refine HKY.out.mono ?_
  rintro e w1 ⟨rfl, rfl⟩
  go_wp2_with fail
  refine HSO.out.mono ?_
  rintro e w2 ⟨ao2, cap2, rfl, G2⟩
  obtain ⟨kb, ⟨rfl, hkl, hkb⟩, hkc, hb2⟩ := G2.out
  have HS0 : Hid (Rz w l kb n 0 w2) := ⟨HB1.out.trans (hb2.mono HB1.out.size), row_quietT HR0.out (below_none hb2), hkc, hkl, fun e => by
    have := (HR0.out.lt w.heap.size rfl).2
    omega⟩
  have HLK : Hid (∀ (V : World) (x : Ac), Below w.heap.size w V → x ∈ l → (Instr.lookup 60 (.map (some mb)) (.int .u64 (x.id : Int)) false).run Try.prog V = .ok (.agg x.arr) V) := fun V x hV hx => by
    have := (HT.out.kept (below_none hV) (by simp)).look (HIN.out x hx).h0
    rw [HD.out.by hx] at this
    exact this
  clear G2 hkc hkl hkb hb2 HR0 HB1 HSO HKY HT HD
  go_wp2
  go_loopw [3, 16] (fun v i wr => ∃ k : Nat, k ≤ n ∧ i = .int .i64 k ∧ v = .slice (some ⟨w.heap.size, 0, none⟩) k n ∧ Hid (Rz w l kb n k wr)) (fun _ i _ => n - (intOf i).toNat)
  case atStart => exact ⟨0, by omega, rfl, rfl, HS0.out⟩
  case round =>
    clear HS0
    obtain ⟨k, hk, rfl, rfl, HS⟩ := hrel
    by_cases hlt : k < n
    · obtain ⟨x, hx⟩ : ∃ x, (srt l)[k]? = some x := ⟨_, List.getElem?_eq_getElem (by unfold srt; rw [srt_len]; have := HN.out; simp; omega)⟩
      have hxl : x ∈ l := by
        have := List.mem_of_getElem? hx
        unfold srt at this
        rw [srt_mem] at this
        rcases this with h | h
        · exact h
        · cases h
      have c0 := HS.out.key k x hx
      have cl := HS.out.kl
      have hlk := HLK.out wr x HS.out.bel hxl
      have KAP : Hid (∀ o w4, w4.ownsRow w.heap.size 37 4 (.slice (some ⟨w.heap.size, 0, none⟩) (k + 1) n) (k + 1) (acells ((srt l).take k) ++ [.int .u64 (x.id : Int), .int .u64 (x.ow : Int), .int .u64 (x.ba : Int), .int .u64 (x.cp : Int)]) → (World.alloc wr o).grownBy w4 (some w.heap.size) → Rz w l kb n (k + 1) w4) := fun o w4 ho hg => HS.out.next o hx ho hg
      have HOW : Hid (∀ o, (World.alloc wr o).ownsRow w.heap.size 37 4 (.slice (some ⟨w.heap.size, 0, none⟩) k n) k (acells ((srt l).take k))) := fun o => HS.out.row.alloc o
      unfold Ac.arr at hlk
      clear hx hxl HS
      generalize (x.id : Int) = X0 at *
      generalize (x.ow : Int) = X1 at *
      generalize (x.ba : Int) = X2 at *
      generalize (x.cp : Int) = X3 at *
      go_wp2_with (first
        | (at_builtin; refine wpList_append_own_spare _ rfl (.tmp 20) (.tmp 24) 22 rfl w.heap.size 37 i0 4 Try.underlying22 hi hz1 w.heap.size k n _ rfl (HOW.out _) ⟨wr.heap.size, 0, none⟩ 1 1 [.int .u64 X0, .int .u64 X1, .int .u64 X2, .int .u64 X3] rfl rfl (cells_newA _ _ _) (by simp [Value.oneCell']) (by omega) ?_; intro w4 ho hg; have HR2 := hide (KAP.out _ _ ho hg); clear ho hg))
      go_roundw
      case rel => exact ⟨k + 1, by omega, by go_num, rfl, HR2.out⟩
      case measure => simp [intOf]; omega
    · obtain rfl : n = k := by omega
      have e : (srt l).take n = srt l := by rw [List.take_of_length_le]; unfold srt; rw [srt_len, HN.out]; simp
      have hr := HS.out.row
      rw [e] at hr
      have HE : Hid (wr.ownsRow w.heap.size 37 4 (.slice (some ⟨w.heap.size, 0, none⟩) n n) n (acells (srt l)) ∧ Below w.heap.size w wr) := ⟨hr, HS.out.bel⟩
      clear hr e HS
      go_wp2
      go_ret
      exact ⟨_, _, rfl, HE.out.1, HE.out.2, fun e => absurd e h0⟩
end Go.Proofs.Ytmbclemicfffoaa
