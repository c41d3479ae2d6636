import Derived.Test.YtldhafpeigdloaaGreatDoorVFw
import Derived.Test.YtldhafpeigdloaaGreatDoorM38
namespace Go.Proofs.YtldhafpeigdloaaGreatDoor
open Go.RowKit Crc
section
variable {base p : Nat} {w : World} {s : WS} {m : Mg}
theorem WrS.range {cs : List Value} (hW : WrS base w p s) (j : Nat) (h : ∀ i v, cs[i]? = some v → s.K.R[j + i]? = some v) : w.rangeAt p (5 + j) cs := fun i v hv => by
  rw [Nat.add_assoc]
  exact hW.cellR (j + i) (h i v hv)
theorem hash_desc : Tryz.prog.underlying 33 = some (.array 32 5) := by kernel_rfl
set_option maxRecDepth 10000 in
theorem wfm_root (hW : WrS base w p s) (hK : s.K.R = m.R) (hi : s.Inv) (hbs : base ≤ w.heap.size) (hp : base ≤ p) (hx : m.Ok base w) :
    Calls Tryz.prog 90 #[.pointer (some ⟨p, 0, none⟩)] w fun e w' => e = .returned (.tuple #[]) ∧ Hid (WrS base w' p (layH s m.root) ∧ Tch 4 w w' p) := by
  have hrg : w.drew.rangeAt p 21 (vals m.root) := WrS.range (w := w.drew) hW.drew 16 (fun i v hv => by rw [hK]; exact Mg.root_at i v hv)
  have HKP : Hid (∀ w', WrS base w' p (layH s m.root) → w'.rangeAt p 21 (vals m.root)) := fun w' h => WrS.range h 16 (fun i v hv => by rw [layH_K, hK]; exact Mg.root_at i v hv)
  have HSZ : Hid ((Tryz.prog.info? 33).map (·.size) = some (vals m.root).length) := by show _ = _; rw [vals_len, hx.rl]; kernel_rfl
  have HB := hide (layHash_prog hW.drew hi hbs hp m.root hx.rl hx.rb)
  have hlt := hW.lt
  clear hW hK hi hx
  generalize vals m.root = cs at *
  generalize layH s m.root = sr at *
  go_enter Tryz.func90, Tryz.ntmps90
  go_wp2_with fail
  have hsz := HSZ.out
  have hdc := hash_desc
  go_region_held (fun w' => w'.rangeAt p 21 cs) (first | go_keep | exact HKP.out _ H1.out.1) ((go_at_call 102; refine HB.out.mono ?_; rintro e w1 ⟨rfl, H1⟩))
  all_goals clear hsz hdc
  all_goals go_wp2
  all_goals go_end0
  all_goals exact ⟨rfl, H1.out.1, tch_drew H1.out.2⟩
theorem LS.hash (hp : base ≤ p) {s' : WS} {w' : World} (h : LS 4 p base (fun w s => WrS base w p s) s' w w') (t : List Nat) (hl : t.length = 32) (hb : ∀ x ∈ t, x < 256) :
    Calls Tryz.prog 102 #[.pointer (some ⟨p, 0, none⟩), .agg (vals t).toArray] w'.drew fun e w'' => e = .returned (.tuple #[]) ∧ Hid (LS 4 p base (fun w s => WrS base w p s) (layH s' t) w w'' ∧ Tch 4 w' w'' p) :=
  (layHash_prog h.i.drew h.inv h.bs hp t hl hb).mono (fun _ _ H => ⟨H.1, ⟨H.2.out.1, layH_inv _ _ h.inv, Nat.le_trans h.bs H.2.out.2.size, h.tch.trans (tch_drew H.2.out.2)⟩, tch_drew H.2.out.2⟩)
theorem LS.count (hK : s.K.R = m.R) (hW : WrS base w p s) (hi : s.Inv) (hbs : base ≤ w.heap.size) (n most j : Nat) (u : Value) (hn : n ≤ most) (hm : most < 1000) (hu : m.R[j]? = some u) :
    Calls Tryz.prog 101 #[.pointer (some ⟨p, 0, none⟩), .int .i64 (n : Int), .int .i64 (most : Int)] w.drew fun e w'' => e = .returned (.tuple #[]) ∧ w''.cell? ⟨p, 5 + j, none⟩ = some u ∧ Hid (LS 4 p base (fun w s => WrS base w p s) (s.put (numB n) 0) w w'') := by
  refine (wCountP (.inr ⟨p, rfl, hW.drew⟩) hi hbs n most (by omega) (by omega)).mono ?_
  rintro e w'' ⟨rfl, H⟩
  have H := of_wrP H.out
  rw [show cntY (n : Int) most = 0 by unfold cntY; rw [if_neg (by omega)], show ((n : Int)).toNat = n by omega] at H
  exact ⟨rfl, H.1.cellR j (by rw [put_K, hK]; exact hu), H.1, WS.put_inv hi _ _, Nat.le_trans hbs H.2.size, tch_drew H.2⟩

set_option maxRecDepth 10000 in
set_option maxHeartbeats 1600000 in
theorem wfm_path (hW : WrS base w p s) (hK : s.K.R = m.R) (hi : s.Inv) (hbs : base ≤ w.heap.size) (hp : base ≤ p) (hx : m.Ok base w) (hf : m.pn ≤ 6) :
    Calls Tryz.prog 88 #[.pointer (some ⟨p, 0, none⟩)] w fun e w' => e = .returned (.tuple #[]) ∧ Hid (WrS base w' p (layHs (s.put (numB m.pn) 0) m.hs) ∧ Tch 4 w w' p) := by
  have M := mach_prog base p hp
  have c1 := hW.cellR 48 (u := .slice m.po m.pn m.pc) (by rw [hK]; exact Mg.at48 hx.rl)
  simp only [Nat.reduceAdd] at c1
  have HC := hide (LS.count hK hW hi hbs m.pn 6 48 (.slice m.po m.pn m.pc) hf (by omega) (Mg.at48 hx.rl))
  simp only [Nat.reduceAdd] at HC
  have HP : Hid (∀ s' wr, LS 4 p base (fun w s => WrS base w p s) s' w wr → Hos base wr m.po m.hs m.pb m.poff) := fun s' wr h => hx.hP.below (M.belowOf hW hbs h.tch)
  have HH : Hid (∀ s' w', LS 4 p base (fun w s => WrS base w p s) s' w w' → ∀ t : List Nat, t.length = 32 → (∀ x ∈ t, x < 256) → Calls Tryz.prog 102 #[.pointer (some ⟨p, 0, none⟩), .agg (vals t).toArray] w'.drew fun e w'' => e = .returned (.tuple #[]) ∧ Hid (LS 4 p base (fun w s => WrS base w p s) (layH s' t) w w'' ∧ Tch 4 w' w'' p)) := fun s' w' h t h1 h2 => h.hash hp t h1 h2
  have HM := hide M
  have hn : m.hs.length = m.pn := hx.hpn
  have hlt := hW.lt
  clear hW hK hi hx M
  generalize m.po = po at *
  generalize m.pc = pc at *
  generalize m.hs = hs at *
  generalize m.pb = b at *
  generalize m.poff = off at *
  rw [← hn] at hf c1 HC ⊢
  clear hn
  generalize hs1 : s.put (numB hs.length) 0 = s1 at *
  clear hs1
  go_enter Tryz.func88, Tryz.ntmps88
  go_wp2_with fail
  go_region_with (go_at_call 101; refine HC.out.mono ?_; rintro e w1 ⟨rfl, c2, H1⟩)
  have hlt1 : p < w1.heap.size := HM.out.plt H1.out.i
  clear c1 HC
  go_wp2
  clear c2
  go_loopw [20] (fun i wr => ∃ k : Nat, k ≤ hs.length ∧ i = .int .i64 k ∧ Hid (∃ s', LS 4 p base (fun w s => WrS base w p s) s' w wr ∧ layHs s1 hs = layHs s' (hs.drop k))) (fun i _ => hs.length - (intOf i).toNat)
  case atStart => exact ⟨0, by omega, rfl, _, H1.out, rfl⟩
  case round =>
    obtain ⟨k, hk, rfl, HS⟩ := hrel
    obtain ⟨s', hls, hlay⟩ := HS.out
    have HLS := hide hls
    have HLAY := hide hlay
    clear hls hlay HS H1
    by_cases hlt2 : k < hs.length
    · obtain ⟨t, ht, hd, hl32, hb, hbl, rfl, hrg⟩ := (HP.out _ _ HLS.out).get hlt2
      rw [hd] at HLAY
      have HRG := hide hrg
      have HSZ : Hid ((Tryz.prog.info? 33).map (·.size) = some (vals t).length) := by show _ = _; rw [vals_len, hl32]; kernel_rfl
      have HL32 : Hid ((vals t).length = 32) := by show _ = _; rw [vals_len, hl32]
      have HON : Hid (∀ v ∈ vals t, v.oneCell' = true) := vals_one1 t
      have HN : Hid (∀ W, wr.grownBy W none → W.heap[wr.heap.size]? = some (.cells (vals t).toArray 33 (0, 0)) → W.drew.rangeAt wr.heap.size 0 (vals t) ∧ Calls Tryz.prog 102 #[.pointer (some ⟨p, 0, none⟩), .agg (vals t).toArray] W.drew fun e w'' => e = .returned (.tuple #[]) ∧ w''.rangeAt wr.heap.size 0 (vals t) ∧ Hid (LS 4 p base (fun w s => WrS base w p s) (layH s' t) w w'')) := fun W g hbk => by
        have hb2 : Below wr.heap.size wr W := ⟨g.os, g.tape, g.output, g.size, fun k hk => g.block k hk (by simp)⟩
        have hrow : ∀ V : World, V.heap[wr.heap.size]? = some (.cells (vals t).toArray 33 (0, 0)) → V.rangeAt wr.heap.size 0 (vals t) := fun V hV j v hv => by
          rw [Nat.zero_add, block_cell hV j, List.getElem?_toArray]
          exact hv
        refine ⟨hrow _ hbk, (HH.out _ _ (HLS.out.quiet HM.out hb2) t hl32 hb).mono (fun _ w'' q => ⟨q.1, hrow _ ?_, q.2.out.1⟩)⟩
        exact ((Box.ofBelow HM.out HLS.out.i hb2 hbk).step q.2.out.2).at_
      have hltr : p < wr.heap.size := HM.out.plt HLS.out.i
      have hbw : b < wr.heap.size := Nat.lt_of_lt_of_le hbl HLS.out.bs
      clear ht hd hrg HH HP hl32 hb
      generalize vals t = cs at *
      go_wp2_with (first
        | (refine wpList_load_mid rfl 33 _ rfl b (off + k * 32) rfl cs _ HRG.out Tryz.underlying33 rfl HSZ.out ?_)
        | (refine wpList_store_box rfl 33 _ _ rfl cs rfl rfl (by rw [HL32.out]; rfl) HSZ.out HON.out ?_; intro W g hbk; have HW2 := hide (HN.out W g hbk).2; have hrgW := (HN.out W g hbk).1; have hltW : p < W.heap.size := Nat.lt_of_lt_of_le hltr g.size; clear hbk g))
      have hsz := HSZ.out
      have hdc := hash_desc
      go_region_held (fun w' => w'.rangeAt wr.heap.size 0 cs) (first | go_keep | assumption) ((go_at_call 102; refine HW2.out.mono ?_; rintro e w3 ⟨rfl, hrg3, H3⟩))
      all_goals clear hsz hdc
      all_goals go_wp2
      all_goals go_roundw
      case rel => exact ⟨k + 1, by omega, by go_num, _, H3.out, HLAY.out⟩
      case measure => simp [intOf]; omega
    · obtain rfl : k = hs.length := by omega
      go_wp2
      go_end0
      refine ⟨rfl, ?_⟩
      rw [HLAY.out, List.drop_length]
      exact ⟨HLS.out.i, HLS.out.tch⟩
end
end Go.Proofs.YtldhafpeigdloaaGreatDoor
