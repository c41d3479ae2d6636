import Derived.Test.YtldhafpeigdloaaGreatDoorVWp
namespace Go.Proofs.YtldhafpeigdloaaGreatDoor
open Go.RowKit Crc
section
variable {base p : Nat} {w : World} {s : WS} {m : Mg}
theorem LS.num {s' : WS} {w' : World} (h : LS 4 p base (fun w s => WrS base w p s) s' w w') (v : Nat) (hv : v < 18446744073709551616) :
    Calls Tryz.prog 100 #[.pointer (some ⟨p, 0, none⟩), .int .u64 (v : Int)] w'.drew fun e w'' => e = .returned (.tuple #[]) ∧ Hid (LS 4 p base (fun w s => WrS base w p s) (s'.put (numB v) 0) w w'' ∧ Tch 4 w' w'' p) :=
  (numS h.i.drew h.inv h.bs v hv).mono (fun _ _ H => ⟨H.1, h.step H.2.out.1 (tch_drew H.2.out.2), tch_drew H.2.out.2⟩)
theorem LS.bal (hp : base ≤ p) {s' : WS} {w' : World} (h : LS 4 p base (fun w s => WrS base w p s) s' w w') (num nd : Nat) (hn : num < 18446744073709551616) (hd : nd < 256) :
    Calls Tryz.prog 97 #[.pointer (some ⟨p, 0, none⟩), .agg #[.int .u64 (num : Int), .int .i64 (nd : Int)]] w'.drew fun e w'' => e = .returned (.tuple #[]) ∧ Hid (LS 4 p base (fun w s => WrS base w p s) ((s'.put (numB num) 0).put (big nd 1) 0) w w'' ∧ Tch 4 w' w'' p) :=
  (layBallot_prog h.i.drew h.inv h.bs hp num nd hn hd).mono (fun _ _ H => ⟨H.1, ⟨H.2.out.1, WS.put_inv (WS.put_inv h.inv _ _) _ _, Nat.le_trans h.bs H.2.out.2.size, h.tch.trans (tch_drew H.2.out.2)⟩, tch_drew H.2.out.2⟩)
theorem LS.bat (hp : base ≤ p) {s' : WS} {w' : World} (h : LS 4 p base (fun w s => WrS base w p s) s' w w') {t : Vi} (ht : t.Ok base w') (hco : ∀ r ∈ t.rs, ∀ b off, r.co = some ⟨b, off, none⟩ → b < base) (h8 : t.rs.length ≤ 8) (h7 : ∀ r ∈ t.rs, r.cn ≤ 700) :
    Calls Tryz.prog 98 #[.pointer (some ⟨p, 0, none⟩), .agg #[.int .u64 (t.st : Int), .slice t.ro t.n t.rc]] w'.drew fun e w'' => e = .returned (.tuple #[]) ∧ Hid (LS 4 p base (fun w s => WrS base w p s) (layB s' t.st t.rs) w w'' ∧ Tch 4 w' w'' p) := by
  have q := layBatch_prog h.i.drew h.inv h.bs hp t.st ht.hst t.rc (hRd ht.hR) h8 h7 hco
  rw [ht.hn] at q
  exact q.mono (fun _ _ H => ⟨H.1, ⟨H.2.out.1, layB_inv _ _ h.inv, Nat.le_trans h.bs H.2.out.2.size, h.tch.trans (tch_drew H.2.out.2)⟩, tch_drew H.2.out.2⟩)

set_option maxRecDepth 10000 in
set_option maxHeartbeats 1600000 in
theorem wfm_votes (hW : WrS base w p s) (hK : s.K.R = m.R) (hi : s.Inv) (hbs : base ≤ w.heap.size) (hp : base ≤ p) (hx : m.Ok base w) (hy : m.Co base) (hf : m.vn ≤ 8 ∧ ∀ t ∈ m.vs, 0 ≤ t.node ∧ t.node < 256 ∧ t.rs.length ≤ 8 ∧ ∀ r ∈ t.rs, r.cn ≤ 700) :
    Calls Tryz.prog 96 #[.pointer (some ⟨p, 0, none⟩)] w fun e w' => e = .returned (.tuple #[]) ∧ Hid (WrS base w' p (layVs (s.put (numB m.vn) 0) m.vs) ∧ Tch 4 w w' p) := by
  have M := mach_prog base p hp
  have c1 := hW.cellR 5 (u := .slice m.vo m.vn m.vc) (by rw [hK]; rfl)
  simp only [Nat.reduceAdd] at c1
  have HC := hide (LS.count hK hW hi hbs m.vn 8 5 (.slice m.vo m.vn m.vc) hf.1 (by omega) rfl)
  simp only [Nat.reduceAdd] at HC
  have HP : Hid (∀ s' wr, LS 4 p base (fun w s => WrS base w p s) s' w wr → Vos base wr m.vo m.vs m.vb m.voff) := fun s' wr h => hx.hV.below (M.belowOf hW hbs h.tch)
  have HF := hide hf.2
  have HCO := hide hy.hvco
  have hf1 := hf.1
  have HM := hide M
  have hn : m.vs.length = m.vn := hx.hvn
  have hlt := hW.lt
  clear hW hK hi hx hy M hf
  generalize m.vo = vo at *
  generalize m.vc = vc at *
  generalize m.vs = ts at *
  generalize m.vb = b at *
  generalize m.voff = off at *
  rw [← hn] at hf1 c1 HC ⊢
  clear hn
  generalize hs1 : s.put (numB ts.length) 0 = s1 at *
  clear hs1
  go_enter Tryz.func96, Tryz.ntmps96
  go_wp2_with fail
  go_region_with (go_at_call 101; refine HC.out.mono ?_; rintro e w1 ⟨rfl, c2, H1⟩)
  have hlt1 : p < w1.heap.size := HM.out.plt H1.out.i
  clear c1 HC
  go_wp2
  clear c2
  go_loopw [20] (fun i wr => ∃ k : Nat, k ≤ ts.length ∧ i = .int .i64 k ∧ Hid (∃ s', LS 4 p base (fun w s => WrS base w p s) s' w wr ∧ layVs s1 ts = layVs s' (ts.drop k))) (fun i _ => ts.length - (intOf i).toNat)
  case atStart => exact ⟨0, by omega, rfl, _, H1.out, rfl⟩
  case round =>
    obtain ⟨k, hk, rfl, HS⟩ := hrel
    obtain ⟨s', hls, hlay⟩ := HS.out
    have HLS := hide hls
    have HLAY := hide hlay
    clear hls hlay HS H1
    by_cases hlt2 : k < ts.length
    · obtain ⟨t, ht, hd, hok, hbl, rfl, c0, c1, c2, c3, c4⟩ := (HP.out _ _ HLS.out).get hlt2
      rw [hd] at HLAY
      obtain ⟨f1, f2, f3, f4⟩ := HF.out t (List.mem_of_getElem? ht)
      have hnd : ((t.node.toNat : Nat) : Int) = t.node := Int.toNat_of_nonneg f1
      rw [← hnd] at c2
      have hltr : p < wr.heap.size := HM.out.plt HLS.out.i
      have hbw : b < wr.heap.size := Nat.lt_of_lt_of_le hbl HLS.out.bs
      obtain ⟨W1, hW1⟩ : ∃ W1, wr.alloc (.cells #[.int .u64 (t.slot : Int), .int .u64 (t.num : Int), .int .i64 ((t.node.toNat : Nat) : Int), .int .u64 (t.st : Int), .slice t.ro t.n t.rc] 66) = W1 := ⟨_, rfl⟩
      have L1 : Hid (LS 4 p base (fun w s => WrS base w p s) s' w W1) := by rw [← hW1]; exact HLS.out.quiet HM.out (below_alloc1 wr _)
      have B1 : Hid (Box 4 p W1 wr.heap.size (.cells #[.int .u64 (t.slot : Int), .int .u64 (t.num : Int), .int .i64 ((t.node.toNat : Nat) : Int), .int .u64 (t.st : Int), .slice t.ro t.n t.rc] 66)) := by rw [← hW1]; exact Box.new HM.out HLS.out.i _
      have e0 := block_cell B1.out.at_ 0
      simp at e0
      have hl1 : p < W1.heap.size := HM.out.plt L1.out.i
      have hq1 : wr.heap.size < W1.heap.size := block_lt B1.out.at_
      have HOK : Hid (∀ s' w', LS 4 p base (fun w s => WrS base w p s) s' w w' → t.Ok base w') := fun s' w' h => (HP.out _ _ h).ok t (List.mem_of_getElem? ht)
      have HN1 := hide (L1.out.num t.slot hok.hslot)
      have HB2 : Hid (∀ s2 w2, LS 4 p base (fun w s => WrS base w p s) s2 w w2 → Calls Tryz.prog 97 #[.pointer (some ⟨p, 0, none⟩), .agg #[.int .u64 (t.num : Int), .int .i64 ((t.node.toNat : Nat) : Int)]] w2.drew fun e w'' => e = .returned (.tuple #[]) ∧ Hid (LS 4 p base (fun w s => WrS base w p s) ((s2.put (numB t.num) 0).put (big t.node.toNat 1) 0) w w'' ∧ Tch 4 w2 w'' p)) := fun s2 w2 h => h.bal hp t.num t.node.toNat hok.hnum (by omega)
      have HB3 : Hid (∀ s2 w2, LS 4 p base (fun w s => WrS base w p s) s2 w w2 → Calls Tryz.prog 98 #[.pointer (some ⟨p, 0, none⟩), .agg #[.int .u64 (t.st : Int), .slice t.ro t.n t.rc]] w2.drew fun e w'' => e = .returned (.tuple #[]) ∧ Hid (LS 4 p base (fun w s => WrS base w p s) (layB s2 t.st t.rs) w w'' ∧ Tch 4 w2 w'' p)) := fun s2 w2 h => h.bat hp (HOK.out _ _ h) (HCO.out t (List.mem_of_getElem? ht)) f3 f4
      have HLY : Hid (layVs s1 ts = layVs (layB (((s'.put (numB t.slot) 0).put (numB t.num) 0).put (big t.node.toNat 1) 0) t.st t.rs) (ts.drop (k + 1))) := HLAY.out
      have HW1 := hide hW1
      clear ht hd hok f1 f2 f3 f4 hnd HOK HLAY hW1 L1
      generalize t.node.toNat = nd at *
      go_wp2_with fail
      rw [HW1.out]
      clear HW1 c0 c1 c2 c3 c4
      go_region_with (go_at_call 100; refine HN1.out.mono ?_; rintro e w2 ⟨rfl, H2⟩)
      have B2 := hide (B1.out.step H2.out.2)
      have HN2 := hide (HB2.out _ _ H2.out.1)
      have hl2 : p < w2.heap.size := HM.out.plt H2.out.1.i
      have hq2 : wr.heap.size < w2.heap.size := block_lt B2.out.at_
      have e1 := block_cell B2.out.at_ 1
      have e2 := block_cell B2.out.at_ 2
      simp at e1 e2
      clear e0 HN1 B1 HB2 hl1 hq1
      go_wp2_with fail
      go_region_with (go_at_call 97; refine HN2.out.mono ?_; rintro e w3 ⟨rfl, H3⟩)
      have B3 := hide (B2.out.step H3.out.2)
      have HN3 := hide (HB3.out _ _ H3.out.1)
      have hl3 : p < w3.heap.size := HM.out.plt H3.out.1.i
      have hq3 : wr.heap.size < w3.heap.size := block_lt B3.out.at_
      have e3 := block_cell B3.out.at_ 3
      have e4 := block_cell B3.out.at_ 4
      simp at e3 e4
      clear e1 e2 HN2 B2 HB3 H2 hl2 hq2
      go_wp2_with fail
      go_region_with (go_at_call 98; refine HN3.out.mono ?_; rintro e w4 ⟨rfl, H4⟩)
      clear e3 e4
      go_wp2
      go_roundw
      case rel => exact ⟨k + 1, by omega, by go_num, _, H4.out.1, HLY.out⟩
      case measure => simp [intOf]; omega
    · obtain rfl : k = ts.length := by omega
      go_wp2
      go_end0
      refine ⟨rfl, ?_⟩
      rw [HLAY.out, List.drop_length]
      exact ⟨HLS.out.i, HLS.out.tch⟩
theorem wfm_any (f : Mf) (hW : WrS base w p s) (hK : s.K.R = m.R) (hi : s.Inv) (hbs : base ≤ w.heap.size) (hp : base ≤ p) (hx : m.Ok base w) (hy : m.Co base) (hf : f.wok m) :
    Calls Tryz.prog f.wfn #[.pointer (some ⟨p, 0, none⟩)] w fun e w' => e = .returned (.tuple #[]) ∧ Hid (WrS base w' p (f.lay m s) ∧ Tch 4 w w' p) := by
  cases f with
  | seq => exact wfm_seq hW hK hi hbs hx
  | command => exact wfm_command hW hK hi hbs hx hy
  | stamp => exact wfm_stamp hW hK hi hbs hx
  | outcome => exact wfm_outcome hW hK hi hbs
  | result => exact wfm_result hW hK hi hbs hx hy
  | ballot => exact wfm_ballot hW hK hi hbs hp hx hf
  | low => exact wfm_low hW hK hi hbs hx
  | votes => exact wfm_votes hW hK hi hbs hp hx hy hf
  | slot => exact wfm_slot hW hK hi hbs hx
  | batch => exact wfm_batch hW hK hi hbs hp hx hy hf
  | suspect => exact wfm_suspect hW hK hi hbs
  | index => exact wfm_index hW hK hi hbs hx
  | total => exact wfm_total hW hK hi hbs hx
  | root => exact wfm_root hW hK hi hbs hp hx
  | chunk => exact wfm_chunk hW hK hi hbs hx hy
  | path => exact wfm_path hW hK hi hbs hp hx hf
end
end Go.Proofs.YtldhafpeigdloaaGreatDoor
