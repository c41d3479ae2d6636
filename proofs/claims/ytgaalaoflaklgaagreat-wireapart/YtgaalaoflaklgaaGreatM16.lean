import Derived.Test.YtgaalaoflaklgaaGreatM15
namespace Go.Proofs.YtgaalaoflaklgaaGreat
open Go.RowKit Crc

theorem mach_ref (base p : Nat) (hp : base ≤ p) : Mach 2 p base (fun w s => RefW base w p s) := by
  refine ⟨fun w s h k hf => ?_, fun w w' s h hb => RefW.below h hb⟩
  obtain ⟨v, hb, hO, hne⟩ := h
  rcases hf with rfl | ⟨u, hu, hg⟩
  · exact ⟨hp, block_lt hb⟩
  · have c4 := block_cell hb 2
    rw [hu] at c4
    simp at c4
    subst c4
    exact hO.1.lt k hg

set_option maxRecDepth 10000 in
set_option maxHeartbeats 1600000 in
theorem layBatch_ref {base p : Nat} {w : World} {s : WS} (hW : RefW base w p s) (hi : s.Inv) (hbs : base ≤ w.heap.size) (hp : base ≤ p) (stamp : Nat) (hst : stamp < 18446744073709551616) {ro : Option Addr} {rs : List Rq} {b off : Nat} (rc : Nat) (hR : Rqs base w ro rs b off) (h8 : rs.length ≤ 8) (h7 : ∀ r ∈ rs, r.cn ≤ 700) :
    Calls Tryz.prog 46 #[.pointer (some ⟨p, 0, none⟩), .agg #[.int .u64 (stamp : Int), .slice ro rs.length rc]] w fun e w' => e = .returned (.tuple #[]) ∧ Hid (RefW base w' p (layB s stamp rs) ∧ Tch 2 w w' p) := by
  have M := mach_ref base p hp
  have HL0 : Hid (LS 2 p base (fun w s => RefW base w p s) s w (w.alloc (.cells #[.int .u64 (stamp : Int), .slice ro rs.length rc] 25))) := (LS.begin hW hi hbs).quiet M (below_alloc1 w _)
  have HB0 : Hid (Box 2 p (w.alloc (.cells #[.int .u64 (stamp : Int), .slice ro rs.length rc] 25)) w.heap.size (.cells #[.int .u64 (stamp : Int), .slice ro rs.length rc] 25)) := Box.new M hW _
  have HNum : Hid (∀ (s' : WS) (w' : World) (v : Nat), LS 2 p base (fun w s => RefW base w p s) s' w w' → v < 18446744073709551616 → Calls Tryz.prog 45 #[.pointer (some ⟨p, 0, none⟩), .int .u64 (v : Int)] w' fun e w'' => e = .returned (.tuple #[]) ∧ Hid (LS 2 p base (fun w s => RefW base w p s) (s'.put (numB v) 0) w w'' ∧ Tch 2 w' w'' p)) := fun s' w' v h hv => by
    refine (refWNum h.i h.inv h.bs v v rfl hv).mono ?_
    rintro e w'' ⟨rfl, H⟩
    have H := H.out
    exact ⟨rfl, h.step H.1 H.2, H.2⟩
  have HBlob : Hid (∀ (s' : WS) (w' : World) (bo : Option Addr) (n bcap : Nat) (Bs : List Nat), LS 2 p base (fun w s => RefW base w p s) s' w w' → Shows base w' bo n bcap Bs → n ≤ 700 → Calls Tryz.prog 47 #[.pointer (some ⟨p, 0, none⟩), .slice bo n bcap, .int .i64 700] w' fun e w'' => e = .returned (.tuple #[]) ∧ Hid (LS 2 p base (fun w s => RefW base w p s) (s'.put (numB n ++ Bs) (cntY n 700)) w w'' ∧ Tch 2 w' w'' p)) := fun s' w' bo n bcap Bs h hS hn => by
    refine (refWBlob h.i h.inv h.bs bo n bcap Bs 700 hS h.bs (by omega)).mono ?_
    rintro e w'' ⟨rfl, H⟩
    have H := H.out
    exact ⟨rfl, h.step H.1 H.2, H.2⟩
  have HR : Hid (∀ s' wr, LS 2 p base (fun w s => RefW base w p s) s' w wr → Rqs base wr ro rs b off) := fun s' wr h => hR.below (M.belowOf hW hbs h.tch)
  have HE : Hid (layB s stamp rs = layGo ((s.put (numB stamp) 0).put (numB rs.length) 0) rs) := rfl
  have HM := hide M
  have H7 := hide h7
  have HCO := hide True.intro
  clear hW hi hR M h7
  go_enter Tryz.func46, Tryz.ntmps46
  go_wp2_with fail
  refine (HNum.out _ _ stamp HL0.out hst).mono ?_
  rintro e w1 ⟨rfl, H1⟩
  have HB1 := hide (HB0.out.step H1.out.2)
  have c0 := block_cell HB1.out.at_ 1
  simp at c0
  go_wp2_with fail
  refine (HNum.out _ _ rs.length H1.out.1 (by omega)).mono ?_
  rintro e w2 ⟨rfl, H2⟩
  have HB2 := hide (HB1.out.step H2.out.2)
  have c1 := block_cell HB2.out.at_ 1
  simp at c1
  go_wp2
  go_loopw [4] (fun i wr => ∃ k : Nat, k ≤ rs.length ∧ i = .int .i64 k ∧ Hid (∃ s', LS 2 p base (fun w s => RefW base w p s) s' w wr ∧ layB s stamp rs = layGo s' (rs.drop k) ∧ Box 2 p wr w.heap.size (.cells #[.int .u64 (stamp : Int), .slice ro rs.length rc] 25))) (fun i _ => rs.length - (intOf i).toNat)
  case atStart => exact ⟨0, by omega, rfl, _, H2.out.1, HE.out, HB2.out⟩
  case round =>
    obtain ⟨k, hk, rfl, HS⟩ := hrel
    obtain ⟨s', hls, hlay, hbx⟩ := HS.out
    have HLS := hide hls
    have HLAY := hide hlay
    have HBX := hide hbx
    have y1 := block_cell hbx.at_ 1
    simp at y1
    clear hls hlay hbx HS H2 HB2 H1 HB1 HL0 HB0 c0 c1
    by_cases hlt : k < rs.length
    · obtain ⟨r, hr, hd, hok, hbl, rfl, c0, c1, c2⟩ := (HR.out _ _ HLS.out).get hlt
      have hmem := List.mem_of_getElem? hr
      have hr7 := H7.out r hmem
      rw [hd] at HLAY
      have HAT : Hid (∀ s' wr', LS 2 p base (fun w s => RefW base w p s) s' w wr' → ∀ j v, r.cells[j]? = some v → wr'.cell? ⟨b, off + k * 3 + j, none⟩ = some v) := fun s' wr' h => (HR.out _ _ h).at_ k r hr
      obtain ⟨cl, sq, co, cn, cc, C⟩ := r
      have HOK := hide hok
      have HMEM := hide hmem
      simp only at c0 c1 c2 hr7
      clear hr hd hok hmem
      go_wp2_with fail
      refine (HNum.out _ _ cl HLS.out HOK.out.hc).mono ?_
      rintro e w3 ⟨rfl, H3⟩
      have HB4 := hide (HBX.out.step H3.out.2)
      have x1 := block_cell HB4.out.at_ 1
      have z1 := HAT.out _ _ H3.out.1 1 _ rfl
      simp at x1
      clear c0 c1 c2 y1
      go_wp2_with fail
      refine (HNum.out _ _ sq H3.out.1 HOK.out.hs).mono ?_
      rintro e w4 ⟨rfl, H4⟩
      have HB5 := hide (HB4.out.step H4.out.2)
      have x2 := block_cell HB5.out.at_ 1
      have z2 := HAT.out _ _ H4.out.1 2 _ rfl
      simp at x2
      have HSH := hide ((HR.out _ _ H4.out.1).ok _ HMEM.out).hC
      clear x1 z1
      go_wp2_with fail
      refine (HBlob.out _ _ co cn cc C H4.out.1 HSH.out hr7).mono ?_
      rintro e w5 ⟨rfl, H5⟩
      have HB6 := hide (HB5.out.step H5.out.2)
      go_wp2
      go_roundw
      case rel => exact ⟨k + 1, by omega, by go_num, _, H5.out.1, HLAY.out, HB6.out⟩
      case measure => simp [intOf]; omega
    · obtain rfl : k = rs.length := by omega
      go_wp2
      go_end0
      refine ⟨rfl, ?_⟩
      rw [HLAY.out, List.drop_length]
      exact ⟨HLS.out.i, HLS.out.tch⟩
end Go.Proofs.YtgaalaoflaklgaaGreat
namespace Go.Proofs.YtgaalaoflaklgaaGreat
open Go.RowKit Crc

theorem bGo_ok : ∀ (rs : List Rq) (i : Nat), (bGo rs i).2 = 0 → ∀ r ∈ rs, r.why = 0
  | [], _, _, r, hr => by cases hr
  | x :: t, i, h, r, hr => by
    by_cases hx : x.why = 0
    · rw [bGo, if_pos hx] at h
      rcases List.mem_cons.1 hr with rfl | hr
      · exact hx
      · exact bGo_ok t (i + 1) h r hr
    · rw [bGo, if_neg hx] at h
      exact absurd h hx
theorem Rq.why_ok {r : Rq} (h : r.why = 0) : 256 ≤ r.cl ∧ r.cn ≤ 700 := by
  unfold Rq.why at h
  by_cases h1 : r.cl < 256
  · rw [if_pos h1] at h; cases h
  · by_cases h2 : 700 < r.cn
    · rw [if_neg h1, if_pos h2] at h; cases h
    · omega
theorem bFault_ok {stamp : Nat} {rs : List Rq} (h : (bFault stamp rs).2 = 0) : stamp ≤ 1099511627776 ∧ rs.length ≤ 8 ∧ ∀ r ∈ rs, 256 ≤ r.cl ∧ r.cn ≤ 700 := by
  unfold bFault at h
  by_cases h1 : 1099511627776 < stamp
  · rw [if_pos h1] at h; cases h
  · by_cases h2 : 8 < rs.length
    · rw [if_neg h1, if_pos h2] at h; cases h
    · rw [if_neg h1, if_neg h2] at h
      exact ⟨by omega, by omega, fun r hr => Rq.why_ok (bGo_ok rs 0 h r hr)⟩

def encR (r : Rq) : List Nat := numB r.cl ++ (numB r.sq ++ (numB r.cn ++ r.C))
def encL (stamp : Nat) (rs : List Rq) : List Nat := numB stamp ++ (numB rs.length ++ (rs.map encR).flatten)

theorem put_fits {s : WS} (hs : s.sound) {F : List Nat} (h : ((s.L.length + F.length : Nat) : Int) ≤ s.most) : s.put F 0 = { s with L := s.L ++ F } := WS.put_takes ⟨hs, rfl, h⟩

theorem layGo_ok : ∀ (rs : List Rq) (s : WS), s.sound → ((s.L.length + 730 * rs.length : Nat) : Int) ≤ s.most → (∀ r ∈ rs, r.cn ≤ 700 ∧ r.cn = r.C.length ∧ (numB r.cl).length ≤ 10 ∧ (numB r.sq).length ≤ 10 ∧ (numB r.cn).length ≤ 10) → layGo s rs = { s with L := s.L ++ (rs.map encR).flatten }
  | [], s, _, _, _ => by simp [layGo]
  | r :: t, s, hs, hl, hr => by
    obtain ⟨h1, h2, h3, h4, h5⟩ := hr r (by simp)
    simp only [List.length_cons] at hl
    rw [layGo]
    have e1 := put_fits (s := s) (F := numB r.cl) hs (by omega)
    rw [e1]
    have e2 := put_fits (s := { s with L := s.L ++ numB r.cl }) (F := numB r.sq) hs (by simp only [List.length_append]; omega)
    rw [e2, show cntY (r.cn : Int) 700 = 0 by unfold cntY; rw [if_neg (by omega)]]
    have e3 := put_fits (s := { s with L := s.L ++ numB r.cl ++ numB r.sq }) (F := numB r.cn ++ r.C) hs (by simp only [List.length_append]; omega)
    rw [e3]
    have e4 := layGo_ok t { s with L := s.L ++ numB r.cl ++ numB r.sq ++ (numB r.cn ++ r.C) } hs (by simp only [List.length_append]; omega) (fun x hx => hr x (by simp [hx]))
    rw [e4]
    simp [encR, List.append_assoc]

/-- The state of a new writer. -/
def WS1 : WS := ⟨true, 0, 0, 65507, [], KW⟩
theorem layB_ok {stamp : Nat} {rs : List Rq} (h8 : rs.length ≤ 8) (hst : stamp < 18446744073709551616) (hr : ∀ r ∈ rs, r.cn ≤ 700 ∧ r.cn = r.C.length ∧ r.cl < 18446744073709551616 ∧ r.sq < 18446744073709551616) : layB WS1 stamp rs = { WS1 with L := encL stamp rs } := by
  have hn : ∀ v, v < 18446744073709551616 → (numB v).length ≤ 10 := fun v _ => numTo_len 9 v
  have hs : WS1.sound := ⟨rfl, rfl⟩
  have l1 := hn stamp hst
  have l2 := hn rs.length (by omega)
  unfold layB
  have e1 := put_fits (s := WS1) (F := numB stamp) hs (by simp only [WS1, List.length_nil]; omega)
  rw [e1]
  have e2 := put_fits (s := { WS1 with L := WS1.L ++ numB stamp }) (F := numB rs.length) hs (by simp only [WS1, List.length_append, List.length_nil]; omega)
  rw [e2]
  rw [layGo_ok rs { WS1 with L := WS1.L ++ numB stamp ++ numB rs.length } hs (by simp only [WS1, List.length_append, List.length_nil]; omega) (fun r hx => by
    obtain ⟨h1, h2, h3, h4⟩ := hr r hx
    exact ⟨h1, h2, hn _ h3, hn _ h4, hn _ (by omega)⟩)]
  simp [encL, WS1]
end Go.Proofs.YtgaalaoflaklgaaGreat
