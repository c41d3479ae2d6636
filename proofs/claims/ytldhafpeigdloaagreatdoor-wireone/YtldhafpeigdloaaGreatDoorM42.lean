import Derived.Test.YtldhafpeigdloaaGreatDoorM13
import Derived.Test.YtldhafpeigdloaaGreatDoorM38
import Derived.Test.YtldhafpeigdloaaGreatDoorM26
import Derived.Test.YtldhafpeigdloaaGreatDoorM41
namespace Go.Proofs.YtldhafpeigdloaaGreatDoor
open Go.RowKit Crc

theorem fin_nwm {w W : World} {cs : List Value} (hb : Below w.heap.size w W) :
    WrS w.heap.size (W.alloc (.cells (List.toArray ([.bool true, .int .i64 0, .int .i64 0, .int .i64 65507, .slice none 0 0] ++ cs)) 93)) W.heap.size ⟨true, 0, 0, 65507, [], ⟨93, cs⟩⟩ ∧ Below w.heap.size w (W.alloc (.cells (List.toArray ([.bool true, .int .i64 0, .int .i64 0, .int .i64 65507, .slice none 0 0] ++ cs)) 93)) ∧ w.heap.size ≤ W.heap.size :=
  ⟨⟨.slice none 0 0, alloc_at _ _, Owns.nil _ _, by simp [Value.ownBlock]⟩, hb.alloc hb.size _, hb.size⟩
theorem nats32 {h : List Nat} (hl : h.length = 32) : ∃ x0 x1 x2 x3 x4 x5 x6 x7 x8 x9 x10 x11 x12 x13 x14 x15 x16 x17 x18 x19 x20 x21 x22 x23 x24 x25 x26 x27 x28 x29 x30 x31 : Nat, h = [x0, x1, x2, x3, x4, x5, x6, x7, x8, x9, x10, x11, x12, x13, x14, x15, x16, x17, x18, x19, x20, x21, x22, x23, x24, x25, x26, x27, x28, x29, x30, x31] := by
  have e : h = (List.range 32).map (fun i => h.getD i 0) := by
    refine List.ext_getElem (by simp [hl]) (fun i h1 h2 => ?_)
    simp [List.getD, List.getElem?_eq_getElem h1]
  exact ⟨_, _, _, _, _, _, _, _, _, _, _, _, _, _, _, _, _, _, _, _, _, _, _, _, _, _, _, _, _, _, _, _, e⟩
theorem build_fwm {m : Mg} (hl : m.root.length = 32) (w : World) : (Instr.build 93 #[(0, .agg #[.bool true, .int .i64 0, .int .i64 0, .int .i64 65507, .slice none 0 0]), (1, .agg m.R.toArray)]).run Tryz.prog w = .ok (.agg (List.toArray ([.bool true, .int .i64 0, .int .i64 0, .int .i64 65507, .slice none 0 0] ++ m.R))) w := by
  obtain ⟨x0, x1, x2, x3, x4, x5, x6, x7, x8, x9, x10, x11, x12, x13, x14, x15, x16, x17, x18, x19, x20, x21, x22, x23, x24, x25, x26, x27, x28, x29, x30, x31, e⟩ := nats32 hl
  unfold Mg.R
  rw [e]
  kernel_rfl
theorem build_ckm {m : Mg} (hl : m.root.length = 32) (w : World) : (Instr.build 53 #[(0, .agg m.R.toArray)]).run Tryz.prog w = .ok (.agg (m.R ++ ((List.replicate 16 false).map Value.bool ++ (List.replicate 16 (0 : Int)).map (Value.int .i64))).toArray) w := by
  obtain ⟨x0, x1, x2, x3, x4, x5, x6, x7, x8, x9, x10, x11, x12, x13, x14, x15, x16, x17, x18, x19, x20, x21, x22, x23, x24, x25, x26, x27, x28, x29, x30, x31, e⟩ := nats32 hl
  unfold Mg.R
  rw [e]
  kernel_rfl
set_option maxRecDepth 10000 in
set_option maxHeartbeats 1600000 in
theorem newFWm_any {cs : List Value} (hcs : cs.length = 49) (hbd : ∀ w : World, (Instr.build 93 #[(0, .agg #[.bool true, .int .i64 0, .int .i64 0, .int .i64 65507, .slice none 0 0]), (1, .agg cs.toArray)]).run Tryz.prog w = .ok (.agg (List.toArray ([.bool true, .int .i64 0, .int .i64 0, .int .i64 65507, .slice none 0 0] ++ cs))) w) (w : World) :
    Calls Tryz.prog 15 #[.agg cs.toArray] w fun e w' => ∃ p, e = .returned (.pointer (some ⟨p, 0, none⟩)) ∧ Hid (WrS w.heap.size w' p ⟨true, 0, 0, 65507, [], ⟨93, cs⟩⟩ ∧ Below w.heap.size w w' ∧ w.heap.size ≤ p) := by
  have HBD := hide hbd
  have HSZ : Hid ((Tryz.prog.info? 36).map (·.size) = some (List.length cs)) := by show _ = _; rw [hcs]; kernel_rfl
  have HFN : Hid (∀ W : World, Below w.heap.size w W → WrS w.heap.size (W.alloc (.cells (List.toArray ([.bool true, .int .i64 0, .int .i64 0, .int .i64 65507, .slice none 0 0] ++ cs)) 93)) W.heap.size ⟨true, 0, 0, 65507, [], ⟨93, cs⟩⟩ ∧ Below w.heap.size w (W.alloc (.cells (List.toArray ([.bool true, .int .i64 0, .int .i64 0, .int .i64 65507, .slice none 0 0] ++ cs)) 93)) ∧ w.heap.size ≤ W.heap.size) := fun W hb => fin_nwm hb
  clear hcs hbd
  obtain ⟨W, hW⟩ : ∃ W, w.alloc (.cells cs.toArray 36) = W := ⟨_, rfl⟩
  have q0 : W.heap[w.heap.size]? = some (.cells cs.toArray 36 (0, 0)) := by rw [← hW]; exact alloc_at _ _
  have rg : Hid (W.drew.rangeAt w.heap.size 0 cs) := fun j v hv => by
    show W.cell? ⟨w.heap.size, 0 + j, none⟩ = some v
    rw [Nat.zero_add, block_cell q0 j, List.getElem?_toArray]; exact hv
  have B0 : Hid (Below w.heap.size w W) := by show Below _ _ _; rw [← hW]; exact below_alloc1 w _
  have HW := hide hW
  clear hW q0
  go_enter Tryz.func15, Tryz.ntmps15
  go_wp2_with fail
  rw [HW.out]
  clear HW
  refine wp_region_held_drew (S := fun w' => w'.rangeAt w.heap.size 0 cs) (by kernel_rfl) rg.out (fun hH => ?_)
  refine wpAnyH_take (i := 3) (oi := _) (v := .agg cs.toArray) rfl (by kernel_rfl) (by kernel_rfl) (by kernel_rfl) (fun _ _ _ h => h) (yieldsIf_load_mid (by rfl) 36 _ rfl w.heap.size 0 rfl cs _ (fun _ h => h) Tryz.underlying36 rfl HSZ.out) hH ?_
  simp only [Act.put, List.setIfInBounds_toArray]
  refine wpAnyH_ready (rs := [0]) (by kernel_rfl) (by simp) ?_
  refine AllReadyH.cons rfl (fun K hK => ?_) AllReadyH.nil
  go_simp
  go_wp2_with (go_at_call 29; refine (newW _).mono ?_; rintro e w1 ⟨rfl, rfl⟩)
  refine hK.out _ _ (World.rangeAt_alloc hH _) (fun hH1 => ?_)
  clear hK K
  refine wpAnyH_ready (rs := [1]) (by kernel_rfl) (by simp) ?_
  refine AllReadyH.cons rfl (fun K hK => ?_) AllReadyH.nil
  go_simp
  refine hK.out _ _ (hH1) (fun hH2 => ?_)
  clear hK K
  refine wpAnyH_ready (rs := [2]) (by kernel_rfl) (by simp) ?_
  refine AllReadyH.cons rfl (fun K hK => ?_) AllReadyH.nil
  go_simp
  refine hK.out _ _ (hH2) (fun hH3 => ?_)
  clear hK K
  refine wpAnyH_ready (rs := [4]) (by kernel_rfl) (by simp) ?_
  refine AllReadyH.cons rfl (fun K hK => ?_) AllReadyH.nil
  rw [if_pos (by rfl)]
  refine op_pure (exec_build (t := 93) (parts := #[(0, .tmp 5), (1, .tmp 6)]) rfl (by have h := HBD.out; simpa [Act.eval] using h _)) ?_
  refine hK.out _ _ hH3 (fun hH4 => ?_)
  clear hK K
  refine wpAnyH_ready (rs := [5]) (by kernel_rfl) (by simp) ?_
  refine AllReadyH.cons rfl (fun K hK => ?_) AllReadyH.nil
  go_simp
  refine hK.out _ _ (World.rangeAt_alloc hH4 _) (fun hH5 => ?_)
  clear hK K
  refine wpAnyH_ready (rs := [6]) (by kernel_rfl) (by simp) ?_
  refine AllReadyH.cons rfl (fun K hK => ?_) AllReadyH.nil
  go_simp
  refine hK.out _ _ (hH5) (fun hH6 => ?_)
  clear hK K
  refine wpAnyH_done (by kernel_rfl) ?_ _
  go_wp2
  go_ret
  refine ⟨_, rfl, ?_⟩
  have b1 : Below w.heap.size w (W.alloc (.cells #[.bool true, .int .i64 0, .int .i64 0, .int .i64 65507, .slice none 0 0] 89)) := B0.out.alloc B0.out.size _
  have e : (W.alloc (.cells #[.bool true, .int .i64 0, .int .i64 0, .int .i64 65507, .slice none 0 0] 89)).heap.size = W.heap.size + 1 := by simp
  have h := HFN.out _ b1
  rw [e] at h
  exact ⟨h.1, ⟨h.2.1.os, h.2.1.tape, h.2.1.output, h.2.1.size, h.2.1.block⟩, h.2.2⟩
end Go.Proofs.YtldhafpeigdloaaGreatDoor
namespace Go.Proofs.YtldhafpeigdloaaGreatDoor
open Go.RowKit Crc

set_option maxRecDepth 10000 in
set_option maxHeartbeats 1600000 in
theorem frame_nil (k : Nat) (ao : Option Addr) (cap : Nat) (w : World) (hk : k < 256) (h0 : 0 < w.heap.size) (hT : Table w) :
    Calls Tryz.prog 17 #[.int .u8 k, .slice ao 0 cap] w fun e w' => e = .returned (.tuple #[.slice (some ⟨w.heap.size, 0, none⟩) 12 12, .nilIface]) ∧
      w'.ownsRow w.heap.size 5 1 (.slice (some ⟨w.heap.size, 0, none⟩) 12 12) 12 (vals (frameB k [])) ∧ Below w.heap.size w w' := by
  obtain ⟨i0, hi, hz0, hz1, hz2⟩ := info_parts Tryz.info5
  have HT : Hid (∀ w1 : World, Below w.heap.size w w1 → Table w1) := fun w1 hb i hi => (hb.cell (p := ⟨0, i, none⟩) h0).trans (hT i hi)
  clear hT h0
  go_enter Tryz.func17, Tryz.ntmps17
  go_wp2_with (first
    | (at_make; refine wpList_make_own _ rfl _ _ 31 rfl w.heap.size 5 i0 (.int .u8 0) 1 Tryz.underlying31 hi hz0 hz1 .i64 .i64 _ 12 rfl rfl (by omega) (by rw [hz2]; omega) (by unfold maxLen; omega) (Nat.le_refl _) ?_; intro w0 hown0 hgrow0))
  go_wp2_with fail
  refine (append_any w.heap.size 0 12 20813 2 _ _ [] w0 rfl rfl (by omega) (by omega) hown0).mono ?_
  rintro e w1 ⟨rfl, hown1, hgrow1⟩
  rw [big2] at hown1
  go_wp2_with (first
    | (at_builtin; refine wpList_append_own_spare _ rfl (.tmp 18) (.tmp 20) 31 rfl w.heap.size 5 i0 1 Tryz.underlying31 hi hz1 w.heap.size 2 12 _ rfl (hown1.alloc _) ⟨w1.heap.size, 0, none⟩ 2 2 [.int .u8 1, .int .u8 (k : Int)] rfl rfl (cell_two_new _ _ _ _) (one2 _ _) (by omega) ?_; intro w2 hown2 hgrow2))
  have hb0 : Below w.heap.size w w0 := (Below.refl _ _).grown hgrow0 (Nat.le_refl _) (fun k h => by cases h)
  have hs0 := hb0.size
  have hb1 : Below w.heap.size w w1 := hb0.grown hgrow1 (by omega) (fun k h => by cases h; exact Nat.le_refl _)
  have hs1 := hb1.size
  have hb2 : Below w.heap.size w w2 := (hb1.alloc (by omega) _).grown hgrow2 (by simp; omega) (fun k h => by cases h; exact Nat.le_refl _)
  have hs2 := hb2.size
  clear hown0 hown1 hgrow0 hgrow1 hgrow2 hb0 hb1 hs0 hs1
  refine (append_any w.heap.size 4 12 0 4 _ _ _ w2 rfl rfl (by omega) (by omega) hown2).mono ?_
  rintro e w4 ⟨rfl, hown3, hgrow3⟩
  have hb4 : Below w.heap.size w w4 := hb2.grown hgrow3 (by omega) (fun k h => by cases h; exact Nat.le_refl _)
  have hs4 := hb4.size
  clear hown2 hgrow3 hb2 hs2
  have HH : Hid (w4.ownsRow w.heap.size 5 1 (.slice (some ⟨w.heap.size, 0, none⟩) 8 12) 8 (vals (headB k []))) := by
    show w4.ownsRow _ _ _ _ _ _
    have e : vals (headB k []) = [] ++ vals [81, 77] ++ [.int .u8 1, .int .u8 (k : Int)] ++ vals (big 0 4) := by
      unfold headB; rw [vals_append, vals_append, vals_append]; simp [vals]
    rw [e]; exact hown3
  clear hown3
  have HAP : Hid (∀ wx : World, (Builtin.append_ #[31, 31] 31 #[.slice (some ⟨w.heap.size, 0, none⟩) 8 12, .slice ao 0 cap]).run Tryz.prog wx = .ok (.slice (some ⟨w.heap.size, 0, none⟩) 8 12) wx) := by
    intro wx
    cases ao <;> simp [Builtin.append_, run_underlying Tryz.underlying31, sizeOf, typeInfo, hi, storeCells, go_sem]
  go_wp2_with (first
    | (at_builtin; refine wpList_append_nothing rfl (.tmp 27) (.tmp 28) 31 rfl _ _ rfl rfl (HAP.out _) ?_))
  have HCL : Hid (∀ i, i < 8 → w4.cell? ⟨w.heap.size, 0 + i, none⟩ = some (.int .u8 (((headB k []).getD i 0 : Nat) : Int))) := by
    intro i hi; rw [Nat.zero_add]; exact owned_cells HH.out i hi
  refine (sum_any w.heap.size 0 _ (headB k []) 8 12 w4 (fun _ => rfl) (by rw [headB_len]; rfl) (by omega) (headB_lt k [] hk (by simp)) (HT.out w4 hb4) HCL.out).mono ?_
  rintro e w5 ⟨rfl, rfl⟩
  have hSlt : Crc.sum (headB k []) < 4294967296 := xor_lt32 _ _ (sumFrom_lt _ _ (by omega) (headB_lt k [] hk (by simp))) (by omega)
  have HE : Hid (vals (frameB k []) = vals (headB k []) ++ [.int .u8 (((Crc.sum (headB k []) : Nat) : Int) % (256 : Int)), .int .u8 (((Crc.sum (headB k []) : Nat) : Int) / (256 : Int) % (256 : Int)), .int .u8 (((Crc.sum (headB k []) : Nat) : Int) / (65536 : Int) % (256 : Int)), .int .u8 (((Crc.sum (headB k []) : Nat) : Int) / (16777216 : Int))]) := by
    show _ = _; unfold frameB; rw [vals_append, vals_low4]
  clear HCL HAP
  generalize Crc.sum (headB k []) = S at *
  go_wp2_with (first
    | (at_builtin; refine wpList_append_own_spare _ rfl (.tmp 32) (.tmp 44) 31 rfl w.heap.size 5 i0 1 Tryz.underlying31 hi hz1 w.heap.size 8 12 _ rfl (HH.out.alloc _) ⟨w5.heap.size, 0, none⟩ 4 4 [.int .u8 ((S : Int) % (256 : Int)), .int .u8 ((S : Int) / (256 : Int) % (256 : Int)), .int .u8 ((S : Int) / (65536 : Int) % (256 : Int)), .int .u8 ((S : Int) / (16777216 : Int))] rfl rfl (cell_four_new _ _ _ _ _ _) (one4 _ _ _ _) (by omega) ?_; intro w6 hown6 hgrow6))
  go_ret2
  refine ⟨rfl, ?_, (hb4.alloc (by omega) _).grown hgrow6 (by simp; omega) (fun k h => by cases h; exact Nat.le_refl _)⟩
  rw [HE.out]
  exact hown6

/-- Frame, whatever the body's address. -/
theorem frame_any (k : Nat) (b off : Nat) (ao : Option Addr) (B : List Nat) (n cap : Nat) (w : World) (hao : 0 < n → ao = some ⟨b, off, none⟩) (hn : n = B.length) (hl : n ≤ 65495) (hk : k < 256) (hB : ∀ x ∈ B, x < 256) (hbw : 0 < n → b < w.heap.size) (h0 : 0 < w.heap.size) (hT : Table w)
  (hc : ∀ i, i < n → w.cell? ⟨b, off + i, none⟩ = some (.int .u8 ((B.getD i 0 : Nat) : Int))) :
    Calls Tryz.prog 17 #[.int .u8 k, .slice ao n cap] w fun e w' => e = .returned (.tuple #[.slice (some ⟨w.heap.size, 0, none⟩) (12 + n) (12 + n), .nilIface]) ∧
      w'.ownsRow w.heap.size 5 1 (.slice (some ⟨w.heap.size, 0, none⟩) (12 + n) (12 + n)) (12 + n) (vals (frameB k B)) ∧ Below w.heap.size w w' := by
  by_cases hp : 0 < n
  · obtain rfl := hao hp
    exact frame_some k b off B n cap w hn hl hk hB (hbw hp) h0 hT hc
  · obtain rfl : n = 0 := by omega
    obtain rfl : B = [] := List.eq_nil_of_length_eq_zero hn.symm
    exact frame_nil k ao cap w hk h0 hT
end Go.Proofs.YtldhafpeigdloaaGreatDoor
namespace Go.Proofs.YtldhafpeigdloaaGreatDoor
open Go.RowKit Crc

/-- What stands while a message is encoded. -/
structure En (w : World) (cb : Nat) (cs : List Value) (W : World) : Prop where
  bel : Below w.heap.size w W
  mb : W.rangeAt w.heap.size 0 cs
  lt : w.heap.size < cb
  lt3 : cb ≤ W.heap.size
theorem En.next {w : World} {cb : Nat} {cs : List Value} {W W' : World} (h : En w cb cs W) (hb : Below cb W W') : En w cb cs W' := by
  have h1 := h.lt
  have h3 := h.lt3
  refine ⟨h.bel.trans (hb.mono (by omega)), fun j v hv => ?_, h1, Nat.le_trans h3 hb.size⟩
  exact (hb.cell (p := ⟨w.heap.size, 0 + j, none⟩) (by simpa using h1)).trans (h.mb j v hv)
theorem En.below {w : World} {cb : Nat} {cs : List Value} {W W' : World} (h : En w cb cs W) (hb : Below W.heap.size W W') : En w cb cs W' := h.next (hb.mono h.lt3)
theorem ckm_new {cb : Nat} {cs : List Value} {W : World} (hl : cs.length = 49) (h : W.heap[cb]? = some (.cells (cs ++ ((List.replicate 16 false).map Value.bool ++ (List.replicate 16 (0 : Int)).map (Value.int .i64))).toArray 53 (0, 0))) : Ck cb cs U0 Y0 W := ⟨h, hl, by simp [U0], by simp [Y0]⟩
theorem ckm_one {cs : List Value} (h : ∀ v ∈ cs, v.oneCell' = true) : ∀ v ∈ cs ++ ((List.replicate 16 false).map Value.bool ++ (List.replicate 16 (0 : Int)).map (Value.int .i64)), v.oneCell' = true := by
  intro v hv
  rcases List.mem_append.1 hv with hv | hv
  · exact h v hv
  · rcases List.mem_append.1 hv with hv | hv
    · obtain ⟨b, _, rfl⟩ := List.mem_map.1 hv; rfl
    · obtain ⟨b, _, rfl⟩ := List.mem_map.1 hv; rfl
def EncPost (m : Mg) (w : World) (e : Ending) (w' : World) : Prop := ∃ v x, e = .returned (.tuple #[v, x]) ∧ Hid (Owns w.heap.size w' v (mRes m) ∧ ErrV w' x (mNo m).1 (mNo m).2 ∧ Below w.heap.size w w')

set_option maxRecDepth 10000 in
set_option maxHeartbeats 3200000 in
theorem encm_bad {w : World} (m : Mg) (rl : m.root.length = 32) (hk : m.kind < 1 ∨ 10 < m.kind) : Calls Tryz.prog 5 #[.agg m.R.toArray] w (EncPost m w) := by
  have HBC := hide (build_ckm rl)
  have HL : Hid (m.R.length = 49) := Mg.len rl
  have HON := hide m.one
  have HN : Hid (mNo m = (25, 0)) := if_pos hk
  have HR : Hid (mRes m = []) := by show _ = _; unfold mRes; rw [HN.out]; rfl
  have HMF : Hid (∀ W cb, Calls Tryz.prog 12 #[.int .i64 m.kind, .iface 56 (.pointer (some ⟨cb, 0, none⟩))] W fun e w' => e = .returned (.slice none 0 0) ∧ w' = W) := fun W cb => msgT_0 _ m.kind cb hk W
  have HRG : Hid ((w.alloc (.cells m.R.toArray 36)).rangeAt w.heap.size 0 m.R) := by
    refine fun j v hv => ?_
    rw [Nat.zero_add, block_cell (alloc_at _ _) j, List.getElem?_toArray]
    exact hv
  have HX : Hid (∀ W, (w.alloc (.cells m.R.toArray 36)).grownBy W none → W.cell? ⟨w.heap.size, 0, none⟩ = some (.int .i64 m.kind) ∧ Below w.heap.size w W) := fun W g => by
    refine ⟨g.cell (HRG.out 0 (.int .i64 m.kind) rfl) (by simp), (below_alloc1 w _).grown g (by simp) (fun k e => by cases e)⟩
  clear rl hk
  unfold EncPost
  generalize m.R = cs at *
  generalize mRes m = RR at *
  generalize mNo m = NN at *
  generalize m.kind = kk at *
  have HSZ : Hid ((Tryz.prog.info? 36).map (·.size) = some cs.length) := by show _ = _; rw [HL.out]; kernel_rfl
  have HSZ2 : Hid ((Tryz.prog.info? 53).map (·.size) = some (cs ++ ((List.replicate 16 false).map Value.bool ++ (List.replicate 16 (0 : Int)).map (Value.int .i64))).length) := by
    show _ = _
    rw [List.length_append, HL.out]; kernel_rfl
  have HON2 := hide (ckm_one HON.out)
  have HL81 : Hid ((cs ++ ((List.replicate 16 false).map Value.bool ++ (List.replicate 16 (0 : Int)).map (Value.int .i64))).length = 81) := by show _ = _; rw [List.length_append, HL.out]; rfl
  have hsn := slm_nil
  go_enter Tryz.func5, Tryz.ntmps5
  have HSW : Hid ((w.alloc (.cells cs.toArray 36)).heap.size = w.heap.size + 1) := by show _ = _; simp
  go_upto_region 1 with fail
  go_step
  refine wpList_load_mid rfl 36 _ rfl w.heap.size 0 rfl cs _ HRG.out Tryz.underlying36 rfl HSZ.out ?_
  simp only [Act.put, List.setIfInBounds_toArray, List.set_cons_zero, List.set_cons_succ]
  refine wpList_pure rfl (exec_build (t := 53) (parts := #[(0, .tmp 11)]) rfl (by have h := HBC.out; simpa [Act.eval] using h _)) ?_
  simp only [Act.put, List.setIfInBounds_toArray, List.set_cons_zero, List.set_cons_succ]
  iterate 3 go_step
  refine wpList_store_box rfl 53 _ _ rfl (cs ++ ((List.replicate 16 false).map Value.bool ++ (List.replicate 16 (0 : Int)).map (Value.int .i64))) (by rw [HSW.out]; rfl) rfl (by rw [HL81.out]; rfl) HSZ2.out HON2.out ?_
  intro W3 g3 rb3
  have hx0 := (HX.out W3 g3).1
  have HB3 := hide (HX.out W3 g3).2
  clear g3 rb3 HBC HRG HX HON HON2 HSZ2 HSW
  simp only [Act.put]
  go_wp2_with fail
  refine (HMF.out _ _).mono ?_
  rintro e w4 ⟨rfl, hw4⟩
  rw [hw4]
  clear hw4
  go_wp2_with fail
  refine (refusal_any 0 25 _).mono ?_
  rintro e w6 ⟨v, rfl, rfl, hF, hb6⟩
  have HF6 := hide hF
  have HB6 : Hid (Below w.heap.size w w6) := HB3.out.trans (hb6.mono HB3.out.size)
  clear hF hb6
  go_wp2
  go_ret2
  refine ⟨_, _, rfl, by rw [HR.out]; exact Owns.nil _ _, ?_, HB6.out⟩
  rw [HN.out]
  exact .inr ⟨HF6.out, by decide⟩

set_option maxRecDepth 10000 in
set_option maxHeartbeats 3200000 in
theorem encm_good {w : World} (m : Mg) (hx : m.Ok w.heap.size w) (hy : m.Co w.heap.size) (K : Nat) (hk : m.kind = (K : Int)) (hk1 : 1 ≤ K) (hk2 : K ≤ 10) (h0 : 0 < w.heap.size) (hT : ∀ w1 : World, Below w.heap.size w w1 → Table w1) : Calls Tryz.prog 5 #[.agg m.R.toArray] w (EncPost m w) := by
  have HBC := hide (build_ckm hx.rl)
  have HL : Hid (m.R.length = 49) := Mg.len hx.rl
  have HON := hide m.one
  have hkt : m.kind.toNat = K := by omega
  have HN : Hid (mNo m = ((mFb m (mfOf K)).2, (mFb m (mfOf K)).1)) := by show _ = _; unfold mNo; rw [if_neg (by omega), hkt]
  have HFI : Hid (∀ (W : World) (cb lb : Nat), Below w.heap.size w W → w.heap.size ≤ cb → Ck cb m.R U0 Y0 W → W.heap[lb]? = some (.cells ((mfOf K).map fun f => mv f.name (.iface 56 (.pointer (some ⟨cb, 0, none⟩)))).toArray 1 (0, 0)) → lb ≠ cb → Calls Tryz.prog 14 #[.pointer (some ⟨cb, 0, none⟩), .slice (some ⟨lb, 0, none⟩) (mfOf K).length (mfOf K).length] W fun e w' => e = .returned (.tuple #[.int .i64 (mNo m).2, .int .i64 (mNo m).1]) ∧ Hid (Below cb W w')) := fun W cb lb hb hcb hck hl hne => by
    rw [HN.out]
    exact firstm_any (mfOf K) (mfOf_nodup K).2 hck (hx.below hb) hcb hl hne
  have HNW := hide (newFWm_any (Mg.len hx.rl) (build_fwm hx.rl))
  have HML : Hid (∀ (t : TypeId) (p : Nat) (W : World), Calls Tryz.prog 12 #[.int .i64 (K : Int), .iface t (.pointer (some ⟨p, 0, none⟩))] W (MlPostT t (mfOf K) p W)) := fun t p W => msgT_any t K p ⟨hk1, hk2⟩ W
  have HR0 : Hid ((mNo m).1 ≠ 0 → mRes m = []) := fun h => if_neg h
  have HWT : Hid ((mNo m).1 = 0 → (mNo m).2 = 0 ∧ mRes m = frameB K (mBody m) ∧ ∀ (W : World) (base p lb : Nat), Below w.heap.size w W → w.heap.size ≤ base → WrS base W p ⟨true, 0, 0, 65507, [], ⟨93, m.R⟩⟩ → base ≤ W.heap.size → base ≤ p → Box 4 p W lb (.cells ((mfOf K).map fun f => mv f.name (.iface 60 (.pointer (some ⟨p, 0, none⟩)))).toArray 1 (0, 0)) → Calls Tryz.prog 16 #[.pointer (some ⟨p, 0, none⟩), .slice (some ⟨lb, 0, none⟩) (mfOf K).length (mfOf K).length] W fun e w' => ∃ ao n cap, e = .returned (.tuple #[.slice ao n cap, .nilIface]) ∧ Hid (Shows w'.heap.size w' ao n cap (mBody m) ∧ n ≤ 65495 ∧ Below base W w')) := by
    intro hno
    refine ⟨mNo_0 hno, by unfold mRes; rw [if_pos hno, hkt], ?_⟩
    obtain ⟨hpos, hok⟩ := (mNo_iff hx).1 hno
    rw [hkt] at hok
    have hroom := roomm_le hk1 hk2
    obtain ⟨e1, e2⟩ := layAllm_fits hx (mfOf K) ⟨true, 0, 0, 65507, [], ⟨93, m.R⟩⟩ ⟨rfl, rfl⟩ (by simp only [List.length_nil]; omega) hok.ok
    intro W base p lb hb hl hW hbs hp hbox
    have q := writem_any (mfOf K) (mfOf_nodup K).2 hW rfl (fun _ => ⟨Int.le_refl _, by simp⟩) hbs hp ((hx.below hb).wide hl) (hy.wide hl) (wok_any hx hpos hok) hbox (by rw [e1]; exact ⟨rfl, rfl⟩) (by rw [e1])
    rw [e1] at q
    refine q.mono ?_
    rintro e w' ⟨v, rfl, G⟩
    obtain ⟨go, gb⟩ := G.out
    obtain ⟨ao, cap, rfl, hsh, _⟩ := go.form
    refine ⟨ao, _, cap, rfl, ?_, ?_, gb⟩
    · have e : mBody m = [] ++ encs (mfOf K) m.mv := by unfold mBody; rw [hkt]; rfl
      rw [e]
      exact hsh
    · show ([] ++ encs (mfOf K) m.mv).length ≤ 65495
      simp only [List.nil_append]
      omega
  have HFR : Hid (∀ (W : World) (ao : Option Addr) (n cap : Nat), Below w.heap.size w W → Shows W.heap.size W ao n cap (mBody m) → n ≤ 65495 → Calls Tryz.prog 17 #[.int .u8 (K : Int), .slice ao n cap] W fun e w' => ∃ v, e = .returned (.tuple #[v, .nilIface]) ∧ Hid (Owns w.heap.size w' v (frameB K (mBody m)) ∧ Below w.heap.size w w')) := fun W ao n cap hb hs hn => by
    obtain ⟨s1, s2, s3, s4, b, off, s5, s6, s7⟩ := hs
    refine (frame_any K b off ao (mBody m) n cap W s5 s1 hn (by omega) s4 s6 (Nat.lt_of_lt_of_le h0 hb.size) (hT W hb) s7).mono ?_
    rintro e w' ⟨rfl, ho, hb2⟩
    have el := frameB_len K (mBody m)
    refine ⟨_, rfl, ⟨?_, frameB_lt K (mBody m) (by omega) s4, by omega⟩, hb.trans (hb2.mono hb.size)⟩
    rw [el, ← s1]
    exact rowLower ho hb.size
  have HRG : Hid ((w.alloc (.cells m.R.toArray 36)).rangeAt w.heap.size 0 m.R) := by
    refine fun j v hv => ?_
    rw [Nat.zero_add, block_cell (alloc_at _ _) j, List.getElem?_toArray]
    exact hv
  have HX : Hid (∀ W, (w.alloc (.cells m.R.toArray 36)).grownBy W none → En w (w.alloc (.cells m.R.toArray 36)).heap.size m.R W) := fun W g =>
    ⟨(below_alloc1 w _).grown g (by simp) (fun k e => by cases e), fun j v hv => g.cell (HRG.out j v hv) (by simp), by simp, g.size⟩
  have HK0 : Hid (m.R[0]? = some (.int .i64 (K : Int))) := by show _ = _; rw [← hk]; rfl
  have hwr : IntKind.u8.wrap (K : Int) = (K : Int) := IntWalk.u8_in K (by omega)
  clear hx hy h0 hT hkt HN hk
  unfold EncPost
  generalize m.R = cs at *
  generalize mRes m = RR at *
  generalize (mNo m).1 = c at *
  generalize (mNo m).2 = a at *
  generalize frameB K (mBody m) = FB at *
  have HSZ : Hid ((Tryz.prog.info? 36).map (·.size) = some cs.length) := by show _ = _; rw [HL.out]; kernel_rfl
  have HSZ2 : Hid ((Tryz.prog.info? 53).map (·.size) = some (cs ++ ((List.replicate 16 false).map Value.bool ++ (List.replicate 16 (0 : Int)).map (Value.int .i64))).length) := by
    show _ = _
    rw [List.length_append, HL.out]; kernel_rfl
  have HON2 := hide (ckm_one HON.out)
  have HL81 : Hid ((cs ++ ((List.replicate 16 false).map Value.bool ++ (List.replicate 16 (0 : Int)).map (Value.int .i64))).length = 81) := by show _ = _; rw [List.length_append, HL.out]; rfl
  have hsn := slm_nil
  have hss := slm_some
  obtain ⟨cb, hcb⟩ : ∃ cb, w.heap.size + 1 = cb := ⟨_, rfl⟩
  have HCB := hide hcb
  clear hcb
  go_enter Tryz.func5, Tryz.ntmps5
  have HSW : Hid ((w.alloc (.cells cs.toArray 36)).heap.size = w.heap.size + 1) := by show _ = _; simp
  go_upto_region 1 with fail
  go_step
  refine wpList_load_mid rfl 36 _ rfl w.heap.size 0 rfl cs _ HRG.out Tryz.underlying36 rfl HSZ.out ?_
  simp only [Act.put, List.setIfInBounds_toArray, List.set_cons_zero, List.set_cons_succ]
  refine wpList_pure rfl (exec_build (t := 53) (parts := #[(0, .tmp 11)]) rfl (by have h := HBC.out; simpa [Act.eval] using h _)) ?_
  simp only [Act.put, List.setIfInBounds_toArray, List.set_cons_zero, List.set_cons_succ]
  iterate 3 go_step
  refine wpList_store_box rfl 53 _ _ rfl (cs ++ ((List.replicate 16 false).map Value.bool ++ (List.replicate 16 (0 : Int)).map (Value.int .i64))) (by rw [HSW.out]; rfl) rfl (by rw [HL81.out]; rfl) HSZ2.out HON2.out ?_
  intro W3 g3 rb3
  rw [HSW.out, HCB.out] at rb3
  have en3 := HX.out W3 g3
  rw [HSW.out, HCB.out] at en3
  have EN3 := hide en3
  have CK3 := hide (ckm_new HL.out rb3)
  have hx0 := (EN3.out.mb 0 _ HK0.out)
  simp only [Nat.zero_add] at hx0
  have hwc : w.heap.size < cb := EN3.out.lt
  clear g3 rb3 HBC HRG HX HON HON2 HSZ2 HL81 HSW en3
  simp only [Act.put, HCB.out]
  clear HCB
  go_wp2_with fail
  clear hx0
  refine (HML.out _ _ W3).mono ?_
  rintro e w4 ⟨rfl, G4⟩
  obtain ⟨hcl, hb4⟩ := G4.out
  have HCL := hide hcl
  have EN4 := hide (EN3.out.below hb4)
  have CK4 := hide (CK3.out.quiet (below_none hb4))
  have hlb : W3.heap.size ≠ cb := by have := CK3.out.lt; omega
  clear hcl hb4 G4 CK3 EN3
  generalize W3.heap.size = lb at *
  go_wp2_with fail
  refine (HFI.out w4 cb lb EN4.out.bel (by omega) CK4.out HCL.out hlb).mono ?_
  rintro e w5 ⟨rfl, G5⟩
  have EN5 := hide (EN4.out.next G5.out)
  clear G5 EN4 CK4 HCL hlb HFI
  by_cases hc : c = 0
  · obtain ⟨ha, hrr, hwt⟩ := HWT.out hc
    have HWR := hide hwt
    have HRR := hide hrr
    subst hc
    subst ha
    clear hwt hrr HWT HR0
    have MB5 : Hid (w5.rangeAt w.heap.size 0 cs) := EN5.out.mb
    go_wp2_with (first
      | (refine wpList_load_mid rfl 36 _ rfl w.heap.size 0 rfl cs _ MB5.out Tryz.underlying36 rfl HSZ.out ?_))
    refine (HNW.out w5).mono ?_
    rintro e w6 ⟨p, rfl, G6⟩
    obtain ⟨wr6, b6, p6⟩ := G6.out
    have EN6 := hide (EN5.out.below b6)
    have x0 := EN6.out.mb 0 _ HK0.out
    simp only [Nat.zero_add] at x0
    have hbs6 : w5.heap.size ≤ w6.heap.size := b6.size
    have hwb : w.heap.size ≤ w5.heap.size := EN5.out.bel.size
    have hcbs : cb ≤ w5.heap.size := EN5.out.lt3
    have M6 := hide (mach_prog w5.heap.size p p6)
    have WR6 := hide wr6
    have hP6 := hide p6
    clear G6 b6 wr6 MB5 p6
    generalize w5.heap.size = bs at *
    go_wp2_with fail
    refine (HML.out _ _ w6).mono ?_
    rintro e w8 ⟨rfl, G8⟩
    obtain ⟨hcl, hb8⟩ := G8.out
    have BX8 := hide (Box.ofBelow M6.out WR6.out hb8 hcl)
    have WR8 := hide (M6.out.below _ _ _ WR6.out hb8)
    have EN8 := hide (EN6.out.below hb8)
    have hbs8 : bs ≤ w8.heap.size := Nat.le_trans hbs6 hb8.size
    clear hcl hb8 G8 WR6 EN6 x0
    generalize w6.heap.size = lb2 at *
    go_wp2_with fail
    refine (HWR.out w8 bs p lb2 EN8.out.bel hwb WR8.out hbs8 hP6.out BX8.out).mono ?_
    rintro e w9 ⟨ao, n, cap, rfl, G9⟩
    obtain ⟨s9, n9, b9⟩ := G9.out
    have EN9 := hide (EN8.out.next (b9.mono hcbs))
    have x0 := EN9.out.mb 0 _ HK0.out
    simp only [Nat.zero_add] at x0
    have HF9 := hide (HFR.out w9 ao n cap EN9.out.bel s9 n9)
    clear s9 n9 b9 G9 HWR HFR
    go_wp2_with fail
    refine HF9.out.mono ?_
    rintro e w10 ⟨v, rfl, G10⟩
    clear x0
    go_wp2
    go_ret2
    exact ⟨_, _, rfl, by rw [HRR.out]; exact G10.out.1, .inl ⟨rfl, rfl, rfl⟩, G10.out.2⟩
  · have hcb : (c != 0) = true := by simp [hc]
    go_wp2_with fail
    refine (refusal_any a c _).mono ?_
    rintro e w7 ⟨v, rfl, rfl, hF, hb7⟩
    have EN7 := hide (EN5.out.below hb7)
    have HF7 := hide hF
    clear hF hb7
    go_wp2
    go_ret2
    refine ⟨_, _, rfl, ?_, .inr ⟨HF7.out, hc⟩, EN7.out.bel⟩
    rw [HR0.out hc]; exact Owns.nil _ _
/-- EncodeMsg of any message. -/
theorem encm_any {w : World} (m : Mg) (hx : m.Ok w.heap.size w) (hy : m.Co w.heap.size) (h0 : 0 < w.heap.size) (hT : ∀ w1 : World, Below w.heap.size w w1 → Table w1) : Calls Tryz.prog 5 #[.agg m.R.toArray] w (EncPost m w) := by
  by_cases hk : m.kind < 1 ∨ 10 < m.kind
  · exact encm_bad m hx.rl hk
  · exact encm_good m hx hy m.kind.toNat (by omega) (by omega) (by omega) h0 hT
end Go.Proofs.YtldhafpeigdloaaGreatDoor
