import Derived.Test.YtgaalaoflaklgaaGreatM51
import Derived.Test.YtgaalaoflaklgaaGreatM21
import Derived.Test.YtgaalaoflaklgaaGreatQSame
import Derived.Test.YtgaalaoflaklgaaGreatM24
import Derived.Test.YtgaalaoflaklgaaGreatM40
import Derived.Test.YtgaalaoflaklgaaGreatSMayR
import Derived.Test.YtgaalaoflaklgaaGreatRDec
import Derived.Test.YtgaalaoflaklgaaGreatM35
namespace Go.Proofs.YtgaalaoflaklgaaGreat
open Go.RowKit Crc

theorem ck_new {cb : Nat} {cs : List Value} {W : World} (hl : cs.length = 49) (h : W.heap[cb]? = some (.cells (cs ++ ((List.replicate 16 false).map Value.bool ++ (List.replicate 16 (0 : Int)).map (Value.int .i64))).toArray 87 (0, 0))) : Ck cb cs U0 Y0 W := ⟨h, hl, by simp [U0], by simp [Y0]⟩
theorem msg_one (num : Nat) (node : Int) (slot st : Nat) (ro : Option Addr) (n rc : Nat) (do_ : Option Addr) (m dc : Nat) : ∀ v ∈ (msgR num node slot st (.slice ro n rc) (.slice do_ m dc)), v.oneCell' = true := List.all_eq_true.1 rfl
theorem ck_one {cs : List Value} (h : ∀ v ∈ cs, v.oneCell' = true) : ∀ v ∈ cs ++ ((List.replicate 16 false).map Value.bool ++ (List.replicate 16 (0 : Int)).map (Value.int .i64)), v.oneCell' = true := by
  intro v hv
  rcases List.mem_append.1 hv with hv | hv
  · exact h v hv
  · rcases List.mem_append.1 hv with hv | hv
    · obtain ⟨b, _, rfl⟩ := List.mem_map.1 hv; rfl
    · obtain ⟨b, _, rfl⟩ := List.mem_map.1 hv; rfl
set_option maxRecDepth 10000 in
set_option maxHeartbeats 3200000 in
theorem encRec_prog {w : World} (k : Int) (num : Nat) (hnum : num < 18446744073709551616) (node : Int) (slot st : Nat) (hslot : slot < 18446744073709551616) (hst : st < 18446744073709551616) {ro : Option Addr} {rs : List Rq} {b off : Nat} (rc n : Nat) (hn : rs.length = n) (h : Rqs w.heap.size w ro rs b off) (hco : ∀ r ∈ rs, ∀ b off, r.co = some ⟨b, off, none⟩ → b < w.heap.size) {do_ : Option Addr} {m dc : Nat} {D : List Nat} (hd : Shows w.heap.size w do_ m dc D) (hdo : ∀ b off, do_ = some ⟨b, off, none⟩ → b < w.heap.size) :
    Calls Tryz.prog 11 #[.agg #[.int .i64 k, .int .u64 (num : Int), .int .i64 node, .int .u64 (slot : Int), .int .u64 (st : Int), .slice ro n rc, .slice do_ m dc]] w fun e w' => ∃ v x, e = .returned (.tuple #[v, x]) ∧ Hid (Owns w.heap.size w' v (rRes k num node slot st rs m D) ∧ ErrV w' x (rNo k num node slot st rs m).1 (rNo k num node slot st rs m).2 ∧ Below w.heap.size w w') := by
  have HBM := hide (build_msg num node slot st ro n rc do_ m dc)
  have HBC := hide (build_ck num node slot st ro n rc do_ m dc)
  have HL : Hid ((msgR num node slot st (.slice ro n rc) (.slice do_ m dc)).length = 49) := msgR_len _ _ _ _ _ _
  have HON := hide (msg_one num node slot st ro n rc do_ m dc)
  have HFI : Hid (∀ (W : World) (cb lb : Nat), fsOf k ≠ [] → Below w.heap.size w W → w.heap.size ≤ cb → Ck cb (msgR num node slot st (.slice ro n rc) (.slice do_ m dc)) U0 Y0 W → W.heap[lb]? = some (.cells ((fsOf k).map fun f => mv f.name (.iface 90 (.pointer (some ⟨cb, 0, none⟩)))).toArray 1 (0, 0)) → lb ≠ cb → Calls Tryz.prog 32 #[.pointer (some ⟨cb, 0, none⟩), .slice (some ⟨lb, 0, none⟩) (fsOf k).length (fsOf k).length] W fun e w' => ∃ x : Int, e = .returned (.tuple #[.int .i64 x, .int .i64 (rNo k num node slot st rs m).1]) ∧ Hid (((rNo k num node slot st rs m).1 ≠ 0 → plc x = (rNo k num node slot st rs m).2) ∧ Below cb W w')) := fun W cb lb hf hb hcb hck hl hne => by
    refine (first_any (fsOf k) (fsOf_len k) hck ((h.below hb)) hcb hn hl hne (blank_any _ _ _ _ _ _ _ _ _ _)).mono ?_
    rintro e w' ⟨⟨b1, b2, b5, b10, h1, h2, h5, h10, rfl⟩, hb2⟩
    obtain ⟨e1, e2⟩ := first_no (m := m) hf hn h1 h2 h5 h10
    refine ⟨_, by rw [e1], e2, hb2.out⟩
  have HNW := hide (newFW_any num node slot st ro n rc do_ m dc)
  have HK0 : Hid (fsOf k = [] → (rNo k num node slot st rs m).1 = 25 ∧ (rNo k num node slot st rs m).2 = 0) := fun h => by rw [rNo_kind h]; exact ⟨rfl, rfl⟩
  have HR0 : Hid ((rNo k num node slot st rs m).1 ≠ 0 → rRes k num node slot st rs m D = []) := fun h => if_neg h
  have HOK : Hid ((rNo k num node slot st rs m).1 = 0 → RecOk k num node slot st rs m ∧ (rNo k num node slot st rs m).2 = 0 ∧ rRes k num node slot st rs m D = encRec k.toNat num node.toNat slot st rs m D) := fun h => ⟨(rNo_ok h).1, (rNo_ok h).2, if_pos h⟩
  have HWX : Hid (∀ (W : World) (base : Nat), Below w.heap.size w W → w.heap.size ≤ base → Wx base num slot st ro rs b off n do_ m dc D W) := fun W base hb hl => ⟨hnum, hslot, hst, (h.below hb).wide hl, hn, fun r hr b off e => Nat.lt_of_lt_of_le (hco r hr b off e) hl, (hd.belowL hb).wide hl, fun b off e => Nat.lt_of_lt_of_le (hdo b off e) hl⟩
  have HWT : Hid (∀ (W : World) (base p lb : Nat) (s : WS), RecOk k num node slot st rs m → s.K.R = (msgR num node slot st (.slice ro n rc) (.slice do_ m dc)) → s.made = true → s.why = 0 → s.place = 0 → s.most = 65507 → s.L = [] → WrS base W p (s.put (big k.toNat 1) 0) → base ≤ W.heap.size → base ≤ p → Wx base num slot st ro rs b off n do_ m dc D W → Box 4 p W lb (.cells ((fsOf k).map fun f => mv f.name (.iface 93 (.pointer (some ⟨p, 0, none⟩)))).toArray 1 (0, 0)) → Calls Tryz.prog 36 #[.pointer (some ⟨p, 0, none⟩), .slice (some ⟨lb, 0, none⟩) (fsOf k).length (fsOf k).length] W fun e w' => ∃ v, e = .returned (.tuple #[v, .nilIface]) ∧ Hid (Owns base w' v (encRec k.toNat num node.toNat slot st rs m D) ∧ Below base W w')) := by
    intro W base p lb s ok hK h1 h2 hpl h3 h4 hW hbs hp hx hbox
    have e := layRec_ok (D := D) ok (fun r hr => (h.ok r hr).hC.1) hd.1 h1 h2 h3 h4
    have hinv : s.Inv := fun _ => ⟨by rw [h3]; decide, by rw [h4, h3]; decide⟩
    have hwk : ∀ f ∈ fsOf k, f.wok node node.toNat rs := by
      intro f hf
      have hfit := ok.fit (D := D) (fun r hr => (h.ok r hr).hC.1) hd.1 f hf
      cases f with
      | ballot =>
        have hk3 : k ≤ 3 := by
          unfold fsOf at hf
          split at hf
          · rename_i hh; omega
          · split at hf
            · omega
            · split at hf
              · simp at hf
              · split at hf <;> simp at hf
        have hb := ok.bal hk3
        unfold balBad at hb
        exact ⟨by omega, by omega⟩
      | slot => trivial
      | snap => trivial
      | batch => exact ⟨hfit.1, fun r hr => (hfit.2 r hr).1⟩
    have hw := write_any (nd := node.toNat) (fsOf k) (fsOf_len k) hW (by rw [put_K]; exact hK) (WS.put_inv hinv _ _) hbs hp hx hwk hbox (by rw [e]; exact ⟨h1, h2⟩) (by rw [e]; exact hpl)
    rw [e] at hw
    exact hw
  have HFL : Hid (fsOf k ≠ [] → 1 ≤ k ∧ k ≤ 5) := fun hf => by
    have : ¬ (k < 1 ∨ 5 < k) := fun e => hf (fsOf_nil.2 e)
    omega
  clear h hco hd hdo hnum hslot hst hn
  generalize (msgR num node slot st (.slice ro n rc) (.slice do_ m dc)) = cs at *
  generalize (rNo k num node slot st rs m).1 = c at *
  generalize (rNo k num node slot st rs m).2 = a at *
  generalize rRes k num node slot st rs m D = RR at *
  have HSZ : Hid ((Tryz.prog.info? 83).map (·.size) = some cs.length) := by show _ = _; rw [HL.out]; kernel_rfl
  have HSZ2 : Hid ((Tryz.prog.info? 87).map (·.size) = some (cs ++ ((List.replicate 16 false).map Value.bool ++ (List.replicate 16 (0 : Int)).map (Value.int .i64))).length) := by
    show _ = _
    rw [List.length_append, HL.out]; kernel_rfl
  have HON2 := hide (ck_one HON.out)
  have HL81 : Hid ((cs ++ ((List.replicate 16 false).map Value.bool ++ (List.replicate 16 (0 : Int)).map (Value.int .i64))).length = 81) := by show _ = _; rw [List.length_append, HL.out]; rfl
  obtain ⟨W1, hW1⟩ : ∃ W1, w.alloc (.cells #[.int .i64 k, .int .u64 (num : Int), .int .i64 node, .int .u64 (slot : Int), .int .u64 (st : Int), .slice ro n rc, .slice do_ m dc] 31) = W1 := ⟨_, rfl⟩
  have q1 : W1.heap[w.heap.size]? = some (.cells #[.int .i64 k, .int .u64 (num : Int), .int .i64 node, .int .u64 (slot : Int), .int .u64 (st : Int), .slice ro n rc, .slice do_ m dc] 31 (0, 0)) := by rw [← hW1]; exact alloc_at _ _
  have Q1 := hide q1
  have B1 : Hid (Below w.heap.size w W1) := by show Below _ _ _; rw [← hW1]; exact below_alloc1 w _
  have x1 := block_cell q1 1
  have x2 := block_cell q1 2
  have x3 := block_cell q1 3
  have x4 := block_cell q1 4
  have x5 := block_cell q1 5
  have x6 := block_cell q1 6
  simp at x1 x2 x3 x4 x5 x6
  have hl1 := block_lt q1
  have E1 : Hid (w.heap.size + 1 = W1.heap.size) := by show _ = _; rw [← hW1]; simp
  have HW1 := hide hW1
  clear hW1 q1
  go_enter Tryz.func11, Tryz.ntmps11
  iterate 41 go_step
  refine wpList_pure rfl (exec_build (t := 83) (parts := #[(1, .tmp 11), (2, .tmp 13), (5, .tmp 15), (10, .tmp 17)]) rfl (by have h := HBM.out; simpa [Act.eval] using h _)) ?_
  simp only [Act.put, List.setIfInBounds_toArray, List.set_cons_zero, List.set_cons_succ]
  iterate 3 go_step
  rw [HW1.out, E1.out]
  refine wpList_store_new rfl 83 _ _ rfl cs rfl rfl (by rw [HL.out]; decide) HSZ.out HON.out ?_
  intro W2 g2 rg2 hs2
  have hb2 : w.heap.size < W1.heap.size := by have := E1.out; omega
  have EP2 : Hid (Below w.heap.size w W2 ∧ W2.heap[w.heap.size]? = some (.cells #[.int .i64 k, .int .u64 (num : Int), .int .i64 node, .int .u64 (slot : Int), .int .u64 (st : Int), .slice ro n rc, .slice do_ m dc] 31 (0, 0))) := ⟨B1.out.grown g2 B1.out.size (fun k e => by cases e), (g2.block _ (block_lt Q1.out) (by simp)).trans Q1.out⟩
  have RG2 := hide rg2
  clear x1 x2 x3 x4 x5 x6 hl1 g2 rg2 HW1 Q1 B1 E1 HBM
  generalize W1.heap.size = bm at *
  simp only [Act.put]
  iterate 5 go_step
  refine wpList_load_mid rfl 83 _ rfl bm 0 rfl cs _ RG2.out Tryz.underlying83 rfl HSZ.out ?_
  simp only [Act.put, List.setIfInBounds_toArray, List.set_cons_zero, List.set_cons_succ]
  refine wpList_pure rfl (exec_build (t := 87) (parts := #[(0, .tmp 19)]) rfl (by have h := HBC.out; simpa [Act.eval] using h _)) ?_
  simp only [Act.put, List.setIfInBounds_toArray, List.set_cons_zero, List.set_cons_succ]
  iterate 3 go_step
  refine wpList_store_box rfl 87 _ _ rfl (cs ++ ((List.replicate 16 false).map Value.bool ++ (List.replicate 16 (0 : Int)).map (Value.int .i64))) rfl rfl (by rw [HL81.out]; rfl) HSZ2.out HON2.out ?_
  intro W3 g3 rb3
  have ES3 : Hid (Es w #[.int .i64 k, .int .u64 (num : Int), .int .i64 node, .int .u64 (slot : Int), .int .u64 (st : Int), .slice ro n rc, .slice do_ m dc] bm W2.heap.size cs W3) := ⟨EP2.out.1.grown g3 EP2.out.1.size (fun k e => by cases e), (g3.block _ (block_lt EP2.out.2) (by simp)).trans EP2.out.2, fun j v hv => g3.cell (RG2.out j v hv) (by simp), hb2, hs2, g3.size⟩
  have CK3 := hide (ck_new HL.out rb3)
  clear g3 rb3 EP2 RG2 HBC HSZ2 HON2 HL81
  have hwc : w.heap.size < W2.heap.size := by omega
  generalize W2.heap.size = cb at *
  simp only [Act.put]
  have x0 : W3.cell? ⟨w.heap.size, 0, none⟩ = some (.int .i64 k) := (block_cell ES3.out.rb 0).trans rfl
  go_wp2_with fail
  clear x0
  have hsn := sl_nil
  have hss := sl_some
  refine (recF_any k _ _ W3).mono ?_
  rintro e w4 (⟨hf, rfl, rfl⟩ | ⟨hf, rfl, G4⟩)
  · obtain ⟨z1, z2⟩ := HK0.out hf
    have HZ := hide (And.intro z1 z2)
    clear z1 z2 hf
    go_wp2_with fail
    refine (refusal_any 0 25 _).mono ?_
    rintro e w6 ⟨v, rfl, rfl, hF, hb6⟩
    have ES6 := hide (ES3.out.below hb6)
    have HF6 := hide hF
    clear hF hb6
    go_wp2
    go_ret2
    refine ⟨_, _, rfl, ?_, ?_, ES6.out.bel⟩
    · rw [HR0.out (by rw [HZ.out.1]; decide)]; exact Owns.nil _ _
    · rw [HZ.out.1, HZ.out.2]; exact .inr ⟨HF6.out, by decide⟩
  · have HFF := hide hf
    obtain ⟨hcl, hb4⟩ := G4.out
    have HCL := hide hcl
    have ES4 := hide (ES3.out.below hb4)
    have CK4 := hide (CK3.out.quiet (below_none hb4))
    have hlb : W3.heap.size ≠ cb := by have := CK3.out.lt; omega
    clear hf hcl hb4 G4 CK3 ES3
    generalize W3.heap.size = lb at *
    go_wp2_with fail
    refine (HFI.out w4 cb lb HFF.out ES4.out.bel (by omega) CK4.out HCL.out hlb).mono ?_
    rintro e w5 ⟨x, rfl, G5⟩
    have ES5 := hide (ES4.out.next G5.out.2)
    have HPL := hide G5.out.1
    clear G5 ES4 CK4 HCL hlb
    by_cases hc : c = 0
    · obtain ⟨ok, ha, hrr⟩ := HOK.out hc
      have OK := hide ok
      have HRR := hide hrr
      subst hc
      subst ha
      clear ok hrr
      obtain ⟨hk1, hk5⟩ := HFL.out HFF.out
      have MB5 : Hid (w5.rangeAt bm 0 cs) := ES5.out.mb
      go_wp2_with (first
        | (refine wpList_load_mid rfl 83 _ rfl bm 0 rfl cs _ MB5.out Tryz.underlying83 rfl HSZ.out ?_))
      refine (HNW.out w5).mono ?_
      rintro e w6 ⟨p, rfl, G6⟩
      obtain ⟨wr6, b6, p6⟩ := G6.out
      have ES6 := hide (ES5.out.below b6)
      have x0 : w6.cell? ⟨w.heap.size, 0, none⟩ = some (.int .i64 k) := (block_cell ES6.out.rb 0).trans rfl
      have hbs6 : w5.heap.size ≤ w6.heap.size := b6.size
      have hwb : w.heap.size ≤ w5.heap.size := ES5.out.bel.size
      have hcbs : cb ≤ w5.heap.size := ES5.out.lt3
      have hwr : IntKind.u8.wrap k = k := IntWalk.u8_in k (by omega)
      have HU8 : Hid (Calls Tryz.prog 35 #[.pointer (some ⟨p, 0, none⟩), .int .u8 (IntKind.u8.wrap k)] w6.drew fun e w' => e = .returned (.tuple #[]) ∧ Hid (WrS w5.heap.size w' p (WS.put ⟨true, 0, 0, 65507, [], ⟨99, cs⟩⟩ (big k.toNat 1) 0) ∧ Tch 4 w6 w' p)) := by
        refine (wU8P (.inr ⟨p, rfl, wr6.drew⟩) (fun _ => ⟨Int.le_refl _, by simp⟩) hbs6 k.toNat (IntKind.u8.wrap k) (by rw [hwr]; omega) (by omega)).mono (fun _ _ h => ⟨h.1, ?_⟩)
        obtain ⟨h1, h2⟩ := of_wrP h.2.out
        exact ⟨h1, tch_drew h2⟩
      have M6 := hide (mach_prog w5.heap.size p p6)
      have WR6 := hide wr6
      clear G6 b6 wr6 MB5 hwr
      have hP6 := hide p6
      clear p6
      generalize w5.heap.size = bs at *
      go_wp2_with fail
      go_region_with (go_at_call 35; refine HU8.out.mono ?_; rintro e w7 ⟨rfl, G7⟩)
      have WR7 := hide G7.out.1
      have hb7 := M6.out.belowOf WR6.out hbs6 G7.out.2
      have ES7 := hide (ES6.out.next (hb7.mono hcbs))
      have hbs7 : bs ≤ w7.heap.size := Nat.le_trans hbs6 hb7.size
      have x0 : w7.cell? ⟨w.heap.size, 0, none⟩ = some (.int .i64 k) := (block_cell ES7.out.rb 0).trans rfl
      clear G7 hb7 HU8 ES6 WR6
      go_wp2_with fail
      clear x0
      refine (recF_any k _ _ w7).mono ?_
      rintro e w8 (⟨hf, rfl, rfl⟩ | ⟨hf, rfl, G8⟩)
      · exact absurd hf HFF.out
      · obtain ⟨hcl, hb8⟩ := G8.out
        have BX8 := hide (Box.ofBelow M6.out WR7.out hb8 hcl)
        have WR8 := hide (M6.out.below _ _ _ WR7.out hb8)
        have ES8 := hide (ES7.out.below hb8)
        have hbs8 : bs ≤ w8.heap.size := Nat.le_trans hbs7 hb8.size
        have HX8 := hide (HWX.out w8 bs ES8.out.bel hwb)
        clear hf hcl hb8 G8 WR7 ES7
        generalize w7.heap.size = lb2 at *
        go_wp2_with fail
        refine (HWT.out w8 bs p lb2 ⟨true, 0, 0, 65507, [], ⟨99, cs⟩⟩ OK.out rfl rfl rfl rfl rfl rfl WR8.out hbs8 hP6.out HX8.out BX8.out).mono ?_
        rintro e w9 ⟨v, rfl, G9⟩
        go_wp2
        go_ret2
        exact ⟨_, _, rfl, by rw [HRR.out]; exact G9.out.1.low hwb, .inl ⟨rfl, rfl, rfl⟩, ES8.out.bel.trans (G9.out.2.mono hwb)⟩
    · have hcb : (c != 0) = true := by simp [hc]
      go_wp2_with fail
      refine (place_any x w5).mono ?_
      rintro e w6 ⟨rfl, rfl⟩
      have hpx := HPL.out hc
      rw [hpx]
      clear hpx
      go_wp2_with fail
      refine (refusal_any a c _).mono ?_
      rintro e w7 ⟨v, rfl, rfl, hF, hb7⟩
      have ES7 := hide (ES5.out.below hb7)
      have HF7 := hide hF
      clear hF hb7
      go_wp2
      go_ret2
      refine ⟨_, _, rfl, ?_, .inr ⟨HF7.out, hc⟩, ES7.out.bel⟩
      rw [HR0.out hc]; exact Owns.nil _ _

end Go.Proofs.YtgaalaoflaklgaaGreat
namespace Go.Proofs.YtgaalaoflaklgaaGreat
open Go.RowKit Crc

theorem enc_len : ∀ (rs : List Rq), (∀ r ∈ rs, r.cn ≤ 700 ∧ r.cn = r.C.length) → (rs.map encR).flatten.length ≤ 730 * rs.length
  | [], _ => by simp
  | r :: t, h => by
    have ih := enc_len t (fun x hx => h x (by simp [hx]))
    obtain ⟨h1, h2⟩ := h r (by simp)
    have l1 := numTo_len 9 r.cl
    have l2 := numTo_len 9 r.sq
    have l3 := numTo_len 9 r.cn
    simp only [List.map_cons, List.flatten_cons, List.length_append, encR, List.length_cons, numB] at ih ⊢
    omega
theorem bRes_len {stamp : Nat} {rs : List Rq} (h : ∀ r ∈ rs, r.cn = r.C.length) : (bRes stamp rs).length ≤ 10000 := by
  unfold bRes
  split
  · rename_i hf
    obtain ⟨h1, h2, h3⟩ := bFault_ok hf
    have h4 := enc_len rs (fun r hr => ⟨(h3 r hr).2, h r hr⟩)
    have l1 := numTo_len 9 stamp
    have l2 := numTo_len 9 rs.length
    simp only [encL, List.length_append, numB]
    omega
  · simp
theorem same_enc : ∀ (rs1 rs2 : List Rq), rs1.map Rq.val = rs2.map Rq.val → (∀ r ∈ rs1, r.cn = r.C.length) → (∀ r ∈ rs2, r.cn = r.C.length) → (∀ i, bGo rs1 i = bGo rs2 i) ∧ rs1.map encR = rs2.map encR
  | [], [], _, _, _ => ⟨fun _ => rfl, rfl⟩
  | [], b :: t, h, _, _ => by simp at h
  | a :: t, [], h, _, _ => by simp at h
  | a :: t1, b :: t2, h, h1, h2 => by
    simp only [List.map_cons, List.cons.injEq, Rq.val, Prod.mk.injEq] at h
    obtain ⟨⟨e1, e2, e3⟩, e4⟩ := h
    have ih := same_enc t1 t2 (by simpa [Rq.val] using e4) (fun r hr => h1 r (by simp [hr])) (fun r hr => h2 r (by simp [hr]))
    have c1 : a.cn = b.cn := by rw [h1 a (by simp), h2 b (by simp), e3]
    have w1 : a.why = b.why := by unfold Rq.why; rw [e1, c1]
    refine ⟨fun i => ?_, ?_⟩
    · rw [bGo, bGo, w1, ih.1]
    · simp only [List.map_cons, ih.2, encR, e1, e2, e3, c1]
theorem same_res {stamp : Nat} {rs1 rs2 : List Rq} (h : rs1.map Rq.val = rs2.map Rq.val) (h1 : ∀ r ∈ rs1, r.cn = r.C.length) (h2 : ∀ r ∈ rs2, r.cn = r.C.length) : bFault stamp rs1 = bFault stamp rs2 ∧ bRes stamp rs1 = bRes stamp rs2 := by
  obtain ⟨e1, e2⟩ := same_enc rs1 rs2 h h1 h2
  have e3 : rs1.length = rs2.length := by have := congrArg List.length h; simpa using this
  have e4 : bFault stamp rs1 = bFault stamp rs2 := by unfold bFault; rw [e1, e3]
  refine ⟨e4, ?_⟩
  unfold bRes encL
  rw [e4, e2, e3]
theorem Rqs.cn {lim : Nat} {w : World} {ro : Option Addr} {rs : List Rq} {b off : Nat} (h : Rqs lim w ro rs b off) : ∀ r ∈ rs, r.cn = r.C.length := fun r hr => (h.ok r hr).hC.1
end Go.Proofs.YtgaalaoflaklgaaGreat
namespace Go.Proofs.YtgaalaoflaklgaaGreat
open Go.RowKit Crc

theorem same_recS {k : Int} {num : Nat} {node : Int} {slot st : Nat} {rs1 rs2 : List Rq} {m : Nat} {D : List Nat} (h : rs1.map Rq.val = rs2.map Rq.val) (h1 : ∀ r ∈ rs1, r.cn = r.C.length) (h2 : ∀ r ∈ rs2, r.cn = r.C.length) : rNo k num node slot st rs1 m = rNo k num node slot st rs2 m ∧ rRes k num node slot st rs1 m D = rRes k num node slot st rs2 m D := by
  obtain ⟨e1, e2⟩ := same_enc rs1 rs2 h h1 h2
  have e3 : rs1.length = rs2.length := by have := congrArg List.length h; simpa using this
  have e4 : bFault st rs1 = bFault st rs2 := by unfold bFault; rw [e1, e3]
  have e5 : rC3 k st rs1 = rC3 k st rs2 := by unfold rC3; rw [e4, e3]
  have e6 : rNo k num node slot st rs1 m = rNo k num node slot st rs2 m := by unfold rNo; rw [e5]
  refine ⟨e6, ?_⟩
  unfold rRes
  rw [e6]
  have e7 : encL st rs1 = encL st rs2 := by unfold encL; rw [e2, e3]
  have e8 : ∀ f : Fd, f.enc num node.toNat slot st rs1 m D = f.enc num node.toNat slot st rs2 m D := fun f => by
    cases f with
    | batch => exact e7
    | ballot => rfl
    | slot => rfl
    | snap => rfl
  have e9 : encRec k.toNat num node.toNat slot st rs1 m D = encRec k.toNat num node.toNat slot st rs2 m D := by
    unfold encRec encAll
    rw [show Fd.enc num node.toNat slot st rs1 m D = Fd.enc num node.toNat slot st rs2 m D from funext e8]
  rw [e9]
end Go.Proofs.YtgaalaoflaklgaaGreat
namespace Go.Proofs.YtgaalaoflaklgaaGreat
open Go.RowKit Crc

/-- The lent copy of a batch. -/
theorem ap_copyB {W : World} (st : Nat) {ro : Option Addr} {rs : List Rq} {b off : Nat} (rc n : Nat) (hn : rs.length = n) (h : Rqs W.heap.size W ro rs b off) :
    Calls Tryz.prog 6 #[.agg #[.int .u64 (st : Int), .slice ro n rc]] W fun e w' => ∃ co cc, e = .returned (.agg #[.int .u64 (st : Int), .slice co n cc]) ∧ Hid (∃ rs1 b1, rs1.length = n ∧ Rqs w'.heap.size w' co rs1 b1 0 ∧ rs1.map Rq.val = rs.map Rq.val ∧ (∀ r ∈ rs1, ∀ b off, r.co = some ⟨b, off, none⟩ → b < w'.heap.size) ∧ Below W.heap.size W w') := by
  have h1 := copyBatch_any st rc h
  rw [hn] at h1
  refine h1.mono ?_
  rintro e w' ⟨v, rs1, rfl, H⟩
  obtain ⟨h1, h2, h3, h4, h5⟩ := H.out
  obtain ⟨co, cc, b1, rfl, hr⟩ := h1.form
  have e1 : rs1.length = n := by have := congrArg List.length h2; simp at this; omega
  rw [e1]
  exact ⟨co, cc, rfl, rs1, b1, e1, hr, h2, h4, h5⟩
/-- Encoding of a batch with these values. -/
theorem ap_encB {W : World} (st : Nat) (hst : st < 18446744073709551616) {rs : List Rq} (hs : ∀ r ∈ rs, r.cn = r.C.length) {co : Option Addr} {cc n b1 : Nat} {rs1 : List Rq} (e1 : rs1.length = n) (h1 : Rqs W.heap.size W co rs1 b1 0) (h2 : rs1.map Rq.val = rs.map Rq.val) (h3 : ∀ r ∈ rs1, ∀ b off, r.co = some ⟨b, off, none⟩ → b < W.heap.size) :
    Calls Tryz.prog 5 #[.agg #[.int .u64 (st : Int), .slice co n cc]] W fun e w' => ∃ fo fc x, e = .returned (.tuple #[.slice fo (bRes st rs).length fc, x]) ∧ Hid (Shows w'.heap.size w' fo (bRes st rs).length fc (bRes st rs) ∧ ErrV w' x (bFault st rs).2 (bFault st rs).1 ∧ Below W.heap.size W w') := by
  have h := encBatch_prog st hst cc h1 h3
  obtain ⟨f1, f2⟩ := same_res (stamp := st) h2 h1.cn hs
  rw [e1, f1, f2] at h
  refine h.mono ?_
  rintro e w' ⟨v, x, rfl, H⟩
  obtain ⟨fo, fc, rfl, hs, _⟩ := H.out.1.form
  exact ⟨fo, fc, x, rfl, hs, H.out.2.1, H.out.2.2⟩
theorem free_lt {base : Nat} {w : World} {rs : List Rq} (h : FreeRs base w rs) : ∀ r ∈ rs, ∀ b off, r.co = some ⟨b, off, none⟩ → b < w.heap.size := by
  intro r hr b off e
  obtain ⟨ao, cap, e2, hs, h3⟩ := (h.own r hr).form
  unfold Rq.sl at e2
  have e4 : r.co = ao := by injection e2
  rw [e4] at e
  rcases h3 with ⟨e3, _⟩ | ⟨g, e3, _, h4⟩
  · rw [e3] at e; cases e
  · rw [e3] at e; cases e; exact h4
/-- A batch that is read. -/
theorem ap_decB {W : World} {ao : Option Addr} {n cap : Nat} {B : List Nat} (h : Shows W.heap.size W ao n cap B) :
    Calls Tryz.prog 8 #[.slice ao n cap] W fun e w' => ∃ (st : Nat) (vo : Option Addr) (m vc : Nat) (x : Value), e = .returned (.tuple #[.agg #[.int .u64 (st : Int), .slice vo m vc], x]) ∧ Hid (∃ rs1 b1, rs1.length = m ∧ Rqs w'.heap.size w' vo rs1 b1 0 ∧ (∀ r ∈ rs1, ∀ b off, r.co = some ⟨b, off, none⟩ → b < w'.heap.size) ∧ ErrV w' x (bEnd (RS1 B)).endC (bEnd (RS1 B)).endA ∧ ((bEnd (RS1 B)).endC = 0 → st = (numAt (RS1 B).rest).1 ∧ rs1.map Rq.val = bVals (RS1 B)) ∧ Below W.heap.size W w') := by
  refine (decBatch_prog h (Nat.le_refl _)).mono ?_
  rintro e w' ⟨st, v, x, rs1, rfl, H⟩
  obtain ⟨h1, h2, h3, h4, h5⟩ := H.out
  obtain ⟨vo, vc, b1, rfl, hr⟩ := h3.form
  exact ⟨st, vo, _, vc, x, rfl, rs1, b1, rfl, hr, free_lt h4, h1, fun h0 => by rw [if_pos h0] at h5; exact h5, h2⟩
/-- The lent copy of a record, laid down. -/
theorem ap_encR {V0 W : World} (k : Int) (num : Nat) (hnum : num < 18446744073709551616) (node : Int) (slot st : Nat) (hslot : slot < 18446744073709551616) (hst : st < 18446744073709551616) {rs rs1 : List Rq} (hs : ∀ r ∈ rs, r.cn = r.C.length) {co : Option Addr} {cc n g m : Nat} {D : List Nat} (hm : m ≤ 140737488351232) (hD : ∀ x ∈ D, x < 256) (hl : Rl1 V0 n co cc rs rs1 W) (hg : Lent W g m D) :
    Calls Tryz.prog 11 #[.agg #[.int .i64 k, .int .u64 (num : Int), .int .i64 node, .int .u64 (slot : Int), .int .u64 (st : Int), .slice co n cc, .slice (some ⟨g, 0, none⟩) m (m + 4)]] W fun e w' => ∃ fo fc x, e = .returned (.tuple #[.slice fo (rRes k num node slot st rs m D).length fc, x]) ∧ Hid (Shows w'.heap.size w' fo (rRes k num node slot st rs m D).length fc (rRes k num node slot st rs m D) ∧ ErrV w' x (rNo k num node slot st rs m).1 (rNo k num node slot st rs m).2 ∧ Below W.heap.size W w') := by
  obtain ⟨ao, cap, b1, e1, hr⟩ := hl.own.form
  rw [hl.len] at e1
  cases e1
  obtain ⟨o1, o2⟩ := hl.lent.ok hl.num
  have hgl : g < W.heap.size := by
    obtain ⟨cur, hg2, _⟩ := own_block hg.2
    exact block_lt hg2
  have h1 := encRec_prog k num hnum node slot st hslot hst cc n hl.len hr o2 (hg.shows hD (by omega)) (fun b off e => by cases e; exact hgl)
  obtain ⟨f1, f2⟩ := same_recS (k := k) (num := num) (node := node) (slot := slot) (st := st) (m := m) (D := D) hl.val hr.cn hs
  rw [f1, f2] at h1
  refine h1.mono ?_
  rintro e w' ⟨v, x, rfl, H⟩
  obtain ⟨fo, fc, rfl, hs, _⟩ := H.out.1.form
  exact ⟨fo, fc, x, rfl, hs, H.out.2.1, H.out.2.2⟩
/-- A record that is read. -/
structure Rd1 (W : World) (B : List Nat) (num node slot st : Nat) (vo : Option Addr) (m : Nat) (d0 : Option Addr) (dm dc : Nat) (x : Value) (w' : World) (rs1 : List Rq) (b1 : Nat) (D1 : List Nat) : Prop where
  len : rs1.length = m
  rq : Rqs w'.heap.size w' vo rs1 b1 0
  co : ∀ r ∈ rs1, ∀ b off, r.co = some ⟨b, off, none⟩ → b < w'.heap.size
  sh : Shows w'.heap.size w' d0 dm dc D1
  do_ : ∀ b off, d0 = some ⟨b, off, none⟩ → b < w'.heap.size
  er : ErrV w' x (recC B) (recA B)
  rv : (⟨num, node, slot, st, rs1.map Rq.val, D1⟩ : Rv) = recV B
  bel : Below W.heap.size W w'
theorem ap_decR {W : World} {ao : Option Addr} {n cap : Nat} {B : List Nat} (h : Shows W.heap.size W ao n cap B) :
    Calls Tryz.prog 13 #[.slice ao n cap] W fun e w' => ∃ (num node slot st : Nat) (vo : Option Addr) (m vc : Nat) (d0 : Option Addr) (dm dc : Nat) (x : Value), e = .returned (.tuple #[.agg #[.int .i64 (recK B : Int), .int .u64 (num : Int), .int .i64 (node : Int), .int .u64 (slot : Int), .int .u64 (st : Int), .slice vo m vc, .slice d0 dm dc], x]) ∧ Hid (∃ rs1 b1 D1, Rd1 W B num node slot st vo m d0 dm dc x w' rs1 b1 D1) := by
  refine (decRec_prog h (Nat.le_refl _)).mono ?_
  rintro e w' ⟨c, x, rfl, H⟩
  obtain ⟨h1, h2, h3, h4, h5, _, h7⟩ := H.out
  obtain ⟨num, node, slot, st, bv, rs, dv, D⟩ := c
  dsimp only at h3 h4 h5
  obtain ⟨vo, vc, b1, hbv, hr⟩ := h3.form
  obtain ⟨d0, dc, hdv, hs, h8⟩ := h5.form
  subst hbv hdv
  refine ⟨num, node, slot, st, vo, _, vc, d0, _, dc, x, rfl, rs, b1, D, rfl, hr, free_lt h4, hs, ?_, h1, h7, h2⟩
  intro b off e
  rcases h8 with ⟨e3, _⟩ | ⟨g, e3, _, h4⟩
  · rw [e3] at e; cases e
  · rw [e3] at e; cases e; exact h4
theorem nil_eq (w : World) : (binOp BinOp.eql 33 .nilIface .nilIface).run Tryz.prog w = .ok (.bool true) w := by kernel_rfl
theorem fault_eq (g : Nat) (w : World) : (binOp BinOp.eql 33 (.iface 117 (.pointer (some ⟨g, 0, none⟩))) .nilIface).run Tryz.prog w = .ok (.bool false) w := by kernel_rfl
theorem nil_ne (w : World) : (binOp BinOp.neq 33 .nilIface .nilIface).run Tryz.prog w = .ok (.bool false) w := by kernel_rfl
theorem fault_ne (g : Nat) (w : World) : (binOp BinOp.neq 33 (.iface 117 (.pointer (some ⟨g, 0, none⟩))) .nilIface).run Tryz.prog w = .ok (.bool true) w := by kernel_rfl
theorem errV_eq {w : World} {x : Value} {c a : Int} (h : ErrV w x c a) : ∃ bb : Bool, (bb = true ↔ c = 0) ∧ (∀ w', (binOp BinOp.eql 33 x .nilIface).run Tryz.prog w' = .ok (.bool bb) w') ∧ (∀ w', (binOp BinOp.neq 33 x .nilIface).run Tryz.prog w' = .ok (.bool !bb) w') := by
  by_cases hc : c = 0
  · rw [hc] at h
    rw [errV_none h]
    exact ⟨true, by simp [hc], nil_eq, nil_ne⟩
  · obtain ⟨g, rfl⟩ := errV_some h hc
    exact ⟨false, by simp [hc], fault_eq g, fault_ne g⟩
/-- Two batches of one value, a few steps later. -/
theorem same_at {W7 W8 : World} (hb : Below W7.heap.size W7 W8) (st : Nat) {ro1 ro2 : Option Addr} {rs1 rs2 : List Rq} {b1 off1 b2 off2 : Nat} (rc1 rc2 n : Nat) (h1 : Rqs W7.heap.size W7 ro1 rs1 b1 off1) (h2 : Rqs W7.heap.size W7 ro2 rs2 b2 off2) (hv : rs1.map Rq.val = rs2.map Rq.val) (hn : rs2.length = n) :
    Calls Tryz.prog 10 #[.agg #[.int .u64 (st : Int), .slice ro1 n rc1], .agg #[.int .u64 (st : Int), .slice ro2 n rc2]] W8 fun e w' => e = .returned (.bool true) ∧ Hid (Below W7.heap.size W7 w') := by
  have h := sameBatch_any st rc1 rc2 ((h1.below hb).wide hb.size) ((h2.below hb).wide hb.size) (Nat.le_refl _) (Nat.le_refl _) hv
  have e1 : rs1.length = n := by have := congrArg List.length hv; simp at this; omega
  rw [e1, hn] at h
  exact h.mono (fun e w' ⟨a, c⟩ => ⟨a, hb.trans (c.mono hb.size)⟩)
theorem sameR_at {W7 W8 : World} (hb : Below W7.heap.size W7 W8) (k num node slot : Int) (st : Nat) {ro1 ro2 : Option Addr} {rs1 rs2 : List Rq} {b1 off1 b2 off2 : Nat} (rc1 rc2 n : Nat) (h1 : Rqs W7.heap.size W7 ro1 rs1 b1 off1) (h2 : Rqs W7.heap.size W7 ro2 rs2 b2 off2) (hv : rs1.map Rq.val = rs2.map Rq.val) (hn : rs2.length = n) {d1 d2 : Option Addr} {m c1 c2 : Nat} {D : List Nat} (g1 : Shows W7.heap.size W7 d1 m c1 D) (g2 : Shows W7.heap.size W7 d2 m c2 D) :
    Calls Tryz.prog 14 #[.agg #[.int .i64 k, .int .u64 num, .int .i64 node, .int .u64 slot, .int .u64 (st : Int), .slice ro1 n rc1, .slice d1 m c1], .agg #[.int .i64 k, .int .u64 num, .int .i64 node, .int .u64 slot, .int .u64 (st : Int), .slice ro2 n rc2, .slice d2 m c2]] W8 fun e w' => e = .returned (.bool true) ∧ Hid (Below W7.heap.size W7 w') := by
  have e1 : rs1.length = n := by have := congrArg List.length hv; simp at this; omega
  have h := sameRec_any (w := W8) (k := k) (num := num) (node := node) (slot := slot) (st := (st : Int)) (r1 := ro1) (n1 := n) (c1 := rc1) (d1 := d1) (m1 := m) (e1 := c1) (r2 := ro2) (n2 := n) (c2 := rc2) (d2 := d2) (m2 := m) (e2 := c2)
    (fun W hW => by
      have hb' := hb.trans (hW.mono hb.size)
      have h := sameBatch_any st rc1 rc2 ((h1.below hb').wide hb'.size) ((h2.below hb').wide hb'.size) (Nat.le_refl _) (Nat.le_refl _) hv
      rw [e1, hn] at h
      exact h)
    (fun W hW => by
      have hb' := hb.trans (hW.mono hb.size)
      exact (same_any ((g1.belowL hb').wide hb'.size) ((g2.belowL hb').wide hb'.size)).mono (fun _ _ h => ⟨h.1, by obtain ⟨q, hq⟩ := h.2; rw [hq]; exact below_dN (Below.refl _ _) q⟩))
  exact h.mono (fun e w' ⟨a, c⟩ => ⟨a, hb.trans (c.out.mono hb.size)⟩)
/-- Bytes that are the same, a few steps later. -/
theorem sameY_at {W : World} {a1 a2 : Option Addr} {n1 n2 c1 c2 : Nat} {B : List Nat} (h1 : Shows W.heap.size W a1 n1 c1 B) (h2 : Shows W.heap.size W a2 n2 c2 B) :
    Calls Tryz.prog 16 #[.slice a1 n1 c1, .slice a2 n2 c2] W fun e w' => e = .returned (.bool true) ∧ Hid (Below W.heap.size W w') :=
  (same_any h1 h2).mono (fun _ _ h => ⟨h.1, by obtain ⟨q, hq⟩ := h.2; rw [hq]; exact below_dN (Below.refl _ _) q⟩)
theorem lend_at {W : World} {ao : Option Addr} {n cap : Nat} {B : List Nat} (h : Shows W.heap.size W ao n cap B) :
    Calls Tryz.prog 9 #[.slice ao n cap] W fun e w' => ∃ g, e = .returned (.slice (some ⟨g, 0, none⟩) n (n + 4)) ∧ Hid (Shows w'.heap.size w' (some ⟨g, 0, none⟩) n (n + 4) B ∧ Below W.heap.size W w') :=
  (lend_sh h (Nat.le_refl _)).mono (fun _ _ ⟨a, c, d⟩ => ⟨_, a, c.shows h.2.2.2.1 h.2.2.1, d⟩)
/-- A record that was laid down is read back. -/
theorem ap_decR_ok {W : World} {ao : Option Addr} {L cap : Nat} {F : List Nat} (h : Shows W.heap.size W ao L cap F) {k : Int} {num : Nat} {node : Int} {slot st : Nat} {rs : List Rq} {n m : Nat} {D : List Nat} (hn : Num rs) (hl : rs.length = n) (hd : m = D.length) (ok : (rNo k num node slot st rs m).1 = 0) (hF : rRes k num node slot st rs m D = F) :
    Calls Tryz.prog 13 #[.slice ao L cap] W fun e w' => ∃ (vo : Option Addr) (vc : Nat) (d0 : Option Addr) (dc : Nat), e = .returned (.tuple #[.agg #[.int .i64 k, .int .u64 (num : Int), .int .i64 node, .int .u64 (slot : Int), .int .u64 (st : Int), .slice vo n vc, .slice d0 m dc], .nilIface]) ∧ Hid (∃ rs1 b1, Rqs w'.heap.size w' vo rs1 b1 0 ∧ rs1.map Rq.val = rs.map Rq.val ∧ Shows w'.heap.size w' d0 m dc D ∧ Below W.heap.size W w') := by
  subst hd
  obtain ⟨c1, c2, c3, c4⟩ := record_fwd hn ok hF
  refine (ap_decR h).mono ?_
  rintro e w' ⟨num', node', slot', st', vo, m', vc, d0, dm, dc, x, rfl, G⟩
  obtain ⟨rs1, b1, D1, r⟩ := G.out
  have r1 := r.rv
  rw [c3] at r1
  simp only [Rv.mk.injEq] at r1
  obtain ⟨e1, e2, e3, e4, e5, e6⟩ := r1
  have r2 := r.er
  rw [c1] at r2
  have r3 := errV_none r2
  have r4 := r.len
  have r5 := r.sh
  have r6 := r.sh.1
  have e7 : rs1.length = n := by have := congrArg List.length e5; simp at this; omega
  have e8 : ((node' : Nat) : Int) = node := by omega
  subst r3 e1 e3 e4 e6
  rw [c2, e8, ← r4, e7]
  rw [r6] at r5 ⊢
  exact ⟨vo, vc, d0, dc, rfl, rs1, b1, r.rq, e5, r5, r.bel⟩
/-- What was read as a record is laid down just so, and may be. -/
theorem ap_back {W : World} {B : List Nat} {num node slot st : Nat} {vo : Option Addr} {m : Nat} {d0 : Option Addr} {dm dc : Nat} {x : Value} {w' : World} {rs1 : List Rq} {b1 : Nat} {D1 : List Nat} (r : Rd1 W B num node slot st vo m d0 dm dc x w' rs1 b1 D1) (hB : ∀ x ∈ B, x < 256) (hz : recC B = 0) (vc : Nat) {W8 : World} (hb : Below w'.heap.size w' W8) :
    (Calls Tryz.prog 11 #[.agg #[.int .i64 (recK B : Int), .int .u64 (num : Int), .int .i64 (node : Int), .int .u64 (slot : Int), .int .u64 (st : Int), .slice vo m vc, .slice d0 dm dc]] W8 fun e w9 => ∃ fo fc, e = .returned (.tuple #[.slice fo B.length fc, .nilIface]) ∧ Hid (Shows w9.heap.size w9 fo B.length fc B ∧ Below W8.heap.size W8 w9)) ∧
    MayP W8 (recK B) num node slot st vo m vc d0 dm dc true := by
  have hd := r.sh.1
  obtain ⟨_, ok⟩ := rec_inv hB hz
  rw [← r.rv] at ok
  obtain ⟨o1, o2⟩ := record_inv hB hz r.rv r.rq.nums
  rw [← hd] at o1 o2
  have n1 : num < 18446744073709551616 := by have := ok.bal.1; dsimp only at this; omega
  have n2 : slot < 18446744073709551616 := by have := ok.slot; dsimp only at this; omega
  have n3 : st < 18446744073709551616 := by have := ok.bat.1; dsimp only at this; omega
  constructor
  · have h := encRec_prog (w := W8) (recK B) num n1 node slot st n2 n3 vc m r.len ((r.rq.below hb).wide hb.size) (fun q hq b off e => Nat.lt_of_lt_of_le (r.co q hq b off e) hb.size) ((r.sh.belowL hb).wide hb.size) (fun b off e => Nat.lt_of_lt_of_le (r.do_ b off e) hb.size)
    rw [o2, o1] at h
    refine h.mono ?_
    rintro e w9 ⟨v, y, rfl, H⟩
    obtain ⟨fo, fc, rfl, hs, _⟩ := H.out.1.form
    have hy := errV_none H.out.2.1
    subst hy
    exact ⟨fo, fc, rfl, hs, H.out.2.2⟩
  · have h := may_any (w := W8) (recK B) num node slot st m vc r.len ((r.rq.below hb).wide hb.size) d0 dm dc
    rw [decide_eq_true o1] at h
    exact h
end Go.Proofs.YtgaalaoflaklgaaGreat
