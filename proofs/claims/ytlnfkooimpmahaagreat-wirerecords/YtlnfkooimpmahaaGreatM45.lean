import Derived.Test.YtlnfkooimpmahaaGreatM44
import Derived.Test.YtlnfkooimpmahaaGreatM42
import Derived.Test.YtlnfkooimpmahaaGreatRFw
namespace Go.Proofs.YtlnfkooimpmahaaGreat
open Go.RowKit Crc

theorem ck_new {cb : Nat} {cs : List Value} {W : World} (hl : cs.length = 49) (h : W.heap[cb]? = some (.cells (cs ++ ((List.replicate 16 false).map Value.bool ++ (List.replicate 16 (0 : Int)).map (Value.int .i64))).toArray 71 (0, 0))) : Ck cb cs U0 Y0 W := ⟨h, hl, by simp [U0], by simp [Y0]⟩
theorem msg_one (num : Nat) (node : Int) (slot st : Nat) (ro : Option Addr) (n rc : Nat) (do_ : Option Addr) (m dc : Nat) : ∀ v ∈ (msgR num node slot st (.slice ro n rc) (.slice do_ m dc)), v.oneCell' = true := List.all_eq_true.1 rfl
theorem ck_one {cs : List Value} (h : ∀ v ∈ cs, v.oneCell' = true) : ∀ v ∈ cs ++ ((List.replicate 16 false).map Value.bool ++ (List.replicate 16 (0 : Int)).map (Value.int .i64)), v.oneCell' = true := by
  intro v hv
  rcases List.mem_append.1 hv with hv | hv
  · exact h v hv
  · rcases List.mem_append.1 hv with hv | hv
    · obtain ⟨b, _, rfl⟩ := List.mem_map.1 hv; rfl
    · obtain ⟨b, _, rfl⟩ := List.mem_map.1 hv; rfl
set_option maxRecDepth 10000 in
set_option maxHeartbeats 3200000 in
theorem encRec_prog {w : World} (k : Int) (num : Nat) (hnum : num < 18446744073709551616) (node : Int) (slot st : Nat) (hslot : slot < 18446744073709551616) (hst : st < 18446744073709551616) {ro : Option Addr} {rs : List Rq} {b off : Nat} (rc n : Nat) (hn : rs.length = n) (h : Rqs w.heap.size w ro rs b off) (hco : ∀ r ∈ rs, ∀ b off, r.co = some ⟨b, off, none⟩ → b < w.heap.size) {do_ : Option Addr} {m dc : Nat} {D : List Nat} (hd : Shows w.heap.size w do_ m dc D) (hdo : ∀ b off, do_ = some ⟨b, off, none⟩ → b < w.heap.size) :
    Calls Tryz.prog 6 #[.agg #[.int .i64 k, .int .u64 (num : Int), .int .i64 node, .int .u64 (slot : Int), .int .u64 (st : Int), .slice ro n rc, .slice do_ m dc]] w fun e w' => ∃ v x, e = .returned (.tuple #[v, x]) ∧ Hid (Owns w.heap.size w' v (rRes k num node slot st rs m D) ∧ ErrV w' x (rNo k num node slot st rs m).1 (rNo k num node slot st rs m).2 ∧ Below w.heap.size w w') := by
  have HBM := hide (build_msg num node slot st ro n rc do_ m dc)
  have HBC := hide (build_ck num node slot st ro n rc do_ m dc)
  have HL : Hid ((msgR num node slot st (.slice ro n rc) (.slice do_ m dc)).length = 49) := msgR_len _ _ _ _ _ _
  have HON := hide (msg_one num node slot st ro n rc do_ m dc)
  have HFI : Hid (∀ (W : World) (cb lb : Nat), fsOf k ≠ [] → Below w.heap.size w W → w.heap.size ≤ cb → Ck cb (msgR num node slot st (.slice ro n rc) (.slice do_ m dc)) U0 Y0 W → W.heap[lb]? = some (.cells ((fsOf k).map fun f => mv f.name (.iface 74 (.pointer (some ⟨cb, 0, none⟩)))).toArray 1 (0, 0)) → lb ≠ cb → Calls Tryz.prog 24 #[.pointer (some ⟨cb, 0, none⟩), .slice (some ⟨lb, 0, none⟩) (fsOf k).length (fsOf k).length] W fun e w' => ∃ x : Int, e = .returned (.tuple #[.int .i64 x, .int .i64 (rNo k num node slot st rs m).1]) ∧ Hid (((rNo k num node slot st rs m).1 ≠ 0 → plc x = (rNo k num node slot st rs m).2) ∧ Below cb W w')) := fun W cb lb hf hb hcb hck hl hne => by
    refine (first_any (fsOf k) (fsOf_len k) hck ((h.below hb)) hcb hn hl hne (blank_any _ _ _ _ _ _ _ _ _ _)).mono ?_
    rintro e w' ⟨⟨b1, b2, b5, b10, h1, h2, h5, h10, rfl⟩, hb2⟩
    obtain ⟨e1, e2⟩ := first_no (m := m) hf hn h1 h2 h5 h10
    refine ⟨_, by rw [e1], e2, hb2.out⟩
  have HNW := hide (newFW_any num node slot st ro n rc do_ m dc)
  have HK0 : Hid (fsOf k = [] → (rNo k num node slot st rs m).1 = 25 ∧ (rNo k num node slot st rs m).2 = 0) := fun h => by rw [rNo_kind h]; exact ⟨rfl, rfl⟩
  have HR0 : Hid ((rNo k num node slot st rs m).1 ≠ 0 → rRes k num node slot st rs m D = []) := fun h => if_neg h
  have HOK : Hid ((rNo k num node slot st rs m).1 = 0 → RecOk k num node slot st rs m ∧ (rNo k num node slot st rs m).2 = 0 ∧ rRes k num node slot st rs m D = encRec k.toNat num node.toNat slot st rs m D) := fun h => ⟨(rNo_ok h).1, (rNo_ok h).2, if_pos h⟩
  have HWX : Hid (∀ (W : World) (base : Nat), Below w.heap.size w W → w.heap.size ≤ base → Wx base num slot st ro rs b off n do_ m dc D W) := fun W base hb hl => ⟨hnum, hslot, hst, (h.below hb).wide hl, hn, fun r hr b off e => Nat.lt_of_lt_of_le (hco r hr b off e) hl, (hd.belowL hb).wide hl, fun b off e => Nat.lt_of_lt_of_le (hdo b off e) hl⟩
  have HWT : Hid (∀ (W : World) (base p lb : Nat) (s : WS), RecOk k num node slot st rs m → s.K.R = (msgR num node slot st (.slice ro n rc) (.slice do_ m dc)) → s.made = true → s.why = 0 → s.place = 0 → s.most = 65507 → s.L = [] → WrS base W p (s.put (big k.toNat 1) 0) → base ≤ W.heap.size → base ≤ p → Wx base num slot st ro rs b off n do_ m dc D W → Box 4 p W lb (.cells ((fsOf k).map fun f => mv f.name (.iface 79 (.pointer (some ⟨p, 0, none⟩)))).toArray 1 (0, 0)) → Calls Tryz.prog 28 #[.pointer (some ⟨p, 0, none⟩), .slice (some ⟨lb, 0, none⟩) (fsOf k).length (fsOf k).length] W fun e w' => ∃ v, e = .returned (.tuple #[v, .nilIface]) ∧ Hid (Owns base w' v (encRec k.toNat num node.toNat slot st rs m D) ∧ Below base W w')) := by
    intro W base p lb s ok hK h1 h2 hpl h3 h4 hW hbs hp hx hbox
    have e := layRec_ok (D := D) ok (fun r hr => (h.ok r hr).hC.1) hd.1 h1 h2 h3 h4
    have hinv : s.Inv := fun _ => ⟨by rw [h3]; decide, by rw [h4, h3]; decide⟩
    have hwk : ∀ f ∈ fsOf k, f.wok node node.toNat rs := by
      intro f hf
      have hfit := ok.fit (D := D) (fun r hr => (h.ok r hr).hC.1) hd.1 f hf
      cases f with
      | ballot =>
        have hk3 : k ≤ 3 := by
          unfold fsOf at hf
          split at hf
          · rename_i hh; omega
          · split at hf
            · omega
            · split at hf
              · simp at hf
              · split at hf <;> simp at hf
        have hb := ok.bal hk3
        unfold balBad at hb
        exact ⟨by omega, by omega⟩
      | slot => trivial
      | snap => trivial
      | batch => exact ⟨hfit.1, fun r hr => (hfit.2 r hr).1⟩
    have hw := write_any (nd := node.toNat) (fsOf k) (fsOf_len k) hW (by rw [put_K]; exact hK) (WS.put_inv hinv _ _) hbs hp hx hwk hbox (by rw [e]; exact ⟨h1, h2⟩) (by rw [e]; exact hpl)
    rw [e] at hw
    exact hw
  have HFL : Hid (fsOf k ≠ [] → 1 ≤ k ∧ k ≤ 5) := fun hf => by
    have : ¬ (k < 1 ∨ 5 < k) := fun e => hf (fsOf_nil.2 e)
    omega
  clear h hco hd hdo hnum hslot hst hn
  generalize (msgR num node slot st (.slice ro n rc) (.slice do_ m dc)) = cs at *
  generalize (rNo k num node slot st rs m).1 = c at *
  generalize (rNo k num node slot st rs m).2 = a at *
  generalize rRes k num node slot st rs m D = RR at *
  have HSZ : Hid ((Tryz.prog.info? 67).map (·.size) = some cs.length) := by show _ = _; rw [HL.out]; kernel_rfl
  have HSZ2 : Hid ((Tryz.prog.info? 71).map (·.size) = some (cs ++ ((List.replicate 16 false).map Value.bool ++ (List.replicate 16 (0 : Int)).map (Value.int .i64))).length) := by
    show _ = _
    rw [List.length_append, HL.out]; kernel_rfl
  have HON2 := hide (ck_one HON.out)
  have HL81 : Hid ((cs ++ ((List.replicate 16 false).map Value.bool ++ (List.replicate 16 (0 : Int)).map (Value.int .i64))).length = 81) := by show _ = _; rw [List.length_append, HL.out]; rfl
  obtain ⟨W1, hW1⟩ : ∃ W1, w.alloc (.cells #[.int .i64 k, .int .u64 (num : Int), .int .i64 node, .int .u64 (slot : Int), .int .u64 (st : Int), .slice ro n rc, .slice do_ m dc] 31) = W1 := ⟨_, rfl⟩
  have q1 : W1.heap[w.heap.size]? = some (.cells #[.int .i64 k, .int .u64 (num : Int), .int .i64 node, .int .u64 (slot : Int), .int .u64 (st : Int), .slice ro n rc, .slice do_ m dc] 31 (0, 0)) := by rw [← hW1]; exact alloc_at _ _
  have Q1 := hide q1
  have B1 : Hid (Below w.heap.size w W1) := by show Below _ _ _; rw [← hW1]; exact below_alloc1 w _
  have x1 := block_cell q1 1
  have x2 := block_cell q1 2
  have x3 := block_cell q1 3
  have x4 := block_cell q1 4
  have x5 := block_cell q1 5
  have x6 := block_cell q1 6
  simp at x1 x2 x3 x4 x5 x6
  have hl1 := block_lt q1
  have E1 : Hid (w.heap.size + 1 = W1.heap.size) := by show _ = _; rw [← hW1]; simp
  have HW1 := hide hW1
  clear hW1 q1
  go_enter Tryz.func6, Tryz.ntmps6
  iterate 41 go_step
  refine wpList_pure rfl (exec_build (t := 67) (parts := #[(1, .tmp 11), (2, .tmp 13), (5, .tmp 15), (10, .tmp 17)]) rfl (by have h := HBM.out; simpa [Act.eval] using h _)) ?_
  simp only [Act.put, List.setIfInBounds_toArray, List.set_cons_zero, List.set_cons_succ]
  iterate 3 go_step
  rw [HW1.out, E1.out]
  refine wpList_store_new rfl 67 _ _ rfl cs rfl rfl (by rw [HL.out]; decide) HSZ.out HON.out ?_
  intro W2 g2 rg2 hs2
  have hb2 : w.heap.size < W1.heap.size := by have := E1.out; omega
  have EP2 : Hid (Below w.heap.size w W2 ∧ W2.heap[w.heap.size]? = some (.cells #[.int .i64 k, .int .u64 (num : Int), .int .i64 node, .int .u64 (slot : Int), .int .u64 (st : Int), .slice ro n rc, .slice do_ m dc] 31 (0, 0))) := ⟨B1.out.grown g2 B1.out.size (fun k e => by cases e), (g2.block _ (block_lt Q1.out) (by simp)).trans Q1.out⟩
  have RG2 := hide rg2
  clear x1 x2 x3 x4 x5 x6 hl1 g2 rg2 HW1 Q1 B1 E1 HBM
  generalize W1.heap.size = bm at *
  simp only [Act.put]
  iterate 5 go_step
  refine wpList_load_mid rfl 67 _ rfl bm 0 rfl cs _ RG2.out Tryz.underlying67 rfl HSZ.out ?_
  simp only [Act.put, List.setIfInBounds_toArray, List.set_cons_zero, List.set_cons_succ]
  refine wpList_pure rfl (exec_build (t := 71) (parts := #[(0, .tmp 19)]) rfl (by have h := HBC.out; simpa [Act.eval] using h _)) ?_
  simp only [Act.put, List.setIfInBounds_toArray, List.set_cons_zero, List.set_cons_succ]
  iterate 3 go_step
  refine wpList_store_box rfl 71 _ _ rfl (cs ++ ((List.replicate 16 false).map Value.bool ++ (List.replicate 16 (0 : Int)).map (Value.int .i64))) rfl rfl (by rw [HL81.out]; rfl) HSZ2.out HON2.out ?_
  intro W3 g3 rb3
  have ES3 : Hid (Es w #[.int .i64 k, .int .u64 (num : Int), .int .i64 node, .int .u64 (slot : Int), .int .u64 (st : Int), .slice ro n rc, .slice do_ m dc] bm W2.heap.size cs W3) := ⟨EP2.out.1.grown g3 EP2.out.1.size (fun k e => by cases e), (g3.block _ (block_lt EP2.out.2) (by simp)).trans EP2.out.2, fun j v hv => g3.cell (RG2.out j v hv) (by simp), hb2, hs2, g3.size⟩
  have CK3 := hide (ck_new HL.out rb3)
  clear g3 rb3 EP2 RG2 HBC HSZ2 HON2 HL81
  have hwc : w.heap.size < W2.heap.size := by omega
  generalize W2.heap.size = cb at *
  simp only [Act.put]
  have x0 : W3.cell? ⟨w.heap.size, 0, none⟩ = some (.int .i64 k) := (block_cell ES3.out.rb 0).trans rfl
  go_wp2_with fail
  clear x0
  have hsn := sl_nil
  have hss := sl_some
  refine (recF_any k _ _ W3).mono ?_
  rintro e w4 (⟨hf, rfl, rfl⟩ | ⟨hf, rfl, G4⟩)
  · obtain ⟨z1, z2⟩ := HK0.out hf
    have HZ := hide (And.intro z1 z2)
    clear z1 z2 hf
    go_wp2_with fail
    refine (refusal_any 0 25 _).mono ?_
    rintro e w6 ⟨v, rfl, rfl, hF, hb6⟩
    have ES6 := hide (ES3.out.below hb6)
    have HF6 := hide hF
    clear hF hb6
    go_wp2
    go_ret2
    refine ⟨_, _, rfl, ?_, ?_, ES6.out.bel⟩
    · rw [HR0.out (by rw [HZ.out.1]; decide)]; exact Owns.nil _ _
    · rw [HZ.out.1, HZ.out.2]; exact .inr ⟨HF6.out, by decide⟩
  · have HFF := hide hf
    obtain ⟨hcl, hb4⟩ := G4.out
    have HCL := hide hcl
    have ES4 := hide (ES3.out.below hb4)
    have CK4 := hide (CK3.out.quiet (below_none hb4))
    have hlb : W3.heap.size ≠ cb := by have := CK3.out.lt; omega
    clear hf hcl hb4 G4 CK3 ES3
    generalize W3.heap.size = lb at *
    go_wp2_with fail
    refine (HFI.out w4 cb lb HFF.out ES4.out.bel (by omega) CK4.out HCL.out hlb).mono ?_
    rintro e w5 ⟨x, rfl, G5⟩
    have ES5 := hide (ES4.out.next G5.out.2)
    have HPL := hide G5.out.1
    clear G5 ES4 CK4 HCL hlb
    by_cases hc : c = 0
    · obtain ⟨ok, ha, hrr⟩ := HOK.out hc
      have OK := hide ok
      have HRR := hide hrr
      subst hc
      subst ha
      clear ok hrr
      obtain ⟨hk1, hk5⟩ := HFL.out HFF.out
      have MB5 : Hid (w5.rangeAt bm 0 cs) := ES5.out.mb
      go_wp2_with (first
        | (refine wpList_load_mid rfl 67 _ rfl bm 0 rfl cs _ MB5.out Tryz.underlying67 rfl HSZ.out ?_))
      refine (HNW.out w5).mono ?_
      rintro e w6 ⟨p, rfl, G6⟩
      obtain ⟨wr6, b6, p6⟩ := G6.out
      have ES6 := hide (ES5.out.below b6)
      have x0 : w6.cell? ⟨w.heap.size, 0, none⟩ = some (.int .i64 k) := (block_cell ES6.out.rb 0).trans rfl
      have hbs6 : w5.heap.size ≤ w6.heap.size := b6.size
      have hwb : w.heap.size ≤ w5.heap.size := ES5.out.bel.size
      have hcbs : cb ≤ w5.heap.size := ES5.out.lt3
      have hwr : IntKind.u8.wrap k = k := IntWalk.u8_in k (by omega)
      have HU8 : Hid (Calls Tryz.prog 27 #[.pointer (some ⟨p, 0, none⟩), .int .u8 (IntKind.u8.wrap k)] w6.drew fun e w' => e = .returned (.tuple #[]) ∧ Hid (WrS w5.heap.size w' p (WS.put ⟨true, 0, 0, 65507, [], ⟨87, cs⟩⟩ (big k.toNat 1) 0) ∧ Tch 4 w6 w' p)) := by
        refine (wU8P (.inr ⟨p, rfl, wr6.drew⟩) (fun _ => ⟨Int.le_refl _, by simp⟩) hbs6 k.toNat (IntKind.u8.wrap k) (by rw [hwr]; omega) (by omega)).mono (fun _ _ h => ⟨h.1, ?_⟩)
        obtain ⟨h1, h2⟩ := of_wrP h.2.out
        exact ⟨h1, tch_drew h2⟩
      have M6 := hide (mach_prog w5.heap.size p p6)
      have WR6 := hide wr6
      clear G6 b6 wr6 MB5 hwr
      have hP6 := hide p6
      clear p6
      generalize w5.heap.size = bs at *
      go_wp2_with fail
      go_region_with (go_at_call 27; refine HU8.out.mono ?_; rintro e w7 ⟨rfl, G7⟩)
      have WR7 := hide G7.out.1
      have hb7 := M6.out.belowOf WR6.out hbs6 G7.out.2
      have ES7 := hide (ES6.out.next (hb7.mono hcbs))
      have hbs7 : bs ≤ w7.heap.size := Nat.le_trans hbs6 hb7.size
      have x0 : w7.cell? ⟨w.heap.size, 0, none⟩ = some (.int .i64 k) := (block_cell ES7.out.rb 0).trans rfl
      clear G7 hb7 HU8 ES6 WR6
      go_wp2_with fail
      clear x0
      refine (recF_any k _ _ w7).mono ?_
      rintro e w8 (⟨hf, rfl, rfl⟩ | ⟨hf, rfl, G8⟩)
      · exact absurd hf HFF.out
      · obtain ⟨hcl, hb8⟩ := G8.out
        have BX8 := hide (Box.ofBelow M6.out WR7.out hb8 hcl)
        have WR8 := hide (M6.out.below _ _ _ WR7.out hb8)
        have ES8 := hide (ES7.out.below hb8)
        have hbs8 : bs ≤ w8.heap.size := Nat.le_trans hbs7 hb8.size
        have HX8 := hide (HWX.out w8 bs ES8.out.bel hwb)
        clear hf hcl hb8 G8 WR7 ES7
        generalize w7.heap.size = lb2 at *
        go_wp2_with fail
        refine (HWT.out w8 bs p lb2 ⟨true, 0, 0, 65507, [], ⟨87, cs⟩⟩ OK.out rfl rfl rfl rfl rfl rfl WR8.out hbs8 hP6.out HX8.out BX8.out).mono ?_
        rintro e w9 ⟨v, rfl, G9⟩
        go_wp2
        go_ret2
        exact ⟨_, _, rfl, by rw [HRR.out]; exact G9.out.1.low hwb, .inl ⟨rfl, rfl, rfl⟩, ES8.out.bel.trans (G9.out.2.mono hwb)⟩
    · have hcb : (c != 0) = true := by simp [hc]
      go_wp2_with fail
      refine (place_any x w5).mono ?_
      rintro e w6 ⟨rfl, rfl⟩
      have hpx := HPL.out hc
      rw [hpx]
      clear hpx
      go_wp2_with fail
      refine (refusal_any a c _).mono ?_
      rintro e w7 ⟨v, rfl, rfl, hF, hb7⟩
      have ES7 := hide (ES5.out.below hb7)
      have HF7 := hide hF
      clear hF hb7
      go_wp2
      go_ret2
      refine ⟨_, _, rfl, ?_, .inr ⟨HF7.out, hc⟩, ES7.out.bel⟩
      rw [HR0.out hc]; exact Owns.nil _ _

end Go.Proofs.YtlnfkooimpmahaaGreat
namespace Go.Proofs.YtlnfkooimpmahaaGreat
open Go.RowKit Crc

set_option maxRecDepth 10000 in
set_option maxHeartbeats 800000 in
theorem layBallot_ref {base p : Nat} {w : World} {s : WS} (hW : RefW base w p s) (hi : s.Inv) (hbs : base ≤ w.heap.size) (hp : base ≤ p) (num nd : Nat) (hn : num < 18446744073709551616) (hd : nd < 256) :
    Calls Tryz.prog 16 #[.pointer (some ⟨p, 0, none⟩), .agg #[.int .u64 (num : Int), .int .i64 (nd : Int)]] w fun e w' => e = .returned (.tuple #[]) ∧ Hid (RefW base w' p ((s.put (numB num) 0).put (big nd 1) 0) ∧ Tch 2 w w' p) := by
  have M := mach_ref base p hp
  have HL0 : Hid (LS 2 p base (fun w s => RefW base w p s) s w (w.alloc (.cells #[.int .u64 (num : Int), .int .i64 (nd : Int)] 25))) := (LS.begin hW hi hbs).quiet M (below_alloc1 w _)
  have HB0 : Hid (Box 2 p (w.alloc (.cells #[.int .u64 (num : Int), .int .i64 (nd : Int)] 25)) w.heap.size (.cells #[.int .u64 (num : Int), .int .i64 (nd : Int)] 25)) := Box.new M hW _
  clear hW hi M
  go_enter Tryz.func16, Tryz.ntmps16
  go_wp2_with fail
  refine (refWNum HL0.out.i HL0.out.inv HL0.out.bs num num rfl hn).mono ?_
  rintro e w1 ⟨rfl, H1⟩
  have HL1 := hide (HL0.out.step H1.out.1 H1.out.2)
  have HB1 := hide (HB0.out.step H1.out.2)
  have c1 := block_cell HB1.out.at_ 1
  simp at c1
  clear H1 HL0 HB0
  go_wp2_with fail
  clear c1
  refine (refWFixed HL1.out.i HL1.out.inv HL1.out.bs nd 1 nd 1 rfl rfl (by decide)).mono ?_
  rintro e w2 ⟨rfl, H2⟩
  go_wp2
  go_end0
  have HL2 := HL1.out.step H2.out.1 H2.out.2
  exact ⟨rfl, HL2.i, HL2.tch⟩

/-- While the reference lays a record down. -/
structure Er (w : World) (R : Array Value) (base p : Nat) (s : WS) (W : World) : Prop where
  rw : RefW base W p s
  inv : s.Inv
  bel : Below w.heap.size w W
  rb : W.heap[w.heap.size]? = some (.cells R 31 (0, 0))
  nb : W.heap[w.heap.size + 1]? = some (.cells #[.int .i64 0, .int .i64 0] 33 (0, 0))
  hb : w.heap.size + 1 < base
  hp : base ≤ p
  bs : base ≤ W.heap.size
theorem Er.step {w : World} {R : Array Value} {base p : Nat} {s s' : WS} {W W' : World} (h : Er w R base p s W) (hr : RefW base W' p s') (hi : s'.Inv) (ht : Tch 2 W W' p) : Er w R base p s' W' := by
  have hbl := (mach_ref base p h.hp).belowOf h.rw h.bs ht
  have := h.hb
  exact ⟨hr, hi, h.bel.trans (hbl.mono (by omega)), (hbl.block _ (by omega)).trans h.rb, (hbl.block _ (by omega)).trans h.nb, h.hb, h.hp, Nat.le_trans h.bs hbl.size⟩
theorem eFix {w : World} {R : Array Value} {base p : Nat} {s : WS} {W : World} (h : Er w R base p s W) (v : Nat) (vi : Int) (hv : vi = (v : Int)) :
    Calls Tryz.prog 15 #[.pointer (some ⟨p, 0, none⟩), .int .u64 vi, .int .i64 1] W fun e W' => e = .returned (.tuple #[]) ∧ Hid (Er w R base p (s.put (big v 1) 0) W') :=
  (refWFixed h.rw h.inv h.bs v 1 vi 1 hv rfl (by decide)).mono (fun _ _ g => ⟨g.1, h.step g.2.out.1 (WS.put_inv h.inv _ _) g.2.out.2⟩)
theorem eNum {w : World} {R : Array Value} {base p : Nat} {s : WS} {W : World} (h : Er w R base p s W) (v : Nat) (hv : v < 18446744073709551616) :
    Calls Tryz.prog 17 #[.pointer (some ⟨p, 0, none⟩), .int .u64 (v : Int)] W fun e W' => e = .returned (.tuple #[]) ∧ Hid (Er w R base p (s.put (numB v) 0) W') :=
  (refWNum h.rw h.inv h.bs v v rfl hv).mono (fun _ _ g => ⟨g.1, h.step g.2.out.1 (WS.put_inv h.inv _ _) g.2.out.2⟩)
theorem eBal {w : World} {R : Array Value} {base p : Nat} {s : WS} {W : World} (h : Er w R base p s W) (num nd : Nat) (node : Int) (hnd : node = (nd : Int)) (hn : num < 18446744073709551616) (hd : nd < 256) :
    Calls Tryz.prog 16 #[.pointer (some ⟨p, 0, none⟩), .agg #[.int .u64 (num : Int), .int .i64 node]] W fun e W' => e = .returned (.tuple #[]) ∧ Hid (Er w R base p ((s.put (numB num) 0).put (big nd 1) 0) W') := by
  subst hnd
  exact (layBallot_ref h.rw h.inv h.bs h.hp num nd hn hd).mono (fun _ _ g => ⟨g.1, h.step g.2.out.1 (WS.put_inv (WS.put_inv h.inv _ _) _ _) g.2.out.2⟩)
theorem eBat {w : World} {R : Array Value} {base p : Nat} {s : WS} {W : World} {ro : Option Addr} {rs : List Rq} {b off : Nat} {rc n : Nat} {st : Nat} (h : Er w R base p s W) (hst : st < 18446744073709551616) (hR : Rqs w.heap.size w ro rs b off) (hn : rs.length = n) (h8 : rs.length ≤ 8) (h7 : ∀ r ∈ rs, r.cn ≤ 700) :
    Calls Tryz.prog 18 #[.pointer (some ⟨p, 0, none⟩), .agg #[.int .u64 (st : Int), .slice ro n rc]] W fun e W' => e = .returned (.tuple #[]) ∧ Hid (Er w R base p (layB s st rs) W') := by
  have hl := h.hb
  have h1 := layBatch_ref h.rw h.inv h.bs h.hp st hst rc ((hR.below h.bel).wide (by omega)) h8 h7
  rw [hn] at h1
  exact h1.mono (fun _ _ g => ⟨g.1, h.step g.2.out.1 (layGo_inv _ _ (WS.put_inv (WS.put_inv h.inv _ _) _ _)) g.2.out.2⟩)
theorem eBlob {w : World} {R : Array Value} {base p : Nat} {s : WS} {W : World} {do_ : Option Addr} {m dc : Nat} {D : List Nat} (h : Er w R base p s W) (hS : Shows w.heap.size w do_ m dc D) (hm : m ≤ 40000) :
    Calls Tryz.prog 19 #[.pointer (some ⟨p, 0, none⟩), .slice do_ m dc, .int .i64 40000] W fun e W' => e = .returned (.tuple #[]) ∧ Hid (Er w R base p (s.put (numB m ++ D) (cntY m 40000)) W') := by
  have hl := h.hb
  exact (refWBlob h.rw h.inv h.bs do_ m dc D 40000 ((hS.belowL h.bel).wide (show w.heap.size ≤ base by omega)) h.bs (by omega)).mono (fun _ _ g => ⟨g.1, h.step g.2.out.1 (WS.put_inv h.inv _ _) g.2.out.2⟩)
theorem er_new {w w1 : World} {R : Array Value} {o : Obj} (hb : Below w.heap.size w w1) (rb : w1.heap[w.heap.size]? = some (.cells R 31 (0, 0))) (nb : w1.heap[w.heap.size + 1]? = some (.cells #[.int .i64 0, .int .i64 0] 33 (0, 0))) :
    Calls Tryz.prog 14 #[.int .i64 65507] (w1.alloc o) fun e w2 => ∃ p, e = .returned (.pointer (some ⟨p, 0, none⟩)) ∧ Hid (∃ base, Er w R base p WS1 w2) := by
  have hbA := below_alloc1 w1 o
  have hsA : (w1.alloc o).heap.size = w1.heap.size + 1 := by simp
  have hl := block_lt nb
  refine (refNewWriter_any 65507 (w1.alloc o)).mono ?_
  rintro e w2 ⟨rfl, hw2⟩
  have hbN : Below (w1.alloc o).heap.size (w1.alloc o) w2 := by rw [hw2]; exact below_alloc1 _ _
  have hb12 : Below w1.heap.size w1 w2 := hbA.trans (hbN.mono (by omega))
  have hat : w2.heap[(w1.alloc o).heap.size]? = some (vNew 65507) := by rw [hw2]; exact alloc_at _ _
  have hW : RefW (w1.alloc o).heap.size w2 (w1.alloc o).heap.size WS1 := ⟨.slice none 0 0, hat, Owns.nil _ _, by simp [Value.ownBlock]⟩
  exact ⟨(w1.alloc o).heap.size, rfl, (w1.alloc o).heap.size, hW, fun _ => ⟨by simp [WS1], by simp [WS1]⟩, hb.trans (hb12.mono (by omega)), (hb12.block _ (by omega)).trans rb, (hb12.block _ hl).trans nb, by omega, Nat.le_refl _, hbN.size⟩
theorem er_end {w : World} {R : Array Value} {base p : Nat} {s : WS} {W : World} (h : Er w R base p s W) (x y : Value) : ∃ vo vn vc, W.cell? ⟨p, 2, none⟩ = some (.slice vo vn vc) ∧ Hid (Owns w.heap.size ((W.setCell ⟨w.heap.size + 1, 0, none⟩ x).setCell ⟨w.heap.size + 1, 1, none⟩ y) (.slice vo vn vc) s.L ∧ Below w.heap.size w ((W.setCell ⟨w.heap.size + 1, 0, none⟩ x).setCell ⟨w.heap.size + 1, 1, none⟩ y)) := by
  obtain ⟨v, hbk, hO, _⟩ := h.rw
  obtain ⟨vo, vc, hv, _, _⟩ := hO.form
  subst hv
  have hl := h.hb
  obtain ⟨f1, f2⟩ := fin_two (hO.low (show w.heap.size + 1 + 1 ≤ base by omega)) h.bel x y
  exact ⟨vo, _, vc, (block_cell hbk 2).trans rfl, f1, f2⟩
/-- What the reference answers. -/
def EnP (w : World) (k : Int) (num : Nat) (node : Int) (slot st : Nat) (rs : List Rq) (ro : Option Addr) (n rc : Nat) (do_ : Option Addr) (m dc : Nat) (D : List Nat) : Prop :=
  Calls Tryz.prog 4 #[.agg #[.int .i64 k, .int .u64 (num : Int), .int .i64 node, .int .u64 (slot : Int), .int .u64 (st : Int), .slice ro n rc, .slice do_ m dc]] w fun e w' => ∃ v, e = .returned (.tuple #[v, .agg #[.int .i64 (rNo k num node slot st rs m).1, .int .i64 (rNo k num node slot st rs m).2]]) ∧ Hid (Owns w.heap.size w' v (rRes k num node slot st rs m D) ∧ Below w.heap.size w w')
end Go.Proofs.YtlnfkooimpmahaaGreat
namespace Go.Proofs.YtlnfkooimpmahaaGreat
open Go.RowKit Crc

set_option maxRecDepth 10000 in
set_option maxHeartbeats 1600000 in
theorem en_1 {w : World} {num : Nat} {node : Int} {slot st : Nat} {ro : Option Addr} {rs : List Rq} {b off : Nat} {n rc : Nat} {do_ : Option Addr} {m dc : Nat} {D : List Nat} (hnum : num < 18446744073709551616) (_hslot : slot < 18446744073709551616) (_hst : st < 18446744073709551616) (h : Rqs w.heap.size w ro rs b off) (hn : rs.length = n) (hd : Shows w.heap.size w do_ m dc D) (h0 : (rNo 1 num node slot st rs m).1 = 0) : EnP w 1 num node slot st rs ro n rc do_ m dc D := by
  obtain ⟨ok, ha⟩ := rNo_ok h0
  have HRR : Hid (rRes 1 num node slot st rs m D = encRec 1 num node.toNat slot st rs m D) := if_pos h0
  have HLL := hide (layRec_ok (D := D) (s := WS1) ok (fun r hr => (h.ok r hr).hC.1) hd.1 rfl rfl rfl rfl)
  have hnd : node = (node.toNat : Int) ∧ node.toNat < 256 := by
    have hb := ok.bal (by decide)
    unfold balBad at hb
    omega
  have HND := hide hnd
  clear hnd
  have HR := hide h
  have HS := hide hd
  unfold EnP
  obtain ⟨W, hW⟩ : ∃ W, (w.alloc (.cells #[.int .i64 1, .int .u64 (num : Int), .int .i64 node, .int .u64 (slot : Int), .int .u64 (st : Int), .slice ro n rc, .slice do_ m dc] 31)).alloc (.cells #[.int .i64 0, .int .i64 0] 33) = W := ⟨_, rfl⟩
  obtain ⟨b0, q0, q1⟩ := bx_no hW
  have HNO := hide (recNo_any (k := 1) (num := num) (node := node) (slot := slot) (st := st) (rc := rc) (do_ := do_) (m := m) (dc := dc) ((h.below b0).wide b0.size) hn)
  unfold NoP at HNO
  have B0 := hide b0
  have Q0 := hide q0
  have Q1 := hide q1
  have HW := hide hW
  clear b0 q0 q1 hW
  rw [h0, ha] at HNO ⊢
  rw [HRR.out]
  clear h0 ha ok h hd HRR
  go_enter Tryz.func4, Tryz.ntmps4
  go_wp2_with fail
  refine Calls.atW HW.out ?_
  clear HW
  refine HNO.out.mono ?_
  rintro e w1 ⟨rfl, b1⟩
  have B1 := hide (B0.out.trans (b1.out.mono B0.out.size))
  have q0 := (b1.out.block _ (block_lt Q0.out)).trans Q0.out
  have q1 := (b1.out.block _ (block_lt Q1.out)).trans Q1.out
  clear b1 HNO B0 Q0 Q1
  have x0 := block_cell q0 0
  have x1 := block_cell q0 1
  have x2 := block_cell q0 2
  have x3 := block_cell q0 3
  have x4 := block_cell q0 4
  have x5 := block_cell q0 5
  have x6 := block_cell q0 6
  simp at x0 x1 x2 x3 x4 x5 x6
  have hl0 := block_lt q0
  have Q0 := hide q0
  have Q1 := hide q1
  clear q0 q1
  go_wp2_with fail
  clear x0 x1 x2 x3 x4 x5 x6 hl0
  refine (er_new B1.out Q0.out Q1.out).mono ?_
  rintro e w2 ⟨p, rfl, G2⟩
  obtain ⟨base, e2⟩ := G2.out
  have E2 := hide e2
  clear e2 G2 B1 Q0 Q1
  have x0 := block_cell E2.out.rb 0
  have x1 := block_cell E2.out.rb 1
  have x2 := block_cell E2.out.rb 2
  have x3 := block_cell E2.out.rb 3
  have x4 := block_cell E2.out.rb 4
  have x5 := block_cell E2.out.rb 5
  have x6 := block_cell E2.out.rb 6
  have y0 := block_cell E2.out.nb 0
  have y1 := block_cell E2.out.nb 1
  have z0 := block_free E2.out.nb 0
  have z1 := block_free E2.out.nb 1
  simp at x0 x1 x2 x3 x4 x5 x6 y0 y1
  have hl0 := block_lt E2.out.rb
  have hl1 := block_lt E2.out.nb
  go_wp2_with fail
  clear x0 x1 x2 x3 x4 x5 x6 y0 y1 z0 z1 hl0 hl1
  refine (eFix E2.out 1 1 rfl).mono ?_
  rintro e w3 ⟨rfl, E3⟩
  clear E2
  have x0 := block_cell E3.out.rb 0
  have x1 := block_cell E3.out.rb 1
  have x2 := block_cell E3.out.rb 2
  have x3 := block_cell E3.out.rb 3
  have x4 := block_cell E3.out.rb 4
  have x5 := block_cell E3.out.rb 5
  have x6 := block_cell E3.out.rb 6
  have y0 := block_cell E3.out.nb 0
  have y1 := block_cell E3.out.nb 1
  have z0 := block_free E3.out.nb 0
  have z1 := block_free E3.out.nb 1
  simp at x0 x1 x2 x3 x4 x5 x6 y0 y1
  have hl0 := block_lt E3.out.rb
  have hl1 := block_lt E3.out.nb
  go_wp2_with fail
  clear x0 x1 x2 x3 x4 x5 x6 y0 y1 z0 z1 hl0 hl1
  refine (eBal E3.out num node.toNat node HND.out.1 hnum HND.out.2).mono ?_
  rintro e w4 ⟨rfl, E4⟩
  clear E3
  have x0 := block_cell E4.out.rb 0
  have x1 := block_cell E4.out.rb 1
  have x2 := block_cell E4.out.rb 2
  have x3 := block_cell E4.out.rb 3
  have x4 := block_cell E4.out.rb 4
  have x5 := block_cell E4.out.rb 5
  have x6 := block_cell E4.out.rb 6
  have y0 := block_cell E4.out.nb 0
  have y1 := block_cell E4.out.nb 1
  have z0 := block_free E4.out.nb 0
  have z1 := block_free E4.out.nb 1
  simp at x0 x1 x2 x3 x4 x5 x6 y0 y1
  have hl0 := block_lt E4.out.rb
  have hl1 := block_lt E4.out.nb
  obtain ⟨vo, vn, vc, c2, FIN⟩ := er_end E4.out (.int .i64 0) (.int .i64 0)
  go_wp2
  refine bodyPost_ret (v := .tuple #[.slice vo vn vc, .agg #[.int .i64 0, .int .i64 0]]) (by simp [results, Tryz.results4, go_sem, y0, y1]) rfl ⟨_, rfl, ?_, FIN.out.2⟩
  have hL := congrArg WS.L HLL.out
  have hF := FIN.out.1
  have e : encRec 1 num node.toNat slot st rs m D = _ := hL.symm
  rw [e]
  exact hF
end Go.Proofs.YtlnfkooimpmahaaGreat
namespace Go.Proofs.YtlnfkooimpmahaaGreat
open Go.RowKit Crc

set_option maxRecDepth 10000 in
set_option maxHeartbeats 1600000 in
theorem en_2 {w : World} {num : Nat} {node : Int} {slot st : Nat} {ro : Option Addr} {rs : List Rq} {b off : Nat} {n rc : Nat} {do_ : Option Addr} {m dc : Nat} {D : List Nat} (hnum : num < 18446744073709551616) (hslot : slot < 18446744073709551616) (hst : st < 18446744073709551616) (h : Rqs w.heap.size w ro rs b off) (hn : rs.length = n) (hd : Shows w.heap.size w do_ m dc D) (h0 : (rNo 2 num node slot st rs m).1 = 0) : EnP w 2 num node slot st rs ro n rc do_ m dc D := by
  obtain ⟨ok, ha⟩ := rNo_ok h0
  have HRR : Hid (rRes 2 num node slot st rs m D = encRec 2 num node.toNat slot st rs m D) := if_pos h0
  have HLL := hide (layRec_ok (D := D) (s := WS1) ok (fun r hr => (h.ok r hr).hC.1) hd.1 rfl rfl rfl rfl)
  have hnd : node = (node.toNat : Int) ∧ node.toNat < 256 := by
    have hb := ok.bal (by decide)
    unfold balBad at hb
    omega
  have HND := hide hnd
  clear hnd
  obtain ⟨_, f8, f7⟩ := bFault_ok (ok.bat rfl)
  have H8 := hide f8
  have H7 := hide (fun r hr => (f7 r hr).2)
  clear f8 f7
  have HR := hide h
  have HS := hide hd
  unfold EnP
  obtain ⟨W, hW⟩ : ∃ W, (w.alloc (.cells #[.int .i64 2, .int .u64 (num : Int), .int .i64 node, .int .u64 (slot : Int), .int .u64 (st : Int), .slice ro n rc, .slice do_ m dc] 31)).alloc (.cells #[.int .i64 0, .int .i64 0] 33) = W := ⟨_, rfl⟩
  obtain ⟨b0, q0, q1⟩ := bx_no hW
  have HNO := hide (recNo_any (k := 2) (num := num) (node := node) (slot := slot) (st := st) (rc := rc) (do_ := do_) (m := m) (dc := dc) ((h.below b0).wide b0.size) hn)
  unfold NoP at HNO
  have B0 := hide b0
  have Q0 := hide q0
  have Q1 := hide q1
  have HW := hide hW
  clear b0 q0 q1 hW
  rw [h0, ha] at HNO ⊢
  rw [HRR.out]
  clear h0 ha ok h hd HRR
  go_enter Tryz.func4, Tryz.ntmps4
  go_wp2_with fail
  refine Calls.atW HW.out ?_
  clear HW
  refine HNO.out.mono ?_
  rintro e w1 ⟨rfl, b1⟩
  have B1 := hide (B0.out.trans (b1.out.mono B0.out.size))
  have q0 := (b1.out.block _ (block_lt Q0.out)).trans Q0.out
  have q1 := (b1.out.block _ (block_lt Q1.out)).trans Q1.out
  clear b1 HNO B0 Q0 Q1
  have x0 := block_cell q0 0
  have x1 := block_cell q0 1
  have x2 := block_cell q0 2
  have x3 := block_cell q0 3
  have x4 := block_cell q0 4
  have x5 := block_cell q0 5
  have x6 := block_cell q0 6
  simp at x0 x1 x2 x3 x4 x5 x6
  have hl0 := block_lt q0
  have Q0 := hide q0
  have Q1 := hide q1
  clear q0 q1
  go_wp2_with fail
  clear x0 x1 x2 x3 x4 x5 x6 hl0
  refine (er_new B1.out Q0.out Q1.out).mono ?_
  rintro e w2 ⟨p, rfl, G2⟩
  obtain ⟨base, e2⟩ := G2.out
  have E2 := hide e2
  clear e2 G2 B1 Q0 Q1
  have x0 := block_cell E2.out.rb 0
  have x1 := block_cell E2.out.rb 1
  have x2 := block_cell E2.out.rb 2
  have x3 := block_cell E2.out.rb 3
  have x4 := block_cell E2.out.rb 4
  have x5 := block_cell E2.out.rb 5
  have x6 := block_cell E2.out.rb 6
  have y0 := block_cell E2.out.nb 0
  have y1 := block_cell E2.out.nb 1
  have z0 := block_free E2.out.nb 0
  have z1 := block_free E2.out.nb 1
  simp at x0 x1 x2 x3 x4 x5 x6 y0 y1
  have hl0 := block_lt E2.out.rb
  have hl1 := block_lt E2.out.nb
  go_wp2_with fail
  clear x0 x1 x2 x3 x4 x5 x6 y0 y1 z0 z1 hl0 hl1
  refine (eFix E2.out 2 2 rfl).mono ?_
  rintro e w3 ⟨rfl, E3⟩
  clear E2
  have x0 := block_cell E3.out.rb 0
  have x1 := block_cell E3.out.rb 1
  have x2 := block_cell E3.out.rb 2
  have x3 := block_cell E3.out.rb 3
  have x4 := block_cell E3.out.rb 4
  have x5 := block_cell E3.out.rb 5
  have x6 := block_cell E3.out.rb 6
  have y0 := block_cell E3.out.nb 0
  have y1 := block_cell E3.out.nb 1
  have z0 := block_free E3.out.nb 0
  have z1 := block_free E3.out.nb 1
  simp at x0 x1 x2 x3 x4 x5 x6 y0 y1
  have hl0 := block_lt E3.out.rb
  have hl1 := block_lt E3.out.nb
  go_wp2_with fail
  clear x0 x1 x2 x3 x4 x5 x6 y0 y1 z0 z1 hl0 hl1
  refine (eBal E3.out num node.toNat node HND.out.1 hnum HND.out.2).mono ?_
  rintro e w4 ⟨rfl, E4⟩
  clear E3
  have x0 := block_cell E4.out.rb 0
  have x1 := block_cell E4.out.rb 1
  have x2 := block_cell E4.out.rb 2
  have x3 := block_cell E4.out.rb 3
  have x4 := block_cell E4.out.rb 4
  have x5 := block_cell E4.out.rb 5
  have x6 := block_cell E4.out.rb 6
  have y0 := block_cell E4.out.nb 0
  have y1 := block_cell E4.out.nb 1
  have z0 := block_free E4.out.nb 0
  have z1 := block_free E4.out.nb 1
  simp at x0 x1 x2 x3 x4 x5 x6 y0 y1
  have hl0 := block_lt E4.out.rb
  have hl1 := block_lt E4.out.nb
  go_wp2_with fail
  clear x0 x1 x2 x3 x4 x5 x6 y0 y1 z0 z1 hl0 hl1
  refine (eNum E4.out slot hslot).mono ?_
  rintro e w5 ⟨rfl, E5⟩
  clear E4
  have x0 := block_cell E5.out.rb 0
  have x1 := block_cell E5.out.rb 1
  have x2 := block_cell E5.out.rb 2
  have x3 := block_cell E5.out.rb 3
  have x4 := block_cell E5.out.rb 4
  have x5 := block_cell E5.out.rb 5
  have x6 := block_cell E5.out.rb 6
  have y0 := block_cell E5.out.nb 0
  have y1 := block_cell E5.out.nb 1
  have z0 := block_free E5.out.nb 0
  have z1 := block_free E5.out.nb 1
  simp at x0 x1 x2 x3 x4 x5 x6 y0 y1
  have hl0 := block_lt E5.out.rb
  have hl1 := block_lt E5.out.nb
  go_wp2_with fail
  clear x0 x1 x2 x3 x4 x5 x6 y0 y1 z0 z1 hl0 hl1
  refine (eBat E5.out hst HR.out hn H8.out H7.out).mono ?_
  rintro e w6 ⟨rfl, E6⟩
  clear E5
  have x0 := block_cell E6.out.rb 0
  have x1 := block_cell E6.out.rb 1
  have x2 := block_cell E6.out.rb 2
  have x3 := block_cell E6.out.rb 3
  have x4 := block_cell E6.out.rb 4
  have x5 := block_cell E6.out.rb 5
  have x6 := block_cell E6.out.rb 6
  have y0 := block_cell E6.out.nb 0
  have y1 := block_cell E6.out.nb 1
  have z0 := block_free E6.out.nb 0
  have z1 := block_free E6.out.nb 1
  simp at x0 x1 x2 x3 x4 x5 x6 y0 y1
  have hl0 := block_lt E6.out.rb
  have hl1 := block_lt E6.out.nb
  obtain ⟨vo, vn, vc, c2, FIN⟩ := er_end E6.out (.int .i64 0) (.int .i64 0)
  go_wp2
  refine bodyPost_ret (v := .tuple #[.slice vo vn vc, .agg #[.int .i64 0, .int .i64 0]]) (by simp [results, Tryz.results4, go_sem, y0, y1]) rfl ⟨_, rfl, ?_, FIN.out.2⟩
  have hL := congrArg WS.L HLL.out
  have hF := FIN.out.1
  have e : encRec 2 num node.toNat slot st rs m D = _ := hL.symm
  rw [e]
  exact hF
end Go.Proofs.YtlnfkooimpmahaaGreat
