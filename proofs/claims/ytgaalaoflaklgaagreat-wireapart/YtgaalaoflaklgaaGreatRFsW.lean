import Derived.Test.YtgaalaoflaklgaaGreatM44
namespace Go.Proofs.YtgaalaoflaklgaaGreat
open Go.RowKit Crc

theorem below_drewB {l : Nat} {w w1 : World} (h : Below l w w1) : Below l w w1.drew := ⟨h.os, h.tape, h.output, h.size, h.block⟩
theorem zl_at (b1 b2 b5 b10 : Bool) (f : Nat) (hf : f < 16) : (#[.bool false, .bool b1, .bool b2, .bool true, .bool true, .bool b5, .bool true, .bool true, .bool true, .bool true, .bool b10, .bool true, .bool true, .bool true, .bool true, .bool true] : Array Value)[f]? = some (.bool (List.getD [false, b1, b2, true, true, b5, true, true, true, true, b10, true, true, true, true, true] f false)) := by
  have e : (#[.bool false, .bool b1, .bool b2, .bool true, .bool true, .bool b5, .bool true, .bool true, .bool true, .bool true, .bool b10, .bool true, .bool true, .bool true, .bool true, .bool true] : Array Value) = (List.map Value.bool [false, b1, b2, true, true, b5, true, true, true, true, b10, true, true, true, true, true]).toArray := rfl
  rw [e, List.getElem?_toArray, List.getElem?_map, List.getElem?_eq_getElem (by simpa using hf)]
  simp [List.getD, List.getElem?_eq_getElem (show f < List.length [false, b1, b2, true, true, b5, true, true, true, true, b10, true, true, true, true, true] by simpa using hf)]
/-- What blankFields tells. -/
def BkP (num : Nat) (node : Int) (slot st : Nat) (ro : Option Addr) (n rc : Nat) (do_ : Option Addr) (m dc : Nat) : Prop := ∀ (cs : List Value), cs = (msgR num node slot st (.slice ro n rc) (.slice do_ m dc)) → ∀ w : World,
    Calls Tryz.prog 62 #[.agg cs.toArray] w fun e w' => ∃ b1 b2 b5 b10 : Bool, e = .returned (.agg #[.bool false, .bool b1, .bool b2, .bool true, .bool true, .bool b5, .bool true, .bool true, .bool true, .bool true, .bool b10, .bool true, .bool true, .bool true, .bool true, .bool true]) ∧ Hid (Below w.heap.size w w' ∧ (b1 = true ↔ num = 0 ∧ node = 0) ∧ (b2 = true ↔ slot = 0) ∧ (b5 = true ↔ st = 0 ∧ n = 0) ∧ (b10 = true ↔ m = 0))
/-- What first tells. -/
def FsP (fs : List Fd) (num : Nat) (node : Int) (slot st : Nat) (rs : List Rq) (n m : Nat) (e : Ending) : Prop := ∃ b1 b2 b5 b10 : Bool, (b1 = true ↔ num = 0 ∧ node = 0) ∧ (b2 = true ↔ slot = 0) ∧ (b5 = true ↔ st = 0 ∧ n = 0) ∧ (b10 = true ↔ m = 0) ∧ e = .returned (.tuple #[.int .i64 (fbGo (ckAll num node slot st rs m fs (U0, Y0)).1 (ckAll num node slot st rs m fs (U0, Y0)).2 [false, b1, b2, true, true, b5, true, true, true, true, b10, true, true, true, true, true] 15 1).1, .int .i64 (fbGo (ckAll num node slot st rs m fs (U0, Y0)).1 (ckAll num node slot st rs m fs (U0, Y0)).2 [false, b1, b2, true, true, b5, true, true, true, true, b10, true, true, true, true, true] 15 1).2])

set_option maxRecDepth 10000 in
set_option maxHeartbeats 1600000 in
theorem first_any (fs : List Fd) (hfl : fs.length ≤ 5) {cb : Nat} {num : Nat} {node : Int} {slot st : Nat} {ro : Option Addr} {rs : List Rq} {b off : Nat} {n rc : Nat} {do_ : Option Addr} {m dc : Nat} {w : World} {lb lim : Nat} (h : Ck cb (msgR num node slot st (.slice ro n rc) (.slice do_ m dc)) U0 Y0 w) (hR : Rqs lim w ro rs b off) (hlim : lim ≤ cb) (hn : rs.length = n) (hb : w.heap[lb]? = some (.cells (fs.map fun f => mv f.name (.iface 90 (.pointer (some ⟨cb, 0, none⟩)))).toArray 1 (0, 0))) (hlc : lb ≠ cb) (hbk : BkP num node slot st ro n rc do_ m dc) :
    Calls Tryz.prog 32 #[.pointer (some ⟨cb, 0, none⟩), .slice (some ⟨lb, 0, none⟩) fs.length fs.length] w fun e w' => FsP fs num node slot st rs n m e ∧ Hid (Below cb w w') := by
  have H0 : Hid (Cl fs cb num node slot st rs ro n rc do_ m dc w 0 w) := ⟨h, rfl, rfl, rfl, Nat.le_refl _, fun _ _ _ => rfl⟩
  have HC : Hid (∀ wr, w.grownBy wr (some cb) → ∀ (k : Nat), k < fs.length → ∃ f, fs[k]? = some f ∧ wr.cell? ⟨lb, k, none⟩ = some (.func (.method f.name) #[.iface 90 (.pointer (some ⟨cb, 0, none⟩))] #[])) := fun wr hg k hk => by
    refine ⟨fs[k], List.getElem?_eq_getElem hk, ?_⟩
    rw [block_cell ((hg.block lb (block_lt hb) (by simpa using hlc)).trans hb)]
    simp [List.getElem?_eq_getElem hk, mv]
  have HR : Hid (∀ wr, w.grownBy wr (some cb) → Rqs lim wr ro rs b off) := fun wr hg => hR.below ⟨hg.os, hg.tape, hg.output, hg.size, fun k hk => hg.block k (by have := h.lt; omega) (by simp; omega)⟩
  have HLT : Hid (∀ wr, w.grownBy wr (some cb) → lim ≤ wr.heap.size) := fun wr hg => by have := h.lt; have := hg.size; omega
  have HSZ : Hid ((Tryz.prog.info? 83).map (·.size) = some (List.length (msgR num node slot st (.slice ro n rc) (.slice do_ m dc)))) := by show _ = _; rw [msgR_len]; kernel_rfl
  have HBK := hide hbk
  have hm := cm_any
  have hcf := cc_any
  have HCB : Hid (cb < w.heap.size) := h.lt
  clear h hb hlc hR hbk
  go_enter Tryz.func32, Tryz.ntmps32
  go_wp2
  go_step3
  go_wp2
  go_loopw [14] (fun i wr => ∃ k : Nat, k ≤ fs.length ∧ i = .int .i64 k ∧ Hid (Cl fs cb num node slot st rs ro n rc do_ m dc w k wr)) (fun i _ => fs.length - (intOf i).toNat)
  case atStart => exact ⟨0, by omega, rfl, H0.out⟩
  case round =>
    obtain ⟨k, hk, rfl, HS⟩ := hrel
    clear H0
    by_cases hlt : k < fs.length
    · obtain ⟨f, hf, c0⟩ := HC.out wr HS.out.gr k hlt
      have HF := hide hf
      clear hf
      go_wp2_with fail
      refine (ck_any f HS.out.ck (HR.out wr HS.out.gr) (HLT.out wr HS.out.gr) hn).mono ?_
      rintro e w1 ⟨rfl, G1⟩
      have HS1 := hide (HS.out.next HF.out G1.out.1 G1.out.2)
      clear c0 G1 HS
      go_wp2
      exact ⟨⟨k + 1, by omega, by go_num, HS1.out⟩, by simp [intOf]; omega⟩
    · obtain rfl : k = fs.length := by omega
      have hck := HS.out.ck
      rw [List.take_length] at hck
      have CK := hide hck
      have HRG : Hid (wr.rangeAt cb 0 (msgR num node slot st (.slice ro n rc) (.slice do_ m dc))) := fun j v hv => by rw [Nat.zero_add]; exact hck.cellR j hv
      have GR := hide HS.out.gr
      clear hck HS
      obtain ⟨U, hU⟩ : ∃ U, (ckAll num node slot st rs m fs (U0, Y0)).1 = U := ⟨_, rfl⟩
      obtain ⟨Y, hY⟩ : ∃ Y, (ckAll num node slot st rs m fs (U0, Y0)).2 = Y := ⟨_, rfl⟩
      rw [hU, hY] at CK
      have HUY := hide (And.intro hU hY)
      clear hU hY
      go_wp2_with (first
        | (refine wpList_load_mid rfl 83 _ rfl cb 0 rfl (msgR num node slot st (.slice ro n rc) (.slice do_ m dc)) _ HRG.out Tryz.underlying83 rfl HSZ.out ?_))
      refine (HBK.out _ rfl wr).mono ?_
      rintro e w2 ⟨b1, b2, b5, b10, rfl, G2⟩
      have HBB := hide G2.out.2
      have CK2 := hide (CK.out.quiet (below_none G2.out.1))
      have GR2 := hide (grown_quiet GR.out (below_none G2.out.1))
      clear G2 CK GR HRG HBK HSZ
      obtain ⟨W3, hW3⟩ : ∃ W3, w2.alloc (.cells #[Value.bool false, Value.bool b1, Value.bool b2, Value.bool true, Value.bool true, Value.bool b5, Value.bool true, Value.bool true, Value.bool true, Value.bool true, Value.bool b10, Value.bool true, Value.bool true, Value.bool true, Value.bool true, Value.bool true] 84) = W3 := ⟨_, rfl⟩
      have g3 : w2.grownBy W3 none := by rw [← hW3]; exact World.grownBy_alloc _ _ none
      have BZ : Hid (W3.heap[w2.heap.size]? = some (.cells #[Value.bool false, Value.bool b1, Value.bool b2, Value.bool true, Value.bool true, Value.bool b5, Value.bool true, Value.bool true, Value.bool true, Value.bool true, Value.bool b10, Value.bool true, Value.bool true, Value.bool true, Value.bool true, Value.bool true] 84 (0, 0))) := by show _ = _; rw [← hW3]; exact alloc_at _ _
      have CK3 := hide (CK2.out.quiet g3)
      have GR3 := hide (grown_quiet GR2.out g3)
      have HW3 := hide hW3
      clear g3 CK2 GR2 hW3
      go_wp2
      go_step3
      go_wp2
      rw [HW3.out]
      clear HW3
      generalize w2.heap.size = bz at *
      have HBW : Hid (Below cb w W3) := ⟨GR3.out.os, GR3.out.tape, GR3.out.output, GR3.out.size, fun k hk => GR3.out.block k (by have := CK3.out.lt; have := HCB.out; omega) (by simp; omega)⟩
      go_loopw [9, 10, 11] (fun x y i wr => ∃ f : Nat, 1 ≤ f ∧ f ≤ 16 ∧ x = .int .i64 0 ∧ y = .int .i64 0 ∧ i = .int .i64 f ∧ Hid (wr = W3) ∧ Hid (fbGo U Y [false, b1, b2, true, true, b5, true, true, true, true, b10, true, true, true, true, true] 15 1 = fbGo U Y [false, b1, b2, true, true, b5, true, true, true, true, b10, true, true, true, true, true] (16 - f) f)) (fun _ _ i _ => 16 - (intOf i).toNat)
      case atStart => exact ⟨1, by omega, by omega, rfl, rfl, rfl, rfl, rfl⟩
      case round =>
        obtain ⟨f, hf1, hf2, rfl, rfl, rfl, HWR, HG⟩ := hrel
        by_cases hlt : f < 16
        · have u1 : wr.cell? ⟨cb, 49 + f, none⟩ = some (.bool (U.getD f false)) := by rw [HWR.out]; exact CK3.out.cellU f hlt
          have u2 : wr.cell? ⟨cb, 65 + f, none⟩ = some (.int .i64 (Y.getD f 0)) := by rw [HWR.out]; exact CK3.out.cellY f hlt
          have z1 : wr.cell? ⟨bz, f, none⟩ = some (.bool (List.getD [false, b1, b2, true, true, b5, true, true, true, true, b10, true, true, true, true, true] f false)) := by rw [HWR.out, block_cell BZ.out f]; exact zl_at b1 b2 b5 b10 f hlt
          obtain ⟨uf, huf⟩ : ∃ uf, U.getD f false = uf := ⟨_, rfl⟩
          obtain ⟨yf, hyf⟩ : ∃ yf, Y.getD f 0 = yf := ⟨_, rfl⟩
          obtain ⟨zf, hzf⟩ : ∃ zf, List.getD [false, b1, b2, true, true, b5, true, true, true, true, b10, true, true, true, true, true] f false = zf := ⟨_, rfl⟩
          rw [huf] at u1
          rw [hyf] at u2
          rw [hzf] at z1
          have HUF := hide huf
          have HYF := hide hyf
          have HZF := hide hzf
          clear huf hyf hzf
          cases uf with
          | true =>
            by_cases hy : yf = 0
            · subst hy
              have HG2 : Hid (fbGo U Y [false, b1, b2, true, true, b5, true, true, true, true, b10, true, true, true, true, true] 15 1 = fbGo U Y [false, b1, b2, true, true, b5, true, true, true, true, b10, true, true, true, true, true] (16 - (f + 1)) (f + 1)) := by
                show _ = _
                rw [HG.out, show 16 - f = (16 - (f + 1)) + 1 by omega, fbGo, HUF.out, HYF.out, HZF.out, if_neg (by simp), if_neg (by simp)]
              clear HG HUF HYF HZF
              go_wp2
              exact ⟨⟨f + 1, by omega, by omega, rfl, rfl, by go_num, HWR.out, HG2.out⟩, by simp [intOf]; omega⟩
            · have hyb : (yf != 0) = true := by simp [hy]
              have HG2 : Hid (fbGo U Y [false, b1, b2, true, true, b5, true, true, true, true, b10, true, true, true, true, true] 15 1 = ((f : Int), yf)) := by
                show _ = _
                rw [HG.out, show 16 - f = (16 - (f + 1)) + 1 by omega, fbGo, HUF.out, HYF.out, HZF.out, if_pos ⟨rfl, hy⟩]
              clear HG HUF HYF HZF
              go_wp2
              go_region_held (fun w' => w'.cell? ⟨cb, 65 + f, none⟩ = some (.int .i64 yf)) (go_keep) (fail)
              all_goals go_wp2
              rw [Exit.noGoto_ret]
              go_ret2
              refine ⟨⟨b1, b2, b5, b10, HBB.out.1, HBB.out.2.1, HBB.out.2.2.1, HBB.out.2.2.2, by rw [HUY.out.1, HUY.out.2, HG2.out]; rfl⟩, ?_⟩
              rw [HWR.out]
              exact below_drewB HBW.out
          | false =>
            cases zf with
            | true =>
              have HG2 : Hid (fbGo U Y [false, b1, b2, true, true, b5, true, true, true, true, b10, true, true, true, true, true] 15 1 = fbGo U Y [false, b1, b2, true, true, b5, true, true, true, true, b10, true, true, true, true, true] (16 - (f + 1)) (f + 1)) := by
                show _ = _
                rw [HG.out, show 16 - f = (16 - (f + 1)) + 1 by omega, fbGo, HUF.out, HYF.out, HZF.out, if_neg (by simp), if_neg (by simp)]
              clear HG HUF HYF HZF
              go_wp2
              exact ⟨⟨f + 1, by omega, by omega, rfl, rfl, by go_num, HWR.out, HG2.out⟩, by simp [intOf]; omega⟩
            | false =>
              have HG2 : Hid (fbGo U Y [false, b1, b2, true, true, b5, true, true, true, true, b10, true, true, true, true, true] 15 1 = ((f : Int), 29)) := by
                show _ = _
                rw [HG.out, show 16 - f = (16 - (f + 1)) + 1 by omega, fbGo, HUF.out, HYF.out, HZF.out, if_neg (by simp), if_pos ⟨rfl, rfl⟩]
              clear HG HUF HYF HZF
              go_wp2
              rw [Exit.noGoto_ret]
              go_ret2
              refine ⟨⟨b1, b2, b5, b10, HBB.out.1, HBB.out.2.1, HBB.out.2.2.1, HBB.out.2.2.2, by rw [HUY.out.1, HUY.out.2, HG2.out]; rfl⟩, ?_⟩
              rw [HWR.out]
              exact HBW.out
        · obtain rfl : f = 16 := by omega
          have HG2 : Hid (fbGo U Y [false, b1, b2, true, true, b5, true, true, true, true, b10, true, true, true, true, true] 15 1 = (0, 0)) := by rw [HG.out]; rfl
          go_wp2
          rw [Exit.noGoto_ret]
          go_ret2
          refine ⟨⟨b1, b2, b5, b10, HBB.out.1, HBB.out.2.1, HBB.out.2.2.1, HBB.out.2.2.2, by rw [HUY.out.1, HUY.out.2, HG2.out]; rfl⟩, ?_⟩
          rw [HWR.out]
          exact HBW.out

end Go.Proofs.YtgaalaoflaklgaaGreat
