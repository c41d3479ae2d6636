import Derived.Test.YtldhafpeigdloaaGreatDoorM26
import Derived.Test.YtldhafpeigdloaaGreatDoorVCk
import Derived.Test.YtldhafpeigdloaaGreatDoorVBkB
namespace Go.Proofs.YtldhafpeigdloaaGreatDoor
open Go.RowKit Crc

theorem below_drewB {l : Nat} {w w1 : World} (h : Below l w w1) : Below l w w1.drew := ⟨h.os, h.tape, h.output, h.size, h.block⟩
theorem zl_at (b1 b2 b5 b10 : Bool) (f : Nat) (hf : f < 16) : (#[.bool false, .bool b1, .bool b2, .bool true, .bool true, .bool b5, .bool true, .bool true, .bool true, .bool true, .bool b10, .bool true, .bool true, .bool true, .bool true, .bool true] : Array Value)[f]? = some (.bool (List.getD [false, b1, b2, true, true, b5, true, true, true, true, b10, true, true, true, true, true] f false)) := by
  have e : (#[.bool false, .bool b1, .bool b2, .bool true, .bool true, .bool b5, .bool true, .bool true, .bool true, .bool true, .bool b10, .bool true, .bool true, .bool true, .bool true, .bool true] : Array Value) = (List.map Value.bool [false, b1, b2, true, true, b5, true, true, true, true, b10, true, true, true, true, true]).toArray := rfl
  rw [e, List.getElem?_toArray, List.getElem?_map, List.getElem?_eq_getElem (by simpa using hf)]
  simp [List.getD, List.getElem?_eq_getElem (show f < List.length [false, b1, b2, true, true, b5, true, true, true, true, b10, true, true, true, true, true] by simpa using hf)]
/-- What blankFields tells. -/
def BkP (num : Nat) (node : Int) (slot st : Nat) (ro : Option Addr) (n rc : Nat) (do_ : Option Addr) (m dc : Nat) : Prop := ∀ (cs : List Value), cs = (msgR num node slot st (.slice ro n rc) (.slice do_ m dc)) → ∀ w : World,
    Calls Tryz.prog 28 #[.agg cs.toArray] w fun e w' => ∃ b1 b2 b5 b10 : Bool, e = .returned (.agg #[.bool false, .bool b1, .bool b2, .bool true, .bool true, .bool b5, .bool true, .bool true, .bool true, .bool true, .bool b10, .bool true, .bool true, .bool true, .bool true, .bool true]) ∧ Hid (Below w.heap.size w w' ∧ (b1 = true ↔ num = 0 ∧ node = 0) ∧ (b2 = true ↔ slot = 0) ∧ (b5 = true ↔ st = 0 ∧ n = 0) ∧ (b10 = true ↔ m = 0))
/-- What first tells. -/
def FsP (fs : List Fd) (num : Nat) (node : Int) (slot st : Nat) (rs : List Rq) (n m : Nat) (e : Ending) : Prop := ∃ b1 b2 b5 b10 : Bool, (b1 = true ↔ num = 0 ∧ node = 0) ∧ (b2 = true ↔ slot = 0) ∧ (b5 = true ↔ st = 0 ∧ n = 0) ∧ (b10 = true ↔ m = 0) ∧ e = .returned (.tuple #[.int .i64 (fbGo (ckAll num node slot st rs m fs (U0, Y0)).1 (ckAll num node slot st rs m fs (U0, Y0)).2 [false, b1, b2, true, true, b5, true, true, true, true, b10, true, true, true, true, true] 15 1).1, .int .i64 (fbGo (ckAll num node slot st rs m fs (U0, Y0)).1 (ckAll num node slot st rs m fs (U0, Y0)).2 [false, b1, b2, true, true, b5, true, true, true, true, b10, true, true, true, true, true] 15 1).2])

end Go.Proofs.YtldhafpeigdloaaGreatDoor
namespace Go.Proofs.YtldhafpeigdloaaGreatDoor
open Go.RowKit Crc

def ckAllm (m : Mg) : List Mf → List Bool × List Int → List Bool × List Int
  | [], x => x
  | f :: t, x => ckAllm m t (x.1.set f.ix true, x.2.set f.ix (f.yv m))
theorem ckAllm_snoc (m : Mg) : ∀ (fs : List Mf) (f : Mf) (x : List Bool × List Int), ckAllm m (fs ++ [f]) x = ((ckAllm m fs x).1.set f.ix true, (ckAllm m fs x).2.set f.ix (f.yv m))
  | [], f, x => rfl
  | g :: t, f, x => by rw [List.cons_append, ckAllm, ckAllm_snoc m t f]; rfl
/-- What first tells: the place and the reason. -/
def mFb (m : Mg) (fs : List Mf) : Int × Int := fbGo (ckAllm m fs (U0, Y0)).1 (ckAllm m fs (U0, Y0)).2 m.zl 15 1
/-- While the fields are looked over. -/
structure Clm (fs : List Mf) (cb : Nat) (m : Mg) (w : World) (k : Nat) (wr : World) : Prop where
  ck : Ck cb m.R (ckAllm m (fs.take k) (U0, Y0)).1 (ckAllm m (fs.take k) (U0, Y0)).2 wr
  gr : w.grownBy wr (some cb)
theorem Clm.next {fs : List Mf} {cb : Nat} {m : Mg} {w : World} {k : Nat} {wr w1 : World} {f : Mf} (h : Clm fs cb m w k wr) (hf : fs[k]? = some f) (h1 : Ck cb m.R ((ckAllm m (fs.take k) (U0, Y0)).1.set f.ix true) ((ckAllm m (fs.take k) (U0, Y0)).2.set f.ix (f.yv m)) w1) (h2 : wr.grownBy w1 (some cb)) : Clm fs cb m w (k + 1) w1 := by
  refine ⟨?_, grown_trans (row := some cb) h.gr h2⟩
  rw [List.take_add_one, hf]
  show Ck cb _ (ckAllm m (fs.take k ++ [f]) (U0, Y0)).1 (ckAllm m (fs.take k ++ [f]) (U0, Y0)).2 w1
  rw [ckAllm_snoc]
  exact h1
theorem zlm_at {ZL : List Bool} (h : ZL.length = 16) (f : Nat) (hf : f < 16) : (ZL.map Value.bool).toArray[f]? = some (.bool (ZL.getD f false)) := by
  rw [List.getElem?_toArray, List.getElem?_map, List.getElem?_eq_getElem (by omega)]
  simp [List.getD, List.getElem?_eq_getElem (show f < ZL.length by omega)]

set_option maxRecDepth 10000 in
set_option maxHeartbeats 1600000 in
theorem firstm_any (fs : List Mf) (hfl : fs.length ≤ 6) {cb : Nat} {m : Mg} {w : World} {lb lim : Nat} (h : Ck cb m.R U0 Y0 w) (hx : m.Ok lim w) (hlim : lim ≤ cb) (hb : w.heap[lb]? = some (.cells (fs.map fun f => mv f.name (.iface 56 (.pointer (some ⟨cb, 0, none⟩)))).toArray 1 (0, 0))) (hlc : lb ≠ cb) :
    Calls Tryz.prog 14 #[.pointer (some ⟨cb, 0, none⟩), .slice (some ⟨lb, 0, none⟩) fs.length fs.length] w fun e w' => e = .returned (.tuple #[.int .i64 (mFb m fs).1, .int .i64 (mFb m fs).2]) ∧ Hid (Below cb w w') := by
  have H0 : Hid (Clm fs cb m w 0 w) := ⟨h, rfl, rfl, rfl, Nat.le_refl _, fun _ _ _ => rfl⟩
  have HC : Hid (∀ wr, w.grownBy wr (some cb) → ∀ (k : Nat), k < fs.length → ∃ f, fs[k]? = some f ∧ wr.cell? ⟨lb, k, none⟩ = some (.func (.method f.name) #[.iface 56 (.pointer (some ⟨cb, 0, none⟩))] #[])) := fun wr hg k hk => by
    refine ⟨fs[k], List.getElem?_eq_getElem hk, ?_⟩
    rw [block_cell ((hg.block lb (block_lt hb) (by simpa using hlc)).trans hb)]
    simp [List.getElem?_eq_getElem hk, mv]
  have HR : Hid (∀ wr, w.grownBy wr (some cb) → m.Ok lim wr) := fun wr hg => hx.below ⟨hg.os, hg.tape, hg.output, hg.size, fun k hk => hg.block k (by have := h.lt; omega) (by simp; omega)⟩
  have HLT : Hid (∀ wr, w.grownBy wr (some cb) → lim ≤ wr.heap.size) := fun wr hg => by have := h.lt; have := hg.size; omega
  have HSZ : Hid ((Tryz.prog.info? 36).map (·.size) = some (List.length m.R)) := by show _ = _; rw [Mg.len hx.rl]; kernel_rfl
  have HBK : Hid (∀ w : World, Calls Tryz.prog 28 #[.agg m.R.toArray] w fun e w' => e = .returned (.agg (m.zl.map Value.bool).toArray) ∧ Hid (Below w.heap.size w w')) := fun w => blankm_any m hx.rl _ rfl w
  have hm := mcm_any
  have hcf := mcc_any
  have HCB : Hid (cb < w.heap.size) := h.lt
  clear h hb hlc hx
  go_enter Tryz.func14, Tryz.ntmps14
  go_wp2
  go_step3
  go_wp2
  go_loopw [14] (fun i wr => ∃ k : Nat, k ≤ fs.length ∧ i = .int .i64 k ∧ Hid (Clm fs cb m w k wr)) (fun i _ => fs.length - (intOf i).toNat)
  case atStart => exact ⟨0, by omega, rfl, H0.out⟩
  case round =>
    obtain ⟨k, hk, rfl, HS⟩ := hrel
    clear H0
    by_cases hlt : k < fs.length
    · obtain ⟨f, hf, c0⟩ := HC.out wr HS.out.gr k hlt
      have HF := hide hf
      clear hf
      go_wp2_with fail
      refine (ckm_any f HS.out.ck (HR.out wr HS.out.gr) (HLT.out wr HS.out.gr)).mono ?_
      rintro e w1 ⟨rfl, G1⟩
      have HS1 := hide (HS.out.next HF.out G1.out.1 G1.out.2)
      clear c0 G1 HS
      go_wp2
      exact ⟨⟨k + 1, by omega, by go_num, HS1.out⟩, by simp [intOf]; omega⟩
    · obtain rfl : k = fs.length := by omega
      have hck := HS.out.ck
      rw [List.take_length] at hck
      have CK := hide hck
      have HRG : Hid (wr.rangeAt cb 0 m.R) := fun j v hv => by rw [Nat.zero_add]; exact hck.cellR j hv
      have GR := hide HS.out.gr
      clear hck HS
      obtain ⟨U, hU⟩ : ∃ U, (ckAllm m fs (U0, Y0)).1 = U := ⟨_, rfl⟩
      obtain ⟨Y, hY⟩ : ∃ Y, (ckAllm m fs (U0, Y0)).2 = Y := ⟨_, rfl⟩
      rw [hU, hY] at CK
      have HUY := hide (And.intro hU hY)
      clear hU hY
      go_wp2_with (first
        | (refine wpList_load_mid rfl 36 _ rfl cb 0 rfl m.R _ HRG.out Tryz.underlying36 rfl HSZ.out ?_))
      refine (HBK.out wr).mono ?_
      rintro e w2 ⟨rfl, G2⟩
      have CK2 := hide (CK.out.quiet (below_none G2.out))
      have GR2 := hide (grown_quiet GR.out (below_none G2.out))
      obtain ⟨o0, o1, o2, o3, o4, o5, o6, o7, o8, o9, o10, o11, o12, o13, o14, o15, hZL⟩ : ∃ o0 o1 o2 o3 o4 o5 o6 o7 o8 o9 o10 o11 o12 o13 o14 o15, m.zl = [o0, o1, o2, o3, o4, o5, o6, o7, o8, o9, o10, o11, o12, o13, o14, o15] := ⟨_, _, _, _, _, _, _, _, _, _, _, _, _, _, _, _, rfl⟩
      have HMF : Hid (mFb m fs = fbGo U Y [o0, o1, o2, o3, o4, o5, o6, o7, o8, o9, o10, o11, o12, o13, o14, o15] 15 1) := by show _ = _; unfold mFb; rw [HUY.out.1, HUY.out.2, hZL]
      rw [hZL]
      simp only [List.map_cons, List.map_nil]
      clear G2 CK GR HRG HBK HSZ hZL
      obtain ⟨W3, hW3⟩ : ∃ W3, w2.alloc (.cells #[Value.bool o0, Value.bool o1, Value.bool o2, Value.bool o3, Value.bool o4, Value.bool o5, Value.bool o6, Value.bool o7, Value.bool o8, Value.bool o9, Value.bool o10, Value.bool o11, Value.bool o12, Value.bool o13, Value.bool o14, Value.bool o15] 50) = W3 := ⟨_, rfl⟩
      have g3 : w2.grownBy W3 none := by rw [← hW3]; exact World.grownBy_alloc _ _ none
      have BZ : Hid (W3.heap[w2.heap.size]? = some (.cells #[Value.bool o0, Value.bool o1, Value.bool o2, Value.bool o3, Value.bool o4, Value.bool o5, Value.bool o6, Value.bool o7, Value.bool o8, Value.bool o9, Value.bool o10, Value.bool o11, Value.bool o12, Value.bool o13, Value.bool o14, Value.bool o15] 50 (0, 0))) := by show _ = _; rw [← hW3]; exact alloc_at _ _
      have CK3 := hide (CK2.out.quiet g3)
      have GR3 := hide (grown_quiet GR2.out g3)
      have HW3 := hide hW3
      clear g3 CK2 GR2 hW3
      go_wp2
      go_step3
      go_wp2
      rw [HW3.out]
      clear HW3
      generalize w2.heap.size = bz at *
      have HBW : Hid (Below cb w W3) := ⟨GR3.out.os, GR3.out.tape, GR3.out.output, GR3.out.size, fun k hk => GR3.out.block k (by have := CK3.out.lt; have := HCB.out; omega) (by simp; omega)⟩
      go_loopw [9, 10, 11] (fun x y i wr => ∃ f : Nat, 1 ≤ f ∧ f ≤ 16 ∧ x = .int .i64 0 ∧ y = .int .i64 0 ∧ i = .int .i64 f ∧ Hid (wr = W3) ∧ Hid (fbGo U Y [o0, o1, o2, o3, o4, o5, o6, o7, o8, o9, o10, o11, o12, o13, o14, o15] 15 1 = fbGo U Y [o0, o1, o2, o3, o4, o5, o6, o7, o8, o9, o10, o11, o12, o13, o14, o15] (16 - f) f)) (fun _ _ i _ => 16 - (intOf i).toNat)
      case atStart => exact ⟨1, by omega, by omega, rfl, rfl, rfl, rfl, rfl⟩
      case round =>
        obtain ⟨f, hf1, hf2, rfl, rfl, rfl, HWR, HG⟩ := hrel
        by_cases hlt : f < 16
        · have u1 : wr.cell? ⟨cb, 49 + f, none⟩ = some (.bool (U.getD f false)) := by rw [HWR.out]; exact CK3.out.cellU f hlt
          have u2 : wr.cell? ⟨cb, 65 + f, none⟩ = some (.int .i64 (Y.getD f 0)) := by rw [HWR.out]; exact CK3.out.cellY f hlt
          have z1 : wr.cell? ⟨bz, f, none⟩ = some (.bool (List.getD [o0, o1, o2, o3, o4, o5, o6, o7, o8, o9, o10, o11, o12, o13, o14, o15] f false)) := by rw [HWR.out, block_cell BZ.out f]; exact zlm_at (ZL := [o0, o1, o2, o3, o4, o5, o6, o7, o8, o9, o10, o11, o12, o13, o14, o15]) rfl f hlt
          obtain ⟨uf, huf⟩ : ∃ uf, U.getD f false = uf := ⟨_, rfl⟩
          obtain ⟨yf, hyf⟩ : ∃ yf, Y.getD f 0 = yf := ⟨_, rfl⟩
          obtain ⟨zf, hzf⟩ : ∃ zf, List.getD [o0, o1, o2, o3, o4, o5, o6, o7, o8, o9, o10, o11, o12, o13, o14, o15] f false = zf := ⟨_, rfl⟩
          rw [huf] at u1
          rw [hyf] at u2
          rw [hzf] at z1
          have HUF := hide huf
          have HYF := hide hyf
          have HZF := hide hzf
          clear huf hyf hzf
          cases uf with
          | true =>
            by_cases hy : yf = 0
            · subst hy
              have HG2 : Hid (fbGo U Y [o0, o1, o2, o3, o4, o5, o6, o7, o8, o9, o10, o11, o12, o13, o14, o15] 15 1 = fbGo U Y [o0, o1, o2, o3, o4, o5, o6, o7, o8, o9, o10, o11, o12, o13, o14, o15] (16 - (f + 1)) (f + 1)) := by
                show _ = _
                rw [HG.out, show 16 - f = (16 - (f + 1)) + 1 by omega, fbGo, HUF.out, HYF.out, HZF.out, if_neg (by simp), if_neg (by simp)]
              clear HG HUF HYF HZF
              go_wp2
              exact ⟨⟨f + 1, by omega, by omega, rfl, rfl, by go_num, HWR.out, HG2.out⟩, by simp [intOf]; omega⟩
            · have hyb : (yf != 0) = true := by simp [hy]
              have HG2 : Hid (fbGo U Y [o0, o1, o2, o3, o4, o5, o6, o7, o8, o9, o10, o11, o12, o13, o14, o15] 15 1 = ((f : Int), yf)) := by
                show _ = _
                rw [HG.out, show 16 - f = (16 - (f + 1)) + 1 by omega, fbGo, HUF.out, HYF.out, HZF.out, if_pos ⟨rfl, hy⟩]
              clear HG HUF HYF HZF
              go_wp2
              go_region_held (fun w' => w'.cell? ⟨cb, 65 + f, none⟩ = some (.int .i64 yf)) (go_keep) (fail)
              all_goals go_wp2
              rw [Exit.noGoto_ret]
              go_ret2
              refine ⟨by rw [HMF.out, HG2.out]; rfl, ?_⟩
              rw [HWR.out]
              exact below_drewB HBW.out
          | false =>
            cases zf with
            | true =>
              have HG2 : Hid (fbGo U Y [o0, o1, o2, o3, o4, o5, o6, o7, o8, o9, o10, o11, o12, o13, o14, o15] 15 1 = fbGo U Y [o0, o1, o2, o3, o4, o5, o6, o7, o8, o9, o10, o11, o12, o13, o14, o15] (16 - (f + 1)) (f + 1)) := by
                show _ = _
                rw [HG.out, show 16 - f = (16 - (f + 1)) + 1 by omega, fbGo, HUF.out, HYF.out, HZF.out, if_neg (by simp), if_neg (by simp)]
              clear HG HUF HYF HZF
              go_wp2
              exact ⟨⟨f + 1, by omega, by omega, rfl, rfl, by go_num, HWR.out, HG2.out⟩, by simp [intOf]; omega⟩
            | false =>
              have HG2 : Hid (fbGo U Y [o0, o1, o2, o3, o4, o5, o6, o7, o8, o9, o10, o11, o12, o13, o14, o15] 15 1 = ((f : Int), 29)) := by
                show _ = _
                rw [HG.out, show 16 - f = (16 - (f + 1)) + 1 by omega, fbGo, HUF.out, HYF.out, HZF.out, if_neg (by simp), if_pos ⟨rfl, rfl⟩]
              clear HG HUF HYF HZF
              go_wp2
              rw [Exit.noGoto_ret]
              go_ret2
              refine ⟨by rw [HMF.out, HG2.out]; rfl, ?_⟩
              rw [HWR.out]
              exact HBW.out
        · obtain rfl : f = 16 := by omega
          have HG2 : Hid (fbGo U Y [o0, o1, o2, o3, o4, o5, o6, o7, o8, o9, o10, o11, o12, o13, o14, o15] 15 1 = (0, 0)) := by rw [HG.out]; rfl
          go_wp2
          rw [Exit.noGoto_ret]
          go_ret2
          refine ⟨by rw [HMF.out, HG2.out]; rfl, ?_⟩
          rw [HWR.out]
          exact HBW.out

end Go.Proofs.YtldhafpeigdloaaGreatDoor
