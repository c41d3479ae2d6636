import Derived.Test.YtcfenjpdjogmdaaLU23
import Derived.Test.YtcfenjpdjogmdaaLU26
namespace Go.Proofs.Ytcfenjpdjogmdaa
open Go.RowKit

/-- A ledger that was begun with these accounts, to its last cell. -/
structure LP2 (W : World) (p a b : Nat) (l : List Ac) (s : Nat) : Prop extends LP W p a b l s where
  more : ∃ cs : Array Value, W.heap[p]? = some (.cells cs 77 (0, 0)) ∧ cs.size = 326 ∧ cs[324]? = some nilS ∧ cs[325]? = some nilS ∧ ∀ k, k < 64 → ∀ (j : Nat) (v : Value), Jn.zero.vals[j]? = some v → cs[4 + k * 5 + j]? = some v
theorem LP2.kept {W W' : World} {p a b : Nat} {l : List Ac} {s : Nat} (h : LP2 W p a b l s) (hb : Below W.heap.size W W') : LP2 W' p a b l s := by
  obtain ⟨cs, h1, h2⟩ := h.more
  exact ⟨h.toLP.kept hb, cs, (hb.block _ (block_lt h1)).trans h1, h2⟩
theorem LP2.put {W W' : World} {p a b : Nat} {l : List Ac} {s : Nat} (h : LP2 W p a b l s) {x : Ac} (hno : byId l x.id = none) (ht : TAm W' a (l.length + 1) (updA (byId l) x)) (hg : W.grownBy W' (some a)) : LP2 W' p a b (l ++ [x]) s := by
  obtain ⟨cs, h1, h2⟩ := h.more
  obtain ⟨es, k, h3⟩ := h.acc.obj
  exact ⟨h.toLP.put hno ht hg, cs, (hg.block _ (block_lt h1) (fun e => by cases e; rw [h1] at h3; cases h3)).trans h1, h2⟩
theorem LP2.sum {W : World} {p a b : Nat} {l : List Ac} {s : Nat} (h : LP2 W p a b l s) (s' : Nat) : LP2 (W.setCell ⟨p, 0, none⟩ (.int .u64 (s' : Nat))) p a b l s' := by
  obtain ⟨cs, h1, h2, h3, h4, h5⟩ := h.more
  refine ⟨h.toLP.sum s', cs.setIfInBounds 0 (.int .u64 (s' : Nat)), heap_setCell_same W p 0 _ _ _ h1, by simpa using h2, by simpa using h3, by simpa using h4, fun k hk j v hj => ?_⟩
  simp only [Array.getElem?_setIfInBounds]
  rw [if_neg (by omega)]
  exact h5 k hk j v hj
def ledOk (cs : Array Value) : Bool := cs.size == 326 && (List.range 64).all (fun k => (List.range 5).all (fun j => match Jn.zero.vals[j]?, cs[4 + k * 5 + j]? with
  | some (.int ka a), some (.int kb b) => ka == kb && a == b
  | _, _ => false))
theorem led_ok (a b : Nat) : ledOk (led a b) = true ∧ (led a b)[324]? = some nilS ∧ (led a b)[325]? = some nilS := by
  refine ⟨by kernel_rfl, by kernel_rfl, by kernel_rfl⟩
theorem led_ring {cs : Array Value} (h : ledOk cs = true) : cs.size = 326 ∧ ∀ k, k < 64 → ∀ (j : Nat) (v : Value), Jn.zero.vals[j]? = some v → cs[4 + k * 5 + j]? = some v := by
  unfold ledOk at h
  rw [Bool.and_eq_true] at h
  refine ⟨by simpa using h.1, fun k hk j v hj => ?_⟩
  have hj5 : j < 5 := (List.getElem?_eq_some_iff.1 hj).1
  have h1 := List.all_eq_true.1 (List.all_eq_true.1 h.2 k (List.mem_range.2 hk)) j (List.mem_range.2 hj5)
  rw [hj] at h1
  split at h1
  · rename_i ka a kb b e1 e2
    cases e1
    rw [Bool.and_eq_true] at h1
    rw [e2, eq_of_beq h1.1, eq_of_beq h1.2]
  · cases h1
theorem blankG (w : World) : Calls Try.prog 42 #[] w fun e w' => ∃ p a b, e = .returned (.pointer (some ⟨p, 0, none⟩)) ∧ Hid (LP2 w' p a b [] 0 ∧ Below w.heap.size w w' ∧ w.heap.size ≤ p ∧ w.heap.size ≤ a ∧ w.heap.size ≤ b) := by
  refine (blank_any w).mono ?_
  rintro e w' ⟨rfl, rfl⟩
  have h1 := lp_blank w
  have h2 := led_ok w.heap.size (w.heap.size + 1)
  obtain ⟨h3, h4⟩ := led_ring h2.1
  have e2 : ((w.alloc (.map #[] 0)).alloc (.map #[] 0)).heap.size = w.heap.size + 2 := by simp
  have hc := alloc_atK ((w.alloc (.map #[] 0)).alloc (.map #[] 0)) (.cells (led w.heap.size (w.heap.size + 1)) 77 (0, 0))
  rw [e2] at hc
  exact ⟨_, _, _, rfl, ⟨h1, _, hc, h3, h2.2.1, h2.2.2, h4⟩, (((Below.refl _ w).alloc (Nat.le_refl _) _).alloc (by simp) _).alloc (by simp; omega) _, by omega, Nat.le_refl _, by omega⟩
/-- What New gives. -/
def NewPG (w : World) (l : List Ac) (v er : Value) (w' : World) : Prop := Below w.heap.size w w' ∧ ((64 < l.length ∧ v = .pointer none ∧ Chain w'.heap.size w' [⟨ledgerN, 0⟩] er 43) ∨ (l.length ≤ 64 ∧ ∃ k c : Nat, Bad l k c ∧ v = .pointer none ∧ Chain w'.heap.size w' [⟨ledgerN, (k : Int)⟩] er (c : Int)) ∨ (l.length ≤ 64 ∧ Good l l.length ∧ er = .nilIface ∧ ∃ p a b, v = .pointer (some ⟨p, 0, none⟩) ∧ LP2 w' p a b l (sumA l) ∧ w.heap.size ≤ p ∧ w.heap.size ≤ a ∧ w.heap.size ≤ b))
/-- Between two rounds of New. -/
structure NwG (w : World) (l : List Ac) (p a b k : Nat) (wr : World) : Prop where
  bel : Below w.heap.size w wr
  lp : LP2 wr p a b (l.take k) (sumA (l.take k))
  good : Good l k
  hs : sumA (l.take k) < 18446744073709551616
  hp : w.heap.size ≤ p
  ha : w.heap.size ≤ a
  hb : w.heap.size ≤ b
set_option maxRecDepth 10000 in
set_option maxHeartbeats 6400000 in
theorem newG {w : World} {b0 off : Nat} {ao : Option Addr} (n cap : Nat) {l : List Ac} (hn : n = l.length) (hA : Acs w b0 off l) (hao : 0 < n → ao = some ⟨b0, off, none⟩) (hbw : 0 < n → b0 < w.heap.size) (hle : n ≤ 4398046510976) :
    Calls Try.prog 17 #[.slice ao n cap] w fun e w' => ∃ v er, e = .returned (.tuple #[v, er]) ∧ Hid (NewPG w l v er w') := by
  have HA := hide hao
  have HC := hide hA
  have HB := hide hbw
  have HN := hide hn
  have HRF : Hid (∀ (W : World) (i c : Int), Calls Try.prog 41 #[.int .i64 i, .int .i64 c] W fun e w' => ∃ g, e = .returned (.iface 124 (.pointer (some ⟨g, 0, none⟩))) ∧ Hid (Chain w'.heap.size w' [⟨ledgerN, i⟩] (.iface 124 (.pointer (some ⟨g, 0, none⟩))) c ∧ Below W.heap.size W w')) := fun W i c => refusalL i c
  have HBK := hide (blankG w)
  clear hA hao hbw hn
  go_enter Try.func17, Try.ntmps17
  by_cases h64 : 64 < n
  · have d1 : decide ((n : Int) > 64) = true := decide_eq_true (by omega)
    have HR1 := hide (HRF.out w 0 43)
    go_wp2_with fail
    refine HR1.out.mono ?_
    rintro e w1 ⟨g, rfl, G⟩
    go_wp2
    go_ret2
    exact ⟨_, _, rfl, G.out.2, .inl ⟨by have := HN.out; omega, rfl, G.out.1⟩⟩
  have d1 : decide ((n : Int) > 64) = false := decide_eq_false (by omega)
  go_wp2_with fail
  refine HBK.out.mono ?_
  rintro e w1 ⟨p, a, b, rfl, G⟩
  have HS0 : Hid (NwG w l p a b 0 w1) := ⟨G.out.2.1, G.out.1, fun i x hi => by omega, by simp [sumA], G.out.2.2.1, G.out.2.2.2.1, G.out.2.2.2.2⟩
  clear G HBK d1
  go_wp2
  go_loopw [15] (fun i wr => ∃ k : Nat, k ≤ n ∧ i = .int .i64 k ∧ Hid (NwG w l p a b k wr)) (fun i _ => n - (intOf i).toNat)
  case atStart => exact ⟨0, by omega, rfl, HS0.out⟩
  case round =>
    clear HS0
    obtain ⟨k, hk, rfl, HS⟩ := hrel
    by_cases hlt : k < n
    · obtain ⟨x, hx⟩ : ∃ x, l[k]? = some x := ⟨_, List.getElem?_eq_getElem (by have := HN.out; omega)⟩
      have hA1 := HC.out.below HS.out.bel (fun hp => HB.out (by have := HN.out; omega))
      obtain ⟨c0, c1, c2, c3⟩ := hA1.four hx
      obtain rfl := HA.out (by omega)
      have cl : b0 < wr.heap.size := Nat.lt_of_lt_of_le (HB.out (by omega)) HS.out.bel.size
      have hin := hA1.ok x (List.mem_of_getElem? hx)
      obtain ⟨W2, hW2⟩ : ∃ W2, wr.alloc (.cells x.arr 80) = W2 := ⟨_, rfl⟩
      have b2 : Below wr.heap.size wr W2 := by rw [← hW2]; exact (Below.refl _ wr).alloc (Nat.le_refl _) _
      have C2 : Hid (W2.heap[wr.heap.size]? = some (.cells x.arr 80 (0, 0))) := by rw [← hW2]; exact alloc_atK _ _
      have HB2 := hide b2
      have HFF := hide (firstFaultA (HS.out.lp.kept b2).toLP HS.out.hs x hin)
      have HW2 := hide hW2
      have HX := hide hx
      have HIN := hide hin
      have x0 := block_cell C2.out 0
      have x1 := block_cell C2.out 1
      have x2 := block_cell C2.out 2
      have x3 := block_cell C2.out 3
      have xl := block_lt C2.out
      clear hA1 hx hin hW2 b2
      unfold Ac.arr at HW2 HFF C2 x0 x1 x2 x3
      simp at x0 x1 x2 x3
      go_upto_region 7 with fail
      rw [HW2.out]
      clear c0 c1 c2 c3 cl HW2
      go_wp2_with fail
      refine HFF.out.mono ?_
      rintro e w3 ⟨rfl, G3⟩
      have HB3 := hide (HB2.out.trans (G3.out.mono HB2.out.size))
      have C3 := hide ((G3.out.block _ (block_lt C2.out)).trans C2.out)
      clear x0 x1 x2 x3 xl HFF G3 C2
      by_cases hF : faultA (l.take k) (sumA (l.take k)) x = 0
      · rw [hF]
        have HF := hide hF
        have hz := fault_zero hF
        have HL3 := hide ((HS.out.lp.kept HB3.out).kept (Below.refl _ w3).drew)
        obtain ⟨wf, hr, ht, hg⟩ := HL3.out.acc.store x HIN.out.h0 (by have := HN.out; rw [List.length_take]; unfold maxLen; omega) hz.2.1
        have HLf := hide (HL3.out.put hz.2.1 ht hg)
        have HBf : Hid (Below w.heap.size w wf) := ((HS.out.bel.trans (HB3.out.mono HS.out.bel.size)).drew).grown hg (by have := HS.out.bel.size; have := HB3.out.size; exact Nat.le_trans ‹_› ‹_›) (fun j e => by cases e; exact HS.out.ha)
        have Cf := hide ((hg.block _ (block_lt C3.out) (fun e => by
          obtain ⟨es, q, ho⟩ := HL3.out.acc.obj
          cases e
          have hc : w3.drew.heap[wr.heap.size]? = _ := C3.out
          rw [hc] at ho
          cases ho)).trans C3.out)
        have y1 := HL3.out.c.2.1
        have yl := HL3.out.c.2.2.2.2
        have C3d : w3.drew.heap[wr.heap.size]? = _ := C3.out
        have z0 := block_cell C3d 0
        have z1 := block_cell C3d 1
        have z2 := block_cell C3d 2
        have z3 := block_cell C3d 3
        have zl := block_lt C3d
        have hsb : sumA (l.take k) + x.ba < 18446744073709551616 := by have := HS.out.hs; have := hz.2.2.2; omega
        have hwS : IntKind.u64.wrap ((sumA (l.take k) : Int) + (x.ba : Int)) = (sumA (l.take k) : Int) + (x.ba : Int) := IntWalk.u64_in _ ⟨by omega, by omega⟩
        have HLS := hide ((HLf.out.kept (Below.refl _ wf).drew).sum (sumA (l.take k) + x.ba))
        have f0 := HLf.out.c.1
        have fl := HLf.out.c.2.2.2.2
        have HNX : Hid (NwG w l p a b (k + 1) (wf.drew.setCell ⟨p, 0, none⟩ (.int .u64 ((sumA (l.take k) : Int) + (x.ba : Int))))) := by
          have e : l.take (k + 1) = l.take k ++ [x] := by rw [List.take_add_one, HX.out]; rfl
          refine ⟨(HBf.out.drew).setCell (p := ⟨p, 0, none⟩) HS.out.hp _, ?_, HS.out.good.step HX.out HF.out, by rw [e, sumA_app]; exact hsb, HS.out.hp, HS.out.ha, HS.out.hb⟩
          rw [e, sumA_app]
          exact HLS.out
        have frz : wf.drew.frozen? ⟨p, 0, none⟩ = false := by
          obtain ⟨cs, hc, _⟩ := (HLf.out.kept (Below.refl _ wf).drew).blk
          exact block_free hc 0
        have fd0 : wf.drew.cell? ⟨p, 0, none⟩ = some (.int .u64 (sumA (l.take k) : Nat)) := f0
        have fdl : p < wf.drew.heap.size := fl
        have Cfd : wf.drew.heap[wr.heap.size]? = _ := Cf.out
        have v2 := block_cell Cfd 2
        have vl := block_lt Cfd
        simp at z0 z1 z2 z3 v2
        clear hF hz ht hg C3d Cfd hsb HLS f0 fl HL3 HLf C3 Cf HS HX HIN HB2 HB3 HF HBf
        unfold Ac.arr at hr
        generalize (sumA (l.take k) : Int) = SI at *
        generalize (x.id : Int) = X0 at *
        generalize (x.ow : Int) = X1 at *
        generalize (x.ba : Int) = X2 at *
        generalize (x.cp : Int) = X3 at *
        generalize wr.heap.size = tb at *
        go_upto_region 10 with fail
        refine region_assignP (fun d V => Hid (V = if d = true then wf else w3.drew)) 7 [3, 5, 6] [(28, .pointer (some ⟨p, 0, none⟩)), (29, .pointer (some ⟨p, 0, none⟩)), (30, .pointer (some ⟨p, 1, none⟩)), (31, .map (some a)), (32, .pointer (some ⟨tb, 0, none⟩)), (33, .int .u64 X0), (34, .agg #[.int .u64 X0, .int .u64 X1, .int .u64 X2, .int .u64 X3])] _ (by kernel_rfl) (by decide) (by kernel_rfl) (by kernel_rfl) (by kernel_rfl) (by kernel_rfl) rfl (show w3.drew = _ from rfl) ?_ (fun V9 HV9 => ?_)
        · simp only [putAll, Act.put, List.setIfInBounds_toArray, List.set_cons_zero, List.set_cons_succ]
          repeat' (first | exact AllPre.nil | refine AllPre.at_ rfl ?_ ?_ | refine AllPre.pre (by decide) (by decide) ?_ ?_ | refine AllPre.off (by decide) (by decide) ?_ ?_)
          all_goals first
            | (intro d
               refine stepTo_yes (by rfl) (fun V hV K hK => ?_)
               go_simp
               exact hK.out _ hV)
            | (refine stepTo_yes (by rfl) (fun V hV K hK => ?_)
               have e : V = w3.drew := hV.out
               subst e
               go_simp
               exact hK.out _ hV)
            | (refine ⟨by rfl, fun V hV K hK => ?_⟩
               have e : V = w3.drew := hV.out
               subst e
               go_simp
               exact hK.out _ rfl)
        simp only [putAll, Act.put, List.setIfInBounds_toArray, List.set_cons_zero, List.set_cons_succ]
        have e9 : V9 = wf := HV9.out
        rw [e9]
        clear e9 HV9 hr y1 yl z0 z1 z2 z3 zl
        go_upto_region 11 with fail
        refine region_assignP (fun d V => Hid (V = if d = true then wf.drew.setCell ⟨p, 0, none⟩ (.int .u64 (SI + X2)) else wf.drew)) 9 [6, 3, 5] [(35, .pointer (some ⟨p, 0, none⟩)), (36, .pointer (some ⟨p, 0, none⟩)), (37, .pointer (some ⟨p, 0, none⟩)), (38, .int .u64 SI), (39, .pointer (some ⟨tb, 2, none⟩)), (40, .int .u64 X2), (41, .int .u64 (SI + X2)), (42, .pointer (some ⟨p, 0, none⟩)), (43, .pointer (some ⟨p, 0, none⟩))] _ (by kernel_rfl) (by decide) (by kernel_rfl) (by kernel_rfl) (by kernel_rfl) (by kernel_rfl) rfl (show wf.drew = _ from rfl) ?_ (fun V9 HV9 => ?_)
        · simp only [putAll, Act.put, List.setIfInBounds_toArray, List.set_cons_zero, List.set_cons_succ]
          repeat' (first | exact AllPre.nil | refine AllPre.at_ rfl ?_ ?_ | refine AllPre.pre (by decide) (by decide) ?_ ?_ | refine AllPre.off (by decide) (by decide) ?_ ?_)
          all_goals first
            | (intro d
               refine stepTo_yes (by rfl) (fun V hV K hK => ?_)
               go_simp
               exact hK.out _ hV)
            | (refine stepTo_yes (by rfl) (fun V hV K hK => ?_)
               have e : V = wf.drew := hV.out
               subst e
               go_simp
               exact hK.out _ hV)
            | (refine ⟨by rfl, fun V hV K hK => ?_⟩
               have e : V = wf.drew := hV.out
               subst e
               go_simp
               exact hK.out _ rfl)
        simp only [putAll, Act.put, List.setIfInBounds_toArray, List.set_cons_zero, List.set_cons_succ]
        have e9 : V9 = wf.drew.setCell ⟨p, 0, none⟩ (.int .u64 (SI + X2)) := HV9.out
        rw [e9]
        clear e9 HV9 v2 vl fd0 fdl frz hwS
        generalize wf.drew.setCell ⟨p, 0, none⟩ (.int .u64 (SI + X2)) = WF at *
        go_wp2
        go_roundw
        case rel => exact ⟨k + 1, by omega, by go_num, HNX.out⟩
        case measure => simp [intOf]; omega
      · obtain ⟨F, hFF⟩ : ∃ F, faultA (l.take k) (sumA (l.take k)) x = F := ⟨_, rfl⟩
        have HBD : Hid (Bad l k F) := ⟨x, HX.out, HS.out.good, hFF, by omega⟩
        rw [hFF]
        have g : ((F : Int) == 0) = false := by simp; omega
        have HR1 := hide (HRF.out w3 (k : Int) (F : Int))
        have BF := hide (HS.out.bel.trans (HB3.out.mono HS.out.bel.size))
        clear hF hFF HS HX HIN HB2 HB3 C3
        go_wp2_with fail
        refine HR1.out.mono ?_
        rintro e w4 ⟨q, rfl, G⟩
        go_wp2
        go_ret2
        exact ⟨_, _, rfl, BF.out.trans (G.out.2.mono BF.out.size), .inr (.inl ⟨by have := HN.out; omega, k, F, HBD.out, rfl, G.out.1⟩)⟩
    · obtain rfl : k = n := by omega
      have e : l.take k = l := by rw [HN.out, List.take_length]
      have HE : Hid (NewPG w l (.pointer (some ⟨p, 0, none⟩)) .nilIface wr) := by
        have hlp := HS.out.lp
        rw [e] at hlp
        exact ⟨HS.out.bel, .inr (.inr ⟨by have := HN.out; omega, by rw [← HN.out]; exact HS.out.good, rfl, p, a, b, rfl, hlp, HS.out.hp, HS.out.ha, HS.out.hb⟩)⟩
      clear HS e
      go_wp2
      go_ret2
      exact ⟨_, _, rfl, HE.out⟩
/-- The ledger that New gives. -/
def LS0 (l : List Ac) : LS := ⟨sumA l, srt l, [], 1, fun _ => Jn.zero⟩
theorem srt_by {l : List Ac} (hd : Dis l) (x : Nat) : byK Ac.id (srt l) x = byId l x := by
  have hu : UpK Ac.id (srt l) := srt_all hd
  cases e : byId l x with
  | none => exact byK_far (fun y hy => byId_none e y (by
      unfold srt at hy
      rw [srt_mem] at hy
      rcases hy with hy | hy
      · exact hy
      · cases hy))
  | some a =>
    have hm : a ∈ l ∧ a.id = x := byK_mem (key := Ac.id) e
    have : a ∈ srt l := by unfold srt; rw [srt_mem]; exact .inl hm.1
    have := hu.by this
    rw [hm.2] at this
    exact this
theorem srt_length (l : List Ac) : (srt l).length = l.length := by unfold srt; rw [srt_len]; simp
theorem LP2.lg {W : World} {p a b : Nat} {l : List Ac} {s : Nat} (h : LP2 W p a b l s) (hd : Dis l) (hs : s = sumA l) : LG W p a b nilS nilS (LS0 l) := by
  subst hs
  obtain ⟨cs, h1, h2, h3, h4, h5⟩ := h.more
  obtain ⟨cs', g1, g2⟩ := h.blk
  rw [h1] at g1
  cases g1
  refine ⟨⟨cs, h1, h2, ⟨g2.1, g2.2.1, g2.2.2.1, g2.2.2.2, h3, h4⟩, fun k hk j v hj => h5 k hk j v hj⟩, ?_, ?_, h.ne⟩
  · exact h.acc.congr (srt_length l).symm (fun x => (srt_by hd x).symm)
  · exact (thm_empty h.hol).congr rfl (fun x => rfl)
theorem LS0_ok {l : List Ac} (hg : Good l l.length) (hin : ∀ x ∈ l, x.In) (hl : l.length ≤ 64) : (LS0 l).Ok := by
  have hf : ∀ x ∈ l, x.id ≠ 0 ∧ x.ba ≤ x.cp := fun x hx => by
    obtain ⟨i, hi⟩ := List.getElem?_of_mem hx
    have := fault_zero (hg i x (List.getElem?_eq_some_iff.1 hi).1 hi)
    exact ⟨this.1, this.2.2.1⟩
  have hm : ∀ x ∈ srt l, x ∈ l := fun x hx => by
    unfold srt at hx
    rw [srt_mem] at hx
    rcases hx with hx | hx
    · exact hx
    · cases hx
  refine ⟨srt_all hg.dis, List.Pairwise.nil, fun x hx => hin x (hm x hx), fun x hx => (by cases hx), fun x hx => (hf x (hm x hx)).2, fun x hx => (hf x (hm x hx)).1, fun x hx => (by cases hx), ?_, Nat.zero_le _, Nat.le_refl _, by show 1 ≤ _; decide, fun k => ?_⟩
  · show (srt l).length ≤ 64
    rw [srt_length]; exact hl
  · exact ⟨by show 0 < _; decide, by show 0 < _; decide, by show 0 < _; decide, by show 0 < _; decide, by show 0 < _; decide⟩
end Go.Proofs.Ytcfenjpdjogmdaa
