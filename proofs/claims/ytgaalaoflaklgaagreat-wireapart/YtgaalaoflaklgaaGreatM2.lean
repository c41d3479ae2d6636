import Derived.Test.YtgaalaoflaklgaaGreatM0
namespace Go.Proofs.YtgaalaoflaklgaaGreat
open Go.RowKit Crc

set_option maxRecDepth 10000 in
set_option maxHeartbeats 1600000 in
theorem batchFault_any {w : World} (stamp : Nat) {ro : Option Addr} {rs : List Rq} {b off : Nat} (rc : Nat) (h : Rqs w.heap.size w ro rs b off) :
    Calls Tryz.prog 22 #[.agg #[.int .u64 (stamp : Int), .slice ro rs.length rc]] w fun e w' => e = .returned (.tuple #[.int .i64 ((bFault stamp rs).1 : Int), .int .i64 (bFault stamp rs).2]) ∧ Below w.heap.size w w' := by
  have HR := hide h
  have hle := h.le
  have HB := hide (below_alloc1 w)
  clear h
  by_cases h1 : 1099511627776 < stamp
  · have HF : Hid (bFault stamp rs = (0, 29)) := by show _ = _; unfold bFault; rw [if_pos h1]
    have d1 : decide ((1099511627776 : Int) < (stamp : Int)) = true := by simp; omega
    rw [HF.out]
    generalize rs.length = n at *
    go_enter Tryz.func22, Tryz.ntmps22
    go_wp2
    go_step3
    go_wp2
    rw [Exit.noGoto_ret]
    go_ret2
    exact ⟨rfl, HB.out _⟩
  · have d1 : decide ((1099511627776 : Int) < (stamp : Int)) = false := by simp; omega
    by_cases h2 : 8 < rs.length
    · have HF : Hid (bFault stamp rs = (1, 21)) := by show _ = _; unfold bFault; rw [if_neg h1, if_pos h2]
      have d2 : decide ((8 : Int) < (rs.length : Int)) = true := by simp; omega
      rw [HF.out]
      generalize rs.length = n at *
      go_enter Tryz.func22, Tryz.ntmps22
      go_wp2
      go_step3
      go_wp2
      rw [Exit.noGoto_ret]
      go_ret2
      exact ⟨rfl, HB.out _⟩
    · have HF : Hid (bFault stamp rs = bGo rs 0) := by show _ = _; unfold bFault; rw [if_neg h1, if_neg h2]
      have d2 : decide ((8 : Int) < (rs.length : Int)) = false := by simp; omega
      rw [HF.out]
      go_enter Tryz.func22, Tryz.ntmps22
      go_wp2
      go_step3
      go_wp2
      go_step3
      go_wp2
      go_loopw [4, 5, 20] (fun x y i wr => ∃ k : Nat, k ≤ rs.length ∧ x = .int .i64 0 ∧ y = .int .i64 0 ∧ i = .int .i64 k ∧ Hid (bGo rs 0 = bGo (rs.drop k) k) ∧ Hid (Below w.heap.size w wr)) (fun _ _ i _ => rs.length - (intOf i).toNat)
      case atStart => exact ⟨0, by omega, rfl, rfl, rfl, rfl, HB.out _⟩
      case round =>
        obtain ⟨k, hk, rfl, rfl, rfl, HG, HW⟩ := hrel
        by_cases hlt : k < rs.length
        · obtain ⟨r, hr, hd, hok, hbl, rfl, c0, c1, c2⟩ := (HR.out.below HW.out).get hlt
          rw [hd] at HG
          obtain ⟨cl, sq, co, cn, cc, C⟩ := r
          simp only at c0 c1 c2
          have HWA : Hid (∀ o, Below w.heap.size w (wr.alloc o)) := fun o => HW.out.trans ((below_alloc1 wr o).mono HW.out.size)
          by_cases g1 : cl < 256
          · have g1' : decide ((cl : Int) < 256) = true := by simp; omega
            have HG2 : Hid (bGo rs 0 = (2 + k, 29)) := by rw [HG.out]; show _ = _; simp [bGo, Rq.why, g1]
            clear hr hd hok
            go_wp2
            rw [Exit.noGoto_ret]
            go_ret2
            exact ⟨by rw [HG2.out]; simp, HWA.out _⟩
          · have g1' : decide ((cl : Int) < 256) = false := by simp; omega
            by_cases g2 : 700 < cn
            · have g2' : decide ((700 : Int) < (cn : Int)) = true := by simp; omega
              have HG2 : Hid (bGo rs 0 = (2 + k, 21)) := by rw [HG.out]; show _ = _; simp [bGo, Rq.why, g1, g2]
              clear hr hd hok
              go_wp2
              rw [Exit.noGoto_ret]
              go_ret2
              exact ⟨by rw [HG2.out]; simp, HWA.out _⟩
            · have g2' : decide ((700 : Int) < (cn : Int)) = false := by simp; omega
              have HG2 : Hid (bGo rs 0 = bGo (rs.drop (k + 1)) (k + 1)) := by rw [HG.out]; show _ = _; simp [bGo, Rq.why, g1, g2]
              clear hr hd hok
              go_wp2
              go_roundw
              case rel => exact ⟨k + 1, by omega, rfl, rfl, by go_num, HG2, HWA.out _⟩
              case measure => simp [intOf]; omega
        · obtain rfl : k = rs.length := by omega
          have HG2 : Hid (bGo rs 0 = (0, 0)) := by rw [HG.out]; show _ = _; simp [bGo]
          go_wp2
          rw [Exit.noGoto_ret]
          go_ret2
          exact ⟨by rw [HG2.out]; rfl, HW.out⟩
end Go.Proofs.YtgaalaoflaklgaaGreat
namespace Go.Proofs.YtgaalaoflaklgaaGreat
open Go.RowKit Crc

/-- A list that was appended to: nothing but its own row has turned, and what it has now is that row or a new one. -/
def Ext (w w' : World) (v v' : Value) : Prop := w.grownBy w' v.ownBlock ∧ ∀ g, v'.ownBlock = some g → v.ownBlock = some g ∨ w.heap.size ≤ g
theorem Ext.refl (w : World) (v : Value) : Ext w w v v := ⟨⟨rfl, rfl, rfl, Nat.le_refl _, fun _ _ _ => rfl⟩, fun _ h => .inl h⟩
theorem Ext.trans {a b c : World} {u v x : Value} (h : Ext a b u v) (k : Ext b c v x) : Ext a c u x := by
  refine ⟨⟨k.1.os.trans h.1.os, k.1.tape.trans h.1.tape, k.1.output.trans h.1.output, Nat.le_trans h.1.size k.1.size, fun i hi hr => ?_⟩, fun g hg => ?_⟩
  · refine (k.1.block i (Nat.lt_of_lt_of_le hi h.1.size) (fun e => ?_)).trans (h.1.block i hi hr)
    rcases h.2 i e.symm with h1 | h1
    · exact hr h1.symm
    · omega
  · rcases k.2 g hg with h1 | h1
    · exact h.2 g h1
    · exact .inr (Nat.le_trans h.1.size h1)
theorem Ext.alloc {a b : World} {u v : Value} (h : Ext a b u v) (o : Obj) : Ext a (b.alloc o) u v := by
  refine h.trans ⟨World.grownBy_alloc b o _, fun g hg => .inl hg⟩

section
variable {P : Program} {ops : Array Oper} {rest : List Oper} {o : Oper} {a : Act} {Q : Exit → Act → World → Prop}
theorem wpList_append_ext (w : World) (hgd : o.guard = none) (s x : Operand) (t : TypeId)
    (ho : o.op = .call { callee := .builtin .append, args := #[s, x], argTypes := #[t, t] })
    (base : Nat) (e : TypeId) (i : TypeInfo) (z : Value) (ht : P.underlying t = some (.slice e)) (hi : P.info? e = some i) (hz : i.zero = some z)
    (hsize : i.size = 1) (hby : i.bytes = 1) (hzs : z.cells.size = 1)
    (v : Value) (n : Nat) (xs : List Value) (hs : a.eval s = v) (hown : w.ownsRow base e 1 v n xs)
    (ad : Addr) (m c : Nat) (news : List Value) (hx : a.eval x = .slice (some ad) m c) (hl : news.length = m) (hnews : ∀ j u, news[j]? = some u → w.cell? (ad.add j) = some u) (h1 : ∀ u ∈ news, u.oneCell' = true)
    (hm : 0 < m) (hbytes : n + m ≤ 140737488355328) (hbase : base ≤ w.heap.size)
    (h : ∀ v' w', w'.ownsRow base e 1 v' (n + m) (xs ++ news) → Ext w w' v v' → wpList P ops Q rest (a.put o.dst v') w') : wpList P ops Q (o :: rest) a w := by
  rcases hown.2 with ⟨rfl, rfl⟩ | ⟨g, cap, cur, rfl, hbg, hg, hnc, hcm, hcs, htake⟩
  · have hxs : xs = [] := List.eq_nil_of_length_eq_zero (by have := hown.1; omega)
    subst hxs
    refine wpList_append_grows w hgd s x t ho e i z 1 1 ht hi hz hsize hby hzs (by omega) none 0 0 [] hs (fun _ => ⟨rfl, rfl⟩) (by simp) (fun b hb => by cases hb) ad m c news hx (by omega) hnews h1 (by omega) (by unfold maxLen; omega) (by omega) ?_
    intro v' w' hown' hgrow
    refine h v' w' ?_ ⟨⟨hgrow.os, hgrow.tape, hgrow.output, hgrow.size, hgrow.block⟩, fun g hg => .inr (hown'.lt g hg).1⟩
    refine ⟨hown'.1, ?_⟩
    rcases hown'.2 with h0 | ⟨g, cap, cur, hv, hbg, rest⟩
    · exact .inl h0
    · exact .inr ⟨g, cap, cur, hv, by omega, rest⟩
  · by_cases hroom : n + m ≤ cap
    · refine wpList_append_own_spare w hgd s x t ho base e i 1 ht hi hsize g n cap xs hs hown ad m c news hx (by omega) hnews h1 hroom ?_
      intro w' hown' hgrow
      exact h _ w' hown' ⟨hgrow, fun g' hg' => .inl hg'⟩
    · have holds : ∀ b, some (⟨g, 0, none⟩ : Addr) = some b → ∀ j u, xs[j]? = some u → w.cell? (b.add j) = some u := by
        intro b hb j u hj
        cases hb
        exact hown.cells rfl j u hj
      refine wpList_append_grows w hgd s x t ho e i z 1 1 ht hi hz hsize hby hzs (by omega) (some ⟨g, 0, none⟩) n cap xs hs (fun h => by cases h) hown.1 holds ad m c news hx (by omega) hnews h1 (by omega) (by unfold maxLen; omega) (by omega) ?_
      intro v' w' hown' hgrow
      refine h v' w' ?_ ⟨⟨hgrow.os, hgrow.tape, hgrow.output, hgrow.size, fun k hk _ => hgrow.block k hk (by simp)⟩, fun g hg => .inr (hown'.lt g hg).1⟩
      refine ⟨hown'.1, ?_⟩
      rcases hown'.2 with h0 | ⟨g, cap, cur, hv, hbg, rest⟩
      · exact .inl h0
      · exact .inr ⟨g, cap, cur, hv, by omega, rest⟩
end

/-- A number in groups of seven bits, the lowest first. -/
def numTo : Nat → Nat → List Nat
  | 0, v => [v]
  | f + 1, v => if v < 128 then [v] else (v % 128 + 128) :: numTo f (v / 128)
def numB (v : Nat) : List Nat := numTo 9 v
theorem numTo_lt : ∀ f v, v < 128 ^ (f + 1) → ∀ x ∈ numTo f v, x < 256
  | 0, v, h, x, hx => by simp [numTo] at hx; subst hx; simp at h; omega
  | f + 1, v, h, x, hx => by
    unfold numTo at hx
    by_cases hv : v < 128
    · rw [if_pos hv] at hx; simp at hx; omega
    · rw [if_neg hv] at hx
      rcases List.mem_cons.1 hx with rfl | hx
      · omega
      · exact numTo_lt f (v / 128) (by rw [Nat.pow_succ] at h; omega) x hx
theorem numB_lt (v : Nat) (h : v < 18446744073709551616) : ∀ x ∈ numB v, x < 256 := numTo_lt 9 v (by omega)
theorem numTo_len : ∀ f v, (numTo f v).length ≤ f + 1
  | 0, v => by simp [numTo]
  | f + 1, v => by
    unfold numTo
    by_cases hv : v < 128
    · rw [if_pos hv]; simp
    · rw [if_neg hv]; simp; exact numTo_len f (v / 128)
theorem numTo_pos : ∀ f v, 0 < (numTo f v).length
  | 0, v => by simp [numTo]
  | f + 1, v => by unfold numTo; by_cases hv : v < 128 <;> simp [hv]
/-- One step, fuel aside. -/
theorem numTo_more : ∀ f v, v < 128 ^ (f + 1) → numTo (f + 1) v = numTo f v
  | 0, v, h => by simp at h; simp [numTo, h]
  | f + 1, v, h => by
    rw [numTo]
    conv => rhs; rw [numTo]
    by_cases hv : v < 128
    · rw [if_pos hv, if_pos hv]
    · rw [if_neg hv, if_neg hv, numTo_more f (v / 128) (by rw [Nat.pow_succ] at h; omega)]
theorem numB_big (v : Nat) (hv : ¬ v < 128) (h : v < 18446744073709551616) : numB v = (v % 128 + 128) :: numB (v / 128) := by
  unfold numB
  conv => lhs; rw [numTo]
  rw [if_neg hv, numTo_more 8 (v / 128) (by omega)]
theorem numB_small (v : Nat) (hv : v < 128) : numB v = [v] := by simp [numB, numTo, hv]
end Go.Proofs.YtgaalaoflaklgaaGreat
namespace Go.Proofs.YtgaalaoflaklgaaGreat
open Go.RowKit Crc

set_option maxRecDepth 10000 in
set_option maxHeartbeats 800000 in
theorem appendHigh_any (base v s : Nat) (sl : Value) (vi si : Int) (L : List Nat) (w : World) (hvi : vi = (v : Int)) (hsi : si = (s : Int)) (hs : s ≤ 8) (hO : Owns base w sl L) (hl : L.length + 9 ≤ 140737488355328) (hbase : base ≤ w.heap.size) :
    Calls Tryz.prog 92 #[sl, .int .u64 vi, .int .i64 si] w fun e w' => ∃ v', e = .returned v' ∧ Owns base w' v' (L ++ big v s) ∧ Ext w w' sl v' := by
  obtain ⟨i0, hi, hz0, hz1, hz2⟩ := info_parts Tryz.info5
  subst hvi
  subst hsi
  have HO0 : Hid (Owns base w sl L) := hO
  clear hO
  go_enter Tryz.func92, Tryz.ntmps92
  go_wp2
  go_loopw [0, 7] (fun a i wr => ∃ j : Nat, j ≤ s ∧ i = .int .i64 ((s : Int) - 1 - (j : Int)) ∧ Hid (Owns base wr a (L ++ bigTo v s j) ∧ Ext w wr sl a)) (fun _ i _ => (intOf i + 1).toNat)
  case atStart => exact ⟨0, by omega, by go_num, by rw [bigTo, List.append_nil]; exact ⟨HO0.out, Ext.refl _ _⟩⟩
  case round =>
    obtain ⟨j, hj, rfl, HR⟩ := hrel
    clear HO0
    have hbl := big_len v s j
    have HLN : Hid ((L ++ bigTo v s j).length + 1 ≤ 140737488355328) := by show _ ≤ _; rw [List.length_append, hbl]; omega
    have HBS : Hid (base ≤ wr.heap.size) := by show _ ≤ _; have := HR.out.2.1.size; omega
    clear hbl
    by_cases hlt : j < s
    · obtain ⟨i, hi'⟩ : ∃ i : Nat, i + j + 1 = s := ⟨s - 1 - j, by omega⟩
      have he : (s : Int) - 1 - (j : Int) = (i : Int) := by omega
      have HI : Hid (i = s - 1 - j) := by show _ = _; omega
      have hi8 : i ≤ 7 := by omega
      have HTS : Hid (L ++ bigTo v s (j + 1) = (L ++ bigTo v s j) ++ [v / 2 ^ (8 * i) % 256]) := by
        show _ = _
        simp only [bigTo]
        rw [← HI.out, List.append_assoc]
      clear hi'
      go_wp2_with (first
        | (at_builtin; refine wpList_append_ext _ rfl (.tmp 14) (.tmp 20) 29 rfl base 5 i0 (.int .u8 0) Tryz.underlying29 hi hz0 hz1 hz2 rfl u0 (L ++ bigTo v s j).length (vals (L ++ bigTo v s j)) rfl (HR.out.1.1.alloc _) ⟨wr.heap.size, 0, none⟩ 1 1 [.int .u8 ((v : Int) / (2 : Int) ^ (8 * i) % (256 : Int))] rfl rfl (cell_one_new _ _ _) (Shade.one _ rfl) (by omega) HLN.out (by have := HBS.out; simp; omega) ?_; intro v' w1 hown1 hext1))
      go_roundw
      case rel =>
        refine ⟨j + 1, by omega, by have := HI.out; go_num, ?_, (HR.out.2.alloc _).trans hext1⟩
        rw [HTS.out]
        exact HR.out.1.snoc (Nat.mod_lt _ (by omega)) HLN.out (by rw [big_byte]; exact hown1)
      case measure => simp [intOf]; omega
    · obtain rfl : j = s := by omega
      go_wp2
      go_ret
      exact ⟨_, rfl, HR.out.1, HR.out.2⟩
end Go.Proofs.YtgaalaoflaklgaaGreat
namespace Go.Proofs.YtgaalaoflaklgaaGreat
open Go.RowKit Crc

set_option maxRecDepth 10000 in
set_option maxHeartbeats 400000 in
theorem numSize_any (v : Nat) (vi : Int) (w : World) (hvi : vi = (v : Int)) (hv : v < 18446744073709551616) :
    Calls Tryz.prog 81 #[.int .u64 vi] w fun e w' => e = .returned (.int .i64 ((numB v).length : Nat)) ∧ w' = w := by
  subst hvi
  go_enter Tryz.func81, Tryz.ntmps81
  go_wp2
  go_loop [0, 3] (fun a b => ∃ x k : Nat, x < 18446744073709551616 ∧ k ≤ 20 ∧ a = .int .u64 x ∧ b = .int .i64 k ∧ Hid (k + (numB x).length = (numB v).length + 1)) (fun a _ => (intOf a).toNat)
  case atStart => exact ⟨v, 1, hv, by omega, rfl, rfl, by show _ = _; omega⟩
  case round =>
    obtain ⟨x, k, hx, hk, rfl, rfl, HR⟩ := hrel
    by_cases hlt : x < 128
    · have HF : Hid (k = (numB v).length) := by have h := HR.out; rw [numB_small x hlt] at h; simp at h; exact h
      go_wp2
      go_ret
      exact ⟨by rw [← HF.out]; rfl, rfl⟩
    · have HF : Hid (k + 1 + (numB (x / 128)).length = (numB v).length + 1) := by have h := HR.out; rw [numB_big x hlt hx] at h; simp at h; show _ = _; omega
      have hb : k + 1 ≤ 20 := by have h1 := HF.out; have h2 := numTo_len 9 v; have h3 := numTo_pos 9 (x / 128); unfold numB at h1; omega
      clear HR
      go_wp2
      go_round
      case rel => exact ⟨x / 128, k + 1, by omega, hb, by go_num, by go_num, HF⟩
      case measure => simp [intOf]; omega

theorem or128 (x : Nat) : bits .or .u8 ((x : Int) % (256 : Int)) (128 : Int) = ((x % 128 + 128 : Nat) : Int) := by
  have e : (x : Int) % (256 : Int) = ((x % 256 : Nat) : Int) := by omega
  rw [e, show (128 : Int) = ((128 : Nat) : Int) from rfl, u8_or_nat _ _ (by omega) (by omega)]
  congr 1
  have h1 := or_add (x % 128) 1 7 (by omega)
  simp only [Nat.one_mul] at h1
  by_cases hb : x % 256 < 128
  · rw [show x % 256 = x % 128 by omega]; exact h1
  · rw [show x % 256 = x % 128 + 2 ^ 7 by omega, ← h1, Nat.or_assoc]
    exact congrArg _ (by decide)

set_option maxRecDepth 10000 in
set_option maxHeartbeats 800000 in
theorem appendNum_any (base : Nat) (v : Value) (L : List Nat) (x0 : Nat) (xi : Int) (w : World) (hxi : xi = (x0 : Int)) (hx0 : x0 < 18446744073709551616) (hO : Owns base w v L) (hl : L.length + 10 ≤ 140737488355328) (hbase : base ≤ w.heap.size) :
    Calls Tryz.prog 82 #[v, .int .u64 xi] w fun e w' => ∃ v', e = .returned v' ∧ Owns base w' v' (L ++ numB x0) ∧ Ext w w' v v' := by
  obtain ⟨i0, hi, hz0, hz1, hz2⟩ := info_parts Tryz.info5
  subst hxi
  have HO0 : Hid (Owns base w v L) := hO
  have HLN : Hid ((numB x0).length ≤ 10) := numTo_len 9 x0
  clear hO
  go_enter Tryz.func82, Tryz.ntmps82
  go_wp2
  go_loopw [0, 1] (fun a b wr => ∃ x : Nat, x < 18446744073709551616 ∧ b = .int .u64 x ∧ Hid (∃ pre, Owns base wr a (L ++ pre) ∧ pre ++ numB x = numB x0 ∧ Ext w wr v a)) (fun _ b _ => (intOf b).toNat)
  case atStart => exact ⟨x0, hx0, rfl, [], by rw [List.append_nil]; exact HO0.out, rfl, Ext.refl _ _⟩
  case round =>
    obtain ⟨x, hx, rfl, HR⟩ := hrel
    obtain ⟨pre, ho, he, hext⟩ := HR.out
    clear HR HO0
    have hlp : pre.length + (numB x).length ≤ 10 := by have := HLN.out; rw [← he, List.length_append] at this; exact this
    have hpos := numTo_pos 9 x
    have hlen : (L ++ pre).length + 1 ≤ 140737488355328 := by rw [List.length_append]; unfold numB at hlp; omega
    have HO : Hid (Owns base wr u0 (L ++ pre)) := ho
    have HE : Hid (pre ++ numB x = numB x0) := he
    have HX : Hid (Ext w wr v u0) := hext
    have hbs : base ≤ wr.heap.size := by have := hext.1.size; omega
    have HLEN : Hid ((L ++ pre).length + 1 ≤ 140737488355328) := hlen
    have HBS : Hid (base ≤ wr.heap.size) := hbs
    clear ho he hext hlp hpos hlen hbs
    by_cases hlt : x < 128
    · have hmod : (x : Int) % 256 = (x : Int) := by omega
      go_wp2_with (first
        | (at_builtin; refine wpList_append_ext _ rfl (.tmp 15) (.tmp 18) 29 rfl base 5 i0 (.int .u8 0) Tryz.underlying29 hi hz0 hz1 hz2 rfl u0 (L ++ pre).length (vals (L ++ pre)) rfl (HO.out.1.alloc _) ⟨wr.heap.size, 0, none⟩ 1 1 [.int .u8 (x : Int)] rfl rfl (cell_one_new _ _ _) (Shade.one _ rfl) (by omega) HLEN.out (by have := HBS.out; simp; omega) ?_; intro v' w1 hown1 hext1))
      go_ret
      refine ⟨v', rfl, ?_, (HX.out.alloc _).trans hext1⟩
      rw [← HE.out, numB_small x hlt, ← List.append_assoc]
      exact HO.out.snoc (by omega) HLEN.out hown1
    · have hor := or128 x
      have HNB := numB_big x hlt hx
      have HNB' : Hid (numB x = (x % 128 + 128) :: numB (x / 128)) := HNB
      clear HNB
      go_wp2_with (first
        | (at_builtin; refine wpList_append_ext _ rfl (.tmp 7) (.tmp 11) 29 rfl base 5 i0 (.int .u8 0) Tryz.underlying29 hi hz0 hz1 hz2 rfl u0 (L ++ pre).length (vals (L ++ pre)) rfl (HO.out.1.alloc _) ⟨wr.heap.size, 0, none⟩ 1 1 [.int .u8 ((x % 128 + 128 : Nat) : Int)] rfl rfl (cell_one_new _ _ _) (Shade.one _ rfl) (by omega) HLEN.out (by have := HBS.out; simp; omega) ?_; intro v' w1 hown1 hext1))
      go_goals
      go_roundw
      case rel =>
        refine ⟨x / 128, by omega, by go_num, pre ++ [x % 128 + 128], ?_, ?_, (HX.out.alloc _).trans hext1⟩
        · rw [← List.append_assoc]; exact HO.out.snoc (by omega) HLEN.out hown1
        · rw [← HE.out, HNB'.out, List.append_assoc]; rfl
      case measure => simp [intOf]; omega
end Go.Proofs.YtgaalaoflaklgaaGreat
