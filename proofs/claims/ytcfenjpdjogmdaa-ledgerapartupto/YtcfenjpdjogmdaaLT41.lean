import Derived.RangeFuncFrom
import Derived.RangeFuncBox
import Derived.RangeFuncWrites
import Derived.Test.YtcfenjpdjogmdaaLT04
import Derived.Test.YtcfenjpdjogmdaaLT40
namespace Go.Proofs.Ytcfenjpdjogmdaa
open Go.RowKit Go.Shelf
attribute [local go_sem] Oper.semAt_some

/-- Changes as they lie. -/
def Cg (W : World) (g off : Nat) (xs : List Value) : Prop := ∀ (i : Nat) (v : Value), xs[i]? = some v → W.cell? ⟨g, off + i, none⟩ = some v
/-- What a round keeps: the cells of two blocks. -/
def KpC (g Bn : Nat) (W W' : World) : Prop := ∀ (b o : Nat) (v : Value), (b = g ∨ b = Bn) → W.cell? ⟨b, o, none⟩ = some v → W'.cell? ⟨b, o, none⟩ = some v
theorem kpC_t {g Bn : Nat} {A C D : World} (h : KpC g Bn A C) (k : KpC g Bn C D) : KpC g Bn A D := fun b o v hb hv => k b o v hb (h b o v hb hv)
theorem kpC_b {g Bn : Nat} {w : World} (W : World) (l : Nat) (o o' : Obj) (_ : w.heap.size ≤ l) (h : W.heap[l]? = some o) (hc : o.isCells = false) (_ : o.isWalk = false) : KpC g Bn W (W.putObj l o') := fun _ _ _ _ hv =>
  cell_kept hv (grownBy_putObj' W l o') (fun r e => by cases e; exact ⟨o, h, hc⟩)
theorem Cg.kept {g Bn : Nat} {W W' : World} {off : Nat} {xs : List Value} (h : Cg W g off xs) (k : KpC g Bn W W') : Cg W' g off xs := fun i v hi => k g _ _ (.inl rfl) (h i v hi)
/-- The places, from the last one down. -/
def rv (L : Nat) : List Nat := (List.range L).reverse
theorem rv_len (L : Nat) : (rv L).length = L := by unfold rv; simp
theorem rv_at {L k : Nat} (h : k < L) : (rv L)[k]? = some (L - 1 - k) := by
  unfold rv
  rw [List.getElem?_reverse (by simpa using h), List.length_range, List.getElem?_range (by omega)]
/-- What a round is given; a place that is none gives the first. -/
def encC (xs : List Value) (i : Nat) : Array Value := #[.int .i64 (i : Nat), .agg #[xs.getD i (xs.headD .nilFunc)]]
theorem takeC {α : Type} {xs : List α} {k : Nat} {x : α} (h : xs[k]? = some x) : xs.take k ++ [x] = xs.take (k + 1) := by rw [List.take_add_one, h]; rfl
set_option maxRecDepth 100000 in
set_option maxHeartbeats 4000000 in
theorem backw1_in (n : Nat) (hn : 1 ≤ n) (l Bn : Nat) (ao : Option Addr) (cap g off : Nat) (xs : List Value) (hxl : xs.length < 4611686018427387904) (had : 0 < xs.length → ao = some ⟨g, off, none⟩) (hone : ∀ v ∈ xs, v.oneCell' = true) (J Jx : List Nat → World → Prop)
    (hY : ∀ pre x W, J pre W → pre.length < xs.length → YieldAt Fence.wide (n - 1) Try.prog l (encC xs x) W fun e W' =>
      (e = .returned (.bool true) ∧ J (pre ++ [x]) W' ∧ KpC g Bn W W') ∨ (e = .returned (.bool false) ∧ Jx (pre ++ [x]) W'))
    (W : World) (hBn : W.cell? ⟨Bn, 0, none⟩ = some (.slice ao xs.length cap)) (hU : Cg W g off xs) (h0 : J [] W) :
    CallsIn Fence.wide n Try.prog 73 #[.func (.yield l) #[] #[], .pointer (some ⟨Bn, 0, none⟩)] W fun e W' => (∃ v, e = .returned v) ∧
      ((∃ ys, ys = rv xs.length ∧ J ys W') ∨ (∃ pre, pre <+: rv xs.length ∧ Jx pre W')) := by
  have HAD := hide had
  have HON := hide hone
  refine callsIn_of_wp Try.func73 rfl trivial ?_ rfl
  simp only [Try.ntmps73, List.size_toArray, List.length_cons, List.length_nil, Nat.reduceAdd, Nat.reduceSub, Array.replicate_succ, Array.replicate_zero, List.push_toArray, List.append_toArray, List.nil_append, List.cons_append]
  clear had hone
  obtain ⟨L, hL⟩ : ∃ L, xs.length = L := ⟨_, rfl⟩
  have HL := hide hL
  rw [hL] at HAD hY hxl hBn
  rw [hL]
  clear hL
  gi_wp2
  gi_loopw [3] (fun p wr => ∃ k : Nat, k ≤ L ∧ p = .int .i64 ((L : Int) - 1 - (k : Int)) ∧ wr.cell? ⟨Bn, 0, none⟩ = some (.slice ao L cap) ∧ Hid (Cg wr g off xs) ∧ J ((rv L).take k) wr) (fun p _ => (intOf p + 1).toNat)
  case atStart => exact ⟨0, by omega, by go_num, hBn, hU, by simpa using h0⟩
  case round =>
    obtain ⟨k, hk, rfl, hb, HU, hJs⟩ := hrel
    clear hU h0 hBn
    by_cases hlt : k < L
    · obtain rfl := HAD.out (by omega)
      obtain ⟨d, hd⟩ : ∃ d : Nat, L - 1 - k = d := ⟨_, rfl⟩
      have hdi : (L : Int) - 1 - (k : Int) = (d : Int) := by omega
      have hdL : d < L := by omega
      obtain ⟨v, hv⟩ : ∃ v, xs[d]? = some v := ⟨_, List.getElem?_eq_getElem (by have := HL.out; omega)⟩
      have x0 := HU.out d v hv
      have hv1 := HON.out v (List.mem_of_getElem? hv)
      have hge : xs.getD d (xs.headD .nilFunc) = v := by rw [List.getD_eq_getElem?_getD, hv]; rfl
      have bl := World.block_lt_of_cell? wr ⟨Bn, 0, none⟩ hb
      have gl := World.block_lt_of_cell? wr ⟨g, off + d, none⟩ x0
      obtain ⟨fn, tmps, assign, body, hy, hR⟩ := hY ((rv L).take k) d wr hJs (by rw [List.length_take, rv_len]; omega)
      unfold encC at hy
      rw [hge] at hy
      have HX : Hid ((rv L).take k ++ [d] = (rv L).take (k + 1)) := by rw [← hd]; exact hide (takeC (rv_at hlt))
      rw [hdi]
      clear hv hJs hge hd
      gi_wp2
      refine hR.mono ?_
      rintro e W3 (⟨rfl, hJ3, hk3⟩ | ⟨rfl, hJx3⟩)
      · rw [HX.out] at hJ3
        have hu3 : Hid (Cg W3 g off xs) := HU.out.kept hk3
        have hb3 := hk3 Bn 0 _ (.inr rfl) hb
        clear hk3 hb
        gi_wp2
        go_roundw
        case rel => exact ⟨k + 1, by omega, by go_num, hb3, hu3, hJ3⟩
        case measure => first | (simp [intOf]; done) | (simp [intOf]; omega)
      · rw [HX.out] at hJx3
        gi_wp2
        refine bodyPost_ret (results_none rfl _ _ _) rfl ?_
        exact ⟨⟨_, rfl⟩, .inr ⟨(rv L).take (k + 1), List.take_prefix _ _, hJx3⟩⟩
    · obtain rfl : k = L := by omega
      have hki : (k : Int) - 1 - (k : Int) = -1 := by omega
      rw [hki]
      have hJe : J (rv k) wr := by
        have := hJs
        rw [List.take_of_length_le (by rw [rv_len]; exact Nat.le_refl _)] at this
        exact this
      clear hJs
      gi_wp2
      go_end0
      exact ⟨⟨_, rfl⟩, .inl ⟨_, rfl, hJe⟩⟩
set_option maxRecDepth 10000 in
theorem backw_any (s : Option Addr) (len cap : Nat) (w : World) :
    Calls Try.prog 58 #[.slice s len cap] w fun e w' => e = .returned (.func (.func 73) #[] #[.pointer (some ⟨w.heap.size, 0, none⟩)]) ∧ w' = w.alloc (.cells #[.slice s len cap] 73) := by
  go_enter Try.func58, Try.ntmps58
  go_wp2
  go_ret
  exact ⟨rfl, rfl⟩
theorem backw_stops (n : Nat) (hn : 1 ≤ n) (Bn : Nat) (ao : Option Addr) (cap g off : Nat) (xs : List Value) (hxl : xs.length < 4611686018427387904) (w : World) (hBn : Bn < w.heap.size) (hc : w.cell? ⟨Bn, 0, none⟩ = some (.slice ao xs.length cap)) (had : 0 < xs.length → ao = some ⟨g, off, none⟩) (hone : ∀ v ∈ xs, v.oneCell' = true) (hgw : 0 < xs.length → g < w.heap.size) (hU : Cg w g off xs) :
    SeqStopsK Fence.wide n Try.prog 73 #[.pointer (some ⟨Bn, 0, none⟩)] (encC xs) (KpC g Bn) (fun ys => ys = rv xs.length) (fun pre => pre <+: rv xs.length) xs.length w := fun l J Jx W hW _ _ hY h0 =>
  backw1_in n hn l Bn ao cap g off xs hxl had hone J Jx hY W ((hW.cell (p := ⟨Bn, 0, none⟩) hBn).trans hc) (fun i x hi => (hW.cell (p := ⟨g, off + i, none⟩) (hgw (by have := (List.getElem?_eq_some_iff.1 hi).1; omega))).trans (hU i x hi)) h0
end Go.Proofs.Ytcfenjpdjogmdaa
