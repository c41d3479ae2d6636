import Derived.RangeFuncFrom
import Derived.RangeFuncBox
import Derived.Test.YtoejdocnpcbpiaaBSb
import Derived.Test.YtoejdocnpcbpiaaBKb
namespace Go.Proofs.Ytoejdocnpcbpiaa
open Go.RowKit Go.Shelf
attribute [local go_sem] Oper.semAt_some

def encU (x : Nat) : Value := .int .u64 (x : Int)
/-- Numbers as they lie. -/
def Us (W : World) (b off : Nat) (xs : List Nat) : Prop := ∀ (i x : Nat), xs[i]? = some x → W.cell? ⟨b, off + i, none⟩ = some (.int .u64 (x : Int))
/-- What a round keeps: all that lies below B. -/
def KpU (B : Nat) (W W' : World) : Prop := ∀ (b o : Nat) (v : Value), b < B → W.cell? ⟨b, o, none⟩ = some v → W'.cell? ⟨b, o, none⟩ = some v
theorem kpU_t {B : Nat} {A C D : World} (h : KpU B A C) (k : KpU B C D) : KpU B A D := fun b o v hb hv => k b o v hb (h b o v hb hv)
theorem kpU_b {B : Nat} {w : World} (W : World) (l : Nat) (o o' : Obj) (_ : w.heap.size ≤ l) (h : W.heap[l]? = some o) (hc : o.isCells = false) (_ : o.isWalk = false) : KpU B W (W.putObj l o') := fun _ _ _ _ hv =>
  cell_kept hv (grownBy_putObj' W l o') (fun r e => by cases e; exact ⟨o, h, hc⟩)
theorem Us.kept {B : Nat} {W W' : World} {b off : Nat} {xs : List Nat} (h : Us W b off xs) (k : KpU B W W') (hb : 0 < xs.length → b < B) : Us W' b off xs := fun i x hi =>
  k b _ _ (hb (by have := (List.getElem?_eq_some_iff.1 hi).1; omega)) (h i x hi)
theorem take_snoc {α : Type} {xs : List α} {k : Nat} {x : α} (h : xs[k]? = some x) : xs.take k ++ [x] = xs.take (k + 1) := by
  rw [List.take_add_one, h]; rfl
set_option maxRecDepth 100000 in
set_option maxHeartbeats 2000000 in
theorem values1_in (n : Nat) (hn : 1 ≤ n) (l Bn B : Nat) (ao : Option Addr) (cap b off : Nat) (xs : List Nat) (hxl : xs.length < 4611686018427387904) (had : 0 < xs.length → ao = some ⟨b, off, none⟩) (hb : 0 < xs.length → b < B) (J Jx : List Nat → World → Prop)
    (hY : ∀ pre x W, J pre W → pre.length < xs.length → YieldAt Fence.wide (n - 1) Try.prog l #[.int .u64 (x : Nat)] W fun e W' =>
      (e = .returned (.bool true) ∧ J (pre ++ [x]) W' ∧ KpU B W W') ∨ (e = .returned (.bool false) ∧ Jx (pre ++ [x]) W'))
    (W : World) (hBn : W.cell? ⟨Bn, 0, none⟩ = some (.slice ao xs.length cap)) (hU : Us W b off xs) (h0 : J [] W) :
    CallsIn Fence.wide n Try.prog 19 #[.func (.yield l) #[] #[], .pointer (some ⟨Bn, 0, none⟩)] W fun e W' => (∃ v, e = .returned v) ∧
      ((∃ ys, ys = xs ∧ J ys W') ∨ (∃ pre, pre <+: xs ∧ Jx pre W')) := by
  have HB := hide hb
  have HAD := hide had
  refine callsIn_of_wp Try.func19 rfl trivial ?_ rfl
  simp only [Try.ntmps19, List.size_toArray, List.length_cons, List.length_nil, Nat.reduceAdd, Nat.reduceSub, Array.replicate_succ, Array.replicate_zero, List.push_toArray, List.append_toArray, List.nil_append, List.cons_append]
  clear had hb
  gi_wp2
  gi_loopw [7] (fun p wr => ∃ k : Nat, k ≤ xs.length ∧ p = .int .i64 (k : Nat) ∧ Us wr b off xs ∧ J (xs.take k) wr) (fun p _ => xs.length - (intOf p).toNat)
  case atStart => exact ⟨0, by omega, rfl, hU, by simpa using h0⟩
  case round =>
    obtain ⟨k, hk, rfl, hu, hJs⟩ := hrel
    clear hU h0 hBn
    by_cases hlt : k < xs.length
    · obtain rfl := HAD.out (by omega)
      obtain ⟨x, hx⟩ : ∃ x, xs[k]? = some x := ⟨_, List.getElem?_eq_getElem hlt⟩
      have x0 := hu k x hx
      have HU := hide hu
      have HX := hide hx
      obtain ⟨fn, tmps, assign, body, hy, hR⟩ := hY (xs.take k) x wr hJs (by rw [List.length_take]; omega)
      clear hu hx hJs
      gi_wp2
      refine hR.mono ?_
      rintro e W3 (⟨rfl, hJ3, hk3⟩ | ⟨rfl, hJx3⟩)
      · rw [take_snoc HX.out] at hJ3
        have hu3 := HU.out.kept hk3 HB.out
        clear hk3
        gi_wp2
        go_roundw
        case rel => exact ⟨k + 1, by omega, by go_num, hu3, hJ3⟩
        case measure => simp [intOf]; omega
      · rw [take_snoc HX.out] at hJx3
        gi_wp2
        refine bodyPost_ret (results_none rfl _ _ _) rfl ?_
        exact ⟨⟨_, rfl⟩, .inr ⟨xs.take (k + 1), List.take_prefix _ _, hJx3⟩⟩
    · obtain rfl : k = xs.length := by omega
      gi_wp2
      go_end0
      exact ⟨⟨_, rfl⟩, .inl ⟨_, rfl, by simpa using hJs⟩⟩
set_option maxRecDepth 10000 in
theorem values_any (s : Option Addr) (len cap : Nat) (w : World) :
    Calls Try.prog 11 #[.slice s len cap] w fun e w' => e = .returned (.func (.func 19) #[] #[.pointer (some ⟨w.heap.size, 0, none⟩)]) ∧ w' = w.alloc (.cells #[.slice s len cap] 22) := by
  go_enter Try.func11, Try.ntmps11
  go_wp2
  go_ret
  exact ⟨rfl, rfl⟩
theorem values_stops (n : Nat) (hn : 1 ≤ n) (Bn B : Nat) (ao : Option Addr) (cap b off : Nat) (xs : List Nat) (hxl : xs.length < 4611686018427387904) (w : World) (hBn : Bn < w.heap.size) (hc : w.cell? ⟨Bn, 0, none⟩ = some (.slice ao xs.length cap)) (had : 0 < xs.length → ao = some ⟨b, off, none⟩) (hbw : 0 < xs.length → b < w.heap.size) (hbB : 0 < xs.length → b < B) (hU : Us w b off xs) :
    SeqStopsK Fence.wide n Try.prog 19 #[.pointer (some ⟨Bn, 0, none⟩)] (fun x : Nat => #[Value.int .u64 (x : Int)]) (KpU B) (fun ys => ys = xs) (fun pre => pre <+: xs) xs.length w := fun l J Jx W hW _ _ hY h0 =>
  values1_in n hn l Bn B ao cap b off xs hxl had hbB J Jx hY W ((hW.cell (p := ⟨Bn, 0, none⟩) hBn).trans hc) (fun i x hi => (hW.cell (p := ⟨b, off + i, none⟩) (hbw (by have := (List.getElem?_eq_some_iff.1 hi).1; omega))).trans (hU i x hi)) h0
end Go.Proofs.Ytoejdocnpcbpiaa
