import Derived.Test.YteafdpmblbbpnaaLB31
import Derived.Test.YteafdpmblbbpnaaLB41
namespace Go.Proofs.Yteafdpmblbbpnaa
open Go.RowKit

def jcells : List Jn → List Value
  | [] => []
  | a :: r => a.vals ++ jcells r
theorem jcells_app : ∀ (l r : List Jn), jcells (l ++ r) = jcells l ++ jcells r
  | [], r => rfl
  | a :: l, r => by show a.vals ++ jcells (l ++ r) = (a.vals ++ jcells l) ++ jcells r; rw [jcells_app l r, List.append_assoc]
theorem jtake_step {l : List Jn} {k : Nat} {a : Jn} (h : l[k]? = some a) : jcells (l.take k) ++ a.vals = jcells (l.take (k + 1)) := by
  rw [List.take_add_one, h, Option.toList_some, jcells_app]
  simp [jcells]
theorem infoEnt : (Try.prog.info? 38).map (fun i => (i.zero, i.size, i.bytes)) = some (some (.agg #[.int .u64 0, .int .i64 0, .int .u64 0, .int .u64 0, .int .u64 0]), 5, 40) := by kernel_rfl
/-- Between two rounds of lines. -/
structure Rj (w : World) (l : List Jn) (n k : Nat) (wr : World) : Prop where
  bel : Below w.heap.size w wr
  row : wr.ownsRow w.heap.size 38 5 (.slice (some ⟨w.heap.size, 0, none⟩) k n) k (jcells (l.take k))
theorem Rj.next {w : World} {l : List Jn} {n k : Nat} {wr w4 : World} (h : Rj w l n k wr) (o : Obj) {x : Jn} (hx : l[k]? = some x) (ho : w4.ownsRow w.heap.size 38 5 (.slice (some ⟨w.heap.size, 0, none⟩) (k + 1) n) (k + 1) (jcells (l.take k) ++ x.vals)) (hg : (wr.alloc o).grownBy w4 (some w.heap.size)) : Rj w l n (k + 1) w4 := by
  have hb := h.bel.alloc h.bel.size o
  exact ⟨hb.grown hg hb.size (fun j e => by cases e; exact Nat.le_refl _), by rw [← jtake_step hx]; exact ho⟩
set_option maxRecDepth 10000 in
set_option maxHeartbeats 4000000 in
/-- lines: the journal as it is told. -/
theorem linesG {w : World} {p a b : Nat} {mk ch : Value} {S : LS} (h : LG w p a b mk ch S) (hok : S.Ok) :
    Calls Try.prog 23 #[.pointer (some ⟨p, 3, none⟩)] w fun e w' => ∃ ao cap, e = .returned (.slice ao S.jl.length cap) ∧ Hid (w'.ownsRow w.heap.size 38 5 (.slice ao S.jl.length cap) S.jl.length (jcells S.jl) ∧ Below w.heap.size w w' ∧ (S.jl.length = 0 → ao = none ∧ cap = 0)) := by
  obtain ⟨i0, hi, hz0, hz1, hz2⟩ := info_parts infoEnt
  obtain ⟨n, hn⟩ : ∃ n, S.jl.length = n := ⟨_, rfl⟩
  obtain ⟨x, hx⟩ : ∃ x, S.nx = x := ⟨_, rfl⟩
  have hm : min (x - 1) 64 = n := by rw [← hx, ← S.jl_len]; exact hn
  have hx1 : 1 ≤ x := by have := hok.n0; omega
  have hx2 : x ≤ 4611686018427387904 := by have := hok.n1; omega
  have c3 := h.c.2.2.2.1
  have cl := h.lt.1
  rw [hx] at c3
  have HLA := hide (linesAtG w x hx1 hx2)
  rw [hm] at HLA
  have hn64 : n ≤ 64 := by omega
  have hnx : n ≤ x - 1 := by omega
  have HL := hide h
  have HN := hide hn
  have HX := hide hx
  have HM := hide hm
  rw [hn]
  clear h hok hn hx hm
  go_enter Try.func23, Try.ntmps23
  go_wp2_with fail
  refine HLA.out.mono ?_
  rintro e w1 ⟨rfl, rfl⟩
  clear HLA
  by_cases h0 : n = 0
  · subst h0
    have hnil : S.jl = [] := List.length_eq_zero_iff.1 HN.out
    have HE : Hid (w1.ownsRow w1.heap.size 38 5 (.slice none 0 0) 0 (jcells S.jl) ∧ Below w1.heap.size w1 w1) := by
      rw [hnil]
      exact ⟨World.ownsRow_nil _ _ _ _, Below.refl _ _⟩
    clear hnil HM hn64 hnx
    go_wp2
    go_ret
    exact ⟨none, 0, rfl, hide ⟨HE.out.1, HE.out.2, by simp⟩⟩
  have g0 : (((n : Nat) : Int) == 0) = false := by simp; omega
  obtain ⟨f, hf⟩ : ∃ f, x - n = f := ⟨_, rfl⟩
  have hwn : IntKind.u64.wrap ((n : Nat) : Int) = (n : Int) := IntWalk.u64_in _ ⟨by omega, by omega⟩
  have hws : IntKind.u64.wrap ((x : Int) - (n : Int)) = (f : Int) := by
    rw [IntWalk.u64_in _ ⟨by omega, by omega⟩]
    omega
  have hfx : f + n = x := by omega
  have HF := hide hfx
  clear hf hnx hfx
  go_wp2_with (first
    | (at_make; refine wpList_make_own _ rfl _ _ 29 rfl w1.heap.size 38 i0 (.agg #[.int .u64 0, .int .i64 0, .int .u64 0, .int .u64 0, .int .u64 0]) 5 Try.underlying29 hi hz0 hz1 .i64 .i64 _ n rfl rfl (by omega) (by rw [hz2]; omega) (by unfold maxLen; omega) (Nat.le_refl _) ?_; intro w0 hown0 hgrow0; have HB0 : Hid (Rj w1 S.jl n 0 w0) := ⟨(Below.refl _ _).grown hgrow0 (Nat.le_refl _) (fun k h => by cases h), hown0⟩; have c4 := (HL.out.kept HB0.out.bel).c.2.2.2.1; have cl4 := (HL.out.kept HB0.out.bel).lt.1; rw [HX.out] at c4; clear hown0 hgrow0 c3 cl))
  clear c4 cl4 hwn hws
  go_loopw [4, 5] (fun v s wr => ∃ k q : Nat, k ≤ n ∧ Hid (q = f + k) ∧ s = .int .u64 (q : Nat) ∧ v = .slice (some ⟨w1.heap.size, 0, none⟩) k n ∧ Hid (Rj w1 S.jl n k wr)) (fun _ s _ => x - (intOf s).toNat)
  case atStart => exact ⟨0, f, by omega, rfl, rfl, rfl, HB0.out⟩
  case round =>
    clear HB0
    obtain ⟨k, q, hk, HQ, rfl, rfl, HR⟩ := hrel
    have c3 := (HL.out.kept HR.out.bel).c.2.2.2.1
    have cl := (HL.out.kept HR.out.bel).lt.1
    rw [HX.out] at c3
    by_cases hlt : k < n
    · have hqx : (q : Int) < (x : Int) := by have := HQ.out; have := HF.out; omega
      obtain ⟨r, hr⟩ : ∃ r, q % 64 = r := ⟨_, rfl⟩
      have hr64 : r < 64 := by omega
      have hm : (q : Int).tmod 64 = (r : Int) := by rw [Int.tmod_eq_emod_of_nonneg (by omega)]; omega
      have hki : (r : Int) < 64 := by omega
      have hk0 : (0 : Int) ≤ (r : Int) := by omega
      obtain ⟨r0, r1, r2, r3, r4⟩ := (HL.out.kept HR.out.bel).ring hr64
      have hj : S.jl[k]? = some (S.rg r) := by
        have h1 := HN.out
        rw [S.jl_len] at h1
        rw [S.jl_at (by omega), h1]
        have h2 := HQ.out
        have h3 := HX.out
        have h4 := HF.out
        have e : S.nx - n + k = q := by omega
        rw [e, hr]
      have HOW : Hid (∀ o, (World.alloc wr o).ownsRow w1.heap.size 38 5 (.slice (some ⟨w1.heap.size, 0, none⟩) k n) k (jcells (S.jl.take k))) := fun o => HR.out.row.alloc o
      have KAP : Hid (∀ o w4, w4.ownsRow w1.heap.size 38 5 (.slice (some ⟨w1.heap.size, 0, none⟩) (k + 1) n) (k + 1) (jcells (S.jl.take k) ++ [.int .u64 ((S.rg r).sq : Int), .int .i64 ((S.rg r).kd : Int), .int .u64 ((S.rg r).fr : Int), .int .u64 ((S.rg r).tw : Int), .int .u64 ((S.rg r).am : Int)]) → (World.alloc wr o).grownBy w4 (some w1.heap.size) → Rj w1 S.jl n (k + 1) w4) := fun o w4 ho hg => HR.out.next o hj ho hg
      have hwq : IntKind.u64.wrap ((q : Int) + 1) = (q : Int) + 1 := IntWalk.u64_in _ ⟨by omega, by omega⟩
      have hsz := HR.out.bel.size
      have HC3 := hide c3
      clear hr hj HR
      generalize ((S.rg r).sq : Int) = X0 at *
      generalize ((S.rg r).kd : Int) = X1 at *
      generalize ((S.rg r).fr : Int) = X2 at *
      generalize ((S.rg r).tw : Int) = X3 at *
      generalize ((S.rg r).am : Int) = X4 at *
      go_wp2_with (first
        | (at_builtin; refine wpList_append_own_spare _ rfl (.tmp 30) (.tmp 38) 29 rfl w1.heap.size 38 i0 5 Try.underlying29 hi hz1 w1.heap.size k n _ rfl (HOW.out _) ⟨wr.heap.size, 0, none⟩ 1 1 [.int .u64 X0, .int .i64 X1, .int .u64 X2, .int .u64 X3, .int .u64 X4] rfl rfl (cells_newA _ _ _) (by simp [Value.oneCell']) (by omega) ?_; intro w4 ho hg; have HR2 := hide (KAP.out _ _ ho hg); clear ho hg))
      go_roundw
      case rel => exact ⟨k + 1, q + 1, by omega, by rw [HQ.out]; exact hide rfl, by go_num, rfl, HR2.out⟩
      case measure => simp [intOf]; omega
    · obtain rfl : n = k := by omega
      have hqx : ¬ (q : Int) < (x : Int) := by have := HQ.out; have := HF.out; omega
      have e : S.jl.take n = S.jl := by rw [List.take_of_length_le]; rw [HN.out]; exact Nat.le_refl _
      have hr := HR.out.row
      rw [e] at hr
      have HE : Hid (wr.ownsRow w1.heap.size 38 5 (.slice (some ⟨w1.heap.size, 0, none⟩) n n) n (jcells S.jl) ∧ Below w1.heap.size w1 wr) := ⟨hr, HR.out.bel⟩
      clear hr e HR
      go_wp2
      go_ret
      exact ⟨_, _, rfl, HE.out⟩
end Go.Proofs.Yteafdpmblbbpnaa
