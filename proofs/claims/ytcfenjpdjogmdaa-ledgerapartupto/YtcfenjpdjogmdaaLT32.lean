import Derived.Test.YtcfenjpdjogmdaaLT37
import Derived.Test.YtcfenjpdjogmdaaLT21
namespace Go.Proofs.Ytcfenjpdjogmdaa
open Go.RowKit

def set5 (V : World) (r : Nat) (u0 u1 u2 u3 u4 : Value) : World := ((((V.setCell ⟨r, 0, none⟩ u0).setCell ⟨r, 1, none⟩ u1).setCell ⟨r, 2, none⟩ u2).setCell ⟨r, 3, none⟩ u3).setCell ⟨r, 4, none⟩ u4
theorem set5_g (V : World) (r : Nat) (u0 u1 u2 u3 u4 : Value) : V.grownBy (set5 V r u0 u1 u2 u3 u4) (some r) := grown_two (grown_two (grown_two (grown_two (grown_set _ r 0 u0) (grown_set _ r 1 u1)) (grown_set _ r 2 u2)) (grown_set _ r 3 u3)) (grown_set _ r 4 u4)
theorem rowT_ne {W : World} {B n q k : Nat} {e : TypeId} {v : Value} {xs : List Value} {cs : Array Value} {t : TypeId} (h : W.ownsRow B e k v n xs) (hq : W.heap[q]? = some (.cells cs t (0, 0))) (hne : t ≠ e) : v.ownBlock ≠ some q := fun e' => by
  rcases h.2 with ⟨rfl, _⟩ | ⟨g, cp, cur, rfl, _, hg, _⟩
  · cases e'
  · cases e'
    rw [hg] at hq
    cases hq
    exact hne rfl
/-- The lists of an image, each new memory. -/
structure ImR (w w' : World) (A : List Ac) (H : List Ho) (J : List Jn) (ao : Option Addr) (cap : Nat) (ho : Option Addr) (hcap : Nat) (jo : Option Addr) (jcap : Nat) : Prop where
  ra : w'.ownsRow w.heap.size 80 4 (.slice ao A.length cap) A.length (acells A)
  rh : w'.ownsRow w.heap.size 83 3 (.slice ho H.length hcap) H.length (hcells H)
  rj : w'.ownsRow w.heap.size 68 5 (.slice jo J.length jcap) J.length (jcells J)
  za : A.length = 0 → ao = none ∧ cap = 0
  zh : H.length = 0 → ho = none ∧ hcap = 0
  zj : J.length = 0 → jo = none ∧ jcap = 0
set_option maxRecDepth 10000 in
set_option maxHeartbeats 8000000 in
theorem imageG {w : World} {p a b : Nat} {mk ch : Value} {S : LS} (h : LG w p a b mk ch S) (hok : S.Ok) :
    Calls Try.prog 7 #[.pointer (some ⟨p, 0, none⟩)] w fun e w' => ∃ ao cap ho hcap jo jcap, e = .returned (.agg #[.int .u64 (S.tot : Nat), .int .u64 (S.nx : Nat), .slice ao S.acc.length cap, .slice ho S.hol.length hcap, .slice jo S.jl.length jcap]) ∧ Hid (ImR w w' S.acc S.hol S.jl ao cap ho hcap jo jcap ∧ Below w.heap.size w w') := by
  obtain ⟨W1, hW1⟩ : ∃ W1, w.alloc (.cells #[.int .u64 0, .int .u64 0, .slice none 0 0, .slice none 0 0, .slice none 0 0] 35) = W1 := ⟨_, rfl⟩
  have b1 : Below w.heap.size w W1 := by rw [← hW1]; exact (Below.refl _ w).alloc (Nat.le_refl _) _
  have C1 : Hid (W1.heap[w.heap.size]? = some (.cells #[.int .u64 0, .int .u64 0, .slice none 0 0, .slice none 0 0, .slice none 0 0] 35 (0, 0))) := by rw [← hW1]; exact alloc_atK _ _
  have H1 := hide (h.kept b1)
  have HPR : Hid (p ≠ w.heap.size) := fun e => by
    have := h.lt.1
    omega
  have HM := hide (madeG H1.out)
  have HY0 : Hid (Below W1.heap.size W1 W1.drew) := hide ((Below.refl _ W1).drew)
  have KC : Hid (∀ V : World, V.heap[p]? = W1.heap[p]? → V.cell? ⟨p, 0, none⟩ = some (.int .u64 (S.tot : Int)) ∧ V.cell? ⟨p, 1, none⟩ = some (.map (some a)) ∧ V.cell? ⟨p, 2, none⟩ = some (.map (some b)) ∧ V.cell? ⟨p, 3, none⟩ = some (.int .u64 (S.nx : Int)) ∧ p < V.heap.size) := fun V hV => by
    obtain ⟨cs, h1, _, ⟨h2, h3, h4, h5, _⟩, _⟩ := H1.out.blk
    have hc := hV.trans h1
    exact ⟨(block_cell hc 0).trans h2, (block_cell hc 1).trans h3, (block_cell hc 2).trans h4, (block_cell hc 3).trans h5, block_lt hc⟩
  have KPE : Hid (∀ V : World, Below W1.heap.size W1 V → V.heap[p]? = W1.heap[p]?) := fun V hV => hV.block _ H1.out.lt.1
  have KR : Hid (∀ V, Hid (Below W1.heap.size W1 V) → Calls Try.prog 29 #[.map (some a)] V fun e w' => ∃ ao cap, e = .returned (.slice ao S.acc.length cap) ∧ Hid (w'.ownsRow V.heap.size 80 4 (.slice ao S.acc.length cap) S.acc.length (acells S.acc) ∧ Below V.heap.size V w' ∧ (S.acc.length = 0 → ao = none ∧ cap = 0))) := fun V hV => risingG (H1.out.kept hV.out).acc hok.ua hok.ia hok.la
  have KH : Hid (∀ V, Hid (Below W1.heap.size W1 V) → Calls Try.prog 30 #[.map (some b)] V fun e w' => ∃ ao cap, e = .returned (.slice ao S.hol.length cap) ∧ Hid (w'.ownsRow V.heap.size 83 3 (.slice ao S.hol.length cap) S.hol.length (hcells S.hol) ∧ Below V.heap.size V w' ∧ (S.hol.length = 0 → ao = none ∧ cap = 0))) := fun V hV => risingHo (H1.out.kept hV.out).hol hok.uh hok.ih hok.lh
  have KJ : Hid (∀ V, Hid (Below W1.heap.size W1 V) → Calls Try.prog 31 #[.pointer (some ⟨p, 3, none⟩)] V fun e w' => ∃ ao cap, e = .returned (.slice ao S.jl.length cap) ∧ Hid (w'.ownsRow V.heap.size 68 5 (.slice ao S.jl.length cap) S.jl.length (jcells S.jl) ∧ Below V.heap.size V w' ∧ (S.jl.length = 0 → ao = none ∧ cap = 0))) := fun V hV => linesG (H1.out.kept hV.out) hok
  have KN1 : Hid (∀ (V : World) (ao : Option Addr) (cap : Nat) (V1 : World), Hid (Below W1.heap.size W1 V) → Hid (V1.ownsRow V.heap.size 80 4 (.slice ao S.acc.length cap) S.acc.length (acells S.acc) ∧ Below V.heap.size V V1 ∧ (S.acc.length = 0 → ao = none ∧ cap = 0)) → Hid (Hid (Below W1.heap.size W1 V1) ∧ V1.heap[p]? = W1.heap[p]? ∧ V1.ownsRow w.heap.size 80 4 (.slice ao S.acc.length cap) S.acc.length (acells S.acc) ∧ (S.acc.length = 0 → ao = none ∧ cap = 0))) := fun V ao cap V1 hV h1 => by
    have hb := hV.out.trans (h1.out.2.1.mono hV.out.size)
    exact ⟨hb, KPE.out _ hb, row_lower h1.out.1 (Nat.le_trans b1.size hV.out.size), h1.out.2.2⟩
  have KN2 : Hid (∀ (V : World) (ao : Option Addr) (cap : Nat) (ho : Option Addr) (hcap : Nat) (V1 : World), Hid (Hid (Below W1.heap.size W1 V) ∧ V.heap[p]? = W1.heap[p]? ∧ V.ownsRow w.heap.size 80 4 (.slice ao S.acc.length cap) S.acc.length (acells S.acc) ∧ (S.acc.length = 0 → ao = none ∧ cap = 0)) → Hid (V1.ownsRow V.heap.size 83 3 (.slice ho S.hol.length hcap) S.hol.length (hcells S.hol) ∧ Below V.heap.size V V1 ∧ (S.hol.length = 0 → ho = none ∧ hcap = 0)) → Hid (Hid (Below W1.heap.size W1 V1) ∧ V1.heap[p]? = W1.heap[p]? ∧ (V1.ownsRow w.heap.size 80 4 (.slice ao S.acc.length cap) S.acc.length (acells S.acc) ∧ (S.acc.length = 0 → ao = none ∧ cap = 0)) ∧ V1.ownsRow w.heap.size 83 3 (.slice ho S.hol.length hcap) S.hol.length (hcells S.hol) ∧ (S.hol.length = 0 → ho = none ∧ hcap = 0))) := fun V ao cap ho hcap V1 hV h1 => by
    have hb := hV.out.1.out.trans (h1.out.2.1.mono hV.out.1.out.size)
    exact ⟨hb, KPE.out _ hb, ⟨row_quietT hV.out.2.2.1 (below_none h1.out.2.1), hV.out.2.2.2⟩, row_lower h1.out.1 (Nat.le_trans b1.size hV.out.1.out.size), h1.out.2.2⟩
  have KN3 : Hid (∀ (V : World) (ao : Option Addr) (cap : Nat) (ho : Option Addr) (hcap : Nat) (jo : Option Addr) (jcap : Nat) (V1 : World), Hid (Hid (Below W1.heap.size W1 V) ∧ V.heap[p]? = W1.heap[p]? ∧ (V.ownsRow w.heap.size 80 4 (.slice ao S.acc.length cap) S.acc.length (acells S.acc) ∧ (S.acc.length = 0 → ao = none ∧ cap = 0)) ∧ V.ownsRow w.heap.size 83 3 (.slice ho S.hol.length hcap) S.hol.length (hcells S.hol) ∧ (S.hol.length = 0 → ho = none ∧ hcap = 0)) → Hid (V1.ownsRow V.heap.size 68 5 (.slice jo S.jl.length jcap) S.jl.length (jcells S.jl) ∧ Below V.heap.size V V1 ∧ (S.jl.length = 0 → jo = none ∧ jcap = 0)) → Hid (Hid (Below W1.heap.size W1 V1) ∧ V1.heap[p]? = W1.heap[p]? ∧ ImR w V1 S.acc S.hol S.jl ao cap ho hcap jo jcap)) := fun V ao cap ho hcap jo jcap V1 hV h1 => by
    have hb := hV.out.1.out.trans (h1.out.2.1.mono hV.out.1.out.size)
    exact ⟨hb, KPE.out _ hb, row_quietT hV.out.2.2.1.1 (below_none h1.out.2.1), row_quietT hV.out.2.2.2.1 (below_none h1.out.2.1), row_lower h1.out.1 (Nat.le_trans b1.size hV.out.1.out.size), hV.out.2.2.1.2, hV.out.2.2.2.2, h1.out.2.2⟩
  have KC1 : Hid (∀ V, Hid (Below W1.heap.size W1 V) → V.heap[w.heap.size]? = some (.cells #[.int .u64 0, .int .u64 0, .slice none 0 0, .slice none 0 0, .slice none 0 0] 35 (0, 0))) := fun V hV => (hV.out.block _ (block_lt C1.out)).trans C1.out
  have KY : Hid (∀ V, Hid (Below W1.heap.size W1 V) → V.cell? ⟨w.heap.size, 0, none⟩ = some (.int .u64 0) ∧ V.cell? ⟨w.heap.size, 1, none⟩ = some (.int .u64 0) ∧ V.cell? ⟨w.heap.size, 2, none⟩ = some (.slice none 0 0) ∧ V.cell? ⟨w.heap.size, 3, none⟩ = some (.slice none 0 0) ∧ V.cell? ⟨w.heap.size, 4, none⟩ = some (.slice none 0 0) ∧ w.heap.size < V.heap.size ∧ V.frozen? ⟨w.heap.size, 0, none⟩ = false ∧ V.frozen? ⟨w.heap.size, 1, none⟩ = false ∧ V.frozen? ⟨w.heap.size, 2, none⟩ = false ∧ V.frozen? ⟨w.heap.size, 3, none⟩ = false ∧ V.frozen? ⟨w.heap.size, 4, none⟩ = false) := fun V hV => by
    have hc := KC1.out V hV
    exact ⟨block_cell hc 0, block_cell hc 1, block_cell hc 2, block_cell hc 3, block_cell hc 4, block_lt hc, block_free hc 0, block_free hc 1, block_free hc 2, block_free hc 3, block_free hc 4⟩
  have KZ : Hid (∀ (V : World) (u0 u1 u2 u3 u4 : Value), V.heap[p]? = W1.heap[p]? → (set5 V w.heap.size u0 u1 u2 u3 u4).heap[p]? = W1.heap[p]?) := fun V u0 u1 u2 u3 u4 hV => ((set5_g V w.heap.size u0 u1 u2 u3 u4).block p (KC.out V hV).2.2.2.2 (fun e => HPR.out (Option.some.inj e))).trans hV
  have KE : Hid (∀ (V : World) (ao : Option Addr) (cap : Nat) (ho : Option Addr) (hcap : Nat) (jo : Option Addr) (jcap : Nat) (u0 u1 u2 u3 u4 : Value), Hid (Hid (Below W1.heap.size W1 V) ∧ V.heap[p]? = W1.heap[p]? ∧ ImR w V S.acc S.hol S.jl ao cap ho hcap jo jcap) → Hid (ImR w (set5 V w.heap.size u0 u1 u2 u3 u4) S.acc S.hol S.jl ao cap ho hcap jo jcap ∧ Below w.heap.size w (set5 V w.heap.size u0 u1 u2 u3 u4))) := fun V ao cap ho hcap jo jcap u0 u1 u2 u3 u4 hV => by
    have hg := set5_g V w.heap.size u0 u1 u2 u3 u4
    have hb := b1.trans (hV.out.1.out.mono b1.size)
    have hc := KC1.out V hV.out.1
    have hr := hV.out.2.2
    exact ⟨⟨hr.ra.kept hg (.inr (rowT_ne hr.ra hc (by decide))), hr.rh.kept hg (.inr (rowT_ne hr.rh hc (by decide))), hr.rj.kept hg (.inr (rowT_ne hr.rj hc (by decide))), hr.za, hr.zh, hr.zj⟩, hb.grown hg hb.size (fun j e => by cases e; exact Nat.le_refl _)⟩
  unfold set5 at KZ KE
  have HW1 := hide hW1
  clear h hok hW1 b1 C1 H1 KC1 KPE HPR
  generalize (S.tot : Int) = SI at *
  generalize (S.nx : Int) = NI at *
  go_enter Try.func7, Try.ntmps7
  go_upto_region 1 with fail
  rw [HW1.out]
  clear HW1
  go_wp2_with fail
  refine HM.out.mono ?_
  rintro e w1 ⟨rfl, e9⟩
  rw [e9]
  clear e9
  go_upto_region 3 with fail
  refine wp_region_L 24 (fun _ => True) (fun V => V.heap[p]? = W1.heap[p]?) (by kernel_rfl) trivial rfl (fun hS0 => ?_)
  refine wpAnyL_take (i := 0) (oi := { dst := some 7, op := Op.move (Operand.tmp 0), type := 24, pos := "query.go:79", after := #[], guard := none }) (v := .pointer (some ⟨p, 0, none⟩)) rfl (by decide) (by kernel_rfl) (by kernel_rfl) (by kernel_rfl) (fun _ _ _ h => h) (Or.inl ⟨by rfl, fun w2 hSw => ?_⟩) hS0 (fun hS1 => ?_)
  · obtain ⟨r0, r1, r2, r3, r4⟩ := KC.out _ hSw
    go_simp
  simp only [Act.put, List.setIfInBounds_toArray, List.set_cons_zero, List.set_cons_succ]
  clear hS0
  refine wpAnyL_take (i := 1) (oi := { dst := some 8, op := Op.nilCheck (Operand.tmp 7), type := 0, pos := "query.go:79", after := #[{ on := 0, ground := Ground.data }], guard := none }) (v := .pointer (some ⟨p, 0, none⟩)) rfl (by decide) (by kernel_rfl) (by kernel_rfl) (by kernel_rfl) (fun _ _ _ h => h) (Or.inl ⟨by rfl, fun w2 hSw => ?_⟩) hS1 (fun hS2 => ?_)
  · obtain ⟨r0, r1, r2, r3, r4⟩ := KC.out _ hSw
    go_simp
  simp only [Act.put, List.setIfInBounds_toArray, List.set_cons_zero, List.set_cons_succ]
  clear hS1
  refine wpAnyL_take (i := 2) (oi := { dst := some 9, op := Op.fieldAddr 77 (Operand.tmp 8) 0, type := 0, pos := "query.go:79", after := #[{ on := 1, ground := Ground.data }], guard := none }) (v := .pointer (some ⟨p, 0, none⟩)) rfl (by decide) (by kernel_rfl) (by kernel_rfl) (by kernel_rfl) (fun _ _ _ h => h) (Or.inl ⟨by rfl, fun w2 hSw => ?_⟩) hS2 (fun hS3 => ?_)
  · obtain ⟨r0, r1, r2, r3, r4⟩ := KC.out _ hSw
    go_simp
  simp only [Act.put, List.setIfInBounds_toArray, List.set_cons_zero, List.set_cons_succ]
  clear hS2
  refine wpAnyL_take (i := 3) (oi := { dst := some 10, op := Op.load 25 (Operand.tmp 9), type := 25, pos := "query.go:79", after := #[{ on := 2, ground := Ground.data }], guard := none }) (v := .int .u64 SI) rfl (by decide) (by kernel_rfl) (by kernel_rfl) (by kernel_rfl) (fun _ _ _ h => h) (Or.inl ⟨by rfl, fun w2 hSw => ?_⟩) hS3 (fun hS4 => ?_)
  · obtain ⟨r0, r1, r2, r3, r4⟩ := KC.out _ hSw
    go_simp
  simp only [Act.put, List.setIfInBounds_toArray, List.set_cons_zero, List.set_cons_succ]
  clear hS3
  refine wpAnyL_take (i := 4) (oi := { dst := some 11, op := Op.move (Operand.tmp 0), type := 24, pos := "query.go:79", after := #[], guard := none }) (v := .pointer (some ⟨p, 0, none⟩)) rfl (by decide) (by kernel_rfl) (by kernel_rfl) (by kernel_rfl) (fun _ _ _ h => h) (Or.inl ⟨by rfl, fun w2 hSw => ?_⟩) hS4 (fun hS5 => ?_)
  · obtain ⟨r0, r1, r2, r3, r4⟩ := KC.out _ hSw
    go_simp
  simp only [Act.put, List.setIfInBounds_toArray, List.set_cons_zero, List.set_cons_succ]
  clear hS4
  refine wpAnyL_take (i := 5) (oi := { dst := some 12, op := Op.nilCheck (Operand.tmp 11), type := 0, pos := "query.go:79", after := #[{ on := 4, ground := Ground.data }], guard := none }) (v := .pointer (some ⟨p, 0, none⟩)) rfl (by decide) (by kernel_rfl) (by kernel_rfl) (by kernel_rfl) (fun _ _ _ h => h) (Or.inl ⟨by rfl, fun w2 hSw => ?_⟩) hS5 (fun hS6 => ?_)
  · obtain ⟨r0, r1, r2, r3, r4⟩ := KC.out _ hSw
    go_simp
  simp only [Act.put, List.setIfInBounds_toArray, List.set_cons_zero, List.set_cons_succ]
  clear hS5
  refine wpAnyL_take (i := 6) (oi := { dst := some 13, op := Op.fieldAddr 77 (Operand.tmp 12) 3, type := 0, pos := "query.go:79", after := #[{ on := 5, ground := Ground.data }], guard := none }) (v := .pointer (some ⟨p, 3, none⟩)) rfl (by decide) (by kernel_rfl) (by kernel_rfl) (by kernel_rfl) (fun _ _ _ h => h) (Or.inl ⟨by rfl, fun w2 hSw => ?_⟩) hS6 (fun hS7 => ?_)
  · obtain ⟨r0, r1, r2, r3, r4⟩ := KC.out _ hSw
    go_simp
  simp only [Act.put, List.setIfInBounds_toArray, List.set_cons_zero, List.set_cons_succ]
  clear hS6
  refine wpAnyL_take (i := 7) (oi := { dst := some 14, op := Op.fieldAddr 71 (Operand.tmp 13) 0, type := 0, pos := "query.go:79", after := #[{ on := 6, ground := Ground.data }], guard := none }) (v := .pointer (some ⟨p, 3, none⟩)) rfl (by decide) (by kernel_rfl) (by kernel_rfl) (by kernel_rfl) (fun _ _ _ h => h) (Or.inl ⟨by rfl, fun w2 hSw => ?_⟩) hS7 (fun hS8 => ?_)
  · obtain ⟨r0, r1, r2, r3, r4⟩ := KC.out _ hSw
    go_simp
  simp only [Act.put, List.setIfInBounds_toArray, List.set_cons_zero, List.set_cons_succ]
  clear hS7
  refine wpAnyL_take (i := 8) (oi := { dst := some 15, op := Op.load 25 (Operand.tmp 14), type := 25, pos := "query.go:79", after := #[{ on := 7, ground := Ground.data }], guard := none }) (v := .int .u64 NI) rfl (by decide) (by kernel_rfl) (by kernel_rfl) (by kernel_rfl) (fun _ _ _ h => h) (Or.inl ⟨by rfl, fun w2 hSw => ?_⟩) hS8 (fun hS9 => ?_)
  · obtain ⟨r0, r1, r2, r3, r4⟩ := KC.out _ hSw
    go_simp
  simp only [Act.put, List.setIfInBounds_toArray, List.set_cons_zero, List.set_cons_succ]
  clear hS8
  refine wpAnyL_take (i := 9) (oi := { dst := some 16, op := Op.move (Operand.tmp 0), type := 24, pos := "query.go:79", after := #[], guard := none }) (v := .pointer (some ⟨p, 0, none⟩)) rfl (by decide) (by kernel_rfl) (by kernel_rfl) (by kernel_rfl) (fun _ _ _ h => h) (Or.inl ⟨by rfl, fun w2 hSw => ?_⟩) hS9 (fun hS10 => ?_)
  · obtain ⟨r0, r1, r2, r3, r4⟩ := KC.out _ hSw
    go_simp
  simp only [Act.put, List.setIfInBounds_toArray, List.set_cons_zero, List.set_cons_succ]
  clear hS9
  refine wpAnyL_take (i := 10) (oi := { dst := some 17, op := Op.nilCheck (Operand.tmp 16), type := 0, pos := "query.go:79", after := #[{ on := 9, ground := Ground.data }], guard := none }) (v := .pointer (some ⟨p, 0, none⟩)) rfl (by decide) (by kernel_rfl) (by kernel_rfl) (by kernel_rfl) (fun _ _ _ h => h) (Or.inl ⟨by rfl, fun w2 hSw => ?_⟩) hS10 (fun hS11 => ?_)
  · obtain ⟨r0, r1, r2, r3, r4⟩ := KC.out _ hSw
    go_simp
  simp only [Act.put, List.setIfInBounds_toArray, List.set_cons_zero, List.set_cons_succ]
  clear hS10
  refine wpAnyL_take (i := 11) (oi := { dst := some 18, op := Op.fieldAddr 77 (Operand.tmp 17) 1, type := 0, pos := "query.go:79", after := #[{ on := 10, ground := Ground.data }], guard := none }) (v := .pointer (some ⟨p, 1, none⟩)) rfl (by decide) (by kernel_rfl) (by kernel_rfl) (by kernel_rfl) (fun _ _ _ h => h) (Or.inl ⟨by rfl, fun w2 hSw => ?_⟩) hS11 (fun hS12 => ?_)
  · obtain ⟨r0, r1, r2, r3, r4⟩ := KC.out _ hSw
    go_simp
  simp only [Act.put, List.setIfInBounds_toArray, List.set_cons_zero, List.set_cons_succ]
  clear hS11
  refine wpAnyL_take (i := 12) (oi := { dst := some 19, op := Op.load 65 (Operand.tmp 18), type := 65, pos := "query.go:79", after := #[{ on := 11, ground := Ground.data }], guard := none }) (v := .map (some a)) rfl (by decide) (by kernel_rfl) (by kernel_rfl) (by kernel_rfl) (fun _ _ _ h => h) (Or.inl ⟨by rfl, fun w2 hSw => ?_⟩) hS12 (fun hS13 => ?_)
  · obtain ⟨r0, r1, r2, r3, r4⟩ := KC.out _ hSw
    go_simp
  simp only [Act.put, List.setIfInBounds_toArray, List.set_cons_zero, List.set_cons_succ]
  clear hS12
  refine wpAnyL_take (i := 14) (oi := { dst := some 21, op := Op.move (Operand.tmp 0), type := 24, pos := "query.go:79", after := #[], guard := none }) (v := .pointer (some ⟨p, 0, none⟩)) rfl (by decide) (by kernel_rfl) (by kernel_rfl) (by kernel_rfl) (fun _ _ _ h => h) (Or.inl ⟨by rfl, fun w2 hSw => ?_⟩) hS13 (fun hS14 => ?_)
  · obtain ⟨r0, r1, r2, r3, r4⟩ := KC.out _ hSw
    go_simp
  simp only [Act.put, List.setIfInBounds_toArray, List.set_cons_zero, List.set_cons_succ]
  clear hS13
  refine wpAnyL_take (i := 15) (oi := { dst := some 22, op := Op.nilCheck (Operand.tmp 21), type := 0, pos := "query.go:79", after := #[{ on := 14, ground := Ground.data }], guard := none }) (v := .pointer (some ⟨p, 0, none⟩)) rfl (by decide) (by kernel_rfl) (by kernel_rfl) (by kernel_rfl) (fun _ _ _ h => h) (Or.inl ⟨by rfl, fun w2 hSw => ?_⟩) hS14 (fun hS15 => ?_)
  · obtain ⟨r0, r1, r2, r3, r4⟩ := KC.out _ hSw
    go_simp
  simp only [Act.put, List.setIfInBounds_toArray, List.set_cons_zero, List.set_cons_succ]
  clear hS14
  refine wpAnyL_take (i := 16) (oi := { dst := some 23, op := Op.fieldAddr 77 (Operand.tmp 22) 2, type := 0, pos := "query.go:79", after := #[{ on := 15, ground := Ground.data }], guard := none }) (v := .pointer (some ⟨p, 2, none⟩)) rfl (by decide) (by kernel_rfl) (by kernel_rfl) (by kernel_rfl) (fun _ _ _ h => h) (Or.inl ⟨by rfl, fun w2 hSw => ?_⟩) hS15 (fun hS16 => ?_)
  · obtain ⟨r0, r1, r2, r3, r4⟩ := KC.out _ hSw
    go_simp
  simp only [Act.put, List.setIfInBounds_toArray, List.set_cons_zero, List.set_cons_succ]
  clear hS15
  refine wpAnyL_take (i := 17) (oi := { dst := some 24, op := Op.load 66 (Operand.tmp 23), type := 66, pos := "query.go:79", after := #[{ on := 16, ground := Ground.data }], guard := none }) (v := .map (some b)) rfl (by decide) (by kernel_rfl) (by kernel_rfl) (by kernel_rfl) (fun _ _ _ h => h) (Or.inl ⟨by rfl, fun w2 hSw => ?_⟩) hS16 (fun hS17 => ?_)
  · obtain ⟨r0, r1, r2, r3, r4⟩ := KC.out _ hSw
    go_simp
  simp only [Act.put, List.setIfInBounds_toArray, List.set_cons_zero, List.set_cons_succ]
  clear hS16
  refine wpAnyL_take (i := 19) (oi := { dst := some 26, op := Op.move (Operand.tmp 0), type := 24, pos := "query.go:79", after := #[], guard := none }) (v := .pointer (some ⟨p, 0, none⟩)) rfl (by decide) (by kernel_rfl) (by kernel_rfl) (by kernel_rfl) (fun _ _ _ h => h) (Or.inl ⟨by rfl, fun w2 hSw => ?_⟩) hS17 (fun hS18 => ?_)
  · obtain ⟨r0, r1, r2, r3, r4⟩ := KC.out _ hSw
    go_simp
  simp only [Act.put, List.setIfInBounds_toArray, List.set_cons_zero, List.set_cons_succ]
  clear hS17
  refine wpAnyL_take (i := 20) (oi := { dst := some 27, op := Op.nilCheck (Operand.tmp 26), type := 0, pos := "query.go:79", after := #[{ on := 19, ground := Ground.data }], guard := none }) (v := .pointer (some ⟨p, 0, none⟩)) rfl (by decide) (by kernel_rfl) (by kernel_rfl) (by kernel_rfl) (fun _ _ _ h => h) (Or.inl ⟨by rfl, fun w2 hSw => ?_⟩) hS18 (fun hS19 => ?_)
  · obtain ⟨r0, r1, r2, r3, r4⟩ := KC.out _ hSw
    go_simp
  simp only [Act.put, List.setIfInBounds_toArray, List.set_cons_zero, List.set_cons_succ]
  clear hS18
  refine wpAnyL_take (i := 21) (oi := { dst := some 28, op := Op.fieldAddr 77 (Operand.tmp 27) 3, type := 0, pos := "query.go:79", after := #[{ on := 20, ground := Ground.data }], guard := none }) (v := .pointer (some ⟨p, 3, none⟩)) rfl (by decide) (by kernel_rfl) (by kernel_rfl) (by kernel_rfl) (fun _ _ _ h => h) (Or.inl ⟨by rfl, fun w2 hSw => ?_⟩) hS19 (fun hS20 => ?_)
  · obtain ⟨r0, r1, r2, r3, r4⟩ := KC.out _ hSw
    go_simp
  simp only [Act.put, List.setIfInBounds_toArray, List.set_cons_zero, List.set_cons_succ]
  clear hS19
  refine wpAnyL_one (i := 13) (o := { dst := some 20, op := Op.call { callee := Callee.value (Operand.func 29), args := #[Operand.tmp 19], argTypes := #[65] }, type := 22, pos := "query.go:82", after := #[{ on := 12, ground := Ground.data }], guard := none }) (by kernel_rfl) rfl (fun K hK => ?_)
  clear hS20
  go_simp
  go_at_call 29
  refine (KR.out _ HY0).mono ?_
  rintro e V1 ⟨ao6, cap6, rfl, G6⟩
  have HY1 := KN1.out _ _ _ _ HY0 G6
  refine hK.out _ _ ⟨fun _ => trivial, HY1.out.2.1⟩ ?_
  clear hK K
  refine wpAnyL_one (i := 18) (o := { dst := some 25, op := Op.call { callee := Callee.value (Operand.func 30), args := #[Operand.tmp 24], argTypes := #[66] }, type := 32, pos := "query.go:83", after := #[{ on := 17, ground := Ground.data }, { on := 13, ground := Ground.chain }], guard := none }) (by kernel_rfl) rfl (fun K hK => ?_)
  go_simp
  go_at_call 30
  refine (KH.out _ HY1.out.1).mono ?_
  rintro e V2 ⟨ho6, hcap6, rfl, G7⟩
  have HY2 := KN2.out _ _ _ _ _ _ HY1 G7
  refine hK.out _ _ ⟨fun _ => trivial, HY2.out.2.1⟩ ?_
  clear hK K
  refine wpAnyL_one (i := 22) (o := { dst := some 29, op := Op.call { callee := Callee.value (Operand.func 31), args := #[Operand.tmp 28], argTypes := #[71] }, type := 33, pos := "query.go:84", after := #[{ on := 21, ground := Ground.data }, { on := 18, ground := Ground.chain }], guard := none }) (by kernel_rfl) rfl (fun K hK => ?_)
  go_simp
  go_at_call 31
  refine (KJ.out _ HY2.out.1).mono ?_
  rintro e V3 ⟨jo6, jcap6, rfl, G8⟩
  have HY3 := KN3.out _ _ _ _ _ _ _ _ HY2 G8
  refine hK.out _ _ ⟨fun _ => trivial, HY3.out.2.1⟩ ?_
  clear hK K
  refine wpAnyL_one (i := 23) (o := { dst := some 30, op := Op.build 35 #[(0, Operand.tmp 10), (1, Operand.tmp 15), (2, Operand.tmp 20), (3, Operand.tmp 25), (4, Operand.tmp 29)], type := 35, pos := "query.go:79", after := #[{ on := 3, ground := Ground.data }, { on := 8, ground := Ground.data }, { on := 13, ground := Ground.data }, { on := 18, ground := Ground.data }, { on := 22, ground := Ground.data }], guard := none }) (by kernel_rfl) rfl (fun K hK => ?_)
  go_simp
  refine hK.out _ _ ⟨fun _ => trivial, HY3.out.2.1⟩ ?_
  clear hK K
  obtain ⟨y0, y1, y2, y3, y4, yl, f0, f1, f2, f3, f4⟩ := KY.out _ HY3.out.1
  refine wpAnyL_one (i := 24) (o := { dst := none, op := Op.store 35 (Operand.tmp 2) (Operand.tmp 30), type := 0, pos := "query.go:79", after := #[{ on := 23, ground := Ground.data }, { on := 22, ground := Ground.chain }, { on := 0, ground := Ground.phase }, { on := 1, ground := Ground.phase }, { on := 2, ground := Ground.phase }, { on := 3, ground := Ground.phase }, { on := 4, ground := Ground.phase }, { on := 5, ground := Ground.phase }, { on := 6, ground := Ground.phase }, { on := 7, ground := Ground.phase }, { on := 8, ground := Ground.phase }, { on := 9, ground := Ground.phase }, { on := 10, ground := Ground.phase }, { on := 11, ground := Ground.phase }, { on := 12, ground := Ground.phase }, { on := 13, ground := Ground.phase }, { on := 14, ground := Ground.phase }, { on := 15, ground := Ground.phase }, { on := 16, ground := Ground.phase }, { on := 17, ground := Ground.phase }, { on := 18, ground := Ground.phase }, { on := 19, ground := Ground.phase }, { on := 20, ground := Ground.phase }, { on := 21, ground := Ground.phase }, { on := 22, ground := Ground.phase }, { on := 23, ground := Ground.phase }], guard := none }) (by kernel_rfl) rfl (fun K hK => ?_)
  go_simp
  refine hK.out _ _ ⟨fun _ => trivial, KZ.out _ _ _ _ _ _ HY3.out.2.1⟩ ?_
  clear hK K
  refine wpAnyL_done (by kernel_rfl) ?_ _
  have HEN := hide (KE.out _ _ _ _ _ _ _ (.int .u64 SI) (.int .u64 NI) (.slice ao6 S.acc.length cap6) (.slice ho6 S.hol.length hcap6) (.slice jo6 S.jl.length jcap6) HY3)
  clear KC KR KH KJ KN1 KN2 KN3 KY KZ KE HY0 HM
  go_wp2
  refine bodyPost_ret (v := .agg #[.int .u64 SI, .int .u64 NI, .slice ao6 S.acc.length cap6, .slice ho6 S.hol.length hcap6, .slice jo6 S.jl.length jcap6]) (by simp [results, Try.results7, go_sem, y0, y1, y2, y3, y4]) rfl ⟨ao6, cap6, ho6, hcap6, jo6, jcap6, rfl, HEN.out⟩
end Go.Proofs.Ytcfenjpdjogmdaa
namespace Go.Proofs.Ytcfenjpdjogmdaa
open Go.RowKit

def Sh.vals (s : Sh) : List Value := [.int .u64 (s.tw : Nat), .int .u64 (s.am : Nat)]
def scells : List Sh → List Value
  | [] => []
  | a :: r => a.vals ++ scells r
theorem scells_app : ∀ (l r : List Sh), scells (l ++ r) = scells l ++ scells r
  | [], r => rfl
  | a :: l, r => by show a.vals ++ scells (l ++ r) = (a.vals ++ scells l) ++ scells r; rw [scells_app l r, List.append_assoc]
theorem scells_at : ∀ {l : List Sh} {i : Nat} {a : Sh}, l[i]? = some a → ∀ (j : Nat) (v : Value), a.vals[j]? = some v → (scells l)[i * 2 + j]? = some v
  | [], i, a, h => by simp at h
  | x :: l, 0, a, h => by
    simp at h
    subst h
    intro j v hj
    have hl := (List.getElem?_eq_some_iff.1 hj).1
    show (x.vals ++ scells l)[0 * 2 + j]? = some v
    rw [Nat.zero_mul, Nat.zero_add, List.getElem?_append_left hl]
    exact hj
  | x :: l, i + 1, a, h => by
    intro j v hj
    have ih := scells_at (l := l) (i := i) (by simpa using h) j v hj
    show (x.vals ++ scells l)[(i + 1) * 2 + j]? = some v
    rw [List.getElem?_append_right (by show 2 ≤ _; omega)]
    show (scells l)[(i + 1) * 2 + j - 2]? = some v
    rw [show (i + 1) * 2 + j - 2 = i * 2 + j by omega]
    exact ih
theorem stake_step {l : List Sh} {k : Nat} {a : Sh} (h : l[k]? = some a) : scells (l.take k) ++ a.vals = scells (l.take (k + 1)) := by
  rw [List.take_add_one, h, Option.toList_some, scells_app]
  simp [scells]
theorem infoSh : (Try.prog.info? 109).map (fun i => (i.zero, i.size, i.bytes)) = some (some (.agg #[.int .u64 0, .int .u64 0]), 2, 16) := by kernel_rfl
def spareS : List Sh := [⟨160, 0⟩, ⟨161, 0⟩, ⟨162, 0⟩]
theorem spareS_step (l : List Sh) (j : Nat) (hj : j < 3) : scells (l ++ spareS.take j) ++ [.int .u64 ((160 : Int) + (j : Int)), .int .u64 0] = scells (l ++ spareS.take (j + 1)) := by
  have e : spareS.take (j + 1) = spareS.take j ++ [⟨160 + j, 0⟩] := by
    match j, hj with
    | 0, _ => rfl
    | 1, _ => rfl
    | 2, _ => rfl
  rw [e, ← List.append_assoc, scells_app (l ++ spareS.take j)]
  simp [scells, Sh.vals]
theorem shs_of_row {W : World} {base g n cap : Nat} {l r : List Sh} {m : Nat} (ho : W.ownsRow base 109 2 (.slice (some ⟨g, 0, none⟩) n cap) m (scells (l ++ r))) (hin : ∀ x ∈ l, x.In) : Shs W g 0 l := by
  refine ⟨hin, fun i x hi => ?_⟩
  have hil := (List.getElem?_eq_some_iff.1 hi).1
  have h2 : (l ++ r)[i]? = some x := by rw [List.getElem?_append_left hil]; exact hi
  have c0 := ho.cells (g := g) rfl (i * 2 + 0) _ (scells_at h2 0 _ rfl)
  have c1 := ho.cells (g := g) rfl (i * 2 + 1) _ (scells_at h2 1 _ rfl)
  rw [add_at, Nat.zero_add] at c0 c1
  rw [Nat.zero_add]
  exact ⟨c0, c1⟩
set_option maxRecDepth 10000 in
set_option maxHeartbeats 1600000 in
theorem lendS {w : World} {b off : Nat} {ao : Option Addr} (n cap : Nat) {l : List Sh} (hn : n = l.length) (hA : Shs w b off l) (hao : 0 < n → ao = some ⟨b, off, none⟩) (hbw : 0 < n → b < w.heap.size) (hle : n ≤ 8796093021952) :
    Calls Try.prog 26 #[.slice ao n cap] w fun e w' => e = .returned (.slice (some ⟨w.heap.size, 0, none⟩) n (n + 3)) ∧ Hid (w'.ownsRow w.heap.size 109 2 (.slice (some ⟨w.heap.size, 0, none⟩) (n + 3) (n + 3)) (n + 3) (scells (l ++ spareS)) ∧ Below w.heap.size w w') := by
  obtain ⟨i0, hi, hz0, hz1, hz2⟩ := info_parts infoSh
  have HA := hide hao
  have HC := hide hA
  have HB := hide hbw
  have HN := hide hn
  clear hA hao hbw hn
  go_enter Try.func26, Try.ntmps26
  go_wp2_with (first
    | (at_make; refine wpList_make_own _ rfl _ _ 28 rfl w.heap.size 109 i0 (.agg #[.int .u64 0, .int .u64 0]) 2 Try.underlying28 hi hz0 hz1 .i64 .i64 _ (n + 3) rfl rfl (by omega) (by rw [hz2]; omega) (by unfold maxLen; omega) (Nat.le_refl _) ?_; intro w0 hown0 hgrow0))
  go_loopw [3, 4] (fun v i wr => ∃ k : Nat, k ≤ n ∧ i = .int .i64 k ∧ v = .slice (some ⟨w.heap.size, 0, none⟩) k (n + 3) ∧ wr.ownsRow w.heap.size 109 2 v k (scells (l.take k)) ∧ Below w.heap.size w wr)
    (fun _ i _ => n - (intOf i).toNat)
  case atStart => exact ⟨0, by omega, rfl, rfl, hown0, (Below.refl _ _).grown hgrow0 (Nat.le_refl _) (fun k h => by cases h)⟩
  case round =>
    obtain ⟨k, hk, rfl, rfl, hown, hnx⟩ := hrel
    clear hgrow0 hown0
    have hsize := hnx.size
    by_cases hlt : k < n
    · obtain ⟨a, ha⟩ : ∃ a, l[k]? = some a := ⟨_, List.getElem?_eq_getElem (by have := HN.out; omega)⟩
      have hA' := HC.out.below hnx (fun hp => HB.out (by have := HN.out; omega))
      obtain ⟨c0, c1⟩ := hA'.at_ k a ha
      obtain rfl := HA.out (by omega)
      have HT := hide (stake_step ha)
      clear hA' ha
      obtain ⟨x0, x1⟩ := a
      go_wp2_with (first
        | (at_builtin; refine wpList_append_own_spare _ rfl (.tmp 16) (.tmp 21) 28 rfl w.heap.size 109 i0 2 Try.underlying28 hi hz1 w.heap.size k (n + 3) _ rfl (hown.alloc _) ⟨wr.heap.size, 0, none⟩ 1 1 [.int .u64 (x0 : Nat), .int .u64 (x1 : Nat)] rfl rfl (cells_newA _ _ _) (by simp [Value.oneCell']) (by omega) ?_; intro w1 hown1 hgrow1))
      go_roundw
      case rel =>
        exact ⟨k + 1, by omega, by go_num, rfl, by rw [← HT.out]; exact hown1, (hnx.alloc (by omega) _).grown hgrow1 (by simp; omega) (fun j hj => by cases hj; exact Nat.le_refl _)⟩
      case measure => simp [intOf]; omega
    · obtain rfl : k = n := by omega
      have hall : l.take k = l := by rw [HN.out, List.take_length]
      rw [hall] at hown
      go_wp2
      go_loopw [3, 5] (fun v i wr => ∃ j : Nat, j ≤ 3 ∧ i = .int .i64 j ∧ v = .slice (some ⟨w.heap.size, 0, none⟩) (k + j) (k + 3) ∧ wr.ownsRow w.heap.size 109 2 v (k + j) (scells (l ++ spareS.take j)) ∧ Below w.heap.size w wr)
        (fun _ i _ => 3 - (intOf i).toNat)
      case atStart => exact ⟨0, by omega, rfl, rfl, by rw [List.take_zero, List.append_nil]; exact hown, hnx⟩
      case round =>
        clear hown hnx hsize
        obtain ⟨j, hj, rfl, rfl, hown, hnx⟩ := hrel
        have hsize := hnx.size
        by_cases hj4 : j < 3
        · have HT := hide (spareS_step l j hj4)
          go_wp2_with (first
            | (at_builtin; refine wpList_append_own_spare _ rfl (.tmp 27) (.tmp 32) 28 rfl w.heap.size 109 i0 2 Try.underlying28 hi hz1 w.heap.size (k + j) (k + 3) _ rfl (hown.alloc _) ⟨wr.heap.size, 0, none⟩ 1 1 [.int .u64 ((160 : Int) + (j : Int)), .int .u64 0] rfl rfl (cells_newA _ _ _) (by simp [Value.oneCell']) (by omega) ?_; intro w1 hown1 hgrow1))
          go_roundw
          case rel =>
            exact ⟨j + 1, by omega, by go_num, by rw [Nat.add_assoc], by rw [← Nat.add_assoc, ← HT.out]; exact hown1, (hnx.alloc (by omega) _).grown hgrow1 (by simp; omega) (fun j hj => by cases hj; exact Nat.le_refl _)⟩
          case measure => simp [intOf]; omega
        · obtain rfl : j = 3 := by omega
          go_wp2
          go_ret
          exact ⟨rfl, hown, hnx⟩
end Go.Proofs.Ytcfenjpdjogmdaa
namespace Go.Proofs.Ytcfenjpdjogmdaa
open Go.RowKit

theorem LS.step_no {S T : LS} {k a b c : Nat} {l : List Sh} {d : Nat} (hS : S.step k a b c l = (d, T)) (hd : d ≠ 0) : T = S := by
  have fin : ∀ {x : Nat × LS}, x = (d, T) → x = (0, T) → T = S := fun e1 e2 => absurd (congrArg Prod.fst (e1.symm.trans e2)) hd
  unfold LS.step at hS
  repeat' split at hS
  · unfold LS.creates at hS
    repeat' split at hS
    all_goals first | (cases hS; rfl) | (cases hS; exact absurd rfl hd)
  · unfold LS.closes at hS
    repeat' split at hS
    all_goals first | (cases hS; rfl) | (cases hS; exact absurd rfl hd)
  · unfold LS.moves at hS
    repeat' split at hS
    all_goals first | (cases hS; rfl) | (cases hS; exact absurd rfl hd)
  · unfold LS.holds at hS
    repeat' split at hS
    all_goals first | (cases hS; rfl) | (cases hS; exact absurd rfl hd)
  · unfold LS.pays at hS
    repeat' split at hS
    all_goals first | (cases hS; rfl) | (cases hS; exact absurd rfl hd)
  · unfold LS.settles at hS
    repeat' split at hS
    all_goals first | (cases hS; rfl) | (cases hS; exact absurd rfl hd)
set_option maxRecDepth 10000 in
set_option maxHeartbeats 6400000 in
theorem doesG {w : World} {p a b : Nat} {ch : Value} {S : LS} (h : LG w p a b nilS ch S) (hok : S.Ok) {k A B C : Nat} (h1 : 1 ≤ k) (h6 : k ≤ 6) (hA : A < 18446744073709551616) (hB : B < 18446744073709551616) (hC : C < 18446744073709551616) (N : Int) {so : Option Addr} {bs off : Nat} (sn sc : Nat) {l : List Sh} (hn : sn = l.length) (hSh : Shs w bs off l) (hso : 0 < sn → so = some ⟨bs, off, none⟩ ∧ bs < w.heap.size) (hle : sn ≤ 8796093021952) {c : Nat} {S' : LS} (hS : S.step k A B C l = (c, S')) :
    Calls Try.prog 6 #[.pointer (some ⟨p, 0, none⟩), .agg #[.int .i64 (k : Nat), .int .u64 (A : Nat), .int .u64 (B : Nat), .int .u64 (C : Nat), .int .i64 N, .slice so sn sc]] w fun e w' => e = .returned (.int .i64 (c : Nat)) ∧ Hid (LgP w w' p a b ch S') := by
  obtain ⟨W1, hW1⟩ : ∃ W1, w.alloc (.cells #[.int .i64 (k : Nat), .int .u64 (A : Nat), .int .u64 (B : Nat), .int .u64 (C : Nat), .int .i64 N, .slice so sn sc] 30) = W1 := ⟨_, rfl⟩
  have b1 : Below w.heap.size w W1 := by rw [← hW1]; exact (Below.refl _ w).alloc (Nat.le_refl _) _
  have q1 : W1.heap[w.heap.size]? = some (.cells #[.int .i64 (k : Nat), .int .u64 (A : Nat), .int .u64 (B : Nat), .int .u64 (C : Nat), .int .i64 N, .slice so sn sc] 30 (0, 0)) := by rw [← hW1]; exact alloc_atK _ _
  have hL1 := h.kept b1
  have HF1 : Hid (Fr3 w W1 p a b) := Fr3.below b1
  have HFIN : Hid (∀ w', LgP W1 w' p a b ch S' → Hid (LgP w w' p a b ch S')) := fun w' hw => ⟨hw.1, HF1.out.trans hw.2⟩
  have c0 := block_cell q1 0
  have c1 := block_cell q1 1
  have c2 := block_cell q1 2
  have c3 := block_cell q1 3
  have c5 := block_cell q1 5
  have cl := block_lt q1
  simp at c0 c1 c2 c3 c5
  have HQ1 := hide q1
  have HL1 := hide hL1
  have HSS : Hid (Shs W1 bs off l ∧ (0 < sn → so = some ⟨bs, off, none⟩ ∧ bs < W1.heap.size)) := ⟨hSh.below b1 (fun h0 => (hso (by omega)).2), fun h0 => ⟨(hso h0).1, Nat.lt_of_lt_of_le (hso h0).2 b1.size⟩⟩
  have HS := hide hS
  have HO := hide hok
  have HN := hide hn
  have HBD := hide (And.intro hA (And.intro hB hC))
  have HPL := hide h.lt
  have HB1 := hide b1
  clear h hok b1 q1 hL1 hSh hso hS hn hA hB hC
  go_enter Try.func6, Try.ntmps6
  go_upto_region 1 with fail
  clear hW1
  have hk : k = 1 ∨ k = 2 ∨ k = 3 ∨ k = 4 ∨ k = 5 ∨ k = 6 := by omega
  clear h1 h6
  rcases hk with rfl | rfl | rfl | rfl | rfl | rfl
  · have HC := hide (createG HL1.out HO.out HBD.out.1 HBD.out.2.1 HBD.out.2.2 (show S.creates A B C = (c, S') from HS.out))
    go_wp2_with fail
    refine HC.out.mono ?_
    rintro e w1 ⟨rfl, G⟩
    have HE := HFIN.out _ G.out
    clear G HC
    go_wp2
    go_ret
    exact ⟨rfl, HE⟩
  · have HC := hide (closeG HL1.out HO.out HBD.out.1 (show S.closes A = (c, S') from HS.out))
    go_wp2_with fail
    refine HC.out.mono ?_
    rintro e w1 ⟨rfl, G⟩
    have HE := HFIN.out _ G.out
    clear G HC
    go_wp2
    go_ret
    exact ⟨rfl, HE⟩
  · have HC := hide (moveG HL1.out HO.out HBD.out.1 HBD.out.2.1 HBD.out.2.2 (show S.moves A B C = (c, S') from HS.out))
    go_wp2_with fail
    refine HC.out.mono ?_
    rintro e w1 ⟨rfl, G⟩
    have HE := HFIN.out _ G.out
    clear G HC
    go_wp2
    go_ret
    exact ⟨rfl, HE⟩
  · have HC := hide (holdG HL1.out HO.out HBD.out.1 HBD.out.2.1 HBD.out.2.2 (show S.holds A B C = (c, S') from HS.out))
    go_wp2_with fail
    refine HC.out.mono ?_
    rintro e w1 ⟨rfl, G⟩
    have HE := HFIN.out _ G.out
    clear G HC
    go_wp2
    go_ret
    exact ⟨rfl, HE⟩
  · have HC := hide (payG HL1.out HO.out HBD.out.1 HBD.out.2.1 HBD.out.2.2 (show S.pays A B C = (c, S') from HS.out))
    go_wp2_with fail
    refine HC.out.mono ?_
    rintro e w1 ⟨rfl, G⟩
    have HE := HFIN.out _ G.out
    clear G HC
    go_wp2
    go_ret
    exact ⟨rfl, HE⟩
  · have HLD : Hid (Calls Try.prog 26 #[.slice so sn sc] W1.drew fun e w' => e = .returned (.slice (some ⟨W1.heap.size, 0, none⟩) sn (sn + 3)) ∧ (w'.cell? ⟨w.heap.size, 1, none⟩ = some (.int .u64 (A : Nat)) ∧ w'.cell? ⟨w.heap.size, 5, none⟩ = some (.slice so sn sc)) ∧ Hid (LG w' p a b nilS ch S ∧ Fr3 W1 w' p a b ∧ Shs w' W1.heap.size 0 l ∧ W1.heap.size < w'.heap.size)) := by
      have hd : Below W1.heap.size W1 W1.drew := (Below.refl _ _).drew
      refine (lendS (w := W1.drew) sn sc HN.out (HSS.out.1.below hd (fun h0 => (HSS.out.2 (by have := HN.out; omega)).2)) (fun h0 => (HSS.out.2 h0).1) (fun h0 => (HSS.out.2 h0).2) hle).mono ?_
      rintro e w' ⟨rfl, G⟩
      have hb : Below W1.heap.size W1 w' := hd.trans G.out.2
      have hq := (hb.block _ (block_lt HQ1.out)).trans HQ1.out
      refine ⟨rfl, ⟨block_cell hq 1, block_cell hq 5⟩, HL1.out.kept hb, Fr3.below hb, shs_of_row G.out.1 HSS.out.1.ok, ?_⟩
      exact (G.out.1.lt _ rfl).2
    have HST : Hid (∀ w', Hid (LG w' p a b nilS ch S ∧ Fr3 W1 w' p a b ∧ Shs w' W1.heap.size 0 l ∧ W1.heap.size < w'.heap.size) → Calls Try.prog 25 #[.pointer (some ⟨p, 0, none⟩), .int .u64 (A : Nat), .slice (some ⟨W1.heap.size, 0, none⟩) sn (sn + 3)] w' fun e w2 => e = .returned (.int .i64 (c : Nat)) ∧ (w2.cell? ⟨w.heap.size, 1, none⟩ = some (.int .u64 (A : Nat)) ∧ w2.cell? ⟨w.heap.size, 5, none⟩ = some (.slice so sn sc)) ∧ Hid (LgP w w2 p a b ch S')) := fun w' hw => by
      refine (settleG hw.out.1 HO.out HBD.out.1 sn (sn + 3) HN.out hw.out.2.2.1 (fun _ => ⟨rfl, hw.out.2.2.2, ?_, ?_, ?_⟩) hle (show S.settles A l = (c, S') from HS.out)).mono ?_
      · have := HPL.out; have := HB1.out.size; omega
      · have := HPL.out; have := HB1.out.size; omega
      · have := HPL.out; have := HB1.out.size; omega
      · rintro e w2 ⟨rfl, G⟩
        have hf := hw.out.2.1.trans G.out.2
        have hq := (hf.block w.heap.size (block_lt HQ1.out) (by have := HPL.out; omega) (by have := HPL.out; omega) (by have := HPL.out; omega)).trans HQ1.out
        exact ⟨rfl, ⟨block_cell hq 1, block_cell hq 5⟩, HFIN.out _ ⟨G.out.1, hf⟩⟩
    clear hle
    go_wp2_with fail
    go_region_held (fun w' => w'.cell? ⟨w.heap.size, 1, none⟩ = some (.int .u64 (A : Nat)) ∧ w'.cell? ⟨w.heap.size, 5, none⟩ = some (.slice so sn sc)) (go_keep)
      (first | (go_at_call 26; refine HLD.out.mono ?_; rintro e w1 ⟨rfl, hcs, HG⟩; have HN2 := hide (HST.out _ HG)) | (go_at_call 25; refine HN2.out.mono ?_; rintro e w2 ⟨rfl, hcs2, HE⟩))
    all_goals (go_wp2; go_ret; exact ⟨rfl, HE⟩)
end Go.Proofs.Ytcfenjpdjogmdaa
