import Derived.Test.YteafdpmblbbpnaaLS40
import Derived.Test.YteafdpmblbbpnaaLS23
namespace Go.Proofs.Yteafdpmblbbpnaa
open Go.RowKit

def set5 (V : World) (r : Nat) (u0 u1 u2 u3 u4 : Value) : World := ((((V.setCell ⟨r, 0, none⟩ u0).setCell ⟨r, 1, none⟩ u1).setCell ⟨r, 2, none⟩ u2).setCell ⟨r, 3, none⟩ u3).setCell ⟨r, 4, none⟩ u4
theorem set5_g (V : World) (r : Nat) (u0 u1 u2 u3 u4 : Value) : V.grownBy (set5 V r u0 u1 u2 u3 u4) (some r) := grown_two (grown_two (grown_two (grown_two (grown_set _ r 0 u0) (grown_set _ r 1 u1)) (grown_set _ r 2 u2)) (grown_set _ r 3 u3)) (grown_set _ r 4 u4)
theorem rowT_ne {W : World} {B n q k : Nat} {e : TypeId} {v : Value} {xs : List Value} {cs : Array Value} {t : TypeId} (h : W.ownsRow B e k v n xs) (hq : W.heap[q]? = some (.cells cs t (0, 0))) (hne : t ≠ e) : v.ownBlock ≠ some q := fun e' => by
  rcases h.2 with ⟨rfl, _⟩ | ⟨g, cp, cur, rfl, _, hg, _⟩
  · cases e'
  · cases e'
    rw [hg] at hq
    cases hq
    exact hne rfl
/-- The lists of an image, each new memory. -/
structure ImR (w w' : World) (A : List Ac) (H : List Ho) (J : List Jn) (ao : Option Addr) (cap : Nat) (ho : Option Addr) (hcap : Nat) (jo : Option Addr) (jcap : Nat) : Prop where
  ra : w'.ownsRow w.heap.size 50 4 (.slice ao A.length cap) A.length (acells A)
  rh : w'.ownsRow w.heap.size 75 3 (.slice ho H.length hcap) H.length (hcells H)
  rj : w'.ownsRow w.heap.size 38 5 (.slice jo J.length jcap) J.length (jcells J)
  za : A.length = 0 → ao = none ∧ cap = 0
  zh : H.length = 0 → ho = none ∧ hcap = 0
  zj : J.length = 0 → jo = none ∧ jcap = 0
set_option maxRecDepth 10000 in
set_option maxHeartbeats 8000000 in
theorem imageG {w : World} {p a b : Nat} {mk ch : Value} {S : LS} (h : LG w p a b mk ch S) (hok : S.Ok) :
    Calls Try.prog 7 #[.pointer (some ⟨p, 0, none⟩)] w fun e w' => ∃ ao cap ho hcap jo jcap, e = .returned (.agg #[.int .u64 (S.tot : Nat), .int .u64 (S.nx : Nat), .slice ao S.acc.length cap, .slice ho S.hol.length hcap, .slice jo S.jl.length jcap]) ∧ Hid (ImR w w' S.acc S.hol S.jl ao cap ho hcap jo jcap ∧ Below w.heap.size w w') := by
  obtain ⟨W1, hW1⟩ : ∃ W1, w.alloc (.cells #[.int .u64 0, .int .u64 0, .slice none 0 0, .slice none 0 0, .slice none 0 0] 31) = W1 := ⟨_, rfl⟩
  have b1 : Below w.heap.size w W1 := by rw [← hW1]; exact (Below.refl _ w).alloc (Nat.le_refl _) _
  have C1 : Hid (W1.heap[w.heap.size]? = some (.cells #[.int .u64 0, .int .u64 0, .slice none 0 0, .slice none 0 0, .slice none 0 0] 31 (0, 0))) := by rw [← hW1]; exact alloc_atK _ _
  have H1 := hide (h.kept b1)
  have HPR : Hid (p ≠ w.heap.size) := fun e => by
    have := h.lt.1
    omega
  have HM := hide (madeG H1.out)
  have HY0 : Hid (Below W1.heap.size W1 W1.drew) := hide ((Below.refl _ W1).drew)
  have KC : Hid (∀ V : World, V.heap[p]? = W1.heap[p]? → V.cell? ⟨p, 0, none⟩ = some (.int .u64 (S.tot : Int)) ∧ V.cell? ⟨p, 1, none⟩ = some (.map (some a)) ∧ V.cell? ⟨p, 2, none⟩ = some (.map (some b)) ∧ V.cell? ⟨p, 3, none⟩ = some (.int .u64 (S.nx : Int)) ∧ p < V.heap.size) := fun V hV => by
    obtain ⟨cs, h1, _, ⟨h2, h3, h4, h5, _⟩, _⟩ := H1.out.blk
    have hc := hV.trans h1
    exact ⟨(block_cell hc 0).trans h2, (block_cell hc 1).trans h3, (block_cell hc 2).trans h4, (block_cell hc 3).trans h5, block_lt hc⟩
  have KPE : Hid (∀ V : World, Below W1.heap.size W1 V → V.heap[p]? = W1.heap[p]?) := fun V hV => hV.block _ H1.out.lt.1
  have KR : Hid (∀ V, Hid (Below W1.heap.size W1 V) → Calls Try.prog 21 #[.map (some a)] V fun e w' => ∃ ao cap, e = .returned (.slice ao S.acc.length cap) ∧ Hid (w'.ownsRow V.heap.size 50 4 (.slice ao S.acc.length cap) S.acc.length (acells S.acc) ∧ Below V.heap.size V w' ∧ (S.acc.length = 0 → ao = none ∧ cap = 0))) := fun V hV => risingG (H1.out.kept hV.out).acc hok.ua hok.ia hok.la
  have KH : Hid (∀ V, Hid (Below W1.heap.size W1 V) → Calls Try.prog 22 #[.map (some b)] V fun e w' => ∃ ao cap, e = .returned (.slice ao S.hol.length cap) ∧ Hid (w'.ownsRow V.heap.size 75 3 (.slice ao S.hol.length cap) S.hol.length (hcells S.hol) ∧ Below V.heap.size V w' ∧ (S.hol.length = 0 → ao = none ∧ cap = 0))) := fun V hV => risingHo (H1.out.kept hV.out).hol hok.uh hok.ih hok.lh
  have KJ : Hid (∀ V, Hid (Below W1.heap.size W1 V) → Calls Try.prog 23 #[.pointer (some ⟨p, 3, none⟩)] V fun e w' => ∃ ao cap, e = .returned (.slice ao S.jl.length cap) ∧ Hid (w'.ownsRow V.heap.size 38 5 (.slice ao S.jl.length cap) S.jl.length (jcells S.jl) ∧ Below V.heap.size V w' ∧ (S.jl.length = 0 → ao = none ∧ cap = 0))) := fun V hV => linesG (H1.out.kept hV.out) hok
  have KN1 : Hid (∀ (V : World) (ao : Option Addr) (cap : Nat) (V1 : World), Hid (Below W1.heap.size W1 V) → Hid (V1.ownsRow V.heap.size 50 4 (.slice ao S.acc.length cap) S.acc.length (acells S.acc) ∧ Below V.heap.size V V1 ∧ (S.acc.length = 0 → ao = none ∧ cap = 0)) → Hid (Hid (Below W1.heap.size W1 V1) ∧ V1.heap[p]? = W1.heap[p]? ∧ V1.ownsRow w.heap.size 50 4 (.slice ao S.acc.length cap) S.acc.length (acells S.acc) ∧ (S.acc.length = 0 → ao = none ∧ cap = 0))) := fun V ao cap V1 hV h1 => by
    have hb := hV.out.trans (h1.out.2.1.mono hV.out.size)
    exact ⟨hb, KPE.out _ hb, row_lower h1.out.1 (Nat.le_trans b1.size hV.out.size), h1.out.2.2⟩
  have KN2 : Hid (∀ (V : World) (ao : Option Addr) (cap : Nat) (ho : Option Addr) (hcap : Nat) (V1 : World), Hid (Hid (Below W1.heap.size W1 V) ∧ V.heap[p]? = W1.heap[p]? ∧ V.ownsRow w.heap.size 50 4 (.slice ao S.acc.length cap) S.acc.length (acells S.acc) ∧ (S.acc.length = 0 → ao = none ∧ cap = 0)) → Hid (V1.ownsRow V.heap.size 75 3 (.slice ho S.hol.length hcap) S.hol.length (hcells S.hol) ∧ Below V.heap.size V V1 ∧ (S.hol.length = 0 → ho = none ∧ hcap = 0)) → Hid (Hid (Below W1.heap.size W1 V1) ∧ V1.heap[p]? = W1.heap[p]? ∧ (V1.ownsRow w.heap.size 50 4 (.slice ao S.acc.length cap) S.acc.length (acells S.acc) ∧ (S.acc.length = 0 → ao = none ∧ cap = 0)) ∧ V1.ownsRow w.heap.size 75 3 (.slice ho S.hol.length hcap) S.hol.length (hcells S.hol) ∧ (S.hol.length = 0 → ho = none ∧ hcap = 0))) := fun V ao cap ho hcap V1 hV h1 => by
    have hb := hV.out.1.out.trans (h1.out.2.1.mono hV.out.1.out.size)
    exact ⟨hb, KPE.out _ hb, ⟨row_quietT hV.out.2.2.1 (below_none h1.out.2.1), hV.out.2.2.2⟩, row_lower h1.out.1 (Nat.le_trans b1.size hV.out.1.out.size), h1.out.2.2⟩
  have KN3 : Hid (∀ (V : World) (ao : Option Addr) (cap : Nat) (ho : Option Addr) (hcap : Nat) (jo : Option Addr) (jcap : Nat) (V1 : World), Hid (Hid (Below W1.heap.size W1 V) ∧ V.heap[p]? = W1.heap[p]? ∧ (V.ownsRow w.heap.size 50 4 (.slice ao S.acc.length cap) S.acc.length (acells S.acc) ∧ (S.acc.length = 0 → ao = none ∧ cap = 0)) ∧ V.ownsRow w.heap.size 75 3 (.slice ho S.hol.length hcap) S.hol.length (hcells S.hol) ∧ (S.hol.length = 0 → ho = none ∧ hcap = 0)) → Hid (V1.ownsRow V.heap.size 38 5 (.slice jo S.jl.length jcap) S.jl.length (jcells S.jl) ∧ Below V.heap.size V V1 ∧ (S.jl.length = 0 → jo = none ∧ jcap = 0)) → Hid (Hid (Below W1.heap.size W1 V1) ∧ V1.heap[p]? = W1.heap[p]? ∧ ImR w V1 S.acc S.hol S.jl ao cap ho hcap jo jcap)) := fun V ao cap ho hcap jo jcap V1 hV h1 => by
    have hb := hV.out.1.out.trans (h1.out.2.1.mono hV.out.1.out.size)
    exact ⟨hb, KPE.out _ hb, row_quietT hV.out.2.2.1.1 (below_none h1.out.2.1), row_quietT hV.out.2.2.2.1 (below_none h1.out.2.1), row_lower h1.out.1 (Nat.le_trans b1.size hV.out.1.out.size), hV.out.2.2.1.2, hV.out.2.2.2.2, h1.out.2.2⟩
  have KC1 : Hid (∀ V, Hid (Below W1.heap.size W1 V) → V.heap[w.heap.size]? = some (.cells #[.int .u64 0, .int .u64 0, .slice none 0 0, .slice none 0 0, .slice none 0 0] 31 (0, 0))) := fun V hV => (hV.out.block _ (block_lt C1.out)).trans C1.out
  have KY : Hid (∀ V, Hid (Below W1.heap.size W1 V) → V.cell? ⟨w.heap.size, 0, none⟩ = some (.int .u64 0) ∧ V.cell? ⟨w.heap.size, 1, none⟩ = some (.int .u64 0) ∧ V.cell? ⟨w.heap.size, 2, none⟩ = some (.slice none 0 0) ∧ V.cell? ⟨w.heap.size, 3, none⟩ = some (.slice none 0 0) ∧ V.cell? ⟨w.heap.size, 4, none⟩ = some (.slice none 0 0) ∧ w.heap.size < V.heap.size ∧ V.frozen? ⟨w.heap.size, 0, none⟩ = false ∧ V.frozen? ⟨w.heap.size, 1, none⟩ = false ∧ V.frozen? ⟨w.heap.size, 2, none⟩ = false ∧ V.frozen? ⟨w.heap.size, 3, none⟩ = false ∧ V.frozen? ⟨w.heap.size, 4, none⟩ = false) := fun V hV => by
    have hc := KC1.out V hV
    exact ⟨block_cell hc 0, block_cell hc 1, block_cell hc 2, block_cell hc 3, block_cell hc 4, block_lt hc, block_free hc 0, block_free hc 1, block_free hc 2, block_free hc 3, block_free hc 4⟩
  have KZ : Hid (∀ (V : World) (u0 u1 u2 u3 u4 : Value), V.heap[p]? = W1.heap[p]? → (set5 V w.heap.size u0 u1 u2 u3 u4).heap[p]? = W1.heap[p]?) := fun V u0 u1 u2 u3 u4 hV => ((set5_g V w.heap.size u0 u1 u2 u3 u4).block p (KC.out V hV).2.2.2.2 (fun e => HPR.out (Option.some.inj e))).trans hV
  have KE : Hid (∀ (V : World) (ao : Option Addr) (cap : Nat) (ho : Option Addr) (hcap : Nat) (jo : Option Addr) (jcap : Nat) (u0 u1 u2 u3 u4 : Value), Hid (Hid (Below W1.heap.size W1 V) ∧ V.heap[p]? = W1.heap[p]? ∧ ImR w V S.acc S.hol S.jl ao cap ho hcap jo jcap) → Hid (ImR w (set5 V w.heap.size u0 u1 u2 u3 u4) S.acc S.hol S.jl ao cap ho hcap jo jcap ∧ Below w.heap.size w (set5 V w.heap.size u0 u1 u2 u3 u4))) := fun V ao cap ho hcap jo jcap u0 u1 u2 u3 u4 hV => by
    have hg := set5_g V w.heap.size u0 u1 u2 u3 u4
    have hb := b1.trans (hV.out.1.out.mono b1.size)
    have hc := KC1.out V hV.out.1
    have hr := hV.out.2.2
    exact ⟨⟨hr.ra.kept hg (.inr (rowT_ne hr.ra hc (by decide))), hr.rh.kept hg (.inr (rowT_ne hr.rh hc (by decide))), hr.rj.kept hg (.inr (rowT_ne hr.rj hc (by decide))), hr.za, hr.zh, hr.zj⟩, hb.grown hg hb.size (fun j e => by cases e; exact Nat.le_refl _)⟩
  unfold set5 at KZ KE
  have HW1 := hide hW1
  clear h hok hW1 b1 C1 H1 KC1 KPE HPR
  generalize (S.tot : Int) = SI at *
  generalize (S.nx : Int) = NI at *
  go_enter Try.func7, Try.ntmps7
  go_upto_region 1 with fail
  rw [HW1.out]
  clear HW1
  go_wp2_with fail
  refine HM.out.mono ?_
  rintro e w1 ⟨rfl, e9⟩
  rw [e9]
  clear e9
  go_upto_region 3 with fail
  refine wp_region_L 24 (fun _ => True) (fun V => V.heap[p]? = W1.heap[p]?) (by kernel_rfl) trivial rfl (fun hS0 => ?_)
  refine wpAnyL_take (i := 0) (oi := { dst := some 7, op := Op.move (Operand.tmp 0), type := 24, pos := "query.go:79", after := #[], guard := none }) (v := .pointer (some ⟨p, 0, none⟩)) rfl (by decide) (by kernel_rfl) (by kernel_rfl) (by kernel_rfl) (fun _ _ _ h => h) (Or.inl ⟨by rfl, fun w2 hSw => ?_⟩) hS0 (fun hS1 => ?_)
  · obtain ⟨r0, r1, r2, r3, r4⟩ := KC.out _ hSw
    go_simp
  simp only [Act.put, List.setIfInBounds_toArray, List.set_cons_zero, List.set_cons_succ]
  clear hS0
  refine wpAnyL_take (i := 1) (oi := { dst := some 8, op := Op.nilCheck (Operand.tmp 7), type := 0, pos := "query.go:79", after := #[{ on := 0, ground := Ground.data }], guard := none }) (v := .pointer (some ⟨p, 0, none⟩)) rfl (by decide) (by kernel_rfl) (by kernel_rfl) (by kernel_rfl) (fun _ _ _ h => h) (Or.inl ⟨by rfl, fun w2 hSw => ?_⟩) hS1 (fun hS2 => ?_)
  · obtain ⟨r0, r1, r2, r3, r4⟩ := KC.out _ hSw
    go_simp
  simp only [Act.put, List.setIfInBounds_toArray, List.set_cons_zero, List.set_cons_succ]
  clear hS1
  refine wpAnyL_take (i := 2) (oi := { dst := some 9, op := Op.fieldAddr 71 (Operand.tmp 8) 0, type := 0, pos := "query.go:79", after := #[{ on := 1, ground := Ground.data }], guard := none }) (v := .pointer (some ⟨p, 0, none⟩)) rfl (by decide) (by kernel_rfl) (by kernel_rfl) (by kernel_rfl) (fun _ _ _ h => h) (Or.inl ⟨by rfl, fun w2 hSw => ?_⟩) hS2 (fun hS3 => ?_)
  · obtain ⟨r0, r1, r2, r3, r4⟩ := KC.out _ hSw
    go_simp
  simp only [Act.put, List.setIfInBounds_toArray, List.set_cons_zero, List.set_cons_succ]
  clear hS2
  refine wpAnyL_take (i := 3) (oi := { dst := some 10, op := Op.load 25 (Operand.tmp 9), type := 25, pos := "query.go:79", after := #[{ on := 2, ground := Ground.data }], guard := none }) (v := .int .u64 SI) rfl (by decide) (by kernel_rfl) (by kernel_rfl) (by kernel_rfl) (fun _ _ _ h => h) (Or.inl ⟨by rfl, fun w2 hSw => ?_⟩) hS3 (fun hS4 => ?_)
  · obtain ⟨r0, r1, r2, r3, r4⟩ := KC.out _ hSw
    go_simp
  simp only [Act.put, List.setIfInBounds_toArray, List.set_cons_zero, List.set_cons_succ]
  clear hS3
  refine wpAnyL_take (i := 4) (oi := { dst := some 11, op := Op.move (Operand.tmp 0), type := 24, pos := "query.go:79", after := #[], guard := none }) (v := .pointer (some ⟨p, 0, none⟩)) rfl (by decide) (by kernel_rfl) (by kernel_rfl) (by kernel_rfl) (fun _ _ _ h => h) (Or.inl ⟨by rfl, fun w2 hSw => ?_⟩) hS4 (fun hS5 => ?_)
  · obtain ⟨r0, r1, r2, r3, r4⟩ := KC.out _ hSw
    go_simp
  simp only [Act.put, List.setIfInBounds_toArray, List.set_cons_zero, List.set_cons_succ]
  clear hS4
  refine wpAnyL_take (i := 5) (oi := { dst := some 12, op := Op.nilCheck (Operand.tmp 11), type := 0, pos := "query.go:79", after := #[{ on := 4, ground := Ground.data }], guard := none }) (v := .pointer (some ⟨p, 0, none⟩)) rfl (by decide) (by kernel_rfl) (by kernel_rfl) (by kernel_rfl) (fun _ _ _ h => h) (Or.inl ⟨by rfl, fun w2 hSw => ?_⟩) hS5 (fun hS6 => ?_)
  · obtain ⟨r0, r1, r2, r3, r4⟩ := KC.out _ hSw
    go_simp
  simp only [Act.put, List.setIfInBounds_toArray, List.set_cons_zero, List.set_cons_succ]
  clear hS5
  refine wpAnyL_take (i := 6) (oi := { dst := some 13, op := Op.fieldAddr 71 (Operand.tmp 12) 3, type := 0, pos := "query.go:79", after := #[{ on := 5, ground := Ground.data }], guard := none }) (v := .pointer (some ⟨p, 3, none⟩)) rfl (by decide) (by kernel_rfl) (by kernel_rfl) (by kernel_rfl) (fun _ _ _ h => h) (Or.inl ⟨by rfl, fun w2 hSw => ?_⟩) hS6 (fun hS7 => ?_)
  · obtain ⟨r0, r1, r2, r3, r4⟩ := KC.out _ hSw
    go_simp
  simp only [Act.put, List.setIfInBounds_toArray, List.set_cons_zero, List.set_cons_succ]
  clear hS6
  refine wpAnyL_take (i := 7) (oi := { dst := some 14, op := Op.fieldAddr 65 (Operand.tmp 13) 0, type := 0, pos := "query.go:79", after := #[{ on := 6, ground := Ground.data }], guard := none }) (v := .pointer (some ⟨p, 3, none⟩)) rfl (by decide) (by kernel_rfl) (by kernel_rfl) (by kernel_rfl) (fun _ _ _ h => h) (Or.inl ⟨by rfl, fun w2 hSw => ?_⟩) hS7 (fun hS8 => ?_)
  · obtain ⟨r0, r1, r2, r3, r4⟩ := KC.out _ hSw
    go_simp
  simp only [Act.put, List.setIfInBounds_toArray, List.set_cons_zero, List.set_cons_succ]
  clear hS7
  refine wpAnyL_take (i := 8) (oi := { dst := some 15, op := Op.load 25 (Operand.tmp 14), type := 25, pos := "query.go:79", after := #[{ on := 7, ground := Ground.data }], guard := none }) (v := .int .u64 NI) rfl (by decide) (by kernel_rfl) (by kernel_rfl) (by kernel_rfl) (fun _ _ _ h => h) (Or.inl ⟨by rfl, fun w2 hSw => ?_⟩) hS8 (fun hS9 => ?_)
  · obtain ⟨r0, r1, r2, r3, r4⟩ := KC.out _ hSw
    go_simp
  simp only [Act.put, List.setIfInBounds_toArray, List.set_cons_zero, List.set_cons_succ]
  clear hS8
  refine wpAnyL_take (i := 9) (oi := { dst := some 16, op := Op.move (Operand.tmp 0), type := 24, pos := "query.go:79", after := #[], guard := none }) (v := .pointer (some ⟨p, 0, none⟩)) rfl (by decide) (by kernel_rfl) (by kernel_rfl) (by kernel_rfl) (fun _ _ _ h => h) (Or.inl ⟨by rfl, fun w2 hSw => ?_⟩) hS9 (fun hS10 => ?_)
  · obtain ⟨r0, r1, r2, r3, r4⟩ := KC.out _ hSw
    go_simp
  simp only [Act.put, List.setIfInBounds_toArray, List.set_cons_zero, List.set_cons_succ]
  clear hS9
  refine wpAnyL_take (i := 10) (oi := { dst := some 17, op := Op.nilCheck (Operand.tmp 16), type := 0, pos := "query.go:79", after := #[{ on := 9, ground := Ground.data }], guard := none }) (v := .pointer (some ⟨p, 0, none⟩)) rfl (by decide) (by kernel_rfl) (by kernel_rfl) (by kernel_rfl) (fun _ _ _ h => h) (Or.inl ⟨by rfl, fun w2 hSw => ?_⟩) hS10 (fun hS11 => ?_)
  · obtain ⟨r0, r1, r2, r3, r4⟩ := KC.out _ hSw
    go_simp
  simp only [Act.put, List.setIfInBounds_toArray, List.set_cons_zero, List.set_cons_succ]
  clear hS10
  refine wpAnyL_take (i := 11) (oi := { dst := some 18, op := Op.fieldAddr 71 (Operand.tmp 17) 1, type := 0, pos := "query.go:79", after := #[{ on := 10, ground := Ground.data }], guard := none }) (v := .pointer (some ⟨p, 1, none⟩)) rfl (by decide) (by kernel_rfl) (by kernel_rfl) (by kernel_rfl) (fun _ _ _ h => h) (Or.inl ⟨by rfl, fun w2 hSw => ?_⟩) hS11 (fun hS12 => ?_)
  · obtain ⟨r0, r1, r2, r3, r4⟩ := KC.out _ hSw
    go_simp
  simp only [Act.put, List.setIfInBounds_toArray, List.set_cons_zero, List.set_cons_succ]
  clear hS11
  refine wpAnyL_take (i := 12) (oi := { dst := some 19, op := Op.load 61 (Operand.tmp 18), type := 61, pos := "query.go:79", after := #[{ on := 11, ground := Ground.data }], guard := none }) (v := .map (some a)) rfl (by decide) (by kernel_rfl) (by kernel_rfl) (by kernel_rfl) (fun _ _ _ h => h) (Or.inl ⟨by rfl, fun w2 hSw => ?_⟩) hS12 (fun hS13 => ?_)
  · obtain ⟨r0, r1, r2, r3, r4⟩ := KC.out _ hSw
    go_simp
  simp only [Act.put, List.setIfInBounds_toArray, List.set_cons_zero, List.set_cons_succ]
  clear hS12
  refine wpAnyL_take (i := 14) (oi := { dst := some 21, op := Op.move (Operand.tmp 0), type := 24, pos := "query.go:79", after := #[], guard := none }) (v := .pointer (some ⟨p, 0, none⟩)) rfl (by decide) (by kernel_rfl) (by kernel_rfl) (by kernel_rfl) (fun _ _ _ h => h) (Or.inl ⟨by rfl, fun w2 hSw => ?_⟩) hS13 (fun hS14 => ?_)
  · obtain ⟨r0, r1, r2, r3, r4⟩ := KC.out _ hSw
    go_simp
  simp only [Act.put, List.setIfInBounds_toArray, List.set_cons_zero, List.set_cons_succ]
  clear hS13
  refine wpAnyL_take (i := 15) (oi := { dst := some 22, op := Op.nilCheck (Operand.tmp 21), type := 0, pos := "query.go:79", after := #[{ on := 14, ground := Ground.data }], guard := none }) (v := .pointer (some ⟨p, 0, none⟩)) rfl (by decide) (by kernel_rfl) (by kernel_rfl) (by kernel_rfl) (fun _ _ _ h => h) (Or.inl ⟨by rfl, fun w2 hSw => ?_⟩) hS14 (fun hS15 => ?_)
  · obtain ⟨r0, r1, r2, r3, r4⟩ := KC.out _ hSw
    go_simp
  simp only [Act.put, List.setIfInBounds_toArray, List.set_cons_zero, List.set_cons_succ]
  clear hS14
  refine wpAnyL_take (i := 16) (oi := { dst := some 23, op := Op.fieldAddr 71 (Operand.tmp 22) 2, type := 0, pos := "query.go:79", after := #[{ on := 15, ground := Ground.data }], guard := none }) (v := .pointer (some ⟨p, 2, none⟩)) rfl (by decide) (by kernel_rfl) (by kernel_rfl) (by kernel_rfl) (fun _ _ _ h => h) (Or.inl ⟨by rfl, fun w2 hSw => ?_⟩) hS15 (fun hS16 => ?_)
  · obtain ⟨r0, r1, r2, r3, r4⟩ := KC.out _ hSw
    go_simp
  simp only [Act.put, List.setIfInBounds_toArray, List.set_cons_zero, List.set_cons_succ]
  clear hS15
  refine wpAnyL_take (i := 17) (oi := { dst := some 24, op := Op.load 62 (Operand.tmp 23), type := 62, pos := "query.go:79", after := #[{ on := 16, ground := Ground.data }], guard := none }) (v := .map (some b)) rfl (by decide) (by kernel_rfl) (by kernel_rfl) (by kernel_rfl) (fun _ _ _ h => h) (Or.inl ⟨by rfl, fun w2 hSw => ?_⟩) hS16 (fun hS17 => ?_)
  · obtain ⟨r0, r1, r2, r3, r4⟩ := KC.out _ hSw
    go_simp
  simp only [Act.put, List.setIfInBounds_toArray, List.set_cons_zero, List.set_cons_succ]
  clear hS16
  refine wpAnyL_take (i := 19) (oi := { dst := some 26, op := Op.move (Operand.tmp 0), type := 24, pos := "query.go:79", after := #[], guard := none }) (v := .pointer (some ⟨p, 0, none⟩)) rfl (by decide) (by kernel_rfl) (by kernel_rfl) (by kernel_rfl) (fun _ _ _ h => h) (Or.inl ⟨by rfl, fun w2 hSw => ?_⟩) hS17 (fun hS18 => ?_)
  · obtain ⟨r0, r1, r2, r3, r4⟩ := KC.out _ hSw
    go_simp
  simp only [Act.put, List.setIfInBounds_toArray, List.set_cons_zero, List.set_cons_succ]
  clear hS17
  refine wpAnyL_take (i := 20) (oi := { dst := some 27, op := Op.nilCheck (Operand.tmp 26), type := 0, pos := "query.go:79", after := #[{ on := 19, ground := Ground.data }], guard := none }) (v := .pointer (some ⟨p, 0, none⟩)) rfl (by decide) (by kernel_rfl) (by kernel_rfl) (by kernel_rfl) (fun _ _ _ h => h) (Or.inl ⟨by rfl, fun w2 hSw => ?_⟩) hS18 (fun hS19 => ?_)
  · obtain ⟨r0, r1, r2, r3, r4⟩ := KC.out _ hSw
    go_simp
  simp only [Act.put, List.setIfInBounds_toArray, List.set_cons_zero, List.set_cons_succ]
  clear hS18
  refine wpAnyL_take (i := 21) (oi := { dst := some 28, op := Op.fieldAddr 71 (Operand.tmp 27) 3, type := 0, pos := "query.go:79", after := #[{ on := 20, ground := Ground.data }], guard := none }) (v := .pointer (some ⟨p, 3, none⟩)) rfl (by decide) (by kernel_rfl) (by kernel_rfl) (by kernel_rfl) (fun _ _ _ h => h) (Or.inl ⟨by rfl, fun w2 hSw => ?_⟩) hS19 (fun hS20 => ?_)
  · obtain ⟨r0, r1, r2, r3, r4⟩ := KC.out _ hSw
    go_simp
  simp only [Act.put, List.setIfInBounds_toArray, List.set_cons_zero, List.set_cons_succ]
  clear hS19
  refine wpAnyL_one (i := 13) (o := { dst := some 20, op := Op.call { callee := Callee.value (Operand.func 21), args := #[Operand.tmp 19], argTypes := #[61] }, type := 22, pos := "query.go:82", after := #[{ on := 12, ground := Ground.data }], guard := none }) (by kernel_rfl) rfl (fun K hK => ?_)
  clear hS20
  go_simp
  go_at_call 21
  refine (KR.out _ HY0).mono ?_
  rintro e V1 ⟨ao6, cap6, rfl, G6⟩
  have HY1 := KN1.out _ _ _ _ HY0 G6
  refine hK.out _ _ ⟨fun _ => trivial, HY1.out.2.1⟩ ?_
  clear hK K
  refine wpAnyL_one (i := 18) (o := { dst := some 25, op := Op.call { callee := Callee.value (Operand.func 22), args := #[Operand.tmp 24], argTypes := #[62] }, type := 28, pos := "query.go:83", after := #[{ on := 17, ground := Ground.data }, { on := 13, ground := Ground.chain }], guard := none }) (by kernel_rfl) rfl (fun K hK => ?_)
  go_simp
  go_at_call 22
  refine (KH.out _ HY1.out.1).mono ?_
  rintro e V2 ⟨ho6, hcap6, rfl, G7⟩
  have HY2 := KN2.out _ _ _ _ _ _ HY1 G7
  refine hK.out _ _ ⟨fun _ => trivial, HY2.out.2.1⟩ ?_
  clear hK K
  refine wpAnyL_one (i := 22) (o := { dst := some 29, op := Op.call { callee := Callee.value (Operand.func 23), args := #[Operand.tmp 28], argTypes := #[65] }, type := 29, pos := "query.go:84", after := #[{ on := 21, ground := Ground.data }, { on := 18, ground := Ground.chain }], guard := none }) (by kernel_rfl) rfl (fun K hK => ?_)
  go_simp
  go_at_call 23
  refine (KJ.out _ HY2.out.1).mono ?_
  rintro e V3 ⟨jo6, jcap6, rfl, G8⟩
  have HY3 := KN3.out _ _ _ _ _ _ _ _ HY2 G8
  refine hK.out _ _ ⟨fun _ => trivial, HY3.out.2.1⟩ ?_
  clear hK K
  refine wpAnyL_one (i := 23) (o := { dst := some 30, op := Op.build 31 #[(0, Operand.tmp 10), (1, Operand.tmp 15), (2, Operand.tmp 20), (3, Operand.tmp 25), (4, Operand.tmp 29)], type := 31, pos := "query.go:79", after := #[{ on := 3, ground := Ground.data }, { on := 8, ground := Ground.data }, { on := 13, ground := Ground.data }, { on := 18, ground := Ground.data }, { on := 22, ground := Ground.data }], guard := none }) (by kernel_rfl) rfl (fun K hK => ?_)
  go_simp
  refine hK.out _ _ ⟨fun _ => trivial, HY3.out.2.1⟩ ?_
  clear hK K
  obtain ⟨y0, y1, y2, y3, y4, yl, f0, f1, f2, f3, f4⟩ := KY.out _ HY3.out.1
  refine wpAnyL_one (i := 24) (o := { dst := none, op := Op.store 31 (Operand.tmp 2) (Operand.tmp 30), type := 0, pos := "query.go:79", after := #[{ on := 23, ground := Ground.data }, { on := 22, ground := Ground.chain }, { on := 0, ground := Ground.phase }, { on := 1, ground := Ground.phase }, { on := 2, ground := Ground.phase }, { on := 3, ground := Ground.phase }, { on := 4, ground := Ground.phase }, { on := 5, ground := Ground.phase }, { on := 6, ground := Ground.phase }, { on := 7, ground := Ground.phase }, { on := 8, ground := Ground.phase }, { on := 9, ground := Ground.phase }, { on := 10, ground := Ground.phase }, { on := 11, ground := Ground.phase }, { on := 12, ground := Ground.phase }, { on := 13, ground := Ground.phase }, { on := 14, ground := Ground.phase }, { on := 15, ground := Ground.phase }, { on := 16, ground := Ground.phase }, { on := 17, ground := Ground.phase }, { on := 18, ground := Ground.phase }, { on := 19, ground := Ground.phase }, { on := 20, ground := Ground.phase }, { on := 21, ground := Ground.phase }, { on := 22, ground := Ground.phase }, { on := 23, ground := Ground.phase }], guard := none }) (by kernel_rfl) rfl (fun K hK => ?_)
  go_simp
  refine hK.out _ _ ⟨fun _ => trivial, KZ.out _ _ _ _ _ _ HY3.out.2.1⟩ ?_
  clear hK K
  refine wpAnyL_done (by kernel_rfl) ?_ _
  have HEN := hide (KE.out _ _ _ _ _ _ _ (.int .u64 SI) (.int .u64 NI) (.slice ao6 S.acc.length cap6) (.slice ho6 S.hol.length hcap6) (.slice jo6 S.jl.length jcap6) HY3)
  clear KC KR KH KJ KN1 KN2 KN3 KY KZ KE HY0 HM
  go_wp2
  refine bodyPost_ret (v := .agg #[.int .u64 SI, .int .u64 NI, .slice ao6 S.acc.length cap6, .slice ho6 S.hol.length hcap6, .slice jo6 S.jl.length jcap6]) (by simp [results, Try.results7, go_sem, y0, y1, y2, y3, y4]) rfl ⟨ao6, cap6, ho6, hcap6, jo6, jcap6, rfl, HEN.out⟩
end Go.Proofs.Yteafdpmblbbpnaa
