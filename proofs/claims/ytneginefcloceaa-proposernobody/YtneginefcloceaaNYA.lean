import Derived.Test.YtneginefcloceaaJTw
import Derived.Test.YtneginefcloceaaBPj
import Derived.Deep.DeepAppendRoom
import Derived.Test.YtneginefcloceaaQDef
import Derived.Test.YtneginefcloceaaBKa
import Derived.Test.YtneginefcloceaaBAs
namespace Go.Proofs.Ytneginefcloceaa
open Go.RowKit Crc

theorem two_new (x y : Value) (t : TypeId) : ∀ (W : World) (j : Nat) (u : Value), [x, y][j]? = some u → (W.alloc (.cells #[x, y] t)).cell? ((⟨W.heap.size, 0, none⟩ : Addr).add j) = some u := fun W j u h => by
  have e : (⟨W.heap.size, 0, none⟩ : Addr).add j = ⟨W.heap.size, j, none⟩ := by
    rcases j with _ | j <;> simp [Addr.add]
  rw [← h, e]
  exact (World.cell?_alloc_new W #[x, y] t j).trans (by simp)
set_option maxRecDepth 10000 in
set_option maxHeartbeats 800000 in
/-- lend, whatever becomes of it: new memory. -/
theorem lendN {lim : Nat} {ao : Option Addr} {B : List Nat} {n cap : Nat} {w : World} (h : Shows lim w ao n cap B) (hlw : lim ≤ w.heap.size) :
    Calls Try.prog 28 #[.slice ao n cap] w fun e w' => ∃ g, e = .returned (.slice (some ⟨g, 0, none⟩) n (n + 2)) ∧ Hid (Below w.heap.size w w') := by
  obtain ⟨hn, -, hl, -, b, off, hao, hbl, hc⟩ := h
  obtain ⟨i0, hi, hz0, hz1, hz2⟩ := info_parts Try.info5
  have HA : Hid (0 < n → ao = some ⟨b, off, none⟩) := hao
  have HC : Hid (∀ i, i < n → w.cell? ⟨b, off + i, none⟩ = some (.int .u8 ((B.getD i 0 : Nat) : Int))) := hc
  have HB : Hid (0 < n → b < w.heap.size) := fun e => Nat.lt_of_lt_of_le (hbl e) hlw
  clear hn hc hao hbl
  go_enter Try.func28, Try.ntmps28
  go_wp2_with (first
    | (at_make; refine wpList_make_own _ rfl _ _ 54 rfl w.heap.size 5 i0 (.int .u8 0) 1 Try.underlying54 hi hz0 hz1 .i64 .i64 _ (n + 2) rfl rfl (by omega) (by rw [hz2]; omega) (by unfold maxLen; omega) (Nat.le_refl _) ?_; intro w0 hown0 hgrow0))
  go_loopw [3, 4] (fun v i wr => ∃ (k : Nat) (xs : List Value), k ≤ n ∧ i = .int .i64 k ∧ v = .slice (some ⟨w.heap.size, 0, none⟩) k (n + 2) ∧ Hid (wr.ownsRow w.heap.size 5 1 (.slice (some ⟨w.heap.size, 0, none⟩) k (n + 2)) k xs ∧ Below w.heap.size w wr))
    (fun _ i _ => n - (intOf i).toNat)
  case atStart => exact ⟨0, [], by omega, rfl, rfl, hown0, (Below.refl _ _).grown hgrow0 (Nat.le_refl _) (fun k h => by cases h)⟩
  case round =>
    obtain ⟨k, xs, hk, rfl, rfl, HS⟩ := hrel
    clear hgrow0 hown0
    have hown := HS.out.1
    have HNX : Hid (∀ w1 o, (wr.alloc o).grownBy w1 (some w.heap.size) → Below w.heap.size w w1) := fun w1 o hg => by
      have hb := HS.out.2.alloc HS.out.2.size o
      exact hb.grown hg hb.size (fun j hj => by cases hj; exact Nat.le_refl _)
    by_cases hlt : k < n
    · have hck := (HS.out.2.cell (p := ⟨b, off + k, none⟩) (HB.out (by omega))).trans (HC.out k hlt)
      generalize ((B.getD k 0 : Nat) : Int) = ch at *
      obtain rfl := HA.out (by omega)
      go_wp2_with (first
        | (at_builtin; refine wpList_append_own_spare _ rfl (.tmp 15) (.tmp 20) 54 rfl w.heap.size 5 i0 1 Try.underlying54 hi hz1 w.heap.size k (n + 2) _ rfl (hown.alloc _) ⟨wr.heap.size, 0, none⟩ 1 1 [.int .u8 ch] rfl rfl (cell_one_new _ _ _) (Shade.one _ rfl) (by omega) ?_; intro w1 hown1 hgrow1))
      go_roundw
      case rel => exact ⟨k + 1, _, by omega, by go_num, rfl, hown1, HNX.out _ _ hgrow1⟩
      case measure => simp [intOf]; omega
    · obtain rfl : k = n := by omega
      go_wp2_with (first
        | (at_builtin; refine wpList_append_own_spare _ rfl (.tmp 22) (.tmp 23) 54 rfl w.heap.size 5 i0 1 Try.underlying54 hi hz1 w.heap.size k (k + 2) _ rfl (hown.alloc _) ⟨wr.heap.size, 0, none⟩ 2 2 [.int .u8 161, .int .u8 162] rfl rfl (two_new _ _ _ wr) (by intro u hu; simp at hu; rcases hu with rfl | rfl <;> rfl) (by omega) ?_; intro w1 hown1 hgrow1))
      go_ret
      exact ⟨_, rfl, HNX.out _ _ hgrow1⟩
set_option maxRecDepth 10000 in
set_option maxHeartbeats 1600000 in
theorem lendReqsN {w : World} {ro : Option Addr} {rs : List Rq} {b off : Nat} (n rc : Nat) (hl : rs.length = n) (h : Rqs w.heap.size w ro rs b off) :
    Calls Try.prog 19 #[.slice ro n rc] w fun e w' => ∃ g, e = .returned (.slice (some ⟨g, 0, none⟩) n (n + 1)) ∧ Hid (Below w.heap.size w w') := by
  obtain ⟨i0, hi, hz0, hz1, hz2⟩ := info_parts infoReq
  have hle := h.le
  rw [hl] at hle
  have HH := hide h
  have HL := hide hl
  clear h hl
  go_enter Try.func19, Try.ntmps19
  go_wp2_with (first
    | (at_make; refine wpList_make_own _ rfl _ _ 32 rfl w.heap.size 64 i0 (.agg #[.int .u64 0, .int .u64 0, .slice none 0 0]) 3 Try.underlying32 hi hz0 hz1 .i64 .i64 _ (n + 1) rfl rfl (by omega) (by rw [hz2]; omega) (by unfold maxLen; omega) (Nat.le_refl _) ?_; intro w0 hown0 hgrow0))
  go_loopw [3, 4, 5] (fun v i _ wr => ∃ (k : Nat) (xs : List Value), k ≤ n ∧ i = .int .i64 k ∧ v = .slice (some ⟨w.heap.size, 0, none⟩) k (n + 1) ∧ Hid (wr.ownsRow w.heap.size 64 3 (.slice (some ⟨w.heap.size, 0, none⟩) k (n + 1)) k xs ∧ Below w.heap.size w wr))
    (fun _ i _ _ => n - (intOf i).toNat)
  case atStart => exact ⟨0, [], by omega, rfl, rfl, hown0, (Below.refl _ _).grown hgrow0 (Nat.le_refl _) (fun k h => by cases h)⟩
  case round =>
    obtain ⟨k, xs, hk, rfl, rfl, HS⟩ := hrel
    clear hgrow0 hown0
    by_cases hlt : k < n
    · obtain ⟨r, hr, _, hok, hbl, rfl, c0, c1, c2⟩ := (HH.out.below HS.out.2).get (k := k) (by have := HL.out; omega)
      obtain ⟨cl, sq, co, cn, cc, C⟩ := r
      have hbl' : b < wr.heap.size := Nat.lt_of_lt_of_le hbl HS.out.2.size
      obtain ⟨V1, hV1⟩ : ∃ V1, wr.alloc (.cells #[.int .u64 (cl : Int), .int .u64 (sq : Int), .slice co cn cc] 64) = V1 := ⟨_, rfl⟩
      have B1 : Hid (Below wr.heap.size wr V1) := by rw [← hV1]; exact below_alloc1 wr _
      have C1 : Hid (V1.heap[wr.heap.size]? = some (.cells #[.int .u64 (cl : Int), .int .u64 (sq : Int), .slice co cn cc] 64 (0, 0))) := by rw [← hV1]; exact alloc_atK _ _
      have HLN : Hid (Calls Try.prog 28 #[.slice co cn cc] V1 fun e w' => ∃ g, e = .returned (.slice (some ⟨g, 0, none⟩) cn (cn + 2)) ∧ Hid ((w'.cell? ⟨wr.heap.size, 0, none⟩ = some (.int .u64 (cl : Int)) ∧ w'.cell? ⟨wr.heap.size, 1, none⟩ = some (.int .u64 (sq : Int)) ∧ w'.cell? ⟨wr.heap.size, 2, none⟩ = some (.slice co cn cc) ∧ w'.frozen? ⟨wr.heap.size, 2, none⟩ = false ∧ wr.heap.size < w'.heap.size) ∧ (∀ x o, ((w'.setCell ⟨wr.heap.size, 2, none⟩ x).alloc o).ownsRow w.heap.size 64 3 (.slice (some ⟨w.heap.size, 0, none⟩) k (n + 1)) k xs) ∧ ∀ x o w3, ((w'.setCell ⟨wr.heap.size, 2, none⟩ x).alloc o).grownBy w3 (some w.heap.size) → Below w.heap.size w w3)) := by
        have hbV := HS.out.2.trans (B1.out.mono HS.out.2.size)
        refine (lendN ((hok.hC.belowL (B1.out.mono HS.out.2.size)).wide hbV.size) (Nat.le_refl _)).mono ?_
        rintro e w' ⟨g, rfl, G⟩
        refine ⟨g, rfl, ?_⟩
        have bq := (G.out.block _ (block_lt C1.out)).trans C1.out
        have b1 : Below wr.heap.size wr w' := B1.out.trans (G.out.mono B1.out.size)
        have bw : Below w.heap.size w w' := HS.out.2.trans (b1.mono HS.out.2.size)
        have hs := HS.out.2.size
        refine ⟨⟨block_cell bq 0, block_cell bq 1, block_cell bq 2, block_free bq 2, block_lt bq⟩, fun x o => ?_, fun x o w3 hg => ?_⟩
        · have hR := HS.out.1.lt w.heap.size rfl
          exact row_quiet ((row_quiet HS.out.1 (below_none b1)).kept (grown_set w' wr.heap.size 2 x) (.inr (by simp [Value.ownBlock]; omega))) (World.grownBy_alloc _ _ none)
        · have b2 := bw.setCell (p := ⟨wr.heap.size, 2, none⟩) hs x
          have b3 := b2.alloc b2.size o
          exact b3.grown hg b3.size (fun j hj => by cases hj; exact Nat.le_refl _)
      have HV1 := hide hV1
      clear hr hok hbl hV1
      go_upto_region 6 with fail
      rw [HV1.out]
      clear HV1 c0 c1 c2
      have q0 := block_cell C1.out 0
      have q1 := block_cell C1.out 1
      have q2 := block_cell C1.out 2
      have ql := block_lt C1.out
      simp at q0 q1 q2
      clear C1 B1
      go_wp2_with (first
        | (go_at_call 28; refine HLN.out.mono ?_; rintro e w2 ⟨g, rfl, G⟩; clear q0 q1 q2 ql; obtain ⟨⟨q0, q1, q2, qf, ql⟩, HROW, HST⟩ := G.out; have HR := hide HROW; have HT := hide HST; clear HROW HST G)
        | (at_builtin; refine wpList_append_own_spare _ rfl (.tmp 24) (.tmp 26) 32 rfl w.heap.size 64 i0 3 Try.underlying32 hi hz1 w.heap.size k (n + 1) _ rfl (HR.out _ _) ⟨w2.heap.size, 0, none⟩ 1 1 [.int .u64 (cl : Int), .int .u64 (sq : Int), .slice (some ⟨g, 0, none⟩) cn (cn + 2)] rfl rfl (by have h := cell_req_new (w2.setCell ⟨wr.heap.size, 2, none⟩ (.slice (some ⟨g, 0, none⟩) cn (cn + 2))) (.int .u64 (cl : Int)) (.int .u64 (sq : Int)) (.slice (some ⟨g, 0, none⟩) cn (cn + 2)) 64; rw [show (w2.setCell ⟨wr.heap.size, 2, none⟩ (.slice (some ⟨g, 0, none⟩) cn (cn + 2))).heap.size = w2.heap.size by simp] at h; exact h) (by simp [Value.oneCell']) (by omega) ?_; intro w3 ho hg))
      go_roundw
      case rel => exact ⟨k + 1, _, by omega, by go_num, rfl, ho, HT.out _ _ _ hg⟩
      case measure => simp [intOf]; omega
    · obtain rfl : k = n := by omega
      have HR : Hid (∀ o, (wr.alloc o).ownsRow w.heap.size 64 3 (.slice (some ⟨w.heap.size, 0, none⟩) k (k + 1)) k xs) := fun o => row_quiet HS.out.1 (World.grownBy_alloc _ _ none)
      have HT : Hid (∀ o w3, (wr.alloc o).grownBy w3 (some w.heap.size) → Below w.heap.size w w3) := fun o w3 hg => by
        have b3 := HS.out.2.alloc HS.out.2.size o
        exact b3.grown hg b3.size (fun j hj => by cases hj; exact Nat.le_refl _)
      clear HS HH HL
      go_wp2_with (first
        | (at_builtin; refine wpList_append_own_spare _ rfl (.tmp 28) (.tmp 30) 32 rfl w.heap.size 64 i0 3 Try.underlying32 hi hz1 w.heap.size k (k + 1) _ rfl (HR.out _) ⟨wr.heap.size, 0, none⟩ 1 1 [.int .u64 163, .int .u64 0, .slice none 0 0] rfl rfl (cell_req_new _ _ _ _ _) (by simp [Value.oneCell']) (by omega) ?_; intro w3 ho hg))
      go_ret
      exact ⟨_, rfl, HT.out _ _ hg⟩
end Go.Proofs.Ytneginefcloceaa
namespace Go.Proofs.Ytneginefcloceaa
open Go.RowKit Crc

/-- A proposer that neither New nor Recover made: nil, or plain. -/
def Pn (W : World) (v : Value) : Prop := v = .pointer none ∨ ∃ p, v = .pointer (some ⟨p, 0, none⟩) ∧ W.cell? ⟨p, 0, none⟩ = some (.pointer none) ∧ p < W.heap.size
theorem Pn.kept {W W' : World} {v : Value} (h : Pn W v) (hb : Below W.heap.size W W') : Pn W' v := by
  rcases h with h | ⟨p, h1, h2, h3⟩
  · exact .inl h
  · exact .inr ⟨p, h1, (hb.cell (p := ⟨p, 0, none⟩) h3).trans h2, Nat.lt_of_lt_of_le h3 hb.size⟩
set_option maxRecDepth 10000 in
set_option maxHeartbeats 800000 in
theorem madeN {W : World} {v : Value} (h : Pn W v) : Calls Try.prog 14 #[v] W fun e w' => e = .returned (.bool false) ∧ w' = W := by
  rcases h with rfl | ⟨p, rfl, q0, ql⟩
  · go_enter Try.func14, Try.ntmps14
    go_wp2
    go_ret
    exact ⟨rfl, rfl⟩
  · go_enter Try.func14, Try.ntmps14
    go_wp2
    go_ret
    exact ⟨rfl, rfl⟩
set_option maxRecDepth 10000 in
set_option maxHeartbeats 800000 in
theorem requestN {W : World} {v : Value} (h : Pn W v) (a b : Int) (co : Option Addr) (cn cc : Nat) : Calls Try.prog 7 #[v, .agg #[.int .u64 a, .int .u64 b, .slice co cn cc]] W fun e w' => e = .returned (.bool false) ∧ Hid (Below W.heap.size W w') := by
  have HB : Hid (∀ o, Below W.heap.size W (W.alloc o)) := fun o => below_alloc1 W o
  have HM : Hid (∀ o, Calls Try.prog 14 #[v] (W.alloc o) fun e w' => e = .returned (.bool false) ∧ w' = W.alloc o) := fun o => madeN (h.kept (below_alloc1 W o))
  clear h
  go_enter Try.func7, Try.ntmps7
  go_wp2_with fail
  refine (HM.out _).mono ?_
  rintro e w1 ⟨rfl, hw⟩
  rw [hw]
  go_wp2
  go_ret
  exact ⟨rfl, HB.out _⟩
set_option maxRecDepth 10000 in
set_option maxHeartbeats 1600000 in
theorem promiseN {W : World} {v : Value} (h : Pn W v) (sv : Int) {cs : List Value} : Calls Try.prog 9 #[v, .int .u64 sv, .agg cs.toArray] W fun e w' => e = .returned (.bool false) ∧ Hid (Below W.heap.size W w') := by
  have HB : Hid (∀ o, Below W.heap.size W (W.alloc o)) := fun o => below_alloc1 W o
  have HM : Hid (∀ o, Calls Try.prog 14 #[v] (W.alloc o) fun e w' => e = .returned (.bool false) ∧ w' = W.alloc o) := fun o => madeN (h.kept (below_alloc1 W o))
  clear h
  go_enter Try.func9, Try.ntmps9
  go_wp2_with fail
  refine (HM.out _).mono ?_
  rintro e w1 ⟨rfl, hw⟩
  rw [hw]
  go_wp2
  go_ret
  exact ⟨rfl, HB.out _⟩
set_option maxRecDepth 10000 in
set_option maxHeartbeats 800000 in
theorem executedN {W : World} {v : Value} (h : Pn W v) (a : Int) (co : Option Addr) (cn cc : Nat) : Calls Try.prog 23 #[v, .agg #[.int .u64 a, .slice co cn cc]] W fun e w' => e = .returned (.tuple #[]) ∧ Hid (Below W.heap.size W w') := by
  have HB : Hid (∀ o, Below W.heap.size W (W.alloc o)) := fun o => below_alloc1 W o
  have HM : Hid (∀ o, Calls Try.prog 14 #[v] (W.alloc o) fun e w' => e = .returned (.bool false) ∧ w' = W.alloc o) := fun o => madeN (h.kept (below_alloc1 W o))
  clear h
  go_enter Try.func23, Try.ntmps23
  go_wp2_with fail
  refine (HM.out _).mono ?_
  rintro e w1 ⟨rfl, hw⟩
  rw [hw]
  go_wp2
  go_end0
  exact ⟨rfl, HB.out _⟩
/-- The empty step. -/
def step0 : Value := .agg #[.slice none 0 0, .slice none 0 0]
set_option maxRecDepth 10000 in
set_option maxHeartbeats 1600000 in
theorem nominateN {W : World} {v : Value} (h : Pn W v) (a b : Int) : Calls Try.prog 21 #[v, .int .u64 a, .int .u64 b] W fun e w' => e = .returned step0 ∧ Hid (Below W.heap.size W w') := by
  obtain ⟨W2, hW2⟩ : ∃ W2, (W.alloc (.cells #[.int .u64 b] 25)).alloc (.cells #[.slice none 0 0, .slice none 0 0] 46) = W2 := ⟨_, rfl⟩
  have B2 : Below W.heap.size W W2 := by rw [← hW2]; exact (below_alloc1 W _).alloc (by simp) _
  have HA : W2.heap[W.heap.size + 1]? = some (.cells #[.slice none 0 0, .slice none 0 0] 46 (0, 0)) := by rw [← hW2]; exact (two_box W _ _).2
  have z0 := block_cell HA 0
  have z1 := block_cell HA 1
  have f0 := block_free HA 0
  have f1 := block_free HA 1
  have zl := block_lt HA
  simp at z0 z1
  have HM := hide (madeN (h.kept B2))
  have FIN : Hid (∀ a b, Below W.heap.size W ((W2.setCell ⟨W.heap.size + 1, 0, none⟩ a).setCell ⟨W.heap.size + 1, 1, none⟩ b)) := fun a b => (B2.setCell (p := ⟨W.heap.size + 1, 0, none⟩) (by simp) a).setCell (p := ⟨W.heap.size + 1, 1, none⟩) (by simp) b
  have HW2 := hide hW2
  clear h HA B2 hW2
  go_enter Try.func21, Try.ntmps21
  go_upto_region 1 with fail
  rw [HW2.out]
  clear HW2
  go_wp2_with fail
  refine HM.out.mono ?_
  rintro e w1 ⟨rfl, hw⟩
  have hw' := hw.symm
  subst hw'
  go_wp2
  refine bodyPost_ret (v := step0) (by simp [results, Try.results21, go_sem, z0, z1, step0]) rfl ?_
  exact ⟨rfl, FIN.out _ _⟩
set_option maxRecDepth 10000 in
set_option maxHeartbeats 1600000 in
theorem leadN {W : World} {v : Value} (h : Pn W v) (a : Int) : Calls Try.prog 20 #[v, .int .u64 a] W fun e w' => e = .returned step0 ∧ Hid (Below W.heap.size W w') := by
  obtain ⟨W1, hW1⟩ : ∃ W1, W.alloc (.cells #[.slice none 0 0, .slice none 0 0] 46) = W1 := ⟨_, rfl⟩
  have B1 : Below W.heap.size W W1 := by rw [← hW1]; exact below_alloc1 W _
  have HA : W1.heap[W.heap.size]? = some (.cells #[.slice none 0 0, .slice none 0 0] 46 (0, 0)) := by rw [← hW1]; exact alloc_atK _ _
  have KM : Hid (∀ V, Hid (Below W1.heap.size W1 V) → Calls Try.prog 14 #[v] V fun e w' => e = .returned (.bool false) ∧ w' = V) := fun V hb => madeN ((h.kept B1).kept hb.out)
  have KZ : Hid (∀ V, Hid (Below W1.heap.size W1 V) → (V.cell? ⟨W.heap.size, 0, none⟩ = some (.slice none 0 0) ∧ V.cell? ⟨W.heap.size, 1, none⟩ = some (.slice none 0 0) ∧ V.frozen? ⟨W.heap.size, 0, none⟩ = false ∧ V.frozen? ⟨W.heap.size, 1, none⟩ = false ∧ W.heap.size < V.heap.size) ∧ Hid (∀ a b, Below W.heap.size W ((V.setCell ⟨W.heap.size, 0, none⟩ a).setCell ⟨W.heap.size, 1, none⟩ b))) := fun V hb => by
    have b := (hb.out.block _ (block_lt HA)).trans HA
    have bb := B1.trans (hb.out.mono B1.size)
    exact ⟨⟨block_cell b 0, block_cell b 1, block_free b 0, block_free b 1, block_lt b⟩, fun a b => (bb.setCell (p := ⟨W.heap.size, 0, none⟩) (Nat.le_refl _) a).setCell (p := ⟨W.heap.size, 1, none⟩) (Nat.le_refl _) b⟩
  have X1 : Hid (Below W1.heap.size W1 W1.drew) := (Below.refl _ _).drew
  have HW1 := hide hW1
  clear h HA B1 hW1
  go_enter Try.func20, Try.ntmps20
  go_upto_region 1 with fail
  rw [HW1.out]
  clear HW1
  refine region_assign (fun V => Hid (Below W1.heap.size W1 V)) [(7, v), (8, .bool false), (9, .bool true), (10, .bool true), (11, undef), (12, undef), (13, undef), (14, undef), (15, undef), (16, undef), (17, .bool true), (18, .bool true), (19, undef), (20, undef), (21, undef), (22, undef), (23, undef), (24, undef), (25, undef), (26, undef), (27, .bool true)] _ (by kernel_rfl) (by kernel_rfl) (by kernel_rfl) (by kernel_rfl) rfl X1 ?_ (fun V1 HV1 => ?_)
  · simp only [putAll, Act.put, List.setIfInBounds_toArray, List.set_cons_zero, List.set_cons_succ]
    repeat' (first | exact AllTo.nil | refine AllTo.cons ?_ ?_)
    all_goals first
      | exact stepTo_no (by rfl) rfl
      | (refine stepTo_yes (by rfl) (fun V hV K hK => ?_)
         go_simp
         first
           | exact hK.out _ hV
           | (go_at_call 14; refine (KM.out V hV).mono ?_; rintro e V' ⟨rfl, rfl⟩; exact hK.out _ hV))
  simp only [putAll, Act.put, List.setIfInBounds_toArray, List.set_cons_zero, List.set_cons_succ]
  obtain ⟨⟨z0, z1, f0, f1, zl⟩, HF⟩ := KZ.out V1 HV1
  go_wp2
  refine bodyPost_ret (v := step0) (by simp [results, Try.results20, go_sem, z0, z1, step0]) rfl ?_
  exact ⟨rfl, HF.out _ _⟩
set_option maxRecDepth 10000 in
set_option maxHeartbeats 1600000 in
theorem enterN {W : World} {v : Value} (h : Pn W v) (n m : Int) (ro : Option Addr) (rn rc : Nat) : Calls Try.prog 5 #[v, .agg #[.int .u64 n, .int .i64 m], .slice ro rn rc] W fun e w' => e = .returned step0 ∧ Hid (Below W.heap.size W w') := by
  obtain ⟨W1, hW1⟩ : ∃ W1, (W.alloc (.cells #[.int .u64 n, .int .i64 m] 27)).alloc (.cells #[.slice none 0 0, .slice none 0 0] 46) = W1 := ⟨_, rfl⟩
  have B1 : Below W.heap.size W W1 := by rw [← hW1]; exact (below_alloc1 W _).alloc (by simp) _
  have HA : W1.heap[W.heap.size + 1]? = some (.cells #[.slice none 0 0, .slice none 0 0] 46 (0, 0)) := by rw [← hW1]; exact (two_box W _ _).2
  have KM : Hid (∀ V, Hid (Below W1.heap.size W1 V) → Calls Try.prog 14 #[v] V fun e w' => e = .returned (.bool false) ∧ w' = V) := fun V hb => madeN ((h.kept B1).kept hb.out)
  have KZ : Hid (∀ V, Hid (Below W1.heap.size W1 V) → (V.cell? ⟨W.heap.size + 1, 0, none⟩ = some (.slice none 0 0) ∧ V.cell? ⟨W.heap.size + 1, 1, none⟩ = some (.slice none 0 0) ∧ V.frozen? ⟨W.heap.size + 1, 0, none⟩ = false ∧ V.frozen? ⟨W.heap.size + 1, 1, none⟩ = false ∧ W.heap.size + 1 < V.heap.size) ∧ Hid (∀ a b, Below W.heap.size W ((V.setCell ⟨W.heap.size + 1, 0, none⟩ a).setCell ⟨W.heap.size + 1, 1, none⟩ b))) := fun V hb => by
    have b := (hb.out.block _ (block_lt HA)).trans HA
    have bb := B1.trans (hb.out.mono B1.size)
    exact ⟨⟨block_cell b 0, block_cell b 1, block_free b 0, block_free b 1, block_lt b⟩, fun a b => (bb.setCell (p := ⟨W.heap.size + 1, 0, none⟩) (by simp) a).setCell (p := ⟨W.heap.size + 1, 1, none⟩) (by simp) b⟩
  have X1 : Hid (Below W1.heap.size W1 W1.drew) := (Below.refl _ _).drew
  have HW1 := hide hW1
  clear h HA B1 hW1
  go_enter Try.func5, Try.ntmps5
  go_upto_region 1 with fail
  rw [HW1.out]
  clear HW1
  refine region_assign (fun V => Hid (Below W1.heap.size W1 V)) [(9, v), (10, .bool false), (11, .bool true), (12, .bool true), (13, undef), (14, undef), (15, undef), (16, undef), (17, .bool true), (18, .bool true), (19, undef), (20, undef), (21, undef), (22, undef), (23, undef), (24, undef), (25, undef), (26, .bool true)] _ (by kernel_rfl) (by kernel_rfl) (by kernel_rfl) (by kernel_rfl) rfl X1 ?_ (fun V1 HV1 => ?_)
  · simp only [putAll, Act.put, List.setIfInBounds_toArray, List.set_cons_zero, List.set_cons_succ]
    repeat' (first | exact AllTo.nil | refine AllTo.cons ?_ ?_)
    all_goals first
      | exact stepTo_no (by rfl) rfl
      | (refine stepTo_yes (by rfl) (fun V hV K hK => ?_)
         go_simp
         first
           | exact hK.out _ hV
           | (go_at_call 14; refine (KM.out V hV).mono ?_; rintro e V' ⟨rfl, rfl⟩; exact hK.out _ hV))
  simp only [putAll, Act.put, List.setIfInBounds_toArray, List.set_cons_zero, List.set_cons_succ]
  obtain ⟨⟨z0, z1, f0, f1, zl⟩, HF⟩ := KZ.out V1 HV1
  go_wp2
  refine bodyPost_ret (v := step0) (by simp [results, Try.results5, go_sem, z0, z1, step0]) rfl ?_
  exact ⟨rfl, HF.out _ _⟩
set_option maxRecDepth 10000 in
set_option maxHeartbeats 1600000 in
theorem resendN {W : World} {v : Value} (h : Pn W v) : Calls Try.prog 22 #[v] W fun e w' => e = .returned step0 ∧ Hid (Below W.heap.size W w') := by
  obtain ⟨W2, hW2⟩ : ∃ W2, (W.alloc (.cells #[.slice none 0 0, .slice none 0 0] 46)).alloc (.cells #[.slice none 0 0, .slice none 0 0] 46) = W2 := ⟨_, rfl⟩
  have B2 : Below W.heap.size W W2 := by rw [← hW2]; exact (below_alloc1 W _).alloc (by simp) _
  have HA : W2.heap[W.heap.size]? = some (.cells #[.slice none 0 0, .slice none 0 0] 46 (0, 0)) ∧ W2.heap[W.heap.size + 1]? = some (.cells #[.slice none 0 0, .slice none 0 0] 46 (0, 0)) := by rw [← hW2]; exact two_box W _ _
  have z0 := block_cell HA.1 0
  have z1 := block_cell HA.1 1
  have f0 := block_free HA.1 0
  have f1 := block_free HA.1 1
  have zl := block_lt HA.1
  have y0 := block_cell HA.2 0
  have y1 := block_cell HA.2 1
  have yl := block_lt HA.2
  simp at z0 z1 y0 y1
  have HM := hide (madeN (h.kept B2))
  have FIN : Hid (∀ a b, Below W.heap.size W ((W2.setCell ⟨W.heap.size, 0, none⟩ a).setCell ⟨W.heap.size, 1, none⟩ b)) := fun a b => (B2.setCell (p := ⟨W.heap.size, 0, none⟩) (Nat.le_refl _) a).setCell (p := ⟨W.heap.size, 1, none⟩) (Nat.le_refl _) b
  have HW2 := hide hW2
  clear h HA B2 hW2
  go_enter Try.func22, Try.ntmps22
  go_upto_region 7 with fail
  rw [HW2.out]
  clear HW2
  go_wp2_with fail
  refine HM.out.mono ?_
  rintro e w1 ⟨rfl, hw⟩
  have hw' := hw.symm
  subst hw'
  go_wp2
  refine bodyPost_ret (v := step0) (by simp [results, Try.results22, go_sem, z0, z1, step0]) rfl ?_
  exact ⟨rfl, FIN.out _ _⟩
end Go.Proofs.Ytneginefcloceaa
namespace Go.Proofs.Ytneginefcloceaa
open Go.RowKit Crc

set_option maxRecDepth 10000 in
set_option maxHeartbeats 1600000 in
theorem lendBatchN {w : World} (st : Int) {ro : Option Addr} {rs : List Rq} {b off : Nat} (n rc : Nat) (hl : rs.length = n) (h : Rqs w.heap.size w ro rs b off) :
    Calls Try.prog 24 #[.agg #[.int .u64 st, .slice ro n rc]] w fun e w' => ∃ g, e = .returned (.agg #[.int .u64 st, .slice (some ⟨g, 0, none⟩) n (n + 1)]) ∧ Hid (Below w.heap.size w w') := by
  obtain ⟨W2, hW2⟩ : ∃ W2, (w.alloc (.cells #[.int .u64 st, .slice ro n rc] 52)).alloc (.cells #[.int .u64 0, .slice none 0 0] 52) = W2 := ⟨_, rfl⟩
  have B2 : Below w.heap.size w W2 := by rw [← hW2]; exact (below_alloc1 w _).alloc (by simp) _
  have HA : W2.heap[w.heap.size]? = some (.cells #[.int .u64 st, .slice ro n rc] 52 (0, 0)) ∧ W2.heap[w.heap.size + 1]? = some (.cells #[.int .u64 0, .slice none 0 0] 52 (0, 0)) := by rw [← hW2]; exact two_box w _ _
  have KL : Hid (∀ q, Calls Try.prog 19 #[.slice ro n rc] (W2.drewN q) fun e w' => ∃ g, e = .returned (.slice (some ⟨g, 0, none⟩) n (n + 1)) ∧ Hid ((w'.cell? ⟨w.heap.size, 0, none⟩ = some (.int .u64 st) ∧ w'.cell? ⟨w.heap.size, 1, none⟩ = some (.slice ro n rc) ∧ w.heap.size < w'.heap.size) ∧ (w'.cell? ⟨w.heap.size + 1, 0, none⟩ = some (.int .u64 0) ∧ w'.cell? ⟨w.heap.size + 1, 1, none⟩ = some (.slice none 0 0) ∧ w'.frozen? ⟨w.heap.size + 1, 0, none⟩ = false ∧ w'.frozen? ⟨w.heap.size + 1, 1, none⟩ = false ∧ w.heap.size + 1 < w'.heap.size) ∧ ∀ a b, Below w.heap.size w ((w'.setCell ⟨w.heap.size + 1, 0, none⟩ a).setCell ⟨w.heap.size + 1, 1, none⟩ b))) := fun q => by
    have bd : Below W2.heap.size W2 (W2.drewN q) := ⟨rfl, rfl, rfl, Nat.le_refl _, fun _ _ => rfl⟩
    have bw := B2.trans (bd.mono B2.size)
    refine (lendReqsN n rc hl ((h.below bw).wide bw.size)).mono ?_
    rintro e w' ⟨g, rfl, G⟩
    have b1 := (G.out.block _ (block_lt HA.1)).trans HA.1
    have b2 := (G.out.block _ (block_lt HA.2)).trans HA.2
    have b3 := bw.trans (G.out.mono bw.size)
    exact ⟨g, rfl, ⟨block_cell b1 0, block_cell b1 1, block_lt b1⟩, ⟨block_cell b2 0, block_cell b2 1, block_free b2 0, block_free b2 1, block_lt b2⟩, fun a b => (b3.setCell (p := ⟨w.heap.size + 1, 0, none⟩) (by simp) a).setCell (p := ⟨w.heap.size + 1, 1, none⟩) (by simp) b⟩
  have z0 := block_cell HA.1 0
  have z1 := block_cell HA.1 1
  have zl := block_lt HA.1
  simp at z0 z1
  have HW2 := hide hW2
  clear h hl HA B2 hW2
  go_enter Try.func24, Try.ntmps24
  go_upto_region 1 with fail
  rw [HW2.out]
  clear HW2
  go_region_with (go_at_call 19; refine (KL.out _).mono ?_; rintro e w3 ⟨g, rfl, G⟩; obtain ⟨⟨x0, x1, xl⟩, ⟨y0, y1, f0, f1, yl⟩, HFF⟩ := G.out; have HF := hide HFF; clear HFF G)
  all_goals go_wp2
  all_goals refine bodyPost_ret (v := .agg #[.int .u64 st, .slice (some ⟨g, 0, none⟩) n (n + 1)]) (by simp [results, Try.results24, go_sem, y0, y1]) rfl ?_
  all_goals exact ⟨g, rfl, HF.out _ _⟩
/-- A vote as it lies. -/
structure Vq where
  (slot num : Nat) (node : Int) (st : Nat) (ro : Option Addr) (rn rc : Nat) (rs : List Rq) (b off : Nat)
def Vq.cells (v : Vq) : Array Value := #[.int .u64 (v.slot : Nat), .int .u64 (v.num : Nat), .int .i64 v.node, .int .u64 (v.st : Nat), .slice v.ro v.rn v.rc]
structure Vq.Ok (lim : Nat) (w : World) (v : Vq) : Prop where
  hl : v.rs.length = v.rn
  hR : Rqs lim w v.ro v.rs v.b v.off
theorem Vq.Ok.below {lim : Nat} {w w' : World} {v : Vq} (h : v.Ok lim w) (hb : Below lim w w') : v.Ok lim w' := ⟨h.hl, h.hR.below hb⟩
/-- Votes as they lie. -/
structure Vqs (lim : Nat) (w : World) (ao : Option Addr) (vs : List Vq) (b off : Nat) : Prop where
  ad : 0 < vs.length → ao = some ⟨b, off, none⟩
  lt : 0 < vs.length → b < lim
  le : vs.length ≤ 2513169434917
  at_ : ∀ (i : Nat) (v : Vq), vs[i]? = some v → ∀ j u, v.cells[j]? = some u → w.cell? ⟨b, off + i * 5 + j, none⟩ = some u
  ok : ∀ v ∈ vs, v.Ok lim w
theorem Vqs.below {lim : Nat} {w w' : World} {ao : Option Addr} {vs : List Vq} {b off : Nat} (h : Vqs lim w ao vs b off) (hb : Below lim w w') : Vqs lim w' ao vs b off :=
  ⟨h.ad, h.lt, h.le, fun i v hv j u hu => (hb.cell (p := ⟨b, _, none⟩) (h.lt (by have := (List.getElem?_eq_some_iff.1 hv).1; omega))).trans (h.at_ i v hv j u hu), fun v hv => (h.ok v hv).below hb⟩
theorem Vqs.get {lim : Nat} {w : World} {ao : Option Addr} {vs : List Vq} {b off : Nat} (h : Vqs lim w ao vs b off) {k : Nat} (hk : k < vs.length) :
    ∃ v : Vq, v.Ok lim w ∧ b < lim ∧ ao = some ⟨b, off, none⟩ ∧ w.cell? ⟨b, off + k * 5, none⟩ = some (.int .u64 (v.slot : Nat)) ∧ w.cell? ⟨b, off + k * 5 + 1, none⟩ = some (.int .u64 (v.num : Nat)) ∧ w.cell? ⟨b, off + k * 5 + 2, none⟩ = some (.int .i64 v.node) ∧ w.cell? ⟨b, off + k * 5 + 3, none⟩ = some (.int .u64 (v.st : Nat)) ∧ w.cell? ⟨b, off + k * 5 + 4, none⟩ = some (.slice v.ro v.rn v.rc) := by
  have hg : vs[k]? = some vs[k] := List.getElem?_eq_getElem hk
  exact ⟨vs[k], h.ok _ (List.getElem_mem hk), h.lt (by omega), h.ad (by omega), h.at_ k _ hg 0 _ rfl, h.at_ k _ hg 1 _ rfl, h.at_ k _ hg 2 _ rfl, h.at_ k _ hg 3 _ rfl, h.at_ k _ hg 4 _ rfl⟩
theorem infoVote : (Try.prog.info? 110).map (fun i => (i.zero, i.size, i.bytes)) = some (some (.agg #[.int .u64 0, .int .u64 0, .int .i64 0, .int .u64 0, .slice none 0 0]), 5, 56) := by kernel_rfl
theorem cell_vote_new (W : World) (a b c d e : Value) (t : TypeId) : ∀ (j : Nat) (u : Value), [a, b, c, d, e][j]? = some u → (W.alloc (.cells #[a, b, c, d, e] t)).cell? (Addr.add ⟨W.heap.size, 0, none⟩ j) = some u := by
  intro j u hu
  have := World.cell?_alloc_new W #[a, b, c, d, e] t j
  have he : Addr.add ⟨W.heap.size, 0, none⟩ j = ⟨W.heap.size, j, none⟩ := by
    simp only [Addr.add]
    split <;> simp_all
  rw [he, this]
  simpa using hu
set_option maxRecDepth 10000 in
set_option maxHeartbeats 1600000 in
theorem lendVotesN {w : World} {ao : Option Addr} {vs : List Vq} {b off : Nat} (n vc : Nat) (hl : vs.length = n) (h : Vqs w.heap.size w ao vs b off) :
    Calls Try.prog 33 #[.slice ao n vc] w fun e w' => ∃ g, e = .returned (.slice (some ⟨g, 0, none⟩) n (n + 1)) ∧ Hid (Below w.heap.size w w') := by
  obtain ⟨i0, hi, hz0, hz1, hz2⟩ := info_parts infoVote
  have hle := h.le
  rw [hl] at hle
  have HH := hide h
  have HL := hide hl
  clear h hl
  go_enter Try.func33, Try.ntmps33
  go_wp2_with (first
    | (at_make; refine wpList_make_own _ rfl _ _ 28 rfl w.heap.size 110 i0 (.agg #[.int .u64 0, .int .u64 0, .int .i64 0, .int .u64 0, .slice none 0 0]) 5 Try.underlying28 hi hz0 hz1 .i64 .i64 _ (n + 1) rfl rfl (by omega) (by rw [hz2]; omega) (by unfold maxLen; omega) (Nat.le_refl _) ?_; intro w0 hown0 hgrow0))
  go_loopw [3, 4, 5] (fun v i _ wr => ∃ (k : Nat) (xs : List Value), k ≤ n ∧ i = .int .i64 k ∧ v = .slice (some ⟨w.heap.size, 0, none⟩) k (n + 1) ∧ Hid (wr.ownsRow w.heap.size 110 5 (.slice (some ⟨w.heap.size, 0, none⟩) k (n + 1)) k xs ∧ Below w.heap.size w wr))
    (fun _ i _ _ => n - (intOf i).toNat)
  case atStart => exact ⟨0, [], by omega, rfl, rfl, hown0, (Below.refl _ _).grown hgrow0 (Nat.le_refl _) (fun k h => by cases h)⟩
  case round =>
    obtain ⟨k, xs, hk, rfl, rfl, HS⟩ := hrel
    clear hgrow0 hown0
    by_cases hlt : k < n
    · obtain ⟨r, hok, hbl, rfl, c0, c1, c2, c3, c4⟩ := (HH.out.below HS.out.2).get (k := k) (by have := HL.out; omega)
      have hbl' : b < wr.heap.size := Nat.lt_of_lt_of_le hbl HS.out.2.size
      obtain ⟨V1, hV1⟩ : ∃ V1, wr.alloc (.cells #[.int .u64 (r.slot : Nat), .int .u64 (r.num : Nat), .int .i64 r.node, .int .u64 (r.st : Nat), .slice r.ro r.rn r.rc] 110) = V1 := ⟨_, rfl⟩
      have B1 : Hid (Below wr.heap.size wr V1) := by rw [← hV1]; exact below_alloc1 wr _
      have C1 : Hid (V1.heap[wr.heap.size]? = some (.cells #[.int .u64 (r.slot : Nat), .int .u64 (r.num : Nat), .int .i64 r.node, .int .u64 (r.st : Nat), .slice r.ro r.rn r.rc] 110 (0, 0))) := by rw [← hV1]; exact alloc_atK _ _
      have HLN : Hid (Calls Try.prog 24 #[.agg #[.int .u64 (r.st : Nat), .slice r.ro r.rn r.rc]] V1 fun e w' => ∃ g, e = .returned (.agg #[.int .u64 (r.st : Nat), .slice (some ⟨g, 0, none⟩) r.rn (r.rn + 1)]) ∧ Hid ((w'.cell? ⟨wr.heap.size, 0, none⟩ = some (.int .u64 (r.slot : Nat)) ∧ w'.cell? ⟨wr.heap.size, 1, none⟩ = some (.int .u64 (r.num : Nat)) ∧ w'.cell? ⟨wr.heap.size, 2, none⟩ = some (.int .i64 r.node) ∧ w'.cell? ⟨wr.heap.size, 3, none⟩ = some (.int .u64 (r.st : Nat)) ∧ w'.cell? ⟨wr.heap.size, 4, none⟩ = some (.slice r.ro r.rn r.rc) ∧ w'.frozen? ⟨wr.heap.size, 3, none⟩ = false ∧ w'.frozen? ⟨wr.heap.size, 4, none⟩ = false ∧ wr.heap.size < w'.heap.size) ∧ (∀ x y o, (((w'.setCell ⟨wr.heap.size, 3, none⟩ x).setCell ⟨wr.heap.size, 4, none⟩ y).alloc o).ownsRow w.heap.size 110 5 (.slice (some ⟨w.heap.size, 0, none⟩) k (n + 1)) k xs) ∧ ∀ x y o w3, (((w'.setCell ⟨wr.heap.size, 3, none⟩ x).setCell ⟨wr.heap.size, 4, none⟩ y).alloc o).grownBy w3 (some w.heap.size) → Below w.heap.size w w3)) := by
        have hbV := HS.out.2.trans (B1.out.mono HS.out.2.size)
        refine (lendBatchN (r.st : Nat) r.rn r.rc hok.hl ((hok.hR.below (B1.out.mono HS.out.2.size)).wide hbV.size)).mono ?_
        rintro e w' ⟨g, rfl, G⟩
        refine ⟨g, rfl, ?_⟩
        have bq := (G.out.block _ (block_lt C1.out)).trans C1.out
        have b1 : Below wr.heap.size wr w' := B1.out.trans (G.out.mono B1.out.size)
        have bw : Below w.heap.size w w' := HS.out.2.trans (b1.mono HS.out.2.size)
        have hs := HS.out.2.size
        have hR := HS.out.1.lt w.heap.size rfl
        refine ⟨⟨block_cell bq 0, block_cell bq 1, block_cell bq 2, block_cell bq 3, block_cell bq 4, block_free bq 3, block_free bq 4, block_lt bq⟩, fun x y o => ?_, fun x y o w3 hg => ?_⟩
        · exact row_quiet (((row_quiet HS.out.1 (below_none b1)).kept (grown_set w' wr.heap.size 3 x) (.inr (by simp [Value.ownBlock]; omega))).kept (grown_set _ wr.heap.size 4 y) (.inr (by simp [Value.ownBlock]; omega))) (World.grownBy_alloc _ _ none)
        · have b2 := (bw.setCell (p := ⟨wr.heap.size, 3, none⟩) hs x).setCell (p := ⟨wr.heap.size, 4, none⟩) hs y
          have b3 := b2.alloc b2.size o
          exact b3.grown hg b3.size (fun j hj => by cases hj; exact Nat.le_refl _)
      have HV1 := hide hV1
      clear hok hbl hV1
      generalize (r.slot : Int) = sl at *
      generalize (r.num : Int) = nu at *
      generalize r.node = nd at *
      generalize (r.st : Int) = st at *
      generalize r.ro = ro at *
      generalize r.rn = rn at *
      generalize r.rc = rc at *
      go_upto_region 6 with fail
      rw [HV1.out]
      clear HV1 c0 c1 c2 c3 c4
      have q0 := block_cell C1.out 0
      have q1 := block_cell C1.out 1
      have q2 := block_cell C1.out 2
      have q3 := block_cell C1.out 3
      have q4 := block_cell C1.out 4
      have ql := block_lt C1.out
      simp at q0 q1 q2 q3 q4
      clear C1 B1
      go_wp2_with (first
        | (go_at_call 24; refine HLN.out.mono ?_; rintro e w2 ⟨g, rfl, G⟩; clear q0 q1 q2 q3 q4 ql; obtain ⟨⟨q0, q1, q2, q3, q4, qf3, qf4, ql⟩, HROW, HST⟩ := G.out; have HR := hide HROW; have HT := hide HST; clear HROW HST G)
        | (at_builtin; refine wpList_append_own_spare _ rfl (.tmp 24) (.tmp 26) 28 rfl w.heap.size 110 i0 5 Try.underlying28 hi hz1 w.heap.size k (n + 1) _ rfl (HR.out _ _ _) ⟨w2.heap.size, 0, none⟩ 1 1 [.int .u64 sl, .int .u64 nu, .int .i64 nd, .int .u64 st, .slice (some ⟨g, 0, none⟩) rn (rn + 1)] rfl rfl (by have h := cell_vote_new ((w2.setCell ⟨wr.heap.size, 3, none⟩ (.int .u64 st)).setCell ⟨wr.heap.size, 4, none⟩ (.slice (some ⟨g, 0, none⟩) rn (rn + 1))) (.int .u64 sl) (.int .u64 nu) (.int .i64 nd) (.int .u64 st) (.slice (some ⟨g, 0, none⟩) rn (rn + 1)) 110; rw [show ((w2.setCell ⟨wr.heap.size, 3, none⟩ (.int .u64 st)).setCell ⟨wr.heap.size, 4, none⟩ (.slice (some ⟨g, 0, none⟩) rn (rn + 1))).heap.size = w2.heap.size by simp] at h; exact h) (by simp [Value.oneCell']) (by omega) ?_; intro w3 ho hg))
      go_roundw
      case rel => exact ⟨k + 1, _, by omega, by go_num, rfl, ho, HT.out _ _ _ _ hg⟩
      case measure => simp [intOf]; omega
    · obtain rfl : k = n := by omega
      have HR : Hid (∀ o, (wr.alloc o).ownsRow w.heap.size 110 5 (.slice (some ⟨w.heap.size, 0, none⟩) k (k + 1)) k xs) := fun o => row_quiet HS.out.1 (World.grownBy_alloc _ _ none)
      have HT : Hid (∀ o w3, (wr.alloc o).grownBy w3 (some w.heap.size) → Below w.heap.size w w3) := fun o w3 hg => by
        have b3 := HS.out.2.alloc HS.out.2.size o
        exact b3.grown hg b3.size (fun j hj => by cases hj; exact Nat.le_refl _)
      clear HS HH HL
      go_wp2_with (first
        | (at_builtin; refine wpList_append_own_spare _ rfl (.tmp 28) (.tmp 30) 28 rfl w.heap.size 110 i0 5 Try.underlying28 hi hz1 w.heap.size k (k + 1) _ rfl (HR.out _) ⟨wr.heap.size, 0, none⟩ 1 1 [.int .u64 164, .int .u64 0, .int .i64 0, .int .u64 0, .slice none 0 0] rfl rfl (cell_vote_new _ _ _ _ _ _ _) (by simp [Value.oneCell']) (by omega) ?_; intro w3 ho hg))
      go_ret
      exact ⟨_, rfl, HT.out _ _ hg⟩
end Go.Proofs.Ytneginefcloceaa
