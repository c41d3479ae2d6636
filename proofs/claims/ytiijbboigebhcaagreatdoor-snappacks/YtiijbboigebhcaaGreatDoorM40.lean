import Derived.Test.YtiijbboigebhcaaGreatDoorM39
import Derived.Deep.RegionHeld
namespace Go.Proofs.YtiijbboigebhcaaGreatDoor
open Go.RowKit Crc

theorem vals_snoc (B : List Nat) (k c : Nat) (h : B[k]? = some c) (L : List Nat) : vals (L ++ B.take k) ++ [.int .u8 (c : Int)] = vals (L ++ B.take (k + 1)) := by
  rw [List.take_add_one, h]
  simp [vals]
set_option maxRecDepth 10000 in
set_option maxHeartbeats 1600000 in
theorem penBytes_any {base p blim n cap : Nat} {w W : World} {L : List Nat} (h : Pa base p w L W) (ao : Option Addr) (B : List Nat) (hS : Shows blim W ao n cap B) (hf : ∀ b off, 0 < n → ao = some ⟨b, off, none⟩ → b < W.heap.size ∧ ¬ Foot W p 0 b) (hm : (L ++ B).length ≤ 1000000) : Calls Tryz.prog 28 #[.pointer (some ⟨p, 0, none⟩), .slice ao n cap] W fun e W' => e = .returned (.tuple #[]) ∧ Hid (Pa base p w (L ++ B) W') := by
  obtain ⟨i0, hi, hz0, hz1, hz2⟩ := info_parts Tryz.info5
  obtain ⟨g1, g2, g3, g4, b, off, g5, g6, g7⟩ := hS
  rw [List.length_append] at hm
  have H0 : Hid (Pa base p W (L ++ B.take 0) W) := by show Pa _ _ _ _ _; rw [List.take_zero, List.append_nil]; exact Pa.start h.k
  have HFI : Hid (∀ V, Pa base p W (L ++ B.take n) V → Pa base p w (L ++ B) V) := fun V hv => by
    rw [List.take_of_length_le (by omega)] at hv
    exact h.trans hv
  have HA : Hid (∀ k, k < n → ao = some ⟨b, off, none⟩) := fun k hk => g5 (by omega)
  have HLB := hide g1
  have HB2 := hide g4
  obtain ⟨_, -, hoL, -⟩ := h.k.wr
  have HL2 := hide hoL.2.1
  clear hoL
  have HC : Hid (∀ V L', Pa base p W L' V → ∀ k, k < n → V.cell? ⟨b, off + k, none⟩ = some (.int .u8 ((B.getD k 0 : Nat) : Int)) ∧ b < V.heap.size) := fun V L' hv k hk => by
    have q := hf b off (by omega) (g5 (by omega))
    have e := hv.t.keep b q.1 q.2
    have := hv.t.size
    refine ⟨?_, by omega⟩
    have g := g7 k hk
    unfold World.cell? at g ⊢
    rw [e]
    exact g
  have hn : n = B.length := g1
  have hLn : L.length + n ≤ 1000000 := by omega
  clear h hf g1 g4 g5 g6 g7 hm hn
  go_enter Tryz.func28, Tryz.ntmps28
  go_wp2
  go_loopw [4] (fun i wr => ∃ k : Nat, k ≤ n ∧ i = .int .i64 k ∧ Hid (Pa base p W (L ++ B.take k) wr)) (fun i _ => n - (intOf i).toNat)
  case atStart => exact ⟨0, by omega, rfl, H0.out⟩
  case round =>
    obtain ⟨k, hk, rfl, HS⟩ := hrel
    clear H0
    by_cases hlt : k < n
    · obtain rfl := HA.out k hlt
      obtain ⟨c0, hbw⟩ := HC.out _ _ HS.out k hlt
      obtain ⟨vv, hb, hO, hne⟩ := HS.out.k.wr
      have p0 := block_cell hb 0
      simp at p0
      have hpw := block_lt hb
      have hx : B[k]? = some (B.getD k 0) := by
        have h1 : k < B.length := by have := HLB.out; omega
        rw [List.getElem?_eq_getElem h1, List.getD_eq_getElem?_getD, List.getElem?_eq_getElem h1]
        rfl
      have hc : B.getD k 0 < 256 := HB2.out _ (List.mem_of_getElem? hx)
      generalize hcc : B.getD k 0 = c at *
      have HLN : Hid ((L ++ B.take k).length = L.length + k) := by show _ = _; rw [List.length_append, List.length_take]; have := HLB.out; omega
      have HOW : Hid (∀ o, (wr.alloc o).drew.ownsRow base 5 1 vv (L.length + k) (vals (L ++ B.take k))) := fun o => by
        have q := hO.1
        rw [HLN.out] at q
        exact row_quietT (row_quietT q (World.grownBy_alloc wr o none)) (drew_grownK _)
      have HNX : Hid (∀ (v' : Value) (w2 : World) (o2 : Obj), w2.ownsRow base 5 1 v' (L.length + k + 1) (vals (L ++ B.take k) ++ [.int .u8 (c : Int)]) → Ext (wr.alloc o2).drew w2 vv v' → Pa base p W (L ++ B.take (k + 1)) (w2.setCell ⟨p, 0, none⟩ v') ∧ w2.cell? ⟨p, 0, none⟩ = some vv ∧ w2.frozen? ⟨p, 0, none⟩ = false ∧ p < w2.heap.size) := fun v' w2 o2 ho he => by
        have hE : Ext wr w2 vv v' := Ext.trans (v := vv) ⟨grown_any (grown_trans (World.grownBy_alloc wr o2 none) (drew_grownK _)), fun g hg => .inl hg⟩ he
        rw [vals_snoc B k c hx L] at ho
        have hlen : (L ++ B.take (k + 1)).length = L.length + k + 1 := by rw [List.length_append, List.length_take]; have := HLB.out; omega
        have hO' : Owns base w2 v' (L ++ B.take (k + 1)) := by
          refine ⟨by rw [hlen]; exact ho, fun x hx => ?_, by omega⟩
          rcases List.mem_append.1 hx with h | h
          · exact HL2.out x h
          · exact HB2.out x (List.mem_of_mem_take h)
        obtain ⟨r1, r2⟩ := pe_after hb hne HS.out.k.bs HS.out.k.pb hE hO'
        exact ⟨HS.out.trans r1, r2⟩
      have HSW : Hid (base ≤ wr.heap.size) := HS.out.k.bs
      clear hb hO hne hx hcc HS HC
      go_wp2_with fail
      go_region_law (first
        | (refine step_append_x rfl (.tmp 15) (.tmp 20) 36 rfl base 5 i0 _ 1 1 Tryz.underlying36 hi hz0 hz1 hz2 rfl (by decide) vv (L.length + k) (vals (L ++ B.take k)) (by simp [Act.eval]) (HOW.out _) ⟨wr.heap.size, 0, none⟩ 1 1 [.int .u8 (c : Int)] (by simp [Act.eval]) rfl (cells_newD _ _ _) (by simp [Value.oneCell']) (by unfold maxLen; omega) (by omega) (Nat.le_trans HSW.out (by simp)) ?_; intro v' w2 ho he; obtain ⟨g', cap', rfl⟩ := ownsRow_succ ho; have hnx := HNX.out _ _ _ ho he; have NX := hide hnx.1; obtain ⟨-, y1, y2, y3⟩ := hnx; clear ho he))
      all_goals clear c0 p0
      all_goals go_wp2
      all_goals go_roundw
      all_goals first
        | (case rel => exact ⟨k + 1, by omega, by go_num, NX.out⟩)
        | (case measure => simp [intOf]; omega)
        | skip
    · obtain rfl : k = n := by omega
      go_wp2
      go_end0
      exact ⟨rfl, HFI.out _ HS.out⟩
end Go.Proofs.YtiijbboigebhcaaGreatDoor
namespace Go.Proofs.YtiijbboigebhcaaGreatDoor
open Go.RowKit Crc

theorem penBytes_own {base p : Nat} {w W w1 : World} {L B : List Nat} {v : Value} (h : Pa base p w L W) (ho : Owns W.heap.size w1 v B) (hb : Below W.heap.size W w1) (hm : (L ++ B).length ≤ 1000000) : ∃ ao n cap, v = .slice ao n cap ∧ Hid (Calls Tryz.prog 28 #[.pointer (some ⟨p, 0, none⟩), .slice ao n cap] w1 fun e W' => e = .returned (.tuple #[]) ∧ Hid (Pa base p w (L ++ B) W')) := by
  obtain ⟨ao, cap, rfl, hs, -⟩ := ho.form
  refine ⟨ao, _, cap, rfl, penBytes_any (h.quiet hb) ao B hs (fun b off h0 e => ?_) hm⟩
  have q := ho.1.lt b (by rw [e]; rfl)
  refine ⟨q.2, fun hf => ?_⟩
  have := (h.k.foot ((Foot.old hb h.k.lt).1 hf)).2
  omega
theorem Shows.tch {p blim n cap : Nat} {W V : World} {ao : Option Addr} {B : List Nat} (h : Shows blim W ao n cap B) (hf : ∀ b off, 0 < n → ao = some ⟨b, off, none⟩ → b < W.heap.size ∧ ¬ Foot W p 0 b) (ht : Tch 0 W V p) : Shows blim V ao n cap B ∧ ∀ b off, 0 < n → ao = some ⟨b, off, none⟩ → b < V.heap.size ∧ ¬ Foot V p 0 b := by
  obtain ⟨h1, h2, h3, h4, b, off, h5, h6, h7⟩ := h
  refine ⟨⟨h1, h2, h3, h4, b, off, h5, h6, fun i hi => ?_⟩, fun b' off' h0 e => ?_⟩
  · have q := hf b off (by omega) (h5 (by omega))
    have e := ht.keep b q.1 q.2
    have g := h7 i hi
    unfold World.cell? at g ⊢
    rw [e]
    exact g
  · have q := hf b' off' h0 e
    have := ht.size
    refine ⟨by omega, fun hf' => ?_⟩
    rcases ht.foot b' hf' with h | h
    · exact q.2 h
    · omega
theorem eNs_snoc (Ls : List Nat) (k v : Nat) (h : Ls[k]? = some v) : eNs (Ls.take k) ++ numB v = eNs (Ls.take (k + 1)) := by
  rw [List.take_add_one, h]
  simp [eNs]
theorem flatMap_take_le {α : Type} (e : α → List Nat) : ∀ (L : List α) (k : Nat), ((L.take k).flatMap e).length ≤ (L.flatMap e).length
  | [], k => by simp
  | x :: r, 0 => by simp
  | x :: r, k + 1 => by
    have := flatMap_take_le e r k
    simp only [List.take_succ_cons, List.flatMap_cons, List.length_append]
    omega
set_option maxRecDepth 10000 in
set_option maxHeartbeats 800000 in
theorem penNums_any {base p g n : Nat} {w W : World} {L : List Nat} (h : Pa base p w L W) (Ls : List Nat) (hL : ∀ v ∈ Ls, v < u64) (hn : Ls.length = n) (hn2 : n ≤ 1000) (hg : W.heap[g]? = some (.cells (nvs Ls).toArray 22 (0, 0))) (hf : ¬ Foot W p 0 g) (hm : (L ++ eNs Ls).length ≤ 1000000) : Calls Tryz.prog 29 #[.pointer (some ⟨p, 0, none⟩), .slice (some ⟨g, 0, none⟩) n n] W fun e W' => e = .returned (.tuple #[]) ∧ Hid (Pa base p w (L ++ eNs Ls) W') := by
  have H0 : Hid (Pa base p W (L ++ eNs (Ls.take 0)) W) := by
    show Pa _ _ _ _ _
    have e : L ++ eNs (Ls.take 0) = L := by simp [eNs]
    rw [e]
    exact Pa.start h.k
  have HLV := hide hL
  have HLN := hide hn
  have HG : Hid (∀ L' V, Pa base p W L' V → V.heap[g]? = some (.cells (nvs Ls).toArray 22 (0, 0))) := fun L' V hv => (hv.t.keep g (block_lt hg) hf).trans hg
  have HFI : Hid (∀ V, Pa base p W (L ++ eNs (Ls.take n)) V → Pa base p w (L ++ eNs Ls) V) := fun V hv => by
    rw [List.take_of_length_le (by omega)] at hv
    exact h.trans hv
  have HM : Hid (∀ k, (L ++ eNs (Ls.take k)).length ≤ 1000000) := fun k => by
    have := flatMap_take_le numB Ls k
    simp only [List.length_append, eNs] at hm ⊢
    omega
  clear h hg hf hL hn hm
  go_enter Tryz.func29, Tryz.ntmps29
  go_wp2
  go_loopw [4] (fun i wr => ∃ k : Nat, k ≤ n ∧ i = .int .i64 k ∧ Hid (Pa base p W (L ++ eNs (Ls.take k)) wr)) (fun i _ => n - (intOf i).toNat)
  case atStart => exact ⟨0, by omega, rfl, H0.out⟩
  case round =>
    obtain ⟨k, hk, rfl, HS⟩ := hrel
    clear H0
    by_cases hlt : k < n
    · obtain ⟨v, hv⟩ : ∃ v, Ls[k]? = some v := ⟨_, List.getElem?_eq_getElem (by rw [HLN.out]; exact hlt)⟩
      have q := HG.out _ _ HS.out
      have c0 : wr.cell? ⟨g, k, none⟩ = some (.int .u64 (v : Int)) := by rw [block_cell q]; simpa using nvs_at hv
      have hgw := block_lt q
      have HN := hide (refNumB v _ wr rfl (HLV.out v (List.mem_of_getElem? hv)))
      have HB : Hid (∀ w1 v', Owns wr.heap.size w1 v' (numB v) → Below wr.heap.size wr w1 → ∃ ao m cap, v' = .slice ao m cap ∧ Hid (Calls Tryz.prog 28 #[.pointer (some ⟨p, 0, none⟩), .slice ao m cap] w1 fun e W' => e = .returned (.tuple #[]) ∧ Hid (Pa base p W (L ++ eNs (Ls.take (k + 1))) W'))) := fun w1 v' ho hb => by
        have e : L ++ eNs (Ls.take k) ++ numB v = L ++ eNs (Ls.take (k + 1)) := by rw [List.append_assoc, eNs_snoc Ls k v hv]
        have r := penBytes_own HS.out ho hb (by rw [e]; exact HM.out _)
        rw [e] at r
        exact r
      clear q hv
      go_wp2_with fail
      refine HN.out.mono ?_
      rintro e w1 ⟨v', rfl, ho, hb⟩
      obtain ⟨ao, m, cap, rfl, BC⟩ := HB.out _ _ ho hb
      clear ho hb c0 hgw HN HB
      go_wp2_with fail
      refine BC.out.mono ?_
      rintro e w2 ⟨rfl, G⟩
      go_wp2
      go_roundw
      case rel => exact ⟨k + 1, by omega, by go_num, G.out⟩
      case measure => simp [intOf]; omega
    · obtain rfl : k = n := by omega
      go_wp2
      go_end0
      exact ⟨rfl, HFI.out _ HS.out⟩
theorem pnums_new {base p g n : Nat} {w W : World} {L : List Nat} (h : Pa base p w L W) (Ls : List Nat) (hL : ∀ v ∈ Ls, v < u64) (hn : Ls.length = n) (hn2 : n ≤ 1000) {o : Array Value} (ho : o = (nvs Ls).toArray) (hg : g = W.heap.size) (hm : (L ++ eNs Ls).length ≤ 1000000) : Calls Tryz.prog 29 #[.pointer (some ⟨p, 0, none⟩), .slice (some ⟨g, 0, none⟩) n n] (W.alloc (.cells o 22)) fun e W' => e = .returned (.tuple #[]) ∧ Hid (Pa base p w (L ++ eNs Ls) W') := by
  subst ho
  subst hg
  exact penNums_any (h.alloc _) Ls hL hn hn2 (alloc_atN _ _) (h.k.fresh _) hm
/-- Bytes that were just written down in a row. -/
theorem pbytes_new {base p g n : Nat} {w W : World} {L : List Nat} (h : Pa base p w L W) (B : List Nat) (hB : ∀ x ∈ B, x < 256) (hn : B.length = n) (hn2 : n ≤ 1000) {o : Array Value} (ho : o = (vals B).toArray) (hg : g = W.heap.size) (hm : (L ++ B).length ≤ 1000000) : Calls Tryz.prog 28 #[.pointer (some ⟨p, 0, none⟩), .slice (some ⟨g, 0, none⟩) n n] (W.alloc (.cells o 5)) fun e W' => e = .returned (.tuple #[]) ∧ Hid (Pa base p w (L ++ B) W') := by
  subst ho
  subst hg
  refine penBytes_any (blim := W.heap.size + 1) (h.alloc _) _ B ⟨hn.symm, Nat.le_refl _, by omega, hB, W.heap.size, 0, fun _ => rfl, fun _ => by omega, fun i hi => ?_⟩ (fun b off h0 e => ?_) hm
  · rw [block_cell (alloc_atN W _), Nat.zero_add]
    have hi' : i < B.length := by omega
    simp [vals, List.getD_eq_getElem?_getD, List.getElem?_eq_getElem hi']
  · cases e
    exact ⟨by simp, h.k.fresh _⟩
set_option maxRecDepth 10000 in
set_option maxHeartbeats 800000 in
theorem penBlob_any {base p blim n cap : Nat} {w W : World} {L : List Nat} (h : Pa base p w L W) (ao : Option Addr) (B : List Nat) (hS : Shows blim W ao n cap B) (hf : ∀ b off, 0 < n → ao = some ⟨b, off, none⟩ → b < W.heap.size ∧ ¬ Foot W p 0 b) (hm : (L ++ (numB n ++ B)).length ≤ 1000000) : Calls Tryz.prog 31 #[.pointer (some ⟨p, 0, none⟩), .slice ao n cap] W fun e W' => e = .returned (.tuple #[]) ∧ Hid (Pa base p w (L ++ (numB n ++ B)) W') := by
  have hn : n ≤ 1000000 := by have := hS.1; simp only [List.length_append] at hm; omega
  have e1 : eNs [n] = numB n := by simp [eNs]
  have N0 : Hid (Calls Tryz.prog 29 #[.pointer (some ⟨p, 0, none⟩), .slice (some ⟨W.heap.size, 0, none⟩) 1 1] (W.alloc (.cells #[.int .u64 (n : Int)] 22)) fun e W' => e = .returned (.tuple #[]) ∧ Hid (Pa base p W (L ++ numB n) W')) := by
    have q := pnums_new (Pa.start h.k) [n] (by intro v hv; simp at hv; subst hv; unfold u64; omega) rfl (by simp) (o := #[.int .u64 (n : Int)]) rfl rfl (by rw [e1]; simp only [List.length_append] at hm ⊢; omega)
    rw [e1] at q
    exact q
  have N1 : Hid (∀ V, Pa base p W (L ++ numB n) V → Calls Tryz.prog 28 #[.pointer (some ⟨p, 0, none⟩), .slice ao n cap] V fun e W' => e = .returned (.tuple #[]) ∧ Hid (Pa base p w (L ++ (numB n ++ B)) W')) := fun V hv => by
    obtain ⟨s1, s2⟩ := hS.tch hf hv.t
    have q := penBytes_any hv ao B s1 s2 (by rw [List.append_assoc]; exact hm)
    rw [List.append_assoc] at q
    exact q.mono fun _ _ ⟨e, G⟩ => ⟨e, h.trans G.out⟩
  have hcv : IntKind.u64.wrap (n : Int) = (n : Int) := by simp [IntKind.wrap, IntKind.bits, IntKind.signed]; omega
  clear h hS hf hm e1
  go_enter Tryz.func31, Tryz.ntmps31
  go_wp2_with fail
  refine N0.out.mono ?_
  rintro e w1 ⟨rfl, G⟩
  go_wp2_with fail
  refine (N1.out _ G.out).mono ?_
  rintro e w2 ⟨rfl, G2⟩
  go_wp2
  go_end0
  exact ⟨rfl, G2.out⟩
end Go.Proofs.YtiijbboigebhcaaGreatDoor
