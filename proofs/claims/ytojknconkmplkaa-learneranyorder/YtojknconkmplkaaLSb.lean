import Derived.Test.YtojknconkmplkaaLSa
import Derived.Test.YtojknconkmplkaaMI
import Derived.Test.YtojknconkmplkaaMK
import Derived.Test.YtojknconkmplkaaBAy
namespace Go.Proofs.Ytojknconkmplkaa
open Go.RowKit Crc

theorem step_append_atL {P : Program} {ops : Array Oper} {o : Oper} {a : Act} {w : World} {K : Act → World → Prop} {Q : Exit → Act → World → Prop} {E : Prop}
    (hgd : o.guard = none) (s x : Operand) (t : TypeId) (ho : o.op = .call { callee := .builtin .append, args := #[s, x], argTypes := #[t, t] })
    (base : Nat) (e : TypeId) (i : TypeInfo) (z : Value) (size bytes : Nat) (ht : P.underlying t = some (.slice e)) (hi : P.info? e = some i) (hz : i.zero = some z)
    (hsize : i.size = size) (hby : i.bytes = bytes) (hzs : z.cells.size = size) (hsz : 0 < size)
    (v : Value) (n : Nat) (xs : List Value) (hs : a.eval s = v) (hown : w.ownsRow base e size v n xs)
    (ad : Addr) (m c : Nat) (news : List Value) (hx : a.eval x = .slice (some ad) m c) (hl : news.length = m * size) (hnews : ∀ j u, news[j]? = some u → w.cell? (ad.add j) = some u) (h1 : ∀ u ∈ news, u.oneCell' = true)
    (h63 : n + m ≤ maxLen) (hbytes : (n + m) * bytes ≤ 140737488355328) (hbase : base ≤ w.heap.size)
    (h : ∀ v' w', w'.ownsRow base e size v' (n + m) (xs ++ news) → w.grownBy w' v.ownBlock → (v'.ownBlock = v.ownBlock ∨ v'.ownBlock = some w.heap.size) → K (a.put o.dst v') w') :
    if Region.wanted o (yielded ops a.tmps) = true then Oper.wp P o a w K Q else E := by
  have hw : Region.wanted o (yielded ops a.tmps) = true := by simp [Region.wanted, hgd]
  rw [if_pos hw]
  obtain ⟨v', w', hr, h2, h3, _, h5⟩ := run_append_own_at (P := P) w base t o.type e i z size bytes ht hi hz hsize hby hzs hsz v n xs hown ad m c news hl hnews h1 h63 hbytes hbase
  unfold Oper.wp execOp
  simp only [ho, resolve, invoke, builtin, Sem.run_bind, Sem.run_pure, Result.andThen_ok, List.map_toArray, List.map_cons, List.map_nil, hs, hx, hr]
  exact h v' w' h2 h3 h5
theorem cell_new7v (W : World) (cs : Array Value) (y : TypeId) : ∀ (j : Nat) (u : Value), cs.toList[j]? = some u → (W.alloc (.cells cs y)).cell? (Addr.add ⟨W.heap.size, 0, none⟩ j) = some u := by
  intro j u hj
  rw [Addr.add_mid, Nat.zero_add, block_cell (alloc_atK W (.cells cs y)) j]
  simpa using hj
/-- What State tells. -/
def StOut (c : Cf) (u : Nat → Jv) (ao : Option Addr) (N : Nat) (W w' : World) : Prop := ∃ (ks : List Nat) (ts : List Ty) (b : Nat), ks.Pairwise (· < ·) ∧ (∀ x, x < 18446744073709551616 → (x ∈ ks ↔ 0 < (u x).fr)) ∧ (∀ x ∈ ks, x < 18446744073709551616) ∧ ks.length = N ∧ ts.length = N ∧ (∀ (i : Nat) (t : Ty) (x : Nat), ts[i]? = some t → ks[i]? = some x → ToldT c u x t) ∧ (0 < N → ao = some ⟨b, 0, none⟩ ∧ b < w'.heap.size) ∧ (∀ (i : Nat) (t : Ty), ts[i]? = some t → (∀ (j : Nat) (v : Value), t.cells[j]? = some v → w'.cell? ⟨b, i * 7 + j, none⟩ = some v) ∧ BtOk w' t.st (.slice t.ro t.n t.rc) (u t.slot).rs) ∧ Below W.heap.size W w'
theorem Sl.fin {w : World} {c : Cf} {u : Nat → Jv} {ks : List Nat} {bs kb sb low : Nat} {N : Nat} {v : Value} {ts : List Ty} {wr : World} (h : Sl w c u ks bs kb sb low N v ts wr) (hsb : w.heap.size < sb ∧ sb < bs) (hN : ks.length = N) (h1 : ks.Pairwise (· < ·)) (h2 : ∀ x ∈ ks, x < 18446744073709551616) (h3 : ∀ x, x < 18446744073709551616 → (x ∈ ks ↔ 0 < (u x).fr)) :
    ∃ ao cap, v = .slice ao N cap ∧ ∀ u0 u1, StOut c u ao N w ((wr.setCell ⟨w.heap.size, 0, none⟩ u0).setCell ⟨w.heap.size, 1, none⟩ u1) := by
  have key : ∀ (u0 u1 : Value), (∀ q, q ≠ w.heap.size → q < wr.heap.size → ((wr.setCell ⟨w.heap.size, 0, none⟩ u0).setCell ⟨w.heap.size, 1, none⟩ u1).heap[q]? = wr.heap[q]?) ∧ ((wr.setCell ⟨w.heap.size, 0, none⟩ u0).setCell ⟨w.heap.size, 1, none⟩ u1).heap.size = wr.heap.size ∧ Below w.heap.size w ((wr.setCell ⟨w.heap.size, 0, none⟩ u0).setCell ⟨w.heap.size, 1, none⟩ u1) := fun u0 u1 => by
    have hg := grown_trans (grown_set wr w.heap.size 0 u0) (grown_set _ w.heap.size 1 u1)
    exact ⟨fun q hq hl => hg.block q hl (fun e => hq (Option.some.inj e)), by simp, (h.bel.setCell (p := ⟨w.heap.size, 0, none⟩) (Nat.le_refl _) _).setCell (p := ⟨w.heap.size, 1, none⟩) (Nat.le_refl _) _⟩
  have bts : ∀ (u0 u1 : Value) (i : Nat) (t : Ty), ts[i]? = some t → BtOk ((wr.setCell ⟨w.heap.size, 0, none⟩ u0).setCell ⟨w.heap.size, 1, none⟩ u1) t.st (.slice t.ro t.n t.rc) (u t.slot).rs := fun u0 u1 i t hi => by
    obtain ⟨lo, hi2, e1, _, e3, e4⟩ := h.bt i t hi
    obtain ⟨k1, k2, _⟩ := key u0 u1
    refine e4 _ (by omega) (fun q j u' hq1 hq2 hc => ?_)
    have := k1 q (by omega) (by omega)
    rw [← hc]
    simp only [World.cell?, this]
  rcases h.row.2 with ⟨rfl, h0⟩ | ⟨g, cap, cur, rfl, hbg, hb, hnc, _, _, htake⟩
  · have hts : ts = [] := List.eq_nil_of_length_eq_zero (by rw [h.len, h0])
    refine ⟨none, 0, by rw [h0], fun u0 u1 => ⟨ks, ts, 0, h1, h3, h2, hN, h.len, h.told, fun hp => by omega, fun i t hi => ?_, (key u0 u1).2.2⟩⟩
    rw [hts] at hi
    simp at hi
  · refine ⟨_, cap, rfl, fun u0 u1 => ⟨ks, ts, g, h1, h3, h2, hN, h.len, h.told, fun _ => ⟨rfl, ?_⟩, fun i t hi => ⟨fun j v hj => ?_, bts u0 u1 i t hi⟩, (key u0 u1).2.2⟩⟩
    · rw [(key u0 u1).2.1]; exact block_lt hb
    · have hb' := ((key u0 u1).1 g (by omega) (block_lt hb)).trans hb
      have hc := tcells_at ts i t hi j v hj
      rw [block_cell hb', ← htake] at *
      rw [← htake] at hc
      rw [List.getElem?_take] at hc
      split at hc
      · simpa using hc
      · cases hc
set_option maxRecDepth 10000 in
set_option maxHeartbeats 3200000 in
theorem stateL {W : World} {lb g mb n : Nat} {c : Cf} {low : Nat} {u : Nat → Jv} (hk : c.Ok) (h : LL W lb g mb n c low u) (hn : n ≤ 1000000) (h16 : ∀ x, 0 < (u x).fr → x < 16) :
    Calls Try.prog 10 #[.pointer (some ⟨lb, 0, none⟩)] W fun e w' => ∃ ao N cap, e = .returned (.agg #[.int .u64 (low : Nat), .slice ao N cap]) ∧ Hid (StOut c u ao N W w') := by
  obtain ⟨i0, hi0, hz0, hz1, hz2⟩ := info_parts infoTally
  obtain ⟨m, t1, t2, t3⟩ := h.tal
  obtain ⟨D0, hown, hD⟩ := id t1
  have HAS : Hid (∀ x, x < 18446744073709551616 → (Maps.has D0 (kU x) = true ↔ 0 < (u x).fr)) := fun x hx => by
    have e : (u x).fr = (m x).fr := by rw [← t3 x]; rfl
    rw [e]
    refine ⟨(hD x hx).2, fun hp => ?_⟩
    cases hh : Maps.has D0 (kU x) with
    | true => rfl
    | false =>
      have := (hD x hx).1
      rw [Maps.atKey_of_not_has hh] at this
      simp only [DataW.held.injEq, Value.agg.injEq, Jt.cells, Jt.zero] at this
      simp at this
      omega
  have HXL : ∀ xs, KeysU D0 xs → xs.length < 256 := fun xs hx => by
    have := nodup_few 16 xs hx.1 (fun x hm => h16 x ((HAS.out x (hx.2.1 x hm)).1 ((hx.2.2 x (hx.2.1 x hm)).1 hm)))
    omega
  obtain ⟨W1, hW1⟩ : ∃ W1, W.alloc (.cells #[.int .u64 0, .slice none 0 0] 55) = W1 := ⟨_, rfl⟩
  have B1 : Hid (Below W.heap.size W W1) := by rw [← hW1]; exact (Below.refl _ W).alloc (Nat.le_refl _) _
  have S1 : Hid (W1.heap.size = W.heap.size + 1) := by rw [← hW1]; show _ = _; simp
  have R1 : Hid (W1.heap[W.heap.size]? = some (.cells #[.int .u64 0, .slice none 0 0] 55 (0, 0))) := by rw [← hW1]; exact alloc_atK _ _
  have HM := hide (madeL (h.kept B1.out))
  obtain ⟨W2, hW2⟩ : ∃ W2, W1.alloc (.cells #[.int .u64 (low : Nat), .slice none 0 0] 55) = W2 := ⟨_, rfl⟩
  have B2 : Hid (Below W1.heap.size W1 W2) := by rw [← hW2]; exact (Below.refl _ _).alloc (Nat.le_refl _) _
  have S2 : Hid (W2.heap.size = W1.heap.size + 1) := by rw [← hW2]; show _ = _; simp
  have R2 : Hid (W2.heap[W1.heap.size]? = some (.cells #[.int .u64 (low : Nat), .slice none 0 0] 55 (0, 0))) := by rw [← hW2]; exact alloc_atK _ _
  have B02 : Hid (Below W.heap.size W W2) := B1.out.trans (B2.out.mono B1.out.size)
  have HKY := hide (keysU_any (some mb) W2)
  obtain ⟨W3, hW3⟩ : ∃ W3, W2.alloc (.cells #[.map (some mb)] 73) = W3 := ⟨_, rfl⟩
  rw [hW3] at HKY
  have B3 : Hid (Below W2.heap.size W2 W3) := by rw [← hW3]; exact (Below.refl _ _).alloc (Nat.le_refl _) _
  have R3 : W3.heap[W2.heap.size]? = some (.cells #[.map (some mb)] 73 (0, 0)) := by rw [← hW3]; exact alloc_atK _ _
  have B03 : Hid (Below W.heap.size W W3) := B02.out.trans (B3.out.mono B02.out.size)
  have HSK := hide (sortedKeys_any W2.heap.size mb n D0 HXL (Nat.le_trans hown.size_le hn) W3 (block_lt R3) (block_cell R3 0) (hown.kept (row := none) (below_none B03.out) (by simp)))
  have KL : Hid (∀ V, Below W.heap.size W V → LL V lb g mb n c low u) := fun V hb => h.kept hb
  have KC : Hid (∀ V, Below W.heap.size W V → V.cell? ⟨lb, 1, none⟩ = some (.int .u64 (low : Nat)) ∧ V.cell? ⟨lb, 2, none⟩ = some (.map (some mb)) ∧ lb < V.heap.size) := fun V hb => ⟨(h.kept hb).c 1, (h.kept hb).c 2, block_lt (h.kept hb).blk⟩
  have KLK : Hid (∀ (V : World) (x : Nat), x < 18446744073709551616 → Below W.heap.size W V → (Instr.lookup 73 (.map (some mb)) (.int .u64 (x : Int)) false).run Try.prog V = .ok (.agg (m x).cells) V) := fun V x hx hb => (t1.kept (below_none hb) (by simp)).look hx
  have KOK : Hid (∀ (V : World) (x : Nat), Below W.heap.size W V → (m x).Ok V.heap.size V) := fun V x hb => ((t2 x).below hb).wide hb.size
  have KAB := hide t3
  have HK := hide hk
  obtain ⟨q1, q2, ql⟩ := KC.out W1 B1.out
  have HW1 := hide hW1
  have HW2 := hide hW2
  clear hW1 hW2 hW3 t1 t2 t3 h hown hD R3 HXL h16
  go_enter Try.func10, Try.ntmps10
  go_upto_region 1 with fail
  rw [HW1.out]
  clear HW1
  go_upto_region 3 with (go_at_call 16; refine HM.out.mono ?_; rintro e V' ⟨rfl, hVV⟩; have hVW := hVV.symm; clear hVV; subst hVW)
  clear HM
  go_upto_region 4 with fail
  rw [HW2.out]
  clear HW2 q1 q2 ql
  obtain ⟨q1, q2, ql⟩ := KC.out W2 B02.out
  go_wp2_with fail
  refine HKY.out.mono ?_
  rintro e V' ⟨rfl, hVV⟩
  have hVW := hVV.symm
  clear hVV
  subst hVW
  clear HKY q1 q2 ql
  go_wp2_with fail
  refine HSK.out.mono ?_
  rintro e W4 ⟨ao, N, cap, rfl, G4⟩
  obtain ⟨ks, kb, hks, hN, hN256, hao, hkc, hb4⟩ := G4.out
  have B4 : Hid (Below W3.heap.size W3 W4) := hb4
  have B04 : Hid (Below W.heap.size W W4) := B03.out.trans (hb4.mono B03.out.size)
  have HKS := hide hks
  have HKL := hide hN
  have HAO := hide hao
  have HKB : Hid (0 < ks.length → kb < W4.heap.size ∧ kb ≠ W1.heap.size ∧ W.heap.size ≤ kb) := fun hp => by
    have h3 := (hao (by omega)).2
    have h4 := B3.out.size
    have h5 := S2.out
    have h6 := S1.out
    exact ⟨h3.1, by omega, by omega⟩
  have HSB : Hid (W.heap.size < W1.heap.size ∧ W1.heap.size < W4.heap.size) := by
    have h4 := B3.out.size
    have h5 := S2.out
    have h6 := S1.out
    have h7 := hb4.size
    exact ⟨by omega, by omega⟩
  have HL0 : Hid (Sl W c u ks W4.heap.size kb W1.heap.size low 0 (.slice none 0 0) [] W4) := by
    have b24 : Below W2.heap.size W2 W4 := B3.out.trans (hb4.mono B3.out.size)
    have b14 : Below W1.heap.size W1 W4 := B2.out.trans (b24.mono B2.out.size)
    exact ⟨B04.out, (b24.block _ (block_lt R2.out)).trans R2.out, (b14.block _ (block_lt R1.out)).trans R1.out, World.ownsRow_nil _ _ _ _, rfl, fun i t x hi => by simp at hi, fun i t hi => by simp at hi, hkc, Nat.le_refl _⟩
  clear G4 hks hN hao hkc hb4 HSK B1 B2 B3 B02 B03 B4 R1 R2 S1 S2
  generalize W1.heap.size = sb at *
  generalize W4.heap.size = bs at *
  go_wp2
  go_loopw [23] (fun i wr => ∃ k : Nat, k ≤ N ∧ i = .int .i64 k ∧ ∃ v ts, Hid (Sl W c u ks bs kb sb low k v ts wr)) (fun i _ => N - (intOf i).toNat)
  case atStart => exact ⟨0, by omega, rfl, _, _, HL0⟩
  case round =>
    obtain ⟨k, hkN, rfl, v, ts, HT⟩ := hrel
    by_cases hlt : k < N
    · obtain ⟨x, hx⟩ : ∃ x, ks[k]? = some x := ⟨_, List.getElem?_eq_getElem (by have := HKL.out; omega)⟩
      obtain rfl : ao = some ⟨kb, 0, none⟩ := (HAO.out (by omega)).1
      have HX := hide hx
      have hx64 : x < 18446744073709551616 := HKS.out.2.1 x (List.mem_of_getElem? hx)
      have hlk := KLK.out wr x hx64 HT.out.bel
      have hok := KOK.out wr x HT.out.bel
      have hab := KAB.out x
      obtain ⟨q1, q2, ql⟩ := KC.out wr HT.out.bel
      have c0 : wr.cell? ⟨kb, k, none⟩ = some (.int .u64 (x : Nat)) := HT.out.keys k x hx
      have hkl : kb < wr.heap.size := by have := (HKB.out (by have := HKL.out; omega)).1; have := HT.out.sz; omega
      unfold Jt.cells at hlk
      generalize m x = tl at hlk hok hab
      obtain ⟨num, node, fr, st, ro, nn, rc, rs, b, off⟩ := tl
      simp only at hlk
      have HOK := hide hok
      have HAB : Hid (u x = ⟨num, node, fr, st, rs.map Rq.val⟩) := hab.symm
      clear hok hab hx
      obtain ⟨w1, hw1⟩ : ∃ w1, wr.alloc (.cells #[.int .u64 (num : Nat), .int .i64 node, .int .u32 (fr : Nat), .int .u64 (st : Nat), .slice ro nn rc] 80) = w1 := ⟨_, rfl⟩
      have b1 : Hid (Below wr.heap.size wr w1) := by rw [← hw1]; exact (Below.refl _ _).alloc (Nat.le_refl _) _
      have Q1 : Hid (w1.heap[wr.heap.size]? = some (.cells #[.int .u64 (num : Nat), .int .i64 node, .int .u32 (fr : Nat), .int .u64 (st : Nat), .slice ro nn rc] 80 (0, 0))) := by rw [← hw1]; exact alloc_atK _ _
      have HW1 := hide hw1
      clear hw1
      have KT : Hid (∀ V, Hid (Below w1.heap.size w1 V) → Calls Try.prog 20 #[.agg #[.int .u64 (st : Nat), .slice ro nn rc]] V fun e V' => ∃ a2 m2 c2, e = .returned (.agg #[.int .u64 (st : Nat), .slice a2 m2 c2]) ∧ Hid (BtOn V.heap.size V'.heap.size V' st (.slice a2 m2 c2) (rs.map Rq.val) ∧ Below V.heap.size V V')) := fun V hb => by
        have hbV : Below wr.heap.size wr V := b1.out.trans (hb.out.mono b1.out.size)
        exact twin_on st HOK.out.hs nn rc HOK.out.hl ((HOK.out.hR.below hbV).wide hbV.size)
      have KDn : Hid (∀ V, Hid (Below w1.heap.size w1 V) → Calls Try.prog 18 #[.pointer (some ⟨lb, 0, none⟩), .agg #[.int .u64 (num : Nat), .int .i64 node, .int .u32 (fr : Nat), .int .u64 (st : Nat), .slice ro nn rc]] V fun e V' => e = .returned (.bool (c.maj fr)) ∧ Hid (Below V.heap.size V V')) := fun V hb => by
        have hbV : Below W.heap.size W V := HT.out.bel.trans ((b1.out.trans (hb.out.mono b1.out.size)).mono HT.out.bel.size)
        exact doneL HK.out (KL.out V hbV) ⟨num, node, fr, st, ro, nn, rc, rs, b, off⟩ HOK.out.hf
      have KB : Hid (∀ V, Hid (Below w1.heap.size w1 V) → V.heap[sb]? = some (.cells #[.int .u64 (low : Nat), v] 55 (0, 0)) ∧ V.heap[wr.heap.size]? = some (.cells #[.int .u64 (num : Nat), .int .i64 node, .int .u32 (fr : Nat), .int .u64 (st : Nat), .slice ro nn rc] 80 (0, 0))) := fun V hb => by
        have hbV : Below wr.heap.size wr V := b1.out.trans (hb.out.mono b1.out.size)
        exact ⟨(hbV.block _ (block_lt HT.out.box)).trans HT.out.box, (hb.out.block _ (block_lt Q1.out)).trans Q1.out⟩
      have KTr : Hid (∀ V V', Hid (Below w1.heap.size w1 V) → Below V.heap.size V V' → Hid (Below w1.heap.size w1 V')) := fun V V' h h' => h.out.trans (h'.mono h.out.size)
      have HD0 : Hid (Below w1.heap.size w1 w1.drew) := (Below.refl _ w1).drew
      have HNX : Hid (∀ (V w3 w5 : World) (a2 : Option Addr) (m2 c2 : Nat), Hid (Below w1.heap.size w1 V) → BtOn V.heap.size w3.heap.size w3 st (.slice a2 m2 c2) (rs.map Rq.val) → Below V.heap.size V w3 → Below w3.heap.size w3 w5 →
          (w5.alloc (.cells #[.int .u64 (x : Nat), .int .u64 (num : Nat), .int .i64 node, .int .u32 (fr : Nat), .int .u64 (st : Nat), .slice a2 m2 c2, .bool (c.maj fr)] 87)).ownsRow bs 87 7 v k (tcells ts) ∧ bs ≤ (w5.alloc (.cells #[.int .u64 (x : Nat), .int .u64 (num : Nat), .int .i64 node, .int .u32 (fr : Nat), .int .u64 (st : Nat), .slice a2 m2 c2, .bool (c.maj fr)] 87)).heap.size ∧ ∀ v' w6, w6.ownsRow bs 87 7 v' (k + 1) (tcells ts ++ [.int .u64 (x : Nat), .int .u64 (num : Nat), .int .i64 node, .int .u32 (fr : Nat), .int .u64 (st : Nat), .slice a2 m2 c2, .bool (c.maj fr)]) → (w5.alloc (.cells #[.int .u64 (x : Nat), .int .u64 (num : Nat), .int .i64 node, .int .u32 (fr : Nat), .int .u64 (st : Nat), .slice a2 m2 c2, .bool (c.maj fr)] 87)).grownBy w6 v.ownBlock → (v'.ownBlock = v.ownBlock ∨ v'.ownBlock = some (w5.alloc (.cells #[.int .u64 (x : Nat), .int .u64 (num : Nat), .int .i64 node, .int .u32 (fr : Nat), .int .u64 (st : Nat), .slice a2 m2 c2, .bool (c.maj fr)] 87)).heap.size) →
            ∃ ap cap', v' = .slice ap (k + 1) cap' ∧ w6.heap[wr.heap.size]? = w5.heap[wr.heap.size]? ∧ (w6.cell? ⟨sb, 1, none⟩ = some v ∧ w6.frozen? ⟨sb, 1, none⟩ = false ∧ sb < w6.heap.size) ∧ ∃ ts', Hid (Sl W c u ks bs kb sb low (k + 1) (.slice ap (k + 1) cap') ts' (w6.setCell ⟨sb, 1, none⟩ (.slice ap (k + 1) cap')))) := fun V w3 w5 a2 m2 c2 hV hbt b3 b5 => by
        have hbV : Below wr.heap.size wr V := b1.out.trans (hV.out.mono b1.out.size)
        have bw5 : Below wr.heap.size wr w5 := hbV.trans ((b3.trans (b5.mono b3.size)).mono hbV.size)
        refine ⟨row_quiet (row_quiet HT.out.row (below_none bw5)) (World.grownBy_alloc _ _ none), by have := HT.out.sz; have := bw5.size; simp; omega, fun v' w6 ho hg hv => ?_⟩
        have e : u x = ⟨num, node, fr, st, rs.map Rq.val⟩ := HAB.out
        obtain ⟨r1, r2⟩ := Sl.next (t := ⟨x, num, node, fr, st, a2, m2, c2, c.maj fr⟩) HT.out HX.out ⟨rfl, by rw [e], by rw [e], by rw [e], by rw [e], by rw [e]⟩ HSB.out HKB.out hbV b3 (by show BtOn _ _ _ _ _ (u x).rs; rw [e]; exact hbt) b5 ho hg hv
        obtain ⟨g', cap', rfl⟩ := ownsRow_succ ho
        have hk6 : w6.heap[wr.heap.size]? = w5.heap[wr.heap.size]? := by
          have s1 := b1.out.size
          have s2 := block_lt Q1.out
          have s3 := hV.out.size
          have s4 := b3.size
          have s5 := b5.size
          exact (hg.block _ (by simp; omega) (fun e => by have := (row_lt HT.out.row e.symm).2; omega)).trans (Below.heap_alloc _ _ _ (by omega))
        exact ⟨_, _, rfl, hk6, r1, _, r2⟩
      have hl' : Hid (k + 1 ≤ maxLen ∧ (k + 1) * 72 ≤ 140737488355328) := ⟨by unfold maxLen; omega, by omega⟩
      obtain ⟨qb, qt⟩ := KB.out w1 (Below.refl _ _)
      clear HOK HAB HX Q1 KB
      generalize c.maj fr = dn at *
      generalize (x : Int) = xi at *
      generalize (num : Int) = nu at *
      generalize (fr : Int) = fi at *
      have KB2 : Hid (∀ V, Hid (Below w1.heap.size w1 V) → V.cell? ⟨sb, 1, none⟩ = some v ∧ sb < V.heap.size ∧ V.cell? ⟨wr.heap.size, 0, none⟩ = some (.int .u64 nu) ∧ V.cell? ⟨wr.heap.size, 1, none⟩ = some (.int .i64 node) ∧ V.cell? ⟨wr.heap.size, 2, none⟩ = some (.int .u32 fi) ∧ V.cell? ⟨wr.heap.size, 3, none⟩ = some (.int .u64 (st : Nat)) ∧ V.cell? ⟨wr.heap.size, 4, none⟩ = some (.slice ro nn rc) ∧ wr.heap.size < V.heap.size) := fun V hb => by
        have k1 := (hb.out.block _ (block_lt qb)).trans qb
        have k2 := (hb.out.block _ (block_lt qt)).trans qt
        exact ⟨block_cell k1 1, block_lt k1, block_cell k2 0, block_cell k2 1, block_cell k2 2, block_cell k2 3, block_cell k2 4, block_lt k2⟩
      clear qb qt
      generalize (st : Int) = si at *
      go_upto_region 8 with fail
      rw [HW1.out]
      clear HW1 hlk q1 q2 c0
      obtain ⟨y1, yl, z0, z1, z2, z3, z4, zl⟩ := KB2.out w1 (Below.refl _ _)
      have hne : ¬ wr.heap.size = sb := by have := block_lt HT.out.box; omega
      have hne' : ¬ sb = wr.heap.size := by omega
      have K6 : Hid (∀ V V' : World, Hid (Below w1.heap.size w1 V) → V'.heap[wr.heap.size]? = V.heap[wr.heap.size]? → V'.cell? ⟨wr.heap.size, 0, none⟩ = some (.int .u64 nu) ∧ V'.cell? ⟨wr.heap.size, 1, none⟩ = some (.int .i64 node) ∧ V'.cell? ⟨wr.heap.size, 2, none⟩ = some (.int .u32 fi) ∧ V'.cell? ⟨wr.heap.size, 3, none⟩ = some (.int .u64 si) ∧ V'.cell? ⟨wr.heap.size, 4, none⟩ = some (.slice ro nn rc)) := fun V V' hb e => by
        obtain ⟨_, _, k0, k1, k2, k3, k4, _⟩ := KB2.out V hb
        have ec : ∀ j, V'.cell? ⟨wr.heap.size, j, none⟩ = V.cell? ⟨wr.heap.size, j, none⟩ := fun j => by simp [World.cell?, e]
        exact ⟨(ec 0).trans k0, (ec 1).trans k1, (ec 2).trans k2, (ec 3).trans k3, (ec 4).trans k4⟩
      generalize wr.heap.size = tb at *
      refine wp_region_L 15 (fun V => V.cell? ⟨sb, 1, none⟩ = some v) (fun V => V.cell? ⟨tb, 0, none⟩ = some (.int .u64 nu) ∧ V.cell? ⟨tb, 1, none⟩ = some (.int .i64 node) ∧ V.cell? ⟨tb, 2, none⟩ = some (.int .u32 fi) ∧ V.cell? ⟨tb, 3, none⟩ = some (.int .u64 si) ∧ V.cell? ⟨tb, 4, none⟩ = some (.slice ro nn rc)) (by kernel_rfl) y1 ⟨z0, z1, z2, z3, z4⟩ (fun hS0 => ?_)
      clear y1 z0 z1 z2 z3 z4
      refine wpAnyL_take (i := 0) (oi := { dst := some 33, op := Op.fieldAddr 55 (Operand.tmp 3) 1, type := 0, pos := "learner.go:106", after := #[], guard := none }) (v := .pointer (some ⟨sb, 1, none⟩)) rfl (by decide) (by kernel_rfl) (by kernel_rfl) (by kernel_rfl) (fun _ _ _ h => h) (Or.inl ⟨by rfl, fun w2 hSw => ?_⟩) hS0 (fun hS1 => ?_)
      · obtain ⟨p0, p1, p2, p3, p4⟩ := hSw
        go_simp
      simp only [Act.put, List.setIfInBounds_toArray, List.set_cons_zero, List.set_cons_succ]
      clear hS0
      refine wpAnyL_take (i := 2) (oi := { dst := some 35, op := Op.move (Operand.tmp 5), type := 22, pos := "learner.go:106", after := #[], guard := none }) (v := .int .u64 xi) rfl (by decide) (by kernel_rfl) (by kernel_rfl) (by kernel_rfl) (fun _ _ _ h => h) (Or.inl ⟨by rfl, fun w2 hSw => ?_⟩) hS1 (fun hS2 => ?_)
      · obtain ⟨p0, p1, p2, p3, p4⟩ := hSw
        go_simp
      simp only [Act.put, List.setIfInBounds_toArray, List.set_cons_zero, List.set_cons_succ]
      clear hS1
      refine wpAnyL_take (i := 3) (oi := { dst := some 36, op := Op.fieldAddr 80 (Operand.tmp 6) 0, type := 0, pos := "learner.go:106", after := #[], guard := none }) (v := .pointer (some ⟨tb, 0, none⟩)) rfl (by decide) (by kernel_rfl) (by kernel_rfl) (by kernel_rfl) (fun _ _ _ h => h) (Or.inl ⟨by rfl, fun w2 hSw => ?_⟩) hS2 (fun hS3 => ?_)
      · obtain ⟨p0, p1, p2, p3, p4⟩ := hSw
        go_simp
      simp only [Act.put, List.setIfInBounds_toArray, List.set_cons_zero, List.set_cons_succ]
      clear hS2
      refine wpAnyL_take (i := 5) (oi := { dst := some 38, op := Op.fieldAddr 80 (Operand.tmp 6) 1, type := 0, pos := "learner.go:106", after := #[], guard := none }) (v := .pointer (some ⟨tb, 2, none⟩)) rfl (by decide) (by kernel_rfl) (by kernel_rfl) (by kernel_rfl) (fun _ _ _ h => h) (Or.inl ⟨by rfl, fun w2 hSw => ?_⟩) hS3 (fun hS4 => ?_)
      · obtain ⟨p0, p1, p2, p3, p4⟩ := hSw
        go_simp
      simp only [Act.put, List.setIfInBounds_toArray, List.set_cons_zero, List.set_cons_succ]
      clear hS3
      refine wpAnyL_take (i := 7) (oi := { dst := some 40, op := Op.fieldAddr 80 (Operand.tmp 6) 2, type := 0, pos := "learner.go:106", after := #[], guard := none }) (v := .pointer (some ⟨tb, 3, none⟩)) rfl (by decide) (by kernel_rfl) (by kernel_rfl) (by kernel_rfl) (fun _ _ _ h => h) (Or.inl ⟨by rfl, fun w2 hSw => ?_⟩) hS4 (fun hS5 => ?_)
      · obtain ⟨p0, p1, p2, p3, p4⟩ := hSw
        go_simp
      simp only [Act.put, List.setIfInBounds_toArray, List.set_cons_zero, List.set_cons_succ]
      clear hS4
      refine wpAnyL_take (i := 10) (oi := { dst := some 43, op := Op.move (Operand.tmp 0), type := 28, pos := "learner.go:106", after := #[], guard := none }) (v := .pointer (some ⟨lb, 0, none⟩)) rfl (by decide) (by kernel_rfl) (by kernel_rfl) (by kernel_rfl) (fun _ _ _ h => h) (Or.inl ⟨by rfl, fun w2 hSw => ?_⟩) hS5 (fun hS6 => ?_)
      · obtain ⟨p0, p1, p2, p3, p4⟩ := hSw
        go_simp
      simp only [Act.put, List.setIfInBounds_toArray, List.set_cons_zero, List.set_cons_succ]
      clear hS5
      refine wpAnyL_take (i := 4) (oi := { dst := some 37, op := Op.load 39 (Operand.tmp 36), type := 39, pos := "learner.go:106", after := #[{ on := 3, ground := Ground.data }], guard := none }) (v := .agg #[.int .u64 nu, .int .i64 node]) rfl (by decide) (by kernel_rfl) (by kernel_rfl) (by kernel_rfl) (fun _ _ _ h => h) (Or.inl ⟨by rfl, fun w2 hSw => ?_⟩) hS6 (fun hS7 => ?_)
      · obtain ⟨p0, p1, p2, p3, p4⟩ := hSw
        go_simp
      simp only [Act.put, List.setIfInBounds_toArray, List.set_cons_zero, List.set_cons_succ]
      clear hS6
      refine wpAnyL_take (i := 6) (oi := { dst := some 39, op := Op.load 78 (Operand.tmp 38), type := 78, pos := "learner.go:106", after := #[{ on := 5, ground := Ground.data }], guard := none }) (v := .int .u32 fi) rfl (by decide) (by kernel_rfl) (by kernel_rfl) (by kernel_rfl) (fun _ _ _ h => h) (Or.inl ⟨by rfl, fun w2 hSw => ?_⟩) hS7 (fun hS8 => ?_)
      · obtain ⟨p0, p1, p2, p3, p4⟩ := hSw
        go_simp
      simp only [Act.put, List.setIfInBounds_toArray, List.set_cons_zero, List.set_cons_succ]
      clear hS7
      refine wpAnyL_take (i := 8) (oi := { dst := some 41, op := Op.load 43 (Operand.tmp 40), type := 43, pos := "learner.go:106", after := #[{ on := 7, ground := Ground.data }], guard := none }) (v := .agg #[.int .u64 si, .slice ro nn rc]) rfl (by decide) (by kernel_rfl) (by kernel_rfl) (by kernel_rfl) (fun _ _ _ h => h) (Or.inl ⟨by rfl, fun w2 hSw => ?_⟩) hS8 (fun hS9 => ?_)
      · obtain ⟨p0, p1, p2, p3, p4⟩ := hSw
        go_simp
      simp only [Act.put, List.setIfInBounds_toArray, List.set_cons_zero, List.set_cons_succ]
      clear hS8
      refine wpAnyL_take (i := 11) (oi := { dst := some 44, op := Op.load 80 (Operand.tmp 6), type := 80, pos := "learner.go:106", after := #[], guard := none }) (v := .agg #[.int .u64 nu, .int .i64 node, .int .u32 fi, .int .u64 si, .slice ro nn rc]) rfl (by decide) (by kernel_rfl) (by kernel_rfl) (by kernel_rfl) (fun _ _ _ h => h) (Or.inl ⟨by rfl, fun w2 hSw => ?_⟩) hS9 (fun hS10 => ?_)
      · obtain ⟨p0, p1, p2, p3, p4⟩ := hSw
        go_simp
      simp only [Act.put, List.setIfInBounds_toArray, List.set_cons_zero, List.set_cons_succ]
      clear hS9
      refine wpAnyL_take1 (i := 1) (oi := { dst := some 34, op := Op.load 53 (Operand.tmp 33), type := 53, pos := "learner.go:106", after := #[{ on := 0, ground := Ground.data }], guard := none }) (v := v) rfl (by decide) (by kernel_rfl) (by kernel_rfl) (by kernel_rfl) (fun _ _ _ h => h) (Or.inl ⟨by rfl, fun w2 hSw => ?_⟩) hS10 (by kernel_rfl) (og := { dst := some 48, op := Op.call { callee := Callee.builtin Builtin.append, args := #[Operand.tmp 34, Operand.tmp 47], argTypes := #[53, 53] }, type := 53, pos := "learner.go:106", after := #[{ on := 1, ground := Ground.data }, { on := 14, ground := Ground.data }, { on := 12, ground := Ground.chain }], guard := none }) rfl (by kernel_rfl) (fun hS11 => ?_)
      · go_simp
      simp only [Act.put, List.setIfInBounds_toArray, List.set_cons_zero, List.set_cons_succ]
      clear hS10
      refine wpAnyL_one (i := 9) (o := { dst := some 42, op := Op.call { callee := Callee.value (Operand.func 20), args := #[Operand.tmp 41], argTypes := #[43] }, type := 43, pos := "learner.go:106", after := #[{ on := 8, ground := Ground.data }], guard := none }) (by kernel_rfl) rfl (fun K hK => ?_)
      clear hS11
      go_simp
      go_at_call 20
      refine (KT.out _ HD0).mono ?_
      rintro e w3 ⟨a2, m2, c2, rfl, G3⟩
      have HB3 := KTr.out _ _ HD0 G3.out.2
      refine hK.out _ _ ⟨fun _ => (KB2.out w3 HB3).1, K6.out _ _ HB3 rfl⟩ ?_
      clear hK K
      refine wpAnyL_one (i := 12) (o := { dst := some 45, op := Op.call { callee := Callee.value (Operand.func 18), args := #[Operand.tmp 43, Operand.tmp 44], argTypes := #[28, 80] }, type := 4, pos := "learner.go:106", after := #[{ on := 10, ground := Ground.data }, { on := 11, ground := Ground.data }, { on := 9, ground := Ground.chain }], guard := none }) (by kernel_rfl) rfl (fun K hK => ?_)
      go_simp
      go_at_call 18
      refine (KDn.out _ HB3).mono ?_
      rintro e w5 ⟨rfl, G5⟩
      have HB5 := KTr.out _ _ HB3 G5.out
      have HN6 := hide (HNX.out _ _ _ _ _ _ HD0 G3.out.1 G3.out.2 G5.out)
      have K65 := hide (K6.out _ _ HB5 rfl)
      have y5 := hide (KB2.out w5 HB5)
      refine hK.out _ _ ⟨fun _ => y5.out.1, K65.out⟩ ?_
      clear hK K G3 G5 HB3
      refine wpAnyL_one (i := 13) (o := { dst := some 46, op := Op.build 87 #[(0, Operand.tmp 35), (1, Operand.tmp 37), (2, Operand.tmp 39), (3, Operand.tmp 42), (4, Operand.tmp 45)], type := 87, pos := "learner.go:106", after := #[{ on := 2, ground := Ground.data }, { on := 4, ground := Ground.data }, { on := 6, ground := Ground.data }, { on := 9, ground := Ground.data }, { on := 12, ground := Ground.data }], guard := none }) (by kernel_rfl) rfl (fun K hK => ?_)
      go_simp
      refine hK.out _ _ ⟨fun _ => y5.out.1, K65.out⟩ ?_
      clear hK K
      have hbw : Hid (∀ o, (w5.alloc o).heap[tb]? = w5.heap[tb]? ∧ (w5.alloc o).cell? ⟨sb, 1, none⟩ = some v) := fun o => ⟨Below.heap_alloc _ _ _ y5.out.2.2.2.2.2.2.2, by rw [World.cell?_alloc_some _ _ _ (by rw [y5.out.1]; rfl)]; exact y5.out.1⟩
      refine wpAnyL_one (i := 14) (o := { dst := some 47, op := Op.buildSlice 53 1 #[(0, Operand.tmp 46)], type := 53, pos := "learner.go:106", after := #[{ on := 13, ground := Ground.data }], guard := none }) (by kernel_rfl) rfl (fun K hK => ?_)
      go_simp
      refine hK.out _ _ ⟨fun _ => (hbw.out _).2, K6.out _ _ HB5 (hbw.out _).1⟩ ?_
      clear hK K
      refine wpAnyL_one (i := 15) (o := { dst := some 48, op := Op.call { callee := Callee.builtin Builtin.append, args := #[Operand.tmp 34, Operand.tmp 47], argTypes := #[53, 53] }, type := 53, pos := "learner.go:106", after := #[{ on := 1, ground := Ground.data }, { on := 14, ground := Ground.data }, { on := 12, ground := Ground.chain }], guard := none }) (by kernel_rfl) rfl (fun K hK => ?_)
      refine step_append_atL rfl (.tmp 34) (.tmp 47) 53 rfl bs 87 i0 (.agg #[.int .u64 0, .int .u64 0, .int .i64 0, .int .u32 0, .int .u64 0, .slice none 0 0, .bool false]) 7 72 Try.underlying53 hi0 hz0 hz1 hz2 rfl (by decide) v k (tcells ts) (by simp [Act.eval]) HN6.out.1 ⟨w5.heap.size, 0, none⟩ 1 1 [.int .u64 xi, .int .u64 nu, .int .i64 node, .int .u32 fi, .int .u64 si, .slice a2 m2 c2, .bool dn] (by simp [Act.eval]) rfl (cell_new7v _ _ _) (by simp [Value.oneCell']) hl'.out.1 hl'.out.2 HN6.out.2.1 ?_
      intro v' w6 ho hg hv
      obtain ⟨ap, cap', rfl, hk6, ⟨y6, f6, yl6⟩, ts', HT6⟩ := HN6.out.2.2 v' w6 ho hg hv
      clear ho hg hv
      simp only [Act.put, List.setIfInBounds_toArray, List.set_cons_zero, List.set_cons_succ]
      have K66 := hide (K6.out _ _ HB5 hk6)
      refine hK.out _ _ ⟨fun e => absurd e (by decide), K66.out⟩ ?_
      clear hK K
      refine wpAnyL_one (i := 16) (o := { dst := some 49, op := Op.fieldAddr 55 (Operand.tmp 3) 1, type := 0, pos := "learner.go:106", after := #[{ on := 0, ground := Ground.phase }, { on := 1, ground := Ground.phase }, { on := 2, ground := Ground.phase }, { on := 3, ground := Ground.phase }, { on := 4, ground := Ground.phase }, { on := 5, ground := Ground.phase }, { on := 6, ground := Ground.phase }, { on := 7, ground := Ground.phase }, { on := 8, ground := Ground.phase }, { on := 9, ground := Ground.phase }, { on := 10, ground := Ground.phase }, { on := 11, ground := Ground.phase }, { on := 12, ground := Ground.phase }, { on := 13, ground := Ground.phase }, { on := 14, ground := Ground.phase }, { on := 15, ground := Ground.phase }], guard := none }) (by kernel_rfl) rfl (fun K hK => ?_)
      go_simp
      refine hK.out _ _ ⟨fun e => absurd e (by decide), K66.out⟩ ?_
      clear hK K
      refine wpAnyL_one (i := 17) (o := { dst := none, op := Op.store 53 (Operand.tmp 49) (Operand.tmp 48), type := 0, pos := "learner.go:106", after := #[{ on := 16, ground := Ground.data }, { on := 15, ground := Ground.data }, { on := 15, ground := Ground.chain }, { on := 0, ground := Ground.phase }, { on := 1, ground := Ground.phase }, { on := 2, ground := Ground.phase }, { on := 3, ground := Ground.phase }, { on := 4, ground := Ground.phase }, { on := 5, ground := Ground.phase }, { on := 6, ground := Ground.phase }, { on := 7, ground := Ground.phase }, { on := 8, ground := Ground.phase }, { on := 9, ground := Ground.phase }, { on := 10, ground := Ground.phase }, { on := 11, ground := Ground.phase }, { on := 12, ground := Ground.phase }, { on := 13, ground := Ground.phase }, { on := 14, ground := Ground.phase }, { on := 15, ground := Ground.phase }], guard := none }) (by kernel_rfl) rfl (fun K hK => ?_)
      go_simp
      have hk7 : (w6.setCell ⟨sb, 1, none⟩ (.slice ap (k + 1) cap')).heap[tb]? = w5.heap[tb]? := ((grown_set w6 sb 1 (.slice ap (k + 1) cap')).block _ (by rcases Nat.lt_or_ge tb w6.heap.size with h | h; exact h; have := (K66.out).1; simp [World.cell?, Array.getElem?_eq_none h] at this) (fun e => hne (Option.some.inj e))).trans hk6
      refine hK.out _ _ ⟨fun e => absurd e (by decide), K6.out _ _ HB5 hk7⟩ ?_
      clear hK K
      refine wpAnyL_done (by kernel_rfl) ?_ _
      go_wp2
      go_roundw
      case rel => exact ⟨k + 1, by omega, by go_num, _, _, HT6⟩
      case measure => simp [intOf]; omega
    · obtain rfl : k = N := by omega
      obtain ⟨a2, c2, rfl, hfin⟩ := HT.out.fin HSB.out HKL.out HKS.out.1 HKS.out.2.1 (fun x hx => (HKS.out.2.2 x hx).trans (HAS.out x hx))
      have HFIN := hide hfin
      have s0 : wr.cell? ⟨sb, 0, none⟩ = some (.int .u64 (low : Nat)) := block_cell HT.out.box 0
      have s1 : wr.cell? ⟨sb, 1, none⟩ = some (.slice a2 k c2) := block_cell HT.out.box 1
      have r0 : wr.cell? ⟨W.heap.size, 0, none⟩ = some (.int .u64 0) := block_cell HT.out.res 0
      have r1 : wr.cell? ⟨W.heap.size, 1, none⟩ = some (.slice none 0 0) := block_cell HT.out.res 1
      have f0 := block_free HT.out.res 0
      have f1 := block_free HT.out.res 1
      have sl := block_lt HT.out.box
      have rl := block_lt HT.out.res
      clear hfin HT
      go_wp2
      refine bodyPost_ret (v := .agg #[.int .u64 (low : Nat), .slice a2 k c2]) (by simp [results, Try.results10, go_sem, r0, r1]) rfl ⟨_, _, _, rfl, HFIN.out _ _⟩
end Go.Proofs.Ytojknconkmplkaa
