import Derived.Test.YthfbimbadkmhhaaMIA
namespace Go.Proofs.Ythfbimbadkmhhaa
open Go.RowKit Crc

def zeros3 (m : Nat) : List Value := (Builtin.zeroCells (Value.agg #[.int .u64 0, .int .u64 0, .slice none 0 0]).cells m).toList
theorem zeros3_len (m : Nat) : (zeros3 m).length = m * 3 := by simp [zeros3, Builtin.zeroCells, Value.cells]
theorem zeros3_one (m : Nat) : ∀ v ∈ zeros3 m, v.oneCell' = true := by
  intro v hv
  simp only [zeros3, Builtin.zeroCells, Value.cells, Array.toList_map, List.mem_map] at hv
  obtain ⟨i, _, rfl⟩ := hv
  have h3 : i % 3 < 3 := Nat.mod_lt _ (by decide)
  show (#[Value.int .u64 0, .int .u64 0, .slice none 0 0][i % 3]!).oneCell' = true
  generalize i % 3 = t at *
  rcases (by omega : t = 0 ∨ t = 1 ∨ t = 2) with rfl | rfl | rfl <;> rfl
theorem run_clear3 {w : World} {b o m rc : Nat} {cur : Array Value} (hg : w.heap[b]? = some (.cells cur 37 (0, 0))) (hm : 0 < m) (hcs : o + m * 3 ≤ cur.size) (ty : TypeId) : (Builtin.clear_ #[67] ty #[.slice (some ⟨b, o, none⟩) m rc]).run Try.prog w = .ok (.tuple #[]) (w.setCells b o (zeros3 m)) := by
  have hzc : (Builtin.zeroCells (Value.agg #[.int .u64 0, .int .u64 0, .slice none 0 0]).cells m).toList = zeros3 m := rfl
  have hst := run_storeCells_cells (P := Try.prog) b o (zeros3 m) 0 w (fun j hj => by rw [block_cell hg]; rw [zeros3_len] at hj; simp; omega) (fun j _ => block_free hg _) (zeros3_one m)
  simp only [Nat.add_zero] at hst
  obtain ⟨m', rfl⟩ : ∃ m', m = m' + 1 := ⟨m - 1, by omega⟩
  simp [Builtin.clear_, run_underlying Try.underlying67, hzc, hst]
theorem setCells_blk (b : Nat) (t : TypeId) : ∀ (vs : List Value) (o : Nat) (w : World) (cur : Array Value), w.heap[b]? = some (.cells cur t (0, 0)) → ∃ cur', (w.setCells b o vs).heap[b]? = some (.cells cur' t (0, 0)) ∧ cur'.size = cur.size ∧ ∀ k, k < o → cur'[k]? = cur[k]?
  | [], o, w, cur, h => ⟨cur, h, rfl, fun _ _ => rfl⟩
  | v :: vs, o, w, cur, h => by
    obtain ⟨c', h1, h2, h3⟩ := setCells_blk b t vs (o + 1) (w.setCell ⟨b, o, none⟩ v) _ (heap_setCell_same w b o _ _ _ h)
    refine ⟨c', h1, by simpa using h2, fun k hk => ?_⟩
    rw [h3 k (by omega), Array.getElem?_setIfInBounds, if_neg (by omega)]
theorem setCells_fe (b : Nat) : ∀ (vs : List Value) (o : Nat) (w : World), Fe w (w.setCells b o vs) (fun q => q = b)
  | [], o, w => Fe.refl _ _
  | v :: vs, o, w => (Fe.grown (grown_set w b o v) (T := fun q => q = b) (fun y e => by cases e; rfl)).trans (setCells_fe b vs (o + 1) _) (fun _ _ e => e)
theorem Dl.first {w w1 : World} {fp : Nat → Prop} {b n rc : Nat} {rs : List Rq} (h : Qs w fp (.slice (some ⟨b, 0, none⟩) n rc) rs) (hl : rs.length = n) (hb : Below w.heap.size w w1) {f : Rq → Bool} {k : Nat} (hk : k < n) (ha : (rs.take k).any f = false) {r : Rq} (hr : rs[k]? = some r) (hf : f r = true) : Dl w b n rc rs f k (k + 1) w1 := by
  refine ⟨by omega, by omega, Fe.below hb _, rs, hl, ?_, ?_, rfl, fun _ e => e⟩
  · have := row_fe h.row (Fe.below hb (fun _ => False)) (fun _ _ e => e)
    rw [hl] at this
    exact this
  · rw [List.take_add_one, hr, List.filter_append]
    rw [List.filter_eq_self.2 (fun y hy => by
      cases e : f y with
      | false => rfl
      | true => rw [List.any_eq_true.2 ⟨y, hy, e⟩] at ha; cases ha)]
    simp [hf]
theorem Dl.last {w wr : World} {fp : Nat → Prop} {b n rc : Nat} {rs : List Rq} (h : Qs w fp (.slice (some ⟨b, 0, none⟩) n rc) rs) (hl : rs.length = n) {f : Rq → Bool} {i : Nat} (d : Dl w b n rc rs f i n wr) :
    (∃ cur : Array Value, wr.heap[b]? = some (.cells cur 37 (0, 0)) ∧ cur.size = rc * 3 ∧ n ≤ rc) ∧ Left w fp (some ⟨b, 0, none⟩) n rc ((rs.filter fun r => !f r).map Rq.val) (some ⟨b, 0, none⟩) i rc (wr.setCells b (i * 3) (zeros3 (n - i))) := by
  obtain ⟨rs1, h1, h2, h3, h4, h5⟩ := d.row
  obtain ⟨cur, hg, h6, h7, h8, h9, _, h10⟩ := row_parts h2
  have hin := d.ij
  have hrs : rs.take n = rs := List.take_of_length_le (by omega)
  rw [hrs] at h3
  refine ⟨⟨cur, hg, h6, h7⟩, rs1.take i, by simp; omega, ⟨?_, ?_, ?_, ?_, ?_⟩, by rw [h3], ?_, fun q e => e⟩
  · obtain ⟨cur', g1, g2, g3⟩ := setCells_blk b _ (zeros3 (n - i)) (i * 3) wr cur hg
    have hlen : (rs1.take i).length = i := by simp; omega
    rw [hlen]
    refine ⟨by rw [rcells_len, hlen], .inr ⟨b, rc, cur', rfl, h9, g1, by omega, h8, by omega, ?_⟩⟩
    apply List.ext_getElem?
    intro p
    rw [List.getElem?_take]
    by_cases hp : p < i * 3
    · rw [if_pos hp, Array.getElem?_toList, g3 p hp]
      have e1 := congrArg (fun l => l[p]?) h10
      simp only [List.getElem?_take, if_pos (show p < n * 3 by omega), Array.getElem?_toList] at e1
      rw [e1]
      obtain ⟨q, t, ht, rfl⟩ : ∃ q t, t < 3 ∧ p = q * 3 + t := ⟨p / 3, p % 3, Nat.mod_lt _ (by decide), by omega⟩
      rw [rcells_get _ _ _ ht, rcells_get _ _ _ ht, List.getElem?_take, if_pos (by omega)]
    · rw [if_neg hp, List.getElem?_eq_none (by rw [rcells_len, hlen]; omega)]
  · exact fun q e => h.blk q e
  · intro r hr
    have hr' := h5 r (List.mem_of_mem_take hr)
    have f1 : Fe w (wr.setCells b (i * 3) (zeros3 (n - i))) (fun q => q = b) := d.fe.trans (setCells_fe b _ _ _) (fun _ _ e => e)
    refine (h.cq r hr').fe f1 (fun q e e2 => ?_)
    subst e2
    exact row_ne_cq h (h.cq r hr') q e rfl
  · exact fun r hr q e => h.cb r (h5 r (List.mem_of_mem_take hr)) q e
  · have := h.le
    simp
    omega
  · exact (d.fe.trans (setCells_fe b _ _ _) (fun _ _ e => e)).wide (fun q e => by rw [e]; rfl)
set_option maxRecDepth 10000 in
set_option maxHeartbeats 1600000 in
theorem delete_any {w : World} {fp : Nat → Prop} {ro : Option Addr} {rs : List Rq} (n rc : Nat) (hn : rs.length = n) (h : Qs w fp (.slice ro n rc) rs) (F : Nat) (cap : Value) (f : Rq → Bool) (hce : ∀ (a : Value) (w : World), (callFunc F #[a, cap]).run Try.prog w = .ok (.enter F #[a, cap]) w)
    (hf : ∀ (k : Rq) (W : World), Fe w W (fun b => (Value.slice ro n rc).ownBlock = some b) → Calls Try.prog F #[.agg #[.int .u64 (k.cl : Int), .int .u64 (k.sq : Int), .slice k.co k.cn k.cc], cap] W fun e w' => e = .returned (.bool (f k)) ∧ Below W.heap.size W w') :
    Calls Try.prog 51 #[.slice ro n rc, .func (.func F) #[] #[cap]] w fun e w' => ∃ ao m cp, e = .returned (.slice ao m cp) ∧ Hid (Left w fp ro n rc ((rs.filter fun r => !f r).map Rq.val) ao m cp w') := by
  cases hany : rs.any f with
  | false =>
    have e : rs.filter (fun r => !f r) = rs := List.filter_eq_self.2 (fun y hy => by
      cases e : f y with
      | false => rfl
      | true => rw [List.any_eq_true.2 ⟨y, hy, e⟩] at hany; cases hany)
    rw [e]
    exact delete_none n rc hn h F cap f hce (fun k W hb => hf k W (Fe.below hb _)) hany
  | true =>
    have hpos : 0 < n := by
      rcases Nat.eq_zero_or_pos n with e | e
      · rw [e] at hn
        rw [List.eq_nil_of_length_eq_zero hn] at hany
        cases hany
      · exact e
    obtain ⟨ao, cp, b, e, hcap, hR⟩ := h.form
    simp only [Value.slice.injEq] at e
    obtain ⟨rfl, -, rfl⟩ := e
    obtain rfl := hR.ad (by omega)
    have HI := hide (indexQ n rc hn hR F cap f hce (fun k W hb => hf k W (Fe.below hb _)))
    have hle := h.le
    rw [hn] at hcap hle
    have HFF : Hid (∀ (k : Rq) (W : World), Fe w W (fun q => q = b) → Calls Try.prog F #[.agg #[.int .u64 (k.cl : Int), .int .u64 (k.sq : Int), .slice k.co k.cn k.cc], cap] W fun e w' => e = .returned (.bool (f k)) ∧ Below W.heap.size W w') := fun k W hb => hf k W (hb.wide (fun q e => by rw [e]; rfl))
    have HQ := hide h
    have HN := hide hn
    have HANY := hide hany
    clear h hR hf hn hany
    go_enter Try.func51, Try.ntmps51
    go_wp2_with fail
    refine HI.out.mono ?_
    rintro e w1 ⟨i, rfl, G⟩
    obtain ⟨k, hik, hkn, HD0⟩ : ∃ k : Nat, i = (k : Int) ∧ k < n ∧ Hid (Dl w b n rc rs f k (k + 1) w1) := by
      rcases G.out.1 with ⟨_, e⟩ | ⟨k, e, hk, ha, r, e1, e2⟩
      · rw [HANY.out] at e; cases e
      · exact ⟨k, e, hk, Dl.first HQ.out HN.out G.out.2 hk ha e1 e2⟩
    subst hik
    clear HI G HANY
    have hne : ((k : Int) == -1) = false := by rw [beq_eq_false_iff_ne]; omega
    go_wp2
    go_loopw [5, 6, 7] (fun i j _ wr => ∃ ii jj : Nat, i = .int .i64 ii ∧ j = .int .i64 jj ∧ ii < jj ∧ jj ≤ n ∧ Hid (Dl w b n rc rs f ii jj wr)) (fun _ j _ _ => n - (intOf j).toNat)
    case atStart => exact ⟨k, k + 1, rfl, by go_num, by omega, by omega, HD0.out⟩
    case round =>
      obtain ⟨ii, jj, rfl, rfl, hij, hjn, HD⟩ := hrel
      clear HD0 hne hkn
      by_cases hlt : jj < n
      · obtain ⟨r, hr, c0, c1, c2, hbl⟩ := HD.out.at HN.out hlt
        have HR := hide hr
        obtain ⟨W1, hW1⟩ : ∃ W1, wr.alloc (.cells #[.int .u64 (r.cl : Int), .int .u64 (r.sq : Int), .slice r.co r.cn r.cc] 37) = W1 := ⟨_, rfl⟩
        have B1 : Hid (Below wr.heap.size wr W1) := by rw [← hW1]; exact below_alloc1 wr _
        have C1 : Hid (W1.heap[wr.heap.size]? = some (.cells #[.int .u64 (r.cl : Int), .int .u64 (r.sq : Int), .slice r.co r.cn r.cc] 37 (0, 0))) := by rw [← hW1]; exact alloc_atK _ _
        have HW := hide (HFF.out r W1 (HD.out.fe.trans (Fe.below B1.out _) (fun _ _ e => e)))
        obtain ⟨q, hq⟩ : ∃ q, f r = q := ⟨_, rfl⟩
        rw [hq] at HW
        have HQQ := hide hq
        have HW1 := hide hW1
        clear hr hq hW1
        go_upto_region 8 with fail
        rw [HW1.out]
        clear HW1 c0 c1 c2
        have q0 := block_cell C1.out 0
        have q1 := block_cell C1.out 1
        have q2 := block_cell C1.out 2
        have ql := block_lt C1.out
        simp at q0 q1 q2
        have hvb : Hid (∀ w2, Below W1.heap.size W1 w2 → Below wr.heap.size wr w2) := fun w2 hb => B1.out.trans (hb.mono B1.out.size)
        have KX : Hid (∀ w2, Below W1.heap.size W1 w2 → w2.cell? ⟨wr.heap.size, 0, none⟩ = some (.int .u64 (r.cl : Int)) ∧ w2.cell? ⟨wr.heap.size, 1, none⟩ = some (.int .u64 (r.sq : Int)) ∧ w2.cell? ⟨wr.heap.size, 2, none⟩ = some (.slice r.co r.cn r.cc) ∧ wr.heap.size < w2.heap.size) := fun w2 hb => by
          have b2 := (hb.block _ (block_lt C1.out)).trans C1.out
          exact ⟨block_cell b2 0, block_cell b2 1, block_cell b2 2, block_lt b2⟩
        clear C1 B1
        go_wp2_with fail
        refine HW.out.mono ?_
        rintro e w2 ⟨rfl, hb2⟩
        have HB2 := hide (hvb.out w2 hb2)
        obtain ⟨y0, y1, y2, yl⟩ := KX.out w2 hb2
        clear q0 q1 q2 ql KX hvb hb2 HW
        cases q with
        | true =>
          have HS := hide (HD.out.skip hlt HB2.out HR.out HQQ.out)
          go_wp2
          go_roundw
          case rel => exact ⟨ii, jj + 1, rfl, by go_num, by omega, by omega, HS.out⟩
          case measure => simp [intOf]; omega
        | false =>
          have HS := hide (HD.out.keep hlt HB2.out HR.out HQQ.out)
          obtain ⟨⟨u0, u1, u2, d0, d1, d2⟩, dl, df⟩ := HD.out.wr HB2.out
          have f0 := df (ii * 3)
          have f1 := df (ii * 3 + 1)
          have f2 := df (ii * 3 + 2)
          clear df
          go_wp2
          go_roundw
          case rel => exact ⟨ii + 1, jj + 1, by go_num, by go_num, by omega, by omega, HS.out⟩
          case measure => simp [intOf]; omega
      · obtain rfl : jj = n := by omega
        obtain ⟨⟨cur, hg, hcs, hnc⟩, HL⟩ := HD.out.last HQ.out HN.out
        have HLL := hide HL
        have hcl := run_clear3 (o := ii * 3) (m := jj - ii) (rc := rc - ii) hg (by omega) (by omega) 0
        obtain ⟨W9, hW9⟩ : ∃ W9, wr.setCells b (ii * 3) (zeros3 (jj - ii)) = W9 := ⟨_, rfl⟩
        rw [hW9] at hcl HLL
        clear hW9 hg HL
        go_wp2
        go_ret
        exact ⟨_, _, _, rfl, HLL.out⟩
end Go.Proofs.Ythfbimbadkmhhaa
