import Derived.Test.YtiijbboigebhcaaGreatDoorOPk
import Derived.Test.YtiijbboigebhcaaGreatDoorM27
import Derived.Test.YtiijbboigebhcaaGreatDoorNPt
import Derived.Test.YtiijbboigebhcaaGreatDoorM31
import Derived.BigQuiet
namespace Go.Proofs.YtiijbboigebhcaaGreatDoor
open Go.RowKit Crc

theorem fstF_all : ∀ (L : List Bool), fstF L < 0 → ∀ b ∈ L, b = true
  | [], _, b, h => by cases h
  | true :: r, h, b, hb => by
    have hr : fstF r < 0 := by
      by_cases q : fstF r < 0
      · exact q
      · rw [fstF, if_neg q] at h; omega
    rcases List.mem_cons.1 hb with rfl | hb
    · rfl
    · exact fstF_all r hr b hb
  | false :: r, h, _, _ => by rw [fstF] at h; omega
theorem okGo_k : ∀ (o : Option Nat) (L : List En), okGo o L = true → ∀ x ∈ L, 1 ≤ x.k ∧ x.k ≤ 5
  | _, [], _, x, hx => by cases hx
  | o, y :: r, h, x, hx => by
    rw [okGo, Bool.and_eq_true, Bool.and_eq_true, Bool.and_eq_true] at h
    rcases List.mem_cons.1 hx with rfl | hx
    · exact ⟨of_decide_eq_true h.1.2.1, of_decide_eq_true h.1.2.2⟩
    · exact okGo_k _ r h.2 x hx
/-- The ranges of an image's numbers. -/
structure Mi.Rn (m : Mi) : Prop where
  n : ∀ v ∈ [m.slot, m.now], v < u64
  b : ∀ v ∈ [m.tot, m.nx], v < u64
  e : ∀ v ∈ [m.ends], v < u64
  a : ∀ x ∈ m.A, x.ok
  h : ∀ x ∈ m.H, x.ok
  j : ∀ x ∈ m.J, x.a < u64 ∧ ∀ v ∈ [x.b, x.c, x.d], v < u64
  d : ∀ x ∈ m.D, (∀ v ∈ [x.a, x.b, x.c, x.d, x.e, x.f, x.g], v < u64) ∧ ∀ v ∈ [x.p, x.q, x.r, x.z], v < u64
  s : ∀ x ∈ m.S, x.cl < u64 ∧ x.sq < u64 ∧ x.st < u64
  c : ∀ x ∈ m.S, x.cn = x.D.length
theorem part_fine {m : Mi} (h : m.part < 0) (hr : m.Rn) : m.Fit ∧ m.Gd := by
  have q := fstF_all _ h
  have qa : okAc m.A = true := q _ (by simp)
  have qh : okHo m.H = true := q _ (by simp)
  have qj : okEn m.J = true := q _ (by simp)
  have qd : okDe m.D = true := q _ (by simp)
  have qs : okSn m.S = true := q _ (by simp)
  unfold okAc at qa
  unfold okHo at qh
  unfold okEn at qj
  unfold okDe at qd
  unfold okSn at qs
  rw [Bool.and_eq_true] at qa qh qj qd qs
  rw [Bool.and_eq_true] at qd qs
  have kd : ∀ x ∈ m.D, (1 ≤ x.ph ∧ x.ph ≤ 8) ∧ x.t.size ≤ 512 := fun x hx => by
    have := List.all_eq_true.1 qd.1 x hx
    unfold okD1 at this
    rw [Bool.and_eq_true, Bool.and_eq_true] at this
    exact ⟨⟨of_decide_eq_true this.1.1, of_decide_eq_true this.1.2⟩, of_decide_eq_true this.2⟩
  have ks : ∀ x ∈ m.S, (0 ≤ x.cd ∧ x.cd ≤ 1023) ∧ x.cn ≤ 256 := fun x hx => by
    have := List.all_eq_true.1 qs.1 x hx
    unfold okS1 at this
    rw [Bool.and_eq_true, Bool.and_eq_true] at this
    exact ⟨⟨of_decide_eq_true this.1.1, of_decide_eq_true this.1.2⟩, of_decide_eq_true this.2⟩
  refine ⟨⟨of_decide_eq_true qa.2, of_decide_eq_true qh.2, of_decide_eq_true qj.2, of_decide_eq_true qd.2.2, of_decide_eq_true qs.2.2, fun x hx => (kd x hx).2, fun x hx => by rw [← hr.c x hx]; exact (ks x hx).2⟩, hr.n, hr.b, hr.e, hr.a, hr.h, fun x hx => ⟨(hr.j x hx).1, (hr.j x hx).2, ?_⟩, fun x hx => ⟨(hr.d x hx).1, (hr.d x hx).2, ?_, (kd x hx).2⟩, fun x hx => ⟨?_, ?_⟩⟩
  · have := okGo_k _ _ qj.1 x hx; omega
  · have := (kd x hx).1; omega
  · have h1 := hr.s x hx
    have h2 := (ks x hx).1
    intro v hv
    unfold u64 at *
    simp only [List.mem_cons, List.not_mem_nil, or_false] at hv
    omega
  · have := (ks x hx).1; omega
/-- What Pack answers. -/
def Mi.pkB (m : Mi) : List Nat := if m.part < 0 then big 1364414032 4 ++ big 1 1 ++ m.enc else []
def Mi.pkL (m : Mi) : List Lk := if m.part < 0 then [] else [⟨snapN, m.part⟩]
def Mi.pkC (m : Mi) : Int := if m.part < 0 then 0 else 121
def PackQ (m : Mi) (w : World) (e : Ending) (w' : World) : Prop := ∃ v x, e = .returned (.tuple #[v, x]) ∧ Hid (Owns w.heap.size w' v m.pkB ∧ ErrC' w' x m.pkL m.pkC ∧ Below w.heap.size w w')
def wsS : WS := ⟨true, 0, 0, 40000, [], KW⟩
theorem wk_new (W : World) : Wk (W.heap.size + 1) W.heap.size wsS (W.alloc (wNew 40000)) :=
  ⟨.inr ⟨W.heap.size, rfl, .slice none 0 0, alloc_atN _ _, Owns.nil _ _, by simp [Value.ownBlock]⟩, fun _ => ⟨by decide, by simp [wsS]⟩, by simp, by omega, fun _ => rfl⟩
theorem u32_w {base p : Nat} {w W : World} {s : WS} (h : Wa base p w s W) (v : Nat) (vi : Int) (hvi : vi = (v : Int)) (hv : v < 4294967296) : Calls Tryz.prog 21 #[.pointer (some ⟨p, 0, none⟩), .int .u32 vi] W fun e W' => e = .returned (.tuple #[]) ∧ Hid (Wa base p w (s.put (big v 4) 0) W') :=
  (wU32P h.k.wr h.k.inv h.k.bs v vi hvi hv).mono fun _ _ ⟨e, G⟩ => ⟨e, h.trans (h.k.put G.out)⟩
theorem own_low {m : Mi} {base : Nat} {w : World} (hb : m.small) (h : m.Own base w) : m.Low w.heap.size w :=
  ⟨h.bk.a.rs (fun _ => rfl) hb.1, h.bk.h.rs (fun _ => rfl) hb.2.1, h.bk.j.rs (fun _ => rfl) hb.2.2.1, h.d.rs (fun _ => rfl) hb.2.2.2.1, h.s.row.rs (fun _ => rfl) hb.2.2.2.2, fun x hx => by
    obtain ⟨a, c, e, hs, -⟩ := (h.s.own x hx).form
    obtain ⟨e1, e2, e3⟩ : x.co = a ∧ x.cn = x.D.length ∧ x.cc = c := by simpa [Sn.sl] using e
    refine ⟨by rw [e1, e2, e3]; exact hs, fun b off eb => (h.s.own x hx).1.lt b (by unfold Sn.sl; rw [eb]; rfl) |>.2⟩⟩
theorem pack_end (m : Mi) (h : m.Fit) : (m.lay (lO (wsS.put (big 1364414032 4) 0) 1)).sound ∧ (m.lay (lO (wsS.put (big 1364414032 4) 0) 1)).L = big 1364414032 4 ++ big 1 1 ++ m.enc := by
  have q := ((Lays.put wsS (big 1364414032 4)).then_ (lays_O _ 1)).then_ (lays_Im m h (lO (wsS.put (big 1364414032 4) 0) 1))
  have hl := enc_le m h
  have e := q ⟨rfl, rfl⟩ (by simp only [List.length_append, big_length, wsS, List.length_nil]; omega)
  rw [e]
  exact ⟨⟨rfl, rfl⟩, by simp [wsS]⟩
end Go.Proofs.YtiijbboigebhcaaGreatDoor
namespace Go.Proofs.YtiijbboigebhcaaGreatDoor
open Go.RowKit Crc

set_option maxRecDepth 10000 in
set_option maxHeartbeats 1600000 in
theorem refBk_Acv (x y : Nat) {ao : Option Addr} {an ac : Nat} {ho : Option Addr} {hn hc : Nat} {jo : Option Addr} {jn jc : Nat} {w : World} {L : List Ac} (h : Rt w 4 Ac.cells ao an L) (hb : an ≤ 1000) : Calls Tryz.prog 67 #[.agg #[.int .u64 (x : Int), .int .u64 (y : Int), .slice ao an ac, .slice ho hn hc, .slice jo jn jc], .int .i64 2] w fun e w' => e = .returned (.bool (okAc L)) ∧ Hid (Below w.heap.size w w') := by
  obtain ⟨W1, hW1⟩ : ∃ W1, w.alloc (.cells #[.int .u64 (x : Int), .int .u64 (y : Int), .slice ao an ac, .slice ho hn hc, .slice jo jn jc] 27) = W1 := ⟨_, rfl⟩
  have b1 : Below w.heap.size w W1 := by rw [← hW1]; exact (Below.refl _ w).alloc (Nat.le_refl _) _
  have q1 : W1.heap[w.heap.size]? = some (.cells #[.int .u64 (x : Int), .int .u64 (y : Int), .slice ao an ac, .slice ho hn hc, .slice jo jn jc] 27 (0, 0)) := by rw [← hW1]; exact alloc_atN _ _
  have y1 := block_cell q1 2
  simp at y1
  have hwW := block_lt q1
  have HR := hide (h.below b1)
  have HL := hide h.num
  have BB := hide b1
  have HW1 := hide hW1
  clear h b1 q1
  go_enter Tryz.func67, Tryz.ntmps67
  by_cases hlong : 64 < an
  · have hld : decide ((64 : Int) < (an : Int)) = true := decide_eq_true (by omega)
    have HF : Hid (okAc L = false) := by
      show _ = _
      unfold okAc
      rw [HL.out, decide_eq_false (by omega), Bool.and_false]
    go_wp2
    go_ret
    exact ⟨by rw [HF.out]; rfl, BB.out⟩
  · have hld : decide ((64 : Int) < (an : Int)) = false := decide_eq_false (by omega)
    have HF : Hid (okAc L = rises Ac.a 0 L) := by
      show _ = _
      unfold okAc
      rw [HL.out, decide_eq_true (by omega), Bool.and_true]
    go_wp2
    go_loopw [5, 6] (fun v i wr => ∃ k : Nat, k ≤ an ∧ i = .int .i64 k ∧ ∃ a : Nat, v = .int .u64 (a : Int) ∧ Hid (wr = W1 ∧ rises Ac.a a (L.drop k) = rises Ac.a 0 L)) (fun _ i _ => an - (intOf i).toNat)
    case atStart => exact ⟨0, by omega, rfl, 0, rfl, rfl, rfl⟩
    case round =>
      obtain ⟨k, hk, rfl, a, rfl, HS⟩ := hrel
      obtain rfl := HS.out.1
      by_cases hlt : k < an
      · obtain ⟨e, hx, hd⟩ : ∃ e, L[k]? = some e ∧ L.drop k = e :: L.drop (k + 1) := ⟨_, List.getElem?_eq_getElem (by rw [HL.out]; exact hlt), List.drop_eq_getElem_cons (by rw [HL.out]; exact hlt)⟩
        obtain ⟨g, of, hao, hgl, hcc⟩ := HR.out.at_ len_Ac hx
        have c0 := hcc 0 _ rfl
        simp only [Nat.add_zero] at c0
        rw [hao] at y1
        have HDR : Hid (rises Ac.a 0 L = (decide (a < e.a) && rises Ac.a e.a (L.drop (k + 1)))) := by
          show _ = _
          rw [← HS.out.2, hd, rises]
        clear hcc HS hd hx
        by_cases hlt2 : a < e.a
        · have hle : decide ((e.a : Int) ≤ (a : Int)) = false := decide_eq_false (by omega)
          have HDR : Hid (rises Ac.a e.a (L.drop (k + 1)) = rises Ac.a 0 L) := by
            show _ = _
            rw [HDR.out, decide_eq_true hlt2, Bool.true_and]
          go_wp2
          go_roundw
          case rel => exact ⟨k + 1, by omega, by go_num, e.a, rfl, by first | exact ⟨rfl, HDR.out⟩ | exact ⟨trivial, HDR.out⟩⟩
          case measure => simp [intOf]; omega
        · have hle : decide ((e.a : Int) ≤ (a : Int)) = true := decide_eq_true (by omega)
          have HDR : Hid (okAc L = false) := by
            show _ = _
            rw [HF.out, HDR.out, decide_eq_false hlt2, Bool.false_and]
          go_wp2
          go_ret
          exact ⟨by rw [HDR.out]; rfl, BB.out⟩
      · obtain rfl : an = k := by omega
        have HRR : Hid (okAc L = true) := by
          show _ = _
          rw [HF.out, ← HS.out.2, List.drop_of_length_le (by rw [HL.out]; omega)]
          rfl
        go_wp2
        go_ret
        exact ⟨by rw [HRR.out]; rfl, BB.out⟩
set_option maxRecDepth 10000 in
set_option maxHeartbeats 1600000 in
theorem refBk_Hov (x y : Nat) {ao : Option Addr} {an ac : Nat} {ho : Option Addr} {hn hc : Nat} {jo : Option Addr} {jn jc : Nat} {w : World} {L : List Ho} (h : Rt w 3 Ho.cells ho hn L) (hb : hn ≤ 1000) : Calls Tryz.prog 67 #[.agg #[.int .u64 (x : Int), .int .u64 (y : Int), .slice ao an ac, .slice ho hn hc, .slice jo jn jc], .int .i64 3] w fun e w' => e = .returned (.bool (okHo L)) ∧ Hid (Below w.heap.size w w') := by
  obtain ⟨W1, hW1⟩ : ∃ W1, w.alloc (.cells #[.int .u64 (x : Int), .int .u64 (y : Int), .slice ao an ac, .slice ho hn hc, .slice jo jn jc] 27) = W1 := ⟨_, rfl⟩
  have b1 : Below w.heap.size w W1 := by rw [← hW1]; exact (Below.refl _ w).alloc (Nat.le_refl _) _
  have q1 : W1.heap[w.heap.size]? = some (.cells #[.int .u64 (x : Int), .int .u64 (y : Int), .slice ao an ac, .slice ho hn hc, .slice jo jn jc] 27 (0, 0)) := by rw [← hW1]; exact alloc_atN _ _
  have y1 := block_cell q1 3
  simp at y1
  have hwW := block_lt q1
  have HR := hide (h.below b1)
  have HL := hide h.num
  have BB := hide b1
  have HW1 := hide hW1
  clear h b1 q1
  go_enter Tryz.func67, Tryz.ntmps67
  by_cases hlong : 64 < hn
  · have hld : decide ((64 : Int) < (hn : Int)) = true := decide_eq_true (by omega)
    have HF : Hid (okHo L = false) := by
      show _ = _
      unfold okHo
      rw [HL.out, decide_eq_false (by omega), Bool.and_false]
    go_wp2
    go_ret
    exact ⟨by rw [HF.out]; rfl, BB.out⟩
  · have hld : decide ((64 : Int) < (hn : Int)) = false := decide_eq_false (by omega)
    have HF : Hid (okHo L = rises Ho.a 0 L) := by
      show _ = _
      unfold okHo
      rw [HL.out, decide_eq_true (by omega), Bool.and_true]
    go_wp2
    go_loopw [7, 8] (fun v i wr => ∃ k : Nat, k ≤ hn ∧ i = .int .i64 k ∧ ∃ a : Nat, v = .int .u64 (a : Int) ∧ Hid (wr = W1 ∧ rises Ho.a a (L.drop k) = rises Ho.a 0 L)) (fun _ i _ => hn - (intOf i).toNat)
    case atStart => exact ⟨0, by omega, rfl, 0, rfl, rfl, rfl⟩
    case round =>
      obtain ⟨k, hk, rfl, a, rfl, HS⟩ := hrel
      obtain rfl := HS.out.1
      by_cases hlt : k < hn
      · obtain ⟨e, hx, hd⟩ : ∃ e, L[k]? = some e ∧ L.drop k = e :: L.drop (k + 1) := ⟨_, List.getElem?_eq_getElem (by rw [HL.out]; exact hlt), List.drop_eq_getElem_cons (by rw [HL.out]; exact hlt)⟩
        obtain ⟨g, of, hao, hgl, hcc⟩ := HR.out.at_ len_Ho hx
        have c0 := hcc 0 _ rfl
        simp only [Nat.add_zero] at c0
        rw [hao] at y1
        have HDR : Hid (rises Ho.a 0 L = (decide (a < e.a) && rises Ho.a e.a (L.drop (k + 1)))) := by
          show _ = _
          rw [← HS.out.2, hd, rises]
        clear hcc HS hd hx
        by_cases hlt2 : a < e.a
        · have hle : decide ((e.a : Int) ≤ (a : Int)) = false := decide_eq_false (by omega)
          have HDR : Hid (rises Ho.a e.a (L.drop (k + 1)) = rises Ho.a 0 L) := by
            show _ = _
            rw [HDR.out, decide_eq_true hlt2, Bool.true_and]
          go_wp2
          go_roundw
          case rel => exact ⟨k + 1, by omega, by go_num, e.a, rfl, by first | exact ⟨rfl, HDR.out⟩ | exact ⟨trivial, HDR.out⟩⟩
          case measure => simp [intOf]; omega
        · have hle : decide ((e.a : Int) ≤ (a : Int)) = true := decide_eq_true (by omega)
          have HDR : Hid (okHo L = false) := by
            show _ = _
            rw [HF.out, HDR.out, decide_eq_false hlt2, Bool.false_and]
          go_wp2
          go_ret
          exact ⟨by rw [HDR.out]; rfl, BB.out⟩
      · obtain rfl : hn = k := by omega
        have HRR : Hid (okHo L = true) := by
          show _ = _
          rw [HF.out, ← HS.out.2, List.drop_of_length_le (by rw [HL.out]; omega)]
          rfl
        go_wp2
        go_ret
        exact ⟨by rw [HRR.out]; rfl, BB.out⟩
end Go.Proofs.YtiijbboigebhcaaGreatDoor
