import Derived.Test.YtlnfkooimpmahaaGreatM45
import Derived.Test.YtlnfkooimpmahaaGreatM46
import Derived.Test.YtlnfkooimpmahaaGreatRRr
namespace Go.Proofs.YtlnfkooimpmahaaGreat
open Go.RowKit Crc

theorem Rqs.cnL {lim : Nat} {w : World} {ro : Option Addr} {rs : List Rq} {b off : Nat} (h : Rqs lim w ro rs b off) : ∀ r ∈ rs, r.cn = r.C.length := fun r hr => (h.ok r hr).hC.1
theorem same_encL : ∀ (rs1 rs2 : List Rq), rs1.map Rq.val = rs2.map Rq.val → (∀ r ∈ rs1, r.cn = r.C.length) → (∀ r ∈ rs2, r.cn = r.C.length) → (∀ i, bGo rs1 i = bGo rs2 i) ∧ rs1.map encR = rs2.map encR
  | [], [], _, _, _ => ⟨fun _ => rfl, rfl⟩
  | [], b :: t, h, _, _ => by simp at h
  | a :: t, [], h, _, _ => by simp at h
  | a :: t1, b :: t2, h, h1, h2 => by
    simp only [List.map_cons, List.cons.injEq, Rq.val, Prod.mk.injEq] at h
    obtain ⟨⟨e1, e2, e3⟩, e4⟩ := h
    have ih := same_encL t1 t2 (by simpa [Rq.val] using e4) (fun r hr => h1 r (by simp [hr])) (fun r hr => h2 r (by simp [hr]))
    have c1 : a.cn = b.cn := by rw [h1 a (by simp), h2 b (by simp), e3]
    have w1 : a.why = b.why := by unfold Rq.why; rw [e1, c1]
    refine ⟨fun i => ?_, ?_⟩
    · rw [bGo, bGo, w1, ih.1]
    · simp only [List.map_cons, ih.2, encR, e1, e2, e3, c1]
theorem same_rec {k : Int} {num : Nat} {node : Int} {slot st : Nat} {rs1 rs2 : List Rq} {m : Nat} {D : List Nat} (h : rs1.map Rq.val = rs2.map Rq.val) (h1 : ∀ r ∈ rs1, r.cn = r.C.length) (h2 : ∀ r ∈ rs2, r.cn = r.C.length) : rNo k num node slot st rs1 m = rNo k num node slot st rs2 m ∧ rRes k num node slot st rs1 m D = rRes k num node slot st rs2 m D := by
  obtain ⟨e1, e2⟩ := same_encL rs1 rs2 h h1 h2
  have e3 : rs1.length = rs2.length := by have := congrArg List.length h; simpa using this
  have e4 : bFault st rs1 = bFault st rs2 := by unfold bFault; rw [e1, e3]
  have e5 : rC3 k st rs1 = rC3 k st rs2 := by unfold rC3; rw [e4, e3]
  have e6 : rNo k num node slot st rs1 m = rNo k num node slot st rs2 m := by unfold rNo; rw [e5]
  refine ⟨e6, ?_⟩
  unfold rRes
  rw [e6]
  have e7 : encL st rs1 = encL st rs2 := by unfold encL; rw [e2, e3]
  have e8 : ∀ f : Fd, f.enc num node.toNat slot st rs1 m D = f.enc num node.toNat slot st rs2 m D := fun f => by
    cases f with
    | batch => exact e7
    | ballot => rfl
    | slot => rfl
    | snap => rfl
  have e9 : encRec k.toNat num node.toNat slot st rs1 m D = encRec k.toNat num node.toNat slot st rs2 m D := by
    unfold encRec encAll
    rw [show Fd.enc num node.toNat slot st rs1 m D = Fd.enc num node.toNat slot st rs2 m D from funext e8]
  rw [e9]
theorem rRes_len {k : Int} {num : Nat} {node : Int} {slot st : Nat} {rs : List Rq} {m : Nat} {D : List Nat} (hc : ∀ r ∈ rs, r.cn = r.C.length) (hd : m = D.length) : (rRes k num node slot st rs m D).length ≤ 65507 := by
  unfold rRes
  split
  · rename_i h0
    obtain ⟨ok, _⟩ := rNo_ok h0
    have e := layRec_ok (D := D) (s := WS1) ok hc hd rfl rfl rfl rfl
    have hi : ∀ (fs : List Fd) (s : WS), s.Inv → (layAll num node.toNat slot st rs m D fs s).Inv := by
      intro fs
      induction fs with
      | nil => intro s h; exact h
      | cons f t ih => intro s h; exact ih _ (lay_inv _ _ _ _ _ _ _ f h)
    have h1 := hi (fsOf k) (WS1.put (big k.toNat 1) 0) (WS.put_inv (fun _ => ⟨by simp [WS1], by simp [WS1]⟩) _ _)
    rw [e] at h1
    have h2 := (h1 rfl).2
    simp only [WS1] at h2
    omega
  · simp
/-- All that stands behind the encoding. -/
structure Wz (V0 w : World) (k : Int) (num : Nat) (node : Int) (slot st n m : Nat) (ro : Option Addr) (rc : Nat) (do_ : Option Addr) (dc : Nat) (co : Option Addr) (cc g : Nat) (rs rs1 : List Rq) (D : List Nat) (q2 q4 : Nat) (c a : Int) (fo : Option Addr) (L fc : Nat) (F : List Nat) (W : World) : Prop where
  bel : Below w.heap.size w W
  vb : W.heap[w.heap.size]? = some (.cells #[.int .i64 k, .int .u64 (num : Int), .int .i64 node, .int .u64 (slot : Int), .int .u64 (st : Int), .slice ro n rc, .slice do_ m dc] 31 (0, 0))
  no : NoB q2 c a W
  sf : Shows W.heap.size W fo L fc F
  cb : W.heap[q4]? = some (.cells #[.int .i64 k, .int .u64 (num : Int), .int .i64 node, .int .u64 (slot : Int), .int .u64 (st : Int), .slice co n cc, .slice (some ⟨g, 0, none⟩) m (m + 4)] 31 (0, 0))
  rl : Rl1 V0 n co cc rs rs1 W
  lt : Lent W g m D
theorem Wz.quiet {V0 w : World} {k : Int} {num : Nat} {node : Int} {slot st n m : Nat} {ro : Option Addr} {rc : Nat} {do_ : Option Addr} {dc : Nat} {co : Option Addr} {cc g : Nat} {rs rs1 : List Rq} {D : List Nat} {q2 q4 : Nat} {c a : Int} {fo : Option Addr} {L fc : Nat} {F : List Nat} {W W' : World} (h : Wz V0 w k num node slot st n m ro rc do_ dc co cc g rs rs1 D q2 q4 c a fo L fc F W) (hg : W.grownBy W' none) : Wz V0 w k num node slot st n m ro rc do_ dc co cc g rs rs1 D q2 q4 c a fo L fc F W' :=
  ⟨h.bel.grown hg h.bel.size (fun k e => by cases e), (hg.block _ (block_lt h.vb) (by simp)).trans h.vb, h.no.quiet hg, (h.sf.kept hg (fun g e => by cases e)).wide hg.size, (hg.block _ (block_lt h.cb) (by simp)).trans h.cb, h.rl.next hg (by cases (Value.slice co n cc).ownBlock <;> simp) (fun _ _ _ _ => by simp), h.lt.next hg (by simp)⟩
theorem Rl1.rqs {w : World} {n : Nat} {co : Option Addr} {cc : Nat} {rs rs1 : List Rq} {W : World} (h : Rl1 w n co cc rs rs1 W) : ∃ b1, Rqs W.heap.size W co rs1 b1 0 := by
  obtain ⟨ao, cap, b1, e, hr⟩ := h.own.form
  cases e
  exact ⟨b1, hr⟩

set_option maxRecDepth 10000 in
set_option maxHeartbeats 3200000 in
theorem records_walk {w : World} (k : Int) (num : Nat) (hnum : num < 18446744073709551616) (node : Int) (slot st : Nat) (hslot : slot < 18446744073709551616) (hst : st < 18446744073709551616) {ro : Option Addr} {rs : List Rq} {b off : Nat} (rc n : Nat) (hn : rs.length = n) (h : Rqs w.heap.size w ro rs b off) {do_ : Option Addr} {m dc : Nat} {D : List Nat} (hd : Shows w.heap.size w do_ m dc D) (hm : m ≤ 140737488351232) {bo : Option Addr} {bn bc : Nat} {BB : List Nat} (hb : Shows w.heap.size w bo bn bc BB) (hbn : bn ≤ 140737488351232) :
    Calls Tryz.prog 3 #[.agg #[.int .i64 k, .int .u64 (num : Int), .int .i64 node, .int .u64 (slot : Int), .int .u64 (st : Int), .slice ro n rc, .slice do_ m dc], .slice bo bn bc] w fun e w' => e = .returned (.bool true) ∧ Below w.heap.size w w' := by
  have hl0 := rRes_len (k := k) (num := num) (node := node) (slot := slot) (st := st) h.cnL hd.1
  have HDB : Hid (∀ x ∈ D, x < 256) := hd.2.2.2.1
  have HR : Hid (∀ W, Below w.heap.size w W → Rqs W.heap.size W ro rs b off) := fun W hb => (h.below hb).wide hb.size
  have HDD : Hid (∀ W, Below w.heap.size w W → Shows W.heap.size W do_ m dc D) := fun W hb => (hd.belowL hb).wide hb.size
  have HBB : Hid (∀ W, Below w.heap.size w W → Shows W.heap.size W bo bn bc BB) := fun W h => (hb.belowL h).wide h.size
  have HF : Hid (∀ rs1 : List Rq, rs1.map Rq.val = rs.map Rq.val → (∀ r ∈ rs1, r.cn = r.C.length) → rNo k num node slot st rs1 m = rNo k num node slot st rs m ∧ rRes k num node slot st rs1 m D = rRes k num node slot st rs m D) := fun rs1 h1 h2 => same_rec h1 h2 h.cnL
  have HE : Hid (∀ W, Below w.heap.size w W → Calls Tryz.prog 4 #[.agg #[.int .i64 k, .int .u64 (num : Int), .int .i64 node, .int .u64 (slot : Int), .int .u64 (st : Int), .slice ro n rc, .slice do_ m dc]] W fun e w' => ∃ fo fc, e = .returned (.tuple #[.slice fo (rRes k num node slot st rs m D).length fc, .agg #[.int .i64 (rNo k num node slot st rs m).1, .int .i64 (rNo k num node slot st rs m).2]]) ∧ Hid (Shows w'.heap.size w' fo (rRes k num node slot st rs m D).length fc (rRes k num node slot st rs m D) ∧ Below W.heap.size W w')) := fun W hb => by
    have h1 := encRec_ref (k := k) (num := num) (node := node) (slot := slot) (st := st) (rc := rc) (dc := dc) hnum hslot hst (HR.out W hb) hn (HDD.out W hb)
    unfold EnP at h1
    refine h1.mono ?_
    rintro e w' ⟨v, rfl, H⟩
    obtain ⟨fo, fc, rfl, hs, _⟩ := H.out.1.form
    exact ⟨fo, fc, rfl, hs, H.out.2⟩
  have HC : Hid (∀ W, Below w.heap.size w W → Calls Tryz.prog 5 #[.agg #[.int .i64 k, .int .u64 (num : Int), .int .i64 node, .int .u64 (slot : Int), .int .u64 (st : Int), .slice ro n rc, .slice do_ m dc]] W fun e w' => ∃ co cc g, e = .returned (.agg #[.int .i64 k, .int .u64 (num : Int), .int .i64 node, .int .u64 (slot : Int), .int .u64 (st : Int), .slice co n cc, .slice (some ⟨g, 0, none⟩) m (m + 4)]) ∧ Hid (∃ rs1, Rl1 W n co cc rs rs1 w' ∧ Lent w' g m D ∧ Below W.heap.size W w')) := fun W hb => copyRec_any k num node slot st rc n hn (HR.out W hb) (HDD.out W hb)
  have HP : Hid (∀ V0 W co cc g rs1, Rl1 V0 n co cc rs rs1 W → Lent W g m D → Calls Tryz.prog 6 #[.agg #[.int .i64 k, .int .u64 (num : Int), .int .i64 node, .int .u64 (slot : Int), .int .u64 (st : Int), .slice co n cc, .slice (some ⟨g, 0, none⟩) m (m + 4)]] W fun e w' => ∃ fo fc x, e = .returned (.tuple #[.slice fo (rRes k num node slot st rs m D).length fc, x]) ∧ Hid (Shows w'.heap.size w' fo (rRes k num node slot st rs m D).length fc (rRes k num node slot st rs m D) ∧ ErrV w' x (rNo k num node slot st rs m).1 (rNo k num node slot st rs m).2 ∧ Below W.heap.size W w')) := fun V0 W co cc g rs1 hl hg => by
    obtain ⟨b1, hr⟩ := hl.rqs
    obtain ⟨o1, o2⟩ := hl.lent.ok hl.num
    have hgl : g < W.heap.size := by
      obtain ⟨cur, hg2, _⟩ := own_block hg.2
      exact block_lt hg2
    have h1 := encRec_prog k num hnum node slot st hslot hst cc n hl.len hr o2 (hg.shows HDB.out (by omega)) (fun b off e => by cases e; exact hgl)
    obtain ⟨f1, f2⟩ := HF.out rs1 hl.val hr.cnL
    rw [f1, f2] at h1
    refine h1.mono ?_
    rintro e w' ⟨v, x, rfl, H⟩
    obtain ⟨fo, fc, rfl, hs, _⟩ := H.out.1.form
    exact ⟨fo, fc, x, rfl, hs, H.out.2.1, H.out.2.2⟩
  have HSR : Hid (∀ V0 W co cc g rs1, Below w.heap.size w W → Rl1 V0 n co cc rs rs1 W → Lent W g m D → Calls Tryz.prog 9 #[.agg #[.int .i64 k, .int .u64 (num : Int), .int .i64 node, .int .u64 (slot : Int), .int .u64 (st : Int), .slice co n cc, .slice (some ⟨g, 0, none⟩) m (m + 4)], .agg #[.int .i64 k, .int .u64 (num : Int), .int .i64 node, .int .u64 (slot : Int), .int .u64 (st : Int), .slice ro n rc, .slice do_ m dc]] W fun e w' => e = .returned (.bool true) ∧ Hid (Below W.heap.size W w')) := fun V0 W co cc g rs1 hb hl hg => by
    refine sameRec_any (fun W' hb' => ?_) (fun W' hb' => ?_)
    · have g' := below_none hb'
      obtain ⟨b1, hr⟩ := (hl.next g' (by cases (Value.slice co n cc).ownBlock <;> simp) (fun _ _ _ _ => by simp)).rqs
      have h1 := sameBatch_any st cc rc hr (HR.out W' (hb.trans (hb'.mono hb.size))) (Nat.le_refl _) (Nat.le_refl _) hl.val
      rw [hl.len, hn] at h1
      exact h1
    · have g' := below_none hb'
      exact (same_any ((hg.next g' (by simp)).shows HDB.out (by omega)) (HDD.out W' (hb.trans (hb'.mono hb.size)))).mono (fun _ _ h => ⟨h.1, by obtain ⟨q, hq⟩ := h.2; rw [hq]; exact below_dN (Below.refl _ _) q⟩)
  have HK : Hid (∀ V0 W co cc rs1, Below w.heap.size w W → Rl1 V0 n co cc rs rs1 W → Calls Tryz.prog 10 #[.agg #[.int .u64 (st : Int), .slice co n cc], .agg #[.int .u64 (st : Int), .slice ro n rc]] W fun e w' => e = .returned (.bool true) ∧ Hid (Below W.heap.size W w')) := fun V0 W co cc rs1 hb hl => by
    obtain ⟨b1, hr⟩ := hl.rqs
    have h := keptBatch_any st cc rc hr (HR.out W hb) (Nat.le_refl _) (Nat.le_refl _) hl.val hl.lent
    rw [hl.len, hn] at h
    exact h
  clear h hd hb HF HR hnum hslot hst HDB
  generalize rRes k num node slot st rs m D = F at *
  generalize (rNo k num node slot st rs m).1 = c at *
  generalize (rNo k num node slot st rs m).2 = a at *
  generalize hFL : F.length = L at *
  clear hFL
  obtain ⟨W1, hW1⟩ : ∃ W1, w.alloc (.cells #[.int .i64 k, .int .u64 (num : Int), .int .i64 node, .int .u64 (slot : Int), .int .u64 (st : Int), .slice ro n rc, .slice do_ m dc] 31) = W1 := ⟨_, rfl⟩
  have S1 : Hid (Below w.heap.size w W1 ∧ W1.heap[w.heap.size]? = some (.cells #[.int .i64 k, .int .u64 (num : Int), .int .i64 node, .int .u64 (slot : Int), .int .u64 (st : Int), .slice ro n rc, .slice do_ m dc] 31 (0, 0))) := by
    rw [← hW1]
    exact ⟨below_alloc1 w _, alloc_at _ _⟩
  have HW1 := hide hW1
  clear hW1
  go_enter Tryz.func3, Tryz.ntmps3
  go_wp2_with fail
  refine Calls.atW HW1.out ?_
  refine (HE.out W1 S1.out.1).mono ?_
  rintro e w2 ⟨fo, fc, rfl, G2⟩
  obtain ⟨W3, hW3⟩ : ∃ W3, w2.alloc (.cells #[.int .i64 c, .int .i64 a] 33) = W3 := ⟨_, rfl⟩
  have b2 : w2.heap[w.heap.size]? = some (.cells #[.int .i64 k, .int .u64 (num : Int), .int .i64 node, .int .u64 (slot : Int), .int .u64 (st : Int), .slice ro n rc, .slice do_ m dc] 31 (0, 0)) := (G2.out.2.block _ (block_lt S1.out.2)).trans S1.out.2
  have S3 : Hid (Below w.heap.size w W3 ∧ W3.heap[w.heap.size]? = some (.cells #[.int .i64 k, .int .u64 (num : Int), .int .i64 node, .int .u64 (slot : Int), .int .u64 (st : Int), .slice ro n rc, .slice do_ m dc] 31 (0, 0)) ∧ NoB w2.heap.size c a W3 ∧ Shows W3.heap.size W3 fo L fc F) := by
    have gA := World.grownBy_alloc w2 (.cells #[.int .i64 c, .int .i64 a] 33) none
    have hb2 : Below w.heap.size w w2 := S1.out.1.trans (G2.out.2.mono S1.out.1.size)
    rw [← hW3]
    exact ⟨hb2.grown gA hb2.size (fun k e => by cases e), (gA.block _ (block_lt b2) (by simp)).trans b2, ⟨World.cell?_alloc_new _ _ _ _, World.cell?_alloc_new _ _ _ _⟩, (G2.out.1.kept gA (fun g e => by cases e)).wide gA.size⟩
  have hlt : w.heap.size < w2.heap.size := block_lt b2
  obtain ⟨p0, p1, p2, p3, p4, p5, p6⟩ := cells7 b2
  have HW3 := hide hW3
  clear hW3 b2 G2 S1 HW1 HE
  go_wp2_with fail
  refine Calls.atW HW3.out ?_
  clear p0 p1 p2 p3 p4 p5 p6 HW3
  generalize w2.heap.size = q2 at *
  refine (HC.out W3 S3.out.1).mono ?_
  rintro e w4 ⟨co, cc, g, rfl, G4⟩
  obtain ⟨W5, hW5⟩ : ∃ W5, w4.alloc (.cells #[.int .i64 k, .int .u64 (num : Int), .int .i64 node, .int .u64 (slot : Int), .int .u64 (st : Int), .slice co n cc, .slice (some ⟨g, 0, none⟩) m (m + 4)] 31) = W5 := ⟨_, rfl⟩
  have S5 : Hid (∃ rs1, Wz W3 w k num node slot st n m ro rc do_ dc co cc g rs rs1 D q2 w4.heap.size c a fo L fc F W5) := by
    obtain ⟨rs1, h1, h2, h6⟩ := G4.out
    obtain ⟨s1, s2, s3, s4⟩ := S3.out
    have gA := World.grownBy_alloc w4 (.cells #[.int .i64 k, .int .u64 (num : Int), .int .i64 node, .int .u64 (slot : Int), .int .u64 (st : Int), .slice co n cc, .slice (some ⟨g, 0, none⟩) m (m + 4)] 31) none
    have g3 := grown_quiet (below_none h6) gA
    rw [← hW5]
    exact ⟨rs1, s1.grown g3 s1.size (fun k e => by cases e), (g3.block _ (block_lt s2) (by simp)).trans s2, s3.quiet g3, (s4.kept g3 (fun g e => by cases e)).wide g3.size, alloc_at _ _, h1.next gA (by cases (Value.slice co n cc).ownBlock <;> simp) (fun _ _ _ _ => by simp), h2.next gA (by simp)⟩
  have HW5 := hide hW5
  clear hW5 G4 S3
  go_wp2_with fail
  refine Calls.atW HW5.out ?_
  clear HW5
  obtain ⟨rs1, z5⟩ := S5.out
  have Z5 := hide z5
  clear S5 z5
  generalize w4.heap.size = q4 at *
  refine (HP.out W3 W5 co cc g rs1 Z5.out.rl Z5.out.lt).mono ?_
  rintro e w6 ⟨fp, fd, x, rfl, G6⟩
  have Z6 := hide (Z5.out.quiet (below_none G6.out.2.2))
  have G6' : Hid (Shows w6.heap.size w6 fp L fd F ∧ ErrV w6 x c a) := ⟨G6.out.1, G6.out.2.1⟩
  clear G6 Z5
  go_wp2_with fail
  refine (told_any G6'.out.2).mono ?_
  rintro e w7 ⟨rfl, k7, hk7⟩
  have hb7 : Below w6.heap.size w6 w7 := by rw [hk7]; exact below_dN (Below.refl _ _) k7
  have Z7 := hide (Z6.out.quiet (below_none hb7))
  have F7 := hide ((G6'.out.1.kept (below_none hb7) (fun g e => by cases e)).wide hb7.size)
  clear hk7 hb7 Z6 G6'
  go_wp2_with fail
  refine (same_any F7.out Z7.out.sf).mono ?_
  rintro e w8 ⟨rfl, k8, hk8⟩
  have hb8 : Below w7.heap.size w7 w8 := by rw [hk8]; exact below_dN (Below.refl _ _) k8
  have Z8 := hide (Z7.out.quiet (below_none hb8))
  clear hk8 hb8 Z7 F7
  obtain ⟨n0, n1⟩ := Z8.out.no
  obtain ⟨p0, p1, p2, p3, p4, p5, p6⟩ := cells7 Z8.out.vb
  obtain ⟨c0, c1, c2, c3, c4, c5, c6⟩ := cells7 Z8.out.cb
  go_wp2_with fail
  clear n0 n1 p0 p1 p2 p3 p4 p5 p6 c0 c1 c2 c3 c4 c5 c6
  refine (HSR.out W3 w8 co cc g rs1 Z8.out.bel Z8.out.rl Z8.out.lt).mono ?_
  rintro e w9 ⟨rfl, hb9⟩
  have Z9 := hide (Z8.out.quiet (below_none hb9.out))
  clear hb9 Z8
  obtain ⟨p0, p1, p2, p3, p4, p5, p6⟩ := cells7 Z9.out.vb
  obtain ⟨c0, c1, c2, c3, c4, c5, c6⟩ := cells7 Z9.out.cb
  go_wp2_with fail
  clear p0 p1 p2 p3 p4 p5 p6 c0 c1 c2 c3 c4 c5 c6
  refine (HK.out W3 w9 co cc rs1 Z9.out.bel Z9.out.rl).mono ?_
  rintro e w10 ⟨rfl, hb10⟩
  have Z10 := hide (Z9.out.quiet (below_none hb10.out))
  clear hb10 Z9
  obtain ⟨p0, p1, p2, p3, p4, p5, p6⟩ := cells7 Z10.out.vb
  obtain ⟨c0, c1, c2, c3, c4, c5, c6⟩ := cells7 Z10.out.cb
  go_wp2_with fail
  clear p0 p1 p2 p3 p4 p5 p6 c0 c1 c2 c3 c4 c5 c6
  refine (kept_sh (HDD.out w10 Z10.out.bel) Z10.out.lt).mono ?_
  rintro e w11 ⟨rfl, k11, hk11⟩
  have hb11 : Below w10.heap.size w10 w11 := by rw [hk11]; exact below_dN (Below.refl _ _) k11
  have Z11 := hide (Z10.out.quiet (below_none hb11))
  clear hk11 hb11 Z10 HK HP HC HSR
  go_wp2_with fail
  refine (recordRead_any Z11.out.sf (Nat.le_refl _) (by omega)).mono ?_
  rintro e w12 ⟨rfl, hb12⟩
  have B12 := hide (Z11.out.bel.trans (hb12.out.mono Z11.out.bel.size))
  clear hb12 Z11
  go_wp2_with fail
  refine (recordRead_any (HBB.out w12 B12.out) (Nat.le_refl _) hbn).mono ?_
  rintro e w13 ⟨rfl, hb13⟩
  go_wp2
  go_ret
  exact ⟨rfl, B12.out.trans (hb13.out.mono B12.out.size)⟩
end Go.Proofs.YtlnfkooimpmahaaGreat
