import Derived.Test.YthbpacilceemlaaM51
namespace Go.Proofs.Ythbpacilceemlaa
open Go.RowKit Crc

theorem enc_len : ∀ (rs : List Rq), (∀ r ∈ rs, r.cn ≤ 700 ∧ r.cn = r.C.length) → (rs.map encR).flatten.length ≤ 730 * rs.length
  | [], _ => by simp
  | r :: t, h => by
    have ih := enc_len t (fun x hx => h x (by simp [hx]))
    obtain ⟨h1, h2⟩ := h r (by simp)
    have l1 := numTo_len 9 r.cl
    have l2 := numTo_len 9 r.sq
    have l3 := numTo_len 9 r.cn
    simp only [List.map_cons, List.flatten_cons, List.length_append, encR, List.length_cons, numB] at ih ⊢
    omega
theorem bRes_len {stamp : Nat} {rs : List Rq} (h : ∀ r ∈ rs, r.cn = r.C.length) : (bRes stamp rs).length ≤ 10000 := by
  unfold bRes
  split
  · rename_i hf
    obtain ⟨h1, h2, h3⟩ := bFault_ok hf
    have h4 := enc_len rs (fun r hr => ⟨(h3 r hr).2, h r hr⟩)
    have l1 := numTo_len 9 stamp
    have l2 := numTo_len 9 rs.length
    simp only [encL, List.length_append, numB]
    omega
  · simp
theorem same_enc : ∀ (rs1 rs2 : List Rq), rs1.map Rq.val = rs2.map Rq.val → (∀ r ∈ rs1, r.cn = r.C.length) → (∀ r ∈ rs2, r.cn = r.C.length) → (∀ i, bGo rs1 i = bGo rs2 i) ∧ rs1.map encR = rs2.map encR
  | [], [], _, _, _ => ⟨fun _ => rfl, rfl⟩
  | [], b :: t, h, _, _ => by simp at h
  | a :: t, [], h, _, _ => by simp at h
  | a :: t1, b :: t2, h, h1, h2 => by
    simp only [List.map_cons, List.cons.injEq, Rq.val, Prod.mk.injEq] at h
    obtain ⟨⟨e1, e2, e3⟩, e4⟩ := h
    have ih := same_enc t1 t2 (by simpa [Rq.val] using e4) (fun r hr => h1 r (by simp [hr])) (fun r hr => h2 r (by simp [hr]))
    have c1 : a.cn = b.cn := by rw [h1 a (by simp), h2 b (by simp), e3]
    have w1 : a.why = b.why := by unfold Rq.why; rw [e1, c1]
    refine ⟨fun i => ?_, ?_⟩
    · rw [bGo, bGo, w1, ih.1]
    · simp only [List.map_cons, ih.2, encR, e1, e2, e3, c1]
theorem same_res {stamp : Nat} {rs1 rs2 : List Rq} (h : rs1.map Rq.val = rs2.map Rq.val) (h1 : ∀ r ∈ rs1, r.cn = r.C.length) (h2 : ∀ r ∈ rs2, r.cn = r.C.length) : bFault stamp rs1 = bFault stamp rs2 ∧ bRes stamp rs1 = bRes stamp rs2 := by
  obtain ⟨e1, e2⟩ := same_enc rs1 rs2 h h1 h2
  have e3 : rs1.length = rs2.length := by have := congrArg List.length h; simpa using this
  have e4 : bFault stamp rs1 = bFault stamp rs2 := by unfold bFault; rw [e1, e3]
  refine ⟨e4, ?_⟩
  unfold bRes encL
  rw [e4, e2, e3]
theorem Rqs.cn {lim : Nat} {w : World} {ro : Option Addr} {rs : List Rq} {b off : Nat} (h : Rqs lim w ro rs b off) : ∀ r ∈ rs, r.cn = r.C.length := fun r hr => (h.ok r hr).hC.1

set_option maxRecDepth 10000 in
set_option maxHeartbeats 3200000 in
theorem batches_walk {w : World} (st : Nat) (hst : st < 18446744073709551616) {ro : Option Addr} {rs : List Rq} {b off : Nat} (rc : Nat) (h : Rqs w.heap.size w ro rs b off) {bo : Option Addr} {bn bc : Nat} {BB : List Nat} (hb : Shows w.heap.size w bo bn bc BB) (hbn : bn ≤ 140737488351232) :
    Calls Try.prog 6 #[.agg #[.int .u64 (st : Int), .slice ro rs.length rc], .slice bo bn bc] w fun e w' => e = .returned (.bool true) ∧ Below w.heap.size w w' := by
  obtain ⟨n, hn⟩ : ∃ n, rs.length = n := ⟨_, rfl⟩
  have hl0 := bRes_len (stamp := st) h.cn
  have HF : Hid (∀ rs1 : List Rq, rs1.map Rq.val = rs.map Rq.val → (∀ r ∈ rs1, r.cn = r.C.length) → bFault st rs1 = bFault st rs ∧ bRes st rs1 = bRes st rs) := fun rs1 h1 h2 => same_res h1 h2 h.cn
  have HR : Hid (∀ W, Below w.heap.size w W → Rqs W.heap.size W ro rs b off) := fun W hb => (h.below hb).wide hb.size
  have HBB : Hid (∀ W, Below w.heap.size w W → Shows W.heap.size W bo bn bc BB) := fun W h => (hb.belowL h).wide h.size
  have HE : Hid (∀ W, Below w.heap.size w W → Calls Try.prog 29 #[.agg #[.int .u64 (st : Int), .slice ro n rc]] W fun e w' => ∃ fo fc, e = .returned (.tuple #[.slice fo (bRes st rs).length fc, .agg #[.int .i64 (bFault st rs).2, .int .i64 ((bFault st rs).1 : Int)]]) ∧ Hid (Shows w'.heap.size w' fo (bRes st rs).length fc (bRes st rs) ∧ Below W.heap.size W w')) := fun W hb => by
    have h1 := encBatch_ref st hst rc (HR.out W hb)
    rw [hn] at h1
    refine h1.mono ?_
    rintro e w' ⟨v, rfl, H⟩
    obtain ⟨fo, fc, rfl, hs, _⟩ := H.out.1.form
    exact ⟨fo, fc, rfl, hs, H.out.2⟩
  have HC : Hid (∀ W, Below w.heap.size w W → Calls Try.prog 30 #[.agg #[.int .u64 (st : Int), .slice ro n rc]] W fun e w' => ∃ co cc, e = .returned (.agg #[.int .u64 (st : Int), .slice co n cc]) ∧ Hid (∃ rs1 b1, rs1.length = n ∧ Rqs w'.heap.size w' co rs1 b1 0 ∧ rs1.map Rq.val = rs.map Rq.val ∧ LentRs w' rs1 ∧ (∀ r ∈ rs1, ∀ b off, r.co = some ⟨b, off, none⟩ → b < w'.heap.size) ∧ Below W.heap.size W w')) := fun W hb => by
    have h1 := copyBatch_any st rc (HR.out W hb)
    rw [hn] at h1
    refine h1.mono ?_
    rintro e w' ⟨v, rs1, rfl, H⟩
    obtain ⟨h1, h2, h3, h4, h5⟩ := H.out
    obtain ⟨co, cc, b1, rfl, hr⟩ := h1.form
    have e1 : rs1.length = n := by have := congrArg List.length h2; simp at this; omega
    rw [e1]
    exact ⟨co, cc, rfl, rs1, b1, e1, hr, h2, h3, h4, h5⟩
  have HP : Hid (∀ W co cc rs1 b1, rs1.length = n → Rqs W.heap.size W co rs1 b1 0 → rs1.map Rq.val = rs.map Rq.val → (∀ r ∈ rs1, ∀ b off, r.co = some ⟨b, off, none⟩ → b < W.heap.size) → Calls Try.prog 31 #[.agg #[.int .u64 (st : Int), .slice co n cc]] W fun e w' => ∃ fo fc x, e = .returned (.tuple #[.slice fo (bRes st rs).length fc, x]) ∧ Hid (Shows w'.heap.size w' fo (bRes st rs).length fc (bRes st rs) ∧ ErrV w' x (bFault st rs).2 (bFault st rs).1 ∧ Below W.heap.size W w')) := fun W co cc rs1 b1 e1 h1 h2 h3 => by
    have h := encBatch_prog st hst cc h1 h3
    obtain ⟨f1, f2⟩ := HF.out rs1 h2 h1.cn
    rw [e1, f1, f2] at h
    refine h.mono ?_
    rintro e w' ⟨v, x, rfl, H⟩
    obtain ⟨fo, fc, rfl, hs, _⟩ := H.out.1.form
    exact ⟨fo, fc, x, rfl, hs, H.out.2.1, H.out.2.2⟩
  have HK : Hid (∀ W co cc rs1 b1, Below w.heap.size w W → rs1.length = n → Rqs W.heap.size W co rs1 b1 0 → rs1.map Rq.val = rs.map Rq.val → LentRs W rs1 → Calls Try.prog 33 #[.agg #[.int .u64 (st : Int), .slice co n cc], .agg #[.int .u64 (st : Int), .slice ro n rc]] W fun e w' => e = .returned (.bool true) ∧ Hid (Below W.heap.size W w')) := fun W co cc rs1 b1 hb e1 h1 h2 h3 => by
    have h := keptBatch_any st cc rc h1 (HR.out W hb) (Nat.le_refl _) (Nat.le_refl _) h2 h3
    rw [e1, hn] at h
    exact h
  rw [hn]
  clear h hb HF HR hst
  generalize bRes st rs = F at *
  generalize (bFault st rs).2 = c at *
  generalize ((bFault st rs).1 : Int) = a at *
  generalize hFL : F.length = L at *
  clear hFL
  obtain ⟨W1, hW1⟩ : ∃ W1, w.alloc (.cells #[.int .u64 (st : Int), .slice ro n rc] 71) = W1 := ⟨_, rfl⟩
  have S1 : Hid (Below w.heap.size w W1 ∧ W1.heap[w.heap.size]? = some (.cells #[.int .u64 (st : Int), .slice ro n rc] 71 (0, 0))) := by
    rw [← hW1]
    exact ⟨below_alloc1 w _, alloc_at _ _⟩
  have HW1 := hide hW1
  clear hW1
  go_enter Try.func6, Try.ntmps6
  go_wp2_with fail
  rw [HW1.out]
  refine (HE.out W1 S1.out.1).mono ?_
  rintro e w2 ⟨fo, fc, rfl, G2⟩
  obtain ⟨W3, hW3⟩ : ∃ W3, w2.alloc (.cells #[.int .i64 c, .int .i64 a] 34) = W3 := ⟨_, rfl⟩
  have b2 : w2.heap[w.heap.size]? = some (.cells #[.int .u64 (st : Int), .slice ro n rc] 71 (0, 0)) := (G2.out.2.block _ (block_lt S1.out.2)).trans S1.out.2
  have S3 : Hid (Below w.heap.size w W3 ∧ W3.heap[w.heap.size]? = some (.cells #[.int .u64 (st : Int), .slice ro n rc] 71 (0, 0)) ∧ NoB w2.heap.size c a W3 ∧ Shows W3.heap.size W3 fo L fc F) := by
    have gA := World.grownBy_alloc w2 (.cells #[.int .i64 c, .int .i64 a] 34) none
    have hb2 : Below w.heap.size w w2 := S1.out.1.trans (G2.out.2.mono S1.out.1.size)
    rw [← hW3]
    exact ⟨hb2.grown gA hb2.size (fun k e => by cases e), (gA.block _ (block_lt b2) (by simp)).trans b2, ⟨World.cell?_alloc_new _ _ _ _, World.cell?_alloc_new _ _ _ _⟩, (G2.out.1.kept gA (fun g e => by cases e)).wide gA.size⟩
  have hlt : w.heap.size < w2.heap.size := block_lt b2
  have p0 := block_cell b2 0
  have p1 := block_cell b2 1
  simp at p0 p1
  have HW3 := hide hW3
  clear hW3 b2 G2 S1 HW1 HE
  go_wp2_with fail
  rw [HW3.out]
  clear p0 p1 HW3
  generalize w2.heap.size = q2 at *
  refine (HC.out W3 S3.out.1).mono ?_
  rintro e w4 ⟨co, cc, rfl, G4⟩
  obtain ⟨W5, hW5⟩ : ∃ W5, w4.alloc (.cells #[.int .u64 (st : Int), .slice co n cc] 71) = W5 := ⟨_, rfl⟩
  have S5 : Hid (∃ rs1 b1, rs1.length = n ∧ Rqs W5.heap.size W5 co rs1 b1 0 ∧ rs1.map Rq.val = rs.map Rq.val ∧ LentRs W5 rs1 ∧ (∀ r ∈ rs1, ∀ b off, r.co = some ⟨b, off, none⟩ → b < W5.heap.size) ∧ Below w.heap.size w W5 ∧ W5.heap[w.heap.size]? = some (.cells #[.int .u64 (st : Int), .slice ro n rc] 71 (0, 0)) ∧ NoB q2 c a W5 ∧ Shows W5.heap.size W5 fo L fc F ∧ W5.heap[w4.heap.size]? = some (.cells #[.int .u64 (st : Int), .slice co n cc] 71 (0, 0))) := by
    obtain ⟨rs1, b1, h1, h2, h3, h4, h5, h6⟩ := G4.out
    obtain ⟨s1, s2, s3, s4⟩ := S3.out
    have gA := World.grownBy_alloc w4 (.cells #[.int .u64 (st : Int), .slice co n cc] 71) none
    have bA := below_alloc1 w4 (.cells #[.int .u64 (st : Int), .slice co n cc] 71)
    have g3 := grown_quiet (below_none h6) gA
    rw [← hW5]
    exact ⟨rs1, b1, h1, (h2.below bA).wide bA.size, h3, h4.below bA, fun r hr b off e => by have := h5 r hr b off e; have := bA.size; omega, s1.grown g3 s1.size (fun k e => by cases e), (g3.block _ (block_lt s2) (by simp)).trans s2, s3.quiet g3, (s4.kept g3 (fun g e => by cases e)).wide g3.size, alloc_at _ _⟩
  have HW5 := hide hW5
  clear hW5 G4 S3
  go_wp2_with fail
  rw [HW5.out]
  clear HW5
  obtain ⟨rs1, b1, h1, h2, h3, h4, h5, h6, h7, h8, h9, h10⟩ := S5.out
  clear S5
  refine (HP.out W5 co cc rs1 b1 h1 h2 h3 h5).mono ?_
  rintro e w6 ⟨fp, fd, x, rfl, G6⟩
  have S6 : Hid (Rqs w6.heap.size w6 co rs1 b1 0 ∧ LentRs w6 rs1 ∧ Below w.heap.size w w6 ∧ w6.heap[w.heap.size]? = some (.cells #[.int .u64 (st : Int), .slice ro n rc] 71 (0, 0)) ∧ NoB q2 c a w6 ∧ Shows w6.heap.size w6 fo L fc F ∧ w6.heap[w4.heap.size]? = some (.cells #[.int .u64 (st : Int), .slice co n cc] 71 (0, 0))) := by
    have hb := G6.out.2.2
    have g3 := below_none hb
    exact ⟨(h2.below hb).wide hb.size, h4.below hb, h6.grown g3 h6.size (fun k e => by cases e), (g3.block _ (block_lt h7) (by simp)).trans h7, h8.quiet g3, (h9.kept g3 (fun g e => by cases e)).wide g3.size, (g3.block _ (block_lt h10) (by simp)).trans h10⟩
  have G6' : Hid (Shows w6.heap.size w6 fp L fd F ∧ ErrV w6 x c a) := ⟨G6.out.1, G6.out.2.1⟩
  have H1 := hide h1
  have H3 := hide h3
  clear h1 h2 h3 h4 h5 h6 h7 h8 h9 h10 G6
  generalize w4.heap.size = q4 at *
  go_wp2_with fail
  refine (told_any G6'.out.2).mono ?_
  rintro e w7 ⟨rfl, k7, hk7⟩
  have S7 : Hid ((Rqs w7.heap.size w7 co rs1 b1 0 ∧ LentRs w7 rs1 ∧ Below w.heap.size w w7 ∧ w7.heap[w.heap.size]? = some (.cells #[.int .u64 (st : Int), .slice ro n rc] 71 (0, 0)) ∧ NoB q2 c a w7 ∧ Shows w7.heap.size w7 fo L fc F ∧ w7.heap[q4]? = some (.cells #[.int .u64 (st : Int), .slice co n cc] 71 (0, 0))) ∧ Shows w7.heap.size w7 fp L fd F) := by
    obtain ⟨s1, s2, s3, s4, s5, s6, s7⟩ := S6.out
    have hb : Below w6.heap.size w6 w7 := by rw [hk7]; exact below_dN (Below.refl _ _) k7
    have g3 := below_none hb
    exact ⟨⟨(s1.below hb).wide hb.size, s2.below hb, s3.grown g3 s3.size (fun k e => by cases e), (g3.block _ (block_lt s4) (by simp)).trans s4, s5.quiet g3, (s6.kept g3 (fun g e => by cases e)).wide g3.size, (g3.block _ (block_lt s7) (by simp)).trans s7⟩, (G6'.out.1.kept g3 (fun g e => by cases e)).wide g3.size⟩
  clear hk7 S6 G6'
  go_wp2_with fail
  refine (same_any S7.out.2 S7.out.1.2.2.2.2.2.1).mono ?_
  rintro e w8 ⟨rfl, k8, hk8⟩
  have S8 : Hid (Rqs w8.heap.size w8 co rs1 b1 0 ∧ LentRs w8 rs1 ∧ Below w.heap.size w w8 ∧ w8.heap[w.heap.size]? = some (.cells #[.int .u64 (st : Int), .slice ro n rc] 71 (0, 0)) ∧ NoB q2 c a w8 ∧ Shows w8.heap.size w8 fo L fc F ∧ w8.heap[q4]? = some (.cells #[.int .u64 (st : Int), .slice co n cc] 71 (0, 0))) := by
    obtain ⟨s1, s2, s3, s4, s5, s6, s7⟩ := S7.out.1
    have hb : Below w7.heap.size w7 w8 := by rw [hk8]; exact below_dN (Below.refl _ _) k8
    have g3 := below_none hb
    exact ⟨(s1.below hb).wide hb.size, s2.below hb, s3.grown g3 s3.size (fun k e => by cases e), (g3.block _ (block_lt s4) (by simp)).trans s4, s5.quiet g3, (s6.kept g3 (fun g e => by cases e)).wide g3.size, (g3.block _ (block_lt s7) (by simp)).trans s7⟩
  clear hk8 S7
  obtain ⟨n0, n1⟩ := S8.out.2.2.2.2.1
  have p0 := block_cell S8.out.2.2.2.1 0
  have p1 := block_cell S8.out.2.2.2.1 1
  have c0 := block_cell S8.out.2.2.2.2.2.2 0
  have c1 := block_cell S8.out.2.2.2.2.2.2 1
  simp at p0 p1 c0 c1
  go_wp2_with fail
  clear n0 n1 p0 p1 c0 c1
  refine (HK.out w8 co cc rs1 b1 S8.out.2.2.1 H1.out S8.out.1 H3.out S8.out.2.1).mono ?_
  rintro e w9 ⟨rfl, hb9⟩
  have S9 : Hid (Below w.heap.size w w9 ∧ Shows w9.heap.size w9 fo L fc F) := by
    obtain ⟨s1, s2, s3, s4, s5, s6, s7⟩ := S8.out
    have g3 := below_none hb9.out
    exact ⟨s3.grown g3 s3.size (fun k e => by cases e), (s6.kept g3 (fun g e => by cases e)).wide g3.size⟩
  clear S8 hb9 HK HP HC H1 H3
  go_wp2_with fail
  refine (batchRead_any S9.out.2 (Nat.le_refl _) (by omega)).mono ?_
  rintro e w10 ⟨rfl, hb10⟩
  have B10 := hide (S9.out.1.trans (hb10.out.mono S9.out.1.size))
  clear hb10 S9
  go_wp2_with fail
  refine (batchRead_any (HBB.out w10 B10.out) (Nat.le_refl _) hbn).mono ?_
  rintro e w11 ⟨rfl, hb11⟩
  go_wp2
  go_ret
  exact ⟨rfl, B10.out.trans (hb11.out.mono B10.out.size)⟩
end Go.Proofs.Ythbpacilceemlaa
