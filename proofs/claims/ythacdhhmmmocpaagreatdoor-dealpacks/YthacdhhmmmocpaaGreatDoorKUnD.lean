import Derived.Test.YthacdhhmmmocpaaGreatDoorM46
import Derived.Test.YthacdhhmmmocpaaGreatDoorPReadsE
import Derived.Test.YthacdhhmmmocpaaGreatDoorPRefText
namespace Go.Proofs.YthacdhhmmmocpaaGreatDoor
open Go.RowKit Crc

/-- What the reference's Unpack hands out. -/
def RuP (B : List Nat) (w : World) (e : Ending) (w' : World) : Prop := ∃ ao cap, e = .returned (.tuple #[.agg (unA B).1.cells, .agg #[.slice ao (unA B).2.1.length cap, .int .i64 (unA B).2.2]]) ∧ Hid ((∃ b off, FV w'.heap.size w' ao (unA B).2.1 b off) ∧ Below w.heap.size w w')
theorem rp_grown {w : World} {c : Cd} {W W' : World} {row : Option Nat} (h : Rp w c W) (hg : W.grownBy W' row) (hr : ∀ g, row = some g → w.heap.size + 1 < g) : Rp w c W' := by
  refine ⟨h.bel.grown hg h.bel.size (fun k e => by have := hr k e; omega), (hg.block _ (block_lt h.box) (fun e => by have := hr _ e.symm; omega)).trans h.box, (hg.block _ (block_lt h.res) (fun e => by have := hr _ e.symm; omega)).trans h.res⟩
theorem fv_ne8 {w : World} {ao : Option Addr} {L : List Lk} {b off B : Nat} {lim : Nat} {c : Cd} {t : TypeId} (hf : FV lim w ao L b off) (hB : w.heap[B]? = some (.cells #[.int .i64 c.verb, .int .u64 (c.deal : Int), .int .u64 (c.acct : Int), .int .u64 (c.to_ : Int), .int .u64 (c.arb : Int), .int .u64 (c.amt : Int), .int .u64 (c.due : Int), .string c.terms] t (0, 0))) : 0 < L.length → b ≠ B := fun h0 e => by
  obtain ⟨h1, h2⟩ := hf.at_ 0 _ (List.getElem?_eq_getElem h0)
  have e2 : off + 0 * 2 = off := by omega
  rw [e2, e, block_cell hB off] at h1
  rw [e2, e, block_cell hB (off + 1)] at h2
  rcases off with _ | _ | _ | _ | _ | _ | _ | _ | k <;> simp at h1 h2
theorem fv_grown {lim : Nat} {W W' : World} {ao : Option Addr} {L : List Lk} {b off q : Nat} (h : FV lim W ao L b off) (hg : W.grownBy W' (some q)) (hB : 0 < L.length → b ≠ q) : FV lim W' ao L b off :=
  ⟨h.ad, h.lt, h.le, fun i l hl => by
    have hp : 0 < L.length := by have := (List.getElem?_eq_some_iff.1 hl).1; omega
    have hne : some b ≠ some q := fun e => hB hp (by cases e; rfl)
    exact ⟨hg.cell (h.at_ i l hl).1 hne, hg.cell (h.at_ i l hl).2 hne⟩⟩
theorem ru_end {w W w2 : World} {L : List Lk} {ao : Option Addr} {b off : Nat} (h : Rp w (Cd.zero 0) W) (hf : FV w2.heap.size w2 ao L b off) (hb : Below W.heap.size W w2) (x0 x1 x2 x3 x4 x5 x6 x7 x y : Value) : (∃ b off, FV (((st8 w2 w.heap.size x0 x1 x2 x3 x4 x5 x6 x7).setCell ⟨w.heap.size + 1, 0, none⟩ x).setCell ⟨w.heap.size + 1, 1, none⟩ y).heap.size (((st8 w2 w.heap.size x0 x1 x2 x3 x4 x5 x6 x7).setCell ⟨w.heap.size + 1, 0, none⟩ x).setCell ⟨w.heap.size + 1, 1, none⟩ y) ao L b off) ∧ Below w.heap.size w (((st8 w2 w.heap.size x0 x1 x2 x3 x4 x5 x6 x7).setCell ⟨w.heap.size + 1, 0, none⟩ x).setCell ⟨w.heap.size + 1, 1, none⟩ y) := by
  have g := st8_grown w2 w.heap.size x0 x1 x2 x3 x4 x5 x6 x7
  have h2 := h.next hb
  have n8 := fv_ne8 hf h2.box
  have n2 := fv_ne hf h2.res
  have f1 := (fv_grown hf g n8).wide g.size
  exact ⟨⟨b, off, f1.set2 n2 x y⟩, bel_set2 (h2.bel.grown g h2.bel.size (fun k e => by cases e; exact Nat.le_refl _)) (by omega) x y⟩
theorem un1_place (B : List Nat) : (un1 B).place = 0 ∧ (un1 B).made = true := by
  unfold un1 RS.step
  split
  · split
    · exact ⟨rfl, rfl⟩
    · exact ⟨rfl, rfl⟩
  · exact ⟨rfl, rfl⟩

/-- Between two fields of the reference's reading. -/
structure Ru (w : World) (d p cb : Nat) (x : RS × Cd) (W : World) : Prop where
  rd : RefS d W p x.1
  box : W.heap[cb]? = some (.cells x.2.cells 25 (0, 0))
  rp : Rp w (Cd.zero 0) W
theorem Ru.read {w : World} {d p cb : Nat} {s s' : RS} {c : Cd} {W W' : World} (h : Ru w d p cb (s, c) W) (hp : w.heap.size + 1 < p) (hc : p < cb) (h1 : RefS d W' p s') (hg : W.grownBy W' (some p)) : Ru w d p cb (s', c) W' :=
  ⟨h1, (hg.block _ (block_lt h.box) (by simp; omega)).trans h.box, rp_grown h.rp hg (fun k e => by cases e; exact hp)⟩
theorem Ru.store {w : World} {d p cb : Nat} {s : RS} {c : Cd} {W : World} (h : Ru w d p cb (s, c) W) (hp : w.heap.size + 1 < p) (hc : p < cb) (hd : d ≤ p) (j : Nat) (v : Value) (c' : Cd) (e : c'.cells = c.cells.setIfInBounds j v) : Ru w d p cb (s, c') (W.setCell ⟨cb, j, none⟩ v) := by
  have g := grown_set W cb j v
  refine ⟨h.rd.kept g (by simp; omega) (by simp; omega), ?_, rp_grown h.rp g (fun k e => by cases e; omega)⟩
  rw [heap_setCell_same W cb j _ _ v h.box]
  show _ = some (Obj.cells c'.cells _ _)
  rw [e]

set_option maxRecDepth 10000 in
set_option maxHeartbeats 4000000 in
theorem runpack_any {lim : Nat} {w : World} {ao : Option Addr} {n cap : Nat} {B : List Nat} (h : Shows lim w ao n cap B) (hlw : lim ≤ w.heap.size) :
    Calls Tryz.prog 11 #[.slice ao n cap] w (RuP B w) := by
  obtain ⟨W2, hW2⟩ : ∃ W2, (w.alloc (.cells #[.int .i64 0, .int .u64 0, .int .u64 0, .int .u64 0, .int .u64 0, .int .u64 0, .int .u64 0, .string ⟨#[]⟩] 25)).alloc (.cells #[.slice none 0 0, .int .i64 0] 33) = W2 := ⟨_, rfl⟩
  have r2 : Rp w (Cd.zero 0) W2 := by rw [← hW2]; exact rp_new w (Cd.zero 0)
  have s2 : W2.heap.size = w.heap.size + 1 + 1 := by rw [← hW2]; simp
  have HN := hide (refNew_any (h.kept (below_none r2.bel) (fun k e => by cases e)) (Nat.le_trans hlw r2.bel.size))
  have hb256 : ∀ x ∈ (RSn B).rest, x < 256 := fun x hx => h.2.2.2.1 x (List.mem_of_mem_drop hx)
  have hv256 := hi_take_lt (k := 1) hb256
  obtain ⟨hpl0, hmd⟩ := un1_place B
  have hE1 : (un1 B).errC = (un1 B).why := by unfold RS.errC; rw [if_pos hmd]
  have hE2 : (un1 B).errA = 0 := by unfold RS.errA; rw [if_pos hmd]; exact hpl0
  have U1 : Hid ((un1 B).why ≠ 0 → unA B = (Cd.zero 0, [⟨dealN, 0⟩, ⟨wireN, 0⟩], (un1 B).why)) := fun h => by
    have : (un1 B).errC ≠ 0 := by rw [hE1]; exact h
    unfold unA; rw [if_pos this, hE2, hE1]
  have U2 : Hid ((un1 B).why = 0 → ¬ (1 ≤ unV B ∧ unV B ≤ 13) → unA B = (Cd.zero 0, [⟨dealN, 0⟩], 100)) := fun h h2 => by unfold unA; rw [if_neg (fun e => e (hE1.trans h)), if_pos h2]
  have U3 : Hid ((un1 B).why = 0 → 1 ≤ unV B ∧ unV B ≤ 13 → (rdAll (unV B) (un1 B)).1.endC ≠ 0 → unA B = (Cd.zero 0, [⟨dealN, (rdAll (unV B) (un1 B)).1.endA⟩, ⟨wireN, (rdAll (unV B) (un1 B)).1.endA⟩], (rdAll (unV B) (un1 B)).1.endC)) := fun h h2 h3 => by unfold unA; rw [if_neg (fun e => e (hE1.trans h)), if_neg (fun e => e h2), if_pos h3]
  have U4 : Hid ((un1 B).why = 0 → 1 ≤ unV B ∧ unV B ≤ 13 → (rdAll (unV B) (un1 B)).1.endC = 0 → unA B = ((rdAll (unV B) (un1 B)).2, [], 0)) := fun h h2 h3 => by unfold unA; rw [if_neg (fun e => e (hE1.trans h)), if_neg (fun e => e h2), if_neg (fun e => e h3)]
  have HUV : Hid (unV B = ((hi (aheadV (RSn B).rest 1) : Nat) : Int)) := rfl
  have HPM : Hid ((un1 B).place = 0 ∧ (un1 B).made = true) := ⟨hpl0, hmd⟩
  have R2 := hide r2
  have HS2 := hide s2
  have HW2 := hide hW2
  clear h hb256 hW2 s2 r2 hE1 hE2 hpl0 hmd
  go_enter Tryz.func11, Tryz.ntmps11
  go_wp2_with fail
  rw [HW2.out]
  refine HN.out.mono ?_
  rintro e w1 ⟨p, d, rfl, hp, hd, hdp, hR, hb1⟩
  have hp1 : w.heap.size + 1 < p := by have := HS2.out; omega
  have hd1 : w.heap.size + 1 < d := by have := HS2.out; omega
  have HF := hide (refFixed_any d p (RSn B) 1 1 w1 rfl (by omega) (by omega) hR)
  have hpw := refS_size hR
  have R3 := hide (R2.out.next hb1)
  clear hR hb1 HN R2 HS2 HW2 hp hd
  go_wp2_with fail
  refine HF.out.mono ?_
  rintro e w2 ⟨rfl, hR2, hg2⟩
  have hR2 : RefS d w2 p (un1 B) := hR2
  have R4 := hide (rp_grown R3.out hg2 (fun k e => by cases e; exact hp1))
  have hpw2 := refS_size hR2
  have HR2 := hide hR2
  clear HF hpw R3 hg2 hR2
  generalize hi (aheadV (RSn B).rest 1) = vv at *
  generalize unV B = uv at *
  obtain rfl := HUV.out
  generalize un1 B = s1 at *
  by_cases hs : s1.why = 0
  · have HDD := hide (dead_sound d p s1 w2 HR2.out ⟨HPM.out.2, hs⟩)
    by_cases hvb : 1 ≤ (vv : Int) ∧ (vv : Int) ≤ 13
    · have UA := hide (U3.out hs hvb)
      have UB := hide (U4.out hs hvb)
      have HFI := hide (fields5 (vv : Int) hvb.1 hvb.2)
      have HFS := hide (fstr_is hvb.1 hvb.2)
      have HLN := hide (fds_len (vv : Int))
      have HM : Hid (∀ k f, (fds (vv : Int))[k]? = some f → 1 ≤ f ∧ f ≤ 7) := fun k f hf => fds_mem (List.mem_of_getElem? hf)
      have HRA : Hid (rdAll (vv : Int) s1 = (fds (vv : Int)).foldl rdF (s1, Cd.zero (vv : Int))) := rfl
      generalize rdAll (vv : Int) s1 = ra at *
      have d1 : decide ((vv : Int) < 1) = false := by simp; omega
      have d2 : decide ((vv : Int) > 13) = false := by simp; omega
      have hvb1 := hvb.1
      have hvb2 := hvb.2
      clear U1 U2 U3 U4 hs hvb
      obtain ⟨S, hS⟩ : ∃ S, fstr (vv : Int) = S := ⟨_, rfl⟩
      rw [hS] at HFI HFS
      have HLS : Hid (S.size = (fds (vv : Int)).length ∧ ∀ (j : Nat) (h : j < S.size) (f : Nat), (fds (vv : Int))[j]? = some f → (S[j]'h).toNat = ltr f) := by
        have e := HFS.out
        have e1 : S.size = (fds (vv : Int)).length := by have := congrArg List.length e; simpa [strB] using this
        refine ⟨e1, fun j h f hf => ?_⟩
        have e2 := congrArg (fun l : List Nat => l[j]?) e
        simp only [List.getElem?_map, hf, Option.map_some] at e2
        have e3 : (strB S)[j]? = some ((S[j]'h).toNat) := by
          unfold strB
          rw [List.getElem?_map, List.getElem?_eq_getElem (by simpa using h)]
          rfl
        rw [e3] at e2
        exact Option.some.inj e2
      clear hS HFS
      go_wp2_with fail
      refine HDD.out.mono ?_
      rintro e w3 ⟨rfl, hw3⟩
      rw [hw3]
      clear hw3 HDD
      go_wp2_with fail
      refine (HFI.out _).mono ?_
      rintro e w3 ⟨rfl, hw3⟩
      rw [hw3]
      clear hw3 HFI
      go_wp2
      have RU0 : Hid (∀ W, W = w2.alloc (.cells #[.int .i64 (vv : Int), .int .u64 0, .int .u64 0, .int .u64 0, .int .u64 0, .int .u64 0, .int .u64 0, .string ⟨#[]⟩] 25) → Ru w d p w2.heap.size (s1, Cd.zero (vv : Int)) W) := fun W e => by
        have g : w2.grownBy W none := by rw [e]; exact World.grownBy_alloc _ _ none
        refine ⟨HR2.out.kept g (by simp) (by simp), ?_, rp_grown R4.out g (fun k e => by cases e)⟩
        rw [e]
        exact alloc_atK _ _
      have RU1 := hide (RU0.out _ rfl)
      clear RU0 R4 HR2
      generalize w2.heap.size = cb at *
      have HFL : Hid (S.size = (fds (vv : Int)).length) := HLS.out.1
      have hS7 : S.size ≤ 7 := by rw [HLS.out.1]; exact (fds_len (vv : Int)).2
      go_loopw [8] (fun i wr => ∃ k : Nat, k ≤ S.size ∧ i = .int .i64 k ∧ Hid (Ru w d p cb (((fds (vv : Int)).take k).foldl rdF (s1, Cd.zero (vv : Int))) wr)) (fun i _ => S.size - (intOf i).toNat)
      case atStart => exact ⟨0, by omega, rfl, RU1.out⟩
      case round =>
        obtain ⟨k, hk, rfl, HR⟩ := hrel
        clear RU1
        by_cases hltS : k < S.size
        · obtain ⟨f, hf⟩ : ∃ f, (fds (vv : Int))[k]? = some f := ⟨_, List.getElem?_eq_getElem (by rw [← HFL.out]; exact hltS)⟩
          have hy := HLS.out.2 k hltS f hf
          have HFO : Hid (((fds (vv : Int)).take (k + 1)).foldl rdF (s1, Cd.zero (vv : Int)) = rdF (((fds (vv : Int)).take k).foldl rdF (s1, Cd.zero (vv : Int))) f) := by
            show _ = _
            rw [List.take_add_one, hf]
            simp
          obtain ⟨hf1, hf7⟩ := HM.out k f hf
          clear hf
          generalize ((fds (vv : Int)).take k).foldl rdF (s1, Cd.zero (vv : Int)) = xx at *
          obtain ⟨ss, cc⟩ := xx
          rcases (by omega : f = 7 ∨ f = 1 ∨ f = 2 ∨ f = 3 ∨ f = 4 ∨ f = 5 ∨ f = 6) with rfl | rfl | rfl | rfl | rfl | rfl | rfl
          · have hy : (S[k]'hltS).toNat = 88 := hy
            have HT := hide (refText_any d p ss 512 wr HR.out.rd (by omega) (by omega) _ rfl)
            have NX : Hid (∀ W', RefS d W' p (ss.step (txA ss).2.1 (txA ss).2.2) → wr.grownBy W' (some p) → W'.heap[cb]? = some (.cells cc.cells 25 (0, 0)) ∧ Ru w d p cb (((fds (vv : Int)).take (k + 1)).foldl rdF (s1, Cd.zero (vv : Int))) (W'.setCell ⟨cb, 7, none⟩ (.string (txA ss).1))) := fun W' h1 hg => by
              have r1 := HR.out.read hp1 hpw2 h1 hg
              rw [HFO.out]
              exact ⟨r1.box, r1.store hp1 hpw2 hdp 7 (.string (txA ss).1) { cc with terms := (txA ss).1 } rfl⟩
            go_wp2_with fail
            refine HT.out.mono ?_
            rintro e W' ⟨rfl, hr', hg'⟩
            obtain ⟨q, fin⟩ := NX.out W' hr' hg'
            have FIN := hide fin
            have z := block_cell q 7
            have fz := block_free q 7
            simp [Cd.cells] at z
            clear hr' hg' q fin
            go_wp2
            go_roundw
            case rel => exact ⟨k + 1, by omega, by go_num, FIN.out⟩
            case measure => simp [intOf]; omega
          · have hy : (S[k]'hltS).toNat = 68 := hy
            have HT := hide (refNum_any d p ss wr HR.out.rd)
            have NX : Hid (∀ W', RefS d W' p (ss.step (numAt ss.rest).2.1 (numAt ss.rest).2.2) → wr.grownBy W' (some p) → W'.heap[cb]? = some (.cells cc.cells 25 (0, 0)) ∧ Ru w d p cb (((fds (vv : Int)).take (k + 1)).foldl rdF (s1, Cd.zero (vv : Int))) (W'.setCell ⟨cb, 1, none⟩ (.int .u64 ((numAt ss.rest).1 : Nat)))) := fun W' h1 hg => by
              have r1 := HR.out.read hp1 hpw2 h1 hg
              rw [HFO.out]
              exact ⟨r1.box, r1.store hp1 hpw2 hdp 1 (.int .u64 ((numAt ss.rest).1 : Nat)) (cc.set 1 (numAt ss.rest).1) rfl⟩
            go_wp2_with fail
            refine HT.out.mono ?_
            rintro e W' ⟨rfl, hr', hg'⟩
            obtain ⟨q, fin⟩ := NX.out W' hr' hg'
            have FIN := hide fin
            have z := block_cell q 1
            have fz := block_free q 1
            simp [Cd.cells] at z
            clear hr' hg' q fin
            go_wp2
            go_roundw
            case rel => exact ⟨k + 1, by omega, by go_num, FIN.out⟩
            case measure => simp [intOf]; omega
          · have hy : (S[k]'hltS).toNat = 65 := hy
            have HT := hide (refNum_any d p ss wr HR.out.rd)
            have NX : Hid (∀ W', RefS d W' p (ss.step (numAt ss.rest).2.1 (numAt ss.rest).2.2) → wr.grownBy W' (some p) → W'.heap[cb]? = some (.cells cc.cells 25 (0, 0)) ∧ Ru w d p cb (((fds (vv : Int)).take (k + 1)).foldl rdF (s1, Cd.zero (vv : Int))) (W'.setCell ⟨cb, 2, none⟩ (.int .u64 ((numAt ss.rest).1 : Nat)))) := fun W' h1 hg => by
              have r1 := HR.out.read hp1 hpw2 h1 hg
              rw [HFO.out]
              exact ⟨r1.box, r1.store hp1 hpw2 hdp 2 (.int .u64 ((numAt ss.rest).1 : Nat)) (cc.set 2 (numAt ss.rest).1) rfl⟩
            go_wp2_with fail
            refine HT.out.mono ?_
            rintro e W' ⟨rfl, hr', hg'⟩
            obtain ⟨q, fin⟩ := NX.out W' hr' hg'
            have FIN := hide fin
            have z := block_cell q 2
            have fz := block_free q 2
            simp [Cd.cells] at z
            clear hr' hg' q fin
            go_wp2
            go_roundw
            case rel => exact ⟨k + 1, by omega, by go_num, FIN.out⟩
            case measure => simp [intOf]; omega
          · have hy : (S[k]'hltS).toNat = 84 := hy
            have HT := hide (refNum_any d p ss wr HR.out.rd)
            have NX : Hid (∀ W', RefS d W' p (ss.step (numAt ss.rest).2.1 (numAt ss.rest).2.2) → wr.grownBy W' (some p) → W'.heap[cb]? = some (.cells cc.cells 25 (0, 0)) ∧ Ru w d p cb (((fds (vv : Int)).take (k + 1)).foldl rdF (s1, Cd.zero (vv : Int))) (W'.setCell ⟨cb, 3, none⟩ (.int .u64 ((numAt ss.rest).1 : Nat)))) := fun W' h1 hg => by
              have r1 := HR.out.read hp1 hpw2 h1 hg
              rw [HFO.out]
              exact ⟨r1.box, r1.store hp1 hpw2 hdp 3 (.int .u64 ((numAt ss.rest).1 : Nat)) (cc.set 3 (numAt ss.rest).1) rfl⟩
            go_wp2_with fail
            refine HT.out.mono ?_
            rintro e W' ⟨rfl, hr', hg'⟩
            obtain ⟨q, fin⟩ := NX.out W' hr' hg'
            have FIN := hide fin
            have z := block_cell q 3
            have fz := block_free q 3
            simp [Cd.cells] at z
            clear hr' hg' q fin
            go_wp2
            go_roundw
            case rel => exact ⟨k + 1, by omega, by go_num, FIN.out⟩
            case measure => simp [intOf]; omega
          · have hy : (S[k]'hltS).toNat = 82 := hy
            have HT := hide (refNum_any d p ss wr HR.out.rd)
            have NX : Hid (∀ W', RefS d W' p (ss.step (numAt ss.rest).2.1 (numAt ss.rest).2.2) → wr.grownBy W' (some p) → W'.heap[cb]? = some (.cells cc.cells 25 (0, 0)) ∧ Ru w d p cb (((fds (vv : Int)).take (k + 1)).foldl rdF (s1, Cd.zero (vv : Int))) (W'.setCell ⟨cb, 4, none⟩ (.int .u64 ((numAt ss.rest).1 : Nat)))) := fun W' h1 hg => by
              have r1 := HR.out.read hp1 hpw2 h1 hg
              rw [HFO.out]
              exact ⟨r1.box, r1.store hp1 hpw2 hdp 4 (.int .u64 ((numAt ss.rest).1 : Nat)) (cc.set 4 (numAt ss.rest).1) rfl⟩
            go_wp2_with fail
            refine HT.out.mono ?_
            rintro e W' ⟨rfl, hr', hg'⟩
            obtain ⟨q, fin⟩ := NX.out W' hr' hg'
            have FIN := hide fin
            have z := block_cell q 4
            have fz := block_free q 4
            simp [Cd.cells] at z
            clear hr' hg' q fin
            go_wp2
            go_roundw
            case rel => exact ⟨k + 1, by omega, by go_num, FIN.out⟩
            case measure => simp [intOf]; omega
          · have hy : (S[k]'hltS).toNat = 77 := hy
            have HT := hide (refNum_any d p ss wr HR.out.rd)
            have NX : Hid (∀ W', RefS d W' p (ss.step (numAt ss.rest).2.1 (numAt ss.rest).2.2) → wr.grownBy W' (some p) → W'.heap[cb]? = some (.cells cc.cells 25 (0, 0)) ∧ Ru w d p cb (((fds (vv : Int)).take (k + 1)).foldl rdF (s1, Cd.zero (vv : Int))) (W'.setCell ⟨cb, 5, none⟩ (.int .u64 ((numAt ss.rest).1 : Nat)))) := fun W' h1 hg => by
              have r1 := HR.out.read hp1 hpw2 h1 hg
              rw [HFO.out]
              exact ⟨r1.box, r1.store hp1 hpw2 hdp 5 (.int .u64 ((numAt ss.rest).1 : Nat)) (cc.set 5 (numAt ss.rest).1) rfl⟩
            go_wp2_with fail
            refine HT.out.mono ?_
            rintro e W' ⟨rfl, hr', hg'⟩
            obtain ⟨q, fin⟩ := NX.out W' hr' hg'
            have FIN := hide fin
            have z := block_cell q 5
            have fz := block_free q 5
            simp [Cd.cells] at z
            clear hr' hg' q fin
            go_wp2
            go_roundw
            case rel => exact ⟨k + 1, by omega, by go_num, FIN.out⟩
            case measure => simp [intOf]; omega
          · have hy : (S[k]'hltS).toNat = 85 := hy
            have HT := hide (refNum_any d p ss wr HR.out.rd)
            have NX : Hid (∀ W', RefS d W' p (ss.step (numAt ss.rest).2.1 (numAt ss.rest).2.2) → wr.grownBy W' (some p) → W'.heap[cb]? = some (.cells cc.cells 25 (0, 0)) ∧ Ru w d p cb (((fds (vv : Int)).take (k + 1)).foldl rdF (s1, Cd.zero (vv : Int))) (W'.setCell ⟨cb, 6, none⟩ (.int .u64 ((numAt ss.rest).1 : Nat)))) := fun W' h1 hg => by
              have r1 := HR.out.read hp1 hpw2 h1 hg
              rw [HFO.out]
              exact ⟨r1.box, r1.store hp1 hpw2 hdp 6 (.int .u64 ((numAt ss.rest).1 : Nat)) (cc.set 6 (numAt ss.rest).1) rfl⟩
            go_wp2_with fail
            refine HT.out.mono ?_
            rintro e W' ⟨rfl, hr', hg'⟩
            obtain ⟨q, fin⟩ := NX.out W' hr' hg'
            have FIN := hide fin
            have z := block_cell q 6
            have fz := block_free q 6
            simp [Cd.cells] at z
            clear hr' hg' q fin
            go_wp2
            go_roundw
            case rel => exact ⟨k + 1, by omega, by go_num, FIN.out⟩
            case measure => simp [intOf]; omega
        · have hra : ((fds (vv : Int)).take k).foldl rdF (s1, Cd.zero (vv : Int)) = ra := by rw [List.take_of_length_le (by rw [← HFL.out]; omega)]; exact HRA.out.symm
          rw [hra] at HR
          clear hra
          obtain ⟨ss, cc⟩ := ra
          have HEN := hide (refEnd_any d p ss wr HR.out.rd)
          have R5 := hide HR.out.rp
          have QB := hide HR.out.box
          clear HR
          go_wp2_with fail
          refine HEN.out.mono ?_
          rintro e w5 ⟨rfl, hb5⟩
          have R6 := hide (R5.out.next hb5)
          have QC := hide ((hb5.block _ (block_lt QB.out)).trans QB.out)
          clear hb5 HEN R5 QB
          obtain ⟨W6, hW6⟩ : ∃ W6, w5.alloc (.cells #[.int .i64 ss.endC, .int .i64 ss.endA] 67) = W6 := ⟨_, rfl⟩
          have g6 : w5.grownBy W6 none := by rw [← hW6]; exact World.grownBy_alloc _ _ none
          have R7 := hide (rp_grown R6.out g6 (fun k e => by cases e))
          have qn : W6.heap[w5.heap.size]? = some (.cells #[.int .i64 ss.endC, .int .i64 ss.endA] 67 (0, 0)) := by rw [← hW6]; exact alloc_atK _ _
          have q7 := (g6.block _ (block_lt QC.out) (by simp)).trans QC.out
          have n0 := block_cell qn 0
          have n1 := block_cell qn 1
          simp at n0 n1
          have QN := hide qn
          have Q7 := hide q7
          have HW6 := hide hW6
          clear g6 qn q7 QC R6 hW6
          by_cases hez : ss.endC = 0
          · have hd : (ss.endC != 0) = false := by simp [hez]
            have HU := hide (UB.out hez)
            have HEZ := hide hez
            clear hez UA UB
            obtain ⟨c0, c1, c2, c3, c4, c5, c6, c7⟩ := cc
            have m0 := block_cell Q7.out 0
            have m1 := block_cell Q7.out 1
            have m2 := block_cell Q7.out 2
            have m3 := block_cell Q7.out 3
            have m4 := block_cell Q7.out 4
            have m5 := block_cell Q7.out 5
            have m6 := block_cell Q7.out 6
            have m7 := block_cell Q7.out 7
            simp [Cd.cells] at m0 m1 m2 m3 m4 m5 m6 m7
            go_upto_region 28 with fail
            rw [HW6.out]
            go_wp2_with fail
            have SB : Hid (∀ V, Below W6.heap.size W6 V → V.cell? ⟨cb, 0, none⟩ = some (.int .i64 c0) ∧ V.cell? ⟨cb, 1, none⟩ = some (.int .u64 (c1 : Int)) ∧ V.cell? ⟨cb, 2, none⟩ = some (.int .u64 (c2 : Int)) ∧ V.cell? ⟨cb, 3, none⟩ = some (.int .u64 (c3 : Int)) ∧ V.cell? ⟨cb, 4, none⟩ = some (.int .u64 (c4 : Int)) ∧ V.cell? ⟨cb, 5, none⟩ = some (.int .u64 (c5 : Int)) ∧ V.cell? ⟨cb, 6, none⟩ = some (.int .u64 (c6 : Int)) ∧ V.cell? ⟨cb, 7, none⟩ = some (.string c7)) := fun V hb => by
              have q := (hb.block _ (block_lt Q7.out)).trans Q7.out
              exact ⟨(block_cell q 0).trans rfl, (block_cell q 1).trans rfl, (block_cell q 2).trans rfl, (block_cell q 3).trans rfl, (block_cell q 4).trans rfl, (block_cell q 5).trans rfl, (block_cell q 6).trans rfl, (block_cell q 7).trans rfl⟩
            have HNN : Hid (∀ W, Calls Tryz.prog 31 #[] W (FvP W [] 0)) := fun W => none0 W
            unfold FvP at HNN
            have hne0 : cb ≠ w.heap.size := by omega
            have hne1 : cb ≠ w.heap.size + 1 := by omega
            have hne2 : w.heap.size ≠ cb := by omega
            have hne3 : w.heap.size + 1 ≠ cb := by omega
            go_region_held (fun V => V.cell? ⟨cb, 0, none⟩ = some (.int .i64 c0) ∧ V.cell? ⟨cb, 1, none⟩ = some (.int .u64 (c1 : Int)) ∧ V.cell? ⟨cb, 2, none⟩ = some (.int .u64 (c2 : Int)) ∧ V.cell? ⟨cb, 3, none⟩ = some (.int .u64 (c3 : Int)) ∧ V.cell? ⟨cb, 4, none⟩ = some (.int .u64 (c4 : Int)) ∧ V.cell? ⟨cb, 5, none⟩ = some (.int .u64 (c5 : Int)) ∧ V.cell? ⟨cb, 6, none⟩ = some (.int .u64 (c6 : Int)) ∧ V.cell? ⟨cb, 7, none⟩ = some (.string c7)) (first | go_keep | exact SB.out _ HB8.out)
              (first
                | (go_at_call 31; refine (HNN.out _).mono ?_; rintro e w8 ⟨ao4, cap4, rfl, G⟩; obtain ⟨bb, off, hf, hb⟩ := G.out; have HB8 : Hid (Below W6.heap.size W6 w8) := ⟨hb.os, hb.tape, hb.output, hb.size, hb.block⟩; have RE := hide (R7.out.next HB8.out); have z0 := block_cell RE.out.box 0; have f0 := block_free RE.out.box 0; have z1 := block_cell RE.out.box 1; have f1 := block_free RE.out.box 1; have z2 := block_cell RE.out.box 2; have f2 := block_free RE.out.box 2; have z3 := block_cell RE.out.box 3; have f3 := block_free RE.out.box 3; have z4 := block_cell RE.out.box 4; have f4 := block_free RE.out.box 4; have z5 := block_cell RE.out.box 5; have f5 := block_free RE.out.box 5; have z6 := block_cell RE.out.box 6; have f6 := block_free RE.out.box 6; have z7 := block_cell RE.out.box 7; have f7 := block_free RE.out.box 7; have y0 := block_cell RE.out.res 0; have g0 := block_free RE.out.res 0; have y1 := block_cell RE.out.res 1; have g1 := block_free RE.out.res 1; simp [Cd.zero] at z0 z1 z2 z3 z4 z5 z6 z7; simp at y0 y1; have FIN := hide (fun x0 x1 x2 x3 x4 x5 x6 x7 x y => ru_end R7.out hf HB8.out x0 x1 x2 x3 x4 x5 x6 x7 x y); clear hf hb G))
            all_goals go_wp2
            all_goals refine bodyPost_ret (v := .tuple #[.agg #[.int .i64 c0, .int .u64 (c1 : Int), .int .u64 (c2 : Int), .int .u64 (c3 : Int), .int .u64 (c4 : Int), .int .u64 (c5 : Int), .int .u64 (c6 : Int), .string c7], .agg #[.slice ao4 0 cap4, .int .i64 0]]) (by simp [results, Tryz.results11, go_sem, z0, z1, z2, z3, z4, z5, z6, z7, y0, y1]) rfl ?_
            all_goals
              unfold RuP
              rw [HU.out]
              exact ⟨ao4, cap4, rfl, FIN.out _ _ _ _ _ _ _ _ _ _⟩
          · have hd : (ss.endC != 0) = true := by simp [hez]
            have HU := hide (UA.out hez)
            have HB5 := hide (below5 ss.endA ss.endC ss.endA W6)
            unfold FvP at HB5
            clear hez UA UB
            go_upto_region 28 with fail
            rw [HW6.out]
            go_wp2_with fail
            refine HB5.out.mono ?_
            rintro e w8 ⟨ao4, cap4, rfl, G⟩
            obtain ⟨bb, off, hf, hb⟩ := G.out
            have RE := hide (R7.out.next hb)
            have z0 := block_cell RE.out.box 0
            have f0 := block_free RE.out.box 0
            have z1 := block_cell RE.out.box 1
            have f1 := block_free RE.out.box 1
            have z2 := block_cell RE.out.box 2
            have f2 := block_free RE.out.box 2
            have z3 := block_cell RE.out.box 3
            have f3 := block_free RE.out.box 3
            have z4 := block_cell RE.out.box 4
            have f4 := block_free RE.out.box 4
            have z5 := block_cell RE.out.box 5
            have f5 := block_free RE.out.box 5
            have z6 := block_cell RE.out.box 6
            have f6 := block_free RE.out.box 6
            have z7 := block_cell RE.out.box 7
            have f7 := block_free RE.out.box 7
            have y0 := block_cell RE.out.res 0
            have g0 := block_free RE.out.res 0
            have y1 := block_cell RE.out.res 1
            have g1 := block_free RE.out.res 1
            simp [Cd.zero] at z0 z1 z2 z3 z4 z5 z6 z7
            simp at y0 y1
            have FIN := hide (fun x0 x1 x2 x3 x4 x5 x6 x7 x y => ru_end R7.out hf hb x0 x1 x2 x3 x4 x5 x6 x7 x y)
            clear hf hb G
            go_wp2
            refine bodyPost_ret (v := .tuple #[.agg #[.int .i64 0, .int .u64 0, .int .u64 0, .int .u64 0, .int .u64 0, .int .u64 0, .int .u64 0, .string ⟨#[]⟩], .agg #[.slice ao4 2 cap4, .int .i64 ss.endC]]) (by simp [results, Tryz.results11, go_sem, z0, z1, z2, z3, z4, z5, z6, z7, y0, y1]) rfl ?_
            unfold RuP
            rw [HU.out]
            exact ⟨ao4, cap4, rfl, FIN.out _ _ _ _ _ _ _ _ _ _⟩
    · have HU := hide (U2.out hs hvb)
      have HB5 := hide (no5 100 0)
      unfold FvP at HB5
      have key : ∀ (P : Prop), ((vv : Int) < 1 → P) → (¬ (vv : Int) < 1 → 13 < (vv : Int) → P) → P := fun P a b => by
        by_cases h1 : (vv : Int) < 1
        · exact a h1
        · exact b h1 (by omega)
      clear U1 U2 U3 U4 hs hvb
      go_wp2_with fail
      refine HDD.out.mono ?_
      rintro e w3 ⟨rfl, hw3⟩
      rw [hw3]
      clear hw3
      refine key _ (fun h1 => ?_) (fun h1 h2 => ?_)
      all_goals
        clear key
        go_wp2_with fail
        refine (HB5.out w2).mono ?_
        rintro e w4 ⟨ao4, cap4, rfl, G⟩
        obtain ⟨bb, off, hf, hb⟩ := G.out
        have RE := hide (R4.out.next hb)
        have z0 := block_cell RE.out.box 0
        have f0 := block_free RE.out.box 0
        have z1 := block_cell RE.out.box 1
        have f1 := block_free RE.out.box 1
        have z2 := block_cell RE.out.box 2
        have f2 := block_free RE.out.box 2
        have z3 := block_cell RE.out.box 3
        have f3 := block_free RE.out.box 3
        have z4 := block_cell RE.out.box 4
        have f4 := block_free RE.out.box 4
        have z5 := block_cell RE.out.box 5
        have f5 := block_free RE.out.box 5
        have z6 := block_cell RE.out.box 6
        have f6 := block_free RE.out.box 6
        have z7 := block_cell RE.out.box 7
        have f7 := block_free RE.out.box 7
        have y0 := block_cell RE.out.res 0
        have g0 := block_free RE.out.res 0
        have y1 := block_cell RE.out.res 1
        have g1 := block_free RE.out.res 1
        simp [Cd.zero] at z0 z1 z2 z3 z4 z5 z6 z7
        simp at y0 y1
        have FIN := hide (fun x0 x1 x2 x3 x4 x5 x6 x7 x y => ru_end R4.out hf hb x0 x1 x2 x3 x4 x5 x6 x7 x y)
        clear hf hb G
        go_wp2
        refine bodyPost_ret (v := .tuple #[.agg #[.int .i64 0, .int .u64 0, .int .u64 0, .int .u64 0, .int .u64 0, .int .u64 0, .int .u64 0, .string ⟨#[]⟩], .agg #[.slice ao4 1 cap4, .int .i64 100]]) (by simp [results, Tryz.results11, go_sem, z0, z1, z2, z3, z4, z5, z6, z7, y0, y1]) rfl ?_
        unfold RuP
        rw [HU.out]
        exact ⟨ao4, cap4, rfl, FIN.out _ _ _ _ _ _ _ _ _ _⟩
  · have HDD := hide (dead_not d p s1 w2 HR2.out (fun e => hs e.2))
    have HU := hide (U1.out hs)
    have HB5 := hide (below5 0 s1.why 0)
    unfold FvP at HB5
    have HPW : Hid (w2.cell? ⟨p, 3, none⟩ = some (.int .i64 s1.why) ∧ w2.cell? ⟨p, 4, none⟩ = some (.int .i64 0)) := by
      obtain ⟨_, _, hb, -⟩ := HR2.out
      have := HPM.out.1
      rw [this] at hb
      exact ⟨(block_cell hb 3).trans rfl, (block_cell hb 4).trans rfl⟩
    obtain ⟨n3, n4⟩ := HPW.out
    clear U1 U2 U3 U4 hs
    go_wp2_with fail
    refine HDD.out.mono ?_
    rintro e w3 ⟨rfl, hw3⟩
    rw [hw3]
    clear hw3
    go_wp2_with fail
    refine (HB5.out w2).mono ?_
    rintro e w4 ⟨ao4, cap4, rfl, G⟩
    obtain ⟨bb, off, hf, hb⟩ := G.out
    have RE := hide (R4.out.next hb)
    have z0 := block_cell RE.out.box 0
    have f0 := block_free RE.out.box 0
    have z1 := block_cell RE.out.box 1
    have f1 := block_free RE.out.box 1
    have z2 := block_cell RE.out.box 2
    have f2 := block_free RE.out.box 2
    have z3 := block_cell RE.out.box 3
    have f3 := block_free RE.out.box 3
    have z4 := block_cell RE.out.box 4
    have f4 := block_free RE.out.box 4
    have z5 := block_cell RE.out.box 5
    have f5 := block_free RE.out.box 5
    have z6 := block_cell RE.out.box 6
    have f6 := block_free RE.out.box 6
    have z7 := block_cell RE.out.box 7
    have f7 := block_free RE.out.box 7
    have y0 := block_cell RE.out.res 0
    have g0 := block_free RE.out.res 0
    have y1 := block_cell RE.out.res 1
    have g1 := block_free RE.out.res 1
    simp [Cd.zero] at z0 z1 z2 z3 z4 z5 z6 z7
    simp at y0 y1
    have FIN := hide (fun x0 x1 x2 x3 x4 x5 x6 x7 x y => ru_end R4.out hf hb x0 x1 x2 x3 x4 x5 x6 x7 x y)
    clear hf hb G
    go_wp2
    refine bodyPost_ret (v := .tuple #[.agg #[.int .i64 0, .int .u64 0, .int .u64 0, .int .u64 0, .int .u64 0, .int .u64 0, .int .u64 0, .string ⟨#[]⟩], .agg #[.slice ao4 2 cap4, .int .i64 s1.why]]) (by simp [results, Tryz.results11, go_sem, z0, z1, z2, z3, z4, z5, z6, z7, y0, y1]) rfl ?_
    unfold RuP
    rw [HU.out]
    exact ⟨ao4, cap4, rfl, FIN.out _ _ _ _ _ _ _ _ _ _⟩
end Go.Proofs.YthacdhhmmmocpaaGreatDoor
