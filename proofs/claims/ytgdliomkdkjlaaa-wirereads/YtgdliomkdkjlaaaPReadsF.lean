import Derived.Test.YtgdliomkdkjlaaaPReadsE
namespace Go.Proofs.Ytgdliomkdkjlaaa
open Go.RowKit Crc

theorem Lent.owns {w : World} {gc n : Nat} {B : List Nat} (h : Lent w gc n B) (hB : ∀ x ∈ B, x < 256) (hl : n ≤ 140737488355328) : Owns gc w (.slice (some ⟨gc, 0, none⟩) n (n + 4)) B := by
  obtain ⟨h1, h2, h3⟩ := h
  subst h1
  rcases h3 with ⟨h4, _⟩ | ⟨g, cap, cur, hv, hbg, hg, hnc, hcm, hcs, htake⟩
  · cases h4
  · simp only [Value.slice.injEq, Option.some.injEq, Addr.mk.injEq, and_true, true_and] at hv
    obtain ⟨rfl, rfl⟩ := hv
    refine ⟨⟨by simp [vals], .inr ⟨gc, B.length + 4, cur, rfl, hbg, hg, by omega, hcm, hcs, ?_⟩⟩, hB, hl⟩
    have h5 : cur.toList.take (B.length * 1) = (cur.toList.take ((B.length + 4) * 1)).take (B.length * 1) := by
      rw [List.take_take]
      congr 1
      omega
    rw [h5, htake]
    unfold vals
    rw [List.map_append, List.take_left' (by simp)]

/-- What lies at lo or beyond is not touched by writes below lo. -/
theorem Shows.far {lim lo : Nat} {w w' : World} {row : Option Nat} {ao : Option Addr} {n cap : Nat} {B : List Nat} (h : Shows lim w ao n cap B) (hlo : ∀ b off, ao = some ⟨b, off, none⟩ → lo ≤ b) (hg : w.grownBy w' row) (hr : ∀ g, row = some g → g < lo) : Shows lim w' ao n cap B := by
  obtain ⟨h1, h2, h3, h4, b, off, h5, h6, h7⟩ := h
  refine ⟨h1, h2, h3, h4, b, off, h5, h6, fun i hi => ?_⟩
  have h8 := hlo b off (h5 (by omega))
  exact hg.cell (h7 i hi) (fun e => by have := hr b e.symm; omega)

set_option maxRecDepth 10000 in
set_option maxHeartbeats 400000 in
theorem newReader_far {lim : Nat} {w : World} {ao : Option Addr} {n cap : Nat} {B : List Nat} (h : Shows lim w ao n cap B) (hlw : lim ≤ w.heap.size) :
    Calls Try.prog 11 #[.slice ao n cap] w fun e w' => ∃ p lim', e = .returned (.pointer (some ⟨p, 0, none⟩)) ∧ w.heap.size ≤ p ∧ lim' ≤ p ∧ p < w'.heap.size ∧ (∀ w2 row, w'.grownBy w2 row → (∀ g, row = some g → g < w.heap.size) → RdS lim' w2 p ⟨true, 0, 0, B, 0⟩) ∧ Below w.heap.size w w' := by
  have HCP := hide (copied_sh h hlw)
  have HB := hide h.2.2.2.1
  have HN := hide h.1
  have HN2 := hide h.2.2.1
  clear h
  go_enter Try.func11, Try.ntmps11
  go_wp2_with fail
  refine HCP.out.mono ?_
  rintro e w1 ⟨v, rfl, _, _, hfr⟩
  have HO1 : Hid (Owns w.heap.size w1 v B) := ⟨hfr.1, HB.out, by rw [← HN.out]; exact HN2.out⟩
  have HB1 := hide hfr.2
  clear hfr
  have HFR := hide (own_far HO1.out)
  obtain ⟨a1, c1, rfl, hs1, _⟩ := HO1.out.form
  have HS1 := hide hs1
  clear hs1
  generalize hbl : B.length = m at *
  go_wp2_with fail
  refine (readerAt_any a1 m c1 0 w1).mono ?_
  rintro e w2 ⟨rfl, hb2⟩
  have HB2 := hide hb2
  clear hb2
  go_wp2
  go_ret
  refine ⟨w2.heap.size, w1.heap.size, rfl, Nat.le_trans HB1.out.size HB2.out.size, HB2.out.size, by simp, ?_, ?_⟩
  · intro w3 row hg hr
    have hs2 := (HS1.out.kept (below_none HB2.out) (fun g hg => by cases hg)).kept (World.grownBy_alloc w2 (.cells #[.bool true, .int .i64 0, .int .i64 0, .slice a1 m c1, .int .i64 0] 45 (0, 0)) none) (fun g hg => by cases hg)
    refine ⟨a1, c1, ?_, ?_, Nat.zero_le _, HB2.out.size⟩
    · rw [hg.block w2.heap.size (by simp) (fun e => by have := hr _ e.symm; have := HB1.out.size; have := HB2.out.size; omega), hbl]
      exact heap_alloc_new w2 _
    · rw [hbl]
      refine hs2.far (lo := w.heap.size) (fun b off e => ?_) hg hr
      exact HFR.out b (by rw [e]; rfl)
  · exact (HB1.out.trans (HB2.out.mono HB1.out.size)).alloc (Nat.le_trans HB1.out.size HB2.out.size) _

set_option maxRecDepth 10000 in
set_option maxHeartbeats 1600000 in
theorem reads_made {ao : Option Addr} {n cap : Nat} {B : List Nat} {w : World} (made : Int) (hS : Shows w.heap.size w ao n cap B) (hn : n ≤ 140737488351232) (b off : Nat) (oo : Option Addr) (on oc : Nat) (fs : List Fl) (hon : on = fs.length) (hon47 : on ≤ 140737488355328) (hF : Fls w.heap.size w b off fs) (hoo : 0 < on → oo = some ⟨b, off, none⟩) (hob : 0 < on → b < w.heap.size) (hm : made = 0) :
    Calls Try.prog 4 #[.int .i64 made, .slice ao n cap, .slice oo on oc] w fun e w' => e = .returned (.bool true) ∧ Below w.heap.size w w' := by
  have HF := hide hF
  have HON := hide hon
  have HOO := hide hoo
  have HOB := hide hob
  have HS := hide hS
  have HNB : Hid (n = B.length) := hS.1
  have HB := hide hS.2.2.2.1
  have HLD := hide (lend_sh hS (Nat.le_refl _))
  clear hF hon hoo hob hS
  subst hm
  go_enter Try.func4, Try.ntmps4
  go_wp2_with fail
  refine HLD.out.mono ?_
  rintro e w1 ⟨rfl, hl1, hb1⟩
  have HL1 := hide hl1
  have HB1 := hide hb1
  clear hl1 hb1 HLD
  have HLA : Hid (∀ o1 o2, Lent ((w1.alloc o1).alloc o2) w.heap.size n B) := fun o1 o2 => (HL1.out.next (World.grownBy_alloc w1 o1 none) (by simp)).next (World.grownBy_alloc _ o2 none) (by simp)
  have HBA : Hid (∀ o1 o2, Below w.heap.size w ((w1.alloc o1).alloc o2)) := fun o1 o2 => (HB1.out.alloc HB1.out.size o1).alloc (by have := HB1.out.size; simp; omega) o2
  have HNR : Hid (∀ o1 o2, _) := fun o1 o2 => newReader_far ((HLA.out o1 o2).shows HB.out (by omega)) (Nat.le_refl _)
  go_wp2_with fail
  refine (HNR.out _ _).mono ?_
  rintro e w2 ⟨p, limr, rfl, hp1, hp2, hp3, hfar, hb2⟩
  have HP2 : Hid (w1.heap.size + 2 ≤ p ∧ limr ≤ p ∧ p < w2.heap.size) := ⟨by simp at hp1; omega, hp2, hp3⟩
  have HFAR : Hid (∀ w3 row, w2.grownBy w3 row → (∀ g, row = some g → g < w1.heap.size) → RdS limr w3 p ⟨true, 0, 0, B, 0⟩) := fun w3 row h1 h2 => hfar w3 row h1 (fun g hg => by have := h2 g hg; simp; omega)
  have HB2 : Hid (Below w.heap.size w w2) := (HBA.out _ _).trans (hb2.mono (by have := HB1.out.size; simp; omega))
  have HL2 := hide ((HLA.out _ _).next (below_none hb2) (by simp))
  have HW2 : Hid (w1.heap.size + 2 ≤ w2.heap.size) := by
    show _ ≤ _
    have h := hb2.size
    simp at h
    omega
  clear hp1 hp2 hp3 hfar hb2 HNR HLA HBA
  have HS2 := hide (HS.out.kept (row := none) ⟨HB2.out.os, HB2.out.tape, HB2.out.output, HB2.out.size, fun i hi _ => HB2.out.block i hi⟩ (fun g hg => by cases hg))
  have HRN := hide (refNew_any HS2.out HB2.out.size)
  go_wp2_with fail
  refine HRN.out.mono ?_
  rintro e w3 ⟨pv, d, rfl, hv1, hv2, hv3, hr3, hb3⟩
  have HV3 := hide (And.intro hv1 (And.intro hv2 hv3))
  have HR3 := hide (And.intro hr3 hb3)
  have HB3 : Hid (Below w.heap.size w w3) := HB2.out.trans (hb3.mono HB2.out.size)
  have HL3 := hide (HL2.out.next (below_none hb3) (by simp))
  have HS3 := hide (HS.out.kept (row := none) ⟨HB3.out.os, HB3.out.tape, HB3.out.output, HB3.out.size, fun i hi _ => HB3.out.block i hi⟩ (fun g hg => by cases hg))
  clear hv1 hv2 hv3 hr3 hb3 HRN HS2
  have HKP := hide (kept_sh HS3.out HL3.out)
  have HSP := hide (fun q => spoil_any ((HL3.out.owns HB.out (by omega)).drew q) (by have := HNB.out; omega) 1 1 rfl (by omega))
  go_wp2_with fail
  refine HKP.out.mono ?_
  rintro e w4 ⟨rfl, q, rfl⟩
  go_wp2_with fail
  refine (HSP.out q).mono ?_
  rintro e w5 ⟨rfl, h5⟩
  have HINI : Hid ((∃ s, Pair w.heap.size limr d pv (some ⟨p, 0, none⟩) w5 s) ∧ Below w.heap.size w w5) := by
    have h5' : (w3.drewN q).grownBy w5 (some w.heap.size) := h5
    have e1 := HP2.out
    have e2 := HV3.out
    have e3 := HW2.out
    have e4 := HB1.out.size
    have e5 := refS_size HR3.out.1
    have e6 : w3.heap.size ≤ w5.heap.size := h5'.size
    have hw1 : w.heap.size < w1.heap.size := owned_lt2 HL1.out.2
    have hg1 : w2.grownBy w5 (some w.heap.size) := by
      have g1 := below_none HR3.out.2
      exact ⟨h5'.os.trans g1.os, h5'.tape.trans g1.tape, h5'.output.trans g1.output, Nat.le_trans g1.size e6, fun k hk hne => (h5'.block k (Nat.lt_of_lt_of_le hk g1.size) hne).trans (g1.block k hk (by simp))⟩
    refine ⟨⟨⟨true, 0, 0, B, 0⟩, { prog := .inr ⟨p, rfl, HFAR.out w5 _ hg1 (fun g hg => (by cases hg; exact hw1))⟩, ref := (HR3.out.1.world (w' := w3.drewN q) rfl).kept h5' (by simp; omega) (by simp; omega), place := fun _ => rfl, plain := fun h => (by cases h), lim := (by omega), nepv := (by simp [rowP]; omega), ned := (by simp [rowP]; omega), bpo := fun g hg => ?_, bpv := (by omega), dlt := (by omega), len := (by have := HNB.out; show B.length ≤ _; omega) }⟩, ?_⟩
    · have : p = g := by simpa [rowP] using hg
      omega
    · exact Below.grown (a := w) (w := w3.drewN q) ⟨HB3.out.os, HB3.out.tape, HB3.out.output, HB3.out.size, HB3.out.block⟩ h5' HB3.out.size (fun k hk => by cases hk; exact Nat.le_refl _)
  clear h5 HP2 HFAR HB2 HL2 HW2 HV3 HR3 HB3 HL3 HS3 HKP HSP HB1 HL1 HS HB HNB
  go_wp2
  go_loopw [10] (fun i wr => ∃ k : Nat, k ≤ on ∧ i = .int .i64 k ∧ Hid ((∃ s, Pair w.heap.size limr d pv (some ⟨p, 0, none⟩) wr s) ∧ Below w.heap.size w wr)) (fun i _ => on - (intOf i).toNat)
  case atStart => exact ⟨0, Nat.zero_le _, rfl, HINI.out⟩
  case round =>
    obtain ⟨k, hk, rfl, HR⟩ := hrel
    by_cases hlt : k < on
    · obtain ⟨f, hf⟩ : ∃ f, fs[k]? = some f := ⟨fs[k]'(by have := HON.out; omega), List.getElem?_eq_getElem _⟩
      obtain rfl := HOO.out (by omega)
      obtain ⟨⟨s, hPs⟩, hBl⟩ := HR.out
      have HFW := hide (HF.out.next (HOB.out (by omega)) (w' := wr) (row := none) ⟨hBl.os, hBl.tape, hBl.output, hBl.size, fun i hi _ => hBl.block i hi⟩ (fun g hg => by cases hg))
      have c0 : wr.cell? ⟨b, off + k * 6, none⟩ = some (.int .i64 f.K) := HFW.out.at_ k f hf 0 _ rfl
      have c1 : wr.cell? ⟨b, off + k * 6 + 1, none⟩ = some (.int .u64 (f.N : Int)) := HFW.out.at_ k f hf 1 _ rfl
      have c2 : wr.cell? ⟨b, off + k * 6 + 2, none⟩ = some (.int .i64 f.I) := HFW.out.at_ k f hf 2 _ rfl
      have c3 : wr.cell? ⟨b, off + k * 6 + 3, none⟩ = some (.slice f.bo f.bn f.bc) := HFW.out.at_ k f hf 3 _ rfl
      have c4 : wr.cell? ⟨b, off + k * 6 + 4, none⟩ = some (.string f.S) := HFW.out.at_ k f hf 4 _ rfl
      have c5 : wr.cell? ⟨b, off + k * 6 + 5, none⟩ = some (.int .i64 f.M) := HFW.out.at_ k f hf 5 _ rfl
      have hfo := HFW.out.ok f (List.mem_of_getElem? hf)
      have HRD := hide (read_any f hPs hfo.hM1 hfo.hM2)
      have HBl := hide hBl
      clear hf hPs hBl hfo HR
      go_wp2_with fail
      refine HRD.out.mono ?_
      rintro e w7 ⟨rfl, hres⟩
      have HR7 : Hid ((∃ s, Pair w.heap.size limr d pv (some ⟨p, 0, none⟩) w7 s) ∧ Below w.heap.size w w7) := ⟨hres.1, hres.2 w HBl.out⟩
      clear hres c0 c1 c2 c3 c4 c5
      go_wp2
      go_roundw
      case rel => exact ⟨k + 1, by omega, by go_num, HR7⟩
      case measure => simp [intOf]; omega
    · obtain rfl : k = on := by omega
      obtain ⟨⟨s, hPs⟩, hBl⟩ := HR.out
      have HE := hide (refErr_any d pv s wr hPs.ref)
      have HEP : Hid (∀ wx, Pair w.heap.size limr d pv (some ⟨p, 0, none⟩) wx s → Calls Try.prog 18 #[.pointer (some ⟨p, 0, none⟩)] wx fun e w' => ∃ v, e = .returned v ∧ ErrV w' v s.errC s.errA ∧ Below wx.heap.size wx w') := fun wx h => rErrP h.prog h.place
      have HPS := hide hPs
      have HBl := hide hBl
      generalize s.errC = ec at *
      generalize s.errA = ea at *
      clear HR hPs hBl
      go_wp2_with fail
      refine HE.out.mono ?_
      rintro e w1 ⟨rfl, hb1⟩
      have HP1 := hide (HPS.out.below hb1)
      clear hb1
      go_wp2_with fail
      refine (HEP.out _ (HP1.out.1.alloc _).1).mono ?_
      rintro e w3 ⟨v, rfl, hv, hb3⟩
      have HP3 : Hid (Pair w.heap.size limr d pv (some ⟨p, 0, none⟩) w3 s ∧ Keep w.heap.size wr w3) := by
        have h1 := (HP1.out.1.alloc (.cells #[.int .i64 ec, .int .i64 ea] 34 (0, 0)))
        have h2 := h1.1.below hb3
        exact ⟨h2.1, (HP1.out.2.trans h1.2).trans h2.2⟩
      have a0 : w3.cell? ⟨w1.heap.size, 0, none⟩ = some (.int .i64 ec) := by
        have h := hb3.cell (p := ⟨w1.heap.size, 0, none⟩) (by simp)
        rw [h]
        simp
      have a1 : w3.cell? ⟨w1.heap.size, 1, none⟩ = some (.int .i64 ea) := by
        have h := hb3.cell (p := ⟨w1.heap.size, 1, none⟩) (by simp)
        rw [h]
        simp
      have HV := hide hv
      clear hv hb3 HP1 HE
      go_wp2_with fail
      refine (told_any HV.out).mono ?_
      rintro e w4 ⟨rfl, q, rfl⟩
      have HD := hide (HP3.out.1.drewN q)
      go_wp2_with fail
      refine (stands_any HD.out.1).mono ?_
      rintro e w5 ⟨rfl, h5⟩
      have H5 := hide h5
      clear h5
      go_wp2
      go_ret
      exact ⟨rfl, ((HP3.out.2.trans HD.out.2).trans H5.out.2) w HBl.out⟩

set_option maxRecDepth 10000 in
set_option maxHeartbeats 1600000 in
theorem reads_nil {ao : Option Addr} {n cap : Nat} {B : List Nat} {w : World} (made : Int) (hS : Shows w.heap.size w ao n cap B) (hn : n ≤ 140737488351232) (b off : Nat) (oo : Option Addr) (on oc : Nat) (fs : List Fl) (hon : on = fs.length) (hon47 : on ≤ 140737488355328) (hF : Fls w.heap.size w b off fs) (hoo : 0 < on → oo = some ⟨b, off, none⟩) (hob : 0 < on → b < w.heap.size) (hm : made = 1) :
    Calls Try.prog 4 #[.int .i64 made, .slice ao n cap, .slice oo on oc] w fun e w' => e = .returned (.bool true) ∧ Below w.heap.size w w' := by
  have HF := hide hF
  have HON := hide hon
  have HOO := hide hoo
  have HOB := hide hob
  have HS := hide hS
  have HNB : Hid (n = B.length) := hS.1
  have HB := hide hS.2.2.2.1
  have HLD := hide (lend_sh hS (Nat.le_refl _))
  clear hF hon hoo hob hS
  subst hm
  go_enter Try.func4, Try.ntmps4
  go_wp2_with fail
  refine HLD.out.mono ?_
  rintro e w1 ⟨rfl, hl1, hb1⟩
  have HL1 := hide hl1
  have HB1 := hide hb1
  clear hl1 hb1 HLD
  have HLA : Hid (∀ o1 o2, Lent ((w1.alloc o1).alloc o2) w.heap.size n B) := fun o1 o2 => (HL1.out.next (World.grownBy_alloc w1 o1 none) (by simp)).next (World.grownBy_alloc _ o2 none) (by simp)
  have HBA : Hid (∀ o1 o2, Below w.heap.size w ((w1.alloc o1).alloc o2)) := fun o1 o2 => (HB1.out.alloc HB1.out.size o1).alloc (by have := HB1.out.size; simp; omega) o2
  have HSA : Hid (∀ o1 o2, Shows w.heap.size ((w1.alloc o1).alloc o2) ao n cap B) := fun o1 o2 => HS.out.kept (row := none) ⟨(HBA.out o1 o2).os, (HBA.out o1 o2).tape, (HBA.out o1 o2).output, (HBA.out o1 o2).size, fun i hi _ => (HBA.out o1 o2).block i hi⟩ (fun g hg => by cases hg)
  have HKP : Hid (∀ o1 o2, _) := fun o1 o2 => kept_sh (HSA.out o1 o2) (HLA.out o1 o2)
  have HSP : Hid (∀ o1 o2 (q : Nat), _) := fun o1 o2 q => spoil_any (((HLA.out o1 o2).owns HB.out (by omega)).drew q) (by have := HNB.out; omega) 1 1 rfl (by omega)
  go_wp2_with fail
  refine (HKP.out _ _).mono ?_
  rintro e w4 ⟨rfl, q, rfl⟩
  go_wp2_with fail
  refine (HSP.out _ _ q).mono ?_
  rintro e w5 ⟨rfl, h5⟩
  obtain ⟨d, hd⟩ : ∃ d, d = w1.heap.size + 1 := ⟨_, rfl⟩
  obtain ⟨limr, hlr⟩ : ∃ limr, limr = 0 := ⟨_, rfl⟩
  have HPVE : Hid (d = w1.heap.size + 1) := hd
  have HINI : Hid ((∃ s, Pair w.heap.size limr d (w1.heap.size + 1) none w5 s) ∧ Below w.heap.size w w5) := by
    have h5' : (((w1.alloc (.cells #[.bool false, .int .i64 0, .int .i64 0, .slice none 0 0, .int .i64 0] 45 (0, 0))).alloc (.cells #[.bool false, .slice none 0 0, .int .i64 0, .int .i64 0, .int .i64 0] 48 (0, 0))).drewN q).grownBy w5 (some w.heap.size) := h5
    have e4 := HB1.out.size
    have hw1 : w.heap.size < w1.heap.size := owned_lt2 HL1.out.2
    have e6 : w1.heap.size + 2 ≤ w5.heap.size := by have := h5'.size; simpa using this
    have hbp : w5.heap[w1.heap.size]? = some (.cells #[.bool false, .int .i64 0, .int .i64 0, .slice none 0 0, .int .i64 0] 45 (0, 0)) := by
      rw [h5'.block w1.heap.size (by simp; omega) (by simp; omega)]
      show ((w1.alloc _).alloc _).heap[w1.heap.size]? = _
      rw [(World.grownBy_alloc (w1.alloc _) _ none).block w1.heap.size (by simp) (by simp)]
      exact heap_alloc_new w1 _
    have hbv : w5.heap[w1.heap.size + 1]? = some (.cells #[.bool false, .slice none 0 0, .int .i64 0, .int .i64 0, .int .i64 0] 48 (0, 0)) := by
      rw [h5'.block (w1.heap.size + 1) (by simp) (by simp; omega)]
      show ((w1.alloc _).alloc _).heap[w1.heap.size + 1]? = _
      have h := heap_alloc_new (w1.alloc (.cells #[.bool false, .int .i64 0, .int .i64 0, .slice none 0 0, .int .i64 0] 45 (0, 0))) (.cells #[.bool false, .slice none 0 0, .int .i64 0, .int .i64 0, .int .i64 0] 48 (0, 0))
      simpa using h
    subst hlr
    refine ⟨⟨RS0, { prog := .inl ⟨rfl, rfl⟩, ref := ⟨none, 0, hbv, ⟨Nat.le_refl _, .inr ⟨rfl, rfl, rfl⟩⟩, (by decide), (by simp [RS0]), (by decide), fun h => (by cases h), fun h => (by cases h), fun i hi => (by cases hi)⟩, place := fun h => absurd h RS0_not, plain := fun _ => rfl, lim := Nat.zero_le _, nepv := (by simp [rowP]), ned := (by simp [rowP, hd]), bpo := fun g hg => ?_, bpv := (by omega), dlt := (by omega), len := (by decide) }⟩, ?_⟩
    · cases hg
    · have hb := HBA.out (.cells #[.bool false, .int .i64 0, .int .i64 0, .slice none 0 0, .int .i64 0] 45 (0, 0)) (.cells #[.bool false, .slice none 0 0, .int .i64 0, .int .i64 0, .int .i64 0] 48 (0, 0))
      exact Below.grown (row := some w.heap.size) (below_drewN (q := q) hb) h5' hb.size (fun k hk => (by cases hk; exact Nat.le_refl _))
  clear h5 HLA HBA HSA HKP HSP HB1 HL1 HS HB HNB hd hlr
  generalize hpv : w1.heap.size + 1 = pv at *
  clear hpv
  go_wp2
  go_loopw [10] (fun i wr => ∃ k : Nat, k ≤ on ∧ i = .int .i64 k ∧ Hid ((∃ s, Pair w.heap.size limr d pv none wr s) ∧ Below w.heap.size w wr)) (fun i _ => on - (intOf i).toNat)
  case atStart => exact ⟨0, Nat.zero_le _, rfl, HINI.out⟩
  case round =>
    obtain ⟨k, hk, rfl, HR⟩ := hrel
    by_cases hlt : k < on
    · obtain ⟨f, hf⟩ : ∃ f, fs[k]? = some f := ⟨fs[k]'(by have := HON.out; omega), List.getElem?_eq_getElem _⟩
      obtain rfl := HOO.out (by omega)
      obtain ⟨⟨s, hPs⟩, hBl⟩ := HR.out
      have HFW := hide (HF.out.next (HOB.out (by omega)) (w' := wr) (row := none) ⟨hBl.os, hBl.tape, hBl.output, hBl.size, fun i hi _ => hBl.block i hi⟩ (fun g hg => by cases hg))
      have c0 : wr.cell? ⟨b, off + k * 6, none⟩ = some (.int .i64 f.K) := HFW.out.at_ k f hf 0 _ rfl
      have c1 : wr.cell? ⟨b, off + k * 6 + 1, none⟩ = some (.int .u64 (f.N : Int)) := HFW.out.at_ k f hf 1 _ rfl
      have c2 : wr.cell? ⟨b, off + k * 6 + 2, none⟩ = some (.int .i64 f.I) := HFW.out.at_ k f hf 2 _ rfl
      have c3 : wr.cell? ⟨b, off + k * 6 + 3, none⟩ = some (.slice f.bo f.bn f.bc) := HFW.out.at_ k f hf 3 _ rfl
      have c4 : wr.cell? ⟨b, off + k * 6 + 4, none⟩ = some (.string f.S) := HFW.out.at_ k f hf 4 _ rfl
      have c5 : wr.cell? ⟨b, off + k * 6 + 5, none⟩ = some (.int .i64 f.M) := HFW.out.at_ k f hf 5 _ rfl
      have hfo := HFW.out.ok f (List.mem_of_getElem? hf)
      have HRD := hide (read_any f hPs hfo.hM1 hfo.hM2)
      have HBl := hide hBl
      clear hf hPs hBl hfo HR
      go_wp2_with fail
      refine HRD.out.mono ?_
      rintro e w7 ⟨rfl, hres⟩
      have HR7 : Hid ((∃ s, Pair w.heap.size limr d pv none w7 s) ∧ Below w.heap.size w w7) := ⟨hres.1, hres.2 w HBl.out⟩
      clear hres c0 c1 c2 c3 c4 c5
      go_wp2
      go_roundw
      case rel => exact ⟨k + 1, by omega, by go_num, HR7⟩
      case measure => simp [intOf]; omega
    · obtain rfl : k = on := by omega
      obtain ⟨⟨s, hPs⟩, hBl⟩ := HR.out
      have HE := hide (refErr_any d pv s wr hPs.ref)
      have HEP : Hid (∀ wx, Pair w.heap.size limr d pv none wx s → Calls Try.prog 18 #[.pointer none] wx fun e w' => ∃ v, e = .returned v ∧ ErrV w' v s.errC s.errA ∧ Below wx.heap.size wx w') := fun wx h => rErrP h.prog h.place
      have HPS := hide hPs
      have HBl := hide hBl
      generalize s.errC = ec at *
      generalize s.errA = ea at *
      clear HR hPs hBl
      go_wp2_with fail
      refine HE.out.mono ?_
      rintro e w1 ⟨rfl, hb1⟩
      have HP1 := hide (HPS.out.below hb1)
      clear hb1
      go_wp2_with fail
      refine (HEP.out _ (HP1.out.1.alloc _).1).mono ?_
      rintro e w3 ⟨v, rfl, hv, hb3⟩
      have HP3 : Hid (Pair w.heap.size limr d pv none w3 s ∧ Keep w.heap.size wr w3) := by
        have h1 := (HP1.out.1.alloc (.cells #[.int .i64 ec, .int .i64 ea] 34 (0, 0)))
        have h2 := h1.1.below hb3
        exact ⟨h2.1, (HP1.out.2.trans h1.2).trans h2.2⟩
      have a0 : w3.cell? ⟨w1.heap.size, 0, none⟩ = some (.int .i64 ec) := by
        have h := hb3.cell (p := ⟨w1.heap.size, 0, none⟩) (by simp)
        rw [h]
        simp
      have a1 : w3.cell? ⟨w1.heap.size, 1, none⟩ = some (.int .i64 ea) := by
        have h := hb3.cell (p := ⟨w1.heap.size, 1, none⟩) (by simp)
        rw [h]
        simp
      have HV := hide hv
      clear hv hb3 HP1 HE
      go_wp2_with fail
      refine (told_any HV.out).mono ?_
      rintro e w4 ⟨rfl, q, rfl⟩
      have HD := hide (HP3.out.1.drewN q)
      go_wp2_with fail
      refine (stands_any HD.out.1).mono ?_
      rintro e w5 ⟨rfl, h5⟩
      have H5 := hide h5
      clear h5
      go_wp2
      go_ret
      exact ⟨rfl, ((HP3.out.2.trans HD.out.2).trans H5.out.2) w HBl.out⟩

set_option maxRecDepth 10000 in
set_option maxHeartbeats 1600000 in
theorem reads_plain {ao : Option Addr} {n cap : Nat} {B : List Nat} {w : World} (made : Int) (hS : Shows w.heap.size w ao n cap B) (hn : n ≤ 140737488351232) (b off : Nat) (oo : Option Addr) (on oc : Nat) (fs : List Fl) (hon : on = fs.length) (hon47 : on ≤ 140737488355328) (hF : Fls w.heap.size w b off fs) (hoo : 0 < on → oo = some ⟨b, off, none⟩) (hob : 0 < on → b < w.heap.size) (h0 : (made == 0) = false) (h1 : (made == 1) = false) :
    Calls Try.prog 4 #[.int .i64 made, .slice ao n cap, .slice oo on oc] w fun e w' => e = .returned (.bool true) ∧ Below w.heap.size w w' := by
  have HF := hide hF
  have HON := hide hon
  have HOO := hide hoo
  have HOB := hide hob
  have HS := hide hS
  have HNB : Hid (n = B.length) := hS.1
  have HB := hide hS.2.2.2.1
  have HLD := hide (lend_sh hS (Nat.le_refl _))
  clear hF hon hoo hob hS
  go_enter Try.func4, Try.ntmps4
  go_wp2_with fail
  refine HLD.out.mono ?_
  rintro e w1 ⟨rfl, hl1, hb1⟩
  have HL1 := hide hl1
  have HB1 := hide hb1
  clear hl1 hb1 HLD
  have HLA : Hid (∀ o1 o2, Lent ((w1.alloc o1).alloc o2) w.heap.size n B) := fun o1 o2 => (HL1.out.next (World.grownBy_alloc w1 o1 none) (by simp)).next (World.grownBy_alloc _ o2 none) (by simp)
  have HBA : Hid (∀ o1 o2, Below w.heap.size w ((w1.alloc o1).alloc o2)) := fun o1 o2 => (HB1.out.alloc HB1.out.size o1).alloc (by have := HB1.out.size; simp; omega) o2
  have HSA : Hid (∀ o1 o2, Shows w.heap.size ((w1.alloc o1).alloc o2) ao n cap B) := fun o1 o2 => HS.out.kept (row := none) ⟨(HBA.out o1 o2).os, (HBA.out o1 o2).tape, (HBA.out o1 o2).output, (HBA.out o1 o2).size, fun i hi _ => (HBA.out o1 o2).block i hi⟩ (fun g hg => by cases hg)
  have HKP : Hid (∀ o1 o2, _) := fun o1 o2 => kept_sh (HSA.out o1 o2) (HLA.out o1 o2)
  have HSP : Hid (∀ o1 o2 (q : Nat), _) := fun o1 o2 q => spoil_any (((HLA.out o1 o2).owns HB.out (by omega)).drew q) (by have := HNB.out; omega) 1 1 rfl (by omega)
  go_wp2_with fail
  refine (HKP.out _ _).mono ?_
  rintro e w4 ⟨rfl, q, rfl⟩
  go_wp2_with fail
  refine (HSP.out _ _ q).mono ?_
  rintro e w5 ⟨rfl, h5⟩
  obtain ⟨d, hd⟩ : ∃ d, d = w1.heap.size + 1 := ⟨_, rfl⟩
  obtain ⟨limr, hlr⟩ : ∃ limr, limr = 0 := ⟨_, rfl⟩
  have HPVE : Hid (d = w1.heap.size + 1) := hd
  have HINI : Hid ((∃ s, Pair w.heap.size limr d (w1.heap.size + 1) (some ⟨w1.heap.size, 0, none⟩) w5 s) ∧ Below w.heap.size w w5) := by
    have h5' : (((w1.alloc (.cells #[.bool false, .int .i64 0, .int .i64 0, .slice none 0 0, .int .i64 0] 45 (0, 0))).alloc (.cells #[.bool false, .slice none 0 0, .int .i64 0, .int .i64 0, .int .i64 0] 48 (0, 0))).drewN q).grownBy w5 (some w.heap.size) := h5
    have e4 := HB1.out.size
    have hw1 : w.heap.size < w1.heap.size := owned_lt2 HL1.out.2
    have e6 : w1.heap.size + 2 ≤ w5.heap.size := by have := h5'.size; simpa using this
    have hbp : w5.heap[w1.heap.size]? = some (.cells #[.bool false, .int .i64 0, .int .i64 0, .slice none 0 0, .int .i64 0] 45 (0, 0)) := by
      rw [h5'.block w1.heap.size (by simp; omega) (by simp; omega)]
      show ((w1.alloc _).alloc _).heap[w1.heap.size]? = _
      rw [(World.grownBy_alloc (w1.alloc _) _ none).block w1.heap.size (by simp) (by simp)]
      exact heap_alloc_new w1 _
    have hbv : w5.heap[w1.heap.size + 1]? = some (.cells #[.bool false, .slice none 0 0, .int .i64 0, .int .i64 0, .int .i64 0] 48 (0, 0)) := by
      rw [h5'.block (w1.heap.size + 1) (by simp) (by simp; omega)]
      show ((w1.alloc _).alloc _).heap[w1.heap.size + 1]? = _
      have h := heap_alloc_new (w1.alloc (.cells #[.bool false, .int .i64 0, .int .i64 0, .slice none 0 0, .int .i64 0] 45 (0, 0))) (.cells #[.bool false, .slice none 0 0, .int .i64 0, .int .i64 0, .int .i64 0] 48 (0, 0))
      simpa using h
    subst hlr
    refine ⟨⟨RS0, { prog := .inr ⟨w1.heap.size, rfl, none, 0, hbp, shows_none, Nat.le_refl _, Nat.zero_le _⟩, ref := ⟨none, 0, hbv, ⟨Nat.le_refl _, .inr ⟨rfl, rfl, rfl⟩⟩, (by decide), (by simp [RS0]), (by decide), fun h => (by cases h), fun h => (by cases h), fun i hi => (by cases hi)⟩, place := fun h => absurd h RS0_not, plain := fun _ => rfl, lim := Nat.zero_le _, nepv := (by simp [rowP]), ned := (by simp [rowP, hd]), bpo := fun g hg => ?_, bpv := (by omega), dlt := (by omega), len := (by decide) }⟩, ?_⟩
    · have : w1.heap.size = g := by simpa [rowP] using hg
      omega
    · have hb := HBA.out (.cells #[.bool false, .int .i64 0, .int .i64 0, .slice none 0 0, .int .i64 0] 45 (0, 0)) (.cells #[.bool false, .slice none 0 0, .int .i64 0, .int .i64 0, .int .i64 0] 48 (0, 0))
      exact Below.grown (row := some w.heap.size) (below_drewN (q := q) hb) h5' hb.size (fun k hk => (by cases hk; exact Nat.le_refl _))
  clear h5 HLA HBA HSA HKP HSP HB1 HL1 HS HB HNB hd hlr
  generalize hpv : w1.heap.size + 1 = pv at *
  clear hpv
  generalize hpo : w1.heap.size = p at *
  clear hpo
  go_wp2
  go_loopw [10] (fun i wr => ∃ k : Nat, k ≤ on ∧ i = .int .i64 k ∧ Hid ((∃ s, Pair w.heap.size limr d pv (some ⟨p, 0, none⟩) wr s) ∧ Below w.heap.size w wr)) (fun i _ => on - (intOf i).toNat)
  case atStart => exact ⟨0, Nat.zero_le _, rfl, HINI.out⟩
  case round =>
    obtain ⟨k, hk, rfl, HR⟩ := hrel
    by_cases hlt : k < on
    · obtain ⟨f, hf⟩ : ∃ f, fs[k]? = some f := ⟨fs[k]'(by have := HON.out; omega), List.getElem?_eq_getElem _⟩
      obtain rfl := HOO.out (by omega)
      obtain ⟨⟨s, hPs⟩, hBl⟩ := HR.out
      have HFW := hide (HF.out.next (HOB.out (by omega)) (w' := wr) (row := none) ⟨hBl.os, hBl.tape, hBl.output, hBl.size, fun i hi _ => hBl.block i hi⟩ (fun g hg => by cases hg))
      have c0 : wr.cell? ⟨b, off + k * 6, none⟩ = some (.int .i64 f.K) := HFW.out.at_ k f hf 0 _ rfl
      have c1 : wr.cell? ⟨b, off + k * 6 + 1, none⟩ = some (.int .u64 (f.N : Int)) := HFW.out.at_ k f hf 1 _ rfl
      have c2 : wr.cell? ⟨b, off + k * 6 + 2, none⟩ = some (.int .i64 f.I) := HFW.out.at_ k f hf 2 _ rfl
      have c3 : wr.cell? ⟨b, off + k * 6 + 3, none⟩ = some (.slice f.bo f.bn f.bc) := HFW.out.at_ k f hf 3 _ rfl
      have c4 : wr.cell? ⟨b, off + k * 6 + 4, none⟩ = some (.string f.S) := HFW.out.at_ k f hf 4 _ rfl
      have c5 : wr.cell? ⟨b, off + k * 6 + 5, none⟩ = some (.int .i64 f.M) := HFW.out.at_ k f hf 5 _ rfl
      have hfo := HFW.out.ok f (List.mem_of_getElem? hf)
      have HRD := hide (read_any f hPs hfo.hM1 hfo.hM2)
      have HBl := hide hBl
      clear hf hPs hBl hfo HR
      go_wp2_with fail
      refine HRD.out.mono ?_
      rintro e w7 ⟨rfl, hres⟩
      have HR7 : Hid ((∃ s, Pair w.heap.size limr d pv (some ⟨p, 0, none⟩) w7 s) ∧ Below w.heap.size w w7) := ⟨hres.1, hres.2 w HBl.out⟩
      clear hres c0 c1 c2 c3 c4 c5
      go_wp2
      go_roundw
      case rel => exact ⟨k + 1, by omega, by go_num, HR7⟩
      case measure => simp [intOf]; omega
    · obtain rfl : k = on := by omega
      obtain ⟨⟨s, hPs⟩, hBl⟩ := HR.out
      have HE := hide (refErr_any d pv s wr hPs.ref)
      have HEP : Hid (∀ wx, Pair w.heap.size limr d pv (some ⟨p, 0, none⟩) wx s → Calls Try.prog 18 #[.pointer (some ⟨p, 0, none⟩)] wx fun e w' => ∃ v, e = .returned v ∧ ErrV w' v s.errC s.errA ∧ Below wx.heap.size wx w') := fun wx h => rErrP h.prog h.place
      have HPS := hide hPs
      have HBl := hide hBl
      generalize s.errC = ec at *
      generalize s.errA = ea at *
      clear HR hPs hBl
      go_wp2_with fail
      refine HE.out.mono ?_
      rintro e w1 ⟨rfl, hb1⟩
      have HP1 := hide (HPS.out.below hb1)
      clear hb1
      go_wp2_with fail
      refine (HEP.out _ (HP1.out.1.alloc _).1).mono ?_
      rintro e w3 ⟨v, rfl, hv, hb3⟩
      have HP3 : Hid (Pair w.heap.size limr d pv (some ⟨p, 0, none⟩) w3 s ∧ Keep w.heap.size wr w3) := by
        have h1 := (HP1.out.1.alloc (.cells #[.int .i64 ec, .int .i64 ea] 34 (0, 0)))
        have h2 := h1.1.below hb3
        exact ⟨h2.1, (HP1.out.2.trans h1.2).trans h2.2⟩
      have a0 : w3.cell? ⟨w1.heap.size, 0, none⟩ = some (.int .i64 ec) := by
        have h := hb3.cell (p := ⟨w1.heap.size, 0, none⟩) (by simp)
        rw [h]
        simp
      have a1 : w3.cell? ⟨w1.heap.size, 1, none⟩ = some (.int .i64 ea) := by
        have h := hb3.cell (p := ⟨w1.heap.size, 1, none⟩) (by simp)
        rw [h]
        simp
      have HV := hide hv
      clear hv hb3 HP1 HE
      go_wp2_with fail
      refine (told_any HV.out).mono ?_
      rintro e w4 ⟨rfl, q, rfl⟩
      have HD := hide (HP3.out.1.drewN q)
      go_wp2_with fail
      refine (stands_any HD.out.1).mono ?_
      rintro e w5 ⟨rfl, h5⟩
      have H5 := hide h5
      clear h5
      go_wp2
      go_ret
      exact ⟨rfl, ((HP3.out.2.trans HD.out.2).trans H5.out.2) w HBl.out⟩
end Go.Proofs.Ytgdliomkdkjlaaa
