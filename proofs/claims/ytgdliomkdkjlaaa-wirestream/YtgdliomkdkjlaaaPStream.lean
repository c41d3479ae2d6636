import Derived.Test.YtgdliomkdkjlaaaPLawK
namespace Go.Proofs.Ytgdliomkdkjlaaa
open Go.RowKit Crc

/-- The fields as they lie, one behind the other. -/
structure Fls (lim : Nat) (w : World) (b off : Nat) (fs : List Fl) : Prop where
  ok : ∀ f ∈ fs, f.Ok lim w
  at_ : ∀ i f, fs[i]? = some f → ∀ j v, f.cells[j]? = some v → w.cell? ⟨b, off + i * 6 + j, none⟩ = some v
theorem Fls.next {lim : Nat} {w w' : World} {b off : Nat} {fs : List Fl} {row : Option Nat} (h : Fls lim w b off fs) (hb : b < lim) (hg : w.grownBy w' row) (hr : ∀ g, row = some g → lim ≤ g) : Fls lim w' b off fs :=
  ⟨fun f hf => (h.ok f hf).next hg hr, fun i f hi j v hj => hg.cell (h.at_ i f hi j v hj) (fun e => by have := hr b e.symm; omega)⟩

theorem encTo_succ {fs : List Fl} {k : Nat} {A : List Nat} (h : encTo fs (k + 1) = some A) : ∃ P X f, encTo fs k = some P ∧ fs[k]? = some f ∧ f.enc = some X ∧ A = P ++ X := by
  rw [encTo] at h
  split at h
  · rename_i P X h1 h2
    cases h
    obtain ⟨f, hf, hx⟩ := Option.bind_eq_some_iff.1 h2
    exact ⟨P, X, f, h1, hf, hx, rfl⟩
  · cases h

set_option maxRecDepth 10000 in
set_option maxHeartbeats 1600000 in
theorem stream_walk (b off : Nat) (ao : Option Addr) (n cap : Nat) (fs : List Fl) (w : World) (hn : n = fs.length) (hn47 : n ≤ 140737488355328) (hF : Fls w.heap.size w b off fs) (hao : 0 < n → ao = some ⟨b, off, none⟩) (hb : 0 < n → b < w.heap.size) :
    Calls Try.prog 5 #[.slice ao n cap] w fun e w' => e = .returned (.bool true) ∧ Below w.heap.size w w' := by
  have HF := hide hF
  have HN := hide hn
  have HAO := hide hao
  have HBW := hide hb
  clear hF hn hao hb
  go_enter Try.func5, Try.ntmps5
  go_wp2
  go_loopw [3, 4] (fun a i wr => ∃ k s : Nat, k ≤ n ∧ s ≤ 65507 ∧ a = .int .i64 s ∧ i = .int .i64 k ∧ Hid (∃ X, encTo fs k = some X ∧ X.length = s) ∧ Hid (Below w.heap.size w wr)) (fun _ i _ => n - (intOf i).toNat)
  case atStart => exact ⟨0, 0, Nat.zero_le _, by omega, rfl, rfl, ⟨[], rfl, rfl⟩, Below.refl _ _⟩
  case round =>
    obtain ⟨k, s, hk, hs, rfl, rfl, HX, HB⟩ := hrel
    by_cases hlt : k < n
    · obtain rfl := HAO.out (by omega)
      obtain ⟨f, hf⟩ : ∃ f, fs[k]? = some f := ⟨_, List.getElem?_eq_getElem (by have := HN.out; omega)⟩
      have HFW := hide (HF.out.next (HBW.out (by omega)) (w' := wr) (row := none) ⟨HB.out.os, HB.out.tape, HB.out.output, HB.out.size, fun i hi _ => HB.out.block i hi⟩ (fun g hg => by cases hg))
      have c0 : wr.cell? ⟨b, off + k * 6, none⟩ = some (.int .i64 f.K) := HFW.out.at_ k f hf 0 _ rfl
      have c1 : wr.cell? ⟨b, off + k * 6 + 1, none⟩ = some (.int .u64 (f.N : Int)) := HFW.out.at_ k f hf 1 _ rfl
      have c2 : wr.cell? ⟨b, off + k * 6 + 2, none⟩ = some (.int .i64 f.I) := HFW.out.at_ k f hf 2 _ rfl
      have c3 : wr.cell? ⟨b, off + k * 6 + 3, none⟩ = some (.slice f.bo f.bn f.bc) := HFW.out.at_ k f hf 3 _ rfl
      have c4 : wr.cell? ⟨b, off + k * 6 + 4, none⟩ = some (.string f.S) := HFW.out.at_ k f hf 4 _ rfl
      have c5 : wr.cell? ⟨b, off + k * 6 + 5, none⟩ = some (.int .i64 f.M) := HFW.out.at_ k f hf 5 _ rfl
      have HSZ := hide (size_any w.heap.size f wr (HFW.out.ok f (List.mem_of_getElem? hf)))
      cases hX : f.enc with
      | none =>
        have HZ : Hid (Calls Try.prog 20 #[.agg #[.int .i64 f.K, .int .u64 (f.N : Int), .int .i64 f.I, .slice f.bo f.bn f.bc, .string f.S, .int .i64 f.M]] wr fun e w' => e = .returned (.int .i64 (-1)) ∧ Below wr.heap.size wr w') := by
          have h := HSZ.out
          rw [hX] at h
          exact h
        clear HSZ HX hX
        go_wp2_with fail
        refine HZ.out.mono ?_
        rintro e w1 ⟨rfl, hb1⟩
        have HB1 := hide (HB.out.trans (hb1.mono HB.out.size))
        clear hb1 c0 c1 c2 c3 c4 c5
        go_wp2
        go_ret
        exact ⟨rfl, HB1.out⟩
      | some X =>
        have HZ : Hid (Calls Try.prog 20 #[.agg #[.int .i64 f.K, .int .u64 (f.N : Int), .int .i64 f.I, .slice f.bo f.bn f.bc, .string f.S, .int .i64 f.M]] wr fun e w' => e = .returned (.int .i64 (X.length : Nat)) ∧ Below wr.heap.size wr w') := by
          have h := HSZ.out
          rw [hX] at h
          exact h
        have HX2 : Hid (∃ A, encTo fs (k + 1) = some A ∧ A.length = s + X.length) := by
          obtain ⟨A, h1, h2⟩ := HX.out
          refine ⟨A ++ X, ?_, by rw [List.length_append, h2]⟩
          rw [encTo, h1, hf]
          show (match some A, f.enc with | some A, some X => some (A ++ X) | _, _ => none) = _
          rw [hX]
        clear HSZ HX hX
        generalize X.length = z at *
        by_cases hbig : 65507 < s + z
        · have d0 : decide ((z : Int) < 0) = false := by simp
          have d1 : decide ((65507 : Int) - (s : Int) < (z : Int)) = true := by simp; omega
          clear HX2
          go_wp2_with fail
          refine HZ.out.mono ?_
          rintro e w1 ⟨rfl, hb1⟩
          have HB1 := hide (HB.out.trans (hb1.mono HB.out.size))
          clear hb1 c0 c1 c2 c3 c4 c5
          go_wp2
          go_ret
          exact ⟨rfl, HB1.out⟩
        · have d0 : decide ((z : Int) < 0) = false := by simp
          have d1 : decide ((65507 : Int) - (s : Int) < (z : Int)) = false := by simp; omega
          go_wp2_with fail
          refine HZ.out.mono ?_
          rintro e w1 ⟨rfl, hb1⟩
          have HB1 := hide (HB.out.trans (hb1.mono HB.out.size))
          clear hb1 c0 c1 c2 c3 c4 c5
          go_wp2
          go_roundw
          case rel => exact ⟨k + 1, s + z, by omega, by omega, by go_num, by go_num, HX2, HB1⟩
          case measure => simp [intOf]; omega
    · obtain rfl : k = n := by omega
      obtain ⟨A, hA, hAs⟩ := HX.out
      have HA := hide hA
      have HAS := hide hAs
      have HSZ0 := hide HB.out.size
      clear HX hA hAs
      go_wp2_with fail
      refine (newWriter_full wr).mono ?_
      rintro e w1 ⟨rfl, hw1, hb1⟩
      have HW1 := hide hw1
      have HB1 := hide (HB.out.trans (hb1.mono HB.out.size))
      have HZ1 := hide hb1.size
      clear hw1 hb1 HB
      generalize hpw : wr.heap.size = pw at *
      clear hpw
      go_wp2
      go_loopw [7] (fun i w2 => ∃ j : Nat, j ≤ k ∧ i = .int .i64 j ∧ Hid (∃ P, encTo fs j = some P ∧ Wr pw w2 pw true 0 0 65507 P ∧ Below w.heap.size w w2 ∧ pw ≤ w2.heap.size)) (fun i _ => k - (intOf i).toNat)
      case atStart => exact ⟨0, Nat.zero_le _, rfl, [], rfl, HW1.out, HB1.out, HZ1.out⟩
      case round =>
        obtain ⟨j, hj, rfl, HP⟩ := hrel
        by_cases hjl : j < k
        · obtain rfl := HAO.out (by omega)
          obtain ⟨P, hP, hW, hBl, hsz⟩ := HP.out
          obtain ⟨P', Q, hP', hQ⟩ := encTo_some HA.out (j + 1) (by omega)
          obtain ⟨P0, X, f, hP0, hf, hX, rfl⟩ := encTo_succ hP'
          rw [hP] at hP0
          cases hP0
          have HFW := hide (HF.out.next (HBW.out (by omega)) (w' := wr) (row := none) ⟨hBl.os, hBl.tape, hBl.output, hBl.size, fun i hi _ => hBl.block i hi⟩ (fun g hg => by cases hg))
          have c0 : wr.cell? ⟨b, off + j * 6, none⟩ = some (.int .i64 f.K) := HFW.out.at_ j f hf 0 _ rfl
          have c1 : wr.cell? ⟨b, off + j * 6 + 1, none⟩ = some (.int .u64 (f.N : Int)) := HFW.out.at_ j f hf 1 _ rfl
          have c2 : wr.cell? ⟨b, off + j * 6 + 2, none⟩ = some (.int .i64 f.I) := HFW.out.at_ j f hf 2 _ rfl
          have c3 : wr.cell? ⟨b, off + j * 6 + 3, none⟩ = some (.slice f.bo f.bn f.bc) := HFW.out.at_ j f hf 3 _ rfl
          have c4 : wr.cell? ⟨b, off + j * 6 + 4, none⟩ = some (.string f.S) := HFW.out.at_ j f hf 4 _ rfl
          have c5 : wr.cell? ⟨b, off + j * 6 + 5, none⟩ = some (.int .i64 f.M) := HFW.out.at_ j f hf 5 _ rfl
          have hlen : P.length + X.length ≤ 65507 := by have h1 := HAS.out; rw [hQ, List.length_append, List.length_append] at h1; omega
          have HPU : Hid (Calls Try.prog 22 #[.pointer (some ⟨pw, 0, none⟩), .agg #[.int .i64 f.K, .int .u64 (f.N : Int), .int .i64 f.I, .slice f.bo f.bn f.bc, .string f.S, .int .i64 f.M]] wr fun e w' => e = .returned (.tuple #[]) ∧ Wr pw w' pw true 0 0 65507 (P ++ X) ∧ Below w.heap.size wr w') :=
            put_any pw w.heap.size pw f X P wr (HFW.out.ok f (List.mem_of_getElem? hf)) hX hW hlen hsz HSZ0.out HSZ0.out
          have HBl := hide hBl
          have HSz := hide hsz
          have HP' := hide hP'
          clear HP hP hW hBl hsz hP' hQ hX hf hlen
          go_wp2_with fail
          refine HPU.out.mono ?_
          rintro e w2 ⟨rfl, hw2, hb2⟩
          have HR2 : Hid (∃ P, encTo fs (j + 1) = some P ∧ Wr pw w2 pw true 0 0 65507 P ∧ Below w.heap.size w w2 ∧ pw ≤ w2.heap.size) := ⟨_, HP'.out, hw2, HBl.out.trans hb2, Nat.le_trans HSz.out hb2.size⟩
          clear hw2 hb2 c0 c1 c2 c3 c4 c5
          go_wp2
          go_roundw
          case rel => exact ⟨j + 1, by omega, by go_num, HR2⟩
          case measure => simp [intOf]; omega
        · obtain rfl : j = k := by omega
          obtain ⟨P, hP, hW, hBl, hsz⟩ := HP.out
          rw [HA.out] at hP
          cases hP
          have HW := hide hW
          have HBl := hide hBl
          have HBY := hide (wBytes_good pw pw 0 65507 A wr hW)
          clear HP hW hBl hsz HW1 HB1 HZ1
          go_wp2_with fail
          refine HBY.out.mono ?_
          rintro e w3 ⟨v, rfl, ho, hb3⟩
          have HLN := hide (wLen_any pw pw true 0 0 65507 A w3 (by
            obtain ⟨u, hb, hO, hne⟩ := HW.out
            exact ⟨u, ((below_none hb3).block pw (block_lt hb) (by simp)).trans hb, hO.quiet (below_none hb3), hne⟩))
          have HB3 := hide (HBl.out.trans (hb3.mono HBl.out.size))
          obtain ⟨a3, c3, rfl, hs3, _⟩ := ho.form
          have HNR := hide (newReader_any hs3 (Nat.le_refl _))
          clear ho hb3 hs3
          rw [HAS.out] at HLN HNR ⊢
          go_wp2_with fail
          refine HLN.out.mono ?_
          rintro e w4 ⟨rfl, rfl⟩
          go_wp2_with fail
          refine HNR.out.mono ?_
          rintro e w5 ⟨pr, limr, rfl, hpr, hlr, hr5, hb5⟩
          have HR5 := hide hr5
          have HB5 := hide (HB3.out.trans (hb5.mono HB3.out.size))
          have HPR : Hid (w.heap.size ≤ pr) := Nat.le_trans HB3.out.size hpr
          clear hr5 hb5 hpr hlr HLN HNR HBY HW HBl HB3
          go_wp2
          go_loopw [11] (fun i w6 => ∃ m : Nat, m ≤ j ∧ i = .int .i64 m ∧ Hid (∃ P, encTo fs m = some P ∧ RdS limr w6 pr ⟨true, 0, 0, A, P.length⟩ ∧ Below w.heap.size w w6)) (fun i _ => j - (intOf i).toNat)
          case atStart => exact ⟨0, Nat.zero_le _, rfl, [], rfl, HR5.out, HB5.out⟩
          case round =>
            obtain ⟨m, hm, rfl, HM⟩ := hrel
            by_cases hml : m < j
            · obtain rfl := HAO.out (by omega)
              obtain ⟨P, hP, hR, hBl⟩ := HM.out
              obtain ⟨P', Q, hP', hQ⟩ := encTo_some HA.out (m + 1) (by omega)
              obtain ⟨P0, X, f, hP0, hf, hX, rfl⟩ := encTo_succ hP'
              rw [hP] at hP0
              cases hP0
              have HFW := hide (HF.out.next (HBW.out (by omega)) (w' := wr) (row := none) ⟨hBl.os, hBl.tape, hBl.output, hBl.size, fun i hi _ => hBl.block i hi⟩ (fun g hg => by cases hg))
              have c0 : wr.cell? ⟨b, off + m * 6, none⟩ = some (.int .i64 f.K) := HFW.out.at_ m f hf 0 _ rfl
              have c1 : wr.cell? ⟨b, off + m * 6 + 1, none⟩ = some (.int .u64 (f.N : Int)) := HFW.out.at_ m f hf 1 _ rfl
              have c2 : wr.cell? ⟨b, off + m * 6 + 2, none⟩ = some (.int .i64 f.I) := HFW.out.at_ m f hf 2 _ rfl
              have c3 : wr.cell? ⟨b, off + m * 6 + 3, none⟩ = some (.slice f.bo f.bn f.bc) := HFW.out.at_ m f hf 3 _ rfl
              have c4 : wr.cell? ⟨b, off + m * 6 + 4, none⟩ = some (.string f.S) := HFW.out.at_ m f hf 4 _ rfl
              have c5 : wr.cell? ⟨b, off + m * 6 + 5, none⟩ = some (.int .i64 f.M) := HFW.out.at_ m f hf 5 _ rfl
              have hrest : RS.rest ⟨true, 0, 0, A, P.length⟩ = X ++ Q := by
                simp only [RS.rest, restB, and_self, if_true]
                rw [hQ, List.append_assoc, List.drop_left]
              have HTA : Hid (Calls Try.prog 24 #[.pointer (some ⟨pr, 0, none⟩), .agg #[.int .i64 f.K, .int .u64 (f.N : Int), .int .i64 f.I, .slice f.bo f.bn f.bc, .string f.S, .int .i64 f.M]] wr fun e w' => e = .returned (.bool true) ∧ RdS limr w' pr (RS.step ⟨true, 0, 0, A, P.length⟩ X.length 0) ∧ wr.grownBy w' (some pr)) :=
                take_any limr w.heap.size pr f X Q _ wr (HFW.out.ok f (List.mem_of_getElem? hf)) HPR.out hX hR hrest
              have HBl := hide hBl
              have HP' := hide hP'
              clear HM hP hR hBl hP' hQ hX hf hrest
              go_wp2_with fail
              refine HTA.out.mono ?_
              rintro e w7 ⟨rfl, hr7, hg7⟩
              have HR7 : Hid (∃ P, encTo fs (m + 1) = some P ∧ RdS limr w7 pr ⟨true, 0, 0, A, P.length⟩ ∧ Below w.heap.size w w7) := by
                refine ⟨_, HP'.out, ?_, HBl.out.grown hg7 HBl.out.size (fun g hg => by cases hg; exact HPR.out)⟩
                rw [List.length_append]
                exact hr7
              clear hr7 hg7 c0 c1 c2 c3 c4 c5
              go_wp2
              go_roundw
              case rel => exact ⟨m + 1, by omega, by go_num, HR7⟩
              case measure => simp [intOf]; omega
            · obtain rfl : m = j := by omega
              obtain ⟨P, hP, hR, hBl⟩ := HM.out
              rw [HA.out] at hP
              cases hP
              have HBl := hide hBl
              have HEN := hide (rEnd_sound limr pr ⟨true, 0, 0, A, A.length⟩ wr hR ⟨rfl, rfl⟩ rfl)
              have HRQ : Hid (∀ q, RdS limr (wr.drewN q) pr ⟨true, 0, 0, A, A.length⟩) := fun q => hR.kept (drew_grown wr q) (fun g hg => by cases hg)
              have HAT : Hid (∀ q, Calls Try.prog 26 #[.pointer (some ⟨pr, 0, none⟩)] (wr.drewN q) fun e w' => e = .returned (.int .i64 (s : Nat)) ∧ w' = wr.drewN q) := by
                intro q
                have h := rAt_any limr pr _ _ (HRQ.out q)
                rw [← HAS.out]
                exact h
              have HLF : Hid (∀ q, Calls Try.prog 27 #[.pointer (some ⟨pr, 0, none⟩)] (wr.drewN q) fun e w' => e = .returned (.int .i64 0) ∧ ∃ q2, w' = (wr.drewN q).drewN q2) := by
                intro q
                have h := rLeft_any limr pr _ _ (HRQ.out q)
                simp only [Nat.sub_self] at h
                exact h
              clear HM hR hBl HRQ
              go_wp2_with fail
              refine HEN.out.mono ?_
              rintro e w8 ⟨rfl, q, rfl⟩
              go_wp2_with fail
              refine (HAT.out q).mono ?_
              rintro e w9 ⟨rfl, rfl⟩
              go_wp2_with fail
              refine (HLF.out q).mono ?_
              rintro e w9 ⟨rfl, q2, rfl⟩
              go_wp2
              go_ret
              exact ⟨rfl, below_drewN HBl.out⟩
end Go.Proofs.Ytgdliomkdkjlaaa
