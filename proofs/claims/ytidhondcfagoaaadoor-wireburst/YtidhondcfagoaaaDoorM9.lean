import Derived.Test.YtidhondcfagoaaaDoorM8
import Derived.Test.YtidhondcfagoaaaDoorM5
import Derived.Lib.AppendStr
import Derived.Laws.RangeAny
import Derived.Laws.BytesString
namespace Go.Proofs.YtidhondcfagoaaaDoor
open Go.RowKit Crc

theorem shows_part {lim : Nat} {w : World} {ao : Option Addr} {n cap : Nat} {B : List Nat} (h : Shows lim w ao n cap B) {b off k m : Nat} (hao : ao = some ⟨b, off, none⟩) (hk : k + m ≤ n) (hkc : 0 < n) : Shows lim w (some ⟨b, off + k, none⟩) m (cap - k) ((B.drop k).take m) := by
  obtain ⟨h1, h2, h3, h4, b', off', h5, h6, h7⟩ := h
  have e := h5 hkc
  rw [hao] at e
  cases e
  refine ⟨by rw [List.length_take, List.length_drop]; omega, by omega, by omega, fun x hx => h4 x (List.mem_of_mem_drop (List.mem_of_mem_take hx)), b, off + k, fun _ => rfl, fun _ => h6 hkc, fun i hi => ?_⟩
  rw [getD_take hi, getD_drop, Nat.add_assoc]
  exact h7 (k + i) (by omega)

theorem countAt_ok (B : List Nat) (most : Int) : (countAt B most).2.1 ≤ B.length ∧ (countAt B most).2.1 ≤ 10 ∧ ((countAt B most).2.2 = 0 → 0 ≤ most → ((countAt B most).1 : Int) ≤ most) ∧ ((countAt B most).2.2 = 0 → 0 ≤ most) ∧ ((countAt B most).2.2 ≠ 0 → (countAt B most).1 = 0 ∧ (countAt B most).2.1 = 0) := by
  have h := numAt_ok B
  unfold countAt
  split
  · rename_i h1; simp [h1]
  · split
    · simp
    · rename_i h2
      refine ⟨h.2.1, h.2.2.1, fun _ _ => ?_, fun _ => ?_, fun h => absurd rfl h⟩
      · show ((numAt B).1 : Int) ≤ most; omega
      · omega

set_option maxRecDepth 10000 in
set_option maxHeartbeats 800000 in
theorem blobAhead_any {lim : Nat} {w : World} {ao : Option Addr} {n cap : Nat} {B : List Nat} (h : Shows lim w ao n cap B) (most : Int) (hm1 : -9223372036854775808 ≤ most) (hm2 : most < 9223372036854775808) :
    Calls Tryd.prog 70 #[.slice ao n cap, .int .i64 most] w fun e w' => ∃ a2 n2 c2, e = .returned (.tuple #[.slice a2 n2 c2, .int .i64 ((blobAt B most).2.1 : Nat), .int .i64 (blobAt B most).2.2]) ∧ Shows lim w a2 n2 c2 (blobAt B most).1 ∧ ∃ q, w' = w.drewN q := by
  have HCO := hide (countAhead_any h most hm1 hm2)
  obtain ⟨k2, k3, k4, k5, _⟩ := countAt_ok B most
  have HBA : Hid (blobAt B most = if (countAt B most).2.2 ≠ 0 then ([], 0, (countAt B most).2.2) else if B.length < (countAt B most).2.1 + (countAt B most).1 then ([], 0, 20) else ((B.drop (countAt B most).2.1).take (countAt B most).1, (countAt B most).2.1 + (countAt B most).1, 0)) := rfl
  have HS := hide h
  have hcap := h.2.1
  have hn47 := h.2.2.1
  have HN := hide h.1
  clear h
  generalize hr : countAt B most = r at *
  clear hr
  obtain ⟨x, z, y⟩ := r
  simp only at k2 k3 k4 k5
  by_cases hy : y = 0
  · subst hy
    have k6 : (x : Int) ≤ most := k4 rfl (k5 rfl)
    have k7 := HN.out
    rw [← k7] at k2
    clear k4 k5 k7
    have hx63 : (x : Int) < 9223372036854775808 := by omega
    have hzn : (z : Int) ≤ (n : Int) := by omega
    by_cases hsx : n < z + x
    · have HF : Hid (blobAt B most = ([], 0, 20)) := by have h1 := HBA.out; have h2 := HN.out; rw [← h2] at h1; simp [hsx] at h1; exact h1
      have d1 : decide ((n : Int) - (z : Int) < (x : Int)) = true := by simp; omega
      clear HBA
      go_enter Tryd.func70, Tryd.ntmps70
      go_wp2_with fail
      refine HCO.out.mono ?_
      rintro e w1 ⟨rfl, q, rfl⟩
      go_wp2
      go_ret3
      exact ⟨_, _, _, by rw [HF.out]; rfl, by rw [HF.out]; exact shows_none, q, rfl⟩
    · have HF : Hid (blobAt B most = ((B.drop z).take x, z + x, 0)) := by have h1 := HBA.out; have h2 := HN.out; rw [← h2] at h1; simp [hsx] at h1; exact h1
      have d1 : decide ((n : Int) - (z : Int) < (x : Int)) = false := by simp; omega
      have hzx : (z : Int) + (x : Int) ≤ (cap : Int) := by omega
      have hz0 : (0 : Int) ≤ (z : Int) := by omega
      have hzz : (z : Int) ≤ (z : Int) + (x : Int) := by omega
      clear HBA
      by_cases hn0 : n = 0
      · have HB0 : Hid (B = []) := List.eq_nil_of_length_eq_zero (by have := HN.out; omega)
        obtain rfl : z = 0 := by omega
        obtain rfl : x = 0 := by omega
        clear hsx hzx hz0 hzz hzn hx63 k6 k2 k3 d1
        subst hn0
        go_enter Tryd.func70, Tryd.ntmps70
        go_wp2_with fail
        refine HCO.out.mono ?_
        rintro e w1 ⟨rfl, q, rfl⟩
        go_wp2
        go_ret3
        exact ⟨_, _, _, by rw [HF.out]; rfl, by rw [HF.out, HB0.out]; exact shows_none, q, rfl⟩
      · obtain ⟨b, off, hao⟩ : ∃ b off, ao = some ⟨b, off, none⟩ := by
          obtain ⟨_, _, _, _, b, off, h5, _, _⟩ := HS.out
          exact ⟨b, off, h5 (by omega)⟩
        subst hao
        have HFI := hide (shows_part HS.out rfl (k := z) (m := x) (by omega) (by omega))
        by_cases hce : cap = z
        · subst hce
          obtain rfl : x = 0 := by omega
          go_enter Tryd.func70, Tryd.ntmps70
          go_wp2_with fail
          refine HCO.out.mono ?_
          rintro e w1 ⟨rfl, q, rfl⟩
          go_wp2
          go_ret3
          exact ⟨_, _, _, by rw [HF.out]; rfl, by rw [HF.out, List.take_zero]; exact shows_none, q, rfl⟩
        · go_enter Tryd.func70, Tryd.ntmps70
          go_wp2_with fail
          refine HCO.out.mono ?_
          rintro e w1 ⟨rfl, q, rfl⟩
          go_wp2
          go_ret3
          exact ⟨_, _, _, by rw [HF.out]; rfl, by rw [HF.out, Nat.add_sub_cancel_left]; exact HFI.out, q, rfl⟩
  · have HF : Hid (blobAt B most = ([], 0, y)) := by have h1 := HBA.out; simp [hy] at h1; exact h1
    have hyb : (y == 0) = false := by simp [hy]
    clear HBA hy k4 k5
    go_enter Tryd.func70, Tryd.ntmps70
    go_wp2_with fail
    refine HCO.out.mono ?_
    rintro e w1 ⟨rfl, q, rfl⟩
    go_wp2
    go_ret3
    exact ⟨_, _, _, by rw [HF.out]; rfl, by rw [HF.out]; exact shows_none, q, rfl⟩

/-- A field whose size is no more than what is left may be stepped over. -/
theorem step_fits {lim : Nat} {w : World} {p : Nat} {s : RS} (hR : RdS lim w p s) {z : Nat} (hz : z ≤ s.rest.length) : s.sound → s.pos + z ≤ s.B.length := by
  intro h
  have h3 := rest_len h
  have h4 := hR.pos
  omega

set_option maxRecDepth 10000 in
set_option maxHeartbeats 800000 in
theorem rNum_any (lim p : Nat) (s : RS) (w : World) (hR : RdS lim w p s) :
    Calls Tryd.prog 65 #[.pointer (some ⟨p, 0, none⟩)] w fun e w' => e = .returned (.int .u64 ((numAt s.rest).1 : Nat)) ∧ RdS lim w' p (s.step (numAt s.rest).2.1 (numAt s.rest).2.2) ∧ w.grownBy w' (some p) := by
  have HRS := hide (rest_any lim p s.made s.place s.why s.B s.pos w hR)
  have HST := hide (fun q => step_any lim p s (numAt s.rest).2.1 (numAt s.rest).2.1 (numAt s.rest).2.2 (w.drewN q) (Rd.world hR rfl) rfl (fun h _ => step_fits hR (numAt_ok s.rest).2.1 h))
  clear hR
  go_enter Tryd.func65, Tryd.ntmps65
  go_wp2_with fail
  refine HRS.out.mono ?_
  rintro e w1 ⟨a1, n1, c1, rfl, hs1, q, rfl⟩
  have HS1 := hide (hs1.world (w' := w.drewN q) rfl)
  clear hs1
  go_wp2_with fail
  refine (numAhead_any HS1.out).mono ?_
  rintro e w2 ⟨rfl, rfl⟩
  clear HS1
  go_wp2_with fail
  refine (HST.out q).mono ?_
  rintro e w3 ⟨rfl, hr3, hg3⟩
  go_wp2
  go_ret
  exact ⟨rfl, hr3, grown_from hg3⟩

set_option maxRecDepth 10000 in
set_option maxHeartbeats 800000 in
theorem rFlag_any (lim p : Nat) (s : RS) (w : World) (hR : RdS lim w p s) :
    Calls Tryd.prog 66 #[.pointer (some ⟨p, 0, none⟩)] w fun e w' => e = .returned (.bool (flagV s.rest)) ∧ RdS lim w' p (s.step 1 (flagW s.rest)) ∧ w.grownBy w' (some p) := by
  have HRS := hide (rest_any lim p s.made s.place s.why s.B s.pos w hR)
  have HST := hide (fun q => step_any lim p s 1 1 (flagW s.rest) (w.drewN q) (Rd.world hR rfl) rfl (by
    intro h h0
    refine step_fits hR ?_ h
    revert h0
    cases s.rest with
    | nil => intro h0; cases h0
    | cons c r => intro _; simp))
  clear hR
  go_enter Tryd.func66, Tryd.ntmps66
  go_wp2_with fail
  refine HRS.out.mono ?_
  rintro e w1 ⟨a1, n1, c1, rfl, hs1, q, rfl⟩
  have HS1 : Hid (Shows lim (w.drewN q) a1 n1 c1 s.rest) := hs1.world (w' := w.drewN q) rfl
  clear hs1
  go_wp2_with fail
  refine (flagAhead_any HS1.out).mono ?_
  rintro e w2 ⟨rfl, q2, rfl⟩
  clear HS1
  go_wp2_with fail
  refine (HST.out _).mono ?_
  rintro e w3 ⟨rfl, hr3, hg3⟩
  go_wp2
  go_ret
  exact ⟨rfl, hr3, grown_from hg3⟩

set_option maxRecDepth 10000 in
set_option maxHeartbeats 800000 in
theorem rCount_any (lim p : Nat) (s : RS) (most : Int) (w : World) (hR : RdS lim w p s) (hm1 : -9223372036854775808 ≤ most) (hm2 : most < 9223372036854775808) :
    Calls Tryd.prog 63 #[.pointer (some ⟨p, 0, none⟩), .int .i64 most] w fun e w' => e = .returned (.int .i64 ((countAt s.rest most).1 : Nat)) ∧ RdS lim w' p (s.step (countAt s.rest most).2.1 (countAt s.rest most).2.2) ∧ w.grownBy w' (some p) := by
  have HRS := hide (rest_any lim p s.made s.place s.why s.B s.pos w hR)
  have HST := hide (fun q => step_any lim p s (countAt s.rest most).2.1 (countAt s.rest most).2.1 (countAt s.rest most).2.2 (w.drewN q) (Rd.world hR rfl) rfl (fun h _ => step_fits hR (countAt_ok s.rest most).1 h))
  clear hR
  go_enter Tryd.func63, Tryd.ntmps63
  go_wp2_with fail
  refine HRS.out.mono ?_
  rintro e w1 ⟨a1, n1, c1, rfl, hs1, q, rfl⟩
  have HS1 : Hid (Shows lim (w.drewN q) a1 n1 c1 s.rest) := hs1.world (w' := w.drewN q) rfl
  clear hs1
  go_wp2_with fail
  refine (countAhead_any HS1.out most hm1 hm2).mono ?_
  rintro e w2 ⟨rfl, q2, rfl⟩
  clear HS1
  go_wp2_with fail
  refine (HST.out _).mono ?_
  rintro e w3 ⟨rfl, hr3, hg3⟩
  go_wp2
  go_ret
  exact ⟨rfl, hr3, grown_from hg3⟩

theorem RdS.kept {lim : Nat} {w w' : World} {p : Nat} {s : RS} {row : Option Nat} (h : RdS lim w p s) (hg : w.grownBy w' row) (hr : ∀ g, row = some g → lim ≤ g ∧ g ≠ p) : RdS lim w' p s := by
  obtain ⟨ao, cap, hb, hS, hp, hl⟩ := h
  exact ⟨ao, cap, (hg.block p (block_lt hb) (fun e => (hr p e.symm).2 rfl)).trans hb, hS.kept hg (fun g e => (hr g e).1), hp, hl⟩
theorem RdS.plt {lim : Nat} {w : World} {p : Nat} {s : RS} (h : RdS lim w p s) : p < w.heap.size := by obtain ⟨ao, cap, hb, hS, hp, hl⟩ := h; exact block_lt hb
theorem copied_sh {lim : Nat} {w : World} {ao : Option Addr} {n cap : Nat} {B : List Nat} (h : Shows lim w ao n cap B) (hlw : lim ≤ w.heap.size) :
    Calls Tryd.prog 14 #[.slice ao n cap] w fun e w' => ∃ v, e = .returned v ∧ (v = .slice none 0 0 ∨ v = .slice (some ⟨w.heap.size, 0, none⟩) n n) ∧ (0 < n → v ≠ .slice none 0 0) ∧ Fresh w w' v B := by
  obtain ⟨h1, h2, h3, h4, b, off, h5, h6, h7⟩ := h
  exact copied_any b off ao B n cap w h5 h1 h3 (fun h => Nat.lt_of_lt_of_le (h6 h) hlw) h7
theorem blobAt_ok (B : List Nat) (most : Int) : (blobAt B most).2.1 ≤ B.length := by
  unfold blobAt
  split
  · simp
  · split
    · simp
    · rename_i h; show _ + _ ≤ _; omega

set_option maxRecDepth 10000 in
set_option maxHeartbeats 800000 in
theorem rBlob_any (lim p : Nat) (s : RS) (most : Int) (w : World) (hR : RdS lim w p s) (hm1 : -9223372036854775808 ≤ most) (hm2 : most < 9223372036854775808) :
    Calls Tryd.prog 60 #[.pointer (some ⟨p, 0, none⟩), .int .i64 most] w fun e w' => ∃ v, e = .returned v ∧ Owns w.heap.size w' v (blobAt s.rest most).1 ∧ (v = .slice none 0 0 ∨ ∃ g, w.heap.size ≤ g ∧ v = .slice (some ⟨g, 0, none⟩) (blobAt s.rest most).1.length (blobAt s.rest most).1.length) ∧ RdS lim w' p (s.step (blobAt s.rest most).2.1 (blobAt s.rest most).2.2) ∧ w.grownBy w' (some p) := by
  have HRS := hide (rest_any lim p s.made s.place s.why s.B s.pos w hR)
  have HST := hide (fun q => step_any lim p s (blobAt s.rest most).2.1 (blobAt s.rest most).2.1 (blobAt s.rest most).2.2 (w.drewN q) (Rd.world hR rfl) rfl (fun h _ => step_fits hR (blobAt_ok s.rest most) h))
  have HL := hide hR.limp
  have HP := hide hR.plt
  clear hR
  go_enter Tryd.func60, Tryd.ntmps60
  go_wp2_with fail
  refine HRS.out.mono ?_
  rintro e w1 ⟨a1, n1, c1, rfl, hs1, q, rfl⟩
  have HS1 : Hid (Shows lim (w.drewN q) a1 n1 c1 s.rest) := hs1.world (w' := w.drewN q) rfl
  clear hs1
  go_wp2_with fail
  refine (blobAhead_any HS1.out most hm1 hm2).mono ?_
  rintro e w2 ⟨a2, n2, c2, rfl, hs2, q2, rfl⟩
  have HS2 : Hid (∀ q, Shows lim (w.drewN q) a2 n2 c2 (blobAt s.rest most).1) := fun q => hs2.world rfl
  have HN2 := hide hs2.1
  clear HS1 hs2
  go_wp2_with fail
  refine (HST.out _).mono ?_
  rintro e w3 ⟨rfl, hr3, hg3⟩
  have HR3 := hide hr3
  have HG3 := hide (grown_from hg3)
  have HS3 := hide ((HS2.out 0).kept (w := w.drewN 0) (w' := w3) (row := some p) ⟨HG3.out.os, HG3.out.tape, HG3.out.output, HG3.out.size, HG3.out.block⟩ (fun g hg => by cases hg; exact HL.out))
  have HLW : Hid (lim ≤ w3.heap.size) := by have h1 := HR3.out.plt; have h2 := HL.out; show _ ≤ _; omega
  clear hr3 hg3
  go_wp2_with fail
  refine (copied_sh HS3.out HLW.out).mono ?_
  rintro e w4 ⟨v, rfl, hv, _, hfr⟩
  go_wp2
  go_ret
  have hsz := HG3.out.size
  have hgb := below_none hfr.2
  have hbB : ∀ x ∈ (blobAt s.rest most).1, x < 256 := HS3.out.2.2.2.1
  have hbL : (blobAt s.rest most).1.length ≤ 140737488355328 := by rw [← HN2.out]; exact HS3.out.2.2.1
  have ho : Owns w3.heap.size w4 v (blobAt s.rest most).1 := ⟨hfr.1, hbB, hbL⟩
  refine ⟨v, rfl, ho.lower hsz, ?_, HR3.out.kept hgb (fun g hg => by cases hg), grown_quiet HG3.out hgb⟩
  rw [← HN2.out]
  rcases hv with h | h
  · exact .inl h
  · exact .inr ⟨_, hsz, h⟩
end Go.Proofs.YtidhondcfagoaaaDoor
namespace Go.Proofs.YtidhondcfagoaaaDoor
open Go.RowKit Crc

/-- A text's bytes. -/
def strB (s : ByteArray) : List Nat := s.data.toList.map (·.toNat)
theorem strB_len (s : ByteArray) : (strB s).length = s.size := by simp [strB]
theorem strB_lt (s : ByteArray) : ∀ x ∈ strB s, x < 256 := by
  intro x hx
  simp only [strB, List.mem_map] at hx
  obtain ⟨b, _, rfl⟩ := hx
  exact b.toNat_lt
theorem strB_vals (s : ByteArray) : vals (strB s) = Go.Lib.strCells s := by
  simp [vals, strB, Go.Lib.strCells]

theorem run_append_string_ext {P : Program} {w : World} (base : Nat) (t u ty e : TypeId) (i : TypeInfo) (ht : P.underlying t = some (.slice e)) (hu : P.underlying u = some .string) (hi : P.info? e = some i) (hz : i.zero = some (.int .u8 0))
    (hsize : i.size = 1) (hby : i.bytes = 1)
    (v : Value) (n : Nat) (xs : List Value) (hown : w.ownsRow base e 1 v n xs) (s : ByteArray) (hbytes : n + s.size ≤ 140737488355328) (hbase : base ≤ w.heap.size) :
    ∃ v' w', (Builtin.append_ #[t, u] ty #[v, .string s]).run P w = .ok v' w' ∧ w'.ownsRow base e 1 v' (n + s.size) (xs ++ Go.Lib.strCells s) ∧ Ext w w' v v' := by
  have h63 : n + s.size ≤ maxLen := by unfold maxLen; omega
  obtain ⟨v', w', hr, ho, hg, _⟩ := Go.Lib.run_append_own_string (P := P) w base t u ty e i ht hu hi hz hsize hby v n xs hown s h63 hbytes hbase
  refine ⟨v', w', hr, ho, hg, ?_⟩
  have hxl : xs.length = n := by simpa using hown.1
  rcases hown.2 with ⟨rfl, rfl⟩ | ⟨g, cap, cur, rfl, hbg, hgg, hnc, hcm, hcs, htake⟩
  · have hx : xs = [] := List.eq_nil_of_length_eq_zero hxl
    subst hx
    obtain ⟨v2, w2, hr2, ho2, _, _⟩ := Go.Lib.run_append_own_string (P := P) w w.heap.size t u ty e i ht hu hi hz hsize hby (.slice none 0 0) 0 [] (World.ownsRow_nil w _ _ _) s h63 hbytes (Nat.le_refl _)
    rw [hr] at hr2
    cases hr2
    exact fun g hg => .inr (ho2.lt g hg).1
  · by_cases hroom : n + s.size ≤ cap
    · have hr2 := Go.Lib.run_append_room_string (P := P) w t u ty e i ht hu hi hsize g n cap cur hgg s hroom (by omega)
      rw [hr] at hr2
      cases hr2
      exact fun g' hg' => .inl hg'
    · have holds : ∀ j u, xs[j]? = some u → w.cell? ((⟨g, 0, none⟩ : Addr).add j) = some u := hown.cells (g := g) rfl
      have hr2 := Go.Lib.run_append_grow_string (P := P) w t u ty e i (.int .u8 0) ht hu hi hz ⟨g, 0, none⟩ n cap xs (by rw [hsize]; simpa using hxl) holds s (by omega) (by unfold maxLen at h63; omega) (by rw [hby]; exact growslice_fits (by omega) (by omega))
      rw [hr] at hr2
      cases hr2
      intro g' hg'
      simp [Value.ownBlock] at hg'
      exact .inr (by omega)

theorem wpList_append_string_ext {P : Program} (w : World) {ops : Array Oper} {rest : List Oper} {o : Oper} {a : Act} {Q : Exit → Act → World → Prop} (hgd : o.guard = none) (sl x : Operand) (t u : TypeId)
    (ho : o.op = .call { callee := .builtin .append, args := #[sl, x], argTypes := #[t, u] })
    (base : Nat) (e : TypeId) (i : TypeInfo) (ht : P.underlying t = some (.slice e)) (hu : P.underlying u = some .string) (hi : P.info? e = some i) (hz : i.zero = some (.int .u8 0))
    (hsize : i.size = 1) (hby : i.bytes = 1)
    (v : Value) (n : Nat) (xs : List Value) (hs : a.eval sl = v) (hown : w.ownsRow base e 1 v n xs) (s : ByteArray) (hx : a.eval x = .string s)
    (hbytes : n + s.size ≤ 140737488355328) (hbase : base ≤ w.heap.size)
    (h : ∀ v' w', w'.ownsRow base e 1 v' (n + s.size) (xs ++ Go.Lib.strCells s) → Ext w w' v v' → wpList P ops Q rest (a.put o.dst v') w') : wpList P ops Q (o :: rest) a w := by
  refine wpList_plain hgd fun K hK => ?_
  obtain ⟨v', w', hr, h2, h3⟩ := run_append_string_ext (P := P) (w := w) base t u o.type e i ht hu hi hz hsize hby v n xs hown s hbytes hbase
  unfold Oper.wp execOp
  simp only [ho, resolve, invoke, builtin, Sem.run_bind, Sem.run_pure, Result.andThen_ok, List.map_toArray, List.map_cons, List.map_nil, hs, hx, hr]
  exact hK _ _ (h v' w' h2 h3)

def Ascii (s : ByteArray) : Prop := ∀ i (h : i < s.size), (s[i]'h).toNat < 128

end Go.Proofs.YtidhondcfagoaaaDoor
