import Derived.Test.YtbfjeabngdiejaaDoorHigh
namespace Go.Proofs.YtbfjeabngdiejaaDoor
open Go.RowKit Crc

def lowOf (B : List Nat) : Nat := lo4 (B.getD (B.length - 4) 0) (B.getD (B.length - 4 + 1) 0) (B.getD (B.length - 4 + 2) 0) (B.getD (B.length - 4 + 3) 0)

/-- Why the bytes are no datagram: the place and the number. -/
def ff (B : List Nat) : Nat × Nat :=
  if 65507 < B.length then (65507, 21)
  else if B.length < 12 then (B.length, 20)
  else if hi (B.take 2) ≠ 20813 then (0, 22)
  else if B.getD 2 0 ≠ 1 then (2, 23)
  else if B.length < 12 + hi ((B.drop 4).take 4) then (B.length, 20)
  else if 12 + hi ((B.drop 4).take 4) < B.length then (12 + hi ((B.drop 4).take 4), 28)
  else if Crc.sum (B.take (B.length - 4)) ≠ lowOf B then (B.length - 4, 24)
  else (0, 0)

def pairV (p : Nat × Nat) : Value := .tuple #[.int .i64 (p.1 : Int), .int .i64 (p.2 : Int)]

set_option maxHeartbeats 400000 in
theorem ff_long (ao : Option Addr) (n cap : Nat) (w : World) (h : 65507 < n) (hl : n ≤ 140737488355328) :
    Calls Tryd.prog 18 #[.slice ao n cap] w fun e w' => e = .returned (pairV (65507, 21)) ∧ w' = w := by
  go_enter Tryd.func18, Tryd.ntmps18
  go_wp2
  go_ret2
  exact ⟨rfl, rfl⟩
set_option maxHeartbeats 400000 in
theorem ff_short (ao : Option Addr) (n cap : Nat) (w : World) (h : n < 12) :
    Calls Tryd.prog 18 #[.slice ao n cap] w fun e w' => e = .returned (pairV (n, 20)) ∧ w' = w := by
  go_enter Tryd.func18, Tryd.ntmps18
  go_wp2
  go_ret2
  exact ⟨rfl, rfl⟩

theorem getD_take {B : List Nat} {k i : Nat} (h : i < k) : (B.take k).getD i 0 = B.getD i 0 := by
  rw [List.getD_eq_getElem?_getD, List.getD_eq_getElem?_getD, List.getElem?_take, if_pos h]
theorem getD_drop {B : List Nat} {k i : Nat} : (B.drop k).getD i 0 = B.getD (k + i) 0 := by
  rw [List.getD_eq_getElem?_getD, List.getD_eq_getElem?_getD, List.getElem?_drop]

set_option maxHeartbeats 1000000 in
theorem ff_main (b off : Nat) (B : List Nat) (n cap : Nat) (w : World) (hn : n = B.length) (h12 : 12 ≤ n) (hl : n ≤ 65507) (hcap : n ≤ cap) (hB : ∀ x ∈ B, x < 256) (hT : Table w)
  (hc : ∀ i, i < n → w.cell? ⟨b, off + i, none⟩ = some (.int .u8 ((B.getD i 0 : Nat) : Int))) :
    Calls Tryd.prog 18 #[.slice (some ⟨b, off, none⟩) n cap] w fun e w' => e = .returned (pairV (ff B)) ∧ ∃ q, w' = w.drewN q := by
  have HN : Hid (n = B.length) := hn
  have HT : Hid (Table w) := hT
  have HC : Hid (∀ i, i < n → w.cell? ⟨b, off + i, none⟩ = some (.int .u8 ((B.getD i 0 : Nat) : Int))) := hc
  have HB : Hid (∀ x ∈ B, x < 256) := hB
  have HFF : Hid (ff B = if hi (B.take 2) ≠ 20813 then (0, 22) else if B.getD 2 0 ≠ 1 then (2, 23) else if n < 12 + hi ((B.drop 4).take 4) then (n, 20)
      else if 12 + hi ((B.drop 4).take 4) < n then (12 + hi ((B.drop 4).take 4), 28) else if Crc.sum (B.take (n - 4)) ≠ lowOf B then (n - 4, 24) else (0, 0)) := by
    show _ = _; unfold ff; rw [← hn, if_neg (by omega), if_neg (by omega)]
  have hmag : hi (B.take 2) < 65536 := by
    have := hi_lt (B.take 2) (fun x hx => hB x (List.mem_of_mem_take hx))
    rw [List.length_take, show min 2 B.length = 2 by omega] at this
    omega
  have hL : hi ((B.drop 4).take 4) < 4294967296 := by
    have := hi_lt ((B.drop 4).take 4) (fun x hx => hB x (List.mem_of_mem_drop (List.mem_of_mem_take hx)))
    rw [List.length_take, List.length_drop, show min 4 (B.length - 4) = 4 by omega] at this
    omega
  have hc2 := hc 2 (by omega)
  have hb2 := getD_lt B hB 2
  have HH1 : Hid (∀ w1 : World, w1 = w → Calls Tryd.prog 24 #[.slice (some ⟨b, off, none⟩) 2 cap] w1 fun e w' => e = .returned (.int .u64 (hi (B.take 2) : Nat)) ∧ w' = w1) := by
    intro w1 h1; subst h1
    exact high_any b off (B.take 2) 2 cap _ (by rw [List.length_take]; omega) (by omega) (fun x hx => hB x (List.mem_of_mem_take hx)) (fun i hi => by rw [getD_take hi]; exact hc i (by omega))
  have HH2 : Hid (∀ w1 : World, w1 = w → Calls Tryd.prog 24 #[.slice (some ⟨b, off + 4, none⟩) 4 (cap - 4)] w1 fun e w' => e = .returned (.int .u64 (hi ((B.drop 4).take 4) : Nat)) ∧ w' = w1) := by
    intro w1 h1; subst h1
    exact high_any b (off + 4) ((B.drop 4).take 4) 4 (cap - 4) _ (by rw [List.length_take, List.length_drop]; omega) (by omega) (fun x hx => hB x (List.mem_of_mem_drop (List.mem_of_mem_take hx)))
      (fun i hi => by rw [getD_take hi, getD_drop, show off + 4 + i = off + (4 + i) by omega]; exact hc (4 + i) (by omega))
  clear hn hT hc hB
  generalize hi (B.take 2) = M at *
  generalize hi ((B.drop 4).take 4) = L at *
  generalize B.getD 2 0 = V at *
  by_cases hM : M = 20813
  · subst hM
    by_cases hV : V = 1
    · subst hV
      by_cases h1 : n < 12 + L
      · have HR : Hid (ff B = (n, 20)) := by show _ = _; rw [HFF.out]; simp [h1]
        clear HFF
        go_enter Tryd.func18, Tryd.ntmps18
        go_wp2_with fail
        refine (HH1.out _ rfl).mono ?_
        rintro e w1 ⟨rfl, rfl⟩
        go_wp2_with fail
        refine (HH2.out _ rfl).mono ?_
        rintro e w1 ⟨rfl, rfl⟩
        go_wp2
        go_ret2
        exact ⟨by rw [HR.out]; rfl, 0, rfl⟩
      · by_cases h2 : 12 + L < n
        · have HR : Hid (ff B = (12 + L, 28)) := by show _ = _; rw [HFF.out]; simp [h1, h2]
          clear HFF
          go_enter Tryd.func18, Tryd.ntmps18
          go_wp2_with fail
          refine (HH1.out _ rfl).mono ?_
          rintro e w1 ⟨rfl, rfl⟩
          go_wp2_with fail
          refine (HH2.out _ rfl).mono ?_
          rintro e w1 ⟨rfl, rfl⟩
          go_wp2
          go_ret2
          exact ⟨by rw [HR.out]; rfl, 0, rfl⟩
        · obtain rfl : n = 12 + L := by omega
          obtain ⟨E, hE⟩ : ∃ E, E = 12 + L - 4 := ⟨_, rfl⟩
          have HR : Hid (ff B = if Crc.sum (B.take E) ≠ lowOf B then (E, 24) else (0, 0)) := by show _ = _; rw [HFF.out, hE]; simp
          clear HFF
          have he : (12 : Int) + (L : Int) - (4 : Int) = (E : Int) := by omega
          have hE1 : E + 4 ≤ 12 + L := by omega
          have hE2 : 12 + L - E = 4 := by omega
          have HE : Hid (E + 4 = 12 + L) := by show _ = _; omega
          have HL0 : Hid (lowOf B = lo4 (B.getD E 0) (B.getD (E + 1) 0) (B.getD (E + 2) 0) (B.getD (E + 3) 0)) := by show _ = _; unfold lowOf; rw [← HN.out, hE]
          clear hE
          have HS : Hid (∀ q, Calls Tryd.prog 17 #[.slice (some ⟨b, off, none⟩) E cap] (w.drewN q) fun e w' => e = .returned (.int .u32 (Crc.sum (B.take E) : Nat)) ∧ w' = w.drewN q) := by
            intro q
            exact sum_any b off _ (B.take E) E cap (w.drewN q) (fun _ => rfl) (by rw [List.length_take]; have := HN.out; omega) (by omega) (fun x hx => HB.out x (List.mem_of_mem_take hx)) HT.out (fun i hi => by rw [getD_take hi]; exact HC.out i (by omega))
          have HL : Hid (∀ q, Calls Tryd.prog 25 #[.slice (some ⟨b, off + E, none⟩) 4 (cap - E)] (w.drewN q) fun e w' => e = .returned (.int .u32 (lowOf B : Nat)) ∧ ∃ q', w' = (w.drewN q).drewN q') := by
            intro q
            rw [HL0.out]
            exact low_any b (off + E) 4 (cap - E) _ _ _ _ (w.drewN q) (by omega) (getD_lt B HB.out E) (getD_lt B HB.out (E + 1)) (getD_lt B HB.out (E + 2)) (getD_lt B HB.out (E + 3)) (HC.out E (by omega)) (HC.out (E + 1) (by omega)) (HC.out (E + 2) (by omega)) (HC.out (E + 3) (by omega))
          clear HL0
          generalize Crc.sum (B.take E) = S at *
          generalize lowOf B = T at *
          by_cases hST : S = T
          · have hst : ((S : Int) != (T : Int)) = false := by simp [hST]
            have HR' : Hid (ff B = (0, 0)) := by show _ = _; rw [HR.out]; simp [hST]
            clear HR hST
            go_enter Tryd.func18, Tryd.ntmps18
            go_wp2_with fail
            refine (HH1.out _ rfl).mono ?_
            rintro e w1 ⟨rfl, rfl⟩
            go_wp2_with fail
            refine (HH2.out _ rfl).mono ?_
            rintro e w1 ⟨rfl, rfl⟩
            go_wp2
            go_quiet (first | (go_at_call 17; exact Calls.quiet_of_same (HS.out _)) | (go_at_call 25; exact Calls.quiet_of (HL.out _)))
            go_wp2
            go_ret2
            exact ⟨by rw [HR'.out]; rfl, _, rfl⟩
          · have hst : ((S : Int) != (T : Int)) = true := by simp; omega
            have HR' : Hid (ff B = (E, 24)) := by show _ = _; rw [HR.out]; simp [hST]
            clear HR hST
            go_enter Tryd.func18, Tryd.ntmps18
            go_wp2_with fail
            refine (HH1.out _ rfl).mono ?_
            rintro e w1 ⟨rfl, rfl⟩
            go_wp2_with fail
            refine (HH2.out _ rfl).mono ?_
            rintro e w1 ⟨rfl, rfl⟩
            go_wp2
            go_quiet (first | (go_at_call 17; exact Calls.quiet_of_same (HS.out _)) | (go_at_call 25; exact Calls.quiet_of (HL.out _)))
            go_wp2
            go_ret2
            exact ⟨by rw [HR'.out]; rfl, _, rfl⟩
    · have hv' : ((V : Int) != 1) = true := by simp; omega
      have HR : Hid (ff B = (2, 23)) := by show _ = _; rw [HFF.out]; simp [hV]
      clear HFF
      go_enter Tryd.func18, Tryd.ntmps18
      go_wp2_with fail
      refine (HH1.out _ rfl).mono ?_
      rintro e w1 ⟨rfl, rfl⟩
      go_wp2
      go_ret2
      exact ⟨by rw [HR.out]; rfl, 0, rfl⟩
  · have hm' : ((M : Int) != 20813) = true := by simp; omega
    have HR : Hid (ff B = (0, 22)) := by show _ = _; rw [HFF.out]; simp [hM]
    clear HFF
    go_enter Tryd.func18, Tryd.ntmps18
    go_wp2_with fail
    refine (HH1.out _ rfl).mono ?_
    rintro e w1 ⟨rfl, rfl⟩
    go_wp2
    go_ret2
    exact ⟨by rw [HR.out]; rfl, 0, rfl⟩
end Go.Proofs.YtbfjeabngdiejaaDoor
