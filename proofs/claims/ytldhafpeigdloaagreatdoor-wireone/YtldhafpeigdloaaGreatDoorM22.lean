import Derived.Test.YtldhafpeigdloaaGreatDoorM21
import Derived.Test.YtldhafpeigdloaaGreatDoorM1
import Derived.Test.YtldhafpeigdloaaGreatDoorM6
import Derived.Deep.RegionWith
import Derived.Deep.MidRow
namespace Go.Proofs.YtldhafpeigdloaaGreatDoor
open Go.RowKit Crc

def lowOf (B : List Nat) : Nat := lo4 (B.getD (B.length - 4) 0) (B.getD (B.length - 4 + 1) 0) (B.getD (B.length - 4 + 2) 0) (B.getD (B.length - 4 + 3) 0)

/-- Why the bytes are no datagram: the place and the number. -/
def ff (B : List Nat) : Nat × Nat :=
  if 65507 < B.length then (65507, 21)
  else if B.length < 12 then (B.length, 20)
  else if hi (B.take 2) ≠ 20813 then (0, 22)
  else if B.getD 2 0 ≠ 1 then (2, 23)
  else if B.length < 12 + hi ((B.drop 4).take 4) then (B.length, 20)
  else if 12 + hi ((B.drop 4).take 4) < B.length then (12 + hi ((B.drop 4).take 4), 28)
  else if Crc.sum (B.take (B.length - 4)) ≠ lowOf B then (B.length - 4, 24)
  else (0, 0)

def pairV (p : Nat × Nat) : Value := .tuple #[.int .i64 (p.1 : Int), .int .i64 (p.2 : Int)]

set_option maxRecDepth 10000 in
set_option maxHeartbeats 400000 in
theorem ff_long (ao : Option Addr) (n cap : Nat) (w : World) (h : 65507 < n) (hl : n ≤ 140737488355328) :
    Calls Tryz.prog 23 #[.slice ao n cap] w fun e w' => e = .returned (pairV (65507, 21)) ∧ w' = w := by
  go_enter Tryz.func23, Tryz.ntmps23
  go_wp2
  go_ret2
  exact ⟨rfl, rfl⟩
set_option maxRecDepth 10000 in
set_option maxHeartbeats 400000 in
theorem ff_short (ao : Option Addr) (n cap : Nat) (w : World) (h : n < 12) :
    Calls Tryz.prog 23 #[.slice ao n cap] w fun e w' => e = .returned (pairV (n, 20)) ∧ w' = w := by
  go_enter Tryz.func23, Tryz.ntmps23
  go_wp2
  go_ret2
  exact ⟨rfl, rfl⟩

set_option maxRecDepth 10000 in
set_option maxHeartbeats 1000000 in
theorem ff_main (b off : Nat) (B : List Nat) (n cap : Nat) (w : World) (hn : n = B.length) (h12 : 12 ≤ n) (hl : n ≤ 65507) (hcap : n ≤ cap) (hB : ∀ x ∈ B, x < 256) (hT : Table w)
  (hc : ∀ i, i < n → w.cell? ⟨b, off + i, none⟩ = some (.int .u8 ((B.getD i 0 : Nat) : Int))) :
    Calls Tryz.prog 23 #[.slice (some ⟨b, off, none⟩) n cap] w fun e w' => e = .returned (pairV (ff B)) ∧ ∃ q, w' = w.drewN q := by
  have HN : Hid (n = B.length) := hn
  have HT : Hid (Table w) := hT
  have HC : Hid (∀ i, i < n → w.cell? ⟨b, off + i, none⟩ = some (.int .u8 ((B.getD i 0 : Nat) : Int))) := hc
  have HB : Hid (∀ x ∈ B, x < 256) := hB
  have HFF : Hid (ff B = if hi (B.take 2) ≠ 20813 then (0, 22) else if B.getD 2 0 ≠ 1 then (2, 23) else if n < 12 + hi ((B.drop 4).take 4) then (n, 20)
      else if 12 + hi ((B.drop 4).take 4) < n then (12 + hi ((B.drop 4).take 4), 28) else if Crc.sum (B.take (n - 4)) ≠ lowOf B then (n - 4, 24) else (0, 0)) := by
    show _ = _; unfold ff; rw [← hn, if_neg (by omega), if_neg (by omega)]
  have hmag : hi (B.take 2) < 65536 := by
    have := hi_lt (B.take 2) (fun x hx => hB x (List.mem_of_mem_take hx))
    rw [List.length_take, show min 2 B.length = 2 by omega] at this
    omega
  have hL : hi ((B.drop 4).take 4) < 4294967296 := by
    have := hi_lt ((B.drop 4).take 4) (fun x hx => hB x (List.mem_of_mem_drop (List.mem_of_mem_take hx)))
    rw [List.length_take, List.length_drop, show min 4 (B.length - 4) = 4 by omega] at this
    omega
  have hc2 := hc 2 (by omega)
  have hb2 := getD_lt B hB 2
  have HH1 : Hid (∀ w1 : World, w1 = w → Calls Tryz.prog 33 #[.slice (some ⟨b, off, none⟩) 2 cap] w1 fun e w' => e = .returned (.int .u64 (hi (B.take 2) : Nat)) ∧ w' = w1) := by
    intro w1 h1; subst h1
    exact high_any b off (B.take 2) 2 cap _ (by rw [List.length_take]; omega) (by omega) (fun x hx => hB x (List.mem_of_mem_take hx)) (fun i hi => by rw [getD_take hi]; exact hc i (by omega))
  have HH2 : Hid (∀ w1 : World, w1 = w → Calls Tryz.prog 33 #[.slice (some ⟨b, off + 4, none⟩) 4 (cap - 4)] w1 fun e w' => e = .returned (.int .u64 (hi ((B.drop 4).take 4) : Nat)) ∧ w' = w1) := by
    intro w1 h1; subst h1
    exact high_any b (off + 4) ((B.drop 4).take 4) 4 (cap - 4) _ (by rw [List.length_take, List.length_drop]; omega) (by omega) (fun x hx => hB x (List.mem_of_mem_drop (List.mem_of_mem_take hx)))
      (fun i hi => by rw [getD_take hi, getD_drop, show off + 4 + i = off + (4 + i) by omega]; exact hc (4 + i) (by omega))
  clear hn hT hc hB
  generalize hi (B.take 2) = M at *
  generalize hi ((B.drop 4).take 4) = L at *
  generalize B.getD 2 0 = V at *
  by_cases hM : M = 20813
  · subst hM
    by_cases hV : V = 1
    · subst hV
      by_cases h1 : n < 12 + L
      · have HR : Hid (ff B = (n, 20)) := by show _ = _; rw [HFF.out]; simp [h1]
        clear HFF
        go_enter Tryz.func23, Tryz.ntmps23
        go_wp2_with fail
        refine (HH1.out _ rfl).mono ?_
        rintro e w1 ⟨rfl, rfl⟩
        go_wp2_with fail
        refine (HH2.out _ rfl).mono ?_
        rintro e w1 ⟨rfl, rfl⟩
        go_wp2
        go_ret2
        exact ⟨by rw [HR.out]; rfl, 0, rfl⟩
      · by_cases h2 : 12 + L < n
        · have HR : Hid (ff B = (12 + L, 28)) := by show _ = _; rw [HFF.out]; simp [h1, h2]
          clear HFF
          go_enter Tryz.func23, Tryz.ntmps23
          go_wp2_with fail
          refine (HH1.out _ rfl).mono ?_
          rintro e w1 ⟨rfl, rfl⟩
          go_wp2_with fail
          refine (HH2.out _ rfl).mono ?_
          rintro e w1 ⟨rfl, rfl⟩
          go_wp2
          go_ret2
          exact ⟨by rw [HR.out]; rfl, 0, rfl⟩
        · obtain rfl : n = 12 + L := by omega
          obtain ⟨E, hE⟩ : ∃ E, E = 12 + L - 4 := ⟨_, rfl⟩
          have HR : Hid (ff B = if Crc.sum (B.take E) ≠ lowOf B then (E, 24) else (0, 0)) := by show _ = _; rw [HFF.out, hE]; simp
          clear HFF
          have he : (12 : Int) + (L : Int) - (4 : Int) = (E : Int) := by omega
          have hE1 : E + 4 ≤ 12 + L := by omega
          have hE2 : 12 + L - E = 4 := by omega
          have HE : Hid (E + 4 = 12 + L) := by show _ = _; omega
          have HL0 : Hid (lowOf B = lo4 (B.getD E 0) (B.getD (E + 1) 0) (B.getD (E + 2) 0) (B.getD (E + 3) 0)) := by show _ = _; unfold lowOf; rw [← HN.out, hE]
          clear hE
          have HS : Hid (∀ q, Calls Tryz.prog 32 #[.slice (some ⟨b, off, none⟩) E cap] (w.drewN q) fun e w' => e = .returned (.int .u32 (Crc.sum (B.take E) : Nat)) ∧ w' = w.drewN q) := by
            intro q
            exact sum_any b off _ (B.take E) E cap (w.drewN q) (fun _ => rfl) (by rw [List.length_take]; have := HN.out; omega) (by omega) (fun x hx => HB.out x (List.mem_of_mem_take hx)) HT.out (fun i hi => by rw [getD_take hi]; exact HC.out i (by omega))
          have HL : Hid (∀ q, Calls Tryz.prog 34 #[.slice (some ⟨b, off + E, none⟩) 4 (cap - E)] (w.drewN q) fun e w' => e = .returned (.int .u32 (lowOf B : Nat)) ∧ ∃ q', w' = (w.drewN q).drewN q') := by
            intro q
            rw [HL0.out]
            exact low_any b (off + E) 4 (cap - E) _ _ _ _ (w.drewN q) (by omega) (getD_lt B HB.out E) (getD_lt B HB.out (E + 1)) (getD_lt B HB.out (E + 2)) (getD_lt B HB.out (E + 3)) (HC.out E (by omega)) (HC.out (E + 1) (by omega)) (HC.out (E + 2) (by omega)) (HC.out (E + 3) (by omega))
          clear HL0
          generalize Crc.sum (B.take E) = S at *
          generalize lowOf B = T at *
          by_cases hST : S = T
          · have hst : ((S : Int) != (T : Int)) = false := by simp [hST]
            have HR' : Hid (ff B = (0, 0)) := by show _ = _; rw [HR.out]; simp [hST]
            clear HR hST
            go_enter Tryz.func23, Tryz.ntmps23
            go_wp2_with fail
            refine (HH1.out _ rfl).mono ?_
            rintro e w1 ⟨rfl, rfl⟩
            go_wp2_with fail
            refine (HH2.out _ rfl).mono ?_
            rintro e w1 ⟨rfl, rfl⟩
            go_wp2
            go_quiet (first | (go_at_call 32; exact Calls.quiet_of_same (HS.out _)) | (go_at_call 34; exact Calls.quiet_of (HL.out _)))
            go_wp2
            go_ret2
            exact ⟨by rw [HR'.out]; rfl, _, rfl⟩
          · have hst : ((S : Int) != (T : Int)) = true := by simp; omega
            have HR' : Hid (ff B = (E, 24)) := by show _ = _; rw [HR.out]; simp [hST]
            clear HR hST
            go_enter Tryz.func23, Tryz.ntmps23
            go_wp2_with fail
            refine (HH1.out _ rfl).mono ?_
            rintro e w1 ⟨rfl, rfl⟩
            go_wp2_with fail
            refine (HH2.out _ rfl).mono ?_
            rintro e w1 ⟨rfl, rfl⟩
            go_wp2
            go_quiet (first | (go_at_call 32; exact Calls.quiet_of_same (HS.out _)) | (go_at_call 34; exact Calls.quiet_of (HL.out _)))
            go_wp2
            go_ret2
            exact ⟨by rw [HR'.out]; rfl, _, rfl⟩
    · have hv' : ((V : Int) != 1) = true := by simp; omega
      have HR : Hid (ff B = (2, 23)) := by show _ = _; rw [HFF.out]; simp [hV]
      clear HFF
      go_enter Tryz.func23, Tryz.ntmps23
      go_wp2_with fail
      refine (HH1.out _ rfl).mono ?_
      rintro e w1 ⟨rfl, rfl⟩
      go_wp2
      go_ret2
      exact ⟨by rw [HR.out]; rfl, 0, rfl⟩
  · have hm' : ((M : Int) != 20813) = true := by simp; omega
    have HR : Hid (ff B = (0, 22)) := by show _ = _; rw [HFF.out]; simp [hM]
    clear HFF
    go_enter Tryz.func23, Tryz.ntmps23
    go_wp2_with fail
    refine (HH1.out _ rfl).mono ?_
    rintro e w1 ⟨rfl, rfl⟩
    go_wp2
    go_ret2
    exact ⟨by rw [HR.out]; rfl, 0, rfl⟩
end Go.Proofs.YtldhafpeigdloaaGreatDoor
namespace Go.Proofs.YtldhafpeigdloaaGreatDoor
open Go.RowKit Crc

theorem ff_any (b off : Nat) (ao : Option Addr) (B : List Nat) (n cap : Nat) (w : World) (hao : 0 < n → ao = some ⟨b, off, none⟩) (hn : n = B.length) (hl : n ≤ 140737488355328) (hcap : n ≤ cap) (hB : ∀ x ∈ B, x < 256) (hT : Table w)
  (hc : ∀ i, i < n → w.cell? ⟨b, off + i, none⟩ = some (.int .u8 ((B.getD i 0 : Nat) : Int))) :
    Calls Tryz.prog 23 #[.slice ao n cap] w fun e w' => e = .returned (pairV (ff B)) ∧ ∃ q, w' = w.drewN q := by
  by_cases h1 : 65507 < n
  · have e : ff B = (65507, 21) := by unfold ff; rw [← hn, if_pos h1]
    rw [e]
    exact (ff_long ao n cap w h1 hl).mono fun _ _ ⟨a, c⟩ => ⟨a, 0, c⟩
  · by_cases h2 : n < 12
    · have e : ff B = (n, 20) := by unfold ff; rw [← hn, if_neg h1, if_pos h2]
      rw [e]
      exact (ff_short ao n cap w h2).mono fun _ _ ⟨a, c⟩ => ⟨a, 0, c⟩
    · obtain rfl := hao (by omega)
      exact ff_main b off B n cap w hn (by omega) (by omega) hcap hB hT hc

theorem ff_ok {B : List Nat} (h : (ff B).2 = 0) : 12 ≤ B.length ∧ B.length ≤ 65507 ∧ ff B = (0, 0) ∧ hi (B.take 2) = 20813 ∧ B.getD 2 0 = 1 ∧ B.length = 12 + hi ((B.drop 4).take 4) ∧ Crc.sum (B.take (B.length - 4)) = lowOf B := by
  unfold ff at h ⊢
  by_cases h1 : 65507 < B.length
  · rw [if_pos h1] at h; simp at h
  · rw [if_neg h1] at h ⊢
    by_cases h2 : B.length < 12
    · rw [if_pos h2] at h; simp at h
    · rw [if_neg h2] at h ⊢
      by_cases h3 : hi (B.take 2) ≠ 20813
      · rw [if_pos h3] at h; simp at h
      · rw [if_neg h3] at h ⊢
        by_cases h4 : B.getD 2 0 ≠ 1
        · rw [if_pos h4] at h; simp at h
        · rw [if_neg h4] at h ⊢
          by_cases h5 : B.length < 12 + hi ((B.drop 4).take 4)
          · rw [if_pos h5] at h; simp at h
          · rw [if_neg h5] at h ⊢
            by_cases h6 : 12 + hi ((B.drop 4).take 4) < B.length
            · rw [if_pos h6] at h; simp at h
            · rw [if_neg h6] at h ⊢
              by_cases h7 : Crc.sum (B.take (B.length - 4)) ≠ lowOf B
              · rw [if_pos h7] at h; simp at h
              · rw [if_neg h7]
                exact ⟨by omega, by omega, rfl, Decidable.not_not.1 h3, Decidable.not_not.1 h4, by omega, Decidable.not_not.1 h7⟩

end Go.Proofs.YtldhafpeigdloaaGreatDoor
namespace Go.Proofs.YtldhafpeigdloaaGreatDoor
open Go.RowKit Crc

/-- The empty message. -/
def msgZ : List Value := Value.int .i64 0 :: .int .u64 0 :: .int .i64 0 :: .int .u64 0 :: .int .u64 0 :: .slice none 0 0 :: .int .u64 0 :: .slice none 0 0 :: .int .u64 0 :: .int .u64 0 :: .int .i64 0 :: .slice none 0 0 :: .slice none 0 0 :: .bool false :: .int .u64 0 :: .int .u64 0 :: .int .u8 0 :: .int .u8 0 :: .int .u8 0 :: .int .u8 0 :: .int .u8 0 :: .int .u8 0 :: .int .u8 0 :: .int .u8 0 :: .int .u8 0 :: .int .u8 0 :: .int .u8 0 :: .int .u8 0 :: .int .u8 0 :: .int .u8 0 :: .int .u8 0 :: .int .u8 0 :: .int .u8 0 :: .int .u8 0 :: .int .u8 0 :: .int .u8 0 :: .int .u8 0 :: .int .u8 0 :: .int .u8 0 :: .int .u8 0 :: .int .u8 0 :: .int .u8 0 :: .int .u8 0 :: .int .u8 0 :: .int .u8 0 :: .int .u8 0 :: .int .u8 0 :: .int .u8 0 :: .slice none 0 0 :: []
theorem msgZ_len : msgZ.length = 49 := rfl
theorem build_zero (w : World) : (Instr.build 36 #[]).run Tryz.prog w = .ok (.agg msgZ.toArray) w := by kernel_rfl
theorem msgZ_one : ∀ v ∈ msgZ, v.oneCell' = true := List.all_eq_true.1 rfl
theorem block_there {W : World} {g : Nat} {Z : Array Value} {t : TypeId} {n : Nat} (hb : W.heap[g]? = some (.cells Z t (0, 0))) (h : n ≤ Z.size) : W.there g 0 n := fun j hj => by
  have hlt := (Array.getElem?_eq_some_iff.1 hb).1
  have he := (Array.getElem?_eq_some_iff.1 hb).2
  rw [Nat.zero_add]
  constructor
  · simp only [World.cell?, hb]
    simp [show j < Z.size by omega]
  · simp only [World.frozen?, hb]
    simp
theorem grown_setC (b : Nat) : ∀ (vs : List Value) (o : Nat) (w : World), Below b w (w.setCells b o vs)
  | [], _, w => Below.refl _ w
  | v :: r, o, w => by
    rw [World.setCells]
    refine Below.trans ?_ (grown_setC b r (o + 1) _)
    exact (Below.refl _ w).setCell (p := ⟨b, o, none⟩) (Nat.le_refl b) v

set_option maxRecDepth 10000 in
set_option maxHeartbeats 400000 in
theorem decode_bad (b off : Nat) (ao : Option Addr) (B : List Nat) (n cap : Nat) (w : World) (hao : 0 < n → ao = some ⟨b, off, none⟩) (hn : n = B.length) (hl : n ≤ 140737488355328) (hcap : n ≤ cap) (hB : ∀ x ∈ B, x < 256) (hT : ∀ w1 : World, Below w.heap.size w w1 → Table w1) (hbw : b < w.heap.size)
  (hc : ∀ i, i < n → w.cell? ⟨b, off + i, none⟩ = some (.int .u8 ((B.getD i 0 : Nat) : Int))) (hbad : (ff B).2 ≠ 0) :
    Calls Tryz.prog 8 #[.slice ao n cap] w fun e w' => ∃ (cs : List Value) (g : Nat), e = .returned (.tuple #[.agg cs.toArray, .iface 84 (.pointer (some ⟨g, 0, none⟩))]) ∧ Hid (cs.length = 49 ∧ (∀ v ∈ cs, v.oneCell' = true) ∧ Below w.heap.size w w') := by
  have HF : Hid (∀ W : World, Below w.heap.size w W → Calls Tryz.prog 23 #[.slice ao n cap] W fun e w' => e = .returned (pairV (ff B)) ∧ ∃ q, w' = W.drewN q) := fun W hb => ff_any b off ao B n cap W hao hn hl hcap hB (hT W hb) (fun i hi => (hb.cell (p := ⟨b, off + i, none⟩) hbw).trans (hc i hi))
  have hne : (((ff B).2 : Nat) : Int) ≠ 0 := by omega
  clear hao hn hB hT hc hbad
  unfold pairV at HF
  generalize (ff B).1 = at_ at *
  generalize (ff B).2 = why at *
  have hne' : ((why : Int) != 0) = true := by simpa using hne
  clear hne
  have HBD : Hid (∀ W, (Instr.build 36 #[]).run Tryz.prog W = .ok (.agg msgZ.toArray) W) := fun W => build_zero W
  have HSZ : Hid ((Tryz.prog.info? 36).map (·.size) = some msgZ.length) := by show _ = _; rw [msgZ_len]; kernel_rfl
  have HONE : Hid (∀ v ∈ msgZ, v.oneCell' = true) := msgZ_one
  have HLN : Hid (msgZ.length = 49) := msgZ_len
  have HWZ : Hid (∀ Z : Array Value, Z.size = 49 → Below w.heap.size w (w.alloc (.cells Z 36)) ∧ (w.alloc (.cells Z 36)).there w.heap.size 0 msgZ.length ∧ w.heap.size < (w.alloc (.cells Z 36)).heap.size) := fun Z hZ =>
    ⟨(Below.refl _ w).alloc (Nat.le_refl _) _, block_there (Z := Z) (t := 36) (by simp [World.alloc, -World.alloc_eq]) (by rw [msgZ_len]; omega), by simp⟩
  generalize msgZ = cs at *
  go_enter Tryz.func8, Tryz.ntmps8
  go_wp2_with fail
  generalize hW : World.alloc w _ = W
  obtain ⟨Z, hZ, hW⟩ : ∃ Z : Array Value, Z.size = 49 ∧ w.alloc (.cells Z 36) = W := ⟨_, by rfl, hW⟩
  have HW := HWZ.out Z hZ
  rw [hW] at HW
  have HB0 : Hid (Below w.heap.size w W) := HW.1
  have HTH : Hid (W.there w.heap.size 0 cs.length) := HW.2.1
  have hlt := HW.2.2
  clear HW hW HWZ
  refine (HF.out W HB0.out).mono ?_
  rintro e w1 ⟨rfl, q, hq⟩
  have HB1 : Hid (Below w.heap.size w w1) := by rw [hq]; exact Go.below_drewN HB0.out q
  have HTH1 : Hid (w1.there w.heap.size 0 cs.length) := by rw [hq]; exact HTH.out
  have hlt1 : w.heap.size < w1.heap.size := by rw [hq]; exact hlt
  clear hq HB0 HTH hlt
  go_wp2_with (refine wpList_pure rfl (exec_build (t := 36) (parts := #[]) rfl (by simpa using HBD.out _)) ?_)
  refine (refusal_any _ _ _).mono ?_
  rintro e w2 ⟨v, rfl, rfl, hf, hb⟩
  have HB2 : Hid (Below w.heap.size w w2) := HB1.out.trans (hb.mono HB1.out.size)
  have HTH2 : Hid (w2.there w.heap.size 0 cs.length) := fun j hj => ⟨by rw [hb.cell (p := ⟨w.heap.size, 0 + j, none⟩) hlt1]; exact (HTH1.out j hj).1, by have h := (HTH1.out j hj).2; simp only [World.frozen?] at h ⊢; rw [hb.block _ hlt1]; exact h⟩
  clear hf hb HB1 HTH1
  generalize w1.heap.size = g at *
  go_wp2_with (refine wpList_store_mid rfl 36 _ _ rfl w.heap.size 0 cs.toArray rfl rfl (by simpa using HTH2.out) (by simpa using HSZ.out) (all_oneCell_toArray HONE.out) ?_)
  have hld := run_loadVar_mid (P := Tryz.prog) (w2.setCells w.heap.size 0 cs) w.heap.size 0 36 cs _ (World.rangeAt_setCells_same _ _ _ _ HTH2.out) Tryz.underlying36 rfl HSZ.out
  refine bodyPost_ret (v := .tuple #[.agg cs.toArray, .iface 84 (.pointer (some ⟨g, 0, none⟩))]) ?_ rfl ⟨cs, _, rfl, HLN.out, HONE.out, HB2.out.trans (grown_setC _ _ _ _)⟩
  simp [results, Tryz.results8, asAddr, hld]
end Go.Proofs.YtldhafpeigdloaaGreatDoor
