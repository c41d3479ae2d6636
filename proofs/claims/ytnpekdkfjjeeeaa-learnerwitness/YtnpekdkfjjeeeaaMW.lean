import Derived.Test.YtnpekdkfjjeeeaaBMj
import Derived.Test.YtnpekdkfjjeeeaaBVi
import Derived.Test.YtnpekdkfjjeeeaaJSy
namespace Go.Proofs.Ytnpekdkfjjeeeaa
open Go.RowKit

theorem bit_of (s k : Nat) (hs : s < 4294967296) : (bits .and .u32 ((s : Int) / 2 ^ k) 1 == 1) = s.testBit k := by
  have e : ((s : Int) / 2 ^ k) = ((s / 2 ^ k : Nat) : Int) := by
    rw [Int.natCast_ediv, Int.natCast_pow]
    rfl
  have h := u32_and_nat (s / 2 ^ k) 1 (Nat.lt_of_le_of_lt (Nat.div_le_self _ _) hs) (by omega)
  rw [e, show (1 : Int) = ((1 : Nat) : Int) from rfl, h, Nat.and_one_is_mod, Nat.testBit_eq_decide_div_mod_eq]
  by_cases hh : s / 2 ^ k % 2 = 1
  · rw [hh]; simp
  · rw [decide_eq_false hh]
    simp only [beq_eq_false_iff_ne]
    omega
set_option maxRecDepth 10000 in
set_option maxHeartbeats 800000 in
/-- The reference's Has. -/
theorem refHas (s : Nat) (hs : s < 4294967296) (n : Int) (w : World) :
    Calls Try.prog 44 #[.int .u32 (s : Nat), .int .i64 n] w fun e w' => e = .returned (.bool (hasB s n)) ∧ w' = w := by
  unfold hasB
  by_cases h : 0 ≤ n ∧ n < 32
  · obtain ⟨k, rfl⟩ : ∃ k : Nat, n = (k : Int) := ⟨n.toNat, by omega⟩
    rw [decide_eq_true h, Bool.true_and, Int.toNat_natCast]
    have d1 : decide ((k : Int) < 0) = false := decide_eq_false (by omega)
    have d2 : decide ((k : Int) > 31) = false := decide_eq_false (by omega)
    have d3 : IntKind.u64.wrap (k : Int) = (k : Int) := wrap_u _ (by omega) (by omega)
    have hv := hide (bit_of s k hs)
    have hk : k < 32 := by omega
    go_enter Try.func44, Try.ntmps44
    go_wp2
    go_ret
    exact ⟨by rw [hv.out]; rfl, rfl⟩
  · rw [decide_eq_false h, Bool.false_and]
    by_cases h0 : n < 0
    · have d1 : decide (n < 0) = true := decide_eq_true h0
      clear h h0
      go_enter Try.func44, Try.ntmps44
      go_wp2
      go_ret
      exact ⟨rfl, rfl⟩
    · have d1 : decide (n < 0) = false := decide_eq_false h0
      have d2 : decide (n > 31) = true := decide_eq_true (by omega)
      clear h h0
      go_enter Try.func44, Try.ntmps44
      go_wp2
      go_ret
      exact ⟨rfl, rfl⟩
theorem or_of (s k : Nat) (hs : s < 4294967296) (hk : k < 32) : bits .or .u32 (s : Int) ((2 : Int) ^ k % 4294967296) = ((s ||| 2 ^ k : Nat) : Int) := by
  have hlt : 2 ^ k < 4294967296 := Nat.lt_of_lt_of_le (Nat.pow_lt_pow_right (by omega) hk) (by decide)
  have e : ((2 : Int) ^ k % 4294967296) = ((2 ^ k : Nat) : Int) := by
    rw [show (2 : Int) ^ k = ((2 ^ k : Nat) : Int) by rw [Int.natCast_pow]; rfl]
    generalize 2 ^ k = x at *
    omega
  rw [e]
  exact u32_or_nat s (2 ^ k) hs hlt
set_option maxRecDepth 10000 in
set_option maxHeartbeats 800000 in
/-- The reference's With. -/
theorem refWith (s : Nat) (hs : s < 4294967296) (n : Int) (w : World) :
    Calls Try.prog 26 #[.int .u32 (s : Nat), .int .i64 n] w fun e w' => e = .returned (.int .u32 ((withB s n : Nat) : Int)) ∧ w' = w := by
  unfold withB aloneB
  by_cases h : 0 ≤ n ∧ n < 32
  · obtain ⟨k, rfl⟩ : ∃ k : Nat, n = (k : Int) := ⟨n.toNat, by omega⟩
    rw [if_pos h, Int.toNat_natCast]
    have d1 : decide ((k : Int) < 0) = false := decide_eq_false (by omega)
    have d2 : decide ((k : Int) > 31) = false := decide_eq_false (by omega)
    have d3 : IntKind.u64.wrap (k : Int) = (k : Int) := wrap_u _ (by omega) (by omega)
    have hk : k < 32 := by omega
    have hv := hide (or_of s k hs hk)
    go_enter Try.func26, Try.ntmps26
    go_wp2
    go_ret
    exact ⟨by rw [hv.out]; rfl, rfl⟩
  · rw [if_neg h, Nat.or_zero]
    by_cases h0 : n < 0
    · have d1 : decide (n < 0) = true := decide_eq_true h0
      clear h h0
      go_enter Try.func26, Try.ntmps26
      go_wp2
      go_ret
      exact ⟨rfl, rfl⟩
    · have d1 : decide (n < 0) = false := decide_eq_false h0
      have d2 : decide (n > 31) = true := decide_eq_true (by omega)
      clear h h0
      go_enter Try.func26, Try.ntmps26
      go_wp2
      go_ret
      exact ⟨rfl, rfl⟩
theorem hasB_nat (s k : Nat) (h : k < 32) : hasB s (k : Int) = s.testBit k := by unfold hasB; rw [decide_eq_true (by omega), Bool.true_and, Int.toNat_natCast]
set_option maxRecDepth 10000 in
set_option maxHeartbeats 800000 in
/-- The reference's Count. -/
theorem refCount (s : Nat) (hs : s < 4294967296) (w : World) :
    Calls Try.prog 27 #[.int .u32 (s : Nat)] w fun e w' => e = .returned (.int .i64 ((countB s : Nat) : Int)) ∧ w' = w := by
  have HH := hide (fun k W => refHas s hs k W)
  have HM := hide (memU_succ s)
  have HB := hide (hasB_nat s)
  have HL := hide (memU_len s)
  unfold countB
  go_enter Try.func27, Try.ntmps27
  go_upto_region 3 with fail
  go_loopw [3, 4] (fun c i wr => wr = w ∧ ∃ k : Nat, k ≤ 32 ∧ i = .int .i64 (k : Nat) ∧ c = .int .i64 (((memU s k).length : Nat) : Int)) (fun _ i _ => 32 - (intOf i).toNat)
  case atStart => exact ⟨rfl, 0, by omega, rfl, rfl⟩
  case round =>
    obtain ⟨rfl, k, hk, rfl, rfl⟩ := hrel
    by_cases hlt : k < 32
    · have HK := hide (HH.out (k : Int) wr)
      have HMk := hide (congrArg List.length (HM.out k))
      have hl := HL.out k
      rw [HB.out k hlt] at HK
      generalize hc : (memU s k).length = c at *
      cases ht : s.testBit k with
      | false =>
        rw [ht] at HK HMk
        clear ht
        go_wp2_with fail
        refine HK.out.mono ?_
        rintro e w1 ⟨rfl, rfl⟩
        go_wp2
        go_roundw
        case rel => exact ⟨trivial, k + 1, by omega, by go_num, by rw [HMk.out, if_neg (by simp), List.append_nil, hc]⟩
        case measure => simp [intOf]; omega
      | true =>
        rw [ht, if_pos rfl, List.length_append, List.length_singleton, hc] at HMk
        rw [ht] at HK
        clear ht
        go_wp2_with fail
        refine HK.out.mono ?_
        rintro e w1 ⟨rfl, rfl⟩
        go_wp2
        go_roundw
        case rel => exact ⟨trivial, k + 1, by omega, by go_num, by rw [HMk.out]; go_num⟩
        case measure => simp [intOf]; omega
    · obtain rfl : k = 32 := by omega
      go_wp2
      go_ret
      exact ⟨rfl, rfl⟩
end Go.Proofs.Ytnpekdkfjjeeeaa
namespace Go.Proofs.Ytnpekdkfjjeeeaa
open Go.RowKit Crc

/-- Is this step a vote for that batch in the slot under the ballot? -/
def wP (c : Cf) (slot num : Nat) (node : Int) (st : Nat) (rs : List (Nat × Nat × List Nat)) (f : Wo) : Bool :=
  decide (f.kind = 0) && decide ((f.src : Int) ≤ 2 * c.f) && decide (f.m.kind = 7) && decide (f.m.slot = slot) && (decide (f.m.num = num) && decide (f.m.node = node)) && (decide (f.m.st = st) && decide (f.m.rs.map Rq.val = rs))
/-- Who has voted so. -/
def wFr (c : Cf) (slot num : Nat) (node : Int) (st : Nat) (rs : List (Nat × Nat × List Nat)) : List Wo → Nat → Nat
  | [], a => a
  | f :: t, a => wFr c slot num node st rs t (if wP c slot num node st rs f = true then withB a (f.src : Int) else a)
theorem wFr_snoc (c : Cf) (slot num : Nat) (node : Int) (st : Nat) (rs : List (Nat × Nat × List Nat)) (f : Wo) : ∀ (l : List Wo) (a : Nat), wFr c slot num node st rs (l ++ [f]) a = if wP c slot num node st rs f = true then withB (wFr c slot num node st rs l a) (f.src : Int) else wFr c slot num node st rs l a
  | [], _ => rfl
  | x :: t, a => by
    show wFr c slot num node st rs (t ++ [f]) _ = _
    rw [wFr_snoc c slot num node st rs f t]
    rfl
theorem wFr_lt (c : Cf) (slot num : Nat) (node : Int) (st : Nat) (rs : List (Nat × Nat × List Nat)) : ∀ (l : List Wo) (a : Nat), a < 4294967296 → wFr c slot num node st rs l a < 4294967296
  | [], _, h => h
  | x :: t, a, h => by
    refine wFr_lt c slot num node st rs t _ ?_
    split
    · exact withB_lt a _ h
    · exact h
theorem bit_with {a x k : Nat} (hk : k < 32) : (withB a (k : Int)).testBit x = (a.testBit x || decide (x = k)) := by
  unfold withB aloneB
  rw [if_pos ⟨by omega, by omega⟩, Nat.testBit_or, Int.toNat_natCast, Nat.testBit_two_pow]
  by_cases e : x = k
  · simp [e]
  · simp [e, Ne.symm e]
theorem wFr_keep (c : Cf) (slot num : Nat) (node : Int) (st : Nat) (rs : List (Nat × Nat × List Nat)) {x : Nat} : ∀ (l : List Wo) (a : Nat), a.testBit x = true → (wFr c slot num node st rs l a).testBit x = true
  | [], _, h => h
  | f :: t, a, h => by
    refine wFr_keep c slot num node st rs t _ ?_
    split
    · unfold withB; rw [Nat.testBit_or, h]; rfl
    · exact h
theorem wFr_has (c : Cf) (hk : c.Ok) (slot num : Nat) (node : Int) (st : Nat) (rs : List (Nat × Nat × List Nat)) {f : Wo} (hp : wP c slot num node st rs f = true) : ∀ (l : List Wo) (a : Nat), f ∈ l → (wFr c slot num node st rs l a).testBit f.src = true
  | [], _, h => by simp at h
  | g :: t, a, h => by
    rcases List.mem_cons.1 h with rfl | h
    · refine wFr_keep c slot num node st rs t _ ?_
      rw [if_pos hp, bit_with ?_]
      · simp
      · have h3 := hk.f3
        unfold wP at hp
        simp only [Bool.and_eq_true, decide_eq_true_eq] at hp
        have := hp.1.1.1.1.2
        omega
    · exact wFr_has c hk slot num node st rs hp t _ h
theorem memU_mono {s t : Nat} (h : ∀ x, s.testBit x = true → t.testBit x = true) : ∀ k, (memU s k).length ≤ (memU t k).length
  | 0 => by simp [memU]
  | k + 1 => by
    rw [memU_succ, memU_succ, List.length_append, List.length_append]
    have ih := memU_mono h k
    by_cases hs : s.testBit k = true
    · rw [if_pos hs, if_pos (h k hs)]
      simp only [List.length_cons, List.length_nil]
      omega
    · rw [if_neg hs]
      simp only [List.length_nil]
      omega
theorem count_mono {s t : Nat} (h : ∀ x, s.testBit x = true → t.testBit x = true) : countB s ≤ countB t := memU_mono h 32
/-- A voter of the tally has spoken. -/
def Spoke (c : Cf) (fs : List Wo) (s : Nat) (t : Jv) : Prop := ∀ x, t.fr.testBit x = true → ∃ f ∈ fs, f.src = x ∧ wP c s t.num t.node t.st t.rs f = true
theorem spoke_zero (c : Cf) (fs : List Wo) (s : Nat) : Spoke c fs s Jv.zero := fun x h => by
  simp [Jv.zero] at h
theorem Spoke.more {c : Cf} {fs gs : List Wo} {s : Nat} {t : Jv} (h : Spoke c fs s t) (hg : ∀ f ∈ fs, f ∈ gs) : Spoke c gs s t := fun x hx => by
  obtain ⟨f, h1, h2, h3⟩ := h x hx
  exact ⟨f, hg f h1, h2, h3⟩
/-- One vote more. -/
theorem spoke_acc {c : Cf} (hk : c.Ok) {low : Nat} {u : Nat → Jv} {fs gs : List Wo} {f : Wo} (h : ∀ s, Spoke c fs s (u s)) (hg : ∀ g ∈ fs, g ∈ gs) (hf : f ∈ gs) (h0 : f.kind = 0) : ∀ s, Spoke c gs s ((accF c low u f.src f.m.mw).2 s) := by
  intro s
  unfold accF
  split
  · exact (h s).more hg
  rename_i hc
  have hc' : cntB c low f.src f.m.mw = true := by simpa using hc
  unfold cntB at hc'
  simp only [Bool.and_eq_true, decide_eq_true_eq] at hc'
  obtain ⟨⟨⟨⟨⟨⟨⟨k1, k2⟩, k3⟩, k4⟩, k5⟩, k6⟩, k7⟩, k8⟩ := hc'
  have hsrc : f.src < 32 := by have := hk.f3; omega
  split
  · exact (h s).more hg
  split
  · show Spoke c gs s (updT u f.m.mw.slot _ s)
    unfold updT
    split
    · rename_i e
      intro x hx
      simp only at hx
      rw [bit_with hsrc] at hx
      simp at hx
      subst hx
      refine ⟨f, hf, rfl, ?_⟩
      unfold wP
      simp only [Bool.and_eq_true, decide_eq_true_eq]
      exact ⟨⟨⟨⟨⟨h0, by omega⟩, k1⟩, e.symm⟩, rfl, rfl⟩, rfl, rfl⟩
    · exact (h s).more hg
  split
  · rename_i hq
    show Spoke c gs s (updT u f.m.mw.slot _ s)
    unfold updT
    split
    · rename_i e
      subst e
      intro x hx
      simp only at hx ⊢
      rw [bit_with hsrc] at hx
      rw [Bool.or_eq_true] at hx
      rcases hx with hx | hx
      · exact ((h f.m.mw.slot).more hg) x hx
      · have e := of_decide_eq_true hx
        subst e
        refine ⟨f, hf, rfl, ?_⟩
        unfold wP
        simp only [Bool.and_eq_true, decide_eq_true_eq]
        exact ⟨⟨⟨⟨⟨h0, by omega⟩, k1⟩, rfl⟩, hq.1.symm, hq.2.1.symm⟩, hq.2.2.2.1.symm, hq.2.2.2.2.symm⟩
    · exact (h s).more hg
  · exact (h s).more hg
/-- What is decided has a witness. -/
theorem spoke_wit {c : Cf} (hk : c.Ok) {fs : List Wo} {s : Nat} {t : Jv} (h : Spoke c fs s t) (hm : c.maj t.fr = true) : ∃ f ∈ fs, f.kind = 0 ∧ c.f + 1 ≤ ((countB (wFr c s f.m.num f.m.node t.st t.rs fs 0) : Nat) : Int) := by
  unfold Cf.maj at hm
  have hm := of_decide_eq_true hm
  have hf1 := hk.f1
  have hpos : 0 < countB (t.fr &&& allN c.f) := by omega
  obtain ⟨y, hy⟩ := List.exists_mem_of_length_pos (l := memU (t.fr &&& allN c.f) 32) hpos
  obtain ⟨i, _, _, hi⟩ := memU_mem.1 hy
  rw [Nat.testBit_and, Bool.and_eq_true] at hi
  obtain ⟨f, hf, hfs, hp⟩ := h i hi.1
  have hp0 := hp
  unfold wP at hp0
  simp only [Bool.and_eq_true, decide_eq_true_eq] at hp0
  refine ⟨f, hf, hp0.1.1.1.1.1, ?_⟩
  rw [hp0.1.2.1, hp0.1.2.2]
  have hmono : countB (t.fr &&& allN c.f) ≤ countB (wFr c s t.num t.node t.st t.rs fs 0) := count_mono (fun x hx => by
    rw [Nat.testBit_and, Bool.and_eq_true] at hx
    obtain ⟨g, hg, hgs, hgp⟩ := h x hx.1
    rw [← hgs]
    exact wFr_has c hk s t.num t.node t.st t.rs hgp fs 0 hg)
  omega
end Go.Proofs.Ytnpekdkfjjeeeaa
