import Derived.Test.YtkdciomijemmiaaNO
import Derived.Test.YtkdciomijemmiaaNI
import Derived.Test.YtkdciomijemmiaaBMj
import Derived.Test.YtkdciomijemmiaaNG
import Derived.Deep.DeepCutAuto
import Derived.Deep.CutBlock
import Derived.Test.YtkdciomijemmiaaBAw
import Derived.Test.YtkdciomijemmiaaBSp
namespace Go.Proofs.Ytkdciomijemmiaa
open Go.RowKit Crc

/-- The view of an election. -/
def Ev.vw (s : Ev) : Nat × Int := (s.num, s.node)
/-- One view is below another. -/
def vlt (a b : Nat × Int) : Prop := a.1 < b.1 ∨ a.1 = b.1 ∧ a.2 < b.2
theorem vlt_cmp (a b : Nat × Int) : cmpB a.1 a.2 b.1 b.2 < 0 ↔ vlt a b := by
  unfold cmpB vlt
  by_cases h1 : a.1 = b.1
  · by_cases h2 : a.2 = b.2
    · simp [h1, h2]
    · by_cases h3 : a.2 < b.2 <;> simp [h1, h2, h3]
  · have h1' : ¬ (a.1 : Int) = (b.1 : Int) := by omega
    by_cases h3 : a.1 < b.1
    · have h3' : (a.1 : Int) < (b.1 : Int) := by omega
      rw [if_neg h1', if_pos h3']
      exact ⟨fun _ => .inl h3, fun _ => by decide⟩
    · have h3' : ¬ (a.1 : Int) < (b.1 : Int) := by omega
      rw [if_neg h1', if_neg h3']
      exact ⟨fun k => absurd k (by decide), fun k => by omega⟩
theorem vlt_irr (a : Nat × Int) : ¬ vlt a a := by unfold vlt; omega
theorem vlt_not {a b : Nat × Int} (h1 : ¬ vlt a b) (h2 : ¬ vlt b a) : a = b := by
  unfold vlt at h1 h2
  exact Prod.ext (by omega) (by omega)
theorem withB_bit (s k : Nat) (hk : k < 32) (i : Nat) : (withB s (k : Nat)).testBit i = (s.testBit i || decide (k = i)) := by
  unfold withB aloneB
  rw [if_pos (by omega), Nat.testBit_or]
  congr 1
  rw [show ((k : Nat) : Int).toNat = k by omega, Nat.testBit_two_pow]
theorem addB_le (a b m : Nat) : addB a b m ≤ a + b := by unfold addB; split <;> omega
/-- Behind a beat of a replica that says its view v, and whether it suspects it. -/
def bt (c : Cf) (now : Nat) (e : Ev) (src : Nat) (v : Nat × Int) (b : Bool) : Ev := (Ev.beat c e src 8 v.1 v.2 b now).1
def okV (c : Cf) (v : Nat × Int) : Prop := 1 ≤ v.1 ∧ c.valid v.1 v.2 = true
theorem bt_up {c : Cf} {now : Nat} {e : Ev} {src : Nat} {v : Nat × Int} (b : Bool) (hs : (src : Int) < 2 * c.f + 1) (hv : okV c v) (h : vlt e.vw v) : bt c now e src v b = (Ev.enter c e v.1 v.2 now).susp src v.1 v.2 b := by
  unfold bt Ev.beat Ev.beatOk
  have h1 := hv.1
  have h2 : cmpB e.num e.node v.1 v.2 < 0 := (vlt_cmp e.vw v).2 h
  rw [if_neg (by simp [hs, hv.2]; omega), if_pos h2]
theorem bt_no {c : Cf} {now : Nat} {e : Ev} {src : Nat} {v : Nat × Int} (b : Bool) (hs : (src : Int) < 2 * c.f + 1) (hv : okV c v) (h : ¬ vlt e.vw v) : bt c now e src v b = e.susp src v.1 v.2 b := by
  unfold bt Ev.beat Ev.beatOk
  have h1 := hv.1
  have h2 : ¬ cmpB e.num e.node v.1 v.2 < 0 := fun k => h ((vlt_cmp e.vw v).1 k)
  rw [if_neg (by simp [hs, hv.2]; omega), if_neg h2]
theorem susp_vw (e : Ev) (src n : Nat) (m : Int) (b : Bool) : (e.susp src n m b).vw = e.vw := by unfold Ev.susp Ev.vw; split <;> rfl
theorem susp_pv (e : Ev) (src n : Nat) (m : Int) (b : Bool) : (e.susp src n m b).pv = e.pv := by unfold Ev.susp; split <;> rfl
theorem susp_fin (e : Ev) (src n : Nat) (m : Int) (b : Bool) : (e.susp src n m b).fin = e.fin := by unfold Ev.susp; split <;> rfl
theorem susp_sus (e : Ev) (src n : Nat) (m : Int) (b : Bool) : (e.susp src n m b).sus = if b = true ∧ (n, m) = e.vw then withB e.sus (src : Nat) else e.sus := by
  unfold Ev.susp Ev.vw
  by_cases h : b = true ∧ n = e.num ∧ m = e.node
  · rw [if_pos h, if_pos ⟨h.1, by rw [h.2.1, h.2.2]⟩]
  · rw [if_neg h, if_neg (fun k => h ⟨k.1, (Prod.mk.inj k.2).1, (Prod.mk.inj k.2).2⟩)]
theorem enter_vw (c : Cf) (e : Ev) (n : Nat) (m : Int) (now : Nat) : (Ev.enter c e n m now).vw = (n, m) := rfl
theorem enter_sus (c : Cf) (e : Ev) (n : Nat) (m : Int) (now : Nat) : (Ev.enter c e n m now).sus = 0 := rfl
theorem enter_fin (c : Cf) (e : Ev) (n : Nat) (m : Int) (now : Nat) : (Ev.enter c e n m now).fin ≤ now + c.em := by
  have h1 := addB_le now (min (2 * e.len) c.em) 1099511627776
  have : (Ev.enter c e n m now).fin = addB now (min (2 * e.len) c.em) 1099511627776 := rfl
  omega
theorem enter_pv (c : Cf) (e : Ev) (n : Nat) (m : Int) (now : Nat) (h : e.pv ≠ []) : (Ev.enter c e n m now).pv ≠ [] := by
  have : (Ev.enter c e n m now).pv = e.pv ++ e.th.take (32 - e.pv.length) := rfl
  rw [this]; simp [h]
/-- What a beat does to a view. -/
theorem bt_vw {c : Cf} {now : Nat} {e : Ev} {src : Nat} {v : Nat × Int} (b : Bool) (hs : (src : Int) < 2 * c.f + 1) (hv : okV c v) : (bt c now e src v b).vw = e.vw ∧ ¬ vlt e.vw v ∨ (bt c now e src v b).vw = v ∧ vlt e.vw v := by
  by_cases h : vlt e.vw v
  · right; rw [bt_up b hs hv h, susp_vw]; exact ⟨rfl, h⟩
  · left; rw [bt_no b hs hv h, susp_vw]; exact ⟨rfl, h⟩
theorem bt_pv {c : Cf} {now : Nat} {e : Ev} {src : Nat} {v : Nat × Int} (b : Bool) (hs : (src : Int) < 2 * c.f + 1) (hv : okV c v) (hp : e.pv ≠ []) : (bt c now e src v b).pv ≠ [] := by
  by_cases h : vlt e.vw v
  · rw [bt_up b hs hv h, susp_pv]; exact enter_pv _ _ _ _ _ hp
  · rw [bt_no b hs hv h, susp_pv]; exact hp
theorem bt_fin {c : Cf} {now : Nat} {e : Ev} {src : Nat} {v : Nat × Int} (b : Bool) (hs : (src : Int) < 2 * c.f + 1) (hv : okV c v) (hp : e.fin ≤ now + c.em) : (bt c now e src v b).fin ≤ now + c.em := by
  by_cases h : vlt e.vw v
  · rw [bt_up b hs hv h, susp_fin]; exact enter_fin _ _ _ _ _
  · rw [bt_no b hs hv h, susp_fin]; exact hp

/-- All that one tick does to the states. -/
def tmo (c : Cf) (now : Nat) (s : Nat → Ev) : Nat → Ev := fun i => (Ev.timeout c i (s i) now).1
def bt1 (c : Cf) (now : Nat) (s : Nat → Ev) (i : Nat) : Nat → Ev := fun j => bt c now (s j) i (s i).vw ((s i).sus.testBit i)
def bts (c : Cf) (now : Nat) (s : Nat → Ev) : Nat → Nat → Ev
  | 0 => s
  | k + 1 => bt1 c now (bts c now s k) k
def qrm (c : Cf) (now : Nat) (s : Nat → Ev) : Nat → Ev := fun i => (Ev.quorum c (s i) now).1
def tickF (c : Cf) (now : Nat) (N : Nat) (s : Nat → Ev) : Nat → Ev := qrm c now (bts c now (tmo c now s) N)

/-- The view behind a view. -/
def nxt (c : Cf) (v : Nat × Int) : Nat × Int := if v.2 < 2 * c.f then (v.1, v.2 + 1) else (v.1 + 1, 0)
theorem nxt_lt (c : Cf) (v : Nat × Int) : vlt v (nxt c v) := by unfold nxt vlt; split <;> simp <;> omega
theorem nxt_ok {c : Cf} (hk : c.Ok) {v : Nat × Int} (h : okV c v) (hm : v.1 < c.mn) : okV c (nxt c v) := by
  have h1 := h.1
  have h2 := (valid_node h1).1 h.2
  have := hk.f1
  unfold nxt
  split
  · exact ⟨h1, (valid_node h1).2 ⟨h2.1, by show 0 ≤ v.2 + 1; omega, by show v.2 + 1 < _; omega⟩⟩
  · exact ⟨by show 1 ≤ v.1 + 1; omega, (valid_node (by omega)).2 ⟨by omega, Int.le_refl _, by omega⟩⟩
theorem quorum_cases {c : Cf} (e : Ev) (now : Nat) (hm : e.num < c.mn) : ((countB e.sus : Nat) : Int) < c.f + 1 ∧ (Ev.quorum c e now).1 = e ∨ c.f + 1 ≤ ((countB e.sus : Nat) : Int) ∧ (Ev.quorum c e now).1.vw = nxt c e.vw ∧ (Ev.quorum c e now).1.sus = 0 := by
  unfold Ev.quorum
  by_cases h : ((countB e.sus : Nat) : Int) < c.f + 1
  · left; rw [if_pos h]; exact ⟨h, rfl⟩
  · right
    refine ⟨by omega, ?_⟩
    rw [if_neg h, if_neg (by omega)]
    unfold nxt Ev.vw
    by_cases h2 : e.node < 2 * c.f
    · rw [if_pos h2, if_pos h2]; exact ⟨rfl, rfl⟩
    · rw [if_neg h2, if_neg h2]; exact ⟨rfl, rfl⟩
end Go.Proofs.Ytkdciomijemmiaa
namespace Go.Proofs.Ytkdciomijemmiaa
open Go.RowKit Crc

theorem countB_P (s : Nat) : countB s = (List.range 32).countP (fun i => s.testBit i) := by
  unfold countB memU
  rw [List.length_map, List.countP_eq_length_filter]
set_option maxRecDepth 100000 in
theorem few_dec : ∀ N, N < 5 → ∀ j, j < N → (List.range 32).countP (fun i => decide (i < N) && decide (i ≠ j)) < N := by decide
set_option maxRecDepth 100000 in
theorem all_decE : ∀ N, N < 5 → (List.range 32).countP (fun i => decide (i < N)) = N := by decide
theorem count_few {s N j : Nat} (hN : N < 5) (hj : j < N) (h : ∀ b, s.testBit b = true → b < N ∧ b ≠ j) : countB s < N := by
  rw [countB_P]
  refine Nat.lt_of_le_of_lt (List.countP_mono_left fun x _ hx => ?_) (few_dec N hN j hj)
  have := h x hx
  simp [this.1, this.2]
theorem count_all {s N : Nat} (hN : N < 5) (h : ∀ i, i < N → s.testBit i = true) : N ≤ countB s := by
  rw [countB_P]
  have h1 := all_decE N hN
  have h2 : (List.range 32).countP (fun i => decide (i < N)) ≤ (List.range 32).countP (fun i => s.testBit i) := List.countP_mono_left fun x _ hx => h x (by simpa using hx)
  omega
theorem begin_vw (e : Ev) (now : Nat) : (e.begin now).vw = e.vw := rfl
theorem tmo_vw (c : Cf) (now : Nat) (s : Nat → Ev) (i : Nat) : (tmo c now s i).vw = (s i).vw := by
  unfold tmo Ev.timeout
  split
  · rfl
  · split <;> rfl
theorem tmo_first {c : Cf} (hpe : c.ep ≤ c.em) {now : Nat} {s : Nat → Ev} {i : Nat} (hf : (s i).fin ≤ now) (hp : (s i).pv = []) (ht : (s i).th ≠ []) : (tmo c now s i).pv ≠ [] ∧ (tmo c now s i).fin ≤ now + c.em := by
  have e : tmo c now s i = Ev.begin ⟨(s i).num, (s i).node, (s i).sus, c.ep, (s i).fin, (s i).pv, (s i).th⟩ now := by
    unfold tmo Ev.timeout
    rw [if_neg (by omega), if_pos (by rw [hp]; rfl)]
  rw [e]
  constructor
  · show (s i).pv ++ (s i).th.take (32 - (s i).pv.length) ≠ []
    rw [hp]
    cases h : (s i).th with
    | nil => exact absurd h ht
    | cons a l => simp
  · have := addB_le now c.ep 1099511627776
    show addB now c.ep 1099511627776 ≤ _
    omega
theorem tmo_later {c : Cf} {now : Nat} {s : Nat → Ev} {i : Nat} (hp : (s i).pv ≠ []) : now < (s i).fin ∧ tmo c now s i = s i ∨ (s i).fin ≤ now ∧ (tmo c now s i).pv ≠ [] ∧ (tmo c now s i).sus = withB (s i).sus (i : Nat) := by
  by_cases h : now < (s i).fin
  · left; exact ⟨h, by unfold tmo Ev.timeout; rw [if_pos h]⟩
  · right
    have e : tmo c now s i = Ev.begin ⟨(s i).num, (s i).node, withB (s i).sus (i : Nat), (s i).len, (s i).fin, (s i).pv, (s i).th⟩ now := by
      unfold tmo Ev.timeout
      rw [if_neg h, if_neg (by simp [hp])]
    refine ⟨by omega, ?_⟩
    rw [e]
    refine ⟨?_, rfl⟩
    show (s i).pv ++ (s i).th.take (32 - (s i).pv.length) ≠ []
    simp [hp]
theorem tmo_sus {c : Cf} {now : Nat} {s : Nat → Ev} {i : Nat} : (tmo c now s i).sus = (s i).sus ∨ (tmo c now s i).sus = withB (s i).sus (i : Nat) := by
  unfold tmo Ev.timeout
  split
  · exact .inl rfl
  · split
    · exact .inl rfl
    · exact .inr rfl

/-- Ahead of the first tick. -/
structure T0 (N : Nat) (c : Cf) (now0 : Nat) (top : Nat × Int) (s : Nat → Ev) : Prop where
  ok : ∀ i, i < N → okV c (s i).vw
  le : ∀ i, i < N → ¬ vlt top (s i).vw
  pv : ∀ i, i < N → (s i).pv = []
  th : ∀ i, i < N → (s i).th ≠ []
  fin : ∀ i, i < N → (s i).fin ≤ now0
  mx : ∃ i, i < N ∧ (s i).vw = top
/-- All wait in one view. -/
structure T1 (N : Nat) (c : Cf) (now0 : Nat) (top : Nat × Int) (s : Nat → Ev) : Prop where
  vw : ∀ i, i < N → (s i).vw = top
  pv : ∀ i, i < N → (s i).pv ≠ []
  su : ∀ i, i < N → (s i).sus.testBit i = true ∨ (s i).fin ≤ now0 + c.em
/-- Some, not all, have gone over. -/
structure T2 (N : Nat) (c : Cf) (top : Nat × Int) (s : Nat → Ev) : Prop where
  cs : ∀ i, i < N → (s i).vw = top ∨ (s i).vw = nxt c top ∧ (s i).sus = 0
  yes : ∃ i, i < N ∧ (s i).vw = nxt c top
  no : ∃ i, i < N ∧ (s i).vw = top
structure Th (N : Nat) (c : Cf) (top : Nat × Int) : Prop where
  ok : c.Ok
  pe : c.ep ≤ c.em
  e1 : 1 ≤ c.em
  hN : (N : Int) = c.f + 1
  tv : okV c top
  tm : top.1 < c.mn
theorem Th.n5 {N : Nat} {c : Cf} {top : Nat × Int} (h : Th N c top) : N < 5 := by have := h.hN; have := h.ok.f3; omega
theorem Th.src {N : Nat} {c : Cf} {top : Nat × Int} (h : Th N c top) {i : Nat} (hi : i < N) : (i : Int) < 2 * c.f + 1 := by have := h.hN; have := h.ok.f1; omega

/-- Behind the beats of the first tick all are in the highest view. -/
theorem first_beats {N : Nat} {c : Cf} {now0 : Nat} {top : Nat × Int} {s : Nat → Ev} (H : Th N c top) (h : T0 N c now0 top s) : T1 N c now0 top (bts c now0 (tmo c now0 s) N) := by
  obtain ⟨i0, hi0, h0⟩ := h.mx
  have key : ∀ k, k ≤ N → (∀ i, i < N → okV c (bts c now0 (tmo c now0 s) k i).vw ∧ ¬ vlt top (bts c now0 (tmo c now0 s) k i).vw ∧ (bts c now0 (tmo c now0 s) k i).pv ≠ [] ∧ (bts c now0 (tmo c now0 s) k i).fin ≤ now0 + c.em ∧ (i0 < k → (bts c now0 (tmo c now0 s) k i).vw = top)) ∧ (bts c now0 (tmo c now0 s) k i0).vw = top := by
    intro k
    induction k with
    | zero =>
      intro _
      refine ⟨fun i hi => ?_, ?_⟩
      · have hf := tmo_first H.pe (h.fin i hi) (h.pv i hi) (h.th i hi)
        refine ⟨?_, ?_, hf.1, hf.2, fun k => absurd k (by omega)⟩
        · show okV c (tmo c now0 s i).vw
          rw [tmo_vw]; exact h.ok i hi
        · show ¬ vlt top (tmo c now0 s i).vw
          rw [tmo_vw]; exact h.le i hi
      · show (tmo c now0 s i0).vw = top
        rw [tmo_vw]; exact h0
    | succ k ih =>
      intro hk
      obtain ⟨ih1, ih2⟩ := ih (by omega)
      have hsk := H.src (i := k) (by omega)
      obtain ⟨k1, k2, _, _, _⟩ := ih1 k (by omega)
      generalize hg : bts c now0 (tmo c now0 s) k = S at *
      have hS : bts c now0 (tmo c now0 s) (k + 1) = bt1 c now0 S k := by show bt1 c now0 (bts c now0 (tmo c now0 s) k) k = _; rw [hg]
      rw [hS]
      refine ⟨fun i hi => ?_, ?_⟩
      · obtain ⟨a1, a2, a3, a4, a5⟩ := ih1 i hi
        refine ⟨?_, ?_, bt_pv _ hsk k1 a3, bt_fin _ hsk k1 a4, fun hik => ?_⟩
        · rcases bt_vw (now := now0) (e := S i) ((S k).sus.testBit k) hsk k1 with ⟨e, _⟩ | ⟨e, _⟩
          · show okV c (bt c now0 (S i) k (S k).vw ((S k).sus.testBit k)).vw
            rw [e]; exact a1
          · show okV c (bt c now0 (S i) k (S k).vw ((S k).sus.testBit k)).vw
            rw [e]; exact k1
        · rcases bt_vw (now := now0) (e := S i) ((S k).sus.testBit k) hsk k1 with ⟨e, _⟩ | ⟨e, _⟩
          · show ¬ vlt top (bt c now0 (S i) k (S k).vw ((S k).sus.testBit k)).vw
            rw [e]; exact a2
          · show ¬ vlt top (bt c now0 (S i) k (S k).vw ((S k).sus.testBit k)).vw
            rw [e]; exact k2
        · have hkt : (S k).vw = top := by
            by_cases hk0 : i0 < k
            · exact (ih1 k (by omega)).2.2.2.2 hk0
            · have : i0 = k := by omega
              rw [← this]; exact ih2
          show (bt c now0 (S i) k (S k).vw ((S k).sus.testBit k)).vw = top
          rcases bt_vw (now := now0) (e := S i) ((S k).sus.testBit k) hsk k1 with ⟨e, h4⟩ | ⟨e, h4⟩
          · rw [e]; rw [hkt] at h4; exact vlt_not h4 a2
          · rw [e]; exact hkt
      · show (bt c now0 (S i0) k (S k).vw ((S k).sus.testBit k)).vw = top
        rcases bt_vw (now := now0) (e := S i0) ((S k).sus.testBit k) hsk k1 with ⟨e, h4⟩ | ⟨e, h4⟩
        · rw [e]; exact ih2
        · rw [ih2] at h4; exact absurd h4 k2
  obtain ⟨k1, k2⟩ := key N (Nat.le_refl _)
  exact ⟨fun i hi => (k1 i hi).2.2.2.2 hi0, fun i hi => (k1 i hi).2.2.1, fun i hi => .inr (k1 i hi).2.2.2.1⟩

/-- Where all are in one view: all go over, or none, or some. -/
theorem quorums {N : Nat} {c : Cf} {now now0 : Nat} {top : Nat × Int} {s : Nat → Ev} (H : Th N c top) (h : T1 N c now0 top s) : (∀ i, i < N → (qrm c now s i).vw = nxt c top) ∨ T1 N c now0 top (qrm c now s) ∨ T2 N c top (qrm c now s) := by
  have hq : ∀ i, i < N → (qrm c now s i) = s i ∨ (qrm c now s i).vw = nxt c top ∧ (qrm c now s i).sus = 0 := by
    intro i hi
    have hv := h.vw i hi
    have hn : (s i).num < c.mn := by have : (s i).num = top.1 := congrArg Prod.fst hv
                                     have := H.tm; omega
    rcases quorum_cases (s i) now hn with ⟨_, e⟩ | ⟨_, e1, e2⟩
    · exact .inl e
    · rw [hv] at e1; exact .inr ⟨e1, e2⟩
  by_cases ha : ∀ i, i < N → (qrm c now s i).vw = nxt c top
  · exact .inl ha
  right
  by_cases hb : ∀ i, i < N → qrm c now s i = s i
  · left
    exact ⟨fun i hi => by rw [hb i hi]; exact h.vw i hi, fun i hi => by rw [hb i hi]; exact h.pv i hi, fun i hi => by rw [hb i hi]; exact h.su i hi⟩
  · right
    refine ⟨fun i hi => ?_, ?_, ?_⟩
    · rcases hq i hi with e | e
      · left; rw [e]; exact h.vw i hi
      · exact .inr e
    · apply Classical.byContradiction
      intro hn
      apply hb
      intro i hi
      rcases hq i hi with e | e
      · exact e
      · exact absurd ⟨i, hi, e.1⟩ hn
    · apply Classical.byContradiction
      intro hn
      apply ha
      intro i hi
      rcases hq i hi with e | e
      · exact absurd ⟨i, hi, by rw [e]; exact h.vw i hi⟩ hn
      · exact e.1
end Go.Proofs.Ytkdciomijemmiaa
namespace Go.Proofs.Ytkdciomijemmiaa
open Go.RowKit Crc

/-- A beat of one who is in the same view. -/
theorem bt_same {c : Cf} {now : Nat} {e : Ev} {src : Nat} {v : Nat × Int} (b : Bool) (hs : (src : Int) < 2 * c.f + 1) (hv : okV c v) (h : e.vw = v) : (bt c now e src v b).vw = v ∧ (bt c now e src v b).pv = e.pv ∧ (bt c now e src v b).fin = e.fin ∧ (bt c now e src v b).sus = if b = true then withB e.sus (src : Nat) else e.sus := by
  have hn : ¬ vlt e.vw v := by rw [h]; exact vlt_irr v
  rw [bt_no b hs hv hn, susp_vw, susp_pv, susp_fin, susp_sus]
  refine ⟨h, rfl, rfl, ?_⟩
  cases b with
  | true => rw [if_pos ⟨rfl, h.symm⟩, if_pos rfl]
  | false => rw [if_neg (by simp), if_neg (by simp)]
theorem bit_grow {a k i : Nat} (hk : k < 32) {b : Bool} (h : a.testBit i = true) : (if b = true then withB a (k : Nat) else a).testBit i = true := by
  split
  · rw [withB_bit a k hk, h]; rfl
  · exact h

/-- A tick while all wait in one view: ahead of Quorum. -/
theorem wait_beats {N : Nat} {c : Cf} {now0 t : Nat} {top : Nat × Int} {s : Nat → Ev} (H : Th N c top) (h : T1 N c now0 top s) : T1 N c now0 top (bts c (now0 + t) (tmo c (now0 + t) s) N) ∧ (c.em ≤ t → ∀ i, i < N → ∀ j, j < N → (bts c (now0 + t) (tmo c (now0 + t) s) N j).sus.testBit i = true) := by
  have hN5 := H.n5
  generalize hnow : now0 + t = now
  have h1 : T1 N c now0 top (tmo c now s) ∧ (c.em ≤ t → ∀ i, i < N → (tmo c now s i).sus.testBit i = true) := by
    have a : ∀ i, i < N → (tmo c now s i).pv ≠ [] ∧ ((tmo c now s i).sus.testBit i = true ∨ (tmo c now s i).fin ≤ now0 + c.em) ∧ (c.em ≤ t → (tmo c now s i).sus.testBit i = true) := by
      intro i hi
      rcases tmo_later (c := c) (now := now) (h.pv i hi) with ⟨e1, e⟩ | ⟨_, e2, e3⟩
      · rw [e]
        refine ⟨h.pv i hi, h.su i hi, fun ht => ?_⟩
        rcases h.su i hi with k | k
        · exact k
        · omega
      · have hb : (tmo c now s i).sus.testBit i = true := by rw [e3, withB_bit _ _ (by omega)]; simp
        exact ⟨e2, .inl hb, fun _ => hb⟩
    exact ⟨⟨fun i hi => by rw [tmo_vw]; exact h.vw i hi, fun i hi => (a i hi).1, fun i hi => (a i hi).2.1⟩, fun ht i hi => (a i hi).2.2 ht⟩
  generalize tmo c now s = s1 at *
  have key : ∀ k, k ≤ N → T1 N c now0 top (bts c now s1 k) ∧ (c.em ≤ t → (∀ i, i < N → (bts c now s1 k i).sus.testBit i = true) ∧ ∀ i, i < k → ∀ j, j < N → (bts c now s1 k j).sus.testBit i = true) := by
    intro k
    induction k with
    | zero => exact fun _ => ⟨h1.1, fun ht => ⟨h1.2 ht, fun i hi => absurd hi (by omega)⟩⟩
    | succ k ih =>
      intro hk
      obtain ⟨i1, i2⟩ := ih (by omega)
      have hsk := H.src (i := k) (by omega)
      generalize hg : bts c now s1 k = S at *
      have hS : bts c now s1 (k + 1) = bt1 c now S k := by show bt1 c now (bts c now s1 k) k = _; rw [hg]
      rw [hS]
      have hkt := i1.vw k (by omega)
      have hb : ∀ j, j < N → (bt1 c now S k j).vw = top ∧ (bt1 c now S k j).pv = (S j).pv ∧ (bt1 c now S k j).fin = (S j).fin ∧ (bt1 c now S k j).sus = if (S k).sus.testBit k = true then withB (S j).sus (k : Nat) else (S j).sus := by
        intro j hj
        have := bt_same (now := now) (e := S j) ((S k).sus.testBit k) hsk H.tv (i1.vw j hj)
        unfold bt1
        rw [hkt]
        exact this
      refine ⟨⟨fun j hj => (hb j hj).1, fun j hj => by rw [(hb j hj).2.1]; exact i1.pv j hj, fun j hj => ?_⟩, fun ht => ⟨fun j hj => ?_, fun i hi j hj => ?_⟩⟩
      · rw [(hb j hj).2.2.1, (hb j hj).2.2.2]
        rcases i1.su j hj with e | e
        · exact .inl (bit_grow (by omega) e)
        · exact .inr e
      · rw [(hb j hj).2.2.2]
        exact bit_grow (by omega) ((i2 ht).1 j hj)
      · rw [(hb j hj).2.2.2]
        by_cases hik : i < k
        · exact bit_grow (by omega) ((i2 ht).2 i hik j hj)
        · have : i = k := by omega
          subst this
          rw [if_pos ((i2 ht).1 i (by omega)), withB_bit _ _ (by omega)]
          simp
  obtain ⟨k1, k2⟩ := key N (Nat.le_refl _)
  exact ⟨k1, fun ht => (k2 ht).2⟩

/-- A tick where some have gone over: behind it all are there. -/
theorem split_tick {N : Nat} {c : Cf} {now : Nat} {top : Nat × Int} {s : Nat → Ev} (H : Th N c top) (hm2 : top.1 + 1 < c.mn) (h : T2 N c top s) : ∀ i, i < N → (tickF c now N s i).vw = nxt c top := by
  have hN5 := H.n5
  have hne : ∀ v, v = top → v = nxt c top → False := fun v e1 e2 => by
    have := nxt_lt c top
    rw [← e2, e1] at this
    exact vlt_irr _ this
  have hno := nxt_ok H.ok H.tv H.tm
  obtain ⟨i1, hi1, y1⟩ := h.yes
  obtain ⟨i2, hi2, y2⟩ := h.no
  have key : ∀ k, k ≤ N → (∀ i, i < N → ((bts c now (tmo c now s) k i).vw = top ∧ ¬ (s i).vw = nxt c top) ∨ ((bts c now (tmo c now s) k i).vw = nxt c top ∧ ∀ b, (bts c now (tmo c now s) k i).sus.testBit b = true → b < N ∧ (s b).vw = nxt c top)) ∧ (i1 < k → ∀ i, i < N → (bts c now (tmo c now s) k i).vw = nxt c top) := by
    intro k
    induction k with
    | zero =>
      intro _
      refine ⟨fun i hi => ?_, fun k => absurd k (by omega)⟩
      show ((tmo c now s i).vw = top ∧ _) ∨ ((tmo c now s i).vw = nxt c top ∧ ∀ b, (tmo c now s i).sus.testBit b = true → _)
      rw [tmo_vw]
      rcases h.cs i hi with e | ⟨e, e0⟩
      · exact .inl ⟨e, fun k => hne _ e k⟩
      · right
        refine ⟨e, fun b hb => ?_⟩
        rcases tmo_sus (c := c) (now := now) (s := s) (i := i) with q | q
        · rw [q, e0] at hb; simp at hb
        · rw [q, e0, withB_bit _ _ (by omega)] at hb
          have : i = b := by simpa using hb
          subst this
          exact ⟨hi, e⟩
    | succ k ih =>
      intro hk
      obtain ⟨q1, q2⟩ := ih (by omega)
      have hsk := H.src (i := k) (by omega)
      generalize hg : bts c now (tmo c now s) k = S at *
      have hS : bts c now (tmo c now s) (k + 1) = bt1 c now S k := by show bt1 c now (bts c now (tmo c now s) k) k = _; rw [hg]
      rw [hS]
      rcases q1 k (by omega) with ⟨kv, kn⟩ | ⟨kv, kb⟩
      · -- the sender is still below
        have hik : ¬ i1 < k := fun e => hne _ kv (q2 e k (by omega))
        have hk1 : i1 ≠ k := fun e => kn (by rw [← e]; exact y1)
        refine ⟨fun i hi => ?_, fun e => absurd e (by omega)⟩
        unfold bt1
        rw [kv]
        rcases q1 i hi with ⟨a, b⟩ | ⟨a, b⟩
        · left
          exact ⟨(bt_same (now := now) (e := S i) ((S k).sus.testBit k) hsk H.tv a).1, b⟩
        · right
          have hn : ¬ vlt (S i).vw top := by
            rw [a]
            have := nxt_lt c top
            unfold vlt at *
            omega
          rw [bt_no _ hsk H.tv hn, susp_vw, susp_sus, if_neg (fun e => hne _ e.2.symm a)]
          exact ⟨a, b⟩
      · have hall : ∀ i, i < N → (bt1 c now S k i).vw = nxt c top ∧ ∀ b, (bt1 c now S k i).sus.testBit b = true → b < N ∧ (s b).vw = nxt c top := by
          intro i hi
          unfold bt1
          rw [kv]
          have hw : ∀ a : Nat, (∀ b, a.testBit b = true → b < N ∧ (s b).vw = nxt c top) → ∀ b, (if (S k).sus.testBit k = true then withB a (k : Nat) else a).testBit b = true → b < N ∧ (s b).vw = nxt c top := by
            intro a ha b hb
            by_cases hf : (S k).sus.testBit k = true
            · rw [if_pos hf, withB_bit _ _ (by omega)] at hb
              by_cases e : k = b
              · rw [← e]; exact kb k hf
              · exact ha b (by simpa [e] using hb)
            · rw [if_neg hf] at hb; exact ha b hb
          rcases q1 i hi with ⟨a, _⟩ | ⟨a, b⟩
          · have hl : vlt (S i).vw (nxt c top) := by rw [a]; exact nxt_lt c top
            rw [bt_up _ hsk hno hl, susp_vw, susp_sus, enter_vw, enter_sus]
            refine ⟨rfl, ?_⟩
            have := hw 0 (fun b hb => by simp at hb)
            cases hf : (S k).sus.testBit k with
            | true => rw [hf] at this; rw [if_pos ⟨rfl, rfl⟩]; rw [if_pos rfl] at this; exact this
            | false => intro b hb; rw [if_neg (by simp)] at hb; simp at hb
          · have hs := bt_same (now := now) (e := S i) ((S k).sus.testBit k) hsk hno a
            refine ⟨hs.1, ?_⟩
            rw [hs.2.2.2]
            exact hw _ b
        exact ⟨fun i hi => .inr (hall i hi), fun _ i hi => (hall i hi).1⟩
  obtain ⟨k1, k2⟩ := key N (Nat.le_refl _)
  intro i hi
  have hv := k2 hi1 i hi
  unfold tickF
  generalize bts c now (tmo c now s) N = S at *
  rcases k1 i hi with ⟨a, _⟩ | ⟨_, b⟩
  · exact (hne _ a hv).elim
  · have hc : countB (S i).sus < N := count_few hN5 hi2 (fun x hx => ⟨(b x hx).1, fun e => hne _ y2 (by rw [← e]; exact (b x hx).2)⟩)
    have hn : (S i).num < c.mn := by
      have e1 : (S i).num = (nxt c top).1 := congrArg Prod.fst hv
      have e2 : (nxt c top).1 ≤ top.1 + 1 := by unfold nxt; split <;> simp
      omega
    rcases quorum_cases (S i) now hn with ⟨_, e⟩ | ⟨e, _⟩
    · show (Ev.quorum c (S i) now).1.vw = _
      rw [e]; exact hv
    · have := H.hN; omega

/-- How it stands ahead of a tick. -/
def Tj (N : Nat) (c : Cf) (now0 : Nat) (top : Nat × Int) (t : Nat) (s : Nat → Ev) : Prop :=
  t = 0 ∧ T0 N c now0 top s ∨ t ≤ c.em ∧ T1 N c now0 top s ∨ t ≤ c.em + 1 ∧ T2 N c top s
theorem Tj.le {N : Nat} {c : Cf} {now0 : Nat} {top : Nat × Int} {t : Nat} {s : Nat → Ev} (h : Tj N c now0 top t s) : t ≤ c.em + 1 := by
  rcases h with ⟨h, _⟩ | ⟨h, _⟩ | ⟨h, _⟩ <;> omega
theorem Tj.tick {N : Nat} {c : Cf} {now0 : Nat} {top : Nat × Int} {t : Nat} {s : Nat → Ev} (H : Th N c top) (hm2 : top.1 + 1 < c.mn) (h : Tj N c now0 top t s) : (∀ i, i < N → (tickF c (now0 + t) N s i).vw = nxt c top) ∨ Tj N c now0 top (t + 1) (tickF c (now0 + t) N s) := by
  have h1 := H.e1
  rcases h with ⟨rfl, h⟩ | ⟨ht, h⟩ | ⟨_, h⟩
  · rcases quorums (now := now0 + 0) H (first_beats H h) with q | q | q
    · exact .inl q
    · exact .inr (.inr (.inl ⟨by omega, q⟩))
    · exact .inr (.inr (.inr ⟨by omega, q⟩))
  · obtain ⟨w1, w2⟩ := wait_beats (t := t) H h
    by_cases hte : c.em ≤ t
    · left
      have w3 := w2 hte
      intro i hi
      have hv := w1.vw i hi
      unfold tickF
      generalize bts c (now0 + t) (tmo c (now0 + t) s) N = S at *
      have hc := count_all H.n5 (fun k hk => w3 k hk i hi)
      have hn : (S i).num < c.mn := by have : (S i).num = top.1 := congrArg Prod.fst hv
                                       omega
      rcases quorum_cases (S i) (now0 + t) hn with ⟨e, _⟩ | ⟨_, e, _⟩
      · have := H.hN; omega
      · show (Ev.quorum c (S i) (now0 + t)).1.vw = _
        rw [e, hv]
    · rcases quorums (now := now0 + t) H w1 with q | q | q
      · exact .inl q
      · exact .inr (.inr (.inl ⟨by omega, q⟩))
      · exact .inr (.inr (.inr ⟨by omega, q⟩))
  · exact .inl (split_tick H hm2 h)
end Go.Proofs.Ytkdciomijemmiaa
namespace Go.Proofs.Ytkdciomijemmiaa
open Go.RowKit Crc

/-- The blocks that an election's lists lie in. -/
def ft (x : Ex) (b : Nat) : Prop := (Value.slice x.po x.ps.length x.pc).ownBlock = some b ∨ (Value.slice x.qo x.ts.length x.tc).ownBlock = some b ∨ (∃ r ∈ x.ps, (Value.slice r.co r.cn r.cc).ownBlock = some b) ∨ ∃ r ∈ x.ts, (Value.slice r.co r.cn r.cc).ownBlock = some b
theorem EL.ft_fp {W : World} {eb g : Nat} {c : Cf} {me : Nat} {fp : Nat → Prop} {x : Ex} (h : EL W eb g c me fp x) {b : Nat} (hb : ft x b) : fp b := by
  rcases hb with e | e | ⟨r, hr, e⟩ | ⟨r, hr, e⟩
  · exact h.qp.blk b e
  · exact h.qt.blk b e
  · exact h.qp.cb r hr b e
  · exact h.qt.cb r hr b e
theorem EL.foot {W : World} {eb g : Nat} {c : Cf} {me : Nat} {fp : Nat → Prop} {x : Ex} (h : EL W eb g c me fp x) : EL W eb g c me (ft x) x :=
  ⟨h.blk, h.grp, ⟨h.qp.row, fun _ e => .inl e, h.qp.cq, fun r hr _ e => .inr (.inr (.inl ⟨r, hr, e⟩)), h.qp.le⟩, ⟨h.qt.row, fun _ e => .inr (.inl e), h.qt.cq, fun r hr _ e => .inr (.inr (.inr ⟨r, hr, e⟩)), h.qt.le⟩, h.ap, fun b hb => h.flt b (h.ft_fp hb), fun e => h.feb (h.ft_fp e), fun e => h.fg (h.ft_fp e), h.n1, h.va, h.su, h.l1, h.l2, h.f2⟩
theorem row_ty {W : World} {base size k : Nat} {e : TypeId} {v : Value} {xs : List Value} (h : W.ownsRow base e size v k xs) {b : Nat} (hb : v.ownBlock = some b) : ∃ cur, W.heap[b]? = some (.cells cur e (0, 0)) := by
  rcases h.2 with ⟨rfl, _⟩ | ⟨g, cap, cur, rfl, _, hg, _⟩
  · cases hb
  · cases hb
    exact ⟨cur, hg⟩
/-- The types of blocks that the calls of an election may turn. -/
def Tt (t : TypeId) : Prop := t = 81 ∨ t = 36 ∨ t = 5
theorem EL.ty {W : World} {eb g : Nat} {c : Cf} {me : Nat} {fp : Nat → Prop} {x : Ex} (h : EL W eb g c me fp x) {b : Nat} (hb : ft x b) : ∃ cur t, W.heap[b]? = some (.cells cur t (0, 0)) ∧ (t = 36 ∨ t = 5) := by
  rcases hb with e | e | ⟨r, hr, e⟩ | ⟨r, hr, e⟩
  · obtain ⟨cur, h1⟩ := row_ty h.qp.row e; exact ⟨cur, _, h1, .inl rfl⟩
  · obtain ⟨cur, h1⟩ := row_ty h.qt.row e; exact ⟨cur, _, h1, .inl rfl⟩
  · obtain ⟨cur, h1⟩ := row_ty (h.qp.cq r hr).ow.1 e; exact ⟨cur, _, h1, .inr rfl⟩
  · obtain ⟨cur, h1⟩ := row_ty (h.qt.cq r hr).ow.1 e; exact ⟨cur, _, h1, .inr rfl⟩
theorem EL.ty_ne {W : World} {eb g : Nat} {c : Cf} {me : Nat} {fp : Nat → Prop} {x : Ex} (h : EL W eb g c me fp x) {b : Nat} (hb : Mine eb (ft x) b) {cs : Array Value} {t : TypeId} (hh : W.heap[b]? = some (.cells cs t (0, 0))) : Tt t := by
  rcases hb with rfl | hb
  · rw [h.blk] at hh; cases hh; exact .inl rfl
  · obtain ⟨cur, u, h1, h2⟩ := h.ty hb
    rw [h1] at hh; cases hh; exact .inr h2

/-- Blocks of other types stay, and those of pb. -/
structure Kp (pb : Nat → Prop) (W W' : World) : Prop where
  size : W.heap.size ≤ W'.heap.size
  keep : ∀ (b : Nat) (cs : Array Value) (t : TypeId), W.heap[b]? = some (.cells cs t (0, 0)) → ¬ Tt t ∨ pb b → W'.heap[b]? = some (.cells cs t (0, 0))
theorem Kp.refl (pb : Nat → Prop) (W : World) : Kp pb W W := ⟨Nat.le_refl _, fun _ _ _ h _ => h⟩
theorem Kp.trans {pb : Nat → Prop} {a b c : World} (h : Kp pb a b) (k : Kp pb b c) : Kp pb a c := ⟨Nat.le_trans h.size k.size, fun x cs t e n => k.keep x cs t (h.keep x cs t e n) n⟩
theorem Kp.below {pb : Nat → Prop} {a b : World} (h : Below a.heap.size a b) : Kp pb a b := ⟨h.size, fun x _ _ e _ => (h.block x (block_lt e)).trans e⟩
theorem Kp.less {pb qb : Nat → Prop} {a b : World} (h : Kp qb a b) (hs : ∀ b, pb b → qb b) : Kp pb a b := ⟨h.size, fun x cs t e n => h.keep x cs t e (n.imp id (hs x))⟩
/-- The states, one of them another. -/
def up (s : Nat → Ev) (i : Nat) (e : Ev) : Nat → Ev := fun j => if j = i then e else s j
/-- The elections of the law, and the row of pointers to them. -/
structure GL (w : World) (c : Cf) (N : Nat) (eb g : Nat → Nat) (rb : Nat) (pb : Nat → Prop) (s : Nat → Ev) (W : World) : Prop where
  bel : Below w.heap.size w W
  row : ∃ cs, W.heap[rb]? = some (.cells cs 28 (0, 0)) ∧ ∀ i, i < N → cs[i]? = some (.pointer (some ⟨eb i, 0, none⟩))
  plt : ∀ b, pb b → b < W.heap.size
  ex : ∃ x : Nat → Ex, (∀ i, i < N → ∀ b, pb b → ¬ Mine (eb i) (ft (x i)) b) ∧ (∀ i, i < N → EL W (eb i) (g i) c i (ft (x i)) (x i) ∧ (x i).abs = s i ∧ ∀ b, Mine (eb i) (ft (x i)) b → w.heap.size ≤ b) ∧ ∀ i, i < N → ∀ j, j < N → i ≠ j → eb i ≠ eb j ∧ ∀ b, ft (x i) b → ¬ ft (x j) b
theorem GL.kept {w : World} {c : Cf} {N : Nat} {eb g : Nat → Nat} {rb : Nat} {pb : Nat → Prop} {s : Nat → Ev} {W W' : World} (h : GL w c N eb g rb pb s W) (hb : Below W.heap.size W W') : GL w c N eb g rb pb s W' := by
  obtain ⟨cs, h1, h2⟩ := h.row
  obtain ⟨x, hpb, h3, h4⟩ := h.ex
  exact ⟨h.bel.trans (hb.mono h.bel.size), ⟨cs, (hb.block _ (block_lt h1)).trans h1, h2⟩, fun b k => Nat.lt_of_lt_of_le (h.plt b k) hb.size, x, hpb, fun i hi => ⟨(h3 i hi).1.kept hb, (h3 i hi).2⟩, h4⟩
theorem GL.congr {w : World} {c : Cf} {N : Nat} {eb g : Nat → Nat} {rb : Nat} {pb : Nat → Prop} {s s' : Nat → Ev} {W : World} (h : GL w c N eb g rb pb s W) (hs : ∀ i, i < N → s' i = s i) : GL w c N eb g rb pb s' W := by
  obtain ⟨x, hpb, h3, h4⟩ := h.ex
  exact ⟨h.bel, h.row, h.plt, x, hpb, fun i hi => ⟨(h3 i hi).1, (h3 i hi).2.1.trans (hs i hi).symm, (h3 i hi).2.2⟩, h4⟩
theorem GL.el {w : World} {c : Cf} {N : Nat} {eb g : Nat → Nat} {rb : Nat} {pb : Nat → Prop} {s : Nat → Ev} {W : World} (h : GL w c N eb g rb pb s W) {i : Nat} (hi : i < N) : ∃ x, EL W (eb i) (g i) c i (ft x) x ∧ x.abs = s i ∧ ∀ s' W', Did W (eb i) (g i) c i (ft x) s' W' → GL w c N eb g rb pb (up s i s') W' ∧ Kp pb W W' := by
  obtain ⟨cs, h1, h2⟩ := h.row
  obtain ⟨x, hpb, h3, h4⟩ := h.ex
  obtain ⟨e1, e2, e3⟩ := h3 i hi
  refine ⟨x i, e1, e2, ?_⟩
  rintro s' W' ⟨fp', y, d1, d2, d3, d4⟩
  refine ⟨⟨h.bel.trans (d3.toBelow _ h.bel.size e3), ⟨cs, (d3.block _ (block_lt h1) ?_).trans h1, h2⟩, fun b k => Nat.lt_of_lt_of_le (h.plt b k) d3.size, fun j => if j = i then y else x j, fun j hj b hb => ?_, fun j hj => ?_, fun j hj k hk hjk => ?_⟩, d3.size, fun b cs t hb ht => (d3.block b (block_lt hb) (fun m => ht.elim (fun k => k (e1.ty_ne m hb)) (fun k => hpb i hi b k m))).trans hb⟩
  · intro m
    have := e1.ty_ne m h1
    revert this
    unfold Tt
    decide
  · by_cases hji : j = i
    · simp only [if_pos hji]
      subst hji
      rintro (e | e)
      · exact hpb j hj b hb (.inl e)
      · rcases d4 b (d1.ft_fp e) with q | q
        · exact hpb j hj b hb (.inr q)
        · have := h.plt b hb; omega
    · simp only [if_neg hji]
      exact hpb j hj b hb
  · by_cases hji : j = i
    · subst hji
      simp only [if_true, up]
      refine ⟨d1.foot, d2, ?_⟩
      rintro b (e | e)
      · exact e3 b (.inl e)
      · rcases d4 b (d1.ft_fp e) with q | q
        · exact e3 b (.inr q)
        · have := h.bel.size; omega
    · simp only [if_neg hji, up]
      obtain ⟨f1, f2, f3⟩ := h3 j hj
      refine ⟨f1.fe d3 (fun b hb => ?_) ?_ ?_, f2, f3⟩
      · rintro (q | q)
        · obtain ⟨cur, t, t1, t2⟩ := f1.ty hb
          rw [q, e1.blk] at t1
          cases t1
          revert t2
          decide
        · exact (h4 j hj i hi hji).2 b hb q
      · rintro (q | q)
        · exact (h4 j hj i hi hji).1 q
        · obtain ⟨cur, t, t1, t2⟩ := e1.ty q
          rw [f1.blk] at t1
          cases t1
          revert t2
          decide
      · intro m
        have := e1.ty_ne m f1.grp
        revert this
        unfold Tt
        decide
  · have ap : ∀ j, j < N → j ≠ i → ∀ b, ft (x j) b → ¬ ft y b := by
      intro j hj hji b hb q
      rcases d4 b (d1.ft_fp q) with q | q
      · exact (h4 j hj i hi hji).2 b hb q
      · have := (h3 j hj).1.flt b hb; omega
    refine ⟨(h4 j hj k hk hjk).1, fun b hb => ?_⟩
    by_cases hji : j = i
    · have hki : k ≠ i := fun e => hjk (hji.trans e.symm)
      simp only [if_pos hji] at hb
      simp only [if_neg hki]
      exact fun q => ap k hk hki b q hb
    · simp only [if_neg hji] at hb
      by_cases hki : k = i
      · simp only [if_pos hki]
        exact ap j hj hji b hb
      · simp only [if_neg hki]
        exact (h4 j hj k hk hjk).2 b hb
theorem GL.less {w : World} {c : Cf} {N : Nat} {eb g : Nat → Nat} {rb : Nat} {pb qb : Nat → Prop} {s : Nat → Ev} {W : World} (h : GL w c N eb g rb qb s W) (hs : ∀ b, pb b → qb b) : GL w c N eb g rb pb s W := by
  obtain ⟨x, hpb, h3, h4⟩ := h.ex
  exact ⟨h.bel, h.row, fun b k => h.plt b (hs b k), x, fun i hi b k => hpb i hi b (hs b k), h3, h4⟩
/-- A new block is nobody's. -/
theorem GL.guard {w : World} {c : Cf} {N : Nat} {eb g : Nat → Nat} {rb : Nat} {pb : Nat → Prop} {s : Nat → Ev} {W : World} (h : GL w c N eb g rb pb s W) (o : Obj) : GL w c N eb g rb (fun b => pb b ∨ b = W.heap.size) s (W.alloc o) := by
  have hb : Below W.heap.size W (W.alloc o) := (Below.refl _ W).alloc (Nat.le_refl _) _
  have h' := h.kept hb
  obtain ⟨x, hpb, h3, h4⟩ := h.ex
  refine ⟨h'.bel, h'.row, fun b k => ?_, x, fun i hi b k m => ?_, fun i hi => ⟨(h3 i hi).1.kept hb, (h3 i hi).2⟩, h4⟩
  · rcases k with k | k
    · exact h'.plt b k
    · rw [k]; simp
  · rcases k with k | k
    · exact hpb i hi b k m
    · obtain ⟨f1, _⟩ := h3 i hi
      rcases m with m | m
      · have := f1.lt; omega
      · have := f1.flt b m; omega
/-- The cell of the row that points to an election. -/
theorem GL.cell {w : World} {c : Cf} {N : Nat} {eb g : Nat → Nat} {rb : Nat} {pb : Nat → Prop} {s : Nat → Ev} {W : World} (h : GL w c N eb g rb pb s W) {i : Nat} (hi : i < N) : W.cell? ⟨rb, i, none⟩ = some (.pointer (some ⟨eb i, 0, none⟩)) ∧ rb < W.heap.size := by
  obtain ⟨cs, h1, h2⟩ := h.row
  exact ⟨(block_cell h1 i).trans (h2 i hi), block_lt h1⟩

theorem timeoutG {w : World} {c : Cf} {N : Nat} {eb g : Nat → Nat} {rb : Nat} {pb : Nat → Prop} {s : Nat → Ev} {W : World} (h : GL w c N eb g rb pb s W) (hc : OkC c) {i : Nat} (hi : i < N) (now : Nat) (hnow : now < 18446744073709551616) :
    Calls Try.prog 12 #[.pointer (some ⟨eb i, 0, none⟩), .int .u64 (now : Nat)] W fun e W' => ∃ z, e = .returned (.bool z) ∧ Hid (GL w c N eb g rb pb (up s i (tmo c now s i)) W' ∧ Kp pb W W') := by
  obtain ⟨x, h1, h2, h3⟩ := h.el hi
  refine (timeoutE h1 hc.ok hc.em hc.ep hc.pe now hnow).mono ?_
  rintro e W' ⟨rfl, D⟩
  refine ⟨_, rfl, ?_⟩
  have := h3 _ _ D.out
  rw [h2] at this
  exact this
theorem viewG {w : World} {c : Cf} {N : Nat} {eb g : Nat → Nat} {rb : Nat} {pb : Nat → Prop} {s : Nat → Ev} {W : World} (h : GL w c N eb g rb pb s W) {i : Nat} (hi : i < N) (n : Nat) (m : Int) (hn : (s i).num = n) (hm : (s i).node = m) :
    Calls Try.prog 16 #[.pointer (some ⟨eb i, 0, none⟩)] W fun e W' => e = .returned (.agg #[.int .u64 (n : Nat), .int .i64 m]) ∧ Hid (GL w c N eb g rb pb s W' ∧ Kp pb W W') := by
  obtain ⟨x, h1, h2, h3⟩ := h.el hi
  have e1 : x.num = n := by rw [← hn, ← h2]; rfl
  have e2 : x.node = m := by rw [← hm, ← h2]; rfl
  rw [← e1, ← e2]
  refine (viewE h1).mono ?_
  rintro e W' ⟨rfl, D⟩
  exact ⟨rfl, h.kept D, Kp.below D⟩
theorem suspectingG {w : World} {c : Cf} {N : Nat} {eb g : Nat → Nat} {rb : Nat} {pb : Nat → Prop} {s : Nat → Ev} {W : World} (h : GL w c N eb g rb pb s W) {i : Nat} (hi : i < N) (hi2 : i < 32) (z : Bool) (hz : (s i).sus.testBit i = z) :
    Calls Try.prog 13 #[.pointer (some ⟨eb i, 0, none⟩)] W fun e W' => e = .returned (.bool z) ∧ Hid (GL w c N eb g rb pb s W' ∧ Kp pb W W') := by
  obtain ⟨x, h1, h2, h3⟩ := h.el hi
  have e1 : x.sus.testBit i = z := by rw [← hz, ← h2]; rfl
  rw [← e1]
  refine (suspectingE h1 hi2).mono ?_
  rintro e W' ⟨rfl, D⟩
  exact ⟨rfl, h.kept D, Kp.below D⟩
theorem beatG {w : World} {c : Cf} {N : Nat} {eb g : Nat → Nat} {rb : Nat} {pb : Nat → Prop} {s : Nat → Ev} {W : World} (h : GL w c N eb g rb pb s W) (hc : OkC c) {i : Nat} (hi : i < N) (src : Nat) (hsrc : src < 18446744073709551616) {cs : List Value} {kind : Int} {num : Nat} {node : Int} {susp : Bool} (hm : MsgC cs kind num node susp) (now : Nat) (hnow : now < 18446744073709551616) :
    Calls Try.prog 40 #[.pointer (some ⟨eb i, 0, none⟩), .int .u64 (src : Nat), .agg cs.toArray, .int .u64 (now : Nat)] W fun e W' => e = .returned (.bool (Ev.beat c (s i) src kind num node susp now).2) ∧ Hid (GL w c N eb g rb pb (up s i (Ev.beat c (s i) src kind num node susp now).1) W' ∧ Kp pb W W') := by
  obtain ⟨x, h1, h2, h3⟩ := h.el hi
  refine (beatE h1 hc.ok hc.em src hsrc hm now hnow).mono ?_
  rintro e W' ⟨rfl, D⟩
  refine ⟨by rw [h2], ?_⟩
  have := h3 _ _ D.out
  rw [h2] at this
  exact this
theorem quorumG {w : World} {c : Cf} {N : Nat} {eb g : Nat → Nat} {rb : Nat} {pb : Nat → Prop} {s : Nat → Ev} {W : World} (h : GL w c N eb g rb pb s W) (hc : OkC c) {i : Nat} (hi : i < N) (now : Nat) (hnow : now < 18446744073709551616) (hm : (s i).num < c.mn) :
    Calls Try.prog 41 #[.pointer (some ⟨eb i, 0, none⟩), .int .u64 (now : Nat)] W fun e W' => ∃ z, e = .returned (.bool z) ∧ Hid (GL w c N eb g rb pb (up s i (qrm c now s i)) W' ∧ Kp pb W W') := by
  obtain ⟨x, h1, h2, h3⟩ := h.el hi
  have e1 : x.num < c.mn := by rw [← h2] at hm; exact hm
  refine (quorumE h1 hc.ok hc.em now hnow (fun k => by omega)).mono ?_
  rintro e W' ⟨rfl, D⟩
  refine ⟨_, rfl, ?_⟩
  have := h3 _ _ D.out
  rw [h2] at this
  exact this
end Go.Proofs.Ytkdciomijemmiaa
namespace Go.Proofs.Ytkdciomijemmiaa
open Go.RowKit Crc

set_option maxRecDepth 10000 in
set_option maxHeartbeats 400000 in
theorem belowI (n1 m1 n2 m2 : Int) (w : World) (z : Bool) (hz : z = (decide (n1 < n2) || (decide (n1 = n2) && decide (m1 < m2)))) :
    Calls Try.prog 17 #[.agg #[.int .u64 n1, .int .i64 m1], .agg #[.int .u64 n2, .int .i64 m2]] w fun e w' => e = .returned (.bool z) ∧ Hid (Below w.heap.size w w') := by
  have hB : Hid (∀ o1 o2, Below w.heap.size w ((w.alloc o1).alloc o2)) := fun o1 o2 => ((Below.refl _ _).alloc (Nat.le_refl _) _).alloc (by simp) _
  by_cases h1 : n1 < n2
  · have HZ : Hid (z = true) := by show z = true; rw [hz]; simp [h1]
    clear hz
    go_enter Try.func17, Try.ntmps17
    go_wp2
    go_ret
    exact ⟨by rw [HZ.out]; rfl, hB.out _ _⟩
  · by_cases h2 : n1 = n2
    · subst h2
      by_cases h3 : m1 < m2
      · have HZ : Hid (z = true) := by show z = true; rw [hz]; simp [h3]
        clear hz
        go_enter Try.func17, Try.ntmps17
        go_wp2
        go_ret
        exact ⟨by rw [HZ.out]; rfl, hB.out _ _⟩
      · have HZ : Hid (z = false) := by show z = false; rw [hz]; simp [h3]
        clear hz
        go_enter Try.func17, Try.ntmps17
        go_wp2
        go_ret
        exact ⟨by rw [HZ.out]; rfl, hB.out _ _⟩
    · have HZ : Hid (z = false) := by show z = false; rw [hz]; simp [h1, h2]
      clear hz
      go_enter Try.func17, Try.ntmps17
      go_wp2
      go_ret
      exact ⟨by rw [HZ.out]; rfl, hB.out _ _⟩
theorem belowL (v u : Nat × Int) (w : World) (z : Bool) (hz : z = true ↔ vlt v u) :
    Calls Try.prog 17 #[.agg #[.int .u64 (v.1 : Int), .int .i64 v.2], .agg #[.int .u64 (u.1 : Int), .int .i64 u.2]] w fun e w' => e = .returned (.bool z) ∧ Hid (Below w.heap.size w w') := by
  refine belowI _ _ _ _ w z ?_
  unfold vlt at hz
  cases z
  · have : ¬ (v.1 < u.1 ∨ v.1 = u.1 ∧ v.2 < u.2) := fun k => by have := hz.2 k; cases this
    symm
    simp
    omega
  · have := hz.1 rfl
    symm
    simp
    omega
end Go.Proofs.Ytkdciomijemmiaa
namespace Go.Proofs.Ytkdciomijemmiaa
open Go.RowKit Crc

/-- The states, the first k of them already others. -/
def mix (k : Nat) (a s : Nat → Ev) : Nat → Ev := fun j => if j < k then a j else s j
theorem mix_up (k : Nat) (a s : Nat → Ev) : up (mix k a s) k (a k) = mix (k + 1) a s := by
  funext j
  unfold up mix
  by_cases h : j = k
  · subst h; rw [if_pos rfl, if_pos (by omega)]
  · rw [if_neg h]
    by_cases h2 : j < k
    · rw [if_pos h2, if_pos (by omega)]
    · rw [if_neg h2, if_neg (by omega)]
theorem mix_zero (a s : Nat → Ev) : mix 0 a s = s := by funext j; unfold mix; rw [if_neg (by omega)]
theorem mix_at (k : Nat) (a s : Nat → Ev) : mix k a s k = s k := by unfold mix; rw [if_neg (by omega)]
theorem GL.all {w : World} {c : Cf} {N : Nat} {eb g : Nat → Nat} {rb : Nat} {pb : Nat → Prop} {a s : Nat → Ev} {W : World} (h : GL w c N eb g rb pb (mix N a s) W) : GL w c N eb g rb pb a W := h.congr (fun i hi => by unfold mix; rw [if_pos hi])
theorem timeoutM {w : World} {c : Cf} {N : Nat} {eb g : Nat → Nat} {rb : Nat} {pb : Nat → Prop} {s : Nat → Ev} {W : World} {i now : Nat} (h : GL w c N eb g rb pb (mix i (tmo c now s) s) W) (hc : OkC c) (hi : i < N) (hnow : now < 18446744073709551616) :
    Calls Try.prog 12 #[.pointer (some ⟨eb i, 0, none⟩), .int .u64 (now : Nat)] W fun e W' => ∃ z, e = .returned (.bool z) ∧ Hid (GL w c N eb g rb pb (mix (i + 1) (tmo c now s) s) W' ∧ Kp pb W W') := by
  refine (timeoutG h hc hi now hnow).mono ?_
  rintro e W' ⟨z, rfl, D⟩
  refine ⟨z, rfl, ?_⟩
  have ⟨this, kp⟩ := D.out
  have e : tmo c now (mix i (tmo c now s) s) i = tmo c now s i := by
    show (Ev.timeout c i (mix i (tmo c now s) s i) now).1 = _
    rw [mix_at]; rfl
  rw [e, mix_up] at this
  exact ⟨this, kp⟩
/-- What a beat answers. -/
def bz (c : Cf) (now : Nat) (s : Nat → Ev) (i j : Nat) : Bool := (Ev.beat c (s j) i 8 (s i).num (s i).node ((s i).sus.testBit i) now).2
theorem beatM {w : World} {c : Cf} {N : Nat} {eb g : Nat → Nat} {rb : Nat} {pb : Nat → Prop} {s : Nat → Ev} {W : World} {j now : Nat} (i : Nat) (h : GL w c N eb g rb pb (mix j (bt1 c now s i) s) W) (hc : OkC c) (hj : j < N) (hsrc : i < 18446744073709551616) {cs : List Value} (hm : MsgC cs 8 (s i).num (s i).node ((s i).sus.testBit i)) (hnow : now < 18446744073709551616) :
    Calls Try.prog 40 #[.pointer (some ⟨eb j, 0, none⟩), .int .u64 (i : Nat), .agg cs.toArray, .int .u64 (now : Nat)] W fun e W' => e = .returned (.bool (bz c now s i j)) ∧ Hid (GL w c N eb g rb pb (mix (j + 1) (bt1 c now s i) s) W' ∧ Kp pb W W') := by
  refine (beatG h hc hj i hsrc hm now hnow).mono ?_
  rintro e W' ⟨rfl, D⟩
  refine ⟨by rw [mix_at]; rfl, ?_⟩
  have ⟨this, kp⟩ := D.out
  rw [mix_at] at this
  have e : (Ev.beat c (s j) i 8 (s i).num (s i).node ((s i).sus.testBit i) now).1 = bt1 c now s i j := rfl
  rw [e, mix_up] at this
  exact ⟨this, kp⟩
theorem quorumM {w : World} {c : Cf} {N : Nat} {eb g : Nat → Nat} {rb : Nat} {pb : Nat → Prop} {s : Nat → Ev} {W : World} {i now : Nat} (h : GL w c N eb g rb pb (mix i (qrm c now s) s) W) (hc : OkC c) (hi : i < N) (hnow : now < 18446744073709551616) (hm : (s i).num < c.mn) :
    Calls Try.prog 41 #[.pointer (some ⟨eb i, 0, none⟩), .int .u64 (now : Nat)] W fun e W' => ∃ z, e = .returned (.bool z) ∧ Hid (GL w c N eb g rb pb (mix (i + 1) (qrm c now s) s) W' ∧ Kp pb W W') := by
  refine (quorumG h hc hi now hnow (by rw [mix_at]; exact hm)).mono ?_
  rintro e W' ⟨z, rfl, D⟩
  refine ⟨z, rfl, ?_⟩
  have ⟨this, kp⟩ := D.out
  have e : qrm c now (mix i (qrm c now s) s) i = qrm c now s i := by
    show (Ev.quorum c (mix i (qrm c now s) s i) now).1 = _
    rw [mix_at]; rfl
  rw [e, mix_up] at this
  exact ⟨this, kp⟩
end Go.Proofs.Ytkdciomijemmiaa
namespace Go.Proofs.Ytkdciomijemmiaa
open Go.RowKit

section
variable {P : Program} {ops : Array Oper} {Q : Exit → Act → World → Prop} {S0 : World → Prop} {S1 : Nat → Bool → World → Prop}

/-- Each operation but number jA (which makes a block) and number jS (which stores into it) keeps S0 and S1; jS leads from S1 p false to S1 p true. -/
def AllX (P : Program) (ops : Array Oper) (S0 : World → Prop) (S1 : Nat → Bool → World → Prop) (aF : Nat → Act) (jA jS : Nat) : Nat → List Oper → Prop
  | _, [] => True
  | k, o :: r => (if k = jA then True else if k = jS then ∀ p, StepFro P ops (S1 p false) (S1 p true) (aF p) o else o.dst ≠ none ∧ StepTo P ops S0 (aF 0) o ∧ ∀ p b, StepTo P ops (S1 p b) (aF p) o) ∧ AllX P ops S0 S1 aF jA jS (k + 1) r
theorem AllX.nil {aF : Nat → Act} {jA jS k : Nat} : AllX P ops S0 S1 aF jA jS k [] := trivial
theorem AllX.atA {aF : Nat → Act} {jA jS k : Nat} {o : Oper} {r : List Oper} (e : k = jA) (g : AllX P ops S0 S1 aF jA jS (k + 1) r) : AllX P ops S0 S1 aF jA jS k (o :: r) := ⟨by rw [if_pos e]; trivial, g⟩
theorem AllX.atS {aF : Nat → Act} {jA jS k : Nat} {o : Oper} {r : List Oper} (n : k ≠ jA) (e : k = jS) (h : ∀ p, StepFro P ops (S1 p false) (S1 p true) (aF p) o) (g : AllX P ops S0 S1 aF jA jS (k + 1) r) : AllX P ops S0 S1 aF jA jS k (o :: r) := ⟨by rw [if_neg n, if_pos e]; exact h, g⟩
theorem AllX.off {aF : Nat → Act} {jA jS k : Nat} {o : Oper} {r : List Oper} (n : k ≠ jA) (e : k ≠ jS) (hd : o.dst ≠ none) (h : StepTo P ops S0 (aF 0) o) (h1 : ∀ p b, StepTo P ops (S1 p b) (aF p) o) (g : AllX P ops S0 S1 aF jA jS (k + 1) r) : AllX P ops S0 S1 aF jA jS k (o :: r) := ⟨by rw [if_neg n, if_neg e]; exact ⟨hd, h, h1⟩, g⟩
theorem AllX.mem {aF : Nat → Act} {jA jS : Nat} : ∀ {l : List Oper} {k : Nat} (_ : AllX P ops S0 S1 aF jA jS k l) (i : Nat) (o : Oper), l[i]? = some o → if k + i = jA then True else if k + i = jS then ∀ p, StepFro P ops (S1 p false) (S1 p true) (aF p) o else o.dst ≠ none ∧ StepTo P ops S0 (aF 0) o ∧ ∀ p b, StepTo P ops (S1 p b) (aF p) o
  | [], _, _, _, _, h => by simp at h
  | x :: r, k, ⟨h1, _⟩, 0, o, h => by simp at h; subst h; exact h1
  | x :: r, k, ⟨_, h2⟩, i + 1, o, h => by
    have := AllX.mem h2 i o (by simpa using h)
    rw [show k + 1 + i = k + (i + 1) by omega] at this
    exact this
theorem unl_none {listed : Array Bool} (h : (unl ops listed).length ≤ 0) : Region.ready .any ops listed = [] := by
  have h0 : unl ops listed = [] := List.eq_nil_of_length_eq_zero (by omega)
  cases hr : Region.ready .any ops listed with
  | nil => rfl
  | cons x r =>
    have hx := mem_ready.1 (show x ∈ Region.ready .any ops listed by rw [hr]; simp)
    obtain ⟨hx1, o, ho, _⟩ := hx
    have : x ∈ unl ops listed := List.mem_filter.2 ⟨List.mem_range.2 (Array.getElem?_eq_some_iff.1 ho).1, by rw [hx1]; rfl⟩
    rw [h0] at this
    cases this
theorem any_assignA1 {aF : Nat → Act} {jA jS : Nat} (hjS : jS < ops.size) (hk : linOk ops = true) (hs : Region.noSelect ops = true) (hst : AllX P ops S0 S1 aF jA jS 0 ops.toList) (p : Nat) (hend : ∀ w, S1 p true w → Q .normal (aF p) w) :
    ∀ (fuel : Nat) (listed : Array Bool) (a : Act) (w : World), (unl ops listed).length ≤ fuel → listed.size = ops.size → PartAct ops (aF p) listed a → listed.getD jA false = true → S1 p (listed.getD jS false) w → wpAny P .any ops Q fuel listed a w := by
  intro fuel
  have fin : ∀ (listed : Array Bool) (a : Act) (w : World), listed.size = ops.size → PartAct ops (aF p) listed a → S1 p (listed.getD jS false) w → Region.ready .any ops listed = [] → Q .normal a w := fun listed a w hsz hp hS hr => by
    have hl := ready_nil hk hsz hr
    rw [hp.full hl]
    rw [hl jS _ (Array.getElem?_eq_getElem hjS)] at hS
    exact hend w hS
  induction fuel with
  | zero =>
    intro listed a w hf hsz hp _ hS
    have hr := unl_none hf
    exact ⟨hr, fin listed a w hsz hp hS hr⟩
  | succ fuel ih =>
    intro listed a w hf hsz hp hA hS
    refine ⟨fin listed a w hsz hp hS, fun i hi => ?_⟩
    obtain ⟨hun, o, ho, hall⟩ := mem_ready.1 hi
    have hns := Region.noSelect_spec hs
    obtain ⟨he, hw⟩ := hp.exec hk (fun cs b => hns i o cs b ho) ho hi
    have hlt : i < ops.size := (Array.getElem?_eq_some_iff.1 ho).1
    have hil : i < listed.size := by omega
    have hf0 : listed.getD i false = false := by simp [hil] at hun ⊢; exact hun
    have hiA : i ≠ jA := fun e => by rw [e, hA] at hf0; cases hf0
    have hso := hst.mem i o (by rw [← ho]; simp)
    rw [Nat.zero_add, if_neg hiA] at hso
    have hA' : (listed.setIfInBounds i true).getD jA false = true := by rw [getD_set_ne false hiA]; exact hA
    unfold wpOp
    simp only [ho]
    rw [hw]
    by_cases hij : i = jS
    · rw [if_pos hij] at hso
      subst hij
      have ht : (listed.setIfInBounds i true).getD i false = true := by simp [hil]
      rw [hf0] at hS
      have hso' := hso p
      rw [if_pos hso'.1]
      exact .inl (wp_part (S := S1 p true) he (hso'.2 w hS (fun a' w' => a' = aF p ∧ S1 p true w') (fun w' h' => ⟨rfl, h'⟩)) (fun v w' hv hS' => ih _ _ _ (by have := unl_set hlt hun; omega) (by simpa using hsz) (hp.next ho hv) hA' (by rw [ht]; exact hS')))
    · rw [if_neg hij] at hso
      have hb : (listed.setIfInBounds i true).getD jS false = listed.getD jS false := getD_set_ne false hij
      have next : ∀ v w', (aF p).put o.dst v = aF p → S1 p (listed.getD jS false) w' → wpAny P .any ops Q fuel (listed.setIfInBounds i true) (a.put o.dst v) w' := fun v w' hv hS' =>
        ih _ _ _ (by have := unl_set hlt hun; omega) (by simpa using hsz) (hp.next ho hv) hA' (by rw [hb]; exact hS')
      have hso' := hso.2.2 p (listed.getD jS false)
      unfold StepTo at hso'
      split
      · rename_i hwa
        rw [if_pos hwa] at hso'
        exact .inl (wp_part (S := S1 p (listed.getD jS false)) he (hso' w hS (fun a' w' => a' = aF p ∧ S1 p (listed.getD jS false) w') (fun w' h' => ⟨rfl, h'⟩)) next)
      · rename_i hwa
        rw [if_neg hwa] at hso'
        exact next undef w hso' hS
theorem put_comm (a : Act) {d e : Nat} (hd : d ≠ e) (u v : Value) : (a.put (some d) u).put (some e) v = (a.put (some e) v).put (some d) u := by
  unfold Act.put
  simp only
  congr 1
  rw [Array.setIfInBounds_comm]
  exact hd
theorem put_twice (a : Act) (d : Nat) (u : Value) : (a.put (some d) u).put (some d) u = a.put (some d) u := by
  unfold Act.put
  simp
/-- No operation but number jA writes slot sl. -/
def soleDst (ops : Array Oper) (jA sl : Nat) : Bool := (List.range ops.size).all fun i => i == jA || (match ops[i]? with | none => true | some o => o.dst != some sl)
theorem any_assignA0 {aF : Nat → Act} {jA jS sl : Nat} {oA : Oper} (hjS : jS < ops.size) (hwt : waits ops jS jA = true) (hk : linOk ops = true) (hs : Region.noSelect ops = true) (hoA : ops[jA]? = some oA) (hdA : oA.dst = some sl) (hgA : oA.guard = none) (hsole : soleDst ops jA sl = true)
    (hsl : ∀ p, aF p = (aF 0).put (some sl) (.pointer (some ⟨p, 0, none⟩))) (hrun : ∀ (a : Act) w, S0 w → ∃ w', (execOp a.eval oA).run P w = .ok (.value (.pointer (some ⟨w.heap.size, 0, none⟩))) w' ∧ S1 w.heap.size false w')
    (hst : AllX P ops S0 S1 aF jA jS 0 ops.toList) (hend : ∀ p w, S1 p true w → Q .normal (aF p) w) :
    ∀ (fuel : Nat) (listed : Array Bool) (a : Act) (w : World), (unl ops listed).length ≤ fuel → listed.size = ops.size → (∀ p, PartAct ops (aF p) listed a) → listed.getD jA false = false → listed.getD jS false = false → S0 w → wpAny P .any ops Q fuel listed a w := by
  intro fuel
  have fin : ∀ (listed : Array Bool) (a : Act) (w : World), listed.size = ops.size → listed.getD jA false = false → Region.ready .any ops listed = [] → Q .normal a w := fun listed a w hsz hA hr => by
    have hl := ready_nil hk hsz hr jA oA hoA
    rw [hA] at hl
    cases hl
  induction fuel with
  | zero =>
    intro listed a w hf hsz _ hA _ _
    have hr := unl_none hf
    exact ⟨hr, fin listed a w hsz hA hr⟩
  | succ fuel ih =>
    intro listed a w hf hsz hp hA hSl hS
    refine ⟨fin listed a w hsz hA, fun i hi => ?_⟩
    obtain ⟨hun, o, ho, hall⟩ := mem_ready.1 hi
    have hns := Region.noSelect_spec hs
    have hlt : i < ops.size := (Array.getElem?_eq_some_iff.1 ho).1
    have hil : i < listed.size := by omega
    by_cases hiA : i = jA
    · subst hiA
      rw [ho] at hoA
      cases hoA
      obtain ⟨w', hr, hS'⟩ := hrun a w hS
      have hjne : i ≠ jS := fun e => by
        unfold waits at hwt
        rw [← e, ho] at hwt
        simp only [Array.any_eq_true] at hwt
        obtain ⟨x, hx, h2⟩ := hwt
        rw [Bool.and_eq_true, beq_iff_eq] at h2
        have := (linOk_at hk ho).2 _ (Array.getElem_mem hx) h2.1
        omega
      have hw : Region.wanted oA (yielded ops a.tmps) = true := by simp [Region.wanted, hgA]
      unfold wpOp
      simp only [ho]
      rw [if_pos hw]
      left
      unfold Oper.wp
      rw [hr]
      simp only [Oper.upon]
      have hv : (aF w.heap.size).put oA.dst (.pointer (some ⟨w.heap.size, 0, none⟩)) = aF w.heap.size := by
        rw [hdA, hsl w.heap.size, put_twice]
      refine any_assignA1 hjS hk hs hst w.heap.size (hend _) _ _ _ _ (by have := unl_set hlt hun; omega) (by simpa using hsz) ((hp w.heap.size).next ho hv) (by simp [hil]) ?_
      rw [getD_set_ne false hjne, hSl]
      exact hS'
    · have hso := hst.mem i o (by rw [← ho]; simp)
      rw [Nat.zero_add, if_neg hiA] at hso
      have hA' : (listed.setIfInBounds i true).getD jA false = false := by rw [getD_set_ne false hiA]; exact hA
      by_cases hij : i = jS
      · exfalso
        subst hij
        unfold waits at hwt
        rw [ho] at hwt
        simp only [Array.any_eq_true] at hwt
        obtain ⟨x, hx, h2⟩ := hwt
        rw [Bool.and_eq_true, beq_iff_eq] at h2
        have := hall _ (Array.getElem_mem hx) h2.1
        rw [h2.2, hA] at this
        cases this
      · rw [if_neg hij] at hso
        obtain ⟨he, hw⟩ := (hp 0).exec hk (fun cs b => hns i o cs b ho) ho hi
        have hne : o.dst ≠ some sl := by
          have h1 := List.all_eq_true.1 hsole i (List.mem_range.2 hlt)
          simp only [ho] at h1
          simpa [hiA] using h1
        have hb : (listed.setIfInBounds i true).getD jS false = false := by rw [getD_set_ne false hij]; exact hSl
        have next : ∀ v w', (aF 0).put o.dst v = aF 0 → S0 w' → wpAny P .any ops Q fuel (listed.setIfInBounds i true) (a.put o.dst v) w' := fun v w' hv hS' =>
          ih _ _ _ (by have := unl_set hlt hun; omega) (by simpa using hsz) (fun p => (hp p).next ho (by
            obtain ⟨d, hd⟩ : ∃ d, o.dst = some d := by
              cases h : o.dst with
              | none => exact absurd h hso.1
              | some d => exact ⟨d, rfl⟩
            rw [hd] at hv hne ⊢
            rw [hsl p, put_comm _ (fun e => hne (by rw [e])), hv])) hA' hb hS'
        have hso' := hso.2.1
        unfold wpOp
        simp only [ho]
        rw [hw]
        unfold StepTo at hso'
        split
        · rename_i hwa
          rw [if_pos hwa] at hso'
          exact .inl (wp_part (S := S0) he (hso' w hS (fun a' w' => a' = aF 0 ∧ S0 w') (fun w' h' => ⟨rfl, h'⟩)) next)
        · rename_i hwa
          rw [if_neg hwa] at hso'
          exact next undef w hso' hS
/-- As region_assign, with an operation (number jA) that makes a block, to which its slot sl points, and one (number jS) that stores into it: S0 ahead of the making, S1 p false ahead of the store, S1 p true behind it. -/
theorem region_assignA {id : Nat} {a : Act} {w : World} (S0 : World → Prop) (S1 : Nat → Bool → World → Prop) (jA jS sl : Nat) (oA : Oper) (vs : List (Nat × Value)) (aF : Nat → Act) (hm : P.follows .mixedOrders = true) (hjS : jS < ops.size) (hwt : waits ops jS jA = true) (hk : linOk ops = true) (hs : Region.noSelect ops = true)
    (hoA : ops[jA]? = some oA) (hdA : oA.dst = some sl) (hgA : oA.guard = none) (hsole : soleDst ops jA sl = true)
    (hv : (vs.all fun p => ops.any fun o => o.dst == some p.1) = true) (hF : ∀ p, (putAll a vs).put (some sl) (.pointer (some ⟨p, 0, none⟩)) = aF p) (hS : S0 w.drew)
    (hrun : ∀ (a : Act) w, S0 w → ∃ w', (execOp a.eval oA).run P w = .ok (.value (.pointer (some ⟨w.heap.size, 0, none⟩))) w' ∧ S1 w.heap.size false w')
    (hst : AllX P ops S0 S1 aF jA jS 0 ops.toList) (hend : ∀ p w, S1 p true w → Q .normal (aF p) w) : (Code.region id ops true).wp P Q a w := by
  have e : ∀ j, (Array.replicate ops.size false).getD j false = false := fun j => by
    rw [Array.getD_eq_getD_getElem?, Array.getElem?_replicate]
    split <;> rfl
  have hsl : ∀ p, aF p = (aF 0).put (some sl) (.pointer (some ⟨p, 0, none⟩)) := fun p => by
    rw [← hF p, ← hF 0]
    unfold Act.put
    simp
  refine wp_region_any hm (any_assignA0 hjS hwt hk hs hoA hdA hgA hsole hsl hrun hst hend _ _ _ _ ?_ (by simp) (fun p => ?_) (e _) (e _) hS)
  · unfold unl
    exact Nat.le_trans (List.length_filter_le _ _) (by simp)
  · obtain ⟨h1, h2, h3⟩ := putAll_part (vs ++ [(sl, .pointer (some ⟨p, 0, none⟩))]) a
    have hpa : putAll a (vs ++ [(sl, .pointer (some ⟨p, 0, none⟩))]) = aF p := by
      rw [← hF p]
      clear h1 h2 h3 hv hF hsl hend hst hrun
      induction vs generalizing a with
      | nil => rfl
      | cons x r ih => exact ih
    rw [hpa] at h1 h2 h3
    refine ⟨h1.symm, h2.symm, fun t ht => (h3 t (fun p hp e => ?_)).symm⟩
    have h4 : (ops.any fun o => o.dst == some p.1) = true := by
      rcases List.mem_append.1 hp with hp | hp
      · exact List.all_eq_true.1 hv p hp
      · have : p.1 = sl := by simp at hp; rw [hp]
        rw [this, Array.any_eq_true]
        obtain ⟨h5, h6⟩ := Array.getElem?_eq_some_iff.1 hoA
        exact ⟨jA, h5, by rw [h6, hdA]; simp⟩
    rw [Array.any_eq_true] at h4
    obtain ⟨k, hk', h5⟩ := h4
    have h6 := ht k ops[k] (Array.getElem?_eq_getElem hk') (by rw [← e]; simpa using h5)
    simp at h6
    have := h6
    rw [Array.getElem?_replicate] at this
    split at this <;> simp at this
end
end Go.Proofs.Ytkdciomijemmiaa
namespace Go.Proofs.Ytkdciomijemmiaa
open Go.RowKit Crc

theorem setCells_blockT {t : TypeId} (b : Nat) : ∀ (vs : List Value) (o : Nat) (w : World) (C : Array Value), w.heap[b]? = some (.cells C t (0, 0)) → ∃ C' : Array Value, (w.setCells b o vs).heap[b]? = some (.cells C' t (0, 0)) ∧ C'.size = C.size
  | [], _, w, C, h => ⟨C, h, rfl⟩
  | v :: r, o, w, C, h => by
    rw [World.setCells]
    have h1 := heap_setCell_same w b o _ _ v h
    obtain ⟨C', h2, h3⟩ := setCells_blockT b r (o + 1) _ _ h1
    exact ⟨C', h2, by rw [h3]; simp⟩
theorem block_of_rangeT {W : World} {b : Nat} {C : Array Value} {t : TypeId} {cs : List Value} (hb : W.heap[b]? = some (.cells C t (0, 0))) (hs : C.size = cs.length) (hr : W.rangeAt b 0 cs) : W.heap[b]? = some (.cells cs.toArray t (0, 0)) := by
  have e : C = cs.toArray := by
    refine Array.ext (by simpa using hs) (fun i h1 h2 => ?_)
    have h3 := hr i _ (List.getElem?_eq_getElem (by simpa using h2))
    rw [Nat.zero_add, block_cell hb i, Array.getElem?_eq_getElem h1] at h3
    simpa using h3
  rw [← e]
  exact hb
theorem range_of_block {W : World} {b : Nat} {t : TypeId} {cs : List Value} (hb : W.heap[b]? = some (.cells cs.toArray t (0, 0))) : W.rangeAt b 0 cs := fun j v hv => by
  rw [Nat.zero_add, block_cell hb j]
  simpa using hv
/-- A store of a whole struct into its block. -/
theorem wp_store_boxT {P : Program} {op : Oper} {a : Act} {w : World} {K : Act → World → Prop} {Q : Exit → Act → World → Prop} (ty : TypeId) (x y : Operand) (ho : op.op = .store ty x y)
    (p : Nat) (C : Array Value) (t : TypeId) (hb : w.heap[p]? = some (.cells C t (0, 0))) (cs : List Value) (hx : a.eval x = .pointer (some ⟨p, 0, none⟩)) (hy : a.eval y = .agg cs.toArray)
    (hz : cs.length = C.size) (hi : (P.info? ty).map (·.size) = some cs.length) (h1 : ∀ v ∈ cs, v.oneCell' = true)
    (h : ∀ W, w.grownBy W (some p) → W.heap[p]? = some (.cells cs.toArray t (0, 0)) → K (a.put op.dst undef) W) : op.wp P a w K Q := by
  have ht : w.there p 0 cs.length := fun j hj => by
    rw [Nat.zero_add, block_cell hb j]
    exact ⟨by rw [Array.getElem?_eq_getElem (by omega)]; rfl, block_free hb j⟩
  refine wp_store_mid ty x y ho p 0 cs.toArray hx hy (by simpa using ht) (by simpa using hi) (all_oneCell_toArray h1) ?_
  have g := grown_setCells p cs.toArray.toList 0 w
  obtain ⟨C', h2, h3⟩ := setCells_blockT p cs.toArray.toList 0 w C hb
  exact h _ g (block_of_rangeT h2 (by omega) (World.rangeAt_setCells_same _ _ _ _ ht))
theorem GL.turn {w : World} {c : Cf} {N : Nat} {eb g : Nat → Nat} {rb : Nat} {pb : Nat → Prop} {s : Nat → Ev} {V V' : World} (h : GL w c N eb g rb pb s V) {p : Nat} {C : Array Value} {u : TypeId} (hp : V.heap[p]? = some (.cells C u (0, 0))) (hu : ¬ Tt u) (hu2 : u ≠ 28) (hu3 : u ≠ 105) (hpw : w.heap.size ≤ p) (gr : V.grownBy V' (some p)) : GL w c N eb g rb pb s V' := by
  obtain ⟨cs, h1, h2⟩ := h.row
  obtain ⟨x, hpb, h3, h4⟩ := h.ex
  have f : Fe V V' (fun b => b = p) := Fe.grown gr (fun x e => (Option.some.inj e).symm)
  refine ⟨h.bel.trans (f.toBelow _ h.bel.size (fun j e => by rw [e]; exact hpw)), ⟨cs, (f.block _ (block_lt h1) (fun e => ?_)).trans h1, h2⟩, fun b k => Nat.lt_of_lt_of_le (h.plt b k) f.size, x, hpb, fun i hi => ?_, h4⟩
  · rw [e, hp] at h1
    cases h1
    exact hu2 rfl
  · obtain ⟨f1, f2, f3⟩ := h3 i hi
    refine ⟨f1.fe f (fun b hb e => ?_) (fun e => ?_) (fun e => ?_), f2, f3⟩
    · subst e
      exact hu (f1.ty_ne (.inr hb) hp)
    · have := f1.blk
      rw [e, hp] at this
      cases this
      exact hu (.inl rfl)
    · have := f1.grp
      rw [e, hp] at this
      cases this
      exact hu3 rfl
theorem Kp.turn {pb : Nat → Prop} {W V V' : World} (h : Kp pb W V) {p : Nat} (hp : W.heap.size ≤ p) (gr : V.grownBy V' (some p)) : Kp pb W V' :=
  ⟨Nat.le_trans h.size gr.size, fun b cs t hb ht => (gr.block b (block_lt (h.keep b cs t hb ht)) (fun e => by have := block_lt hb; cases e; omega)).trans (h.keep b cs t hb ht)⟩

/-- A message with a kind, a ballot and a suspicion alone. -/
def msgT (ki : Int) (nu : Int) (no : Int) (sb : Bool) : List Value := Value.int .i64 ki :: .int .u64 nu :: .int .i64 no :: .int .u64 0 :: .int .u64 0 :: .slice none 0 0 :: .int .u64 0 :: .slice none 0 0 :: .int .u64 0 :: .int .u64 0 :: .int .i64 0 :: .slice none 0 0 :: .slice none 0 0 :: .bool sb :: .int .u64 0 :: .int .u64 0 :: .int .u8 0 :: .int .u8 0 :: .int .u8 0 :: .int .u8 0 :: .int .u8 0 :: .int .u8 0 :: .int .u8 0 :: .int .u8 0 :: .int .u8 0 :: .int .u8 0 :: .int .u8 0 :: .int .u8 0 :: .int .u8 0 :: .int .u8 0 :: .int .u8 0 :: .int .u8 0 :: .int .u8 0 :: .int .u8 0 :: .int .u8 0 :: .int .u8 0 :: .int .u8 0 :: .int .u8 0 :: .int .u8 0 :: .int .u8 0 :: .int .u8 0 :: .int .u8 0 :: .int .u8 0 :: .int .u8 0 :: .int .u8 0 :: .int .u8 0 :: .int .u8 0 :: .int .u8 0 :: .slice none 0 0 :: []
theorem build_msgT (nu no : Int) (sb : Bool) (w : World) : (Instr.build 62 #[(0, .int .i64 8), (1, .agg #[.int .u64 nu, .int .i64 no]), (11, .bool sb)]).run Try.prog w = .ok (.agg (msgT 8 nu no sb).toArray) w := by kernel_rfl
theorem msgT_one (ki nu no : Int) (sb : Bool) : ∀ v ∈ msgT ki nu no sb, v.oneCell' = true := List.all_eq_true.1 rfl
theorem msgT_len (ki nu no : Int) (sb : Bool) : (msgT ki nu no sb).length = 49 := rfl
theorem msgT_c (ki : Int) (nu : Nat) (no : Int) (sb : Bool) (h : nu < 18446744073709551616) : MsgC (msgT ki (nu : Nat) no sb) ki nu no sb := ⟨rfl, rfl, rfl, rfl, rfl, h⟩
theorem alloc_msgT (a : Act) (w : World) (dst : Option Nat) (ps : String) (af : Array Edge) : (execOp a.eval { dst := dst, op := Op.alloc 62, type := 0, pos := ps, after := af, guard := none }).run Try.prog w = .ok (.value (.pointer (some ⟨w.heap.size, 0, none⟩))) (w.alloc (.cells (msgT 0 0 0 false).toArray 62)) := by kernel_rfl
end Go.Proofs.Ytkdciomijemmiaa
namespace Go.Proofs.Ytkdciomijemmiaa
open Go.RowKit Crc

/-- How it stands in the round of a tick's second loop: ahead of the message's block, and behind it (p: the block; b: it is filled). -/
def Xt (w : World) (c : Cf) (N : Nat) (eb g : Nat → Nat) (rb : Nat) (pb : Nat → Prop) (S : Nat → Ev) (W : World) (ms : List Value) : Option (Nat × Bool) → World → Prop
  | none, V => GL w c N eb g rb pb S V ∧ Kp pb W V
  | some (p, b), V => (GL w c N eb g rb pb S V ∧ Kp pb W V) ∧ W.heap.size ≤ p ∧ V.heap[p]? = some (.cells (if b = true then ms else msgT 0 0 0 false).toArray 62 (0, 0))
theorem Xt.gl {w : World} {c : Cf} {N : Nat} {eb g : Nat → Nat} {rb : Nat} {pb : Nat → Prop} {S : Nat → Ev} {W : World} {ms : List Value} {o : Option (Nat × Bool)} {V : World} (h : Xt w c N eb g rb pb S W ms o V) : GL w c N eb g rb pb S V ∧ Kp pb W V := by
  cases o with
  | none => exact h
  | some pb => exact h.1
theorem notTt_msg : ¬ Tt 62 := by unfold Tt; decide
theorem Xt.next {w : World} {c : Cf} {N : Nat} {eb g : Nat → Nat} {rb : Nat} {pb : Nat → Prop} {S : Nat → Ev} {W : World} {ms : List Value} {o : Option (Nat × Bool)} {V V' : World} (h : Xt w c N eb g rb pb S W ms o V) (hg : GL w c N eb g rb pb S V') (hk : Kp pb V V') : Xt w c N eb g rb pb S W ms o V' := by
  cases o with
  | none => exact ⟨hg, h.2.trans hk⟩
  | some pb => exact ⟨⟨hg, h.1.2.trans hk⟩, h.2.1, hk.keep _ _ _ h.2.2 (.inl notTt_msg)⟩
theorem Xt.made {w : World} {c : Cf} {N : Nat} {eb g : Nat → Nat} {rb : Nat} {pb : Nat → Prop} {S : Nat → Ev} {W : World} {ms : List Value} {V : World} (h : Xt w c N eb g rb pb S W ms none V) : Xt w c N eb g rb pb S W ms (some (V.heap.size, false)) (V.alloc (.cells (msgT 0 0 0 false).toArray 62)) := by
  have hb : Below V.heap.size V (V.alloc (.cells (msgT 0 0 0 false).toArray 62)) := (Below.refl _ V).alloc (Nat.le_refl _) _
  exact ⟨⟨h.1.kept hb, h.2.trans (Kp.below hb)⟩, h.2.size, alloc_atK _ _⟩
theorem Xt.stored {w : World} {c : Cf} {N : Nat} {eb g : Nat → Nat} {rb : Nat} {pb : Nat → Prop} {S : Nat → Ev} {W : World} {ms : List Value} {p : Nat} {V V' : World} (hw : w.heap.size ≤ W.heap.size) (h : Xt w c N eb g rb pb S W ms (some (p, false)) V) (gr : V.grownBy V' (some p)) (hb : V'.heap[p]? = some (.cells ms.toArray 62 (0, 0))) : Xt w c N eb g rb pb S W ms (some (p, true)) V' :=
  ⟨⟨h.1.1.turn h.2.2 notTt_msg (by decide) (by decide) (Nat.le_trans hw h.2.1) gr, h.1.2.turn h.2.1 gr⟩, h.2.1, hb⟩
theorem GL.num {w : World} {c : Cf} {N : Nat} {eb g : Nat → Nat} {rb : Nat} {pb : Nat → Prop} {S : Nat → Ev} {V : World} (h : GL w c N eb g rb pb S V) (hc : OkC c) {i : Nat} (hi : i < N) : (S i).num < 18446744073709551616 ∧ okV c (S i).vw := by
  obtain ⟨x, h1, h2, _⟩ := h.el hi
  have e1 : x.num = (S i).num := by rw [← h2]; rfl
  have e2 : x.node = (S i).node := by rw [← h2]; rfl
  have v := h1.va
  have n := h1.n1
  rw [e1] at n
  rw [e1, e2] at v
  have := ((valid_node n).1 v).1
  have := hc.ok.mn2
  exact ⟨by omega, n, v⟩
end Go.Proofs.Ytkdciomijemmiaa
namespace Go.Proofs.Ytkdciomijemmiaa
open Go.RowKit Crc
set_option maxRecDepth 10000 in
set_option maxHeartbeats 1600000 in
theorem tickL {w : World} {c : Cf} {N : Nat} {eb g : Nat → Nat} {rb : Nat} {pb : Nat → Prop} {s : Nat → Ev} {W : World} (h : GL w c N eb g rb pb s W) (hc : OkC c) (hN : N ≤ 4) (cap : Nat) (hcap : N ≤ cap) (hcap2 : cap ≤ 9223372036854775807) (now : Nat) (hnow : now < 18446744073709551616) (hmn : ∀ i, i < N → (bts c now (tmo c now s) N i).num < c.mn) :
    Calls Try.prog 22 #[.slice (some ⟨rb, 0, none⟩) N cap, .int .u64 (now : Nat)] W fun e W' => e = .returned (.tuple #[]) ∧ Hid (GL w c N eb g rb pb (tickF c now N s) W' ∧ Kp pb W W') := by
  have HSZ := hide h.bel.size
  have HG := hide h
  have HC := hide hc
  have HM := hide hmn
  have HNW := hide hnow
  clear h hc hmn hnow
  go_enter Try.func22, Try.ntmps22
  go_upto_block 0 with fail
  go_cut [4, 5, 6, 7, 8] from 9 (fun _ _ _ _ _ V => Hid (GL w c N eb g rb pb (tmo c now s) V ∧ Kp pb W V))
  case first =>
    go_wp2
    go_loopw [4] (fun i wr => ∃ k : Nat, k ≤ N ∧ i = .int .i64 k ∧ Hid (GL w c N eb g rb pb (mix k (tmo c now s) s) wr ∧ Kp pb W wr)) (fun i _ => N - (intOf i).toNat)
    case atStart => exact ⟨0, by omega, rfl, by rw [mix_zero]; exact ⟨HG.out, Kp.refl _ _⟩⟩
    case round =>
      obtain ⟨k, hk, rfl, HQ⟩ := hrel
      clear HG
      by_cases hlt : k < N
      · have d1 : decide ((k : Int) < (N : Int)) = true := decide_eq_true (by omega)
        obtain ⟨c0, cl⟩ := HQ.out.1.cell hlt
        have H1 := hide (timeoutM HQ.out.1 HC.out hlt HNW.out)
        have HK := hide HQ.out.2
        clear HQ
        go_wp2_with fail
        refine H1.out.mono ?_
        rintro e w3 ⟨z, rfl, Q3⟩
        clear c0 cl H1
        go_wp2
        exact ⟨⟨k + 1, by omega, by congr 1, Q3.out.1, HK.out.trans Q3.out.2⟩, by simp only [intOf]; omega⟩
      · have d1 : decide ((k : Int) < (N : Int)) = false := decide_eq_false (by omega)
        have : k = N := by omega
        subst this
        go_wp2
        go_meet
        case rel => exact ⟨HQ.out.1.all, HQ.out.2⟩
  case rest =>
  have HQ1 := hcut
  clear hcut HG
  go_upto_block 2 with fail
  go_cut [4, 5, 6, 7, 8] from 9 (fun _ _ _ _ _ V => Hid (GL w c N eb g rb pb (bts c now (tmo c now s) N) V ∧ Kp pb W V))
  case first =>
    generalize tmo c now s = s1 at *
    go_wp2
    go_loopw [5] (fun i wr => ∃ k : Nat, k ≤ N ∧ i = .int .i64 k ∧ Hid (GL w c N eb g rb pb (bts c now s1 k) wr ∧ Kp pb W wr)) (fun i _ => N - (intOf i).toNat)
    case atStart => exact ⟨0, by omega, rfl, HQ1.out⟩
    case round =>
      obtain ⟨k, hk, rfl, HQ⟩ := hrel
      clear HQ1
      by_cases hlt : k < N
      · have d1 : decide ((k : Int) < (N : Int)) = true := decide_eq_true (by omega)
        obtain ⟨c0, cl⟩ := HQ.out.1.cell hlt
        go_upto_region 7 with fail
        generalize hSS : bts c now s1 k = S at *
        have HSS := hide hSS
        clear hSS c0 cl
        obtain ⟨hnum, hok⟩ := HQ.out.1.num HC.out hlt
        have HMC := hide (msgT_c 8 (S k).num (S k).node ((S k).sus.testBit k) hnum)
        obtain ⟨MS, hMS⟩ : ∃ MS, msgT 8 ((S k).num : Nat) (S k).node ((S k).sus.testBit k) = MS := ⟨_, rfl⟩
        have M1 : Hid (∀ v ∈ MS, v.oneCell' = true) := by show ∀ v ∈ MS, _; rw [← hMS]; exact msgT_one _ _ _ _
        have M2 : Hid (MS.length = 49) := by show MS.length = 49; rw [← hMS]; rfl
        have KD : Hid (∀ o V, Xt w c N eb g rb pb S W MS o V → V.cell? ⟨rb, k, none⟩ = some (.pointer (some ⟨eb k, 0, none⟩)) ∧ rb < V.heap.size) := fun o V h => h.gl.1.cell hlt
        have KV : Hid (∀ o V, Xt w c N eb g rb pb S W MS o V → Calls Try.prog 16 #[.pointer (some ⟨eb k, 0, none⟩)] V fun e V' => e = .returned (.agg #[.int .u64 ((S k).num : Nat), .int .i64 (S k).node]) ∧ Hid (Xt w c N eb g rb pb S W MS o V')) := fun o V h => by
          refine (viewG h.gl.1 hlt _ _ rfl rfl).mono ?_
          rintro e V' ⟨rfl, D⟩
          exact ⟨rfl, h.next D.out.1 D.out.2⟩
        have KS : Hid (∀ o V, Xt w c N eb g rb pb S W MS o V → Calls Try.prog 13 #[.pointer (some ⟨eb k, 0, none⟩)] V fun e V' => e = .returned (.bool ((S k).sus.testBit k)) ∧ Hid (Xt w c N eb g rb pb S W MS o V')) := fun o V h => by
          refine (suspectingG h.gl.1 hlt (by omega) _ rfl).mono ?_
          rintro e V' ⟨rfl, D⟩
          exact ⟨rfl, h.next D.out.1 D.out.2⟩
        have KA : Hid (∀ V, Xt w c N eb g rb pb S W MS none V → Xt w c N eb g rb pb S W MS (some (V.heap.size, false)) (V.alloc (.cells (msgT 0 0 0 false).toArray 62))) := fun V h => h.made
        have KT : Hid (∀ p V, Xt w c N eb g rb pb S W MS (some (p, false)) V → V.heap[p]? = some (.cells (msgT 0 0 0 false).toArray 62 (0, 0)) ∧ ∀ V', V.grownBy V' (some p) → V'.heap[p]? = some (.cells MS.toArray 62 (0, 0)) → Xt w c N eb g rb pb S W MS (some (p, true)) V') := fun p V h => ⟨h.2.2, fun V' gr hb => h.stored HSZ.out gr hb⟩
        have KF : Hid (∀ p V, Xt w c N eb g rb pb S W MS (some (p, true)) V → (GL w c N eb g rb pb S V ∧ Kp pb W V) ∧ W.heap.size ≤ p ∧ V.heap[p]? = some (.cells MS.toArray 62 (0, 0))) := fun p V h => h
        have X0 : Hid (Xt w c N eb g rb pb S W MS none wr.drew) := ⟨HQ.out.1.kept (Below.refl _ wr).drew, HQ.out.2.trans (Kp.below (Below.refl _ wr).drew)⟩
        have HBM : Hid (∀ V, (Instr.build 62 #[(0, .int .i64 8), (1, .agg #[.int .u64 ((S k).num : Nat), .int .i64 (S k).node]), (11, .bool ((S k).sus.testBit k))]).run Try.prog V = .ok (.agg MS.toArray) V) := fun V => by rw [← hMS]; exact build_msgT _ _ _ V
        generalize Xt w c N eb g rb pb S W MS = X at *
        rw [hMS] at HMC
        clear hMS
        generalize hnu : ((S k).num : Int) = nu at *
        generalize hno : (S k).node = no at *
        generalize hsb : (S k).sus.testBit k = sb at *
        refine region_assignA (fun V => Hid (X none V)) (fun p b V => Hid (X (some (p, b)) V)) 11 12 6 _ [(27, .slice (some ⟨rb, 0, none⟩) N cap), (28, .int .i64 (k : Nat)), (29, .pointer (some ⟨rb, k, none⟩)), (30, .pointer (some ⟨eb k, 0, none⟩)), (31, .agg #[.int .u64 nu, .int .i64 no]), (32, .slice (some ⟨rb, 0, none⟩) N cap), (33, .int .i64 (k : Nat)), (34, .pointer (some ⟨rb, k, none⟩)), (35, .pointer (some ⟨eb k, 0, none⟩)), (36, .bool sb), (37, .agg MS.toArray)] _ (by kernel_rfl) (by decide) (by kernel_rfl) (by kernel_rfl) (by kernel_rfl) rfl rfl rfl (by kernel_rfl) (by kernel_rfl) (fun _ => rfl) X0 (fun a V hV => ⟨_, by kernel_rfl, KA.out V hV.out⟩) ?_ (fun p V hV => ?_)
        · simp only [putAll, Act.put, List.setIfInBounds_toArray, List.set_cons_zero, List.set_cons_succ]
          repeat' (first | exact AllX.nil | refine AllX.atA rfl ?_ | refine AllX.atS (by decide) rfl ?_ ?_ | refine AllX.off (by decide) (by decide) (by simp) ?_ ?_ ?_)
          all_goals first
            | (intro p
               refine ⟨by rfl, fun V hV K hK => ?_⟩
               refine wp_store_boxT 62 _ _ rfl p _ _ (KT.out p V hV.out).1 MS rfl rfl (by rw [M2.out]; rfl) (by rw [M2.out]; rfl) M1.out (fun V' gr hb => ?_)
               exact hK.out _ ((KT.out p V hV.out).2 V' gr hb))
            | (refine stepTo_yes (by rfl) (fun V hV K hK => ?_)
               refine op_pure (v := .agg MS.toArray) (exec_build rfl ?_) ?_
               · simp only [List.map_toArray, List.map_cons, List.map_nil]
                 exact HBM.out V
               · exact hK.out _ hV)
            | (intro p b
               refine stepTo_yes (by rfl) (fun V hV K hK => ?_)
               refine op_pure (v := .agg MS.toArray) (exec_build rfl ?_) ?_
               · simp only [List.map_toArray, List.map_cons, List.map_nil]
                 exact HBM.out V
               · exact hK.out _ hV)
            | (refine stepTo_yes (by rfl) (fun V hV K hK => ?_)
               obtain ⟨q0, q1⟩ := KD.out _ V hV.out
               go_simp
               exact hK.out _ hV)
            | (intro p b
               refine stepTo_yes (by rfl) (fun V hV K hK => ?_)
               obtain ⟨q0, q1⟩ := KD.out _ V hV.out
               go_simp
               exact hK.out _ hV)
            | (refine stepTo_yes (by rfl) (fun V hV K hK => ?_)
               go_simp
               go_at_call 16
               refine (KV.out _ V hV.out).mono ?_
               rintro e V' ⟨rfl, hV'⟩
               exact hK.out _ hV')
            | (intro p b
               refine stepTo_yes (by rfl) (fun V hV K hK => ?_)
               go_simp
               go_at_call 16
               refine (KV.out _ V hV.out).mono ?_
               rintro e V' ⟨rfl, hV'⟩
               exact hK.out _ hV')
            | (refine stepTo_yes (by rfl) (fun V hV K hK => ?_)
               go_simp
               go_at_call 13
               refine (KS.out _ V hV.out).mono ?_
               rintro e V' ⟨rfl, hV'⟩
               exact hK.out _ hV')
            | (intro p b
               refine stepTo_yes (by rfl) (fun V hV K hK => ?_)
               go_simp
               go_at_call 13
               refine (KS.out _ V hV.out).mono ?_
               rintro e V' ⟨rfl, hV'⟩
               exact hK.out _ hV')
        · simp only [putAll, Act.put, List.setIfInBounds_toArray, List.set_cons_zero, List.set_cons_succ]
          have HX := hide (KF.out p V hV.out)
          clear hV KF KT KA KS KV KD X0 HBM HQ hnum hok
          have HB : Hid (∀ j V, j < N → (GL w c N eb g rb pb (mix j (bt1 c now S k) S) V ∧ Kp pb W V) ∧ V.heap[p]? = some (.cells MS.toArray 62 (0, 0)) → Calls Try.prog 40 #[.pointer (some ⟨eb j, 0, none⟩), .int .u64 (k : Nat), .agg MS.toArray, .int .u64 (now : Nat)] V fun e V' => e = .returned (.bool (bz c now S k j)) ∧ Hid ((GL w c N eb g rb pb (mix (j + 1) (bt1 c now S k) S) V' ∧ Kp pb W V') ∧ V'.heap[p]? = some (.cells MS.toArray 62 (0, 0)))) := fun j V hj h => by
            refine (beatM k h.1.1 HC.out hj (by omega) (by rw [hno, hsb]; exact HMC.out) HNW.out).mono ?_
            rintro e V' ⟨rfl, D⟩
            exact ⟨rfl, ⟨D.out.1, h.1.2.trans D.out.2⟩, D.out.2.keep _ _ _ h.2 (.inl notTt_msg)⟩
          have H49 : Hid (((Try.prog.info? 62).map (·.size)) = some MS.length) := by show _ = _; rw [M2.out]; rfl
          have HS1 : Hid (bts c now s1 (k + 1) = bt1 c now S k) := by show bt1 c now (bts c now s1 k) k = _; rw [HSS.out]
          have HWK : Hid (IntKind.u64.wrap (k : Int) = (k : Int)) := IntWalk.u64_in _ ⟨by omega, by omega⟩
          have HY : Hid ((GL w c N eb g rb pb (mix 0 (bt1 c now S k) S) V ∧ Kp pb W V) ∧ V.heap[p]? = some (.cells MS.toArray 62 (0, 0))) := by rw [mix_zero]; exact ⟨HX.out.1, HX.out.2.2⟩
          clear HX HMC HSS M1 M2 hnu hno hsb
          generalize bt1 c now S k = S2 at *
          generalize bz c now S k = Z at *
          obtain ⟨wo, hwo⟩ : ∃ wo, wo = wr := ⟨_, rfl⟩
          clear hwo
          go_wp2
          go_loopw [7] (fun i wr => ∃ j : Nat, j ≤ N ∧ i = .int .i64 j ∧ Hid ((GL w c N eb g rb pb (mix j S2 S) wr ∧ Kp pb W wr) ∧ wr.heap[p]? = some (.cells MS.toArray 62 (0, 0)))) (fun i _ => N - (intOf i).toNat)
          case atStart => exact ⟨0, by omega, rfl, HY.out⟩
          case round =>
            obtain ⟨j, hj, rfl, HQ⟩ := hrel
            clear HY
            by_cases hlj : j < N
            · have d2 : decide ((j : Int) < (N : Int)) = true := decide_eq_true (by omega)
              go_upto_region 11 with fail
              have hcj : Hid (∀ V, GL w c N eb g rb pb (mix j S2 S) V → V.cell? ⟨rb, j, none⟩ = some (.pointer (some ⟨eb j, 0, none⟩)) ∧ rb < V.heap.size) := fun V h => h.cell hlj
              have hcj1 : Hid (∀ V, GL w c N eb g rb pb (mix (j + 1) S2 S) V → V.cell? ⟨rb, j, none⟩ = some (.pointer (some ⟨eb j, 0, none⟩)) ∧ rb < V.heap.size) := fun V h => h.cell hlj
              obtain ⟨SD, hSD⟩ : ∃ SD : Bool → World → Prop, SD = fun d V => (GL w c N eb g rb pb (mix (if d = true then j + 1 else j) S2 S) V ∧ Kp pb W V) ∧ V.heap[p]? = some (.cells MS.toArray 62 (0, 0)) := ⟨_, rfl⟩
              have KD : Hid (∀ d V, SD d V → V.cell? ⟨rb, j, none⟩ = some (.pointer (some ⟨eb j, 0, none⟩)) ∧ rb < V.heap.size ∧ V.rangeAt p 0 MS) := fun d V h => by
                rw [hSD] at h
                have hr := range_of_block h.2
                cases d with
                | true => exact ⟨(hcj1.out V h.1.1).1, (hcj1.out V h.1.1).2, hr⟩
                | false => exact ⟨(hcj.out V h.1.1).1, (hcj.out V h.1.1).2, hr⟩
              have KC : Hid (∀ V, SD false V → Calls Try.prog 40 #[.pointer (some ⟨eb j, 0, none⟩), .int .u64 (k : Nat), .agg MS.toArray, .int .u64 (now : Nat)] V fun e V' => e = .returned (.bool (Z j)) ∧ Hid (SD true V')) := fun V h => by
                rw [hSD] at h ⊢
                exact HB.out j V hlj h
              have KE : Hid (∀ V, SD true V → (GL w c N eb g rb pb (mix (j + 1) S2 S) V ∧ Kp pb W V) ∧ V.heap[p]? = some (.cells MS.toArray 62 (0, 0))) := fun V h => by
                rw [hSD] at h
                exact h
              have X1 : Hid (SD false wr.drew) := by
                rw [hSD]
                exact ⟨⟨HQ.out.1.1.kept (Below.refl _ wr).drew, HQ.out.1.2.trans (Kp.below (Below.refl _ wr).drew)⟩, HQ.out.2⟩
              clear hSD hcj hcj1
              generalize Z j = zj at *
              have wk := HWK.out
              refine region_assign1 (fun d V => Hid (SD d V)) 8 [(44, .slice (some ⟨rb, 0, none⟩) N cap), (45, .int .i64 (j : Nat)), (46, .pointer (some ⟨rb, j, none⟩)), (47, .pointer (some ⟨eb j, 0, none⟩)), (48, .int .i64 (k : Nat)), (49, .int .u64 (k : Nat)), (50, .agg MS.toArray), (51, .int .u64 (now : Nat)), (52, .bool zj)] _ (by kernel_rfl) (by decide) (by kernel_rfl) (by kernel_rfl) (by kernel_rfl) rfl X1 ?_ (fun V2 HV2 => ?_)
              · simp only [putAll, Act.put, List.setIfInBounds_toArray, List.set_cons_zero, List.set_cons_succ]
                repeat' (first | exact AllFro.nil | refine AllFro.at_ rfl ?_ ?_ | refine AllFro.off (by decide) ?_ ?_)
                all_goals first
                  | (intro d
                     refine stepTo_yes (by rfl) (fun V hV K hK => ?_)
                     refine wp_load_mid 62 _ rfl p 0 rfl MS _ (KD.out d V hV.out).2.2 Try.underlying62 rfl H49.out ?_
                     exact hK.out _ hV)
                  | (intro d
                     refine stepTo_yes (by rfl) (fun V hV K hK => ?_)
                     obtain ⟨q0, q1, _⟩ := KD.out d V hV.out
                     go_simp
                     exact hK.out _ hV)
                  | (refine ⟨by rfl, fun V hV K hK => ?_⟩
                     go_simp
                     go_at_call 40
                     refine (KC.out V hV.out).mono ?_
                     rintro e V' ⟨rfl, hV'⟩
                     exact hK.out _ hV')
              simp only [putAll, Act.put, List.setIfInBounds_toArray, List.set_cons_zero, List.set_cons_succ]
              have HT := hide (KE.out V2 HV2.out)
              clear KE KC KD HV2 X1 wk
              go_wp2
              exact ⟨⟨j + 1, by omega, by congr 1, HT.out⟩, by simp only [intOf]; omega⟩
            · have d2 : decide ((j : Int) < (N : Int)) = false := decide_eq_false (by omega)
              have : j = N := by omega
              subst this
              go_wp2
              exact ⟨⟨k + 1, by omega, by congr 1, by rw [HS1.out]; exact HQ.out.1.1.all, HQ.out.1.2⟩, by simp only [intOf]; omega⟩
      · have d1 : decide ((k : Int) < (N : Int)) = false := decide_eq_false (by omega)
        have : k = N := by omega
        subst this
        go_wp2
        go_meet
        case rel => exact HQ.out
  case rest =>
  have HQ1 := hcut
  clear hcut
  have HR : Hid (tickF c now N s = qrm c now (bts c now (tmo c now s) N)) := by show _ = _; rfl
  generalize bts c now (tmo c now s) N = S at *
  go_wp2
  go_loopw [8] (fun i wr => ∃ k : Nat, k ≤ N ∧ i = .int .i64 k ∧ Hid (GL w c N eb g rb pb (mix k (qrm c now S) S) wr ∧ Kp pb W wr)) (fun i _ => N - (intOf i).toNat)
  case atStart => exact ⟨0, by omega, rfl, by rw [mix_zero]; exact HQ1.out⟩
  case round =>
    obtain ⟨k, hk, rfl, HQ⟩ := hrel
    clear HQ1
    by_cases hlt : k < N
    · have d1 : decide ((k : Int) < (N : Int)) = true := decide_eq_true (by omega)
      obtain ⟨c0, cl⟩ := HQ.out.1.cell hlt
      have H1 := hide (quorumM HQ.out.1 HC.out hlt HNW.out (HM.out k hlt))
      have HK := hide HQ.out.2
      clear HQ
      go_wp2_with fail
      refine H1.out.mono ?_
      rintro e w3 ⟨z, rfl, Q3⟩
      clear c0 cl H1
      go_wp2
      exact ⟨⟨k + 1, by omega, by congr 1, Q3.out.1, HK.out.trans Q3.out.2⟩, by simp only [intOf]; omega⟩
    · have d1 : decide ((k : Int) < (N : Int)) = false := decide_eq_false (by omega)
      have : k = N := by omega
      subst this
      go_wp2
      go_end0
      exact ⟨rfl, by rw [HR.out]; exact HQ.out.1.all, HQ.out.2⟩
end Go.Proofs.Ytkdciomijemmiaa
namespace Go.Proofs.Ytkdciomijemmiaa
open Go.RowKit Crc

theorem bal_neqT (a c : Int) (b d : Int) (w : World) : (binOp BinOp.neq 45 (.agg #[.int .u64 a, .int .i64 b]) (.agg #[.int .u64 c, .int .i64 d])).run Try.prog w = .ok (.bool (!(decide (a = c) && decide (b = d)))) w := by
  by_cases h1 : a = c
  · subst h1
    by_cases h2 : b = d
    · subst h2; go_simp
    · go_simp
  · go_simp
theorem exec_bin {P : Program} {o : Oper} {a : Act} {w : World} {op : BinOp} {t tb : TypeId} {x y : Operand} {X Y V : Value} (ho : o.op = .binOp op t x y tb) (hx : a.eval x = X) (hy : a.eval y = Y) (hg : (eqGuard op t x y X Y).run P w = .ok () w) (h : (binOp op t X Y).run P w = .ok V w) : (execOp a.eval o).run P w = .ok (.value V) w := by
  unfold execOp
  simp only [ho, hx, hy, Sem.run_bind, hg, h, Result.andThen_ok, Sem.run_pure]
theorem notTt_bal : ¬ Tt 45 := by unfold Tt; decide
/-- In turned: the two ballots lie in blocks of their own. -/
def Yt (w : World) (c : Cf) (N : Nat) (eb g : Nat → Nat) (rb : Nat) (pb : Nat → Prop) (s : Nat → Ev) (W : World) (tb vb : Nat) (t0 t1 n0 m0 : Int) (V : World) : Prop :=
  (GL w c N eb g rb pb s V ∧ Kp pb W V) ∧ V.heap[tb]? = some (.cells #[.int .u64 t0, .int .i64 t1] 45 (0, 0)) ∧ V.heap[vb]? = some (.cells #[.int .u64 n0, .int .i64 m0] 45 (0, 0))
theorem Yt.next {w : World} {c : Cf} {N : Nat} {eb g : Nat → Nat} {rb : Nat} {pb : Nat → Prop} {s : Nat → Ev} {W : World} {tb vb : Nat} {t0 t1 n0 m0 : Int} {V V' : World} (h : Yt w c N eb g rb pb s W tb vb t0 t1 n0 m0 V) (hg : GL w c N eb g rb pb s V') (hk : Kp pb V V') : Yt w c N eb g rb pb s W tb vb t0 t1 n0 m0 V' :=
  ⟨⟨hg, h.1.2.trans hk⟩, hk.keep _ _ _ h.2.1 (.inl notTt_bal), hk.keep _ _ _ h.2.2 (.inl notTt_bal)⟩
set_option maxRecDepth 10000 in
set_option maxHeartbeats 1600000 in
theorem turnedL {w : World} {c : Cf} {N : Nat} {eb g : Nat → Nat} {rb : Nat} {pb : Nat → Prop} {s : Nat → Ev} {W : World} (h : GL w c N eb g rb pb s W) (hN1 : 1 ≤ N) (hN : N ≤ 4) (cap : Nat) (hcap : N ≤ cap) (hcap2 : cap ≤ 9223372036854775807) (top : Nat × Int) (n : Int) (z : Bool) (hz : z = true ↔ (∀ i, i < N → (s i).vw = (s 0).vw) ∧ vlt top (s 0).vw ∧ (s 0).node < n) :
    Calls Try.prog 23 #[.slice (some ⟨rb, 0, none⟩) N cap, .agg #[.int .u64 (top.1 : Nat), .int .i64 top.2], .int .i64 n] W fun e W' => e = .returned (.bool z) ∧ Hid (GL w c N eb g rb pb s W' ∧ Kp pb W W') := by
  have HZ := hide hz
  obtain ⟨W1, hW1⟩ : ∃ W1, W.alloc (.cells #[.int .u64 (top.1 : Nat), .int .i64 top.2] 45) = W1 := ⟨_, rfl⟩
  have B1 : Below W.heap.size W W1 := by rw [← hW1]; exact (Below.refl _ W).alloc (Nat.le_refl _) _
  have C1 : W1.heap[W.heap.size]? = some (.cells #[.int .u64 (top.1 : Nat), .int .i64 top.2] 45 (0, 0)) := by rw [← hW1]; exact alloc_atK _ _
  have G1 := h.kept B1
  have K1 : Kp pb W W1 := Kp.below B1
  obtain ⟨c0, cl⟩ := G1.cell (i := 0) (by omega)
  have HV : Hid (Calls Try.prog 16 #[.pointer (some ⟨eb 0, 0, none⟩)] W1 fun e V' => e = .returned (.agg #[.int .u64 ((s 0).num : Nat), .int .i64 (s 0).node]) ∧ Hid (Yt w c N eb g rb pb s W W.heap.size V'.heap.size (top.1 : Nat) top.2 ((s 0).num : Nat) (s 0).node (V'.alloc (.cells #[.int .u64 ((s 0).num : Nat), .int .i64 (s 0).node] 45)))) := by
    refine (viewG G1 (i := 0) (by omega) _ _ rfl rfl).mono ?_
    rintro e V' ⟨rfl, D⟩
    have hb : Below V'.heap.size V' (V'.alloc (.cells #[.int .u64 ((s 0).num : Nat), .int .i64 (s 0).node] 45)) := (Below.refl _ V').alloc (Nat.le_refl _) _
    have hk := D.out.2.trans (Kp.below hb)
    exact ⟨rfl, ⟨D.out.1.kept hb, K1.trans hk⟩, hk.keep _ _ _ C1 (.inl notTt_bal), alloc_atK _ _⟩
  have HW1 := hide hW1
  have HBL : Hid (∀ V (y : Bool), (y = true ↔ vlt top (s 0).vw) → Calls Try.prog 17 #[.agg #[.int .u64 (top.1 : Int), .int .i64 top.2], .agg #[.int .u64 ((s 0).num : Int), .int .i64 (s 0).node]] V fun e w' => e = .returned (.bool y) ∧ Hid (Below V.heap.size V w')) := fun V y hy => belowL top (s 0).vw V y hy
  clear h hz hW1 B1 C1 G1 K1
  obtain ⟨n0, hn0⟩ : ∃ n0 : Int, ((s 0).num : Int) = n0 := ⟨_, rfl⟩
  obtain ⟨m0, hm0⟩ : ∃ m0 : Int, (s 0).node = m0 := ⟨_, rfl⟩
  have HN0 := hide hn0
  have HM0 := hide hm0
  rw [hn0, hm0] at HV HBL
  clear hn0 hm0
  generalize (top.1 : Int) = t0 at *
  generalize top.2 = t1 at *
  go_enter Try.func23, Try.ntmps23
  go_upto_region 1 with fail
  rw [HW1.out]
  go_wp2_with fail
  refine HV.out.mono ?_
  rintro e w2 ⟨rfl, HY⟩
  clear c0 cl HV
  go_upto_block 0 with fail
  have YN : Hid (∀ V V', Yt w c N eb g rb pb s W W.heap.size w2.heap.size t0 t1 n0 m0 V → Below V.heap.size V V' → Yt w c N eb g rb pb s W W.heap.size w2.heap.size t0 t1 n0 m0 V') := fun V V' h hb => h.next (h.1.1.kept hb) (Kp.below hb)
  have YC : Hid (∀ j V, j < N → Yt w c N eb g rb pb s W W.heap.size w2.heap.size t0 t1 n0 m0 V → V.cell? ⟨rb, j, none⟩ = some (.pointer (some ⟨eb j, 0, none⟩)) ∧ rb < V.heap.size) := fun j V hj h => h.1.1.cell hj
  have YB : Hid (∀ V, Yt w c N eb g rb pb s W W.heap.size w2.heap.size t0 t1 n0 m0 V → V.cell? ⟨W.heap.size, 0, none⟩ = some (.int .u64 t0) ∧ V.cell? ⟨W.heap.size, 1, none⟩ = some (.int .i64 t1) ∧ W.heap.size < V.heap.size ∧ V.cell? ⟨w2.heap.size, 0, none⟩ = some (.int .u64 n0) ∧ V.cell? ⟨w2.heap.size, 1, none⟩ = some (.int .i64 m0) ∧ w2.heap.size < V.heap.size) := fun V h => ⟨block_cell h.2.1 0, block_cell h.2.1 1, block_lt h.2.1, block_cell h.2.2 0, block_cell h.2.2 1, block_lt h.2.2⟩
  have YV : Hid (∀ j V (nj mj : Int), j < N → ((s j).num : Int) = nj → (s j).node = mj → Yt w c N eb g rb pb s W W.heap.size w2.heap.size t0 t1 n0 m0 V → Calls Try.prog 16 #[.pointer (some ⟨eb j, 0, none⟩)] V fun e V' => e = .returned (.agg #[.int .u64 nj, .int .i64 mj]) ∧ Hid (Yt w c N eb g rb pb s W W.heap.size w2.heap.size t0 t1 n0 m0 V')) := fun j V nj mj hj e1 e2 h => by
    subst e1 e2
    refine (viewG h.1.1 hj _ _ rfl rfl).mono ?_
    rintro e V' ⟨rfl, D⟩
    exact ⟨rfl, h.next D.out.1 D.out.2⟩
  have YE : Hid (∀ V, Yt w c N eb g rb pb s W W.heap.size w2.heap.size t0 t1 n0 m0 V → GL w c N eb g rb pb s V ∧ Kp pb W V) := fun V h => h.1
  generalize Yt w c N eb g rb pb s W W.heap.size w2.heap.size t0 t1 n0 m0 = Y at *
  generalize w2.heap.size = vb at *
  generalize hY0 : w2.alloc (.cells #[.int .u64 n0, .int .i64 m0] 45) = W3 at *
  clear hY0 HW1
  generalize hTB : W.heap.size = tb at *
  clear hTB
  go_wp2
  go_loopw [8] (fun i wr => ∃ j : Nat, j ≤ N ∧ i = .int .i64 j ∧ Hid (∀ i, i < j → (s i).vw = (s 0).vw) ∧ Hid (Y wr)) (fun i _ => N - (intOf i).toNat)
  case atStart => exact ⟨0, by omega, rfl, fun i hi => absurd hi (by omega), HY.out⟩
  case round =>
    obtain ⟨j, hj, rfl, HA, HQ⟩ := hrel
    clear HY
    by_cases hlj : j < N
    · have d2 : decide ((j : Int) < (N : Int)) = true := decide_eq_true (by omega)
      go_upto_region 5 with fail
      obtain ⟨nj, hnj⟩ : ∃ nj : Int, ((s j).num : Int) = nj := ⟨_, rfl⟩
      obtain ⟨mj, hmj⟩ : ∃ mj : Int, (s j).node = mj := ⟨_, rfl⟩
      obtain ⟨b, hb⟩ : ∃ b : Bool, (!(decide (nj = n0) && decide (mj = m0))) = b := ⟨_, rfl⟩
      have HBQ : Hid (∀ V, (binOp BinOp.neq 45 (.agg #[.int .u64 nj, .int .i64 mj]) (.agg #[.int .u64 n0, .int .i64 m0])).run Try.prog V = .ok (.bool b) V) := fun V => by rw [← hb]; exact bal_neqT _ _ _ _ V
      have HBB : Hid (b = false ↔ (s j).vw = (s 0).vw) := by
        show _ ↔ _
        rw [← hb]
        have e1 := HN0.out
        have e2 := HM0.out
        simp only [Bool.not_eq_false', Bool.and_eq_true, decide_eq_true_eq]
        constructor
        · rintro ⟨a1, a2⟩
          exact Prod.ext (by show (s j).num = (s 0).num; omega) (by show (s j).node = (s 0).node; omega)
        · intro e
          have a1 : (s j).num = (s 0).num := congrArg Prod.fst e
          have a2 : (s j).node = (s 0).node := congrArg Prod.snd e
          exact ⟨by omega, by omega⟩
      have KV : Hid (∀ V, Y V → Calls Try.prog 16 #[.pointer (some ⟨eb j, 0, none⟩)] V fun e V' => e = .returned (.agg #[.int .u64 nj, .int .i64 mj]) ∧ Hid (Y V')) := fun V h => YV.out j V nj mj hlj hnj hmj h
      have KC : Hid (∀ V, Y V → V.cell? ⟨rb, j, none⟩ = some (.pointer (some ⟨eb j, 0, none⟩)) ∧ rb < V.heap.size) := fun V h => YC.out j V hlj h
      have X1 : Hid (Y wr.drew) := YN.out wr _ HQ.out (Below.refl _ wr).drew
      clear hb hnj hmj
      refine region_assign (fun V => Hid (Y V)) [(19, .slice (some ⟨rb, 0, none⟩) N cap), (20, .int .i64 (j : Nat)), (21, .pointer (some ⟨rb, j, none⟩)), (22, .pointer (some ⟨eb j, 0, none⟩)), (23, .agg #[.int .u64 nj, .int .i64 mj]), (24, .agg #[.int .u64 n0, .int .i64 m0]), (25, .bool b)] _ (by kernel_rfl) (by kernel_rfl) (by kernel_rfl) (by kernel_rfl) rfl X1 ?_ (fun V2 HV2 => ?_)
      · simp only [putAll, Act.put, List.setIfInBounds_toArray, List.set_cons_zero, List.set_cons_succ]
        repeat' (first | exact AllTo.nil | refine AllTo.cons ?_ ?_)
        all_goals first
          | (refine stepTo_yes (by rfl) (fun V hV K hK => ?_)
             obtain ⟨q0, q1⟩ := KC.out V hV.out
             obtain ⟨b0, b1, b2, b3, b4, b5⟩ := YB.out V hV.out
             go_simp
             exact hK.out _ hV)
          | (refine stepTo_yes (by rfl) (fun V hV K hK => ?_)
             exact op_pure (exec_bin rfl rfl rfl (by kernel_rfl) (HBQ.out V)) (hK.out _ hV))
          | (refine stepTo_yes (by rfl) (fun V hV K hK => ?_)
             go_simp
             go_at_call 16
             refine (KV.out V hV.out).mono ?_
             rintro e V' ⟨rfl, hV'⟩
             exact hK.out _ hV')
      simp only [putAll, Act.put, List.setIfInBounds_toArray, List.set_cons_zero, List.set_cons_succ]
      clear KV KC X1 HBQ HQ
      cases b with
      | true =>
        have hzf : Hid (z = false) := by
          cases hzz : z with
          | false => rfl
          | true =>
            have h1 := (HZ.out.1 hzz).1 j hlj
            have := HBB.out.2 h1
            cases this
        have HE := hide (YE.out V2 HV2.out)
        go_wp2
        go_ret
        exact ⟨by rw [hzf.out]; rfl, HE.out⟩
      | false =>
        have HA2 : Hid (∀ i, i < j + 1 → (s i).vw = (s 0).vw) := fun i hi => by
          by_cases e : i < j
          · exact HA.out i e
          · have : i = j := by omega
            subst this
            exact HBB.out.1 rfl
        go_wp2
        exact ⟨⟨j + 1, by omega, by congr 1, HA2.out, HV2.out⟩, by simp only [intOf]; omega⟩
    · have d2 : decide ((j : Int) < (N : Int)) = false := decide_eq_false (by omega)
      have : j = N := by omega
      subst this
      obtain ⟨b0, b1, b2, b3, b4, b5⟩ := YB.out wr HQ.out
      obtain ⟨y, hy⟩ : ∃ y : Bool, y = true ↔ vlt top (s 0).vw := by
        by_cases e : vlt top (s 0).vw
        · exact ⟨true, by simp [e]⟩
        · exact ⟨false, by simp [e]⟩
      have H1 := hide (HBL.out wr y hy)
      have HYY := hide hy
      clear hy
      by_cases hn : m0 < n
      · have d3 : decide (m0 < n) = true := decide_eq_true hn
        have HZZ : Hid (z = y) := by
          show z = y
          have e2 := HM0.out
          rw [Bool.eq_iff_iff, HZ.out, HYY.out]
          exact ⟨fun k => k.2.1, fun k => ⟨HA.out, k, by omega⟩⟩
        cases y with
        | true =>
          go_wp2_with fail
          refine H1.out.mono ?_
          rintro e w5 ⟨rfl, hb5⟩
          have Y5 := hide (YN.out wr w5 HQ.out hb5.out)
          clear b0 b1 b2 b3 b4 b5 H1
          obtain ⟨b0, b1, b2, b3, b4, b5⟩ := YB.out w5 Y5.out
          have HE := hide (YE.out w5 Y5.out)
          go_wp2
          go_ret
          exact ⟨by rw [HZZ.out]; rfl, HE.out⟩
        | false =>
          go_wp2_with fail
          refine H1.out.mono ?_
          rintro e w5 ⟨rfl, hb5⟩
          have Y5 := hide (YN.out wr w5 HQ.out hb5.out)
          clear b0 b1 b2 b3 b4 b5 H1
          have HE := hide (YE.out w5 Y5.out)
          go_wp2
          go_ret
          exact ⟨by rw [HZZ.out]; rfl, HE.out⟩
      · have d3 : decide (m0 < n) = false := decide_eq_false hn
        have HZZ : Hid (z = false) := by
          cases hzz : z with
          | false => rfl
          | true =>
            have h1 := (HZ.out.1 hzz).2.2
            have e2 := HM0.out
            omega
        cases y with
        | true =>
          go_wp2_with fail
          refine H1.out.mono ?_
          rintro e w5 ⟨rfl, hb5⟩
          have Y5 := hide (YN.out wr w5 HQ.out hb5.out)
          clear b0 b1 b2 b3 b4 b5 H1
          obtain ⟨b0, b1, b2, b3, b4, b5⟩ := YB.out w5 Y5.out
          have HE := hide (YE.out w5 Y5.out)
          go_wp2
          go_ret
          exact ⟨by rw [HZZ.out]; rfl, HE.out⟩
        | false =>
          go_wp2_with fail
          refine H1.out.mono ?_
          rintro e w5 ⟨rfl, hb5⟩
          have Y5 := hide (YN.out wr w5 HQ.out hb5.out)
          clear b0 b1 b2 b3 b4 b5 H1
          have HE := hide (YE.out w5 Y5.out)
          go_wp2
          go_ret
          exact ⟨by rw [HZZ.out]; rfl, HE.out⟩
end Go.Proofs.Ytkdciomijemmiaa
namespace Go.Proofs.Ytkdciomijemmiaa
open Go.RowKit Crc

/-- Each has heard a request. -/
def hrd (v : Rv) (s : Nat → Ev) : Nat → Ev := fun i => ⟨(s i).num, (s i).node, (s i).sus, (s i).len, (s i).fin, (s i).pv, (s i).th ++ [v]⟩
theorem requestG {w : World} {c : Cf} {N : Nat} {eb g : Nat → Nat} {rb : Nat} {pb : Nat → Prop} {s : Nat → Ev} {W : World} {i : Nat} (cl sq : Nat) (co : Option Addr) (cn cc : Nat) (C : List Nat) (h : GL w c N eb g rb pb (mix i (hrd (cl, sq, C) s) s) W) (hi : i < N) (hp : (s i).pv = []) (ht : (s i).th = []) (hr : (Rq.mk cl sq co cn cc C).Ok W.heap.size W) (hg : goodR (cl, sq, C) = true) :
    Calls Try.prog 8 #[.pointer (some ⟨eb i, 0, none⟩), .agg #[.int .u64 (cl : Int), .int .u64 (sq : Int), .slice co cn cc]] W fun e W' => e = .returned (.bool true) ∧ Hid (GL w c N eb g rb pb (mix (i + 1) (hrd (cl, sq, C) s) s) W' ∧ Kp pb W W') := by
  obtain ⟨x, h1, h2, h3⟩ := h.el hi
  rw [mix_at] at h2
  have ep : x.ps.map Rq.val = [] := by rw [← hp, ← h2]; rfl
  have et : x.ts.map Rq.val = [] := by rw [← ht, ← h2]; rfl
  have hl : x.ts.length < 32 := by rw [List.map_eq_nil_iff.1 et]; decide
  refine (request_ok h1 cl sq co cn cc C hr hg (any_nil ep) (any_nilt et) hl).mono ?_
  rintro e W' ⟨rfl, D⟩
  have D' := D.out
  refine ⟨rfl, ?_⟩
  have k := h3 _ _ D'
  have e : (⟨x.num, x.node, x.sus, x.len, x.fin, x.ps.map Rq.val, x.ts.map Rq.val ++ [(cl, sq, C)]⟩ : Ev) = hrd (cl, sq, C) s i := by
    unfold hrd
    rw [← h2]
    rfl
  rw [e, mix_up] at k
  exact k
theorem ok_later {w V : World} {cl sq : Nat} {co : Option Addr} {cn cc : Nat} {C : List Nat} (h : (Rq.mk cl sq co cn cc C).Ok w.heap.size w) (hb : Below w.heap.size w V) : (Rq.mk cl sq co cn cc C).Ok V.heap.size V := ⟨h.hc, h.hs, (h.hC.belowL hb).wide hb.size⟩
set_option maxRecDepth 10000 in
set_option maxHeartbeats 1600000 in
theorem heardL {w : World} {c : Cf} {N : Nat} {eb g : Nat → Nat} {rb : Nat} {pb : Nat → Prop} {s : Nat → Ev} {W : World} (h : GL w c N eb g rb pb s W) (hN : N ≤ 4) (cap : Nat) (hcap : N ≤ cap) (hcap2 : cap ≤ 9223372036854775807) (cl sq : Nat) (co : Option Addr) (cn cc : Nat) (C : List Nat) (hr : (Rq.mk cl sq co cn cc C).Ok w.heap.size w) (hg : goodR (cl, sq, C) = true) (hp : ∀ i, i < N → (s i).pv = []) (ht : ∀ i, i < N → (s i).th = []) :
    Calls Try.prog 21 #[.slice (some ⟨rb, 0, none⟩) N cap, .agg #[.int .u64 (cl : Int), .int .u64 (sq : Int), .slice co cn cc]] W fun e W' => e = .returned (.bool true) ∧ Hid (GL w c N eb g rb pb (hrd (cl, sq, C) s) W' ∧ Kp pb W W') := by
  obtain ⟨W1, hW1⟩ : ∃ W1, W.alloc (.cells #[.int .u64 (cl : Int), .int .u64 (sq : Int), .slice co cn cc] 36) = W1 := ⟨_, rfl⟩
  have B1 : Below W.heap.size W W1 := by rw [← hW1]; exact (Below.refl _ W).alloc (Nat.le_refl _) _
  have C1 : W1.heap[W.heap.size]? = some (.cells #[.int .u64 (cl : Int), .int .u64 (sq : Int), .slice co cn cc] 36 (0, 0)) := by rw [← hW1]; exact alloc_atK _ _
  have G1 : GL w c N eb g rb (fun b => pb b ∨ b = W.heap.size) s W1 := by rw [← hW1]; exact h.guard _
  obtain ⟨qb, hqb⟩ : ∃ qb : Nat → Prop, qb = fun b => pb b ∨ b = W.heap.size := ⟨_, rfl⟩
  rw [← hqb] at G1
  obtain ⟨Y, hY⟩ : ∃ Y : Nat → World → Prop, Y = fun j V => GL w c N eb g rb qb (mix j (hrd (cl, sq, C) s) s) V ∧ Kp qb W1 V := ⟨_, rfl⟩
  have YB : Hid (∀ j V, Y j V → V.cell? ⟨W.heap.size, 0, none⟩ = some (.int .u64 (cl : Int)) ∧ V.cell? ⟨W.heap.size, 1, none⟩ = some (.int .u64 (sq : Int)) ∧ V.cell? ⟨W.heap.size, 2, none⟩ = some (.slice co cn cc) ∧ W.heap.size < V.heap.size) := fun j V h => by
    rw [hY] at h
    have := h.2.keep _ _ _ C1 (.inr (by rw [hqb]; exact .inr rfl))
    exact ⟨block_cell this 0, block_cell this 1, block_cell this 2, block_lt this⟩
  have YC : Hid (∀ j V, j < N → Y j V → V.cell? ⟨rb, j, none⟩ = some (.pointer (some ⟨eb j, 0, none⟩)) ∧ rb < V.heap.size) := fun j V hj h => by
    rw [hY] at h
    exact h.1.cell hj
  have YD : Hid (∀ j V, Y j V → Y j V.drew) := fun j V h => by
    rw [hY] at h ⊢
    exact ⟨h.1.kept (Below.refl _ V).drew, h.2.trans (Kp.below (Below.refl _ V).drew)⟩
  have YR : Hid (∀ j V, j < N → Y j V → Calls Try.prog 9 #[.agg #[.int .u64 (cl : Int), .int .u64 (sq : Int), .slice co cn cc]] V fun e V' => ∃ ao cap, e = .returned (.agg #[.int .u64 (cl : Int), .int .u64 (sq : Int), .slice ao cn cap]) ∧ Hid (Y j V' ∧ Calls Try.prog 8 #[.pointer (some ⟨eb j, 0, none⟩), .agg #[.int .u64 (cl : Int), .int .u64 (sq : Int), .slice ao cn cap]] V' fun e V'' => e = .returned (.bool true) ∧ Hid (Y (j + 1) V''))) := fun j V hj h => by
    rw [hY] at h
    refine (copyRequestE cl sq co cn cc C (ok_later hr h.1.bel)).mono ?_
    rintro e V' ⟨ao, cap, rfl, D⟩
    refine ⟨ao, cap, rfl, ?_⟩
    rw [hY]
    have h' : GL w c N eb g rb qb (mix j (hrd (cl, sq, C) s) s) V' ∧ Kp qb W1 V' := ⟨h.1.kept D.out.1, h.2.trans (Kp.below D.out.1)⟩
    refine ⟨h', ?_⟩
    refine (requestG cl sq ao cn cap C h'.1 hj (hp j hj) (ht j hj) D.out.2.ok hg).mono ?_
    rintro e V'' ⟨rfl, D2⟩
    exact ⟨rfl, D2.out.1, h'.2.trans D2.out.2⟩
  have YE : Hid (∀ V, Y N V → GL w c N eb g rb pb (hrd (cl, sq, C) s) V ∧ Kp pb W V) := fun V h => by
    rw [hY] at h
    have hs : ∀ b, pb b → qb b := fun b k => by rw [hqb]; exact .inl k
    exact ⟨h.1.all.less hs, Kp.trans (Kp.below B1) (h.2.less hs)⟩
  have Y0 : Hid (Y 0 W1) := by
    rw [hY]
    rw [← mix_zero (hrd (cl, sq, C) s) s] at G1
    exact ⟨G1, Kp.refl _ _⟩
  have HW1 := hide hW1
  clear hY hqb G1 C1 B1 hW1 h hr hp ht
  generalize (cl : Int) = ci at *
  generalize (sq : Int) = si at *
  go_enter Try.func21, Try.ntmps21
  go_upto_block 0 with fail
  rw [HW1.out]
  clear HW1
  generalize hTB : W.heap.size = tb at *
  clear hTB
  go_wp2
  go_loopw [5] (fun i wr => ∃ j : Nat, j ≤ N ∧ i = .int .i64 j ∧ Hid (Y j wr)) (fun i _ => N - (intOf i).toNat)
  case atStart => exact ⟨0, by omega, rfl, Y0.out⟩
  case round =>
    obtain ⟨j, hj, rfl, HQ0⟩ := hrel
    clear Y0
    by_cases hlj : j < N
    · have d2 : decide ((j : Int) < (N : Int)) = true := decide_eq_true (by omega)
      go_upto_region 4 with fail
      have HQ := hide (YD.out j wr HQ0.out)
      obtain ⟨c0, cl0⟩ := YC.out j wr hlj HQ0.out
      obtain ⟨b0, b1, b2, bl⟩ := YB.out j wr HQ0.out
      have HR := hide (YR.out j _ hlj HQ.out)
      clear HQ HQ0
      have FB : Hid (∀ V, Y j V → (V.cell? ⟨rb, j, none⟩ = some (.pointer (some ⟨eb j, 0, none⟩)) ∧ rb < V.heap.size) ∧ V.cell? ⟨tb, 0, none⟩ = some (.int .u64 ci) ∧ V.cell? ⟨tb, 1, none⟩ = some (.int .u64 si) ∧ V.cell? ⟨tb, 2, none⟩ = some (.slice co cn cc) ∧ tb < V.heap.size) := fun V h => ⟨YC.out j V hlj h, YB.out j V h⟩
      go_region_with (first
        | (go_at_call 9; refine HR.out.mono ?_; rintro e w3 ⟨ao, cap3, rfl, G3⟩; clear c0 cl0 b0 b1 b2 bl; obtain ⟨⟨c0, cl0⟩, b0, b1, b2, bl⟩ := FB.out w3 G3.out.1; have HR2 := hide G3.out.2; clear G3)
        | (go_at_call 8; refine HR2.out.mono ?_; rintro e w4 ⟨rfl, G4⟩; clear c0 cl0 b0 b1 b2 bl))
      all_goals go_wp2
      all_goals exact ⟨⟨j + 1, by omega, by congr 1, G4.out⟩, by simp only [intOf]; omega⟩
    · have d2 : decide ((j : Int) < (N : Int)) = false := decide_eq_false (by omega)
      have : j = N := by omega
      subst this
      have HE := hide (YE.out wr HQ0.out)
      go_wp2
      go_ret
      exact ⟨rfl, HE.out⟩
end Go.Proofs.Ytkdciomijemmiaa
namespace Go.Proofs.Ytkdciomijemmiaa
open Go.RowKit Crc

/-- An Op of kind 3 as it lies: 57 cells, the message among them. -/
structure OpC (oc cs : List Value) (kind : Int) (num : Nat) (node : Int) (susp : Bool) (src now : Nat) : Prop where
  len : oc.length = 57
  c0 : oc[0]? = some (.int .i64 3)
  c6 : oc[6]? = some (.int .u64 (src : Nat))
  mid : ∀ j, j < 49 → oc[7 + j]? = cs[j]?
  c56 : oc[56]? = some (.int .u64 (now : Nat))
  msg : MsgC cs kind num node susp
  hs : src < 18446744073709551616
  hn : now < 18446744073709551616
set_option maxRecDepth 10000 in
set_option maxHeartbeats 1600000 in
theorem callG {w : World} {c : Cf} {N : Nat} {eb g : Nat → Nat} {rb : Nat} {pb : Nat → Prop} {s : Nat → Ev} {W : World} (h : GL w c N eb g rb pb s W) (hc : OkC c) {i : Nat} (hi : i < N) {oc cs : List Value} {kind : Int} {num : Nat} {node : Int} {susp : Bool} {src now : Nat} (ho : OpC oc cs kind num node susp src now) :
    Calls Try.prog 20 #[.pointer (some ⟨eb i, 0, none⟩), .agg oc.toArray] W fun e W' => e = .returned (.tuple #[.bool (Ev.beat c (s i) src kind num node susp now).2, .bool true]) ∧ Hid (GL w c N eb g rb pb (up s i (Ev.beat c (s i) src kind num node susp now).1) W' ∧ Kp pb W W') := by
  obtain ⟨W1, hW1⟩ : ∃ W1, W.alloc (.cells oc.toArray 64) = W1 := ⟨_, rfl⟩
  have B1 : Below W.heap.size W W1 := by rw [← hW1]; exact (Below.refl _ W).alloc (Nat.le_refl _) _
  have C1 : W1.heap[W.heap.size]? = some (.cells oc.toArray 64 (0, 0)) := by rw [← hW1]; exact alloc_atK _ _
  have G1 := h.kept B1
  have K1 : Kp pb W W1 := Kp.below B1
  have z0 : W1.cell? ⟨W.heap.size, 0, none⟩ = some (.int .i64 3) := blk_cellE C1 ho.c0
  have z6 : W1.cell? ⟨W.heap.size, 6, none⟩ = some (.int .u64 (src : Nat)) := blk_cellE C1 ho.c6
  have z56 : W1.cell? ⟨W.heap.size, 56, none⟩ = some (.int .u64 (now : Nat)) := blk_cellE C1 ho.c56
  have zl := block_lt C1
  have HR : Hid (W1.rangeAt W.heap.size 7 cs) := fun j v hv => by
    have hj : j < 49 := by rw [← ho.msg.len]; exact (List.getElem?_eq_some_iff.1 hv).1
    exact blk_cellE C1 ((ho.mid j hj).trans hv)
  have H49 : Hid (((Try.prog.info? 62).map (·.size)) = some cs.length) := by show _ = _; rw [ho.msg.len]; rfl
  have HB := hide (beatG G1 hc hi src ho.hs ho.msg now ho.hn)
  have HK := hide K1
  have HW1 := hide hW1
  clear ho h B1 C1 G1 K1 hW1 hc
  generalize (Ev.beat c (s i) src kind num node susp now).2 = z at *
  generalize (Ev.beat c (s i) src kind num node susp now).1 = s' at *
  generalize (src : Int) = si at *
  generalize (now : Int) = ni at *
  go_enter Try.func20, Try.ntmps20
  go_upto_region 1 with fail
  rw [HW1.out]
  clear HW1
  generalize W.heap.size = ob at *
  go_upto_region 15 with fail
  go_wp2_with (first
    | (refine wpList_load_mid rfl 62 _ rfl ob 7 rfl cs _ HR.out Try.underlying62 rfl H49.out ?_; simp only [Act.put, List.setIfInBounds_toArray, List.set_cons_zero, List.set_cons_succ])
    | (go_at_call 40; refine HB.out.mono ?_; rintro e w3 ⟨rfl, G3⟩; clear z0 z6 z56 zl))
  refine bodyPost_ret (v := .tuple #[.bool z, .bool true]) (by simp [results, Try.results20, go_sem]) rfl ⟨rfl, G3.out.1, HK.out.trans G3.out.2⟩
end Go.Proofs.Ytkdciomijemmiaa
namespace Go.Proofs.Ytkdciomijemmiaa
open Go.RowKit Crc

/-- The elections of the law, without the row of pointers. -/
structure GE (w : World) (c : Cf) (N : Nat) (eb g : Nat → Nat) (pb : Nat → Prop) (s : Nat → Ev) (W : World) : Prop where
  bel : Below w.heap.size w W
  plt : ∀ b, pb b → b < W.heap.size
  ex : ∃ x : Nat → Ex, (∀ i, i < N → ∀ b, pb b → ¬ Mine (eb i) (ft (x i)) b) ∧ (∀ i, i < N → EL W (eb i) (g i) c i (ft (x i)) (x i) ∧ (x i).abs = s i ∧ ∀ b, Mine (eb i) (ft (x i)) b → w.heap.size ≤ b) ∧ ∀ i, i < N → ∀ j, j < N → i ≠ j → eb i ≠ eb j ∧ ∀ b, ft (x i) b → ¬ ft (x j) b
theorem GE.nil {w W : World} {c : Cf} {eb g : Nat → Nat} {pb : Nat → Prop} {s : Nat → Ev} (hb : Below w.heap.size w W) (hp : ∀ b, pb b → b < W.heap.size) : GE w c 0 eb g pb s W :=
  ⟨hb, hp, fun _ => ⟨0, 0, 0, 0, 0, none, 0, [], none, 0, []⟩, fun _ hi => absurd hi (by omega), fun _ hi => absurd hi (by omega), fun _ hi => absurd hi (by omega)⟩
theorem GE.kept {w : World} {c : Cf} {N : Nat} {eb g : Nat → Nat} {pb : Nat → Prop} {s : Nat → Ev} {W W' : World} (h : GE w c N eb g pb s W) (hb : Below W.heap.size W W') : GE w c N eb g pb s W' := by
  obtain ⟨x, hpb, h3, h4⟩ := h.ex
  exact ⟨h.bel.trans (hb.mono h.bel.size), fun b k => Nat.lt_of_lt_of_le (h.plt b k) hb.size, x, hpb, fun i hi => ⟨(h3 i hi).1.kept hb, (h3 i hi).2⟩, h4⟩
/-- The row has grown. -/
theorem GE.grow {w : World} {c : Cf} {N : Nat} {eb g : Nat → Nat} {pb : Nat → Prop} {s : Nat → Ev} {V V' : World} (h : GE w c N eb g pb s V) {v : Value} {k : Nat} {xs : List Value} (ho : V.ownsRow w.heap.size 28 1 v k xs) (gr : V.grownBy V' v.ownBlock) : GE w c N eb g pb s V' := by
  obtain ⟨x, hpb, h3, h4⟩ := h.ex
  have f : Fe V V' (fun b => v.ownBlock = some b) := Fe.grown gr (fun x e => e)
  have ow : ∀ j, v.ownBlock = some j → w.heap.size ≤ j := fun j e => by
    rcases ho.2 with ⟨rfl, _⟩ | ⟨q, cap, cur, rfl, hb, _⟩
    · cases e
    · cases e; exact hb
  refine ⟨h.bel.trans (f.toBelow _ h.bel.size ow), fun b k => Nat.lt_of_lt_of_le (h.plt b k) f.size, x, hpb, fun i hi => ?_, h4⟩
  obtain ⟨f1, f2, f3⟩ := h3 i hi
  have nt : ¬ Tt 28 := by unfold Tt; decide
  refine ⟨f1.fe f (fun b hb e => ?_) (fun e => ?_) (fun e => ?_), f2, f3⟩
  · obtain ⟨cur, h1⟩ := row_ty ho e
    exact nt (f1.ty_ne (.inr hb) h1)
  · obtain ⟨cur, h1⟩ := row_ty ho e
    exact nt (f1.ty_ne (.inl rfl) h1)
  · obtain ⟨cur, h1⟩ := row_ty ho e
    have := f1.grp
    rw [h1] at this
    cases this
/-- One more. -/
def upN (f : Nat → Nat) (k v : Nat) : Nat → Nat := fun j => if j = k then v else f j
theorem GE.add {w : World} {c : Cf} {k : Nat} {eb g : Nat → Nat} {pb : Nat → Prop} {s : Nat → Ev} {V V' : World} (h : GE w c k eb g pb s V) {eb' g' : Nat} {fp : Nat → Prop} {y : Ex} (d1 : EL V' eb' g' c k fp y) (hy : y.abs = s k) (hb : Below V.heap.size V V') (h5 : V.heap.size ≤ eb') (h6 : ∀ b, fp b → V.heap.size ≤ b) : GE w c (k + 1) (upN eb k eb') (upN g k g') pb s V' := by
  have h' := h.kept hb
  obtain ⟨x, hpb, h3, h4⟩ := h.ex
  have hw := h.bel.size
  have lo : ∀ i, i < k → ∀ b, Mine (eb i) (ft (x i)) b → b < V.heap.size := fun i hi b m => by
    rcases m with m | m
    · rw [m]; exact (h3 i hi).1.lt
    · exact (h3 i hi).1.flt b m
  have up : ∀ b, Mine eb' (ft y) b → V.heap.size ≤ b := fun b m => by
    rcases m with m | m
    · omega
    · exact h6 b (d1.ft_fp m)
  refine ⟨h'.bel, h'.plt, fun j => if j = k then y else x j, fun i hi b hp => ?_, fun i hi => ?_, fun i hi j hj hij => ?_⟩
  · by_cases e : i = k
    · simp only [upN, if_pos e]
      intro m
      have := up b m
      have := h.plt b hp
      omega
    · simp only [upN, if_neg e]
      exact hpb i (by omega) b hp
  · by_cases e : i = k
    · subst e
      simp only [upN, if_true]
      exact ⟨d1.foot, hy, fun b m => by have := up b m; omega⟩
    · simp only [upN, if_neg e]
      obtain ⟨f1, f2, f3⟩ := h3 i (by omega)
      exact ⟨f1.kept hb, f2, f3⟩
  · by_cases e : i = k
    · have ej : j ≠ k := fun q => hij (e.trans q.symm)
      simp only [upN, if_pos e, if_neg ej]
      refine ⟨fun q => ?_, fun b m q => ?_⟩
      · have := lo j (by omega) (eb j) (.inl rfl); omega
      · have := lo j (by omega) b (.inr q)
        have := up b (.inr m)
        omega
    · by_cases ej : j = k
      · simp only [upN, if_neg e, if_pos ej]
        refine ⟨fun q => ?_, fun b m q => ?_⟩
        · have := lo i (by omega) (eb i) (.inl rfl); omega
        · have := lo i (by omega) b (.inr m)
          have := up b (.inr q)
          omega
      · simp only [upN, if_neg e, if_neg ej]
        exact h4 i (by omega) j (by omega) hij
/-- The cells of the row. -/
def ptrs (eb : Nat → Nat) (k : Nat) : List Value := (List.range k).map fun i => .pointer (some ⟨eb i, 0, none⟩)
theorem ptrs_at (eb : Nat → Nat) {k i : Nat} (hi : i < k) : (ptrs eb k)[i]? = some (.pointer (some ⟨eb i, 0, none⟩)) := by unfold ptrs; simp [hi]
theorem ptrs_up (eb : Nat → Nat) (k v : Nat) : ptrs eb k ++ [.pointer (some ⟨v, 0, none⟩)] = ptrs (upN eb k v) (k + 1) := by
  unfold ptrs
  rw [List.range_succ, List.map_append]
  congr 1
  · refine List.map_congr_left fun i hi => ?_
    have := List.mem_range.1 hi
    simp only [upN, if_neg (show i ≠ k by omega)]
  · simp [upN]
theorem GE.gl {w : World} {c : Cf} {N : Nat} {eb g : Nat → Nat} {pb : Nat → Prop} {s : Nat → Ev} {V : World} (h : GE w c N eb g pb s V) (hN : 1 ≤ N) {v : Value} (ho : V.ownsRow w.heap.size 28 1 v N (ptrs eb N)) : ∃ rb cap, v = .slice (some ⟨rb, 0, none⟩) N cap ∧ N ≤ cap ∧ cap ≤ 9223372036854775807 ∧ GL w c N eb g rb pb s V := by
  rcases ho.2 with ⟨_, h0⟩ | ⟨rb, cap, cur, rfl, hb, hg, hnc, hcm, hcs, htake⟩
  · omega
  · refine ⟨rb, cap, rfl, hnc, ?_, h.bel, ⟨cur, hg, fun i hi => ?_⟩, h.plt, h.ex⟩
    · have : maxLen ≤ 9223372036854775807 := by unfold maxLen; decide
      omega
    · have h1 := ptrs_at eb hi
      rw [← htake, List.getElem?_take, if_pos (by omega)] at h1
      simpa using h1
end Go.Proofs.Ytkdciomijemmiaa
namespace Go.Proofs.Ytkdciomijemmiaa
open Go.RowKit Crc

theorem and3 (f : Int) : ∃ q : Nat, q < 4 ∧ bits BinOp.and IntKind.i64 f 3 = (q : Int) := by
  refine ⟨(BitVec.ofInt 64 f &&& BitVec.ofInt 64 3).toNat, ?_, ?_⟩
  · rw [BitVec.toNat_and]
    exact Nat.lt_of_le_of_lt Nat.and_le_right (by decide)
  · have h : (BitVec.ofInt 64 f &&& BitVec.ofInt 64 3).toNat < 4 := by
      rw [BitVec.toNat_and]
      exact Nat.lt_of_le_of_lt Nat.and_le_right (by decide)
    show IntKind.i64.wrap (((BitVec.ofInt 64 f &&& BitVec.ofInt 64 3).toNat : Nat) : Int) = _
    exact IntWalk.i64_in _ ⟨by omega, by omega⟩
/-- What the beats ahead leave. -/
structure Ah (N : Nat) (c : Cf) (s : Nat → Ev) : Prop where
  ok : ∀ i, i < N → okV c (s i).vw
  pv : ∀ i, i < N → (s i).pv = []
  th : ∀ i, i < N → (s i).th = []
  nu : ∀ i, i < N → (s i).num < 549755813888
theorem beat_same {c : Cf} {e : Ev} {src : Nat} {kind : Int} {num : Nat} {node : Int} {susp : Bool} {now : Nat} : (Ev.beat c e src kind num node susp now).1 = e ∨ (Ev.beat c e src kind num node susp now).1 = e.susp src num node susp ∨ num ≠ 0 ∧ c.valid num node = true ∧ (Ev.beat c e src kind num node susp now).1 = (Ev.enter c e num node now).susp src num node susp := by
  unfold Ev.beat
  by_cases h : Ev.beatOk c src kind num node = false
  · rw [if_pos h]; exact .inl rfl
  · rw [if_neg h]
    have hok : Ev.beatOk c src kind num node = true := by simpa using h
    unfold Ev.beatOk at hok
    simp only [Bool.and_eq_true, decide_eq_true_eq] at hok
    split
    · exact .inr (.inr ⟨hok.1.2, hok.2, rfl⟩)
    · exact .inr (.inl rfl)
theorem susp_th (e : Ev) (src n : Nat) (m : Int) (b : Bool) : (e.susp src n m b).th = e.th := by unfold Ev.susp; split <;> rfl
theorem susp_num (e : Ev) (src n : Nat) (m : Int) (b : Bool) : (e.susp src n m b).num = e.num := by unfold Ev.susp; split <;> rfl
theorem Ah.beat {N : Nat} {c : Cf} {s : Nat → Ev} (h : Ah N c s) {i : Nat} (hi : i < N) (src : Nat) (kind : Int) (num : Nat) (node : Int) (susp : Bool) (now : Nat) (hn : num < 549755813888) : Ah N c (up s i (Ev.beat c (s i) src kind num node susp now).1) := by
  have key : ∀ e, e = (Ev.beat c (s i) src kind num node susp now).1 → okV c e.vw ∧ e.pv = [] ∧ e.th = [] ∧ e.num < 549755813888 := by
    intro e he
    have hp := h.pv i hi
    have ht := h.th i hi
    rcases beat_same (c := c) (e := s i) (src := src) (kind := kind) (num := num) (node := node) (susp := susp) (now := now) with q | q | ⟨q1, q2, q⟩
    · rw [he, q]; exact ⟨h.ok i hi, hp, ht, h.nu i hi⟩
    · rw [he, q, susp_vw, susp_pv, susp_th, susp_num]; exact ⟨h.ok i hi, hp, ht, h.nu i hi⟩
    · rw [he, q, susp_vw, susp_pv, susp_th, susp_num, enter_vw]
      refine ⟨⟨by show 1 ≤ num; omega, q2⟩, ?_, rfl, hn⟩
      show (s i).pv ++ (s i).th.take (32 - (s i).pv.length) = []
      rw [hp, ht]; rfl
  obtain ⟨k1, k2, k3, k4⟩ := key _ rfl
  refine ⟨fun j hj => ?_, fun j hj => ?_, fun j hj => ?_, fun j hj => ?_⟩
  all_goals (unfold up; split)
  · exact k1
  · exact h.ok j hj
  · exact k2
  · exact h.pv j hj
  · exact k3
  · exact h.th j hj
  · exact k4
  · exact h.nu j hj
/-- The third loop: the latest end and the highest view of the first k. -/
structure Tp (k : Nat) (s : Nat → Ev) (now : Nat) (top : Nat × Int) : Prop where
  fin : ∀ i, i < k → (s i).fin ≤ now
  le : ∀ i, i < k → ¬ vlt top (s i).vw
  mx : top = (1, 0) ∨ ∃ i, i < k ∧ (s i).vw = top
theorem Tp.next {k : Nat} {s : Nat → Ev} {now : Nat} {top : Nat × Int} (h : Tp k s now top) (z : Bool) (hz : z = true ↔ vlt top (s k).vw) : Tp (k + 1) s (max now (s k).fin) (if z = true then (s k).vw else top) := by
  refine ⟨fun i hi => ?_, fun i hi => ?_, ?_⟩
  · by_cases e : i < k
    · have := h.fin i e; omega
    · have : i = k := by omega
      subst this; omega
  · by_cases hv : vlt top (s k).vw
    · rw [if_pos (hz.2 hv)]
      by_cases e : i < k
      · have h1 := h.le i e
        unfold vlt at *
        omega
      · have : i = k := by omega
        subst this; exact vlt_irr _
    · rw [if_neg (fun q => hv (hz.1 q))]
      by_cases e : i < k
      · exact h.le i e
      · have : i = k := by omega
        subst this; exact hv
  · by_cases hv : vlt top (s k).vw
    · rw [if_pos (hz.2 hv)]; exact .inr ⟨k, by omega, rfl⟩
    · rw [if_neg (fun q => hv (hz.1 q))]
      rcases h.mx with e | ⟨i, hi, e⟩
      · exact .inl e
      · exact .inr ⟨i, by omega, e⟩
/-- Ahead of the first tick, all that it wants. -/
theorem Ah.start {N : Nat} {c : Cf} {s : Nat → Ev} {now : Nat} {top : Nat × Int} (h : Ah N c s) (hN : 1 ≤ N) (t : Tp N s now top) (v : Rv) : T0 N c now top (hrd v s) ∧ okV c top ∧ top.1 < 549755813888 := by
  have m : ∃ i, i < N ∧ (s i).vw = top := by
    rcases t.mx with e | e
    · refine ⟨0, hN, ?_⟩
      have h1 := h.ok 0 hN
      have h2 := (valid_node h1.1).1 h1.2
      have h3 := t.le 0 hN
      refine (vlt_not ?_ h3)
      rw [e]
      have := h1.1
      unfold vlt
      intro k
      simp only at k
      omega
    · exact e
  obtain ⟨i, hi, e⟩ := m
  refine ⟨⟨h.ok, t.le, h.pv, fun j hj => ?_, t.fin, ⟨i, hi, e⟩⟩, by rw [← e]; exact h.ok i hi, by rw [← e]; exact h.nu i hi⟩
  show (s j).th ++ [v] ≠ []
  simp
end Go.Proofs.Ytkdciomijemmiaa
namespace Go.Proofs.Ytkdciomijemmiaa
open Go.RowKit Crc

/-- An Op of any kind as it lies. -/
structure OpK (oc : List Value) (kd : Int) (cs : List Value) (kind : Int) (num : Nat) (node : Int) (susp : Bool) (src now : Nat) : Prop where
  len : oc.length = 57
  one : ∀ v ∈ oc, v.oneCell' = true
  c0 : oc[0]? = some (.int .i64 kd)
  c6 : oc[6]? = some (.int .u64 (src : Nat))
  mid : ∀ j, j < 49 → oc[7 + j]? = cs[j]?
  c56 : oc[56]? = some (.int .u64 (now : Nat))
  msg : MsgC cs kind num node susp
  hs : src < 18446744073709551616
  hn : now < 18446744073709551616
theorem OpK.op {oc : List Value} {cs : List Value} {kind : Int} {num : Nat} {node : Int} {susp : Bool} {src now : Nat} (h : OpK oc 3 cs kind num node susp src now) : OpC oc cs kind num node susp src now := ⟨h.len, h.c0, h.c6, h.mid, h.c56, h.msg, h.hs, h.hn⟩
/-- A script of Ops as it lies. -/
structure OpsL (w : World) (ao : Option Addr) (n ob off : Nat) : Prop where
  ad : 0 < n → ao = some ⟨ob, off, none⟩
  lt : 0 < n → ob < w.heap.size
  le : n ≤ 1000000000000
  op : ∀ i, i < n → ∃ oc kd cs kind num node susp src now, w.rangeAt ob (off + i * 57) oc ∧ OpK oc kd cs kind num node susp src now
/-- The state of all at the beginning. -/
def s00 (ep : Nat) : Nat → Ev := fun _ => ⟨1, 0, 0, ep, addB 0 ep 1099511627776, [], []⟩
/-- While the elections are made. -/
structure Zn (w : World) (c : Cf) (cb : Nat) (rq : Array Value) (k : Nat) (v : Value) (V : World) : Prop where
  ge : ∃ eb g, GE w c k eb g (fun b => b = w.heap.size) (s00 c.ep) V ∧ V.ownsRow w.heap.size 28 1 v k (ptrs eb k)
  cf : V.heap[cb]? = some (.cells c.cells 26 (0, 0))
  rq : V.heap[w.heap.size]? = some (.cells rq 36 (0, 0))
theorem Zn.bel {w : World} {c : Cf} {cb : Nat} {rq : Array Value} {k : Nat} {v : Value} {V : World} (h : Zn w c cb rq k v V) : Below w.heap.size w V := by
  obtain ⟨eb, g, h1, _⟩ := h.ge
  exact h1.bel
/-- One more election, not yet in the row. -/
structure Zm (w : World) (c : Cf) (cb : Nat) (rq : Array Value) (k : Nat) (v : Value) (xs : List Value) (eb' : Nat) (V : World) : Prop where
  ge : ∃ eb g, GE w c (k + 1) (upN eb k eb') g (fun b => b = w.heap.size) (s00 c.ep) V ∧ xs = ptrs eb k
  ow : V.ownsRow w.heap.size 28 1 v k xs
  cf : V.heap[cb]? = some (.cells c.cells 26 (0, 0))
  rq : V.heap[w.heap.size]? = some (.cells rq 36 (0, 0))
theorem Zm.kept {w : World} {c : Cf} {cb : Nat} {rq : Array Value} {k : Nat} {v : Value} {xs : List Value} {eb' : Nat} {V V' : World} (h : Zm w c cb rq k v xs eb' V) (hb : Below V.heap.size V V') : Zm w c cb rq k v xs eb' V' := by
  obtain ⟨eb, g, h1, h2⟩ := h.ge
  exact ⟨⟨eb, g, h1.kept hb, h2⟩, row_fe h.ow (Fe.below hb (fun _ => False)) (fun _ _ e => e), (hb.block _ (block_lt h.cf)).trans h.cf, (hb.block _ (block_lt h.rq)).trans h.rq⟩
theorem newZ {w : World} {c : Cf} {cb : Nat} {rq : Array Value} {k : Nat} {v : Value} {V : World} (h : Zn w c cb rq k v V) (hc : OkC c) (hk : (k : Int) < 2 * c.f + 1) :
    Calls Try.prog 7 #[.agg c.cells, .int .i64 (k : Nat), .int .u64 0] V fun e V' => ∃ eb' xs, e = .returned (.tuple #[.pointer (some ⟨eb', 0, none⟩), .nilIface]) ∧ Hid (Zm w c cb rq k v xs eb' V') := by
  obtain ⟨eb, g, h1, h2⟩ := h.ge
  refine (newE c hc.hin hc.hk hc.ok k hk hc.em hc.ep hc.pe 0 (by decide) V).mono ?_
  rintro e V' ⟨eb', g', rfl, D⟩
  obtain ⟨fp, x, d1, d2, d3, d4, d5⟩ := D.out
  exact ⟨eb', ptrs eb k, rfl, ⟨eb, _, h1.add d1 d2 d3 d4 d5, rfl⟩, row_fe h2 (Fe.below d3 (fun _ => False)) (fun _ _ e => e), (d3.block _ (block_lt h.cf)).trans h.cf, (d3.block _ (block_lt h.rq)).trans h.rq⟩
theorem Zm.append {w : World} {c : Cf} {cb : Nat} {rq : Array Value} {k : Nat} {v : Value} {xs : List Value} {eb' : Nat} {V V2 : World} (h : Zm w c cb rq k v xs eb' V) {v' : Value} (ho : V2.ownsRow w.heap.size 28 1 v' (k + 1) (xs ++ [.pointer (some ⟨eb', 0, none⟩)])) (gr : V.grownBy V2 v.ownBlock) : Zn w c cb rq (k + 1) v' V2 := by
  obtain ⟨eb, g, h1, rfl⟩ := h.ge
  have kp : ∀ {b : Nat} {cs : Array Value} {t : TypeId}, V.heap[b]? = some (.cells cs t (0, 0)) → t ≠ 28 → V2.heap[b]? = some (.cells cs t (0, 0)) := fun {b cs t} hb ht => (gr.block _ (block_lt hb) (fun e => by
    obtain ⟨cur, h3⟩ := row_ty h.ow e.symm
    rw [h3] at hb
    cases hb
    exact ht rfl)).trans hb
  rw [ptrs_up] at ho
  exact ⟨⟨_, g, h1.grow h.ow gr, ho⟩, kp h.cf (by decide), kp h.rq (by decide)⟩
theorem Zn.gl {w : World} {c : Cf} {cb : Nat} {rq : Array Value} {k : Nat} {v : Value} {V : World} (h : Zn w c cb rq k v V) (hk : 1 ≤ k) : ∃ eb g rb cap, v = .slice (some ⟨rb, 0, none⟩) k cap ∧ k ≤ cap ∧ cap ≤ 9223372036854775807 ∧ GL w c k eb g rb (fun b => b = w.heap.size) (s00 c.ep) V := by
  obtain ⟨eb, g, h1, h2⟩ := h.ge
  obtain ⟨rb, cap, e1, e2, e3, e4⟩ := h1.gl hk h2
  exact ⟨eb, g, rb, cap, e1, e2, e3, e4⟩
end Go.Proofs.Ytkdciomijemmiaa
namespace Go.Proofs.Ytkdciomijemmiaa
open Go.RowKit Crc

theorem stateG {w : World} {c : Cf} {N : Nat} {eb g : Nat → Nat} {rb : Nat} {pb : Nat → Prop} {s : Nat → Ev} {W : World} (h : GL w c N eb g rb pb s W) {i : Nat} (hi : i < N) (nu : Nat) (no : Int) (su le fi : Nat) (h1 : (s i).num = nu) (h2 : (s i).node = no) (h3 : (s i).sus = su) (h4 : (s i).len = le) (h5 : (s i).fin = fi) :
    Calls Try.prog 15 #[.pointer (some ⟨eb i, 0, none⟩)] W fun e W' => ∃ ao n cap ao' m cap', e = .returned (.agg #[.int .u64 (nu : Nat), .int .i64 no, .int .u32 (su : Nat), .int .u64 (le : Nat), .int .u64 (fi : Nat), .slice ao n cap, .slice ao' m cap']) ∧ Hid (Below W.heap.size W W') := by
  obtain ⟨x, e1, e2, _⟩ := h.el hi
  have a1 : x.num = nu := by rw [← h1, ← e2]; rfl
  have a2 : x.node = no := by rw [← h2, ← e2]; rfl
  have a3 : x.sus = su := by rw [← h3, ← e2]; rfl
  have a4 : x.len = le := by rw [← h4, ← e2]; rfl
  have a5 : x.fin = fi := by rw [← h5, ← e2]; rfl
  rw [← a1, ← a2, ← a3, ← a4, ← a5]
  refine (stateE e1).mono ?_
  rintro e W' ⟨ao, cap, ao', cap', rfl, hb⟩
  exact ⟨ao, _, cap, ao', _, cap', rfl, hb.out⟩
/-- The elections, the configuration and the request. -/
structure Gt (w : World) (c : Cf) (N : Nat) (eb g : Nat → Nat) (rb cb : Nat) (rq : Array Value) (s : Nat → Ev) (V : World) : Prop where
  gl : GL w c N eb g rb (fun b => b = w.heap.size) s V
  cf : V.heap[cb]? = some (.cells c.cells 26 (0, 0))
  rq : V.heap[w.heap.size]? = some (.cells rq 36 (0, 0))
theorem Gt.next {w : World} {c : Cf} {N : Nat} {eb g : Nat → Nat} {rb cb : Nat} {rq : Array Value} {s s' : Nat → Ev} {V V' : World} (h : Gt w c N eb g rb cb rq s V) (hg : GL w c N eb g rb (fun b => b = w.heap.size) s' V') (hk : Kp (fun b => b = w.heap.size) V V') : Gt w c N eb g rb cb rq s' V' :=
  ⟨hg, hk.keep _ _ _ h.cf (.inl (by unfold Tt; decide)), hk.keep _ _ _ h.rq (.inr rfl)⟩
theorem Gt.kept {w : World} {c : Cf} {N : Nat} {eb g : Nat → Nat} {rb cb : Nat} {rq : Array Value} {s : Nat → Ev} {V V' : World} (h : Gt w c N eb g rb cb rq s V) (hb : Below V.heap.size V V') : Gt w c N eb g rb cb rq s V' := h.next (h.gl.kept hb) (Kp.below hb)
/-- And the highest view. -/
structure Gtop (w : World) (c : Cf) (N : Nat) (eb g : Nat → Nat) (rb cb : Nat) (rq : Array Value) (s : Nat → Ev) (tb : Nat) (top : Nat × Int) (V : World) : Prop where
  gt : Gt w c N eb g rb cb rq s V
  tp : V.heap[tb]? = some (.cells #[.int .u64 (top.1 : Nat), .int .i64 top.2] 45 (0, 0))
  tl : w.heap.size ≤ tb
theorem Gtop.next {w : World} {c : Cf} {N : Nat} {eb g : Nat → Nat} {rb cb : Nat} {rq : Array Value} {s s' : Nat → Ev} {tb : Nat} {top : Nat × Int} {V V' : World} (h : Gtop w c N eb g rb cb rq s tb top V) (hg : GL w c N eb g rb (fun b => b = w.heap.size) s' V') (hk : Kp (fun b => b = w.heap.size) V V') : Gtop w c N eb g rb cb rq s' tb top V' :=
  ⟨h.gt.next hg hk, hk.keep _ _ _ h.tp (.inl notTt_bal), h.tl⟩
theorem Gtop.kept {w : World} {c : Cf} {N : Nat} {eb g : Nat → Nat} {rb cb : Nat} {rq : Array Value} {s : Nat → Ev} {tb : Nat} {top : Nat × Int} {V V' : World} (h : Gtop w c N eb g rb cb rq s tb top V) (hb : Below V.heap.size V V') : Gtop w c N eb g rb cb rq s tb top V' := h.next (h.gt.gl.kept hb) (Kp.below hb)
theorem set2_block {V : World} {tb : Nat} {a b u v : Value} {t : TypeId} (h : V.heap[tb]? = some (.cells #[a, b] t (0, 0))) : ((V.setCell ⟨tb, 0, none⟩ u).setCell ⟨tb, 1, none⟩ v).heap[tb]? = some (.cells #[u, v] t (0, 0)) := by
  have h1 := heap_setCell_same V tb 0 _ _ u h
  have h2 := heap_setCell_same _ tb 1 _ _ v h1
  rw [h2]
  simp
/-- Another highest view. -/
theorem Gtop.set {w : World} {c : Cf} {N : Nat} {eb g : Nat → Nat} {rb cb : Nat} {rq : Array Value} {s : Nat → Ev} {tb : Nat} {top : Nat × Int} {V : World} (h : Gtop w c N eb g rb cb rq s tb top V) (v : Nat × Int) : Gtop w c N eb g rb cb rq s tb v ((V.setCell ⟨tb, 0, none⟩ (.int .u64 (v.1 : Nat))).setCell ⟨tb, 1, none⟩ (.int .i64 v.2)) := by
  have gr : V.grownBy ((V.setCell ⟨tb, 0, none⟩ (.int .u64 (v.1 : Nat))).setCell ⟨tb, 1, none⟩ (.int .i64 v.2)) (some tb) := grown_trans (row := some tb) (grown_set V tb 0 _) (grown_set _ tb 1 _)
  have kp : ∀ {b : Nat} {cs : Array Value} {t : TypeId}, V.heap[b]? = some (.cells cs t (0, 0)) → t ≠ 45 → ((V.setCell ⟨tb, 0, none⟩ (.int .u64 (v.1 : Nat))).setCell ⟨tb, 1, none⟩ (.int .i64 v.2)).heap[b]? = some (.cells cs t (0, 0)) := fun {b cs t} hb ht => (gr.block _ (block_lt hb) (fun e => by
    cases e
    rw [h.tp] at hb
    cases hb
    exact ht rfl)).trans hb
  exact ⟨⟨h.gt.gl.turn h.tp notTt_bal (by decide) (by decide) h.tl gr, kp h.gt.cf (by decide), kp h.gt.rq (by decide)⟩, set2_block h.tp, h.tl⟩
end Go.Proofs.Ytkdciomijemmiaa
namespace Go.Proofs.Ytkdciomijemmiaa
open Go.RowKit Crc

theorem bt_num {c : Cf} {now : Nat} {e : Ev} {src : Nat} {v : Nat × Int} {b : Bool} {M : Nat} (h1 : e.num ≤ M) (h2 : v.1 ≤ M) : (bt c now e src v b).num ≤ M := by
  unfold bt
  rcases beat_same (c := c) (e := e) (src := src) (kind := 8) (num := v.1) (node := v.2) (susp := b) (now := now) with q | q | ⟨_, _, q⟩
  · rw [q]; exact h1
  · rw [q, susp_num]; exact h1
  · rw [q, susp_num]; exact h2
theorem bts_num {c : Cf} {now N M : Nat} {s : Nat → Ev} (h : ∀ i, i < N → (s i).num ≤ M) : ∀ k, k ≤ N → ∀ i, i < N → (bts c now (tmo c now s) k i).num ≤ M := by
  intro k
  induction k with
  | zero =>
    intro _ i hi
    have : (tmo c now s i).num = (s i).num := congrArg Prod.fst (tmo_vw c now s i)
    show (tmo c now s i).num ≤ M
    rw [this]; exact h i hi
  | succ k ih =>
    intro hk i hi
    exact bt_num (ih (by omega) i hi) (ih (by omega) k (by omega))
theorem Tj.num {N : Nat} {c : Cf} {now0 : Nat} {top : Nat × Int} {t : Nat} {s : Nat → Ev} (h : Tj N c now0 top t s) : ∀ i, i < N → (s i).num ≤ top.1 + 1 := by
  intro i hi
  rcases h with ⟨_, h⟩ | ⟨_, h⟩ | ⟨_, h⟩
  · have h1 := h.le i hi
    have : (s i).vw.1 = (s i).num := rfl
    unfold vlt at h1
    omega
  · have : (s i).num = top.1 := congrArg Prod.fst (h.vw i hi)
    omega
  · rcases h.cs i hi with e | ⟨e, _⟩
    · have : (s i).num = top.1 := congrArg Prod.fst e
      omega
    · have h1 : (s i).num = (nxt c top).1 := congrArg Prod.fst e
      have h2 : (nxt c top).1 ≤ top.1 + 1 := by unfold nxt; split <;> simp
      omega
end Go.Proofs.Ytkdciomijemmiaa
