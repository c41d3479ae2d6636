import Derived.Test.YtldhafpeigdloaaGreatDoorM24
import Derived.Test.YtldhafpeigdloaaGreatDoorM8
import Derived.Test.YtldhafpeigdloaaGreatDoorM11
import Derived.Test.YtldhafpeigdloaaGreatDoorM32
import Derived.Test.YtldhafpeigdloaaGreatDoorM26
import Derived.Test.YtldhafpeigdloaaGreatDoorM25
namespace Go.Proofs.YtldhafpeigdloaaGreatDoor
open Go.RowKit Crc

theorem encR_val {r : Rq} (h : r.cn = r.C.length) : encR r = encV r.val := by unfold encR encV Rq.val; rw [h]
theorem encL_val (st : Nat) : ∀ (rs : List Rq), (∀ r ∈ rs, r.cn = r.C.length) → encL st rs = encVs st (rs.map Rq.val) := by
  intro rs h
  unfold encL encVs
  rw [List.length_map, List.map_map]
  congr 3
  exact List.map_congr_left (fun r hr => encR_val (h r hr))
theorem why_val {r : Rq} (h : r.cn = r.C.length) (h1 : r.cl < 18446744073709551616) (h2 : r.sq < 18446744073709551616) : r.why = 0 ↔ VOk r.val := by
  unfold Rq.why VOk Rq.val
  by_cases a : r.cl < 256
  · rw [if_pos a]; simp; omega
  · rw [if_neg a]
    by_cases b : 700 < r.cn
    · rw [if_pos b]; simp; omega
    · rw [if_neg b]; simp; omega
theorem bGo_why : ∀ (rs : List Rq) (i : Nat), (bGo rs i).2 = 0 ↔ ∀ r ∈ rs, r.why = 0
  | [], _ => by simp [bGo]
  | r :: t, i => by
    rw [bGo]
    by_cases h : r.why = 0
    · rw [if_pos h, bGo_why t]; simp [h]
    · rw [if_neg h]; simp [h]
/-- Requests with sound numbers. -/
def Num (rs : List Rq) : Prop := ∀ r ∈ rs, r.cn = r.C.length ∧ r.cl < 18446744073709551616 ∧ r.sq < 18446744073709551616
theorem Rqs.nums {lim : Nat} {w : World} {ro : Option Addr} {rs : List Rq} {b off : Nat} (h : Rqs lim w ro rs b off) : Num rs := fun r hr => ⟨(h.ok r hr).hC.1, (h.ok r hr).hc, (h.ok r hr).hs⟩
theorem bFault_iff {st : Nat} {rs : List Rq} (h : Num rs) : (bFault st rs).2 = 0 ↔ VsOk st (rs.map Rq.val) := by
  unfold bFault VsOk
  rw [List.length_map]
  by_cases a : 1099511627776 < st
  · rw [if_pos a]; simp; omega
  · rw [if_neg a]
    by_cases b : 8 < rs.length
    · rw [if_pos b]; simp; omega
    · rw [if_neg b, bGo_why]
      simp only [List.mem_map]
      constructor
      · intro hw
        refine ⟨by omega, by omega, ?_⟩
        rintro v ⟨r, hr, rfl⟩
        exact (why_val (h r hr).1 (h r hr).2.1 (h r hr).2.2).1 (hw r hr)
      · rintro ⟨_, _, hv⟩ r hr
        exact (why_val (h r hr).1 (h r hr).2.1 (h r hr).2.2).2 (hv _ ⟨r, hr, rfl⟩)
end Go.Proofs.YtldhafpeigdloaaGreatDoor
namespace Go.Proofs.YtldhafpeigdloaaGreatDoor
open Go.RowKit Crc

/-- Is a field blank? -/
def blankAt (v : Mv) : Nat → Prop
  | 1 => v.num = 0 ∧ v.node = 0
  | 2 => v.slot = 0
  | 3 => v.low = 0
  | 4 => v.votes = []
  | 5 => v.bst = 0 ∧ v.V = []
  | 6 => v.seq = 0
  | 7 => v.stamp = 0
  | 8 => v.code = 0
  | 9 => v.cmd = []
  | 10 => v.data = []
  | 11 => v.sus = false
  | 12 => v.idx = 0
  | 13 => v.cnt = 0
  | 14 => v.root = List.replicate 32 0
  | 15 => v.path = []
  | _ => True
/-- A message that may be. -/
structure Mv.Ok (k : Nat) (v : Mv) : Prop where
  k1 : 1 ≤ k
  k10 : k ≤ 10
  ok : ∀ f ∈ mfOf k, f.ok v
  bl : ∀ j, 1 ≤ j → j ≤ 15 → (∀ f ∈ mfOf k, f.ix ≠ j) → blankAt v j
theorem j_cases {j : Nat} (h1 : 1 ≤ j) (h2 : j ≤ 15) : j = 1 ∨ j = 2 ∨ j = 3 ∨ j = 4 ∨ j = 5 ∨ j = 6 ∨ j = 7 ∨ j = 8 ∨ j = 9 ∨ j = 10 ∨ j = 11 ∨ j = 12 ∨ j = 13 ∨ j = 14 ∨ j = 15 := by omega
theorem k_cases {j : Nat} (h1 : 1 ≤ j) (h2 : j ≤ 10) : j = 1 ∨ j = 2 ∨ j = 3 ∨ j = 4 ∨ j = 5 ∨ j = 6 ∨ j = 7 ∨ j = 8 ∨ j = 9 ∨ j = 10 := by omega
theorem upd_set (g : Mf) (s : RS) (a : Mv) : ∃ b, g.upd s a = g.set b a := by
  refine ⟨g.upd s a, ?_⟩
  cases g <;> simp only [Mf.upd, Mf.set]
theorem blank_set (g : Mf) (b a : Mv) {j : Nat} (h1 : 1 ≤ j) (h2 : j ≤ 15) (h : g.ix ≠ j) : blankAt (g.set b a) j = blankAt a j := by
  rcases j_cases h1 h2 with rfl | rfl | rfl | rfl | rfl | rfl | rfl | rfl | rfl | rfl | rfl | rfl | rfl | rfl | rfl
  all_goals cases g
  all_goals first | exact absurd rfl h | rfl
theorem blank_upd (g : Mf) (s : RS) (a : Mv) {j : Nat} (h1 : 1 ≤ j) (h2 : j ≤ 15) (h : g.ix ≠ j) : blankAt (g.upd s a) j = blankAt a j := by
  obtain ⟨b, e⟩ := upd_set g s a
  rw [e]
  exact blank_set g b a h1 h2 h
theorem blank_run : ∀ (fs : List Mf) (s : RS) (a : Mv) {j : Nat}, 1 ≤ j → j ≤ 15 → (∀ f ∈ fs, f.ix ≠ j) → blankAt (mrun fs s a).2 j = blankAt a j
  | [], _, _, _, _, _, _ => rfl
  | f :: t, s, a, j, h1, h2, h => by
    rw [mrun, blank_run t _ _ h1 h2 (fun g hg => h g (by simp [hg])), blank_upd f s a h1 h2 (h f (by simp))]
theorem blank0 {j : Nat} (h1 : 1 ≤ j) (h2 : j ≤ 15) : blankAt mk0.mv j := by
  rcases j_cases h1 h2 with rfl | rfl | rfl | rfl | rfl | rfl | rfl | rfl | rfl | rfl | rfl | rfl | rfl | rfl | rfl
  all_goals first | exact rfl | exact ⟨rfl, rfl⟩
def Far (f g : Mf) : Prop := f.ix ≠ g.ix ∧ ¬ (f = .votes ∧ g = .low) ∧ ¬ (f = .total ∧ g = .index)
instance (f g : Mf) : Decidable (Far f g) := by unfold Far; exact inferInstance
theorem far_set {f g : Mf} (h : Far f g) (b a : Mv) : f.enc (g.set b a) = f.enc a ∧ (f.ok (g.set b a) ↔ f.ok a) := by
  obtain ⟨h1, h2, h3⟩ := h
  cases f <;> cases g <;> first | exact absurd rfl h1 | exact absurd ⟨rfl, rfl⟩ h2 | exact absurd ⟨rfl, rfl⟩ h3 | exact ⟨rfl, Iff.rfl⟩
theorem far_any {f g : Mf} (h : Far f g) (s : RS) (a : Mv) : f.enc (g.upd s a) = f.enc a ∧ (f.ok (g.upd s a) ↔ f.ok a) := by
  obtain ⟨b, e⟩ := upd_set g s a
  rw [e]
  exact far_set h b a
theorem far_run {f : Mf} : ∀ (t : List Mf) (s : RS) (a : Mv), (∀ g ∈ t, Far f g) → f.enc (mrun t s a).2 = f.enc a ∧ (f.ok (mrun t s a).2 ↔ f.ok a)
  | [], _, _, _ => ⟨rfl, Iff.rfl⟩
  | g :: t, s, a, h => by
    obtain ⟨x, y⟩ := far_run t (g.nxt s a) (g.upd s a) (fun q hq => h q (by simp [hq]))
    obtain ⟨p, q⟩ := far_any (h g (by simp)) s a
    rw [mrun]
    exact ⟨x.trans p, y.trans q⟩
theorem mrun_sound : ∀ (t : List Mf) (s : RS) (a : Mv), (mrun t s a).1.sound → s.sound
  | [], _, _, h => h
  | f :: t, s, a, h => nx_sound (mrun_sound t _ _ (by rw [mrun] at h; exact h))
theorem mrun_inv : ∀ (fs : List Mf) (s : RS) (a : Mv), (∀ x ∈ s.rest, x < 256) → fs.Pairwise Far → (mrun fs s a).1.sound → s.rest = encs fs (mrun fs s a).2 ++ (mrun fs s a).1.rest ∧ ∀ f ∈ fs, f.ok (mrun fs s a).2
  | [], s, a, _, _, _ => ⟨rfl, fun f hf => by cases hf⟩
  | f :: t, s, a, hb, hp, h => by
    rw [mrun] at h ⊢
    obtain ⟨p1, p2⟩ := List.pairwise_cons.1 hp
    have h1 := mrun_sound t _ _ h
    obtain ⟨x, y⟩ := mf_inv f hb (nx_sound h1) h1
    obtain ⟨p, q⟩ := mrun_inv t (f.nxt s a) (f.upd s a) (tail_lt hb x) p2 h
    obtain ⟨e, o⟩ := far_run t (f.nxt s a) (f.upd s a) p1
    refine ⟨?_, fun g hg => ?_⟩
    · rw [x, p]
      simp only [encs, List.map_cons, List.flatten_cons, List.append_assoc, e]
    · rcases List.mem_cons.1 hg with rfl | hg
      · exact o.2 y
      · exact q g hg
theorem mf_far {k : Nat} (h1 : 1 ≤ k) (h2 : k ≤ 10) : (mfOf k).Pairwise Far := by
  rcases k_cases h1 h2 with rfl | rfl | rfl | rfl | rfl | rfl | rfl | rfl | rfl | rfl <;> decide
/-- What is read as a message is laid down just so, and may be. -/
theorem msg_inv {K : Nat} {B : List Nat} (hb : ∀ x ∈ B, x < 256) (h : mdC K B = 0) : B.drop 8 = encs (mfOf K) (dRun K B).2 ∧ (dRun K B).2.Ok K := by
  unfold mdC at h
  by_cases hk : K < 1 ∨ 10 < K
  · rw [if_pos hk] at h; cases h
  · rw [if_neg hk] at h
    obtain ⟨he, hr⟩ := end_rest h
    obtain ⟨p, q⟩ := mrun_inv (mfOf K) ⟨true, 0, 0, B, 8, KR⟩ mk0.mv (fun x hx => hb x (List.mem_of_mem_drop hx)) (mf_far (by omega) (by omega)) he
    refine ⟨?_, by omega, by omega, q, fun j j1 j2 hj => ?_⟩
    · have e : (mrun (mfOf K) ⟨true, 0, 0, B, 8, KR⟩ mk0.mv).1.rest = [] := hr
      rw [e, List.append_nil] at p
      exact p
    · show blankAt (mrun (mfOf K) ⟨true, 0, 0, B, 8, KR⟩ mk0.mv).2 j
      rw [blank_run _ _ _ j1 j2 hj]
      exact blank0 j1 j2
theorem sets_all {k : Nat} {v : Mv} (h : v.Ok k) : deps v (mfOf k) mk0.mv ∧ sets v (mfOf k) mk0.mv = v := by
  have hb := h.bl
  obtain ⟨num, node, slot, low, votes, bst, V, seq, stamp, code, cmd, data, sus, idx, cnt, root, path⟩ := v
  rcases k_cases h.k1 h.k10 with rfl | rfl | rfl | rfl | rfl | rfl | rfl | rfl | rfl | rfl
  · obtain ⟨rfl, rfl⟩ : num = 0 ∧ node = 0 := hb 1 (by omega) (by omega) (by decide)
    obtain rfl : slot = 0 := hb 2 (by omega) (by omega) (by decide)
    obtain rfl : low = 0 := hb 3 (by omega) (by omega) (by decide)
    obtain rfl : votes = [] := hb 4 (by omega) (by omega) (by decide)
    obtain ⟨rfl, rfl⟩ : bst = 0 ∧ V = [] := hb 5 (by omega) (by omega) (by decide)
    obtain rfl : stamp = 0 := hb 7 (by omega) (by omega) (by decide)
    obtain rfl : code = 0 := hb 8 (by omega) (by omega) (by decide)
    obtain rfl : data = [] := hb 10 (by omega) (by omega) (by decide)
    obtain rfl : sus = false := hb 11 (by omega) (by omega) (by decide)
    obtain rfl : idx = 0 := hb 12 (by omega) (by omega) (by decide)
    obtain rfl : cnt = 0 := hb 13 (by omega) (by omega) (by decide)
    obtain rfl : root = List.replicate 32 0 := hb 14 (by omega) (by omega) (by decide)
    obtain rfl : path = [] := hb 15 (by omega) (by omega) (by decide)
    exact ⟨⟨trivial, trivial, trivial⟩, rfl⟩
  · obtain ⟨rfl, rfl⟩ : num = 0 ∧ node = 0 := hb 1 (by omega) (by omega) (by decide)
    obtain rfl : slot = 0 := hb 2 (by omega) (by omega) (by decide)
    obtain rfl : low = 0 := hb 3 (by omega) (by omega) (by decide)
    obtain rfl : votes = [] := hb 4 (by omega) (by omega) (by decide)
    obtain ⟨rfl, rfl⟩ : bst = 0 ∧ V = [] := hb 5 (by omega) (by omega) (by decide)
    obtain rfl : cmd = [] := hb 9 (by omega) (by omega) (by decide)
    obtain rfl : sus = false := hb 11 (by omega) (by omega) (by decide)
    obtain rfl : idx = 0 := hb 12 (by omega) (by omega) (by decide)
    obtain rfl : cnt = 0 := hb 13 (by omega) (by omega) (by decide)
    obtain rfl : root = List.replicate 32 0 := hb 14 (by omega) (by omega) (by decide)
    obtain rfl : path = [] := hb 15 (by omega) (by omega) (by decide)
    exact ⟨⟨trivial, trivial, trivial, trivial, trivial⟩, rfl⟩
  · obtain rfl : slot = 0 := hb 2 (by omega) (by omega) (by decide)
    obtain rfl : low = 0 := hb 3 (by omega) (by omega) (by decide)
    obtain rfl : votes = [] := hb 4 (by omega) (by omega) (by decide)
    obtain ⟨rfl, rfl⟩ : bst = 0 ∧ V = [] := hb 5 (by omega) (by omega) (by decide)
    obtain rfl : seq = 0 := hb 6 (by omega) (by omega) (by decide)
    obtain rfl : stamp = 0 := hb 7 (by omega) (by omega) (by decide)
    obtain rfl : code = 0 := hb 8 (by omega) (by omega) (by decide)
    obtain rfl : cmd = [] := hb 9 (by omega) (by omega) (by decide)
    obtain rfl : data = [] := hb 10 (by omega) (by omega) (by decide)
    obtain rfl : sus = false := hb 11 (by omega) (by omega) (by decide)
    obtain rfl : idx = 0 := hb 12 (by omega) (by omega) (by decide)
    obtain rfl : cnt = 0 := hb 13 (by omega) (by omega) (by decide)
    obtain rfl : root = List.replicate 32 0 := hb 14 (by omega) (by omega) (by decide)
    obtain rfl : path = [] := hb 15 (by omega) (by omega) (by decide)
    exact ⟨⟨trivial, trivial⟩, rfl⟩
  · obtain rfl : slot = 0 := hb 2 (by omega) (by omega) (by decide)
    obtain ⟨rfl, rfl⟩ : bst = 0 ∧ V = [] := hb 5 (by omega) (by omega) (by decide)
    obtain rfl : seq = 0 := hb 6 (by omega) (by omega) (by decide)
    obtain rfl : stamp = 0 := hb 7 (by omega) (by omega) (by decide)
    obtain rfl : code = 0 := hb 8 (by omega) (by omega) (by decide)
    obtain rfl : cmd = [] := hb 9 (by omega) (by omega) (by decide)
    obtain rfl : data = [] := hb 10 (by omega) (by omega) (by decide)
    obtain rfl : sus = false := hb 11 (by omega) (by omega) (by decide)
    obtain rfl : idx = 0 := hb 12 (by omega) (by omega) (by decide)
    obtain rfl : cnt = 0 := hb 13 (by omega) (by omega) (by decide)
    obtain rfl : root = List.replicate 32 0 := hb 14 (by omega) (by omega) (by decide)
    obtain rfl : path = [] := hb 15 (by omega) (by omega) (by decide)
    exact ⟨⟨trivial, trivial, rfl, trivial⟩, rfl⟩
  · obtain rfl : slot = 0 := hb 2 (by omega) (by omega) (by decide)
    obtain rfl : votes = [] := hb 4 (by omega) (by omega) (by decide)
    obtain ⟨rfl, rfl⟩ : bst = 0 ∧ V = [] := hb 5 (by omega) (by omega) (by decide)
    obtain rfl : seq = 0 := hb 6 (by omega) (by omega) (by decide)
    obtain rfl : stamp = 0 := hb 7 (by omega) (by omega) (by decide)
    obtain rfl : code = 0 := hb 8 (by omega) (by omega) (by decide)
    obtain rfl : cmd = [] := hb 9 (by omega) (by omega) (by decide)
    obtain rfl : data = [] := hb 10 (by omega) (by omega) (by decide)
    obtain rfl : sus = false := hb 11 (by omega) (by omega) (by decide)
    obtain rfl : idx = 0 := hb 12 (by omega) (by omega) (by decide)
    obtain rfl : cnt = 0 := hb 13 (by omega) (by omega) (by decide)
    obtain rfl : root = List.replicate 32 0 := hb 14 (by omega) (by omega) (by decide)
    obtain rfl : path = [] := hb 15 (by omega) (by omega) (by decide)
    exact ⟨⟨trivial, trivial, trivial⟩, rfl⟩
  · obtain rfl : low = 0 := hb 3 (by omega) (by omega) (by decide)
    obtain rfl : votes = [] := hb 4 (by omega) (by omega) (by decide)
    obtain rfl : seq = 0 := hb 6 (by omega) (by omega) (by decide)
    obtain rfl : stamp = 0 := hb 7 (by omega) (by omega) (by decide)
    obtain rfl : code = 0 := hb 8 (by omega) (by omega) (by decide)
    obtain rfl : cmd = [] := hb 9 (by omega) (by omega) (by decide)
    obtain rfl : data = [] := hb 10 (by omega) (by omega) (by decide)
    obtain rfl : sus = false := hb 11 (by omega) (by omega) (by decide)
    obtain rfl : idx = 0 := hb 12 (by omega) (by omega) (by decide)
    obtain rfl : cnt = 0 := hb 13 (by omega) (by omega) (by decide)
    obtain rfl : root = List.replicate 32 0 := hb 14 (by omega) (by omega) (by decide)
    obtain rfl : path = [] := hb 15 (by omega) (by omega) (by decide)
    exact ⟨⟨trivial, trivial, trivial, trivial⟩, rfl⟩
  · obtain rfl : low = 0 := hb 3 (by omega) (by omega) (by decide)
    obtain rfl : votes = [] := hb 4 (by omega) (by omega) (by decide)
    obtain rfl : seq = 0 := hb 6 (by omega) (by omega) (by decide)
    obtain rfl : stamp = 0 := hb 7 (by omega) (by omega) (by decide)
    obtain rfl : code = 0 := hb 8 (by omega) (by omega) (by decide)
    obtain rfl : cmd = [] := hb 9 (by omega) (by omega) (by decide)
    obtain rfl : data = [] := hb 10 (by omega) (by omega) (by decide)
    obtain rfl : sus = false := hb 11 (by omega) (by omega) (by decide)
    obtain rfl : idx = 0 := hb 12 (by omega) (by omega) (by decide)
    obtain rfl : cnt = 0 := hb 13 (by omega) (by omega) (by decide)
    obtain rfl : root = List.replicate 32 0 := hb 14 (by omega) (by omega) (by decide)
    obtain rfl : path = [] := hb 15 (by omega) (by omega) (by decide)
    exact ⟨⟨trivial, trivial, trivial, trivial⟩, rfl⟩
  · obtain rfl : low = 0 := hb 3 (by omega) (by omega) (by decide)
    obtain rfl : votes = [] := hb 4 (by omega) (by omega) (by decide)
    obtain ⟨rfl, rfl⟩ : bst = 0 ∧ V = [] := hb 5 (by omega) (by omega) (by decide)
    obtain rfl : seq = 0 := hb 6 (by omega) (by omega) (by decide)
    obtain rfl : stamp = 0 := hb 7 (by omega) (by omega) (by decide)
    obtain rfl : code = 0 := hb 8 (by omega) (by omega) (by decide)
    obtain rfl : cmd = [] := hb 9 (by omega) (by omega) (by decide)
    obtain rfl : data = [] := hb 10 (by omega) (by omega) (by decide)
    obtain rfl : idx = 0 := hb 12 (by omega) (by omega) (by decide)
    obtain rfl : cnt = 0 := hb 13 (by omega) (by omega) (by decide)
    obtain rfl : root = List.replicate 32 0 := hb 14 (by omega) (by omega) (by decide)
    obtain rfl : path = [] := hb 15 (by omega) (by omega) (by decide)
    exact ⟨⟨trivial, trivial, trivial, trivial⟩, rfl⟩
  · obtain ⟨rfl, rfl⟩ : num = 0 ∧ node = 0 := hb 1 (by omega) (by omega) (by decide)
    obtain rfl : low = 0 := hb 3 (by omega) (by omega) (by decide)
    obtain rfl : votes = [] := hb 4 (by omega) (by omega) (by decide)
    obtain ⟨rfl, rfl⟩ : bst = 0 ∧ V = [] := hb 5 (by omega) (by omega) (by decide)
    obtain rfl : seq = 0 := hb 6 (by omega) (by omega) (by decide)
    obtain rfl : stamp = 0 := hb 7 (by omega) (by omega) (by decide)
    obtain rfl : code = 0 := hb 8 (by omega) (by omega) (by decide)
    obtain rfl : cmd = [] := hb 9 (by omega) (by omega) (by decide)
    obtain rfl : data = [] := hb 10 (by omega) (by omega) (by decide)
    obtain rfl : sus = false := hb 11 (by omega) (by omega) (by decide)
    obtain rfl : cnt = 0 := hb 13 (by omega) (by omega) (by decide)
    obtain rfl : root = List.replicate 32 0 := hb 14 (by omega) (by omega) (by decide)
    obtain rfl : path = [] := hb 15 (by omega) (by omega) (by decide)
    exact ⟨⟨trivial, trivial, trivial⟩, rfl⟩
  · obtain ⟨rfl, rfl⟩ : num = 0 ∧ node = 0 := hb 1 (by omega) (by omega) (by decide)
    obtain rfl : low = 0 := hb 3 (by omega) (by omega) (by decide)
    obtain rfl : votes = [] := hb 4 (by omega) (by omega) (by decide)
    obtain ⟨rfl, rfl⟩ : bst = 0 ∧ V = [] := hb 5 (by omega) (by omega) (by decide)
    obtain rfl : seq = 0 := hb 6 (by omega) (by omega) (by decide)
    obtain rfl : stamp = 0 := hb 7 (by omega) (by omega) (by decide)
    obtain rfl : code = 0 := hb 8 (by omega) (by omega) (by decide)
    obtain rfl : cmd = [] := hb 9 (by omega) (by omega) (by decide)
    obtain rfl : sus = false := hb 11 (by omega) (by omega) (by decide)
    exact ⟨⟨trivial, trivial, rfl, trivial, trivial, trivial, trivial⟩, rfl⟩
/-- A message that may be is read back. -/
theorem msg_fwd {K : Nat} {B : List Nat} {v : Mv} (hv : v.Ok K) (h : B.drop 8 = encs (mfOf K) v) : mdC K B = 0 ∧ (dRun K B).2 = v := by
  obtain ⟨d1, d2⟩ := sets_all hv
  obtain ⟨x, y, z⟩ := mrun_fwd v (mfOf K) ⟨true, 0, 0, B, 8, KR⟩ mk0.mv [] ⟨rfl, rfl⟩ hv.ok d1 (by rw [List.append_nil]; exact h)
  have k1 := hv.k1
  have k10 := hv.k10
  refine ⟨?_, z.trans d2⟩
  unfold mdC
  rw [if_neg (by omega)]
  exact rest_end x y
end Go.Proofs.YtldhafpeigdloaaGreatDoor
namespace Go.Proofs.YtldhafpeigdloaaGreatDoor
open Go.RowKit Crc

theorem Calls.atW {P : Program} {f : FuncId} {args : Array Value} {w w' : World} {Q : Ending → World → Prop} (e : w = w') (h : Calls P f args w' Q) : Calls P f args w Q := by rw [e]; exact h
end Go.Proofs.YtldhafpeigdloaaGreatDoor
namespace Go.Proofs.YtldhafpeigdloaaGreatDoor
open Go.RowKit Crc

/-- A batch in a box, its lists between lo and the box. -/
structure Bx (lo p st N : Nat) (vo : Option Addr) (vc : Nat) (V : List (Nat × Nat × List Nat)) (rs : List Rq) (W : World) : Prop where
  box : W.heap[p]? = some (.cells #[.int .u64 (st : Int), .slice vo N vc] 29 (0, 0))
  bt : Bt lo W (.slice vo N vc) rs
  val : rs.map Rq.val = V
  top : ∀ g, (Value.slice vo N vc).ownBlock = some g → g < p
  topB : ∀ g, inB rs g → g < p
  hlo : lo ≤ p
theorem Bx.out {S : Nat → Prop} {lo p st N : Nat} {vo : Option Addr} {vc : Nat} {V : List (Nat × Nat × List Nat)} {rs : List Rq} {W W' : World} (h : Bx lo p st N vo vc V rs W) (ho : Out S W W') (hS : ∀ g, S g → ¬ (lo ≤ g ∧ g ≤ p)) : Bx lo p st N vo vc V rs W' :=
  ⟨(ho.block p (block_lt h.box) (fun e => hS p e ⟨h.hlo, Nat.le_refl _⟩)).trans h.box,
   h.bt.out ho (fun g e hs => hS g hs ⟨(h.bt.lt g e).1, Nat.le_of_lt (h.top g e)⟩) (fun g e hs => hS g hs ⟨(h.bt.ltB g e).1, Nat.le_of_lt (h.topB g e)⟩), h.val, h.top, h.topB, h.hlo⟩
theorem out_grown {w w' : World} {row : Option Nat} (h : w.grownBy w' row) : Out (fun q => row = some q) w w' := ⟨h.os, h.tape, h.output, h.size, fun q hq hn => h.block q hq (fun e => hn e.symm)⟩
theorem Bx.quiet {lo p st N : Nat} {vo : Option Addr} {vc : Nat} {V : List (Nat × Nat × List Nat)} {rs : List Rq} {W W' : World} (h : Bx lo p st N vo vc V rs W) (hg : W.grownBy W' none) : Bx lo p st N vo vc V rs W' := h.out (out_grown hg) (fun g e => by cases e)
theorem Bx.new {lo st N : Nat} {vo : Option Addr} {vc : Nat} {V : List (Nat × Nat × List Nat)} {rs : List Rq} {W : World} (h : Bt lo W (.slice vo N vc) rs) (hv : rs.map Rq.val = V) (hl : lo ≤ W.heap.size) : Bx lo W.heap.size st N vo vc V rs (W.alloc (.cells #[.int .u64 (st : Int), .slice vo N vc] 29)) :=
  ⟨alloc_at _ _, h.quiet (World.grownBy_alloc _ _ none), hv, fun g e => (h.lt g e).2, fun g e => (h.ltB g e).2, hl⟩
theorem Bx.cells {lo p st N : Nat} {vo : Option Addr} {vc : Nat} {V : List (Nat × Nat × List Nat)} {rs : List Rq} {W : World} (h : Bx lo p st N vo vc V rs W) : W.cell? ⟨p, 0, none⟩ = some (.int .u64 (st : Int)) ∧ W.cell? ⟨p, 1, none⟩ = some (.slice vo N vc) := ⟨(block_cell h.box 0).trans rfl, (block_cell h.box 1).trans rfl⟩
theorem Out.toBelow {S : Nat → Prop} {L : Nat} {w w' : World} (h : Out S w w') (hS : ∀ g, S g → L ≤ g) (hL : L ≤ w.heap.size) : Below L w w' := ⟨h.os, h.tape, h.output, h.size, fun k hk => h.block k (by omega) (fun e => by have := hS k e; omega)⟩
/-- The answer beside the batch. -/
def NoB (p : Nat) (c a : Int) (W : World) : Prop := W.cell? ⟨p, 0, none⟩ = some (.int .i64 c) ∧ W.cell? ⟨p, 1, none⟩ = some (.int .i64 a)
theorem NoB.quiet {p : Nat} {c a : Int} {W W' : World} (h : NoB p c a W) (hg : W.grownBy W' none) : NoB p c a W' := ⟨hg.cell h.1 (by simp), hg.cell h.2 (by simp)⟩

theorem Lent.ownsB {w : World} {gc n : Nat} {B : List Nat} (h : Lent w gc n B) (hB : ∀ x ∈ B, x < 256) (hn : n ≤ 140737488351232) : Owns gc w (.slice (some ⟨gc, 0, none⟩) n (n + 4)) B := by
  obtain ⟨h1, h2⟩ := h
  obtain ⟨cur, hg, hs, hc, ht⟩ := own_block h2
  refine ⟨?_, hB, by omega⟩
  rw [← h1]
  refine owns_of (Nat.le_refl _) hg hs (by unfold maxLen; omega) (by omega) ?_
  have h5 := congrArg (List.take n) ht
  rw [List.take_take, Nat.min_eq_left (by omega), vals_append] at h5
  rw [h5]
  have : n = (vals B).length := h1.trans (vals_len B).symm
  rw [this, List.take_left]
theorem Q1.ofRow {base : Nat} {w : World} {v : Value} {rs : List Rq} (h : w.ownsRow base 100 3 v rs.length (rcells rs)) : Q1 w v rs.length 0 w := by
  refine ⟨⟨rcells rs, row_lower h (by omega), fun t ht => ?_⟩, rfl, rfl, rfl, Nat.le_refl _, fun _ _ _ => rfl⟩
  exact ⟨rs[t].sq, rcells_at rs t rs[t] (List.getElem?_eq_getElem ht) 1 _ rfl, fun h => by omega⟩
/-- All that stands when both have read. -/
structure Al (w : World) (p gc lo2 p2 st N : Nat) (vo : Option Addr) (vc : Nat) (go : Option Addr) (gcap : Nat) (V : List (Nat × Nat × List Nat)) (rsv rsg : List Rq) (c a : Int) (n : Nat) (B : List Nat) (W : World) : Prop where
  v : Bx w.heap.size p st N vo vc V rsv W
  g : Bx lo2 p2 st N go gcap V rsg W
  no : NoB (p + 1) c a W
  l : Lent W gc n B
  bel : Below w.heap.size w W
theorem Al.quiet {w : World} {p gc lo2 p2 st N : Nat} {vo : Option Addr} {vc : Nat} {go : Option Addr} {gcap : Nat} {V : List (Nat × Nat × List Nat)} {rsv rsg : List Rq} {c a : Int} {n : Nat} {B : List Nat} {W W' : World} (h : Al w p gc lo2 p2 st N vo vc go gcap V rsv rsg c a n B W) (hg : W.grownBy W' none) : Al w p gc lo2 p2 st N vo vc go gcap V rsv rsg c a n B W' :=
  ⟨h.v.quiet hg, h.g.quiet hg, h.no.quiet hg, h.l.next hg (by simp), h.bel.grown hg h.bel.size (fun k e => by cases e)⟩

end Go.Proofs.YtldhafpeigdloaaGreatDoor
namespace Go.Proofs.YtldhafpeigdloaaGreatDoor
open Go.RowKit Crc

theorem copyB {W : World} (st : Nat) {ro : Option Addr} {rs : List Rq} {b off : Nat} (rc n : Nat) (hn : rs.length = n) (h : Rqs W.heap.size W ro rs b off) :
    Calls Tryz.prog 18 #[.agg #[.int .u64 (st : Int), .slice ro n rc]] W fun e w' => ∃ co cc, e = .returned (.agg #[.int .u64 (st : Int), .slice co n cc]) ∧ Hid (∃ rs1, rs1.length = n ∧ OwnRs W.heap.size w' (.slice co n cc) rs1 ∧ rs1.map Rq.val = rs.map Rq.val ∧ LentRs w' rs1 ∧ (∀ r ∈ rs1, r.num) ∧ Below W.heap.size W w') := by
  have h1 := copyBatch_any st rc h
  rw [hn] at h1
  refine h1.mono ?_
  rintro e w' ⟨v, rs1, rfl, H⟩
  obtain ⟨h1, h2, h3, h4, h5⟩ := H.out
  obtain ⟨co, cc, b1, rfl, hr⟩ := h1.form
  have e1 : rs1.length = n := by have := congrArg List.length h2; simp at this; omega
  have hnum : ∀ r ∈ rs1, r.num := fun r hx => by
    obtain ⟨k1, k2, k3⟩ := h1.ok r hx
    exact ⟨k1, k2, k3.2.2.2.1, k3.2.2.1⟩
  rw [e1] at h1 ⊢
  exact ⟨co, cc, rfl, rs1, e1, h1, h2, h3, hnum, h5⟩
theorem lendD {W : World} {do_ : Option Addr} {m dc : Nat} {D : List Nat} (hd : Shows W.heap.size W do_ m dc D) :
    Calls Tryz.prog 9 #[.slice do_ m dc] W fun e w' => e = .returned (.slice (some ⟨W.heap.size, 0, none⟩) m (m + 4)) ∧ Hid (Lent w' W.heap.size m D ∧ Below W.heap.size W w') := by
  obtain ⟨p1, p2, p3, p4, b, off, p5, p6, p7⟩ := hd
  exact (lend_any b off do_ D m dc W p5 p1 p3 p6 p7).mono (fun _ _ g => ⟨g.1, ⟨p1, g.2.1⟩, g.2.2⟩)
/-- A record that is lent. -/
structure Rl1 (w : World) (n : Nat) (co : Option Addr) (cc : Nat) (rs rs1 : List Rq) (W : World) : Prop where
  len : rs1.length = n
  own : OwnRs w.heap.size W (.slice co n cc) rs1
  val : rs1.map Rq.val = rs.map Rq.val
  lent : LentRs W rs1
  num : ∀ r ∈ rs1, r.num
theorem Rl1.next {w : World} {n : Nat} {co : Option Addr} {cc : Nat} {rs rs1 : List Rq} {W W' : World} {row : Option Nat} (h : Rl1 w n co cc rs rs1 W) (hg : W.grownBy W' row) (h1 : (Value.slice co n cc).ownBlock = none ∨ (Value.slice co n cc).ownBlock ≠ row) (h2 : ∀ gc n C, Lent W gc n C → row ≠ some gc) : Rl1 w n co cc rs rs1 W' := by
  have l2 := h.lent.next hg h2
  exact ⟨h.len, ⟨h.own.row.kept hg h1, (l2.ok h.num).1, h.own.le⟩, h.val, l2, h.num⟩

theorem row_ne_cells {base B : Nat} {w : World} {v : Value} {k : Nat} {xs : List Value} {cs : Array Value} {t : TypeId} (h : w.ownsRow base 100 3 v k xs) (hb : w.heap[B]? = some (.cells cs t (0, 0))) (ht : t ≠ 100) : v.ownBlock ≠ some B := by
  intro e
  rcases h.2 with ⟨rfl, _⟩ | ⟨g, cap, cur, rfl, _, hg, _⟩
  · cases e
  · cases e
    rw [hg] at hb
    cases hb
    exact ht rfl
theorem lent7 {gc n B : Nat} {D : List Nat} {W : World} (h : Lent W gc n D) (hne : B ≠ gc) (a b c d e f g : Value) : Lent (((((((W.setCell ⟨B, 0, none⟩ a).setCell ⟨B, 1, none⟩ b).setCell ⟨B, 2, none⟩ c).setCell ⟨B, 3, none⟩ d).setCell ⟨B, 4, none⟩ e).setCell ⟨B, 5, none⟩ f).setCell ⟨B, 6, none⟩ g) gc n D := by
  have hr : some B ≠ some gc := by simpa using hne
  exact ((((((h.next (grown_set _ B 0 a) hr).next (grown_set _ B 1 b) hr).next (grown_set _ B 2 c) hr).next (grown_set _ B 3 d) hr).next (grown_set _ B 4 e) hr).next (grown_set _ B 5 f) hr).next (grown_set _ B 6 g) hr
theorem below7 {w W : World} {l B : Nat} (h : Below l w W) (hB : l ≤ B) (a b c d e f g : Value) : Below l w (((((((W.setCell ⟨B, 0, none⟩ a).setCell ⟨B, 1, none⟩ b).setCell ⟨B, 2, none⟩ c).setCell ⟨B, 3, none⟩ d).setCell ⟨B, 4, none⟩ e).setCell ⟨B, 5, none⟩ f).setCell ⟨B, 6, none⟩ g) := by
  have s := fun (X : World) (j : Nat) (u : Value) (hx : Below l w X) => hx.setCell (p := ⟨B, j, none⟩) (by simpa using hB) u
  exact s _ 6 g (s _ 5 f (s _ 4 e (s _ 3 d (s _ 2 c (s _ 1 b (s _ 0 a h))))))

end Go.Proofs.YtldhafpeigdloaaGreatDoor
namespace Go.Proofs.YtldhafpeigdloaaGreatDoor
open Go.RowKit Crc

/-- Why a record may not be laid down, and where. -/
def rB1 (k : Int) (num : Nat) (node : Int) : Prop := if k ≤ 3 then balBad num node else num ≠ 0 ∨ node ≠ 0
def rB2 (k : Int) (slot : Nat) : Prop := 1099511627776 < slot ∨ ((k = 1 ∨ k = 3) ∧ slot ≠ 0)
def rC3 (k : Int) (st : Nat) (rs : List Rq) : Int := if k = 2 then (bFault st rs).2 else if st ≠ 0 ∨ rs.length ≠ 0 then 29 else 0
def rC4 (k : Int) (m : Nat) : Int := if k ≠ 5 ∧ 0 < m then 29 else if 40000 < m then 21 else 0
instance (k : Int) (num : Nat) (node : Int) : Decidable (rB1 k num node) := by unfold rB1; infer_instance
instance (k : Int) (slot : Nat) : Decidable (rB2 k slot) := by unfold rB2; infer_instance
def rNo (k : Int) (num : Nat) (node : Int) (slot st : Nat) (rs : List Rq) (m : Nat) : Int × Int :=
  if k < 1 ∨ 5 < k then (25, 0) else if rB1 k num node then (29, 1) else if rB2 k slot then (29, 2) else if rC3 k st rs ≠ 0 then (rC3 k st rs, 3) else if rC4 k m ≠ 0 then (rC4 k m, 4) else (0, 0)
theorem below_two {w W : World} (hb : Below w.heap.size w W) (x y : Value) : Below w.heap.size w ((W.setCell ⟨w.heap.size + 1, 0, none⟩ x).setCell ⟨w.heap.size + 1, 1, none⟩ y) := (hb.setCell (p := ⟨w.heap.size + 1, 0, none⟩) (by simp) x).setCell (p := ⟨w.heap.size + 1, 1, none⟩) (by simp) y
theorem below_two_alloc {w W : World} (hb : Below w.heap.size w W) (x y : Value) (o : Obj) : Below w.heap.size w (((W.setCell ⟨w.heap.size + 1, 0, none⟩ x).setCell ⟨w.heap.size + 1, 1, none⟩ y).alloc o) := (below_two hb x y).alloc (below_two hb x y).size o

end Go.Proofs.YtldhafpeigdloaaGreatDoor
namespace Go.Proofs.YtldhafpeigdloaaGreatDoor
open Go.RowKit Crc

end Go.Proofs.YtldhafpeigdloaaGreatDoor
namespace Go.Proofs.YtldhafpeigdloaaGreatDoor
open Go.RowKit Crc

end Go.Proofs.YtldhafpeigdloaaGreatDoor
namespace Go.Proofs.YtldhafpeigdloaaGreatDoor
open Go.RowKit Crc

end Go.Proofs.YtldhafpeigdloaaGreatDoor
namespace Go.Proofs.YtldhafpeigdloaaGreatDoor
open Go.RowKit Crc

end Go.Proofs.YtldhafpeigdloaaGreatDoor
namespace Go.Proofs.YtldhafpeigdloaaGreatDoor
open Go.RowKit Crc

theorem rC3_not {k : Int} (hk : k ≠ 2) {st : Nat} {rs : List Rq} : (st ≠ 0 ∨ rs.length ≠ 0 → rC3 k st rs = 29) ∧ (st = 0 → rs.length = 0 → rC3 k st rs = 0) := by
  unfold rC3
  rw [if_neg hk]
  exact ⟨fun h => if_pos h, fun h1 h2 => if_neg (fun h => h.elim (fun h => h h1) (fun h => h h2))⟩
theorem rC4_not {k : Int} (hk : k ≠ 5) {m : Nat} : (0 < m → rC4 k m = 29) ∧ (m = 0 → rC4 k m = 0) := by
  unfold rC4
  refine ⟨fun h => if_pos ⟨hk, h⟩, fun h => ?_⟩
  rw [if_neg (fun e => by omega), if_neg (by omega)]
theorem rC4_5 {m : Nat} : (40000 < m → rC4 5 m = 21) ∧ (¬ 40000 < m → rC4 5 m = 0) := by
  unfold rC4
  rw [if_neg (fun e => e.1 rfl)]
  exact ⟨fun h => if_pos h, fun h => if_neg h⟩
end Go.Proofs.YtldhafpeigdloaaGreatDoor
namespace Go.Proofs.YtldhafpeigdloaaGreatDoor
open Go.RowKit Crc

section
variable (num nd slot st : Nat) (rs : List Rq) (m : Nat) (D : List Nat)
/-- A field as it is laid down. -/
def Fd.lay (f : Fd) (s : WS) : WS := match f with
  | .ballot => (s.put (numB num) 0).put (big nd 1) 0
  | .slot => s.put (numB slot) 0
  | .batch => layB s st rs
  | .snap => s.put (numB m ++ D) (cntY m 40000)
def Fd.enc (f : Fd) : List Nat := match f with
  | .ballot => numB num ++ big nd 1
  | .slot => numB slot
  | .batch => encL st rs
  | .snap => numB m ++ D
def Fd.fit (f : Fd) : Prop := match f with
  | .ballot => True
  | .slot => True
  | .batch => rs.length ≤ 8 ∧ ∀ r ∈ rs, r.cn ≤ 700 ∧ r.cn = r.C.length
  | .snap => m ≤ 40000 ∧ m = D.length
def Fd.room : Fd → Nat
  | .ballot => 11
  | .slot => 10
  | .batch => 5900
  | .snap => 40010
def layAll (fs : List Fd) (s : WS) : WS := fs.foldl (fun s f => f.lay num nd slot st rs m D s) s
def encAll (fs : List Fd) : List Nat := (fs.map (Fd.enc num nd slot st rs m D)).flatten
end
theorem enc_le : ∀ (rs : List Rq), (∀ r ∈ rs, r.cn ≤ 700 ∧ r.cn = r.C.length) → (rs.map encR).flatten.length ≤ 730 * rs.length
  | [], _ => by simp
  | r :: t, h => by
    have ih := enc_le t (fun x hx => h x (by simp [hx]))
    obtain ⟨h1, h2⟩ := h r (by simp)
    have l1 := numTo_len 9 r.cl
    have l2 := numTo_len 9 r.sq
    have l3 := numTo_len 9 r.cn
    simp only [List.map_cons, List.flatten_cons, List.length_append, encR, List.length_cons, numB] at ih ⊢
    omega
theorem big_one (v : Nat) : (big v 1).length = 1 := big_len v 1 1
theorem layB_at {s : WS} {st : Nat} {rs : List Rq} (hs : s.sound) (hl : ((s.L.length + 5900 : Nat) : Int) ≤ s.most) (h8 : rs.length ≤ 8) (hr : ∀ r ∈ rs, r.cn ≤ 700 ∧ r.cn = r.C.length) : layB s st rs = { s with L := s.L ++ encL st rs } := by
  have l1 : (numB st).length ≤ 10 := numTo_len 9 st
  have l2 : (numB rs.length).length ≤ 10 := numTo_len 9 rs.length
  unfold layB
  have e1 := put_fits (s := s) (F := numB st) hs (by omega)
  rw [e1]
  have e2 := put_fits (s := { s with L := s.L ++ numB st }) (F := numB rs.length) hs (by simp only [List.length_append]; omega)
  rw [e2]
  have e3 := layGo_ok rs { s with L := s.L ++ numB st ++ numB rs.length } hs (by simp only [List.length_append]; omega) (fun r hx => ⟨(hr r hx).1, (hr r hx).2, numTo_len 9 _, numTo_len 9 _, numTo_len 9 _⟩)
  rw [e3]
  simp [encL, List.append_assoc]
section
variable {num nd slot st : Nat} {rs : List Rq} {m : Nat} {D : List Nat}
theorem lay_fits (f : Fd) {s : WS} (hs : s.sound) (hl : ((s.L.length + f.room : Nat) : Int) ≤ s.most) (hf : f.fit rs m D) : f.lay num nd slot st rs m D s = { s with L := s.L ++ f.enc num nd slot st rs m D } ∧ (f.enc num nd slot st rs m D).length ≤ f.room := by
  cases f with
  | ballot =>
    have l1 : (numB num).length ≤ 10 := numTo_len 9 num
    have l2 := big_one nd
    simp only [Fd.room] at hl
    have e1 := put_fits (s := s) (F := numB num) hs (by omega)
    have e2 := put_fits (s := { s with L := s.L ++ numB num }) (F := big nd 1) hs (by simp only [List.length_append]; omega)
    refine ⟨?_, ?_⟩
    · show (s.put (numB num) 0).put (big nd 1) 0 = _
      rw [e1, e2]
      simp [Fd.enc]
    · simp only [Fd.enc, Fd.room, List.length_append]; omega
  | slot =>
    have l1 : (numB slot).length ≤ 10 := numTo_len 9 slot
    simp only [Fd.room] at hl
    exact ⟨put_fits hs (by omega), l1⟩
  | batch =>
    simp only [Fd.room] at hl
    refine ⟨layB_at hs hl hf.1 hf.2, ?_⟩
    have l1 : (numB st).length ≤ 10 := numTo_len 9 st
    have l2 : (numB rs.length).length ≤ 10 := numTo_len 9 rs.length
    have l3 := enc_le rs hf.2
    have l4 := hf.1
    simp only [Fd.enc, Fd.room, encL, List.length_append]
    omega
  | snap =>
    have l1 : (numB m).length ≤ 10 := numTo_len 9 m
    obtain ⟨h1, h2⟩ := hf
    simp only [Fd.room] at hl
    refine ⟨?_, ?_⟩
    · show s.put (numB m ++ D) (cntY m 40000) = _
      rw [show cntY (m : Int) 40000 = 0 by unfold cntY; rw [if_neg (by omega)]]
      exact put_fits hs (by simp only [List.length_append]; omega)
    · simp only [Fd.enc, Fd.room, List.length_append]; omega
theorem layAll_fits : ∀ (fs : List Fd) (s : WS), s.sound → ((s.L.length + (fs.map Fd.room).sum : Nat) : Int) ≤ s.most → (∀ f ∈ fs, f.fit rs m D) → layAll num nd slot st rs m D fs s = { s with L := s.L ++ encAll num nd slot st rs m D fs }
  | [], s, _, _, _ => by simp [layAll, encAll]
  | f :: t, s, hs, hl, hf => by
    simp only [List.map_cons, List.sum_cons] at hl
    obtain ⟨e1, e2⟩ := lay_fits (num := num) (nd := nd) (slot := slot) (st := st) f hs (by omega) (hf f (by simp))
    have ih := layAll_fits t { s with L := s.L ++ f.enc num nd slot st rs m D } hs (by simp only [List.length_append]; omega) (fun x hx => hf x (by simp [hx]))
    show layAll num nd slot st rs m D t (f.lay num nd slot st rs m D s) = _
    rw [e1, ih]
    simp [encAll, List.append_assoc]
end
/-- A record's bytes. -/
def encRec (k num nd slot st : Nat) (rs : List Rq) (m : Nat) (D : List Nat) : List Nat := big k 1 ++ encAll num nd slot st rs m D (fsOf k)
def rRes (k : Int) (num : Nat) (node : Int) (slot st : Nat) (rs : List Rq) (m : Nat) (D : List Nat) : List Nat := if (rNo k num node slot st rs m).1 = 0 then encRec k.toNat num node.toNat slot st rs m D else []
theorem room_le (k : Int) : ((fsOf k).map Fd.room).sum ≤ 60000 := by
  unfold fsOf
  split
  · decide
  · split
    · decide
    · split
      · decide
      · split <;> decide
/-- What a record that may be laid down is. -/
structure RecOk (k : Int) (num : Nat) (node : Int) (slot st : Nat) (rs : List Rq) (m : Nat) : Prop where
  k1 : 1 ≤ k
  k5 : k ≤ 5
  bal : k ≤ 3 → ¬ balBad num node
  bal0 : 3 < k → num = 0 ∧ node = 0
  slot : slot ≤ 1099511627776
  bat : k = 2 → (bFault st rs).2 = 0
  dat : m ≤ 40000
theorem rNo_ok {k : Int} {num : Nat} {node : Int} {slot st : Nat} {rs : List Rq} {m : Nat} (h : (rNo k num node slot st rs m).1 = 0) : RecOk k num node slot st rs m ∧ (rNo k num node slot st rs m).2 = 0 := by
  unfold rNo at h ⊢
  by_cases hk : k < 1 ∨ 5 < k
  · rw [if_pos hk] at h; cases h
  · rw [if_neg hk] at h ⊢
    by_cases hB : rB1 k num node
    · rw [if_pos hB] at h; cases h
    · rw [if_neg hB] at h ⊢
      by_cases hS : rB2 k slot
      · rw [if_pos hS] at h; cases h
      · rw [if_neg hS] at h ⊢
        by_cases h3 : rC3 k st rs ≠ 0
        · rw [if_pos h3] at h; exact absurd h h3
        · rw [if_neg h3] at h ⊢
          by_cases h4 : rC4 k m ≠ 0
          · rw [if_pos h4] at h; exact absurd h h4
          · rw [if_neg h4]
            have h3 := Classical.not_not.1 h3
            have h4 := Classical.not_not.1 h4
            refine ⟨⟨by omega, by omega, fun e => ?_, fun e => ?_, ?_, fun e => ?_, ?_⟩, rfl⟩
            · unfold rB1 at hB; rw [if_pos e] at hB; exact hB
            · unfold rB1 at hB; rw [if_neg (by omega)] at hB
              exact ⟨Classical.not_not.1 (fun x => hB (.inl x)), Classical.not_not.1 (fun x => hB (.inr x))⟩
            · have : ¬ 1099511627776 < slot := fun x => hS (.inl x)
              omega
            · subst e; exact h3
            · unfold rC4 at h4
              by_cases hx : k ≠ 5 ∧ 0 < m
              · rw [if_pos hx] at h4; cases h4
              · rw [if_neg hx] at h4
                by_cases hy : 40000 < m
                · rw [if_pos hy] at h4; cases h4
                · omega
theorem RecOk.fit {k : Int} {num : Nat} {node : Int} {slot st : Nat} {rs : List Rq} {m : Nat} {D : List Nat} (h : RecOk k num node slot st rs m) (hc : ∀ r ∈ rs, r.cn = r.C.length) (hd : m = D.length) : ∀ f ∈ fsOf k, f.fit rs m D := by
  intro f hf
  cases f with
  | ballot => trivial
  | slot => trivial
  | snap => exact ⟨h.dat, hd⟩
  | batch =>
    have hk : k = 2 := by
      unfold fsOf at hf
      split at hf
      · simp at hf
      · split at hf
        · assumption
        · split at hf
          · simp at hf
          · split at hf <;> simp at hf
    obtain ⟨h1, h2, h3⟩ := bFault_ok (h.bat hk)
    exact ⟨h2, fun r hr => ⟨(h3 r hr).2, hc r hr⟩⟩
/-- Both writers come to the same bytes. -/
theorem layRec_ok {k : Int} {num : Nat} {node : Int} {slot st : Nat} {rs : List Rq} {m : Nat} {D : List Nat} {s : WS} (h : RecOk k num node slot st rs m) (hc : ∀ r ∈ rs, r.cn = r.C.length) (hd : m = D.length) (h1 : s.made = true) (h2 : s.why = 0) (h3 : s.most = 65507) (h4 : s.L = []) : layAll num node.toNat slot st rs m D (fsOf k) (s.put (big k.toNat 1) 0) = { s with L := encRec k.toNat num node.toNat slot st rs m D } := by
  have l1 := big_one k.toNat
  have hr := room_le k
  have e1 := put_fits (s := s) (F := big k.toNat 1) ⟨h1, h2⟩ (by rw [h3, h4]; simp only [List.length_nil]; omega)
  rw [e1]
  have e2 := layAll_fits (num := num) (nd := node.toNat) (slot := slot) (st := st) (fsOf k) { s with L := s.L ++ big k.toNat 1 } ⟨h1, h2⟩ (by simp only [h4, List.nil_append]; omega) (h.fit hc hd)
  have hk : ((k.toNat : Nat) : Int) = k := Int.toNat_of_nonneg (by have := h.k1; omega)
  rw [e2]
  simp only [h4, List.nil_append, encRec, hk]
end Go.Proofs.YtldhafpeigdloaaGreatDoor
