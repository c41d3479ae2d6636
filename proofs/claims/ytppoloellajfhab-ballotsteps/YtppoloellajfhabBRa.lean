import Derived.Test.YtppoloellajfhabBVi
import Derived.Test.YtppoloellajfhabBNok
import Derived.Test.YtppoloellajfhabBPj
namespace Go.Proofs.Ytppoloellajfhab
open Go.RowKit

theorem set2_blk {V : World} {p : Nat} {x0 y0 : Value} {t : TypeId} (hr : V.heap[p]? = some (.cells #[x0, y0] t (0, 0))) (x y : Value) : ((V.setCell ⟨p, 0, none⟩ x).setCell ⟨p, 1, none⟩ y).heap[p]? = some (.cells #[x, y] t (0, 0)) := by
  have s1 := heap_setCell_same V p 0 _ _ x hr
  simp only [List.setIfInBounds_toArray, List.set_cons_zero] at s1
  have s2 := heap_setCell_same _ p 1 _ _ y s1
  simp only [List.setIfInBounds_toArray, List.set_cons_zero, List.set_cons_succ] at s2
  exact s2
theorem set2_grown (V : World) (p : Nat) (x y : Value) : V.grownBy ((V.setCell ⟨p, 0, none⟩ x).setCell ⟨p, 1, none⟩ y) (some p) := grown_trans (grown_set V p 0 x) (grown_set _ p 1 y)
/-- A row of two cells with no string in it. -/
def NoStr (u0 u1 : Value) : Prop := (∀ s, u0 ≠ .string s) ∧ ∀ s, u1 ≠ .string s
theorem nostr_cells {u0 u1 : Value} (h : NoStr u0 u1) (i : Nat) (s : ByteArray) : (#[u0, u1] : Array Value)[i]? ≠ some (.string s) := by
  rcases i with _ | _ | _
  · simpa using h.1 s
  · simpa using h.2 s
  · simp
theorem nostr_int (k k' : IntKind) (n m : Int) : NoStr (.int k n) (.int k' m) := ⟨fun s h => (by cases h), fun s h => (by cases h)⟩
theorem nostr_fault (a : Option Addr) (n m : Nat) (k : IntKind) (c : Int) : NoStr (.slice a n m) (.int k c) := ⟨fun s h => (by cases h), fun s h => (by cases h)⟩
/-- A fault is kept where a box without strings is written. -/
theorem fv_set2 {V : World} {p : Nat} {x0 y0 : Value} {t : TypeId} {fo : Option Addr} {L : List Lk} (hf : ∃ b off, FV V.heap.size V fo L b off) (hr : V.heap[p]? = some (.cells #[x0, y0] t (0, 0))) (hn : NoStr x0 y0) (x y : Value) :
    ∃ b off, FV ((V.setCell ⟨p, 0, none⟩ x).setCell ⟨p, 1, none⟩ y).heap.size ((V.setCell ⟨p, 0, none⟩ x).setCell ⟨p, 1, none⟩ y) fo L b off := by
  obtain ⟨b, off, hf⟩ := hf
  have hs : ((V.setCell ⟨p, 0, none⟩ x).setCell ⟨p, 1, none⟩ y).heap.size = V.heap.size := by simp
  refine ⟨b, off, ?_⟩
  rw [hs]
  exact fv_grownN hf (set2_grown V p x y) (fv_neN hf hr (nostr_cells hn))
theorem fv_below {V V' : World} {fo : Option Addr} {L : List Lk} (hf : ∃ b off, FV V.heap.size V fo L b off) (hb : Below V.heap.size V V') : ∃ b off, FV V'.heap.size V' fo L b off := by
  obtain ⟨b, off, hf⟩ := hf
  exact ⟨b, off, (hf.below hb).wide hb.size⟩
/-- zero: the refusal of an object that no call made. -/
theorem two_below {w V : World} {p : Nat} (hb : Below w.heap.size w V) (hp : w.heap.size ≤ p) (x y : Value) : Below w.heap.size w ((V.setCell ⟨p, 0, none⟩ x).setCell ⟨p, 1, none⟩ y) := hb.grown (set2_grown V p x y) hb.size (fun k e => by cases e; exact hp)
set_option maxRecDepth 10000 in
set_option maxHeartbeats 800000 in
theorem zero_any {w : World} {ev : Value} (h : ErrP w [⟨ballotN, 0⟩] 3 ev) :
    Calls Try.prog 34 #[ev] w fun e w' => e = .returned (.bool true) ∧ Below w.heap.size w w' := by
  have hc : Chain w.heap.size w [⟨ballotN, 0⟩] ev 3 := by
    rcases h with ⟨_, h, _⟩ | h
    · simp at h
    · exact h.1
  have HT := hide (told0_chain hc (by simp) (by simp) (by omega))
  obtain ⟨g, u, rfl, _⟩ := hc
  unfold ToldP at HT
  clear h
  go_enter Try.func34, Try.ntmps34
  go_wp2_with fail
  refine HT.out.mono ?_
  rintro e w1 ⟨ao, cap, rfl, G⟩
  obtain ⟨b, hf, hb⟩ := G.out
  have had : ao = some ⟨b, 0, none⟩ := hf.ad (by simp)
  have hlt := hf.lt (by simp)
  have c0 := (hf.at_ 0 _ rfl).1
  have c1 := (hf.at_ 0 _ rfl).2
  simp only [Nat.zero_mul, Nat.add_zero, Nat.zero_add] at c0 c1
  have HB := hide hb
  have HAL : Hid (∀ o, Below w.heap.size w (w1.alloc o)) := fun o => hb.alloc hb.size o
  unfold ballotN at *
  subst had
  clear G hf hb HT
  go_wp2
  go_ret
  exact ⟨by simp, HAL.out _⟩
set_option maxRecDepth 10000 in
set_option maxHeartbeats 800000 in
/-- The reference's Rank, where the ballot is none. -/
theorem refRank_no {w : World} {p : Nat} {c : Cf} (n : Nat) (m : Int) (hp : p < w.heap.size) (h : RefG w p c) (hv : c.valid n m = false) :
    Calls Try.prog 37 #[.pointer (some ⟨p, 0, none⟩), .agg #[.int .u64 (n : Nat), .int .i64 m]] w (RNewP w (.int .u64 0) [⟨ballotN, 0⟩] 181) := by
  have HNW : Hid (∀ W, Calls Try.prog 51 #[.string ballotN, .int .i64 0, .int .i64 181] W (FvP W [⟨ballotN, 0⟩] 181)) := fun W => new0 ballotN 0 181 W
  unfold FvP at HNW
  unfold RNewP
  unfold ballotN at *
  obtain ⟨W1, hW1⟩ : ∃ W1, (w.alloc (.cells #[.int .u64 (n : Nat), .int .i64 m] 47)).alloc (.cells #[.slice none 0 0, .int .i64 0] 63) = W1 := ⟨_, rfl⟩
  have B1 : Hid (Below w.heap.size w W1) := by rw [← hW1]; exact ((Below.refl _ w).alloc (Nat.le_refl _) _).alloc (by simp) _
  obtain ⟨t1, t2⟩ := two_box w (.cells #[.int .u64 (n : Nat), .int .i64 m] 47) (.cells #[.slice none 0 0, .int .i64 0] 63)
  obtain ⟨pb, hpb⟩ : ∃ p, w.heap.size = p := ⟨_, rfl⟩
  obtain ⟨pf, hpf⟩ : ∃ p, w.heap.size + 1 = p := ⟨_, rfl⟩
  rw [hW1, hpb] at t1
  rw [hW1, hpf] at t2
  have q0 := block_cell t1 0
  have q1 := block_cell t1 1
  have HT2 := hide t2
  have HPF : Hid (w.heap.size ≤ pf) := by show _ ≤ _; omega
  have HV := hide (refValid n m (Nat.lt_of_lt_of_le hp B1.out.size) (h.below B1.out hp))
  rw [hv] at HV
  have HW1 := hide hW1
  have HPB := hide hpb
  have HPFE := hide hpf
  clear hW1 hpb hpf t1 t2 h hv
  generalize (n : Int) = n at *
  go_enter Try.func37, Try.ntmps37
  go_upto_region 1 with fail
  rw [HW1.out, HPFE.out, HPB.out]
  go_wp2_with fail
  refine HV.out.mono ?_
  rintro e w2 ⟨rfl, b2⟩
  have B2 := hide (B1.out.trans (b2.mono B1.out.size))
  have T2 := hide ((b2.block _ (block_lt HT2.out)).trans HT2.out)
  clear b2 q0 q1 HT2 B1 HV
  go_wp2_with fail
  refine (HNW.out w2).mono ?_
  rintro e w3 ⟨fo, fc, rfl, G3⟩
  obtain ⟨b, off, hf, hb3⟩ := G3.out
  have r3 := (hb3.block _ (block_lt T2.out)).trans T2.out
  have FIN := hide (And.intro (fv_set2 ⟨b, off, hf⟩ r3 (nostr_fault none 0 0 .i64 0) (.slice fo 1 fc) (.int .i64 181)) (And.intro (two_below (B2.out.trans (hb3.mono B2.out.size)) HPF.out (.slice fo 1 fc) (.int .i64 181)) (set2_blk r3 (.slice fo 1 fc) (.int .i64 181))))
  have y0 := block_cell r3 0
  have y1 := block_cell r3 1
  have g0 := block_free r3 0
  have g1 := block_free r3 1
  clear r3 hf hb3 G3 B2 T2 HNW
  go_wp2
  have z0 := block_cell FIN.out.2.2 0
  have z1 := block_cell FIN.out.2.2 1
  refine bodyPost_ret (v := .tuple #[.int .u64 0, .agg #[.slice fo 1 fc, .int .i64 181]]) (by simp [results, Try.results37, go_sem, z0, z1]) rfl ⟨fo, fc, rfl, FIN.out.1, FIN.out.2.1⟩
end Go.Proofs.Ytppoloellajfhab
