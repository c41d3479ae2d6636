import Derived.Test.YtcfenjpdjogmdaaLT44
import Derived.Test.YtcfenjpdjogmdaaLT51
import Derived.Test.YtcfenjpdjogmdaaLT39
import Derived.BigQuiet
namespace Go.Proofs.Ytcfenjpdjogmdaa
open Go.RowKit

/-- What a step that is none of 1 .. 6 leaves. -/
def DoZ (w w' : World) (B p a b : Nat) (Z : SZ) (S : LS) (Q : List LS) (c : Int) : Prop :=
  ∃ Z' S' Q', LM w' B p a b Z' S' ∧ Tr w w' p a b Z Z' ∧ Sv Z' S' Q' ∧ Z'.cs.length ≤ Z.cs.length ∧ (S' = S ∨ S' ∈ Q) ∧ (∀ s ∈ Q', s = S ∨ s ∈ Q) ∧ (c ≠ 0 → S' = S)
theorem DoZ.from {w w1 w' : World} {B p a b : Nat} {Z : SZ} {S : LS} {Q : List LS} {c : Int} (hb : Below w.heap.size w w1) (h : DoZ w1 w' B p a b Z S Q c) : DoZ w w' B p a b Z S Q c := by
  obtain ⟨Z', S', Q', h1, h2, h3⟩ := h
  exact ⟨Z', S', Q', h1, (Tr.below hb).trans h2, h3⟩
theorem DoZ.same {w w' : World} {B p a b : Nat} {Z : SZ} {S : LS} {Q : List LS} (c : Int) (hM : LM w B p a b Z S) (hV : Sv Z S Q) (hb : Below w.heap.size w w') : DoZ w w' B p a b Z S Q c :=
  ⟨Z, S, Q, hM.kept hb, Tr.below hb, hV, Nat.le_refl _, .inl rfl, fun _ h => .inr h, fun _ => rfl⟩
section
variable {w : World} {B p a b : Nat} {Z : SZ} {S : LS} {Q : List LS}
theorem markZ (h : LM w B p a b Z S) (hV : Sv Z S Q) : Calls Try.prog 8 #[.pointer (some ⟨p, 0, none⟩)] w fun e w' => ∃ n c : Int, e = .returned (.tuple #[.int .i64 n, .int .i64 c]) ∧ Hid (DoZ w w' B p a b Z S Q c) := by
  refine (markM h hV.m16).mono ?_
  rintro e w' ⟨n, c, rfl, G⟩
  refine ⟨n, c, rfl, ?_⟩
  rcases G.out with ⟨rfl, rfl, _, rfl⟩ | ⟨rfl, rfl, hl, Z', h1, h2, h3, h4⟩
  · exact DoZ.same _ h hV (Below.refl _ _)
  · refine ⟨Z', S, Q ++ [S], h1, h2, hV.mark hl h3 h4, by rw [h4]; exact Nat.le_refl _, .inl rfl, fun s hs => ?_, fun _ => rfl⟩
    rcases List.mem_append.1 hs with hs | hs
    · exact .inr hs
    · exact .inl (by simpa using hs)
theorem keepZ (h : LM w B p a b Z S) (hV : Sv Z S Q) (m : Int) : Calls Try.prog 27 #[.pointer (some ⟨p, 0, none⟩), .int .i64 m] w fun e w' => ∃ c : Int, e = .returned (.int .i64 c) ∧ Hid (DoZ w w' B p a b Z S Q c) := by
  refine (keepM h hV.m16 m).mono ?_
  rintro e w' ⟨c, rfl, G⟩
  refine ⟨c, rfl, ?_⟩
  rcases G.out with ⟨rfl, _, rfl⟩ | ⟨rfl, k, rfl, h1k, hk, Z', h1, h2, h3, h4⟩
  · exact DoZ.same _ h hV (Below.refl _ _)
  · refine ⟨Z', S, Q.take (k - 1), h1, h2, hV.keep h3 h4, ?_, .inl rfl, fun s hs => .inr (List.mem_of_mem_take hs), fun _ => rfl⟩
    rw [h4]
    split
    · simp
    · exact Nat.le_refl _
theorem undoZ (h : LM w B p a b Z S) (hV : Sv Z S Q) (hok : S.Ok) (hc : Z.cs.length ≤ 1000000000000) (m : Int) : Calls Try.prog 10 #[.pointer (some ⟨p, 0, none⟩), .int .i64 m] w fun e w' => ∃ c : Int, e = .returned (.int .i64 c) ∧ Hid (DoZ w w' B p a b Z S Q c) := by
  by_cases hbad : m < 1 ∨ (Z.ms.length : Int) < m
  · refine (undoNo h hbad).mono ?_
    rintro e w' ⟨rfl, rfl⟩
    exact ⟨50, rfl, DoZ.same _ h hV (Below.refl _ _)⟩
  · obtain ⟨k, rfl⟩ : ∃ k : Nat, m = (k : Int) := Int.eq_ofNat_of_zero_le (by omega)
    have hl := hV.len
    have hn : Z.ms[k - 1]? = some (Z.ms[k - 1]'(by omega)) := List.getElem?_eq_getElem _
    have hq : Q[k - 1]? = some (Q[k - 1]'(by omega)) := List.getElem?_eq_getElem _
    obtain ⟨g1, g2⟩ := hV.at_ _ _ _ hn hq
    refine (undoM h hV.m16 (k := k) (by omega) (by omega) hn g1 hc (by have := hok.la; omega) (by have := hok.lh; omega) g2).mono ?_
    rintro e w' ⟨rfl, G⟩
    obtain ⟨Z', h1, h2, h3, h4⟩ := G.out
    refine ⟨0, rfl, Z', _, Q.take (k - 1), h1, h2, hV.undo hn hq h3 h4, ?_, .inr (List.mem_of_getElem? hq), fun s hs => .inr (List.mem_of_mem_take hs), fun h0 => absurd rfl h0⟩
    rw [h4]
    split
    · simp
    · rw [List.length_take]; omega
end
set_option maxRecDepth 10000 in
set_option maxHeartbeats 3200000 in
theorem doesZ {w : World} {L0 p a b : Nat} {Z : SZ} {S : LS} {Q : List LS} (hM : LM w L0 p a b Z S) (hV : Sv Z S Q) (hok : S.Ok) (hc : Z.cs.length ≤ 1000000000000) {k : Int} (hk : k < 1 ∨ 6 < k) (A B C : Int) (N : Int) (sv : Option Addr) (sn sc : Nat) :
    Calls Try.prog 6 #[.pointer (some ⟨p, 0, none⟩), .agg #[.int .i64 k, .int .u64 A, .int .u64 B, .int .u64 C, .int .i64 N, .slice sv sn sc]] w fun e w' => ∃ c : Int, e = .returned (.int .i64 c) ∧ Hid (DoZ w w' L0 p a b Z S Q c) := by
  obtain ⟨W1, hW1⟩ : ∃ W1, w.alloc (.cells #[.int .i64 k, .int .u64 A, .int .u64 B, .int .u64 C, .int .i64 N, .slice sv sn sc] 30) = W1 := ⟨_, rfl⟩
  have b1 : Below w.heap.size w W1 := by rw [← hW1]; exact (Below.refl _ w).alloc (Nat.le_refl _) _
  have q1 : W1.heap[w.heap.size]? = some (.cells #[.int .i64 k, .int .u64 A, .int .u64 B, .int .u64 C, .int .i64 N, .slice sv sn sc] 30 (0, 0)) := by rw [← hW1]; exact alloc_atK _ _
  have c0 := block_cell q1 0
  have c4 := block_cell q1 4
  have cl := block_lt q1
  simp at c0 c4
  have HD : Hid (∀ V, Below w.heap.size w V → Hid (DoZ w V L0 p a b Z S Q 0)) := fun V hV2 => DoZ.same 0 hM hV hV2
  have HB1 := hide b1
  have HMK := hide (markZ (hM.kept b1) hV)
  have HUN := hide (undoZ (hM.kept b1) hV hok hc N)
  have HKP := hide (keepZ (hM.kept b1) hV N)
  have HF : Hid (∀ V c, Hid (DoZ W1 V L0 p a b Z S Q c) → Hid (DoZ w V L0 p a b Z S Q c)) := fun V c hd => hd.out.from HB1.out
  have e1 : (k == 1) = false := by simp; omega
  have e2 : (k == 2) = false := by simp; omega
  have e3 : (k == 3) = false := by simp; omega
  have e4 : (k == 4) = false := by simp; omega
  have e5 : (k == 5) = false := by simp; omega
  have e6 : (k == 6) = false := by simp; omega
  clear hM hV hok hc b1 q1 hk
  go_enter Try.func6, Try.ntmps6
  go_upto_region 1 with fail
  clear hW1
  by_cases h7 : k = 7
  · subst h7
    go_wp2_with fail
    refine HMK.out.mono ?_
    rintro e w1 ⟨n, c, rfl, G⟩
    have HE := HF.out _ _ G
    go_wp2
    go_ret
    exact ⟨_, rfl, HE⟩
  by_cases h8 : k = 8
  · subst h8
    go_wp2_with fail
    refine HUN.out.mono ?_
    rintro e w1 ⟨c, rfl, G⟩
    have HE := HF.out _ _ G
    go_wp2
    go_ret
    exact ⟨_, rfl, HE⟩
  by_cases h9 : k = 9
  · subst h9
    go_wp2_with fail
    refine HKP.out.mono ?_
    rintro e w1 ⟨c, rfl, G⟩
    have HE := HF.out _ _ G
    go_wp2
    go_ret
    exact ⟨_, rfl, HE⟩
  have e7 : (k == 7) = false := by simp; omega
  have e8 : (k == 8) = false := by simp; omega
  have e9 : (k == 9) = false := by simp; omega
  have HE := HD.out _ HB1.out
  clear HMK HUN HKP h7 h8 h9
  go_wp2
  go_ret
  exact ⟨_, rfl, HE⟩
end Go.Proofs.Ytcfenjpdjogmdaa
namespace Go.Proofs.Ytcfenjpdjogmdaa
open Go.RowKit

section
variable {α : Type} {key : α → Nat} (g : α → Nat)
/-- The sum over a list. -/
def sumK (l : List α) : Nat := (l.map g).sum
theorem sumK_cons (x : α) (l : List α) : sumK g (x :: l) = g x + sumK g l := by unfold sumK; simp
theorem sumK_ins (a : α) : ∀ l : List α, sumK g (insK key l a) = sumK g l + g a
  | [] => by simp [insK, sumK]
  | x :: r => by
    unfold insK
    split
    · rw [sumK_cons, sumK_cons]; omega
    · rw [sumK_cons, sumK_cons, sumK_ins a r]; omega
theorem sumK_rep : ∀ {l : List α} {a o : α} (_ : UpK key l) (_ : byK key l (key a) = some o), sumK g (repK key l a) + g o = sumK g l + g a
  | [], a, o, _, h => by rw [byK_nil] at h; cases h
  | x :: r, a, o, hu, h => by
    have e0 : repK key (x :: r) a = (if key x = key a then a else x) :: repK key r a := rfl
    rw [e0, sumK_cons, sumK_cons]
    rw [byK_cons] at h
    by_cases e : key x = key a
    · rw [if_pos e] at h ⊢
      cases h
      rw [repK_far (fun y hy => by have := hu.head y hy; omega)]
      omega
    · rw [if_neg e] at h ⊢
      have := sumK_rep hu.tail h
      omega
theorem sumK_rem : ∀ {l : List α} {x : Nat} {o : α} (_ : UpK key l) (_ : byK key l x = some o), sumK g (remK key l x) + g o = sumK g l
  | [], x, o, _, h => by rw [byK_nil] at h; cases h
  | z :: r, x, o, hu, h => by
    rw [byK_cons] at h
    have e0 : remK key (z :: r) x = if key z = x then remK key r x else z :: remK key r x := by
      unfold remK
      rw [List.filter_cons]
      by_cases e : key z = x
      · rw [if_neg (by simp [e]), if_pos e]
      · rw [if_pos (by simp [e]), if_neg e]
    rw [e0, sumK_cons]
    by_cases e : key z = x
    · rw [if_pos e] at h ⊢
      cases h
      rw [remK_far (fun y hy => by have := hu.head y hy; omega)]
      omega
    · rw [if_neg e] at h ⊢
      rw [sumK_cons]
      have := sumK_rem hu.tail h
      omega
end
/-- All the money there is. -/
def LS.bal (S : LS) : Nat := sumK Ac.ba S.acc + sumK Ho.am S.hol
theorem Ln.bal {S T : LS} {e : Jn} (h : Ln S e T) : T.bal = S.bal := by
  unfold LS.bal
  rcases h.did with ⟨_, h1, ⟨ow, h2⟩, h3⟩ | ⟨_, ⟨a, h1, h0⟩, h2, h3⟩ | ⟨_, hne, ⟨a, b, h1, h2, h4, h5, h6⟩, h3⟩ | ⟨_, _, h1, ⟨a, h2, h4, h5⟩, h3⟩ | ⟨_, ⟨hh, b, h1, h2, h4, h5, h6, h7⟩⟩
  · rw [h2, h3, sumK_ins]
    rfl
  · have := sumK_rem Ac.ba h.s.ua h1
    rw [h2, h3]
    omega
  · obtain ⟨ma, ka⟩ := byK_mem h1
    obtain ⟨mb, kb⟩ := byK_mem h2
    have e1 := sumK_rep Ac.ba (a := { a with ba := a.ba - e.am }) h.s.ua (show byK Ac.id S.acc a.id = some a by rw [ka]; exact h1)
    have e2 := sumK_rep Ac.ba (a := { b with ba := b.ba + e.am }) (repK_up h.s.ua { a with ba := a.ba - e.am }) (o := b) (by
      rw [byK_rep (by show (byK Ac.id S.acc a.id).isSome = true; rw [ka, h1]; rfl)]
      show (if b.id = a.id then _ else byK Ac.id S.acc b.id) = some b
      rw [if_neg (by rw [ka, kb]; exact fun e' => hne e'.symm), kb]
      exact h2)
    have f1 : Ac.ba { a with ba := a.ba - e.am } = a.ba - e.am := rfl
    have f2 : Ac.ba { b with ba := b.ba + e.am } = b.ba + e.am := rfl
    rw [f1] at e1
    rw [f2] at e2
    rw [h6, h3]
    omega
  · obtain ⟨ma, ka⟩ := byK_mem h2
    have e1 := sumK_rep Ac.ba (a := { a with ba := a.ba - e.am }) h.s.ua (show byK Ac.id S.acc a.id = some a by rw [ka]; exact h2)
    have f1 : Ac.ba { a with ba := a.ba - e.am } = a.ba - e.am := rfl
    rw [f1] at e1
    rw [h5, h3, sumK_ins]
    have f3 : Ho.am ⟨e.tw, e.fr, e.am⟩ = e.am := rfl
    rw [f3]
    omega
  · obtain ⟨mb, kb⟩ := byK_mem h2
    obtain ⟨mh, kh⟩ := byK_mem h1
    have e1 := sumK_rep Ac.ba (a := { b with ba := b.ba + e.am }) h.s.ua (show byK Ac.id S.acc b.id = some b by rw [kb]; exact h2)
    have f1 : Ac.ba { b with ba := b.ba + e.am } = b.ba + e.am := rfl
    rw [f1] at e1
    rw [h6, h7]
    have h1' : byK Ho.id S.hol hh.id = some hh := by rw [kh]; exact h1
    split
    · have := sumK_rem Ho.am h.s.uh h1'
      omega
    · have e2 := sumK_rep Ho.am (a := { hh with am := hh.am - e.am }) h.s.uh h1'
      have f2 : Ho.am { hh with am := hh.am - e.am } = hh.am - e.am := rfl
      rw [f2] at e2
      omega
theorem Rn.bal {S T : LS} {es : List Jn} (h : Rn S es T) : T.bal = S.bal ∧ T.tot = S.tot := by
  induction h with
  | nil => exact ⟨rfl, rfl⟩
  | snoc _ hl ih => exact ⟨hl.bal.trans ih.1, hl.tot.trans ih.2⟩
/-- What is kept. -/
def LS.Kp (S : LS) (s : Nat) : Prop := S.Ok ∧ S.bal = s ∧ S.tot = s
theorem LS.Kp.step {S T : LS} {s : Nat} (h : S.Kp s) {k a b c : Nat} {l : List Sh} (ha : a < 18446744073709551616) (hb : b < 18446744073709551616) (hc : c < 18446744073709551616) (hin : ∀ s ∈ l, s.In) {d : Nat} (hS : S.step k a b c l = (d, T)) : T.Kp s := by
  by_cases hd : d = 0
  · subst hd
    have hok := step_ok h.1 ha hb hc hin hS
    obtain ⟨es, _, e2, _⟩ := step_rn h.1 ha hb hc hin hS
    obtain ⟨h1, h2⟩ := e2.bal
    exact ⟨hok, h1.trans h.2.1, h2.trans h.2.2⟩
  · have := LS.step_no hS hd
    subst this
    exact h
end Go.Proofs.Ytcfenjpdjogmdaa
namespace Go.Proofs.Ytcfenjpdjogmdaa
open Go.RowKit

theorem sumK_take {α : Type} (g : α → Nat) {l : List α} {k : Nat} {x : α} (h : l[k]? = some x) : sumK g (l.take (k + 1)) = sumK g (l.take k) + g x := by
  unfold sumK
  rw [List.take_add_one, h]
  simp
theorem sumK_le {α : Type} (g : α → Nat) (l : List α) (k : Nat) : sumK g (l.take k) ≤ sumK g l := by
  have h : sumK g l = sumK g (l.take k) + sumK g (l.drop k) := by
    unfold sumK
    rw [← List.sum_append, ← List.map_append, List.take_append_drop]
  omega
set_option maxRecDepth 10000 in
set_option maxHeartbeats 3200000 in
/-- The image holds just the sum. -/
theorem exactlyI {w : World} {A : List Ac} {H : List Ho} {ao ho : Option Addr} {ga gh : Nat} (h : Im w A H ao ho ga gh) (n m cap hcap : Nat) (hn : n = A.length) (hm : m = H.length) (hA : n ≤ 64) (hH : m ≤ 64) (nx jv : Value) {s : Nat} (hs : s < 18446744073709551616) (hca : ∀ x ∈ A, x.ba ≤ x.cp) (hzh : ∀ x ∈ H, x.am ≠ 0) (hsum : sumK Ac.ba A + sumK Ho.am H = s) :
    Calls Try.prog 13 #[.agg #[.int .u64 (s : Nat), nx, .slice ao n cap, .slice ho m hcap, jv], .int .u64 (s : Nat)] w fun e w' => e = .returned (.bool true) ∧ Hid (Below w.heap.size w w') := by
  obtain ⟨W1, hW1⟩ : ∃ W1, w.alloc (.cells #[.int .u64 (s : Nat), nx, .slice ao n cap, .slice ho m hcap, jv] 35) = W1 := ⟨_, rfl⟩
  have b1 : Below w.heap.size w W1 := by rw [← hW1]; exact (Below.refl _ w).alloc (Nat.le_refl _) _
  have q1 : W1.heap[w.heap.size]? = some (.cells #[.int .u64 (s : Nat), nx, .slice ao n cap, .slice ho m hcap, jv] 35 (0, 0)) := by rw [← hW1]; exact alloc_atK _ _
  have HQ : Hid (∀ V, Below W1.heap.size W1 V → V.cell? ⟨w.heap.size, 0, none⟩ = some (.int .u64 (s : Nat)) ∧ V.cell? ⟨w.heap.size, 2, none⟩ = some (.slice ao n cap) ∧ V.cell? ⟨w.heap.size, 3, none⟩ = some (.slice ho m hcap) ∧ w.heap.size < V.heap.size) := fun V hV => by
    have c1 := (hV.block _ (block_lt q1)).trans q1
    exact ⟨block_cell c1 0, block_cell c1 2, block_cell c1 3, block_lt c1⟩
  have HI : Hid (∀ V, Below W1.heap.size W1 V → Im V A H ao ho ga gh) := fun V hV => (h.below b1).below hV
  have HB1 := hide b1
  have HN := hide hn
  have HM := hide hm
  have HCA := hide hca
  have HZH := hide hzh
  have HSUM := hide hsum
  have HS := hide hs
  clear h b1 q1 hn hm hca hzh hsum hs
  go_enter Try.func13, Try.ntmps13
  go_upto_region 1 with fail
  clear hW1
  go_wp2
  go_loopw [5, 6] (fun lf i wr => ∃ k L : Nat, k ≤ n ∧ i = .int .i64 k ∧ lf = .int .u64 (L : Nat) ∧ Hid (L + sumK Ac.ba (A.take k) = s ∧ L < 18446744073709551616) ∧ Hid (Below W1.heap.size W1 wr)) (fun _ i _ => n - (intOf i).toNat)
  case atStart => exact ⟨0, s, by omega, rfl, rfl, ⟨by simp [sumK], HS.out⟩, Below.refl _ _⟩
  case round =>
    obtain ⟨k, L, hk, rfl, rfl, HL, HB⟩ := hrel
    obtain ⟨x0, x2, x3, xl⟩ := HQ.out wr HB.out
    by_cases hlt : k < n
    · obtain ⟨y, hy⟩ : ∃ y, A[k]? = some y := ⟨_, List.getElem?_eq_getElem (by have := HN.out; omega)⟩
      have hI := HI.out wr HB.out
      obtain ⟨d0, d1, d2, d3⟩ := hI.a.four hy
      obtain ⟨rfl, gl⟩ := hI.ao (by have := HN.out; omega)
      simp only [Nat.zero_add] at d0 d1 d2 d3
      have h1 := sumK_take Ac.ba hy
      have h2 := sumK_le Ac.ba A (k + 1)
      have h3 := HSUM.out
      have h4 := HL.out
      have h5 := HCA.out y (List.mem_of_getElem? hy)
      have g1 : decide (L < y.ba) = false := decide_eq_false (by omega)
      have g2 : decide (y.cp < y.ba) = false := decide_eq_false (by omega)
      obtain ⟨M, hM⟩ : ∃ M : Nat, L - y.ba = M := ⟨_, rfl⟩
      have hw : IntKind.u64.wrap ((L : Int) - (y.ba : Int)) = (M : Int) := by rw [IntWalk.u64_in _ ⟨by omega, by omega⟩]; omega
      have HL2 : Hid (M + sumK Ac.ba (A.take (k + 1)) = s ∧ M < 18446744073709551616) := ⟨by omega, by omega⟩
      clear hI hy h1 h2 h3 h4 h5 hM HL
      go_upto_region 5 with fail
      go_quiet (fail)
      have HBD : Hid (∀ q, Below W1.heap.size W1 (wr.drewN q)) := fun q => below_dA HB.out q
      clear HB
      go_wp2
      go_roundw
      case rel => exact ⟨k + 1, M, by omega, by go_num, rfl, HL2, HBD.out _⟩
      case measure => simp [intOf]; omega
    · obtain rfl : k = n := by omega
      have HL3 : Hid (L + sumK Ac.ba A = s ∧ L < 18446744073709551616) := by
        have h4 := HL.out
        rw [HN.out, List.take_length] at h4
        exact h4
      clear HL
      have HL4 : Hid (L = sumK Ho.am H ∧ L < 18446744073709551616) := by
        have h4 := HL3.out
        have h5 := HSUM.out
        exact ⟨by omega, h4.2⟩
      clear HL3 HCA HSUM
      go_wp2
      go_loopw [5, 7] (fun lf i wr => ∃ k L : Nat, k ≤ m ∧ i = .int .i64 k ∧ lf = .int .u64 (L : Nat) ∧ Hid (L + sumK Ho.am (H.take k) = sumK Ho.am H ∧ L < 18446744073709551616) ∧ Hid (Below W1.heap.size W1 wr)) (fun _ i _ => m - (intOf i).toNat)
      case atStart => exact ⟨0, L, by omega, rfl, rfl, ⟨by simp [sumK, HL4.out.1], HL4.out.2⟩, HB.out⟩
      case round =>
        clear HB x0 x2 x3 xl HL4 hk
        obtain ⟨k, L, hk, rfl, rfl, HL, HB⟩ := hrel
        obtain ⟨x0, x2, x3, xl⟩ := HQ.out wr HB.out
        by_cases hlt : k < m
        · obtain ⟨y, hy⟩ : ∃ y, H[k]? = some y := ⟨_, List.getElem?_eq_getElem (by have := HM.out; omega)⟩
          have hI := HI.out wr HB.out
          obtain ⟨d0, d1, d2⟩ := hI.h.at_ k y hy
          obtain ⟨rfl, gl⟩ := hI.ho (by have := HM.out; omega)
          simp only [Nat.zero_add] at d0 d1 d2
          have h1 := sumK_take Ho.am hy
          have h2 := sumK_le Ho.am H (k + 1)
          have h4 := HL.out
          have h5 := HZH.out y (List.mem_of_getElem? hy)
          have g1 : decide (L < y.am) = false := decide_eq_false (by omega)
          have g1i : decide ((y.am : Int) > (L : Int)) = false := decide_eq_false (by omega)
          have g2 : ((y.am : Int) == 0) = false := by simp; omega
          obtain ⟨M, hM⟩ : ∃ M : Nat, L - y.am = M := ⟨_, rfl⟩
          have hw : IntKind.u64.wrap ((L : Int) - (y.am : Int)) = (M : Int) := by rw [IntWalk.u64_in _ ⟨by omega, by omega⟩]; omega
          have HL2 : Hid (M + sumK Ho.am (H.take (k + 1)) = sumK Ho.am H ∧ M < 18446744073709551616) := ⟨by omega, by omega⟩
          clear hI hy h1 h2 h4 h5 hM HL
          go_wp2
          go_roundw
          case rel => exact ⟨k + 1, M, by omega, by go_num, rfl, HL2, HB⟩
          case measure => simp [intOf]; omega
        · obtain rfl : k = m := by omega
          obtain rfl : L = 0 := by
            have h4 := HL.out
            rw [HM.out, List.take_length] at h4
            omega
          have HE : Hid (Below w.heap.size w wr) := HB1.out.trans (HB.out.mono HB1.out.size)
          clear HL HB
          go_wp2
          go_ret
          exact ⟨rfl, HE⟩
end Go.Proofs.Ytcfenjpdjogmdaa
namespace Go.Proofs.Ytcfenjpdjogmdaa
open Go.RowKit

/-- A ledger with marks on its way: k steps are done. -/
structure KpR (w : World) (s k p a b : Nat) (V : World) (S : LS) : Prop where
  bel : Below w.heap.size w V
  z : ∃ Z Q, LM V w.heap.size p a b Z S ∧ Sv Z S Q ∧ Z.cs.length ≤ 48 * k ∧ ∀ q ∈ Q, q.Kp s ∧ q.nx ≤ 1 + 16 * k
  kp : S.Kp s
  nx : S.nx ≤ 1 + 16 * k
theorem KpR.kept {w : World} {s k p a b : Nat} {V V' : World} {S : LS} (h : KpR w s k p a b V S) (hb : Below V.heap.size V V') : KpR w s k p a b V' S := by
  obtain ⟨Z, Q, h1, h2⟩ := h.z
  exact ⟨h.bel.trans (hb.mono h.bel.size), ⟨Z, Q, h1.kept hb, h2⟩, h.kp, h.nx⟩
theorem KpR.lg {w : World} {s k p a b : Nat} {V : World} {S : LS} (h : KpR w s k p a b V S) : ∃ mk ch, LG V p a b mk ch S := by
  obtain ⟨Z, Q, h1, _⟩ := h.z
  exact ⟨_, _, h1.lg⟩
theorem step_nx {S T : LS} (h : S.Ok) {k a b c : Nat} {l : List Sh} (ha : a < 18446744073709551616) (hb : b < 18446744073709551616) (hc : c < 18446744073709551616) (hin : ∀ s ∈ l, s.In) {d : Nat} (hS : S.step k a b c l = (d, T)) : T.nx ≤ S.nx + 16 := by
  by_cases hd : d = 0
  · subst hd
    obtain ⟨es, _, e2, e3⟩ := step_rn h ha hb hc hin hS
    rw [e2.nx]
    omega
  · have := LS.step_no hS hd
    subst this
    omega
theorem Tr.below_of {w V V' : World} {p a b : Nat} {Z Z' : SZ} {S : LS} (hb : Below w.heap.size w V) (h : LM V w.heap.size p a b Z S) (ht : Tr V V' p a b Z Z') : Below w.heap.size w V' := by
  obtain ⟨xs, hc, _⟩ := h.cr
  have lo := h.lo
  exact ⟨ht.os.trans hb.os, ht.tape.trans hb.tape, ht.output.trans hb.output, Nat.le_trans hb.size ht.size, fun k hk => (ht.block k (Nat.lt_of_lt_of_le hk hb.size) (by omega) (by omega) (by omega) (fun e => by have := (h.mr.lt k e).1; omega) (fun e => by have := (hc.lt k e).1; omega)).trans (hb.block k hk)⟩
/-- A step. -/
theorem KpR.does {w : World} {s k p a b : Nat} {V : World} {S : LS} (h : KpR w s k p a b V S) (hk : k ≤ 1048576) {o : OpR} (ho : o.Ok w.heap.size w) :
    Calls Try.prog 6 #[.pointer (some ⟨p, 0, none⟩), .agg o.arr] V fun e V' => ∃ c : Int, e = .returned (.int .i64 c) ∧ Hid (∃ S', KpR w s (k + 1) p a b V' S' ∧ Fl V V' ∧ (c ≠ 0 → S' = S) ∧ (o.K = 3 → ∃ d : Nat, c = (d : Int) ∧ S.moves o.A o.B o.C = (d, S'))) := by
  obtain ⟨Z, Q, hM, hV, hc, hq⟩ := h.z
  by_cases h16 : 1 ≤ o.K ∧ o.K ≤ 6
  · obtain ⟨kk, hkk⟩ : ∃ kk : Nat, o.K = (kk : Int) := Int.eq_ofNat_of_zero_le (by omega)
    obtain ⟨cS, hcS⟩ : ∃ cS, S.step kk o.A o.B o.C o.l = cS := ⟨_, rfl⟩
    obtain ⟨c, S1⟩ := cS
    have hoV := ho.below h.bel (Nat.le_refl _)
    obtain ⟨bs, off, hsh, hso⟩ := hoV.sh
    have hd := doesM hM (by omega) h.kp.1 (k := kk) (by omega) (by omega) ho.hA ho.hB ho.hC o.N o.sn o.sc ho.hn hsh (fun h0 => ⟨(hso h0).1, Nat.lt_of_lt_of_le (hso h0).2 h.bel.size⟩) ho.le hcS
    rw [← hkk] at hd
    refine hd.mono ?_
    rintro e V' ⟨rfl, G⟩
    obtain ⟨Z', ds, g1, g2, g3, g4, g5, g6⟩ := G.out.tr
    refine ⟨c, rfl, S1, ⟨g2.below_of h.bel hM, ⟨Z', Q, g1, hV.step g3 g4 g6, ?_, fun q hq' => ⟨(hq q hq').1, by have := (hq q hq').2; omega⟩⟩, h.kp.step ho.hA ho.hB ho.hC hsh.ok hcS, ?_⟩, g2.fl, fun h0 => LS.step_no hcS (by omega), fun h3 => ⟨c, rfl, ?_⟩⟩
    · rw [g4]
      split
      · omega
      · rw [List.length_append]; omega
    · have := step_nx h.kp.1 ho.hA ho.hB ho.hC hsh.ok hcS
      have := h.nx
      omega
    · obtain rfl : kk = 3 := by omega
      exact hcS
  · refine (doesZ hM hV h.kp.1 (by omega) (k := o.K) (by omega) (o.A : Nat) (o.B : Nat) (o.C : Nat) o.N o.so o.sn o.sc).mono ?_
    rintro e V' ⟨c, rfl, G⟩
    obtain ⟨Z', S1, Q1, g1, g2, g3, g4, g5, g6, g7⟩ := G.out
    have hS1 : S1.Kp s ∧ S1.nx ≤ 1 + 16 * (k + 1) := by
      rcases g5 with rfl | g5
      · exact ⟨h.kp, by have := h.nx; omega⟩
      · exact ⟨(hq _ g5).1, by have := (hq _ g5).2; omega⟩
    refine ⟨c, rfl, S1, ⟨g2.below_of h.bel hM, ⟨Z', Q1, g1, g3, by omega, fun q hq' => ?_⟩, hS1.1, hS1.2⟩, g2.fl, g7, fun h3 => by omega⟩
    rcases g6 q hq' with rfl | hq2
    · exact ⟨h.kp, by have := h.nx; omega⟩
    · exact ⟨(hq q hq2).1, by have := (hq q hq2).2; omega⟩
end Go.Proofs.Ytcfenjpdjogmdaa
namespace Go.Proofs.Ytcfenjpdjogmdaa
open Go.RowKit

theorem row_fl {W W' : World} {B s n : Nat} {t : TypeId} {v : Value} {xs : List Value} (h : W.ownsRow B t s v n xs) (hf : Fl W W') (h1 : t ≠ 77) (h2 : t ≠ 3) (h3 : t ≠ 122) : W'.ownsRow B t s v n xs := by
  refine ⟨h.1, ?_⟩
  rcases h.2 with h | ⟨g, cp, cur, rfl, q1, q2, q3⟩
  · exact .inl h
  · exact .inr ⟨g, cp, cur, rfl, q1, hf.at_ _ _ _ q2 h1 h2 h3, q3⟩
/-- An image as it lies, in a variable. -/
structure WasR (V : World) (q : Nat) (S : LS) (ao : Option Addr) (cap : Nat) (ho : Option Addr) (hcap : Nat) (jo : Option Addr) (jcap : Nat) : Prop where
  box : V.heap[q]? = some (.cells #[.int .u64 (S.tot : Nat), .int .u64 (S.nx : Nat), .slice ao S.acc.length cap, .slice ho S.hol.length hcap, .slice jo S.jl.length jcap] 35 (0, 0))
  ra : ∃ B, V.ownsRow B 80 4 (.slice ao S.acc.length cap) S.acc.length (acells S.acc)
  rh : ∃ B, V.ownsRow B 83 3 (.slice ho S.hol.length hcap) S.hol.length (hcells S.hol)
  rj : ∃ B, V.ownsRow B 68 5 (.slice jo S.jl.length jcap) S.jl.length (jcells S.jl)
section
variable {V V' : World} {q : Nat} {S : LS} {ao ho jo : Option Addr} {cap hcap jcap : Nat}
theorem WasR.fl (h : WasR V q S ao cap ho hcap jo jcap) (hf : Fl V V') : WasR V' q S ao cap ho hcap jo jcap := by
  obtain ⟨_, ra⟩ := h.ra
  obtain ⟨_, rh⟩ := h.rh
  obtain ⟨_, rj⟩ := h.rj
  exact ⟨hf.at_ _ _ _ h.box (by decide) (by decide) (by decide), ⟨_, row_fl ra hf (by decide) (by decide) (by decide)⟩, ⟨_, row_fl rh hf (by decide) (by decide) (by decide)⟩, ⟨_, row_fl rj hf (by decide) (by decide) (by decide)⟩⟩
theorem WasR.kept (h : WasR V q S ao cap ho hcap jo jcap) (hb : Below V.heap.size V V') : WasR V' q S ao cap ho hcap jo jcap := h.fl (Fl.below hb)
theorem WasR.new {W W1 : World} (h : ImR W W1 S.acc S.hol S.jl ao cap ho hcap jo jcap) : WasR (W1.alloc (.cells #[.int .u64 (S.tot : Nat), .int .u64 (S.nx : Nat), .slice ao S.acc.length cap, .slice ho S.hol.length hcap, .slice jo S.jl.length jcap] 35)) W1.heap.size S ao cap ho hcap jo jcap := by
  have hf : Fl W1 (W1.alloc (.cells #[.int .u64 (S.tot : Nat), .int .u64 (S.nx : Nat), .slice ao S.acc.length cap, .slice ho S.hol.length hcap, .slice jo S.jl.length jcap] 35)) := Fl.below ((Below.refl _ W1).alloc (Nat.le_refl _) _)
  exact ⟨alloc_atK _ _, ⟨_, row_fl h.ra hf (by decide) (by decide) (by decide)⟩, ⟨_, row_fl h.rh hf (by decide) (by decide) (by decide)⟩, ⟨_, row_fl h.rj hf (by decide) (by decide) (by decide)⟩⟩
theorem WasR.imj (h : WasR V q S ao cap ho hcap jo jcap) (hok : S.Ok) : ∃ ga gh gj, ImJ V S.acc S.hol S.jl ao ho jo ga gh gj := by
  obtain ⟨_, ra⟩ := h.ra
  obtain ⟨_, rh⟩ := h.rh
  obtain ⟨_, rj⟩ := h.rj
  obtain ⟨ga, gh, h1, _, _⟩ := im_of_rows ra rh hok.ia hok.ih
  obtain ⟨gj, h2, _, h3⟩ := jn_of_row rj (LS.jl_in hok)
  exact ⟨ga, gh, gj, h1, h2, h3⟩
def imgV (S : LS) (ao : Option Addr) (cap : Nat) (ho : Option Addr) (hcap : Nat) (jo : Option Addr) (jcap : Nat) : Value := .agg #[.int .u64 (S.tot : Nat), .int .u64 (S.nx : Nat), .slice ao S.acc.length cap, .slice ho S.hol.length hcap, .slice jo S.jl.length jcap]
theorem WasR.exact_ {s : Nat} (h : WasR V q S ao cap ho hcap jo jcap) (hk : S.Kp s) (hs : s < 18446744073709551616) : Calls Try.prog 13 #[imgV S ao cap ho hcap jo jcap, .int .u64 (s : Nat)] V fun e w' => e = .returned (.bool true) ∧ Hid (Below V.heap.size V w') := by
  obtain ⟨ga, gh, gj, hi⟩ := h.imj hk.1
  have := exactlyI hi.toIm S.acc.length S.hol.length cap hcap rfl rfl hk.1.la hk.1.lh (.int .u64 (S.nx : Nat)) (.slice jo S.jl.length jcap) hs hk.1.ca (fun x hx => (hk.1.zh x hx).2) hk.2.1
  unfold imgV
  rw [hk.2.2]
  exact this
theorem WasR.same_ {q' : Nat} {ao' ho' jo' : Option Addr} {cap' hcap' jcap' : Nat} (h : WasR V q S ao cap ho hcap jo jcap) (h' : WasR V q' S ao' cap' ho' hcap' jo' jcap') (hok : S.Ok) : Calls Try.prog 11 #[imgV S ao cap ho hcap jo jcap, imgV S ao' cap' ho' hcap' jo' jcap'] V fun e w' => e = .returned (.bool true) ∧ Hid (Below V.heap.size V w') := by
  obtain ⟨ga, gh, gj, hi⟩ := h.imj hok
  obtain ⟨ga', gh', gj', hi'⟩ := h'.imj hok
  exact sameImageI hi hi' hok.la hok.lh (by rw [S.jl_len]; omega) _ _ _ _ _ _ _ _
end
end Go.Proofs.Ytcfenjpdjogmdaa
namespace Go.Proofs.Ytcfenjpdjogmdaa
open Go.RowKit

/-- A variable that holds an image turns. -/
structure Fq (W W' : World) (q : Nat) : Prop where
  g : W.grownBy W' (some q)
  at_ : ∀ (k : Nat) (cs : Array Value) (t : TypeId), W.heap[k]? = some (.cells cs t (0, 0)) → t ≠ 35 → W'.heap[k]? = some (.cells cs t (0, 0))
theorem Fq.of {W W' : World} {q : Nat} {cs : Array Value} (hg : W.grownBy W' (some q)) (hq : W.heap[q]? = some (.cells cs 35 (0, 0))) : Fq W W' q :=
  ⟨hg, fun k cs' t hk ht => (hg.block k (block_lt hk) (fun e => by
    cases e
    rw [hq] at hk
    cases hk
    exact ht rfl)).trans hk⟩
theorem row_fq {W W' : World} {q B s n : Nat} {t : TypeId} {v : Value} {xs : List Value} (h : W.ownsRow B t s v n xs) (hf : Fq W W' q) (ht : t ≠ 35) : W'.ownsRow B t s v n xs := by
  refine ⟨h.1, ?_⟩
  rcases h.2 with h | ⟨g, cp, cur, rfl, q1, q2, q3⟩
  · exact .inl h
  · exact .inr ⟨g, cp, cur, rfl, q1, hf.at_ _ _ _ q2 ht, q3⟩
/-- An image is kept in a variable. -/
theorem WasR.store {V : World} {q q' : Nat} {S : LS} {ao ho jo : Option Addr} {cap hcap jcap : Nat} (h : WasR V q' S ao cap ho hcap jo jcap) {v0 v1 v2 v3 v4 : Value} (hq : V.heap[q]? = some (.cells #[v0, v1, v2, v3, v4] 35 (0, 0))) :
    WasR (((((V.setCell ⟨q, 0, none⟩ (.int .u64 (S.tot : Nat))).setCell ⟨q, 1, none⟩ (.int .u64 (S.nx : Nat))).setCell ⟨q, 2, none⟩ (.slice ao S.acc.length cap)).setCell ⟨q, 3, none⟩ (.slice ho S.hol.length hcap)).setCell ⟨q, 4, none⟩ (.slice jo S.jl.length jcap)) q S ao cap ho hcap jo jcap ∧ Fq V (((((V.setCell ⟨q, 0, none⟩ (.int .u64 (S.tot : Nat))).setCell ⟨q, 1, none⟩ (.int .u64 (S.nx : Nat))).setCell ⟨q, 2, none⟩ (.slice ao S.acc.length cap)).setCell ⟨q, 3, none⟩ (.slice ho S.hol.length hcap)).setCell ⟨q, 4, none⟩ (.slice jo S.jl.length jcap)) q := by
  obtain ⟨_, ra⟩ := h.ra
  obtain ⟨_, rh⟩ := h.rh
  obtain ⟨_, rj⟩ := h.rj
  have hg := far_two (far_two (far_two (far_two (grown_set V q 0 (.int .u64 (S.tot : Nat))) (grown_set _ q 1 (.int .u64 (S.nx : Nat)))) (grown_set _ q 2 (.slice ao S.acc.length cap))) (grown_set _ q 3 (.slice ho S.hol.length hcap))) (grown_set _ q 4 (.slice jo S.jl.length jcap))
  have hf := Fq.of hg hq
  have hb := heap_setCell_same _ q 4 _ _ (.slice jo S.jl.length jcap) (heap_setCell_same _ q 3 _ _ (.slice ho S.hol.length hcap) (heap_setCell_same _ q 2 _ _ (.slice ao S.acc.length cap) (heap_setCell_same _ q 1 _ _ (.int .u64 (S.nx : Nat)) (heap_setCell_same V q 0 _ _ (.int .u64 (S.tot : Nat)) hq))))
  exact ⟨⟨by rw [hb]; rfl, ⟨_, row_fq ra hf (by decide)⟩, ⟨_, row_fq rh hf (by decide)⟩, ⟨_, row_fq rj hf (by decide)⟩⟩, hf⟩
theorem sumK_foldl (l : List Ac) : ∀ m : List Ac, sumK Ac.ba (l.foldl insA m) = sumK Ac.ba m + sumA l := by
  induction l with
  | nil => intro m; simp [sumA]
  | cons a l ih =>
    intro m
    rw [List.foldl_cons, ih, insA_eq, sumK_ins]
    simp only [sumA, List.map_cons, List.sum_cons]
    omega
theorem LS0_kp {l : List Ac} (hok : (LS0 l).Ok) : (LS0 l).Kp (sumA l) := by
  refine ⟨hok, ?_, rfl⟩
  show sumK Ac.ba (srt l) + sumK Ho.am [] = sumA l
  unfold srt
  rw [sumK_foldl]
  simp [sumK]
end Go.Proofs.Ytcfenjpdjogmdaa
namespace Go.Proofs.Ytcfenjpdjogmdaa
open Go.RowKit

theorem good_sum {l : List Ac} (hg : Good l l.length) : sumA l < 18446744073709551616 := by
  have key : ∀ k, k ≤ l.length → sumA (l.take k) < 18446744073709551616 := by
    intro k
    induction k with
    | zero => intro _; simp [sumA]
    | succ k ih =>
      intro hk
      have hx : l[k]? = some l[k] := List.getElem?_eq_getElem (by omega)
      have h1 := hg k _ (by omega) hx
      have h2 := ih (by omega)
      rw [List.take_add_one, hx]
      show sumA (l.take k ++ [l[k]]) < _
      rw [sumA_app]
      unfold faultA at h1
      split at h1
      · cases h1
      split at h1
      · cases h1
      split at h1
      · cases h1
      split at h1
      · cases h1
      · omega
  have := key l.length (Nat.le_refl _)
  rw [List.take_length] at this
  exact this
end Go.Proofs.Ytcfenjpdjogmdaa
namespace Go.Proofs.Ytcfenjpdjogmdaa
open Go.RowKit

/-- A step, marks and all: the answer, the ledger, and for each mark what it was when that was set. -/
def stepQ (S : LS) (Q : List LS) (o : OpR) : Int × LS × List LS :=
  if 1 ≤ o.K ∧ o.K ≤ 6 then (((S.step o.K.toNat o.A o.B o.C o.l).1 : Int), (S.step o.K.toNat o.A o.B o.C o.l).2, Q)
  else if o.K = 7 then if Q.length = 16 then (50, S, Q) else (0, S, Q ++ [S])
  else if o.K = 8 then if o.N < 1 ∨ (Q.length : Int) < o.N then (50, S, Q) else (0, (Q[o.N.toNat - 1]?).getD S, Q.take (o.N.toNat - 1))
  else if o.K = 9 then if o.N < 1 ∨ (Q.length : Int) < o.N then (50, S, Q) else (0, S, Q.take (o.N.toNat - 1))
  else (0, S, Q)
/-- A ledger with marks, as it lies. -/
structure LQ (B p a b M : Nat) (V : World) (Z : SZ) (S : LS) (Q : List LS) : Prop where
  l : LM V B p a b Z S
  v : Sv Z S Q
  c : Z.cs.length ≤ M
  ok : S.Ok
  oq : ∀ q ∈ Q, q.Ok
section
variable {B p a b M : Nat} {V V' : World} {Z : SZ} {S : LS} {Q : List LS}
theorem LQ.kept (h : LQ B p a b M V Z S Q) (hb : Below V.heap.size V V') : LQ B p a b M V' Z S Q := ⟨h.l.kept hb, h.v, h.c, h.ok, h.oq⟩
/-- What a step leaves. -/
def LQP (B p a b M : Nat) (V V' : World) (Z : SZ) (S' : LS) (Q' : List LS) : Prop := ∃ Z', LQ B p a b (M + 48) V' Z' S' Q' ∧ Tr V V' p a b Z Z'
theorem markQ (h : LQ B p a b M V Z S Q) : Calls Try.prog 8 #[.pointer (some ⟨p, 0, none⟩)] V fun e w' => ∃ n c : Int, e = .returned (.tuple #[.int .i64 n, .int .i64 c]) ∧ (n = if Q.length = 16 then 0 else (Q.length : Int) + 1) ∧ Hid (c = (if Q.length = 16 then 50 else 0) ∧ LQP B p a b M V w' Z S (if Q.length = 16 then Q else Q ++ [S])) := by
  refine (markM h.l h.v.m16).mono ?_
  rintro e w' ⟨n, c, rfl, G⟩
  have hl := h.v.len
  rcases G.out with ⟨rfl, rfl, h16, rfl⟩ | ⟨rfl, rfl, h16, Z', h1, h2, h3, h4⟩
  · exact ⟨0, 50, rfl, by rw [if_pos (by omega)], by rw [if_pos (by omega)], Z, by rw [if_pos (by omega)]; exact ⟨h.l, h.v, by have := h.c; omega, h.ok, h.oq⟩, Tr.below (Below.refl _ _)⟩
  · refine ⟨_, 0, rfl, by rw [if_neg (by omega), hl], by rw [if_neg (by omega)], Z', ⟨h1, by rw [if_neg (by omega)]; exact h.v.mark h16 h3 h4, by rw [h4]; have := h.c; omega, h.ok, fun q hq => ?_⟩, h2⟩
    rw [if_neg (by omega)] at hq
    rcases List.mem_append.1 hq with hq | hq
    · exact h.oq q hq
    · have : q = S := by simpa using hq
      rw [this]
      exact h.ok
theorem keepQ (h : LQ B p a b M V Z S Q) (m : Int) : Calls Try.prog 27 #[.pointer (some ⟨p, 0, none⟩), .int .i64 m] V fun e w' => ∃ c : Int, e = .returned (.int .i64 c) ∧ Hid (c = (if m < 1 ∨ (Q.length : Int) < m then 50 else 0) ∧ LQP B p a b M V w' Z S (if m < 1 ∨ (Q.length : Int) < m then Q else Q.take (m.toNat - 1))) := by
  refine (keepM h.l h.v.m16 m).mono ?_
  rintro e w' ⟨c, rfl, G⟩
  have hl := h.v.len
  refine ⟨c, rfl, ?_⟩
  rcases G.out with ⟨rfl, hb, rfl⟩ | ⟨rfl, k, rfl, h1k, hk, Z', h1, h2, h3, h4⟩
  · exact ⟨by rw [if_pos (by rw [hl]; exact hb)], Z, by rw [if_pos (by rw [hl]; exact hb)]; exact ⟨h.l, h.v, by have := h.c; omega, h.ok, h.oq⟩, Tr.below (Below.refl _ _)⟩
  · have hng : ¬ ((k : Int) < 1 ∨ (Q.length : Int) < (k : Int)) := by omega
    refine ⟨by rw [if_neg hng], Z', ?_, h2⟩
    rw [if_neg hng, Int.toNat_natCast]
    refine ⟨h1, h.v.keep h3 h4, ?_, h.ok, fun q hq => h.oq q (List.mem_of_mem_take hq)⟩
    rw [h4]
    have := h.c
    split
    · simp
    · omega
theorem undoQ (h : LQ B p a b M V Z S Q) (hM : M ≤ 1000000000000) (m : Int) : Calls Try.prog 10 #[.pointer (some ⟨p, 0, none⟩), .int .i64 m] V fun e w' => ∃ c : Int, e = .returned (.int .i64 c) ∧ Hid (c = (if m < 1 ∨ (Q.length : Int) < m then 50 else 0) ∧ LQP B p a b M V w' Z (if m < 1 ∨ (Q.length : Int) < m then S else (Q[m.toNat - 1]?).getD S) (if m < 1 ∨ (Q.length : Int) < m then Q else Q.take (m.toNat - 1))) := by
  have hl := h.v.len
  by_cases hbad : m < 1 ∨ (Z.ms.length : Int) < m
  · refine (undoNo h.l hbad).mono ?_
    rintro e w' ⟨rfl, rfl⟩
    have hb : m < 1 ∨ (Q.length : Int) < m := by omega
    exact ⟨50, rfl, by rw [if_pos hb], Z, by rw [if_pos hb, if_pos hb]; exact ⟨h.l, h.v, by have := h.c; omega, h.ok, h.oq⟩, Tr.below (Below.refl _ _)⟩
  · obtain ⟨k, rfl⟩ : ∃ k : Nat, m = (k : Int) := Int.eq_ofNat_of_zero_le (by omega)
    have hn : Z.ms[k - 1]? = some (Z.ms[k - 1]'(by omega)) := List.getElem?_eq_getElem _
    have hq : Q[k - 1]? = some (Q[k - 1]'(by omega)) := List.getElem?_eq_getElem _
    obtain ⟨g1, g2⟩ := h.v.at_ _ _ _ hn hq
    refine (undoM h.l h.v.m16 (k := k) (by omega) (by omega) hn g1 (by have := h.c; omega) (by have := h.ok.la; omega) (by have := h.ok.lh; omega) g2).mono ?_
    rintro e w' ⟨rfl, G⟩
    obtain ⟨Z', h1, h2, h3, h4⟩ := G.out
    have hng : ¬ ((k : Int) < 1 ∨ (Q.length : Int) < (k : Int)) := by omega
    refine ⟨0, rfl, by rw [if_neg hng], Z', ?_, h2⟩
    rw [if_neg hng, if_neg hng, Int.toNat_natCast, hq, Option.getD_some]
    refine ⟨h1, h.v.undo hn hq h3 h4, ?_, h.oq _ (List.mem_of_getElem? hq), fun q hq' => h.oq q (List.mem_of_mem_take hq')⟩
    rw [h4]
    have := h.c
    split
    · simp
    · rw [List.length_take]; omega
end
end Go.Proofs.Ytcfenjpdjogmdaa
namespace Go.Proofs.Ytcfenjpdjogmdaa
open Go.RowKit

section
variable {B p a b M : Nat} {V V' w : World} {Z : SZ} {S : LS} {Q : List LS}
theorem LQP.from {V1 : World} {S' : LS} {Q' : List LS} (hb : Below V.heap.size V V1) (h : LQP B p a b M V1 V' Z S' Q') : LQP B p a b M V V' Z S' Q' := by
  obtain ⟨Z', h1, h2⟩ := h
  exact ⟨Z', h1, (Tr.below hb).trans h2⟩
theorem stepQ_16 {o : OpR} {k : Nat} (hk : o.K = (k : Int)) (h : 1 ≤ k ∧ k ≤ 6) {c : Nat} {T : LS} (hS : S.step k o.A o.B o.C o.l = (c, T)) : stepQ S Q o = ((c : Int), T, Q) := by
  unfold stepQ
  rw [if_pos (by omega), hk, Int.toNat_natCast, hS]
set_option maxRecDepth 10000 in
set_option maxHeartbeats 3200000 in
/-- Steps 7, 8, 9, and what is no step. -/
theorem doesQ7 (h : LQ B p a b M V Z S Q) (hM : M ≤ 1000000000000) {o : OpR} (hk : o.K < 1 ∨ 6 < o.K) {c : Int} {T : LS} {R : List LS} (hS : stepQ S Q o = (c, T, R)) :
    Calls Try.prog 6 #[.pointer (some ⟨p, 0, none⟩), .agg o.arr] V fun e w' => e = .returned (.int .i64 c) ∧ Hid (LQP B p a b M V w' Z T R) := by
  obtain ⟨W1, hW1⟩ : ∃ W1, V.alloc (.cells o.arr 30) = W1 := ⟨_, rfl⟩
  have b1 : Below V.heap.size V W1 := by rw [← hW1]; exact (Below.refl _ V).alloc (Nat.le_refl _) _
  have q1 : W1.heap[V.heap.size]? = some (opBox o) := by rw [← hW1]; exact alloc_atK _ _
  obtain ⟨c0, -, -, -, c4, -, cl⟩ := op_cells q1
  have h1 := h.kept b1
  unfold stepQ at hS
  rw [if_neg (by omega)] at hS
  have HF : Hid (∀ V' T R, Hid (LQP B p a b M W1 V' Z T R) → Hid (LQP B p a b M V V' Z T R)) := fun V' T R hd => hd.out.from b1
  have HMK : Hid (o.K = 7 → Calls Try.prog 8 #[.pointer (some ⟨p, 0, none⟩)] W1 fun e w' => ∃ n : Int, e = .returned (.tuple #[.int .i64 n, .int .i64 c]) ∧ Hid (LQP B p a b M W1 w' Z T R)) := fun h7 => by
    rw [if_pos h7] at hS
    refine (markQ h1).mono ?_
    rintro e w' ⟨n, c', rfl, _, G⟩
    obtain ⟨g1, g2⟩ := G.out
    split at hS
    · rename_i hq
      cases hS
      rw [if_pos hq] at g1 g2
      subst g1
      exact ⟨n, rfl, g2⟩
    · rename_i hq
      cases hS
      rw [if_neg hq] at g1 g2
      subst g1
      exact ⟨n, rfl, g2⟩
  have HUN : Hid (o.K = 8 → Calls Try.prog 10 #[.pointer (some ⟨p, 0, none⟩), .int .i64 o.N] W1 fun e w' => e = .returned (.int .i64 c) ∧ Hid (LQP B p a b M W1 w' Z T R)) := fun h8 => by
    rw [if_neg (by omega), if_pos h8] at hS
    refine (undoQ h1 hM o.N).mono ?_
    rintro e w' ⟨c', rfl, G⟩
    obtain ⟨g1, g2⟩ := G.out
    split at hS
    · rename_i hq
      cases hS
      rw [if_pos hq] at g1
      rw [if_pos hq, if_pos hq] at g2
      subst g1
      exact ⟨rfl, g2⟩
    · rename_i hq
      cases hS
      rw [if_neg hq] at g1
      rw [if_neg hq, if_neg hq] at g2
      subst g1
      exact ⟨rfl, g2⟩
  have HKP : Hid (o.K = 9 → Calls Try.prog 27 #[.pointer (some ⟨p, 0, none⟩), .int .i64 o.N] W1 fun e w' => e = .returned (.int .i64 c) ∧ Hid (LQP B p a b M W1 w' Z T R)) := fun h9 => by
    rw [if_neg (by omega), if_neg (by omega), if_pos h9] at hS
    refine (keepQ h1 o.N).mono ?_
    rintro e w' ⟨c', rfl, G⟩
    obtain ⟨g1, g2⟩ := G.out
    split at hS
    · rename_i hq
      cases hS
      rw [if_pos hq] at g1 g2
      subst g1
      exact ⟨rfl, g2⟩
    · rename_i hq
      cases hS
      rw [if_neg hq] at g1 g2
      subst g1
      exact ⟨rfl, g2⟩
  have HNO : Hid (o.K ≠ 7 → o.K ≠ 8 → o.K ≠ 9 → c = 0 ∧ Hid (LQP B p a b M V W1 Z T R)) := fun h7 h8 h9 => by
    rw [if_neg h7, if_neg h8, if_neg h9] at hS
    cases hS
    exact ⟨rfl, Z, ⟨h1.l, h1.v, by have := h1.c; omega, h1.ok, h1.oq⟩, Tr.below b1⟩
  have HK := hide hk
  have HW1 := hide hW1
  clear h h1 hM hS b1 q1 hk hW1
  unfold OpR.arr at HW1 ⊢
  obtain ⟨KI, hKI⟩ : ∃ KI, o.K = KI := ⟨_, rfl⟩
  rw [hKI] at c0 HK HMK HUN HKP HNO HW1 ⊢
  clear hKI
  have e1 : (KI == 1) = false := by simp; have := HK.out; omega
  have e2 : (KI == 2) = false := by simp; have := HK.out; omega
  have e3 : (KI == 3) = false := by simp; have := HK.out; omega
  have e4 : (KI == 4) = false := by simp; have := HK.out; omega
  have e5 : (KI == 5) = false := by simp; have := HK.out; omega
  have e6 : (KI == 6) = false := by simp; have := HK.out; omega
  go_enter Try.func6, Try.ntmps6
  go_upto_region 1 with fail
  rw [HW1.out]
  clear HW1
  by_cases h7 : KI = 7
  · have HC := hide (HMK.out h7)
    have e7 : (KI == 7) = true := by simp [h7]
    clear HMK HUN HKP HNO h7
    go_wp2_with fail
    refine HC.out.mono ?_
    rintro e w1 ⟨n, rfl, G⟩
    have HE := HF.out _ _ _ G
    go_wp2
    go_ret
    exact ⟨rfl, HE⟩
  have e7 : (KI == 7) = false := by simp [h7]
  by_cases h8 : KI = 8
  · have HC := hide (HUN.out h8)
    have e8 : (KI == 8) = true := by simp [h8]
    clear HMK HUN HKP HNO h7 h8
    go_wp2_with fail
    refine HC.out.mono ?_
    rintro e w1 ⟨rfl, G⟩
    have HE := HF.out _ _ _ G
    go_wp2
    go_ret
    exact ⟨rfl, HE⟩
  have e8 : (KI == 8) = false := by simp [h8]
  by_cases h9 : KI = 9
  · have HC := hide (HKP.out h9)
    have e9 : (KI == 9) = true := by simp [h9]
    clear HMK HUN HKP HNO h7 h8 h9
    go_wp2_with fail
    refine HC.out.mono ?_
    rintro e w1 ⟨rfl, G⟩
    have HE := HF.out _ _ _ G
    go_wp2
    go_ret
    exact ⟨rfl, HE⟩
  have e9 : (KI == 9) = false := by simp [h9]
  obtain ⟨rfl, HE⟩ := HNO.out h7 h8 h9
  clear HMK HUN HKP HNO h7 h8 h9
  go_wp2
  go_ret
  exact ⟨rfl, HE⟩
end
end Go.Proofs.Ytcfenjpdjogmdaa
