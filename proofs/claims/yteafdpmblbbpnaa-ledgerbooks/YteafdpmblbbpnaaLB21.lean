import Derived.Test.YteafdpmblbbpnaaLB20
namespace Go.Proofs.Yteafdpmblbbpnaa
open Go.RowKit

/-- A hold. -/
structure Ho where
  (id fr am : Nat)
/-- A line of the journal. -/
structure Jn where
  (sq kd fr tw am : Nat)
/-- A share. -/
structure Sh where
  (tw am : Nat)
instance : Inhabited Ho := ⟨⟨0, 0, 0⟩⟩
instance : Inhabited Jn := ⟨⟨0, 0, 0, 0, 0⟩⟩
def Ho.zero : Ho := ⟨0, 0, 0⟩
def Jn.zero : Jn := ⟨0, 0, 0, 0, 0⟩
structure Ho.In (a : Ho) : Prop where
  (h0 : a.id < 18446744073709551616) (h1 : a.fr < 18446744073709551616) (h2 : a.am < 18446744073709551616)
structure Jn.In (a : Jn) : Prop where
  (h0 : a.sq < 18446744073709551616) (h1 : a.kd < 9223372036854775808) (h2 : a.fr < 18446744073709551616) (h3 : a.tw < 18446744073709551616) (h4 : a.am < 18446744073709551616)
structure Sh.In (a : Sh) : Prop where
  (h0 : a.tw < 18446744073709551616) (h1 : a.am < 18446744073709551616)
/-- What a ledger is. -/
structure LS where
  tot : Nat
  acc : List Ac
  hol : List Ho
  nx : Nat
  rg : Nat → Jn
/-- What always holds of it. -/
structure LS.Ok (S : LS) : Prop where
  ua : UpK Ac.id S.acc
  uh : UpK Ho.id S.hol
  ia : ∀ x ∈ S.acc, x.In
  ih : ∀ x ∈ S.hol, x.In
  ca : ∀ x ∈ S.acc, x.ba ≤ x.cp
  za : ∀ x ∈ S.acc, x.id ≠ 0
  zh : ∀ x ∈ S.hol, x.id ≠ 0 ∧ x.am ≠ 0
  la : S.acc.length ≤ 64
  lh : S.hol.length ≤ 64
  n0 : 1 ≤ S.nx
  n1 : S.nx ≤ 4611686018427387904
  ij : ∀ k, (S.rg k).In
/-- There is no room for n lines. -/
def LS.full (S : LS) (n : Nat) : Bool := decide (4611686018427387904 - S.nx < n)
def LS.line (S : LS) (kd fr tw am : Nat) : LS := { S with nx := S.nx + 1, rg := fun k => if k = S.nx % 64 then ⟨S.nx, kd, fr, tw, am⟩ else S.rg k }
def LS.setA (S : LS) (a : Ac) : LS := { S with acc := repK Ac.id S.acc a }
def LS.setH (S : LS) (h : Ho) : LS := { S with hol := if h.am = 0 then remK Ho.id S.hol h.id else repK Ho.id S.hol h }
def LS.creates (S : LS) (id ow cp : Nat) : Nat × LS :=
  if id = 0 then (40, S) else if (byK Ac.id S.acc id).isSome = true then (41, S) else if 64 ≤ S.acc.length ∨ S.full 1 = true then (43, S) else (0, ({ S with acc := insK Ac.id S.acc ⟨id, ow, 0, cp⟩ } : LS).line 1 id 0 cp)
def LS.closes (S : LS) (id : Nat) : Nat × LS :=
  if id = 0 then (40, S) else match byK Ac.id S.acc id with
  | none => (42, S)
  | some a => if a.ba ≠ 0 ∨ S.hol.any (fun h => h.fr == id) = true then (48, S) else if S.full 1 = true then (43, S) else (0, ({ S with acc := remK Ac.id S.acc id } : LS).line 2 id 0 0)
def LS.moves (S : LS) (f t m : Nat) : Nat × LS :=
  if f = 0 ∨ t = 0 then (40, S) else match byK Ac.id S.acc f, byK Ac.id S.acc t with
  | some a, some b => if f = t then (45, S) else if m = 0 then (44, S) else if a.ba < m then (46, S) else if b.cp - b.ba < m then (47, S) else if S.full 1 = true then (43, S) else (0, ((S.setA { a with ba := a.ba - m }).setA { b with ba := b.ba + m }).line 3 f t m)
  | _, _ => (42, S)
def LS.holds (S : LS) (h f m : Nat) : Nat × LS :=
  if h = 0 ∨ f = 0 then (40, S) else if (byK Ho.id S.hol h).isSome = true then (41, S) else match byK Ac.id S.acc f with
  | none => (42, S)
  | some a => if m = 0 then (44, S) else if a.ba < m then (46, S) else if 64 ≤ S.hol.length ∨ S.full 1 = true then (43, S) else (0, ({ S.setA { a with ba := a.ba - m } with hol := insK Ho.id S.hol ⟨h, f, m⟩ } : LS).line 4 f h m)
/-- A payment out of a hold that is there, to an account that is there. -/
def LS.paysOut (S : LS) (h t m : Nat) : LS :=
  let x := (byK Ho.id S.hol h).getD Ho.zero
  let a := (byK Ac.id S.acc t).getD ⟨0, 0, 0, 0⟩
  ((S.setH { x with am := x.am - m }).setA { a with ba := a.ba + m }).line 5 h t m
def LS.pays (S : LS) (h t m : Nat) : Nat × LS :=
  if h = 0 ∨ t = 0 then (40, S) else match byK Ho.id S.hol h, byK Ac.id S.acc t with
  | some x, some a => if m = 0 then (44, S) else if x.am < m then (46, S) else if a.cp - a.ba < m then (47, S) else if S.full 1 = true then (43, S) else (0, S.paysOut h t m)
  | _, _ => (42, S)
/-- What is wrong with a share alone. -/
def LS.share (S : LS) (s : Sh) : Nat := if s.tw = 0 then 40 else if (byK Ac.id S.acc s.tw).isSome = false then 42 else if s.am = 0 then 44 else 0
/-- The first fault of the shares, each alone. -/
def LS.shares (S : LS) : List Sh → Nat
  | [] => 0
  | s :: r => if S.share s ≠ 0 then S.share s else LS.shares S r
def shSum (l : List Sh) : Nat := (l.map Sh.am).sum
/-- What an account gets of the shares. -/
def shOf (l : List Sh) (x : Nat) : Nat := ((l.filter (fun s => s.tw == x)).map Sh.am).sum
/-- The accounts may have what they get. -/
def LS.fit (S : LS) (l : List Sh) : Bool := S.acc.all (fun a => decide (shOf l a.id ≤ a.cp - a.ba))
def LS.settles (S : LS) (h : Nat) (l : List Sh) : Nat × LS :=
  if h = 0 then (40, S) else match byK Ho.id S.hol h with
  | none => (42, S)
  | some x => if l.length = 0 ∨ 16 < l.length then (49, S) else if S.shares l ≠ 0 then (S.shares l, S) else if shSum l ≠ x.am then (49, S) else if S.fit l = false then (47, S) else if S.full l.length = true then (43, S) else (0, l.foldl (fun S s => S.paysOut h s.tw s.am) S)
theorem LS.Ok.line {S : LS} (h : S.Ok) (hf : S.full 1 = false) {kd fr tw am : Nat} (h1 : kd < 9223372036854775808) (h2 : fr < 18446744073709551616) (h3 : tw < 18446744073709551616) (h4 : am < 18446744073709551616) : (S.line kd fr tw am).Ok := by
  have hn : ¬ 4611686018427387904 - S.nx < 1 := by unfold LS.full at hf; simpa using hf
  have := h.n0
  have := h.n1
  refine ⟨h.ua, h.uh, h.ia, h.ih, h.ca, h.za, h.zh, h.la, h.lh, ?_, ?_, fun k => ?_⟩
  · show 1 ≤ S.nx + 1; omega
  · show S.nx + 1 ≤ _; omega
  · show (if k = S.nx % 64 then (⟨S.nx, kd, fr, tw, am⟩ : Jn) else S.rg k).In
    split
    · exact ⟨by show S.nx < _; omega, h1, h2, h3, h4⟩
    · exact h.ij k
theorem LS.Ok.setA {S : LS} (h : S.Ok) {a : Ac} (hi : a.In) (hc : a.ba ≤ a.cp) (hz : a.id ≠ 0) : (S.setA a).Ok := by
  refine ⟨repK_up h.ua a, h.uh, fun x hx => ?_, h.ih, fun x hx => ?_, fun x hx => ?_, h.zh, by show (repK Ac.id S.acc a).length ≤ 64; rw [repK_len]; exact h.la, h.lh, h.n0, h.n1, h.ij⟩
  · rcases repK_mem hx with e | e
    · rw [e]; exact hi
    · exact h.ia x e
  · rcases repK_mem hx with e | e
    · rw [e]; exact hc
    · exact h.ca x e
  · rcases repK_mem hx with e | e
    · rw [e]; exact hz
    · exact h.za x e
theorem LS.Ok.setH {S : LS} (h : S.Ok) {a : Ho} (hi : a.In) (hz : a.id ≠ 0) : (S.setH a).Ok := by
  by_cases e0 : a.am = 0
  · have e : (S.setH a) = { S with hol := remK Ho.id S.hol a.id } := by unfold LS.setH; rw [if_pos e0]
    rw [e]
    exact ⟨h.ua, remK_up h.uh _, h.ia, fun x hx => h.ih x (remK_mem.1 hx).1, h.ca, h.za, fun x hx => h.zh x (remK_mem.1 hx).1, h.la, Nat.le_trans (List.length_filter_le _ _) h.lh, h.n0, h.n1, h.ij⟩
  · have e : (S.setH a) = { S with hol := repK Ho.id S.hol a } := by unfold LS.setH; rw [if_neg e0]
    rw [e]
    refine ⟨h.ua, repK_up h.uh a, h.ia, fun x hx => ?_, h.ca, h.za, fun x hx => ?_, h.la, by show (repK Ho.id S.hol a).length ≤ 64; rw [repK_len]; exact h.lh, h.n0, h.n1, h.ij⟩
    · rcases repK_mem hx with e | e
      · rw [e]; exact hi
      · exact h.ih x e
    · rcases repK_mem hx with e | e
      · rw [e]; exact ⟨hz, e0⟩
      · exact h.zh x e
theorem LS.Ok.insA {S : LS} (h : S.Ok) {a : Ac} (hi : a.In) (hc : a.ba ≤ a.cp) (hz : a.id ≠ 0) (hno : byK Ac.id S.acc a.id = none) (hl : S.acc.length < 64) : ({ S with acc := insK Ac.id S.acc a } : LS).Ok := by
  refine ⟨insK_up h.ua (byK_none hno), h.uh, fun x hx => ?_, h.ih, fun x hx => ?_, fun x hx => ?_, h.zh, by show (insK Ac.id S.acc a).length ≤ 64; rw [insK_len]; omega, h.lh, h.n0, h.n1, h.ij⟩
  · rcases insK_mem.1 hx with e | e
    · rw [e]; exact hi
    · exact h.ia x e
  · rcases insK_mem.1 hx with e | e
    · rw [e]; exact hc
    · exact h.ca x e
  · rcases insK_mem.1 hx with e | e
    · rw [e]; exact hz
    · exact h.za x e
theorem LS.Ok.insH {S : LS} (h : S.Ok) {a : Ho} (hi : a.In) (hz : a.id ≠ 0 ∧ a.am ≠ 0) (hno : byK Ho.id S.hol a.id = none) (hl : S.hol.length < 64) : ({ S with hol := insK Ho.id S.hol a } : LS).Ok := by
  refine ⟨h.ua, insK_up h.uh (byK_none hno), h.ia, fun x hx => ?_, h.ca, h.za, fun x hx => ?_, h.la, by show (insK Ho.id S.hol a).length ≤ 64; rw [insK_len]; omega, h.n0, h.n1, h.ij⟩
  · rcases insK_mem.1 hx with e | e
    · rw [e]; exact hi
    · exact h.ih x e
  · rcases insK_mem.1 hx with e | e
    · rw [e]; exact hz
    · exact h.zh x e
theorem LS.Ok.remA {S : LS} (h : S.Ok) (x : Nat) : ({ S with acc := remK Ac.id S.acc x } : LS).Ok :=
  ⟨remK_up h.ua _, h.uh, fun y hy => h.ia y (remK_mem.1 hy).1, h.ih, fun y hy => h.ca y (remK_mem.1 hy).1, fun y hy => h.za y (remK_mem.1 hy).1, h.zh, Nat.le_trans (List.length_filter_le _ _) h.la, h.lh, h.n0, h.n1, h.ij⟩
theorem LS.Ok.creates {S : LS} (h : S.Ok) {id ow cp : Nat} (h0 : id < 18446744073709551616) (h1 : ow < 18446744073709551616) (h2 : cp < 18446744073709551616) : (S.creates id ow cp).2.Ok := by
  unfold LS.creates
  split
  · exact h
  split
  · exact h
  split
  · exact h
  rename_i c0 c1 c2
  rw [not_or] at c2
  exact (h.insA (a := ⟨id, ow, 0, cp⟩) ⟨h0, h1, by show 0 < _; decide, h2⟩ (Nat.zero_le _) c0 (by simpa using c1) (by omega)).line (by simpa [LS.full] using c2.2) (by decide) h0 (by decide) h2
theorem LS.Ok.closes {S : LS} (h : S.Ok) {id : Nat} (h0 : id < 18446744073709551616) : (S.closes id).2.Ok := by
  unfold LS.closes
  split
  · exact h
  split
  · exact h
  split
  · exact h
  split
  · exact h
  rename_i c2
  exact (h.remA id).line (by simpa [LS.full] using c2) (by decide) h0 (by decide) (by decide)
theorem LS.Ok.moves {S : LS} (h : S.Ok) {f t m : Nat} (h0 : f < 18446744073709551616) (h1 : t < 18446744073709551616) : (S.moves f t m).2.Ok := by
  unfold LS.moves
  split
  · exact h
  split
  · rename_i a b ha hb
    obtain ⟨ma, ea⟩ := byK_mem ha
    obtain ⟨mb, eb⟩ := byK_mem hb
    have ia := h.ia a ma
    have ib := h.ia b mb
    have ca := h.ca a ma
    have cb := h.ca b mb
    have := ia.h2
    have := ib.h3
    split
    · exact h
    split
    · exact h
    split
    · exact h
    split
    · exact h
    split
    · exact h
    rename_i c5
    exact ((h.setA (a := { a with ba := a.ba - m }) ⟨ia.h0, ia.h1, by show a.ba - m < _; omega, ia.h3⟩ (by show a.ba - m ≤ a.cp; omega) (h.za a ma)).setA (a := { b with ba := b.ba + m }) ⟨ib.h0, ib.h1, by show b.ba + m < _; omega, ib.h3⟩ (by show b.ba + m ≤ b.cp; omega) (h.za b mb)).line (by simpa [LS.full, LS.setA] using c5) (by decide) h0 h1 (by omega)
  · exact h
theorem LS.Ok.holds {S : LS} (h : S.Ok) {x f m : Nat} (h0 : x < 18446744073709551616) (h1 : f < 18446744073709551616) : (S.holds x f m).2.Ok := by
  unfold LS.holds
  split
  · exact h
  rename_i c0
  split
  · exact h
  rename_i c1
  split
  · exact h
  rename_i a ha
  obtain ⟨ma, ea⟩ := byK_mem ha
  have ia := h.ia a ma
  have ca := h.ca a ma
  have := ia.h2
  split
  · exact h
  split
  · exact h
  split
  · exact h
  rename_i c2 c3 c4
  rw [not_or] at c0 c4
  exact ((h.setA (a := { a with ba := a.ba - m }) ⟨ia.h0, ia.h1, by show a.ba - m < _; omega, ia.h3⟩ (by show a.ba - m ≤ a.cp; omega) (h.za a ma)).insH (a := ⟨x, f, m⟩) ⟨h0, h1, by show m < _; omega⟩ ⟨c0.1, c2⟩ (show byK Ho.id S.hol x = none by simpa using c1) (by show S.hol.length < 64; omega)).line (by simpa [LS.full, LS.setA] using c4.2) (by decide) h1 h0 (by omega)
theorem LS.Ok.paysOut {S : LS} (h : S.Ok) {x t m : Nat} (h0 : x < 18446744073709551616) (h1 : t < 18446744073709551616) {y : Ho} {a : Ac} (hy : byK Ho.id S.hol x = some y) (ha : byK Ac.id S.acc t = some a) (hm : m ≤ a.cp - a.ba) (hf : S.full 1 = false) : (S.paysOut x t m).Ok := by
  obtain ⟨ma, ea⟩ := byK_mem ha
  obtain ⟨mh, eh⟩ := byK_mem hy
  have ia := h.ia a ma
  have iy := h.ih y mh
  have ca := h.ca a ma
  have := ia.h3
  have := iy.h2
  unfold LS.paysOut
  rw [hy, ha]
  exact ((h.setH (a := { y with am := y.am - m }) ⟨iy.h0, iy.h1, by show y.am - m < _; omega⟩ (h.zh y mh).1).setA (a := { a with ba := a.ba + m }) ⟨ia.h0, ia.h1, by show a.ba + m < _; omega, ia.h3⟩ (by show a.ba + m ≤ a.cp; omega) (h.za a ma)).line (by simpa [LS.full, LS.setA, LS.setH] using hf) (by decide) h0 h1 (by omega)
theorem LS.Ok.pays {S : LS} (h : S.Ok) {x t m : Nat} (h0 : x < 18446744073709551616) (h1 : t < 18446744073709551616) : (S.pays x t m).2.Ok := by
  unfold LS.pays
  split
  · exact h
  split
  · rename_i y a hy ha
    split
    · exact h
    split
    · exact h
    split
    · exact h
    split
    · exact h
    rename_i c3 c4
    exact h.paysOut h0 h1 hy ha (by omega) (by simpa using c4)
  · exact h
end Go.Proofs.Yteafdpmblbbpnaa
