import Derived.Test.YtcfenjpdjogmdaaGreatLA49
import Derived.Test.YtcfenjpdjogmdaaGreatLA50
import Derived.Test.YtcfenjpdjogmdaaGreatLA46
import Derived.Test.YtcfenjpdjogmdaaGreatLA51
namespace Go.Proofs.YtcfenjpdjogmdaaGreat
open Go.RowKit

theorem aflt_yes : ∀ {l : List Ac} {L i : Nat}, UpK Ac.id l → (∀ x ∈ l, L < x.id ∧ x.ba ≤ x.cp) → (aflt L i l).2 = 0
  | [], _, _, _, _ => rfl
  | a :: r, L, i, hu, h => by
    have h1 := h a (by simp)
    unfold aflt
    rw [if_neg (by omega), if_neg (by omega), if_neg (by omega)]
    exact aflt_yes hu.tail (fun x hx => ⟨hu.head x hx, (h x (List.mem_cons_of_mem _ hx)).2⟩)
theorem hflt_yes {A : List Ac} : ∀ {l : List Ho} {L i : Nat}, UpK Ho.id l → (∀ x ∈ l, L < x.id ∧ (byK Ac.id A x.fr).isSome = true ∧ x.am ≠ 0) → (hflt A L i l).2 = 0
  | [], _, _, _, _ => rfl
  | a :: r, L, i, hu, h => by
    have h1 := h a (by simp)
    unfold hflt
    rw [if_neg (by omega), if_neg (by omega), if_neg (by rw [h1.2.1]; simp), if_neg h1.2.2]
    exact hflt_yes hu.tail (fun x hx => ⟨hu.head x hx, (h x (List.mem_cons_of_mem _ hx)).2⟩)
theorem lflt_yes {f : Nat} : ∀ {l : List Jz} {i : Nat}, (∀ (j : Nat) (x : Jz), l[j]? = some x → x.sq = f + i + j ∧ 1 ≤ x.kd ∧ x.kd ≤ 5) → (lflt f i l).2 = 0
  | [], _, _ => rfl
  | a :: r, i, h => by
    have h1 := h 0 a rfl
    unfold lflt
    rw [if_neg (by omega)]
    exact lflt_yes (fun j x hx => by have := h (j + 1) x (by simpa using hx); omega)
theorem LS.jl_z {S : LS} {j : Nat} {x : Jz} (h : (S.jl.map Jn.z)[j]? = some x) : j < min (S.nx - 1) 64 ∧ x = (S.rg ((S.nx - min (S.nx - 1) 64 + j) % 64)).z := by
  rw [List.getElem?_map] at h
  have hl : j < min (S.nx - 1) 64 := by
    cases e : S.jl[j]? with
    | none => rw [e] at h; cases h
    | some y => have := (List.getElem?_eq_some_iff.1 e).1; rw [S.jl_len] at this; exact this
  rw [S.jl_at hl] at h
  cases h
  exact ⟨hl, rfl⟩
/-- Restore takes the image of a ledger. -/
theorem an_pass {S : LS} {s : Nat} (h : S.An s) : PassK S.tot S.acc S.hol S.nx (S.jl.map Jn.z) 5 := by
  have hok := h.kp.1
  refine ⟨fun _ => by have := hok.la; have := hok.lh; omega, fun _ => aflt_yes hok.ua (fun x hx => ⟨Nat.pos_of_ne_zero (hok.za x hx), hok.ca x hx⟩), fun _ => hflt_yes hok.uh (fun x hx => ⟨Nat.pos_of_ne_zero (hok.zh x hx).1, h.hf x hx, (hok.zh x hx).2⟩), fun _ => ?_, fun _ => ?_⟩
  · have h1 := h.kp.2.1
    have h2 := h.kp.2.2
    unfold LS.bal at h1
    omega
  · unfold jflt
    have hl : (S.jl.map Jn.z).length = min (S.nx - 1) 64 := by rw [List.length_map, S.jl_len]
    have := hok.n0
    have := hok.n1
    rw [hl, if_neg (by omega)]
    refine lflt_yes (fun j x hx => ?_)
    obtain ⟨h1, rfl⟩ := LS.jl_z hx
    obtain ⟨g1, g2, g3⟩ := h.lo (S.nx - min (S.nx - 1) 64 + j) (by omega) (by omega)
    have e1 : (S.rg ((S.nx - min (S.nx - 1) 64 + j) % 64)).z.sq = (S.rg ((S.nx - min (S.nx - 1) 64 + j) % 64)).sq := rfl
    have e2 : (S.rg ((S.nx - min (S.nx - 1) 64 + j) % 64)).z.kd = ((S.rg ((S.nx - min (S.nx - 1) 64 + j) % 64)).kd : Int) := rfl
    rw [e1, e2]
    omega
theorem pass_no {T0 : Nat} {A : List Ac} {H : List Ho} {nx : Nat} {J : List Jz} (h : PassK T0 A H nx J 5) {x c : Nat} (e : rstF T0 A H nx J = (x, c)) : c = 0 := by
  obtain ⟨p0, p1, p2, p3, p4⟩ := h
  unfold rstF at e
  rw [if_neg (p0 (by omega)), if_neg (by have := p1 (by omega); omega), if_neg (by have := p2 (by omega); omega), if_neg (by have := p3 (by omega); omega)] at e
  have := p4 (by omega)
  rw [e] at this
  exact this
theorem rgs_at {f : Nat} {l : List Jz} (h : ∀ (j : Nat) (x : Jz), l[j]? = some x → x.sq = f + j) (hl : l.length ≤ 64) : ∀ k, k ≤ l.length → ∀ (j : Nat) (x : Jz), j < k → l[j]? = some x → rgs (l.take k) ((f + j) % 64) = x.n := by
  intro k
  induction k with
  | zero => intro _ j x hj; omega
  | succ k ih =>
    intro hk j x hj hx
    obtain ⟨y, hy⟩ : ∃ y, l[k]? = some y := ⟨_, List.getElem?_eq_getElem (by omega)⟩
    rw [rgs_take hy]
    have e := h k y hy
    by_cases hjk : j = k
    · subst hjk
      rw [hx] at hy
      cases hy
      show (if (f + j) % 64 = x.sq % 64 then x.n else _) = x.n
      rw [e, if_pos rfl]
    · show (if (f + j) % 64 = y.sq % 64 then y.n else _) = x.n
      rw [e, if_neg (by omega)]
      exact ih (by omega) j x (by omega) hx
theorem rgs_in {l : List Jz} (h : ∀ x ∈ l, x.n.In) : ∀ k, (rgs l k).In := by
  have key : ∀ (l : List Jz) (r : Nat → Jn), (∀ x ∈ l, x.n.In) → (∀ k, (r k).In) → ∀ k, ((l.foldl (fun r e => fun k => if k = e.sq % 64 then e.n else r k) r) k).In := by
    intro l
    induction l with
    | nil => intro r _ hr k; exact hr k
    | cons a t ih =>
      intro r hl hr k
      rw [List.foldl_cons]
      refine ih _ (fun x hx => hl x (List.mem_cons_of_mem _ hx)) (fun k => ?_) k
      show (if k = a.sq % 64 then a.n else r k).In
      split
      · exact hl a (by simp)
      · exact hr k
  exact key l _ h (fun k => ⟨by decide, by decide, by decide, by decide, by decide⟩)
/-- The ledger that Restore gives of an image. -/
def LS.anew (S : LS) : LS := ⟨S.tot, S.acc, S.hol, S.nx, rgs (S.jl.map Jn.z)⟩
theorem z_n (e : Jn) : e.z.n = e := by
  show (⟨e.sq, ((e.kd : Int)).toNat, e.fr, e.tw, e.am⟩ : Jn) = e
  rw [Int.toNat_natCast]
theorem anew_sim {S : LS} {s : Nat} (h : S.An s) : SimL S S.anew := by
  refine ⟨rfl, rfl, rfl, rfl, fun q h1 h2 => ?_⟩
  have hn := h.kp.1.n0
  obtain ⟨j, hj⟩ : ∃ j, q = S.nx - min (S.nx - 1) 64 + j := ⟨q - (S.nx - min (S.nx - 1) 64), by omega⟩
  have hjl : j < min (S.nx - 1) 64 := by omega
  have hz : (S.jl.map Jn.z)[j]? = some (S.rg (q % 64)).z := by rw [List.getElem?_map, S.jl_at hjl, hj]; rfl
  have hl : (S.jl.map Jn.z).length = min (S.nx - 1) 64 := by rw [List.length_map, S.jl_len]
  have := rgs_at (f := S.nx - min (S.nx - 1) 64) (l := S.jl.map Jn.z) (fun i x hx => by
    obtain ⟨g1, rfl⟩ := LS.jl_z hx
    exact (h.lo _ (by omega) (by omega)).1) (by omega) _ (Nat.le_refl _) j _ (by omega) hz
  rw [List.take_length, ← hj, z_n] at this
  exact this
theorem anew_ok {S : LS} (h : S.Ok) : S.anew.Ok := ⟨h.ua, h.uh, h.ia, h.ih, h.ca, h.za, h.zh, h.la, h.lh, h.n0, h.n1, rgs_in (fun x hx => by
  obtain ⟨y, hy, rfl⟩ := List.mem_map.1 hx
  rw [z_n]
  exact LS.jl_in h y hy)⟩
/-- A ledger with marks on its way, all that it was restorable. -/
structure On (w : World) (p a b M s : Nat) (V : World) (S : LS) (Q : List LS) : Prop where
  bel : Below w.heap.size w V
  z : ∃ Z, LQ w.heap.size p a b M V Z S Q
  an : S.An s
  aq : ∀ q ∈ Q, q.An s
section
variable {w : World} {p a b M s : Nat} {V V' : World} {S T : LS} {Q R : List LS}
theorem On.kept (h : On w p a b M s V S Q) (hb : Below V.heap.size V V') : On w p a b M s V' S Q := by
  obtain ⟨Z, hZ⟩ := h.z
  exact ⟨h.bel.trans (hb.mono h.bel.size), ⟨Z, hZ.kept hb⟩, h.an, h.aq⟩
theorem On.does (h : On w p a b M s V S Q) (hM : M ≤ 100000000000) {o : OpR} (ho : o.Ok w.heap.size w) {c : Int} (hS : stepQ S Q o = (c, T, R)) :
    Calls Tryz.prog 8 #[.pointer (some ⟨p, 0, none⟩), .agg o.arr] V fun e V' => e = .returned (.int .i64 c) ∧ Hid (On w p a b (M + 48) s V' T R) := by
  obtain ⟨Z, hZ⟩ := h.z
  have han := stepQ_an h.an h.aq ho hS
  refine (doesQ hZ hM (ho.below h.bel (Nat.le_refl _)) h.bel.size hS).mono ?_
  rintro e V' ⟨rfl, G⟩
  obtain ⟨Z1, g1, g2⟩ := G.out
  exact ⟨rfl, g2.below_of h.bel hZ.l, ⟨Z1, g1⟩, han.1, han.2⟩
theorem On.image (h : On w p a b M s V S Q) : Calls Tryz.prog 9 #[.pointer (some ⟨p, 0, none⟩)] V fun e V' => ∃ ao cap ho hcap jo jcap, e = .returned (imgV S ao cap ho hcap jo jcap) ∧ Hid (ImR V V' S.acc S.hol S.jl ao cap ho hcap jo jcap ∧ Below V.heap.size V V') := by
  obtain ⟨Z, hZ⟩ := h.z
  exact imageG hZ.l.lg h.an.kp.1
end
/-- The first goes on; the second was restored from it, and is like it. -/
def Tz (w : World) (p a b p' a' b' M N : Nat) (S : LS) (Q : List LS) (S' : LS) (V : World) : Prop := Two w p a b p' a' b' M N V S Q S' [] ∧ SimL S S'
theorem stepQ_sim {S S' : LS} (h : SimL S S') (Q : List LS) {o : OpR} (ho : o.K < 7) : ∃ c T T', stepQ S Q o = (c, T, Q) ∧ stepQ S' [] o = (c, T', []) ∧ SimL T T' := by
  by_cases h16 : 1 ≤ o.K ∧ o.K ≤ 6
  · have hs := h.step o.K.toNat o.A o.B o.C o.l
    refine ⟨_, _, (S'.step o.K.toNat o.A o.B o.C o.l).2, by unfold stepQ; rw [if_pos h16], ?_, hs.2⟩
    unfold stepQ
    rw [if_pos h16, hs.1]
  · refine ⟨0, S, S', ?_, ?_, h⟩
    · unfold stepQ
      rw [if_neg h16, if_neg (by omega), if_neg (by omega), if_neg (by omega)]
    · unfold stepQ
      rw [if_neg h16, if_neg (by omega), if_neg (by omega), if_neg (by omega)]
section
variable {w : World} {p a b p' a' b' M N : Nat} {V V' : World} {S T S' T' : LS} {Q : List LS}
theorem Tz.both {o : OpR} (hM : M ≤ 1000000000) (hN : N ≤ 1000000000) (ho : o.Ok w.heap.size w) {c : Int} (hS : stepQ S Q o = (c, T, Q)) (hS' : stepQ S' [] o = (c, T', [])) (hs : SimL T T') {X : World → Prop} (hX : ∀ V, Below w.heap.size w V → X V) :
    (∀ V, Hid (Tz w p a b p' a' b' M N S Q S' V) → Calls Tryz.prog 8 #[.pointer (some ⟨p, 0, none⟩), .agg o.arr] V fun e V1 => e = .returned (.int .i64 c) ∧ X V1 ∧ Hid (Two w p a b p' a' b' (M + 48) N V1 T Q S' [])) ∧ (∀ V, Hid (Two w p a b p' a' b' (M + 48) N V T Q S' []) → Calls Tryz.prog 8 #[.pointer (some ⟨p', 0, none⟩), .agg o.arr] V fun e V1 => e = .returned (.int .i64 c) ∧ X V1 ∧ Hid (Tz w p a b p' a' b' (M + 48) (N + 48) T Q T' V1)) ∧
    (∀ V, Hid (Tz w p a b p' a' b' M N S Q S' V) → Calls Tryz.prog 8 #[.pointer (some ⟨p', 0, none⟩), .agg o.arr] V fun e V1 => e = .returned (.int .i64 c) ∧ X V1 ∧ Hid (Two w p a b p' a' b' M (N + 48) V1 S Q T' [])) ∧ (∀ V, Hid (Two w p a b p' a' b' M (N + 48) V S Q T' []) → Calls Tryz.prog 8 #[.pointer (some ⟨p, 0, none⟩), .agg o.arr] V fun e V1 => e = .returned (.int .i64 c) ∧ X V1 ∧ Hid (Tz w p a b p' a' b' (M + 48) (N + 48) T Q T' V1)) := by
  refine ⟨fun V hV => (Two.doesL hV.out.1 (by omega) ho hS).mono ?_, fun V hV => (Two.doesK hV.out (by omega) ho hS').mono ?_, fun V hV => (Two.doesK hV.out.1 (by omega) ho hS').mono ?_, fun V hV => (Two.doesL hV.out (by omega) ho hS).mono ?_⟩
  · rintro e V1 ⟨rfl, G⟩
    exact ⟨rfl, hX _ G.out.1.bel, G.out.1⟩
  · rintro e V1 ⟨rfl, G⟩
    exact ⟨rfl, hX _ G.out.1.bel, G.out.1, hs⟩
  · rintro e V1 ⟨rfl, G⟩
    exact ⟨rfl, hX _ G.out.1.bel, G.out.1⟩
  · rintro e V1 ⟨rfl, G⟩
    exact ⟨rfl, hX _ G.out.1.bel, G.out.1, hs⟩
theorem Tz.imageL (h : Tz w p a b p' a' b' M N S Q S' V) : Calls Tryz.prog 9 #[.pointer (some ⟨p, 0, none⟩)] V fun e V1 => ∃ ao cap ho hcap jo jcap, e = .returned (imgV S ao cap ho hcap jo jcap) ∧ Hid (Tz w p a b p' a' b' M N S Q S' V1 ∧ ImX V1 S ao cap ho hcap jo jcap ∧ Below V.heap.size V V1) := by
  refine (Two.imageL h.1).mono ?_
  rintro e V1 ⟨ao, cap, ho, hcap, jo, jcap, rfl, G⟩
  exact ⟨ao, cap, ho, hcap, jo, jcap, rfl, ⟨G.out.2.1, h.2⟩, ImX.of G.out.1, G.out.2.2⟩
theorem Tz.imageK (h : Tz w p a b p' a' b' M N S Q S' V) : Calls Tryz.prog 9 #[.pointer (some ⟨p', 0, none⟩)] V fun e V1 => ∃ ao cap ho hcap jo jcap, e = .returned (imgV S ao cap ho hcap jo jcap) ∧ Hid (Tz w p a b p' a' b' M N S Q S' V1 ∧ ImX V1 S ao cap ho hcap jo jcap ∧ Below V.heap.size V V1) := by
  refine (Two.imageK h.1).mono ?_
  rintro e V1 ⟨ao, cap, ho, hcap, jo, jcap, rfl, G⟩
  have hx := ImX.of G.out.1
  have hs := h.2
  refine ⟨ao, cap, ho, hcap, jo, jcap, ?_, ⟨G.out.2.1, h.2⟩, ?_, G.out.2.2⟩
  · unfold imgV
    rw [hs.tot, hs.acc, hs.hol, hs.nx, hs.jl]
  · obtain ⟨⟨_, ra⟩, ⟨_, rh⟩, ⟨_, rj⟩⟩ := hx
    rw [hs.acc] at ra
    rw [hs.hol] at rh
    rw [hs.jl] at rj
    exact ⟨⟨_, ra⟩, ⟨_, rh⟩, ⟨_, rj⟩⟩
/-- Both images, in either order. -/
theorem Tz.imgs {X : World → Prop} (hX : ∀ V, Below w.heap.size w V → X V) :
    (∀ V, Hid (Tz w p a b p' a' b' M N S Q S' V) → Calls Tryz.prog 9 #[.pointer (some ⟨p, 0, none⟩)] V fun e V1 => ∃ ao cap ho hcap jo jcap, e = .returned (imgV S ao cap ho hcap jo jcap) ∧ X V1 ∧ Hid (Tz w p a b p' a' b' M N S Q S' V1 ∧ ImX V1 S ao cap ho hcap jo jcap)) ∧
    (∀ V, Hid (Tz w p a b p' a' b' M N S Q S' V) → Calls Tryz.prog 9 #[.pointer (some ⟨p', 0, none⟩)] V fun e V1 => ∃ ao cap ho hcap jo jcap, e = .returned (imgV S ao cap ho hcap jo jcap) ∧ X V1 ∧ Hid (Tz w p a b p' a' b' M N S Q S' V1 ∧ ImX V1 S ao cap ho hcap jo jcap)) ∧
    (∀ V x1 x2 x3 x4 x5 x6, Hid (Tz w p a b p' a' b' M N S Q S' V ∧ ImX V S x1 x2 x3 x4 x5 x6) → Calls Tryz.prog 9 #[.pointer (some ⟨p, 0, none⟩)] V fun e V1 => ∃ ao cap ho hcap jo jcap, e = .returned (imgV S ao cap ho hcap jo jcap) ∧ X V1 ∧ Hid (Tz w p a b p' a' b' M N S Q S' V1 ∧ ImX V1 S ao cap ho hcap jo jcap ∧ ImX V1 S x1 x2 x3 x4 x5 x6)) ∧
    (∀ V x1 x2 x3 x4 x5 x6, Hid (Tz w p a b p' a' b' M N S Q S' V ∧ ImX V S x1 x2 x3 x4 x5 x6) → Calls Tryz.prog 9 #[.pointer (some ⟨p', 0, none⟩)] V fun e V1 => ∃ ao cap ho hcap jo jcap, e = .returned (imgV S ao cap ho hcap jo jcap) ∧ X V1 ∧ Hid (Tz w p a b p' a' b' M N S Q S' V1 ∧ ImX V1 S x1 x2 x3 x4 x5 x6 ∧ ImX V1 S ao cap ho hcap jo jcap)) ∧
    (∀ V x1 x2 x3 x4 x5 x6 y1 y2 y3 y4 y5 y6, Hid (Tz w p a b p' a' b' M N S Q S' V ∧ ImX V S x1 x2 x3 x4 x5 x6 ∧ ImX V S y1 y2 y3 y4 y5 y6) → Calls Tryz.prog 12 #[imgV S x1 x2 x3 x4 x5 x6, imgV S y1 y2 y3 y4 y5 y6] V fun e V1 => e = .returned (.bool true) ∧ X V1 ∧ Hid (Tz w p a b p' a' b' M N S Q S' V1)) := by
  refine ⟨fun V hV => (Tz.imageL hV.out).mono ?_, fun V hV => (Tz.imageK hV.out).mono ?_, fun V x1 x2 x3 x4 x5 x6 hV => (Tz.imageL hV.out.1).mono ?_, fun V x1 x2 x3 x4 x5 x6 hV => (Tz.imageK hV.out.1).mono ?_, fun V x1 x2 x3 x4 x5 x6 y1 y2 y3 y4 y5 y6 hV => (hV.out.2.1.same_ hV.out.2.2 (Two.ok hV.out.1.1).1).mono ?_⟩
  · rintro e V1 ⟨ao, cap, ho, hcap, jo, jcap, rfl, G⟩
    exact ⟨ao, cap, ho, hcap, jo, jcap, rfl, hX _ G.out.1.1.bel, G.out.1, G.out.2.1⟩
  · rintro e V1 ⟨ao, cap, ho, hcap, jo, jcap, rfl, G⟩
    exact ⟨ao, cap, ho, hcap, jo, jcap, rfl, hX _ G.out.1.1.bel, G.out.1, G.out.2.1⟩
  · rintro e V1 ⟨ao, cap, ho, hcap, jo, jcap, rfl, G⟩
    exact ⟨ao, cap, ho, hcap, jo, jcap, rfl, hX _ G.out.1.1.bel, G.out.1, G.out.2.1, hV.out.2.fl (Fl.below G.out.2.2)⟩
  · rintro e V1 ⟨ao, cap, ho, hcap, jo, jcap, rfl, G⟩
    exact ⟨ao, cap, ho, hcap, jo, jcap, rfl, hX _ G.out.1.1.bel, G.out.1, hV.out.2.fl (Fl.below G.out.2.2), G.out.2.1⟩
  · rintro e V1 ⟨rfl, G⟩
    have h1 := Two.kept hV.out.1.1 G.out
    exact ⟨rfl, hX _ h1.bel, h1, hV.out.1.2⟩
end
end Go.Proofs.YtcfenjpdjogmdaaGreat
namespace Go.Proofs.YtcfenjpdjogmdaaGreat
open Go.RowKit

set_option maxRecDepth 10000 in
set_option maxHeartbeats 6000000 in
/-- The law: a ledger from its own image goes on as the first one. -/
theorem anewW {w : World} {b0 off : Nat} {ao : Option Addr} (n cap : Nat) {l : List Ac} (hn : n = l.length) (hA : Acs w b0 off l) (hao : 0 < n → ao = some ⟨b0, off, none⟩) (hbw : 0 < n → b0 < w.heap.size) (hle : n ≤ 4398046510976) {b1 f1 b2 f2 : Nat} {so1 so2 : Option Addr} (n1 c1 n2 c2 : Nat) (h1 : Scr w b1 f1 so1 n1) (h2 : Scr w b2 f2 so2 n2) :
    Calls Tryz.prog 3 #[.slice ao n cap, .slice so1 n1 c1, .slice so2 n2 c2] w fun e w' => e = .returned (.bool true) ∧ Hid (Below w.heap.size w w') := by
  have HST := hide (startedA n cap hn hA hao hbw hle)
  have HIN : Hid (∀ x ∈ l, x.In) := hA.ok
  have H1 := hide h1
  have H2 := hide h2
  have hn1 := h1.le
  have hn2 := h2.le
  clear hn hA hao hbw hle h1 h2
  go_enter Tryz.func3, Tryz.ntmps3
  go_wp2_with fail
  refine HST.out.mono ?_
  rintro e w1 ⟨v, s, rfl, G1⟩
  clear HST
  rcases G1.out.2 with ⟨rfl, hno⟩ | ⟨g1, g2, hs, p, a, b, rfl, g4, g5, g6, g7⟩
  · have HE := hide G1.out.1
    clear G1 hno
    go_wp2
    go_ret
    exact ⟨rfl, HE.out⟩
  obtain ⟨S0, hS0⟩ : ∃ S, LS0 l = S := ⟨_, rfl⟩
  have hok : S0.Ok := by rw [← hS0]; exact LS0_ok g2 HIN.out g1
  have hlg : LG w1 p a b nilS nilS S0 := by rw [← hS0]; exact g4.lg g2.dis rfl
  have han : S0.An s := by rw [hs, ← hS0]; exact LS0_an (by rw [hS0]; exact hok)
  have hs64 : s < 18446744073709551616 := by rw [hs]; exact good_sum g2
  have HS64 := hide hs64
  have HT0 : Hid (On w p a b 0 s w1 S0 []) := ⟨G1.out.1, ⟨⟨nilS, nilS, [], []⟩, ⟨hlg, World.ownsRow_nil _ _ _ _, ⟨[], World.ownsRow_nil _ _ _ _, fun i d v hi => by simp at hi⟩, g5, g6, g7⟩, Sv.none _ _ _ _, Nat.le_refl _, hok, fun q hq => by cases hq⟩, han, fun q hq => by cases hq⟩
  clear G1 g1 g2 hs g4 g5 g6 g7 hS0 hok hlg han hs64 HIN
  go_upto_region 4 with fail
  go_wp2
  go_loopw [10] (fun i wr => ∃ k : Nat, k ≤ n1 ∧ i = .int .i64 k ∧ ∃ S Q, Hid (On w p a b (48 * k) s wr S Q)) (fun i _ => n1 - (intOf i).toNat)
  case atStart => exact ⟨0, by omega, rfl, S0, [], HT0.out⟩
  case round =>
    clear HT0
    obtain ⟨k, hk, rfl, S, Q, HB⟩ := hrel
    by_cases hlt : k < n1
    · obtain ⟨o, hoo, rfl, hsc⟩ := H1.out.at_ hlt
      obtain ⟨c0, d1, d2, d3, d4, d5, cl⟩ := hsc wr HB.out.bel
      obtain ⟨x, hx⟩ : ∃ x, stepQ S Q o = x := ⟨_, rfl⟩
      obtain ⟨c, T, R⟩ := x
      have HD := hide (HB.out.does (by omega) hoo hx)
      clear HB hsc hx hoo
      unfold OpR.arr at HD
      generalize (o.A : Int) = XA at *
      generalize (o.B : Int) = XB at *
      generalize (o.C : Int) = XC at *
      generalize o.K = KI at *
      generalize o.N = NI at *
      go_upto_region 7 with fail
      go_wp2_with fail
      refine HD.out.mono ?_
      rintro e V1 ⟨rfl, G1⟩
      clear HD c0 d1 d2 d3 d4 d5 cl
      go_wp2
      go_roundw
      case rel => exact ⟨k + 1, by omega, by go_num, T, R, G1.out⟩
      case measure => simp [intOf]; omega
    · obtain rfl : n1 = k := by omega
      have hst : S.tot = s := HB.out.an.kp.2.2
      have hok := HB.out.an.kp.1
      have HIM := hide (HB.out.image)
      have HON := hide HB.out
      unfold imgV at HIM
      clear H1 HB
      go_upto_region 8 with fail
      go_wp2_with fail
      refine HIM.out.mono ?_
      rintro e w4 ⟨iao, icap, iho, ihcap, ijo, ijcap, rfl, G4⟩
      clear HIM
      obtain ⟨W5, hW5⟩ : ∃ W5, w4.alloc (.cells #[.int .u64 (S.tot : Nat), .int .u64 (S.nx : Nat), .slice iao S.acc.length icap, .slice iho S.hol.length ihcap, .slice ijo S.jl.length ijcap] 35) = W5 := ⟨_, rfl⟩
      obtain ⟨q8, hq8⟩ : ∃ q, w4.heap.size = q := ⟨_, rfl⟩
      have b5 : Below w4.heap.size w4 W5 := by rw [← hW5]; exact (Below.refl _ w4).alloc (Nat.le_refl _) _
      have HON5 : Hid (On w p a b (48 * n1) s W5 S Q) := (HON.out.kept G4.out.2).kept b5
      have HWS5 : Hid (WasR W5 q8 S iao icap iho ihcap ijo ijcap) := by rw [← hW5, ← hq8]; exact WasR.new G4.out.1
      obtain ⟨ga, gh, gj, himj⟩ := HWS5.out.imj hok
      have HLM := hide (lendImC himj _ _ _ icap ihcap ijcap rfl rfl rfl hok.la hok.lh (by rw [S.jl_len]; omega) (S.tot : Nat) (S.nx : Nat))
      have x0 := block_cell HWS5.out.box 0
      have x1 := block_cell HWS5.out.box 1
      have x2 := block_cell HWS5.out.box 2
      have x3 := block_cell HWS5.out.box 3
      have x4 := block_cell HWS5.out.box 4
      have xl := block_lt HWS5.out.box
      simp at x0 x1 x2 x3 x4
      have HW5 := hide hW5
      have HQE := hide hq8
      have HOK := hide hok
      have HST := hide hst
      clear b5 hW5 hq8 G4 himj HON hok hst
      go_upto_region 9 with fail
      rw [HW5.out, HQE.out]
      clear HW5 HQE
      go_wp2_with fail
      refine HLM.out.mono ?_
      rintro e w6 ⟨ga', gh', gj', rfl, G6⟩
      have hil := (G6.out.1.imj HOK.out.ia HOK.out.ih (LS.jl_in HOK.out)).z
      have hrs := restoreC hil _ (S.acc.length + 3) _ (S.hol.length + 3) _ (S.jl.length + 3) rfl rfl (by rw [List.length_map]) S.tot (by rw [HST.out]; exact HS64.out) S.nx (by have := HOK.out.n1; omega)
      have HRS := hide hrs
      have HON6 : Hid (On w p a b (48 * n1) s w6 S Q) := HON5.out.kept G6.out.2
      have HWS6 : Hid (WasR w6 q8 S iao icap iho ihcap ijo ijcap) := HWS5.out.kept G6.out.2
      clear HLM hil hrs G6 HON5 HWS5 x0 x1 x2 x3 x4 xl ga gh gj
      go_wp2_with fail
      refine HRS.out.mono ?_
      rintro e w7 ⟨v, er, rfl, G7⟩
      clear HRS
      have hpass := an_pass HON6.out.an
      rcases G7.out.2 with ⟨x, c, e1, e2, _⟩ | ⟨_, rfl, p', a', b', rfl, k1, k2, k3, k4⟩
      · exact absurd (pass_no hpass e1) e2
      have HTZ : Hid (Tz w p a b p' a' b' (48 * n1) 0 S Q S.anew w7 ∧ WasR w7 q8 S iao icap iho ihcap ijo ijcap) := by
        have hO7 := HON6.out.kept G7.out.1
        obtain ⟨Z6, hZ6⟩ := HON6.out.z
        have hs6 := HON6.out.bel.size
        refine ⟨⟨⟨hO7.bel, Z6, ⟨nilS, nilS, [], []⟩, hZ6.kept G7.out.1, ⟨⟨k1, World.ownsRow_nil _ _ _ _, ⟨[], World.ownsRow_nil _ _ _ _, fun i d v hi => by simp at hi⟩, by omega, by omega, by omega⟩, Sv.none _ _ _ _, Nat.le_refl _, anew_ok HOK.out, fun q hq => by cases hq⟩, fun x hx hy => ?_⟩, anew_sim HON6.out.an⟩, HWS6.out.kept G7.out.1⟩
        have hlt := (hZ6.lt hx).2
        have e0 : nilS.ownBlock = none := rfl
        rcases hy with e2 | e2 | e2 | e2 | e2
        · omega
        · omega
        · omega
        · have e' : nilS.ownBlock = some x := e2; rw [e0] at e'; cases e'
        · have e' : nilS.ownBlock = some x := e2; rw [e0] at e'; cases e'
      clear G7 hpass k1 k2 k3 k4 HON6 HWS6 HOK HST HS64
      have HI : Hid (∀ V, Hid (Tz w p a b p' a' b' (48 * n1) 0 S Q S.anew V ∧ WasR V q8 S iao icap iho ihcap ijo ijcap) → Calls Tryz.prog 9 #[.pointer (some ⟨p', 0, none⟩)] V fun e V1 => ∃ xao xcap xho xhcap xjo xjcap, e = .returned (imgV S xao xcap xho xhcap xjo xjcap) ∧ (V1.cell? ⟨q8, 0, none⟩ = some (.int .u64 (S.tot : Nat)) ∧ V1.cell? ⟨q8, 1, none⟩ = some (.int .u64 (S.nx : Nat)) ∧ V1.cell? ⟨q8, 2, none⟩ = some (.slice iao S.acc.length icap) ∧ V1.cell? ⟨q8, 3, none⟩ = some (.slice iho S.hol.length ihcap) ∧ V1.cell? ⟨q8, 4, none⟩ = some (.slice ijo S.jl.length ijcap) ∧ q8 < V1.heap.size) ∧ Hid (Tz w p a b p' a' b' (48 * n1) 0 S Q S.anew V1 ∧ ImX V1 S xao xcap xho xhcap xjo xjcap ∧ WasR V1 q8 S iao icap iho ihcap ijo ijcap)) := fun V hV => by
        refine (Tz.imageK hV.out.1).mono ?_
        rintro e V1 ⟨xao, xcap, xho, xhcap, xjo, xjcap, rfl, G⟩
        have hw := hV.out.2.kept G.out.2.2
        exact ⟨xao, xcap, xho, xhcap, xjo, xjcap, rfl, ⟨block_cell hw.box 0, block_cell hw.box 1, block_cell hw.box 2, block_cell hw.box 3, block_cell hw.box 4, block_lt hw.box⟩, G.out.1, G.out.2.1, hw⟩
      have HSM : Hid (∀ V xao xcap xho xhcap xjo xjcap, Hid (Tz w p a b p' a' b' (48 * n1) 0 S Q S.anew V ∧ ImX V S xao xcap xho xhcap xjo xjcap ∧ WasR V q8 S iao icap iho ihcap ijo ijcap) → Calls Tryz.prog 12 #[imgV S xao xcap xho xhcap xjo xjcap, imgV S iao icap iho ihcap ijo ijcap] V fun e V1 => e = .returned (.bool true) ∧ (V1.cell? ⟨q8, 0, none⟩ = some (.int .u64 (S.tot : Nat)) ∧ V1.cell? ⟨q8, 1, none⟩ = some (.int .u64 (S.nx : Nat)) ∧ V1.cell? ⟨q8, 2, none⟩ = some (.slice iao S.acc.length icap) ∧ V1.cell? ⟨q8, 3, none⟩ = some (.slice iho S.hol.length ihcap) ∧ V1.cell? ⟨q8, 4, none⟩ = some (.slice ijo S.jl.length ijcap) ∧ q8 < V1.heap.size) ∧ Hid (Tz w p a b p' a' b' (48 * n1) 0 S Q S.anew V1)) := fun V xao xcap xho xhcap xjo xjcap hV => by
        refine (hV.out.2.1.same_ hV.out.2.2.imx (Two.ok hV.out.1.1).1).mono ?_
        rintro e V1 ⟨rfl, G⟩
        have hw := hV.out.2.2.kept G.out
        exact ⟨rfl, ⟨block_cell hw.box 0, block_cell hw.box 1, block_cell hw.box 2, block_cell hw.box 3, block_cell hw.box 4, block_lt hw.box⟩, Two.kept hV.out.1.1 G.out, hV.out.1.2⟩
      have HI0 := hide (HI.out w7.drew ⟨⟨HTZ.out.1.1.kept (Below.refl _ _).drew, HTZ.out.1.2⟩, HTZ.out.2.kept (Below.refl _ _).drew⟩)
      have hw0 := HTZ.out.2.box
      have x0 := block_cell hw0 0
      have x1 := block_cell hw0 1
      have x2 := block_cell hw0 2
      have x3 := block_cell hw0 3
      have x4 := block_cell hw0 4
      have xl := block_lt hw0
      simp at x0 x1 x2 x3 x4
      unfold imgV at HI0 HSM
      clear hw0 HI HTZ
      go_upto_region 10 with fail
      go_region_held (fun V => V.cell? ⟨q8, 0, none⟩ = some (.int .u64 (S.tot : Nat)) ∧ V.cell? ⟨q8, 1, none⟩ = some (.int .u64 (S.nx : Nat)) ∧ V.cell? ⟨q8, 2, none⟩ = some (.slice iao S.acc.length icap) ∧ V.cell? ⟨q8, 3, none⟩ = some (.slice iho S.hol.length ihcap) ∧ V.cell? ⟨q8, 4, none⟩ = some (.slice ijo S.jl.length ijcap) ∧ q8 < V.heap.size) (go_keep)
        (first | (go_at_call 9; refine HI0.out.mono ?_; rintro e V2 ⟨xao, xcap, xho, xhcap, xjo, xjcap, rfl, hc2, G2⟩; have HS2 := hide (HSM.out _ _ _ _ _ _ _ G2)) | (go_at_call 12; refine HS2.out.mono ?_; rintro e V3 ⟨rfl, hc3, GF⟩))
      all_goals
        clear HI0 HSM x0 x1 x2 x3 x4 xl
        generalize hM0 : 48 * n1 = M0 at *
        have hM0' : M0 ≤ 200000000 := by omega
        go_wp2
        go_loopw [14] (fun i wr => ∃ j : Nat, j ≤ n2 ∧ i = .int .i64 j ∧ ∃ S S', Hid (Tz w p a b p' a' b' (M0 + 48 * j) (48 * j) S Q S' wr)) (fun i _ => n2 - (intOf i).toNat)
        case atStart => exact ⟨0, by omega, rfl, S, S.anew, GF.out⟩
        case round =>
          obtain ⟨j, hj, rfl, S, S', HB⟩ := hrel
          by_cases hlt : j < n2
          · obtain ⟨o, hoo, rfl, hsc⟩ := H2.out.at_ hlt
            obtain ⟨z0, z1, z2, z3, z4, z5, zl⟩ := hsc wr HB.out.1.bel
            by_cases h7 : 7 ≤ o.K
            · have e7 : decide (o.K ≥ 7) = true := decide_eq_true h7
              have HB2 : Hid (Tz w p a b p' a' b' (M0 + 48 * (j + 1)) (48 * (j + 1)) S Q S' wr) := ⟨HB.out.1.le (by omega) (by omega), HB.out.2⟩
              clear HB hsc hoo h7 z1 z2 z3 z4 z5
              generalize o.K = KI at *
              go_wp2
              go_roundw
              case rel => exact ⟨j + 1, by omega, by go_num, S, S', HB2.out⟩
              case measure => simp [intOf]; omega
            have e7 : decide (o.K ≥ 7) = false := decide_eq_false h7
            obtain ⟨c, T, T', hx, hx', hsim⟩ := stepQ_sim HB.out.2 Q (o := o) (by omega)
            have hLK := Tz.both (p := p) (a := a) (b := b) (p' := p') (a' := a') (b' := b') (M := M0 + 48 * j) (N := 48 * j) (by omega) (by omega) hoo hx hx' hsim hsc
            have hIM := Tz.imgs (w := w) (p := p) (a := a) (b := b) (p' := p') (a' := a') (b' := b') (M := M0 + 48 * j + 48) (N := 48 * j + 48) (S := T) (Q := Q) (S' := T') hsc
            have H0 : Hid (Tz w p a b p' a' b' (M0 + 48 * j) (48 * j) S Q S' wr.drew) := ⟨HB.out.1.kept (Below.refl _ _).drew, HB.out.2⟩
            have HL0 := hide (hLK.1 _ H0)
            have HDK := hide hLK.2.1
            have HK0 := hide (hLK.2.2.1 _ H0)
            have HDL := hide hLK.2.2.2
            have HIL := hide hIM.1
            have HIK := hide hIM.2.1
            have HIL2 := hide hIM.2.2.1
            have HIK2 := hide hIM.2.2.2.1
            have HSM := hide hIM.2.2.2.2
            clear hLK hIM hx hx' hsim hoo hsc HB H0 h7
            unfold OpR.arr scrC at HL0 HDK HK0 HDL
            unfold imgV scrC at HIL HIK HIL2 HIK2
            unfold imgV scrC at HSM
            generalize (o.A : Int) = XA at *
            generalize (o.B : Int) = XB at *
            generalize (o.C : Int) = XC at *
            generalize o.K = KI at *
            generalize o.N = NI at *
            have ecc : (c != c) = false := by simp
            go_upto_region 16 with fail
            go_region_held (fun V => V.cell? ⟨b2, f2 + j * 6, none⟩ = some (.int .i64 KI) ∧ V.cell? ⟨b2, f2 + j * 6 + 1, none⟩ = some (.int .u64 XA) ∧ V.cell? ⟨b2, f2 + j * 6 + 2, none⟩ = some (.int .u64 XB) ∧ V.cell? ⟨b2, f2 + j * 6 + 3, none⟩ = some (.int .u64 XC) ∧ V.cell? ⟨b2, f2 + j * 6 + 4, none⟩ = some (.int .i64 NI) ∧ V.cell? ⟨b2, f2 + j * 6 + 5, none⟩ = some (.slice o.so o.sn o.sc) ∧ b2 < V.heap.size) (go_keep)
              (first | (go_at_call 12; refine HS2.out.mono ?_; rintro e V5 ⟨rfl, hc5, GE⟩) | (go_at_call 9; refine HJ2.out.mono ?_; rintro e V4 ⟨yao, ycap, yho, yhcap, yjo, yjcap, rfl, hc4, G4⟩; have HS2 := hide (HSM.out _ _ _ _ _ _ _ _ _ _ _ _ _ G4)) | (go_at_call 9; refine HJL.out.mono ?_; rintro e V3 ⟨xao, xcap, xho, xhcap, xjo, xjcap, rfl, hc3, G3⟩; have HJ2 := hide (HIK2.out _ _ _ _ _ _ _ G3)) | (go_at_call 9; refine HJK.out.mono ?_; rintro e V3 ⟨xao, xcap, xho, xhcap, xjo, xjcap, rfl, hc3, G3⟩; have HJ2 := hide (HIL2.out _ _ _ _ _ _ _ G3)) | (go_at_call 8; refine HK1.out.mono ?_; rintro e V2 ⟨rfl, hc2, GF⟩; have HJL := hide (HIL.out _ GF); have HJK := hide (HIK.out _ GF)) | (go_at_call 8; refine HL1.out.mono ?_; rintro e V2 ⟨rfl, hc2, GF⟩; have HJL := hide (HIL.out _ GF); have HJK := hide (HIK.out _ GF)) | (go_at_call 8; refine HL0.out.mono ?_; rintro e V1 ⟨rfl, hc1, G1⟩; have HK1 := hide (HDK.out _ G1)) | (go_at_call 8; refine HK0.out.mono ?_; rintro e V1 ⟨rfl, hc1, G1⟩; have HL1 := hide (HDL.out _ G1)))
            all_goals go_wp2
            all_goals go_roundw
            all_goals first
              | (case rel => exact ⟨j + 1, by omega, by go_num, T, T', GE.out.1.le (by omega) (by omega), GE.out.2⟩)
              | (case measure => simp [intOf]; omega)
              | skip
          · obtain rfl : n2 = j := by omega
            have HE : Hid (Below w.heap.size w wr) := HB.out.1.bel
            clear HB
            go_wp2
            go_ret
            exact ⟨rfl, HE⟩
end Go.Proofs.YtcfenjpdjogmdaaGreat
namespace Go.Proofs.YtcfenjpdjogmdaaGreat
open Go.RowKit

theorem ledgerAnewProof : Rows.LedgerAnewUptoSaid := ledgerAnew_upto fun _ _ _ len0 cap0 _ _ _ _ len1 cap1 _ _ _ len2 cap2 _ hn0 hle0 hA0 hao0 hb0 hO1 hle1 hao1 hb1 hO2 hle2 hao2 hb2 => (anewW len0 cap0 hn0 hA0 hao0 hb0 hle0 len1 cap1 len2 cap2 ⟨hO1, hle1, hao1, hb1⟩ ⟨hO2, hle2, hao2, hb2⟩).mono (fun _ _ h => ⟨h.1, h.2.out⟩)
end Go.Proofs.YtcfenjpdjogmdaaGreat
