import Derived.Test.YtldhafpeigdloaaGreatDoorM47
import Derived.Test.YtldhafpeigdloaaGreatDoorM48
import Derived.Test.YtldhafpeigdloaaGreatDoorVSv
import Derived.Test.YtldhafpeigdloaaGreatDoorM22
import Derived.Test.YtldhafpeigdloaaGreatDoorM8
import Derived.Test.YtldhafpeigdloaaGreatDoorM11
import Derived.Test.YtldhafpeigdloaaGreatDoorM46
import Derived.Deep.RegionHeldLaw
import Derived.Deep.DeepAppendWide
namespace Go.Proofs.YtldhafpeigdloaaGreatDoor
open Go.RowKit Crc

theorem errV_two {w : World} {x : Value} {c a : Int} (h : ErrV w x c a) : ∃ bb : Bool, (bb = true ↔ c = 0) ∧ ((x = .nilIface ∧ bb = true) ∨ ∃ g, x = .iface 84 (.pointer (some ⟨g, 0, none⟩)) ∧ bb = false) := by
  by_cases hc : c = 0
  · rw [hc] at h
    exact ⟨true, by simp [hc], .inl ⟨errV_none h, rfl⟩⟩
  · obtain ⟨g, e⟩ := errV_some h hc
    exact ⟨false, by simp [hc], .inr ⟨g, e, rfl⟩⟩
theorem lend_to {W : World} {ao : Option Addr} {n cap : Nat} {B : List Nat} (h : Shows W.heap.size W ao n cap B) :
    Calls Tryz.prog 9 #[.slice ao n cap] W fun e w' => ∃ g, e = .returned (.slice (some ⟨g, 0, none⟩) n (n + 4)) ∧ Hid (Shows w'.heap.size w' (some ⟨g, 0, none⟩) n (n + 4) B ∧ Lent w' g n B ∧ W.heap.size ≤ g ∧ Below W.heap.size W w') :=
  (lend_sh h (Nat.le_refl _)).mono (fun _ _ ⟨a, c, d⟩ => ⟨_, a, c.shows h.2.2.2.1 h.2.2.1, c, Nat.le_refl _, d⟩)
/-- What DecodeMsg tells of any bytes. -/
def DecP (B : List Nat) (W : World) (e : Ending) (w' : World) : Prop := ∃ (cs : List Value) (x : Value) (bb : Bool), e = .returned (.tuple #[.agg cs.toArray, x]) ∧ ((x = .nilIface ∧ bb = true) ∨ ∃ g, x = .iface 84 (.pointer (some ⟨g, 0, none⟩)) ∧ bb = false) ∧
  Hid (cs.length = 49 ∧ (∀ v ∈ cs, v.oneCell' = true) ∧ Below W.heap.size W w' ∧ (bb = true ↔ (ff B).2 = 0 ∧ mdC (B.getD 3 0) (B.take (B.length - 4)) = 0) ∧ (bb = true → ∃ m : Mg, Read (B.getD 3 0) (dRun (B.getD 3 0) (B.take (B.length - 4))).2 B cs w' m))
theorem dec_any {W : World} {ao : Option Addr} {n cap : Nat} {B : List Nat} (h : Shows W.heap.size W ao n cap B) (h0 : 0 < W.heap.size) (hT : ∀ w1 : World, Below W.heap.size W w1 → Table w1) : Calls Tryz.prog 8 #[.slice ao n cap] W (DecP B W) := by
  obtain ⟨p1, p2, p3, p4, b, off, p5, p6, p7⟩ := h
  by_cases hf : (ff B).2 = 0
  · have h12 := (ff_ok hf).1
    obtain rfl : ao = some ⟨b, off, none⟩ := p5 (by omega)
    refine (decm_good b off B n cap W p1 p2 p4 hT (p6 (by omega)) p7 hf).mono ?_
    rintro e w' ⟨cs, x, rfl, G⟩
    obtain ⟨g1, g2, g3, g4, g5⟩ := G.out
    obtain ⟨bb, hb, hx⟩ := errV_two g4
    rw [p1] at hb g5
    exact ⟨cs, x, bb, rfl, hx, g1, g2, g3, hb.trans ⟨fun e => ⟨hf, e⟩, fun e => e.2⟩, fun e => g5 (hb.1 e)⟩
  · have key : Calls Tryz.prog 8 #[.slice ao n cap] W fun e w' => ∃ (cs : List Value) (g : Nat), e = .returned (.tuple #[.agg cs.toArray, .iface 84 (.pointer (some ⟨g, 0, none⟩))]) ∧ Hid (cs.length = 49 ∧ (∀ v ∈ cs, v.oneCell' = true) ∧ Below W.heap.size W w') := by
      by_cases hn : 0 < n
      · exact decode_bad b off ao B n cap W p5 p1 p3 p2 p4 hT (p6 hn) p7 hf
      · exact decode_bad 0 0 ao B n cap W (fun e => absurd e hn) p1 p3 p2 p4 hT h0 (fun i hi => absurd hi (by omega)) hf
    refine key.mono ?_
    rintro e w' ⟨cs, g, rfl, G⟩
    exact ⟨cs, _, false, rfl, .inr ⟨g, rfl, rfl⟩, G.out.1, G.out.2.1, G.out.2.2, ⟨fun e => (by cases e), fun e => absurd e.1 hf⟩, fun e => by cases e⟩
theorem mv_inj {a b : Mg} (h : a.mv = b.mv) : a.num = b.num ∧ a.node.toNat = b.node.toNat ∧ a.slot = b.slot ∧ a.low = b.low ∧ a.vs.map Vi.vv = b.vs.map Vi.vv ∧ a.st = b.st ∧ a.rs.map Rq.val = b.rs.map Rq.val ∧ a.seq = b.seq ∧ a.stamp = b.stamp ∧ a.code = b.code ∧ a.C = b.C ∧ a.D = b.D ∧ a.sus = b.sus ∧ a.idx = b.idx ∧ a.cnt = b.cnt ∧ a.root = b.root ∧ a.hs = b.hs := by
  unfold Mg.mv at h
  injection h with h1 h2 h3 h4 h5 h6 h7 h8 h9 h10 h11 h12 h13 h14 h15 h16 h17
  exact ⟨h1, h2, h3, h4, h5, h6, h7, h8, h9, h10, h11, h12, h13, h14, h15, h16, h17⟩
theorem vi_like {t s : Vi} (h : t.vv = s.vv) (ht : 0 ≤ t.node) (hs : 0 ≤ s.node) : t.like s := by
  unfold Vi.vv at h
  injection h with h1 h2 h3 h4 h5
  exact ⟨h1, h2, by omega, h4, h5⟩
/-- Two messages of one value are the same. -/
theorem sameMsg_of {w : World} (a b : Mg) (ha : a.Ok w.heap.size w) (hb : b.Ok w.heap.size w) (hk : a.kind = b.kind) (hp : a.pos) (hq : b.pos) (hv : a.mv = b.mv) :
    Calls Tryz.prog 10 #[.agg a.R.toArray, .agg b.R.toArray] w fun e w' => e = .returned (.bool true) ∧ Hid (Below w.heap.size w w') := by
  obtain ⟨h1, h2, h3, h4, h5, h6, h7, h8, h9, h10, h11, h12, h13, h14, h15, h16, h17⟩ := mv_inj hv
  have hvl : a.vn = b.vn := by have := congrArg List.length h5; rw [List.length_map, List.length_map, ha.hvn, hb.hvn] at this; exact this
  have lk : a.like b := ⟨hk, ⟨h1, by have := hp.1; have := hq.1; omega⟩, h3, h4, h8, h9, h10, h13, h14, h15, h16, h17⟩
  have key := sameMsg_any (w := w) a b ha.rl hb.rl ha.hP ha.hpn (Nat.le_refl _) hb.hP hb.hpn (Nat.le_refl _) (qv := true) (qt := true) (qc := true) (qd := true)
    (fun W hW => by
      refine sameVotes_any a.vc b.vc a.vn b.vn ((ha.hV.below hW).wide hW.size) ((hb.hV.below hW).wide hW.size) (Nat.le_refl _) (Nat.le_refl _) ha.hvn hb.hvn hvl (fun i t s ht hs => ?_)
      have e := congrArg (fun l : List Vv => l[i]?) h5
      simp only [List.getElem?_map, ht, hs, Option.map_some, Option.some.injEq] at e
      exact vi_like e (hp.2 t (List.mem_of_getElem? ht)) (hq.2 s (List.mem_of_getElem? hs)))
    (fun W hW => by
      have := sameBatch_any (w := W) a.st a.rc b.rc ((ha.hR.below hW).wide hW.size) ((hb.hR.below hW).wide hW.size) (Nat.le_refl _) (Nat.le_refl _) h7
      rw [ha.hn, hb.hn] at this
      rw [← h6]
      exact this.mono (fun _ _ g => ⟨g.1, g.2⟩))
    (fun W hW => (same_any ((ha.hC.belowL hW).wide hW.size) (h11 ▸ (hb.hC.belowL hW).wide hW.size)).mono (fun _ _ g => by
      obtain ⟨g1, q, rfl⟩ := g
      exact ⟨g1, ⟨rfl, rfl, rfl, Nat.le_refl _, fun _ _ => rfl⟩⟩))
    (fun W hW => (same_any ((ha.hD.belowL hW).wide hW.size) (h12 ▸ (hb.hD.belowL hW).wide hW.size)).mono (fun _ _ g => by
      obtain ⟨g1, q, rfl⟩ := g
      exact ⟨g1, ⟨rfl, rfl, rfl, Nat.le_refl _, fun _ _ => rfl⟩⟩))
  refine key.mono ?_
  rintro e w' ⟨q, rfl, G⟩
  obtain rfl : q = true := G.out.1.2 ⟨lk, rfl, rfl, rfl, rfl⟩
  exact ⟨rfl, G.out.2⟩
/-- A message that may be: its datagram's bytes. -/
theorem mBody_len {lim : Nat} {w : World} {m : Mg} (hx : m.Ok lim w) {K : Nat} (ok : m.mv.Ok K) : (encs (mfOf K) m.mv).length ≤ 60000 := by
  have hr := roomm_le ok.k1 ok.k10
  obtain ⟨-, e2⟩ := layAllm_fits hx (mfOf K) ⟨true, 0, 0, 65507, [], ⟨93, m.R⟩⟩ ⟨rfl, rfl⟩ (by simp only [List.length_nil]; omega) ok.ok
  omega
/-- What stands of the datagram of a message that may be. -/
theorem whole {lim : Nat} {w : World} {m : Mg} (hx : m.Ok lim w) (ok : (mNo m).1 = 0) (hb : ∀ y ∈ mRes m, y < 256) :
    m.pos ∧ m.mv.Ok m.kind.toNat ∧ mRes m = frameB m.kind.toNat (mBody m) ∧ (mRes m).length = 12 + (mBody m).length ∧ (mBody m).length ≤ 60000 ∧ (ff (mRes m)).2 = 0 ∧ (mRes m).getD 3 0 = m.kind.toNat ∧ mdC m.kind.toNat ((mRes m).take ((mRes m).length - 4)) = 0 ∧ (dRun m.kind.toNat ((mRes m).take ((mRes m).length - 4))).2 = m.mv ∧ (m.kind.toNat : Int) = m.kind := by
  obtain ⟨h1, h2⟩ := (mNo_iff hx).1 ok
  have e : mRes m = frameB m.kind.toNat (mBody m) := by unfold mRes; rw [if_pos ok]
  have hl : (mBody m).length ≤ 60000 := mBody_len hx h2
  have hbb : ∀ x ∈ encs (mfOf m.kind.toNat) m.mv, x < 256 := fun x hx => by
    have hx : x ∈ mBody m := hx
    rw [← frameB_body m.kind.toNat (mBody m), ← e] at hx
    exact hb x (List.mem_of_mem_drop (List.mem_of_mem_take hx))
  obtain ⟨d1, d2, d3, d4⟩ := dec_fwd h2 hbb (by have : (encs (mfOf m.kind.toNat) m.mv).length ≤ 60000 := hl; omega) (F := mRes m) e
  refine ⟨h1, h2, e, by rw [e, frameB_len], hl, d1, d2, d3, d4, ?_⟩
  have := h2.k1
  omega
/-- A frame that is cut, or goes on behind its end, is none. -/
theorem ff_cut {B : List Nat} (h : (ff B).2 = 0) {c : Nat} (hc : c < B.length) : (ff (B.take c)).2 ≠ 0 := by
  intro h2
  obtain ⟨-, -, -, -, -, l1, -⟩ := ff_ok h
  obtain ⟨k12, -, -, -, -, l2, -⟩ := ff_ok h2
  rw [List.length_take] at k12 l2
  have e : ((B.take c).drop 4).take 4 = (B.drop 4).take 4 := by
    rw [List.drop_take, List.take_take, Nat.min_eq_left (by omega)]
  rw [e] at l2
  omega
theorem ff_more {B M : List Nat} (h : (ff B).2 = 0) (hM : 0 < M.length) : (ff (B ++ M)).2 ≠ 0 := by
  intro h2
  obtain ⟨h12, -, -, -, -, l1, -⟩ := ff_ok h
  obtain ⟨k12, -, -, -, -, l2, -⟩ := ff_ok h2
  rw [List.length_append] at l2
  have e : ((B ++ M).drop 4).take 4 = (B.drop 4).take 4 := by
    rw [List.drop_append_of_le_length (by omega), List.take_append_of_le_length (by rw [List.length_drop]; omega)]
  rw [e] at l2
  omega
end Go.Proofs.YtldhafpeigdloaaGreatDoor
namespace Go.Proofs.YtldhafpeigdloaaGreatDoor
open Go.RowKit Crc

/-- A batch's requests that were copied: a row of their own, each command lent. -/
structure Cr (base : Nat) (w : World) (v : Value) (rs : List Rq) : Prop where
  row : w.ownsRow base 100 3 v rs.length (rcells rs)
  lent : LentRs w rs
  num : ∀ r ∈ rs, r.num
  le : rs.length ≤ 3518437208883
theorem lent_ne {w : World} {gc n g : Nat} {C : List Nat} {cs : Array Value} {t : TypeId} (h : Lent w gc n C) (hb : w.heap[g]? = some (.cells cs t (0, 0))) (ht : t ≠ 5) : g ≠ gc := by
  rintro rfl
  rcases h.2.2 with ⟨e, _⟩ | ⟨g', cap, cur, e, _, hg, _⟩
  · cases e
  · cases e
    rw [hb] at hg
    cases hg
    exact ht rfl
theorem row_ne {base s k g : Nat} {e : TypeId} {w : World} {v : Value} {xs : List Value} {cs : Array Value} {t : TypeId} (h : w.ownsRow base e s v k xs) (hb : w.heap[g]? = some (.cells cs t (0, 0))) (ht : t ≠ e) : v.ownBlock ≠ some g := by
  intro x
  rcases h.2 with ⟨rfl, _⟩ | ⟨g', cap, cur, rfl, _, hg, _⟩
  · cases x
  · cases x
    rw [hb] at hg
    cases hg
    exact ht rfl
/-- What turns a block of another type leaves it. -/
theorem Cr.next {base g : Nat} {w w' : World} {v : Value} {rs : List Rq} {cs : Array Value} {t : TypeId} (h : Cr base w v rs) (hg : w.grownBy w' (some g)) (hb : w.heap[g]? = some (.cells cs t (0, 0))) (h1 : t ≠ 100) (h2 : t ≠ 5) : Cr base w' v rs :=
  ⟨h.row.kept hg (.inr (row_ne h.row hb h1)), h.lent.next hg (fun gc n C hl e => by cases e; exact lent_ne hl hb h2 rfl), h.num, h.le⟩
theorem Cr.quiet {base : Nat} {w w' : World} {v : Value} {rs : List Rq} (h : Cr base w v rs) (hg : w.grownBy w' none) : Cr base w' v rs :=
  ⟨row_quiet h.row hg, h.lent.next hg (fun gc n C _ e => by cases e), h.num, h.le⟩
theorem Cr.own {base : Nat} {w : World} {v : Value} {rs : List Rq} (h : Cr base w v rs) : OwnRs base w v rs ∧ ∀ r ∈ rs, ∀ b off, r.co = some ⟨b, off, none⟩ → b < w.heap.size := by
  obtain ⟨l1, l2⟩ := h.lent.ok h.num
  exact ⟨⟨h.row, l1, h.le⟩, l2⟩
theorem Cr.lower {base base' : Nat} {w : World} {v : Value} {rs : List Rq} (h : Cr base w v rs) (hl : base' ≤ base) : Cr base' w v rs := ⟨rowLower h.row hl, h.lent, h.num, h.le⟩
/-- A row grows: what it turns is of its own type. -/
theorem Cr.grow {base base' s k : Nat} {e : TypeId} {w w' : World} {v u : Value} {rs : List Rq} {xs : List Value} (h : Cr base w v rs) (hr : w.ownsRow base' e s u k xs) (hg : w.grownBy w' u.ownBlock) (h1 : e ≠ 100) (h2 : e ≠ 5) : Cr base w' v rs := by
  rcases hr.2 with ⟨rfl, _⟩ | ⟨g', cap, cur, rfl, _, hb, _⟩
  · exact h.quiet hg
  · exact h.next hg hb h1 h2
/-- Bytes that were lent stay too. -/
theorem Lent.nextT {w w' : World} {gc n g : Nat} {C : List Nat} {cs : Array Value} {t : TypeId} (h : Lent w gc n C) (hg : w.grownBy w' (some g)) (hb : w.heap[g]? = some (.cells cs t (0, 0))) (ht : t ≠ 5) : Lent w' gc n C :=
  ⟨h.1, h.2.kept hg (.inr (fun e => by cases e; exact lent_ne h hb ht rfl))⟩
end Go.Proofs.YtldhafpeigdloaaGreatDoor
namespace Go.Proofs.YtldhafpeigdloaaGreatDoor
open Go.RowKit Crc

/-- The cells of votes as they lie. -/
def vicells (ts : List Vi) : List Value := (ts.map Vi.cells).flatten
theorem vicells_snoc (ts : List Vi) (t : Vi) : vicells (ts ++ [t]) = vicells ts ++ t.cells := by simp [vicells]
theorem vicells_len (ts : List Vi) : (vicells ts).length = ts.length * 5 := by
  unfold vicells
  induction ts with
  | nil => rfl
  | cons t r ih => simp only [List.map_cons, List.flatten_cons, List.length_append, ih, List.length_cons, Vi.cells, List.length_nil]; omega
def hhcells (hs : List (List Nat)) : List Value := (hs.map vals).flatten
theorem hhcells_snoc (hs : List (List Nat)) (h : List Nat) : hhcells (hs ++ [h]) = hhcells hs ++ vals h := by simp [hhcells]

/-- Batch, command and data of a message that is copied. -/
structure Cx (base : Nat) (W : World) (x : Mg) : Prop where
  cr : Cr base W (.slice x.ro x.n x.rc) x.rs
  crn : x.rs.length = x.n
  lc : ∃ g, x.co = some ⟨g, 0, none⟩ ∧ x.cc = x.cn + 4 ∧ Lent W g x.cn x.C
  ld : ∃ g, x.do_ = some ⟨g, 0, none⟩ ∧ x.dc = x.dn + 4 ∧ Lent W g x.dn x.D
theorem Cx.next {base g : Nat} {W W' : World} {x : Mg} {cs : Array Value} {t : TypeId} (h : Cx base W x) (hg : W.grownBy W' (some g)) (hb : W.heap[g]? = some (.cells cs t (0, 0))) (h1 : t ≠ 100) (h2 : t ≠ 5) : Cx base W' x := by
  obtain ⟨a, a1, a2, a3⟩ := h.lc
  obtain ⟨b, b1, b2, b3⟩ := h.ld
  exact ⟨h.cr.next hg hb h1 h2, h.crn, ⟨a, a1, a2, a3.nextT hg hb h2⟩, ⟨b, b1, b2, b3.nextT hg hb h2⟩⟩
theorem lent_quiet {W W' : World} {g n : Nat} {C : List Nat} (h : Lent W g n C) (hg : W.grownBy W' none) : Lent W' g n C := ⟨h.1, h.2.kept hg (.inr (by simp [Value.ownBlock]))⟩
theorem Cx.quiet {base : Nat} {W W' : World} {x : Mg} (h : Cx base W x) (hg : W.grownBy W' none) : Cx base W' x := by
  obtain ⟨a, a1, a2, a3⟩ := h.lc
  obtain ⟨b, b1, b2, b3⟩ := h.ld
  exact ⟨h.cr.quiet hg, h.crn, ⟨a, a1, a2, lent_quiet a3 hg⟩, ⟨b, b1, b2, lent_quiet b3 hg⟩⟩
theorem Cx.grow {base base' s k : Nat} {e : TypeId} {W W' : World} {u : Value} {x : Mg} {xs : List Value} (h : Cx base W x) (hr : W.ownsRow base' e s u k xs) (hg : W.grownBy W' u.ownBlock) (h1 : e ≠ 100) (h2 : e ≠ 5) : Cx base W' x := by
  rcases hr.2 with ⟨rfl, _⟩ | ⟨g', cap, cur, rfl, _, hb, _⟩
  · exact h.quiet hg
  · exact h.next hg hb h1 h2

/-- What a vote that was copied keeps. -/
structure Vi.fit (t : Vi) : Prop where
  n : t.rs.length = t.n
  slot : t.slot < 18446744073709551616
  num : t.num < 18446744073709551616
  st : t.st < 18446744073709551616
  b : t.b = slBlk (.slice t.ro t.n t.rc)
  off : t.off = 0
/-- Votes that are copied. -/
structure Cv (base : Nat) (W : World) (v : Value) (ts : List Vi) : Prop where
  row : W.ownsRow base 66 5 v ts.length (vicells ts)
  own : ∀ t ∈ ts, Cr base W (.slice t.ro t.n t.rc) t.rs ∧ t.fit
theorem Cv.next {base g : Nat} {W W' : World} {v : Value} {ts : List Vi} {cs : Array Value} {t : TypeId} (h : Cv base W v ts) (hg : W.grownBy W' (some g)) (hb : W.heap[g]? = some (.cells cs t (0, 0))) (h1 : t ≠ 100) (h2 : t ≠ 5) (h3 : v.ownBlock ≠ some g) : Cv base W' v ts :=
  ⟨h.row.kept hg (.inr h3), fun s hs => ⟨(h.own s hs).1.next hg hb h1 h2, (h.own s hs).2⟩⟩
theorem Cv.nextT {base g : Nat} {W W' : World} {v : Value} {ts : List Vi} {cs : Array Value} {t : TypeId} (h : Cv base W v ts) (hg : W.grownBy W' (some g)) (hb : W.heap[g]? = some (.cells cs t (0, 0))) (h1 : t ≠ 100) (h2 : t ≠ 5) (h3 : t ≠ 66) : Cv base W' v ts :=
  h.next hg hb h1 h2 (row_ne h.row hb h3)
theorem Cv.quiet {base : Nat} {W W' : World} {v : Value} {ts : List Vi} (h : Cv base W v ts) (hg : W.grownBy W' none) : Cv base W' v ts :=
  ⟨row_quiet h.row hg, fun s hs => ⟨(h.own s hs).1.quiet hg, (h.own s hs).2⟩⟩
theorem Cv.grow {base base' s k : Nat} {e : TypeId} {W W' : World} {u v : Value} {ts : List Vi} {xs : List Value} (h : Cv base W v ts) (hr : W.ownsRow base' e s u k xs) (hg : W.grownBy W' u.ownBlock) (h1 : e ≠ 100) (h2 : e ≠ 5) (h3 : e ≠ 66) : Cv base W' v ts := by
  rcases hr.2 with ⟨rfl, _⟩ | ⟨g', cap, cur, rfl, _, hb, _⟩
  · exact h.quiet hg
  · exact h.nextT hg hb h1 h2 h3

theorem S3.turn {w : World} {cs : List Value} {bc g : Nat} {c : List Value} {W W' : World} {q : Array Value} {t : TypeId} (h : S3 w cs bc c W) (hg : W.grownBy W' (some g)) (hb : W.heap[g]? = some (.cells q t (0, 0))) (ht : t ≠ 36) (hge : w.heap.size ≤ g) : S3 w cs bc c W' := by
  have ne : ∀ (j : Nat) (X : Array Value), W.heap[j]? = some (.cells X 36 (0, 0)) → some j ≠ some g := fun j X hX e => by
    cases e
    rw [hb] at hX
    cases hX
    exact ht rfl
  obtain ⟨Z, z1, z2⟩ := h.q1
  exact ⟨h.bel.grown hg h.bel.size (fun k e => by cases e; exact hge), (hg.block _ (block_lt h.q0) (ne _ _ h.q0)).trans h.q0, ⟨Z, (hg.block _ (block_lt z1) (ne _ _ z1)).trans z1, z2⟩, (hg.block _ (block_lt h.q2) (ne _ _ h.q2)).trans h.q2, h.ne⟩
theorem S3.grow {w : World} {cs : List Value} {bc s k : Nat} {c : List Value} {W W' : World} {e : TypeId} {u : Value} {xs : List Value} (h : S3 w cs bc c W) (hr : W.ownsRow w.heap.size e s u k xs) (hg : W.grownBy W' u.ownBlock) (ht : e ≠ 36) : S3 w cs bc c W' := by
  rcases hr.2 with ⟨rfl, _⟩ | ⟨g', cap, cur, rfl, hge, hb, _⟩
  · exact h.next hg
  · exact h.turn hg hb ht hge

/-- Between two votes of the copying. -/
structure Vl (w : World) (cs c : List Value) (bc : Nat) (x : Mg) (vs : List Vi) (k : Nat) (v : Value) (ts : List Vi) (W : World) : Prop where
  s : S3 w cs bc (c.set 5 v) W
  cx : Cx w.heap.size W x
  cv : Cv w.heap.size W v ts
  len : ts.length = k
  like : ∀ (i : Nat) (t s : Vi), ts[i]? = some t → vs[i]? = some s → t.like s
theorem Vl.next {w : World} {cs c : List Value} {bc : Nat} {x : Mg} {vs : List Vi} {k : Nat} {v : Value} {ts : List Vi} {wr : World} (h : Vl w cs c bc x vs k v ts wr) (hc : c.length = 49) {s t : Vi} (hs : vs[k]? = some s) (hl : t.like s) {o1 o2 : Obj} {w1 w2 : World} {q : Array Value} {a b v' : Value} (hb1 : Below (wr.heap.size + 1) (wr.alloc o1) w1) (hq : w1.heap[wr.heap.size]? = some (.cells q 66 (0, 0))) (hcr : Cr (wr.heap.size + 1) w1 (.slice t.ro t.n t.rc) t.rs) (hn : t.fit)
    (ho : w2.ownsRow w.heap.size 66 5 v' (k + 1) (vicells (ts ++ [t]))) (hg : (((w1.setCell ⟨wr.heap.size, 3, none⟩ a).setCell ⟨wr.heap.size, 4, none⟩ b).alloc o2).grownBy w2 v.ownBlock) :
    Vl w cs c bc x vs (k + 1) v' (ts ++ [t]) (w2.setCell ⟨bc, 5, none⟩ v') ∧ w2.cell? ⟨bc, 5, none⟩ = some v ∧ w2.frozen? ⟨bc, 5, none⟩ = false := by
  have hbA : Below wr.heap.size wr w1 := (below_alloc1 wr o1).trans (hb1.mono (by omega))
  have hws := h.s.bel.size
  have g0 := below_none hbA
  have gs : w1.grownBy ((w1.setCell ⟨wr.heap.size, 3, none⟩ a).setCell ⟨wr.heap.size, 4, none⟩ b) (some wr.heap.size) := grown_trans (row := some wr.heap.size) (grown_set _ _ _ _) (grown_set _ _ _ _)
  have gA := World.grownBy_alloc ((w1.setCell ⟨wr.heap.size, 3, none⟩ a).setCell ⟨wr.heap.size, 4, none⟩ b) o2 none
  have hvq : v.ownBlock ≠ some wr.heap.size := fun e => by have := (h.cv.row.lt _ e).2; omega
  have S1 := ((h.s.next g0).turn gs hq (by decide) hws).next gA
  have X1 := ((h.cx.quiet g0).next gs hq (by decide) (by decide)).quiet gA
  have V1 := ((h.cv.quiet g0).next gs hq (by decide) (by decide) hvq).quiet gA
  have C1 := ((hcr.lower (base' := w.heap.size) (by omega)).next gs hq (by decide) (by decide)).quiet gA
  have S2 := S1.grow V1.row hg (by decide)
  have X2 := X1.grow V1.row hg (by decide) (by decide)
  have C2 := C1.grow V1.row hg (by decide) (by decide)
  have O2 : ∀ y ∈ ts, Cr w.heap.size w2 (.slice y.ro y.n y.rc) y.rs := fun y hy => (V1.own y hy).1.grow V1.row hg (by decide) (by decide)
  have V2 : Cv w.heap.size w2 v' (ts ++ [t]) := ⟨by rw [List.length_append, List.length_singleton, h.len]; exact ho, fun y hy => by
    rcases List.mem_append.1 hy with hy | hy
    · exact ⟨O2 y hy, (h.cv.own y hy).2⟩
    · obtain rfl := List.mem_singleton.1 hy
      exact ⟨C2, hn⟩⟩
  have e5 : (c.set 5 v)[5]? = some v := by rw [List.getElem?_set_self (by omega)]
  refine ⟨⟨?_, X2.next (grown_set _ _ _ _) S2.q2 (by decide) (by decide), V2.nextT (grown_set _ _ _ _) S2.q2 (by decide) (by decide) (by decide), by simp [h.len], fun i y z hy hz => ?_⟩, blk_cell S2.q2 e5, block_free S2.q2 5⟩
  · have := S2.set 5 v'
    rw [List.set_set] at this
    exact this
  · by_cases hi : i < k
    · rw [List.getElem?_append_left (by rw [h.len]; exact hi)] at hy
      exact h.like i y z hy hz
    · have hlt := (List.getElem?_eq_some_iff.1 hy).1
      rw [List.length_append, List.length_singleton, h.len] at hlt
      obtain rfl : i = k := by omega
      rw [List.getElem?_append_right (by rw [h.len]; omega), h.len, Nat.sub_self] at hy
      cases hy
      rw [hs] at hz
      cases hz
      exact hl

/-- Between two hashes of the copying. -/
structure Pl (w : World) (cs d : List Value) (bc : Nat) (x : Mg) (v : Value) (ts : List Vi) (hs : List (List Nat)) (k : Nat) (p : Value) (W : World) : Prop where
  s : S3 w cs bc (d.set 48 p) W
  cx : Cx w.heap.size W x
  cv : Cv w.heap.size W v ts
  row : W.ownsRow w.heap.size 33 32 p k (hhcells (hs.take k))
theorem Pl.quiet {w : World} {cs d : List Value} {bc : Nat} {x : Mg} {v : Value} {ts : List Vi} {hs : List (List Nat)} {k : Nat} {p : Value} {W W' : World} (h : Pl w cs d bc x v ts hs k p W) (hg : W.grownBy W' none) : Pl w cs d bc x v ts hs k p W' :=
  ⟨h.s.next hg, h.cx.quiet hg, h.cv.quiet hg, row_quiet h.row hg⟩
theorem Pl.next {w : World} {cs d : List Value} {bc : Nat} {x : Mg} {v : Value} {ts : List Vi} {hs : List (List Nat)} {k : Nat} {p : Value} {wr : World} (h : Pl w cs d bc x v ts hs k p wr) (hd : d.length = 49) {t : List Nat} (ht : hs[k]? = some t) {o2 : Obj} {w1 w2 : World} {p' : Value} {ys : List Value} (h1 : wr.grownBy w1 none) (hy : vals t = ys) (ho : w2.ownsRow w.heap.size 33 32 p' (k + 1) (hhcells (hs.take k) ++ ys)) (hg : (w1.alloc o2).grownBy w2 p.ownBlock) :
    Pl w cs d bc x v ts hs (k + 1) p' (w2.setCell ⟨bc, 48, none⟩ p') ∧ w2.cell? ⟨bc, 48, none⟩ = some p ∧ w2.frozen? ⟨bc, 48, none⟩ = false := by
  have h2 := (h.quiet h1).quiet (World.grownBy_alloc w1 o2 none)
  have S2 := h2.s.grow h2.row hg (by decide)
  have X2 := h2.cx.grow h2.row hg (by decide) (by decide)
  have V2 := h2.cv.grow h2.row hg (by decide) (by decide) (by decide)
  have e48 : (d.set 48 p)[48]? = some p := by rw [List.getElem?_set_self (by omega)]
  have er : hhcells (hs.take (k + 1)) = hhcells (hs.take k) ++ ys := by rw [List.take_add_one, ht, ← hy]; exact hhcells_snoc _ _
  refine ⟨⟨?_, X2.next (grown_set _ _ _ _) S2.q2 (by decide) (by decide), V2.nextT (grown_set _ _ _ _) S2.q2 (by decide) (by decide) (by decide), ?_⟩, blk_cell S2.q2 e48, block_free S2.q2 48⟩
  · have := S2.set 48 p'
    rw [List.set_set] at this
    exact this
  · rw [er]
    exact ho.kept (grown_set _ _ _ _) (.inr (row_ne ho S2.q2 (by decide)))
/-- The boxes and parts behind the copying, once the result is stored too. -/
theorem Pl.done {w : World} {cs d : List Value} {bc : Nat} {x : Mg} {v : Value} {ts : List Vi} {hs : List (List Nat)} {k : Nat} {p : Value} {W : World} (h : Pl w cs d bc x v ts hs k p W) (L : List Value) : Cx w.heap.size (W.setCells (w.heap.size + 1) 0 L) x ∧ Cv w.heap.size (W.setCells (w.heap.size + 1) 0 L) v ts ∧ (W.setCells (w.heap.size + 1) 0 L).ownsRow w.heap.size 33 32 p k (hhcells (hs.take k)) ∧ Below w.heap.size w (W.setCells (w.heap.size + 1) 0 L) := by
  obtain ⟨Z, z1, z2⟩ := h.s.q1
  have key : ∀ (L : List Value) (o : Nat) (W : World) (Z : Array Value), W.heap[w.heap.size + 1]? = some (.cells Z 36 (0, 0)) → Cx w.heap.size W x → Cv w.heap.size W v ts → W.ownsRow w.heap.size 33 32 p k (hhcells (hs.take k)) → Cx w.heap.size (W.setCells (w.heap.size + 1) o L) x ∧ Cv w.heap.size (W.setCells (w.heap.size + 1) o L) v ts ∧ (W.setCells (w.heap.size + 1) o L).ownsRow w.heap.size 33 32 p k (hhcells (hs.take k)) := by
    intro L
    induction L with
    | nil => exact fun o W Z _ a b c => ⟨a, b, c⟩
    | cons u r ih =>
      intro o W Z hz a b c
      have g := grown_set W (w.heap.size + 1) o u
      exact ih (o + 1) _ _ (heap_setCell_same W (w.heap.size + 1) o _ _ u hz) (a.next g hz (by decide) (by decide)) (b.nextT g hz (by decide) (by decide) (by decide)) (c.kept g (.inr (row_ne c hz (by decide))))
  obtain ⟨a, b, c⟩ := key L 0 W Z z1 h.cx h.cv h.row
  exact ⟨a, b, c, h.s.done L⟩
end Go.Proofs.YtldhafpeigdloaaGreatDoor
namespace Go.Proofs.YtldhafpeigdloaaGreatDoor
open Go.RowKit Crc

/-- The copy of a message. -/
structure Copied (w : World) (m x : Mg) (W : World) : Prop where
  ok : x.Ok W.heap.size W
  co : x.Co W.heap.size
  mv : x.mv = m.mv
  kind : x.kind = m.kind
  pos : x.pos ↔ m.pos
  bel : Below w.heap.size w W
theorem lent_lt {W : World} {g n : Nat} {C : List Nat} (h : Lent W g n C) : g < W.heap.size := by
  rcases h.2.2 with ⟨h, _⟩ | ⟨g', cap', cur', h1, _, hg', _⟩
  · cases h
  · cases h1; exact block_lt hg'
/-- The message that copyMsg hands out. -/
def Mg.cp (x : Mg) (v : Value) (ts : List Vi) (p : Value) : Mg := { x with vo := slAddr v, vn := ts.length, vc := slCap v, vs := ts, vb := slBlk v, voff := 0, po := slAddr p, pn := x.hs.length, pc := slCap p, pb := slBlk p, poff := 0 }
def Mg.c0 (m : Mg) (co : Option Addr) (cc : Nat) (rs1 : List Rq) (g1 g2 : Nat) : Mg := { m with ro := co, rc := cc, rs := rs1, b := slBlk (.slice co m.n cc), off := 0, co := some ⟨g1, 0, none⟩, cc := m.cn + 4, do_ := some ⟨g2, 0, none⟩, dc := m.dn + 4 }
theorem Mg.set48 {m : Mg} (h : m.root.length = 32) (u : Value) : m.R.set 48 u = m.pre ++ (vals m.root ++ [u]) := by
  unfold Mg.R
  rw [List.set_append_right _ _ (by simp [Mg.pre]), List.set_append_right _ _ (by simp [Mg.pre, vals_len, h])]
  simp [Mg.pre, vals_len, h]
theorem Mg.cp_R {x : Mg} {v p : Value} {ts : List Vi} (h : x.root.length = 32) (hv : v = .slice (slAddr v) ts.length (slCap v)) (hp : p = .slice (slAddr p) x.hs.length (slCap p)) : (x.R.set 5 v).set 48 p = (x.cp v ts p).R := by
  have e : x.R.set 5 v = ({ x with vo := slAddr v, vn := ts.length, vc := slCap v } : Mg).R := by rw [hv]; rfl
  rw [e, Mg.set48 (m := { x with vo := slAddr v, vn := ts.length, vc := slCap v }) h, hp]
  rfl
theorem vi_like_vv {t s : Vi} (h : t.like s) : t.vv = s.vv := by
  unfold Vi.vv
  rw [h.slot, h.num, h.node, h.st, h.rs]
theorem copied_of {w W : World} {lim : Nat} {m : Mg} {w0 : World} {co : Option Addr} {cc g1 g2 : Nat} {rs1 : List Rq} {v p : Value} {ts : List Vi} (hm : m.Ok lim w0) (hv1 : rs1.map Rq.val = m.rs.map Rq.val) (hx : Cx w.heap.size W (m.c0 co cc rs1 g1 g2)) (hv : Cv w.heap.size W v ts) (hl : ts.length = m.vs.length) (hk : ∀ (i : Nat) (t s : Vi), ts[i]? = some t → m.vs[i]? = some s → t.like s) (hp : W.ownsRow w.heap.size 33 32 p m.hs.length (hhcells m.hs)) (hb : Below w.heap.size w W) :
    Copied w m ((m.c0 co cc rs1 g1 g2).cp v ts p) W ∧ v = .slice (slAddr v) ts.length (slCap v) ∧ p = .slice (slAddr p) m.hs.length (slCap p) := by
  obtain ⟨v1, v2, v3, v4, v5⟩ := row_form hv.row (vicells_len ts)
  obtain ⟨p1, p2, p3, p4, p5⟩ := row_form hp (hcells_len m.hs (fun x h => (hm.hP.len x h).1))
  obtain ⟨a, a1, a2, a3⟩ := hx.lc
  obtain ⟨b, b1, b2, b3⟩ := hx.ld
  cases a1
  cases b1
  have hcn := hx.crn
  have hcn : rs1.length = m.n := hcn
  have o := hx.cr.own
  have hvv : ts.map Vi.vv = m.vs.map Vi.vv := by
    refine List.ext_getElem? (fun i => ?_)
    rw [List.getElem?_map, List.getElem?_map]
    by_cases hi : i < ts.length
    · have e1 := List.getElem?_eq_getElem hi
      have e2 := List.getElem?_eq_getElem (l := m.vs) (i := i) (by omega)
      rw [e1, e2]
      simp only [Option.map_some, vi_like_vv (hk i _ _ e1 e2)]
    · rw [List.getElem?_eq_none (by omega), List.getElem?_eq_none (by omega)]
  refine ⟨⟨⟨hm.hnum, hm.hslot, hm.hlow, hm.hst, hm.hseq, hm.hstamp, hm.hidx, hm.hcnt, hm.hcode, ?_, rfl, ?_, hcn, ?_, ?_, hm.rl, hm.rb, ?_, rfl⟩, ⟨?_, o.2, ?_, ?_⟩, ?_, rfl, ?_, hb⟩, v1, p1⟩
  · refine ⟨v2, v3, ?_, fun i t ht j u hu => ?_, fun t ht => ?_⟩
    · show ts.length ≤ _
      rw [hl]
      exact hm.hV.le
    · have hf := flat_at (s := 5) (ts.map Vi.cells) i t.cells (fun x hx => by obtain ⟨y, _, rfl⟩ := List.mem_map.1 hx; rfl) (by rw [List.getElem?_map]; exact congrArg (Option.map Vi.cells) ht) j u hu
      have := v4 (i * 5 + j) u hf
      rw [Nat.zero_add] at this
      show W.cell? ⟨slBlk v, 0 + i * 5 + j, none⟩ = some u
      rw [Nat.zero_add]
      exact this
    · obtain ⟨c1, c2⟩ := hv.own t ht
      have r := c1.own.1.rqs.2
      refine ⟨c2.slot, c2.num, c2.st, ?_, c2.n⟩
      rw [c2.b, c2.off]
      exact r
  · exact o.1.rqs.2
  · exact a3.shows hm.hC.2.2.2.1 hm.hC.2.2.1
  · exact b3.shows hm.hD.2.2.2.1 hm.hD.2.2.1
  · refine ⟨p2, p3, hm.hP.le, hm.hP.len, fun i x hx j u hu => ?_⟩
    have hf := flat_at (s := 32) (m.hs.map vals) i (vals x) (fun y hy => by obtain ⟨z, hz, rfl⟩ := List.mem_map.1 hy; rw [vals_len]; exact (hm.hP.len z hz).1) (by rw [List.getElem?_map]; exact congrArg (Option.map vals) hx) j u hu
    have := p4 (i * 32 + j) u hf
    rw [Nat.zero_add] at this
    show W.cell? ⟨slBlk p, 0 + i * 32 + j, none⟩ = some u
    rw [Nat.zero_add]
    exact this
  · exact fun t ht => (hv.own t ht).1.own.2
  · intro b off e
    cases e
    exact lent_lt a3
  · intro b off e
    cases e
    exact lent_lt b3
  · show (⟨m.num, m.node.toNat, m.slot, m.low, ts.map Vi.vv, m.st, rs1.map Rq.val, m.seq, m.stamp, m.code, m.C, m.D, m.sus, m.idx, m.cnt, m.root, m.hs⟩ : Mv) = m.mv
    rw [hvv, hv1]
    rfl
  · show (0 ≤ m.node ∧ ∀ t ∈ ts, 0 ≤ t.node) ↔ (0 ≤ m.node ∧ ∀ t ∈ m.vs, 0 ≤ t.node)
    refine and_congr_right (fun _ => ⟨fun h t ht => ?_, fun h t ht => ?_⟩)
    · obtain ⟨i, hi⟩ := List.getElem?_of_mem ht
      have hlt := (List.getElem?_eq_some_iff.1 hi).1
      have e := List.getElem?_eq_getElem (l := ts) (i := i) (by omega)
      rw [← (hk i _ _ e hi).node]
      exact h _ (List.getElem_mem _)
    · obtain ⟨i, hi⟩ := List.getElem?_of_mem ht
      have hlt := (List.getElem?_eq_some_iff.1 hi).1
      have e := List.getElem?_eq_getElem (l := m.vs) (i := i) (by omega)
      rw [(hk i _ _ hi e).node]
      exact h _ (List.getElem_mem _)
end Go.Proofs.YtldhafpeigdloaaGreatDoor
namespace Go.Proofs.YtldhafpeigdloaaGreatDoor
open Go.RowKit Crc

theorem copyBC {W : World} (st : Nat) {ro : Option Addr} {rs : List Rq} {b off : Nat} (rc n : Nat) (hn : rs.length = n) (h : Rqs W.heap.size W ro rs b off) :
    Calls Tryz.prog 18 #[.agg #[.int .u64 (st : Int), .slice ro n rc]] W fun e w' => ∃ co cc, e = .returned (.agg #[.int .u64 (st : Int), .slice co n cc]) ∧ Hid (∃ rs1, rs1.length = n ∧ Cr W.heap.size w' (.slice co n cc) rs1 ∧ rs1.map Rq.val = rs.map Rq.val ∧ Below W.heap.size W w') := by
  have h1 := copyBatch_any st rc h
  rw [hn] at h1
  refine h1.mono ?_
  rintro e w' ⟨v, rs1, rfl, H⟩
  obtain ⟨h1, h2, h3, h4, h5⟩ := H.out
  obtain ⟨co, cc, b1, rfl, hr⟩ := h1.form
  have e1 : rs1.length = n := by have := congrArg List.length h2; simp at this; omega
  have hnum : ∀ r ∈ rs1, r.num := fun r hx => by
    obtain ⟨k1, k2, k3⟩ := h1.ok r hx
    exact ⟨k1, k2, k3.2.2.2.1, k3.2.2.1⟩
  have hc : Cr W.heap.size w' (.slice co rs1.length cc) rs1 := ⟨h1.row, h3, hnum, h1.le⟩
  rw [e1] at hc ⊢
  exact ⟨co, cc, rfl, rs1, e1, hc, h2, h5⟩
theorem lendC {W : World} {do_ : Option Addr} {m dc : Nat} {D : List Nat} (hd : Shows W.heap.size W do_ m dc D) :
    Calls Tryz.prog 9 #[.slice do_ m dc] W fun e w' => e = .returned (.slice (some ⟨W.heap.size, 0, none⟩) m (m + 4)) ∧ Hid (Lent w' W.heap.size m D ∧ Below W.heap.size W w') := by
  obtain ⟨p1, p2, p3, p4, b, off, p5, p6, p7⟩ := hd
  exact (lend_any b off do_ D m dc W p5 p1 p3 p6 p7).mono (fun _ _ g => ⟨g.1, ⟨p1, g.2.1⟩, g.2.2⟩)
theorem infoVoteC : (Tryz.prog.info? 66).map (fun i => (i.zero, i.size, i.bytes)) = some (some (.agg #[.int .u64 0, .int .u64 0, .int .i64 0, .int .u64 0, .slice none 0 0]), 5, 56) := by kernel_rfl

theorem step_load_mid {P : Program} {ops : Array Oper} {op : Oper} {a : Act} {w : World} {K : Act → World → Prop} {Q : Exit → Act → World → Prop} {E : Prop} (hgd : op.guard = none) (ty : TypeId) (x : Operand) (ho : op.op = .load ty x)
    (b o : Nat) (hx : a.eval x = .pointer (some ⟨b, o, none⟩)) (cs : List Value) (d : TypeDesc) (hc : w.rangeAt b o cs)
    (hu : P.underlying ty = some d) (hd : d.isRow = true) (hi : (P.info? ty).map (·.size) = some cs.length)
    (h : K (a.put op.dst (.agg cs.toArray)) w) : if Region.wanted op (yielded ops a.tmps) = true then Oper.wp P op a w K Q else E := by
  have hw : Region.wanted op (yielded ops a.tmps) = true := by simp [Region.wanted, hgd]
  rw [if_pos hw]
  exact wp_load_mid ty x ho b o hx cs d hc hu hd hi h

set_option maxRecDepth 10000 in
set_option maxHeartbeats 1600000 in
theorem copyMsg_any {w : World} (m : Mg) (hm : m.Ok w.heap.size w) : Calls Tryz.prog 6 #[.agg m.R.toArray] w fun e w' => ∃ x : Mg, e = .returned (.agg x.R.toArray) ∧ Hid (Copied w m x w') := by
  obtain ⟨i0, hi0, hz0, hz1, hz2⟩ := info_parts infoVoteC
  have HM := hide hm
  have HL : Hid (m.R.length = 49) := Mg.len hm.rl
  have HON := hide m.one
  have HRG : Hid (∀ W1 : World, ∀ Z : Array Value, (w.alloc (.cells m.R.toArray 36)).alloc (.cells Z 36) = W1 → W1.rangeAt w.heap.size 0 m.R) := fun W1 Z h => by
    rw [← h]
    exact blk_range (((World.grownBy_alloc _ _ none).block _ (by simp) (by simp)).trans (alloc_at w _))
  have HX5 : Hid (m.R[5]? = some (.slice m.vo m.vn m.vc)) := rfl
  have HX6 : Hid (m.R[6]? = some (.int .u64 (m.st : Int))) := rfl
  have HX7 : Hid (m.R[7]? = some (.slice m.ro m.n m.rc)) := rfl
  have HX11 : Hid (m.R[11]? = some (.slice m.co m.cn m.cc)) := rfl
  have HX12 : Hid (m.R[12]? = some (.slice m.do_ m.dn m.dc)) := rfl
  have HX48 : Hid (m.R[48]? = some (.slice m.po m.pn m.pc)) := Mg.at48 hm.rl
  have HC0 : Hid (∀ (co : Option Addr) (cc : Nat) (rs1 : List Rq) (g1 g2 : Nat), (((m.R.set 6 (.int .u64 (m.st : Int))).set 7 (.slice co m.n cc)).set 11 (.slice (some ⟨g1, 0, none⟩) m.cn (m.cn + 4))).set 12 (.slice (some ⟨g2, 0, none⟩) m.dn (m.dn + 4)) = (m.c0 co cc rs1 g1 g2).R) := fun _ _ _ _ _ => rfl
  have HCB : Hid (∀ W : World, Below w.heap.size w W → Calls Tryz.prog 18 #[.agg #[.int .u64 (m.st : Int), .slice m.ro m.n m.rc]] W fun e w' => ∃ co cc, e = .returned (.agg #[.int .u64 (m.st : Int), .slice co m.n cc]) ∧ Hid (∃ rs1, rs1.length = m.n ∧ Cr W.heap.size w' (.slice co m.n cc) rs1 ∧ rs1.map Rq.val = m.rs.map Rq.val ∧ Below W.heap.size W w')) := fun W hb => copyBC m.st m.rc m.n hm.hn ((hm.hR.below hb).wide hb.size)
  have HLC : Hid (∀ W : World, Below w.heap.size w W → Shows W.heap.size W m.co m.cn m.cc m.C) := fun W hb => (hm.hC.belowL hb).wide hb.size
  have HLD : Hid (∀ W : World, Below w.heap.size w W → Shows W.heap.size W m.do_ m.dn m.dc m.D) := fun W hb => (hm.hD.belowL hb).wide hb.size
  have HVS := hide hm.hV
  have HVN := hide hm.hvn
  clear hm
  generalize m.R = cs at *
  have HSZ : Hid ((Tryz.prog.info? 36).map (·.size) = some cs.length) := by show _ = _; rw [HL.out]; kernel_rfl
  go_enter Tryz.func6, Tryz.ntmps6
  go_upto_region 1 with fail
  generalize hW1 : World.alloc (World.alloc w _) _ = W1
  obtain ⟨Z, hZ, hZ1⟩ : ∃ Z : Array Value, Z.size = 49 ∧ (w.alloc (.cells cs.toArray 36)).alloc (.cells Z 36) = W1 := ⟨_, by rfl, hW1⟩
  have RG1 := hide (HRG.out W1 Z hZ1)
  have HW1 := hide (And.intro hZ hZ1)
  clear hZ hZ1 hW1 HRG
  go_step
  refine wpList_load_mid rfl 36 _ rfl w.heap.size 0 rfl cs _ RG1.out Tryz.underlying36 rfl HSZ.out ?_
  simp only [Act.put, List.setIfInBounds_toArray, List.set_cons_zero, List.set_cons_succ]
  iterate 3 go_step
  refine wpList_store_box rfl 36 _ _ rfl cs rfl rfl (by rw [HL.out]; rfl) HSZ.out HON.out ?_
  intro W3 g3 rb3
  have S3N := hide (s3_new w cs Z HW1.out.1 W1 W3 HW1.out.2 g3 rb3)
  clear g3 rb3 HW1 RG1
  generalize W1.heap.size = bc at *
  simp only [Act.put]
  -- the batch
  have z6 := blk_cell S3N.out.q0 HX6.out
  have z7 := blk_cell S3N.out.q0 HX7.out
  have hlt0 := block_lt S3N.out.q0
  go_wp2_with fail
  refine (HCB.out W3 S3N.out.bel).mono ?_
  rintro e w4 ⟨co, cc, rfl, G4⟩
  clear z6 z7 hlt0
  obtain ⟨rs1, l1, c1, v1, b4⟩ := G4.out
  have S4 := hide (S3N.out.next (below_none b4))
  have C4 : Hid (Cr w.heap.size w4 (.slice co m.n cc) rs1) := c1.lower S3N.out.bel.size
  have HV1 := hide (And.intro l1 v1)
  clear l1 c1 v1 b4 G4 S3N HCB
  have y6 := blk_cell S4.out.q2 HX6.out
  have y7 := blk_cell S4.out.q2 HX7.out
  have f6 := block_free S4.out.q2 6
  have f7 := block_free S4.out.q2 7
  have hlt4 := block_lt S4.out.q2
  have hlt0 := block_lt S4.out.q0
  have z11 := blk_cell S4.out.q0 HX11.out
  have hne : w.heap.size ≠ bc := by have := S4.out.ne; omega
  have hne' : ¬ bc = w.heap.size := fun e => hne e.symm
  obtain ⟨X, hX⟩ : ∃ X, (w4.setCell ⟨bc, 6, none⟩ (.int .u64 (m.st : Int))).setCell ⟨bc, 7, none⟩ (.slice co m.n cc) = X := ⟨_, rfl⟩
  have SX : Hid (S3 w cs bc ((cs.set 6 (.int .u64 (m.st : Int))).set 7 (.slice co m.n cc)) X) := by
    have h := (S4.out.set 6 (.int .u64 (m.st : Int))).set 7 (.slice co m.n cc)
    rw [hX] at h
    exact h
  have CX : Hid (Cr w.heap.size X (.slice co m.n cc) rs1) := by
    have h := (C4.out.next (grown_set w4 bc 6 (.int .u64 (m.st : Int))) S4.out.q2 (by decide) (by decide)).next (grown_set _ bc 7 (.slice co m.n cc)) (S4.out.set 6 (.int .u64 (m.st : Int))).q2 (by decide) (by decide)
    rw [hX] at h
    exact h
  have HX := hide hX
  clear hX C4
  go_wp2_with fail
  refine Calls.atW HX.out ?_
  clear HX y6 y7 f6 f7 hlt4 hlt0 z11 S4
  refine (lendC (HLC.out X SX.out.bel)).mono ?_
  rintro e w7 ⟨rfl, G7⟩
  have gq := below_none G7.out.2
  have S7 := hide (SX.out.next gq)
  have C7 := hide (CX.out.quiet gq)
  have L7 := hide G7.out.1
  clear G7 gq SX CX HLC
  generalize X.heap.size = g1 at *
  have HY11 : Hid (((cs.set 6 (.int .u64 (m.st : Int))).set 7 (.slice co m.n cc))[11]? = some (.slice m.co m.cn m.cc)) := by show _ = _; rw [List.getElem?_set_ne (by decide), List.getElem?_set_ne (by decide)]; exact HX11.out
  have y11 := blk_cell S7.out.q2 HY11.out
  have f11 := block_free S7.out.q2 11
  have hlt7 := block_lt S7.out.q2
  have hlt0 := block_lt S7.out.q0
  have z12 := blk_cell S7.out.q0 HX12.out
  obtain ⟨Y, hY⟩ : ∃ Y, w7.setCell ⟨bc, 11, none⟩ (.slice (some ⟨g1, 0, none⟩) m.cn (m.cn + 4)) = Y := ⟨_, rfl⟩
  have SY : Hid (S3 w cs bc (((cs.set 6 (.int .u64 (m.st : Int))).set 7 (.slice co m.n cc)).set 11 (.slice (some ⟨g1, 0, none⟩) m.cn (m.cn + 4))) Y) := by
    have h := S7.out.set 11 (.slice (some ⟨g1, 0, none⟩) m.cn (m.cn + 4))
    rw [hY] at h
    exact h
  have CY : Hid (Cr w.heap.size Y (.slice co m.n cc) rs1) := by
    have h := C7.out.next (grown_set w7 bc 11 (.slice (some ⟨g1, 0, none⟩) m.cn (m.cn + 4))) S7.out.q2 (by decide) (by decide)
    rw [hY] at h
    exact h
  have LY : Hid (Lent Y g1 m.cn m.C) := by
    have h := L7.out.nextT (grown_set w7 bc 11 (.slice (some ⟨g1, 0, none⟩) m.cn (m.cn + 4))) S7.out.q2 (by decide)
    rw [hY] at h
    exact h
  have HY := hide hY
  clear hY C7 L7
  go_wp2_with fail
  refine Calls.atW HY.out ?_
  clear HY y11 f11 hlt7 hlt0 z12 S7 HY11
  refine (lendC (HLD.out Y SY.out.bel)).mono ?_
  rintro e w8 ⟨rfl, G8⟩
  have gq := below_none G8.out.2
  have S8 := hide (SY.out.next gq)
  have C8 := hide (CY.out.quiet gq)
  have L8 := hide (lent_quiet LY.out gq)
  have M8 := hide G8.out.1
  clear G8 gq SY CY LY HLD
  generalize Y.heap.size = g2 at *
  have HY12 : Hid ((((cs.set 6 (.int .u64 (m.st : Int))).set 7 (.slice co m.n cc)).set 11 (.slice (some ⟨g1, 0, none⟩) m.cn (m.cn + 4)))[12]? = some (.slice m.do_ m.dn m.dc)) := by show _ = _; rw [List.getElem?_set_ne (by decide), List.getElem?_set_ne (by decide), List.getElem?_set_ne (by decide)]; exact HX12.out
  have HY5 : Hid ((((cs.set 6 (.int .u64 (m.st : Int))).set 7 (.slice co m.n cc)).set 11 (.slice (some ⟨g1, 0, none⟩) m.cn (m.cn + 4)))[5]? = some (.slice m.vo m.vn m.vc)) := by show _ = _; rw [List.getElem?_set_ne (by decide), List.getElem?_set_ne (by decide), List.getElem?_set_ne (by decide)]; exact HX5.out
  have y12 := blk_cell S8.out.q2 HY12.out
  have f12 := block_free S8.out.q2 12
  have y5 := blk_cell S8.out.q2 HY5.out
  have f5 := block_free S8.out.q2 5
  have hlt8 := block_lt S8.out.q2
  obtain ⟨V, hV⟩ : ∃ V, (w8.setCell ⟨bc, 12, none⟩ (.slice (some ⟨g2, 0, none⟩) m.dn (m.dn + 4))).setCell ⟨bc, 5, none⟩ (.slice none 0 0) = V := ⟨_, rfl⟩
  have VL : Hid (Vl w cs (m.c0 co cc rs1 g1 g2).R bc (m.c0 co cc rs1 g1 g2) m.vs 0 (.slice none 0 0) [] V) := by
    have h := S8.out.set 12 (.slice (some ⟨g2, 0, none⟩) m.dn (m.dn + 4))
    rw [HC0.out co cc rs1 g1 g2] at h
    have gs1 := grown_set w8 bc 12 (.slice (some ⟨g2, 0, none⟩) m.dn (m.dn + 4))
    have gs2 := grown_set (w8.setCell ⟨bc, 12, none⟩ (.slice (some ⟨g2, 0, none⟩) m.dn (m.dn + 4))) bc 5 (.slice none 0 0)
    have X0 : Cx w.heap.size w8 (m.c0 co cc rs1 g1 g2) := ⟨C8.out, HV1.out.1, ⟨g1, rfl, rfl, L8.out⟩, ⟨g2, rfl, rfl, M8.out⟩⟩
    have X1 := (X0.next gs1 S8.out.q2 (by decide) (by decide)).next gs2 h.q2 (by decide) (by decide)
    rw [← hV]
    exact ⟨h.set 5 _, X1, ⟨World.ownsRow_nil _ _ _ _, fun t ht => (by cases ht)⟩, rfl, fun i t s ht => by simp at ht⟩
  have HVV := hide hV
  have HCL : Hid ((m.c0 co cc rs1 g1 g2).R.length = 49) := Mg.len HM.out.rl
  clear hV C8 L8 M8 HC0
  generalize hc : (m.c0 co cc rs1 g1 g2).R = c at *
  have HCC := hide hc
  clear hc
  go_wp2
  rw [HVV.out]
  clear HVV y12 f12 y5 f5 hlt8 S8 HY12 HY5
  go_loopw [4] (fun i wr => ∃ k : Nat, k ≤ m.vs.length ∧ i = .int .i64 k ∧ Hid (∃ v ts, Vl w cs c bc (m.c0 co cc rs1 g1 g2) m.vs k v ts wr)) (fun i _ => m.vs.length - (intOf i).toNat)
  case atStart => exact ⟨0, by omega, rfl, _, _, VL.out⟩
  case round =>
    obtain ⟨k, hk, rfl, HS⟩ := hrel
    obtain ⟨v, ts, hvl⟩ := HS.out
    have VLR := hide hvl
    have hvn := HVN.out
    have hle := HVS.out.le
    have z5 := blk_cell hvl.s.q0 HX5.out
    have hl0 := block_lt hvl.s.q0
    have hlb := block_lt hvl.s.q2
    have HNB : Hid (w.heap.size + 1 < bc) := hvl.s.ne
    clear hvl HS VL
    by_cases hlt : k < m.vs.length
    · obtain ⟨s, gs, -, oks, hbl, had, c0, c1, c2, c3, c4⟩ := (HVS.out.below VLR.out.s.bel).get hlt
      rw [had] at z5
      have HCP : Hid (∀ o, Calls Tryz.prog 18 #[.agg #[.int .u64 (s.st : Int), .slice s.ro s.n s.rc]] (wr.alloc o) fun e w' => ∃ co cc, e = .returned (.agg #[.int .u64 (s.st : Int), .slice co s.n cc]) ∧ Hid (∃ rs1, rs1.length = s.n ∧ Cr (wr.heap.size + 1) w' (.slice co s.n cc) rs1 ∧ rs1.map Rq.val = s.rs.map Rq.val ∧ Below (wr.heap.size + 1) (wr.alloc o) w')) := fun o => by
        have h := copyBC (W := wr.alloc o) s.st s.rc s.n oks.hn ((oks.hR.below ((below_alloc1 wr o).mono VLR.out.s.bel.size)).wide (Nat.le_trans VLR.out.s.bel.size (by simp)))
        rw [show (wr.alloc o).heap.size = wr.heap.size + 1 by simp] at h
        exact h
      have hbr : m.vb < wr.heap.size := Nat.lt_of_lt_of_le hbl VLR.out.s.bel.size
      have HOK := hide oks
      have HGS := hide gs
      have HAD := hide had
      clear oks gs had hbl
      obtain ⟨slot, num, node, st, ro, n, rc, rs, sb, soff⟩ := s
      simp only at c0 c1 c2 c3 c4 HCP
      go_wp2_with fail
      refine (HCP.out _).mono ?_
      rintro e w1 ⟨co1, cc1, rfl, G1⟩
      obtain ⟨rs2, l2, c5, v2, b1⟩ := G1.out
      have hq : w1.heap[wr.heap.size]? = some (.cells #[.int .u64 (slot : Int), .int .u64 (num : Int), .int .i64 node, .int .u64 (st : Int), .slice ro n rc] 66 (0, 0)) := (b1.block _ (by omega)).trans (alloc_at _ _)
      have q0 := block_cell hq 0
      have q1 := block_cell hq 1
      have q2 := block_cell hq 2
      have q3 := block_cell hq 3
      have q4 := block_cell hq 4
      have f3 := block_free hq 3
      have f4 := block_free hq 4
      simp at q0 q1 q2 q3 q4
      have hA : Below wr.heap.size wr w1 := (below_alloc1 wr _).trans (b1.mono (by omega))
      have S1 := hide (VLR.out.s.next (below_none hA))
      have e5 : (c.set 5 v)[5]? = some v := by rw [List.getElem?_set_self (by rw [HCL.out]; omega)]
      have x5 := blk_cell S1.out.q2 e5
      have HOW : Hid (∀ o, (((w1.setCell ⟨wr.heap.size, 3, none⟩ (.int .u64 (st : Int))).setCell ⟨wr.heap.size, 4, none⟩ (.slice co1 n cc1)).alloc o).ownsRow w.heap.size 66 5 v k (vicells ts)) := fun o => by
        have r1 := row_quiet VLR.out.cv.row (below_none hA)
        have hvq : v.ownBlock ≠ some wr.heap.size := fun e => by have := (VLR.out.cv.row.lt _ e).2; omega
        have r2 := row_quiet ((r1.kept (grown_set w1 wr.heap.size 3 (.int .u64 (st : Int))) (.inr hvq)).kept (grown_set _ wr.heap.size 4 (.slice co1 n cc1)) (.inr hvq)) (World.grownBy_alloc _ o none)
        rw [VLR.out.len] at r2
        exact r2
      have HNW : Hid (∀ (j : Nat) (u : Value), [Value.int .u64 (slot : Int), .int .u64 (num : Int), .int .i64 node, .int .u64 (st : Int), .slice co1 n cc1][j]? = some u → (((w1.setCell ⟨wr.heap.size, 3, none⟩ (.int .u64 (st : Int))).setCell ⟨wr.heap.size, 4, none⟩ (.slice co1 n cc1)).alloc (.cells #[.int .u64 (slot : Int), .int .u64 (num : Int), .int .i64 node, .int .u64 (st : Int), .slice co1 n cc1] 66)).cell? (Addr.add ⟨w1.heap.size, 0, none⟩ j) = some u) := by
        have h := cells_new ((w1.setCell ⟨wr.heap.size, 3, none⟩ (.int .u64 (st : Int))).setCell ⟨wr.heap.size, 4, none⟩ (.slice co1 n cc1)) [.int .u64 (slot : Int), .int .u64 (num : Int), .int .i64 node, .int .u64 (st : Int), .slice co1 n cc1] 66
        rw [show ((w1.setCell ⟨wr.heap.size, 3, none⟩ (.int .u64 (st : Int))).setCell ⟨wr.heap.size, 4, none⟩ (.slice co1 n cc1)).heap.size = w1.heap.size by simp] at h
        exact h
      have HNX : Hid (∀ (v' : Value) (w2 : World) (o2 : Obj), w2.ownsRow w.heap.size 66 5 v' (k + 1) (vicells ts ++ [.int .u64 (slot : Int), .int .u64 (num : Int), .int .i64 node, .int .u64 (st : Int), .slice co1 n cc1]) → (((w1.setCell ⟨wr.heap.size, 3, none⟩ (.int .u64 (st : Int))).setCell ⟨wr.heap.size, 4, none⟩ (.slice co1 n cc1)).alloc o2).grownBy w2 v.ownBlock → (∃ ts', Vl w cs c bc (m.c0 co cc rs1 g1 g2) m.vs (k + 1) v' ts' (w2.setCell ⟨bc, 5, none⟩ v')) ∧ w2.cell? ⟨bc, 5, none⟩ = some v ∧ w2.frozen? ⟨bc, 5, none⟩ = false) := fun v' w2 o2 ho hg => by
        have h := VLR.out.next HCL.out (t := ⟨slot, num, node, st, co1, n, cc1, rs2, slBlk (.slice co1 n cc1), 0⟩) HGS.out ⟨rfl, rfl, rfl, rfl, v2⟩ b1 hq c5 ⟨l2, HOK.out.hslot, HOK.out.hnum, HOK.out.hst, rfl, rfl⟩ (by rw [vicells_snoc]; exact ho) hg
        exact ⟨⟨_, h.1⟩, h.2⟩
      have hs1 : wr.heap.size < w1.heap.size := block_lt hq
      have hbs : bc < w1.heap.size := block_lt S1.out.q2
      have hneq : ¬ wr.heap.size = bc := by omega
      have hneq' : ¬ bc = wr.heap.size := by omega
      have HSZW : Hid (w.heap.size ≤ w1.heap.size) := Nat.le_trans VLR.out.s.bel.size hA.size
      clear hq hA e5 l2 c5 v2 b1 G1 z5 c0 c1 c2 c3 c4 S1
      go_upto_region 11 with fail
      go_step
      iterate 12 go_step
      refine wpList_append_own_wide _ rfl (.tmp 38) (.tmp 40) 26 rfl w.heap.size 66 i0 (.agg #[.int .u64 0, .int .u64 0, .int .i64 0, .int .u64 0, .slice none 0 0]) 5 56 Tryz.underlying26 hi0 hz0 hz1 hz2 rfl (by decide) v k (vicells ts) rfl (HOW.out _) ⟨w1.heap.size, 0, none⟩ 1 1 [.int .u64 (slot : Int), .int .u64 (num : Int), .int .i64 node, .int .u64 (st : Int), .slice co1 n cc1] rfl rfl HNW.out (by simp [Value.oneCell']) (by unfold maxLen; omega) (by omega) (by have := HSZW.out; simp; omega) ?_
      intro v' w2 ho hg _
      obtain ⟨g', cap', rfl⟩ := ownsRow_succ ho
      obtain ⟨hcp2, y1, y2⟩ := HNX.out _ _ _ ho hg
      have HC2 := hide hcp2
      clear hcp2 ho hg
      simp only [Act.put]
      go_wp2
      go_roundw
      case rel =>
        obtain ⟨ts', h⟩ := HC2.out
        exact ⟨k + 1, by omega, by go_num, _, _, h⟩
      case measure => simp [intOf]; omega
    · obtain rfl : k = m.vs.length := by omega
      clear hlt hk
      have e48 : (c.set 5 v)[48]? = some (.slice m.po m.pn m.pc) := by
        rw [List.getElem?_set_ne (by decide), ← HCC.out]
        exact Mg.at48 (m := m.c0 co cc rs1 g1 g2) HM.out.rl
      have y48 := blk_cell VLR.out.s.q2 e48
      have f48 := block_free VLR.out.s.q2 48
      have PL0 : Hid (Pl w cs (c.set 5 v) bc (m.c0 co cc rs1 g1 g2) v ts m.hs 0 (.slice none 0 0) (wr.setCell ⟨bc, 48, none⟩ (.slice none 0 0))) := by
        have g := grown_set wr bc 48 (.slice none 0 0)
        exact ⟨VLR.out.s.set 48 _, VLR.out.cx.next g VLR.out.s.q2 (by decide) (by decide), VLR.out.cv.nextT g VLR.out.s.q2 (by decide) (by decide) (by decide), World.ownsRow_nil _ _ _ _⟩
      have HVL : Hid (ts.length = m.vs.length ∧ ∀ (i : Nat) (t s : Vi), ts[i]? = some t → m.vs[i]? = some s → t.like s) := ⟨VLR.out.len, VLR.out.like⟩
      have HDL : Hid ((c.set 5 v).length = 49) := by show _ = _; rw [List.length_set]; exact HCL.out
      have HDD : Hid (c.set 5 v = (m.c0 co cc rs1 g1 g2).R.set 5 v) := by show _ = _; rw [HCC.out]
      clear e48 VLR HCC HCL
      generalize c.set 5 v = d at *
      go_wp2
      clear z5 y48 f48 hl0 hlb hvn hle
      go_loopw [6] (fun i wr => ∃ k : Nat, k ≤ m.hs.length ∧ i = .int .i64 k ∧ Hid (∃ p, Pl w cs d bc (m.c0 co cc rs1 g1 g2) v ts m.hs k p wr)) (fun i _ => m.hs.length - (intOf i).toNat)
      case atStart => exact ⟨0, by omega, rfl, _, PL0.out⟩
      case round =>
        obtain ⟨k, hk, rfl, HS⟩ := hrel
        obtain ⟨p, hpl⟩ := HS.out
        have PLR := hide hpl
        have hpn := HM.out.hpn
        have hle := HM.out.hP.le
        have z48 := blk_cell hpl.s.q0 HX48.out
        have hl0 := block_lt hpl.s.q0
        have hlb := block_lt hpl.s.q2
        clear hpl HS PL0
        by_cases hlt : k < m.hs.length
        · obtain ⟨t, gt, -, tl, tb, hbl, had, rg⟩ := (HM.out.hP.below PLR.out.s.bel).get hlt
          obtain ⟨ys, hys⟩ : ∃ ys, vals t = ys := ⟨_, rfl⟩
          rw [hys] at rg
          rw [had] at z48
          have HX48 : Hid (cs[48]? = some (.slice (some ⟨m.pb, m.poff, none⟩) m.pn m.pc)) := by rw [← had]; exact HX48.out
          have HL : Hid (ys.length = 32 ∧ ∀ u ∈ ys, u.oneCell' = true) := by rw [← hys]; exact ⟨by rw [vals_len, tl], vals_one' _⟩
          have HSH : Hid ((Tryz.prog.info? 33).map (·.size) = some ys.length) := by show _ = _; rw [HL.out.1]; kernel_rfl
          have hbr : m.pb < wr.heap.size := Nat.lt_of_lt_of_le hbl PLR.out.s.bel.size
          have HYS := hide hys
          have HBL := hide hbl
          have HGT := hide gt
          have HRG : Hid (∀ w1, wr.grownBy w1 none → w1.rangeAt m.pb (m.poff + k * 32) ys) := fun w1 hg j u hu => (hg.cell (rg j u hu) (by simp))
          have e48 : (d.set 48 p)[48]? = some p := by rw [List.getElem?_set_self (by rw [HDL.out]; omega)]
          have x48 := blk_cell PLR.out.s.q2 e48
          clear hys gt tl tb hbl rg e48
          obtain ⟨a0, a1, a2, a3, a4, a5, a6, a7, a8, a9, a10, a11, a12, a13, a14, a15, a16, a17, a18, a19, a20, a21, a22, a23, a24, a25, a26, a27, a28, a29, a30, a31, hcs⟩ := list32 HL.out.1
          subst hcs
          have HOW : Hid (∀ w1, wr.grownBy w1 none → ∀ o, (w1.alloc o).ownsRow w.heap.size 33 32 p k (hhcells (m.hs.take k))) := fun w1 hg o => row_quiet (row_quiet PLR.out.row hg) (World.grownBy_alloc _ _ none)
          have HSZ2 := hide PLR.out.s.bel.size
          have HNX : Hid (∀ (p' : Value) (w1 w2 : World) (o2 : Obj), wr.grownBy w1 none → w2.ownsRow w.heap.size 33 32 p' (k + 1) (hhcells (m.hs.take k) ++ [a0, a1, a2, a3, a4, a5, a6, a7, a8, a9, a10, a11, a12, a13, a14, a15, a16, a17, a18, a19, a20, a21, a22, a23, a24, a25, a26, a27, a28, a29, a30, a31]) → (w1.alloc o2).grownBy w2 p.ownBlock → Pl w cs d bc (m.c0 co cc rs1 g1 g2) v ts m.hs (k + 1) p' (w2.setCell ⟨bc, 48, none⟩ p') ∧ w2.cell? ⟨bc, 48, none⟩ = some p ∧ w2.frozen? ⟨bc, 48, none⟩ = false) := fun p' w1 w2 o2 h1 ho hg => PLR.out.next HDL.out HGT.out h1 HYS.out ho hg
          obtain ⟨j0, hj0, hk0, hk1, hk2⟩ := info_parts infoHash
          have HZA := hide hk0
          clear hk0
          have K00 : Hid (wr.rangeAt m.pb (m.poff + k * 32) [a0, a1, a2, a3, a4, a5, a6, a7, a8, a9, a10, a11, a12, a13, a14, a15, a16, a17, a18, a19, a20, a21, a22, a23, a24, a25, a26, a27, a28, a29, a30, a31] ∧ wr.cell? ⟨w.heap.size, 48, none⟩ = some (.slice (some ⟨m.pb, m.poff, none⟩) m.pn m.pc)) := ⟨HRG.out _ ⟨rfl, rfl, rfl, Nat.le_refl _, fun _ _ _ => rfl⟩, z48⟩
          have K1 : Hid (∀ o, (wr.drew.alloc o).rangeAt m.pb (m.poff + k * 32) [a0, a1, a2, a3, a4, a5, a6, a7, a8, a9, a10, a11, a12, a13, a14, a15, a16, a17, a18, a19, a20, a21, a22, a23, a24, a25, a26, a27, a28, a29, a30, a31] ∧ (wr.drew.alloc o).cell? ⟨w.heap.size, 48, none⟩ = some (.slice (some ⟨m.pb, m.poff, none⟩) m.pn m.pc)) := fun o => by
            have g := grown_quiet (drew_grown1' wr) (World.grownBy_alloc wr.drew o none)
            exact ⟨HRG.out _ g, g.cell z48 (by simp)⟩
          have HKE : Hid (∀ (w2 : World) (o2 : Obj), (wr.drew.alloc o2).grownBy w2 p.ownBlock → (w2.rangeAt m.pb (m.poff + k * 32) [a0, a1, a2, a3, a4, a5, a6, a7, a8, a9, a10, a11, a12, a13, a14, a15, a16, a17, a18, a19, a20, a21, a22, a23, a24, a25, a26, a27, a28, a29, a30, a31] ∧ w2.cell? ⟨w.heap.size, 48, none⟩ = some (.slice (some ⟨m.pb, m.poff, none⟩) m.pn m.pc)) ∧ ∀ u, ((w2.setCell ⟨bc, 48, none⟩ u).rangeAt m.pb (m.poff + k * 32) [a0, a1, a2, a3, a4, a5, a6, a7, a8, a9, a10, a11, a12, a13, a14, a15, a16, a17, a18, a19, a20, a21, a22, a23, a24, a25, a26, a27, a28, a29, a30, a31] ∧ (w2.setCell ⟨bc, 48, none⟩ u).cell? ⟨w.heap.size, 48, none⟩ = some (.slice (some ⟨m.pb, m.poff, none⟩) m.pn m.pc))) := fun w2 o2 hg => by
            have g := grown_quiet (drew_grown1' wr) (World.grownBy_alloc wr.drew o2 none)
            have p2 := PLR.out.quiet g
            have S2 := p2.s.grow p2.row hg (by decide)
            have hr : w2.rangeAt m.pb (m.poff + k * 32) [a0, a1, a2, a3, a4, a5, a6, a7, a8, a9, a10, a11, a12, a13, a14, a15, a16, a17, a18, a19, a20, a21, a22, a23, a24, a25, a26, a27, a28, a29, a30, a31] := fun j u hu => hg.cell (HRG.out _ g j u hu) (fun e => absurd (p2.row.lt _ e.symm).1 (by show ¬ w.heap.size ≤ m.pb; have := HBL.out; omega))
            refine ⟨⟨hr, blk_cell S2.q0 HX48.out⟩, fun u => ⟨fun j x hx => (grown_set w2 bc 48 u).cell (hr j x hx) (by have := HBL.out; have := S2.ne; simp; omega), blk_cell (S2.set 48 u).q0 HX48.out⟩⟩
          go_wp2_with fail
          refine wp_region_held_drew (S := fun w' => w'.rangeAt m.pb (m.poff + k * 32) [a0, a1, a2, a3, a4, a5, a6, a7, a8, a9, a10, a11, a12, a13, a14, a15, a16, a17, a18, a19, a20, a21, a22, a23, a24, a25, a26, a27, a28, a29, a30, a31] ∧ w'.cell? ⟨w.heap.size, 48, none⟩ = some (.slice (some ⟨m.pb, m.poff, none⟩) m.pn m.pc)) (by kernel_rfl) K00.out (fun hH => ?_)
          refine wpAnyH_take (i := 0) (oi := { dst := some 51, op := Op.fieldAddr 36 (Operand.tmp 3) 15, type := 0, pos := "help.go:279", after := #[], guard := none }) (v := .pointer (some ⟨bc, 48, none⟩)) rfl (by kernel_rfl) (by kernel_rfl) (by kernel_rfl) (fun _ _ _ h => h) (Or.inl ⟨by rfl, fun w' hSw => ?_⟩) hH ?_
          · obtain ⟨-, q2⟩ := hSw
            go_simp
          simp only [Act.put, List.setIfInBounds_toArray, List.set_cons_zero, List.set_cons_succ]
          refine wpAnyH_take (i := 2) (oi := { dst := some 53, op := Op.fieldAddr 36 (Operand.tmp 1) 15, type := 0, pos := "help.go:279", after := #[], guard := none }) (v := .pointer (some ⟨w.heap.size, 48, none⟩)) rfl (by kernel_rfl) (by kernel_rfl) (by kernel_rfl) (fun _ _ _ h => h) (Or.inl ⟨by rfl, fun w' hSw => ?_⟩) hH ?_
          · obtain ⟨-, q2⟩ := hSw
            go_simp
          simp only [Act.put, List.setIfInBounds_toArray, List.set_cons_zero, List.set_cons_succ]
          refine wpAnyH_take (i := 3) (oi := { dst := some 54, op := Op.load 34 (Operand.tmp 53), type := 34, pos := "help.go:279", after := #[{ on := 2, ground := Ground.data }], guard := none }) (v := .slice (some ⟨m.pb, m.poff, none⟩) m.pn m.pc) rfl (by kernel_rfl) (by kernel_rfl) (by kernel_rfl) (fun _ _ _ h => h) (Or.inl ⟨by rfl, fun w' hSw => ?_⟩) hH ?_
          · obtain ⟨-, q2⟩ := hSw
            go_simp
          simp only [Act.put, List.setIfInBounds_toArray, List.set_cons_zero, List.set_cons_succ]
          refine wpAnyH_take (i := 4) (oi := { dst := some 55, op := Op.move (Operand.tmp 6), type := 3, pos := "help.go:279", after := #[], guard := none }) (v := .int .i64 (k : Int)) rfl (by kernel_rfl) (by kernel_rfl) (by kernel_rfl) (fun _ _ _ h => h) (Or.inl ⟨by rfl, fun w' hSw => ?_⟩) hH ?_
          · obtain ⟨-, q2⟩ := hSw
            go_simp
          simp only [Act.put, List.setIfInBounds_toArray, List.set_cons_zero, List.set_cons_succ]
          refine wpAnyH_take (i := 5) (oi := { dst := some 56, op := Op.indexAddr 34 (Operand.tmp 54) (Operand.tmp 55), type := 0, pos := "help.go:279", after := #[{ on := 3, ground := Ground.data }, { on := 4, ground := Ground.data }], guard := none }) (v := .pointer (some ⟨m.pb, m.poff + k * 32, none⟩)) rfl (by kernel_rfl) (by kernel_rfl) (by kernel_rfl) (fun _ _ _ h => h) (Or.inl ⟨by rfl, fun w' hSw => ?_⟩) hH ?_
          · obtain ⟨-, q2⟩ := hSw
            go_simp
          simp only [Act.put, List.setIfInBounds_toArray, List.set_cons_zero, List.set_cons_succ]
          refine wpAnyH_take (i := 6) (oi := { dst := some 57, op := Op.load 33 (Operand.tmp 56), type := 33, pos := "help.go:279", after := #[{ on := 5, ground := Ground.data }], guard := none }) (v := .agg #[a0, a1, a2, a3, a4, a5, a6, a7, a8, a9, a10, a11, a12, a13, a14, a15, a16, a17, a18, a19, a20, a21, a22, a23, a24, a25, a26, a27, a28, a29, a30, a31]) rfl (by kernel_rfl) (by kernel_rfl) (by kernel_rfl) (fun _ _ _ h => h) ?_ hH ?_
          · exact yieldsIf_load_mid (by rfl) 33 (.tmp 56) rfl m.pb (m.poff + k * 32) (by simp [Act.eval]) [a0, a1, a2, a3, a4, a5, a6, a7, a8, a9, a10, a11, a12, a13, a14, a15, a16, a17, a18, a19, a20, a21, a22, a23, a24, a25, a26, a27, a28, a29, a30, a31] _ (fun _ h => h.1) Tryz.underlying33 rfl HSH.out
          simp only [Act.put, List.setIfInBounds_toArray, List.set_cons_zero, List.set_cons_succ]
          refine wpAnyH_ready (rs := [1, 7]) (by kernel_rfl) (by simp) ?_
          refine AllReadyH.cons rfl (fun K hK => ?_) (AllReadyH.cons rfl (fun K hK => ?_) AllReadyH.nil)
          · go_simp
            refine hK.out _ _ hH (fun hH1 => ?_)
            clear hK K
            refine wpAnyH_ready (rs := [7]) (by kernel_rfl) (by simp) ?_
            refine AllReadyH.cons rfl (fun K hK => ?_) AllReadyH.nil
            go_simp
            refine hK.out _ _ (K1.out _) (fun hH2 => ?_)
            clear hK K
            refine wpAnyH_ready (rs := [8]) (by kernel_rfl) (by simp) ?_
            refine AllReadyH.cons rfl (fun K hK => ?_) AllReadyH.nil
            refine step_append_own rfl (.tmp 52) (.tmp 58) 34 rfl w.heap.size 33 j0 _ 32 32 Tryz.underlying34 hj0 HZA.out hk1 hk2 rfl (by decide) p k (hhcells (m.hs.take k)) (by simp [Act.eval]) (HOW.out _ (drew_grown1' wr) _) ⟨wr.heap.size, 0, none⟩ 1 1 [a0, a1, a2, a3, a4, a5, a6, a7, a8, a9, a10, a11, a12, a13, a14, a15, a16, a17, a18, a19, a20, a21, a22, a23, a24, a25, a26, a27, a28, a29, a30, a31] (by simp [Act.eval]) rfl (cells_new _ _ _) HL.out.2 (by unfold maxLen; omega) (by omega) (by have := HSZ2.out; simp; omega) ?_
            intro v' w2 ho hg
            obtain ⟨g', cap', rfl⟩ := ownsRow_succ ho
            have hnx := HNX.out _ _ _ _ (drew_grown1' wr) ho hg
            have NX := hide hnx.1
            obtain ⟨-, y1, y2⟩ := hnx
            have KE := hide (HKE.out _ _ hg)
            clear ho hg
            refine hK.out _ _ (KE.out.1) (fun hH3 => ?_)
            clear hK K
            refine wpAnyH_ready (rs := [9]) (by kernel_rfl) (by simp) ?_
            refine AllReadyH.cons rfl (fun K hK => ?_) AllReadyH.nil
            go_simp
            refine hK.out _ _ (KE.out.1) (fun hH4 => ?_)
            clear hK K
            refine wpAnyH_ready (rs := [10]) (by kernel_rfl) (by simp) ?_
            refine AllReadyH.cons rfl (fun K hK => ?_) AllReadyH.nil
            go_simp
            refine hK.out _ _ (KE.out.2 _) (fun hH5 => ?_)
            clear hK K
            refine wpAnyH_done (by kernel_rfl) ?_ _
            clear y1 y2 x48 z48 hH hH1 hH2 hH3 hH4 hH5 K00 K1 HKE KE
            go_wp2
            go_roundw
            case rel => exact ⟨k + 1, by omega, by go_num, _, NX.out⟩
            case measure => simp [intOf]; omega
          · go_simp
            refine hK.out _ _ (K1.out _) (fun hH1 => ?_)
            clear hK K
            refine wpAnyH_ready (rs := [1]) (by kernel_rfl) (by simp) ?_
            refine AllReadyH.cons rfl (fun K hK => ?_) AllReadyH.nil
            go_simp
            refine hK.out _ _ (K1.out _) (fun hH2 => ?_)
            clear hK K
            refine wpAnyH_ready (rs := [8]) (by kernel_rfl) (by simp) ?_
            refine AllReadyH.cons rfl (fun K hK => ?_) AllReadyH.nil
            refine step_append_own rfl (.tmp 52) (.tmp 58) 34 rfl w.heap.size 33 j0 _ 32 32 Tryz.underlying34 hj0 HZA.out hk1 hk2 rfl (by decide) p k (hhcells (m.hs.take k)) (by simp [Act.eval]) (HOW.out _ (drew_grown1' wr) _) ⟨wr.heap.size, 0, none⟩ 1 1 [a0, a1, a2, a3, a4, a5, a6, a7, a8, a9, a10, a11, a12, a13, a14, a15, a16, a17, a18, a19, a20, a21, a22, a23, a24, a25, a26, a27, a28, a29, a30, a31] (by simp [Act.eval]) rfl (cells_new _ _ _) HL.out.2 (by unfold maxLen; omega) (by omega) (by have := HSZ2.out; simp; omega) ?_
            intro v' w2 ho hg
            obtain ⟨g', cap', rfl⟩ := ownsRow_succ ho
            have hnx := HNX.out _ _ _ _ (drew_grown1' wr) ho hg
            have NX := hide hnx.1
            obtain ⟨-, y1, y2⟩ := hnx
            have KE := hide (HKE.out _ _ hg)
            clear ho hg
            refine hK.out _ _ (KE.out.1) (fun hH3 => ?_)
            clear hK K
            refine wpAnyH_ready (rs := [9]) (by kernel_rfl) (by simp) ?_
            refine AllReadyH.cons rfl (fun K hK => ?_) AllReadyH.nil
            go_simp
            refine hK.out _ _ (KE.out.1) (fun hH4 => ?_)
            clear hK K
            refine wpAnyH_ready (rs := [10]) (by kernel_rfl) (by simp) ?_
            refine AllReadyH.cons rfl (fun K hK => ?_) AllReadyH.nil
            go_simp
            refine hK.out _ _ (KE.out.2 _) (fun hH5 => ?_)
            clear hK K
            refine wpAnyH_done (by kernel_rfl) ?_ _
            clear y1 y2 x48 z48 hH hH1 hH2 hH3 hH4 hH5 K00 K1 HKE KE
            go_wp2
            go_roundw
            case rel => exact ⟨k + 1, by omega, by go_num, _, NX.out⟩
            case measure => simp [intOf]; omega
        · obtain rfl : k = m.hs.length := by omega
          clear hlt hk
          obtain ⟨FR, hFR⟩ : ∃ FR, d.set 48 p = FR := ⟨_, rfl⟩
          have HPD := hide (PLR.out.done FR)
          have HFL : Hid (FR.length = 49) := by show _ = _; rw [← hFR, List.length_set]; exact HDL.out
          have HSF : Hid ((Tryz.prog.info? 36).map (·.size) = some FR.length) := by show _ = _; rw [HFL.out]; kernel_rfl
          have RF : Hid (wr.rangeAt bc 0 FR) := by rw [← hFR]; exact blk_range PLR.out.s.q2
          have TF : Hid (wr.there (w.heap.size + 1) 0 FR.length) := PLR.out.s.there HFL.out
          have FIN : Hid (Copied w m ((m.c0 co cc rs1 g1 g2).cp v ts p) (wr.setCells (w.heap.size + 1) 0 FR) ∧ FR = ((m.c0 co cc rs1 g1 g2).cp v ts p).R) := by
            obtain ⟨a1, a2, a3, a4⟩ := HPD.out
            rw [List.take_length] at a3
            obtain ⟨b1, b2, b3⟩ := copied_of HM.out HV1.out.2 a1 a2 HVL.out.1 HVL.out.2 a3 a4
            refine ⟨b1, ?_⟩
            rw [← hFR, HDD.out]
            exact Mg.cp_R HM.out.rl b2 b3
          have HF2 : Hid (∀ u ∈ FR, u.oneCell' = true) := by show _; rw [FIN.out.2]; exact Mg.one _
          clear hFR HPD HDD PLR
          go_upto_region 17 with fail
          go_step
          refine wpList_load_mid rfl 36 _ rfl bc 0 rfl FR _ RF.out Tryz.underlying36 rfl HSF.out ?_
          simp only [Act.put, List.setIfInBounds_toArray, List.set_cons_zero, List.set_cons_succ]
          refine wpList_store_mid rfl 36 _ _ rfl (w.heap.size + 1) 0 FR.toArray rfl rfl (by simpa using TF.out) (by simpa using HSF.out) (all_oneCell_toArray HF2.out) ?_
          go_wp2
          simp only [Act.put]
          have hld := run_loadVar_mid (P := Tryz.prog) (wr.setCells (w.heap.size + 1) 0 FR) (w.heap.size + 1) 0 36 FR _ (World.rangeAt_setCells_same _ _ _ _ TF.out) Tryz.underlying36 rfl HSF.out
          refine bodyPost_ret (v := .agg FR.toArray) ?_ rfl ⟨_, by rw [FIN.out.2], FIN.out.1⟩
          simp [results, Tryz.results6, asAddr, hld]
end Go.Proofs.YtldhafpeigdloaaGreatDoor
