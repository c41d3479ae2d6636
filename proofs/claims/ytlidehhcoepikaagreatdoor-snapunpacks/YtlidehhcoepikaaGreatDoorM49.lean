import Derived.Test.YtlidehhcoepikaaGreatDoorM48
import Derived.Test.YtlidehhcoepikaaGreatDoorRows
import Derived.ProofKit
import Derived.OpenShut
import Derived.ChangeOld
import Derived.Below
import Derived.SizedLaws
import Derived.Deep.Slices
import Derived.Test.YtlidehhcoepikaaGreatDoorM41
import Derived.Test.YtlidehhcoepikaaGreatDoorNRfB
import Derived.Test.YtlidehhcoepikaaGreatDoorNRfD
import Derived.Test.YtlidehhcoepikaaGreatDoorM47
import Derived.Test.YtlidehhcoepikaaGreatDoorM35
namespace Go.Proofs.YtlidehhcoepikaaGreatDoor
open Go.ChangeShapes Go.WideShapes Go.ChangeAt Go.RowKit Go.Deep

theorem own : ownKnob Tryz.prog.godebug = none := by kernel_rfl
theorem laidOut : laidOutB Tryz.prog = true := by kernel_rfl
theorem bytesU8 : Tryz.prog.bytesOf 5 = 1 := by kernel_rfl
theorem cellsU8 : Tryz.prog.cellsOf 5 = 1 := by kernel_rfl
theorem cellsInt : Tryz.prog.cellsOf 3 = 1 := by kernel_rfl
theorem cellsU64 : Tryz.prog.cellsOf 22 = 1 := by kernel_rfl
theorem cellsBs : Tryz.prog.cellsOf 36 = 1 := by kernel_rfl
theorem cellsStr : Tryz.prog.cellsOf 9 = 1 := by kernel_rfl
theorem weights_all {H : Type} {P : Program} {e : TypeId} {d : DataW H} {n : Nat} (hn : n ∈ d.weights P e) : ∀ {ds : List (DataW H)}, d ∈ ds → n ∈ DataW.weightsAll P e ds
  | [], h => by cases h
  | x :: r, h => by
    simp only [DataW.weightsAll, List.mem_append]
    rcases List.mem_cons.1 h with rfl | h
    · exact .inl hn
    · exact .inr (weights_all hn h)

theorem list6 {α : Type} {l : List α} (h : l.length = 6) : ∃ a b c d e f, l = [a, b, c, d, e, f] := by
  match l, h with
  | [a, b, c, d, e, f], _ => exact ⟨a, b, c, d, e, f, rfl⟩

/-- The bytes as numbers. -/
theorem bytes_of (zs : List Int) (hwz : ∀ n ∈ zs, (Lit.int .u8 n).wf = true) : ∃ B : List Nat, zs = B.map (fun (x : Nat) => (x : Int)) ∧ ∀ x ∈ B, x < 256 := by
  induction zs with
  | nil => exact ⟨[], rfl, by simp⟩
  | cons z r ih =>
    obtain ⟨B, hB, hl⟩ := ih (fun n hn => hwz n (by simp [hn]))
    have hz := bounds_u8 (hwz z (by simp))
    refine ⟨z.toNat :: B, ?_, ?_⟩
    · simp [hB]; omega
    · intro x hx
      rcases List.mem_cons.1 hx with rfl | hx
      · omega
      · exact hl x hx

/-- Bytes that came in. -/
theorem view_bytes {H : Type} {enc : TypeId × Value → H} {W : World} {fuel : Nat} {cs : List Value} {x : DataW H × List MemPlace}
    (hf : DataW.trod enc Tryz.prog W 0 (fun _ => true) true fuel 36 cs = some x) (hr : ∀ n ∈ x.1.weights Tryz.prog 36, n ≤ reachBytes) :
    ∃ (ao : Option Addr) (len cap : Nat) (B : List Nat), cs = [.slice ao len cap] ∧ Shows W.heap.size W ao len cap B := by
  have hlt := DataW.trod_lt fuel _ _ _ hf
  rcases open_ints Tryz.underlying36 Tryz.underlying5 cellsU8 hf with ⟨rfl, _⟩ | ⟨x, len, cap, zs, rfl, _, hl, hm, hz, rfl, hcell, hwz⟩
  · exact ⟨none, 0, 0, [], rfl, rfl, by omega, by omega, by simp, 0, 0, fun h => by omega, fun h => by omega, fun i hi => by omega⟩
  · obtain ⟨B, rfl, hB⟩ := bytes_of zs hwz
    have hr := hr ((lits .u8 ((B.map (fun (x : Nat) => (x : Int))).take len)).length + (lits (H := H) .u8 ((B.map (fun (x : Nat) => (x : Int))).drop len)).length) (by
      simp only [DataW.weights, Tryz.underlying36, bytesU8, Nat.mul_one]
      exact List.mem_cons_self ..)
    simp only [lits, List.length_map, List.length_take, List.length_drop, reachBytes] at hr
    have hzl : B.length = cap := by simpa using hz
    by_cases hp : 0 < len
    · obtain ⟨b, off, spot⟩ := x
      have hspot : spot = none := by simpa [Addr.add] using World.cell?_spot (hcell 0 (by simp; omega))
      subst hspot
      have hbW : b < W.heap.size := hlt (.cell b off) (MemPlace.mem_row.2 ⟨0, by simp; omega, by simp⟩)
      refine ⟨_, len, cap, B.take len, rfl, by simp; omega, hl, by omega, fun x hx => hB x (List.mem_of_mem_take hx), b, off, fun _ => rfl, fun _ => hbW, fun i hi => ?_⟩
      have hci := hcell i (by simp; omega)
      rw [add_plain] at hci
      rw [hci, List.getD_eq_getElem?_getD, List.getD_eq_getElem?_getD, List.getElem?_map, List.getElem?_take, if_pos hi, List.getElem?_eq_getElem (by omega)]
      rfl
    · obtain rfl : len = 0 := by omega
      exact ⟨_, 0, cap, [], rfl, rfl, by omega, by omega, by simp, 0, 0, fun h => by omega, fun h => by omega, fun i hi => by omega⟩

end Go.Proofs.YtlidehhcoepikaaGreatDoor
namespace Go.Proofs.YtlidehhcoepikaaGreatDoor
open Go.ChangeShapes Go.WideShapes Go.ChangeAt Go.RowKit Go.Deep

theorem Fl.Ok.next {lim : Nat} {w w' : World} {f : Fl} {row : Option Nat} (h : f.Ok lim w) (hg : w.grownBy w' row) (hr : ∀ g, row = some g → lim ≤ g) : f.Ok lim w' :=
  ⟨h.hN, h.hK1, h.hK2, h.hI1, h.hI2, h.hM1, h.hM2, h.hB.kept hg hr, h.hS⟩

/-- The fields as they lie, one behind the other. -/
structure Fls (lim : Nat) (w : World) (b off : Nat) (fs : List Fl) : Prop where
  ok : ∀ f ∈ fs, f.Ok lim w
  at_ : ∀ i f, fs[i]? = some f → ∀ j v, f.cells[j]? = some v → w.cell? ⟨b, off + i * 6 + j, none⟩ = some v
theorem Fls.next {lim : Nat} {w w' : World} {b off : Nat} {fs : List Fl} {row : Option Nat} (h : Fls lim w b off fs) (hb : b < lim) (hg : w.grownBy w' row) (hr : ∀ g, row = some g → lim ≤ g) : Fls lim w' b off fs :=
  ⟨fun f hf => (h.ok f hf).next hg hr, fun i f hi j v hj => hg.cell (h.at_ i f hi j v hj) (fun e => by have := hr b e.symm; omega)⟩

instance : Inhabited Fl := ⟨⟨0, 0, 0, none, 0, 0, [], ByteArray.empty, 0⟩⟩
end Go.Proofs.YtlidehhcoepikaaGreatDoor
namespace Go.Proofs.YtlidehhcoepikaaGreatDoor
open Go.RowKit Crc

theorem copy_sh {lim : Nat} {w : World} {ao : Option Addr} {n cap : Nat} {B : List Nat} (h : Shows lim w ao n cap B) (hlw : lim ≤ w.heap.size) :
    Calls Tryz.prog 82 #[.slice ao n cap] w fun e w' => ∃ v, e = .returned v ∧ Owns w.heap.size w' v B ∧ Below w.heap.size w w' := by
  obtain ⟨h1, h2, h3, h4, b, off, h5, h6, h7⟩ := h
  exact copy_walk b off ao B n cap w h5 h1 h3 h4 (fun h => Nat.lt_of_lt_of_le (h6 h) hlw) h7

set_option maxRecDepth 10000 in
set_option maxHeartbeats 800000 in
theorem refNew_any {lim : Nat} {w : World} {ao : Option Addr} {n cap : Nat} {B : List Nat} (h : Shows lim w ao n cap B) (hlw : lim ≤ w.heap.size) :
    Calls Tryz.prog 39 #[.slice ao n cap] w fun e w' => ∃ p d, e = .returned (.pointer (some ⟨p, 0, none⟩)) ∧ w.heap.size ≤ p ∧ w.heap.size ≤ d ∧ d ≤ p ∧ RefS d w' p ⟨true, 0, 0, B, 0, KR⟩ ∧ Below w.heap.size w w' := by
  have HCP := hide (copy_sh h hlw)
  clear h
  go_enter Tryz.func39, Tryz.ntmps39
  go_wp2_with fail
  refine HCP.out.mono ?_
  rintro e w1 ⟨v, rfl, hO, hb1⟩
  obtain ⟨a1, c1, rfl, hs1, ha⟩ := hO.form
  have HO := hide (And.intro hO (And.intro hs1 ha))
  have HB1 := hide hb1
  clear hO hs1 ha hb1
  generalize hbl : B.length = m at *
  go_wp2
  go_ret
  have hsz := HB1.out.size
  obtain ⟨hO, hs1, ha⟩ := HO.out
  have hbel : Below w.heap.size w (w1.alloc (.cells #[.bool true, .slice a1 m c1, .int .i64 0, .int .i64 0, .int .i64 0] 151 (0, 0))) := HB1.out.alloc hsz _
  have hg : w1.grownBy (w1.alloc (.cells #[.bool true, .slice a1 m c1, .int .i64 0, .int .i64 0, .int .i64 0] 151 (0, 0))) none := World.grownBy_alloc w1 _ none
  obtain ⟨h1, h2, h3, h4, b, off, h5, h6, h7⟩ := hs1
  rcases ha with ⟨rfl, rfl⟩ | ⟨g, rfl, hg1, hg2⟩
  · have hm0 : m = 0 := by omega
    refine ⟨w1.heap.size, w1.heap.size, rfl, hsz, hsz, Nat.le_refl _, ⟨none, 0, ?_, ⟨by simp only; omega, .inr ⟨rfl, rfl, by simp only; omega⟩⟩, by simp only; omega, h4, by simp, fun h => by simp only at h; omega, fun h => by simp only at h; omega, fun i hi => by simp only at hi; omega⟩, hbel⟩
    simp only [hbl]
    exact heap_alloc_new w1 _
  · refine ⟨w1.heap.size, g, rfl, hsz, hg1, Nat.le_of_lt hg2, ⟨some ⟨g, 0, none⟩, c1, ?_, ⟨by simp only; omega, .inl rfl⟩, by simp only; omega, h4, by simp, fun _ => rfl, fun _ => by omega, fun i hi => ?_⟩, hbel⟩
    · simp only [hbl]
      exact heap_alloc_new w1 _
    · simp only at hi
      have e := h5 (by omega)
      simp only [Option.some.injEq, Addr.mk.injEq, and_true] at e
      obtain ⟨rfl, rfl⟩ := e
      have h8 := h7 i (by omega)
      rw [Nat.zero_add] at h8
      exact hg.cell h8 (by simp)
end Go.Proofs.YtlidehhcoepikaaGreatDoor
namespace Go.Proofs.YtlidehhcoepikaaGreatDoor
open Go.RowKit Crc
attribute [local irreducible] nV nS oV oS cV cS bV bS rdC rdBk rdIm rdDe rdSn

def RuP (B : List Nat) (w : World) (e : Ending) (w' : World) : Prop := ∃ (m : Mi) (ao : Option Addr) (cap : Nat), e = .returned (.tuple #[.agg #[.int .u64 (m.slot : Int), .int .u64 (m.now : Int), .int .u64 (m.tot : Int), .int .u64 (m.nx : Int), .slice m.ao m.an m.ac, .slice m.ho m.hn m.hc, .slice m.jo m.jn m.jc, .slice m.dO m.dn m.dc, .int .u64 (m.ends : Int), .slice m.so m.sn m.sc], .agg #[.slice ao (unE B).1.length cap, .int .i64 (unE B).2]]) ∧ Hid (m.Own w.heap.size w' ∧ m.val = unV B ∧ (∃ b off, FV w'.heap.size w' ao (unE B).1 b off) ∧ Below w.heap.size w w')
theorem fv_grownN {lim : Nat} {W W' : World} {ao : Option Addr} {L : List Lk} {b off q : Nat} (h : FV lim W ao L b off) (hg : W.grownBy W' (some q)) (hB : 0 < L.length → b ≠ q) : FV lim W' ao L b off :=
  ⟨h.ad, h.lt, h.le, fun i l hl => by
    have hp : 0 < L.length := by have := (List.getElem?_eq_some_iff.1 hl).1; omega
    have hne : some b ≠ some q := fun e => hB hp (by cases e; rfl)
    exact ⟨hg.cell (h.at_ i l hl).1 hne, hg.cell (h.at_ i l hl).2 hne⟩⟩
theorem fv_neN {w : World} {ao : Option Addr} {L : List Lk} {b off B : Nat} {lim : Nat} {cs : Array Value} {t : TypeId} (hf : FV lim w ao L b off) (hB : w.heap[B]? = some (.cells cs t (0, 0))) (hc : ∀ (i : Nat) (s : ByteArray), cs[i]? ≠ some (.string s)) : 0 < L.length → b ≠ B := fun h0 e => by
  have h1 := (hf.at_ 0 _ (List.getElem?_eq_getElem h0)).1
  rw [e, block_cell hB] at h1
  exact hc _ _ h1
theorem ru_fin {w W : World} {B : List Nat} {m : Mi} {ao : Option Addr} {base b off : Nat} (hq : W.heap[w.heap.size]? = some (.cells #[.int .u64 0, .int .u64 0, .int .u64 0, .int .u64 0, .slice none 0 0, .slice none 0 0, .slice none 0 0, .slice none 0 0, .int .u64 0, .slice none 0 0] 33 (0, 0)) ∧ W.heap[w.heap.size + 1]? = some (.cells #[.slice none 0 0, .int .i64 0] 43 (0, 0))) (ho : m.Own base W) (hbase : w.heap.size + 1 < base) (hm : m.val = unV B) (hE : FV W.heap.size W ao (unE B).1 b off) (hb : Below w.heap.size w W) (x0 x1 x2 x3 x4 x5 x6 x7 x8 x9 u0 u1 : Value) : m.Own w.heap.size (((st10 W w.heap.size x0 x1 x2 x3 x4 x5 x6 x7 x8 x9).setCell ⟨w.heap.size + 1, 0, none⟩ u0).setCell ⟨w.heap.size + 1, 1, none⟩ u1) ∧ m.val = unV B ∧ (∃ b off, FV (((st10 W w.heap.size x0 x1 x2 x3 x4 x5 x6 x7 x8 x9).setCell ⟨w.heap.size + 1, 0, none⟩ u0).setCell ⟨w.heap.size + 1, 1, none⟩ u1).heap.size (((st10 W w.heap.size x0 x1 x2 x3 x4 x5 x6 x7 x8 x9).setCell ⟨w.heap.size + 1, 0, none⟩ u0).setCell ⟨w.heap.size + 1, 1, none⟩ u1) ao (unE B).1 b off) ∧ Below w.heap.size w (((st10 W w.heap.size x0 x1 x2 x3 x4 x5 x6 x7 x8 x9).setCell ⟨w.heap.size + 1, 0, none⟩ u0).setCell ⟨w.heap.size + 1, 1, none⟩ u1) := by
  have g1 := st10_grown W w.heap.size x0 x1 x2 x3 x4 x5 x6 x7 x8 x9
  have n1 := fv_neN hE hq.1 (by
    intro i s
    rcases i with _ | _ | _ | _ | _ | _ | _ | _ | _ | _ | k <;> simp)
  have f1 := fv_grownN hE g1 n1
  have q2 : (st10 W w.heap.size x0 x1 x2 x3 x4 x5 x6 x7 x8 x9).heap[w.heap.size + 1]? = _ := (g1.block _ (block_lt hq.2) (by simp)).trans hq.2
  have n2 := fv_neN f1 q2 (by
    intro i s
    rcases i with _ | _ | k <;> simp)
  have g2 : (st10 W w.heap.size x0 x1 x2 x3 x4 x5 x6 x7 x8 x9).grownBy (((st10 W w.heap.size x0 x1 x2 x3 x4 x5 x6 x7 x8 x9).setCell ⟨w.heap.size + 1, 0, none⟩ u0).setCell ⟨w.heap.size + 1, 1, none⟩ u1) (some (w.heap.size + 1)) := grown_trans (row := some (w.heap.size + 1)) (grown_set _ _ _ _) (grown_set _ _ _ _)
  have f2 := fv_grownN f1 g2 n2
  have hsz := Nat.le_trans g1.size g2.size
  have b1 : Below w.heap.size w (st10 W w.heap.size x0 x1 x2 x3 x4 x5 x6 x7 x8 x9) := hb.grown g1 hb.size (fun k e => by cases e; exact Nat.le_refl _)
  exact ⟨((ho.past g1 (some_lt (by omega))).past g2 (some_lt hbase)).lower (by omega), hm, ⟨b, off, f2.wide hsz⟩, b1.grown g2 b1.size (fun k e => by cases e; omega)⟩
/-- Sessions that are read into a field of a struct. -/
structure Ls (d p : Nat) (w : World) (q : Nat) (T : TypeId) (C : Value → Array Value) (O : World → Prop) (s : RS) (L : List Sn) (v : Value) (W : World) : Prop where
  lr : Lr d p w q T C 61 5 Sn.cells O s L v W
  own : ∀ x ∈ L, Owns (q + 1) W x.sl x.D
  ap : L.Pairwise fun a b => a.sl.ownBlock = none ∨ a.sl.ownBlock ≠ b.sl.ownBlock
theorem flat_vals (B : List Nat) : flat (fun x : Nat => [Value.int .u8 (x : Int)]) B = vals B := by
  unfold flat vals
  induction B with
  | nil => rfl
  | cons x r ih => simp at ih ⊢; exact ih
theorem owns_rw {base : Nat} {w : World} {v : Value} {B : List Nat} (h : Owns base w v B) : Rw base w 5 1 (fun x : Nat => [.int .u8 (x : Int)]) v B := by
  unfold Rw
  rw [flat_vals]
  exact h.1
theorem rw_owns {base : Nat} {w : World} {v : Value} {B : List Nat} (h : Rw base w 5 1 (fun x : Nat => [.int .u8 (x : Int)]) v B) (h2 : (∀ x ∈ B, x < 256) ∧ B.length ≤ 140737488355328) : Owns base w v B := by
  unfold Rw at h
  rw [flat_vals] at h
  exact ⟨h, h2⟩
theorem Ls.next {d p : Nat} {w : World} {q : Nat} {T : TypeId} {C : Value → Array Value} {O : World → Prop} {s s' : RS} {L : List Sn} {v : Value} {wr W : World} (h : Ls d p w q T C O s L v wr) (hO : Stays p q 61 O) (j : Nat) (hC : ∀ u u', (C u).setIfInBounds j u' = C u') (hC2 : ∀ u, (C u)[j]? = some u)
    (hd : d < w.heap.size) (hp : p < w.heap.size) (hq : w.heap.size ≤ q) (hr : RefS d W p s') (hg : wr.grownBy W (some p)) {x : Sn} (hx : Owns wr.heap.size W x.sl x.D) {o : Obj} {w3 : World} {v' : Value} (ho : w3.ownsRow (q + 1) 61 5 v' (L.length + 1) (flat Sn.cells L ++ x.cells)) (hg3 : (W.alloc o).grownBy w3 v.ownBlock) :
    Ls d p w q T C O s' (L ++ [x]) v' (w3.setCell ⟨q, j, none⟩ v') ∧ w3.cell? ⟨q, j, none⟩ = some v ∧ w3.frozen? ⟨q, j, none⟩ = false ∧ q < w3.heap.size := by
  obtain ⟨a1, a2, a3, a4⟩ := h.lr.next hO j hC hC2 hd hp hq hr hg ho hg3
  have hqw : q < wr.heap.size := block_lt h.lr.dr.box
  have hA := World.grownBy_alloc W o none
  have r2 : Rw (q + 1) (W.alloc o) 61 5 Sn.cells v L := (h.lr.row.past hg (some_lt (by omega))).quiet hA
  have key : ∀ {u : Value} {D : List Nat}, Owns (q + 1) W u D → Owns (q + 1) (w3.setCell ⟨q, j, none⟩ v') u D := fun {u D} ow => by
    have k1 := (owns_rw ow).quiet hA
    have k2 := k1.kept hg3 (rows_neN k1 r2 (by decide))
    exact rw_owns (k2.past (grown_set _ _ _ _) (some_lt (by omega))) ow.2
  refine ⟨⟨a1, fun y hy => ?_, ?_⟩, a2, a3, a4⟩
  · rcases List.mem_append.1 hy with hy | hy
    · exact key (rw_owns ((owns_rw (h.own y hy)).past hg (some_lt (by omega))) (h.own y hy).2)
    · obtain rfl := List.mem_singleton.1 hy
      exact key (hx.lower (by omega))
  · refine List.pairwise_append.2 ⟨h.ap, List.pairwise_singleton _ _, fun a ha b hb => ?_⟩
    obtain rfl := List.mem_singleton.1 hb
    cases e : a.sl.ownBlock with
    | none => exact .inl rfl
    | some g =>
      refine .inr (fun e2 => ?_)
      have q1 := ((h.own a ha).1.lt g e).2
      have q2 := (hx.1.lt g e2.symm).1
      omega
end Go.Proofs.YtlidehhcoepikaaGreatDoor
