import Derived.Test.YtcfenjpdjogmdaaLT27
import Derived.Test.YtcfenjpdjogmdaaLT07
namespace Go.Proofs.Ytcfenjpdjogmdaa
open Go.RowKit

/-- Shares as they lie. -/
structure Shs (W : World) (b off : Nat) (l : List Sh) : Prop where
  ok : ∀ x ∈ l, x.In
  at_ : ∀ (i : Nat) (x : Sh), l[i]? = some x → W.cell? ⟨b, off + i * 2, none⟩ = some (.int .u64 (x.tw : Nat)) ∧ W.cell? ⟨b, off + i * 2 + 1, none⟩ = some (.int .u64 (x.am : Nat))
theorem Shs.below {W W' : World} {b off : Nat} {l : List Sh} (h : Shs W b off l) {B : Nat} (hb : Below B W W') (hl : 0 < l.length → b < B) : Shs W' b off l :=
  ⟨h.ok, fun i x hi => by
    have hp : 0 < l.length := by have := (List.getElem?_eq_some_iff.1 hi).1; omega
    exact ⟨(hb.cell (p := ⟨b, _, none⟩) (hl hp)).trans (h.at_ i x hi).1, (hb.cell (p := ⟨b, _, none⟩) (hl hp)).trans (h.at_ i x hi).2⟩⟩
def amV (m : List Sh) : List Value := m.map (fun s => .int .u64 (s.am : Nat))
theorem amV_app (m : List Sh) (s : Sh) : amV (m ++ [s]) = amV m ++ [.int .u64 (s.am : Nat)] := by simp [amV]
/-- The amounts so far: a row of one's own. -/
structure Wu (w : World) (v : Value) (m : List Sh) (V : World) : Prop where
  bel : Below w.heap.size w V
  row : V.ownsRow w.heap.size 25 1 v m.length (amV m)
theorem Wu.app {w : World} {v v' : Value} {m : List Sh} {V w4 : World} (h : Wu w v m V) (o o2 : Obj) (s : Sh) (ho : w4.ownsRow w.heap.size 25 1 v' (m.length + 1) (amV m ++ [.int .u64 (s.am : Int)])) (hg : ((V.alloc o).alloc o2).grownBy w4 v.ownBlock) : Wu w v' (m ++ [s]) w4 := by
  refine ⟨((h.bel.alloc h.bel.size o).alloc (by simp; have := h.bel.size; omega) o2).grown hg (by simp; have := h.bel.size; omega) (fun j e => (h.row.lt j e).1), ?_⟩
  rw [amV_app, List.length_append]
  exact ho
theorem cell_one (W : World) (x : Value) (t : TypeId) : ∀ (j : Nat) (u : Value), [x][j]? = some u → (W.alloc (.cells #[x] t)).cell? (Addr.add ⟨W.heap.size, 0, none⟩ j) = some u := fun j u hu => cells_newA W [x] t j u hu
theorem cell_one2 (W : World) (o : Obj) (x : Value) (t : TypeId) : ∀ (j : Nat) (u : Value), [x][j]? = some u → ((W.alloc o).alloc (.cells #[x] t)).cell? (Addr.add ⟨W.heap.size + 1, 0, none⟩ j) = some u := fun j u hu => by
  have h := cell_one (W.alloc o) x t j u hu
  have e : (W.alloc o).heap.size = W.heap.size + 1 := by simp
  rw [e] at h
  exact h
set_option maxRecDepth 10000 in
set_option maxHeartbeats 3200000 in
theorem amountsG {w : World} {b off : Nat} {ao : Option Addr} (n cap : Nat) {l : List Sh} (hn : n = l.length) (hA : Shs w b off l) (hao : 0 < n → ao = some ⟨b, off, none⟩ ∧ b < w.heap.size) (hle : n ≤ 64) :
    Calls Try.prog 67 #[.slice ao n cap] w fun e w' => ∃ v, e = .returned v ∧ Hid (Wu w v l w') := by
  obtain ⟨i0, hi, hz0, hz1, hz2⟩ := info_parts infoU64
  have HA := hide hao
  have HC := hide hA
  have HN := hide hn
  have HS0 : Hid (Wu w (.slice none 0 0) [] w) := ⟨Below.refl _ _, World.ownsRow_nil _ _ _ _⟩
  clear hA hao hn
  go_enter Try.func67, Try.ntmps67
  go_wp2
  go_loopw [3, 8] (fun v i wr => ∃ k : Nat, k ≤ n ∧ i = .int .i64 k ∧ Hid (Wu w v (l.take k) wr)) (fun _ i _ => n - (intOf i).toNat)
  case atStart => exact ⟨0, by omega, rfl, HS0.out⟩
  case round =>
    clear HS0
    obtain ⟨k, hk, rfl, HR⟩ := hrel
    generalize u3 = v at *
    by_cases hlt : k < n
    · obtain ⟨x, hx⟩ : ∃ x, l[k]? = some x := ⟨_, List.getElem?_eq_getElem (by have := HN.out; omega)⟩
      obtain ⟨rfl, hb⟩ := HA.out (by omega)
      obtain ⟨c0, c1⟩ := (HC.out.below HR.out.bel (fun _ => hb)).at_ k x hx
      have cl : b < wr.heap.size := Nat.lt_of_lt_of_le hb HR.out.bel.size
      have e1 : l.take (k + 1) = l.take k ++ [x] := by rw [List.take_add_one, hx]; rfl
      have hkl : (l.take k).length = k := by rw [List.length_take]; have := HN.out; omega
      have HAP : Hid (∀ o o2 v5 w5, w5.ownsRow w.heap.size 25 1 v5 (k + 1) (amV (l.take k) ++ [.int .u64 (x.am : Int)]) → ((World.alloc wr o).alloc o2).grownBy w5 (v).ownBlock → Wu w v5 (l.take (k + 1)) w5) := fun o o2 v5 w5 ho hg => by
        rw [e1]
        exact HR.out.app o o2 x (by rw [hkl]; exact ho) hg
      have HOW : Hid (∀ o o2, ((World.alloc wr o).alloc o2).ownsRow w.heap.size 25 1 v k (amV (l.take k))) := fun o o2 => by
        have := (HR.out.row.alloc o).alloc o2
        rw [hkl] at this
        exact this
      have HSZ : Hid (∀ o o2, w.heap.size ≤ ((World.alloc wr o).alloc o2).heap.size) := fun o o2 => by simp; have := HR.out.bel.size; omega
      clear hx e1 hkl hb
      generalize (x.tw : Int) = X0 at *
      generalize (x.am : Int) = X1 at *
      go_wp2_with (first
        | (at_builtin; refine wpList_append_own _ rfl (.tmp 12) (.tmp 15) 110 rfl w.heap.size 25 i0 (.int .u64 0) 1 8 Try.underlying110 hi hz0 hz1 hz2 rfl (by decide) v k (amV (l.take k)) rfl (HOW.out _ _) ⟨wr.heap.size + 1, 0, none⟩ 1 1 [.int .u64 X1] rfl rfl (cell_one2 _ _ _ _) (by simp [Value.oneCell']) (by unfold maxLen; omega) (by omega) (HSZ.out _ _) ?_; intro v' w4 ho hg _; have HR2 := hide (HAP.out _ _ _ _ ho hg); clear ho hg))
      clear HAP HOW HSZ
      go_roundw
      case rel => exact ⟨k + 1, by omega, by go_num, HR2.out⟩
      case measure => simp [intOf]; omega
    · obtain rfl : k = n := by omega
      have e : l.take k = l := by rw [HN.out, List.take_length]
      rw [e] at HR
      go_wp2
      go_ret
      exact ⟨_, rfl, HR.out⟩
end Go.Proofs.Ytcfenjpdjogmdaa
namespace Go.Proofs.Ytcfenjpdjogmdaa
open Go.RowKit

/-- Block mb is a map from numbers to numbers, of at most n keys: m. -/
def TUm (W : World) (mb n : Nat) (m : Nat → Nat) : Prop :=
  ∃ D : DataW Value, W.ownsMap Try.prog 25 RV mb n D ∧ ∀ x, x < 18446744073709551616 → D.atKey (kU x) (.held (.int .u64 0)) = .held (.int .u64 (m x : Nat))
theorem TUm.kept {W W' : World} {mb n : Nat} {m : Nat → Nat} (h : TUm W mb n m) {row : Option Nat} (hg : W.grownBy W' row) (hne : some mb ≠ row) : TUm W' mb n m := by
  obtain ⟨D, h1, h2⟩ := h
  exact ⟨D, h1.kept hg hne, h2⟩
theorem TUm.obj {W : World} {mb n : Nat} {m : Nat → Nat} (h : TUm W mb n m) : ∃ es k, W.heap[mb]? = some (.map es k) := by
  obtain ⟨D, ⟨es, k, h1, _⟩, _⟩ := h
  exact ⟨es, k, h1⟩
theorem zero_u64 (w : World) : (zeroValue 25).run Try.prog w = .ok (.int .u64 0) w := by kernel_rfl
theorem TUm.look {W : World} {mb n : Nat} {m : Nat → Nat} (h : TUm W mb n m) {x : Nat} (hx : x < 18446744073709551616) : (Instr.lookup 138 (.map (some mb)) (.int .u64 (x : Int)) false).run Try.prog W = .ok (.int .u64 (m x : Nat)) W := by
  obtain ⟨D, h1, h2⟩ := h
  obtain ⟨v, ps, hr, hv⟩ := h1.lookup KD Try.underlying138 (zero_u64 W) (rfl : RV (.int .u64 0) = _) (kU_of hx)
  rw [h2 x hx] at hv
  cases hv
  exact hr
theorem TUm.put {W : World} {mb n : Nat} {m : Nat → Nat} (h : TUm W mb n m) {k : Nat} (hx : k < 18446744073709551616) (hn : n < maxLen) (v : Nat) :
    ∃ w', (Instr.mapUpdate 138 (.map (some mb)) (.int .u64 (k : Int)) (.int .u64 (v : Int))).run Try.prog W = .ok () w' ∧ TUm w' mb (n + 1) (fun x => if x = k then v else m x) ∧ W.grownBy w' (some mb) := by
  obtain ⟨D, h1, h2⟩ := h
  obtain ⟨w', hr, ho, ht⟩ := h1.store KD Try.underlying138 hn (kU_of hx) (rfl : RV (.int .u64 (v : Int)) = _)
  refine ⟨w', hr, ⟨_, ho, fun y hy => ?_⟩, ht.grown⟩
  dsimp only
  by_cases e : y = k
  · subst e; rw [if_pos rfl]; exact Maps.atKey_put_same (k := kU y) h1.isMap (show WideAt.IsKeyLit (kU y) from trivial) _ _
  · rw [if_neg e, Maps.atKey_put_other (fun h => e (kU_inj h))]
    exact h2 y hy
theorem tum_made (W : World) : TUm (W.alloc (.map #[] 0)) W.heap.size 0 (fun _ => 0) := ⟨.map [], World.ownsMap_made W _ _ _, fun _ _ => rfl⟩
/-- What an account may still be paid. -/
def LS.room (S : LS) (x : Nat) : Nat := ((byK Ac.id S.acc x).getD Ac.zero).cp - ((byK Ac.id S.acc x).getD Ac.zero).ba
theorem shOf_nil (x : Nat) : shOf [] x = 0 := rfl
theorem shOf_snoc (l : List Sh) (s : Sh) (x : Nat) : shOf (l ++ [s]) x = shOf l x + if s.tw = x then s.am else 0 := by
  unfold shOf
  rw [List.filter_append, List.map_append, List.sum_append]
  by_cases e : s.tw = x
  · simp [e]
  · simp [e]
theorem shOf_take {l : List Sh} {k : Nat} {s : Sh} (h : l[k]? = some s) (x : Nat) : shOf (l.take (k + 1)) x = shOf (l.take k) x + if s.tw = x then s.am else 0 := by
  have e1 : l.take (k + 1) = l.take k ++ [s] := by rw [List.take_add_one, h]; rfl
  rw [e1, shOf_snoc]
theorem shOf_app (l r : List Sh) (x : Nat) : shOf (l ++ r) x = shOf l x + shOf r x := by
  unfold shOf
  rw [List.filter_append, List.map_append, List.sum_append]
theorem shOf_le (l : List Sh) (k x : Nat) : shOf (l.take k) x ≤ shOf l x := by
  have := shOf_app (l.take k) (l.drop k) x
  rw [List.take_append_drop] at this
  omega
theorem shOf_sum : ∀ (l : List Sh) (x : Nat), shOf l x ≤ shSum l
  | [], x => Nat.le_refl _
  | s :: r, x => by
    have ih := shOf_sum r x
    have e1 : shOf (s :: r) x = shOf [s] x + shOf r x := shOf_app [s] r x
    have e2 : shSum (s :: r) = s.am + shSum r := by simp [shSum]
    have e3 : shOf [s] x ≤ s.am := by
      have := shOf_snoc [] s x
      rw [List.nil_append, shOf_nil] at this
      rw [this]
      split <;> omega
    omega
/-- Some account would get too much. -/
theorem LS.fit_no {S : LS} {l : List Sh} {k x : Nat} (hk : (byK Ac.id S.acc x).isSome = true) (h : S.room x < shOf (l.take k) x) : S.fit l = false := by
  obtain ⟨a, ha⟩ := Option.isSome_iff_exists.1 hk
  obtain ⟨ma, ea⟩ := byK_mem ha
  unfold LS.room at h
  rw [ha] at h
  have := shOf_le l k x
  unfold LS.fit
  rw [List.all_eq_false]
  refine ⟨a, ma, ?_⟩
  rw [ea]
  simp only [Option.getD_some] at h
  simp
  omega
/-- None does. -/
theorem LS.fit_yes {S : LS} (hu : UpK Ac.id S.acc) {l : List Sh} (h : ∀ x, shOf l x ≤ S.room x) : S.fit l = true := by
  unfold LS.fit
  rw [List.all_eq_true]
  intro a ha
  have h1 := h a.id
  unfold LS.room at h1
  rw [hu.by ha] at h1
  simpa using h1
theorem LS.known {S : LS} : ∀ {l : List Sh} (_ : S.shares l = 0), ∀ s ∈ l, s.tw ≠ 0 ∧ (byK Ac.id S.acc s.tw).isSome = true ∧ s.am ≠ 0
  | [], _, s, hs => by cases hs
  | y :: r, h, s, hs => by
    unfold LS.shares at h
    by_cases e : S.share y = 0
    · rw [if_neg (by simp [e])] at h
      rcases List.mem_cons.1 hs with rfl | hr
      · unfold LS.share at e
        split at e
        · cases e
        split at e
        · cases e
        split at e
        · cases e
        rename_i h0 h1 h2
        exact ⟨h0, by cases e' : (byK Ac.id S.acc s.tw).isSome; exact absurd e' h1; rfl, h2⟩
      · exact LS.known h s hr
    · rw [if_pos e] at h
      exact absurd h e
end Go.Proofs.Ytcfenjpdjogmdaa
