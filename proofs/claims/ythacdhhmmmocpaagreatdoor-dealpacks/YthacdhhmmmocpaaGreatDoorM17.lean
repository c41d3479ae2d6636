import Derived.Test.YthacdhhmmmocpaaGreatDoorM13
import Derived.Test.YthacdhhmmmocpaaGreatDoorM16
import Derived.Lib.AppendStr
import Derived.Laws.RangeAny
import Derived.Laws.BytesString
namespace Go.Proofs.YthacdhhmmmocpaaGreatDoor
open Go.RowKit Crc

/-- A text's bytes. -/
def strB (s : ByteArray) : List Nat := s.data.toList.map (·.toNat)
theorem strB_len (s : ByteArray) : (strB s).length = s.size := by simp [strB]
theorem strB_lt (s : ByteArray) : ∀ x ∈ strB s, x < 256 := by
  intro x hx
  simp only [strB, List.mem_map] at hx
  obtain ⟨b, _, rfl⟩ := hx
  exact b.toNat_lt
theorem strB_vals (s : ByteArray) : vals (strB s) = Go.Lib.strCells s := by
  simp [vals, strB, Go.Lib.strCells]

theorem run_append_string_ext {P : Program} {w : World} (base : Nat) (t u ty e : TypeId) (i : TypeInfo) (ht : P.underlying t = some (.slice e)) (hu : P.underlying u = some .string) (hi : P.info? e = some i) (hz : i.zero = some (.int .u8 0))
    (hsize : i.size = 1) (hby : i.bytes = 1)
    (v : Value) (n : Nat) (xs : List Value) (hown : w.ownsRow base e 1 v n xs) (s : ByteArray) (hbytes : n + s.size ≤ 140737488355328) (hbase : base ≤ w.heap.size) :
    ∃ v' w', (Builtin.append_ #[t, u] ty #[v, .string s]).run P w = .ok v' w' ∧ w'.ownsRow base e 1 v' (n + s.size) (xs ++ Go.Lib.strCells s) ∧ Ext w w' v v' := by
  have h63 : n + s.size ≤ maxLen := by unfold maxLen; omega
  obtain ⟨v', w', hr, ho, hg, _⟩ := Go.Lib.run_append_own_string (P := P) w base t u ty e i ht hu hi hz hsize hby v n xs hown s h63 hbytes hbase
  refine ⟨v', w', hr, ho, hg, ?_⟩
  have hxl : xs.length = n := by simpa using hown.1
  rcases hown.2 with ⟨rfl, rfl⟩ | ⟨g, cap, cur, rfl, hbg, hgg, hnc, hcm, hcs, htake⟩
  · have hx : xs = [] := List.eq_nil_of_length_eq_zero hxl
    subst hx
    obtain ⟨v2, w2, hr2, ho2, _, _⟩ := Go.Lib.run_append_own_string (P := P) w w.heap.size t u ty e i ht hu hi hz hsize hby (.slice none 0 0) 0 [] (World.ownsRow_nil w _ _ _) s h63 hbytes (Nat.le_refl _)
    rw [hr] at hr2
    cases hr2
    exact fun g hg => .inr (ho2.lt g hg).1
  · by_cases hroom : n + s.size ≤ cap
    · have hr2 := Go.Lib.run_append_room_string (P := P) w t u ty e i ht hu hi hsize g n cap cur hgg s hroom (by omega)
      rw [hr] at hr2
      cases hr2
      exact fun g' hg' => .inl hg'
    · have holds : ∀ j u, xs[j]? = some u → w.cell? ((⟨g, 0, none⟩ : Addr).add j) = some u := hown.cells (g := g) rfl
      have hr2 := Go.Lib.run_append_grow_string (P := P) w t u ty e i (.int .u8 0) ht hu hi hz ⟨g, 0, none⟩ n cap xs (by rw [hsize]; simpa using hxl) holds s (by omega) (by unfold maxLen at h63; omega) (by rw [hby]; exact growslice_fits (by omega) (by omega))
      rw [hr] at hr2
      cases hr2
      intro g' hg'
      simp [Value.ownBlock] at hg'
      exact .inr (by omega)

theorem wpList_append_string_ext {P : Program} (w : World) {ops : Array Oper} {rest : List Oper} {o : Oper} {a : Act} {Q : Exit → Act → World → Prop} (hgd : o.guard = none) (sl x : Operand) (t u : TypeId)
    (ho : o.op = .call { callee := .builtin .append, args := #[sl, x], argTypes := #[t, u] })
    (base : Nat) (e : TypeId) (i : TypeInfo) (ht : P.underlying t = some (.slice e)) (hu : P.underlying u = some .string) (hi : P.info? e = some i) (hz : i.zero = some (.int .u8 0))
    (hsize : i.size = 1) (hby : i.bytes = 1)
    (v : Value) (n : Nat) (xs : List Value) (hs : a.eval sl = v) (hown : w.ownsRow base e 1 v n xs) (s : ByteArray) (hx : a.eval x = .string s)
    (hbytes : n + s.size ≤ 140737488355328) (hbase : base ≤ w.heap.size)
    (h : ∀ v' w', w'.ownsRow base e 1 v' (n + s.size) (xs ++ Go.Lib.strCells s) → Ext w w' v v' → wpList P ops Q rest (a.put o.dst v') w') : wpList P ops Q (o :: rest) a w := by
  refine wpList_plain hgd fun K hK => ?_
  obtain ⟨v', w', hr, h2, h3⟩ := run_append_string_ext (P := P) (w := w) base t u o.type e i ht hu hi hz hsize hby v n xs hown s hbytes hbase
  unfold Oper.wp execOp
  simp only [ho, resolve, invoke, builtin, Sem.run_bind, Sem.run_pure, Result.andThen_ok, List.map_toArray, List.map_cons, List.map_nil, hs, hx, hr]
  exact hK _ _ (h v' w' h2 h3)

def Ascii (s : ByteArray) : Prop := ∀ i (h : i < s.size), (s[i]'h).toNat < 128

set_option maxRecDepth 10000 in
set_option maxHeartbeats 400000 in
theorem isText_ascii (s : ByteArray) (w : World) (hs : Ascii s) :
    Calls Tryz.prog 72 #[.string s] w fun e w' => e = .returned (.bool true) ∧ ∃ pos, w' = w.iter s pos := by
  have HA := hide hs
  clear hs
  go_enter Tryz.func72, Tryz.ntmps72
  go_wp2
  go_loopw [2] (fun b w' => ∃ pos : Nat, w' = w.iter s pos ∧ b = .bool false) (fun _ w' => s.size - w'.iterPos w.heap.size)
  case atStart => exact ⟨0, rfl, rfl⟩
  case round =>
    obtain ⟨pos, rfl, rfl⟩ := hrel
    by_cases hp : pos < s.size
    · have hd := decode_ascii s pos hp (HA.out pos hp)
      have hc := HA.out pos hp
      obtain ⟨c, hcc⟩ : ∃ c, c = (s[pos]'hp).toNat := ⟨_, rfl⟩
      have hnx : ∀ ty, (Instr.next (.pointer (some ⟨w.heap.size, 0, none⟩)) true ty).run Tryz.prog (w.iter s pos) = .ok (.tuple #[.bool true, .int .i64 pos, .int .i32 (c : Nat)]) (w.iter s (pos + 1)) := by
        intro ty
        rw [run_next_any w s pos ty hp, hd, hcc]
      rw [← hcc] at hc
      have hne : ((c : Int) == 65533) = false := by simp; omega
      clear hd hcc
      go_wp2
      go_roundw
      case rel => exact ⟨pos + 1, rfl, rfl⟩
      case measure => simp; omega
    · have hnx : ∀ ty, (Instr.next (.pointer (some ⟨w.heap.size, 0, none⟩)) true ty).run Tryz.prog (w.iter s pos) = _ := fun ty => run_next_end w s pos ty hp
      go_wp2
      go_ret
      exact ⟨rfl, _, rfl⟩

set_option maxRecDepth 10000 in
set_option maxHeartbeats 400000 in
theorem textFault_ascii (s : ByteArray) (most : Int) (w : World) (hs : Ascii s) (hl : (s.size : Int) ≤ most) :
    Calls Tryz.prog 50 #[.string s, .int .i64 most] w fun e w' => e = .returned (.int .i64 0) ∧ ∃ pos, w' = w.iter s pos := by
  have HT := hide (isText_ascii s w hs)
  have d : decide (most < (s.size : Int)) = false := by simp; omega
  clear hs
  go_enter Tryz.func50, Tryz.ntmps50
  go_wp2_with fail
  refine HT.out.mono ?_
  rintro e w1 ⟨rfl, pos, rfl⟩
  go_wp2
  go_ret
  exact ⟨rfl, pos, rfl⟩
end Go.Proofs.YthacdhhmmmocpaaGreatDoor
namespace Go.Proofs.YthacdhhmmmocpaaGreatDoor
open Go.RowKit Crc
variable {K : Kd}

theorem Wr.alloc {base : Nat} {w : World} {p : Nat} {made : Bool} {place why most : Int} {L : List Nat} (h : Wr K base w p made place why most L) (o : Obj) : Wr K base (w.alloc o) p made place why most L := by
  obtain ⟨v, hb, hO, hne⟩ := h
  exact ⟨v, (Below.heap_alloc w o p (block_lt hb)).trans hb, hO.quiet (World.grownBy_alloc w o none), hne⟩

set_option maxRecDepth 10000 in
set_option maxHeartbeats 1600000 in
theorem wText_good (base lim p : Nat) (s : ByteArray) (cm place most : Int) (L : List Nat) (w : World) (hs : Ascii s) (hcm : (s.size : Int) ≤ cm) (hW : Wr K base w p true place 0 most L) (hm : most ≤ 65507) (hfit : ((L.length + (numB s.size).length + s.size : Nat) : Int) ≤ most) (hbs : base ≤ w.heap.size) (hl1 : lim ≤ base) (hl2 : lim ≤ p) :
    Calls Tryz.prog 20 #[.pointer (some ⟨p, 0, none⟩), .string s, .int .i64 cm] w fun e w' => e = .returned (.tuple #[]) ∧ Wr K base w' p true place 0 most (L ++ numB s.size ++ strB s) ∧ Below lim w w' := by
  obtain ⟨i0, hi, hz0, hz1, hz2⟩ := info_parts Tryz.info5
  have hlw : lim ≤ w.heap.size := by omega
  have HTF := hide (textFault_ascii s cm w hs hcm)
  have HNS : Hid (Calls Tryz.prog 49 #[.int .u64 (s.size : Int)] w fun e w' => e = .returned (.int .i64 ((numB s.size).length : Nat)) ∧ w' = w) := numSize_any s.size _ w rfl (by omega)
  have HOP := hide (fun (w1 : World) (pos : Nat) (h : w1 = w.iter s pos) => wr_open (K := K) (lim := lim) (w := w1) (place := place) (most := most) (L := L) (by rw [h]; exact hW.alloc (.stringIter s pos)) hm (by omega) hl1 hl2)
  have HBI : Hid (∀ pos, Below lim w (w.iter s pos) ∧ base ≤ (w.iter s pos).heap.size) := fun pos => ⟨(Below.refl lim w).alloc hlw _, by unfold World.iter; simp; omega⟩
  have hnl : (numB s.size).length ≤ 10 := numTo_len 9 s.size
  have hsz : s.size ≤ 65507 := by omega
  have HST := hide (strB_vals s)
  have HSL := hide (strB_len s)
  clear hW hs
  generalize hns : (numB s.size).length = ns at *
  have HNS2 := hide hns
  clear hns
  go_enter Tryz.func20, Tryz.ntmps20
  go_wp2_with fail
  refine HNS.out.mono ?_
  rintro e w0 ⟨rfl, rfl⟩
  go_wp2_with fail
  refine HTF.out.mono ?_
  rintro e w1 ⟨rfl, pos, hw1⟩
  obtain ⟨ao, cap, c4, hO, htk, hfin⟩ := HOP.out w1 pos hw1
  obtain ⟨hbel, hbs1⟩ := HBI.out pos
  rw [← hw1] at hbel hbs1
  have HFIN := hide hfin
  have HTK : Hid (Calls Tryz.prog 48 #[.pointer (some ⟨p, 0, none⟩), .int .i64 ((ns : Int) + (s.size : Int)), .int .i64 0] w1 fun e w' => e = .returned (.bool true) ∧ ∃ q, w' = w1.drewN q) := htk _ (by omega)
  have HAP : Hid (∀ q, Calls Tryz.prog 51 #[.slice ao L.length cap, .int .u64 (s.size : Int)] (w1.drewN q) fun e w' => ∃ v', e = .returned v' ∧ Owns base w' v' (L ++ numB s.size) ∧ Ext (w1.drewN q) w' (.slice ao L.length cap) v') :=
    fun q => appendNum_any base _ L s.size _ (w1.drewN q) rfl (by omega) (hO.drew q) (by omega) hbs1
  have HBEL := hide hbel
  have HBS : Hid (∀ (w2 : World) (v' : Value), Ext w1 w2 (.slice ao L.length cap) v' → base ≤ w2.heap.size) := fun w2 v' he => Nat.le_trans hbs1 he.1.size
  clear hfin htk hO hw1 HOP HBI hbel hbs1 HNS HTF
  go_wp2_with fail
  refine HTK.out.mono ?_
  rintro e w3 ⟨rfl, q, rfl⟩
  go_wp2_with fail
  refine (HAP.out q).mono ?_
  rintro e w2 ⟨v', rfl, ho, he⟩
  have HE := hide (ext_drew he)
  have HO := hide ho
  obtain ⟨a', c', rfl, hs', _⟩ := ho.form
  have hll : (L ++ numB s.size).length = L.length + ns := by rw [List.length_append, HNS2.out]
  have hbd : (L ++ numB s.size).length ≤ 65507 := by omega
  clear ho he hs' HAP HTK hll
  generalize hm' : (L ++ numB s.size).length = m at *
  have HOW : Hid (w2.ownsRow base 5 1 (.slice a' m c') m (vals (L ++ numB s.size))) := by
    have h := HO.out.1
    rw [hm'] at h
    exact h
  have HMM := hide hm'
  clear hm'
  go_wp2_with (first
    | (at_builtin; refine wpList_append_string_ext _ rfl (.tmp 26) (.tmp 27) 26 9 rfl base 5 i0 Tryz.underlying26 Tryz.underlying9 hi hz0 hz1 hz2 _ m (vals (L ++ numB s.size)) rfl HOW.out s rfl (by omega) (HBS.out w2 _ HE.out) ?_; intro v' w3 hown3 hext3; have HO3 : Hid (Owns base w3 v' (L ++ numB s.size ++ strB s)) := owns_join HO.out (strB_lt s) (by rw [HMM.out, HSL.out]; omega) (by rw [HMM.out, HSL.out, HST.out]; exact hown3); obtain ⟨k4, f4, hr⟩ := HFIN.out w3 v' _ HO3.out (HE.out.trans hext3); obtain ⟨a3, c3, rfl, _, _⟩ := HO3.out.form; have HR := hide hr; clear hr hown3 hext3))
  go_end0
  refine ⟨rfl, ?_⟩
  first
    | exact ⟨HR.out.1, HBEL.out.trans HR.out.2⟩
    | (rw [show L.length + ((numB s.size).length + (strB s).length) = (L ++ numB s.size ++ strB s).length by simp]; exact ⟨HR.out.1, HBEL.out.trans HR.out.2⟩)
end Go.Proofs.YthacdhhmmmocpaaGreatDoor
