import Derived.Test.YtldhafpeigdloaaGreatDoorVWv
import Derived.Test.YtldhafpeigdloaaGreatDoorM25
import Derived.Test.YtldhafpeigdloaaGreatDoorM33
import Derived.Test.YtldhafpeigdloaaGreatDoorM21
import Derived.Test.YtldhafpeigdloaaGreatDoorM22
namespace Go.Proofs.YtldhafpeigdloaaGreatDoor
open Go.RowKit Crc

def layAllm (m : Mg) (fs : List Mf) (s : WS) : WS := fs.foldl (fun s f => f.lay m s) s
/-- While the fields are written. -/
structure Wlm (fs : List Mf) (base p : Nat) (m : Mg) (s : WS) (w : World) (k : Nat) (wr : World) : Prop where
  wrs : WrS base wr p (layAllm m (fs.take k) s)
  inv : (layAllm m (fs.take k) s).Inv
  kk : (layAllm m (fs.take k) s).K = s.K
  tch : Tch 4 w wr p
theorem layAllm_snoc (m : Mg) (fs : List Mf) (f : Mf) (s : WS) : layAllm m (fs ++ [f]) s = f.lay m (layAllm m fs s) := by simp [layAllm]
theorem Wlm.next {fs : List Mf} {base p : Nat} {m : Mg} {s : WS} {w : World} {k : Nat} {wr w1 : World} {f : Mf} (h : Wlm fs base p m s w k wr) (hf : fs[k]? = some f) (h1 : WrS base w1 p (f.lay m (layAllm m (fs.take k) s))) (h2 : Tch 4 wr w1 p) : Wlm fs base p m s w (k + 1) w1 := by
  have e : layAllm m (fs.take (k + 1)) s = f.lay m (layAllm m (fs.take k) s) := by
    rw [List.take_add_one, hf]
    exact layAllm_snoc m (fs.take k) f s
  refine ⟨by rw [e]; exact h1, by rw [e]; exact laym_inv m f h.inv, by rw [e, laym_K]; exact h.kk, h.tch.trans h2⟩

set_option maxRecDepth 10000 in
set_option maxHeartbeats 1600000 in
theorem writem_any (fs : List Mf) (hfl : fs.length ≤ 6) {base p lb : Nat} {w : World} {s : WS} {m : Mg} (hW : WrS base w p s) (hK : s.K.R = m.R) (hi : s.Inv) (hbs : base ≤ w.heap.size) (hp : base ≤ p) (hx : m.Ok base w) (hy : m.Co base) (hf : ∀ f ∈ fs, f.wok m)
    (hb : Box 4 p w lb (.cells (fs.map fun f => mv f.name (.iface 60 (.pointer (some ⟨p, 0, none⟩)))).toArray 1 (0, 0))) (hsd : (layAllm m fs s).sound) (hpl : (layAllm m fs s).place = 0) :
    Calls Tryz.prog 16 #[.pointer (some ⟨p, 0, none⟩), .slice (some ⟨lb, 0, none⟩) fs.length fs.length] w fun e w' => ∃ v, e = .returned (.tuple #[v, .nilIface]) ∧ Hid (Owns base w' v (layAllm m fs s).L ∧ Below base w w') := by
  have M := mach_prog base p hp
  have H0 : Hid (Wlm fs base p m s w 0 w) := ⟨hW, hi, rfl, Tch.refl _ _ _⟩
  have HC : Hid (∀ wr, Tch 4 w wr p → ∀ (k : Nat), k < fs.length → ∃ f, fs[k]? = some f ∧ wr.cell? ⟨lb, k, none⟩ = some (.func (.method f.name) #[.iface 60 (.pointer (some ⟨p, 0, none⟩))] #[])) := fun wr ht k hk => by
    refine ⟨fs[k], List.getElem?_eq_getElem hk, ?_⟩
    rw [block_cell (hb.step ht).at_]
    simp [List.getElem?_eq_getElem hk, mv]
  have HX : Hid (∀ wr, Tch 4 w wr p → m.Ok base wr ∧ Below base w wr ∧ base ≤ wr.heap.size) := fun wr ht => by
    have hbw := M.belowOf hW hbs ht
    exact ⟨hx.below hbw, hbw, Nat.le_trans hbs ht.size⟩
  have HF := hide hf
  have HCO := hide hy
  have HKK := hide hK
  have HE : Hid (∀ wr, Wlm fs base p m s w fs.length wr → Calls Tryz.prog 30 #[.pointer (some ⟨p, 0, none⟩)] wr fun e w' => ∃ v, e = .returned (.tuple #[v, .nilIface]) ∧ Hid (Owns base w' v (layAllm m fs s).L ∧ Below base w w')) := fun wr hl => by
    have h1 := hl.wrs
    rw [List.take_length] at h1
    have hbw := M.belowOf hW hbs hl.tch
    have h2 : Wr (layAllm m fs s).K base wr p true 0 0 (layAllm m fs s).most (layAllm m fs s).L := by
      have h3 := h1
      unfold WrS at h3
      rw [hsd.1, hsd.2, hpl] at h3
      exact h3
    refine (wBytes_good base p 0 _ _ wr h2).mono ?_
    rintro e w' ⟨v, rfl, ho, hb2⟩
    have : base ≤ wr.heap.size := Nat.le_trans hbs hl.tch.size
    exact ⟨v, rfl, ho.low this, hbw.trans (hb2.mono this)⟩
  have hm := mwm_any
  have hcf := mwc_any
  clear hW hK hi hx hy hf hb M hsd hpl
  generalize (layAllm m fs s).L = LL at *
  go_enter Tryz.func16, Tryz.ntmps16
  go_wp2
  go_loopw [10] (fun i wr => ∃ k : Nat, k ≤ fs.length ∧ i = .int .i64 k ∧ Hid (Wlm fs base p m s w k wr)) (fun i _ => fs.length - (intOf i).toNat)
  case atStart => exact ⟨0, by omega, rfl, H0.out⟩
  case round =>
    obtain ⟨k, hk, rfl, HS⟩ := hrel
    clear H0
    by_cases hlt : k < fs.length
    · obtain ⟨f, hf, c0⟩ := HC.out wr HS.out.tch k hlt
      have HFF := hide hf
      clear hf
      go_wp2_with fail
      refine (wfm_any f HS.out.wrs (by rw [HS.out.kk]; exact HKK.out) HS.out.inv (HX.out wr HS.out.tch).2.2 hp (HX.out wr HS.out.tch).1 HCO.out (HF.out f (List.mem_of_getElem? HFF.out))).mono ?_
      rintro e w1 ⟨rfl, G1⟩
      have HS1 := hide (HS.out.next HFF.out G1.out.1 G1.out.2)
      clear c0 G1 HS
      go_wp2
      exact ⟨⟨k + 1, by omega, by go_num, HS1.out⟩, by simp [intOf]; omega⟩
    · obtain rfl : k = fs.length := by omega
      go_wp2_with fail
      refine (HE.out wr HS.out).mono ?_
      rintro e w2 ⟨v, rfl, G2⟩
      go_wp2
      go_ret2
      exact ⟨_, rfl, G2⟩
end Go.Proofs.YtldhafpeigdloaaGreatDoor
namespace Go.Proofs.YtldhafpeigdloaaGreatDoor
open Go.RowKit Crc

def Vi.vv (t : Vi) : Vv := ⟨t.slot, t.num, t.node.toNat, t.st, t.rs.map Rq.val⟩
/-- A message's values. -/
def Mg.mv (m : Mg) : Mv := ⟨m.num, m.node.toNat, m.slot, m.low, m.vs.map Vi.vv, m.st, m.rs.map Rq.val, m.seq, m.stamp, m.code, m.C, m.D, m.sus, m.idx, m.cnt, m.root, m.hs⟩
/-- No node of a message is below 0. -/
def Mg.pos (m : Mg) : Prop := 0 ≤ m.node ∧ ∀ t ∈ m.vs, 0 ≤ t.node
def Mf.ps (m : Mg) : Mf → Prop
  | .ballot => 0 ≤ m.node
  | .votes => ∀ t ∈ m.vs, 0 ≤ t.node
  | _ => True
theorem bndY_0 {n a b : Nat} : bndY n a b = 0 ↔ a ≤ n ∧ n ≤ b := by
  unfold bndY
  by_cases h : n < a ∨ b < n
  · rw [if_pos h]; constructor
    · intro e; cases e
    · intro e; omega
  · rw [if_neg h]; simp only [true_iff]; omega
theorem cntY_0 {n most : Nat} : cntY (n : Int) (most : Int) = 0 ↔ n ≤ most := by
  unfold cntY
  by_cases h : (n : Int) < 0 ∨ (most : Int) < (n : Int)
  · rw [if_pos h]; constructor
    · intro e; cases e
    · intro e; omega
  · rw [if_neg h]; simp only [true_iff]; omega
theorem balY_0 {num : Nat} {node : Int} : balY num node = 0 ↔ 0 ≤ node ∧ num ≤ 1099511627776 ∧ node.toNat ≤ 6 := by
  unfold balY
  by_cases h : balBad num node
  · rw [if_pos h]; unfold balBad at h; constructor
    · intro e; cases e
    · intro e; omega
  · rw [if_neg h]; unfold balBad at h; simp only [true_iff]; omega
theorem vF_0 {t : Vi} {l : Nat} (hn : Num t.rs) : vF l t = 0 ↔ 0 ≤ t.node ∧ t.vv.Ok l := by
  unfold vF
  by_cases h1 : 1099511627776 < t.slot
  · rw [if_pos h1]; constructor
    · intro e; cases e
    · rintro ⟨_, e⟩; have : t.slot ≤ 1099511627776 := e.hi; omega
  · rw [if_neg h1]
    by_cases h2 : t.slot < l
    · rw [if_pos h2]; constructor
      · intro e; cases e
      · rintro ⟨_, e⟩; have : l ≤ t.slot := e.lo; omega
    · rw [if_neg h2]
      by_cases h3 : balBad t.num t.node
      · rw [if_pos h3]; constructor
        · intro e; cases e
        · rintro ⟨e0, e⟩
          have e1 : t.num ≤ 1099511627776 := e.num
          have e2 : t.node.toNat ≤ 6 := e.node
          unfold balBad at h3
          omega
      · rw [if_neg h3, bFault_iff hn]
        unfold balBad at h3
        constructor
        · intro e; exact ⟨by omega, by show l ≤ t.slot; omega, by show t.slot ≤ _; omega, by show t.num ≤ _; omega, by show t.node.toNat ≤ 6; omega, e⟩
        · rintro ⟨_, e⟩; exact e.bat
theorem vsGo_0 : ∀ (ts : List Vi) (l : Nat), (∀ t ∈ ts, Num t.rs) → (vsGo l ts = 0 ↔ (∀ t ∈ ts, 0 ≤ t.node) ∧ VtsOk l (ts.map Vi.vv))
  | [], l, _ => by simp [vsGo, VtsOk]
  | t :: r, l, h => by
    have h0 := vF_0 (l := l) (h t (by simp))
    rw [vsGo]
    by_cases hv : vF l t = 0
    · rw [if_neg (by simp [hv])]
      obtain ⟨e1, e2⟩ := h0.1 hv
      have es : t.slot ≤ 1099511627776 := e2.hi
      rw [vNx_small es, vsGo_0 r (t.slot + 1) (fun x hx => h x (by simp [hx]))]
      simp only [List.mem_cons, forall_eq_or_imp, List.map_cons, VtsOk]
      constructor
      · rintro ⟨a, b⟩; exact ⟨⟨e1, a⟩, e2, b⟩
      · rintro ⟨⟨_, a⟩, _, b⟩; exact ⟨a, b⟩
    · rw [if_pos hv]
      simp only [List.mem_cons, forall_eq_or_imp, List.map_cons, VtsOk]
      constructor
      · intro e; exact absurd e hv
      · rintro ⟨⟨a, _⟩, b, _⟩; exact absurd (h0.2 ⟨a, b⟩) hv
theorem vsFault_0 {ts : List Vi} {l : Nat} (h : ∀ t ∈ ts, Num t.rs) : vsFault l ts = 0 ↔ (∀ t ∈ ts, 0 ≤ t.node) ∧ (ts.map Vi.vv).length ≤ 8 ∧ VtsOk l (ts.map Vi.vv) := by
  unfold vsFault
  rw [List.length_map]
  by_cases h8 : 8 < ts.length
  · rw [if_pos h8]; constructor
    · intro e; cases e
    · rintro ⟨_, e, _⟩; omega
  · rw [if_neg h8, vsGo_0 ts l h]
    constructor
    · rintro ⟨a, b⟩; exact ⟨a, by omega, b⟩
    · rintro ⟨a, _, b⟩; exact ⟨a, b⟩
section
variable {lim : Nat} {w : World} {m : Mg}
theorem Mg.Ok.vnum (hx : m.Ok lim w) : ∀ t ∈ m.vs, Num t.rs := fun t ht => (hx.hV.ok t ht).hR.nums
/-- Why a field may not be: nothing, just if it may be. -/
theorem yv_0 (f : Mf) (hx : m.Ok lim w) : f.yv m = 0 ↔ f.ok m.mv ∧ f.ps m := by
  have hC := hx.hC.1
  have hD := hx.hD.1
  cases f with
  | seq => exact ⟨fun _ => ⟨hx.hseq, trivial⟩, fun _ => rfl⟩
  | command => exact (cntY_0 (n := m.cn) (most := 700)).trans ⟨fun e => ⟨by show m.C.length ≤ 700; omega, trivial⟩, fun e => by have : m.C.length ≤ 700 := e.1; omega⟩
  | stamp => exact bndY_0.trans ⟨fun e => ⟨e.2, trivial⟩, fun e => ⟨Nat.zero_le _, e.1⟩⟩
  | outcome =>
    refine bndY_0.trans ?_
    have := hx.hcode
    unfold codeN
    constructor
    · intro e; exact ⟨by show 0 ≤ m.code ∧ m.code ≤ 1023; omega, trivial⟩
    · intro e; have e1 : 0 ≤ m.code ∧ m.code ≤ 1023 := e.1; omega
  | result => exact (cntY_0 (n := m.dn) (most := 256)).trans ⟨fun e => ⟨by show m.D.length ≤ 256; omega, trivial⟩, fun e => by have : m.D.length ≤ 256 := e.1; omega⟩
  | ballot => exact balY_0.trans ⟨fun e => ⟨e.2, e.1⟩, fun e => ⟨e.2, e.1⟩⟩
  | low => exact bndY_0.trans ⟨fun e => ⟨e.2, trivial⟩, fun e => ⟨Nat.zero_le _, e.1⟩⟩
  | votes => exact (vsFault_0 hx.vnum).trans ⟨fun e => ⟨e.2, e.1⟩, fun e => ⟨e.2, e.1⟩⟩
  | slot => exact bndY_0.trans ⟨fun e => ⟨e.2, trivial⟩, fun e => ⟨Nat.zero_le _, e.1⟩⟩
  | batch => exact (bFault_iff hx.hR.nums).trans ⟨fun e => ⟨e, trivial⟩, fun e => e.1⟩
  | suspect => exact ⟨fun _ => ⟨trivial, trivial⟩, fun _ => rfl⟩
  | index => exact bndY_0.trans ⟨fun e => ⟨e.2, trivial⟩, fun e => ⟨Nat.zero_le _, e.1⟩⟩
  | total => exact bndY_0.trans ⟨fun e => ⟨e, trivial⟩, fun e => e.1⟩
  | root => exact ⟨fun _ => ⟨hx.rl, trivial⟩, fun _ => rfl⟩
  | chunk =>
    show chunkY m.dn = 0 ↔ (1 ≤ m.D.length ∧ m.D.length ≤ 1024) ∧ True
    unfold chunkY
    by_cases h0 : m.dn = 0
    · rw [if_pos h0]; constructor
      · intro e; cases e
      · intro e; omega
    · rw [if_neg h0]
      exact (cntY_0 (n := m.dn) (most := 1024)).trans ⟨fun e => ⟨by omega, trivial⟩, fun e => by omega⟩
  | path =>
    refine (cntY_0 (n := m.pn) (most := 6)).trans ?_
    have := hx.hpn
    exact ⟨fun e => ⟨⟨by show m.hs.length ≤ 6; omega, fun h hh => (hx.hP.len h hh).1⟩, trivial⟩, fun e => by have : m.hs.length ≤ 6 := e.1.1; omega⟩
theorem zl_0 (hx : m.Ok lim w) {j : Nat} (h1 : 1 ≤ j) (h2 : j ≤ 15) : m.zl.getD j false = true ↔ blankAt m.mv j ∧ (j = 1 → 0 ≤ m.node) := by
  have hC := hx.hC.1
  have hD := hx.hD.1
  have hv := hx.hvn
  have hn := hx.hn
  have hp := hx.hpn
  rcases j_cases h1 h2 with rfl | rfl | rfl | rfl | rfl | rfl | rfl | rfl | rfl | rfl | rfl | rfl | rfl | rfl | rfl
  · show decide (m.num = 0 ∧ m.node = 0) = true ↔ (m.num = 0 ∧ m.node.toNat = 0) ∧ (1 = 1 → 0 ≤ m.node)
    simp only [decide_eq_true_eq]
    constructor
    · rintro ⟨a, b⟩; omega
    · rintro ⟨⟨a, b⟩, c⟩; have := c trivial; omega
  · show decide (m.slot = 0) = true ↔ m.slot = 0 ∧ _
    simp
  · show decide (m.low = 0) = true ↔ m.low = 0 ∧ _
    simp
  · show decide (m.vn = 0) = true ↔ m.vs.map Vi.vv = [] ∧ _
    simp only [decide_eq_true_eq, ← List.length_eq_zero_iff, List.length_map]
    omega
  · show decide (m.st = 0 ∧ m.n = 0) = true ↔ (m.st = 0 ∧ m.rs.map Rq.val = []) ∧ _
    simp only [decide_eq_true_eq, ← List.length_eq_zero_iff, List.length_map]
    omega
  · show decide (m.seq = 0) = true ↔ m.seq = 0 ∧ _
    simp
  · show decide (m.stamp = 0) = true ↔ m.stamp = 0 ∧ _
    simp
  · show decide (m.code = 0) = true ↔ m.code = 0 ∧ _
    simp
  · show decide (m.cn = 0) = true ↔ m.C = [] ∧ _
    simp only [decide_eq_true_eq, ← List.length_eq_zero_iff]
    omega
  · show decide (m.dn = 0) = true ↔ m.D = [] ∧ _
    simp only [decide_eq_true_eq, ← List.length_eq_zero_iff]
    omega
  · show (!m.sus) = true ↔ m.sus = false ∧ _
    simp
  · show decide (m.idx = 0) = true ↔ m.idx = 0 ∧ _
    simp
  · show decide (m.cnt = 0) = true ↔ m.cnt = 0 ∧ _
    simp
  · show decide (m.root = List.replicate 32 0) = true ↔ m.root = List.replicate 32 0 ∧ _
    simp
  · show decide (m.pn = 0) = true ↔ m.hs = [] ∧ _
    simp only [decide_eq_true_eq, ← List.length_eq_zero_iff]
    omega
end
/-- When first finds nothing. -/
theorem fbGo_0 (U : List Bool) (Y : List Int) (Z : List Bool) : ∀ n i, (fbGo U Y Z n i).2 = 0 ↔ ∀ j, i ≤ j → j < i + n → (U.getD j false = true → Y.getD j 0 = 0) ∧ (U.getD j false = false → Z.getD j false = true)
  | 0, i => by
    constructor
    · intro _ j h1 h2; omega
    · intro _; rfl
  | n + 1, i => by
    have ih := fbGo_0 U Y Z n (i + 1)
    rw [fbGo]
    by_cases c1 : U.getD i false = true ∧ Y.getD i 0 ≠ 0
    · rw [if_pos c1]
      constructor
      · intro e; exact absurd e c1.2
      · intro e; exact absurd ((e i (Nat.le_refl _) (by omega)).1 c1.1) c1.2
    · rw [if_neg c1]
      by_cases c2 : U.getD i false = false ∧ Z.getD i false = false
      · rw [if_pos c2]
        constructor
        · intro e; cases e
        · intro e; have := (e i (Nat.le_refl _) (by omega)).2 c2.1; rw [c2.2] at this; cases this
      · rw [if_neg c2, ih]
        constructor
        · intro e j h1 h2
          rcases Nat.eq_or_lt_of_le h1 with rfl | h3
          · refine ⟨fun u => Classical.byContradiction fun y => c1 ⟨u, y⟩, fun u => ?_⟩
            cases hz : Z.getD i false with
            | true => rfl
            | false => exact absurd ⟨u, hz⟩ c2
          · exact e j h3 (by omega)
        · intro e j h1 h2; exact e j (by omega) (by omega)
theorem fbGo_00 (U : List Bool) (Y : List Int) (Z : List Bool) : ∀ n i, (fbGo U Y Z n i).2 = 0 → fbGo U Y Z n i = (0, 0)
  | 0, i, _ => rfl
  | n + 1, i, h => by
    rw [fbGo] at h ⊢
    by_cases c1 : U.getD i false = true ∧ Y.getD i 0 ≠ 0
    · rw [if_pos c1] at h; exact absurd h c1.2
    · rw [if_neg c1] at h ⊢
      by_cases c2 : U.getD i false = false ∧ Z.getD i false = false
      · rw [if_pos c2] at h; cases h
      · rw [if_neg c2] at h ⊢; exact fbGo_00 U Y Z n (i + 1) h
theorem ix_lt (f : Mf) : f.ix < 16 ∧ 1 ≤ f.ix := by cases f <;> decide
theorem ck_U (m : Mg) (j : Nat) : ∀ (fs : List Mf) (x : List Bool × List Int), x.1.length = 16 → ((ckAllm m fs x).1.getD j false = true ↔ x.1.getD j false = true ∨ ∃ f ∈ fs, f.ix = j)
  | [], x, _ => by simp [ckAllm]
  | f :: t, x, h => by
    rw [ckAllm, ck_U m j t _ (by simpa using h)]
    have hl := (ix_lt f).1
    by_cases e : f.ix = j
    · subst e
      simp [List.getD, List.getElem?_set_self (by omega : f.ix < x.1.length)]
    · simp only [List.getD, List.getElem?_set_ne e]
      simp [e]
theorem ck_Y0 (m : Mg) (j : Nat) : ∀ (fs : List Mf) (x : List Bool × List Int), (∀ f ∈ fs, f.ix ≠ j) → (ckAllm m fs x).2.getD j 0 = x.2.getD j 0
  | [], x, _ => rfl
  | f :: t, x, h => by
    rw [ckAllm, ck_Y0 m j t _ (fun g hg => h g (by simp [hg]))]
    simp only [List.getD, List.getElem?_set_ne (h f (by simp))]
theorem ck_Y (m : Mg) : ∀ (fs : List Mf) (x : List Bool × List Int), x.2.length = 16 → fs.Pairwise Far → ∀ f ∈ fs, (ckAllm m fs x).2.getD f.ix 0 = f.yv m
  | [], x, _, _, f, hf => by cases hf
  | g :: t, x, h, hp, f, hf => by
    obtain ⟨p1, p2⟩ := List.pairwise_cons.1 hp
    rw [ckAllm]
    rcases List.mem_cons.1 hf with rfl | hf
    · rw [ck_Y0 m f.ix t _ (fun q hq e => (p1 q hq).1 e.symm)]
      have hl := (ix_lt f).1
      simp [List.getD, List.getElem?_set_self (by omega : f.ix < x.2.length)]
    · exact ck_Y m t _ (by simpa using h) p2 f hf
/-- What EncodeMsg refuses: the reason and the place. -/
def mNo (m : Mg) : Int × Int := if m.kind < 1 ∨ 10 < m.kind then (25, 0) else ((mFb m (mfOf m.kind.toNat)).2, (mFb m (mfOf m.kind.toNat)).1)
theorem mNo_iff {lim : Nat} {w : World} {m : Mg} (hx : m.Ok lim w) : (mNo m).1 = 0 ↔ m.pos ∧ m.mv.Ok m.kind.toNat := by
  unfold mNo
  by_cases hk : m.kind < 1 ∨ 10 < m.kind
  · rw [if_pos hk]
    constructor
    · intro e; cases e
    · rintro ⟨_, e⟩; have := e.k1; have := e.k10; omega
  · rw [if_neg hk]
    have k1 : 1 ≤ m.kind.toNat := by omega
    have k2 : m.kind.toNat ≤ 10 := by omega
    generalize m.kind.toNat = K at *
    have hU := fun j => ck_U m j (mfOf K) (U0, Y0) rfl
    have hY := ck_Y m (mfOf K) (U0, Y0) rfl (mf_far k1 k2)
    have hU0 : ∀ j, U0.getD j false = true ↔ False := fun j => by
      constructor
      · intro e
        unfold U0 at e
        rw [List.getD_eq_getElem?_getD, List.getElem?_replicate] at e
        split at e <;> cases e
      · exact False.elim
    show (mFb m (mfOf K)).2 = 0 ↔ _
    unfold mFb
    rw [fbGo_0]
    constructor
    · intro H
      have H1 : ∀ f ∈ mfOf K, f.ok m.mv ∧ f.ps m := fun f hf => by
        have l := ix_lt f
        refine (yv_0 f hx).1 ?_
        rw [← hY f hf]
        exact (H f.ix l.2 (by omega)).1 ((hU f.ix).2 (.inr ⟨f, hf, rfl⟩))
      have H2 : ∀ j, 1 ≤ j → j ≤ 15 → (∀ f ∈ mfOf K, f.ix ≠ j) → blankAt m.mv j ∧ (j = 1 → 0 ≤ m.node) := fun j j1 j2 hj => by
        refine (zl_0 hx j1 j2).1 ((H j j1 (by omega)).2 ?_)
        refine Bool.eq_false_iff.2 (fun e => ?_)
        rcases (hU j).1 e with e | ⟨f, hf, e⟩
        · exact (hU0 j).1 e
        · exact hj f hf e
      refine ⟨⟨?_, ?_⟩, k1, k2, fun f hf => (H1 f hf).1, fun j j1 j2 hj => (H2 j j1 j2 hj).1⟩
      · by_cases hb : Mf.ballot ∈ mfOf K
        · exact (H1 _ hb).2
        · refine (H2 1 (by omega) (by omega) (fun f hf e => ?_)).2 rfl
          cases f <;> first | exact hb hf | exact absurd e (by decide)
      · by_cases hb : Mf.votes ∈ mfOf K
        · exact (H1 _ hb).2
        · have e : m.vs.map Vi.vv = [] := (H2 4 (by omega) (by omega) (fun f hf e => by cases f <;> first | exact hb hf | exact absurd e (by decide))).1
          rw [List.map_eq_nil_iff] at e
          rw [e]
          intro t ht; cases ht
    · rintro ⟨hp, ok⟩ j j1 j2
      refine ⟨fun u => ?_, fun u => ?_⟩
      · rcases (hU j).1 u with e | ⟨f, hf, rfl⟩
        · exact absurd e (fun e => (hU0 j).1 e)
        · rw [hY f hf, yv_0 f hx]
          refine ⟨ok.ok f hf, ?_⟩
          cases f <;> first | exact trivial | exact hp.1 | exact hp.2
      · refine (zl_0 hx j1 (by omega)).2 ⟨ok.bl j j1 (by omega) (fun f hf e => ?_), fun _ => hp.1⟩
        have : (ckAllm m (mfOf K) (U0, Y0)).1.getD j false = true := (hU j).2 (.inr ⟨f, hf, e⟩)
        rw [u] at this
        cases this
theorem mNo_0 {m : Mg} (h : (mNo m).1 = 0) : (mNo m).2 = 0 := by
  unfold mNo at h ⊢
  by_cases hk : m.kind < 1 ∨ 10 < m.kind
  · rw [if_pos hk] at h; cases h
  · rw [if_neg hk] at h ⊢
    have := fbGo_00 _ _ _ 15 1 h
    show (mFb m (mfOf m.kind.toNat)).1 = 0
    unfold mFb
    rw [this]
end Go.Proofs.YtldhafpeigdloaaGreatDoor
namespace Go.Proofs.YtldhafpeigdloaaGreatDoor
open Go.RowKit Crc

def low4 (s : Nat) : List Nat := [s % 256, s / 256 % 256, s / 65536 % 256, s / 16777216]
def headB (kind : Nat) (B : List Nat) : List Nat := [81, 77] ++ [1, kind] ++ big B.length 4 ++ B
def frameB (kind : Nat) (B : List Nat) : List Nat := headB kind B ++ low4 (Crc.sum (headB kind B))

set_option maxRecDepth 10000 in
set_option maxHeartbeats 400000 in
theorem frame_long (k : Int) (ao : Option Addr) (n cap : Nat) (w : World) (h : 65495 < n) (hl : n ≤ 140737488355328) :
    Calls Tryz.prog 17 #[.int .u8 k, .slice ao n cap] w fun e w' => ∃ v, e = .returned (.tuple #[.slice none 0 0, v]) ∧ IsFault w' v 65507 21 ∧ Below w.heap.size w w' := by
  go_enter Tryz.func17, Tryz.ntmps17
  go_wp2_with fail
  refine (refusal_any _ _ _).mono ?_
  rintro e w2 ⟨v, rfl, rfl, hf, hb⟩
  go_wp2
  go_ret2
  exact ⟨_, rfl, hf, hb⟩

theorem big2 : big 20813 2 = [81, 77] := by decide
theorem headB_lt (k : Nat) (B : List Nat) (hk : k < 256) (hB : ∀ x ∈ B, x < 256) : ∀ x ∈ headB k B, x < 256 := by
  intro x hx
  simp only [headB, List.mem_append, List.mem_cons, List.not_mem_nil, or_false] at hx
  rcases hx with (((rfl | rfl) | rfl | rfl) | hx) | hx
  all_goals first | omega | exact hB x hx | exact bigTo_lt _ _ _ x hx
theorem headB_len (k : Nat) (B : List Nat) : (headB k B).length = 8 + B.length := by
  simp [headB, big, big_len]; omega

theorem vals_low4 (S : Nat) : vals (low4 S) = [.int .u8 ((S : Int) % (256 : Int)), .int .u8 ((S : Int) / (256 : Int) % (256 : Int)), .int .u8 ((S : Int) / (65536 : Int) % (256 : Int)), .int .u8 ((S : Int) / (16777216 : Int))] := by
  simp [vals, low4]

set_option maxRecDepth 10000 in
set_option maxHeartbeats 1600000 in
theorem frame_some (k : Nat) (b off : Nat) (B : List Nat) (n cap : Nat) (w : World) (hn : n = B.length) (hl : n ≤ 65495) (hk : k < 256) (hB : ∀ x ∈ B, x < 256) (hbw : b < w.heap.size) (h0 : 0 < w.heap.size) (hT : Table w)
  (hc : ∀ i, i < n → w.cell? ⟨b, off + i, none⟩ = some (.int .u8 ((B.getD i 0 : Nat) : Int))) :
    Calls Tryz.prog 17 #[.int .u8 k, .slice (some ⟨b, off, none⟩) n cap] w fun e w' => e = .returned (.tuple #[.slice (some ⟨w.heap.size, 0, none⟩) (12 + n) (12 + n), .nilIface]) ∧
      w'.ownsRow w.heap.size 5 1 (.slice (some ⟨w.heap.size, 0, none⟩) (12 + n) (12 + n)) (12 + n) (vals (frameB k B)) ∧ Below w.heap.size w w' := by
  obtain ⟨i0, hi, hz0, hz1, hz2⟩ := info_parts Tryz.info5
  have HS : Hid (∀ w1 : World, Below w.heap.size w w1 → ∀ j v, (vals B)[j]? = some v → w1.cell? ((⟨b, off, none⟩ : Addr).add j) = some v) := by
    intro w1 hb
    exact vals_cell (fun i hi => (hb.cell (p := ⟨b, off + i, none⟩) hbw).trans (hc i (by omega)))
  have HT : Hid (∀ w1 : World, Below w.heap.size w w1 → Table w1) := fun w1 hb i hi => (hb.cell (p := ⟨0, i, none⟩) h0).trans (hT i hi)
  have HN : Hid (n = B.length) := hn
  have HB : Hid (∀ x ∈ B, x < 256) := hB
  clear hn hc hT hB hbw h0
  go_enter Tryz.func17, Tryz.ntmps17
  go_wp2_with (first
    | (at_make; refine wpList_make_own _ rfl _ _ 31 rfl w.heap.size 5 i0 (.int .u8 0) 1 Tryz.underlying31 hi hz0 hz1 .i64 .i64 _ (12 + n) rfl rfl (by omega) (by rw [hz2]; omega) (by unfold maxLen; omega) (Nat.le_refl _) ?_; intro w0 hown0 hgrow0))
  go_wp2_with fail
  refine (append_any w.heap.size 0 (12 + n) 20813 2 _ _ [] w0 rfl rfl (by omega) (by omega) hown0).mono ?_
  rintro e w1 ⟨rfl, hown1, hgrow1⟩
  rw [big2] at hown1
  go_wp2_with (first
    | (at_builtin; refine wpList_append_own_spare _ rfl (.tmp 18) (.tmp 20) 31 rfl w.heap.size 5 i0 1 Tryz.underlying31 hi hz1 w.heap.size 2 (12 + n) _ rfl (hown1.alloc _) ⟨w1.heap.size, 0, none⟩ 2 2 [.int .u8 1, .int .u8 (k : Int)] rfl rfl (cell_two_new _ _ _ _) (one2 _ _) (by omega) ?_; intro w2 hown2 hgrow2))
  have hb0 : Below w.heap.size w w0 := (Below.refl _ _).grown hgrow0 (Nat.le_refl _) (fun k h => by cases h)
  have hs0 := hb0.size
  have hb1 : Below w.heap.size w w1 := hb0.grown hgrow1 (by omega) (fun k h => by cases h; exact Nat.le_refl _)
  have hs1 := hb1.size
  have hb2 : Below w.heap.size w w2 := (hb1.alloc (by omega) _).grown hgrow2 (by simp; omega) (fun k h => by cases h; exact Nat.le_refl _)
  have hs2 := hb2.size
  clear hown0 hown1 hgrow0 hgrow1 hgrow2 hb0 hb1 hs0 hs1
  refine (append_any w.heap.size 4 (12 + n) n 4 _ _ _ w2 rfl rfl (by omega) (by omega) hown2).mono ?_
  rintro e w3 ⟨rfl, hown3, hgrow3⟩
  have hb3 : Below w.heap.size w w3 := hb2.grown hgrow3 (by omega) (fun k h => by cases h; exact Nat.le_refl _)
  have hs3 := hb3.size
  have hsrc := HS.out w3 hb3
  have HSR : Hid (∀ j v, (vals B)[j]? = some v → w3.cell? ((⟨b, off, none⟩ : Addr).add j) = some v) := hsrc
  clear hsrc hown2 hgrow3 hb2 hs2
  go_wp2_with (first
    | (at_builtin; refine wpList_append_own_spare _ rfl (.tmp 27) (.tmp 28) 31 rfl w.heap.size 5 i0 1 Tryz.underlying31 hi hz1 w.heap.size 8 (12 + n) _ rfl hown3 ⟨b, off, none⟩ n cap (vals B) rfl (by rw [vals_len]; have := HN.out; omega) HSR.out (vals_one' B) (by omega) ?_; intro w4 hown4 hgrow4))
  have hb4 : Below w.heap.size w w4 := hb3.grown hgrow4 (by omega) (fun k h => by cases h; exact Nat.le_refl _)
  have hs4 := hb4.size
  have HH : Hid (w4.ownsRow w.heap.size 5 1 (.slice (some ⟨w.heap.size, 0, none⟩) (8 + n) (12 + n)) (8 + n) (vals (headB k B))) := by
    show w4.ownsRow _ _ _ _ _ _
    have e : vals (headB k B) = [] ++ vals [81, 77] ++ [.int .u8 1, .int .u8 (k : Int)] ++ vals (big n 4) ++ vals B := by
      unfold headB; rw [vals_append, vals_append, vals_append, HN.out]; rfl
    rw [e]; exact hown4
  clear hown4 hown3 hgrow4 hb3 hs3 HSR
  have HCL : Hid (∀ i, i < 8 + n → w4.cell? ⟨w.heap.size, 0 + i, none⟩ = some (.int .u8 (((headB k B).getD i 0 : Nat) : Int))) := by
    intro i hi; rw [Nat.zero_add]; exact owned_cells HH.out i hi
  refine (sum_any w.heap.size 0 _ (headB k B) (8 + n) (12 + n) w4 (fun _ => rfl) (by rw [headB_len]; have := HN.out; omega) (by omega) (headB_lt k B hk HB.out) (HT.out w4 hb4) HCL.out).mono ?_
  rintro e w5 ⟨rfl, rfl⟩
  have hSlt : Crc.sum (headB k B) < 4294967296 := xor_lt32 _ _ (sumFrom_lt _ _ (by omega) (headB_lt k B hk HB.out)) (by omega)
  have HE : Hid (vals (frameB k B) = vals (headB k B) ++ [.int .u8 (((Crc.sum (headB k B) : Nat) : Int) % (256 : Int)), .int .u8 (((Crc.sum (headB k B) : Nat) : Int) / (256 : Int) % (256 : Int)), .int .u8 (((Crc.sum (headB k B) : Nat) : Int) / (65536 : Int) % (256 : Int)), .int .u8 (((Crc.sum (headB k B) : Nat) : Int) / (16777216 : Int))]) := by
    show _ = _; unfold frameB; rw [vals_append, vals_low4]
  clear HCL
  generalize Crc.sum (headB k B) = S at *
  go_wp2_with (first
    | (at_builtin; refine wpList_append_own_spare _ rfl (.tmp 32) (.tmp 44) 31 rfl w.heap.size 5 i0 1 Tryz.underlying31 hi hz1 w.heap.size (8 + n) (12 + n) _ rfl (HH.out.alloc _) ⟨w5.heap.size, 0, none⟩ 4 4 [.int .u8 ((S : Int) % (256 : Int)), .int .u8 ((S : Int) / (256 : Int) % (256 : Int)), .int .u8 ((S : Int) / (65536 : Int) % (256 : Int)), .int .u8 ((S : Int) / (16777216 : Int))] rfl rfl (cell_four_new _ _ _ _ _ _) (one4 _ _ _ _) (by omega) ?_; intro w6 hown6 hgrow6))
  go_ret2
  refine ⟨by rw [show 8 + n + 4 = 12 + n by omega]; rfl, ?_, (hb4.alloc (by omega) _).grown hgrow6 (by simp; omega) (fun k h => by cases h; exact Nat.le_refl _)⟩
  rw [HE.out]
  rw [show 12 + n = 8 + n + 4 by omega] at hown6 ⊢
  exact hown6
end Go.Proofs.YtldhafpeigdloaaGreatDoor
namespace Go.Proofs.YtldhafpeigdloaaGreatDoor
open Go.RowKit Crc

theorem big4 (v : Nat) : big v 4 = [v / 16777216 % 256, v / 65536 % 256, v / 256 % 256, v % 256] := by
  simp [big, bigTo]
theorem headB_eq (k : Nat) (B : List Nat) : headB k B = 81 :: 77 :: 1 :: k :: B.length / 16777216 % 256 :: B.length / 65536 % 256 :: B.length / 256 % 256 :: B.length % 256 :: B := by
  unfold headB; rw [big4]; rfl
theorem sum_lt (B : List Nat) (hB : ∀ x ∈ B, x < 256) : Crc.sum B < 4294967296 := xor_lt32 _ _ (sumFrom_lt _ _ (by omega) hB) (by omega)
theorem frameB_len (k : Nat) (B : List Nat) : (frameB k B).length = 12 + B.length := by
  unfold frameB; rw [List.length_append, headB_len]; simp [low4]; omega
theorem frameB_lt (k : Nat) (B : List Nat) (hk : k < 256) (hB : ∀ x ∈ B, x < 256) : ∀ x ∈ frameB k B, x < 256 := by
  intro x hx
  have hS := sum_lt _ (headB_lt k B hk hB)
  unfold frameB at hx
  rcases List.mem_append.1 hx with h | h
  · exact headB_lt k B hk hB x h
  · simp only [low4, List.mem_cons, List.not_mem_nil, or_false] at h
    rcases h with rfl | rfl | rfl | rfl <;> omega
theorem frameB_eq (k : Nat) (B : List Nat) : frameB k B = 81 :: 77 :: 1 :: k :: B.length / 16777216 % 256 :: B.length / 65536 % 256 :: B.length / 256 % 256 :: B.length % 256 :: (B ++ low4 (Crc.sum (headB k B))) := by
  unfold frameB; rw [headB_eq]; rfl
theorem frameB_kind (k : Nat) (B : List Nat) : (frameB k B).getD 3 0 = k := by rw [frameB_eq]; rfl
theorem frameB_body (k : Nat) (B : List Nat) : ((frameB k B).drop 8).take B.length = B := by
  rw [frameB_eq]
  simp
theorem frameB_head (k : Nat) (B : List Nat) : (frameB k B).take (8 + B.length) = headB k B := by
  unfold frameB
  rw [← headB_len k B, List.take_left']
  rfl
theorem frameB_low (k : Nat) (B : List Nat) (hk : k < 256) (hB : ∀ x ∈ B, x < 256) : lowOf (frameB k B) = Crc.sum (headB k B) := by
  have hS := sum_lt _ (headB_lt k B hk hB)
  have hl := headB_len k B
  have g : ∀ i, (frameB k B).getD (8 + B.length + i) 0 = (low4 (Crc.sum (headB k B))).getD i 0 := by
    intro i
    unfold frameB
    rw [List.getD_eq_getElem?_getD, List.getElem?_append_right (by omega), ← List.getD_eq_getElem?_getD, show 8 + B.length + i - (headB k B).length = i by omega]
  unfold lowOf
  rw [frameB_len, show 12 + B.length - 4 = 8 + B.length + 0 by omega, g 0]
  simp only [Nat.add_zero]
  rw [g 1, g 2, g 3]
  generalize Crc.sum (headB k B) = S at *
  simp only [low4, lo4, List.getD_cons_zero, List.getD_cons_succ]
  omega
theorem frame_good (k : Nat) (B : List Nat) (hk : k < 256) (hB : ∀ x ∈ B, x < 256) (hl : B.length ≤ 65495) : ff (frameB k B) = (0, 0) := by
  have h2 : hi ((frameB k B).take 2) = 20813 := by rw [frameB_eq]; rfl
  have h3 : (frameB k B).getD 2 0 = 1 := by rw [frameB_eq]; rfl
  have h4 : hi (((frameB k B).drop 4).take 4) = B.length := by
    rw [frameB_eq]
    simp only [List.drop_succ_cons, List.drop_zero, List.take_succ_cons, List.take_zero, hi, List.foldl_cons, List.foldl_nil]
    omega
  unfold ff
  rw [frameB_len, h2, h3, h4, if_neg (by omega), if_neg (by omega), if_neg (by simp), if_neg (by simp), if_neg (by omega), if_neg (by omega),
    show 12 + B.length - 4 = 8 + B.length by omega, frameB_head, frameB_low k B hk hB, if_neg (by simp)]
end Go.Proofs.YtldhafpeigdloaaGreatDoor
namespace Go.Proofs.YtldhafpeigdloaaGreatDoor
open Go.RowKit Crc

theorem layH_ok : ∀ (h : List Nat) (s : WS), s.sound → ((s.L.length + h.length : Nat) : Int) ≤ s.most → (∀ x ∈ h, x < 256) → layH s h = { s with L := s.L ++ h }
  | [], s, _, _, _ => by simp [layH]
  | x :: t, s, hs, hl, hb => by
    have e := big1 (hb x (by simp))
    simp only [List.length_cons] at hl
    have e1 := put_fits (s := s) (F := big x 1) hs (by rw [e]; simp only [List.length_cons, List.length_nil]; omega)
    rw [layH, e1, layH_ok t { s with L := s.L ++ big x 1 } hs (by rw [e]; simp only [List.length_append, List.length_cons, List.length_nil]; omega) (fun y hy => hb y (by simp [hy]))]
    simp [e]
theorem layHs_ok : ∀ (hh : List (List Nat)) (s : WS), s.sound → ((s.L.length + 32 * hh.length : Nat) : Int) ≤ s.most → (∀ h ∈ hh, h.length = 32 ∧ ∀ x ∈ h, x < 256) → layHs s hh = { s with L := s.L ++ hh.flatten } ∧ hh.flatten.length = 32 * hh.length
  | [], s, _, _, _ => by simp [layHs]
  | h :: t, s, hs, hl, hb => by
    obtain ⟨h1, h2⟩ := hb h (by simp)
    simp only [List.length_cons] at hl
    have e1 := layH_ok h s hs (by rw [h1]; omega) h2
    obtain ⟨e2, e3⟩ := layHs_ok t { s with L := s.L ++ h } hs (by simp only [List.length_append, h1]; omega) (fun y hy => hb y (by simp [hy]))
    rw [layHs, e1, e2]
    refine ⟨by simp, ?_⟩
    simp only [List.flatten_cons, List.length_append, e3, h1, List.length_cons]
    omega
theorem encL_len {st : Nat} {rs : List Rq} (h8 : rs.length ≤ 8) (h : ∀ r ∈ rs, r.cn ≤ 700 ∧ r.cn = r.C.length) : (encL st rs).length ≤ 5900 := by
  have l1 : (numB st).length ≤ 10 := numTo_len 9 st
  have l2 : (numB rs.length).length ≤ 10 := numTo_len 9 rs.length
  have l3 := enc_le rs h
  simp only [encL, List.length_append]
  omega
theorem layVs_ok : ∀ (ts : List Vi) (s : WS), s.sound → ((s.L.length + 5940 * ts.length : Nat) : Int) ≤ s.most → (∀ t ∈ ts, t.rs.length ≤ 8 ∧ ∀ r ∈ t.rs, r.cn ≤ 700 ∧ r.cn = r.C.length) → layVs s ts = { s with L := s.L ++ ((ts.map Vi.vv).map Vv.enc).flatten } ∧ ((ts.map Vi.vv).map Vv.enc).flatten.length ≤ 5940 * ts.length
  | [], s, _, _, _ => by simp [layVs]
  | t :: r, s, hs, hl, hb => by
    obtain ⟨h1, h2⟩ := hb t (by simp)
    simp only [List.length_cons] at hl
    have l1 : (numB t.slot).length ≤ 10 := numTo_len 9 _
    have l2 : (numB t.num).length ≤ 10 := numTo_len 9 _
    have l3 := big_one t.node.toNat
    have l4 := encL_len (st := t.st) h1 h2
    have e1 := put_fits (s := s) (F := numB t.slot) hs (by omega)
    have e2 := put_fits (s := { s with L := s.L ++ numB t.slot }) (F := numB t.num) hs (by simp only [List.length_append]; omega)
    have e3 := put_fits (s := { s with L := s.L ++ numB t.slot ++ numB t.num }) (F := big t.node.toNat 1) hs (by simp only [List.length_append]; omega)
    have hq : (s.L ++ numB t.slot ++ numB t.num ++ big t.node.toNat 1).length + 5900 ≤ s.L.length + 5940 * (r.length + 1) := by
      simp only [List.length_append]
      omega
    have hq2 : (((s.L ++ numB t.slot ++ numB t.num ++ big t.node.toNat 1).length + 5900 : Nat) : Int) ≤ s.most := Int.le_trans (Int.ofNat_le.2 hq) hl
    have hq3 : (((s.L ++ numB t.slot ++ numB t.num ++ big t.node.toNat 1 ++ encL t.st t.rs).length + 5940 * r.length : Nat) : Int) ≤ s.most := by
      refine Int.le_trans (Int.ofNat_le.2 ?_) hl
      simp only [List.length_append]
      omega
    have e4 := layB_at (s := { s with L := s.L ++ numB t.slot ++ numB t.num ++ big t.node.toNat 1 }) (st := t.st) (rs := t.rs) hs hq2 h1 h2
    obtain ⟨e5, e6⟩ := layVs_ok r { s with L := s.L ++ numB t.slot ++ numB t.num ++ big t.node.toNat 1 ++ encL t.st t.rs } hs hq3 (fun y hy => hb y (by simp [hy]))
    have ev : t.vv.enc = numB t.slot ++ (numB t.num ++ (big t.node.toNat 1 ++ encL t.st t.rs)) := (congrArg (fun x => numB t.slot ++ (numB t.num ++ (big t.node.toNat 1 ++ x))) (encL_val t.st t.rs (fun r hr => (h2 r hr).2))).symm
    rw [layVs, e1, e2, e3, e4, e5]
    simp only [List.map_cons, List.flatten_cons, List.length_append, List.length_cons, ev]
    refine ⟨by simp [List.append_assoc], ?_⟩
    omega
def Mf.room : Mf → Nat
  | .seq => 10
  | .command => 710
  | .stamp => 10
  | .outcome => 10
  | .result => 266
  | .ballot => 11
  | .low => 10
  | .votes => 47530
  | .slot => 10
  | .batch => 5900
  | .suspect => 1
  | .index => 10
  | .total => 10
  | .root => 32
  | .chunk => 1034
  | .path => 202
section
variable {lim : Nat} {w : World} {m : Mg}
theorem vs_fit (hx : m.Ok lim w) (ok : Mf.ok m.mv .votes) : m.vs.length ≤ 8 ∧ ∀ t ∈ m.vs, t.rs.length ≤ 8 ∧ ∀ r ∈ t.rs, r.cn ≤ 700 ∧ r.cn = r.C.length := by
  have h8 : (m.vs.map Vi.vv).length ≤ 8 := ok.1
  rw [List.length_map] at h8
  refine ⟨h8, fun t ht => ?_⟩
  have key : ∀ (ts : List Vi) (l : Nat), VtsOk l (ts.map Vi.vv) → t ∈ ts → VsOk t.st (t.rs.map Rq.val) := by
    intro ts
    induction ts with
    | nil => intro l _ ht; cases ht
    | cons a r ih =>
      intro l h ht
      rcases List.mem_cons.1 ht with rfl | ht
      · exact h.1.bat
      · exact ih _ h.2 ht
  have hv := key m.vs m.low ok.2 ht
  have hn := hx.vnum t ht
  refine ⟨by have := hv.2.1; rw [List.length_map] at this; exact this, fun r hr => ?_⟩
  have h1 := (hn r hr).1
  have h2 := (hv.2.2 r.val (List.mem_map.2 ⟨r, hr, rfl⟩)).2.2.2
  exact ⟨by rw [h1]; exact h2, h1⟩
theorem rs_fit (hx : m.Ok lim w) (ok : Mf.ok m.mv .batch) : m.rs.length ≤ 8 ∧ ∀ r ∈ m.rs, r.cn ≤ 700 ∧ r.cn = r.C.length := by
  have ok : VsOk m.st (m.rs.map Rq.val) := ok
  refine ⟨by have := ok.2.1; rw [List.length_map] at this; exact this, fun r hr => ?_⟩
  have h1 := (hx.hR.nums r hr).1
  have h2 := (ok.2.2 r.val (List.mem_map.2 ⟨r, hr, rfl⟩)).2.2.2
  exact ⟨by rw [h1]; exact h2, h1⟩
theorem laym_fits (f : Mf) {s : WS} (hs : s.sound) (hl : ((s.L.length + f.room : Nat) : Int) ≤ s.most) (hx : m.Ok lim w) (ok : f.ok m.mv) : f.lay m s = { s with L := s.L ++ f.enc m.mv } ∧ (f.enc m.mv).length ≤ f.room := by
  have one : ∀ v, ((s.L.length + 10 : Nat) : Int) ≤ s.most → s.put (numB v) 0 = { s with L := s.L ++ numB v } ∧ (numB v).length ≤ 10 := fun v hv => by
    have l1 : (numB v).length ≤ 10 := numTo_len 9 v
    exact ⟨put_fits hs (by omega), l1⟩
  have blob : ∀ (n most : Nat) (C : List Nat), n = C.length → n ≤ most → ((s.L.length + (10 + most) : Nat) : Int) ≤ s.most → s.put (numB n ++ C) (cntY n most) = { s with L := s.L ++ (numB C.length ++ C) } ∧ (numB C.length ++ C).length ≤ 10 + most := fun n most C h1 h2 h3 => by
    have l1 : (numB n).length ≤ 10 := numTo_len 9 n
    rw [cntY_0.2 h2, ← h1]
    refine ⟨put_fits hs (by simp only [List.length_append]; omega), ?_⟩
    simp only [List.length_append]; omega
  cases f with
  | seq => exact one _ hl
  | command => exact blob m.cn 700 m.C hx.hC.1 (by rw [hx.hC.1]; exact ok) hl
  | stamp => exact one _ hl
  | outcome =>
    have e : codeN m.code = m.code.toNat := by have o : 0 ≤ m.code ∧ m.code ≤ 1023 := ok; unfold codeN; omega
    show s.put (numB (codeN m.code)) 0 = { s with L := s.L ++ numB m.code.toNat } ∧ _
    rw [e]; exact one _ hl
  | result => exact blob m.dn 256 m.D hx.hD.1 (by rw [hx.hD.1]; exact ok) hl
  | ballot =>
    have l1 : (numB m.num).length ≤ 10 := numTo_len 9 m.num
    have l2 := big_one m.node.toNat
    simp only [Mf.room] at hl
    have e1 := put_fits (s := s) (F := numB m.num) hs (by omega)
    have e2 := put_fits (s := { s with L := s.L ++ numB m.num }) (F := big m.node.toNat 1) hs (by simp only [List.length_append]; omega)
    refine ⟨?_, ?_⟩
    · show (s.put (numB m.num) 0).put (big m.node.toNat 1) 0 = { s with L := s.L ++ (numB m.num ++ big m.node.toNat 1) }
      rw [e1, e2]; simp
    · show (numB m.num ++ big m.node.toNat 1).length ≤ 11
      simp only [List.length_append]; omega
  | low => exact one _ hl
  | votes =>
    obtain ⟨h8, hr⟩ := vs_fit hx ok
    have hn := hx.hvn
    simp only [Mf.room] at hl
    obtain ⟨e1, l1⟩ := one m.vn (by omega)
    obtain ⟨e2, l2⟩ := layVs_ok m.vs { s with L := s.L ++ numB m.vn } hs (by simp only [List.length_append]; omega) hr
    have e : Mf.enc m.mv .votes = numB m.vn ++ ((m.vs.map Vi.vv).map Vv.enc).flatten := by show numB (m.vs.map Vi.vv).length ++ _ = _; rw [List.length_map, hn]; rfl
    rw [e]
    refine ⟨?_, ?_⟩
    · show layVs (s.put (numB m.vn) 0) m.vs = _
      rw [e1, e2]; simp
    · show (numB m.vn ++ ((m.vs.map Vi.vv).map Vv.enc).flatten).length ≤ 47530
      simp only [List.length_append]; omega
  | slot => exact one _ hl
  | batch =>
    obtain ⟨h8, hr⟩ := rs_fit hx ok
    simp only [Mf.room] at hl
    have e : Mf.enc m.mv .batch = encL m.st m.rs := (encL_val m.st m.rs (fun r h => (hr r h).2)).symm
    rw [e]
    exact ⟨layB_at hs hl h8 hr, encL_len h8 hr⟩
  | suspect =>
    have l2 := big_one (if m.sus then 1 else 0)
    simp only [Mf.room] at hl
    exact ⟨put_fits hs (by omega), Nat.le_of_eq l2⟩
  | index => exact one _ hl
  | total => exact one _ hl
  | root =>
    have h32 := hx.rl
    simp only [Mf.room] at hl
    exact ⟨layH_ok m.root s hs (by omega) hx.rb, Nat.le_of_eq h32⟩
  | chunk => exact blob m.dn 1024 m.D hx.hD.1 (by rw [hx.hD.1]; exact ok.2) hl
  | path =>
    have hn := hx.hpn
    have h6 : m.hs.length ≤ 6 := ok.1
    simp only [Mf.room] at hl
    obtain ⟨e1, l1⟩ := one m.pn (by omega)
    obtain ⟨e2, l2⟩ := layHs_ok m.hs { s with L := s.L ++ numB m.pn } hs (by simp only [List.length_append]; omega) hx.hP.len
    have e : Mf.enc m.mv .path = numB m.pn ++ m.hs.flatten := by show numB m.hs.length ++ _ = _; rw [hn]; rfl
    rw [e]
    refine ⟨?_, ?_⟩
    · show layHs (s.put (numB m.pn) 0) m.hs = _
      rw [e1, e2]; simp
    · show (numB m.pn ++ m.hs.flatten).length ≤ 202
      simp only [List.length_append]; omega
theorem layAllm_fits (hx : m.Ok lim w) : ∀ (fs : List Mf) (s : WS), s.sound → ((s.L.length + (fs.map Mf.room).sum : Nat) : Int) ≤ s.most → (∀ f ∈ fs, f.ok m.mv) → layAllm m fs s = { s with L := s.L ++ encs fs m.mv } ∧ (encs fs m.mv).length ≤ (fs.map Mf.room).sum
  | [], s, _, _, _ => by simp [layAllm, encs]
  | f :: t, s, hs, hl, hf => by
    simp only [List.map_cons, List.sum_cons] at hl
    obtain ⟨e1, e2⟩ := laym_fits f hs (by omega) hx (hf f (by simp))
    obtain ⟨i1, i2⟩ := layAllm_fits hx t { s with L := s.L ++ f.enc m.mv } hs (by simp only [List.length_append]; omega) (fun x h => hf x (by simp [h]))
    refine ⟨?_, ?_⟩
    · show layAllm m t (f.lay m s) = _
      rw [e1, i1]
      simp [encs, List.append_assoc]
    · simp only [encs, List.map_cons, List.flatten_cons, List.length_append, List.sum_cons] at i2 ⊢
      omega
end
theorem roomm_le {k : Nat} (h1 : 1 ≤ k) (h2 : k ≤ 10) : ((mfOf k).map Mf.room).sum ≤ 60000 := by
  rcases k_cases h1 h2 with rfl | rfl | rfl | rfl | rfl | rfl | rfl | rfl | rfl | rfl <;> decide
theorem wok_any {lim : Nat} {w : World} {m : Mg} (hx : m.Ok lim w) (hp : m.pos) {k : Nat} (ok : m.mv.Ok k) : ∀ f ∈ mfOf k, f.wok m := by
  intro f hf
  have o := ok.ok f hf
  cases f with
  | ballot => have o : m.num ≤ 1099511627776 ∧ m.node.toNat ≤ 6 := o; have := hp.1; exact ⟨by omega, by omega⟩
  | votes =>
    obtain ⟨h8, hr⟩ := vs_fit hx o
    refine ⟨by rw [← hx.hvn]; exact h8, fun t ht => ⟨hp.2 t ht, ?_, (hr t ht).1, fun r hrr => ((hr t ht).2 r hrr).1⟩⟩
    have key : ∀ (ts : List Vi) (l : Nat), VtsOk l (ts.map Vi.vv) → t ∈ ts → t.node.toNat ≤ 6 := by
      intro ts
      induction ts with
      | nil => intro l _ ht; cases ht
      | cons a r ih =>
        intro l h ht
        rcases List.mem_cons.1 ht with rfl | ht
        · exact h.1.node
        · exact ih _ h.2 ht
    have := key m.vs m.low o.2 ht
    have := hp.2 t ht
    omega
  | batch => obtain ⟨h8, hr⟩ := rs_fit hx o; exact ⟨h8, fun r h => (hr r h).1⟩
  | path => rw [Mf.wok, ← hx.hpn]; exact o.1
  | _ => trivial
/-- A message's datagram. -/
def mBody (m : Mg) : List Nat := encs (mfOf m.kind.toNat) m.mv
def mRes (m : Mg) : List Nat := if (mNo m).1 = 0 then frameB m.kind.toNat (mBody m) else []
end Go.Proofs.YtldhafpeigdloaaGreatDoor
