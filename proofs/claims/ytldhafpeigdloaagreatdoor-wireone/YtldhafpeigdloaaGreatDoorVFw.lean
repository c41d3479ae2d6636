import Derived.Test.YtldhafpeigdloaaGreatDoorM34
import Derived.Test.YtldhafpeigdloaaGreatDoorVCk
namespace Go.Proofs.YtldhafpeigdloaaGreatDoor
open Go.RowKit Crc

def Mf.wfn : Mf → Nat
  | .seq => 91
  | .command => 84
  | .stamp => 93
  | .outcome => 87
  | .result => 89
  | .ballot => 81
  | .low => 86
  | .votes => 96
  | .slot => 92
  | .batch => 82
  | .suspect => 94
  | .index => 85
  | .total => 95
  | .root => 90
  | .chunk => 83
  | .path => 88
theorem mwm_any (f : Mf) (a : Addr) (w : World) : (method 265 60 (.pointer (some a)) f.name).run Tryz.prog w = .ok (f.wfn, .pointer (some a)) w := by
  cases f <;> kernel_rfl
theorem mwc_any (f : Mf) (args : Array Value) (w : World) : (callFunc f.wfn args).run Tryz.prog w = .ok (.enter f.wfn args) w := by
  cases f <;> kernel_rfl
theorem codeN_lt (c : Int) : codeN c < 18446744073709551616 := by unfold codeN; omega
/-- Votes and a path as they are laid down. -/
def layVs : WS → List Vi → WS
  | s, [] => s
  | s, t :: r => layVs (layB (((s.put (numB t.slot) 0).put (numB t.num) 0).put (big t.node.toNat 1) 0) t.st t.rs) r
def layHs : WS → List (List Nat) → WS
  | s, [] => s
  | s, h :: r => layHs (layH s h) r
/-- A field as it is laid down. -/
def Mf.lay (m : Mg) : Mf → WS → WS
  | .seq, s => s.put (numB m.seq) 0
  | .command, s => s.put (numB m.cn ++ m.C) (cntY m.cn 700)
  | .stamp, s => s.put (numB m.stamp) 0
  | .outcome, s => s.put (numB (codeN m.code)) 0
  | .result, s => s.put (numB m.dn ++ m.D) (cntY m.dn 256)
  | .ballot, s => (s.put (numB m.num) 0).put (big m.node.toNat 1) 0
  | .low, s => s.put (numB m.low) 0
  | .votes, s => layVs (s.put (numB m.vn) 0) m.vs
  | .slot, s => s.put (numB m.slot) 0
  | .batch, s => layB s m.st m.rs
  | .suspect, s => s.put (big (if m.sus then 1 else 0) 1) 0
  | .index, s => s.put (numB m.idx) 0
  | .total, s => s.put (numB m.cnt) 0
  | .root, s => layH s m.root
  | .chunk, s => s.put (numB m.dn ++ m.D) (cntY m.dn 1024)
  | .path, s => layHs (s.put (numB m.pn) 0) m.hs
/-- What a field must be to be laid down. -/
def Mf.wok (m : Mg) : Mf → Prop
  | .ballot => 0 ≤ m.node ∧ m.node < 256
  | .votes => m.vn ≤ 8 ∧ ∀ t ∈ m.vs, 0 ≤ t.node ∧ t.node < 256 ∧ t.rs.length ≤ 8 ∧ ∀ r ∈ t.rs, r.cn ≤ 700
  | .batch => m.rs.length ≤ 8 ∧ ∀ r ∈ m.rs, r.cn ≤ 700
  | .path => m.pn ≤ 6
  | _ => True
theorem layH_K : ∀ (h : List Nat) (s : WS), (layH s h).K = s.K
  | [], _ => rfl
  | x :: t, s => by rw [layH, layH_K t, put_K]
theorem layH_inv : ∀ (h : List Nat) (s : WS), s.Inv → (layH s h).Inv
  | [], _, i => i
  | x :: t, s, i => by rw [layH]; exact layH_inv t _ (WS.put_inv i _ _)
theorem layHs_K : ∀ (h : List (List Nat)) (s : WS), (layHs s h).K = s.K
  | [], _ => rfl
  | x :: t, s => by rw [layHs, layHs_K t, layH_K]
theorem layHs_inv : ∀ (h : List (List Nat)) (s : WS), s.Inv → (layHs s h).Inv
  | [], _, i => i
  | x :: t, s, i => by rw [layHs]; exact layHs_inv t _ (layH_inv _ _ i)
theorem layB_K (s : WS) (st : Nat) (rs : List Rq) : (layB s st rs).K = s.K := (layGo_K _ _).trans ((put_K _ _ _).trans (put_K _ _ _))
theorem layB_inv {s : WS} (st : Nat) (rs : List Rq) (h : s.Inv) : (layB s st rs).Inv := layGo_inv _ _ (WS.put_inv (WS.put_inv h _ _) _ _)
theorem layVs_K : ∀ (h : List Vi) (s : WS), (layVs s h).K = s.K
  | [], _ => rfl
  | x :: t, s => by rw [layVs, layVs_K t, layB_K, put_K, put_K, put_K]
theorem layVs_inv : ∀ (h : List Vi) (s : WS), s.Inv → (layVs s h).Inv
  | [], _, i => i
  | x :: t, s, i => by rw [layVs]; exact layVs_inv t _ (layB_inv _ _ (WS.put_inv (WS.put_inv (WS.put_inv i _ _) _ _) _ _))
theorem laym_K (m : Mg) (f : Mf) (s : WS) : (f.lay m s).K = s.K := by
  cases f with
  | ballot => exact (put_K _ _ _).trans (put_K _ _ _)
  | batch => exact layB_K _ _ _
  | votes => exact (layVs_K _ _).trans (put_K _ _ _)
  | root => exact layH_K _ _
  | path => exact (layHs_K _ _).trans (put_K _ _ _)
  | _ => exact put_K _ _ _
theorem laym_inv (m : Mg) (f : Mf) {s : WS} (h : s.Inv) : (f.lay m s).Inv := by
  cases f with
  | ballot => exact WS.put_inv (WS.put_inv h _ _) _ _
  | batch => exact layB_inv _ _ h
  | votes => exact layVs_inv _ _ (WS.put_inv h _ _)
  | root => exact layH_inv _ _ h
  | path => exact layHs_inv _ _ (WS.put_inv h _ _)
  | _ => exact WS.put_inv h _ _
section
variable {base p : Nat} {w : World} {s : WS} {m : Mg}
set_option maxRecDepth 10000 in
theorem wfm_slot (hW : WrS base w p s) (hK : s.K.R = m.R) (hi : s.Inv) (hbs : base ≤ w.heap.size) (hx : m.Ok base w) :
    Calls Tryz.prog 92 #[.pointer (some ⟨p, 0, none⟩)] w fun e w' => e = .returned (.tuple #[]) ∧ Hid (WrS base w' p (s.put (numB m.slot) 0) ∧ Tch 4 w w' p) := by
  have c1 := hW.cellR 3 (u := .int .u64 (m.slot : Int)) (by rw [hK]; rfl)
  simp only [Nat.reduceAdd] at c1
  have HB := hide (numS hW.drew hi hbs m.slot hx.hslot)
  clear hW hK hi hx
  go_enter Tryz.func92, Tryz.ntmps92
  go_wp2_with fail
  go_region_with (go_at_call 100; refine HB.out.mono ?_; rintro e w1 ⟨rfl, H1⟩)
  all_goals go_wp2
  all_goals go_end0
  all_goals exact ⟨rfl, H1.out.1, tch_drew H1.out.2⟩
set_option maxRecDepth 10000 in
theorem wfm_low (hW : WrS base w p s) (hK : s.K.R = m.R) (hi : s.Inv) (hbs : base ≤ w.heap.size) (hx : m.Ok base w) :
    Calls Tryz.prog 86 #[.pointer (some ⟨p, 0, none⟩)] w fun e w' => e = .returned (.tuple #[]) ∧ Hid (WrS base w' p (s.put (numB m.low) 0) ∧ Tch 4 w w' p) := by
  have c1 := hW.cellR 4 (u := .int .u64 (m.low : Int)) (by rw [hK]; rfl)
  simp only [Nat.reduceAdd] at c1
  have HB := hide (numS hW.drew hi hbs m.low hx.hlow)
  clear hW hK hi hx
  go_enter Tryz.func86, Tryz.ntmps86
  go_wp2_with fail
  go_region_with (go_at_call 100; refine HB.out.mono ?_; rintro e w1 ⟨rfl, H1⟩)
  all_goals go_wp2
  all_goals go_end0
  all_goals exact ⟨rfl, H1.out.1, tch_drew H1.out.2⟩
set_option maxRecDepth 10000 in
theorem wfm_seq (hW : WrS base w p s) (hK : s.K.R = m.R) (hi : s.Inv) (hbs : base ≤ w.heap.size) (hx : m.Ok base w) :
    Calls Tryz.prog 91 #[.pointer (some ⟨p, 0, none⟩)] w fun e w' => e = .returned (.tuple #[]) ∧ Hid (WrS base w' p (s.put (numB m.seq) 0) ∧ Tch 4 w w' p) := by
  have c1 := hW.cellR 8 (u := .int .u64 (m.seq : Int)) (by rw [hK]; rfl)
  simp only [Nat.reduceAdd] at c1
  have HB := hide (numS hW.drew hi hbs m.seq hx.hseq)
  clear hW hK hi hx
  go_enter Tryz.func91, Tryz.ntmps91
  go_wp2_with fail
  go_region_with (go_at_call 100; refine HB.out.mono ?_; rintro e w1 ⟨rfl, H1⟩)
  all_goals go_wp2
  all_goals go_end0
  all_goals exact ⟨rfl, H1.out.1, tch_drew H1.out.2⟩
set_option maxRecDepth 10000 in
theorem wfm_stamp (hW : WrS base w p s) (hK : s.K.R = m.R) (hi : s.Inv) (hbs : base ≤ w.heap.size) (hx : m.Ok base w) :
    Calls Tryz.prog 93 #[.pointer (some ⟨p, 0, none⟩)] w fun e w' => e = .returned (.tuple #[]) ∧ Hid (WrS base w' p (s.put (numB m.stamp) 0) ∧ Tch 4 w w' p) := by
  have c1 := hW.cellR 9 (u := .int .u64 (m.stamp : Int)) (by rw [hK]; rfl)
  simp only [Nat.reduceAdd] at c1
  have HB := hide (numS hW.drew hi hbs m.stamp hx.hstamp)
  clear hW hK hi hx
  go_enter Tryz.func93, Tryz.ntmps93
  go_wp2_with fail
  go_region_with (go_at_call 100; refine HB.out.mono ?_; rintro e w1 ⟨rfl, H1⟩)
  all_goals go_wp2
  all_goals go_end0
  all_goals exact ⟨rfl, H1.out.1, tch_drew H1.out.2⟩
set_option maxRecDepth 10000 in
theorem wfm_index (hW : WrS base w p s) (hK : s.K.R = m.R) (hi : s.Inv) (hbs : base ≤ w.heap.size) (hx : m.Ok base w) :
    Calls Tryz.prog 85 #[.pointer (some ⟨p, 0, none⟩)] w fun e w' => e = .returned (.tuple #[]) ∧ Hid (WrS base w' p (s.put (numB m.idx) 0) ∧ Tch 4 w w' p) := by
  have c1 := hW.cellR 14 (u := .int .u64 (m.idx : Int)) (by rw [hK]; rfl)
  simp only [Nat.reduceAdd] at c1
  have HB := hide (numS hW.drew hi hbs m.idx hx.hidx)
  clear hW hK hi hx
  go_enter Tryz.func85, Tryz.ntmps85
  go_wp2_with fail
  go_region_with (go_at_call 100; refine HB.out.mono ?_; rintro e w1 ⟨rfl, H1⟩)
  all_goals go_wp2
  all_goals go_end0
  all_goals exact ⟨rfl, H1.out.1, tch_drew H1.out.2⟩
set_option maxRecDepth 10000 in
theorem wfm_total (hW : WrS base w p s) (hK : s.K.R = m.R) (hi : s.Inv) (hbs : base ≤ w.heap.size) (hx : m.Ok base w) :
    Calls Tryz.prog 95 #[.pointer (some ⟨p, 0, none⟩)] w fun e w' => e = .returned (.tuple #[]) ∧ Hid (WrS base w' p (s.put (numB m.cnt) 0) ∧ Tch 4 w w' p) := by
  have c1 := hW.cellR 15 (u := .int .u64 (m.cnt : Int)) (by rw [hK]; rfl)
  simp only [Nat.reduceAdd] at c1
  have HB := hide (numS hW.drew hi hbs m.cnt hx.hcnt)
  clear hW hK hi hx
  go_enter Tryz.func95, Tryz.ntmps95
  go_wp2_with fail
  go_region_with (go_at_call 100; refine HB.out.mono ?_; rintro e w1 ⟨rfl, H1⟩)
  all_goals go_wp2
  all_goals go_end0
  all_goals exact ⟨rfl, H1.out.1, tch_drew H1.out.2⟩
set_option maxRecDepth 10000 in
theorem wfm_outcome (hW : WrS base w p s) (hK : s.K.R = m.R) (hi : s.Inv) (hbs : base ≤ w.heap.size) :
    Calls Tryz.prog 87 #[.pointer (some ⟨p, 0, none⟩)] w fun e w' => e = .returned (.tuple #[]) ∧ Hid (WrS base w' p (s.put (numB (codeN m.code)) 0) ∧ Tch 4 w w' p) := by
  have c1 := hW.cellR 10 (u := .int .i64 m.code) (by rw [hK]; rfl)
  simp only [Nat.reduceAdd] at c1
  have HB := hide (numS hW.drew hi hbs (codeN m.code) (codeN_lt m.code))
  have hwr := wrap_code m.code
  generalize codeN m.code = X at *
  clear hW hK hi
  go_enter Tryz.func87, Tryz.ntmps87
  go_wp2_with fail
  go_region_with (go_at_call 100; refine HB.out.mono ?_; rintro e w1 ⟨rfl, H1⟩)
  all_goals go_wp2
  all_goals go_end0
  all_goals exact ⟨rfl, H1.out.1, tch_drew H1.out.2⟩
set_option maxRecDepth 10000 in
theorem wfm_suspect (hW : WrS base w p s) (hK : s.K.R = m.R) (hi : s.Inv) (hbs : base ≤ w.heap.size) :
    Calls Tryz.prog 94 #[.pointer (some ⟨p, 0, none⟩)] w fun e w' => e = .returned (.tuple #[]) ∧ Hid (WrS base w' p (s.put (big (if m.sus then 1 else 0) 1) 0) ∧ Tch 4 w w' p) := by
  have c1 := hW.cellR 13 (u := .bool m.sus) (by rw [hK]; rfl)
  simp only [Nat.reduceAdd] at c1
  have HB : Hid (Calls Tryz.prog 103 #[.pointer (some ⟨p, 0, none⟩), .bool m.sus] w.drew fun e w' => e = .returned (.tuple #[]) ∧ Hid (WrS base w' p (s.put (big (if m.sus then 1 else 0) 1) 0) ∧ Tch 4 w.drew w' p)) := (wFlagP (.inr ⟨p, rfl, hW.drew⟩) hi hbs m.sus).mono (fun _ _ h => ⟨h.1, of_wrP h.2.out⟩)
  generalize (if m.sus = true then 1 else 0) = X at *
  clear hW hK hi
  go_enter Tryz.func94, Tryz.ntmps94
  go_wp2_with fail
  go_region_with (go_at_call 103; refine HB.out.mono ?_; rintro e w1 ⟨rfl, H1⟩)
  all_goals go_wp2
  all_goals go_end0
  all_goals exact ⟨rfl, H1.out.1, tch_drew H1.out.2⟩
set_option maxRecDepth 10000 in
theorem wfm_command (hW : WrS base w p s) (hK : s.K.R = m.R) (hi : s.Inv) (hbs : base ≤ w.heap.size) (hx : m.Ok base w) (hy : m.Co base) :
    Calls Tryz.prog 84 #[.pointer (some ⟨p, 0, none⟩)] w fun e w' => e = .returned (.tuple #[]) ∧ Hid (WrS base w' p (s.put (numB m.cn ++ m.C) (cntY m.cn 700)) ∧ Tch 4 w w' p) := by
  have c1 := hW.cellR 11 (u := .slice m.co m.cn m.cc) (by rw [hK]; rfl)
  simp only [Nat.reduceAdd] at c1
  have HB : Hid (Calls Tryz.prog 99 #[.pointer (some ⟨p, 0, none⟩), .slice m.co m.cn m.cc, .int .i64 700] w.drew fun e w' => e = .returned (.tuple #[]) ∧ Hid (WrS base w' p (s.put (numB m.cn ++ m.C) (cntY m.cn 700)) ∧ Tch 4 w.drew w' p)) := by
    refine (wBlobP (.inr ⟨p, rfl, hW.drew⟩) hi hbs m.co m.cn m.cc m.C 700 (hSd hx.hC) (fun q u g e hu hg b off hb => ?_)).mono (fun _ _ h => ⟨h.1, of_wrP h.2.out⟩)
    cases e
    obtain ⟨v, hbk, hO, _⟩ := hW
    have c4 := block_cell hbk 4
    have hu : w.cell? ⟨p, 4, none⟩ = some u := hu
    rw [hu] at c4
    simp at c4
    subst c4
    have h1 := (hO.1.lt g hg).1
    have h2 := hy.hco b off hb
    omega
  clear hW hK hi hx hy
  go_enter Tryz.func84, Tryz.ntmps84
  go_wp2_with fail
  go_region_with (go_at_call 99; refine HB.out.mono ?_; rintro e w1 ⟨rfl, H1⟩)
  all_goals go_wp2
  all_goals go_end0
  all_goals exact ⟨rfl, H1.out.1, tch_drew H1.out.2⟩
set_option maxRecDepth 10000 in
theorem wfm_result (hW : WrS base w p s) (hK : s.K.R = m.R) (hi : s.Inv) (hbs : base ≤ w.heap.size) (hx : m.Ok base w) (hy : m.Co base) :
    Calls Tryz.prog 89 #[.pointer (some ⟨p, 0, none⟩)] w fun e w' => e = .returned (.tuple #[]) ∧ Hid (WrS base w' p (s.put (numB m.dn ++ m.D) (cntY m.dn 256)) ∧ Tch 4 w w' p) := by
  have c1 := hW.cellR 12 (u := .slice m.do_ m.dn m.dc) (by rw [hK]; rfl)
  simp only [Nat.reduceAdd] at c1
  have HB : Hid (Calls Tryz.prog 99 #[.pointer (some ⟨p, 0, none⟩), .slice m.do_ m.dn m.dc, .int .i64 256] w.drew fun e w' => e = .returned (.tuple #[]) ∧ Hid (WrS base w' p (s.put (numB m.dn ++ m.D) (cntY m.dn 256)) ∧ Tch 4 w.drew w' p)) := by
    refine (wBlobP (.inr ⟨p, rfl, hW.drew⟩) hi hbs m.do_ m.dn m.dc m.D 256 (hSd hx.hD) (fun q u g e hu hg b off hb => ?_)).mono (fun _ _ h => ⟨h.1, of_wrP h.2.out⟩)
    cases e
    obtain ⟨v, hbk, hO, _⟩ := hW
    have c4 := block_cell hbk 4
    have hu : w.cell? ⟨p, 4, none⟩ = some u := hu
    rw [hu] at c4
    simp at c4
    subst c4
    have h1 := (hO.1.lt g hg).1
    have h2 := hy.hdo b off hb
    omega
  clear hW hK hi hx hy
  go_enter Tryz.func89, Tryz.ntmps89
  go_wp2_with fail
  go_region_with (go_at_call 99; refine HB.out.mono ?_; rintro e w1 ⟨rfl, H1⟩)
  all_goals go_wp2
  all_goals go_end0
  all_goals exact ⟨rfl, H1.out.1, tch_drew H1.out.2⟩
set_option maxRecDepth 10000 in
theorem wfm_chunk (hW : WrS base w p s) (hK : s.K.R = m.R) (hi : s.Inv) (hbs : base ≤ w.heap.size) (hx : m.Ok base w) (hy : m.Co base) :
    Calls Tryz.prog 83 #[.pointer (some ⟨p, 0, none⟩)] w fun e w' => e = .returned (.tuple #[]) ∧ Hid (WrS base w' p (s.put (numB m.dn ++ m.D) (cntY m.dn 1024)) ∧ Tch 4 w w' p) := by
  have c1 := hW.cellR 12 (u := .slice m.do_ m.dn m.dc) (by rw [hK]; rfl)
  simp only [Nat.reduceAdd] at c1
  have HB : Hid (Calls Tryz.prog 99 #[.pointer (some ⟨p, 0, none⟩), .slice m.do_ m.dn m.dc, .int .i64 1024] w.drew fun e w' => e = .returned (.tuple #[]) ∧ Hid (WrS base w' p (s.put (numB m.dn ++ m.D) (cntY m.dn 1024)) ∧ Tch 4 w.drew w' p)) := by
    refine (wBlobP (.inr ⟨p, rfl, hW.drew⟩) hi hbs m.do_ m.dn m.dc m.D 1024 (hSd hx.hD) (fun q u g e hu hg b off hb => ?_)).mono (fun _ _ h => ⟨h.1, of_wrP h.2.out⟩)
    cases e
    obtain ⟨v, hbk, hO, _⟩ := hW
    have c4 := block_cell hbk 4
    have hu : w.cell? ⟨p, 4, none⟩ = some u := hu
    rw [hu] at c4
    simp at c4
    subst c4
    have h1 := (hO.1.lt g hg).1
    have h2 := hy.hdo b off hb
    omega
  clear hW hK hi hx hy
  go_enter Tryz.func83, Tryz.ntmps83
  go_wp2_with fail
  go_region_with (go_at_call 99; refine HB.out.mono ?_; rintro e w1 ⟨rfl, H1⟩)
  all_goals go_wp2
  all_goals go_end0
  all_goals exact ⟨rfl, H1.out.1, tch_drew H1.out.2⟩
set_option maxRecDepth 10000 in
theorem wfm_ballot (hW : WrS base w p s) (hK : s.K.R = m.R) (hi : s.Inv) (hbs : base ≤ w.heap.size) (hp : base ≤ p) (hx : m.Ok base w) (hf : 0 ≤ m.node ∧ m.node < 256) :
    Calls Tryz.prog 81 #[.pointer (some ⟨p, 0, none⟩)] w fun e w' => e = .returned (.tuple #[]) ∧ Hid (WrS base w' p ((s.put (numB m.num) 0).put (big m.node.toNat 1) 0) ∧ Tch 4 w w' p) := by
  have hnd : ((m.node.toNat : Nat) : Int) = m.node := Int.toNat_of_nonneg hf.1
  have c1 := hW.cellR 1 (u := .int .u64 (m.num : Int)) (by rw [hK]; rfl)
  have c2 := hW.cellR 2 (u := .int .i64 (m.node.toNat : Int)) (by rw [hK, hnd]; rfl)
  simp only [Nat.reduceAdd] at c1 c2
  have HB := hide (layBallot_prog hW.drew hi hbs hp m.num m.node.toNat hx.hnum (by have := hf.2; omega))
  generalize m.node.toNat = nd at *
  clear hW hK hi hx hnd hf
  go_enter Tryz.func81, Tryz.ntmps81
  go_wp2_with fail
  go_region_with (go_at_call 97; refine HB.out.mono ?_; rintro e w1 ⟨rfl, H1⟩)
  all_goals go_wp2
  all_goals go_end0
  all_goals exact ⟨rfl, H1.out.1, tch_drew H1.out.2⟩
set_option maxRecDepth 10000 in
theorem wfm_batch (hW : WrS base w p s) (hK : s.K.R = m.R) (hi : s.Inv) (hbs : base ≤ w.heap.size) (hp : base ≤ p) (hx : m.Ok base w) (hy : m.Co base) (hf : m.rs.length ≤ 8 ∧ ∀ r ∈ m.rs, r.cn ≤ 700) :
    Calls Tryz.prog 82 #[.pointer (some ⟨p, 0, none⟩)] w fun e w' => e = .returned (.tuple #[]) ∧ Hid (WrS base w' p (layB s m.st m.rs) ∧ Tch 4 w w' p) := by
  have c1 := hW.cellR 6 (u := .int .u64 (m.st : Int)) (by rw [hK]; rfl)
  have c2 := hW.cellR 7 (u := .slice m.ro m.n m.rc) (by rw [hK]; rfl)
  simp only [Nat.reduceAdd] at c1 c2
  have HB : Hid (Calls Tryz.prog 98 #[.pointer (some ⟨p, 0, none⟩), .agg #[.int .u64 (m.st : Int), .slice m.ro m.n m.rc]] w.drew fun e w' => e = .returned (.tuple #[]) ∧ Hid (WrS base w' p (layB s m.st m.rs) ∧ Tch 4 w.drew w' p)) := by
    have h := layBatch_prog hW.drew hi hbs hp m.st hx.hst m.rc (hRd hx.hR) hf.1 hf.2 hy.hrco
    rw [hx.hn] at h
    exact h
  clear hW hK hi hx hy hf
  go_enter Tryz.func82, Tryz.ntmps82
  go_wp2_with fail
  go_region_with (go_at_call 98; refine HB.out.mono ?_; rintro e w1 ⟨rfl, H1⟩)
  all_goals go_wp2
  all_goals go_end0
  all_goals exact ⟨rfl, H1.out.1, tch_drew H1.out.2⟩
end
end Go.Proofs.YtldhafpeigdloaaGreatDoor
