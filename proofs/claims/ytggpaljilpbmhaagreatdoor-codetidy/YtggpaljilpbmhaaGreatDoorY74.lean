import Derived.Test.YtggpaljilpbmhaaGreatDoorY34
import Derived.Test.YtggpaljilpbmhaaGreatDoorY20
import Derived.Test.YtggpaljilpbmhaaGreatDoorY73
import Derived.Test.YtggpaljilpbmhaaGreatDoorY38
import Derived.Test.YtggpaljilpbmhaaGreatDoorY15
import Derived.Test.YtggpaljilpbmhaaGreatDoorY11
import Derived.Test.YtggpaljilpbmhaaGreatDoorY62
namespace Go.Proofs.YtggpaljilpbmhaaGreatDoor
/-- Two steps side by side: both end alike, or both go on, past the place or along the way. -/
def Sq (pc a x' a' : Int) (w : Prop) (t t' : Ms) : Prop :=
 (t.ov = true ∧ t' = t) ∨ (t.ov = false ∧ ((t.pc = pc + 1 ∧ t' = t.go (x' + 1)) ∨ (t.pc = a ∧ t' = t.go a' ∧ w)))
theorem ite_q {pc a x' a' : Int} {w : Prop} (c : Prop) [Decidable c] {t u t' u' : Ms} (h1 : c → Sq pc a x' a' w t t') (h2 : ¬ c → Sq pc a x' a' w u u') : Sq pc a x' a' w (if c then t else u) (if c then t' else u') := by
 by_cases q : c
 ·rw [if_pos q, if_pos q]; exact h1 q
 ·rw [if_neg q, if_neg q]; exact h2 q
theorem pay_q {pc a x' a' : Int} {w : Prop} {s : Ms} (ho : s.ov = false) (hp : s.pc = pc) (x y z : Int) : Sq pc a x' a' w (s.pay x y z) ((s.go x').pay x y z) := by
 subst hp
 unfold Ms.pay
 refine ite_q _ (fun _ => .inl ⟨rfl, rfl⟩) (fun _ => ite_q _ (fun _ => .inl ⟨rfl, rfl⟩) (fun _ => .inr ⟨ho, .inl ⟨rfl, rfl⟩⟩))
section
variable {p p' : Pv} {k : Kn} {ek ev : Nat → Int} {hd : Int} {s : Ms}
theorem step_sim {x' : Int} (ho : p'.op x'.toNat = p.op s.pc.toNat) (hS : p'.S = p.S) (hC : (p.op s.pc.toNat).toNat = 2 → p'.C (p'.arg x'.toNat).toNat = p.C (p.arg s.pc.toNat).toNat) (hA : (p.op s.pc.toNat).toNat ≠ 2 → ¬ (25 ≤ (p.op s.pc.toNat).toNat ∧ (p.op s.pc.toNat).toNat ≤ 28) → p'.arg x'.toNat = p.arg s.pc.toNat) (hov : s.ov = false) :
  Sq s.pc (p.arg s.pc.toNat) x' (p'.arg x'.toNat) (25 ≤ (p.op s.pc.toNat).toNat ∧ (p.op s.pc.toNat).toNat ≤ 28) (stepF p ek ev hd s) (stepF p' ek ev hd (s.go x')) := by
 obtain ⟨o, hop⟩ : ∃ o, (p.op s.pc.toNat).toNat = o := ⟨_, rfl⟩
 have hop' : (p'.op (s.go x').pc.toNat).toNat = o := by show (p'.op x'.toNat).toNat = o; rw [ho]; exact hop
 rw [hop] at hC hA ⊢
 obtain ⟨a, ha⟩ : ∃ a, p.arg s.pc.toNat = a := ⟨_, rfl⟩
 obtain ⟨a', ha'⟩ : ∃ a', p'.arg (s.go x').pc.toNat = a' := ⟨_, rfl⟩
 have ha2 : p'.arg x'.toNat = a' := ha'
 rw [ha, ha2] at hC hA ⊢
 unfold stepF
 simp only [hop, hop', ha, ha', hS]
 by_cases h2 : o = 2
 ·subst h2
  rw [hC rfl]
  exact .inr ⟨hov, .inl ⟨rfl, rfl⟩⟩
 ·by_cases hw : 25 ≤ o ∧ o ≤ 28
  ·repeat' (first | exact absurd hw (by omega) | exact .inr ⟨hov, .inr ⟨rfl, rfl, hw⟩⟩ | exact .inr ⟨hov, .inl ⟨rfl, rfl⟩⟩ | refine ite_q _ (fun h => ?_) (fun h => ?_))
  ·rw [hA h2 hw]
   repeat' (first | exact absurd (by assumption) h2 | exact .inl ⟨rfl, rfl⟩ | exact .inr ⟨hov, .inl ⟨rfl, rfl⟩⟩ | exact .inr ⟨hov, .inr ⟨rfl, rfl, hw⟩⟩ | exact pay_q hov rfl _ _ _ | exact absurd (show 25 ≤ o ∧ o ≤ 28 by omega) hw | refine ite_q _ (fun h => ?_) (fun h => ?_))
/-- The machine comes to its end there. -/
def Leads (p : Pv) (ek ev : Nat → Int) (hd : Int) (s o : Ms) : Prop := o.ov = true ∧ ∃ m, runN p ek ev hd m s = o
theorem Leads.one {o : Ms} (h : Leads p ek ev hd s o) {n : Nat} (hn : (runN p ek ev hd n s).ov = true) : runN p ek ev hd n s = o := by
 obtain ⟨ho, m, rfl⟩ := h
 rcases Nat.le_total n m with q | q
 ·exact (runN_more hn q).symm
 ·exact runN_more ho q
theorem Leads.step {o : Ms} (h : Leads p ek ev hd (stepF p ek ev hd s) o) (hs : s.ov = false) : Leads p ek ev hd s o := by
 obtain ⟨ho, m, hm⟩ := h
 refine ⟨ho, m + 1, ?_⟩
 show (if s.ov = true then s else runN p ek ev hd m (stepF p ek ev hd s)) = o
 rw [hs]
 exact hm
/-- A program's run is followed by another's, place for place. -/
theorem sim_leads {R : Int → Int → Prop} (he : Me p k ek ev hd)
  (hR : ∀ s x', Tm p k hd s → s.ov = false → R s.pc x' → Tm p k hd (stepF p ek ev hd s) → ((stepF p ek ev hd s).ov = true ∧ stepF p' ek ev hd (s.go x') = stepF p ek ev hd s) ∨ ((stepF p ek ev hd s).ov = false ∧ ∃ y', R (stepF p ek ev hd s).pc y' ∧ (stepF p' ek ev hd (s.go x') = (stepF p ek ev hd s).go y' ∨ s.go x' = (stepF p ek ev hd s).go y'))) :
  ∀ (m : Nat) (s : Ms) (x' : Int), Tm p k hd s → s.ov = false → R s.pc x' → (runN p ek ev hd m s).ov = true → Leads p' ek ev hd (s.go x') (runN p ek ev hd m s)
 | 0, s, x', _, ho, _, h => by
  have h2 : s.ov = true := h
  rw [ho] at h2
  cases h2
 | m + 1, s, x', ht, ho, hr, h => by
  have e1 : runN p ek ev hd (m + 1) s = runN p ek ev hd m (stepF p ek ev hd s) := by
   show (if s.ov = true then s else _) = _
   rw [ho]
   rfl
  rw [e1] at h ⊢
  have ht2 := (step_tm he ht ho).1
  rcases hR s x' ht ho hr ht2 with ⟨q1, q2⟩ | ⟨q1, y', q2, q3⟩
  ·rw [runN_over q1]
   refine Leads.step ?_ ho
   rw [q2]
   exact ⟨q1, 0, rfl⟩
  ·have ih := sim_leads he hR m _ y' ht2 q1 q2 h
   rcases q3 with q3 | q3
   ·refine Leads.step ?_ ho
    rw [q3]
    exact ih
   ·rw [q3]
    exact ih
end
theorem sim_end {p p' : Pv} {k k' : Kn} {e : En} {ev f : Int} {R : Int → Int → Prop} (he : e.Ok) (hv : verF p = .ok k) (hv' : verF p' = .ok k') (hC : ∀ j, j < p.nc → 0 ≤ p.C j ∧ p.C j < two64) (hC' : ∀ j, j < p'.nc → 0 ≤ p'.C j ∧ p'.C j < two64) (hp : isPl ev 6 = true) (hf : 0 ≤ f)
  (hn : p.en ev.toNat < 0 → p'.en ev.toNat < 0) (hen : 0 ≤ p.en ev.toNat → 0 ≤ p'.en ev.toNat ∧ R (p.en ev.toNat) (p'.en ev.toNat))
  (hR : ∀ s x', Tm p k e.x2 s → s.ov = false → R s.pc x' → Tm p k e.x2 (stepF p e.ek e.ev e.x2 s) → ((stepF p e.ek e.ev e.x2 s).ov = true ∧ stepF p' e.ek e.ev e.x2 (s.go x') = stepF p e.ek e.ev e.x2 s) ∨ ((stepF p e.ek e.ev e.x2 s).ov = false ∧ ∃ y', R (stepF p e.ek e.ev e.x2 s).pc y' ∧ (stepF p' e.ek e.ev e.x2 (s.go x') = (stepF p e.ek e.ev e.x2 s).go y' ∨ s.go x' = (stepF p e.ek e.ev e.x2 s).go y'))) :
  endS p' e (ldS p' ev f) = endS p e (ldS p ev f) := by
 have hx := (he.b 2 (by decide)).1
 have ht : Tm p k e.x2 (ldS p ev f) := ld_tm hv hp hf hx
 have ht' : Tm p' k' e.x2 (ldS p' ev f) := ld_tm hv' hp hf hx
 have ho := end_ov (he.me hv hC) ht
 have ho' := end_ov (he.me hv' hC') ht'
 by_cases q : p.en ev.toNat < 0
 ·have e1 : ldS p ev f = (ld0 p ev f).stop 8 := by unfold ldS; rw [if_pos q]
  have e2 : ldS p' ev f = (ld0 p' ev f).stop 8 := by unfold ldS; rw [if_pos (hn q)]
  have e3 : (ld0 p' ev f).stop 8 = (ld0 p ev f).stop 8 := rfl
  rw [e1, e2, e3]
  unfold endS
  rw [runN_over rfl, runN_over rfl]
 ·obtain ⟨g1, g2⟩ := hen (by omega)
  have e1 : ldS p ev f = ld0 p ev f := by unfold ldS; rw [if_neg q]
  have e2 : ldS p' ev f = (ld0 p ev f).go (p'.en ev.toNat) := by unfold ldS; rw [if_neg (by omega)]; rfl
  rw [e1] at ht ho
  rw [e1]
  have := sim_leads (he.me hv hC) hR 1200000 (ld0 p ev f) (p'.en ev.toNat) ht rfl g2 ho
  rw [e2] at ho' ⊢
  exact this.one ho'
end Go.Proofs.YtggpaljilpbmhaaGreatDoor
namespace Go.Proofs.YtggpaljilpbmhaaGreatDoor
/-- Without a jump to the next place it is verified still. -/
theorem idle_flow {p : Pv} {k : Kn} {i : Nat} (hw : Wf p) (h : Flow p k) (hi : fstI p p.n = some i) : Flow (cutF p (butK i)) (fun j => if j < cnt (butK i) p.n then k (sel (butK i) p.n j) else none) := by
 obtain ⟨hin0, hidle, _⟩ := fstI_some hi
 simp [idleB] at hidle
 obtain ⟨hop, harg⟩ := hidle
 have hwy : wayP (p.op i) = true := by rw [hop]; rfl
 have hin : i + 1 < p.n := by
  have := isPl_nat ((hw.ins i hin0).way hwy)
  omega
 have hat : (p.arg i).toNat = i + 1 := by omega
 obtain ⟨_, _, key⟩ := idle_wf hw hi
 have hbut : ∀ x, x ≠ i → butK i x = true := fun x hx => by simp [butK, hx]
 have hci : cnt (butK i) i = i := by rw [cnt_but, if_neg (Nat.lt_irrefl i)]
 have hci1 : cnt (butK i) (i + 1) = i := by rw [cnt_but, if_pos (by omega)]; omega
 have hkn : ∀ l, k i = some l → k (i + 1) = some l := fun l hl => by
  have := (h.fl i l hin0 hl).2 (i + 1, l) (by rw [jump_edgs hop, hat]; exact List.mem_cons_self ..)
  exact this.2.2
 have hold : ∀ x l, x < p.n → k x = some l → cnt (butK i) x < cnt (butK i) p.n ∧ k (sel (butK i) p.n (cnt (butK i) x)) = some l := fun x l hx hk => by
  have hl : cnt (butK i) x < cnt (butK i) p.n := by
   have := key ((x : Nat) : Int) (isPl_mk hx)
   simpa using this
  refine ⟨hl, ?_⟩
  by_cases e : x = i
  ·subst e
   have e2 : cnt (butK x) x = cnt (butK x) (x + 1) := by rw [hci, hci1]
   rw [e2, sel_cnt hin (hbut _ (by omega))]
   exact hkn l hk
  ·rw [sel_cnt hx (hbut _ e)]
   exact hk
 refine ⟨fun e he h0 => ?_, fun j l hj hk => ?_, fun j l hj hk => ?_⟩
 ·have h0' : 0 ≤ p.en e := by
   have h0 : 0 ≤ (if 0 ≤ p.en e then ((cnt (butK i) (p.en e).toNat : Nat) : Int) else p.en e) := h0
   by_cases q : 0 ≤ p.en e
   ·exact q
   ·rw [if_neg q] at h0; exact absurd h0 q
  have a1 : (p.en e).toNat < p.n := by
   rcases hw.en e he with q | q
   ·omega
   ·exact (isPl_nat q).2
  have b := hold _ _ a1 (h.en e he h0')
  have ee : ((cutF p (butK i)).en e).toNat = cnt (butK i) (p.en e).toNat := by
   show (if 0 ≤ p.en e then ((cnt (butK i) (p.en e).toNat : Nat) : Int) else p.en e).toNat = _
   rw [if_pos h0']
   rfl
  show (if _ then _ else _) = _
  rw [ee, if_pos b.1]
  exact b.2
 ·have hj : j < cnt (butK i) p.n := hj
  obtain ⟨s1, s2, s3⟩ := sel_spec hj
  simp only [hj, if_true] at hk
  have sne : sel (butK i) p.n j ≠ i := fun e => by rw [e] at s2; simp [butK] at s2
  obtain ⟨f1, f2⟩ := h.fl _ l s1 hk
  have hii := hw.ins _ s1
  have hc := col_eq (p := cutF p (butK i)) (p' := p) (i := j) (j := sel (butK i) p.n j) rfl rfl (by
   show wayP (p.op (sel (butK i) p.n j)) = true ∨ (if wayP (p.op (sel (butK i) p.n j)) = true then _ else _) = _
   by_cases e : wayP (p.op (sel (butK i) p.n j)) = true
   ·exact .inl e
   ·right; rw [if_neg e])
  refine ⟨by unfold fits; rw [hc.1, hc.2]; exact f1, fun x hx => ?_⟩
  rw [cut_edgs hj hii] at hx
  obtain ⟨y, hy, rfl⟩ := List.mem_map.1 hx
  obtain ⟨g1, g2, g3⟩ := f2 y hy
  obtain ⟨b1, b2⟩ := hold _ _ g1 g3
  refine ⟨b1, fun hle => ?_, by simp only [b1, if_true]; exact b2⟩
  have hle : cnt (butK i) y.1 ≤ j := hle
  by_cases ey : y.1 = i
  ·exfalso
   rw [ey] at hle g2
   rcases Nat.lt_or_ge (sel (butK i) p.n j) i with q | q
   ·have := cnt_lt s2 q
    omega
   ·have := g2 q
    rw [hop] at this
    cases this
  ·show p.op (sel (butK i) p.n (cnt (butK i) y.1)) = 1
   rw [sel_cnt g1 (hbut _ ey)]
   refine g2 ?_
   rcases Nat.lt_or_ge (sel (butK i) p.n j) y.1 with q | q
   ·have := cnt_lt s2 q
    omega
   ·exact q
 ·have hj : j < cnt (butK i) p.n := hj
  obtain ⟨s1, s2, s3⟩ := sel_spec hj
  simp only [hj, if_true] at hk
  have sne : sel (butK i) p.n j ≠ i := fun e => by rw [e] at s2; simp [butK] at s2
  have entP : ∀ x, Ent p x → cnt (butK i) x = j → Ent (cutF p (butK i)) j := fun x hx hxj => by
   obtain ⟨e, he, h0, q⟩ := hx
   refine ⟨e, he, ?_, ?_⟩
   ·show 0 ≤ (if 0 ≤ p.en e then ((cnt (butK i) (p.en e).toNat : Nat) : Int) else p.en e)
    rw [if_pos h0]
    omega
   ·show (if 0 ≤ p.en e then ((cnt (butK i) (p.en e).toNat : Nat) : Int) else p.en e).toNat = _
    rw [if_pos h0, q]
    exact hxj
  have predP : ∀ x z l0 l', cnt (butK i) x = j → x < p.n → z < x → z ≠ i → k z = some l0 → (x, l') ∈ edgs p z l0 → ∃ j' l0 l', j' < j ∧ (fun j => if j < cnt (butK i) p.n then k (sel (butK i) p.n j) else none) j' = some l0 ∧ (j, l') ∈ edgs (cutF p (butK i)) j' l0 := fun x z l0 l' hxj hx hz hne hk0 hm => by
   obtain ⟨b1, b2⟩ := hold z l0 (by omega) hk0
   refine ⟨cnt (butK i) z, l0, l', ?_, ?_, ?_⟩
   ·have := cnt_lt (hbut _ hne) hz
    omega
   ·simp only [b1, if_true]
    exact b2
   ·have hzi : InOk p (sel (butK i) p.n (cnt (butK i) z)) := by rw [sel_cnt (by omega) (hbut _ hne)]; exact hw.ins z (by omega)
    rw [cut_edgs b1 hzi, sel_cnt (by omega) (hbut _ hne)]
    exact List.mem_map.2 ⟨_, hm, by rw [hxj]⟩
  rcases h.rc _ l s1 hk with q | ⟨z, l0, l', q1, q2, q3⟩
  ·exact .inl (entP _ q s3)
  ·by_cases ez : z = i
   ·subst ez
    rw [jump_edgs hop, hat] at q3
    have ex : sel (butK z) p.n j = z + 1 := by
     have := List.mem_singleton.1 q3
     exact congrArg Prod.fst this
    have hzj : cnt (butK z) z = j := by rw [hci, ← hci1, ← ex]; exact s3
    rcases h.rc z l0 hin0 q2 with q | ⟨y, l1, l2, r1, r2, r3⟩
    ·exact .inl (entP _ q hzj)
    ·exact .inr (predP z y l1 l2 hzj hin0 r1 (by omega) r2 r3)
   ·exact .inr (predP _ z l0 l' s3 s1 q1 ez q2 q3)
theorem idle_ver {p : Pv} {k : Kn} {i : Nat} (hv : verF p = .ok k) (hall : ∀ j, j < p.n → (k j).isSome = true) (hi : fstI p p.n = some i) : ∃ k', verF (cutF p (butK i)) = .ok k' ∧ ∀ j, j < (cutF p (butK i)).n → (k' j).isSome = true := by
 have hw := ver_wf hv
 obtain ⟨k', h1, h2⟩ := ver_of (idle_wf hw hi).1.stat (idle_flow hw (flow_of hv) hi)
 refine ⟨k', h1, fun j hj => ?_⟩
 have hj' : j < cnt (butK i) p.n := hj
 rw [h2 j hj]
 simp only [hj', if_true]
 exact hall _ (sel_spec hj').1
/-- A constant that is laid up lies in its place. -/
theorem const_arg {p : Pv} {i : Nat} (h : Wf p) (hi : i < p.n) (ho : p.op i = 2) : p.arg i = ((p.arg i).toNat : Nat) ∧ (p.arg i).toNat < p.nc ∧ usd p (p.arg i).toNat = true := by
 have h1 := (h.ins i hi).a
 rw [ho] at h1
 have h2 : isPl (p.arg i) p.nc = true := h1
 have h3 := isPl_nat h2
 refine ⟨h3.1, h3.2, usedB_true.2 ⟨i, hi, ho, h3.1⟩⟩
theorem const_col {p : Pv} (i : Nat) : tkB (constF p) i = tkB p i ∧ lyB (constF p) i = lyB p i := by
 by_cases e : p.op i = 2
 ·unfold tkB lyB
  show colB _ (fTakes (p.op i).toNat) _ = _ ∧ colB _ (fLays (p.op i).toNat) _ = _
  rw [e]
  exact ⟨rfl, rfl⟩
 ·refine col_eq (p := constF p) (p' := p) rfl rfl (.inr ?_)
  show (if p.op i = 2 then _ else _) = _
  rw [if_neg e]
theorem const_edgs {p : Pv} (i : Nat) (l : List Bool) : edgs (constF p) i l = edgs p i l := by
 obtain ⟨c1, c2⟩ := const_col (p := p) i
 have ha : aft (constF p) i l = aft p i l := by unfold aft; rw [c1, c2]
 unfold edgs
 rw [ha]
 by_cases e : p.op i = 2
 ·have e2 : (constF p).op i = 2 := e
  rw [e, e2]
  rfl
 ·have e2 : (constF p).arg i = p.arg i := by
   show (if p.op i = 2 then _ else _) = _
   rw [if_neg e]
  rw [e2]
  rfl
theorem const_wf {p : Pv} (h : Wf p) : Wf (constF p) := by
 refine ⟨⟨Nat.le_trans (cnt_le _ _) h.sz.1, h.sz.2⟩, h.sl, h.en, fun i hi => ?_⟩
 have hi : i < p.n := hi
 have g := h.ins i hi
 refine ⟨hi, g.o, ?_⟩
 by_cases e : p.op i = 2
 ·obtain ⟨_, a2, a3⟩ := const_arg h hi e
  show argF (constF p) (p.op i).toNat (if p.op i = 2 then ((cnt (usd p) (p.arg i).toNat : Nat) : Int) else p.arg i) = true
  rw [if_pos e, e]
  have hm : isPl (((cnt (usd p) (p.arg i).toNat : Nat)) : Int) (constF p).nc = true := isPl_mk (cnt_lt a3 a2)
  exact hm
 ·show argF (constF p) (p.op i).toNat (if p.op i = 2 then ((cnt (usd p) (p.arg i).toNat : Nat) : Int) else p.arg i) = true
  rw [if_neg e]
  have h1 := op_nat g
  have ho : (p.op i).toNat ≤ 32 := by omega
  have hne : fArg (p.op i).toNat ≠ 1 := fun q => by
   have : ∀ o, o < 33 → fArg o = 1 → o = 2 := by decide
   have := this _ (by omega) q
   omega
  have ga := g.a
  rcases fArg_le _ ho with f | f | f | f | f | f
  ·simp [argF, f] at ga ⊢; exact ga
  ·exact absurd f hne
  ·simp [argF, f] at ga ⊢; exact ga
  ·simp [argF, f] at ga ⊢; exact ga
  ·simp [argF, f] at ga ⊢; exact ga
  ·simp [argF, f] at ga ⊢; exact ga
theorem const_flow {p : Pv} {k : Kn} (h : Flow p k) : Flow (constF p) k := by
 refine ⟨h.en, fun i l hi hk => ?_, fun i l hi hk => ?_⟩
 ·obtain ⟨f1, f2⟩ := h.fl i l hi hk
  obtain ⟨c1, c2⟩ := const_col (p := p) i
  refine ⟨by unfold fits; rw [c1, c2]; exact f1, fun x hx => ?_⟩
  rw [const_edgs] at hx
  exact f2 x hx
 ·rcases h.rc i l hi hk with q | ⟨z, l0, l', q1, q2, q3⟩
  ·exact .inl q
  ·exact .inr ⟨z, l0, l', q1, q2, by rw [const_edgs]; exact q3⟩
theorem const_ver {p : Pv} {k : Kn} (hv : verF p = .ok k) (hall : ∀ j, j < p.n → (k j).isSome = true) : ∃ k', verF (constF p) = .ok k' ∧ ∀ j, j < (constF p).n → (k' j).isSome = true := by
 obtain ⟨k', h1, h2⟩ := ver_of (const_wf (ver_wf hv)).stat (const_flow (flow_of hv))
 exact ⟨k', h1, fun j hj => by rw [h2 j hj]; exact hall j hj⟩
end Go.Proofs.YtggpaljilpbmhaaGreatDoor
namespace Go.Proofs.YtggpaljilpbmhaaGreatDoor
theorem nat_wayP {x : Int} (h : 25 ≤ x.toNat ∧ x.toNat ≤ 28) : wayP x = true := by
 simp [wayP]
 omega
theorem way_wayP {x : Int} (h : ¬ (25 ≤ x.toNat ∧ x.toNat ≤ 28)) : ¬ wayP x = true := fun e => h (wayP_nat e)
section
variable {p p' : Pv} {k k' : Kn} {e : En} {ev f : Int}
theorem en_place (hv : verF p = .ok k) (hp : isPl ev 6 = true) (h0 : 0 ≤ p.en ev.toNat) : (p.en ev.toNat).toNat < p.n ∧ k (p.en ev.toNat).toNat = some [] := by
 have h6 := (isPl_nat hp).2
 refine ⟨?_, (flow_of hv).en _ h6 h0⟩
 rcases (ver_wf hv).en _ h6 with q | q
 ·omega
 ·exact (isPl_nat q).2
/-- What is cut away is nothing, or a jump to the next place. -/
theorem cut_end {K : Nat → Bool} (he : e.Ok) (hv : verF p = .ok k) (hv' : verF (cutF p K) = .ok k') (hC : ∀ j, j < p.nc → 0 ≤ p.C j ∧ p.C j < two64) (hp : isPl ev 6 = true) (hf : 0 ≤ f)
  (hK : ∀ i, i < p.n → (k i).isSome = true → K i = true ∨ (K i = false ∧ p.op i = 25 ∧ p.arg i = (i : Int) + 1)) :
  endS (cutF p K) e (ldS (cutF p K) ev f) = endS p e (ldS p ev f) := by
 refine sim_end (R := fun x x' => ∃ i : Nat, x = (i : Int) ∧ i < p.n ∧ (k i).isSome = true ∧ x' = ((cnt K i : Nat) : Int)) he hv hv' hC hC hp hf (fun h => ?_) (fun h => ?_) ?_
 ·show (if 0 ≤ p.en ev.toNat then ((cnt K (p.en ev.toNat).toNat : Nat) : Int) else p.en ev.toNat) < 0
  rw [if_neg (by omega)]
  exact h
 ·obtain ⟨a1, a2⟩ := en_place hv hp h
  have ee : (cutF p K).en ev.toNat = ((cnt K (p.en ev.toNat).toNat : Nat) : Int) := by
   show (if 0 ≤ p.en ev.toNat then ((cnt K (p.en ev.toNat).toNat : Nat) : Int) else p.en ev.toNat) = _
   rw [if_pos h]
  refine ⟨by rw [ee]; omega, (p.en ev.toNat).toNat, by omega, a1, by rw [a2]; rfl, ee⟩
 ·rintro s x' ht ho ⟨i, hi, hin, hk, rfl⟩ ht2
  have hpc : s.pc.toNat = i := by rw [hi]; rfl
  rcases hK i hin hk with hKi | ⟨hKi, hop, harg⟩
  ·have hsel := sel_cnt hin hKi
   have e0 : (((cnt K i : Nat) : Int)).toNat = cnt K i := rfl
   have e1 : (cutF p K).op (((cnt K i : Nat) : Int)).toNat = p.op s.pc.toNat := by
    show p.op (sel K p.n (((cnt K i : Nat) : Int)).toNat) = _
    rw [e0, hsel, hpc]
   have e2 : (cutF p K).arg (((cnt K i : Nat) : Int)).toNat = if wayP (p.op i) = true then ((cnt K (p.arg i).toNat : Nat) : Int) else p.arg i := by
    show (if wayP (p.op (sel K p.n (((cnt K i : Nat) : Int)).toNat)) = true then ((cnt K (p.arg (sel K p.n (((cnt K i : Nat) : Int)).toNat)).toNat : Nat) : Int) else p.arg (sel K p.n (((cnt K i : Nat) : Int)).toNat)) = _
    rw [e0, hsel]
   have st := step_sim (p := p) (p' := cutF p K) (s := s) (x' := ((cnt K i : Nat) : Int)) (ek := e.ek) (ev := e.ev) (hd := e.x2) e1 rfl (fun h2 => by
    rw [hpc] at h2 ⊢
    rw [e2, if_neg (way_wayP (by omega))]
    rfl) (fun _ hn => by
    rw [hpc] at hn ⊢
    rw [e2, if_neg (way_wayP hn)]) ho
   rcases st with ⟨q1, q2⟩ | ⟨q1, ⟨q2, q3⟩ | ⟨q2, q3, q4⟩⟩
   ·exact .inl ⟨q1, q2⟩
   ·obtain ⟨j, l, hj, hjn, hkj, _⟩ := ht2.run q1
    refine .inr ⟨q1, _, ⟨j, hj, hjn, by rw [hkj]; rfl, ?_⟩, .inl q3⟩
    have : j = i + 1 := by omega
    rw [this, cnt_next hKi]
    omega
   ·obtain ⟨j, l, hj, hjn, hkj, _⟩ := ht2.run q1
    refine .inr ⟨q1, _, ⟨j, hj, hjn, by rw [hkj]; rfl, ?_⟩, .inl q3⟩
    rw [hpc] at q2 q4
    rw [e2, if_pos (nat_wayP q4)]
    have : (p.arg i).toNat = j := by omega
    rw [this]
  ·have st : stepF p e.ek e.ev e.x2 s = s.go (p.arg i) := by
    unfold stepF
    rw [hpc, hop]
    rfl
   rw [st] at ht2 ⊢
   refine .inr ⟨ho, _, ⟨i + 1, harg, ?_, ?_, rfl⟩, .inr ?_⟩
   ·obtain ⟨j, l, hj, hjn, hkj, _⟩ := ht2.run ho
    have hj' : p.arg i = (j : Int) := hj
    omega
   ·obtain ⟨j, l, hj, hjn, hkj, _⟩ := ht2.run ho
    have hj' : p.arg i = (j : Int) := hj
    have : j = i + 1 := by omega
    rw [← this, hkj]
    rfl
   ·have hc : cnt K (i + 1) = cnt K i := by
     show cnt K i + (if K i then 1 else 0) = _
     rw [hKi]
     rfl
    rw [hc]
    rfl
/-- Ways made shorter. -/
theorem short_end (he : e.Ok) (hv : verF p = .ok k) (hv' : verF (shortF p) = .ok k') (hC : ∀ j, j < p.nc → 0 ≤ p.C j ∧ p.C j < two64) (hp : isPl ev 6 = true) (hf : 0 ≤ f) :
  endS (shortF p) e (ldS (shortF p) ev f) = endS p e (ldS p ev f) := by
 have hfl := flow_of hv
 refine sim_end (R := fun x x' => ∃ i : Nat, x = (i : Int) ∧ i < p.n ∧ (k i).isSome = true ∧ (x' = (i : Int) ∨ x' = ((finF p p.n i : Nat) : Int))) he hv hv' hC hC hp hf (fun h => h) (fun h => ?_) ?_
 ·obtain ⟨a1, a2⟩ := en_place hv hp h
  exact ⟨h, (p.en ev.toNat).toNat, by omega, a1, by rw [a2]; rfl, .inl (by show p.en ev.toNat = _; omega)⟩
 ·rintro s x' ht ho ⟨i, hi, hin, hk, hx⟩ ht2
  have hpc : s.pc.toNat = i := by rw [hi]; rfl
  obtain ⟨l, hl⟩ : ∃ l, k i = some l := Option.isSome_iff_exists.1 hk
  by_cases e25 : p.op i = 25
  ·have st : stepF p e.ek e.ev e.x2 s = s.go (p.arg i) := by
    unfold stepF
    rw [hpc, e25]
    rfl
   have hfin := fin_step hfl hin hl e25
   rw [st] at ht2 ⊢
   obtain ⟨j, l2, hj, hjn, hkj, _⟩ := ht2.run ho
   have hj' : p.arg i = (j : Int) := hj
   have hj2 : (p.arg i).toNat = j := by omega
   rw [hj2] at hfin
   refine .inr ⟨ho, ((finF p p.n j : Nat) : Int), ⟨j, hj', hjn, by rw [hkj]; rfl, .inr rfl⟩, ?_⟩
   rcases hx with rfl | rfl
   ·left
    have s1 : (s.go (i : Int)).pc.toNat = i := rfl
    have st2 : stepF (shortF p) e.ek e.ev e.x2 (s.go (i : Int)) = (s.go (i : Int)).go ((shortF p).arg i) := by
     have o2 : (shortF p).op i = 25 := e25
     unfold stepF
     rw [s1, o2]
     rfl
    rw [st2]
    have a2 : (shortF p).arg i = ((finF p p.n j : Nat) : Int) := by
     show (if wayP (p.op i) = true then ((finF p p.n (p.arg i).toNat : Nat) : Int) else p.arg i) = _
     rw [if_pos (by rw [e25]; rfl), hj2]
    rw [a2]
    rfl
   ·right
    rw [hfin]
    rfl
  ·have hx' : x' = (i : Int) := by
    rcases hx with q | q
    ·exact q
    ·rw [q, fin_stop e25]
   subst hx'
   have e0 : (((i : Nat) : Int)).toNat = i := rfl
   have e2 : (shortF p).arg (((i : Nat) : Int)).toNat = if wayP (p.op i) = true then ((finF p p.n (p.arg i).toNat : Nat) : Int) else p.arg i := rfl
   have st := step_sim (p := p) (p' := shortF p) (s := s) (x' := ((i : Nat) : Int)) (ek := e.ek) (ev := e.ev) (hd := e.x2) (by show p.op (((i : Nat) : Int)).toNat = _; rw [hpc]; rfl) rfl (fun h2 => by
    rw [hpc] at h2 ⊢
    rw [e2, if_neg (way_wayP (by omega))]
    rfl) (fun _ hn => by
    rw [hpc] at hn ⊢
    rw [e2, if_neg (way_wayP hn)]) ho
   rcases st with ⟨q1, q2⟩ | ⟨q1, ⟨q2, q3⟩ | ⟨q2, q3, q4⟩⟩
   ·exact .inl ⟨q1, q2⟩
   ·obtain ⟨j, l, hj, hjn, hkj, _⟩ := ht2.run q1
    exact .inr ⟨q1, _, ⟨j, hj, hjn, by rw [hkj]; rfl, .inl (by omega)⟩, .inl q3⟩
   ·obtain ⟨j, l, hj, hjn, hkj, _⟩ := ht2.run q1
    refine .inr ⟨q1, _, ⟨j, hj, hjn, by rw [hkj]; rfl, .inr ?_⟩, .inl q3⟩
    rw [hpc] at q2 q4
    rw [e2, if_pos (nat_wayP q4)]
    have : (p.arg i).toNat = j := by omega
    rw [this]
/-- Without the constants that nothing lays up. -/
theorem const_end (he : e.Ok) (hv : verF p = .ok k) (hv' : verF (constF p) = .ok k') (hC : ∀ j, j < p.nc → 0 ≤ p.C j ∧ p.C j < two64) (hC' : ∀ j, j < (constF p).nc → 0 ≤ (constF p).C j ∧ (constF p).C j < two64) (hp : isPl ev 6 = true) (hf : 0 ≤ f) :
  endS (constF p) e (ldS (constF p) ev f) = endS p e (ldS p ev f) := by
 have hw := ver_wf hv
 refine sim_end (R := fun x x' => ∃ i : Nat, x = (i : Int) ∧ i < p.n ∧ x' = (i : Int)) he hv hv' hC hC' hp hf (fun h => h) (fun h => ?_) ?_
 ·obtain ⟨a1, a2⟩ := en_place hv hp h
  exact ⟨h, (p.en ev.toNat).toNat, by omega, a1, by show p.en ev.toNat = _; omega⟩
 ·rintro s x' ht ho ⟨i, hi, hin, rfl⟩ ht2
  have hpc : s.pc.toNat = i := by rw [hi]; rfl
  have e2 : (constF p).arg (((i : Nat) : Int)).toNat = if p.op i = 2 then ((cnt (usd p) (p.arg i).toNat : Nat) : Int) else p.arg i := rfl
  have hne : ∀ x : Int, x.toNat ≠ 2 → ¬ x = 2 := fun x h q => h (by rw [q]; rfl)
  have st := step_sim (p := p) (p' := constF p) (s := s) (x' := ((i : Nat) : Int)) (ek := e.ek) (ev := e.ev) (hd := e.x2) (by show p.op (((i : Nat) : Int)).toNat = _; rw [hpc]; rfl) rfl (fun h2 => by
   rw [hpc] at h2 ⊢
   have h3 : p.op i = 2 := by omega
   obtain ⟨_, b2, b3⟩ := const_arg hw hin h3
   rw [e2, if_pos h3]
   show p.C (sel (usd p) p.nc (cnt (usd p) (p.arg i).toNat)) = _
   rw [sel_cnt b2 b3]) (fun h2 hn => by
   rw [hpc] at h2 ⊢
   rw [e2, if_neg (hne _ h2)]) ho
  rcases st with ⟨q1, q2⟩ | ⟨q1, ⟨q2, q3⟩ | ⟨q2, q3, q4⟩⟩
  ·exact .inl ⟨q1, q2⟩
  ·obtain ⟨j, l, hj, hjn, hkj, _⟩ := ht2.run q1
   exact .inr ⟨q1, _, ⟨j, hj, hjn, by omega⟩, .inl q3⟩
  ·obtain ⟨j, l, hj, hjn, hkj, _⟩ := ht2.run q1
   refine .inr ⟨q1, _, ⟨j, hj, hjn, ?_⟩, .inl q3⟩
   rw [hpc] at q2 q4
   rw [e2, if_neg (hne _ (by omega))]
   omega
end
end Go.Proofs.YtggpaljilpbmhaaGreatDoor
namespace Go.Proofs.YtggpaljilpbmhaaGreatDoor
/-- No way leads to a jump. -/
def NJ (p : Pv) : Prop := ∀ i, i < p.n → wayP (p.op i) = true → p.op (p.arg i).toNat ≠ 25
/-- No jump leads to the next place. -/
def NI (p : Pv) : Prop := ∀ j, j < p.n → idleB p j = false
def AllK (p : Pv) (k : Kn) : Prop := ∀ j, j < p.n → (k j).isSome = true
section
variable {p p' : Pv} {k k2 : Kn}
theorem way_known (hv : verF p = .ok k) {i : Nat} (hi : i < p.n) (hk : (k i).isSome = true) (hw : wayP (p.op i) = true) : (p.arg i).toNat < p.n ∧ ∃ l, k (p.arg i).toNat = some l := by
 obtain ⟨l, hl⟩ := Option.isSome_iff_exists.1 hk
 obtain ⟨l', hm⟩ := mem_way (l := l) hw
 have := ((flow_of hv).fl i l hi hl).2 _ hm
 exact ⟨this.1, l', this.2.2⟩
theorem short_nj (hv : verF p = .ok k) (ha : AllK p k) : NJ (shortF p) := by
 intro i hi hw
 have hi : i < p.n := hi
 have hw : wayP (p.op i) = true := hw
 obtain ⟨h1, l, h2⟩ := way_known hv hi (ha i hi) hw
 have e : ((shortF p).arg i).toNat = finF p p.n (p.arg i).toNat := by
  show (if wayP (p.op i) = true then ((finF p p.n (p.arg i).toNat : Nat) : Int) else p.arg i).toNat = _
  rw [if_pos hw]
  rfl
 rw [e]
 exact (fin_ok (flow_of hv) (by omega) h1 h2).1
theorem cut_nj (hv : verF p = .ok k) (h : NJ p) : NJ (cutF p (kOf k)) := by
 intro j hj hw
 have hj : j < cnt (kOf k) p.n := hj
 obtain ⟨s1, s2, s3⟩ := sel_spec hj
 have hw : wayP (p.op (sel (kOf k) p.n j)) = true := hw
 obtain ⟨h1, l, h2⟩ := way_known hv s1 s2 hw
 have e : ((cutF p (kOf k)).arg j).toNat = cnt (kOf k) (p.arg (sel (kOf k) p.n j)).toNat := by
  show (if wayP (p.op (sel (kOf k) p.n j)) = true then ((cnt (kOf k) (p.arg (sel (kOf k) p.n j)).toNat : Nat) : Int) else p.arg (sel (kOf k) p.n j)).toNat = _
  rw [if_pos hw]
  rfl
 show p.op (sel (kOf k) p.n ((cutF p (kOf k)).arg j).toNat) ≠ 25
 rw [e, sel_cnt h1 (show (k _).isSome = true by rw [h2]; rfl)]
 exact h _ s1 hw
theorem idle_nj {i : Nat} (hw : Wf p) (hi : fstI p p.n = some i) (h : NJ p) : NJ (cutF p (butK i)) := by
 obtain ⟨_, hidle, _⟩ := fstI_some hi
 simp [idleB] at hidle
 intro j hj hwy
 have hj : j < cnt (butK i) p.n := hj
 obtain ⟨s1, s2, s3⟩ := sel_spec hj
 have hwy : wayP (p.op (sel (butK i) p.n j)) = true := hwy
 have h1 := (isPl_nat ((hw.ins _ s1).way hwy)).2
 have h2 := h _ s1 hwy
 have e : ((cutF p (butK i)).arg j).toNat = cnt (butK i) (p.arg (sel (butK i) p.n j)).toNat := by
  show (if wayP (p.op (sel (butK i) p.n j)) = true then ((cnt (butK i) (p.arg (sel (butK i) p.n j)).toNat : Nat) : Int) else p.arg (sel (butK i) p.n j)).toNat = _
  rw [if_pos hwy]
  rfl
 show p.op (sel (butK i) p.n ((cutF p (butK i)).arg j).toNat) ≠ 25
 rw [e, sel_cnt h1 (by
  have : (p.arg (sel (butK i) p.n j)).toNat ≠ i := fun q => h2 (by rw [q]; exact hidle.1)
  simp [butK, this])]
 exact h2
theorem fstI_none : ∀ {m : Nat}, fstI p m = none → ∀ j, j < m → idleB p j = false
 | 0, _, j, hj => by omega
 | m + 1, h, j, hj => by
  unfold fstI at h
  cases e : fstI p m with
  | some x => rw [e] at h; cases h
  | none =>
   rw [e] at h
   simp only at h
   by_cases q : idleB p m = true
   ·rw [if_pos q] at h; cases h
   ·by_cases ej : j = m
    ·subst ej; simpa using q
    ·exact fstI_none e j (by omega)
theorem none_fstI : ∀ {m : Nat}, (∀ j, j < m → idleB p j = false) → fstI p m = none
 | 0, _ => rfl
 | m + 1, h => by
  rw [fstI_next (none_fstI (fun j hj => h j (by omega))), h m (by omega)]
  rfl
end
theorem idleF_all : ∀ {f : Nat} {p : Pv} {k : Kn}, verF p = .ok k → AllK p k → NJ p → p.n ≤ f → (∃ k', verF (idleF f p) = .ok k' ∧ AllK (idleF f p) k') ∧ NJ (idleF f p) ∧ NI (idleF f p) ∧ (idleF f p).n ≤ p.n ∧ (idleF f p).nc = p.nc ∧ (idleF f p).C = p.C
 | 0, p, k, hv, ha, hn, hf => ⟨⟨k, hv, ha⟩, hn, fun j hj => (by have : j < p.n := hj; omega), Nat.le_refl _, rfl, rfl⟩
 | f + 1, p, k, hv, ha, hn, hf => by
  cases e : fstI p p.n with
  | none => rw [idleF_none e]; exact ⟨⟨k, hv, ha⟩, hn, fstI_none e, Nat.le_refl _, rfl, rfl⟩
  | some i =>
   rw [idleF_some e]
   have hw := ver_wf hv
   obtain ⟨k', h1, h2⟩ := idle_ver hv ha e
   have hl := (idle_wf hw e).2.1
   obtain ⟨g1, g2, g3, g4, g5, g6⟩ := idleF_all h1 h2 (idle_nj hw e hn) (f := f) (by omega)
   exact ⟨g1, g2, g3, by omega, g5, g6⟩
theorem idleF_end {e : En} {ev f : Int} (he : e.Ok) (hp : isPl ev 6 = true) (hf : 0 ≤ f) : ∀ {m : Nat} {p : Pv} {k : Kn}, verF p = .ok k → AllK p k → (∀ j, j < p.nc → 0 ≤ p.C j ∧ p.C j < two64) → endS (idleF m p) e (ldS (idleF m p) ev f) = endS p e (ldS p ev f)
 | 0, _, _, _, _, _ => rfl
 | m + 1, p, k, hv, ha, hC => by
  cases q : fstI p p.n with
  | none => rw [idleF_none q]
  | some i =>
   rw [idleF_some q]
   obtain ⟨k', h1, h2⟩ := idle_ver hv ha q
   obtain ⟨_, hidle, _⟩ := fstI_some q
   simp [idleB] at hidle
   have hC' : ∀ j, j < (cutF p (butK i)).nc → 0 ≤ (cutF p (butK i)).C j ∧ (cutF p (butK i)).C j < two64 := hC
   rw [idleF_end he hp hf h1 h2 hC']
   refine cut_end he hv h1 hC hp hf (fun j hj _ => ?_)
   by_cases ej : j = i
   ·subst ej
    exact .inr ⟨by simp [butK], hidle.1, hidle.2⟩
   ·exact .inl (by simp [butK, ej])
/-- The program ahead of the last two steps. -/
def preT (p : Pv) (k k2 : Kn) : Pv := cutF (shortF (cutF p (kOf k))) (kOf k2)
theorem tid_eq (p : Pv) (k k2 : Kn) : tidF p k k2 = constF (idleF (preT p k k2).n (preT p k k2)) := rfl
section
variable {p : Pv} {k k2 : Kn}
theorem pre_all (hv : verF p = .ok k) (hv2 : verF (shortF (cutF p (kOf k))) = .ok k2) : (∃ k3, verF (preT p k k2) = .ok k3 ∧ AllK (preT p k k2) k3) ∧ NJ (preT p k k2) ∧ (preT p k k2).n ≤ p.n := by
 obtain ⟨_, ka, h1, h2⟩ := cut_ver hv
 obtain ⟨_, kc, h3, h4⟩ := cut_ver hv2
 have l1 : cnt (kOf k) p.n ≤ p.n := cnt_le _ _
 have l2 : cnt (kOf k2) (cnt (kOf k) p.n) ≤ cnt (kOf k) p.n := cnt_le _ _
 exact ⟨⟨kc, h3, h4⟩, cut_nj hv2 (short_nj h1 h2), by show cnt (kOf k2) (cnt (kOf k) p.n) ≤ p.n; omega⟩
theorem tid_ver (hv : verF p = .ok k) (hv2 : verF (shortF (cutF p (kOf k))) = .ok k2) : (∃ kq, verF (tidF p k k2) = .ok kq ∧ AllK (tidF p k k2) kq) ∧ NJ (tidF p k k2) ∧ NI (tidF p k k2) ∧ (tidF p k k2).n ≤ p.n ∧ (tidF p k k2).nc ≤ p.nc := by
 obtain ⟨⟨k3, h1, h2⟩, h3, h4⟩ := pre_all hv hv2
 obtain ⟨⟨k4, g1, g2⟩, g3, g4, g5, g6, _⟩ := idleF_all h1 h2 h3 (Nat.le_refl _)
 have g6' : (idleF (preT p k k2).n (preT p k k2)).nc = p.nc := g6
 rw [tid_eq]
 generalize idleF (preT p k k2).n (preT p k k2) = d at g1 g2 g3 g4 g5 g6'
 refine ⟨const_ver g1 g2, fun i hi hw => ?_, fun j hj => ?_, by show d.n ≤ _; omega, by show cnt (usd d) d.nc ≤ _; have := cnt_le (usd d) d.nc; omega⟩
 ·have hw' : wayP (d.op i) = true := hw
  have e : (constF d).arg i = d.arg i := by
   show (if d.op i = 2 then _ else _) = _
   rw [if_neg (fun q => by rw [q] at hw'; cases hw')]
  rw [e]
  exact g3 i hi hw'
 ·have := g4 j hj
  unfold idleB at this ⊢
  show (decide (d.op j = 25) && decide ((if d.op j = 2 then ((cnt (usd d) (d.arg j).toNat : Nat) : Int) else d.arg j) = (j : Int) + 1)) = false
  by_cases q : d.op j = 2
  ·rw [q]; rfl
  ·rw [if_neg q]; exact this
theorem tid_end {e : En} {ev f : Int} (he : e.Ok) (hv : verF p = .ok k) (hv2 : verF (shortF (cutF p (kOf k))) = .ok k2) (hC : ∀ j, j < p.nc → 0 ≤ p.C j ∧ p.C j < two64) (hp : isPl ev 6 = true) (hf : 0 ≤ f) : endS (tidF p k k2) e (ldS (tidF p k k2) ev f) = endS p e (ldS p ev f) := by
 obtain ⟨⟨k3, h1, h2⟩, h3, h4⟩ := pre_all hv hv2
 obtain ⟨⟨k4, g1, g2⟩, g3, g4, g5, g6, g7⟩ := idleF_all h1 h2 h3 (Nat.le_refl _)
 obtain ⟨_, ka, a1, a2⟩ := cut_ver hv
 have e1 := idleF_end he hp hf (m := (preT p k k2).n) h1 h2 hC
 have e2 : endS (preT p k k2) e (ldS (preT p k k2) ev f) = _ := cut_end (K := kOf k2) he hv2 h1 hC hp hf (fun i _ hk => .inl hk)
 have e3 := short_end he a1 hv2 hC hp hf
 have e4 := cut_end (K := kOf k) he hv a1 hC hp hf (fun i _ hk => .inl hk)
 rw [tid_eq]
 have hCd : ∀ j, j < (idleF (preT p k k2).n (preT p k k2)).nc → 0 ≤ (idleF (preT p k k2).n (preT p k k2)).C j ∧ (idleF (preT p k k2).n (preT p k k2)).C j < two64 := by
  rw [g6, g7]
  exact hC
 generalize idleF (preT p k k2).n (preT p k k2) = d at g1 g2 e1 hCd
 obtain ⟨kq, q1, _⟩ := const_ver g1 g2
 rw [const_end he g1 q1 hCd (fun j hj => hCd _ (sel_spec (K := usd d) (n := d.nc) hj).1) hp hf, e1, e2, e3, e4]
end
/-- Two programs that lie alike. -/
structure Eqb (p' p : Pv) : Prop where
 nc : p'.nc = p.nc
 ns : p'.ns = p.ns
 n : p'.n = p.n
 S : p'.S = p.S
 C : ∀ j, j < p.nc → p'.C j = p.C j
 en : ∀ e, e < 6 → p'.en e = p.en e
 op : ∀ i, i < p.n → p'.op i = p.op i
 arg : ∀ i, i < p.n → p'.arg i = p.arg i
theorem Eqb.trans {a b c : Pv} (h : Eqb a b) (g : Eqb b c) : Eqb a c :=
 ⟨h.nc.trans g.nc, h.ns.trans g.ns, h.n.trans g.n, h.S.trans g.S, fun j hj => (h.C j (by rw [g.nc]; exact hj)).trans (g.C j hj), fun e he => (h.en e he).trans (g.en e he), fun i hi => (h.op i (by rw [g.n]; exact hi)).trans (g.op i hi), fun i hi => (h.arg i (by rw [g.n]; exact hi)).trans (g.arg i hi)⟩
theorem Eqb.symm {a b : Pv} (h : Eqb a b) : Eqb b a :=
 ⟨h.nc.symm, h.ns.symm, h.n.symm, h.S.symm, fun j hj => (h.C j (by rw [← h.nc]; exact hj)).symm, fun e he => (h.en e he).symm, fun i hi => (h.op i (by rw [← h.n]; exact hi)).symm, fun i hi => (h.arg i (by rw [← h.n]; exact hi)).symm⟩
section
variable {p p' : Pv} {k : Kn}
theorem Eqb.edgs (h : Eqb p' p) {i : Nat} (hi : i < p.n) (l : List Bool) : edgs p' i l = Go.Proofs.YtggpaljilpbmhaaGreatDoor.edgs p i l ∧ tkB p' i = tkB p i ∧ lyB p' i = lyB p i := by
 obtain ⟨c1, c2⟩ := col_eq (p := p') (p' := p) (i := i) (j := i) h.S (h.op i hi) (.inr (h.arg i hi))
 refine ⟨?_, c1, c2⟩
 have ha : aft p' i l = aft p i l := by unfold aft; rw [c1, c2]
 unfold Go.Proofs.YtggpaljilpbmhaaGreatDoor.edgs
 rw [ha, h.op i hi, h.arg i hi]
theorem Eqb.ent (h : Eqb p' p) {i : Nat} (he : Ent p i) : Ent p' i := by
 obtain ⟨e, h1, h2, h3⟩ := he
 exact ⟨e, h1, by rw [h.en e h1]; exact h2, by rw [h.en e h1]; exact h3⟩
theorem Eqb.flow (h : Eqb p' p) (hf : Flow p k) : Flow p' k := by
 refine ⟨fun e he h0 => ?_, fun i l hi hk => ?_, fun i l hi hk => ?_⟩
 ·rw [h.en e he] at h0 ⊢
  exact hf.en e he h0
 ·rw [h.n] at hi
  obtain ⟨e1, e2, e3⟩ := h.edgs hi l
  obtain ⟨f1, f2⟩ := hf.fl i l hi hk
  refine ⟨by unfold fits; rw [e2, e3]; exact f1, fun x hx => ?_⟩
  rw [e1] at hx
  obtain ⟨b1, b2, b3⟩ := f2 x hx
  exact ⟨by rw [h.n]; exact b1, fun q => by rw [h.op _ b1]; exact b2 q, b3⟩
 ·rw [h.n] at hi
  rcases hf.rc i l hi hk with q | ⟨z, l0, l', q1, q2, q3⟩
  ·exact .inl (h.ent q)
  ·exact .inr ⟨z, l0, l', q1, q2, by rw [(h.edgs (show z < p.n by omega) l0).1]; exact q3⟩
/-- What is verified alike. -/
theorem Eqb.ver {k' : Kn} (h : Eqb p' p) (hv : verF p = .ok k) (hv' : verF p' = .ok k') (ha : AllK p k) : AllK p' k' := by
 obtain ⟨k2, g1, g2⟩ := ver_of (ver_wf hv').stat (h.flow (flow_of hv))
 rw [hv'] at g1
 cases g1
 exact fun j hj => by rw [g2 j hj]; exact ha j (by rw [← h.n]; exact hj)
theorem Eqb.nj (h : Eqb p' p) (hw : Wf p) (hn : NJ p) : NJ p' := by
 intro i hi hwy
 rw [h.n] at hi
 rw [h.op i hi] at hwy
 have := (isPl_nat ((hw.ins i hi).way hwy)).2
 rw [h.arg i hi, h.op _ this]
 exact hn i hi hwy
theorem Eqb.ni (h : Eqb p' p) (hn : NI p) : NI p' := by
 intro j hj
 rw [h.n] at hj
 have := hn j hj
 unfold idleB at this ⊢
 rw [h.op j hj, h.arg j hj]
 exact this
theorem Eqb.used (h : Eqb p' p) (hu : ∀ c, c < p.nc → usd p c = true) : ∀ c, c < p'.nc → usd p' c = true := fun c hc => by
 rw [h.nc] at hc
 obtain ⟨j, h1, h2, h3⟩ := usedB_true.1 (hu c hc)
 exact usedB_true.2 ⟨j, by rw [h.n]; exact h1, by rw [h.op j h1]; exact h2, by rw [h.arg j h1]; exact h3⟩
theorem cnt_all {K : Nat → Bool} : ∀ {n : Nat}, (∀ i, i < n → K i = true) → cnt K n = n
 | 0, _ => rfl
 | n + 1, h => by
  rw [cnt_next (h n (by omega)), cnt_all (fun i hi => h i (by omega))]
theorem sel_all {K : Nat → Bool} {n i : Nat} (h : ∀ i, i < n → K i = true) (hi : i < n) : sel K n i = i := by
 have := sel_cnt hi (h i hi)
 rwa [cnt_all (fun j hj => h j (by omega))] at this
theorem cut_eqb {K : Nat → Bool} (hw : Wf p) (h : ∀ i, i < p.n → K i = true) : Eqb (cutF p K) p := by
 have hc : ∀ a : Int, isPl a p.n = true → ((cnt K a.toNat : Nat) : Int) = a := fun a ha => by
  have := isPl_nat ha
  rw [cnt_all (fun j hj => h j (by omega))]
  omega
 refine ⟨rfl, rfl, cnt_all h, rfl, fun _ _ => rfl, fun e he => ?_, fun i hi => ?_, fun i hi => ?_⟩
 ·show (if 0 ≤ p.en e then ((cnt K (p.en e).toNat : Nat) : Int) else p.en e) = _
  by_cases q : 0 ≤ p.en e
  ·rw [if_pos q]
   rcases hw.en e he with r | r
   ·omega
   ·exact hc _ r
  ·rw [if_neg q]
 ·show p.op (sel K p.n i) = _
  rw [sel_all h hi]
 ·show (if wayP (p.op (sel K p.n i)) = true then ((cnt K (p.arg (sel K p.n i)).toNat : Nat) : Int) else p.arg (sel K p.n i)) = _
  rw [sel_all h hi]
  by_cases q : wayP (p.op i) = true
  ·rw [if_pos q]
   exact hc _ ((hw.ins i hi).way q)
  ·rw [if_neg q]
theorem short_eqb (hw : Wf p) (h : NJ p) : Eqb (shortF p) p := by
 refine ⟨rfl, rfl, rfl, rfl, fun _ _ => rfl, fun _ _ => rfl, fun _ _ => rfl, fun i hi => ?_⟩
 show (if wayP (p.op i) = true then ((finF p p.n (p.arg i).toNat : Nat) : Int) else p.arg i) = _
 by_cases q : wayP (p.op i) = true
 ·rw [if_pos q, fin_stop (h i hi q)]
  have := isPl_nat ((hw.ins i hi).way q)
  omega
 ·rw [if_neg q]
theorem const_eqb (hw : Wf p) (h : ∀ c, c < p.nc → usd p c = true) : Eqb (constF p) p := by
 refine ⟨cnt_all h, rfl, rfl, rfl, fun j hj => ?_, fun _ _ => rfl, fun _ _ => rfl, fun i hi => ?_⟩
 ·show p.C (sel (usd p) p.nc j) = _
  rw [sel_all h hj]
 ·show (if p.op i = 2 then ((cnt (usd p) (p.arg i).toNat : Nat) : Int) else p.arg i) = _
  by_cases q : p.op i = 2
  ·rw [if_pos q]
   obtain ⟨a1, a2, _⟩ := const_arg hw hi q
   rw [cnt_all (fun j hj => h j (by omega))]
   exact a1.symm
  ·rw [if_neg q]
theorem const_used : ∀ c, c < (constF p).nc → usd (constF p) c = true := fun c hc => by
 have hc : c < cnt (usd p) p.nc := hc
 obtain ⟨s1, s2, s3⟩ := sel_spec hc
 obtain ⟨j, h1, h2, h3⟩ := usedB_true.1 s2
 refine usedB_true.2 ⟨j, h1, h2, ?_⟩
 show (if p.op j = 2 then ((cnt (usd p) (p.arg j).toNat : Nat) : Int) else p.arg j) = _
 rw [if_pos h2, h3]
 show ((cnt (usd p) (sel (usd p) p.nc c) : Nat) : Int) = _
 rw [s3]
/-- What is tidy stays as it is. -/
theorem tidy_eqb {q : Pv} {kq k3 : Kn} (hv : verF q = .ok kq) (ha : AllK q kq) (hj : NJ q) (hi : NI q) (hu : ∀ c, c < q.nc → usd q c = true) (hv3 : verF (shortF (cutF q (kOf kq))) = .ok k3) : Eqb (tidF q kq k3) q := by
 have hw := ver_wf hv
 have e1 := cut_eqb (K := kOf kq) hw ha
 obtain ⟨w1, _, _, _⟩ := cut_ver hv
 have e2 := (short_eqb w1 (e1.nj hw hj)).trans e1
 have a3 := e2.ver hv hv3 ha
 have w3 := ver_wf hv3
 have e3 := (cut_eqb (K := kOf k3) w3 a3).trans e2
 obtain ⟨w4, _, _, _⟩ := cut_ver hv3
 have n3 := none_fstI (e3.ni hi)
 have e4 : idleF (preT q kq k3).n (preT q kq k3) = preT q kq k3 := idleF_none n3
 rw [tid_eq, e4]
 exact (const_eqb w4 (e3.used hu)).trans e3
end
theorem tid_used {p : Pv} {k k2 : Kn} (hv : verF p = .ok k) (hv2 : verF (shortF (cutF p (kOf k))) = .ok k2) : ∀ c, c < (tidF p k k2).nc → usd (tidF p k k2) c = true := by
 obtain ⟨⟨k3, h1, h2⟩, h3, h4⟩ := pre_all hv hv2
 obtain ⟨⟨k4, g1, g2⟩, _⟩ := idleF_all h1 h2 h3 (Nat.le_refl _)
 rw [tid_eq]
 exact const_used
theorem tid_again {p : Pv} {k k2 kq k3 : Kn} (hv : verF p = .ok k) (hv2 : verF (shortF (cutF p (kOf k))) = .ok k2) (hq : verF (tidF p k k2) = .ok kq) (hq3 : verF (shortF (cutF (tidF p k k2) (kOf kq))) = .ok k3) : Eqb (tidF (tidF p k k2) kq k3) (tidF p k k2) := by
 obtain ⟨⟨kq', h1, h2⟩, h3, h4, _, _⟩ := tid_ver hv hv2
 rw [hq] at h1
 cases h1
 exact tidy_eqb hq h2 h3 h4 (tid_used hv hv2) hq3
/-- One program that lies as another is laid alike. -/
theorem Eqb.ok {p p' : Pv} {g : Pg} {lim : Nat} {w : World} (h : Eqb p' p) (hg : g.Ok p' lim w) : g.Ok p lim w ∧ g.cs p' = g.cs p := by
 refine ⟨⟨fun e => hg.hc (by rw [h.nc]; exact e), fun e => hg.hs (by rw [h.ns]; exact e), fun e => hg.hi (by rw [h.n]; exact e), fun j hj => ?_, fun j hj => ?_, fun j hj => ?_, fun j hj => ?_, by rw [← h.nc]; exact hg.lc, by rw [← h.ns]; exact hg.ls, by rw [← h.n]; exact hg.li⟩, ?_⟩
 ·rw [← h.C j hj]; exact hg.vc j (by rw [h.nc]; exact hj)
 ·rw [← h.S]; exact hg.vs j (by rw [h.ns]; exact hj)
 ·rw [← h.op j hj]; exact hg.vo j (by rw [h.n]; exact hj)
 ·rw [← h.arg j hj]; exact hg.va j (by rw [h.n]; exact hj)
 ·unfold Pg.cs
  rw [h.nc, h.ns, h.n, h.en 0 (by decide), h.en 1 (by decide), h.en 2 (by decide), h.en 3 (by decide), h.en 4 (by decide), h.en 5 (by decide)]
end Go.Proofs.YtggpaljilpbmhaaGreatDoor
namespace Go.Proofs.YtggpaljilpbmhaaGreatDoor
open Go.RowKit

/-- The law's world, ahead of the tidied program: the two boxes. -/
structure Ta (W : World) (g : Pg) (p : Pv) (e : En) (pb eb : Nat) (w : World) : Prop where
 bp : w.heap[pb]? = some (.cells (g.cs p).toArray 27 (0, 0))
 be : w.heap[eb]? = some (.cells e.cs.toArray 30 (0, 0))
 ok : g.Ok p W.heap.size w
 tab : Tab w
 z : 10 < W.heap.size
 bel : Below W.heap.size W w
/-- And the tidied program, in a box of its own. -/
structure Tb (W : World) (g : Pg) (p : Pv) (e : En) (q : Pv) (gq : Pg) (pb eb qb : Nat) (w : World) : Prop where
 a : Ta W g p e pb eb w
 bq : w.heap[qb]? = some (.cells (gq.cs q).toArray 27 (0, 0))
 po : Po W.heap.size gq q w
section
variable {W : World} {g : Pg} {p : Pv} {e : En} {pb eb : Nat} {w w' : World}
theorem Ta.next (h : Ta W g p e pb eb w) (hb : Below w.heap.size w w') : Ta W g p e pb eb w' :=
 ⟨(hb.block _ (block_lt h.bp)).trans h.bp, (hb.block _ (block_lt h.be)).trans h.be, h.ok.kept hb h.bel.size, h.tab.below hb h.tab.z, h.z, h.bel.trans (hb.mono h.bel.size)⟩
theorem Ta.off (h : Ta W g p e pb eb w) {ob : Nat} (hg : w.grownBy w' (some ob)) (ho : W.heap.size ≤ ob) (h1 : pb ≠ ob) (h2 : eb ≠ ob) : Ta W g p e pb eb w' := by
 have hb : Below W.heap.size w w' := (Below.refl _ w).grown hg h.bel.size (fun x e => by cases e; exact ho)
 exact ⟨(hg.block _ (block_lt h.bp) (by simpa using h1)).trans h.bp, (hg.block _ (block_lt h.be) (by simpa using h2)).trans h.be, h.ok.kept hb (Nat.le_refl _), h.tab.below hb h.z, h.z, h.bel.trans hb⟩
theorem Ta.copy (h : Ta W g p e pb eb w) (b0 : p.nc * 8 ≤ 140737488351232) (b1 : p.ns * 8 ≤ 140737488351232) (b2 : p.n * 16 ≤ 140737488351232) : Calls Tryz.prog 8 #[.agg (g.cs p).toArray] w fun x w1 => ∃ g1 : Pg, x = .returned (.agg (g1.cs p).toArray) ∧ g1.Ok p w1.heap.size w1 ∧ Tab w1 ∧ Below w.heap.size w w1 :=
 (copyRw (h.ok.wide h.bel.size) b0 b1 b2).mono fun _ _ ⟨g1, q1, q2, q3⟩ => ⟨g1, q1, q2.ok, h.tab.below q3 h.tab.z, q3⟩
/-- What Tidy gives of a program that is verified. -/
theorem tidyK {k : Kn} (hv : verF p = .ok k) {w1 w2 : World} {g1 : Pg} (h : g1.Ok p w1.heap.size w1) (hT : Tab w1) (hb : Below w1.heap.size w1 w2) : Calls Tryz.prog 7 #[.agg (g1.cs p).toArray] w2 fun x w3 => ∃ k2 gq, x = .returned (.tuple #[.agg (Pg.cs gq (tidF p k k2)).toArray, .nilIface]) ∧ verF (shortF (cutF p (kOf k))) = .ok k2 ∧ Po w2.heap.size gq (tidF p k k2) w3 ∧ Below w2.heap.size w2 w3 := by
 refine (tidyC ((h.kept hb (Nat.le_refl _)).wide hb.size) (hT.below hb hT.z)).mono fun x w3 hh => ?_
 rw [hv] at hh
 obtain ⟨k2, gq, q1, q2⟩ := hh
 exact ⟨k2, gq, q1, q2.out.1, q2.out.2.1, q2.out.2.2⟩
/-- What Tidy says of one that is not. -/
theorem tidyR {a y : Int} (hv : verF p = .error (a, y)) {w1 w2 : World} {g1 : Pg} (h : g1.Ok p w1.heap.size w1) (hT : Tab w1) (hb : Below w1.heap.size w1 w2) : Calls Tryz.prog 7 #[.agg (g1.cs p).toArray] w2 fun x w3 => ∃ gf, x = .returned (.tuple #[.agg zP, .iface 74 (.pointer (some ⟨gf, 0, none⟩))]) ∧ Hid (Below w2.heap.size w2 w3) := by
 refine (tidyC ((h.kept hb (Nat.le_refl _)).wide hb.size) (hT.below hb hT.z)).mono fun x w3 hh => ?_
 rw [hv] at hh
 obtain ⟨gf, q1, q2⟩ := hh
 exact ⟨gf, q1, q2.out.2⟩
variable {q : Pv} {gq : Pg} {qb : Nat}
theorem Tb.next (h : Tb W g p e q gq pb eb qb w) (hb : Below w.heap.size w w') : Tb W g p e q gq pb eb qb w' :=
 ⟨h.a.next hb, (hb.block _ (block_lt h.bq)).trans h.bq, h.po.next hb⟩
theorem Tb.verify {kq : Kn} (h : Tb W g p e q gq pb eb qb w) (hv : verF q = .ok kq) : Calls Tryz.prog 9 #[.agg (gq.cs q).toArray] w fun x w1 => x = .returned .nilIface ∧ Hid (Below w.heap.size w w1) := by
 refine (verifyC h.po.ok h.a.tab).mono fun x w1 hh => ?_
 rw [hv] at hh
 exact hh
theorem Tb.shape {kq : Kn} (h : Tb W g p e q gq pb eb qb w) (hv : verF q = .ok kq) (ha : AllK q kq) {i : Nat} (hi : i < q.n) : Calls Tryz.prog 10 #[.agg (gq.cs q).toArray, .int .i64 (i : Nat)] w fun x w1 => ∃ v, x = .returned (.tuple #[v, .bool true, .nilIface]) ∧ Hid (Below w.heap.size w w1) := by
 refine (shapeC h.po.ok h.a.tab (i : Nat)).mono fun x w1 hh => ?_
 have e1 : shF q ((i : Nat) : Int) = .ok (kin (kq i), true) := by
  unfold shF
  rw [hv]
  simp only
  rw [if_pos (isPl_mk hi)]
  have : (((i : Nat) : Int)).toNat = i := rfl
  rw [this, ha i hi]
 rw [e1] at hh
 obtain ⟨v, q1, q2⟩ := hh
 exact ⟨v, q1, q2.out.2⟩
theorem Tb.tidy {k k2 kq : Kn} (h : Tb W g p e (tidF p k k2) gq pb eb qb w) (hv : verF p = .ok k) (hv2 : verF (shortF (cutF p (kOf k))) = .ok k2) (hq : verF (tidF p k k2) = .ok kq) : Calls Tryz.prog 7 #[.agg (gq.cs (tidF p k k2)).toArray] w fun x w1 => ∃ ga : Pg, x = .returned (.tuple #[.agg (ga.cs (tidF p k k2)).toArray, .nilIface]) ∧ Hid (ga.Ok (tidF p k k2) w1.heap.size w1 ∧ Below w.heap.size w w1) := by
 refine (tidyK hq h.po.ok h.a.tab (Below.refl _ w)).mono fun x w1 hh => ?_
 obtain ⟨k3, ga, q1, q2, q3, q4⟩ := hh
 obtain ⟨o1, o2⟩ := (tid_again hv hv2 hq q2).ok q3.ok
 exact ⟨ga, by rw [← o2]; exact q1, o1, q4⟩
theorem Tb.same (h : Tb W g p e q gq pb eb qb w) {ga : Pg} (ho : ga.Ok q w.heap.size w) : Calls Tryz.prog 11 #[.agg (ga.cs q).toArray, .agg (gq.cs q).toArray] w fun x w1 => x = .returned (.bool true) ∧ Hid (Below w.heap.size w w1) := sameT ho h.po.ok
end
end Go.Proofs.YtggpaljilpbmhaaGreatDoor
