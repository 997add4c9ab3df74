/-
 Numbers and their recursor in the sample's environment: what Iota answers; what may be,of what is applied.
-/
import Derived.Lib.Hide
import Derived.Test.YthkiedoijckjiaaGreatQB35
open Go.Lib (hid)
set_option maxRecDepth 100000
set_option maxHeartbeats 32000000
namespace Go.Proofs.YthkiedoijckjiaaGreat
open Go.RowKit Go.Shelf Go.Maps Lvl Trm Env
namespace Typ
theorem appl_ok : ∀ (l : List Tm) (f : Tm),f.sound → (∀ x ∈ l,x.sound) → (appl f l).sound ∧ (appl f l).size = f.size + sizeL l + l.length ∧ (∀ h : Int,f.ht ≤ h → (∀ x ∈ l,x.ht ≤ h) → (appl f l).ht ≤ h + l.length)
 | [],f,hf,_ => ⟨hf,by simp [appl,sizeL],fun h h1 _ => by simpa [appl] using h1⟩
 | x :: r,f,hf,hl => by
   have hs : (t2 4 f x).sound := by
    unfold t2
    rw [Tm.sound]
    refine ⟨by rfl,?_⟩
    rw [soundL,soundL,soundL]
    exact ⟨hf,hl x (by simp),trivial⟩
   obtain ⟨h1,h2,h3⟩ := appl_ok r (t2 4 f x) hs (fun y hy => hl y (by simp [hy]))
   have e : appl f (x :: r) = appl (t2 4 f x) r := rfl
   have hz : (t2 4 f x).size = 1 + (f.size + x.size) := by unfold t2; rw [Tm.size,sizeL,sizeL,sizeL]; omega
   have hh : (t2 4 f x).ht = 1 + max f.ht x.ht := by
    unfold t2
    rw [Tm.ht,htL,htL,htL]
    have := ht_pos x
    rw [Int.max_eq_left (by omega : (0 : Int) ≤ x.ht)]
   rw [e]
   refine ⟨h1,?_,fun h k1 k2 => ?_⟩
   ·rw [h2,hz,sizeL,List.length_cons]; omega
   ·have q := h3 (h + 1) (by rw [hh]; have := k2 x (by simp); omega) (fun y hy => by have := k2 y (by simp [hy]); omega)
    rw [List.length_cons]; omega
theorem appl_may {f : Tm} {l : List Tm} (hf : f.may = true) (hl : ∀ x ∈ l,x.may = true) (h : Int) (hz : f.size + sizeL l + l.length ≤ 65536) (hf2 : f.ht ≤ h) (hl2 : ∀ x ∈ l,x.ht ≤ h) (hh : h + l.length ≤ 4096) : (appl f l).may = true := by
 obtain ⟨h1,h2,h3⟩ := appl_ok l f (may_sound hf).1 (fun x hx => (may_sound (hl x hx)).1)
 exact may_of h1 (by omega) (by have := h3 h hf2 hl2; omega)
theorem appl_parts : ∀ (l : List Tm) (f : Tm),(appl f l).sound → f.sound ∧ (∀ x ∈ l,x.sound)
 | [],f,h => ⟨h,by simp⟩
 | x :: r,f,h => by
   have h : (appl (t2 4 f x) r).sound := h
   obtain ⟨h1,h2⟩ := appl_parts r _ h
   unfold t2 at h1
   rw [Tm.sound,soundL,soundL,soundL] at h1
   exact ⟨h1.2.1,fun y hy => by
    rcases List.mem_cons.1 hy with rfl | hy
    ·exact h1.2.2.1
    ·exact h2 y hy⟩
theorem appl_turn {f g : Tm} {c z s m : Tm} {l : List Tm} (ht : (appl f [c,z,s,m]).may = true) (hg : g.may = true) (hgz : g.size ≤ 200) (hgh : g.ht ≤ 200) (hsz : c.size + z.size + s.size ≤ 1000) (hl : ∀ x ∈ l,x.may = true ∧ x.size ≤ 1000 ∧ x.ht ≤ 1000) (hn : l.length ≤ 2) :
 (appl g ([c,z,s] ++ l)).may = true := by
 obtain ⟨hs,hh⟩ := may_sound ht
 obtain ⟨_,hp⟩ := appl_parts _ _ hs
 have hc := hp c (by simp)
 have hz := hp z (by simp)
 have hs2 := hp s (by simp)
 have e1 := ht_size c
 have e2 := ht_size z
 have e3 := ht_size s
 have p1 := c.size_pos
 have p2 := z.size_pos
 have p3 := s.size_pos
 have hall : ∀ x ∈ [c,z,s] ++ l,x.sound ∧ x.ht ≤ 1000 := fun x hx => by
  simp only [List.mem_append,List.mem_cons,List.not_mem_nil,or_false] at hx
  rcases hx with (rfl | rfl | rfl) | hx
  ·exact ⟨hc,by omega⟩
  ·exact ⟨hz,by omega⟩
  ·exact ⟨hs2,by omega⟩
  ·exact ⟨(may_sound (hl x hx).1).1,(hl x hx).2.2⟩
 obtain ⟨h1,h2,h3⟩ := appl_ok ([c,z,s] ++ l) g (may_sound hg).1 (fun x hx => (hall x hx).1)
 have hlz : sizeL l ≤ 2000 := by
  match l,hl,hn with
  | [],_,_ => rw [sizeL]; omega
  | [x],hl,_ => rw [sizeL,sizeL]; have := (hl x (by simp)).2.1; omega
  | [x,y],hl,_ => rw [sizeL,sizeL,sizeL]; have := (hl x (by simp)).2.1; have := (hl y (by simp)).2.1; omega
  | _ :: _ :: _ :: _,_,hn => simp at hn
 have hz2 : sizeL ([c,z,s] ++ l) = c.size + z.size + s.size + sizeL l := by
  show sizeL (c :: z :: s :: l) = _
  rw [sizeL,sizeL,sizeL]; omega
 have hlen : ((([c,z,s] ++ l).length : Nat) : Int) ≤ 5 := by simp; omega
 refine may_of h1 (by rw [h2,hz2]; omega) ?_
 have := h3 1000 (by omega) (fun x hx => (hall x hx).2)
 omega
def recN : Tm := tCo ⟨#[78,46,114,101,99]⟩ [number 3]
def cZero : Tm := tCo ⟨#[78,46,122,101,114,111]⟩ []
def cSucc : Tm := tCo ⟨#[78,46,115,117,99,99]⟩ []
noncomputable def nR : Inf := (rcr Smp.smpL recN 4).1
noncomputable def nB0 : Tm := (lvA (rlf Smp.smpL nR.rules cZero 0).1.body [number 3]).1
noncomputable def nB1 : Tm := (lvA (rlf Smp.smpL nR.rules cSucc 1).1.body [number 3]).1
theorem nB0_ok : nB0.may = true ∧ decide (nB0.size ≤ 200) = true ∧ decide (nB0.ht ≤ 200) = true ∧ nB0.k = 5 := by
 refine ⟨?_,?_,?_,?_⟩ <;> kernel_rfl
theorem nB1_ok : nB1.may = true ∧ decide (nB1.size ≤ 200) = true ∧ decide (nB1.ht ≤ 200) = true ∧ nB1.k = 5 := by
 refine ⟨?_,?_,?_,?_⟩ <;> kernel_rfl
theorem num_all : (List.range 100).all (fun k => (Smp.num k).may && decide ((Smp.num k).size ≤ 300) && decide ((Smp.num k).ht ≤ 300)) = true := by kernel_rfl
theorem num_ok {k : Nat} (h : k < 100) : (Smp.num k).may = true ∧ (Smp.num k).size ≤ 300 ∧ (Smp.num k).ht ≤ 300 := by
 have := List.all_eq_true.1 num_all k (List.mem_range.2 h)
 simp only [Bool.and_eq_true,decide_eq_true_eq] at this
 exact ⟨this.1.1,this.1.2,this.2⟩
theorem num_zero : spM (Smp.num 0) = (cZero,[]) := spM_of' (g := cZero) (m := []) (num_ok (k := 0) (by decide)).1 (by decide) (by simp)
theorem num_succ {k : Nat} (h : k + 1 < 100) : spM (Smp.num (k + 1)) = (cSucc,[Smp.num k]) := spM_of' (g := cSucc) (m := [Smp.num k]) (num_ok (k := k + 1) h).1 (by decide) (by simp)
theorem iot_zero {t m c z s M : Tm} (h1 : spM t = (recN,[c,z,s,M])) (h2 : spM m = (cZero,[])) : iot Smp.smpL t m = apA nB0 [c,z,s] ∧ (decide ((rcr Smp.smpL (spM t).1 ((spM t).2.length : Int)).1.rules.length ≤ 1000000) && iotC Smp.smpL t m) = true := by
 unfold iot iotC wr2
 rw [h1,h2]
 constructor
 ·kernel_rfl
 ·kernel_rfl
theorem iot_succ {t m c z s M N : Tm} (h1 : spM t = (recN,[c,z,s,M])) (h2 : spM m = (cSucc,[N])) : iot Smp.smpL t m = apA nB1 [c,z,s,N] ∧ (decide ((rcr Smp.smpL (spM t).1 ((spM t).2.length : Int)).1.rules.length ≤ 1000000) && iotC Smp.smpL t m) = true := by
 unfold iot iotC wr2
 rw [h1,h2]
 constructor
 ·kernel_rfl
 ·kernel_rfl
theorem iot_two {t m c z s M N O : Tm} (h1 : spM t = (recN,[c,z,s,M])) (h2 : spM m = (cSucc,[N,O])) : iot Smp.smpL t m = (zeroT,6) ∧ (decide ((rcr Smp.smpL (spM t).1 ((spM t).2.length : Int)).1.rules.length ≤ 1000000) && iotC Smp.smpL t m) = true := by
 unfold iot iotC wr2
 rw [h1,h2]
 constructor
 ·kernel_rfl
 ·kernel_rfl
theorem apA_ok {f : Tm} {l : List Tm} (h : (appl f l).may = true) (hk : ((appl f l).k == 0) = false) : apA f l = (appl f l,0) := by
 have e : papp f l = appl f l := by unfold papp; rw [if_pos h]
 unfold apA
 rw [e,hk]
 rfl
theorem may_k {t : Tm} (h : t.may = true) : (t.k == 0) = false := by
 have := (node_few (OkMay.start h).node.1).2.2.1
 simp
 omega
end Typ
end Go.Proofs.YthkiedoijckjiaaGreat
namespace Go.Proofs.YthkiedoijckjiaaGreat
open Go.RowKit Go.Shelf Go.Maps Lvl Trm Env
namespace Typ
def recL : Tm := tCo ⟨#[76,105,115,116,46,114,101,99]⟩ [number 0]
def cNil : Tm := tCo ⟨#[76,105,115,116,46,110,105,108]⟩ []
def cCons : Tm := tCo ⟨#[76,105,115,116,46,99,111,110,115]⟩ []
def lst (a x : Tm) : Nat → Tm
 | 0 => appl cNil [a]
 | n + 1 => appl cCons [a,x,lst a x n]
noncomputable def lR : Inf := (rcr Smp.smpL recL 5).1
noncomputable def lB0 : Tm := (lvA (rlf Smp.smpL lR.rules cNil 1).1.body [number 0]).1
noncomputable def lB1 : Tm := (lvA (rlf Smp.smpL lR.rules cCons 3).1.body [number 0]).1
theorem lB0_ok : lB0.may = true ∧ decide (lB0.size ≤ 200) = true ∧ decide (lB0.ht ≤ 200) = true ∧ (lB0.k != 4) = true := by
 refine ⟨?_,?_,?_,?_⟩ <;> kernel_rfl
theorem lB1_ok : lB1.may = true ∧ decide (lB1.size ≤ 200) = true ∧ decide (lB1.ht ≤ 200) = true ∧ (lB1.k != 4) = true := by
 refine ⟨?_,?_,?_,?_⟩ <;> kernel_rfl
theorem lst_ok {a x : Tm} (ha : a.may = true ∧ a.size ≤ 200) (hx : x.may = true ∧ x.size ≤ 200) : ∀ n : Nat,n ≤ 20 → (lst a x n).may = true ∧ (lst a x n).size ≤ 210 + 410 * n ∧ (lst a x n).ht ≤ 210 + 3 * n
 | 0,_ => by
   have e1 := ht_size a
   have p1 := a.size_pos
   have hs := (may_sound ha.1).1
   obtain ⟨h1,h2,h3⟩ := appl_ok [a] cNil (may_sound (t := cNil) (by decide)).1 (by intro y hy; simp at hy; rw [hy]; exact hs)
   have h4 := h3 200 (by decide) (by intro y hy; simp at hy; rw [hy]; omega)
   have c1 : cNil.size = 1 := by decide
   have z : sizeL [a] = a.size := by rw [sizeL,sizeL]; omega
   rw [z,c1] at h2
   simp only [List.length_cons,List.length_nil] at h2 h4
   refine ⟨may_of h1 ?_ ?_,?_,?_⟩ <;> (unfold lst; omega)
 | n + 1,hn => by
   obtain ⟨i1,i2,i3⟩ := lst_ok ha hx n (by omega)
   have e1 := ht_size a
   have e2 := ht_size x
   have p1 := a.size_pos
   have p2 := x.size_pos
   obtain ⟨h1,h2,h3⟩ := appl_ok [a,x,lst a x n] cCons (may_sound (t := cCons) (by decide)).1 (by
    intro y hy
    simp at hy
    rcases hy with rfl | rfl | rfl
    ·exact (may_sound ha.1).1
    ·exact (may_sound hx.1).1
    ·exact (may_sound i1).1)
   have h4 := h3 (210 + 3 * n) (by have : cCons.ht = 1 := by decide
                                   omega) (by
    intro y hy
    simp at hy
    rcases hy with rfl | rfl | rfl
    ·omega
    ·omega
    ·omega)
   have c1 : cCons.size = 1 := by decide
   have z : sizeL [a,x,lst a x n] = a.size + x.size + (lst a x n).size := by rw [sizeL,sizeL,sizeL,sizeL]; omega
   rw [z,c1] at h2
   simp only [List.length_cons,List.length_nil] at h2 h4
   refine ⟨may_of h1 ?_ ?_,?_,?_⟩ <;> (unfold lst; omega)
theorem lst_zero {a x : Tm} (h : (lst a x 0).may = true) : spM (lst a x 0) = (cNil,[a]) := spM_of' (g := cNil) (m := [a]) h (by decide) (by simp)
theorem lst_succ {a x : Tm} {n : Nat} (h : (lst a x (n + 1)).may = true) : spM (lst a x (n + 1)) = (cCons,[a,x,lst a x n]) := spM_of' (g := cCons) (m := [a,x,lst a x n]) h (by decide) (by simp)
theorem appl_small {f : Tm} {l : List Tm} (hf : f.may = true) (hfz : f.size ≤ 200) (hfh : f.ht ≤ 300) (hl : ∀ y ∈ l,y.may = true ∧ y.size ≤ 8500 ∧ y.ht ≤ 300) (hn : l.length ≤ 7) : (appl f l).may = true := by
 have hz : ∀ m : List Tm,(∀ y ∈ m,y.size ≤ 8500) → sizeL m ≤ 8500 * m.length := fun m => by
  induction m with
  | nil => intro _; rw [sizeL]; simp
  | cons y r ih =>
    intro h
    have h1 := ih (fun q hq => h q (by simp [hq]))
    have h2 := h y (by simp)
    rw [sizeL,List.length_cons]
    omega
 have h1 := hz l (fun y hy => (hl y hy).2.1)
 exact appl_may hf (fun y hy => (hl y hy).1) 300 (by omega) hfh (fun y hy => (hl y hy).2.2) (by omega)
theorem iotL_nil0 {t m a c z s M : Tm} (h1 : spM t = (recL,[a,c,z,s,M])) (h2 : spM m = (cNil,[a])) : iot Smp.smpL t m = apA lB0 [a,c,z,s] ∧ (decide ((rcr Smp.smpL (spM t).1 ((spM t).2.length : Int)).1.rules.length ≤ 1000000) && iotC Smp.smpL t m) = true := by
 unfold iot iotC wr2
 rw [h1,h2]
 constructor
 ·kernel_rfl
 ·kernel_rfl
theorem iotL_cons0 {t m a c z s M y N : Tm} (h1 : spM t = (recL,[a,c,z,s,M])) (h2 : spM m = (cCons,[a,y,N])) : iot Smp.smpL t m = apA lB1 [a,c,z,s,y,N] ∧ (decide ((rcr Smp.smpL (spM t).1 ((spM t).2.length : Int)).1.rules.length ≤ 1000000) && iotC Smp.smpL t m) = true := by
 unfold iot iotC wr2
 rw [h1,h2]
 constructor
 ·kernel_rfl
 ·kernel_rfl
theorem iotL_zero0 {t m a c z s M : Tm} (h1 : spM t = (recL,[a,c,z,s,M])) (h2 : spM m = (cZero,[])) : iot Smp.smpL t m = (zeroT,6) ∧ (decide ((rcr Smp.smpL (spM t).1 ((spM t).2.length : Int)).1.rules.length ≤ 1000000) && iotC Smp.smpL t m) = true := by
 unfold iot iotC wr2
 rw [h1,h2]
 constructor
 ·kernel_rfl
 ·kernel_rfl
theorem iotL_succ0 {t m a c z s M N : Tm} (h1 : spM t = (recL,[a,c,z,s,M])) (h2 : spM m = (cSucc,[N])) : iot Smp.smpL t m = (zeroT,6) ∧ (decide ((rcr Smp.smpL (spM t).1 ((spM t).2.length : Int)).1.rules.length ≤ 1000000) && iotC Smp.smpL t m) = true := by
 unfold iot iotC wr2
 rw [h1,h2]
 constructor
 ·kernel_rfl
 ·kernel_rfl
theorem mjrL0 {t a c z s M : Tm} (h1 : spM t = (recL,[a,c,z,s,M])) : (mjr Smp.smpL t).2 = (4,true) := by
 unfold mjr
 rw [h1]
 kernel_rfl
theorem iotL_nil1 {t m a c z s M x : Tm} (h1 : spM t = (recL,[a,c,z,s,M,x])) (h2 : spM m = (cNil,[a])) : iot Smp.smpL t m = apA lB0 [a,c,z,s,x] ∧ (decide ((rcr Smp.smpL (spM t).1 ((spM t).2.length : Int)).1.rules.length ≤ 1000000) && iotC Smp.smpL t m) = true := by
 unfold iot iotC wr2
 rw [h1,h2]
 constructor
 ·kernel_rfl
 ·kernel_rfl
theorem iotL_cons1 {t m a c z s M x y N : Tm} (h1 : spM t = (recL,[a,c,z,s,M,x])) (h2 : spM m = (cCons,[a,y,N])) : iot Smp.smpL t m = apA lB1 [a,c,z,s,y,N,x] ∧ (decide ((rcr Smp.smpL (spM t).1 ((spM t).2.length : Int)).1.rules.length ≤ 1000000) && iotC Smp.smpL t m) = true := by
 unfold iot iotC wr2
 rw [h1,h2]
 constructor
 ·kernel_rfl
 ·kernel_rfl
theorem iotL_zero1 {t m a c z s M x : Tm} (h1 : spM t = (recL,[a,c,z,s,M,x])) (h2 : spM m = (cZero,[])) : iot Smp.smpL t m = (zeroT,6) ∧ (decide ((rcr Smp.smpL (spM t).1 ((spM t).2.length : Int)).1.rules.length ≤ 1000000) && iotC Smp.smpL t m) = true := by
 unfold iot iotC wr2
 rw [h1,h2]
 constructor
 ·kernel_rfl
 ·kernel_rfl
theorem iotL_succ1 {t m a c z s M x N : Tm} (h1 : spM t = (recL,[a,c,z,s,M,x])) (h2 : spM m = (cSucc,[N])) : iot Smp.smpL t m = (zeroT,6) ∧ (decide ((rcr Smp.smpL (spM t).1 ((spM t).2.length : Int)).1.rules.length ≤ 1000000) && iotC Smp.smpL t m) = true := by
 unfold iot iotC wr2
 rw [h1,h2]
 constructor
 ·kernel_rfl
 ·kernel_rfl
theorem mjrL1 {t a c z s M x : Tm} (h1 : spM t = (recL,[a,c,z,s,M,x])) : (mjr Smp.smpL t).2 = (4,true) := by
 unfold mjr
 rw [h1]
 kernel_rfl
end Typ
end Go.Proofs.YthkiedoijckjiaaGreat
