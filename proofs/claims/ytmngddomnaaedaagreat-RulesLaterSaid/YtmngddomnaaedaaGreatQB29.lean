/-
 What is known of the slots,kept by each operation; a function's contract by reckoning its text once.
-/
import Derived.Lib.Hide
import Derived.Test.YtmngddomnaaedaaGreatQB28
open Go.Lib (hid)
set_option maxRecDepth 100000
set_option maxHeartbeats 32000000
namespace Go.Proofs.YtmngddomnaaedaaGreat
open Go.RowKit Go.Shelf Go.Maps Lvl Trm Env
namespace Typ
theorem hits_one_ne {d t:Nat} {x:Sl} (h:¬ d=t):hits [(d,x)] t=false:=by
 cases hb:d.beq t
 ·simp [hits,hb]
 ·exact absurd (Nat.eq_of_beq_eq_true hb) h
def PB (P0:Nat→Prop) (fr:Nat→Option Nat) (q:Nat):Prop:=P0 q∨∃ t,fr t=some q
def VArgs [Typ.Xt] (P:Nat→Prop) (w:World):List (Bool × List Ch)→List Value→Prop
 | [],vs=>vs=[]
 | s :: r,vs=>∃ v y,vs=v :: y∧VOk P w s.1 s.2 v∧VArgs P w r y
theorem VArgs.turn [Typ.Xt] {P P':Nat→Prop} {w w':World} (hr:RanX P w w') (hP:∀ q,P' q→P q∨w.heap.size≤q):∀ {ss:List (Bool × List Ch)} {vs:List Value},VArgs P w ss vs→VArgs P' w' ss vs
 | [],_,h=>h
 | _ :: _,_,⟨v,y,h1,h2,h3⟩=>⟨v,y,h1,h2.turn hr hP,VArgs.turn hr hP h3⟩
theorem VArgs.at_ [Typ.Xt] {P:Nat→Prop} {w:World}:∀ {ss:List (Bool × List Ch)} {vs:List Value} {k:Nat} {x:Bool × List Ch},VArgs P w ss vs→ss[k]?=some x→∃ v,vs[k]?=some v∧VOk P w x.1 x.2 v
 | [],_,_,_,_,h=>by simp at h
 | _ :: _,_,0,_,⟨v,y,h1,h2,h3⟩,h=>by
   simp only [List.getElem?_cons_zero,Option.some.injEq] at h
   subst h h1
   exact ⟨v,rfl,h2⟩
 | _ :: _,_,k + 1,_,⟨v,y,h1,h2,h3⟩,h=>by
   subst h1
   obtain ⟨u,hu,hk⟩:=VArgs.at_ (k:=k) h3 (by simpa using h)
   exact ⟨u,by simpa using hu,hk⟩
def OkAll [Typ.Xt] (P:Nat→Prop) (w:World) (n:Nat):List (List Ch)→List (List Value)→Prop
 | [],vss=>vss=[]
 | l :: r,vss=>∃ x y,vss=x :: y∧Typ.Ok P w l x∧x.length=n∧OkAll P w n r y
theorem OkAll.turn [Typ.Xt] {P P':Nat→Prop} {w w':World} {n:Nat} (hr:RanX P w w') (hP:∀ q,P' q→P q∨w.heap.size≤q):∀ {els:List (List Ch)} {vss:List (List Value)},OkAll P w n els vss→OkAll P' w' n els vss
 | [],_,h=>h
 | _ :: _,_,⟨x,y,h1,h2,h3,h4⟩=>⟨x,y,h1,h2.turn hr hP,h3,OkAll.turn hr hP h4⟩
theorem OkAll.len [Typ.Xt] {P:Nat→Prop} {w:World} {n:Nat}:∀ {els:List (List Ch)} {vss:List (List Value)},OkAll P w n els vss→vss.flatten.length=els.length * n∧vss.flatten.all (·.oneCell')=true
 | [],_,h=>by cases h; simp
 | _ :: _,_,⟨x,y,h1,h2,h3,h4⟩=>by
   subst h1
   obtain ⟨a,b⟩:=OkAll.len h4
   refine ⟨by simp only [List.flatten_cons,List.length_append,List.length_cons,a,h3,Nat.add_mul,Nat.one_mul]; omega,?_⟩
   rw [List.flatten_cons,List.all_append,h2.len.2,b]
   rfl
theorem OkAll.append [Typ.Xt] {P:Nat→Prop} {w:World} {n:Nat}:∀ {els els2:List (List Ch)} {vss vss2:List (List Value)},OkAll P w n els vss→OkAll P w n els2 vss2→OkAll P w n (els ++ els2) (vss ++ vss2)
 | [],_,_,_,h,k=>by cases h; exact k
 | _ :: _,_,_,_,⟨x,y,h1,h2,h3,h4⟩,k=>⟨x,y ++ _,by rw [h1]; rfl,h2,h3,OkAll.append h4 k⟩
def OwnAt [Typ.Xt] (P:Nat→Prop) (w:World) (k:RK) (els:List (List Ch)) (v:Value) (g:Nat):Prop :=
 ∃ cap cur vss,v=.slice (some ⟨g,0,none⟩) els.length cap∧w.heap[g]?=some (.cells cur k.elem (0,0))∧els.length≤cap∧cap≤maxLen∧cur.size=cap * k.size∧cur.toList.take (els.length * k.size)=vss.flatten∧OkAll P w k.size els vss
theorem OwnAt.turn [Typ.Xt] {P P':Nat→Prop} {w w':World} {k:RK} {els:List (List Ch)} {v:Value} {g:Nat} (h:OwnAt P w k els v g) (hr:RanX P w w') (hP:∀ q,P' q→P q∨w.heap.size≤q) (hg:w'.heap[g]?=w.heap[g]?):OwnAt P' w' k els v g:=by
 obtain ⟨cap,cur,vss,h1,h2,h3,h4,h5,h6,h7⟩:=h
 exact ⟨cap,cur,vss,h1,hg.trans h2,h3,h4,h5,h6,h7.turn hr hP⟩
def nilRow (els:List (List Ch)) (v:Value):Prop:=v=.slice none 0 0∧els=[]
def Sl.Ok [Typ.Xt] (P:Nat→Prop) (fr:Nat→Option Nat) (w:World) (t:Nat):Sl→Value→Prop
 | .val s l,v=>VOk P w s l v
 | .tup r,v=>∃ vs,v=.tuple vs.toArray∧VArgs P w r vs
 | .box ty n,v=>∃ b cs,v=.pointer (some ⟨b,0,none⟩)∧fr t=some b∧w.heap[b]?=some (.cells cs ty (0,0))∧cs.size=n
 | .var ty l,v=>∃ b vs,v=.pointer (some ⟨b,0,none⟩)∧¬ P b∧w.heap[b]?=some (.cells vs.toArray ty (0,0))∧Typ.Ok P w l vs
 | .mvar ty l,v=>∃ b vs,v=.pointer (some ⟨b,0,none⟩)∧fr t=some b∧w.heap[b]?=some (.cells vs.toArray ty (0,0))∧Typ.Ok P w l vs
 | .fld s _ l,v=>∃ b o vs,v=.pointer (some ⟨b,o,none⟩)∧¬ P b∧b < w.heap.size∧w.rangeAt b o vs∧Typ.Ok P w l vs∧(s=false→∃ x,vs=[x])
 | .mfld t ty f,v=>∃ b Z off sz,v=.pointer (some ⟨b,off,none⟩)∧fr t=some b∧zst ty=some Z∧(offs 0 Z)[f]?=some (off,sz)
 | .own k els,v=>nilRow els v∨∃ g,fr t=some g∧OwnAt P w k els v g
 | .any,_=>True
structure Fr [Typ.Xt] (P0:Nat→Prop) (w0 w:World) (fr:Nat→Option Nat):Prop where
 old:Lt P0 w0
 inj:∀ t t' q,fr t=some q→fr t'=some q→t=t'
 own:∀ t q,fr t=some q→w0.heap.size≤q∧q < w.heap.size
 bel:Below w0.heap.size w0 w
theorem Fr.lt [Typ.Xt] {P0:Nat→Prop} {w0 w:World} {fr:Nat→Option Nat} (h:Fr P0 w0 w fr) (q:Nat) (k:PB P0 fr q):q < w.heap.size:=by
 rcases k with a | ⟨t,a⟩
 ·exact Nat.lt_of_lt_of_le (h.old.lt q a) h.bel.size
 ·exact (h.own t q a).2
theorem Fr.ltP [Typ.Xt] {P0:Nat→Prop} {w0 w:World} {fr:Nat→Option Nat} (h:Fr P0 w0 w fr):Lt (PB P0 fr) w:=⟨h.lt,Nat.le_trans h.old.B h.bel.size⟩
theorem Fr.hi [Typ.Xt] {P0:Nat→Prop} {w0 w:World} {fr:Nat→Option Nat} (h:Fr P0 w0 w fr) {t q:Nat} (k:fr t=some q):Xt.B≤q:=Nat.le_trans h.old.B (h.own t q k).1
abbrev Spec:=FuncId→List (Bool × List Ch)→Option (Sl × Bool)
structure Par where
 sp:Spec
 n:Nat
 ov:List (Nat × Bool)
 mu:List Nat
 cut:Bool
 ow:List Nat:=[]
def Par.isO (p:Par) (d:Nat):Bool:=p.ow.any (Nat.beq d)
def Par.isM (p:Par) (d:Nat):Bool:=p.mu.any (Nat.beq d)
structure St [Typ.Xt] (P0:Nat→Prop) (w0:World) (p:Par) (T:Tbl Sl) (a:Act) (w:World):Prop where
 defers:a.defers=[]
 size:a.tmps.size=p.n
 refs:∀ s t ty f,look T s=some (.mfld t ty f)→∃ ty' l,look T t=some (.mvar ty' l)
 mus:∀ t ty l,look T t=some (.mvar ty l)→p.isM t=true
 ex:∃ fr,Fr P0 w0 w fr∧∀ t x,look T t=some x→x.Ok (PB P0 fr) fr w t (a.tmps.getD t undef)
theorem Sl.Ok.turn [Typ.Xt] {P P':Nat→Prop} {fr fr':Nat→Option Nat} {w w':World} {t:Nat} {x:Sl} {v:Value} (h:x.Ok P fr w t v) (hr:RanX P w w') (hP:∀ q,P' q→P q∨w.heap.size≤q) (hf:fr' t=fr t) (hm:∀ u ty f,x=.mfld u ty f→fr' u=fr u) (hb:∀ b,fr t=some b→w'.heap[b]?=w.heap[b]?):x.Ok P' fr' w' t v:=by
 cases x with
 | val s l=>exact VOk.turn h hr hP
 | tup r =>
   obtain ⟨vs,h1,h2⟩:=h
   exact ⟨vs,h1,h2.turn hr hP⟩
 | box ty n =>
   obtain ⟨b,cs,h1,h2,h3,h4⟩:=h
   exact ⟨b,cs,h1,hf.trans h2,(hb b h2).trans h3,h4⟩
 | var ty l =>
   obtain ⟨b,vs,h1,h2,h3,h4⟩:=h
   have hlt:=(Array.getElem?_eq_some_iff.1 h3).1
   exact ⟨b,vs,h1,fun a=>by rcases hP b a with c | c; exact h2 c; omega,hr.ran.keep h3 h2,h4.turn hr hP⟩
 | mvar ty l =>
   obtain ⟨b,vs,h1,h2,h3,h4⟩:=h
   exact ⟨b,vs,h1,hf.trans h2,(hb b h2).trans h3,h4.turn hr hP⟩
 | fld s ty l =>
   obtain ⟨b,o,vs,h1,h2,h3,h4,h5,h6⟩:=h
   exact ⟨b,o,vs,h1,fun a=>by rcases hP b a with c | c; exact h2 c; omega,Nat.lt_of_lt_of_le h3 hr.size,range_ran h4 hr.ran h3 h2,h5.turn hr hP,h6⟩
 | mfld u ty f =>
   obtain ⟨b,Z,off,sz,h1,h2,h3⟩:=h
   exact ⟨b,Z,off,sz,h1,(hm u ty f rfl).trans h2,h3⟩
 | own k els =>
   rcases h with h | ⟨g,h1,h2⟩
   ·exact Or.inl h
   ·exact Or.inr ⟨g,hf.trans h1,h2.turn hr hP (hb g h1)⟩
 | any=>trivial
theorem refs_app {T:Tbl Sl} {d:Nat} {x:Sl} (h:∀ s t ty f,look T s=some (Sl.mfld t ty f)→∃ ty' l,look T t=some (Sl.mvar ty' l)) (hd:(∃ ty l,x=Sl.mvar ty l)∨∀ ty l,look T d ≠ some (Sl.mvar ty l)) (hx:∀ t ty f,x=Sl.mfld t ty f→t ≠ d∧∃ ty' l,look T t=some (.mvar ty' l)) :
 ∀ s t ty f,look (app [(d,x)] T) s=some (.mfld t ty f)→∃ ty' l,look (app [(d,x)] T) t=some (.mvar ty' l):=by
 have ne:∀ {t:Nat},t ≠ d→look (app [(d,x)] T) t=look T t:=fun {t} ht=>look_app_ne (u:=[(d,x)]) (hits_one_ne (fun e2=>ht e2.symm))
 have main:∀ t,(∃ ty' l,look T t=some (.mvar ty' l))→∃ ty' l,look (app [(d,x)] T) t=some (.mvar ty' l):=fun t ht=>by
  by_cases e:t=d
  ·subst e
   rcases hd with ⟨ty,l,rfl⟩ | hd
   ·exact ⟨ty,l,look_app (p:=(t,Sl.mvar ty l))⟩
   ·obtain ⟨ty,l,h1⟩:=ht
    exact absurd h1 (hd ty l)
  ·rw [ne e]; exact ht
 intro s t ty f hl
 by_cases e:s=d
 ·subst e
  rw [look_app (p:=(s,x))] at hl
  cases hl
  exact main t (hx t ty f rfl).2
 ·rw [ne e] at hl
  exact main t (h s t ty f hl)
theorem St.go [Typ.Xt] {P0:Nat→Prop} {w0 w w':World} {p:Par} {d:Nat} {T:Tbl Sl} {a a':Act} {fr fr':Nat→Option Nat} {x:Sl} (hs:St P0 w0 p T a w)
 (hT:∀ t x,look T t=some x→x.Ok (PB P0 fr) fr w t (a.tmps.getD t undef)) (hd:a'.defers=[]) (hn:a'.tmps.size=p.n) (hF':Fr P0 w0 w' fr') (hr:RanX (PB P0 fr) w w')
 (hP:∀ q,PB P0 fr' q→PB P0 fr q∨w.heap.size≤q) (hfo:∀ t x,t ≠ d→look T t=some x→x ≠ .any→fr' t=fr t) (hfm:fr' d=fr d∨∀ ty l,look T d ≠ some (.mvar ty l)) (hbk:∀ t b x,t ≠ d→look T t=some x→x ≠ .any→fr t=some b→w'.heap[b]?=w.heap[b]?)
 (hev:∀ t,t ≠ d→a'.tmps.getD t undef=a.tmps.getD t undef) (hmv:(∃ ty l,x=.mvar ty l∧p.isM d=true)∨((∀ ty l,x ≠ .mvar ty l)∧p.isM d=false)) (hmf:∀ t ty f,x=.mfld t ty f→∃ ty' l,look T t=some (.mvar ty' l))
 (hx:x.Ok (PB P0 fr') fr' w' d (a'.tmps.getD d undef)):St P0 w0 p (app [(d,x)] T) a' w':=by
 have nod:p.isM d=false→∀ ty l,look T d ≠ some (.mvar ty l):=fun hh ty l e=>by have:=hs.mus d ty l e; rw [hh] at this; cases this
 refine ⟨hd,hn,refs_app hs.refs ?_ (fun t ty f e=>?_),fun t ty l hl=>?_,fr',hF',fun t y hy=>?_⟩
 ·rcases hmv with ⟨ty,l,h1,_⟩ | ⟨_,h2⟩
  ·exact Or.inl ⟨ty,l,h1⟩
  ·exact Or.inr (nod h2)
 ·refine ⟨fun e2=>?_,hmf t ty f e⟩
  subst e2
  rcases hmv with ⟨ty2,l2,h1,_⟩ | ⟨_,h2⟩
  ·rw [h1] at e; cases e
  ·obtain ⟨ty2,l2,h3⟩:=hmf t ty f e
   exact nod h2 ty2 l2 h3
 ·by_cases e:d=t
  ·subst e
   rw [look_app (p:=(d,x))] at hl
   cases hl
   rcases hmv with ⟨_,_,_,h2⟩ | ⟨h1,_⟩
   ·exact h2
   ·exact absurd rfl (h1 ty l)
  ·rw [look_app_ne (u:=[(d,x)]) (hits_one_ne (fun e2=>e e2))] at hl
   exact hs.mus t ty l hl
 by_cases e:d=t
 ·subst e
  rw [look_app (p:=(d,x))] at hy
  cases hy
  exact hx
 ·rw [look_app_ne (u:=[(d,x)]) (hits_one_ne (fun e2=>e e2))] at hy
  rw [hev t (Ne.symm e)]
  by_cases ya:y=.any
  ·subst ya; trivial
  refine (hT t y hy).turn hr hP (hfo t y (Ne.symm e) hy ya) (fun u ty f eu=>?_) (fun b hb=>hbk t b y (Ne.symm e) hy ya hb)
  by_cases eud:u=d
  ·rcases hfm with h1 | h1
   ·rw [eud]; exact h1
   ·subst eu
    obtain ⟨ty2,l2,h2⟩:=hs.refs t u ty f hy
    rw [eud] at h2
    exact absurd h2 (h1 ty2 l2)
  ·subst eu
   obtain ⟨ty2,l2,h2⟩:=hs.refs t u ty f hy
   exact hfo u _ eud h2 (by intro e; cases e)
theorem put_ne {a:Act} {d t:Nat} {v:Value} (h:t ≠ d):(a.put (some d) v).tmps.getD t undef=a.tmps.getD t undef:=by
 simp [Act.put,Array.getD_eq_getD_getElem?,Ne.symm h]
theorem put_eq {a:Act} {d n:Nat} {v:Value} (h:a.tmps.size=n) (hd:d < n):(a.put (some d) v).tmps.getD d undef=v:=by
 simp [Act.put,Array.getD_eq_getD_getElem?,h,hd]
theorem St.put [Typ.Xt] {P0:Nat→Prop} {w0 w w':World} {p:Par} {d:Nat} {T:Tbl Sl} {a:Act} {v:Value} {x:Sl} {fr:Nat→Option Nat} (hs:St P0 w0 p T a w) (hF:Fr P0 w0 w fr) (hT:∀ t x,look T t=some x→x.Ok (PB P0 fr) fr w t (a.tmps.getD t undef))
 (hb:Below w.heap.size w w') (hd:d < p.n) (hm:p.isM d=false) (hxm:∀ ty l,x ≠ .mvar ty l) (hmf:∀ t ty f,x=.mfld t ty f→∃ ty' l,look T t=some (.mvar ty' l)) (hx:x.Ok (PB P0 fr) fr w' d v):St P0 w0 p (app [(d,x)] T) (a.put (some d) v) w' :=
 St.go hs hT (by simp [Act.put,hs.defers]) (by simp [Act.put,hs.size]) ⟨hF.old,hF.inj,fun t q h=>⟨(hF.own t q h).1,Nat.lt_of_lt_of_le (hF.own t q h).2 hb.size⟩,hF.bel.trans (hb.mono hF.bel.size)⟩ (RanX.of_below hb) (fun q h=>Or.inl h) (fun _ _ _ _ _=>rfl) (Or.inl rfl)
  (fun t b _ _ _ _ h=>hb.block b (hF.own t b h).2) (fun t ht=>put_ne ht) (Or.inr ⟨hxm,hm⟩) hmf (by rw [put_eq hs.size hd]; exact hx)
def constV:Value→Option Sl
 | .agg cs=>if cs.toList.all (·.oneCell') then some (.val true (cs.toList.map .dat)) else none
 | v=>if v.oneCell' then some (.val false [.dat v]) else none
def constO:Operand→Option Sl
 | .const v=>constV v
 | _=>none
theorem ok_dats [Typ.Xt] {P:Nat→Prop} {w:World}:∀ (vs:List Value),vs.all (·.oneCell')=true→Typ.Ok P w (vs.map .dat) vs
 | [],_=>rfl
 | v :: r,h=>by
   simp only [List.all_cons,Bool.and_eq_true] at h
   exact ok_dat h.1 (ok_dats r h.2)
theorem constV_val [Typ.Xt] {v:Value} {x:Sl} (h:constV v=some x):∃ s l,x=.val s l∧∀ P w,VOk P w s l v:=by
 unfold constV at h
 split at h
 ·split at h
  ·rename_i cs hc
   cases h
   exact ⟨_,_,rfl,fun P w=>⟨cs.toList,ok_dats _ hc,Or.inl ⟨rfl,by simp⟩⟩⟩
  ·cases h
 ·split at h
  ·rename_i hc
   cases h
   exact ⟨_,_,rfl,fun P w=>⟨[v],ok_dat hc rfl,Or.inr ⟨rfl,rfl⟩⟩⟩
  ·cases h
theorem getO_val [Typ.Xt] {P0:Nat→Prop} {w:World} {T:Tbl Sl} {a:Act} {fr:Nat→Option Nat} (hT:∀ t x,look T t=some x→x.Ok (PB P0 fr) fr w t (a.tmps.getD t undef)) (x:Operand) (s:Bool) (l:List Ch) (h:getO constO T x=some (.val s l)):VOk (PB P0 fr) w s l (a.eval x):=by
 cases x with
 | tmp t=>exact hT t _ h
 | const v =>
   obtain ⟨s2,l2,e,hv⟩:=constV_val (v:=v) h
   cases e
   exact hv _ _
 | global g=>simp [getO,constO] at h
 | func f=>simp [getO,constO] at h
theorem getO_tmp {T:Tbl Sl} {x:Operand} {y:Sl} (h:getO constO T x=some y) (hy:∀ s l,y ≠ .val s l):∃ t,x=.tmp t∧look T t=some y:=by
 cases x with
 | tmp t=>exact ⟨t,rfl,h⟩
 | const v=>obtain ⟨s2,l2,e,hv⟩:=constV_val (v:=v) h; exact absurd e (hy _ _)
 | global g=>simp [getO,constO] at h
 | func f=>simp [getO,constO] at h
theorem getO_voks [Typ.Xt] {P0:Nat→Prop} {w:World} {T:Tbl Sl} {a:Act} {fr:Nat→Option Nat} (hT:∀ t x,look T t=some x→x.Ok (PB P0 fr) fr w t (a.tmps.getD t undef)):∀ (xs:List Operand),VOks (PB P0 fr) w (xs.map (getO constO T)) (xs.map a.eval)
 | []=>rfl
 | x :: r=>⟨_,_,rfl,fun s l h=>getO_val hT x s l h,getO_voks hT r⟩
def ROk [Typ.Xt] (P:Nat→Prop) (B:Nat) (w:World):Sl→Value→Prop
 | .val s l,v=>VOk P w s l v
 | .tup r,v=>∃ vs,v=.tuple vs.toArray∧VArgs P w r vs
 | .own k els,v=>nilRow els v∨∃ g,B≤g∧OwnAt (fun q=>P q∨q=g) w k els v g
 | _,_=>False
def MadeV [Typ.Xt] (P:Nat→Prop) (w:World) (r:Sl) (e:Ending) (w':World):Prop:=∃ v,e=.returned v∧Below w.heap.size w w'∧ROk P w.heap.size w' r v
theorem ROk.ok [Typ.Xt] {P:Nat→Prop} {B:Nat} {fr:Nat→Option Nat} {w:World} {t:Nat} {x:Sl} {v:Value} (h:ROk P B w x v) (hno:∀ k els,x ≠ .own k els):x.Ok P fr w t v:=by
 cases x <;> first | exact h | exact h.elim | exact absurd rfl (hno _ _)
structure SpecOk [Typ.Xt] (sp:Spec):Prop where
 enter:∀ f ss r,sp f ss=some (r,true)→∀ args w,(callFunc f args).run Tryz.prog w=.ok (.enter f args) w
 calls:∀ f ss r,sp f ss=some (r,true)→∀ (P:Nat→Prop) w vs,Typ.Lt P w→VArgs P w ss vs→Calls Tryz.prog f vs.toArray w (MadeV P w r)
def valsOf:List (Option Sl)→Option (List (Bool × List Ch))
 | []=>some []
 | some (.val s l) :: r=>match valsOf r with
   | some xs=>some ((s,l) :: xs)
   | none=>none
 | _=>none
theorem valsOf_ok [Typ.Xt] {P:Nat→Prop} {w:World}:∀ (xs:List (Option Sl)) (ss:List (Bool × List Ch)) (vs:List Value),valsOf xs=some ss→VOks P w xs vs→VArgs P w ss vs
 | [],ss,vs,h,hv=>by
   simp only [valsOf,Option.some.injEq] at h
   subst h
   exact hv
 | some (.val s l) :: r,ss,_,h,⟨v,y,rfl,hv,hr⟩=>by
   unfold valsOf at h
   split at h
   ·rename_i xs hx
    cases h
    exact ⟨v,y,rfl,hv s l rfl,valsOf_ok r xs y hx hr⟩
   ·cases h
 | none :: _,_,_,h,_=>by simp [valsOf] at h
 | some (.box _ _) :: _,_,_,h,_=>by simp [valsOf] at h
 | some (.var _ _) :: _,_,_,h,_=>by simp [valsOf] at h
 | some (.mvar _ _) :: _,_,_,h,_=>by simp [valsOf] at h
 | some (.fld _ _ _) :: _,_,_,h,_=>by simp [valsOf] at h
 | some (.tup _) :: _,_,_,h,_=>by simp [valsOf] at h
 | some (.any) :: _,_,_,h,_=>by simp [valsOf] at h
 | some (.mfld _ _ _) :: _,_,_,h,_=>by simp [valsOf] at h
 | some (.own _ _) :: _,_,_,h,_=>by simp [valsOf] at h
def ovr (ov:List (Nat × Bool)) (d:Nat) (x:Sl):Sl × Bool:=match x with
 | .val false [.dat (.bool b)]=>match look ov d with
   | some v=>(.val false [.dat (.bool v)],b == v)
   | none=>(x,true)
 | _=>(x,true)
theorem ovr_ok {ov:List (Nat × Bool)} {d:Nat} {x y:Sl} {n:Bool} (h:ovr ov d x=(y,n)) (hn:n=true):y=x:=by
 unfold ovr at h
 split at h
 ·split at h
  ·cases h
   rw [eq_of_beq hn]
  ·cases h; rfl
 ·cases h; rfl
def putT (p:Par) (d:Nat) (x:Sl) (need:Bool):Option (Upd Sl × Bool × List Nat):=if Nat.blt d p.n && !p.isM d then match ovr p.ov d x with
 | (y,m)=>some ([(d,y)],need && m,[])
 else none
theorem putT_some {p:Par} {d:Nat} {x:Sl} {u:Upd Sl} {need:Bool} {ex:List Nat} (h:putT p d x need=some (u,true,ex)):d < p.n∧u=[(d,x)]∧need=true∧p.isM d=false:=by
 unfold putT at h
 split at h
 ·rename_i hb
  rw [Bool.and_eq_true] at hb
  cases ho:ovr p.ov d x with
  | mk y m =>
    simp only [ho,Option.some.injEq,Prod.mk.injEq,Bool.and_eq_true] at h
    obtain ⟨rfl,⟨rfl,rfl⟩,_⟩:=h
    rw [ovr_ok ho rfl]
    exact ⟨by simpa [Nat.blt_eq] using hb.1,rfl,rfl,by simpa using hb.2⟩
 ·cases h
def isNo {α:Type}:Option α→Bool
 | none=>true
 | _=>false
def putM (p:Par) (d:Nat) (x:Sl) (lk:Nat→Option Sl):Option (Upd Sl × Bool × List Nat):=if Nat.blt d p.n && p.isM d && isNo (lk d) then some ([(d,x)],true,[d]) else none
theorem putM_some {p:Par} {d:Nat} {x:Sl} {u:Upd Sl} {n:Bool} {ex:List Nat} {lk:Nat→Option Sl} (h:putM p d x lk=some (u,n,ex)):d < p.n∧u=[(d,x)]∧p.isM d=true∧lk d=none∧ex=[d]:=by
 unfold putM at h
 split at h
 ·rename_i hb
  simp only [Bool.and_eq_true] at hb
  cases h
  exact ⟨by simpa [Nat.blt_eq] using hb.1.1,rfl,hb.1.2,by cases hl:lk d; rfl; (have:=hb.2; rw [hl] at this; cases this),rfl⟩
 ·cases h
theorem putM_lk {p:Par} {d:Nat} {x:Sl} {r:Upd Sl × Bool × List Nat} {lk lk':Nat→Option Sl} (h:putM p d x lk=some r) (hl:∀ t,also r.2.2 t=true→lk t=lk' t):putM p d x lk'=some r:=by
 obtain ⟨_,_,_,h1,h2⟩:=putM_some (u:=r.1) (n:=r.2.1) (ex:=r.2.2) h
 have h3:lk d=lk' d:=hl d (by rw [h2]; simp [also])
 unfold putM at h ⊢
 rw [← h3]
 exact h
def elsOf:Ch→Option (RK × List (List Ch))
 | .tms l=>some (.tms,l.map fun t=>[.tm t])
 | .tmsC l=>some (.tms,l.map fun t=>[.tm t])
 | .infs l=>some (.infs,l.map infCh)
 | _=>none
def putO (p:Par) (d s:Nat) (k:RK) (els:List (List Ch)) (need:Bool):Option (Upd Sl × Bool × List Nat):=if Nat.blt d p.n && p.isO d && !p.isM d && !p.isM s && !Nat.beq s d then some ([(d,.own k els),(s,.any)],need,[]) else none
theorem putO_some {p:Par} {d s:Nat} {k:RK} {els:List (List Ch)} {need n:Bool} {u:Upd Sl} {ex:List Nat} (h:putO p d s k els need=some (u,n,ex)):d < p.n∧p.isM d=false∧p.isM s=false∧s ≠ d∧u=[(d,.own k els),(s,.any)]∧need=n:=by
 unfold putO at h
 split at h
 ·rename_i hb
  simp only [Bool.and_eq_true] at hb
  cases h
  exact ⟨by simpa [Nat.blt_eq] using hb.1.1.1.1,by simpa using hb.1.1.2,by simpa using hb.1.2,fun e=>by have h2:=hb.2; rw [e] at h2; simp at h2,rfl,rfl⟩
 ·cases h
def putN (p:Par) (d:Nat) (k:RK) (els:List (List Ch)) (need:Bool):Option (Upd Sl × Bool × List Nat):=if Nat.blt d p.n && p.isO d && !p.isM d then some ([(d,.own k els)],need,[]) else none
theorem putN_some {p:Par} {d:Nat} {k:RK} {els:List (List Ch)} {need n:Bool} {u:Upd Sl} {ex:List Nat} (h:putN p d k els need=some (u,n,ex)):d < p.n∧p.isM d=false∧u=[(d,.own k els)]∧need=n:=by
 unfold putN at h
 split at h
 ·rename_i hb
  simp only [Bool.and_eq_true] at hb
  cases h
  exact ⟨by simpa [Nat.blt_eq] using hb.1.1,by simpa using hb.2,rfl,rfl⟩
 ·cases h
def rkSame:RK→RK→Bool
 | .tms,.tms=>true
 | .lvs,.lvs=>true
 | .rls,.rls=>true
 | .infs,.infs=>true
 | .spines,.spines=>true
 | .tmss,.tmss=>true
 | .strs,.strs=>true
 | _,_=>false
theorem rkSame_eq {a b:RK} (h:rkSame a b=true):a=b:=by cases a <;> cases b <;> first | rfl | cases h
def ownEls (n:Nat):List (Option Sl)→Option (List (List Ch))
 | []=>some []
 | some (.val true l) :: r=>match ownEls n r with
   | some xs=>if Nat.beq (tot l) n then some (l :: xs) else none
   | none=>none
 | _=>none
theorem ownEls_ok [Typ.Xt] {P:Nat→Prop} {w:World} {n:Nat}:∀ (xs:List (Option Sl)) (vs:List Value) (els:List (List Ch)),ownEls n xs=some els→VOks P w xs vs→vs.length=els.length∧OkAll P w n els (vs.map fun v=>v.cells.toList)∧∀ v ∈ vs,v.cells.size=n
 | [],vs,els,h,hv=>by
   cases hv
   simp only [ownEls,Option.some.injEq] at h
   subst h
   exact ⟨rfl,rfl,fun v hv=>by simp at hv⟩
 | some (.val true l) :: r,_,els,h,⟨v,y,rfl,hv,hr⟩=>by
   unfold ownEls at h
   split at h
   ·rename_i xs hx
    split at h
    ·rename_i hb
     cases h
     obtain ⟨h1,h2,h3⟩:=ownEls_ok r y xs hx hr
     have hc:=(hv true l rfl).cells
     have hl:=hc.len.1
     rw [Nat.eq_of_beq_eq_true hb] at hl
     refine ⟨by simp [h1],⟨_,_,rfl,hc,hl,h2⟩,fun u hu=>?_⟩
     rcases List.mem_cons.1 hu with rfl | hu
     ·simpa using hl
     ·exact h3 u hu
    ·cases h
   ·cases h
 | some (.val false _) :: _,_,_,h,_=>by simp [ownEls] at h
 | none :: _,_,_,h,_=>by simp [ownEls] at h
 | some (.box _ _) :: _,_,_,h,_=>by simp [ownEls] at h
 | some (.var _ _) :: _,_,_,h,_=>by simp [ownEls] at h
 | some (.mvar _ _) :: _,_,_,h,_=>by simp [ownEls] at h
 | some (.fld _ _ _) :: _,_,_,h,_=>by simp [ownEls] at h
 | some (.mfld _ _ _) :: _,_,_,h,_=>by simp [ownEls] at h
 | some (.tup _) :: _,_,_,h,_=>by simp [ownEls] at h
 | some (.own _ _) :: _,_,_,h,_=>by simp [ownEls] at h
 | some (.any) :: _,_,_,h,_=>by simp [ownEls] at h
noncomputable def tr (p:Par) (o:Oper) (xs:List (Option Sl)) (lk:Nat→Option Sl):Option (Upd Sl × Bool × List Nat):=match o.dst with
 | none=>match o.op with
   | .store ty (.tmp t) _=>match xs with
     | [some (.box ty' m),some (.val true l)]=>match zst ty with
       | some Z=>if Nat.beq ty ty' && Nat.beq (tot l) m && Nat.beq (tot Z) m && !p.isM t then some ([(t,.var ty l)],true,[]) else none
       | none=>none
     | [some (.box ty' m),some (.val false [c])]=>match z1 ty with
       | some _=>if Nat.beq ty ty' && Nat.beq m 1 && Nat.beq c.size 1 && !p.isM t then some ([(t,.var ty [c])],true,[]) else none
       | none=>none
     | [some (.mvar ty' l'),some (.val true l)]=>match zst ty with
       | some Z=>if Nat.beq ty ty' && Nat.beq (tot l) (tot l') && Nat.beq (tot Z) (tot l') then some ([(t,.mvar ty l)],true,[]) else none
       | none=>none
     | _=>none
   | _=>none
 | some d=>match o.op with
   | .move x=>match xs with
     | [some (.val s l)]=>putT p d (.val s l) true
     | [some (.tup r)]=>putT p d (.tup r) true
     | [some (.own k els)]=>match x with
       | .tmp s=>putO p d s k els true
       | _=>none
     | _=>none
   | .assign x=>if p.isO d then match xs with
      | [some (.val false [.dat (.slice none 0 0)])]=>match rkOf o.type with
        | some k=>putN p d k [] true
        | none=>none
      | [some (.own k els)]=>match x with
        | .tmp s=>putO p d s k els true
        | _=>none
      | _=>none
     else match xs with
     | [some (.val s l)]=>putT p d (.val s l) true
     | _=>none
   | .pick _ _ _=>match xs with
     | [some (.val false [.dat (.bool c)]),x,y]=>match if c then x else y with
       | some (.val s l)=>putT p d (.val s l) true
       | _=>none
     | _=>none
   | .convert src dst _=>match xs with
     | [some (.val false [.dat (.int _ n)])]=>match Tryz.prog.underlying src,Tryz.prog.underlying dst with
       | some (.int _),some (.int k)=>putT p d (.val false [.dat (.int k (k.wrap n))]) true
       | _,_=>none
     | _=>none
   | .unOp .not _ _=>match xs with
     | [some (.val false [.dat (.bool c)])]=>putT p d (.val false [.dat (.bool !c)]) true
     | _=>none
   | .binOp op ty _ _ _=>match xs with
     | [some (.val false [.dat (.bool a)]),some (.val false [.dat (.bool b)])]=>match op with
       | .eql=>if boolT ty then putT p d (.val false [.dat (.bool (a == b))]) true else none
       | _=>none
     | [some (.val false [.dat x]),some (.val false [.dat y])]=>match binV op x y with
       | some v=>if v.oneCell' then putT p d (.val false [.dat v]) true else none
       | none=>match op,nilCh (.dat x),y with
         | .eql,some b,.pointer none=>if ptrT ty then putT p d (.val false [.dat (.bool b)]) true else none
         | _,_,_=>none
     | [some (.val false [.env _]),some (.val false [.dat (.pointer none)])]=>match op with
       | .eql=>if ptrT ty then putT p d (.val false [.dat (.bool false)]) true else none
       | _=>none
     | _=>none
   | .extract _ ix=>match xs with
     | [some (.tup r)]=>match r[ix]? with
       | some x=>putT p d (.val x.1 x.2) true
       | none=>none
     | _=>none
   | .box ty _=>match xs,zst ty with
     | [some (.val true l)],some Z=>if Nat.beq (tot l) (tot Z) then (if p.isM d then putM p d (.mvar ty l) lk else putT p d (.var ty l) true) else none
     | _,_=>none
   | .alloc ty=>match zst ty with
     | some Z=>if p.isM d then putM p d (.mvar ty Z) lk else putT p d (.box ty (tot Z)) true
     | none=>match z1 ty with
       | some _=>putT p d (.box ty 1) true
       | none=>none
   | .load ty _=>match xs with
     | [some (.var ty' l)]=>match zst ty with
       | some Z=>if Nat.beq ty ty' && Nat.beq (tot l) (tot Z) then putT p d (.val true l) true else none
       | none=>match l with
         | [c]=>if Nat.beq ty ty' && scalarT ty && Nat.beq c.size 1 then putT p d (.val false [c]) true else none
         | _=>none
     | [some (.mvar ty' l)]=>match zst ty with
       | some Z=>if Nat.beq ty ty' && Nat.beq (tot l) (tot Z) then putT p d (.val true l) true else none
       | none=>none
     | [some (.fld false _ l)]=>if scalarT ty && Nat.beq (tot l) 1 then putT p d (.val false l) true else none
     | [some (.fld true ty' l)]=>match zst ty with
       | some Z=>if Nat.beq ty ty' && Nat.beq (tot l) (tot Z) then putT p d (.val true l) true else none
       | none=>none
     | [some (.mfld t ty' f)]=>match lk t with
       | some (.mvar ty2 l)=>match zst ty' with
         | some Z=>if Nat.beq ty' ty2 && sizesEq (expand l) Z then match (expand l)[f]? with
            | some c=>if Nat.beq c.size 1 && scalarT ty && Nat.blt d p.n && !p.isM d then match ovr p.ov d (.val false [c]) with
               | (y,m)=>some ([(d,y)],m,[t])
              else none
            | none=>none
           else none
         | none=>none
       | _=>none
     | _=>none
   | .fieldAddr ty _ f=>match xs,zst ty with
     | [some (.var ty' l)],some Z=>if Nat.beq ty ty' && sizesEq (expand l) Z then match (expand l)[f]? with
        | some (.tm t)=>putT p d (.fld true 25 [.tm t]) true
        | some c=>if Nat.beq c.size 1 then putT p d (.fld false ty [c]) true else none
        | none=>none
       else none
     | [some (.fld true ty' l)],some Z=>if Nat.beq ty ty' && sizesEq (expand l) Z then match (expand l)[f]? with
        | some (.tm t)=>putT p d (.fld true 25 [.tm t]) true
        | some c=>if Nat.beq c.size 1 then putT p d (.fld false ty [c]) true else none
        | none=>none
       else none
     | [some (.mvar ty' l)],some Z=>match o.op.operands.toList with
       | [.tmp t]=>if Nat.beq ty ty' && sizesEq (expand l) Z && decide (f < Z.length) then putT p d (.mfld t ty f) true else none
       | _=>none
     | _,_=>none
   | .indexAddr ty _ _=>match xs with
     | [some (.val false [c]),some (.val false [.dat (.int .i64 z)])]=>match elCh c z.toNat,rkOf ty with
       | some (el,l,n),some k=>match rowOf el with
         | some k2=>if rkEq k k2 && Nat.beq (tot l) k.size then putT p d (.fld (!Nat.beq k.size 1) el l) (decide (0≤z) && decide (z.toNat < n)) else none
         | none=>none
       | _,_=>none
     | _=>none
   | .makeFunc fn first _=>match fn with
     | .func g=>match xs,first.toList with
       | [some (.var ty [.tmsC l])],[]=>if Nat.beq g 80 && Nat.beq ty 23 then putT p d (.val false [.cut l]) true else none
       | [some (.var _ (c0 :: .dat (.string s) :: _))],[]=>if Nat.beq g 82 && Nat.beq c0.size 1 then putT p d (.val false [.nmf s]) true else none
       | _,_=>none
     | _=>none
   | .build ty ps=>match zst ty with
     | some Z=>match sets (ps.toList.map (·.1)) xs Z with
       | some l=>match norm5 l with
         | some (t,n)=>putT p d (.val true [.tm t]) n
         | none=>putT p d (.val true l) true
       | none=>none
     | none=>none
   | .buildSlice ty len ps=>match rkOf ty with
     | some k=>if p.isO d then match ownEls k.size xs with
        | some els=>if isRange 0 (ps.toList.map (·.1)) && Nat.beq ps.toList.length len && Nat.blt 0 len && Nat.ble len 1000 then putN p d k els true else none
        | none=>none
       else match mkRowN k xs with
       | some c=>if isRange 0 (ps.toList.map (·.1)) && Nat.beq ps.toList.length len && Nat.blt 0 len && Nat.ble len 1000 then putT p d (.val false [c.1]) c.2 else none
       | none=>none
     | none=>none
   | .call c=>match c.callee with
     | .value (.func f)=>match xs with
       | _ :: ys=>match valsOf ys with
         | some ss=>match p.sp f ss with
           | some (.own k els,n)=>putN p d k els n
           | some r=>putT p d r.1 r.2
           | none=>none
         | none=>none
       | _=>none
     | .value (.tmp _)=>match xs with
       | [some (.val false [.cut l]),some (.val false [.dat (.int .i64 a)]),some (.val false [.dat (.int .i64 b)])]=>if p.cut then putT p d (.val false [.tms ((l.take b.toNat).drop a.toNat)]) (decide (0≤a) && decide (a≤b) && decide (b.toNat≤l.length)) else none
       | [some (.val false [.nmf s]),some (.val true l)]=>match toRl l with
         | some r=>if p.cut then putT p d (.val false [.dat (.bool (r.ctor.toList == s.toList))]) true else none
         | none=>none
       | _=>none
     | .builtin .append=>match xs,c.args.toList,c.argTypes.toList with
       | [some (.own k els),some (.val false [x])],[.tmp s,_],[t,t']=>match rkOf t,elsOf x with
         | some k1,some (k2,els2)=>if Nat.beq t t' && rkSame k k1 && rkSame k k2 then putO p d s k (els ++ els2) (decide ((els ++ els2).length≤1000000)) else none
         | _,_=>none
       | _,_,_=>none
     | .builtin .len=>match xs,c.argTypes.toList with
       | [some (.val false [x])],[ty]=>match lenCh x with
         | some n=>if lenFits ty x then putT p d (.val false [.dat (.int .i64 n)]) true else none
         | none=>none
       | _,_=>none
     | _=>none
   | _=>none
theorem tr_lk {p:Par} (o:Oper) (xs:List (Option Sl)) (lk lk':Nat→Option Sl) (r:Upd Sl × Bool × List Nat) (h:tr p o xs lk=some r) (hl:∀ t,also r.2.2 t=true→lk t=lk' t):tr p o xs lk'=some r:=by
 unfold tr at h ⊢
 cases hdst:o.dst with
 | none=>simp only [hdst] at h ⊢; exact h
 | some d =>
   simp only [hdst] at h ⊢
   cases hop:o.op <;> simp only [hop] at h ⊢ <;> try exact h
   case unOp op ty x=>cases op <;> exact h
   case box ty x =>
    split at h
    ·rename_i l Z hZ
     split at h
     ·rename_i hb
      simp only [hb,if_true] at h ⊢
      split at h
      ·rename_i hm
       simp only [hm,if_true] at h ⊢
       exact putM_lk h hl
      ·rename_i hm
       rw [if_neg hm]
       exact h
     ·cases h
    ·cases h
   case alloc ty =>
    split at h
    ·rename_i Z hZ
     split at h
     ·rename_i hm
      rw [if_pos hm]
      exact putM_lk h hl
     ·rename_i hm
      rw [if_neg hm]
      exact h
    ·exact h
   case load ty x =>
    split at h <;> try exact h
    rename_i t ty' f
    have key:lk t=lk' t:=by
     split at h <;> try (cases h; done)
     split at h <;> try (cases h; done)
     split at h <;> try (cases h; done)
     split at h <;> try (cases h; done)
     split at h <;> try (cases h; done)
     cases h
     exact hl t (by simp [also])
    rw [← key]
    exact h
theorem zip_parts (a:Act):∀ (ps:List (Nat × Operand)),ps.map (fun p=>(p.1,a.eval p.2))=(ps.map (·.1)).zip ((ps.map (·.2)).map a.eval)
 | []=>rfl
 | p :: r=>by simp only [List.map_cons,List.zip_cons_cons,zip_parts a r]
theorem gather [Typ.Xt] {P:Nat→Prop} {w:World} {b s:Nat}:∀ (els:List (List Ch)) (off:Nat),(∀ i (hi:i < els.length),∃ vs,w.rangeAt b (off + i * s) vs∧Typ.Ok P w els[i] vs∧vs.length=s)→∃ vss,OkAll P w s els vss∧∀ j u,vss.flatten[j]?=some u→w.cell? ⟨b,off + j,none⟩=some u
 | [],_,_=>⟨[],rfl,fun j u h=>by simp at h⟩
 | l :: r,off,h=>by
   obtain ⟨vs,h1,h2,h3⟩:=h 0 (by simp)
   obtain ⟨vss,h4,h5⟩:=gather r (off + s) (fun i hi=>by
    obtain ⟨u,a,b2,c⟩:=h (i + 1) (by simpa using hi)
    exact ⟨u,by rw [show off + s + i * s=off + (i + 1) * s by rw [Nat.add_mul,Nat.one_mul]; omega]; exact a,by simpa using b2,c⟩)
   refine ⟨vs :: vss,⟨vs,vss,rfl,h2,h3,h4⟩,fun j u hu=>?_⟩
   rw [List.flatten_cons] at hu
   by_cases hj:j < vs.length
   ·rw [List.getElem?_append_left hj] at hu
    have:=h1 j u hu
    rwa [Nat.zero_mul,Nat.add_zero] at this
   ·rw [List.getElem?_append_right (by omega)] at hu
    have:=h5 _ u hu
    rwa [h3,show off + s + (j - s)=off + j by omega] at this
theorem elsOf_ok [Typ.Xt] {P:Nat→Prop} {w:World} {c:Ch} {k:RK} {els:List (List Ch)} {v:Value} (h:elsOf c=some (k,els)) (ho:c.Ok P w [v]) :
 ∃ lo lc,v=.slice lo els.length lc∧(0 < els.length→∃ b off vss,lo=some ⟨b,off,none⟩∧OkAll P w k.size els vss∧∀ j u,vss.flatten[j]?=some u→w.cell? ⟨b,off + j,none⟩=some u):=by
 have tm:∀ {lo:Option Addr} {l:List Tm},RowP P w lo l→0 < (l.map fun t=>[Ch.tm t]).length→∃ b off vss,lo=some ⟨b,off,none⟩∧OkAll P w 5 (l.map fun t=>[Ch.tm t]) vss∧∀ j u,vss.flatten[j]?=some u→w.cell? ⟨b,off + j,none⟩=some u:=by
  intro lo l hr hl
  obtain ⟨b,off,e1,_⟩:=hr 0 (by simpa using hl)
  obtain ⟨vss,h1,h2⟩:=gather (P:=P) (w:=w) (b:=b) (s:=5) (l.map fun t=>[Ch.tm t]) off (fun i hi=>by
   obtain ⟨b2,off2,e2,_,_,hd,h4,h5⟩:=hr i (by simpa using hi)
   rw [e1] at e2
   cases e2
   refine ⟨Env.five _ hd,fun j u hu=>?_,by rw [List.getElem_map]; have z:=ok_tm (l:=[]) (vs:=[]) h5 rfl; rw [List.append_nil] at z; exact z,rfl⟩
   have hj:j < 5:=(List.getElem?_eq_some_iff.1 hu).1
   have:j=0∨j=1∨j=2∨j=3∨j=4:=by omega
   rcases this with rfl | rfl | rfl | rfl | rfl <;> simp [Env.five] at hu <;> subst hu
   ·exact h4.c0
   ·exact h4.c1
   ·exact h4.c2
   ·exact h4.c3
   ·exact h4.c4)
  exact ⟨b,off,vss,e1,h1,h2⟩
 unfold elsOf at h
 split at h
 ·cases h
  obtain ⟨lo,lc,e1,e2⟩:=ho
  simp only [List.cons.injEq,and_true] at e1
  exact ⟨lo,lc,by rw [e1,List.length_map],tm e2⟩
 ·cases h
  obtain ⟨lo,lc,e1,e2,_⟩:=ho
  simp only [List.cons.injEq,and_true] at e1
  exact ⟨lo,lc,by rw [e1,List.length_map],tm e2⟩
 ·cases h
  obtain ⟨lo,lc,e1,e2⟩:=ho
  simp only [List.cons.injEq,and_true] at e1
  refine ⟨lo,lc,by rw [e1,List.length_map],fun hl=>?_⟩
  obtain ⟨b,off,hd,e3,_⟩:=e2.place 0 (by simpa using hl)
  obtain ⟨vss,h1,h2⟩:=gather (P:=P) (w:=w) (b:=b) (s:=25) (List.map infCh _) off (fun i hi=>by
   obtain ⟨b2,off2,hd2,e4,_,_,h4,h5⟩:=e2.place i (by simpa using hi)
   rw [e3] at e4
   cases e4
   exact ⟨_,h4,by rw [List.getElem_map]; exact ok_infCh h5,Inf.len _ _⟩)
  exact ⟨b,off,vss,e3,h1,h2⟩
 ·cases h
theorem rk_bytes (k:RK):∃ ie z,Tryz.prog.info? k.elem=some ie∧ie.zero=some z∧ie.size=k.size∧z.cells.size=k.size∧ie.bytes≤400:=by
 have h:(Tryz.prog.info? k.elem).map (fun ie=>(ie.size,ie.zero.map (fun z=>z.cells.size),decide (ie.bytes≤400)))=some (k.size,some k.size,true):=by cases k <;> kernel_rfl
 cases hi:Tryz.prog.info? k.elem with
 | none=>simp [hi] at h
 | some ie =>
   simp only [hi,Option.map_some,Option.some.injEq,Prod.mk.injEq] at h
   obtain ⟨h1,h2,h3⟩:=h
   cases hz:ie.zero with
   | none=>simp [hz] at h2
   | some z =>
     simp only [hz,Option.map_some,Option.some.injEq] at h2
     exact ⟨ie,z,rfl,hz,h1,h2,by simpa using h3⟩
theorem OwnAt.row [Typ.Xt] {P:Nat→Prop} {w:World} {k:RK} {els:List (List Ch)} {v:Value} {g:Nat} (h:OwnAt P w k els v g):∃ vss,OkAll P w k.size els vss∧w.ownsRow 0 k.elem k.size v els.length vss.flatten∧v.ownBlock=some g:=by
 obtain ⟨cap,cur,vss,rfl,h2,h3,h4,h5,h6,h7⟩:=h
 exact ⟨vss,h7,⟨h7.len.1,Or.inr ⟨g,cap,cur,rfl,Nat.zero_le _,h2,h3,h4,h5,h6⟩⟩,rfl⟩
theorem OwnAt.of_row [Typ.Xt] {P:Nat→Prop} {w:World} {k:RK} {els:List (List Ch)} {g cap:Nat} {vss:List (List Value)} (h:w.ownsRow 0 k.elem k.size (.slice (some ⟨g,0,none⟩) els.length cap) els.length vss.flatten) (ho:OkAll P w k.size els vss):OwnAt P w k els (.slice (some ⟨g,0,none⟩) els.length cap) g:=by
 obtain ⟨_,⟨h1,_⟩ | ⟨g',cap',cur,h1,_,h2,h3,h4,h5,h6⟩⟩:=h
 ·cases h1
 ·cases h1
  exact ⟨cap,cur,vss,rfl,h2,h3,h4,h5,h6,ho⟩
theorem run_append_none {t e:TypeId} (ht:Tryz.prog.underlying t=some (.slice e)) {ie:TypeInfo} (hi:Tryz.prog.info? e=some ie) (base lo:Option Addr) (n cap lc:Nat) (hn:n≤cap) (ty:TypeId) (w:World):(Builtin.append_ #[t,t] ty #[.slice base n cap,.slice lo 0 lc]).run Tryz.prog w=.ok (.slice base n cap) w:=by
 have hf:∀ w,(Builtin.firstCells ie.size 0 (.slice lo 0 lc)).run Tryz.prog w=.ok #[] w:=fun w=>by
  cases lo with
  | none=>simp [Builtin.firstCells]
  | some a=>simp [Builtin.firstCells,loadCells,loadCellsFrom]
 cases base with
 | none=>simp [Builtin.append_,run_underlying ht,sizeOf,typeInfo,hi,Builtin.lenOf,hn,hf]
 | some a=>simp [Builtin.append_,run_underlying ht,sizeOf,typeInfo,hi,Builtin.lenOf,hn,hf,storeCells]
theorem RanS_setRow {P:Nat→Prop} {w:World} {b:Nat} {cs:Array Value} (h:P b):RanS P w (w.setRow b cs) :=
 ⟨rfl,rfl,rfl,by simp,fun k _ hn=>setRow_other w b k cs (fun e=>hn (e ▸ h))⟩
theorem run_call {o:Oper} {f:FuncId} {args:Array Operand} {ts:Array TypeId} {a:Act} {w:World} {P:Program} (ho:o.op=.call ⟨.value (.func f),args,ts⟩) (hf:(callFunc f (args.map a.eval)).run P w=.ok (.enter f (args.map a.eval)) w) :
 (execOp a.eval o).run P w=.ok (.enter f (args.map a.eval)) w:=by
 have h2:(#[]:Array Value) ++ args.map a.eval ++ #[]=args.map a.eval:=by simp
 simp only [execOp,ho,resolve,Act.eval,Deferred.ofValue,Sem.run_bind,Sem.run_pure,Result.andThen_ok,invoke]
 rw [h2]
 exact hf
theorem fresh_sub [Typ.Xt] {P0:Nat→Prop} {w0 w:World} {fr:Nat→Option Nat} {d q:Nat} (_hF:Fr P0 w0 w fr) (hq:PB P0 (fun s=>if s=d then some w.heap.size else fr s) q):PB P0 fr q∨w.heap.size≤q:=by
 rcases hq with hq | ⟨s,hq⟩
 ·exact Or.inl (Or.inl hq)
 ·have hq:(if s=d then some w.heap.size else fr s)=some q:=hq
  by_cases c1:s=d
  ·rw [if_pos c1] at hq; cases hq; exact Or.inr (Nat.le_refl _)
  ·rw [if_neg c1] at hq; exact Or.inl (Or.inr ⟨s,hq⟩)
theorem St.fresh [Typ.Xt] {P0:Nat→Prop} {w0 w w':World} {p:Par} {d:Nat} {T:Tbl Sl} {a:Act} {x:Sl} {v:Value} {fr:Nat→Option Nat} (hs:St P0 w0 p T a w) (hF:Fr P0 w0 w fr) (hT:∀ t x,look T t=some x→x.Ok (PB P0 fr) fr w t (a.tmps.getD t undef)) (hd:d < p.n) (hm:(∃ ty l,x=Sl.mvar ty l∧p.isM d=true)∨((∀ ty l,x ≠ Sl.mvar ty l)∧p.isM d=false)) (hno:∀ ty l,look T d ≠ some (Sl.mvar ty l)) (hxf:∀ t ty f,x ≠ Sl.mfld t ty f)
 (hb:Below w.heap.size w w') (hz:w'.heap.size=w.heap.size + 1) (hx:x.Ok (PB P0 (fun s=>if s=d then some w.heap.size else fr s)) (fun s=>if s=d then some w.heap.size else fr s) w' d v):St P0 w0 p (app [(d,x)] T) (a.put (some d) v) w':=by
 refine St.go (fr':=fun s=>if s=d then some w.heap.size else fr s) hs hT (by simp [Act.put,hs.defers]) (by simp [Act.put,hs.size]) ⟨hF.old,fun t1 t2 q g1 g2=>?_,fun t1 q g1=>?_,hF.bel.trans (hb.mono hF.bel.size)⟩ (RanX.of_below hb) (fun q hq=>fresh_sub hF hq) (fun s _ hst _ _=>if_neg hst) (Or.inr hno) (fun s q _ _ _ _ hq=>hb.block q (hF.own s q hq).2) (fun t ht=>put_ne ht) hm (fun t ty f e=>absurd e (hxf t ty f)) ?_
 ·by_cases c1:t1=d <;> by_cases c2:t2=d
  ·rw [c1,c2]
  ·rw [if_pos c1] at g1; rw [if_neg c2] at g2; cases g1; have:=(hF.own t2 _ g2).2; omega
  ·rw [if_neg c1] at g1; rw [if_pos c2] at g2; cases g2; have:=(hF.own t1 _ g1).2; omega
  ·rw [if_neg c1] at g1; rw [if_neg c2] at g2; exact hF.inj t1 t2 q g1 g2
 ·rw [hz]
  by_cases c1:t1=d
  ·rw [if_pos c1] at g1; cases g1; exact ⟨hF.bel.size,by omega⟩
  ·rw [if_neg c1] at g1; have:=hF.own t1 q g1; exact ⟨this.1,by omega⟩
 ·rw [put_eq hs.size hd]; exact hx
theorem St.take [Typ.Xt] {P0:Nat→Prop} {w0 w w':World} {p:Par} {T:Tbl Sl} {a:Act} {fr:Nat→Option Nat} (hs:St P0 w0 p T a w) (hF:Fr P0 w0 w fr) (hT:∀ t x,look T t=some x→x.Ok (PB P0 fr) fr w t (a.tmps.getD t undef)) {s d:Nat} {k:RK} {els:List (List Ch)} {v:Value} {row g:Option Nat}
 (hsd:s ≠ d) (hd:d < p.n) (hmd:p.isM d=false) (hms:p.isM s=false) (hgb:w.grownBy w' row) (hrow:∀ b,row=some b→fr s=some b) (hg:∀ q,g=some q→(fr s=some q∧q < w.heap.size)∨(w.heap.size≤q∧q < w'.heap.size))
 (hx:(Sl.own k els).Ok (PB P0 fun t=>if t=d then g else if t=s then none else fr t) (fun t=>if t=d then g else if t=s then none else fr t) w' d v):St P0 w0 p (app [(d,.own k els),(s,.any)] T) (a.put (some d) v) w':=by
 have nom:∀ {t:Nat},p.isM t=false→∀ ty l,look T t ≠ some (Sl.mvar ty l):=fun hm ty l e=>by have:=hs.mus _ _ _ e; rw [hm] at this; cases this
 have s1:St P0 w0 p (app [(s,.any)] T) a w:=by
  refine St.go hs hT hs.defers hs.size hF (RanX.refl _ _) (fun q a=>Or.inl a) (fun _ _ _ _ _=>rfl) (Or.inl rfl) (fun _ _ _ _ _ _ _=>rfl) (fun _ _=>rfl) (Or.inr ⟨(fun ty l e=>by cases e),hms⟩) (fun t ty f e=>by cases e) trivial
 have hT1:∀ t x,look (app [(s,.any)] T) t=some x→x.Ok (PB P0 fr) fr w t (a.tmps.getD t undef):=fun t x hx=>by
  by_cases e:s=t
  ·subst e
   rw [look_app (p:=(s,Sl.any))] at hx
   cases hx
   trivial
  ·rw [look_app_ne (u:=[(s,Sl.any)]) (hits_one_ne e)] at hx
   exact hT t x hx
 have hsz:=hgb.size
 have hran:RanX (PB P0 fr) w w':=⟨hgb.os,hgb.tape,hgb.output,hgb.size,fun b hb hn=>hgb.block b hb (fun e=>hn ⟨Or.inr ⟨s,hrow b e.symm⟩,hF.hi (hrow b e.symm)⟩)⟩
 have hsub:∀ q,PB P0 (fun t=>if t=d then g else if t=s then none else fr t) q→PB P0 fr q∨w.heap.size≤q:=fun q hq=>by
  rcases hq with hq | ⟨t,hq⟩
  ·exact Or.inl (Or.inl hq)
  ·have hq:(if t=d then g else if t=s then none else fr t)=some q:=hq
   by_cases c1:t=d
   ·rw [if_pos c1] at hq
    rcases hg q hq with ⟨h1,_⟩ | ⟨h1,_⟩
    ·exact Or.inl (Or.inr ⟨s,h1⟩)
    ·exact Or.inr h1
   ·rw [if_neg c1] at hq
    by_cases c2:t=s
    ·simp [c2] at hq
    ·rw [if_neg c2] at hq; exact Or.inl (Or.inr ⟨t,hq⟩)
 have hfr:∀ {t q},(if t=d then g else if t=s then none else fr t)=some q→t ≠ d→fr t=some q∧t ≠ s:=fun {t q} h c1=>by
  rw [if_neg c1] at h
  by_cases c2:t=s
  ·simp [c2] at h
  ·rw [if_neg c2] at h; exact ⟨h,c2⟩
 refine St.go (T:=app [(s,.any)] T) (fr':=fun t=>if t=d then g else if t=s then none else fr t) s1 hT1 (by simp [Act.put,hs.defers]) (by simp [Act.put,hs.size]) ⟨hF.old,fun t1 t2 q g1 g2=>?_,fun t1 q g1=>?_,hF.bel.trans ?_⟩ hran hsub (fun t x c1 hl ha=>?_) (Or.inr (fun ty l e=>s1.mus d ty l e |> fun z=>by rw [hmd] at z; cases z)) (fun t b x c1 hl ha hb=>?_) (fun t ht=>put_ne ht) (Or.inr ⟨(fun ty l e=>by cases e),hmd⟩) (fun t ty f e=>by cases e) (by rw [put_eq hs.size hd]; exact hx)
 ·by_cases c1:t1=d <;> by_cases c2:t2=d
  ·rw [c1,c2]
  ·obtain ⟨f2,n2⟩:=hfr g2 c2
   rw [if_pos c1] at g1
   rcases hg q g1 with ⟨h1,_⟩ | ⟨h1,_⟩
   ·exact absurd (hF.inj t2 s q f2 h1) n2
   ·have:=(hF.own t2 q f2).2; omega
  ·obtain ⟨f1,n1⟩:=hfr g1 c1
   rw [if_pos c2] at g2
   rcases hg q g2 with ⟨h1,_⟩ | ⟨h1,_⟩
   ·exact absurd (hF.inj t1 s q f1 h1) n1
   ·have:=(hF.own t1 q f1).2; omega
  ·exact hF.inj t1 t2 q (hfr g1 c1).1 (hfr g2 c2).1
 ·by_cases c1:t1=d
  ·have g1:g=some q:=by rw [← g1]; exact (if_pos c1).symm
   have hz:=hF.bel.size
   rcases hg q g1 with ⟨h1,h2⟩ | ⟨h1,h2⟩
   ·exact ⟨(hF.own s q h1).1,by omega⟩
   ·exact ⟨by omega,h2⟩
  ·have:=hF.own t1 q (hfr g1 c1).1
   exact ⟨this.1,by omega⟩
 ·exact ⟨hgb.os,hgb.tape,hgb.output,hgb.size,fun b hb=>hgb.block b (Nat.lt_of_lt_of_le hb hF.bel.size) (fun e=>by have:=(hF.own s b (hrow b e.symm)).1; omega)⟩
 ·by_cases c2:t=s
  ·subst c2
   rw [look_app (p:=(t,Sl.any))] at hl
   cases hl
   exact absurd rfl ha
  ·show (if t=d then g else if t=s then none else fr t)=fr t
   rw [if_neg c1,if_neg c2]
 ·have c2:t ≠ s:=fun c2=>by
   subst c2
   rw [look_app (p:=(t,Sl.any))] at hl
   cases hl
   exact ha rfl
  exact hgb.block b (hF.own t b hb).2 (fun e=>c2 (hF.inj t s b hb (hrow b e.symm)))
theorem St.gain [Typ.Xt] {P0:Nat→Prop} {w0 w w':World} {p:Par} {T:Tbl Sl} {a:Act} {fr:Nat→Option Nat} (hs:St P0 w0 p T a w) (hF:Fr P0 w0 w fr) (hT:∀ t x,look T t=some x→x.Ok (PB P0 fr) fr w t (a.tmps.getD t undef)) {d:Nat} {k:RK} {els:List (List Ch)} {v:Value} {g:Option Nat}
 (hd:d < p.n) (hmd:p.isM d=false) (hb:Below w.heap.size w w') (hg:∀ q,g=some q→w.heap.size≤q∧q < w'.heap.size)
 (hx:(Sl.own k els).Ok (PB P0 fun t=>if t=d then g else fr t) (fun t=>if t=d then g else fr t) w' d v):St P0 w0 p (app [(d,.own k els)] T) (a.put (some d) v) w':=by
 have hsz:=hb.size
 have hz:=hF.bel.size
 refine St.go (fr':=fun t=>if t=d then g else fr t) hs hT (by simp [Act.put,hs.defers]) (by simp [Act.put,hs.size]) ⟨hF.old,fun t1 t2 q g1 g2=>?_,fun t1 q g1=>?_,hF.bel.trans (hb.mono hF.bel.size)⟩ (RanX.of_below hb) (fun q hq=>?_) (fun t x c1 _ _=>if_neg c1) (Or.inr (fun ty l e=>hs.mus d ty l e |> fun z=>by rw [hmd] at z; cases z)) (fun t b x _ _ _ h=>hb.block b (hF.own t b h).2) (fun t ht=>put_ne ht) (Or.inr ⟨(fun ty l e=>by cases e),hmd⟩) (fun t ty f e=>by cases e) (by rw [put_eq hs.size hd]; exact hx)
 ·by_cases c1:t1=d <;> by_cases c2:t2=d
  ·rw [c1,c2]
  ·rw [if_pos c1] at g1; rw [if_neg c2] at g2; have:=hg q g1; have:=hF.own t2 q g2; omega
  ·rw [if_neg c1] at g1; rw [if_pos c2] at g2; have:=hg q g2; have:=hF.own t1 q g1; omega
  ·rw [if_neg c1] at g1; rw [if_neg c2] at g2; exact hF.inj t1 t2 q g1 g2
 ·by_cases c1:t1=d
  ·rw [if_pos c1] at g1; have:=hg q g1; exact ⟨by omega,this.2⟩
  ·rw [if_neg c1] at g1; have:=hF.own t1 q g1; exact ⟨this.1,by omega⟩
 ·rcases hq with hq | ⟨t,hq⟩
  ·exact Or.inl (Or.inl hq)
  ·have hq:(if t=d then g else fr t)=some q:=hq
   by_cases c1:t=d
   ·rw [if_pos c1] at hq; exact Or.inr (hg q hq).1
   ·rw [if_neg c1] at hq; exact Or.inl (Or.inr ⟨t,hq⟩)
theorem split_at [Typ.Xt] {P:Nat→Prop} {w:World} {l:List Ch} {f:Nat} {c:Ch} {vs:List Value} (h:Typ.Ok P w l vs) (hc:l[f]?=some c):∃ A X C,vs=A ++ (X ++ C)∧Typ.Ok P w (l.take f) A∧c.Ok P w X∧A.length=tot (l.take f):=by
 obtain ⟨hlt,hci⟩:=List.getElem?_eq_some_iff.1 hc
 have hsp:l=l.take f ++ c :: l.drop (f + 1):=by rw [← hci,← List.drop_eq_getElem_cons hlt,List.take_append_drop]
 rw [hsp] at h
 obtain ⟨A,B,rfl,hA,X,C,rfl,hX,hC⟩:=Ok.append.1 h
 exact ⟨A,X,C,rfl,hA,hX,hA.len.1⟩
theorem offs_split {l:List Ch} {f:Nat} {c:Ch} (hc:l[f]?=some c):(offs 0 l)[f]?=some (0 + tot (l.take f),c.size):=by
 obtain ⟨hlt,hci⟩:=List.getElem?_eq_some_iff.1 hc
 have hsp:l=l.take f ++ c :: l.drop (f + 1):=by rw [← hci,← List.drop_eq_getElem_cons hlt,List.take_append_drop]
 have htl:(l.take f).length=f:=by rw [List.length_take]; omega
 have hoff:=offs_get (l.take f) c (l.drop (f + 1)) 0
 rw [htl,← hsp] at hoff
 exact hoff
theorem offs_len:∀ (Z:List Ch) (k:Nat),(offs k Z).length=Z.length
 | [],_=>rfl
 | a :: r,k=>by simp [offs,offs_len r]
theorem St.shut [Typ.Xt] {P0:Nat→Prop} {w0 w:World} {p:Par} {t b:Nat} {T:Tbl Sl} {a:Act} {fr:Nat→Option Nat} {ty:TypeId} {m:Nat} {cs:Array Value} {l:List Ch} {vs:List Value} (hs:St P0 w0 p T a w) (hF:Fr P0 w0 w fr) (hT:∀ t x,look T t=some x→x.Ok (PB P0 fr) fr w t (a.tmps.getD t undef))
 (h1:look T t=some (.box ty m)) (e1:a.tmps.getD t undef=.pointer (some ⟨b,0,none⟩)) (e2:fr t=some b) (e3:w.heap[b]?=some (.cells cs ty (0,0))) (hm:p.isM t=false) (v1:Typ.Ok (PB P0 fr) w l vs):St P0 w0 p (app [(t,.var ty l)] T) a (w.setRow b vs.toArray):=by
 have hsr:=setRow_heap w b cs vs.toArray ty (0,0) e3
 have hr:RanX (PB P0 fr) w (w.setRow b vs.toArray):=RanS_setRow ⟨Or.inr ⟨t,e2⟩,hF.hi e2⟩
 have hsz:(w.setRow b vs.toArray).heap.size=w.heap.size:=setRow_size w b _
 have hsub:∀ q,PB P0 (fun s=>if s=t then none else fr s) q→PB P0 fr q∧q ≠ b:=fun q hq=>by
  rcases hq with hq | ⟨s,hq⟩
  ·refine ⟨Or.inl hq,fun e=>?_⟩
   have:=(hF.own t b e2).1
   have:=hF.old q hq
   omega
  ·have hq:(if s=t then none else fr s)=some q:=hq
   by_cases c1:s=t
   ·simp [c1] at hq
   ·rw [if_neg c1] at hq
    exact ⟨Or.inr ⟨s,hq⟩,fun e=>c1 (hF.inj s t q hq (by rw [e]; exact e2))⟩
 have hB:Below w0.heap.size w0 (w.setRow b vs.toArray):=hF.bel.trans ⟨rfl,rfl,rfl,by simp,fun q hq=>setRow_other w b q _ (fun e=>by have:=(hF.own t b e2).1; omega)⟩
 refine St.go (fr':=fun s=>if s=t then none else fr s) hs hT hs.defers hs.size ⟨hF.old,fun t1 t2 q g1 g2=>?_,fun t1 q g1=>?_,hB⟩ hr (fun q hq=>Or.inl (hsub q hq).1) (fun s _ hst _ _=>if_neg hst) (Or.inr (fun ty l e=>by rw [h1] at e; cases e)) (fun s q _ hst _ _ hq=>setRow_other w b q _ (fun e=>hst (hF.inj s t q hq (by rw [e]; exact e2)))) (fun _ _=>rfl)
  (Or.inr ⟨(fun ty l e=>by cases e),hm⟩) (fun t ty f e=>by cases e) ⟨b,vs,e1,fun hp=>(hsub b hp).2 rfl,hsr,v1.turn hr (fun q hq=>Or.inl (hsub q hq).1)⟩
 ·by_cases c1:t1=t
  ·simp [c1] at g1
  ·by_cases c2:t2=t
   ·simp [c2] at g2
   ·rw [if_neg c1] at g1; rw [if_neg c2] at g2; exact hF.inj t1 t2 q g1 g2
 ·by_cases c1:t1=t
  ·simp [c1] at g1
  ·rw [if_neg c1] at g1; rw [hsz]; exact hF.own t1 q g1
def CutC [Typ.Xt]:Prop:=∀ (P:Nat→Prop) (l:List Tm) (v:Value) (x y:Int) (w:World),Typ.Lt P w→CutOk P w l v→0≤x→x≤y→y.toNat≤l.length→∀ b,v=.func (.func 80) #[] #[.pointer (some ⟨b,0,none⟩)]→Calls Tryz.prog 80 #[.int .i64 x,.int .i64 y,.pointer (some ⟨b,0,none⟩)] w fun e w'=>∃ u,e=.returned u∧Below w.heap.size w w'∧VOk P w' false [.tms ((l.take y.toNat).drop x.toNat)] u
def NmfC [Typ.Xt]:Prop:=∀ (P:Nat→Prop) (s:ByteArray) (r:Rl) (x:Hd) (w:World) (b:Nat),Typ.Lt P w→b < w.heap.size→w.cell? ⟨b,1,none⟩=some (.string s)→Calls Tryz.prog 82 #[.agg (r.vals x).toArray,.pointer (some ⟨b,0,none⟩)] w fun e w'=>e=.returned (.bool (r.ctor.toList == s.toList))∧Below w.heap.size w w'
structure ParOk [Typ.Xt] (p:Par):Prop where
 sp:SpecOk p.sp
 cut:p.cut=true→CutC∧NmfC
theorem step [Typ.Xt] {p:Par} (hpar:ParOk p) {P0:Nat→Prop} {w0:World} (Q:Exit→Act→World→Prop) (T:Tbl Sl) (o:Oper) (u:Upd Sl) (ex:List Nat) (a:Act) (w:World) (K:Act→World→Prop)
 (h:tr p o (argsO constO T o) (look T)=some (u,true,ex)) (hs:St P0 w0 p T a w) (hK:∀ a' w',St P0 w0 p (app u T) a' w'→K a' w'):o.wp Tryz.prog a w K Q:=by
 have hsp:=hpar.sp
 have hcutc:=hpar.cut
 obtain ⟨fr,hF,hT⟩:=hs.ex
 have hval:=fun x s l=>getO_val hT x s l
 have same:Below w.heap.size w w:=Below.refl _ _
 have dat:∀ {x:Operand} {v:Value},getO constO T x=some (.val false [.dat v])→a.eval x=v:=fun hx=>arg_dat (hval _ _ _ hx)
 have nm:∀ {s:Bool} {l:List Ch} {ty:TypeId} {l':List Ch},Sl.val s l ≠ Sl.mvar ty l':=fun e=>by cases e
 have gen_:∀ {d:Nat} {x:Sl} {need:Bool} {v:Value},o.dst=some d→putT p d x need=some (u,true,ex)→(∀ ty l,x ≠ Sl.mvar ty l)→(∀ t ty f,x=Sl.mfld t ty f→∃ ty' l,look T t=some (Sl.mvar ty' l))→(need=true→(execOp a.eval o).run Tryz.prog w=.ok (.value v) w)→(need=true→x.Ok (PB P0 fr) fr w d v)→o.wp Tryz.prog a w K Q:=by
  intro d x need v hdst hput hxm hxf hrun hx
  obtain ⟨hd,rfl,hn,hm⟩:=putT_some hput
  unfold Oper.wp
  rw [hrun hn,Oper.upon_value,hdst]
  exact hK _ _ (hs.put hF hT same hd hm hxm hxf (hx hn))
 have pure_:∀ {d:Nat} {s:Bool} {l:List Ch} {need:Bool} {v:Value},o.dst=some d→putT p d (.val s l) need=some (u,true,ex)→(execOp a.eval o).run Tryz.prog w=.ok (.value v) w→VOk (PB P0 fr) w s l v→o.wp Tryz.prog a w K Q:=fun hdst hput hrun hx =>
  gen_ hdst hput (fun ty l e=>by cases e) (fun t ty f e=>by cases e) (fun _=>hrun) (fun _=>hx)
 have give:∀ {d s:Nat} {k:RK} {els:List (List Ch)},o.dst=some d→getO constO T (.tmp s)=some (.own k els)→putO p d s k els true=some (u,true,ex)→(execOp a.eval o).run Tryz.prog w=.ok (.value (a.eval (.tmp s))) w→o.wp Tryz.prog a w K Q:=by
  intro d s k els hdst hx hput hrun
  obtain ⟨hd,hmd,hms,hsd,rfl,_⟩:=putO_some hput
  have hfs:=hT s _ hx
  unfold Oper.wp
  rw [hrun,Oper.upon_value,hdst]
  rcases hfs with hn | ⟨g,hg1,hg2⟩
  ·exact hK _ _ (hs.take hF hT (row:=none) (g:=none) hsd hd hmd hms (World.grownBy.refl w none) (fun b e=>by cases e) (fun q e=>by cases e) (Or.inl hn))
  ·refine hK _ _ (hs.take hF hT (row:=none) (g:=some g) hsd hd hmd hms (World.grownBy.refl w none) (fun b e=>by cases e) (fun q e=>by cases e; exact Or.inl ⟨hg1,(hF.own s g hg1).2⟩) (Or.inr ⟨g,if_pos rfl,hg2.turn (RanX.refl _ _) (fun q hq=>Or.inl ?_) rfl⟩))
   rcases hq with hq | ⟨t,hq⟩
   ·exact Or.inl hq
   ·have hq:(if t=d then some g else if t=s then none else fr t)=some q:=hq
    by_cases c1:t=d
    ·rw [if_pos c1] at hq; cases hq; exact Or.inr ⟨s,hg1⟩
    ·rw [if_neg c1] at hq
     by_cases c2:t=s
     ·simp [c2] at hq
     ·rw [if_neg c2] at hq; exact Or.inr ⟨t,hq⟩
 unfold tr at h
 cases hdst:o.dst with
 | none =>
   simp only [hdst] at h
   cases hop:o.op <;> simp only [hop] at h <;> try (cases h; done)
   case store ty x y =>
    cases x <;> simp only at h <;> try (cases h; done)
    case tmp t =>
     have hargs:argsO constO T o=[look T t,getO constO T y]:=by simp [argsO,hop,Op.operands,getO]
     rw [hargs] at h
     split at h
     ·rename_i ty' m l hxs
      simp only [List.cons.injEq,and_true] at hxs
      obtain ⟨h1,h2⟩:=hxs
      split at h
      ·rename_i Z hZ
       split at h
       ·rename_i hb
        cases h
        simp only [Bool.and_eq_true] at hb
        obtain ⟨⟨⟨b1,b2⟩,b3⟩,b4⟩:=hb
        cases Nat.eq_of_beq_eq_true b1
        have b2:=Nat.eq_of_beq_eq_true b2
        have b3:=Nat.eq_of_beq_eq_true b3
        have b4:p.isM t=false:=by simpa using b4
        obtain ⟨b,cs,e1,e2,e3,e4⟩:=hT t _ h1
        obtain ⟨vs,v1,v2⟩:=hval y true l h2
        have v2:a.eval y=.agg vs.toArray:=by
         rcases v2 with ⟨_,v2⟩ | ⟨v2,_⟩
         ·exact v2
         ·cases v2
        obtain ⟨l1,l2⟩:=v1.len
        refine wp_store_row ty (.tmp t) y hop b vs.toArray e1 v2 ty cs e3 (by rw [ty_size hZ]; simp; omega) (by simp; omega) (by simpa using l2) ?_
        rw [hdst]
        exact hK _ _ (hs.shut hF hT h1 e1 e2 e3 b4 v1)
       ·cases h
      ·cases h
     ·rename_i ty' m c hxs
      simp only [List.cons.injEq,and_true] at hxs
      obtain ⟨h1,h2⟩:=hxs
      split at h
      ·rename_i z hz
       split at h
       ·rename_i hb
        cases h
        simp only [Bool.and_eq_true] at hb
        obtain ⟨⟨⟨b1,b2⟩,b3⟩,b4⟩:=hb
        cases Nat.eq_of_beq_eq_true b1
        have b2:=Nat.eq_of_beq_eq_true b2
        have b4:p.isM t=false:=by simpa using b4
        obtain ⟨b,cs,e1,e2,e3,e4⟩:=hT t _ h1
        obtain ⟨vs,v1,v2⟩:=hval y false [c] h2
        have v2:vs=[a.eval y]:=by
         rcases v2 with ⟨v2,_⟩ | ⟨_,v2⟩
         ·cases v2
         ·exact v2
        subst v2
        have l2:=v1.len.2
        simp only [List.all_cons,List.all_nil,Bool.and_true] at l2
        obtain ⟨q,hq⟩:∃ q,cs=#[q]:=by
         have h0:cs.size=1:=by omega
         exact ⟨cs[0],by apply Array.ext; simp [h0]; intro i h1 h2; simp at h2; simp [h2]⟩
        subst hq
        have hrun:(execOp a.eval o).run Tryz.prog w=.ok .skip (w.setRow b #[a.eval y]):=by
         have e5:a.eval (.tmp t)=.pointer (some ⟨b,0,none⟩):=e1
         simp only [execOp,hop,e5,Instr.storeAt,Instr.sureAddr,Sem.run_bind,Sem.run_pure,Result.andThen_ok,run_storeVar_one w b ty ty q _ e3 (z1_one hz).2.1 l2]
        unfold Oper.wp
        rw [hrun,Oper.upon_skip,hdst]
        exact hK _ _ (hs.shut hF hT h1 e1 e2 e3 b4 v1)
       ·cases h
      ·cases h
     ·rename_i ty' l' l hxs
      simp only [List.cons.injEq,and_true] at hxs
      obtain ⟨h1,h2⟩:=hxs
      split at h
      ·rename_i Z hZ
       split at h
       ·rename_i hb
        cases h
        simp only [Bool.and_eq_true] at hb
        obtain ⟨⟨b1,b2⟩,b3⟩:=hb
        cases Nat.eq_of_beq_eq_true b1
        have b2:=Nat.eq_of_beq_eq_true b2
        have b3:=Nat.eq_of_beq_eq_true b3
        obtain ⟨b,cs,e1,e2,e3,e4⟩:=hT t _ h1
        obtain ⟨vs,v1,v2⟩:=hval y true l h2
        have v2:a.eval y=.agg vs.toArray:=by
         rcases v2 with ⟨_,v2⟩ | ⟨v2,_⟩
         ·exact v2
         ·cases v2
        obtain ⟨l1,l2⟩:=v1.len
        have l3:=e4.len.1
        have hsr:=setRow_heap w b cs.toArray vs.toArray ty (0,0) e3
        refine wp_store_row ty (.tmp t) y hop b vs.toArray e1 v2 ty cs.toArray e3 (by rw [ty_size hZ]; simp; omega) (by simp; omega) (by simpa using l2) ?_
        rw [hdst]
        have hr:RanX (PB P0 fr) w (w.setRow b vs.toArray):=RanS_setRow ⟨Or.inr ⟨t,e2⟩,hF.hi e2⟩
        have hsz:(w.setRow b vs.toArray).heap.size=w.heap.size:=setRow_size w b _
        have hB:Below w0.heap.size w0 (w.setRow b vs.toArray):=hF.bel.trans ⟨rfl,rfl,rfl,by simp,fun q hq=>setRow_other w b q _ (fun e=>by have:=(hF.own t b e2).1; omega)⟩
        exact hK _ _ (St.go (fr':=fr) hs hT hs.defers hs.size ⟨hF.old,hF.inj,fun t1 q g1=>by rw [hsz]; exact hF.own t1 q g1,hB⟩ hr (fun q hq=>Or.inl hq) (fun s _ _ _ _=>rfl) (Or.inl rfl) (fun s q _ hst _ _ hq=>setRow_other w b q _ (fun e=>hst (hF.inj s t q hq (by rw [e]; exact e2)))) (fun _ _=>rfl)
         (Or.inl ⟨_,_,rfl,hs.mus t _ _ h1⟩) (fun t ty f e=>by cases e) ⟨b,vs,e1,e2,hsr,v1.turn hr (fun q hq=>Or.inl hq)⟩)
       ·cases h
      ·cases h
     ·cases h
 | some d =>
   simp only [hdst] at h
   cases hop:o.op <;> simp only [hop] at h <;> try (cases h; done)
   case move x =>
    have hargs:argsO constO T o=[getO constO T x]:=by simp [argsO,hop,Op.operands]
    rw [hargs] at h
    split at h
    ·rename_i s l hx
     simp only [List.cons.injEq,and_true] at hx
     exact pure_ hdst h (by simp [execOp,hop,Sem.run_pure]) (hval x s l hx)
    ·rename_i r hx
     simp only [List.cons.injEq,and_true] at hx
     obtain ⟨t,rfl,ht⟩:=getO_tmp hx (by intro s l e; cases e)
     exact gen_ hdst h (fun ty l e=>by cases e) (fun t ty f e=>by cases e) (fun _=>by simp [execOp,hop,Sem.run_pure,Act.eval]) (fun _=>hT t _ ht)
    ·rename_i k els hx
     simp only [List.cons.injEq,and_true] at hx
     split at h
     ·exact give hdst hx h (by simp [execOp,hop,Sem.run_pure])
     ·cases h
    ·cases h
   case assign x =>
    have hargs:argsO constO T o=[getO constO T x]:=by simp [argsO,hop,Op.operands]
    rw [hargs] at h
    split at h
    ·split at h
     ·rename_i hx
      simp only [List.cons.injEq,and_true] at hx
      split at h
      ·rename_i k hk
       obtain ⟨hd,hm,rfl,_⟩:=putN_some h
       have hv:=dat hx
       unfold Oper.wp
       rw [show (execOp a.eval o).run Tryz.prog w=.ok (.value (a.eval x)) w by simp [execOp,hop,Sem.run_pure],Oper.upon_value,hdst,hv]
       exact hK _ _ (hs.gain hF hT (g:=none) hd hm same (fun q e=>by cases e) (Or.inl ⟨rfl,rfl⟩))
      ·cases h
     ·rename_i k els hx
      simp only [List.cons.injEq,and_true] at hx
      split at h
      ·exact give hdst hx h (by simp [execOp,hop,Sem.run_pure])
      ·cases h
     ·cases h
    ·split at h
     ·rename_i s l hx
      simp only [List.cons.injEq,and_true] at hx
      exact pure_ hdst h (by simp [execOp,hop,Sem.run_pure]) (hval x s l hx)
     ·cases h
   case pick x y z =>
    have hargs:argsO constO T o=[getO constO T x,getO constO T y,getO constO T z]:=by simp [argsO,hop,Op.operands]
    rw [hargs] at h
    split at h
    ·rename_i c y' z' hx
     simp only [List.cons.injEq,and_true] at hx
     obtain ⟨h1,rfl,rfl⟩:=hx
     split at h
     ·rename_i s l hc
      refine pure_ hdst h (v:=if c then a.eval y else a.eval z) ?_ ?_
      ·simp only [execOp,hop,Sem.run_bind,dat h1,asBool,Sem.run_pure,Result.andThen_ok]
      ·cases c
       ·exact hval z s l hc
       ·exact hval y s l hc
     ·cases h
    ·cases h
   case unOp op ty x =>
    have hargs:argsO constO T o=[getO constO T x]:=by simp [argsO,hop,Op.operands]
    rw [hargs] at h
    cases op <;> simp only at h <;> try (cases h; done)
    case not =>
     split at h
     ·rename_i c hx
      simp only [List.cons.injEq,and_true] at hx
      refine pure_ hdst h (v:=.bool !c) ?_ ⟨[_],ok_dat rfl rfl,Or.inr ⟨rfl,rfl⟩⟩
      simp only [execOp,hop,Sem.run_bind,dat hx,Op.unary,Sem.run_pure,Result.andThen_ok]
     ·cases h
   case convert src dst x =>
    have hargs:argsO constO T o=[getO constO T x]:=by simp [argsO,hop,Op.operands]
    rw [hargs] at h
    split at h
    ·rename_i k0 n hx
     simp only [List.cons.injEq,and_true] at hx
     split at h
     ·rename_i k1 k hs1 hs2
      refine pure_ hdst h (v:=.int k (k.wrap n)) ?_ ⟨[_],ok_dat rfl rfl,Or.inr ⟨rfl,rfl⟩⟩
      simp only [execOp,hop,Sem.run_bind,dat hx,convert,run_underlying hs1,run_underlying hs2,Conv.intToInt,Sem.run_pure,Result.andThen_ok]
     ·cases h
    ·cases h
   case binOp op ty x y ty2 =>
    have hargs:argsO constO T o=[getO constO T x,getO constO T y]:=by simp [argsO,hop,Op.operands]
    rw [hargs] at h
    split at h
    ·rename_i p1 p2 hx
     simp only [List.cons.injEq,and_true] at hx
     obtain ⟨h1,h2⟩:=hx
     split at h
     ·split at h
      ·rename_i hp
       refine pure_ hdst h (v:=.bool (p1 == p2)) ?_ ⟨[_],ok_dat rfl rfl,Or.inr ⟨rfl,rfl⟩⟩
       simp only [execOp,hop,dat h1,dat h2]
       rw [Sem.run_bind,run_beq hp]
       rfl
      ·cases h
     ·cases h
    ·rename_i x' y' _ hx
     simp only [List.cons.injEq,and_true] at hx
     obtain ⟨h1,h2⟩:=hx
     split at h
     ·rename_i v hv
      split at h
      ·rename_i hone
       refine pure_ hdst h (v:=v) ?_ ⟨[_],ok_dat hone rfl,Or.inr ⟨rfl,rfl⟩⟩
       simp only [execOp,hop,dat h1,dat h2]
       rw [Sem.run_bind,run_bin hv]
       rfl
      ·cases h
     ·split at h
      ·rename_i b hb _ _
       split at h
       ·rename_i hp
        obtain ⟨q,e1,e2⟩:=nilCh_ok hb (arg_one (hval x _ _ h1))
        refine pure_ hdst h (v:=.bool b) ?_ ⟨[_],ok_dat rfl rfl,Or.inr ⟨rfl,rfl⟩⟩
        simp only [execOp,hop,e1,dat h2]
        rw [Sem.run_bind,run_nil hp,e2]
        rfl
       ·cases h
      ·cases h
    ·rename_i L hx
     simp only [List.cons.injEq,and_true] at hx
     obtain ⟨h1,h2⟩:=hx
     split at h
     ·split at h
      ·rename_i hp
       obtain ⟨q,e1,e2⟩:=nilCh_ok (c:=.env L) (b:=false) rfl (arg_one (hval x _ _ h1))
       refine pure_ hdst h (v:=.bool false) ?_ ⟨[_],ok_dat rfl rfl,Or.inr ⟨rfl,rfl⟩⟩
       simp only [execOp,hop,e1,dat h2]
       rw [Sem.run_bind,run_nil hp,e2]
       rfl
      ·cases h
     ·cases h
    ·cases h
   case extract x ix =>
    have hargs:argsO constO T o=[getO constO T x]:=by simp [argsO,hop,Op.operands]
    rw [hargs] at h
    split at h
    ·rename_i r hx
     simp only [List.cons.injEq,and_true] at hx
     split at h
     ·rename_i y hy
      obtain ⟨t,rfl,ht⟩:=getO_tmp hx (by intro s l e; cases e)
      obtain ⟨vs,e1,e2⟩:=hT t _ ht
      obtain ⟨v,e3,e4⟩:=e2.at_ hy
      refine pure_ hdst h (v:=v) ?_ e4
      have e5:a.eval (.tmp t)=.tuple vs.toArray:=e1
      simp [execOp,hop,e5,Instr.extract,e3]
     ·cases h
    ·cases h
   case box ty x =>
    have hargs:argsO constO T o=[getO constO T x]:=by simp [argsO,hop,Op.operands]
    rw [hargs] at h
    split at h
    ·rename_i l Z hx hZ
     simp only [List.cons.injEq,and_true] at hx
     split at h
     ·rename_i hb
      obtain ⟨vs,v1,v2⟩:=hval x true l hx
      have v2:a.eval x=.agg vs.toArray:=by
       rcases v2 with ⟨_,v2⟩ | ⟨v2,_⟩
       ·exact v2
       ·cases v2
      have hbel:Below w.heap.size w (w.alloc (.cells vs.toArray ty)):=below_one _ _
      have hnew:=World.alloc_heap_new w (.cells vs.toArray ty)
      have hrun:(execOp a.eval o).run Tryz.prog w=.ok (.value (.pointer (some ⟨w.heap.size,0,none⟩))) (w.alloc (.cells vs.toArray ty)):=by
       simp [execOp,hop,v2,Instr.box,newVar,newRow,Value.cells]
      unfold Oper.wp
      rw [hrun,Oper.upon_value,hdst]
      split at h
      ·obtain ⟨hd,rfl,hm,hno,_⟩:=putM_some h
       exact hK _ _ (St.fresh hs hF hT hd (Or.inl ⟨_,_,rfl,hm⟩) (fun ty l e=>by rw [hno] at e; cases e) (fun t ty f e=>by cases e) hbel (World.size_alloc _ _) ⟨w.heap.size,vs,rfl,if_pos rfl,hnew,v1.turn (RanX.of_below hbel) (fun q hq=>fresh_sub hF hq)⟩)
      ·obtain ⟨hd,rfl,_,hm⟩:=putT_some h
       exact hK _ _ (hs.put hF hT hbel hd hm (fun ty l e=>by cases e) (fun t ty f e=>by cases e) ⟨w.heap.size,vs,rfl,fun hp=>by have:=hF.lt _ hp; omega,hnew,v1.turn (RanX.of_below hbel) (fun q hq=>Or.inl hq)⟩)
     ·cases h
    ·cases h
   case alloc ty =>
    have nom:∀ {d:Nat},p.isM d=false→∀ ty l,look T d ≠ some (Sl.mvar ty l):=fun hm ty l e=>by have:=hs.mus _ _ _ e; rw [hm] at this; cases this
    split at h
    ·rename_i Z hZ
     unfold Oper.wp execOp
     simp only [hop,Sem.run_bind,run_alloc_st hZ,Result.andThen_ok,Sem.run_pure]
     rw [Oper.upon_value,hdst]
     have hb:Below w.heap.size w (w.alloc (.cells (zc Z).toArray ty)):=below_one _ _
     have hnew:=World.alloc_heap_new w (.cells (zc Z).toArray ty)
     split at h
     ·obtain ⟨hd,rfl,hm,hno,_⟩:=putM_some h
      exact hK _ _ (St.fresh hs hF hT hd (Or.inl ⟨_,_,rfl,hm⟩) (fun ty l e=>by rw [hno] at e; cases e) (fun t ty f e=>by cases e) hb (World.size_alloc _ _) ⟨w.heap.size,zc Z,rfl,if_pos rfl,hnew,zc_ok hZ _ _⟩)
     ·obtain ⟨hd,rfl,_,hm⟩:=putT_some h
      refine hK _ _ (St.fresh hs hF hT hd (Or.inr ⟨(fun ty l e=>by cases e),hm⟩) (nom hm) (fun t ty f e=>by cases e) hb (World.size_alloc _ _) ⟨w.heap.size,(zc Z).toArray,rfl,if_pos rfl,hnew,?_⟩)
      have:=(zc_ok hZ (fun _=>False) w).len.1
      simpa using this
    ·split at h
     ·rename_i z hz
      obtain ⟨hd,rfl,_,hm⟩:=putT_some h
      unfold Oper.wp execOp
      simp only [hop,Sem.run_bind,(z1_one hz).2.2,Result.andThen_ok,Sem.run_pure]
      rw [Oper.upon_value,hdst]
      exact hK _ _ (St.fresh hs hF hT hd (Or.inr ⟨(fun ty l e=>by cases e),hm⟩) (nom hm) (fun t ty f e=>by cases e) (below_one _ _) (World.size_alloc _ _) ⟨w.heap.size,#[z],rfl,if_pos rfl,World.alloc_heap_new w _,rfl⟩)
     ·cases h
   case load ty x =>
    have hargs:argsO constO T o=[getO constO T x]:=by simp [argsO,hop,Op.operands]
    rw [hargs] at h
    split at h
    ·rename_i ty' l hx
     simp only [List.cons.injEq,and_true] at hx
     split at h
     ·rename_i Z hZ
      split at h
      ·rename_i hb
       simp only [Bool.and_eq_true] at hb
       obtain ⟨b1,b2⟩:=hb
       cases Nat.eq_of_beq_eq_true b1
       have b2:=Nat.eq_of_beq_eq_true b2
       obtain ⟨hd,rfl,_,hm⟩:=putT_some h
       obtain ⟨t,rfl,ht⟩:=getO_tmp hx (by intro s l e; cases e)
       obtain ⟨b,vs,e1,e2,e3,e4⟩:=hT t _ ht
       obtain ⟨dd,hu,hds⟩:=ty_st hZ
       refine wp_load_row ty (.tmp t) hop b e1 ty vs.toArray (0,0) dd e3 hu (by cases dd <;> first | rfl | cases hds) (by rw [ty_size hZ]; have:=e4.len.1; simp; omega) ?_
       rw [hdst]
       exact hK _ _ (hs.put hF hT same hd hm (fun ty l e=>by cases e) (fun t ty f e=>by cases e) ⟨vs,e4,Or.inl ⟨rfl,rfl⟩⟩)
      ·cases h
     ·split at h
      ·rename_i c
       split at h
       ·rename_i hb
        simp only [Bool.and_eq_true] at hb
        obtain ⟨⟨b1,b2⟩,b3⟩:=hb
        cases Nat.eq_of_beq_eq_true b1
        have b3:=Nat.eq_of_beq_eq_true b3
        obtain ⟨t,rfl,ht⟩:=getO_tmp hx (by intro s l e; cases e)
        obtain ⟨b,vs,e1,e2,e3,e4⟩:=hT t _ ht
        have hl:=e4.len.1
        obtain ⟨v,rfl⟩:∃ v,vs=[v]:=by
         simp only [tot,b3] at hl
         match vs,hl with
         | [v],_=>exact ⟨v,rfl⟩
         | [],h0=>simp at h0
         | _ :: _ :: _,h0=>simp at h0
        refine pure_ hdst h (v:=v) ?_ ⟨[v],e4,Or.inr ⟨rfl,rfl⟩⟩
        have hc:w.cell? ⟨b,0,none⟩=some v:=by simp [World.cell?,e3]
        have e7:a.eval (.tmp t)=.pointer (some ⟨b,0,none⟩):=e1
        simp only [execOp,hop,e7,Sem.run_bind,run_load_one b2 hc,Result.andThen_ok,Sem.run_pure]
       ·cases h
      ·cases h
    ·rename_i ty' l hx
     simp only [List.cons.injEq,and_true] at hx
     split at h
     ·rename_i Z hZ
      split at h
      ·rename_i hb
       simp only [Bool.and_eq_true] at hb
       obtain ⟨b1,b2⟩:=hb
       cases Nat.eq_of_beq_eq_true b1
       have b2:=Nat.eq_of_beq_eq_true b2
       obtain ⟨hd,rfl,_,hm⟩:=putT_some h
       obtain ⟨t,rfl,ht⟩:=getO_tmp hx (by intro s l e; cases e)
       obtain ⟨b,vs,e1,e2,e3,e4⟩:=hT t _ ht
       obtain ⟨dd,hu,hds⟩:=ty_st hZ
       refine wp_load_row ty (.tmp t) hop b e1 ty vs.toArray (0,0) dd e3 hu (by cases dd <;> first | rfl | cases hds) (by rw [ty_size hZ]; have:=e4.len.1; simp; omega) ?_
       rw [hdst]
       exact hK _ _ (hs.put hF hT same hd hm (fun ty l e=>by cases e) (fun t ty f e=>by cases e) ⟨vs,e4,Or.inl ⟨rfl,rfl⟩⟩)
      ·cases h
     ·cases h
    ·rename_i ty' l hx
     simp only [List.cons.injEq,and_true] at hx
     split at h
     ·rename_i hb
      simp only [Bool.and_eq_true] at hb
      obtain ⟨b1,b2⟩:=hb
      obtain ⟨t,rfl,ht⟩:=getO_tmp hx (by intro s l e; cases e)
      obtain ⟨b,off,vs,e1,e2,e3,e4,e5,e6⟩:=hT t _ ht
      obtain ⟨v,rfl⟩:=e6 rfl
      refine pure_ hdst h (v:=v) ?_ ⟨[v],e5,Or.inr ⟨rfl,rfl⟩⟩
      have hc:=e4 0 v rfl
      rw [Nat.add_zero] at hc
      have e7:a.eval (.tmp t)=.pointer (some ⟨b,off,none⟩):=e1
      simp only [execOp,hop,e7,Sem.run_bind,run_load_one b1 hc,Result.andThen_ok,Sem.run_pure]
     ·cases h
    ·rename_i ty' l hx
     simp only [List.cons.injEq,and_true] at hx
     split at h
     ·rename_i Z hZ
      split at h
      ·rename_i hb
       simp only [Bool.and_eq_true] at hb
       obtain ⟨b1,b2⟩:=hb
       cases Nat.eq_of_beq_eq_true b1
       have b2:=Nat.eq_of_beq_eq_true b2
       obtain ⟨t,rfl,ht⟩:=getO_tmp hx (by intro s l e; cases e)
       obtain ⟨b,off,vs,e1,e2,e3,e4,e5,e6⟩:=hT t _ ht
       obtain ⟨dd,hu,hds⟩:=ty_st hZ
       refine pure_ hdst h (v:=.agg vs.toArray) ?_ ⟨vs,e5,Or.inl ⟨rfl,rfl⟩⟩
       have e7:a.eval (.tmp t)=.pointer (some ⟨b,off,none⟩):=e1
       have hrun:=run_loadAt_mid (P:=Tryz.prog) w b off ty vs dd e4 hu (by cases dd <;> first | rfl | cases hds) (by rw [ty_size hZ]; have:=e5.len.1; simp; omega)
       simp only [execOp,hop,e7,Sem.run_bind,hrun,Result.andThen_ok,Sem.run_pure]
      ·cases h
     ·cases h
    ·rename_i t ty' f hx
     simp only [List.cons.injEq,and_true] at hx
     split at h
     ·rename_i ty2 l hl
      split at h
      ·rename_i Z hZ
       split at h
       ·rename_i hb
        simp only [Bool.and_eq_true] at hb
        obtain ⟨b1,b2⟩:=hb
        cases Nat.eq_of_beq_eq_true b1
        split at h
        ·rename_i c hc
         split at h
         ·rename_i hb2
          simp only [Bool.and_eq_true] at hb2
          obtain ⟨⟨⟨c1,c2⟩,c3⟩,c4⟩:=hb2
          have c1:=Nat.eq_of_beq_eq_true c1
          have hd:d < p.n:=by simpa [Nat.blt_eq] using c3
          have hm:p.isM d=false:=by simpa using c4
          cases ho:ovr p.ov d (.val false [c]) with
          | mk y m =>
            simp only [ho,Option.some.injEq,Prod.mk.injEq] at h
            obtain ⟨rfl,hmm,_⟩:=h
            rw [ovr_ok ho hmm] at hK
            obtain ⟨s,rfl,hs1⟩:=getO_tmp hx (by intro s l e; cases e)
            obtain ⟨b,Z2,off,sz,e1,e2,e3,e4⟩:=hT s _ hs1
            rw [hZ] at e3
            cases e3
            obtain ⟨b',vs,f1,f2,f3,f4⟩:=hT t _ hl
            rw [e2] at f2
            cases f2
            obtain ⟨A,X,C,rfl,hA,hX,hAl⟩:=split_at (expand_ok f4) hc
            have hoff:=offs_split hc
            rw [offs_eq _ _ 0 b2,e4] at hoff
            simp only [Option.some.injEq,Prod.mk.injEq] at hoff
            obtain ⟨rfl,_⟩:=hoff
            have hl2:=hX.len.1
            obtain ⟨v,rfl⟩:∃ v,X=[v]:=by
             rw [c1] at hl2
             match X,hl2 with
             | [x],_=>exact ⟨x,rfl⟩
             | [],h0=>simp at h0
             | _ :: _ :: _,h0=>simp at h0
            have hcell:w.cell? ⟨b,0 + tot ((expand l).take f),none⟩=some v:=by
             simp only [World.cell?,f3]
             rw [if_neg (by simp),List.getElem?_toArray,List.getElem?_append_right (by omega),show 0 + tot (List.take f (expand l)) - A.length=0 by omega]
             rfl
            have e7:a.eval (.tmp s)=.pointer (some ⟨b,0 + tot ((expand l).take f),none⟩):=e1
            unfold Oper.wp
            rw [show (execOp a.eval o).run Tryz.prog w=.ok (.value v) w by simp only [execOp,hop,e7,Sem.run_bind,run_load_one c2 hcell,Result.andThen_ok,Sem.run_pure],Oper.upon_value,hdst]
            exact hK _ _ (hs.put hF hT same hd hm (fun ty l e=>by cases e) (fun t ty f e=>by cases e) ⟨[v],⟨[v],[],rfl,hX,rfl⟩,Or.inr ⟨rfl,rfl⟩⟩)
         ·cases h
        ·cases h
       ·cases h
      ·cases h
     ·cases h
    ·cases h
   case fieldAddr ty x f =>
    have hargs:argsO constO T o=[getO constO T x]:=by simp [argsO,hop,Op.operands]
    rw [hargs] at h
    split at h
    ·rename_i ty' l Z hx hZ
     simp only [List.cons.injEq,and_true] at hx
     split at h
     ·rename_i hb
      simp only [Bool.and_eq_true] at hb
      obtain ⟨b1,b2⟩:=hb
      cases Nat.eq_of_beq_eq_true b1
      have parts:∀ {c:Ch},(expand l)[f]?=some c→∃ b o2 A X C,a.eval x=.pointer (some ⟨b,o2,none⟩)∧¬ PB P0 fr b∧b < w.heap.size∧w.rangeAt b o2 (A ++ (X ++ C))∧Typ.Ok (PB P0 fr) w ((expand l).take f) A∧c.Ok (PB P0 fr) w X∧A.length=tot ((expand l).take f)∧(offs 0 Z)[f]?=some (0 + tot ((expand l).take f),c.size):=by
       intro c hc
       obtain ⟨t,rfl,ht⟩:=getO_tmp hx (by intro s l e; cases e)
       obtain ⟨b,vs,e1,e2,e3,e4⟩:=hT t _ ht
       obtain ⟨A,X,C,rfl,hA,hX,hAl⟩:=split_at (expand_ok e4) hc
       refine ⟨b,0,A,X,C,e1,e2,(Array.getElem?_eq_some_iff.1 e3).1,fun j v hv=>?_,hA,hX,hAl,by rw [← offs_eq _ _ 0 b2]; exact offs_split hc⟩
       rw [Nat.zero_add]
       simp only [World.cell?,e3]
       rw [if_neg (by simp),List.getElem?_toArray]
       exact hv
      split at h
      ·rename_i t2 hc
       obtain ⟨b,o2,A,X,C,e1,e2,e3,e4,hA,hX,hlen,hoff⟩:=parts hc
       refine gen_ hdst h (v:=.pointer (some ⟨b,o2 + (0 + tot ((expand l).take f)),none⟩)) (fun ty l e=>by cases e) (fun t ty f e=>by cases e) (fun _=>?_) (fun _=>⟨b,_,X,rfl,e2,e3,fun j v hv=>?_,⟨X,[],by rw [List.append_nil],hX,rfl⟩,fun hf=>by cases hf⟩)
       ·simp only [execOp,hop,e1,Sem.run_bind,run_field hZ hoff,Result.andThen_ok,Sem.run_pure]
       ·rw [show o2 + (0 + tot ((expand l).take f)) + j=o2 + (A.length + j) by omega]
        refine e4 (A.length + j) v ?_
        have hj:=(List.getElem?_eq_some_iff.1 hv).1
        rw [List.getElem?_append_right (by omega),List.getElem?_append_left (by omega),show A.length + j - A.length=j by omega]
        exact hv
      ·rename_i c _ hc
       split at h
       ·rename_i hc1
        have hc1:=Nat.eq_of_beq_eq_true hc1
        obtain ⟨b,o2,A,X,C,e1,e2,e3,e4,hA,hX,hlen,hoff⟩:=parts hc
        have hl2:=hX.len.1
        refine gen_ hdst h (v:=.pointer (some ⟨b,o2 + (0 + tot ((expand l).take f)),none⟩)) (fun ty l e=>by cases e) (fun t ty f e=>by cases e) (fun _=>?_) (fun _=>⟨b,_,X,rfl,e2,e3,fun j v hv=>?_,⟨X,[],by rw [List.append_nil],hX,rfl⟩,fun _=>?_⟩)
        ·simp only [execOp,hop,e1,Sem.run_bind,run_field hZ hoff,Result.andThen_ok,Sem.run_pure]
        ·rw [show o2 + (0 + tot ((expand l).take f)) + j=o2 + (A.length + j) by omega]
         refine e4 (A.length + j) v ?_
         have hj:=(List.getElem?_eq_some_iff.1 hv).1
         rw [List.getElem?_append_right (by omega),List.getElem?_append_left (by omega),show A.length + j - A.length=j by omega]
         exact hv
        ·match X,hl2 with
         | [x],_=>exact ⟨x,rfl⟩
         | [],h0=>simp at h0; omega
         | _ :: _ :: _,h0=>simp at h0; omega
       ·cases h
      ·cases h
     ·cases h
    ·rename_i ty' l Z hx hZ
     simp only [List.cons.injEq,and_true] at hx
     split at h
     ·rename_i hb
      simp only [Bool.and_eq_true] at hb
      obtain ⟨b1,b2⟩:=hb
      cases Nat.eq_of_beq_eq_true b1
      have parts:∀ {c:Ch},(expand l)[f]?=some c→∃ b o2 A X C,a.eval x=.pointer (some ⟨b,o2,none⟩)∧¬ PB P0 fr b∧b < w.heap.size∧w.rangeAt b o2 (A ++ (X ++ C))∧Typ.Ok (PB P0 fr) w ((expand l).take f) A∧c.Ok (PB P0 fr) w X∧A.length=tot ((expand l).take f)∧(offs 0 Z)[f]?=some (0 + tot ((expand l).take f),c.size):=by
       intro c hc
       obtain ⟨t,rfl,ht⟩:=getO_tmp hx (by intro s l e; cases e)
       obtain ⟨b,o2,vs,e1,e2,e3,e4,e5,e6⟩:=hT t _ ht
       obtain ⟨A,X,C,rfl,hA,hX,hAl⟩:=split_at (expand_ok e5) hc
       exact ⟨b,o2,A,X,C,e1,e2,e3,e4,hA,hX,hAl,by rw [← offs_eq _ _ 0 b2]; exact offs_split hc⟩
      split at h
      ·rename_i t2 hc
       obtain ⟨b,o2,A,X,C,e1,e2,e3,e4,hA,hX,hlen,hoff⟩:=parts hc
       refine gen_ hdst h (v:=.pointer (some ⟨b,o2 + (0 + tot ((expand l).take f)),none⟩)) (fun ty l e=>by cases e) (fun t ty f e=>by cases e) (fun _=>?_) (fun _=>⟨b,_,X,rfl,e2,e3,fun j v hv=>?_,⟨X,[],by rw [List.append_nil],hX,rfl⟩,fun hf=>by cases hf⟩)
       ·simp only [execOp,hop,e1,Sem.run_bind,run_field hZ hoff,Result.andThen_ok,Sem.run_pure]
       ·rw [show o2 + (0 + tot ((expand l).take f)) + j=o2 + (A.length + j) by omega]
        refine e4 (A.length + j) v ?_
        have hj:=(List.getElem?_eq_some_iff.1 hv).1
        rw [List.getElem?_append_right (by omega),List.getElem?_append_left (by omega),show A.length + j - A.length=j by omega]
        exact hv
      ·rename_i c _ hc
       split at h
       ·rename_i hc1
        have hc1:=Nat.eq_of_beq_eq_true hc1
        obtain ⟨b,o2,A,X,C,e1,e2,e3,e4,hA,hX,hlen,hoff⟩:=parts hc
        have hl2:=hX.len.1
        refine gen_ hdst h (v:=.pointer (some ⟨b,o2 + (0 + tot ((expand l).take f)),none⟩)) (fun ty l e=>by cases e) (fun t ty f e=>by cases e) (fun _=>?_) (fun _=>⟨b,_,X,rfl,e2,e3,fun j v hv=>?_,⟨X,[],by rw [List.append_nil],hX,rfl⟩,fun _=>?_⟩)
        ·simp only [execOp,hop,e1,Sem.run_bind,run_field hZ hoff,Result.andThen_ok,Sem.run_pure]
        ·rw [show o2 + (0 + tot ((expand l).take f)) + j=o2 + (A.length + j) by omega]
         refine e4 (A.length + j) v ?_
         have hj:=(List.getElem?_eq_some_iff.1 hv).1
         rw [List.getElem?_append_right (by omega),List.getElem?_append_left (by omega),show A.length + j - A.length=j by omega]
         exact hv
        ·match X,hl2 with
         | [x],_=>exact ⟨x,rfl⟩
         | [],h0=>simp at h0; omega
         | _ :: _ :: _,h0=>simp at h0; omega
       ·cases h
      ·cases h
     ·cases h
    ·rename_i ty' l Z hx hZ
     simp only [List.cons.injEq,and_true] at hx
     split at h
     ·rename_i t hops
      split at h
      ·rename_i hb
       simp only [Bool.and_eq_true] at hb
       obtain ⟨⟨b1,b2⟩,b3⟩:=hb
       cases Nat.eq_of_beq_eq_true b1
       obtain ⟨t2,rfl,ht⟩:=getO_tmp hx (by intro s l e; cases e)
       have htt:t2=t:=by simpa [hop,Op.operands] using hops
       subst htt
       obtain ⟨b,vs,e1,e2,e3,e4⟩:=hT t2 _ ht
       have hlt:f < (offs 0 Z).length:=by rw [offs_len]; simpa using b3
       obtain ⟨q,hq⟩:∃ q,(offs 0 Z)[f]?=some q:=⟨_,List.getElem?_eq_getElem hlt⟩
       refine gen_ hdst h (v:=.pointer (some ⟨b,0 + q.1,none⟩)) (fun ty l e=>by cases e) (fun t ty f e=>by cases e; exact ⟨_,_,ht⟩) (fun _=>?_) (fun _=>⟨b,Z,q.1,q.2,by rw [Nat.zero_add],e2,hZ,hq⟩)
       have e7:a.eval (.tmp t2)=.pointer (some ⟨b,0,none⟩):=e1
       simp only [execOp,hop,e7,Sem.run_bind,run_field (off:=q.1) (sz:=q.2) hZ hq,Result.andThen_ok,Sem.run_pure]
      ·cases h
     ·cases h
    ·cases h
   case indexAddr ty x ix =>
    have hargs:argsO constO T o=[getO constO T x,getO constO T ix]:=by simp [argsO,hop,Op.operands]
    rw [hargs] at h
    split at h
    ·rename_i c z hx
     simp only [List.cons.injEq,and_true] at hx
     obtain ⟨h1,h2⟩:=hx
     split at h
     ·rename_i el l n k hel hk
      split at h
      ·rename_i k2 hk2
       split at h
       ·rename_i hb
        rw [Bool.and_eq_true] at hb
        cases rkEq_eq hb.1
        have hsz:=Nat.eq_of_beq_eq_true hb.2
        obtain ⟨_,_,hneed,_⟩:=putT_some h
        simp only [Bool.and_eq_true,decide_eq_true_eq] at hneed
        obtain ⟨b,off,lc,vs,e1,e2,e3,e4,e5⟩:=elCh_ok hel (arg_one (hval x _ _ h1)) hneed.2
        refine gen_ hdst h (v:=.pointer (some ⟨b,off + z.toNat * k.size,none⟩)) (fun ty l e=>by cases e) (fun t ty f e=>by cases e) (fun _=>?_) (fun _=>⟨b,_,vs,rfl,e3,e2,by rw [← hsz]; exact e4,e5,fun hf=>?_⟩)
        case refine_2 =>
         have hq:k.size=1:=Nat.eq_of_beq_eq_true (by simpa using hf)
         have hl:=e5.len.1
         rw [hsz,hq] at hl
         exact List.length_eq_one_iff.1 hl
        have hz:a.eval ix=.int .i64 (z.toNat:Int):=by rw [dat h2]; congr 1; omega
        simp only [execOp,hop,e1,hz,Sem.run_bind,run_index hk hneed.2,Result.andThen_ok,Sem.run_pure]
       ·cases h
      ·cases h
     ·cases h
    ·cases h
   case makeFunc fn first cap =>
    split at h
    ·rename_i g
     split at h
     ·rename_i ty l hxs hfirst
      split at h
      ·rename_i hb
       rw [Bool.and_eq_true] at hb
       cases Nat.eq_of_beq_eq_true hb.1
       cases Nat.eq_of_beq_eq_true hb.2
       have hf0:first=#[]:=by apply Array.ext'; simpa using hfirst
       subst hf0
       have hargs:argsO constO T o=cap.toList.map (getO constO T):=by simp [argsO,hop,Op.operands]
       rw [hargs] at hxs
       match hcl:cap.toList with
       | [y] =>
         rw [hcl] at hxs
         simp only [List.map_cons,List.map_nil,List.cons.injEq,and_true] at hxs
         have hcap:cap=#[y]:=by apply Array.ext'; simpa using hcl
         subst hcap
         obtain ⟨t,rfl,ht⟩:=getO_tmp hxs (by intro s l e; cases e)
         obtain ⟨b,vs,e1,e2,e3,e4⟩:=hT t _ ht
         obtain ⟨x,y,rfl,⟨lo,lc,rfl,e5,e6⟩,rfl⟩:=e4
         have e7:a.eval (.tmp t)=.pointer (some ⟨b,0,none⟩):=e1
         refine pure_ hdst h (v:=.func (.func 80) #[] #[.pointer (some ⟨b,0,none⟩)]) ?_ ⟨[_],⟨[_],[],rfl,⟨_,rfl,b,lo,lc,rfl,(Array.getElem?_eq_some_iff.1 e3).1,e2,e3,e5,e6⟩,rfl⟩,Or.inr ⟨rfl,rfl⟩⟩
         simp [execOp,hop,Instr.makeFunc,e7]
       | []=>rw [hcl] at hxs; simp at hxs
       | _ :: _ :: _=>rw [hcl] at hxs; simp at hxs
      ·cases h
     ·rename_i ty c0 s rest hxs hfirst
      split at h
      ·rename_i hb
       rw [Bool.and_eq_true] at hb
       cases Nat.eq_of_beq_eq_true hb.1
       have hc0:=Nat.eq_of_beq_eq_true hb.2
       have hf0:first=#[]:=by apply Array.ext'; simpa using hfirst
       subst hf0
       have hargs:argsO constO T o=cap.toList.map (getO constO T):=by simp [argsO,hop,Op.operands]
       rw [hargs] at hxs
       match hcl:cap.toList with
       | [y] =>
         rw [hcl] at hxs
         simp only [List.map_cons,List.map_nil,List.cons.injEq,and_true] at hxs
         have hcap:cap=#[y]:=by apply Array.ext'; simpa using hcl
         subst hcap
         obtain ⟨t,rfl,ht⟩:=getO_tmp hxs (by intro s l e; cases e)
         obtain ⟨b,vs,e1,e2,e3,e4⟩:=hT t _ ht
         obtain ⟨x,y,rfl,k0,x1,y1,rfl,⟨rfl,_⟩,_⟩:=e4
         have hx1:=k0.len.1
         rw [hc0] at hx1
         obtain ⟨x0,rfl⟩:∃ x0,x=[x0]:=by
          match x,hx1 with
          | [x0],_=>exact ⟨x0,rfl⟩
         have e7:a.eval (.tmp t)=.pointer (some ⟨b,0,none⟩):=e1
         refine pure_ hdst h (v:=.func (.func 82) #[] #[.pointer (some ⟨b,0,none⟩)]) ?_ ⟨[_],⟨[_],[],rfl,⟨_,rfl,b,rfl,(Array.getElem?_eq_some_iff.1 e3).1,e2,by simp [World.cell?,e3]⟩,rfl⟩,Or.inr ⟨rfl,rfl⟩⟩
         simp [execOp,hop,Instr.makeFunc,e7]
       | []=>rw [hcl] at hxs; simp at hxs
       | _ :: _ :: _=>rw [hcl] at hxs; simp at hxs
      ·cases h
     ·cases h
    ·cases h
   case build ty ps =>
    split at h
    ·rename_i Z hZ
     split at h
     ·rename_i l hl
      have hargs:argsO constO T o=(ps.toList.map (·.2)).map (getO constO T):=by simp [argsO,hop,Op.operands]
      rw [hargs] at hl
      obtain ⟨rs,r1,r2⟩:=fill_ok (ps.toList.map (·.1)) _ Z l (zc Z) ((ps.toList.map (·.2)).map a.eval) (fun i=>(offs 0 Z).toArray[i]?) hl (fun i=>by simp) (zc_ok hZ _ _) (getO_voks hT _)
      have hb:Tryz.prog.built ty (ps.map fun (i,x)=>(i,a.eval x)).toList=some rs.toArray:=by
       rw [built_of hZ,Array.toList_map,zip_parts]
       exact r1
      have hrun:(execOp a.eval o).run Tryz.prog w=.ok (.value (.agg rs.toArray)) w:=by
       unfold execOp
       simp only [hop,Sem.run_bind,run_build w ty _ _ hb,Result.andThen_ok,Sem.run_pure]
      split at h
      ·rename_i t n hn5
       obtain ⟨_,_,hn,_⟩:=putT_some h
       exact pure_ hdst h hrun ⟨rs,norm5_ok hn5 hn r2,Or.inl ⟨rfl,rfl⟩⟩
      ·exact pure_ hdst h hrun ⟨rs,r2,Or.inl ⟨rfl,rfl⟩⟩
     ·cases h
    ·cases h
   case buildSlice ty len ps =>
    split at h
    ·rename_i k hk
     split at h
     ·split at h
      ·rename_i els hels
       split at h
       ·rename_i hb
        simp only [Bool.and_eq_true] at hb
        obtain ⟨⟨⟨b1,b2⟩,b3⟩,b4⟩:=hb
        have b2:=Nat.eq_of_beq_eq_true b2
        have b3:0 < len:=by simpa [Nat.blt_eq] using b3
        have b4:len≤1000:=Nat.le_of_ble_eq_true b4
        obtain ⟨hd,hm,rfl,_⟩:=putN_some h
        have hargs:argsO constO T o=(ps.toList.map (·.2)).map (getO constO T):=by simp [argsO,hop,Op.operands]
        rw [hargs] at hels
        have hvv:=getO_voks hT (ps.toList.map (·.2))
        generalize hvs:(ps.toList.map (·.2)).map a.eval=vs at hvv
        have hvl:vs.length=len:=by rw [← hvs,← b2]; simp
        obtain ⟨N,hN⟩:∃ N,N=w.alloc (.cells (vs.flatMap fun v=>v.cells.toList).toArray k.elem):=⟨_,rfl⟩
        have hbel:Below w.heap.size w N:=by rw [hN]; exact below_one _ _
        have hnew:N.heap[w.heap.size]?=some (.cells (vs.flatMap fun v=>v.cells.toList).toArray k.elem):=by rw [hN]; exact World.alloc_heap_new w _
        have hNz:N.heap.size=w.heap.size + 1:=by rw [hN,World.size_alloc]
        obtain ⟨g1,g2,g3⟩:=ownEls_ok _ vs els hels hvv
        have hrun:=run_row hk (is:=ps.toList.map (·.1)) (vs:=vs) b1 (by rw [hvl,← b2]; simp) (by omega) (by omega) g3 w
        have hp:(ps.map fun (i,x)=>(i,a.eval x))=((ps.toList.map (·.1)).zip vs).toArray:=by
         rw [← hvs,← zip_parts]
         apply Array.ext'
         simp
        unfold Oper.wp execOp
        simp only [hop,hp]
        rw [← hvl,Sem.run_bind,hrun]
        simp only [Result.andThen_ok,Sem.run_pure]
        rw [Oper.upon_value,hdst,← hN]
        have hfl:(vs.map fun v=>v.cells.toList).flatten=vs.flatMap fun v=>v.cells.toList:=by rw [List.flatMap_def]
        have hlen:=g2.len.1
        rw [hfl] at hlen
        refine hK _ _ (hs.gain hF hT (g:=some w.heap.size) hd hm hbel (fun q e=>by cases e; omega) (Or.inr ⟨w.heap.size,if_pos rfl,vs.length,_,vs.map fun v=>v.cells.toList,by rw [g1],hnew,by omega,by unfold maxLen; omega,by simp only [List.size_toArray]; rw [hlen,g1],?_,g2.turn (RanX.of_below hbel) (fun q hq=>?_)⟩))
        ·rw [hfl,List.take_of_length_le (by rw [List.toList_toArray]; omega)]
        ·rcases hq with hq | ⟨t,hq⟩
         ·exact Or.inl (Or.inl hq)
         ·have hq:(if t=d then some w.heap.size else fr t)=some q:=hq
          by_cases c1:t=d
          ·rw [if_pos c1] at hq; cases hq; exact Or.inr (Nat.le_refl _)
          ·rw [if_neg c1] at hq; exact Or.inl (Or.inr ⟨t,hq⟩)
       ·cases h
      ·cases h
     ·skip
      split at h
      ·rename_i c hc
       split at h
       ·rename_i hb
        simp only [Bool.and_eq_true] at hb
        obtain ⟨⟨⟨b1,b2⟩,b3⟩,b4⟩:=hb
        have b2:=Nat.eq_of_beq_eq_true b2
        have b3:0 < len:=by simpa [Nat.blt_eq] using b3
        have b4:len≤1000:=Nat.le_of_ble_eq_true b4
        obtain ⟨hd,rfl,hc2,hm⟩:=putT_some h
        have hargs:argsO constO T o=(ps.toList.map (·.2)).map (getO constO T):=by simp [argsO,hop,Op.operands]
        rw [hargs] at hc
        have hc:=mkRowN_ok (hc.trans (by rw [← hc2]))
        have hvv:=getO_voks hT (ps.toList.map (·.2))
        generalize hvs:(ps.toList.map (·.2)).map a.eval=vs at hvv
        have hvl:vs.length=len:=by rw [← hvs,← b2]; simp
        obtain ⟨N,hN⟩:∃ N,N=w.alloc (.cells (vs.flatMap fun v=>v.cells.toList).toArray k.elem):=⟨_,rfl⟩
        have hbel:Below w.heap.size w N:=by rw [hN]; exact below_one _ _
        have hnew:N.heap[w.heap.size]?=some (.cells (vs.flatMap fun v=>v.cells.toList).toArray k.elem):=by rw [hN]; exact World.alloc_heap_new w _
        have hv2:VOks (PB P0 fr) N ((ps.toList.map (·.2)).map (getO constO T)) vs:=VOks.turn hvv (RanX.of_below hbel) (fun q hq=>Or.inl hq)
        obtain ⟨g1,g2⟩:=mkRow_ok hc hv2 hnew (fun hp=>by have:=hF.lt _ hp; omega)
        have hrun:=run_row hk (is:=ps.toList.map (·.1)) (vs:=vs) b1 (by rw [hvl,← b2]; simp) (by omega) (by omega) g1 w
        have hp:(ps.map fun (i,x)=>(i,a.eval x))=((ps.toList.map (·.1)).zip vs).toArray:=by
         rw [← hvs,← zip_parts]
         apply Array.ext'
         simp
        unfold Oper.wp execOp
        simp only [hop,hp]
        rw [← hvl,Sem.run_bind,hrun]
        simp only [Result.andThen_ok,Sem.run_pure]
        rw [Oper.upon_value,hdst,← hN]
        exact hK _ _ (hs.put hF hT hbel hd hm (fun ty l e=>by cases e) (fun t ty f e=>by cases e) ⟨_,⟨_,[],by rw [List.append_nil],g2,rfl⟩,Or.inr ⟨rfl,rfl⟩⟩)
       ·cases h
      ·cases h
    ·cases h
   case call c =>
    obtain ⟨callee,args,ts⟩:=c
    split at h
    ·rename_i f hcallee
     have hcallee:callee=.value (.func f):=hcallee
     subst hcallee
     split at h
     ·rename_i y ys hxs
      have hargs:argsO constO T o=getO constO T (.func f) :: args.toList.map (getO constO T):=by simp [argsO,hop,Op.operands,Call.operands]
      rw [hargs] at hxs
      simp only [List.cons.injEq] at hxs
      obtain ⟨_,rfl⟩:=hxs
      split at h
      ·rename_i ss hss
       split at h
       ·rename_i k els nd hr
        obtain ⟨hd,hm,rfl,hnd⟩:=putN_some h
        subst hnd
        unfold Oper.wp
        rw [run_call hop (hsp.enter f ss _ hr _ w),Oper.upon_enter]
        have hc:=hsp.calls f ss _ hr (PB P0 fr) w (args.toList.map a.eval) hF.ltP (valsOf_ok _ ss _ hss (getO_voks hT args.toList))
        have ha:(args.toList.map a.eval).toArray=args.map a.eval:=by apply Array.ext'; simp
        rw [ha] at hc
        refine hc.mono ?_
        rintro e w' ⟨v,rfl,hb,hv⟩
        show K (a.put o.dst v) w'
        rw [hdst]
        rcases hv with hv | ⟨g,hg,hv⟩
        ·exact hK _ _ (hs.gain hF hT (g:=none) hd hm hb (fun q e=>by cases e) (Or.inl hv))
        ·have hglt:g < w'.heap.size:=by obtain ⟨_,_,_,_,h2,_⟩:=hv; exact (Array.getElem?_eq_some_iff.1 h2).1
         refine hK _ _ (hs.gain hF hT (g:=some g) hd hm hb (fun q e=>by cases e; exact ⟨hg,hglt⟩) (Or.inr ⟨g,if_pos rfl,hv.turn (RanX.refl _ _) (fun q hq=>Or.inl ?_) rfl⟩))
         rcases hq with hq | ⟨t,hq⟩
         ·exact Or.inl (Or.inl hq)
         ·have hq:(if t=d then some g else fr t)=some q:=hq
          by_cases c1:t=d
          ·rw [if_pos c1] at hq; cases hq; exact Or.inr rfl
          ·rw [if_neg c1] at hq; exact Or.inl (Or.inr ⟨t,hq⟩)
       ·rename_i r hno hr
        obtain ⟨r,nd⟩:=r
        obtain ⟨hd,rfl,hnd,hm⟩:=putT_some h
        have hnd:nd=true:=hnd
        subst hnd
        unfold Oper.wp
        rw [run_call hop (hsp.enter f ss r hr _ w),Oper.upon_enter]
        have hc:=hsp.calls f ss r hr (PB P0 fr) w (args.toList.map a.eval) hF.ltP (valsOf_ok _ ss _ hss (getO_voks hT args.toList))
        have ha:(args.toList.map a.eval).toArray=args.map a.eval:=by apply Array.ext'; simp
        rw [ha] at hc
        refine hc.mono ?_
        rintro e w' ⟨v,rfl,hb,hv⟩
        show K (a.put o.dst v) w'
        rw [hdst]
        exact hK _ _ (hs.put hF hT hb hd hm (fun ty l e=>by subst e; exact hv.elim) (fun t ty f e=>by subst e; exact hv.elim) (hv.ok (fun k els e=>hno k els true (by rw [e]))))
       ·cases h
      ·cases h
     ·cases h
    ·rename_i tq hcallee
     have hcallee:callee=.value (.tmp tq):=hcallee
     subst hcallee
     split at h
     ·rename_i l x y hxs
      split at h
      ·rename_i hcut
       have hargs:argsO constO T o=getO constO T (.tmp tq) :: args.toList.map (getO constO T):=by simp [argsO,hop,Op.operands,Call.operands]
       rw [hargs] at hxs
       simp only [List.cons.injEq] at hxs
       obtain ⟨h1,h2⟩:=hxs
       match hal:args.toList with
       | [u1,u2] =>
         rw [hal] at h2
         simp only [List.map_cons,List.map_nil,List.cons.injEq,and_true] at h2
         obtain ⟨h3,h4⟩:=h2
         have ha:args=#[u1,u2]:=by apply Array.ext'; simpa using hal
         subst ha
         obtain ⟨hd,rfl,hneed,hm⟩:=putT_some h
         simp only [Bool.and_eq_true,decide_eq_true_eq] at hneed
         obtain ⟨v,e1,e2⟩:=arg_one (hval _ _ _ h1)
         simp only [List.cons.injEq,and_true] at e1
         have hc:=(hcutc hcut).1 (PB P0 fr) l v x y w hF.ltP (by rw [← e1]; rw [← e1] at e2; exact e2) hneed.1.1 hneed.1.2 hneed.2
         unfold Oper.wp
         have hrun:∃ b,v=.func (.func 80) #[] #[.pointer (some ⟨b,0,none⟩)]:=by
          obtain ⟨b,lo,lc,q,_⟩:=e2
          exact ⟨b,q⟩
         obtain ⟨b,hb⟩:=hrun
         have hex:(execOp a.eval o).run Tryz.prog w=.ok (.enter 80 #[.int .i64 x,.int .i64 y,.pointer (some ⟨b,0,none⟩)]) w:=by
          have e8:a.eval (.tmp tq)=.func (.func 80) #[] #[.pointer (some ⟨b,0,none⟩)]:=by rw [e1,hb]
          simp only [execOp,hop,resolve,e8,Deferred.ofValue,Sem.run_bind,Sem.run_pure,Result.andThen_ok,invoke]
          simp [dat h3,dat h4]
         rw [hex,Oper.upon_enter]
         refine (hc b hb).mono ?_
         rintro e w' ⟨v2,rfl,hb2,hv2⟩
         show K (a.put o.dst v2) w'
         rw [hdst]
         exact hK _ _ (hs.put hF hT hb2 hd hm (fun ty l e=>by cases e) (fun t ty f e=>by cases e) hv2)
       | []=>rw [hal] at h2; simp at h2
       | [_]=>rw [hal] at h2; simp at h2
       | _ :: _ :: _ :: _=>rw [hal] at h2; simp at h2
      ·cases h
     ·rename_i s l hxs
      split at h
      ·rename_i r hr
       split at h
       ·rename_i hcut
        have hargs:argsO constO T o=getO constO T (.tmp tq) :: args.toList.map (getO constO T):=by simp [argsO,hop,Op.operands,Call.operands]
        rw [hargs] at hxs
        simp only [List.cons.injEq] at hxs
        obtain ⟨h1,h2⟩:=hxs
        match hal:args.toList with
        | [u1] =>
          rw [hal] at h2
          simp only [List.map_cons,List.map_nil,List.cons.injEq,and_true] at h2
          have ha:args=#[u1]:=by apply Array.ext'; simpa using hal
          subst ha
          obtain ⟨hd,rfl,_,hm⟩:=putT_some h
          obtain ⟨v,e1,b,hb,e2,e3,e4⟩:=arg_one (hval _ _ _ h1)
          simp only [List.cons.injEq,and_true] at e1
          obtain ⟨vs,v1,⟨_,v2⟩ | ⟨v2,_⟩⟩:=hval _ _ _ h2
          ·obtain ⟨x,rfl,_⟩:=toRl_ok hr v1
           have hc:=(hcutc hcut).2 (PB P0 fr) s r x w b hF.ltP e2 e4
           unfold Oper.wp
           have hex:(execOp a.eval o).run Tryz.prog w=.ok (.enter 82 #[.agg (r.vals x).toArray,.pointer (some ⟨b,0,none⟩)]) w:=by
            have e8:a.eval (.tmp tq)=.func (.func 82) #[] #[.pointer (some ⟨b,0,none⟩)]:=by rw [e1,hb]
            simp only [execOp,hop,resolve,e8,Deferred.ofValue,Sem.run_bind,Sem.run_pure,Result.andThen_ok,invoke]
            simp [v2]
           rw [hex,Oper.upon_enter]
           refine hc.mono ?_
           rintro e w' ⟨rfl,hb2⟩
           show K (a.put o.dst _) w'
           rw [hdst]
           exact hK _ _ (hs.put hF hT hb2 hd hm (fun ty l e=>by cases e) (fun t ty f e=>by cases e) ⟨[_],ok_dat rfl rfl,Or.inr ⟨rfl,rfl⟩⟩)
          ·cases v2
        | []=>rw [hal] at h2; simp at h2
        | _ :: _ :: _=>rw [hal] at h2; simp at h2
       ·cases h
      ·cases h
     ·cases h
    ·rename_i hcallee
     have hcallee:callee=.builtin .append:=hcallee
     subst hcallee
     split at h
     ·rename_i k els x sq y ty ty' hxs hal hts
      split at h
      ·rename_i k1 k2 els2 hk1 hels2
       split at h
       ·rename_i hb
        simp only [Bool.and_eq_true] at hb
        obtain ⟨⟨b1,b2⟩,b3⟩:=hb
        cases Nat.eq_of_beq_eq_true b1
        cases rkSame_eq b2
        cases rkSame_eq b3
        obtain ⟨hd,hmd,hms,hsd,rfl,hneed⟩:=putO_some h
        simp only [decide_eq_true_eq,List.length_append] at hneed
        have hal:args.toList=[.tmp sq,y]:=hal
        have hts:ts.toList=[ty,ty]:=hts
        have ha:args=#[.tmp sq,y]:=by apply Array.ext'; simpa using hal
        have ht:ts=#[ty,ty]:=by apply Array.ext'; simpa using hts
        subst ha ht
        have hargs:argsO constO T o=[getO constO T (.tmp sq),getO constO T y]:=by simp [argsO,hop,Op.operands,Call.operands]
        rw [hargs] at hxs
        simp only [List.cons.injEq,and_true] at hxs
        obtain ⟨h1,h2⟩:=hxs
        have hfs:=hT sq _ h1
        obtain ⟨lo,lc,hy,hsrc⟩:=elsOf_ok hels2 (arg_one (hval y _ _ h2))
        have hu:=rk_under hk1
        obtain ⟨ie,z,hi,hz,hz1,hz2,hbt⟩:=rk_bytes k
        have hks:0 < k.size:=by cases k <;> decide
        have ex1:(execOp a.eval o).run Tryz.prog w=((Builtin.append_ #[ty,ty] o.type #[a.eval (.tmp sq),a.eval y]).run Tryz.prog w).andThen fun v w=>.ok (.value v) w:=by
         simp only [execOp,hop,resolve,Sem.run_bind,Sem.run_pure,Result.andThen_ok,invoke,builtin]
         simp only [List.map_toArray,List.map_cons,List.map_nil]
        by_cases hm0:els2.length=0
        ·have he:els2=[]:=List.eq_nil_of_length_eq_zero hm0
         subst he
         have hv:∃ base n cap,a.eval (.tmp sq)=.slice base n cap∧n≤cap:=by
          rcases hfs with ⟨hn,_⟩ | ⟨g,_,cap,cur,vss,e1,_,e3,_⟩
          ·exact ⟨none,0,0,hn,Nat.le_refl _⟩
          ·exact ⟨_,_,cap,e1,e3⟩
         obtain ⟨base,n,cap,hv,hnc⟩:=hv
         simp only [List.append_nil] at h give hK
         have h3:putO p d sq k els true=some ([(d,.own k els),(sq,.any)],true,ex):=by
          unfold putO at h ⊢
          split at h
          ·rename_i hb
           rw [if_pos hb]
           simp only [Option.some.injEq,Prod.mk.injEq] at h
           obtain ⟨_,_,rfl⟩:=h
           rfl
          ·cases h
         have hy0:a.eval y=.slice lo 0 lc:=hy
         exact give hdst h1 h3 (by rw [ex1,hv,hy0,run_append_none hu hi base lo n cap lc hnc]; rfl)
        ·obtain ⟨b,off,vss2,e1,e2,e3⟩:=hsrc (by omega)
         subst e1
         have hrow:∃ vss,OkAll (PB P0 fr) w k.size els vss∧w.ownsRow 0 k.elem k.size (a.eval (.tmp sq)) els.length vss.flatten∧∀ q,(a.eval (.tmp sq)).ownBlock=some q→fr sq=some q:=by
          rcases hfs with ⟨hn,he⟩ | ⟨g,hg1,hg2⟩
          ·have hn:a.eval (.tmp sq)=.slice none 0 0:=hn
           refine ⟨[],by rw [he]; rfl,by rw [hn,he]; exact World.ownsRow_nil _ _ _ _,fun q hq=>by rw [hn] at hq; cases hq⟩
          ·obtain ⟨vss,o1,o2,o3⟩:=hg2.row
           exact ⟨vss,o1,o2,fun q hq=>by have hq2:Value.ownBlock (a.tmps.getD sq undef)=some q:=hq; rw [o3] at hq2; cases hq2; exact hg1⟩
         obtain ⟨vss,o1,o2,o3⟩:=hrow
         refine wp_append_lies w (.tmp sq) y ty hop 0 k.elem ie z k.size ie.bytes hu hi hz hz1 rfl hz2 hks (a.eval (.tmp sq)) els.length vss.flatten rfl o2 ⟨b,off,none⟩ els2.length lc vss2.flatten hy e2.len.1 (fun j u hj=>by rw [Addr.add_mid]; exact e3 j u hj) (fun u hu=>List.all_eq_true.1 e2.len.2 u hu) (by omega) (by unfold maxLen; omega) ?_ (Nat.zero_le _) w.heap.size rfl ?_
         ·have h4:(els.length + els2.length) * ie.bytes≤1000000 * 400:=Nat.mul_le_mul hneed hbt
          omega
         intro g cap w' q1 q2 q3 q4
         rw [hdst]
         rw [← List.flatten_append,← List.length_append] at q1
         rw [← List.length_append]
         have hran:RanX (PB P0 fr) w w':=⟨q2.os,q2.tape,q2.output,q2.size,fun b hb hn=>q2.block b hb (fun e=>hn ⟨Or.inr ⟨sq,o3 b e.symm⟩,hF.hi (o3 b e.symm)⟩)⟩
         refine hK _ _ (hs.take hF hT (row:=(a.eval (.tmp sq)).ownBlock) (g:=some g) hsd hd hmd hms q2 o3 (fun q e=>?_) (Or.inr ⟨g,if_pos rfl,OwnAt.of_row q1 (OkAll.append (o1.turn hran (fun q hq=>?_)) (e2.turn hran (fun q hq=>?_)))⟩))
         ·cases e
          rcases q3 with q3 | q3
          ·exact Or.inl ⟨o3 g q3,(hF.own sq g (o3 g q3)).2⟩
          ·exact Or.inr ⟨by omega,q4⟩
         all_goals
          rcases hq with hq | ⟨t,hq⟩
          ·exact Or.inl (Or.inl hq)
          ·have hq:(if t=d then some g else if t=sq then none else fr t)=some q:=hq
           by_cases c1:t=d
           ·rw [if_pos c1] at hq
            cases hq
            rcases q3 with q3 | q3
            ·exact Or.inl (Or.inr ⟨sq,o3 g q3⟩)
            ·exact Or.inr (by omega)
           ·rw [if_neg c1] at hq
            by_cases c2:t=sq
            ·simp [c2] at hq
            ·rw [if_neg c2] at hq; exact Or.inl (Or.inr ⟨t,hq⟩)
       ·cases h
      ·cases h
     ·cases h
    ·rename_i hcallee
     have hcallee:callee=.builtin .len:=hcallee
     subst hcallee
     split at h
     ·rename_i x ty hxs hts
      have hargs:argsO constO T o=args.toList.map (getO constO T):=by simp [argsO,hop,Op.operands,Call.operands]
      rw [hargs] at hxs
      match hal:args.toList with
      | [y] =>
        rw [hal] at hxs
        simp only [List.map_cons,List.map_nil,List.cons.injEq,and_true] at hxs
        have ha:args=#[y]:=by apply Array.ext'; simpa using hal
        have ht:ts=#[ty]:=by apply Array.ext'; simpa using hts
        subst ha ht
        split at h
        ·rename_i n hn
         split at h
         ·rename_i hf
          refine pure_ hdst h (v:=.int .i64 n) ?_ ⟨[_],ok_dat rfl rfl,Or.inr ⟨rfl,rfl⟩⟩
          have hv:=hval y false [x] hxs
          have hlen:=run_len_ch hn hf (arg_one hv) o.type w
          simp only [execOp,hop,resolve,Sem.run_bind,Sem.run_pure,Result.andThen_ok,invoke,builtin]
          simp only [List.map_toArray,List.map_cons,List.map_nil,hlen,Result.andThen_ok]
         ·cases h
        ·cases h
      | []=>rw [hal] at hxs; simp at hxs
      | _ :: _ :: _=>rw [hal] at hxs; simp at hxs
     ·cases h
    ·cases h
theorem St.ext [Typ.Xt] {P0:Nat→Prop} {w0:World} {p:Par} (T T':Tbl Sl) (a:Act) (w:World) (h:∀ t,look T t=look T' t) (k:St P0 w0 p T a w):St P0 w0 p T' a w :=
 ⟨k.defers,k.size,fun s t ty f hl=>by rw [← h t]; exact k.refs s t ty f ((h s).trans hl),fun t ty l hl=>k.mus t ty l ((h t).trans hl),by obtain ⟨fr,h1,h2⟩:=k.ex; exact ⟨fr,h1,fun t x hx=>h2 t x ((h t).trans hx)⟩⟩
theorem St.drawn [Typ.Xt] {P0:Nat→Prop} {w0:World} {p:Par} (T:Tbl Sl) (a:Act) (w:World) (k:St P0 w0 p T a w):St P0 w0 p T a { w with drawn:=w.drawn + 1 }:=by
 obtain ⟨fr,h1,h2⟩:=k.ex
 have hb:Below w.heap.size w { w with drawn:=w.drawn + 1 }:=⟨rfl,rfl,rfl,Nat.le_refl _,fun _ _=>rfl⟩
 exact ⟨k.defers,k.size,k.refs,k.mus,fr,⟨h1.old,h1.inj,h1.own,h1.bel.trans (hb.mono h1.bel.size)⟩,fun t x hx=>(h2 t x hx).turn (RanX.of_below hb) (fun q a=>Or.inl a) rfl (fun _ _ _ _=>rfl) (fun b hb=>rfl)⟩
theorem St.junk [Typ.Xt] {P0:Nat→Prop} {w0:World} {p:Par} (T:Tbl Sl) (d:Nat) (a:Act) (w:World) (hd:p.isM d=false) (k:St P0 w0 p T a w):St P0 w0 p (app [(d,.any)] T) (a.put (some d) undef) w:=by
 obtain ⟨fr,h1,h2⟩:=k.ex
 exact St.go k h2 (by simp [Act.put,k.defers]) (by simp [Act.put,k.size]) h1 (RanX.refl _ _) (fun q a=>Or.inl a) (fun _ _ _ _ _=>rfl) (Or.inl rfl) (fun _ _ _ _ _ _ _=>rfl) (fun t ht=>put_ne ht) (Or.inr ⟨(fun ty l e=>by cases e),hd⟩) (fun t ty f e=>by cases e) trivial
def boolOf:Sl→Option Bool
 | .val false [.dat (.bool b)]=>some b
 | _=>none
theorem boolOf_eq {x:Sl} {b:Bool} (h:boolOf x=some b):x=.val false [.dat (.bool b)]:=by
 unfold boolOf at h
 split at h
 ·cases h; rfl
 ·cases h
theorem St.bool [Typ.Xt] {P0:Nat→Prop} {w0:World} {p:Par} (T:Tbl Sl) (t:Nat) (x:Sl) (b:Bool) (a:Act) (w:World) (hx:look T t=some x) (hb:boolOf x=some b) (k:St P0 w0 p T a w):a.tmps[t]?=some (.bool b):=by
 obtain ⟨fr,h1,h2⟩:=k.ex
 cases boolOf_eq hb
 have h3:=arg_dat (h2 t _ hx)
 rcases Nat.lt_or_ge t a.tmps.size with hlt | hge
 ·rw [Array.getElem?_eq_getElem hlt]
  simpa [Array.getD_eq_getD_getElem?,hlt] using h3
 ·simp [Array.getD_eq_getD_getElem?,Array.getElem?_eq_none hge,undef] at h3
theorem St.cond [Typ.Xt] {P0:Nat→Prop} {w0:World} {p:Par} (T:Tbl Sl) (x:Operand) (v:Sl) (b:Bool) (a:Act) (w:World) (hx:getO constO T x=some v) (hb:boolOf v=some b) (k:St P0 w0 p T a w):a.eval x=.bool b:=by
 obtain ⟨fr,h1,h2⟩:=k.ex
 cases boolOf_eq hb
 exact arg_dat (getO_val h2 x _ _ hx)
noncomputable def jud (p:Par):Tr Sl:=⟨constO,tr p,boolOf,.any,fun d=>!p.isM d⟩
theorem code_ok [Typ.Xt] {p:Par} (hsp:ParOk p) (hm:Tryz.prog.follows .mixedOrders=true) {P0:Nat→Prop} {w0:World} (x:Code) (T T':Tbl Sl) (e:Lv') (ns:List Bool) (Q:Exit→Act→World→Prop) (a:Act) (w:World) (h:chkC (jud p) x T=some (T',e,ns)) (hns:ns.all (fun b=>b)=true) (hs:St P0 w0 p T a w) (hQ:∀ a' w',St P0 w0 p T' a' w'→Q e.to a' w'):x.wp Tryz.prog Q a w :=
 chk_sound (J:=jud p) (St:=St P0 w0 p) hm (fun T T' a w=>St.ext T T' a w) (fun T a w=>St.drawn T a w) (fun T t x b a w=>St.bool T t x b a w) (fun T d a w hd=>St.junk T d a w (by have h2:(!p.isM d)=true:=hd; simpa using h2)) (fun T x v b a w=>St.cond T x v b a w) (fun o xs lk lk' r h=>tr_lk o xs lk lk' r h) (fun Q T o u ex a w K=>step hsp Q T o u ex a w K) x T T' e ns Q a w h hns hs hQ
def paramsT:Nat→List (Bool × List Ch)→Tbl Sl
 | _,[]=>[]
 | k,s :: r=>(k,.val s.1 s.2) :: paramsT (k + 1) r
theorem paramsT_ok [Typ.Xt] {P:Nat→Prop} {w:World}:∀ (ss:List (Bool × List Ch)) (vs:List Value) (k t:Nat) (x:Sl),VArgs P w ss vs→look (paramsT k ss) t=some x→∃ s l,x=.val s l∧k≤t∧∃ v,vs[t - k]?=some v∧VOk P w s l v
 | [],_,_,_,_,_,h=>by simp [paramsT,look] at h
 | s :: r,_,k,t,x,⟨v,y,rfl,h1,h2⟩,h=>by
   unfold paramsT look at h
   split at h
   ·rename_i hb
    cases h
    cases Nat.eq_of_beq_eq_true hb
    exact ⟨_,_,rfl,Nat.le_refl _,v,by simp,h1⟩
   ·obtain ⟨s2,l2,e1,e2,v2,e3,e4⟩:=paramsT_ok r y (k + 1) t x h2 h
    exact ⟨s2,l2,e1,by omega,v2,by rw [show t - k=(t - (k + 1)) + 1 by omega,List.getElem?_cons_succ]; exact e3,e4⟩
theorem VArgs.len [Typ.Xt] {P:Nat→Prop} {w:World}:∀ {ss:List (Bool × List Ch)} {vs:List Value},VArgs P w ss vs→vs.length=ss.length
 | [],_,h=>by cases h; rfl
 | _ :: _,_,⟨_,_,h1,_,h3⟩=>by subst h1; simp [VArgs.len h3]
theorem start_ok [Typ.Xt] {P:Nat→Prop} {w:World} {p:Par} {ss:List (Bool × List Ch)} {vs:List Value} (hP:Typ.Lt P w) (hv:VArgs P w ss vs) (hl:ss.length≤p.n) :
 St P w p (paramsT 0 ss) { tmps:=vs.toArray ++ Array.replicate (p.n - vs.toArray.size) undef,defers:=[] } w:=by
 have hlen:=hv.len
 have nov:∀ {t:Nat} {x:Sl},look (paramsT 0 ss) t=some x→∃ s l,x=.val s l:=fun hx=>by
  obtain ⟨s2,l2,e,_⟩:=paramsT_ok ss vs 0 _ _ hv hx
  exact ⟨s2,l2,e⟩
 refine ⟨rfl,by simp; omega,(fun s t ty f hl=>by obtain ⟨_,_,e⟩:=nov hl; cases e),(fun t ty l hl=>by obtain ⟨_,_,e⟩:=nov hl; cases e),fun _=>none,⟨hP,(fun t t' q a=>by cases a),(fun t q a=>by cases a),Below.refl _ _⟩,fun t x hx=>?_⟩
 obtain ⟨s2,l2,rfl,_,v,e3,e4⟩:=paramsT_ok ss vs 0 t x hv hx
 have hlt:=(List.getElem?_eq_some_iff.1 e3).1
 have:(vs.toArray ++ Array.replicate (p.n - vs.toArray.size) undef).getD t undef=v:=by
  rw [Nat.sub_zero] at e3 hlt
  simp [Array.getD_eq_getD_getElem?,Array.getElem?_append,hlt] at e3 ⊢
  exact e3
 show VOk _ _ _ _ _
 rw [this]
 exact e4.turn (RanX.refl _ _) (fun q hq=>Or.inl (hq.elim id (fun ⟨t,a⟩=>(by cases a))))
def resOf (T:Tbl Sl):ResultVar→Option (Bool × List Ch)
 | .tmp t=>match look T t with
   | some (.val s l)=>some (s,l)
   | _=>none
 | .cell t ty=>match look T t,zst ty with
   | some (.var ty' l),some Z=>if Nat.beq ty ty' && Nat.beq (tot l) (tot Z) then some (true,l) else none
   | some (.mvar ty' l),some Z=>if Nat.beq ty ty' && Nat.beq (tot l) (tot Z) then some (true,l) else none
   | _,_=>none
def resAll (T:Tbl Sl):List ResultVar→Option (List (Bool × List Ch))
 | []=>some []
 | r :: rs=>match resOf T r,resAll T rs with
   | some x,some xs=>some (x :: xs)
   | _,_=>none
def resVs (T:Tbl Sl) (rs:List ResultVar):Option Sl:=match resAll T rs with
 | some [x]=>some (.val x.1 x.2)
 | some xs=>some (.tup xs)
 | none=>none
def resSl (T:Tbl Sl) (rs:List ResultVar):Option Sl:=match rs with
 | [.tmp t]=>match look T t with
   | some (.own k els)=>some (.own k els)
   | _=>resVs T rs
 | _=>resVs T rs
def resF (tmps:Array Value):ResultVar→Sem Value
 | .tmp t=>pure (tmps.getD t undef)
 | .cell b t=>do loadVar t (← asAddr (tmps.getD b undef))
theorem St.res [Typ.Xt] {P0:Nat→Prop} {w0:World} {p:Par} {T:Tbl Sl} {a:Act} {w:World} (k:St P0 w0 p T a w) {r:ResultVar} {x:Bool × List Ch} (h:resOf T r=some x) :
 ∃ v,(resF a.tmps r).run Tryz.prog w=.ok v w∧VOk P0 w x.1 x.2 v:=by
 obtain ⟨fr,h1,h2⟩:=k.ex
 have down:∀ {s l v},VOk (PB P0 fr) w s l v→VOk P0 w s l v:=fun h=>h.turn (RanX.refl _ _) (fun q hq=>Or.inl (Or.inl hq))
 unfold resOf at h
 split at h
 ·split at h
  ·rename_i t s l hl
   cases h
   exact ⟨_,Sem.run_pure ..,down (h2 _ _ hl)⟩
  ·cases h
 ·rename_i t ty
  split at h
  ·rename_i ty' l Z hl hZ
   split at h
   ·rename_i hb
    cases h
    simp only [Bool.and_eq_true] at hb
    obtain ⟨b1,b2⟩:=hb
    cases Nat.eq_of_beq_eq_true b1
    have b2:=Nat.eq_of_beq_eq_true b2
    obtain ⟨b,vs,e1,e2,e3,e4⟩:=h2 t _ hl
    obtain ⟨dd,hu,hds⟩:=ty_st hZ
    refine ⟨.agg vs.toArray,?_,down ⟨vs,e4,Or.inl ⟨rfl,rfl⟩⟩⟩
    simp only [resF,e1,asAddr,Sem.run_bind,Sem.run_pure,Result.andThen_ok]
    exact run_loadVar_row w b ty ty vs.toArray (0,0) dd e3 hu (by cases dd <;> first | rfl | cases hds) (by rw [ty_size hZ]; have:=e4.len.1; simp; omega)
   ·cases h
  ·rename_i ty' l Z hl hZ
   split at h
   ·rename_i hb
    cases h
    simp only [Bool.and_eq_true] at hb
    obtain ⟨b1,b2⟩:=hb
    cases Nat.eq_of_beq_eq_true b1
    have b2:=Nat.eq_of_beq_eq_true b2
    obtain ⟨b,vs,e1,e2,e3,e4⟩:=h2 t _ hl
    obtain ⟨dd,hu,hds⟩:=ty_st hZ
    refine ⟨.agg vs.toArray,?_,down ⟨vs,e4,Or.inl ⟨rfl,rfl⟩⟩⟩
    simp only [resF,e1,asAddr,Sem.run_bind,Sem.run_pure,Result.andThen_ok]
    exact run_loadVar_row w b ty ty vs.toArray (0,0) dd e3 hu (by cases dd <;> first | rfl | cases hds) (by rw [ty_size hZ]; have:=e4.len.1; simp; omega)
   ·cases h
  ·cases h
theorem St.resAll [Typ.Xt] {P0:Nat→Prop} {w0:World} {p:Par} {T:Tbl Sl} {a:Act} {w:World} (k:St P0 w0 p T a w):∀ (rs:List ResultVar) (xs:List (Bool × List Ch)),Typ.resAll T rs=some xs →
 ∃ vs,(rs.mapM (resF a.tmps)).run Tryz.prog w=.ok vs w∧VArgs P0 w xs vs
 | [],xs,h=>by
   simp only [Typ.resAll,Option.some.injEq] at h
   subst h
   exact ⟨[],by simp,rfl⟩
 | r :: rs,xs,h=>by
   unfold Typ.resAll at h
   split at h
   ·rename_i x ys hx hys
    cases h
    obtain ⟨v,e1,e2⟩:=k.res hx
    obtain ⟨vs,e3,e4⟩:=k.resAll rs ys hys
    refine ⟨v :: vs,?_,v,vs,rfl,e2,e4⟩
    rw [List.mapM_cons,Sem.run_bind,e1]
    simp only [Result.andThen_ok,Sem.run_bind,e3,Sem.run_pure]
   ·cases h
theorem St.resultsV [Typ.Xt] {P0:Nat→Prop} {w0:World} {p:Par} {T:Tbl Sl} {a:Act} {w:World} {fn:Func} {r:Sl} (k:St P0 w0 p T a w) (h:resVs T fn.results.toList=some r):∃ v,(Go.results fn a.tmps).run Tryz.prog w=.ok v w∧ROk P0 w0.heap.size w r v:=by
 unfold resVs at h
 have main:∀ xs,Typ.resAll T fn.results.toList=some xs→∃ vs,VArgs P0 w xs vs∧(Go.results fn a.tmps).run Tryz.prog w=.ok (if h:vs.toArray.size=1 then vs.toArray[0] else .tuple vs.toArray) w:=by
  intro xs hx
  obtain ⟨vs,e1,e2⟩:=k.resAll _ xs hx
  refine ⟨vs,e2,?_⟩
  have e0:Go.results fn a.tmps=(do let vs ← fn.results.mapM (resF a.tmps); pure (if h:vs.size=1 then vs[0] else .tuple vs)):=by
   unfold Go.results
   congr 2
  rw [e0,Array.mapM_eq_mapM_toList]
  simp only [Sem.run_bind,map_eq_pure_bind,e1,Result.andThen_ok,Sem.run_pure]
 split at h
 ·rename_i x hx
  cases h
  obtain ⟨vs,e1,e2⟩:=main _ hx
  obtain ⟨v,y,rfl,h1,rfl⟩:=e1
  exact ⟨v,by rw [e2]; rfl,h1⟩
 ·rename_i xs hne hx
  cases h
  obtain ⟨vs,e1,e2⟩:=main _ hx
  have hl:=e1.len
  refine ⟨.tuple vs.toArray,?_,vs,rfl,e1⟩
  rw [e2,dif_neg]
  intro h1
  match xs,hl with
  | [x],_=>exact hne x rfl
  | [],h0=>simp at h1; rw [h0] at h1; simp at h1
  | _ :: _ :: _,h0=>simp at h1; rw [h0] at h1; simp at h1
 ·cases h
theorem St.results [Typ.Xt] {P0:Nat→Prop} {w0:World} {p:Par} {T:Tbl Sl} {a:Act} {w:World} {fn:Func} {r:Sl} (k:St P0 w0 p T a w) (h:resSl T fn.results.toList=some r):∃ v,(Go.results fn a.tmps).run Tryz.prog w=.ok v w∧ROk P0 w0.heap.size w r v:=by
 unfold resSl at h
 split at h
 ·rename_i t hrs
  split at h
  ·rename_i k2 els hl
   cases h
   obtain ⟨fr,hF,hT⟩:=k.ex
   have hres:fn.results=#[.tmp t]:=by apply Array.ext'; simpa using hrs
   refine ⟨a.tmps.getD t undef,results_tmp hres _ _ _,?_⟩
   rcases hT t _ hl with hn | ⟨g,h1,h2⟩
   ·exact Or.inl hn
   ·exact Or.inr ⟨g,(hF.own t g h1).1,h2.turn (RanX.refl _ _) (fun q hq=>Or.inl (hq.elim Or.inl (fun e=>Or.inr ⟨t,by rw [e]; exact h1⟩))) rfl⟩
  ·exact k.resultsV h
 ·exact k.resultsV h
def frz (k:RK) (els:List (List Ch)):Option Ch:=match k with
 | .tms=>match els.mapM toTm with
   | some l=>some (.tmsC l)
   | none=>none
 | .infs=>match els.mapM toInf with
   | some l=>some (.infs l)
   | none=>none
 | _=>none
theorem OkAll.at_ [Typ.Xt] {P:Nat→Prop} {w:World} {n:Nat}:∀ {els:List (List Ch)} {vss:List (List Value)},OkAll P w n els vss→∀ i (hi:i < els.length),∃ vs,Typ.Ok P w els[i] vs∧vs.length=n∧∀ j u,vs[j]?=some u→vss.flatten[i * n + j]?=some u
 | [],_,_,i,hi=>by simp at hi
 | _ :: _,_,⟨x,y,h1,h2,h3,h4⟩,0,_=>by
   subst h1
   refine ⟨x,h2,h3,fun j u hu=>?_⟩
   rw [List.flatten_cons,Nat.zero_mul,Nat.zero_add,List.getElem?_append_left (List.getElem?_eq_some_iff.1 hu).1]
   exact hu
 | _ :: _,_,⟨x,y,h1,h2,h3,h4⟩,i + 1,hi=>by
   subst h1
   obtain ⟨vs,a,b,c⟩:=OkAll.at_ h4 i (by simpa using hi)
   refine ⟨vs,by simpa using a,b,fun j u hu=>?_⟩
   rw [List.flatten_cons,List.getElem?_append_right (by rw [h3,Nat.add_mul,Nat.one_mul]; omega),show (i + 1) * n + j - x.length=i * n + j by rw [h3,Nat.add_mul,Nat.one_mul]; omega]
   exact c j u hu
theorem mapM_at {α:Type} {f:List Ch→Option α}:∀ {els:List (List Ch)} {l:List α},els.mapM f=some l→els.length=l.length∧∀ i (hi:i < els.length) (hj:i < l.length),f els[i]=some l[i]
 | [],l,h=>by
   simp at h
   subst h
   exact ⟨rfl,fun i hi=>by simp at hi⟩
 | e :: r,l,h=>by
   rw [List.mapM_cons] at h
   cases he:f e with
   | none=>simp [he] at h
   | some x =>
     cases hr:r.mapM f with
     | none=>simp [he,hr] at h
     | some xs =>
       simp [he,hr] at h
       subst h
       obtain ⟨h1,h2⟩:=mapM_at hr
       refine ⟨by simp [h1],fun i hi hj=>?_⟩
       cases i with
       | zero=>exact he
       | succ i=>exact h2 i (by simpa using hi) (by simpa using hj)
theorem frz_ok [Typ.Xt] {P:Nat→Prop} {w:World} {k:RK} {els:List (List Ch)} {c:Ch} {v:Value} {g:Nat} (h:frz k els=some c) (ho:OwnAt P w k els v g) (hn:¬ P g):c.Ok P w [v]:=by
 obtain ⟨cap,cur,vss,rfl,h2,h3,h4,h5,h6,h7⟩:=ho
 have hlt:=(Array.getElem?_eq_some_iff.1 h2).1
 have at_:∀ i (hi:i < els.length),∃ vs,Typ.Ok P w els[i] vs∧vs.length=k.size∧w.rangeAt g (0 + i * k.size) vs:=fun i hi=>by
  obtain ⟨vs,a,b,c⟩:=h7.at_ i hi
  refine ⟨vs,a,b,fun j u hu=>?_⟩
  have hj:j < k.size:=by rw [← b]; exact (List.getElem?_eq_some_iff.1 hu).1
  have hb:i * k.size + j < els.length * k.size:=by
   have:(i + 1) * k.size≤els.length * k.size:=Nat.mul_le_mul_right _ hi
   rw [Nat.add_mul,Nat.one_mul] at this
   omega
  have h8:=c j u hu
  rw [← h6,List.getElem?_take_of_lt hb,Array.getElem?_toList] at h8
  rw [Nat.zero_add]
  simpa [World.cell?,h2] using h8
 unfold frz at h
 split at h
 ·split at h
  ·rename_i l hl
   cases h
   obtain ⟨m1,m2⟩:=mapM_at hl
   refine ⟨_,_,by rw [m1],fun i hi=>?_,by omega⟩
   obtain ⟨vs,a,b,r⟩:=at_ i (by omega)
   obtain ⟨x,rfl,f⟩:=toTm_ok (m2 i (by omega) hi) a
   exact ⟨g,0,rfl,hlt,hn,x,cells_of_range r,f⟩
  ·cases h
 ·split at h
  ·rename_i l hl
   cases h
   obtain ⟨m1,m2⟩:=mapM_at hl
   refine ⟨_,_,by rw [m1],⟨fun i hi=>?_⟩⟩
   obtain ⟨vs,a,b,r⟩:=at_ i (by omega)
   obtain ⟨x,rfl,f⟩:=toInf_ok (m2 i (by omega) hi) a
   exact ⟨g,0,x,rfl,hlt,hn,r,f⟩
  ·cases h
 ·cases h
theorem frz_nil [Typ.Xt] {P:Nat→Prop} {w:World} {k:RK} {els:List (List Ch)} {c:Ch} {v:Value} (h:frz k els=some c) (ho:nilRow els v):c.Ok P w [v]:=by
 obtain ⟨rfl,rfl⟩:=ho
 unfold frz at h
 split at h
 ·cases h
  exact ⟨none,0,rfl,(fun i hi=>by simp at hi),by simp⟩
 ·cases h
  exact ⟨none,0,rfl,⟨fun i hi=>by simp at hi⟩⟩
 ·cases h
theorem MadeV.freeze [Typ.Xt] {P:Nat→Prop} {w:World} {k:RK} {els:List (List Ch)} {c:Ch} {e:Ending} {w':World} (hP:Typ.Lt P w) (hf:frz k els=some c) (h:MadeV P w (.own k els) e w'):MadeV P w (.val false [c]) e w':=by
 obtain ⟨v,h1,h2,h3⟩:=h
 have hc:c.Ok P w' [v]:=by
  rcases h3 with h3 | ⟨g,hg,h3⟩
  ·exact frz_nil hf h3
  ·exact frz_ok hf (h3.turn (RanX.refl _ _) (fun q a=>Or.inl (Or.inl a)) rfl) (fun a=>by have:=hP.lt g a; omega)
 exact ⟨v,h1,h2,[v],⟨[v],[],rfl,hc,rfl⟩,Or.inr ⟨rfl,rfl⟩⟩
noncomputable def fnRes (p:Par) (c:Code) (rs:List ResultVar) (ss:List (Bool × List Ch)):Option (Sl × Bool):=match chkC (jud p) c (paramsT 0 ss) with
 | some (_,.exit _,_)=>none
 | some (T,_,need)=>match resSl T rs with
   | some r=>some (r,need.all (fun b=>b))
   | none=>none
 | none=>none
theorem fn_ok [Typ.Xt] {p:Par} (hsp:ParOk p) {f:FuncId} {fn:Func} {c:Code} {rs:List ResultVar} (hf:Tryz.prog.funcs[f]?=some fn) (hb:fn.body=some c) (hn:fn.ntmps=p.n) (hres:fn.results.toList=rs) (hm:Tryz.prog.follows .mixedOrders=true)
 {ss:List (Bool × List Ch)} {r:Sl} (hl:ss.length≤p.n) (h:fnRes p c rs ss=some (r,true)) (P:Nat→Prop) (w:World) (vs:List Value) (hP:Typ.Lt P w) (hv:VArgs P w ss vs) :
 Calls Tryz.prog f vs.toArray w (MadeV P w r):=by
 have hlen:=hv.len
 refine calls_of_wp hf hb ?_
 unfold fnRes at h
 have main:∀ (T:Tbl Sl) (e:Lv') (ns:List Bool),chkC (jud p) c (paramsT 0 ss)=some (T,e,ns)→ns.all (fun b=>b)=true→(e=.normal∨e=.ret)→resSl T rs=some r→c.wp Tryz.prog (bodyPost Tryz.prog fn (MadeV P w r)) { tmps:=vs.toArray ++ Array.replicate (fn.ntmps - vs.toArray.size) undef,defers:=[] } w:=by
  intro T e ns hc hns he hrs
  rw [hn]
  refine code_ok hsp hm (P0:=P) (w0:=w) c _ T e ns _ _ w hc hns (start_ok hP hv hl) (fun a' w' hs=>?_)
  ·obtain ⟨v,e1,e2⟩:=hs.results (fn:=fn) (by rw [hres]; exact hrs)
   obtain ⟨fr,hF,hT⟩:=hs.ex
   have post:bodyPost Tryz.prog fn (MadeV P w r) .ret a' w':=⟨hs.defers,v,e1,_,rfl,hF.bel,e2⟩
   rcases he with rfl | rfl
   ·exact post
   ·exact post
 split at h
 ·cases h
 ·rename_i T e need hne hc
  split at h
  ·rename_i r2 hr2
   simp only [Option.some.injEq,Prod.mk.injEq] at h
   obtain ⟨rfl,hn⟩:=h
   refine main T e need hc hn ?_ hr2
   cases e with
   | normal=>exact Or.inl rfl
   | ret=>exact Or.inr rfl
   | exit id=>exact (hne _ rfl).elim
  ·cases h
 ·cases h
def refsB (T:Tbl Sl):Bool:=T.all fun q=>match q.2 with
 | .mfld t _ _=>match look T t with
   | some (.mvar _ _)=>true
   | _=>false
 | _=>true
theorem look_mem:∀ {T:Tbl Sl} {s:Nat} {x:Sl},look T s=some x→(s,x) ∈ T
 | [],_,_,h=>by cases h
 | p :: r,s,x,h=>by
   unfold look at h
   split at h
   ·rename_i hb
    cases h
    rw [← Nat.eq_of_beq_eq_true hb]
    exact List.mem_cons_self
   ·exact List.mem_cons_of_mem _ (look_mem h)
theorem refsB_ok {T:Tbl Sl} (h:refsB T=true):∀ s t ty f,look T s=some (.mfld t ty f)→∃ ty' l,look T t=some (.mvar ty' l):=fun s t ty f hl=>by
 have h1:=List.all_eq_true.1 h _ (look_mem hl)
 dsimp only at h1
 split at h1
 ·rename_i ty' l hl2
  exact ⟨ty',l,hl2⟩
 ·cases h1
theorem St.weak [Typ.Xt] {P0:Nat→Prop} {w0:World} {p:Par} {T T':Tbl Sl} {a:Act} {w:World} (k:St P0 w0 p T a w) (h:T'.map (fun q=>look T q.1)=T'.map (fun q=>some q.2)) (hrf:refsB T'=true):St P0 w0 p T' a w:=by
 obtain ⟨fr,h1,h2⟩:=k.ex
 have sub:∀ {t:Nat} {x:Sl} (T':Tbl Sl),T'.map (fun q=>look T q.1)=T'.map (fun q=>some q.2)→look T' t=some x→look T t=some x:=by
  intro t x T'
  induction T' with
  | nil=>intro _ h; cases h
  | cons p r ih =>
    intro e hl
    simp only [List.map_cons,List.cons.injEq] at e
    unfold look at hl
    split at hl
    ·rename_i hb
     cases hl
     rw [← Nat.eq_of_beq_eq_true hb]
     exact e.1
    ·exact ih e.2 hl
 exact ⟨k.defers,k.size,refsB_ok hrf,fun t ty l hl=>k.mus t ty l (sub T' h hl),fr,h1,fun t x hx=>h2 t x (sub T' h hx)⟩
noncomputable def chkTo (p:Par) (x:Code) (T T':Tbl Sl):Option (Lv' × Bool × List (Option Sl)):=match chkC (jud p) x T with
 | some (X,e,need)=>some (e,need.all (fun b=>b),T'.map (fun q=>look X q.1))
 | none=>none
theorem piece_ok [Typ.Xt] {p:Par} (hsp:ParOk p) (hm:Tryz.prog.follows .mixedOrders=true) {P0:Nat→Prop} {w0:World} {x:Code} {T T':Tbl Sl} {e:Lv'} {need:Bool} (h:chkTo p x T T'=some (e,need,T'.map (fun q=>some q.2))) (hneed:need=true) {Q:Exit→Act→World→Prop} {a:Act} {w:World} (hs:St P0 w0 p T a w) (hQ:∀ a' w',St P0 w0 p T' a' w'→Q e.to a' w') (hrf:refsB T'=true:=by rfl):x.wp Tryz.prog Q a w:=by
 unfold chkTo at h
 split at h
 ·rename_i X e2 n2 hc
  simp only [Option.some.injEq,Prod.mk.injEq] at h
  obtain ⟨rfl,rfl,h3⟩:=h
  exact code_ok hsp hm x T X e2 n2 Q a w hc hneed hs (fun a' w' k=>hQ a' w' (k.weak h3 hrf))
 ·cases h
theorem St.post [Typ.Xt] {P0:Nat→Prop} {w0:World} {p:Par} {T:Tbl Sl} {a:Act} {w:World} {fn:Func} {r:Sl} (k:St P0 w0 p T a w) (h:resSl T fn.results.toList=some r):bodyPost Tryz.prog fn (MadeV P0 w0 r) .ret a w:=by
 obtain ⟨v,e1,e2⟩:=k.results h
 obtain ⟨fr,hF,hT⟩:=k.ex
 exact ⟨k.defers,v,e1,_,rfl,hF.bel,e2⟩
theorem tail_ok [Typ.Xt] {p:Par} (hsp:ParOk p) (hm:Tryz.prog.follows .mixedOrders=true) {P0:Nat→Prop} {w0:World} {x:Code} {T:Tbl Sl} {fn:Func} {rs:List ResultVar} {r:Sl} {need:Bool} (hres:fn.results.toList=rs) (h:(match chkC (jud p) x T with | some (_,.exit _,_)=>none | some (X,_,ns)=>(resSl X rs).map (fun r=>(r,ns.all (fun b=>b))) | none=>none)=some (r,need)) (hneed:need=true) {a:Act} {w:World} (hs:St P0 w0 p T a w) :
 x.wp Tryz.prog (bodyPost Tryz.prog fn (MadeV P0 w0 r)) a w:=by
 split at h
 ·cases h
 ·rename_i X e ns hne hc
  cases hr:resSl X rs with
  | none=>simp [hr] at h
  | some r2 =>
    simp only [hr,Option.map_some,Option.some.injEq,Prod.mk.injEq] at h
    obtain ⟨rfl,hn⟩:=h
    refine code_ok hsp hm x T X e ns _ a w hc (by rw [hn]; exact hneed) hs fun a' w' k=>?_
    have post:=k.post (fn:=fn) (by rw [hres]; exact hr)
    cases e with
    | normal=>exact post
    | ret=>exact post
    | exit id=>exact (hne _ rfl).elim
 ·cases h
end Typ
end Go.Proofs.YtmngddomnaaedaaGreat
