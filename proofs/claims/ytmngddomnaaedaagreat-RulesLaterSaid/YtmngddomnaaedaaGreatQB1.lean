/-
 Regions whose operations may come up in any order: what is known of each slot behind them is reckoned in the text's order,once.
-/
import Derived.Lib.Hide
import Derived.Test.YtmngddomnaaedaaGreatProg
import Derived.OrdersHeld
import Derived.WalkKit
open Go.Lib (hid)
set_option maxRecDepth 100000
set_option maxHeartbeats 32000000
namespace Go.Proofs.YtmngddomnaaedaaGreat
theorem zqT {α:Type} {xs:List α} {i:Nat} (h:i < xs.toArray.size):xs.toArray[i]=xs[i]'h:=rfl
theorem zqS {α:Type} {a:α} {l:List α} {i:Nat} (h:i + 1 < (a :: l).length):(a :: l)[i + 1]=l[i]'(Nat.lt_of_succ_lt_succ h):=rfl
theorem zqZ {α:Type} {a:α} {l:List α} (h:0 < (a :: l).length):(a :: l)[0]=a:=rfl
theorem zqB {α:Type} (l:List α) (i:Nat) (a:α):l.toArray.setIfInBounds i a=(l.set i a).toArray:=List.setIfInBounds_toArray l i a
theorem zq0 {α:Type} {x:α} {xs:List α} {a:α}:(x :: xs).set 0 a=a :: xs:=rfl
theorem zq1 {α:Type} {x:α} {xs:List α} {n:Nat} {a:α}:(x :: xs).set (n + 1) a=x :: xs.set n a:=rfl
end Go.Proofs.YtmngddomnaaedaaGreat
namespace Go.Proofs.YtmngddomnaaedaaGreat
namespace Typ
section
variable {α:Type}
abbrev Tbl (α:Type):=List (Nat × α)
abbrev Upd (α:Type):=List (Nat × α)
def look:Tbl α→Nat→Option α
 | [],_=>none
 | p :: r,t=>if p.1.beq t then some p.2 else look r t
def app (u:Upd α) (T:Tbl α):Tbl α:=u ++ T
def getO (c:Operand→Option α) (T:Tbl α):Operand→Option α
 | .tmp t=>look T t
 | x=>c x
def argsO (c:Operand→Option α) (T:Tbl α) (o:Oper):List (Option α):=o.op.operands.toList.map (getO c T)
def gslot (ops:List Oper) (o:Oper):Option Nat:=match o.guard with
 | some (g,_)=>match ops[g]? with
   | some og=>og.dst
   | none=>none
 | none=>none
structure Tr (α:Type) where
 c:Operand→Option α
 tr:Oper→List (Option α)→(Nat→Option α)→Option (Upd α × Bool × List Nat)
 b:α→Option Bool
 junk:α
 jk:Nat→Bool
def doneT (J:Tr α) (o:Oper) (g:Option (Option α)) (xs:List (Option α)) (lk:Nat→Option α):Option (Upd α × Bool × List Nat):=match o.guard with
 | none=>J.tr o xs lk
 | some (_,want)=>match g with
   | some (some x)=>match J.b x with
     | some b=>if b == want then J.tr o xs lk else match o.dst with
       | some d=>if J.jk d then some ([(d,J.junk)],true,[]) else none
       | none=>some ([],true,[])
     | none=>none
   | _=>none
def gat (all:List Oper) (T:Tbl α) (o:Oper):Option (Option α):=(gslot all o).map (look T)
abbrev Eff (α:Type):=Upd α × List Nat
def run (J:Tr α) (all:List Oper):List Oper→Tbl α→Option (List (Eff α) × List Bool)
 | [],_=>some ([],[])
 | o :: r,T=>match doneT J o (gat all T o) (argsO J.c T o) (look T) with
   | none=>none
   | some u=>match run J all r (app u.1 T) with
     | none=>none
     | some us=>some ((u.1,u.2.2) :: us.1,u.2.1 :: us.2)
def curT:List (Eff α)→(Nat→Bool)→Nat→Tbl α→Tbl α
 | [],_,_,T=>T
 | u :: us,L,k,T=>curT us L (k + 1) (if L k then app u.1 T else T)
def hits (u:Upd α) (t:Nat):Bool:=u.any fun p=>p.1.beq t
def reads (ops:List Oper) (o:Oper) (t:Nat):Bool:=(o.op.operands.toList.any fun x=>match x with
 | .tmp u=>u.beq t
 | _=>false) || match gslot ops o with
 | some g=>g.beq t
 | none=>false
def edge (o:Oper) (i:Nat):Bool:=o.after.toList.any fun e=>Region.binds .any e && e.on.beq i
def also (l:List Nat) (t:Nat):Bool:=l.any fun u=>u.beq t
def clash (ops:List Oper) (oi oj:Oper) (ui uj:Eff α):Bool :=
 (ui.1.any fun p=>reads ops oj p.1 || (also uj.2 p.1 || hits uj.1 p.1)) || (uj.1.any fun p=>reads ops oi p.1 || also ui.2 p.1)
def pairs (ops:List Oper) (us:List (Eff α)):Bool :=
 (List.range ops.length).all fun j=>match ops[j]?,us[j]? with
   | some oj,some uj=>(oj.after.toList.all fun e=>!Region.binds .any e || decide (e.on < j)) && (List.range j).all fun i=>match ops[i]?,us[i]? with
     | some oi,some ui=>!clash ops oi oj ui uj || edge oj i
     | _,_=>false
   | _,_=>false
theorem look_app_ne:∀ {u:Upd α} {T:Tbl α} {t:Nat},hits u t=false→look (app u T) t=look T t
 | [],_,_,_=>rfl
 | p :: r,T,t,h=>by
   simp only [hits,List.any_cons,Bool.or_eq_false_iff] at h
   show (if p.1.beq t then some p.2 else look (r ++ T) t)=look T t
   rw [h.1,if_neg (by simp)]
   exact look_app_ne (u:=r) h.2
theorem look_app_hit:∀ {u:Upd α} {T T':Tbl α} {t:Nat},hits u t=true→look (app u T) t=look (app u T') t
 | [],_,_,_,h=>by simp [hits] at h
 | p :: r,T,T',t,h=>by
   show (if p.1.beq t then some p.2 else look (r ++ T) t)=(if p.1.beq t then some p.2 else look (r ++ T') t)
   cases hb:p.1.beq t
   ·simp only [hits,List.any_cons,hb,Bool.false_or] at h
    rw [if_neg (by simp),if_neg (by simp)]
    exact look_app_hit (u:=r) h
   ·rfl
theorem look_app {p:Nat × α} {T:Tbl α}:look (app [p] T) p.1=some p.2:=by simp [app,look]
theorem hits_mem {u:Upd α} {t:Nat} (h:hits u t=true):∃ p ∈ u,p.1=t:=by
 obtain ⟨p,hp,hb⟩:=List.any_eq_true.1 h
 exact ⟨p,hp,Nat.eq_of_beq_eq_true hb⟩
theorem curT_congr:∀ (us:List (Eff α)) (L L':Nat→Bool) (k:Nat) (T T':Tbl α) (t:Nat),look T t=look T' t →
 (∀ i u,us[i]?=some u→hits u.1 t=true→L (k + i)=L' (k + i))→look (curT us L k T) t=look (curT us L' k T') t
 | [],_,_,_,_,_,_,h,_=>h
 | u :: us,L,L',k,T,T',t,h,hl=>by
   unfold curT
   refine curT_congr us L L' (k + 1) _ _ t ?_ (fun i v hv hh=>?_)
   ·cases hh:hits u.1 t
    ·have e1:look (if L k then app u.1 T else T) t=look T t:=by split; exact look_app_ne hh; rfl
     have e2:look (if L' k then app u.1 T' else T') t=look T' t:=by split; exact look_app_ne hh; rfl
     rw [e1,e2,h]
    ·have e:=hl 0 u rfl hh
     rw [Nat.add_zero] at e
     rw [e]
     split
     ·exact look_app_hit hh
     ·exact h
   ·have:=hl (i + 1) v (by simpa using hv) hh
    rwa [show k + (i + 1)=k + 1 + i by omega] at this
theorem curT_none:∀ (us:List (Eff α)) (L:Nat→Bool) (k:Nat) (T:Tbl α),(∀ i,k≤i→L i=false)→curT us L k T=T
 | [],_,_,_,_=>rfl
 | u :: us,L,k,T,h=>by
   unfold curT
   rw [h k (Nat.le_refl _)]
   exact curT_none us L (k + 1) T (fun i hi=>h i (by omega))
theorem run_spec {J:Tr α} {all:List Oper}:∀ (ops:List Oper) (T:Tbl α) (us:List (Eff α)) (ns:List Bool) (k:Nat),run J all ops T=some (us,ns)→ns.all (fun b=>b)=true →
 us.length=ops.length∧∀ j o,ops[j]?=some o→∃ u,us[j]?=some u∧doneT J o (gat all (curT us (fun i=>decide (i < k + j)) k T) o) (argsO J.c (curT us (fun i=>decide (i < k + j)) k T) o) (look (curT us (fun i=>decide (i < k + j)) k T))=some (u.1,true,u.2)
 | [],T,us,ns,k,h,_=>by
   simp only [run,Option.some.injEq,Prod.mk.injEq] at h
   obtain ⟨rfl,_⟩:=h
   exact ⟨rfl,fun j o hj=>by simp at hj⟩
 | o :: r,T,us,ns,k,h,hns=>by
   unfold run at h
   cases hu:doneT J o (gat all T o) (argsO J.c T o) (look T) with
   | none=>simp [hu] at h
   | some u =>
     obtain ⟨u,n1,ex⟩:=u
     cases hr:run J all r (app u T) with
     | none=>simp [hu,hr] at h
     | some vs =>
       obtain ⟨vs,n2⟩:=vs
       simp only [hu,hr,Option.some.injEq,Prod.mk.injEq] at h
       obtain ⟨rfl,rfl⟩:=h
       simp only [List.all_cons,Bool.and_eq_true] at hns
       obtain ⟨rfl,hns⟩:=hns
       obtain ⟨ih1,ih2⟩:=run_spec r (app u T) vs n2 (k + 1) hr hns
       refine ⟨by simp [ih1],fun j o' hj=>?_⟩
       cases j with
       | zero =>
         simp only [List.getElem?_cons_zero,Option.some.injEq] at hj
         subst hj
         refine ⟨(u,ex),rfl,?_⟩
         unfold curT
         rw [curT_none vs _ (k + 1) _ (fun i hi=>by simp; omega)]
         simpa using hu
       | succ j =>
         obtain ⟨v,hv,ht⟩:=ih2 j o' (by simpa using hj)
         refine ⟨v,by simpa using hv,?_⟩
         unfold curT
         have e1:decide (k < k + (j + 1))=true:=by simp
         simp only [e1,if_true]
         rwa [show k + (j + 1)=k + 1 + j by omega]
theorem curT_add:∀ (us:List (Eff α)) (L':Nat→Bool) (k:Nat) (T':Tbl α) (j:Nat) (u:Upd α) (t:Nat) (ex:List Nat),us[j]?=some (u,ex)→hits u t=true→L' (k + j)=true →
 (∀ i v,us[i]?=some v→hits v.1 t=true→j < i→L' (k + i)=false)→look (curT us L' k T') t=look (app u []) t
 | [],_,_,_,_,_,_,_,h,_,_,_=>by simp at h
 | u :: us,L',k,T',0,u',t,ex,h,hh,hL,hn=>by
   simp only [List.getElem?_cons_zero,Option.some.injEq] at h
   subst h
   unfold curT
   rw [Nat.add_zero] at hL
   rw [hL,if_pos rfl]
   have e:=curT_congr us L' (fun _=>false) (k + 1) (app u' T') (app u' T') t rfl (fun i v hv hh=>by
    have:=hn (i + 1) v (by simpa using hv) hh (by omega)
    rw [show k + 1 + i=k + (i + 1) by omega]; exact this)
   rw [e,curT_none us _ _ _ (fun _ _=>rfl)]
   exact look_app_hit hh
 | u :: us,L',k,T',j + 1,u',t,ex,h,hh,hL,hn=>by
   unfold curT
   exact curT_add us L' (k + 1) _ j u' t ex (by simpa using h) hh (by rwa [show k + 1 + j=k + (j + 1) by omega]) (fun i v hv hh hi=>by
    have:=hn (i + 1) v (by simpa using hv) hh (by omega)
    rwa [show k + 1 + i=k + (i + 1) by omega])
theorem pairs_spec {ops:List Oper} {us:List (Eff α)} (h:pairs ops us=true) {j:Nat} {oj:Oper} {uj:Eff α} (hj:ops[j]?=some oj) (hu:us[j]?=some uj) :
 (∀ e ∈ oj.after,Region.binds .any e=true→e.on < j)∧∀ i oi ui,i < j→ops[i]?=some oi→us[i]?=some ui→clash ops oi oj ui uj=true→edge oj i=true:=by
 have hlt:j < ops.length:=(List.getElem?_eq_some_iff.1 hj).1
 have h1:=List.all_eq_true.1 h j (List.mem_range.2 hlt)
 simp only [hj,hu,Bool.and_eq_true] at h1
 obtain ⟨h3,h4⟩:=h1
 refine ⟨fun e he hb=>?_,fun i oi ui hi hoi hui hc=>?_⟩
 ·have:=List.all_eq_true.1 h3 e (by simpa using he)
  simpa [hb] using this
 ·have:=List.all_eq_true.1 h4 i (List.mem_range.2 hi)
  simp only [hoi,hui,hc] at this
  simpa using this
theorem edge_spec {o:Oper} {i:Nat} (h:edge o i=true):∃ e ∈ o.after,Region.binds .any e=true∧e.on=i:=by
 obtain ⟨e,he,h2⟩:=List.any_eq_true.1 h
 simp only [Bool.and_eq_true] at h2
 exact ⟨e,by simpa using he,h2.1,Nat.eq_of_beq_eq_true h2.2⟩
section
variable {P:Program} {Q:Exit→Act→World→Prop} {J:Tr α} {St:Tbl α→Act→World→Prop}
structure Held (St:Tbl α→Act→World→Prop) (ops:Array Oper) (us:List (Eff α)) (T:Tbl α) (L:Nat→Bool) (a:Act) (w:World):Prop where
 shut:∀ j o,ops[j]?=some o→L j=true→∀ e ∈ o.after,Region.binds .any e=true→L e.on=true
 st:St (curT us L 0 T) a w
theorem reads_mem {ops:List Oper} {o:Oper} {t:Nat} (h:.tmp t ∈ o.op.operands.toList):reads ops o t=true:=by
 unfold reads
 rw [Bool.or_eq_true]
 exact Or.inl (List.any_eq_true.2 ⟨.tmp t,h,by simp⟩)
theorem reads_guard {ops:List Oper} {o:Oper} {g:Nat} (h:gslot ops o=some g):reads ops o g=true:=by
 unfold reads
 rw [h,Bool.or_eq_true]
 exact Or.inr (by simp)
theorem held_step {ops:Array Oper} {us:List (Eff α)} {T:Tbl α} {ns:List Bool} (hrun:run J ops.toList ops.toList T=some (us,ns)) (hns:ns.all (fun b=>b)=true) (hp:pairs ops.toList us=true)
 (hext:∀ T T' a w,(∀ t,look T t=look T' t)→St T a w→St T' a w)
 (hbool:∀ T t x b a w,look T t=some x→J.b x=some b→St T a w→a.tmps[t]?=some (.bool b))
 (hjunk:∀ T d a w,J.jk d=true→St T a w→St (app [(d,J.junk)] T) (a.put (some d) undef) w)
 (hlk:∀ o xs lk lk' r,J.tr o xs lk=some r→(∀ t,also r.2.2 t=true→lk t=lk' t)→J.tr o xs lk'=some r)
 (hstep:∀ T o u ex a w (K:Act→World→Prop),J.tr o (argsO J.c T o) (look T)=some (u,true,ex)→St T a w→(∀ a' w',St (app u T) a' w'→K a' w')→o.wp P a w K Q)
 {L:Nat→Bool} {j:Nat} {o:Oper} (hj:ops[j]?=some o) (hL:L j=false) (hready:∀ e ∈ o.after,Region.binds .any e=true→L e.on=true)
 {a:Act} {w:World} {K:Act→World→Prop} (h:Held St ops us T L a w) (hK:∀ a' w',Held St ops us T (fun i=>L i || i.beq j) a' w'→K a' w') :
 wpOp P ops Q j K a w:=by
 obtain ⟨hlen,hspec⟩:=run_spec ops.toList T us ns 0 hrun hns
 have hjl:ops.toList[j]?=some o:=by simpa using hj
 obtain ⟨⟨u,ex⟩,hu,htr⟩:=hspec j o hjl
 obtain ⟨hedges,hcl⟩:=pairs_spec hp hjl hu
 have hget:∀ i v,us[i]?=some v→∃ oi,ops.toList[i]?=some oi:=fun i v hv=>by
  have h1:=(List.getElem?_eq_some_iff.1 hv).1
  exact ⟨_,List.getElem?_eq_getElem (by omega)⟩
 have key:∀ t,(reads ops.toList o t=true∨also ex t=true∨hits u t=true)→∀ i v,us[i]?=some v→hits v.1 t=true→i ≠ j→(L i=true ↔ i < j):=by
  intro t ht i v hv hh hij
  obtain ⟨oi,hoi⟩:=hget i v hv
  rcases Nat.lt_or_gt_of_ne hij with hlt | hgt
  ·have hc2:clash ops.toList oi o v (u,ex)=true:=by
    obtain ⟨q,hq,rfl⟩:=hits_mem hh
    unfold clash
    rw [Bool.or_eq_true]
    refine Or.inl (List.any_eq_true.2 ⟨q,hq,?_⟩)
    rcases ht with ht | ht | ht <;> simp [ht]
   obtain ⟨e,he,hb,hon⟩:=edge_spec (hcl i oi v hlt hoi hv hc2)
   have:=hready e he hb
   rw [hon] at this
   simp [this,hlt]
  ·obtain ⟨_,hcl2⟩:=pairs_spec hp hoi hv
   have hc2:clash ops.toList o oi (u,ex) v=true:=by
    unfold clash
    rw [Bool.or_eq_true]
    rcases ht with ht | ht | ht
    ·obtain ⟨q,hq,rfl⟩:=hits_mem hh
     exact Or.inr (List.any_eq_true.2 ⟨q,hq,by simp [ht]⟩)
    ·obtain ⟨q,hq,rfl⟩:=hits_mem hh
     exact Or.inr (List.any_eq_true.2 ⟨q,hq,by simp [ht]⟩)
    ·obtain ⟨q,hq,rfl⟩:=hits_mem ht
     exact Or.inl (List.any_eq_true.2 ⟨q,hq,by simp [hh]⟩)
   obtain ⟨e,he,hb,hon⟩:=edge_spec (hcl2 j o (u,ex) hgt hjl hu hc2)
   have hLi:L i=false:=by
    cases hLi:L i
    ·rfl
    ·have:=h.shut i oi (by simpa using hoi) hLi e he hb
     rw [hon,hL] at this
     cases this
   simp [hLi]
   omega
 have hlook:∀ t,(reads ops.toList o t=true∨also ex t=true)→look (curT us L 0 T) t=look (curT us (fun i=>decide (i < 0 + j)) 0 T) t:=fun t ht =>
  curT_congr us L _ 0 T T t rfl (fun i v hv hh=>by
   rw [Nat.zero_add,Nat.zero_add]
   by_cases hij:i=j
   ·subst hij; simp [hL]
   ·have:=key t (ht.imp id Or.inl) i v hv hh hij
    cases hLi:L i
    ·rw [hLi] at this; simp at this; simp; omega
    ·rw [hLi] at this; simp at this; simp [this])
 have hargs:argsO J.c (curT us L 0 T) o=argsO J.c (curT us (fun i=>decide (i < 0 + j)) 0 T) o:=by
  unfold argsO
  refine List.map_congr_left fun x hx=>?_
  cases x with
  | tmp t=>exact hlook t (Or.inl (reads_mem hx))
  | _=>rfl
 have hgat:gat ops.toList (curT us L 0 T) o=gat ops.toList (curT us (fun i=>decide (i < 0 + j)) 0 T) o:=by
  unfold gat
  cases hgs:gslot ops.toList o with
  | none=>rfl
  | some g=>simp only [Option.map_some]; rw [hlook g (Or.inl (reads_guard hgs))]
 rw [← hargs,← hgat] at htr
 have hlk2:∀ r,J.tr o (argsO J.c (curT us L 0 T) o) (look (curT us (fun i=>decide (i < 0 + j)) 0 T))=some (r,true,ex)→J.tr o (argsO J.c (curT us L 0 T) o) (look (curT us L 0 T))=some (r,true,ex):=fun r hr=>hlk o _ _ _ _ hr (fun t ht=>(hlook t (Or.inr ht)).symm)
 have hnext:∀ a' w',St (app u (curT us L 0 T)) a' w'→K a' w':=fun a' w' hs=>hK a' w' ⟨fun i oi hoi hi e he hb=>?_,hext _ _ a' w' (fun t=>?_) hs⟩
 ·unfold wpOp
  simp only [hj]
  unfold doneT at htr
  cases hgd:o.guard with
  | none =>
    have hw:Region.wanted o (yielded ops a.tmps)=true:=by simp [Region.wanted,hgd]
    rw [hgd] at htr
    rw [if_pos hw]
    exact .inl (hstep _ o u ex a w K (hlk2 u htr) h.st hnext)
  | some gw =>
    obtain ⟨g,want⟩:=gw
    simp only [hgd] at htr
    cases hga:gat ops.toList (curT us L 0 T) o with
    | none=>simp [hga] at htr
    | some gx =>
      cases gx with
      | none=>simp [hga] at htr
      | some x =>
        simp only [hga] at htr
        cases hb:J.b x with
        | none=>simp [hb] at htr
        | some b =>
          simp only [hb] at htr
          have hy:yielded ops a.tmps g=some b:=by
           unfold gat gslot at hga
           rw [hgd] at hga
           simp only [Array.getElem?_toList] at hga
           cases hog:ops[g]? with
           | none=>simp [hog] at hga
           | some og =>
             simp only [hog] at hga
             cases hdd:og.dst with
             | none=>simp [hdd] at hga
             | some gs =>
               rw [hdd] at hga
               simp only [Option.map_some,Option.some.injEq] at hga
               have:=hbool _ gs x b a w hga hb h.st
               simp [yielded,hog,hdd,this]
          cases hbw:(b == want) with
          | true =>
            have hw:Region.wanted o (yielded ops a.tmps)=true:=by
             simp only [Region.wanted,hgd,hy]
             rw [eq_of_beq hbw]
             simp
            rw [hbw,if_pos rfl] at htr
            rw [if_pos hw]
            exact .inl (hstep _ o u ex a w K (hlk2 u htr) h.st hnext)
          | false =>
            have hw:Region.wanted o (yielded ops a.tmps)=false:=by
             simp only [Region.wanted,hgd,hy]
             cases b <;> cases want <;> first | rfl | (simp at hbw)
            rw [hbw] at htr
            rw [hw,if_neg (by simp)]
            simp only [Bool.false_eq_true,if_false] at htr
            cases hod:o.dst with
            | none =>
              simp only [hod,Option.some.injEq,Prod.mk.injEq,true_and] at htr
              obtain ⟨rfl,_⟩:=htr
              exact hnext _ _ h.st
            | some d =>
              simp only [hod] at htr
              split at htr
              ·rename_i hjk
               simp only [Option.some.injEq,Prod.mk.injEq,true_and] at htr
               obtain ⟨rfl,_⟩:=htr
               exact hnext _ _ (hjunk _ d a w hjk h.st)
              ·cases htr
 ·show (L e.on || e.on.beq j)=true
  by_cases hij:i=j
  ·subst hij
   rw [hj] at hoi
   cases hoi
   rw [hready e he hb]; rfl
  ·have hLi:L i=true:=by
    have h2:(L i || i.beq j)=true:=hi
    rw [Bool.or_eq_true] at h2
    rcases h2 with h2 | h2
    ·exact h2
    ·exact absurd (Nat.eq_of_beq_eq_true h2) hij
   rw [h.shut i oi hoi hLi e he hb]; rfl
 ·cases hh:hits u t
  ·rw [look_app_ne hh]
   refine curT_congr us _ _ 0 T T t rfl (fun i v hv hv2=>?_)
   rw [Nat.zero_add]
   by_cases hij:i=j
   ·subst hij
    rw [hu] at hv
    cases hv
    rw [hh] at hv2
    cases hv2
   ·have:i.beq j=false:=by
     cases hb:i.beq j
     ·rfl
     ·exact absurd (Nat.eq_of_beq_eq_true hb) hij
    simp [this]
  ·rw [look_app_hit (T':=[]) hh]
   symm
   refine curT_add us _ 0 T j u t ex hu hh (by simp) (fun i v hv hv2 hji=>?_)
   rw [Nat.zero_add]
   have h2:=key t (Or.inr (Or.inr hh)) i v hv hv2 (by omega)
   have hLi:L i=false:=by
    cases hLi:L i
    ·rfl
    ·have:=h2.1 hLi; omega
   have:i.beq j=false:=by
    cases hb:i.beq j
    ·rfl
    ·have:=Nat.eq_of_beq_eq_true hb; omega
   simp [hLi,this]
def allT (us:List (Eff α)) (T:Tbl α):Tbl α:=curT us (fun _=>true) 0 T
theorem Held.done {ops:Array Oper} {us:List (Eff α)} {T:Tbl α} {L:Nat→Bool} {a:Act} {w:World} (hlen:us.length=ops.size)
 (hext:∀ T T' a w,(∀ t,look T t=look T' t)→St T a w→St T' a w) (h:Held St ops us T L a w) (hL:∀ i,i < ops.size→L i=true):St (allT us T) a w :=
 hext _ _ a w (fun t=>curT_congr us L (fun _=>true) 0 T T t rfl (fun i u hu _=>by
  have:=(List.getElem?_eq_some_iff.1 hu).1
  rw [Nat.zero_add]
  exact hL i (by omega))) h.st
theorem getD_set_true {l:Array Bool} {i:Nat} (hi:i < l.size) (k:Nat):(l.setIfInBounds i true).getD k false=(l.getD k false || k.beq i):=by
 simp only [Array.getD_eq_getD_getElem?,Array.getElem?_setIfInBounds]
 by_cases h:i=k
 ·subst h
  simp [hi]
 ·have:k.beq i=false:=by
   cases hb:k.beq i
   ·rfl
   ·exact absurd (Nat.eq_of_beq_eq_true hb).symm h
  simp [h,this]
theorem getD_true_false {l:Array Bool} {i:Nat} (h:l.getD i true=false):i < l.size∧l.getD i false=false:=by
 rcases Nat.lt_or_ge i l.size with hlt | hge
 ·simp [Array.getD_eq_getD_getElem?,hlt] at h ⊢
  exact h
 ·simp [Array.getD_eq_getD_getElem?,Array.getElem?_eq_none hge] at h
theorem count_set {l:Array Bool} {i:Nat} (h:l.getD i true=false):((l.setIfInBounds i true).toList.count false) + 1=l.toList.count false:=by
 have hi:=(getD_true_false h).1
 have h2:l[i]=false:=by simpa [Array.getD_eq_getD_getElem?,hi] using h
 have hpos:0 < l.toList.count false:=List.count_pos_iff.2 (by rw [← h2]; simp)
 rw [Array.toList_setIfInBounds,List.count_set (by simpa using hi),Array.getElem_toList,h2]
 show List.count false l.toList - 1 + 0 + 1=List.count false l.toList
 omega
theorem held_any {ops:Array Oper} {us:List (Eff α)} {T:Tbl α} {ns:List Bool} (hrun:run J ops.toList ops.toList T=some (us,ns)) (hns:ns.all (fun b=>b)=true) (hp:pairs ops.toList us=true)
 (hext:∀ T T' a w,(∀ t,look T t=look T' t)→St T a w→St T' a w)
 (hbool:∀ T t x b a w,look T t=some x→J.b x=some b→St T a w→a.tmps[t]?=some (.bool b))
 (hjunk:∀ T d a w,J.jk d=true→St T a w→St (app [(d,J.junk)] T) (a.put (some d) undef) w)
 (hlk:∀ o xs lk lk' r,J.tr o xs lk=some r→(∀ t,also r.2.2 t=true→lk t=lk' t)→J.tr o xs lk'=some r)
 (hstep:∀ T o u ex a w (K:Act→World→Prop),J.tr o (argsO J.c T o) (look T)=some (u,true,ex)→St T a w→(∀ a' w',St (app u T) a' w'→K a' w')→o.wp P a w K Q)
 (hQ:∀ a w,St (allT us T) a w→Q .normal a w) :
 ∀ (fuel:Nat) (l:Array Bool) (a:Act) (w:World),l.size=ops.size→l.toList.count false≤fuel→Held St ops us T (fun i=>l.getD i false) a w→wpAny P .any ops Q fuel l a w:=by
 have hlen:us.length=ops.size:=by have:=(run_spec ops.toList T us ns 0 hrun hns).1; rw [this]; simp
 have hend:∀ (l:Array Bool) (a:Act) (w:World),l.size=ops.size→Held St ops us T (fun i=>l.getD i false) a w→Region.ready .any ops l=[]→Q .normal a w:=by
  intro l a w hsz h hr
  refine hQ a w (h.done hlen hext fun i=>?_)
  induction i using Nat.strongRecOn with
  | _ i ih =>
    intro hi
    show l.getD i false=true
    cases hli:l.getD i false
    ·exfalso
     have hoi:ops[i]?=some ops[i]:=Array.getElem?_eq_getElem hi
     have hmem:i ∈ Region.ready .any ops l:=by
      refine mem_ready.2 ⟨?_,ops[i],hoi,fun e he hb=>?_⟩
      ·simp [Array.getD_eq_getD_getElem?,hsz,hi] at hli ⊢
       exact hli
      ·have hul:i < us.length:=by omega
       have:=(pairs_spec hp (j:=i) (oj:=ops[i]) (uj:=us[i]) (by simp) (List.getElem?_eq_getElem hul)).1 e he hb
       exact ih e.on this (by omega)
     rw [hr] at hmem
     cases hmem
    ·rfl
 intro fuel
 induction fuel with
 | zero =>
   intro l a w hsz hf h
   have hr:Region.ready .any ops l=[]:=by
    rw [List.eq_nil_iff_forall_not_mem]
    intro j hj
    have h1:=(mem_ready.1 hj).1
    have:=count_set h1
    omega
   exact ⟨hr,hend l a w hsz h hr⟩
 | succ fuel ih =>
   intro l a w hsz hf h
   refine ⟨hend l a w hsz h,fun j hj=>?_⟩
   obtain ⟨h1,oj,hoj,hall⟩:=mem_ready.1 hj
   have hjf:=getD_true_false h1
   refine held_step hrun hns hp hext hbool hjunk hlk hstep hoj hjf.2 hall h (fun a' w' hh=>ih (l.setIfInBounds j true) a' w' (by simp [hsz]) (by have:=count_set h1; omega) ?_)
   have e:(fun i=>(l.setIfInBounds j true).getD i false)=fun i=>l.getD i false || i.beq j:=funext fun i=>getD_set_true hjf.1 i
   rw [e]
   exact hh
theorem held_ops {ops:Array Oper} {us:List (Eff α)} {T:Tbl α} {ns:List Bool} (hrun:run J ops.toList ops.toList T=some (us,ns)) (hns:ns.all (fun b=>b)=true) (hp:pairs ops.toList us=true)
 (hext:∀ T T' a w,(∀ t,look T t=look T' t)→St T a w→St T' a w)
 (hbool:∀ T t x b a w,look T t=some x→J.b x=some b→St T a w→a.tmps[t]?=some (.bool b))
 (hjunk:∀ T d a w,J.jk d=true→St T a w→St (app [(d,J.junk)] T) (a.put (some d) undef) w)
 (hlk:∀ o xs lk lk' r,J.tr o xs lk=some r→(∀ t,also r.2.2 t=true→lk t=lk' t)→J.tr o xs lk'=some r)
 (hstep:∀ T o u ex a w (K:Act→World→Prop),J.tr o (argsO J.c T o) (look T)=some (u,true,ex)→St T a w→(∀ a' w',St (app u T) a' w'→K a' w')→o.wp P a w K Q)
 (hQ:∀ a w,St (allT us T) a w→Q .normal a w) :
 ∀ (n k:Nat) (a:Act) (w:World),k + n=ops.size→Held St ops us T (fun i=>decide (i < k)) a w→wpOps P ops Q (List.range' k n) a w:=by
 have hlen:us.length=ops.size:=by have:=(run_spec ops.toList T us ns 0 hrun hns).1; rw [this]; simp
 intro n
 induction n with
 | zero =>
   intro k a w hk h
   exact hQ a w (h.done hlen hext fun i hi=>by simp; omega)
 | succ n ih =>
   intro k a w hk h
   have hklt:k < ops.size:=by omega
   rw [List.range'_succ,wpOps_cons]
   have hok:ops[k]?=some ops[k]:=Array.getElem?_eq_getElem hklt
   have hpk:=pairs_spec hp (j:=k) (oj:=ops[k]) (uj:=us[k]) (by simp) (List.getElem?_eq_getElem (by omega))
   refine held_step hrun hns hp hext hbool hjunk hlk hstep hok (by simp) (fun e he hb=>by have:=hpk.1 e he hb; simp; exact this) h (fun a' w' hh=>ih (k + 1) a' w' (by omega) ?_)
   have e:(fun i=>decide (i < k + 1))=fun i=>decide (i < k) || i.beq k:=funext fun i=>by
    rw [Bool.eq_iff_iff,Bool.or_eq_true,decide_eq_true_iff,decide_eq_true_iff]
    constructor
    ·intro h
     rcases Nat.lt_or_ge i k with h1 | h1
     ·exact Or.inl h1
     ·exact Or.inr (by rw [show i=k by omega]; simp)
    ·intro h
     rcases h with h | h
     ·omega
     ·have:=Nat.eq_of_beq_eq_true h; omega
   rw [e]
   exact hh
theorem region_typ {id:Nat} {ops:Array Oper} {draw:Bool} {us:List (Eff α)} {T:Tbl α} (hm:P.follows .mixedOrders=true) {ns:List Bool} (hrun:run J ops.toList ops.toList T=some (us,ns)) (hns:ns.all (fun b=>b)=true) (hp:pairs ops.toList us=true)
 (hext:∀ T T' a w,(∀ t,look T t=look T' t)→St T a w→St T' a w) (hdraw:∀ T a w,St T a w→St T a { w with drawn:=w.drawn + 1 })
 (hbool:∀ T t x b a w,look T t=some x→J.b x=some b→St T a w→a.tmps[t]?=some (.bool b))
 (hjunk:∀ T d a w,J.jk d=true→St T a w→St (app [(d,J.junk)] T) (a.put (some d) undef) w)
 (hlk:∀ o xs lk lk' r,J.tr o xs lk=some r→(∀ t,also r.2.2 t=true→lk t=lk' t)→J.tr o xs lk'=some r)
 (hstep:∀ T o u ex a w (K:Act→World→Prop),J.tr o (argsO J.c T o) (look T)=some (u,true,ex)→St T a w→(∀ a' w',St (app u T) a' w'→K a' w')→o.wp P a w K Q)
 (hQ:∀ a w,St (allT us T) a w→Q .normal a w) {a:Act} {w:World} (h:St T a w):(Code.region id ops draw).wp P Q a w:=by
 cases draw
 ·refine wp_region ?_
  rw [List.range_eq_range']
  refine held_ops hrun hns hp hext hbool hjunk hlk hstep hQ ops.size 0 a w (by omega) ⟨fun j o _ hl=>by simp at hl,?_⟩
  rw [curT_none us _ 0 T (fun i _=>by simp)]
  exact h
 ·refine wp_region_any hm (held_any hrun hns hp hext hbool hjunk hlk hstep hQ ops.size _ a _ (by simp) (Nat.le_trans List.count_le_length (by rw [Array.length_toList,Array.size_replicate]; exact Nat.le_refl _)) ⟨fun j o _ hl=>?_,?_⟩)
  ·exfalso
   have h2:(Array.replicate ops.size false).getD j false=true:=hl
   rcases Nat.lt_or_ge j ops.size with h3 | h3
   ·simp [Array.getD_eq_getD_getElem?,h3] at h2
   ·simp [Array.getD_eq_getD_getElem?,h3] at h2
  ·rw [curT_none us _ 0 T (fun i _=>by
    rcases Nat.lt_or_ge i ops.size with h3 | h3
    ·simp [Array.getD_eq_getD_getElem?,h3]
    ·simp [Array.getD_eq_getD_getElem?,h3])]
   exact hdraw T a w h
end
inductive Lv'
 | normal
 | ret
 | exit (id:Nat)
def Lv'.to:Lv'→Exit
 | .normal=>.normal
 | .ret=>.ret
 | .exit id=>.exit id
def chkC (J:Tr α):Code→Tbl α→Option (Tbl α × Lv' × List Bool)
 | .skip,T=>some (T,.normal,[])
 | .ret,T=>some (T,.ret,[])
 | .exit id,T=>some (T,.exit id,[])
 | .region _ ops _,T=>match run J ops.toList ops.toList T with
   | none=>none
   | some us=>if pairs ops.toList us.1 then some (allT us.1 T,.normal,us.2) else none
 | .seq x y,T=>match chkC J x T with
   | some (T1,.normal,n1)=>match chkC J y T1 with
     | some (T2,e,n2)=>some (T2,e,n1 ++ n2)
     | none=>none
   | r=>r
 | .cond x y z,T=>match getO J.c T x with
   | some v=>match J.b v with
     | some true=>chkC J y T
     | some false=>chkC J z T
     | none=>none
   | none=>none
 | .block id x,T=>match chkC J x T with
   | some (T1,.exit id',n)=>some (T1,if id'.beq id then .normal else .exit id',n)
   | r=>r
 | _,_=>none
theorem chk_sound {P:Program} {J:Tr α} {St:Tbl α→Act→World→Prop} (hm:P.follows .mixedOrders=true)
 (hext:∀ T T' a w,(∀ t,look T t=look T' t)→St T a w→St T' a w) (hdraw:∀ T a w,St T a w→St T a { w with drawn:=w.drawn + 1 })
 (hbool:∀ T t x b a w,look T t=some x→J.b x=some b→St T a w→a.tmps[t]?=some (.bool b))
 (hjunk:∀ T d a w,J.jk d=true→St T a w→St (app [(d,J.junk)] T) (a.put (some d) undef) w)
 (hcb:∀ T x v b a w,getO J.c T x=some v→J.b v=some b→St T a w→a.eval x=.bool b)
 (hlk:∀ o xs lk lk' r,J.tr o xs lk=some r→(∀ t,also r.2.2 t=true→lk t=lk' t)→J.tr o xs lk'=some r)
 (hstep:∀ (Q:Exit→Act→World→Prop) T o u ex a w (K:Act→World→Prop),J.tr o (argsO J.c T o) (look T)=some (u,true,ex)→St T a w→(∀ a' w',St (app u T) a' w'→K a' w')→o.wp P a w K Q) :
 ∀ (x:Code) (T T':Tbl α) (e:Lv') (ns:List Bool) (Q:Exit→Act→World→Prop) (a:Act) (w:World),chkC J x T=some (T',e,ns)→ns.all (fun b=>b)=true→St T a w→(∀ a' w',St T' a' w'→Q e.to a' w')→x.wp P Q a w:=by
 intro x
 induction x with
 | skip =>
   intro T T' e ns Q a w h hns hs hQ
   simp only [chkC,Option.some.injEq,Prod.mk.injEq] at h
   obtain ⟨rfl,rfl,_⟩:=h
   exact wp_skip (hQ a w hs)
 | ret =>
   intro T T' e ns Q a w h hns hs hQ
   simp only [chkC,Option.some.injEq,Prod.mk.injEq] at h
   obtain ⟨rfl,rfl,_⟩:=h
   exact wp_ret (hQ a w hs)
 | exit id =>
   intro T T' e ns Q a w h hns hs hQ
   simp only [chkC,Option.some.injEq,Prod.mk.injEq] at h
   obtain ⟨rfl,rfl,_⟩:=h
   exact wp_exit (hQ a w hs)
 | region id ops draw =>
   intro T T' e ns Q a w h hns hs hQ
   unfold chkC at h
   cases hr:run J ops.toList ops.toList T with
   | none=>simp [hr] at h
   | some us =>
     obtain ⟨us,n⟩:=us
     simp only [hr] at h
     cases hp:pairs ops.toList us with
     | false=>simp [hp] at h
     | true =>
       simp only [hp,if_true,Option.some.injEq,Prod.mk.injEq] at h
       obtain ⟨rfl,rfl,rfl⟩:=h
       exact region_typ hm hr hns hp hext hdraw hbool hjunk hlk (hstep Q) hQ hs
 | seq x y ihx ihy =>
   intro T T' e ns Q a w h hns hs hQ
   unfold chkC at h
   cases hx:chkC J x T with
   | none=>simp [hx] at h
   | some p =>
     obtain ⟨T1,e1,n1⟩:=p
     rw [hx] at h
     cases e1 with
     | normal =>
       cases hy:chkC J y T1 with
       | none=>simp [hy] at h
       | some q =>
         obtain ⟨T2,e2,n2⟩:=q
         simp only [hy,Option.some.injEq,Prod.mk.injEq] at h
         obtain ⟨rfl,rfl,rfl⟩:=h
         rw [List.all_append,Bool.and_eq_true] at hns
         exact wp_seq (ihx T T1 .normal n1 _ a w hx hns.1 hs fun a1 w1 h1=>ihy T1 T2 e2 n2 Q a1 w1 hy hns.2 h1 hQ)
     | ret =>
       simp only [Option.some.injEq,Prod.mk.injEq] at h
       obtain ⟨rfl,rfl,rfl⟩:=h
       exact wp_seq (ihx T T1 .ret _ _ a w hx hns hs hQ)
     | exit id =>
       simp only [Option.some.injEq,Prod.mk.injEq] at h
       obtain ⟨rfl,rfl,rfl⟩:=h
       exact wp_seq (ihx T T1 (.exit id) _ _ a w hx hns hs hQ)
 | cond x y z ihy ihz =>
   intro T T' e ns Q a w h hns hs hQ
   unfold chkC at h
   cases hv:getO J.c T x with
   | none=>simp [hv] at h
   | some v =>
     simp only [hv] at h
     cases hb:J.b v with
     | none=>simp [hb] at h
     | some b =>
       rw [hb] at h
       cases b with
       | true=>exact wp_cond_true (hcb T x v true a w hv hb hs) (ihy T T' e ns Q a w h hns hs hQ)
       | false=>exact wp_cond_false (hcb T x v false a w hv hb hs) (ihz T T' e ns Q a w h hns hs hQ)
 | block id x ih =>
   intro T T' e ns Q a w h hns hs hQ
   unfold chkC at h
   cases hx:chkC J x T with
   | none=>simp [hx] at h
   | some p =>
     obtain ⟨T1,e1,n1⟩:=p
     rw [hx] at h
     cases e1 with
     | normal =>
       simp only [Option.some.injEq,Prod.mk.injEq] at h
       obtain ⟨rfl,rfl,rfl⟩:=h
       exact wp_block (ih T T1 .normal _ _ a w hx hns hs hQ)
     | ret =>
       simp only [Option.some.injEq,Prod.mk.injEq] at h
       obtain ⟨rfl,rfl,rfl⟩:=h
       exact wp_block (ih T T1 .ret _ _ a w hx hns hs hQ)
     | exit id' =>
       simp only [Option.some.injEq,Prod.mk.injEq] at h
       obtain ⟨rfl,rfl,rfl⟩:=h
       refine wp_block (ih T T1 (.exit id') _ _ a w hx hns hs fun a1 w1 h1=>?_)
       show (if id'=id then Q .normal a1 w1 else Q (.exit id') a1 w1)
       cases hb:id'.beq id
       ·rw [hb] at hQ
        rw [if_neg (fun a=>by subst a; simp at hb)]
        exact hQ a1 w1 h1
       ·rw [hb] at hQ
        rw [if_pos (Nat.eq_of_beq_eq_true hb)]
        exact hQ a1 w1 h1
 | _=>intro T T' e ns Q a w h; simp [chkC] at h
end
theorem wp_loop_ghost {γ:Type} {P:Program} {c:Code} {Q:Exit→Act→World→Prop} {a:Act} {w:World} (I:γ→Act→World→Prop) (μ:γ→Nat) {g0:γ} (h0:I g0 a w)
 (round:∀ g a w,I g a w→c.wp P (Exit.then (fun a' w'=>∃ g',I g' a' w'∧μ g' < μ g) Q) a w):(Code.loop c).wp P Q a w:=by
 intro b k cs
 have key:∀ n g a w,μ g=n→I g a w→∃ e a' w',Q e a' w'∧Arrives P (lone (b.at a (.code c :: .inLoop c :: k)) cs w) b k cs e a' w':=by
  intro n
  induction n using Nat.strongRecOn with
  | _ n ih =>
    intro g a w hn hI
    obtain ⟨e,a1,w1,hq,harr⟩:=round g a w hI b (.inLoop c :: k) cs
    cases e with
    | normal =>
      obtain ⟨g1,hI1,hlt⟩:=hq
      obtain ⟨e2,a2,w2,hq2,harr2⟩:=ih (μ g1) (hn ▸ hlt) g1 a1 w1 rfl hI1
      exact ⟨e2,a2,w2,hq2,.of_steps (Steps.trans harr (.one step_inLoop)) harr2⟩
    | exit id=>exact ⟨_,a1,w1,hq,.pass (x:=.inLoop c) rfl (fun _ _=>.inl (by simp)) harr⟩
    | goto l=>exact ⟨_,a1,w1,hq,.pass (x:=.inLoop c) rfl (fun _ _=>.inl (by simp)) harr⟩
    | ret=>exact ⟨_,a1,w1,hq,.pass (x:=.inLoop c) rfl (fun _ _=>.inl (by simp)) harr⟩
    | panic ch=>exact ⟨_,a1,w1,hq,.pass (x:=.inLoop c) rfl (fun _ _=>.inl (by simp)) harr⟩
    | outgrown=>exact ⟨_,a1,w1,hq,.pass (x:=.inLoop c) rfl (fun _ _=>.inl (by simp)) harr⟩
 obtain ⟨e,a',w',hq,harr⟩:=key _ g0 a w rfl h0
 exact ⟨e,a',w',hq,.of_steps (.one step_loop) harr⟩
end Typ
end Go.Proofs.YtmngddomnaaedaaGreat
namespace Go.Proofs.YtmngddomnaaedaaGreat
namespace Lvl
structure Lv where
 c:Int
 p0:Int
 p1:Int
 p2:Int
 p3:Int
theorem Lv.ext_all {a b:Lv} (h:a.c=b.c) (h0:a.p0=b.p0) (h1:a.p1=b.p1) (h2:a.p2=b.p2) (h3:a.p3=b.p3):a=b:=by
 cases a; cases b; simp_all
def one (i n:Int):List (Int × Int):=if n=-1 then [] else [(i,n)]
def Lv.ps (l:Lv):List (Int × Int):=one 0 l.p0 ++ one 1 l.p1 ++ one 2 l.p2 ++ one 3 l.p3
def Lv.upto (l:Lv):Nat→List (Int × Int)
 | 0=>[]
 | 1=>one 0 l.p0
 | 2=>one 0 l.p0 ++ one 1 l.p1
 | 3=>one 0 l.p0 ++ one 1 l.p1 ++ one 2 l.p2
 | _=>l.ps
def Lv.at_ (l:Lv):Nat→Int
 | 0=>l.p0
 | 1=>l.p1
 | 2=>l.p2
 | _=>l.p3
theorem Lv.upto_succ (l:Lv) (k:Nat) (h:k < 4):l.upto (k + 1)=l.upto k ++ one k (l.at_ k):=by
 match k,h with
 | 0,_=>rfl
 | 1,_=>rfl
 | 2,_=>rfl
 | 3,_=>rfl
theorem Lv.upto_prefix (l:Lv) (k:Nat):l.upto k <+: l.ps:=by
 match k with
 | 0=>exact List.nil_prefix
 | 1=>exact ⟨one 1 l.p1 ++ one 2 l.p2 ++ one 3 l.p3,by simp [upto,ps]⟩
 | 2=>exact ⟨one 2 l.p2 ++ one 3 l.p3,by simp [upto,ps]⟩
 | 3=>exact ⟨one 3 l.p3,by simp [upto,ps]⟩
 | k + 4=>exact List.prefix_rfl
theorem Lv.upto_mem (l:Lv) (k:Nat) (h:k < 4) (hn:l.at_ k ≠ -1):((k:Int),l.at_ k) ∈ l.ps∧(l.upto k).length < l.ps.length∧l.upto (k + 1)=l.upto k ++ [((k:Int),l.at_ k)]:=by
 have e:=l.upto_succ k h
 rw [one,if_neg hn] at e
 have hp:=l.upto_prefix (k + 1)
 rw [e] at hp
 refine ⟨hp.subset (by simp),?_,e⟩
 have:=hp.length_le
 simp at this
 omega
theorem Lv.upto_skip (l:Lv) (k:Nat) (h:k < 4) (hn:l.at_ k=-1):l.upto (k + 1)=l.upto k:=by
 rw [l.upto_succ k h,one,if_pos hn,List.append_nil]
end Lvl
end Go.Proofs.YtmngddomnaaedaaGreat
