/-
 Some environments that the call has made,side by side.
-/
import Derived.Lib.Hide
import Derived.Test.YtmngddomnaaedaaGreatQB25
import Derived.Test.YtmngddomnaaedaaGreatQB1
import Derived.Test.YtmngddomnaaedaaGreatQB15
import Derived.Great.Walk
open Go.Lib (hid)
set_option maxRecDepth 100000
set_option maxHeartbeats 32000000
namespace Go.Proofs.YtmngddomnaaedaaGreat
open Go.RowKit Go.Shelf Go.Maps Lvl Trm Env
namespace Env
structure EnvR where
 e:Nat
 L:List Ent
 mo:Option Nat
 v:Value
def EnvR.own (x:EnvR):Nat→Prop:=ownE x.e x.v x.mo
structure Many (w0 W:World) (P:Nat→Prop) (X:List EnvR):Prop where
 env:∀ x ∈ X,EnvP P w0.heap.size W x.e x.L x.mo x.v
 sep:∀ i j (hi:i < X.length) (hj:j < X.length),i ≠ j→∀ q,X[i].own q→¬ X[j].own q
 base:∀ q,P q→w0.heap.size≤q
 lt:∀ q,P q→q < W.heap.size
 bel:Below w0.heap.size w0 W
theorem Many.start (w:World):Many w w (fun _=>False) []:=⟨fun x hx=>by simp at hx,fun i j hi=>by simp at hi,fun _ a=>a.elim,fun _ a=>a.elim,Below.refl _ _⟩
theorem Many.below {w0 W W':World} {P:Nat→Prop} {X:List EnvR} (h:Many w0 W P X) (b:Below W.heap.size W W'):Many w0 W' P X :=
 ⟨fun x hx=>(h.env x hx).below b,h.sep,h.base,fun q a=>Nat.lt_of_lt_of_le (h.lt q a) b.size,Trm.go h.bel b⟩
theorem Many.turn {w0 W W':World} {P P':Nat→Prop} {X:List EnvR} (h:Many w0 W P X) {i:Nat} (hi:i < X.length) {M:List Ent} {mo':Option Nat} {v':Value} (k:EnvP P' w0.heap.size W' X[i].e M mo' v') (s:Step P P' W W') (hran:RanS X[i].own W W') (hown:∀ q,ownE X[i].e v' mo' q→X[i].own q∨W.heap.size≤q):Many w0 W' P' (X.set i ⟨X[i].e,M,mo',v'⟩):=by
 have hltP:∀ q,P' q→q < W'.heap.size:=k.lt
 have hinv:∀ j (hj:j < X.length),∀ q,X[j].own q→q < W.heap.size:=fun j hj q a=>(h.env _ (List.getElem_mem hj)).env.own_lt q a
 refine ⟨fun x hx=>?_,fun a b ha hb hab q h1 h2=>?_,fun q hq=>?_,hltP,h.bel.trans (s.ran.below h.base h.bel.size)⟩
 ·obtain ⟨j,hj,rfl⟩:=List.mem_iff_getElem.1 hx
  have hj2:j < X.length:=by simpa using hj
  by_cases e:i=j
  ·subst e
   rw [List.getElem_set_self]
   exact k
  ·rw [List.getElem_set_ne e]
   exact (h.env _ (List.getElem_mem hj2)).other hran (fun q a=>(h.env _ (List.getElem_mem hi)).own q a) (fun q a b=>h.sep j i hj2 hi (Ne.symm e) q a b) s.own s.wide hltP
 ·have ha2:a < X.length:=by simpa using ha
  have hb2:b < X.length:=by simpa using hb
  by_cases ea:i=a
  ·subst ea
   rw [List.getElem_set_self] at h1
   rw [List.getElem_set_ne hab] at h2
   rcases hown q h1 with c | c
   ·exact h.sep i b ha2 hb2 hab q c h2
   ·have:=hinv b hb2 q h2; omega
  ·rw [List.getElem_set_ne ea] at h1
   by_cases eb:i=b
   ·subst eb
    rw [List.getElem_set_self] at h2
    rcases hown q h2 with c | c
    ·exact h.sep a i ha2 hb2 hab q h1 c
    ·have:=hinv a ha2 q h1; omega
   ·rw [List.getElem_set_ne eb] at h2
    exact h.sep a b ha2 hb2 hab q h1 h2
 ·rcases s.own q hq with c | c
  ·exact h.base q c
  ·exact Nat.le_trans h.bel.size c
def ManyAdd (w0:World) (P:Nat→Prop) (X:List EnvR) (i:Nat) (x:EnvR) (l:List Inf) (W:World) (y:Ending) (W':World):Prop :=
 y=.returned (.int .i64 (addA x.L l))∧∃ M mo' v' P',AddTo x.L l M∧Many w0 W' P' (X.set i ⟨x.e,M,mo',v'⟩)∧Step P P' W W'
theorem Many.add {w0 W:World} {P:Nat→Prop} {X:List EnvR} (h:Many w0 W P X) {i:Nat} (hi:i < X.length) (l:List Inf) (lo:Option Addr) (lc:Nat) (hr:InfFirm P W lo l) (hl:l.length≤1000000) (hrs:∀ x ∈ l,x.rules.length≤1000) :
 Calls Tryz.prog 30 #[.pointer (some ⟨X[i].e,0,none⟩),.slice lo l.length lc] W (ManyAdd w0 P X i X[i] l W) :=
 (addP_any (h.env _ (List.getElem_mem hi)) l lo lc hr hl hrs).mono fun _ _ ⟨hy,M,mo',v',P',h1,h2,h3,h4,h5,_⟩=>⟨hy,M,mo',v',P',h1,h.turn hi h2 h3 h4 h5,h3⟩
theorem Many.addOne {w0 W:World} {P:Nat→Prop} {X:List EnvR} (h:Many w0 W P X) {i:Nat} (hi:i < X.length) {x:Inf} {hx:IHd} (f:FirmI P W x hx) (hr:x.rules.length≤1000) :
 Calls Tryz.prog 30 #[.pointer (some ⟨X[i].e,0,none⟩),.slice (some ⟨W.heap.size,0,none⟩) 1 1] (W.alloc (.cells (x.vals hx).toArray 53)) (ManyAdd w0 P X i X[i] [x] W):=by
 have hb:Below W.heap.size W (W.alloc (.cells (x.vals hx).toArray 53)):=below_one _ _
 refine ((h.below hb).add hi [x] (some ⟨W.heap.size,0,none⟩) 1 (one_row f h.lt _) (by simp) (fun y hy=>by simp at hy; subst hy; exact hr)).mono ?_
 rintro y W' ⟨hy,M,mo',v',P',h1,h2,h3⟩
 exact ⟨hy,M,mo',v',P',h1,h2,(Step.of_below hb).trans h3⟩
theorem EnvB.base {B B':Nat} {w:World} {e:Nat} {L:List Ent} {mo:Option Nat} {v:Value} (h:EnvB B w e L mo v) (hB:B'≤B):EnvB B' w e L mo v :=
 ⟨h.box,row_base h.row hB,h.map,h.info,h.firm,h.nodup,h.apart,Nat.le_trans hB h.eB,h.hgt,h.few⟩
theorem Many.push {w0 W W':World} {P:Nat→Prop} {X:List EnvR} (h:Many w0 W P X) (b:Below W.heap.size W W') {e:Nat} {M:List Ent} {mo:Option Nat} {v:Value} (k:EnvB W.heap.size W' e M mo v) (hown:∀ q,ownE e v mo q→W.heap.size≤q)
 (hent:∀ p ∈ M,(∃ x ∈ X,p ∈ x.L)∨(W.heap.size≤p.1∧FirmI (fun q=>P q∨ownE e v mo q) W' p.2.1 p.2.2)):Many w0 W' (fun q=>P q∨ownE e v mo q) (X ++ [⟨e,M,mo,v⟩]):=by
 have hP:∀ q,(P q∨ownE e v mo q)→P q∨W.heap.size≤q:=fun q hq=>hq.imp id (hown q)
 have hl:∀ q,(P q∨ownE e v mo q)→q < W'.heap.size:=fun q hq=>by
  rcases hq with a | a
  ·exact Nat.lt_of_lt_of_le (h.lt q a) b.size
  ·exact k.own_lt q a
 have hold:∀ j (hj:j < X.length),∀ q,X[j].own q→q < W.heap.size:=fun j hj q a=>(h.env _ (List.getElem_mem hj)).env.own_lt q a
 have hran:RanS (fun _=>False) W W':=RanS.of_below b
 refine ⟨fun x hx=>?_,fun i j hi hj hij q h1 h2=>?_,fun q hq=>?_,hl,Trm.go h.bel b⟩
 ·rcases List.mem_append.1 hx with hx | hx
  ·exact (h.env x hx).other hran (fun _ a=>a.elim) (fun _ _ a=>a) hP (fun q a=>Or.inl a) hl
  ·simp at hx
   subst hx
   refine ⟨k.base h.bel.size,fun q a=>Or.inr a,hl,fun p hp=>?_⟩
   rcases hent p hp with ⟨x,hx,hpx⟩ | ⟨hp1,hp2⟩
   ·obtain ⟨h1,h2⟩:=(h.env x hx).ent p hpx
    have hlt:=((h.env x hx).env.info p hpx).1.lt
    refine ⟨fun a=>?_,h2.turn (RanS.of_below b) hP⟩
    rcases a with a | a
    ·exact h1 a
    ·have:=hown _ a; omega
   ·refine ⟨fun a=>?_,hp2⟩
    rcases a with a | a
    ·have:=h.lt _ a; omega
    ·exact (k.info p hp).2 a
 ·rw [List.length_append,List.length_singleton] at hi hj
  by_cases e1:i < X.length
  ·rw [List.getElem_append_left e1] at h1
   by_cases e2:j < X.length
   ·rw [List.getElem_append_left e2] at h2
    exact h.sep i j e1 e2 hij q h1 h2
   ·rw [List.getElem_append_right (by omega)] at h2
    simp at h2
    have:=hold i e1 q h1
    have:=hown q h2
    omega
  ·rw [List.getElem_append_right (by omega)] at h1
   simp at h1
   by_cases e2:j < X.length
   ·rw [List.getElem_append_left e2] at h2
    have:=hold j e2 q h2
    have:=hown q h1
    omega
   ·omega
 ·rcases hP q hq with a | a
  ·exact h.base q a
  ·exact Nat.le_trans h.bel.size a
theorem Many.new {w0 W:World} {P:Nat→Prop} {X:List EnvR} (h:Many w0 W P X):Many w0 (W.alloc (.cells #[.map none,.slice none 0 0] 110)) (fun q=>P q∨ownE W.heap.size (.slice none 0 0) none q) (X ++ [⟨W.heap.size,[],none,.slice none 0 0⟩]) :=
 h.push (below_one _ _) (EnvB.start (Nat.le_refl _)) (fun q hq=>by
  rcases hq with a | a | a
  ·omega
  ·simp [Value.ownBlock] at a
  ·cases a) (fun p hp=>by simp at hp)
end Env
end Go.Proofs.YtmngddomnaaedaaGreat
namespace Go.Proofs.YtmngddomnaaedaaGreat
open Go.RowKit Go.Shelf Go.Maps Lvl Trm Env
namespace Typ
class Xt where
 B:Nat
instance Xt.none:Xt:=⟨0⟩
structure Lt [Typ.Xt] (P:Nat→Prop) (w:World):Prop where
 lt:∀ q,P q→q < w.heap.size
 B:Xt.B≤w.heap.size
instance Lt.fn [Xt] {P:Nat→Prop} {w:World}:CoeFun (Lt P w) (fun _=>∀ q,P q→q < w.heap.size):=⟨fun h=>h.lt⟩
def RanX [Typ.Xt] (P:Nat→Prop) (w w':World):Prop:=RanS (fun q=>P q∧Xt.B≤q) w w'
theorem RanX.ran [Typ.Xt] {P:Nat→Prop} {w w':World} (h:RanX P w w'):RanS P w w':=⟨h.os,h.tape,h.output,h.size,fun k hk hn=>h.block k hk (fun a=>hn a.1)⟩
theorem RanX.of_below [Typ.Xt] {P:Nat→Prop} {w w':World} (h:Below w.heap.size w w'):RanX P w w':=RanS.of_below h
theorem RanX.refl [Typ.Xt] (P:Nat→Prop) (w:World):RanX P w w:=RanS.refl _ _
inductive Ch
 | dat (v:Value)
 | lv (l:Lv)
 | tm (t:Tm)
 | lvs (l:List Lv)
 | tms (l:List Tm)
 | rls (l:List Rl)
 | infs (l:List Inf)
 | env (L:List Inf)
 | cut (l:List Tm)
 | spines (l:List (Tm × Int × List Tm))
 | tmss (l:List (List Tm))
 | tmsC (l:List Tm)
 | strs (l:List ByteArray)
 | nmf (s:ByteArray)
structure LRowP (P:Nat→Prop) (w:World) (lo:Option Addr) (l:List Lv):Prop where
 place:∀ k (hk:k < l.length),∃ b off,lo=some ⟨b,off,none⟩∧b < w.heap.size∧¬ P b∧w.rangeAt b (off + k * 5) l[k].list5
structure EnvF [Typ.Xt] (P:Nat→Prop) (w:World) (e:Nat) (L:List Ent) (mo:Option Nat) (v:Value):Prop where
 env:EnvP (fun q=>(P q∧q < w.heap.size)∨ownE e v mo q) 0 w e L mo v
 own:∀ q,ownE e v mo q→P q→q < Xt.B
 rules:∀ p ∈ L,p.2.1.rules.length≤1000
theorem EnvF.turn [Typ.Xt] {P P':Nat→Prop} {w w':World} {e:Nat} {L:List Ent} {mo:Option Nat} {v:Value} (h:EnvF P w e L mo v) (hr:RanX P w w') (hP:∀ q,P' q→P q∨w.heap.size≤q):EnvF P' w' e L mo v:=by
 have hown:∀ q,ownE e v mo q→P' q→q < Xt.B:=fun q a b=>by
  rcases hP q b with c | c
  ·exact h.own q a c
  ·have:=h.env.lt q (Or.inr a); omega
 have hr2:RanS (fun q=>(P q∧Xt.B≤q)∧q < w.heap.size) w w':=⟨hr.os,hr.tape,hr.output,hr.size,fun k hk hn=>hr.block k hk (fun a=>hn ⟨a,hk⟩)⟩
 have big:=h.env.other (P':=fun q=>((P q∨P' q)∧q < w'.heap.size)∨ownE e v mo q) hr2 (fun q a=>Or.inl ⟨a.1.1,a.2⟩) (fun q a b=>by have:=h.own q a b.1.1; have:=b.1.2; omega) (fun q a=>by
  rcases a with ⟨a | a,_⟩ | a
  ·by_cases hq:q < w.heap.size
   ·exact Or.inl (Or.inl ⟨a,hq⟩)
   ·exact Or.inr (by omega)
  ·rcases hP q a with c | c
   ·by_cases hq:q < w.heap.size
    ·exact Or.inl (Or.inl ⟨c,hq⟩)
    ·exact Or.inr (by omega)
   ·exact Or.inr c
  ·exact Or.inl (Or.inr a)) (fun q a=>a.imp (fun b=>⟨Or.inl b.1,Nat.lt_of_lt_of_le b.2 hr.size⟩) id) (fun q a=>by
  rcases a with a | a
  ·exact a.2
  ·exact Nat.lt_of_lt_of_le (h.env.lt q (Or.inr a)) hr.size)
 refine ⟨⟨big.env,fun q a=>Or.inr a,fun q a=>?_,fun p hp=>?_⟩,hown,h.rules⟩
 ·exact big.lt q (a.imp (fun b=>⟨Or.inr b.1,b.2⟩) id)
 ·obtain ⟨h1,h2⟩:=big.ent p hp
  exact ⟨fun a=>h1 (a.imp (fun b=>⟨Or.inr b.1,b.2⟩) id),h2.turn (RanS.refl _ _) (fun q a=>Or.inl (a.imp (fun b=>⟨Or.inr b.1,b.2⟩) id))⟩
def CutOk (P:Nat→Prop) (w:World) (l:List Tm) (v:Value):Prop :=
 ∃ b lo lc,v=.func (.func 80) #[] #[.pointer (some ⟨b,0,none⟩)]∧b < w.heap.size∧¬ P b∧w.heap[b]?=some (.cells #[.slice lo l.length lc] 23 (0,0))∧RowP P w lo l∧l.length≤lc
theorem CutOk.turn {P P':Nat→Prop} {w w':World} {l:List Tm} {v:Value} (h:CutOk P w l v) (hr:RanS P w w') (hP:∀ q,P' q→P q∨w.heap.size≤q) (hrow:∀ {lo:Option Addr},RowP P w lo l→RowP P' w' lo l):CutOk P' w' l v:=by
 obtain ⟨b,lo,lc,h1,h2,h3,h4,h5,h6⟩:=h
 exact ⟨b,lo,lc,h1,Nat.lt_of_lt_of_le h2 hr.size,fun a=>by rcases hP b a with c | c; exact h3 c; omega,hr.keep h4 h3,hrow h5,h6⟩
def NmfOk (P:Nat→Prop) (w:World) (s:ByteArray) (v:Value):Prop :=
 ∃ b,v=.func (.func 82) #[] #[.pointer (some ⟨b,0,none⟩)]∧b < w.heap.size∧¬ P b∧w.cell? ⟨b,1,none⟩=some (.string s)
theorem NmfOk.turn {P P':Nat→Prop} {w w':World} {s:ByteArray} {v:Value} (h:NmfOk P w s v) (hr:RanS P w w') (hP:∀ q,P' q→P q∨w.heap.size≤q):NmfOk P' w' s v:=by
 obtain ⟨b,h1,h2,h3,h4⟩:=h
 exact ⟨b,h1,Nat.lt_of_lt_of_le h2 hr.size,fun a=>by rcases hP b a with c | c; exact h3 c; omega,(hr.cell (p:=⟨b,1,none⟩) h2 h3).trans h4⟩
structure SpRow (P:Nat→Prop) (w:World) (lo:Option Addr) (l:List (Tm × Int × List Tm)):Prop where
 place:∀ k (hk:k < l.length),∃ b off h c,lo=some ⟨b,off,none⟩∧b < w.heap.size∧¬ P b∧w.rangeAt b (off + k * 7) (Env.five l[k].1 h ++ [.int .i64 l[k].2.1,c])∧FirmS P w l[k].1 h∧CutOk P w l[k].2.2 c
structure RRowP (P:Nat→Prop) (w:World) (lo:Option Addr) (l:List (List Tm)):Prop where
 place:∀ k (hk:k < l.length),∃ b off lo' lc',lo=some ⟨b,off,none⟩∧b < w.heap.size∧¬ P b∧w.cell? ⟨b,off + k,none⟩=some (.slice lo' l[k].length lc')∧RowP P w lo' l[k]
structure StrRow (P:Nat→Prop) (w:World) (lo:Option Addr) (l:List ByteArray):Prop where
 place:∀ k (hk:k < l.length),∃ b off,lo=some ⟨b,off,none⟩∧b < w.heap.size∧¬ P b∧w.cell? ⟨b,off + k,none⟩=some (.string l[k])
def Ch.Ok [Typ.Xt] (P:Nat→Prop) (w:World):Ch→List Value→Prop
 | .dat v,vs=>vs=[v]∧v.oneCell'=true
 | .lv l,vs=>vs=l.list5
 | .tm t,vs=>∃ h,vs=Env.five t h∧FirmS P w t h
 | .lvs l,vs=>∃ lo lc,vs=[.slice lo l.length lc]∧LRowP P w lo l∧l.length≤lc
 | .tms l,vs=>∃ lo lc,vs=[.slice lo l.length lc]∧RowP P w lo l
 | .rls l,vs=>∃ lo lc,vs=[.slice lo l.length lc]∧FirmR P w lo l
 | .infs l,vs=>∃ lo lc,vs=[.slice lo l.length lc]∧InfFirm P w lo l
 | .env L,vs=>∃ e mo v E,vs=[.pointer (some ⟨e,0,none⟩)]∧Env.infs E=L∧EnvF P w e E mo v
 | .cut l,vs=>∃ v,vs=[v]∧CutOk P w l v
 | .spines l,vs=>∃ lo lc,vs=[.slice lo l.length lc]∧SpRow P w lo l
 | .tmss l,vs=>∃ lo lc,vs=[.slice lo l.length lc]∧RRowP P w lo l
 | .tmsC l,vs=>∃ lo lc,vs=[.slice lo l.length lc]∧RowP P w lo l∧l.length≤lc
 | .strs l,vs=>∃ lo lc,vs=[.slice lo l.length lc]∧StrRow P w lo l
 | .nmf s,vs=>∃ v,vs=[v]∧NmfOk P w s v
def Ok [Typ.Xt] (P:Nat→Prop) (w:World):List Ch→List Value→Prop
 | [],vs=>vs=[]
 | c :: r,vs=>∃ x y,vs=x ++ y∧c.Ok P w x∧Ok P w r y
def Ch.size:Ch→Nat
 | .tm _=>5
 | .lv _=>5
 | _=>1
def tot:List Ch→Nat
 | []=>0
 | c :: r=>c.size + tot r
theorem LRowP.turn {P P':Nat→Prop} {w w':World} {lo:Option Addr} {l:List Lv} (h:LRowP P w lo l) (hr:RanS P w w') (hP:∀ q,P' q→P q∨w.heap.size≤q):LRowP P' w' lo l:=⟨fun k hk=>by
 obtain ⟨b,off,h1,h2,h3,h4⟩:=h.place k hk
 exact ⟨b,off,h1,Nat.lt_of_lt_of_le h2 hr.size,fun hp=>by rcases hP b hp with a | a; exact h3 a; omega,range_ran h4 hr h2 h3⟩⟩
theorem RowP_turn {P P':Nat→Prop} {w w':World} {lo:Option Addr} {l:List Tm} (h:RowP P w lo l) (hr:RanS P w w') (hP:∀ q,P' q→P q∨w.heap.size≤q):RowP P' w' lo l:=fun k hk=>by
 obtain ⟨b,off,h1,h2,h3,hx,h4,h5⟩:=h k hk
 exact ⟨b,off,h1,Nat.lt_of_lt_of_le h2 hr.size,fun hp=>by rcases hP b hp with a | a; exact h3 a; omega,hx,h4.ranS hr h2 h3,firm_turnE h5 hr hP⟩
theorem SpRow.turn {P P':Nat→Prop} {w w':World} {lo:Option Addr} {l:List (Tm × Int × List Tm)} (h:SpRow P w lo l) (hr:RanS P w w') (hP:∀ q,P' q→P q∨w.heap.size≤q):SpRow P' w' lo l:=⟨fun k hk=>by
 obtain ⟨b,off,hd,c,h1,h2,h3,h4,h5,h6⟩:=h.place k hk
 exact ⟨b,off,hd,c,h1,Nat.lt_of_lt_of_le h2 hr.size,fun hp=>by rcases hP b hp with a | a; exact h3 a; omega,range_ran h4 hr h2 h3,firm_turnE h5 hr hP,h6.turn hr hP (fun r=>RowP_turn r hr hP)⟩⟩
theorem RRowP.turn {P P':Nat→Prop} {w w':World} {lo:Option Addr} {l:List (List Tm)} (h:RRowP P w lo l) (hr:RanS P w w') (hP:∀ q,P' q→P q∨w.heap.size≤q):RRowP P' w' lo l:=⟨fun k hk=>by
 obtain ⟨b,off,lo',lc',h1,h2,h3,h4,h5⟩:=h.place k hk
 exact ⟨b,off,lo',lc',h1,Nat.lt_of_lt_of_le h2 hr.size,fun hp=>by rcases hP b hp with a | a; exact h3 a; omega,(hr.cell (p:=⟨b,off + k,none⟩) h2 h3).trans h4,RowP_turn h5 hr hP⟩⟩
theorem StrRow.turn {P P':Nat→Prop} {w w':World} {lo:Option Addr} {l:List ByteArray} (h:StrRow P w lo l) (hr:RanS P w w') (hP:∀ q,P' q→P q∨w.heap.size≤q):StrRow P' w' lo l:=⟨fun k hk=>by
 obtain ⟨b,off,h1,h2,h3,h4⟩:=h.place k hk
 exact ⟨b,off,h1,Nat.lt_of_lt_of_le h2 hr.size,fun hp=>by rcases hP b hp with a | a; exact h3 a; omega,(hr.cell (p:=⟨b,off + k,none⟩) h2 h3).trans h4⟩⟩
theorem Ch.Ok.turn [Typ.Xt] {P P':Nat→Prop} {w w':World} {c:Ch} {vs:List Value} (h:c.Ok P w vs) (hr:RanX P w w') (hP:∀ q,P' q→P q∨w.heap.size≤q):c.Ok P' w' vs:=by
 cases c with
 | dat v=>exact h
 | lv l=>exact h
 | tm t=>obtain ⟨x,h1,h2⟩:=h; exact ⟨x,h1,firm_turnE h2 hr.ran hP⟩
 | lvs l=>obtain ⟨lo,lc,h1,h2,h3⟩:=h; exact ⟨lo,lc,h1,h2.turn hr.ran hP,h3⟩
 | tms l=>obtain ⟨lo,lc,h1,h2⟩:=h; exact ⟨lo,lc,h1,RowP_turn h2 hr.ran hP⟩
 | rls l=>obtain ⟨lo,lc,h1,h2⟩:=h; exact ⟨lo,lc,h1,h2.turn hr.ran hP⟩
 | infs l=>obtain ⟨lo,lc,h1,h2⟩:=h; exact ⟨lo,lc,h1,h2.turn hr.ran hP⟩
 | env L=>obtain ⟨e,mo,v,E,h1,h0,h2⟩:=h; exact ⟨e,mo,v,E,h1,h0,h2.turn hr hP⟩
 | cut l=>obtain ⟨v,h1,h2⟩:=h; exact ⟨v,h1,h2.turn hr.ran hP (fun r=>RowP_turn r hr.ran hP)⟩
 | spines l=>obtain ⟨lo,lc,h1,h2⟩:=h; exact ⟨lo,lc,h1,h2.turn hr.ran hP⟩
 | tmss l=>obtain ⟨lo,lc,h1,h2⟩:=h; exact ⟨lo,lc,h1,h2.turn hr.ran hP⟩
 | tmsC l=>obtain ⟨lo,lc,h1,h2,h3⟩:=h; exact ⟨lo,lc,h1,RowP_turn h2 hr.ran hP,h3⟩
 | strs l=>obtain ⟨lo,lc,h1,h2⟩:=h; exact ⟨lo,lc,h1,h2.turn hr.ran hP⟩
 | nmf s=>obtain ⟨v,h1,h2⟩:=h; exact ⟨v,h1,h2.turn hr.ran hP⟩
theorem Ok.turn [Typ.Xt] {P P':Nat→Prop} {w w':World} (hr:RanX P w w') (hP:∀ q,P' q→P q∨w.heap.size≤q):∀ {l:List Ch} {vs:List Value},Ok P w l vs→Ok P' w' l vs
 | [],_,h=>h
 | _ :: _,_,⟨x,y,h1,h2,h3⟩=>⟨x,y,h1,h2.turn hr hP,Ok.turn hr hP h3⟩
theorem Ch.Ok.len [Typ.Xt] {P:Nat→Prop} {w:World} {c:Ch} {vs:List Value} (h:c.Ok P w vs):vs.length=c.size∧vs.all (·.oneCell')=true:=by
 cases c with
 | dat v=>obtain ⟨rfl,h2⟩:=h; simp [Ch.size,h2]
 | lv l=>cases h; simp [Ch.size,Lv.list5,Value.oneCell']
 | tm t=>obtain ⟨x,rfl,h2⟩:=h; simp [Ch.size,Env.five,Value.oneCell']
 | lvs l=>obtain ⟨lo,lc,rfl,h2⟩:=h; simp [Ch.size,Value.oneCell']
 | tms l=>obtain ⟨lo,lc,rfl,h2⟩:=h; simp [Ch.size,Value.oneCell']
 | rls l=>obtain ⟨lo,lc,rfl,h2⟩:=h; simp [Ch.size,Value.oneCell']
 | infs l=>obtain ⟨lo,lc,rfl,h2⟩:=h; simp [Ch.size,Value.oneCell']
 | env L=>obtain ⟨e,mo,v,E,rfl,h0,h2⟩:=h; simp [Ch.size,Value.oneCell']
 | cut l=>obtain ⟨v,rfl,b,lo,lc,rfl,_⟩:=h; simp [Ch.size,Value.oneCell']
 | spines l=>obtain ⟨lo,lc,rfl,h2⟩:=h; simp [Ch.size,Value.oneCell']
 | tmss l=>obtain ⟨lo,lc,rfl,h2⟩:=h; simp [Ch.size,Value.oneCell']
 | tmsC l=>obtain ⟨lo,lc,rfl,h2⟩:=h; simp [Ch.size,Value.oneCell']
 | strs l=>obtain ⟨lo,lc,rfl,h2⟩:=h; simp [Ch.size,Value.oneCell']
 | nmf s=>obtain ⟨v,rfl,b,rfl,_⟩:=h; simp [Ch.size,Value.oneCell']
theorem Ok.len [Typ.Xt] {P:Nat→Prop} {w:World}:∀ {l:List Ch} {vs:List Value},Ok P w l vs→vs.length=tot l∧vs.all (·.oneCell')=true
 | [],_,h=>by cases h; exact ⟨rfl,rfl⟩
 | c :: r,_,⟨x,y,h1,h2,h3⟩=>by
   subst h1
   obtain ⟨a1,a2⟩:=h2.len
   obtain ⟨b1,b2⟩:=Ok.len h3
   exact ⟨by simp [tot,a1,b1],by simp only [List.all_append,a2,b2,Bool.and_true]⟩
theorem Ok.append [Typ.Xt] {P:Nat→Prop} {w:World}:∀ {l m:List Ch} {vs:List Value},Ok P w (l ++ m) vs ↔ ∃ x y,vs=x ++ y∧Ok P w l x∧Ok P w m y
 | [],m,vs=>⟨fun h=>⟨[],vs,rfl,rfl,h⟩,fun ⟨x,y,h1,h2,h3⟩=>by cases h2; subst h1; exact h3⟩
 | c :: r,m,vs=>by
   constructor
   ·rintro ⟨x,y,h1,h2,h3⟩
    obtain ⟨u,v,h4,h5,h6⟩:=Ok.append.1 h3
    exact ⟨x ++ u,v,by rw [h1,h4,List.append_assoc],⟨x,u,rfl,h2,h5⟩,h6⟩
   ·rintro ⟨x,y,h1,⟨u,v,h4,h5,h6⟩,h3⟩
    exact ⟨u,v ++ y,by rw [h1,h4,List.append_assoc],h5,Ok.append.2 ⟨v,y,rfl,h6,h3⟩⟩
def VOk [Typ.Xt] (P:Nat→Prop) (w:World) (s:Bool) (l:List Ch) (v:Value):Prop:=∃ vs,Ok P w l vs∧((s=true∧v=.agg vs.toArray)∨(s=false∧vs=[v]))
theorem VOk.turn [Typ.Xt] {P P':Nat→Prop} {w w':World} {s:Bool} {l:List Ch} {v:Value} (h:VOk P w s l v) (hr:RanX P w w') (hP:∀ q,P' q→P q∨w.heap.size≤q):VOk P' w' s l v:=by
 obtain ⟨vs,h1,h2⟩:=h
 exact ⟨vs,h1.turn hr hP,h2⟩
theorem VOk.cells [Typ.Xt] {P:Nat→Prop} {w:World} {s:Bool} {l:List Ch} {v:Value} (h:VOk P w s l v):Ok P w l v.cells.toList:=by
 obtain ⟨vs,h1,⟨_,rfl⟩ | ⟨_,rfl⟩⟩:=h
 ·simpa [Value.cells] using h1
 ·have h2:=h1.len.2
  simp only [List.all_cons,List.all_nil,Bool.and_true] at h2
  have:v.cells.toList=[v]:=by cases v <;> first | rfl | cases h2
  rwa [this]
theorem vok_tm [Typ.Xt] {P:Nat→Prop} {w:World} {t:Tm} {h:Hd} (f:FirmS P w t h):VOk P w true [.tm t] (t.val h):=⟨Env.five t h,⟨Env.five t h,[],by simp,⟨h,rfl,f⟩,rfl⟩,Or.inl ⟨rfl,rfl⟩⟩
theorem vok_lv [Typ.Xt] {P:Nat→Prop} {w:World} {l:Lv}:VOk P w true [.lv l] l.val:=⟨l.list5,⟨l.list5,[],by simp,rfl,rfl⟩,Or.inl ⟨rfl,rfl⟩⟩
def fitB (k n:Int) (s:ByteArray) (ls:List Lv) (ts:List Tm):Bool:=decide (0≤k) && decide (k≤255) && decide (-9223372036854775808≤n) && decide (n≤9223372036854775807) && decide (s.size≤9223372036854775807) && decide (ls.length≤1000000) && decide (ts.length≤1000000)
theorem firm_five {P:Nat→Prop} {w:World} {k n:Int} {s:ByteArray} {ls:List Lv} {ts:List Tm} {lo tq:Option Addr} {lc tc:Nat} (hf:fitB k n s ls ts=true) (h1':LRowP P w lo ls∧ls.length≤lc) (h2:RowP P w tq ts):FirmS P w (.mk k n s ls ts) ⟨lo,lc,tq,tc⟩:=fun w' hr=>by
 have h1:=h1'.1
 simp only [fitB,Bool.and_eq_true,decide_eq_true_eq] at hf
 obtain ⟨⟨⟨⟨⟨⟨a1,a2⟩,a3⟩,a4⟩,a5⟩,a6⟩,a7⟩:=hf
 refine Tm.In_iff.2 ⟨⟨a1,a2,a3,a4,a5,by simp only [Tm.ls]; omega,by simp only [Tm.ts]; omega⟩,⟨fun i hi=>?_⟩,fun hn a ha=>?_,RowIn.mk fun i hi=>?_,h1'.2⟩
 ·obtain ⟨b,off,b1,b2,b3,b4⟩:=h1.place i hi
  have b5:=range_ran b4 hr b2 b3
  exact ⟨b,off,b1,b5 0 _ rfl,b5 1 _ rfl,b5 2 _ rfl,b5 3 _ rfl,b5 4 _ rfl⟩
 ·obtain ⟨b,off,b1,b2,b3,b4⟩:=h1.place 0 hn
  have ha:lo=some a:=ha
  rw [b1] at ha
  cases ha
  exact Nat.lt_of_lt_of_le b2 hr.size
 ·obtain ⟨b,off,b1,b2,b3,hx,b4,b5⟩:=h2 i hi
  exact ⟨b,off,b1,Nat.lt_of_lt_of_le b2 hr.size,hx,by have h6:=b4.ranS hr b2 b3; rw [Nat.zero_add]; exact h6,b5 w' hr⟩
def asLvs:Ch→Option (List Lv)
 | .lvs l=>some l
 | .dat (.slice none 0 0)=>some []
 | _=>none
def asTms:Ch→Option (List Tm)
 | .tms l=>some l
 | .tmsC l=>some l
 | .dat (.slice none 0 0)=>some []
 | _=>none
def asRls:Ch→Option (List Rl)
 | .rls l=>some l
 | .dat (.slice none 0 0)=>some []
 | _=>none
theorem asLvs_ok [Typ.Xt] {P:Nat→Prop} {w:World} {c:Ch} {l:List Lv} {vs:List Value} (h:asLvs c=some l) (k:c.Ok P w vs):∃ lo lc,vs=[.slice lo l.length lc]∧LRowP P w lo l∧l.length≤lc:=by
 unfold asLvs at h
 split at h
 ·cases h; exact k
 ·cases h; exact ⟨none,0,k.1,⟨fun k hk=>by simp at hk⟩,Nat.le_refl _⟩
 ·cases h
theorem asTms_ok [Typ.Xt] {P:Nat→Prop} {w:World} {c:Ch} {l:List Tm} {vs:List Value} (h:asTms c=some l) (k:c.Ok P w vs):∃ lo lc,vs=[.slice lo l.length lc]∧RowP P w lo l:=by
 unfold asTms at h
 split at h
 ·cases h; exact k
 ·cases h; obtain ⟨lo,lc,h1,h2,_⟩:=k; exact ⟨lo,lc,h1,h2⟩
 ·cases h; exact ⟨none,0,k.1,fun k hk=>by simp at hk⟩
 ·cases h
theorem asRls_ok [Typ.Xt] {P:Nat→Prop} {w:World} {c:Ch} {l:List Rl} {vs:List Value} (h:asRls c=some l) (k:c.Ok P w vs):∃ lo lc,vs=[.slice lo l.length lc]∧FirmR P w lo l:=by
 unfold asRls at h
 split at h
 ·cases h; exact k
 ·cases h; exact ⟨none,0,k.1,⟨fun k hk=>by simp at hk⟩⟩
 ·cases h
def toTm:List Ch→Option Tm
 | [.tm t]=>some t
 | [.dat (.int .u8 k),.dat (.int .i64 n),.dat (.string s),a,b]=>match asLvs a,asTms b with
   | some ls,some ts=>if fitB k n s ls ts then some (.mk k n s ls ts) else none
   | _,_=>none
 | _=>none
theorem toTm_ok [Typ.Xt] {P:Nat→Prop} {w:World} {l:List Ch} {t:Tm} {vs:List Value} (h:toTm l=some t) (k:Ok P w l vs):∃ x,vs=Env.five t x∧FirmS P w t x:=by
 unfold toTm at h
 split at h
 ·cases h
  obtain ⟨x,y,rfl,⟨z,rfl,h2⟩,h3⟩:=k
  cases h3
  exact ⟨z,by simp,h2⟩
 ·obtain ⟨x0,y0,rfl,⟨rfl,_⟩,x1,y1,rfl,⟨rfl,_⟩,x2,y2,rfl,⟨rfl,_⟩,x3,y3,rfl,k3,x4,y4,rfl,k4,rfl⟩:=k
  split at h
  ·rename_i ha hb
   obtain ⟨lo,lc,rfl,g1⟩:=asLvs_ok ha k3
   obtain ⟨tq,tc,rfl,g2⟩:=asTms_ok hb k4
   split at h
   ·rename_i hfit
    cases h
    exact ⟨⟨lo,lc,tq,tc⟩,by simp [Env.five,Tm.k,Tm.n,Tm.s,Tm.ls,Tm.ts],firm_five hfit g1 g2⟩
   ·cases h
  ·cases h
 ·cases h
def toLv:List Ch→Option Lv
 | [.lv l]=>some l
 | _=>none
theorem toLv_ok [Typ.Xt] {P:Nat→Prop} {w:World} {l:List Ch} {t:Lv} {vs:List Value} (h:toLv l=some t) (k:Ok P w l vs):vs=t.list5:=by
 unfold toLv at h
 split at h
 ·cases h
  obtain ⟨x,y,rfl,h2,h3⟩:=k
  cases h2
  cases h3
  simp
 ·cases h
def toRl:List Ch→Option Rl
 | [.dat (.string s),.dat (.int .i64 f),.tm t]=>some ⟨s,f,t⟩
 | _=>none
theorem toRl_ok [Typ.Xt] {P:Nat→Prop} {w:World} {l:List Ch} {t:Rl} {vs:List Value} (h:toRl l=some t) (k:Ok P w l vs):∃ x,vs=t.vals x∧FirmS P w t.body x:=by
 unfold toRl at h
 split at h
 ·cases h
  obtain ⟨x0,y0,rfl,⟨rfl,_⟩,x1,y1,rfl,⟨rfl,_⟩,x2,y2,rfl,⟨z,rfl,k2⟩,rfl⟩:=k
  exact ⟨z,by simp [Rl.vals],k2⟩
 ·cases h
def toInf:List Ch→Option Inf
 | [.dat (.int .u8 kind),.dat (.string name),.dat (.int .i64 params),.tm ty,.tm va,.dat (.int .i64 height),.dat (.string block),.dat (.string of_),.dat (.int .i64 fixed),.dat (.int .i64 index),.dat (.int .i64 no),.dat (.int .i64 fields),.dat (.int .i64 motives),.dat (.int .i64 minors),r,.dat (.int .i64 ctors),.dat (.bool record)]=>match asRls r with
   | some rules=>if decide (0≤kind) && decide (kind≤255) && decide (name.size≤9223372036854775807) && decide (rules.length≤9223372036854775807) then some ⟨kind,name,params,ty,va,height,block,of_,fixed,index,no,fields,motives,minors,rules,ctors,record⟩ else none
   | none=>none
 | _=>none
theorem toInf_ok [Typ.Xt] {P:Nat→Prop} {w:World} {l:List Ch} {t:Inf} {vs:List Value} (h:toInf l=some t) (k:Ok P w l vs):∃ x,vs=t.vals x∧FirmI P w t x:=by
 unfold toInf at h
 split at h
 ·obtain ⟨_,_,rfl,⟨rfl,_⟩,_,_,rfl,⟨rfl,_⟩,_,_,rfl,⟨rfl,_⟩,_,_,rfl,⟨h3,rfl,f3⟩,_,_,rfl,⟨h4,rfl,f4⟩,_,_,rfl,⟨rfl,_⟩,_,_,rfl,⟨rfl,_⟩,_,_,rfl,⟨rfl,_⟩,_,_,rfl,⟨rfl,_⟩,_,_,rfl,⟨rfl,_⟩,_,_,rfl,⟨rfl,_⟩,_,_,rfl,⟨rfl,_⟩,_,_,rfl,⟨rfl,_⟩,_,_,rfl,⟨rfl,_⟩,_,_,rfl,hr,_,_,rfl,⟨rfl,_⟩,_,_,rfl,⟨rfl,_⟩,rfl⟩:=k
  split at h
  ·rename_i ha
   obtain ⟨ro,rc,rfl,g1⟩:=asRls_ok ha hr
   split at h
   ·rename_i hfit
    cases h
    simp only [Bool.and_eq_true,decide_eq_true_eq] at hfit
    obtain ⟨⟨⟨a1,a2⟩,a3⟩,a4⟩:=hfit
    exact ⟨⟨h3,h4,ro,rc⟩,by simp [Inf.vals],⟨⟨a1,a2,a3,a4⟩,f3,f4,g1⟩⟩
   ·cases h
  ·cases h
 ·cases h
end Typ
end Go.Proofs.YtmngddomnaaedaaGreat
