/-
 What battenref08's makers answer,by shapes.
-/
import Derived.Lib.Hide
import Derived.Test.YtmngddomnaaedaaGreatQB29
import Derived.IntWalk
import Derived.Test.YtmngddomnaaedaaGreatQB28
import Derived.Test.YtmngddomnaaedaaGreatQB7
import Derived.Test.YtmngddomnaaedaaGreatQB15
open Go.Lib (hid)
set_option maxRecDepth 100000
set_option maxHeartbeats 32000000
namespace Go.Proofs.YtmngddomnaaedaaGreat
open Go.RowKit Go.Shelf Go.Maps Lvl Trm Env
namespace Typ
theorem par_ok [Typ.Xt] {sp:Spec} {n:Nat} {ov:List (Nat × Bool)} {mu ow:List Nat} (h:SpecOk sp):ParOk ⟨sp,n,ov,mu,false,ow⟩:=⟨h,fun a=>by cases a⟩
theorem St.par [Typ.Xt] {P0:Nat→Prop} {w0:World} {p q:Par} {T:Tbl Sl} {a:Act} {w:World} (k:St P0 w0 p T a w) (hn:p.n=q.n) (hm:p.mu=q.mu):St P0 w0 q T a w :=
 ⟨k.defers,k.size.trans hn,k.refs,fun t ty l hl=>by have:=k.mus t ty l hl; unfold Par.isM at this ⊢; rw [← hm]; exact this,k.ex⟩
def spNil:Spec:=fun _ _=>none
theorem spNil_ok [Typ.Xt]:SpecOk spNil:=⟨(fun _ _ _ h=>by cases h),(fun _ _ _ h=>by cases h)⟩
def spCons (f:FuncId) (g:List (Bool × List Ch)→Option (Sl × Bool)) (sp:Spec):Spec:=fun f' ss=>if Nat.beq f' f then g ss else sp f' ss
theorem spCons_ok [Typ.Xt] {f:FuncId} {g:List (Bool × List Ch)→Option (Sl × Bool)} {sp:Spec} (h:SpecOk sp) (he:∀ args w,(callFunc f args).run Tryz.prog w=.ok (.enter f args) w)
 (hc:∀ ss r,g ss=some (r,true)→∀ (P:Nat→Prop) w vs,Typ.Lt P w→VArgs P w ss vs→Calls Tryz.prog f vs.toArray w (MadeV P w r)):SpecOk (spCons f g sp):=by
 constructor
 ·intro f' ss r hr args w
  unfold spCons at hr
  split at hr
  ·rename_i hb
   cases Nat.eq_of_beq_eq_true hb
   exact he args w
  ·exact h.enter f' ss r hr args w
 ·intro f' ss r hr
  unfold spCons at hr
  split at hr
  ·rename_i hb
   cases Nat.eq_of_beq_eq_true hb
   exact hc ss r hr
  ·exact h.calls f' ss r hr
theorem arg_tm [Typ.Xt] {P:Nat→Prop} {w:World} {l:List Ch} {t:Tm} {v:Value} (ht:toTm l=some t) (h:VOk P w true l v):∃ x,v=t.val x∧FirmS P w t x:=by
 obtain ⟨vs,h1,⟨_,rfl⟩ | ⟨e,_⟩⟩:=h
 ·obtain ⟨x,rfl,f⟩:=toTm_ok ht h1
  exact ⟨x,rfl,f⟩
 ·cases e
theorem arg_lv [Typ.Xt] {P:Nat→Prop} {w:World} {l:List Ch} {t:Lv} {v:Value} (ht:toLv l=some t) (h:VOk P w true l v):v=t.val:=by
 obtain ⟨vs,h1,⟨_,rfl⟩ | ⟨e,_⟩⟩:=h
 ·rw [toLv_ok ht h1]; rfl
 ·cases e
theorem made_tm [Typ.Xt] {P:Nat→Prop} {w:World} {t:Tm} {e:Ending} {w':World} (h:MadeF P t w e w'):MadeV P w (.val true [.tm t]) e w':=by
 obtain ⟨x,h1,h2,h3⟩:=h
 exact ⟨_,h1,h2,vok_tm h3⟩
def gN (t:Tm):List (Bool × List Ch)→Option (Sl × Bool)
 | []=>some (.val true [.tm t],true)
 | _=>none
def gU:List (Bool × List Ch)→Option (Sl × Bool)
 | []=>some (.val true [.lv lvU],true)
 | _=>none
def gLev:List (Bool × List Ch)→Option (Sl × Bool)
 | [(false,[.dat (.int .i64 n)])]=>some (.val true [.lv (number n)],true)
 | _=>none
def gSo:List (Bool × List Ch)→Option (Sl × Bool)
 | [(true,l)]=>match toLv l with
   | some x=>some (.val true [.tm (tSo x)],true)
   | none=>none
 | _=>none
def in64 (n:Int):Bool:=decide (-9223372036854775808≤n) && decide (n≤9223372036854775807)
def gI (f:Int→Tm):List (Bool × List Ch)→Option (Sl × Bool)
 | [(false,[.dat (.int .i64 n)])]=>some (.val true [.tm (f n)],in64 n)
 | _=>none
def gCo:List (Bool × List Ch)→Option (Sl × Bool)
 | [(false,[.dat (.string s)]),(false,[c])]=>match asLvs c with
   | some ls=>some (.val true [.tm (tCo s ls)],fitB 3 0 s ls [])
   | none=>none
 | _=>none
def g2 (k:Int):List (Bool × List Ch)→Option (Sl × Bool)
 | [(true,l),(true,m)]=>match toTm l,toTm m with
   | some x,some y=>some (.val true [.tm (t2 k x y)],true)
   | _,_=>none
 | _=>none
def gA:List (Bool × List Ch)→Option (Sl × Bool)
 | [(true,l),(false,[c])]=>match toTm l,asTms c with
   | some x,some ys=>some (.val true [.tm (appl x ys)],decide (ys.length≤1000000))
   | _,_=>none
 | _=>none
def sp8:Spec:=spCons 43 (gN tN) <| spCons 114 (gN (tSo (number 0))) <| spCons 112 gU <| spCons 18 gLev <| spCons 111 gSo <| spCons 42 (gI tV) <|
 spCons 115 (gI tField) <| spCons 17 gCo <| spCons 113 (g2 5) <| spCons 110 (g2 6) <| spCons 20 gA spNil
theorem args1 [Typ.Xt] {P:Nat→Prop} {w:World} {s:Bool × List Ch} {vs:List Value} (h:VArgs P w [s] vs):∃ v,vs=[v]∧VOk P w s.1 s.2 v:=by
 obtain ⟨v,y,rfl,h1,rfl⟩:=h
 exact ⟨v,rfl,h1⟩
theorem args2 [Typ.Xt] {P:Nat→Prop} {w:World} {s t:Bool × List Ch} {vs:List Value} (h:VArgs P w [s,t] vs):∃ v u,vs=[v,u]∧VOk P w s.1 s.2 v∧VOk P w t.1 t.2 u:=by
 obtain ⟨v,y,rfl,h1,u,z,rfl,h2,rfl⟩:=h
 exact ⟨v,u,rfl,h1,h2⟩
theorem in64_iff {n:Int} (h:in64 n=true):-9223372036854775808≤n∧n≤9223372036854775807:=by simpa [in64] using h
theorem sp8_ok [Typ.Xt]:SpecOk sp8:=by
 unfold sp8
 refine spCons_ok (spCons_ok (spCons_ok (spCons_ok (spCons_ok (spCons_ok (spCons_ok (spCons_ok (spCons_ok (spCons_ok (spCons_ok spNil_ok ?eA ?cA) ?eP ?cP) ?eL ?cL) ?eC ?cC) ?eF ?cF) ?eV ?cV) ?eS ?cS) ?eLv ?cLv) ?eU ?cU) ?eT ?cT) ?eN ?cN
 case eA=>intro args w; kernel_rfl
 case eP=>intro args w; kernel_rfl
 case eL=>intro args w; kernel_rfl
 case eC=>intro args w; kernel_rfl
 case eF=>intro args w; kernel_rfl
 case eV=>intro args w; kernel_rfl
 case eS=>intro args w; kernel_rfl
 case eLv=>intro args w; kernel_rfl
 case eU=>intro args w; kernel_rfl
 case eT=>intro args w; kernel_rfl
 case eN=>intro args w; kernel_rfl
 case cN =>
  intro ss r h P w vs hP hv
  unfold gN at h
  split at h
  ·cases h
   cases hv
   refine (N8_any w).mono ?_
   rintro e w' ⟨rfl,b⟩
   exact ⟨_,rfl,b,vok_tm (firm_leafE (by decide) (by decide) (by decide) (by decide) (by decide))⟩
  ·cases h
 case cT =>
  intro ss r h P w vs hP hv
  unfold gN at h
  split at h
  ·cases h
   cases hv
   exact (Type08_any w).mono fun e w' h=>made_tm (MadeF.ofE h hP)
  ·cases h
 case cU =>
  intro ss r h P w vs hP hv
  unfold gU at h
  split at h
  ·cases h
   cases hv
   refine (U8_any w).mono ?_
   rintro e w' ⟨rfl,b⟩
   exact ⟨_,rfl,b,vok_lv⟩
  ·cases h
 case cLv =>
  intro ss r h P w vs hP hv
  unfold gLev at h
  split at h
  ·cases h
   obtain ⟨v,rfl,h1⟩:=args1 hv
   cases arg_dat h1
   refine (Lev8_any _ w).mono ?_
   rintro e w' ⟨rfl,b⟩
   exact ⟨_,rfl,b,vok_lv⟩
  ·cases h
 case cS =>
  intro ss r h P w vs hP hv
  unfold gSo at h
  split at h
  ·split at h
   ·rename_i x hx
    cases h
    obtain ⟨v,rfl,h1⟩:=args1 hv
    cases arg_lv hx h1
    exact (So8_any x w).mono fun e w' h=>made_tm (MadeF.ofE h hP)
   ·cases h
  ·cases h
 case cV =>
  intro ss r h P w vs hP hv
  unfold gI at h
  split at h
  ·simp only [Option.some.injEq,Prod.mk.injEq] at h
   obtain ⟨rfl,hn⟩:=h
   ·obtain ⟨n0,n1⟩:=in64_iff hn
    obtain ⟨v,rfl,h1⟩:=args1 hv
    cases arg_dat h1
    refine (V8_any _ w).mono ?_
    rintro e w' ⟨rfl,b⟩
    exact ⟨_,rfl,b,vok_tm (firm_leafE (by decide) (by decide) n0 n1 (by decide))⟩
  ·cases h
 case cF =>
  intro ss r h P w vs hP hv
  unfold gI at h
  split at h
  ·simp only [Option.some.injEq,Prod.mk.injEq] at h
   obtain ⟨rfl,hn⟩:=h
   ·obtain ⟨n0,n1⟩:=in64_iff hn
    obtain ⟨v,rfl,h1⟩:=args1 hv
    cases arg_dat h1
    exact (field8_any _ w n0 n1).mono fun e w' h=>made_tm (MadeF.ofE h hP)
  ·cases h
 case cC =>
  intro ss r h P w vs hP hv
  unfold gCo at h
  split at h
  ·split at h
   ·rename_i ls hls
    simp only [Option.some.injEq,Prod.mk.injEq] at h
    obtain ⟨rfl,hfit⟩:=h
    ·skip
     obtain ⟨v,u,rfl,h1,h2⟩:=args2 hv
     cases arg_dat h1
     obtain ⟨lo,lc,e,g⟩:=asLvs_ok hls (arg_one h2)
     cases e
     refine (Co8_any _ ls lo lc w).mono ?_
     rintro e w' ⟨rfl,b⟩
     exact ⟨_,rfl,b,vok_tm (firm_five hfit ⟨g.1.turn (RanS.of_below b) (fun q a=>Or.inl a),g.2⟩ (fun k hk=>by simp at hk))⟩
   ·cases h
  ·cases h
 case cL =>
  intro ss r h P w vs hP hv
  unfold g2 at h
  split at h
  ·split at h
   ·rename_i x y hx hy
    cases h
    obtain ⟨v,u,rfl,h1,h2⟩:=args2 hv
    obtain ⟨a,rfl,f1⟩:=arg_tm hx h1
    obtain ⟨b,rfl,f2⟩:=arg_tm hy h2
    exact (L8_firm x y a b w).mono fun e w' h=>made_tm (MadeF.of h hP ⟨f1,f2⟩)
   ·cases h
  ·cases h
 case cP =>
  intro ss r h P w vs hP hv
  unfold g2 at h
  split at h
  ·split at h
   ·rename_i x y hx hy
    cases h
    obtain ⟨v,u,rfl,h1,h2⟩:=args2 hv
    obtain ⟨a,rfl,f1⟩:=arg_tm hx h1
    obtain ⟨b,rfl,f2⟩:=arg_tm hy h2
    exact (P8_firm x y a b w).mono fun e w' h=>made_tm (MadeF.of h hP ⟨f1,f2⟩)
   ·cases h
  ·cases h
 case cA =>
  intro ss r h P w vs hP hv
  unfold gA at h
  split at h
  ·split at h
   ·rename_i x ys hx hy
    simp only [Option.some.injEq,Prod.mk.injEq] at h
    obtain ⟨rfl,hn⟩:=h
    ·skip
     obtain ⟨v,u,rfl,h1,h2⟩:=args2 hv
     obtain ⟨a,rfl,f1⟩:=arg_tm hx h1
     obtain ⟨lo,lc,e,g⟩:=asTms_ok hy (arg_one h2)
     cases e
     exact (A8_firm P x a ys lo lc w hP f1 g (by simpa using hn)).mono fun e w' h=>made_tm h
   ·cases h
  ·cases h
end Typ
end Go.Proofs.YtmngddomnaaedaaGreat
namespace Go.Proofs.YtmngddomnaaedaaGreat
open Go.RowKit Go.Shelf Go.Maps Lvl Trm Env
namespace Smp
def nMo:Tm:=(t2 6 tN (tSo lvU))
def nZe:Tm:=(appl (tV 0) [(tCo ⟨#[78,46,122,101,114,111]⟩ [])])
def nSt:Tm:=(t2 6 tN (t2 6 (appl (tV 2) [(tV 0)]) (appl (tV 3) [(appl (tCo ⟨#[78,46,115,117,99,99]⟩ []) [(tV 1)])])))
def nRec:Tm:=(t2 6 nMo (t2 6 nZe (t2 6 nSt (t2 6 tN (appl (tV 3) [(tV 0)])))))
def nFirst:Tm:=(t2 5 nMo (t2 5 nZe (t2 5 nSt (tV 1))))
def nSecond:Tm:=(t2 5 nMo (t2 5 nZe (t2 5 nSt (t2 5 tN (appl (tV 1) [(tV 0),(appl (tCo ⟨#[78,46,114,101,99]⟩ [lvU]) [(tV 3),(tV 2),(tV 1),(tV 0)])])))))
def pMk:Tm:=(t2 6 (tSo (number 0)) (t2 6 (tSo (number 0)) (t2 6 (tV 1) (t2 6 (tV 1) (appl (tCo ⟨#[80,97,105,114]⟩ []) [(tV 3),(tV 2)])))))
def pMo:Tm:=(t2 6 (appl (tCo ⟨#[80,97,105,114]⟩ []) [(tV 1),(tV 0)]) (tSo lvU))
def pMi:Tm:=(t2 6 (tV 2) (t2 6 (tV 2) (appl (tV 2) [(appl (tCo ⟨#[80,97,105,114,46,109,107]⟩ []) [(tV 4),(tV 3),(tV 1),(tV 0)])])))
def pRec:Tm:=(t2 6 (tSo (number 0)) (t2 6 (tSo (number 0)) (t2 6 pMo (t2 6 pMi (t2 6 (appl (tCo ⟨#[80,97,105,114]⟩ []) [(tV 3),(tV 2)]) (appl (tV 2) [(tV 0)]))))))
def pVal:Tm:=(t2 5 (tSo (number 0)) (t2 5 (tSo (number 0)) (t2 5 pMo (t2 5 pMi (t2 5 (appl (tCo ⟨#[80,97,105,114]⟩ []) [(tV 3),(tV 2)]) (appl (tV 1) [(tField 0),(tField 1)]))))))
def lNone:Tm:=(t2 6 (tSo (number 0)) (appl (tCo ⟨#[76,105,115,116]⟩ []) [(tV 0)]))
def lCons:Tm:=(t2 6 (tSo (number 0)) (t2 6 (tV 0) (t2 6 (appl (tCo ⟨#[76,105,115,116]⟩ []) [(tV 1)]) (appl (tCo ⟨#[76,105,115,116]⟩ []) [(tV 2)]))))
def lMo:Tm:=(t2 6 (appl (tCo ⟨#[76,105,115,116]⟩ []) [(tV 0)]) (tSo lvU))
def lEm:Tm:=(appl (tV 0) [(appl (tCo ⟨#[76,105,115,116,46,110,105,108]⟩ []) [(tV 1)])])
def lSt:Tm:=(t2 6 (tV 2) (t2 6 (appl (tCo ⟨#[76,105,115,116]⟩ []) [(tV 3)]) (t2 6 (appl (tV 3) [(tV 0)]) (appl (tV 4) [(appl (tCo ⟨#[76,105,115,116,46,99,111,110,115]⟩ []) [(tV 5),(tV 2),(tV 1)])]))))
def lRec:Tm:=(t2 6 (tSo (number 0)) (t2 6 lMo (t2 6 lEm (t2 6 lSt (t2 6 (appl (tCo ⟨#[76,105,115,116]⟩ []) [(tV 3)]) (appl (tV 3) [(tV 0)]))))))
def lFirst:Tm:=(t2 5 (tSo (number 0)) (t2 5 lMo (t2 5 lEm (t2 5 lSt (tV 1)))))
def lSecond:Tm:=(t2 5 (tSo (number 0)) (t2 5 lMo (t2 5 lEm (t2 5 lSt (t2 5 (tV 3) (t2 5 (appl (tCo ⟨#[76,105,115,116]⟩ []) [(tV 4)]) (appl (tV 2) [(tV 1),(tV 0),(appl (tCo ⟨#[76,105,115,116,46,114,101,99]⟩ [lvU]) [(tV 5),(tV 4),(tV 3),(tV 2),(tV 0)])])))))))
def mAdd:Tm:=(t2 5 tN (t2 5 tN (appl (tCo ⟨#[78,46,114,101,99]⟩ [number 0]) [(t2 5 tN tN),(tV 1),(t2 5 tN (t2 5 tN (appl (tCo ⟨#[78,46,115,117,99,99]⟩ []) [(tV 0)]))),(tV 0)])))
def mTwo:Tm:=(t2 6 tN (t2 6 tN tN))
def mSwap:Tm:=(t2 5 (tSo (number 0)) (t2 5 (tSo (number 0)) (t2 5 (appl (tCo ⟨#[80,97,105,114]⟩ []) [(tV 1),(tV 0)]) (appl (tCo ⟨#[80,97,105,114,46,109,107]⟩ []) [(tV 1),(tV 2),(tField 1),(tField 0)]))))
def num:Nat→Tm
 | 0=>(tCo ⟨#[78,46,122,101,114,111]⟩ [])
 | n + 1=>appl (tCo ⟨#[78,46,115,117,99,99]⟩ []) [num n]
def numbersI:List Inf:=[
 ⟨4,⟨#[78]⟩,0,(tSo (number 0)),zeroT,0,⟨#[78]⟩,⟨#[78]⟩,0,0,0,0,0,0,[],2,false⟩,
 ⟨5,⟨#[78,46,122,101,114,111]⟩,0,tN,zeroT,0,⟨#[78]⟩,⟨#[78]⟩,0,0,0,0,0,0,[],0,false⟩,
 ⟨5,⟨#[78,46,115,117,99,99]⟩,0,(t2 6 tN tN),zeroT,0,⟨#[78]⟩,⟨#[78]⟩,0,0,1,1,0,0,[],0,false⟩,
 ⟨6,⟨#[78,46,114,101,99]⟩,1,nRec,zeroT,0,⟨#[78]⟩,⟨#[78]⟩,0,0,0,0,1,2,[⟨⟨#[78,46,122,101,114,111]⟩,0,nFirst⟩,⟨⟨#[78,46,115,117,99,99]⟩,1,nSecond⟩],0,false⟩]
def pairsI:List Inf:=[
 ⟨4,⟨#[80,97,105,114]⟩,0,(t2 6 (tSo (number 0)) (t2 6 (tSo (number 0)) (tSo (number 0)))),zeroT,0,⟨#[80,97,105,114]⟩,⟨#[80,97,105,114]⟩,2,0,0,0,0,0,[],1,true⟩,
 ⟨5,⟨#[80,97,105,114,46,109,107]⟩,0,pMk,zeroT,0,⟨#[80,97,105,114]⟩,⟨#[80,97,105,114]⟩,2,0,0,2,0,0,[],0,false⟩,
 ⟨2,⟨#[80,97,105,114,46,114,101,99]⟩,1,pRec,pVal,0,⟨#[80,97,105,114]⟩,⟨#[80,97,105,114]⟩,2,0,0,0,1,1,[],0,false⟩]
def listsI:List Inf:=[
 ⟨4,⟨#[76,105,115,116]⟩,0,(t2 6 (tSo (number 0)) (tSo (number 0))),zeroT,0,⟨#[76,105,115,116]⟩,⟨#[76,105,115,116]⟩,1,0,0,0,0,0,[],2,false⟩,
 ⟨5,⟨#[76,105,115,116,46,110,105,108]⟩,0,lNone,zeroT,0,⟨#[76,105,115,116]⟩,⟨#[76,105,115,116]⟩,1,0,0,0,0,0,[],0,false⟩,
 ⟨5,⟨#[76,105,115,116,46,99,111,110,115]⟩,0,lCons,zeroT,0,⟨#[76,105,115,116]⟩,⟨#[76,105,115,116]⟩,1,0,1,2,0,0,[],0,false⟩,
 ⟨6,⟨#[76,105,115,116,46,114,101,99]⟩,1,lRec,zeroT,0,⟨#[76,105,115,116]⟩,⟨#[76,105,115,116]⟩,1,0,0,0,1,2,[⟨⟨#[76,105,115,116,46,110,105,108]⟩,0,lFirst⟩,⟨⟨#[76,105,115,116,46,99,111,110,115]⟩,2,lSecond⟩],0,false⟩]
def madeI:List Inf:=[
 ⟨1,⟨#[97]⟩,0,tN,zeroT,0,⟨#[]⟩,⟨#[]⟩,0,0,0,0,0,0,[],0,false⟩,
 ⟨1,⟨#[102]⟩,0,(t2 6 tN tN),zeroT,0,⟨#[]⟩,⟨#[]⟩,0,0,0,0,0,0,[],0,false⟩,
 ⟨1,⟨#[112]⟩,0,(appl (tCo ⟨#[80,97,105,114]⟩ []) [tN,tN]),zeroT,0,⟨#[]⟩,⟨#[]⟩,0,0,0,0,0,0,[],0,false⟩,
 ⟨2,⟨#[97,100,100]⟩,0,mTwo,mAdd,0,⟨#[]⟩,⟨#[]⟩,0,0,0,0,0,0,[],0,false⟩,
 ⟨2,⟨#[111,110,101]⟩,0,tN,(num 1),0,⟨#[]⟩,⟨#[]⟩,0,0,0,0,0,0,[],0,false⟩,
 ⟨2,⟨#[100,111,117,98,108,101]⟩,0,(t2 6 tN tN),(t2 5 tN (appl (tCo ⟨#[97,100,100]⟩ []) [(tV 0),(tV 0)])),0,⟨#[]⟩,⟨#[]⟩,0,0,0,0,0,0,[],0,false⟩,
 ⟨2,⟨#[105,100]⟩,1,(t2 6 (tSo lvU) (t2 6 (tV 0) (tV 1))),(t2 5 (tSo lvU) (t2 5 (tV 0) (tV 0))),0,⟨#[]⟩,⟨#[]⟩,0,0,0,0,0,0,[],0,false⟩,
 ⟨2,⟨#[115,119,97,112]⟩,0,(t2 6 (tSo (number 0)) (t2 6 (tSo (number 0)) (t2 6 (appl (tCo ⟨#[80,97,105,114]⟩ []) [(tV 1),(tV 0)]) (appl (tCo ⟨#[80,97,105,114]⟩ []) [(tV 1),(tV 2)])))),mSwap,0,⟨#[]⟩,⟨#[]⟩,0,0,0,0,0,0,[],0,false⟩,
 ⟨3,⟨#[116,104,109]⟩,0,tN,(num 2),0,⟨#[]⟩,⟨#[]⟩,0,0,0,0,0,0,[],0,false⟩]
def infosI:List Inf:=numbersI ++ pairsI ++ listsI ++ madeI
end Smp
theorem pairs8_made [Typ.Xt] (P:Nat→Prop) (w:World) (hP:Typ.Lt P w):Calls Tryz.prog 66 #[] w (Typ.MadeV P w (.val false [.infs Smp.pairsI])) :=
 Typ.fn_ok (p:=⟨Typ.sp8,92,[],[],false,[]⟩) (Typ.par_ok Typ.sp8_ok) Tryz.func66 rfl rfl (rs:=[.tmp 0]) rfl (by kernel_rfl) (ss:=[]) (r:=.val false [.infs Smp.pairsI]) (by decide) (by kernel_rfl) P w [] hP rfl
theorem lists8_made [Typ.Xt] (P:Nat→Prop) (w:World) (hP:Typ.Lt P w):Calls Tryz.prog 67 #[] w (Typ.MadeV P w (.val false [.infs Smp.listsI])) :=
 Typ.fn_ok (p:=⟨Typ.sp8,137,[],[],false,[]⟩) (Typ.par_ok Typ.sp8_ok) Tryz.func67 rfl rfl (rs:=[.tmp 0]) rfl (by kernel_rfl) (ss:=[]) (r:=.val false [.infs Smp.listsI]) (by decide) (by kernel_rfl) P w [] hP rfl
namespace Smp
def nTL (n z:Int) (t:Tm):Typ.Tbl Typ.Sl:=[(0,.val false [.dat (.int .i64 n)]),(2,.box 25 5),(3,.mvar 25 [.tm t]),(4,.val false [.dat (.int .i64 z)])]
def nTE (t:Tm):Typ.Tbl Typ.Sl:=[(2,.var 25 [.tm t])]
def nP (ov:List (Nat × Bool)):Typ.Par:=⟨Typ.sp8,16,ov,[3],false,[]⟩
def gNum:List (Bool × List Typ.Ch)→Option (Typ.Sl × Bool)
 | [(false,[.dat (.int .i64 n)])]=>some (.val true [.tm (num n.toNat)],decide (0≤n) && decide (n≤1000000))
 | _=>none
end Smp
open Smp Typ in
theorem Num8_made [Typ.Xt] (P:Nat→Prop) (n:Int) (w:World) (hP:Typ.Lt P w) (h0:0≤n) (h1:n≤1000000):Calls Tryz.prog 19 #[.int .i64 n] w (MadeV P w (.val true [.tm (num n.toNat)])):=by
 have hm:Tryz.prog.follows .mixedOrders=true:=by kernel_rfl
 have hs:∀ ov,ParOk (nP ov):=fun _=>par_ok sp8_ok
 refine calls_of_wp Tryz.func19 rfl ?_
 have st:=start_ok (p:=nP []) (P:=P) (w:=w) (ss:=[(false,[.dat (.int .i64 n)])]) (vs:=[.int .i64 n]) hP ⟨_,[],rfl,⟨[_],ok_dat rfl rfl,Or.inr ⟨rfl,rfl⟩⟩,rfl⟩ (by simp [nP])
 refine wp_seq (piece_ok (p:=nP []) (hs _) hm (T':=[(0,.val false [.dat (.int .i64 n)]),(2,.box 25 5)]) (e:=.normal) (need:=true) (by kernel_rfl) rfl st fun a1 w1 s1=>?_)
 refine wp_seq (piece_ok (p:=nP []) (hs _) hm (T':=[(0,.val false [.dat (.int .i64 n)]),(2,.box 25 5),(3,.mvar 25 [.tm (num 0)])]) (e:=.normal) (need:=true) (by kernel_rfl) rfl s1 fun a2 w2 s2=>?_)
 refine wp_seq ?_
 refine wp_seq (piece_ok (p:=nP []) (hs _) hm (T':=nTL n 0 (num 0)) (e:=.normal) (need:=true) (by kernel_rfl) rfl s2 fun a3 w3 s3=>?_)
 refine wp_block ?_
 refine Typ.wp_loop_ghost (fun (g:Nat) a w'=>St P w (nP []) (nTL n g (num g)) a w'∧(g:Int)≤n) (fun g=>n.toNat - g) (g0:=0) ⟨s3,h0⟩ ?_
 rintro g a w' ⟨s,hg⟩
 by_cases hlt:(g:Int) < n
 ·have hw:IntKind.i64.wrap ((g:Int) + 1)=((g + 1:Nat):Int):=by rw [IntWalk.i64_in _ (by omega)]; simp
  refine piece_ok (p:=nP [(8,true)]) (hs _) hm (T':=nTL n (IntKind.i64.wrap ((g:Int) + 1)) (num (g + 1))) (e:=.normal) (need:=(decide ((g:Int) < n) == true) && true) (by kernel_rfl) (by simpa using hlt) (s.par rfl rfl) fun a4 w4 s4=>?_
  rw [hw] at s4
  exact ⟨g + 1,⟨s4.par rfl rfl,by omega⟩,by omega⟩
 ·have hgn:(g:Int)=n:=by omega
  have hgt:g=n.toNat:=by omega
  refine piece_ok (p:=nP [(8,false)]) (hs _) hm (T':=nTL n g (num g)) (e:=.exit 0) (need:=(decide ((g:Int) < n) == false) && true) (by kernel_rfl) (by simpa using hlt) (s.par rfl rfl) fun a4 w4 s4=>?_
  refine wp_seq (piece_ok (p:=nP []) (hs _) hm (T':=nTE (num g)) (e:=.normal) (need:=true) (by kernel_rfl) rfl (s4.par rfl rfl) fun a5 w5 s5=>?_)
  rw [hgt] at s5
  exact wp_ret (s5.post rfl)
end Go.Proofs.YtmngddomnaaedaaGreat
namespace Go.Proofs.YtmngddomnaaedaaGreat
open Go.RowKit Go.Shelf Go.Maps Lvl Trm Env
namespace Typ
def sp9:Spec:=spCons 19 Smp.gNum sp8
theorem sp9_ok [Typ.Xt]:SpecOk sp9:=spCons_ok sp8_ok (by intro args w; kernel_rfl) (by
 intro ss r h P w vs hP hv
 unfold Smp.gNum at h
 split at h
 ·simp only [Option.some.injEq,Prod.mk.injEq,Bool.and_eq_true,decide_eq_true_eq] at h
  obtain ⟨rfl,h0,h1⟩:=h
  obtain ⟨v,rfl,h2⟩:=args1 hv
  cases arg_dat h2
  exact Num8_made P _ w hP h0 h1
 ·cases h)
end Typ
theorem made8_made [Typ.Xt] (P:Nat→Prop) (w:World) (hP:Typ.Lt P w):Calls Tryz.prog 68 #[] w (Typ.MadeV P w (.val false [.infs Smp.madeI])) :=
 Typ.fn_ok (p:=⟨Typ.sp9,113,[],[],false,[]⟩) (Typ.par_ok Typ.sp9_ok) Tryz.func68 rfl rfl (rs:=[.tmp 0]) rfl (by kernel_rfl) (ss:=[]) (r:=.val false [.infs Smp.madeI]) (by decide) (by kernel_rfl) P w [] hP rfl
end Go.Proofs.YtmngddomnaaedaaGreat
namespace Go.Proofs.YtmngddomnaaedaaGreat
open Go.RowKit Go.Shelf Go.Maps Lvl Trm Env
theorem Env.kidF {P:Nat→Prop} {w wr:World} {t:Tm} {hc:Hd} (g:FirmS P w t hc) (hb:Below w.heap.size w wr) {k:Nat} (hk:k < t.ts.length) {b off:Nat} {h:Hd} (hao:hc.to=some ⟨b,off,none⟩) (hlt:b < w.heap.size) (c:TCells wr b (off + k * 5) t.ts[k] h):FirmS P w t.ts[k] h:=by
 obtain ⟨b2,off2,e1,_,_,hd,c2,f⟩:=(Typ.firm_rows g).2 k hk
 rw [hao] at e1
 cases e1
 have c3:=c2.below hb hlt
 have:hd=h:=by
  have a3:=c.c3.symm.trans c3.c3
  have a4:=c.c4.symm.trans c3.c4
  simp only [Option.some.injEq,Value.slice.injEq] at a3 a4
  obtain ⟨x1,_,x2⟩:=a3
  obtain ⟨x3,_,x4⟩:=a4
  cases hd; cases h
  simp only at x1 x2 x3 x4
  subst x1 x2 x3 x4
  rfl
 rwa [this] at f
theorem Env.TBlock.rowP {P:Nat→Prop} {w:World} {g S:Nat} {ps:List (Tm × Hd)} (h:TBlock w g S ps) (hn:¬ P g) (hf:∀ p ∈ ps,FirmS P w p.1 p.2):RowP P w (some ⟨g,0,none⟩) (ps.map (·.1)):=fun k hk=>by
 have hk':k < ps.length:=by simpa using hk
 have hc:=h.cells k hk'
 refine ⟨g,0,rfl,h.lt,hn,ps[k].2,?_,?_⟩
 ·rw [List.getElem_map]; simpa using hc
 ·rw [List.getElem_map]; exact hf _ (List.getElem_mem hk')
def Env.SpinedF (t:Tm) (h:Hd) (w:World) (e:Ending) (w':World):Prop :=
 ∃ g hg m ao cap,e=.returned (.tuple #[g.val hg,.slice ao m.length cap])∧t=appl g m∧g.k ≠ 4∧m.length≤65536∧m.length≤cap∧Below w.heap.size w w' ∧
   ∀ P:Nat→Prop,(∀ q,P q→q < w.heap.size)→FirmS P w t h→FirmS P w' g hg∧RowP P w' ao m
def Env.SpRelF (w:World) (t:Tm) (h:Hd) (gk:Nat) (v:Value) (wr:World):Prop :=
 ∃ (c:Tm) (hc:Hd) (ps:List (Tm × Hd)) (d:Int),gk=c.size.toNat∧Below w.heap.size w wr∧wr.heap[w.heap.size]?=some (c.box hc)∧wr.heap[w.heap.size + 1]?=some (.cells #[.int .u8 0,.int .i64 0,.string ⟨#[]⟩,.slice none 0 0,.slice none 0 0] 25) ∧
   c.In w.heap.size wr hc∧(∀ p ∈ ps,p.1.In w.heap.size wr p.2)∧t=appl c (ps.reverse.map (·.1))∧OkMay c d∧ps.length + c.size≤t.size∧wr.ownsRow (w.heap.size + 2) 25 5 v ps.length (flat ps) ∧
   (∀ P:Nat→Prop,FirmS P w t h→FirmS P w c hc∧∀ p ∈ ps,FirmS P w p.1 p.2)
theorem SpineF_yes (t:Tm) (h:Hd) (w:World) (hin:t.In w.heap.size w h) (hmay:t.may=true) :
 Calls Tryz.prog 79 #[t.val h] w (SpinedF t h w):=by
 have HM:=hid (fun (W:World) (hW:Below w.heap.size w W)=>(show Calls Tryz.prog 61 #[t.val h] W fun e w'=>e=.returned (.bool true)∧Below W.heap.size W w' from hmay ▸ PMay_any t h W (Tm.In.mono hW.size _ _ (Tm.In.below hW _ _ hin))))
 have HIN:=hid hin
 have HOK:=hid (OkMay.start hmay)
 have HSZ:=hid (may_size hmay)
 clear hin hmay
 obtain ⟨i0,hi,hz0,hz1,hz2⟩:=info_parts infoT
 unfold Tm.val at HM ⊢
 dsimp only [Tm.vals] at HM ⊢
 go_enter Tryz.func79,Tryz.ntmps79
 go_wp2_with fail
 refine (HM.out _ (below_two w _ _)).mono ?_
 rintro e w1 ⟨rfl,b1⟩
 have HB:=hid ((below_two w _ _).trans (b1.mono (B':=w.heap.size) (by simp; omega)))
 have HB1:=hid (Lvl.keep b1 (new1of2 w (t.box h) _))
 have HB2:=hid (Lvl.keep b1 (new2 w (t.box h) _))
 have HZ:=hid b1.size
 clear b1
 go_wp2_with fail
 go_loopg [4] t.size.toNat (fun gk v wr=>SpRelF w t h gk v wr)
 case atStart=>exact ⟨t,h,[],1,rfl,HB.out,HB1.out,HB2.out,Tm.In.below HB.out _ _ HIN.out,fun p hp=>by simp at hp,rfl,HOK.out,by simp,⟨rfl,Or.inl ⟨rfl,rfl⟩⟩,fun P f=>⟨f,fun p hp=>by simp at hp⟩⟩
 case round =>
  obtain ⟨c,hc,ps,d,hgk,hbel,hbx,hbr,hcin,hps,hap,hok,hsz,hown,hfk⟩:=hrel
  have HFK:=hid hfk
  clear hfk
  have HGK:=hid hgk
  have HBE:=hid hbel
  have HBX:=hid hbx
  have HBR:=hid hbr
  have HCI:=hid hcin
  have HPS:=hid hps
  have HAP:=hid hap
  have HSC:=hid hsz
  have HOW:=hid hown
  have hzq:=HZ.out
  have hzr:=hbel.size
  have hlt0:w.heap.size + 1 < wr.heap.size:=(Array.getElem?_eq_some_iff.1 hbr).1
  clear hgk hbel hbr hps hap hsz hown
  by_cases hk4:c.k=4
  ·obtain ⟨f,x,rfl⟩:=node_app hok.node.1 hk4
   obtain ⟨b,off,hao,hat0⟩:=hcin.kid 0 (by simp [t2,Tm.ts])
   obtain ⟨b',off',hao',hat1⟩:=hcin.kid 1 (by simp [t2,Tm.ts])
   rw [hao] at hao'
   cases hao'
   have hat0':TAt w.heap.size wr b off f:=by simpa [t2,Tm.ts] using hat0
   have hat1':TAt w.heap.size wr b (off + 5) x:=by simpa [t2,Tm.ts] using hat1
   obtain ⟨hb0,h0,hp,hi0⟩:=hat0'
   obtain ⟨_,h1,hq,hi1⟩:=hat1'
   have HP0:=hid hp
   have HI0:=hid hi0
   have HI1:=hid hi1
   have c0:wr.cell? ⟨w.heap.size,0,none⟩=some (.int .u8 4):=(Tm.cells hbx).c0
   have c4:wr.cell? ⟨w.heap.size,4,none⟩=some (.slice (some ⟨b,off,none⟩) 2 hc.tc):=by
    have h4:=(Tm.cells hbx).c4
    rw [hao] at h4
    exact h4
   have HQ:=hid hq
   have HB0:=hid hb0
   obtain ⟨q0,q1,q2,q3,q4⟩:=hq
   have HOK2:=hid (hok.down f (by simp [t2,Tm.ts]))
   have HAO:=hid hao
   have hbz:b < wr.heap.size:=by omega
   clear hk4 hat0 hat1 hp hi0 hi1 hbx hcin hok hao
   have hlen:ps.length≤65536:=by have:=HSC.out; have:=HSZ.out; have:=(t2 4 f x).size_pos; omega
   go_wp2_with (at_builtin; refine wpList_append_own _ rfl _ _ 23 rfl (w.heap.size + 2) 25 i0 _ 5 80 Tryz.underlying23 hi hz0 hz1 hz2 rfl (by decide) _ _ _ rfl (HOW.out.alloc _) ⟨wr.heap.size,0,none⟩ 1 1 (x.vals h1).toList rfl rfl ?c1 ?c2 ?c3 ?c4 ?c5 ?_)
   case c1=>exact World.news_of_block (cs:=x.vals h1) (t:=25) (fr:=(0,0)) (World.alloc_heap_new wr _)
   case c2=>simp [Tm.vals,Value.oneCell']
   case c3=>unfold maxLen; omega
   case c4=>omega
   case c5=>simp; omega
   intro v' w2 hown2 hg2 _
   have hb2:Below (w.heap.size + 2) wr w2:=Below.trans (Below.mono (below_one wr _) (by omega)) (below_own (HOW.out.alloc _) hg2 (by simp; omega))
   have HB2':=hid hb2
   have HO2:=hid hown2
   have hz2':=hb2.size
   clear hown2 hg2 c0 c4 q0 q1 q2 q3 q4
   have hbx2:=(show w2.heap[w.heap.size]?=some ((t2 4 f x).box hc) from (hb2.block _ (by omega)).trans HBX.out)
   have c4:w2.cell? ⟨w.heap.size,4,none⟩=some (.slice (some ⟨b,off,none⟩) 2 hc.tc):=by
    have h4:=(Tm.cells hbx2).c4
    rw [HAO.out] at h4
    exact h4
   obtain ⟨c0,c1,c2,c3,_⟩:=five_cells (show w2.heap[w.heap.size]?=some (.cells #[_,_,_,_,_] 25) from hbx2)
   obtain ⟨f0,f1,f2,f3,f4⟩:=five_free (show w2.heap[w.heap.size]?=some (.cells #[_,_,_,_,_] 25) from hbx2)
   obtain ⟨p0,p1,p2,p3,p4⟩:=HP0.out.below hb2 (by omega:b < w.heap.size + 2)
   have HX2:=hid hbx2
   have hlt2:w.heap.size < w2.heap.size:=by omega
   clear hb2 hbx2
   go_wp2_with fail
   go_roundg f.size.toNat
   case measure=>have h1:=HGK.out; have h2:=t2_size f x; have h3:=f.size_pos; have h4:=x.size_pos; omega
   case rel =>
    have hk:=putT_ran w2 w.heap.size (.int .u8 f.k) (.int .i64 f.n) (.string f.s) (.slice h0.lo f.ls.length h0.lc) (.slice h0.to f.ts.length h0.tc)
    have hw:=HBE.out.trans ((HB2'.out.mono (by omega)).trans (hk.below (Nat.le_refl _) (by omega)))
    refine ⟨f,h0,ps ++ [(x,h1)],d + 1,rfl,hw,?_,?_,?_,?_,?_,HOK2.out,?_,?_,?_⟩
    ·exact putT_self HX2.out _ _ _ _ _
    ·exact putT_other ((HB2'.out.block _ (by omega)).trans HBR.out) _ _ _ _ _ (by omega)
    ·exact Tm.In.below ((HB2'.out.mono (by omega)).trans (hk.below (Nat.le_refl _) (by omega))) _ _ HI0.out
    ·intro p hp
     rcases List.mem_append.1 hp with hp | hp
     ·exact Tm.In.below ((HB2'.out.mono (by omega)).trans (hk.below (Nat.le_refl _) (by omega))) _ _ (HPS.out p hp)
     ·simp at hp
      subst hp
      exact Tm.In.below ((HB2'.out.mono (by omega)).trans (hk.below (Nat.le_refl _) (by omega))) _ _ HI1.out
    ·rw [HAP.out]
     simp [appl_cons]
    ·have h1:=HSC.out
     have h2:=t2_size f x
     have h3:=x.size_pos
     simp
     omega
    ·rw [flat_snoc,List.length_append]
     exact own_put HO2.out (by omega) _ _ _ _ _
    ·intro P hf
     obtain ⟨g1,g2⟩:=HFK.out P hf
     have k0:=kidF g1 HBE.out (k:=0) (by simp [t2,Tm.ts]) HAO.out HB0.out (by simpa [t2,Tm.ts] using HP0.out)
     have k1:=kidF g1 HBE.out (k:=1) (by simp [t2,Tm.ts]) HAO.out HB0.out (by simpa [t2,Tm.ts] using HQ.out)
     refine ⟨by simpa [t2,Tm.ts] using k0,fun p hp=>?_⟩
     rcases List.mem_append.1 hp with hp | hp
     ·exact g2 p hp
     ·simp at hp
      subst hp
      simpa [t2,Tm.ts] using k1
  ·have hq4:(c.k == 4)=false:=by simpa using hk4
   obtain ⟨c0,c1,c2,c3,c4⟩:=Tm.cells hbx
   have HK4:=hid hk4
   clear hk4 hbx hcin hok
   have hlen:ps.length≤65536:=by have:=HSC.out; have:=HSZ.out; have:=c.size_pos; omega
   have hown:=HOW.out
   obtain ⟨hfl,⟨rfl,hn0⟩ | ⟨g,cap,cur,rfl,hbg,hgb,hcap,_⟩⟩:=hown
   ·have HPN:Hid (ps=[]):=hid (List.eq_nil_of_length_eq_zero hn0)
    clear hn0 hfl
    go_wp2_with fail
    refine (Reverse_nil _).mono ?_
    rintro e w3 ⟨rfl,rfl⟩
    clear c0 c1 c2 c3 c4
    have hx3:=HBX.out
    have hr3:=HBR.out
    obtain ⟨p0,p1,p2,p3,p4⟩:=five_cells (show wr.heap[w.heap.size]?=some (.cells #[_,_,_,_,_] 25) from hx3)
    obtain ⟨c0,c1,c2,c3,c4⟩:=five_cells (show wr.heap[w.heap.size + 1]?=some (.cells #[_,_,_,_,_] 25) from hr3)
    obtain ⟨f0,f1,f2,f3,f4⟩:=five_free (show wr.heap[w.heap.size + 1]?=some (.cells #[_,_,_,_,_] 25) from hr3)
    have HR3:=hid hr3
    have hlt3:w.heap.size + 1 < wr.heap.size:=(Array.getElem?_eq_some_iff.1 hr3).1
    clear hx3 hr3
    go_wp2_with fail
    have h5:=putT_self HR3.out (.int .u8 c.k) (.int .i64 c.n) (.string c.s) (.slice hc.lo c.ls.length hc.lc) (.slice hc.to c.ts.length hc.tc)
    have r5:=putT_ran wr (w.heap.size + 1) (.int .u8 c.k) (.int .i64 c.n) (.string c.s) (.slice hc.lo c.ls.length hc.lc) (.slice hc.to c.ts.length hc.tc)
    unfold putT at h5 r5
    generalize hW:((((wr.setCell ⟨w.heap.size + 1,0,none⟩ (.int .u8 c.k)).setCell ⟨w.heap.size + 1,1,none⟩ (.int .i64 c.n)).setCell ⟨w.heap.size + 1,2,none⟩ (.string c.s)).setCell ⟨w.heap.size + 1,3,none⟩ (.slice hc.lo c.ls.length hc.lc)).setCell ⟨w.heap.size + 1,4,none⟩ (.slice hc.to c.ts.length hc.tc)=W4 at h5 r5 ⊢
    obtain ⟨e0,e1,e2,e3,e4⟩:=five_cells h5
    clear hW
    exact bodyPost_ret (v:=.tuple #[c.val hc,.slice none (([]:List Tm)).length 0]) (by simp [results,Tryz.results79,go_sem,e0,e1,e2,e3,e4,Tm.val,Tm.vals]) rfl
     ⟨c,hc,[],none,0,rfl,by rw [HAP.out,HPN.out]; rfl,HK4.out,by simp,by simp,HBE.out.trans (r5.below (B:=w.heap.size) (by omega) (by omega)),fun P _ hf=>⟨(HFK.out P hf).1.step (RanS.of_below (HBE.out.trans (r5.below (B:=w.heap.size) (by omega) (by omega)))),fun k hk=>by simp at hk⟩⟩
   ·obtain ⟨hg2,_,htb⟩:=block_of_own HOW.out
    have HG2:=hid hg2
    have HTB:=hid (Reverse_any g (cap * 5) cap ps wr htb (by omega))
    have hgl:=htb.lt
    have HGB:=hid hgb
    have HCAP:=hid hcap
    clear htb hg2 hfl hbg hgb hcap
    go_wp2_with fail
    refine HTB.out.mono ?_
    rintro e w3 ⟨rfl,tb3,r3⟩
    clear c0 c1 c2 c3 c4
    have HT3:=hid tb3
    have HR3':=hid r3
    have hsz3:=r3.size
    have hx3:w3.heap[w.heap.size]?=some (c.box hc):=r3.keep HBX.out (by have:=HG2.out; omega)
    have hr3:=r3.keep HBR.out (by have:=HG2.out; omega)
    clear tb3 r3
    obtain ⟨p0,p1,p2,p3,p4⟩:=five_cells (show w3.heap[w.heap.size]?=some (.cells #[_,_,_,_,_] 25) from hx3)
    obtain ⟨c0,c1,c2,c3,c4⟩:=five_cells (show w3.heap[w.heap.size + 1]?=some (.cells #[_,_,_,_,_] 25) from hr3)
    obtain ⟨f0,f1,f2,f3,f4⟩:=five_free (show w3.heap[w.heap.size + 1]?=some (.cells #[_,_,_,_,_] 25) from hr3)
    have HR3:=hid hr3
    have hlt3:w.heap.size + 1 < w3.heap.size:=(Array.getElem?_eq_some_iff.1 hr3).1
    clear hx3 hr3
    go_wp2_with fail
    have h5:=putT_self HR3.out (.int .u8 c.k) (.int .i64 c.n) (.string c.s) (.slice hc.lo c.ls.length hc.lc) (.slice hc.to c.ts.length hc.tc)
    have r5:=putT_ran w3 (w.heap.size + 1) (.int .u8 c.k) (.int .i64 c.n) (.string c.s) (.slice hc.lo c.ls.length hc.lc) (.slice hc.to c.ts.length hc.tc)
    unfold putT at h5 r5
    generalize hW:((((w3.setCell ⟨w.heap.size + 1,0,none⟩ (.int .u8 c.k)).setCell ⟨w.heap.size + 1,1,none⟩ (.int .i64 c.n)).setCell ⟨w.heap.size + 1,2,none⟩ (.string c.s)).setCell ⟨w.heap.size + 1,3,none⟩ (.slice hc.lo c.ls.length hc.lc)).setCell ⟨w.heap.size + 1,4,none⟩ (.slice hc.to c.ts.length hc.tc)=W4 at h5 r5 ⊢
    obtain ⟨e0,e1,e2,e3,e4⟩:=five_cells h5
    clear hW
    have hg3:=HG2.out
    have hall:=(HR3'.out.below (B:=w.heap.size) (by omega) (by omega)).trans (r5.below (B:=w.heap.size) (by omega) (by omega))
    have htb4:=HT3.out.ran r5 (by omega)
    exact bodyPost_ret (v:=.tuple #[c.val hc,.slice (some ⟨g,0,none⟩) (ps.reverse.map (·.1)).length cap]) (by simp [results,Tryz.results79,go_sem,e0,e1,e2,e3,e4,Tm.val,Tm.vals]) rfl
     ⟨c,hc,ps.reverse.map (·.1),some ⟨g,0,none⟩,cap,rfl,HAP.out,HK4.out,by simp; omega,by simp; exact HCAP.out,HBE.out.trans hall,fun P hP hf=>⟨(HFK.out P hf).1.step (RanS.of_below (HBE.out.trans hall)),TBlock.rowP htb4 (fun a=>by have:=hP g a; omega) (fun p hp=>((HFK.out P hf).2 p (List.mem_reverse.1 hp)).step (RanS.of_below (HBE.out.trans hall)))⟩⟩
end Go.Proofs.YtmngddomnaaedaaGreat
namespace Go.Proofs.YtmngddomnaaedaaGreat
open Go.RowKit Go.Shelf Go.Maps Lvl Trm Env
namespace Typ
def gMay:List (Bool × List Ch)→Option (Sl × Bool)
 | [(true,l)]=>match toTm l with
   | some t=>some (.val false [.dat (.bool t.may)],true)
   | none=>none
 | _=>none
def sp10:Spec:=spCons 61 gMay sp9
theorem sp10_ok [Typ.Xt]:SpecOk sp10:=spCons_ok sp9_ok (by intro args w; kernel_rfl) (by
 intro ss r h P w vs hP hv
 unfold gMay at h
 split at h
 ·split at h
  ·rename_i t ht
   simp only [Option.some.injEq,Prod.mk.injEq,and_true] at h
   subst h
   obtain ⟨v,rfl,h2⟩:=args1 hv
   obtain ⟨x,rfl,f⟩:=arg_tm ht h2
   refine (PMay_any t x w f.here).mono ?_
   rintro e w' ⟨rfl,b⟩
   exact ⟨_,rfl,b,⟨_,ok_dat rfl rfl,Or.inr ⟨rfl,rfl⟩⟩⟩
  ·cases h
 ·cases h)
def apT (l:List Tm) (x:Tm) (z:Int):Tbl Sl:=[(1,.val false [.tms l]),(2,.mvar 25 [.tm x]),(4,.box 25 5),(11,.val false [.tms l]),(12,.val false [.dat (.int .i64 l.length)]),(13,.val false [.dat (.int .i64 z)])]
def apP (ov:List (Nat × Bool)):Par:=⟨sp10,27,ov,[2],false,[]⟩
end Typ
open Typ in
theorem PApply_firm [Typ.Xt] (P:Nat→Prop) (f:Tm) (hf:Hd) (l:List Tm) (lo:Option Addr) (lc:Nat) (w:World) (hP:Typ.Lt P w) (hin:FirmS P w f hf) (hl:RowP P w lo l) (hn:l.length < 4096) :
 Calls Tryz.prog 88 #[f.val hf,.slice lo l.length lc] w (MadeV P w (.val true [.tm (papp f l)])):=by
 have hm:Tryz.prog.follows .mixedOrders=true:=by kernel_rfl
 have hs:∀ ov,ParOk (apP ov):=fun _=>par_ok sp10_ok
 refine calls_of_wp Tryz.func88 rfl ?_
 have st:=start_ok (p:=apP []) (P:=P) (w:=w) (ss:=[(true,[.tm f]),(false,[.tms l])]) (vs:=[f.val hf,.slice lo l.length lc]) hP ⟨_,_,rfl,vok_tm hin,_,[],rfl,⟨_,⟨[_],[],rfl,⟨lo,lc,rfl,hl⟩,rfl⟩,Or.inr ⟨rfl,rfl⟩⟩,rfl⟩ (by simp [apP])
 refine wp_seq (piece_ok (p:=apP []) (hs _) hm (T':=[(1,.val false [.tms l]),(2,.mvar 25 [.tm f]),(4,.box 25 5)]) (e:=.normal) (need:=true) (by kernel_rfl) rfl st fun a1 w1 s1=>?_)
 refine wp_seq (piece_ok (p:=apP [(9,false)]) (hs _) hm (T':=[(1,.val false [.tms l]),(2,.mvar 25 [.tm f]),(4,.box 25 5)]) (e:=.normal) (need:=(decide ((l.length:Int) ≥ 4096) == false) && true) (by kernel_rfl) (by simpa using by omega) (s1.par rfl rfl) fun a2 w2 s2=>?_)
 refine wp_seq ?_
 refine wp_seq (piece_ok (p:=apP []) (hs _) hm (T':=apT l f 0) (e:=.normal) (need:=true) (by kernel_rfl) rfl (s2.par rfl rfl) fun a3 w3 s3=>?_)
 refine wp_block ?_
 refine Typ.wp_loop_ghost (fun (g:Nat) a w'=>St P w (apP []) (apT l (appl f (l.take g)) g) a w'∧g≤l.length) (fun g=>l.length - g) (g0:=0) ⟨s3,by omega⟩ ?_
 rintro g a w' ⟨s,hg⟩
 by_cases hlt:g < l.length
 ·have hw:IntKind.i64.wrap ((g:Int) + 1)=((g + 1:Nat):Int):=by rw [IntWalk.i64_in _ (by omega)]; simp
  refine piece_ok (p:=apP [(14,true)]) (hs _) hm (T':=apT l (t2 4 (appl f (l.take g)) (l.getD g zeroT)) (IntKind.i64.wrap ((g:Int) + 1))) (e:=.normal) (need:=(decide ((g:Int) < l.length) == true) && (((decide ((0:Int)≤g) && decide (g < l.length)) && true) && true)) (by kernel_rfl) (by simp [hlt]) (s.par rfl rfl) fun a4 w4 s4=>?_
  rw [hw,getD_of hlt,← take_appl hlt] at s4
  exact ⟨g + 1,⟨s4.par rfl rfl,by omega⟩,by omega⟩
 ·have hgl:l.take g=l:=List.take_of_length_le (by omega)
  rw [hgl] at s
  refine piece_ok (p:=apP [(14,false)]) (hs _) hm (T':=[(2,.mvar 25 [.tm (appl f l)]),(4,.box 25 5)]) (e:=.exit 0) (need:=(decide ((g:Int) < l.length) == false) && true) (by kernel_rfl) (by simpa using by omega) (s.par rfl rfl) fun a4 w4 s4=>?_
  have hpp:papp f l=if (appl f l).may=true then appl f l else zeroTm:=rfl
  rw [hpp]
  cases hmay:(appl f l).may
  ·exact tail_ok (p:=apP [(24,true)]) (hs _) hm (rs:=[.cell 4 25]) (r:=.val true [.tm zeroTm]) (need:=((!(appl f l).may) == true) && true) rfl (by kernel_rfl) (by simp [hmay]) (s4.par rfl rfl)
  ·exact tail_ok (p:=apP [(24,false)]) (hs _) hm (rs:=[.cell 4 25]) (r:=.val true [.tm (appl f l)]) (need:=((!(appl f l).may) == false) && true) rfl (by kernel_rfl) (by simp [hmay]) (s4.par rfl rfl)
end Go.Proofs.YtmngddomnaaedaaGreat
namespace Go.Proofs.YtmngddomnaaedaaGreat
open Go.RowKit Go.Shelf Go.Maps Lvl Trm Env
namespace Smp
noncomputable def numOwn:Option (Typ.Sl × Bool):=match Tryz.f65.body with
 | some c=>Typ.fnRes ⟨Typ.sp8,85,[],[],false,[0,84]⟩ c [.tmp 0] []
 | none=>none
noncomputable def numEls:List (List Typ.Ch):=match numOwn with
 | some (.own _ els,_)=>els
 | _=>[]
end Smp
theorem numbers8_own [Typ.Xt] (P:Nat→Prop) (w:World) (hP:Typ.Lt P w):Calls Tryz.prog 65 #[] w (Typ.MadeV P w (.own .infs Smp.numEls)) :=
 Typ.fn_ok (p:=⟨Typ.sp8,85,[],[],false,[0,84]⟩) (Typ.par_ok Typ.sp8_ok) Tryz.func65 rfl rfl (rs:=[.tmp 0]) rfl (by kernel_rfl) (ss:=[]) (r:=.own .infs Smp.numEls) (by decide) (by kernel_rfl) P w [] hP rfl
namespace Typ
def gC (r:Sl):List (Bool × List Ch)→Option (Sl × Bool)
 | []=>some (r,true)
 | _=>none
theorem gC_ok [Typ.Xt] {f:FuncId} {r0:Sl} (h:∀ (P:Nat→Prop) w,Typ.Lt P w→Calls Tryz.prog f #[] w (MadeV P w r0)):∀ ss r,gC r0 ss=some (r,true)→∀ (P:Nat→Prop) w vs,Lt P w→VArgs P w ss vs→Calls Tryz.prog f vs.toArray w (MadeV P w r):=by
 intro ss r hg P w vs hP hv
 unfold gC at hg
 split at hg
 ·cases hg
  cases hv
  exact h P w hP
 ·cases hg
noncomputable def spI:Spec:=spCons 65 (gC (.own .infs Smp.numEls)) <| spCons 66 (gC (.val false [.infs Smp.pairsI])) <| spCons 67 (gC (.val false [.infs Smp.listsI])) <| spCons 68 (gC (.val false [.infs Smp.madeI])) spNil
theorem spI_ok [Typ.Xt]:SpecOk spI :=
 spCons_ok (spCons_ok (spCons_ok (spCons_ok spNil_ok (by intro args w; kernel_rfl) (gC_ok made8_made)) (by intro args w; kernel_rfl) (gC_ok lists8_made)) (by intro args w; kernel_rfl) (gC_ok pairs8_made)) (by intro args w; kernel_rfl) (gC_ok numbers8_own)
end Typ
end Go.Proofs.YtmngddomnaaedaaGreat
