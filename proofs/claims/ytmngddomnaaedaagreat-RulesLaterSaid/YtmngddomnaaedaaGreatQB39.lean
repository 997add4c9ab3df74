/-
 Beside works and its like: the document's Names,Same of infos; a state that is taken up anew.
-/
import Derived.Lib.Hide
import Derived.Test.YtmngddomnaaedaaGreatQB37
import Derived.Test.YtmngddomnaaedaaGreatQB38
import Derived.Test.YtmngddomnaaedaaGreatQB17
import Derived.Test.YtmngddomnaaedaaGreatQB33
open Go.Lib (hid)
set_option maxRecDepth 100000
set_option maxHeartbeats 32000000
namespace Go.Proofs.YtmngddomnaaedaaGreat
open Go.RowKit Go.Shelf Go.Maps Lvl Trm Env
namespace Typ
def nmB (t:Tm):List ByteArray:=(addN t.nms []).map fun x=>⟨x.toArray⟩
theorem mem_nmB {t:Tm} {s:ByteArray} (h:s.data.toList ∈ t.nms):s ∈ nmB t:=List.mem_map.2 ⟨_,addN_mem.2 (Or.inl h),by simp⟩
theorem nmB_ok {t m:Tm} (ht:t.may=true) (hm:m.may=true) {s:ByteArray} (h:s ∈ nmB (appl t [m])):s.size≤32:=by
 obtain ⟨x,hx,rfl⟩:=List.mem_map.1 h
 have h1:x ∈ t.nms ++ m.nms:=by
  rcases addN_mem.1 hx with a | a
  ·rw [← nms_t2 4 t m]; exact a
  ·cases a
 have h2:nameOk ⟨x.toArray⟩=true:=by
  rcases List.mem_append.1 h1 with a | a
  ·exact names_ok (OkMay.start ht) a
  ·exact names_ok (OkMay.start hm) a
 unfold nameOk at h2
 simp only [Bool.and_eq_true,decide_eq_true_eq] at h2
 exact h2.1.2
theorem nms_appl {t m:Tm} (ht:t.may=true) (hm:m.may=true):(appl t [m]).nms.length≤1000000:=by
 have h1:=nms_few ht
 have h2:=nms_few hm
 have h3:(appl t [m]).nms=t.nms ++ m.nms:=nms_t2 4 t m
 rw [h3,List.length_append]
 omega
theorem nms_self {t:Tm} (h:t.s.size ≠ 0):t.s.data.toList ∈ t.nms:=by
 rw [Tm.nms_eq]
 unfold oneN
 rw [if_neg h]
 exact List.mem_append_left _ List.mem_cons_self
theorem nms_spn:∀ (n:Nat) (t:Tm) (l:List Tm) (d:Int) (x:List UInt8),OkMay t d→x ∈ (spn n t l).1.nms→x ∈ t.nms
 | 0,_,_,_,_,_,h=>h
 | n + 1,t,l,d,x,ho,h=>by
   by_cases hk:t.k=4
   ·obtain ⟨f,y,rfl⟩:=node_app ho.node.1 hk
    have h2:x ∈ f.nms:=nms_spn n f (y :: l) (d + 1) x (ho.down f (by simp [t2,Tm.ts])) h
    rw [nms_t2]
    exact List.mem_append_left _ h2
   ·rw [spn_stop hk] at h
    exact h
theorem may_name {t:Tm} (hm:t.may=true) (hk:t.k=3):t.s.size ≠ 0:=by
 have h0:=(OkMay.start hm).node.1
 unfold Tm.node at h0
 simp only [Bool.and_eq_true] at h0
 have h4:=h0.1.1.2
 rw [if_pos (Or.inl hk)] at h4
 unfold nameOk at h4
 simp only [Bool.and_eq_true,decide_eq_true_eq] at h4
 omega
theorem there_head {L:List Inf} {t:Tm} (hm:t.may=true) (h:∀ s,s.data.toList ∈ t.nms→(fnd L s).2=true):There L (spM t).1:=fun hk=>by
 have h1:(spM t).1.may=true:=by
  rcases (spM_facts t).2 with a | a
  ·rw [a] at hk; cases hk
  ·exact a
 refine h _ ?_
 have h2:=nms_self (may_name h1 hk)
 unfold spM at h2 ⊢
 rw [if_pos hm] at h2 ⊢
 exact nms_spn 65536 t [] 1 _ (OkMay.start hm) h2
def gNms:List (Bool × List Ch)→Option (Sl × Bool)
 | [(true,a)]=>match toTm a with
   | some t=>some (.val false [.strs (nmB t)],decide (t.nms.length≤1000000))
   | none=>none
 | _=>none
noncomputable def eqI (x y:Inf):Bool:=@decide (x=y) (Classical.propDecidable _)
theorem eqI_self (x:Inf):eqI x x=true:=by unfold eqI; exact @decide_eq_true _ (Classical.propDecidable _) rfl
theorem eqI_is {x y:Inf} (h:eqI x y=true):x=y:=by unfold eqI at h; exact @of_decide_eq_true _ (Classical.propDecidable _) h
noncomputable def gSmI:List (Bool × List Ch)→Option (Sl × Bool)
 | [(true,a),(true,b)]=>match normI a,normI b with
   | some (x,f),some (y,g)=>some (.val false [.dat (.bool true)],eqI x y && (decide (x.rules.length≤1000) && (f && g)))
   | _,_=>none
 | _=>none
noncomputable def sp26:Spec:=spCons 28 gNms <| spCons 31 gSmI <| spCons 29 gFind sp25
theorem sp26_ok [Typ.Xt]:SpecOk sp26:=by
 refine spCons_ok (spCons_ok (spCons_ok sp25_ok (by intro args w; kernel_rfl) ?find) (by intro args w; kernel_rfl) ?same) (by intro args w; kernel_rfl) ?names
 case find =>
  intro ss r h P w vs hP hv
  unfold gFind at h
  split at h
  ·split at h
   ·rename_i L hL
    simp only [Option.some.injEq,Prod.mk.injEq,decide_eq_true_eq] at h
    obtain ⟨rfl,hs⟩:=h
    obtain ⟨v,u,rfl,h1,h2⟩:=args2 hv
    cases arg_dat h2
    exact find_made P _ _ _ hL v w hP (arg_one h1) hs
   ·cases h
  ·cases h
 case same =>
  intro ss r h P w vs hP hv
  unfold gSmI at h
  split at h
  ·split at h
   ·rename_i x f y g hx hy
    simp only [Option.some.injEq,Prod.mk.injEq,Bool.and_eq_true,decide_eq_true_eq] at h
    obtain ⟨rfl,he,hr,rfl,rfl⟩:=h
    obtain ⟨v,u,rfl,h1,h2⟩:=args2 hv
    cases eqI_is he
    have hx:=normI_toInf hx
    have hy:=normI_toInf hy
    obtain ⟨us,a1,⟨_,rfl⟩ | ⟨e,_⟩⟩:=h1
    ·obtain ⟨us2,c1,⟨_,rfl⟩ | ⟨e,_⟩⟩:=h2
     ·obtain ⟨ha,rfl,fa⟩:=toInf_ok hx a1
      obtain ⟨hb,rfl,fb⟩:=toInf_ok hy c1
      refine (same7_any x ha hb w fa.here fb.here hr).mono ?_
      rintro e w' ⟨rfl,b⟩
      exact ⟨_,rfl,b,vok_bool _⟩
     ·cases e
    ·cases e
   ·cases h
  ·cases h
 case names =>
  intro ss r h P w vs hP hv
  unfold gNms at h
  split at h
  ·split at h
   ·rename_i t ht
    simp only [Option.some.injEq,Prod.mk.injEq,decide_eq_true_eq] at h
    obtain ⟨rfl,hn⟩:=h
    obtain ⟨v,rfl,h2⟩:=args1 hv
    obtain ⟨x,rfl,f⟩:=arg_tm ht h2
    refine (RefNamesW_any t x w hn f.here).mono ?_
    rintro e w' ⟨v',rfl,hr,b⟩
    have hlen:(nmB t).length=(addN t.nms []).length:=by simp [nmB]
    have key:∃ lo lc,v'=.slice lo (nmB t).length lc∧StrRow P w' lo (nmB t):=by
     rw [hlen]
     rcases hr with ⟨rfl,h0⟩ | ⟨g,cap,rfl,hg,hB,hc,hcm,hcl⟩
     ·exact ⟨none,0,by rw [h0]; rfl,⟨fun k hk=>by rw [hlen,h0] at hk; exact absurd hk (Nat.not_lt_zero _)⟩⟩
     ·refine ⟨_,cap,rfl,⟨fun k hk=>⟨g,0,rfl,hg,fun hp=>by have:=hP g hp; omega,?_⟩⟩⟩
      have hk2:k < (addN t.nms []).length:=by omega
      rw [Nat.zero_add,hcl k hk2]
      simp [nmB]
    obtain ⟨lo,lc,rfl,hrow⟩:=key
    exact ⟨_,rfl,b,[_],⟨[_],[],rfl,⟨lo,lc,rfl,hrow⟩,rfl⟩,Or.inr ⟨rfl,rfl⟩⟩
   ·cases h
  ·cases h
end Typ
end Go.Proofs.YtmngddomnaaedaaGreat
namespace Go.Proofs.YtmngddomnaaedaaGreat
open Go.RowKit Go.Shelf Go.Maps Lvl Trm Env
namespace Typ
def flatC:Ch→Bool
 | .env _=>false
 | _=>true
def Sl.flat:Sl→Bool
 | .val _ l=>l.all flatC
 | .tup r=>r.all fun x=>x.2.all flatC
 | .var _ l=>l.all flatC
 | .fld _ _ l=>l.all flatC
 | .any=>true
 | _=>false
theorem Ch.Ok.flat {i j:Typ.Xt} {P P':Nat→Prop} {w w':World} {c:Ch} {vs:List Value} (hc:flatC c=true) (h:@Ch.Ok i P w c vs) (hr:RanS P w w') (hP:∀ q,P' q→P q∨w.heap.size≤q):@Ch.Ok j P' w' c vs:=by
 cases c with
 | dat v=>exact h
 | lv l=>exact h
 | tm t=>obtain ⟨x,h1,h2⟩:=h; exact ⟨x,h1,firm_turnE h2 hr hP⟩
 | lvs l=>obtain ⟨lo,lc,h1,h2,h3⟩:=h; exact ⟨lo,lc,h1,h2.turn hr hP,h3⟩
 | tms l=>obtain ⟨lo,lc,h1,h2⟩:=h; exact ⟨lo,lc,h1,RowP_turn h2 hr hP⟩
 | rls l=>obtain ⟨lo,lc,h1,h2⟩:=h; exact ⟨lo,lc,h1,h2.turn hr hP⟩
 | infs l=>obtain ⟨lo,lc,h1,h2⟩:=h; exact ⟨lo,lc,h1,h2.turn hr hP⟩
 | env L=>cases hc
 | cut l=>obtain ⟨v,h1,h2⟩:=h; exact ⟨v,h1,h2.turn hr hP (fun r=>RowP_turn r hr hP)⟩
 | spines l=>obtain ⟨lo,lc,h1,h2⟩:=h; exact ⟨lo,lc,h1,h2.turn hr hP⟩
 | tmss l=>obtain ⟨lo,lc,h1,h2⟩:=h; exact ⟨lo,lc,h1,h2.turn hr hP⟩
 | tmsC l=>obtain ⟨lo,lc,h1,h2,h3⟩:=h; exact ⟨lo,lc,h1,RowP_turn h2 hr hP,h3⟩
 | strs l=>obtain ⟨lo,lc,h1,h2⟩:=h; exact ⟨lo,lc,h1,h2.turn hr hP⟩
 | nmf s=>obtain ⟨v,h1,h2⟩:=h; exact ⟨v,h1,h2.turn hr hP⟩
theorem Ok.flat {i j:Typ.Xt} {P P':Nat→Prop} {w w':World} (hr:RanS P w w') (hP:∀ q,P' q→P q∨w.heap.size≤q):∀ {l:List Ch} {vs:List Value},l.all flatC=true→@Typ.Ok i P w l vs→@Typ.Ok j P' w' l vs
 | [],_,_,h=>h
 | c :: r,_,hf,⟨x,y,h1,h2,h3⟩=>by
   rw [List.all_cons,Bool.and_eq_true] at hf
   exact ⟨x,y,h1,Ch.Ok.flat hf.1 h2 hr hP,Ok.flat hr hP hf.2 h3⟩
theorem VArgs.flat {i j:Typ.Xt} {P P':Nat→Prop} {w w':World} (hr:RanS P w w') (hP:∀ q,P' q→P q∨w.heap.size≤q):∀ {ss:List (Bool × List Ch)} {vs:List Value},ss.all (fun x=>x.2.all flatC)=true→@VArgs i P w ss vs→@VArgs j P' w' ss vs
 | [],_,_,h=>h
 | _ :: _,_,hf,⟨v,y,h1,⟨us,h2,h4⟩,h3⟩=>by
   rw [List.all_cons,Bool.and_eq_true] at hf
   exact ⟨v,y,h1,⟨us,Ok.flat hr hP hf.1 h2,h4⟩,VArgs.flat hr hP hf.2 h3⟩
theorem Sl.Ok.flat {i j:Typ.Xt} {P P':Nat→Prop} {fr fr':Nat→Option Nat} {w w':World} {t:Nat} {x:Sl} {v:Value} (hx:x.flat=true) (h:@Sl.Ok i P fr w t x v) (hr:RanS P w w') (hP:∀ q,P' q→P q∨w.heap.size≤q):@Sl.Ok j P' fr' w' t x v:=by
 cases x with
 | val s l=>obtain ⟨us,h1,h2⟩:=h; exact ⟨us,Typ.Ok.flat hr hP hx h1,h2⟩
 | tup r=>obtain ⟨vs,h1,h2⟩:=h; exact ⟨vs,h1,Typ.VArgs.flat hr hP hx h2⟩
 | var ty l =>
   obtain ⟨b,vs,h1,h2,h3,h4⟩:=h
   have hlt:=(Array.getElem?_eq_some_iff.1 h3).1
   exact ⟨b,vs,h1,fun a=>by rcases hP b a with c | c; exact h2 c; omega,hr.keep h3 h2,Typ.Ok.flat hr hP hx h4⟩
 | fld s ty l =>
   obtain ⟨b,o,vs,h1,h2,h3,h4,h5,h6⟩:=h
   exact ⟨b,o,vs,h1,fun a=>by rcases hP b a with c | c; exact h2 c; omega,Nat.lt_of_lt_of_le h3 hr.size,range_ran h4 hr h3 h2,Typ.Ok.flat hr hP hx h5,h6⟩
 | any=>trivial
 | box ty n=>cases hx
 | mvar ty l=>cases hx
 | mfld u ty f=>cases hx
 | own k els=>cases hx
def FlatT (T:Tbl Sl):Prop:=∀ t x,look T t=some x→x.flat=true
def flatB (T:Tbl Sl):Bool:=T.all fun q=>q.2.flat
theorem flatB_ok {T:Tbl Sl} (h:flatB T=true):FlatT T:=fun _ _ hl=>List.all_eq_true.1 h _ (look_mem hl)
theorem St.made {j:Typ.Xt} {P:Nat→Prop} {w:World} {p:Par} {T:Tbl Sl} {a:Act} (hP:@Lt j P w) (hd:a.defers=[]) (hn:a.tmps.size=p.n) (hf:FlatT T∨∀ t x,look T t=some x→∃ s l,x=.val s l∨∃ ty,x=.var ty l)
 (h:∀ t x,look T t=some x→@Sl.Ok j (PB P fun _=>none) (fun _=>none) w t x (a.tmps.getD t undef)):@St j P w p T a w:=by
 have no:∀ {t:Nat} {x:Sl},look T t=some x→(∀ ty l,x ≠ .mvar ty l)∧∀ u ty f,x ≠ .mfld u ty f:=fun {t x} hl=>by
  rcases hf with hf | hf
  ·have:=hf t x hl
   constructor
   ·intro ty l e; subst e; cases this
   ·intro u ty f e; subst e; cases this
  ·obtain ⟨s,l,rfl | ⟨ty,rfl⟩⟩:=hf t x hl
   ·exact ⟨fun _ _ e=>(by cases e),fun _ _ _ e=>(by cases e)⟩
   ·exact ⟨fun _ _ e=>(by cases e),fun _ _ _ e=>(by cases e)⟩
 exact ⟨hd,hn,fun s t ty f hl=>absurd rfl ((no hl).2 t ty f),fun t ty l hl=>absurd rfl ((no hl).1 ty l),fun _=>none,⟨hP,fun _ _ _ a=>(by cases a),fun _ _ a=>(by cases a),Below.refl _ _⟩,h⟩
theorem PB_none {P:Nat→Prop} {q:Nat} (h:PB P (fun _=>none) q):P q:=h.elim id (fun ⟨_,a⟩=>by cases a)
structure Grow (w00:World) (e:Nat) (p:Par) (T:Tbl Sl) (a:Act) (w:World):Prop where
 flat:FlatT T
 ex:∃ P w0 M mo v,EnvP P 0 w0 e M mo v∧(∀ x ∈ M,x.2.1.rules.length≤1000)∧(∃ X,Env.infs M=Smp.smpL ++ X)∧Below w00.heap.size w00 w0∧(∀ q,ownE e v mo q→w00.heap.size≤q)∧@St Typ.Xt.none P w0 p T a w
def addOf (o:Oper):Option (Nat × Nat × Nat):=match o.op,o.dst with
 | .call ⟨.value (.func f),args,_⟩,some d=>if Nat.beq f 30 then (match args.toList with
   | [.tmp s,.tmp r]=>some (s,r,d)
   | _=>none) else none
 | _,_=>none
noncomputable def tr2 (p:Par) (e:Nat) (o:Oper) (xs:List (Option Sl)) (lk:Nat→Option Sl):Option (Upd Sl × Bool × List Nat):=match addOf o with
 | some (s,r,d)=>match lk s,lk r with
   | some (.val false [.dat (.pointer (some ⟨b,0,none⟩))]),some (.val false [.infs l])=>if Nat.blt d p.n && !p.isM d then some ([(d,.any)],decide (b=e) && (decide (l.length≤1000000) && l.all (fun x=>decide (x.rules.length≤1000))),[s,r]) else none
   | _,_=>none
 | none=>match tr p o xs lk with
   | some (u,n,ex)=>if u.all (fun q=>q.2.flat) then some (u,n,ex) else none
   | none=>none
theorem addI_front:∀ (l L:List Inf),∃ X,Smp.addI L l=L ++ X
 | [],L=>⟨[],by simp [Smp.addI]⟩
 | x :: l,L=>by
   obtain ⟨X,hX⟩:=addI_front l (Smp.addI L [x])
   have h1:Smp.addI L (x :: l)=Smp.addI (Smp.addI L [x]) l:=(Smp.addI_app L [x] l).symm
   have h2:Smp.addI L [x]=L ++ [fixI (Smp.ents L) x]:=Smp.addI_snoc L [] x
   exact ⟨[fixI (Smp.ents L) x] ++ X,by rw [h1,hX,h2,List.append_assoc]⟩
theorem added_rules {E M:List Ent} {l:List Inf} (h:Added E l M) (hE:∀ x ∈ E,x.2.1.rules.length≤1000) (hl:∀ x ∈ l,x.rules.length≤1000):∀ x ∈ M,x.2.1.rules.length≤1000:=by
 induction h with
 | nil=>exact hE
 | snoc x b hd h2 ih =>
   intro y hy
   rcases List.mem_append.1 hy with a | a
   ·exact ih (fun z hz=>hl z (List.mem_append_left _ hz)) y a
   ·simp only [List.mem_cons,List.not_mem_nil,or_false] at a
    subst a
    exact hl x (List.mem_append_right _ List.mem_cons_self)
theorem tr2_lk {p:Par} {e:Nat} (o:Oper) (xs:List (Option Sl)) (lk lk':Nat→Option Sl) (r:Upd Sl × Bool × List Nat) (h:tr2 p e o xs lk=some r) (hl:∀ t,also r.2.2 t=true→lk t=lk' t):tr2 p e o xs lk'=some r:=by
 unfold tr2 at h ⊢
 split at h
 ·rename_i s q d hadd
  split at h
  ·rename_i b l h1 h2
   split at h
   ·rename_i hb
    cases h
    have e1:=hl s (by simp [also])
    have e2:=hl q (by simp [also])
    rw [← e1,← e2,h1,h2]
    simp only
    rw [if_pos hb]
   ·cases h
  ·cases h
 ·split at h
  ·rename_i u n ex htr
   split at h
   ·rename_i hu
    cases h
    rw [tr_lk o xs lk lk' _ htr hl]
    simp only
    rw [if_pos hu]
   ·cases h
  ·cases h
theorem flat_app {u:Upd Sl} {T:Tbl Sl} (hT:FlatT T) (hu:u.all (fun q=>q.2.flat)=true):FlatT (app u T):=fun t x hl=>by
 cases hh:hits u t with
 | false=>rw [look_app_ne hh] at hl; exact hT t x hl
 | true =>
   rw [look_app_hit (T':=[]) hh] at hl
   have h2:=look_mem hl
   unfold app at h2
   rw [List.append_nil] at h2
   exact List.all_eq_true.1 hu _ h2
theorem step2 {p:Par} (hpar:@ParOk Typ.Xt.none p) {w00:World} {e:Nat} (Q:Exit→Act→World→Prop) (T:Tbl Sl) (o:Oper) (u:Upd Sl) (ex:List Nat) (a:Act) (w:World) (K:Act→World→Prop)
 (h:tr2 p e o (argsO constO T o) (look T)=some (u,true,ex)) (hs:Grow w00 e p T a w) (hK:∀ a' w',Grow w00 e p (app u T) a' w'→K a' w'):o.wp Tryz.prog a w K Q:=by
 obtain ⟨hfl,P,w0,M,mo,v,hE,hru,⟨X,hX⟩,hbl,hown,hst⟩:=hs
 unfold tr2 at h
 split at h
 ·rename_i s r d hadd
  split at h
  ·rename_i b l h1 h2
   split at h
   ·rename_i hb
    simp only [Option.some.injEq,Prod.mk.injEq,Bool.and_eq_true,decide_eq_true_eq,List.all_eq_true] at h
    obtain ⟨rfl,⟨rfl,hl,hrl⟩,rfl⟩:=h
    rw [Bool.and_eq_true] at hb
    have hd:d < p.n:=by simpa using hb.1
    obtain ⟨fr,hF,hT⟩:=hst.ex
    have g1:=arg_dat (hT s _ h1)
    obtain ⟨lo,lc,g2,g3⟩:=arg_one (hT r _ h2)
    have hop:∃ ty,o.op=.call ⟨.value (.func 30),#[.tmp s,.tmp r],ty⟩∧o.dst=some d:=by
     unfold addOf at hadd
     split at hadd
     ·rename_i f args ty d' hop hdst
      split at hadd
      ·rename_i hf
       split at hadd
       ·rename_i s' r' hargs
        cases hadd
        have:args=#[.tmp s,.tmp r]:=by apply Array.ext'; simpa using hargs
        subst this
        exact ⟨ty,by rw [hop,Nat.eq_of_beq_eq_true hf],hdst⟩
       ·cases hadd
      ·cases hadd
     ·cases hadd
    obtain ⟨ty,hop,hdst⟩:=hop
    have hbw:=hF.bel
    have hEw:EnvP P 0 w b M mo v:=hE.below hbw
    have hin:InfFirm P w lo l:=g3.turn (RanS.refl _ _) (fun q a=>Or.inl (Or.inl a))
    have henter:∀ args w,(callFunc 30 args).run Tryz.prog w=.ok (.enter 30 args) w:=by intro args w; kernel_rfl
    unfold Oper.wp
    rw [run_call hop (henter _ w),Oper.upon_enter]
    have hargs:(#[Operand.tmp s,Operand.tmp r].map a.eval)=#[.pointer (some ⟨b,0,none⟩),.slice lo l.length lc]:=by
     rw [show (#[Operand.tmp s,Operand.tmp r].map a.eval)=#[a.tmps.getD s undef,a.tmps.getD r undef] from by simp [Act.eval],g1]
     simp only [List.cons.injEq,and_true] at g2
     rw [g2]
    rw [hargs]
    refine (addP_any hEw l lo lc hin hl hrl).mono ?_
    rintro y w' ⟨rfl,M',mo',v',P',k1,k2,k3,k4,k5,k6⟩
    show K (a.put o.dst _) w'
    rw [hdst]
    refine hK _ _ ⟨flat_app hfl (by rfl),P',w',M',mo',v',k2,?_,?_,?_,?_,?_⟩
    ·rcases k1 with ⟨_,k1⟩ | ⟨_,rfl⟩
     ·exact added_rules k1 hru hrl
     ·exact hru
    ·rcases k1 with ⟨_,k1⟩ | ⟨_,rfl⟩
     ·obtain ⟨Y,hY⟩:=addI_front l (Env.infs M)
      exact ⟨X ++ Y,by rw [Smp.added_infs k1,hY,hX,List.append_assoc]⟩
     ·exact ⟨X,hX⟩
    ·exact (Trm.go hbl hbw).trans (k4.below hown (by have:=hbl.size; have:=hbw.size; omega))
    ·intro q a
     rcases k5 q a with c | c
     ·exact hown q c
     ·have:=hbl.size; have:=hbw.size; omega
    ·refine St.made (j:=Typ.Xt.none) ⟨k2.lt,Nat.zero_le _⟩ (by simp [Act.put,hst.defers]) (by simp [Act.put,hst.size]) (Or.inl (flat_app hfl (by rfl))) fun t x hx=>?_
     by_cases e:d=t
     ·subst e
      rw [look_app (p:=(d,Sl.any))] at hx
      cases hx
      trivial
     ·rw [look_app_ne (u:=[(d,Sl.any)]) (hits_one_ne e)] at hx
      rw [put_ne (Ne.symm e)]
      refine Sl.Ok.flat (i:=Typ.Xt.none) (hfl t x hx) (hT t x hx) (k3.ran.wide fun q a=>Or.inl a) fun q hq=>?_
      rcases k3.own q (PB_none hq) with c | c
      ·exact Or.inl (Or.inl c)
      ·exact Or.inr c
   ·cases h
  ·cases h
 ·split at h
  ·rename_i u' n ex' htr
   split at h
   ·rename_i hu
    simp only [Option.some.injEq,Prod.mk.injEq] at h
    obtain ⟨rfl,rfl,rfl⟩:=h
    exact step hpar Q T o u' ex' a w K htr hst fun a' w' k=>hK a' w' ⟨flat_app hfl hu,P,w0,M,mo,v,hE,hru,⟨X,hX⟩,hbl,hown,k⟩
   ·cases h
  ·cases h
end Typ
end Go.Proofs.YtmngddomnaaedaaGreat
namespace Go.Proofs.YtmngddomnaaedaaGreat
open Go.RowKit Go.Shelf Go.Maps Lvl Trm Env
namespace Typ
theorem wp_put {P:Program} {o:Oper} {a:Act} {w:World} {K:Act→World→Prop} {Q:Exit→Act→World→Prop} (h:o.wp P a w K Q):o.wp P a w (fun a' w'=>K a' w'∧∃ v ds,a'=({ a with defers:=ds }:Act).put o.dst v) Q:=by
 unfold Oper.wp at *
 generalize (execOp a.eval o).run P w=r at *
 cases r with
 | ok n w' =>
   cases n <;> simp only [Oper.upon] at h ⊢ <;>
    first
     | exact ⟨h,_,_,rfl⟩
     | exact Calls.mono h (fun e w'' he=>by cases e <;> first | exact ⟨he,_,a.defers,rfl⟩ | exact he)
     | exact Rows.mono h (fun _ _ he=>⟨he,_,a.defers,rfl⟩)
 | halt x w'=>cases x <;> simp only [Oper.upon] at h ⊢ <;> exact h
theorem put_keep {a:Act} {d:Option Nat} {v:Value} {ds:List Deferred} {s:Nat} (h:d ≠ some s):((({ a with defers:=ds }:Act).put d v).tmps.getD s undef)=a.tmps.getD s undef:=by
 cases d with
 | none=>rfl
 | some d=>exact put_ne (a:={ a with defers:=ds }) (fun e=>h (by rw [e]))
def isD (o:Oper) (s:Nat):Bool:=match o.dst with
 | some d=>Nat.beq d s
 | none=>false
theorem isD_no {o:Oper} {s:Nat} (h:isD o s=false):o.dst ≠ some s:=fun e=>by
 unfold isD at h
 rw [e] at h
 have h:Nat.beq s s=false:=h
 simp at h
noncomputable def tr3 (p:Par) (s:Nat) (o:Oper) (xs:List (Option Sl)) (lk:Nat→Option Sl):Option (Upd Sl × Bool × List Nat):=if isD o s then none else tr p o xs lk
noncomputable def jud3 (p:Par) (s:Nat):Tr Sl:=⟨constO,tr3 p s,boolOf,.any,fun d=>!p.isM d && !Nat.beq d s⟩
noncomputable def chk3To (p:Par) (s:Nat) (x:Code) (T T':Tbl Sl):Option (Lv' × Bool × List (Option Sl)):=match chkC (jud3 p s) x T with
 | some (X,e,need)=>some (e,need.all (fun b=>b),T'.map (fun q=>look X q.1))
 | none=>none
theorem pin_ok [Typ.Xt] {p:Par} (hsp:ParOk p) (hm:Tryz.prog.follows .mixedOrders=true) {P0:Nat→Prop} {w0:World} {s:Nat} {v:Value} {x:Code} {T T':Tbl Sl} {e:Lv'} {need:Bool} (h:chk3To p s x T T'=some (e,need,T'.map (fun q=>some q.2))) (hneed:need=true) {Q:Exit→Act→World→Prop} {a:Act} {w:World} (hs:St P0 w0 p T a w) (hv:a.tmps.getD s undef=v) (hQ:∀ a' w',St P0 w0 p T' a' w'→a'.tmps.getD s undef=v→Q e.to a' w') (hrf:refsB T'=true:=by rfl):x.wp Tryz.prog Q a w:=by
 unfold chk3To at h
 split at h
 ·rename_i X e2 n2 hc
  simp only [Option.some.injEq,Prod.mk.injEq] at h
  obtain ⟨rfl,rfl,h3⟩:=h
  refine chk_sound (J:=jud3 p s) (St:=fun T a w=>St P0 w0 p T a w∧a.tmps.getD s undef=v) hm (fun T T' a w ht k=>⟨St.ext T T' a w ht k.1,k.2⟩) (fun T a w k=>⟨St.drawn T a w k.1,k.2⟩) (fun T t x b a w hx hb k=>St.bool T t x b a w hx hb k.1) (fun T d a w hd k=>?_) (fun T x v b a w hx hb k=>St.cond T x v b a w hx hb k.1) (fun o xs lk lk' r h hl=>?_) (fun Q T o u ex a w K ht k hK=>?_) x T X e2 n2 Q a w hc hneed ⟨hs,hv⟩ (fun a' w' k=>hQ a' w' (k.1.weak h3 hrf) k.2)
  ·have hd:(!p.isM d && !Nat.beq d s)=true:=hd
   rw [Bool.and_eq_true] at hd
   exact ⟨St.junk T d a w (by simpa using hd.1) k.1,(put_ne (fun e=>by subst e; simp at hd)).trans k.2⟩
  ·have h:tr3 p s o xs lk=some r:=h
   show tr3 p s o xs lk'=some r
   unfold tr3 at h ⊢
   split at h
   ·cases h
   ·rename_i hd
    rw [if_neg hd]
    exact tr_lk o xs lk lk' r h hl
  ·have ht:tr3 p s o (argsO constO T o) (look T)=some (u,true,ex):=ht
   unfold tr3 at ht
   split at ht
   ·cases ht
   ·rename_i hd
    refine Oper.wp_mono (fun a' w' hk=>?_) (wp_put (step hsp Q T o u ex a w (fun a' w'=>St P0 w0 p (app u T) a' w') ht k.1 (fun a' w' k=>k)))
    obtain ⟨h1,v2,ds,h2⟩:=hk
    refine hK a' w' ⟨h1,?_⟩
    rw [h2,put_keep (isD_no (by simpa using hd))]
    exact k.2
 ·cases h
noncomputable def jud2 (p:Par) (e:Nat):Tr Sl:=⟨constO,tr2 p e,boolOf,.any,fun d=>!p.isM d⟩
noncomputable def chk2To (p:Par) (e:Nat) (x:Code) (T T':Tbl Sl):Option (Lv' × Bool × List (Option Sl)):=match chkC (jud2 p e) x T with
 | some (X,e,need)=>some (e,need.all (fun b=>b),T'.map (fun q=>look X q.1))
 | none=>none
theorem Grow.map {w00:World} {e:Nat} {p q:Par} {T T':Tbl Sl} {a a':Act} {w w':World} (g:Grow w00 e p T a w) (hf:FlatT T→FlatT T') (h:∀ P w0,@St Typ.Xt.none P w0 p T a w→@St Typ.Xt.none P w0 q T' a' w'):Grow w00 e q T' a' w':=by
 obtain ⟨hfl,P,w0,M,mo,v,h1,h2,h3,h4,h5,k⟩:=g
 exact ⟨hf hfl,P,w0,M,mo,v,h1,h2,h3,h4,h5,h P w0 k⟩
theorem grow_ok {p:Par} (hsp:@ParOk Typ.Xt.none p) (hm:Tryz.prog.follows .mixedOrders=true) {w00:World} {b:Nat} {x:Code} {T T':Tbl Sl} {e:Lv'} {need:Bool} (h:chk2To p b x T T'=some (e,need,T'.map (fun q=>some q.2))) (hneed:need=true) {Q:Exit→Act→World→Prop} {a:Act} {w:World} (hs:Grow w00 b p T a w) (hQ:∀ a' w',Grow w00 b p T' a' w'→Q e.to a' w') (hrf:refsB T'=true:=by rfl) (hff:flatB T'=true:=by rfl):x.wp Tryz.prog Q a w:=by
 unfold chk2To at h
 split at h
 ·rename_i X e2 n2 hc
  simp only [Option.some.injEq,Prod.mk.injEq] at h
  obtain ⟨rfl,rfl,h3⟩:=h
  refine chk_sound (J:=jud2 p b) (St:=Grow w00 b p) hm (fun T T' a w ht k=>k.map (fun hf t x hx=>hf t x ((ht t).trans hx)) (fun P w0 s=>St.ext T T' a w ht s)) (fun T a w k=>k.map id (fun P w0 s=>St.drawn T a w s)) (fun T t x b a w hx hb k=>?_) (fun T d a w hd k=>k.map (fun hf=>flat_app hf (by rfl)) (fun P w0 s=>St.junk T d a w (by have h2:(!p.isM d)=true:=hd; simpa using h2) s)) (fun T x v b a w hx hb k=>?_) (fun o xs lk lk' r h hl=>tr2_lk o xs lk lk' r h hl) (fun Q T o u ex a w K ht k hK=>step2 hsp Q T o u ex a w K ht k hK) x T X e2 n2 Q a w hc hneed hs (fun a' w' k=>hQ a' w' (k.map (fun _=>flatB_ok hff) (fun P w0 s=>s.weak h3 hrf)))
  ·obtain ⟨_,P,w0,M,mo,v,_,_,_,_,_,s⟩:=k
   exact St.bool T t x b a w hx hb s
  ·obtain ⟨_,P,w0,M,mo,v2,_,_,_,_,_,s⟩:=k
   exact St.cond T x v b a w hx hb s
 ·cases h
def LawP (w00:World) (e:Ending) (w':World):Prop:=e=.returned (.bool true)∧Below w00.heap.size w00 w'
theorem St.fin [Typ.Xt] {P0:Nat→Prop} {w00 w0:World} {p:Par} {T:Tbl Sl} {a:Act} {w:World} {fn:Func} (k:St P0 w0 p T a w) (h:resSl T fn.results.toList=some (.val false [.dat (.bool true)])) (hb:Below w00.heap.size w00 w0):bodyPost Tryz.prog fn (LawP w00) .ret a w:=by
 obtain ⟨v,e1,e2⟩:=k.results h
 obtain ⟨fr,hF,hT⟩:=k.ex
 cases arg_dat e2
 exact ⟨k.defers,_,e1,rfl,hb.trans (hF.bel.mono hb.size)⟩
theorem Grow.fin {w00:World} {e:Nat} {p:Par} {T:Tbl Sl} {a:Act} {w:World} {fn:Func} (g:Grow w00 e p T a w) (h:resSl T fn.results.toList=some (.val false [.dat (.bool true)])):bodyPost Tryz.prog fn (LawP w00) .ret a w:=by
 obtain ⟨_,P,w0,M,mo,v,_,_,_,h4,_,s⟩:=g
 exact St.fin s h h4
theorem Grow.par {w00:World} {e:Nat} {p q:Par} {T:Tbl Sl} {a:Act} {w:World} (g:Grow w00 e p T a w) (hn:p.n=q.n) (hm:p.mu=q.mu):Grow w00 e q T a w:=g.map id (fun _ _ s=>s.par hn hm)
theorem slots_nil {F:Nat→Sl→Prop}:∀ t x,look ([]:Tbl Sl) t=some x→F t x:=fun _ _ h=>by cases h
theorem slots_cons {F:Nat→Sl→Prop} {k:Nat} {y:Sl} {T:Tbl Sl} (h0:F k y) (h:∀ t x,look T t=some x→F t x):∀ t x,look ((k,y) :: T) t=some x→F t x:=fun t x hl=>by
 unfold look at hl
 split at hl
 ·rename_i hb
  cases hl
  rw [← Nat.eq_of_beq_eq_true hb]
  exact h0
 ·exact h t x hl
end Typ
end Go.Proofs.YtmngddomnaaedaaGreat
namespace Go.Proofs.YtmngddomnaaedaaGreat
open Go.RowKit Go.Shelf Go.Maps Lvl Trm Env
theorem Trm.firm_none {w:World} {t:Tm} {h:Hd} (hin:t.In w.heap.size w h):FirmS (fun _=>False) w t h:=fun _ hr =>
 Tm.In.mono hr.size _ _ (Tm.In.below (hr.below (B:=w.heap.size) (fun _ a=>a.elim) (Nat.le_refl _)) _ _ hin)
end Go.Proofs.YtmngddomnaaedaaGreat
