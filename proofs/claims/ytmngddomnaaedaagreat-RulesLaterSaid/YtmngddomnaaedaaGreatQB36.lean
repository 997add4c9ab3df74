/-
 What Levels answers of a term that may be is the document's.
-/
import Derived.Lib.Hide
import Derived.Test.YtmngddomnaaedaaGreatQB32
import Derived.Test.YtmngddomnaaedaaGreatQB33
import Derived.Test.YtmngddomnaaedaaGreatQB35
open Go.Lib (hid)
set_option maxRecDepth 100000
set_option maxHeartbeats 32000000
namespace Go.Proofs.YtmngddomnaaedaaGreat
open Go.RowKit Go.Shelf Go.Maps Lvl Trm Env
namespace Env
theorem formC_zero:∀ ps:List (Int × Int),formC 0 ps=0
 | []=>rfl
 | x :: r=>by
   show formC (if (0:Int)≤x.2 then 0 else 0) r=0
   rw [ite_self]
   exact formC_zero r
theorem formC_or (c:Int):∀ ps:List (Int × Int),formC c ps=c∨formC c ps=0
 | []=>Or.inl rfl
 | x :: r=>by
   show formC (if c≤x.2 then 0 else c) r=c∨formC (if c≤x.2 then 0 else c) r=0
   by_cases h:c≤x.2
   ·rw [if_pos h]; exact Or.inr (formC_zero r)
   ·rw [if_neg h]; exact formC_or c r
theorem form_may {l:Lv} (h:l.form.within=true):l.form.may=true:=by
 have e:formC (formC l.c l.ps) l.ps=formC l.c l.ps:=by
  rcases formC_or l.c l.ps with a | a
  ·rw [a,a]
  ·rw [a,formC_zero]
 unfold Lv.may
 rw [h]
 show (l.form.c == formC (formC l.c l.ps) l.ps)=true
 rw [e]
 exact beq_self_eq_true _
theorem ok_may {L:List Lv} {l:Lv} (h:okL L l):(fL L l).may=true:=by
 unfold okL inst at h
 unfold fL inst
 by_cases h1:l.may=true∧L.all Lv.may=true
 ·rw [if_pos h1] at h ⊢
  cases ha:instAll L (number l.c) l.ps with
  | none=>rw [ha] at h; simp at h
  | some o =>
    rw [ha] at h
    simp only at h ⊢
    unfold ans at h ⊢
    by_cases h2:o.form.within=true
    ·rw [if_pos h2]; exact form_may h2
    ·rw [if_neg h2] at h; simp at h
 ·rw [if_neg h1] at h; simp at h
theorem lmapL_len (f:Lv→Lv):∀ ts:List Tm,(lmapL f ts).length=ts.length
 | []=>rfl
 | t :: r=>by rw [lmapL,List.length_cons,List.length_cons,lmapL_len f r]
theorem lmap_node {f:Lv→Lv} {k n:Int} {s:ByteArray} {ls:List Lv} {ts:List Tm} (h:(Tm.mk k n s ls ts).node=true) (ha:∀ l ∈ ls,(f l).may=true):(Tm.mk k n s (ls.map f) (lmapL f ts)).node=true:=by
 unfold Tm.node at h ⊢
 have e1:(Tm.mk k n s (ls.map f) (lmapL f ts)).ts.length=ts.length:=lmapL_len f ts
 have e2:(Tm.mk k n s (ls.map f) (lmapL f ts)).ls.length=ls.length:=List.length_map _
 have e3:(Tm.mk k n s (ls.map f) (lmapL f ts)).ls.all Lv.may=true:=by
  show (ls.map f).all Lv.may=true
  rw [List.all_map,List.all_eq_true]
  exact ha
 have e4:(Tm.mk k n s ls ts).ls.all Lv.may=true:=by
  simp only [Bool.and_eq_true] at h
  exact h.1.1.1.2
 rw [e1,e2,e3]
 rw [e4] at h
 exact h
mutual
theorem lmap_left {f:Lv→Lv}:∀ (t:Tm) (l d:Int),0≤t.left (fun x=>!x.node) l d→t.allL (fun x=>(f x).may=true)→(t.lmap f).left (fun x=>!x.node) l d=t.left (fun x=>!x.node) l d
 | .mk k n s ls ts,l,d,h,ha=>by
   rw [Tm.allL] at ha
   rw [Tm.left] at h
   by_cases hb:l - 1 < 0∨d≤0∨(fun x:Tm=>!x.node) (.mk k n s ls ts)=true
   ·rw [if_pos hb] at h; omega
   ·rw [if_neg hb] at h
    rw [Tm.lmap,Tm.left,Tm.left,if_neg hb]
    have hn:(Tm.mk k n s ls ts).node=true:=by
     cases hq:(Tm.mk k n s ls ts).node
     ·exact absurd (Or.inr (Or.inr (by simp [hq]))) hb
     ·rfl
    have hb2:¬ (l - 1 < 0∨d≤0∨(fun x:Tm=>!x.node) (.mk k n s (ls.map f) (lmapL f ts))=true):=by
     rintro (a | a | a)
     ·exact hb (Or.inl a)
     ·exact hb (Or.inr (Or.inl a))
     ·simp [lmap_node hn ha.1] at a
    rw [if_neg hb2]
    exact lmapL_left ts (l - 1) (d - 1) h ha.2
theorem lmapL_left {f:Lv→Lv}:∀ (ts:List Tm) (l d:Int),0≤leftL (fun x=>!x.node) ts l d→allLL (fun x=>(f x).may=true) ts→leftL (fun x=>!x.node) (lmapL f ts) l d=leftL (fun x=>!x.node) ts l d
 | [],l,d,_,_=>by rw [lmapL]
 | t :: r,l,d,h,ha=>by
   rw [allLL] at ha
   rw [leftL] at h
   by_cases h0:t.left (fun x=>!x.node) l d < 0
   ·rw [if_pos h0] at h; omega
   ·rw [if_neg h0] at h
    rw [lmapL,leftL,lmap_left t l d (by omega) ha.1,if_neg h0,leftL,if_neg h0]
    exact lmapL_left r _ d h ha.2
end
mutual
theorem allL_ok {L:List Lv}:∀ t:Tm,t.allL (okL L)→t.allL (fun x=>(fL L x).may=true)
 | .mk k n s ls ts,h=>by
   rw [Tm.allL] at h ⊢
   exact ⟨fun l hl=>ok_may (h.1 l hl),allLL_ok ts h.2⟩
theorem allLL_ok {L:List Lv}:∀ ts:List Tm,allLL (okL L) ts→allLL (fun x=>(fL L x).may=true) ts
 | [],_=>by rw [allLL]; trivial
 | t :: r,h=>by
   rw [allLL] at h ⊢
   exact ⟨allL_ok t h.1,allLL_ok r h.2⟩
end
theorem lev_same {t:Tm} (ht:t.may=true) (L:List Lv):levelsAns t L=levB L t:=by
 unfold levB
 by_cases he:t.lerr L=0
 ·rw [if_pos he]
  have ha:=allL_lerr t he
  have h0:0≤t.left (fun x=>!x.node) 65536 4096:=of_decide_eq_true ht
  refine levels_is ht ha rfl ?_
  unfold Tm.may
  rw [lmap_left t 65536 4096 h0 (allL_ok t ha)]
  exact decide_eq_true h0
 ·rw [if_neg he]
  have h0:=thr_err (L:=L) t L 1 0 (OkMay.start ht) (.inl rfl)
  unfold levelsAns ansT
  rw [if_neg (by rw [ht]; simp),h0,if_pos he]
end Env
end Go.Proofs.YtmngddomnaaedaaGreat
namespace Go.Proofs.YtmngddomnaaedaaGreat
open Go.RowKit Go.Shelf Go.Maps Lvl Trm Env
namespace Typ
def lvA (t:Tm) (L:List Lv):Tm × Int:=if t.may=true then levB L t else (zeroT,1)
theorem lvA_is (t:Tm) (L:List Lv):levelsAns t L=lvA t L:=by
 unfold lvA
 by_cases h:t.may=true
 ·rw [if_pos h,lev_same h]
 ·rw [if_neg h]
  unfold levelsAns
  rw [if_pos (by simpa using h)]
theorem LRowP.low {P:Nat→Prop} {w:World} {lo:Option Addr} {l:List Lv} (h:LRowP P w lo l):LRow w lo l∧Low w.heap.size lo l.length:=by
 refine ⟨⟨fun k hk=>?_⟩,fun hn a ha=>?_⟩
 ·obtain ⟨b,off,b1,b2,b3,b4⟩:=h.place k hk
  exact ⟨b,off,b1,b4 0 _ rfl,b4 1 _ rfl,b4 2 _ rfl,b4 3 _ rfl,b4 4 _ rfl⟩
 ·obtain ⟨b,off,b1,b2,b3,b4⟩:=h.place 0 hn
  rw [b1] at ha
  cases ha
  exact b2
def tmE (x:Tm × Int):Sl:=.tup [(true,[.tm x.1]),(false,[.dat (.int .i64 x.2)])]
def gLvs:List (Bool × List Ch)→Option (Sl × Bool)
 | [(true,a),(false,[c])]=>match toTm a,asLvs c with
   | some t,some ls=>some (tmE (lvA t ls),decide (ls.length≤1000000))
   | _,_=>none
 | _=>none
theorem vok_int [Typ.Xt] {P:Nat→Prop} {w:World} (z:Int):VOk P w false [.dat (.int .i64 z)] (.int .i64 z):=⟨[_],ok_dat rfl rfl,Or.inr ⟨rfl,rfl⟩⟩
theorem made_tmE [Typ.Xt] {P:Nat→Prop} {w w':World} {x:Tm × Int} {h:Hd} (b:Below w.heap.size w w') (f:FirmS P w' x.1 h):MadeV P w (tmE x) (.returned (.tuple #[x.1.val h,.int .i64 x.2])) w' :=
 ⟨_,rfl,b,[_,_],rfl,_,_,rfl,vok_tm f,_,_,rfl,vok_int _,rfl⟩
def vaI (L:List Inf) (t:Tm):Tm × Int:=if t.k=3∧t.may=true then (match L.find? (fun x=>key x.name == key t.s) with
    | none=>(zeroT,6)
    | some x=>if (t.ls.length:Int)=x.params then (if x.kind=2 then lvA x.va t.ls else (zeroT,6)) else (zeroT,8)) else (zeroT,1)
theorem vaI_is (E:List Ent) (t:Tm):vaAns E t=vaI (infs E) t:=by
 have hk:=look_infs E (key t.s)
 unfold vaI vaAns ofO
 by_cases h:t.k=3∧t.may=true
 ·rw [if_pos h,← hk]
  cases hl:lookE E (key t.s) with
  | none =>
    have e:ofE E t=6:=by unfold ofE; rw [if_pos h,hl]
    rw [e,if_neg (by decide)]
    rfl
  | some p =>
    by_cases hp:(t.ls.length:Int)=p.2.1.params
    ·have e:ofE E t=0:=by unfold ofE; rw [if_pos h,hl]; simp only; rw [if_pos hp]
     rw [e,if_pos rfl]
     simp only [Option.map_some]
     rw [if_pos hp,lvA_is]
    ·have e:ofE E t=8:=by unfold ofE; rw [if_pos h,hl]; simp only; rw [if_neg hp]
     rw [e,if_neg (by decide)]
     simp only [Option.map_some]
     rw [if_neg hp]
 ·have e:ofE E t=1:=by unfold ofE; rw [if_neg h]
  rw [if_neg h,e,if_neg (by decide)]
def gVal:List (Bool × List Ch)→Option (Sl × Bool)
 | [(false,[.env L]),(true,a)]=>match toTm a with
   | some t=>some (tmE (vaI L t),decide (t.ls.length≤1000000))
   | none=>none
 | _=>none
theorem value_made [Typ.Xt] (P:Nat→Prop) (L:List Inf) (t:Tm) (h:Hd) (v:Value) (w:World) (hP:Typ.Lt P w) (hv:(Ch.env L).Ok P w [v]) (f:FirmS P w t h) (hl:t.ls.length≤1000000) :
 Calls Tryz.prog 52 #[v,t.val h] w (MadeV P w (tmE (vaI L t))):=by
 obtain ⟨e,mo,u,E,h1,rfl,h2⟩:=hv
 cases h1
 rw [← vaI_is]
 refine (valueF_any (P:=P) h2.env.env t h f.here hl hP (fun p hp=>((h2.env.ent p hp).2.turn (RanS.refl _ _) (fun q a=>Or.inl (Or.inl ⟨a,hP q a⟩))))).mono ?_
 rintro y w' ⟨h',rfl,g,b⟩
 exact made_tmE b g
def idxF (s:ByteArray):List Rl→Nat→Int
 | [],_=>-1
 | r :: q,k=>if (r.ctor.toList == s.toList) then (k:Int) else idxF s q (k + 1)
def idxR (l:List Rl) (s:ByteArray):Int:=idxF s l 0
def ixT (l:List Rl) (s:ByteArray) (z:Int):Tbl Sl:=[(0,.val false [.rls l]),(1,.val false [.nmf s]),(7,.val false [.dat (.int .i64 l.length)]),(8,.val false [.dat (.int .i64 z)])]
def ixP (ov:List (Nat × Bool)):Par:=⟨spNil,19,ov,[],true,[]⟩
theorem idxF_drop {l:List Rl} {s:ByteArray} {g:Nat} (h:g < l.length):idxF s (l.drop g) g=if ((l.getD g zR0).ctor.toList == s.toList) then (g:Int) else idxF s (l.drop (g + 1)) (g + 1):=by
 rw [getD_of h,List.drop_eq_getElem_cons h]
 rfl
end Typ
open Typ in
theorem IndexFunc_rules [Typ.Xt] (P:Nat→Prop) (l:List Rl) (s:ByteArray) (vs:List Value) (w:World) (hP:Typ.Lt P w) (hv:VArgs P w [(false,[.rls l]),(false,[.nmf s])] vs) (hn:l.length≤1000000) :
 Calls Tryz.prog 81 vs.toArray w (MadeV P w (.val false [.dat (.int .i64 (idxR l s))])):=by
 have hm:Tryz.prog.follows .mixedOrders=true:=by kernel_rfl
 have hs:∀ ov,ParOk (ixP ov):=fun _=>par_okC spNil_ok
 have hlen:=hv.len
 refine calls_of_wp Tryz.func81 rfl ?_
 have st:=start_ok (p:=ixP []) (P:=P) (w:=w) hP hv (by simp [ixP])
 refine wp_seq (piece_ok (p:=ixP []) (hs _) hm (T':=[(0,.val false [.rls l]),(1,.val false [.nmf s])]) (e:=.normal) (need:=true) (by kernel_rfl) rfl st fun a1 w1 s1=>?_)
 refine wp_seq ?_
 refine wp_seq (piece_ok (p:=ixP []) (hs _) hm (T':=ixT l s 0) (e:=.normal) (need:=true) (by kernel_rfl) rfl s1 fun a3 w3 s3=>?_)
 refine wp_block ?_
 refine Typ.wp_loop_ghost (fun (g:Nat) a w'=>St P w (ixP []) (ixT l s g) a w'∧g≤l.length∧idxF s (l.drop g) g=idxR l s) (fun g=>l.length - g) (g0:=0) ⟨s3,by omega,rfl⟩ ?_
 rintro g a w' ⟨s4,hg,hno⟩
 by_cases hlt:g < l.length
 ·have hw:IntKind.i64.wrap ((g:Int) + 1)=((g + 1:Nat):Int):=by rw [IntWalk.i64_in _ (by omega)]; simp
  rw [idxF_drop hlt] at hno
  cases hk:((l.getD g zR0).ctor.toList == s.toList)
  ·refine piece_ok (p:=ixP [(9,true),(16,false)]) (hs _) hm (T':=ixT l s (IntKind.i64.wrap ((g:Int) + 1))) (e:=.normal) (need:=(decide ((g:Int) < l.length) == true) && (((decide ((0:Int)≤g) && decide (g < l.length)) && true) && ((((l.getD g zR0).ctor.toList == s.toList) == false) && true))) (by kernel_rfl) (by rw [hk]; simp [hlt]) (s4.par rfl rfl) fun a4 w4 s5=>?_
   rw [hw] at s5
   rw [hk] at hno
   exact ⟨g + 1,⟨s5.par rfl rfl,by omega,hno⟩,by omega⟩
  ·refine piece_ok (p:=ixP [(9,true),(16,true)]) (hs _) hm (T':=[(4,.val false [.dat (.int .i64 g)])]) (e:=.ret) (need:=(decide ((g:Int) < l.length) == true) && (((decide ((0:Int)≤g) && decide (g < l.length)) && true) && ((((l.getD g zR0).ctor.toList == s.toList) == true) && true))) (by kernel_rfl) (by rw [hk]; simp [hlt]) (s4.par rfl rfl) fun a4 w4 s5=>?_
   rw [hk,if_pos rfl] at hno
   rw [← hno]
   exact s5.post rfl
 ·have hgl:l.drop g=[]:=List.drop_eq_nil_of_le (by omega)
  rw [hgl] at hno
  refine piece_ok (p:=ixP [(9,false)]) (hs _) hm (T':=ixT l s g) (e:=.exit 0) (need:=(decide ((g:Int) < l.length) == false) && true) (by kernel_rfl) (by simpa using by omega) (s4.par rfl rfl) fun a4 w4 s5=>?_
  rw [← hno]
  exact tail_ok (p:=ixP []) (hs _) hm (rs:=[.tmp 4]) (r:=.val false [.dat (.int .i64 (-1))]) (need:=true) rfl (by kernel_rfl) rfl (s5.par rfl rfl)
namespace Typ
def gIdx:List (Bool × List Ch)→Option (Sl × Bool)
 | [(false,[c]),(false,[.nmf s])]=>match asRls c with
   | some l=>some (.val false [.dat (.int .i64 (idxR l s))],decide (l.length≤1000000))
   | none=>none
 | _=>none
def sp22:Spec:=spCons 50 gLvs <| spCons 52 gVal <| spCons 81 gIdx sp18
theorem sp22_ok [Typ.Xt]:SpecOk sp22:=by
 refine spCons_ok (spCons_ok (spCons_ok sp18_ok (by intro args w; kernel_rfl) ?idx) (by intro args w; kernel_rfl) ?val) (by intro args w; kernel_rfl) ?lvs
 case idx =>
  intro ss r h P w vs hP hv
  unfold gIdx at h
  split at h
  ·rename_i c s
   split at h
   ·rename_i l hl
    simp only [Option.some.injEq,Prod.mk.injEq,decide_eq_true_eq] at h
    obtain ⟨rfl,hn⟩:=h
    obtain ⟨v,u,rfl,h1,h2⟩:=args2 hv
    obtain ⟨lo,lc,e,g⟩:=asRls_ok hl (arg_one h1)
    cases e
    exact IndexFunc_rules P l s _ w hP ⟨_,_,rfl,⟨_,⟨[_],[],rfl,⟨lo,lc,rfl,g⟩,rfl⟩,Or.inr ⟨rfl,rfl⟩⟩,_,_,rfl,h2,rfl⟩ hn
   ·cases h
  ·cases h
 case val =>
  intro ss r h P w vs hP hv
  unfold gVal at h
  split at h
  ·rename_i L a
   split at h
   ·rename_i t ht
    simp only [Option.some.injEq,Prod.mk.injEq,decide_eq_true_eq] at h
    obtain ⟨rfl,hn⟩:=h
    obtain ⟨v,u,rfl,h1,h2⟩:=args2 hv
    obtain ⟨x,rfl,f⟩:=arg_tm ht h2
    exact value_made P L t x v w hP (arg_one h1) f hn
   ·cases h
  ·cases h
 case lvs =>
  intro ss r h P w vs hP hv
  unfold gLvs at h
  split at h
  ·rename_i a c
   split at h
   ·rename_i t ls ht hls
    simp only [Option.some.injEq,Prod.mk.injEq,decide_eq_true_eq] at h
    obtain ⟨rfl,hn⟩:=h
    obtain ⟨v,u,rfl,h1,h2⟩:=args2 hv
    obtain ⟨x,rfl,f⟩:=arg_tm ht h1
    obtain ⟨lo,lc,e,g1,g2⟩:=asLvs_ok hls (arg_one h2)
    cases e
    rw [← lvA_is]
    refine (LevelsF_any P t x ls lo lc w hP f g1.low.1 g1.low.2 hn g2).mono ?_
    rintro y w' ⟨h',rfl,g,b⟩
    exact made_tmE b g
   ·cases h
  ·cases h
end Typ
end Go.Proofs.YtmngddomnaaedaaGreat
namespace Go.Proofs.YtmngddomnaaedaaGreat
open Go.RowKit Go.Shelf Go.Maps Lvl Trm Env
namespace Typ
def rlCh (r:Rl):List Ch:=[.dat (.string r.ctor),.dat (.int .i64 r.fields),.tm r.body]
def rlAt (l:List Rl) (s:ByteArray):Rl:=l.getD (idxR l s).toNat zR0
def rlN (c:Inf) (r:Rl):Int:=IntKind.i64.wrap (c.fixed + r.fields)
def rlf (L:List Inf) (l:List Rl) (h:Tm) (n:Int):Rl × Bool :=
 if (nmd L h 5).2 then (if decide (idxR l (nmd L h 5).1.name < 0) then (zR0,false) else (if (n != rlN (nmd L h 5).1 (rlAt l (nmd L h 5).1.name)) then (zR0,false) else (rlAt l (nmd L h 5).1.name,true))) else (zR0,false)
def rlS (x:Rl × Bool):Sl:=.tup [(true,rlCh x.1),(false,[.dat (.bool x.2)])]
theorem idxF_in {s:ByteArray}:∀ (l:List Rl) (k:Nat),idxF s l k=-1∨((k:Int)≤idxF s l k∧idxF s l k < k + l.length)
 | [],_=>Or.inl rfl
 | r :: q,k=>by
   unfold idxF
   split
   ·right; simp only [List.length_cons]; omega
   ·rcases idxF_in q (k + 1) with h | ⟨h1,h2⟩
    ·exact Or.inl h
    ·right; simp only [List.length_cons]; omega
theorem idxR_in {l:List Rl} {s:ByteArray} (h:decide (idxR l s < 0)=false):0≤idxR l s∧(idxR l s).toNat < l.length:=by
 have h0:=of_decide_eq_false h
 rcases idxF_in (s:=s) l 0 with e | ⟨e1,e2⟩
 ·unfold idxR at h0; omega
 ·unfold idxR at h0 ⊢; omega
theorem ruleOf_made [Typ.Xt] (P:Nat→Prop) (L:List Inf) (x:Inf) (h:Tm) (n:Int) (m:List Tm) (vs:List Value) (w:World) (hP:Typ.Lt P w) (hv:VArgs P w [(false,[.env L]),(true,infCh x),(true,[.tm h,.dat (.int .i64 n),.cut m])] vs) (hl:x.rules.length≤1000000) :
 Calls Tryz.prog 49 vs.toArray w (MadeV P w (rlS (rlf L x.rules h n))):=by
 have hl2:decide (x.rules.length≤1000000)=true:=decide_eq_true hl
 unfold rlf
 cases h1:(nmd L h 5).2
 ·exact Typ.fn_ok (p:=⟨sp22,47,[(17,false)],[],true,[]⟩) (par_okC sp22_ok) Tryz.func49 rfl rfl (rs:=[.cell 6 64,.tmp 7]) rfl (by kernel_rfl) (ss:=[(false,[.env L]),(true,infCh x),(true,[.tm h,.dat (.int .i64 n),.cut m])]) (r:=.tup [(true,rlCh zR0),(false,[.dat (.bool false)])]) (by simp) ((show _=some (_,(((nmd L h 5).2 == false) && true)) by kernel_rfl).trans (by rw [h1]; rfl)) P w vs hP hv
 ·cases h2:decide (idxR x.rules (nmd L h 5).1.name < 0)
  ·have h4:=idxR_in h2
   have h5:decide ((0:Int)≤idxR x.rules (nmd L h 5).1.name)=true:=decide_eq_true h4.1
   have h6:decide ((idxR x.rules (nmd L h 5).1.name).toNat < x.rules.length)=true:=decide_eq_true h4.2
   cases h3:(n != rlN (nmd L h 5).1 (rlAt x.rules (nmd L h 5).1.name))
   ·exact Typ.fn_ok (p:=⟨sp22,47,[(17,true),(26,false),(39,false)],[],true,[]⟩) (par_okC sp22_ok) Tryz.func49 rfl rfl (rs:=[.cell 6 64,.tmp 7]) rfl (by kernel_rfl) (ss:=[(false,[.env L]),(true,infCh x),(true,[.tm h,.dat (.int .i64 n),.cut m])]) (r:=rlS (rlAt x.rules (nmd L h 5).1.name,true)) (by simp) ((show _=some (_,(((nmd L h 5).2 == true) && (((decide (x.rules.length≤1000000)) && true) && ((decide (idxR x.rules (nmd L h 5).1.name < 0) == false) && (((decide ((0:Int)≤idxR x.rules (nmd L h 5).1.name) && decide ((idxR x.rules (nmd L h 5).1.name).toNat < x.rules.length)) && true) && (((n != rlN (nmd L h 5).1 (rlAt x.rules (nmd L h 5).1.name)) == false) && (((decide ((0:Int)≤idxR x.rules (nmd L h 5).1.name) && decide ((idxR x.rules (nmd L h 5).1.name).toNat < x.rules.length)) && true) && true))))))) by kernel_rfl).trans (by rw [h1,h2,h3,h5,h6,hl2]; rfl)) P w vs hP hv
   ·exact Typ.fn_ok (p:=⟨sp22,47,[(17,true),(26,false),(39,true)],[],true,[]⟩) (par_okC sp22_ok) Tryz.func49 rfl rfl (rs:=[.cell 6 64,.tmp 7]) rfl (by kernel_rfl) (ss:=[(false,[.env L]),(true,infCh x),(true,[.tm h,.dat (.int .i64 n),.cut m])]) (r:=.tup [(true,rlCh zR0),(false,[.dat (.bool false)])]) (by simp) ((show _=some (_,(((nmd L h 5).2 == true) && (((decide (x.rules.length≤1000000)) && true) && ((decide (idxR x.rules (nmd L h 5).1.name < 0) == false) && (((decide ((0:Int)≤idxR x.rules (nmd L h 5).1.name) && decide ((idxR x.rules (nmd L h 5).1.name).toNat < x.rules.length)) && true) && (((n != rlN (nmd L h 5).1 (rlAt x.rules (nmd L h 5).1.name)) == true) && true)))))) by kernel_rfl).trans (by rw [h1,h2,h3,h5,h6,hl2]; rfl)) P w vs hP hv
  ·exact Typ.fn_ok (p:=⟨sp22,47,[(17,true),(26,true)],[],true,[]⟩) (par_okC sp22_ok) Tryz.func49 rfl rfl (rs:=[.cell 6 64,.tmp 7]) rfl (by kernel_rfl) (ss:=[(false,[.env L]),(true,infCh x),(true,[.tm h,.dat (.int .i64 n),.cut m])]) (r:=.tup [(true,rlCh zR0),(false,[.dat (.bool false)])]) (by simp) ((show _=some (_,(((nmd L h 5).2 == true) && (((decide (x.rules.length≤1000000)) && true) && ((decide (idxR x.rules (nmd L h 5).1.name < 0) == true) && true)))) by kernel_rfl).trans (by rw [h1,h2,hl2]; rfl)) P w vs hP hv
def gRul:List (Bool × List Ch)→Option (Sl × Bool)
 | [(false,[.env L]),(true,[.dat (.int .u8 _),.dat (.string _),.dat (.int .i64 _),.tm _,.tm _,.dat (.int .i64 _),.dat (.string _),.dat (.string _),.dat (.int .i64 _),.dat (.int .i64 _),.dat (.int .i64 _),.dat (.int .i64 _),.dat (.int .i64 _),.dat (.int .i64 _),r,.dat (.int .i64 _),.dat (.bool _)]),(true,[.tm h,.dat (.int .i64 n),.cut _])]=>match asRls r with
   | some l=>some (rlS (rlf L l h n),decide (l.length≤1000000))
   | none=>none
 | _=>none
def sp23:Spec:=spCons 49 gRul sp22
theorem sp23_ok [Typ.Xt]:SpecOk sp23:=spCons_ok sp22_ok (by intro args w; kernel_rfl) (by
 intro ss r h P w vs hP hv
 unfold gRul at h
 split at h
 ·rename_i L k nm ps ty va hh bl o fx ix no fs mo mi rr cs rc hd n m
  split at h
  ·rename_i l hl
   simp only [Option.some.injEq,Prod.mk.injEq,decide_eq_true_eq] at h
   obtain ⟨rfl,hn⟩:=h
   obtain ⟨v1,y1,rfl,h1,v2,y2,rfl,h2,h3⟩:=hv
   refine ruleOf_made P L ⟨k,nm,ps,ty,va,hh,bl,o,fx,ix,no,fs,mo,mi,l,cs,rc⟩ hd n m _ w hP ⟨_,_,rfl,h1,_,_,rfl,?_,h3⟩ hn
   obtain ⟨us,u1,u2⟩:=h2
   refine ⟨us,?_,u2⟩
   have e1:[.dat (.int .u8 k),.dat (.string nm),.dat (.int .i64 ps),.tm ty,.tm va,.dat (.int .i64 hh),.dat (.string bl),.dat (.string o),.dat (.int .i64 fx),.dat (.int .i64 ix),.dat (.int .i64 no),.dat (.int .i64 fs),.dat (.int .i64 mo),.dat (.int .i64 mi),rr,.dat (.int .i64 cs),.dat (.bool rc)]=[Ch.dat (.int .u8 k),.dat (.string nm),.dat (.int .i64 ps),.tm ty,.tm va,.dat (.int .i64 hh),.dat (.string bl),.dat (.string o),.dat (.int .i64 fx),.dat (.int .i64 ix),.dat (.int .i64 no),.dat (.int .i64 fs),.dat (.int .i64 mo),.dat (.int .i64 mi)] ++ (rr :: [.dat (.int .i64 cs),.dat (.bool rc)]):=rfl
   rw [e1] at u1
   obtain ⟨a,b,rfl,k1,a2,b2,rfl,k2,k3⟩:=Ok.append.1 u1
   obtain ⟨lo,lc,rfl,g⟩:=asRls_ok hl k2
   have e2:infCh ⟨k,nm,ps,ty,va,hh,bl,o,fx,ix,no,fs,mo,mi,l,cs,rc⟩=[Ch.dat (.int .u8 k),.dat (.string nm),.dat (.int .i64 ps),.tm ty,.tm va,.dat (.int .i64 hh),.dat (.string bl),.dat (.string o),.dat (.int .i64 fx),.dat (.int .i64 ix),.dat (.int .i64 no),.dat (.int .i64 fs),.dat (.int .i64 mo),.dat (.int .i64 mi)] ++ (.rls l :: [.dat (.int .i64 cs),.dat (.bool rc)]):=rfl
   rw [e2]
   exact Ok.append.2 ⟨a,_,rfl,k1,[_],b2,rfl,⟨lo,lc,rfl,g⟩,k3⟩
  ·cases h
 ·cases h)
theorem spn_is:∀ (n:Nat) (t:Tm) (l:List Tm) (d:Int),OkMay t d→appl (spn n t l).1 (spn n t l).2=appl t l
 | 0,_,_,_,_=>rfl
 | n + 1,t,l,d,ho=>by
   by_cases hk:t.k=4
   ·obtain ⟨f,x,rfl⟩:=node_app ho.node.1 hk
    exact spn_is n f (x :: l) (d + 1) (ho.down f (by simp [t2,Tm.ts]))
   ·rw [spn_stop hk]
theorem spM_facts (t:Tm):(spM t).2.length < 4096∧((spM t).1=zeroT∨(spM t).1.may=true):=by
 unfold spM
 split
 ·rename_i hm
  have h:=spn_is 65536 t [] 1 (OkMay.start hm)
  have h2:=appl_facts (f:=(spn 65536 t []).1) (l:=(spn 65536 t []).2) (by rw [h]; exact hm)
  exact ⟨h2.1,Or.inr h2.2⟩
 ·exact ⟨by decide,Or.inl rfl⟩
theorem spM_ls (t:Tm):(spM t).1.ls.length≤1000000:=by
 rcases (spM_facts t).2 with h | h
 ·rw [h]; decide
 ·have:=node_ls (OkMay.start h).node.1
  omega
theorem spM_len (t:Tm):(spM t).2.length≤4096:=by have:=(spM_facts t).1; omega
def cutA (l:List Tm) (a b:Int):List Tm:=(l.take b.toNat).drop a.toNat
def wr1 (t:Tm):Int:=wrg [((spM t).1,((spM t).2.length:Int),(spM t).2)]
def wr2 (t m:Tm):Int:=wrg [((spM t).1,((spM t).2.length:Int),(spM t).2),((spM m).1,((spM m).2.length:Int),(spM m).2)]
def dlt (L:List Inf) (t:Tm):Tm × Int:=if (wr1 t != 0) then (zeroT,wr1 t) else (if ((vaI L (spM t).1).2 == 0) then apA (vaI L (spM t).1).1 [cutA (spM t).2 0 ((spM t).2.length:Int)].flatten else (if ((vaI L (spM t).1).2 == 4) then (zeroT,4) else (zeroT,6)))
theorem cutA_len (l:List Tm) (a b:Int):(cutA l a b).length≤l.length:=by
 unfold cutA
 rw [List.length_drop,List.length_take]
 omega
theorem sumL_one (a:List Tm):sumL [a]=a.length:=by simp [sumL]
theorem sumL_three (a b c:List Tm):sumL [a,b,c]=a.length + (b.length + c.length):=by simp [sumL]
theorem Delta_made [Typ.Xt] (P:Nat→Prop) (L:List Inf) (t:Tm) (vs:List Value) (w:World) (hP:Typ.Lt P w) (hv:VArgs P w [(false,[.env L]),(true,[.tm t])] vs) :
 Calls Tryz.prog 24 vs.toArray w (MadeV P w (tmE (dlt L t))):=by
 have hls:decide ((spM t).1.ls.length≤1000000)=true:=decide_eq_true (spM_ls t)
 have hc1:decide ((0:Int)≤((spM t).2.length:Int))=true:=decide_eq_true (by omega)
 have hc2:decide (((spM t).2.length:Int).toNat≤(spM t).2.length)=true:=decide_eq_true (by omega)
 have hc3:decide (sumL [cutA (spM t).2 0 ((spM t).2.length:Int)]≤100000)=true:=decide_eq_true (by rw [sumL_one]; have:=cutA_len (spM t).2 0 ((spM t).2.length:Int); have:=spM_len t; omega)
 unfold dlt
 cases h1:(wr1 t != 0)
 ·cases h2:((vaI L (spM t).1).2 == 0)
  ·cases h3:((vaI L (spM t).1).2 == 4)
   ·exact Typ.fn_ok (p:=⟨sp23,44,[(17,false),(29,false),(41,false)],[],true,[]⟩) (par_okC sp23_ok) Tryz.func24 rfl rfl (rs:=[.cell 4 25,.tmp 5]) rfl (by kernel_rfl) (ss:=[(false,[.env L]),(true,[.tm t])]) (r:=tmE (zeroT,6)) (by simp) ((show _=some (_,(((wr1 t != 0) == false) && (((decide ((spM t).1.ls.length≤1000000)) && true) && ((((vaI L (spM t).1).2 == 0) == false) && ((((vaI L (spM t).1).2 == 4) == false) && true))))) by kernel_rfl).trans (by rw [h1,h2,h3,hls]; rfl)) P w vs hP hv
   ·exact Typ.fn_ok (p:=⟨sp23,44,[(17,false),(29,false),(41,true)],[],true,[]⟩) (par_okC sp23_ok) Tryz.func24 rfl rfl (rs:=[.cell 4 25,.tmp 5]) rfl (by kernel_rfl) (ss:=[(false,[.env L]),(true,[.tm t])]) (r:=tmE (zeroT,4)) (by simp) ((show _=some (_,(((wr1 t != 0) == false) && (((decide ((spM t).1.ls.length≤1000000)) && true) && ((((vaI L (spM t).1).2 == 0) == false) && ((((vaI L (spM t).1).2 == 4) == true) && true))))) by kernel_rfl).trans (by rw [h1,h2,h3,hls]; rfl)) P w vs hP hv
  ·exact Typ.fn_ok (p:=⟨sp23,44,[(17,false),(29,true)],[],true,[]⟩) (par_okC sp23_ok) Tryz.func24 rfl rfl (rs:=[.cell 4 25,.tmp 5]) rfl (by kernel_rfl) (ss:=[(false,[.env L]),(true,[.tm t])]) (r:=tmE (apA (vaI L (spM t).1).1 [cutA (spM t).2 0 ((spM t).2.length:Int)].flatten)) (by simp) ((show _=some (_,(((wr1 t != 0) == false) && (((decide ((spM t).1.ls.length≤1000000)) && true) && ((((vaI L (spM t).1).2 == 0) == true) && (((decide ((0:Int)≤0) && decide ((0:Int)≤((spM t).2.length:Int)) && decide (((spM t).2.length:Int).toNat≤(spM t).2.length)) && true) && (((decide (sumL [cutA (spM t).2 0 ((spM t).2.length:Int)]≤100000) && decide ([cutA (spM t).2 0 ((spM t).2.length:Int)].length≤100000)) && true) && true)))))) by kernel_rfl).trans (by rw [h1,h2,hls,hc1,hc2,hc3]; rfl)) P w vs hP hv
 ·exact Typ.fn_ok (p:=⟨sp23,44,[(17,true)],[],true,[]⟩) (par_okC sp23_ok) Tryz.func24 rfl rfl (rs:=[.cell 4 25,.tmp 5]) rfl (by kernel_rfl) (ss:=[(false,[.env L]),(true,[.tm t])]) (r:=tmE (zeroT,wr1 t)) (by simp) ((show _=some (_,(((wr1 t != 0) == true) && true)) by kernel_rfl).trans (by rw [h1]; rfl)) P w vs hP hv
def iot (L:List Inf) (t m:Tm):Tm × Int:=if (wr2 t m != 0) then (zeroT,wr2 t m) else (if (rcr L (spM t).1 ((spM t).2.length:Int)).2.2 then (if (rlf L (rcr L (spM t).1 ((spM t).2.length:Int)).1.rules (spM m).1 ((spM m).2.length:Int)).2 then (if ((lvA (rlf L (rcr L (spM t).1 ((spM t).2.length:Int)).1.rules (spM m).1 ((spM m).2.length:Int)).1.body (spM t).1.ls).2 != 0) then (zeroT,4) else apA (lvA (rlf L (rcr L (spM t).1 ((spM t).2.length:Int)).1.rules (spM m).1 ((spM m).2.length:Int)).1.body (spM t).1.ls).1 [cutA (spM t).2 0 (IntKind.i64.wrap ((rcr L (spM t).1 ((spM t).2.length:Int)).2.1 - (rcr L (spM t).1 ((spM t).2.length:Int)).1.index)),cutA (spM m).2 (IntKind.i64.wrap (((spM m).2.length:Int) - (rlf L (rcr L (spM t).1 ((spM t).2.length:Int)).1.rules (spM m).1 ((spM m).2.length:Int)).1.fields)) ((spM m).2.length:Int),cutA (spM t).2 (IntKind.i64.wrap ((rcr L (spM t).1 ((spM t).2.length:Int)).2.1 + 1)) ((spM t).2.length:Int)].flatten) else (zeroT,6)) else (zeroT,6))
def iotC (L:List Inf) (t m:Tm):Bool:=((rcr L (spM t).1 ((spM t).2.length:Int)).2.2 && ((rlf L (rcr L (spM t).1 ((spM t).2.length:Int)).1.rules (spM m).1 ((spM m).2.length:Int)).2 && !((lvA (rlf L (rcr L (spM t).1 ((spM t).2.length:Int)).1.rules (spM m).1 ((spM m).2.length:Int)).1.body (spM t).1.ls).2 != 0))) == false || (decide ((0:Int)≤(IntKind.i64.wrap ((rcr L (spM t).1 ((spM t).2.length:Int)).2.1 - (rcr L (spM t).1 ((spM t).2.length:Int)).1.index))) && decide ((IntKind.i64.wrap ((rcr L (spM t).1 ((spM t).2.length:Int)).2.1 - (rcr L (spM t).1 ((spM t).2.length:Int)).1.index)).toNat≤(spM t).2.length) && decide ((0:Int)≤(IntKind.i64.wrap (((spM m).2.length:Int) - (rlf L (rcr L (spM t).1 ((spM t).2.length:Int)).1.rules (spM m).1 ((spM m).2.length:Int)).1.fields))) && decide ((IntKind.i64.wrap (((spM m).2.length:Int) - (rlf L (rcr L (spM t).1 ((spM t).2.length:Int)).1.rules (spM m).1 ((spM m).2.length:Int)).1.fields))≤((spM m).2.length:Int)) && decide ((0:Int)≤(IntKind.i64.wrap ((rcr L (spM t).1 ((spM t).2.length:Int)).2.1 + 1))) && decide ((IntKind.i64.wrap ((rcr L (spM t).1 ((spM t).2.length:Int)).2.1 + 1))≤((spM t).2.length:Int)))
theorem Iota_made [Typ.Xt] (P:Nat→Prop) (L:List Inf) (t m:Tm) (vs:List Value) (w:World) (hP:Typ.Lt P w) (hv:VArgs P w [(false,[.env L]),(true,[.tm t]),(true,[.tm m])] vs) (hr:(rcr L (spM t).1 ((spM t).2.length:Int)).1.rules.length≤1000000) (hc:iotC L t m=true) :
 Calls Tryz.prog 21 vs.toArray w (MadeV P w (tmE (iot L t m))):=by
 have hls:decide ((spM t).1.ls.length≤1000000)=true:=decide_eq_true (spM_ls t)
 have hrl:decide ((rcr L (spM t).1 ((spM t).2.length:Int)).1.rules.length≤1000000)=true:=decide_eq_true hr
 unfold iot
 cases h1:(wr2 t m != 0)
 ·cases h2:(rcr L (spM t).1 ((spM t).2.length:Int)).2.2
  ·exact Typ.fn_ok (p:=⟨sp23,91,[(27,false),(36,false)],[],true,[]⟩) (par_okC sp23_ok) Tryz.func21 rfl rfl (rs:=[.cell 6 25,.tmp 7]) rfl (by kernel_rfl) (ss:=[(false,[.env L]),(true,[.tm t]),(true,[.tm m])]) (r:=tmE (zeroT,6)) (by simp) ((show _=some (_,(((wr2 t m != 0) == false) && (((rcr L (spM t).1 ((spM t).2.length:Int)).2.2 == false) && true))) by kernel_rfl).trans (by rw [h1,h2]; rfl)) P w vs hP hv
  ·cases h3:(rlf L (rcr L (spM t).1 ((spM t).2.length:Int)).1.rules (spM m).1 ((spM m).2.length:Int)).2
   ·exact Typ.fn_ok (p:=⟨sp23,91,[(27,false),(36,true),(46,false)],[],true,[]⟩) (par_okC sp23_ok) Tryz.func21 rfl rfl (rs:=[.cell 6 25,.tmp 7]) rfl (by kernel_rfl) (ss:=[(false,[.env L]),(true,[.tm t]),(true,[.tm m])]) (r:=tmE (zeroT,6)) (by simp) ((show _=some (_,(((wr2 t m != 0) == false) && (((rcr L (spM t).1 ((spM t).2.length:Int)).2.2 == true) && (((decide ((rcr L (spM t).1 ((spM t).2.length:Int)).1.rules.length≤1000000)) && true) && (((rlf L (rcr L (spM t).1 ((spM t).2.length:Int)).1.rules (spM m).1 ((spM m).2.length:Int)).2 == false) && true))))) by kernel_rfl).trans (by rw [h1,h2,h3,hrl]; rfl)) P w vs hP hv
   ·cases h4:((lvA (rlf L (rcr L (spM t).1 ((spM t).2.length:Int)).1.rules (spM m).1 ((spM m).2.length:Int)).1.body (spM t).1.ls).2 != 0)
    ·unfold iotC at hc
     rw [h2,h3,h4] at hc
     simp only [Bool.not_false,Bool.and_self,beq_false,Bool.not_true,Bool.false_or,Bool.and_eq_true] at hc
     obtain ⟨⟨⟨⟨⟨x1,x2⟩,x3⟩,x4⟩,x5⟩,x6⟩:=hc
     have y1:decide (((spM t).2.length:Int).toNat≤(spM t).2.length)=true:=decide_eq_true (by omega)
     have y2:decide (((spM m).2.length:Int).toNat≤(spM m).2.length)=true:=decide_eq_true (by omega)
     have y3:decide (sumL [cutA (spM t).2 0 (IntKind.i64.wrap ((rcr L (spM t).1 ((spM t).2.length:Int)).2.1 - (rcr L (spM t).1 ((spM t).2.length:Int)).1.index)),cutA (spM m).2 (IntKind.i64.wrap (((spM m).2.length:Int) - (rlf L (rcr L (spM t).1 ((spM t).2.length:Int)).1.rules (spM m).1 ((spM m).2.length:Int)).1.fields)) ((spM m).2.length:Int),cutA (spM t).2 (IntKind.i64.wrap ((rcr L (spM t).1 ((spM t).2.length:Int)).2.1 + 1)) ((spM t).2.length:Int)]≤100000)=true:=decide_eq_true (by
      rw [sumL_three]
      have:=spM_len t
      have:=spM_len m
      have:=cutA_len (spM m).2 (IntKind.i64.wrap (((spM m).2.length:Int) - (rlf L (rcr L (spM t).1 ((spM t).2.length:Int)).1.rules (spM m).1 ((spM m).2.length:Int)).1.fields)) ((spM m).2.length:Int)
      have:=cutA_len (spM t).2 0 (IntKind.i64.wrap ((rcr L (spM t).1 ((spM t).2.length:Int)).2.1 - (rcr L (spM t).1 ((spM t).2.length:Int)).1.index))
      have:=cutA_len (spM t).2 (IntKind.i64.wrap ((rcr L (spM t).1 ((spM t).2.length:Int)).2.1 + 1)) ((spM t).2.length:Int)
      omega)
     exact Typ.fn_ok (p:=⟨sp23,91,[(27,false),(36,true),(46,true),(60,false)],[],true,[]⟩) (par_okC sp23_ok) Tryz.func21 rfl rfl (rs:=[.cell 6 25,.tmp 7]) rfl (by kernel_rfl) (ss:=[(false,[.env L]),(true,[.tm t]),(true,[.tm m])]) (r:=tmE (apA (lvA (rlf L (rcr L (spM t).1 ((spM t).2.length:Int)).1.rules (spM m).1 ((spM m).2.length:Int)).1.body (spM t).1.ls).1 [cutA (spM t).2 0 (IntKind.i64.wrap ((rcr L (spM t).1 ((spM t).2.length:Int)).2.1 - (rcr L (spM t).1 ((spM t).2.length:Int)).1.index)),cutA (spM m).2 (IntKind.i64.wrap (((spM m).2.length:Int) - (rlf L (rcr L (spM t).1 ((spM t).2.length:Int)).1.rules (spM m).1 ((spM m).2.length:Int)).1.fields)) ((spM m).2.length:Int),cutA (spM t).2 (IntKind.i64.wrap ((rcr L (spM t).1 ((spM t).2.length:Int)).2.1 + 1)) ((spM t).2.length:Int)].flatten)) (by simp) ((show _=some (_,(((wr2 t m != 0) == false) && (((rcr L (spM t).1 ((spM t).2.length:Int)).2.2 == true) && (((decide ((rcr L (spM t).1 ((spM t).2.length:Int)).1.rules.length≤1000000)) && true) && (((rlf L (rcr L (spM t).1 ((spM t).2.length:Int)).1.rules (spM m).1 ((spM m).2.length:Int)).2 == true) && (((decide ((spM t).1.ls.length≤1000000)) && true) && ((((lvA (rlf L (rcr L (spM t).1 ((spM t).2.length:Int)).1.rules (spM m).1 ((spM m).2.length:Int)).1.body (spM t).1.ls).2 != 0) == false) && (((decide ((0:Int)≤0) && decide ((0:Int)≤(IntKind.i64.wrap ((rcr L (spM t).1 ((spM t).2.length:Int)).2.1 - (rcr L (spM t).1 ((spM t).2.length:Int)).1.index))) && decide ((IntKind.i64.wrap ((rcr L (spM t).1 ((spM t).2.length:Int)).2.1 - (rcr L (spM t).1 ((spM t).2.length:Int)).1.index)).toNat≤(spM t).2.length)) && true) && (((decide ((0:Int)≤(IntKind.i64.wrap (((spM m).2.length:Int) - (rlf L (rcr L (spM t).1 ((spM t).2.length:Int)).1.rules (spM m).1 ((spM m).2.length:Int)).1.fields))) && decide ((IntKind.i64.wrap (((spM m).2.length:Int) - (rlf L (rcr L (spM t).1 ((spM t).2.length:Int)).1.rules (spM m).1 ((spM m).2.length:Int)).1.fields))≤((spM m).2.length:Int)) && decide (((spM m).2.length:Int).toNat≤(spM m).2.length)) && true) && (((decide ((0:Int)≤(IntKind.i64.wrap ((rcr L (spM t).1 ((spM t).2.length:Int)).2.1 + 1))) && decide ((IntKind.i64.wrap ((rcr L (spM t).1 ((spM t).2.length:Int)).2.1 + 1))≤((spM t).2.length:Int)) && decide (((spM t).2.length:Int).toNat≤(spM t).2.length)) && true) && (((decide (sumL [cutA (spM t).2 0 (IntKind.i64.wrap ((rcr L (spM t).1 ((spM t).2.length:Int)).2.1 - (rcr L (spM t).1 ((spM t).2.length:Int)).1.index)),cutA (spM m).2 (IntKind.i64.wrap (((spM m).2.length:Int) - (rlf L (rcr L (spM t).1 ((spM t).2.length:Int)).1.rules (spM m).1 ((spM m).2.length:Int)).1.fields)) ((spM m).2.length:Int),cutA (spM t).2 (IntKind.i64.wrap ((rcr L (spM t).1 ((spM t).2.length:Int)).2.1 + 1)) ((spM t).2.length:Int)]≤100000) && decide ([cutA (spM t).2 0 (IntKind.i64.wrap ((rcr L (spM t).1 ((spM t).2.length:Int)).2.1 - (rcr L (spM t).1 ((spM t).2.length:Int)).1.index)),cutA (spM m).2 (IntKind.i64.wrap (((spM m).2.length:Int) - (rlf L (rcr L (spM t).1 ((spM t).2.length:Int)).1.rules (spM m).1 ((spM m).2.length:Int)).1.fields)) ((spM m).2.length:Int),cutA (spM t).2 (IntKind.i64.wrap ((rcr L (spM t).1 ((spM t).2.length:Int)).2.1 + 1)) ((spM t).2.length:Int)].length≤100000)) && true) && true))))))))))) by kernel_rfl).trans (by rw [h1,h2,h3,h4,hrl,hls,x1,x2,x3,x4,x5,x6,y1,y2,y3]; rfl)) P w vs hP hv
    ·exact Typ.fn_ok (p:=⟨sp23,91,[(27,false),(36,true),(46,true),(60,true)],[],true,[]⟩) (par_okC sp23_ok) Tryz.func21 rfl rfl (rs:=[.cell 6 25,.tmp 7]) rfl (by kernel_rfl) (ss:=[(false,[.env L]),(true,[.tm t]),(true,[.tm m])]) (r:=tmE (zeroT,4)) (by simp) ((show _=some (_,(((wr2 t m != 0) == false) && (((rcr L (spM t).1 ((spM t).2.length:Int)).2.2 == true) && (((decide ((rcr L (spM t).1 ((spM t).2.length:Int)).1.rules.length≤1000000)) && true) && (((rlf L (rcr L (spM t).1 ((spM t).2.length:Int)).1.rules (spM m).1 ((spM m).2.length:Int)).2 == true) && (((decide ((spM t).1.ls.length≤1000000)) && true) && ((((lvA (rlf L (rcr L (spM t).1 ((spM t).2.length:Int)).1.rules (spM m).1 ((spM m).2.length:Int)).1.body (spM t).1.ls).2 != 0) == true) && true))))))) by kernel_rfl).trans (by rw [h1,h2,h3,h4,hrl,hls]; rfl)) P w vs hP hv
 ·exact Typ.fn_ok (p:=⟨sp23,91,[(27,true)],[],true,[]⟩) (par_okC sp23_ok) Tryz.func21 rfl rfl (rs:=[.cell 6 25,.tmp 7]) rfl (by kernel_rfl) (ss:=[(false,[.env L]),(true,[.tm t]),(true,[.tm m])]) (r:=tmE (zeroT,wr2 t m)) (by simp) ((show _=some (_,(((wr2 t m != 0) == true) && true)) by kernel_rfl).trans (by rw [h1]; rfl)) P w vs hP hv
end Typ
end Go.Proofs.YtmngddomnaaedaaGreat
