/-
 env.Find,rules.named,isRecord,recursor,wrong: by shapes.
-/
import Derived.Lib.Hide
import Derived.Test.YtmngddomnaaedaaGreatQB31
import Derived.Test.YtmngddomnaaedaaGreatQB24
import Derived.Test.YtmngddomnaaedaaGreatQB16
import Derived.Test.YtmngddomnaaedaaGreatQB21
open Go.Lib (hid)
set_option maxRecDepth 100000
set_option maxHeartbeats 32000000
namespace Go.Proofs.YtmngddomnaaedaaGreat
open Go.RowKit Go.Shelf Go.Maps Lvl Trm Env
namespace Typ
def envOf:Ch→Option (List Inf)
 | .env L=>some L
 | .dat (.pointer none)=>some []
 | _=>none
def fnd (L:List Inf) (s:ByteArray):Inf × Bool:=match L.find? (fun x=>key x.name == key s) with
 | some x=>(x,true)
 | none=>(zI0,false)
def fndS (x:Inf × Bool):Sl:=.tup [(true,infCh x.1),(false,[.dat (.bool x.2)])]
def gFind:List (Bool × List Ch)→Option (Sl × Bool)
 | [(false,[c]),(false,[.dat (.string s)])]=>match envOf c with
   | some L=>some (fndS (fnd L s),decide (s.size≤9223372036854775807))
   | none=>none
 | _=>none
theorem vok_zI [Typ.Xt] {P:Nat→Prop} {w:World}:VOk P w true (infCh zI0) zInfo:=by
 have f:FirmI P w zI0 ⟨zHd,zHd,none,0⟩:=⟨⟨by decide,by decide,by decide,by decide⟩,firm_zero,firm_zero,⟨fun k hk=>by simp [zI0] at hk⟩⟩
 exact ⟨_,ok_infCh f,Or.inl ⟨rfl,rfl⟩⟩
theorem vok_bool [Typ.Xt] {P:Nat→Prop} {w:World} (b:Bool):VOk P w false [.dat (.bool b)] (.bool b):=⟨[_],ok_dat rfl rfl,Or.inr ⟨rfl,rfl⟩⟩
theorem made_fnd [Typ.Xt] {P:Nat→Prop} {w w':World} {x:Inf × Bool} {v:Value} (b:Below w.heap.size w w') (h:VOk P w' true (infCh x.1) v):MadeV P w (fndS x) (.returned (.tuple #[v,.bool x.2])) w' :=
 ⟨_,rfl,b,[_,_],rfl,_,_,rfl,h,_,_,rfl,vok_bool _,rfl⟩
theorem find_made [Typ.Xt] (P:Nat→Prop) (c:Ch) (L:List Inf) (s:ByteArray) (hc:envOf c=some L) (v:Value) (w:World) (hP:Typ.Lt P w) (hv:c.Ok P w [v]) (hs:s.size≤9223372036854775807) :
 Calls Tryz.prog 29 #[v,.string s] w (MadeV P w (fndS (fnd L s))):=by
 unfold envOf at hc
 split at hc
 ·cases hc
  obtain ⟨e,mo,u,E,h1,h0,h2⟩:=hv
  cases h1
  have hk:=look_infs E (key s)
  rw [h0] at hk
  refine (findP_any h2.env s hs h2.rules).mono ?_
  rintro y w' ⟨b,⟨h1,rfl⟩ | ⟨p,h,h1,rfl,f⟩⟩
  ·have e:fnd L s=(zI0,false):=by rw [h1] at hk; simp only [fnd,← hk,Option.map_none]
   rw [e]
   exact made_fnd b vok_zI
  ·have e:fnd L s=(p.2.1,true):=by rw [h1] at hk; simp only [fnd,← hk,Option.map_some]
   rw [e]
   exact made_fnd b ⟨_,ok_infCh (f.turn (RanS.refl _ _) (fun q a=>Or.inl (Or.inl ⟨a,hP q a⟩))),Or.inl ⟨rfl,rfl⟩⟩
 ·cases hc
  obtain ⟨h1,_⟩:=hv
  cases h1
  refine (find_nil s w).mono ?_
  rintro y w' ⟨rfl,b⟩
  have e:fnd [] s=(zI0,false):=rfl
  rw [e]
  exact made_fnd b vok_zI
 ·cases hc
def sp15:Spec:=spCons 29 gFind <| spCons 51 gApd sp14
theorem sp15_ok [Typ.Xt]:SpecOk sp15:=spCons_ok (spCons_ok sp14_ok (by intro args w; kernel_rfl) (by
 intro ss r h P w vs hP hv
 unfold gApd at h
 split at h
 ·rename_i a l
  split at h
  ·rename_i f hf
   simp only [Option.some.injEq,Prod.mk.injEq,Bool.and_eq_true,decide_eq_true_eq] at h
   obtain ⟨rfl,h0,h1⟩:=h
   obtain ⟨v,u,rfl,h2,h3⟩:=args2 hv
   obtain ⟨x,rfl,g⟩:=arg_tm hf h2
   exact applied_made P f l _ w hP ⟨_,_,rfl,vok_tm g,_,_,rfl,h3,rfl⟩ h0 h1
  ·cases h
 ·cases h)) (by intro args w; kernel_rfl) (by
 intro ss r h P w vs hP hv
 unfold gFind at h
 split at h
 ·rename_i c s
  split at h
  ·rename_i L hL
   simp only [Option.some.injEq,Prod.mk.injEq,decide_eq_true_eq] at h
   obtain ⟨rfl,h0⟩:=h
   obtain ⟨v,u,rfl,h2,h3⟩:=args2 hv
   cases arg_dat h3
   exact find_made P c L s hL v w hP (arg_one h2) h0
  ·cases h
 ·cases h)
def nmd (L:List Inf) (t:Tm) (k:Int):Inf × Bool:=if t.k != 3 then (zI0,false) else if (fnd L t.s).2 then (if (fnd L t.s).1.kind != k then (zI0,false) else ((fnd L t.s).1,true)) else (zI0,false)
def gNmd:List (Bool × List Ch)→Option (Sl × Bool)
 | [(false,[c]),(true,a),(false,[.dat (.int .u8 k)])]=>match envOf c,toTm a with
   | some L,some t=>some (fndS (nmd L t k),true)
   | _,_=>none
 | _=>none
theorem zInf_fix [Typ.Xt] {P:Nat→Prop} {w:World} {v:Value} (h:VOk P w true zInf v):VOk P w true (infCh zI0) v:=by
 obtain ⟨vs,h1,h2⟩:=h
 have e1:zInf=zInf.take 14 ++ (nilC :: zInf.drop 15):=rfl
 have e2:infCh zI0=zInf.take 14 ++ (.rls [] :: zInf.drop 15):=rfl
 rw [e1] at h1
 obtain ⟨x,y,rfl,h3,h4⟩:=Ok.append.1 h1
 obtain ⟨a,b,rfl,⟨rfl,_⟩,h5⟩:=h4
 refine ⟨_,?_,h2⟩
 rw [e2]
 exact Ok.append.2 ⟨x,_,rfl,h3,_,b,rfl,⟨none,0,rfl,⟨fun k hk=>by simp at hk⟩⟩,h5⟩
theorem made_zInf [Typ.Xt] {P:Nat→Prop} {w:World} {e:Ending} {w':World} {r:List (Bool × List Ch)} (h:MadeV P w (.tup ((true,zInf) :: r)) e w'):MadeV P w (.tup ((true,infCh zI0) :: r)) e w':=by
 obtain ⟨v,k1,k2,vs,k3,u1,y1,rfl,k4,k5⟩:=h
 exact ⟨v,k1,k2,_,k3,u1,_,rfl,zInf_fix k4,k5⟩
theorem firm_str {P:Nat→Prop} {w:World} {t:Tm} {h:Hd} (f:FirmS P w t h):t.s.size≤9223372036854775807:=f.here.fit.s
theorem named_made [Typ.Xt] (P:Nat→Prop) (c:Ch) (L:List Inf) (hc:envOf c=some L) (t:Tm) (h:Hd) (k:Int) (v:Value) (w:World) (hP:Typ.Lt P w) (hv:c.Ok P w [v]) (f:FirmS P w t h) :
 Calls Tryz.prog 54 #[v,t.val h,.int .u8 k] w (MadeV P w (fndS (nmd L t k))):=by
 have hva:VArgs P w [(false,[c]),(true,[.tm t]),(false,[.dat (.int .u8 k)])] [v,t.val h,.int .u8 k]:=⟨_,_,rfl,⟨[v],⟨[v],[],rfl,hv,rfl⟩,Or.inr ⟨rfl,rfl⟩⟩,_,_,rfl,vok_tm f,_,_,rfl,⟨[_],ok_dat rfl rfl,Or.inr ⟨rfl,rfl⟩⟩,rfl⟩
 have hsz:decide (t.s.size≤9223372036854775807)=true:=decide_eq_true (firm_str f)
 unfold nmd
 cases h1:t.k != 3
 ·cases h2:(fnd L t.s).2
  ·have go:Calls Tryz.prog 54 #[v,t.val h,.int .u8 k] w (MadeV P w (.tup [(true,zInf),(false,[.dat (.bool false)])])):=by
    unfold envOf at hc
    split at hc
    ·cases hc
     exact Typ.fn_ok (p:=⟨sp15,31,[(12,false),(20,false)],[],false,[]⟩) (par_ok sp15_ok) Tryz.func54 rfl rfl (rs:=[.cell 6 53,.tmp 7]) rfl (by kernel_rfl) (ss:=[(false,[.env L]),(true,[.tm t]),(false,[.dat (.int .u8 k)])]) (by simp) ((show _=some (_,(((t.k != 3) == false) && ((decide (t.s.size≤9223372036854775807) && true) && (((fnd L t.s).2 == false) && true)))) by kernel_rfl).trans (by rw [h1,h2,hsz]; rfl)) P w _ hP hva
    ·cases hc
     exact Typ.fn_ok (p:=⟨sp15,31,[(12,false),(20,false)],[],false,[]⟩) (par_ok sp15_ok) Tryz.func54 rfl rfl (rs:=[.cell 6 53,.tmp 7]) rfl (by kernel_rfl) (ss:=[(false,[.dat (.pointer none)]),(true,[.tm t]),(false,[.dat (.int .u8 k)])]) (by simp) ((show _=some (_,(((t.k != 3) == false) && ((decide (t.s.size≤9223372036854775807) && true) && (((fnd [] t.s).2 == false) && true)))) by kernel_rfl).trans (by rw [h1,h2,hsz]; rfl)) P w _ hP hva
    ·cases hc
   exact go.mono fun _ _ k=>made_zInf k
  ·cases h3:(fnd L t.s).1.kind != k
   ·unfold envOf at hc
    split at hc
    ·cases hc
     exact Typ.fn_ok (p:=⟨sp15,31,[(12,false),(20,true),(27,false)],[],false,[]⟩) (par_ok sp15_ok) Tryz.func54 rfl rfl (rs:=[.cell 6 53,.tmp 7]) rfl (by kernel_rfl) (ss:=[(false,[.env L]),(true,[.tm t]),(false,[.dat (.int .u8 k)])]) (by simp) ((show _=some (_,(((t.k != 3) == false) && ((decide (t.s.size≤9223372036854775807) && true) && (((fnd L t.s).2 == true) && ((((fnd L t.s).1.kind != k) == false) && true))))) by kernel_rfl).trans (by rw [h1,h2,h3,hsz]; rfl)) P w _ hP hva
    ·cases hc
     exact Typ.fn_ok (p:=⟨sp15,31,[(12,false),(20,true),(27,false)],[],false,[]⟩) (par_ok sp15_ok) Tryz.func54 rfl rfl (rs:=[.cell 6 53,.tmp 7]) rfl (by kernel_rfl) (ss:=[(false,[.dat (.pointer none)]),(true,[.tm t]),(false,[.dat (.int .u8 k)])]) (by simp) ((show _=some (_,(((t.k != 3) == false) && ((decide (t.s.size≤9223372036854775807) && true) && (((fnd [] t.s).2 == true) && ((((fnd [] t.s).1.kind != k) == false) && true))))) by kernel_rfl).trans (by rw [h1,h2,h3,hsz]; rfl)) P w _ hP hva
    ·cases hc
   ·have go:Calls Tryz.prog 54 #[v,t.val h,.int .u8 k] w (MadeV P w (.tup [(true,zInf),(false,[.dat (.bool false)])])):=by
     unfold envOf at hc
     split at hc
     ·cases hc
      exact Typ.fn_ok (p:=⟨sp15,31,[(12,false),(20,true),(27,true)],[],false,[]⟩) (par_ok sp15_ok) Tryz.func54 rfl rfl (rs:=[.cell 6 53,.tmp 7]) rfl (by kernel_rfl) (ss:=[(false,[.env L]),(true,[.tm t]),(false,[.dat (.int .u8 k)])]) (by simp) ((show _=some (_,(((t.k != 3) == false) && ((decide (t.s.size≤9223372036854775807) && true) && (((fnd L t.s).2 == true) && ((((fnd L t.s).1.kind != k) == true) && true))))) by kernel_rfl).trans (by rw [h1,h2,h3,hsz]; rfl)) P w _ hP hva
     ·cases hc
      exact Typ.fn_ok (p:=⟨sp15,31,[(12,false),(20,true),(27,true)],[],false,[]⟩) (par_ok sp15_ok) Tryz.func54 rfl rfl (rs:=[.cell 6 53,.tmp 7]) rfl (by kernel_rfl) (ss:=[(false,[.dat (.pointer none)]),(true,[.tm t]),(false,[.dat (.int .u8 k)])]) (by simp) ((show _=some (_,(((t.k != 3) == false) && ((decide (t.s.size≤9223372036854775807) && true) && (((fnd [] t.s).2 == true) && ((((fnd [] t.s).1.kind != k) == true) && true))))) by kernel_rfl).trans (by rw [h1,h2,h3,hsz]; rfl)) P w _ hP hva
     ·cases hc
    exact go.mono fun _ _ k=>made_zInf k
 ·have go:Calls Tryz.prog 54 #[v,t.val h,.int .u8 k] w (MadeV P w (.tup [(true,zInf),(false,[.dat (.bool false)])])):=by
   unfold envOf at hc
   split at hc
   ·cases hc
    exact Typ.fn_ok (p:=⟨sp15,31,[(12,true)],[],false,[]⟩) (par_ok sp15_ok) Tryz.func54 rfl rfl (rs:=[.cell 6 53,.tmp 7]) rfl (by kernel_rfl) (ss:=[(false,[.env L]),(true,[.tm t]),(false,[.dat (.int .u8 k)])]) (by simp) ((show _=some (_,(((t.k != 3) == true) && true)) by kernel_rfl).trans (by rw [h1]; rfl)) P w _ hP hva
   ·cases hc
    exact Typ.fn_ok (p:=⟨sp15,31,[(12,true)],[],false,[]⟩) (par_ok sp15_ok) Tryz.func54 rfl rfl (rs:=[.cell 6 53,.tmp 7]) rfl (by kernel_rfl) (ss:=[(false,[.dat (.pointer none)]),(true,[.tm t]),(false,[.dat (.int .u8 k)])]) (by simp) ((show _=some (_,(((t.k != 3) == true) && true)) by kernel_rfl).trans (by rw [h1]; rfl)) P w _ hP hva
   ·cases hc
  exact go.mono fun _ _ k=>made_zInf k
def sp16:Spec:=spCons 54 gNmd sp15
theorem sp16_ok [Typ.Xt]:SpecOk sp16:=spCons_ok sp15_ok (by intro args w; kernel_rfl) (by
 intro ss r h P w vs hP hv
 unfold gNmd at h
 split at h
 ·rename_i c a k
  split at h
  ·rename_i L t hL ht
   simp only [Option.some.injEq,Prod.mk.injEq,and_true] at h
   subst h
   obtain ⟨v,y,rfl,h2,u,y2,rfl,h3,u2,y3,rfl,h4,h5⟩:=hv
   cases h5
   cases arg_dat h4
   obtain ⟨x,rfl,f⟩:=arg_tm ht h3
   exact named_made P c L hL t x k v w hP (arg_one h2) f
  ·cases h
 ·cases h)
def isR (L:List Inf) (s:ByteArray):Bool:=if (fnd L s).2 then (if (fnd L s).1.kind == 4 then (fnd L s).1.record else false) else false
def gIsR:List (Bool × List Ch)→Option (Sl × Bool)
 | [(false,[c]),(false,[.dat (.string s)])]=>match envOf c with
   | some L=>some (.val false [.dat (.bool (isR L s))],decide (s.size≤9223372036854775807))
   | _=>none
 | _=>none
theorem isRecord_made [Typ.Xt] (P:Nat→Prop) (c:Ch) (L:List Inf) (hc:envOf c=some L) (s:ByteArray) (v:Value) (w:World) (hP:Typ.Lt P w) (hv:c.Ok P w [v]) (hs:s.size≤9223372036854775807) :
 Calls Tryz.prog 53 #[v,.string s] w (MadeV P w (.val false [.dat (.bool (isR L s))])):=by
 have hva:VArgs P w [(false,[c]),(false,[.dat (.string s)])] [v,.string s]:=⟨_,_,rfl,⟨[v],⟨[v],[],rfl,hv,rfl⟩,Or.inr ⟨rfl,rfl⟩⟩,_,_,rfl,⟨[_],ok_dat rfl rfl,Or.inr ⟨rfl,rfl⟩⟩,rfl⟩
 have hsz:decide (s.size≤9223372036854775807)=true:=decide_eq_true hs
 unfold isR
 cases h1:(fnd L s).2
 ·unfold envOf at hc
  split at hc
  ·cases hc
   exact Typ.fn_ok (p:=⟨sp15,23,[(12,false)],[],false,[]⟩) (par_ok sp15_ok) Tryz.func53 rfl rfl (rs:=[.tmp 4]) rfl (by kernel_rfl) (ss:=[(false,[.env L]),(false,[.dat (.string s)])]) (by simp) ((show _=some (_,((decide (s.size≤9223372036854775807) && true) && (((fnd L s).2 == false) && true))) by kernel_rfl).trans (by rw [h1,hsz]; rfl)) P w _ hP hva
  ·cases hc
   exact Typ.fn_ok (p:=⟨sp15,23,[(12,false)],[],false,[]⟩) (par_ok sp15_ok) Tryz.func53 rfl rfl (rs:=[.tmp 4]) rfl (by kernel_rfl) (ss:=[(false,[.dat (.pointer none)]),(false,[.dat (.string s)])]) (by simp) ((show _=some (_,((decide (s.size≤9223372036854775807) && true) && (((fnd [] s).2 == false) && true))) by kernel_rfl).trans (by rw [h1,hsz]; rfl)) P w _ hP hva
  ·cases hc
 ·cases h2:(fnd L s).1.kind == 4
  ·unfold envOf at hc
   split at hc
   ·cases hc
    exact Typ.fn_ok (p:=⟨sp15,23,[(12,true),(17,false)],[],false,[]⟩) (par_ok sp15_ok) Tryz.func53 rfl rfl (rs:=[.tmp 4]) rfl (by kernel_rfl) (ss:=[(false,[.env L]),(false,[.dat (.string s)])]) (by simp) ((show _=some (_,((decide (s.size≤9223372036854775807) && true) && (((fnd L s).2 == true) && ((((fnd L s).1.kind == 4) == false) && true)))) by kernel_rfl).trans (by rw [h1,h2,hsz]; rfl)) P w _ hP hva
   ·cases hc
    exact Typ.fn_ok (p:=⟨sp15,23,[(12,true),(17,false)],[],false,[]⟩) (par_ok sp15_ok) Tryz.func53 rfl rfl (rs:=[.tmp 4]) rfl (by kernel_rfl) (ss:=[(false,[.dat (.pointer none)]),(false,[.dat (.string s)])]) (by simp) ((show _=some (_,((decide (s.size≤9223372036854775807) && true) && (((fnd [] s).2 == true) && ((((fnd [] s).1.kind == 4) == false) && true)))) by kernel_rfl).trans (by rw [h1,h2,hsz]; rfl)) P w _ hP hva
   ·cases hc
  ·unfold envOf at hc
   split at hc
   ·cases hc
    exact Typ.fn_ok (p:=⟨sp15,23,[(12,true),(17,true)],[],false,[]⟩) (par_ok sp15_ok) Tryz.func53 rfl rfl (rs:=[.tmp 4]) rfl (by kernel_rfl) (ss:=[(false,[.env L]),(false,[.dat (.string s)])]) (by simp) ((show _=some (_,((decide (s.size≤9223372036854775807) && true) && (((fnd L s).2 == true) && ((((fnd L s).1.kind == 4) == true) && true)))) by kernel_rfl).trans (by rw [h1,h2,hsz]; rfl)) P w _ hP hva
   ·cases hc
    exact Typ.fn_ok (p:=⟨sp15,23,[(12,true),(17,true)],[],false,[]⟩) (par_ok sp15_ok) Tryz.func53 rfl rfl (rs:=[.tmp 4]) rfl (by kernel_rfl) (ss:=[(false,[.dat (.pointer none)]),(false,[.dat (.string s)])]) (by simp) ((show _=some (_,((decide (s.size≤9223372036854775807) && true) && (((fnd [] s).2 == true) && ((((fnd [] s).1.kind == 4) == true) && true)))) by kernel_rfl).trans (by rw [h1,h2,hsz]; rfl)) P w _ hP hva
   ·cases hc
def rplace (x:Inf):Int:=IntKind.i64.wrap (IntKind.i64.wrap (IntKind.i64.wrap (x.fixed + x.motives) + x.minors) + x.index)
def rcr (L:List Inf) (h:Tm) (n:Int):Inf × Int × Bool:=if (nmd L h 6).2 then (if ((h.ls.length:Int) == (nmd L h 6).1.params) then (if decide (n > rplace (nmd L h 6).1) then ((nmd L h 6).1,rplace (nmd L h 6).1,true) else (zI0,0,false)) else (zI0,0,false)) else (zI0,0,false)
def rcS (x:Inf × Int × Bool):Sl:=.tup [(true,infCh x.1),(false,[.dat (.int .i64 x.2.1)]),(false,[.dat (.bool x.2.2)])]
def gRcr:List (Bool × List Ch)→Option (Sl × Bool)
 | [(false,[c]),(true,[.tm h,.dat (.int .i64 n),.cut _])]=>match envOf c with
   | some L=>some (rcS (rcr L h n),true)
   | _=>none
 | _=>none
theorem recursor_made [Typ.Xt] (P:Nat→Prop) (c:Ch) (L:List Inf) (hc:envOf c=some L) (h:Tm) (n:Int) (_l:List Tm) (v u:Value) (w:World) (hP:Typ.Lt P w) (hva:VArgs P w [(false,[c]),(true,[.tm h,.dat (.int .i64 n),.cut _l])] [v,u]) :
 Calls Tryz.prog 48 #[v,u] w (MadeV P w (rcS (rcr L h n))):=by
 unfold rcr
 cases h1:(nmd L h 6).2
 ·have go:Calls Tryz.prog 48 #[v,u] w (MadeV P w (.tup [(true,zInf),(false,[.dat (.int .i64 0)]),(false,[.dat (.bool false)])])):=by
   unfold envOf at hc
   split at hc
   ·cases hc
    exact Typ.fn_ok (p:=⟨sp16,44,[(13,false)],[4],false,[]⟩) (par_ok sp16_ok) Tryz.func48 rfl rfl (rs:=[.cell 4 53,.tmp 5,.tmp 6]) rfl (by kernel_rfl) (ss:=[(false,[.env L]),(true,[.tm h,.dat (.int .i64 n),.cut _l])]) (by simp) ((show _=some (_,(((nmd L h 6).2 == false) && true)) by kernel_rfl).trans (by rw [h1]; rfl)) P w _ hP hva
   ·cases hc
    exact Typ.fn_ok (p:=⟨sp16,44,[(13,false)],[4],false,[]⟩) (par_ok sp16_ok) Tryz.func48 rfl rfl (rs:=[.cell 4 53,.tmp 5,.tmp 6]) rfl (by kernel_rfl) (ss:=[(false,[.dat (.pointer none)]),(true,[.tm h,.dat (.int .i64 n),.cut _l])]) (by simp) ((show _=some (_,(((nmd [] h 6).2 == false) && true)) by kernel_rfl).trans (by rw [h1]; rfl)) P w _ hP hva
   ·cases hc
  exact go.mono fun _ _ k=>made_zInf k
 ·cases h2:((h.ls.length:Int) == (nmd L h 6).1.params)
  ·have go:Calls Tryz.prog 48 #[v,u] w (MadeV P w (.tup [(true,zInf),(false,[.dat (.int .i64 0)]),(false,[.dat (.bool false)])])):=by
    unfold envOf at hc
    split at hc
    ·cases hc
     exact Typ.fn_ok (p:=⟨sp16,44,[(13,true),(33,false)],[4],false,[]⟩) (par_ok sp16_ok) Tryz.func48 rfl rfl (rs:=[.cell 4 53,.tmp 5,.tmp 6]) rfl (by kernel_rfl) (ss:=[(false,[.env L]),(true,[.tm h,.dat (.int .i64 n),.cut _l])]) (by simp) ((show _=some (_,(((nmd L h 6).2 == true) && ((((h.ls.length:Int) == (nmd L h 6).1.params) == false) && true))) by kernel_rfl).trans (by rw [h1,h2]; rfl)) P w _ hP hva
    ·cases hc
     exact Typ.fn_ok (p:=⟨sp16,44,[(13,true),(33,false)],[4],false,[]⟩) (par_ok sp16_ok) Tryz.func48 rfl rfl (rs:=[.cell 4 53,.tmp 5,.tmp 6]) rfl (by kernel_rfl) (ss:=[(false,[.dat (.pointer none)]),(true,[.tm h,.dat (.int .i64 n),.cut _l])]) (by simp) ((show _=some (_,(((nmd [] h 6).2 == true) && ((((h.ls.length:Int) == (nmd [] h 6).1.params) == false) && true))) by kernel_rfl).trans (by rw [h1,h2]; rfl)) P w _ hP hva
    ·cases hc
   exact go.mono fun _ _ k=>made_zInf k
  ·cases h3:decide (n > rplace (nmd L h 6).1)
   ·have go:Calls Tryz.prog 48 #[v,u] w (MadeV P w (.tup [(true,zInf),(false,[.dat (.int .i64 0)]),(false,[.dat (.bool false)])])):=by
     unfold envOf at hc
     split at hc
     ·cases hc
      exact Typ.fn_ok (p:=⟨sp16,44,[(13,true),(33,true),(39,false)],[4],false,[]⟩) (par_ok sp16_ok) Tryz.func48 rfl rfl (rs:=[.cell 4 53,.tmp 5,.tmp 6]) rfl (by kernel_rfl) (ss:=[(false,[.env L]),(true,[.tm h,.dat (.int .i64 n),.cut _l])]) (by simp) ((show _=some (_,(((nmd L h 6).2 == true) && ((((h.ls.length:Int) == (nmd L h 6).1.params) == true) && ((decide (n > rplace (nmd L h 6).1) == false) && true)))) by kernel_rfl).trans (by rw [h1,h2,h3]; rfl)) P w _ hP hva
     ·cases hc
      exact Typ.fn_ok (p:=⟨sp16,44,[(13,true),(33,true),(39,false)],[4],false,[]⟩) (par_ok sp16_ok) Tryz.func48 rfl rfl (rs:=[.cell 4 53,.tmp 5,.tmp 6]) rfl (by kernel_rfl) (ss:=[(false,[.dat (.pointer none)]),(true,[.tm h,.dat (.int .i64 n),.cut _l])]) (by simp) ((show _=some (_,(((nmd [] h 6).2 == true) && ((((h.ls.length:Int) == (nmd [] h 6).1.params) == true) && ((decide (n > rplace (nmd [] h 6).1) == false) && true)))) by kernel_rfl).trans (by rw [h1,h2,h3]; rfl)) P w _ hP hva
     ·cases hc
    exact go.mono fun _ _ k=>made_zInf k
   ·unfold envOf at hc
    split at hc
    ·cases hc
     exact Typ.fn_ok (p:=⟨sp16,44,[(13,true),(33,true),(39,true)],[4],false,[]⟩) (par_ok sp16_ok) Tryz.func48 rfl rfl (rs:=[.cell 4 53,.tmp 5,.tmp 6]) rfl (by kernel_rfl) (ss:=[(false,[.env L]),(true,[.tm h,.dat (.int .i64 n),.cut _l])]) (by simp) ((show _=some (_,(((nmd L h 6).2 == true) && ((((h.ls.length:Int) == (nmd L h 6).1.params) == true) && ((decide (n > rplace (nmd L h 6).1) == true) && true)))) by kernel_rfl).trans (by rw [h1,h2,h3]; rfl)) P w _ hP hva
    ·cases hc
     exact Typ.fn_ok (p:=⟨sp16,44,[(13,true),(33,true),(39,true)],[4],false,[]⟩) (par_ok sp16_ok) Tryz.func48 rfl rfl (rs:=[.cell 4 53,.tmp 5,.tmp 6]) rfl (by kernel_rfl) (ss:=[(false,[.dat (.pointer none)]),(true,[.tm h,.dat (.int .i64 n),.cut _l])]) (by simp) ((show _=some (_,(((nmd [] h 6).2 == true) && ((((h.ls.length:Int) == (nmd [] h 6).1.params) == true) && ((decide (n > rplace (nmd [] h 6).1) == true) && true)))) by kernel_rfl).trans (by rw [h1,h2,h3]; rfl)) P w _ hP hva
    ·cases hc
def sp17:Spec:=spCons 53 gIsR <| spCons 48 gRcr sp16
theorem sp17_ok [Typ.Xt]:SpecOk sp17:=spCons_ok (spCons_ok sp16_ok (by intro args w; kernel_rfl) (by
 intro ss r h P w vs hP hv
 unfold gRcr at h
 split at h
 ·rename_i c h0 n l
  split at h
  ·rename_i L hL
   simp only [Option.some.injEq,Prod.mk.injEq,and_true] at h
   subst h
   obtain ⟨v,u,rfl,h2,h3⟩:=args2 hv
   exact recursor_made P c L hL h0 n l v u w hP hv
  ·cases h
 ·cases h)) (by intro args w; kernel_rfl) (by
 intro ss r h P w vs hP hv
 unfold gIsR at h
 split at h
 ·rename_i c s
  split at h
  ·rename_i L hL
   simp only [Option.some.injEq,Prod.mk.injEq,decide_eq_true_eq] at h
   obtain ⟨rfl,h0⟩:=h
   obtain ⟨v,u,rfl,h2,h3⟩:=args2 hv
   cases arg_dat h3
   exact isRecord_made P c L hL s v w hP (arg_one h2) h0
  ·cases h
 ·cases h)
end Typ
end Go.Proofs.YtmngddomnaaedaaGreat
namespace Go.Proofs.YtmngddomnaaedaaGreat
open Go.RowKit Go.Shelf Go.Maps Lvl Trm Env
namespace Typ
def wrg (l:List (Tm × Int × List Tm)):Int:=if l.any (fun p=>p.1.k == 0) then 1 else 0
def wT (l:List (Tm × Int × List Tm)) (z:Int):Tbl Sl:=[(9,.val false [.spines l]),(10,.val false [.dat (.int .i64 l.length)]),(11,.val false [.dat (.int .i64 z)])]
def wP (ov:List (Nat × Bool)):Par:=⟨sp17,20,ov,[],false,[]⟩
theorem any_take {l:List (Tm × Int × List Tm)} {g:Nat} (h:g < l.length):(l.take (g + 1)).any (fun p=>p.1.k == 0)=((l.take g).any (fun p=>p.1.k == 0) || ((l.getD g (zeroT,0,[])).1.k == 0)):=by
 rw [getD_of h,List.take_succ_eq_append_getElem h,List.any_append]
 simp
theorem any_all {l:List (Tm × Int × List Tm)} {g:Nat} (h:(l.take g).any (fun p=>p.1.k == 0)=true):l.any (fun p=>p.1.k == 0)=true:=by
 rw [← List.take_append_drop g l,List.any_append,h]
 rfl
end Typ
open Typ in
theorem wrong_env [Typ.Xt] (P:Nat→Prop) (L:List Inf) (l:List (Tm × Int × List Tm)) (vs:List Value) (w:World) (hP:Typ.Lt P w) (hv:VArgs P w [(false,[.env L]),(false,[.spines l])] vs) (hn:l.length≤1000000) :
 Calls Tryz.prog 47 vs.toArray w (MadeV P w (.val false [.dat (.int .i64 (wrg l))])):=by
 have hm:Tryz.prog.follows .mixedOrders=true:=by kernel_rfl
 have hs:∀ ov,ParOk (wP ov):=fun _=>par_ok sp17_ok
 have hlen:=hv.len
 refine calls_of_wp Tryz.func47 rfl ?_
 have st:=start_ok (p:=wP []) (P:=P) (w:=w) hP hv (by simp [wP])
 refine wp_seq (piece_ok (p:=wP []) (hs _) hm (T':=[(0,.val false [.env L]),(1,.val false [.spines l])]) (e:=.normal) (need:=true) (by kernel_rfl) rfl st fun a1 w1 s1=>?_)
 refine wp_seq (piece_ok (p:=wP []) (hs _) hm (T':=[(1,.val false [.spines l])]) (e:=.normal) (need:=true) (by kernel_rfl) rfl s1 fun a2 w2 s2=>?_)
 refine wp_seq ?_
 refine wp_seq (piece_ok (p:=wP []) (hs _) hm (T':=wT l 0) (e:=.normal) (need:=true) (by kernel_rfl) rfl s2 fun a3 w3 s3=>?_)
 refine wp_block ?_
 refine Typ.wp_loop_ghost (fun (g:Nat) a w'=>St P w (wP []) (wT l g) a w'∧g≤l.length∧(l.take g).any (fun p=>p.1.k == 0)=false) (fun g=>l.length - g) (g0:=0) ⟨s3,by omega,rfl⟩ ?_
 rintro g a w' ⟨s,hg,hno⟩
 by_cases hlt:g < l.length
 ·have hw:IntKind.i64.wrap ((g:Int) + 1)=((g + 1:Nat):Int):=by rw [IntWalk.i64_in _ (by omega)]; simp
  have ha:=any_take hlt
  rw [hno,Bool.false_or] at ha
  cases hk:(l.getD g (zeroT,0,[])).1.k == 0
  ·refine piece_ok (p:=wP [(12,true),(18,false)]) (hs _) hm (T':=wT l (IntKind.i64.wrap ((g:Int) + 1))) (e:=.normal) (need:=(decide ((g:Int) < l.length) == true) && (((decide ((0:Int)≤g) && decide (g < l.length)) && true) && ((((l.getD g (zeroT,0,[])).1.k == 0) == false) && true))) (by kernel_rfl) (by rw [hk]; simp [hlt]) (s.par rfl rfl) fun a4 w4 s4=>?_
   rw [hw] at s4
   exact ⟨g + 1,⟨s4.par rfl rfl,by omega,by rw [ha,hk]⟩,by omega⟩
  ·refine piece_ok (p:=wP [(12,true),(18,true)]) (hs _) hm (T':=[(4,.val false [.dat (.int .i64 1)])]) (e:=.ret) (need:=(decide ((g:Int) < l.length) == true) && (((decide ((0:Int)≤g) && decide (g < l.length)) && true) && ((((l.getD g (zeroT,0,[])).1.k == 0) == true) && true))) (by kernel_rfl) (by rw [hk]; simp [hlt]) (s.par rfl rfl) fun a4 w4 s4=>?_
   have e:wrg l=1:=by unfold wrg; rw [if_pos (any_all (ha.trans hk))]
   rw [e]
   exact s4.post rfl
 ·have hgl:l.take g=l:=List.take_of_length_le (by omega)
  rw [hgl] at hno
  refine piece_ok (p:=wP [(12,false)]) (hs _) hm (T':=wT l g) (e:=.exit 0) (need:=(decide ((g:Int) < l.length) == false) && true) (by kernel_rfl) (by simpa using by omega) (s.par rfl rfl) fun a4 w4 s4=>?_
  have e:wrg l=0:=by unfold wrg; rw [hno]; rfl
  rw [e]
  exact tail_ok (p:=wP []) (hs _) hm (rs:=[.tmp 4]) (r:=.val false [.dat (.int .i64 0)]) (need:=true) rfl (by kernel_rfl) rfl (s4.par rfl rfl)
namespace Typ
def gWrg:List (Bool × List Ch)→Option (Sl × Bool)
 | [(false,[.dat (.pointer none)]),(false,[.spines _])]=>some (.val false [.dat (.int .i64 2)],true)
 | [(false,[.env _]),(false,[.spines l])]=>some (.val false [.dat (.int .i64 (wrg l))],decide (l.length≤1000000))
 | _=>none
def sp18:Spec:=spCons 47 gWrg sp17
theorem sp18_ok [Typ.Xt]:SpecOk sp18:=spCons_ok sp17_ok (by intro args w; kernel_rfl) (by
 intro ss r h P w vs hP hv
 unfold gWrg at h
 split at h
 ·rename_i l
  simp only [Option.some.injEq,Prod.mk.injEq,and_true] at h
  subst h
  exact Typ.fn_ok (p:=wP []) (par_ok sp17_ok) Tryz.func47 rfl rfl (rs:=[.tmp 4]) rfl (by kernel_rfl) (ss:=[(false,[.dat (.pointer none)]),(false,[.spines l])]) (by simp [wP]) (by kernel_rfl) P w vs hP hv
 ·rename_i L l
  simp only [Option.some.injEq,Prod.mk.injEq,decide_eq_true_eq] at h
  obtain ⟨rfl,h1⟩:=h
  exact wrong_env P L l vs w hP hv h1
 ·cases h)
end Typ
end Go.Proofs.YtmngddomnaaedaaGreat
namespace Go.Proofs.YtmngddomnaaedaaGreat
open Go.RowKit Go.Shelf Go.Maps Lvl Trm Env
namespace Typ
def errS (e:Int):Sl:=.tup [(true,[.tm zeroT]),(false,[.dat (.int .i64 e)])]
def mjr (L:List Inf) (t:Tm):Inf × Int × Bool:=rcr L (spM t).1 (spM t).2.length
def mjS (x:Inf × Int × Bool):Sl:=.tup [(false,[.dat (.int .i64 x.2.1)]),(false,[.dat (.bool x.2.2)])]
theorem Major_made [Typ.Xt] (P:Nat→Prop) (c:Ch) (L:List Inf) (hc:envOf c=some L) (t:Tm) (vs:List Value) (w:World) (hP:Typ.Lt P w) (hv:VArgs P w [(false,[c]),(true,[.tm t])] vs) :
 Calls Tryz.prog 25 vs.toArray w (MadeV P w (mjS (mjr L t))):=by
 unfold envOf at hc
 split at hc
 ·cases hc
  exact Typ.fn_ok (p:=⟨sp18,19,[],[],false,[]⟩) (par_ok sp18_ok) Tryz.func25 rfl rfl (rs:=[.tmp 4,.tmp 5]) rfl (by kernel_rfl) (ss:=[(false,[.env L]),(true,[.tm t])]) (r:=mjS (mjr L t)) (by simp) (by kernel_rfl) P w vs hP hv
 ·cases hc
  exact Typ.fn_ok (p:=⟨sp18,19,[],[],false,[]⟩) (par_ok sp18_ok) Tryz.func25 rfl rfl (rs:=[.tmp 4,.tmp 5]) rfl (by kernel_rfl) (ss:=[(false,[.dat (.pointer none)]),(true,[.tm t])]) (r:=mjS (mjr [] t)) (by simp) (by kernel_rfl) P w vs hP hv
 ·cases hc
end Typ
end Go.Proofs.YtmngddomnaaedaaGreat
namespace Go.Proofs.YtmngddomnaaedaaGreat
open Go.RowKit Go.Shelf Lvl Trm Env
namespace Env
def belL (n:Nat) (l:Lv):Bool:=l.ps.all fun x=>decide (x.1 < (n:Int))
theorem par4:parL 4=own.list:=by kernel_rfl
theorem par_get (n i:Nat) (h:i < (parL n).length):(parL n)[i]=(param (i:Int)).1:=by simp [parL]
theorem par_may {n:Nat} (hn:n≤4):(parL n).all Lv.may=true:=by
 rw [List.all_eq_true]
 intro x hx
 obtain ⟨i,hi,rfl⟩:=List.mem_iff_getElem.1 hx
 rw [par_get]
 rw [parL_len] at hi
 have h4:i=0∨i=1∨i=2∨i=3:=by omega
 rcases h4 with rfl | rfl | rfl | rfl
 ·exact (by kernel_rfl:Lv.may (param ((0:Nat):Int)).1=true)
 ·exact (by kernel_rfl:Lv.may (param ((1:Nat):Int)).1=true)
 ·exact (by kernel_rfl:Lv.may (param ((2:Nat):Int)).1=true)
 ·exact (by kernel_rfl:Lv.may (param ((3:Nat):Int)).1=true)
theorem step_par {n:Nat} (o:Option Lv) (x:Int × Int) (hx:x.1.toNat < n) (hn:n≤4):instStep (parL n) o x=instStep (parL 4) o x:=by
 cases o with
 | none=>rfl
 | some o =>
   unfold instStep
   simp only [parL_len]
   rw [dif_pos hx,dif_pos (by omega),par_get,par_get]
theorem fold_par {n:Nat} (hn:n≤4):∀ (ps:List (Int × Int)) (o:Option Lv),(∀ x ∈ ps,x.1.toNat < n)→ps.foldl (instStep (parL n)) o=ps.foldl (instStep (parL 4)) o
 | [],_,_=>rfl
 | x :: r,o,h=>by
   rw [List.foldl_cons,List.foldl_cons,step_par o x (h x (by simp)) hn]
   exact fold_par hn r _ (fun y hy=>h y (by simp [hy]))
theorem fold_out {n:Nat}:∀ (ps:List (Int × Int)) (o:Option Lv),(∃ x ∈ ps,n≤x.1.toNat)→ps.foldl (instStep (parL n)) o=none
 | [],_,h=>by obtain ⟨x,hx,_⟩:=h; cases hx
 | x :: r,o,h=>by
   rw [List.foldl_cons]
   by_cases hx:n≤x.1.toNat
   ·have e:instStep (parL n) o x=none:=by
     cases o with
     | none=>rfl
     | some o =>
       unfold instStep
       simp only [parL_len]
       rw [dif_neg (by omega)]
    rw [e]
    exact instFold_none _ r
   ·obtain ⟨y,hy,hny⟩:=h
    rcases List.mem_cons.1 hy with rfl | hy
    ·exact absurd hny hx
    ·exact fold_out r _ ⟨y,hy,hny⟩
theorem inst_par {l:Lv} (hl:l.may=true) {n:Nat} (hn:n≤4):inst l (parL n)=if belL n l=true then (l,0) else (zero,8):=by
 have ho:=(may_iff l).1 hl
 have h0:∀ x ∈ l.ps,0≤x.1:=fun x hx=>by
  obtain ⟨k,_,rfl,_⟩:=mem_ps_k hx
  simp
 by_cases hb:belL n l=true
 ·rw [if_pos hb]
  have hall:∀ x ∈ l.ps,x.1.toNat < n:=fun x hx=>by
   have h1:=List.all_eq_true.1 hb x hx
   have h2:=of_decide_eq_true h1
   have:=h0 x hx
   omega
  have e4:=inst_own ho
  rw [← par4] at e4
  rw [inst,if_pos ⟨hl,par_may (by omega)⟩] at e4
  rw [inst,if_pos ⟨hl,par_may hn⟩]
  unfold instAll at e4 ⊢
  rw [fold_par hn _ _ hall]
  exact e4
 ·rw [if_neg hb]
  have hex:∃ x ∈ l.ps,n≤x.1.toNat:=by
   refine Classical.byContradiction fun hc=>hb (List.all_eq_true.2 fun x hx=>decide_eq_true ?_)
   have h1:¬ n≤x.1.toNat:=fun h=>hc ⟨x,hx,h⟩
   have:=h0 x hx
   omega
  rw [inst,if_pos ⟨hl,par_may hn⟩]
  unfold instAll
  rw [fold_out _ _ hex]
mutual
def _root_.Go.Proofs.YtmngddomnaaedaaGreat.Trm.Tm.bel (n:Nat):Tm→Bool
 | .mk _ _ _ ls ts=>ls.all (belL n) && belT n ts
def belT (n:Nat):List Tm→Bool
 | []=>true
 | t :: r=>t.bel n && belT n r
end
theorem node_lv {t:Tm} (h:t.node=true):∀ l ∈ t.ls,l.may=true:=by
 unfold Tm.node at h
 simp only [Bool.and_eq_true] at h
 exact List.all_eq_true.1 h.1.1.1.2
theorem errL_par {n:Nat} (hn:n≤4):∀ ls:List Lv,(∀ l ∈ ls,l.may=true)→errL (parL n) ls=if ls.all (belL n)=true then 0 else 8
 | [],_=>rfl
 | l :: r,h=>by
   rw [errL,inst_par (h l (by simp)) hn,errL_par hn r (fun x hx=>h x (by simp [hx])),List.all_cons]
   cases belL n l <;> simp
mutual
theorem lerr_par {n:Nat} (hn:n≤4):∀ (t:Tm) (d:Int),OkMay t d→t.lerr (parL n)=if t.bel n=true then 0 else 8
 | .mk k m s ls ts,d,ho=>by
   rw [Tm.lerr,Tm.bel,errL_par hn ls (node_lv ho.node.1),lerrL_par hn ts (d + 1) (fun x hx=>ho.down x hx)]
   cases ls.all (belL n) <;> simp
theorem lerrL_par {n:Nat} (hn:n≤4):∀ (ts:List Tm) (d:Int),(∀ x ∈ ts,OkMay x d)→lerrL (parL n) ts=if belT n ts=true then 0 else 8
 | [],d,_=>rfl
 | t :: r,d,ho=>by
   rw [lerrL,belT,lerr_par hn t d (ho t (by simp)),lerrL_par hn r d (fun x hx=>ho x (by simp [hx]))]
   cases t.bel n <;> simp
end
theorem lmap_own {n:Nat} (hn:n≤4) {ls:List Lv} (h:∀ l ∈ ls,l.may=true) (hb:ls.all (belL n)=true):ls.map (fL (parL n))=ls:=by
 rw [List.map_congr_left (g:=id) (fun l hl=>?_),List.map_id]
 unfold fL
 rw [inst_par (h l hl) hn,if_pos (List.all_eq_true.1 hb l hl)]
 rfl
mutual
theorem lmap_par {n:Nat} (hn:n≤4):∀ (t:Tm) (d:Int),OkMay t d→t.bel n=true→t.lmap (fL (parL n))=t
 | .mk k m s ls ts,d,ho,hb=>by
   rw [Tm.bel,Bool.and_eq_true] at hb
   rw [Tm.lmap,lmap_own (ls:=ls) hn (node_lv ho.node.1) hb.1,lmapL_par hn ts (d + 1) (fun x hx=>ho.down x hx) hb.2]
theorem lmapL_par {n:Nat} (hn:n≤4):∀ (ts:List Tm) (d:Int),(∀ x ∈ ts,OkMay x d)→belT n ts=true→lmapL (fL (parL n)) ts=ts
 | [],d,_,_=>by rw [lmapL]
 | t :: r,d,ho,hb=>by
   rw [belT,Bool.and_eq_true] at hb
   rw [lmapL,lmap_par hn t d (ho t (by simp)) hb.1,lmapL_par hn r d (fun x hx=>ho x (by simp [hx])) hb.2]
end
mutual
theorem allL_lerr {L:List Lv}:∀ t:Tm,t.lerr L=0→t.allL (okL L)
 | .mk k m s ls ts,h=>by
   rw [Tm.lerr] at h
   rw [Tm.allL]
   by_cases he:errL L ls=0
   ·rw [if_pos he] at h
    exact ⟨allE he,allLL_lerr ts h⟩
   ·rw [if_neg he] at h; exact absurd h he
theorem allLL_lerr {L:List Lv}:∀ ts:List Tm,lerrL L ts=0→allLL (okL L) ts
 | [],_=>by rw [allLL]; trivial
 | t :: r,h=>by
   rw [lerrL] at h
   rw [allLL]
   by_cases he:t.lerr L=0
   ·rw [if_pos he] at h
    exact ⟨allL_lerr t he,allLL_lerr r h⟩
   ·rw [if_neg he] at h; exact absurd h he
theorem allE {L:List Lv}:∀ {ls:List Lv},errL L ls=0→∀ l ∈ ls,okL L l
 | [],_,l,hl=>by cases hl
 | x :: r,h,l,hl=>by
   rw [errL] at h
   by_cases he:(inst x L).2=0
   ·rw [if_pos he] at h
    rcases List.mem_cons.1 hl with rfl | hl
    ·exact he
    ·exact allE h l hl
   ·rw [if_neg he] at h; exact absurd h he
end
theorem levels_par {t:Tm} (hm:t.may=true) {n:Nat} (hn:n≤4):levelsAns t (parL n)=if t.bel n=true then (t,0) else (zeroT,8):=by
 have hg:LGood (parL n) (parL n):=.inl rfl
 have he:=thr_err (L:=parL n) t (parL n) 1 0 (OkMay.start hm) hg
 have hl:=lerr_par hn t 1 (OkMay.start hm)
 by_cases hb:t.bel n=true
 ·rw [if_pos hb] at hl ⊢
  exact levels_is hm (allL_lerr t hl) (lmap_par hn t 1 (OkMay.start hm) hb) hm
 ·rw [if_neg hb] at hl ⊢
  unfold levelsAns ansT
  rw [if_neg (by rw [hm]; simp),he,hl,if_pos (by decide)]
def openB (t:Tm) (n:Nat):Int:=if t.may=true∧t.free≤0 then (if t.bel n=true then 0 else 8) else 7
theorem openE_is (t:Tm) {n:Nat} (hn:n≤4):openE t n=openB t n:=by
 unfold openE openB
 by_cases h:t.may=true∧t.free≤0
 ·rw [if_pos h,if_pos h,levels_par h.1 hn]
  split <;> rfl
 ·rw [if_neg h,if_neg h]
def wrongTB (L:List Ent) (ks:List (List UInt8)) (i n:Nat) (x:Inf):Int :=
 if firstE (fun t=>openB t n) x.terms=0 then firstE (fun t=>unk (t.nms.all (known L ks i x.hv))) x.terms else firstE (fun t=>openB t n) x.terms
theorem wrongT_is (L:List Ent) (ks:List (List UInt8)) (i:Nat) {n:Nat} (hn:n≤4) (x:Inf):wrongT L ks i n x=wrongTB L ks i n x:=by
 unfold wrongT wrongTB
 rw [show (fun t=>openE t n)=(fun t=>openB t n) from funext fun t=>openE_is t hn]
def wrongIB (L:List Ent) (ks:List (List UInt8)) (i:Nat) (x:Inf):Int :=
 if nameOk x.name=false then 5 else if (lookE L (key x.name)).isSome=true then 5 else if ks.idxOf (key x.name) < i then 5
 else if x.isKind=false then 1 else if x.nums=false then 1 else if x.params < 0 then 8 else if 4 < x.params then 8 else wrongTB L ks i x.params.toNat x
theorem wrongI_is (L:List Ent) (ks:List (List UInt8)) (i:Nat) (x:Inf):wrongI L ks i x=wrongIB L ks i x:=by
 unfold wrongI wrongIB
 by_cases h:4 < x.params
 ·rw [if_pos h,if_pos h]
 ·rw [if_neg h,if_neg h,wrongT_is L ks i (by omega)]
def wrongLB (L:List Ent) (l:List Inf):Int:=firstE (fun p:Inf × Nat=>wrongIB L (names l) p.2 p.1) l.zipIdx
theorem wrongL_is (L:List Ent) (l:List Inf):wrongL L l=wrongLB L l:=by
 unfold wrongL wrongLB
 rw [show (fun p:Inf × Nat=>wrongI L (names l) p.2 p.1)=(fun p:Inf × Nat=>wrongIB L (names l) p.2 p.1) from funext fun p=>wrongI_is _ _ _ _]
end Env
end Go.Proofs.YtmngddomnaaedaaGreat
namespace Go.Proofs.YtmngddomnaaedaaGreat
open Go.RowKit Go.Shelf Lvl Trm Env
namespace Env
def addB (L:List Ent) (l:List Inf):Int:=if 4096 < L.length + l.length then 4 else wrongLB L l
theorem addA_is (L:List Ent) (l:List Inf):addA L l=addB L l:=by unfold addA addB; rw [wrongL_is]
end Env
end Go.Proofs.YtmngddomnaaedaaGreat
namespace Go.Proofs.YtmngddomnaaedaaGreat
open Go.RowKit Go.Shelf Go.Maps Lvl Trm Env
namespace Smp
def ents (L:List Inf):List Ent:=L.map fun x=>(0,x,⟨⟨none,0,none,0⟩,⟨none,0,none,0⟩,none,0⟩)
theorem infs_ents (L:List Inf):Env.infs (ents L)=L:=by
 induction L with
 | nil=>rfl
 | cons x r ih=>simp only [ents,Env.infs,List.map_cons,List.map_map] at ih ⊢; rw [ih]
noncomputable def addI (L l:List Inf):List Inf:=l.foldl (fun L x=>L ++ [fixI (ents L) x]) L
noncomputable def smpL:List Inf:=addI [] infosI
theorem add_a:addB (ents []) (infosI.take 4)=0:=by kernel_rfl
theorem add_d:(List.range 9).all (fun i=>addB (ents (addI [] (infosI.take (11 + i)))) [infosI.getD (11 + i) Typ.zI0] == 0)=true:=by kernel_rfl
end Smp
end Go.Proofs.YtmngddomnaaedaaGreat
