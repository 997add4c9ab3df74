/-
 What operations yield where the parts of their operands are known.
-/
import Derived.Lib.Hide
import Derived.Test.YtmngddomnaaedaaGreatQB27
open Go.Lib (hid)
set_option maxRecDepth 100000
set_option maxHeartbeats 32000000
namespace Go.Proofs.YtmngddomnaaedaaGreat
open Go.RowKit Go.Shelf Go.Maps Lvl Trm Env
namespace Typ
def cmpI:BinOp→Int→Int→Option Bool
 | .eql,a,b=>some (a == b)
 | .neq,a,b=>some (a != b)
 | .lss,a,b=>some (decide (a < b))
 | .leq,a,b=>some (decide (a≤b))
 | .gtr,a,b=>some (decide (a > b))
 | .geq,a,b=>some (decide (a ≥ b))
 | _,_,_=>none
def ariI:BinOp→IntKind→Int→Int→Option Int
 | .add,k,a,b=>some (k.wrap (a + b))
 | .sub,k,a,b=>some (k.wrap (a - b))
 | .mul,k,a,b=>some (k.wrap (a * b))
 | .quo,k,a,b=>if b=0 then none else some (k.wrap (a.tdiv b))
 | .rem,_,a,b=>if b=0 then none else some (a.tmod b)
 | _,_,_,_=>none
def binV (op:BinOp) (x y:Value):Option Value:=match x,y with
 | .int k a,.int k' b=>if k=k' then match cmpI op a b with
   | some c=>some (.bool c)
   | none=>match ariI op k a b with
     | some c=>some (.int k c)
     | none=>none
   else none
 | .string a,.string b=>match op with
   | .eql=>some (.bool (a.toList == b.toList))
   | .neq=>some (.bool (!(a.toList == b.toList)))
   | _=>none
 | _,_=>none
theorem run_bin {op:BinOp} {x y v:Value} (h:binV op x y=some v) (ty:TypeId) (p q:Operand) (P:Program) (w:World):(do eqGuard op ty p q x y; binOp op ty x y).run P w=.ok v w:=by
 unfold binV at h
 split at h
 ·split at h
  ·rename_i k a k' b hk
   subst hk
   cases op
   case quo =>
    by_cases hb:b=0
    ·simp [cmpI,ariI,hb] at h
    ·simp [cmpI,ariI,hb] at h
     subst h
     simp [eqGuard,binOp,Op.intDiv,hb,Sem.run_pure]
   case rem =>
    by_cases hb:b=0
    ·simp [cmpI,ariI,hb] at h
    ·simp [cmpI,ariI,hb] at h
     subst h
     simp [eqGuard,binOp,Op.intDiv,hb,Sem.run_pure]
   all_goals (simp [cmpI,ariI] at h <;> subst h <;> simp [eqGuard,binOp,Op.intCmp,Op.intArith,Sem.run_pure])
  ·cases h
 ·cases op <;> simp at h <;> subst h <;> simp [eqGuard,binOp,Op.stringOp,Sem.run_pure]
 ·cases h
def tmCh (t:Tm):List Ch:=[.dat (.int .u8 t.k),.dat (.int .i64 t.n),.dat (.string t.s),.lvs t.ls,.tms t.ts]
def expand:List Ch→List Ch
 | [.tm t]=>tmCh t
 | l=>l
def norm5:List Ch→Option (Tm × Bool)
 | [.dat (.int .u8 k),.dat (.int .i64 n),.dat (.string s),a,b]=>match asLvs a,asTms b with
   | some ls,some ts=>some (.mk k n s ls ts,fitB k n s ls ts)
   | _,_=>none
 | _=>none
theorem norm5_toTm {l:List Ch} {t:Tm} (h:norm5 l=some (t,true)):toTm l=some t:=by
 unfold norm5 at h
 split at h
 ·split at h
  ·rename_i ha hb
   simp only [Option.some.injEq,Prod.mk.injEq] at h
   obtain ⟨rfl,hf⟩:=h
   simp only [toTm,ha,hb,hf,if_true]
  ·cases h
 ·cases h
theorem norm5_ok [Typ.Xt] {P:Nat→Prop} {w:World} {l:List Ch} {t:Tm} {n:Bool} {vs:List Value} (h:norm5 l=some (t,n)) (hn:n=true) (k:Ok P w l vs):Ok P w [.tm t] vs:=by
 subst hn
 obtain ⟨x,e,f⟩:=toTm_ok (norm5_toTm h) k
 exact ⟨vs,[],by simp,⟨x,e,f⟩,rfl⟩
def sizesEq:List Ch→List Ch→Bool
 | [],[]=>true
 | a :: r,b :: q=>Nat.beq a.size b.size && sizesEq r q
 | _,_=>false
noncomputable def scalarT (ty:TypeId):Bool:=match Tryz.prog.underlying ty with
 | some d=>!isSt d
 | none=>false
def infCh (x:Inf):List Ch:=[.dat (.int .u8 x.kind),.dat (.string x.name),.dat (.int .i64 x.params),.tm x.ty,.tm x.va,.dat (.int .i64 x.height),.dat (.string x.block),.dat (.string x.of_),.dat (.int .i64 x.fixed),.dat (.int .i64 x.index),.dat (.int .i64 x.no),.dat (.int .i64 x.fields),.dat (.int .i64 x.motives),.dat (.int .i64 x.minors),.rls x.rules,.dat (.int .i64 x.ctors),.dat (.bool x.record)]
theorem tot_infCh (x:Inf):tot (infCh x)=25:=by kernel_rfl
theorem ok_tm [Typ.Xt] {P:Nat→Prop} {w:World} {t:Tm} {h:Hd} {l:List Ch} {vs:List Value} (f:FirmS P w t h) (k:Typ.Ok P w l vs):Typ.Ok P w (.tm t :: l) (Env.five t h ++ vs):=⟨_,vs,rfl,⟨h,rfl,f⟩,k⟩
theorem ok_infCh [Typ.Xt] {P:Nat→Prop} {w:World} {x:Inf} {h:IHd} (f:FirmI P w x h):Typ.Ok P w (infCh x) (x.vals h):=by
 have h1:Typ.Ok P w (infCh x) ([.int .u8 x.kind,.string x.name,.int .i64 x.params] ++ (Env.five x.ty h.ty ++ (Env.five x.va h.va ++ [.int .i64 x.height,.string x.block,.string x.of_,.int .i64 x.fixed,.int .i64 x.index,.int .i64 x.no,.int .i64 x.fields,.int .i64 x.motives,.int .i64 x.minors,.slice h.ro x.rules.length h.rc,.int .i64 x.ctors,.bool x.record]))) :=
  ok_dat rfl (ok_dat rfl (ok_dat rfl (ok_tm f.ty (ok_tm f.va (ok_dat rfl (ok_dat rfl (ok_dat rfl (ok_dat rfl (ok_dat rfl (ok_dat rfl (ok_dat rfl (ok_dat rfl (ok_dat rfl ⟨[_],_,rfl,⟨_,_,rfl,f.rules⟩,ok_dat rfl (ok_dat rfl rfl)⟩)))))))))))))
 have e:x.vals h=([.int .u8 x.kind,.string x.name,.int .i64 x.params] ++ (Env.five x.ty h.ty ++ (Env.five x.va h.va ++ [.int .i64 x.height,.string x.block,.string x.of_,.int .i64 x.fixed,.int .i64 x.index,.int .i64 x.no,.int .i64 x.fields,.int .i64 x.motives,.int .i64 x.minors,.slice h.ro x.rules.length h.rc,.int .i64 x.ctors,.bool x.record]))):=by
  unfold Inf.vals
  rw [List.append_assoc,List.append_assoc]
 rw [e]; exact h1
def zI0:Inf:=⟨0,⟨#[]⟩,0,zeroT,zeroT,0,⟨#[]⟩,⟨#[]⟩,0,0,0,0,0,0,[],0,false⟩
def zR0:Rl:=⟨⟨#[]⟩,0,zeroT⟩
def elCh (c:Ch) (i:Nat):Option (TypeId × List Ch × Nat):=match c with
 | .tms l=>some (25,[.tm (l.getD i zeroT)],l.length)
 | .tmsC l=>some (25,[.tm (l.getD i zeroT)],l.length)
 | .infs l=>some (53,infCh (l.getD i zI0),l.length)
 | .spines l=>some (91,[.tm (l.getD i (zeroT,0,[])).1,.dat (.int .i64 (l.getD i (zeroT,0,[])).2.1),.cut (l.getD i (zeroT,0,[])).2.2],l.length)
 | .tmss l=>some (23,[.tms (l.getD i [])],l.length)
 | .strs l=>some (9,[.dat (.string (l.getD i ⟨#[]⟩))],l.length)
 | .rls l=>some (64,[.dat (.string (l.getD i zR0).ctor),.dat (.int .i64 (l.getD i zR0).fields),.tm (l.getD i zR0).body],l.length)
 | _=>none
theorem getD_of {α:Type} {l:List α} {i:Nat} (h:i < l.length) (d:α):l.getD i d=l[i]:=by simp [List.getD,h]
theorem elCh_ok [Typ.Xt] {P:Nat→Prop} {w:World} {c:Ch} {i n:Nat} {ty:TypeId} {l:List Ch} {v:Value} (h:elCh c i=some (ty,l,n)) (k:c.Ok P w [v]) (hi:i < n) :
 ∃ b off lc vs,v=.slice (some ⟨b,off,none⟩) n lc∧b < w.heap.size∧¬ P b∧w.rangeAt b (off + i * tot l) vs∧Typ.Ok P w l vs:=by
 unfold elCh at h
 split at h
 ·cases h
  obtain ⟨lo,lc,e1,e2⟩:=k
  obtain ⟨b,off,h1,h2,h3,hd,h4,h5⟩:=e2 i hi
  simp only [List.cons.injEq,and_true] at e1
  subst h1
  rw [getD_of hi]
  refine ⟨b,off,lc,Env.five _ hd,e1,h2,h3,fun j u hu=>?_,by have z:=ok_tm (l:=[]) (vs:=[]) h5 rfl; rw [List.append_nil] at z; exact z⟩
  have hj:j < 5:=(List.getElem?_eq_some_iff.1 hu).1
  have:j=0∨j=1∨j=2∨j=3∨j=4:=by omega
  rcases this with rfl | rfl | rfl | rfl | rfl <;> simp [Env.five] at hu <;> subst hu
  ·exact h4.c0
  ·exact h4.c1
  ·exact h4.c2
  ·exact h4.c3
  ·exact h4.c4
 ·cases h
  obtain ⟨lo,lc,e1,e2,_⟩:=k
  obtain ⟨b,off,h1,h2,h3,hd,h4,h5⟩:=e2 i hi
  simp only [List.cons.injEq,and_true] at e1
  subst h1
  rw [getD_of hi]
  refine ⟨b,off,lc,Env.five _ hd,e1,h2,h3,fun j u hu=>?_,by have z:=ok_tm (l:=[]) (vs:=[]) h5 rfl; rw [List.append_nil] at z; exact z⟩
  have hj:j < 5:=(List.getElem?_eq_some_iff.1 hu).1
  have:j=0∨j=1∨j=2∨j=3∨j=4:=by omega
  rcases this with rfl | rfl | rfl | rfl | rfl <;> simp [Env.five] at hu <;> subst hu
  ·exact h4.c0
  ·exact h4.c1
  ·exact h4.c2
  ·exact h4.c3
  ·exact h4.c4
 ·cases h
  obtain ⟨lo,lc,e1,e2⟩:=k
  obtain ⟨b,off,hd,h1,h2,h3,h4,h5⟩:=e2.place i hi
  simp only [List.cons.injEq,and_true] at e1
  subst h1
  rw [getD_of hi]
  refine ⟨b,off,lc,_,e1,h2,h3,?_,ok_infCh h5⟩
  rw [tot_infCh]
  exact h4
 ·rename_i l0
  cases h
  obtain ⟨lo,lc,e1,e2⟩:=k
  obtain ⟨b,off,hd,c,h1,h2,h3,h4,h5,h6⟩:=e2.place i hi
  simp only [List.cons.injEq,and_true] at e1
  subst h1
  rw [getD_of hi]
  generalize l0[i]=y at h4 h5 h6 ⊢
  have k1:Typ.Ok P w [.cut y.2.2] [c]:=⟨[c],[],rfl,⟨c,rfl,h6⟩,rfl⟩
  have k2:Typ.Ok P w [.dat (.int .i64 y.2.1),.cut y.2.2] [.int .i64 y.2.1,c]:=ok_dat rfl k1
  have k3:=ok_tm h5 k2
  exact ⟨b,off,lc,_,e1,h2,h3,h4,k3⟩
 ·rename_i l0
  cases h
  obtain ⟨lo,lc,e1,e2⟩:=k
  obtain ⟨b,off,lo',lc',h1,h2,h3,h4,h5⟩:=e2.place i hi
  simp only [List.cons.injEq,and_true] at e1
  subst h1
  rw [getD_of hi]
  generalize l0[i]=y at h4 h5 ⊢
  refine ⟨b,off,lc,[.slice lo' y.length lc'],e1,h2,h3,fun j u hu=>?_,[_],[],rfl,⟨lo',lc',rfl,h5⟩,rfl⟩
  have hj:j < 1:=(List.getElem?_eq_some_iff.1 hu).1
  have hj0:j=0:=by omega
  subst hj0
  simp at hu
  subst hu
  rw [show off + i * tot [Ch.tms y] + 0=off + i by simp [tot,Ch.size]]
  exact h4
 ·rename_i l0
  cases h
  obtain ⟨lo,lc,e1,e2⟩:=k
  obtain ⟨b,off,h1,h2,h3,h4⟩:=e2.place i hi
  simp only [List.cons.injEq,and_true] at e1
  subst h1
  rw [getD_of hi]
  generalize l0[i]=y at h4 ⊢
  refine ⟨b,off,lc,[.string y],e1,h2,h3,fun j u hu=>?_,ok_dat rfl rfl⟩
  have hj:j < 1:=(List.getElem?_eq_some_iff.1 hu).1
  have hj0:j=0:=by omega
  subst hj0
  simp at hu
  subst hu
  rw [show off + i * tot [Ch.dat (.string y)] + 0=off + i by simp [tot,Ch.size]]
  exact h4
 ·rename_i l0
  cases h
  obtain ⟨lo,lc,e1,e2⟩:=k
  obtain ⟨b,off,hd,h1,h2,h3,h4,h5⟩:=e2.place i hi
  simp only [List.cons.injEq,and_true] at e1
  subst h1
  rw [getD_of hi]
  generalize l0[i]=y at h4 h5 ⊢
  have k3:Typ.Ok P w [.dat (.string y.ctor),.dat (.int .i64 y.fields),.tm y.body] ([.string y.ctor,.int .i64 y.fields] ++ (Env.five y.body hd ++ [])):=ok_dat rfl (ok_dat rfl (ok_tm h5 rfl))
  rw [List.append_nil] at k3
  exact ⟨b,off,lc,_,e1,h2,h3,h4,k3⟩
 ·cases h
def rowOf (el:TypeId):Option RK:=if Nat.beq el 25 then some .tms else if Nat.beq el 53 then some .infs else if Nat.beq el 91 then some .spines else if Nat.beq el 23 then some .tmss else if Nat.beq el 64 then some .rls else if Nat.beq el 9 then some .strs else none
def rkEq:RK→RK→Bool
 | .tms,.tms=>true
 | .infs,.infs=>true
 | .spines,.spines=>true
 | .tmss,.tmss=>true
 | .rls,.rls=>true
 | .strs,.strs=>true
 | _,_=>false
theorem rkEq_eq {a b:RK} (h:rkEq a b=true):a=b:=by cases a <;> cases b <;> first | rfl | cases h
theorem run_index {ty:TypeId} {k:RK} (hk:rkOf ty=some k) {b off n lc i:Nat} (hi:i < n) (w:World):(Instr.indexAt ty (.slice (some ⟨b,off,none⟩) n lc) (.int .i64 i)).run Tryz.prog w=.ok (.pointer (some ⟨b,off + i * k.size,none⟩)) w:=by
 obtain ⟨ie,z,h1,h2,h3,h4⟩:=rk_info k
 have hu:=rk_under hk
 simp [Instr.indexAt,run_underlying hu,asIntOf,hi,sizeOf,typeInfo,h1,h3,Addr.add_mid]
noncomputable def z1 (ty:TypeId):Option Value:=match Tryz.prog.info? ty with
 | some i=>match i.zero with
   | some v=>if v.oneCell' && Nat.beq i.size 1 then some v else none
   | none=>none
 | none=>none
theorem z1_one {ty:TypeId} {v:Value} (h:z1 ty=some v):v.oneCell'=true∧(Tryz.prog.info? ty).map (·.size)=some 1∧∀ w,(Instr.alloc ty true (.tuple #[])).run Tryz.prog w=.ok (.pointer (some ⟨w.heap.size,0,none⟩)) (w.alloc (.cells #[v] ty)):=by
 unfold z1 at h
 cases hi:Tryz.prog.info? ty with
 | none=>simp [hi] at h
 | some i =>
   simp only [hi] at h
   cases hz:i.zero with
   | none=>simp [hz] at h
   | some z =>
     simp only [hz] at h
     split at h
     ·rename_i hb
      cases h
      rw [Bool.and_eq_true] at hb
      have hc:v.cells=#[v]:=by cases v <;> first | rfl | (exact absurd hb.1 (by simp [Value.oneCell']))
      refine ⟨hb.1,by simp [Nat.eq_of_beq_eq_true hb.2],fun w=>?_⟩
      simp [Instr.alloc,zeroValue,typeInfo,hi,hz,newVar,newRow,hc]
     ·cases h
noncomputable def ptrT (ty:TypeId):Bool:=match Tryz.prog.underlying ty with
 | some (.pointer _)=>true
 | _=>false
def nilCh:Ch→Option Bool
 | .env _=>some false
 | .dat (.pointer none)=>some true
 | _=>none
theorem nilCh_ok [Typ.Xt] {P:Nat→Prop} {w:World} {c:Ch} {b:Bool} {v:Value} (h:nilCh c=some b) (k:c.Ok P w [v]):∃ o:Option Addr,v=.pointer o∧o.isNone=b:=by
 unfold nilCh at h
 split at h
 ·cases h
  obtain ⟨e,mo,u,E,h1,_,_⟩:=k
  simp only [List.cons.injEq,and_true] at h1
  exact ⟨_,h1,rfl⟩
 ·cases h
  obtain ⟨h1,_⟩:=k
  simp only [List.cons.injEq,and_true] at h1
  exact ⟨none,h1,rfl⟩
 ·cases h
theorem run_nil {ty:TypeId} (ht:ptrT ty=true) (o:Option Addr) (p q:Operand) (w:World):(do eqGuard .eql ty p q (.pointer o) (.pointer none); binOp .eql ty (.pointer o) (.pointer none)).run Tryz.prog w=.ok (.bool o.isNone) w:=by
 unfold ptrT at ht
 split at ht
 ·rename_i e hu
  have e1:(Op.equal ty (.pointer o) (.pointer none)).run Tryz.prog w=.ok o.isNone w:=by
   unfold Op.equal
   rw [show Op.maxDepth=9999 + 1 from rfl]
   unfold Op.equalIn
   rw [Sem.run_bind,run_underlying hu,Result.andThen_ok]
   cases o <;> rfl
  have e2:binOp .eql ty (.pointer o) (.pointer none)=(do pure (.bool (← Op.equal ty (.pointer o) (.pointer none)))):=by cases o <;> rfl
  have e3:(eqGuard .eql ty p q (.pointer o) (.pointer none)).run Tryz.prog w=.ok () w:=by cases o <;> rfl
  rw [e2,Sem.run_bind,e3,Result.andThen_ok,Sem.run_bind,e1]
  rfl
 ·cases ht
noncomputable def boolT (ty:TypeId):Bool:=match Tryz.prog.underlying ty with
 | some .bool=>true
 | _=>false
theorem run_beq {ty:TypeId} (ht:boolT ty=true) (a b:Bool) (p q:Operand) (w:World):(do eqGuard .eql ty p q (.bool a) (.bool b); binOp .eql ty (.bool a) (.bool b)).run Tryz.prog w=.ok (.bool (a == b)) w:=by
 unfold boolT at ht
 split at ht
 ·rename_i hu
  have e1:(Op.equal ty (.bool a) (.bool b)).run Tryz.prog w=.ok (a == b) w:=by
   unfold Op.equal
   rw [show Op.maxDepth=9999 + 1 from rfl]
   unfold Op.equalIn
   rw [Sem.run_bind,run_underlying hu,Result.andThen_ok]
   rfl
  have e2:binOp .eql ty (.bool a) (.bool b)=(do pure (.bool (← Op.equal ty (.bool a) (.bool b)))):=rfl
  have e3:(eqGuard .eql ty p q (.bool a) (.bool b)).run Tryz.prog w=.ok () w:=rfl
  rw [e2,Sem.run_bind,e3,Result.andThen_ok,Sem.run_bind,e1]
  rfl
 ·cases ht
def lenCh:Ch→Option Nat
 | .dat (.string s)=>some s.size
 | .lvs l=>some l.length
 | .tms l=>some l.length
 | .rls l=>some l.length
 | .infs l=>some l.length
 | .spines l=>some l.length
 | .tmss l=>some l.length
 | .strs l=>some l.length
 | .tmsC l=>some l.length
 | .dat (.slice none 0 0)=>some 0
 | _=>none
def isStr:Ch→Bool
 | .dat (.string _)=>true
 | _=>false
noncomputable def lenFits (ty:TypeId) (c:Ch):Bool:=match Tryz.prog.underlying ty with
 | some .string=>isStr c
 | some (.slice _)=>!isStr c
 | _=>false
theorem firm_rows {P:Nat→Prop} {w:World} {t:Tm} {h:Hd} (g:FirmS P w t h):LRowP P w h.lo t.ls∧RowP P w h.to t.ts:=by
 have kill:∀ b,P b→RanS P w { w with heap:=w.heap.setIfInBounds b (.map #[] 0) }:=fun b hp=>⟨rfl,rfl,rfl,by simp,fun q hq hn=>by
  have hqb:b ≠ q:=fun e=>hn (e ▸ hp)
  simp [Array.getElem?_setIfInBounds_ne hqb]⟩
 have dead:∀ b o,b < w.heap.size→World.cell? { w with heap:=w.heap.setIfInBounds b (.map #[] 0) } ⟨b,o,none⟩=none:=fun b o hb=>by
  simp [World.cell?,hb]
 obtain ⟨h1,h2,h3,h4⟩:=Tm.In_iff.1 g.here
 constructor
 ·refine ⟨fun k hk=>?_⟩
  obtain ⟨b,off,e1,e2,e3,e4,e5,e6⟩:=h2.place k hk
  have hb:b < w.heap.size:=h3 (by omega) _ e1
  refine ⟨b,off,e1,hb,fun hp=>?_,fun j v hv=>?_⟩
  ·obtain ⟨b2,off2,d1,d2,_⟩:=(Tm.In_iff.1 (g _ (kill b hp))).2.1.place k hk
   rw [e1] at d1
   cases d1
   rw [dead b _ hb] at d2
   cases d2
  ·have h5:j < 5:=(List.getElem?_eq_some_iff.1 hv).1
   have:j=0∨j=1∨j=2∨j=3∨j=4:=by omega
   rcases this with rfl | rfl | rfl | rfl | rfl <;> simp [Lv.list5] at hv <;> subst hv <;> assumption
 ·intro k hk
  obtain ⟨b,off,e1,e2⟩:=h4.1.place k hk
  rw [Nat.zero_add] at e2
  obtain ⟨hb,hd,c,hin⟩:=e2
  have hnP:¬ P b:=fun hp=>by
   obtain ⟨b2,off2,d1,d2⟩:=(Tm.In_iff.1 (g _ (kill b hp))).2.2.2.1.place k hk
   rw [e1] at d1
   cases d1
   obtain ⟨_,_,c2,_⟩:=d2
   have:=c2.c0
   rw [dead b _ hb] at this
   cases this
  refine ⟨b,off,e1,hb,hnP,hd,c,fun w' hr=>?_⟩
  obtain ⟨b2,off2,d1,d2⟩:=(Tm.In_iff.1 (g w' hr)).2.2.2.1.place k hk
  rw [e1] at d1
  cases d1
  rw [Nat.zero_add] at d2
  obtain ⟨_,hd2,c2,hin2⟩:=d2
  have c3:=c.ranS hr hb hnP
  have:hd2=hd:=by
   have a3:=c2.c3.symm.trans c3.c3
   have a4:=c2.c4.symm.trans c3.c4
   simp only [Option.some.injEq,Value.slice.injEq] at a3 a4
   obtain ⟨x1,_,x2⟩:=a3
   obtain ⟨x3,_,x4⟩:=a4
   cases hd; cases hd2
   simp only at x1 x2 x3 x4
   subst x1 x2 x3 x4
   rfl
  rwa [this] at hin2
theorem ok_tmCh [Typ.Xt] {P:Nat→Prop} {w:World} {t:Tm} {h:Hd} (g:FirmS P w t h):Typ.Ok P w (tmCh t) (Env.five t h):=by
 obtain ⟨h1,h2⟩:=firm_rows g
 exact ok_dat rfl (ok_dat rfl (ok_dat rfl ⟨[_],_,rfl,⟨_,_,rfl,h1,g.here.room⟩,⟨[_],[],rfl,⟨_,_,rfl,h2⟩,rfl⟩⟩))
theorem expand_ok [Typ.Xt] {P:Nat→Prop} {w:World} {l:List Ch} {vs:List Value} (h:Typ.Ok P w l vs):Typ.Ok P w (expand l) vs:=by
 unfold expand
 split
 ·obtain ⟨x,y,rfl,⟨z,rfl,f⟩,h3⟩:=h
  cases h3
  rw [List.append_nil]
  exact ok_tmCh f
 ·exact h
theorem offs_eq:∀ (l Z:List Ch) (k:Nat),sizesEq l Z=true→offs k l=offs k Z
 | [],[],_,_=>rfl
 | a :: r,b :: q,k,h=>by
   simp only [sizesEq,Bool.and_eq_true] at h
   have e:=Nat.eq_of_beq_eq_true h.1
   simp only [offs,e,offs_eq r q _ h.2]
 | [],_ :: _,_,h=>by simp [sizesEq] at h
 | _ :: _,[],_,h=>by simp [sizesEq] at h
theorem run_field {ty:TypeId} {Z:List Ch} (h:zst ty=some Z) {f off sz:Nat} (ho:(offs 0 Z)[f]?=some (off,sz)) (b o:Nat) (w:World):(Instr.fieldAt ty (.pointer (some ⟨b,o,none⟩)) f).run Tryz.prog w=.ok (.pointer (some ⟨b,o + off,none⟩)) w:=by
 have hlt:f < Z.length:=by
  have:=(List.getElem?_eq_some_iff.1 ho).1
  have hl:∀ (Z:List Ch) (k:Nat),(offs k Z).length=Z.length:=by
   intro Z
   induction Z with
   | nil=>intro k; rfl
   | cons a r ih=>intro k; simp [offs,ih]
  rwa [hl] at this
 rcases zst_cases h with ⟨rfl,rfl⟩ | ⟨rfl,rfl⟩ | ⟨rfl,rfl⟩ | ⟨rfl,rfl⟩
 ·have:f=0∨f=1∨f=2∨f=3∨f=4:=by simp [zTerm] at hlt; omega
  rcases this with rfl | rfl | rfl | rfl | rfl <;> (simp [offs,zTerm,Ch.size,i0C,s0C,nilC] at ho; obtain ⟨rfl,_⟩:=ho; clear h hlt; show _=_; kernel_rfl)
 ·have:f=0∨f=1∨f=2∨f=3∨f=4∨f=5∨f=6∨f=7∨f=8∨f=9∨f=10∨f=11∨f=12∨f=13∨f=14∨f=15∨f=16:=by simp [zInf] at hlt; omega
  rcases this with rfl | rfl | rfl | rfl | rfl | rfl | rfl | rfl | rfl | rfl | rfl | rfl | rfl | rfl | rfl | rfl | rfl <;> (simp [offs,zInf,Ch.size,i0C,s0C,nilC] at ho; obtain ⟨rfl,_⟩:=ho; clear h hlt; show _=_; kernel_rfl)
 ·have:f=0∨f=1∨f=2:=by simp [zRule] at hlt; omega
  rcases this with rfl | rfl | rfl <;> (simp [offs,zRule,Ch.size,i0C,s0C] at ho; obtain ⟨rfl,_⟩:=ho; clear h hlt; show _=_; kernel_rfl)
 ·have:f=0∨f=1∨f=2:=by simp [zSp] at hlt; omega
  rcases this with rfl | rfl | rfl <;> (simp [offs,zSp,Ch.size,i0C] at ho; obtain ⟨rfl,_⟩:=ho; clear h hlt; show _=_; kernel_rfl)
theorem run_load_one {ty:TypeId} (h:scalarT ty=true) {b o:Nat} {v:Value} {w:World} (hc:w.cell? ⟨b,o,none⟩=some v):(Instr.loadAt ty (.pointer (some ⟨b,o,none⟩))).run Tryz.prog w=.ok v w:=by
 unfold scalarT at h
 split at h
 ·rename_i d hu
  have hagg:(isAgg ty).run Tryz.prog w=.ok false w:=by
   unfold isAgg
   rw [Sem.run_bind,run_underlying hu w]
   cases d <;> first | rfl | (simp [isSt] at h)
  simp [Instr.loadAt,Instr.sureAddr,loadVar,Sem.run_bind,hagg,hc]
 ·cases h
theorem arg_dat [Typ.Xt] {P:Nat→Prop} {w:World} {u v:Value} (h:VOk P w false [.dat u] v):v=u:=by
 obtain ⟨vs,⟨x,y,e1,⟨e2,_⟩,e3⟩,⟨e4,_⟩ | ⟨_,e4⟩⟩:=h
 ·cases e4
 ·cases e3
  subst e2
  rw [e4] at e1
  simpa using e1
theorem arg_one [Typ.Xt] {P:Nat→Prop} {w:World} {c:Ch} {v:Value} (h:VOk P w false [c] v):c.Ok P w [v]:=by
 obtain ⟨vs,⟨x,y,e1,e2,e3⟩,⟨e4,_⟩ | ⟨_,e4⟩⟩:=h
 ·cases e4
 ·cases e3
  rw [e4,List.append_nil] at e1
  rw [e1]; exact e2
theorem run_len_ch [Typ.Xt] {P:Nat→Prop} {w:World} {c:Ch} {n:Nat} {ty:TypeId} {v:Value} (h:lenCh c=some n) (hf:lenFits ty c=true) (k:c.Ok P w [v]) (t2:TypeId) (w':World):(Builtin.len_ #[ty] t2 #[v]).run Tryz.prog w'=.ok (.int .i64 n) w':=by
 unfold lenFits at hf
 split at hf
 ·rename_i hu
  unfold isStr at hf
  split at hf
  ·obtain ⟨k1,_⟩:=k
   simp only [List.cons.injEq,and_true] at k1
   simp only [lenCh,Option.some.injEq] at h
   subst k1 h
   simp [Builtin.len_,run_underlying hu,goInt]
  ·cases hf
 ·rename_i e hu
  have hv:∃ lo lc,v=.slice lo n lc:=by
   unfold lenCh at h
   split at h
   ·simp [isStr] at hf
   ·cases h; obtain ⟨lo,lc,e1,_⟩:=k; simp at e1; exact ⟨lo,lc,e1⟩
   ·cases h; obtain ⟨lo,lc,e1,_⟩:=k; simp at e1; exact ⟨lo,lc,e1⟩
   ·cases h; obtain ⟨lo,lc,e1,_⟩:=k; simp at e1; exact ⟨lo,lc,e1⟩
   ·cases h; obtain ⟨lo,lc,e1,_⟩:=k; simp at e1; exact ⟨lo,lc,e1⟩
   ·cases h; obtain ⟨lo,lc,e1,_⟩:=k; simp at e1; exact ⟨lo,lc,e1⟩
   ·cases h; obtain ⟨lo,lc,e1,_⟩:=k; simp at e1; exact ⟨lo,lc,e1⟩
   ·cases h; obtain ⟨lo,lc,e1,_⟩:=k; simp at e1; exact ⟨lo,lc,e1⟩
   ·cases h; obtain ⟨lo,lc,e1,_⟩:=k; simp at e1; exact ⟨lo,lc,e1⟩
   ·cases h; obtain ⟨e1,_⟩:=k; simp at e1; exact ⟨none,0,e1⟩
   ·cases h
  obtain ⟨lo,lc,rfl⟩:=hv
  simp [Builtin.len_,run_underlying hu,goInt]
 ·cases hf
theorem VOks.turn [Typ.Xt] {P P':Nat→Prop} {w w':World} {xs:List (Option Sl)} {vs:List Value} (h:VOks P w xs vs) (hr:RanX P w w') (hP:∀ q,P' q→P q∨w.heap.size≤q):VOks P' w' xs vs:=by
 induction xs generalizing vs with
 | nil=>exact h
 | cons x r ih =>
   obtain ⟨v,y,h1,h2,h3⟩:=h
   exact ⟨v,y,h1,fun s l e=>(h2 s l e).turn hr hP,ih h3⟩
end Typ
end Go.Proofs.YtmngddomnaaedaaGreat
