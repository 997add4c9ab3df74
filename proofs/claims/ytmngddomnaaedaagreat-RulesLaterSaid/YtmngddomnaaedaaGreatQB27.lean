/-
 How structs and rows are built of parts whose shapes are known.
-/
import Derived.Lib.Hide
import Derived.Test.YtmngddomnaaedaaGreatQB26
open Go.Lib (hid)
set_option maxRecDepth 100000
set_option maxHeartbeats 32000000
namespace Go.Proofs.YtmngddomnaaedaaGreat
open Go.RowKit Go.Shelf Go.Maps Lvl Trm Env
namespace Typ
theorem splice (A X C:List Value) (v:Value) (hv:v.cells.size=X.length) :
 (v.cells.toList.zipIdx 0).foldl (fun cs (x:Value × Nat)=>cs.setIfInBounds (A.length + x.2) x.1) (A ++ (X ++ C)).toArray=(A ++ (v.cells.toList ++ C)).toArray:=by
 obtain ⟨g1,g2⟩:=Great.foldl_set A.length v.cells.toList 0 (A ++ (X ++ C)).toArray
 have hsz:(A ++ (X ++ C)).toArray.size=A.length + (X.length + C.length):=by simp
 have hvl:v.cells.toList.length=X.length:=by simp [hv]
 have e1:∀ (Y:List Value) (k:Nat),(A ++ (Y ++ C)).toArray[k]?=(A ++ (Y ++ C))[k]?:=fun Y k=>by simp
 apply Array.ext_getElem?
 intro k
 rw [g2 k,hsz,hvl,Nat.add_zero,e1,e1]
 by_cases h1:k < A.length
 ·rw [if_neg (by omega),List.getElem?_append_left h1,List.getElem?_append_left h1]
 ·by_cases h2:k < A.length + X.length
  ·rw [if_pos ⟨by omega,by omega,by omega⟩,List.getElem?_append_right (by omega),List.getElem?_append_left (by omega)]
  ·rw [if_neg (by omega),List.getElem?_append_right (by omega),List.getElem?_append_right (by omega),List.getElem?_append_right (by omega),List.getElem?_append_right (by omega),hvl]
def offs:Nat→List Ch→List (Nat × Nat)
 | _,[]=>[]
 | k,c :: r=>(k,c.size) :: offs (k + c.size) r
theorem offs_get:∀ (A:List Ch) (c:Ch) (C:List Ch) (k:Nat),(offs k (A ++ c :: C))[A.length]?=some (k + tot A,c.size)
 | [],c,C,k=>by simp [offs,tot]
 | d :: A,c,C,k=>by
   simp only [List.cons_append,offs,List.length_cons,List.getElem?_cons_succ]
   rw [offs_get A c C (k + d.size)]
   simp only [tot,Option.some.injEq,Prod.mk.injEq,and_true]
   omega
theorem offs_set:∀ (A:List Ch) (c d:Ch) (C:List Ch) (k:Nat),c.size=d.size→offs k (A ++ c :: C)=offs k (A ++ d :: C)
 | [],c,d,C,k,h=>by simp [offs,h]
 | x :: A,c,d,C,k,h=>by
   simp only [List.cons_append,offs]
   rw [offs_set A c d C _ h]
def conv (z:Ch) (s:Bool) (l:List Ch):Option Ch:=match z,s,l with
 | .tm _,true,l=>match toTm l with
   | some t=>some (.tm t)
   | none=>none
 | .dat _,false,[c]=>if c.size.beq 1 then some c else none
 | _,_,_=>none
theorem conv_ok [Typ.Xt] {P:Nat→Prop} {w:World} {z c:Ch} {s:Bool} {l:List Ch} {v:Value} (h:conv z s l=some c) (k:VOk P w s l v):c.Ok P w v.cells.toList∧c.size=z.size:=by
 have hc:=k.cells
 unfold conv at h
 split at h
 ·split at h
  ·rename_i ht
   cases h
   exact ⟨toTm_ok ht hc,rfl⟩
  ·cases h
 ·split at h
  ·rename_i hs
   cases h
   obtain ⟨x,y,h1,h2,h3⟩:=hc
   cases h3
   rw [List.append_nil] at h1
   exact ⟨by rw [h1]; exact h2,Nat.eq_of_beq_eq_true hs⟩
  ·cases h
 ·cases h
inductive RK
 | tms | lvs | rls | infs | spines | tmss | strs
inductive Sl
 | val (s:Bool) (l:List Ch)
 | tup (r:List (Bool × List Ch))
 | box (ty:TypeId) (n:Nat)
 | var (ty:TypeId) (l:List Ch)
 | mvar (ty:TypeId) (l:List Ch)
 | fld (s:Bool) (ty:TypeId) (l:List Ch)
 | mfld (t:Nat) (ty:TypeId) (o:Nat)
 | own (k:RK) (els:List (List Ch))
 | any
def sets:List Nat→List (Option Sl)→List Ch→Option (List Ch)
 | [],[],Z=>some Z
 | i :: is,some (.val s l) :: xs,Z=>match Z[i]? with
   | none=>none
   | some z=>match conv z s l with
     | none=>none
     | some c=>sets is xs (Z.set i c)
 | _,_,_=>none
def VOks [Typ.Xt] (P:Nat→Prop) (w:World):List (Option Sl)→List Value→Prop
 | [],vs=>vs=[]
 | x :: r,vs=>∃ v y,vs=v :: y∧(∀ s l,x=some (.val s l)→VOk P w s l v)∧VOks P w r y
theorem fill_ok [Typ.Xt] {P:Nat→Prop} {w:World}:∀ (is:List Nat) (xs:List (Option Sl)) (Z Z':List Ch) (zs vs:List Value) (F:Nat→Option (Nat × Nat)),sets is xs Z=some Z'→(∀ i,F i=(offs 0 Z)[i]?)→Ok P w Z zs→VOks P w xs vs →
 ∃ rs,Instr.fill F zs.toArray (is.zip vs)=some rs.toArray∧Ok P w Z' rs
 | [],[],Z,Z',zs,vs,F,h,_,hz,hv=>by
   simp only [sets,Option.some.injEq] at h
   subst h
   exact ⟨zs,rfl,hz⟩
 | i :: is,some (.val s l) :: xs,Z,Z',zs,_,F,h,hF,hz,⟨v,y,rfl,hv,hr⟩=>by
   unfold sets at h
   cases hi:Z[i]? with
   | none=>simp [hi] at h
   | some z =>
     simp only [hi] at h
     cases hc:conv z s l with
     | none=>simp [hc] at h
     | some c =>
       simp only [hc] at h
       obtain ⟨h1,h2⟩:=conv_ok hc (hv s l rfl)
       obtain ⟨hlt,hzi⟩:=List.getElem?_eq_some_iff.1 hi
       have hsp:Z=Z.take i ++ z :: Z.drop (i + 1):=by rw [← hzi,← List.drop_eq_getElem_cons hlt,List.take_append_drop]
       have hst:Z.set i c=Z.take i ++ c :: Z.drop (i + 1):=by rw [List.set_eq_take_append_cons_drop,if_pos hlt]
       have hti:(Z.take i).length=i:=by rw [List.length_take]; omega
       rw [hsp] at hz
       obtain ⟨A,B,rfl,hA,X,C,rfl,hX,hC⟩:=Ok.append.1 hz
       have hlA:=hA.len.1
       have hlX:=hX.len.1
       have hsz:v.cells.size=X.length:=by have:=h1.len.1; rw [Array.length_toList] at this; omega
       have hoff:F i=some (A.length,v.cells.size):=by
        have:=offs_get (Z.take i) z (Z.drop (i + 1)) 0
        rw [hti,← hsp] at this
        rw [hF,this,hlA,hsz,hlX,Nat.zero_add]
       obtain ⟨rs,g1,g2⟩:=fill_ok is xs (Z.set i c) Z' (A ++ (v.cells.toList ++ C)) y F h (fun k=>by rw [hF,hst,← offs_set (Z.take i) z c _ 0 h2.symm,← hsp]) (by rw [hst]; exact Ok.append.2 ⟨A,_,rfl,hA,_,C,rfl,h1,hC⟩) hr
       refine ⟨rs,?_,g2⟩
       rw [List.zip_cons_cons]
       unfold Instr.fill
       rw [hoff]
       simp only [ne_eq,not_true_eq_false]
       rw [if_neg (by simp; omega)]
       rw [← g1]
       congr 1
       rw [← Array.foldl_toList,Array.toList_zipIdx]
       exact splice A X C v hsz
 | [],_ :: _,_,_,_,_,_,h,_,_,_=>by simp [sets] at h
 | _ :: _,[],_,_,_,_,_,h,_,_,_=>by simp [sets] at h
 | _ :: _,none :: _,_,_,_,_,_,h,_,_,_=>by simp [sets] at h
 | _ :: _,some (.box _ _) :: _,_,_,_,_,_,h,_,_,_=>by simp [sets] at h
 | _ :: _,some (.var _ _) :: _,_,_,_,_,_,h,_,_,_=>by simp [sets] at h
 | _ :: _,some (.mvar _ _) :: _,_,_,_,_,_,h,_,_,_=>by simp [sets] at h
 | _ :: _,some (.fld _ _ _) :: _,_,_,_,_,_,h,_,_,_=>by simp [sets] at h
 | _ :: _,some (.tup _) :: _,_,_,_,_,_,h,_,_,_=>by simp [sets] at h
 | _ :: _,some (.any) :: _,_,_,_,_,_,h,_,_,_=>by simp [sets] at h
 | _ :: _,some (.mfld _ _ _) :: _,_,_,_,_,_,h,_,_,_=>by simp [sets] at h
 | _ :: _,some (.own _ _) :: _,_,_,_,_,_,h,_,_,_=>by simp [sets] at h
def nilC:Ch:=.dat (.slice none 0 0)
def i0C:Ch:=.dat (.int .i64 0)
def s0C:Ch:=.dat (.string ⟨#[]⟩)
def zTerm:List Ch:=[.dat (.int .u8 0),i0C,s0C,nilC,nilC]
def zRule:List Ch:=[s0C,i0C,.tm zeroT]
def zSp:List Ch:=[.tm zeroT,i0C,.dat .nilFunc]
def zInf:List Ch:=[.dat (.int .u8 0),s0C,i0C,.tm zeroT,.tm zeroT,i0C,s0C,s0C,i0C,i0C,i0C,i0C,i0C,i0C,nilC,i0C,.dat (.bool false)]
def zst (ty:TypeId):Option (List Ch):=if Nat.beq ty 25 then some zTerm else if Nat.beq ty 53 then some zInf else if Nat.beq ty 64 then some zRule else if Nat.beq ty 91 then some zSp else none
def zc:List Ch→List Value
 | []=>[]
 | .dat v :: r=>v :: zc r
 | .tm t :: r=>Env.five t zHd ++ zc r
 | .lv l :: r=>l.list5 ++ zc r
 | _ :: r=>zc r
theorem zst_cases {ty:TypeId} {Z:List Ch} (h:zst ty=some Z):(ty=25∧Z=zTerm)∨(ty=53∧Z=zInf)∨(ty=64∧Z=zRule)∨(ty=91∧Z=zSp):=by
 unfold zst at h
 split at h
 ·rename_i hb; cases h; exact Or.inl ⟨Nat.eq_of_beq_eq_true hb,rfl⟩
 ·split at h
  ·rename_i hb; cases h; exact Or.inr (Or.inl ⟨Nat.eq_of_beq_eq_true hb,rfl⟩)
  ·split at h
   ·rename_i hb; cases h; exact Or.inr (Or.inr (Or.inl ⟨Nat.eq_of_beq_eq_true hb,rfl⟩))
   ·split at h
    ·rename_i hb; cases h; exact Or.inr (Or.inr (Or.inr ⟨Nat.eq_of_beq_eq_true hb,rfl⟩))
    ·cases h
theorem ok_dat [Typ.Xt] {P:Nat→Prop} {w:World} {v:Value} {l:List Ch} {vs:List Value} (h1:v.oneCell'=true) (h:Ok P w l vs):Ok P w (.dat v :: l) (v :: vs):=⟨[v],vs,rfl,⟨rfl,h1⟩,h⟩
theorem ok_zt [Typ.Xt] {P:Nat→Prop} {w:World} {l:List Ch} {vs:List Value} (h:Ok P w l vs):Ok P w (.tm zeroT :: l) (Env.five zeroT zHd ++ vs):=⟨Env.five zeroT zHd,vs,rfl,⟨zHd,rfl,firm_zero⟩,h⟩
theorem zc_ok [Typ.Xt] {ty:TypeId} {Z:List Ch} (h:zst ty=some Z) (P:Nat→Prop) (w:World):Ok P w Z (zc Z):=by
 rcases zst_cases h with ⟨_,rfl⟩ | ⟨_,rfl⟩ | ⟨_,rfl⟩ | ⟨_,rfl⟩
 ·exact ok_dat rfl (ok_dat rfl (ok_dat rfl (ok_dat rfl (ok_dat rfl rfl))))
 ·exact ok_dat rfl (ok_dat rfl (ok_dat rfl (ok_zt (ok_zt (ok_dat rfl (ok_dat rfl (ok_dat rfl (ok_dat rfl (ok_dat rfl (ok_dat rfl (ok_dat rfl (ok_dat rfl (ok_dat rfl (ok_dat rfl (ok_dat rfl (ok_dat rfl rfl))))))))))))))))
 ·exact ok_dat rfl (ok_dat rfl (ok_zt rfl))
 ·exact ok_zt (ok_dat rfl (ok_dat rfl rfl))
theorem built_of {ty:TypeId} {Z:List Ch} (h:zst ty=some Z) (parts:List (Nat × Value)):Tryz.prog.built ty parts=Instr.fill ((offs 0 Z).toArray[·]?) (zc Z).toArray parts:=by
 rcases zst_cases h with ⟨rfl,rfl⟩ | ⟨rfl,rfl⟩ | ⟨rfl,rfl⟩ | ⟨rfl,rfl⟩ <;> kernel_rfl
def isSt:TypeDesc→Bool
 | .struct _ | .array _ _=>true
 | _=>false
theorem ty_st {ty:TypeId} {Z:List Ch} (h:zst ty=some Z):∃ d,Tryz.prog.underlying ty=some d∧(match d with | .struct _ | .array _ _=>true | _=>false)=true:=by
 have h2:(Tryz.prog.underlying ty).map isSt=some true:=by rcases zst_cases h with ⟨rfl,rfl⟩ | ⟨rfl,rfl⟩ | ⟨rfl,rfl⟩ | ⟨rfl,rfl⟩ <;> kernel_rfl
 cases hu:Tryz.prog.underlying ty with
 | none=>simp [hu] at h2
 | some d =>
   rw [hu] at h2
   refine ⟨d,rfl,?_⟩
   cases d <;> first | rfl | (simp [isSt] at h2)
theorem ty_size {ty:TypeId} {Z:List Ch} (h:zst ty=some Z):(Tryz.prog.info? ty).map (·.size)=some (tot Z):=by
 rcases zst_cases h with ⟨rfl,rfl⟩ | ⟨rfl,rfl⟩ | ⟨rfl,rfl⟩ | ⟨rfl,rfl⟩ <;> kernel_rfl
theorem run_alloc_st {ty:TypeId} {Z:List Ch} (h:zst ty=some Z) (w:World):(Instr.alloc ty true (.tuple #[])).run Tryz.prog w=.ok (.pointer (some ⟨w.heap.size,0,none⟩)) (w.alloc (.cells (zc Z).toArray ty)):=by
 rcases zst_cases h with ⟨rfl,rfl⟩ | ⟨rfl,rfl⟩ | ⟨rfl,rfl⟩ | ⟨rfl,rfl⟩ <;> kernel_rfl
def RK.elem:RK→TypeId
 | .tms=>25
 | .lvs=>35
 | .rls=>64
 | .infs=>53
 | .spines=>91
 | .tmss=>23
 | .strs=>9
def RK.size:RK→Nat
 | .tms=>5
 | .lvs=>5
 | .rls=>7
 | .infs=>25
 | .spines=>7
 | .tmss=>1
 | .strs=>1
def rkOf (ty:TypeId):Option RK:=if Nat.beq ty 23 then some .tms else if Nat.beq ty 22 then some .lvs else if Nat.beq ty 51 then some .rls else if Nat.beq ty 59 then some .infs else if Nat.beq ty 131 then some .spines else if Nat.beq ty 141 then some .tmss else if Nat.beq ty 60 then some .strs else none
theorem rk_under {ty:TypeId} {k:RK} (h:rkOf ty=some k):Tryz.prog.underlying ty=some (.slice k.elem):=by
 unfold rkOf at h
 split at h
 ·rename_i hb; cases h; cases Nat.eq_of_beq_eq_true hb; kernel_rfl
 ·split at h
  ·rename_i hb; cases h; cases Nat.eq_of_beq_eq_true hb; kernel_rfl
  ·split at h
   ·rename_i hb; cases h; cases Nat.eq_of_beq_eq_true hb; kernel_rfl
   ·split at h
    ·rename_i hb; cases h; cases Nat.eq_of_beq_eq_true hb; kernel_rfl
    ·split at h
     ·rename_i hb; cases h; cases Nat.eq_of_beq_eq_true hb; kernel_rfl
     ·split at h
      ·rename_i hb; cases h; cases Nat.eq_of_beq_eq_true hb; kernel_rfl
      ·split at h
       ·rename_i hb; cases h; cases Nat.eq_of_beq_eq_true hb; kernel_rfl
       ·cases h
theorem rk_info (k:RK):∃ ie z,Tryz.prog.info? k.elem=some ie∧ie.zero=some z∧ie.size=k.size∧z.cells.size=k.size:=by
 have h:(Tryz.prog.info? k.elem).map (fun ie=>(ie.size,ie.zero.map (fun z=>z.cells.size)))=some (k.size,some k.size):=by cases k <;> kernel_rfl
 cases hi:Tryz.prog.info? k.elem with
 | none=>simp [hi] at h
 | some ie =>
   simp only [hi,Option.map_some,Option.some.injEq,Prod.mk.injEq] at h
   obtain ⟨h1,h2⟩:=h
   cases hz:ie.zero with
   | none=>simp [hz] at h2
   | some z =>
     simp only [hz,Option.map_some,Option.some.injEq] at h2
     exact ⟨ie,z,rfl,hz,h1,h2⟩
def vmap {α:Type} (f:List Ch→Option α):List (Option Sl)→Option (List α)
 | []=>some []
 | some (.val true l) :: r=>match f l,vmap f r with
   | some x,some xs=>some (x :: xs)
   | _,_=>none
 | _=>none
def toSp:List Ch→Option (Tm × Int × List Tm)
 | [.tm h,.dat (.int .i64 n),.cut l]=>some (h,n,l)
 | _=>none
theorem toSp_ok [Typ.Xt] {P:Nat→Prop} {w:World} {l:List Ch} {t:Tm × Int × List Tm} {vs:List Value} (h:toSp l=some t) (k:Ok P w l vs):∃ x c,vs=Env.five t.1 x ++ [.int .i64 t.2.1,c]∧FirmS P w t.1 x∧CutOk P w t.2.2 c:=by
 unfold toSp at h
 split at h
 ·cases h
  obtain ⟨x0,y0,rfl,⟨z,rfl,f⟩,x1,y1,rfl,⟨rfl,_⟩,x2,y2,rfl,⟨v,rfl,k2⟩,rfl⟩:=k
  exact ⟨z,v,by simp,f,k2⟩
 ·cases h
def tmapss:List (Option Sl)→Option (List (List Tm))
 | []=>some []
 | some (.val false [c]) :: r=>match asTms c,tmapss r with
   | some x,some xs=>some (x :: xs)
   | _,_=>none
 | _=>none
def normI:List Ch→Option (Inf × Bool)
 | [.dat (.int .u8 kind),.dat (.string name),.dat (.int .i64 params),.tm ty,.tm va,.dat (.int .i64 height),.dat (.string block),.dat (.string of_),.dat (.int .i64 fixed),.dat (.int .i64 index),.dat (.int .i64 no),.dat (.int .i64 fields),.dat (.int .i64 motives),.dat (.int .i64 minors),r,.dat (.int .i64 ctors),.dat (.bool record)]=>match asRls r with
   | some rules=>some (⟨kind,name,params,ty,va,height,block,of_,fixed,index,no,fields,motives,minors,rules,ctors,record⟩,decide (0≤kind) && decide (kind≤255) && decide (name.size≤9223372036854775807) && decide (rules.length≤9223372036854775807))
   | none=>none
 | _=>none
theorem normI_toInf {l:List Ch} {t:Inf} (h:normI l=some (t,true)):toInf l=some t:=by
 unfold normI at h
 split at h
 ·split at h
  ·rename_i ha
   simp only [Option.some.injEq,Prod.mk.injEq] at h
   obtain ⟨rfl,h2⟩:=h
   unfold toInf
   simp only [ha]
   rw [if_pos h2]
  ·cases h
 ·cases h
def mkRow (k:RK) (xs:List (Option Sl)):Option Ch:=match k with
 | .tms=>(vmap toTm xs).map .tms
 | .lvs=>(vmap toLv xs).map .lvs
 | .rls=>(vmap toRl xs).map .rls
 | .infs=>(vmap toInf xs).map .infs
 | .spines=>(vmap toSp xs).map .spines
 | .tmss=>(tmapss xs).map .tmss
 | .strs=>none
def mkRowN (k:RK) (xs:List (Option Sl)):Option (Ch × Bool):=match k,xs with
 | .infs,[some (.val true l)]=>match normI l with
   | some (x,f)=>some (.infs [x],f)
   | none=>none
 | k,xs=>match mkRow k xs with
   | some c=>some (c,true)
   | none=>none
theorem mkRowN_ok {k:RK} {xs:List (Option Sl)} {c:Ch} (h:mkRowN k xs=some (c,true)):mkRow k xs=some c:=by
 unfold mkRowN at h
 split at h
 ·split at h
  ·rename_i x f hx
   simp only [Option.some.injEq,Prod.mk.injEq] at h
   obtain ⟨rfl,rfl⟩:=h
   simp [mkRow,vmap,normI_toInf hx]
  ·cases h
 ·split at h
  ·rename_i hc
   simp only [Option.some.injEq,Prod.mk.injEq,and_true] at h
   rw [← h]; exact hc
  ·cases h
theorem vmap_ok [Typ.Xt] {P:Nat→Prop} {w:World} {α:Type} {f:List Ch→Option α} {R:α→List Value→Prop} (hf:∀ l x vs,f l=some x→Ok P w l vs→R x vs):∀ (xs:List (Option Sl)) (vs:List Value) (ys:List α),vmap f xs=some ys→VOks P w xs vs →
 vs.length=ys.length∧∀ i (hi:i < ys.length) (hv:i < vs.length),R ys[i] vs[i].cells.toList
 | [],vs,ys,h,hv=>by
   cases hv
   simp only [vmap,Option.some.injEq] at h
   subst h
   exact ⟨rfl,fun i hi=>by simp at hi⟩
 | some (.val true l) :: r,_,ys,h,⟨v,y,rfl,hv,hr⟩=>by
   unfold vmap at h
   split at h
   ·rename_i x xs hx hxs
    cases h
    obtain ⟨h1,h2⟩:=vmap_ok hf r y xs hxs hr
    refine ⟨by simp [h1],fun i hi hiv=>?_⟩
    cases i with
    | zero=>exact hf l x _ hx (hv true l rfl).cells
    | succ i=>exact h2 i (by simpa using hi) (by simpa using hiv)
   ·cases h
 | some (.val false _) :: _,_,_,h,_=>by simp [vmap] at h
 | none :: _,_,_,h,_=>by simp [vmap] at h
 | some (.box _ _) :: _,_,_,h,_=>by simp [vmap] at h
 | some (.var _ _) :: _,_,_,h,_=>by simp [vmap] at h
 | some (.mvar _ _) :: _,_,_,h,_=>by simp [vmap] at h
 | some (.fld _ _ _) :: _,_,_,h,_=>by simp [vmap] at h
 | some (.tup _) :: _,_,_,h,_=>by simp [vmap] at h
 | some (.any) :: _,_,_,h,_=>by simp [vmap] at h
 | some (.mfld _ _ _) :: _,_,_,h,_=>by simp [vmap] at h
 | some (.own _ _) :: _,_,_,h,_=>by simp [vmap] at h
theorem tmapss_ok [Typ.Xt] {P:Nat→Prop} {w:World}:∀ (xs:List (Option Sl)) (vs:List Value) (ys:List (List Tm)),tmapss xs=some ys→VOks P w xs vs →
 vs.length=ys.length∧∀ i (hi:i < ys.length) (hv:i < vs.length),∃ lo lc,vs[i]=.slice lo ys[i].length lc∧RowP P w lo ys[i]
 | [],vs,ys,h,hv=>by
   cases hv
   simp only [tmapss,Option.some.injEq] at h
   subst h
   exact ⟨rfl,fun i hi=>by simp at hi⟩
 | some (.val false [c]) :: r,_,ys,h,⟨v,y,rfl,hv,hr⟩=>by
   unfold tmapss at h
   split at h
   ·rename_i x xs hx hxs
    cases h
    obtain ⟨h1,h2⟩:=tmapss_ok r y xs hxs hr
    refine ⟨by simp [h1],fun i hi hiv=>?_⟩
    cases i with
    | zero =>
      obtain ⟨vs,⟨a,b,e1,e2,e3⟩,⟨e4,_⟩ | ⟨_,e4⟩⟩:=hv false [c] rfl
      ·cases e4
      ·cases e3
       rw [List.append_nil,e4] at e1
       subst e1
       obtain ⟨lo,lc,e5,e6⟩:=asTms_ok hx e2
       simp only [List.cons.injEq,and_true] at e5
       exact ⟨lo,lc,e5,e6⟩
    | succ i=>exact h2 i (by simpa using hi) (by simpa using hiv)
   ·cases h
 | some (.val true _) :: _,_,_,h,_=>by simp [tmapss] at h
 | some (.val false []) :: _,_,_,h,_=>by simp [tmapss] at h
 | some (.val false (_ :: _ :: _)) :: _,_,_,h,_=>by simp [tmapss] at h
 | none :: _,_,_,h,_=>by simp [tmapss] at h
 | some (.box _ _) :: _,_,_,h,_=>by simp [tmapss] at h
 | some (.var _ _) :: _,_,_,h,_=>by simp [tmapss] at h
 | some (.mvar _ _) :: _,_,_,h,_=>by simp [tmapss] at h
 | some (.fld _ _ _) :: _,_,_,h,_=>by simp [tmapss] at h
 | some (.tup _) :: _,_,_,h,_=>by simp [tmapss] at h
 | some (.any) :: _,_,_,h,_=>by simp [tmapss] at h
 | some (.mfld _ _ _) :: _,_,_,h,_=>by simp [tmapss] at h
 | some (.own _ _) :: _,_,_,h,_=>by simp [tmapss] at h
theorem flat_range {w:World} {g s:Nat} {ty:TypeId} {fr:Nat × Nat} (hs:0 < s) (vs:List Value) (h1:∀ v ∈ vs,v.cells.size=s) (hg:w.heap[g]?=some (.cells (vs.flatMap fun v=>v.cells.toList).toArray ty fr)) (i:Nat) (hi:i < vs.length):w.rangeAt g (0 + i * s) vs[i].cells.toList:=fun j v hv=>by
 have hj:j < s:=by
  have:=(List.getElem?_eq_some_iff.1 hv).1
  rw [Array.length_toList,h1 _ (List.getElem_mem hi)] at this
  exact this
 have e:w.cell? ⟨g,0 + i * s + j,none⟩=(vs.flatMap fun v=>v.cells.toList)[0 + i * s + j]?:=by simp [World.cell?,hg]
 rw [e,Great.flat_get hs vs h1,show (0 + i * s + j) / s=i by rw [Nat.zero_add,Nat.mul_comm,Nat.mul_add_div hs,Nat.div_eq_of_lt hj,Nat.add_zero],show (0 + i * s + j) % s=j by rw [Nat.zero_add,Nat.mul_comm,Nat.mul_add_mod,Nat.mod_eq_of_lt hj],List.getElem?_eq_getElem hi]
 simpa using hv
theorem cells_of_range {w:World} {b o:Nat} {t:Tm} {h:Hd} (r:w.rangeAt b o (Env.five t h)):TCells w b o t h:=⟨by have:=r 0 _ rfl; rwa [Nat.add_zero] at this,r 1 _ rfl,r 2 _ rfl,r 3 _ rfl,r 4 _ rfl⟩
theorem mkRow_ok [Typ.Xt] {P:Nat→Prop} {w:World} {k:RK} {xs:List (Option Sl)} {c:Ch} {vs:List Value} {g:Nat} {ty:TypeId} {fr:Nat × Nat} (h:mkRow k xs=some c) (hv:VOks P w xs vs) (hg:w.heap[g]?=some (.cells (vs.flatMap fun v=>v.cells.toList).toArray ty fr)) (hn:¬ P g) :
 (∀ v ∈ vs,v.cells.size=k.size)∧c.Ok P w [.slice (some ⟨g,0,none⟩) vs.length vs.length]:=by
 have hlt:g < w.heap.size:=(Array.getElem?_eq_some_iff.1 hg).1
 have all_of:∀ {s:Nat} {n:Nat},vs.length=n→(∀ i (_:i < n) (hi2:i < vs.length),vs[i].cells.toList.length=s)→∀ v ∈ vs,v.cells.size=s:=fun hl hh v hm=>by
  obtain ⟨i,hi,rfl⟩:=List.mem_iff_getElem.1 hm
  have:=hh i (by omega) hi
  rwa [Array.length_toList] at this
 unfold mkRow at h
 cases k with
 | tms =>
   cases hm:vmap toTm xs with
   | none=>simp [hm] at h
   | some ys =>
     rw [hm] at h
     cases h
     obtain ⟨h1,h2⟩:=vmap_ok (R:=fun t vs=>∃ x,vs=Env.five t x∧FirmS P w t x) (fun l x vs hx ho=>toTm_ok hx ho) xs vs ys hm hv
     have h3:=all_of (s:=5) h1 (fun i hi hi2=>by obtain ⟨x,e,_⟩:=h2 i hi hi2; rw [e]; rfl)
     refine ⟨h3,_,_,by rw [h1],fun i hi=>?_⟩
     obtain ⟨x,e,f⟩:=h2 i hi (by omega)
     have:=flat_range (by decide) vs h3 hg i (by omega)
     rw [e] at this
     exact ⟨g,0,rfl,hlt,hn,x,cells_of_range this,f⟩
 | lvs =>
   cases hm:vmap toLv xs with
   | none=>simp [hm] at h
   | some ys =>
     rw [hm] at h
     cases h
     obtain ⟨h1,h2⟩:=vmap_ok (R:=fun t vs=>vs=t.list5) (fun l x vs hx ho=>toLv_ok hx ho) xs vs ys hm hv
     have h3:=all_of (s:=5) h1 (fun i hi hi2=>by rw [h2 i hi hi2]; rfl)
     refine ⟨h3,_,_,by rw [h1],⟨fun i hi=>?_⟩,by first | exact Nat.le_refl _ | omega⟩
     have:=flat_range (by decide) vs h3 hg i (by omega)
     rw [h2 i hi (by omega)] at this
     exact ⟨g,0,rfl,hlt,hn,this⟩
 | rls =>
   cases hm:vmap toRl xs with
   | none=>simp [hm] at h
   | some ys =>
     rw [hm] at h
     cases h
     obtain ⟨h1,h2⟩:=vmap_ok (R:=fun t vs=>∃ x,vs=t.vals x∧FirmS P w t.body x) (fun l x vs hx ho=>toRl_ok hx ho) xs vs ys hm hv
     have h3:=all_of (s:=7) h1 (fun i hi hi2=>by obtain ⟨x,e,_⟩:=h2 i hi hi2; rw [e]; rfl)
     refine ⟨h3,_,_,by rw [h1],⟨fun i hi=>?_⟩⟩
     obtain ⟨x,e,f⟩:=h2 i hi (by omega)
     have:=flat_range (by decide) vs h3 hg i (by omega)
     rw [e] at this
     exact ⟨g,0,x,rfl,hlt,hn,this,f⟩
 | infs =>
   cases hm:vmap toInf xs with
   | none=>simp [hm] at h
   | some ys =>
     rw [hm] at h
     cases h
     obtain ⟨h1,h2⟩:=vmap_ok (R:=fun t vs=>∃ x,vs=t.vals x∧FirmI P w t x) (fun l x vs hx ho=>toInf_ok hx ho) xs vs ys hm hv
     have h3:=all_of (s:=25) h1 (fun i hi hi2=>by obtain ⟨x,e,_⟩:=h2 i hi hi2; rw [e]; rfl)
     refine ⟨h3,_,_,by rw [h1],⟨fun i hi=>?_⟩⟩
     obtain ⟨x,e,f⟩:=h2 i hi (by omega)
     have:=flat_range (by decide) vs h3 hg i (by omega)
     rw [e] at this
     exact ⟨g,0,x,rfl,hlt,hn,this,f⟩
 | spines =>
   cases hm:vmap toSp xs with
   | none=>simp [hm] at h
   | some ys =>
     rw [hm] at h
     cases h
     obtain ⟨h1,h2⟩:=vmap_ok (R:=fun (t:Tm × Int × List Tm) vs=>∃ x c,vs=Env.five t.1 x ++ [.int .i64 t.2.1,c]∧FirmS P w t.1 x∧CutOk P w t.2.2 c) (fun l x vs hx ho=>toSp_ok hx ho) xs vs ys hm hv
     have h3:=all_of (s:=7) h1 (fun i hi hi2=>by obtain ⟨x,c,e,_⟩:=h2 i hi hi2; rw [e]; rfl)
     refine ⟨h3,_,_,by rw [h1],⟨fun i hi=>?_⟩⟩
     obtain ⟨x,c,e,f,k⟩:=h2 i hi (by omega)
     have:=flat_range (by decide) vs h3 hg i (by omega)
     rw [e] at this
     exact ⟨g,0,x,c,rfl,hlt,hn,this,f,k⟩
 | tmss =>
   cases hm:tmapss xs with
   | none=>simp [hm] at h
   | some ys =>
     rw [hm] at h
     cases h
     obtain ⟨h1,h2⟩:=tmapss_ok xs vs ys hm hv
     have h3:∀ v ∈ vs,v.cells.size=1:=fun v hm=>by
      obtain ⟨i,hi,rfl⟩:=List.mem_iff_getElem.1 hm
      obtain ⟨lo,lc,e,_⟩:=h2 i (by omega) hi
      rw [e]; rfl
     refine ⟨h3,_,_,by rw [h1],⟨fun i hi=>?_⟩⟩
     obtain ⟨lo,lc,e,f⟩:=h2 i hi (by omega)
     have:=flat_range (by decide) vs h3 hg i (by omega)
     rw [e] at this
     exact ⟨g,0,lo,lc,rfl,hlt,hn,by have h4:=this 0 _ rfl; simpa using h4,f⟩
 | strs=>simp at h
def isRange:Nat→List Nat→Bool
 | _,[]=>true
 | k,i :: r=>i.beq k && isRange (k + 1) r
theorem zip_range:∀ (is:List Nat) (vs:List Value) (k:Nat),isRange k is=true→is.length=vs.length→is.zip vs=(vs.zipIdx k).map fun x=>(x.2,x.1)
 | [],[],_,_,_=>rfl
 | i :: is,v :: vs,k,h,hl=>by
   simp only [isRange,Bool.and_eq_true] at h
   obtain ⟨h1,h2⟩:=h
   cases Nat.eq_of_beq_eq_true h1
   rw [List.zip_cons_cons,List.zipIdx_cons,List.map_cons,zip_range is vs (i + 1) h2 (by simpa using hl)]
 | [],_ :: _,_,_,hl=>by simp at hl
 | _ :: _,[],_,_,hl=>by simp at hl
theorem run_row {ty:TypeId} {k:RK} (hk:rkOf ty=some k) {is:List Nat} {vs:List Value} (hr:isRange 0 is=true) (hl:is.length=vs.length) (h0:0 < vs.length) (hm:vs.length≤1000) (hs:∀ v ∈ vs,v.cells.size=k.size) (w:World) :
 (Instr.buildSlice ty vs.length (is.zip vs).toArray).run Tryz.prog w=.ok (.slice (some ⟨w.heap.size,0,none⟩) vs.length vs.length) (w.alloc (.cells (vs.flatMap fun v=>v.cells.toList).toArray k.elem)):=by
 obtain ⟨ie,z,h1,h2,h3,h4⟩:=rk_info k
 have hk1:0 < k.size∧k.size≤25:=by cases k <;> decide
 have hb:vs.length * k.size≤1000 * 25:=Nat.mul_le_mul hm hk1.2
 have hp:0 < vs.length * k.size:=Nat.mul_pos h0 hk1.1
 refine run_buildSlice w ty k.elem vs.length _ _ ie z (rk_under hk) h1 h2 (by rw [h3]; omega) (by rw [h3]; omega) ?_
 rw [h3]
 have e:(is.zip vs).toArray.toList=(vs.zipIdx 0).map fun x=>(x.2,x.1):=by rw [List.toList_toArray]; exact zip_range is vs 0 hr hl
 rw [e]
 exact Great.fill_whole hk1.1 vs _ hs (by simp)
end Typ
end Go.Proofs.YtmngddomnaaedaaGreat
