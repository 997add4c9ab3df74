/-
 What an argument of type Info,[]Info is.
-/
import Derived.Lib.Hide
import Derived.Test.YtmngddomnaaedaaGreatQB8
import Derived.Test.YtmngddomnaaedaaGreatQB17
open Go.Lib (hid)
set_option maxRecDepth 100000
set_option maxHeartbeats 32000000
namespace Go.Proofs.YtmngddomnaaedaaGreat
open Go.RowKit Go.Shelf Lvl Trm Env
section
variable {H:Type} {enc:TypeId × Value→H} {w:World} {base:Nat} {sp:Nat→Bool} {hd:Bool}
theorem Env.open_rule {fuel:Nat} {cs:List Value} {x:DataW H × List MemPlace} (h:DataW.trod enc Tryz.prog w base sp hd fuel 64 cs=some x) :
 ∃ (r:Rl) (e:Hd),cs=r.vals e∧r.body.In w.heap.size w e:=by
 have hT:Tryz.prog.cellsOf 25=5:=by kernel_rfl
 have hI:Tryz.prog.cellsOf 3=1:=by kernel_rfl
 have hS:Tryz.prog.cellsOf 9=1:=by kernel_rfl
 have hC:Tryz.prog.cellsOf 64=7:=by kernel_rfl
 obtain ⟨xs,n,_,_,hl,hxs,hf⟩:=DataW.trod_struct Tryz.underlying64 h
 rw [hC] at hl
 match cs,hl with
 | [v0,v1,v2,v3,v4,v5,v6],_ =>
   have hx5:xs.length=3:=hxs
   have g0:DataW.trod enc Tryz.prog w base sp hd n 9 (([v0,v1,v2,v3,v4,v5,v6].drop 0).take (Tryz.prog.cellsOf 9))=xs[0]?:=hf 0 _ rfl
   rw [hS] at g0
   simp only [List.drop_zero,List.take_succ_cons,List.take_zero] at g0
   rw [List.getElem?_eq_getElem (by omega)] at g0
   have g1:DataW.trod enc Tryz.prog w base sp hd n 3 (([v0,v1,v2,v3,v4,v5,v6].drop 1).take (Tryz.prog.cellsOf 3))=xs[1]?:=hf 1 _ rfl
   rw [hI] at g1
   simp only [List.drop_zero,List.drop_succ_cons,List.take_succ_cons,List.take_zero] at g1
   rw [List.getElem?_eq_getElem (by omega)] at g1
   have g2:DataW.trod enc Tryz.prog w base sp hd n 25 (([v0,v1,v2,v3,v4,v5,v6].drop 2).take (Tryz.prog.cellsOf 25))=xs[2]?:=hf 2 _ rfl
   rw [hT] at g2
   simp only [List.drop_zero,List.drop_succ_cons,List.take_succ_cons,List.take_zero] at g2
   rw [List.getElem?_eq_getElem (by omega)] at g2
   obtain ⟨s0,q0,_,l0⟩:=DataW.trod_string Tryz.underlying9 g0
   obtain rfl:v0=_:=List.singleton_inj.1 q0
   obtain ⟨z1,q1,_,w1⟩:=DataW.trod_int Tryz.underlying3 g1
   obtain rfl:v1=_:=List.singleton_inj.1 q1
   obtain ⟨t2,e2,q2,i2⟩:=open_term _ _ _ g2
   have q2':[v2,v3,v4,v5,v6]=five t2 e2:=q2
   simp only [five,List.cons.injEq,and_true] at q2'
   obtain ⟨rfl,rfl,rfl,rfl,rfl⟩:=q2'
   exact ⟨⟨s0,z1,t2⟩,e2,rfl,i2⟩
theorem Env.open_rules {fuel:Nat} {cs:List Value} {x:DataW H × List MemPlace} (h:DataW.trod enc Tryz.prog w base sp hd fuel 51 cs=some x) :
 ∃ (lo:Option Addr) (lc:Nat) (rs:List Rl),cs=[.slice lo rs.length lc]∧RRow w.heap.size w lo rs∧rs.length≤9223372036854775807:=by
 have hC:Tryz.prog.cellsOf 64=7:=by kernel_rfl
 rcases DataW.trod_slice Tryz.underlying51 h with ⟨rfl,_⟩ | ⟨a,len,cap,elems,rest,n,_,rfl,_,_,hlc,hcm,hel,hall,_⟩
 ·exact ⟨none,0,[],rfl,⟨fun k hk=>by simp at hk⟩,by simp⟩
 ·rw [hC] at hall
  have open1:∀ i,i < len→∃ (r:Rl) (e:Hd),(∀ j v,(r.vals e)[j]?=some v→w.cell? ((a.add (i * 7)).add j)=some v)∧r.body.In w.heap.size w e:=fun i hi=>by
   have hi':=hall i hi
   rw [List.getElem?_eq_getElem (by omega)] at hi'
   obtain ⟨cs,hcs,ht⟩:=Option.bind_eq_some_iff.1 hi'
   obtain ⟨_,hcl,hcell⟩:=World.cells?_some hcs
   obtain ⟨r,e,rfl,hin⟩:=open_rule ht
   exact ⟨r,e,fun j v hj=>(hcell j (by rw [← hcl]; exact (List.getElem?_eq_some_iff.1 hj).1)).trans hj,hin⟩
  have hnone:0 < len→a.spot=none:=fun h0=>by
   obtain ⟨r,e,hcell,_⟩:=open1 0 h0
   have h0:=hcell 0 _ rfl
   rw [Nat.zero_mul,add_zero,add_zero] at h0
   exact World.cell?_spot h0
  have key:∀ i,i < len→∃ r:Rl,∃ b off e,a=⟨b,off,none⟩∧b < w.heap.size∧w.rangeAt b (off + i * 7) (r.vals e)∧r.body.In w.heap.size w e:=fun i hi=>by
   obtain ⟨r,e,hcell,hin⟩:=open1 i hi
   have hs:=hnone (by omega)
   obtain ⟨b,off,spot⟩:=a
   dsimp only at hs
   subst hs
   simp only [add_none] at hcell
   exact ⟨r,b,off,e,rfl,World.block_lt_of_cell? w _ (hcell 0 _ rfl),fun j v hj=>hcell j v hj,hin⟩
  have key2:∃ rs:List Rl,rs.length=len∧∀ k (hk:k < rs.length),∃ b off e,a=⟨b,off,none⟩∧b < w.heap.size∧w.rangeAt b (off + k * 7) (rs[k].vals e)∧rs[k].body.In w.heap.size w e:=by
   refine ⟨(List.range len).pmap (fun i hi=>Classical.choose (key i hi)) (fun i hi=>by simpa using hi),by simp,fun k hk=>?_⟩
   have hk':k < len:=by simpa using hk
   obtain ⟨b,off,e,h1,h2,h3,h4⟩:=Classical.choose_spec (key k hk')
   exact ⟨b,off,e,h1,h2,by simpa using h3,by simpa using h4⟩
  obtain ⟨rs,rfl,hrs⟩:=key2
  refine ⟨some a,cap,rs,rfl,⟨fun k hk=>?_⟩,?_⟩
  ·obtain ⟨b,off,e,rfl,h2,h3,h4⟩:=hrs k hk
   exact ⟨b,off,e,rfl,h2,h3,h4⟩
  ·have:maxLen=9223372036854775807:=rfl
   omega
theorem Env.open_info {fuel:Nat} {cs:List Value} {x:DataW H × List MemPlace} (h:DataW.trod enc Tryz.prog w base sp hd fuel 53 cs=some x) :
 ∃ (r:Inf) (e:IHd),cs=r.vals e∧r.In w.heap.size w e:=by
 have hRu:Tryz.prog.cellsOf 51=1:=by kernel_rfl
 have hT:Tryz.prog.cellsOf 25=5:=by kernel_rfl
 have hBo:Tryz.prog.cellsOf 4=1:=by kernel_rfl
 have hI:Tryz.prog.cellsOf 3=1:=by kernel_rfl
 have hS:Tryz.prog.cellsOf 9=1:=by kernel_rfl
 have hU:Tryz.prog.cellsOf 5=1:=by kernel_rfl
 have hC:Tryz.prog.cellsOf 53=25:=by kernel_rfl
 obtain ⟨xs,n,_,_,hl,hxs,hf⟩:=DataW.trod_struct Tryz.underlying53 h
 rw [hC] at hl
 match cs,hl with
 | [v0,v1,v2,v3,v4,v5,v6,v7,v8,v9,v10,v11,v12,v13,v14,v15,v16,v17,v18,v19,v20,v21,v22,v23,v24],_ =>
   have hx5:xs.length=17:=hxs
   have g0:DataW.trod enc Tryz.prog w base sp hd n 5 (([v0,v1,v2,v3,v4,v5,v6,v7,v8,v9,v10,v11,v12,v13,v14,v15,v16,v17,v18,v19,v20,v21,v22,v23,v24].drop 0).take (Tryz.prog.cellsOf 5))=xs[0]?:=hf 0 _ rfl
   rw [hU] at g0
   simp only [List.drop_zero,List.take_succ_cons,List.take_zero] at g0
   rw [List.getElem?_eq_getElem (by omega)] at g0
   have g1:DataW.trod enc Tryz.prog w base sp hd n 9 (([v0,v1,v2,v3,v4,v5,v6,v7,v8,v9,v10,v11,v12,v13,v14,v15,v16,v17,v18,v19,v20,v21,v22,v23,v24].drop 1).take (Tryz.prog.cellsOf 9))=xs[1]?:=hf 1 _ rfl
   rw [hS] at g1
   simp only [List.drop_zero,List.drop_succ_cons,List.take_succ_cons,List.take_zero] at g1
   rw [List.getElem?_eq_getElem (by omega)] at g1
   have g2:DataW.trod enc Tryz.prog w base sp hd n 3 (([v0,v1,v2,v3,v4,v5,v6,v7,v8,v9,v10,v11,v12,v13,v14,v15,v16,v17,v18,v19,v20,v21,v22,v23,v24].drop 2).take (Tryz.prog.cellsOf 3))=xs[2]?:=hf 2 _ rfl
   rw [hI] at g2
   simp only [List.drop_zero,List.drop_succ_cons,List.take_succ_cons,List.take_zero] at g2
   rw [List.getElem?_eq_getElem (by omega)] at g2
   have g3:DataW.trod enc Tryz.prog w base sp hd n 25 (([v0,v1,v2,v3,v4,v5,v6,v7,v8,v9,v10,v11,v12,v13,v14,v15,v16,v17,v18,v19,v20,v21,v22,v23,v24].drop 3).take (Tryz.prog.cellsOf 25))=xs[3]?:=hf 3 _ rfl
   rw [hT] at g3
   simp only [List.drop_zero,List.drop_succ_cons,List.take_succ_cons,List.take_zero] at g3
   rw [List.getElem?_eq_getElem (by omega)] at g3
   have g4:DataW.trod enc Tryz.prog w base sp hd n 25 (([v0,v1,v2,v3,v4,v5,v6,v7,v8,v9,v10,v11,v12,v13,v14,v15,v16,v17,v18,v19,v20,v21,v22,v23,v24].drop 8).take (Tryz.prog.cellsOf 25))=xs[4]?:=hf 4 _ rfl
   rw [hT] at g4
   simp only [List.drop_zero,List.drop_succ_cons,List.take_succ_cons,List.take_zero] at g4
   rw [List.getElem?_eq_getElem (by omega)] at g4
   have g5:DataW.trod enc Tryz.prog w base sp hd n 3 (([v0,v1,v2,v3,v4,v5,v6,v7,v8,v9,v10,v11,v12,v13,v14,v15,v16,v17,v18,v19,v20,v21,v22,v23,v24].drop 13).take (Tryz.prog.cellsOf 3))=xs[5]?:=hf 5 _ rfl
   rw [hI] at g5
   simp only [List.drop_zero,List.drop_succ_cons,List.take_succ_cons,List.take_zero] at g5
   rw [List.getElem?_eq_getElem (by omega)] at g5
   have g6:DataW.trod enc Tryz.prog w base sp hd n 9 (([v0,v1,v2,v3,v4,v5,v6,v7,v8,v9,v10,v11,v12,v13,v14,v15,v16,v17,v18,v19,v20,v21,v22,v23,v24].drop 14).take (Tryz.prog.cellsOf 9))=xs[6]?:=hf 6 _ rfl
   rw [hS] at g6
   simp only [List.drop_zero,List.drop_succ_cons,List.take_succ_cons,List.take_zero] at g6
   rw [List.getElem?_eq_getElem (by omega)] at g6
   have g7:DataW.trod enc Tryz.prog w base sp hd n 9 (([v0,v1,v2,v3,v4,v5,v6,v7,v8,v9,v10,v11,v12,v13,v14,v15,v16,v17,v18,v19,v20,v21,v22,v23,v24].drop 15).take (Tryz.prog.cellsOf 9))=xs[7]?:=hf 7 _ rfl
   rw [hS] at g7
   simp only [List.drop_zero,List.drop_succ_cons,List.take_succ_cons,List.take_zero] at g7
   rw [List.getElem?_eq_getElem (by omega)] at g7
   have g8:DataW.trod enc Tryz.prog w base sp hd n 3 (([v0,v1,v2,v3,v4,v5,v6,v7,v8,v9,v10,v11,v12,v13,v14,v15,v16,v17,v18,v19,v20,v21,v22,v23,v24].drop 16).take (Tryz.prog.cellsOf 3))=xs[8]?:=hf 8 _ rfl
   rw [hI] at g8
   simp only [List.drop_zero,List.drop_succ_cons,List.take_succ_cons,List.take_zero] at g8
   rw [List.getElem?_eq_getElem (by omega)] at g8
   have g9:DataW.trod enc Tryz.prog w base sp hd n 3 (([v0,v1,v2,v3,v4,v5,v6,v7,v8,v9,v10,v11,v12,v13,v14,v15,v16,v17,v18,v19,v20,v21,v22,v23,v24].drop 17).take (Tryz.prog.cellsOf 3))=xs[9]?:=hf 9 _ rfl
   rw [hI] at g9
   simp only [List.drop_zero,List.drop_succ_cons,List.take_succ_cons,List.take_zero] at g9
   rw [List.getElem?_eq_getElem (by omega)] at g9
   have g10:DataW.trod enc Tryz.prog w base sp hd n 3 (([v0,v1,v2,v3,v4,v5,v6,v7,v8,v9,v10,v11,v12,v13,v14,v15,v16,v17,v18,v19,v20,v21,v22,v23,v24].drop 18).take (Tryz.prog.cellsOf 3))=xs[10]?:=hf 10 _ rfl
   rw [hI] at g10
   simp only [List.drop_zero,List.drop_succ_cons,List.take_succ_cons,List.take_zero] at g10
   rw [List.getElem?_eq_getElem (by omega)] at g10
   have g11:DataW.trod enc Tryz.prog w base sp hd n 3 (([v0,v1,v2,v3,v4,v5,v6,v7,v8,v9,v10,v11,v12,v13,v14,v15,v16,v17,v18,v19,v20,v21,v22,v23,v24].drop 19).take (Tryz.prog.cellsOf 3))=xs[11]?:=hf 11 _ rfl
   rw [hI] at g11
   simp only [List.drop_zero,List.drop_succ_cons,List.take_succ_cons,List.take_zero] at g11
   rw [List.getElem?_eq_getElem (by omega)] at g11
   have g12:DataW.trod enc Tryz.prog w base sp hd n 3 (([v0,v1,v2,v3,v4,v5,v6,v7,v8,v9,v10,v11,v12,v13,v14,v15,v16,v17,v18,v19,v20,v21,v22,v23,v24].drop 20).take (Tryz.prog.cellsOf 3))=xs[12]?:=hf 12 _ rfl
   rw [hI] at g12
   simp only [List.drop_zero,List.drop_succ_cons,List.take_succ_cons,List.take_zero] at g12
   rw [List.getElem?_eq_getElem (by omega)] at g12
   have g13:DataW.trod enc Tryz.prog w base sp hd n 3 (([v0,v1,v2,v3,v4,v5,v6,v7,v8,v9,v10,v11,v12,v13,v14,v15,v16,v17,v18,v19,v20,v21,v22,v23,v24].drop 21).take (Tryz.prog.cellsOf 3))=xs[13]?:=hf 13 _ rfl
   rw [hI] at g13
   simp only [List.drop_zero,List.drop_succ_cons,List.take_succ_cons,List.take_zero] at g13
   rw [List.getElem?_eq_getElem (by omega)] at g13
   have g14:DataW.trod enc Tryz.prog w base sp hd n 51 (([v0,v1,v2,v3,v4,v5,v6,v7,v8,v9,v10,v11,v12,v13,v14,v15,v16,v17,v18,v19,v20,v21,v22,v23,v24].drop 22).take (Tryz.prog.cellsOf 51))=xs[14]?:=hf 14 _ rfl
   rw [hRu] at g14
   simp only [List.drop_zero,List.drop_succ_cons,List.take_succ_cons,List.take_zero] at g14
   rw [List.getElem?_eq_getElem (by omega)] at g14
   have g15:DataW.trod enc Tryz.prog w base sp hd n 3 (([v0,v1,v2,v3,v4,v5,v6,v7,v8,v9,v10,v11,v12,v13,v14,v15,v16,v17,v18,v19,v20,v21,v22,v23,v24].drop 23).take (Tryz.prog.cellsOf 3))=xs[15]?:=hf 15 _ rfl
   rw [hI] at g15
   simp only [List.drop_zero,List.drop_succ_cons,List.take_succ_cons,List.take_zero] at g15
   rw [List.getElem?_eq_getElem (by omega)] at g15
   have g16:DataW.trod enc Tryz.prog w base sp hd n 4 (([v0,v1,v2,v3,v4,v5,v6,v7,v8,v9,v10,v11,v12,v13,v14,v15,v16,v17,v18,v19,v20,v21,v22,v23,v24].drop 24).take (Tryz.prog.cellsOf 4))=xs[16]?:=hf 16 _ rfl
   rw [hBo] at g16
   simp only [List.drop_zero,List.drop_succ_cons,List.take_succ_cons,List.take_zero] at g16
   rw [List.getElem?_eq_getElem (by omega)] at g16
   obtain ⟨z0,q0,_,w0⟩:=DataW.trod_int Tryz.underlying5 g0
   obtain rfl:v0=_:=List.singleton_inj.1 q0
   obtain ⟨s1,q1,_,l1⟩:=DataW.trod_string Tryz.underlying9 g1
   obtain rfl:v1=_:=List.singleton_inj.1 q1
   obtain ⟨z2,q2,_,w2⟩:=DataW.trod_int Tryz.underlying3 g2
   obtain rfl:v2=_:=List.singleton_inj.1 q2
   obtain ⟨t3,e3,q3,i3⟩:=open_term _ _ _ g3
   have q3':[v3,v4,v5,v6,v7]=five t3 e3:=q3
   simp only [five,List.cons.injEq,and_true] at q3'
   obtain ⟨rfl,rfl,rfl,rfl,rfl⟩:=q3'
   obtain ⟨t4,e4,q4,i4⟩:=open_term _ _ _ g4
   have q4':[v8,v9,v10,v11,v12]=five t4 e4:=q4
   simp only [five,List.cons.injEq,and_true] at q4'
   obtain ⟨rfl,rfl,rfl,rfl,rfl⟩:=q4'
   obtain ⟨z5,q5,_,w5⟩:=DataW.trod_int Tryz.underlying3 g5
   obtain rfl:v13=_:=List.singleton_inj.1 q5
   obtain ⟨s6,q6,_,l6⟩:=DataW.trod_string Tryz.underlying9 g6
   obtain rfl:v14=_:=List.singleton_inj.1 q6
   obtain ⟨s7,q7,_,l7⟩:=DataW.trod_string Tryz.underlying9 g7
   obtain rfl:v15=_:=List.singleton_inj.1 q7
   obtain ⟨z8,q8,_,w8⟩:=DataW.trod_int Tryz.underlying3 g8
   obtain rfl:v16=_:=List.singleton_inj.1 q8
   obtain ⟨z9,q9,_,w9⟩:=DataW.trod_int Tryz.underlying3 g9
   obtain rfl:v17=_:=List.singleton_inj.1 q9
   obtain ⟨z10,q10,_,w10⟩:=DataW.trod_int Tryz.underlying3 g10
   obtain rfl:v18=_:=List.singleton_inj.1 q10
   obtain ⟨z11,q11,_,w11⟩:=DataW.trod_int Tryz.underlying3 g11
   obtain rfl:v19=_:=List.singleton_inj.1 q11
   obtain ⟨z12,q12,_,w12⟩:=DataW.trod_int Tryz.underlying3 g12
   obtain rfl:v20=_:=List.singleton_inj.1 q12
   obtain ⟨z13,q13,_,w13⟩:=DataW.trod_int Tryz.underlying3 g13
   obtain rfl:v21=_:=List.singleton_inj.1 q13
   obtain ⟨lo14,lc14,r14,q14,i14,l14⟩:=open_rules g14
   obtain rfl:v22=_:=List.singleton_inj.1 q14
   obtain ⟨z15,q15,_,w15⟩:=DataW.trod_int Tryz.underlying3 g15
   obtain rfl:v23=_:=List.singleton_inj.1 q15
   obtain ⟨b16,q16,_⟩:=DataW.trod_bool Tryz.underlying4 g16
   obtain rfl:v24=_:=List.singleton_inj.1 q16
   refine ⟨⟨z0,s1,z2,t3,t4,z5,s6,s7,z8,z9,z10,z11,z12,z13,r14,z15,b16⟩,⟨e3,e4,lo14,lc14⟩,rfl,⟨⟨?_,?_,?_,l14⟩,i3,i4,i14⟩⟩
   ·simp [Lit.wf,IntKind.min,IntKind.max,IntKind.signed,IntKind.bits] at w0; exact w0.1
   ·simp [Lit.wf,IntKind.min,IntKind.max,IntKind.signed,IntKind.bits] at w0; exact w0.2
   ·exact l1
theorem Env.open_infos0 {fuel:Nat} {cs:List Value} {x:DataW H × List MemPlace} (h:DataW.trod enc Tryz.prog w base sp hd fuel 59 cs=some x) :
 ∃ (lo:Option Addr) (lc:Nat) (rs:List Inf),cs=[.slice lo rs.length lc]∧InfRow w.heap.size w lo rs∧rs.length≤9223372036854775807:=by
 have hC:Tryz.prog.cellsOf 53=25:=by kernel_rfl
 rcases DataW.trod_slice Tryz.underlying59 h with ⟨rfl,_⟩ | ⟨a,len,cap,elems,rest,n,_,rfl,_,_,hlc,hcm,hel,hall,_⟩
 ·exact ⟨none,0,[],rfl,⟨fun k hk=>by simp at hk⟩,by simp⟩
 ·rw [hC] at hall
  have open1:∀ i,i < len→∃ (r:Inf) (e:IHd),(∀ j v,(r.vals e)[j]?=some v→w.cell? ((a.add (i * 25)).add j)=some v)∧r.In w.heap.size w e:=fun i hi=>by
   have hi':=hall i hi
   rw [List.getElem?_eq_getElem (by omega)] at hi'
   obtain ⟨cs,hcs,ht⟩:=Option.bind_eq_some_iff.1 hi'
   obtain ⟨_,hcl,hcell⟩:=World.cells?_some hcs
   obtain ⟨r,e,rfl,hin⟩:=open_info ht
   exact ⟨r,e,fun j v hj=>(hcell j (by rw [← hcl]; exact (List.getElem?_eq_some_iff.1 hj).1)).trans hj,hin⟩
  have hnone:0 < len→a.spot=none:=fun h0=>by
   obtain ⟨r,e,hcell,_⟩:=open1 0 h0
   have h0:=hcell 0 _ rfl
   rw [Nat.zero_mul,add_zero,add_zero] at h0
   exact World.cell?_spot h0
  have key:∀ i,i < len→∃ r:Inf,∃ b off e,a=⟨b,off,none⟩∧b < w.heap.size∧w.rangeAt b (off + i * 25) (r.vals e)∧r.In w.heap.size w e:=fun i hi=>by
   obtain ⟨r,e,hcell,hin⟩:=open1 i hi
   have hs:=hnone (by omega)
   obtain ⟨b,off,spot⟩:=a
   dsimp only at hs
   subst hs
   simp only [add_none] at hcell
   exact ⟨r,b,off,e,rfl,World.block_lt_of_cell? w _ (hcell 0 _ rfl),fun j v hj=>hcell j v hj,hin⟩
  have key2:∃ rs:List Inf,rs.length=len∧∀ k (hk:k < rs.length),∃ b off e,a=⟨b,off,none⟩∧b < w.heap.size∧w.rangeAt b (off + k * 25) (rs[k].vals e)∧rs[k].In w.heap.size w e:=by
   refine ⟨(List.range len).pmap (fun i hi=>Classical.choose (key i hi)) (fun i hi=>by simpa using hi),by simp,fun k hk=>?_⟩
   have hk':k < len:=by simpa using hk
   obtain ⟨b,off,e,h1,h2,h3,h4⟩:=Classical.choose_spec (key k hk')
   exact ⟨b,off,e,h1,h2,by simpa using h3,by simpa using h4⟩
  obtain ⟨rs,rfl,hrs⟩:=key2
  refine ⟨some a,cap,rs,rfl,⟨fun k hk=>?_⟩,?_⟩
  ·obtain ⟨b,off,e,rfl,h2,h3,h4⟩:=hrs k hk
   exact ⟨b,off,e,rfl,h2,h3,h4⟩
  ·have:maxLen=9223372036854775807:=rfl
   omega
end
theorem Env.open_infos {H:Type} {enc:TypeId × Value→H} {w:World} {base:Nat} {sp:Nat→Bool} {hd:Bool} {a:Option Addr} {len cap:Nat} {d:DataW H} {p:List MemPlace} (h:DataW.Trod enc Tryz.prog w base sp hd 59 (.slice a len cap) d p) :
 ∃ rs:List Inf,len=rs.length∧InfRow w.heap.size w a rs∧len≤cap:=by
 obtain ⟨fuel,hf⟩:=h
 obtain ⟨lo,lc,rs,hcs,hrow,_⟩:=open_infos0 hf
 have hle:len≤cap:=by
  rcases DataW.trod_slice Tryz.underlying59 hf with ⟨hc2,_⟩ | ⟨a2,len2,cap2,_,_,_,_,hc2,_,_,hlc,_⟩
  ·simp [Value.cells] at hc2; omega
  ·simp [Value.cells] at hc2; omega
 simp [Value.cells] at hcs
 obtain ⟨rfl,rfl,rfl⟩:=hcs
 exact ⟨rs,rfl,hrow,hle⟩
end Go.Proofs.YtmngddomnaaedaaGreat
