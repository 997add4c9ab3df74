/-
 rules.Field,way by way.
-/
import Derived.Lib.Hide
import Derived.Test.YtmngddomnaaedaaGreatQB36
import Derived.Test.YtmngddomnaaedaaGreatQB28
import Derived.Test.YtmngddomnaaedaaGreatQB15
import Derived.Deep.AppendLies
import Derived.Test.YtmngddomnaaedaaGreatQB6
import Derived.Test.YtmngddomnaaedaaGreatQB4
import Derived.Test.YtmngddomnaaedaaGreatQB11
open Go.Lib (hid)
set_option maxRecDepth 100000
set_option maxHeartbeats 32000000
namespace Go.Proofs.YtmngddomnaaedaaGreat
open Go.RowKit Go.Shelf Go.Maps Lvl Trm Env
namespace Typ
def fldA (L:List Inf) (s:ByteArray) (n:Int) (t:Tm):Tm × Bool :=
 if isR L s then (if (nmd L (spM t).1 5).2 then (if ((nmd L (spM t).1 5).1.of_.toList != s.toList) then (zeroT,false) else (if (((spM t).2.length:Int) != IntKind.i64.wrap ((nmd L (spM t).1 5).1.fixed + (nmd L (spM t).1 5).1.fields)) then (zeroT,false) else (if decide (n < 0) then (zeroT,false) else (if decide (n ≥ (nmd L (spM t).1 5).1.fields) then (zeroT,false) else ((cutA (spM t).2 (IntKind.i64.wrap ((nmd L (spM t).1 5).1.fixed + n)) ((spM t).2.length:Int)).getD 0 zeroT,true))))) else (zeroT,false)) else (zeroT,false)
def fldC (L:List Inf) (n:Int) (t:Tm):Bool:=(nmd L (spM t).1 5).2 == false || (((spM t).2.length:Int) != IntKind.i64.wrap ((nmd L (spM t).1 5).1.fixed + (nmd L (spM t).1 5).1.fields)) || decide (n < 0) || decide (n ≥ (nmd L (spM t).1 5).1.fields) || (decide ((0:Int)≤(IntKind.i64.wrap ((nmd L (spM t).1 5).1.fixed + n))) && decide ((IntKind.i64.wrap ((nmd L (spM t).1 5).1.fixed + n)) < ((spM t).2.length:Int)))
def fdS (x:Tm × Bool):Sl:=.tup [(true,[.tm x.1]),(false,[.dat (.bool x.2)])]
theorem Field_made [Typ.Xt] (P:Nat→Prop) (L:List Inf) (s:ByteArray) (n:Int) (t:Tm) (vs:List Value) (w:World) (hP:Typ.Lt P w) (hv:VArgs P w [(false,[.env L]),(false,[.dat (.string s)]),(false,[.dat (.int .i64 n)]),(true,[.tm t])] vs) (hs:s.size≤9223372036854775807) (hc:fldC L n t=true) :
 Calls Tryz.prog 26 vs.toArray w (MadeV P w (fdS (fldA L s n t))):=by
 have hsz:decide (s.size≤9223372036854775807)=true:=decide_eq_true hs
 unfold fldA
 cases h1:isR L s
 ·exact Typ.fn_ok (p:=⟨sp23,67,[(15,false)],[],true,[]⟩) (par_okC sp23_ok) Tryz.func26 rfl rfl (rs:=[.cell 8 25,.tmp 9]) rfl (by kernel_rfl) (ss:=[(false,[.env L]),(false,[.dat (.string s)]),(false,[.dat (.int .i64 n)]),(true,[.tm t])]) (r:=fdS (zeroT,false)) (by simp) ((show _=some (_,(((decide (s.size≤9223372036854775807)) && (isR L s == false)) && true)) by kernel_rfl).trans (by rw [h1,hsz]; rfl)) P w vs hP hv
 ·cases h2:(nmd L (spM t).1 5).2
  ·exact Typ.fn_ok (p:=⟨sp23,67,[(15,true),(26,false)],[],true,[]⟩) (par_okC sp23_ok) Tryz.func26 rfl rfl (rs:=[.cell 8 25,.tmp 9]) rfl (by kernel_rfl) (ss:=[(false,[.env L]),(false,[.dat (.string s)]),(false,[.dat (.int .i64 n)]),(true,[.tm t])]) (r:=fdS (zeroT,false)) (by simp) ((show _=some (_,(((decide (s.size≤9223372036854775807)) && (isR L s == true)) && (((nmd L (spM t).1 5).2 == false) && true))) by kernel_rfl).trans (by rw [h1,h2,hsz]; rfl)) P w vs hP hv
  ·cases h3:((nmd L (spM t).1 5).1.of_.toList != s.toList)
   ·cases h4:(((spM t).2.length:Int) != IntKind.i64.wrap ((nmd L (spM t).1 5).1.fixed + (nmd L (spM t).1 5).1.fields))
    ·cases h5:decide (n < 0)
     ·cases h6:decide (n ≥ (nmd L (spM t).1 5).1.fields)
      ·unfold fldC at hc
       rw [h2,h4,h5,h6] at hc
       simp only [beq_false,Bool.not_true,Bool.false_or,Bool.and_eq_true] at hc
       have x1:decide ((0:Int)≤(IntKind.i64.wrap ((nmd L (spM t).1 5).1.fixed + n)))=true:=hc.1
       have x0:=of_decide_eq_true hc.2
       have x2:decide ((IntKind.i64.wrap ((nmd L (spM t).1 5).1.fixed + n))≤((spM t).2.length:Int))=true:=decide_eq_true (by omega)
       have x3:decide (((spM t).2.length:Int).toNat≤(spM t).2.length)=true:=decide_eq_true (by omega)
       have x4:decide (0 < (cutA (spM t).2 (IntKind.i64.wrap ((nmd L (spM t).1 5).1.fixed + n)) ((spM t).2.length:Int)).length)=true:=decide_eq_true (by
        have:=of_decide_eq_true x1
        unfold cutA
        rw [List.length_drop,List.length_take]
        omega)
       exact Typ.fn_ok (p:=⟨sp23,67,[(15,true),(26,true),(33,false),(43,false),(47,false),(53,false)],[],true,[]⟩) (par_okC sp23_ok) Tryz.func26 rfl rfl (rs:=[.cell 8 25,.tmp 9]) rfl (by kernel_rfl) (ss:=[(false,[.env L]),(false,[.dat (.string s)]),(false,[.dat (.int .i64 n)]),(true,[.tm t])]) (r:=fdS ((cutA (spM t).2 (IntKind.i64.wrap ((nmd L (spM t).1 5).1.fixed + n)) ((spM t).2.length:Int)).getD 0 zeroT,true)) (by simp) ((show _=some (_,(((decide (s.size≤9223372036854775807)) && (isR L s == true)) && (((nmd L (spM t).1 5).2 == true) && ((((nmd L (spM t).1 5).1.of_.toList != s.toList) == false) && (((((spM t).2.length:Int) != IntKind.i64.wrap ((nmd L (spM t).1 5).1.fixed + (nmd L (spM t).1 5).1.fields)) == false) && ((decide (n < 0) == false) && ((decide (n ≥ (nmd L (spM t).1 5).1.fields) == false) && (((decide ((0:Int)≤(IntKind.i64.wrap ((nmd L (spM t).1 5).1.fixed + n))) && decide ((IntKind.i64.wrap ((nmd L (spM t).1 5).1.fixed + n))≤((spM t).2.length:Int)) && decide (((spM t).2.length:Int).toNat≤(spM t).2.length)) && true) && (((decide ((0:Int)≤0) && decide (0 < (cutA (spM t).2 (IntKind.i64.wrap ((nmd L (spM t).1 5).1.fixed + n)) ((spM t).2.length:Int)).length)) && true) && true))))))))) by kernel_rfl).trans (by rw [h1,h2,h3,h4,h5,h6,hsz,x1,x2,x3,x4]; rfl)) P w vs hP hv
      ·exact Typ.fn_ok (p:=⟨sp23,67,[(15,true),(26,true),(33,false),(43,false),(47,false),(53,true)],[],true,[]⟩) (par_okC sp23_ok) Tryz.func26 rfl rfl (rs:=[.cell 8 25,.tmp 9]) rfl (by kernel_rfl) (ss:=[(false,[.env L]),(false,[.dat (.string s)]),(false,[.dat (.int .i64 n)]),(true,[.tm t])]) (r:=fdS (zeroT,false)) (by simp) ((show _=some (_,(((decide (s.size≤9223372036854775807)) && (isR L s == true)) && (((nmd L (spM t).1 5).2 == true) && ((((nmd L (spM t).1 5).1.of_.toList != s.toList) == false) && (((((spM t).2.length:Int) != IntKind.i64.wrap ((nmd L (spM t).1 5).1.fixed + (nmd L (spM t).1 5).1.fields)) == false) && ((decide (n < 0) == false) && ((decide (n ≥ (nmd L (spM t).1 5).1.fields) == true) && true))))))) by kernel_rfl).trans (by rw [h1,h2,h3,h4,h5,h6,hsz]; rfl)) P w vs hP hv
     ·exact Typ.fn_ok (p:=⟨sp23,67,[(15,true),(26,true),(33,false),(43,false),(47,true)],[],true,[]⟩) (par_okC sp23_ok) Tryz.func26 rfl rfl (rs:=[.cell 8 25,.tmp 9]) rfl (by kernel_rfl) (ss:=[(false,[.env L]),(false,[.dat (.string s)]),(false,[.dat (.int .i64 n)]),(true,[.tm t])]) (r:=fdS (zeroT,false)) (by simp) ((show _=some (_,(((decide (s.size≤9223372036854775807)) && (isR L s == true)) && (((nmd L (spM t).1 5).2 == true) && ((((nmd L (spM t).1 5).1.of_.toList != s.toList) == false) && (((((spM t).2.length:Int) != IntKind.i64.wrap ((nmd L (spM t).1 5).1.fixed + (nmd L (spM t).1 5).1.fields)) == false) && ((decide (n < 0) == true) && true)))))) by kernel_rfl).trans (by rw [h1,h2,h3,h4,h5,hsz]; rfl)) P w vs hP hv
    ·exact Typ.fn_ok (p:=⟨sp23,67,[(15,true),(26,true),(33,false),(43,true)],[],true,[]⟩) (par_okC sp23_ok) Tryz.func26 rfl rfl (rs:=[.cell 8 25,.tmp 9]) rfl (by kernel_rfl) (ss:=[(false,[.env L]),(false,[.dat (.string s)]),(false,[.dat (.int .i64 n)]),(true,[.tm t])]) (r:=fdS (zeroT,false)) (by simp) ((show _=some (_,(((decide (s.size≤9223372036854775807)) && (isR L s == true)) && (((nmd L (spM t).1 5).2 == true) && ((((nmd L (spM t).1 5).1.of_.toList != s.toList) == false) && (((((spM t).2.length:Int) != IntKind.i64.wrap ((nmd L (spM t).1 5).1.fixed + (nmd L (spM t).1 5).1.fields)) == true) && true))))) by kernel_rfl).trans (by rw [h1,h2,h3,h4,hsz]; rfl)) P w vs hP hv
   ·exact Typ.fn_ok (p:=⟨sp23,67,[(15,true),(26,true),(33,true)],[],true,[]⟩) (par_okC sp23_ok) Tryz.func26 rfl rfl (rs:=[.cell 8 25,.tmp 9]) rfl (by kernel_rfl) (ss:=[(false,[.env L]),(false,[.dat (.string s)]),(false,[.dat (.int .i64 n)]),(true,[.tm t])]) (r:=fdS (zeroT,false)) (by simp) ((show _=some (_,(((decide (s.size≤9223372036854775807)) && (isR L s == true)) && (((nmd L (spM t).1 5).2 == true) && ((((nmd L (spM t).1 5).1.of_.toList != s.toList) == true) && true)))) by kernel_rfl).trans (by rw [h1,h2,h3,hsz]; rfl)) P w vs hP hv
end Typ
end Go.Proofs.YtmngddomnaaedaaGreat
namespace Go.Proofs.YtmngddomnaaedaaGreat
open Go.RowKit Go.Shelf Go.Maps Lvl Trm Env
namespace Env
def zB:Obj:=.cells #[.int .u8 0,.int .i64 0,.string no,.slice none 0 0,.slice none 0 0] 25
def RefSpP (P:Nat→Prop) (g:Tm) (m:List Tm) (w:World) (e:Ending) (w':World):Prop :=
 ∃ hg v ps,e=.returned (.tuple #[g.val hg,v])∧FirmS (fun q=>P q∨w.heap.size≤q) w' g hg∧ps.map (·.1)=m∧w'.ownsRow w.heap.size 25 5 v ps.length (flat ps)∧(∀ p ∈ ps,FirmS (fun q=>P q∨w.heap.size≤q) w' p.1 p.2)∧Below w.heap.size w w'
theorem ran_new {P:Nat→Prop} {B:Nat} {w w':World} (h:Below B w w'):RanS (fun q=>P q∨B≤q) w w':=⟨h.os,h.tape,h.output,h.size,fun k _ hn=>h.block k (by
 by_cases hk:k < B
 ·exact hk
 ·exact absurd (Or.inr (by omega)) hn)⟩
theorem grown_old {w w5:World} {o:Obj} {row:Option Nat} (h:((w.alloc o).drew).grownBy w5 row) (k:Nat) (hk:k < w.heap.size) (hn:row ≠ some k):w5.heap[k]?=w.heap[k]? :=
 (h.block k (by show k < (w.alloc o).heap.size; rw [World.size_alloc]; omega) (fun e=>hn e.symm)).trans ((below_one w o).block k hk)
theorem tcells_same {w w':World} {b o:Nat} {t:Tm} {h:Hd} (e:w'.heap[b]?=w.heap[b]?) (c:TCells w b o t h):TCells w' b o t h :=
 ⟨(World.cell?_of_block e).trans c.c0,(World.cell?_of_block e).trans c.c1,(World.cell?_of_block e).trans c.c2,(World.cell?_of_block e).trans c.c3,(World.cell?_of_block e).trans c.c4⟩
theorem grown_below {B:Nat} {w w5:World} {o:Obj} {row:Option Nat} (h:((w.alloc o).drew).grownBy w5 row) (hB:B≤w.heap.size) (hr:∀ q,row=some q→B≤q):Below B w w5 :=
 ⟨h.os,h.tape.trans rfl,h.output,by have:=h.size; simp [World.drew] at this; omega,fun k hk=>grown_old h k (by omega) (fun e=>by have:=hr k e; omega)⟩
theorem own_same {w w':World} {base base' e size n:Nat} {v:Value} {xs:List Value} (h:w.ownsRow base e size v n xs) (hb:base'≤base) (hs:∀ q,q < w.heap.size→base≤q→w'.heap[q]?=w.heap[q]?):w'.ownsRow base' e size v n xs:=by
 obtain ⟨h1,h2 | ⟨g,cap,cur,hv,hb1,hg,h3⟩⟩:=h
 ·exact ⟨h1,Or.inl h2⟩
 ·exact ⟨h1,Or.inr ⟨g,cap,cur,hv,Nat.le_trans hb hb1,(hs g (Array.getElem?_eq_some_iff.1 hg).1 hb1).trans hg,h3⟩⟩
end Env
theorem RefSpF_any (g:Tm) (hg:g.k ≠ 4):∀ (n:Nat) (m:List Tm),m.length=n→∀ (P:Nat→Prop) (h:Hd) (w:World),(∀ q,P q→q < w.heap.size)→n≤4096→FirmS P w (appl g m) h →
 Calls Tryz.prog 22 #[(appl g m).val h] w (RefSpP P g m w):=by
 intro n
 induction n with
 | zero =>
   intro m hm P h w hP hn hin
   have hm0:=List.eq_nil_of_length_eq_zero hm
   subst hm0
   have e0:appl g []=g:=rfl
   rw [e0] at hin ⊢
   have hk:(g.k != 4)=true:=by simpa using hg
   have HIN:=hid hin
   obtain ⟨WB,hWB⟩:∃ WB,WB=(w.alloc (g.box h)).alloc zB:=⟨_,rfl⟩
   have HBB:=hid (show Below w.heap.size w WB from hWB ▸ below_two _ _ _)
   have HBX:=hid (show WB.heap[w.heap.size]?=some (g.box h) from hWB ▸ new1of2 _ _ _)
   have HBA:=hid (show WB.heap[w.heap.size + 1]?=some zB from hWB ▸ new2 _ _ _)
   clear hin hg e0 hm hn
   unfold Tm.val Tm.vals at *
   go_enter Tryz.func22,Tryz.ntmps22
   unfold Tm.box Tm.vals zB no at hWB
   go_upto_region 1 with fail
   rw [← hWB]
   clear hWB
   obtain ⟨x0,x1,x2,x3,x4⟩:=Tm.cells HBX.out
   obtain ⟨a0,a1,a2,a3,a4⟩:=five_cells HBA.out
   obtain ⟨f0,f1,f2,f3,f4⟩:=five_free HBA.out
   go_wp2_with fail
   have h5:=putT_self HBA.out (.int .u8 g.k) (.int .i64 g.n) (.string g.s) (.slice h.lo g.ls.length h.lc) (.slice h.to g.ts.length h.tc)
   have b5:=putT_below HBB.out (by omega:w.heap.size≤w.heap.size + 1) (.int .u8 g.k) (.int .i64 g.n) (.string g.s) (.slice h.lo g.ls.length h.lc) (.slice h.to g.ts.length h.tc)
   unfold putT at h5 b5
   generalize hW:((((WB.setCell ⟨w.heap.size + 1,0,none⟩ (.int .u8 g.k)).setCell ⟨w.heap.size + 1,1,none⟩ (.int .i64 g.n)).setCell ⟨w.heap.size + 1,2,none⟩ (.string g.s)).setCell ⟨w.heap.size + 1,3,none⟩ (.slice h.lo g.ls.length h.lc)).setCell ⟨w.heap.size + 1,4,none⟩ (.slice h.to g.ts.length h.tc)=W4 at h5 b5 ⊢
   obtain ⟨e0,e1,e2,e3,e4⟩:=five_cells h5
   clear hW
   exact bodyPost_ret (v:=.tuple #[g.val h,.slice none 0 0]) (by simp [results,Tryz.results22,go_sem,e0,e1,e2,e3,e4,Tm.val,Tm.vals]) rfl ⟨h,_,[],rfl,firm_turnE HIN.out (RanS.of_below b5) (fun q a=>a),rfl,⟨rfl,Or.inl ⟨rfl,rfl⟩⟩,fun p hp=>by simp at hp,b5⟩
 | succ n ih =>
   intro m hm P h w hP hn hin
   obtain ⟨m',x,rfl⟩:∃ m' x,m=m' ++ [x]:=⟨m.dropLast,m.getLast (by intro e; rw [e] at hm; simp at hm),(List.dropLast_concat_getLast _).symm⟩
   have hm':m'.length=n:=by simpa using hm
   rw [appl_snoc] at hin ⊢
   obtain ⟨f,hf⟩:∃ f,f=appl g m':=⟨_,rfl⟩
   rw [← hf] at hin ⊢
   have hrow:=(Typ.firm_rows hin).2
   obtain ⟨b,off,hao,hb,hbP,hf0,cf,ff⟩:=hrow 0 (by simp [t2,Tm.ts])
   obtain ⟨b2,off2,hao2,_,_,hx0,cx,fx⟩:=hrow 1 (by simp [t2,Tm.ts])
   rw [hao] at hao2
   cases hao2
   have cf:TCells w b off f hf0:=by simpa [t2,Tm.ts] using cf
   have ff:FirmS P w f hf0:=by simpa [t2,Tm.ts] using ff
   have cx:TCells w b (off + 5) x hx0:=by simpa [t2,Tm.ts] using cx
   have fx:FirmS P w x hx0:=by simpa [t2,Tm.ts] using fx
   obtain ⟨WB,hWB⟩:∃ WB,WB=(w.alloc ((t2 4 f x).box h)).alloc zB:=⟨_,rfl⟩
   have HBB:=hid (show Below w.heap.size w WB from hWB ▸ below_two _ _ _)
   have HBX:=hid (show WB.heap[w.heap.size]?=some ((t2 4 f x).box h) from hWB ▸ new1of2 _ _ _)
   have HBA:=hid (show WB.heap[w.heap.size + 1]?=some zB from hWB ▸ new2 _ _ _)
   have hzB:WB.heap.size=w.heap.size + 2:=by rw [hWB]; simp
   have HIH:=hid (show Calls Tryz.prog 22 #[f.val hf0] WB (RefSpP (fun q=>(P q∨w.heap.size≤q)∧q < WB.heap.size) g m' WB) from by
    rw [hf]
    exact ih m' hm' _ hf0 WB (fun q a=>a.2) (by omega) (by rw [← hf]; exact firm_turnE ff (RanS.of_below HBB.out) (fun q a=>a.1)))
   have HFX:=hid fx
   have HCX:=hid cx
   have HCF:=hid cf
   have HAO:=hid hao
   have HB:=hid hb
   have HZB:=hid hzB
   have HP:=hid hP
   have HN:=hid (show m'.length≤4096 by omega)
   obtain ⟨i0,hi,hz0,hz1,hz2⟩:=info_parts infoT
   have hv1:(t2 4 f x).vals h=#[.int .u8 4,.int .i64 0,.string ⟨#[]⟩,.slice h.lo 0 h.lc,.slice (some ⟨b,off,none⟩) 2 h.tc]:=by
    unfold t2 Tm.vals
    rw [hao]
    rfl
   have hv2:(t2 4 f x).val h=.agg #[.int .u8 4,.int .i64 0,.string ⟨#[]⟩,.slice h.lo 0 h.lc,.slice (some ⟨b,off,none⟩) 2 h.tc]:=by unfold Tm.val; rw [hv1]
   have hX0:=HBX.out
   unfold Tm.box at hWB hX0
   rw [hv1] at hWB hX0
   rw [hv2]
   clear hin hrow cf ff cx fx hao hbP ih hm hm' hf hg hP hn hzB hv1 hv2 HBX
   have HX0:=hid hX0
   clear hX0
   unfold Tm.val Tm.vals at HIH
   go_enter Tryz.func22,Tryz.ntmps22
   unfold zB no at hWB
   go_upto_region 1 with fail
   rw [← hWB]
   clear hWB
   obtain ⟨x0,x1,x2,x3,x4⟩:=five_cells HX0.out
   obtain ⟨y0,y1,y2,y3,y4⟩:=HCF.out.below HBB.out hb
   have hbz:b < WB.heap.size:=Nat.lt_of_lt_of_le hb HBB.out.size
   go_wp2_with fail
   refine HIH.out.mono ?_
   rintro e w3 ⟨hg,v,ps,rfl,f3,hps,hown,hall,b3⟩
   have hz3:=b3.size
   have hzB:=HZB.out
   obtain ⟨wy,hwy⟩:∃ wy,wy=w3.alloc (g.box hg):=⟨_,rfl⟩
   have hby:Below w3.heap.size w3 wy:=hwy ▸ below_one _ _
   have hyb:=hwy ▸ World.alloc_heap_new w3 (g.box hg)
   have HB3:=hid (Trm.go HBB.out b3)
   have HBY:=hid (Trm.go HB3.out hby)
   have HYB:=hid hyb
   have HXY:=hid (Lvl.keep (Trm.go b3 hby) HX0.out)
   have HAY:=hid (Lvl.keep (Trm.go b3 hby) HBA.out)
   have HOW:=hid (own_below hown hby)
   have hlowO:∀ q,v.ownBlock=some q→WB.heap.size≤q∧q < w3.heap.size:=fun q hq=>own_low hown hq
   have HLO:=hid hlowO
   have HF3:=hid f3
   have HALL:=hid hall
   have HPS:=hid hps
   obtain ⟨g0,g1,g2,g3,g4⟩:=five_cells (show wy.heap[w3.heap.size]?=some (.cells #[.int .u8 g.k,.int .i64 g.n,.string g.s,.slice hg.lo g.ls.length hg.lc,.slice hg.to g.ts.length hg.tc] 25) from hyb)
   obtain ⟨x0,x1,x2,x3,x4⟩:=five_cells HXY.out
   obtain ⟨z0,z1,z2,z3,z4⟩:=HCX.out.below HBY.out hb
   obtain ⟨a0,a1,a2,a3,a4⟩:=five_cells HAY.out
   obtain ⟨f0,f1,f2,f3',f4⟩:=five_free HAY.out
   have hlw3:w3.heap.size < wy.heap.size:=(Array.getElem?_eq_some_iff.1 hyb).1
   have hbw3:b < w3.heap.size:=by omega
   have HZ3:=hid hby
   clear hyb hby b3 f3 hps hown hall hlowO y0 y1 y2 y3 y4
   have ew:w3.alloc (.cells #[.int .u8 g.k,.int .i64 g.n,.string g.s,.slice hg.lo g.ls.length hg.lc,.slice hg.to g.ts.length hg.tc] 25)=wy:=hwy.symm
   dsimp only [Tm.val,Tm.vals]
   go_upto_region 4 with fail
   first | rw [ew] | rw [← hwy]
   clear ew hwy
   have hone:∀ q ∈ (x.vals hx0).toList,q.oneCell'=true:=fun q hq=>by
    simp [Tm.vals] at hq
    rcases hq with rfl | rfl | rfl | rfl | rfl <;> rfl
   have five_pos:Hid (0 < 5):=hid (by decide)
   have hpm:ps.length≤4096:=by have:=HN.out; rw [← HPS.out,List.length_map] at this; exact this
   have hq1:Hid (ps.length + 1≤maxLen):=hid (by unfold maxLen; omega)
   have hq2:Hid ((ps.length + 1) * 80≤140737488355328):=hid (by omega)
   have HZY:=hid (show WB.heap.size≤wy.heap.size by omega)
   clear hpm
   have NE1:Hid (w3.heap.size ≠ w.heap.size + 1):=hid (by omega)
   have NE2:Hid (w.heap.size ≠ w.heap.size + 1):=hid (by omega)
   have NE3:Hid (b ≠ w.heap.size + 1):=hid (by omega)
   go_region_held3 (fun w'=>w'.cell? ⟨w3.heap.size,0,none⟩=some (.int .u8 g.k)∧w'.cell? ⟨w3.heap.size,1,none⟩=some (.int .i64 g.n)∧w'.cell? ⟨w3.heap.size,2,none⟩=some (.string g.s)∧w'.cell? ⟨w3.heap.size,3,none⟩=some (.slice hg.lo g.ls.length hg.lc)∧w'.cell? ⟨w3.heap.size,4,none⟩=some (.slice hg.to g.ts.length hg.tc)∧w'.cell? ⟨w.heap.size,4,none⟩=some (.slice (some ⟨b,off,none⟩) 2 h.tc)∧w'.cell? ⟨b,off + 5,none⟩=some (.int .u8 x.k)∧w'.cell? ⟨b,off + 5 + 1,none⟩=some (.int .i64 x.n)∧w'.cell? ⟨b,off + 5 + 2,none⟩=some (.string x.s)∧w'.cell? ⟨b,off + 5 + 3,none⟩=some (.slice hx0.lo x.ls.length hx0.lc)∧w'.cell? ⟨b,off + 5 + 4,none⟩=some (.slice hx0.to x.ts.length hx0.tc))
    (first | with_reducible exact ⟨g0,g1,g2,g3,g4,x4,z0,z1,z2,z3,z4⟩ | exact HS5.out _ _ _ _ _ | go_keep)
    (first
      | (refine step_append_lies _ (by rfl) _ _ _ (by rfl) WB.heap.size 25 i0 _ 5 80 Tryz.underlying23 hi hz0 hz1 hz2 rfl five_pos.out _ _ _ (by rfl) (own_below HOW.out (show Below wy.heap.size wy (wy.drew.alloc (.cells #[.int .u8 x.k,.int .i64 x.n,.string x.s,.slice hx0.lo x.ls.length hx0.lc,.slice hx0.to x.ts.length hx0.tc] 25)) from (Below.refl _ _).drew.alloc (Nat.le_refl _) _)) ⟨wy.heap.size,0,none⟩ 1 1 (x.vals hx0).toList (by rfl) (by rfl) (World.news_of_block (cs:=x.vals hx0) (t:=25) (fr:=(0,0)) (World.alloc_heap_new wy.drew _)) hone Nat.one_pos hq1.out hq2.out (show WB.heap.size≤(wy.alloc _).heap.size by rw [World.size_alloc]; exact Nat.le_succ_of_le HZY.out) (wy.heap.size + 1) (World.size_alloc _ _) ?_; intro g5 cap5 w5 hown5 hgrow5 hat5 hlt5; have HK5:=hid (grown_old hgrow5); have A5:=hid ((HK5.out (w.heap.size + 1) (by omega) (fun e=>by have:=HLO.out _ e; omega)).trans HAY.out); have G5:=hid ((HK5.out w3.heap.size (by omega) (fun e=>by have:=HLO.out _ e; omega)).trans HYB.out); have X5:=hid ((HK5.out w.heap.size (by omega) (fun e=>by have:=HLO.out _ e; omega)).trans HXY.out); have C5:=hid (tcells_same (HK5.out b (by omega) (fun e=>by have:=HLO.out _ e; omega)) (HCX.out.below HBY.out HB.out)); obtain ⟨a0,a1,a2,a3,a4⟩:=five_cells A5.out; obtain ⟨f0,f1,f2,f3',f4⟩:=five_free A5.out; obtain ⟨g0,g1,g2,g3,g4⟩:=five_cells G5.out; obtain ⟨x0,x1,x2,x3,x4⟩:=five_cells X5.out; obtain ⟨z0,z1,z2,z3,z4⟩:=C5.out; have n1:w3.heap.size ≠ w.heap.size + 1:=NE1.out; have n2:w.heap.size ≠ w.heap.size + 1:=NE2.out; have n3:b ≠ w.heap.size + 1:=NE3.out; have HS5:=hid (fun (v0 v1 v2 v3 v4:Value)=>(show (putT w5 (w.heap.size + 1) v0 v1 v2 v3 v4).cell? ⟨w3.heap.size,0,none⟩=some (.int .u8 g.k)∧(putT w5 (w.heap.size + 1) v0 v1 v2 v3 v4).cell? ⟨w3.heap.size,1,none⟩=some (.int .i64 g.n)∧(putT w5 (w.heap.size + 1) v0 v1 v2 v3 v4).cell? ⟨w3.heap.size,2,none⟩=some (.string g.s)∧(putT w5 (w.heap.size + 1) v0 v1 v2 v3 v4).cell? ⟨w3.heap.size,3,none⟩=some (.slice hg.lo g.ls.length hg.lc)∧(putT w5 (w.heap.size + 1) v0 v1 v2 v3 v4).cell? ⟨w3.heap.size,4,none⟩=some (.slice hg.to g.ts.length hg.tc)∧(putT w5 (w.heap.size + 1) v0 v1 v2 v3 v4).cell? ⟨w.heap.size,4,none⟩=some (.slice (some ⟨b,off,none⟩) 2 h.tc)∧(putT w5 (w.heap.size + 1) v0 v1 v2 v3 v4).cell? ⟨b,off + 5,none⟩=some (.int .u8 x.k)∧(putT w5 (w.heap.size + 1) v0 v1 v2 v3 v4).cell? ⟨b,off + 5 + 1,none⟩=some (.int .i64 x.n)∧(putT w5 (w.heap.size + 1) v0 v1 v2 v3 v4).cell? ⟨b,off + 5 + 2,none⟩=some (.string x.s)∧(putT w5 (w.heap.size + 1) v0 v1 v2 v3 v4).cell? ⟨b,off + 5 + 3,none⟩=some (.slice hx0.lo x.ls.length hx0.lc)∧(putT w5 (w.heap.size + 1) v0 v1 v2 v3 v4).cell? ⟨b,off + 5 + 4,none⟩=some (.slice hx0.to x.ts.length hx0.tc) from ⟨putT_cell g0 n1 v0 v1 v2 v3 v4,putT_cell g1 n1 v0 v1 v2 v3 v4,putT_cell g2 n1 v0 v1 v2 v3 v4,putT_cell g3 n1 v0 v1 v2 v3 v4,putT_cell g4 n1 v0 v1 v2 v3 v4,putT_cell x4 n2 v0 v1 v2 v3 v4,putT_cell z0 n3 v0 v1 v2 v3 v4,putT_cell z1 n3 v0 v1 v2 v3 v4,putT_cell z2 n3 v0 v1 v2 v3 v4,putT_cell z3 n3 v0 v1 v2 v3 v4,putT_cell z4 n3 v0 v1 v2 v3 v4⟩))))
   have h5:=putT_self A5.out (.int .u8 g.k) (.int .i64 g.n) (.string g.s) (.slice hg.lo g.ls.length hg.lc) (.slice hg.to g.ts.length hg.tc)
   have BG:=hid (grown_below (B:=w.heap.size) hgrow5 (by omega) (fun q e=>by have:=HLO.out q e; omega))
   have b5:=putT_below (HBY.out.trans BG.out) (by omega:w.heap.size≤w.heap.size + 1) (.int .u8 g.k) (.int .i64 g.n) (.string g.s) (.slice hg.lo g.ls.length hg.lc) (.slice hg.to g.ts.length hg.tc)
   have r5:=putT_ran w5 (w.heap.size + 1) (.int .u8 g.k) (.int .i64 g.n) (.string g.s) (.slice hg.lo g.ls.length hg.lc) (.slice hg.to g.ts.length hg.tc)
   have o5:=own_same (base':=w.heap.size) hown5 (by omega) (fun q hl hq=>r5.block q hl (by omega))
   have z5:Below w.heap.size wy (putT w5 (w.heap.size + 1) (.int .u8 g.k) (.int .i64 g.n) (.string g.s) (.slice hg.lo g.ls.length hg.lc) (.slice hg.to g.ts.length hg.tc)):=BG.out.trans (r5.below (B:=w.heap.size) (by omega) (Nat.le_trans HBY.out.size BG.out.size))
   unfold putT at h5 b5 r5 o5 z5
   clear HS5
   generalize hW:((((w5.setCell ⟨w.heap.size + 1,0,none⟩ (.int .u8 g.k)).setCell ⟨w.heap.size + 1,1,none⟩ (.int .i64 g.n)).setCell ⟨w.heap.size + 1,2,none⟩ (.string g.s)).setCell ⟨w.heap.size + 1,3,none⟩ (.slice hg.lo g.ls.length hg.lc)).setCell ⟨w.heap.size + 1,4,none⟩ (.slice hg.to g.ts.length hg.tc)=W6 at h5 b5 r5 o5 z5 ⊢
   have H5:=hid h5
   have O5:=hid o5
   have B5:=hid b5
   have Z5:=hid (show Below w.heap.size w3 W6 from ((HZ3.out).mono (by have:=HB3.out.size; omega)).trans z5)
   obtain ⟨e0,e1,e2,e3,e4⟩:=five_cells h5
   clear hW h5 b5 r5 o5 z5 hown5 hgrow5 g0 g1 g2 g3 g4 x0 x1 x2 x3 x4 z0 z1 z2 z3 z4 a0 a1 a2 a3 a4 f0 f1 f2 f3' f4
   go_wp2_with fail
   refine bodyPost_ret (v:=.tuple #[g.val hg,.slice (some ⟨g5,0,none⟩) (ps.length + 1) cap5]) (by simp [results,Tryz.results22,go_sem,e0,e1,e2,e3,e4,Tm.val,Tm.vals]) rfl ⟨hg,_,ps ++ [(x,hx0)],rfl,?_,by rw [List.map_append,HPS.out]; rfl,?_,fun p hp=>?_,B5.out⟩
   ·exact (HF3.out.less (fun q _ hq=>by
     rcases hq with hq | hq
     ·exact Or.inl ⟨Or.inl hq,by have:=HP.out q hq; omega⟩
     ·by_cases hz:q < WB.heap.size
      ·exact Or.inl ⟨Or.inr hq,hz⟩
      ·exact Or.inr (by omega))).step (ran_new Z5.out)
   ·rw [flat_snoc,List.length_append]
    exact O5.out
   ·rcases List.mem_append.1 hp with hp | hp
    ·exact ((HALL.out p hp).less (fun q _ hq=>by
      rcases hq with hq | hq
      ·exact Or.inl ⟨Or.inl hq,by have:=HP.out q hq; omega⟩
      ·by_cases hz:q < WB.heap.size
       ·exact Or.inl ⟨Or.inr hq,hz⟩
       ·exact Or.inr (by omega))).step (ran_new Z5.out)
    ·simp at hp
     subst hp
     exact firm_turnE HFX.out (RanS.of_below B5.out) (fun q a=>a)
end Go.Proofs.YtmngddomnaaedaaGreat
namespace Go.Proofs.YtmngddomnaaedaaGreat
open Go.RowKit Go.Shelf Go.Maps Lvl Trm Env
namespace Typ
def gDel:List (Bool × List Ch)→Option (Sl × Bool)
 | [(false,[.env L]),(true,a)]=>match toTm a with
   | some t=>some (tmE (dlt L t),true)
   | none=>none
 | _=>none
def gIot:List (Bool × List Ch)→Option (Sl × Bool)
 | [(false,[.env L]),(true,a),(true,b)]=>match toTm a,toTm b with
   | some t,some m=>some (tmE (iot L t m),decide ((rcr L (spM t).1 ((spM t).2.length:Int)).1.rules.length≤1000000) && iotC L t m)
   | _,_=>none
 | _=>none
def gFld:List (Bool × List Ch)→Option (Sl × Bool)
 | [(false,[.env L]),(false,[.dat (.string s)]),(false,[.dat (.int .i64 n)]),(true,a)]=>match toTm a with
   | some t=>some (fdS (fldA L s n t),decide (s.size≤9223372036854775807) && fldC L n t)
   | none=>none
 | _=>none
def gRsp:List (Bool × List Ch)→Option (Sl × Bool)
 | [(true,a)]=>match toTm a with
   | some t=>some (.tup [(true,[.tm (spM t).1]),(false,[.tmsC (spM t).2])],t.may)
   | none=>none
 | _=>none
theorem spM_appl {t:Tm} (hm:t.may=true):appl (spM t).1 (spM t).2=t:=by
 unfold spM
 rw [if_pos hm]
 exact spn_is 65536 t [] 1 (OkMay.start hm)
theorem spn_head:∀ (n:Nat) (t:Tm) (l:List Tm) (d:Int),OkMay t d→(4096 - d).toNat < n→(spn n t l).1.k ≠ 4
 | 0,_,_,_,_,h=>absurd h (by omega)
 | n + 1,t,l,d,ho,hn=>by
   by_cases hk:t.k=4
   ·obtain ⟨f,x,rfl⟩:=node_app ho.node.1 hk
    have hf:=ho.down f (by simp [t2,Tm.ts])
    have h1:=ho.node.2
    have h2:=hf.node.2
    exact spn_head n f (x :: l) (d + 1) hf (by omega)
   ·rw [spn_stop hk]
    exact hk
theorem spM_head (t:Tm):(spM t).1.k ≠ 4:=by
 unfold spM
 split
 ·rename_i hm
  exact spn_head 65536 t [] 1 (OkMay.start hm) (by decide)
 ·decide
theorem rsp_made [Typ.Xt] (P:Nat→Prop) (t:Tm) (h:Hd) (w:World) (hP:Typ.Lt P w) (f:FirmS P w t h) (hm:t.may=true) :
 Calls Tryz.prog 22 #[t.val h] w (MadeV P w (.tup [(true,[.tm (spM t).1]),(false,[.tmsC (spM t).2])])):=by
 have e:=spM_appl hm
 have f2:=f
 rw [← e] at f2
 have hc:=RefSpF_any (spM t).1 (spM_head t) _ (spM t).2 rfl P h w hP (spM_len t) f2
 rw [e] at hc
 refine hc.mono ?_
 rintro y w' ⟨hg,v,ps,rfl,f3,hps,hown,hall,b⟩
 have key:∃ lo lc,v=.slice lo (spM t).2.length lc∧RowP P w' lo (spM t).2∧(spM t).2.length≤lc:=by
  rw [← hps,List.length_map]
  have hown2:=hown
  obtain ⟨_,⟨hv,h0⟩ | ⟨g,cap,cur,hv,hbg,hg2,hcap,_⟩⟩:=hown
  ·subst hv
   have:=List.eq_nil_of_length_eq_zero h0
   subst this
   exact ⟨none,0,rfl,fun k hk=>by simp at hk,Nat.le_refl _⟩
  ·subst hv
   obtain ⟨_,_,htb⟩:=block_of_own hown2
   exact ⟨_,cap,rfl,TBlock.rowP htb (fun a=>by have:=hP g a; omega) (fun p hp=>(hall p hp).less (fun q _ a=>Or.inl a)),hcap⟩
 obtain ⟨lo,lc,rfl,k1,k2⟩:=key
 exact ⟨_,rfl,b,[_,_],rfl,_,_,rfl,vok_tm (f3.less (fun q _ a=>Or.inl a)),_,_,rfl,⟨_,⟨[_],[],rfl,⟨lo,lc,rfl,k1,k2⟩,rfl⟩,Or.inr ⟨rfl,rfl⟩⟩,rfl⟩
noncomputable def sp24:Spec:=spCons 24 gDel <| spCons 21 gIot <| spCons 26 gFld <| spCons 22 gRsp sp21
theorem sp24_ok [Typ.Xt]:SpecOk sp24:=by
 refine spCons_ok (spCons_ok (spCons_ok (spCons_ok sp21_ok (by intro args w; kernel_rfl) ?rsp) (by intro args w; kernel_rfl) ?fld) (by intro args w; kernel_rfl) ?iot) (by intro args w; kernel_rfl) ?del
 case rsp =>
  intro ss r h P w vs hP hv
  unfold gRsp at h
  split at h
  ·split at h
   ·rename_i t ht
    simp only [Option.some.injEq,Prod.mk.injEq] at h
    obtain ⟨rfl,hm⟩:=h
    obtain ⟨v,rfl,h2⟩:=args1 hv
    obtain ⟨x,rfl,f⟩:=arg_tm ht h2
    exact rsp_made P t x w hP f hm
   ·cases h
  ·cases h
 case fld =>
  intro ss r h P w vs hP hv
  unfold gFld at h
  split at h
  ·rename_i L s n a
   split at h
   ·rename_i t ht
    simp only [Option.some.injEq,Prod.mk.injEq,Bool.and_eq_true,decide_eq_true_eq] at h
    obtain ⟨rfl,hs,hc⟩:=h
    obtain ⟨v1,y1,rfl,h1,v2,y2,rfl,h2,v3,y3,rfl,h3,v4,y4,rfl,h4,h5⟩:=hv
    exact Field_made P L s n t _ w hP ⟨_,_,rfl,h1,_,_,rfl,h2,_,_,rfl,h3,_,_,rfl,fix1 ht h4,h5⟩ hs hc
   ·cases h
  ·cases h
 case iot =>
  intro ss r h P w vs hP hv
  unfold gIot at h
  split at h
  ·rename_i L a b
   split at h
   ·rename_i t m ht hm
    simp only [Option.some.injEq,Prod.mk.injEq,Bool.and_eq_true,decide_eq_true_eq] at h
    obtain ⟨rfl,hr,hc⟩:=h
    obtain ⟨v1,y1,rfl,h1,v2,y2,rfl,h2,v3,y3,rfl,h3,h4⟩:=hv
    exact Iota_made P L t m _ w hP ⟨_,_,rfl,h1,_,_,rfl,fix1 ht h2,_,_,rfl,fix1 hm h3,h4⟩ hr hc
   ·cases h
  ·cases h
 case del =>
  intro ss r h P w vs hP hv
  unfold gDel at h
  split at h
  ·rename_i L a
   split at h
   ·rename_i t ht
    simp only [Option.some.injEq,Prod.mk.injEq,and_true] at h
    subst h
    obtain ⟨v1,y1,rfl,h1,v2,y2,rfl,h2,h4⟩:=hv
    exact Delta_made P L t _ w hP ⟨_,_,rfl,h1,_,_,rfl,fix1 ht h2,h4⟩
   ·cases h
  ·cases h
theorem one_num:(dlt Smp.smpL (tCo ⟨#[111,110,101]⟩ [])).1=Smp.num 1:=by kernel_rfl
theorem works_made [Typ.Xt]:WorksC:=by
 intro P w hP
 exact Typ.fn_ok (p:=⟨sp24,116,[(77,true)],[],true,[]⟩) (par_okC sp24_ok) Tryz.func16 rfl rfl (rs:=[.tmp 0]) rfl (by kernel_rfl) (ss:=[]) (r:=.val false [.dat (.bool true)]) (by simp) ((show _=some (_,((same (dlt Smp.smpL (tCo ⟨#[111,110,101]⟩ [])).1 (Smp.num 1) == true) && true)) by kernel_rfl).trans (by rw [one_num,same_iff.2 rfl]; rfl)) P w [] hP rfl
end Typ
end Go.Proofs.YtmngddomnaaedaaGreat
namespace Go.Proofs.YtmngddomnaaedaaGreat
open Go.RowKit Go.Shelf Go.Maps Lvl Trm Env
namespace Typ
def gMay3:List (Bool × List Ch)→Option (Sl × Bool)
 | [(true,a)]=>match toTm a with
   | some t=>some (.val false [.dat (.bool t.may)],true)
   | none=>none
 | _=>none
def gSize:List (Bool × List Ch)→Option (Sl × Bool)
 | [(true,a)]=>match toTm a with
   | some t=>some (.val false [.dat (.int .i64 t.size)],decide (t.size≤1000000000000))
   | none=>none
 | _=>none
noncomputable def sp25:Spec:=spCons 16 (gC (.val false [.dat (.bool true)])) <| spCons 13 gDeep <| spCons 14 gMay3 <| spCons 15 gSize sp24
theorem sp25_ok [Typ.Xt]:SpecOk sp25:=by
 refine spCons_ok (spCons_ok (spCons_ok (spCons_ok sp24_ok (by intro args w; kernel_rfl) ?size) (by intro args w; kernel_rfl) ?may) (by intro args w; kernel_rfl) ?deep) (by intro args w; kernel_rfl) (gC_ok works_made)
 case size =>
  intro ss r h P w vs hP hv
  unfold gSize at h
  split at h
  ·split at h
   ·rename_i t ht
    simp only [Option.some.injEq,Prod.mk.injEq,decide_eq_true_eq] at h
    obtain ⟨rfl,hz⟩:=h
    obtain ⟨v,rfl,h2⟩:=args1 hv
    obtain ⟨x,rfl,f⟩:=arg_tm ht h2
    refine (Size_any t x w hz f.here).mono ?_
    rintro e w' ⟨rfl,b⟩
    exact ⟨_,rfl,b,vok_int _⟩
   ·cases h
  ·cases h
 case may =>
  intro ss r h P w vs hP hv
  unfold gMay3 at h
  split at h
  ·split at h
   ·rename_i t ht
    simp only [Option.some.injEq,Prod.mk.injEq,and_true] at h
    subst h
    obtain ⟨v,rfl,h2⟩:=args1 hv
    obtain ⟨x,rfl,f⟩:=arg_tm ht h2
    refine (RefTMay_any t x w f.here).mono ?_
    rintro e w' ⟨rfl,b⟩
    exact ⟨_,rfl,b,vok_bool _⟩
   ·cases h
  ·cases h
 case deep =>
  intro ss r h P w vs hP hv
  unfold gDeep at h
  split at h
  ·split at h
   ·rename_i t ht
    simp only [Option.some.injEq,Prod.mk.injEq,and_true] at h
    subst h
    obtain ⟨v,rfl,h2⟩:=args1 hv
    obtain ⟨x,rfl,f⟩:=arg_tm ht h2
    refine (Deep_any t x w f.here).mono ?_
    rintro e w' ⟨rfl,b⟩
    exact ⟨_,rfl,b,vok_bool _⟩
   ·cases h
  ·cases h
end Typ
end Go.Proofs.YtmngddomnaaedaaGreat
