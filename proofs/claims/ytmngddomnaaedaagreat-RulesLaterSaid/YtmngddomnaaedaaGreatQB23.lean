/-
 env.put: an info,behind all others.
-/
import Derived.Lib.Hide
import Derived.Test.YtmngddomnaaedaaGreatQB1
import Derived.Test.YtmngddomnaaedaaGreatQB22
open Go.Lib (hid)
set_option maxRecDepth 100000
set_option maxHeartbeats 32000000
namespace Go.Proofs.YtmngddomnaaedaaGreat
open Go.RowKit Go.Shelf Go.Maps Lvl Trm Env
namespace Env
theorem infoStr:(Tryz.prog.info? 9).map (fun i=>(i.zero,i.size,i.bytes))=some (some (.string ⟨#[]⟩),1,16):=by kernel_rfl
theorem eqlSomeE (bm:Nat) (w:World):(binOp .eql 108 (.map (some bm)) (.map none)).run Tryz.prog w=.ok (.bool false) w:=by kernel_rfl
theorem eqlNilE (w:World):(binOp .eql 108 (.map none) (.map none)).run Tryz.prog w=.ok (.bool true) w:=by kernel_rfl
def zHd:Hd:=⟨none,0,none,0⟩
def fixI (L:List Ent) (x:Inf):Inf:={ x with height:=(if x.kind=2 then maxH L x.va.nms + 1 else 0),va:=(if x.hv=true then x.va else zeroT) }
theorem IBox.set13 {w:World} {b:Nat} {x:Inf} {h:IHd} (i:IBox w b x h) (z:Int):IBox (w.setCell ⟨b,13,none⟩ (.int .i64 z)) b { x with height:=z } h:=cells_setE (i:=13) i (.int .i64 z)
theorem IBox.setVa {w:World} {b:Nat} {x:Inf} {h:IHd} (i:IBox w b x h):IBox (putO w b 8 (.int .u8 0) (.int .i64 0) (.string ⟨#[]⟩) (.slice none 0 0) (.slice none 0 0)) b { x with va:=zeroT } { h with va:=zHd } :=
 cells_setE (i:=12) (cells_setE (i:=11) (cells_setE (i:=10) (cells_setE (i:=9) (cells_setE (i:=8) i (.int .u8 0)) (.int .i64 0)) (.string ⟨#[]⟩)) (.slice none 0 0)) (.slice none 0 0)
theorem IBox.free {w:World} {b:Nat} {x:Inf} {h:IHd} (i:IBox w b x h) (j:Nat):w.frozen? ⟨b,j,none⟩=false:=by
 have i2:w.heap[b]?=some (.cells (x.vals h).toArray 53):=i
 simp [World.frozen?,i2]
theorem FirmI.height {P:Nat→Prop} {w:World} {x:Inf} {h:IHd} (f:FirmI P w x h) (z:Int):FirmI P w { x with height:=z } h:=⟨⟨f.fit.k0,f.fit.k1,f.fit.name,f.fit.rules⟩,f.ty,f.va,f.rules⟩
theorem FirmI.noVa {P:Nat→Prop} {w:World} {x:Inf} {h:IHd} (f:FirmI P w x h):FirmI P w { x with va:=zeroT } { h with va:=zHd }:=⟨⟨f.fit.k0,f.fit.k1,f.fit.name,f.fit.rules⟩,f.ty,firm_zero,f.rules⟩
structure Mid (P2:Nat→Prop) (w W:World) (y:Inf) (h:IHd):Prop where
 box:IBox W w.heap.size y h
 firm:FirmI P2 W y h
 bel:Below w.heap.size w W
def PutPost (P:Nat→Prop) (B:Nat) (e:Nat) (L:List Ent) (x:Inf) (mo:Option Nat) (v:Value) (w:World) (y:Ending) (w':World):Prop :=
 y=.returned (.tuple #[])∧∃ mo' v' h',EnvB B w' e (L ++ [(w.heap.size,fixI L x,h')]) mo' v'∧(∀ q,ownE e v' mo' q→ownE e v mo q∨w.heap.size≤q)∧RanS (ownE e v mo) w w'∧FirmI (fun q=>P q∨ownE e v' mo' q) w' (fixI L x) h'
theorem TiedE.snoc {D:DataW Unit} {L:List Ent} (h:TiedE D L) {p:Ent} (hn:lookE L (ekey p)=none):TiedE (D.put (.string (ekey p)) (.lit (.int .i64 (p.1:Nat)))) (L ++ [p]) where
 isMap:=h.isMap.put _ _
 has x:=by
  by_cases e:x=ekey p
  ·subst e; rw [has_put_same h.isMap (show WideAt.IsKeyLit (.string _) from trivial)]; simp
  ·rw [has_put_other (fun e2=>e (by injection e2)),h.has x]
   constructor
   ·rintro ⟨q,hq,he⟩; exact ⟨q,by simp [hq],he⟩
   ·rintro ⟨q,hq,he⟩
    rcases List.mem_append.1 hq with hq | hq
    ·exact ⟨q,hq,he⟩
    ·simp at hq; subst hq; exact absurd he.symm e
 at_ q hq z:=by
  rcases List.mem_append.1 hq with hq | hq
  ·rw [atKey_put_other (fun e2=>lookE_none hn q hq (by injection e2)),h.at_ q hq]
  ·simp at hq; subst hq
   exact atKey_put_same h.isMap (show WideAt.IsKeyLit (.string _) from trivial) _ _
theorem fix_hgt {B:Nat} {w:World} {e:Nat} {L:List Ent} {mo:Option Nat} {v:Value} (h:EnvB B w e L mo v) (x:Inf):0≤(fixI L x).height∧(fixI L x).height≤(L.length:Int) + 1:=by
 have h1:=maxH_le (L:=L) (l:=x.va.nms) (M:=(L.length:Int)) (by omega) (fun p hp=>(h.hgt p hp).2)
 unfold fixI
 dsimp only
 split <;> omega
theorem EnvB.add {P P2:Nat→Prop} {B:Nat} {w W W9 w10:World} {e m g1 cap1:Nat} {L:List Ent} {mo:Option Nat} {v:Value} {D:DataW Unit} {o:Obj} {x:Inf} {h3:IHd} (h:EnvB B w e L mo v) (hM:Mid P2 w W (fixI L x) h3) (hP2:∀ q,ownE e v mo q→P2 q) (hPP:∀ q,P q→P2 q)
 (hm0:mo=some m∨(mo=none∧m=W.heap.size)) (hbox9:W9.heap[e]?=some (.cells #[.map (some m),v] 110))
 (hown9:W9.ownsMap Tryz.prog 9 ptrElem m (L.length + 1) (D.put (.string (key x.name)) (.lit (.int .i64 (w.heap.size:Nat))))) (htied:TiedE D L) (hran9:RanS (ownE e v mo) W W9)
 (hown10:w10.ownsRow B 9 1 (.slice (some ⟨g1,0,none⟩) (L.length + 1) cap1) (L.length + 1) ((L.map fun p=>.string p.2.1.name) ++ [.string x.name])) (hg10:(W9.drew.alloc o).grownBy w10 v.ownBlock) (hat:v.ownBlock=some g1∨g1=W9.heap.size + 1)
 (hnew:lookE L (key x.name)=none) (hl:L.length < 4096) :
 EnvB B (w10.setCell ⟨e,1,none⟩ (.slice (some ⟨g1,0,none⟩) (L.length + 1) cap1)) e (L ++ [(w.heap.size,fixI L x,h3)]) (some m) (.slice (some ⟨g1,0,none⟩) (L.length + 1) cap1)∧(∀ q,ownE e (.slice (some ⟨g1,0,none⟩) (L.length + 1) cap1) (some m) q→ownE e v mo q∨w.heap.size≤q)∧RanS (ownE e v mo) w (w10.setCell ⟨e,1,none⟩ (.slice (some ⟨g1,0,none⟩) (L.length + 1) cap1))∧FirmI (fun q=>P q∨ownE e (.slice (some ⟨g1,0,none⟩) (L.length + 1) cap1) (some m) q) (w10.setCell ⟨e,1,none⟩ (.slice (some ⟨g1,0,none⟩) (L.length + 1) cap1)) (fixI L x) h3:=by
 have hsW:=hM.bel.size
 have hs9:=hran9.size
 have hs10:=hg10.size
 rw [World.size_alloc] at hs10
 have hs10':W9.heap.size + 1≤w10.heap.size:=hs10
 have heW:e < w.heap.size:=h.own_lt e (Or.inl rfl)
 have hXW:w.heap.size < W.heap.size:=hM.box.lt
 have hmr:∀ q,v.ownBlock=some q→q < w.heap.size∧q ≠ e∧q ≠ m:=fun q hq=>by
  refine ⟨(h.row.lt q hq).2,fun a=>h.apart.1 (a ▸ hq),fun a=>?_⟩
  rcases hm0 with hm | ⟨_,hm⟩
  ·exact h.apart.2.2 q hq (a ▸ hm)
  ·have:=(h.row.lt q hq).2; omega
 have hme:m ≠ e:=fun a=>by
  rcases hm0 with hm | ⟨_,hm⟩
  ·exact h.apart.2.1 (a ▸ hm)
  ·omega
 have hm9:m < W9.heap.size:=hown9.lt
 have hge:g1 ≠ e:=by
  rcases hat with a | a
  ·exact (hmr _ a).2.1
  ·omega
 have hgm:g1 ≠ m:=by
  rcases hat with a | a
  ·exact (hmr _ a).2.2
  ·omega
 have r10:RanS (fun q=>v.ownBlock=some q) W9 w10:=⟨hg10.os,hg10.tape,hg10.output,by omega,fun k hk hn=>by
  have h1:=hg10.block k (by rw [World.size_alloc]; show k < W9.heap.size + 1; omega) (fun a=>hn a.symm)
  have h2:(W9.drew.alloc o).heap[k]?=W9.drew.heap[k]?:=(below_one W9.drew o).block k hk
  exact h1.trans h2⟩
 have r11:=set_ranE (P:=fun q=>q=e) w10 e 1 (.slice (some ⟨g1,0,none⟩) (L.length + 1) cap1) rfl
 have rall:RanS (ownE e v mo) W (w10.setCell ⟨e,1,none⟩ (.slice (some ⟨g1,0,none⟩) (L.length + 1) cap1)):=(hran9.trans (r10.wide (fun q hq=>Or.inr (Or.inl hq)))).trans (r11.wide (fun q hq=>Or.inl hq))
 have rw0:RanS (ownE e v mo) w (w10.setCell ⟨e,1,none⟩ (.slice (some ⟨g1,0,none⟩) (L.length + 1) cap1)):=(RanS.of_below hM.bel).trans rall
 have hown':∀ q,ownE e (.slice (some ⟨g1,0,none⟩) (L.length + 1) cap1) (some m) q→ownE e v mo q∨W.heap.size≤q:=by
  rintro q (hq | hq | hq)
  ·exact Or.inl (Or.inl hq)
  ·injection hq with hq
   have hq2:g1=q:=hq
   subst hq2
   rcases hat with a | a
   ·exact Or.inl (Or.inr (Or.inl a))
   ·exact Or.inr (by omega)
  ·injection hq with hq
   subst hq
   rcases hm0 with a | ⟨_,a⟩
   ·exact Or.inl (Or.inr (Or.inr a))
   ·exact Or.inr (by omega)
 have hownw:∀ q,ownE e (.slice (some ⟨g1,0,none⟩) (L.length + 1) cap1) (some m) q→ownE e v mo q∨w.heap.size≤q:=fun q hq=>(hown' q hq).imp id (fun a=>by omega)
 have keyb:∀ {b:Nat} {y:Inf} {hd:IHd},IBox W b y hd→¬ ownE e v mo b→IBox (w10.setCell ⟨e,1,none⟩ (.slice (some ⟨g1,0,none⟩) (L.length + 1) cap1)) b y hd:=fun hb hn=>rall.keep hb hn
 refine ⟨⟨?_,?_,Or.inr ⟨m,_,rfl,?_,htied.snoc (p:=(w.heap.size,fixI L x,h3)) hnew⟩,?_,?_,?_,⟨?_,?_,?_⟩,h.eB,?_,by simp; omega⟩,hownw,rw0,hM.firm.turn (rall.wide hP2) (fun q hq=>hq.elim (fun a=>Or.inl (hPP q a)) (fun a=>(hown' q a).imp (hP2 q) id))⟩
 ·have hb10:w10.heap[e]?=some (.cells #[.map (some m),v] 110):=r10.keep hbox9 (fun a=>(hmr e a).2.1 rfl)
  exact cells_setE (i:=1) hb10 (.slice (some ⟨g1,0,none⟩) (L.length + 1) cap1)
 ·rw [List.length_append,List.length_singleton,List.map_append]
  refine row_same hown10 fun q hq=>?_
  injection hq with hq
  have hq2:g1=q:=hq
  subst hq2
  exact RowKit.Below.heap_setCell _ ⟨e,1,none⟩ _ _ (show g1 ≠ (⟨e,1,none⟩:Addr).block from hge)
 ·rw [List.length_append,List.length_singleton]
  have e1:(w10.setCell ⟨e,1,none⟩ (.slice (some ⟨g1,0,none⟩) (L.length + 1) cap1)).heap[m]?=W9.heap[m]?:=(RowKit.Below.heap_setCell _ ⟨e,1,none⟩ _ _ (show m ≠ (⟨e,1,none⟩:Addr).block from hme)).trans (r10.block m hm9 (fun a=>(hmr m a).2.2 rfl))
  exact ⟨hown9.choose,hown9.choose_spec.choose,e1.trans hown9.choose_spec.choose_spec.1,hown9.choose_spec.choose_spec.2⟩
 ·intro p hp
  rcases List.mem_append.1 hp with hp | hp
  ·obtain ⟨h1,h2⟩:=h.info p hp
   have hlt:=h1.lt
   exact ⟨keyb (h1.keep hM.bel) h2,fun a=>by rcases hown' _ a with b | b; exact h2 b; omega⟩
  ·simp at hp; subst hp
   have hno:¬ ownE e v mo w.heap.size:=fun a=>by have:=h.own_lt _ a; omega
   exact ⟨keyb hM.box hno,fun a=>by rcases hown' _ a with b | b; exact hno b; simp at b; omega⟩
 ·intro p hp
  rcases List.mem_append.1 hp with hp | hp
  ·exact (h.firm p hp).turn rw0 hownw
  ·simp at hp; subst hp
   exact hM.firm.turn (rall.wide hP2) (fun q hq=>(hown' q hq).imp (hP2 q) id)
 ·rw [List.map_append,List.nodup_append]
  refine ⟨h.nodup,by simp,?_⟩
  intro a ha b hb hab
  simp at hb
  subst hb
  obtain ⟨p,hp,rfl⟩:=List.mem_map.1 ha
  exact lookE_none hnew p hp hab
 ·intro a; injection a with a; exact hge a
 ·intro a; injection a with a; exact hme a
 ·intro q hq a
  injection hq with hq
  injection a with a
  have hq2:g1=q:=hq
  exact hgm (hq2.trans a.symm)
 ·intro p hp
  rw [List.length_append,List.length_singleton]
  rcases List.mem_append.1 hp with hp | hp
  ·have:=h.hgt p hp; omega
  ·simp at hp; subst hp
   have:=fix_hgt h x
   simp; omega
end Env
theorem put_any {P:Nat→Prop} {B:Nat} {w:World} {e:Nat} {L:List Ent} {mo:Option Nat} {v:Value} (h:EnvB B w e L mo v) (hPo:∀ q,ownE e v mo q→P q) (hPl:∀ q,P q→q < w.heap.size) (x:Inf) (hd:IHd) (hf:FirmI P w x hd) (hn:x.rules.length≤1000) (hs:x.name.size≤maxLen) (hnew:lookE L (key x.name)=none) (hmay:x.kind=2→x.va.may=true) (hl:L.length < 4096) :
 Calls Tryz.prog 60 #[.pointer (some ⟨e,0,none⟩),.agg (x.vals hd).toArray] w (PutPost P B e L x mo v w):=by
 obtain ⟨W1,hW1⟩:∃ W1,W1=w.alloc (.cells (x.vals hd).toArray 53):=⟨_,rfl⟩
 have HB1:=hid (show Below w.heap.size w W1 from hW1 ▸ below_one _ _)
 have HX1:=hid (show IBox W1 w.heap.size x hd from hW1 ▸ World.alloc_heap_new _ _)
 have hs1:W1.heap.size=w.heap.size + 1:=by rw [hW1]; simp
 obtain ⟨P2,hP2⟩:∃ P2:Nat→Prop,P2=fun q=>P q∨q=w.heap.size:=⟨_,rfl⟩
 have HF1:=hid (show FirmI P2 W1 x hd from hf.turn (RanS.of_below HB1.out) (fun q hq=>by rw [hP2] at hq; rcases hq with a | a; exact Or.inl a; exact Or.inr (by omega)))
 have HPA:=hid (show P2 w.heap.size from by rw [hP2]; exact Or.inr rfl)
 have HPS:=hid (show ∀ q,ownE e v mo q→P2 q from fun q hq=>by rw [hP2]; exact Or.inl (hPo q hq))
 have HPP:=hid (show ∀ q,P q→P2 q from fun q hq=>by rw [hP2]; exact Or.inl hq)
 have HOW:=hid (owned_any x hd HF1.out (fun q hq=>by rw [hP2] at hq; rcases hq with a | a; have:=hPl q a; omega; omega) hn)
 have HENV:=hid h
 have HS:=hid hs
 have HNEW:=hid hnew
 have HMAY:=hid hmay
 have HL:=hid hl
 have HKI:Hid ((Tryz.prog.info? 53).map (·.size)=some 25):=hid infoInf
 obtain ⟨cs,hcs⟩:∃ cs,cs=x.vals hd:=⟨_,rfl⟩
 have hcl:cs.length=25:=by rw [hcs]; rfl
 have HRG:=hid (show W1.rangeAt w.heap.size 0 cs from by rw [hcs]; exact HX1.out.range)
 have HCL:Hid ((Tryz.prog.info? 53).map (·.size)=some cs.length):=hid (by rw [HKI.out,hcl])
 have HHX:=hid (show W1.heap[w.heap.size]?=some (.cells cs.toArray 53) from by rw [hcs]; exact HX1.out)
 have HCZ:=hid (show cs.toArray.size=25 from by rw [List.size_toArray,hcl])
 rw [← hcs] at hW1 HOW ⊢
 clear h hf hn hs hnew hmay hl hcs hcl hP2 hs1 hPo hPl
 go_enter Tryz.func60,Tryz.ntmps60
 go_upto_region 1 with fail
 rw [← hW1]
 clear hW1
 go_wp2_with (refine wpList_load_mid rfl 53 (.tmp 3) rfl w.heap.size 0 rfl cs _ HRG.out Tryz.underlying53 rfl HCL.out ?_)
 refine HOW.out.mono ?_
 rintro y w2 ⟨h2,rfl,hf2,b2⟩
 have HX2:=hid (Lvl.keep b2 HHX.out)
 obtain ⟨W3,hW3⟩:∃ W3,W3=w2.setRow w.heap.size (x.vals h2).toArray:=⟨_,rfl⟩
 have hr3:RanS (fun q=>q=w.heap.size) w2 W3:=by
  rw [hW3]
  have hb:=below_setRow (Below.refl w.heap.size w2) (Nat.le_refl _) (x.vals h2).toArray
  refine ⟨hb.os,hb.tape,hb.output,hb.size,fun q _ hq=>?_⟩
  have hne:q ≠ w.heap.size:=hq
  simp [World.setRow,Array.getElem?_modify,Ne.symm hne]
 have HM3:=hid (show Mid P2 w W3 x h2 from ⟨by rw [hW3]; exact setRow_heap w2 _ _ _ _ _ HX2.out,hf2.step (hr3.wide (fun q hq=>by rw [hq]; exact HPA.out)),by rw [hW3]; exact below_setRow (Trm.go HB1.out b2) (Nat.le_refl _) _⟩)
 obtain ⟨c2,hc2⟩:∃ c2,c2=(x.vals h2).toArray:=⟨_,rfl⟩
 have hsz:c2.size=25:=by rw [hc2]; rfl
 have HCA:Hid ((Tryz.prog.info? 53).map (·.size)=some c2.size):=hid (by rw [HKI.out,hsz])
 have HC25:Hid (cs.toArray.size=c2.size):=hid (by rw [hsz]; exact HCZ.out)
 have HONE:=hid (show c2.all (·.oneCell')=true from by rw [hc2]; exact vals_one _ _)
 rw [← hc2] at hW3 ⊢
 clear hf2 b2 hr3 hc2 hsz
 go_upto_region 2 with (refine wpList_store_row rfl 53 (.tmp 3) (.tmp 5) rfl w.heap.size c2 rfl rfl 53 cs.toArray HX2.out HCA.out HC25.out HONE.out ?_)
 rw [← hW3]
 clear hW3
 have c13:W3.cell? ⟨w.heap.size,13,none⟩=some (.int .i64 x.height):=HM3.out.box.cell 13
 have f13:=HM3.out.box.free 13
 obtain ⟨W4,hW4⟩:∃ W4,W4=W3.setCell ⟨w.heap.size,13,none⟩ (.int .i64 0):=⟨_,rfl⟩
 have HM4:=hid (show Mid P2 w W4 { x with height:=0 } h2 from ⟨by rw [hW4]; exact HM3.out.box.set13 0,by rw [hW4]; exact (HM3.out.firm.step (set_ranE _ _ _ _ HPA.out)).height 0,by rw [hW4]; exact HM3.out.bel.trans ((set_ranE (P:=fun q=>q=w.heap.size) _ _ _ _ rfl).below (fun q hq=>by omega) HM3.out.bel.size)⟩)
 go_upto_region 3 with fail
 rw [← hW4]
 clear hW4 c13 f13
 have c0:W4.cell? ⟨w.heap.size,0,none⟩=some (.int .u8 x.kind):=HM4.out.box.cell 0
 by_cases hk:x.kind=2
 ·have hkb:(x.kind == 2)=true:=by simp [hk]
  obtain ⟨c8,c9,c10,c11,c12⟩:W4.cell? ⟨w.heap.size,8,none⟩=some (.int .u8 x.va.k)∧W4.cell? ⟨w.heap.size,9,none⟩=some (.int .i64 x.va.n)∧W4.cell? ⟨w.heap.size,10,none⟩=some (.string x.va.s)∧W4.cell? ⟨w.heap.size,11,none⟩=some (.slice h2.va.lo x.va.ls.length h2.va.lc)∧W4.cell? ⟨w.heap.size,12,none⟩=some (.slice h2.va.to x.va.ts.length h2.va.tc):=t_cells x.va h2.va HM4.out.box.va
  have hh:=height_any (HENV.out.below HM4.out.bel) x.va h2.va HM4.out.firm.va.here (HMAY.out hk)
  have HMX:=hid (maxH_le (L:=L) (l:=x.va.nms) (M:=4096) (by omega) (fun p hp=>by have:=(HENV.out.hgt p hp).2; have:=HL.out; omega))
  have HMX2:=hid (maxH_le (L:=L) (l:=x.va.nms) (M:=(L.length:Int)) (by omega) (fun p hp=>(HENV.out.hgt p hp).2))
  obtain ⟨M,hM⟩:∃ M,M=maxH L x.va.nms:=⟨_,rfl⟩
  rw [← hM] at hh HMX HMX2
  have HMM:=hid hM
  have HH:=hid hh
  unfold Tm.val Tm.vals at HH
  clear hh hM
  have HK:=hid hk
  rw [hk] at c0
  clear hk hkb
  go_wp2_with fail
  refine HH.out.mono ?_
  rintro y w5 ⟨rfl,b5⟩
  have HM5:=hid (show Mid P2 w w5 { x with height:=0 } h2 from ⟨HM4.out.box.keep b5,HM4.out.firm.step (RanS.of_below b5),Trm.go HM4.out.bel b5 |> fun _=>HM4.out.bel.trans (b5.mono HM4.out.bel.size)⟩)
  have c13:w5.cell? ⟨w.heap.size,13,none⟩=some (.int .i64 0):=HM5.out.box.cell 13
  have f13:=HM5.out.box.free 13
  have hwM:wrap64 (M + 1)=M + 1:=IntWalk.wrap64_in _ (by have:=HMX.out; omega)
  have hwM2:IntKind.i64.wrap (M + 1)=M + 1:=IntWalk.i64_in _ (by have:=HMX.out; omega)
  obtain ⟨W,hW⟩:∃ W,W=w5.setCell ⟨w.heap.size,13,none⟩ (.int .i64 (M + 1)):=⟨_,rfl⟩
  have HMW:=hid (show Mid P2 w W (fixI L x) h2 from by
   have he:({ ({ x with height:=0 }:Inf) with height:=M + 1 }:Inf)=fixI L x:=by unfold fixI; rw [if_pos HK.out,if_pos (show x.hv=true from by unfold Inf.hv; rw [HK.out]; rfl),← HMM.out]
   rw [← he,hW]
   exact ⟨HM5.out.box.set13 _,(HM5.out.firm.step (set_ranE _ _ _ _ HPA.out)).height _,HM5.out.bel.trans ((set_ranE (P:=fun q=>q=w.heap.size) _ _ _ _ rfl).below (fun q hq=>by omega) HM5.out.bel.size)⟩)
  have HHV:=hid (hasValue_any HMW.out.box)
  have hhv:(fixI L x).hv=true:=by unfold fixI Inf.hv; rw [HK.out]; rfl
  rw [hhv] at HHV
  obtain ⟨h3,hh3⟩:∃ h3,h3=h2:=⟨_,rfl⟩
  rw [← hh3] at HMW
  clear b5 hhv hh3 c0 c8 c9 c10 c11 c12
  go_upto_region 5 with fail
  rw [← hW]
  clear hW c13 f13 hwM hwM2
  go_wp2_with fail
  refine HHV.out.mono ?_
  rintro y w' ⟨rfl,rfl⟩
  go_upto_region 7 with fail
  clear HX1 HX2 HHX HM3 HM4 HF1 HOW HRG HCL HCA HC25 HONE HCZ
  have henv:=HENV.out.below HMW.out.bel
  obtain ⟨ao,cp,hv⟩:=row_slice henv.row
  have HEW:=hid henv
  have HVV:=hid hv
  have hbe:W.heap[e]?=some (.cells #[.map mo,.slice ao L.length cp] 110):=by rw [← hv]; exact henv.box
  have HBE:=hid hbe
  have cn:W.cell? ⟨w.heap.size,1,none⟩=some (.string x.name):=HMW.out.box.cell 1
  have HCN:=hid cn
  have ce0:W.cell? ⟨e,0,none⟩=some (.map mo):=by simp [World.cell?,hbe]
  have fe0:W.frozen? ⟨e,0,none⟩=false:=by simp [World.frozen?,hbe]
  have hle:e < W.heap.size:=(Array.getElem?_eq_some_iff.1 hbe).1
  have hkey:keyOf Tryz.prog 9 (.string x.name)=some (.string (key x.name)):=WideMaps.keyOf_string_mk Tryz.underlying9 HS.out
  have HKEY:=hid hkey
  have HXE:Hid (w.heap.size ≠ e):=hid (fun a=>by have:=HENV.out.own_lt e (Or.inl rfl); omega)
  have hmp:=henv.map
  clear henv hv hbe hkey
  rcases hmp with ⟨hmo,hL⟩ | ⟨m,D,hmo,hown,htied⟩
  ·subst hmo
   have hmm:=@run_makeMap Tryz.prog
   have qn:=eqlNilE W
   obtain ⟨W7,hW7⟩:∃ W7,W7=(W.setCell ⟨e,0,none⟩ (.map (some W.heap.size))).alloc (.map #[] 0):=⟨_,rfl⟩
   obtain ⟨m,hm⟩:∃ m,m=W.heap.size:=⟨_,rfl⟩
   have HB7:=hid (show W7.heap[e]?=some (.cells #[.map (some m),.slice ao L.length cp] 110) from by rw [hW7,hm]; exact keepA (cells_setE (i:=0) HBE.out _) _)
   have hem:e ≠ m:=by omega
   have HOWN7:=hid (show W7.ownsMap Tryz.prog 9 ptrElem m L.length (.map []) from by
    have h0:=World.ownsMap_made (H:=Unit) (W.setCell ⟨e,0,none⟩ (.map (some W.heap.size))) Tryz.prog 9 ptrElem
    rw [World.size_setCell,← hW7,← hm] at h0
    exact h0.mono (by omega))
   have HR7:=hid (show RanS (fun q=>q=e) W W7 from by rw [hW7]; exact (set_ranE (P:=fun q=>q=e) W e 0 (.map (some W.heap.size)) rfl).trans (RanS.of_below (below_one _ _)))
   have HCN7:=hid (show W7.cell? ⟨w.heap.size,1,none⟩=some (.string x.name) from (HR7.out.cell (p:=⟨w.heap.size,1,none⟩) HMW.out.box.lt (fun a=>HXE.out a)).trans HCN.out)
   have HSX7:Hid (w.heap.size < W7.heap.size):=hid (by have:=HR7.out.size; have:=HMW.out.box.lt; omega)
   have HMX7:Hid (w.heap.size ≠ m):=hid (by have:=HMW.out.box.lt; omega)
   have HME:Hid (m ≠ e):=hid (fun a=>hem a.symm)
   have HMM7:=hid hm
   have HLNIL:=hid hL
   clear hem hm hL
   go_upto_region 9 with fail
   rw [← hW7]
   clear hW7 hmm qn ce0 fe0 hle cn
   obtain ⟨D,hD⟩:∃ D:DataW Unit,D=.map []:=⟨_,rfl⟩
   rw [← hD] at HOWN7
   have HTI:=hid (show TiedE D L from by rw [hD,HLNIL.out]; exact ⟨⟨[],rfl⟩,fun k=>by simp [Maps.has],fun p hp=>by cases hp⟩)
   clear hD
   have ce7:W7.cell? ⟨e,0,none⟩=some (.map (some m)):=by have:=HB7.out; simp [World.cell?,this]
   have cn7:W7.cell? ⟨w.heap.size,1,none⟩=some (.string x.name):=HCN7.out
   obtain ⟨w9,hrun,hown9,hgrow9⟩:=(show W7.drew.ownsMap Tryz.prog 9 ptrElem m L.length D from HOWN7.out).update (string_keyed Tryz.underlying9) Tryz.underlying108 (by have:=HL.out; unfold maxLen; omega) HKEY.out (show ptrElem (.pointer (some ⟨w.heap.size,0,none⟩))=some (.lit (.int .i64 (w.heap.size:Nat)),[]) from rfl)
   have HOWN9:=hid hown9
   have HG9:=hid hgrow9
   clear hown9 hgrow9
   have hmlt:Hid (m < W7.heap.size):=hid HOWN7.out.lt
   have HB9:=hid ((HG9.out.block e (Array.getElem?_eq_some_iff.1 HB7.out).1 (fun a=>HME.out (Option.some.inj a).symm)).trans HB7.out)
   have HCN9:=hid (show w9.cell? ⟨w.heap.size,1,none⟩=some (.string x.name) from (World.cell?_of_block (HG9.out.block w.heap.size (by have:=HSX7.out; exact this) (fun a=>HMX7.out (Option.some.inj a)))).trans HCN7.out)
   have HRAN9:=hid (show RanS (ownE e v none) W w9 from ran_goE (P:=ownE e v none) (P':=fun q=>q=m) (HR7.out.wide (fun q hq=>Or.inl hq)) ⟨HG9.out.os,HG9.out.tape,HG9.out.output,HG9.out.size,fun k hk hn=>HG9.out.block k hk (fun a=>hn (Option.some.inj a))⟩ (fun q hq=>Or.inr (by have:=HMM7.out; omega)))
   have HS9:Hid (w.heap.size < w9.heap.size):=hid (by have h1:=HG9.out.size; have h2:=HSX7.out; have h3:W7.drew.heap.size=W7.heap.size:=rfl; omega)
   have HQ9:=hid (show ∀ q,v.ownBlock=some q→w9.heap[q]?=W.heap[q]? from fun q hq=>by
    have hqw:=HENV.out.own_lt q (Or.inr (Or.inl hq))
    have hqW:q < W.heap.size:=by have:=HMW.out.box.lt; omega
    exact (HG9.out.block q (by have:=HR7.out.size; exact Nat.lt_of_lt_of_le hqW this) (fun a=>by have a:=Option.some.inj a; have:=HMM7.out; omega)).trans (HR7.out.block q hqW (fun a=>HENV.out.apart.1 (a ▸ hq))))
   have HRV9:=hid (show ∀ q,(Value.slice ao L.length cp).ownBlock=some q→w9.heap[q]?=W.heap[q]? from fun q hq=>by
    have hqv:v.ownBlock=some q:=by rw [HVV.out]; exact hq
    exact HQ9.out q hqv)
   have HBB9:Hid (B≤w9.heap.size + 1):=hid (by have h1:=HENV.out.eB; have h2:=HENV.out.own_lt e (Or.inl rfl); have h3:=HS9.out; omega)
   have HXV:Hid ((Value.slice ao L.length cp).ownBlock ≠ some w.heap.size):=hid (fun a=>by have:=HENV.out.own_lt w.heap.size (Or.inr (Or.inl (by rw [HVV.out]; exact a))); omega)
   have HEV:Hid ((Value.slice ao L.length cp).ownBlock ≠ some e):=hid (fun a=>HENV.out.apart.1 (by rw [HVV.out]; exact a))
   go_region
   go_upto_region 10 with fail
   clear ce7 cn7 hrun
   have HROW9:=hid (show w9.ownsRow B 9 1 (.slice ao L.length cp) L.length (L.map fun p=>.string p.2.1.name) from by
    have hr:=HEW.out.row
    rw [HVV.out] at hr
    refine row_same hr fun q hq=>HRV9.out q hq)
   obtain ⟨i0,hi,hz0,hz1,hz2⟩:=info_parts infoStr
   have hq1:Hid (L.length + 1≤maxLen):=hid (by unfold maxLen; have:=HL.out; omega)
   have hq2:Hid ((L.length + 1) * 16≤140737488355328):=hid (by have:=HL.out; omega)
   have ce9:w9.cell? ⟨e,1,none⟩=some (.slice ao L.length cp):=by have:=HB9.out; simp [World.cell?,this]
   refine wp_region_held_drew (S:=fun w'=>w'.cell? ⟨w.heap.size,1,none⟩=some (.string x.name)) (by kernel_rfl) (HCN9.out) (fun hHeld=>?_)
   refine wpAnyH_take (i:=0) (v:=?vn1a0) rfl (by kernel_rfl) (by kernel_rfl) (by kernel_rfl) (fun _ _ _ h=>h) (Or.inl ⟨by rfl,?hyn1a0⟩) (by assumption) ?restn1a0
   case hyn1a0=>(intro w' hSw; (try dsimp only at hSw); go_simp <;> with_reducible rfl)
   try simp only [zqT,zqZ,Act.put,zqB,zq0,zq1]
   refine wpAnyH_take (i:=1) (v:=?vn1a1) rfl (by kernel_rfl) (by kernel_rfl) (by kernel_rfl) (fun _ _ _ h=>h) (Or.inl ⟨by rfl,?hyn1a1⟩) (by assumption) ?restn1a1
   case hyn1a1=>(intro w' hSw; (try dsimp only at hSw); go_simp <;> with_reducible rfl)
   try simp only [zqT,zqS,zqZ,Act.put,zqB,zq0,zq1]
   refine wpAnyH_take (i:=2) (v:=?vn1a2) rfl (by kernel_rfl) (by kernel_rfl) (by kernel_rfl) (fun _ _ _ h=>h) (Or.inl ⟨by rfl,?hyn1a2⟩) (by assumption) ?restn1a2
   case hyn1a2=>(intro w' hSw; (try dsimp only at hSw); go_simp <;> with_reducible rfl)
   try simp only [zqT,zqS,zqZ,Act.put,zqB,zq0,zq1]
   refine wpAnyH_take (i:=3) (v:=?vn1a3) rfl (by kernel_rfl) (by kernel_rfl) (by kernel_rfl) (fun _ _ _ h=>h) (Or.inl ⟨by rfl,?hyn1a3⟩) (by assumption) ?restn1a3
   case hyn1a3=>(intro w' hSw; (try dsimp only at hSw); go_simp <;> with_reducible rfl)
   try simp only [zqT,zqS,zqZ,Act.put,zqB,zq0,zq1]
   refine wpAnyH_take (i:=5) (v:=?vn1a5) rfl (by kernel_rfl) (by kernel_rfl) (by kernel_rfl) (fun _ _ _ h=>h) (Or.inl ⟨by rfl,?hyn1a5⟩) (by assumption) ?restn1a5
   case hyn1a5=>(intro w' hSw; (try dsimp only at hSw); go_simp <;> with_reducible rfl)
   try simp only [zqT,zqS,zqZ,Act.put,zqB,zq0,zq1]
   refine wpAnyH_take (i:=6) (v:=?vn1a6) rfl (by kernel_rfl) (by kernel_rfl) (by kernel_rfl) (fun _ _ _ h=>h) (Or.inl ⟨by rfl,?hyn1a6⟩) (by assumption) ?restn1a6
   case hyn1a6=>(intro w' hSw; (try dsimp only at hSw); go_simp <;> with_reducible rfl)
   try simp only [zqT,zqS,zqZ,Act.put,zqB,zq0,zq1]
   refine wpAnyH_ready (rs:=[4,7]) (by kernel_rfl) (by simp) ?_
   refine AllReadyH.cons rfl (fun K hK=>?_) (AllReadyH.cons rfl (fun K hK=>?_) AllReadyH.nil)
   ·go_simp
    refine hK.out _ _ (HCN9.out) (fun hHeld=>?_)
    clear hK K
    try simp only [zqT,zqS,zqZ,Act.put,zqB,zq0,zq1]
    refine wpAnyH_ready (rs:=[7]) (by kernel_rfl) (by simp) ?_
    refine AllReadyH.cons rfl (fun K hK=>?_) AllReadyH.nil
    go_simp
    refine hK.out _ _ (((below_one w9.drew (.cells #[.string x.name] 9)).cell (p:=⟨w.heap.size,1,none⟩) (show w.heap.size < w9.heap.size from HS9.out)).trans HCN9.out) (fun hHeld=>?_)
    clear hK K
    try simp only [zqT,zqS,zqZ,Act.put,zqB,zq0,zq1]
    refine wpAnyH_ready (rs:=[8]) (by kernel_rfl) (by simp) ?_
    refine AllReadyH.cons rfl (fun K hK=>?_) AllReadyH.nil
    refine step_append_lies _ (by rfl) _ _ _ (by rfl) B 9 i0 _ 1 16 Tryz.underlying60 hi hz0 hz1 hz2 rfl (by decide) _ L.length _ (by rfl) ((show w9.drew.ownsRow B 9 1 (.slice ao L.length cp) L.length (L.map fun p=>.string p.2.1.name) from HROW9.out).alloc _) ⟨w9.heap.size,0,none⟩ 1 1 [.string x.name] (by rfl) (by rfl) (World.news_of_block (cs:=#[.string x.name]) (t:=9) (fr:=(0,0)) (World.alloc_heap_new w9.drew _)) (by simp [Value.oneCell']) Nat.one_pos hq1.out hq2.out (by first | (rw [World.size_alloc]; exact HBB9.out) | (show B≤(w9.alloc (.cells #[.string x.name] 9)).heap.size; rw [World.size_alloc]; exact HBB9.out)) (w9.heap.size + 1) (World.size_alloc _ _) ?_
    intro g1 cap1 w10 hown10 hg10 hat10 hlt10
    have HO10:=hid hown10
    have HG10:=hid (show (w9.drew.alloc (.cells #[.string x.name] 9)).grownBy w10 (Value.slice ao L.length cp).ownBlock from hg10)
    have HAT10:=hid hat10
    clear hown10 hg10 hat10 hlt10
    have HCN10:=hid (show w10.cell? ⟨w.heap.size,1,none⟩=some (.string x.name) from (World.cell?_of_block ((HG10.out.block w.heap.size (by rw [World.size_alloc]; show w.heap.size < w9.heap.size + 1; have:=HS9.out; omega) (fun a=>HXV.out a.symm)).trans ((below_one w9.drew (.cells #[.string x.name] 9)).block w.heap.size (show w.heap.size < w9.heap.size from HS9.out)))).trans HCN9.out)
    have hb10:=(HG10.out.block e (by rw [World.size_alloc]; show e < w9.heap.size + 1; have:=(Array.getElem?_eq_some_iff.1 HB9.out).1; omega) (fun a=>HEV.out a.symm)).trans (((below_one w9.drew (.cells #[.string x.name] 9)).block e (show e < w9.heap.size from (Array.getElem?_eq_some_iff.1 HB9.out).1)).trans HB9.out)
    have cx:w10.cell? ⟨e,1,none⟩=some (.slice ao L.length cp):=by simp [World.cell?,hb10]
    have fx:w10.frozen? ⟨e,1,none⟩=false:=by simp [World.frozen?,hb10]
    clear hb10
    refine hK.out _ _ (HCN10.out) (fun hHeld=>?_)
    clear hK K
    try simp only [zqT,zqS,zqZ,Act.put,zqB,zq0,zq1]
    refine wpAnyH_take (i:=9) (v:=?vn1cb9) rfl (by kernel_rfl) (by kernel_rfl) (by kernel_rfl) (fun _ _ _ h=>h) (Or.inl ⟨by rfl,?hyn1cb9⟩) (by assumption) ?restn1cb9
    case hyn1cb9=>(intro w' hSw; (try dsimp only at hSw); go_simp <;> with_reducible rfl)
    try simp only [zqT,zqS,zqZ,Act.put,zqB,zq0,zq1]
    refine wpAnyH_take (i:=10) (v:=?vn1cb10) rfl (by kernel_rfl) (by kernel_rfl) (by kernel_rfl) (fun _ _ _ h=>h) (Or.inl ⟨by rfl,?hyn1cb10⟩) (by assumption) ?restn1cb10
    case hyn1cb10=>(intro w' hSw; (try dsimp only at hSw); go_simp <;> with_reducible rfl)
    try simp only [zqT,zqS,zqZ,Act.put,zqB,zq0,zq1]
    refine wpAnyH_ready (rs:=[11]) (by kernel_rfl) (by simp) ?_
    refine AllReadyH.cons rfl (fun K hK=>?_) AllReadyH.nil
    go_simp
    refine hK.out _ _ ((World.cell?_setCell_other _ _ _ _ (by intro a; injection a with a1 _ _; exact HXE.out a1.symm)).trans HCN10.out) (fun hHeld=>?_)
    clear hK K
    try simp only [zqT,zqS,zqZ,Act.put,zqB,zq0,zq1]
    refine wpAnyH_done (by kernel_rfl) ?_ _
    have HEND:=hid (show PutPost P B e L x none v w (.returned (.tuple #[])) (w10.setCell ⟨e,1,none⟩ (.slice (some ⟨g1,0,none⟩) (L.length + 1) cap1)) from ⟨rfl,_,_,h3,EnvB.add (D:=D) (m:=m) (W9:=w9) HENV.out HMW.out HPS.out HPP.out (Or.inr ⟨rfl,HMM7.out⟩) (by rw [HVV.out]; exact HB9.out) HOWN9.out HTI.out HRAN9.out HO10.out (by rw [HVV.out]; exact HG10.out) (by rw [HVV.out]; exact HAT10.out) HNEW.out HL.out⟩)
    clear cx fx
    go_wp2_with fail
    go_end0
    exact HEND.out
   ·go_simp
    refine hK.out _ _ (((below_one w9.drew (.cells #[.string x.name] 9)).cell (p:=⟨w.heap.size,1,none⟩) (show w.heap.size < w9.heap.size from HS9.out)).trans HCN9.out) (fun hHeld=>?_)
    clear hK K
    try simp only [zqT,zqS,zqZ,Act.put,zqB,zq0,zq1]
    refine wpAnyH_ready (rs:=[4]) (by kernel_rfl) (by simp) ?_
    refine AllReadyH.cons rfl (fun K hK=>?_) AllReadyH.nil
    have ce99:(w9.alloc (.cells #[.string x.name] 9)).cell? ⟨e,1,none⟩=some (.slice ao L.length cp):=((below_one w9 (.cells #[.string x.name] 9)).cell (p:=⟨e,1,none⟩) (show e < w9.heap.size from (Array.getElem?_eq_some_iff.1 HB9.out).1)).trans ce9
    have hle9:e < w9.heap.size:=(Array.getElem?_eq_some_iff.1 HB9.out).1
    go_simp
    refine hK.out _ _ (((below_one w9.drew (.cells #[.string x.name] 9)).cell (p:=⟨w.heap.size,1,none⟩) (show w.heap.size < w9.heap.size from HS9.out)).trans HCN9.out) (fun hHeld=>?_)
    clear hK K
    try simp only [zqT,zqS,zqZ,Act.put,zqB,zq0,zq1]
    refine wpAnyH_ready (rs:=[8]) (by kernel_rfl) (by simp) ?_
    refine AllReadyH.cons rfl (fun K hK=>?_) AllReadyH.nil
    refine step_append_lies _ (by rfl) _ _ _ (by rfl) B 9 i0 _ 1 16 Tryz.underlying60 hi hz0 hz1 hz2 rfl (by decide) _ L.length _ (by rfl) ((show w9.drew.ownsRow B 9 1 (.slice ao L.length cp) L.length (L.map fun p=>.string p.2.1.name) from HROW9.out).alloc _) ⟨w9.heap.size,0,none⟩ 1 1 [.string x.name] (by rfl) (by rfl) (World.news_of_block (cs:=#[.string x.name]) (t:=9) (fr:=(0,0)) (World.alloc_heap_new w9.drew _)) (by simp [Value.oneCell']) Nat.one_pos hq1.out hq2.out (by first | (rw [World.size_alloc]; exact HBB9.out) | (show B≤(w9.alloc (.cells #[.string x.name] 9)).heap.size; rw [World.size_alloc]; exact HBB9.out)) (w9.heap.size + 1) (World.size_alloc _ _) ?_
    intro g1 cap1 w10 hown10 hg10 hat10 hlt10
    have HO10:=hid hown10
    have HG10:=hid (show (w9.drew.alloc (.cells #[.string x.name] 9)).grownBy w10 (Value.slice ao L.length cp).ownBlock from hg10)
    have HAT10:=hid hat10
    clear hown10 hg10 hat10 hlt10
    have HCN10:=hid (show w10.cell? ⟨w.heap.size,1,none⟩=some (.string x.name) from (World.cell?_of_block ((HG10.out.block w.heap.size (by rw [World.size_alloc]; show w.heap.size < w9.heap.size + 1; have:=HS9.out; omega) (fun a=>HXV.out a.symm)).trans ((below_one w9.drew (.cells #[.string x.name] 9)).block w.heap.size (show w.heap.size < w9.heap.size from HS9.out)))).trans HCN9.out)
    have hb10:=(HG10.out.block e (by rw [World.size_alloc]; show e < w9.heap.size + 1; have:=(Array.getElem?_eq_some_iff.1 HB9.out).1; omega) (fun a=>HEV.out a.symm)).trans (((below_one w9.drew (.cells #[.string x.name] 9)).block e (show e < w9.heap.size from (Array.getElem?_eq_some_iff.1 HB9.out).1)).trans HB9.out)
    have cx:w10.cell? ⟨e,1,none⟩=some (.slice ao L.length cp):=by simp [World.cell?,hb10]
    have fx:w10.frozen? ⟨e,1,none⟩=false:=by simp [World.frozen?,hb10]
    clear hb10
    refine hK.out _ _ (HCN10.out) (fun hHeld=>?_)
    clear hK K
    try simp only [zqT,zqS,zqZ,Act.put,zqB,zq0,zq1]
    refine wpAnyH_take (i:=9) (v:=?vn1db9) rfl (by kernel_rfl) (by kernel_rfl) (by kernel_rfl) (fun _ _ _ h=>h) (Or.inl ⟨by rfl,?hyn1db9⟩) (by assumption) ?restn1db9
    case hyn1db9=>(intro w' hSw; (try dsimp only at hSw); go_simp <;> with_reducible rfl)
    try simp only [zqT,zqS,zqZ,Act.put,zqB,zq0,zq1]
    refine wpAnyH_take (i:=10) (v:=?vn1db10) rfl (by kernel_rfl) (by kernel_rfl) (by kernel_rfl) (fun _ _ _ h=>h) (Or.inl ⟨by rfl,?hyn1db10⟩) (by assumption) ?restn1db10
    case hyn1db10=>(intro w' hSw; (try dsimp only at hSw); go_simp <;> with_reducible rfl)
    try simp only [zqT,zqS,zqZ,Act.put,zqB,zq0,zq1]
    refine wpAnyH_ready (rs:=[11]) (by kernel_rfl) (by simp) ?_
    refine AllReadyH.cons rfl (fun K hK=>?_) AllReadyH.nil
    go_simp
    refine hK.out _ _ ((World.cell?_setCell_other _ _ _ _ (by intro a; injection a with a1 _ _; exact HXE.out a1.symm)).trans HCN10.out) (fun hHeld=>?_)
    clear hK K
    try simp only [zqT,zqS,zqZ,Act.put,zqB,zq0,zq1]
    refine wpAnyH_done (by kernel_rfl) ?_ _
    have HEND:=hid (show PutPost P B e L x none v w (.returned (.tuple #[])) (w10.setCell ⟨e,1,none⟩ (.slice (some ⟨g1,0,none⟩) (L.length + 1) cap1)) from ⟨rfl,_,_,h3,EnvB.add (D:=D) (m:=m) (W9:=w9) HENV.out HMW.out HPS.out HPP.out (Or.inr ⟨rfl,HMM7.out⟩) (by rw [HVV.out]; exact HB9.out) HOWN9.out HTI.out HRAN9.out HO10.out (by rw [HVV.out]; exact HG10.out) (by rw [HVV.out]; exact HAT10.out) HNEW.out HL.out⟩)
    clear cx fx
    go_wp2_with fail
    go_end0
    exact HEND.out
  ·subst hmo
   have qs:=eqlSomeE m W
   have HTI:=hid htied
   obtain ⟨W7,hW7⟩:∃ x:World,x=W:=⟨_,rfl⟩
   have HOWN7:=hid (show W7.ownsMap Tryz.prog 9 ptrElem m L.length D from hW7 ▸ hown)
   have HB7:=hid (show W7.heap[e]?=some (.cells #[.map (some m),.slice ao L.length cp] 110) from hW7 ▸ HBE.out)
   have HCN7:=hid (show W7.cell? ⟨w.heap.size,1,none⟩=some (.string x.name) from hW7 ▸ HCN.out)
   have HSX7:Hid (w.heap.size < W7.heap.size):=hid (hW7 ▸ HMW.out.box.lt)
   have HMX7:Hid (w.heap.size ≠ m):=hid (fun a=>by have:=HENV.out.own_lt m (Or.inr (Or.inr rfl)); omega)
   have HME:Hid (m ≠ e):=hid (fun a=>HENV.out.apart.2.1 (by rw [a]))
   clear hown htied
   go_upto_region 9 with fail
   rw [← hW7]
   subst hW7
   clear qs ce0 fe0 hle cn
   have ce7:W7.cell? ⟨e,0,none⟩=some (.map (some m)):=by have:=HB7.out; simp [World.cell?,this]
   have cn7:W7.cell? ⟨w.heap.size,1,none⟩=some (.string x.name):=HCN7.out
   obtain ⟨w9,hrun,hown9,hgrow9⟩:=(show W7.drew.ownsMap Tryz.prog 9 ptrElem m L.length D from HOWN7.out).update (string_keyed Tryz.underlying9) Tryz.underlying108 (by have:=HL.out; unfold maxLen; omega) HKEY.out (show ptrElem (.pointer (some ⟨w.heap.size,0,none⟩))=some (.lit (.int .i64 (w.heap.size:Nat)),[]) from rfl)
   have HOWN9:=hid hown9
   have HG9:=hid hgrow9
   clear hown9 hgrow9
   have hmlt:Hid (m < W7.heap.size):=hid HOWN7.out.lt
   have HB9:=hid ((HG9.out.block e (Array.getElem?_eq_some_iff.1 HB7.out).1 (fun a=>HME.out (Option.some.inj a).symm)).trans HB7.out)
   have HCN9:=hid (show w9.cell? ⟨w.heap.size,1,none⟩=some (.string x.name) from (World.cell?_of_block (HG9.out.block w.heap.size (by have:=HSX7.out; exact this) (fun a=>HMX7.out (Option.some.inj a)))).trans HCN7.out)
   have HRAN9:=hid (show RanS (ownE e v (some m)) W7 w9 from ran_goE (P:=ownE e v (some m)) (P':=fun q=>q=m) (RanS.refl _ W7) ⟨HG9.out.os,HG9.out.tape,HG9.out.output,HG9.out.size,fun k hk hn=>HG9.out.block k hk (fun a=>hn (Option.some.inj a))⟩ (fun q hq=>Or.inl (by rw [hq]; exact Or.inr (Or.inr rfl))))
   have HS9:Hid (w.heap.size < w9.heap.size):=hid (by have h1:=HG9.out.size; have h2:=HSX7.out; have h3:W7.drew.heap.size=W7.heap.size:=rfl; omega)
   have HQ9:=hid (show ∀ q,v.ownBlock=some q→w9.heap[q]?=W7.heap[q]? from fun q hq=>by
    have hqw:=HENV.out.own_lt q (Or.inr (Or.inl hq))
    have hqW:q < W7.heap.size:=by have:=HMW.out.box.lt; omega
    exact (HG9.out.block q (hqW) (fun a=>by have a:=Option.some.inj a; exact HENV.out.apart.2.2 q hq (by rw [a]))).trans rfl)
   have HRV9:=hid (show ∀ q,(Value.slice ao L.length cp).ownBlock=some q→w9.heap[q]?=W7.heap[q]? from fun q hq=>by
    have hqv:v.ownBlock=some q:=by rw [HVV.out]; exact hq
    exact HQ9.out q hqv)
   have HBB9:Hid (B≤w9.heap.size + 1):=hid (by have h1:=HENV.out.eB; have h2:=HENV.out.own_lt e (Or.inl rfl); have h3:=HS9.out; omega)
   have HXV:Hid ((Value.slice ao L.length cp).ownBlock ≠ some w.heap.size):=hid (fun a=>by have:=HENV.out.own_lt w.heap.size (Or.inr (Or.inl (by rw [HVV.out]; exact a))); omega)
   have HEV:Hid ((Value.slice ao L.length cp).ownBlock ≠ some e):=hid (fun a=>HENV.out.apart.1 (by rw [HVV.out]; exact a))
   go_region
   go_upto_region 10 with fail
   clear ce7 cn7 hrun
   have HROW9:=hid (show w9.ownsRow B 9 1 (.slice ao L.length cp) L.length (L.map fun p=>.string p.2.1.name) from by
    have hr:=HEW.out.row
    rw [HVV.out] at hr
    refine row_same hr fun q hq=>HRV9.out q hq)
   obtain ⟨i0,hi,hz0,hz1,hz2⟩:=info_parts infoStr
   have hq1:Hid (L.length + 1≤maxLen):=hid (by unfold maxLen; have:=HL.out; omega)
   have hq2:Hid ((L.length + 1) * 16≤140737488355328):=hid (by have:=HL.out; omega)
   have ce9:w9.cell? ⟨e,1,none⟩=some (.slice ao L.length cp):=by have:=HB9.out; simp [World.cell?,this]
   refine wp_region_held_drew (S:=fun w'=>w'.cell? ⟨w.heap.size,1,none⟩=some (.string x.name)) (by kernel_rfl) (HCN9.out) (fun hHeld=>?_)
   refine wpAnyH_take (i:=0) (v:=?vs1a0) rfl (by kernel_rfl) (by kernel_rfl) (by kernel_rfl) (fun _ _ _ h=>h) (Or.inl ⟨by rfl,?hys1a0⟩) (by assumption) ?rests1a0
   case hys1a0=>(intro w' hSw; (try dsimp only at hSw); go_simp <;> with_reducible rfl)
   try simp only [zqT,zqZ,Act.put,zqB,zq0,zq1]
   refine wpAnyH_take (i:=1) (v:=?vs1a1) rfl (by kernel_rfl) (by kernel_rfl) (by kernel_rfl) (fun _ _ _ h=>h) (Or.inl ⟨by rfl,?hys1a1⟩) (by assumption) ?rests1a1
   case hys1a1=>(intro w' hSw; (try dsimp only at hSw); go_simp <;> with_reducible rfl)
   try simp only [zqT,zqS,zqZ,Act.put,zqB,zq0,zq1]
   refine wpAnyH_take (i:=2) (v:=?vs1a2) rfl (by kernel_rfl) (by kernel_rfl) (by kernel_rfl) (fun _ _ _ h=>h) (Or.inl ⟨by rfl,?hys1a2⟩) (by assumption) ?rests1a2
   case hys1a2=>(intro w' hSw; (try dsimp only at hSw); go_simp <;> with_reducible rfl)
   try simp only [zqT,zqS,zqZ,Act.put,zqB,zq0,zq1]
   refine wpAnyH_take (i:=3) (v:=?vs1a3) rfl (by kernel_rfl) (by kernel_rfl) (by kernel_rfl) (fun _ _ _ h=>h) (Or.inl ⟨by rfl,?hys1a3⟩) (by assumption) ?rests1a3
   case hys1a3=>(intro w' hSw; (try dsimp only at hSw); go_simp <;> with_reducible rfl)
   try simp only [zqT,zqS,zqZ,Act.put,zqB,zq0,zq1]
   refine wpAnyH_take (i:=5) (v:=?vs1a5) rfl (by kernel_rfl) (by kernel_rfl) (by kernel_rfl) (fun _ _ _ h=>h) (Or.inl ⟨by rfl,?hys1a5⟩) (by assumption) ?rests1a5
   case hys1a5=>(intro w' hSw; (try dsimp only at hSw); go_simp <;> with_reducible rfl)
   try simp only [zqT,zqS,zqZ,Act.put,zqB,zq0,zq1]
   refine wpAnyH_take (i:=6) (v:=?vs1a6) rfl (by kernel_rfl) (by kernel_rfl) (by kernel_rfl) (fun _ _ _ h=>h) (Or.inl ⟨by rfl,?hys1a6⟩) (by assumption) ?rests1a6
   case hys1a6=>(intro w' hSw; (try dsimp only at hSw); go_simp <;> with_reducible rfl)
   try simp only [zqT,zqS,zqZ,Act.put,zqB,zq0,zq1]
   refine wpAnyH_ready (rs:=[4,7]) (by kernel_rfl) (by simp) ?_
   refine AllReadyH.cons rfl (fun K hK=>?_) (AllReadyH.cons rfl (fun K hK=>?_) AllReadyH.nil)
   ·go_simp
    refine hK.out _ _ (HCN9.out) (fun hHeld=>?_)
    clear hK K
    try simp only [zqT,zqS,zqZ,Act.put,zqB,zq0,zq1]
    refine wpAnyH_ready (rs:=[7]) (by kernel_rfl) (by simp) ?_
    refine AllReadyH.cons rfl (fun K hK=>?_) AllReadyH.nil
    go_simp
    refine hK.out _ _ (((below_one w9.drew (.cells #[.string x.name] 9)).cell (p:=⟨w.heap.size,1,none⟩) (show w.heap.size < w9.heap.size from HS9.out)).trans HCN9.out) (fun hHeld=>?_)
    clear hK K
    try simp only [zqT,zqS,zqZ,Act.put,zqB,zq0,zq1]
    refine wpAnyH_ready (rs:=[8]) (by kernel_rfl) (by simp) ?_
    refine AllReadyH.cons rfl (fun K hK=>?_) AllReadyH.nil
    refine step_append_lies _ (by rfl) _ _ _ (by rfl) B 9 i0 _ 1 16 Tryz.underlying60 hi hz0 hz1 hz2 rfl (by decide) _ L.length _ (by rfl) ((show w9.drew.ownsRow B 9 1 (.slice ao L.length cp) L.length (L.map fun p=>.string p.2.1.name) from HROW9.out).alloc _) ⟨w9.heap.size,0,none⟩ 1 1 [.string x.name] (by rfl) (by rfl) (World.news_of_block (cs:=#[.string x.name]) (t:=9) (fr:=(0,0)) (World.alloc_heap_new w9.drew _)) (by simp [Value.oneCell']) Nat.one_pos hq1.out hq2.out (by first | (rw [World.size_alloc]; exact HBB9.out) | (show B≤(w9.alloc (.cells #[.string x.name] 9)).heap.size; rw [World.size_alloc]; exact HBB9.out)) (w9.heap.size + 1) (World.size_alloc _ _) ?_
    intro g1 cap1 w10 hown10 hg10 hat10 hlt10
    have HO10:=hid hown10
    have HG10:=hid (show (w9.drew.alloc (.cells #[.string x.name] 9)).grownBy w10 (Value.slice ao L.length cp).ownBlock from hg10)
    have HAT10:=hid hat10
    clear hown10 hg10 hat10 hlt10
    have HCN10:=hid (show w10.cell? ⟨w.heap.size,1,none⟩=some (.string x.name) from (World.cell?_of_block ((HG10.out.block w.heap.size (by rw [World.size_alloc]; show w.heap.size < w9.heap.size + 1; have:=HS9.out; omega) (fun a=>HXV.out a.symm)).trans ((below_one w9.drew (.cells #[.string x.name] 9)).block w.heap.size (show w.heap.size < w9.heap.size from HS9.out)))).trans HCN9.out)
    have hb10:=(HG10.out.block e (by rw [World.size_alloc]; show e < w9.heap.size + 1; have:=(Array.getElem?_eq_some_iff.1 HB9.out).1; omega) (fun a=>HEV.out a.symm)).trans (((below_one w9.drew (.cells #[.string x.name] 9)).block e (show e < w9.heap.size from (Array.getElem?_eq_some_iff.1 HB9.out).1)).trans HB9.out)
    have cx:w10.cell? ⟨e,1,none⟩=some (.slice ao L.length cp):=by simp [World.cell?,hb10]
    have fx:w10.frozen? ⟨e,1,none⟩=false:=by simp [World.frozen?,hb10]
    clear hb10
    refine hK.out _ _ (HCN10.out) (fun hHeld=>?_)
    clear hK K
    try simp only [zqT,zqS,zqZ,Act.put,zqB,zq0,zq1]
    refine wpAnyH_take (i:=9) (v:=?vs1cb9) rfl (by kernel_rfl) (by kernel_rfl) (by kernel_rfl) (fun _ _ _ h=>h) (Or.inl ⟨by rfl,?hys1cb9⟩) (by assumption) ?rests1cb9
    case hys1cb9=>(intro w' hSw; (try dsimp only at hSw); go_simp <;> with_reducible rfl)
    try simp only [zqT,zqS,zqZ,Act.put,zqB,zq0,zq1]
    refine wpAnyH_take (i:=10) (v:=?vs1cb10) rfl (by kernel_rfl) (by kernel_rfl) (by kernel_rfl) (fun _ _ _ h=>h) (Or.inl ⟨by rfl,?hys1cb10⟩) (by assumption) ?rests1cb10
    case hys1cb10=>(intro w' hSw; (try dsimp only at hSw); go_simp <;> with_reducible rfl)
    try simp only [zqT,zqS,zqZ,Act.put,zqB,zq0,zq1]
    refine wpAnyH_ready (rs:=[11]) (by kernel_rfl) (by simp) ?_
    refine AllReadyH.cons rfl (fun K hK=>?_) AllReadyH.nil
    go_simp
    refine hK.out _ _ ((World.cell?_setCell_other _ _ _ _ (by intro a; injection a with a1 _ _; exact HXE.out a1.symm)).trans HCN10.out) (fun hHeld=>?_)
    clear hK K
    try simp only [zqT,zqS,zqZ,Act.put,zqB,zq0,zq1]
    refine wpAnyH_done (by kernel_rfl) ?_ _
    have HEND:=hid (show PutPost P B e L x (some m) v w (.returned (.tuple #[])) (w10.setCell ⟨e,1,none⟩ (.slice (some ⟨g1,0,none⟩) (L.length + 1) cap1)) from ⟨rfl,_,_,h3,EnvB.add (D:=D) (m:=m) (W9:=w9) HENV.out HMW.out HPS.out HPP.out (Or.inl rfl) (by rw [HVV.out]; exact HB9.out) HOWN9.out HTI.out HRAN9.out HO10.out (by rw [HVV.out]; exact HG10.out) (by rw [HVV.out]; exact HAT10.out) HNEW.out HL.out⟩)
    clear cx fx
    go_wp2_with fail
    go_end0
    exact HEND.out
   ·go_simp
    refine hK.out _ _ (((below_one w9.drew (.cells #[.string x.name] 9)).cell (p:=⟨w.heap.size,1,none⟩) (show w.heap.size < w9.heap.size from HS9.out)).trans HCN9.out) (fun hHeld=>?_)
    clear hK K
    try simp only [zqT,zqS,zqZ,Act.put,zqB,zq0,zq1]
    refine wpAnyH_ready (rs:=[4]) (by kernel_rfl) (by simp) ?_
    refine AllReadyH.cons rfl (fun K hK=>?_) AllReadyH.nil
    have ce99:(w9.alloc (.cells #[.string x.name] 9)).cell? ⟨e,1,none⟩=some (.slice ao L.length cp):=((below_one w9 (.cells #[.string x.name] 9)).cell (p:=⟨e,1,none⟩) (show e < w9.heap.size from (Array.getElem?_eq_some_iff.1 HB9.out).1)).trans ce9
    have hle9:e < w9.heap.size:=(Array.getElem?_eq_some_iff.1 HB9.out).1
    go_simp
    refine hK.out _ _ (((below_one w9.drew (.cells #[.string x.name] 9)).cell (p:=⟨w.heap.size,1,none⟩) (show w.heap.size < w9.heap.size from HS9.out)).trans HCN9.out) (fun hHeld=>?_)
    clear hK K
    try simp only [zqT,zqS,zqZ,Act.put,zqB,zq0,zq1]
    refine wpAnyH_ready (rs:=[8]) (by kernel_rfl) (by simp) ?_
    refine AllReadyH.cons rfl (fun K hK=>?_) AllReadyH.nil
    refine step_append_lies _ (by rfl) _ _ _ (by rfl) B 9 i0 _ 1 16 Tryz.underlying60 hi hz0 hz1 hz2 rfl (by decide) _ L.length _ (by rfl) ((show w9.drew.ownsRow B 9 1 (.slice ao L.length cp) L.length (L.map fun p=>.string p.2.1.name) from HROW9.out).alloc _) ⟨w9.heap.size,0,none⟩ 1 1 [.string x.name] (by rfl) (by rfl) (World.news_of_block (cs:=#[.string x.name]) (t:=9) (fr:=(0,0)) (World.alloc_heap_new w9.drew _)) (by simp [Value.oneCell']) Nat.one_pos hq1.out hq2.out (by first | (rw [World.size_alloc]; exact HBB9.out) | (show B≤(w9.alloc (.cells #[.string x.name] 9)).heap.size; rw [World.size_alloc]; exact HBB9.out)) (w9.heap.size + 1) (World.size_alloc _ _) ?_
    intro g1 cap1 w10 hown10 hg10 hat10 hlt10
    have HO10:=hid hown10
    have HG10:=hid (show (w9.drew.alloc (.cells #[.string x.name] 9)).grownBy w10 (Value.slice ao L.length cp).ownBlock from hg10)
    have HAT10:=hid hat10
    clear hown10 hg10 hat10 hlt10
    have HCN10:=hid (show w10.cell? ⟨w.heap.size,1,none⟩=some (.string x.name) from (World.cell?_of_block ((HG10.out.block w.heap.size (by rw [World.size_alloc]; show w.heap.size < w9.heap.size + 1; have:=HS9.out; omega) (fun a=>HXV.out a.symm)).trans ((below_one w9.drew (.cells #[.string x.name] 9)).block w.heap.size (show w.heap.size < w9.heap.size from HS9.out)))).trans HCN9.out)
    have hb10:=(HG10.out.block e (by rw [World.size_alloc]; show e < w9.heap.size + 1; have:=(Array.getElem?_eq_some_iff.1 HB9.out).1; omega) (fun a=>HEV.out a.symm)).trans (((below_one w9.drew (.cells #[.string x.name] 9)).block e (show e < w9.heap.size from (Array.getElem?_eq_some_iff.1 HB9.out).1)).trans HB9.out)
    have cx:w10.cell? ⟨e,1,none⟩=some (.slice ao L.length cp):=by simp [World.cell?,hb10]
    have fx:w10.frozen? ⟨e,1,none⟩=false:=by simp [World.frozen?,hb10]
    clear hb10
    refine hK.out _ _ (HCN10.out) (fun hHeld=>?_)
    clear hK K
    try simp only [zqT,zqS,zqZ,Act.put,zqB,zq0,zq1]
    refine wpAnyH_take (i:=9) (v:=?vs1db9) rfl (by kernel_rfl) (by kernel_rfl) (by kernel_rfl) (fun _ _ _ h=>h) (Or.inl ⟨by rfl,?hys1db9⟩) (by assumption) ?rests1db9
    case hys1db9=>(intro w' hSw; (try dsimp only at hSw); go_simp <;> with_reducible rfl)
    try simp only [zqT,zqS,zqZ,Act.put,zqB,zq0,zq1]
    refine wpAnyH_take (i:=10) (v:=?vs1db10) rfl (by kernel_rfl) (by kernel_rfl) (by kernel_rfl) (fun _ _ _ h=>h) (Or.inl ⟨by rfl,?hys1db10⟩) (by assumption) ?rests1db10
    case hys1db10=>(intro w' hSw; (try dsimp only at hSw); go_simp <;> with_reducible rfl)
    try simp only [zqT,zqS,zqZ,Act.put,zqB,zq0,zq1]
    refine wpAnyH_ready (rs:=[11]) (by kernel_rfl) (by simp) ?_
    refine AllReadyH.cons rfl (fun K hK=>?_) AllReadyH.nil
    go_simp
    refine hK.out _ _ ((World.cell?_setCell_other _ _ _ _ (by intro a; injection a with a1 _ _; exact HXE.out a1.symm)).trans HCN10.out) (fun hHeld=>?_)
    clear hK K
    try simp only [zqT,zqS,zqZ,Act.put,zqB,zq0,zq1]
    refine wpAnyH_done (by kernel_rfl) ?_ _
    have HEND:=hid (show PutPost P B e L x (some m) v w (.returned (.tuple #[])) (w10.setCell ⟨e,1,none⟩ (.slice (some ⟨g1,0,none⟩) (L.length + 1) cap1)) from ⟨rfl,_,_,h3,EnvB.add (D:=D) (m:=m) (W9:=w9) HENV.out HMW.out HPS.out HPP.out (Or.inl rfl) (by rw [HVV.out]; exact HB9.out) HOWN9.out HTI.out HRAN9.out HO10.out (by rw [HVV.out]; exact HG10.out) (by rw [HVV.out]; exact HAT10.out) HNEW.out HL.out⟩)
    clear cx fx
    go_wp2_with fail
    go_end0
    exact HEND.out
 ·have hkb:(x.kind == 2)=false:=by simpa using hk
  have HK:=hid hk
  have HHV:=hid (hasValue_any HM4.out.box)
  have hhv:({ x with height:=0 }:Inf).hv=x.hv:=rfl
  rw [hhv] at HHV
  obtain ⟨V,hV⟩:∃ V,V=x.hv:=⟨_,rfl⟩
  rw [← hV] at HHV
  have HV:=hid hV
  clear hhv hV hk
  cases V
  ·obtain ⟨c8,c9,c10,c11,c12⟩:W4.cell? ⟨w.heap.size,8,none⟩=some (.int .u8 x.va.k)∧W4.cell? ⟨w.heap.size,9,none⟩=some (.int .i64 x.va.n)∧W4.cell? ⟨w.heap.size,10,none⟩=some (.string x.va.s)∧W4.cell? ⟨w.heap.size,11,none⟩=some (.slice h2.va.lo x.va.ls.length h2.va.lc)∧W4.cell? ⟨w.heap.size,12,none⟩=some (.slice h2.va.to x.va.ts.length h2.va.tc):=t_cells x.va h2.va HM4.out.box.va
   have f8:=HM4.out.box.free 8
   have f9:=HM4.out.box.free 9
   have f10:=HM4.out.box.free 10
   have f11:=HM4.out.box.free 11
   have f12:=HM4.out.box.free 12
   obtain ⟨W,hW⟩:∃ W,W=putO W4 w.heap.size 8 (.int .u8 0) (.int .i64 0) (.string ⟨#[]⟩) (.slice none 0 0) (.slice none 0 0):=⟨_,rfl⟩
   have HMW:=hid (show Mid P2 w W (fixI L x) { h2 with va:=zHd } from by
    have he:({ ({ x with height:=0 }:Inf) with va:=zeroT }:Inf)=fixI L x:=by unfold fixI; rw [if_neg HK.out,if_neg (by rw [← HV.out]; decide)]
    have hr:=RanS.of_ran (P:=fun q=>q=w.heap.size) (putO_ran W4 w.heap.size 8 (.int .u8 0) (.int .i64 0) (.string ⟨#[]⟩) (.slice none 0 0) (.slice none 0 0)) rfl
    rw [← he,hW]
    exact ⟨HM4.out.box.setVa,(HM4.out.firm.step (hr.wide (fun q hq=>by rw [hq]; exact HPA.out))).noVa,HM4.out.bel.trans (hr.below (fun q hq=>by omega) HM4.out.bel.size)⟩)
   obtain ⟨h3,hh3⟩:∃ h3:IHd,h3={ h2 with va:=zHd }:=⟨_,rfl⟩
   rw [← hh3] at HMW
   unfold putO at hW
   clear hh3
   go_wp2_with fail
   refine HHV.out.mono ?_
   rintro y w' ⟨rfl,rfl⟩
   go_upto_region 7 with fail
   rw [← hW]
   clear hW c8 c9 c10 c11 c12 f8 f9 f10 f11 f12 c0 hkb
   clear HX1 HX2 HHX HM3 HM4 HF1 HOW HRG HCL HCA HC25 HONE HCZ
   have henv:=HENV.out.below HMW.out.bel
   obtain ⟨ao,cp,hv⟩:=row_slice henv.row
   have HEW:=hid henv
   have HVV:=hid hv
   have hbe:W.heap[e]?=some (.cells #[.map mo,.slice ao L.length cp] 110):=by rw [← hv]; exact henv.box
   have HBE:=hid hbe
   have cn:W.cell? ⟨w.heap.size,1,none⟩=some (.string x.name):=HMW.out.box.cell 1
   have HCN:=hid cn
   have ce0:W.cell? ⟨e,0,none⟩=some (.map mo):=by simp [World.cell?,hbe]
   have fe0:W.frozen? ⟨e,0,none⟩=false:=by simp [World.frozen?,hbe]
   have hle:e < W.heap.size:=(Array.getElem?_eq_some_iff.1 hbe).1
   have hkey:keyOf Tryz.prog 9 (.string x.name)=some (.string (key x.name)):=WideMaps.keyOf_string_mk Tryz.underlying9 HS.out
   have HKEY:=hid hkey
   have HXE:Hid (w.heap.size ≠ e):=hid (fun a=>by have:=HENV.out.own_lt e (Or.inl rfl); omega)
   have hmp:=henv.map
   clear henv hv hbe hkey
   rcases hmp with ⟨hmo,hL⟩ | ⟨m,D,hmo,hown,htied⟩
   ·subst hmo
    have hmm:=@run_makeMap Tryz.prog
    have qn:=eqlNilE W
    obtain ⟨W7,hW7⟩:∃ W7,W7=(W.setCell ⟨e,0,none⟩ (.map (some W.heap.size))).alloc (.map #[] 0):=⟨_,rfl⟩
    obtain ⟨m,hm⟩:∃ m,m=W.heap.size:=⟨_,rfl⟩
    have HB7:=hid (show W7.heap[e]?=some (.cells #[.map (some m),.slice ao L.length cp] 110) from by rw [hW7,hm]; exact keepA (cells_setE (i:=0) HBE.out _) _)
    have hem:e ≠ m:=by omega
    have HOWN7:=hid (show W7.ownsMap Tryz.prog 9 ptrElem m L.length (.map []) from by
     have h0:=World.ownsMap_made (H:=Unit) (W.setCell ⟨e,0,none⟩ (.map (some W.heap.size))) Tryz.prog 9 ptrElem
     rw [World.size_setCell,← hW7,← hm] at h0
     exact h0.mono (by omega))
    have HR7:=hid (show RanS (fun q=>q=e) W W7 from by rw [hW7]; exact (set_ranE (P:=fun q=>q=e) W e 0 (.map (some W.heap.size)) rfl).trans (RanS.of_below (below_one _ _)))
    have HCN7:=hid (show W7.cell? ⟨w.heap.size,1,none⟩=some (.string x.name) from (HR7.out.cell (p:=⟨w.heap.size,1,none⟩) HMW.out.box.lt (fun a=>HXE.out a)).trans HCN.out)
    have HSX7:Hid (w.heap.size < W7.heap.size):=hid (by have:=HR7.out.size; have:=HMW.out.box.lt; omega)
    have HMX7:Hid (w.heap.size ≠ m):=hid (by have:=HMW.out.box.lt; omega)
    have HME:Hid (m ≠ e):=hid (fun a=>hem a.symm)
    have HMM7:=hid hm
    have HLNIL:=hid hL
    clear hem hm hL
    go_upto_region 9 with fail
    rw [← hW7]
    clear hW7 hmm qn ce0 fe0 hle cn
    obtain ⟨D,hD⟩:∃ D:DataW Unit,D=.map []:=⟨_,rfl⟩
    rw [← hD] at HOWN7
    have HTI:=hid (show TiedE D L from by rw [hD,HLNIL.out]; exact ⟨⟨[],rfl⟩,fun k=>by simp [Maps.has],fun p hp=>by cases hp⟩)
    clear hD
    have ce7:W7.cell? ⟨e,0,none⟩=some (.map (some m)):=by have:=HB7.out; simp [World.cell?,this]
    have cn7:W7.cell? ⟨w.heap.size,1,none⟩=some (.string x.name):=HCN7.out
    obtain ⟨w9,hrun,hown9,hgrow9⟩:=(show W7.drew.ownsMap Tryz.prog 9 ptrElem m L.length D from HOWN7.out).update (string_keyed Tryz.underlying9) Tryz.underlying108 (by have:=HL.out; unfold maxLen; omega) HKEY.out (show ptrElem (.pointer (some ⟨w.heap.size,0,none⟩))=some (.lit (.int .i64 (w.heap.size:Nat)),[]) from rfl)
    have HOWN9:=hid hown9
    have HG9:=hid hgrow9
    clear hown9 hgrow9
    have hmlt:Hid (m < W7.heap.size):=hid HOWN7.out.lt
    have HB9:=hid ((HG9.out.block e (Array.getElem?_eq_some_iff.1 HB7.out).1 (fun a=>HME.out (Option.some.inj a).symm)).trans HB7.out)
    have HCN9:=hid (show w9.cell? ⟨w.heap.size,1,none⟩=some (.string x.name) from (World.cell?_of_block (HG9.out.block w.heap.size (by have:=HSX7.out; exact this) (fun a=>HMX7.out (Option.some.inj a)))).trans HCN7.out)
    have HRAN9:=hid (show RanS (ownE e v none) W w9 from ran_goE (P:=ownE e v none) (P':=fun q=>q=m) (HR7.out.wide (fun q hq=>Or.inl hq)) ⟨HG9.out.os,HG9.out.tape,HG9.out.output,HG9.out.size,fun k hk hn=>HG9.out.block k hk (fun a=>hn (Option.some.inj a))⟩ (fun q hq=>Or.inr (by have:=HMM7.out; omega)))
    have HS9:Hid (w.heap.size < w9.heap.size):=hid (by have h1:=HG9.out.size; have h2:=HSX7.out; have h3:W7.drew.heap.size=W7.heap.size:=rfl; omega)
    have HQ9:=hid (show ∀ q,v.ownBlock=some q→w9.heap[q]?=W.heap[q]? from fun q hq=>by
     have hqw:=HENV.out.own_lt q (Or.inr (Or.inl hq))
     have hqW:q < W.heap.size:=by have:=HMW.out.box.lt; omega
     exact (HG9.out.block q (by have:=HR7.out.size; exact Nat.lt_of_lt_of_le hqW this) (fun a=>by have a:=Option.some.inj a; have:=HMM7.out; omega)).trans (HR7.out.block q hqW (fun a=>HENV.out.apart.1 (a ▸ hq))))
    have HRV9:=hid (show ∀ q,(Value.slice ao L.length cp).ownBlock=some q→w9.heap[q]?=W.heap[q]? from fun q hq=>by
     have hqv:v.ownBlock=some q:=by rw [HVV.out]; exact hq
     exact HQ9.out q hqv)
    have HBB9:Hid (B≤w9.heap.size + 1):=hid (by have h1:=HENV.out.eB; have h2:=HENV.out.own_lt e (Or.inl rfl); have h3:=HS9.out; omega)
    have HXV:Hid ((Value.slice ao L.length cp).ownBlock ≠ some w.heap.size):=hid (fun a=>by have:=HENV.out.own_lt w.heap.size (Or.inr (Or.inl (by rw [HVV.out]; exact a))); omega)
    have HEV:Hid ((Value.slice ao L.length cp).ownBlock ≠ some e):=hid (fun a=>HENV.out.apart.1 (by rw [HVV.out]; exact a))
    go_region
    go_upto_region 10 with fail
    clear ce7 cn7 hrun
    have HROW9:=hid (show w9.ownsRow B 9 1 (.slice ao L.length cp) L.length (L.map fun p=>.string p.2.1.name) from by
     have hr:=HEW.out.row
     rw [HVV.out] at hr
     refine row_same hr fun q hq=>HRV9.out q hq)
    obtain ⟨i0,hi,hz0,hz1,hz2⟩:=info_parts infoStr
    have hq1:Hid (L.length + 1≤maxLen):=hid (by unfold maxLen; have:=HL.out; omega)
    have hq2:Hid ((L.length + 1) * 16≤140737488355328):=hid (by have:=HL.out; omega)
    have ce9:w9.cell? ⟨e,1,none⟩=some (.slice ao L.length cp):=by have:=HB9.out; simp [World.cell?,this]
    refine wp_region_held_drew (S:=fun w'=>w'.cell? ⟨w.heap.size,1,none⟩=some (.string x.name)) (by kernel_rfl) (HCN9.out) (fun hHeld=>?_)
    refine wpAnyH_take (i:=0) (v:=?vn3a0) rfl (by kernel_rfl) (by kernel_rfl) (by kernel_rfl) (fun _ _ _ h=>h) (Or.inl ⟨by rfl,?hyn3a0⟩) (by assumption) ?restn3a0
    case hyn3a0=>(intro w' hSw; (try dsimp only at hSw); go_simp <;> with_reducible rfl)
    try simp only [zqT,zqZ,Act.put,zqB,zq0,zq1]
    refine wpAnyH_take (i:=1) (v:=?vn3a1) rfl (by kernel_rfl) (by kernel_rfl) (by kernel_rfl) (fun _ _ _ h=>h) (Or.inl ⟨by rfl,?hyn3a1⟩) (by assumption) ?restn3a1
    case hyn3a1=>(intro w' hSw; (try dsimp only at hSw); go_simp <;> with_reducible rfl)
    try simp only [zqT,zqS,zqZ,Act.put,zqB,zq0,zq1]
    refine wpAnyH_take (i:=2) (v:=?vn3a2) rfl (by kernel_rfl) (by kernel_rfl) (by kernel_rfl) (fun _ _ _ h=>h) (Or.inl ⟨by rfl,?hyn3a2⟩) (by assumption) ?restn3a2
    case hyn3a2=>(intro w' hSw; (try dsimp only at hSw); go_simp <;> with_reducible rfl)
    try simp only [zqT,zqS,zqZ,Act.put,zqB,zq0,zq1]
    refine wpAnyH_take (i:=3) (v:=?vn3a3) rfl (by kernel_rfl) (by kernel_rfl) (by kernel_rfl) (fun _ _ _ h=>h) (Or.inl ⟨by rfl,?hyn3a3⟩) (by assumption) ?restn3a3
    case hyn3a3=>(intro w' hSw; (try dsimp only at hSw); go_simp <;> with_reducible rfl)
    try simp only [zqT,zqS,zqZ,Act.put,zqB,zq0,zq1]
    refine wpAnyH_take (i:=5) (v:=?vn3a5) rfl (by kernel_rfl) (by kernel_rfl) (by kernel_rfl) (fun _ _ _ h=>h) (Or.inl ⟨by rfl,?hyn3a5⟩) (by assumption) ?restn3a5
    case hyn3a5=>(intro w' hSw; (try dsimp only at hSw); go_simp <;> with_reducible rfl)
    try simp only [zqT,zqS,zqZ,Act.put,zqB,zq0,zq1]
    refine wpAnyH_take (i:=6) (v:=?vn3a6) rfl (by kernel_rfl) (by kernel_rfl) (by kernel_rfl) (fun _ _ _ h=>h) (Or.inl ⟨by rfl,?hyn3a6⟩) (by assumption) ?restn3a6
    case hyn3a6=>(intro w' hSw; (try dsimp only at hSw); go_simp <;> with_reducible rfl)
    try simp only [zqT,zqS,zqZ,Act.put,zqB,zq0,zq1]
    refine wpAnyH_ready (rs:=[4,7]) (by kernel_rfl) (by simp) ?_
    refine AllReadyH.cons rfl (fun K hK=>?_) (AllReadyH.cons rfl (fun K hK=>?_) AllReadyH.nil)
    ·go_simp
     refine hK.out _ _ (HCN9.out) (fun hHeld=>?_)
     clear hK K
     try simp only [zqT,zqS,zqZ,Act.put,zqB,zq0,zq1]
     refine wpAnyH_ready (rs:=[7]) (by kernel_rfl) (by simp) ?_
     refine AllReadyH.cons rfl (fun K hK=>?_) AllReadyH.nil
     go_simp
     refine hK.out _ _ (((below_one w9.drew (.cells #[.string x.name] 9)).cell (p:=⟨w.heap.size,1,none⟩) (show w.heap.size < w9.heap.size from HS9.out)).trans HCN9.out) (fun hHeld=>?_)
     clear hK K
     try simp only [zqT,zqS,zqZ,Act.put,zqB,zq0,zq1]
     refine wpAnyH_ready (rs:=[8]) (by kernel_rfl) (by simp) ?_
     refine AllReadyH.cons rfl (fun K hK=>?_) AllReadyH.nil
     refine step_append_lies _ (by rfl) _ _ _ (by rfl) B 9 i0 _ 1 16 Tryz.underlying60 hi hz0 hz1 hz2 rfl (by decide) _ L.length _ (by rfl) ((show w9.drew.ownsRow B 9 1 (.slice ao L.length cp) L.length (L.map fun p=>.string p.2.1.name) from HROW9.out).alloc _) ⟨w9.heap.size,0,none⟩ 1 1 [.string x.name] (by rfl) (by rfl) (World.news_of_block (cs:=#[.string x.name]) (t:=9) (fr:=(0,0)) (World.alloc_heap_new w9.drew _)) (by simp [Value.oneCell']) Nat.one_pos hq1.out hq2.out (by first | (rw [World.size_alloc]; exact HBB9.out) | (show B≤(w9.alloc (.cells #[.string x.name] 9)).heap.size; rw [World.size_alloc]; exact HBB9.out)) (w9.heap.size + 1) (World.size_alloc _ _) ?_
     intro g1 cap1 w10 hown10 hg10 hat10 hlt10
     have HO10:=hid hown10
     have HG10:=hid (show (w9.drew.alloc (.cells #[.string x.name] 9)).grownBy w10 (Value.slice ao L.length cp).ownBlock from hg10)
     have HAT10:=hid hat10
     clear hown10 hg10 hat10 hlt10
     have HCN10:=hid (show w10.cell? ⟨w.heap.size,1,none⟩=some (.string x.name) from (World.cell?_of_block ((HG10.out.block w.heap.size (by rw [World.size_alloc]; show w.heap.size < w9.heap.size + 1; have:=HS9.out; omega) (fun a=>HXV.out a.symm)).trans ((below_one w9.drew (.cells #[.string x.name] 9)).block w.heap.size (show w.heap.size < w9.heap.size from HS9.out)))).trans HCN9.out)
     have hb10:=(HG10.out.block e (by rw [World.size_alloc]; show e < w9.heap.size + 1; have:=(Array.getElem?_eq_some_iff.1 HB9.out).1; omega) (fun a=>HEV.out a.symm)).trans (((below_one w9.drew (.cells #[.string x.name] 9)).block e (show e < w9.heap.size from (Array.getElem?_eq_some_iff.1 HB9.out).1)).trans HB9.out)
     have cx:w10.cell? ⟨e,1,none⟩=some (.slice ao L.length cp):=by simp [World.cell?,hb10]
     have fx:w10.frozen? ⟨e,1,none⟩=false:=by simp [World.frozen?,hb10]
     clear hb10
     refine hK.out _ _ (HCN10.out) (fun hHeld=>?_)
     clear hK K
     try simp only [zqT,zqS,zqZ,Act.put,zqB,zq0,zq1]
     refine wpAnyH_take (i:=9) (v:=?vn3cb9) rfl (by kernel_rfl) (by kernel_rfl) (by kernel_rfl) (fun _ _ _ h=>h) (Or.inl ⟨by rfl,?hyn3cb9⟩) (by assumption) ?restn3cb9
     case hyn3cb9=>(intro w' hSw; (try dsimp only at hSw); go_simp <;> with_reducible rfl)
     try simp only [zqT,zqS,zqZ,Act.put,zqB,zq0,zq1]
     refine wpAnyH_take (i:=10) (v:=?vn3cb10) rfl (by kernel_rfl) (by kernel_rfl) (by kernel_rfl) (fun _ _ _ h=>h) (Or.inl ⟨by rfl,?hyn3cb10⟩) (by assumption) ?restn3cb10
     case hyn3cb10=>(intro w' hSw; (try dsimp only at hSw); go_simp <;> with_reducible rfl)
     try simp only [zqT,zqS,zqZ,Act.put,zqB,zq0,zq1]
     refine wpAnyH_ready (rs:=[11]) (by kernel_rfl) (by simp) ?_
     refine AllReadyH.cons rfl (fun K hK=>?_) AllReadyH.nil
     go_simp
     refine hK.out _ _ ((World.cell?_setCell_other _ _ _ _ (by intro a; injection a with a1 _ _; exact HXE.out a1.symm)).trans HCN10.out) (fun hHeld=>?_)
     clear hK K
     try simp only [zqT,zqS,zqZ,Act.put,zqB,zq0,zq1]
     refine wpAnyH_done (by kernel_rfl) ?_ _
     have HEND:=hid (show PutPost P B e L x none v w (.returned (.tuple #[])) (w10.setCell ⟨e,1,none⟩ (.slice (some ⟨g1,0,none⟩) (L.length + 1) cap1)) from ⟨rfl,_,_,h3,EnvB.add (D:=D) (m:=m) (W9:=w9) HENV.out HMW.out HPS.out HPP.out (Or.inr ⟨rfl,HMM7.out⟩) (by rw [HVV.out]; exact HB9.out) HOWN9.out HTI.out HRAN9.out HO10.out (by rw [HVV.out]; exact HG10.out) (by rw [HVV.out]; exact HAT10.out) HNEW.out HL.out⟩)
     clear cx fx
     go_wp2_with fail
     go_end0
     exact HEND.out
    ·go_simp
     refine hK.out _ _ (((below_one w9.drew (.cells #[.string x.name] 9)).cell (p:=⟨w.heap.size,1,none⟩) (show w.heap.size < w9.heap.size from HS9.out)).trans HCN9.out) (fun hHeld=>?_)
     clear hK K
     try simp only [zqT,zqS,zqZ,Act.put,zqB,zq0,zq1]
     refine wpAnyH_ready (rs:=[4]) (by kernel_rfl) (by simp) ?_
     refine AllReadyH.cons rfl (fun K hK=>?_) AllReadyH.nil
     have ce99:(w9.alloc (.cells #[.string x.name] 9)).cell? ⟨e,1,none⟩=some (.slice ao L.length cp):=((below_one w9 (.cells #[.string x.name] 9)).cell (p:=⟨e,1,none⟩) (show e < w9.heap.size from (Array.getElem?_eq_some_iff.1 HB9.out).1)).trans ce9
     have hle9:e < w9.heap.size:=(Array.getElem?_eq_some_iff.1 HB9.out).1
     go_simp
     refine hK.out _ _ (((below_one w9.drew (.cells #[.string x.name] 9)).cell (p:=⟨w.heap.size,1,none⟩) (show w.heap.size < w9.heap.size from HS9.out)).trans HCN9.out) (fun hHeld=>?_)
     clear hK K
     try simp only [zqT,zqS,zqZ,Act.put,zqB,zq0,zq1]
     refine wpAnyH_ready (rs:=[8]) (by kernel_rfl) (by simp) ?_
     refine AllReadyH.cons rfl (fun K hK=>?_) AllReadyH.nil
     refine step_append_lies _ (by rfl) _ _ _ (by rfl) B 9 i0 _ 1 16 Tryz.underlying60 hi hz0 hz1 hz2 rfl (by decide) _ L.length _ (by rfl) ((show w9.drew.ownsRow B 9 1 (.slice ao L.length cp) L.length (L.map fun p=>.string p.2.1.name) from HROW9.out).alloc _) ⟨w9.heap.size,0,none⟩ 1 1 [.string x.name] (by rfl) (by rfl) (World.news_of_block (cs:=#[.string x.name]) (t:=9) (fr:=(0,0)) (World.alloc_heap_new w9.drew _)) (by simp [Value.oneCell']) Nat.one_pos hq1.out hq2.out (by first | (rw [World.size_alloc]; exact HBB9.out) | (show B≤(w9.alloc (.cells #[.string x.name] 9)).heap.size; rw [World.size_alloc]; exact HBB9.out)) (w9.heap.size + 1) (World.size_alloc _ _) ?_
     intro g1 cap1 w10 hown10 hg10 hat10 hlt10
     have HO10:=hid hown10
     have HG10:=hid (show (w9.drew.alloc (.cells #[.string x.name] 9)).grownBy w10 (Value.slice ao L.length cp).ownBlock from hg10)
     have HAT10:=hid hat10
     clear hown10 hg10 hat10 hlt10
     have HCN10:=hid (show w10.cell? ⟨w.heap.size,1,none⟩=some (.string x.name) from (World.cell?_of_block ((HG10.out.block w.heap.size (by rw [World.size_alloc]; show w.heap.size < w9.heap.size + 1; have:=HS9.out; omega) (fun a=>HXV.out a.symm)).trans ((below_one w9.drew (.cells #[.string x.name] 9)).block w.heap.size (show w.heap.size < w9.heap.size from HS9.out)))).trans HCN9.out)
     have hb10:=(HG10.out.block e (by rw [World.size_alloc]; show e < w9.heap.size + 1; have:=(Array.getElem?_eq_some_iff.1 HB9.out).1; omega) (fun a=>HEV.out a.symm)).trans (((below_one w9.drew (.cells #[.string x.name] 9)).block e (show e < w9.heap.size from (Array.getElem?_eq_some_iff.1 HB9.out).1)).trans HB9.out)
     have cx:w10.cell? ⟨e,1,none⟩=some (.slice ao L.length cp):=by simp [World.cell?,hb10]
     have fx:w10.frozen? ⟨e,1,none⟩=false:=by simp [World.frozen?,hb10]
     clear hb10
     refine hK.out _ _ (HCN10.out) (fun hHeld=>?_)
     clear hK K
     try simp only [zqT,zqS,zqZ,Act.put,zqB,zq0,zq1]
     refine wpAnyH_take (i:=9) (v:=?vn3db9) rfl (by kernel_rfl) (by kernel_rfl) (by kernel_rfl) (fun _ _ _ h=>h) (Or.inl ⟨by rfl,?hyn3db9⟩) (by assumption) ?restn3db9
     case hyn3db9=>(intro w' hSw; (try dsimp only at hSw); go_simp <;> with_reducible rfl)
     try simp only [zqT,zqS,zqZ,Act.put,zqB,zq0,zq1]
     refine wpAnyH_take (i:=10) (v:=?vn3db10) rfl (by kernel_rfl) (by kernel_rfl) (by kernel_rfl) (fun _ _ _ h=>h) (Or.inl ⟨by rfl,?hyn3db10⟩) (by assumption) ?restn3db10
     case hyn3db10=>(intro w' hSw; (try dsimp only at hSw); go_simp <;> with_reducible rfl)
     try simp only [zqT,zqS,zqZ,Act.put,zqB,zq0,zq1]
     refine wpAnyH_ready (rs:=[11]) (by kernel_rfl) (by simp) ?_
     refine AllReadyH.cons rfl (fun K hK=>?_) AllReadyH.nil
     go_simp
     refine hK.out _ _ ((World.cell?_setCell_other _ _ _ _ (by intro a; injection a with a1 _ _; exact HXE.out a1.symm)).trans HCN10.out) (fun hHeld=>?_)
     clear hK K
     try simp only [zqT,zqS,zqZ,Act.put,zqB,zq0,zq1]
     refine wpAnyH_done (by kernel_rfl) ?_ _
     have HEND:=hid (show PutPost P B e L x none v w (.returned (.tuple #[])) (w10.setCell ⟨e,1,none⟩ (.slice (some ⟨g1,0,none⟩) (L.length + 1) cap1)) from ⟨rfl,_,_,h3,EnvB.add (D:=D) (m:=m) (W9:=w9) HENV.out HMW.out HPS.out HPP.out (Or.inr ⟨rfl,HMM7.out⟩) (by rw [HVV.out]; exact HB9.out) HOWN9.out HTI.out HRAN9.out HO10.out (by rw [HVV.out]; exact HG10.out) (by rw [HVV.out]; exact HAT10.out) HNEW.out HL.out⟩)
     clear cx fx
     go_wp2_with fail
     go_end0
     exact HEND.out
   ·subst hmo
    have qs:=eqlSomeE m W
    have HTI:=hid htied
    obtain ⟨W7,hW7⟩:∃ x:World,x=W:=⟨_,rfl⟩
    have HOWN7:=hid (show W7.ownsMap Tryz.prog 9 ptrElem m L.length D from hW7 ▸ hown)
    have HB7:=hid (show W7.heap[e]?=some (.cells #[.map (some m),.slice ao L.length cp] 110) from hW7 ▸ HBE.out)
    have HCN7:=hid (show W7.cell? ⟨w.heap.size,1,none⟩=some (.string x.name) from hW7 ▸ HCN.out)
    have HSX7:Hid (w.heap.size < W7.heap.size):=hid (hW7 ▸ HMW.out.box.lt)
    have HMX7:Hid (w.heap.size ≠ m):=hid (fun a=>by have:=HENV.out.own_lt m (Or.inr (Or.inr rfl)); omega)
    have HME:Hid (m ≠ e):=hid (fun a=>HENV.out.apart.2.1 (by rw [a]))
    clear hown htied
    go_upto_region 9 with fail
    rw [← hW7]
    subst hW7
    clear qs ce0 fe0 hle cn
    have ce7:W7.cell? ⟨e,0,none⟩=some (.map (some m)):=by have:=HB7.out; simp [World.cell?,this]
    have cn7:W7.cell? ⟨w.heap.size,1,none⟩=some (.string x.name):=HCN7.out
    obtain ⟨w9,hrun,hown9,hgrow9⟩:=(show W7.drew.ownsMap Tryz.prog 9 ptrElem m L.length D from HOWN7.out).update (string_keyed Tryz.underlying9) Tryz.underlying108 (by have:=HL.out; unfold maxLen; omega) HKEY.out (show ptrElem (.pointer (some ⟨w.heap.size,0,none⟩))=some (.lit (.int .i64 (w.heap.size:Nat)),[]) from rfl)
    have HOWN9:=hid hown9
    have HG9:=hid hgrow9
    clear hown9 hgrow9
    have hmlt:Hid (m < W7.heap.size):=hid HOWN7.out.lt
    have HB9:=hid ((HG9.out.block e (Array.getElem?_eq_some_iff.1 HB7.out).1 (fun a=>HME.out (Option.some.inj a).symm)).trans HB7.out)
    have HCN9:=hid (show w9.cell? ⟨w.heap.size,1,none⟩=some (.string x.name) from (World.cell?_of_block (HG9.out.block w.heap.size (by have:=HSX7.out; exact this) (fun a=>HMX7.out (Option.some.inj a)))).trans HCN7.out)
    have HRAN9:=hid (show RanS (ownE e v (some m)) W7 w9 from ran_goE (P:=ownE e v (some m)) (P':=fun q=>q=m) (RanS.refl _ W7) ⟨HG9.out.os,HG9.out.tape,HG9.out.output,HG9.out.size,fun k hk hn=>HG9.out.block k hk (fun a=>hn (Option.some.inj a))⟩ (fun q hq=>Or.inl (by rw [hq]; exact Or.inr (Or.inr rfl))))
    have HS9:Hid (w.heap.size < w9.heap.size):=hid (by have h1:=HG9.out.size; have h2:=HSX7.out; have h3:W7.drew.heap.size=W7.heap.size:=rfl; omega)
    have HQ9:=hid (show ∀ q,v.ownBlock=some q→w9.heap[q]?=W7.heap[q]? from fun q hq=>by
     have hqw:=HENV.out.own_lt q (Or.inr (Or.inl hq))
     have hqW:q < W7.heap.size:=by have:=HMW.out.box.lt; omega
     exact (HG9.out.block q (hqW) (fun a=>by have a:=Option.some.inj a; exact HENV.out.apart.2.2 q hq (by rw [a]))).trans rfl)
    have HRV9:=hid (show ∀ q,(Value.slice ao L.length cp).ownBlock=some q→w9.heap[q]?=W7.heap[q]? from fun q hq=>by
     have hqv:v.ownBlock=some q:=by rw [HVV.out]; exact hq
     exact HQ9.out q hqv)
    have HBB9:Hid (B≤w9.heap.size + 1):=hid (by have h1:=HENV.out.eB; have h2:=HENV.out.own_lt e (Or.inl rfl); have h3:=HS9.out; omega)
    have HXV:Hid ((Value.slice ao L.length cp).ownBlock ≠ some w.heap.size):=hid (fun a=>by have:=HENV.out.own_lt w.heap.size (Or.inr (Or.inl (by rw [HVV.out]; exact a))); omega)
    have HEV:Hid ((Value.slice ao L.length cp).ownBlock ≠ some e):=hid (fun a=>HENV.out.apart.1 (by rw [HVV.out]; exact a))
    go_region
    go_upto_region 10 with fail
    clear ce7 cn7 hrun
    have HROW9:=hid (show w9.ownsRow B 9 1 (.slice ao L.length cp) L.length (L.map fun p=>.string p.2.1.name) from by
     have hr:=HEW.out.row
     rw [HVV.out] at hr
     refine row_same hr fun q hq=>HRV9.out q hq)
    obtain ⟨i0,hi,hz0,hz1,hz2⟩:=info_parts infoStr
    have hq1:Hid (L.length + 1≤maxLen):=hid (by unfold maxLen; have:=HL.out; omega)
    have hq2:Hid ((L.length + 1) * 16≤140737488355328):=hid (by have:=HL.out; omega)
    have ce9:w9.cell? ⟨e,1,none⟩=some (.slice ao L.length cp):=by have:=HB9.out; simp [World.cell?,this]
    refine wp_region_held_drew (S:=fun w'=>w'.cell? ⟨w.heap.size,1,none⟩=some (.string x.name)) (by kernel_rfl) (HCN9.out) (fun hHeld=>?_)
    refine wpAnyH_take (i:=0) (v:=?vs3a0) rfl (by kernel_rfl) (by kernel_rfl) (by kernel_rfl) (fun _ _ _ h=>h) (Or.inl ⟨by rfl,?hys3a0⟩) (by assumption) ?rests3a0
    case hys3a0=>(intro w' hSw; (try dsimp only at hSw); go_simp <;> with_reducible rfl)
    try simp only [zqT,zqZ,Act.put,zqB,zq0,zq1]
    refine wpAnyH_take (i:=1) (v:=?vs3a1) rfl (by kernel_rfl) (by kernel_rfl) (by kernel_rfl) (fun _ _ _ h=>h) (Or.inl ⟨by rfl,?hys3a1⟩) (by assumption) ?rests3a1
    case hys3a1=>(intro w' hSw; (try dsimp only at hSw); go_simp <;> with_reducible rfl)
    try simp only [zqT,zqS,zqZ,Act.put,zqB,zq0,zq1]
    refine wpAnyH_take (i:=2) (v:=?vs3a2) rfl (by kernel_rfl) (by kernel_rfl) (by kernel_rfl) (fun _ _ _ h=>h) (Or.inl ⟨by rfl,?hys3a2⟩) (by assumption) ?rests3a2
    case hys3a2=>(intro w' hSw; (try dsimp only at hSw); go_simp <;> with_reducible rfl)
    try simp only [zqT,zqS,zqZ,Act.put,zqB,zq0,zq1]
    refine wpAnyH_take (i:=3) (v:=?vs3a3) rfl (by kernel_rfl) (by kernel_rfl) (by kernel_rfl) (fun _ _ _ h=>h) (Or.inl ⟨by rfl,?hys3a3⟩) (by assumption) ?rests3a3
    case hys3a3=>(intro w' hSw; (try dsimp only at hSw); go_simp <;> with_reducible rfl)
    try simp only [zqT,zqS,zqZ,Act.put,zqB,zq0,zq1]
    refine wpAnyH_take (i:=5) (v:=?vs3a5) rfl (by kernel_rfl) (by kernel_rfl) (by kernel_rfl) (fun _ _ _ h=>h) (Or.inl ⟨by rfl,?hys3a5⟩) (by assumption) ?rests3a5
    case hys3a5=>(intro w' hSw; (try dsimp only at hSw); go_simp <;> with_reducible rfl)
    try simp only [zqT,zqS,zqZ,Act.put,zqB,zq0,zq1]
    refine wpAnyH_take (i:=6) (v:=?vs3a6) rfl (by kernel_rfl) (by kernel_rfl) (by kernel_rfl) (fun _ _ _ h=>h) (Or.inl ⟨by rfl,?hys3a6⟩) (by assumption) ?rests3a6
    case hys3a6=>(intro w' hSw; (try dsimp only at hSw); go_simp <;> with_reducible rfl)
    try simp only [zqT,zqS,zqZ,Act.put,zqB,zq0,zq1]
    refine wpAnyH_ready (rs:=[4,7]) (by kernel_rfl) (by simp) ?_
    refine AllReadyH.cons rfl (fun K hK=>?_) (AllReadyH.cons rfl (fun K hK=>?_) AllReadyH.nil)
    ·go_simp
     refine hK.out _ _ (HCN9.out) (fun hHeld=>?_)
     clear hK K
     try simp only [zqT,zqS,zqZ,Act.put,zqB,zq0,zq1]
     refine wpAnyH_ready (rs:=[7]) (by kernel_rfl) (by simp) ?_
     refine AllReadyH.cons rfl (fun K hK=>?_) AllReadyH.nil
     go_simp
     refine hK.out _ _ (((below_one w9.drew (.cells #[.string x.name] 9)).cell (p:=⟨w.heap.size,1,none⟩) (show w.heap.size < w9.heap.size from HS9.out)).trans HCN9.out) (fun hHeld=>?_)
     clear hK K
     try simp only [zqT,zqS,zqZ,Act.put,zqB,zq0,zq1]
     refine wpAnyH_ready (rs:=[8]) (by kernel_rfl) (by simp) ?_
     refine AllReadyH.cons rfl (fun K hK=>?_) AllReadyH.nil
     refine step_append_lies _ (by rfl) _ _ _ (by rfl) B 9 i0 _ 1 16 Tryz.underlying60 hi hz0 hz1 hz2 rfl (by decide) _ L.length _ (by rfl) ((show w9.drew.ownsRow B 9 1 (.slice ao L.length cp) L.length (L.map fun p=>.string p.2.1.name) from HROW9.out).alloc _) ⟨w9.heap.size,0,none⟩ 1 1 [.string x.name] (by rfl) (by rfl) (World.news_of_block (cs:=#[.string x.name]) (t:=9) (fr:=(0,0)) (World.alloc_heap_new w9.drew _)) (by simp [Value.oneCell']) Nat.one_pos hq1.out hq2.out (by first | (rw [World.size_alloc]; exact HBB9.out) | (show B≤(w9.alloc (.cells #[.string x.name] 9)).heap.size; rw [World.size_alloc]; exact HBB9.out)) (w9.heap.size + 1) (World.size_alloc _ _) ?_
     intro g1 cap1 w10 hown10 hg10 hat10 hlt10
     have HO10:=hid hown10
     have HG10:=hid (show (w9.drew.alloc (.cells #[.string x.name] 9)).grownBy w10 (Value.slice ao L.length cp).ownBlock from hg10)
     have HAT10:=hid hat10
     clear hown10 hg10 hat10 hlt10
     have HCN10:=hid (show w10.cell? ⟨w.heap.size,1,none⟩=some (.string x.name) from (World.cell?_of_block ((HG10.out.block w.heap.size (by rw [World.size_alloc]; show w.heap.size < w9.heap.size + 1; have:=HS9.out; omega) (fun a=>HXV.out a.symm)).trans ((below_one w9.drew (.cells #[.string x.name] 9)).block w.heap.size (show w.heap.size < w9.heap.size from HS9.out)))).trans HCN9.out)
     have hb10:=(HG10.out.block e (by rw [World.size_alloc]; show e < w9.heap.size + 1; have:=(Array.getElem?_eq_some_iff.1 HB9.out).1; omega) (fun a=>HEV.out a.symm)).trans (((below_one w9.drew (.cells #[.string x.name] 9)).block e (show e < w9.heap.size from (Array.getElem?_eq_some_iff.1 HB9.out).1)).trans HB9.out)
     have cx:w10.cell? ⟨e,1,none⟩=some (.slice ao L.length cp):=by simp [World.cell?,hb10]
     have fx:w10.frozen? ⟨e,1,none⟩=false:=by simp [World.frozen?,hb10]
     clear hb10
     refine hK.out _ _ (HCN10.out) (fun hHeld=>?_)
     clear hK K
     try simp only [zqT,zqS,zqZ,Act.put,zqB,zq0,zq1]
     refine wpAnyH_take (i:=9) (v:=?vs3cb9) rfl (by kernel_rfl) (by kernel_rfl) (by kernel_rfl) (fun _ _ _ h=>h) (Or.inl ⟨by rfl,?hys3cb9⟩) (by assumption) ?rests3cb9
     case hys3cb9=>(intro w' hSw; (try dsimp only at hSw); go_simp <;> with_reducible rfl)
     try simp only [zqT,zqS,zqZ,Act.put,zqB,zq0,zq1]
     refine wpAnyH_take (i:=10) (v:=?vs3cb10) rfl (by kernel_rfl) (by kernel_rfl) (by kernel_rfl) (fun _ _ _ h=>h) (Or.inl ⟨by rfl,?hys3cb10⟩) (by assumption) ?rests3cb10
     case hys3cb10=>(intro w' hSw; (try dsimp only at hSw); go_simp <;> with_reducible rfl)
     try simp only [zqT,zqS,zqZ,Act.put,zqB,zq0,zq1]
     refine wpAnyH_ready (rs:=[11]) (by kernel_rfl) (by simp) ?_
     refine AllReadyH.cons rfl (fun K hK=>?_) AllReadyH.nil
     go_simp
     refine hK.out _ _ ((World.cell?_setCell_other _ _ _ _ (by intro a; injection a with a1 _ _; exact HXE.out a1.symm)).trans HCN10.out) (fun hHeld=>?_)
     clear hK K
     try simp only [zqT,zqS,zqZ,Act.put,zqB,zq0,zq1]
     refine wpAnyH_done (by kernel_rfl) ?_ _
     have HEND:=hid (show PutPost P B e L x (some m) v w (.returned (.tuple #[])) (w10.setCell ⟨e,1,none⟩ (.slice (some ⟨g1,0,none⟩) (L.length + 1) cap1)) from ⟨rfl,_,_,h3,EnvB.add (D:=D) (m:=m) (W9:=w9) HENV.out HMW.out HPS.out HPP.out (Or.inl rfl) (by rw [HVV.out]; exact HB9.out) HOWN9.out HTI.out HRAN9.out HO10.out (by rw [HVV.out]; exact HG10.out) (by rw [HVV.out]; exact HAT10.out) HNEW.out HL.out⟩)
     clear cx fx
     go_wp2_with fail
     go_end0
     exact HEND.out
    ·go_simp
     refine hK.out _ _ (((below_one w9.drew (.cells #[.string x.name] 9)).cell (p:=⟨w.heap.size,1,none⟩) (show w.heap.size < w9.heap.size from HS9.out)).trans HCN9.out) (fun hHeld=>?_)
     clear hK K
     try simp only [zqT,zqS,zqZ,Act.put,zqB,zq0,zq1]
     refine wpAnyH_ready (rs:=[4]) (by kernel_rfl) (by simp) ?_
     refine AllReadyH.cons rfl (fun K hK=>?_) AllReadyH.nil
     have ce99:(w9.alloc (.cells #[.string x.name] 9)).cell? ⟨e,1,none⟩=some (.slice ao L.length cp):=((below_one w9 (.cells #[.string x.name] 9)).cell (p:=⟨e,1,none⟩) (show e < w9.heap.size from (Array.getElem?_eq_some_iff.1 HB9.out).1)).trans ce9
     have hle9:e < w9.heap.size:=(Array.getElem?_eq_some_iff.1 HB9.out).1
     go_simp
     refine hK.out _ _ (((below_one w9.drew (.cells #[.string x.name] 9)).cell (p:=⟨w.heap.size,1,none⟩) (show w.heap.size < w9.heap.size from HS9.out)).trans HCN9.out) (fun hHeld=>?_)
     clear hK K
     try simp only [zqT,zqS,zqZ,Act.put,zqB,zq0,zq1]
     refine wpAnyH_ready (rs:=[8]) (by kernel_rfl) (by simp) ?_
     refine AllReadyH.cons rfl (fun K hK=>?_) AllReadyH.nil
     refine step_append_lies _ (by rfl) _ _ _ (by rfl) B 9 i0 _ 1 16 Tryz.underlying60 hi hz0 hz1 hz2 rfl (by decide) _ L.length _ (by rfl) ((show w9.drew.ownsRow B 9 1 (.slice ao L.length cp) L.length (L.map fun p=>.string p.2.1.name) from HROW9.out).alloc _) ⟨w9.heap.size,0,none⟩ 1 1 [.string x.name] (by rfl) (by rfl) (World.news_of_block (cs:=#[.string x.name]) (t:=9) (fr:=(0,0)) (World.alloc_heap_new w9.drew _)) (by simp [Value.oneCell']) Nat.one_pos hq1.out hq2.out (by first | (rw [World.size_alloc]; exact HBB9.out) | (show B≤(w9.alloc (.cells #[.string x.name] 9)).heap.size; rw [World.size_alloc]; exact HBB9.out)) (w9.heap.size + 1) (World.size_alloc _ _) ?_
     intro g1 cap1 w10 hown10 hg10 hat10 hlt10
     have HO10:=hid hown10
     have HG10:=hid (show (w9.drew.alloc (.cells #[.string x.name] 9)).grownBy w10 (Value.slice ao L.length cp).ownBlock from hg10)
     have HAT10:=hid hat10
     clear hown10 hg10 hat10 hlt10
     have HCN10:=hid (show w10.cell? ⟨w.heap.size,1,none⟩=some (.string x.name) from (World.cell?_of_block ((HG10.out.block w.heap.size (by rw [World.size_alloc]; show w.heap.size < w9.heap.size + 1; have:=HS9.out; omega) (fun a=>HXV.out a.symm)).trans ((below_one w9.drew (.cells #[.string x.name] 9)).block w.heap.size (show w.heap.size < w9.heap.size from HS9.out)))).trans HCN9.out)
     have hb10:=(HG10.out.block e (by rw [World.size_alloc]; show e < w9.heap.size + 1; have:=(Array.getElem?_eq_some_iff.1 HB9.out).1; omega) (fun a=>HEV.out a.symm)).trans (((below_one w9.drew (.cells #[.string x.name] 9)).block e (show e < w9.heap.size from (Array.getElem?_eq_some_iff.1 HB9.out).1)).trans HB9.out)
     have cx:w10.cell? ⟨e,1,none⟩=some (.slice ao L.length cp):=by simp [World.cell?,hb10]
     have fx:w10.frozen? ⟨e,1,none⟩=false:=by simp [World.frozen?,hb10]
     clear hb10
     refine hK.out _ _ (HCN10.out) (fun hHeld=>?_)
     clear hK K
     try simp only [zqT,zqS,zqZ,Act.put,zqB,zq0,zq1]
     refine wpAnyH_take (i:=9) (v:=?vs3db9) rfl (by kernel_rfl) (by kernel_rfl) (by kernel_rfl) (fun _ _ _ h=>h) (Or.inl ⟨by rfl,?hys3db9⟩) (by assumption) ?rests3db9
     case hys3db9=>(intro w' hSw; (try dsimp only at hSw); go_simp <;> with_reducible rfl)
     try simp only [zqT,zqS,zqZ,Act.put,zqB,zq0,zq1]
     refine wpAnyH_take (i:=10) (v:=?vs3db10) rfl (by kernel_rfl) (by kernel_rfl) (by kernel_rfl) (fun _ _ _ h=>h) (Or.inl ⟨by rfl,?hys3db10⟩) (by assumption) ?rests3db10
     case hys3db10=>(intro w' hSw; (try dsimp only at hSw); go_simp <;> with_reducible rfl)
     try simp only [zqT,zqS,zqZ,Act.put,zqB,zq0,zq1]
     refine wpAnyH_ready (rs:=[11]) (by kernel_rfl) (by simp) ?_
     refine AllReadyH.cons rfl (fun K hK=>?_) AllReadyH.nil
     go_simp
     refine hK.out _ _ ((World.cell?_setCell_other _ _ _ _ (by intro a; injection a with a1 _ _; exact HXE.out a1.symm)).trans HCN10.out) (fun hHeld=>?_)
     clear hK K
     try simp only [zqT,zqS,zqZ,Act.put,zqB,zq0,zq1]
     refine wpAnyH_done (by kernel_rfl) ?_ _
     have HEND:=hid (show PutPost P B e L x (some m) v w (.returned (.tuple #[])) (w10.setCell ⟨e,1,none⟩ (.slice (some ⟨g1,0,none⟩) (L.length + 1) cap1)) from ⟨rfl,_,_,h3,EnvB.add (D:=D) (m:=m) (W9:=w9) HENV.out HMW.out HPS.out HPP.out (Or.inl rfl) (by rw [HVV.out]; exact HB9.out) HOWN9.out HTI.out HRAN9.out HO10.out (by rw [HVV.out]; exact HG10.out) (by rw [HVV.out]; exact HAT10.out) HNEW.out HL.out⟩)
     clear cx fx
     go_wp2_with fail
     go_end0
     exact HEND.out
  ·have HMW:=hid (show Mid P2 w W4 (fixI L x) h2 from by
    have he:({ x with height:=0 }:Inf)=fixI L x:=by unfold fixI; rw [if_neg HK.out,if_pos HV.out.symm]
    rw [← he]; exact HM4.out)
   obtain ⟨h3,hh3⟩:∃ h3,h3=h2:=⟨_,rfl⟩
   rw [← hh3] at HMW
   clear hh3
   go_wp2_with fail
   refine HHV.out.mono ?_
   rintro y w' ⟨rfl,rfl⟩
   clear c0 hkb
   obtain ⟨W,hW⟩:∃ x:World,x=W4:=⟨_,rfl⟩
   subst hW
   go_upto_region 7 with fail
   clear HX1 HX2 HHX HM3 HM4 HF1 HOW HRG HCL HCA HC25 HONE HCZ
   have henv:=HENV.out.below HMW.out.bel
   obtain ⟨ao,cp,hv⟩:=row_slice henv.row
   have HEW:=hid henv
   have HVV:=hid hv
   have hbe:W.heap[e]?=some (.cells #[.map mo,.slice ao L.length cp] 110):=by rw [← hv]; exact henv.box
   have HBE:=hid hbe
   have cn:W.cell? ⟨w.heap.size,1,none⟩=some (.string x.name):=HMW.out.box.cell 1
   have HCN:=hid cn
   have ce0:W.cell? ⟨e,0,none⟩=some (.map mo):=by simp [World.cell?,hbe]
   have fe0:W.frozen? ⟨e,0,none⟩=false:=by simp [World.frozen?,hbe]
   have hle:e < W.heap.size:=(Array.getElem?_eq_some_iff.1 hbe).1
   have hkey:keyOf Tryz.prog 9 (.string x.name)=some (.string (key x.name)):=WideMaps.keyOf_string_mk Tryz.underlying9 HS.out
   have HKEY:=hid hkey
   have HXE:Hid (w.heap.size ≠ e):=hid (fun a=>by have:=HENV.out.own_lt e (Or.inl rfl); omega)
   have hmp:=henv.map
   clear henv hv hbe hkey
   rcases hmp with ⟨hmo,hL⟩ | ⟨m,D,hmo,hown,htied⟩
   ·subst hmo
    have hmm:=@run_makeMap Tryz.prog
    have qn:=eqlNilE W
    obtain ⟨W7,hW7⟩:∃ W7,W7=(W.setCell ⟨e,0,none⟩ (.map (some W.heap.size))).alloc (.map #[] 0):=⟨_,rfl⟩
    obtain ⟨m,hm⟩:∃ m,m=W.heap.size:=⟨_,rfl⟩
    have HB7:=hid (show W7.heap[e]?=some (.cells #[.map (some m),.slice ao L.length cp] 110) from by rw [hW7,hm]; exact keepA (cells_setE (i:=0) HBE.out _) _)
    have hem:e ≠ m:=by omega
    have HOWN7:=hid (show W7.ownsMap Tryz.prog 9 ptrElem m L.length (.map []) from by
     have h0:=World.ownsMap_made (H:=Unit) (W.setCell ⟨e,0,none⟩ (.map (some W.heap.size))) Tryz.prog 9 ptrElem
     rw [World.size_setCell,← hW7,← hm] at h0
     exact h0.mono (by omega))
    have HR7:=hid (show RanS (fun q=>q=e) W W7 from by rw [hW7]; exact (set_ranE (P:=fun q=>q=e) W e 0 (.map (some W.heap.size)) rfl).trans (RanS.of_below (below_one _ _)))
    have HCN7:=hid (show W7.cell? ⟨w.heap.size,1,none⟩=some (.string x.name) from (HR7.out.cell (p:=⟨w.heap.size,1,none⟩) HMW.out.box.lt (fun a=>HXE.out a)).trans HCN.out)
    have HSX7:Hid (w.heap.size < W7.heap.size):=hid (by have:=HR7.out.size; have:=HMW.out.box.lt; omega)
    have HMX7:Hid (w.heap.size ≠ m):=hid (by have:=HMW.out.box.lt; omega)
    have HME:Hid (m ≠ e):=hid (fun a=>hem a.symm)
    have HMM7:=hid hm
    have HLNIL:=hid hL
    clear hem hm hL
    go_upto_region 9 with fail
    rw [← hW7]
    clear hW7 hmm qn ce0 fe0 hle cn
    obtain ⟨D,hD⟩:∃ D:DataW Unit,D=.map []:=⟨_,rfl⟩
    rw [← hD] at HOWN7
    have HTI:=hid (show TiedE D L from by rw [hD,HLNIL.out]; exact ⟨⟨[],rfl⟩,fun k=>by simp [Maps.has],fun p hp=>by cases hp⟩)
    clear hD
    have ce7:W7.cell? ⟨e,0,none⟩=some (.map (some m)):=by have:=HB7.out; simp [World.cell?,this]
    have cn7:W7.cell? ⟨w.heap.size,1,none⟩=some (.string x.name):=HCN7.out
    obtain ⟨w9,hrun,hown9,hgrow9⟩:=(show W7.drew.ownsMap Tryz.prog 9 ptrElem m L.length D from HOWN7.out).update (string_keyed Tryz.underlying9) Tryz.underlying108 (by have:=HL.out; unfold maxLen; omega) HKEY.out (show ptrElem (.pointer (some ⟨w.heap.size,0,none⟩))=some (.lit (.int .i64 (w.heap.size:Nat)),[]) from rfl)
    have HOWN9:=hid hown9
    have HG9:=hid hgrow9
    clear hown9 hgrow9
    have hmlt:Hid (m < W7.heap.size):=hid HOWN7.out.lt
    have HB9:=hid ((HG9.out.block e (Array.getElem?_eq_some_iff.1 HB7.out).1 (fun a=>HME.out (Option.some.inj a).symm)).trans HB7.out)
    have HCN9:=hid (show w9.cell? ⟨w.heap.size,1,none⟩=some (.string x.name) from (World.cell?_of_block (HG9.out.block w.heap.size (by have:=HSX7.out; exact this) (fun a=>HMX7.out (Option.some.inj a)))).trans HCN7.out)
    have HRAN9:=hid (show RanS (ownE e v none) W w9 from ran_goE (P:=ownE e v none) (P':=fun q=>q=m) (HR7.out.wide (fun q hq=>Or.inl hq)) ⟨HG9.out.os,HG9.out.tape,HG9.out.output,HG9.out.size,fun k hk hn=>HG9.out.block k hk (fun a=>hn (Option.some.inj a))⟩ (fun q hq=>Or.inr (by have:=HMM7.out; omega)))
    have HS9:Hid (w.heap.size < w9.heap.size):=hid (by have h1:=HG9.out.size; have h2:=HSX7.out; have h3:W7.drew.heap.size=W7.heap.size:=rfl; omega)
    have HQ9:=hid (show ∀ q,v.ownBlock=some q→w9.heap[q]?=W.heap[q]? from fun q hq=>by
     have hqw:=HENV.out.own_lt q (Or.inr (Or.inl hq))
     have hqW:q < W.heap.size:=by have:=HMW.out.box.lt; omega
     exact (HG9.out.block q (by have:=HR7.out.size; exact Nat.lt_of_lt_of_le hqW this) (fun a=>by have a:=Option.some.inj a; have:=HMM7.out; omega)).trans (HR7.out.block q hqW (fun a=>HENV.out.apart.1 (a ▸ hq))))
    have HRV9:=hid (show ∀ q,(Value.slice ao L.length cp).ownBlock=some q→w9.heap[q]?=W.heap[q]? from fun q hq=>by
     have hqv:v.ownBlock=some q:=by rw [HVV.out]; exact hq
     exact HQ9.out q hqv)
    have HBB9:Hid (B≤w9.heap.size + 1):=hid (by have h1:=HENV.out.eB; have h2:=HENV.out.own_lt e (Or.inl rfl); have h3:=HS9.out; omega)
    have HXV:Hid ((Value.slice ao L.length cp).ownBlock ≠ some w.heap.size):=hid (fun a=>by have:=HENV.out.own_lt w.heap.size (Or.inr (Or.inl (by rw [HVV.out]; exact a))); omega)
    have HEV:Hid ((Value.slice ao L.length cp).ownBlock ≠ some e):=hid (fun a=>HENV.out.apart.1 (by rw [HVV.out]; exact a))
    go_region
    go_upto_region 10 with fail
    clear ce7 cn7 hrun
    have HROW9:=hid (show w9.ownsRow B 9 1 (.slice ao L.length cp) L.length (L.map fun p=>.string p.2.1.name) from by
     have hr:=HEW.out.row
     rw [HVV.out] at hr
     refine row_same hr fun q hq=>HRV9.out q hq)
    obtain ⟨i0,hi,hz0,hz1,hz2⟩:=info_parts infoStr
    have hq1:Hid (L.length + 1≤maxLen):=hid (by unfold maxLen; have:=HL.out; omega)
    have hq2:Hid ((L.length + 1) * 16≤140737488355328):=hid (by have:=HL.out; omega)
    have ce9:w9.cell? ⟨e,1,none⟩=some (.slice ao L.length cp):=by have:=HB9.out; simp [World.cell?,this]
    refine wp_region_held_drew (S:=fun w'=>w'.cell? ⟨w.heap.size,1,none⟩=some (.string x.name)) (by kernel_rfl) (HCN9.out) (fun hHeld=>?_)
    refine wpAnyH_take (i:=0) (v:=?vn2a0) rfl (by kernel_rfl) (by kernel_rfl) (by kernel_rfl) (fun _ _ _ h=>h) (Or.inl ⟨by rfl,?hyn2a0⟩) (by assumption) ?restn2a0
    case hyn2a0=>(intro w' hSw; (try dsimp only at hSw); go_simp <;> with_reducible rfl)
    try simp only [zqT,zqZ,Act.put,zqB,zq0,zq1]
    refine wpAnyH_take (i:=1) (v:=?vn2a1) rfl (by kernel_rfl) (by kernel_rfl) (by kernel_rfl) (fun _ _ _ h=>h) (Or.inl ⟨by rfl,?hyn2a1⟩) (by assumption) ?restn2a1
    case hyn2a1=>(intro w' hSw; (try dsimp only at hSw); go_simp <;> with_reducible rfl)
    try simp only [zqT,zqS,zqZ,Act.put,zqB,zq0,zq1]
    refine wpAnyH_take (i:=2) (v:=?vn2a2) rfl (by kernel_rfl) (by kernel_rfl) (by kernel_rfl) (fun _ _ _ h=>h) (Or.inl ⟨by rfl,?hyn2a2⟩) (by assumption) ?restn2a2
    case hyn2a2=>(intro w' hSw; (try dsimp only at hSw); go_simp <;> with_reducible rfl)
    try simp only [zqT,zqS,zqZ,Act.put,zqB,zq0,zq1]
    refine wpAnyH_take (i:=3) (v:=?vn2a3) rfl (by kernel_rfl) (by kernel_rfl) (by kernel_rfl) (fun _ _ _ h=>h) (Or.inl ⟨by rfl,?hyn2a3⟩) (by assumption) ?restn2a3
    case hyn2a3=>(intro w' hSw; (try dsimp only at hSw); go_simp <;> with_reducible rfl)
    try simp only [zqT,zqS,zqZ,Act.put,zqB,zq0,zq1]
    refine wpAnyH_take (i:=5) (v:=?vn2a5) rfl (by kernel_rfl) (by kernel_rfl) (by kernel_rfl) (fun _ _ _ h=>h) (Or.inl ⟨by rfl,?hyn2a5⟩) (by assumption) ?restn2a5
    case hyn2a5=>(intro w' hSw; (try dsimp only at hSw); go_simp <;> with_reducible rfl)
    try simp only [zqT,zqS,zqZ,Act.put,zqB,zq0,zq1]
    refine wpAnyH_take (i:=6) (v:=?vn2a6) rfl (by kernel_rfl) (by kernel_rfl) (by kernel_rfl) (fun _ _ _ h=>h) (Or.inl ⟨by rfl,?hyn2a6⟩) (by assumption) ?restn2a6
    case hyn2a6=>(intro w' hSw; (try dsimp only at hSw); go_simp <;> with_reducible rfl)
    try simp only [zqT,zqS,zqZ,Act.put,zqB,zq0,zq1]
    refine wpAnyH_ready (rs:=[4,7]) (by kernel_rfl) (by simp) ?_
    refine AllReadyH.cons rfl (fun K hK=>?_) (AllReadyH.cons rfl (fun K hK=>?_) AllReadyH.nil)
    ·go_simp
     refine hK.out _ _ (HCN9.out) (fun hHeld=>?_)
     clear hK K
     try simp only [zqT,zqS,zqZ,Act.put,zqB,zq0,zq1]
     refine wpAnyH_ready (rs:=[7]) (by kernel_rfl) (by simp) ?_
     refine AllReadyH.cons rfl (fun K hK=>?_) AllReadyH.nil
     go_simp
     refine hK.out _ _ (((below_one w9.drew (.cells #[.string x.name] 9)).cell (p:=⟨w.heap.size,1,none⟩) (show w.heap.size < w9.heap.size from HS9.out)).trans HCN9.out) (fun hHeld=>?_)
     clear hK K
     try simp only [zqT,zqS,zqZ,Act.put,zqB,zq0,zq1]
     refine wpAnyH_ready (rs:=[8]) (by kernel_rfl) (by simp) ?_
     refine AllReadyH.cons rfl (fun K hK=>?_) AllReadyH.nil
     refine step_append_lies _ (by rfl) _ _ _ (by rfl) B 9 i0 _ 1 16 Tryz.underlying60 hi hz0 hz1 hz2 rfl (by decide) _ L.length _ (by rfl) ((show w9.drew.ownsRow B 9 1 (.slice ao L.length cp) L.length (L.map fun p=>.string p.2.1.name) from HROW9.out).alloc _) ⟨w9.heap.size,0,none⟩ 1 1 [.string x.name] (by rfl) (by rfl) (World.news_of_block (cs:=#[.string x.name]) (t:=9) (fr:=(0,0)) (World.alloc_heap_new w9.drew _)) (by simp [Value.oneCell']) Nat.one_pos hq1.out hq2.out (by first | (rw [World.size_alloc]; exact HBB9.out) | (show B≤(w9.alloc (.cells #[.string x.name] 9)).heap.size; rw [World.size_alloc]; exact HBB9.out)) (w9.heap.size + 1) (World.size_alloc _ _) ?_
     intro g1 cap1 w10 hown10 hg10 hat10 hlt10
     have HO10:=hid hown10
     have HG10:=hid (show (w9.drew.alloc (.cells #[.string x.name] 9)).grownBy w10 (Value.slice ao L.length cp).ownBlock from hg10)
     have HAT10:=hid hat10
     clear hown10 hg10 hat10 hlt10
     have HCN10:=hid (show w10.cell? ⟨w.heap.size,1,none⟩=some (.string x.name) from (World.cell?_of_block ((HG10.out.block w.heap.size (by rw [World.size_alloc]; show w.heap.size < w9.heap.size + 1; have:=HS9.out; omega) (fun a=>HXV.out a.symm)).trans ((below_one w9.drew (.cells #[.string x.name] 9)).block w.heap.size (show w.heap.size < w9.heap.size from HS9.out)))).trans HCN9.out)
     have hb10:=(HG10.out.block e (by rw [World.size_alloc]; show e < w9.heap.size + 1; have:=(Array.getElem?_eq_some_iff.1 HB9.out).1; omega) (fun a=>HEV.out a.symm)).trans (((below_one w9.drew (.cells #[.string x.name] 9)).block e (show e < w9.heap.size from (Array.getElem?_eq_some_iff.1 HB9.out).1)).trans HB9.out)
     have cx:w10.cell? ⟨e,1,none⟩=some (.slice ao L.length cp):=by simp [World.cell?,hb10]
     have fx:w10.frozen? ⟨e,1,none⟩=false:=by simp [World.frozen?,hb10]
     clear hb10
     refine hK.out _ _ (HCN10.out) (fun hHeld=>?_)
     clear hK K
     try simp only [zqT,zqS,zqZ,Act.put,zqB,zq0,zq1]
     refine wpAnyH_take (i:=9) (v:=?vn2cb9) rfl (by kernel_rfl) (by kernel_rfl) (by kernel_rfl) (fun _ _ _ h=>h) (Or.inl ⟨by rfl,?hyn2cb9⟩) (by assumption) ?restn2cb9
     case hyn2cb9=>(intro w' hSw; (try dsimp only at hSw); go_simp <;> with_reducible rfl)
     try simp only [zqT,zqS,zqZ,Act.put,zqB,zq0,zq1]
     refine wpAnyH_take (i:=10) (v:=?vn2cb10) rfl (by kernel_rfl) (by kernel_rfl) (by kernel_rfl) (fun _ _ _ h=>h) (Or.inl ⟨by rfl,?hyn2cb10⟩) (by assumption) ?restn2cb10
     case hyn2cb10=>(intro w' hSw; (try dsimp only at hSw); go_simp <;> with_reducible rfl)
     try simp only [zqT,zqS,zqZ,Act.put,zqB,zq0,zq1]
     refine wpAnyH_ready (rs:=[11]) (by kernel_rfl) (by simp) ?_
     refine AllReadyH.cons rfl (fun K hK=>?_) AllReadyH.nil
     go_simp
     refine hK.out _ _ ((World.cell?_setCell_other _ _ _ _ (by intro a; injection a with a1 _ _; exact HXE.out a1.symm)).trans HCN10.out) (fun hHeld=>?_)
     clear hK K
     try simp only [zqT,zqS,zqZ,Act.put,zqB,zq0,zq1]
     refine wpAnyH_done (by kernel_rfl) ?_ _
     have HEND:=hid (show PutPost P B e L x none v w (.returned (.tuple #[])) (w10.setCell ⟨e,1,none⟩ (.slice (some ⟨g1,0,none⟩) (L.length + 1) cap1)) from ⟨rfl,_,_,h3,EnvB.add (D:=D) (m:=m) (W9:=w9) HENV.out HMW.out HPS.out HPP.out (Or.inr ⟨rfl,HMM7.out⟩) (by rw [HVV.out]; exact HB9.out) HOWN9.out HTI.out HRAN9.out HO10.out (by rw [HVV.out]; exact HG10.out) (by rw [HVV.out]; exact HAT10.out) HNEW.out HL.out⟩)
     clear cx fx
     go_wp2_with fail
     go_end0
     exact HEND.out
    ·go_simp
     refine hK.out _ _ (((below_one w9.drew (.cells #[.string x.name] 9)).cell (p:=⟨w.heap.size,1,none⟩) (show w.heap.size < w9.heap.size from HS9.out)).trans HCN9.out) (fun hHeld=>?_)
     clear hK K
     try simp only [zqT,zqS,zqZ,Act.put,zqB,zq0,zq1]
     refine wpAnyH_ready (rs:=[4]) (by kernel_rfl) (by simp) ?_
     refine AllReadyH.cons rfl (fun K hK=>?_) AllReadyH.nil
     have ce99:(w9.alloc (.cells #[.string x.name] 9)).cell? ⟨e,1,none⟩=some (.slice ao L.length cp):=((below_one w9 (.cells #[.string x.name] 9)).cell (p:=⟨e,1,none⟩) (show e < w9.heap.size from (Array.getElem?_eq_some_iff.1 HB9.out).1)).trans ce9
     have hle9:e < w9.heap.size:=(Array.getElem?_eq_some_iff.1 HB9.out).1
     go_simp
     refine hK.out _ _ (((below_one w9.drew (.cells #[.string x.name] 9)).cell (p:=⟨w.heap.size,1,none⟩) (show w.heap.size < w9.heap.size from HS9.out)).trans HCN9.out) (fun hHeld=>?_)
     clear hK K
     try simp only [zqT,zqS,zqZ,Act.put,zqB,zq0,zq1]
     refine wpAnyH_ready (rs:=[8]) (by kernel_rfl) (by simp) ?_
     refine AllReadyH.cons rfl (fun K hK=>?_) AllReadyH.nil
     refine step_append_lies _ (by rfl) _ _ _ (by rfl) B 9 i0 _ 1 16 Tryz.underlying60 hi hz0 hz1 hz2 rfl (by decide) _ L.length _ (by rfl) ((show w9.drew.ownsRow B 9 1 (.slice ao L.length cp) L.length (L.map fun p=>.string p.2.1.name) from HROW9.out).alloc _) ⟨w9.heap.size,0,none⟩ 1 1 [.string x.name] (by rfl) (by rfl) (World.news_of_block (cs:=#[.string x.name]) (t:=9) (fr:=(0,0)) (World.alloc_heap_new w9.drew _)) (by simp [Value.oneCell']) Nat.one_pos hq1.out hq2.out (by first | (rw [World.size_alloc]; exact HBB9.out) | (show B≤(w9.alloc (.cells #[.string x.name] 9)).heap.size; rw [World.size_alloc]; exact HBB9.out)) (w9.heap.size + 1) (World.size_alloc _ _) ?_
     intro g1 cap1 w10 hown10 hg10 hat10 hlt10
     have HO10:=hid hown10
     have HG10:=hid (show (w9.drew.alloc (.cells #[.string x.name] 9)).grownBy w10 (Value.slice ao L.length cp).ownBlock from hg10)
     have HAT10:=hid hat10
     clear hown10 hg10 hat10 hlt10
     have HCN10:=hid (show w10.cell? ⟨w.heap.size,1,none⟩=some (.string x.name) from (World.cell?_of_block ((HG10.out.block w.heap.size (by rw [World.size_alloc]; show w.heap.size < w9.heap.size + 1; have:=HS9.out; omega) (fun a=>HXV.out a.symm)).trans ((below_one w9.drew (.cells #[.string x.name] 9)).block w.heap.size (show w.heap.size < w9.heap.size from HS9.out)))).trans HCN9.out)
     have hb10:=(HG10.out.block e (by rw [World.size_alloc]; show e < w9.heap.size + 1; have:=(Array.getElem?_eq_some_iff.1 HB9.out).1; omega) (fun a=>HEV.out a.symm)).trans (((below_one w9.drew (.cells #[.string x.name] 9)).block e (show e < w9.heap.size from (Array.getElem?_eq_some_iff.1 HB9.out).1)).trans HB9.out)
     have cx:w10.cell? ⟨e,1,none⟩=some (.slice ao L.length cp):=by simp [World.cell?,hb10]
     have fx:w10.frozen? ⟨e,1,none⟩=false:=by simp [World.frozen?,hb10]
     clear hb10
     refine hK.out _ _ (HCN10.out) (fun hHeld=>?_)
     clear hK K
     try simp only [zqT,zqS,zqZ,Act.put,zqB,zq0,zq1]
     refine wpAnyH_take (i:=9) (v:=?vn2db9) rfl (by kernel_rfl) (by kernel_rfl) (by kernel_rfl) (fun _ _ _ h=>h) (Or.inl ⟨by rfl,?hyn2db9⟩) (by assumption) ?restn2db9
     case hyn2db9=>(intro w' hSw; (try dsimp only at hSw); go_simp <;> with_reducible rfl)
     try simp only [zqT,zqS,zqZ,Act.put,zqB,zq0,zq1]
     refine wpAnyH_take (i:=10) (v:=?vn2db10) rfl (by kernel_rfl) (by kernel_rfl) (by kernel_rfl) (fun _ _ _ h=>h) (Or.inl ⟨by rfl,?hyn2db10⟩) (by assumption) ?restn2db10
     case hyn2db10=>(intro w' hSw; (try dsimp only at hSw); go_simp <;> with_reducible rfl)
     try simp only [zqT,zqS,zqZ,Act.put,zqB,zq0,zq1]
     refine wpAnyH_ready (rs:=[11]) (by kernel_rfl) (by simp) ?_
     refine AllReadyH.cons rfl (fun K hK=>?_) AllReadyH.nil
     go_simp
     refine hK.out _ _ ((World.cell?_setCell_other _ _ _ _ (by intro a; injection a with a1 _ _; exact HXE.out a1.symm)).trans HCN10.out) (fun hHeld=>?_)
     clear hK K
     try simp only [zqT,zqS,zqZ,Act.put,zqB,zq0,zq1]
     refine wpAnyH_done (by kernel_rfl) ?_ _
     have HEND:=hid (show PutPost P B e L x none v w (.returned (.tuple #[])) (w10.setCell ⟨e,1,none⟩ (.slice (some ⟨g1,0,none⟩) (L.length + 1) cap1)) from ⟨rfl,_,_,h3,EnvB.add (D:=D) (m:=m) (W9:=w9) HENV.out HMW.out HPS.out HPP.out (Or.inr ⟨rfl,HMM7.out⟩) (by rw [HVV.out]; exact HB9.out) HOWN9.out HTI.out HRAN9.out HO10.out (by rw [HVV.out]; exact HG10.out) (by rw [HVV.out]; exact HAT10.out) HNEW.out HL.out⟩)
     clear cx fx
     go_wp2_with fail
     go_end0
     exact HEND.out
   ·subst hmo
    have qs:=eqlSomeE m W
    have HTI:=hid htied
    obtain ⟨W7,hW7⟩:∃ x:World,x=W:=⟨_,rfl⟩
    have HOWN7:=hid (show W7.ownsMap Tryz.prog 9 ptrElem m L.length D from hW7 ▸ hown)
    have HB7:=hid (show W7.heap[e]?=some (.cells #[.map (some m),.slice ao L.length cp] 110) from hW7 ▸ HBE.out)
    have HCN7:=hid (show W7.cell? ⟨w.heap.size,1,none⟩=some (.string x.name) from hW7 ▸ HCN.out)
    have HSX7:Hid (w.heap.size < W7.heap.size):=hid (hW7 ▸ HMW.out.box.lt)
    have HMX7:Hid (w.heap.size ≠ m):=hid (fun a=>by have:=HENV.out.own_lt m (Or.inr (Or.inr rfl)); omega)
    have HME:Hid (m ≠ e):=hid (fun a=>HENV.out.apart.2.1 (by rw [a]))
    clear hown htied
    go_upto_region 9 with fail
    rw [← hW7]
    subst hW7
    clear qs ce0 fe0 hle cn
    have ce7:W7.cell? ⟨e,0,none⟩=some (.map (some m)):=by have:=HB7.out; simp [World.cell?,this]
    have cn7:W7.cell? ⟨w.heap.size,1,none⟩=some (.string x.name):=HCN7.out
    obtain ⟨w9,hrun,hown9,hgrow9⟩:=(show W7.drew.ownsMap Tryz.prog 9 ptrElem m L.length D from HOWN7.out).update (string_keyed Tryz.underlying9) Tryz.underlying108 (by have:=HL.out; unfold maxLen; omega) HKEY.out (show ptrElem (.pointer (some ⟨w.heap.size,0,none⟩))=some (.lit (.int .i64 (w.heap.size:Nat)),[]) from rfl)
    have HOWN9:=hid hown9
    have HG9:=hid hgrow9
    clear hown9 hgrow9
    have hmlt:Hid (m < W7.heap.size):=hid HOWN7.out.lt
    have HB9:=hid ((HG9.out.block e (Array.getElem?_eq_some_iff.1 HB7.out).1 (fun a=>HME.out (Option.some.inj a).symm)).trans HB7.out)
    have HCN9:=hid (show w9.cell? ⟨w.heap.size,1,none⟩=some (.string x.name) from (World.cell?_of_block (HG9.out.block w.heap.size (by have:=HSX7.out; exact this) (fun a=>HMX7.out (Option.some.inj a)))).trans HCN7.out)
    have HRAN9:=hid (show RanS (ownE e v (some m)) W7 w9 from ran_goE (P:=ownE e v (some m)) (P':=fun q=>q=m) (RanS.refl _ W7) ⟨HG9.out.os,HG9.out.tape,HG9.out.output,HG9.out.size,fun k hk hn=>HG9.out.block k hk (fun a=>hn (Option.some.inj a))⟩ (fun q hq=>Or.inl (by rw [hq]; exact Or.inr (Or.inr rfl))))
    have HS9:Hid (w.heap.size < w9.heap.size):=hid (by have h1:=HG9.out.size; have h2:=HSX7.out; have h3:W7.drew.heap.size=W7.heap.size:=rfl; omega)
    have HQ9:=hid (show ∀ q,v.ownBlock=some q→w9.heap[q]?=W7.heap[q]? from fun q hq=>by
     have hqw:=HENV.out.own_lt q (Or.inr (Or.inl hq))
     have hqW:q < W7.heap.size:=by have:=HMW.out.box.lt; omega
     exact (HG9.out.block q (hqW) (fun a=>by have a:=Option.some.inj a; exact HENV.out.apart.2.2 q hq (by rw [a]))).trans rfl)
    have HRV9:=hid (show ∀ q,(Value.slice ao L.length cp).ownBlock=some q→w9.heap[q]?=W7.heap[q]? from fun q hq=>by
     have hqv:v.ownBlock=some q:=by rw [HVV.out]; exact hq
     exact HQ9.out q hqv)
    have HBB9:Hid (B≤w9.heap.size + 1):=hid (by have h1:=HENV.out.eB; have h2:=HENV.out.own_lt e (Or.inl rfl); have h3:=HS9.out; omega)
    have HXV:Hid ((Value.slice ao L.length cp).ownBlock ≠ some w.heap.size):=hid (fun a=>by have:=HENV.out.own_lt w.heap.size (Or.inr (Or.inl (by rw [HVV.out]; exact a))); omega)
    have HEV:Hid ((Value.slice ao L.length cp).ownBlock ≠ some e):=hid (fun a=>HENV.out.apart.1 (by rw [HVV.out]; exact a))
    go_region
    go_upto_region 10 with fail
    clear ce7 cn7 hrun
    have HROW9:=hid (show w9.ownsRow B 9 1 (.slice ao L.length cp) L.length (L.map fun p=>.string p.2.1.name) from by
     have hr:=HEW.out.row
     rw [HVV.out] at hr
     refine row_same hr fun q hq=>HRV9.out q hq)
    obtain ⟨i0,hi,hz0,hz1,hz2⟩:=info_parts infoStr
    have hq1:Hid (L.length + 1≤maxLen):=hid (by unfold maxLen; have:=HL.out; omega)
    have hq2:Hid ((L.length + 1) * 16≤140737488355328):=hid (by have:=HL.out; omega)
    have ce9:w9.cell? ⟨e,1,none⟩=some (.slice ao L.length cp):=by have:=HB9.out; simp [World.cell?,this]
    refine wp_region_held_drew (S:=fun w'=>w'.cell? ⟨w.heap.size,1,none⟩=some (.string x.name)) (by kernel_rfl) (HCN9.out) (fun hHeld=>?_)
    refine wpAnyH_take (i:=0) (v:=?vs2a0) rfl (by kernel_rfl) (by kernel_rfl) (by kernel_rfl) (fun _ _ _ h=>h) (Or.inl ⟨by rfl,?hys2a0⟩) (by assumption) ?rests2a0
    case hys2a0=>(intro w' hSw; (try dsimp only at hSw); go_simp <;> with_reducible rfl)
    try simp only [zqT,zqZ,Act.put,zqB,zq0,zq1]
    refine wpAnyH_take (i:=1) (v:=?vs2a1) rfl (by kernel_rfl) (by kernel_rfl) (by kernel_rfl) (fun _ _ _ h=>h) (Or.inl ⟨by rfl,?hys2a1⟩) (by assumption) ?rests2a1
    case hys2a1=>(intro w' hSw; (try dsimp only at hSw); go_simp <;> with_reducible rfl)
    try simp only [zqT,zqS,zqZ,Act.put,zqB,zq0,zq1]
    refine wpAnyH_take (i:=2) (v:=?vs2a2) rfl (by kernel_rfl) (by kernel_rfl) (by kernel_rfl) (fun _ _ _ h=>h) (Or.inl ⟨by rfl,?hys2a2⟩) (by assumption) ?rests2a2
    case hys2a2=>(intro w' hSw; (try dsimp only at hSw); go_simp <;> with_reducible rfl)
    try simp only [zqT,zqS,zqZ,Act.put,zqB,zq0,zq1]
    refine wpAnyH_take (i:=3) (v:=?vs2a3) rfl (by kernel_rfl) (by kernel_rfl) (by kernel_rfl) (fun _ _ _ h=>h) (Or.inl ⟨by rfl,?hys2a3⟩) (by assumption) ?rests2a3
    case hys2a3=>(intro w' hSw; (try dsimp only at hSw); go_simp <;> with_reducible rfl)
    try simp only [zqT,zqS,zqZ,Act.put,zqB,zq0,zq1]
    refine wpAnyH_take (i:=5) (v:=?vs2a5) rfl (by kernel_rfl) (by kernel_rfl) (by kernel_rfl) (fun _ _ _ h=>h) (Or.inl ⟨by rfl,?hys2a5⟩) (by assumption) ?rests2a5
    case hys2a5=>(intro w' hSw; (try dsimp only at hSw); go_simp <;> with_reducible rfl)
    try simp only [zqT,zqS,zqZ,Act.put,zqB,zq0,zq1]
    refine wpAnyH_take (i:=6) (v:=?vs2a6) rfl (by kernel_rfl) (by kernel_rfl) (by kernel_rfl) (fun _ _ _ h=>h) (Or.inl ⟨by rfl,?hys2a6⟩) (by assumption) ?rests2a6
    case hys2a6=>(intro w' hSw; (try dsimp only at hSw); go_simp <;> with_reducible rfl)
    try simp only [zqT,zqS,zqZ,Act.put,zqB,zq0,zq1]
    refine wpAnyH_ready (rs:=[4,7]) (by kernel_rfl) (by simp) ?_
    refine AllReadyH.cons rfl (fun K hK=>?_) (AllReadyH.cons rfl (fun K hK=>?_) AllReadyH.nil)
    ·go_simp
     refine hK.out _ _ (HCN9.out) (fun hHeld=>?_)
     clear hK K
     try simp only [zqT,zqS,zqZ,Act.put,zqB,zq0,zq1]
     refine wpAnyH_ready (rs:=[7]) (by kernel_rfl) (by simp) ?_
     refine AllReadyH.cons rfl (fun K hK=>?_) AllReadyH.nil
     go_simp
     refine hK.out _ _ (((below_one w9.drew (.cells #[.string x.name] 9)).cell (p:=⟨w.heap.size,1,none⟩) (show w.heap.size < w9.heap.size from HS9.out)).trans HCN9.out) (fun hHeld=>?_)
     clear hK K
     try simp only [zqT,zqS,zqZ,Act.put,zqB,zq0,zq1]
     refine wpAnyH_ready (rs:=[8]) (by kernel_rfl) (by simp) ?_
     refine AllReadyH.cons rfl (fun K hK=>?_) AllReadyH.nil
     refine step_append_lies _ (by rfl) _ _ _ (by rfl) B 9 i0 _ 1 16 Tryz.underlying60 hi hz0 hz1 hz2 rfl (by decide) _ L.length _ (by rfl) ((show w9.drew.ownsRow B 9 1 (.slice ao L.length cp) L.length (L.map fun p=>.string p.2.1.name) from HROW9.out).alloc _) ⟨w9.heap.size,0,none⟩ 1 1 [.string x.name] (by rfl) (by rfl) (World.news_of_block (cs:=#[.string x.name]) (t:=9) (fr:=(0,0)) (World.alloc_heap_new w9.drew _)) (by simp [Value.oneCell']) Nat.one_pos hq1.out hq2.out (by first | (rw [World.size_alloc]; exact HBB9.out) | (show B≤(w9.alloc (.cells #[.string x.name] 9)).heap.size; rw [World.size_alloc]; exact HBB9.out)) (w9.heap.size + 1) (World.size_alloc _ _) ?_
     intro g1 cap1 w10 hown10 hg10 hat10 hlt10
     have HO10:=hid hown10
     have HG10:=hid (show (w9.drew.alloc (.cells #[.string x.name] 9)).grownBy w10 (Value.slice ao L.length cp).ownBlock from hg10)
     have HAT10:=hid hat10
     clear hown10 hg10 hat10 hlt10
     have HCN10:=hid (show w10.cell? ⟨w.heap.size,1,none⟩=some (.string x.name) from (World.cell?_of_block ((HG10.out.block w.heap.size (by rw [World.size_alloc]; show w.heap.size < w9.heap.size + 1; have:=HS9.out; omega) (fun a=>HXV.out a.symm)).trans ((below_one w9.drew (.cells #[.string x.name] 9)).block w.heap.size (show w.heap.size < w9.heap.size from HS9.out)))).trans HCN9.out)
     have hb10:=(HG10.out.block e (by rw [World.size_alloc]; show e < w9.heap.size + 1; have:=(Array.getElem?_eq_some_iff.1 HB9.out).1; omega) (fun a=>HEV.out a.symm)).trans (((below_one w9.drew (.cells #[.string x.name] 9)).block e (show e < w9.heap.size from (Array.getElem?_eq_some_iff.1 HB9.out).1)).trans HB9.out)
     have cx:w10.cell? ⟨e,1,none⟩=some (.slice ao L.length cp):=by simp [World.cell?,hb10]
     have fx:w10.frozen? ⟨e,1,none⟩=false:=by simp [World.frozen?,hb10]
     clear hb10
     refine hK.out _ _ (HCN10.out) (fun hHeld=>?_)
     clear hK K
     try simp only [zqT,zqS,zqZ,Act.put,zqB,zq0,zq1]
     refine wpAnyH_take (i:=9) (v:=?vs2cb9) rfl (by kernel_rfl) (by kernel_rfl) (by kernel_rfl) (fun _ _ _ h=>h) (Or.inl ⟨by rfl,?hys2cb9⟩) (by assumption) ?rests2cb9
     case hys2cb9=>(intro w' hSw; (try dsimp only at hSw); go_simp <;> with_reducible rfl)
     try simp only [zqT,zqS,zqZ,Act.put,zqB,zq0,zq1]
     refine wpAnyH_take (i:=10) (v:=?vs2cb10) rfl (by kernel_rfl) (by kernel_rfl) (by kernel_rfl) (fun _ _ _ h=>h) (Or.inl ⟨by rfl,?hys2cb10⟩) (by assumption) ?rests2cb10
     case hys2cb10=>(intro w' hSw; (try dsimp only at hSw); go_simp <;> with_reducible rfl)
     try simp only [zqT,zqS,zqZ,Act.put,zqB,zq0,zq1]
     refine wpAnyH_ready (rs:=[11]) (by kernel_rfl) (by simp) ?_
     refine AllReadyH.cons rfl (fun K hK=>?_) AllReadyH.nil
     go_simp
     refine hK.out _ _ ((World.cell?_setCell_other _ _ _ _ (by intro a; injection a with a1 _ _; exact HXE.out a1.symm)).trans HCN10.out) (fun hHeld=>?_)
     clear hK K
     try simp only [zqT,zqS,zqZ,Act.put,zqB,zq0,zq1]
     refine wpAnyH_done (by kernel_rfl) ?_ _
     have HEND:=hid (show PutPost P B e L x (some m) v w (.returned (.tuple #[])) (w10.setCell ⟨e,1,none⟩ (.slice (some ⟨g1,0,none⟩) (L.length + 1) cap1)) from ⟨rfl,_,_,h3,EnvB.add (D:=D) (m:=m) (W9:=w9) HENV.out HMW.out HPS.out HPP.out (Or.inl rfl) (by rw [HVV.out]; exact HB9.out) HOWN9.out HTI.out HRAN9.out HO10.out (by rw [HVV.out]; exact HG10.out) (by rw [HVV.out]; exact HAT10.out) HNEW.out HL.out⟩)
     clear cx fx
     go_wp2_with fail
     go_end0
     exact HEND.out
    ·go_simp
     refine hK.out _ _ (((below_one w9.drew (.cells #[.string x.name] 9)).cell (p:=⟨w.heap.size,1,none⟩) (show w.heap.size < w9.heap.size from HS9.out)).trans HCN9.out) (fun hHeld=>?_)
     clear hK K
     try simp only [zqT,zqS,zqZ,Act.put,zqB,zq0,zq1]
     refine wpAnyH_ready (rs:=[4]) (by kernel_rfl) (by simp) ?_
     refine AllReadyH.cons rfl (fun K hK=>?_) AllReadyH.nil
     have ce99:(w9.alloc (.cells #[.string x.name] 9)).cell? ⟨e,1,none⟩=some (.slice ao L.length cp):=((below_one w9 (.cells #[.string x.name] 9)).cell (p:=⟨e,1,none⟩) (show e < w9.heap.size from (Array.getElem?_eq_some_iff.1 HB9.out).1)).trans ce9
     have hle9:e < w9.heap.size:=(Array.getElem?_eq_some_iff.1 HB9.out).1
     go_simp
     refine hK.out _ _ (((below_one w9.drew (.cells #[.string x.name] 9)).cell (p:=⟨w.heap.size,1,none⟩) (show w.heap.size < w9.heap.size from HS9.out)).trans HCN9.out) (fun hHeld=>?_)
     clear hK K
     try simp only [zqT,zqS,zqZ,Act.put,zqB,zq0,zq1]
     refine wpAnyH_ready (rs:=[8]) (by kernel_rfl) (by simp) ?_
     refine AllReadyH.cons rfl (fun K hK=>?_) AllReadyH.nil
     refine step_append_lies _ (by rfl) _ _ _ (by rfl) B 9 i0 _ 1 16 Tryz.underlying60 hi hz0 hz1 hz2 rfl (by decide) _ L.length _ (by rfl) ((show w9.drew.ownsRow B 9 1 (.slice ao L.length cp) L.length (L.map fun p=>.string p.2.1.name) from HROW9.out).alloc _) ⟨w9.heap.size,0,none⟩ 1 1 [.string x.name] (by rfl) (by rfl) (World.news_of_block (cs:=#[.string x.name]) (t:=9) (fr:=(0,0)) (World.alloc_heap_new w9.drew _)) (by simp [Value.oneCell']) Nat.one_pos hq1.out hq2.out (by first | (rw [World.size_alloc]; exact HBB9.out) | (show B≤(w9.alloc (.cells #[.string x.name] 9)).heap.size; rw [World.size_alloc]; exact HBB9.out)) (w9.heap.size + 1) (World.size_alloc _ _) ?_
     intro g1 cap1 w10 hown10 hg10 hat10 hlt10
     have HO10:=hid hown10
     have HG10:=hid (show (w9.drew.alloc (.cells #[.string x.name] 9)).grownBy w10 (Value.slice ao L.length cp).ownBlock from hg10)
     have HAT10:=hid hat10
     clear hown10 hg10 hat10 hlt10
     have HCN10:=hid (show w10.cell? ⟨w.heap.size,1,none⟩=some (.string x.name) from (World.cell?_of_block ((HG10.out.block w.heap.size (by rw [World.size_alloc]; show w.heap.size < w9.heap.size + 1; have:=HS9.out; omega) (fun a=>HXV.out a.symm)).trans ((below_one w9.drew (.cells #[.string x.name] 9)).block w.heap.size (show w.heap.size < w9.heap.size from HS9.out)))).trans HCN9.out)
     have hb10:=(HG10.out.block e (by rw [World.size_alloc]; show e < w9.heap.size + 1; have:=(Array.getElem?_eq_some_iff.1 HB9.out).1; omega) (fun a=>HEV.out a.symm)).trans (((below_one w9.drew (.cells #[.string x.name] 9)).block e (show e < w9.heap.size from (Array.getElem?_eq_some_iff.1 HB9.out).1)).trans HB9.out)
     have cx:w10.cell? ⟨e,1,none⟩=some (.slice ao L.length cp):=by simp [World.cell?,hb10]
     have fx:w10.frozen? ⟨e,1,none⟩=false:=by simp [World.frozen?,hb10]
     clear hb10
     refine hK.out _ _ (HCN10.out) (fun hHeld=>?_)
     clear hK K
     try simp only [zqT,zqS,zqZ,Act.put,zqB,zq0,zq1]
     refine wpAnyH_take (i:=9) (v:=?vs2db9) rfl (by kernel_rfl) (by kernel_rfl) (by kernel_rfl) (fun _ _ _ h=>h) (Or.inl ⟨by rfl,?hys2db9⟩) (by assumption) ?rests2db9
     case hys2db9=>(intro w' hSw; (try dsimp only at hSw); go_simp <;> with_reducible rfl)
     try simp only [zqT,zqS,zqZ,Act.put,zqB,zq0,zq1]
     refine wpAnyH_take (i:=10) (v:=?vs2db10) rfl (by kernel_rfl) (by kernel_rfl) (by kernel_rfl) (fun _ _ _ h=>h) (Or.inl ⟨by rfl,?hys2db10⟩) (by assumption) ?rests2db10
     case hys2db10=>(intro w' hSw; (try dsimp only at hSw); go_simp <;> with_reducible rfl)
     try simp only [zqT,zqS,zqZ,Act.put,zqB,zq0,zq1]
     refine wpAnyH_ready (rs:=[11]) (by kernel_rfl) (by simp) ?_
     refine AllReadyH.cons rfl (fun K hK=>?_) AllReadyH.nil
     go_simp
     refine hK.out _ _ ((World.cell?_setCell_other _ _ _ _ (by intro a; injection a with a1 _ _; exact HXE.out a1.symm)).trans HCN10.out) (fun hHeld=>?_)
     clear hK K
     try simp only [zqT,zqS,zqZ,Act.put,zqB,zq0,zq1]
     refine wpAnyH_done (by kernel_rfl) ?_ _
     have HEND:=hid (show PutPost P B e L x (some m) v w (.returned (.tuple #[])) (w10.setCell ⟨e,1,none⟩ (.slice (some ⟨g1,0,none⟩) (L.length + 1) cap1)) from ⟨rfl,_,_,h3,EnvB.add (D:=D) (m:=m) (W9:=w9) HENV.out HMW.out HPS.out HPP.out (Or.inl rfl) (by rw [HVV.out]; exact HB9.out) HOWN9.out HTI.out HRAN9.out HO10.out (by rw [HVV.out]; exact HG10.out) (by rw [HVV.out]; exact HAT10.out) HNEW.out HL.out⟩)
     clear cx fx
     go_wp2_with fail
     go_end0
     exact HEND.out
end Go.Proofs.YtmngddomnaaedaaGreat
