/-
 subst.through,turned: what is answered lies there whatever is written into the blocks of Q,where the term does.
-/
import Derived.Lib.Hide
import Derived.Test.YtmngddomnaaedaaGreatQB9
import Derived.Test.YtmngddomnaaedaaGreatQB11
import Derived.Test.YtmngddomnaaedaaGreatQB28
open Go.Lib (hid)
set_option maxRecDepth 100000
set_option maxHeartbeats 32000000
namespace Go.Proofs.YtmngddomnaaedaaGreat
open Go.RowKit Go.Shelf Lvl Trm
namespace Trm
def SAtQ (Q P:Nat→Prop) (w:World) (b o:Nat) (t:Tm):Prop:=¬ P b∧b < w.heap.size∧∃ h,TCells w b o t h∧FirmS Q w t h
def ThrPostQ {σ:Type} (Q P:Nat→Prop) (R:σ × Int × Option Tm) (Inv:σ→World→Prop) (w:World):Ending→World→Prop:=fun e w' =>
 ∃ h,e=.returned (.tuple #[(R.2.2.getD zeroT).val h,.int .i64 R.2.1])∧FirmS (fun q=>Q q∧q < w.heap.size) w' (R.2.2.getD zeroT) h∧Inv R.1 w'∧RanS P w w'
structure LeafQ {σ:Type} (Q:Nat→Prop) (N:Nat) (P:Nat→Prop) (C:Nat) (f:FuncId) (lf:Lf σ) (Inv:σ→World→Prop) (Good:σ→Prop):Prop where
 calls:∀ st t b o u w,Good st→Inv st w→t.node=true→t.ts=[]→0≤u→u≤4096→SAtQ Q P w b o t→(∀ q,w.heap.size≤q→Q q)→N≤w.heap.size→(∀ q,P q→q < w.heap.size) →
  Calls Tryz.prog f #[.pointer (some ⟨b,o,none⟩),.int .i64 u,.pointer (some ⟨C,0,none⟩)] w (ThrPostQ Q P (lf st t u) Inv w)
 good:∀ st t u,Good st→t.node=true→t.ts=[]→(lf st t u).2.1=0→Good (lf st t u).1
 kind:∀ st t u y,t.node=true→t.ts=[]→(lf st t u).2.2=some y→y.k ≠ 0
 keep:∀ st w w',Inv st w→Below N w w'→Inv st w'
 low:∀ q,P q→Q q
 enter:∀ (args:Array Value) (w:World),Sem.run Tryz.prog (callFunc f args) w=.ok (.enter f args) w
theorem row_pairsQ {Q:Nat→Prop} {w:World} {b off:Nat} {ts:List Tm} (h:Env.RowP Q w (some ⟨b,off,none⟩) ts):∃ ps:List (Tm × Hd),ps.map (·.1)=ts∧∀ k (hk:k < ps.length),TCells w b (off + (0 + k) * 5) ps[k].1 ps[k].2∧FirmS Q w ps[k].1 ps[k].2:=by
 have key:∀ k (hk:k < ts.length),∃ hd,TCells w b (off + (0 + k) * 5) ts[k] hd∧FirmS Q w ts[k] hd:=fun k hk=>by
  obtain ⟨b2,off2,e,_,_,hd,c,f⟩:=h k hk
  cases e
  exact ⟨hd,by rwa [Nat.zero_add],f⟩
 refine ⟨(List.range ts.length).pmap (fun k hk=>(ts[k]'hk,Classical.choose (key k hk))) (fun k hk=>by simpa using hk),?_,fun k hk=>?_⟩
 ·apply List.ext_getElem
  ·simp
  ·intro i h1 h2
   simp
 ·have hk':k < ts.length:=by simpa using hk
  have:=Classical.choose_spec (key k hk')
  simpa using this
def ThrRelQ {σ:Type} (lf:Lf σ) (Q P:Nat→Prop) (Inv:σ→World→Prop) (Good:σ→Prop) (w:World) (t:Tm) (u:Int) (ps0:List (Tm × Hd)) (R:σ × Int × Option Tm) (vi vu vl:Value) (wr:World):Prop :=
 ∃ (k:Nat) (st:σ) (u':Int) (c:Bool) (ps:List (Tm × Hd)),vi=.int .i64 k∧vu=.int .i64 u'∧k≤t.ts.length∧(u'=u∨(u'=u + 1∧k=t.ts.length))∧ps.length=t.ts.length∧ps.drop k=ps0.drop k ∧
   fin t.k t.n t.s c ((ps.take k).map (·.1)) (thrL lf t.k (t.ts.drop k) st u')=R∧Good st∧Inv st wr∧RanS P w wr∧wr.heap[w.heap.size]?=some (.cells #[.int .u8 0,.int .i64 0,.string no,.slice none 0 0,.slice none 0 0] 25) ∧
   ((c=false∧vl=.slice none 0 0∧ps=ps0)∨(c=true∧∃ L S cap,vl=.slice (some ⟨L,0,none⟩) t.ts.length cap∧w.heap.size < L∧TBlock wr L S ps∧∀ p ∈ ps,FirmS (fun q=>Q q∧(q≤w.heap.size∨q=L)) wr p.1 p.2))
end Trm
theorem throughQ_any {σ:Type} {N C:Nat} {Q P:Nat→Prop} {f:FuncId} {lf:Lf σ} {Inv:σ→World→Prop} {Good:σ→Prop} (S:LeafQ Q N P C f lf Inv Good) (t:Tm) :
 ∀ (st:σ) (b o:Nat) (d u:Int) (w:World),Good st→Inv st w→OkMay t d→0≤u→u≤d→SAtQ Q P w b o t→(∀ q,w.heap.size≤q→Q q)→N≤w.heap.size→(∀ q,P q→q < w.heap.size) →
   Calls Tryz.prog 129 #[.pointer (some ⟨b,o,none⟩),.int .i64 u,fnv f C] w (ThrPostQ Q P (t.thr lf st u) Inv w):=by
 induction t using Tm.ind with
 | h t ih =>
   intro st b o d u w hgood hinv hok hu0 hud hat hB hN hPw
   have HIH:=hid ih
   have HBQ:=hid hB
   have HS:=hid S
   have HPW:=hid hPw
   have hd1:=hok.node.2
   have hfew:=(node_few hok.node.1).2
   have HOK:=hid hok
   obtain ⟨hbP,hb,h,hc0,hin0⟩:=hat
   have HIN:=hid hin0
   have HHD:=hid hc0
   have HGD:=hid hgood
   have HIV:=hid hinv
   have hent:=S.enter
   obtain ⟨R,hR⟩:∃ R,R=t.thr lf st u:=⟨_,rfl⟩
   rw [← hR]
   obtain ⟨c0,c1,c2,c3,c4⟩:=hc0
   have hAP:¬ P w.heap.size:=fun hp=>by have:=hPw _ hp; omega
   clear ih hB hin0 hgood hinv hok hPw
   by_cases hts:t.ts=[]
   ·rw [Tm.thr_leaf lf hts] at hR
    have hl0:t.ts.length=0:=by rw [hts]; rfl
    rw [hl0] at c4
    have HC:=hid (fun (W:World) (hW:Below w.heap.size w W)=>S.calls st t b o u W HGD.out (S.keep _ _ _ HIV.out (hW.mono hN)) HOK.out.node.1 hts hu0 (by omega) ⟨hbP,by have:=hW.size; omega,h,HHD.out.below hW hb,HIN.out.step (RanS.of_below hW)⟩ (fun q hq=>HBQ.out q (by have:=hW.size; omega)) (by have:=hW.size; omega) (fun q hq=>by have:=hW.size; have:=HPW.out q hq; omega))
    rw [← hR] at HC
    clear hR hts hl0 S
    obtain ⟨R1,R2,R3⟩:=R
    delta ThrPostQ at HC ⊢
    dsimp only at HC ⊢
    generalize hy:R3.getD zeroT=y at HC ⊢
    clear hy
    go_enter Tryz.func129,Tryz.ntmps129
    go_wp2_with fail
    refine (HC.out _ (below_one _ _)).mono ?_
    rintro e w1 ⟨hy,rfl,fY,iY,rY⟩
    have hA:=rY.keep (World.alloc_heap_new w (.cells #[.int .u8 0,.int .i64 0,.string no,.slice none 0 0,.slice none 0 0] 25)) hAP
    have hszA:=rY.size
    obtain ⟨a0,a1,a2,a3,a4⟩:=five_cells hA
    obtain ⟨f0,f1,f2,f3,f4⟩:=five_free hA
    have HA:=hid hA
    have HF:=hid fY
    have HI:=hid iY
    have HR:=hid rY
    have hlt1:w.heap.size < w1.heap.size:=by simp at hszA; omega
    clear c0 c1 c2 c3 c4 fY iY rY hA hszA
    dsimp only [Tm.val,Tm.vals]
    go_wp2_with fail
    have h5:=putT_self HA.out (.int .u8 y.k) (.int .i64 y.n) (.string y.s) (.slice hy.lo y.ls.length hy.lc) (.slice hy.to y.ts.length hy.tc)
    have r5:=putT_ran w1 w.heap.size (.int .u8 y.k) (.int .i64 y.n) (.string y.s) (.slice hy.lo y.ls.length hy.lc) (.slice hy.to y.ts.length hy.tc)
    have s5:=RanS.put ((RanS.of_below (below_one w (.cells #[.int .u8 0,.int .i64 0,.string no,.slice none 0 0,.slice none 0 0] 25))).trans HR.out) (Nat.le_refl w.heap.size) (.int .u8 y.k) (.int .i64 y.n) (.string y.s) (.slice hy.lo y.ls.length hy.lc) (.slice hy.to y.ts.length hy.tc)
    unfold putT at h5 r5 s5
    generalize hW:((((w1.setCell ⟨w.heap.size,0,none⟩ (.int .u8 y.k)).setCell ⟨w.heap.size,1,none⟩ (.int .i64 y.n)).setCell ⟨w.heap.size,2,none⟩ (.string y.s)).setCell ⟨w.heap.size,3,none⟩ (.slice hy.lo y.ls.length hy.lc)).setCell ⟨w.heap.size,4,none⟩ (.slice hy.to y.ts.length hy.tc)=W4 at h5 r5 s5 ⊢
    obtain ⟨e0,e1,e2,e3,e4⟩:=five_cells h5
    clear hW
    refine bodyPost_ret (v:=.tuple #[y.val hy,.int .i64 R2]) (by simp [results,Tryz.results129,go_sem,e0,e1,e2,e3,e4,Tm.val,Tm.vals]) rfl ⟨hy,rfl,?_,?_,s5⟩
    ·exact (HF.out.step (RanS.of_ran r5 ⟨HBQ.out _ (Nat.le_refl _),by simp⟩)).less (fun q _ hq=>⟨hq.1,by simp; omega⟩)
    ·exact HS.out.keep _ _ _ HI.out (r5.below hN (by omega))
   ·rw [Tm.thr_node lf hts] at hR
    have hn0:0 < t.ts.length:=List.length_pos_iff.2 hts
    have HROW:=hid (Typ.firm_rows HIN.out).2
    obtain ⟨b',off',hao,hb',hbQ,hkid⟩:=HROW.out 0 hn0
    have hrow:=HROW.out
    rw [hao] at c4 hrow
    obtain ⟨ps0,hps0,hall⟩:=row_pairsQ hrow
    have hbP':¬ P b':=fun hp=>hbQ (HS.out.low _ hp)
    have hpl0:ps0.length=t.ts.length:=by rw [← hps0]; simp
    have HPS0:=hid hps0
    have HALL:=hid hall
    have HAO:=hid hao
    have q22:∀ (w:World) (a:Option Addr) (n c n' c':Nat),(binOp .eql 23 (.slice a n c) (.slice none n' c')).run Tryz.prog w=.ok (.bool a.isNone) w:=fun w a n c n' c'=>Lib.run_eql_slice_nil w _ _ a n c n' c' Tryz.underlying23
    have hne0:((t.ts.length:Int) == 0)=false:=beq_eq_false_iff_ne.2 (by omega)
    clear hts hrow hps0 hall hao hkid S
    go_enter Tryz.func129,Tryz.ntmps129
    go_wp2_with fail
    go_loopw [29,1,8] (fun vi vu vl wr=>ThrRelQ lf Q P Inv Good w t u ps0 R vi vu vl wr) (fun vi _ _ _=>t.ts.length - (intOf vi).toNat)
    case atStart=>exact ⟨0,st,u,false,ps0,rfl,rfl,by omega,Or.inl rfl,hpl0,rfl,hR.symm,HGD.out,HS.out.keep _ _ _ HIV.out (Below.mono (below_one _ _) hN),RanS.of_below (below_one _ _),World.alloc_heap_new _ _,Or.inl ⟨rfl,rfl,rfl⟩⟩
    case round =>
     clear hR HGD HIV c0 c1 c2 c3 c4
     obtain ⟨k,st',u',c,ps,rfl,rfl,hk,hu',hpl,hdr,hG,hgood',hI,hR',hA,hL⟩:=hrel
     obtain ⟨c0,c1,c2,c3,c4⟩:=HHD.out.ranS hR' hb hbP
     rw [HAO.out] at c4
     have hszr:=hR'.size
     have hltA:w.heap.size < wr.heap.size:=(Array.getElem?_eq_some_iff.1 hA).1
     obtain ⟨a0,a1,a2,a3,a4⟩:=five_cells hA
     obtain ⟨f0,f1,f2,f3,f4⟩:=five_free hA
     have HA:=hid hA
     have HG:=hid hG
     have HGD:=hid hgood'
     have HI:=hid hI
     have HR:=hid hR'
     have HUP:=hid hu'
     have HL:=hid hL
     have HPL:=hid hpl
     have HDR:=hid hdr
     clear hA hG hgood' hI hR' hu' hL hpl hdr
     by_cases hlt:k < t.ts.length
     ·have HKID:=hid (fun (W:World) (hW:Below wr.heap.size wr W)=>by
       obtain ⟨b2,off2,hao2,hb2,hn2,hd2,hc2,hf2⟩:=HROW.out k hlt
       rw [HAO.out] at hao2
       cases hao2
       exact show SAtQ Q P W b' (off' + k * 5) t.ts[k] from ⟨hbP',by have:=hW.size; omega,hd2,(hc2.ranS HR.out hb2 hbP').below hW (by omega),hf2.step ((HR.out.wide HS.out.low).trans (RanS.of_below hW))⟩)
      by_cases hw1:k + 1 < t.ts.length
      ·have hq:((k:Int) == (t.ts.length:Int) - 1)=false:=beq_eq_false_iff_ne.2 (by omega)
       have hund:und t.k (t.ts.drop (k + 1)).isEmpty u'=u':=by
        unfold und; rw [if_neg]; rintro ⟨_,h2⟩
        have:=List.length_drop (i:=k + 1) (l:=t.ts)
        rw [List.isEmpty_iff.1 h2] at this
        simp at this; omega
       have hU:Hid (u'=u∨(u'=u + 1∧k + 1=t.ts.length)):=hid (by have:=HUP.out; omega)
       have hu2:0≤u'∧u'≤d + 1∧-4097≤u'∧u'≤4098:=by have:=HUP.out; omega
       obtain ⟨Y,hY2⟩:∃ Y,t.ts[k].thr lf st' (u')=Y:=⟨_,rfl⟩
       have hY:t.ts[k].thr lf st' (und t.k (t.ts.drop (k + 1)).isEmpty u')=Y:=by rw [hund]; exact hY2
       have HZ:=hid (fun (W:World) (hW:Below wr.heap.size wr W)=>HIH.out _ (List.getElem_mem hlt) st' b' (off' + k * 5) (d + 1) (u') W HGD.out (HS.out.keep _ _ _ HI.out (hW.mono (by omega))) (HOK.out.down _ (List.getElem_mem hlt)) hu2.1 hu2.2.1 (HKID.out W hW) (fun q hq=>HBQ.out q (by have:=hW.size; omega)) (by have:=hW.size; omega) (fun q hq=>by have:=HPW.out q hq; have:=hW.size; omega))
       have HBAD:Hid (Y.2.1 ≠ 0→(Y.1,Y.2.1,none)=R):=hid (fun he=>by
        have h0:=HG.out
        rw [drop_get hlt,fin_bad lf hY he] at h0
        exact h0)
       have HGO:Hid (Y.2.1=0→fin t.k t.n t.s (c || Y.2.2.isSome) ((ps.take k).map (·.1) ++ [Y.2.2.getD t.ts[k]]) (thrL lf t.k (t.ts.drop (k + 1)) Y.1 (u'))=R):=hid (fun he=>by
        have h0:=HG.out
        rw [drop_get hlt,fin_ok lf hY he,hund] at h0
        exact h0)
       have HGD2:Hid (Y.2.1=0→Good Y.1):=hid (fun he=>by
        rw [← hY] at he ⊢
        exact Tm.thr_good HS.out.good _ _ _ _ (HOK.out.down _ (List.getElem_mem hlt)) HGD.out he)
       have HKD:Hid (∀ y,Y.2.2=some y→y.k ≠ 0):=hid (fun y hy=>by
        rw [← hY] at hy
        exact Tm.thr_kind HS.out.kind (HOK.out.down _ (List.getElem_mem hlt)) hy)
       have HZ2:Hid (∀ W,Below wr.heap.size wr W→Calls Tryz.prog 129 #[.pointer (some ⟨b',off' + k * 5,none⟩),.int .i64 (u'),fnv f C] W (ThrPostQ Q P Y Inv W)):=hid (fun W hW=>by
        have h0:=HZ.out W hW
        rw [hY2] at h0
        exact h0)
       obtain ⟨Y1,Y2,Y3⟩:=Y
       delta ThrPostQ at HZ2
       dsimp only at HBAD HGO HGD2 HKD HZ2
       clear HZ hY hY2 hund
       have hkp:k < ps.length:=by rw [HPL.out]; exact hlt
       have hsame:ps[k].1=t.ts[k]:=by
        have h1:=drop_same HDR.out hkp (by rw [hpl0]; exact hlt)
        rw [h1]
        have h2:(ps0.map (·.1))[k]'(by simp; omega)=t.ts[k]:=by congr 1
        simpa using h2
       go_wp2_with fail
       refine (HZ2.out _ (Below.refl _ _)).mono ?_
       rintro e w3 ⟨hy,rfl,fY,iY,rY⟩
       have hW0:Below wr.heap.size wr wr:=Below.refl _ _
       have hz3:=rY.size
       have hA3:=rY.keep HA.out hAP
       have HR3:=hid (HR.out.trans rY)
       have HRY:=hid rY
       have HFY:=hid fY
       have HIY:=hid iY
       clear rY fY iY c0 c1 c2 c3 c4 a0 a1 a2 a3 a4 f0 f1 f2 f3 f4
       by_cases he:Y2=0
       ·subst he
        have HG2:=hid (HGO.out rfl)
        have HGD3:=hid (HGD2.out rfl)
        clear HBAD HGO HGD2
        cases Y3 with
        | none =>
          clear HKD HFY
          have hyk:(zeroT.k == 0)=true:=rfl
          dsimp only [Option.getD,Tm.val,Tm.vals]
          generalize zeroT=y at hyk ⊢
          obtain ⟨wy,hwy⟩:∃ wy,wy=w3.alloc (y.box hy):=⟨_,rfl⟩
          have hby:Below w3.heap.size w3 wy:=hwy ▸ below_one _ _
          have hyb:=hwy ▸ World.alloc_heap_new w3 (y.box hy)
          have HA4:=hid (Lvl.keep hby hA3)
          have HR4:=hid (HR3.out.trans (RanS.of_below hby))
          have HI4:=hid (HS.out.keep _ _ _ HIY.out (hby.mono (by omega)))
          have HL4:Hid ((c=false∧u8=.slice none 0 0∧ps=ps0)∨(c=true∧∃ L S cap,u8=.slice (some ⟨L,0,none⟩) t.ts.length cap∧w.heap.size < L∧TBlock wy L S ps∧∀ p ∈ ps,FirmS (fun q=>Q q∧(q≤w.heap.size∨q=L)) wy p.1 p.2)):=hid (by
           rcases HL.out with ⟨h1,h2,h3⟩ | ⟨h1,L,S,cap,h2,h3,h4,h5⟩
           ·exact Or.inl ⟨h1,h2,h3⟩
           ·have hst:=HRY.out.trans (RanS.of_below hby)
            exact Or.inr ⟨h1,L,S,cap,h2,h3,h4.ranS hst (fun hp=>by have:=HPW.out _ hp; omega),fun p hp=>(h5 p hp).step (hst.wide (fun q hq=>⟨HS.out.low q hq,Or.inl (by have:=HPW.out _ hq; omega)⟩))⟩)
          obtain ⟨y0,y1,y2,y3,y4⟩:=five_cells (show wy.heap[w3.heap.size]?=some (.cells #[.int .u8 y.k,.int .i64 y.n,.string y.s,.slice hy.lo y.ls.length hy.lc,.slice hy.to y.ts.length hy.tc] 25) from hyb)
          clear hA3 hby hyb
          have ew:w3.alloc (.cells #[.int .u8 y.k,.int .i64 y.n,.string y.s,.slice hy.lo y.ls.length hy.lc,.slice hy.to y.ts.length hy.tc] 25)=wy:=hwy.symm
          go_upto_region 10 with fail
          first | rw [ew] | rw [← hwy]
          clear ew hwy
          go_wp2_with fail
          go_roundw
          case rel=>exact ⟨k + 1,Y1,u',c,ps,by go_num,rfl,by omega,hU.out,HPL.out,drop_more HDR.out,by
           rw [take_more hkp,hsame]
           have h0:=HG2.out
           rw [show (c || Option.isSome (none:Option Tm))=c from Bool.or_false c] at h0
           exact h0,HGD3.out,HI4.out,HR4.out,HA4.out,HL4.out⟩
          case measure=>simp [intOf]; omega
        | some y =>
          have hyk:(y.k == 0)=false:=by have:=HKD.out y rfl; simpa using this
          clear HKD
          dsimp only [Option.getD,Tm.val,Tm.vals]
          obtain ⟨wy,hwy⟩:∃ wy,wy=w3.alloc (y.box hy):=⟨_,rfl⟩
          have hby:Below w3.heap.size w3 wy:=hwy ▸ below_one _ _
          have hyb:=hwy ▸ World.alloc_heap_new w3 (y.box hy)
          have HA4:=hid (Lvl.keep hby hA3)
          have HST:=hid (HRY.out.trans (RanS.of_below hby))
          have HR4:=hid (HR3.out.trans (RanS.of_below hby))
          have HI4:=hid (HS.out.keep _ _ _ HIY.out (hby.mono (by omega)))
          have HBY:=hid hby
          have HYB:=hid hyb
          have hzy:=hby.size
          have hlw3:w3.heap.size < wy.heap.size:=(Array.getElem?_eq_some_iff.1 hyb).1
          obtain ⟨y0,y1,y2,y3,y4⟩:=five_cells (show wy.heap[w3.heap.size]?=some (.cells #[.int .u8 y.k,.int .i64 y.n,.string y.s,.slice hy.lo y.ls.length hy.lc,.slice hy.to y.ts.length hy.tc] 25) from hyb)
          clear hA3 hby hyb
          have ew:w3.alloc (.cells #[.int .u8 y.k,.int .i64 y.n,.string y.s,.slice hy.lo y.ls.length hy.lc,.slice hy.to y.ts.length hy.tc] 25)=wy:=hwy.symm
          go_upto_region 10 with fail
          first | rw [ew] | rw [← hwy]
          clear ew hwy
          rcases HL.out with ⟨hc,hv,hps⟩ | ⟨hc,L,SS,cap,hv,hLA,htb,hfi⟩
          ·subst hc hv
           have HALL2:Hid (∀ k (hk:k < ps.length),TCells w b' (off' + (0 + k) * 5) ps[k].1 ps[k].2∧FirmS Q w ps[k].1 ps[k].2):=hid (by rw [hps]; exact HALL.out)
           have hb4:=HR4.out
           have HCL:=hid (Clone_any b' off' t.ts.length h.tc ps wy HPL.out (by omega) (fun k hk=>by
            have h0:=(HALL2.out k hk).1.ranS hb4 hb' hbP'
            rwa [Nat.zero_add] at h0) hn0)
           obtain ⟨c0,c1,c2,c3,c4⟩:=HHD.out.ranS HR4.out hb hbP
           rw [HAO.out] at c4
           clear HL hps hb4
           go_wp2_with fail
           refine HCL.out.mono ?_
           rintro e w5 ⟨L,SS,cap,rfl,hL1,hL2,tb,b5⟩
           have hz5:=b5.size
           have HI5:=hid (HS.out.keep _ _ _ HI4.out (b5.mono (by omega)))
           have HR5:=hid (HR4.out.trans (RanS.of_below b5))
           have HA5:=hid (Lvl.keep b5 HA4.out)
           have hyb:=Lvl.keep b5 HYB.out
           have HB5:=hid b5
           have HTB:=hid tb
           have hfr:=fun o=>tb.free o
           have q0:=(tb.cells k hkp).c0
           have q1:=(tb.cells k hkp).c1
           have q2:=(tb.cells k hkp).c2
           have q3:=(tb.cells k hkp).c3
           have q4:=(tb.cells k hkp).c4
           clear b5 tb y0 y1 y2 y3 y4 c0 c1 c2 c3 c4
           obtain ⟨y0,y1,y2,y3,y4⟩:=five_cells (show w5.heap[w3.heap.size]?=some (.cells #[.int .u8 y.k,.int .i64 y.n,.string y.s,.slice hy.lo y.ls.length hy.lc,.slice hy.to y.ts.length hy.tc] 25) from hyb)
           clear hyb
           go_wp2_with fail
           go_roundw
           case rel =>
            have hro:=putO_ran w5 L (k * 5) (.int .u8 y.k) (.int .i64 y.n) (.string y.s) (.slice hy.lo y.ls.length hy.lc) (.slice hy.to y.ts.length hy.tc)
            have hsp:=RanS.putO HR5.out (by omega:w.heap.size≤L) (k * 5) (.int .u8 y.k) (.int .i64 y.n) (.string y.s) (.slice hy.lo y.ls.length hy.lc) (.slice hy.to y.ts.length hy.tc)
            refine ⟨k + 1,Y1,u',true,ps.set k (y,hy),by go_num,rfl,by omega,hU.out,by rw [List.length_set]; exact HPL.out,(drop_set _).trans (drop_more HDR.out),by rw [take_set hkp (y,hy)]; exact HG2.out,HGD3.out,HS.out.keep _ _ _ HI5.out (hro.below (by omega) (by omega)),hsp,hro.keep HA5.out (by omega),Or.inr ⟨rfl,L,SS,cap,rfl,by omega,HTB.out.put k hkp (y,hy),?_⟩⟩
            intro p hp
            rcases List.mem_or_eq_of_mem_set hp with hp | rfl
            ·obtain ⟨i,hi,rfl⟩:=List.getElem_of_mem hp
             exact ((HALL2.out i hi).2.less (fun q _ hq=>hq.1)).step (hsp.wide (fun q hq=>⟨HS.out.low q hq,Or.inl (by have:=HPW.out _ hq; omega)⟩))
            ·exact (HFY.out.less (fun q hq1 hq2=>⟨hq2.1,by have:=hq2.2; omega⟩)).step ((RanS.of_below HBY.out).trans ((RanS.of_below HB5.out).trans (RanS.of_ran hro ⟨HBQ.out _ (by omega),Or.inr rfl⟩)))
           case measure=>simp [intOf]; omega
          ·subst hc hv
           have hst2:RanS (fun q=>Q q∧(q≤w.heap.size∨q=L)) wr wy:=HST.out.wide (fun q hq=>⟨HS.out.low q hq,Or.inl (by have:=HPW.out _ hq; omega)⟩)
           have hlL:=htb.lt
           have tb:=htb.ranS HST.out (fun hp=>by have:=HPW.out _ hp; omega)
           have HTB:=hid tb
           have HFI:=hid (fun p hp=>(hfi p hp).step hst2)
           have hfr:=fun o=>tb.free o
           have q0:=(tb.cells k hkp).c0
           have q1:=(tb.cells k hkp).c1
           have q2:=(tb.cells k hkp).c2
           have q3:=(tb.cells k hkp).c3
           have q4:=(tb.cells k hkp).c4
           clear HL htb hfi hst2 tb
           go_wp2_with fail
           go_roundw
           case rel =>
            have hro:=putO_ran wy L (k * 5) (.int .u8 y.k) (.int .i64 y.n) (.string y.s) (.slice hy.lo y.ls.length hy.lc) (.slice hy.to y.ts.length hy.tc)
            have hsp:=RanS.putO HR4.out (by omega:w.heap.size≤L) (k * 5) (.int .u8 y.k) (.int .i64 y.n) (.string y.s) (.slice hy.lo y.ls.length hy.lc) (.slice hy.to y.ts.length hy.tc)
            refine ⟨k + 1,Y1,u',true,ps.set k (y,hy),by go_num,rfl,by omega,hU.out,by rw [List.length_set]; exact HPL.out,(drop_set _).trans (drop_more HDR.out),by rw [take_set hkp (y,hy)]; exact HG2.out,HGD3.out,HS.out.keep _ _ _ HI4.out (hro.below (by omega) (by omega)),hsp,hro.keep HA4.out (by omega),Or.inr ⟨rfl,L,SS,cap,rfl,by omega,HTB.out.put k hkp (y,hy),?_⟩⟩
            intro p hp
            rcases List.mem_or_eq_of_mem_set hp with hp | rfl
            ·exact (HFI.out p hp).step (RanS.of_ran hro ⟨HBQ.out _ (by omega),Or.inr rfl⟩)
            ·exact (HFY.out.less (fun q hq1 hq2=>⟨hq2.1,by have:=hq2.2; omega⟩)).step ((RanS.of_below HBY.out).trans (RanS.of_ran hro ⟨HBQ.out _ (by omega),Or.inr rfl⟩))
           case measure=>simp [intOf]; omega
       ·have he2:(Y2 != 0)=true:=by simpa using he
        have HE2:=hid (HBAD.out he)
        generalize hyy:Y3.getD zeroT=y at HFY ⊢
        clear hyy HBAD HGO HGD2 HKD
        dsimp only [Tm.val,Tm.vals]
        obtain ⟨wy,hwy⟩:∃ wy,wy=w3.alloc (y.box hy):=⟨_,rfl⟩
        have hby:Below w3.heap.size w3 wy:=hwy ▸ below_one _ _
        have HA4:=hid (Lvl.keep hby hA3)
        have HR4:=hid (HR3.out.trans (RanS.of_below hby))
        have HI4:=hid (HS.out.keep _ _ _ HIY.out (hby.mono (by omega)))
        have hzy:=hby.size
        obtain ⟨a0,a1,a2,a3,a4⟩:=five_cells HA4.out
        obtain ⟨f0,f1,f2,f3,f4⟩:=five_free HA4.out
        clear hA3 hby he
        have ew:w3.alloc (.cells #[.int .u8 y.k,.int .i64 y.n,.string y.s,.slice hy.lo y.ls.length hy.lc,.slice hy.to y.ts.length hy.tc] 25)=wy:=hwy.symm
        go_upto_region 10 with fail
        first | rw [ew] | rw [← hwy]
        clear ew hwy
        go_wp2_with fail
        have h5:=putT_self HA4.out (.int .u8 0) (.int .i64 0) (.string no) (.slice none 0 0) (.slice none 0 0)
        have r5:=putT_ran (wy) w.heap.size (.int .u8 0) (.int .i64 0) (.string no) (.slice none 0 0) (.slice none 0 0)
        have s5:=RanS.put HR4.out (Nat.le_refl w.heap.size) (.int .u8 0) (.int .i64 0) (.string no) (.slice none 0 0) (.slice none 0 0)
        have z5:w.heap.size < (wy).heap.size:=(Array.getElem?_eq_some_iff.1 HA4.out).1
        unfold putT no at h5 r5 s5
        generalize hW:((((((wy).setCell ⟨w.heap.size,0,none⟩ (.int .u8 0)).setCell ⟨w.heap.size,1,none⟩ (.int .i64 0)).setCell ⟨w.heap.size,2,none⟩ (.string ⟨#[]⟩)).setCell ⟨w.heap.size,3,none⟩ (.slice none 0 0)).setCell ⟨w.heap.size,4,none⟩ (.slice none 0 0))=W4 at h5 r5 s5 ⊢
        obtain ⟨g0,g1,g2,g3,g4⟩:=five_cells h5
        clear hW
        exact bodyPost_ret (v:=.tuple #[zeroT.val ⟨none,0,none,0⟩,.int .i64 Y2]) (by simp [results,Tryz.results129,go_sem,g0,g1,g2,g3,g4,zeroT,Tm.val,Tm.vals,Tm.k,Tm.n,Tm.s,Tm.ls,Tm.ts,no]) rfl (HE2.out ▸ ⟨⟨none,0,none,0⟩,rfl,firm_zero,HS.out.keep _ _ _ HI4.out (r5.below hN (by omega)),s5⟩)
      ·cases hbi:binds t.k
       ·have hq:((k:Int) == (t.ts.length:Int) - 1)=true:=beq_iff_eq.2 (by omega)
        have hund:und t.k (t.ts.drop (k + 1)).isEmpty u'=u':=by unfold und; rw [if_neg]; rintro ⟨h2,_⟩; rw [hbi] at h2; cases h2
        have hU:Hid (u'=u∨(u'=u + 1∧k + 1=t.ts.length)):=hid (by have:=HUP.out; omega)
        have hu2:0≤u'∧u'≤d + 1∧-4097≤u'∧u'≤4098:=by have:=HUP.out; omega
        obtain ⟨Y,hY2⟩:∃ Y,t.ts[k].thr lf st' (u')=Y:=⟨_,rfl⟩
        have hY:t.ts[k].thr lf st' (und t.k (t.ts.drop (k + 1)).isEmpty u')=Y:=by rw [hund]; exact hY2
        have HZ:=hid (fun (W:World) (hW:Below wr.heap.size wr W)=>HIH.out _ (List.getElem_mem hlt) st' b' (off' + k * 5) (d + 1) (u') W HGD.out (HS.out.keep _ _ _ HI.out (hW.mono (by omega))) (HOK.out.down _ (List.getElem_mem hlt)) hu2.1 hu2.2.1 (HKID.out W hW) (fun q hq=>HBQ.out q (by have:=hW.size; omega)) (by have:=hW.size; omega) (fun q hq=>by have:=HPW.out q hq; have:=hW.size; omega))
        have HBAD:Hid (Y.2.1 ≠ 0→(Y.1,Y.2.1,none)=R):=hid (fun he=>by
         have h0:=HG.out
         rw [drop_get hlt,fin_bad lf hY he] at h0
         exact h0)
        have HGO:Hid (Y.2.1=0→fin t.k t.n t.s (c || Y.2.2.isSome) ((ps.take k).map (·.1) ++ [Y.2.2.getD t.ts[k]]) (thrL lf t.k (t.ts.drop (k + 1)) Y.1 (u'))=R):=hid (fun he=>by
         have h0:=HG.out
         rw [drop_get hlt,fin_ok lf hY he,hund] at h0
         exact h0)
        have HGD2:Hid (Y.2.1=0→Good Y.1):=hid (fun he=>by
         rw [← hY] at he ⊢
         exact Tm.thr_good HS.out.good _ _ _ _ (HOK.out.down _ (List.getElem_mem hlt)) HGD.out he)
        have HKD:Hid (∀ y,Y.2.2=some y→y.k ≠ 0):=hid (fun y hy=>by
         rw [← hY] at hy
         exact Tm.thr_kind HS.out.kind (HOK.out.down _ (List.getElem_mem hlt)) hy)
        have HZ2:Hid (∀ W,Below wr.heap.size wr W→Calls Tryz.prog 129 #[.pointer (some ⟨b',off' + k * 5,none⟩),.int .i64 (u'),fnv f C] W (ThrPostQ Q P Y Inv W)):=hid (fun W hW=>by
         have h0:=HZ.out W hW
         rw [hY2] at h0
         exact h0)
        obtain ⟨Y1,Y2,Y3⟩:=Y
        delta ThrPostQ at HZ2
        dsimp only at HBAD HGO HGD2 HKD HZ2
        clear HZ hY hY2 hund
        have hkp:k < ps.length:=by rw [HPL.out]; exact hlt
        have hsame:ps[k].1=t.ts[k]:=by
         have h1:=drop_same HDR.out hkp (by rw [hpl0]; exact hlt)
         rw [h1]
         have h2:(ps0.map (·.1))[k]'(by simp; omega)=t.ts[k]:=by congr 1
         simpa using h2
        go_wp2_with fail
        refine (binds_any _ _).mono ?_
        rintro e w2 ⟨rfl,rfl⟩
        rw [hbi]
        go_wp2_with fail
        refine (HZ2.out _ (Below.refl _ _)).mono ?_
        rintro e w3 ⟨hy,rfl,fY,iY,rY⟩
        have hz3:=rY.size
        have hA3:=rY.keep HA.out hAP
        have HR3:=hid (HR.out.trans rY)
        have HRY:=hid rY
        have HFY:=hid fY
        have HIY:=hid iY
        clear rY fY iY c0 c1 c2 c3 c4 a0 a1 a2 a3 a4 f0 f1 f2 f3 f4
        by_cases he:Y2=0
        ·subst he
         have HG2:=hid (HGO.out rfl)
         have HGD3:=hid (HGD2.out rfl)
         clear HBAD HGO HGD2
         cases Y3 with
         | none =>
           clear HKD HFY
           have hyk:(zeroT.k == 0)=true:=rfl
           dsimp only [Option.getD,Tm.val,Tm.vals]
           generalize zeroT=y at hyk ⊢
           obtain ⟨wy,hwy⟩:∃ wy,wy=w3.alloc (y.box hy):=⟨_,rfl⟩
           have hby:Below w3.heap.size w3 wy:=hwy ▸ below_one _ _
           have hyb:=hwy ▸ World.alloc_heap_new w3 (y.box hy)
           have HA4:=hid (Lvl.keep hby hA3)
           have HR4:=hid (HR3.out.trans (RanS.of_below hby))
           have HI4:=hid (HS.out.keep _ _ _ HIY.out (hby.mono (by omega)))
           have HL4:Hid ((c=false∧u8=.slice none 0 0∧ps=ps0)∨(c=true∧∃ L S cap,u8=.slice (some ⟨L,0,none⟩) t.ts.length cap∧w.heap.size < L∧TBlock wy L S ps∧∀ p ∈ ps,FirmS (fun q=>Q q∧(q≤w.heap.size∨q=L)) wy p.1 p.2)):=hid (by
            rcases HL.out with ⟨h1,h2,h3⟩ | ⟨h1,L,S,cap,h2,h3,h4,h5⟩
            ·exact Or.inl ⟨h1,h2,h3⟩
            ·have hst:=HRY.out.trans (RanS.of_below hby)
             exact Or.inr ⟨h1,L,S,cap,h2,h3,h4.ranS hst (fun hp=>by have:=HPW.out _ hp; omega),fun p hp=>(h5 p hp).step (hst.wide (fun q hq=>⟨HS.out.low q hq,Or.inl (by have:=HPW.out _ hq; omega)⟩))⟩)
           obtain ⟨y0,y1,y2,y3,y4⟩:=five_cells (show wy.heap[w3.heap.size]?=some (.cells #[.int .u8 y.k,.int .i64 y.n,.string y.s,.slice hy.lo y.ls.length hy.lc,.slice hy.to y.ts.length hy.tc] 25) from hyb)
           clear hA3 hby hyb
           have ew:w3.alloc (.cells #[.int .u8 y.k,.int .i64 y.n,.string y.s,.slice hy.lo y.ls.length hy.lc,.slice hy.to y.ts.length hy.tc] 25)=wy:=hwy.symm
           go_upto_region 10 with fail
           first | rw [ew] | rw [← hwy]
           clear ew hwy
           go_wp2_with fail
           go_roundw
           case rel=>exact ⟨k + 1,Y1,u',c,ps,by go_num,rfl,by omega,hU.out,HPL.out,drop_more HDR.out,by
            rw [take_more hkp,hsame]
            have h0:=HG2.out
            rw [show (c || Option.isSome (none:Option Tm))=c from Bool.or_false c] at h0
            exact h0,HGD3.out,HI4.out,HR4.out,HA4.out,HL4.out⟩
           case measure=>simp [intOf]; omega
         | some y =>
           have hyk:(y.k == 0)=false:=by have:=HKD.out y rfl; simpa using this
           clear HKD
           dsimp only [Option.getD,Tm.val,Tm.vals]
           obtain ⟨wy,hwy⟩:∃ wy,wy=w3.alloc (y.box hy):=⟨_,rfl⟩
           have hby:Below w3.heap.size w3 wy:=hwy ▸ below_one _ _
           have hyb:=hwy ▸ World.alloc_heap_new w3 (y.box hy)
           have HA4:=hid (Lvl.keep hby hA3)
           have HST:=hid (HRY.out.trans (RanS.of_below hby))
           have HR4:=hid (HR3.out.trans (RanS.of_below hby))
           have HI4:=hid (HS.out.keep _ _ _ HIY.out (hby.mono (by omega)))
           have HBY:=hid hby
           have HYB:=hid hyb
           have hzy:=hby.size
           have hlw3:w3.heap.size < wy.heap.size:=(Array.getElem?_eq_some_iff.1 hyb).1
           obtain ⟨y0,y1,y2,y3,y4⟩:=five_cells (show wy.heap[w3.heap.size]?=some (.cells #[.int .u8 y.k,.int .i64 y.n,.string y.s,.slice hy.lo y.ls.length hy.lc,.slice hy.to y.ts.length hy.tc] 25) from hyb)
           clear hA3 hby hyb
           have ew:w3.alloc (.cells #[.int .u8 y.k,.int .i64 y.n,.string y.s,.slice hy.lo y.ls.length hy.lc,.slice hy.to y.ts.length hy.tc] 25)=wy:=hwy.symm
           go_upto_region 10 with fail
           first | rw [ew] | rw [← hwy]
           clear ew hwy
           rcases HL.out with ⟨hc,hv,hps⟩ | ⟨hc,L,SS,cap,hv,hLA,htb,hfi⟩
           ·subst hc hv
            have HALL2:Hid (∀ k (hk:k < ps.length),TCells w b' (off' + (0 + k) * 5) ps[k].1 ps[k].2∧FirmS Q w ps[k].1 ps[k].2):=hid (by rw [hps]; exact HALL.out)
            have hb4:=HR4.out
            have HCL:=hid (Clone_any b' off' t.ts.length h.tc ps wy HPL.out (by omega) (fun k hk=>by
             have h0:=(HALL2.out k hk).1.ranS hb4 hb' hbP'
             rwa [Nat.zero_add] at h0) hn0)
            obtain ⟨c0,c1,c2,c3,c4⟩:=HHD.out.ranS HR4.out hb hbP
            rw [HAO.out] at c4
            clear HL hps hb4
            go_wp2_with fail
            refine HCL.out.mono ?_
            rintro e w5 ⟨L,SS,cap,rfl,hL1,hL2,tb,b5⟩
            have hz5:=b5.size
            have HI5:=hid (HS.out.keep _ _ _ HI4.out (b5.mono (by omega)))
            have HR5:=hid (HR4.out.trans (RanS.of_below b5))
            have HA5:=hid (Lvl.keep b5 HA4.out)
            have hyb:=Lvl.keep b5 HYB.out
            have HB5:=hid b5
            have HTB:=hid tb
            have hfr:=fun o=>tb.free o
            have q0:=(tb.cells k hkp).c0
            have q1:=(tb.cells k hkp).c1
            have q2:=(tb.cells k hkp).c2
            have q3:=(tb.cells k hkp).c3
            have q4:=(tb.cells k hkp).c4
            clear b5 tb y0 y1 y2 y3 y4 c0 c1 c2 c3 c4
            obtain ⟨y0,y1,y2,y3,y4⟩:=five_cells (show w5.heap[w3.heap.size]?=some (.cells #[.int .u8 y.k,.int .i64 y.n,.string y.s,.slice hy.lo y.ls.length hy.lc,.slice hy.to y.ts.length hy.tc] 25) from hyb)
            clear hyb
            go_wp2_with fail
            go_roundw
            case rel =>
             have hro:=putO_ran w5 L (k * 5) (.int .u8 y.k) (.int .i64 y.n) (.string y.s) (.slice hy.lo y.ls.length hy.lc) (.slice hy.to y.ts.length hy.tc)
             have hsp:=RanS.putO HR5.out (by omega:w.heap.size≤L) (k * 5) (.int .u8 y.k) (.int .i64 y.n) (.string y.s) (.slice hy.lo y.ls.length hy.lc) (.slice hy.to y.ts.length hy.tc)
             refine ⟨k + 1,Y1,u',true,ps.set k (y,hy),by go_num,rfl,by omega,hU.out,by rw [List.length_set]; exact HPL.out,(drop_set _).trans (drop_more HDR.out),by rw [take_set hkp (y,hy)]; exact HG2.out,HGD3.out,HS.out.keep _ _ _ HI5.out (hro.below (by omega) (by omega)),hsp,hro.keep HA5.out (by omega),Or.inr ⟨rfl,L,SS,cap,rfl,by omega,HTB.out.put k hkp (y,hy),?_⟩⟩
             intro p hp
             rcases List.mem_or_eq_of_mem_set hp with hp | rfl
             ·obtain ⟨i,hi,rfl⟩:=List.getElem_of_mem hp
              exact ((HALL2.out i hi).2.less (fun q _ hq=>hq.1)).step (hsp.wide (fun q hq=>⟨HS.out.low q hq,Or.inl (by have:=HPW.out _ hq; omega)⟩))
             ·exact (HFY.out.less (fun q hq1 hq2=>⟨hq2.1,by have:=hq2.2; omega⟩)).step ((RanS.of_below HBY.out).trans ((RanS.of_below HB5.out).trans (RanS.of_ran hro ⟨HBQ.out _ (by omega),Or.inr rfl⟩)))
            case measure=>simp [intOf]; omega
           ·subst hc hv
            have hst2:RanS (fun q=>Q q∧(q≤w.heap.size∨q=L)) wr wy:=HST.out.wide (fun q hq=>⟨HS.out.low q hq,Or.inl (by have:=HPW.out _ hq; omega)⟩)
            have hlL:=htb.lt
            have tb:=htb.ranS HST.out (fun hp=>by have:=HPW.out _ hp; omega)
            have HTB:=hid tb
            have HFI:=hid (fun p hp=>(hfi p hp).step hst2)
            have hfr:=fun o=>tb.free o
            have q0:=(tb.cells k hkp).c0
            have q1:=(tb.cells k hkp).c1
            have q2:=(tb.cells k hkp).c2
            have q3:=(tb.cells k hkp).c3
            have q4:=(tb.cells k hkp).c4
            clear HL htb hfi hst2 tb
            go_wp2_with fail
            go_roundw
            case rel =>
             have hro:=putO_ran wy L (k * 5) (.int .u8 y.k) (.int .i64 y.n) (.string y.s) (.slice hy.lo y.ls.length hy.lc) (.slice hy.to y.ts.length hy.tc)
             have hsp:=RanS.putO HR4.out (by omega:w.heap.size≤L) (k * 5) (.int .u8 y.k) (.int .i64 y.n) (.string y.s) (.slice hy.lo y.ls.length hy.lc) (.slice hy.to y.ts.length hy.tc)
             refine ⟨k + 1,Y1,u',true,ps.set k (y,hy),by go_num,rfl,by omega,hU.out,by rw [List.length_set]; exact HPL.out,(drop_set _).trans (drop_more HDR.out),by rw [take_set hkp (y,hy)]; exact HG2.out,HGD3.out,HS.out.keep _ _ _ HI4.out (hro.below (by omega) (by omega)),hsp,hro.keep HA4.out (by omega),Or.inr ⟨rfl,L,SS,cap,rfl,by omega,HTB.out.put k hkp (y,hy),?_⟩⟩
             intro p hp
             rcases List.mem_or_eq_of_mem_set hp with hp | rfl
             ·exact (HFI.out p hp).step (RanS.of_ran hro ⟨HBQ.out _ (by omega),Or.inr rfl⟩)
             ·exact (HFY.out.less (fun q hq1 hq2=>⟨hq2.1,by have:=hq2.2; omega⟩)).step ((RanS.of_below HBY.out).trans (RanS.of_ran hro ⟨HBQ.out _ (by omega),Or.inr rfl⟩))
            case measure=>simp [intOf]; omega
        ·have he2:(Y2 != 0)=true:=by simpa using he
         have HE2:=hid (HBAD.out he)
         generalize hyy:Y3.getD zeroT=y at HFY ⊢
         clear hyy HBAD HGO HGD2 HKD
         dsimp only [Tm.val,Tm.vals]
         obtain ⟨wy,hwy⟩:∃ wy,wy=w3.alloc (y.box hy):=⟨_,rfl⟩
         have hby:Below w3.heap.size w3 wy:=hwy ▸ below_one _ _
         have HA4:=hid (Lvl.keep hby hA3)
         have HR4:=hid (HR3.out.trans (RanS.of_below hby))
         have HI4:=hid (HS.out.keep _ _ _ HIY.out (hby.mono (by omega)))
         have hzy:=hby.size
         obtain ⟨a0,a1,a2,a3,a4⟩:=five_cells HA4.out
         obtain ⟨f0,f1,f2,f3,f4⟩:=five_free HA4.out
         clear hA3 hby he
         have ew:w3.alloc (.cells #[.int .u8 y.k,.int .i64 y.n,.string y.s,.slice hy.lo y.ls.length hy.lc,.slice hy.to y.ts.length hy.tc] 25)=wy:=hwy.symm
         go_upto_region 10 with fail
         first | rw [ew] | rw [← hwy]
         clear ew hwy
         go_wp2_with fail
         have h5:=putT_self HA4.out (.int .u8 0) (.int .i64 0) (.string no) (.slice none 0 0) (.slice none 0 0)
         have r5:=putT_ran (wy) w.heap.size (.int .u8 0) (.int .i64 0) (.string no) (.slice none 0 0) (.slice none 0 0)
         have s5:=RanS.put HR4.out (Nat.le_refl w.heap.size) (.int .u8 0) (.int .i64 0) (.string no) (.slice none 0 0) (.slice none 0 0)
         have z5:w.heap.size < (wy).heap.size:=(Array.getElem?_eq_some_iff.1 HA4.out).1
         unfold putT no at h5 r5 s5
         generalize hW:((((((wy).setCell ⟨w.heap.size,0,none⟩ (.int .u8 0)).setCell ⟨w.heap.size,1,none⟩ (.int .i64 0)).setCell ⟨w.heap.size,2,none⟩ (.string ⟨#[]⟩)).setCell ⟨w.heap.size,3,none⟩ (.slice none 0 0)).setCell ⟨w.heap.size,4,none⟩ (.slice none 0 0))=W4 at h5 r5 s5 ⊢
         obtain ⟨g0,g1,g2,g3,g4⟩:=five_cells h5
         clear hW
         exact bodyPost_ret (v:=.tuple #[zeroT.val ⟨none,0,none,0⟩,.int .i64 Y2]) (by simp [results,Tryz.results129,go_sem,g0,g1,g2,g3,g4,zeroT,Tm.val,Tm.vals,Tm.k,Tm.n,Tm.s,Tm.ls,Tm.ts,no]) rfl (HE2.out ▸ ⟨⟨none,0,none,0⟩,rfl,firm_zero,HS.out.keep _ _ _ HI4.out (r5.below hN (by omega)),s5⟩)
       ·have hq:((k:Int) == (t.ts.length:Int) - 1)=true:=beq_iff_eq.2 (by omega)
        have hund:und t.k (t.ts.drop (k + 1)).isEmpty u'=u' + 1:=by
         unfold und; rw [if_pos]; exact ⟨hbi,by rw [List.drop_eq_nil_of_le (by omega)]; rfl⟩
        have hU:Hid (u' + 1=u∨(u' + 1=u + 1∧k + 1=t.ts.length)):=hid (by have:=HUP.out; omega)
        have hu2:0≤u' + 1∧u' + 1≤d + 1∧-4097≤u'∧u'≤4098:=by have:=HUP.out; omega
        obtain ⟨Y,hY2⟩:∃ Y,t.ts[k].thr lf st' (u' + 1)=Y:=⟨_,rfl⟩
        have hY:t.ts[k].thr lf st' (und t.k (t.ts.drop (k + 1)).isEmpty u')=Y:=by rw [hund]; exact hY2
        have HZ:=hid (fun (W:World) (hW:Below wr.heap.size wr W)=>HIH.out _ (List.getElem_mem hlt) st' b' (off' + k * 5) (d + 1) (u' + 1) W HGD.out (HS.out.keep _ _ _ HI.out (hW.mono (by omega))) (HOK.out.down _ (List.getElem_mem hlt)) hu2.1 hu2.2.1 (HKID.out W hW) (fun q hq=>HBQ.out q (by have:=hW.size; omega)) (by have:=hW.size; omega) (fun q hq=>by have:=HPW.out q hq; have:=hW.size; omega))
        have HBAD:Hid (Y.2.1 ≠ 0→(Y.1,Y.2.1,none)=R):=hid (fun he=>by
         have h0:=HG.out
         rw [drop_get hlt,fin_bad lf hY he] at h0
         exact h0)
        have HGO:Hid (Y.2.1=0→fin t.k t.n t.s (c || Y.2.2.isSome) ((ps.take k).map (·.1) ++ [Y.2.2.getD t.ts[k]]) (thrL lf t.k (t.ts.drop (k + 1)) Y.1 (u' + 1))=R):=hid (fun he=>by
         have h0:=HG.out
         rw [drop_get hlt,fin_ok lf hY he,hund] at h0
         exact h0)
        have HGD2:Hid (Y.2.1=0→Good Y.1):=hid (fun he=>by
         rw [← hY] at he ⊢
         exact Tm.thr_good HS.out.good _ _ _ _ (HOK.out.down _ (List.getElem_mem hlt)) HGD.out he)
        have HKD:Hid (∀ y,Y.2.2=some y→y.k ≠ 0):=hid (fun y hy=>by
         rw [← hY] at hy
         exact Tm.thr_kind HS.out.kind (HOK.out.down _ (List.getElem_mem hlt)) hy)
        have HZ2:Hid (∀ W,Below wr.heap.size wr W→Calls Tryz.prog 129 #[.pointer (some ⟨b',off' + k * 5,none⟩),.int .i64 (u' + 1),fnv f C] W (ThrPostQ Q P Y Inv W)):=hid (fun W hW=>by
         have h0:=HZ.out W hW
         rw [hY2] at h0
         exact h0)
        obtain ⟨Y1,Y2,Y3⟩:=Y
        delta ThrPostQ at HZ2
        dsimp only at HBAD HGO HGD2 HKD HZ2
        clear HZ hY hY2 hund
        have hkp:k < ps.length:=by rw [HPL.out]; exact hlt
        have hsame:ps[k].1=t.ts[k]:=by
         have h1:=drop_same HDR.out hkp (by rw [hpl0]; exact hlt)
         rw [h1]
         have h2:(ps0.map (·.1))[k]'(by simp; omega)=t.ts[k]:=by congr 1
         simpa using h2
        go_wp2_with fail
        refine (binds_any _ _).mono ?_
        rintro e w2 ⟨rfl,rfl⟩
        rw [hbi]
        go_wp2_with fail
        refine (HZ2.out _ (Below.refl _ _)).mono ?_
        rintro e w3 ⟨hy,rfl,fY,iY,rY⟩
        have hz3:=rY.size
        have hA3:=rY.keep HA.out hAP
        have HR3:=hid (HR.out.trans rY)
        have HRY:=hid rY
        have HFY:=hid fY
        have HIY:=hid iY
        clear rY fY iY c0 c1 c2 c3 c4 a0 a1 a2 a3 a4 f0 f1 f2 f3 f4
        by_cases he:Y2=0
        ·subst he
         have HG2:=hid (HGO.out rfl)
         have HGD3:=hid (HGD2.out rfl)
         clear HBAD HGO HGD2
         cases Y3 with
         | none =>
           clear HKD HFY
           have hyk:(zeroT.k == 0)=true:=rfl
           dsimp only [Option.getD,Tm.val,Tm.vals]
           generalize zeroT=y at hyk ⊢
           obtain ⟨wy,hwy⟩:∃ wy,wy=w3.alloc (y.box hy):=⟨_,rfl⟩
           have hby:Below w3.heap.size w3 wy:=hwy ▸ below_one _ _
           have hyb:=hwy ▸ World.alloc_heap_new w3 (y.box hy)
           have HA4:=hid (Lvl.keep hby hA3)
           have HR4:=hid (HR3.out.trans (RanS.of_below hby))
           have HI4:=hid (HS.out.keep _ _ _ HIY.out (hby.mono (by omega)))
           have HL4:Hid ((c=false∧u8=.slice none 0 0∧ps=ps0)∨(c=true∧∃ L S cap,u8=.slice (some ⟨L,0,none⟩) t.ts.length cap∧w.heap.size < L∧TBlock wy L S ps∧∀ p ∈ ps,FirmS (fun q=>Q q∧(q≤w.heap.size∨q=L)) wy p.1 p.2)):=hid (by
            rcases HL.out with ⟨h1,h2,h3⟩ | ⟨h1,L,S,cap,h2,h3,h4,h5⟩
            ·exact Or.inl ⟨h1,h2,h3⟩
            ·have hst:=HRY.out.trans (RanS.of_below hby)
             exact Or.inr ⟨h1,L,S,cap,h2,h3,h4.ranS hst (fun hp=>by have:=HPW.out _ hp; omega),fun p hp=>(h5 p hp).step (hst.wide (fun q hq=>⟨HS.out.low q hq,Or.inl (by have:=HPW.out _ hq; omega)⟩))⟩)
           obtain ⟨y0,y1,y2,y3,y4⟩:=five_cells (show wy.heap[w3.heap.size]?=some (.cells #[.int .u8 y.k,.int .i64 y.n,.string y.s,.slice hy.lo y.ls.length hy.lc,.slice hy.to y.ts.length hy.tc] 25) from hyb)
           clear hA3 hby hyb
           have ew:w3.alloc (.cells #[.int .u8 y.k,.int .i64 y.n,.string y.s,.slice hy.lo y.ls.length hy.lc,.slice hy.to y.ts.length hy.tc] 25)=wy:=hwy.symm
           go_upto_region 10 with fail
           first | rw [ew] | rw [← hwy]
           clear ew hwy
           go_wp2_with fail
           go_roundw
           case rel=>exact ⟨k + 1,Y1,u' + 1,c,ps,by go_num,rfl,by omega,hU.out,HPL.out,drop_more HDR.out,by
            rw [take_more hkp,hsame]
            have h0:=HG2.out
            rw [show (c || Option.isSome (none:Option Tm))=c from Bool.or_false c] at h0
            exact h0,HGD3.out,HI4.out,HR4.out,HA4.out,HL4.out⟩
           case measure=>simp [intOf]; omega
         | some y =>
           have hyk:(y.k == 0)=false:=by have:=HKD.out y rfl; simpa using this
           clear HKD
           dsimp only [Option.getD,Tm.val,Tm.vals]
           obtain ⟨wy,hwy⟩:∃ wy,wy=w3.alloc (y.box hy):=⟨_,rfl⟩
           have hby:Below w3.heap.size w3 wy:=hwy ▸ below_one _ _
           have hyb:=hwy ▸ World.alloc_heap_new w3 (y.box hy)
           have HA4:=hid (Lvl.keep hby hA3)
           have HST:=hid (HRY.out.trans (RanS.of_below hby))
           have HR4:=hid (HR3.out.trans (RanS.of_below hby))
           have HI4:=hid (HS.out.keep _ _ _ HIY.out (hby.mono (by omega)))
           have HBY:=hid hby
           have HYB:=hid hyb
           have hzy:=hby.size
           have hlw3:w3.heap.size < wy.heap.size:=(Array.getElem?_eq_some_iff.1 hyb).1
           obtain ⟨y0,y1,y2,y3,y4⟩:=five_cells (show wy.heap[w3.heap.size]?=some (.cells #[.int .u8 y.k,.int .i64 y.n,.string y.s,.slice hy.lo y.ls.length hy.lc,.slice hy.to y.ts.length hy.tc] 25) from hyb)
           clear hA3 hby hyb
           have ew:w3.alloc (.cells #[.int .u8 y.k,.int .i64 y.n,.string y.s,.slice hy.lo y.ls.length hy.lc,.slice hy.to y.ts.length hy.tc] 25)=wy:=hwy.symm
           go_upto_region 10 with fail
           first | rw [ew] | rw [← hwy]
           clear ew hwy
           rcases HL.out with ⟨hc,hv,hps⟩ | ⟨hc,L,SS,cap,hv,hLA,htb,hfi⟩
           ·subst hc hv
            have HALL2:Hid (∀ k (hk:k < ps.length),TCells w b' (off' + (0 + k) * 5) ps[k].1 ps[k].2∧FirmS Q w ps[k].1 ps[k].2):=hid (by rw [hps]; exact HALL.out)
            have hb4:=HR4.out
            have HCL:=hid (Clone_any b' off' t.ts.length h.tc ps wy HPL.out (by omega) (fun k hk=>by
             have h0:=(HALL2.out k hk).1.ranS hb4 hb' hbP'
             rwa [Nat.zero_add] at h0) hn0)
            obtain ⟨c0,c1,c2,c3,c4⟩:=HHD.out.ranS HR4.out hb hbP
            rw [HAO.out] at c4
            clear HL hps hb4
            go_wp2_with fail
            refine HCL.out.mono ?_
            rintro e w5 ⟨L,SS,cap,rfl,hL1,hL2,tb,b5⟩
            have hz5:=b5.size
            have HI5:=hid (HS.out.keep _ _ _ HI4.out (b5.mono (by omega)))
            have HR5:=hid (HR4.out.trans (RanS.of_below b5))
            have HA5:=hid (Lvl.keep b5 HA4.out)
            have hyb:=Lvl.keep b5 HYB.out
            have HB5:=hid b5
            have HTB:=hid tb
            have hfr:=fun o=>tb.free o
            have q0:=(tb.cells k hkp).c0
            have q1:=(tb.cells k hkp).c1
            have q2:=(tb.cells k hkp).c2
            have q3:=(tb.cells k hkp).c3
            have q4:=(tb.cells k hkp).c4
            clear b5 tb y0 y1 y2 y3 y4 c0 c1 c2 c3 c4
            obtain ⟨y0,y1,y2,y3,y4⟩:=five_cells (show w5.heap[w3.heap.size]?=some (.cells #[.int .u8 y.k,.int .i64 y.n,.string y.s,.slice hy.lo y.ls.length hy.lc,.slice hy.to y.ts.length hy.tc] 25) from hyb)
            clear hyb
            go_wp2_with fail
            go_roundw
            case rel =>
             have hro:=putO_ran w5 L (k * 5) (.int .u8 y.k) (.int .i64 y.n) (.string y.s) (.slice hy.lo y.ls.length hy.lc) (.slice hy.to y.ts.length hy.tc)
             have hsp:=RanS.putO HR5.out (by omega:w.heap.size≤L) (k * 5) (.int .u8 y.k) (.int .i64 y.n) (.string y.s) (.slice hy.lo y.ls.length hy.lc) (.slice hy.to y.ts.length hy.tc)
             refine ⟨k + 1,Y1,u' + 1,true,ps.set k (y,hy),by go_num,rfl,by omega,hU.out,by rw [List.length_set]; exact HPL.out,(drop_set _).trans (drop_more HDR.out),by rw [take_set hkp (y,hy)]; exact HG2.out,HGD3.out,HS.out.keep _ _ _ HI5.out (hro.below (by omega) (by omega)),hsp,hro.keep HA5.out (by omega),Or.inr ⟨rfl,L,SS,cap,rfl,by omega,HTB.out.put k hkp (y,hy),?_⟩⟩
             intro p hp
             rcases List.mem_or_eq_of_mem_set hp with hp | rfl
             ·obtain ⟨i,hi,rfl⟩:=List.getElem_of_mem hp
              exact ((HALL2.out i hi).2.less (fun q _ hq=>hq.1)).step (hsp.wide (fun q hq=>⟨HS.out.low q hq,Or.inl (by have:=HPW.out _ hq; omega)⟩))
             ·exact (HFY.out.less (fun q hq1 hq2=>⟨hq2.1,by have:=hq2.2; omega⟩)).step ((RanS.of_below HBY.out).trans ((RanS.of_below HB5.out).trans (RanS.of_ran hro ⟨HBQ.out _ (by omega),Or.inr rfl⟩)))
            case measure=>simp [intOf]; omega
           ·subst hc hv
            have hst2:RanS (fun q=>Q q∧(q≤w.heap.size∨q=L)) wr wy:=HST.out.wide (fun q hq=>⟨HS.out.low q hq,Or.inl (by have:=HPW.out _ hq; omega)⟩)
            have hlL:=htb.lt
            have tb:=htb.ranS HST.out (fun hp=>by have:=HPW.out _ hp; omega)
            have HTB:=hid tb
            have HFI:=hid (fun p hp=>(hfi p hp).step hst2)
            have hfr:=fun o=>tb.free o
            have q0:=(tb.cells k hkp).c0
            have q1:=(tb.cells k hkp).c1
            have q2:=(tb.cells k hkp).c2
            have q3:=(tb.cells k hkp).c3
            have q4:=(tb.cells k hkp).c4
            clear HL htb hfi hst2 tb
            go_wp2_with fail
            go_roundw
            case rel =>
             have hro:=putO_ran wy L (k * 5) (.int .u8 y.k) (.int .i64 y.n) (.string y.s) (.slice hy.lo y.ls.length hy.lc) (.slice hy.to y.ts.length hy.tc)
             have hsp:=RanS.putO HR4.out (by omega:w.heap.size≤L) (k * 5) (.int .u8 y.k) (.int .i64 y.n) (.string y.s) (.slice hy.lo y.ls.length hy.lc) (.slice hy.to y.ts.length hy.tc)
             refine ⟨k + 1,Y1,u' + 1,true,ps.set k (y,hy),by go_num,rfl,by omega,hU.out,by rw [List.length_set]; exact HPL.out,(drop_set _).trans (drop_more HDR.out),by rw [take_set hkp (y,hy)]; exact HG2.out,HGD3.out,HS.out.keep _ _ _ HI4.out (hro.below (by omega) (by omega)),hsp,hro.keep HA4.out (by omega),Or.inr ⟨rfl,L,SS,cap,rfl,by omega,HTB.out.put k hkp (y,hy),?_⟩⟩
             intro p hp
             rcases List.mem_or_eq_of_mem_set hp with hp | rfl
             ·exact (HFI.out p hp).step (RanS.of_ran hro ⟨HBQ.out _ (by omega),Or.inr rfl⟩)
             ·exact (HFY.out.less (fun q hq1 hq2=>⟨hq2.1,by have:=hq2.2; omega⟩)).step ((RanS.of_below HBY.out).trans (RanS.of_ran hro ⟨HBQ.out _ (by omega),Or.inr rfl⟩))
            case measure=>simp [intOf]; omega
        ·have he2:(Y2 != 0)=true:=by simpa using he
         have HE2:=hid (HBAD.out he)
         generalize hyy:Y3.getD zeroT=y at HFY ⊢
         clear hyy HBAD HGO HGD2 HKD
         dsimp only [Tm.val,Tm.vals]
         obtain ⟨wy,hwy⟩:∃ wy,wy=w3.alloc (y.box hy):=⟨_,rfl⟩
         have hby:Below w3.heap.size w3 wy:=hwy ▸ below_one _ _
         have HA4:=hid (Lvl.keep hby hA3)
         have HR4:=hid (HR3.out.trans (RanS.of_below hby))
         have HI4:=hid (HS.out.keep _ _ _ HIY.out (hby.mono (by omega)))
         have hzy:=hby.size
         obtain ⟨a0,a1,a2,a3,a4⟩:=five_cells HA4.out
         obtain ⟨f0,f1,f2,f3,f4⟩:=five_free HA4.out
         clear hA3 hby he
         have ew:w3.alloc (.cells #[.int .u8 y.k,.int .i64 y.n,.string y.s,.slice hy.lo y.ls.length hy.lc,.slice hy.to y.ts.length hy.tc] 25)=wy:=hwy.symm
         go_upto_region 10 with fail
         first | rw [ew] | rw [← hwy]
         clear ew hwy
         go_wp2_with fail
         have h5:=putT_self HA4.out (.int .u8 0) (.int .i64 0) (.string no) (.slice none 0 0) (.slice none 0 0)
         have r5:=putT_ran (wy) w.heap.size (.int .u8 0) (.int .i64 0) (.string no) (.slice none 0 0) (.slice none 0 0)
         have s5:=RanS.put HR4.out (Nat.le_refl w.heap.size) (.int .u8 0) (.int .i64 0) (.string no) (.slice none 0 0) (.slice none 0 0)
         have z5:w.heap.size < (wy).heap.size:=(Array.getElem?_eq_some_iff.1 HA4.out).1
         unfold putT no at h5 r5 s5
         generalize hW:((((((wy).setCell ⟨w.heap.size,0,none⟩ (.int .u8 0)).setCell ⟨w.heap.size,1,none⟩ (.int .i64 0)).setCell ⟨w.heap.size,2,none⟩ (.string ⟨#[]⟩)).setCell ⟨w.heap.size,3,none⟩ (.slice none 0 0)).setCell ⟨w.heap.size,4,none⟩ (.slice none 0 0))=W4 at h5 r5 s5 ⊢
         obtain ⟨g0,g1,g2,g3,g4⟩:=five_cells h5
         clear hW
         exact bodyPost_ret (v:=.tuple #[zeroT.val ⟨none,0,none,0⟩,.int .i64 Y2]) (by simp [results,Tryz.results129,go_sem,g0,g1,g2,g3,g4,zeroT,Tm.val,Tm.vals,Tm.k,Tm.n,Tm.s,Tm.ls,Tm.ts,no]) rfl (HE2.out ▸ ⟨⟨none,0,none,0⟩,rfl,firm_zero,HS.out.keep _ _ _ HI4.out (r5.below hN (by omega)),s5⟩)
     ·have hkn:k=t.ts.length:=by omega
      subst hkn
      have HE:Hid ((st',0,if c=true then some (.mk t.k t.n t.s [] (ps.map (·.1))) else none)=R):=hid (by
       have h0:=HG.out
       rw [List.drop_length,fin_nil,List.take_of_length_le (by rw [HPL.out]; exact Nat.le_refl _)] at h0
       exact h0)
      rcases HL.out with ⟨rfl,rfl,rfl⟩ | ⟨rfl,L,SS,cap,rfl,hLA,htb,hfi⟩
      ·have HE2:Hid ((st',0,none)=R):=hid (by have h0:=HE.out; simpa using h0)
       clear HE HL
       go_wp2_with fail
       have h5:=putT_self HA.out (.int .u8 0) (.int .i64 0) (.string no) (.slice none 0 0) (.slice none 0 0)
       have r5:=putT_ran (wr) w.heap.size (.int .u8 0) (.int .i64 0) (.string no) (.slice none 0 0) (.slice none 0 0)
       have s5:=RanS.put HR.out (Nat.le_refl w.heap.size) (.int .u8 0) (.int .i64 0) (.string no) (.slice none 0 0) (.slice none 0 0)
       have z5:w.heap.size < (wr).heap.size:=(Array.getElem?_eq_some_iff.1 HA.out).1
       unfold putT no at h5 r5 s5
       generalize hW:((((((wr).setCell ⟨w.heap.size,0,none⟩ (.int .u8 0)).setCell ⟨w.heap.size,1,none⟩ (.int .i64 0)).setCell ⟨w.heap.size,2,none⟩ (.string ⟨#[]⟩)).setCell ⟨w.heap.size,3,none⟩ (.slice none 0 0)).setCell ⟨w.heap.size,4,none⟩ (.slice none 0 0))=W4 at h5 r5 s5 ⊢
       obtain ⟨g0,g1,g2,g3,g4⟩:=five_cells h5
       clear hW
       exact bodyPost_ret (v:=.tuple #[zeroT.val ⟨none,0,none,0⟩,.int .i64 0]) (by simp [results,Tryz.results129,go_sem,g0,g1,g2,g3,g4,zeroT,Tm.val,Tm.vals,Tm.k,Tm.n,Tm.s,Tm.ls,Tm.ts,no]) rfl (HE2.out ▸ ⟨⟨none,0,none,0⟩,rfl,firm_zero,HS.out.keep _ _ _ HI.out (r5.below hN (by omega)),s5⟩)
      ·have HE2:Hid ((st',0,some (.mk t.k t.n t.s [] (ps.map (·.1))))=R):=hid (by have h0:=HE.out; simpa using h0)
       have HTB:=hid htb
       have HFI:=hid hfi
       have hlL:=htb.lt
       clear HE HL htb hfi
       have hneAb:w.heap.size ≠ b:=by omega
       go_wp2_with fail
       go_region
       go_wp2_with fail
       have h5:=putT_self HA.out (.int .u8 t.k) (.int .i64 t.n) (.string t.s) (.slice none 0 0) (.slice (some ⟨L,0,none⟩) t.ts.length cap)
       have r5:=putT_ran wr w.heap.size (.int .u8 t.k) (.int .i64 t.n) (.string t.s) (.slice none 0 0) (.slice (some ⟨L,0,none⟩) t.ts.length cap)
       have s5:=RanS.put HR.out (Nat.le_refl w.heap.size) (.int .u8 t.k) (.int .i64 t.n) (.string t.s) (.slice none 0 0) (.slice (some ⟨L,0,none⟩) t.ts.length cap)
       unfold putT at h5 r5 s5
       generalize hW:((((wr.setCell ⟨w.heap.size,0,none⟩ (.int .u8 t.k)).setCell ⟨w.heap.size,1,none⟩ (.int .i64 t.n)).setCell ⟨w.heap.size,2,none⟩ (.string t.s)).setCell ⟨w.heap.size,3,none⟩ (.slice none 0 0)).setCell ⟨w.heap.size,4,none⟩ (.slice (some ⟨L,0,none⟩) t.ts.length cap)=W4 at h5 r5 s5 ⊢
       have hdr:Below W4.heap.size W4 W4.drew:=(Below.refl _ _).drew
       obtain ⟨g0,g1,g2,g3,g4⟩:=five_cells (Lvl.keep hdr h5)
       have r6:RanS (fun q=>Q q∧(q≤w.heap.size∨q=L)) wr W4.drew:=(RanS.of_ran r5 ⟨HBQ.out _ (Nat.le_refl _),Or.inl (Nat.le_refl _)⟩).trans (RanS.of_below hdr)
       have tb6:TBlock W4.drew L SS ps:=TBlock.drew (HTB.out.ran r5 (by omega))
       have hfit:=HIN.out.here.fit
       have hval:(Tm.mk t.k t.n t.s [] (ps.map (·.1))).val ⟨none,0,some ⟨L,0,none⟩,cap⟩=.agg #[.int .u8 t.k,.int .i64 t.n,.string t.s,.slice none 0 0,.slice (some ⟨L,0,none⟩) t.ts.length cap]:=by
        simp [Tm.val,Tm.vals,Tm.k,Tm.n,Tm.s,Tm.ls,Tm.ts,HPL.out]
       clear hW
       refine bodyPost_ret (v:=.tuple #[.agg #[.int .u8 t.k,.int .i64 t.n,.string t.s,.slice none 0 0,.slice (some ⟨L,0,none⟩) t.ts.length cap],.int .i64 0]) (by simp [results,Tryz.results129,go_sem,g0,g1,g2,g3,g4]) rfl (HE2.out ▸ ⟨⟨none,0,some ⟨L,0,none⟩,cap⟩,by rw [← hval]; rfl,?_,HS.out.keep _ _ _ HI.out ((r5.below hN (by omega)).trans (hdr.mono (by have:=r5.size; omega))),s5.trans (RanS.of_below hdr)⟩)
       exact firm_row tb6 (fun hp=>by omega) (fun q hq=>⟨hq.1,Or.inl (by omega)⟩) (fun p hp=>(HFI.out p hp).step r6) hfit.k0 hfit.k1 hfit.n0 hfit.n1 hfit.s (by rw [HPL.out]; omega)
theorem turnedQ_any {σ:Type} {N C:Nat} {Q P:Nat→Prop} {f:FuncId} {lf:Lf σ} {Inv:σ→World→Prop} {Good:σ→Prop} (S:LeafQ Q N P C f lf Inv Good) (t:Tm) (h:Hd) (st:σ) (w:World)
 (hmay:t.may=true) (hg:Good st) (hi:Inv st w) (hin:FirmS Q w t h) (hB:∀ q,w.heap.size≤q→Q q) (hN:N≤w.heap.size) (hPw:∀ q,P q→q < w.heap.size) :
 Calls Tryz.prog 84 #[t.val h,fnv f C] w fun e w'=>∃ h',e=.returned (.tuple #[(tAns t (t.thr lf st 0)).val h',.int .i64 (t.thr lf st 0).2.1])∧FirmS (fun q=>Q q∧q < w.heap.size) w' (tAns t (t.thr lf st 0)) h'∧Inv (t.thr lf st 0).1 w'∧RanS P w w':=by
 have HBQ:=hid hB
 clear hB
 have hAP:¬ P (w.heap.size + 1):=fun hp=>by have:=hPw _ hp; omega
 have hTP:¬ P w.heap.size:=fun hp=>by have:=hPw _ hp; omega
 have HT:=hid (fun (W:World) (hW:Below w.heap.size w W) (hX:W.heap[w.heap.size]?=some (t.box h)) =>
  throughQ_any S t st w.heap.size 0 1 0 W hg (S.keep _ _ _ hi (hW.mono hN)) (OkMay.start hmay) (by omega) (by omega) ⟨hTP,(Array.getElem?_eq_some_iff.1 hX).1,h,Tm.cells hX,hin.step (RanS.of_below hW)⟩ (fun q hq=>HBQ.out q (by have:=hW.size; omega)) (by have:=hW.size; omega) (fun q hq=>by have:=hPw q hq; have:=hW.size; omega))
 have HK:=hid (fun y hy=>Tm.thr_kind (st:=st) (u:=0) S.kind (OkMay.start hmay) (y:=y) hy)
 have HKEEP:=hid S.keep
 have HIN:=hid hin
 have HPW:=hid hPw
 generalize t.thr lf st 0=R at HT HK ⊢
 obtain ⟨R1,R2,R3⟩:=R
 have HB2:=hid (below_two w (t.box h) (.cells #[.int .u8 0,.int .i64 0,.string no,.slice none 0 0,.slice none 0 0] 25))
 have HX0:=hid (new1of2 w (t.box h) (.cells #[.int .u8 0,.int .i64 0,.string no,.slice none 0 0,.slice none 0 0] 25))
 have HA0:=hid (new2 w (t.box h) (.cells #[.int .u8 0,.int .i64 0,.string no,.slice none 0 0,.slice none 0 0] 25))
 delta ThrPostQ at HT
 unfold tAns
 dsimp only at HT HK ⊢
 have HTH:=hid (HT.out _ HB2.out HX0.out)
 clear HT hmay hg hi hin hPw
 by_cases he:R2=0
 ·subst he
  cases R3 with
  | none =>
    dsimp only [Option.getD] at HTH ⊢
    rw [if_pos rfl]
    have hyk:(zeroT.k == 0)=true:=rfl
    generalize zeroT=y at HTH hyk
    unfold Tm.val at HTH ⊢
    dsimp only [Tm.vals] at HTH ⊢
    go_enter Tryz.func84,Tryz.ntmps84
    go_wp2_with fail
    refine HTH.out.mono ?_
    rintro e w3 ⟨hy,rfl,fY,iY,rY⟩
    have hz3:=rY.size
    simp only [World.size_alloc] at hz3
    have hA3:=rY.keep HA0.out hAP
    have hX3:=rY.keep HX0.out hTP
    obtain ⟨wy,hwy⟩:∃ wy,wy=w3.alloc (y.box hy):=⟨_,rfl⟩
    have hby:Below w3.heap.size w3 wy:=hwy ▸ below_one _ _
    have hyb:=hwy ▸ World.alloc_heap_new w3 (y.box hy)
    have hzy:=hby.size
    have HR4:=hid ((RanS.of_below (P:=P) HB2.out).trans (rY.trans (RanS.of_below hby)))
    have HI4:=hid (HKEEP.out _ _ _ iY (hby.mono (by omega)))
    have HA4:=hid (Lvl.keep hby hA3)
    obtain ⟨y0,y1,y2,y3,y4⟩:=five_cells (show wy.heap[w3.heap.size]?=some (.cells #[.int .u8 y.k,.int .i64 y.n,.string y.s,.slice hy.lo y.ls.length hy.lc,.slice hy.to y.ts.length hy.tc] 25) from hyb)
    obtain ⟨a0,a1,a2,a3,a4⟩:=five_cells HA4.out
    obtain ⟨f0,f1,f2,f3,f4⟩:=five_free HA4.out
    obtain ⟨x0,x1,x2,x3,x4⟩:=five_cells (show wy.heap[w.heap.size]?=some (.cells #[.int .u8 t.k,.int .i64 t.n,.string t.s,.slice h.lo t.ls.length h.lc,.slice h.to t.ts.length h.tc] 25) from Lvl.keep hby hX3)
    clear hA3 hX3 fY iY rY hby hyb
    have ew:w3.alloc (.cells #[.int .u8 y.k,.int .i64 y.n,.string y.s,.slice hy.lo y.ls.length hy.lc,.slice hy.to y.ts.length hy.tc] 25)=wy:=hwy.symm
    go_upto_region 2 with fail
    first | rw [ew] | rw [← hwy]
    clear ew hwy
    go_wp2_with fail
    have h5:=putT_self HA4.out (.int .u8 t.k) (.int .i64 t.n) (.string t.s) (.slice h.lo t.ls.length h.lc) (.slice h.to t.ts.length h.tc)
    have r5:=putT_ran wy (w.heap.size + 1) (.int .u8 t.k) (.int .i64 t.n) (.string t.s) (.slice h.lo t.ls.length h.lc) (.slice h.to t.ts.length h.tc)
    have s5:=RanS.put HR4.out (by omega:w.heap.size≤w.heap.size + 1) (.int .u8 t.k) (.int .i64 t.n) (.string t.s) (.slice h.lo t.ls.length h.lc) (.slice h.to t.ts.length h.tc)
    unfold putT at h5 r5 s5
    generalize hW:((((wy.setCell ⟨w.heap.size + 1,0,none⟩ (.int .u8 t.k)).setCell ⟨w.heap.size + 1,1,none⟩ (.int .i64 t.n)).setCell ⟨w.heap.size + 1,2,none⟩ (.string t.s)).setCell ⟨w.heap.size + 1,3,none⟩ (.slice h.lo t.ls.length h.lc)).setCell ⟨w.heap.size + 1,4,none⟩ (.slice h.to t.ts.length h.tc)=W4 at h5 r5 s5 ⊢
    obtain ⟨e0,e1,e2,e3,e4⟩:=five_cells h5
    clear hW
    exact bodyPost_ret (v:=.tuple #[t.val h,.int .i64 0]) (by simp [results,Tryz.results84,go_sem,e0,e1,e2,e3,e4,Tm.val,Tm.vals]) rfl
     ⟨h,rfl,(HIN.out.less (fun q _ hq=>hq.1)).step (s5.wide (fun q hq=>⟨S.low q hq,HPW.out q hq⟩)),HKEEP.out _ _ _ HI4.out (r5.below (by omega) (by omega)),s5⟩
  | some y =>
    dsimp only [Option.getD] at HTH ⊢
    rw [if_pos rfl]
    have hyk:(y.k == 0)=false:=by have:=HK.out y rfl; simpa using this
    unfold Tm.val at HTH ⊢
    dsimp only [Tm.vals] at HTH ⊢
    go_enter Tryz.func84,Tryz.ntmps84
    go_wp2_with fail
    refine HTH.out.mono ?_
    rintro e w3 ⟨hy,rfl,fY,iY,rY⟩
    have hz3:=rY.size
    simp only [World.size_alloc] at hz3
    have hA3:=rY.keep HA0.out hAP
    obtain ⟨wy,hwy⟩:∃ wy,wy=w3.alloc (y.box hy):=⟨_,rfl⟩
    have hby:Below w3.heap.size w3 wy:=hwy ▸ below_one _ _
    have hyb:=hwy ▸ World.alloc_heap_new w3 (y.box hy)
    have hzy:=hby.size
    have HR4:=hid ((RanS.of_below (P:=P) HB2.out).trans (rY.trans (RanS.of_below hby)))
    have HI4:=hid (HKEEP.out _ _ _ iY (hby.mono (by omega)))
    have HA4:=hid (Lvl.keep hby hA3)
    have HF4:=hid (fY.step (RanS.of_below hby))
    obtain ⟨y0,y1,y2,y3,y4⟩:=five_cells (show wy.heap[w3.heap.size]?=some (.cells #[.int .u8 y.k,.int .i64 y.n,.string y.s,.slice hy.lo y.ls.length hy.lc,.slice hy.to y.ts.length hy.tc] 25) from hyb)
    obtain ⟨a0,a1,a2,a3,a4⟩:=five_cells HA4.out
    obtain ⟨f0,f1,f2,f3,f4⟩:=five_free HA4.out
    clear hA3 fY iY rY hby hyb
    have ew:w3.alloc (.cells #[.int .u8 y.k,.int .i64 y.n,.string y.s,.slice hy.lo y.ls.length hy.lc,.slice hy.to y.ts.length hy.tc] 25)=wy:=hwy.symm
    go_upto_region 2 with fail
    first | rw [ew] | rw [← hwy]
    clear ew hwy
    go_wp2_with fail
    have h5:=putT_self HA4.out (.int .u8 y.k) (.int .i64 y.n) (.string y.s) (.slice hy.lo y.ls.length hy.lc) (.slice hy.to y.ts.length hy.tc)
    have r5:=putT_ran wy (w.heap.size + 1) (.int .u8 y.k) (.int .i64 y.n) (.string y.s) (.slice hy.lo y.ls.length hy.lc) (.slice hy.to y.ts.length hy.tc)
    have s5:=RanS.put HR4.out (by omega:w.heap.size≤w.heap.size + 1) (.int .u8 y.k) (.int .i64 y.n) (.string y.s) (.slice hy.lo y.ls.length hy.lc) (.slice hy.to y.ts.length hy.tc)
    unfold putT at h5 r5 s5
    generalize hW:((((wy.setCell ⟨w.heap.size + 1,0,none⟩ (.int .u8 y.k)).setCell ⟨w.heap.size + 1,1,none⟩ (.int .i64 y.n)).setCell ⟨w.heap.size + 1,2,none⟩ (.string y.s)).setCell ⟨w.heap.size + 1,3,none⟩ (.slice hy.lo y.ls.length hy.lc)).setCell ⟨w.heap.size + 1,4,none⟩ (.slice hy.to y.ts.length hy.tc)=W4 at h5 r5 s5 ⊢
    obtain ⟨e0,e1,e2,e3,e4⟩:=five_cells h5
    clear hW
    exact bodyPost_ret (v:=.tuple #[y.val hy,.int .i64 0]) (by simp [results,Tryz.results84,go_sem,e0,e1,e2,e3,e4,Tm.val,Tm.vals]) rfl
     ⟨hy,rfl,(HF4.out.step (RanS.of_ran r5 ⟨HBQ.out _ (by omega),by simp⟩)).less (fun q _ hq=>⟨hq.1,by simp; omega⟩),HKEEP.out _ _ _ HI4.out (r5.below (by omega) (by omega)),s5⟩
 ·rw [if_neg he]
  have he2:(R2 == 0)=false:=by simpa using he
  generalize R3.getD zeroT=y at HTH ⊢
  clear HK he
  unfold Tm.val at HTH ⊢
  dsimp only [Tm.vals] at HTH ⊢
  go_enter Tryz.func84,Tryz.ntmps84
  go_wp2_with fail
  refine HTH.out.mono ?_
  rintro e w3 ⟨hy,rfl,fY,iY,rY⟩
  have hz3:=rY.size
  simp only [World.size_alloc] at hz3
  have hA3:=rY.keep HA0.out hAP
  obtain ⟨wy,hwy⟩:∃ wy,wy=w3.alloc (y.box hy):=⟨_,rfl⟩
  have hby:Below w3.heap.size w3 wy:=hwy ▸ below_one _ _
  have hyb:=hwy ▸ World.alloc_heap_new w3 (y.box hy)
  have hzy:=hby.size
  have HR4:=hid ((RanS.of_below (P:=P) HB2.out).trans (rY.trans (RanS.of_below hby)))
  have HI4:=hid (HKEEP.out _ _ _ iY (hby.mono (by omega)))
  have HA4:=hid (Lvl.keep hby hA3)
  have HF4:=hid (fY.step (RanS.of_below hby))
  obtain ⟨y0,y1,y2,y3,y4⟩:=five_cells (show wy.heap[w3.heap.size]?=some (.cells #[.int .u8 y.k,.int .i64 y.n,.string y.s,.slice hy.lo y.ls.length hy.lc,.slice hy.to y.ts.length hy.tc] 25) from hyb)
  obtain ⟨a0,a1,a2,a3,a4⟩:=five_cells HA4.out
  obtain ⟨f0,f1,f2,f3,f4⟩:=five_free HA4.out
  clear hA3 fY iY rY hby hyb
  have ew:w3.alloc (.cells #[.int .u8 y.k,.int .i64 y.n,.string y.s,.slice hy.lo y.ls.length hy.lc,.slice hy.to y.ts.length hy.tc] 25)=wy:=hwy.symm
  go_upto_region 2 with fail
  first | rw [ew] | rw [← hwy]
  clear ew hwy
  go_wp2_with fail
  have h5:=putT_self HA4.out (.int .u8 y.k) (.int .i64 y.n) (.string y.s) (.slice hy.lo y.ls.length hy.lc) (.slice hy.to y.ts.length hy.tc)
  have r5:=putT_ran wy (w.heap.size + 1) (.int .u8 y.k) (.int .i64 y.n) (.string y.s) (.slice hy.lo y.ls.length hy.lc) (.slice hy.to y.ts.length hy.tc)
  have s5:=RanS.put HR4.out (by omega:w.heap.size≤w.heap.size + 1) (.int .u8 y.k) (.int .i64 y.n) (.string y.s) (.slice hy.lo y.ls.length hy.lc) (.slice hy.to y.ts.length hy.tc)
  unfold putT at h5 r5 s5
  generalize hW:((((wy.setCell ⟨w.heap.size + 1,0,none⟩ (.int .u8 y.k)).setCell ⟨w.heap.size + 1,1,none⟩ (.int .i64 y.n)).setCell ⟨w.heap.size + 1,2,none⟩ (.string y.s)).setCell ⟨w.heap.size + 1,3,none⟩ (.slice hy.lo y.ls.length hy.lc)).setCell ⟨w.heap.size + 1,4,none⟩ (.slice hy.to y.ts.length hy.tc)=W4 at h5 r5 s5 ⊢
  obtain ⟨e0,e1,e2,e3,e4⟩:=five_cells h5
  clear hW
  exact bodyPost_ret (v:=.tuple #[y.val hy,.int .i64 R2]) (by simp [results,Tryz.results84,go_sem,e0,e1,e2,e3,e4,Tm.val,Tm.vals]) rfl
   ⟨hy,rfl,(HF4.out.step (RanS.of_ran r5 ⟨HBQ.out _ (by omega),by simp⟩)).less (fun q _ hq=>⟨hq.1,by simp; omega⟩),HKEEP.out _ _ _ HI4.out (r5.below (by omega) (by omega)),s5⟩
end Go.Proofs.YtmngddomnaaedaaGreat
