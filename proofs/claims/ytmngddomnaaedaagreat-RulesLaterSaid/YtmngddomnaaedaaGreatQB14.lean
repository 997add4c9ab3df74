/-
 subst.Levels: the mathematics,the function.
-/
import Derived.Lib.Hide
import Derived.Test.YtmngddomnaaedaaGreatQB13
import Derived.Test.YtmngddomnaaedaaGreatQB11
import Derived.Test.YtmngddomnaaedaaGreatQB3
import Derived.Test.YtmngddomnaaedaaGreatQB8
open Go.Lib (hid)
set_option maxRecDepth 100000
set_option maxHeartbeats 32000000
namespace Go.Proofs.YtmngddomnaaedaaGreat
open Go.RowKit Go.Shelf Lvl Trm
namespace Trm
theorem instFold_take (L:List Lv):∀ (p:List (Int × Int)) (o:Option Lv),(∀ x ∈ p,x.1.toNat < 4)→p.foldl (instStep (L.take 4)) o=p.foldl (instStep L) o
 | [],o,_=>rfl
 | x :: p,o,h=>by
   rw [List.foldl_cons,List.foldl_cons]
   have h0:=h x (by simp)
   have e:instStep (L.take 4) o x=instStep L o x:=by
    cases o with
    | none=>rfl
    | some o =>
      unfold instStep
      dsimp only
      by_cases hx:x.1.toNat < L.length
      ·rw [dif_pos hx,dif_pos (by rw [List.length_take]; omega),List.getElem_take]
      ·rw [dif_neg hx,dif_neg (by rw [List.length_take]; omega)]
   rw [e]
   exact instFold_take L p _ (fun y hy=>h y (by simp [hy]))
theorem inst_take {L:List Lv} (h:L.all Lv.may=true) (l:Lv):inst l (L.take 4)=inst l L:=by
 have h4:(L.take 4).all Lv.may=true:=by
  rw [List.all_eq_true] at h ⊢
  exact fun x hx=>h x (List.mem_of_mem_take hx)
 have e:instAll (L.take 4) (number l.c) l.ps=instAll L (number l.c) l.ps:=instFold_take L l.ps _ (fun x hx=>by
  obtain ⟨k,hk,rfl,_⟩:=mem_ps_k hx
  simpa using hk)
 unfold inst
 rw [h,h4,e]
theorem inst_all {L:List Lv} {l:Lv} (h:(inst l L).2=0):L.all Lv.may=true:=by
 unfold inst at h
 by_cases hc:l.may=true∧L.all Lv.may=true
 ·exact hc.2
 ·rw [if_neg hc] at h
  cases h
def LGood (L y:List Lv):Prop:=y=L∨(y=L.take 4∧L.all Lv.may=true)
theorem LGood.inst {L y:List Lv} (h:LGood L y) (l:Lv):inst l y=inst l L:=by
 rcases h with rfl | ⟨rfl,ha⟩
 ·rfl
 ·exact inst_take ha l
theorem LGood.next {L y:List Lv} (h:LGood L y) {l:Lv} (ho:(Lvl.inst l y).2=0):LGood L (y.take 4):=by
 rcases h with rfl | ⟨rfl,ha⟩
 ·exact .inr ⟨rfl,inst_all ho⟩
 ·exact .inr ⟨by simp [List.take_take],ha⟩
def fL (L:List Lv) (l:Lv):Lv:=(inst l L).1
def okL (L:List Lv) (l:Lv):Prop:=(inst l L).2=0
theorem levL_spec {L:List Lv}:∀ (ls y:List Lv),LGood L y→((levL ls y).2.1=0 ↔ ∀ l ∈ ls,okL L l)∧((levL ls y).2.1=0→LGood L (levL ls y).1∧(levL ls y).2.2=ls.map (fL L))
 | [],y,h=>by rw [levL]; exact ⟨⟨fun _ l hl=>(by cases hl),fun _=>rfl⟩,fun _=>⟨h,rfl⟩⟩
 | l :: r,y,h=>by
   rw [levL]
   by_cases ho:(inst l y).2=0
   ·rw [if_pos ho]
    have e:=h.inst l
    obtain ⟨h1,h2⟩:=levL_spec r (y.take 4) (h.next ho)
    have ho2:okL L l:=by unfold okL; rw [← e]; exact ho
    refine ⟨⟨fun hh x hx=>?_,fun hh=>h1.2 (fun x hx=>hh x (by simp [hx]))⟩,fun hh=>⟨(h2 hh).1,?_⟩⟩
    ·rcases List.mem_cons.1 hx with rfl | hx
     ·exact ho2
     ·exact h1.1 hh x hx
    ·show (inst l y).1 :: _=_
     rw [(h2 hh).2,e]; rfl
   ·rw [if_neg ho]
    refine ⟨⟨fun hh=>absurd hh ho,fun hh=>?_⟩,fun hh=>absurd hh ho⟩
    have:=hh l (by simp)
    unfold okL at this
    rw [← h.inst l] at this
    exact absurd this ho
mutual
def Tm.lmap (f:Lv→Lv):Tm→Tm
 | .mk k n s ls ts=>.mk k n s (ls.map f) (lmapL f ts)
def lmapL (f:Lv→Lv):List Tm→List Tm
 | []=>[]
 | t :: r=>t.lmap f :: lmapL f r
end
mutual
def Tm.allL (p:Lv→Prop):Tm→Prop
 | .mk _ _ _ ls ts=>(∀ l ∈ ls,p l)∧allLL p ts
def allLL (p:Lv→Prop):List Tm→Prop
 | []=>True
 | t :: r=>t.allL p∧allLL p r
end
theorem node_ls0 {t:Tm} (h:t.node=true) (hl:t.ls ≠ []):t.n=0:=by
 unfold Tm.node at h
 simp only [Bool.and_eq_true] at h
 obtain ⟨⟨_,h5⟩,h6⟩:=h
 have hk:t.k=1∨t.k=3:=by
  by_cases h1:t.k=1
  ·exact .inl h1
  ·by_cases h3:t.k=3
   ·exact .inr h3
   ·rw [if_neg h1,if_neg h3] at h6
    exact absurd (List.eq_nil_of_length_eq_zero (of_decide_eq_true h6)) hl
 rw [if_neg (by omega),if_neg (by omega)] at h5
 exact of_decide_eq_true h5
mutual
theorem thr_lev {L:List Lv}:∀ (t:Tm) (y:List Lv) (d u:Int),OkMay t d→LGood L y→((t.thr lfLev y u).2.1=0 ↔ t.allL (okL L))∧((t.thr lfLev y u).2.1=0→LGood L (t.thr lfLev y u).1∧(t.thr lfLev y u).2.2.getD t=t.lmap (fL L))
 | .mk k n s ls ts,y,d,u,ho,hy=>by
   rw [Tm.thr,Tm.allL,Tm.lmap]
   by_cases hts:ts.isEmpty=true
   ·rw [if_pos hts]
    have h0:ts=[]:=List.isEmpty_iff.1 hts
    subst h0
    obtain ⟨h1,h2⟩:=levL_spec (L:=L) ls y hy
    rw [allLL,lmapL]
    show ((levL ls y).2.1=0 ↔ _)∧((levL ls y).2.1=0→LGood L (levL ls y).1∧(if (levL ls y).2.1=0∧sameL (levL ls y).2.2 ls=false then some (Tm.mk k 0 s (levL ls y).2.2 []) else none).getD (Tm.mk k n s ls [])=_)
    refine ⟨⟨fun h=>⟨h1.1 h,trivial⟩,fun h=>h1.2 h.1⟩,fun h=>⟨(h2 h).1,?_⟩⟩
    have e:=(h2 h).2
    cases hs:sameL (levL ls y).2.2 ls
    ·rw [if_pos ⟨h,rfl⟩,e]
     have hn:n=0:=node_ls0 ho.node.1 (fun hl=>by
      have hl':ls=[]:=hl
      subst hl'
      rw [e] at hs
      have:sameL ([]:List Lv) []=true:=sameL_iff.2 rfl
      rw [List.map_nil,this] at hs
      cases hs)
     rw [hn]; rfl
    ·rw [if_neg (by simp),← e,sameL_iff.1 hs]; rfl
   ·rw [if_neg hts]
    have hls:ls=[]:=node_inner ho.node.1 (show ts ≠ [] by simpa using hts)
    subst hls
    obtain ⟨h1,h2⟩:=thrL_lev (L:=L) k ts y (d + 1) u (fun x hx=>ho.down x hx) hy
    unfold fin
    refine ⟨⟨fun h=>⟨fun l hl=>(by cases hl),h1.1 h⟩,fun h=>h1.2 h.2⟩,fun h=>?_⟩
    have h':(thrL lfLev k ts y u).2.1=0:=h
    obtain ⟨h3,h4,h5⟩:=h2 h'
    refine ⟨h3,?_⟩
    cases hcc:(thrL lfLev k ts y u).2.2.1
    ·rw [if_neg (by simp),← h4,h5 hcc]
     rfl
    ·rw [if_pos (by simp [h']),← h4]
     rfl
theorem thrL_lev {L:List Lv} (k:Int):∀ (ts:List Tm) (y:List Lv) (d u:Int),(∀ x ∈ ts,OkMay x d)→LGood L y→((thrL lfLev k ts y u).2.1=0 ↔ allLL (okL L) ts)∧((thrL lfLev k ts y u).2.1=0→LGood L (thrL lfLev k ts y u).1∧(thrL lfLev k ts y u).2.2.2=lmapL (fL L) ts∧((thrL lfLev k ts y u).2.2.1=false→(thrL lfLev k ts y u).2.2.2=ts))
 | [],y,d,u,_,hy=>by rw [thrL,allLL,lmapL]; exact ⟨⟨fun _=>trivial,fun _=>rfl⟩,fun _=>⟨hy,rfl,fun _=>rfl⟩⟩
 | t :: r,y,d,u,ho,hy=>by
   obtain ⟨h1,h2⟩:=thr_lev (L:=L) t y d (und k r.isEmpty u) (ho t (by simp)) hy
   rw [thrL,allLL,lmapL]
   by_cases he:(t.thr lfLev y (und k r.isEmpty u)).2.1=0
   ·rw [if_pos he]
    obtain ⟨g1,e1⟩:=h2 he
    obtain ⟨h3,h4⟩:=thrL_lev (L:=L) k r (t.thr lfLev y (und k r.isEmpty u)).1 d (und k r.isEmpty u) (fun x hx=>ho x (by simp [hx])) g1
    refine ⟨⟨fun h=>⟨h1.1 he,h3.1 h⟩,fun h=>h3.2 h.2⟩,fun h=>?_⟩
    obtain ⟨h5,h6,h7⟩:=h4 h
    refine ⟨h5,by rw [← h6,← e1],fun hc=>?_⟩
    simp only [Bool.or_eq_false_iff] at hc
    have h8:(t.thr lfLev y (und k r.isEmpty u)).2.2=none:=by simpa using hc.1
    rw [h7 hc.2,h8]; rfl
   ·rw [if_neg he]
    exact ⟨⟨fun h=>absurd h he,fun h=>absurd (h1.2 h.1) he⟩,fun h=>absurd h he⟩
end
noncomputable def levelsAns (t:Tm) (L:List Lv):Tm × Int:=if t.may=false then (zeroT,1) else ansT (tAns t (t.thr lfLev L 0)) (t.thr lfLev L 0).2.1
theorem levels_is {t:Tm} {L:List Lv} (ht:t.may=true) (ha:t.allL (okL L)) {x:Tm} (hx:t.lmap (fL L)=x) (hm:x.may=true):levelsAns t L=(x,0):=by
 obtain ⟨h1,h2⟩:=thr_lev (L:=L) t L 1 0 (OkMay.start ht) (.inl rfl)
 have h0:=h1.2 ha
 unfold levelsAns tAns ansT
 rw [if_neg (by rw [ht]; simp),if_pos h0,(h2 h0).2,if_neg (by simp [h0]),hx,if_pos hm]
end Trm
theorem Trm.leaf_levels {B N K:Nat} (hKN:K < N) (hBK:B≤K) (bo:Option Addr) (bc:Nat) (y0:List Lv) (hy0:y0.length≤1000000) (hbc:y0.length≤bc):Leaf B N (fun q=>q=K) K 85 lfLev (LevInv bo bc y0 B K) (fun _=>True) where
 calls st t b o u w _ hi hn _ _ _ hat hB hN _:=levels1_any hKN hBK bo bc y0 hy0 hbc st t b o u w hi hn hat hB hN
 good _ _ _ _ _ _ _:=trivial
 kind st t u y hn _ h:=by
  unfold lfLev at h
  dsimp only at h
  split at h
  ·cases h
   have:=(node_few hn).2.2.1
   show t.k ≠ 0
   omega
  ·cases h
 keep:=LevInv.keep hKN (by omega)
 low q hq:=by subst hq; exact hBK
 enter args w:=by kernel_rfl
theorem Levels_any (t:Tm) (h:Hd) (L:List Lv) (bo:Option Addr) (bc:Nat) (w:World) (hin:t.In w.heap.size w h) (hr:LRow w bo L) (hlo:Low w.heap.size bo L.length) (hL:L.length≤1000000) (hbc:L.length≤bc) :
 Calls Tryz.prog 50 #[t.val h,.slice bo L.length bc] w fun e w'=>∃ h',e=.returned (.tuple #[(levelsAns t L).1.val h',.int .i64 (levelsAns t L).2])∧(levelsAns t L).1.In w'.heap.size w' h'∧Below w.heap.size w w':=by
 have HM:=hid (fun (W:World) (hW:Below w.heap.size w W)=>PMay_any t h W (Tm.In.mono hW.size _ _ (Tm.In.below hW _ _ hin)))
 have HB0:=hid ((below_two w (t.box h) (.cells #[.slice bo L.length bc] 22)).alloc (by simp; omega) (.cells #[.int .u8 0,.int .i64 0,.string no,.slice none 0 0,.slice none 0 0] 25))
 have HX0:=hid (keepA (new1of2 w (t.box h) (.cells #[.slice bo L.length bc] 22)) (.cells #[.int .u8 0,.int .i64 0,.string no,.slice none 0 0,.slice none 0 0] 25))
 have HK0:=hid (keepA (new2 w (t.box h) (.cells #[.slice bo L.length bc] 22)) (.cells #[.int .u8 0,.int .i64 0,.string no,.slice none 0 0,.slice none 0 0] 25))
 have HA0:=hid (new3 w (t.box h) (.cells #[.slice bo L.length bc] 22) (.cells #[.int .u8 0,.int .i64 0,.string no,.slice none 0 0,.slice none 0 0] 25))
 have HIN:=hid hin
 have HR:=hid hr
 have HLO:=hid hlo
 clear hin hr hlo
 cases hmay:t.may
 ·have hs:levelsAns t L=(zeroT,1):=if_pos hmay
  rw [hs]
  rw [hmay] at HM
  unfold Tm.val at HM ⊢
  dsimp only [Tm.vals] at HM ⊢
  clear hs hmay
  go_enter Tryz.func50,Tryz.ntmps50
  go_wp2_with fail
  refine (HM.out _ HB0.out).mono ?_
  rintro e w1 ⟨rfl,b1⟩
  have hA1:=Lvl.keep b1 HA0.out
  have HB1:=hid (Trm.go HB0.out b1)
  obtain ⟨a0,a1,a2,a3,a4⟩:=five_cells hA1
  obtain ⟨f0,f1,f2,f3,f4⟩:=five_free hA1
  have HA1:=hid hA1
  clear hA1 b1
  go_wp2_with fail
  have h5:=putT_self HA1.out (.int .u8 0) (.int .i64 0) (.string no) (.slice none 0 0) (.slice none 0 0)
  have b5:=putT_below HB1.out (by omega:w.heap.size≤w.heap.size + 1 + 1) (.int .u8 0) (.int .i64 0) (.string no) (.slice none 0 0) (.slice none 0 0)
  unfold putT no at h5 b5
  generalize hW:((((w1.setCell ⟨w.heap.size + 1 + 1,0,none⟩ (.int .u8 0)).setCell ⟨w.heap.size + 1 + 1,1,none⟩ (.int .i64 0)).setCell ⟨w.heap.size + 1 + 1,2,none⟩ (.string ⟨#[]⟩)).setCell ⟨w.heap.size + 1 + 1,3,none⟩ (.slice none 0 0)).setCell ⟨w.heap.size + 1 + 1,4,none⟩ (.slice none 0 0)=W4 at h5 b5 ⊢
  obtain ⟨e0,e1,e2,e3,e4⟩:=five_cells h5
  clear hW
  exact bodyPost_ret (v:=.tuple #[zeroT.val ⟨none,0,none,0⟩,.int .i64 1]) (by simp [results,Tryz.results50,go_sem,e0,e1,e2,e3,e4,zeroT,Tm.val,Tm.vals,Tm.k,Tm.n,Tm.s,Tm.ls,Tm.ts,no]) rfl ⟨⟨none,0,none,0⟩,rfl,leaf_in (by decide) (by decide) (by decide) (by decide) (by decide),b5⟩
 ·obtain ⟨a,ha⟩:∃ a,a=levelsAns t L:=⟨_,rfl⟩
  obtain ⟨y,hy⟩:∃ y,y=tAns t (t.thr lfLev L 0):=⟨_,rfl⟩
  obtain ⟨z,hz⟩:∃ z,z=(t.thr lfLev L 0).2.1:=⟨_,rfl⟩
  have hya:ansT y z=a:=by
   rw [ha,hy,hz]
   unfold levelsAns
   rw [if_neg (by rw [hmay]; simp)]
  rw [← ha]
  rw [hmay] at HM
  have HTU:=hid (fun (W:World) (hW:Below w.heap.size w W) (hK:W.heap[w.heap.size + 1]?=some (.cells #[.slice bo L.length bc] 22))=>show Calls Tryz.prog 84 #[t.val h,fnv 85 (w.heap.size + 1)] W (fun e w'=>∃ h',e=.returned (.tuple #[y.val h',.int .i64 z])∧FirmS (fun q=>w.heap.size≤q∧q < W.heap.size) w' y h'∧RanS (fun q=>q=w.heap.size + 1) W w') from by
   have hKl:=(Array.getElem?_eq_some_iff.1 hK).1
   have:=turned_any (leaf_levels (B:=w.heap.size) (N:=W.heap.size) hKl (by omega) bo bc L hL hbc) t h L W hmay trivial ⟨hK,Or.inl rfl,LRow.low HR.out HLO.out hW,HLO.out⟩ (Tm.In.below hW _ _ HIN.out) hW.size (Nat.le_refl _) (fun q hq=>by subst hq; exact hKl)
   rw [← hy,← hz] at this
   exact this.mono (fun _ _ ⟨h',he,hf,_,hr⟩=>⟨h',he,hf,hr⟩))
  have HAN:=hid (fun (W:World) (h':Hd) (hi:y.In W.heap.size W h')=>by
   have:=sub_answer_any y h' z W hi
   rw [hya] at this
   exact this)
  clear ha hy hz hya hmay
  obtain ⟨a1,a2⟩:=a
  unfold Tm.val at HM HTU HAN ⊢
  dsimp only [Tm.vals] at HM HTU HAN ⊢
  go_enter Tryz.func50,Tryz.ntmps50
  go_wp2_with fail
  refine (HM.out _ HB0.out).mono ?_
  rintro e w1 ⟨rfl,b1⟩
  have HB1:=hid (Trm.go HB0.out b1)
  have HA1:=hid (Lvl.keep b1 HA0.out)
  have hX1:=Lvl.keep b1 HX0.out
  have HK1:=hid (Lvl.keep b1 HK0.out)
  obtain ⟨x0,x1,x2,x3,x4⟩:=five_cells (show w1.heap[w.heap.size]?=some (.cells #[.int .u8 t.k,.int .i64 t.n,.string t.s,.slice h.lo t.ls.length h.lc,.slice h.to t.ts.length h.tc] 25) from hX1)
  have lX:=(Array.getElem?_eq_some_iff.1 hX1).1
  clear b1 hX1
  go_wp2_with fail
  refine (HTU.out _ HB1.out HK1.out).mono ?_
  rintro e wt ⟨ht,rfl,iT,rT⟩
  have HBt:=hid ((HB1.out).trans (rT.below (fun q hq=>by subst hq; omega) HB1.out.size))
  have HAt:=hid (rT.keep HA1.out (by omega))
  have HIt:=hid iT
  have hlw1:=(Array.getElem?_eq_some_iff.1 HA1.out).1
  clear iT rT x0 x1 x2 x3 x4 lX
  go_wp2_with fail
  refine (HAN.out _ _ HIt.out.here).mono ?_
  rintro e wa ⟨ha,rfl,iA,ba⟩
  have HBa:=hid (Trm.go HBt.out ba)
  have hAa:=Lvl.keep ba HAt.out
  obtain ⟨q0,q1,q2,q3,q4⟩:=five_cells hAa
  obtain ⟨f0,f1,f2,f3,f4⟩:=five_free hAa
  have HAa:=hid hAa
  have HIa:=hid (iA _ HIt.out)
  clear ba iA hAa
  go_wp2_with fail
  have h5:=putT_self HAa.out (.int .u8 a1.k) (.int .i64 a1.n) (.string a1.s) (.slice ha.lo a1.ls.length ha.lc) (.slice ha.to a1.ts.length ha.tc)
  have b5:=putT_below HBa.out (by omega:w.heap.size≤w.heap.size + 1 + 1) (.int .u8 a1.k) (.int .i64 a1.n) (.string a1.s) (.slice ha.lo a1.ls.length ha.lc) (.slice ha.to a1.ts.length ha.tc)
  have r5:=putT_ran wa (w.heap.size + 1 + 1) (.int .u8 a1.k) (.int .i64 a1.n) (.string a1.s) (.slice ha.lo a1.ls.length ha.lc) (.slice ha.to a1.ts.length ha.tc)
  unfold putT at h5 b5 r5
  generalize hW:((((wa.setCell ⟨w.heap.size + 1 + 1,0,none⟩ (.int .u8 a1.k)).setCell ⟨w.heap.size + 1 + 1,1,none⟩ (.int .i64 a1.n)).setCell ⟨w.heap.size + 1 + 1,2,none⟩ (.string a1.s)).setCell ⟨w.heap.size + 1 + 1,3,none⟩ (.slice ha.lo a1.ls.length ha.lc)).setCell ⟨w.heap.size + 1 + 1,4,none⟩ (.slice ha.to a1.ts.length ha.tc)=W4 at h5 b5 r5 ⊢
  obtain ⟨e0,e1,e2,e3,e4⟩:=five_cells h5
  clear hW
  refine bodyPost_ret (v:=.tuple #[a1.val ha,.int .i64 a2]) (by simp [results,Tryz.results50,go_sem,e0,e1,e2,e3,e4,Tm.val,Tm.vals]) rfl ⟨ha,rfl,?_,b5⟩
  exact (HIa.out.step (RanS.of_ran r5 ⟨by omega,hlw1⟩)).here
end Go.Proofs.YtmngddomnaaedaaGreat
namespace Go.Proofs.YtmngddomnaaedaaGreat
open Go.RowKit Go.Shelf Lvl
theorem zero_any (w:World):Calls Tryz.prog 192 #[] w fun e w'=>e=.returned (number 0).val∧Below w.heap.size w w':=by
 have HZ:=hid (World.alloc_heap_new w zero.box)
 go_enter Tryz.func192,Tryz.ntmps192
 go_wp2_with fail
 refine (number_any _ _).mono ?_
 rintro e w1 ⟨rfl,b1⟩
 have HR:=hid (keep b1 HZ.out)
 have B1:=hid ((below_one w zero.box).trans (b1.mono (by simp)))
 obtain ⟨d0,d1,d2,d3,d4⟩:=Lv.cells HR.out
 obtain ⟨f0,f1,f2,f3,f4⟩:=Lv.frees HR.out
 clear b1
 dsimp only [number,Lv.val]
 go_wp2_with fail
 have h5:=put5_self HR.out (number 0)
 have b5:=put5_below B1.out (B:=w.heap.size) (by omega) (number 0)
 generalize hW:(((((w1.setCell ⟨w.heap.size,0,none⟩ (.int .i64 0)).setCell ⟨w.heap.size,1,none⟩ (.int .i64 (-1))).setCell ⟨w.heap.size,2,none⟩ (.int .i64 (-1))).setCell ⟨w.heap.size,3,none⟩ (.int .i64 (-1))).setCell ⟨w.heap.size,4,none⟩ (.int .i64 (-1)))=W4
 rw [show put5 w1 (w.heap.size) (number 0)=W4 from hW] at h5 b5
 obtain ⟨e0,e1,e2,e3,e4⟩:=Lv.cells h5
 exact bodyPost_ret (v:=.agg #[.int .i64 0,.int .i64 (-1),.int .i64 (-1),.int .i64 (-1),.int .i64 (-1)]) (by simp [results,Tryz.results192,go_sem,e0,e1,e2,e3,e4,number]) rfl ⟨rfl,b5⟩
end Go.Proofs.YtmngddomnaaedaaGreat
namespace Go.Proofs.YtmngddomnaaedaaGreat
open Go.RowKit Go.Shelf Lvl
theorem param_no (i:Int) (w:World) (h:¬ (0≤i∧i < 4)) :
 Calls Tryz.prog 173 #[.int .i64 i] w fun e w'=>e=.returned (.tuple #[zero.val,.int .i64 1])∧Below w.heap.size w w':=by
 have h':i < 0∨(0≤i∧4≤i):=by omega
 clear h
 rcases h' with h | ⟨h0,h⟩
 all_goals
  go_enter Tryz.func173,Tryz.ntmps173
  go_wp2_with fail
  exact bodyPost_ret (v:=.tuple #[.agg #[.int .i64 0,.int .i64 0,.int .i64 0,.int .i64 0,.int .i64 0],.int .i64 1]) (by simp [results,Tryz.results173,go_sem]) rfl ⟨rfl,below_one _ _⟩
theorem param0 (w:World) :
 Calls Tryz.prog 173 #[.int .i64 0] w fun e w'=>e=.returned (.tuple #[.agg #[.int .i64 0,.int .i64 0,.int .i64 (-1),.int .i64 (-1),.int .i64 (-1)],.int .i64 0])∧Below w.heap.size w w':=by
 have HZ:=hid (World.alloc_heap_new w zero.box)
 go_enter Tryz.func173,Tryz.ntmps173
 go_wp2_with fail
 refine (zero_any _).mono ?_
 rintro e w1 ⟨rfl,b1⟩
 have HR:=hid (keep b1 HZ.out)
 have B1:=hid ((below_one w zero.box).trans (b1.mono (by simp)))
 obtain ⟨d0,d1,d2,d3,d4⟩:=Lv.cells HR.out
 obtain ⟨f0,f1,f2,f3,f4⟩:=Lv.frees HR.out
 have hz0:w.heap.size < w1.heap.size:=by have:=b1.size; simp at this; omega
 clear b1
 dsimp only [number,Lv.val]
 go_wp2_with fail
 have h5:=keepA (put5_self HR.out ⟨0,0,-1,-1,-1⟩) (Lv.box ⟨0,0,-1,-1,-1⟩)
 have b5:=(put5_below B1.out (B:=w.heap.size) (Nat.le_refl _) ⟨0,0,-1,-1,-1⟩).alloc (by simp [put5]; omega) (Lv.box ⟨0,0,-1,-1,-1⟩)
 generalize hW:(((((w1.setCell ⟨w.heap.size,0,none⟩ (.int .i64 0)).setCell ⟨w.heap.size,1,none⟩ (.int .i64 0)).setCell ⟨w.heap.size,2,none⟩ (.int .i64 (-1))).setCell ⟨w.heap.size,3,none⟩ (.int .i64 (-1))).setCell ⟨w.heap.size,4,none⟩ (.int .i64 (-1))).alloc (.cells #[.int .i64 0,.int .i64 0,.int .i64 (-1),.int .i64 (-1),.int .i64 (-1)] 35)=W4
 rw [show (put5 w1 w.heap.size ⟨0,0,-1,-1,-1⟩).alloc (Lv.box ⟨0,0,-1,-1,-1⟩)=W4 from hW] at h5 b5
 obtain ⟨e0,e1,e2,e3,e4⟩:=Lv.cells h5
 exact bodyPost_ret (v:=.tuple #[.agg #[.int .i64 0,.int .i64 0,.int .i64 (-1),.int .i64 (-1),.int .i64 (-1)],.int .i64 0]) (by simp [results,Tryz.results173,go_sem,e0,e1,e2,e3,e4]) rfl ⟨rfl,b5⟩
theorem param1 (w:World) :
 Calls Tryz.prog 173 #[.int .i64 1] w fun e w'=>e=.returned (.tuple #[.agg #[.int .i64 0,.int .i64 (-1),.int .i64 0,.int .i64 (-1),.int .i64 (-1)],.int .i64 0])∧Below w.heap.size w w':=by
 have HZ:=hid (World.alloc_heap_new w zero.box)
 go_enter Tryz.func173,Tryz.ntmps173
 go_wp2_with fail
 refine (zero_any _).mono ?_
 rintro e w1 ⟨rfl,b1⟩
 have HR:=hid (keep b1 HZ.out)
 have B1:=hid ((below_one w zero.box).trans (b1.mono (by simp)))
 obtain ⟨d0,d1,d2,d3,d4⟩:=Lv.cells HR.out
 obtain ⟨f0,f1,f2,f3,f4⟩:=Lv.frees HR.out
 have hz0:w.heap.size < w1.heap.size:=by have:=b1.size; simp at this; omega
 clear b1
 dsimp only [number,Lv.val]
 go_wp2_with fail
 have h5:=keepA (put5_self HR.out ⟨0,-1,0,-1,-1⟩) (Lv.box ⟨0,-1,0,-1,-1⟩)
 have b5:=(put5_below B1.out (B:=w.heap.size) (Nat.le_refl _) ⟨0,-1,0,-1,-1⟩).alloc (by simp [put5]; omega) (Lv.box ⟨0,-1,0,-1,-1⟩)
 generalize hW:(((((w1.setCell ⟨w.heap.size,0,none⟩ (.int .i64 0)).setCell ⟨w.heap.size,1,none⟩ (.int .i64 (-1))).setCell ⟨w.heap.size,2,none⟩ (.int .i64 0)).setCell ⟨w.heap.size,3,none⟩ (.int .i64 (-1))).setCell ⟨w.heap.size,4,none⟩ (.int .i64 (-1))).alloc (.cells #[.int .i64 0,.int .i64 (-1),.int .i64 0,.int .i64 (-1),.int .i64 (-1)] 35)=W4
 rw [show (put5 w1 w.heap.size ⟨0,-1,0,-1,-1⟩).alloc (Lv.box ⟨0,-1,0,-1,-1⟩)=W4 from hW] at h5 b5
 obtain ⟨e0,e1,e2,e3,e4⟩:=Lv.cells h5
 exact bodyPost_ret (v:=.tuple #[.agg #[.int .i64 0,.int .i64 (-1),.int .i64 0,.int .i64 (-1),.int .i64 (-1)],.int .i64 0]) (by simp [results,Tryz.results173,go_sem,e0,e1,e2,e3,e4]) rfl ⟨rfl,b5⟩
theorem param2 (w:World) :
 Calls Tryz.prog 173 #[.int .i64 2] w fun e w'=>e=.returned (.tuple #[.agg #[.int .i64 0,.int .i64 (-1),.int .i64 (-1),.int .i64 0,.int .i64 (-1)],.int .i64 0])∧Below w.heap.size w w':=by
 have HZ:=hid (World.alloc_heap_new w zero.box)
 go_enter Tryz.func173,Tryz.ntmps173
 go_wp2_with fail
 refine (zero_any _).mono ?_
 rintro e w1 ⟨rfl,b1⟩
 have HR:=hid (keep b1 HZ.out)
 have B1:=hid ((below_one w zero.box).trans (b1.mono (by simp)))
 obtain ⟨d0,d1,d2,d3,d4⟩:=Lv.cells HR.out
 obtain ⟨f0,f1,f2,f3,f4⟩:=Lv.frees HR.out
 have hz0:w.heap.size < w1.heap.size:=by have:=b1.size; simp at this; omega
 clear b1
 dsimp only [number,Lv.val]
 go_wp2_with fail
 have h5:=keepA (put5_self HR.out ⟨0,-1,-1,0,-1⟩) (Lv.box ⟨0,-1,-1,0,-1⟩)
 have b5:=(put5_below B1.out (B:=w.heap.size) (Nat.le_refl _) ⟨0,-1,-1,0,-1⟩).alloc (by simp [put5]; omega) (Lv.box ⟨0,-1,-1,0,-1⟩)
 generalize hW:(((((w1.setCell ⟨w.heap.size,0,none⟩ (.int .i64 0)).setCell ⟨w.heap.size,1,none⟩ (.int .i64 (-1))).setCell ⟨w.heap.size,2,none⟩ (.int .i64 (-1))).setCell ⟨w.heap.size,3,none⟩ (.int .i64 0)).setCell ⟨w.heap.size,4,none⟩ (.int .i64 (-1))).alloc (.cells #[.int .i64 0,.int .i64 (-1),.int .i64 (-1),.int .i64 0,.int .i64 (-1)] 35)=W4
 rw [show (put5 w1 w.heap.size ⟨0,-1,-1,0,-1⟩).alloc (Lv.box ⟨0,-1,-1,0,-1⟩)=W4 from hW] at h5 b5
 obtain ⟨e0,e1,e2,e3,e4⟩:=Lv.cells h5
 exact bodyPost_ret (v:=.tuple #[.agg #[.int .i64 0,.int .i64 (-1),.int .i64 (-1),.int .i64 0,.int .i64 (-1)],.int .i64 0]) (by simp [results,Tryz.results173,go_sem,e0,e1,e2,e3,e4]) rfl ⟨rfl,b5⟩
theorem param3 (w:World) :
 Calls Tryz.prog 173 #[.int .i64 3] w fun e w'=>e=.returned (.tuple #[.agg #[.int .i64 0,.int .i64 (-1),.int .i64 (-1),.int .i64 (-1),.int .i64 0],.int .i64 0])∧Below w.heap.size w w':=by
 have HZ:=hid (World.alloc_heap_new w zero.box)
 go_enter Tryz.func173,Tryz.ntmps173
 go_wp2_with fail
 refine (zero_any _).mono ?_
 rintro e w1 ⟨rfl,b1⟩
 have HR:=hid (keep b1 HZ.out)
 have B1:=hid ((below_one w zero.box).trans (b1.mono (by simp)))
 obtain ⟨d0,d1,d2,d3,d4⟩:=Lv.cells HR.out
 obtain ⟨f0,f1,f2,f3,f4⟩:=Lv.frees HR.out
 have hz0:w.heap.size < w1.heap.size:=by have:=b1.size; simp at this; omega
 clear b1
 dsimp only [number,Lv.val]
 go_wp2_with fail
 have h5:=keepA (put5_self HR.out ⟨0,-1,-1,-1,0⟩) (Lv.box ⟨0,-1,-1,-1,0⟩)
 have b5:=(put5_below B1.out (B:=w.heap.size) (Nat.le_refl _) ⟨0,-1,-1,-1,0⟩).alloc (by simp [put5]; omega) (Lv.box ⟨0,-1,-1,-1,0⟩)
 generalize hW:(((((w1.setCell ⟨w.heap.size,0,none⟩ (.int .i64 0)).setCell ⟨w.heap.size,1,none⟩ (.int .i64 (-1))).setCell ⟨w.heap.size,2,none⟩ (.int .i64 (-1))).setCell ⟨w.heap.size,3,none⟩ (.int .i64 (-1))).setCell ⟨w.heap.size,4,none⟩ (.int .i64 0)).alloc (.cells #[.int .i64 0,.int .i64 (-1),.int .i64 (-1),.int .i64 (-1),.int .i64 0] 35)=W4
 rw [show (put5 w1 w.heap.size ⟨0,-1,-1,-1,0⟩).alloc (Lv.box ⟨0,-1,-1,-1,0⟩)=W4 from hW] at h5 b5
 obtain ⟨e0,e1,e2,e3,e4⟩:=Lv.cells h5
 exact bodyPost_ret (v:=.tuple #[.agg #[.int .i64 0,.int .i64 (-1),.int .i64 (-1),.int .i64 (-1),.int .i64 0],.int .i64 0]) (by simp [results,Tryz.results173,go_sem,e0,e1,e2,e3,e4]) rfl ⟨rfl,b5⟩
theorem param_any (i:Int) (w:World) :
 Calls Tryz.prog 173 #[.int .i64 i] w fun e w'=>e=.returned (.tuple #[(param i).1.val,.int .i64 (param i).2])∧Below w.heap.size w w':=by
 unfold param
 by_cases h:0≤i∧i < 4
 ·rw [if_pos h]
  have hk:i=0∨i=1∨i=2∨i=3:=by omega
  rcases hk with rfl | rfl | rfl | rfl
  ·exact param0 w
  ·exact param1 w
  ·exact param2 w
  ·exact param3 w
 ·rw [if_neg h]
  exact param_no i w h
end Go.Proofs.YtmngddomnaaedaaGreat
namespace Go.Proofs.YtmngddomnaaedaaGreat
open Go.RowKit Go.Shelf Lvl Trm Env
namespace Env
def parL (n:Nat):List Lv:=(List.range n).map fun i:Nat=>(param (i:Int)).1
theorem parL_len (n:Nat):(parL n).length=n:=by simp [parL]
theorem parL_succ (n:Nat):parL (n + 1)=parL n ++ [(param (n:Int)).1]:=by simp [parL,List.range_succ]
def ParPost (n:Nat) (w:World) (e:Ending) (w':World):Prop:=∃ g,e=.returned (.slice (some ⟨g,0,none⟩) n n)∧LRow w' (some ⟨g,0,none⟩) (parL n)∧w.heap.size≤g∧g < w'.heap.size∧Below w.heap.size w w'
def ParRel (w:World) (n:Nat) (i:Value) (wr:World):Prop:=∃ k:Nat,i=.int .i64 k∧k≤n∧LBlk wr w.heap.size n (parL k)∧Below w.heap.size w wr
end Env
theorem envParams_any (n:Nat) (hn:n≤4) (w:World):Calls Tryz.prog 142 #[.int .i64 n] w (ParPost n w):=by
 have hmk:=fun W=>make_levels n hn W
 have HN:=hid hn
 have H0:Hid (ParRel w n (.int .i64 (0:Nat)) (w.alloc (zeros n))):=hid ⟨0,rfl,by omega,LBlk.made w n,below_one _ _⟩
 clear hn
 go_enter Tryz.func142,Tryz.ntmps142
 go_wp2_with fail
 go_loopw [9] (fun i wr=>ParRel w n i wr) (fun i _=>n - (intOf i).toNat)
 case atStart=>exact H0.out
 case round =>
  obtain ⟨k,rfl,hk,hblk,hbel⟩:=hrel
  have HBLK:=hid hblk
  have HBEL:=hid hbel
  clear hblk hbel H0 hmk
  by_cases hlt:k < n
  ·have HLT:=hid hlt
   have HP:=hid (param_any (k:Int) wr)
   have HSU:=hid (parL_succ k)
   obtain ⟨x,hx⟩:∃ x,x=(param (k:Int)).1:=⟨_,rfl⟩
   obtain ⟨q,hq⟩:∃ q,q=(param (k:Int)).2:=⟨_,rfl⟩
   rw [← hx,← hq] at HP
   rw [← hx] at HSU
   unfold Lv.val at HP
   clear hx hq
   go_wp2_with fail
   refine HP.out.mono ?_
   rintro e w2 ⟨rfl,b2⟩
   have HB2:=hid b2
   have hL2:=HBLK.out.of_block (b2.block _ HBLK.out.lt)
   have HL2:=hid hL2
   have hl5:k * 5 + 4 < n * 5:=by omega
   obtain ⟨v0,g0⟩:=hL2.has (i:=k * 5) (by omega)
   obtain ⟨v1,g1⟩:=hL2.has (i:=k * 5 + 1) (by omega)
   obtain ⟨v2,g2⟩:=hL2.has (i:=k * 5 + 2) (by omega)
   obtain ⟨v3,g3⟩:=hL2.has (i:=k * 5 + 3) (by omega)
   obtain ⟨v4,g4⟩:=hL2.has (i:=k * 5 + 4) (by omega)
   have f0:=hL2.free (k * 5)
   have f1:=hL2.free (k * 5 + 1)
   have f2:=hL2.free (k * 5 + 2)
   have f3:=hL2.free (k * 5 + 3)
   have f4:=hL2.free (k * 5 + 4)
   have hput:=hL2.put (by rw [parL_len]; exact hlt) x
   rw [parL_len,← HSU.out] at hput
   have hran:=RanS.of_ran (P:=fun q=>q=w.heap.size) (putO_ran w2 w.heap.size (k * 5) (.int .i64 x.c) (.int .i64 x.p0) (.int .i64 x.p1) (.int .i64 x.p2) (.int .i64 x.p3)) rfl
   have hbw:Below w.heap.size w w2:=HBEL.out.trans (b2.mono HBEL.out.size)
   have hbe:=hbw.trans (hran.below (fun q e=>by omega) hbw.size)
   unfold putO at hbe
   have HNX:Hid (∀ z:Int,z=(k:Int) + 1→ParRel w n (.int .i64 z) _):=hid fun z hz=>⟨k + 1,by rw [hz]; rfl,HLT.out,hput,hbe⟩
   have hwk:wrap64 ((k:Int) + 1)=(k:Int) + 1:=IntWalk.wrap64_in _ (by have:=HN.out; omega)
   clear b2 hL2 hput hran hbw hbe hl5
   go_wp2_with fail
   go_roundw
   case rel=>exact HNX.out _ hwk
   case measure=>exact less_step hwk HLT.out
  ·have hke:k=n:=by omega
   subst hke
   have HPO:Hid (ParPost k w (.returned (.slice (some ⟨w.heap.size,0,none⟩) k k)) wr):=hid ⟨_,rfl,HBLK.out.row,Nat.le_refl _,HBLK.out.lt,HBEL.out⟩
   go_wp2_with fail
   go_ret
   exact HPO.out
namespace Env
noncomputable def openE (t:Tm) (n:Nat):Int:=if t.may=true∧t.free≤0 then (levelsAns t (parL n)).2 else 7
end Env
theorem open_any (t:Tm) (h:Hd) (n:Nat) (bo:Option Addr) (bc:Nat) (w:World) (hin:t.In w.heap.size w h) (hr:LRow w bo (parL n)) (hlo:Low w.heap.size bo n) (hbc:n≤bc) (hn:n≤4) :
 Calls Tryz.prog 145 #[t.val h,.slice bo n bc] w fun e w'=>e=.returned (.int .i64 (openE t n))∧Below w.heap.size w w':=by
 obtain ⟨G,hG⟩:∃ G,G=openE t n:=⟨_,rfl⟩
 rw [← hG]
 have HG1:=hid (show t.may=true→t.free≤0→(levelsAns t (parL n)).2=G from fun h1 h2=>by rw [hG,openE,if_pos ⟨h1,h2⟩])
 have HG2:=hid (show ¬ (t.may=true∧t.free≤0)→7=G from fun h1=>by rw [hG,openE,if_neg h1])
 obtain ⟨WA,hWA⟩:∃ WA,WA=w.alloc (t.box h):=⟨_,rfl⟩
 have HBA:=hid (show Below w.heap.size w WA from hWA ▸ below_one _ _)
 have HBX:=hid (show WA.heap[w.heap.size]?=some (t.box h) from hWA ▸ World.alloc_heap_new w _)
 have HM:=hid (PMay_any t h WA (carry hin HBA.out))
 have HF:=hid (fun (W:World) (hW:Below WA.heap.size WA W)=>PFree_any t h W (carry (carry hin HBA.out) hW))
 have HL:=hid (fun (W:World) (hW:Below WA.heap.size WA W)=>(show Calls Tryz.prog 50 #[t.val h,.slice bo n bc] W fun e w'=>∃ h',e=.returned (.tuple #[(levelsAns t (parL n)).1.val h',.int .i64 (levelsAns t (parL n)).2])∧(levelsAns t (parL n)).1.In w'.heap.size w' h'∧Below W.heap.size W w' from by
  have hb:Below w.heap.size w W:=Trm.go HBA.out hW
  have h1:=Levels_any t h (parL n) bo bc W (carry hin hb) (hr.below hb) (by rw [parL_len]; exact Low.mono hlo hb.size) (by rw [parL_len]; omega) (by rw [parL_len]; exact hbc)
  rw [parL_len] at h1
  exact h1))
 obtain ⟨y,hy⟩:∃ y,y=(levelsAns t (parL n)).1:=⟨_,rfl⟩
 obtain ⟨q,hq⟩:∃ q,q=(levelsAns t (parL n)).2:=⟨_,rfl⟩
 rw [← hy,← hq] at HL
 rw [← hq] at HG1
 obtain ⟨F,hF⟩:∃ F,F=t.free:=⟨_,rfl⟩
 rw [← hF] at HG1 HG2 HF
 clear hy hq hF hG hin hr hlo hbc hn
 unfold Tm.val Tm.vals at *
 go_enter Tryz.func145,Tryz.ntmps145
 unfold Tm.box Tm.vals at hWA
 go_upto_region 1 with fail
 rw [← hWA]
 clear hWA
 obtain ⟨x0,x1,x2,x3,x4⟩:=Tm.cells HBX.out
 go_wp2_with fail
 refine HM.out.mono ?_
 rintro e w1 ⟨rfl,b1⟩
 have H1:=hid b1
 clear b1 HM x0 x1 x2 x3 x4
 cases hm:t.may
 ·have HE:=hid (HG2.out (fun hh=>by rw [hm] at hh; cases hh.1))
  have HB:=hid (Trm.go HBA.out H1.out)
  clear hm
  go_wp2_with fail
  go_ret
  exact ⟨by rw [← HE.out]; rfl,HB.out⟩
 ·have HMM:=hid hm
  clear hm
  obtain ⟨x0,x1,x2,x3,x4⟩:=Tm.cells (Lvl.keep H1.out HBX.out)
  go_wp2_with fail
  refine (HF.out _ H1.out).mono ?_
  rintro e w2 ⟨rfl,b2⟩
  have H2:=hid (Trm.go H1.out b2)
  clear b2 x0 x1 x2 x3 x4
  by_cases hf:0 < F
  ·have HE:=hid (HG2.out (fun hh=>by have:=hh.2; omega))
   have HB:=hid (Trm.go HBA.out H2.out)
   go_wp2_with fail
   go_ret
   exact ⟨by rw [← HE.out]; rfl,HB.out⟩
  ·have HE:=hid (HG1.out HMM.out (by omega))
   have hf2:F≤0:=by omega
   obtain ⟨x0,x1,x2,x3,x4⟩:=Tm.cells (Lvl.keep H2.out HBX.out)
   go_wp2_with fail
   refine (HL.out _ H2.out).mono ?_
   rintro e w3 ⟨h',rfl,_,b3⟩
   have HB:=hid (Trm.go (Trm.go HBA.out (Trm.go H2.out b3)) (below_one w3 (.cells (y.vals h') 25)))
   unfold Tm.vals at HB
   clear b3 x0 x1 x2 x3 x4
   go_wp2_with fail
   go_ret
   exact ⟨by rw [← HE.out]; rfl,HB.out⟩
end Go.Proofs.YtmngddomnaaedaaGreat
