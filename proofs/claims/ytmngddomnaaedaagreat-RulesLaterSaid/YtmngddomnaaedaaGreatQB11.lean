/-
 subst.turned,answer,Lift.
-/
import Derived.Lib.Hide
import Derived.Test.YtmngddomnaaedaaGreatQB9
import Derived.Test.YtmngddomnaaedaaGreatQB10
import Derived.Test.YtmngddomnaaedaaGreatQB7
import Derived.Test.YtmngddomnaaedaaGreatQB4
import Derived.Deep.RegionHeld3
import Derived.Test.YtmngddomnaaedaaGreatQB5
open Go.Lib (hid)
set_option maxRecDepth 100000
set_option maxHeartbeats 32000000
namespace Go.Proofs.YtmngddomnaaedaaGreat
open Go.RowKit Go.Shelf Lvl Trm
namespace Trm
def tAns {σ:Type} (t:Tm) (R:σ × Int × Option Tm):Tm:=if R.2.1=0 then R.2.2.getD t else R.2.2.getD zeroT
def ansT (t:Tm) (e:Int):Tm × Int:=if e ≠ 0 then (zeroT,e) else if t.may=true then (t,0) else (zeroT,4)
end Trm
theorem turned_any {σ:Type} {B N C:Nat} {P:Nat→Prop} {f:FuncId} {lf:Lf σ} {Inv:σ→World→Prop} {Good:σ→Prop} (S:Leaf B N P C f lf Inv Good) (t:Tm) (h:Hd) (st:σ) (w:World)
 (hmay:t.may=true) (hg:Good st) (hi:Inv st w) (hin:t.In B w h) (hB:B≤w.heap.size) (hN:N≤w.heap.size) (hPw:∀ q,P q→q < w.heap.size) :
 Calls Tryz.prog 84 #[t.val h,fnv f C] w fun e w'=>∃ h',e=.returned (.tuple #[(tAns t (t.thr lf st 0)).val h',.int .i64 (t.thr lf st 0).2.1])∧FirmS (fun q=>B≤q∧q < w.heap.size) w' (tAns t (t.thr lf st 0)) h'∧Inv (t.thr lf st 0).1 w'∧RanS P w w':=by
 have hAP:¬ P (w.heap.size + 1):=fun hp=>by have:=hPw _ hp; omega
 have hTP:¬ P w.heap.size:=fun hp=>by have:=hPw _ hp; omega
 have HT:=hid (fun (W:World) (hW:Below w.heap.size w W) (hX:W.heap[w.heap.size]?=some (t.box h)) =>
  through_any S t st w.heap.size 0 1 0 W hg (S.keep _ _ _ hi (hW.mono hN)) (OkMay.start hmay) (by omega) (by omega) ⟨hTP,(Array.getElem?_eq_some_iff.1 hX).1,h,Tm.cells hX,Tm.In.below (hW.mono hB) _ _ hin⟩ (by have:=hW.size; omega) (by have:=hW.size; omega) (fun q hq=>by have:=hPw q hq; have:=hW.size; omega))
 have HK:=hid (fun y hy=>Tm.thr_kind (st:=st) (u:=0) S.kind (OkMay.start hmay) (y:=y) hy)
 have HKEEP:=hid S.keep
 have HIN:=hid hin
 have HPW:=hid hPw
 generalize t.thr lf st 0=R at HT HK ⊢
 obtain ⟨R1,R2,R3⟩:=R
 have HB2:=hid (below_two w (t.box h) (.cells #[.int .u8 0,.int .i64 0,.string no,.slice none 0 0,.slice none 0 0] 25))
 have HX0:=hid (new1of2 w (t.box h) (.cells #[.int .u8 0,.int .i64 0,.string no,.slice none 0 0,.slice none 0 0] 25))
 have HA0:=hid (new2 w (t.box h) (.cells #[.int .u8 0,.int .i64 0,.string no,.slice none 0 0,.slice none 0 0] 25))
 delta ThrPost at HT
 unfold tAns
 dsimp only at HT HK ⊢
 have HTH:=hid (HT.out _ HB2.out HX0.out)
 clear HT hmay hg hi hin hPw
 by_cases he:R2=0
 ·subst he
  cases R3 with
  | none =>
    dsimp only [Option.getD] at HTH ⊢
    rw [if_pos rfl]
    have hyk:(zeroT.k == 0)=true:=rfl
    generalize zeroT=y at HTH hyk
    unfold Tm.val at HTH ⊢
    dsimp only [Tm.vals] at HTH ⊢
    go_enter Tryz.func84,Tryz.ntmps84
    go_wp2_with fail
    refine HTH.out.mono ?_
    rintro e w3 ⟨hy,rfl,fY,iY,rY⟩
    have hz3:=rY.size
    simp only [World.size_alloc] at hz3
    have hA3:=rY.keep HA0.out hAP
    have hX3:=rY.keep HX0.out hTP
    obtain ⟨wy,hwy⟩:∃ wy,wy=w3.alloc (y.box hy):=⟨_,rfl⟩
    have hby:Below w3.heap.size w3 wy:=hwy ▸ below_one _ _
    have hyb:=hwy ▸ World.alloc_heap_new w3 (y.box hy)
    have hzy:=hby.size
    have HR4:=hid ((RanS.of_below (P:=P) HB2.out).trans (rY.trans (RanS.of_below hby)))
    have HI4:=hid (HKEEP.out _ _ _ iY (hby.mono (by omega)))
    have HA4:=hid (Lvl.keep hby hA3)
    obtain ⟨y0,y1,y2,y3,y4⟩:=five_cells (show wy.heap[w3.heap.size]?=some (.cells #[.int .u8 y.k,.int .i64 y.n,.string y.s,.slice hy.lo y.ls.length hy.lc,.slice hy.to y.ts.length hy.tc] 25) from hyb)
    obtain ⟨a0,a1,a2,a3,a4⟩:=five_cells HA4.out
    obtain ⟨f0,f1,f2,f3,f4⟩:=five_free HA4.out
    obtain ⟨x0,x1,x2,x3,x4⟩:=five_cells (show wy.heap[w.heap.size]?=some (.cells #[.int .u8 t.k,.int .i64 t.n,.string t.s,.slice h.lo t.ls.length h.lc,.slice h.to t.ts.length h.tc] 25) from Lvl.keep hby hX3)
    clear hA3 hX3 fY iY rY hby hyb
    have ew:w3.alloc (.cells #[.int .u8 y.k,.int .i64 y.n,.string y.s,.slice hy.lo y.ls.length hy.lc,.slice hy.to y.ts.length hy.tc] 25)=wy:=hwy.symm
    go_upto_region 2 with fail
    first | rw [ew] | rw [← hwy]
    clear ew hwy
    go_wp2_with fail
    have h5:=putT_self HA4.out (.int .u8 t.k) (.int .i64 t.n) (.string t.s) (.slice h.lo t.ls.length h.lc) (.slice h.to t.ts.length h.tc)
    have r5:=putT_ran wy (w.heap.size + 1) (.int .u8 t.k) (.int .i64 t.n) (.string t.s) (.slice h.lo t.ls.length h.lc) (.slice h.to t.ts.length h.tc)
    have s5:=RanS.put HR4.out (by omega:w.heap.size≤w.heap.size + 1) (.int .u8 t.k) (.int .i64 t.n) (.string t.s) (.slice h.lo t.ls.length h.lc) (.slice h.to t.ts.length h.tc)
    unfold putT at h5 r5 s5
    generalize hW:((((wy.setCell ⟨w.heap.size + 1,0,none⟩ (.int .u8 t.k)).setCell ⟨w.heap.size + 1,1,none⟩ (.int .i64 t.n)).setCell ⟨w.heap.size + 1,2,none⟩ (.string t.s)).setCell ⟨w.heap.size + 1,3,none⟩ (.slice h.lo t.ls.length h.lc)).setCell ⟨w.heap.size + 1,4,none⟩ (.slice h.to t.ts.length h.tc)=W4 at h5 r5 s5 ⊢
    obtain ⟨e0,e1,e2,e3,e4⟩:=five_cells h5
    clear hW
    exact bodyPost_ret (v:=.tuple #[t.val h,.int .i64 0]) (by simp [results,Tryz.results84,go_sem,e0,e1,e2,e3,e4,Tm.val,Tm.vals]) rfl
     ⟨h,rfl,(FirmS.of HIN.out (fun q hq=>hq.1) hB).step (s5.wide (fun q hq=>⟨S.low q hq,HPW.out q hq⟩)),HKEEP.out _ _ _ HI4.out (r5.below (by omega) (by omega)),s5⟩
  | some y =>
    dsimp only [Option.getD] at HTH ⊢
    rw [if_pos rfl]
    have hyk:(y.k == 0)=false:=by have:=HK.out y rfl; simpa using this
    unfold Tm.val at HTH ⊢
    dsimp only [Tm.vals] at HTH ⊢
    go_enter Tryz.func84,Tryz.ntmps84
    go_wp2_with fail
    refine HTH.out.mono ?_
    rintro e w3 ⟨hy,rfl,fY,iY,rY⟩
    have hz3:=rY.size
    simp only [World.size_alloc] at hz3
    have hA3:=rY.keep HA0.out hAP
    obtain ⟨wy,hwy⟩:∃ wy,wy=w3.alloc (y.box hy):=⟨_,rfl⟩
    have hby:Below w3.heap.size w3 wy:=hwy ▸ below_one _ _
    have hyb:=hwy ▸ World.alloc_heap_new w3 (y.box hy)
    have hzy:=hby.size
    have HR4:=hid ((RanS.of_below (P:=P) HB2.out).trans (rY.trans (RanS.of_below hby)))
    have HI4:=hid (HKEEP.out _ _ _ iY (hby.mono (by omega)))
    have HA4:=hid (Lvl.keep hby hA3)
    have HF4:=hid (fY.step (RanS.of_below hby))
    obtain ⟨y0,y1,y2,y3,y4⟩:=five_cells (show wy.heap[w3.heap.size]?=some (.cells #[.int .u8 y.k,.int .i64 y.n,.string y.s,.slice hy.lo y.ls.length hy.lc,.slice hy.to y.ts.length hy.tc] 25) from hyb)
    obtain ⟨a0,a1,a2,a3,a4⟩:=five_cells HA4.out
    obtain ⟨f0,f1,f2,f3,f4⟩:=five_free HA4.out
    clear hA3 fY iY rY hby hyb
    have ew:w3.alloc (.cells #[.int .u8 y.k,.int .i64 y.n,.string y.s,.slice hy.lo y.ls.length hy.lc,.slice hy.to y.ts.length hy.tc] 25)=wy:=hwy.symm
    go_upto_region 2 with fail
    first | rw [ew] | rw [← hwy]
    clear ew hwy
    go_wp2_with fail
    have h5:=putT_self HA4.out (.int .u8 y.k) (.int .i64 y.n) (.string y.s) (.slice hy.lo y.ls.length hy.lc) (.slice hy.to y.ts.length hy.tc)
    have r5:=putT_ran wy (w.heap.size + 1) (.int .u8 y.k) (.int .i64 y.n) (.string y.s) (.slice hy.lo y.ls.length hy.lc) (.slice hy.to y.ts.length hy.tc)
    have s5:=RanS.put HR4.out (by omega:w.heap.size≤w.heap.size + 1) (.int .u8 y.k) (.int .i64 y.n) (.string y.s) (.slice hy.lo y.ls.length hy.lc) (.slice hy.to y.ts.length hy.tc)
    unfold putT at h5 r5 s5
    generalize hW:((((wy.setCell ⟨w.heap.size + 1,0,none⟩ (.int .u8 y.k)).setCell ⟨w.heap.size + 1,1,none⟩ (.int .i64 y.n)).setCell ⟨w.heap.size + 1,2,none⟩ (.string y.s)).setCell ⟨w.heap.size + 1,3,none⟩ (.slice hy.lo y.ls.length hy.lc)).setCell ⟨w.heap.size + 1,4,none⟩ (.slice hy.to y.ts.length hy.tc)=W4 at h5 r5 s5 ⊢
    obtain ⟨e0,e1,e2,e3,e4⟩:=five_cells h5
    clear hW
    exact bodyPost_ret (v:=.tuple #[y.val hy,.int .i64 0]) (by simp [results,Tryz.results84,go_sem,e0,e1,e2,e3,e4,Tm.val,Tm.vals]) rfl
     ⟨hy,rfl,(HF4.out.step (RanS.of_ran r5 ⟨by omega,by simp⟩)).less (fun q _ hq=>⟨hq.1,by simp; omega⟩),HKEEP.out _ _ _ HI4.out (r5.below (by omega) (by omega)),s5⟩
 ·rw [if_neg he]
  have he2:(R2 == 0)=false:=by simpa using he
  generalize R3.getD zeroT=y at HTH ⊢
  clear HK he
  unfold Tm.val at HTH ⊢
  dsimp only [Tm.vals] at HTH ⊢
  go_enter Tryz.func84,Tryz.ntmps84
  go_wp2_with fail
  refine HTH.out.mono ?_
  rintro e w3 ⟨hy,rfl,fY,iY,rY⟩
  have hz3:=rY.size
  simp only [World.size_alloc] at hz3
  have hA3:=rY.keep HA0.out hAP
  obtain ⟨wy,hwy⟩:∃ wy,wy=w3.alloc (y.box hy):=⟨_,rfl⟩
  have hby:Below w3.heap.size w3 wy:=hwy ▸ below_one _ _
  have hyb:=hwy ▸ World.alloc_heap_new w3 (y.box hy)
  have hzy:=hby.size
  have HR4:=hid ((RanS.of_below (P:=P) HB2.out).trans (rY.trans (RanS.of_below hby)))
  have HI4:=hid (HKEEP.out _ _ _ iY (hby.mono (by omega)))
  have HA4:=hid (Lvl.keep hby hA3)
  have HF4:=hid (fY.step (RanS.of_below hby))
  obtain ⟨y0,y1,y2,y3,y4⟩:=five_cells (show wy.heap[w3.heap.size]?=some (.cells #[.int .u8 y.k,.int .i64 y.n,.string y.s,.slice hy.lo y.ls.length hy.lc,.slice hy.to y.ts.length hy.tc] 25) from hyb)
  obtain ⟨a0,a1,a2,a3,a4⟩:=five_cells HA4.out
  obtain ⟨f0,f1,f2,f3,f4⟩:=five_free HA4.out
  clear hA3 fY iY rY hby hyb
  have ew:w3.alloc (.cells #[.int .u8 y.k,.int .i64 y.n,.string y.s,.slice hy.lo y.ls.length hy.lc,.slice hy.to y.ts.length hy.tc] 25)=wy:=hwy.symm
  go_upto_region 2 with fail
  first | rw [ew] | rw [← hwy]
  clear ew hwy
  go_wp2_with fail
  have h5:=putT_self HA4.out (.int .u8 y.k) (.int .i64 y.n) (.string y.s) (.slice hy.lo y.ls.length hy.lc) (.slice hy.to y.ts.length hy.tc)
  have r5:=putT_ran wy (w.heap.size + 1) (.int .u8 y.k) (.int .i64 y.n) (.string y.s) (.slice hy.lo y.ls.length hy.lc) (.slice hy.to y.ts.length hy.tc)
  have s5:=RanS.put HR4.out (by omega:w.heap.size≤w.heap.size + 1) (.int .u8 y.k) (.int .i64 y.n) (.string y.s) (.slice hy.lo y.ls.length hy.lc) (.slice hy.to y.ts.length hy.tc)
  unfold putT at h5 r5 s5
  generalize hW:((((wy.setCell ⟨w.heap.size + 1,0,none⟩ (.int .u8 y.k)).setCell ⟨w.heap.size + 1,1,none⟩ (.int .i64 y.n)).setCell ⟨w.heap.size + 1,2,none⟩ (.string y.s)).setCell ⟨w.heap.size + 1,3,none⟩ (.slice hy.lo y.ls.length hy.lc)).setCell ⟨w.heap.size + 1,4,none⟩ (.slice hy.to y.ts.length hy.tc)=W4 at h5 r5 s5 ⊢
  obtain ⟨e0,e1,e2,e3,e4⟩:=five_cells h5
  clear hW
  exact bodyPost_ret (v:=.tuple #[y.val hy,.int .i64 R2]) (by simp [results,Tryz.results84,go_sem,e0,e1,e2,e3,e4,Tm.val,Tm.vals]) rfl
   ⟨hy,rfl,(HF4.out.step (RanS.of_ran r5 ⟨by omega,by simp⟩)).less (fun q _ hq=>⟨hq.1,by simp; omega⟩),HKEEP.out _ _ _ HI4.out (r5.below (by omega) (by omega)),s5⟩
theorem sub_answer_any (t:Tm) (h:Hd) (e0:Int) (w:World) (hin:t.In w.heap.size w h) :
 Calls Tryz.prog 83 #[t.val h,.int .i64 e0] w fun e w'=>∃ h',e=.returned (.tuple #[(ansT t e0).1.val h',.int .i64 (ansT t e0).2])∧(∀ P,FirmS P w t h→FirmS P w' (ansT t e0).1 h')∧Below w.heap.size w w':=by
 have HM:=hid (fun (W:World) (hW:Below w.heap.size w W)=>PMay_any t h W (Tm.In.mono hW.size _ _ (Tm.In.below hW _ _ hin)))
 have HB2:=hid (below_two w (t.box h) (.cells #[.int .u8 0,.int .i64 0,.string no,.slice none 0 0,.slice none 0 0] 25))
 have HX0:=hid (new1of2 w (t.box h) (.cells #[.int .u8 0,.int .i64 0,.string no,.slice none 0 0,.slice none 0 0] 25))
 have HA0:=hid (new2 w (t.box h) (.cells #[.int .u8 0,.int .i64 0,.string no,.slice none 0 0,.slice none 0 0] 25))
 clear hin
 by_cases he:e0 ≠ 0
 ·have hs:ansT t e0=(zeroT,e0):=if_pos he
  rw [hs]
  have he2:(e0 != 0)=true:=by simpa using he
  unfold Tm.val
  dsimp only [Tm.vals]
  clear hs he
  go_enter Tryz.func83,Tryz.ntmps83
  go_wp2_with fail
  have h5:=HA0.out
  have b5:=HB2.out
  unfold no Tm.box at h5 b5
  dsimp only [Tm.vals] at h5 b5
  generalize hW:(w.alloc (.cells #[.int .u8 t.k,.int .i64 t.n,.string t.s,.slice h.lo t.ls.length h.lc,.slice h.to t.ts.length h.tc] 25)).alloc (.cells #[.int .u8 0,.int .i64 0,.string ⟨#[]⟩,.slice none 0 0,.slice none 0 0] 25)=W4 at h5 b5 ⊢
  obtain ⟨e0',e1,e2,e3,e4⟩:=five_cells h5
  clear hW
  exact bodyPost_ret (v:=.tuple #[zeroT.val ⟨none,0,none,0⟩,.int .i64 e0]) (by simp [results,Tryz.results83,go_sem,e0',e1,e2,e3,e4,zeroT,Tm.val,Tm.vals,Tm.k,Tm.n,Tm.s,Tm.ls,Tm.ts,no]) rfl ⟨⟨none,0,none,0⟩,rfl,fun _ _=>firm_zero,b5⟩
 ·have h0:e0=0:=by omega
  subst h0
  cases hmay:t.may
  ·have hs:ansT t 0=(zeroT,4):=by unfold ansT; rw [if_neg (by decide),if_neg (by simp [hmay])]
   rw [hs]
   rw [hmay] at HM
   unfold Tm.val at HM ⊢
   dsimp only [Tm.vals] at HM ⊢
   clear hs he hmay
   go_enter Tryz.func83,Tryz.ntmps83
   go_wp2_with fail
   refine (HM.out _ HB2.out).mono ?_
   rintro e w3 ⟨rfl,b3⟩
   have hA3:=Lvl.keep b3 HA0.out
   have HB3:=hid (Trm.go HB2.out b3)
   obtain ⟨a0,a1,a2,a3,a4⟩:=five_cells hA3
   obtain ⟨f0,f1,f2,f3,f4⟩:=five_free hA3
   have HA3:=hid hA3
   clear hA3 b3
   go_wp2_with fail
   have h5:=putT_self HA3.out (.int .u8 0) (.int .i64 0) (.string no) (.slice none 0 0) (.slice none 0 0)
   have b5:=putT_below HB3.out (by omega:w.heap.size≤w.heap.size + 1) (.int .u8 0) (.int .i64 0) (.string no) (.slice none 0 0) (.slice none 0 0)
   unfold putT no at h5 b5
   generalize hW:((((w3.setCell ⟨w.heap.size + 1,0,none⟩ (.int .u8 0)).setCell ⟨w.heap.size + 1,1,none⟩ (.int .i64 0)).setCell ⟨w.heap.size + 1,2,none⟩ (.string ⟨#[]⟩)).setCell ⟨w.heap.size + 1,3,none⟩ (.slice none 0 0)).setCell ⟨w.heap.size + 1,4,none⟩ (.slice none 0 0)=W4 at h5 b5 ⊢
   obtain ⟨e0',e1,e2,e3,e4⟩:=five_cells h5
   clear hW
   exact bodyPost_ret (v:=.tuple #[zeroT.val ⟨none,0,none,0⟩,.int .i64 4]) (by simp [results,Tryz.results83,go_sem,e0',e1,e2,e3,e4,zeroT,Tm.val,Tm.vals,Tm.k,Tm.n,Tm.s,Tm.ls,Tm.ts,no]) rfl ⟨⟨none,0,none,0⟩,rfl,fun _ _=>firm_zero,b5⟩
  ·have hs:ansT t 0=(t,0):=by unfold ansT; rw [if_neg (by decide),if_pos hmay]
   rw [hs]
   rw [hmay] at HM
   unfold Tm.val at HM ⊢
   dsimp only [Tm.vals] at HM ⊢
   clear hs he hmay
   go_enter Tryz.func83,Tryz.ntmps83
   go_wp2_with fail
   refine (HM.out _ HB2.out).mono ?_
   rintro e w3 ⟨rfl,b3⟩
   have hA3:=Lvl.keep b3 HA0.out
   have HB3:=hid (Trm.go HB2.out b3)
   obtain ⟨a0,a1,a2,a3,a4⟩:=five_cells hA3
   obtain ⟨f0,f1,f2,f3,f4⟩:=five_free hA3
   obtain ⟨x0,x1,x2,x3,x4⟩:=five_cells (show w3.heap[w.heap.size]?=some (.cells #[.int .u8 t.k,.int .i64 t.n,.string t.s,.slice h.lo t.ls.length h.lc,.slice h.to t.ts.length h.tc] 25) from Lvl.keep b3 HX0.out)
   have HA3:=hid hA3
   clear hA3 b3
   go_wp2_with fail
   have h5:=putT_self HA3.out (.int .u8 t.k) (.int .i64 t.n) (.string t.s) (.slice h.lo t.ls.length h.lc) (.slice h.to t.ts.length h.tc)
   have b5:=putT_below HB3.out (by omega:w.heap.size≤w.heap.size + 1) (.int .u8 t.k) (.int .i64 t.n) (.string t.s) (.slice h.lo t.ls.length h.lc) (.slice h.to t.ts.length h.tc)
   unfold putT at h5 b5
   generalize hW:((((w3.setCell ⟨w.heap.size + 1,0,none⟩ (.int .u8 t.k)).setCell ⟨w.heap.size + 1,1,none⟩ (.int .i64 t.n)).setCell ⟨w.heap.size + 1,2,none⟩ (.string t.s)).setCell ⟨w.heap.size + 1,3,none⟩ (.slice h.lo t.ls.length h.lc)).setCell ⟨w.heap.size + 1,4,none⟩ (.slice h.to t.ts.length h.tc)=W4 at h5 b5 ⊢
   obtain ⟨e0',e1,e2,e3,e4⟩:=five_cells h5
   clear hW
   exact bodyPost_ret (v:=.tuple #[t.val h,.int .i64 0]) (by simp [results,Tryz.results83,go_sem,e0',e1,e2,e3,e4,Tm.val,Tm.vals]) rfl ⟨h,rfl,fun _ g=>g.step (RanS.of_below b5),b5⟩
end Go.Proofs.YtmngddomnaaedaaGreat
namespace Go.Proofs.YtmngddomnaaedaaGreat
open Go.RowKit Go.Shelf Lvl Trm
end Go.Proofs.YtmngddomnaaedaaGreat
namespace Go.Proofs.YtmngddomnaaedaaGreat
open Lvl Trm
namespace Trm
def gInst (l:List Tm):Int→Int→Tm:=fun v u=>if h:0≤v∧v < l.length then (l[l.length - 1 - v.toNat]'(by omega)).put (gLift 0 u) 0 else tV (v - l.length + u)
def more (l:List Tm):List (Int × Int)→Int
 | []=>0
 | p :: r=>(gInst l p.1 p.2).size - 1 + more l r
theorem may_size' {t:Tm} (h:t.may=true):t.size≤65536:=by
 have h0:0≤t.left badMay 65536 4096:=of_decide_eq_true h
 have:=t.left_size badMay 65536 4096 h0
 omega
end Trm
end Go.Proofs.YtmngddomnaaedaaGreat
namespace Go.Proofs.YtmngddomnaaedaaGreat
open Go.RowKit Go.Shelf Lvl Trm
namespace Trm
end Trm
end Go.Proofs.YtmngddomnaaedaaGreat
namespace Go.Proofs.YtmngddomnaaedaaGreat
open Lvl Trm
namespace Trm
def ss:ByteArray:=⟨#[115]⟩
theorem node_t2 (k:Int) (hk:k=4∨k=5∨k=6) (f x:Tm):badMay (t2 k f x)=false:=by
 unfold badMay t2 Tm.node
 rcases hk with rfl | rfl | rfl <;> simp [Tm.k,Tm.ts,Tm.ls,Tm.s,Tm.n,kids,no,ByteArray.size]
theorem left_t2 (k:Int) (hk:k=4∨k=5∨k=6) (f x:Tm) (l d:Int):(t2 k f x).left badMay l d =
 if l - 1 < 0∨d≤0 then -1 else if f.left badMay (l - 1) (d - 1) < 0 then -1 else if x.left badMay (f.left badMay (l - 1) (d - 1)) (d - 1) < 0 then -1 else x.left badMay (f.left badMay (l - 1) (d - 1)) (d - 1):=by
 rw [Tm.left_eq,node_t2 k hk]
 simp [t2,Tm.ts,leftL]
end Trm
end Go.Proofs.YtmngddomnaaedaaGreat
namespace Go.Proofs.YtmngddomnaaedaaGreat
open Lvl Trm
namespace Trm
theorem vps_free {t:Tm} (h:t.may=true):∀ p ∈ t.vps 0,0≤p.1∧0≤p.2∧p.2≤4096∧p.1 < t.free∧p.1 + p.2≤1048576:=fun p hp=>by
 have h1:=vps_bound t 0 1 (by omega) (by omega) (OkMay.start h) p hp
 have hf:t.free=top (t.vs 0):=by unfold Tm.free; rw [if_pos h]; rfl
 have h2:p.1 ∈ t.vs 0:=by rw [← vps_vs]; exact List.mem_map_of_mem hp
 have h3:=top_lt _ _ h2
 omega
end Trm
namespace Trm
end Trm
namespace Trm
end Trm
namespace Trm
mutual
def Tm.ht:Tm→Int
 | .mk _ _ _ _ ts=>1 + htL ts
def htL:List Tm→Int
 | []=>0
 | t :: r=>max t.ht (htL r)
end
mutual
def Tm.sound:Tm→Prop
 | .mk k n s ls ts=>(Tm.mk k n s ls ts).node=true∧soundL ts
def soundL:List Tm→Prop
 | []=>True
 | t :: r=>t.sound∧soundL r
end
mutual
theorem ht_pos:∀ t:Tm,1≤t.ht
 | .mk k n s ls ts=>by rw [Tm.ht]; have:=htL_ge ts; omega
theorem htL_ge:∀ ts:List Tm,0≤htL ts
 | []=>by rw [htL]; omega
 | t :: r=>by rw [htL]; have:=htL_ge r; omega
end
mutual
theorem ht_size:∀ t:Tm,t.ht≤t.size
 | .mk k n s ls ts=>by rw [Tm.ht,Tm.size]; have:=htL_size ts; omega
theorem htL_size:∀ ts:List Tm,htL ts≤sizeL ts
 | []=>by rw [htL,sizeL]; omega
 | t :: r=>by
   rw [htL,sizeL]
   have:=ht_size t
   have:=htL_size r
   have:=t.size_pos
   have:=htL_ge r
   omega
end
mutual
theorem left_sound:∀ (t:Tm) (l d:Int),t.sound→t.size≤l→t.ht≤d→t.left badMay l d=l - t.size
 | .mk k n s ls ts,l,d,hs,hl,hd=>by
   rw [Tm.sound] at hs
   rw [Tm.size] at hl ⊢
   rw [Tm.ht] at hd
   have h1:=htL_ge ts
   have h2:=htL_size ts
   have hb:badMay (.mk k n s ls ts)=false:=by unfold badMay; rw [hs.1]; rfl
   have hc:¬ (l - 1 < 0∨d≤0∨badMay (.mk k n s ls ts)=true):=by
    rw [hb]
    rintro (h | h | h)
    ·omega
    ·omega
    ·cases h
   rw [Tm.left,if_neg hc,leftL_sound ts (l - 1) (d - 1) hs.2 (by omega) (by omega)]
   omega
theorem leftL_sound:∀ (ts:List Tm) (l d:Int),soundL ts→sizeL ts≤l→htL ts≤d→leftL badMay ts l d=l - sizeL ts
 | [],l,d,_,_,_=>by rw [leftL,sizeL]; omega
 | t :: r,l,d,hs,hl,hd=>by
   rw [soundL] at hs
   rw [sizeL] at hl ⊢
   rw [htL] at hd
   have h2:=htL_size r
   have h3:=htL_ge r
   have h1:=left_sound t l d hs.1 (by omega) (by omega)
   rw [leftL,h1,if_neg (by omega),leftL_sound r _ d hs.2 (by omega) (by omega)]
   omega
end
mutual
theorem sound_left:∀ (t:Tm) (l d:Int),0≤t.left badMay l d→t.sound∧t.ht≤d
 | .mk k n s ls ts,l,d,h=>by
   rw [Tm.left] at h
   split at h
   ·omega
   ·rename_i hc
    have hn:(Tm.mk k n s ls ts).node=true:=by
     cases hb:(Tm.mk k n s ls ts).node
     ·exact absurd (Or.inr (Or.inr (by unfold badMay; rw [hb]; rfl))) hc
     ·rfl
    have h1:=soundL_left ts (l - 1) (d - 1) h (by omega)
    rw [Tm.sound,Tm.ht]
    exact ⟨⟨hn,h1.1⟩,by have:=h1.2; omega⟩
theorem soundL_left:∀ (ts:List Tm) (l d:Int),0≤leftL badMay ts l d→0≤d→soundL ts∧htL ts≤d
 | [],l,d,_,hd=>by rw [soundL,htL]; exact ⟨trivial,hd⟩
 | t :: r,l,d,h,hd=>by
   rw [leftL] at h
   split at h
   ·omega
   ·have h1:=sound_left t l d (by omega)
    have h2:=soundL_left r _ d h hd
    rw [soundL,htL]
    exact ⟨⟨h1.1,h2.1⟩,by have:=h1.2; have:=h2.2; omega⟩
end
theorem may_of {t:Tm} (hs:t.sound) (hz:t.size≤65536) (hh:t.ht≤4096):t.may=true:=by
 have:=left_sound t 65536 4096 hs hz hh
 show decide (0≤t.left badMay 65536 4096)=true
 rw [this]
 simp
 omega
theorem may_sound {t:Tm} (h:t.may=true):t.sound∧t.ht≤4096:=sound_left t 65536 4096 (of_decide_eq_true h)
def cF:ByteArray:=⟨#[102,114,101,115,104,39]⟩
end Trm
end Go.Proofs.YtmngddomnaaedaaGreat
