/-
 battenref02.May.
-/
import Derived.Lib.Hide
import Derived.Test.YtmngddomnaaedaaGreatQB3
import Derived.Test.YtmngddomnaaedaaGreatQB5
import Derived.BigQuiet
import Derived.Deep.QuietTactic
import Derived.Test.YtmngddomnaaedaaGreatQB4
open Go.Lib (hid)
set_option maxRecDepth 100000
set_option maxHeartbeats 32000000
namespace Go.Proofs.YtmngddomnaaedaaGreat
open Go.RowKit Go.Shelf Lvl Trm
def Trm.good (c p:Int):Prop:=-1≤p∧p≤1099511627776∧(c≤p→0≤p→c≤0)
theorem Trm.good_of_may {l:Lv} (h:l.may=true) (k:Nat) (hk:k < 4):good l.c (l.at_ k):=by
 have:=(may_iff l).1 h
 unfold Lv.ok at this
 have h4:k=0∨k=1∨k=2∨k=3:=by omega
 rcases h4 with rfl | rfl | rfl | rfl <;> (unfold good; simp only [Lv.at_]; omega)
theorem Trm.may_of_good {l:Lv} (h0:0≤l.c) (h1:l.c≤1099511627776) (h:∀ j,j < 4→good l.c (l.at_ j)):l.may=true:=by
 have g0:=h 0 (by omega)
 have g1:=h 1 (by omega)
 have g2:=h 2 (by omega)
 have g3:=h 3 (by omega)
 simp only [good,Lv.at_] at g0 g1 g2 g3
 rw [may_iff]
 unfold Lv.ok
 omega
def Trm.GoodRel (w:World) (l:Lv) (i:Value) (wr:World):Prop:=∃ k:Nat,i=.int .i64 k∧k≤4∧(∀ j,j < k→good l.c (l.at_ j))∧Kept w wr l.box
theorem Trm.at_cell {l:Lv} {b:Nat} {w:World} (h:w.heap[b]?=some l.box) (k:Nat) (hk:k < 4):w.cell? ⟨b,1 + k,none⟩=some (.int .i64 (l.at_ k)):=by
 obtain ⟨_,c1,c2,c3,c4⟩:=Lv.cells h
 have h4:k=0∨k=1∨k=2∨k=3:=by omega
 rcases h4 with rfl | rfl | rfl | rfl
 ·exact c1
 ·exact c2
 ·exact c3
 ·exact c4
theorem Trm.Kept.drewN {w wr:World} {o:Obj} (h:Kept w wr o) (n:Nat):Kept w (wr.drewN n) o:=by
 refine h.step ⟨?_,?_,?_,?_,?_⟩ <;> simp [World.drewN]
theorem RefMay_any (l:Lv) (w:World) :
 Calls Tryz.prog 126 #[l.val] w fun e w'=>e=.returned (.bool l.may)∧Below w.heap.size w w':=by
 obtain ⟨G,hG⟩:∃ G,G=l.may:=⟨_,rfl⟩
 rw [← hG]
 have HG:=hid hG
 clear hG
 by_cases hc:0≤l.c∧l.c≤1099511627776
 ·obtain ⟨hc0,hc1⟩:=hc
  unfold Lv.val
  go_enter Tryz.func126,Tryz.ntmps126
  go_wp2_with fail
  go_loopw [3] (fun i wr=>GoodRel w l i wr) (fun i _=>4 - (intOf i).toNat)
  case atStart=>exact ⟨0,rfl,by omega,fun j hj=>absurd hj (by omega),Kept.start _ _⟩
  case round =>
   obtain ⟨k,rfl,hk,hgood,hkept⟩:=hrel
   have HK:=hid hkept
   have HA:=hid hgood
   clear hkept hgood
   obtain ⟨c0,_⟩:=Lv.cells HK.out.box
   by_cases hlt:k < 4
   ·have c1:=at_cell HK.out.box k hlt
    have HN:Hid (¬ good l.c (l.at_ k)→false=G):=hid (fun hn=>by
     rw [HG.out]
     refine (Bool.eq_false_iff.2 fun h=>hn ?_).symm
     exact good_of_may h k hlt)
    have HY:Hid (good l.c (l.at_ k)→∀ j,j < k + 1→good l.c (l.at_ j)):=hid (fun hy j hj=>by
     rcases (show j < k∨j=k by omega) with h | rfl
     ·exact HA.out j h
     ·exact hy)
    generalize l.at_ k=p at c1 HN HY
    by_cases hA:p < -1
    ·have dA:decide (p < -1)=true:=by simpa using hA
     have HF:=hid (HN.out (by unfold good; omega))
     clear hA
     go_wp2_with fail
     go_quiet (fail)
     go_wp2_with fail
     go_ret
     exact ⟨ret_bool HF.out,(HK.out.drewN _).bel⟩
    ·have dA:decide (p < -1)=false:=by simpa using hA
     by_cases hB:1099511627776 < p
     ·have dB:decide (1099511627776 < p)=true:=by simpa using hB
      have HF:=hid (HN.out (by unfold good; omega))
      clear hA hB
      go_wp2_with fail
      go_quiet (fail)
      go_wp2_with fail
      go_ret
      exact ⟨ret_bool HF.out,(HK.out.drewN _).bel⟩
     ·have dB:decide (1099511627776 < p)=false:=by simpa using hB
      by_cases hC:l.c≤p
      ·have dC:decide (l.c≤p)=true:=by simpa using hC
       have dD:decide (0≤p)=true:=by simp; omega
       by_cases hE:0 < l.c
       ·have dE:decide (0 < l.c)=true:=by simpa using hE
        have HF:=hid (HN.out (by unfold good; omega))
        clear hA hB hC hE
        go_wp2_with fail
        go_quiet (fail)
        go_wp2_with fail
        go_ret
        exact ⟨ret_bool HF.out,(HK.out.drewN _).bel⟩
       ·have dE:decide (0 < l.c)=false:=by simpa using hE
        have HF:=hid (HY.out (by unfold good; omega))
        clear hA hB hC hE
        go_wp2_with fail
        go_quiet (fail)
        go_wp2_with fail
        go_roundw
        case rel=>exact ⟨k + 1,by go_num,by omega,HF.out,HK.out.drewN _⟩
        case measure=>simp [intOf]; omega
      ·have dC:decide (l.c≤p)=false:=by simpa using hC
       have HF:=hid (HY.out (by unfold good; omega))
       clear hA hB hC
       go_wp2_with fail
       go_quiet (fail)
       go_wp2_with fail
       go_roundw
       case rel=>exact ⟨k + 1,by go_num,by omega,HF.out,HK.out.drewN _⟩
       case measure=>simp [intOf]; omega
   ·have HF:Hid (true=G):=by
     have hg:=HA.out
     exact hid (by rw [HG.out]; exact (may_of_good hc0 hc1 fun j hj=>hg j (by omega)).symm)
    go_wp2_with fail
    go_ret
    exact ⟨ret_bool HF.out,HK.out.bel⟩
 ·have HF:Hid (false=G):=hid (by
   rw [HG.out]
   refine (Bool.eq_false_iff.2 fun h=>?_).symm
   have:=(may_iff l).1 h
   unfold Lv.ok at this
   omega)
  have hc':l.c < 0∨(0≤l.c∧1099511627776 < l.c):=by omega
  clear hc
  rcases hc' with hc | ⟨hc0,hc⟩
  all_goals
   unfold Lv.val
   go_enter Tryz.func126,Tryz.ntmps126
   go_wp2_with fail
   go_ret
   exact ⟨ret_bool HF.out,below_one _ _⟩
end Go.Proofs.YtmngddomnaaedaaGreat
namespace Go.Proofs.YtmngddomnaaedaaGreat
open Go.RowKit Go.Shelf Lvl Trm
theorem kids_same (k:Int) (w:World) :
 Calls Tryz.prog 125 #[.int .u8 k] w fun e w'=>e=.returned (.int .i64 (kids k))∧w'=w :=
 (kids_any k w).mono fun _ _ ⟨h,h'⟩=>⟨h,h'.symm⟩
theorem Trm.empty_iff (s:ByteArray):s.toList.isEmpty=decide (s.size=0):=by
 rw [ByteArray.toList_eq]
 show s.data.toList.isEmpty=decide (s.data.size=0)
 rw [← Array.length_toList]
 cases s.data.toList <;> simp
def Trm.LvsRel (w:World) (o:Obj) (ls:List Lv) (i:Value) (wr:World):Prop :=
 ∃ k:Nat,i=.int .i64 k∧k≤ls.length∧(ls.take k).all Lv.may=true∧Kept w wr o
theorem node_any (t:Tm) (h:Hd) (w:World) (hin:t.In w.heap.size w h) :
 Calls Tryz.prog 77 #[t.val h] w fun e w'=>e=.returned (.bool t.node)∧Below w.heap.size w w':=by
 obtain ⟨G,hG⟩:∃ G,G=t.node:=⟨_,rfl⟩
 rw [← hG]
 have HG:=hid hG
 clear hG
 have hfit:=hin.fit
 have hls:=hfit.ls
 have hts:=hfit.ts
 have hss:=hfit.s
 clear hfit
 have HIN:=hid hin
 clear hin
 have hk1:=fun w=>kids_same t.k w
 have HK1:=hid hk1
 clear hk1
 by_cases hA:kids t.k < 0
 ·have HF:Hid (false=G):=hid (by rw [HG.out]; simp [Tm.node,show ¬ 0≤kids t.k by omega])
  generalize kids t.k=K at hA HK1
  have dA:decide (K < 0)=true:=by simpa using hA
  clear hA
  unfold Tm.val Tm.vals
  go_enter Tryz.func77,Tryz.ntmps77
  go_wp2_with fail
  go_quiet ((go_at_call 125; exact Calls.quiet_of_same (HK1.out _)))
  go_wp2_with fail
  go_ret
  exact ⟨ret_bool HF.out,((Kept.start w (t.box h)).drewN _).bel⟩
 ·by_cases hB:(t.ts.length:Int)=kids t.k
  ·have h8:t.k=1∨t.k=2∨t.k=3∨t.k=4∨t.k=5∨t.k=6∨t.k=7∨t.k=8:=by
    unfold kids at hA
    split at hA
    ·omega
    ·split at hA
     ·omega
     ·split at hA
      ·omega
      ·split at hA
       ·omega
       ·omega
   have H8:=hid h8
   have HB:=hid hB
   have HKK:Hid (0≤kids t.k):=hid (by omega)
   have hq:((t.ts.length:Int) != kids t.k)=false:=by simpa using hB
   clear h8 hB
   generalize hKe:kids t.k=K at hA HK1 hq
   have HKe:=hid hKe
   clear hKe
   have dA:decide (K < 0)=false:=by simpa using hA
   clear hA
   unfold Tm.val Tm.vals
   go_enter Tryz.func77,Tryz.ntmps77
   go_wp2_with fail
   go_quiet ((go_at_call 125; exact Calls.quiet_of_same (HK1.out _)))
   have HQ:=hid hq
   clear hq dA
   go_wp2_with fail
   go_loopw [3] (fun i wr=>LvsRel w (t.box h) t.ls i wr) (fun i _=>t.ls.length - (intOf i).toNat)
   case atStart=>exact ⟨0,rfl,by omega,rfl,(Kept.start w (t.box h)).drewN _⟩
   case round =>
    obtain ⟨k,rfl,hk,hall,hkept⟩:=hrel
    have HK:=hid hkept
    have HA:=hid hall
    clear hkept hall
    obtain ⟨c0,c1,c2,c3,c4⟩:=Tm.cells HK.out.box
    by_cases hlt:k < t.ls.length
    ·obtain ⟨b,off,hao,hat⟩:=(Trm.LRow.low HIN.out.levels (Tm.In_iff.1 HIN.out).2.2.1 HK.out.bel).place k hlt
     obtain ⟨l0,l1,l2,l3,l4⟩:=hat
     rw [hao] at c3
     obtain ⟨x,hx⟩:∃ x,x=t.ls[k]:=⟨_,rfl⟩
     rw [← hx] at l0 l1 l2 l3 l4
     have hmay:=fun w=>RefMay_any x w
     have HN:Hid (x.may=false→false=G):=hid (fun hf=>by
      rw [HG.out]
      have:t.ls.all Lv.may=false:=Lvl.all_take_no hlt (by rw [← hx]; exact hf)
      simp [Tm.node,this])
     have HY:Hid (x.may=true→(t.ls.take (k + 1)).all Lv.may=true):=hid (fun hf=>Lvl.all_take_yes hlt HA.out (by rw [← hx]; exact hf))
     obtain ⟨r,hr⟩:∃ r,r=x.may:=⟨_,rfl⟩
     rw [← hr] at hmay HN HY
     have HM:=hid hmay
     clear hmay hr hx hao
     cases r
     ·go_wp2_with fail
      unfold Lv.val at HM
      refine (HM.out _).mono ?_
      rintro e w1 ⟨rfl,b1⟩
      have HK1:=hid (HK.out.step b1)
      clear b1
      go_wp2_with fail
      go_ret
      exact ⟨ret_bool (HN.out (by trivial)),HK1.out.bel⟩
     ·go_wp2_with fail
      unfold Lv.val at HM
      refine (HM.out _).mono ?_
      rintro e w1 ⟨rfl,b1⟩
      have HK1:=hid (HK.out.step b1)
      clear b1
      go_wp2_with fail
      go_roundw
      case rel=>exact ⟨k + 1,by go_num,by omega,HY.out (by trivial),HK1.out⟩
      case measure=>simp [intOf]; omega
    ·have hall:=HA.out
     rw [List.take_of_length_le (by omega)] at hall
     rcases H8.out with hk8 | hk8 | hk8 | hk8 | hk8 | hk8 | hk8 | hk8
     ·have HE:Hid ((t.s.toList.isEmpty && (t.n == 0) && ((t.ls.length:Int) == 1))=G):=hid (by
       rw [HG.out,Tm.node,hk8,← hk8,hall,HB.out,hk8,Bool.eq_iff_iff]
       simp [kids,empty_iff]
       try omega)
      have HKF:=hid hk8
      rw [hk8] at c0
      clear hall hk8
      go_wp2_with (fail)
      all_goals
       go_ret
       refine ⟨ret_bool ?_,HK.out.bel⟩
       rw [← HE.out]
       simp [*]
       try (intros; omega)
     ·have HE:Hid ((t.s.toList.isEmpty && (decide (0≤t.n) && decide (t.n≤1048576)) && ((t.ls.length:Int) == 0))=G):=hid (by
       rw [HG.out,Tm.node,hk8,← hk8,hall,HB.out,hk8,Bool.eq_iff_iff]
       simp [kids,empty_iff]
       try omega)
      have HKF:=hid hk8
      rw [hk8] at c0
      clear hall hk8
      go_wp2_with (fail)
      all_goals
       go_ret
       refine ⟨ret_bool ?_,HK.out.bel⟩
       rw [← HE.out]
       simp [*]
       try (intros; omega)
     ·have HE:Hid ((nameOk t.s && (t.n == 0) && decide ((t.ls.length:Int)≤4))=G):=hid (by
       rw [HG.out,Tm.node,hk8,← hk8,hall,HB.out,hk8,Bool.eq_iff_iff]
       simp [kids]
       try omega)
      have HKF:=hid hk8
      rw [hk8] at c0
      clear hall hk8
      go_wp2_with (go_at_call 127; refine (RefName_any _ _ hss).mono ?_; rintro e w' ⟨rfl,rfl⟩)
      all_goals
       go_ret
       refine ⟨ret_bool ?_,HK.out.bel⟩
       rw [← HE.out]
       simp [*]
       try (intros; omega)
     ·have HE:Hid ((t.s.toList.isEmpty && (t.n == 0) && ((t.ls.length:Int) == 0))=G):=hid (by
       rw [HG.out,Tm.node,hk8,← hk8,hall,HB.out,hk8,Bool.eq_iff_iff]
       simp [kids,empty_iff]
       try omega)
      have HKF:=hid hk8
      rw [hk8] at c0
      clear hall hk8
      go_wp2_with (fail)
      all_goals
       go_ret
       refine ⟨ret_bool ?_,HK.out.bel⟩
       rw [← HE.out]
       simp [*]
       try (intros; omega)
     ·have HE:Hid ((t.s.toList.isEmpty && (t.n == 0) && ((t.ls.length:Int) == 0))=G):=hid (by
       rw [HG.out,Tm.node,hk8,← hk8,hall,HB.out,hk8,Bool.eq_iff_iff]
       simp [kids,empty_iff]
       try omega)
      have HKF:=hid hk8
      rw [hk8] at c0
      clear hall hk8
      go_wp2_with (fail)
      all_goals
       go_ret
       refine ⟨ret_bool ?_,HK.out.bel⟩
       rw [← HE.out]
       simp [*]
       try (intros; omega)
     ·have HE:Hid ((t.s.toList.isEmpty && (t.n == 0) && ((t.ls.length:Int) == 0))=G):=hid (by
       rw [HG.out,Tm.node,hk8,← hk8,hall,HB.out,hk8,Bool.eq_iff_iff]
       simp [kids,empty_iff]
       try omega)
      have HKF:=hid hk8
      rw [hk8] at c0
      clear hall hk8
      go_wp2_with (fail)
      all_goals
       go_ret
       refine ⟨ret_bool ?_,HK.out.bel⟩
       rw [← HE.out]
       simp [*]
       try (intros; omega)
     ·have HE:Hid ((t.s.toList.isEmpty && (t.n == 0) && ((t.ls.length:Int) == 0))=G):=hid (by
       rw [HG.out,Tm.node,hk8,← hk8,hall,HB.out,hk8,Bool.eq_iff_iff]
       simp [kids,empty_iff]
       try omega)
      have HKF:=hid hk8
      rw [hk8] at c0
      clear hall hk8
      go_wp2_with (fail)
      all_goals
       go_ret
       refine ⟨ret_bool ?_,HK.out.bel⟩
       rw [← HE.out]
       simp [*]
       try (intros; omega)
     ·have HE:Hid ((nameOk t.s && (decide (0≤t.n) && decide (t.n < 12)) && ((t.ls.length:Int) == 0))=G):=hid (by
       rw [HG.out,Tm.node,hk8,← hk8,hall,HB.out,hk8,Bool.eq_iff_iff]
       simp [kids]
       try omega)
      have HKF:=hid hk8
      rw [hk8] at c0
      clear hall hk8
      go_wp2_with (go_at_call 127; refine (RefName_any _ _ hss).mono ?_; rintro e w' ⟨rfl,rfl⟩)
      all_goals
       go_ret
       refine ⟨ret_bool ?_,HK.out.bel⟩
       rw [← HE.out]
       simp [*]
       try (intros; omega)
  ·have HF:Hid (false=G):=hid (by rw [HG.out]; simp [Tm.node,hB])
   have hq:((t.ts.length:Int) != kids t.k)=true:=by simpa using hB
   clear hB
   generalize kids t.k=K at hA HK1 hq
   have dA:decide (K < 0)=false:=by simpa using hA
   clear hA
   unfold Tm.val Tm.vals
   go_enter Tryz.func77,Tryz.ntmps77
   go_wp2_with fail
   go_quiet ((go_at_call 125; exact Calls.quiet_of_same (HK1.out _)))
   go_wp2_with fail
   go_ret
   exact ⟨ret_bool HF.out,((Kept.start w (t.box h)).drewN _).bel⟩
end Go.Proofs.YtmngddomnaaedaaGreat
namespace Go.Proofs.YtmngddomnaaedaaGreat
open Go.RowKit Go.Shelf Lvl Trm
def Trm.Tm.fits (t:Tm):Bool :=
 isKind t.k && decide (0≤t.n) && decide (t.n≤(kd t.k).top) && decide ((t.ts.length:Int)=(kd t.k).terms) && decide ((kd t.k).least≤(t.ls.length:Int)) && decide ((t.ls.length:Int)≤(kd t.k).most) &&
 (if (kd t.k).named=true then nameOk t.s else t.s.toList.isEmpty) && t.ls.all Lv.may
theorem Trm.drew_below (B:Nat) (w:World) (n:Nat):Below B w (w.drewN n):=by
 refine ⟨?_,?_,?_,?_,?_⟩ <;> simp [World.drewN]
theorem Trm.fits_node (t:Tm):t.fits=t.node:=by
 unfold Tm.fits Tm.node
 by_cases h:t.k=1∨t.k=2∨t.k=3∨t.k=4∨t.k=5∨t.k=6∨t.k=7∨t.k=8
 ·rw [empty_iff]
  generalize t.ls.all Lv.may=A
  generalize nameOk t.s=B
  rcases h with h | h | h | h | h | h | h | h <;> rw [h,Bool.eq_iff_iff] <;> simp [kd,isKind,kids] <;> constructor <;> (intro hh; (try refine ⟨⟨⟨⟨⟨⟨?_,?_⟩,?_⟩,?_⟩,?_⟩,?_⟩,?_⟩); all_goals first | omega | (simp_all; try omega) | simp_all)
 ·have h1:isKind t.k=false:=by unfold isKind; simp; omega
  have h2:¬ 0≤kids t.k:=by
   unfold kids
   rw [if_neg (by omega),if_neg (by omega),if_neg (by omega),if_neg (by omega)]
   omega
  simp [h1,h2]
def Trm.FitRel (w:World) (ls:List Lv) (i:Value) (wr:World):Prop :=
 ∃ k:Nat,i=.int .i64 k∧k≤ls.length∧(ls.take k).all Lv.may=true∧Below w.heap.size w wr
theorem fits_any (t:Tm) (b o:Nat) (w:World) (hat:TAt w.heap.size w b o t) :
 Calls Tryz.prog 152 #[.pointer (some ⟨b,o,none⟩)] w fun e w'=>e=.returned (.bool t.node)∧Below w.heap.size w w':=by
 rw [← fits_node]
 obtain ⟨G,hG⟩:∃ G,G=t.fits:=⟨_,rfl⟩
 rw [← hG]
 have HG:=hid hG
 clear hG
 obtain ⟨hb,h,hc,hin⟩:=hat
 have hfit:=hin.fit
 have hls:=hfit.ls
 have hts:=hfit.ts
 have hss:=hfit.s
 clear hfit
 have HIN:=hid hin
 have HC:=hid hc
 clear hin
 obtain ⟨c0,c1,c2,c3,c4⟩:=hc
 have HN:Hid (t.fits=false→false=G):=hid (fun hh=>by rw [HG.out,hh])
 have HF:Hid (t.fits=(isKind t.k && decide (0≤t.n) && decide (t.n≤(kd t.k).top) && decide ((t.ts.length:Int)=(kd t.k).terms) && decide ((kd t.k).least≤(t.ls.length:Int)) && decide ((t.ls.length:Int)≤(kd t.k).most) &&
  (if (kd t.k).named=true then nameOk t.s else t.s.toList.isEmpty) && t.ls.all Lv.may)):=hid rfl
 have HK:=hid (kindOf_any t.k w)
 unfold Kd.val Kd.vals at HK
 generalize kd t.k=a at HF HK
 generalize isKind t.k=is at HF HK
 have ht:∀ W,Below w.heap.size w W→TCells W b o t h:=fun W hW=>HC.out.below hW hb
 have HT:=hid ht
 clear ht
 cases is
 ·have HF1:=hid (HN.out (by rw [HF.out]; simp))
  clear HN HF
  go_enter Tryz.func152,Tryz.ntmps152
  go_wp2_with fail
  refine HK.out.mono ?_
  rintro e w1 ⟨rfl,b1⟩
  obtain ⟨d0,d1,d2,d3,d4⟩:=HT.out _ b1
  have hz:=b1.size
  have hb2:b < w1.heap.size:=by omega
  have HB:=hid b1
  clear b1 c0 c1 c2 c3 c4
  go_wp2_with fail
  go_quiet (fail)
  go_wp2_with fail
  go_ret
  exact ⟨ret_bool HF1.out,HB.out.trans ((((Below.refl w1.heap.size w1).alloc (Nat.le_refl _) _).trans (drew_below _ _ _)).mono hz)⟩
 ·by_cases hq0:t.n < 0
  ·have d0x:decide (t.n < 0)=true:=by simpa using hq0
   have HF1:=hid (HN.out (by rw [HF.out]; simp [show ¬ 0≤t.n by omega]))
   clear hq0 HN HF
   go_enter Tryz.func152,Tryz.ntmps152
   go_wp2_with fail
   refine HK.out.mono ?_
   rintro e w1 ⟨rfl,b1⟩
   obtain ⟨d0,d1,d2,d3,d4⟩:=HT.out _ b1
   have hz:=b1.size
   have hb2:b < w1.heap.size:=by omega
   have HB:=hid b1
   clear b1 c0 c1 c2 c3 c4
   go_wp2_with fail
   go_quiet (fail)
   go_wp2_with fail
   go_ret
   exact ⟨ret_bool HF1.out,HB.out.trans ((((Below.refl w1.heap.size w1).alloc (Nat.le_refl _) _).trans (drew_below _ _ _)).mono hz)⟩
  ·have d0x:decide (t.n < 0)=false:=by simpa using hq0
   by_cases hq1:a.top < t.n
   ·have d1x:decide (a.top < t.n)=true:=by simpa using hq1
    have HF1:=hid (HN.out (by rw [HF.out]; simp [show ¬ t.n≤a.top by omega]))
    clear hq1 HN HF
    go_enter Tryz.func152,Tryz.ntmps152
    go_wp2_with fail
    refine HK.out.mono ?_
    rintro e w1 ⟨rfl,b1⟩
    obtain ⟨d0,d1,d2,d3,d4⟩:=HT.out _ b1
    have hz:=b1.size
    have hb2:b < w1.heap.size:=by omega
    have HB:=hid b1
    clear b1 c0 c1 c2 c3 c4
    go_wp2_with fail
    go_quiet (fail)
    go_wp2_with fail
    go_ret
    exact ⟨ret_bool HF1.out,HB.out.trans ((((Below.refl w1.heap.size w1).alloc (Nat.le_refl _) _).trans (drew_below _ _ _)).mono hz)⟩
   ·have d1x:decide (a.top < t.n)=false:=by simpa using hq1
    by_cases hq2:¬ (t.ts.length:Int)=a.terms
    ·have d2x:((t.ts.length:Int) != a.terms)=true:=by simpa using hq2
     have HF1:=hid (HN.out (by rw [HF.out]; simp [hq2]))
     clear hq2 HN HF
     go_enter Tryz.func152,Tryz.ntmps152
     go_wp2_with fail
     refine HK.out.mono ?_
     rintro e w1 ⟨rfl,b1⟩
     obtain ⟨d0,d1,d2,d3,d4⟩:=HT.out _ b1
     have hz:=b1.size
     have hb2:b < w1.heap.size:=by omega
     have HB:=hid b1
     clear b1 c0 c1 c2 c3 c4
     go_wp2_with fail
     go_quiet (fail)
     go_wp2_with fail
     go_ret
     exact ⟨ret_bool HF1.out,HB.out.trans ((((Below.refl w1.heap.size w1).alloc (Nat.le_refl _) _).trans (drew_below _ _ _)).mono hz)⟩
    ·have d2x:((t.ts.length:Int) != a.terms)=false:=by simpa using hq2
     by_cases hq3:(t.ls.length:Int) < a.least
     ·have d3x:decide ((t.ls.length:Int) < a.least)=true:=by simpa using hq3
      have HF1:=hid (HN.out (by rw [HF.out]; simp [show ¬ a.least≤(t.ls.length:Int) by omega]))
      clear hq3 HN HF
      go_enter Tryz.func152,Tryz.ntmps152
      go_wp2_with fail
      refine HK.out.mono ?_
      rintro e w1 ⟨rfl,b1⟩
      obtain ⟨d0,d1,d2,d3,d4⟩:=HT.out _ b1
      have hz:=b1.size
      have hb2:b < w1.heap.size:=by omega
      have HB:=hid b1
      clear b1 c0 c1 c2 c3 c4
      go_wp2_with fail
      go_quiet (fail)
      go_wp2_with fail
      go_ret
      exact ⟨ret_bool HF1.out,HB.out.trans ((((Below.refl w1.heap.size w1).alloc (Nat.le_refl _) _).trans (drew_below _ _ _)).mono hz)⟩
     ·have d3x:decide ((t.ls.length:Int) < a.least)=false:=by simpa using hq3
      by_cases hq4:a.most < (t.ls.length:Int)
      ·have d4x:decide (a.most < (t.ls.length:Int))=true:=by simpa using hq4
       have HF1:=hid (HN.out (by rw [HF.out]; simp [show ¬ (t.ls.length:Int)≤a.most by omega]))
       clear hq4 HN HF
       go_enter Tryz.func152,Tryz.ntmps152
       go_wp2_with fail
       refine HK.out.mono ?_
       rintro e w1 ⟨rfl,b1⟩
       obtain ⟨d0,d1,d2,d3,d4⟩:=HT.out _ b1
       have hz:=b1.size
       have hb2:b < w1.heap.size:=by omega
       have HB:=hid b1
       clear b1 c0 c1 c2 c3 c4
       go_wp2_with fail
       go_quiet (fail)
       go_wp2_with fail
       go_ret
       exact ⟨ret_bool HF1.out,HB.out.trans ((((Below.refl w1.heap.size w1).alloc (Nat.le_refl _) _).trans (drew_below _ _ _)).mono hz)⟩
      ·have d4x:decide (a.most < (t.ls.length:Int))=false:=by simpa using hq4
       have HR:Hid (t.fits=((if a.named=true then nameOk t.s else t.s.toList.isEmpty) && t.ls.all Lv.may)):=hid (by
        rw [HF.out]
        have e2:=Classical.not_not.1 hq2
        simp only [decide_eq_true (show 0≤t.n by omega),decide_eq_true (show t.n≤a.top by omega),decide_eq_true e2,decide_eq_true (show a.least≤(t.ls.length:Int) by omega),decide_eq_true (show (t.ls.length:Int)≤a.most by omega),Bool.true_and])
       clear HF hq0 hq1 hq2 hq3 hq4
       cases hnm:a.named
       ·cases hem:t.s.toList.isEmpty
        ·rw [hnm] at HR HK
         clear hnm
         have hem1:¬ t.s.toList=[]:=by simpa using hem
         have HF1:=hid (HN.out (by rw [HR.out]; simp [hem1]))
         go_enter Tryz.func152,Tryz.ntmps152
         go_wp2_with fail
         refine HK.out.mono ?_
         rintro e w1 ⟨rfl,b1⟩
         obtain ⟨d0,d1,d2,d3,d4⟩:=HT.out _ b1
         have hz:=b1.size
         have hb2:b < w1.heap.size:=by omega
         have HB:=hid b1
         clear b1 c0 c1 c2 c3 c4
         go_wp2_with fail
         go_quiet (fail)
         go_wp2_with fail
         go_ret
         exact ⟨ret_bool HF1.out,HB.out.trans ((((Below.refl w1.heap.size w1).alloc (Nat.le_refl _) _).trans (drew_below _ _ _)).mono hz)⟩
        ·rw [hnm] at HR HK
         clear hnm
         have hem1:t.s.toList=[]:=by simpa using hem
         have HS:Hid ((if false=true then nameOk t.s else t.s.toList.isEmpty)=true):=hid (by simp [hem1])
         go_enter Tryz.func152,Tryz.ntmps152
         go_wp2_with fail
         refine HK.out.mono ?_
         rintro e w1 ⟨rfl,b1⟩
         obtain ⟨d0,d1,d2,d3,d4⟩:=HT.out _ b1
         have hz:=b1.size
         have hb2:b < w1.heap.size:=by omega
         have HB:=hid b1
         clear b1 c0 c1 c2 c3 c4
         go_wp2_with fail
         go_quiet (fail)
         go_wp2_with fail
         go_loopw [90] (fun i wr=>FitRel w t.ls i wr) (fun i _=>t.ls.length - (intOf i).toNat)
         case atStart=>exact ⟨0,rfl,by omega,rfl,HB.out.trans ((((Below.refl w1.heap.size w1).alloc (Nat.le_refl _) _).trans (drew_below _ _ _)).mono hz)⟩
         case round =>
          clear d0 d1 d2 d3 d4
          obtain ⟨k,rfl,hk,hall,hbel⟩:=hrel
          have HB2:=hid hbel
          have HA:=hid hall
          clear hbel hall
          by_cases hlt:k < t.ls.length
          ·obtain ⟨b2,off,hao,l0,l1,l2,l3,l4⟩:=(Trm.LRow.low HIN.out.levels (Tm.In_iff.1 HIN.out).2.2.1 HB2.out).place k hlt
           have HAO:=hid hao
           rw [hao]
           clear hao
           obtain ⟨x,hx⟩:∃ x,x=t.ls[k]:=⟨_,rfl⟩
           rw [← hx] at l0 l1 l2 l3 l4
           have hmay:=fun w=>may_any x w
           have HNX:Hid (x.may=false→false=G):=hid (fun hf=>HN.out (by
            have:t.ls.all Lv.may=false:=Lvl.all_take_no hlt (by rw [← hx]; exact hf)
            rw [HR.out,this,Bool.and_false]))
           have HY:Hid (x.may=true→(t.ls.take (k + 1)).all Lv.may=true):=hid (fun hf=>Lvl.all_take_yes hlt HA.out (by rw [← hx]; exact hf))
           obtain ⟨r,hr⟩:∃ r,r=x.may:=⟨_,rfl⟩
           rw [← hr] at hmay HNX HY
           have HM:=hid hmay
           clear hmay hr hx
           cases r
           ·go_wp2_with fail
            unfold Lv.val at HM
            refine (HM.out _).mono ?_
            rintro e w3 ⟨rfl,b3⟩
            have HB3:=hid ((HB2.out.alloc HB2.out.size x.box).trans (b3.mono (by have:=HB2.out.size; simp; omega)))
            clear b3
            go_wp2_with fail
            go_ret
            exact ⟨ret_bool (HNX.out (by trivial)),HB3.out⟩
           ·go_wp2_with fail
            unfold Lv.val at HM
            refine (HM.out _).mono ?_
            rintro e w3 ⟨rfl,b3⟩
            have HB3:=hid ((HB2.out.alloc HB2.out.size x.box).trans (b3.mono (by have:=HB2.out.size; simp; omega)))
            clear b3
            go_wp2_with fail
            go_roundw
            case rel=>exact ⟨k + 1,by go_num,by omega,HY.out (by trivial),HB3.out⟩
            case measure=>simp [intOf]; omega
          ·have HE:Hid (true=G):=hid (by
            have hall:=HA.out
            rw [List.take_of_length_le (by omega)] at hall
            rw [HG.out,HR.out,hall,Bool.and_true,HS.out])
           go_wp2_with fail
           go_ret
           exact ⟨ret_bool HE.out,HB2.out⟩
       ·cases hem:t.s.toList.isEmpty
        ·cases hok:nameOk t.s
         ·rw [hnm] at HR HK
          clear hnm
          have HNAME:Hid (∀ w,Calls Tryz.prog 97 #[.string t.s] w fun e w'=>e=.returned (.bool false)∧w=w'):=hid (fun w=>by rw [← hok]; exact Name_any t.s w hss)
          have hem1:¬ t.s.toList=[]:=by simpa using hem
          have HF1:=hid (HN.out (by rw [HR.out]; simp [hok]))
          clear hok
          go_enter Tryz.func152,Tryz.ntmps152
          go_wp2_with fail
          refine HK.out.mono ?_
          rintro e w1 ⟨rfl,b1⟩
          obtain ⟨d0,d1,d2,d3,d4⟩:=HT.out _ b1
          have hz:=b1.size
          have hb2:b < w1.heap.size:=by omega
          have HB:=hid b1
          clear b1 c0 c1 c2 c3 c4
          go_wp2_with fail
          go_quiet (fail)
          go_wp2_with (go_at_call 97; refine (HNAME.out _).mono ?_; rintro e w' ⟨rfl,rfl⟩)
          go_ret
          exact ⟨ret_bool HF1.out,HB.out.trans ((((Below.refl w1.heap.size w1).alloc (Nat.le_refl _) _).trans (drew_below _ _ _)).mono hz)⟩
         ·rw [hnm] at HR HK
          clear hnm
          have HNAME:Hid (∀ w,Calls Tryz.prog 97 #[.string t.s] w fun e w'=>e=.returned (.bool true)∧w=w'):=hid (fun w=>by rw [← hok]; exact Name_any t.s w hss)
          have hem1:¬ t.s.toList=[]:=by simpa using hem
          have HS:Hid ((if true=true then nameOk t.s else t.s.toList.isEmpty)=true):=hid (by simp [hok])
          clear hok
          go_enter Tryz.func152,Tryz.ntmps152
          go_wp2_with fail
          refine HK.out.mono ?_
          rintro e w1 ⟨rfl,b1⟩
          obtain ⟨d0,d1,d2,d3,d4⟩:=HT.out _ b1
          have hz:=b1.size
          have hb2:b < w1.heap.size:=by omega
          have HB:=hid b1
          clear b1 c0 c1 c2 c3 c4
          go_wp2_with fail
          go_quiet (fail)
          go_wp2_with (go_at_call 97; refine (HNAME.out _).mono ?_; rintro e w' ⟨rfl,rfl⟩)
          go_loopw [90] (fun i wr=>FitRel w t.ls i wr) (fun i _=>t.ls.length - (intOf i).toNat)
          case atStart=>exact ⟨0,rfl,by omega,rfl,HB.out.trans ((((Below.refl w1.heap.size w1).alloc (Nat.le_refl _) _).trans (drew_below _ _ _)).mono hz)⟩
          case round =>
           clear d0 d1 d2 d3 d4
           obtain ⟨k,rfl,hk,hall,hbel⟩:=hrel
           have HB2:=hid hbel
           have HA:=hid hall
           clear hbel hall
           by_cases hlt:k < t.ls.length
           ·obtain ⟨b2,off,hao,l0,l1,l2,l3,l4⟩:=(Trm.LRow.low HIN.out.levels (Tm.In_iff.1 HIN.out).2.2.1 HB2.out).place k hlt
            have HAO:=hid hao
            rw [hao]
            clear hao
            obtain ⟨x,hx⟩:∃ x,x=t.ls[k]:=⟨_,rfl⟩
            rw [← hx] at l0 l1 l2 l3 l4
            have hmay:=fun w=>may_any x w
            have HNX:Hid (x.may=false→false=G):=hid (fun hf=>HN.out (by
             have:t.ls.all Lv.may=false:=Lvl.all_take_no hlt (by rw [← hx]; exact hf)
             rw [HR.out,this,Bool.and_false]))
            have HY:Hid (x.may=true→(t.ls.take (k + 1)).all Lv.may=true):=hid (fun hf=>Lvl.all_take_yes hlt HA.out (by rw [← hx]; exact hf))
            obtain ⟨r,hr⟩:∃ r,r=x.may:=⟨_,rfl⟩
            rw [← hr] at hmay HNX HY
            have HM:=hid hmay
            clear hmay hr hx
            cases r
            ·go_wp2_with fail
             unfold Lv.val at HM
             refine (HM.out _).mono ?_
             rintro e w3 ⟨rfl,b3⟩
             have HB3:=hid ((HB2.out.alloc HB2.out.size x.box).trans (b3.mono (by have:=HB2.out.size; simp; omega)))
             clear b3
             go_wp2_with fail
             go_ret
             exact ⟨ret_bool (HNX.out (by trivial)),HB3.out⟩
            ·go_wp2_with fail
             unfold Lv.val at HM
             refine (HM.out _).mono ?_
             rintro e w3 ⟨rfl,b3⟩
             have HB3:=hid ((HB2.out.alloc HB2.out.size x.box).trans (b3.mono (by have:=HB2.out.size; simp; omega)))
             clear b3
             go_wp2_with fail
             go_roundw
             case rel=>exact ⟨k + 1,by go_num,by omega,HY.out (by trivial),HB3.out⟩
             case measure=>simp [intOf]; omega
           ·have HE:Hid (true=G):=hid (by
             have hall:=HA.out
             rw [List.take_of_length_le (by omega)] at hall
             rw [HG.out,HR.out,hall,Bool.and_true,HS.out])
            go_wp2_with fail
            go_ret
            exact ⟨ret_bool HE.out,HB2.out⟩
        ·rw [hnm] at HR HK
         clear hnm
         have HNAME:Hid (∀ w,Calls Tryz.prog 97 #[.string t.s] w fun e w'=>e=.returned (.bool false)∧w=w'):=hid (fun w=>by rw [← nameOk_no (Or.inl (by have:=hem; rw [empty_iff] at this; simpa using this))]; exact Name_any t.s w hss)
         have hem1:t.s.toList=[]:=by simpa using hem
         have hok:nameOk t.s=false:=nameOk_no (Or.inl (by have:=hem; rw [empty_iff] at this; simpa using this))
         have HF1:=hid (HN.out (by rw [HR.out]; simp [hok]))
         clear hok
         go_enter Tryz.func152,Tryz.ntmps152
         go_wp2_with fail
         refine HK.out.mono ?_
         rintro e w1 ⟨rfl,b1⟩
         obtain ⟨d0,d1,d2,d3,d4⟩:=HT.out _ b1
         have hz:=b1.size
         have hb2:b < w1.heap.size:=by omega
         have HB:=hid b1
         clear b1 c0 c1 c2 c3 c4
         go_wp2_with fail
         go_quiet (fail)
         go_wp2_with (go_at_call 97; refine (HNAME.out _).mono ?_; rintro e w' ⟨rfl,rfl⟩)
         go_ret
         exact ⟨ret_bool HF1.out,HB.out.trans ((((Below.refl w1.heap.size w1).alloc (Nat.le_refl _) _).trans (drew_below _ _ _)).mono hz)⟩
end Go.Proofs.YtmngddomnaaedaaGreat
namespace Go.Proofs.YtmngddomnaaedaaGreat
open Go.RowKit Go.Shelf Lvl Trm
def Trm.badMay (x:Tm):Bool:=!x.node
theorem may_t_any (t:Tm):∀ (h:Hd) (l d:Int) (w:World),0≤l→l≤65536→-1≤d→d≤4096→t.In w.heap.size w h →
 Calls Tryz.prog 41 #[t.val h,.int .i64 l,.int .i64 d] w fun e w'=>e=.returned (.int .i64 (t.left badMay l d))∧Below w.heap.size w w':=by
 induction t using Tm.ind with
 | h t ih =>
   intro h l d w hl0 hl1 hd0 hd1 hin
   have hfit:=hin.fit
   have hls:=hfit.ls
   have hts:=hfit.ts
   clear hfit
   have HIN:=hid hin
   have HIH:=hid ih
   clear hin ih
   unfold Tm.val Tm.vals
   by_cases h1:l - 1 < 0
   ·have hG:t.left badMay l d=-1:=by rw [Tm.left_eq,if_pos (Or.inl h1)]
    rw [hG]
    clear hG
    go_enter Tryz.func41,Tryz.ntmps41
    go_wp2_with fail
    go_ret
    exact ⟨rfl,below_one _ _⟩
   ·by_cases h2:d≤0
    ·have hG:t.left badMay l d=-1:=by rw [Tm.left_eq,if_pos (Or.inr (Or.inl h2))]
     rw [hG]
     clear hG
     go_enter Tryz.func41,Tryz.ntmps41
     go_wp2_with fail
     go_ret
     exact ⟨rfl,below_one _ _⟩
    ·have hnode:=fun w hin=>node_any t h w hin
     have HIA:=hid (Tm.In.mono (B':=(w.alloc (t.box h)).heap.size) (by simp) _ _ (Tm.In.below (below_one w (t.box h)) _ _ HIN.out))
     cases hnd:t.node
     ·have hG:t.left badMay l d=-1:=by rw [Tm.left_eq,if_pos (Or.inr (Or.inr (by simp [badMay,hnd])))]
      rw [hG]
      rw [hnd] at hnode
      have HN:=hid hnode
      clear hG hnode hnd
      unfold Tm.val Tm.vals at HN
      go_enter Tryz.func41,Tryz.ntmps41
      go_wp2_with fail
      refine (HN.out _ HIA.out).mono ?_
      rintro e w1 ⟨rfl,b1⟩
      have HK:=hid ((Kept.start w (t.box h)).step b1)
      clear b1
      go_wp2_with fail
      go_ret
      exact ⟨rfl,HK.out.bel⟩
     ·obtain ⟨G,hG⟩:∃ G,G=t.left badMay l d:=⟨_,rfl⟩
      rw [← hG]
      have hG':leftL badMay (t.ts.drop 0) (l - 1) (d - 1)=G:=by
       rw [hG,Tm.left_eq,if_neg (by rintro (h | h | h) <;> first | omega | (simp [badMay,hnd] at h))]; rfl
      have HG:=hid hG'
      rw [hnd] at hnode
      have HN:=hid hnode
      clear hG hG' hnode hnd
      unfold Tm.val Tm.vals at HN
      go_enter Tryz.func41,Tryz.ntmps41
      go_wp2_with fail
      refine (HN.out _ HIA.out).mono ?_
      rintro e w1 ⟨rfl,b1⟩
      have HK0:=hid ((Kept.start w (t.box h)).step b1)
      have hc:=Tm.cells HK0.out.box
      clear b1
      obtain ⟨c0,c1,c2,c3,c4⟩:=hc
      go_wp2_with fail
      clear c0 c1 c2 c3 c4
      go_loopw [1,7] (fun v i wr=>LeftRel badMay w (t.box h) t.ts (d - 1) G 65536 v i wr) (fun _ i _=>t.ts.length - (intOf i).toNat)
      case atStart=>exact ⟨0,l - 1,by go_num,rfl,by omega,by omega,by omega,HG.out,HK0.out⟩
      case round =>
       obtain ⟨k,L,rfl,rfl,hk,hL0,hL1,hGk,hkept⟩:=hrel
       have HK:=hid hkept
       have HGk:=hid hGk
       clear hkept hGk
       obtain ⟨c0,c1,c2,c3,c4⟩:=Tm.cells HK.out.box
       by_cases hlt:k < t.ts.length
       ·obtain ⟨b,off,hao,hat⟩:=HIN.out.kid k hlt
        obtain ⟨hb,hd',⟨k0,k1,k2,k3,k4⟩,hin'⟩:=hat.below HK.out.bel
        rw [hao] at c4
        have HX:=hid (show ∀ W,t.ts[k].In W.heap.size W hd'→Calls Tryz.prog 41 #[t.ts[k].val hd',.int .i64 L,.int .i64 (d - 1)] W fun e w'=>e=.returned (.int .i64 (t.ts[k].left badMay L (d - 1)))∧Below W.heap.size W w' from fun W hW=>HIH.out _ (List.getElem_mem hlt) hd' L (d - 1) W hL0 hL1 (by omega) (by omega) hW)
        have HI:=hid (Tm.In.mono HK.out.bel.size _ _ hin')
        have HGG:Hid ((if t.ts[k].left badMay L (d - 1) < 0 then -1 else leftL badMay (t.ts.drop (k + 1)) (t.ts[k].left badMay L (d - 1)) (d - 1))=G):=by
         have:=HGk.out
         rw [drop_get hlt,leftL] at this
         exact this
        have HLE:=hid (t.ts[k].left_ge badMay L (d - 1))
        clear hat hin' hao HGk
        generalize t.ts[k]=x at k0 k1 k2 k3 k4 HX HI HGG HLE
        unfold Tm.val Tm.vals at HX
        obtain ⟨X,hX⟩:∃ X,X=x.left badMay L (d - 1):=⟨_,rfl⟩
        rw [← hX] at HX HGG HLE
        clear hX
        go_wp2_with fail
        refine (HX.out _ HI.out).mono ?_
        rintro e w1 ⟨rfl,b1⟩
        have HK1:=hid (HK.out.step b1)
        have hX2:=HLE.out
        clear b1 HLE k0 k1 k2 k3 k4
        by_cases hneg:X < 0
        ·have HE:Hid (-1=G):=by have:=HGG.out; rwa [if_pos hneg] at this
         go_wp2_with fail
         go_ret
         exact ⟨ret_int HE.out,HK1.out.bel⟩
        ·have HE:Hid (leftL badMay (t.ts.drop (k + 1)) X (d - 1)=G):=by have:=HGG.out; rwa [if_neg hneg] at this
         go_wp2_with fail
         go_roundw
         case rel=>exact ⟨k + 1,X,rfl,by go_num,by omega,by omega,by omega,HE.out,HK1.out⟩
         case measure=>simp [intOf]; omega
       ·have HE:Hid (L=G):=by
         have:=HGk.out
         rw [List.drop_eq_nil_of_le (by omega),leftL] at this
         exact this
        go_wp2_with fail
        go_ret
        exact ⟨ret_int HE.out,HK.out.bel⟩
theorem RefTMay_any (t:Tm) (h:Hd) (w:World) (hin:t.In w.heap.size w h) :
 Calls Tryz.prog 14 #[t.val h] w fun e w'=>e=.returned (.bool t.may)∧Below w.heap.size w w':=by
 have HX:=hid (may_t_any t h 65536 4096)
 have HI:=hid (Tm.In.mono (B':=(w.alloc (t.box h)).heap.size) (by simp) _ _ (Tm.In.below (below_one w (t.box h)) _ _ hin))
 have HL:=hid (t.left_ge badMay 65536 4096)
 obtain ⟨X,hX⟩:∃ X,X=t.left badMay 65536 4096:=⟨_,rfl⟩
 have hd:t.may=decide (0≤X):=by rw [hX]; rfl
 rw [← hX] at HX HL
 rw [hd]
 clear hX hd hin
 unfold Tm.val Tm.vals at HX ⊢
 go_enter Tryz.func14,Tryz.ntmps14
 go_wp2_with fail
 refine (HX.out _ (by decide) (by decide) (by decide) (by decide) HI.out).mono ?_
 rintro e w1 ⟨rfl,b1⟩
 have HB:=hid ((below_one w (t.box h)).trans (b1.mono (by simp)))
 have hX:=HL.out
 clear b1 HL HX HI
 go_wp2_with fail
 go_ret
 exact ⟨rfl,HB.out⟩
end Go.Proofs.YtmngddomnaaedaaGreat
