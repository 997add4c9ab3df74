/-
 subst.Levels: what is answered lies there whatever is written into the blocks of P,where the term does.
-/
import Derived.Lib.Hide
import Derived.Test.YtmngddomnaaedaaGreatQB1
import Derived.Test.YtmngddomnaaedaaGreatQB34
import Derived.Test.YtmngddomnaaedaaGreatQB14
import Derived.Test.YtmngddomnaaedaaGreatQB24
open Go.Lib (hid)
set_option maxRecDepth 100000
set_option maxHeartbeats 32000000
namespace Go.Proofs.YtmngddomnaaedaaGreat
open Go.RowKit Go.Shelf Lvl Trm
theorem levels1Q_any {B N K:Nat} {Q:Nat→Prop} (hKQ:Q K) (hKN:K < N) (hBK:B≤K) (bo:Option Addr) (bc:Nat) (y0:List Lv) (hy0:y0.length≤1000000) (hbc:y0.length≤bc) (y:List Lv) (t:Tm) (b o:Nat) (u:Int) (w:World) (hi:LevInv bo bc y0 B K y w) (hn:t.node=true) (hat:SAtQ Q (fun q=>q=K) w b o t) (hB:B≤w.heap.size) (hN:N≤w.heap.size) :
 Calls Tryz.prog 85 #[.pointer (some ⟨b,o,none⟩),.int .i64 u,.pointer (some ⟨K,0,none⟩)] w (ThrPostQ Q (fun q=>q=K) (lfLev y t u) (LevInv bo bc y0 B K) w):=by
 have hK:K < w.heap.size:=Nat.lt_of_lt_of_le hKN hN
 obtain ⟨hbP,hb,⟨lo,lc,tq,tc⟩,⟨c0,c1,c2,c3,c4⟩,hin⟩:=hat
 have hn4:=node_ls hn
 have hk8:=(node_few hn).2.2
 have HFI:=hid hin
 have HKQ:=hid hKQ
 obtain ⟨hfit,hrow,hlow,_⟩:=Tm.In_iff.1 hin.here
 dsimp only at c3 c4 hrow hlow
 obtain ⟨R,hR⟩:∃ R,R=levL t.ls y:=⟨_,rfl⟩
 obtain ⟨n,hnl⟩:∃ n,n=t.ls.length:=⟨_,rfl⟩
 obtain ⟨QQ,hQ⟩:∃ QQ,QQ=ThrPostQ Q (fun q=>q=K) (lfLev y t u) (LevInv bo bc y0 B K) w:=⟨_,rfl⟩
 have HQZ:Hid (∀ w',(R.2.1 ≠ 0∨sameL R.2.2 t.ls=true)→LevInv bo bc y0 B K R.1 w'→RanS (fun q=>q=K) w w'→QQ (.returned (.tuple #[zeroT.val ⟨none,0,none,0⟩,.int .i64 R.2.1])) w'):=hid (fun w' hc h1 h2=>by
  have e:lfLev y t u=(R.1,R.2.1,none):=by
   rw [hR] at hc ⊢
   unfold lfLev
   rw [if_neg]
   rintro ⟨x1,x2⟩
   rcases hc with hc | hc
   ·exact hc x1
   ·rw [hc] at x2; cases x2
  rw [hQ,e]
  exact ⟨⟨none,0,none,0⟩,rfl,firm_zero,h1,h2⟩)
 have HQY:Hid (∀ w' h',R.2.1=0→sameL R.2.2 t.ls=false→FirmS (fun q=>Q q∧q < w.heap.size) w' (.mk t.k 0 t.s R.2.2 []) h'→LevInv bo bc y0 B K R.1 w'→RanS (fun q=>q=K) w w'→QQ (.returned (.tuple #[(Tm.mk t.k 0 t.s R.2.2 []).val h',.int .i64 0])) w'):=hid (fun w' h' hc hs h0 h1 h2=>by
  have e:lfLev y t u=(R.1,R.2.1,some (.mk t.k 0 t.s R.2.2 [])):=by
   rw [hR] at hc hs ⊢
   unfold lfLev
   rw [if_pos ⟨hc,hs⟩]
  rw [hQ,e,hc]
  exact ⟨h',rfl,h0,h1,h2⟩)
 rw [← hQ]
 rw [← hnl] at c3 hn4
 have hmk:=fun W=>make_levels n hn4 W
 have HR:=hid hR
 have HNL:=hid hnl
 have HROW:=hid hrow
 have HLOW:=hid hlow
 have HI:=hid hi
 have HFIT:=hid hfit
 have HW0:=hid (show LBlk ((w.alloc (.cells #[.int .u8 0,.int .i64 0,.string no,.slice none 0 0,.slice none 0 0] 25)).alloc (zeros n)) (w.heap.size + 1) n [] from by
  have:=LBlk.made (w.alloc (.cells #[.int .u8 0,.int .i64 0,.string no,.slice none 0 0,.slice none 0 0] 25)) n
  rwa [World.size_alloc] at this)
 have HZ0:=hid (new1of2 w (.cells #[.int .u8 0,.int .i64 0,.string no,.slice none 0 0,.slice none 0 0] 25) (zeros n))
 have HB0:=hid (below_two w (.cells #[.int .u8 0,.int .i64 0,.string no,.slice none 0 0,.slice none 0 0] 25) (zeros n))
 have HC0:=hid c0
 have HC2:=hid c2
 have HC3:=hid c3
 clear hKQ hQ hR hnl hin hrow hlow hi hn hfit c0 c1 c2 c4
 go_enter Tryz.func85,Tryz.ntmps85
 go_wp2_with fail
 go_loopw [23] (fun i wr=>LvRel w t.ls bo bc y0 K n R i wr) (fun i _=>n - (intOf i).toNat)
 case atStart=>exact ⟨0,y,[],rfl,by omega,rfl,by rw [HR.out]; rfl,by rw [HR.out]; rfl,fun _=>by rw [HR.out]; rfl,Lvl.keep HB0.out HI.out.1,HI.out.2.1,HW0.out,HZ0.out,RanS.of_below HB0.out⟩
 case round =>
  clear HW0 HZ0 HB0 hmk c3
  obtain ⟨k,y',out,rfl,hk,hol,h1,h2,h3,hKc,hyy,hblk,hz,hran⟩:=hrel
  subst hol
  have hszr:=hran.size
  have hbel:Below B w wr:=hran.below (fun q hq=>by omega) hB
  have hinv:LevInv bo bc y0 B K y' wr:=⟨hKc,hyy,LRow.low HI.out.2.2.1 HI.out.2.2.2 hbel,HI.out.2.2.2⟩
  have hy'l:=hinv.len
  have HINV:=hid hinv
  have HKC:=hid hKc
  have HBLK:=hid hblk
  have HZ:=hid hz
  have HRAN:=hid hran
  have HBEL:=hid hbel
  have HLI:=hid (fun (W:World) (x:List Lv) (hk:W.heap[K]?=some (.cells #[.slice bo x.length bc] 22)) (hx:x=y0∨x=y0.take 4) (hr:RanS (fun q=>q=K) w W)=>(show LevInv bo bc y0 B K x W from ⟨hk,hx,LRow.low HI.out.2.2.1 HI.out.2.2.2 (hr.below (fun q hq=>by omega) hB),HI.out.2.2.2⟩))
  have lK:K < wr.heap.size:=by omega
  have lG:w.heap.size + 1 < wr.heap.size:=hblk.lt
  have hKG:K ≠ w.heap.size + 1:=by omega
  have cK:=Lvl.one_cell hKc
  by_cases hlt:out.length < n
  ·have hltl:out.length < t.ls.length:=by rw [← HNL.out]; exact hlt
   obtain ⟨b2,off2,hlo,l0,l1,l2,l3,l4⟩:=(Tm.In_iff.1 (HFI.out.step (hran.wide (fun q hq=>hq ▸ HKQ.out))).here).2.1.place out.length hltl
   subst hlo
   rw [List.drop_eq_getElem_cons hltl] at h1 h2 h3
   generalize t.ls[out.length]=l at l0 l1 l2 l3 l4 h1 h2 h3
   have lb2:b2 < wr.heap.size:=World.block_lt_of_cell? wr _ l0
   obtain ⟨A,q,hA⟩:∃ A q,inst l y'=(A,q):=⟨_,_,rfl⟩
   have HIN:=hid (fun (W:World) (hW:Below wr.heap.size wr W)=>(show Calls Tryz.prog 86 #[.agg #[.int .i64 l.c,.int .i64 l.p0,.int .i64 l.p1,.int .i64 l.p2,.int .i64 l.p3],.slice bo y'.length bc] W (fun e w'=>e=.returned (.tuple #[.agg #[.int .i64 A.c,.int .i64 A.p0,.int .i64 A.p1,.int .i64 A.p2,.int .i64 A.p3],.int .i64 q])∧Below W.heap.size W w') from by
    have:=inst_any l bo bc y' W (LRow.low HINV.out.levels (fun hp a ha=>HINV.out.2.2.2 (by omega) a ha) (hW.mono (by omega))) (by omega)
    rw [hA] at this
    exact this))
   unfold levL at h1 h2 h3
   rw [hA] at h1 h2 h3
   dsimp only at h1 h2 h3
   have H1:=hid h1
   have H2:=hid h2
   have H3:=hid h3
   clear h1 h2 h3 hA hKc hblk hz hran hbel hinv
   go_wp2_with fail
   refine (HIN.out _ (below_one _ _)).mono ?_
   rintro e w2 ⟨rfl,bb⟩
   have hb2:Below wr.heap.size wr w2:=Trm.go (below_one wr _) bb
   have HB2:=hid hb2
   have HK2:=hid (Lvl.keep hb2 HKC.out)
   have hZ2:=Lvl.keep hb2 HZ.out
   have HZ2:=hid hZ2
   have hL2:=HBLK.out.of_block (hb2.block _ lG)
   have HL2:=hid hL2
   have HRAN2:=hid (HRAN.out.trans (RanS.of_below hb2))
   have lK2:K < w2.heap.size:=by have:=hb2.size; omega
   have lG2:w.heap.size + 1 < w2.heap.size:=hL2.lt
   have lA2:w.heap.size < w2.heap.size:=by omega
   clear bb hb2 l0 l1 l2 l3 l4 lb2 cK
   have cK:=Lvl.one_cell HK2.out
   by_cases hq:q=0
   ·subst hq
    obtain ⟨v0,g0⟩:=hL2.has (i:=out.length * 5) (by omega)
    obtain ⟨v1,g1⟩:=hL2.has (i:=out.length * 5 + 1) (by omega)
    obtain ⟨v2,g2⟩:=hL2.has (i:=out.length * 5 + 2) (by omega)
    obtain ⟨v3,g3⟩:=hL2.has (i:=out.length * 5 + 3) (by omega)
    obtain ⟨v4,g4⟩:=hL2.has (i:=out.length * 5 + 4) (by omega)
    have fG:∀ i,w2.frozen? ⟨w.heap.size + 1,i,none⟩=false:=fun i=>hL2.free i
    have fK:w2.frozen? ⟨K,0,none⟩=false:=free_one HK2.out
    obtain ⟨M,hM⟩:∃ M,M=(y'.take 4).length:=⟨_,rfl⟩
    have hMm:min (y'.length:Int) 4=(M:Int):=by rw [hM,List.length_take]; omega
    have hMc:M≤bc:=by rw [hM,List.length_take]; omega
    have hcut:=fun W=>cut_levels bo y'.length bc M hMc W
    have HM:=hid hM
    clear hL2 hM hZ2
    go_wp2_with fail
    have h5:=HL2.out.put hlt A
    have r5:=RanS.putO HRAN2.out (by omega:w.heap.size≤w.heap.size + 1) (out.length * 5) (.int .i64 A.c) (.int .i64 A.p0) (.int .i64 A.p1) (.int .i64 A.p2) (.int .i64 A.p3)
    have k5:=((putO_ran w2 (w.heap.size + 1) (out.length * 5) (.int .i64 A.c) (.int .i64 A.p0) (.int .i64 A.p1) (.int .i64 A.p2) (.int .i64 A.p3)).block K lK2 hKG).trans HK2.out
    have z5:=((putO_ran w2 (w.heap.size + 1) (out.length * 5) (.int .i64 A.c) (.int .i64 A.p0) (.int .i64 A.p1) (.int .i64 A.p2) (.int .i64 A.p3)).block w.heap.size lA2 (by omega)).trans HZ2.out
    unfold putO at r5 k5 z5
    generalize hW:((((w2.setCell ⟨w.heap.size + 1,out.length * 5,none⟩ (.int .i64 A.c)).setCell ⟨w.heap.size + 1,out.length * 5 + 1,none⟩ (.int .i64 A.p0)).setCell ⟨w.heap.size + 1,out.length * 5 + 2,none⟩ (.int .i64 A.p1)).setCell ⟨w.heap.size + 1,out.length * 5 + 3,none⟩ (.int .i64 A.p2)).setCell ⟨w.heap.size + 1,out.length * 5 + 4,none⟩ (.int .i64 A.p3)=W5 at h5 r5 k5 z5 ⊢
    have h6:=h5.of_block ((Ran.set W5 K 0 (.slice bo M bc)).block _ h5.lt (Ne.symm hKG))
    have k6:=Lvl.put_one k5 (.slice bo M bc)
    have z6:=Lvl.cells_other z5 (o:=0) (.slice bo M bc) (show K ≠ w.heap.size by omega)
    have r6:RanS (fun q=>q=K) w (W5.setCell ⟨K,0,none⟩ (.slice bo M bc)):=r5.trans (RanS.of_ran (P:=fun q=>q=K) (Ran.set W5 K 0 (.slice bo M bc)) rfl)
    clear hW h5 r5 k5 z5
    generalize hW:W5.setCell ⟨K,0,none⟩ (.slice bo M bc)=W6 at h6 k6 z6 r6 ⊢
    have h7:=h6.of_block ((below_one W6 (.cells #[.int .i64 A.c,.int .i64 A.p0,.int .i64 A.p1,.int .i64 A.p2,.int .i64 A.p3] 35)).block _ h6.lt)
    have k7:=keepA k6 (.cells #[.int .i64 A.c,.int .i64 A.p0,.int .i64 A.p1,.int .i64 A.p2,.int .i64 A.p3] 35)
    have z7:=keepA z6 (.cells #[.int .i64 A.c,.int .i64 A.p0,.int .i64 A.p1,.int .i64 A.p2,.int .i64 A.p3] 35)
    have r7:=r6.more (.cells #[.int .i64 A.c,.int .i64 A.p0,.int .i64 A.p1,.int .i64 A.p2,.int .i64 A.p3] 35)
    rw [HM.out] at k7
    clear hW
    go_roundw
    case rel=>exact ⟨out.length + 1,y'.take 4,out ++ [A],by go_num,by omega,by simp,by have:=H1.out; rwa [if_pos trivial] at this,by have:=H2.out; rwa [if_pos trivial] at this,fun hr=>by have:=H3.out hr; rw [if_pos trivial] at this; rw [this,List.append_assoc]; rfl,k7,by rcases hyy with e | e <;> (rw [e]; right; simp [List.take_take]),h7,z7,r7⟩
    case measure=>simp [intOf]; omega
   ·have hdq:(q != 0)=true:=by simpa using hq
    obtain ⟨a0,a1,a2,a3,a4⟩:=five_cells hZ2
    obtain ⟨f0,f1,f2,f3,f4⟩:=five_free hZ2
    have H1':=hid (show y'=R.1 by have:=H1.out; rwa [if_neg hq] at this)
    have H2':=hid (show q=R.2.1 by have:=H2.out; rwa [if_neg hq] at this)
    have HNE:=hid hq
    clear hq hL2 H1 H2 H3
    go_wp2_with fail
    have h5:=putT_self HZ2.out (.int .u8 0) (.int .i64 0) (.string no) (.slice none 0 0) (.slice none 0 0)
    have s5:=RanS.put HRAN2.out (Nat.le_refl w.heap.size) (.int .u8 0) (.int .i64 0) (.string no) (.slice none 0 0) (.slice none 0 0)
    have k5:=((putT_ran w2 w.heap.size (.int .u8 0) (.int .i64 0) (.string no) (.slice none 0 0) (.slice none 0 0)).block K lK2 (by omega)).trans HK2.out
    unfold putT no at h5 s5 k5
    generalize hW:((((w2.setCell ⟨w.heap.size,0,none⟩ (.int .u8 0)).setCell ⟨w.heap.size,1,none⟩ (.int .i64 0)).setCell ⟨w.heap.size,2,none⟩ (.string ⟨#[]⟩)).setCell ⟨w.heap.size,3,none⟩ (.slice none 0 0)).setCell ⟨w.heap.size,4,none⟩ (.slice none 0 0)=W4 at h5 s5 k5 ⊢
    have h6:=keepA h5 (.cells #[.int .i64 A.c,.int .i64 A.p0,.int .i64 A.p1,.int .i64 A.p2,.int .i64 A.p3] 35)
    have s6:=s5.more (.cells #[.int .i64 A.c,.int .i64 A.p0,.int .i64 A.p1,.int .i64 A.p2,.int .i64 A.p3] 35)
    have k6:=keepA k5 (.cells #[.int .i64 A.c,.int .i64 A.p0,.int .i64 A.p1,.int .i64 A.p2,.int .i64 A.p3] 35)
    clear hW
    generalize hW:W4.alloc (.cells #[.int .i64 A.c,.int .i64 A.p0,.int .i64 A.p1,.int .i64 A.p2,.int .i64 A.p3] 35)=W5 at h6 s6 k6 ⊢
    obtain ⟨e0,e1,e2,e3,e4⟩:=five_cells h6
    clear hW
    exact bodyPost_ret (v:=.tuple #[zeroT.val ⟨none,0,none,0⟩,.int .i64 q]) (by simp [results,Tryz.results85,go_sem,e0,e1,e2,e3,e4,zeroT,Tm.val,Tm.vals,Tm.k,Tm.n,Tm.s,Tm.ls,Tm.ts,no]) rfl (by
     have:=HQZ.out W5 (Or.inl (by rw [← H2'.out]; exact HNE.out)) (HLI.out W5 R.1 (by rw [← H1'.out]; exact k6) (by rw [← H1'.out]; exact hyy) s6) s6
     rwa [← H2'.out] at this)
  ·have hnk:out.length=n:=by omega
   have hdn:t.ls.drop out.length=[]:=by rw [hnk,HNL.out]; exact List.drop_length
   rw [hdn] at h1 h2 h3
   unfold levL at h1 h2 h3
   dsimp only at h1 h2 h3
   rw [List.append_nil] at h3
   have H1:=hid h1
   have H2:=hid h2
   have H3:=hid (h3 h2.symm)
   have hKI:LevInv bo bc y0 B K R.1 wr:=h1 ▸ hinv
   have HKI:=hid hKI
   have HEQ:Hid (Calls Tryz.prog 87 #[.slice (some ⟨w.heap.size + 1,0,none⟩) n n,.slice lo n lc] wr (fun e w'=>e=.returned (.bool (sameL out t.ls))∧Drawn wr w')):=hid (by
    have:=Equal_any (some ⟨w.heap.size + 1,0,none⟩) lo n lc out t.ls wr hblk.row (Tm.In_iff.1 (HFI.out.step (hran.wide (fun q hq=>hq ▸ HKQ.out))).here).2.1 (by omega)
    rwa [hnk,← HNL.out] at this)
   have x3:=(hran.cell (p:=⟨b,o + 3,none⟩) hb hbP).trans HC3.out
   have X0:=hid ((hran.cell (p:=⟨b,o,none⟩) hb hbP).trans HC0.out)
   have X2:=hid ((hran.cell (p:=⟨b,o + 2,none⟩) hb hbP).trans HC2.out)
   have lb:b < wr.heap.size:=by omega
   have lA:w.heap.size < wr.heap.size:=by omega
   clear h1 h2 h3 hinv hKI hKc hblk hz hran hbel hdn
   go_wp2_with fail
   refine HEQ.out.mono ?_
   rintro e w3 ⟨rfl,hdr⟩
   have HDR:=hid hdr
   have hZ3:w3.heap[w.heap.size]?=_:=(congrArg (fun h=>h[w.heap.size]?) hdr.heap).trans HZ.out
   have HZ3:=hid hZ3
   have HR3:=hid (HRAN.out.trans (RanS.of_below (hdr.below wr.heap.size)))
   have HK3:=hid (LevInv.keep (N:=wr.heap.size) (by omega) (by omega) _ _ _ HKI.out (hdr.below wr.heap.size))
   have HL3:=hid (HBLK.out.of_block (congrArg (fun h=>h[w.heap.size + 1]?) hdr.heap))
   have x0:=(Trm.cell_heap hdr.heap ⟨b,o,none⟩).trans X0.out
   have x2:=(Trm.cell_heap hdr.heap ⟨b,o + 2,none⟩).trans X2.out
   have lb3:b < w3.heap.size:=by rw [hdr.heap]; exact lb
   have lA3:w.heap.size < w3.heap.size:=by rw [hdr.heap]; exact lA
   obtain ⟨a0,a1,a2,a3,a4⟩:=five_cells hZ3
   obtain ⟨f0,f1,f2,f3,f4⟩:=five_free hZ3
   clear x3 cK hdr hZ3
   cases hsm:sameL out t.ls
   ·have HSM:=hid hsm
    clear hsm
    go_wp2_with fail
    go_region
    go_wp2_with fail
    have h5:=putT_self HZ3.out (.int .u8 t.k) (.int .i64 0) (.string t.s) (.slice (some ⟨w.heap.size + 1,0,none⟩) n n) (.slice none 0 0)
    have s5:=RanS.put HR3.out (Nat.le_refl w.heap.size) (.int .u8 t.k) (.int .i64 0) (.string t.s) (.slice (some ⟨w.heap.size + 1,0,none⟩) n n) (.slice none 0 0)
    have k5:=LevInv.keep (N:=w.heap.size) (by omega) (by omega) _ _ _ HK3.out ((putT_ran w3 w.heap.size (.int .u8 t.k) (.int .i64 0) (.string t.s) (.slice (some ⟨w.heap.size + 1,0,none⟩) n n) (.slice none 0 0)).below (Nat.le_refl _) (by omega))
    have l5:=HL3.out.of_block ((putT_ran w3 w.heap.size (.int .u8 t.k) (.int .i64 0) (.string t.s) (.slice (some ⟨w.heap.size + 1,0,none⟩) n n) (.slice none 0 0)).block _ HL3.out.lt (by omega))
    unfold putT at h5 s5 k5 l5
    generalize hW:((((w3.setCell ⟨w.heap.size,0,none⟩ (.int .u8 t.k)).setCell ⟨w.heap.size,1,none⟩ (.int .i64 0)).setCell ⟨w.heap.size,2,none⟩ (.string t.s)).setCell ⟨w.heap.size,3,none⟩ (.slice (some ⟨w.heap.size + 1,0,none⟩) n n)).setCell ⟨w.heap.size,4,none⟩ (.slice none 0 0)=W4 at h5 s5 k5 l5 ⊢
    have hW4:w.heap.size < W4.heap.size:=(Array.getElem?_eq_some_iff.1 h5).1
    have hwW:w.heap.size≤W4.heap.size:=by omega
    have h6:=Lvl.keep (Below.refl W4.heap.size W4).drew h5
    have s6:=s5.trans (RanS.of_below (Below.refl W4.heap.size W4).drew)
    have k6:=LevInv.keep (N:=w.heap.size) (by omega) (by omega) _ _ _ k5 ((Below.refl W4.heap.size W4).drew.mono hwW)
    have l6:=l5.of_block ((Below.refl W4.heap.size W4).drew.block _ l5.lt)
    clear hW h5 s5 k5 l5
    generalize hW:W4.drew=W5 at h6 s6 k6 l6 ⊢
    clear hW hW4 hwW
    obtain ⟨e0,e1,e2,e3,e4⟩:=five_cells h6
    have hRn:R.2.2.length=n:=by rw [H3.out]; exact hnk
    have hfm:FirmS (fun q=>Q q∧q < w.heap.size) W5 (.mk t.k 0 t.s R.2.2 []) ⟨some ⟨w.heap.size + 1,0,none⟩,n,none,0⟩:=fun w' hr=>by
     have l7:=l6.of_block (hr.block _ l6.lt (by omega))
     have h7:=l7.row
     rw [← H3.out] at h7
     exact Tm.In_iff.2 ⟨⟨HFIT.out.k0,HFIT.out.k1,by simp [Tm.n],by simp [Tm.n],HFIT.out.s,by simp only [Tm.ls]; omega,by simp [Tm.ts]⟩,h7,fun _ a ha=>by
      cases ha
      exact l7.lt,RowIn.mk fun i hi=>by simp [Tm.ts] at hi,by simp only [Tm.ls]; omega⟩
    exact bodyPost_ret (v:=.tuple #[(Tm.mk t.k 0 t.s R.2.2 []).val ⟨some ⟨w.heap.size + 1,0,none⟩,n,none,0⟩,.int .i64 0]) (by simp [results,Tryz.results85,go_sem,e0,e1,e2,e3,e4,hRn,Tm.val,Tm.vals,Tm.k,Tm.n,Tm.s,Tm.ls,Tm.ts]) rfl (HQY.out W5 _ H2.out.symm (by rw [H3.out]; exact HSM.out) hfm k6 s6)
   ·have HSM:=hid hsm
    clear hsm
    go_wp2_with fail
    have h5:=putT_self HZ3.out (.int .u8 0) (.int .i64 0) (.string no) (.slice none 0 0) (.slice none 0 0)
    have s5:=RanS.put HR3.out (Nat.le_refl w.heap.size) (.int .u8 0) (.int .i64 0) (.string no) (.slice none 0 0) (.slice none 0 0)
    have k5:=LevInv.keep (N:=w.heap.size) (by omega) (by omega) _ _ _ HK3.out ((putT_ran w3 w.heap.size (.int .u8 0) (.int .i64 0) (.string no) (.slice none 0 0) (.slice none 0 0)).below (Nat.le_refl _) (by omega))
    unfold putT no at h5 s5 k5
    generalize hW:((((w3.setCell ⟨w.heap.size,0,none⟩ (.int .u8 0)).setCell ⟨w.heap.size,1,none⟩ (.int .i64 0)).setCell ⟨w.heap.size,2,none⟩ (.string ⟨#[]⟩)).setCell ⟨w.heap.size,3,none⟩ (.slice none 0 0)).setCell ⟨w.heap.size,4,none⟩ (.slice none 0 0)=W4 at h5 s5 k5 ⊢
    obtain ⟨e0,e1,e2,e3,e4⟩:=five_cells h5
    clear hW
    exact bodyPost_ret (v:=.tuple #[zeroT.val ⟨none,0,none,0⟩,.int .i64 0]) (by simp [results,Tryz.results85,go_sem,e0,e1,e2,e3,e4,zeroT,Tm.val,Tm.vals,Tm.k,Tm.n,Tm.s,Tm.ls,Tm.ts,no]) rfl (by
     have:=HQZ.out W4 (Or.inr (by rw [H3.out]; exact HSM.out)) k5 s5
     rwa [← H2.out] at this)
theorem Trm.leaf_levelsQ {B N K:Nat} {Q:Nat→Prop} (hKQ:Q K) (hBN:B≤N) (hKN:K < N) (hBK:B≤K) (bo:Option Addr) (bc:Nat) (y0:List Lv) (hy0:y0.length≤1000000) (hbc:y0.length≤bc):LeafQ Q N (fun q=>q=K) K 85 lfLev (LevInv bo bc y0 B K) (fun _=>True) where
 calls st t b o u w _ hi hn _ _ _ hat hB hN _:=levels1Q_any hKQ hKN hBK bo bc y0 hy0 hbc st t b o u w hi hn hat (Nat.le_trans hBN hN) hN
 good _ _ _ _ _ _ _:=trivial
 kind st t u y hn _ h:=by
  unfold lfLev at h
  dsimp only at h
  split at h
  ·cases h
   have:=(node_few hn).2.2.1
   show t.k ≠ 0
   omega
  ·cases h
 keep:=LevInv.keep hKN (by omega)
 low q hq:=by subst hq; exact hKQ
 enter args w:=by kernel_rfl
theorem LevelsF_any (P:Nat→Prop) (t:Tm) (h:Hd) (L:List Lv) (bo:Option Addr) (bc:Nat) (w:World) (hP:∀ q,P q→q < w.heap.size) (hin:FirmS P w t h) (hr:LRow w bo L) (hlo:Low w.heap.size bo L.length) (hL:L.length≤1000000) (hbc:L.length≤bc) :
 Calls Tryz.prog 50 #[t.val h,.slice bo L.length bc] w fun e w'=>∃ h',e=.returned (.tuple #[(levelsAns t L).1.val h',.int .i64 (levelsAns t L).2])∧FirmS P w' (levelsAns t L).1 h'∧Below w.heap.size w w':=by
 have HM:=hid (fun (W:World) (hW:Below w.heap.size w W)=>PMay_any t h W (hin.step (RanS.of_below hW)).here)
 have HB0:=hid ((below_two w (t.box h) (.cells #[.slice bo L.length bc] 22)).alloc (by simp; omega) (.cells #[.int .u8 0,.int .i64 0,.string no,.slice none 0 0,.slice none 0 0] 25))
 have HX0:=hid (keepA (new1of2 w (t.box h) (.cells #[.slice bo L.length bc] 22)) (.cells #[.int .u8 0,.int .i64 0,.string no,.slice none 0 0,.slice none 0 0] 25))
 have HK0:=hid (keepA (new2 w (t.box h) (.cells #[.slice bo L.length bc] 22)) (.cells #[.int .u8 0,.int .i64 0,.string no,.slice none 0 0,.slice none 0 0] 25))
 have HA0:=hid (new3 w (t.box h) (.cells #[.slice bo L.length bc] 22) (.cells #[.int .u8 0,.int .i64 0,.string no,.slice none 0 0,.slice none 0 0] 25))
 have HIN:=hid hin
 have HP:=hid hP
 have HR:=hid hr
 have HLO:=hid hlo
 clear hin hr hlo hP
 cases hmay:t.may
 ·have hs:levelsAns t L=(zeroT,1):=if_pos hmay
  rw [hs]
  rw [hmay] at HM
  unfold Tm.val at HM ⊢
  dsimp only [Tm.vals] at HM ⊢
  clear hs hmay
  go_enter Tryz.func50,Tryz.ntmps50
  go_wp2_with fail
  refine (HM.out _ HB0.out).mono ?_
  rintro e w1 ⟨rfl,b1⟩
  have hA1:=Lvl.keep b1 HA0.out
  have HB1:=hid (Trm.go HB0.out b1)
  obtain ⟨a0,a1,a2,a3,a4⟩:=five_cells hA1
  obtain ⟨f0,f1,f2,f3,f4⟩:=five_free hA1
  have HA1:=hid hA1
  clear hA1 b1
  go_wp2_with fail
  have h5:=putT_self HA1.out (.int .u8 0) (.int .i64 0) (.string no) (.slice none 0 0) (.slice none 0 0)
  have b5:=putT_below HB1.out (by omega:w.heap.size≤w.heap.size + 1 + 1) (.int .u8 0) (.int .i64 0) (.string no) (.slice none 0 0) (.slice none 0 0)
  unfold putT no at h5 b5
  generalize hW:((((w1.setCell ⟨w.heap.size + 1 + 1,0,none⟩ (.int .u8 0)).setCell ⟨w.heap.size + 1 + 1,1,none⟩ (.int .i64 0)).setCell ⟨w.heap.size + 1 + 1,2,none⟩ (.string ⟨#[]⟩)).setCell ⟨w.heap.size + 1 + 1,3,none⟩ (.slice none 0 0)).setCell ⟨w.heap.size + 1 + 1,4,none⟩ (.slice none 0 0)=W4 at h5 b5 ⊢
  obtain ⟨e0,e1,e2,e3,e4⟩:=five_cells h5
  clear hW
  exact bodyPost_ret (v:=.tuple #[zeroT.val ⟨none,0,none,0⟩,.int .i64 1]) (by simp [results,Tryz.results50,go_sem,e0,e1,e2,e3,e4,zeroT,Tm.val,Tm.vals,Tm.k,Tm.n,Tm.s,Tm.ls,Tm.ts,no]) rfl ⟨⟨none,0,none,0⟩,rfl,firm_zero,b5⟩
 ·obtain ⟨a,ha⟩:∃ a,a=levelsAns t L:=⟨_,rfl⟩
  obtain ⟨y,hy⟩:∃ y,y=tAns t (t.thr lfLev L 0):=⟨_,rfl⟩
  obtain ⟨z,hz⟩:∃ z,z=(t.thr lfLev L 0).2.1:=⟨_,rfl⟩
  have hya:ansT y z=a:=by
   rw [ha,hy,hz]
   unfold levelsAns
   rw [if_neg (by rw [hmay]; simp)]
  rw [← ha]
  rw [hmay] at HM
  have HTU:=hid (fun (W:World) (hW:Below w.heap.size w W) (hK:W.heap[w.heap.size + 1]?=some (.cells #[.slice bo L.length bc] 22))=>show Calls Tryz.prog 84 #[t.val h,fnv 85 (w.heap.size + 1)] W (fun e w'=>∃ h',e=.returned (.tuple #[y.val h',.int .i64 z])∧FirmS (fun q=>(P q∨w.heap.size≤q)∧q < W.heap.size) w' y h'∧RanS (fun q=>q=w.heap.size + 1) W w') from by
   have hKl:=(Array.getElem?_eq_some_iff.1 hK).1
   have:=turnedQ_any (leaf_levelsQ (Q:=fun q=>P q∨w.heap.size≤q) (B:=w.heap.size) (N:=W.heap.size) (Or.inr (by omega)) hW.size hKl (by omega) bo bc L hL hbc) t h L W hmay trivial ⟨hK,Or.inl rfl,LRow.low HR.out HLO.out hW,HLO.out⟩ ((HIN.out.less (P:=fun q=>P q∨w.heap.size≤q) (fun q hq h=>h.elim id (fun a=>by omega))).step (RanS.of_below hW)) (fun q hq=>Or.inr (by have:=hW.size; omega)) (Nat.le_refl _) (fun q hq=>by subst hq; exact hKl)
   rw [← hy,← hz] at this
   exact this.mono (fun _ _ ⟨h',he,hf,_,hr⟩=>⟨h',he,hf,hr⟩))
  have HAN:=hid (fun (W:World) (h':Hd) (hi:y.In W.heap.size W h')=>by
   have:=sub_answer_any y h' z W hi
   rw [hya] at this
   exact this)
  clear ha hy hz hya hmay
  obtain ⟨a1,a2⟩:=a
  unfold Tm.val at HM HTU HAN ⊢
  dsimp only [Tm.vals] at HM HTU HAN ⊢
  go_enter Tryz.func50,Tryz.ntmps50
  go_wp2_with fail
  refine (HM.out _ HB0.out).mono ?_
  rintro e w1 ⟨rfl,b1⟩
  have HB1:=hid (Trm.go HB0.out b1)
  have HA1:=hid (Lvl.keep b1 HA0.out)
  have hX1:=Lvl.keep b1 HX0.out
  have HK1:=hid (Lvl.keep b1 HK0.out)
  obtain ⟨x0,x1,x2,x3,x4⟩:=five_cells (show w1.heap[w.heap.size]?=some (.cells #[.int .u8 t.k,.int .i64 t.n,.string t.s,.slice h.lo t.ls.length h.lc,.slice h.to t.ts.length h.tc] 25) from hX1)
  have lX:=(Array.getElem?_eq_some_iff.1 hX1).1
  clear b1 hX1
  go_wp2_with fail
  refine (HTU.out _ HB1.out HK1.out).mono ?_
  rintro e wt ⟨ht,rfl,iT,rT⟩
  have HBt:=hid ((HB1.out).trans (rT.below (fun q hq=>by subst hq; omega) HB1.out.size))
  have HAt:=hid (rT.keep HA1.out (by omega))
  have HIt:=hid iT
  have hlw1:=(Array.getElem?_eq_some_iff.1 HA1.out).1
  clear iT rT x0 x1 x2 x3 x4 lX
  go_wp2_with fail
  refine (HAN.out _ _ HIt.out.here).mono ?_
  rintro e wa ⟨ha,rfl,iA,ba⟩
  have HBa:=hid (Trm.go HBt.out ba)
  have hAa:=Lvl.keep ba HAt.out
  obtain ⟨q0,q1,q2,q3,q4⟩:=five_cells hAa
  obtain ⟨f0,f1,f2,f3,f4⟩:=five_free hAa
  have HAa:=hid hAa
  have HIa:=hid (iA _ HIt.out)
  clear ba iA hAa
  go_wp2_with fail
  have h5:=putT_self HAa.out (.int .u8 a1.k) (.int .i64 a1.n) (.string a1.s) (.slice ha.lo a1.ls.length ha.lc) (.slice ha.to a1.ts.length ha.tc)
  have b5:=putT_below HBa.out (by omega:w.heap.size≤w.heap.size + 1 + 1) (.int .u8 a1.k) (.int .i64 a1.n) (.string a1.s) (.slice ha.lo a1.ls.length ha.lc) (.slice ha.to a1.ts.length ha.tc)
  have r5:=putT_ran wa (w.heap.size + 1 + 1) (.int .u8 a1.k) (.int .i64 a1.n) (.string a1.s) (.slice ha.lo a1.ls.length ha.lc) (.slice ha.to a1.ts.length ha.tc)
  unfold putT at h5 b5 r5
  generalize hW:((((wa.setCell ⟨w.heap.size + 1 + 1,0,none⟩ (.int .u8 a1.k)).setCell ⟨w.heap.size + 1 + 1,1,none⟩ (.int .i64 a1.n)).setCell ⟨w.heap.size + 1 + 1,2,none⟩ (.string a1.s)).setCell ⟨w.heap.size + 1 + 1,3,none⟩ (.slice ha.lo a1.ls.length ha.lc)).setCell ⟨w.heap.size + 1 + 1,4,none⟩ (.slice ha.to a1.ts.length ha.tc)=W4 at h5 b5 r5 ⊢
  obtain ⟨e0,e1,e2,e3,e4⟩:=five_cells h5
  clear hW
  refine bodyPost_ret (v:=.tuple #[a1.val ha,.int .i64 a2]) (by simp [results,Tryz.results50,go_sem,e0,e1,e2,e3,e4,Tm.val,Tm.vals]) rfl ⟨ha,rfl,?_,b5⟩
  exact (HIa.out.step (RanS.of_ran r5 ⟨Or.inr (by omega),hlw1⟩)).less (fun q _ hq=>⟨Or.inl hq,by have:=HP.out q hq; have:=HB1.out.size; omega⟩)
end Go.Proofs.YtmngddomnaaedaaGreat
namespace Go.Proofs.YtmngddomnaaedaaGreat
open Go.RowKit Go.Shelf Go.Maps Lvl Trm Env
def Env.TAnsF (P:Nat→Prop) (a:Tm × Int) (w:World) (y:Ending) (w':World):Prop:=∃ h',y=.returned (.tuple #[a.1.val h',.int .i64 a.2])∧FirmS P w' a.1 h'∧Below w.heap.size w w'
theorem valueF_any {P:Nat→Prop} {B:Nat} {w:World} {e:Nat} {L:List Ent} {mo:Option Nat} {v:Value} (h:EnvB B w e L mo v) (t:Tm) (hd:Hd) (hin:t.In w.heap.size w hd) (hl:t.ls.length≤1000000) (hPw:∀ q,P q→q < w.heap.size) (hfp:∀ p ∈ L,FirmI P w p.2.1 p.2.2) :
 Calls Tryz.prog 52 #[.pointer (some ⟨e,0,none⟩),t.val hd] w (TAnsF P (vaAns L t) w):=by
 have hc:=hin.room
 obtain ⟨WB,hWB⟩:∃ WB,WB=(w.alloc (t.box hd)).alloc (.cells #[.int .u8 0,.int .i64 0,.string no,.slice none 0 0,.slice none 0 0] 25):=⟨_,rfl⟩
 have HBB:=hid (show Below w.heap.size w WB from hWB ▸ below_two _ _ _)
 have HBX:=hid (show WB.heap[w.heap.size]?=some (t.box hd) from hWB ▸ new1of2 _ _ _)
 have HBA:=hid (show WB.heap[w.heap.size + 1]?=some (.cells #[.int .u8 0,.int .i64 0,.string no,.slice none 0 0,.slice none 0 0] 25) from hWB ▸ new2 _ _ _)
 have HOF:=hid (fun (W:World) (hW:Below w.heap.size w W)=>of_any (h.below hW) t hd (carry hin hW) (by have:=hin.fit.s; unfold maxLen; exact this))
 have HENV:=hid h
 have HIN:=hid hin
 by_cases h0:ofE L t=0
 ·obtain ⟨hk,hm,p,hlk,hO,hpar⟩:=ofE_zero h0
  have HOF2:=hid (fun (W:World) (hW:Below w.heap.size w W)=>(show Calls Tryz.prog 90 #[.pointer (some ⟨e,0,none⟩),t.val hd] W (fun y w'=>y=.returned (.tuple #[.pointer (some ⟨p.1,0,none⟩),.int .i64 0])∧Below W.heap.size W w') from by have:=HOF.out W hW; unfold OfPost at this; rw [hO,h0] at this; exact this))
  have hp:=(lookE_some hlk).1
  have HP:=hid (fun (W:World) (hW:Below w.heap.size w W)=>((h.below hW).info p hp).1)
  have HPN:Hid (p.1 ≠ w.heap.size + 1):=hid (by have:=(HP.out w (Below.refl _ _)).lt; omega)
  by_cases hkd:p.2.1.kind=2
  ·have hA:vaAns L t=levelsAns p.2.1.va t.ls:=by unfold vaAns; rw [hO]; simp only; rw [if_pos hkd]
   have hk0:(p.2.1.kind == 2)=true:=by simpa using hkd
   have hk1:(p.2.1.kind != 2)=false:=by simpa using hkd
   have HLV:=hid (fun (W:World) (hW:Below w.heap.size w W) (hz:w.heap.size + 1 < W.heap.size)=>LevelsF_any (fun q=>P q∨q=w.heap.size + 1) p.2.1.va p.2.2.va t.ls hd.lo hd.lc W (fun q a=>a.elim (fun b=>Nat.lt_of_lt_of_le (hPw q b) hW.size) (fun b=>by omega)) (firm_turnE (hfp p hp).va (RanS.of_below hW) (fun q a=>a.imp id (fun e=>by omega))) (Tm.In_iff.1 (carry hin hW)).2.1 (Tm.In_iff.1 (carry hin hW)).2.2.1 hl hc)
   rw [hA]
   obtain ⟨a,ha⟩:∃ a,a=levelsAns p.2.1.va t.ls:=⟨_,rfl⟩
   rw [← ha] at HLV ⊢
   clear hkd hO hA h hin hl hc hPw hfp HOF h0 ha hk hm hlk hpar hp
   obtain ⟨a1,a2⟩:=a
   unfold Tm.val Tm.vals at *
   go_enter Tryz.func52,Tryz.ntmps52
   unfold Tm.box Tm.vals no at hWB
   go_wp2_with fail
   rw [← hWB]
   clear hWB
   refine (HOF2.out WB HBB.out).mono ?_
   rintro y w1 ⟨rfl,b1⟩
   have hA1:=Lvl.keep b1 HBA.out
   have HB1:=hid (Trm.go HBB.out b1)
   have HX1:=hid (Lvl.keep b1 HBX.out)
   have HI1:=hid (HP.out w1 HB1.out)
   obtain ⟨x0,x1,x2,x3,x4⟩:=Tm.cells HX1.out
   have HA1:=hid hA1
   have c0:w1.cell? ⟨p.1,0,none⟩=some (.int .u8 p.2.1.kind):=HI1.out.cell 0
   have c3:w1.cell? ⟨p.1,8,none⟩=some (.int .u8 p.2.1.va.k):=HI1.out.cell 8
   have c4:w1.cell? ⟨p.1,9,none⟩=some (.int .i64 p.2.1.va.n):=HI1.out.cell 9
   have c5:w1.cell? ⟨p.1,10,none⟩=some (.string p.2.1.va.s):=HI1.out.cell 10
   have c6:w1.cell? ⟨p.1,11,none⟩=some (.slice p.2.2.va.lo p.2.1.va.ls.length p.2.2.va.lc):=HI1.out.cell 11
   have c7:w1.cell? ⟨p.1,12,none⟩=some (.slice p.2.2.va.to p.2.1.va.ts.length p.2.2.va.tc):=HI1.out.cell 12
   clear hA1 b1 HOF2
   go_wp2_with fail
   have HBD:=hid (show Below w.heap.size w w1.drew from HB1.out.drew)
   have HAD:=hid (show w1.drew.heap[w.heap.size + 1]?=_ from HA1.out)
   have HXD:=hid (show w1.drew.heap[w.heap.size]?=some (t.box hd) from HX1.out)
   refine wp_region_held_drew (S:=fun w'=>w'.cell? ⟨w.heap.size,3,none⟩=some (.slice hd.lo t.ls.length hd.lc)∧w'.cell? ⟨p.1,8,none⟩=some (.int .u8 p.2.1.va.k)∧w'.cell? ⟨p.1,9,none⟩=some (.int .i64 p.2.1.va.n)∧w'.cell? ⟨p.1,10,none⟩=some (.string p.2.1.va.s)∧w'.cell? ⟨p.1,11,none⟩=some (.slice p.2.2.va.lo p.2.1.va.ls.length p.2.2.va.lc)∧w'.cell? ⟨p.1,12,none⟩=some (.slice p.2.2.va.to p.2.1.va.ts.length p.2.2.va.tc)) (by kernel_rfl) (⟨x3,c3,c4,c5,c6,c7⟩) (fun hHeld=>?_)
   refine wpAnyH_take (i:=0) (v:=?vty0) rfl (by kernel_rfl) (by kernel_rfl) (by kernel_rfl) (fun _ _ _ h=>h) (Or.inl ⟨by rfl,?hyty0⟩) (by assumption) ?restty0
   case hyty0=>(intro w hSw; (try dsimp only at hSw); go_simp <;> with_reducible rfl)
   try simp only [zqT,zqZ,Act.put,zqB,zq0,zq1]
   refine wpAnyH_take (i:=1) (v:=?vty1) rfl (by kernel_rfl) (by kernel_rfl) (by kernel_rfl) (fun _ _ _ h=>h) (Or.inl ⟨by rfl,?hyty1⟩) (by assumption) ?restty1
   case hyty1=>(intro w hSw; (try dsimp only at hSw); go_simp <;> with_reducible rfl)
   try simp only [zqT,zqS,zqZ,Act.put,zqB,zq0,zq1]
   refine wpAnyH_take (i:=2) (v:=?vty2) rfl (by kernel_rfl) (by kernel_rfl) (by kernel_rfl) (fun _ _ _ h=>h) (Or.inl ⟨by rfl,?hyty2⟩) (by assumption) ?restty2
   case hyty2=>(intro w hSw; (try dsimp only at hSw); go_simp <;> with_reducible rfl)
   try simp only [zqT,zqS,zqZ,Act.put,zqB,zq0,zq1]
   refine wpAnyH_take (i:=3) (v:=?vty3) rfl (by kernel_rfl) (by kernel_rfl) (by kernel_rfl) (fun _ _ _ h=>h) (Or.inl ⟨by rfl,?hyty3⟩) (by assumption) ?restty3
   case hyty3=>(intro w hSw; (try dsimp only at hSw); go_simp <;> with_reducible rfl)
   try simp only [zqT,zqS,zqZ,Act.put,zqB,zq0,zq1]
   refine wpAnyH_take (i:=4) (v:=?vty4) rfl (by kernel_rfl) (by kernel_rfl) (by kernel_rfl) (fun _ _ _ h=>h) (Or.inl ⟨by rfl,?hyty4⟩) (by assumption) ?restty4
   case hyty4=>(intro w hSw; (try dsimp only at hSw); go_simp <;> with_reducible rfl)
   try simp only [zqT,zqS,zqZ,Act.put,zqB,zq0,zq1]
   refine wpAnyH_take (i:=5) (v:=?vty5) rfl (by kernel_rfl) (by kernel_rfl) (by kernel_rfl) (fun _ _ _ h=>h) (Or.inl ⟨by rfl,?hyty5⟩) (by assumption) ?restty5
   case hyty5=>(intro w hSw; (try dsimp only at hSw); go_simp <;> with_reducible rfl)
   try simp only [zqT,zqS,zqZ,Act.put,zqB,zq0,zq1]
   refine wpAnyH_ready (rs:=[6]) (by kernel_rfl) (by simp) ?_
   refine AllReadyH.cons rfl (fun K hK=>?_) AllReadyH.nil
   go_simp
   refine (HLV.out w1.drew HBD.out (Array.getElem?_eq_some_iff.1 HAD.out).1).mono ?_
   rintro y w2 ⟨h',rfl,hi2,b2⟩
   have HI2:=hid hi2
   have HB2:=hid (Trm.go HBD.out b2)
   have HA2:=hid (Lvl.keep b2 HAD.out)
   have HX2:=hid (Lvl.keep b2 HXD.out)
   have HP2:=hid (HP.out w2 HB2.out)
   have HY2:=hid (show w2.cell? ⟨w.heap.size,3,none⟩=some (.slice hd.lo t.ls.length hd.lc) from (Tm.cells HX2.out).c3)
   obtain ⟨q0,q1,q2,q3,q4⟩:=five_cells HA2.out
   obtain ⟨f0,f1,f2,f3,f4⟩:=five_free HA2.out
   clear hi2 b2
   refine hK.out _ _ (⟨HY2.out,HP2.out.cell 8,HP2.out.cell 9,HP2.out.cell 10,HP2.out.cell 11,HP2.out.cell 12⟩) (fun hHeld=>?_)
   clear hK K
   try simp only [zqT,zqS,zqZ,Act.put,zqB,zq0,zq1]
   refine wpAnyH_take (i:=7) (v:=?vty7) rfl (by kernel_rfl) (by kernel_rfl) (by kernel_rfl) (fun _ _ _ h=>h) (Or.inl ⟨by rfl,?hyty7⟩) (by assumption) ?restty7
   case hyty7=>(intro w hSw; (try dsimp only at hSw); go_simp <;> with_reducible rfl)
   try simp only [zqT,zqS,zqZ,Act.put,zqB,zq0,zq1]
   refine wpAnyH_take (i:=8) (v:=?vty8) rfl (by kernel_rfl) (by kernel_rfl) (by kernel_rfl) (fun _ _ _ h=>h) (Or.inl ⟨by rfl,?hyty8⟩) (by assumption) ?restty8
   case hyty8=>(intro w hSw; (try dsimp only at hSw); go_simp <;> with_reducible rfl)
   try simp only [zqT,zqS,zqZ,Act.put,zqB,zq0,zq1]
   refine wpAnyH_ready (rs:=[9]) (by kernel_rfl) (by simp) ?_
   refine AllReadyH.cons rfl (fun K hK=>?_) AllReadyH.nil
   go_simp
   refine hK.out _ _ (⟨putT_cell HY2.out (by omega) _ _ _ _ _,putT_cell (HP2.out.cell 8) HPN.out _ _ _ _ _,putT_cell (HP2.out.cell 9) HPN.out _ _ _ _ _,putT_cell (HP2.out.cell 10) HPN.out _ _ _ _ _,putT_cell (HP2.out.cell 11) HPN.out _ _ _ _ _,putT_cell (HP2.out.cell 12) HPN.out _ _ _ _ _⟩) (fun hHeld=>?_)
   clear hK K
   try simp only [zqT,zqS,zqZ,Act.put,zqB,zq0,zq1]
   refine wpAnyH_take (i:=10) (v:=?vty10) rfl (by kernel_rfl) (by kernel_rfl) (by kernel_rfl) (fun _ _ _ h=>h) (Or.inl ⟨by rfl,?hyty10⟩) (by assumption) ?restty10
   case hyty10=>(intro w hSw; (try dsimp only at hSw); go_simp <;> with_reducible rfl)
   try simp only [zqT,zqS,zqZ,Act.put,zqB,zq0,zq1]
   refine wpAnyH_done (by kernel_rfl) ?_ _
   have h5:=putT_self HA2.out (.int .u8 a1.k) (.int .i64 a1.n) (.string a1.s) (.slice h'.lo a1.ls.length h'.lc) (.slice h'.to a1.ts.length h'.tc)
   have b5:=putT_below HB2.out (by omega:w.heap.size≤w.heap.size + 1) (.int .u8 a1.k) (.int .i64 a1.n) (.string a1.s) (.slice h'.lo a1.ls.length h'.lc) (.slice h'.to a1.ts.length h'.tc)
   have r5:=putT_ran w2 (w.heap.size + 1) (.int .u8 a1.k) (.int .i64 a1.n) (.string a1.s) (.slice h'.lo a1.ls.length h'.lc) (.slice h'.to a1.ts.length h'.tc)
   have i5:=(HI2.out.step (RanS.of_ran r5 (Or.inr rfl))).less (P:=P) (fun q _ hq=>Or.inl hq)
   unfold putT at h5 b5 i5
   clear r5 hHeld
   generalize hW:((((w2.setCell ⟨w.heap.size + 1,0,none⟩ (.int .u8 a1.k)).setCell ⟨w.heap.size + 1,1,none⟩ (.int .i64 a1.n)).setCell ⟨w.heap.size + 1,2,none⟩ (.string a1.s)).setCell ⟨w.heap.size + 1,3,none⟩ (.slice h'.lo a1.ls.length h'.lc)).setCell ⟨w.heap.size + 1,4,none⟩ (.slice h'.to a1.ts.length h'.tc)=W4 at h5 b5 i5 ⊢
   obtain ⟨e0,e1,e2,e3,e4⟩:=five_cells h5
   have HI5:=hid i5
   clear hW i5 c0 q0 q1 q2 q3 q4 f0 f1 f2 f3 f4 x0 x1 x2 x3 x4 c3 c4 c5 c6 c7
   go_wp2_with fail
   exact bodyPost_ret (v:=.tuple #[a1.val h',.int .i64 a2]) (by simp [results,Tryz.results52,go_sem,e0,e1,e2,e3,e4,Tm.val,Tm.vals]) rfl ⟨h',rfl,HI5.out,b5⟩
  ·have hA:vaAns L t=(zeroT,6):=by unfold vaAns; rw [hO]; simp only; rw [if_neg hkd]
   have hk0:(p.2.1.kind == 2)=false:=by simpa using hkd
   have hk1:(p.2.1.kind != 2)=true:=by simpa using hkd
   rw [hA]
   clear hO hA h hin hl hc hPw hfp HOF h0 hk hm hlk hpar hp hkd
   unfold Tm.val Tm.vals at *
   go_enter Tryz.func52,Tryz.ntmps52
   unfold Tm.box Tm.vals no at hWB
   go_wp2_with fail
   rw [← hWB]
   clear hWB
   refine (HOF2.out WB HBB.out).mono ?_
   rintro y w1 ⟨rfl,b1⟩
   have hA1:=Lvl.keep b1 HBA.out
   have HB1:=hid (Trm.go HBB.out b1)
   have c0:w1.cell? ⟨p.1,0,none⟩=some (.int .u8 p.2.1.kind):=(HP.out w1 HB1.out).cell 0
   obtain ⟨a0,a1,a2,a3,a4⟩:=five_cells hA1
   obtain ⟨f0,f1,f2,f3,f4⟩:=five_free hA1
   have HA1:=hid hA1
   clear hA1 b1 HOF2
   go_wp2_with fail
   have h5:=putT_self HA1.out (.int .u8 0) (.int .i64 0) (.string no) (.slice none 0 0) (.slice none 0 0)
   have b5:=putT_below HB1.out (by omega:w.heap.size≤w.heap.size + 1) (.int .u8 0) (.int .i64 0) (.string no) (.slice none 0 0) (.slice none 0 0)
   unfold putT no at h5 b5
   generalize hW:((((w1.setCell ⟨w.heap.size + 1,0,none⟩ (.int .u8 0)).setCell ⟨w.heap.size + 1,1,none⟩ (.int .i64 0)).setCell ⟨w.heap.size + 1,2,none⟩ (.string ⟨#[]⟩)).setCell ⟨w.heap.size + 1,3,none⟩ (.slice none 0 0)).setCell ⟨w.heap.size + 1,4,none⟩ (.slice none 0 0)=W4 at h5 b5 ⊢
   obtain ⟨e0,e1,e2,e3,e4⟩:=five_cells h5
   clear hW
   exact bodyPost_ret (v:=.tuple #[zeroT.val ⟨none,0,none,0⟩,.int .i64 6]) (by simp [results,Tryz.results52,go_sem,e0,e1,e2,e3,e4,zeroT,Tm.val,Tm.vals,Tm.k,Tm.n,Tm.s,Tm.ls,Tm.ts,no]) rfl ⟨⟨none,0,none,0⟩,rfl,firm_zero,b5⟩
 ·have hO:=ofO_none h0
  have hA:vaAns L t=(zeroT,ofE L t):=by unfold vaAns; rw [hO]
  have HOF2:=hid (fun (W:World) (hW:Below w.heap.size w W)=>(show Calls Tryz.prog 90 #[.pointer (some ⟨e,0,none⟩),t.val hd] W (fun y w'=>y=.returned (.tuple #[.pointer none,.int .i64 (ofE L t)])∧Below W.heap.size W w') from by have:=HOF.out W hW; unfold OfPost at this; rw [hO] at this; exact this))
  rw [hA]
  obtain ⟨z,hz⟩:∃ z,z=ofE L t:=⟨_,rfl⟩
  rw [← hz] at HOF2 h0 ⊢
  have hz1:(z == 0)=false:=by simpa using h0
  have hz2:(z != 0)=true:=by simpa using h0
  clear hO hA h hin hl hc hPw hfp HOF hz h0
  unfold Tm.val Tm.vals at *
  go_enter Tryz.func52,Tryz.ntmps52
  unfold Tm.box Tm.vals no at hWB
  go_wp2_with fail
  rw [← hWB]
  clear hWB
  refine (HOF2.out WB HBB.out).mono ?_
  rintro y w1 ⟨rfl,b1⟩
  have hA1:=Lvl.keep b1 HBA.out
  have HB1:=hid (Trm.go HBB.out b1)
  obtain ⟨a0,a1,a2,a3,a4⟩:=five_cells hA1
  obtain ⟨f0,f1,f2,f3,f4⟩:=five_free hA1
  have HA1:=hid hA1
  clear hA1 b1 HOF2
  go_wp2_with fail
  have h5:=putT_self HA1.out (.int .u8 0) (.int .i64 0) (.string no) (.slice none 0 0) (.slice none 0 0)
  have b5:=putT_below HB1.out (by omega:w.heap.size≤w.heap.size + 1) (.int .u8 0) (.int .i64 0) (.string no) (.slice none 0 0) (.slice none 0 0)
  unfold putT no at h5 b5
  generalize hW:((((w1.setCell ⟨w.heap.size + 1,0,none⟩ (.int .u8 0)).setCell ⟨w.heap.size + 1,1,none⟩ (.int .i64 0)).setCell ⟨w.heap.size + 1,2,none⟩ (.string ⟨#[]⟩)).setCell ⟨w.heap.size + 1,3,none⟩ (.slice none 0 0)).setCell ⟨w.heap.size + 1,4,none⟩ (.slice none 0 0)=W4 at h5 b5 ⊢
  obtain ⟨e0,e1,e2,e3,e4⟩:=five_cells h5
  clear hW
  exact bodyPost_ret (v:=.tuple #[zeroT.val ⟨none,0,none,0⟩,.int .i64 z]) (by simp [results,Tryz.results52,go_sem,e0,e1,e2,e3,e4,zeroT,Tm.val,Tm.vals,Tm.k,Tm.n,Tm.s,Tm.ls,Tm.ts,no]) rfl ⟨⟨none,0,none,0⟩,rfl,firm_zero,b5⟩
end Go.Proofs.YtmngddomnaaedaaGreat
