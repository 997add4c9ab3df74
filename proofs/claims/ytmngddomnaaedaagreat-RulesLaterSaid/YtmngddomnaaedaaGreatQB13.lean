/-
 subst.Levels: levels in the place of parameters.
-/
import Derived.Lib.Hide
import Derived.Test.YtmngddomnaaedaaGreatQB1
import Derived.Test.YtmngddomnaaedaaGreatQB11
import Derived.Test.YtmngddomnaaedaaGreatQB10
import Derived.Test.YtmngddomnaaedaaGreatQB12
import Derived.Lib.MinMax
import Derived.Deep.OwnRows
open Go.Lib (hid)
set_option maxRecDepth 100000
set_option maxHeartbeats 32000000
namespace Go.Proofs.YtmngddomnaaedaaGreat
open Go.RowKit Go.Shelf Lvl Trm
namespace Trm
def levL:List Lv→List Lv→List Lv × Int × List Lv
 | [],y=>(y,0,[])
 | l :: r,y=>if (inst l y).2=0 then ((levL r (y.take 4)).1,(levL r (y.take 4)).2.1,(inst l y).1 :: (levL r (y.take 4)).2.2) else (y,(inst l y).2,[])
noncomputable def lfLev:Lf (List Lv):=fun y x _=>((levL x.ls y).1,(levL x.ls y).2.1,if (levL x.ls y).2.1=0∧sameL (levL x.ls y).2.2 x.ls=false then some (.mk x.k 0 x.s (levL x.ls y).2.2 []) else none)
def lev5 (c:Array Value) (p:Nat) (v0 v1 v2 v3 v4:Value):Array Value:=((((c.setIfInBounds p v0).setIfInBounds (p + 1) v1).setIfInBounds (p + 2) v2).setIfInBounds (p + 3) v3).setIfInBounds (p + 4) v4
theorem lev5_size (c:Array Value) (p:Nat) (v0 v1 v2 v3 v4:Value):(lev5 c p v0 v1 v2 v3 v4).size=c.size:=by simp [lev5]
theorem lev5_other {c:Array Value} {p q:Nat} (v0 v1 v2 v3 v4:Value) (h:q < p):(lev5 c p v0 v1 v2 v3 v4)[q]?=c[q]?:=by
 unfold lev5
 rw [Array.getElem?_setIfInBounds_ne (by omega),Array.getElem?_setIfInBounds_ne (by omega),Array.getElem?_setIfInBounds_ne (by omega),Array.getElem?_setIfInBounds_ne (by omega),Array.getElem?_setIfInBounds_ne (by omega)]
theorem lev5_at {c:Array Value} {p:Nat} (v0 v1 v2 v3 v4:Value) (h:p + 4 < c.size):(lev5 c p v0 v1 v2 v3 v4)[p]?=some v0∧(lev5 c p v0 v1 v2 v3 v4)[p + 1]?=some v1∧(lev5 c p v0 v1 v2 v3 v4)[p + 2]?=some v2∧(lev5 c p v0 v1 v2 v3 v4)[p + 3]?=some v3∧(lev5 c p v0 v1 v2 v3 v4)[p + 4]?=some v4:=by
 unfold lev5
 refine ⟨?_,?_,?_,?_,?_⟩
 ·rw [Array.getElem?_setIfInBounds_ne (by omega),Array.getElem?_setIfInBounds_ne (by omega),Array.getElem?_setIfInBounds_ne (by omega),Array.getElem?_setIfInBounds_ne (by omega),Array.getElem?_setIfInBounds_self_of_lt (by omega)]
 ·rw [Array.getElem?_setIfInBounds_ne (by omega),Array.getElem?_setIfInBounds_ne (by omega),Array.getElem?_setIfInBounds_ne (by omega),Array.getElem?_setIfInBounds_self_of_lt (by simp; omega)]
 ·rw [Array.getElem?_setIfInBounds_ne (by omega),Array.getElem?_setIfInBounds_ne (by omega),Array.getElem?_setIfInBounds_self_of_lt (by simp; omega)]
 ·rw [Array.getElem?_setIfInBounds_ne (by omega),Array.getElem?_setIfInBounds_self_of_lt (by simp; omega)]
 ·rw [Array.getElem?_setIfInBounds_self_of_lt (by simp; omega)]
def LBlk (w:World) (G n:Nat) (o:List Lv):Prop:=∃ c:Array Value,w.heap[G]?=some (.cells c 35 (0,0))∧c.size=n * 5∧∀ j (h:j < o.length),c[j * 5]?=some (.int .i64 (o[j]).c)∧c[j * 5 + 1]?=some (.int .i64 (o[j]).p0)∧c[j * 5 + 2]?=some (.int .i64 (o[j]).p1)∧c[j * 5 + 3]?=some (.int .i64 (o[j]).p2)∧c[j * 5 + 4]?=some (.int .i64 (o[j]).p3)
theorem LBlk.row {w:World} {G n:Nat} {o:List Lv} (h:LBlk w G n o):LRow w (some ⟨G,0,none⟩) o:=by
 obtain ⟨c,h1,_,h3⟩:=h
 refine ⟨fun k hk=>⟨G,0,rfl,?_⟩⟩
 obtain ⟨e0,e1,e2,e3,e4⟩:=h3 k hk
 rw [Nat.zero_add]
 refine ⟨?_,?_,?_,?_,?_⟩ <;> (simp [World.cell?,h1,e0,e1,e2,e3,e4])
theorem LBlk.of_block {w w':World} {G n:Nat} {o:List Lv} (h:LBlk w G n o) (e:w'.heap[G]?=w.heap[G]?):LBlk w' G n o:=by
 obtain ⟨c,h1,h2⟩:=h
 exact ⟨c,e.trans h1,h2⟩
theorem LBlk.lt {w:World} {G n:Nat} {o:List Lv} (h:LBlk w G n o):G < w.heap.size:=by
 obtain ⟨c,h1,_⟩:=h
 exact (Array.getElem?_eq_some_iff.1 h1).1
theorem LBlk.free {w:World} {G n:Nat} {o:List Lv} (h:LBlk w G n o) (i:Nat):w.frozen? ⟨G,i,none⟩=false:=by
 obtain ⟨c,h1,_⟩:=h
 simp [World.frozen?,h1]
theorem LBlk.has {w:World} {G n:Nat} {o:List Lv} (h:LBlk w G n o) {i:Nat} (hi:i < n * 5):∃ v,w.cell? ⟨G,i,none⟩=some v:=by
 obtain ⟨c,h1,h2,_⟩:=h
 exact ⟨c[i]'(by omega),by simp [World.cell?,h1,show i < c.size by omega]⟩
theorem LBlk.put {w:World} {G n:Nat} {o:List Lv} (h:LBlk w G n o) (ho:o.length < n) (x:Lv):LBlk (((((w.setCell ⟨G,o.length * 5,none⟩ (.int .i64 x.c)).setCell ⟨G,o.length * 5 + 1,none⟩ (.int .i64 x.p0)).setCell ⟨G,o.length * 5 + 2,none⟩ (.int .i64 x.p1)).setCell ⟨G,o.length * 5 + 3,none⟩ (.int .i64 x.p2)).setCell ⟨G,o.length * 5 + 4,none⟩ (.int .i64 x.p3)) G n (o ++ [x]):=by
 obtain ⟨c,h1,h2,h3⟩:=h
 refine ⟨lev5 c (o.length * 5) (.int .i64 x.c) (.int .i64 x.p0) (.int .i64 x.p1) (.int .i64 x.p2) (.int .i64 x.p3),by simp [World.setCell,Array.getElem?_modify,h1,lev5],by rw [lev5_size,h2],fun j hj=>?_⟩
 by_cases hjo:j < o.length
 ·rw [List.getElem_append_left hjo,lev5_other _ _ _ _ _ (by omega),lev5_other _ _ _ _ _ (by omega),lev5_other _ _ _ _ _ (by omega),lev5_other _ _ _ _ _ (by omega),lev5_other _ _ _ _ _ (by omega)]
  exact h3 j hjo
 ·have:j=o.length:=by rw [List.length_append,List.length_singleton] at hj; omega
  subst this
  rw [List.getElem_append_right (by omega)]
  simp only [Nat.sub_self,zqZ]
  exact lev5_at _ _ _ _ _ (by omega)
def zeros (n:Nat):Obj:=.cells (Array.replicate (n * 5) (.int .i64 0)) 35
theorem LBlk.made (w:World) (n:Nat):LBlk (w.alloc (zeros n)) w.heap.size n [] :=
 ⟨_,World.alloc_heap_new w (zeros n),by simp,fun j h=>by simp at h⟩
theorem make_0 (w:World):(Instr.makeSlice 22 (.int .i64 ((0:Nat):Int)) (.int .i64 ((0:Nat):Int))).run Tryz.prog w=.ok (.slice (some ⟨w.heap.size,0,none⟩) 0 0) (w.alloc (zeros 0)):=by kernel_rfl
theorem make_1 (w:World):(Instr.makeSlice 22 (.int .i64 ((1:Nat):Int)) (.int .i64 ((1:Nat):Int))).run Tryz.prog w=.ok (.slice (some ⟨w.heap.size,0,none⟩) 1 1) (w.alloc (zeros 1)):=by kernel_rfl
theorem make_2 (w:World):(Instr.makeSlice 22 (.int .i64 ((2:Nat):Int)) (.int .i64 ((2:Nat):Int))).run Tryz.prog w=.ok (.slice (some ⟨w.heap.size,0,none⟩) 2 2) (w.alloc (zeros 2)):=by kernel_rfl
theorem make_3 (w:World):(Instr.makeSlice 22 (.int .i64 ((3:Nat):Int)) (.int .i64 ((3:Nat):Int))).run Tryz.prog w=.ok (.slice (some ⟨w.heap.size,0,none⟩) 3 3) (w.alloc (zeros 3)):=by kernel_rfl
theorem make_4 (w:World):(Instr.makeSlice 22 (.int .i64 ((4:Nat):Int)) (.int .i64 ((4:Nat):Int))).run Tryz.prog w=.ok (.slice (some ⟨w.heap.size,0,none⟩) 4 4) (w.alloc (zeros 4)):=by kernel_rfl
theorem make_levels (n:Nat) (hn:n≤4) (w:World):(Instr.makeSlice 22 (.int .i64 (n:Int)) (.int .i64 (n:Int))).run Tryz.prog w=.ok (.slice (some ⟨w.heap.size,0,none⟩) n n) (w.alloc (zeros n)):=by
 have h:n=0∨n=1∨n=2∨n=3∨n=4:=by omega
 rcases h with rfl | rfl | rfl | rfl | rfl
 ·exact make_0 w
 ·exact make_1 w
 ·exact make_2 w
 ·exact make_3 w
 ·exact make_4 w
theorem cut_levels (ao:Option Addr) (n cap k:Nat) (hk:k≤cap) (wx:World) :
 (Instr.slice 22 (.slice ao n cap) none (some (.int .i64 (k:Int))) none).run Tryz.prog wx=.ok (.slice ao k cap) wx:=by
 have he:Tryz.prog.elem 22=35:=by simp [Program.elem,Tryz.underlying22]
 have hz:(Go.sizeOf 35).run Tryz.prog wx=.ok 5 wx:=by kernel_rfl
 rw [run_slice_h wx 22 _ _ _ (by rw [he]; exact Tryz.underlying22) .i64 _ (by omega) (by omega),he,hz]
 cases ao <;> simp [Result.andThen,sliced,Addr.add]
theorem lrow_take {w:World} {ao:Option Addr} {ls:List Lv} (h:LRow w ao ls) (n:Nat):LRow w ao (ls.take n):=by
 refine ⟨fun k hk=>?_⟩
 rw [List.length_take] at hk
 obtain ⟨b,off,hao,ha⟩:=h.place k (by omega)
 exact ⟨b,off,hao,by rw [List.getElem_take]; exact ha⟩
theorem node_ls {t:Tm} (h:t.node=true):t.ls.length≤4:=by
 unfold Tm.node at h
 simp only [Bool.and_eq_true] at h
 have h6:=h.2
 split at h6
 ·simp at h6; omega
 ·split at h6
  ·simpa using h6
  ·simp at h6; rw [h6]; simp
def LevInv (bo:Option Addr) (bc:Nat) (y0:List Lv) (B K:Nat) (y:List Lv) (w:World):Prop :=
 w.heap[K]?=some (.cells #[.slice bo y.length bc] 22)∧(y=y0∨y=y0.take 4)∧LRow w bo y0∧Low B bo y0.length
theorem LevInv.keep {bo:Option Addr} {bc:Nat} {y0:List Lv} {B K N:Nat} (hK:K < N) (hB:B≤N) (y:List Lv) (w w':World) (h:LevInv bo bc y0 B K y w) (b:Below N w w'):LevInv bo bc y0 B K y w' :=
 ⟨(b.block _ hK).trans h.1,h.2.1,LRow.low h.2.2.1 h.2.2.2 (b.mono hB),h.2.2.2⟩
theorem LevInv.levels {bo:Option Addr} {bc:Nat} {y0 y:List Lv} {B K:Nat} {w:World} (h:LevInv bo bc y0 B K y w):LRow w bo y:=by
 rcases h.2.1 with e | e
 ·rw [e]; exact h.2.2.1
 ·rw [e]; exact lrow_take h.2.2.1 4
theorem LevInv.len {bo:Option Addr} {bc:Nat} {y0 y:List Lv} {B K:Nat} {w:World} (h:LevInv bo bc y0 B K y w):y.length≤y0.length:=by
 rcases h.2.1 with e | e
 ·rw [e]; exact Nat.le_refl _
 ·rw [e,List.length_take]; omega
def LvRel (w:World) (ls:List Lv) (bo:Option Addr) (bc:Nat) (y0:List Lv) (K n:Nat) (R:List Lv × Int × List Lv) (i:Value) (wr:World):Prop :=
 ∃ (k:Nat) (y out:List Lv),i=.int .i64 k∧k≤n∧out.length=k∧(levL (ls.drop k) y).1=R.1∧(levL (ls.drop k) y).2.1=R.2.1∧(R.2.1=0→R.2.2=out ++ (levL (ls.drop k) y).2.2) ∧
   wr.heap[K]?=some (.cells #[.slice bo y.length bc] 22)∧(y=y0∨y=y0.take 4)∧LBlk wr (w.heap.size + 1) n out∧wr.heap[w.heap.size]?=some (.cells #[.int .u8 0,.int .i64 0,.string no,.slice none 0 0,.slice none 0 0] 25)∧RanS (fun q=>q=K) w wr
end Trm
theorem levels1_any {B N K:Nat} (hKN:K < N) (hBK:B≤K) (bo:Option Addr) (bc:Nat) (y0:List Lv) (hy0:y0.length≤1000000) (hbc:y0.length≤bc) (y:List Lv) (t:Tm) (b o:Nat) (u:Int) (w:World) (hi:LevInv bo bc y0 B K y w) (hn:t.node=true) (hat:SAt B (fun q=>q=K) w b o t) (hB:B≤w.heap.size) (hN:N≤w.heap.size) :
 Calls Tryz.prog 85 #[.pointer (some ⟨b,o,none⟩),.int .i64 u,.pointer (some ⟨K,0,none⟩)] w (ThrPost B (fun q=>q=K) (lfLev y t u) (LevInv bo bc y0 B K) w):=by
 have hK:K < w.heap.size:=Nat.lt_of_lt_of_le hKN hN
 obtain ⟨hbP,hb,⟨lo,lc,tq0,tc⟩,⟨c0,c1,c2,c3,c4⟩,hin⟩:=hat
 have hn4:=node_ls hn
 have hk8:=(node_few hn).2.2
 obtain ⟨hfit,hrow,hlow,_⟩:=Tm.In_iff.1 hin
 dsimp only at c3 c4 hrow hlow
 obtain ⟨R,hR⟩:∃ R,R=levL t.ls y:=⟨_,rfl⟩
 obtain ⟨n,hnl⟩:∃ n,n=t.ls.length:=⟨_,rfl⟩
 obtain ⟨Q,hQ⟩:∃ Q,Q=ThrPost B (fun q=>q=K) (lfLev y t u) (LevInv bo bc y0 B K) w:=⟨_,rfl⟩
 have HQZ:Hid (∀ w',(R.2.1 ≠ 0∨sameL R.2.2 t.ls=true)→LevInv bo bc y0 B K R.1 w'→RanS (fun q=>q=K) w w'→Q (.returned (.tuple #[zeroT.val ⟨none,0,none,0⟩,.int .i64 R.2.1])) w'):=hid (fun w' hc h1 h2=>by
  have e:lfLev y t u=(R.1,R.2.1,none):=by
   rw [hR] at hc ⊢
   unfold lfLev
   rw [if_neg]
   rintro ⟨x1,x2⟩
   rcases hc with hc | hc
   ·exact hc x1
   ·rw [hc] at x2; cases x2
  rw [hQ,e]
  exact ⟨⟨none,0,none,0⟩,rfl,firm_zero,h1,h2⟩)
 have HQY:Hid (∀ w' h',R.2.1=0→sameL R.2.2 t.ls=false→FirmS (fun q=>B≤q∧q < w.heap.size) w' (.mk t.k 0 t.s R.2.2 []) h'→LevInv bo bc y0 B K R.1 w'→RanS (fun q=>q=K) w w'→Q (.returned (.tuple #[(Tm.mk t.k 0 t.s R.2.2 []).val h',.int .i64 0])) w'):=hid (fun w' h' hc hs h0 h1 h2=>by
  have e:lfLev y t u=(R.1,R.2.1,some (.mk t.k 0 t.s R.2.2 [])):=by
   rw [hR] at hc hs ⊢
   unfold lfLev
   rw [if_pos ⟨hc,hs⟩]
  rw [hQ,e,hc]
  exact ⟨h',rfl,h0,h1,h2⟩)
 rw [← hQ]
 rw [← hnl] at c3 hn4
 have hmk:=fun W=>make_levels n hn4 W
 have HR:=hid hR
 have HNL:=hid hnl
 have HROW:=hid hrow
 have HLOW:=hid hlow
 have HI:=hid hi
 have HFIT:=hid hfit
 have HW0:=hid (show LBlk ((w.alloc (.cells #[.int .u8 0,.int .i64 0,.string no,.slice none 0 0,.slice none 0 0] 25)).alloc (zeros n)) (w.heap.size + 1) n [] from by
  have:=LBlk.made (w.alloc (.cells #[.int .u8 0,.int .i64 0,.string no,.slice none 0 0,.slice none 0 0] 25)) n
  rwa [World.size_alloc] at this)
 have HZ0:=hid (new1of2 w (.cells #[.int .u8 0,.int .i64 0,.string no,.slice none 0 0,.slice none 0 0] 25) (zeros n))
 have HB0:=hid (below_two w (.cells #[.int .u8 0,.int .i64 0,.string no,.slice none 0 0,.slice none 0 0] 25) (zeros n))
 have HC0:=hid c0
 have HC2:=hid c2
 have HC3:=hid c3
 clear hQ hR hnl hin hrow hlow hi hn hfit c0 c1 c2 c4
 go_enter Tryz.func85,Tryz.ntmps85
 go_wp2_with fail
 go_loopw [23] (fun i wr=>LvRel w t.ls bo bc y0 K n R i wr) (fun i _=>n - (intOf i).toNat)
 case atStart=>exact ⟨0,y,[],rfl,by omega,rfl,by rw [HR.out]; rfl,by rw [HR.out]; rfl,fun _=>by rw [HR.out]; rfl,Lvl.keep HB0.out HI.out.1,HI.out.2.1,HW0.out,HZ0.out,RanS.of_below HB0.out⟩
 case round =>
  clear HW0 HZ0 HB0 hmk c3
  obtain ⟨k,y',out,rfl,hk,hol,h1,h2,h3,hKc,hyy,hblk,hz,hran⟩:=hrel
  subst hol
  have hszr:=hran.size
  have hbel:Below B w wr:=hran.below (fun q hq=>by omega) hB
  have hinv:LevInv bo bc y0 B K y' wr:=⟨hKc,hyy,LRow.low HI.out.2.2.1 HI.out.2.2.2 hbel,HI.out.2.2.2⟩
  have hy'l:=hinv.len
  have HINV:=hid hinv
  have HKC:=hid hKc
  have HBLK:=hid hblk
  have HZ:=hid hz
  have HRAN:=hid hran
  have HBEL:=hid hbel
  have HLI:=hid (fun (W:World) (x:List Lv) (hk:W.heap[K]?=some (.cells #[.slice bo x.length bc] 22)) (hx:x=y0∨x=y0.take 4) (hr:RanS (fun q=>q=K) w W)=>(show LevInv bo bc y0 B K x W from ⟨hk,hx,LRow.low HI.out.2.2.1 HI.out.2.2.2 (hr.below (fun q hq=>by omega) hB),HI.out.2.2.2⟩))
  have lK:K < wr.heap.size:=by omega
  have lG:w.heap.size + 1 < wr.heap.size:=hblk.lt
  have hKG:K ≠ w.heap.size + 1:=by omega
  have cK:=one_cell hKc
  by_cases hlt:out.length < n
  ·have hltl:out.length < t.ls.length:=by rw [← HNL.out]; exact hlt
   obtain ⟨b2,off2,hlo,l0,l1,l2,l3,l4⟩:=(LRow.low HROW.out HLOW.out hbel).place out.length hltl
   subst hlo
   rw [List.drop_eq_getElem_cons hltl] at h1 h2 h3
   generalize t.ls[out.length]=l at l0 l1 l2 l3 l4 h1 h2 h3
   have lb2:b2 < wr.heap.size:=World.block_lt_of_cell? wr _ l0
   obtain ⟨A,q,hA⟩:∃ A q,inst l y'=(A,q):=⟨_,_,rfl⟩
   have HIN:=hid (fun (W:World) (hW:Below wr.heap.size wr W)=>(show Calls Tryz.prog 86 #[.agg #[.int .i64 l.c,.int .i64 l.p0,.int .i64 l.p1,.int .i64 l.p2,.int .i64 l.p3],.slice bo y'.length bc] W (fun e w'=>e=.returned (.tuple #[.agg #[.int .i64 A.c,.int .i64 A.p0,.int .i64 A.p1,.int .i64 A.p2,.int .i64 A.p3],.int .i64 q])∧Below W.heap.size W w') from by
    have:=inst_any l bo bc y' W (LRow.low HINV.out.levels (fun hp a ha=>HINV.out.2.2.2 (by omega) a ha) (hW.mono (by omega))) (by omega)
    rw [hA] at this
    exact this))
   unfold levL at h1 h2 h3
   rw [hA] at h1 h2 h3
   dsimp only at h1 h2 h3
   have H1:=hid h1
   have H2:=hid h2
   have H3:=hid h3
   clear h1 h2 h3 hA hKc hblk hz hran hbel hinv
   go_wp2_with fail
   refine (HIN.out _ (below_one _ _)).mono ?_
   rintro e w2 ⟨rfl,bb⟩
   have hb2:Below wr.heap.size wr w2:=Trm.go (below_one wr _) bb
   have HB2:=hid hb2
   have HK2:=hid (Lvl.keep hb2 HKC.out)
   have hZ2:=Lvl.keep hb2 HZ.out
   have HZ2:=hid hZ2
   have hL2:=HBLK.out.of_block (hb2.block _ lG)
   have HL2:=hid hL2
   have HRAN2:=hid (HRAN.out.trans (RanS.of_below hb2))
   have lK2:K < w2.heap.size:=by have:=hb2.size; omega
   have lG2:w.heap.size + 1 < w2.heap.size:=hL2.lt
   have lA2:w.heap.size < w2.heap.size:=by omega
   clear bb hb2 l0 l1 l2 l3 l4 lb2 cK
   have cK:=one_cell HK2.out
   by_cases hq:q=0
   ·subst hq
    obtain ⟨v0,g0⟩:=hL2.has (i:=out.length * 5) (by omega)
    obtain ⟨v1,g1⟩:=hL2.has (i:=out.length * 5 + 1) (by omega)
    obtain ⟨v2,g2⟩:=hL2.has (i:=out.length * 5 + 2) (by omega)
    obtain ⟨v3,g3⟩:=hL2.has (i:=out.length * 5 + 3) (by omega)
    obtain ⟨v4,g4⟩:=hL2.has (i:=out.length * 5 + 4) (by omega)
    have fG:∀ i,w2.frozen? ⟨w.heap.size + 1,i,none⟩=false:=fun i=>hL2.free i
    have fK:w2.frozen? ⟨K,0,none⟩=false:=free_one HK2.out
    obtain ⟨M,hM⟩:∃ M,M=(y'.take 4).length:=⟨_,rfl⟩
    have hMm:min (y'.length:Int) 4=(M:Int):=by rw [hM,List.length_take]; omega
    have hMc:M≤bc:=by rw [hM,List.length_take]; omega
    have hcut:=fun W=>cut_levels bo y'.length bc M hMc W
    have HM:=hid hM
    clear hL2 hM hZ2
    go_wp2_with fail
    have h5:=HL2.out.put hlt A
    have r5:=RanS.putO HRAN2.out (by omega:w.heap.size≤w.heap.size + 1) (out.length * 5) (.int .i64 A.c) (.int .i64 A.p0) (.int .i64 A.p1) (.int .i64 A.p2) (.int .i64 A.p3)
    have k5:=((putO_ran w2 (w.heap.size + 1) (out.length * 5) (.int .i64 A.c) (.int .i64 A.p0) (.int .i64 A.p1) (.int .i64 A.p2) (.int .i64 A.p3)).block K lK2 hKG).trans HK2.out
    have z5:=((putO_ran w2 (w.heap.size + 1) (out.length * 5) (.int .i64 A.c) (.int .i64 A.p0) (.int .i64 A.p1) (.int .i64 A.p2) (.int .i64 A.p3)).block w.heap.size lA2 (by omega)).trans HZ2.out
    unfold putO at r5 k5 z5
    generalize hW:((((w2.setCell ⟨w.heap.size + 1,out.length * 5,none⟩ (.int .i64 A.c)).setCell ⟨w.heap.size + 1,out.length * 5 + 1,none⟩ (.int .i64 A.p0)).setCell ⟨w.heap.size + 1,out.length * 5 + 2,none⟩ (.int .i64 A.p1)).setCell ⟨w.heap.size + 1,out.length * 5 + 3,none⟩ (.int .i64 A.p2)).setCell ⟨w.heap.size + 1,out.length * 5 + 4,none⟩ (.int .i64 A.p3)=W5 at h5 r5 k5 z5 ⊢
    have h6:=h5.of_block ((Ran.set W5 K 0 (.slice bo M bc)).block _ h5.lt (Ne.symm hKG))
    have k6:=Lvl.put_one k5 (.slice bo M bc)
    have z6:=Lvl.cells_other z5 (o:=0) (.slice bo M bc) (show K ≠ w.heap.size by omega)
    have r6:RanS (fun q=>q=K) w (W5.setCell ⟨K,0,none⟩ (.slice bo M bc)):=r5.trans (RanS.of_ran (P:=fun q=>q=K) (Ran.set W5 K 0 (.slice bo M bc)) rfl)
    clear hW h5 r5 k5 z5
    generalize hW:W5.setCell ⟨K,0,none⟩ (.slice bo M bc)=W6 at h6 k6 z6 r6 ⊢
    have h7:=h6.of_block ((below_one W6 (.cells #[.int .i64 A.c,.int .i64 A.p0,.int .i64 A.p1,.int .i64 A.p2,.int .i64 A.p3] 35)).block _ h6.lt)
    have k7:=keepA k6 (.cells #[.int .i64 A.c,.int .i64 A.p0,.int .i64 A.p1,.int .i64 A.p2,.int .i64 A.p3] 35)
    have z7:=keepA z6 (.cells #[.int .i64 A.c,.int .i64 A.p0,.int .i64 A.p1,.int .i64 A.p2,.int .i64 A.p3] 35)
    have r7:=r6.more (.cells #[.int .i64 A.c,.int .i64 A.p0,.int .i64 A.p1,.int .i64 A.p2,.int .i64 A.p3] 35)
    rw [HM.out] at k7
    clear hW
    go_roundw
    case rel=>exact ⟨out.length + 1,y'.take 4,out ++ [A],by go_num,by omega,by simp,by have:=H1.out; rwa [if_pos trivial] at this,by have:=H2.out; rwa [if_pos trivial] at this,fun hr=>by have:=H3.out hr; rw [if_pos trivial] at this; rw [this,List.append_assoc]; rfl,k7,by rcases hyy with e | e <;> (rw [e]; right; simp [List.take_take]),h7,z7,r7⟩
    case measure=>simp [intOf]; omega
   ·have hdq:(q != 0)=true:=by simpa using hq
    obtain ⟨a0,a1,a2,a3,a4⟩:=five_cells hZ2
    obtain ⟨f0,f1,f2,f3,f4⟩:=five_free hZ2
    have H1':=hid (show y'=R.1 by have:=H1.out; rwa [if_neg hq] at this)
    have H2':=hid (show q=R.2.1 by have:=H2.out; rwa [if_neg hq] at this)
    have HNE:=hid hq
    clear hq hL2 H1 H2 H3
    go_wp2_with fail
    have h5:=putT_self HZ2.out (.int .u8 0) (.int .i64 0) (.string no) (.slice none 0 0) (.slice none 0 0)
    have s5:=RanS.put HRAN2.out (Nat.le_refl w.heap.size) (.int .u8 0) (.int .i64 0) (.string no) (.slice none 0 0) (.slice none 0 0)
    have k5:=((putT_ran w2 w.heap.size (.int .u8 0) (.int .i64 0) (.string no) (.slice none 0 0) (.slice none 0 0)).block K lK2 (by omega)).trans HK2.out
    unfold putT no at h5 s5 k5
    generalize hW:((((w2.setCell ⟨w.heap.size,0,none⟩ (.int .u8 0)).setCell ⟨w.heap.size,1,none⟩ (.int .i64 0)).setCell ⟨w.heap.size,2,none⟩ (.string ⟨#[]⟩)).setCell ⟨w.heap.size,3,none⟩ (.slice none 0 0)).setCell ⟨w.heap.size,4,none⟩ (.slice none 0 0)=W4 at h5 s5 k5 ⊢
    have h6:=keepA h5 (.cells #[.int .i64 A.c,.int .i64 A.p0,.int .i64 A.p1,.int .i64 A.p2,.int .i64 A.p3] 35)
    have s6:=s5.more (.cells #[.int .i64 A.c,.int .i64 A.p0,.int .i64 A.p1,.int .i64 A.p2,.int .i64 A.p3] 35)
    have k6:=keepA k5 (.cells #[.int .i64 A.c,.int .i64 A.p0,.int .i64 A.p1,.int .i64 A.p2,.int .i64 A.p3] 35)
    clear hW
    generalize hW:W4.alloc (.cells #[.int .i64 A.c,.int .i64 A.p0,.int .i64 A.p1,.int .i64 A.p2,.int .i64 A.p3] 35)=W5 at h6 s6 k6 ⊢
    obtain ⟨e0,e1,e2,e3,e4⟩:=five_cells h6
    clear hW
    exact bodyPost_ret (v:=.tuple #[zeroT.val ⟨none,0,none,0⟩,.int .i64 q]) (by simp [results,Tryz.results85,go_sem,e0,e1,e2,e3,e4,zeroT,Tm.val,Tm.vals,Tm.k,Tm.n,Tm.s,Tm.ls,Tm.ts,no]) rfl (by
     have:=HQZ.out W5 (Or.inl (by rw [← H2'.out]; exact HNE.out)) (HLI.out W5 R.1 (by rw [← H1'.out]; exact k6) (by rw [← H1'.out]; exact hyy) s6) s6
     rwa [← H2'.out] at this)
  ·have hnk:out.length=n:=by omega
   have hdn:t.ls.drop out.length=[]:=by rw [hnk,HNL.out]; exact List.drop_length
   rw [hdn] at h1 h2 h3
   unfold levL at h1 h2 h3
   dsimp only at h1 h2 h3
   rw [List.append_nil] at h3
   have H1:=hid h1
   have H2:=hid h2
   have H3:=hid (h3 h2.symm)
   have hKI:LevInv bo bc y0 B K R.1 wr:=h1 ▸ hinv
   have HKI:=hid hKI
   have HEQ:Hid (Calls Tryz.prog 87 #[.slice (some ⟨w.heap.size + 1,0,none⟩) n n,.slice lo n lc] wr (fun e w'=>e=.returned (.bool (sameL out t.ls))∧Drawn wr w')):=hid (by
    have:=Equal_any (some ⟨w.heap.size + 1,0,none⟩) lo n lc out t.ls wr hblk.row (LRow.low HROW.out HLOW.out hbel) (by omega)
    rwa [hnk,← HNL.out] at this)
   have x3:=(hran.cell (p:=⟨b,o + 3,none⟩) hb hbP).trans HC3.out
   have X0:=hid ((hran.cell (p:=⟨b,o,none⟩) hb hbP).trans HC0.out)
   have X2:=hid ((hran.cell (p:=⟨b,o + 2,none⟩) hb hbP).trans HC2.out)
   have lb:b < wr.heap.size:=by omega
   have lA:w.heap.size < wr.heap.size:=by omega
   clear h1 h2 h3 hinv hKI hKc hblk hz hran hbel hdn
   go_wp2_with fail
   refine HEQ.out.mono ?_
   rintro e w3 ⟨rfl,hdr⟩
   have HDR:=hid hdr
   have hZ3:w3.heap[w.heap.size]?=_:=(congrArg (fun h=>h[w.heap.size]?) hdr.heap).trans HZ.out
   have HZ3:=hid hZ3
   have HR3:=hid (HRAN.out.trans (RanS.of_below (hdr.below wr.heap.size)))
   have HK3:=hid (LevInv.keep (N:=wr.heap.size) (by omega) (by omega) _ _ _ HKI.out (hdr.below wr.heap.size))
   have HL3:=hid (HBLK.out.of_block (congrArg (fun h=>h[w.heap.size + 1]?) hdr.heap))
   have x0:=(Trm.cell_heap hdr.heap ⟨b,o,none⟩).trans X0.out
   have x2:=(Trm.cell_heap hdr.heap ⟨b,o + 2,none⟩).trans X2.out
   have lb3:b < w3.heap.size:=by rw [hdr.heap]; exact lb
   have lA3:w.heap.size < w3.heap.size:=by rw [hdr.heap]; exact lA
   obtain ⟨a0,a1,a2,a3,a4⟩:=five_cells hZ3
   obtain ⟨f0,f1,f2,f3,f4⟩:=five_free hZ3
   clear x3 cK hdr hZ3
   cases hsm:sameL out t.ls
   ·have HSM:=hid hsm
    clear hsm
    go_wp2_with fail
    go_region
    go_wp2_with fail
    have h5:=putT_self HZ3.out (.int .u8 t.k) (.int .i64 0) (.string t.s) (.slice (some ⟨w.heap.size + 1,0,none⟩) n n) (.slice none 0 0)
    have s5:=RanS.put HR3.out (Nat.le_refl w.heap.size) (.int .u8 t.k) (.int .i64 0) (.string t.s) (.slice (some ⟨w.heap.size + 1,0,none⟩) n n) (.slice none 0 0)
    have k5:=LevInv.keep (N:=w.heap.size) (by omega) (by omega) _ _ _ HK3.out ((putT_ran w3 w.heap.size (.int .u8 t.k) (.int .i64 0) (.string t.s) (.slice (some ⟨w.heap.size + 1,0,none⟩) n n) (.slice none 0 0)).below (Nat.le_refl _) (by omega))
    have l5:=HL3.out.of_block ((putT_ran w3 w.heap.size (.int .u8 t.k) (.int .i64 0) (.string t.s) (.slice (some ⟨w.heap.size + 1,0,none⟩) n n) (.slice none 0 0)).block _ HL3.out.lt (by omega))
    unfold putT at h5 s5 k5 l5
    generalize hW:((((w3.setCell ⟨w.heap.size,0,none⟩ (.int .u8 t.k)).setCell ⟨w.heap.size,1,none⟩ (.int .i64 0)).setCell ⟨w.heap.size,2,none⟩ (.string t.s)).setCell ⟨w.heap.size,3,none⟩ (.slice (some ⟨w.heap.size + 1,0,none⟩) n n)).setCell ⟨w.heap.size,4,none⟩ (.slice none 0 0)=W4 at h5 s5 k5 l5 ⊢
    have hW4:w.heap.size < W4.heap.size:=(Array.getElem?_eq_some_iff.1 h5).1
    have hwW:w.heap.size≤W4.heap.size:=by omega
    have h6:=Lvl.keep (Below.refl W4.heap.size W4).drew h5
    have s6:=s5.trans (RanS.of_below (Below.refl W4.heap.size W4).drew)
    have k6:=LevInv.keep (N:=w.heap.size) (by omega) (by omega) _ _ _ k5 ((Below.refl W4.heap.size W4).drew.mono hwW)
    have l6:=l5.of_block ((Below.refl W4.heap.size W4).drew.block _ l5.lt)
    clear hW h5 s5 k5 l5
    generalize hW:W4.drew=W5 at h6 s6 k6 l6 ⊢
    clear hW hW4 hwW
    obtain ⟨e0,e1,e2,e3,e4⟩:=five_cells h6
    have hRn:R.2.2.length=n:=by rw [H3.out]; exact hnk
    have hfm:FirmS (fun q=>B≤q∧q < w.heap.size) W5 (.mk t.k 0 t.s R.2.2 []) ⟨some ⟨w.heap.size + 1,0,none⟩,n,none,0⟩:=fun w' hr=>by
     have l7:=l6.of_block (hr.block _ l6.lt (by omega))
     have h7:=l7.row
     rw [← H3.out] at h7
     exact Tm.In_iff.2 ⟨⟨HFIT.out.k0,HFIT.out.k1,by simp [Tm.n],by simp [Tm.n],HFIT.out.s,by simp only [Tm.ls]; omega,by simp [Tm.ts]⟩,h7,fun _ a ha=>by
      cases ha
      exact l7.lt,RowIn.mk fun i hi=>by simp [Tm.ts] at hi,by simp only [Tm.ls]; omega⟩
    exact bodyPost_ret (v:=.tuple #[(Tm.mk t.k 0 t.s R.2.2 []).val ⟨some ⟨w.heap.size + 1,0,none⟩,n,none,0⟩,.int .i64 0]) (by simp [results,Tryz.results85,go_sem,e0,e1,e2,e3,e4,hRn,Tm.val,Tm.vals,Tm.k,Tm.n,Tm.s,Tm.ls,Tm.ts]) rfl (HQY.out W5 _ H2.out.symm (by rw [H3.out]; exact HSM.out) hfm k6 s6)
   ·have HSM:=hid hsm
    clear hsm
    go_wp2_with fail
    have h5:=putT_self HZ3.out (.int .u8 0) (.int .i64 0) (.string no) (.slice none 0 0) (.slice none 0 0)
    have s5:=RanS.put HR3.out (Nat.le_refl w.heap.size) (.int .u8 0) (.int .i64 0) (.string no) (.slice none 0 0) (.slice none 0 0)
    have k5:=LevInv.keep (N:=w.heap.size) (by omega) (by omega) _ _ _ HK3.out ((putT_ran w3 w.heap.size (.int .u8 0) (.int .i64 0) (.string no) (.slice none 0 0) (.slice none 0 0)).below (Nat.le_refl _) (by omega))
    unfold putT no at h5 s5 k5
    generalize hW:((((w3.setCell ⟨w.heap.size,0,none⟩ (.int .u8 0)).setCell ⟨w.heap.size,1,none⟩ (.int .i64 0)).setCell ⟨w.heap.size,2,none⟩ (.string ⟨#[]⟩)).setCell ⟨w.heap.size,3,none⟩ (.slice none 0 0)).setCell ⟨w.heap.size,4,none⟩ (.slice none 0 0)=W4 at h5 s5 k5 ⊢
    obtain ⟨e0,e1,e2,e3,e4⟩:=five_cells h5
    clear hW
    exact bodyPost_ret (v:=.tuple #[zeroT.val ⟨none,0,none,0⟩,.int .i64 0]) (by simp [results,Tryz.results85,go_sem,e0,e1,e2,e3,e4,zeroT,Tm.val,Tm.vals,Tm.k,Tm.n,Tm.s,Tm.ls,Tm.ts,no]) rfl (by
     have:=HQZ.out W4 (Or.inr (by rw [H3.out]; exact HSM.out)) k5 s5
     rwa [← H2.out] at this)
end Go.Proofs.YtmngddomnaaedaaGreat
namespace Go.Proofs.YtmngddomnaaedaaGreat
open Go.RowKit Go.Shelf Lvl Trm
def Trm.sizeAt (l:List Tm) (i:Nat):Value:=.int .i64 (l.getD i zeroT).size
end Go.Proofs.YtmngddomnaaedaaGreat
namespace Go.Proofs.YtmngddomnaaedaaGreat
open Go.RowKit Go.Shelf Lvl Trm
structure Trm.InstInv (l:List Tm) (lo:Option Addr) (lc B C KL M KS G:Nat) (n:Int) (w:World):Prop where
 c:w.heap[C]?=some (.cells #[.func (.func 182) #[] #[.pointer (some ⟨KL,0,none⟩),.pointer (some ⟨M,0,none⟩),.pointer (some ⟨KS,0,none⟩)]] 218)
 kl:w.heap[KL]?=some (.cells #[.slice lo l.length lc] 23)
 m:w.heap[M]?=some (.cells #[.int .i64 n] 3)
 ks:w.heap[KS]?=some (.cells #[.slice (some ⟨G,0,none⟩) l.length l.length] 178)
 g:w.rowIs G 3 l.length (sizeAt l)
 row:RowIn B w lo 0 l
structure Trm.InstBl (N B C KL M KS G:Nat):Prop where
 c:C < N
 kl:KL < N
 m:M < N
 ks:KS < N
 g:G < N
 b:B≤M
 mc:C ≠ M
 mkl:KL ≠ M
 mks:KS ≠ M
 mg:G ≠ M
theorem Trm.InstInv.keep {l:List Tm} {lo:Option Addr} {lc N B C KL M KS G:Nat} (H:InstBl N B C KL M KS G) (st:Int) (w w':World) (h:InstInv l lo lc B C KL M KS G st w) (b:Below N w w'):InstInv l lo lc B C KL M KS G st w' :=
 ⟨(b.block _ H.c).trans h.c,(b.block _ H.kl).trans h.kl,(b.block _ H.m).trans h.m,(b.block _ H.ks).trans h.ks,h.g.of_block (b.block _ H.g),h.row.below (b.mono (by have:=H.b; have:=H.m; omega))⟩
theorem Trm.InstInv.set {l:List Tm} {lo:Option Addr} {lc N B C KL M KS G:Nat} (H:InstBl N B C KL M KS G) {st:Int} {w:World} (h:InstInv l lo lc B C KL M KS G st w) (hN:N≤w.heap.size) (n:Int):InstInv l lo lc B C KL M KS G n (w.setCell ⟨M,0,none⟩ (.int .i64 n)):=by
 have r:=Ran.set w M 0 (.int .i64 n)
 exact ⟨(r.block _ (by have:=H.c; omega) H.mc).trans h.c,(r.block _ (by have:=H.kl; omega) H.mkl).trans h.kl,Lvl.put_one h.m _,(r.block _ (by have:=H.ks; omega) H.mks).trans h.ks,h.g.of_block (r.block _ (by have:=H.g; omega) H.mg),h.row.below (r.below H.b (by have:=H.b; have:=H.m; omega))⟩
end Go.Proofs.YtmngddomnaaedaaGreat
namespace Go.Proofs.YtmngddomnaaedaaGreat
open Go.RowKit Go.Shelf Lvl Trm
end Go.Proofs.YtmngddomnaaedaaGreat
