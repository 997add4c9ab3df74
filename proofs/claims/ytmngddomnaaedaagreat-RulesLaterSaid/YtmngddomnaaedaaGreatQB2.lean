/-
 level.params: the parameters that a level has,one behind the other.
-/
import Derived.Test.YtmngddomnaaedaaGreatQB1
import Derived.Test.YtmngddomnaaedaaGreatRows
import Derived.RangeFuncNested
import Derived.RangeFuncBound
import Derived.RangeFuncCalls
import Derived.RangeFuncLeaves
import Derived.RangeFuncFrom
import Derived.Shelf.Abstract
import Derived.Shelf.RegionOpen
import Derived.WalkKit
import Derived.OwnWalkIn
import Derived.TacticsInMore
import Derived.LoopNIn
import Derived.LoopIn
import Derived.Outline
import Derived.Lib.Hide
import Derived.Handy
import Derived.WalkLawsBesides
open Go.Lib (hid)
set_option maxRecDepth 100000
set_option maxHeartbeats 32000000
namespace Go.Proofs.YtmngddomnaaedaaGreat
open Go.RowKit Go.Shelf Lvl
attribute [local go_sem] Oper.semAt_some
def Lvl.Lv.val (l:Lv):Value:=.agg #[.int .i64 l.c,.int .i64 l.p0,.int .i64 l.p1,.int .i64 l.p2,.int .i64 l.p3]
def Lvl.Lv.box (l:Lv):Obj:=.cells #[.int .i64 l.c,.int .i64 l.p0,.int .i64 l.p1,.int .i64 l.p2,.int .i64 l.p3] 35
theorem params_any (l:Lv) (w:World) :
 Calls Tryz.prog 133 #[l.val] w fun e w'=>e=.returned (.func (.func 171) #[] #[.pointer (some ⟨w.heap.size,0,none⟩)])∧w.alloc l.box=w':=by
 unfold Lv.val
 go_enter Tryz.func133,Tryz.ntmps133
 go_wp2
 go_ret
 exact ⟨rfl,rfl⟩
abbrev Lvl.Pm (l:Lv):Type:={ x:Int × Int // x ∈ l.ps }
abbrev Lvl.encs (l:Lv) (x:Pm l):Array Value:=#[.int .i64 x.1.1,.int .i64 x.1.2]
theorem Lvl.Lv.cells {l:Lv} {b:Nat} {w:World} (h:w.heap[b]?=some l.box) :
 w.cell? ⟨b,0,none⟩=some (.int .i64 l.c)∧w.cell? ⟨b,1,none⟩=some (.int .i64 l.p0)∧w.cell? ⟨b,2,none⟩=some (.int .i64 l.p1)∧w.cell? ⟨b,3,none⟩=some (.int .i64 l.p2)∧w.cell? ⟨b,4,none⟩=some (.int .i64 l.p3):=by
 refine ⟨?_,?_,?_,?_,?_⟩ <;> (simp [World.cell?,h,Lv.box])
theorem Lvl.Lv.free {l:Lv} {b:Nat} {w:World} (h:w.heap[b]?=some l.box) (i:Nat):w.frozen? ⟨b,i,none⟩=false:=by
 simp [World.frozen?,h,Lv.box]
theorem params_stops (F:Fence) (n:Nat) (h37:F.fn 171) (hro:F.round=none) (hn:1≤n) (Bn:Nat) (l:Lv) (w:World) (hB:w.heap[Bn]?=some l.box) :
 SeqStopsK F n Tryz.prog 171 #[.pointer (some ⟨Bn,0,none⟩)] (encs l) (fun _ _=>True) (fun xs=>xs.map (·.1)=l.ps) (fun pre=>pre.map (·.1) <+: l.ps) l.ps.length w:=fun lo J Jx W hW _ _ hY h0=>by
 have hB':W.heap[Bn]?=some l.box:=by rw [hW.block _ ((Array.getElem?_eq_some_iff.1 hB).1)]; exact hB
 obtain ⟨_,c1,c2,c3,c4⟩:=Lv.cells hB'
 have i0:∀ w,(Instr.index 33 (.agg #[.int .i64 l.p0,.int .i64 l.p1,.int .i64 l.p2,.int .i64 l.p3]) (.int .i64 0)).run Tryz.prog w=.ok (.int .i64 l.p0) w:=fun _=>by kernel_rfl
 have i1:∀ w,(Instr.index 33 (.agg #[.int .i64 l.p0,.int .i64 l.p1,.int .i64 l.p2,.int .i64 l.p3]) (.int .i64 1)).run Tryz.prog w=.ok (.int .i64 l.p1) w:=fun _=>by kernel_rfl
 have i2:∀ w,(Instr.index 33 (.agg #[.int .i64 l.p0,.int .i64 l.p1,.int .i64 l.p2,.int .i64 l.p3]) (.int .i64 2)).run Tryz.prog w=.ok (.int .i64 l.p2) w:=fun _=>by kernel_rfl
 have i3:∀ w,(Instr.index 33 (.agg #[.int .i64 l.p0,.int .i64 l.p1,.int .i64 l.p2,.int .i64 l.p3]) (.int .i64 3)).run Tryz.prog w=.ok (.int .i64 l.p3) w:=fun _=>by kernel_rfl
 clear hB hB'
 refine callsIn_of_wp Tryz.func171 rfl h37 ?_ hro
 simp only [Tryz.ntmps171,List.size_toArray,List.length_cons,List.length_nil,Nat.reduceAdd,Nat.reduceSub,Array.replicate_succ,Array.replicate_zero,List.push_toArray,List.append_toArray,List.nil_append,List.cons_append]
 gi_wp2
 gi_loopw [7] (fun i wr=>∃ (k:Nat) (pre:List (Pm l)),i=.int .i64 k∧k≤4∧pre.map (·.1)=l.upto k∧J pre wr) (fun i wr=>4 - (intOf i).toNat)
 case atStart=>exact ⟨0,[],rfl,by omega,rfl,h0⟩
 case round =>
  obtain ⟨k,pre,rfl,hk,hpre,hJ⟩:=hrel
  have hk5:k=0∨k=1∨k=2∨k=3∨k=4:=by omega
  rcases hk5 with rfl | rfl | rfl | rfl | rfl
  ·by_cases hp:l.p0=-1
   ·have hpb:(l.p0 != -1)=false:=by simp [hp]
    have HP:=hid hp
    clear hp
    gi_wp2
    refine ⟨fun _ h=>(by cases h),?_⟩
    gi_wp2
    go_roundw
    case rel=>exact ⟨1,pre,rfl,by omega,by rw [hpre,l.upto_skip 0 (by omega) HP.out],hJ⟩
    case measure=>simp [intOf]
   ·have hpb:(l.p0 != -1)=true:=by simp [hp]
    obtain ⟨hm,hlen,hup⟩:=l.upto_mem 0 (by omega) hp
    obtain ⟨fn,tmps,assign,body,hy,hR⟩:=hY pre ⟨(0,l.p0),hm⟩ wr hJ (by rw [← hpre] at hlen; simpa using hlen)
    dsimp only [encs] at hy
    have HP:=hid hp
    have HU:=hid hup
    have HE:=hid hpre
    clear hp hup hpre hlen
    gi_wp2
    refine hR.mono ?_
    rintro e W' (⟨rfl,hJ',_⟩ | ⟨rfl,hJx⟩)
    ·gi_wp2
     go_roundw
     case rel=>exact ⟨1,pre ++ [⟨(0,l.p0),hm⟩],rfl,by omega,by rw [List.map_append,HE.out]; exact HU.out.symm,hJ'⟩
     case measure=>simp [intOf]
    ·gi_wp2
     refine bodyPost_ret (results_none rfl _ _ _) rfl ?_
     exact ⟨⟨_,rfl⟩,.inr ⟨_,by rw [List.map_append,HE.out]; exact (show l.upto 0 ++ [((0:Int),l.p0)]=l.upto 1 from HU.out.symm) ▸ l.upto_prefix 1,hJx⟩⟩
  ·by_cases hp:l.p1=-1
   ·have hpb:(l.p1 != -1)=false:=by simp [hp]
    have HP:=hid hp
    clear hp
    gi_wp2
    refine ⟨fun _ h=>(by cases h),?_⟩
    gi_wp2
    go_roundw
    case rel=>exact ⟨2,pre,rfl,by omega,by rw [hpre,l.upto_skip 1 (by omega) HP.out],hJ⟩
    case measure=>simp [intOf]
   ·have hpb:(l.p1 != -1)=true:=by simp [hp]
    obtain ⟨hm,hlen,hup⟩:=l.upto_mem 1 (by omega) hp
    obtain ⟨fn,tmps,assign,body,hy,hR⟩:=hY pre ⟨(1,l.p1),hm⟩ wr hJ (by rw [← hpre] at hlen; simpa using hlen)
    dsimp only [encs] at hy
    have HP:=hid hp
    have HU:=hid hup
    have HE:=hid hpre
    clear hp hup hpre hlen
    gi_wp2
    refine hR.mono ?_
    rintro e W' (⟨rfl,hJ',_⟩ | ⟨rfl,hJx⟩)
    ·gi_wp2
     go_roundw
     case rel=>exact ⟨2,pre ++ [⟨(1,l.p1),hm⟩],rfl,by omega,by rw [List.map_append,HE.out]; exact HU.out.symm,hJ'⟩
     case measure=>simp [intOf]
    ·gi_wp2
     refine bodyPost_ret (results_none rfl _ _ _) rfl ?_
     exact ⟨⟨_,rfl⟩,.inr ⟨_,by rw [List.map_append,HE.out]; exact (show l.upto 1 ++ [((1:Int),l.p1)]=l.upto 2 from HU.out.symm) ▸ l.upto_prefix 2,hJx⟩⟩
  ·by_cases hp:l.p2=-1
   ·have hpb:(l.p2 != -1)=false:=by simp [hp]
    have HP:=hid hp
    clear hp
    gi_wp2
    refine ⟨fun _ h=>(by cases h),?_⟩
    gi_wp2
    go_roundw
    case rel=>exact ⟨3,pre,rfl,by omega,by rw [hpre,l.upto_skip 2 (by omega) HP.out],hJ⟩
    case measure=>simp [intOf]
   ·have hpb:(l.p2 != -1)=true:=by simp [hp]
    obtain ⟨hm,hlen,hup⟩:=l.upto_mem 2 (by omega) hp
    obtain ⟨fn,tmps,assign,body,hy,hR⟩:=hY pre ⟨(2,l.p2),hm⟩ wr hJ (by rw [← hpre] at hlen; simpa using hlen)
    dsimp only [encs] at hy
    have HP:=hid hp
    have HU:=hid hup
    have HE:=hid hpre
    clear hp hup hpre hlen
    gi_wp2
    refine hR.mono ?_
    rintro e W' (⟨rfl,hJ',_⟩ | ⟨rfl,hJx⟩)
    ·gi_wp2
     go_roundw
     case rel=>exact ⟨3,pre ++ [⟨(2,l.p2),hm⟩],rfl,by omega,by rw [List.map_append,HE.out]; exact HU.out.symm,hJ'⟩
     case measure=>simp [intOf]
    ·gi_wp2
     refine bodyPost_ret (results_none rfl _ _ _) rfl ?_
     exact ⟨⟨_,rfl⟩,.inr ⟨_,by rw [List.map_append,HE.out]; exact (show l.upto 2 ++ [((2:Int),l.p2)]=l.upto 3 from HU.out.symm) ▸ l.upto_prefix 3,hJx⟩⟩
  ·by_cases hp:l.p3=-1
   ·have hpb:(l.p3 != -1)=false:=by simp [hp]
    have HP:=hid hp
    clear hp
    gi_wp2
    refine ⟨fun _ h=>(by cases h),?_⟩
    gi_wp2
    go_roundw
    case rel=>exact ⟨4,pre,rfl,by omega,by rw [hpre,l.upto_skip 3 (by omega) HP.out],hJ⟩
    case measure=>simp [intOf]
   ·have hpb:(l.p3 != -1)=true:=by simp [hp]
    obtain ⟨hm,hlen,hup⟩:=l.upto_mem 3 (by omega) hp
    obtain ⟨fn,tmps,assign,body,hy,hR⟩:=hY pre ⟨(3,l.p3),hm⟩ wr hJ (by rw [← hpre] at hlen; simpa using hlen)
    dsimp only [encs] at hy
    have HP:=hid hp
    have HU:=hid hup
    have HE:=hid hpre
    clear hp hup hpre hlen
    gi_wp2
    refine hR.mono ?_
    rintro e W' (⟨rfl,hJ',_⟩ | ⟨rfl,hJx⟩)
    ·gi_wp2
     go_roundw
     case rel=>exact ⟨4,pre ++ [⟨(3,l.p3),hm⟩],rfl,by omega,by rw [List.map_append,HE.out]; exact HU.out.symm,hJ'⟩
     case measure=>simp [intOf]
    ·gi_wp2
     refine bodyPost_ret (results_none rfl _ _ _) rfl ?_
     exact ⟨⟨_,rfl⟩,.inr ⟨_,by rw [List.map_append,HE.out]; exact (show l.upto 3 ++ [((3:Int),l.p3)]=l.upto 4 from HU.out.symm) ▸ l.upto_prefix 4,hJx⟩⟩
  ·gi_wp2
   go_end0
   exact ⟨⟨_,rfl⟩,.inl ⟨pre,hpre,hJ⟩⟩
end Go.Proofs.YtmngddomnaaedaaGreat
namespace Go.Proofs.YtmngddomnaaedaaGreat
open Go.RowKit Go.Shelf Lvl
def Lvl.number (n:Int):Lv:=⟨n,-1,-1,-1,-1⟩
def Lvl.Lv.within (l:Lv):Bool:=decide (0≤l.c∧l.c≤1099511627776∧(-1≤l.p0∧l.p0≤1099511627776)∧(-1≤l.p1∧l.p1≤1099511627776)∧(-1≤l.p2∧l.p2≤1099511627776)∧(-1≤l.p3∧l.p3≤1099511627776))
theorem Lvl.i0 (l:Lv):∀ w,(Instr.index 33 (.agg #[.int .i64 l.p0,.int .i64 l.p1,.int .i64 l.p2,.int .i64 l.p3]) (.int .i64 0)).run Tryz.prog w=.ok (.int .i64 l.p0) w:=fun _=>by kernel_rfl
theorem Lvl.i1 (l:Lv):∀ w,(Instr.index 33 (.agg #[.int .i64 l.p0,.int .i64 l.p1,.int .i64 l.p2,.int .i64 l.p3]) (.int .i64 1)).run Tryz.prog w=.ok (.int .i64 l.p1) w:=fun _=>by kernel_rfl
theorem Lvl.i2 (l:Lv):∀ w,(Instr.index 33 (.agg #[.int .i64 l.p0,.int .i64 l.p1,.int .i64 l.p2,.int .i64 l.p3]) (.int .i64 2)).run Tryz.prog w=.ok (.int .i64 l.p2) w:=fun _=>by kernel_rfl
theorem Lvl.i3 (l:Lv):∀ w,(Instr.index 33 (.agg #[.int .i64 l.p0,.int .i64 l.p1,.int .i64 l.p2,.int .i64 l.p3]) (.int .i64 3)).run Tryz.prog w=.ok (.int .i64 l.p3) w:=fun _=>by kernel_rfl
theorem Lvl.ret_bool {a b:Bool} (h:a=b):Ending.returned (.bool a)=.returned (.bool b):=by rw [h]
theorem Lvl.below_two (w:World) (o o':Obj):Below w.heap.size w ((w.alloc o).alloc o'):=((Below.refl _ _).alloc (Nat.le_refl _) _).alloc (by simp) _
theorem Lvl.below_one (w:World) (o:Obj):Below w.heap.size w (w.alloc o):=(Below.refl _ _).alloc (Nat.le_refl _) _
theorem number_any (n:Int) (w:World) :
 Calls Tryz.prog 132 #[.int .i64 n] w fun e w'=>e=.returned (number n).val∧Below w.heap.size w w':=by
 unfold number Lv.val
 go_enter Tryz.func132,Tryz.ntmps132
 go_wp2
 go_rounds 5
 exact bodyPost_ret (v:=.agg #[.int .i64 n,.int .i64 (-1),.int .i64 (-1),.int .i64 (-1),.int .i64 (-1)]) (by simp [results,Tryz.results132,go_sem]) rfl ⟨rfl,below_two _ _ _⟩
theorem within_any (l:Lv) (w:World) :
 Calls Tryz.prog 169 #[l.val] w fun e w'=>e=.returned (.bool l.within)∧Below w.heap.size w w':=by
 have i0:=i0 l
 have i1:=i1 l
 have i2:=i2 l
 have i3:=i3 l
 by_cases hc:0≤l.c∧l.c≤1099511627776
 ·obtain ⟨hc1,hc2⟩:=hc
  unfold Lv.val
  go_enter Tryz.func169,Tryz.ntmps169
  go_wp2
  go_rounds 5
  all_goals
   go_ret
   exact ⟨ret_bool (by unfold Lv.within; simp; omega),below_one _ _⟩
 ·have hc':l.c < 0∨(0≤l.c∧1099511627776 < l.c):=by omega
  have hf:l.within=false:=by unfold Lv.within; simp; omega
  rw [hf]
  clear hf hc i0 i1 i2 i3
  rcases hc' with hc | ⟨hc0,hc⟩
  all_goals
   unfold Lv.val
   go_enter Tryz.func169,Tryz.ntmps169
   go_wp2
   go_ret
   exact ⟨rfl,below_one _ _⟩
end Go.Proofs.YtmngddomnaaedaaGreat
namespace Go.Proofs.YtmngddomnaaedaaGreat
open Go.RowKit Go.Shelf Lvl
attribute [local go_sem] Oper.semAt_some
def Lvl.zero:Lv:=⟨0,0,0,0,0⟩
def Lvl.formC (c:Int) (pre:List (Int × Int)):Int:=pre.foldl (fun c x=>if c≤x.2 then 0 else c) c
theorem Lvl.formC_snoc (c:Int) (pre:List (Int × Int)) (x:Int × Int):formC c (pre ++ [x])=if formC c pre≤x.2 then 0 else formC c pre:=by
 unfold formC; rw [List.foldl_append]; rfl
def Lvl.Lv.form (l:Lv):Lv:={ l with c:=formC l.c l.ps }
theorem Lvl.block_kept {l:Lv} {W W':World} {row:Option Nat} {B:Nat} (h:W.heap[B]?=some l.box) (hg:W.grownBy W' row) (hr:∀ r,row=some r→∃ o:Obj,W.heap[r]?=some o∧o.isCells=false):W'.heap[B]?=some l.box:=by
 rw [grownBy_keeps_cells hg hr h rfl]; exact h
theorem Lvl.set_c {l:Lv} {W:World} {B:Nat} (h:W.heap[B]?=some l.box) (n:Int):(W.setCell ⟨B,0,none⟩ (.int .i64 n)).heap[B]?=some ({ l with c:=n }:Lv).box:=by
 simp [World.setCell,Array.getElem?_modify,h,Lv.box]
theorem Lvl.block_other {l:Lv} {W:World} {B:Nat} (h:W.heap[B]?=some l.box) {b o:Nat} (v:Value) (hb:b ≠ B):(W.setCell ⟨b,o,none⟩ v).heap[B]?=some l.box:=by
 simp [World.setCell,Array.getElem?_modify,h,hb]
theorem Lvl.cells_other {W:World} {B:Nat} {x:Obj} (h:W.heap[B]?=some x) {b o:Nat} (v:Value) (hb:b ≠ B):(W.setCell ⟨b,o,none⟩ v).heap[B]?=some x:=by
 simp [World.setCell,Array.getElem?_modify,h,hb]
theorem Lvl.one_cell {W:World} {B t:Nat} {v:Value} (h:W.heap[B]?=some (.cells #[v] t)):W.cell? ⟨B,0,none⟩=some v:=by
 simp [World.cell?,h]
theorem Lvl.block_put {l:Lv} {W:World} {B D:Nat} {o:Obj} (h:W.heap[B]?=some l.box) (hD:W.heap[D]?=some o) (ho:o.isCells=false) (o':Obj):(W.putObj D o').heap[B]?=some l.box :=
 block_kept h (grownBy_putObj' W D o') (fun r e=>by cases e; exact ⟨_,hD,ho⟩)
theorem Lvl.set_all {l:Lv} {W:World} {B:Nat} (h:W.heap[B]?=some l.box) (c p0 p1 p2 p3:Int) :
 (((((W.setCell ⟨B,0,none⟩ (.int .i64 c)).setCell ⟨B,1,none⟩ (.int .i64 p0)).setCell ⟨B,2,none⟩ (.int .i64 p1)).setCell ⟨B,3,none⟩ (.int .i64 p2)).setCell ⟨B,4,none⟩ (.int .i64 p3)).heap[B]?=some (⟨c,p0,p1,p2,p3⟩:Lv).box:=by
 simp [World.setCell,Array.getElem?_modify,h,Lv.box]
theorem Lvl.below_all {w W:World} (h:Below w.heap.size w W) {B:Nat} (hB:w.heap.size≤B) (c p0 p1 p2 p3:Value) :
 Below w.heap.size w (((((W.setCell ⟨B,0,none⟩ c).setCell ⟨B,1,none⟩ p0).setCell ⟨B,2,none⟩ p1).setCell ⟨B,3,none⟩ p2).setCell ⟨B,4,none⟩ p3) :=
 ((((h.setCell (p:=⟨B,0,none⟩) hB _).setCell (p:=⟨B,1,none⟩) hB _).setCell (p:=⟨B,2,none⟩) hB _).setCell (p:=⟨B,3,none⟩) hB _).setCell (p:=⟨B,4,none⟩) hB _
theorem Lvl.keeps_all (W:World) (B:Nat) (c p0 p1 p2 p3:Value) :
 KeepsOthers W (((((W.setCell ⟨B,0,none⟩ c).setCell ⟨B,1,none⟩ p0).setCell ⟨B,2,none⟩ p1).setCell ⟨B,3,none⟩ p2).setCell ⟨B,4,none⟩ p3) :=
 ((((KeepsOthers.setCell _ _ _).trans (KeepsOthers.setCell _ _ _)).trans (KeepsOthers.setCell _ _ _)).trans (KeepsOthers.setCell _ _ _)).trans (KeepsOthers.setCell _ _ _)
theorem Lvl.leave {l:Lv} {W:World} {B D:Nat} (h:W.heap[B]?=some l.box) (hK:W.heap[D]?=some (.deferred (some []))) :
 (W.putObj D (.deferred none)).cell? ⟨B,0,none⟩=some (.int .i64 l.c)∧(W.putObj D (.deferred none)).cell? ⟨B,1,none⟩=some (.int .i64 l.p0)∧(W.putObj D (.deferred none)).cell? ⟨B,2,none⟩=some (.int .i64 l.p1)∧(W.putObj D (.deferred none)).cell? ⟨B,3,none⟩=some (.int .i64 l.p2)∧(W.putObj D (.deferred none)).cell? ⟨B,4,none⟩=some (.int .i64 l.p3) :=
 Lv.cells (block_put h hK rfl _)
theorem Lvl.new3 (w:World) (o1 o2 o3:Obj):(((w.alloc o1).alloc o2).alloc o3).heap[w.heap.size + 1 + 1]?=some o3:=by
 have h:=World.alloc_heap_new ((w.alloc o1).alloc o2) o3
 rwa [World.size_alloc,World.size_alloc] at h
theorem Lvl.new2 (w:World) (o1 o2:Obj):((w.alloc o1).alloc o2).heap[w.heap.size + 1]?=some o2:=by
 have h:=World.alloc_heap_new (w.alloc o1) o2
 rwa [World.size_alloc] at h
theorem Lvl.new2of3 (w:World) (o1 o2 o3:Obj):(((w.alloc o1).alloc o2).alloc o3).heap[w.heap.size + 1]?=some o2:=by
 rw [Below.heap_alloc _ _ _ (by simp)]; exact new2 w o1 o2
theorem Lvl.new1of3 (w:World) (o1 o2 o3:Obj):(((w.alloc o1).alloc o2).alloc o3).heap[w.heap.size]?=some o1:=by
 rw [Below.heap_alloc _ _ _ (by simp; omega),Below.heap_alloc _ _ _ (by simp)]; exact World.alloc_heap_new w o1
theorem inForm_any (l:Lv) (w:World) :
 Calls Tryz.prog 170 #[l.val] w fun e w'=>e=.returned l.form.val∧Below w.heap.size w w':=by
 obtain ⟨G,hG⟩:∃ G,G=l.form:=⟨_,rfl⟩
 rw [← hG]
 have HG:=hid hG
 clear hG
 refine (callsIn_wide (n:=3)).1 ?_
 refine callsIn_of_wp_marks Tryz.func170 rfl trivial ?_ rfl
 unfold Lv.val
 simp only [Tryz.ntmps170,List.size_toArray,List.length_cons,List.length_nil,Nat.reduceAdd,Nat.reduceSub,Array.replicate_succ,Array.replicate_zero,List.push_toArray,List.append_toArray,List.nil_append,List.cons_append]
 gi_wp2_with (refine ⟨trivial,?_⟩; gi_at_call 133; refine (callsIn_wide.2 (params_any _ _)).mono ?_; rintro e w' ⟨rfl,rfl⟩)
 have hB0:Below w.heap.size w (((w.alloc l.box).alloc zero.box).alloc l.box):=(((Below.refl _ w).alloc (Nat.le_refl _) _).alloc (by simp) _).alloc (by simp; omega) _
 refine wpIn_rangeFunc_ownF rfl (by omega) (gf:=171) (lb:=#[.pointer (some ⟨w.heap.size + 1 + 1,0,none⟩)]) rfl trivial (enters_of Tryz.func171 (by kernel_rfl) rfl)
  (params_stops Fence.wide 2 trivial rfl (by omega) (w.heap.size + 1 + 1) l _ (new3 w _ _ _)) (fun _ _=>trivial) (fun _ _ _ _ _ _ _ _=>trivial) (Below.refl _ _) (fun _=>rfl)
  (fun pre W=>(W.heap[w.heap.size]?=some ({ l with c:=formC l.c (pre.map (·.1)) }:Lv).box∧W.heap[w.heap.size + 1]?=some zero.box)∧Below w.heap.size w W)
  (fun _ _ _=>False)
  (OwnFrom.and (Own.from (fun s A B row hs hg hr=>⟨block_kept hs.1 hg hr,block_kept hs.2 hg hr⟩) _) (ownFrom_below (Nat.le_refl _) (by simp; omega)))
  (fun _ _ _ _ _ hs _ _=>hs)
  ⟨⟨?h1,?h2⟩,hB0⟩
  (fun x=>{ tmps:=#[l.val,.pointer (some ⟨w.heap.size,0,none⟩),.pointer (some ⟨w.heap.size + 1,0,none⟩),undef,.int .i64 x.1.2,l.val,.func (.func 171) #[] #[.pointer (some ⟨w.heap.size + 1 + 1,0,none⟩)],.int .i64 x.1.1,.int .i64 x.1.2,undef,undef,undef,undef,undef,undef],defers:=[] }) ?assign ?body ?done ?stop
 case h1=>exact new1of3 w _ _ _
 case h2=>exact new2of3 w _ _ _
 case assign =>
  intro lo x W K hK
  unfold Lv.val at hK
  gi_wp2
  exact hK
 case body =>
  rintro lo pre x W ⟨⟨h0,h1⟩,hB⟩ _
  obtain ⟨c0,_⟩:=Lv.cells h0
  have f0:=Lv.free h0 0
  have H0:=hid h0
  have H1:=hid h1
  clear h0 h1
  gi_wp2
  ·have hx:formC l.c (pre.map (·.1))≤x.1.2:=by assumption
   exact ⟨KeepsOthers.setCell _ _ _,trivial,⟨by rw [List.map_append,List.map_singleton,formC_snoc,if_pos hx]; exact set_c H0.out 0,block_other H1.out _ (by omega)⟩,hB.setCell (p:=⟨w.heap.size,0,none⟩) (Nat.le_refl _) _⟩
  ·have hx:x.1.2 < formC l.c (pre.map (·.1)):=by assumption
   exact ⟨KeepsOthers.refl _,trivial,⟨by rw [List.map_append,List.map_singleton,formC_snoc,if_neg (by omega)]; exact H0.out,H1.out⟩,hB⟩
 case done =>
  rintro D ys W hD hys ⟨⟨h0,h1⟩,hB⟩ hK
  obtain ⟨c0,c1,c2,c3,c4⟩:=Lv.cells h0
  obtain ⟨d0,d1,d2,d3,d4⟩:=Lv.cells h1
  have f0:=Lv.free h1 0
  have f1:=Lv.free h1 1
  have f2:=Lv.free h1 2
  have f3:=Lv.free h1 3
  have f4:=Lv.free h1 4
  have H0:=hid h0
  have H1:=hid h1
  have HK:=hid hK
  have HY:=hid hys
  clear h0 h1 hK hys
  gi_wp2
  have h5:=set_all H1.out (formC l.c (ys.map (·.1))) l.p0 l.p1 l.p2 l.p3
  have k5:=keeps_all W (w.heap.size + 1) (.int .i64 (formC l.c (ys.map (·.1)))) (.int .i64 l.p0) (.int .i64 l.p1) (.int .i64 l.p2) (.int .i64 l.p3)
  have b5:=below_all hB (B:=w.heap.size + 1) (by omega) (.int .i64 (formC l.c (ys.map (·.1)))) (.int .i64 l.p0) (.int .i64 l.p1) (.int .i64 l.p2) (.int .i64 l.p3)
  generalize hW5:(((((W.setCell ⟨w.heap.size + 1,0,none⟩ (.int .i64 (formC l.c (ys.map (·.1))))).setCell ⟨w.heap.size + 1,1,none⟩ (.int .i64 l.p0)).setCell ⟨w.heap.size + 1,2,none⟩ (.int .i64 l.p1)).setCell ⟨w.heap.size + 1,3,none⟩ (.int .i64 l.p2)).setCell ⟨w.heap.size + 1,4,none⟩ (.int .i64 l.p3))=W5 at h5 k5 b5 ⊢
  have K5:=k5.same D _ HK.out rfl
  obtain ⟨e0,e1,e2,e3,e4⟩:=leave h5 K5
  refine ⟨by simp,.inl ⟨_,_,rfl,run_takeDeferred K5,?_⟩⟩
  refine ⟨.agg #[.int .i64 (formC l.c (ys.map (·.1))),.int .i64 l.p0,.int .i64 l.p1,.int .i64 l.p2,.int .i64 l.p3],by simp [results,Tryz.results170,go_sem,e0,e1,e2,e3,e4],?_,?_⟩
  ·rw [HG.out,Lv.form,HY.out]
  ·exact b5.trans (belowK_b (w:=w) (Nat.le_refl _) _ D _ _ (by simp at hD; omega) K5 rfl rfl)
 case stop =>
  rintro D c pre W _ _ h _
  exact h.elim
def Lvl.Lv.put (o:Lv) (i n:Int):Lv:=if i=0 then { o with p0:=n } else if i=1 then { o with p1:=n } else if i=2 then { o with p2:=n } else { o with p3:=n }
theorem Lvl.mem_one {i n:Int} {x:Int × Int} (h:x ∈ one i n):x=(i,n)∧n ≠ -1:=by
 unfold one at h
 split at h
 ·simp at h
 ·simp at h; exact ⟨h,by assumption⟩
theorem Lvl.mem_ps {l:Lv} {x:Int × Int} (h:x ∈ l.ps):(x=(0,l.p0)∧l.p0 ≠ -1)∨(x=(1,l.p1)∧l.p1 ≠ -1)∨(x=(2,l.p2)∧l.p2 ≠ -1)∨(x=(3,l.p3)∧l.p3 ≠ -1):=by
 unfold Lv.ps at h
 simp only [List.mem_append] at h
 rcases h with ((h | h) | h) | h
 ·exact .inl (mem_one h)
 ·exact .inr (.inl (mem_one h))
 ·exact .inr (.inr (.inl (mem_one h)))
 ·exact .inr (.inr (.inr (mem_one h)))
def Lvl.up (p n:Int):Int:=if p=-1 then -1 else p + n
def Lvl.Lv.plus (l:Lv) (n:Int):Lv:=⟨l.c + n,up l.p0 n,up l.p1 n,up l.p2 n,up l.p3 n⟩
def Lvl.plusAll (n:Int) (o:Lv) (pre:List (Int × Int)):Lv:=pre.foldl (fun o x=>o.put x.1 (x.2 + n)) o
theorem Lvl.plusAll_snoc (n:Int) (o:Lv) (pre:List (Int × Int)) (x:Int × Int):plusAll n o (pre ++ [x])=(plusAll n o pre).put x.1 (x.2 + n):=by
 unfold plusAll; rw [List.foldl_append]; rfl
theorem Lvl.plusAll_all (l:Lv) (n:Int):plusAll n (number (l.c + n)) l.ps=l.plus n:=by
 unfold plusAll Lv.ps one Lv.plus up number
 by_cases h0:l.p0=-1 <;> by_cases h1:l.p1=-1 <;> by_cases h2:l.p2=-1 <;> by_cases h3:l.p3=-1 <;> simp [h0,h1,h2,h3,Lv.put]
theorem Lvl.set_p0 {l:Lv} {W:World} {B:Nat} (h:W.heap[B]?=some l.box) (n:Int):(W.setCell ⟨B,1,none⟩ (.int .i64 n)).heap[B]?=some (l.put 0 n).box:=by
 simp [World.setCell,Array.getElem?_modify,h,Lv.box,Lv.put]
theorem Lvl.set_p1 {l:Lv} {W:World} {B:Nat} (h:W.heap[B]?=some l.box) (n:Int):(W.setCell ⟨B,2,none⟩ (.int .i64 n)).heap[B]?=some (l.put 1 n).box:=by
 simp [World.setCell,Array.getElem?_modify,h,Lv.box,Lv.put]
theorem Lvl.set_p2 {l:Lv} {W:World} {B:Nat} (h:W.heap[B]?=some l.box) (n:Int):(W.setCell ⟨B,3,none⟩ (.int .i64 n)).heap[B]?=some (l.put 2 n).box:=by
 simp [World.setCell,Array.getElem?_modify,h,Lv.box,Lv.put]
theorem Lvl.set_p3 {l:Lv} {W:World} {B:Nat} (h:W.heap[B]?=some l.box) (n:Int):(W.setCell ⟨B,4,none⟩ (.int .i64 n)).heap[B]?=some (l.put 3 n).box:=by
 simp [World.setCell,Array.getElem?_modify,h,Lv.box,Lv.put]
theorem Lvl.bcell {W w1:World} (hb:Below W.heap.size W w1):(∀ b o,b < W.heap.size→w1.cell? ⟨b,o,none⟩=W.cell? ⟨b,o,none⟩)∧(∀ b o,b < W.heap.size→w1.frozen? ⟨b,o,none⟩=W.frozen? ⟨b,o,none⟩) :=
 ⟨fun b o h=>hb.cell (p:=⟨b,o,none⟩) h,fun b o h=>hb.frozen (p:=⟨b,o,none⟩) h⟩
theorem plus_any (l:Lv) (n:Int) (w:World) (hl:l.within=true) (hn:0≤n∧n≤1099511627776) :
 Calls Tryz.prog 135 #[l.val,.int .i64 n] w fun e w'=>e=.returned (l.plus n).val∧Below w.heap.size w w':=by
 obtain ⟨G,hG⟩:∃ G,G=l.plus n:=⟨_,rfl⟩
 rw [← hG]
 have HG:=hid hG
 clear hG
 simp only [Lv.within,decide_eq_true_eq] at hl
 obtain ⟨⟩:=hl
 refine (callsIn_wide (n:=3)).1 ?_
 refine callsIn_of_wp_marks Tryz.func135 rfl trivial ?_ rfl
 unfold Lv.val
 simp only [Tryz.ntmps135,List.size_toArray,List.length_cons,List.length_nil,Nat.reduceAdd,Nat.reduceSub,Array.replicate_succ,Array.replicate_zero,List.push_toArray,List.append_toArray,List.nil_append,List.cons_append]
 gi_wp2_with fail
 refine ⟨trivial,?_⟩; refine (callsIn_wide.2 (number_any _ _)).mono ?_; rintro e w1 ⟨rfl,b1⟩; obtain ⟨hc1,hf1⟩:=bcell b1
 have hz:=b1.size
 simp at hz
 have hz0:w.heap.size < w1.heap.size:=by omega
 have hz1:w.heap.size + 1 < w1.heap.size:=by omega
 have hz2:w.heap.size + 1 + 1 < w1.heap.size:=by omega
 clear hz; dsimp only [number,Lv.val]
 gi_wp2_with (refine ⟨trivial,?_⟩; gi_at_call 133; refine (callsIn_wide.2 (params_any _ _)).mono ?_; rintro e w' ⟨rfl,rfl⟩)
 have hold:∀ k (hk:k < w.heap.size + 1 + 1 + 1) (o:Obj),(((w.alloc l.box).alloc (.cells #[.int .i64 n] 3)).alloc zero.box).heap[k]?=some o→((w1.alloc (number (l.c + n)).box).alloc l.box).heap[k]?=some o:=fun k hk o h=>by
  rw [Below.heap_alloc _ _ _ (by simp; omega),Below.heap_alloc _ _ _ (by omega)]
  have e:=b1.block k (by simp; omega)
  rw [e]; exact h
 have hn1:=hold (w.heap.size + 1) (by omega) _ (new2of3 w _ _ _)
 have hB0:Below w.heap.size w ((w1.alloc (number (l.c + n)).box).alloc l.box) :=
  (((((Below.refl _ w).alloc (Nat.le_refl _) _).alloc (by simp) _).alloc (by simp; omega) _).trans (b1.mono (by simp; omega))).alloc (by omega) _ |>.alloc (by simp; omega) _
 refine wpIn_rangeFunc_ownF rfl (by omega) (gf:=171) (lb:=#[.pointer (some ⟨w1.heap.size + 1,0,none⟩)]) rfl trivial (enters_of Tryz.func171 (by kernel_rfl) rfl)
  (params_stops Fence.wide 2 trivial rfl (by omega) (w1.heap.size + 1) l _ (new2 w1 _ _)) (fun _ _=>trivial) (fun _ _ _ _ _ _ _ _=>trivial) (Below.refl _ _) (fun _=>rfl)
  (fun pre W=>(W.heap[w1.heap.size]?=some (plusAll n (number (l.c + n)) (pre.map (·.1))).box∧W.heap[w.heap.size + 1 + 1]?=some zero.box∧W.heap[w.heap.size + 1]?=some (.cells #[.int .i64 n] 3))∧Below w.heap.size w W)
  (fun _ _ _=>False)
  (OwnFrom.and (Own.from (fun s A B row hs hg hr=>⟨block_kept hs.1 hg hr,block_kept hs.2.1 hg hr,(grownBy_keeps_cells hg hr hs.2.2 rfl).trans hs.2.2⟩) _) (ownFrom_below (Nat.le_refl _) (by simp; omega)))
  (fun _ _ _ _ _ hs _ _=>hs)
  ⟨⟨?h1,?h2,hn1⟩,hB0⟩
  (fun x=>{ tmps:=#[.agg #[.int .i64 l.c,.int .i64 l.p0,.int .i64 l.p1,.int .i64 l.p2,.int .i64 l.p3],.int .i64 n,.pointer (some ⟨w.heap.size,0,none⟩),.pointer (some ⟨w.heap.size + 1,0,none⟩),.pointer (some ⟨w.heap.size + 1 + 1,0,none⟩),.pointer (some ⟨w1.heap.size,0,none⟩),.int .i64 x.1.1,.int .i64 x.1.2,.pointer (some ⟨w.heap.size,0,none⟩),.int .i64 l.c,.int .i64 n,.int .i64 (l.c + n),.agg #[.int .i64 (l.c + n),.int .i64 (-1),.int .i64 (-1),.int .i64 (-1),.int .i64 (-1)],.agg #[.int .i64 l.c,.int .i64 l.p0,.int .i64 l.p1,.int .i64 l.p2,.int .i64 l.p3],.func (.func 171) #[] #[.pointer (some ⟨w1.heap.size + 1,0,none⟩)],.int .i64 x.1.1,.int .i64 x.1.2,undef,undef,undef,undef,undef,undef,undef],defers:=[] }) ?assign ?body ?done ?stop
 case h1 =>
  rw [Below.heap_alloc _ _ _ (by simp)]; exact World.alloc_heap_new w1 _
 case h2=>exact hold _ (by omega) _ (new3 w _ _ _)
 case assign =>
  intro lo x W K hK
  gi_wp2
  exact hK
 case body =>
  clear hc1 hf1 hold hn1
  rintro lo pre ⟨x,hx⟩ W ⟨⟨h0,h1,h2⟩,hB⟩ _
  obtain ⟨c0,c1,c2,c3,c4⟩:=Lv.cells h0
  have f1:=Lv.free h0 1
  have f2:=Lv.free h0 2
  have f3:=Lv.free h0 3
  have f4:=Lv.free h0 4
  have H0:=hid h0
  have H1:=hid h1
  clear h0 h1
  have c5:=one_cell h2
  have H2:=hid h2
  clear h2
  dsimp only
  rcases mem_ps hx with ⟨rfl,hp⟩ | ⟨rfl,hp⟩ | ⟨rfl,hp⟩ | ⟨rfl,hp⟩
  ·have HP:=hid hp
   clear hp
   gi_wp2
   exact ⟨KeepsOthers.setCell _ _ _,trivial,⟨by rw [List.map_append,List.map_singleton,plusAll_snoc]; exact set_p0 H0.out _,block_other H1.out _ (by omega),cells_other H2.out _ (by omega)⟩,hB.setCell (p:=⟨w1.heap.size,1,none⟩) (show w.heap.size≤w1.heap.size by omega) _⟩
  ·have HP:=hid hp
   clear hp
   gi_wp2
   exact ⟨KeepsOthers.setCell _ _ _,trivial,⟨by rw [List.map_append,List.map_singleton,plusAll_snoc]; exact set_p1 H0.out _,block_other H1.out _ (by omega),cells_other H2.out _ (by omega)⟩,hB.setCell (p:=⟨w1.heap.size,2,none⟩) (show w.heap.size≤w1.heap.size by omega) _⟩
  ·have HP:=hid hp
   clear hp
   gi_wp2
   exact ⟨KeepsOthers.setCell _ _ _,trivial,⟨by rw [List.map_append,List.map_singleton,plusAll_snoc]; exact set_p2 H0.out _,block_other H1.out _ (by omega),cells_other H2.out _ (by omega)⟩,hB.setCell (p:=⟨w1.heap.size,3,none⟩) (show w.heap.size≤w1.heap.size by omega) _⟩
  ·have HP:=hid hp
   clear hp
   gi_wp2
   exact ⟨KeepsOthers.setCell _ _ _,trivial,⟨by rw [List.map_append,List.map_singleton,plusAll_snoc]; exact set_p3 H0.out _,block_other H1.out _ (by omega),cells_other H2.out _ (by omega)⟩,hB.setCell (p:=⟨w1.heap.size,4,none⟩) (show w.heap.size≤w1.heap.size by omega) _⟩
 case done =>
  clear hc1 hf1 hold hn1
  rintro D ys W hD hys ⟨⟨h0,h1,h2⟩,hB⟩ hK
  obtain ⟨o,ho⟩:∃ o,o=plusAll n (number (l.c + n)) (ys.map (·.1)):=⟨_,rfl⟩
  rw [← ho] at h0
  obtain ⟨c0,c1,c2,c3,c4⟩:=Lv.cells h0
  obtain ⟨d0,d1,d2,d3,d4⟩:=Lv.cells h1
  have f0:=Lv.free h1 0
  have f1:=Lv.free h1 1
  have f2:=Lv.free h1 2
  have f3:=Lv.free h1 3
  have f4:=Lv.free h1 4
  have H0:=hid h0
  have H1:=hid h1
  have HK:=hid hK
  have HY:=hid hys
  have HO:=hid ho
  clear h0 h1 hK hys h2 ho
  gi_wp2
  have h5:=set_all H1.out o.c o.p0 o.p1 o.p2 o.p3
  have k5:=keeps_all W (w.heap.size + 1 + 1) (.int .i64 o.c) (.int .i64 o.p0) (.int .i64 o.p1) (.int .i64 o.p2) (.int .i64 o.p3)
  have b5:=below_all hB (B:=w.heap.size + 1 + 1) (by omega) (.int .i64 o.c) (.int .i64 o.p0) (.int .i64 o.p1) (.int .i64 o.p2) (.int .i64 o.p3)
  generalize hW5:(((((W.setCell ⟨w.heap.size + 1 + 1,0,none⟩ (.int .i64 o.c)).setCell ⟨w.heap.size + 1 + 1,1,none⟩ (.int .i64 o.p0)).setCell ⟨w.heap.size + 1 + 1,2,none⟩ (.int .i64 o.p1)).setCell ⟨w.heap.size + 1 + 1,3,none⟩ (.int .i64 o.p2)).setCell ⟨w.heap.size + 1 + 1,4,none⟩ (.int .i64 o.p3))=W5 at h5 k5 b5 ⊢
  have K5:=k5.same D _ HK.out rfl
  obtain ⟨e0,e1,e2,e3,e4⟩:=leave h5 K5
  refine ⟨by simp,.inl ⟨_,_,rfl,run_takeDeferred K5,?_⟩⟩
  refine ⟨.agg #[.int .i64 o.c,.int .i64 o.p0,.int .i64 o.p1,.int .i64 o.p2,.int .i64 o.p3],by simp [results,Tryz.results135,go_sem,e0,e1,e2,e3,e4],?_,?_⟩
  ·have e:o=G:=by rw [HO.out,HY.out,plusAll_all,HG.out]
   rw [e]
  ·exact b5.trans (belowK_b (w:=w) (Nat.le_refl _) _ D _ _ (by simp at hD; omega) K5 rfl rfl)
 case stop =>
  rintro D c pre W _ _ h _
  exact h.elim
end Go.Proofs.YtmngddomnaaedaaGreat
namespace Go.Proofs.YtmngddomnaaedaaGreat
open Go.RowKit Go.Shelf Lvl
attribute [local go_sem] Oper.semAt_some
def Lvl.Lv.lift (o:Lv) (i n:Int):Lv:=if i=0 then { o with p0:=max o.p0 n } else if i=1 then { o with p1:=max o.p1 n } else if i=2 then { o with p2:=max o.p2 n } else { o with p3:=max o.p3 n }
def Lvl.joinAll (o:Lv) (pre:List (Int × Int)):Lv:=pre.foldl (fun o x=>o.lift x.1 x.2) o
theorem Lvl.joinAll_snoc (o:Lv) (pre:List (Int × Int)) (x:Int × Int):joinAll o (pre ++ [x])=(joinAll o pre).lift x.1 x.2:=by
 unfold joinAll; rw [List.foldl_append]; rfl
def Lvl.Lv.join (a b:Lv):Lv:=⟨max a.c b.c,max a.p0 b.p0,max a.p1 b.p1,max a.p2 b.p2,max a.p3 b.p3⟩
theorem Lvl.joinAll_all (a b:Lv) (h0:-1≤a.p0) (h1:-1≤a.p1) (h2:-1≤a.p2) (h3:-1≤a.p3):joinAll { a with c:=max a.c b.c } b.ps=a.join b:=by
 unfold joinAll Lv.ps one Lv.join
 by_cases e0:b.p0=-1 <;> by_cases e1:b.p1=-1 <;> by_cases e2:b.p2=-1 <;> by_cases e3:b.p3=-1 <;> simp [e0,e1,e2,e3,Lv.lift,Int.max_eq_left h0,Int.max_eq_left h1,Int.max_eq_left h2,Int.max_eq_left h3]
theorem Lvl.new4 (w:World) (o1 o2 o3 o4:Obj):((((w.alloc o1).alloc o2).alloc o3).alloc o4).heap[w.heap.size + 1 + 1 + 1]?=some o4:=by
 have h:=World.alloc_heap_new (((w.alloc o1).alloc o2).alloc o3) o4
 rwa [World.size_alloc,World.size_alloc,World.size_alloc] at h
theorem Lvl.run_max (x y:Int) (ats:Array TypeId) (ty:TypeId) (w:World):(Builtin.max_ ats ty #[.int .i64 x,.int .i64 y]).run Tryz.prog w=.ok (.int .i64 (max x y)) w:=by
 by_cases h:x < y
 ·have e:max x y=y:=by omega
  rw [e]
  simp [Builtin.max_,Builtin.max2,go_sem,h]
 ·have e:max x y=x:=by omega
  rw [e]
  simp [Builtin.max_,Builtin.max2,go_sem,h]
theorem join_any (a b:Lv) (w:World) (h0':-1≤a.p0) (h1':-1≤a.p1) (h2':-1≤a.p2) (h3':-1≤a.p3) :
 Calls Tryz.prog 134 #[a.val,b.val] w fun e w'=>e=.returned (a.join b).val∧Below w.heap.size w w':=by
 obtain ⟨G,hG⟩:∃ G,G=a.join b:=⟨_,rfl⟩
 rw [← hG]
 have HG:=hid hG
 clear hG
 refine (callsIn_wide (n:=3)).1 ?_
 refine callsIn_of_wp_marks Tryz.func134 rfl trivial ?_ rfl
 unfold Lv.val
 have hmax:=run_max
 simp only [Tryz.ntmps134,List.size_toArray,List.length_cons,List.length_nil,Nat.reduceAdd,Nat.reduceSub,Array.replicate_succ,Array.replicate_zero,List.push_toArray,List.append_toArray,List.nil_append,List.cons_append]
 gi_wp2_with (refine ⟨trivial,?_⟩; gi_at_call 133; refine (callsIn_wide.2 (params_any _ _)).mono ?_; rintro e w' ⟨rfl,rfl⟩)
 have hB0:Below w.heap.size w ((((w.alloc ({ a with c:=max a.c b.c }:Lv).box).alloc b.box).alloc zero.box).alloc b.box) :=
  ((((Below.refl _ w).alloc (Nat.le_refl _) _).alloc (by simp) _).alloc (by simp; omega) _).alloc (by simp; omega) _
 refine wpIn_rangeFunc_ownF rfl (by omega) (gf:=171) (lb:=#[.pointer (some ⟨w.heap.size + 1 + 1 + 1,0,none⟩)]) rfl trivial (enters_of Tryz.func171 (by kernel_rfl) rfl)
  (params_stops Fence.wide 2 trivial rfl (by omega) (w.heap.size + 1 + 1 + 1) b _ (new4 w _ _ _ _)) (fun _ _=>trivial) (fun _ _ _ _ _ _ _ _=>trivial) (Below.refl _ _) (fun _=>rfl)
  (fun pre W=>(W.heap[w.heap.size]?=some (joinAll { a with c:=max a.c b.c } (pre.map (·.1))).box∧W.heap[w.heap.size + 1 + 1]?=some zero.box)∧Below w.heap.size w W)
  (fun _ _ _=>False)
  (OwnFrom.and (Own.from (fun s A B row hs hg hr=>⟨block_kept hs.1 hg hr,block_kept hs.2 hg hr⟩) _) (ownFrom_below (Nat.le_refl _) (by simp; omega)))
  (fun _ _ _ _ _ hs _ _=>hs)
  ⟨⟨?h1,?h2⟩,hB0⟩
  (fun x=>{ tmps:=#[.agg #[.int .i64 a.c,.int .i64 a.p0,.int .i64 a.p1,.int .i64 a.p2,.int .i64 a.p3],.agg #[.int .i64 b.c,.int .i64 b.p0,.int .i64 b.p1,.int .i64 b.p2,.int .i64 b.p3],.pointer (some ⟨w.heap.size,0,none⟩),.pointer (some ⟨w.heap.size + 1,0,none⟩),.pointer (some ⟨w.heap.size + 1 + 1,0,none⟩),.int .i64 x.1.1,.int .i64 x.1.2,.pointer (some ⟨w.heap.size,0,none⟩),.int .i64 a.c,.pointer (some ⟨w.heap.size + 1,0,none⟩),.int .i64 b.c,.int .i64 (max a.c b.c),.pointer (some ⟨w.heap.size,0,none⟩),.agg #[.int .i64 b.c,.int .i64 b.p0,.int .i64 b.p1,.int .i64 b.p2,.int .i64 b.p3],.func (.func 171) #[] #[.pointer (some ⟨w.heap.size + 1 + 1 + 1,0,none⟩)],.int .i64 x.1.1,.int .i64 x.1.2,undef,undef,undef,undef,undef,undef,undef,undef,undef,undef],defers:=[] }) ?assign ?body ?done ?stop
 case h1 =>
  rw [Below.heap_alloc _ _ _ (by simp; omega)]; exact new1of3 w _ _ _
 case h2 =>
  rw [Below.heap_alloc _ _ _ (by simp)]; exact new3 w _ _ _
 case assign =>
  intro lo x W K hK
  gi_wp2
  exact hK
 case body =>
  rintro lo pre ⟨x,hx⟩ W ⟨⟨h0,h1⟩,hB⟩ _
  obtain ⟨o,ho⟩:∃ o,o=joinAll { a with c:=max a.c b.c } (pre.map (·.1)):=⟨_,rfl⟩
  rw [← ho] at h0
  obtain ⟨c0,c1,c2,c3,c4⟩:=Lv.cells h0
  have f1:=Lv.free h0 1
  have f2:=Lv.free h0 2
  have f3:=Lv.free h0 3
  have f4:=Lv.free h0 4
  have H0:=hid h0
  have H1:=hid h1
  have HO:=hid ho
  clear h0 h1 ho
  dsimp only
  rcases mem_ps hx with ⟨rfl,hp⟩ | ⟨rfl,hp⟩ | ⟨rfl,hp⟩ | ⟨rfl,hp⟩
  ·have HP:=hid hp
   clear hp
   gi_wp2
   exact ⟨KeepsOthers.setCell _ _ _,trivial,⟨by rw [List.map_append,List.map_singleton,joinAll_snoc,← HO.out]; exact set_p0 H0.out _,block_other H1.out _ (by omega)⟩,hB.setCell (p:=⟨w.heap.size,1,none⟩) (Nat.le_refl _) _⟩
  ·have HP:=hid hp
   clear hp
   gi_wp2
   exact ⟨KeepsOthers.setCell _ _ _,trivial,⟨by rw [List.map_append,List.map_singleton,joinAll_snoc,← HO.out]; exact set_p1 H0.out _,block_other H1.out _ (by omega)⟩,hB.setCell (p:=⟨w.heap.size,2,none⟩) (Nat.le_refl _) _⟩
  ·have HP:=hid hp
   clear hp
   gi_wp2
   exact ⟨KeepsOthers.setCell _ _ _,trivial,⟨by rw [List.map_append,List.map_singleton,joinAll_snoc,← HO.out]; exact set_p2 H0.out _,block_other H1.out _ (by omega)⟩,hB.setCell (p:=⟨w.heap.size,3,none⟩) (Nat.le_refl _) _⟩
  ·have HP:=hid hp
   clear hp
   gi_wp2
   exact ⟨KeepsOthers.setCell _ _ _,trivial,⟨by rw [List.map_append,List.map_singleton,joinAll_snoc,← HO.out]; exact set_p3 H0.out _,block_other H1.out _ (by omega)⟩,hB.setCell (p:=⟨w.heap.size,4,none⟩) (Nat.le_refl _) _⟩
 case done =>
  rintro D ys W hD hys ⟨⟨h0,h1⟩,hB⟩ hK
  obtain ⟨o,ho⟩:∃ o,o=joinAll { a with c:=max a.c b.c } (ys.map (·.1)):=⟨_,rfl⟩
  rw [← ho] at h0
  obtain ⟨c0,c1,c2,c3,c4⟩:=Lv.cells h0
  obtain ⟨d0,d1,d2,d3,d4⟩:=Lv.cells h1
  have f0:=Lv.free h1 0
  have f1:=Lv.free h1 1
  have f2:=Lv.free h1 2
  have f3:=Lv.free h1 3
  have f4:=Lv.free h1 4
  have H0:=hid h0
  have H1:=hid h1
  have HK:=hid hK
  have HY:=hid hys
  have HO:=hid ho
  clear h0 h1 hK hys ho
  gi_wp2
  have h5:=set_all H1.out o.c o.p0 o.p1 o.p2 o.p3
  have k5:=keeps_all W (w.heap.size + 1 + 1) (.int .i64 o.c) (.int .i64 o.p0) (.int .i64 o.p1) (.int .i64 o.p2) (.int .i64 o.p3)
  have b5:=below_all hB (B:=w.heap.size + 1 + 1) (by omega) (.int .i64 o.c) (.int .i64 o.p0) (.int .i64 o.p1) (.int .i64 o.p2) (.int .i64 o.p3)
  generalize hW5:(((((W.setCell ⟨w.heap.size + 1 + 1,0,none⟩ (.int .i64 o.c)).setCell ⟨w.heap.size + 1 + 1,1,none⟩ (.int .i64 o.p0)).setCell ⟨w.heap.size + 1 + 1,2,none⟩ (.int .i64 o.p1)).setCell ⟨w.heap.size + 1 + 1,3,none⟩ (.int .i64 o.p2)).setCell ⟨w.heap.size + 1 + 1,4,none⟩ (.int .i64 o.p3))=W5 at h5 k5 b5 ⊢
  have K5:=k5.same D _ HK.out rfl
  obtain ⟨e0,e1,e2,e3,e4⟩:=leave h5 K5
  refine ⟨by simp,.inl ⟨_,_,rfl,run_takeDeferred K5,?_⟩⟩
  refine ⟨.agg #[.int .i64 o.c,.int .i64 o.p0,.int .i64 o.p1,.int .i64 o.p2,.int .i64 o.p3],by simp [results,Tryz.results134,go_sem,e0,e1,e2,e3,e4],?_,?_⟩
  ·have e:o=G:=by rw [HO.out,HY.out,joinAll_all a b h0' h1' h2' h3',HG.out]
   rw [e]
  ·exact b5.trans (belowK_b (w:=w) (Nat.le_refl _) _ D _ _ (by simp at hD; omega) K5 rfl rfl)
 case stop =>
  rintro D c pre W _ _ h _
  exact h.elim
end Go.Proofs.YtmngddomnaaedaaGreat
