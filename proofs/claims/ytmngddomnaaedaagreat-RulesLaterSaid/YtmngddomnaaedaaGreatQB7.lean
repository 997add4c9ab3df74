/-
 term.walk,Size,May.
-/
import Derived.Lib.Hide
import Derived.Test.YtmngddomnaaedaaGreatQB4
import Derived.Test.YtmngddomnaaedaaGreatQB6
import Derived.Laws.EntriesVeiled
import Derived.Test.YtmngddomnaaedaaGreatQB2
import Derived.Test.YtmngddomnaaedaaGreatQB5
import Derived.OwnWalk
import Derived.Deep.AppendLies
import Derived.Deep.Cut
open Go.Lib (hid)
set_option maxRecDepth 100000
set_option maxHeartbeats 32000000
namespace Go.Proofs.YtmngddomnaaedaaGreat
open Go.RowKit Go.Shelf Lvl Trm
theorem walk_any {σ:Type} {B m C:Nat} {f:FuncId} {see:σ→Tm→Int→Int→σ × Bool} {Inv:σ→World→Prop} {Ok:Tm→Int→Prop} {Good:σ→Prop} (S:Sees B m C f see Inv Ok Good) (t:Tm)
 (st:σ) (b o:Nat) (w:World) (hgood:Good st) (hinv:Inv st w) (hok:Ok t 1) (hat:RAt B m w b o t) (hB:B≤w.heap.size) (hm:m < w.heap.size) :
   Calls Tryz.prog 150 #[.pointer (some ⟨b,o,none⟩),fnv f C] w fun e w'=>e=.returned (.bool (t.walk see st 1 0).2)∧Inv (t.walk see st 1 0).1 w'∧Ran m w w':=by
 have HV:=hid (fun (W:World) (h1:Below w.heap.size w W) (h2:W.heap[w.heap.size]?=some (.cells #[fnv f C] 190)) (h3:W.heap[w.heap.size + 1]?=some (.cells #[.func (.func 178) #[] #[.pointer (some ⟨w.heap.size,0,none⟩),.pointer (some ⟨w.heap.size + 1,0,none⟩)]] 190)) =>
  visit_any (Bs:=w.heap.size) (Bv:=w.heap.size + 1) S (by omega) (by omega) t st b o 1 0 W hgood (S.keep _ _ _ hinv h1) hok (by omega) (by omega) (hat.ran (Ran.of_below h1) S.low hB) (by have:=h1.size; omega) (by have:=h1.size; omega) h2 h3)
 generalize t.walk see st 1 0=R at HV ⊢
 clear hinv hok hat S hgood
 go_enter Tryz.func150,Tryz.ntmps150
 go_wp2_with fail
 refine (HV.out _ ?h1 ?h2 ?h3).mono ?_
 case h1=>exact below_two _ _ _
 case h2=>exact new1of2 _ _ _
 case h3=>exact new2 _ _ _
 rintro e w1 ⟨rfl,i1,g1⟩
 have HI:=hid i1
 have HR:=hid ((Ran.of_below (below_two w _ _)).trans g1)
 clear i1 g1
 go_wp2_with fail
 go_ret
 exact ⟨rfl,HI.out,HR.out⟩
def Trm.seeSize (n:Int) (t:Tm) (d _u:Int):Int × Bool:=(n + 1,decide (n + 1≤65536) && decide (d≤4096) && t.node)
theorem size1_any (t:Tm) (n d u:Int) (b o m:Nat) (w:World) (hn0:0≤n) (hn1:n≤65536) (hm:w.heap[m]?=some (.cells #[.int .i64 n] 3)) (hat:RAt m m w b o t) :
 Calls Tryz.prog 151 #[.pointer (some ⟨b,o,none⟩),.int .i64 d,.int .i64 u,.pointer (some ⟨m,0,none⟩)] w fun e w'=>e=.returned (.bool (seeSize n t d u).2)∧w'.heap[m]?=some (.cells #[.int .i64 (n + 1)] 3)∧Ran m w w':=by
 have hc:=one_cell hm
 have hfr:w.frozen? ⟨m,0,none⟩=false:=by simp [World.frozen?,hm]
 have hM:(w.setCell ⟨m,0,none⟩ (.int .i64 (n + 1))).heap[m]?=some (.cells #[.int .i64 (n + 1)] 3):=by simp [World.setCell,Array.getElem?_modify,hm]
 have hR:Ran m w (w.setCell ⟨m,0,none⟩ (.int .i64 (n + 1))):=⟨rfl,rfl,rfl,by simp [World.setCell],fun k _ hk=>Below.heap_setCell _ _ _ _ hk⟩
 have hlt:=(Array.getElem?_eq_some_iff.1 hm).1
 have HA:Hid (TAt (w.setCell ⟨m,0,none⟩ (.int .i64 (n + 1))).heap.size (w.setCell ⟨m,0,none⟩ (.int .i64 (n + 1))) b o t):=hid (by
  obtain ⟨_,hb1,hd1,hc1,hi1⟩:=hat.ran hR (Nat.le_refl m) (by omega)
  exact ⟨hb1,hd1,hc1,Tm.In.mono (by simp [World.setCell]; omega) _ _ hi1⟩)
 have HM:=hid hM
 have HR:=hid hR
 unfold seeSize
 clear hM hR hat hm
 by_cases h1:n + 1≤65536
 ·by_cases h2:d≤4096
  ·simp only [decide_eq_true h1,decide_eq_true h2,Bool.true_and]
   have HF:=hid (fits_any t b o _ HA.out)
   generalize t.node=r at HF ⊢
   clear HA
   go_enter Tryz.func151,Tryz.ntmps151
   go_wp2_with fail
   refine HF.out.mono ?_
   rintro e w1 ⟨rfl,b1⟩
   have HM1:=hid (Lvl.keep b1 HM.out)
   have HR1:=hid (HR.out.trans (Ran.of_below b1))
   clear b1
   go_wp2_with fail
   go_ret
   exact ⟨rfl,HM1.out,HR1.out⟩
  ·simp only [decide_eq_true h1,decide_eq_false h2,Bool.true_and,Bool.false_and]
   go_enter Tryz.func151,Tryz.ntmps151
   go_wp2_with fail
   go_ret
   exact ⟨rfl,HM.out,HR.out⟩
 ·simp only [decide_eq_false h1,Bool.false_and]
  go_enter Tryz.func151,Tryz.ntmps151
  go_wp2_with fail
  go_ret
  exact ⟨rfl,HM.out,HR.out⟩
theorem Trm.sees_size {B m:Nat} (h:B≤m):Sees B m m 151 seeSize (fun n w=>w.heap[m]?=some (.cells #[.int .i64 n] 3)) (fun _ d=>0≤d∧d≤4097) (fun n=>0≤n∧n≤65536) where
 calls st t b o d u w hg hi ho hu0 hud hat hB:=size1_any t st d u b o m w hg.1 hg.2 hi (by obtain ⟨h1,h2,h3,h4,h5⟩:=hat; exact ⟨h1,h2,h3,h4,Tm.In.mono h _ _ h5⟩)
 good st t d u hg ho hr:=by
  simp only [seeSize,Bool.and_eq_true,decide_eq_true_eq] at hr ⊢
  omega
 bound t d ho:=by omega
 down st t d u ho hr x hx:=by
  simp only [seeSize,Bool.and_eq_true,decide_eq_true_eq] at hr
  omega
 keep st w w' hi hb:=Lvl.keep hb hi
 low:=h
 enter args w:=by kernel_rfl
mutual
theorem Trm.size_left:∀ (t:Tm) (n d u:Int),((t.walk seeSize n d u).2=true→0≤t.left badMay (65536 - n) (4097 - d)∧(t.walk seeSize n d u).1=65536 - t.left badMay (65536 - n) (4097 - d))∧((t.walk seeSize n d u).2=false→t.left badMay (65536 - n) (4097 - d)=-1)
 | .mk k m s ls ts,n,d,u=>by
   rw [Tm.walk,Tm.left]
   by_cases h1:n + 1≤65536
   ·by_cases h2:d≤4096
    ·cases h3:(Tm.mk k m s ls ts).node
     ·have hs:(seeSize n (.mk k m s ls ts) d u).2=false:=by simp [seeSize,h3]
      rw [hs,if_neg (by simp)]
      rw [if_pos (Or.inr (Or.inr (by simp [badMay,h3])))]
      simp
     ·have hs:(seeSize n (.mk k m s ls ts) d u)=(n + 1,true):=by simp [seeSize,h1,h2,h3]
      rw [hs,if_pos rfl,if_neg (by rintro (h | h | h) <;> first | omega | (simp [badMay,h3] at h))]
      have:=Trm.sizeL_left k ts 0 (n + 1) (d + 1) u (by omega)
      rwa [show 65536 - (n + 1)=65536 - n - 1 by omega,show 4097 - (d + 1)=4097 - d - 1 by omega] at this
    ·have hs:(seeSize n (.mk k m s ls ts) d u).2=false:=by simp [seeSize,h2]
     rw [hs,if_neg (by simp),if_pos (Or.inr (Or.inl (by omega)))]
     simp
   ·have hs:(seeSize n (.mk k m s ls ts) d u).2=false:=by simp [seeSize,h1]
    rw [hs,if_neg (by simp),if_pos (Or.inl (by omega))]
    simp
theorem Trm.sizeL_left (k:Int):∀ (ts:List Tm) (i:Nat) (n d u:Int),n≤65536→((walkL seeSize k ts i n d u).2=true→0≤leftL badMay ts (65536 - n) (4097 - d)∧(walkL seeSize k ts i n d u).1=65536 - leftL badMay ts (65536 - n) (4097 - d))∧((walkL seeSize k ts i n d u).2=false→leftL badMay ts (65536 - n) (4097 - d)=-1)
 | [],i,n,d,u,hn=>by
   rw [walkL,leftL]
   refine ⟨fun _=>⟨by omega,by omega⟩,fun h=>by simp at h⟩
 | t :: r,i,n,d,u,hn=>by
   rw [walkL,leftL]
   have h:=Trm.size_left t n d (under k i u)
   generalize t.walk seeSize n d (under k i u)=W at h
   obtain ⟨n1,ok⟩:=W
   dsimp only at h ⊢
   cases ok
   ·rw [if_neg (by simp),if_pos (by have:=h.2 rfl; omega)]
    simp
   ·have h1:=h.1 rfl
    rw [if_pos rfl,if_neg (by omega)]
    have:=Trm.sizeL_left k r (i + 1) n1 d (under k i u) (by omega)
    rwa [show t.left badMay (65536 - n) (4097 - d)=65536 - n1 by omega]
end
def Trm.Tm.count (t:Tm):Int:=if t.may=true then t.size else 0
theorem Trm.may_walk (t:Tm):t.may=(t.walk seeSize 0 1 0).2:=by
 have h:=size_left t 0 1 0
 have e:t.may=decide (0≤t.left badMay 65536 4096):=rfl
 rw [e]
 cases hw:(t.walk seeSize 0 1 0).2
 ·have:=h.2 hw
  simp at this
  simp [this]
 ·have:=(h.1 hw).1
  simpa using this
theorem Trm.count_walk (t:Tm):t.count=if (t.walk seeSize 0 1 0).2=true then (t.walk seeSize 0 1 0).1 else 0:=by
 have h:=size_left t 0 1 0
 unfold Tm.count
 rw [may_walk]
 cases hw:(t.walk seeSize 0 1 0).2
 ·simp
 ·rw [if_pos rfl,if_pos rfl]
  obtain ⟨h1,h2⟩:=h.1 hw
  have:=t.left_size badMay _ _ h1
  omega
theorem Trm.Tm.In.atBox {t:Tm} {h:Hd} {w:World} (hin:t.In w.heap.size w h):TAt (w.heap.size + 1) (w.alloc (t.box h)) w.heap.size 0 t :=
 ⟨by omega,h,Tm.cells (World.alloc_heap_new w (t.box h)),Tm.In.mono (by omega) _ _ (Tm.In.below (below_one w (t.box h)) _ _ hin)⟩
theorem PSize_any (t:Tm) (h:Hd) (w:World) (hin:t.In w.heap.size w h) :
 Calls Tryz.prog 104 #[t.val h] w fun e w'=>e=.returned (.int .i64 t.count)∧Below w.heap.size w w':=by
 rw [count_walk]
 have HW:=hid (walk_any (sees_size (B:=w.heap.size + 1) (m:=w.heap.size + 1) (Nat.le_refl _)) t 0 w.heap.size 0 ((w.alloc (t.box h)).alloc (.cells #[.int .i64 0] 3)) (by omega) (new2 _ _ _) (by omega)
  (((Tm.In.atBox hin).below (Below.mono (below_one (w.alloc (t.box h)) _) (by simp))).root (Nat.le_refl _) (by simp)) (by simp) (by simp))
 generalize t.walk seeSize 0 1 0=R at HW ⊢
 obtain ⟨n,r⟩:=R
 dsimp only at HW ⊢
 clear hin
 unfold Tm.box at HW
 unfold Tm.val
 dsimp only [Tm.vals] at HW ⊢
 cases r
 ·rw [if_neg (by simp)]
  go_enter Tryz.func104,Tryz.ntmps104
  go_wp2_with fail
  refine HW.out.mono ?_
  rintro e w1 ⟨rfl,i1,g1⟩
  have HB:=hid ((below_two w _ _).trans (g1.below (B:=w.heap.size) (by omega) (by simp; omega)))
  clear i1 g1
  go_wp2_with fail
  go_ret
  exact ⟨rfl,HB.out⟩
 ·rw [if_pos rfl]
  go_enter Tryz.func104,Tryz.ntmps104
  go_wp2_with fail
  refine HW.out.mono ?_
  rintro e w1 ⟨rfl,i1,g1⟩
  have HB:=hid ((below_two w _ _).trans (g1.below (B:=w.heap.size) (by omega) (by simp; omega)))
  have hc:=one_cell i1
  clear i1 g1
  go_wp2_with fail
  go_ret
  exact ⟨rfl,HB.out⟩
theorem Trm.count_ge (t:Tm):0≤t.count∧t.count≤65536:=by
 have hs:=t.size_pos
 unfold Tm.count
 split
 ·rename_i hm
  have hm':0≤t.left badMay 65536 4096:=of_decide_eq_true (show decide (0≤t.left badMay 65536 4096)=true from hm)
  have:=t.left_size badMay _ _ hm'
  omega
 ·omega
theorem Trm.may_count (t:Tm):t.may=decide (0 < t.count):=by
 have hs:=t.size_pos
 unfold Tm.count
 cases t.may <;> simp
 omega
theorem PMay_any (t:Tm) (h:Hd) (w:World) (hin:t.In w.heap.size w h) :
 Calls Tryz.prog 61 #[t.val h] w fun e w'=>e=.returned (.bool t.may)∧Below w.heap.size w w':=by
 rw [may_count]
 have HX:=hid (PSize_any t h (w.alloc (t.box h)) (Tm.In.mono (by simp) _ _ (Tm.In.below (below_one w (t.box h)) _ _ hin)))
 have hL:=count_ge t
 generalize t.count=X at HX hL ⊢
 clear hin
 unfold Tm.box at HX
 unfold Tm.val at HX ⊢
 dsimp only [Tm.vals] at HX ⊢
 go_enter Tryz.func61,Tryz.ntmps61
 go_wp2_with fail
 refine HX.out.mono ?_
 rintro e w1 ⟨rfl,b1⟩
 have HB:=hid ((below_one w _).trans (b1.mono (by simp)))
 clear b1
 go_wp2_with fail
 go_ret
 exact ⟨ret_bool rfl,HB.out⟩
end Go.Proofs.YtmngddomnaaedaaGreat
namespace Go.Proofs.YtmngddomnaaedaaGreat
open Go.RowKit Go.Shelf Lvl Trm
namespace Trm
mutual
def Tm.vs:Tm→Int→List Int
 | .mk k n _ _ ts,u=>(if k=2∧u≤n then [n - u] else []) ++ vsL k ts 0 u
def vsL (k:Int):List Tm→Nat→Int→List Int
 | [],_,_=>[]
 | t :: r,i,u=>t.vs (under k i u) ++ vsL k r (i + 1) (under k i u)
end
def seeFree (n:Int) (t:Tm) (_d u:Int):Int × Bool:=if t.k=2∧u≤t.n then (max n (t.n - u + 1),true) else (n,true)
mutual
theorem Tm.walk_free:∀ (t:Tm) (n d u:Int),t.walk seeFree n d u=((t.vs u).foldl (fun n v=>max n (v + 1)) n,true)
 | .mk k m s ls ts,n,d,u=>by
   rw [Tm.walk,Tm.vs,List.foldl_append]
   by_cases h:k=2∧u≤m
   ·have hs:seeFree n (.mk k m s ls ts) d u=(max n (m - u + 1),true):=if_pos h
    rw [hs,if_pos rfl,if_pos h,walkL_free]; rfl
   ·have hs:seeFree n (.mk k m s ls ts) d u=(n,true):=if_neg h
    rw [hs,if_pos rfl,if_neg h,walkL_free]; rfl
theorem walkL_free (k:Int):∀ (ts:List Tm) (i:Nat) (n d u:Int),walkL seeFree k ts i n d u=((vsL k ts i u).foldl (fun n v=>max n (v + 1)) n,true)
 | [],i,n,d,u=>by rw [walkL,vsL]; rfl
 | t :: r,i,n,d,u=>by rw [walkL,vsL,List.foldl_append,Tm.walk_free,if_pos rfl,walkL_free]
end
def OkMay (t:Tm) (d:Int):Prop:=0≤d∧∃ l,0≤t.left badMay l (4097 - d)
theorem OkMay.start {t:Tm} (h:t.may=true):OkMay t 1:=⟨by omega,65536,of_decide_eq_true (show decide (0≤t.left badMay 65536 4096)=true from h)⟩
theorem leftL_mem (bad:Tm→Bool):∀ (ts:List Tm) (l d:Int),0≤leftL bad ts l d→∀ x ∈ ts,∃ l',0≤x.left bad l' d
 | [],_,_,_,x,hx=>by cases hx
 | t :: r,l,d,h,x,hx=>by
   rw [leftL] at h
   split at h
   ·omega
   ·rcases List.mem_cons.1 hx with rfl | hr
    ·exact ⟨l,by omega⟩
    ·exact leftL_mem bad r _ d h x hr
theorem OkMay.node {t:Tm} {d:Int} (h:OkMay t d):t.node=true∧d≤4096:=by
 obtain ⟨_,l,hl⟩:=h
 rw [Tm.left_eq] at hl
 split at hl
 ·omega
 ·rename_i hc
  refine ⟨?_,by omega⟩
  cases hn:t.node
  ·exact absurd (Or.inr (Or.inr (by simp [badMay,hn]))) hc
  ·rfl
theorem OkMay.down {t:Tm} {d:Int} (h:OkMay t d):∀ x ∈ t.ts,OkMay x (d + 1):=fun x hx=>by
 obtain ⟨h0,l,hl⟩:=h
 rw [Tm.left_eq] at hl
 split at hl
 ·omega
 ·obtain ⟨l',hl'⟩:=leftL_mem badMay _ _ _ hl x hx
  exact ⟨by omega,l',by rwa [show 4097 - (d + 1)=4097 - d - 1 by omega]⟩
theorem node_num {t:Tm} (h:t.node=true):0≤t.n∧t.n≤1048576:=by
 unfold Tm.node at h
 simp only [Bool.and_eq_true] at h
 obtain ⟨⟨_,h⟩,_⟩:=h
 split at h
 ·simpa using h
 ·split at h
  ·simp at h; omega
  ·simp at h; omega
end Trm
theorem free1_any (v n:Int) (m:Nat) (w:World) (hv0:0≤v) (hv1:v≤1048576) (hm:w.heap[m]?=some (.cells #[.int .i64 n] 3)) :
 Calls Tryz.prog 194 #[.int .i64 v,.pointer (some ⟨m,0,none⟩)] w fun e w'=>e=.returned (.bool true)∧w'.heap[m]?=some (.cells #[.int .i64 (max n (v + 1))] 3)∧Ran m w w':=by
 have hc:=one_cell hm
 have hfr:w.frozen? ⟨m,0,none⟩=false:=by simp [World.frozen?,hm]
 have hM:=fun x:Int=>(show (w.setCell ⟨m,0,none⟩ (.int .i64 x)).heap[m]?=some (.cells #[.int .i64 x] 3) by simp [World.setCell,Array.getElem?_modify,hm])
 have hR:=fun x:Int=>(show Ran m w (w.setCell ⟨m,0,none⟩ (.int .i64 x)) from ⟨rfl,rfl,rfl,by simp [World.setCell],fun k _ hk=>Below.heap_setCell _ _ _ _ hk⟩)
 have HM:=hid hM
 have HR:=hid hR
 clear hM hR hm
 have hmax:=run_max
 go_enter Tryz.func194,Tryz.ntmps194
 go_wp2_with fail
 go_ret
 exact ⟨rfl,HM.out _,HR.out _⟩
theorem vars1_free {B m C:Nat} (hCm:C ≠ m) (st:Int) (t:Tm) (b o:Nat) (d u:Int) (w:World) (hg:(fun _=>True) st) (hi:(fun n w=>w.heap[m]?=some (.cells #[.int .i64 n] 3)∧w.heap[C]?=some (.cells #[.func (.func 194) #[] #[.pointer (some ⟨m,0,none⟩)]] 180)) st w) (hok:OkMay t d) (hu:0≤u) (hat:RAt B m w b o t) :
 Calls Tryz.prog 201 #[.pointer (some ⟨b,o,none⟩),.int .i64 d,.int .i64 u,.pointer (some ⟨C,0,none⟩)] w fun e w'=>e=.returned (.bool (seeFree st t d u).2)∧(fun n w=>w.heap[m]?=some (.cells #[.int .i64 n] 3)∧w.heap[C]?=some (.cells #[.func (.func 194) #[] #[.pointer (some ⟨m,0,none⟩)]] 180)) (seeFree st t d u).1 w'∧Ran m w w':=by
 obtain ⟨hn0,hn1⟩:=node_num hok.node.1
 have HI:=hid hi
 obtain ⟨hm,hC⟩:=hi
 try dsimp only at hg
 have hCc:=one_cell hC
 have z1:C < w.heap.size:=World.block_lt_of_cell? w _ hCc
 obtain ⟨z3,z2,h,⟨c0,c1,c2,c3,c4⟩,hin⟩:=hat
 have HIN:=hid hin
 have HC:=hid hC
 have HM:=hid hm
 clear hin hC hm
 by_cases h1:t.k=2
 ·by_cases h2:u≤t.n
  ·have hs:seeFree st t d u=(max st (t.n - u + 1),true):=if_pos ⟨h1,h2⟩
   rw [hs]
   clear hs
   have HX:=hid (fun (W:World) (hW:Below w.heap.size w W)=>free1_any (t.n - u) st m W (by omega) (by omega) (Lvl.keep hW HM.out))
   have hwr:IntKind.i64.wrap (t.n - u)=t.n - u:=IntWalk.i64_in _ (by omega)
   rw [h1] at c0
   have d2:decide (t.n < u)=false:=by simpa using h2
   have H1:=hid h1
   have H2:=hid h2
   have HG:=hid hg
   clear h1 h2 hg
   go_enter Tryz.func201,Tryz.ntmps201
   go_wp2_with fail
   go_region_held3 (fun w'=>w'.cell? ⟨C,0,none⟩=some (.func (.func 194) #[] #[.pointer (some ⟨m,0,none⟩)])∧w'.cell? ⟨b,o,none⟩=some (.int .u8 2)∧w'.cell? ⟨b,o + 1,none⟩=some (.int .i64 t.n))
    (go_keep)
    ((go_at_call 194; (with_reducible refine (HX.out _ ?_).mono ?_); exact (Below.refl _ _).drew; rintro e w3 ⟨rfl,i3,g3⟩; have q1:=(g3.cell (p:=⟨C,0,none⟩) z1 hCm).trans hCc; have q2:=(g3.cell (p:=⟨b,o,none⟩) z2 z3).trans c0; have q3:=(g3.cell (p:=⟨b,o + 1,none⟩) z2 z3).trans c1))
   have HI3:=hid i3
   have HR3:=hid ((Ran.of_below (Below.refl _ _).drew).trans g3)
   clear i3 g3 q1 q2 q3 hwr
   go_wp2_with fail
   go_ret
   exact ⟨rfl,⟨HI3.out,HR3.out.keep HC.out hCm⟩,HR3.out⟩
  ·have hs:seeFree st t d u=(st,true):=if_neg (fun hh=>h2 hh.2)
   rw [hs]
   rw [h1] at c0
   have d2:decide (t.n < u)=true:=by simp; omega
   clear hs h1 h2
   go_enter Tryz.func201,Tryz.ntmps201
   go_wp2_with fail
   go_quiet (fail)
   go_wp2_with fail
   go_ret
   exact ⟨rfl,⟨Lvl.keep (drew_below _ w _) HI.out.1,Lvl.keep (drew_below _ w _) HC.out⟩,Ran.of_below (drew_below _ w _)⟩
 ·have hs:seeFree st t d u=(st,true):=if_neg (fun hh=>h1 hh.1)
  rw [hs]
  have d1:(t.k != 2)=true:=by simpa using h1
  clear hs h1
  go_enter Tryz.func201,Tryz.ntmps201
  go_wp2_with fail
  go_quiet (fail)
  go_wp2_with fail
  go_ret
  exact ⟨rfl,⟨Lvl.keep (drew_below _ w _) HI.out.1,Lvl.keep (drew_below _ w _) HC.out⟩,Ran.of_below (drew_below _ w _)⟩
theorem Trm.sees_free {B m C:Nat} (hBm:B≤m) (hCm:C ≠ m):Sees B m C 201 (seeFree) (fun n w=>w.heap[m]?=some (.cells #[.int .i64 n] 3)∧w.heap[C]?=some (.cells #[.func (.func 194) #[] #[.pointer (some ⟨m,0,none⟩)]] 180)) OkMay (fun _=>True) where
 calls st t b o d u w hg hi ho hu0 hud hat hB:=vars1_free hCm st t b o d u w hg hi ho hu0 hat
 good st t d u hg ho hr:=by
  trivial
 bound t d ho:=by have:=ho.node; have:=ho.1; omega
 down st t d u ho hr x hx:=ho.down x hx
 keep st w w' hi hb:=⟨Lvl.keep hb hi.1,Lvl.keep hb hi.2⟩
 low:=hBm
 enter args w:=by kernel_rfl
end Go.Proofs.YtmngddomnaaedaaGreat
namespace Go.Proofs.YtmngddomnaaedaaGreat
open Go.RowKit Go.Shelf Lvl Trm
def Trm.appl (f:Tm) (l:List Tm):Tm:=l.foldl (fun f x=>t2 4 f x) f
theorem Trm.appl_cons (f x:Tm) (l:List Tm):appl f (x :: l)=appl (t2 4 f x) l:=rfl
theorem Trm.node_app {t:Tm} (h:t.node=true) (hk:t.k=4):∃ f x,t=t2 4 f x:=by
 unfold Tm.node at h
 simp only [hk,Bool.and_eq_true,decide_eq_true_eq] at h
 obtain ⟨⟨⟨⟨⟨_,hl⟩,_⟩,hs⟩,hn⟩,hv⟩:=h
 simp [kids] at hl hs hn hv
 obtain ⟨k,n,s,ls,ts⟩:=t
 simp only [Tm.k,Tm.ts,Tm.s,Tm.n,Tm.ls] at hk hl hs hn hv
 obtain ⟨f,x,rfl⟩:∃ f x,ts=[f,x]:=by
  match ts,hl with
  | [f,x],_=>exact ⟨f,x,rfl⟩
  | [],hl=>simp at hl
  | [_],hl=>simp at hl
  | _ :: _ :: _ :: _,hl=>simp at hl; omega
 refine ⟨f,x,?_⟩
 subst hk hn hv
 have hs':s=no:=by
  first
   | exact hs
   | (cases s with
      | mk d=>simp [ByteArray.size] at hs; subst hs; rfl)
 rw [hs']; rfl
theorem Trm.infoT:(Tryz.prog.info? 25).map (fun i=>(i.zero,i.size,i.bytes))=some (some (.agg #[.int .u8 0,.int .i64 0,.string ⟨#[]⟩,.slice none 0 0,.slice none 0 0]),5,80):=by kernel_rfl
def Trm.flat (ps:List (Tm × Hd)):List Value:=ps.flatMap fun p=>(p.1.vals p.2).toList
theorem Trm.flat_len (ps:List (Tm × Hd)):(flat ps).length=ps.length * 5:=by
 induction ps with
 | nil=>rfl
 | cons p r ih=>simp only [flat,List.flatMap_cons,List.length_append,List.length_cons] at ih ⊢; rw [ih]; simp [Tm.vals]; omega
theorem Trm.flat_at (ps:List (Tm × Hd)):∀ k (hk:k < ps.length) q,q < 5→(flat ps)[k * 5 + q]?=(ps[k].1.vals ps[k].2)[q]?:=by
 induction ps with
 | nil=>intro k hk; simp at hk
 | cons p r ih =>
   intro k hk q hq
   have h5:(p.1.vals p.2).toList.length=5:=by simp [Tm.vals]
   match k,hk with
   | 0,_ =>
     show ((p.1.vals p.2).toList ++ flat r)[0 * 5 + q]?=_
     rw [List.getElem?_append_left (by omega)]
     simp
   | k + 1,hk =>
     show ((p.1.vals p.2).toList ++ flat r)[(k + 1) * 5 + q]?=_
     rw [List.getElem?_append_right (by omega),h5,show (k + 1) * 5 + q - 5=k * 5 + q by omega]
     exact ih k (by simpa using hk) q hq
theorem Trm.flat_snoc (ps:List (Tm × Hd)) (p:Tm × Hd):flat (ps ++ [p])=flat ps ++ (p.1.vals p.2).toList:=by simp [flat]
theorem Trm.block_of_own {w:World} {base g n cap:Nat} {ps:List (Tm × Hd)} (h:w.ownsRow base 25 5 (.slice (some ⟨g,0,none⟩) n cap) ps.length (flat ps)):base≤g∧n=ps.length∧TBlock w g (cap * 5) ps:=by
 obtain ⟨hl,h | ⟨g',cap',cur,he,hb,hg,hn,hm,hs,ht⟩⟩:=h
 ·cases h.1
 ·cases he
  refine ⟨hb,rfl,⟨cur,hg,hs,by omega,fun k hk q hq=>?_⟩⟩
  rw [← flat_at ps k hk q hq,← ht,List.getElem?_take_of_lt (by omega),Array.getElem?_toList]
theorem Trm.below_own {w w':World} {base:Nat} {e size n:Nat} {v:Value} {xs:List Value} (h:w.ownsRow base e size v n xs) (hg:w.grownBy w' v.ownBlock) (hb:base≤w.heap.size):Below base w w':=by
 refine Below.grown (Below.refl _ _) hg hb fun k hk=>?_
 obtain ⟨_,h | ⟨g,cap,cur,rfl,hb2,_⟩⟩:=h
 ·rw [h.1] at hk; simp [Value.ownBlock] at hk
 ·simp [Value.ownBlock] at hk; omega
theorem Trm.TBlock.ran {m:Nat} {w w':World} {g S:Nat} {ps:List (Tm × Hd)} (h:TBlock w g S ps) (hr:Ran m w w') (hm:g ≠ m):TBlock w' g S ps:=by
 have hl:=h.lt
 obtain ⟨cur,hg,h2⟩:=h
 exact ⟨cur,by rw [hr.block g hl hm]; exact hg,h2⟩
theorem Trm.TBlock.row {B:Nat} {w:World} {g S:Nat} {ps:List (Tm × Hd)} (h:TBlock w g S ps) (hg:g < B) (hi:∀ p ∈ ps,p.1.In B w p.2):RowIn B w (some ⟨g,0,none⟩) 0 (ps.map (·.1)):=by
 refine RowIn.mk fun k hk=>?_
 have hk':k < ps.length:=by simpa using hk
 have hc:=h.cells k hk'
 refine ⟨g,0,rfl,hg,ps[k].2,?_,?_⟩
 ·rw [List.getElem_map]; simpa using hc
 ·rw [List.getElem_map]; exact hi _ (List.getElem_mem hk')
theorem Trm.own_put {w:World} {base e size n:Nat} {v:Value} {xs:List Value} (h:w.ownsRow base e size v n xs) {b:Nat} (hb:b < base) (v0 v1 v2 v3 v4:Value):(putT w b v0 v1 v2 v3 v4).ownsRow base e size v n xs :=
 ownsRow_setCell_below (ownsRow_setCell_below (ownsRow_setCell_below (ownsRow_setCell_below (ownsRow_setCell_below h (a:=⟨b,0,none⟩) hb _) (a:=⟨b,1,none⟩) hb _) (a:=⟨b,2,none⟩) hb _) (a:=⟨b,3,none⟩) hb _) (a:=⟨b,4,none⟩) hb _
theorem Trm.putT_ran (w:World) (g:Nat) (v0 v1 v2 v3 v4:Value):Ran g w (putT w g v0 v1 v2 v3 v4) :=
 ((((Ran.set w g 0 v0).trans (Ran.set _ g 1 v1)).trans (Ran.set _ g 2 v2)).trans (Ran.set _ g 3 v3)).trans (Ran.set _ g 4 v4)
theorem Reverse_nil (w:World):Calls Tryz.prog 128 #[.slice none 0 0] w fun e w'=>e=.returned (.tuple #[])∧w=w':=by
 go_enter Tryz.func128,Tryz.ntmps128
 go_wp2_with fail
 go_rounds 1
 go_end0
 exact ⟨rfl,rfl⟩
theorem Trm.t2_size (f x:Tm):(t2 4 f x).size=1 + f.size + x.size:=by
 unfold t2; rw [Tm.size,sizeL,sizeL,sizeL]; omega
theorem Trm.may_size {t:Tm} (h:t.may=true):t.size≤65536:=by
 have:=count_ge t
 unfold Tm.count at this
 rw [if_pos h] at this
 omega
end Go.Proofs.YtmngddomnaaedaaGreat
namespace Go.Proofs.YtmngddomnaaedaaGreat
open Lvl
namespace Trm
abbrev Lf (σ:Type):=σ→Tm→Int→σ × Int × Option Tm
def und (k:Int) (last:Bool) (u:Int):Int:=if binds k=true∧last=true then u + 1 else u
def fin {σ:Type} (k n:Int) (s:ByteArray) (c:Bool) (dn:List Tm) (z:σ × Int × Bool × List Tm):σ × Int × Option Tm :=
 (z.1,z.2.1,if z.2.1=0∧(c || z.2.2.1)=true then some (.mk k n s [] (dn ++ z.2.2.2)) else none)
mutual
def Tm.thr {σ:Type} (lf:Lf σ):Tm→σ→Int→σ × Int × Option Tm
 | .mk k n s ls ts,st,u=>if ts.isEmpty=true then lf st (.mk k n s ls ts) u else fin k n s false [] (thrL lf k ts st u)
def thrL {σ:Type} (lf:Lf σ) (k:Int):List Tm→σ→Int→σ × Int × Bool × List Tm
 | [],st,_=>(st,0,false,[])
 | t :: r,st,u =>
   if (t.thr lf st (und k r.isEmpty u)).2.1=0 then
    ((thrL lf k r (t.thr lf st (und k r.isEmpty u)).1 (und k r.isEmpty u)).1,(thrL lf k r (t.thr lf st (und k r.isEmpty u)).1 (und k r.isEmpty u)).2.1,
      (t.thr lf st (und k r.isEmpty u)).2.2.isSome || (thrL lf k r (t.thr lf st (und k r.isEmpty u)).1 (und k r.isEmpty u)).2.2.1,
      (t.thr lf st (und k r.isEmpty u)).2.2.getD t :: (thrL lf k r (t.thr lf st (und k r.isEmpty u)).1 (und k r.isEmpty u)).2.2.2)
   else ((t.thr lf st (und k r.isEmpty u)).1,(t.thr lf st (und k r.isEmpty u)).2.1,false,[])
end
theorem Tm.thr_leaf {σ:Type} (lf:Lf σ) {t:Tm} (h:t.ts=[]) (st:σ) (u:Int):t.thr lf st u=lf st t u:=by
 cases t with
 | mk k n s ls ts =>
   have h':ts=[]:=h
   subst h'
   rw [Tm.thr]; rfl
theorem Tm.thr_node {σ:Type} (lf:Lf σ) {t:Tm} (h:t.ts ≠ []) (st:σ) (u:Int):t.thr lf st u=fin t.k t.n t.s false [] (thrL lf t.k t.ts st u):=by
 cases t with
 | mk k n s ls ts =>
   have h':ts ≠ []:=h
   rw [Tm.thr,if_neg (by simpa using h')]; rfl
theorem fin_bad {σ:Type} (lf:Lf σ) {k n:Int} {s:ByteArray} {c:Bool} {dn:List Tm} {t:Tm} {r:List Tm} {st:σ} {u:Int} {Y:σ × Int × Option Tm} (hY:t.thr lf st (und k r.isEmpty u)=Y) (he:Y.2.1 ≠ 0) :
 fin k n s c dn (thrL lf k (t :: r) st u)=(Y.1,Y.2.1,none):=by
 rw [thrL,hY,if_neg he]
 simp [fin,he]
theorem fin_ok {σ:Type} (lf:Lf σ) {k n:Int} {s:ByteArray} {c:Bool} {dn:List Tm} {t:Tm} {r:List Tm} {st:σ} {u:Int} {Y:σ × Int × Option Tm} (hY:t.thr lf st (und k r.isEmpty u)=Y) (he:Y.2.1=0) :
 fin k n s c dn (thrL lf k (t :: r) st u)=fin k n s (c || Y.2.2.isSome) (dn ++ [Y.2.2.getD t]) (thrL lf k r Y.1 (und k r.isEmpty u)):=by
 rw [thrL,hY,if_pos he]
 simp [fin,Bool.or_assoc]
theorem fin_nil {σ:Type} (lf:Lf σ) {k n:Int} {s:ByteArray} {c:Bool} {dn:List Tm} {st:σ} {u:Int} :
 fin k n s c dn (thrL lf k [] st u)=(st,0,if c=true then some (.mk k n s [] dn) else none):=by
 rw [thrL]
 simp [fin]
theorem node_few {t:Tm} (h:t.node=true):(t.ts.length:Int)=kids t.k∧t.ts.length≤3∧1≤t.k∧t.k≤8:=by
 unfold Tm.node at h
 simp only [Bool.and_eq_true,decide_eq_true_eq] at h
 obtain ⟨⟨⟨⟨⟨h0,h1⟩,_⟩,_⟩,_⟩,_⟩:=h
 refine ⟨h1,?_,?_,?_⟩ <;>
 ·unfold kids at h0 h1
  repeat' split at h0
  all_goals (first | omega | (simp_all; done) | (simp_all; omega))
theorem node_inner {t:Tm} (h:t.node=true) (hts:t.ts ≠ []):t.ls=[]:=by
 have hf:=node_few h
 have hl:t.ts.length ≠ 0:=fun h0=>hts (List.eq_nil_of_length_eq_zero h0)
 have h1:=hf.1
 unfold Tm.node at h
 simp only [Bool.and_eq_true] at h
 obtain ⟨_,h6⟩:=h
 have hk:t.k ≠ 1∧t.k ≠ 3:=by
  refine ⟨?_,?_⟩ <;>
  ·intro hk
   rw [hk] at h1
   simp [kids] at h1
   exact hts h1
 rw [if_neg hk.1,if_neg hk.2] at h6
 exact List.eq_nil_of_length_eq_zero (of_decide_eq_true h6)
mutual
theorem Tm.thr_good {σ:Type} {lf:Lf σ} {Good:σ→Prop} (hg:∀ st t u,Good st→t.node=true→t.ts=[]→(lf st t u).2.1=0→Good (lf st t u).1) :
 ∀ (t:Tm) (st:σ) (d u:Int),OkMay t d→Good st→(t.thr lf st u).2.1=0→Good (t.thr lf st u).1
 | .mk k n s ls ts,st,d,u,ho,g,h=>by
   rw [Tm.thr] at h ⊢
   split at h
   ·rename_i hs
    rw [if_pos hs]
    exact hg st _ u g ho.node.1 (show ts=[] by simpa using hs) h
   ·rename_i hs
    rw [if_neg hs]
    exact thrL_good hg k ts st (d + 1) u (fun x hx=>ho.down x hx) g h
theorem thrL_good {σ:Type} {lf:Lf σ} {Good:σ→Prop} (hg:∀ st t u,Good st→t.node=true→t.ts=[]→(lf st t u).2.1=0→Good (lf st t u).1) (k:Int) :
 ∀ (ts:List Tm) (st:σ) (d u:Int),(∀ x ∈ ts,OkMay x d)→Good st→(thrL lf k ts st u).2.1=0→Good (thrL lf k ts st u).1
 | [],st,d,u,_,g,_=>by rw [thrL]; exact g
 | t :: r,st,d,u,ho,g,h=>by
   rw [thrL] at h ⊢
   split at h
   ·rename_i he
    rw [if_pos he]
    exact thrL_good hg k r _ d _ (fun x hx=>ho x (by simp [hx])) (Tm.thr_good hg t st d _ (ho t (by simp)) g he) h
   ·rename_i he
    exact absurd h he
end
theorem Tm.thr_kind {σ:Type} {lf:Lf σ} (hk:∀ st t u y,t.node=true→t.ts=[]→(lf st t u).2.2=some y→y.k ≠ 0) {t:Tm} {st:σ} {d u:Int} (ho:OkMay t d) {y:Tm} (h:(t.thr lf st u).2.2=some y):y.k ≠ 0:=by
 by_cases hts:t.ts=[]
 ·rw [Tm.thr_leaf lf hts] at h
  exact hk st t u y ho.node.1 hts h
 ·rw [Tm.thr_node lf hts] at h
  have:=(node_few ho.node.1).2.2
  unfold fin at h
  dsimp only at h
  split at h
  ·cases h
   show t.k ≠ 0
   omega
  ·cases h
end Trm
end Go.Proofs.YtmngddomnaaedaaGreat
namespace Go.Proofs.YtmngddomnaaedaaGreat
open Go.RowKit Go.Shelf Lvl Trm
namespace Trm
def zeroT:Tm:=.mk 0 0 no [] []
theorem RanS.cell {P:Nat→Prop} {w w':World} (h:RanS P w w') {p:Addr} (hp:p.block < w.heap.size) (hm:¬ P p.block):w'.cell? p=w.cell? p:=World.cell?_of_block (h.block p.block hp hm)
theorem RanS.more {P:Nat→Prop} {w w':World} (h:RanS P w w') (o:Obj):RanS P w (w'.alloc o):=h.trans (RanS.of_below (below_one _ _))
theorem RanS.drewN {P:Nat→Prop} {w w':World} (h:RanS P w w') (n:Nat):RanS P w (w'.drewN n):=h.trans (RanS.of_below (by refine ⟨?_,?_,?_,?_,?_⟩ <;> simp [World.drewN]))
theorem RanS.wide {P Q:Nat→Prop} {w w':World} (h:RanS P w w') (hpq:∀ k,P k→Q k):RanS Q w w':=⟨h.os,h.tape,h.output,h.size,fun k hk hn=>h.block k hk (fun hp=>hn (hpq k hp))⟩
theorem RanS.put {P:Nat→Prop} {w w':World} (h:RanS P w w') {b:Nat} (hb:w.heap.size≤b) (v0 v1 v2 v3 v4:Value):RanS P w (putT w' b v0 v1 v2 v3 v4) :=
 ⟨(putT_ran w' b v0 v1 v2 v3 v4).os.trans h.os,(putT_ran w' b v0 v1 v2 v3 v4).tape.trans h.tape,(putT_ran w' b v0 v1 v2 v3 v4).output.trans h.output,Nat.le_trans h.size (putT_ran w' b v0 v1 v2 v3 v4).size,
   fun k hk hn=>((putT_ran w' b v0 v1 v2 v3 v4).block k (Nat.lt_of_lt_of_le hk h.size) (by omega)).trans (h.block k hk hn)⟩
theorem RanS.putO {P:Nat→Prop} {w w':World} (h:RanS P w w') {b:Nat} (hb:w.heap.size≤b) (o:Nat) (v0 v1 v2 v3 v4:Value):RanS P w (putO w' b o v0 v1 v2 v3 v4) :=
 ⟨(putO_ran w' b o v0 v1 v2 v3 v4).os.trans h.os,(putO_ran w' b o v0 v1 v2 v3 v4).tape.trans h.tape,(putO_ran w' b o v0 v1 v2 v3 v4).output.trans h.output,Nat.le_trans h.size (putO_ran w' b o v0 v1 v2 v3 v4).size,
   fun k hk hn=>((putO_ran w' b o v0 v1 v2 v3 v4).block k (Nat.lt_of_lt_of_le hk h.size) (by omega)).trans (h.block k hk hn)⟩
theorem FirmS.less {P Q:Nat→Prop} {w:World} {t:Tm} {h:Hd} (g:FirmS Q w t h) (hpq:∀ k,k < w.heap.size→P k→Q k):FirmS P w t h :=
 fun w' hr=>g w' ⟨hr.os,hr.tape,hr.output,hr.size,fun k hk hn=>hr.block k hk (fun hp=>hn (hpq k hk hp))⟩
theorem TCells.ranS {P:Nat→Prop} {w w1:World} {b o:Nat} {t:Tm} {h:Hd} (c:TCells w b o t h) (g:RanS P w w1) (hb:b < w.heap.size) (hm:¬ P b):TCells w1 b o t h :=
 ⟨(g.cell (p:=⟨b,_,none⟩) hb hm).trans c.c0,(g.cell (p:=⟨b,_,none⟩) hb hm).trans c.c1,(g.cell (p:=⟨b,_,none⟩) hb hm).trans c.c2,(g.cell (p:=⟨b,_,none⟩) hb hm).trans c.c3,(g.cell (p:=⟨b,_,none⟩) hb hm).trans c.c4⟩
theorem TBlock.ranS {P:Nat→Prop} {w w':World} {g S:Nat} {ps:List (Tm × Hd)} (h:TBlock w g S ps) (hr:RanS P w w') (hm:¬ P g):TBlock w' g S ps:=by
 have hl:=h.lt
 obtain ⟨cur,hg,h2⟩:=h
 exact ⟨cur,by rw [hr.block g hl hm]; exact hg,h2⟩
def SAt (B:Nat) (P:Nat→Prop) (w:World) (b o:Nat) (t:Tm):Prop:=¬ P b∧b < w.heap.size∧∃ h,TCells w b o t h∧t.In B w h
theorem TAt.sroot {B:Nat} {P:Nat→Prop} {w:World} {b o:Nat} {t:Tm} (h:TAt B w b o t) (hP:∀ q,P q→B≤q) (hB:B≤w.heap.size):SAt B P w b o t:=by
 obtain ⟨hb,hd,hc,hi⟩:=h
 exact ⟨fun hp=>by have:=hP b hp; omega,by omega,hd,hc,hi⟩
def ThrPost {σ:Type} (B:Nat) (P:Nat→Prop) (R:σ × Int × Option Tm) (Inv:σ→World→Prop) (w:World):Ending→World→Prop:=fun e w' =>
 ∃ h,e=.returned (.tuple #[(R.2.2.getD zeroT).val h,.int .i64 R.2.1])∧FirmS (fun q=>B≤q∧q < w.heap.size) w' (R.2.2.getD zeroT) h∧Inv R.1 w'∧RanS P w w'
theorem firm_zero {P:Nat→Prop} {w:World} {lc tc:Nat}:FirmS P w zeroT ⟨none,lc,none,tc⟩:=fun _ _=>leaf_in (by decide) (by decide) (by decide) (by decide) (by decide)
structure Leaf {σ:Type} (B N:Nat) (P:Nat→Prop) (C:Nat) (f:FuncId) (lf:Lf σ) (Inv:σ→World→Prop) (Good:σ→Prop):Prop where
 calls:∀ st t b o u w,Good st→Inv st w→t.node=true→t.ts=[]→0≤u→u≤4096→SAt B P w b o t→B≤w.heap.size→N≤w.heap.size→(∀ q,P q→q < w.heap.size) →
  Calls Tryz.prog f #[.pointer (some ⟨b,o,none⟩),.int .i64 u,.pointer (some ⟨C,0,none⟩)] w (ThrPost B P (lf st t u) Inv w)
 good:∀ st t u,Good st→t.node=true→t.ts=[]→(lf st t u).2.1=0→Good (lf st t u).1
 kind:∀ st t u y,t.node=true→t.ts=[]→(lf st t u).2.2=some y→y.k ≠ 0
 keep:∀ st w w',Inv st w→Below N w w'→Inv st w'
 low:∀ q,P q→B≤q
 enter:∀ (args:Array Value) (w:World),Sem.run Tryz.prog (callFunc f args) w=.ok (.enter f args) w
end Trm
theorem binds_any (k:Int) (w:World) :
 Calls Tryz.prog 167 #[.int .u8 k] w fun e w'=>e=.returned (.bool (binds k))∧w=w':=by
 have hb:binds k=((k == 5) || (k == 6) || (k == 7)):=by unfold binds; rw [Bool.eq_iff_iff]; simp; omega
 rw [hb]
 clear hb
 go_enter Tryz.func167,Tryz.ntmps167
 cases h5:k == 5
 ·cases h6:k == 6
  ·cases h7:k == 7
   ·go_wp2_with fail
    go_ret
    exact ⟨rfl,rfl⟩
   ·go_wp2_with fail
    go_ret
    exact ⟨rfl,rfl⟩
  ·go_wp2_with fail
   go_ret
   exact ⟨rfl,rfl⟩
 ·go_wp2_with fail
  go_ret
  exact ⟨rfl,rfl⟩
theorem Clone_any (b off n cap:Nat) (ps:List (Tm × Hd)) (w:World) (hn:ps.length=n) (h3:n≤1000000) (hc:∀ k (hk:k < ps.length),TCells w b (off + k * 5) ps[k].1 ps[k].2) (h0:0 < n) :
 Calls Tryz.prog 168 #[.slice (some ⟨b,off,none⟩) n cap] w fun e w'=>∃ L S c,e=.returned (.slice (some ⟨L,0,none⟩) n c)∧w.heap.size≤L∧L < w'.heap.size∧TBlock w' L S ps∧Below w.heap.size w w':=by
 obtain ⟨i0,hi,hz0,hz1,hz2⟩:=info_parts infoT
 have HC:Hid (∀ j u,(flat ps)[j]?=some u→w.cell? ⟨b,off + j,none⟩=some u):=hid (fun j u hj=>by
  have hjl:j < ps.length * 5:=by rw [← flat_len]; exact (List.getElem?_eq_some_iff.1 hj).1
  have hk:j / 5 < ps.length:=by omega
  have hq:j % 5 < 5:=Nat.mod_lt _ (by omega)
  have e:=flat_at ps (j / 5) hk (j % 5) hq
  rw [show j / 5 * 5 + j % 5=j by omega,hj] at e
  obtain ⟨c0,c1,c2,c3,c4⟩:=hc (j / 5) hk
  have h5:j % 5=0∨j % 5=1∨j % 5=2∨j % 5=3∨j % 5=4:=by omega
  rcases h5 with h | h | h | h | h <;> rw [h] at e <;> simp [Tm.vals] at e <;> subst e
  ·rw [show off + j=off + j / 5 * 5 by omega]; exact c0
  ·rw [show off + j=off + j / 5 * 5 + 1 by omega]; exact c1
  ·rw [show off + j=off + j / 5 * 5 + 2 by omega]; exact c2
  ·rw [show off + j=off + j / 5 * 5 + 3 by omega]; exact c3
  ·rw [show off + j=off + j / 5 * 5 + 4 by omega]; exact c4)
 have hone:∀ u ∈ flat ps,u.oneCell'=true:=by
  intro u hu
  unfold flat at hu
  rw [List.mem_flatMap] at hu
  obtain ⟨p,_,hp⟩:=hu
  simp [Tm.vals] at hp
  rcases hp with rfl | rfl | rfl | rfl | rfl <;> rfl
 have q22:∀ (w:World) (a:Option Addr) (n c n' c':Nat),(binOp .eql 23 (.slice a n c) (.slice none n' c')).run Tryz.prog w=.ok (.bool a.isNone) w:=fun w a n c n' c'=>Lib.run_eql_slice_nil w _ _ a n c n' c' Tryz.underlying23
 clear hc
 go_enter Tryz.func168,Tryz.ntmps168
 go_wp2_with (at_builtin; refine wpList_append_own _ rfl _ _ 23 rfl w.heap.size 25 i0 _ 5 80 Tryz.underlying23 hi hz0 hz1 hz2 rfl (by decide) _ _ _ rfl (World.ownsRow_made w #[] 0 (Nat.le_refl _) (Nat.zero_le _) (by simp)) ⟨b,off,none⟩ n cap (flat ps) rfl ?c1 ?c2 ?c3 ?c4 ?c5 ?c6 ?_)
 case c1=>rw [flat_len,hn]
 case c2 =>
  intro j u hj
  rw [Addr.add_lit]
  exact Lib.cell?_alloc_some _ (HC.out j u hj)
 case c3=>exact hone
 case c4=>unfold maxLen; omega
 case c5=>omega
 case c6=>simp
 intro v' w1 hown hgrow hnil
 have ho0:(w.alloc (.cells #[] 25)).ownsRow w.heap.size 25 5 (.slice (some ⟨w.heap.size,0,none⟩) 0 0) 0 []:=World.ownsRow_made w #[] 0 (Nat.le_refl _) (Nat.zero_le _) (by simp)
 have hbel:=hid ((below_one w (.cells #[] 25)).trans (below_own ho0 hgrow (by simp)))
 subst hn
 have HO:=hid hown
 obtain ⟨hfl,⟨_,hn0⟩ | ⟨g,c,cur,rfl,hbg,hgb,_⟩⟩:=hown
 ·omega
 ·obtain ⟨hq1,hq2,hq3⟩:=block_of_own HO.out
  have HQ:=hid hq3
  have hgl:=(Array.getElem?_eq_some_iff.1 hgb).1
  clear ho0 hgrow hnil hfl hgb hq3 hq2
  go_wp2_with fail
  go_ret
  exact ⟨g,c * 5,c,rfl,hbg,hgl,HQ.out,hbel.out⟩
end Go.Proofs.YtmngddomnaaedaaGreat
