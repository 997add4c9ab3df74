/-
 level.answer,May,Zero,Param,Succ,Max,Leq.
-/
import Derived.Lib.Hide
import Derived.Test.YtmngddomnaaedaaGreatQB1
import Derived.Test.YtmngddomnaaedaaGreatQB2
import Derived.ChangeKeysEq
import Derived.BigQuiet
import Derived.Deep.QuietTactic
import Derived.Deep.RegionHeld3
import Derived.Deep.Slices
import Derived.LoopTactic
import Derived.IntWalk
open Go.Lib (hid)
set_option maxRecDepth 100000
set_option maxHeartbeats 32000000
namespace Go.Proofs.YtmngddomnaaedaaGreat
open Go.RowKit Go.Shelf Lvl
def Lvl.ans (l:Lv):Lv × Int:=if l.form.within=true then (l.form,0) else (zero,4)
theorem Lvl.Lv.frees {l:Lv} {b:Nat} {w:World} (h:w.heap[b]?=some l.box) :
 w.frozen? ⟨b,0,none⟩=false∧w.frozen? ⟨b,1,none⟩=false∧w.frozen? ⟨b,2,none⟩=false∧w.frozen? ⟨b,3,none⟩=false∧w.frozen? ⟨b,4,none⟩=false :=
 ⟨Lv.free h 0,Lv.free h 1,Lv.free h 2,Lv.free h 3,Lv.free h 4⟩
theorem Lvl.new1of2 (w:World) (o1 o2:Obj):((w.alloc o1).alloc o2).heap[w.heap.size]?=some o1:=by
 rw [Below.heap_alloc _ _ _ (by simp)]; exact World.alloc_heap_new w o1
def Lvl.put5 (W:World) (B:Nat) (l:Lv):World:=(((((W.setCell ⟨B,0,none⟩ (.int .i64 l.c)).setCell ⟨B,1,none⟩ (.int .i64 l.p0)).setCell ⟨B,2,none⟩ (.int .i64 l.p1)).setCell ⟨B,3,none⟩ (.int .i64 l.p2)).setCell ⟨B,4,none⟩ (.int .i64 l.p3))
theorem Lvl.put5_self {l:Lv} {W:World} {B:Nat} (h:W.heap[B]?=some l.box) (G:Lv):(put5 W B G).heap[B]?=some G.box:=set_all h _ _ _ _ _
theorem Lvl.put5_other {W:World} {B:Nat} {o:Obj} (h:W.heap[B]?=some o) (G:Lv) {b:Nat} (hb:b ≠ B):(put5 W b G).heap[B]?=some o :=
 cells_other (cells_other (cells_other (cells_other (cells_other h _ hb) _ hb) _ hb) _ hb) _ hb
theorem Lvl.put5_below {w W:World} (h:Below w.heap.size w W) {B:Nat} (hB:w.heap.size≤B) (G:Lv):Below w.heap.size w (put5 W B G):=below_all h hB _ _ _ _ _
theorem Lvl.keep {W w1:World} (h:Below W.heap.size W w1) {k:Nat} {o:Obj} (hk:W.heap[k]?=some o):w1.heap[k]?=some o:=by
 rw [h.block k (Array.getElem?_eq_some_iff.1 hk).1]; exact hk
theorem answer_any (l:Lv) (w:World) :
 Calls Tryz.prog 136 #[l.val] w fun e w'=>e=.returned (.tuple #[(ans l).1.val,.int .i64 (ans l).2])∧Below w.heap.size w w':=by
 obtain ⟨F,hF⟩:∃ F,F=l.form:=⟨_,rfl⟩
 have hform:=fun w=>inForm_any l w
 have hwith:=fun w=>within_any F w
 unfold ans
 rw [← hF] at hform ⊢
 have HF:=hid hform
 obtain ⟨x,hx⟩:∃ x,x=F.within:=⟨_,rfl⟩
 rw [← hx] at hwith ⊢
 have HW:=hid hwith
 have HX:=hid hx
 clear hF hform hwith hx
 unfold Lv.val
 go_enter Tryz.func136,Tryz.ntmps136
 go_wp2_with fail
 refine (HF.out _).mono ?_
 rintro e w1 ⟨rfl,b1⟩
 have hl:=keep b1 (new1of2 w l.box zero.box)
 have hr:=keep b1 (new2 w l.box zero.box)
 obtain ⟨c0,c1,c2,c3,c4⟩:=Lv.cells hl
 obtain ⟨f0,f1,f2,f3,f4⟩:=Lv.frees hl
 have B1:=hid ((below_two w l.box zero.box).trans (b1.mono (by simp; omega)))
 have HL:=hid hl
 have HR:=hid hr
 clear hl hr b1
 dsimp only [Lv.val]
 go_wp2_with fail
 have h2:=put5_self HL.out F
 have r2:=put5_other HR.out F (b:=w.heap.size) (by omega)
 have b2:=put5_below B1.out (Nat.le_refl _) F
 show Calls Tryz.prog _ _ (put5 w1 w.heap.size F) _
 generalize put5 w1 w.heap.size F=W2 at h2 r2 b2 ⊢
 refine (HW.out _).mono ?_
 clear c0 c1 c2 c3 c4 f0 f1 f2 f3 f4 HL HR B1
 rintro e w3 ⟨rfl,b3⟩
 obtain ⟨c0,c1,c2,c3,c4⟩:=Lv.cells (keep b3 h2)
 obtain ⟨d0,d1,d2,d3,d4⟩:=Lv.cells (keep b3 r2)
 obtain ⟨f0,f1,f2,f3,f4⟩:=Lv.frees (keep b3 r2)
 have HR:=hid (keep b3 r2)
 have HB:=hid (b2.trans (b3.mono b2.size))
 clear h2 r2 b2 b3
 cases x
 ·go_wp2_with fail
  have h5:=put5_self HR.out zero
  have b5:=put5_below HB.out (B:=w.heap.size + 1) (by omega) zero
  generalize hW:(((((w3.setCell ⟨w.heap.size + 1,0,none⟩ (.int .i64 0)).setCell ⟨w.heap.size + 1,1,none⟩ (.int .i64 0)).setCell ⟨w.heap.size + 1,2,none⟩ (.int .i64 0)).setCell ⟨w.heap.size + 1,3,none⟩ (.int .i64 0)).setCell ⟨w.heap.size + 1,4,none⟩ (.int .i64 0))=W4
  rw [show put5 w3 (w.heap.size + 1) zero=W4 from hW] at h5 b5
  obtain ⟨e0,e1,e2,e3,e4⟩:=Lv.cells h5
  exact bodyPost_ret (v:=.tuple #[.agg #[.int .i64 0,.int .i64 0,.int .i64 0,.int .i64 0,.int .i64 0],.int .i64 4]) (by simp [results,Tryz.results136,go_sem,e0,e1,e2,e3,e4,zero]) rfl ⟨rfl,b5⟩
 ·go_wp2_with fail
  have h5:=put5_self HR.out F
  have b5:=put5_below HB.out (B:=w.heap.size + 1) (by omega) F
  generalize hW:(((((w3.setCell ⟨w.heap.size + 1,0,none⟩ (.int .i64 F.c)).setCell ⟨w.heap.size + 1,1,none⟩ (.int .i64 F.p0)).setCell ⟨w.heap.size + 1,2,none⟩ (.int .i64 F.p1)).setCell ⟨w.heap.size + 1,3,none⟩ (.int .i64 F.p2)).setCell ⟨w.heap.size + 1,4,none⟩ (.int .i64 F.p3))=W4
  rw [show put5 w3 (w.heap.size + 1) F=W4 from hW] at h5 b5
  obtain ⟨e0,e1,e2,e3,e4⟩:=Lv.cells h5
  exact bodyPost_ret (v:=.tuple #[.agg #[.int .i64 F.c,.int .i64 F.p0,.int .i64 F.p1,.int .i64 F.p2,.int .i64 F.p3],.int .i64 0]) (by simp [results,Tryz.results136,go_sem,e0,e1,e2,e3,e4]) rfl ⟨rfl,b5⟩
end Go.Proofs.YtmngddomnaaedaaGreat
namespace Go.Proofs.YtmngddomnaaedaaGreat
open Go.RowKit Go.Shelf Lvl
theorem Lvl.eq_arr (d:Nat) (a0 a1 a2 a3 b0 b1 b2 b3:Int) (w:World) :
 (Op.equalIn (d + 2) 33 (.agg #[.int .i64 a0,.int .i64 a1,.int .i64 a2,.int .i64 a3]) (.agg #[.int .i64 b0,.int .i64 b1,.int .i64 b2,.int .i64 b3])).run Tryz.prog w=.ok (a0 == b0 && a1 == b1 && a2 == b2 && a3 == b3) w:=by
 obtain ⟨i,hi⟩:∃ i,Tryz.prog.info? 3=some i:=⟨_,rfl⟩
 have hc:Tryz.prog.cellsOf 3=1:=by kernel_rfl
 rw [run_equalIn_array w (d + 1) _ _ Tryz.underlying33 hi,hc]
 have h (x y:Int) (w:World):=run_equalIn_int (P:=Tryz.prog) w d 3 .i64 .i64 x y Tryz.underlying3
 simp only [List.range,List.range.loop,Op.eqItems]
 simp [go_sem,h]
 by_cases h0:a0=b0 <;> by_cases h1:a1=b1 <;> by_cases h2:a2=b2 <;> by_cases h3:a3=b3 <;> simp [h0,h1,h2,h3]
theorem Lvl.undrew {W w1:World} {n:Nat} (h:Below n W.drew w1):Below n W w1:=(show Below n W W.drew from (Below.refl n W).drew).trans h
def Lvl.Lv.may (l:Lv):Bool:=l.within && (l.c == l.form.c)
theorem may_any (l:Lv) (w:World) :
 Calls Tryz.prog 130 #[l.val] w fun e w'=>e=.returned (.bool l.may)∧Below w.heap.size w w':=by
 have hwith:=fun w=>within_any l w
 have hform:=fun w=>inForm_any l w
 unfold Lv.may
 have hL:=World.alloc_heap_new w l.box
 have HL:=hid hL
 clear hL
 cases hw:l.within
 ·rw [hw] at hwith
  have HW:=hid hwith
  clear hform hwith hw
  unfold Lv.val
  go_enter Tryz.func130,Tryz.ntmps130
  go_wp2_with fail
  obtain ⟨c0,c1,c2,c3,c4⟩:=Lv.cells HL.out
  refine wp_region_held_drew (S:=(fun w'=>w'.cell? ⟨w.heap.size,0,none⟩=some (.int .i64 l.c)∧w'.cell? ⟨w.heap.size,1,none⟩=some (.int .i64 l.p0)∧w'.cell? ⟨w.heap.size,2,none⟩=some (.int .i64 l.p1)∧w'.cell? ⟨w.heap.size,3,none⟩=some (.int .i64 l.p2)∧w'.cell? ⟨w.heap.size,4,none⟩=some (.int .i64 l.p3))) (by kernel_rfl) (⟨c0,c1,c2,c3,c4⟩) (fun hHeld=>?_)
  refine wpAnyH_take (i:=0) (v:=?va0) rfl (by kernel_rfl) (by kernel_rfl) (by kernel_rfl) (fun _ _ _ h=>h) (Or.inl ⟨by rfl,?hya0⟩) (by assumption) ?resta0
  case hya0=>(intro w hSw; (try dsimp only at hSw); go_simp <;> with_reducible rfl)
  try simp only [zqT,zqZ,Act.put,zqB,zq0,zq1]
  refine wpAnyH_ready (rs:=[1]) (by kernel_rfl) (by simp) ?_
  refine AllReadyH.cons rfl (fun K hK=>?_) AllReadyH.nil
  go_simp
  refine (HW.out _).mono ?_
  rintro e w1 ⟨rfl,b1⟩
  have K1:=hid (keep b1 HL.out)
  have B1:=hid b1
  clear b1
  dsimp only
  refine hK.out _ _ (Lv.cells K1.out) (fun hHeld=>?_)
  clear hK K
  try simp only [zqT,zqS,zqZ,Act.put,zqB,zq0,zq1]
  refine wpAnyH_take (i:=2) (v:=?va2) rfl (by kernel_rfl) (by kernel_rfl) (by kernel_rfl) (fun _ _ _ h=>h) (Or.inl ⟨by rfl,?hya2⟩) (by assumption) ?resta2
  case hya2=>(intro w hSw; (try dsimp only at hSw); go_simp <;> with_reducible rfl)
  try simp only [zqT,zqS,zqZ,Act.put,zqB,zq0,zq1]
  refine wpAnyH_take (i:=3) (v:=undef) rfl (by kernel_rfl) (by kernel_rfl) (by kernel_rfl) (fun _ _ _ h=>h) (Or.inr ⟨by rfl,rfl⟩) (by assumption) ?_
  try simp only [zqT,zqS,zqZ,Act.put,zqB,zq0,zq1]
  refine wpAnyH_take (i:=4) (v:=undef) rfl (by kernel_rfl) (by kernel_rfl) (by kernel_rfl) (fun _ _ _ h=>h) (Or.inr ⟨by rfl,rfl⟩) (by assumption) ?_
  try simp only [zqT,zqS,zqZ,Act.put,zqB,zq0,zq1]
  refine wpAnyH_take (i:=5) (v:=undef) rfl (by kernel_rfl) (by kernel_rfl) (by kernel_rfl) (fun _ _ _ h=>h) (Or.inr ⟨by rfl,rfl⟩) (by assumption) ?_
  try simp only [zqT,zqS,zqZ,Act.put,zqB,zq0,zq1]
  refine wpAnyH_take (i:=6) (v:=undef) rfl (by kernel_rfl) (by kernel_rfl) (by kernel_rfl) (fun _ _ _ h=>h) (Or.inr ⟨by rfl,rfl⟩) (by assumption) ?_
  try simp only [zqT,zqS,zqZ,Act.put,zqB,zq0,zq1]
  refine wpAnyH_take (i:=7) (v:=?va7) rfl (by kernel_rfl) (by kernel_rfl) (by kernel_rfl) (fun _ _ _ h=>h) (Or.inl ⟨by rfl,?hya7⟩) (by assumption) ?resta7
  case hya7=>(intro w hSw; (try dsimp only at hSw); go_simp <;> with_reducible rfl)
  try simp only [zqT,zqS,zqZ,Act.put,zqB,zq0,zq1]
  refine wpAnyH_take (i:=8) (v:=?va8) rfl (by kernel_rfl) (by kernel_rfl) (by kernel_rfl) (fun _ _ _ h=>h) (Or.inl ⟨by rfl,?hya8⟩) (by assumption) ?resta8
  case hya8=>(intro w hSw; (try dsimp only at hSw); go_simp <;> with_reducible rfl)
  try simp only [zqT,zqS,zqZ,Act.put,zqB,zq0,zq1]
  refine wpAnyH_done (by kernel_rfl) ?_ _
  go_wp2
  go_ret
  exact ⟨rfl,(below_one w l.box).trans ((undrew B1.out).mono (by simp))⟩
 ·rw [hw] at hwith
  obtain ⟨F,hF⟩:∃ F,F=l.form:=⟨_,rfl⟩
  rw [← hF] at hform ⊢
  have hF2:(l.p0 == F.p0)=true∧(l.p1 == F.p1)=true∧(l.p2 == F.p2)=true∧(l.p3 == F.p3)=true:=by rw [hF]; simp [Lv.form]
  obtain ⟨q0,q1,q2,q3⟩:=hF2
  have harr:∀ w,(Op.equalIn 9999 33 (.agg #[.int .i64 l.p0,.int .i64 l.p1,.int .i64 l.p2,.int .i64 l.p3]) (.agg #[.int .i64 F.p0,.int .i64 F.p1,.int .i64 F.p2,.int .i64 F.p3])).run Tryz.prog w=.ok true w:=by
   intro w
   refine (eq_arr 9997 _ _ _ _ _ _ _ _ w).trans ?_
   rw [q0,q1,q2,q3]; rfl
  clear q0 q1 q2 q3
  have HW:=hid hwith
  have HF:=hid hform
  clear hform hwith hw hF
  unfold Lv.val
  go_enter Tryz.func130,Tryz.ntmps130
  go_wp2_with fail
  obtain ⟨c0,c1,c2,c3,c4⟩:=Lv.cells HL.out
  refine wp_region_held_drew (S:=(fun w'=>w'.cell? ⟨w.heap.size,0,none⟩=some (.int .i64 l.c)∧w'.cell? ⟨w.heap.size,1,none⟩=some (.int .i64 l.p0)∧w'.cell? ⟨w.heap.size,2,none⟩=some (.int .i64 l.p1)∧w'.cell? ⟨w.heap.size,3,none⟩=some (.int .i64 l.p2)∧w'.cell? ⟨w.heap.size,4,none⟩=some (.int .i64 l.p3))) (by kernel_rfl) (⟨c0,c1,c2,c3,c4⟩) (fun hHeld=>?_)
  refine wpAnyH_take (i:=0) (v:=?vb0) rfl (by kernel_rfl) (by kernel_rfl) (by kernel_rfl) (fun _ _ _ h=>h) (Or.inl ⟨by rfl,?hyb0⟩) (by assumption) ?restb0
  case hyb0=>(intro w hSw; (try dsimp only at hSw); go_simp <;> with_reducible rfl)
  try simp only [zqT,zqZ,Act.put,zqB,zq0,zq1]
  refine wpAnyH_ready (rs:=[1]) (by kernel_rfl) (by simp) ?_
  refine AllReadyH.cons rfl (fun K hK=>?_) AllReadyH.nil
  go_simp
  refine (HW.out _).mono ?_
  rintro e w1 ⟨rfl,b1⟩
  have K1:=hid (keep b1 HL.out)
  have B1:=hid b1
  clear b1
  dsimp only
  refine hK.out _ _ (Lv.cells K1.out) (fun hHeld=>?_)
  clear hK K
  try simp only [zqT,zqS,zqZ,Act.put,zqB,zq0,zq1]
  refine wpAnyH_take (i:=2) (v:=?vb2) rfl (by kernel_rfl) (by kernel_rfl) (by kernel_rfl) (fun _ _ _ h=>h) (Or.inl ⟨by rfl,?hyb2⟩) (by assumption) ?restb2
  case hyb2=>(intro w hSw; (try dsimp only at hSw); go_simp <;> with_reducible rfl)
  try simp only [zqT,zqS,zqZ,Act.put,zqB,zq0,zq1]
  refine wpAnyH_take (i:=3) (v:=?vb3) rfl (by kernel_rfl) (by kernel_rfl) (by kernel_rfl) (fun _ _ _ h=>h) (Or.inl ⟨by rfl,?hyb3⟩) (by assumption) ?restb3
  case hyb3=>(intro w hSw; (try dsimp only at hSw); go_simp <;> with_reducible rfl)
  try simp only [zqT,zqS,zqZ,Act.put,zqB,zq0,zq1]
  refine wpAnyH_take (i:=4) (v:=?vb4) rfl (by kernel_rfl) (by kernel_rfl) (by kernel_rfl) (fun _ _ _ h=>h) (Or.inl ⟨by rfl,?hyb4⟩) (by assumption) ?restb4
  case hyb4=>(intro w hSw; (try dsimp only at hSw); go_simp <;> with_reducible rfl)
  try simp only [zqT,zqS,zqZ,Act.put,zqB,zq0,zq1]
  refine wpAnyH_ready (rs:=[5]) (by kernel_rfl) (by simp) ?_
  refine AllReadyH.cons rfl (fun K hK=>?_) AllReadyH.nil
  go_simp
  refine (HF.out _).mono ?_
  rintro e w2 ⟨rfl,b2⟩
  have K2:=hid (keep b2 K1.out)
  have B2:=hid b2
  clear b2
  dsimp only [Lv.val]
  refine hK.out _ _ (Lv.cells K2.out) (fun hHeld=>?_)
  clear hK K
  try simp only [zqT,zqS,zqZ,Act.put,zqB,zq0,zq1]
  refine wpAnyH_take (i:=6) (v:=.bool (l.c == F.c)) rfl (by kernel_rfl) (by kernel_rfl) (by kernel_rfl) (fun _ _ _ h=>h) (Or.inl ⟨by rfl,?hyb6⟩) (by assumption) ?restb6
  case hyb6=>(intro w hSw; (try dsimp only at hSw); go_simp; by_cases h:l.c=F.c <;> simp [h])
  try simp only [zqT,zqS,zqZ,Act.put,zqB,zq0,zq1]
  refine wpAnyH_take (i:=7) (v:=?vb7) rfl (by kernel_rfl) (by kernel_rfl) (by kernel_rfl) (fun _ _ _ h=>h) (Or.inl ⟨by rfl,?hyb7⟩) (by assumption) ?restb7
  case hyb7=>(intro w hSw; (try dsimp only at hSw); go_simp <;> with_reducible rfl)
  try simp only [zqT,zqS,zqZ,Act.put,zqB,zq0,zq1]
  refine wpAnyH_take (i:=8) (v:=?vb8) rfl (by kernel_rfl) (by kernel_rfl) (by kernel_rfl) (fun _ _ _ h=>h) (Or.inl ⟨by rfl,?hyb8⟩) (by assumption) ?restb8
  case hyb8=>(intro w hSw; (try dsimp only at hSw); go_simp <;> with_reducible rfl)
  try simp only [zqT,zqS,zqZ,Act.put,zqB,zq0,zq1]
  refine wpAnyH_done (by kernel_rfl) ?_ _
  go_wp2
  go_ret
  exact ⟨by simp,(below_one w l.box).trans (((undrew B1.out).trans (B2.out.mono B1.out.size)).mono (by simp))⟩
end Go.Proofs.YtmngddomnaaedaaGreat
namespace Go.Proofs.YtmngddomnaaedaaGreat
open Lvl
namespace Trm
inductive Tm where
 | mk (k n:Int) (s:ByteArray) (ls:List Lv) (ts:List Tm)
def Tm.k:Tm→Int | .mk k _ _ _ _=>k
def Tm.n:Tm→Int | .mk _ n _ _ _=>n
def Tm.s:Tm→ByteArray | .mk _ _ s _ _=>s
def Tm.ls:Tm→List Lv | .mk _ _ _ ls _=>ls
def Tm.ts:Tm→List Tm | .mk _ _ _ _ ts=>ts
theorem Tm.eta (t:Tm):t=.mk t.k t.n t.s t.ls t.ts:=by cases t; rfl
theorem Tm.ind {P:Tm→Prop} (h:∀ t:Tm,(∀ x ∈ t.ts,P x)→P t):∀ t,P t:=by
 intro t
 induction hn:SizeOf.sizeOf t using Nat.strongRecOn generalizing t with
 | _ n ih =>
   refine h t fun x hx=>ih (SizeOf.sizeOf x) ?_ x rfl
   cases t with
   | mk k m s ls ts =>
     have:=List.sizeOf_lt_of_mem (show x ∈ ts from hx)
     subst hn
     simp
     omega
mutual
def Tm.size:Tm→Int
 | .mk _ _ _ _ ts=>1 + sizeL ts
def sizeL:List Tm→Int
 | []=>0
 | t :: r=>t.size + sizeL r
end
mutual
def Tm.left (bad:Tm→Bool):Tm→Int→Int→Int
 | .mk k n s ls ts,l,d=>if l - 1 < 0∨d≤0∨bad (.mk k n s ls ts)=true then -1 else leftL bad ts (l - 1) (d - 1)
def leftL (bad:Tm→Bool):List Tm→Int→Int→Int
 | [],l,_=>l
 | t :: r,l,d=>if t.left bad l d < 0 then -1 else leftL bad r (t.left bad l d) d
end
def kids (k:Int):Int:=if k=1∨k=2∨k=3 then 0 else if k=4∨k=5∨k=6 then 2 else if k=7 then 3 else if k=8 then 1 else -1
def inNameI (x:Int):Bool:=decide ((97≤x∧x≤122)∨(65≤x∧x≤90)∨(48≤x∧x≤57)∨x=95∨x=46∨x=39)
def inName (c:UInt8):Bool:=inNameI c.toNat
def nameOk (s:ByteArray):Bool:=decide (1≤s.size) && decide (s.size≤32) && s.data.toList.all inName
def Tm.node (t:Tm):Bool :=
 decide (0≤kids t.k) && decide ((t.ts.length:Int)=kids t.k) && t.ls.all Lv.may &&
 (if t.k=3∨t.k=8 then nameOk t.s else decide (t.s.size=0)) &&
 (if t.k=2 then decide (0≤t.n∧t.n≤1048576) else if t.k=8 then decide (0≤t.n∧t.n < 12) else decide (t.n=0)) &&
 (if t.k=1 then decide (t.ls.length=1) else if t.k=3 then decide (t.ls.length≤4) else decide (t.ls.length=0))
def Tm.may (t:Tm):Bool:=decide (0≤t.left (fun x=>!x.node) 65536 4096)
def Tm.deep (t:Tm):Bool:=decide (t.left (fun x=>decide (20 < x.ls.length)) 131072 8192 < 0)
def binds (k:Int):Bool:=decide (k=5∨k=6∨k=7)
def under (k:Int) (i:Nat) (u:Int):Int:=if binds k=true∧(i:Int)=kids k - 1 then u + 1 else u
mutual
def Tm.walk {σ:Type} (see:σ→Tm→Int→Int→σ × Bool):Tm→σ→Int→Int→σ × Bool
 | .mk k n s ls ts,st,d,u =>
   if (see st (.mk k n s ls ts) d u).2=true then walkL see k ts 0 (see st (.mk k n s ls ts) d u).1 (d + 1) u else ((see st (.mk k n s ls ts) d u).1,false)
def walkL {σ:Type} (see:σ→Tm→Int→Int→σ × Bool) (k:Int):List Tm→Nat→σ→Int→Int→σ × Bool
 | [],_,st,_,_=>(st,true)
 | t :: r,i,st,d,u =>
   if (t.walk see st d (under k i u)).2=true then walkL see k r (i + 1) (t.walk see st d (under k i u)).1 d (under k i u) else ((t.walk see st d (under k i u)).1,false)
end
theorem Tm.walk_eq {σ:Type} (see:σ→Tm→Int→Int→σ × Bool) (t:Tm) (st:σ) (d u:Int) :
 t.walk see st d u=if (see st t d u).2=true then walkL see t.k t.ts 0 (see st t d u).1 (d + 1) u else ((see st t d u).1,false):=by
 cases t; rw [Tm.walk]; rfl
theorem Tm.left_eq (bad:Tm→Bool) (t:Tm) (l d:Int):t.left bad l d=if l - 1 < 0∨d≤0∨bad t=true then -1 else leftL bad t.ts (l - 1) (d - 1):=by
 cases t; rw [Tm.left]; rfl
theorem Tm.left_ge (bad:Tm→Bool) (t:Tm):∀ l d,-1≤t.left bad l d∧t.left bad l d < max l 0:=by
 induction t using Tm.ind with
 | h t ih =>
   intro l d
   rw [Tm.left_eq]
   split
   ·omega
   ·rename_i hc
    have key:∀ ts:List Tm,(∀ x ∈ ts,∀ l d,-1≤x.left bad l d∧x.left bad l d < max l 0)→∀ l d,0≤l→-1≤leftL bad ts l d∧leftL bad ts l d≤l:=by
     intro ts
     induction ts with
     | nil=>intro _ l d hl; rw [leftL]; omega
     | cons t r ihr =>
       intro hx l d hl
       rw [leftL]
       have h1:=hx t (by simp) l d
       split
       ·omega
       ·have:=ihr (fun x hx'=>hx x (by simp [hx'])) (t.left bad l d) d (by omega)
        omega
    have:=key t.ts ih (l - 1) (d - 1) (by omega)
    omega
theorem Tm.left_size (bad:Tm→Bool) (t:Tm):∀ l d,0≤t.left bad l d→t.left bad l d=l - t.size:=by
 induction t using Tm.ind with
 | h t ih =>
   intro l d h
   have key:∀ ts:List Tm,(∀ x ∈ ts,∀ l d,0≤x.left bad l d→x.left bad l d=l - x.size)→∀ l d,0≤leftL bad ts l d→leftL bad ts l d=l - sizeL ts:=by
    intro ts
    induction ts with
    | nil=>intro _ l d _; rw [leftL,sizeL]; omega
    | cons t r ihr =>
      intro hx l d hl
      rw [leftL] at hl ⊢
      rw [sizeL]
      split at hl
      ·omega
      ·rename_i hc
       rw [if_neg hc]
       have h1:=hx t (by simp) l d (by omega)
       have:=ihr (fun x hx'=>hx x (by simp [hx'])) _ d hl
       omega
   rw [Tm.left_eq] at h ⊢
   split at h
   ·omega
   ·rename_i hc
    rw [if_neg hc]
    have:=key t.ts ih _ _ h
    have e:t.size=1 + sizeL t.ts:=by cases t; rw [Tm.size]; rfl
    omega
end Trm
end Go.Proofs.YtmngddomnaaedaaGreat
namespace Go.Proofs.YtmngddomnaaedaaGreat
open Go.RowKit Go.Shelf Lvl
def Lvl.LAt (w:World) (b o:Nat) (l:Lv):Prop :=
 w.cell? ⟨b,o,none⟩=some (.int .i64 l.c)∧w.cell? ⟨b,o + 1,none⟩=some (.int .i64 l.p0)∧w.cell? ⟨b,o + 2,none⟩=some (.int .i64 l.p1)∧w.cell? ⟨b,o + 3,none⟩=some (.int .i64 l.p2)∧w.cell? ⟨b,o + 4,none⟩=some (.int .i64 l.p3)
structure Lvl.LRow (w:World) (ao:Option Addr) (ls:List Lv):Prop where
 place:∀ k (h:k < ls.length),∃ b off,ao=some ⟨b,off,none⟩∧LAt w b (off + k * 5) ls[k]
theorem Lvl.LAt.below {w0 w1:World} {b o B:Nat} {l:Lv} (h:LAt w0 b o l) (g:Below B w0 w1) (hb:b < B):LAt w1 b o l:=by
 obtain ⟨h0,h1,h2,h3,h4⟩:=h
 exact ⟨(g.cell (p:=⟨b,_,none⟩) hb).trans h0,(g.cell (p:=⟨b,_,none⟩) hb).trans h1,(g.cell (p:=⟨b,_,none⟩) hb).trans h2,(g.cell (p:=⟨b,_,none⟩) hb).trans h3,(g.cell (p:=⟨b,_,none⟩) hb).trans h4⟩
theorem Lvl.LRow.below {w0 w1:World} {ao:Option Addr} {ls:List Lv} (h:LRow w0 ao ls) (g:Below w0.heap.size w0 w1):LRow w1 ao ls:=by
 refine ⟨fun k hk=>?_⟩
 obtain ⟨b,off,hao,ha⟩:=h.place k hk
 exact ⟨b,off,hao,ha.below g (World.block_lt_of_cell? w0 _ ha.1)⟩
def Lvl.AllRel (w:World) (ls:List Lv) (i:Value) (wr:World):Prop :=
 ∃ k:Nat,i=.int .i64 k∧k≤ls.length∧(ls.take k).all Lv.may=true∧Below w.heap.size w wr
theorem Lvl.all_take_no {ls:List Lv} {k:Nat} (hk:k < ls.length) (h:(ls[k]).may=false):ls.all Lv.may=false:=by
 rw [List.all_eq_false]
 exact ⟨ls[k],List.getElem_mem hk,by simp [h]⟩
theorem Lvl.all_take_yes {ls:List Lv} {k:Nat} (hk:k < ls.length) (ht:(ls.take k).all Lv.may=true) (h:(ls[k]).may=true):(ls.take (k + 1)).all Lv.may=true:=by
 rw [List.take_succ_eq_append_getElem hk,List.all_append,ht]
 simp [h]
theorem allMay_any (ao:Option Addr) (cap:Nat) (ls:List Lv) (w:World) (hr:LRow w ao ls) (hn:ls.length≤9000000000000000000) :
 Calls Tryz.prog 131 #[.slice ao ls.length cap] w fun e w'=>e=.returned (.bool (ls.all Lv.may))∧Below w.heap.size w w':=by
 have HR:=hid hr
 clear hr
 go_enter Tryz.func131,Tryz.ntmps131
 go_wp2
 go_loopw [7] (fun i wr=>AllRel w ls i wr) (fun i _=>ls.length - (intOf i).toNat)
 case atStart=>exact ⟨0,rfl,Nat.zero_le _,rfl,Below.refl _ _⟩
 case round =>
  obtain ⟨k,rfl,hk,hall,hbel⟩:=hrel
  have HA:=hid hall
  have HB:=hid hbel
  clear hall hbel
  by_cases hlt:k < ls.length
  ·obtain ⟨b,off,hao,c0,c1,c2,c3,c4⟩:=(HR.out.below HB.out).place k hlt
   subst hao
   obtain ⟨x,hx⟩:∃ x,x=ls[k]:=⟨_,rfl⟩
   rw [← hx] at c0 c1 c2 c3 c4
   have hmay:=fun w=>may_any x w
   cases hm:x.may
   ·rw [hm] at hmay
    have HM:=hid hmay
    have HF:=hid (all_take_no hlt (by rw [← hx]; exact hm))
    clear hmay hm hx
    go_wp2_with fail
    refine (HM.out _).mono ?_
    rintro e w1 ⟨rfl,b1⟩
    go_wp2_with fail
    go_ret
    exact ⟨by rw [HF.out]; rfl,(HB.out.alloc HB.out.size _).trans (b1.mono (by have:=HB.out.size; simp; omega))⟩
   ·rw [hm] at hmay
    have HM:=hid hmay
    have HF:=hid (all_take_yes hlt HA.out (by rw [← hx]; exact hm))
    clear hmay hm hx
    go_wp2_with fail
    refine (HM.out _).mono ?_
    rintro e w1 ⟨rfl,b1⟩
    have HB1:=hid ((HB.out.alloc HB.out.size x.box).trans (b1.mono (by have:=HB.out.size; simp; omega)))
    clear b1
    go_wp2_with fail
    go_roundw
    case rel=>exact ⟨k + 1,by go_num,by omega,HF.out,HB1.out⟩
    case measure=>simp [intOf]; omega
  ·obtain rfl:k=ls.length:=by omega
   clear hlt
   go_wp2_with fail
   go_ret
   exact ⟨by rw [← HA.out,List.take_length]; rfl,HB.out⟩
end Go.Proofs.YtmngddomnaaedaaGreat
namespace Go.Proofs.YtmngddomnaaedaaGreat
open Go.RowKit Go.Shelf Lvl
namespace Trm
structure Hd where
 lo:Option Addr
 lc:Nat
 to:Option Addr
 tc:Nat
def Tm.vals (t:Tm) (h:Hd):Array Value:=#[.int .u8 t.k,.int .i64 t.n,.string t.s,.slice h.lo t.ls.length h.lc,.slice h.to t.ts.length h.tc]
def Tm.val (t:Tm) (h:Hd):Value:=.agg (t.vals h)
def Tm.box (t:Tm) (h:Hd):Obj:=.cells (t.vals h) 25
structure Tm.Fit (t:Tm):Prop where
 k0:0≤t.k
 k1:t.k≤255
 n0:-9223372036854775808≤t.n
 n1:t.n≤9223372036854775807
 s:t.s.size≤9223372036854775807
 ls:t.ls.length≤9223372036854775807
 ts:t.ts.length≤9223372036854775807
structure TCells (w:World) (b o:Nat) (t:Tm) (h:Hd):Prop where
 c0:w.cell? ⟨b,o,none⟩=some (.int .u8 t.k)
 c1:w.cell? ⟨b,o + 1,none⟩=some (.int .i64 t.n)
 c2:w.cell? ⟨b,o + 2,none⟩=some (.string t.s)
 c3:w.cell? ⟨b,o + 3,none⟩=some (.slice h.lo t.ls.length h.lc)
 c4:w.cell? ⟨b,o + 4,none⟩=some (.slice h.to t.ts.length h.tc)
def Low (B:Nat) (ao:Option Addr) (n:Nat):Prop:=0 < n→∀ a,ao=some a→a.block < B
mutual
def Tm.In (B:Nat) (w:World):Tm→Hd→Prop
 | .mk k n s ls ts,h=>Tm.Fit (.mk k n s ls ts)∧LRow w h.lo ls∧Low B h.lo ls.length∧RowIn B w h.to 0 ts∧ls.length≤h.lc
def RowIn (B:Nat) (w:World) (ao:Option Addr):Nat→List Tm→Prop
 | _,[]=>True
 | i,t :: r=>(∃ b off h,ao=some ⟨b,off,none⟩∧b < B∧TCells w b (off + i * 5) t h∧Tm.In B w t h)∧RowIn B w ao (i + 1) r
end
def TAt (B:Nat) (w:World) (b o:Nat) (t:Tm):Prop:=b < B∧∃ h,TCells w b o t h∧t.In B w h
theorem Tm.In_iff {B:Nat} {w:World} {t:Tm} {h:Hd}:t.In B w h ↔ t.Fit∧LRow w h.lo t.ls∧Low B h.lo t.ls.length∧RowIn B w h.to 0 t.ts∧t.ls.length≤h.lc:=by
 cases t; rw [Tm.In]; exact Iff.rfl
theorem Tm.In.fit {B:Nat} {w:World} {t:Tm} {h:Hd} (g:t.In B w h):t.Fit:=(Tm.In_iff.1 g).1
theorem Tm.In.room {B:Nat} {w:World} {t:Tm} {h:Hd} (g:t.In B w h):t.ls.length≤h.lc:=(Tm.In_iff.1 g).2.2.2.2
theorem Tm.In.levels {B:Nat} {w:World} {t:Tm} {h:Hd} (g:t.In B w h):LRow w h.lo t.ls:=(Tm.In_iff.1 g).2.1
theorem RowIn.place {B:Nat} {w:World} {ao:Option Addr}:∀ {ts:List Tm} {i:Nat},RowIn B w ao i ts→∀ k (hk:k < ts.length),∃ b off,ao=some ⟨b,off,none⟩∧TAt B w b (off + (i + k) * 5) ts[k]
 | [],_,_,k,hk=>absurd hk (by simp)
 | t :: r,i,g,0,_=>by
   rw [RowIn] at g
   obtain ⟨⟨b,off,h,hao,hb,hc,hi⟩,_⟩:=g
   exact ⟨b,off,hao,hb,h,hc,hi⟩
 | t :: r,i,g,k + 1,hk=>by
   rw [RowIn] at g
   obtain ⟨b,off,hao,hat⟩:=RowIn.place g.2 k (by simpa using hk)
   refine ⟨b,off,hao,?_⟩
   rwa [show i + 1 + k=i + (k + 1) by omega] at hat
theorem RowIn.mk {B:Nat} {w:World} {ao:Option Addr}:∀ {ts:List Tm} {i:Nat},(∀ k (hk:k < ts.length),∃ b off,ao=some ⟨b,off,none⟩∧TAt B w b (off + (i + k) * 5) ts[k])→RowIn B w ao i ts
 | [],_,_=>by rw [RowIn]; trivial
 | t :: r,i,g=>by
   rw [RowIn]
   refine ⟨?_,RowIn.mk fun k hk=>?_⟩
   ·obtain ⟨b,off,hao,hb,h,hc,hi⟩:=g 0 (by simp)
    exact ⟨b,off,h,hao,hb,hc,hi⟩
   ·obtain ⟨b,off,hao,hat⟩:=g (k + 1) (by simpa using hk)
    refine ⟨b,off,hao,?_⟩
    rwa [show i + 1 + k=i + (k + 1) by omega]
theorem Tm.In.kid {B:Nat} {w:World} {t:Tm} {h:Hd} (g:t.In B w h) (k:Nat) (hk:k < t.ts.length):∃ b off,h.to=some ⟨b,off,none⟩∧TAt B w b (off + k * 5) t.ts[k]:=by
 obtain ⟨b,off,hao,hat⟩:=(Tm.In_iff.1 g).2.2.2.1.place k hk
 exact ⟨b,off,hao,by simpa using hat⟩
theorem TCells.below {B:Nat} {w w1:World} {b o:Nat} {t:Tm} {h:Hd} (c:TCells w b o t h) (g:Below B w w1) (hb:b < B):TCells w1 b o t h :=
 ⟨(g.cell (p:=⟨b,_,none⟩) hb).trans c.c0,(g.cell (p:=⟨b,_,none⟩) hb).trans c.c1,(g.cell (p:=⟨b,_,none⟩) hb).trans c.c2,(g.cell (p:=⟨b,_,none⟩) hb).trans c.c3,(g.cell (p:=⟨b,_,none⟩) hb).trans c.c4⟩
theorem LRow.low {B:Nat} {w0 w1:World} {ao:Option Addr} {ls:List Lv} (h:LRow w0 ao ls) (hl:Low B ao ls.length) (g:Below B w0 w1):LRow w1 ao ls:=by
 refine ⟨fun k hk=>?_⟩
 obtain ⟨b,off,hao,ha⟩:=h.place k hk
 exact ⟨b,off,hao,ha.below g (hl (by omega) _ hao)⟩
theorem Tm.In.below {B:Nat} {w w1:World} (g:Below B w w1) (t:Tm):∀ h,t.In B w h→t.In B w1 h:=by
 induction t using Tm.ind with
 | h t ih =>
   intro h hi
   obtain ⟨h1,h2,h3,h4⟩:=Tm.In_iff.1 hi
   refine Tm.In_iff.2 ⟨h1,LRow.low h2 h3 g,h3,RowIn.mk fun k hk=>?_,h4.2⟩
   obtain ⟨b,off,hao,hb,h',hc,hin⟩:=h4.1.place k hk
   exact ⟨b,off,hao,hb,h',hc.below g hb,ih _ (List.getElem_mem hk) h' hin⟩
theorem Low.mono {B B':Nat} {ao:Option Addr} {n:Nat} (h:Low B ao n) (hB:B≤B'):Low B' ao n:=fun hn a ha=>Nat.lt_of_lt_of_le (h hn a ha) hB
theorem Tm.In.mono {B B':Nat} {w:World} (hB:B≤B') (t:Tm):∀ h,t.In B w h→t.In B' w h:=by
 induction t using Tm.ind with
 | h t ih =>
   intro h hi
   obtain ⟨h1,h2,h3,h4⟩:=Tm.In_iff.1 hi
   refine Tm.In_iff.2 ⟨h1,h2,h3.mono hB,RowIn.mk fun k hk=>?_,h4.2⟩
   obtain ⟨b,off,hao,hb,h',hc,hin⟩:=h4.1.place k hk
   exact ⟨b,off,hao,by omega,h',hc,ih _ (List.getElem_mem hk) h' hin⟩
theorem TAt.below {B:Nat} {w w1:World} {b o:Nat} {t:Tm} (h:TAt B w b o t) (g:Below B w w1):TAt B w1 b o t:=by
 obtain ⟨hb,hd,hc,hi⟩:=h
 exact ⟨hb,hd,hc.below g hb,Tm.In.below g t hd hi⟩
theorem TAt.mono {B B':Nat} {w:World} {b o:Nat} {t:Tm} (h:TAt B w b o t) (hB:B≤B'):TAt B' w b o t:=by
 obtain ⟨hb,hd,hc,hi⟩:=h
 exact ⟨by omega,hd,hc,Tm.In.mono hB t hd hi⟩
theorem Tm.cells {t:Tm} {h:Hd} {b:Nat} {w:World} (g:w.heap[b]?=some (t.box h)):TCells w b 0 t h:=by
 refine ⟨?_,?_,?_,?_,?_⟩ <;> (simp [World.cell?,g,Tm.box,Tm.vals])
end Trm
end Go.Proofs.YtmngddomnaaedaaGreat
namespace Go.Proofs.YtmngddomnaaedaaGreat
open Go.RowKit Go.Shelf Lvl Trm
theorem Trm.ret_int {a b:Int} (h:a=b):Ending.returned (.int .i64 a)=.returned (.int .i64 b):=by rw [h]
theorem Trm.drop_get {α:Type} {l:List α} {k:Nat} (h:k < l.length):l.drop k=l[k] :: l.drop (k + 1):=List.drop_eq_getElem_cons h
structure Trm.Kept (w wr:World) (o:Obj):Prop where
 bel:Below w.heap.size w wr
 box:wr.heap[w.heap.size]?=some o
theorem Trm.Kept.start (w:World) (o:Obj):Kept w (w.alloc o) o:=⟨below_one _ _,World.alloc_heap_new w o⟩
theorem Trm.Kept.step {w wr w1:World} {o:Obj} (h:Kept w wr o) (b:Below wr.heap.size wr w1):Kept w w1 o:=⟨h.bel.trans (b.mono h.bel.size),keep b h.box⟩
theorem Trm.Kept.more {w wr:World} {o:Obj} (h:Kept w wr o) (x:Obj):Kept w (wr.alloc x) o:=h.step (below_one _ _)
def Trm.badDeep (x:Tm):Bool:=decide (20 < x.ls.length)
def Trm.LeftRel (bad:Tm→Bool) (w:World) (o:Obj) (ts:List Tm) (d G top:Int) (v i:Value) (wr:World):Prop :=
 ∃ (k:Nat) (L:Int),v=.int .i64 L∧i=.int .i64 k∧k≤ts.length∧0≤L∧L≤top∧leftL bad (ts.drop k) L d=G∧Kept w wr o
theorem deep_any (t:Tm):∀ (h:Hd) (l d:Int) (w:World),0≤l→l≤131072→-1≤d→d≤8192→t.In w.heap.size w h →
 Calls Tryz.prog 40 #[t.val h,.int .i64 l,.int .i64 d] w fun e w'=>e=.returned (.int .i64 (t.left badDeep l d))∧Below w.heap.size w w':=by
 induction t using Tm.ind with
 | h t ih =>
   intro h l d w hl0 hl1 hd0 hd1 hin
   have hfit:=hin.fit
   have hls:=hfit.ls
   have hts:=hfit.ts
   clear hfit
   have HIN:=hid hin
   have HIH:=hid ih
   clear hin ih
   unfold Tm.val Tm.vals
   by_cases h1:l - 1 < 0
   ·have hG:t.left badDeep l d=-1:=by rw [Tm.left_eq,if_pos (Or.inl h1)]
    rw [hG]
    clear hG
    go_enter Tryz.func40,Tryz.ntmps40
    go_wp2_with fail
    go_ret
    exact ⟨rfl,below_one _ _⟩
   ·by_cases h2:d≤0
    ·have hG:t.left badDeep l d=-1:=by rw [Tm.left_eq,if_pos (Or.inr (Or.inl h2))]
     rw [hG]
     clear hG
     go_enter Tryz.func40,Tryz.ntmps40
     go_wp2_with fail
     go_ret
     exact ⟨rfl,below_one _ _⟩
    ·by_cases h3:20 < t.ls.length
     ·have hG:t.left badDeep l d=-1:=by rw [Tm.left_eq,if_pos (Or.inr (Or.inr (by simpa [badDeep] using h3)))]
      rw [hG]
      clear hG
      go_enter Tryz.func40,Tryz.ntmps40
      go_wp2_with fail
      go_ret
      exact ⟨rfl,below_one _ _⟩
     ·obtain ⟨G,hG⟩:∃ G,G=t.left badDeep l d:=⟨_,rfl⟩
      rw [← hG]
      have hG':leftL badDeep (t.ts.drop 0) (l - 1) (d - 1)=G:=by
       rw [hG,Tm.left_eq,if_neg (by rintro (h | h | h) <;> first | omega | (simp [badDeep] at h; omega))]; rfl
      have HG:=hid hG'
      clear hG hG'
      go_enter Tryz.func40,Tryz.ntmps40
      go_wp2_with fail
      go_loopw [1,7] (fun v i wr=>LeftRel badDeep w (t.box h) t.ts (d - 1) G 131072 v i wr) (fun _ i _=>t.ts.length - (intOf i).toNat)
      case atStart=>exact ⟨0,l - 1,by go_num,rfl,by omega,by omega,by omega,HG.out,Kept.start _ _⟩
      case round =>
       obtain ⟨k,L,rfl,rfl,hk,hL0,hL1,hGk,hkept⟩:=hrel
       have HK:=hid hkept
       have HGk:=hid hGk
       clear hkept hGk
       obtain ⟨c0,c1,c2,c3,c4⟩:=Tm.cells HK.out.box
       by_cases hlt:k < t.ts.length
       ·obtain ⟨b,off,hao,hat⟩:=HIN.out.kid k hlt
        obtain ⟨hb,hd',⟨k0,k1,k2,k3,k4⟩,hin'⟩:=hat.below HK.out.bel
        rw [hao] at c4
        have HX:=hid (show ∀ W,t.ts[k].In W.heap.size W hd'→Calls Tryz.prog 40 #[t.ts[k].val hd',.int .i64 L,.int .i64 (d - 1)] W fun e w'=>e=.returned (.int .i64 (t.ts[k].left badDeep L (d - 1)))∧Below W.heap.size W w' from fun W hW=>HIH.out _ (List.getElem_mem hlt) hd' L (d - 1) W hL0 hL1 (by omega) (by omega) hW)
        have HI:=hid (Tm.In.mono HK.out.bel.size _ _ hin')
        have HGG:Hid ((if t.ts[k].left badDeep L (d - 1) < 0 then -1 else leftL badDeep (t.ts.drop (k + 1)) (t.ts[k].left badDeep L (d - 1)) (d - 1))=G):=by
         have:=HGk.out
         rw [drop_get hlt,leftL] at this
         exact this
        have HLE:=hid (t.ts[k].left_ge badDeep L (d - 1))
        clear hat hin' hao HGk
        generalize t.ts[k]=x at k0 k1 k2 k3 k4 HX HI HGG HLE
        unfold Tm.val Tm.vals at HX
        obtain ⟨X,hX⟩:∃ X,X=x.left badDeep L (d - 1):=⟨_,rfl⟩
        rw [← hX] at HX HGG HLE
        clear hX
        go_wp2_with fail
        refine (HX.out _ HI.out).mono ?_
        rintro e w1 ⟨rfl,b1⟩
        have HK1:=hid (HK.out.step b1)
        have hX2:=HLE.out
        clear b1 HLE k0 k1 k2 k3 k4
        by_cases hneg:X < 0
        ·have HE:Hid (-1=G):=by have:=HGG.out; rwa [if_pos hneg] at this
         go_wp2_with fail
         go_ret
         exact ⟨ret_int HE.out,HK1.out.bel⟩
        ·have HE:Hid (leftL badDeep (t.ts.drop (k + 1)) X (d - 1)=G):=by have:=HGG.out; rwa [if_neg hneg] at this
         go_wp2_with fail
         go_roundw
         case rel=>exact ⟨k + 1,X,rfl,by go_num,by omega,by omega,by omega,HE.out,HK1.out⟩
         case measure=>simp [intOf]; omega
       ·have HE:Hid (L=G):=by
         have:=HGk.out
         rw [List.drop_eq_nil_of_le (by omega),leftL] at this
         exact this
        go_wp2_with fail
        go_ret
        exact ⟨ret_int HE.out,HK.out.bel⟩
end Go.Proofs.YtmngddomnaaedaaGreat
namespace Go.Proofs.YtmngddomnaaedaaGreat
open Go.RowKit Go.Shelf Lvl
attribute [local go_sem] Oper.semAt_some
def Lvl.succ (l:Lv):Lv × Int:=if l.may=true then ans (l.plus 1) else (zero,1)
def Lvl.maxi (a b:Lv):Lv × Int:=if a.may=true∧b.may=true then ans (a.join b) else (zero,1)
theorem Lvl.may_within {l:Lv} (h:l.may=true):l.within=true:=by
 unfold Lv.may at h; simp at h; exact h.1
def Lvl.eqP (a b:Lv):Bool:=a.p0 == b.p0 && a.p1 == b.p1 && a.p2 == b.p2 && a.p3 == b.p3
def Lvl.leq (a b:Lv):Bool:=((maxi a b).2 == 0) && (((maxi a b).1.c == b.c) && eqP (maxi a b).1 b)
def Lvl.param (i:Int):Lv × Int:=if 0≤i∧i < 4 then ((number 0).put i 0,0) else (zero,1)
theorem Lvl.keepA {W:World} {k:Nat} {o:Obj} (h:W.heap[k]?=some o) (x:Obj):(W.alloc x).heap[k]?=some o:=by
 rw [Below.heap_alloc _ _ _ (Array.getElem?_eq_some_iff.1 h).1]; exact h
structure Lvl.Four where
 a0:Int
 a1:Int
 a2:Int
 a3:Int
def Lvl.Four.val (n:Four):Value:=.agg #[.int .i64 n.a0,.int .i64 n.a1,.int .i64 n.a2,.int .i64 n.a3]
def Lvl.Four.box (n:Four):Obj:=.cells #[.int .i64 n.a0,.int .i64 n.a1,.int .i64 n.a2,.int .i64 n.a3] 33
def Lvl.Four.at_ (n:Four) (i:Int):Int:=if i=0 then n.a0 else if i=1 then n.a1 else if i=2 then n.a2 else n.a3
def Lvl.Four.fits (n:Four):Bool:=decide ((0≤n.a0∧n.a0≤2199023255552)∧(0≤n.a1∧n.a1≤2199023255552)∧(0≤n.a2∧n.a2≤2199023255552)∧(0≤n.a3∧n.a3≤2199023255552))
def Lvl.atAll (n:Four) (o:Int) (pre:List (Int × Int)):Int:=pre.foldl (fun o x=>max o (n.at_ x.1 + x.2)) o
def Lvl.Lv.num (l:Lv) (n:Four):Int:=if l.may=true then if n.fits=true then atAll n l.c l.ps else 0 else 0
theorem Lvl.j1 (l:Four):∀ w,(Instr.index 33 (.agg #[.int .i64 l.a0,.int .i64 l.a1,.int .i64 l.a2,.int .i64 l.a3]) (.int .i64 1)).run Tryz.prog w=.ok (.int .i64 l.a1) w:=fun _=>by kernel_rfl
theorem Lvl.j2 (l:Four):∀ w,(Instr.index 33 (.agg #[.int .i64 l.a0,.int .i64 l.a1,.int .i64 l.a2,.int .i64 l.a3]) (.int .i64 2)).run Tryz.prog w=.ok (.int .i64 l.a2) w:=fun _=>by kernel_rfl
theorem Lvl.j3 (l:Four):∀ w,(Instr.index 33 (.agg #[.int .i64 l.a0,.int .i64 l.a1,.int .i64 l.a2,.int .i64 l.a3]) (.int .i64 3)).run Tryz.prog w=.ok (.int .i64 l.a3) w:=fun _=>by kernel_rfl
theorem Lvl.Four.cells {l:Four} {b:Nat} {w:World} (h:w.heap[b]?=some l.box) :
 w.cell? ⟨b,0,none⟩=some (.int .i64 l.a0)∧w.cell? ⟨b,1,none⟩=some (.int .i64 l.a1)∧w.cell? ⟨b,2,none⟩=some (.int .i64 l.a2)∧w.cell? ⟨b,3,none⟩=some (.int .i64 l.a3):=by
 refine ⟨?_,?_,?_,?_⟩ <;> (simp [World.cell?,h,Four.box])
end Go.Proofs.YtmngddomnaaedaaGreat
