/-
 level.Inst.
-/
import Derived.Lib.Hide
import Derived.Test.YtmngddomnaaedaaGreatQB3
open Go.Lib (hid)
set_option maxRecDepth 100000
set_option maxHeartbeats 32000000
namespace Go.Proofs.YtmngddomnaaedaaGreat
open Go.RowKit Go.Shelf Lvl
attribute [local go_sem] Oper.semAt_some
theorem Lvl.free_one {W:World} {B t:Nat} {v:Value} (h:W.heap[B]?=some (.cells #[v] t)):W.frozen? ⟨B,0,none⟩=false:=by
 simp [World.frozen?,h]
theorem Lvl.put_one {W:World} {B t:Nat} {v:Value} (h:W.heap[B]?=some (.cells #[v] t)) (u:Value):(W.setCell ⟨B,0,none⟩ u).heap[B]?=some (.cells #[u] t):=by
 simp [World.setCell,Array.getElem?_modify,h]
def Lvl.instStep (ls:List Lv) (o:Option Lv) (x:Int × Int):Option Lv :=
 match o with
 | none=>none
 | some o=>if h:x.1.toNat < ls.length then some (o.join ((ls[x.1.toNat]).plus x.2)) else none
def Lvl.instAll (ls:List Lv) (o:Lv) (pre:List (Int × Int)):Option Lv:=pre.foldl (instStep ls) (some o)
theorem Lvl.instAll_snoc (ls:List Lv) (o:Lv) (pre:List (Int × Int)) (x:Int × Int):instAll ls o (pre ++ [x])=instStep ls (instAll ls o pre) x:=by
 unfold instAll; rw [List.foldl_append]; rfl
theorem Lvl.instFold_none (ls:List Lv) (r:List (Int × Int)):r.foldl (instStep ls) none=none:=by
 induction r with
 | nil=>rfl
 | cons x r ih=>exact ih
theorem Lvl.instAll_prefix {ls:List Lv} {o:Lv} {pre l:List (Int × Int)} (hp:pre <+: l) (h:instAll ls o pre=none):instAll ls o l=none:=by
 obtain ⟨r,rfl⟩:=hp
 unfold instAll at *
 rw [List.foldl_append,h]
 exact instFold_none ls r
def Lvl.inst (l:Lv) (ls:List Lv):Lv × Int :=
 if l.may=true∧ls.all Lv.may=true then
  match instAll ls (number l.c) l.ps with
  | some o=>ans o
  | none=>(zero,8)
 else (zero,1)
theorem Lvl.mem_ps_k {l:Lv} {x:Int × Int} (h:x ∈ l.ps):∃ k:Nat,k < 4∧x=((k:Int),l.at_ k)∧l.at_ k ≠ -1:=by
 rcases mem_ps h with ⟨rfl,hp⟩ | ⟨rfl,hp⟩ | ⟨rfl,hp⟩ | ⟨rfl,hp⟩
 ·exact ⟨0,by omega,rfl,hp⟩
 ·exact ⟨1,by omega,rfl,hp⟩
 ·exact ⟨2,by omega,rfl,hp⟩
 ·exact ⟨3,by omega,rfl,hp⟩
def Lvl.Lv.low (o:Lv):Prop:=-1≤o.p0∧-1≤o.p1∧-1≤o.p2∧-1≤o.p3
theorem Lvl.Lv.low_join {a b:Lv} (h:a.low):(a.join b).low:=by
 obtain ⟨h0,h1,h2,h3⟩:=h
 unfold Lv.low Lv.join
 simp only
 omega
theorem inst_no (l:Lv) (ao:Option Addr) (cap:Nat) (ls:List Lv) (w:World) (hl:l.may=false) :
 Calls Tryz.prog 86 #[l.val,.slice ao ls.length cap] w fun e w'=>e=.returned (.tuple #[zero.val,.int .i64 1])∧Below w.heap.size w w':=by
 have hmay:=fun w=>may_any l w
 rw [hl] at hmay
 have HM:=hid hmay
 have B0:=hid ((below_two w l.box (.cells #[.slice ao ls.length cap] 22)).alloc (by simp; omega) zero.box |>.alloc (by simp; omega) (.cells #[.int .i64 0] 39))
 have HZ:=hid (keepA (new3 w l.box (.cells #[.slice ao ls.length cap] 22) zero.box) (.cells #[.int .i64 0] 39))
 have HE:=hid (new4 w l.box (.cells #[.slice ao ls.length cap] 22) zero.box (.cells #[.int .i64 0] 39))
 clear hmay hl
 unfold Lv.val
 go_enter Tryz.func86,Tryz.ntmps86
 go_wp2_with fail
 refine (HM.out _).mono ?_
 rintro e w1 ⟨rfl,b1⟩
 have HZ1:=hid (keep b1 HZ.out)
 have HE1:=hid (keep b1 HE.out)
 have B1:=hid (B0.out.trans (b1.mono (by simp; omega)))
 obtain ⟨d0,d1,d2,d3,d4⟩:=Lv.cells HZ1.out
 obtain ⟨f0,f1,f2,f3,f4⟩:=Lv.frees HZ1.out
 have e0:=one_cell HE1.out
 have g0:=free_one HE1.out
 clear b1
 go_wp2_with fail
 have h5:=cells_other (put5_self HZ1.out zero) (.int .i64 1) (b:=w.heap.size + 1 + 1 + 1) (o:=0) (by omega)
 have h6:=put_one (put5_other HE1.out zero (b:=w.heap.size + 1 + 1) (by omega)) (.int .i64 1)
 have b5:=(put5_below B1.out (B:=w.heap.size + 1 + 1) (by omega) zero).setCell (p:=⟨w.heap.size + 1 + 1 + 1,0,none⟩) (show w.heap.size≤w.heap.size + 1 + 1 + 1 by omega) (.int .i64 1)
 generalize hW:(((((w1.setCell ⟨w.heap.size + 1 + 1,0,none⟩ (.int .i64 0)).setCell ⟨w.heap.size + 1 + 1,1,none⟩ (.int .i64 0)).setCell ⟨w.heap.size + 1 + 1,2,none⟩ (.int .i64 0)).setCell ⟨w.heap.size + 1 + 1,3,none⟩ (.int .i64 0)).setCell ⟨w.heap.size + 1 + 1,4,none⟩ (.int .i64 0)).setCell ⟨w.heap.size + 1 + 1 + 1,0,none⟩ (.int .i64 1)=W4
 rw [show (put5 w1 (w.heap.size + 1 + 1) zero).setCell ⟨w.heap.size + 1 + 1 + 1,0,none⟩ (.int .i64 1)=W4 from hW] at h5 h6 b5
 obtain ⟨r0,r1,r2,r3,r4⟩:=Lv.cells h5
 have r5:=one_cell h6
 exact bodyPost_ret (v:=.tuple #[.agg #[.int .i64 0,.int .i64 0,.int .i64 0,.int .i64 0,.int .i64 0],.int .i64 1]) (by simp [results,Tryz.results86,go_sem,r0,r1,r2,r3,r4,r5,zero]) rfl ⟨rfl,b5⟩
theorem inst_no2 (l:Lv) (ao:Option Addr) (cap:Nat) (ls:List Lv) (w:World) (hr:LRow w ao ls) (hn:ls.length≤9000000000000000000) (hl:l.may=true) (hls:ls.all Lv.may=false) :
 Calls Tryz.prog 86 #[l.val,.slice ao ls.length cap] w fun e w'=>e=.returned (.tuple #[zero.val,.int .i64 1])∧Below w.heap.size w w':=by
 have hmay:=fun w=>may_any l w
 rw [hl] at hmay
 have hall:=fun w hr=>allMay_any ao cap ls w hr hn
 rw [hls] at hall
 have HM:=hid hmay
 have HA:=hid hall
 have HR:=hid hr
 have B0:=hid ((below_two w l.box (.cells #[.slice ao ls.length cap] 22)).alloc (by simp; omega) zero.box |>.alloc (by simp; omega) (.cells #[.int .i64 0] 39))
 have HZ:=hid (keepA (new3 w l.box (.cells #[.slice ao ls.length cap] 22) zero.box) (.cells #[.int .i64 0] 39))
 have HE:=hid (new4 w l.box (.cells #[.slice ao ls.length cap] 22) zero.box (.cells #[.int .i64 0] 39))
 have HS:=hid (keepA (keepA (new2 w l.box (.cells #[.slice ao ls.length cap] 22)) zero.box) (.cells #[.int .i64 0] 39))
 clear hmay hl hr hall hls
 unfold Lv.val
 go_enter Tryz.func86,Tryz.ntmps86
 go_wp2_with fail
 refine (HM.out _).mono ?_
 rintro e w1 ⟨rfl,b1⟩
 have HZ1:=hid (keep b1 HZ.out)
 have HE1:=hid (keep b1 HE.out)
 have HS1:=hid (keep b1 HS.out)
 have B1:=hid (B0.out.trans (b1.mono (by simp; omega)))
 have s0:=one_cell HS1.out
 clear b1
 go_wp2_with fail
 refine (HA.out _ (HR.out.below B1.out)).mono ?_
 rintro e w2 ⟨rfl,b2⟩
 have HZ2:=hid (keep b2 HZ1.out)
 have HE2:=hid (keep b2 HE1.out)
 have B2:=hid (B1.out.trans (b2.mono B1.out.size))
 obtain ⟨d0,d1,d2,d3,d4⟩:=Lv.cells HZ2.out
 obtain ⟨f0,f1,f2,f3,f4⟩:=Lv.frees HZ2.out
 have e0:=one_cell HE2.out
 have g0:=free_one HE2.out
 clear b2
 go_wp2_with fail
 have h5:=cells_other (put5_self HZ2.out zero) (.int .i64 1) (b:=w.heap.size + 1 + 1 + 1) (o:=0) (by omega)
 have h6:=put_one (put5_other HE2.out zero (b:=w.heap.size + 1 + 1) (by omega)) (.int .i64 1)
 have b5:=(put5_below B2.out (B:=w.heap.size + 1 + 1) (by omega) zero).setCell (p:=⟨w.heap.size + 1 + 1 + 1,0,none⟩) (show w.heap.size≤w.heap.size + 1 + 1 + 1 by omega) (.int .i64 1)
 generalize hW:(((((w2.setCell ⟨w.heap.size + 1 + 1,0,none⟩ (.int .i64 0)).setCell ⟨w.heap.size + 1 + 1,1,none⟩ (.int .i64 0)).setCell ⟨w.heap.size + 1 + 1,2,none⟩ (.int .i64 0)).setCell ⟨w.heap.size + 1 + 1,3,none⟩ (.int .i64 0)).setCell ⟨w.heap.size + 1 + 1,4,none⟩ (.int .i64 0)).setCell ⟨w.heap.size + 1 + 1 + 1,0,none⟩ (.int .i64 1)=W4
 rw [show (put5 w2 (w.heap.size + 1 + 1) zero).setCell ⟨w.heap.size + 1 + 1 + 1,0,none⟩ (.int .i64 1)=W4 from hW] at h5 h6 b5
 obtain ⟨r0,r1,r2,r3,r4⟩:=Lv.cells h5
 have r5:=one_cell h6
 exact bodyPost_ret (v:=.tuple #[.agg #[.int .i64 0,.int .i64 0,.int .i64 0,.int .i64 0,.int .i64 0],.int .i64 1]) (by simp [results,Tryz.results86,go_sem,r0,r1,r2,r3,r4,r5,zero]) rfl ⟨rfl,b5⟩
theorem Lvl.below_b {w W:World} (h:Below w.heap.size w W) (o:Obj):Below w.heap.size w (W.alloc o):=h.alloc h.size _
theorem Lvl.at_low {l:Lv} (hw:l.within=true) {k:Nat} (hk:k < 4) (hne:l.at_ k ≠ -1):0≤l.at_ k∧l.at_ k≤1099511627776:=by
 simp only [Lv.within,decide_eq_true_eq] at hw
 have h:k=0∨k=1∨k=2∨k=3:=by omega
 rcases h with rfl | rfl | rfl | rfl <;> (simp only [Lv.at_] at *; omega)
def Lvl.InstI (T Z E S:Nat) (ao:Option Addr) (ls:List Lv) (cap:Nat) (c:Int) (pre:List (Int × Int)) (W:World):Prop :=
 ∃ o:Lv,instAll ls (number c) pre=some o∧o.low∧W.heap[T]?=some o.box∧W.heap[Z]?=some zero.box∧W.heap[E]?=some (.cells #[.int .i64 0] 39)∧W.heap[S]?=some (.cells #[.slice ao ls.length cap] 22)
theorem Lvl.InstI.kept {T Z E S:Nat} {ao:Option Addr} {ls:List Lv} {cap:Nat} {c:Int} {pre:List (Int × Int)} {W W':World} {row:Option Nat} (h:InstI T Z E S ao ls cap c pre W) (hg:W.grownBy W' row) (hr:∀ r,row=some r→∃ o:Obj,W.heap[r]?=some o∧o.isCells=false):InstI T Z E S ao ls cap c pre W':=by
 obtain ⟨o,h1,h2,h3,h4,h5,h6⟩:=h
 exact ⟨o,h1,h2,block_kept h3 hg hr,block_kept h4 hg hr,(grownBy_keeps_cells hg hr h5 rfl).trans h5,(grownBy_keeps_cells hg hr h6 rfl).trans h6⟩
theorem Lvl.keepsOthers_of {W v:World} (b:Below W.heap.size W v):KeepsOthers W v:=⟨b.size,fun _ _ h _=>keep b h⟩
theorem Lvl.keeps_put (W:World) (B:Nat) (l:Lv):KeepsOthers W (put5 W B l):=keeps_all W B _ _ _ _ _
theorem Lvl.inst_round {w W v1 v2:World} {T Z E S:Nat} {ao:Option Addr} {ls:List Lv} {cap:Nat} {c:Int} {pre:List (Int × Int)} {o J:Lv}
 (hB:Below w.heap.size w W) (b1:Below W.drew.heap.size W.drew v1) (b2:Below v1.heap.size v1 v2) (hO:v2.heap[T]?=some o.box) (hT:w.heap.size≤T)
 (hZ:W.heap[Z]?=some zero.box) (hE:W.heap[E]?=some (.cells #[.int .i64 0] 39)) (hS:W.heap[S]?=some (.cells #[.slice ao ls.length cap] 22))
 (hTZ:T ≠ Z) (hTE:T ≠ E) (hTS:T ≠ S) (hst:instAll ls (number c) pre=some J) (hlow:J.low) :
 KeepsOthers W (put5 v2 T J)∧True∧(InstI T Z E S ao ls cap c pre (put5 v2 T J)∧Below w.heap.size w (put5 v2 T J)):=by
 have b0:Below W.heap.size W v2:=(undrew b1).trans (b2.mono b1.size)
 refine ⟨(keepsOthers_of b0).trans (keeps_put _ _ _),trivial,⟨J,hst,hlow,put5_self hO J,put5_other (keep b0 hZ) J hTZ,put5_other (keep b0 hE) J hTE,put5_other (keep b0 hS) J hTS⟩,put5_below (hB.trans (b0.mono hB.size)) hT J⟩
theorem Lvl.inst_left {w W:World} {ls:List Lv} {c:Int} {pre:List (Int × Int)}
 (hB:Below w.heap.size w W) (hZ:W.heap[w.heap.size + 1 + 1]?=some zero.box) (hE:W.heap[w.heap.size + 1 + 1 + 1]?=some (.cells #[.int .i64 0] 39))
 (hst:instAll ls (number c) pre=none) :
 KeepsOthers W ((put5 W (w.heap.size + 1 + 1) zero).setCell ⟨w.heap.size + 1 + 1 + 1,0,none⟩ (.int .i64 8))∧((Code.ret=Code.ret∧instAll ls (number c) pre=none ∧
  ((put5 W (w.heap.size + 1 + 1) zero).setCell ⟨w.heap.size + 1 + 1 + 1,0,none⟩ (.int .i64 8)).heap[w.heap.size + 1 + 1]?=some zero.box ∧
  ((put5 W (w.heap.size + 1 + 1) zero).setCell ⟨w.heap.size + 1 + 1 + 1,0,none⟩ (.int .i64 8)).heap[w.heap.size + 1 + 1 + 1]?=some (.cells #[.int .i64 8] 39)) ∧
  Below w.heap.size w ((put5 W (w.heap.size + 1 + 1) zero).setCell ⟨w.heap.size + 1 + 1 + 1,0,none⟩ (.int .i64 8))) :=
 ⟨(keeps_put _ _ _).trans (KeepsOthers.setCell _ _ _),⟨rfl,hst,cells_other (put5_self hZ zero) _ (by omega),put_one (put5_other hE zero (by omega)) _⟩,
   (put5_below hB (B:=w.heap.size + 1 + 1) (by omega) zero).setCell (p:=⟨w.heap.size + 1 + 1 + 1,0,none⟩) (show w.heap.size≤w.heap.size + 1 + 1 + 1 by omega) _⟩
theorem Lvl.inst_fin {w W:World} {D:Nat} (hB:Below w.heap.size w W) (hZ:W.heap[w.heap.size + 1 + 1]?=some zero.box) (hE:W.heap[w.heap.size + 1 + 1 + 1]?=some (.cells #[.int .i64 0] 39))
 (hK:W.heap[D]?=some (.deferred (some []))) (hD:w.heap.size≤D) (A:Lv) (q:Int) :
 ((put5 W (w.heap.size + 1 + 1) A).setCell ⟨w.heap.size + 1 + 1 + 1,0,none⟩ (.int .i64 q)).heap[D]?=some (.deferred (some [])) ∧
 (((put5 W (w.heap.size + 1 + 1) A).setCell ⟨w.heap.size + 1 + 1 + 1,0,none⟩ (.int .i64 q)).putObj D (.deferred none)).heap[w.heap.size + 1 + 1]?=some A.box ∧
 (((put5 W (w.heap.size + 1 + 1) A).setCell ⟨w.heap.size + 1 + 1 + 1,0,none⟩ (.int .i64 q)).putObj D (.deferred none)).heap[w.heap.size + 1 + 1 + 1]?=some (.cells #[.int .i64 q] 39) ∧
 Below w.heap.size w (((put5 W (w.heap.size + 1 + 1) A).setCell ⟨w.heap.size + 1 + 1 + 1,0,none⟩ (.int .i64 q)).putObj D (.deferred none)):=by
 have hK':=((keeps_put W (w.heap.size + 1 + 1) A).trans (KeepsOthers.setCell _ ⟨w.heap.size + 1 + 1 + 1,0,none⟩ (.int .i64 q))).same D _ hK rfl
 have h1:=cells_other (put5_self hZ A) (.int .i64 q) (b:=w.heap.size + 1 + 1 + 1) (o:=0) (by omega)
 have h2:=put_one (put5_other hE A (b:=w.heap.size + 1 + 1) (by omega)) (.int .i64 q)
 have h3:=(put5_below hB (B:=w.heap.size + 1 + 1) (by omega) A).setCell (p:=⟨w.heap.size + 1 + 1 + 1,0,none⟩) (show w.heap.size≤w.heap.size + 1 + 1 + 1 by omega) (.int .i64 q)
 generalize (put5 W (w.heap.size + 1 + 1) A).setCell ⟨w.heap.size + 1 + 1 + 1,0,none⟩ (.int .i64 q)=V at hK' h1 h2 h3
 exact ⟨hK',block_put h1 hK' rfl _,(grownBy_keeps_cells (grownBy_putObj' V D (.deferred none)) (fun r e=>by cases e; exact ⟨_,hK',rfl⟩) h2 rfl).trans h2,h3.trans (belowK_b (w:=w) (Nat.le_refl _) V D _ _ hD hK' rfl rfl)⟩
theorem inst_yes (l:Lv) (ao:Option Addr) (cap:Nat) (ls:List Lv) (w:World) (hr:LRow w ao ls) (hn:ls.length≤9000000000000000000) (hl:l.may=true) (hls:ls.all Lv.may=true) :
 Calls Tryz.prog 86 #[l.val,.slice ao ls.length cap] w fun e w'=>e=.returned (.tuple #[(inst l ls).1.val,.int .i64 (inst l ls).2])∧Below w.heap.size w w':=by
 obtain ⟨X,hX⟩:∃ X,X=inst l ls:=⟨_,rfl⟩
 rw [← hX]
 rw [inst,if_pos ⟨hl,hls⟩] at hX
 have HX:=hid hX
 have hmay:=fun w=>may_any l w
 rw [hl] at hmay
 have hall:=fun w hr=>allMay_any ao cap ls w hr hn
 rw [hls] at hall
 have HM:=hid hmay
 have HA:=hid hall
 have HR:=hid hr
 have HY:=hid hls
 have hw:=may_within hl
 have HW:=hid hw
 have B0:=hid ((below_two w l.box (.cells #[.slice ao ls.length cap] 22)).alloc (by simp; omega) zero.box |>.alloc (by simp; omega) (.cells #[.int .i64 0] 39))
 have HZ:=hid (keepA (new3 w l.box (.cells #[.slice ao ls.length cap] 22) zero.box) (.cells #[.int .i64 0] 39))
 have HE:=hid (new4 w l.box (.cells #[.slice ao ls.length cap] 22) zero.box (.cells #[.int .i64 0] 39))
 have HS:=hid (keepA (keepA (new2 w l.box (.cells #[.slice ao ls.length cap] 22)) zero.box) (.cells #[.int .i64 0] 39))
 have HL:=hid (keepA (keepA (new1of2 w l.box (.cells #[.slice ao ls.length cap] 22)) zero.box) (.cells #[.int .i64 0] 39))
 clear hmay hl hr hall hls hX hw
 refine (callsIn_wide (n:=3)).1 ?_
 refine callsIn_of_wp_marks Tryz.func86 rfl trivial ?_ rfl
 unfold Lv.val
 simp only [Tryz.ntmps86,List.size_toArray,List.length_cons,List.length_nil,Nat.reduceAdd,Nat.reduceSub,Array.replicate_succ,Array.replicate_zero,List.push_toArray,List.append_toArray,List.nil_append,List.cons_append]
 gi_wp2_with fail
 refine ⟨trivial,?_⟩
 refine (callsIn_wide.2 (HM.out _)).mono ?_
 rintro e w1 ⟨rfl,b1⟩
 have HZ1:=hid (keep b1 HZ.out)
 have HE1:=hid (keep b1 HE.out)
 have HS1:=hid (keep b1 HS.out)
 have HL1:=hid (keep b1 HL.out)
 have B1:=hid (B0.out.trans (b1.mono (by simp; omega)))
 have s0:=one_cell HS1.out
 clear b1 HZ HE HS HL B0
 gi_wp2_with fail
 refine ⟨trivial,?_⟩
 refine (callsIn_wide.2 (HA.out _ (HR.out.below B1.out))).mono ?_
 rintro e w2 ⟨rfl,b2⟩
 have HZ2:=hid (keep b2 HZ1.out)
 have HE2:=hid (keep b2 HE1.out)
 have HS2:=hid (keep b2 HS1.out)
 have HL2:=hid (keep b2 HL1.out)
 have B2:=hid (B1.out.trans (b2.mono B1.out.size))
 obtain ⟨d0,d1,d2,d3,d4⟩:=Lv.cells HL2.out
 clear b2 s0 HZ1 HE1 HS1 HL1 B1
 gi_wp2_with fail
 refine ⟨trivial,?_⟩
 refine (callsIn_wide.2 (number_any _ _)).mono ?_
 rintro e w3 ⟨rfl,b3⟩
 have HZ3:=hid (keep b3 HZ2.out)
 have HE3:=hid (keep b3 HE2.out)
 have HS3:=hid (keep b3 HS2.out)
 have hl3:=keep b3 HL2.out
 have B3:=hid (B2.out.trans (b3.mono B2.out.size))
 have hz:=Nat.lt_of_lt_of_le (Array.getElem?_eq_some_iff.1 HE2.out).1 b3.size
 have hz0:w.heap.size < w3.heap.size:=by omega
 clear b3 d0 d1 d2 d3 d4 HZ2 HE2 HS2 HL2 B2
 obtain ⟨d0,d1,d2,d3,d4⟩:=Lv.cells hl3
 clear hl3
 dsimp only [number,Lv.val]
 gi_wp2_with (refine ⟨trivial,?_⟩; gi_at_call 133; refine (callsIn_wide.2 (params_any _ _)).mono ?_; rintro e w' ⟨rfl,rfl⟩)
 have hb0:=below_b (below_b B3.out (number l.c).box) l.box
 have hZ0:=keepA (keepA HZ3.out (number l.c).box) l.box
 have hE0:=keepA (keepA HE3.out (number l.c).box) l.box
 have hS0:=keepA (keepA HS3.out (number l.c).box) l.box
 clear d0 d1 d2 d3 d4 HZ3 HE3 HS3 B3
 refine wpIn_rangeFunc_ownF rfl (by omega) (gf:=171) (lb:=#[.pointer (some ⟨w3.heap.size + 1,0,none⟩)]) rfl trivial (enters_of Tryz.func171 (by kernel_rfl) rfl)
  (params_stops Fence.wide 2 trivial rfl (by omega) (w3.heap.size + 1) l _ (new2 w3 _ _)) (fun _ _=>trivial) (fun _ _ _ _ _ _ _ _=>trivial) (Below.refl _ _) (fun _=>rfl)
  (fun pre W=>InstI w3.heap.size (w.heap.size + 1 + 1) (w.heap.size + 1 + 1 + 1) (w.heap.size + 1) ao ls cap l.c (pre.map (·.1)) W∧Below w.heap.size w W)
  (fun c pre W=>(c=.ret∧instAll ls (number l.c) (pre.map (·.1))=none∧W.heap[w.heap.size + 1 + 1]?=some zero.box∧W.heap[w.heap.size + 1 + 1 + 1]?=some (.cells #[.int .i64 8] 39))∧Below w.heap.size w W)
  (OwnFrom.and (Own.from (fun s A B row hs hg hr=>hs.kept hg hr) _) (ownFrom_below (Nat.le_refl _) (by simp; omega)))
  (fun c=>OwnFrom.and (Own.from (fun s A B row hs hg hr=>⟨hs.1,hs.2.1,block_kept hs.2.2.1 hg hr,(grownBy_keeps_cells hg hr hs.2.2.2 rfl).trans hs.2.2.2⟩) _) (ownFrom_below (Nat.le_refl _) (by simp; omega)))
  ⟨⟨number l.c,rfl,⟨by simp [number],by simp [number],by simp [number],by simp [number]⟩,?h1,hZ0,hE0,hS0⟩,hb0⟩
  (fun x=>{ tmps:=#[.agg #[.int .i64 l.c,.int .i64 l.p0,.int .i64 l.p1,.int .i64 l.p2,.int .i64 l.p3],.slice ao ls.length cap,.pointer (some ⟨w.heap.size,0,none⟩),.pointer (some ⟨w.heap.size + 1,0,none⟩),.pointer (some ⟨w.heap.size + 1 + 1,0,none⟩),.pointer (some ⟨w.heap.size + 1 + 1 + 1,0,none⟩),.pointer (some ⟨w3.heap.size,0,none⟩),.int .i64 x.1.1,.int .i64 x.1.2,.agg #[.int .i64 l.c,.int .i64 l.p0,.int .i64 l.p1,.int .i64 l.p2,.int .i64 l.p3],.bool true,.bool false,.bool false,.slice ao ls.length cap,.bool true,.bool false,.bool false,undef,.pointer (some ⟨w.heap.size,0,none⟩),.int .i64 l.c,.agg #[.int .i64 l.c,.int .i64 (-1),.int .i64 (-1),.int .i64 (-1),.int .i64 (-1)],.agg #[.int .i64 l.c,.int .i64 l.p0,.int .i64 l.p1,.int .i64 l.p2,.int .i64 l.p3],.func (.func 171) #[] #[.pointer (some ⟨w3.heap.size + 1,0,none⟩)],.int .i64 x.1.1,.int .i64 x.1.2,undef,undef,undef,undef,undef,undef,undef,undef,undef,undef,undef,undef,undef,undef,undef,undef,undef],defers:=[] }) ?assign ?body ?done ?stop
 case h1=>rw [Below.heap_alloc _ _ _ (by simp)]; exact World.alloc_heap_new w3 _
 case assign =>
  intro lo x W K hK
  gi_wp2
  exact hK
 case body =>
  have hmix:Tryz.prog.follows .mixedOrders=true:=by kernel_rfl
  rintro lo pre ⟨x,hx⟩ W ⟨⟨o,ho,hlow,hO,hZ,hE,hS⟩,hB⟩ _
  obtain ⟨k,hk4,rfl,hne⟩:=mem_ps_k hx
  have HO:=hid hO
  have HZ:=hid hZ
  have HE:=hid hE
  have HS:=hid hS
  have HI:=hid ho
  have HLow:=hid hlow
  have HB:=hid hB
  have HNE:=hid hne
  have s0:=one_cell hS
  clear hO hZ hE hS ho hlow hB hne
  dsimp only
  by_cases hlt:k < ls.length
  ·have hge:(ls.length≤k)=False:=by simp; omega
   obtain ⟨b,off,hao,c0,c1,c2,c3,c4⟩:=(HR.out.below HB.out).place k hlt
   subst hao
   obtain ⟨y,hy⟩:∃ y,y=ls[k]:=⟨_,rfl⟩
   rw [← hy] at c0 c1 c2 c3 c4
   have hbw:b < W.heap.size:=World.block_lt_of_cell? W _ c0
   have hym:y.may=true:=by
    have h:=HY.out
    rw [List.all_eq_true] at h
    rw [hy]; exact h _ (List.getElem_mem hlt)
   have hn2:0≤l.at_ k∧l.at_ k≤1099511627776:=at_low HW.out hk4 HNE.out
   have hplus:=fun w=>plus_any y (l.at_ k) w (may_within hym) hn2
   have hjoin:=fun w=>join_any o (y.plus (l.at_ k)) w HLow.out.1 HLow.out.2.1 HLow.out.2.2.1 HLow.out.2.2.2
   have HP:=hid hplus
   have HJ:=hid hjoin
   have HST:=hid (show instStep ls (some o) ((k:Int),l.at_ k)=some (o.join (y.plus (l.at_ k))) by simp [instStep,hlt,← hy])
   obtain ⟨g0,g1,g2,g3,g4⟩:=Lv.cells HO.out
   clear hym hn2 hplus hjoin hy
   gi_wp2
   gi_region_with_o (first
    | ((first | (refine ⟨trivial,?_⟩; gi_at_call 135) | gi_at_call 135); refine (CallsIn.inRound lo (callsIn_wide.2 (HP.out _))).mono ?_; rintro e v1 ⟨rfl,b1⟩; have HO1:=hid (keep b1 HO.out); have B1:=hid b1; clear b1; obtain ⟨g0,g1,g2,g3,g4⟩:=Lv.cells HO1.out; dsimp only [Lv.val])
    | ((first | (refine ⟨trivial,?_⟩; gi_at_call 134) | gi_at_call 134); refine (CallsIn.inRound lo (callsIn_wide.2 (HJ.out _))).mono ?_; rintro e v2 ⟨rfl,b2⟩; have HO2:=hid (keep b2 HO1.out); have B2:=hid b2; clear b2; obtain ⟨g0,g1,g2,g3,g4⟩:=Lv.cells HO2.out; obtain ⟨k0,k1,k2,k3,k4⟩:=Lv.frees HO2.out; dsimp only [Lv.val]))
   all_goals gi_wp2
   all_goals exact inst_round HB.out B1.out B2.out HO2.out (by omega) HZ.out HE.out HS.out (by omega) (by omega) (by omega) (by rw [List.map_append,List.map_singleton,instAll_snoc,HI.out]; exact HST.out) (Lv.low_join HLow.out)
  ·have hge:(ls.length≤k)=True:=by simp; omega
   have HST:=hid (show instStep ls (some o) ((k:Int),l.at_ k)=none by simp [instStep,hlt])
   obtain ⟨g0,g1,g2,g3,g4⟩:=Lv.cells HZ.out
   obtain ⟨k0,k1,k2,k3,k4⟩:=Lv.frees HZ.out
   have e0:=one_cell HE.out
   have e1:=free_one HE.out
   clear hlt
   gi_wp2
   exact inst_left HB.out HZ.out HE.out (by rw [List.map_append,List.map_singleton,instAll_snoc,HI.out]; exact HST.out)
 case done =>
  rintro D ys W hD hys ⟨⟨o,ho,hlow,hO,hZ,hE,hS⟩,hB⟩ hK
  rw [hys] at ho
  have HX2:=HX.out
  rw [ho] at HX2
  have hans:=fun w=>answer_any o w
  simp only at HX2
  rw [← HX2] at hans
  obtain ⟨A,q⟩:=X
  dsimp only at hans ⊢
  have HN:=hid hans
  have HZ:=hid hZ
  have HE:=hid hE
  have HB:=hid hB
  have HK:=hid hK
  obtain ⟨g0,g1,g2,g3,g4⟩:=Lv.cells hO
  clear hans hZ hE hB hK hO hS hlow ho hys HX2 HX
  gi_wp2_with fail
  refine ⟨trivial,?_⟩
  refine (callsIn_wide.2 (HN.out _)).mono ?_
  rintro e w5 ⟨rfl,b5⟩
  have HZ5:=hid (keep b5 HZ.out)
  have HE5:=hid (keep b5 HE.out)
  have HK5:=hid (keep b5 HK.out)
  have HB5:=hid (HB.out.trans (b5.mono HB.out.size))
  clear b5 g0 g1 g2 g3 g4
  obtain ⟨g0,g1,g2,g3,g4⟩:=Lv.cells HZ5.out
  obtain ⟨k0,k1,k2,k3,k4⟩:=Lv.frees HZ5.out
  have e0:=one_cell HE5.out
  have e1:=free_one HE5.out
  dsimp only [Lv.val]
  gi_wp2_with fail
  obtain ⟨x1,x2,x3,x4⟩:=inst_fin HB5.out HZ5.out HE5.out HK5.out (by simp at hD; omega) A q
  generalize hW:(put5 w5 (w.heap.size + 1 + 1) A).setCell ⟨w.heap.size + 1 + 1 + 1,0,none⟩ (.int .i64 q)=W6 at x1 x2 x3 x4
  rw [put5] at hW
  rw [hW]
  obtain ⟨r0,r1,r2,r3,r4⟩:=Lv.cells x2
  have r5:=one_cell x3
  refine ⟨by simp,.inl ⟨_,_,rfl,run_takeDeferred x1,?_⟩⟩
  exact ⟨.tuple #[.agg #[.int .i64 A.c,.int .i64 A.p0,.int .i64 A.p1,.int .i64 A.p2,.int .i64 A.p3],.int .i64 q],by simp [results,Tryz.results86,go_sem,r0,r1,r2,r3,r4,r5],rfl,x4⟩
 case stop =>
  rintro D c pre W hD hpre ⟨⟨rfl,hnone,hZ,hE⟩,hB⟩ hK
  have hno:=instAll_prefix hpre hnone
  have HX2:=HX.out
  rw [hno] at HX2
  simp only at HX2
  subst HX2
  dsimp only
  have HZ:=hid hZ
  have HE:=hid hE
  have HB:=hid hB
  have HK:=hid hK
  clear hZ hE hB hK hnone hno HX
  gi_wp2
  obtain ⟨r0,r1,r2,r3,r4⟩:=leave HZ.out HK.out
  have r5:=one_cell ((grownBy_keeps_cells (grownBy_putObj' W D (.deferred none)) (fun r e=>by cases e; exact ⟨_,HK.out,rfl⟩) HE.out rfl).trans HE.out)
  refine ⟨by simp,.inl ⟨_,_,rfl,run_takeDeferred HK.out,?_⟩⟩
  exact ⟨.tuple #[.agg #[.int .i64 0,.int .i64 0,.int .i64 0,.int .i64 0,.int .i64 0],.int .i64 8],by simp [results,Tryz.results86,go_sem,r0,r1,r2,r3,r4,r5,zero],rfl,HB.out.trans (belowK_b (w:=w) (Nat.le_refl _) W D _ _ (by simp at hD; omega) HK.out rfl rfl)⟩
theorem inst_any (l:Lv) (ao:Option Addr) (cap:Nat) (ls:List Lv) (w:World) (hr:LRow w ao ls) (hn:ls.length≤9000000000000000000) :
 Calls Tryz.prog 86 #[l.val,.slice ao ls.length cap] w fun e w'=>e=.returned (.tuple #[(inst l ls).1.val,.int .i64 (inst l ls).2])∧Below w.heap.size w w':=by
 cases hl:l.may
 ·have e:inst l ls=(zero,1):=by simp [inst,hl]
  rw [e]
  exact inst_no l ao cap ls w hl
 ·cases hls:ls.all Lv.may
  ·have e:inst l ls=(zero,1):=by rw [inst,if_neg (by simp [hls])]
   rw [e]
   exact inst_no2 l ao cap ls w hr hn hl hls
  ·exact inst_yes l ao cap ls w hr hn hl hls
end Go.Proofs.YtmngddomnaaedaaGreat
