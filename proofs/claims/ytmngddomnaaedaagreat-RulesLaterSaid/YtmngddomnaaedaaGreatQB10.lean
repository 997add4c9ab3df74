/-
 term.Free,Has.
-/
import Derived.Lib.Hide
import Derived.Test.YtmngddomnaaedaaGreatQB7
import Derived.Test.YtmngddomnaaedaaGreatQB5
import Derived.Test.YtmngddomnaaedaaGreatQB6
import Derived.Deep.RegionHeld3
import Derived.Laws.EntriesVeiled
open Go.Lib (hid)
set_option maxRecDepth 100000
set_option maxHeartbeats 32000000
namespace Go.Proofs.YtmngddomnaaedaaGreat
open Go.RowKit Go.Shelf Lvl Trm
def Trm.Tm.free (t:Tm):Int:=if t.may=true then (t.vs 0).foldl (fun n v=>max n (v + 1)) 0 else 0
def Trm.Tm.has (t:Tm) (k:Int):Bool:=t.may && (t.vs 0).any (· == k)
theorem vars_free (n:Int) (t:Tm) (h:Hd) (B m:Nat) (w:World) (hin:t.In B w h) (hB:B≤m) (hm:w.heap[m]?=some (.cells #[.int .i64 n] 3)) :
 Calls Tryz.prog 193 #[t.val h,.func (.func 194) #[] #[.pointer (some ⟨m,0,none⟩)]] w fun e w'=>e=.returned (.tuple #[])∧w'.heap[m]?=some (.cells #[.int .i64 (if t.may=true then (t.vs 0).foldl (fun n v=>max n (v + 1)) n else n)] 3)∧Ran m w w':=by
 have hml:=(Array.getElem?_eq_some_iff.1 hm).1
 have HMAY:=hid (fun (W:World) (hW:Below w.heap.size w W)=>PMay_any t h W (Tm.In.mono (by have:=hW.size; omega) _ _ (Tm.In.below (hW.mono (by omega)) _ _ hin)))
 have HW:=hid (fun (hmay:t.may=true) (W:World) (h1:Below w.heap.size w W) (h0:W.heap[w.heap.size]?=some (t.box h)) (h2:W.heap[w.heap.size + 1]?=some (.cells #[.func (.func 194) #[] #[.pointer (some ⟨m,0,none⟩)]] 180)) =>
  walk_any (sees_free hB (C:=w.heap.size + 1) (by omega)) t n w.heap.size 0 W trivial ⟨Lvl.keep h1 hm,h2⟩ (OkMay.start hmay) ⟨by omega,(Array.getElem?_eq_some_iff.1 h0).1,h,Tm.cells h0,Tm.In.below (h1.mono (by omega)) _ _ hin⟩ (by have:=h1.size; omega) (by have:=h1.size; omega))
 simp only [Tm.walk_free] at HW
 have HM:=hid hm
 clear hin hm
 unfold Tm.box at HW
 unfold Tm.val at HMAY ⊢
 dsimp only [Tm.vals] at HMAY HW ⊢
 cases hmay:t.may
 ·rw [hmay] at HMAY HW
  simp only [Bool.false_eq_true,if_false]
  clear HW hmay
  go_enter Tryz.func193,Tryz.ntmps193
  go_wp2_with fail
  refine (HMAY.out _ (below_two w _ _)).mono ?_
  rintro e w1 ⟨rfl,b1⟩
  have HB:=hid ((below_two w _ _).trans (b1.mono (by simp; omega)))
  clear b1
  go_wp2_with fail
  refine bodyPost_ret (results_none rfl _ _ _) rfl ?_
  exact ⟨rfl,Lvl.keep HB.out HM.out,Ran.of_below HB.out⟩
 ·rw [hmay] at HMAY
  have HW':=hid (HW.out hmay)
  simp only [if_true]
  clear hmay HW
  generalize (t.vs 0).foldl (fun n v=>max n (v + 1)) n=R at HW' ⊢
  go_enter Tryz.func193,Tryz.ntmps193
  go_wp2_with fail
  refine (HMAY.out _ (below_two w _ _)).mono ?_
  rintro e w1 ⟨rfl,b1⟩
  have HB:=hid ((below_two w _ _).trans (b1.mono (by simp; omega)))
  have HX:=hid (HW'.out w1 HB.out (Lvl.keep b1 (new1of2 w _ _)) (Lvl.keep b1 (new2 w _ _)))
  have hc0:=(Tm.cells (t:=t) (h:=h) (Lvl.keep b1 (new1of2 w _ _)))
  clear b1
  go_wp2_with fail
  refine HX.out.mono ?_
  rintro e w2 ⟨rfl,i2,g2⟩
  have HI:=hid i2.1
  have HR:=hid ((Ran.of_below HB.out).trans g2)
  clear i2 g2
  go_wp2_with fail
  go_end0
  exact ⟨rfl,HI.out,HR.out⟩
theorem PFree_any (t:Tm) (h:Hd) (w:World) (hin:t.In w.heap.size w h) :
 Calls Tryz.prog 174 #[t.val h] w fun e w'=>e=.returned (.int .i64 t.free)∧Below w.heap.size w w':=by
 have HX:=hid (vars_free 0 t h w.heap.size (w.heap.size + 1) ((w.alloc (t.box h)).alloc (.cells #[.int .i64 0] 3)) (Tm.In.below (below_two w _ _) _ _ hin) (by omega) (new2 _ _ _))
 unfold Tm.free
 generalize (if t.may=true then (t.vs 0).foldl (fun n v=>max n (v + 1)) 0 else 0)=R at HX ⊢
 clear hin
 unfold Tm.box at HX
 unfold Tm.val at HX ⊢
 dsimp only [Tm.vals] at HX ⊢
 go_enter Tryz.func174,Tryz.ntmps174
 go_wp2_with fail
 refine HX.out.mono ?_
 rintro e w1 ⟨rfl,i1,g1⟩
 have HB:=hid ((below_two w _ _).trans (g1.below (B:=w.heap.size) (by omega) (by simp; omega)))
 have hc:=one_cell i1
 clear i1 g1
 go_wp2_with fail
 go_ret
 exact ⟨rfl,HB.out⟩
end Go.Proofs.YtmngddomnaaedaaGreat
namespace Go.Proofs.YtmngddomnaaedaaGreat
open Lvl Trm
namespace Trm
def top (l:List Int):Int:=l.foldl (fun n v=>max n (v + 1)) 0
theorem fold_ge (l:List Int):∀ n:Int,n≤l.foldl (fun n v=>max n (v + 1)) n∧∀ v ∈ l,v < l.foldl (fun n v=>max n (v + 1)) n:=by
 induction l with
 | nil=>intro n; exact ⟨Int.le_refl _,fun v hv=>by cases hv⟩
 | cons a r ih =>
   intro n
   obtain ⟨h1,h2⟩:=ih (max n (a + 1))
   refine ⟨by simp only [List.foldl_cons]; omega,fun v hv=>?_⟩
   simp only [List.foldl_cons]
   rcases List.mem_cons.1 hv with rfl | hr
   ·omega
   ·exact h2 v hr
theorem top_lt (l:List Int):∀ v ∈ l,v < top l:=(fold_ge l 0).2
end Trm
end Go.Proofs.YtmngddomnaaedaaGreat
namespace Go.Proofs.YtmngddomnaaedaaGreat
open Lvl Trm
namespace Trm
mutual
def Tm.put (g:Int→Int→Tm):Tm→Int→Tm
 | .mk k n s ls ts,u=>if k=2∧u≤n then g (n - u) u else .mk k n s ls (putL g k ts 0 u)
def putL (g:Int→Int→Tm) (k:Int):List Tm→Nat→Int→List Tm
 | [],_,_=>[]
 | t :: r,i,u=>t.put g (under k i u) :: putL g k r (i + 1) (under k i u)
end
mutual
def Tm.vps:Tm→Int→List (Int × Int)
 | .mk k n _ _ ts,u=>(if k=2∧u≤n then [(n - u,u)] else []) ++ vpsL k ts 0 u
def vpsL (k:Int):List Tm→Nat→Int→List (Int × Int)
 | [],_,_=>[]
 | t :: r,i,u=>t.vps (under k i u) ++ vpsL k r (i + 1) (under k i u)
end
mutual
theorem vps_vs:∀ (t:Tm) (u:Int),(t.vps u).map (·.1)=t.vs u
 | .mk k n s ls ts,u=>by
   rw [Tm.vps,Tm.vs,List.map_append,vpsL_vs]
   split <;> rfl
theorem vpsL_vs (k:Int):∀ (ts:List Tm) (i:Nat) (u:Int),(vpsL k ts i u).map (·.1)=vsL k ts i u
 | [],i,u=>by rw [vpsL,vsL]; rfl
 | t :: r,i,u=>by rw [vpsL,vsL,List.map_append,vps_vs,vpsL_vs]
end
theorem under_le (k:Int) (i:Nat) (u:Int):u≤under k i u∧under k i u≤u + 1:=by unfold under; split <;> omega
mutual
theorem vps_bound:∀ (t:Tm) (u d:Int),0≤u→u≤d→OkMay t d→∀ p ∈ t.vps u,0≤p.1∧u≤p.2∧p.2≤4096∧p.1 + p.2≤1048576
 | .mk k n s ls ts,u,d,hu,hd,ho,p,hp=>by
   rw [Tm.vps] at hp
   rcases List.mem_append.1 hp with h | h
   ·split at h
    ·simp at h
     subst h
     have:=node_num ho.node.1
     have:=ho.node.2
     simp only [Tm.n] at *
     rename_i h1
     refine ⟨?_,?_,?_,?_⟩ <;> omega
    ·cases h
   ·exact vpsL_bound k ts 0 u d hu (by omega) (Or.inl hd) (fun x hx=>ho.down x hx) p h
theorem vpsL_bound (k:Int):∀ (ts:List Tm) (i:Nat) (u d:Int),0≤u→u≤d + 1→(u≤d∨kids k≤i)→(∀ x ∈ ts,OkMay x (d + 1))→∀ p ∈ vpsL k ts i u,0≤p.1∧u≤p.2∧p.2≤4096∧p.1 + p.2≤1048576
 | [],i,u,d,_,_,_,_,p,hp=>by rw [vpsL] at hp; cases hp
 | t :: r,i,u,d,hu,hd,hq,ho,p,hp=>by
   rw [vpsL] at hp
   have hl:=under_le k i u
   have h1:under k i u≤d + 1∧(under k i u≤d∨kids k≤((i + 1:Nat):Int)):=by
    unfold under
    split
    ·rename_i h; omega
    ·omega
   rcases List.mem_append.1 hp with h | h
   ·have:=vps_bound t _ (d + 1) (by omega) h1.1 (ho t (by simp)) p h
    omega
   ·have:=vpsL_bound k r (i + 1) _ d (by omega) h1.1 h1.2 (fun x hx=>ho x (by simp [hx])) p h
    omega
end
def ren (r:Int→Int):Int→Int→Tm:=fun v u=>tV (r v + u)
end Trm
end Go.Proofs.YtmngddomnaaedaaGreat
namespace Go.Proofs.YtmngddomnaaedaaGreat
open Lvl Trm
namespace Trm
/-! Lift. -/
def gLift (fr by_:Int):Int→Int→Tm:=ren (fun v=>if v < fr then v else v + by_)
/-! Close. -/
end Trm
end Go.Proofs.YtmngddomnaaedaaGreat
namespace Go.Proofs.YtmngddomnaaedaaGreat
open Go.RowKit Go.Shelf Lvl Trm
noncomputable def Trm.same (a b:Tm):Bool:=@decide (a=b) (Classical.propDecidable _)
theorem Trm.same_iff {a b:Tm}:same a b=true ↔ a=b:=by unfold same; simp
theorem Trm.same_yes {a b:Tm} (h:a=b):true=same a b:=(same_iff.2 h).symm
theorem Trm.same_no {a b:Tm} (h:¬ a=b):false=same a b:=by
 cases hs:same a b
 ·rfl
 ·exact absurd (same_iff.1 hs) h
theorem Trm.Tm.ext {a b:Tm} (hk:a.k=b.k) (hn:a.n=b.n) (hs:a.s=b.s) (hl:a.ls=b.ls) (ht:a.ts=b.ts):a=b:=by
 rw [a.eta,b.eta,hk,hn,hs,hl,ht]
theorem Trm.take_same {α:Type} {l m:List α} {k:Nat} (hl:k < l.length) (hm:k < m.length) (h:l.take k=m.take k) (he:l[k]=m[k]):l.take (k + 1)=m.take (k + 1):=by
 rw [List.take_succ_eq_append_getElem hl,List.take_succ_eq_append_getElem hm,h,he]
theorem Trm.all_same {α:Type} {l m:List α} {k:Nat} (hlm:l.length=m.length) (hk:l.length≤k) (h:l.take k=m.take k):l=m:=by
 rwa [List.take_of_length_le hk,List.take_of_length_le (by omega)] at h
theorem Trm.eq_self (a0 a1 a2 a3:Int) (w:World):(Op.equalIn 9999 33 (.agg #[.int .i64 a0,.int .i64 a1,.int .i64 a2,.int .i64 a3]) (.agg #[.int .i64 a0,.int .i64 a1,.int .i64 a2,.int .i64 a3])).run Tryz.prog w=.ok true w:=by
 refine (eq_arr 9997 _ _ _ _ _ _ _ _ w).trans ?_
 simp
structure Trm.Kept2 (w wr:World) (o o':Obj):Prop where
 bel:Below w.heap.size w wr
 box:wr.heap[w.heap.size]?=some o
 box':wr.heap[w.heap.size + 1]?=some o'
theorem Trm.Kept2.start (w:World) (o o':Obj):Kept2 w ((w.alloc o).alloc o') o o':=⟨below_two _ _ _,new1of2 _ _ _,new2 _ _ _⟩
theorem Trm.Kept2.step {w wr w1:World} {o o':Obj} (h:Kept2 w wr o o') (b:Below wr.heap.size wr w1):Kept2 w w1 o o':=⟨h.bel.trans (b.mono h.bel.size),keep b h.box,keep b h.box'⟩
theorem Trm.Kept2.drewN {w wr:World} {o o':Obj} (h:Kept2 w wr o o') (n:Nat):Kept2 w (wr.drewN n) o o':=by
 refine h.step ⟨?_,?_,?_,?_,?_⟩ <;> simp [World.drewN]
def Trm.LsRel (w:World) (o o':Obj) (ls ls':List Lv) (i:Value) (wr:World):Prop :=
 ∃ k:Nat,i=.int .i64 k∧k≤ls.length∧ls.take k=ls'.take k∧Kept2 w wr o o'
def Trm.TsRel (w:World) (o o':Obj) (ls ls':List Tm) (i:Value) (wr:World):Prop :=
 ∃ k:Nat,i=.int .i64 k∧k≤ls.length∧ls.take k=ls'.take k∧Kept2 w wr o o'
theorem RefSame_any (a:Tm):∀ (b:Tm) (h h':Hd) (w:World),a.In w.heap.size w h→b.In w.heap.size w h' →
 Calls Tryz.prog 23 #[a.val h,b.val h'] w fun e w'=>e=.returned (.bool (same a b))∧Below w.heap.size w w':=by
 induction a using Tm.ind with
 | h a ih =>
   intro b h h' w hin hin'
   have HIH:=hid ih
   clear ih
   have hfit:=hin.fit
   have hls:=hfit.ls
   have hts:=hfit.ts
   have hfit':=hin'.fit
   have hls':=hfit'.ls
   have hts':=hfit'.ts
   clear hfit hfit'
   have HIN:=hid hin
   have HIN':=hid hin'
   clear hin hin'
   obtain ⟨G,hG⟩:∃ G,G=same a b:=⟨_,rfl⟩
   rw [← hG]
   have HG:=hid hG
   clear hG
   have HN:Hid (¬ a=b→false=G):=hid (fun hn=>by rw [HG.out]; exact same_no hn)
   by_cases h1:a.k=b.k
   ·by_cases h2:a.n=b.n
    ·by_cases h3:a.s=b.s
     ·by_cases h4:a.ls.length=b.ls.length
      ·by_cases h5:a.ts.length=b.ts.length
       ·unfold Tm.val Tm.vals
        have H1:=hid h1
        have H2:=hid h2
        have H3:=hid h3
        have H4:=hid h4
        have H5:=hid h5
        rw [← h1,← h2,← h3,← h4,← h5]
        have HB:Hid (Tm.box b h'=.cells #[.int .u8 a.k,.int .i64 a.n,.string a.s,.slice h'.lo a.ls.length h'.lc,.slice h'.to a.ts.length h'.tc] 25):=hid (by rw [Tm.box,Tm.vals,← h1,← h2,← h3,← h4,← h5])
        clear h1 h2 h3 h4 h5
        go_enter Tryz.func23,Tryz.ntmps23
        go_wp2_with fail
        go_loopw [5] (fun i wr=>LsRel w (a.box h) (b.box h') a.ls b.ls i wr) (fun i _=>a.ls.length - (intOf i).toNat)
        case atStart=>exact ⟨0,rfl,by omega,rfl,by rw [HB.out]; exact Kept2.start _ _ _⟩
        case round =>
         obtain ⟨k,rfl,hk,htk,hkept⟩:=hrel
         have HK:=hid hkept
         have HT:=hid htk
         clear hkept htk
         obtain ⟨c0,c1,c2,c3,c4⟩:=Tm.cells HK.out.box
         have hbox':=HK.out.box'
         obtain ⟨d0,d1,d2,d3,d4⟩:=Tm.cells hbox'
         rw [← H4.out] at d3
         rw [← H5.out] at d4
         clear hbox' c0 c1 c2 d0 d1 d2
         by_cases hlt:k < a.ls.length
         ·have hlt':k < b.ls.length:=by have:=H4.out; omega
          obtain ⟨b1,off1,hao1,l0,l1,l2,l3,l4⟩:=(Trm.LRow.low HIN.out.levels (Tm.In_iff.1 HIN.out).2.2.1 HK.out.bel).place k hlt
          obtain ⟨b2,off2,hao2,m0,m1,m2,m3,m4⟩:=(Trm.LRow.low HIN'.out.levels (Tm.In_iff.1 HIN'.out).2.2.1 HK.out.bel).place k hlt'
          rw [hao1] at c3
          rw [hao2] at d3
          clear hao1 hao2
          have HY:Hid (a.ls[k]=b.ls[k]→a.ls.take (k + 1)=b.ls.take (k + 1)):=hid (take_same hlt hlt' HT.out)
          have HF:Hid (¬ a.ls[k]=b.ls[k]→false=G):=hid (fun hn=>HN.out fun e=>hn (by subst e; rfl))
          generalize a.ls[k]=x at l0 l1 l2 l3 l4 HY HF
          generalize b.ls[k]=y at m0 m1 m2 m3 m4 HY HF
          by_cases hxy:x=y
          ·subst hxy
           have hsame:=eq_self x.p0 x.p1 x.p2 x.p3
           have HY1:=hid (HY.out rfl)
           clear HF HY hlt'
           go_wp2_with fail
           go_quiet (fail)
           go_wp2_with fail
           go_roundw
           case rel=>exact ⟨k + 1,by go_num,by omega,HY1.out,HK.out.drewN _⟩
           case measure=>simp [intOf]; omega
          ·have HF1:=hid (HF.out hxy)
           have hne:((x.c == y.c) && (x.p0 == y.p0 && x.p1 == y.p1 && x.p2 == y.p2 && x.p3 == y.p3))=false:=by
            rw [Bool.eq_false_iff]
            intro hh
            simp only [Bool.and_eq_true,beq_iff_eq] at hh
            exact hxy (Lv.ext_all hh.1 hh.2.1.1.1 hh.2.1.1.2 hh.2.1.2 hh.2.2)
           have harr:=eq_arr 9997 x.p0 x.p1 x.p2 x.p3 y.p0 y.p1 y.p2 y.p3
           generalize (x.p0 == y.p0 && x.p1 == y.p1 && x.p2 == y.p2 && x.p3 == y.p3)=r at hne harr
           have harr':∀ w,(Op.equalIn 9999 33 (.agg #[.int .i64 x.p0,.int .i64 x.p1,.int .i64 x.p2,.int .i64 x.p3]) (.agg #[.int .i64 y.p0,.int .i64 y.p1,.int .i64 y.p2,.int .i64 y.p3])).run Tryz.prog w=.ok r w:=harr
           clear harr
           clear HF HY hlt' hxy
           by_cases hc:x.c=y.c
           ·have hc':(x.c == y.c)=true:=by simpa using hc
            have hr:r=false:=by rw [hc'] at hne; simpa using hne
            subst hr
            clear hne hc
            go_wp2_with fail
            go_quiet (fail)
            go_wp2_with fail
            go_ret
            exact ⟨ret_bool HF1.out,(HK.out.drewN _).bel⟩
           ·have hc':(x.c == y.c)=false:=by simpa using hc
            clear hne hc
            go_wp2_with fail
            go_quiet (fail)
            go_wp2_with fail
            go_ret
            exact ⟨ret_bool HF1.out,(HK.out.drewN _).bel⟩
         ·have HLS:Hid (a.ls=b.ls):=hid (all_same H4.out (by omega) HT.out)
          clear d3 HT
          go_wp2_with fail
          clear c3 c4 d4
          go_loopw [6] (fun i wr=>TsRel w (a.box h) (b.box h') a.ts b.ts i wr) (fun i _=>a.ts.length - (intOf i).toNat)
          case atStart=>exact ⟨0,rfl,by omega,rfl,HK.out⟩
          case round =>
           clear HK hlt hk
           obtain ⟨k,rfl,hk,htk,hkept⟩:=hrel
           have HK:=hid hkept
           have HT:=hid htk
           clear hkept htk
           obtain ⟨c0,c1,c2,c3,c4⟩:=Tm.cells HK.out.box
           have hbox':=HK.out.box'
           obtain ⟨d0,d1,d2,d3,d4⟩:=Tm.cells hbox'
           rw [← H5.out] at d4
           clear hbox' c0 c1 c2 d0 d1 d2 c3 d3
           by_cases hlt:k < a.ts.length
           ·have hlt':k < b.ts.length:=by have:=H5.out; omega
            obtain ⟨b1,off1,hao1,hb1,e1,⟨l0,l1,l2,l3,l4⟩,i1⟩:=(HIN.out.below HK.out.bel).kid k hlt
            obtain ⟨b2,off2,hao2,hb2,e2,⟨m0,m1,m2,m3,m4⟩,i2⟩:=(HIN'.out.below HK.out.bel).kid k hlt'
            rw [hao1] at c4
            rw [hao2] at d4
            clear hao1 hao2
            have HY:Hid (a.ts[k]=b.ts[k]→a.ts.take (k + 1)=b.ts.take (k + 1)):=hid (take_same hlt hlt' HT.out)
            have HF:Hid (¬ a.ts[k]=b.ts[k]→false=G):=hid (fun hn=>HN.out fun e=>hn (by subst e; rfl))
            have HX:=hid (HIH.out _ (List.getElem_mem hlt) b.ts[k] e1 e2)
            have HI1:=hid i1
            have HI2:=hid i2
            clear i1 i2
            generalize a.ts[k]=x at l0 l1 l2 l3 l4 HY HF HX HI1
            generalize b.ts[k]=y at m0 m1 m2 m3 m4 HY HF HX HI2
            have HZ:Hid (∀ W,Below wr.heap.size wr W→Calls Tryz.prog 23 #[x.val e1,y.val e2] W fun e w'=>e=.returned (.bool (same x y))∧Below W.heap.size W w') :=
             hid (fun W hW=>HX.out W (Tm.In.mono (Nat.le_trans HK.out.bel.size hW.size) _ _ (Tm.In.below (hW.mono HK.out.bel.size) _ _ HI1.out)) (Tm.In.mono (Nat.le_trans HK.out.bel.size hW.size) _ _ (Tm.In.below (hW.mono HK.out.bel.size) _ _ HI2.out)))
            unfold Tm.val Tm.vals at HZ
            have z1:w.heap.size < wr.heap.size:=World.block_lt_of_cell? wr _ c4
            have z2:w.heap.size + 1 < wr.heap.size:=World.block_lt_of_cell? wr _ d4
            have z3:b1 < wr.heap.size:=World.block_lt_of_cell? wr _ l0
            have z4:b2 < wr.heap.size:=World.block_lt_of_cell? wr _ m0
            clear HX HI1 HI2 hlt' hb1 hb2
            cases hr:same x y
            ·have HF1:=hid (HF.out (fun e=>by rw [same_iff.2 e] at hr; cases hr))
             rw [hr] at HZ
             clear hr HF HY
             go_wp2_with fail
             go_region_held3 (fun w'=>w'.cell? ⟨w.heap.size,0 + 4,none⟩=some (.slice (some ⟨b1,off1,none⟩) a.ts.length h.tc)∧w'.cell? ⟨w.heap.size + 1,0 + 4,none⟩=some (.slice (some ⟨b2,off2,none⟩) a.ts.length h'.tc)∧w'.cell? ⟨b1,off1 + k * 5,none⟩=some (.int .u8 x.k)∧w'.cell? ⟨b1,off1 + k * 5 + 1,none⟩=some (.int .i64 x.n)∧w'.cell? ⟨b1,off1 + k * 5 + 2,none⟩=some (.string x.s)∧w'.cell? ⟨b1,off1 + k * 5 + 3,none⟩=some (.slice e1.lo x.ls.length e1.lc)∧w'.cell? ⟨b1,off1 + k * 5 + 4,none⟩=some (.slice e1.to x.ts.length e1.tc)∧w'.cell? ⟨b2,off2 + k * 5,none⟩=some (.int .u8 y.k)∧w'.cell? ⟨b2,off2 + k * 5 + 1,none⟩=some (.int .i64 y.n)∧w'.cell? ⟨b2,off2 + k * 5 + 2,none⟩=some (.string y.s)∧w'.cell? ⟨b2,off2 + k * 5 + 3,none⟩=some (.slice e2.lo y.ls.length e2.lc)∧w'.cell? ⟨b2,off2 + k * 5 + 4,none⟩=some (.slice e2.to y.ts.length e2.tc))
              (go_keep)
              ((go_at_call 23; refine (HZ.out _ ?_).mono ?_; exact (Below.refl _ _).drew; rintro e w1 ⟨rfl,bw⟩; have q1:=(bw.cell (p:=⟨w.heap.size,0 + 4,none⟩) z1).trans c4; have q2:=(bw.cell (p:=⟨w.heap.size + 1,0 + 4,none⟩) z2).trans d4; obtain ⟨r0,r1,r2,r3,r4⟩:=TCells.below ⟨l0,l1,l2,l3,l4⟩ (undrew bw) z3; obtain ⟨s0,s1,s2,s3,s4⟩:=TCells.below ⟨m0,m1,m2,m3,m4⟩ (undrew bw) z4))
             have HK1:=hid (HK.out.step (undrew bw))
             clear bw r0 r1 r2 r3 r4 s0 s1 s2 s3 s4 q1 q2 c4 d4 l0 l1 l2 l3 l4 m0 m1 m2 m3 m4
             go_wp2_with fail
             go_ret
             exact ⟨ret_bool HF1.out,HK1.out.bel⟩
            ·have HY1:=hid (HY.out (same_iff.1 hr))
             rw [hr] at HZ
             clear hr HF HY
             go_wp2_with fail
             go_region_held3 (fun w'=>w'.cell? ⟨w.heap.size,0 + 4,none⟩=some (.slice (some ⟨b1,off1,none⟩) a.ts.length h.tc)∧w'.cell? ⟨w.heap.size + 1,0 + 4,none⟩=some (.slice (some ⟨b2,off2,none⟩) a.ts.length h'.tc)∧w'.cell? ⟨b1,off1 + k * 5,none⟩=some (.int .u8 x.k)∧w'.cell? ⟨b1,off1 + k * 5 + 1,none⟩=some (.int .i64 x.n)∧w'.cell? ⟨b1,off1 + k * 5 + 2,none⟩=some (.string x.s)∧w'.cell? ⟨b1,off1 + k * 5 + 3,none⟩=some (.slice e1.lo x.ls.length e1.lc)∧w'.cell? ⟨b1,off1 + k * 5 + 4,none⟩=some (.slice e1.to x.ts.length e1.tc)∧w'.cell? ⟨b2,off2 + k * 5,none⟩=some (.int .u8 y.k)∧w'.cell? ⟨b2,off2 + k * 5 + 1,none⟩=some (.int .i64 y.n)∧w'.cell? ⟨b2,off2 + k * 5 + 2,none⟩=some (.string y.s)∧w'.cell? ⟨b2,off2 + k * 5 + 3,none⟩=some (.slice e2.lo y.ls.length e2.lc)∧w'.cell? ⟨b2,off2 + k * 5 + 4,none⟩=some (.slice e2.to y.ts.length e2.tc))
              (go_keep)
              ((go_at_call 23; refine (HZ.out _ ?_).mono ?_; exact (Below.refl _ _).drew; rintro e w1 ⟨rfl,bw⟩; have q1:=(bw.cell (p:=⟨w.heap.size,0 + 4,none⟩) z1).trans c4; have q2:=(bw.cell (p:=⟨w.heap.size + 1,0 + 4,none⟩) z2).trans d4; obtain ⟨r0,r1,r2,r3,r4⟩:=TCells.below ⟨l0,l1,l2,l3,l4⟩ (undrew bw) z3; obtain ⟨s0,s1,s2,s3,s4⟩:=TCells.below ⟨m0,m1,m2,m3,m4⟩ (undrew bw) z4))
             have HK1:=hid (HK.out.step (undrew bw))
             clear bw r0 r1 r2 r3 r4 s0 s1 s2 s3 s4 q1 q2 c4 d4 l0 l1 l2 l3 l4 m0 m1 m2 m3 m4
             go_wp2_with fail
             go_roundw
             case rel=>exact ⟨k + 1,by go_num,by omega,HY1.out,HK1.out⟩
             case measure=>simp [intOf]; omega
           ·have HE:Hid (true=G):=hid (by
             rw [HG.out]
             exact same_yes (Tm.ext H1.out H2.out H3.out HLS.out (all_same H5.out (by omega) HT.out)))
            go_wp2_with fail
            go_ret
            exact ⟨ret_bool HE.out,HK.out.bel⟩
       ·have HF1:Hid (false=G):=hid (HN.out (fun e=>h5 (by rw [e])))
        have q:((a.ts.length:Int) != b.ts.length)=true:=by simp; omega
        unfold Tm.val Tm.vals
        rw [← h1,← h2,← h3,← h4]
        clear h5 h1 h2 h3 h4
        go_enter Tryz.func23,Tryz.ntmps23
        go_wp2_with fail
        go_ret
        exact ⟨ret_bool HF1.out,below_two _ _ _⟩
      ·have HF1:Hid (false=G):=hid (HN.out (fun e=>h4 (by rw [e])))
       have q:((a.ls.length:Int) != b.ls.length)=true:=by simp; omega
       unfold Tm.val Tm.vals
       rw [← h1,← h2,← h3]
       clear h4 h1 h2 h3
       go_enter Tryz.func23,Tryz.ntmps23
       go_wp2_with fail
       go_ret
       exact ⟨ret_bool HF1.out,below_two _ _ _⟩
     ·have HF1:Hid (false=G):=hid (HN.out (fun e=>h3 (by rw [e])))
      have q:¬ a.s.toList=b.s.toList:=fun e=>h3 (Go.WideShapes.bytes_inj (by rwa [ByteArray.toList_eq,ByteArray.toList_eq] at e))
      unfold Tm.val Tm.vals
      rw [← h1,← h2]
      clear h3 h1 h2
      go_enter Tryz.func23,Tryz.ntmps23
      go_wp2_with fail
      go_ret
      exact ⟨ret_bool HF1.out,below_two _ _ _⟩
    ·have HF1:Hid (false=G):=hid (HN.out (fun e=>h2 (by rw [e])))
     have q:(a.n != b.n)=true:=by simpa using h2
     unfold Tm.val Tm.vals
     rw [← h1]
     clear h2 h1
     go_enter Tryz.func23,Tryz.ntmps23
     go_wp2_with fail
     go_ret
     exact ⟨ret_bool HF1.out,below_two _ _ _⟩
   ·have HF1:Hid (false=G):=hid (HN.out (fun e=>h1 (by rw [e])))
    have q:(a.k != b.k)=true:=by simpa using h1
    unfold Tm.val Tm.vals
    clear h1
    go_enter Tryz.func23,Tryz.ntmps23
    go_wp2_with fail
    go_ret
    exact ⟨ret_bool HF1.out,below_two _ _ _⟩
end Go.Proofs.YtmngddomnaaedaaGreat
namespace Go.Proofs.YtmngddomnaaedaaGreat
open Go.RowKit Go.Shelf Lvl Trm
def Trm.Drawn (w wr:World):Prop:=∃ n,wr=w.drewN n
theorem Trm.Drawn.refl (w:World):Drawn w w:=⟨0,by simp [World.drewN]⟩
theorem Trm.Drawn.of (w:World) (n:Nat):Drawn w (w.drewN n):=⟨n,rfl⟩
theorem Trm.Drawn.more {w wr:World} (h:Drawn w wr) (n:Nat):Drawn w (wr.drewN n):=by
 obtain ⟨a,rfl⟩:=h
 exact ⟨a + n,by rw [World.drewN_drewN]⟩
theorem Trm.Drawn.heap {w wr:World} (h:Drawn w wr):wr.heap=w.heap:=by
 obtain ⟨a,rfl⟩:=h
 simp [World.drewN]
theorem Trm.Drawn.below {w wr:World} (h:Drawn w wr) (B:Nat):Below B w wr:=by
 obtain ⟨a,rfl⟩:=h
 exact drew_below _ _ _
theorem Trm.cell_heap {w wr:World} (h:wr.heap=w.heap) (p:Addr):wr.cell? p=w.cell? p:=by simp [World.cell?,h]
theorem Trm.LAt.heap {w wr:World} {b o:Nat} {l:Lv} (h:wr.heap=w.heap) (g:LAt w b o l):LAt wr b o l :=
 ⟨(cell_heap h _).trans g.1,(cell_heap h _).trans g.2.1,(cell_heap h _).trans g.2.2.1,(cell_heap h _).trans g.2.2.2.1,(cell_heap h _).trans g.2.2.2.2⟩
theorem Trm.LRow.heap {w wr:World} {ao:Option Addr} {ls:List Lv} (h:wr.heap=w.heap) (g:LRow w ao ls):LRow wr ao ls:=by
 refine ⟨fun k hk=>?_⟩
 obtain ⟨b,off,hao,ha⟩:=g.place k hk
 exact ⟨b,off,hao,LAt.heap h ha⟩
theorem Trm.TCells.heap {w wr:World} {b o:Nat} {t:Tm} {h:Hd} (e:wr.heap=w.heap) (c:TCells w b o t h):TCells wr b o t h :=
 ⟨(cell_heap e _).trans c.c0,(cell_heap e _).trans c.c1,(cell_heap e _).trans c.c2,(cell_heap e _).trans c.c3,(cell_heap e _).trans c.c4⟩
theorem Trm.In.heap {B:Nat} {w wr:World} (e:wr.heap=w.heap) (t:Tm):∀ h,t.In B w h→t.In B wr h:=by
 induction t using Tm.ind with
 | h t ih =>
   intro h hi
   obtain ⟨h1,h2,h3,h4⟩:=Tm.In_iff.1 hi
   refine Tm.In_iff.2 ⟨h1,LRow.heap e h2,h3,RowIn.mk fun k hk=>?_,h4.2⟩
   obtain ⟨b,off,hao,hb,h',hc,hin⟩:=h4.1.place k hk
   exact ⟨b,off,hao,hb,h',TCells.heap e hc,ih _ (List.getElem_mem hk) h' hin⟩
noncomputable def Trm.sameL (a b:List Lv):Bool:=@decide (a=b) (Classical.propDecidable _)
theorem Trm.sameL_iff {a b:List Lv}:sameL a b=true ↔ a=b:=by unfold sameL; simp
theorem Trm.sameL_yes {a b:List Lv} (h:a=b):true=sameL a b:=(sameL_iff.2 h).symm
theorem Trm.sameL_no {a b:List Lv} (h:¬ a=b):false=sameL a b:=by
 cases hs:sameL a b
 ·rfl
 ·exact absurd (sameL_iff.1 hs) h
def Trm.EqRel (w:World) (ls ls':List Lv) (i:Value) (wr:World):Prop :=
 ∃ k:Nat,i=.int .i64 k∧k≤ls.length∧ls.take k=ls'.take k∧Drawn w wr
theorem Equal_any (ao bo:Option Addr) (ca cb:Nat) (la lb:List Lv) (w:World) (ha:LRow w ao la) (hb:LRow w bo lb) (hna:la.length≤9223372036854775807) :
 Calls Tryz.prog 87 #[.slice ao la.length ca,.slice bo lb.length cb] w fun e w'=>e=.returned (.bool (sameL la lb))∧Drawn w w':=by
 obtain ⟨G,hG⟩:∃ G,G=sameL la lb:=⟨_,rfl⟩
 rw [← hG]
 have HG:=hid hG
 have HA:=hid ha
 have HB:=hid hb
 clear hG ha hb
 have HN:Hid (¬ la=lb→false=G):=hid (fun hn=>by rw [HG.out]; exact sameL_no hn)
 by_cases hl:la.length=lb.length
 ·have HL:=hid hl
  rw [← hl]
  clear hl
  go_enter Tryz.func87,Tryz.ntmps87
  go_wp2_with fail
  go_loopw [13] (fun i wr=>EqRel w la lb i wr) (fun i _=>la.length - (intOf i).toNat)
  case atStart=>exact ⟨0,rfl,by omega,rfl,Drawn.refl _⟩
  case round =>
   obtain ⟨k,rfl,hk,htk,hdr⟩:=hrel
   have HT:=hid htk
   have HD:=hid hdr
   clear htk hdr
   by_cases hlt:k < la.length
   ·have hlt':k < lb.length:=by have:=HL.out; omega
    obtain ⟨b1,off1,hao1,l0,l1,l2,l3,l4⟩:=(Trm.LRow.heap HD.out.heap HA.out).place k hlt
    obtain ⟨b2,off2,hao2,m0,m1,m2,m3,m4⟩:=(Trm.LRow.heap HD.out.heap HB.out).place k hlt'
    have HY:Hid (la[k]=lb[k]→la.take (k + 1)=lb.take (k + 1)):=hid (take_same hlt hlt' HT.out)
    have HF:Hid (¬ la[k]=lb[k]→false=G):=hid (fun hn=>HN.out fun e=>hn (by subst e; rfl))
    generalize la[k]=x at l0 l1 l2 l3 l4 HY HF
    generalize lb[k]=y at m0 m1 m2 m3 m4 HY HF
    subst hao1
    subst hao2
    by_cases hxy:x=y
    ·subst hxy
     have hsame:=eq_self x.p0 x.p1 x.p2 x.p3
     have HY1:=hid (HY.out rfl)
     clear HF HY hlt'
     go_wp2_with fail
     go_quiet (fail)
     go_wp2_with fail
     go_roundw
     case rel=>exact ⟨k + 1,by go_num,by omega,HY1.out,HD.out.more _⟩
     case measure=>simp [intOf]; omega
    ·have HF1:=hid (HF.out hxy)
     have hne:((x.c == y.c) && (x.p0 == y.p0 && x.p1 == y.p1 && x.p2 == y.p2 && x.p3 == y.p3))=false:=by
      rw [Bool.eq_false_iff]
      intro hh
      simp only [Bool.and_eq_true,beq_iff_eq] at hh
      exact hxy (Lv.ext_all hh.1 hh.2.1.1.1 hh.2.1.1.2 hh.2.1.2 hh.2.2)
     have harr:=eq_arr 9997 x.p0 x.p1 x.p2 x.p3 y.p0 y.p1 y.p2 y.p3
     generalize (x.p0 == y.p0 && x.p1 == y.p1 && x.p2 == y.p2 && x.p3 == y.p3)=r at hne harr
     have harr':∀ w,(Op.equalIn 9999 33 (.agg #[.int .i64 x.p0,.int .i64 x.p1,.int .i64 x.p2,.int .i64 x.p3]) (.agg #[.int .i64 y.p0,.int .i64 y.p1,.int .i64 y.p2,.int .i64 y.p3])).run Tryz.prog w=.ok r w:=harr
     clear harr
     clear HF HY hlt' hxy
     by_cases hc:x.c=y.c
     ·have hc':(x.c == y.c)=true:=by simpa using hc
      have hr:r=false:=by rw [hc'] at hne; simpa using hne
      subst hr
      clear hne hc
      go_wp2_with fail
      go_quiet (fail)
      go_wp2_with fail
      go_ret
      exact ⟨ret_bool HF1.out,HD.out.more _⟩
     ·have hc':(x.c == y.c)=false:=by simpa using hc
      clear hne hc
      go_wp2_with fail
      go_quiet (fail)
      go_wp2_with fail
      go_ret
      exact ⟨ret_bool HF1.out,HD.out.more _⟩
   ·have HE:Hid (true=G):=hid (by
     rw [HG.out]
     exact sameL_yes (all_same HL.out (by omega) HT.out))
    go_wp2_with fail
    go_ret
    exact ⟨ret_bool HE.out,HD.out⟩
 ·have HF1:=hid (HN.out (fun e=>hl (by rw [e])))
  have q:((la.length:Int) != lb.length)=true:=by simp; omega
  clear hl
  go_enter Tryz.func87,Tryz.ntmps87
  go_wp2_with fail
  go_ret
  exact ⟨ret_bool HF1.out,Drawn.refl _⟩
end Go.Proofs.YtmngddomnaaedaaGreat
namespace Go.Proofs.YtmngddomnaaedaaGreat
open Go.RowKit Go.Shelf Lvl Trm
theorem Trm.carry {t:Tm} {h:Hd} {w w':World} (hi:t.In w.heap.size w h) (b:Below w.heap.size w w'):t.In w'.heap.size w' h:=Tm.In.mono b.size _ _ (Tm.In.below b _ _ hi)
theorem Trm.go {w W w1:World} (h:Below w.heap.size w W) (b:Below W.heap.size W w1):Below w.heap.size w w1:=h.trans (b.mono h.size)
theorem Trm.appl_snoc (g:Tm) (m:List Tm) (x:Tm):appl g (m ++ [x])=t2 4 (appl g m) x:=by simp [appl]
def Trm.zeroTm:Tm:=.mk 0 0 no [] []
end Go.Proofs.YtmngddomnaaedaaGreat
namespace Go.Proofs.YtmngddomnaaedaaGreat
open Go.RowKit Go.Shelf Lvl Trm
def Trm.LiftInv (fr by_:Int) (C F Y:Nat) (_:Unit) (w:World):Prop:=w.heap[C]?=some (.cells #[.func (.func 199) #[] #[.pointer (some ⟨F,0,none⟩),.pointer (some ⟨Y,0,none⟩)]] 218)∧w.heap[F]?=some (.cells #[.int .i64 fr] 3)∧w.heap[Y]?=some (.cells #[.int .i64 by_] 3)
theorem Trm.LiftInv.keep {fr by_:Int} {C F Y N:Nat} (hC:C < N) (hF:F < N) (hY:Y < N) (st:Unit) (w w':World) (h:LiftInv fr by_ C F Y st w) (b:Below N w w'):LiftInv fr by_ C F Y st w' :=
 ⟨(b.block _ hC).trans h.1,(b.block _ hF).trans h.2.1,(b.block _ hY).trans h.2.2⟩
end Go.Proofs.YtmngddomnaaedaaGreat
