/-
 What the statements of env make: terms,infos,an environment of their own.
-/
import Derived.Lib.Hide
import Derived.Test.YtmngddomnaaedaaGreatQB24
import Derived.Test.YtmngddomnaaedaaGreatQB15
open Go.Lib (hid)
set_option maxRecDepth 100000
set_option maxHeartbeats 32000000
namespace Go.Proofs.YtmngddomnaaedaaGreat
open Go.RowKit Go.Shelf Go.Maps Lvl Trm Env
theorem Env.firm_leafE {P:Nat→Prop} {w:World} {k n:Int} {s:ByteArray} {lc tc:Nat} (hk0:0≤k) (hk1:k≤255) (hn0:-9223372036854775808≤n) (hn1:n≤9223372036854775807) (hs:s.size≤9223372036854775807):FirmS P w (.mk k n s [] []) ⟨none,lc,none,tc⟩ :=
 fun _ _=>leaf_in hk0 hk1 hn0 hn1 hs
def Env.MadeE (t:Tm) (w:World) (e:Ending) (w':World):Prop:=∃ h,e=.returned (t.val h)∧Below w.heap.size w w'∧∀ P:Nat→Prop,(∀ q,P q→q < w.heap.size)→FirmS P w' t h
namespace Env
theorem one_row {P:Nat→Prop} {W:World} {x:Inf} {h:IHd} (f:FirmI P W x h) (hP:∀ q,P q→q < W.heap.size) (ty:TypeId):InfFirm P (W.alloc (.cells (x.vals h).toArray ty)) (some ⟨W.heap.size,0,none⟩) [x]:=⟨fun k hk=>by
 have hk0:k=0:=by simp at hk; omega
 subst hk0
 refine ⟨W.heap.size,0,h,rfl,by rw [World.size_alloc]; omega,fun a=>by have:=hP _ a; omega,fun j v hv=>?_,f.step (RanS.of_below (below_one _ _))⟩
 have hn:=World.alloc_heap_new W (.cells (x.vals h).toArray ty)
 have hv2:(x.vals h)[j]?=some v:=hv
 rw [show 0 + 0 * 25 + j=j by omega]
 unfold World.cell?
 show (match (W.alloc (.cells (x.vals h).toArray ty)).heap[W.heap.size]? with | some (.cells c _ _)=>c[j]? | _=>none)=some v
 rw [hn]
 simpa using hv2⟩
structure WS (w W:World) (P:Nat→Prop) (e:Nat) (L:List Ent) (mo:Option Nat) (v:Value):Prop where
 env:EnvP P w.heap.size W e L mo v
 base:∀ q,P q→w.heap.size≤q
 bel:Below w.heap.size w W
theorem WS.below {w W W':World} {P:Nat→Prop} {e:Nat} {L:List Ent} {mo:Option Nat} {v:Value} (h:WS w W P e L mo v) (b:Below W.heap.size W W'):WS w W' P e L mo v:=⟨h.env.below b,h.base,Trm.go h.bel b⟩
theorem WS.add {w W W':World} {P:Nat→Prop} {e:Nat} {L:List Ent} {mo:Option Nat} {v:Value} {l:List Inf} {y:Ending} (h:WS w W P e L mo v) (a:AddP P w.heap.size e L mo v W l y W') :
 y=.returned (.int .i64 (addA L l))∧∃ M mo' v' P',AddTo L l M∧WS w W' P' e M mo' v'∧Step P P' W W':=by
 obtain ⟨hy,M,mo',v',P',h1,h2,h3,h4,h5,h6⟩:=a
 have hs:=h.bel.size
 have hb:∀ q,P' q→w.heap.size≤q:=fun q hq=>by
  rcases h3.own q hq with b | b
  ·exact h.base q b
  ·omega
 exact ⟨hy,M,mo',v',P',h1,⟨h2,hb,h.bel.trans (h3.ran.below h.base hs)⟩,h3⟩
theorem WS.new {w w0:World} (hb:Below w0.heap.size w0 w):WS w0 (w.alloc (.cells #[.map none,.slice none 0 0] 110)) (fun q=>q=w.heap.size) w.heap.size [] none (.slice none 0 0):=by
 have h:=EnvB.start (w:=w) hb.size
 have ho:∀ q,ownE w.heap.size (.slice none 0 0) none q→q=w.heap.size:=by
  rintro q (hq | hq | hq)
  ·exact hq
  ·simp [Value.ownBlock] at hq
  ·cases hq
 exact ⟨⟨h,ho,fun q hq=>by rw [hq,World.size_alloc]; omega,fun p hp=>by simp at hp⟩,fun q hq=>by rw [hq]; exact hb.size,hb.trans ((below_one _ _).mono hb.size)⟩
theorem Added.one {L M:List Ent} {x:Inf} (h:Added L [x] M):∃ b hd,M=L ++ [(b,fixI L x,hd)]:=by
 generalize hl:[x]=l at h
 cases h with
 | nil=>cases hl
 | snoc y b hd h2 =>
   rename_i l2 M2
   have h3:l2=[]∧x=y:=by
    cases l2 with
    | nil=>simp at hl; exact ⟨rfl,hl⟩
    | cons a r=>simp at hl
   obtain ⟨rfl,rfl⟩:=h3
   have:M2=L:=by
    generalize hn:([]:List Inf)=l3 at h2
    cases h2 with
    | nil=>rfl
    | snoc y b hd h4=>simp at hn
   subst this
   exact ⟨b,hd,rfl⟩
theorem AddTo.yes {L M:List Ent} {l:List Inf} (a:AddTo L l M) (h:addA L l=0):Added L l M:=by
 rcases a with a | a
 ·exact a.2
 ·exact absurd h a.1
theorem AddTo.no {L M:List Ent} {l:List Inf} (a:AddTo L l M) (h:addA L l ≠ 0):M=L:=by
 rcases a with a | a
 ·exact absurd a.1 h
 ·exact a.2
theorem WS.addOne {w W:World} {P:Nat→Prop} {e:Nat} {L:List Ent} {mo:Option Nat} {v:Value} {x:Inf} {hx:IHd} (h:WS w W P e L mo v) (f:FirmI P W x hx) (hr:x.rules.length≤1000) :
 Calls Tryz.prog 30 #[.pointer (some ⟨e,0,none⟩),.slice (some ⟨W.heap.size,0,none⟩) 1 1] (W.alloc (.cells (x.vals hx).toArray 53)) fun y W' =>
  y=.returned (.int .i64 (addA L [x]))∧∃ M mo' v' P',AddTo L [x] M∧WS w W' P' e M mo' v'∧Step P P' W W':=by
 have hb:Below W.heap.size W (W.alloc (.cells (x.vals hx).toArray 53)):=below_one _ _
 have h2:=h.below hb
 refine (addP_any h2.env [x] (some ⟨W.heap.size,0,none⟩) 1 (one_row f h.env.lt _) (by simp) (fun y hy=>by simp at hy; subst hy; exact hr)).mono ?_
 intro y W' a
 obtain ⟨hy,M,mo',v',P',h3,h4,h5⟩:=h2.add a
 exact ⟨hy,M,mo',v',P',h3,h4,(Step.of_below hb).trans h5⟩
def HoldI (P:Nat→Prop) (W:World) (b:Nat) (x:Inf) (h:IHd):Prop:=W.heap[b]?=some (.cells (x.vals h).toArray 53)∧¬ P b∧FirmI P W x h
theorem HoldI.step {P P':Nat→Prop} {W W':World} {b:Nat} {x:Inf} {h:IHd} (k:HoldI P W b x h) (s:Step P P' W W'):HoldI P' W' b x h:=⟨(s.block k.1 k.2.1).1,(s.block k.1 k.2.1).2,s.inf k.2.2⟩
theorem HoldI.new {P:Nat→Prop} {W:World} {x:Inf} {h:IHd} (f:FirmI P W x h) (hP:∀ q,P q→q < W.heap.size):HoldI P (W.alloc (.cells (x.vals h).toArray 53)) W.heap.size x h :=
 ⟨World.alloc_heap_new _ _,fun a=>by have:=hP _ a; omega,f.step (RanS.of_below (below_one _ _))⟩
theorem FdPost.yes {P:Nat→Prop} {L:List Ent} {k:List UInt8} {w w':World} {y:Ending} {p:Ent} (a:FdPost P L k w y w') (h:lookE L k=some p) :
 ∃ hd,y=.returned (.tuple #[.agg (p.2.1.vals hd).toArray,.bool true])∧FirmI P w' p.2.1 hd∧Below w.heap.size w w':=by
 obtain ⟨b,⟨h1,_⟩ | ⟨q,hd,h1,h2,h3⟩⟩:=a
 ·rw [h] at h1; cases h1
 ·rw [h] at h1; injection h1 with h1; subst h1; exact ⟨hd,h2,h3,b⟩
theorem FdPost.no {P:Nat→Prop} {L:List Ent} {k:List UInt8} {w w':World} {y:Ending} (a:FdPost P L k w y w') (h:lookE L k=none) :
 y=.returned (.tuple #[zInfo,.bool false])∧Below w.heap.size w w':=by
 obtain ⟨b,⟨_,h1⟩ | ⟨q,hd,h1,_⟩⟩:=a
 ·exact ⟨h1,b⟩
 ·rw [h] at h1; cases h1
end Env
theorem findP_any {P:Nat→Prop} {B:Nat} {w:World} {e:Nat} {L:List Ent} {mo:Option Nat} {v:Value} (h:EnvP P B w e L mo v) (s:ByteArray) (hs:s.size≤maxLen) (hrs:∀ p ∈ L,p.2.1.rules.length≤1000) :
 Calls Tryz.prog 29 #[.pointer (some ⟨e,0,none⟩),.string s] w (FdPost P L (key s) w):=find_any h.env h.lt (fun p hp=>(h.ent p hp).2) s hs hrs
end Go.Proofs.YtmngddomnaaedaaGreat
namespace Go.Proofs.YtmngddomnaaedaaGreat
open Go.RowKit Go.Shelf Go.Maps Lvl Trm Env
namespace Env
def lvU:Lv:=⟨0,0,-1,-1,-1⟩
def tSo (l:Lv):Tm:=.mk 1 0 no [l] []
def tCo (s:ByteArray) (ls:List Lv):Tm:=.mk 3 0 s ls []
theorem row1_in {B:Nat} {w:World} {g:Nat} {k:Int} {s:ByteArray} {l:Lv} {c:Nat} {fr:Nat × Nat} {ty:TypeId} (hk0:0≤k) (hk1:k≤255) (hs:s.size≤9223372036854775807) (hg:w.heap[g]?=some (.cells #[.int .i64 l.c,.int .i64 l.p0,.int .i64 l.p1,.int .i64 l.p2,.int .i64 l.p3] ty fr)) (hB:g < B) (hc:1≤c:=by omega) :
 (Tm.mk k 0 s [l] []).In B w ⟨some ⟨g,0,none⟩,c,none,0⟩:=by
 refine Tm.In_iff.2 ⟨⟨by simpa [Tm.k] using hk0,by simpa [Tm.k] using hk1,by simp [Tm.n],by simp [Tm.n],by simpa [Tm.s] using hs,by simp [Tm.ls],by simp [Tm.ts]⟩,⟨fun k hk=>?_⟩,fun _ a ha=>by cases ha; exact hB,RowIn.mk fun i hi=>by simp [Tm.ts] at hi,by simpa [Tm.ls] using hc⟩
 have hk0:k=0:=by simp [Tm.ls] at hk; omega
 subst hk0
 refine ⟨g,0,rfl,?_,?_,?_,?_,?_⟩ <;> (simp [World.cell?,hg,Tm.ls])
theorem firm_row1 {P:Nat→Prop} {w:World} {g:Nat} {k:Int} {s:ByteArray} {l:Lv} {c:Nat} {fr:Nat × Nat} {ty:TypeId} (hk0:0≤k) (hk1:k≤255) (hs:s.size≤9223372036854775807) (hg:w.heap[g]?=some (.cells #[.int .i64 l.c,.int .i64 l.p0,.int .i64 l.p1,.int .i64 l.p2,.int .i64 l.p3] ty fr)) (hn:¬ P g) (hc:1≤c:=by omega) :
 FirmS P w (.mk k 0 s [l] []) ⟨some ⟨g,0,none⟩,c,none,0⟩:=fun w' hr=>row1_in hk0 hk1 hs (hr.keep hg hn) (by have:=(Array.getElem?_eq_some_iff.1 hg).1; have:=hr.size; omega) hc
end Env
theorem Lev8_any (n:Int) (w:World):Calls Tryz.prog 18 #[.int .i64 n] w (fun e w'=>e=.returned (number n).val∧Below w.heap.size w w'):=by
 go_enter Tryz.func18,Tryz.ntmps18
 go_wp2_with fail
 refine (RefZero_any _).mono ?_
 rintro e w1 ⟨rfl,b1⟩
 have hk:=Lvl.keep b1 (World.alloc_heap_new w _)
 have hz:=b1.size
 simp only [World.size_alloc] at hz
 have HB:=hid ((below_one w _).trans (b1.mono (B':=w.heap.size) (by simp)))
 clear b1
 have hlt:w.heap.size < w1.heap.size:=by omega
 obtain ⟨c0,c1,c2,c3,c4⟩:=five_cells hk
 obtain ⟨f0,f1,f2,f3,f4⟩:=five_free hk
 have HK:=hid hk
 clear hk
 dsimp only [Lv.val,number]
 go_wp2_with fail
 have h5:=putT_self HK.out (.int .i64 n) (.int .i64 (-1)) (.int .i64 (-1)) (.int .i64 (-1)) (.int .i64 (-1))
 have b5:=putT_below HB.out (B:=w.heap.size) (Nat.le_refl _) (.int .i64 n) (.int .i64 (-1)) (.int .i64 (-1)) (.int .i64 (-1)) (.int .i64 (-1))
 have z5:=putT_size w1 w.heap.size (.int .i64 n) (.int .i64 (-1)) (.int .i64 (-1)) (.int .i64 (-1)) (.int .i64 (-1))
 unfold putT at h5 b5 z5
 generalize hW:((((w1.setCell ⟨w.heap.size,0,none⟩ (.int .i64 n)).setCell ⟨w.heap.size,1,none⟩ (.int .i64 (-1))).setCell ⟨w.heap.size,2,none⟩ (.int .i64 (-1))).setCell ⟨w.heap.size,3,none⟩ (.int .i64 (-1))).setCell ⟨w.heap.size,4,none⟩ (.int .i64 (-1))=W4 at h5 b5 z5 ⊢
 obtain ⟨e0,e1,e2,e3,e4⟩:=five_cells (keepA h5 (.cells #[.int .i64 n,.int .i64 (-1),.int .i64 (-1),.int .i64 (-1),.int .i64 (-1)] 35))
 clear hW
 exact bodyPost_ret (v:=(number n).val) (by simp [results,Tryz.results18,go_sem,e0,e1,e2,e3,e4,Lv.val,number]) rfl ⟨rfl,b5.alloc b5.size _⟩
theorem U8_any (w:World):Calls Tryz.prog 112 #[] w (fun e w'=>e=.returned (lvU).val∧Below w.heap.size w w'):=by
 go_enter Tryz.func112,Tryz.ntmps112
 go_wp2_with fail
 refine (RefZero_any _).mono ?_
 rintro e w1 ⟨rfl,b1⟩
 have hk:=Lvl.keep b1 (World.alloc_heap_new w _)
 have hz:=b1.size
 simp only [World.size_alloc] at hz
 have HB:=hid ((below_one w _).trans (b1.mono (B':=w.heap.size) (by simp)))
 clear b1
 have hlt:w.heap.size < w1.heap.size:=by omega
 obtain ⟨c0,c1,c2,c3,c4⟩:=five_cells hk
 obtain ⟨f0,f1,f2,f3,f4⟩:=five_free hk
 have HK:=hid hk
 clear hk
 dsimp only [Lv.val,number]
 go_wp2_with fail
 have h5:=putT_self HK.out (.int .i64 0) (.int .i64 0) (.int .i64 (-1)) (.int .i64 (-1)) (.int .i64 (-1))
 have b5:=putT_below HB.out (B:=w.heap.size) (Nat.le_refl _) (.int .i64 0) (.int .i64 0) (.int .i64 (-1)) (.int .i64 (-1)) (.int .i64 (-1))
 have z5:=putT_size w1 w.heap.size (.int .i64 0) (.int .i64 0) (.int .i64 (-1)) (.int .i64 (-1)) (.int .i64 (-1))
 unfold putT at h5 b5 z5
 generalize hW:((((w1.setCell ⟨w.heap.size,0,none⟩ (.int .i64 0)).setCell ⟨w.heap.size,1,none⟩ (.int .i64 0)).setCell ⟨w.heap.size,2,none⟩ (.int .i64 (-1))).setCell ⟨w.heap.size,3,none⟩ (.int .i64 (-1))).setCell ⟨w.heap.size,4,none⟩ (.int .i64 (-1))=W4 at h5 b5 z5 ⊢
 obtain ⟨e0,e1,e2,e3,e4⟩:=five_cells (keepA h5 (.cells #[.int .i64 0,.int .i64 0,.int .i64 (-1),.int .i64 (-1),.int .i64 (-1)] 35))
 clear hW
 exact bodyPost_ret (v:=(lvU).val) (by simp [results,Tryz.results112,go_sem,e0,e1,e2,e3,e4,Lv.val,lvU]) rfl ⟨rfl,b5.alloc b5.size _⟩
theorem V8_any (n:Int) (w:World):Calls Tryz.prog 42 #[.int .i64 n] w (fun e w'=>e=.returned ((tV n).val zHd)∧Below w.heap.size w w'):=by
 go_enter Tryz.func42,Tryz.ntmps42
 go_wp2_with fail
 exact bodyPost_ret (v:=(tV n).val zHd) (by simp [results,Tryz.results42,go_sem,tV,Tm.val,Tm.vals,Tm.k,Tm.n,Tm.s,Tm.ls,Tm.ts,no,zHd]) rfl ⟨rfl,below_one _ _⟩
theorem So8_any (l:Lv) (w:World):Calls Tryz.prog 111 #[l.val] w (MadeE (tSo l) w):=by
 unfold Lv.val
 go_enter Tryz.func111,Tryz.ntmps111
 go_wp2_with fail
 have l5:=World.alloc_heap_new ((w.alloc (.cells #[.int .i64 l.c,.int .i64 l.p0,.int .i64 l.p1,.int .i64 l.p2,.int .i64 l.p3] 35)).alloc (.cells #[.int .u8 1,.int .i64 0,.string ⟨#[]⟩,.slice (some ⟨w.heap.size + 1 + 1,0,none⟩) 1 1,.slice none 0 0] 25)) (.cells #[.int .i64 l.c,.int .i64 l.p0,.int .i64 l.p1,.int .i64 l.p2,.int .i64 l.p3] 35)
 simp only [World.size_alloc] at l5
 refine bodyPost_ret (v:=(tSo l).val ⟨some ⟨w.heap.size + 1 + 1,0,none⟩,1,none,0⟩) (by simp [results,Tryz.results111,go_sem,tSo,Tm.val,Tm.vals,Tm.k,Tm.n,Tm.s,Tm.ls,Tm.ts,no]) rfl ⟨_,rfl,(((Below.refl _ _).alloc (Nat.le_refl _) _).alloc (by simp) _).alloc (by simp; omega) _,fun P hP=>firm_row1 (by decide) (by decide) (by decide) l5 (fun a=>by have:=hP _ a; omega)⟩
theorem Co8_any (s:ByteArray) (ls:List Lv) (lo:Option Addr) (lc:Nat) (w:World):Calls Tryz.prog 17 #[.string s,.slice lo ls.length lc] w (fun e w'=>e=.returned ((tCo s ls).val ⟨lo,lc,none,0⟩)∧Below w.heap.size w w'):=by
 go_enter Tryz.func17,Tryz.ntmps17
 go_wp2_with fail
 exact bodyPost_ret (v:=(tCo s ls).val ⟨lo,lc,none,0⟩) (by simp [results,Tryz.results17,go_sem,tCo,Tm.val,Tm.vals,Tm.k,Tm.n,Tm.s,Tm.ls,Tm.ts]) rfl ⟨rfl,below_one _ _⟩
theorem L8_firm (f x:Tm) (hf hx:Hd) (w:World) :
 Calls Tryz.prog 113 #[f.val hf,x.val hx] w (MadeP (t2 5 f x) w (fun P=>FirmS P w f hf∧FirmS P w x hx)):=by
 unfold Tm.val Tm.vals
 go_enter Tryz.func113,Tryz.ntmps113
 go_wp2_with fail
 have hb:=below_four w (f.box hf) (x.box hx) (.cells #[.int .u8 5,.int .i64 0,.string no,.slice none 0 0,.slice (some ⟨w.heap.size + 1 + 1 + 1,0,none⟩) 2 2] 25) (.cells (f.vals hf ++ x.vals hx) 25)
 refine bodyPost_ret (v:=(t2 5 f x).val ⟨none,0,some ⟨w.heap.size + 1 + 1 + 1,0,none⟩,2⟩) (by simp [results,Tryz.results113,go_sem,t2,Tm.val,Tm.vals,Tm.k,Tm.n,Tm.s,Tm.ls,Tm.ts,no]) rfl ⟨_,rfl,below_four _ _ _ _ _,?_⟩
 intro P hP hc
 exact FirmS.t2 (by decide) (by decide) (g:=w.heap.size + 1 + 1 + 1) (ty:=25) (fr:=(0,0)) (new4 w (f.box hf) (x.box hx) (.cells #[.int .u8 5,.int .i64 0,.string no,.slice none 0 0,.slice (some ⟨w.heap.size + 1 + 1 + 1,0,none⟩) 2 2] 25) (.cells (f.vals hf ++ x.vals hx) 25)) (fun hp=>by have:=hP _ hp; omega) (hc.1.step (RanS.of_below hb)) (hc.2.step (RanS.of_below hb))
theorem P8_firm (f x:Tm) (hf hx:Hd) (w:World) :
 Calls Tryz.prog 110 #[f.val hf,x.val hx] w (MadeP (t2 6 f x) w (fun P=>FirmS P w f hf∧FirmS P w x hx)):=by
 unfold Tm.val Tm.vals
 go_enter Tryz.func110,Tryz.ntmps110
 go_wp2_with fail
 have hb:=below_four w (f.box hf) (x.box hx) (.cells #[.int .u8 6,.int .i64 0,.string no,.slice none 0 0,.slice (some ⟨w.heap.size + 1 + 1 + 1,0,none⟩) 2 2] 25) (.cells (f.vals hf ++ x.vals hx) 25)
 refine bodyPost_ret (v:=(t2 6 f x).val ⟨none,0,some ⟨w.heap.size + 1 + 1 + 1,0,none⟩,2⟩) (by simp [results,Tryz.results110,go_sem,t2,Tm.val,Tm.vals,Tm.k,Tm.n,Tm.s,Tm.ls,Tm.ts,no]) rfl ⟨_,rfl,below_four _ _ _ _ _,?_⟩
 intro P hP hc
 exact FirmS.t2 (by decide) (by decide) (g:=w.heap.size + 1 + 1 + 1) (ty:=25) (fr:=(0,0)) (new4 w (f.box hf) (x.box hx) (.cells #[.int .u8 6,.int .i64 0,.string no,.slice none 0 0,.slice (some ⟨w.heap.size + 1 + 1 + 1,0,none⟩) 2 2] 25) (.cells (f.vals hf ++ x.vals hx) 25)) (fun hp=>by have:=hP _ hp; omega) (hc.1.step (RanS.of_below hb)) (hc.2.step (RanS.of_below hb))
end Go.Proofs.YtmngddomnaaedaaGreat
namespace Go.Proofs.YtmngddomnaaedaaGreat
open Go.RowKit Go.Shelf Go.Maps Lvl Trm Env
theorem Trm.FirmS.more {P Q:Nat→Prop} {w W:World} {t:Tm} {h:Hd} (g:FirmS P w t h) (r:RanS P w W) (hQ:∀ k,Q k→P k∨w.heap.size≤k):FirmS Q W t h:=fun w' hr =>
 g w' ⟨hr.os.trans r.os,hr.tape.trans r.tape,hr.output.trans r.output,Nat.le_trans r.size hr.size,fun k hk hn=>(hr.block k (Nat.lt_of_lt_of_le hk r.size) (fun hq=>(hQ k hq).elim hn (fun a=>by omega))).trans (r.block k hk hn)⟩
theorem Trm.FirmS.lessW {P Q:Nat→Prop} {w W:World} {t:Tm} {h:Hd} (g:FirmS Q w t h) (r:RanS Q w W) (hQ:∀ k,P k→Q k):FirmS P W t h:=fun w' hr =>
 g w' (r.trans ⟨hr.os,hr.tape,hr.output,hr.size,fun k hk hn=>hr.block k hk (fun a=>hn (hQ k a))⟩)
namespace Env
def MadeF (P:Nat→Prop) (t:Tm) (w:World) (e:Ending) (w':World):Prop:=∃ h,e=.returned (t.val h)∧Below w.heap.size w w'∧FirmS P w' t h
theorem MadeF.of {P:Nat→Prop} {C:(Nat→Prop)→Prop} {t:Tm} {w w':World} {e:Ending} (h:MadeP t w C e w') (hP:∀ k,P k→k < w.heap.size) (hC:C P):MadeF P t w e w':=by
 obtain ⟨x,h1,h2,h3⟩:=h
 exact ⟨x,h1,h2,h3 P hP hC⟩
theorem MadeF.ofE {P:Nat→Prop} {t:Tm} {w w':World} {e:Ending} (h:MadeE t w e w') (hP:∀ k,P k→k < w.heap.size):MadeF P t w e w':=by
 obtain ⟨x,h1,h2,h3⟩:=h
 exact ⟨x,h1,h2,h3 P hP⟩
def RowP (P:Nat→Prop) (w:World) (lo:Option Addr) (l:List Tm):Prop:=∀ k (hk:k < l.length),∃ b off,lo=some ⟨b,off,none⟩∧b < w.heap.size∧¬ P b∧∃ h,TCells w b (off + k * 5) l[k] h∧FirmS P w l[k] h
theorem RowP.at_ {P:Nat→Prop} {w w1:World} {lo:Option Addr} {l:List Tm} (h:RowP P w lo l) (g:Below w.heap.size w w1) (k:Nat) (hk:k < l.length):∃ b off,lo=some ⟨b,off,none⟩∧b < w.heap.size∧¬ P b∧∃ h,TCells w1 b (off + k * 5) l[k] h∧FirmS P w l[k] h:=by
 obtain ⟨b,off,h1,h2,h3,hx,h4,h5⟩:=h k hk
 exact ⟨b,off,h1,h2,h3,hx,h4.below g h2,h5⟩
def flatT:List (Tm × Hd)→Array Value
 | []=>#[]
 | (t,h) :: r=>t.vals h ++ flatT r
theorem flatT_at:∀ (l:List (Tm × Hd)) (k:Nat) (hk:k < l.length) (i:Nat) (_:i < 5),(flatT l)[k * 5 + i]?=(l[k].1.vals l[k].2)[i]?
 | (t,h) :: r,0,_,i,hi=>by
   rw [flatT,Array.getElem?_append_left (by simp [Tm.vals]; omega)]
   simp
 | (t,h) :: r,k + 1,hk,i,hi=>by
   have ih:=flatT_at r k (by simpa using hk) i hi
   rw [flatT,Array.getElem?_append_right (by simp [Tm.vals]; omega),show (k + 1) * 5 + i - (t.vals h).size=k * 5 + i by simp [Tm.vals]; omega,ih]
   simp
theorem RowP.new {P:Nat→Prop} {w:World} {g:Nat} {ty:TypeId} {fr:Nat × Nat} (l:List (Tm × Hd)) (hg:w.heap[g]?=some (.cells (flatT l) ty fr)) (hn:¬ P g) (hf:∀ x ∈ l,FirmS P w x.1 x.2):RowP P w (some ⟨g,0,none⟩) (l.map (·.1)):=fun k hk=>by
 have hk2:k < l.length:=by simpa using hk
 have hc:∀ i,i < 5→w.cell? ⟨g,0 + k * 5 + i,none⟩=(l[k].1.vals l[k].2)[i]?:=fun i hi=>by
  rw [← flatT_at l k hk2 i hi,Nat.zero_add]
  simp [World.cell?,hg]
 have h0:=hc 0 (by omega)
 have h1:=hc 1 (by omega)
 have h2:=hc 2 (by omega)
 have h3:=hc 3 (by omega)
 have h4:=hc 4 (by omega)
 rw [List.getElem_map]
 refine ⟨g,0,rfl,(Array.getElem?_eq_some_iff.1 hg).1,hn,l[k].2,⟨?_,?_,?_,?_,?_⟩,hf _ (List.getElem_mem hk2)⟩
 ·rw [Nat.add_zero] at h0; rw [h0]; simp [Tm.vals]
 ·rw [h1]; simp [Tm.vals]
 ·rw [h2]; simp [Tm.vals]
 ·rw [h3]; simp [Tm.vals]
 ·rw [h4]; simp [Tm.vals]
end Env
structure Env.TwoP (P:Nat→Prop) (w wr:World) (t:Tm) (h:Hd):Prop where
 bel:Below w.heap.size w wr
 box:wr.heap[w.heap.size]?=some (t.box h)
 res:wr.heap[w.heap.size + 1]?=some (.cells #[.int .u8 0,.int .i64 0,.string ⟨#[]⟩,.slice none 0 0,.slice none 0 0] 25)
 firm:FirmS (fun k=>P k∨k=w.heap.size∨k=w.heap.size + 1) wr t h
theorem Env.TwoP.step {P:Nat→Prop} {w wr w1:World} {t:Tm} {h:Hd} (v:TwoP P w wr t h) (g:Below wr.heap.size wr w1):TwoP P w w1 t h :=
 ⟨Trm.go v.bel g,Lvl.keep g v.box,Lvl.keep g v.res,v.firm.step (RanS.of_below g)⟩
theorem Env.TwoP.put {P:Nat→Prop} {w wr:World} {t u:Tm} {h hu:Hd} (v:TwoP P w wr t h) (f:FirmS (fun k=>P k∨k=w.heap.size∨k=w.heap.size + 1) wr u hu) :
 TwoP P w (putT wr w.heap.size (.int .u8 u.k) (.int .i64 u.n) (.string u.s) (.slice hu.lo u.ls.length hu.lc) (.slice hu.to u.ts.length hu.tc)) u hu :=
 ⟨putT_below v.bel (Nat.le_refl _) _ _ _ _ _,putT_self v.box _ _ _ _ _,putT_other v.res _ _ _ _ _ (by omega),f.step (RanS.of_ran (putT_ran _ _ _ _ _ _ _) (Or.inr (Or.inl rfl)))⟩
theorem Env.TwoP.start {P:Nat→Prop} {w:World} {t:Tm} {h:Hd} (hin:FirmS P w t h):TwoP P w ((w.alloc (t.box h)).alloc (.cells #[.int .u8 0,.int .i64 0,.string ⟨#[]⟩,.slice none 0 0,.slice none 0 0] 25)) t h :=
 ⟨below_two _ _ _,new1of2 _ _ _,new2 _ _ _,hin.more (RanS.of_below (below_two w _ _)) (fun k hk=>by rcases hk with h | h | h; exact Or.inl h; all_goals exact Or.inr (by omega))⟩
def Env.ApRelP (P:Nat→Prop) (w:World) (f:Tm) (l:List Tm) (i:Value) (wr:World):Prop :=
 ∃ (k:Nat) (h:Hd),i=.int .i64 k∧k≤l.length∧TwoP P w wr (appl f (l.take k)) h
theorem RefApplyP_any (P:Nat→Prop) (f:Tm) (hf:Hd) (l:List Tm) (lo:Option Addr) (lc:Nat) (w:World) (hP:∀ k,P k→k < w.heap.size) (hin:FirmS P w f hf) (hl:RowP P w lo l) (hn:l.length≤1000000) :
 Calls Tryz.prog 45 #[f.val hf,.slice lo l.length lc] w (MadeF P (appl f l) w):=by
 have HL:=hid hl
 have HV0:=hid (show TwoP P w _ (appl f (l.take 0)) hf from TwoP.start hin)
 clear hin hl
 unfold Tm.val
 dsimp only [Tm.vals]
 go_enter Tryz.func45,Tryz.ntmps45
 go_wp2_with fail
 go_loopw [5] (fun i wr=>ApRelP P w f l i wr) (fun i _=>l.length - (intOf i).toNat)
 case atStart=>exact ⟨0,hf,rfl,by omega,HV0.out⟩
 case round =>
  obtain ⟨k,h,rfl,hk,hvar⟩:=hrel
  have HV:=hid hvar
  obtain ⟨c0,c1,c2,c3,c4⟩:=five_cells (show wr.heap[w.heap.size]?=some (.cells #[_,_,_,_,_] 25) from hvar.box)
  have hlw:w.heap.size + 1 < wr.heap.size:=(Array.getElem?_eq_some_iff.1 hvar.res).1
  clear hvar
  by_cases hlt:k < l.length
  ·obtain ⟨b,off,hao,hb,hnb,hx,⟨p0,p1,p2,p3,p4⟩,hi⟩:=HL.out.at_ HV.out.bel k hlt
   have HLL:=hid (fun (W:World)=>(show Calls Tryz.prog 78 #[.agg #[.int .u8 (appl f (l.take k)).k,.int .i64 (appl f (l.take k)).n,.string (appl f (l.take k)).s,.slice h.lo (appl f (l.take k)).ls.length h.lc,.slice h.to (appl f (l.take k)).ts.length h.tc],.agg #[.int .u8 l[k].k,.int .i64 l[k].n,.string l[k].s,.slice hx.lo l[k].ls.length hx.lc,.slice hx.to l[k].ts.length hx.tc]] W (MadeP (appl f (l.take (k + 1))) W (fun P=>FirmS P W (appl f (l.take k)) h∧FirmS P W l[k] hx)) from take_appl hlt ▸ App_firm (appl f (l.take k)) l[k] h hx W))
   have HXF:=hid (show FirmS (fun k=>P k∨k=w.heap.size∨k=w.heap.size + 1) wr l[k] hx from hi.more (RanS.of_below HV.out.bel) (fun k hk=>by rcases hk with h | h | h; exact Or.inl h; all_goals exact Or.inr (by omega)))
   have HNX:Hid (∀ wr' h',TwoP P w wr' (appl f (l.take (k + 1))) h'→ApRelP P w f l (.int .i64 ((k:Int) + 1)) wr'):=hid (fun wr' h' hv=>⟨k + 1,h',by go_num,by omega,hv⟩)
   have hbz:b < wr.heap.size:=Nat.lt_of_lt_of_le hb HV.out.bel.size
   generalize appl f (l.take k)=x at HV c0 c1 c2 c3 c4 HLL
   generalize appl f (l.take (k + 1))=y at HLL HNX
   generalize l[k]=z at p0 p1 p2 p3 p4 HLL HXF
   clear hi
   subst hao
   go_wp2_with fail
   go_region_with (go_at_call 78; refine (HLL.out _).mono ?_; rintro e w9 ⟨h9,rfl,b9,fU⟩
                   have HV9:=hid (HV.out.step (undrew b9))
                   have HF9:=hid (fU (fun k=>P k∨k=w.heap.size∨k=w.heap.size + 1) (fun k hk=>by show k < wr.heap.size; rcases hk with h | h | h; exact Nat.lt_of_lt_of_le (hP k h) HV.out.bel.size; all_goals omega) ⟨HV.out.firm.step (RanS.of_below (Below.refl _ _).drew),HXF.out.step (RanS.of_below (Below.refl _ _).drew)⟩)
                   have hlw9:w.heap.size < w9.heap.size:=(Array.getElem?_eq_some_iff.1 HV9.out.box).1
                   obtain ⟨d0,d1,d2,d3,d4⟩:=five_cells (show w9.heap[w.heap.size]?=some (.cells #[_,_,_,_,_] 25) from HV9.out.box)
                   obtain ⟨g0,g1,g2,g3,g4⟩:=five_free (show w9.heap[w.heap.size]?=some (.cells #[_,_,_,_,_] 25) from HV9.out.box)
                   clear b9 fU
                   dsimp only [Tm.val,Tm.vals])
   all_goals
    go_wp2_with fail
    go_roundw
    case rel=>exact HNX.out _ h9 (HV9.out.put HF9.out)
    case measure=>simp [intOf]; omega
  ·have hl2:l.take k=l:=List.take_of_length_le (by omega)
   have HAP:Hid (TwoP P w wr (appl f l) h):=hid (by have:=HV.out; rwa [hl2] at this)
   rw [hl2] at c0 c1 c2 c3 c4
   clear hl2 HV
   obtain ⟨x,hx⟩:∃ x,x=appl f l:=⟨_,rfl⟩
   rw [← hx] at c0 c1 c2 c3 c4 HAP
   have HX:=hid hx
   clear hx
   obtain ⟨d0,d1,d2,d3,d4⟩:=five_cells HAP.out.res
   obtain ⟨g0,g1,g2,g3,g4⟩:=five_free HAP.out.res
   go_wp2_with fail
   have h5:=putT_self HAP.out.res (.int .u8 x.k) (.int .i64 x.n) (.string x.s) (.slice h.lo x.ls.length h.lc) (.slice h.to x.ts.length h.tc)
   have r5:=putT_ran wr (w.heap.size + 1) (.int .u8 x.k) (.int .i64 x.n) (.string x.s) (.slice h.lo x.ls.length h.lc) (.slice h.to x.ts.length h.tc)
   unfold putT at h5 r5
   generalize hW:((((wr.setCell ⟨w.heap.size + 1,0,none⟩ (.int .u8 x.k)).setCell ⟨w.heap.size + 1,1,none⟩ (.int .i64 x.n)).setCell ⟨w.heap.size + 1,2,none⟩ (.string x.s)).setCell ⟨w.heap.size + 1,3,none⟩ (.slice h.lo x.ls.length h.lc)).setCell ⟨w.heap.size + 1,4,none⟩ (.slice h.to x.ts.length h.tc)=W4 at h5 r5 ⊢
   obtain ⟨e0,e1,e2,e3,e4⟩:=five_cells h5
   clear hW
   exact bodyPost_ret (v:=x.val h) (by simp [results,Tryz.results45,go_sem,e0,e1,e2,e3,e4,Tm.val,Tm.vals]) rfl ⟨h,by rw [← HX.out],HAP.out.bel.trans (r5.below (B:=w.heap.size) (by omega) (by omega)),by rw [← HX.out]; exact HAP.out.firm.lessW (RanS.of_ran r5 (Or.inr (Or.inr rfl))) (fun k hk=>Or.inl hk)⟩
theorem A8_firm (P:Nat→Prop) (f:Tm) (hf:Hd) (l:List Tm) (lo:Option Addr) (lc:Nat) (w:World) (hP:∀ k,P k→k < w.heap.size) (hin:FirmS P w f hf) (hl:RowP P w lo l) (hn:l.length≤1000000) :
 Calls Tryz.prog 20 #[f.val hf,.slice lo l.length lc] w (MadeF P (appl f l) w):=by
 have HIN:=hid hin
 have hb2:=below_two w (f.box hf) (.cells #[.int .u8 0,.int .i64 0,.string ⟨#[]⟩,.slice none 0 0,.slice none 0 0] 25)
 have HC:=hid (RefApplyP_any (fun k=>P k∨k=w.heap.size + 1) f hf l lo lc ((w.alloc (f.box hf)).alloc (.cells #[.int .u8 0,.int .i64 0,.string ⟨#[]⟩,.slice none 0 0,.slice none 0 0] 25)) (fun k hk=>by rw [World.size_alloc,World.size_alloc]; rcases hk with h | h; exact Nat.lt_of_lt_of_le (hP k h) (by omega); omega) (hin.more (RanS.of_below hb2) (fun k hk=>by rcases hk with h | h; exact Or.inl h; exact Or.inr (by omega))) (fun k hk=>by obtain ⟨b1,off,h1,h2,h3,hx,h5,h6⟩:=hl.at_ hb2 k hk; exact ⟨b1,off,h1,Nat.lt_of_lt_of_le h2 hb2.size,fun a=>by rcases a with a | a; exact h3 a; omega,hx,h5,h6.more (RanS.of_below hb2) (fun k hk=>by rcases hk with h | h; exact Or.inl h; exact Or.inr (by omega))⟩) hn)
 clear hb2
 clear hin hl
 generalize appl f l=y at HC ⊢
 unfold Tm.val Tm.vals at HC ⊢
 go_enter Tryz.func20,Tryz.ntmps20
 go_wp2_with fail
 refine HC.out.mono ?_
 rintro e w9 ⟨h9,rfl,b9,f9⟩
 have HK9:=hid (Lvl.keep b9 (new2 w (f.box hf) (.cells #[.int .u8 0,.int .i64 0,.string ⟨#[]⟩,.slice none 0 0,.slice none 0 0] 25)))
 have HB9:=hid (Trm.go (below_two w (f.box hf) (.cells #[.int .u8 0,.int .i64 0,.string ⟨#[]⟩,.slice none 0 0,.slice none 0 0] 25)) b9)
 have HF9:=hid f9
 have hl9:w.heap.size + 1 < w9.heap.size:=(Array.getElem?_eq_some_iff.1 HK9.out).1
 obtain ⟨d0,d1,d2,d3,d4⟩:=five_cells HK9.out
 obtain ⟨g0,g1,g2,g3,g4⟩:=five_free HK9.out
 clear b9 f9
 dsimp only [Tm.val,Tm.vals]
 all_goals
  go_wp2_with fail
  have h5:=putT_self HK9.out (.int .u8 y.k) (.int .i64 y.n) (.string y.s) (.slice h9.lo y.ls.length h9.lc) (.slice h9.to y.ts.length h9.tc)
  have r5:=putT_ran w9 (w.heap.size + 1) (.int .u8 y.k) (.int .i64 y.n) (.string y.s) (.slice h9.lo y.ls.length h9.lc) (.slice h9.to y.ts.length h9.tc)
  have b5:=putT_below HB9.out (B:=w.heap.size + 1) (by omega) (.int .u8 y.k) (.int .i64 y.n) (.string y.s) (.slice h9.lo y.ls.length h9.lc) (.slice h9.to y.ts.length h9.tc)
  unfold putT at h5 r5 b5
  generalize hW:((((w9.setCell ⟨w.heap.size + 1,0,none⟩ (.int .u8 y.k)).setCell ⟨w.heap.size + 1,1,none⟩ (.int .i64 y.n)).setCell ⟨w.heap.size + 1,2,none⟩ (.string y.s)).setCell ⟨w.heap.size + 1,3,none⟩ (.slice h9.lo y.ls.length h9.lc)).setCell ⟨w.heap.size + 1,4,none⟩ (.slice h9.to y.ts.length h9.tc)=W4 at h5 r5 b5 ⊢
  obtain ⟨e0,e1,e2,e3,e4⟩:=five_cells h5
  clear hW
  refine bodyPost_ret (v:=y.val h9) (by simp [results,Tryz.results20,go_sem,e0,e1,e2,e3,e4,Tm.val,Tm.vals]) rfl ⟨h9,rfl,b5,HF9.out.lessW (RanS.of_ran r5 (Or.inr rfl)) (fun k hk=>Or.inl hk)⟩
end Go.Proofs.YtmngddomnaaedaaGreat
namespace Go.Proofs.YtmngddomnaaedaaGreat
open Go.RowKit Go.Shelf Go.Maps Lvl Trm Env
def Env.tN:Tm:=tCo ⟨#[78]⟩ []
theorem N8_any (w:World):Calls Tryz.prog 43 #[] w (fun e w'=>e=.returned (tN.val zHd)∧Below w.heap.size w w'):=by
 go_enter Tryz.func43,Tryz.ntmps43
 go_wp2_with fail
 refine (Co8_any ⟨#[78]⟩ [] none 0 _).mono ?_
 rintro e w9 ⟨rfl,b9⟩
 have HK9:=hid (Lvl.keep b9 (World.alloc_heap_new w (.cells #[.int .u8 0,.int .i64 0,.string ⟨#[]⟩,.slice none 0 0,.slice none 0 0] 25)))
 have HB9:=hid (Trm.go (below_one w (.cells #[.int .u8 0,.int .i64 0,.string ⟨#[]⟩,.slice none 0 0,.slice none 0 0] 25)) b9)
 have hl9:w.heap.size < w9.heap.size:=(Array.getElem?_eq_some_iff.1 HK9.out).1
 obtain ⟨d0,d1,d2,d3,d4⟩:=five_cells HK9.out
 obtain ⟨g0,g1,g2,g3,g4⟩:=five_free HK9.out
 clear b9
 dsimp only [tN,Tm.val,Tm.vals,tCo,tSo,zHd,Tm.k,Tm.n,Tm.s,Tm.ls,Tm.ts,List.length]
 go_wp2_with fail
 have h5:=putT_self HK9.out (.int .u8 3) (.int .i64 0) (.string ⟨#[78]⟩) (.slice none 0 0) (.slice none 0 0)
 have r5:=putT_ran w9 w.heap.size (.int .u8 3) (.int .i64 0) (.string ⟨#[78]⟩) (.slice none 0 0) (.slice none 0 0)
 have b5:=putT_below HB9.out (B:=w.heap.size) (by omega) (.int .u8 3) (.int .i64 0) (.string ⟨#[78]⟩) (.slice none 0 0) (.slice none 0 0)
 unfold putT at h5 r5 b5
 generalize hW:((((w9.setCell ⟨w.heap.size,0,none⟩ (.int .u8 3)).setCell ⟨w.heap.size,1,none⟩ (.int .i64 0)).setCell ⟨w.heap.size,2,none⟩ (.string ⟨#[78]⟩)).setCell ⟨w.heap.size,3,none⟩ (.slice none 0 0)).setCell ⟨w.heap.size,4,none⟩ (.slice none 0 0)=W4 at h5 r5 b5 ⊢
 obtain ⟨e0,e1,e2,e3,e4⟩:=five_cells h5
 clear hW
 exact bodyPost_ret (v:=tN.val zHd) (by simp [results,Tryz.results43,go_sem,e0,e1,e2,e3,e4,Tm.val,Tm.vals,tN,tCo,zHd,Tm.k,Tm.n,Tm.s,Tm.ls,Tm.ts]) rfl ⟨rfl,b5⟩
theorem Type08_any (w:World):Calls Tryz.prog 114 #[] w (MadeE (tSo (number 0)) w):=by
 go_enter Tryz.func114,Tryz.ntmps114
 go_wp2_with fail
 refine (Lev8_any 0 _).mono ?_
 rintro e w8 ⟨rfl,b8⟩
 have HS:=hid (So8_any (number 0) w8)
 have HB8:=hid b8
 clear b8
 dsimp only [Lv.val,number] at HS ⊢
 go_wp2_with fail
 refine HS.out.mono ?_
 rintro e w9 ⟨h9,rfl,b9,f9⟩
 have HF9:=hid f9
 have b9:=HB8.out.trans (b9.mono HB8.out.size)
 clear f9
 have HK9:=hid (Lvl.keep b9 (World.alloc_heap_new w (.cells #[.int .u8 0,.int .i64 0,.string ⟨#[]⟩,.slice none 0 0,.slice none 0 0] 25)))
 have HB9:=hid (Trm.go (below_one w (.cells #[.int .u8 0,.int .i64 0,.string ⟨#[]⟩,.slice none 0 0,.slice none 0 0] 25)) b9)
 have hl9:w.heap.size < w9.heap.size:=(Array.getElem?_eq_some_iff.1 HK9.out).1
 obtain ⟨d0,d1,d2,d3,d4⟩:=five_cells HK9.out
 obtain ⟨g0,g1,g2,g3,g4⟩:=five_free HK9.out
 clear b9
 dsimp only [Tm.val,Tm.vals,tCo,tSo,zHd,Tm.k,Tm.n,Tm.s,Tm.ls,Tm.ts,List.length]
 go_wp2_with fail
 have h5:=putT_self HK9.out (.int .u8 1) (.int .i64 0) (.string no) (.slice h9.lo 1 h9.lc) (.slice h9.to 0 h9.tc)
 have r5:=putT_ran w9 w.heap.size (.int .u8 1) (.int .i64 0) (.string no) (.slice h9.lo 1 h9.lc) (.slice h9.to 0 h9.tc)
 have b5:=putT_below HB9.out (B:=w.heap.size) (by omega) (.int .u8 1) (.int .i64 0) (.string no) (.slice h9.lo 1 h9.lc) (.slice h9.to 0 h9.tc)
 unfold putT at h5 r5 b5
 generalize hW:((((w9.setCell ⟨w.heap.size,0,none⟩ (.int .u8 1)).setCell ⟨w.heap.size,1,none⟩ (.int .i64 0)).setCell ⟨w.heap.size,2,none⟩ (.string no)).setCell ⟨w.heap.size,3,none⟩ (.slice h9.lo 1 h9.lc)).setCell ⟨w.heap.size,4,none⟩ (.slice h9.to 0 h9.tc)=W4 at h5 r5 b5 ⊢
 obtain ⟨e0,e1,e2,e3,e4⟩:=five_cells h5
 clear hW
 exact bodyPost_ret (v:=(tSo (number 0)).val h9) (by simp [results,Tryz.results114,go_sem,e0,e1,e2,e3,e4,Tm.val,Tm.vals,tSo,Tm.k,Tm.n,Tm.s,Tm.ls,Tm.ts,no]) rfl ⟨h9,rfl,b5,fun P hP=>(HF9.out (fun k=>P k∨k=w.heap.size) (fun k hk=>by have hs:=HB8.out.size; rw [World.size_alloc] at hs; rcases hk with h | h; exact Nat.lt_of_lt_of_le (hP k h) (by omega); omega)).lessW (RanS.of_ran r5 (Or.inr rfl)) (fun k hk=>Or.inl hk)⟩
theorem Env.firm_kids {P:Nat→Prop} {w:World} {k n:Int} {s:ByteArray} {ts:List Tm} {lo:Option Addr} {lc tc:Nat} (hk0:0≤k) (hk1:k≤255) (hn0:-9223372036854775808≤n) (hn1:n≤9223372036854775807) (hs:s.size≤9223372036854775807) (hl:ts.length≤1000000) (h:RowP P w lo ts):FirmS P w (.mk k n s [] ts) ⟨none,lc,lo,tc⟩:=fun w' hr =>
 Tm.In_iff.2 ⟨⟨by simpa [Tm.k] using hk0,by simpa [Tm.k] using hk1,by simpa [Tm.n] using hn0,by simpa [Tm.n] using hn1,by simpa [Tm.s] using hs,by simp [Tm.ls],by simp only [Tm.ts]; omega⟩,⟨fun k hk=>by simp [Tm.ls] at hk⟩,fun hn=>by simp [Tm.ls] at hn,RowIn.mk fun i hi=>by
  obtain ⟨b,off,h1,h2,h3,hx,h4,h5⟩:=h i hi
  exact ⟨b,off,h1,Nat.lt_of_lt_of_le h2 hr.size,hx,by have h6:=h4.ranS hr h2 h3; rw [Nat.zero_add]; exact h6,h5 w' hr⟩,by simp [Tm.ls]⟩
def Env.tField (n:Int):Tm:=.mk 8 n ⟨#[80,97,105,114]⟩ [] [tV 0]
theorem field8_any (n:Int) (w:World) (hn0:-9223372036854775808≤n) (hn1:n≤9223372036854775807):Calls Tryz.prog 115 #[.int .i64 n] w (MadeE (tField n) w):=by
 go_enter Tryz.func115,Tryz.ntmps115
 go_wp2_with fail
 refine (V8_any 0 _).mono ?_
 rintro e w8 ⟨rfl,b8⟩
 have hz8:=b8.size
 simp only [World.size_alloc] at hz8
 have HK8:=hid (Lvl.keep b8 (World.alloc_heap_new w (.cells #[.int .u8 0,.int .i64 0,.string ⟨#[]⟩,.slice none 0 0,.slice none 0 0] 25)))
 have HB8:=hid (Trm.go (below_one w (.cells #[.int .u8 0,.int .i64 0,.string ⟨#[]⟩,.slice none 0 0,.slice none 0 0] 25)) b8)
 have hl8:w.heap.size < w8.heap.size:=(Array.getElem?_eq_some_iff.1 HK8.out).1
 obtain ⟨d0,d1,d2,d3,d4⟩:=five_cells HK8.out
 obtain ⟨g0,g1,g2,g3,g4⟩:=five_free HK8.out
 clear b8
 dsimp only [Tm.val,Tm.vals,tV,no,zHd,Tm.k,Tm.n,Tm.s,Tm.ls,Tm.ts,List.length]
 go_wp2_with fail
 have h5:=putT_self HK8.out (.int .u8 8) (.int .i64 n) (.string ⟨#[80,97,105,114]⟩) (.slice none 0 0) (.slice (some ⟨w8.heap.size,0,none⟩) 1 1)
 have b5:=putT_below HB8.out (B:=w.heap.size) (by omega) (.int .u8 8) (.int .i64 n) (.string ⟨#[80,97,105,114]⟩) (.slice none 0 0) (.slice (some ⟨w8.heap.size,0,none⟩) 1 1)
 have z5:=putT_size w8 w.heap.size (.int .u8 8) (.int .i64 n) (.string ⟨#[80,97,105,114]⟩) (.slice none 0 0) (.slice (some ⟨w8.heap.size,0,none⟩) 1 1)
 unfold putT at h5 b5 z5
 generalize hW:((((w8.setCell ⟨w.heap.size,0,none⟩ (.int .u8 8)).setCell ⟨w.heap.size,1,none⟩ (.int .i64 n)).setCell ⟨w.heap.size,2,none⟩ (.string ⟨#[80,97,105,114]⟩)).setCell ⟨w.heap.size,3,none⟩ (.slice none 0 0)).setCell ⟨w.heap.size,4,none⟩ (.slice (some ⟨w8.heap.size,0,none⟩) 1 1)=W4 at h5 b5 z5 ⊢
 have l5:=World.alloc_heap_new W4 (.cells #[.int .u8 2,.int .i64 0,.string ⟨#[]⟩,.slice none 0 0,.slice none 0 0] 25)
 rw [z5] at l5
 obtain ⟨e0,e1,e2,e3,e4⟩:=five_cells (keepA h5 (.cells #[.int .u8 2,.int .i64 0,.string ⟨#[]⟩,.slice none 0 0,.slice none 0 0] 25))
 clear hW
 exact bodyPost_ret (v:=(tField n).val ⟨none,0,some ⟨w8.heap.size,0,none⟩,1⟩) (by simp [results,Tryz.results115,go_sem,e0,e1,e2,e3,e4,tField,Tm.val,Tm.vals,Tm.k,Tm.n,Tm.s,Tm.ls,Tm.ts]) rfl ⟨_,rfl,b5.alloc b5.size _,fun P hP=>firm_kids (by decide) (by decide) hn0 hn1 (by decide) (by decide) (RowP.new (ty:=25) (fr:=(0,0)) [(tV 0,zHd)] (by rw [l5]; rfl) (fun a=>by have:=hP _ a; omega) (fun x hx=>by simp at hx; subst hx; exact firm_leafE (by decide) (by decide) (by decide) (by decide) (by decide)))⟩
end Go.Proofs.YtmngddomnaaedaaGreat
namespace Go.Proofs.YtmngddomnaaedaaGreat
open Go.RowKit Go.Shelf Lvl Trm Env
namespace Env
def infs (L:List Ent):List Inf:=L.map (·.2.1)
theorem infs_len {A B:List Ent} (h:infs A=infs B):A.length=B.length:=by have:=congrArg List.length h; simpa [infs] using this
theorem look_infs (L:List Ent) (k:List UInt8):(lookE L k).map (·.2.1)=(infs L).find? (fun x=>key x.name == k):=by
 unfold lookE infs
 rw [List.find?_map]
 rfl
theorem look_alike {A B:List Ent} (h:infs A=infs B) (k:List UInt8):(lookE A k).map (·.2.1)=(lookE B k).map (·.2.1):=by rw [look_infs,look_infs,h]
theorem some_alike {A B:List Ent} (h:infs A=infs B) (k:List UInt8):(lookE A k).isSome=(lookE B k).isSome:=by
 have e:=congrArg Option.isSome (look_alike h k)
 simpa using e
theorem hof_alike {A B:List Ent} (h:infs A=infs B) (k:List UInt8):hof A k=hof B k:=by
 have e:=look_alike h k
 unfold hof
 cases ha:lookE A k with
 | none =>
   cases hb:lookE B k with
   | none=>rfl
   | some q=>rw [ha,hb] at e; cases e
 | some p =>
   cases hb:lookE B k with
   | none=>rw [ha,hb] at e; cases e
   | some q =>
     rw [ha,hb] at e
     injection e with e
     have e2:p.2.1=q.2.1:=e
     simp only
     rw [e2]
theorem maxH_alike {A B:List Ent} (h:infs A=infs B) (l:List (List UInt8)):maxH A l=maxH B l:=by
 unfold maxH
 rw [show (fun (a:Int) k=>max a (hof A k))=(fun (a:Int) k=>max a (hof B k)) from funext fun a=>funext fun k=>by rw [hof_alike h k]]
theorem fixI_alike {A B:List Ent} (h:infs A=infs B) (x:Inf):fixI A x=fixI B x:=by unfold fixI; rw [maxH_alike h]
theorem known_alike {A B:List Ent} (h:infs A=infs B) (ks:List (List UInt8)) (i:Nat) (hv:Bool):known A ks i hv=known B ks i hv:=funext fun k=>by unfold known; rw [some_alike h k]
theorem wrongI_alike {A B:List Ent} (h:infs A=infs B) (ks:List (List UInt8)) (i:Nat) (x:Inf):wrongI A ks i x=wrongI B ks i x:=by
 unfold wrongI wrongT
 rw [some_alike h,known_alike h]
theorem wrongL_alike {A B:List Ent} (h:infs A=infs B) (l:List Inf):wrongL A l=wrongL B l:=by
 unfold wrongL
 rw [show (fun p:Inf × Nat=>wrongI A (names l) p.2 p.1)=(fun p:Inf × Nat=>wrongI B (names l) p.2 p.1) from funext fun p=>wrongI_alike h _ _ _]
theorem addA_alike {A B:List Ent} (h:infs A=infs B) (l:List Inf):addA A l=addA B l:=by unfold addA; rw [infs_len h,wrongL_alike h]
theorem Added.none {B B':List Ent} (h:Added B [] B'):B'=B:=by
 generalize hl:([]:List Inf)=l at h
 cases h with
 | nil=>rfl
 | snoc x b hd h2=>simp at hl
end Env
end Go.Proofs.YtmngddomnaaedaaGreat
