/-
 env.search: over the names of a term,over terms; wrongTerms.
-/
import Derived.Lib.Hide
import Derived.Test.YtmngddomnaaedaaGreatQB1
import Derived.Test.YtmngddomnaaedaaGreatQB19
import Derived.Test.YtmngddomnaaedaaGreatQB15
open Go.Lib (hid)
set_option maxRecDepth 100000
set_option maxHeartbeats 32000000
namespace Go.Proofs.YtmngddomnaaedaaGreat
open Go.RowKit Go.Shelf Go.Maps Lvl Trm Env
namespace Env
theorem node_strE {t:Tm} (h:t.node=true):t.s.size≤32:=by
 unfold Tm.node at h
 simp only [Bool.and_eq_true] at h
 have h6:=h.1.1.2
 split at h6
 ·unfold nameOk at h6; simp only [Bool.and_eq_true,decide_eq_true_eq] at h6; omega
 ·simp only [decide_eq_true_eq] at h6; omega
theorem nmsL_from {k:List UInt8}:∀ {ts:List Tm},k ∈ nmsL ts→∃ x ∈ ts,k ∈ x.nms
 | [],h=>by rw [nmsL] at h; cases h
 | t :: r,h=>by
   rw [nmsL] at h
   rcases List.mem_append.1 h with h | h
   ·exact ⟨t,by simp,h⟩
   ·obtain ⟨x,hx,hk⟩:=nmsL_from h
    exact ⟨x,by simp [hx],hk⟩
theorem nms_long {t:Tm}:t.may=true→∀ k ∈ t.nms,k.length≤maxLen:=by
 induction t using Tm.ind with
 | h t ih =>
   intro hm k hk
   rw [Tm.nms_eq] at hk
   rcases List.mem_append.1 hk with hk | hk
   ·unfold oneN at hk
    split at hk
    ·cases hk
    ·simp at hk
     subst hk
     have:=node_strE (Arn.may_node hm)
     show t.s.data.toList.length≤maxLen
     rw [Array.length_toList]
     exact Nat.le_trans this (by decide)
   ·obtain ⟨x,hx,hkx⟩:=nmsL_from hk
    exact ih x hx (Arn.may_part hm hx) k hkx
def KVar (w:World) (KB P E I X:Nat):Prop:=w.heap[KB]?=some (.cells #[fnK P E I X] 151)
theorem KVar.below {w w':World} {KB P E I X:Nat} (h:KVar w KB P E I X) (b:Below w.heap.size w w'):KVar w' KB P E I X:=(b.block _ (Array.getElem?_eq_some_iff.1 h).1).trans h
def unk (b:Bool):Int:=if b=true then 0 else 6
def SsRel (w:World) (f:List UInt8→Bool) (l:List (List UInt8)) (i:Value) (wr:World):Prop:=∃ k:Nat,i=.int .i64 k∧k≤l.length∧(∀ j (h:j < l.length),j < k→f l[j]=true)∧w=wr
end Env
theorem unknown_any {B:Nat} {w:World} {KB P E I X e i:Nat} {L:List Ent} {ks:List (List UInt8)} {x:Inf} (h:KCtx B w P E I X e L ks i x) (hK:KVar w KB P E I X) (hk:ks.length≤1000000) (n:Int) (s:ByteArray) (hs:s.size≤maxLen) :
 Calls Tryz.prog 149 #[.int .i64 n,.string s,.pointer (some ⟨KB,0,none⟩)] w fun y w'=>y=.returned (.int .i64 (unk (known L ks i x.hv (key s))))∧w=w':=by
 have HKN:=hid (known_any h hk s hs)
 have cK:=one_cellE hK
 unfold fnK at cK
 obtain ⟨G,hG⟩:∃ G,G=known L ks i x.hv (key s):=⟨_,rfl⟩
 rw [← hG] at HKN ⊢
 clear h hK hk hG
 unfold unk
 cases G
 all_goals
  go_enter Tryz.func149,Tryz.ntmps149
  go_wp2_with fail
  refine HKN.out.mono ?_
  rintro y w' ⟨rfl,rfl⟩
  go_wp2_with fail
  go_ret
  exact ⟨rfl,rfl⟩
theorem searchS_any {B:Nat} {w:World} {KB P E I X e i:Nat} {L:List Ent} {ks:List (List UInt8)} {x:Inf} (h:KCtx B w P E I X e L ks i x) (hK:KVar w KB P E I X) (hk:ks.length≤1000000) (l:List (List UInt8)) (ao:Option Addr) (cp:Nat) (hr:SRow w.heap.size w ao l) (hl:l.length≤1000000) (hls:∀ k ∈ l,k.length≤maxLen) :
 Calls Tryz.prog 147 #[.slice ao l.length cp,.func (.func 149) #[] #[.pointer (some ⟨KB,0,none⟩)]] w fun y w'=>y=.returned (.int .i64 (unk (l.all (known L ks i x.hv))))∧w=w':=by
 have HU:=hid (fun n s hs=>unknown_any h hK hk n s hs)
 have HR:=hid hr
 have HL:=hid hl
 have HLS:=hid hls
 obtain ⟨f,hf⟩:∃ f,f=known L ks i x.hv:=⟨_,rfl⟩
 rw [← hf] at HU ⊢
 obtain ⟨G,hG⟩:∃ G,G=unk (l.all f):=⟨_,rfl⟩
 rw [← hG]
 have HG:=hid hG
 clear h hK hk hr hl hls hf hG
 go_enter Tryz.func147,Tryz.ntmps147
 go_wp2_with fail
 go_loopw [10] (fun i wr=>SsRel w f l i wr) (fun i _=>l.length - (intOf i).toNat)
 case atStart=>exact ⟨0,rfl,by omega,fun j _ hj=>by omega,rfl⟩
 case round =>
  obtain ⟨k,rfl,hk,hall,rfl⟩:=hrel
  have HALL:=hid hall
  clear hall
  by_cases hlt:k < l.length
  ·obtain ⟨b,off,hao,hb,hc⟩:=HR.out.place k hlt
   subst hao
   have HUK:=hid (HU.out k ⟨l[k].toArray⟩ (by show l[k].toArray.size≤maxLen; rw [List.size_toArray]; exact HLS.out _ (List.getElem_mem hlt)))
   have hkk:key ⟨l[k].toArray⟩=l[k]:=by simp [key]
   rw [hkk] at HUK
   have HNO:Hid (f l[k]=false→(6:Int)=G):=hid (fun hh=>by
    rw [HG.out]
    have:l.all f=false:=by
     rw [← Bool.not_eq_true,List.all_eq_true]
     intro ha
     have:=ha _ (List.getElem_mem hlt)
     rw [hh] at this; cases this
    rw [this]; rfl)
   have HYE:Hid (f l[k]=true→∀ j (h:j < l.length),j < k + 1→f l[j]=true):=hid (fun hh j hj hjk=>by
    by_cases e:j=k
    ·subst e; exact hh
    ·exact HALL.out j hj (by omega))
   obtain ⟨z,hz⟩:∃ z,z=f l[k]:=⟨_,rfl⟩
   rw [← hz] at HUK HNO HYE
   clear hz hkk
   generalize (⟨l[k].toArray⟩:ByteArray)=y at hc HUK
   have HLT:=hid hlt
   unfold unk at HUK
   cases z
   ·go_wp2_with fail
    refine HUK.out.mono ?_
    rintro e w' ⟨rfl,rfl⟩
    have HE:=hid (HNO.out trivial)
    go_wp2_with fail
    go_ret
    exact ⟨by rw [← HE.out]; rfl,rfl⟩
   ·have hwk:wrap64 ((k:Int) + 1)=(k:Int) + 1:=IntWalk.wrap64_in _ (by have:=HL.out; omega)
    go_wp2_with fail
    refine HUK.out.mono ?_
    rintro e w' ⟨rfl,rfl⟩
    have HE:=hid (HYE.out trivial)
    go_wp2_with fail
    go_roundw
    case rel=>exact ⟨k + 1,by rw [hwk]; rfl,HLT.out,HE.out,rfl⟩
    case measure=>exact less_step hwk HLT.out
  ·have HE:Hid ((0:Int)=G):=hid (by
    rw [HG.out]
    have:l.all f=true:=by
     rw [List.all_eq_true]
     intro y hy
     obtain ⟨j,hj,rfl⟩:=List.getElem_of_mem hy
     exact HALL.out j hj (by omega)
    rw [this]; rfl)
   go_wp2_with fail
   go_ret
   exact ⟨by rw [← HE.out]; rfl,rfl⟩
theorem namesKnown_any {B:Nat} {w:World} {KB P E I X e i:Nat} {L:List Ent} {ks:List (List UInt8)} {x:Inf} (h:KCtx B w P E I X e L ks i x) (hK:KVar w KB P E I X) (hk:ks.length≤1000000) (n:Int) (t:Tm) (ht:Hd) (hin:t.In w.heap.size w ht) (hm:t.may=true) :
 Calls Tryz.prog 146 #[.int .i64 n,t.val ht,.pointer (some ⟨KB,0,none⟩)] w fun y w'=>y=.returned (.int .i64 (unk (t.nms.all (known L ks i x.hv))))∧Below w.heap.size w w':=by
 obtain ⟨WA,hWA⟩:∃ WA,WA=w.alloc (t.box ht):=⟨_,rfl⟩
 have HBA:=hid (show Below w.heap.size w WA from hWA ▸ below_one _ _)
 have HBX:=hid (show WA.heap[w.heap.size]?=some (t.box ht) from hWA ▸ World.alloc_heap_new w _)
 have HN:=hid (Names_yes t ht WA (carry hin HBA.out) hm)
 have HS:=hid (fun (W:World) (hW:Below WA.heap.size WA W) (l:List (List UInt8)) (ao:Option Addr) (cp:Nat) (hr:SRow W.heap.size W ao l) (hl:l.length≤1000000) (hls:∀ k ∈ l,k.length≤maxLen)=>searchS_any (h.below (Trm.go HBA.out hW)) (hK.below (Trm.go HBA.out hW)) hk l ao cp hr hl hls)
 have HM:=hid hm
 obtain ⟨f,hf⟩:∃ f,f=known L ks i x.hv:=⟨_,rfl⟩
 rw [← hf] at HS ⊢
 obtain ⟨G,hG⟩:∃ G,G=unk (t.nms.all f):=⟨_,rfl⟩
 rw [← hG]
 have HG:=hid hG
 clear h hK hk hin hm hf hG
 unfold Tm.val Tm.vals at *
 go_enter Tryz.func146,Tryz.ntmps146
 unfold Tm.box Tm.vals at hWA
 go_upto_region 1 with fail
 rw [← hWA]
 clear hWA
 obtain ⟨x0,x1,x2,x3,x4⟩:=Tm.cells HBX.out
 go_wp2_with fail
 refine HN.out.mono ?_
 rintro y w1 ⟨ao,cp,l,rfl,hsr,hri,hmem,b1⟩
 have hfew:=names_few HM.out hri hmem
 have hlong:∀ k ∈ l,k.length≤maxLen:=fun k hk2=>nms_long HM.out k ((hmem k).1 hk2)
 have hsame:l.all f=t.nms.all f:=by
  rw [Bool.eq_iff_iff,List.all_eq_true,List.all_eq_true]
  exact ⟨fun hh k hk2=>hh k ((hmem k).2 hk2),fun hh k hk2=>hh k ((hmem k).1 hk2)⟩
 have hss:=HS.out w1 b1 l ao cp hsr (by omega) hlong
 rw [hsame,← HG.out] at hss
 have HSS:=hid hss
 have HB1:=hid (Trm.go HBA.out b1)
 clear hsr hri hmem b1 hfew hlong hsame hss x0 x1 x2 x3 x4
 go_wp2_with fail
 refine HSS.out.mono ?_
 rintro y w' ⟨rfl,rfl⟩
 go_wp2_with fail
 go_ret
 exact ⟨rfl,HB1.out⟩
namespace Env
def firstE {α:Type} (f:α→Int) (l:List α):Int:=match l.find? (fun x=>!(f x == 0)) with
 | none=>0
 | some x=>f x
theorem firstE_zero {α:Type} {f:α→Int} {l:List α} (h:∀ j (hj:j < l.length),f l[j]=0):firstE f l=0:=by
 unfold firstE
 have:l.find? (fun x=>!(f x == 0))=none:=by
  rw [List.find?_eq_none]
  intro x hx
  obtain ⟨j,hj,rfl⟩:=List.getElem_of_mem hx
  simp [h j hj]
 rw [this]
theorem firstE_at {α:Type} {f:α→Int}:∀ {l:List α} {k:Nat} (hk:k < l.length),(∀ j (hj:j < l.length),j < k→f l[j]=0)→f l[k] ≠ 0→firstE f l=f l[k]
 | [],k,hk,_,_=>by simp at hk
 | a :: r,0,_,_,h=>by
   unfold firstE
   simp only [zqZ] at h
   simp [h]
 | a :: r,k + 1,hk,ha,h=>by
   have h0:f a=0:=ha 0 (by simp) (by omega)
   have hr:=firstE_at (f:=f) (l:=r) (k:=k) (by simpa using hk) (fun j hj hjk=>ha (j + 1) (by simpa using hj) (by omega)) (by simpa using h)
   unfold firstE at hr ⊢
   simp only [List.find?_cons,h0,BEq.rfl,Bool.not_true,zqS]
   exact hr
def StRel (w:World) (f:Tm→Int) (l:List Tm) (i:Value) (wr:World):Prop:=∃ k:Nat,i=.int .i64 k∧k≤l.length∧(∀ j (h:j < l.length),j < k→f l[j]=0)∧Below w.heap.size w wr
def OVar (w:World) (KB:Nat) (n:Nat):Prop:=∃ bo bc,w.heap[KB]?=some (.cells #[.slice bo n bc] 22)∧LRow w bo (parL n)∧Low w.heap.size bo n∧n≤bc∧n≤4
theorem OVar.below {w w':World} {KB n:Nat} (h:OVar w KB n) (b:Below w.heap.size w w'):OVar w' KB n:=by
 obtain ⟨bo,bc,h1,h2,h3,h4⟩:=h
 exact ⟨bo,bc,(b.block _ (Array.getElem?_eq_some_iff.1 h1).1).trans h1,h2.below b,Low.mono h3 b.size,h4⟩
end Env
theorem closed_any {w:World} {KB m:Nat} (h:OVar w KB m) (n:Int) (t:Tm) (ht:Hd) (hin:t.In w.heap.size w ht) :
 Calls Tryz.prog 144 #[.int .i64 n,t.val ht,.pointer (some ⟨KB,0,none⟩)] w fun y w'=>y=.returned (.int .i64 (openE t m))∧Below w.heap.size w w':=by
 obtain ⟨bo,bc,h1,h2,h3,h4,h5⟩:=h
 obtain ⟨WA,hWA⟩:∃ WA,WA=w.alloc (t.box ht):=⟨_,rfl⟩
 have HBA:=hid (show Below w.heap.size w WA from hWA ▸ below_one _ _)
 have HBX:=hid (show WA.heap[w.heap.size]?=some (t.box ht) from hWA ▸ World.alloc_heap_new w _)
 have cK:=one_cellE ((HBA.out.block _ (Array.getElem?_eq_some_iff.1 h1).1).trans h1)
 have HO:=hid (open_any t ht m bo bc WA (carry hin HBA.out) (h2.below HBA.out) (Low.mono h3 HBA.out.size) h4 h5)
 obtain ⟨G,hG⟩:∃ G,G=openE t m:=⟨_,rfl⟩
 rw [← hG] at HO ⊢
 clear h1 h2 h3 h4 h5 hin hG
 unfold Tm.val Tm.vals at *
 go_enter Tryz.func144,Tryz.ntmps144
 unfold Tm.box Tm.vals at hWA
 go_upto_region 1 with fail
 rw [← hWA]
 clear hWA
 obtain ⟨x0,x1,x2,x3,x4⟩:=Tm.cells HBX.out
 go_wp2_with fail
 refine HO.out.mono ?_
 rintro y w1 ⟨rfl,b1⟩
 have HB:=hid (Trm.go HBA.out b1)
 clear b1
 go_wp2_with fail
 go_ret
 exact ⟨rfl,HB.out⟩
theorem searchO_any {w:World} {KB:Nat} {m:Nat} (h:OVar w KB m) (l:List Tm) (ao:Option Addr) (cp:Nat) (hr:RowIn w.heap.size w ao 0 l) (hl:l.length≤1000000) :
 Calls Tryz.prog 143 #[.slice ao l.length cp,.func (.func 144) #[] #[.pointer (some ⟨KB,0,none⟩)]] w fun y w'=>y=.returned (.int .i64 (firstE (fun t=>openE t m) l))∧Below w.heap.size w w':=by
 have HU:=hid (fun (W:World) (hW:Below w.heap.size w W) (n:Int) (t:Tm) (ht:Hd) (hmem:t ∈ l) (hin:t.In W.heap.size W ht)=>(show Calls Tryz.prog 144 #[.int .i64 n,t.val ht,.pointer (some ⟨KB,0,none⟩)] W fun y w'=>y=.returned (.int .i64 ((fun t=>openE t m) t))∧Below W.heap.size W w' from closed_any (h.below hW) n t ht hin))
 have HR:=hid hr
 have HL:=hid hl
 obtain ⟨f,hf⟩:∃ f:Tm→Int,f=(fun t=>openE t m):=⟨_,rfl⟩
 rw [← hf] at HU ⊢
 obtain ⟨G,hG⟩:∃ G,G=firstE f l:=⟨_,rfl⟩
 rw [← hG]
 have HG:=hid hG
 clear h hr hl hf hG
 go_enter Tryz.func143,Tryz.ntmps143
 go_wp2_with fail
 go_loopw [10] (fun i wr=>StRel w f l i wr) (fun i _=>l.length - (intOf i).toNat)
 case atStart=>exact ⟨0,rfl,by omega,fun j _ hj=>by omega,Below.refl _ _⟩
 case round =>
  obtain ⟨k,rfl,hk,hall,hbel⟩:=hrel
  have HALL:=hid hall
  have HBEL:=hid hbel
  clear hall hbel
  by_cases hlt:k < l.length
  ·obtain ⟨b,off,hao,hb,hd,hc,hin⟩:=(Trm.RowIn.below HR.out HBEL.out).place k hlt
   rw [Nat.zero_add] at hc
   obtain ⟨c0,c1,c2,c3,c4⟩:=hc
   subst hao
   have HIN:=hid (Tm.In.mono HBEL.out.size _ _ hin)
   have HNO:Hid (f l[k] ≠ 0→f l[k]=G):=hid (fun hh=>by rw [HG.out]; exact (firstE_at hlt HALL.out hh).symm)
   have HYE:Hid (f l[k]=0→∀ j (h:j < l.length),j < k + 1→f l[j]=0):=hid (fun hh j hj hjk=>by
    by_cases e:j=k
    ·subst e; exact hh
    ·exact HALL.out j hj (by omega))
   have HMEM:=hid (List.getElem_mem hlt)
   obtain ⟨t,hte⟩:∃ t,t=l[k]:=⟨_,rfl⟩
   rw [← hte] at c0 c1 c2 c3 c4 HIN HNO HYE HMEM
   have HLT:=hid hlt
   obtain ⟨WA,hWA⟩:∃ WA,WA=wr.alloc (t.box hd):=⟨_,rfl⟩
   have HBA:=hid (show Below wr.heap.size wr WA from hWA ▸ below_one _ _)
   have HBX:=hid (show WA.heap[wr.heap.size]?=some (t.box hd) from hWA ▸ World.alloc_heap_new wr _)
   have HBW:=hid (Trm.go HBEL.out HBA.out)
   have HUK:=hid (HU.out WA HBW.out k t hd HMEM.out (carry HIN.out HBA.out))
   obtain ⟨z,hz⟩:∃ z,z=f t:=⟨_,rfl⟩
   rw [← hz] at HUK HNO HYE
   unfold Tm.val Tm.vals at HUK
   unfold Tm.box Tm.vals at hWA
   clear hte hin hz
   go_upto_region 4 with fail
   rw [← hWA]
   clear hWA c0 c1 c2 c3 c4
   obtain ⟨x0,x1,x2,x3,x4⟩:=Tm.cells HBX.out
   go_wp2_with fail
   refine HUK.out.mono ?_
   rintro e w2 ⟨rfl,b2⟩
   have HB2:=hid (Trm.go HBW.out b2)
   clear b2 x0 x1 x2 x3 x4 HUK
   by_cases hz0:z=0
   ·subst hz0
    have HE:=hid (HYE.out rfl)
    have hwk:wrap64 ((k:Int) + 1)=(k:Int) + 1:=IntWalk.wrap64_in _ (by have:=HL.out; omega)
    go_wp2_with fail
    go_roundw
    case rel=>exact ⟨k + 1,by rw [hwk]; rfl,HLT.out,HE.out,HB2.out⟩
    case measure=>exact less_step hwk HLT.out
   ·have HE:=hid (HNO.out hz0)
    have hz1:(z == 0)=false:=by simpa using hz0
    go_wp2_with fail
    go_ret
    exact ⟨by rw [← HE.out]; rfl,HB2.out⟩
  ·have HE:Hid ((0:Int)=G):=hid (by
    rw [HG.out]
    exact (firstE_zero fun j hj=>HALL.out j hj (by omega)).symm)
   go_wp2_with fail
   go_ret
   exact ⟨by rw [← HE.out]; rfl,HBEL.out⟩
theorem searchN_any {w:World} {KB:Nat} {B P E I X e i:Nat} {L:List Ent} {ks:List (List UInt8)} {x:Inf} (h:KCtx B w P E I X e L ks i x) (hK:KVar w KB P E I X) (hk:ks.length≤1000000) (l:List Tm) (ao:Option Addr) (cp:Nat) (hr:RowIn w.heap.size w ao 0 l) (hl:l.length≤1000000) (hmay:∀ t ∈ l,t.may=true) :
 Calls Tryz.prog 143 #[.slice ao l.length cp,.func (.func 146) #[] #[.pointer (some ⟨KB,0,none⟩)]] w fun y w'=>y=.returned (.int .i64 (firstE (fun t=>unk (t.nms.all (known L ks i x.hv))) l))∧Below w.heap.size w w':=by
 have HU:=hid (fun (W:World) (hW:Below w.heap.size w W) (n:Int) (t:Tm) (ht:Hd) (hmem:t ∈ l) (hin:t.In W.heap.size W ht)=>(show Calls Tryz.prog 146 #[.int .i64 n,t.val ht,.pointer (some ⟨KB,0,none⟩)] W fun y w'=>y=.returned (.int .i64 ((fun t=>unk (t.nms.all (known L ks i x.hv))) t))∧Below W.heap.size W w' from namesKnown_any (h.below hW) (hK.below hW) hk n t ht hin (hmay t hmem)))
 have HR:=hid hr
 have HL:=hid hl
 obtain ⟨f,hf⟩:∃ f:Tm→Int,f=(fun t=>unk (t.nms.all (known L ks i x.hv))):=⟨_,rfl⟩
 rw [← hf] at HU ⊢
 obtain ⟨G,hG⟩:∃ G,G=firstE f l:=⟨_,rfl⟩
 rw [← hG]
 have HG:=hid hG
 clear h hK hk hmay hr hl hf hG
 go_enter Tryz.func143,Tryz.ntmps143
 go_wp2_with fail
 go_loopw [10] (fun i wr=>StRel w f l i wr) (fun i _=>l.length - (intOf i).toNat)
 case atStart=>exact ⟨0,rfl,by omega,fun j _ hj=>by omega,Below.refl _ _⟩
 case round =>
  obtain ⟨k,rfl,hk,hall,hbel⟩:=hrel
  have HALL:=hid hall
  have HBEL:=hid hbel
  clear hall hbel
  by_cases hlt:k < l.length
  ·obtain ⟨b,off,hao,hb,hd,hc,hin⟩:=(Trm.RowIn.below HR.out HBEL.out).place k hlt
   rw [Nat.zero_add] at hc
   obtain ⟨c0,c1,c2,c3,c4⟩:=hc
   subst hao
   have HIN:=hid (Tm.In.mono HBEL.out.size _ _ hin)
   have HNO:Hid (f l[k] ≠ 0→f l[k]=G):=hid (fun hh=>by rw [HG.out]; exact (firstE_at hlt HALL.out hh).symm)
   have HYE:Hid (f l[k]=0→∀ j (h:j < l.length),j < k + 1→f l[j]=0):=hid (fun hh j hj hjk=>by
    by_cases e:j=k
    ·subst e; exact hh
    ·exact HALL.out j hj (by omega))
   have HMEM:=hid (List.getElem_mem hlt)
   obtain ⟨t,hte⟩:∃ t,t=l[k]:=⟨_,rfl⟩
   rw [← hte] at c0 c1 c2 c3 c4 HIN HNO HYE HMEM
   have HLT:=hid hlt
   obtain ⟨WA,hWA⟩:∃ WA,WA=wr.alloc (t.box hd):=⟨_,rfl⟩
   have HBA:=hid (show Below wr.heap.size wr WA from hWA ▸ below_one _ _)
   have HBX:=hid (show WA.heap[wr.heap.size]?=some (t.box hd) from hWA ▸ World.alloc_heap_new wr _)
   have HBW:=hid (Trm.go HBEL.out HBA.out)
   have HUK:=hid (HU.out WA HBW.out k t hd HMEM.out (carry HIN.out HBA.out))
   obtain ⟨z,hz⟩:∃ z,z=f t:=⟨_,rfl⟩
   rw [← hz] at HUK HNO HYE
   unfold Tm.val Tm.vals at HUK
   unfold Tm.box Tm.vals at hWA
   clear hte hin hz
   go_upto_region 4 with fail
   rw [← hWA]
   clear hWA c0 c1 c2 c3 c4
   obtain ⟨x0,x1,x2,x3,x4⟩:=Tm.cells HBX.out
   go_wp2_with fail
   refine HUK.out.mono ?_
   rintro e w2 ⟨rfl,b2⟩
   have HB2:=hid (Trm.go HBW.out b2)
   clear b2 x0 x1 x2 x3 x4 HUK
   by_cases hz0:z=0
   ·subst hz0
    have HE:=hid (HYE.out rfl)
    have hwk:wrap64 ((k:Int) + 1)=(k:Int) + 1:=IntWalk.wrap64_in _ (by have:=HL.out; omega)
    go_wp2_with fail
    go_roundw
    case rel=>exact ⟨k + 1,by rw [hwk]; rfl,HLT.out,HE.out,HB2.out⟩
    case measure=>exact less_step hwk HLT.out
   ·have HE:=hid (HNO.out hz0)
    have hz1:(z == 0)=false:=by simpa using hz0
    go_wp2_with fail
    go_ret
    exact ⟨by rw [← HE.out]; rfl,HB2.out⟩
  ·have HE:Hid ((0:Int)=G):=hid (by
    rw [HG.out]
    exact (firstE_zero fun j hj=>HALL.out j hj (by omega)).symm)
   go_wp2_with fail
   go_ret
   exact ⟨by rw [← HE.out]; rfl,HBEL.out⟩
end Go.Proofs.YtmngddomnaaedaaGreat
namespace Go.Proofs.YtmngddomnaaedaaGreat
open Go.RowKit Go.Shelf Go.Maps Lvl Trm Env
namespace Env
noncomputable def wrongT (L:List Ent) (ks:List (List UInt8)) (i n:Nat) (x:Inf):Int :=
 if firstE (fun t=>openE t n) x.terms=0 then firstE (fun t=>unk (t.nms.all (known L ks i x.hv))) x.terms else firstE (fun t=>openE t n) x.terms
theorem firstE_all {α:Type} {f:α→Int} {l:List α} (h:0=firstE f l):∀ x ∈ l,f x=0:=by
 unfold firstE at h
 split at h
 ·rename_i hn
  rw [List.find?_eq_none] at hn
  intro x hx
  have:=hn x hx
  simpa using this
 ·rename_i x hs
  have:=List.find?_some hs
  simp [← h] at this
theorem open_may {l:List Tm} {n:Nat} (h:0=firstE (fun t=>openE t n) l):∀ t ∈ l,t.may=true:=fun t ht=>by
 have h1:openE t n=0:=firstE_all h t ht
 unfold openE at h1
 split at h1
 ·rename_i hc
  exact hc.1
 ·omega
theorem set_ranE {P:Nat→Prop} (w:World) (b i:Nat) (v:Value) (hP:P b):RanS P w (w.setCell ⟨b,i,none⟩ v) :=
 ⟨rfl,rfl,rfl,by simp,fun k _ hk=>RowKit.Below.heap_setCell _ _ _ _ (fun e=>hk (e ▸ hP))⟩
theorem cells_setE {w:World} {b i:Nat} {C:Array Value} {ty:TypeId} {fr:Nat × Nat} (h:w.heap[b]?=some (.cells C ty fr)) (v:Value):(w.setCell ⟨b,i,none⟩ v).heap[b]?=some (.cells (C.setIfInBounds i v) ty fr):=by
 simp [World.setCell,Array.getElem?_modify,h]
theorem ovar_new {w:World} {n g:Nat} (hr:LRow w (some ⟨g,0,none⟩) (parL n)) (hg:g < w.heap.size) (hn:n≤4):OVar (w.alloc (.cells #[.slice (some ⟨g,0,none⟩) n n] 22)) w.heap.size n :=
 ⟨_,_,World.alloc_heap_new _ _,hr.below (below_one _ _),fun _ a ha=>by injection ha with ha; subst ha; rw [World.size_alloc]; show g < w.heap.size + 1; omega,Nat.le_refl _,hn⟩
theorem ovar_put {w3:World} {n g X:Nat} (hX:w3.heap[X]?=some (.cells #[.slice none 0 0] 22)) (hr:LRow w3 (some ⟨g,0,none⟩) (parL n)) (hg:g < w3.heap.size) (hne:X ≠ g) (hn:n≤4):OVar (w3.setCell ⟨X,0,none⟩ (.slice (some ⟨g,0,none⟩) n n)) X n:=by
 refine ⟨_,_,by have:=cells_setE (i:=0) hX (.slice (some ⟨g,0,none⟩) n n); simpa using this,⟨fun k hk=>?_⟩,fun _ a ha=>by injection ha with ha; subst ha; show g < (w3.setCell _ _).heap.size; rw [World.size_setCell]; exact hg,Nat.le_refl _,hn⟩
 obtain ⟨b,off,hao,ha⟩:=hr.place k hk
 have hb:b=g:=by injection hao with e; injection e with e _ _; exact e.symm
 subst hb
 obtain ⟨a0,a1,a2,a3,a4⟩:=ha
 have key:∀ j,(w3.setCell ⟨X,0,none⟩ (.slice (some ⟨b,0,none⟩) n n)).cell? ⟨b,j,none⟩=w3.cell? ⟨b,j,none⟩:=fun j=>World.cell?_setCell_other _ _ _ _ (by intro e; injection e with e1 _ _; exact hne e1)
 exact ⟨b,off,hao,(key _).trans a0,(key _).trans a1,(key _).trans a2,(key _).trans a3,(key _).trans a4⟩
theorem rowEnd {B b0:Nat} {w2 W6:World} {ao:Option Addr} {L:List Tm} (h:RowB B b0 w2 ao L) (hr:RanS (fun q=>B≤q∧q < b0) w2 W6) (hB:B≤w2.heap.size):RowIn W6.heap.size W6 ao 0 L:=(h.ran hr (fun _ h=>h) hB).rowIn (Nat.le_trans hB hr.size)
theorem below_setE {B:Nat} {w w3:World} {vb:Nat} (h:Below B w w3) (hv:B≤vb) (hB:B≤w3.heap.size) (u:Value):Below B w (w3.setCell ⟨vb,0,none⟩ u) :=
 h.trans ((set_ranE (P:=fun q=>q=vb) w3 vb 0 u rfl).below (fun q e=>by rw [e]; exact hv) hB)
end Env
theorem wrongTerms_any {B:Nat} {w:World} {P E I X e i n:Nat} {L:List Ent} {ks:List (List UInt8)} {x:Inf} {hd:IHd} (h:KCtx B w P E I X e L ks i x) (hX:IBox w X x hd) (hin:x.In w.heap.size w hd) (hk:ks.length≤1000000) (hr:x.rules.length≤1000) (hp:x.params=(n:Int)) (hn:n≤4) :
 Calls Tryz.prog 102 #[.pointer (some ⟨X,0,none⟩),fnK P E I X] w fun y w'=>y=.returned (.int .i64 (wrongT L ks i n x))∧Below w.heap.size w w':=by
 obtain ⟨G,hG⟩:∃ G,G=wrongT L ks i n x:=⟨_,rfl⟩
 rw [← hG]
 have HG:=hid hG
 obtain ⟨WA,hWA⟩:∃ WA,WA=w.alloc (.cells #[fnK P E I X] 151):=⟨_,rfl⟩
 have HBA:=hid (show Below w.heap.size w WA from hWA ▸ below_one _ _)
 have HK:=hid (show KVar WA w.heap.size P E I X from hWA ▸ World.alloc_heap_new w _)
 have HCTX:=hid (h.below HBA.out)
 have HKS:=hid hk
 have HN4:=hid hn
 have HTL:Hid (x.terms.length≤1000000):=hid (by unfold Inf.terms; simp; split <;> simp <;> omega)
 have HT:=hid (fun (W:World) (hW:Below WA.heap.size WA W)=>termsOf_any (B:=WA.heap.size) (hX.keep (Trm.go HBA.out hW)) ((Inf.carry hin HBA.out).below hW) hW.size hr)
 have HC2:=hid (fun (W:World) (hW:Below WA.heap.size WA W)=>(show W.cell? ⟨X,2,none⟩=some (.int .i64 n) from by rw [← hp]; exact (hX.keep (Trm.go HBA.out hW)).cell 2))
 clear h hX hin hk hr hp hn hG
 unfold fnK at hWA ⊢
 go_enter Tryz.func102,Tryz.ntmps102
 go_upto_region 1 with fail
 rw [← hWA]
 clear hWA
 refine wp_region_held_drew (S:=fun w'=>w'.cell? ⟨X,2,none⟩=some (.int .i64 n)) (by kernel_rfl) (HC2.out _ (Below.refl _ _).drew) (fun hHeld=>?_)
 refine wpAnyH_take (i:=0) (v:=?va0) rfl (by kernel_rfl) (by kernel_rfl) (by kernel_rfl) (fun _ _ _ h=>h) (Or.inl ⟨by rfl,?hya0⟩) (by assumption) ?resta0
 case hya0=>(intro w' hSw; (try dsimp only at hSw); go_simp <;> with_reducible rfl)
 try simp only [zqT,zqZ,Act.put,zqB,zq0,zq1]
 refine wpAnyH_take (i:=2) (v:=?va2) rfl (by kernel_rfl) (by kernel_rfl) (by kernel_rfl) (fun _ _ _ h=>h) (Or.inl ⟨by rfl,?hya2⟩) (by assumption) ?resta2
 case hya2=>(intro w' hSw; (try dsimp only at hSw); go_simp <;> with_reducible rfl)
 try simp only [zqT,zqS,zqZ,Act.put,zqB,zq0,zq1]
 refine wpAnyH_take (i:=3) (v:=?va3) rfl (by kernel_rfl) (by kernel_rfl) (by kernel_rfl) (fun _ _ _ h=>h) (Or.inl ⟨by rfl,?hya3⟩) (by assumption) ?resta3
 case hya3=>(intro w' hSw; (try dsimp only at hSw); go_simp <;> with_reducible rfl)
 try simp only [zqT,zqS,zqZ,Act.put,zqB,zq0,zq1]
 refine wpAnyH_take (i:=4) (v:=?va4) rfl (by kernel_rfl) (by kernel_rfl) (by kernel_rfl) (fun _ _ _ h=>h) (Or.inl ⟨by rfl,?hya4⟩) (by assumption) ?resta4
 case hya4=>(intro w' hSw; (try dsimp only at hSw); go_simp <;> with_reducible rfl)
 try simp only [zqT,zqS,zqZ,Act.put,zqB,zq0,zq1]
 refine wpAnyH_take (i:=5) (v:=?va5) rfl (by kernel_rfl) (by kernel_rfl) (by kernel_rfl) (fun _ _ _ h=>h) (Or.inl ⟨by rfl,?hya5⟩) (by assumption) ?resta5
 case hya5=>(intro w' hSw; (try dsimp only at hSw); go_simp <;> with_reducible rfl)
 try simp only [zqT,zqS,zqZ,Act.put,zqB,zq0,zq1]
 refine wpAnyH_ready (rs:=[1,7]) (by kernel_rfl) (by simp) ?_
 refine AllReadyH.cons rfl (fun K hK=>?_) (AllReadyH.cons rfl (fun K hK=>?_) AllReadyH.nil)
 ·go_simp
  refine (HT.out (WA.drew) ((Below.refl _ _).drew)).mono ?_
  rintro y w2 ⟨ao,cp,rfl,hri,bT⟩
  have Bw2:=hid (show Below WA.heap.size WA w2 from Lvl.undrew bT)
  have HRI:=hid hri
  clear hri
  refine hK.out _ _ (HC2.out _ Bw2.out) (fun hHeld=>?_)
  clear hK K
  try simp only [zqT,zqS,zqZ,Act.put,zqB,zq0,zq1]
  refine wpAnyH_ready (rs:=[6,7]) (by kernel_rfl) (by simp) ?_
  refine AllReadyH.cons rfl (fun K hK=>?_) (AllReadyH.cons rfl (fun K hK=>?_) AllReadyH.nil)
  ·go_simp
   refine (envParams_any n HN4.out (w2)).mono ?_
   rintro y w3 ⟨g,rfl,hrow,hge,hgl,bP⟩
   have Bw3:=hid (show Below WA.heap.size WA w3 from Trm.go Bw2.out bP)
   have HROW:=hid hrow
   have HGL:=hid hgl
   have HBP:=hid bP
   clear hrow hgl bP hge
   refine hK.out _ _ (HC2.out _ Bw3.out) (fun hHeld=>?_)
   clear hK K
   try simp only [zqT,zqS,zqZ,Act.put,zqB,zq0,zq1]
   refine wpAnyH_ready (rs:=[7]) (by kernel_rfl) (by simp) ?_
   refine AllReadyH.cons rfl (fun K hK=>?_) AllReadyH.nil
   go_simp
   refine hK.out _ _ (HC2.out _ (Trm.go Bw3.out (below_one _ _))) (fun hHeld=>?_)
   clear hK K
   try simp only [zqT,zqS,zqZ,Act.put,zqB,zq0,zq1]
   refine wpAnyH_take (i:=8) (v:=?vc8) rfl (by kernel_rfl) (by kernel_rfl) (by kernel_rfl) (fun _ _ _ h=>h) (Or.inl ⟨by rfl,?hyc8⟩) (by assumption) ?restc8
   case hyc8=>(intro w' hSw; (try dsimp only at hSw); go_simp <;> with_reducible rfl)
   try simp only [zqT,zqS,zqZ,Act.put,zqB,zq0,zq1]
   refine wpAnyH_ready (rs:=[9]) (by kernel_rfl) (by simp) ?_
   refine AllReadyH.cons rfl (fun K hK=>?_) AllReadyH.nil
   go_simp
   refine hK.out _ _ (HC2.out _ (Trm.go Bw3.out (below_one _ _))) (fun hHeld=>?_)
   clear hK K
   try simp only [zqT,zqS,zqZ,Act.put,zqB,zq0,zq1]
   refine wpAnyH_done (by kernel_rfl) ?_ _
   obtain ⟨W6,hW6⟩:∃ x:World,x=w3.alloc (.cells #[.slice (some ⟨g,0,none⟩) n n] 22):=⟨_,rfl⟩
   have HOV:Hid (OVar W6 w3.heap.size n):=hid (by rw [hW6]; exact ovar_new HROW.out HGL.out HN4.out)
   have HR6:Hid (RowIn W6.heap.size W6 ao 0 x.terms):=hid (by rw [hW6]; exact rowEnd HRI.out (RanS.of_below (Trm.go HBP.out (below_one _ _))) Bw2.out.size)
   have HB6:Hid (Below WA.heap.size WA W6):=hid (by rw [hW6]; exact Trm.go Bw3.out (below_one _ _))
   rw [← hW6]
   clear hW6
   have HSO:=hid (searchO_any HOV.out x.terms ao cp HR6.out HTL.out)
   obtain ⟨z,hz⟩:∃ z,z=firstE (fun t=>openE t n) x.terms:=⟨_,rfl⟩
   rw [← hz] at HSO
   have HZ:=hid hz
   clear hz
   have cK3:=one_cellE (HK.out.below HB6.out)
   unfold fnK at cK3
   go_wp2_with fail
   refine HSO.out.mono ?_
   rintro y w7 ⟨rfl,b7⟩
   have HB7:=hid (Trm.go HB6.out b7)
   have HR7:=hid (carryRow HR6.out b7)
   clear b7 HSO cK3
   by_cases hz0:z=0
   ·subst hz0
    have hmay:∀ t ∈ x.terms,t.may=true:=open_may HZ.out
    have hsn:=searchN_any (HCTX.out.below HB7.out) (HK.out.below HB7.out) HKS.out x.terms ao cp HR7.out HTL.out hmay
    obtain ⟨q,hq⟩:∃ q,q=firstE (fun t=>unk (t.nms.all (known L ks i x.hv))) x.terms:=⟨_,rfl⟩
    rw [← hq] at hsn
    have HSN:=hid hsn
    have HE:Hid (q=G):=hid (by rw [HG.out,hq]; unfold wrongT; rw [if_pos HZ.out.symm])
    clear hmay hsn hq
    go_wp2_with fail
    refine HSN.out.mono ?_
    rintro y w8 ⟨rfl,b8⟩
    have HB8:=hid (Trm.go HBA.out (Trm.go HB7.out b8))
    clear b8
    go_wp2_with fail
    go_ret
    exact ⟨by rw [← HE.out]; rfl,HB8.out⟩
   ·have HE:Hid (z=G):=hid (by rw [HG.out,HZ.out]; unfold wrongT; rw [if_neg (fun h=>hz0 (by rw [HZ.out]; exact h))])
    have hz1:(z == 0)=false:=by simpa using hz0
    have HB8:=hid (Trm.go HBA.out HB7.out)
    go_wp2_with fail
    go_ret
    exact ⟨by rw [← HE.out]; rfl,HB8.out⟩
  ·go_simp
   refine hK.out _ _ (HC2.out _ (Trm.go Bw2.out (below_one _ _))) (fun hHeld=>?_)
   clear hK K
   try simp only [zqT,zqS,zqZ,Act.put,zqB,zq0,zq1]
   refine wpAnyH_ready (rs:=[6]) (by kernel_rfl) (by simp) ?_
   refine AllReadyH.cons rfl (fun K hK=>?_) AllReadyH.nil
   go_simp
   refine (envParams_any n HN4.out (w2.alloc (.cells #[.slice none 0 0] 22))).mono ?_
   rintro y w3 ⟨g,rfl,hrow,hge,hgl,bP⟩
   have Bw3:=hid (show Below WA.heap.size WA w3 from Trm.go (Trm.go Bw2.out (below_one w2 (.cells #[.slice none 0 0] 22))) bP)
   have HNE:=hid (show w2.heap.size ≠ g from fun e=>by rw [World.size_alloc] at hge; omega)
   have HROW:=hid hrow
   have HGL:=hid hgl
   have HBP:=hid bP
   clear hrow hgl bP hge
   refine hK.out _ _ (HC2.out _ Bw3.out) (fun hHeld=>?_)
   clear hK K
   try simp only [zqT,zqS,zqZ,Act.put,zqB,zq0,zq1]
   have hz:=(HBP.out.block w2.heap.size (by rw [World.size_alloc]; omega)).trans (World.alloc_heap_new w2 (.cells #[.slice none 0 0] 22))
   have HZZ:=hid hz
   have cz:=one_cellE hz
   have fz:w3.frozen? ⟨w2.heap.size,0,none⟩=false:=by simp [World.frozen?,hz]
   clear hz
   refine wpAnyH_take (i:=8) (v:=?vdBww8) rfl (by kernel_rfl) (by kernel_rfl) (by kernel_rfl) (fun _ _ _ h=>h) (Or.inl ⟨by rfl,?hydBww8⟩) (by assumption) ?restdBww8
   case hydBww8=>(intro w' hSw; (try dsimp only at hSw); go_simp <;> with_reducible rfl)
   try simp only [zqT,zqS,zqZ,Act.put,zqB,zq0,zq1]
   refine wpAnyH_ready (rs:=[9]) (by kernel_rfl) (by simp) ?_
   refine AllReadyH.cons rfl (fun K hK=>?_) AllReadyH.nil
   go_simp
   refine hK.out _ _ (HC2.out _ (below_setE Bw3.out Bw2.out.size Bw3.out.size _)) (fun hHeld=>?_)
   clear hK K
   try simp only [zqT,zqS,zqZ,Act.put,zqB,zq0,zq1]
   refine wpAnyH_done (by kernel_rfl) ?_ _
   clear cz fz
   obtain ⟨W6,hW6⟩:∃ x:World,x=w3.setCell ⟨w2.heap.size,0,none⟩ (.slice (some ⟨g,0,none⟩) n n):=⟨_,rfl⟩
   have HOV:Hid (OVar W6 w2.heap.size n):=hid (by rw [hW6]; exact ovar_put HZZ.out HROW.out HGL.out HNE.out HN4.out)
   have HR6:Hid (RowIn W6.heap.size W6 ao 0 x.terms):=hid (by rw [hW6]; exact rowEnd HRI.out (RanS.of_below (below_setE (Trm.go (below_one w2 (.cells #[.slice none 0 0] 22)) HBP.out) (Nat.le_refl _) (Trm.go (below_one w2 (.cells #[.slice none 0 0] 22)) HBP.out).size _)) Bw2.out.size)
   have HB6:Hid (Below WA.heap.size WA W6):=hid (by rw [hW6]; exact below_setE Bw3.out Bw2.out.size Bw3.out.size _)
   rw [← hW6]
   clear hW6
   have HSO:=hid (searchO_any HOV.out x.terms ao cp HR6.out HTL.out)
   obtain ⟨z,hz⟩:∃ z,z=firstE (fun t=>openE t n) x.terms:=⟨_,rfl⟩
   rw [← hz] at HSO
   have HZ:=hid hz
   clear hz
   have cK3:=one_cellE (HK.out.below HB6.out)
   unfold fnK at cK3
   go_wp2_with fail
   refine HSO.out.mono ?_
   rintro y w7 ⟨rfl,b7⟩
   have HB7:=hid (Trm.go HB6.out b7)
   have HR7:=hid (carryRow HR6.out b7)
   clear b7 HSO cK3
   by_cases hz0:z=0
   ·subst hz0
    have hmay:∀ t ∈ x.terms,t.may=true:=open_may HZ.out
    have hsn:=searchN_any (HCTX.out.below HB7.out) (HK.out.below HB7.out) HKS.out x.terms ao cp HR7.out HTL.out hmay
    obtain ⟨q,hq⟩:∃ q,q=firstE (fun t=>unk (t.nms.all (known L ks i x.hv))) x.terms:=⟨_,rfl⟩
    rw [← hq] at hsn
    have HSN:=hid hsn
    have HE:Hid (q=G):=hid (by rw [HG.out,hq]; unfold wrongT; rw [if_pos HZ.out.symm])
    clear hmay hsn hq
    go_wp2_with fail
    refine HSN.out.mono ?_
    rintro y w8 ⟨rfl,b8⟩
    have HB8:=hid (Trm.go HBA.out (Trm.go HB7.out b8))
    clear b8
    go_wp2_with fail
    go_ret
    exact ⟨by rw [← HE.out]; rfl,HB8.out⟩
   ·have HE:Hid (z=G):=hid (by rw [HG.out,HZ.out]; unfold wrongT; rw [if_neg (fun h=>hz0 (by rw [HZ.out]; exact h))])
    have hz1:(z == 0)=false:=by simpa using hz0
    have HB8:=hid (Trm.go HBA.out HB7.out)
    go_wp2_with fail
    go_ret
    exact ⟨by rw [← HE.out]; rfl,HB8.out⟩
 ·go_simp
  refine hK.out _ _ (HC2.out _ (Trm.go (Below.refl _ _).drew (below_one _ _))) (fun hHeld=>?_)
  clear hK K
  try simp only [zqT,zqS,zqZ,Act.put,zqB,zq0,zq1]
  refine wpAnyH_ready (rs:=[1]) (by kernel_rfl) (by simp) ?_
  refine AllReadyH.cons rfl (fun K hK=>?_) AllReadyH.nil
  go_simp
  refine (HT.out (WA.drew.alloc (.cells #[.slice none 0 0] 22)) (Trm.go (Below.refl _ _).drew (below_one _ _))).mono ?_
  rintro y w2 ⟨ao,cp,rfl,hri,bT⟩
  have Bw2:=hid (show Below WA.heap.size WA w2 from Trm.go (Trm.go (Below.refl _ _).drew (below_one WA.drew (.cells #[.slice none 0 0] 22))) bT)
  have HRI:=hid hri
  clear hri
  have hzT:=(bT.block WA.drew.heap.size (by rw [World.size_alloc]; omega)).trans (World.alloc_heap_new WA.drew (.cells #[.slice none 0 0] 22))
  have HZT:=hid hzT
  have HLT2:=hid (show WA.heap.size < w2.heap.size from by have:=bT.size; rw [World.size_alloc] at this; exact this)
  clear hzT
  refine hK.out _ _ (HC2.out _ Bw2.out) (fun hHeld=>?_)
  clear hK K
  try simp only [zqT,zqS,zqZ,Act.put,zqB,zq0,zq1]
  refine wpAnyH_ready (rs:=[6]) (by kernel_rfl) (by simp) ?_
  refine AllReadyH.cons rfl (fun K hK=>?_) AllReadyH.nil
  go_simp
  refine (envParams_any n HN4.out (w2)).mono ?_
  rintro y w3 ⟨g,rfl,hrow,hge,hgl,bP⟩
  have Bw3:=hid (show Below WA.heap.size WA w3 from Trm.go Bw2.out bP)
  have HNE:=hid (show WA.heap.size ≠ g from fun e=>by have:=HLT2.out; omega)
  have HROW:=hid hrow
  have HGL:=hid hgl
  have HBP:=hid bP
  clear hrow hgl bP hge
  refine hK.out _ _ (HC2.out _ Bw3.out) (fun hHeld=>?_)
  clear hK K
  try simp only [zqT,zqS,zqZ,Act.put,zqB,zq0,zq1]
  have hz:=(HBP.out.block WA.heap.size HLT2.out).trans HZT.out
  have HZZ:=hid hz
  have cz:=one_cellE hz
  have fz:w3.frozen? ⟨WA.heap.size,0,none⟩=false:=by simp [World.frozen?,hz]
  clear hz
  refine wpAnyH_take (i:=8) (v:=?vdNW8) rfl (by kernel_rfl) (by kernel_rfl) (by kernel_rfl) (fun _ _ _ h=>h) (Or.inl ⟨by rfl,?hydNW8⟩) (by assumption) ?restdNW8
  case hydNW8=>(intro w' hSw; (try dsimp only at hSw); go_simp <;> with_reducible rfl)
  try simp only [zqT,zqS,zqZ,Act.put,zqB,zq0,zq1]
  refine wpAnyH_ready (rs:=[9]) (by kernel_rfl) (by simp) ?_
  refine AllReadyH.cons rfl (fun K hK=>?_) AllReadyH.nil
  go_simp
  refine hK.out _ _ (HC2.out _ (below_setE Bw3.out (Nat.le_refl _) Bw3.out.size _)) (fun hHeld=>?_)
  clear hK K
  try simp only [zqT,zqS,zqZ,Act.put,zqB,zq0,zq1]
  refine wpAnyH_done (by kernel_rfl) ?_ _
  clear cz fz
  obtain ⟨W6,hW6⟩:∃ x:World,x=w3.setCell ⟨WA.heap.size,0,none⟩ (.slice (some ⟨g,0,none⟩) n n):=⟨_,rfl⟩
  have HOV:Hid (OVar W6 WA.heap.size n):=hid (by rw [hW6]; exact ovar_put HZZ.out HROW.out HGL.out HNE.out HN4.out)
  have HR6:Hid (RowIn W6.heap.size W6 ao 0 x.terms):=hid (by rw [hW6]; exact rowEnd HRI.out ((RanS.of_below HBP.out).trans (set_ranE w3 WA.heap.size 0 _ ⟨Nat.le_refl _,by rw [World.size_alloc]; exact Nat.lt_succ_self _⟩)) Bw2.out.size)
  have HB6:Hid (Below WA.heap.size WA W6):=hid (by rw [hW6]; exact below_setE Bw3.out (Nat.le_refl _) Bw3.out.size _)
  rw [← hW6]
  clear hW6
  have HSO:=hid (searchO_any HOV.out x.terms ao cp HR6.out HTL.out)
  obtain ⟨z,hz⟩:∃ z,z=firstE (fun t=>openE t n) x.terms:=⟨_,rfl⟩
  rw [← hz] at HSO
  have HZ:=hid hz
  clear hz
  have cK3:=one_cellE (HK.out.below HB6.out)
  unfold fnK at cK3
  go_wp2_with fail
  refine HSO.out.mono ?_
  rintro y w7 ⟨rfl,b7⟩
  have HB7:=hid (Trm.go HB6.out b7)
  have HR7:=hid (carryRow HR6.out b7)
  clear b7 HSO cK3
  by_cases hz0:z=0
  ·subst hz0
   have hmay:∀ t ∈ x.terms,t.may=true:=open_may HZ.out
   have hsn:=searchN_any (HCTX.out.below HB7.out) (HK.out.below HB7.out) HKS.out x.terms ao cp HR7.out HTL.out hmay
   obtain ⟨q,hq⟩:∃ q,q=firstE (fun t=>unk (t.nms.all (known L ks i x.hv))) x.terms:=⟨_,rfl⟩
   rw [← hq] at hsn
   have HSN:=hid hsn
   have HE:Hid (q=G):=hid (by rw [HG.out,hq]; unfold wrongT; rw [if_pos HZ.out.symm])
   clear hmay hsn hq
   go_wp2_with fail
   refine HSN.out.mono ?_
   rintro y w8 ⟨rfl,b8⟩
   have HB8:=hid (Trm.go HBA.out (Trm.go HB7.out b8))
   clear b8
   go_wp2_with fail
   go_ret
   exact ⟨by rw [← HE.out]; rfl,HB8.out⟩
  ·have HE:Hid (z=G):=hid (by rw [HG.out,HZ.out]; unfold wrongT; rw [if_neg (fun h=>hz0 (by rw [HZ.out]; exact h))])
   have hz1:(z == 0)=false:=by simpa using hz0
   have HB8:=hid (Trm.go HBA.out HB7.out)
   go_wp2_with fail
   go_ret
   exact ⟨by rw [← HE.out]; rfl,HB8.out⟩
end Go.Proofs.YtmngddomnaaedaaGreat
