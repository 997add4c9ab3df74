/-
 env.New,Find.
-/
import Derived.Lib.Hide
import Derived.Test.YtmngddomnaaedaaGreatQB21
import Derived.Test.YtmngddomnaaedaaGreatQB20
open Go.Lib (hid)
set_option maxRecDepth 100000
set_option maxHeartbeats 32000000
namespace Go.Proofs.YtmngddomnaaedaaGreat
open Go.RowKit Go.Shelf Go.Maps Lvl Trm Env
namespace Env
theorem results_two {fn:Func} {p u:Tmp} {ty:TypeId} (h:fn.results=#[.cell p ty,.tmp u]) (tmps:Array Value) (w:World) (g:Nat) (cs:Array Value) (uv:Value)
 (hp:tmps.getD p undef=.pointer (some ⟨g,0,none⟩)) (hu0:tmps.getD u undef=uv) (hl:(loadVar ty ⟨g,0,none⟩).run Tryz.prog w=.ok (.agg cs) w) :
 (results fn tmps).run Tryz.prog w=.ok (.tuple #[.agg cs,uv]) w:=by
 have hp':tmps[p]?.getD undef=.pointer (some ⟨g,0,none⟩):=by simpa using hp
 have hu':tmps[u]?.getD undef=uv:=by simpa using hu0
 simp [results,h,hp',hu',asAddr,hl]
def zInfo:Value:=.agg Inf.zeros
def FdPost (P:Nat→Prop) (L:List Ent) (k:List UInt8) (w:World) (y:Ending) (w':World):Prop :=
 Below w.heap.size w w'∧((lookE L k=none∧y=.returned (.tuple #[zInfo,.bool false]))∨∃ p h,lookE L k=some p∧y=.returned (.tuple #[.agg (p.2.1.vals h).toArray,.bool true])∧FirmI P w' p.2.1 h)
theorem EnvB.start {B:Nat} {w:World} (hB:B≤w.heap.size):EnvB B (w.alloc (.cells #[.map none,.slice none 0 0] 110)) w.heap.size [] none (.slice none 0 0) :=
 { box:=World.alloc_heap_new _ _
   row:=World.ownsRow_nil _ _ _ _
   map:=Or.inl ⟨rfl,rfl⟩
   info:=fun p hp=>by simp at hp
   firm:=fun p hp=>by simp at hp
   nodup:=List.nodup_nil
   apart:=⟨by simp [Value.ownBlock],by simp,fun q hq=>by simp [Value.ownBlock] at hq⟩
   eB:=hB
   hgt:=fun p hp=>by simp at hp
   few:=by simp }
theorem EnvB.own_lt {B:Nat} {w:World} {e:Nat} {L:List Ent} {mo:Option Nat} {v:Value} (h:EnvB B w e L mo v):∀ q,ownE e v mo q→q < w.heap.size:=by
 rintro q (rfl | hq | hq)
 ·exact (Array.getElem?_eq_some_iff.1 h.box).1
 ·exact (h.row.lt q hq).2
 ·rcases h.map with ⟨hm,_⟩ | ⟨m,D,hm,hown,_⟩
  ·rw [hm] at hq; cases hq
  ·rw [hm] at hq; injection hq with hq; subst hq; exact hown.lt
end Env
theorem envNew_any (w:World):Calls Tryz.prog 38 #[] w fun y w'=>y=.returned (.pointer (some ⟨w.heap.size,0,none⟩))∧w'=w.alloc (.cells #[.map none,.slice none 0 0] 110):=by
 go_enter Tryz.func38,Tryz.ntmps38
 go_wp2_with fail
 go_ret
 exact ⟨rfl,rfl⟩
theorem find_any {P:Nat→Prop} {B:Nat} {w:World} {e:Nat} {L:List Ent} {mo:Option Nat} {v:Value} (h:EnvB B w e L mo v) (hPl:∀ q,P q→q < w.heap.size) (hF:∀ p ∈ L,FirmI P w p.2.1 p.2.2) (s:ByteArray) (hs:s.size≤maxLen) (hrs:∀ p ∈ L,p.2.1.rules.length≤1000) :
 Calls Tryz.prog 29 #[.pointer (some ⟨e,0,none⟩),.string s] w (FdPost P L (key s) w):=by
 obtain ⟨WA,hWA⟩:∃ WA,WA=w.alloc (.cells Inf.zeros 53):=⟨_,rfl⟩
 have HBA:=hid (show Below w.heap.size w WA from hWA ▸ below_one _ _)
 have HZ:=hid (show WA.heap[w.heap.size]?=some (.cells Inf.zeros 53) from hWA ▸ World.alloc_heap_new _ _)
 have henv:=h.below HBA.out
 have hat:=at_any henv s hs
 have HKI:Hid ((Tryz.prog.info? 53).map (·.size)=some 25):=hid infoInf
 have HPO:=hid (fun (y:Ending) (w':World) (h1:Below w.heap.size w w') (h2:(lookE L (key s)=none∧y=.returned (.tuple #[zInfo,.bool false]))∨∃ p hd,lookE L (key s)=some p∧y=.returned (.tuple #[.agg (p.2.1.vals hd).toArray,.bool true])∧FirmI P w' p.2.1 hd)=>(show FdPost P L (key s) w y w' from ⟨h1,h2⟩))
 have HENV:=hid henv
 obtain ⟨P2,hP2⟩:∃ P2:Nat→Prop,P2=fun q=>P q∨q=w.heap.size:=⟨_,rfl⟩
 have HFP:=hid (show ∀ p ∈ L,FirmI P2 WA p.2.1 p.2.2 from fun p hp=>(hF p hp).turn (RanS.of_below HBA.out) (fun q hq=>by rw [hP2] at hq; rcases hq with e | e; exact Or.inl e; exact Or.inr (by omega)))
 have hsA:WA.heap.size=w.heap.size + 1:=by rw [hWA]; simp
 have HPL:=hid (show ∀ q,P2 q→q < WA.heap.size from fun q hq=>by rw [hP2] at hq; rcases hq with e1 | e1; have:=hPl q e1; omega; omega)
 have HPA:=hid (show P2 w.heap.size from by rw [hP2]; exact Or.inr rfl)
 have HPS:=hid (show ∀ q,P q→P2 q from fun q hq=>by rw [hP2]; exact Or.inl hq)
 clear hP2 hsA
 have HRS:=hid hrs
 obtain ⟨Q,hQ⟩:∃ Q,Q=FdPost P L (key s) w:=⟨_,rfl⟩
 rw [← hQ] at HPO ⊢
 obtain ⟨O,hO⟩:∃ O,O=lookE L (key s):=⟨_,rfl⟩
 rw [← hO] at hat HPO
 have HLK:=hid (show ∀ p,O=some p→p ∈ L from fun p hp=>(lookE_some (k:=key s) (by rw [← hO]; exact hp)).1)
 have HAT:=hid hat
 unfold Inf.zeros at hWA
 clear h henv hat hrs hQ hO hPl hF
 cases O with
 | none =>
   unfold ptrV at HAT
   have HC25:Hid ((Tryz.prog.info? 53).map (·.size)=some Inf.zeros.size):=hid HKI.out
   have HONE:Hid (Inf.zeros.all (·.oneCell')=true):=hid (by kernel_rfl)
   have HEND:=hid (HPO.out (.returned (.tuple #[zInfo,.bool false])) (WA.setRow w.heap.size Inf.zeros) (below_setRow HBA.out (Nat.le_refl _) _) (Or.inl ⟨rfl,rfl⟩))
   go_enter Tryz.func29,Tryz.ntmps29
   go_upto_region 1 with fail
   rw [← hWA]
   clear hWA
   go_wp2_with fail
   refine HAT.out.mono ?_
   rintro y w' ⟨rfl,rfl⟩
   go_wp2_with (first
    | (refine wpList_buildTo rfl 53 _ rfl (some 12) rfl Inf.zeros (by kernel_rfl) ?_)
    | (refine wpList_store_row rfl 53 (.tmp 4) (.tmp 12) rfl w.heap.size Inf.zeros rfl rfl 53 Inf.zeros HZ.out HC25.out rfl HONE.out ?_))
   exact bodyPost_ret_by (results_two rfl _ _ w.heap.size _ (.bool false) rfl rfl (run_loadVar_row _ _ _ _ _ _ _ (setRow_heap WA _ _ _ _ _ HZ.out) Tryz.underlying53 rfl HC25.out)) rfl HEND.out
 | some p =>
   have HP:=hid (HLK.out p rfl)
   have HBX:=hid (HENV.out.info p HP.out).1
   have HOW:=hid (owned_any p.2.1 p.2.2 (HFP.out p HP.out) HPL.out (HRS.out p HP.out))
   unfold ptrV at HAT
   obtain ⟨cs,hcs⟩:∃ cs,cs=p.2.1.vals p.2.2:=⟨_,rfl⟩
   have hcl:cs.length=25:=by rw [hcs]; rfl
   have HRG:=hid (show WA.rangeAt p.1 0 cs from by rw [hcs]; exact HBX.out.range)
   have HCL:Hid ((Tryz.prog.info? 53).map (·.size)=some cs.length):=hid (by rw [HKI.out,hcl])
   rw [← hcs] at HOW
   clear hcs hcl
   go_enter Tryz.func29,Tryz.ntmps29
   go_upto_region 1 with fail
   rw [← hWA]
   clear hWA
   go_wp2_with fail
   refine HAT.out.mono ?_
   rintro y w' ⟨rfl,rfl⟩
   go_wp2_with (refine wpList_load_mid rfl 53 (.tmp 14) rfl p.1 0 rfl cs _ HRG.out Tryz.underlying53 rfl HCL.out ?_)
   refine HOW.out.mono ?_
   rintro y w1 ⟨h1,rfl,hf1,b1⟩
   obtain ⟨c2,hc2⟩:∃ c2,c2=(p.2.1.vals h1).toArray:=⟨_,rfl⟩
   have hsz:c2.size=25:=by rw [hc2]; rfl
   have HZ1:=hid (Lvl.keep b1 HZ.out)
   have HCA:Hid ((Tryz.prog.info? 53).map (·.size)=some c2.size):=hid (by rw [HKI.out,hsz])
   have HC25:Hid (Inf.zeros.size=c2.size):=hid (by rw [hsz]; rfl)
   have HONE:=hid (show c2.all (·.oneCell')=true from by rw [hc2]; exact vals_one _ _)
   have hW3:RanS (fun q=>q=w.heap.size) w1 (w1.setRow w.heap.size c2):=by
    have hb:=below_setRow (Below.refl w.heap.size w1) (Nat.le_refl _) c2
    refine ⟨hb.os,hb.tape,hb.output,hb.size,fun q _ hq=>?_⟩
    have hne:q ≠ w.heap.size:=hq
    simp [World.setRow,Array.getElem?_modify,Ne.symm hne]
   have HEND:=hid (HPO.out (.returned (.tuple #[.agg c2,.bool true])) (w1.setRow w.heap.size c2) (below_setRow (Trm.go HBA.out b1) (Nat.le_refl _) _) (Or.inr ⟨p,h1,rfl,by rw [hc2],(hf1.step (hW3.wide (fun q hq=>by rw [hq]; exact HPA.out))).turn (RanS.refl _ _) (fun q hq=>Or.inl (HPS.out q hq))⟩))
   rw [← hc2]
   clear hf1 b1 hc2 hsz hW3
   go_wp2_with (refine wpList_store_row rfl 53 (.tmp 4) (.tmp 16) rfl w.heap.size c2 rfl rfl 53 Inf.zeros HZ1.out HCA.out HC25.out HONE.out ?_)
   exact bodyPost_ret_by (results_two rfl _ _ w.heap.size _ (.bool true) rfl rfl (run_loadVar_row _ _ _ _ _ _ _ (setRow_heap w1 _ _ _ _ _ HZ1.out) Tryz.underlying53 rfl HCA.out)) rfl HEND.out
end Go.Proofs.YtmngddomnaaedaaGreat
namespace Go.Proofs.YtmngddomnaaedaaGreat
open Go.RowKit Go.Shelf Go.Maps Lvl Trm Env
namespace Env
def hof (L:List Ent) (k:List UInt8):Int:=match lookE L k with
 | none=>0
 | some p=>p.2.1.height
def maxH (L:List Ent) (l:List (List UInt8)):Int:=l.foldl (fun h k=>max h (hof L k)) 0
theorem fold_ge (f:List UInt8→Int):∀ (l:List (List UInt8)) (a:Int),a≤l.foldl (fun h k=>max h (f k)) a∧(∀ k ∈ l,f k≤l.foldl (fun h k=>max h (f k)) a)
 | [],a=>⟨Int.le_refl _,fun k hk=>by cases hk⟩
 | x :: r,a=>by
   obtain ⟨h1,h2⟩:=fold_ge f r (max a (f x))
   refine ⟨by rw [List.foldl_cons]; omega,fun k hk=>?_⟩
   rw [List.foldl_cons]
   rcases List.mem_cons.1 hk with rfl | hk
   ·omega
   ·exact h2 k hk
theorem fold_le (f:List UInt8→Int):∀ (l:List (List UInt8)) (a M:Int),a≤M→(∀ k ∈ l,f k≤M)→l.foldl (fun h k=>max h (f k)) a≤M
 | [],a,M,h,_=>h
 | x :: r,a,M,h,hk=>by
   rw [List.foldl_cons]
   exact fold_le f r _ M (by have:=hk x (by simp); omega) (fun k hm=>hk k (by simp [hm]))
theorem maxH_same {L:List Ent} {l l':List (List UInt8)} (h:∀ k,k ∈ l ↔ k ∈ l'):maxH L l=maxH L l':=by
 have h1:=fold_ge (hof L) l 0
 have h2:=fold_ge (hof L) l' 0
 have h3:=fold_le (hof L) l 0 _ h2.1 (fun k hk=>h2.2 k ((h k).1 hk))
 have h4:=fold_le (hof L) l' 0 _ h1.1 (fun k hk=>h1.2 k ((h k).2 hk))
 unfold maxH
 omega
theorem maxH_take {L:List Ent} {l:List (List UInt8)} {k:Nat} (hk:k < l.length):maxH L (l.take (k + 1))=max (maxH L (l.take k)) (hof L l[k]):=by
 unfold maxH
 rw [List.take_succ_eq_append_getElem hk,List.foldl_append]
 rfl
theorem maxH_le {L:List Ent} {l:List (List UInt8)} {M:Int} (h0:0≤M) (h:∀ p ∈ L,p.2.1.height≤M):0≤maxH L l∧maxH L l≤M:=by
 refine ⟨(fold_ge (hof L) l 0).1,fold_le (hof L) l 0 M h0 fun k _=>?_⟩
 unfold hof
 split
 ·exact h0
 ·rename_i p hp
  exact h p (lookE_some hp).1
def HtRel (w:World) (L:List Ent) (l:List (List UInt8)) (v i:Value) (wr:World):Prop:=∃ k:Nat,i=.int .i64 k∧v=.int .i64 (maxH L (l.take k))∧k≤l.length∧w=wr
end Env
theorem height_any {B:Nat} {w:World} {e:Nat} {L:List Ent} {mo:Option Nat} {v:Value} (h:EnvB B w e L mo v) (t:Tm) (ht:Hd) (hin:t.In w.heap.size w ht) (hm:t.may=true) :
 Calls Tryz.prog 103 #[.pointer (some ⟨e,0,none⟩),t.val ht] w fun y w'=>y=.returned (.int .i64 (maxH L t.nms))∧Below w.heap.size w w':=by
 obtain ⟨WA,hWA⟩:∃ WA,WA=w.alloc (t.box ht):=⟨_,rfl⟩
 have HBA:=hid (show Below w.heap.size w WA from hWA ▸ below_one _ _)
 have HBX:=hid (show WA.heap[w.heap.size]?=some (t.box ht) from hWA ▸ World.alloc_heap_new w _)
 have HN:=hid (Names_yes t ht WA (carry hin HBA.out) hm)
 have HENV:=hid (fun (W:World) (hW:Below WA.heap.size WA W)=>(h.below (Trm.go HBA.out hW)))
 have HM:=hid hm
 obtain ⟨G,hG⟩:∃ G,G=maxH L t.nms:=⟨_,rfl⟩
 rw [← hG]
 have HG:=hid hG
 have hmax:=run_max
 clear h hin hm hG
 unfold Tm.val Tm.vals at *
 go_enter Tryz.func103,Tryz.ntmps103
 unfold Tm.box Tm.vals at hWA
 go_upto_region 1 with fail
 rw [← hWA]
 clear hWA
 obtain ⟨x0,x1,x2,x3,x4⟩:=Tm.cells HBX.out
 go_wp2_with fail
 refine HN.out.mono ?_
 rintro y w1 ⟨ao,cp,l,rfl,hsr,hri,hmem,b1⟩
 have hfew:=names_few HM.out hri hmem
 have HFEW:=hid hfew
 have HLONG:=hid (fun k (hk2:k ∈ l)=>nms_long HM.out k ((hmem k).1 hk2))
 have HSAME:=hid (show maxH L l=G from by rw [HG.out]; exact maxH_same hmem)
 have HE1:=hid (HENV.out w1 b1)
 have HSR:=hid hsr
 have HB1:=hid (Trm.go HBA.out b1)
 clear hsr hri hmem b1 hfew x0 x1 x2 x3 x4
 go_wp2_with fail
 go_loopw [5,12] (fun v i wr=>HtRel w1 L l v i wr) (fun _ i _=>l.length - (intOf i).toNat)
 case atStart=>exact ⟨0,rfl,rfl,by omega,rfl⟩
 case round =>
  obtain ⟨k,rfl,rfl,hk,rfl⟩:=hrel
  by_cases hlt:k < l.length
  ·obtain ⟨b,off,hao,hb,hc⟩:=HSR.out.place k hlt
   subst hao
   have hat:=at_any HE1.out ⟨l[k].toArray⟩ (by show l[k].toArray.size≤maxLen; rw [List.size_toArray]; exact HLONG.out _ (List.getElem_mem hlt))
   have hkk:key ⟨l[k].toArray⟩=l[k]:=by simp [key]
   rw [hkk] at hat
   have HTK:=hid (maxH_take (L:=L) hlt)
   have hhof:hof L l[k]=(match lookE L l[k] with | none=>0 | some p=>p.2.1.height):=rfl
   obtain ⟨O,hO⟩:∃ O,O=lookE L l[k]:=⟨_,rfl⟩
   rw [← hO] at hat hhof
   have HAT:=hid hat
   have HMP:=hid (show ∀ p,O=some p→IBox w1 p.1 p.2.1 p.2.2 from fun p hp=>(HE1.out.info p (lookE_some (k:=l[k]) (by rw [← hO]; exact hp)).1).1)
   have HM0:=hid (maxH_le (L:=L) (l:=l.take k) (M:=4096) (by omega) (fun p hp=>by have:=(HE1.out.hgt p hp).2; have:=HE1.out.few; omega))
   obtain ⟨M,hM⟩:∃ M,M=maxH L (l.take k):=⟨_,rfl⟩
   rw [← hM] at HTK HM0 ⊢
   have hwk:wrap64 ((k:Int) + 1)=(k:Int) + 1:=IntWalk.wrap64_in _ (by have:=HFEW.out; omega)
   generalize (⟨l[k].toArray⟩:ByteArray)=s at hc HAT
   have HLT:=hid hlt
   clear hkk hat hO hM
   cases O with
   | none =>
     have HNX:Hid (HtRel w1 L l (.int .i64 M) (.int .i64 ((k:Int) + 1)) w1):=hid ⟨k + 1,rfl,by rw [HTK.out,hhof]; have:=HM0.out.1; rw [show max M 0=M by omega],HLT.out,rfl⟩
     unfold ptrV at HAT
     clear hhof
     go_wp2_with fail
     refine HAT.out.mono ?_
     rintro y w' ⟨rfl,rfl⟩
     go_wp2_with fail
     go_roundw
     case rel=>rw [hwk]; exact HNX.out
     case measure=>exact less_step hwk HLT.out
   | some p =>
     have c13:w1.cell? ⟨p.1,13,none⟩=some (.int .i64 p.2.1.height):=(HMP.out p rfl).cell 13
     have HNX:Hid (HtRel w1 L l (.int .i64 (max M p.2.1.height)) (.int .i64 ((k:Int) + 1)) w1):=hid ⟨k + 1,rfl,by rw [HTK.out,hhof],HLT.out,rfl⟩
     unfold ptrV at HAT
     generalize p.2.1.height=H at c13 HNX
     clear hhof HMP
     go_wp2_with fail
     refine HAT.out.mono ?_
     rintro y w' ⟨rfl,rfl⟩
     go_wp2_with fail
     go_roundw
     case rel=>rw [hwk]; exact HNX.out
     case measure=>exact less_step hwk HLT.out
  ·have hke:k=l.length:=by omega
   subst hke
   have HE:Hid (maxH L (l.take l.length)=G):=hid (by rw [List.take_length]; exact HSAME.out)
   generalize maxH L (l.take l.length)=M at HE
   go_wp2_with fail
   go_ret
   exact ⟨by rw [← HE.out]; rfl,HB1.out⟩
end Go.Proofs.YtmngddomnaaedaaGreat
