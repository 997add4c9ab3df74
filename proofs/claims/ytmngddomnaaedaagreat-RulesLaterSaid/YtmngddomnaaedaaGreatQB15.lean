/-
 term.Names: the names of a term,and the closure that collects them.
-/
import Derived.Lib.Hide
import Derived.Test.YtmngddomnaaedaaGreatQB7
import Derived.Maps.OwnSet
import Derived.Sort.KeysCollected
import Derived.Deep.RegionHeld3
import Derived.Test.YtmngddomnaaedaaGreatQB6
import Derived.Test.YtmngddomnaaedaaGreatQB3
import Derived.Test.YtmngddomnaaedaaGreatQB11
import Derived.Test.YtmngddomnaaedaaGreatQB5
import Derived.Test.YtmngddomnaaedaaGreatQB10
import Derived.Deep.DeepCutAuto
import Derived.Test.YtmngddomnaaedaaGreatQB12
import Derived.Laws.AppendOwnNone
import Derived.Deep.AppendLies
open Go.Lib (hid)
set_option maxRecDepth 100000
set_option maxHeartbeats 32000000
namespace Go.Proofs.YtmngddomnaaedaaGreat
open Go.RowKit Go.Shelf Go.Maps Go.Sort Lvl Trm
namespace Trm
def oneN (s:ByteArray):List (List UInt8):=if s.size=0 then [] else [s.data.toList]
mutual
def Tm.nms:Tm→List (List UInt8)
 | .mk _ _ s _ ts=>oneN s ++ nmsL ts
def nmsL:List Tm→List (List UInt8)
 | []=>[]
 | t :: r=>t.nms ++ nmsL r
end
theorem Tm.nms_eq (t:Tm):t.nms=oneN t.s ++ nmsL t.ts:=by cases t; rw [Tm.nms]; rfl
theorem nmsL_mem {x:Tm}:∀ {ts:List Tm},x ∈ ts→∀ y ∈ x.nms,y ∈ nmsL ts
 | t :: r,h,y,hy=>by
   rw [nmsL]
   rcases List.mem_cons.1 h with rfl | h
   ·exact List.mem_append_left _ hy
   ·exact List.mem_append_right _ (nmsL_mem h y hy)
mutual
theorem nms_size:∀ t:Tm,(t.nms.length:Int)≤t.size
 | .mk k n s ls ts=>by
   rw [Tm.nms,Tm.size,List.length_append]
   have h1:=nmsL_size ts
   have h2:(oneN s).length≤1:=by unfold oneN; split <;> simp
   omega
theorem nmsL_size:∀ ts:List Tm,((nmsL ts).length:Int)≤sizeL ts
 | []=>by rw [nmsL,sizeL]; simp
 | t :: r=>by
   rw [nmsL,sizeL,List.length_append]
   have h1:=nms_size t
   have h2:=nmsL_size r
   omega
end
def seeNames (st:List (List UInt8)) (t:Tm) (_d _u:Int):List (List UInt8) × Bool:=(st ++ oneN t.s,true)
mutual
theorem Tm.walk_names:∀ (t:Tm) (st:List (List UInt8)) (d u:Int),t.walk seeNames st d u=(st ++ t.nms,true)
 | .mk k n s ls ts,st,d,u=>by
   rw [Tm.walk,Tm.nms]
   rw [if_pos (show (seeNames st (Tm.mk k n s ls ts) d u).2=true from rfl),walkL_names k ts 0 _ (d + 1) u]
   show (st ++ oneN s ++ nmsL ts,true)=_
   rw [List.append_assoc]
theorem walkL_names (k:Int):∀ (ts:List Tm) (i:Nat) (st:List (List UInt8)) (d u:Int),walkL seeNames k ts i st d u=(st ++ nmsL ts,true)
 | [],i,st,d,u=>by rw [walkL,nmsL,List.append_nil]
 | t :: r,i,st,d,u=>by
   rw [walkL,Tm.walk_names t,nmsL]
   rw [if_pos rfl,walkL_names k r (i + 1) _ d _,List.append_assoc]
end
abbrev tru:DataW Unit:=.lit (.bool true)
def DN (st:List (List UInt8)):DataW Unit:=setOf tru (st.map Lit.string)
theorem DN_snoc (st:List (List UInt8)) (x:List UInt8):DN (st ++ [x])=(DN st).put (.string x) tru:=by
 unfold DN
 rw [List.map_append]
 exact setOf_snoc _ _ _
theorem isKey (st:List (List UInt8)):∀ x ∈ st.map Lit.string,WideAt.IsKeyLit x:=by
 intro x hx
 obtain ⟨y,_,rfl⟩:=List.mem_map.1 hx
 trivial
theorem DN_tidy (st:List (List UInt8)):Tidy (DN st):=tidy_setOf _ _ (isKey st)
theorem DN_has (st:List (List UInt8)) (x:List UInt8):Maps.has (DN st) (.string x)=true ↔ x ∈ st:=by
 unfold DN
 rw [has_setOf _ _ _ (isKey st),List.any_eq_true]
 constructor
 ·rintro ⟨y,hy,hs⟩
  obtain ⟨z,hz,rfl⟩:=List.mem_map.1 hy
  have:=WideAt.sameKey_eq hs
  injection this with h
  rw [← h]; exact hz
 ·intro hx
  exact ⟨.string x,List.mem_map.2 ⟨x,hx,rfl⟩,WideAt.sameKey_self trivial⟩
theorem nodup_le {α:Type} [DecidableEq α]:∀ (l m:List α),l.Nodup→(∀ x ∈ l,x ∈ m)→l.length≤m.length
 | [],m,_,_=>by simp
 | x :: r,m,hn,hs=>by
   obtain ⟨h1,h2⟩:=List.nodup_cons.1 hn
   have h3:=nodup_le r (m.erase x) h2 (fun y hy=>(List.mem_erase_of_ne (fun e=>h1 (by rw [← e]; exact hy))).2 (hs y (by simp [hy])))
   have h4:=List.length_erase_of_mem (hs x (by simp))
   have h5:=List.length_pos_of_mem (hs x (by simp))
   simp only [List.length_cons]
   omega
theorem fold_keys (S:List Lit):∀ (acc:List Lit) (m:DataW Unit),(∃ es,m=.map es∧∀ p ∈ es,p.1 ∈ S)→(∀ x ∈ acc,x ∈ S)→∃ es,acc.foldl (fun m x=>m.put x tru) m=.map es∧∀ p ∈ es,p.1 ∈ S
 | [],m,h,_=>h
 | x :: r,m,h,hs=>by
   rw [List.foldl_cons]
   refine fold_keys S r _ ?_ (fun y hy=>hs y (by simp [hy]))
   obtain ⟨es,rfl,he⟩:=h
   refine ⟨_,rfl,fun p hp=>?_⟩
   have hp2:=(WideShapes.insert_perm (x,tru) _).mem_iff.1 hp
   rcases List.mem_cons.1 hp2 with rfl | hp2
   ·exact hs x (by simp)
   ·exact he p (List.mem_filter.1 hp2).1
theorem DN_keys (st:List (List UInt8)):∃ es,DN st=.map es∧es.Pairwise (fun p q=>p.1 ≠ q.1)∧∀ p ∈ es,∃ x ∈ st,p.1=.string x:=by
 obtain ⟨es,he,hp⟩:=DN_tidy st
 obtain ⟨es',he',hk⟩:=fold_keys (st.map Lit.string) (st.map Lit.string) (.map []) ⟨[],rfl,fun p hp=>by cases hp⟩ (fun x hx=>hx)
 have e:es=es':=by
  have h1:DN st=.map es':=he'
  rw [he] at h1
  injection h1
 subst e
 refine ⟨es,he,hp,fun p hp'=>?_⟩
 obtain ⟨x,hx,hxe⟩:=List.mem_map.1 (hk p hp')
 exact ⟨x,hx,hxe.symm⟩
theorem DN_size {st Ns:List (List UInt8)} (h:∀ x ∈ st,x ∈ Ns):Maps.size (DN st)≤Ns.length:=by
 obtain ⟨es,he,hp,hk⟩:=DN_keys st
 rw [he]
 show es.length≤_
 have h1:=nodup_le (es.map (fun p=>strOf p.1)) Ns ?_ ?_
 ·simpa using h1
 ·refine List.pairwise_map.2 (hp.imp_of_mem fun {p q} hp' hq' hne e=>hne ?_)
  obtain ⟨a,_,ha⟩:=hk p hp'
  obtain ⟨b,_,hb⟩:=hk q hq'
  rw [ha,hb] at e ⊢
  exact congrArg _ e
 ·intro x hx
  obtain ⟨p,hp',rfl⟩:=List.mem_map.1 hx
  obtain ⟨a,ha,hae⟩:=hk p hp'
  rw [hae]
  exact h a ha
theorem DN_strKeys (st:List (List UInt8)) (x:List UInt8):x ∈ strKeys (DN st) ↔ x ∈ st:=by
 obtain ⟨es,he,hp,hk⟩:=DN_keys st
 rw [← DN_has st x,he]
 show x ∈ es.map (fun p=>strOf p.1) ↔ es.any (fun p=>p.1.sameKey (.string x))=true
 rw [List.any_eq_true,List.mem_map]
 constructor
 ·rintro ⟨p,hp',rfl⟩
  obtain ⟨a,_,ha⟩:=hk p hp'
  exact ⟨p,hp',by rw [ha]; exact WideAt.sameKey_self trivial⟩
 ·rintro ⟨p,hp',hs⟩
  exact ⟨p,hp',by rw [WideAt.sameKey_eq hs]; rfl⟩
theorem DN_nodup (st:List (List UInt8)):(strKeys (DN st)).Nodup:=by
 obtain ⟨es,he,hp,hk⟩:=DN_keys st
 rw [he]
 refine List.pairwise_map.2 (hp.imp_of_mem fun {p q} hp' hq' hne e=>hne ?_)
 obtain ⟨a,_,ha⟩:=hk p hp'
 obtain ⟨b,_,hb⟩:=hk q hq'
 rw [ha,hb] at e ⊢
 exact congrArg _ e
def NInv (m C:Nat) (st:List (List UInt8)) (w:World):Prop:=w.ownsMap Tryz.prog 9 (plainElem Tryz.prog 4) m (Maps.size (DN st)) (DN st)∧w.heap[C]?=some (.cells #[.map (some m)] 205)
theorem lawS:Keyed Tryz.prog 9:=string_keyed Tryz.underlying9
theorem own_exact {w:World} {R:Value→Option (DataW Unit × List MemPlace)} {b n:Nat} {D:DataW Unit} (h:w.ownsMap Tryz.prog 9 R b n D):w.ownsMap Tryz.prog 9 R b (Maps.size D) D:=by
 obtain ⟨es,clock,hb,F,hs,rfl⟩:=h
 exact ⟨es,clock,hb,F,by simp [Maps.size,length_sorted],rfl⟩
end Trm
theorem names1_any (Ns:List (List UInt8)) (hNs:Ns.length≤65536) {B m C:Nat} (hCm:C ≠ m) (st:List (List UInt8)) (t:Tm) (b o:Nat) (d u:Int) (w:World) (hg:∀ x ∈ st,x ∈ Ns) (hi:NInv m C st w) (hat:RAt B m w b o t) :
 Calls Tryz.prog 175 #[.pointer (some ⟨b,o,none⟩),.int .i64 d,.int .i64 u,.pointer (some ⟨C,0,none⟩)] w fun e w'=>e=.returned (.bool true)∧NInv m C (st ++ oneN t.s) w'∧Ran m w w':=by
 obtain ⟨hbm,hbl,hd,⟨c0,c1,c2,c3,c4⟩,hin⟩:=hat
 obtain ⟨hown,hC⟩:=hi
 have hcC:=one_cell hC
 have hClt:=(Array.getElem?_eq_some_iff.1 hC).1
 by_cases hs:t.s.size=0
 ·have h1:oneN t.s=[]:=if_pos hs
  have hse:t.s=⟨#[]⟩:=by
   cases hts:t.s with
   | mk a=>rw [hts] at hs; simp [ByteArray.size] at hs; rw [hs]
  rw [h1,List.append_nil]
  rw [hse] at c2
  have HO:=hid hown
  have HC:=hid hC
  clear hown hC hin hs hse h1
  go_enter Tryz.func175,Tryz.ntmps175
  go_wp2_with fail
  go_ret
  exact ⟨rfl,⟨HO.out,HC.out⟩,Ran.refl _ _⟩
 ·have h1:oneN t.s=[t.s.data.toList]:=if_neg hs
  have hne:t.s.toList.isEmpty=false:=by rw [empty_iff,decide_eq_false hs]
  have hkey:keyOf Tryz.prog 9 (.string t.s)=some (.string t.s.data.toList):=WideMaps.keyOf_string_mk Tryz.underlying9 (by have:=hin.fit.s; unfold maxLen; omega)
  obtain ⟨w1,hrun,hown1,hgrow⟩:=(show w.drew.ownsMap Tryz.prog 9 (plainElem Tryz.prog 4) m (Maps.size (DN st)) (DN st) from hown).update lawS Tryz.underlying205 (by have:=DN_size hg; unfold maxLen; omega) hkey (plainElem_bool Tryz.underlying4 true)
  have HO1:=hid (show NInv m C (st ++ oneN t.s) w1 from by
   rw [h1]
   unfold NInv
   rw [DN_snoc]
   exact ⟨own_exact hown1,(hgrow.block C hClt (fun e=>hCm (by injection e))).trans hC⟩)
  have HR1:=hid (show Ran m w w1 from ⟨hgrow.os,hgrow.tape,hgrow.output,hgrow.size,fun k hk hn=>hgrow.block k hk (fun e=>hn (by injection e))⟩)
  have hc2:w1.cell? ⟨b,o + 2,none⟩=some (.string t.s):=(HR1.out.cell (p:=⟨b,o + 2,none⟩) hbl hbm).trans c2
  have hcC1:w1.cell? ⟨C,0,none⟩=some (.map (some m)):=(HR1.out.cell (p:=⟨C,0,none⟩) hClt hCm).trans hcC
  clear hown hC hin hs h1 hown1 hgrow hkey
  go_enter Tryz.func175,Tryz.ntmps175
  go_wp2_with fail
  go_region_held3 (fun w'=>w'.cell? ⟨b,o + 2,none⟩=some (.string t.s)∧w'.cell? ⟨C,0,none⟩=some (.map (some m)))
   (first
     | go_keep
     | exact ⟨hc2,hcC1⟩)
   (fail)
  go_wp2_with fail
  go_ret
  exact ⟨rfl,HO1.out,HR1.out⟩
theorem Trm.sees_names (Ns:List (List UInt8)) (hNs:Ns.length≤65536) {B m C:Nat} (hBm:B≤m) (hCm:C ≠ m):Sees B m C 175 seeNames (NInv m C) (fun t d=>OkMay t d∧∀ x ∈ t.nms,x ∈ Ns) (fun st=>∀ x ∈ st,x ∈ Ns) where
 calls st t b o d u w hg hi ho hu0 hud hat hB:=names1_any Ns hNs hCm st t b o d u w hg hi hat
 good st t d u hg ho hr x hx:=by
  rcases List.mem_append.1 hx with hx | hx
  ·exact hg x hx
  ·exact ho.2 x (by rw [Tm.nms_eq]; exact List.mem_append_left _ hx)
 bound t d ho:=by have:=ho.1.node.2; have:=ho.1.1; omega
 down st t d u ho hr x hx:=⟨ho.1.down x hx,fun y hy=>ho.2 y (by rw [Tm.nms_eq]; exact List.mem_append_right _ (nmsL_mem hx y hy))⟩
 keep st w w' hi hb:=⟨by
  obtain ⟨es,clock,hbk,F,hs,hD⟩:=hi.1
  exact ⟨es,clock,Lvl.keep hb hbk,F,hs,hD⟩,Lvl.keep hb hi.2⟩
 low:=hBm
 enter args w:=by kernel_rfl
end Go.Proofs.YtmngddomnaaedaaGreat
namespace Go.Proofs.YtmngddomnaaedaaGreat
open Lvl Trm
namespace Trm
mutual
theorem left_mono {bad bad':Tm→Bool} (hb:∀ t,bad t=false→bad' t=false):∀ (t:Tm) (l d l' d':Int),0≤t.left bad l d→l≤l'→d≤d'→0≤t.left bad' l' d'∧t.left bad l d≤t.left bad' l' d'
 | .mk k n s ls ts,l,d,l',d',h,hl,hd=>by
   rw [Tm.left] at h
   split at h
   ·omega
   ·rename_i hc
    have e1:(Tm.mk k n s ls ts).left bad l d=leftL bad ts (l - 1) (d - 1):=by rw [Tm.left,if_neg hc]
    have e2:(Tm.mk k n s ls ts).left bad' l' d'=leftL bad' ts (l' - 1) (d' - 1):=by
     rw [Tm.left,if_neg]
     rintro (h1 | h1 | h1)
     ·exact hc (Or.inl (by omega))
     ·exact hc (Or.inr (Or.inl (by omega)))
     ·refine hc (Or.inr (Or.inr ?_))
      cases hbt:bad (.mk k n s ls ts)
      ·rw [hb _ hbt] at h1; cases h1
      ·rfl
    rw [e1,e2]
    exact leftL_mono hb ts (l - 1) (d - 1) (l' - 1) (d' - 1) h (by omega) (by omega)
theorem leftL_mono {bad bad':Tm→Bool} (hb:∀ t,bad t=false→bad' t=false):∀ (ts:List Tm) (l d l' d':Int),0≤leftL bad ts l d→l≤l'→d≤d'→0≤leftL bad' ts l' d'∧leftL bad ts l d≤leftL bad' ts l' d'
 | [],l,d,l',d',h,hl,hd=>by
   have e1:leftL bad [] l d=l:=by rw [leftL]
   have e2:leftL bad' [] l' d'=l':=by rw [leftL]
   rw [e1,e2]
   rw [e1] at h
   omega
 | t :: r,l,d,l',d',h,hl,hd=>by
   rw [leftL] at h
   split at h
   ·omega
   ·rename_i hc
    have h1:=left_mono hb t l d l' d' (by omega) hl hd
    have e1:leftL bad (t :: r) l d=leftL bad r (t.left bad l d) d:=by rw [leftL,if_neg hc]
    have e2:leftL bad' (t :: r) l' d'=leftL bad' r (t.left bad' l' d') d':=by rw [leftL,if_neg (by omega)]
    rw [e1,e2]
    exact leftL_mono hb r _ d _ d' h h1.2 hd
end
theorem may_left {t:Tm}:t.may=true ↔ 0≤t.left badMay 65536 4096:=by
 show decide (0≤t.left badMay 65536 4096)=true ↔ _
 simp
end Trm
end Go.Proofs.YtmngddomnaaedaaGreat
namespace Go.Proofs.YtmngddomnaaedaaGreat
open Lvl Trm
namespace Arn
noncomputable instance decTm:DecidableEq Tm:=fun _ _=>Classical.propDecidable _
structure OkL (L:List Tm):Prop where
 nodup:L.Nodup
 may:∀ x ∈ L,x.may=true
 kids:∀ (i:Nat) (h:i < L.length),∀ y ∈ (L[i]).ts,y ∈ L.take i
theorem OkL.nil:OkL []:=⟨List.nodup_nil,fun x h=>by simp at h,fun i h=>by simp at h⟩
theorem OkL.snoc {L:List Tm} (h:OkL L) {t:Tm} (hm:t.may=true) (hn:t ∉ L) (hp:∀ y ∈ t.ts,y ∈ L):OkL (L ++ [t]) where
 nodup:=List.nodup_append.2 ⟨h.nodup,by simp,fun a ha b hb e=>by simp at hb; subst hb; subst e; exact hn ha⟩
 may x hx:=by
  rcases List.mem_append.1 hx with hx | hx
  ·exact h.may x hx
  ·simp at hx; subst hx; exact hm
 kids i hi y hy:=by
  by_cases hl:i < L.length
  ·rw [List.getElem_append_left hl] at hy
   rw [List.take_append_of_le_length (by omega)]
   exact h.kids i hl y hy
  ·have hi2:i=L.length:=by simp at hi; omega
   subst hi2
   simp at hy
   rw [List.take_append_of_le_length (by omega),List.take_length]
   exact hp y hy
mutual
noncomputable def Tm.ins:Tm→List Tm→List Tm
 | .mk k n s ls ts,L=>if Tm.mk k n s ls ts ∈ insL ts L then insL ts L else insL ts L ++ [.mk k n s ls ts]
noncomputable def insL:List Tm→List Tm→List Tm
 | [],L=>L
 | t :: r,L=>insL r (Tm.ins t L)
end
theorem ins_eq (t:Tm) (L:List Tm):Tm.ins t L=if t ∈ insL t.ts L then insL t.ts L else insL t.ts L ++ [t]:=by cases t; rw [Tm.ins]; rfl
mutual
theorem ins_len:∀ (t:Tm) (L:List Tm),((Tm.ins t L).length:Int)≤L.length + t.size
 | .mk k n s ls ts,L=>by
   rw [Tm.ins,Tm.size]
   have:=insL_len ts L
   split
   ·omega
   ·simp; omega
theorem insL_len:∀ (ts:List Tm) (L:List Tm),((insL ts L).length:Int)≤L.length + sizeL ts
 | [],L=>by rw [insL,sizeL]; omega
 | t :: r,L=>by
   rw [insL,sizeL]
   have h1:=ins_len t L
   have h2:=insL_len r (Tm.ins t L)
   omega
end
theorem soundL_mem {x:Tm}:∀ {ts:List Tm},soundL ts→x ∈ ts→x.sound
 | t :: r,h,hx=>by
   rw [soundL] at h
   rcases List.mem_cons.1 hx with rfl | hx
   ·exact h.1
   ·exact soundL_mem h.2 hx
theorem htL_mem {x:Tm}:∀ {ts:List Tm},x ∈ ts→x.ht≤htL ts
 | t :: r,hx=>by
   rw [htL]
   rcases List.mem_cons.1 hx with rfl | hx
   ·omega
   ·have:=htL_mem hx; omega
theorem sizeL_mem {x:Tm}:∀ {ts:List Tm},x ∈ ts→x.size≤sizeL ts
 | t :: r,hx=>by
   rw [sizeL]
   rcases List.mem_cons.1 hx with rfl | hx
   ·have:=sizeL_ge r; omega
   ·have:=sizeL_mem hx; have:=t.size_pos; omega
theorem ht_eq (t:Tm):t.ht=1 + htL t.ts:=by cases t; rw [Tm.ht]; rfl
theorem size_part {t x:Tm} (hx:x ∈ t.ts):x.size < t.size:=by
 have:=sizeL_mem hx; rw [Tm.size_eq t]; omega
theorem may_part {t x:Tm} (h:t.may=true) (hx:x ∈ t.ts):x.may=true:=by
 obtain ⟨hs,hh⟩:=may_sound h
 have hz:=may_size' h
 refine may_of ?_ (by have:=size_part hx; omega) (by have:=htL_mem hx; rw [ht_eq] at hh; omega)
 cases t with
 | mk k n s ls ts=>rw [Tm.sound] at hs; exact soundL_mem hs.2 hx
theorem may_node {t:Tm} (h:t.may=true):t.node=true:=by
 obtain ⟨hs,hh⟩:=may_sound h
 cases t with
 | mk k n s ls ts=>rw [Tm.sound] at hs; exact hs.1
noncomputable def num (L:List Tm) (t:Tm):Nat:=L.idxOf t
/-! sizes -/
end Arn
end Go.Proofs.YtmngddomnaaedaaGreat
namespace Go.Proofs.YtmngddomnaaedaaGreat
open Go.RowKit Go.Shelf Lvl Trm
namespace Trm
end Trm
end Go.Proofs.YtmngddomnaaedaaGreat
namespace Go.Proofs.YtmngddomnaaedaaGreat
open Go.RowKit Go.Shelf Lvl Trm
end Go.Proofs.YtmngddomnaaedaaGreat
namespace Go.Proofs.YtmngddomnaaedaaGreat
open Go.RowKit Go.Shelf Lvl Trm
structure Trm.Var (w wr:World) (b:Nat) (t:Tm) (h:Hd):Prop where
 bel:Below w.heap.size w wr
 box:wr.heap[b]?=some (t.box h)
 firm:Firm b wr t h
theorem Trm.Var.step {w wr w1:World} {b:Nat} {t:Tm} {h:Hd} (v:Var w wr b t h) (g:Below wr.heap.size wr w1):Var w w1 b t h :=
 ⟨Trm.go v.bel g,Lvl.keep g v.box,v.firm.step (Ran.of_below g)⟩
theorem Trm.Var.put {w wr:World} {b:Nat} {t u:Tm} {h hu:Hd} (v:Var w wr b t h) (hb:w.heap.size≤b) (f:Firm b wr u hu) :
 Var w (putT wr b (.int .u8 u.k) (.int .i64 u.n) (.string u.s) (.slice hu.lo u.ls.length hu.lc) (.slice hu.to u.ts.length hu.tc)) b u hu :=
 ⟨putT_below v.bel hb _ _ _ _ _,putT_self v.box _ _ _ _ _,f.step (putT_ran _ _ _ _ _ _ _)⟩
theorem Trm.Var.lt {w wr:World} {b:Nat} {t:Tm} {h:Hd} (v:Var w wr b t h):b < wr.heap.size:=(Array.getElem?_eq_some_iff.1 v.box).1
end Go.Proofs.YtmngddomnaaedaaGreat
namespace Go.Proofs.YtmngddomnaaedaaGreat
open Go.RowKit Go.Shelf Lvl Trm
theorem Trm.take_appl {f:Tm} {l:List Tm} {k:Nat} (h:k < l.length):appl f (l.take (k + 1))=t2 4 (appl f (l.take k)) l[k]:=by
 rw [List.take_succ_eq_append_getElem h,appl_snoc]
theorem App_firm (f x:Tm) (hf hx:Hd) (w:World) :
 Calls Tryz.prog 78 #[f.val hf,x.val hx] w (MadeP (t2 4 f x) w (fun P=>FirmS P w f hf∧FirmS P w x hx)):=by
 unfold Tm.val Tm.vals
 go_enter Tryz.func78,Tryz.ntmps78
 go_wp2_with fail
 have hb:=below_four w (f.box hf) (x.box hx) (.cells #[.int .u8 4,.int .i64 0,.string no,.slice none 0 0,.slice (some ⟨w.heap.size + 1 + 1 + 1,0,none⟩) 2 2] 25) (.cells (f.vals hf ++ x.vals hx) 25)
 refine bodyPost_ret (v:=(t2 4 f x).val ⟨none,0,some ⟨w.heap.size + 1 + 1 + 1,0,none⟩,2⟩) (by simp [results,Tryz.results78,go_sem,t2,Tm.val,Tm.vals,Tm.k,Tm.n,Tm.s,Tm.ls,Tm.ts,no]) rfl ⟨_,rfl,below_four _ _ _ _ _,?_⟩
 intro P hP hc
 exact FirmS.t2 (by decide) (by decide) (g:=w.heap.size + 1 + 1 + 1) (ty:=25) (fr:=(0,0)) (new4 w (f.box hf) (x.box hx) (.cells #[.int .u8 4,.int .i64 0,.string no,.slice none 0 0,.slice (some ⟨w.heap.size + 1 + 1 + 1,0,none⟩) 2 2] 25) (.cells (f.vals hf ++ x.vals hx) 25)) (fun hp=>by have:=hP _ hp; omega) (hc.1.step (RanS.of_below hb)) (hc.2.step (RanS.of_below hb))
structure Trm.Two (w wr:World) (t:Tm) (h:Hd):Prop where
 bel:Below w.heap.size w wr
 box:wr.heap[w.heap.size]?=some (t.box h)
 res:wr.heap[w.heap.size + 1]?=some (.cells #[.int .u8 0,.int .i64 0,.string ⟨#[]⟩,.slice none 0 0,.slice none 0 0] 25)
 firm:FirmS (fun k=>k=w.heap.size∨k=w.heap.size + 1) wr t h
theorem Trm.Two.step {w wr w1:World} {t:Tm} {h:Hd} (v:Two w wr t h) (g:Below wr.heap.size wr w1):Two w w1 t h :=
 ⟨Trm.go v.bel g,Lvl.keep g v.box,Lvl.keep g v.res,v.firm.step (RanS.of_below g)⟩
theorem Trm.Two.put {w wr:World} {t u:Tm} {h hu:Hd} (v:Two w wr t h) (f:FirmS (fun k=>k=w.heap.size∨k=w.heap.size + 1) wr u hu) :
 Two w (putT wr w.heap.size (.int .u8 u.k) (.int .i64 u.n) (.string u.s) (.slice hu.lo u.ls.length hu.lc) (.slice hu.to u.ts.length hu.tc)) u hu :=
 ⟨putT_below v.bel (Nat.le_refl _) _ _ _ _ _,putT_self v.box _ _ _ _ _,putT_other v.res _ _ _ _ _ (by omega),f.step (RanS.of_ran (putT_ran _ _ _ _ _ _ _) (Or.inl rfl))⟩
theorem Trm.Two.start {w:World} {t:Tm} {h:Hd} (hin:t.In w.heap.size w h):Two w ((w.alloc (t.box h)).alloc (.cells #[.int .u8 0,.int .i64 0,.string ⟨#[]⟩,.slice none 0 0,.slice none 0 0] 25)) t h :=
 ⟨below_two _ _ _,new1of2 _ _ _,new2 _ _ _,FirmS.of (Tm.In.below (below_two w _ _) _ _ hin) (fun k hk=>by omega) (by simp; omega)⟩
def Trm.papp (f:Tm) (l:List Tm):Tm:=if (appl f l).may=true then appl f l else zeroTm
end Go.Proofs.YtmngddomnaaedaaGreat
namespace Go.Proofs.YtmngddomnaaedaaGreat
namespace Lvl
def stepI (o b:Lv) (p:Int):Lv:=if p=-1 then o else o.join (b.plus p)
theorem stepI_fine {o b:Lv} {p:Int} (ho:o.fine) (hb:b.fine) (hp:-1≤p):(stepI o b p).fine:=by
 unfold stepI
 by_cases h:p=-1
 ·rw [if_pos h]; exact ho
 ·rw [if_neg h]; exact join_fine ho (plus_fine hb p (by omega))
theorem ev_stepI {o b:Lv} {p:Int} (ho:o.fine) (hb:b.fine) (hp:-1≤p) (n:Four):ev (stepI o b p) n=stepM (ev o n) p (ev b n):=by
 unfold stepI stepM
 by_cases h:p=-1
 ·rw [if_pos h,if_pos h]
 ·rw [if_neg h,if_neg h,ev_join ho (plus_fine hb p (by omega)),ev_plus hb p (by omega)]
theorem inst_one {ls:List Lv} (o b:Lv) (k:Nat) (p:Int) (r:List (Int × Int)) (hk:ls[k]?=some b):(one k p ++ r).foldl (instStep ls) (some o)=r.foldl (instStep ls) (some (stepI o b p)):=by
 obtain ⟨hl,hb⟩:=List.getElem?_eq_some_iff.1 hk
 unfold one stepI
 by_cases h:p=-1
 ·rw [if_pos h,if_pos h]; rfl
 ·rw [if_neg h,if_neg h]
  simp [instStep,hl,hb]
theorem ev_number (c:Int) (n:Four):ev (number c) n=c:=by simp [ev,number,stepM]
structure Row4 where
 b0:Lv
 b1:Lv
 b2:Lv
 b3:Lv
def Row4.list (r:Row4):List Lv:=[r.b0,r.b1,r.b2,r.b3]
def Row4.okAll (r:Row4):Prop:=r.b0.ok∧r.b1.ok∧r.b2.ok∧r.b3.ok
def Row4.ev (r:Row4) (n:Four):Four:=⟨Lvl.ev r.b0 n,Lvl.ev r.b1 n,Lvl.ev r.b2 n,Lvl.ev r.b3 n⟩
def instO (l:Lv) (r:Row4):Lv:=stepI (stepI (stepI (stepI (number l.c) r.b0 l.p0) r.b1 l.p1) r.b2 l.p2) r.b3 l.p3
theorem inst_row {l:Lv} {r:Row4} (hl:l.ok) (hr:r.okAll):inst l r.list=ans (instO l r):=by
 have ha:r.list.all Lv.may=true:=by
  obtain ⟨h0,h1,h2,h3⟩:=hr
  simp [Row4.list,(may_iff _).2 h0,(may_iff _).2 h1,(may_iff _).2 h2,(may_iff _).2 h3]
 rw [inst,if_pos ⟨(may_iff l).2 hl,ha⟩]
 have h:l.ps=one ((0:Nat):Int) l.p0 ++ (one ((1:Nat):Int) l.p1 ++ (one ((2:Nat):Int) l.p2 ++ (one ((3:Nat):Int) l.p3 ++ []))):=by simp [Lv.ps]
 have e:instAll r.list (number l.c) l.ps=some (instO l r):=by
  unfold instAll
  rw [h,inst_one _ r.b0 0 _ _ rfl,inst_one _ r.b1 1 _ _ rfl,inst_one _ r.b2 2 _ _ rfl,inst_one _ r.b3 3 _ _ rfl]
  rfl
 rw [e]
theorem number_fine {c:Int} (h:0≤c):(number c).fine:=by unfold Lv.fine number; simp [h]
theorem instO_fine {l:Lv} {r:Row4} (hl:l.ok) (hr:r.okAll):(instO l r).fine:=by
 obtain ⟨h0,h1,h2,h3⟩:=hr
 have hf:=hl.fine
 obtain ⟨c,p0,p1,p2,p3⟩:=hf
 exact stepI_fine (stepI_fine (stepI_fine (stepI_fine (number_fine c) h0.fine p0) h1.fine p1) h2.fine p2) h3.fine p3
theorem ev_instO {l:Lv} {r:Row4} (hl:l.ok) (hr:r.okAll) (n:Four):ev (instO l r) n=ev l (r.ev n):=by
 obtain ⟨h0,h1,h2,h3⟩:=hr
 have hf:=hl.fine
 obtain ⟨c,p0,p1,p2,p3⟩:=hf
 have f0:=stepI_fine (number_fine c) h0.fine p0
 have f1:=stepI_fine f0 h1.fine p1
 have f2:=stepI_fine f1 h2.fine p2
 unfold instO
 rw [ev_stepI f2 h3.fine p3,ev_stepI f1 h2.fine p2,ev_stepI f0 h1.fine p1,ev_stepI (number_fine c) h0.fine p0,ev_number]
 rfl
theorem formed_ok {o:Lv} (ho:o.fine) (hw:o.form.within=true):o.form.ok:=by
 have hw:=(within_iff _).1 hw
 have hff:=form_formed _ ho
 unfold Lv.formed at hff
 obtain ⟨e0,e1,e2,e3⟩:=form_p o
 unfold Lv.ok
 rw [e0,e1,e2,e3] at hw ⊢
 unfold Lv.fine at ho
 generalize o.form.c=z at *
 rcases hff with hff | hff <;> omega
theorem fine_p {a b:Lv} (hb:b.fine) (h:∀ n:Four,n.pos→ev a n≤ev b n):a.p0≤b.p0∧a.p1≤b.p1∧a.p2≤b.p2∧a.p3≤b.p3:=by
 have lo (n:Four):=(ev_le a n (ev a n)).1 (Int.le_refl _)
 have hi (n:Four) (x:Int) (h:¬ ev b n≤x):¬ _:=fun k=>h ((ev_le b n x).2 k)
 unfold Lv.fine at hb
 obtain ⟨g,hg⟩:∃ g:Int,g=b.c + (b.p0 + 1) + (b.p1 + 1) + (b.p2 + 1) + (b.p3 + 1) + 1:=⟨_,rfl⟩
 refine ⟨?_,?_,?_,?_⟩
 ·have l:=lo ⟨g,0,0,0⟩
  have k:=h ⟨g,0,0,0⟩ (by unfold Four.pos; simp only; omega)
  by_cases e:a.p0≤b.p0
  ·exact e
  ·exact absurd k (fun k=>hi ⟨g,0,0,0⟩ (g + a.p0 - 1) (by simp only at l; omega) (by simp only at *; omega))
 ·have l:=lo ⟨0,g,0,0⟩
  have k:=h ⟨0,g,0,0⟩ (by unfold Four.pos; simp only; omega)
  by_cases e:a.p1≤b.p1
  ·exact e
  ·exact absurd k (fun k=>hi ⟨0,g,0,0⟩ (g + a.p1 - 1) (by simp only at l; omega) (by simp only at *; omega))
 ·have l:=lo ⟨0,0,g,0⟩
  have k:=h ⟨0,0,g,0⟩ (by unfold Four.pos; simp only; omega)
  by_cases e:a.p2≤b.p2
  ·exact e
  ·exact absurd k (fun k=>hi ⟨0,0,g,0⟩ (g + a.p2 - 1) (by simp only at l; omega) (by simp only at *; omega))
 ·have l:=lo ⟨0,0,0,g⟩
  have k:=h ⟨0,0,0,g⟩ (by unfold Four.pos; simp only; omega)
  by_cases e:a.p3≤b.p3
  ·exact e
  ·exact absurd k (fun k=>hi ⟨0,0,0,g⟩ (g + a.p3 - 1) (by simp only at l; omega) (by simp only at *; omega))
theorem same_form {a b:Lv} (ha:a.fine) (hb:b.fine) (h:∀ n:Four,n.pos→ev a n=ev b n):a.form=b.form:=by
 obtain ⟨x0,x1,x2,x3⟩:=fine_p hb (fun n hn=>Int.le_of_eq (h n hn))
 obtain ⟨y0,y1,y2,y3⟩:=fine_p ha (fun n hn=>Int.le_of_eq (h n hn).symm)
 have e0:a.p0=b.p0:=by omega
 have e1:a.p1=b.p1:=by omega
 have e2:a.p2=b.p2:=by omega
 have e3:a.p3=b.p3:=by omega
 refine form_ext ha hb e0 e1 e2 e3 ?_
 intro x y hx hy
 have hz:=h ⟨0,0,0,0⟩ (by simp [Four.pos])
 unfold Lv.formed at hx hy
 unfold Lv.fine at ha hb
 rw [e0,e1,e2,e3] at hx
 rcases hx with ⟨rfl,hx'⟩ | ⟨rfl,hx'⟩ <;> rcases hy with ⟨rfl,hy'⟩ | ⟨rfl,hy'⟩
 ·have ua:ev a ⟨0,0,0,0⟩≤a.c:=(ev_le _ _ _).2 (by rw [e0,e1,e2,e3]; simp only; omega)
  have ub:ev b ⟨0,0,0,0⟩≤b.c:=(ev_le _ _ _).2 (by simp only; omega)
  have la:=((ev_le a ⟨0,0,0,0⟩ _).1 (Int.le_refl _)).1
  have lb:=((ev_le b ⟨0,0,0,0⟩ _).1 (Int.le_refl _)).1
  omega
 ·exfalso
  have la:=((ev_le a ⟨0,0,0,0⟩ _).1 (Int.le_refl _)).1
  have ub:ev b ⟨0,0,0,0⟩≤a.c - 1:=(ev_le _ _ _).2 (by
   simp only
   refine ⟨?_,by omega,by omega,by omega,by omega⟩
   rcases hy' with hy' | hy' | hy' | hy' <;> omega)
  omega
 ·exfalso
  have lb:=((ev_le b ⟨0,0,0,0⟩ _).1 (Int.le_refl _)).1
  have ua:ev a ⟨0,0,0,0⟩≤b.c - 1:=(ev_le _ _ _).2 (by
   rw [e0,e1,e2,e3]
   simp only
   refine ⟨?_,by omega,by omega,by omega,by omega⟩
   rcases hx' with hx' | hx' | hx' | hx' <;> omega)
  omega
 ·rfl
def own:Row4:=⟨⟨0,0,-1,-1,-1⟩,⟨0,-1,0,-1,-1⟩,⟨0,-1,-1,0,-1⟩,⟨0,-1,-1,-1,0⟩⟩
theorem own_ok:own.okAll:=by simp [Row4.okAll,own,Lv.ok]
theorem ev_own {n:Four} (hn:n.pos):own.ev n=n:=by
 obtain ⟨h0,h1,h2,h3⟩:=hn
 have e (x:Int) (h:0≤x):max 0 x=x:=by omega
 cases n
 simp only [Row4.ev,own,ev,stepM] at *
 simp [e,h0,h1,h2,h3]
end Lvl
end Go.Proofs.YtmngddomnaaedaaGreat
namespace Go.Proofs.YtmngddomnaaedaaGreat
open Go.RowKit Go.Shelf Lvl Trm
namespace Lvl
def Lv.list5 (l:Lv):List Value:=[.int .i64 l.c,.int .i64 l.p0,.int .i64 l.p1,.int .i64 l.p2,.int .i64 l.p3]
def flatL (ls:List Lv):List Value:=ls.flatMap Lv.list5
end Lvl
end Go.Proofs.YtmngddomnaaedaaGreat
namespace Go.Proofs.YtmngddomnaaedaaGreat
open Lvl Trm
namespace Trm
theorem appl_left (f:Tm):∀ (r:List Tm) (l d:Int),0≤(appl f r.reverse).left badMay l d→(r.length:Int) < d∧∃ l',l'≤l∧0≤f.left badMay l' (d - r.length)
 | [],l,d,h=>by
   have h0:0≤f.left badMay l d:=h
   refine ⟨?_,l,by omega,by simpa using h0⟩
   rw [Tm.left_eq] at h0
   split at h0
   ·omega
   ·simp; omega
 | x :: r,l,d,h=>by
   rw [List.reverse_cons,appl_snoc,left_t2 4 (by omega)] at h
   split at h
   ·omega
   ·split at h
    ·omega
    ·rename_i h1 h2
     obtain ⟨h3,l',h4,h5⟩:=appl_left f r (l - 1) (d - 1) (by omega)
     refine ⟨by simp; omega,l',by omega,?_⟩
     rwa [show d - ((x :: r).length:Int)=d - 1 - r.length by simp; omega]
theorem appl_facts {f:Tm} {l:List Tm} (h:(appl f l).may=true):l.length < 4096∧f.may=true:=by
 have h1:=appl_left f l.reverse 65536 4096 (by rw [List.reverse_reverse]; exact may_left.1 h)
 obtain ⟨h2,l',h3,h4⟩:=h1
 rw [List.length_reverse] at h2 h4
 exact ⟨by omega,may_left.2 (left_mono (fun t h=>h) f l' _ 65536 4096 h4 h3 (by omega)).1⟩
end Trm
end Go.Proofs.YtmngddomnaaedaaGreat
namespace Go.Proofs.YtmngddomnaaedaaGreat
open Go.RowKit Go.Shelf Lvl Trm
namespace Trm
/-! A row of the call's own that is appended tq0 in a loop whose round calls the function itself. -/
theorem own_below {w w':World} {base e size n:Nat} {v:Value} {xs:List Value} (h:w.ownsRow base e size v n xs) (b:Below w.heap.size w w'):w'.ownsRow base e size v n xs:=by
 obtain ⟨h1,h2 | ⟨g,cap,cur,hv,hb,hg,h3⟩⟩:=h
 ·exact ⟨h1,Or.inl h2⟩
 ·exact ⟨h1,Or.inr ⟨g,cap,cur,hv,hb,(b.block g (Array.getElem?_eq_some_iff.1 hg).1).trans hg,h3⟩⟩
theorem own_low {w:World} {base e size n:Nat} {v:Value} {xs:List Value} (h:w.ownsRow base e size v n xs) {k:Nat} (hk:v.ownBlock=some k):base≤k∧k < w.heap.size:=h.lt k hk
theorem row_below {w wr w4 w5:World} {e size n:Nat} {v:Value} {xs:List Value} {o:Obj} (hb4:Below wr.heap.size wr w4) (hown:wr.ownsRow (w.heap.size + 2) e size v n xs) (hg:(w4.alloc o).grownBy w5 v.ownBlock) (h2:w.heap.size + 2≤wr.heap.size):Below (w.heap.size + 2) wr w5:=by
 have h1:=hb4.alloc hb4.size o
 refine ⟨hg.os.trans h1.os,hg.tape.trans h1.tape,hg.output.trans h1.output,Nat.le_trans h1.size hg.size,fun k hk=>?_⟩
 have hk2:k < wr.heap.size:=by omega
 rw [hg.block k (Nat.lt_of_lt_of_le hk2 h1.size) (fun he=>by have:=own_low hown he.symm; omega),h1.block k hk2]
def RowRel (B:Nat) (w:World) (o:Obj) (R:List Tm) (v i:Value) (wr:World):Prop :=
 ∃ (j:Nat) (ps:List (Tm × Hd)),i=.int .i64 j∧j≤R.length∧ps.length=j∧ps.map (·.1)=R.take j∧Below w.heap.size w wr∧wr.heap[w.heap.size]?=some o ∧
   wr.heap[w.heap.size + 1]?=some (.cells #[.int .u8 0,.int .i64 0,.string ⟨#[]⟩,.slice none 0 0,.slice none 0 0] 25)∧wr.ownsRow (w.heap.size + 2) 25 5 v ps.length (flat ps) ∧
   ∀ p ∈ ps,FirmS (fun q=>B≤q∧(q < w.heap.size + 2∨v.ownBlock=some q)) wr p.1 p.2
theorem RowRel.step {B:Nat} {w:World} {o:Obj} {R:List Tm} {v i':Value} {wr w4 w5:World} {j g cap n':Nat} {ps:List (Tm × Hd)} {y:Tm} {hy:Hd} {ob:Obj} {L:Nat} (hRl:R.length=L) (hRy:R[j]?=some y) (hlt:j < L) (hpl:ps.length=j) (hmap:ps.map (·.1)=R.take j)
 (hbel:Below w.heap.size w wr) (hbx:wr.heap[w.heap.size]?=some o) (hbr:wr.heap[w.heap.size + 1]?=some (.cells #[.int .u8 0,.int .i64 0,.string ⟨#[]⟩,.slice none 0 0,.slice none 0 0] 25)) (hown:wr.ownsRow (w.heap.size + 2) 25 5 v ps.length (flat ps))
 (hf:∀ p ∈ ps,FirmS (fun q=>B≤q∧(q < w.heap.size + 2∨v.ownBlock=some q)) wr p.1 p.2) (hb4:Below wr.heap.size wr w4) (hfy:FirmS (fun q=>B≤q∧q < wr.heap.size) w4 y hy) (hBw:B≤w.heap.size) (h2:w.heap.size + 2≤wr.heap.size)
 (hn':n'=ps.length + 1) (hown5:w5.ownsRow (w.heap.size + 2) 25 5 (.slice (some ⟨g,0,none⟩) n' cap) n' (flat ps ++ (y.vals hy).toList)) (hgrow:(w4.alloc ob).grownBy w5 v.ownBlock) (hat:v.ownBlock=some g∨g=w4.heap.size + 1) (hi:i'=.int .i64 ((j + 1:Nat):Int)) :
 RowRel B w o R (.slice (some ⟨g,0,none⟩) n' cap) i' w5:=by
 subst hn'
 have h6:=row_below hb4 hown hgrow h2
 have h1:=hb4.alloc hb4.size ob
 have hz1:wr.heap.size≤w4.heap.size:=hb4.size
 have hz5:w4.heap.size + 1≤w5.heap.size:=by have:=hgrow.size; simpa using this
 refine ⟨j + 1,ps ++ [(y,hy)],hi,by omega,by simp [hpl],?_,hbel.trans (h6.mono (by omega)),(h6.block _ (by omega)).trans hbx,(h6.block _ (by omega)).trans hbr,by rw [flat_snoc,List.length_append]; exact hown5,?_⟩
 ·rw [List.map_append,hmap,List.take_add_one,hRy]; rfl
 ·intro p hp w' hr
  rcases List.mem_append.1 hp with hp | hp
  ·refine hf p hp w' ⟨hr.os.trans (h6.os),hr.tape.trans h6.tape,hr.output.trans h6.output,Nat.le_trans h6.size hr.size,fun k hk hn=>?_⟩
   have hn5:w5.heap[k]?=wr.heap[k]?:=by
    rw [hgrow.block k (by simp; omega) (fun he=>hn ⟨by have:=own_low hown he.symm; omega,Or.inr he.symm⟩),h1.block k hk]
   rw [← hn5]
   refine hr.block k (Nat.lt_of_lt_of_le hk h6.size) ?_
   rintro ⟨hq1,hq2 | hq2⟩
   ·exact hn ⟨hq1,Or.inl hq2⟩
   ·have hkg:g=k:=by simpa [Value.ownBlock] using hq2
    subst hkg
    rcases hat with hat | hat
    ·exact hn ⟨hq1,Or.inr hat⟩
    ·omega
  ·simp at hp
   subst hp
   refine hfy w' ⟨hr.os.trans (hgrow.os),hr.tape.trans hgrow.tape,hr.output.trans hgrow.output,Nat.le_trans (by omega) hr.size,fun k hk hn=>?_⟩
   have hn5:w5.heap[k]?=w4.heap[k]?:=by
    rw [hgrow.block k (by simp; omega) (fun he=>by have:=own_low hown he.symm; exact hn ⟨by omega,by omega⟩)]
    exact (below_one w4 ob).block k hk
   rw [← hn5]
   refine hr.block k (by omega) ?_
   rintro ⟨hq1,hq2 | hq2⟩
   ·exact hn ⟨hq1,by omega⟩
   ·have hkg:g=k:=by simpa [Value.ownBlock] using hq2
    subst hkg
    rcases hat with hat | hat
    ·have:=own_low hown hat
     exact hn ⟨hq1,by omega⟩
    ·omega
end Trm
end Go.Proofs.YtmngddomnaaedaaGreat
