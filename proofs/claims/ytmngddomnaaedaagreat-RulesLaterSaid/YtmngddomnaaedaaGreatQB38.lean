/-
 What is added behind an environment changes nothing that its own names say: of Find,Delta,Iota,Field,Record as plain functions; in the sample all cuts are in range.
-/
import Derived.Lib.Hide
import Derived.Test.YtmngddomnaaedaaGreatQB37
import Derived.Test.YtmngddomnaaedaaGreatQB19
import Derived.Test.YtmngddomnaaedaaGreatQB7
import Derived.Laws.AppendOwnNone
open Go.Lib (hid)
set_option maxRecDepth 100000
set_option maxHeartbeats 32000000
namespace Go.Proofs.YtmngddomnaaedaaGreat
open Go.RowKit Go.Shelf Go.Maps Lvl Trm Env
namespace Typ
theorem fnd_yes {L:List Inf} {s:ByteArray} (h:(fnd L s).2=true):∃ x,L.find? (fun x=>key x.name == key s)=some x∧fnd L s=(x,true):=by
 unfold fnd at h ⊢
 cases hf:L.find? (fun x=>key x.name == key s) with
 | none=>rw [hf] at h; cases h
 | some x=>exact ⟨x,rfl,rfl⟩
theorem find_app {L:List Inf} {s:ByteArray} (M:List Inf) (h:(fnd L s).2=true):(L ++ M).find? (fun x=>key x.name == key s)=L.find? (fun x=>key x.name == key s):=by
 obtain ⟨x,hx,_⟩:=fnd_yes h
 rw [List.find?_append,hx]
 rfl
theorem fnd_app {L:List Inf} {s:ByteArray} (M:List Inf) (h:(fnd L s).2=true):fnd (L ++ M) s=fnd L s:=by
 unfold fnd
 rw [find_app M h]
def There (L:List Inf) (t:Tm):Prop:=t.k=3→(fnd L t.s).2=true
theorem nmd_app {L:List Inf} {t:Tm} (M:List Inf) (k:Int) (h:There L t):nmd (L ++ M) t k=nmd L t k:=by
 unfold nmd
 by_cases h3:t.k=3
 ·rw [fnd_app M (h h3)]
 ·have:(t.k != 3)=true:=by simp [h3]
  rw [if_pos this,if_pos this]
theorem vaI_app {L:List Inf} {t:Tm} (M:List Inf) (h:There L t):vaI (L ++ M) t=vaI L t:=by
 unfold vaI
 by_cases h3:t.k=3∧t.may=true
 ·rw [find_app M (h h3.1)]
 ·rw [if_neg h3,if_neg h3]
theorem isR_app {L:List Inf} {s:ByteArray} (M:List Inf) (h:(fnd L s).2=true):isR (L ++ M) s=isR L s:=by
 unfold isR
 rw [fnd_app M h]
theorem rcr_app {L:List Inf} {t:Tm} (M:List Inf) (n:Int) (h:There L t):rcr (L ++ M) t n=rcr L t n:=by
 unfold rcr
 rw [nmd_app M 6 h]
theorem rlf_app {L:List Inf} {t:Tm} (M:List Inf) (l:List Rl) (n:Int) (h:There L t):rlf (L ++ M) l t n=rlf L l t n:=by
 unfold rlf
 rw [nmd_app M 5 h]
theorem dlt_app {L:List Inf} {t:Tm} (M:List Inf) (h:There L (spM t).1):dlt (L ++ M) t=dlt L t:=by
 unfold dlt
 rw [vaI_app M h]
theorem iot_app {L:List Inf} {t m:Tm} (M:List Inf) (h:There L (spM t).1) (k:There L (spM m).1):iot (L ++ M) t m=iot L t m:=by
 unfold iot
 rw [rcr_app M _ h]
 simp only [rlf_app M _ _ k]
theorem iotC_app {L:List Inf} {t m:Tm} (M:List Inf) (h:There L (spM t).1) (k:There L (spM m).1):iotC (L ++ M) t m=iotC L t m:=by
 unfold iotC
 rw [rcr_app M _ h]
 simp only [rlf_app M _ _ k]
theorem fldA_app {L:List Inf} {s:ByteArray} {t:Tm} (M:List Inf) (n:Int) (hs:(fnd L s).2=true) (h:There L (spM t).1):fldA (L ++ M) s n t=fldA L s n t:=by
 unfold fldA
 rw [nmd_app M 5 h,isR_app M hs]
theorem fldC_app {L:List Inf} {t:Tm} (M:List Inf) (n:Int) (h:There L (spM t).1):fldC (L ++ M) n t=fldC L n t:=by
 unfold fldC
 rw [nmd_app M 5 h]
theorem rcN_app {L:List Inf} {s:ByteArray} (M:List Inf):∀ (l r:List ByteArray),(∀ n ∈ l,(fnd L n).2=true)→(rcN L s l).2=true→rcN (L ++ M) s (l ++ r)=rcN L s l
 | [],r,_,h=>by cases h
 | n :: q,r,hl,h=>by
   have hn:=hl n List.mem_cons_self
   have ih:=rcN_app (s:=s) M q r (fun x hx=>hl x (List.mem_cons_of_mem _ hx))
   rw [List.cons_append]
   unfold rcN at h ⊢
   rw [fnd_app M hn]
   rw [if_pos hn] at h ⊢
   rw [if_pos hn]
   split
   ·rename_i h1
    rw [if_pos h1] at h
    split
    ·rfl
    ·rename_i h2
     rw [if_neg h2] at h
     exact ih h
   ·rename_i h1
    rw [if_neg h1] at h
    exact ih h
theorem fnd_own {L:List Inf} {x:Inf} (h:x ∈ L):(fnd L x.name).2=true:=by
 unfold fnd
 cases hf:L.find? (fun y=>key y.name == key x.name) with
 | none=>exact absurd (List.find?_eq_none.1 hf x h) (by simp)
 | some y=>rfl
theorem rcd_app {L:List Inf} {s:ByteArray} (M:List Inf) (hs:(fnd L s).2=true) (h:(rcd L s).2=true):rcd (L ++ M) s=rcd L s:=by
 unfold rcd at h ⊢
 rw [isR_app M hs]
 cases hr:isR L s with
 | false=>rfl
 | true =>
   rw [hr,if_pos rfl] at h
   rw [if_pos rfl,if_pos rfl,List.map_append]
   exact rcN_app M _ _ (fun n hn=>by
    obtain ⟨x,hx,rfl⟩:=List.mem_map.1 hn
    exact fnd_own hx) h
def okI (x:Inf):Bool:=decide (0≤x.fixed) && decide (x.fixed≤1000) && decide (0≤x.motives) && decide (x.motives≤1000) && decide (0≤x.minors) && decide (x.minors≤1000) && decide (0≤x.index) && decide (x.index≤1000) && decide (0≤x.fields) && decide (x.fields≤1000) && decide (x.rules.length≤1000) && x.rules.all (fun r=>decide (0≤r.fields) && decide (r.fields≤1000))
structure OkI (x:Inf):Prop where
 fx0:0≤x.fixed
 fx:x.fixed≤1000
 mo0:0≤x.motives
 mo:x.motives≤1000
 mi0:0≤x.minors
 mi:x.minors≤1000
 ix0:0≤x.index
 ix:x.index≤1000
 fs0:0≤x.fields
 fs:x.fields≤1000
 rn:x.rules.length≤1000
 rs:∀ r ∈ x.rules,0≤r.fields∧r.fields≤1000
theorem okI_is {x:Inf} (h:okI x=true):OkI x:=by
 simp only [okI,Bool.and_eq_true,decide_eq_true_eq,List.all_eq_true] at h
 obtain ⟨⟨⟨⟨⟨⟨⟨⟨⟨⟨⟨a1,a2⟩,a3⟩,a4⟩,a5⟩,a6⟩,a7⟩,a8⟩,a9⟩,b1⟩,b2⟩,b3⟩:=h
 exact ⟨a1,a2,a3,a4,a5,a6,a7,a8,a9,b1,b2,fun r hr=>by simpa using b3 r hr⟩
theorem okI_zero:OkI zI0:=okI_is (by decide)
theorem okI_nmd {L:List Inf} (hL:L.all okI=true) (t:Tm) (k:Int):OkI (nmd L t k).1:=by
 unfold nmd
 split
 ·exact okI_zero
 ·split
  ·rename_i h
   split
   ·exact okI_zero
   ·obtain ⟨x,hx,e⟩:=fnd_yes h
    rw [e]
    exact okI_is (List.all_eq_true.1 hL x (List.mem_of_find?_eq_some hx))
  ·exact okI_zero
theorem rplace_is {x:Inf} (h:OkI x):rplace x=x.fixed + x.motives + x.minors + x.index:=by
 have:=h.fx0; have:=h.fx; have:=h.mo0; have:=h.mo; have:=h.mi0; have:=h.mi; have:=h.ix0; have:=h.ix
 unfold rplace
 rw [IntWalk.i64_in (x.fixed + x.motives) (by omega),IntWalk.i64_in (x.fixed + x.motives + x.minors) (by omega),IntWalk.i64_in _ (by omega)]
theorem rcr_in {L:List Inf} (hL:L.all okI=true) {t:Tm} {n:Int} (h:(rcr L t n).2.2=true):OkI (rcr L t n).1∧(rcr L t n).1.index≤(rcr L t n).2.1∧0≤(rcr L t n).2.1∧(rcr L t n).2.1≤4000∧(rcr L t n).2.1 < n:=by
 have ho:=okI_nmd hL t 6
 unfold rcr at h ⊢
 split at h
 ·rename_i h1
  rw [if_pos h1]
  split at h
  ·rename_i h2
   rw [if_pos h2]
   split at h
   ·rename_i h3
    rw [if_pos h3]
    have h3:=of_decide_eq_true h3
    have e:=rplace_is ho
    have:=ho.fx0; have:=ho.fx; have:=ho.mo0; have:=ho.mo; have:=ho.mi0; have:=ho.mi; have:=ho.ix0; have:=ho.ix
    exact ⟨ho,by dsimp only; omega,by dsimp only; omega,by dsimp only; omega,by dsimp only; omega⟩
   ·cases h
  ·cases h
 ·cases h
theorem rcr_rules {L:List Inf} (hL:L.all okI=true) (t:Tm) (n:Int):(rcr L t n).1.rules.length≤1000000:=by
 cases h:(rcr L t n).2.2 with
 | true=>have:=(rcr_in hL h).1.rn; omega
 | false =>
   have ho:=okI_nmd hL t 6
   unfold rcr at h ⊢
   split
   ·split
    ·split
     ·have:=ho.rn; dsimp only; omega
     ·exact Nat.zero_le _
    ·exact Nat.zero_le _
   ·exact Nat.zero_le _
theorem rlf_in {L:List Inf} (hL:L.all okI=true) {l:List Rl} (hl:∀ r ∈ l,0≤r.fields∧r.fields≤1000) {t:Tm} {n:Int} (h:(rlf L l t n).2=true):0≤(rlf L l t n).1.fields∧(rlf L l t n).1.fields≤n∧(rlf L l t n).1.fields≤1000:=by
 have ho:=okI_nmd hL t 5
 unfold rlf at h ⊢
 split at h
 ·rename_i h1
  rw [if_pos h1]
  split at h
  ·cases h
  ·rename_i h2
   rw [if_neg h2]
   split at h
   ·cases h
   ·rename_i h3
    rw [if_neg h3]
    have hi:=idxR_in (l:=l) (s:=(nmd L t 5).1.name) (by simpa using h2)
    have hm:0≤(rlAt l (nmd L t 5).1.name).fields∧(rlAt l (nmd L t 5).1.name).fields≤1000:=by
     unfold rlAt
     rw [getD_of hi.2]
     exact hl _ (List.getElem_mem _)
    have h3:n=rlN (nmd L t 5).1 (rlAt l (nmd L t 5).1.name):=by simpa using h3
    have:=ho.fx0; have:=ho.fx
    unfold rlN at h3
    rw [IntWalk.i64_in _ (by omega)] at h3
    exact ⟨hm.1,by dsimp only; omega,hm.2⟩
 ·cases h
theorem iotC_ok {L:List Inf} (hL:L.all okI=true) (t m:Tm):iotC L t m=true:=by
 unfold iotC
 obtain ⟨a,ha⟩:∃ a,a=rcr L (spM t).1 ((spM t).2.length:Int):=⟨_,rfl⟩
 have hla:=spM_len t
 have hlm:=spM_len m
 have h1:=rcr_in hL (t:=(spM t).1) (n:=((spM t).2.length:Int))
 rw [← ha] at h1 ⊢
 obtain ⟨b,hb⟩:∃ b,b=rlf L a.1.rules (spM m).1 ((spM m).2.length:Int):=⟨_,rfl⟩
 have h2:=fun (x:OkI a.1)=>rlf_in hL (l:=a.1.rules) x.rs (t:=(spM m).1) (n:=((spM m).2.length:Int))
 rw [← hb] at h2 ⊢
 cases h3:a.2.2 with
 | false=>rfl
 | true =>
   obtain ⟨k1,k2,k3,k4,k5⟩:=h1 h3
   cases h4:b.2 with
   | false=>rfl
   | true =>
     obtain ⟨j1,j2,j3⟩:=h2 k1 h4
     have:=k1.ix0
     rw [IntWalk.i64_in (a.2.1 - a.1.index) (by omega),IntWalk.i64_in (((spM m).2.length:Int) - b.1.fields) (by omega),IntWalk.i64_in (a.2.1 + 1) (by omega)]
     simp only [Bool.or_eq_true,Bool.and_eq_true,decide_eq_true_eq]
     right
     omega
theorem fldC_ok {L:List Inf} (hL:L.all okI=true) (n:Int) (t:Tm):fldC L n t=true:=by
 have ho:=okI_nmd hL (spM t).1 5
 unfold fldC
 obtain ⟨a,ha⟩:∃ a,a=nmd L (spM t).1 5:=⟨_,rfl⟩
 rw [← ha] at ho ⊢
 have:=ho.fx0; have:=ho.fx; have:=ho.fs0; have:=ho.fs
 rw [IntWalk.i64_in (a.1.fixed + a.1.fields) (by omega)]
 by_cases h1:(((spM t).2.length:Int) != a.1.fixed + a.1.fields)=true
 ·rw [h1]; simp
 ·have h1:((spM t).2.length:Int)=a.1.fixed + a.1.fields:=by simpa using h1
  by_cases h2:n < 0
  ·simp [h2]
  ·by_cases h3:n ≥ a.1.fields
   ·simp [h3]
   ·rw [IntWalk.i64_in (a.1.fixed + n) (by omega)]
    simp only [Bool.or_eq_true,Bool.and_eq_true,decide_eq_true_eq]
    right
    omega
theorem smp_okI:Smp.smpL.all okI=true:=by kernel_rfl
theorem smp_pair:(fnd Smp.smpL ⟨#[80,97,105,114]⟩).2=true:=by kernel_rfl
theorem smp_rcd:(rcd Smp.smpL ⟨#[80,97,105,114]⟩).2=true:=by kernel_rfl
theorem smp_rcdr:decide ((rcd Smp.smpL ⟨#[80,97,105,114]⟩).1.rules.length≤1000)=true:=by kernel_rfl
end Typ
end Go.Proofs.YtmngddomnaaedaaGreat
namespace Go.Proofs.YtmngddomnaaedaaGreat
open Go.RowKit Go.Shelf Go.Maps Go.Sort Lvl Trm
theorem Trm.infoS:(Tryz.prog.info? 9).map (fun i=>(i.zero,i.size,i.bytes))=some (some (.string ⟨#[]⟩),1,16):=by kernel_rfl
namespace Trm
theorem bl_iff:{x y:List UInt8}→(Op.bytesLess x y=true ↔ x < y)
 | [],[]=>by simp [Op.bytesLess]
 | _ :: _,[]=>by simp [Op.bytesLess]
 | [],_ :: _=>by simp [Op.bytesLess]
 | a :: x,b :: y=>by
   have ih:=bl_iff (x:=x) (y:=y)
   simp only [Op.bytesLess,List.cons_lt_cons_iff,Bool.or_eq_true,Bool.and_eq_true,decide_eq_true_eq,beq_iff_eq,ih]
def ins (s:List UInt8):List (List UInt8)→List (List UInt8)
 | []=>[s]
 | a :: r=>if a < s then a :: ins s r else if a=s then a :: r else s :: a :: r
theorem mem_ins {s x:List UInt8}:∀ {l:List (List UInt8)},x ∈ ins s l ↔ x=s∨x ∈ l
 | []=>by simp [ins]
 | a :: r=>by
   unfold ins
   by_cases h1:a < s
   ·rw [if_pos h1]; simp only [List.mem_cons,mem_ins (l:=r)]; constructor <;> (intro h; rcases h with h | h | h) <;> simp_all
   ·rw [if_neg h1]
    by_cases h2:a=s
    ·rw [if_pos h2]; subst h2; simp
    ·rw [if_neg h2]; simp
theorem ins_len (s:List UInt8):∀ l:List (List UInt8),(ins s l).length≤l.length + 1
 | []=>by simp [ins]
 | a :: r=>by
   have:=ins_len s r
   unfold ins
   by_cases h3:a < s
   ·rw [if_pos h3]; simp; omega
   ·rw [if_neg h3]; split <;> simp
def NR (w:World) (v:Value) (l:List (List UInt8)):Prop :=
 (v=.slice none 0 0∧l=[])∨∃ g cap,v=.slice (some ⟨g,0,none⟩) l.length cap∧g < w.heap.size∧l.length≤cap∧cap≤maxLen∧∀ k (hk:k < l.length),w.cell? ⟨g,k,none⟩=some (.string ⟨l[k].toArray⟩)
theorem NR.carry {w w':World} {v:Value} {l:List (List UInt8)} (h:NR w v l) (b:Below w.heap.size w w'):NR w' v l:=by
 rcases h with h | ⟨g,cap,h1,h2,h3,h4,h5⟩
 ·exact Or.inl h
 ·exact Or.inr ⟨g,cap,h1,by have:=b.size; omega,h3,h4,fun k hk=>(b.cell (p:=⟨g,k,none⟩) h2).trans (h5 k hk)⟩
theorem NR.own {w:World} {base n:Nat} {v:Value} {l:List (List UInt8)} (hn:n=l.length) (h:w.ownsRow base 9 1 v n (l.map encStr)):NR w v l:=by
 subst hn
 have h0:=h
 obtain ⟨hl,⟨hv,hn0⟩ | ⟨g,cap,cur,rfl,hb,hg,hm,hmx,hs,ht⟩⟩:=h
 ·exact Or.inl ⟨hv,List.eq_nil_of_length_eq_zero hn0⟩
 ·have hgl:g < w.heap.size:=(Array.getElem?_eq_some_iff.1 hg).1
  refine Or.inr ⟨g,cap,rfl,hgl,hm,hmx,fun k hk=>?_⟩
  rw [h0.cellAt k (by omega),List.getElem?_map,List.getElem?_eq_getElem hk]
  rfl
def WiRel (w:World) (s:List UInt8) (l:List (List UInt8)) (i:Value) (wr:World):Prop :=
 ∃ j:Nat,i=.int .i64 j∧j≤l.length∧ins s l=l.take j ++ ins s (l.drop j)∧wr=w
theorem ins_step {s:List UInt8} {l:List (List UInt8)} {j:Nat} (h:j < l.length) (hls:l[j] < s) (hi:ins s l=l.take j ++ ins s (l.drop j)):ins s l=l.take (j + 1) ++ ins s (l.drop (j + 1)):=by
 rw [hi,List.take_succ_eq_append_getElem h,List.drop_eq_getElem_cons h,ins,if_pos hls,List.append_assoc]; rfl
theorem ins_eq {s:List UInt8} {l:List (List UInt8)} {j:Nat} (h:j < l.length) (hls:l[j]=s) (hi:ins s l=l.take j ++ ins s (l.drop j)):ins s l=l:=by
 rw [hi,List.drop_eq_getElem_cons h,ins,if_neg (by rw [hls]; exact List.lt_irrefl s),if_pos hls,← List.drop_eq_getElem_cons h,List.take_append_drop]
theorem ins_here {s:List UInt8} {l:List (List UInt8)} {j:Nat} (h:j < l.length) (h1:¬ l[j] < s) (h2:l[j] ≠ s) (hi:ins s l=l.take j ++ ins s (l.drop j)):ins s l=l.take j ++ [s] ++ l.drop j:=by
 rw [hi,List.drop_eq_getElem_cons h,ins,if_neg h1,if_neg h2]; simp
theorem ins_end {s:List UInt8} {l:List (List UInt8)} {j:Nat} (h:¬ j < l.length) (hi:ins s l=l.take j ++ ins s (l.drop j)):ins s l=l.take j ++ [s] ++ l.drop j:=by
 rw [hi,List.drop_eq_nil_of_le (by omega),ins]; simp
theorem row_cells {w:World} {g o:Nat} {l:List (List UInt8)} (h:∀ k (hk:k < l.length),w.cell? ⟨g,o + k,none⟩=some (.string ⟨l[k].toArray⟩)):∀ (j:Nat) (u:Value),(l.map encStr)[j]?=some u→w.cell? ((⟨g,o,none⟩:Addr).add j)=some u:=by
 intro j u hj
 obtain ⟨hj1,hj2⟩:=List.getElem?_eq_some_iff.1 hj
 rw [List.length_map] at hj1
 rw [Addr.add_lit,h j hj1,← hj2,List.getElem_map]
theorem fin_row {w:World} {base n j:Nat} {v:Value} {l r:List (List UInt8)} {s:ByteArray} (hr:r=l.take j ++ [s.toList] ++ l.drop j) (hn:n=j + 1 + (l.length - j)∧j≤l.length)
 (h:w.ownsRow base 9 1 v n ((l.map encStr).take j ++ .string s :: (l.map encStr).drop j)):NR w v r:=by
 have hs:Value.string s=encStr s.toList:=by
  show Value.string s=Value.string ⟨s.toList.toArray⟩
  rw [Lib.toList_data]
 refine NR.own (n:=n) (base:=base) ?_ ?_
 ·rw [hr,hn.1]
  simp only [List.length_append,List.length_take,List.length_drop,List.length_cons,List.length_nil]
  omega
 ·rw [hr,List.map_append,List.map_append,List.map_take,List.map_drop,List.map_cons,List.map_nil,← hs,List.append_assoc]
  exact h
theorem one_str (l:List (List UInt8)):∀ u ∈ l.map encStr,u.oneCell'=true:=by
 intro u hu
 obtain ⟨x,_,rfl⟩:=List.mem_map.1 hu
 rfl
end Trm
end Go.Proofs.YtmngddomnaaedaaGreat
namespace Go.Proofs.YtmngddomnaaedaaGreat
open Go.RowKit Go.Shelf Go.Maps Go.Sort Lvl Trm
namespace Trm
def addN (ns l:List (List UInt8)):List (List UInt8):=ns.foldl (fun l x=>ins x l) l
theorem addN_len:∀ ns l:List (List UInt8),(addN ns l).length≤l.length + ns.length
 | [],l=>by simp [addN]
 | a :: r,l=>by
   have h1:=addN_len r (ins a l)
   have h2:=ins_len a l
   show (addN r (ins a l)).length≤_
   simp only [List.length_cons]
   omega
theorem addN_mem {x:List UInt8}:∀ {ns l:List (List UInt8)},x ∈ addN ns l ↔ x ∈ ns∨x ∈ l
 | [],l=>by simp [addN]
 | a :: r,l=>by
   show x ∈ addN r (ins a l) ↔ _
   rw [addN_mem (ns:=r),mem_ins,List.mem_cons]
   exact ⟨fun h=>by
    rcases h with h | h | h
    ·exact Or.inl (Or.inr h)
    ·exact Or.inl (Or.inl h)
    ·exact Or.inr h,fun h=>by
    rcases h with (h | h) | h
    ·exact Or.inr (Or.inl h)
    ·exact Or.inl h
    ·exact Or.inr (Or.inr h)⟩
theorem addN_append (a b l:List (List UInt8)):addN (a ++ b) l=addN b (addN a l):=by simp [addN,List.foldl_append]
theorem nms_few {t:Tm} (hm:t.may=true):t.nms.length≤65536:=by
 have h1:=nms_size t
 have h3:=count_ge t
 unfold Tm.count at h3
 rw [if_pos hm] at h3
 omega
theorem nmsL_drop {ts:List Tm} {k:Nat} (h:k < ts.length):nmsL (ts.drop k)=ts[k].nms ++ nmsL (ts.drop (k + 1)):=by
 rw [drop_get h,nmsL]
end Trm
end Go.Proofs.YtmngddomnaaedaaGreat
namespace Go.Proofs.YtmngddomnaaedaaGreat
open Go.RowKit Go.Shelf Go.Maps Go.Sort Lvl Trm
namespace Trm
def NRB (B:Nat) (w:World) (v:Value) (l:List (List UInt8)):Prop :=
 (v=.slice none 0 0∧l=[])∨∃ g cap,v=.slice (some ⟨g,0,none⟩) l.length cap∧g < w.heap.size∧B≤g∧l.length≤cap∧cap≤maxLen∧∀ k (hk:k < l.length),w.cell? ⟨g,k,none⟩=some (.string ⟨l[k].toArray⟩)
theorem NRB.carry {B:Nat} {w w':World} {v:Value} {l:List (List UInt8)} (h:NRB B w v l) (b:Below w.heap.size w w'):NRB B w' v l:=by
 rcases h with h | ⟨g,cap,h1,h2,h0,h3,h4,h5⟩
 ·exact Or.inl h
 ·exact Or.inr ⟨g,cap,h1,by have:=b.size; omega,h0,h3,h4,fun k hk=>(b.cell (p:=⟨g,k,none⟩) h2).trans (h5 k hk)⟩
theorem NRB.of {B:Nat} {w:World} {base n:Nat} {t:TypeId} {v:Value} {l:List (List UInt8)} {r:List Value} (h:NR w v l) (k:w.ownsRow base t 1 v n r) (hb:B≤base):NRB B w v l:=by
 rcases h with h | ⟨g,cap,h1,h2,h3,h4,h5⟩
 ·exact Or.inl h
 ·obtain ⟨_,⟨hv,_⟩ | ⟨g',cap',cur,hv,hb',_⟩⟩:=k
  ·rw [hv] at h1; cases h1
  ·rw [hv] at h1
   cases h1
   exact Or.inr ⟨g,cap,hv,h2,by omega,h3,h4,h5⟩
def WithPostB (B:Nat) (l:List (List UInt8)) (w:World) (e:Ending) (w':World):Prop:=∃ v',e=.returned v'∧NRB B w' v' l∧Below w.heap.size w w'
def NmRelW (B:Nat) (w:World) (o:Obj) (ts:List Tm) (G:List (List UInt8)) (v i:Value) (wr:World):Prop :=
 ∃ (j:Nat) (l:List (List UInt8)),i=.int .i64 j∧j≤ts.length∧NRB B wr v l∧l.length + (nmsL (ts.drop j)).length≤1000000∧addN (nmsL (ts.drop j)) l=G∧Kept w wr o
end Trm
theorem withW_any (l:List (List UInt8)) (s:ByteArray) (v:Value) (B:Nat) (w:World) (hB:B≤w.heap.size) (hr:NRB B w v l) (hl:l.length≤1000000) :
 Calls Tryz.prog 92 #[v,.string s] w (WithPostB B (ins s.toList l) w):=by
 obtain ⟨i0,hi,hz0,hz1,hz2⟩:=info_parts infoS
 have HR:=hid hr
 have HSZ:=hid hB
 clear hB
 rcases hr with ⟨rfl,rfl⟩ | ⟨g,cap,rfl,hg,_,hc,hcm,hcl⟩
 ·go_enter Tryz.func92,Tryz.ntmps92
  go_wp2_with fail
  go_loopw [5] (fun i wr=>i=.int .i64 0∧wr=w) (fun _ _=>0)
  case atStart=>exact ⟨rfl,rfl⟩
  case round =>
   obtain ⟨rfl,hw⟩:=hrel
   subst hw
   go_wp2_with (at_builtin; first
    | refine wpList_append_own_none rfl _ _ 60 rfl wr.heap.size 9 i0 1 Tryz.underlying60 hi _ 0 [] rfl ⟨rfl,Or.inl ⟨rfl,rfl⟩⟩ rfl ?_
    | refine wpList_append_own _ rfl _ _ 60 rfl wr.heap.size 9 i0 _ 1 16 Tryz.underlying60 hi hz0 hz1 hz2 rfl (by decide) _ 0 [] rfl ⟨rfl,Or.inl ⟨rfl,rfl⟩⟩ ⟨wr.heap.size,0,none⟩ 1 1 [.string s] rfl rfl ?d1 ?d2 ?d3 ?d4 ?d5 ?_)
   case d1=>exact World.news_of_block (cs:=#[.string s]) (t:=9) (fr:=(0,0)) (World.alloc_heap_new wr _)
   case d2=>simp [Value.oneCell']
   case d3=>unfold maxLen; omega
   case d4=>omega
   case d5=>simp
   intro v2 w2 own2 g2 _
   have hb2:=hid (Below.trans (below_one wr _) (below_own (base:=wr.heap.size) (v:=.slice none 0 0) (n:=0) (xs:=[]) (e:=9) (size:=1) ⟨rfl,Or.inl ⟨rfl,rfl⟩⟩ g2 (by simp)))
   have hs2:=hb2.out.size
   clear g2
   go_wp2_with (at_builtin; refine wpList_append_own_none rfl _ _ 60 rfl wr.heap.size 9 i0 1 Tryz.underlying60 hi _ _ _ rfl own2 rfl ?_)
   have HF:Hid (NRB B w2 v2 (ins s.toList [])):=hid (NRB.of (fin_row (j:=0) (l:=[]) (n:=1) (base:=wr.heap.size) rfl (by decide) own2) own2 (by have hh:=HSZ.out; omega))
   clear own2
   go_wp2_with fail
   go_ret
   exact ⟨v2,rfl,HF.out,hb2.out⟩
 ·have HCL:=hid hcl
  have hcap:(l.length:Int)≤(cap:Int):=by omega
  clear hcl
  go_enter Tryz.func92,Tryz.ntmps92
  go_wp2_with fail
  go_loopw [5] (fun i wr=>WiRel w s.toList l i wr) (fun i _=>l.length - (intOf i).toNat)
  case atStart=>exact ⟨0,rfl,by omega,rfl,rfl⟩
  case round =>
   obtain ⟨j,rfl,hj,hins,hw⟩:=hrel
   subst hw
   have HINS:=hid hins
   clear hins
   have hj0:(0:Int)≤(j:Int):=Int.natCast_nonneg _
   have hjc:(j:Int)≤(l.length:Int):=by omega
   by_cases hlt:j < l.length
   ·have hc0:=HCL.out j hlt
    have hj1:(j:Int) < (l.length:Int):=by omega
    have ea:(⟨l[j].toArray⟩:ByteArray).toList=l[j]:=by rw [ByteArray.toList_eq]
    have HLT:=hid hlt
    generalize (⟨l[j].toArray⟩:ByteArray)=sa at hc0 ea
    by_cases hls:l[j] < s.toList
    ·have q:Op.bytesLess sa.toList s.toList=true:=by rw [ea]; exact bl_iff.2 hls
     have HN:=hid (ins_step hlt hls HINS.out)
     clear ea hls
     go_wp2_with fail
     go_roundw
     case rel=>exact ⟨j + 1,by go_num,by omega,HN.out,rfl⟩
     case measure=>simp [intOf]; omega
    ·have q:Op.bytesLess sa.toList s.toList=false:=by
      rw [ea,Bool.eq_false_iff]; exact fun h=>hls (bl_iff.1 h)
     by_cases heq:l[j]=s.toList
     ·have q2:(sa.toList == s.toList)=true:=by rw [ea]; exact beq_iff_eq.2 heq
      have HN:=hid (ins_eq hlt heq HINS.out)
      clear ea hls heq
      go_wp2_with fail
      go_ret
      exact ⟨_,rfl,by rw [HN.out]; exact HR.out,Below.refl _ _⟩
     ·have q2:(sa.toList == s.toList)=false:=by rw [ea]; exact beq_eq_false_iff_ne.2 heq
      have HN:=hid (ins_here hlt hls heq HINS.out)
      clear ea hls heq
      have hjcap:(j:Int) < (cap:Int):=by omega
      have hjcn:j < cap:=by omega
      go_wp2_with (at_builtin; refine wpList_append_own _ rfl _ _ 60 rfl wr.heap.size 9 i0 _ 1 16 Tryz.underlying60 hi hz0 hz1 hz2 rfl (by decide) _ 0 [] rfl ⟨rfl,Or.inl ⟨rfl,rfl⟩⟩ ⟨g,0,none⟩ j cap ((l.take j).map encStr) rfl (by simp; omega) ?c1 (one_str _) ?c3 ?c4 ?c5 ?_)
      case c1=>exact row_cells (fun k hk=>by rw [Nat.zero_add,List.getElem_take]; exact HCL.out k (by rw [List.length_take] at hk; omega))
      case c3=>unfold maxLen; omega
      case c4=>omega
      case c5=>exact Nat.le_refl _
      intro v1 w1 own1 g1 _
      have hb1:=hid (below_own (base:=wr.heap.size) (v:=.slice none 0 0) (n:=0) (xs:=[]) (e:=9) (size:=1) ⟨rfl,Or.inl ⟨rfl,rfl⟩⟩ g1 (Nat.le_refl _))
      have hs1:=hb1.out.size
      go_wp2_with (at_builtin; refine wpList_append_own _ rfl _ _ 60 rfl wr.heap.size 9 i0 _ 1 16 Tryz.underlying60 hi hz0 hz1 hz2 rfl (by decide) _ _ _ rfl (own1.alloc _) ⟨w1.heap.size,0,none⟩ 1 1 [.string s] rfl rfl ?d1 ?d2 ?d3 ?d4 ?d5 ?_)
      case d1=>exact World.news_of_block (cs:=#[.string s]) (t:=9) (fr:=(0,0)) (World.alloc_heap_new w1 _)
      case d2=>simp [Value.oneCell']
      case d3=>unfold maxLen; omega
      case d4=>omega
      case d5=>simp; omega
      intro v2 w2 own2 g2 _
      have hb2:=hid (Below.trans hb1.out (Below.trans (Below.mono (below_one w1 _) (by omega)) (below_own (own1.alloc _) g2 (by simp; omega))))
      have hs2:=hb2.out.size
      clear g1 g2 own1
      go_wp2_with (at_builtin; refine wpList_append_own _ rfl _ _ 60 rfl wr.heap.size 9 i0 _ 1 16 Tryz.underlying60 hi hz0 hz1 hz2 rfl (by decide) _ _ _ rfl own2 ⟨g,j,none⟩ (l.length - j) (cap - j) ((l.drop j).map encStr) rfl ?e0 ?e1 (one_str _) ?e3 ?e4 ?e5 ?_)
      case e0=>simp <;> omega
      case e1=>exact row_cells (fun k hk=>by rw [List.getElem_drop]; exact (hb2.out.cell (p:=⟨g,j + k,none⟩) hg).trans (HCL.out (j + k) (by rw [List.length_drop] at hk; omega)))
      case e3=>unfold maxLen; omega
      case e4=>omega
      case e5=>omega
      intro v3 w3 own3 g3 _
      have hb3:=hid (Below.trans hb2.out (below_own own2 g3 (by omega)))
      have HF:Hid (NRB B w3 v3 (ins s.toList l)):=hid (NRB.of (fin_row HN.out (by omega) own3) own3 (by have hh:=HSZ.out; omega))
      clear own3 own2 g3
      go_wp2_with fail
      go_ret
      exact ⟨v3,rfl,HF.out,hb3.out⟩
   ·have HN:=hid (ins_end hlt HINS.out)
    by_cases hjcn:j < cap
    ·have hjcap:(j:Int) < (cap:Int):=by omega
     go_wp2_with (at_builtin; refine wpList_append_own _ rfl _ _ 60 rfl wr.heap.size 9 i0 _ 1 16 Tryz.underlying60 hi hz0 hz1 hz2 rfl (by decide) _ 0 [] rfl ⟨rfl,Or.inl ⟨rfl,rfl⟩⟩ ⟨g,0,none⟩ j cap ((l.take j).map encStr) rfl (by simp; omega) ?c1 (one_str _) ?c3 ?c4 ?c5 ?_)
     case c1=>exact row_cells (fun k hk=>by rw [Nat.zero_add,List.getElem_take]; exact HCL.out k (by rw [List.length_take] at hk; omega))
     case c3=>unfold maxLen; omega
     case c4=>omega
     case c5=>exact Nat.le_refl _
     intro v1 w1 own1 g1 _
     have hb1:=hid (below_own (base:=wr.heap.size) (v:=.slice none 0 0) (n:=0) (xs:=[]) (e:=9) (size:=1) ⟨rfl,Or.inl ⟨rfl,rfl⟩⟩ g1 (Nat.le_refl _))
     have hs1:=hb1.out.size
     go_wp2_with (at_builtin; refine wpList_append_own _ rfl _ _ 60 rfl wr.heap.size 9 i0 _ 1 16 Tryz.underlying60 hi hz0 hz1 hz2 rfl (by decide) _ _ _ rfl (own1.alloc _) ⟨w1.heap.size,0,none⟩ 1 1 [.string s] rfl rfl ?d1 ?d2 ?d3 ?d4 ?d5 ?_)
     case d1=>exact World.news_of_block (cs:=#[.string s]) (t:=9) (fr:=(0,0)) (World.alloc_heap_new w1 _)
     case d2=>simp [Value.oneCell']
     case d3=>unfold maxLen; omega
     case d4=>omega
     case d5=>simp; omega
     intro v2 w2 own2 g2 _
     have hb2:=hid (Below.trans hb1.out (Below.trans (Below.mono (below_one w1 _) (by omega)) (below_own (own1.alloc _) g2 (by simp; omega))))
     have hs2:=hb2.out.size
     clear g1 g2 own1
     go_wp2_with (at_builtin; refine wpList_append_own _ rfl _ _ 60 rfl wr.heap.size 9 i0 _ 1 16 Tryz.underlying60 hi hz0 hz1 hz2 rfl (by decide) _ _ _ rfl own2 ⟨g,j,none⟩ (l.length - j) (cap - j) ((l.drop j).map encStr) rfl ?e0 ?e1 (one_str _) ?e3 ?e4 ?e5 ?_)
     case e0=>simp <;> omega
     case e1=>exact row_cells (fun k hk=>by rw [List.getElem_drop]; exact (hb2.out.cell (p:=⟨g,j + k,none⟩) hg).trans (HCL.out (j + k) (by rw [List.length_drop] at hk; omega)))
     case e3=>unfold maxLen; omega
     case e4=>omega
     case e5=>omega
     intro v3 w3 own3 g3 _
     have hb3:=hid (Below.trans hb2.out (below_own own2 g3 (by omega)))
     have HF:Hid (NRB B w3 v3 (ins s.toList l)):=hid (NRB.of (fin_row HN.out (by omega) own3) own3 (by have hh:=HSZ.out; omega))
     clear own3 own2 g3
     go_wp2_with fail
     go_ret
     exact ⟨v3,rfl,HF.out,hb3.out⟩
    ·have hjcap:(cap:Int)=(j:Int):=by omega
     go_wp2_with (at_builtin; refine wpList_append_own _ rfl _ _ 60 rfl wr.heap.size 9 i0 _ 1 16 Tryz.underlying60 hi hz0 hz1 hz2 rfl (by decide) _ 0 [] rfl ⟨rfl,Or.inl ⟨rfl,rfl⟩⟩ ⟨g,0,none⟩ j cap ((l.take j).map encStr) rfl (by simp; omega) ?c1 (one_str _) ?c3 ?c4 ?c5 ?_)
     case c1=>exact row_cells (fun k hk=>by rw [Nat.zero_add,List.getElem_take]; exact HCL.out k (by rw [List.length_take] at hk; omega))
     case c3=>unfold maxLen; omega
     case c4=>omega
     case c5=>exact Nat.le_refl _
     intro v1 w1 own1 g1 _
     have hb1:=hid (below_own (base:=wr.heap.size) (v:=.slice none 0 0) (n:=0) (xs:=[]) (e:=9) (size:=1) ⟨rfl,Or.inl ⟨rfl,rfl⟩⟩ g1 (Nat.le_refl _))
     have hs1:=hb1.out.size
     go_wp2_with (at_builtin; refine wpList_append_own _ rfl _ _ 60 rfl wr.heap.size 9 i0 _ 1 16 Tryz.underlying60 hi hz0 hz1 hz2 rfl (by decide) _ _ _ rfl (own1.alloc _) ⟨w1.heap.size,0,none⟩ 1 1 [.string s] rfl rfl ?d1 ?d2 ?d3 ?d4 ?d5 ?_)
     case d1=>exact World.news_of_block (cs:=#[.string s]) (t:=9) (fr:=(0,0)) (World.alloc_heap_new w1 _)
     case d2=>simp [Value.oneCell']
     case d3=>unfold maxLen; omega
     case d4=>omega
     case d5=>simp; omega
     intro v2 w2 own2 g2 _
     have hb2:=hid (Below.trans hb1.out (Below.trans (Below.mono (below_one w1 _) (by omega)) (below_own (own1.alloc _) g2 (by simp; omega))))
     have hs2:=hb2.out.size
     clear g1 g2 own1
     go_wp2_with (at_builtin; refine wpList_append_own _ rfl _ _ 60 rfl wr.heap.size 9 i0 _ 1 16 Tryz.underlying60 hi hz0 hz1 hz2 rfl (by decide) _ _ _ rfl own2 ⟨g,0,none⟩ (l.length - j) (cap - j) ((l.drop j).map encStr) rfl ?e0 ?e1 (one_str _) ?e3 ?e4 ?e5 ?_)
     case e0=>simp <;> omega
     case e1=>exact fun k u hk=>by rw [List.drop_eq_nil_of_le (by omega)] at hk; simp at hk
     case e3=>unfold maxLen; omega
     case e4=>omega
     case e5=>omega
     intro v3 w3 own3 g3 _
     have hb3:=hid (Below.trans hb2.out (below_own own2 g3 (by omega)))
     have HF:Hid (NRB B w3 v3 (ins s.toList l)):=hid (NRB.of (fin_row HN.out (by omega) own3) own3 (by have hh:=HSZ.out; omega))
     clear own3 own2 g3
     go_wp2_with fail
     go_ret
     exact ⟨v3,rfl,HF.out,hb3.out⟩
theorem rnamesW_any (t:Tm):∀ (h:Hd) (v:Value) (l:List (List UInt8)) (B:Nat) (w:World),B≤w.heap.size→NRB B w v l→l.length + t.nms.length≤1000000→t.In w.heap.size w h →
 Calls Tryz.prog 56 #[v,t.val h] w (WithPostB B (addN t.nms l) w):=by
 induction t using Tm.ind with
 | h t ih =>
   intro h v l B w hB hr hn hin
   have HSZ:=hid hB
   clear hB
   have hfit:=hin.fit
   have hts:=hfit.ts
   clear hfit
   have HIN:=hid hin
   have HIH:=hid ih
   have HR:=hid (NRB.carry hr (below_one w (t.box h)))
   have HN:=hid hn
   obtain ⟨G,hG⟩:∃ G,G=addN t.nms l:=⟨_,rfl⟩
   rw [← hG]
   have HG:=hid hG
   clear hin ih hr hn hG
   unfold Tm.val Tm.vals
   by_cases hs:t.s.size=0
   ·have q:t.s.toList.isEmpty=true:=by rw [Lib.toList_data,List.isEmpty_iff]; exact List.eq_nil_of_length_eq_zero hs
    have e1:t.nms=nmsL t.ts:=by rw [Tm.nms_eq]; unfold oneN; rw [if_pos hs]; rfl
    have HG2:Hid (addN (nmsL (t.ts.drop 0)) l=G):=hid (by rw [HG.out,e1]; rfl)
    have HN2:Hid (l.length + (nmsL (t.ts.drop 0)).length≤1000000):=hid (by have:=HN.out; rw [e1] at this; exact this)
    clear e1 hs HG HN
    go_enter Tryz.func56,Tryz.ntmps56
    go_wp2_with fail
    go_loopw [0,5] (fun v i wr=>NmRelW B w (t.box h) t.ts G v i wr) (fun _ i _=>t.ts.length - (intOf i).toNat)
    case atStart=>exact ⟨0,l,rfl,by omega,HR.out,HN2.out,HG2.out,Kept.start _ _⟩
    case round =>
     obtain ⟨k,lk,rfl,hk,hrk,hnk,hGk,hkept⟩:=hrel
     have HK:=hid hkept
     have HGk:=hid hGk
     have HRk:=hid hrk
     have HNk:=hid hnk
     clear hkept hGk hrk hnk
     obtain ⟨c0,c1,c2,c3,c4⟩:=Tm.cells HK.out.box
     by_cases hlt:k < t.ts.length
     ·obtain ⟨b,off,hao,hat⟩:=HIN.out.kid k hlt
      obtain ⟨hb,hd',⟨k0,k1,k2,k3,k4⟩,hin'⟩:=hat.below HK.out.bel
      rw [hao] at c4
      have HX:=hid (HIH.out _ (List.getElem_mem hlt) hd')
      have HI:=hid (Tm.In.mono HK.out.bel.size _ _ hin')
      have HG3:Hid (addN (nmsL (t.ts.drop (k + 1))) (addN t.ts[k].nms lk)=G):=hid (by rw [← addN_append,← nmsL_drop hlt]; exact HGk.out)
      have HN3:Hid (lk.length + t.ts[k].nms.length≤1000000∧(addN t.ts[k].nms lk).length + (nmsL (t.ts.drop (k + 1))).length≤1000000):=hid (by
       have h1:=HNk.out
       rw [nmsL_drop hlt,List.length_append] at h1
       have h2:=addN_len t.ts[k].nms lk
       constructor <;> omega)
      clear hat hin' hao HGk HNk
      generalize t.ts[k]=x at k0 k1 k2 k3 k4 HX HI HG3 HN3
      unfold Tm.val Tm.vals at HX
      generalize x.nms=xn at HX HG3 HN3
      go_wp2_with fail
      refine (HX.out _ _ _ _ (by have h1:=HSZ.out; have h2:=HK.out.bel.size; omega) HRk.out HN3.out.1 HI.out).mono ?_
      rintro e w5 ⟨v5,rfl,hr5,b5⟩
      have HR5:=hid hr5
      have HK5:=hid (HK.out.step b5)
      clear b5 hr5 k0 k1 k2 k3 k4
      go_wp2_with fail
      go_roundw
      case rel=>exact ⟨k + 1,_,by go_num,by omega,HR5.out,HN3.out.2,HG3.out,HK5.out⟩
      case measure=>simp [intOf]; omega
     ·have HE:Hid (lk=G):=by
       have:=HGk.out
       rw [List.drop_eq_nil_of_le (by omega),nmsL] at this
       exact this
      go_wp2_with fail
      go_ret
      exact ⟨_,rfl,by rw [← HE.out]; exact HRk.out,HK.out.bel⟩
   ·have q:t.s.toList.isEmpty=false:=by
     rw [Lib.toList_data,Bool.eq_false_iff,Ne,List.isEmpty_iff]
     exact fun hh=>hs (show t.s.data.toList.length=0 by rw [hh]; rfl)
    have e1:t.nms=t.s.toList :: nmsL t.ts:=by rw [Tm.nms_eq]; unfold oneN; rw [if_neg hs,← Lib.toList_data]; rfl
    have HG2:Hid (addN (nmsL (t.ts.drop 0)) (ins t.s.toList l)=G):=hid (by rw [HG.out,e1]; rfl)
    have HN2:Hid ((ins t.s.toList l).length + (nmsL (t.ts.drop 0)).length≤1000000):=hid (by
     have h1:=HN.out
     have h2:=ins_len t.s.toList l
     rw [e1,List.length_cons] at h1
     show _ + (nmsL t.ts).length≤_
     omega)
    have HL:Hid (l.length≤1000000):=hid (by have:=HN.out; omega)
    have HKS:=hid (Kept.start w (t.box h))
    obtain ⟨c0,c1,c2,c3,c4⟩:=Tm.cells HKS.out.box
    clear e1 hs HG HN
    go_enter Tryz.func56,Tryz.ntmps56
    go_wp2_with fail
    refine (withW_any l t.s v _ _ (Nat.le_trans HSZ.out (below_one w _).size) HR.out HL.out).mono ?_
    rintro e w1 ⟨v1,rfl,hr1,b1⟩
    have HR1:=hid hr1
    have HK1:=hid (HKS.out.step b1)
    clear b1 c0 c1 c2 c3 c4 hr1 HKS HR
    obtain ⟨c0,c1,c2,c3,c4⟩:=Tm.cells HK1.out.box
    go_wp2_with fail
    clear c0 c1 c2 c3 c4
    go_loopw [0,5] (fun v i wr=>NmRelW B w (t.box h) t.ts G v i wr) (fun _ i _=>t.ts.length - (intOf i).toNat)
    case atStart=>exact ⟨0,_,rfl,by omega,HR1.out,HN2.out,HG2.out,HK1.out⟩
    case round =>
     obtain ⟨k,lk,rfl,hk,hrk,hnk,hGk,hkept⟩:=hrel
     have HK:=hid hkept
     have HGk:=hid hGk
     have HRk:=hid hrk
     have HNk:=hid hnk
     clear hkept hGk hrk hnk
     obtain ⟨c0,c1,c2,c3,c4⟩:=Tm.cells HK.out.box
     by_cases hlt:k < t.ts.length
     ·obtain ⟨b,off,hao,hat⟩:=HIN.out.kid k hlt
      obtain ⟨hb,hd',⟨k0,k1,k2,k3,k4⟩,hin'⟩:=hat.below HK.out.bel
      rw [hao] at c4
      have HX:=hid (HIH.out _ (List.getElem_mem hlt) hd')
      have HI:=hid (Tm.In.mono HK.out.bel.size _ _ hin')
      have HG3:Hid (addN (nmsL (t.ts.drop (k + 1))) (addN t.ts[k].nms lk)=G):=hid (by rw [← addN_append,← nmsL_drop hlt]; exact HGk.out)
      have HN3:Hid (lk.length + t.ts[k].nms.length≤1000000∧(addN t.ts[k].nms lk).length + (nmsL (t.ts.drop (k + 1))).length≤1000000):=hid (by
       have h1:=HNk.out
       rw [nmsL_drop hlt,List.length_append] at h1
       have h2:=addN_len t.ts[k].nms lk
       constructor <;> omega)
      clear hat hin' hao HGk HNk
      generalize t.ts[k]=x at k0 k1 k2 k3 k4 HX HI HG3 HN3
      unfold Tm.val Tm.vals at HX
      generalize x.nms=xn at HX HG3 HN3
      go_wp2_with fail
      refine (HX.out _ _ _ _ (by have h1:=HSZ.out; have h2:=HK.out.bel.size; omega) HRk.out HN3.out.1 HI.out).mono ?_
      rintro e w5 ⟨v5,rfl,hr5,b5⟩
      have HR5:=hid hr5
      have HK5:=hid (HK.out.step b5)
      clear b5 hr5 k0 k1 k2 k3 k4
      go_wp2_with fail
      go_roundw
      case rel=>exact ⟨k + 1,_,by go_num,by omega,HR5.out,HN3.out.2,HG3.out,HK5.out⟩
      case measure=>simp [intOf]; omega
     ·have HE:Hid (lk=G):=by
       have:=HGk.out
       rw [List.drop_eq_nil_of_le (by omega),nmsL] at this
       exact this
      go_wp2_with fail
      go_ret
      exact ⟨_,rfl,by rw [← HE.out]; exact HRk.out,HK.out.bel⟩
theorem RefNamesW_any (t:Tm) (h:Hd) (w:World) (hmay:t.nms.length≤1000000) (hin:t.In w.heap.size w h) :
 Calls Tryz.prog 28 #[t.val h] w (WithPostB w.heap.size (addN t.nms []) w):=by
 have hfew:([]:List (List UInt8)).length + t.nms.length≤1000000:=by simpa using hmay
 have HX:=hid (rnamesW_any t h (.slice none 0 0) [] w.heap.size _ (below_one w (t.box h)).size (Or.inl ⟨rfl,rfl⟩) hfew (carry hin (below_one w (t.box h))))
 generalize addN t.nms []=R at HX ⊢
 unfold Tm.val at HX ⊢
 unfold Tm.box at HX
 dsimp only [Tm.vals] at HX ⊢
 clear hin hfew hmay
 go_enter Tryz.func28,Tryz.ntmps28
 go_wp2_with fail
 refine HX.out.mono ?_
 rintro e w1 ⟨v1,rfl,hr1,b1⟩
 have HB:=hid (Trm.go (below_one w _) b1)
 have HR:=hid hr1
 clear b1 hr1
 go_wp2_with fail
 go_ret
 exact ⟨v1,rfl,HR.out,HB.out⟩
end Go.Proofs.YtmngddomnaaedaaGreat
