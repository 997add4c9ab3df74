/-
 term.Name,battenref03.Name.
-/
import Derived.Lib.Hide
import Derived.Test.YtmngddomnaaedaaGreatQB3
import Derived.BigQuiet
import Derived.Deep.QuietTactic
import Derived.Deep.RegionHeld3
import Derived.IntWalk
open Go.Lib (hid)
set_option maxRecDepth 100000
set_option maxHeartbeats 32000000
namespace Go.Proofs.YtmngddomnaaedaaGreat
open Go.RowKit Go.Shelf Lvl Trm
theorem inName_any (x:Int) (w:World) :
 Calls Tryz.prog 138 #[.int .u8 x] w fun e w'=>e=.returned (.bool (inNameI x))∧w=w':=by
 go_enter Tryz.func138,Tryz.ntmps138
 go_wp2_with fail
 all_goals
  go_ret
  refine ⟨ret_bool ?_,rfl⟩
  unfold inNameI
  rw [Bool.eq_iff_iff]
  simp
  try omega
theorem Trm.nameOk_no {s:ByteArray} (h:s.size=0∨32 < s.size):nameOk s=false:=by
 unfold nameOk
 rcases h with h | h <;> simp [h]
 omega
theorem Trm.all_take_no {l:List UInt8} {k:Nat} (hk:k < l.length) (h:inName l[k]=false):l.all inName=false:=by
 rw [List.all_eq_false]
 exact ⟨l[k],List.getElem_mem hk,by simp [h]⟩
theorem Trm.all_take_yes {l:List UInt8} {k:Nat} (hk:k < l.length) (ht:(l.take k).all inName=true) (h:inName l[k]=true):(l.take (k + 1)).all inName=true:=by
 rw [List.take_succ_eq_append_getElem hk,List.all_append,ht]
 simp [h]
def Trm.NameRel (s:ByteArray) (i:Value):Prop:=∃ k:Nat,i=.int .i64 k∧k≤s.size∧(s.data.toList.take k).all inName=true
theorem Name_any (s:ByteArray) (w:World) (hs:s.size≤9223372036854775807) :
 Calls Tryz.prog 97 #[.string s] w fun e w'=>e=.returned (.bool (nameOk s))∧w=w':=by
 by_cases h0:s.size=0
 ·rw [nameOk_no (Or.inl h0)]
  go_enter Tryz.func97,Tryz.ntmps97
  go_wp2
  go_ret
  exact ⟨rfl,rfl⟩
 ·by_cases h1:32 < s.size
  ·rw [nameOk_no (Or.inr h1)]
   go_enter Tryz.func97,Tryz.ntmps97
   go_wp2
   go_ret
   exact ⟨rfl,rfl⟩
  ·have hok:nameOk s=s.data.toList.all inName:=by unfold nameOk; simp [show 1≤s.size by omega,show s.size≤32 by omega]
   rw [hok]
   obtain ⟨G,hG⟩:∃ G,G=s.data.toList.all inName:=⟨_,rfl⟩
   rw [← hG]
   have HG:=hid hG
   clear hok hG
   have h0':((s.size:Int) == 0)=false:=by simpa using h0
   have h1':(s.size:Int)≤32:=by omega
   go_enter Tryz.func97,Tryz.ntmps97
   go_wp2
   go_loop [14] (fun i=>NameRel s i) (fun i=>s.size - (intOf i).toNat)
   case atStart=>exact ⟨0,rfl,by omega,by simp⟩
   case round =>
    obtain ⟨k,rfl,hk,hall⟩:=hrel
    have HA:=hid hall
    clear hall
    by_cases hlt:k < s.size
    ·have hl:k < s.data.toList.length:=by simpa using hlt
     have hget:s.data.toList[k]=s[k]:=rfl
     cases hin:inName s[k]
     ·have HF:Hid (false=G):=by rw [HG.out,all_take_no hl (by rw [hget]; exact hin)]; rfl
      have hin':inNameI (s[k].toNat:Int)=false:=hin
      have HC:Hid (∀ w,Calls Tryz.prog 138 #[.int .u8 (s[k].toNat:Int)] w fun e w'=>e=.returned (.bool false)∧w=w'):=fun w=>by rw [← hin']; exact inName_any _ w
      clear hin hin' hget
      go_wp2_with fail
      refine (HC.out _).mono ?_
      rintro e w1 ⟨rfl,rfl⟩
      go_wp2_with fail
      go_ret
      exact ⟨ret_bool HF.out,rfl⟩
     ·have HF:=hid (all_take_yes hl HA.out (by rw [hget]; exact hin))
      have hin':inNameI (s[k].toNat:Int)=true:=hin
      have HC:Hid (∀ w,Calls Tryz.prog 138 #[.int .u8 (s[k].toNat:Int)] w fun e w'=>e=.returned (.bool true)∧w=w'):=fun w=>by rw [← hin']; exact inName_any _ w
      clear hin hin' hget
      go_wp2_with fail
      refine (HC.out _).mono ?_
      rintro e w1 ⟨rfl,rfl⟩
      go_wp2_with fail
      go_round
      case rel=>exact ⟨k + 1,by go_num,by omega,HF.out⟩
      case measure=>simp [intOf]; omega
    ·have HE:Hid (true=G):=by
      have:=HA.out
      rw [List.take_of_length_le (by simp; omega)] at this
      rw [HG.out,this]; rfl
     go_wp2_with fail
     go_ret
     exact ⟨ret_bool HE.out,rfl⟩
theorem Trm.inNameI_no {x:Int} (h:¬ ((97≤x∧x≤122)∨(65≤x∧x≤90)∨(48≤x∧x≤57)∨x=95∨x=46∨x=39)):inNameI x=false:=decide_eq_false h
theorem Trm.inNameI_yes {x:Int} (h:(97≤x∧x≤122)∨(65≤x∧x≤90)∨(48≤x∧x≤57)∨x=95∨x=46∨x=39):inNameI x=true:=decide_eq_true h
def Trm.RefRel (s:ByteArray) (i:Value):Prop:=∃ k:Nat,i=.int .i64 k∧k≤s.size∧(s.data.toList.take k).all inName=true
theorem RefName_any (s:ByteArray) (w:World) (hs:s.size≤9223372036854775807) :
 Calls Tryz.prog 127 #[.string s] w fun e w'=>e=.returned (.bool (nameOk s))∧w=w':=by
 obtain ⟨G,hG⟩:∃ G,G=nameOk s:=⟨_,rfl⟩
 rw [← hG]
 have HG:=hid hG
 clear hG
 go_enter Tryz.func127,Tryz.ntmps127
 go_wp2
 go_loop [3] (fun i=>RefRel s i) (fun i=>s.size - (intOf i).toNat)
 case atStart=>exact ⟨0,rfl,by omega,by simp⟩
 case round =>
  obtain ⟨k,rfl,hk,hall⟩:=hrel
  have HA:=hid hall
  clear hall
  by_cases hlt:k < s.size
  ·have hl:k < s.data.toList.length:=by simpa using hlt
   have hget:s.data.toList[k]=s[k]:=rfl
   have HY:Hid (inNameI (s[k].toNat:Int)=true→(s.data.toList.take (k + 1)).all inName=true):=hid (fun hin=>all_take_yes hl HA.out (by rw [hget]; exact hin))
   have HN:Hid (inNameI (s[k].toNat:Int)=false→false=G):=hid (fun hin=>by rw [HG.out,nameOk,all_take_no hl (by rw [hget]; exact hin)]; simp)
   clear hget
   go_wp2_with fail
   all_goals (try simp only [Bool.not_eq_true',Bool.not_eq_false',decide_eq_true_eq,decide_eq_false_iff_not,beq_iff_eq,beq_eq_false_iff_ne,ne_eq] at *)
   all_goals first
    | (have hno:¬ ((97≤(s[k].toNat:Int)∧(s[k].toNat:Int)≤122)∨(65≤(s[k].toNat:Int)∧(s[k].toNat:Int)≤90)∨(48≤(s[k].toNat:Int)∧(s[k].toNat:Int)≤57)∨(s[k].toNat:Int)=95∨(s[k].toNat:Int)=46∨(s[k].toNat:Int)=39):=by omega
       go_ret
       exact ⟨ret_bool (HN.out (inNameI_no hno)),rfl⟩)
    | (have hyes:((97≤(s[k].toNat:Int)∧(s[k].toNat:Int)≤122)∨(65≤(s[k].toNat:Int)∧(s[k].toNat:Int)≤90)∨(48≤(s[k].toNat:Int)∧(s[k].toNat:Int)≤57)∨(s[k].toNat:Int)=95∨(s[k].toNat:Int)=46∨(s[k].toNat:Int)=39):=by omega
       go_round
       case rel=>exact ⟨k + 1,by go_num,by omega,HY.out (inNameI_yes hyes)⟩
       case measure=>simp [intOf]; omega)
  ·have HE:Hid (G=(decide (1≤s.size) && decide (s.size≤32))):=by
    have:=HA.out
    rw [List.take_of_length_le (by simp; omega)] at this
    show _=_
    rw [HG.out,nameOk,this,Bool.and_true]
   go_wp2_with fail
   all_goals
    go_ret
    refine ⟨ret_bool ?_,rfl⟩
    rw [HE.out,Bool.eq_iff_iff]
    simp
    try omega
end Go.Proofs.YtmngddomnaaedaaGreat
namespace Go.Proofs.YtmngddomnaaedaaGreat
open Go.RowKit Go.Shelf Lvl Trm
structure Trm.Kd where
 least:Int
 most:Int
 named:Bool
 top:Int
 terms:Int
 binds:Bool
def Trm.Kd.vals (a:Kd):Array Value:=#[.int .i64 a.least,.int .i64 a.most,.bool a.named,.int .i64 a.top,.int .i64 a.terms,.bool a.binds]
def Trm.Kd.val (a:Kd):Value:=.agg a.vals
def Trm.Kd.box (a:Kd):Obj:=.cells a.vals 211
def Trm.kd (k:Int):Kd :=
 if k=1 then ⟨1,1,false,0,0,false⟩ else if k=2 then ⟨0,0,false,1048576,0,false⟩ else if k=3 then ⟨0,4,true,0,0,false⟩
 else if k=4 then ⟨0,0,false,0,2,false⟩ else if k=5∨k=6 then ⟨0,0,false,0,2,true⟩ else if k=7 then ⟨0,0,false,0,3,true⟩
 else if k=8 then ⟨0,0,true,11,1,false⟩ else ⟨0,0,false,0,0,false⟩
def Trm.isKind (k:Int):Bool:=decide (1≤k∧k≤8)
theorem Trm.Kd.cells {a:Kd} {b:Nat} {w:World} (h:w.heap[b]?=some a.box) :
 w.cell? ⟨b,0,none⟩=some (.int .i64 a.least)∧w.cell? ⟨b,1,none⟩=some (.int .i64 a.most)∧w.cell? ⟨b,2,none⟩=some (.bool a.named)∧w.cell? ⟨b,3,none⟩=some (.int .i64 a.top)∧w.cell? ⟨b,4,none⟩=some (.int .i64 a.terms)∧w.cell? ⟨b,5,none⟩=some (.bool a.binds):=by
 refine ⟨?_,?_,?_,?_,?_,?_⟩ <;> (simp [World.cell?,h,Kd.box,Kd.vals])
theorem kindOf_any (k:Int) (w:World) :
 Calls Tryz.prog 179 #[.int .u8 k] w fun e w'=>e=.returned (.tuple #[(kd k).val,.bool (isKind k)])∧Below w.heap.size w w':=by
 by_cases h:k=1∨k=2∨k=3∨k=4∨k=5∨k=6∨k=7∨k=8
 ·rcases h with rfl | rfl | rfl | rfl | rfl | rfl | rfl | rfl
  all_goals
   go_enter Tryz.func179,Tryz.ntmps179
   go_wp2_with fail
   exact bodyPost_ret (v:=.tuple #[(kd _).val,.bool (isKind _)]) (by simp [results,Tryz.results179,go_sem,kd,Kd.val,Kd.vals,isKind]; try rfl) rfl ⟨rfl,below_one _ _⟩
 ·have h1:k ≠ 1:=fun e=>h (by omega)
  have h2:k ≠ 2:=fun e=>h (by omega)
  have h3:k ≠ 3:=fun e=>h (by omega)
  have h4:k ≠ 4:=fun e=>h (by omega)
  have h5:k ≠ 5:=fun e=>h (by omega)
  have h6:k ≠ 6:=fun e=>h (by omega)
  have h7:k ≠ 7:=fun e=>h (by omega)
  have h8:k ≠ 8:=fun e=>h (by omega)
  have hk:kd k=⟨0,0,false,0,0,false⟩:=by unfold kd; simp [h1,h2,h3,h4,h5,h6,h7,h8]
  have hi:isKind k=false:=by unfold isKind; simp; omega
  rw [hk,hi]
  clear hk hi h
  go_enter Tryz.func179,Tryz.ntmps179
  go_wp2_with fail
  exact bodyPost_ret (v:=.tuple #[(⟨0,0,false,0,0,false⟩:Kd).val,.bool false]) (by simp [results,Tryz.results179,go_sem,Kd.val,Kd.vals]; try rfl) rfl ⟨rfl,below_one _ _⟩
end Go.Proofs.YtmngddomnaaedaaGreat
namespace Go.Proofs.YtmngddomnaaedaaGreat
open Go.RowKit Go.Shelf Lvl Trm
theorem Deep_any (t:Tm) (h:Hd) (w:World) (hin:t.In w.heap.size w h) :
 Calls Tryz.prog 13 #[t.val h] w fun e w'=>e=.returned (.bool t.deep)∧Below w.heap.size w w':=by
 have HX:=hid (deep_any t h 131072 8192)
 have HI:=hid (Tm.In.mono (B':=(w.alloc (t.box h)).heap.size) (by simp) _ _ (Tm.In.below (below_one w (t.box h)) _ _ hin))
 have HL:=hid (t.left_ge badDeep 131072 8192)
 obtain ⟨X,hX⟩:∃ X,X=t.left badDeep 131072 8192:=⟨_,rfl⟩
 have hd:t.deep=decide (X < 0):=by rw [hX]; rfl
 rw [← hX] at HX HL
 rw [hd]
 clear hX hd hin
 unfold Tm.val Tm.vals at HX ⊢
 go_enter Tryz.func13,Tryz.ntmps13
 go_wp2_with fail
 refine (HX.out _ (by decide) (by decide) (by decide) (by decide) HI.out).mono ?_
 rintro e w1 ⟨rfl,b1⟩
 have HB:=hid ((below_one w (t.box h)).trans (b1.mono (by simp)))
 have hX:=HL.out
 clear b1 HL HX HI
 go_wp2_with fail
 go_ret
 exact ⟨rfl,HB.out⟩
theorem kids_any (k:Int) (w:World) :
 Calls Tryz.prog 125 #[.int .u8 k] w fun e w'=>e=.returned (.int .i64 (kids k))∧w=w':=by
 by_cases h:k=1∨k=2∨k=3∨k=4∨k=5∨k=6∨k=7∨k=8
 ·rcases h with rfl | rfl | rfl | rfl | rfl | rfl | rfl | rfl
  all_goals
   go_enter Tryz.func125,Tryz.ntmps125
   go_wp2
   go_ret
   exact ⟨rfl,rfl⟩
 ·have h1:k ≠ 1:=fun e=>h (by omega)
  have h2:k ≠ 2:=fun e=>h (by omega)
  have h3:k ≠ 3:=fun e=>h (by omega)
  have h4:k ≠ 4:=fun e=>h (by omega)
  have h5:k ≠ 5:=fun e=>h (by omega)
  have h6:k ≠ 6:=fun e=>h (by omega)
  have h7:k ≠ 7:=fun e=>h (by omega)
  have h8:k ≠ 8:=fun e=>h (by omega)
  have hk:kids k=-1:=by unfold kids; simp [h1,h2,h3,h4,h5,h6,h7,h8]
  rw [hk]
  clear hk h
  go_enter Tryz.func125,Tryz.ntmps125
  go_wp2
  go_ret
  exact ⟨rfl,rfl⟩
theorem Trm.Tm.size_eq (t:Tm):t.size=1 + sizeL t.ts:=by cases t; rw [Tm.size]; rfl
theorem Trm.sizeL_pos:∀ ts:List Tm,(∀ x ∈ ts,1≤x.size)→(ts.length:Int)≤sizeL ts
 | [],_=>by rw [sizeL]; simp
 | t :: r,h=>by
   have h1:=h t (by simp)
   have h2:=sizeL_pos r (fun x hx=>h x (by simp [hx]))
   rw [sizeL]
   simp
   omega
theorem Trm.Tm.size_pos (t:Tm):1≤t.size:=by
 induction t using Tm.ind with
 | h t ih=>have:=sizeL_pos t.ts ih; rw [Tm.size_eq]; omega
theorem Trm.sizeL_ge (ts:List Tm):0≤sizeL ts:=by have:=sizeL_pos ts (fun x _=>x.size_pos); omega
theorem Trm.sizeL_drop {ts:List Tm} {k:Nat} (h:k < ts.length):sizeL (ts.drop k)=ts[k].size + sizeL (ts.drop (k + 1)):=by
 rw [drop_get h,sizeL]
def Trm.SizeRel (w:World) (o:Obj) (ts:List Tm) (G:Int) (v i:Value) (wr:World):Prop :=
 ∃ (k:Nat) (L:Int),v=.int .i64 L∧i=.int .i64 k∧k≤ts.length∧1≤L∧L + sizeL (ts.drop k)=G∧Kept w wr o
theorem Size_any (t:Tm):∀ (h:Hd) (w:World),t.size≤1000000000000→t.In w.heap.size w h →
 Calls Tryz.prog 15 #[t.val h] w fun e w'=>e=.returned (.int .i64 t.size)∧Below w.heap.size w w':=by
 induction t using Tm.ind with
 | h t ih =>
   intro h w hsz hin
   have hfit:=hin.fit
   have hts:=hfit.ts
   clear hfit
   have HIN:=hid hin
   have HIH:=hid ih
   clear hin ih
   obtain ⟨G,hG⟩:∃ G,G=t.size:=⟨_,rfl⟩
   rw [← hG] at hsz ⊢
   have HG:Hid (1 + sizeL (t.ts.drop 0)=G):=by rw [hG,Tm.size_eq]; rfl
   clear hG
   unfold Tm.val Tm.vals
   go_enter Tryz.func15,Tryz.ntmps15
   go_wp2_with fail
   go_loopw [3,4] (fun v i wr=>SizeRel w (t.box h) t.ts G v i wr) (fun _ i _=>t.ts.length - (intOf i).toNat)
   case atStart=>exact ⟨0,1,rfl,rfl,by omega,by omega,HG.out,Kept.start _ _⟩
   case round =>
    obtain ⟨k,L,rfl,rfl,hk,hL0,hGk,hkept⟩:=hrel
    have HK:=hid hkept
    have HGk:=hid hGk
    clear hkept hGk
    obtain ⟨c0,c1,c2,c3,c4⟩:=Tm.cells HK.out.box
    by_cases hlt:k < t.ts.length
    ·obtain ⟨b,off,hao,hat⟩:=HIN.out.kid k hlt
     obtain ⟨hb,hd',⟨k0,k1,k2,k3,k4⟩,hin'⟩:=hat.below HK.out.bel
     rw [hao] at c4
     have hd:=sizeL_drop hlt
     have hr:=sizeL_ge (t.ts.drop (k + 1))
     have hp:=t.ts[k].size_pos
     have hGk':=HGk.out
     have HX:=hid (HIH.out _ (List.getElem_mem hlt) hd')
     have HI:=hid (Tm.In.mono HK.out.bel.size _ _ hin')
     have HGG:Hid (L + t.ts[k].size + sizeL (t.ts.drop (k + 1))=G):=by show _=_; omega
     have hX1:t.ts[k].size≤1000000000000:=by omega
     have hLX:L + t.ts[k].size≤1000000000000:=by omega
     clear hat hin' hao HGk hGk' hd hr
     generalize t.ts[k]=x at k0 k1 k2 k3 k4 HX HI HGG hX1 hLX hp
     unfold Tm.val Tm.vals at HX
     obtain ⟨X,hX⟩:∃ X,X=x.size:=⟨_,rfl⟩
     rw [← hX] at HX HGG hX1 hLX hp
     clear hX
     go_wp2_with fail
     refine (HX.out _ hX1 HI.out).mono ?_
     rintro e w1 ⟨rfl,b1⟩
     have HK1:=hid (HK.out.step b1)
     clear b1 k0 k1 k2 k3 k4
     go_wp2_with fail
     go_roundw
     case rel=>exact ⟨k + 1,L + X,rfl,by go_num,by omega,by omega,HGG.out,HK1.out⟩
     case measure=>simp [intOf]; omega
    ·have HE:Hid (L=G):=by
      have:=HGk.out
      rw [List.drop_eq_nil_of_le (by omega),sizeL] at this
      show _=_
      omega
     go_wp2_with fail
     go_ret
     exact ⟨ret_int HE.out,HK.out.bel⟩
end Go.Proofs.YtmngddomnaaedaaGreat
namespace Go.Proofs.YtmngddomnaaedaaGreat
open Go.RowKit Go.Shelf Lvl Trm
structure Trm.Ran (m:Nat) (w w':World):Prop where
 os:w'.os=w.os
 tape:w'.tape=w.tape
 output:w'.output=w.output
 size:w.heap.size≤w'.heap.size
 block:∀ k,k < w.heap.size→k ≠ m→w'.heap[k]?=w.heap[k]?
theorem Trm.Ran.refl (m:Nat) (w:World):Ran m w w:=⟨rfl,rfl,rfl,Nat.le_refl _,fun _ _ _=>rfl⟩
theorem Trm.Ran.trans {m:Nat} {a b c:World} (h:Ran m a b) (k:Ran m b c):Ran m a c :=
 ⟨k.os.trans h.os,k.tape.trans h.tape,k.output.trans h.output,Nat.le_trans h.size k.size,fun i hi hm=>(k.block i (Nat.lt_of_lt_of_le hi h.size) hm).trans (h.block i hi hm)⟩
theorem Trm.Ran.of_below {m:Nat} {w w':World} (h:Below w.heap.size w w'):Ran m w w':=⟨h.os,h.tape,h.output,h.size,fun k hk _=>h.block k hk⟩
theorem Trm.Ran.below {m B:Nat} {w w':World} (h:Ran m w w') (hm:B≤m) (hB:B≤w.heap.size):Below B w w' :=
 ⟨h.os,h.tape,h.output,h.size,fun k hk=>h.block k (by omega) (by omega)⟩
theorem Trm.Ran.keep {m:Nat} {w w':World} (h:Ran m w w') {k:Nat} {o:Obj} (hk:w.heap[k]?=some o) (hm:k ≠ m):w'.heap[k]?=some o:=by
 rw [h.block k (Array.getElem?_eq_some_iff.1 hk).1 hm]; exact hk
theorem Trm.Ran.cell {m:Nat} {w w':World} (h:Ran m w w') {p:Addr} (hp:p.block < w.heap.size) (hm:p.block ≠ m):w'.cell? p=w.cell? p:=World.cell?_of_block (h.block p.block hp hm)
theorem Trm.Ran.more {m:Nat} {w w':World} (h:Ran m w w') (o:Obj):Ran m w (w'.alloc o):=h.trans (Ran.of_below (below_one _ _))
theorem Trm.Ran.drewN {m:Nat} {w w':World} (h:Ran m w w') (n:Nat):Ran m w (w'.drewN n):=h.trans (Ran.of_below (by refine ⟨?_,?_,?_,?_,?_⟩ <;> simp [World.drewN]))
theorem Trm.kd_binds (k:Int):(kd k).binds=binds k:=by
 unfold kd binds
 by_cases h:k=1∨k=2∨k=3∨k=4∨k=5∨k=6∨k=7∨k=8
 ·rcases h with rfl | rfl | rfl | rfl | rfl | rfl | rfl | rfl <;> rfl
 ·rw [if_neg (by omega),if_neg (by omega),if_neg (by omega),if_neg (by omega),if_neg (by omega),if_neg (by omega),if_neg (by omega)]
  simp; omega
theorem Trm.kd_terms (k:Int) (h:binds k=true):(kd k).terms=kids k:=by
 unfold binds at h
 simp at h
 rcases h with rfl | rfl | rfl <;> rfl
theorem Trm.kd_few (k:Int):0≤(kd k).terms∧(kd k).terms≤3:=by
 unfold kd
 by_cases h:k=1∨k=2∨k=3∨k=4∨k=5∨k=6∨k=7∨k=8
 ·rcases h with rfl | rfl | rfl | rfl | rfl | rfl | rfl | rfl <;> decide
 ·rw [if_neg (by omega),if_neg (by omega),if_neg (by omega),if_neg (by omega),if_neg (by omega),if_neg (by omega),if_neg (by omega)]
  decide
abbrev Trm.fnv (f:FuncId) (C:Nat):Value:=.func (.func f) #[] #[.pointer (some ⟨C,0,none⟩)]
def Trm.RAt (B m:Nat) (w:World) (b o:Nat) (t:Tm):Prop:=b ≠ m∧b < w.heap.size∧∃ h,TCells w b o t h∧t.In B w h
theorem Trm.TAt.root {B m:Nat} {w:World} {b o:Nat} {t:Tm} (h:TAt B w b o t) (hm:B≤m) (hB:B≤w.heap.size):RAt B m w b o t:=by
 obtain ⟨hb,hd,hc,hi⟩:=h
 exact ⟨by omega,by omega,hd,hc,hi⟩
theorem Trm.TCells.ran {m:Nat} {w w1:World} {b o:Nat} {t:Tm} {h:Hd} (c:TCells w b o t h) (g:Ran m w w1) (hb:b < w.heap.size) (hm:b ≠ m):TCells w1 b o t h :=
 ⟨(g.cell (p:=⟨b,_,none⟩) hb hm).trans c.c0,(g.cell (p:=⟨b,_,none⟩) hb hm).trans c.c1,(g.cell (p:=⟨b,_,none⟩) hb hm).trans c.c2,(g.cell (p:=⟨b,_,none⟩) hb hm).trans c.c3,(g.cell (p:=⟨b,_,none⟩) hb hm).trans c.c4⟩
theorem Trm.RAt.ran {B m:Nat} {w w1:World} {b o:Nat} {t:Tm} (h:RAt B m w b o t) (g:Ran m w w1) (hm:B≤m) (hB:B≤w.heap.size):RAt B m w1 b o t:=by
 obtain ⟨hbm,hb,hd,hc,hi⟩:=h
 exact ⟨hbm,by have:=g.size; omega,hd,hc.ran g hb hbm,Tm.In.below (g.below hm hB) _ _ hi⟩
structure Trm.Sees {σ:Type} (B m C:Nat) (f:FuncId) (see:σ→Tm→Int→Int→σ × Bool) (Inv:σ→World→Prop) (Ok:Tm→Int→Prop) (Good:σ→Prop):Prop where
 calls:∀ st t b o d u w,Good st→Inv st w→Ok t d→0≤u→u≤d→RAt B m w b o t→B≤w.heap.size →
  Calls Tryz.prog f #[.pointer (some ⟨b,o,none⟩),.int .i64 d,.int .i64 u,.pointer (some ⟨C,0,none⟩)] w fun e w'=>e=.returned (.bool (see st t d u).2)∧Inv (see st t d u).1 w'∧Ran m w w'
 good:∀ st t d u,Good st→Ok t d→(see st t d u).2=true→Good (see st t d u).1
 bound:∀ t d,Ok t d→0≤d∧d≤1000000000000000
 down:∀ st t d u,Ok t d→(see st t d u).2=true→∀ x ∈ t.ts,Ok x (d + 1)
 keep:∀ st w w',Inv st w→Below w.heap.size w w'→Inv st w'
 low:B≤m
 enter:∀ (args:Array Value) (w:World),Sem.run Tryz.prog (callFunc f args) w=.ok (.enter f args) w
mutual
theorem Trm.walk_good {σ:Type} {B m C:Nat} {f:FuncId} {see:σ→Tm→Int→Int→σ × Bool} {Inv:σ→World→Prop} {Ok:Tm→Int→Prop} {Good:σ→Prop} (S:Sees B m C f see Inv Ok Good) :
 ∀ (t:Tm) (st:σ) (d u:Int),Good st→Ok t d→(t.walk see st d u).2=true→Good (t.walk see st d u).1
 | .mk k n s ls ts,st,d,u,hg,ho,h=>by
   rw [Tm.walk] at h ⊢
   split at h
   ·rename_i hs
    rw [if_pos hs]
    exact Trm.walkL_good S k ts 0 _ (d + 1) u (S.good _ _ _ _ hg ho hs) (fun x hx=>S.down _ _ _ _ ho hs x hx) h
   ·cases h
theorem Trm.walkL_good {σ:Type} {B m C:Nat} {f:FuncId} {see:σ→Tm→Int→Int→σ × Bool} {Inv:σ→World→Prop} {Ok:Tm→Int→Prop} {Good:σ→Prop} (S:Sees B m C f see Inv Ok Good) (k:Int) :
 ∀ (ts:List Tm) (i:Nat) (st:σ) (d u:Int),Good st→(∀ x ∈ ts,Ok x d)→(walkL see k ts i st d u).2=true→Good (walkL see k ts i st d u).1
 | [],i,st,d,u,hg,_,_=>by rw [walkL]; exact hg
 | t :: r,i,st,d,u,hg,ho,h=>by
   rw [walkL] at h ⊢
   split at h
   ·rename_i hs
    rw [if_pos hs]
    exact Trm.walkL_good S k r (i + 1) _ d _ (Trm.walk_good S t st d _ hg (ho t (by simp)) hs) (fun x hx=>ho x (by simp [hx])) h
   ·cases h
end
def Trm.WalkRel {σ:Type} (see:σ→Tm→Int→Int→σ × Bool) (Inv:σ→World→Prop) (Good:σ→Prop) (m A:Nat) (w0:World) (bx:Obj) (t:Tm) (d u:Int) (G:σ × Bool) (vi vu:Value) (wr:World):Prop :=
 ∃ (k:Nat) (st:σ) (u':Int),vi=.int .i64 k∧vu=.int .i64 u'∧k≤t.ts.length∧(u'=u∨(u'=u + 1∧kids t.k - 1 < k))∧walkL see t.k (t.ts.drop k) k st (d + 1) u'=G∧Good st∧Inv st wr∧Ran m w0 wr∧wr.heap[A]?=some bx
theorem Trm.TCells.of {w w1:World} {b o:Nat} {t:Tm} {h:Hd} (c:TCells w b o t h) {B:Nat} (g:Below B w w1) (hb:b < B):TCells w1 b o t h:=c.below g hb
theorem Trm.walk_fin {σ:Type} {Inv:σ→World→Prop} {m:Nat} {st:σ} {r:Bool} {R:σ × Bool} {w w':World} (h:(st,r)=R) (hi:Inv st w') (hr:Ran m w w') :
 Ending.returned (.bool r)=Ending.returned (.bool R.2)∧Inv R.1 w'∧Ran m w w':=by subst h; exact ⟨rfl,hi,hr⟩
theorem visit_any {σ:Type} {B m C Bs Bv:Nat} {f:FuncId} {see:σ→Tm→Int→Int→σ × Bool} {Inv:σ→World→Prop} {Ok:Tm→Int→Prop} {Good:σ→Prop} (S:Sees B m C f see Inv Ok Good) (hs:Bs ≠ m) (hv:Bv ≠ m) (t:Tm) :
 ∀ (st:σ) (b o:Nat) (d u:Int) (w:World),Good st→Inv st w→Ok t d→0≤u→u≤d→RAt B m w b o t→B≤w.heap.size→m < w.heap.size →
   w.heap[Bs]?=some (.cells #[fnv f C] 190)→w.heap[Bv]?=some (.cells #[.func (.func 178) #[] #[.pointer (some ⟨Bs,0,none⟩),.pointer (some ⟨Bv,0,none⟩)]] 190) →
   Calls Tryz.prog 178 #[.pointer (some ⟨b,o,none⟩),.int .i64 d,.int .i64 u,.pointer (some ⟨Bs,0,none⟩),.pointer (some ⟨Bv,0,none⟩)] w fun e w'=>e=.returned (.bool (t.walk see st d u).2)∧Inv (t.walk see st d u).1 w'∧Ran m w w':=by
 induction t using Tm.ind with
 | h t ih =>
   intro st b o d u w hgood hinv hok hu0 hud hat hB hm hbs hbv
   have HIH:=hid ih
   have HS:=hid S
   clear ih
   obtain ⟨hd0,hd1⟩:=S.bound t d hok
   have HC:=hid (S.calls st t b o d u w hgood hinv hok hu0 hud hat hB)
   have HG:=hid (S.good st t d u hgood hok)
   have HD:=hid (S.down st t d u hok)
   obtain ⟨R,hR⟩:∃ R,R=t.walk see st d u:=⟨_,rfl⟩
   rw [← hR]
   rw [Tm.walk_eq] at hR
   obtain ⟨T,hT⟩:∃ T,T=see st t d u:=⟨_,rfl⟩
   rw [← hT] at hR HC HG HD
   obtain ⟨st1,r1⟩:=T
   dsimp only at hR HC HG HD
   have hent:=S.enter
   clear hT S hinv hgood hok
   have hbs0:=one_cell hbs
   have hbv0:=one_cell hbv
   have HBS:=hid hbs
   have HBV:=hid hbv
   obtain ⟨hbm,hb,h,hc0,hin0⟩:=hat
   have hts:=hin0.fit.ts
   have HIN:=hid hin0
   clear hbs hbv hin0
   cases r1
   ·have hR':R=(st1,false):=by rw [hR]; simp
    clear hR
    subst hR'
    go_enter Tryz.func178,Tryz.ntmps178
    go_wp2_with fail
    refine HC.out.mono ?_
    rintro e w1 ⟨rfl,i1,g1⟩
    clear hbs0 hbv0
    have HI:=hid i1
    have HR1:=hid g1
    clear i1 g1
    go_wp2_with fail
    go_ret
    exact ⟨rfl,HI.out,HR1.out⟩
   ·have hR':walkL see t.k (t.ts.drop 0) 0 st1 (d + 1) u=R:=by rw [hR]; simp
    have HR:=hid hR'
    clear hR hR'
    have HB0:=hid hc0
    clear hc0
    go_enter Tryz.func178,Tryz.ntmps178
    go_wp2_with fail
    refine HC.out.mono ?_
    rintro e w1 ⟨rfl,i1,g1⟩
    clear hbs0 hbv0
    have hsz:=g1.size
    obtain ⟨c0,c1,c2,c3,c4⟩:=HB0.out.ran g1 hb hbm
    have HI:=hid i1
    have HR1:=hid g1
    clear i1 g1
    go_wp2_with fail
    refine (kindOf_any t.k _).mono ?_
    rintro e w2 ⟨rfl,b2⟩
    have hsz2:=b2.size
    clear c0 c1 c2 c3 c4
    obtain ⟨c0,c1,c2,c3,c4⟩:=HB0.out.ran (HR1.out.trans (Ran.of_below b2)) hb hbm
    have HI2:=hid (HS.out.keep _ _ _ HI.out (b2.trans ((below_one w2 (kd t.k).box).mono hsz2)))
    have HR2:=hid ((HR1.out.trans (Ran.of_below b2)).more (kd t.k).box)
    have HAX0:=hid (World.alloc_heap_new w2 (kd t.k).box)
    have HBD:=hid (kd_binds t.k)
    have HTR:=hid (kd_terms t.k)
    have hfew:=kd_few t.k
    have hG2:=hid (HG.out (by trivial))
    unfold Kd.box at HI2 HR2 HAX0
    dsimp only [Kd.val,Kd.vals] at HI2 HR2 HAX0 ⊢
    generalize kd t.k=a at HI2 HR2 HAX0 HBD HTR hfew ⊢
    have hAm:w2.heap.size ≠ m:=by omega
    have hb2:b < w2.heap.size:=by omega
    clear b2
    go_wp2_with fail
    clear c0 c1 c2 c3 c4
    go_loopw [31,2] (fun vi vu wr=>WalkRel see Inv Good m w2.heap.size w a.box t d u R vi vu wr) (fun vi _ _=>t.ts.length - (intOf vi).toNat)
    case atStart=>exact ⟨0,st1,u,rfl,rfl,by omega,Or.inl rfl,HR.out,hG2.out,HI2.out,HR2.out,HAX0.out⟩
    case round =>
     clear HI2 HR2 HAX0 hG2
     obtain ⟨k,st',u',rfl,rfl,hk,hu',hGk,hgood',hI',hR',hAX⟩:=hrel
     have HGk:=hid hGk
     have HI':=hid hI'
     have HR':=hid hR'
     have HAX:=hid hAX
     have HUP:=hid hu'
     obtain ⟨a0,a1,a2,a3,a4,a5⟩:=Kd.cells hAX
     have hszr:=hR'.size
     have hbel:=hR'.below HS.out.low hB
     obtain ⟨c0,c1,c2,c3,c4⟩:=HB0.out.ran HR'.out hb hbm
     clear hGk hI' hR' hAX hu'
     by_cases hlt:k < t.ts.length
     ·have hbv0:=one_cell (HR'.out.keep HBV.out hv)
      have z1:Bv < wr.heap.size:=World.block_lt_of_cell? wr _ hbv0
      have z2:b < wr.heap.size:=by omega
      have z3:b ≠ m:=hbm
      obtain ⟨b',off',hao,hat'⟩:=(Tm.In.below hbel _ _ HIN.out).kid k hlt
      rw [hao] at c4
      have HAT':=hid hat'
      clear hao hat' hbel
      cases hbb:a.binds
      ·have hun:under t.k k u'=u':=by unfold under; rw [if_neg]; rw [← HBD.out,hbb]; simp
       have HU:Hid (u'=u∨(u'=u + 1∧kids t.k - 1 < ((k + 1:Nat):Int))):=hid (by have:=HUP.out; omega)
       rw [hbb] at a5
       have hup:=HUP.out
       have HBB:=hid hbb
       clear hbb
       have hu2:0≤u'∧u'≤d + 1:=by omega
       clear hup
       obtain ⟨T2,hT2⟩:∃ T2,T2=t.ts[k].walk see st' (d + 1) (u'):=⟨_,rfl⟩
       have HW:Hid ((if T2.2=true then walkL see t.k (t.ts.drop (k + 1)) (k + 1) T2.1 (d + 1) (u') else (T2.1,false))=R):=hid (by
        have h0:=HGk.out
        rw [drop_get hlt,walkL,hun,← hT2] at h0
        exact h0)
       have HGD:Hid (T2.2=true→Good T2.1):=hid (fun hh=>by
        rw [hT2] at hh ⊢
        exact walk_good HS.out _ _ _ _ hgood' (HD.out (by trivial) _ (List.getElem_mem hlt)) hh)
       have HZ:Hid (∀ W,Below wr.heap.size wr W→Calls Tryz.prog 178 #[.pointer (some ⟨b',off' + k * 5,none⟩),.int .i64 (d + 1),.int .i64 (u'),.pointer (some ⟨Bs,0,none⟩),.pointer (some ⟨Bv,0,none⟩)] W fun e w'=>e=.returned (.bool T2.2)∧Inv T2.1 w'∧Ran m W w'):=hid (fun W hW=>by
        rw [hT2]
        exact HIH.out _ (List.getElem_mem hlt) st' b' (off' + k * 5) (d + 1) (u') W hgood' (HS.out.keep _ _ _ HI'.out hW) (HD.out (by trivial) _ (List.getElem_mem hlt)) hu2.1 hu2.2 ((HAT'.out.below (hW.mono (by have:=HR'.out.size; omega))).root HS.out.low (by have:=HR'.out.size; have:=hW.size; omega)) (by have:=HR'.out.size; have:=hW.size; omega) (by have:=HR'.out.size; have:=hW.size; omega) (Lvl.keep hW (HR'.out.keep HBS.out hs)) (Lvl.keep hW (HR'.out.keep HBV.out hv)))
       obtain ⟨st2,r2⟩:=T2
       dsimp only at HW HGD HZ
       clear hT2 hun
       cases r2
       ·have HW1:Hid ((st2,false)=R):=hid (by have h0:=HW.out; simpa using h0)
        clear HW HGD
        go_wp2_with fail
        have hwr:IntKind.i64.wrap (d + 1)=d + 1:=IntWalk.i64_in _ (by omega)
        go_region_held3 (fun w'=>w'.cell? ⟨Bv,0,none⟩=some (.func (.func 178) #[] #[.pointer (some ⟨Bs,0,none⟩),.pointer (some ⟨Bv,0,none⟩)])∧w'.cell? ⟨b,o + 4,none⟩=some (.slice (some ⟨b',off',none⟩) t.ts.length h.tc))
         (go_keep)
         ((go_at_call 178; (with_reducible refine (HZ.out _ ?_).mono ?_); exact (Below.refl _ _).drew; rintro e w3 ⟨rfl,i3,g3⟩; have q1:=(g3.cell (p:=⟨Bv,0,none⟩) z1 hv).trans hbv0; have q2:=(g3.cell (p:=⟨b,o + 4,none⟩) z2 z3).trans c4))
        have HI3:=hid i3
        have HR3:=hid (HR'.out.trans ((Ran.of_below (Below.refl _ _).drew).trans g3))
        clear i3 g3 q1 q2 hwr
        go_wp2_with fail
        go_ret
        exact walk_fin HW1.out HI3.out HR3.out
       ·have HW1:Hid (walkL see t.k (t.ts.drop (k + 1)) (k + 1) st2 (d + 1) (u')=R):=hid (by have h0:=HW.out; simpa using h0)
        have HG2:=hid (HGD.out rfl)
        clear HW HGD
        go_wp2_with fail
        have hwr:IntKind.i64.wrap (d + 1)=d + 1:=IntWalk.i64_in _ (by omega)
        go_region_held3 (fun w'=>w'.cell? ⟨Bv,0,none⟩=some (.func (.func 178) #[] #[.pointer (some ⟨Bs,0,none⟩),.pointer (some ⟨Bv,0,none⟩)])∧w'.cell? ⟨b,o + 4,none⟩=some (.slice (some ⟨b',off',none⟩) t.ts.length h.tc))
         (go_keep)
         ((go_at_call 178; (with_reducible refine (HZ.out _ ?_).mono ?_); exact (Below.refl _ _).drew; rintro e w3 ⟨rfl,i3,g3⟩; have q1:=(g3.cell (p:=⟨Bv,0,none⟩) z1 hv).trans hbv0; have q2:=(g3.cell (p:=⟨b,o + 4,none⟩) z2 z3).trans c4))
        have HI3:=hid i3
        have HR3:=hid (HR'.out.trans ((Ran.of_below (Below.refl _ _).drew).trans g3))
        have HA3:=hid (((Ran.of_below (Below.refl _ _).drew).trans g3).keep HAX.out hAm)
        clear i3 g3 q1 q2 hwr
        go_wp2_with fail
        go_roundw
        case rel=>exact ⟨k + 1,st2,u',by go_num,rfl,by omega,HU.out,HW1.out,HG2.out,HI3.out,HR3.out,HA3.out⟩
        case measure=>simp [intOf]; omega
      ·have hbt:binds t.k=true:=by rw [← HBD.out,hbb]
       have htm:a.terms=kids t.k:=HTR.out hbt
       rw [hbb] at a5
       have HBB:=hid hbb
       clear hbb
       by_cases hlast:(k:Int)=a.terms - 1
       ·have hun:under t.k k u'=u' + 1:=by unfold under; rw [if_pos ⟨hbt,by omega⟩]
        have hup:u'=u:=by have:=HUP.out; omega
        have HU:Hid (u' + 1=u∨(u' + 1=u + 1∧kids t.k - 1 < ((k + 1:Nat):Int))):=hid (by omega)
        have hq:((k:Int) == a.terms - 1)=true:=by simpa using hlast
        have hu2:0≤u' + 1∧u' + 1≤d + 1:=by omega
        clear hup hlast htm hbt
        obtain ⟨T2,hT2⟩:∃ T2,T2=t.ts[k].walk see st' (d + 1) (u' + 1):=⟨_,rfl⟩
        have HW:Hid ((if T2.2=true then walkL see t.k (t.ts.drop (k + 1)) (k + 1) T2.1 (d + 1) (u' + 1) else (T2.1,false))=R):=hid (by
         have h0:=HGk.out
         rw [drop_get hlt,walkL,hun,← hT2] at h0
         exact h0)
        have HGD:Hid (T2.2=true→Good T2.1):=hid (fun hh=>by
         rw [hT2] at hh ⊢
         exact walk_good HS.out _ _ _ _ hgood' (HD.out (by trivial) _ (List.getElem_mem hlt)) hh)
        have HZ:Hid (∀ W,Below wr.heap.size wr W→Calls Tryz.prog 178 #[.pointer (some ⟨b',off' + k * 5,none⟩),.int .i64 (d + 1),.int .i64 (u' + 1),.pointer (some ⟨Bs,0,none⟩),.pointer (some ⟨Bv,0,none⟩)] W fun e w'=>e=.returned (.bool T2.2)∧Inv T2.1 w'∧Ran m W w'):=hid (fun W hW=>by
         rw [hT2]
         exact HIH.out _ (List.getElem_mem hlt) st' b' (off' + k * 5) (d + 1) (u' + 1) W hgood' (HS.out.keep _ _ _ HI'.out hW) (HD.out (by trivial) _ (List.getElem_mem hlt)) hu2.1 hu2.2 ((HAT'.out.below (hW.mono (by have:=HR'.out.size; omega))).root HS.out.low (by have:=HR'.out.size; have:=hW.size; omega)) (by have:=HR'.out.size; have:=hW.size; omega) (by have:=HR'.out.size; have:=hW.size; omega) (Lvl.keep hW (HR'.out.keep HBS.out hs)) (Lvl.keep hW (HR'.out.keep HBV.out hv)))
        obtain ⟨st2,r2⟩:=T2
        dsimp only at HW HGD HZ
        clear hT2 hun
        cases r2
        ·have HW1:Hid ((st2,false)=R):=hid (by have h0:=HW.out; simpa using h0)
         clear HW HGD
         go_wp2_with fail
         have hwr:IntKind.i64.wrap (d + 1)=d + 1:=IntWalk.i64_in _ (by omega)
         go_region_held3 (fun w'=>w'.cell? ⟨Bv,0,none⟩=some (.func (.func 178) #[] #[.pointer (some ⟨Bs,0,none⟩),.pointer (some ⟨Bv,0,none⟩)])∧w'.cell? ⟨b,o + 4,none⟩=some (.slice (some ⟨b',off',none⟩) t.ts.length h.tc))
          (go_keep)
          ((go_at_call 178; (with_reducible refine (HZ.out _ ?_).mono ?_); exact (Below.refl _ _).drew; rintro e w3 ⟨rfl,i3,g3⟩; have q1:=(g3.cell (p:=⟨Bv,0,none⟩) z1 hv).trans hbv0; have q2:=(g3.cell (p:=⟨b,o + 4,none⟩) z2 z3).trans c4))
         have HI3:=hid i3
         have HR3:=hid (HR'.out.trans ((Ran.of_below (Below.refl _ _).drew).trans g3))
         clear i3 g3 q1 q2 hwr
         go_wp2_with fail
         go_ret
         exact walk_fin HW1.out HI3.out HR3.out
        ·have HW1:Hid (walkL see t.k (t.ts.drop (k + 1)) (k + 1) st2 (d + 1) (u' + 1)=R):=hid (by have h0:=HW.out; simpa using h0)
         have HG2:=hid (HGD.out rfl)
         clear HW HGD
         go_wp2_with fail
         have hwr:IntKind.i64.wrap (d + 1)=d + 1:=IntWalk.i64_in _ (by omega)
         go_region_held3 (fun w'=>w'.cell? ⟨Bv,0,none⟩=some (.func (.func 178) #[] #[.pointer (some ⟨Bs,0,none⟩),.pointer (some ⟨Bv,0,none⟩)])∧w'.cell? ⟨b,o + 4,none⟩=some (.slice (some ⟨b',off',none⟩) t.ts.length h.tc))
          (go_keep)
          ((go_at_call 178; (with_reducible refine (HZ.out _ ?_).mono ?_); exact (Below.refl _ _).drew; rintro e w3 ⟨rfl,i3,g3⟩; have q1:=(g3.cell (p:=⟨Bv,0,none⟩) z1 hv).trans hbv0; have q2:=(g3.cell (p:=⟨b,o + 4,none⟩) z2 z3).trans c4))
         have HI3:=hid i3
         have HR3:=hid (HR'.out.trans ((Ran.of_below (Below.refl _ _).drew).trans g3))
         have HA3:=hid (((Ran.of_below (Below.refl _ _).drew).trans g3).keep HAX.out hAm)
         clear i3 g3 q1 q2 hwr
         go_wp2_with fail
         go_roundw
         case rel=>exact ⟨k + 1,st2,u' + 1,by go_num,rfl,by omega,HU.out,HW1.out,HG2.out,HI3.out,HR3.out,HA3.out⟩
         case measure=>simp [intOf]; omega
       ·have hun:under t.k k u'=u':=by unfold under; rw [if_neg]; rintro ⟨_,h2⟩; omega
        have HU:Hid (u'=u∨(u'=u + 1∧kids t.k - 1 < ((k + 1:Nat):Int))):=hid (by have:=HUP.out; omega)
        have hup:=HUP.out
        have hq:((k:Int) == a.terms - 1)=false:=by simpa using hlast
        have hu2:0≤u'∧u'≤d + 1:=by omega
        clear hup hlast htm hbt
        obtain ⟨T2,hT2⟩:∃ T2,T2=t.ts[k].walk see st' (d + 1) (u'):=⟨_,rfl⟩
        have HW:Hid ((if T2.2=true then walkL see t.k (t.ts.drop (k + 1)) (k + 1) T2.1 (d + 1) (u') else (T2.1,false))=R):=hid (by
         have h0:=HGk.out
         rw [drop_get hlt,walkL,hun,← hT2] at h0
         exact h0)
        have HGD:Hid (T2.2=true→Good T2.1):=hid (fun hh=>by
         rw [hT2] at hh ⊢
         exact walk_good HS.out _ _ _ _ hgood' (HD.out (by trivial) _ (List.getElem_mem hlt)) hh)
        have HZ:Hid (∀ W,Below wr.heap.size wr W→Calls Tryz.prog 178 #[.pointer (some ⟨b',off' + k * 5,none⟩),.int .i64 (d + 1),.int .i64 (u'),.pointer (some ⟨Bs,0,none⟩),.pointer (some ⟨Bv,0,none⟩)] W fun e w'=>e=.returned (.bool T2.2)∧Inv T2.1 w'∧Ran m W w'):=hid (fun W hW=>by
         rw [hT2]
         exact HIH.out _ (List.getElem_mem hlt) st' b' (off' + k * 5) (d + 1) (u') W hgood' (HS.out.keep _ _ _ HI'.out hW) (HD.out (by trivial) _ (List.getElem_mem hlt)) hu2.1 hu2.2 ((HAT'.out.below (hW.mono (by have:=HR'.out.size; omega))).root HS.out.low (by have:=HR'.out.size; have:=hW.size; omega)) (by have:=HR'.out.size; have:=hW.size; omega) (by have:=HR'.out.size; have:=hW.size; omega) (Lvl.keep hW (HR'.out.keep HBS.out hs)) (Lvl.keep hW (HR'.out.keep HBV.out hv)))
        obtain ⟨st2,r2⟩:=T2
        dsimp only at HW HGD HZ
        clear hT2 hun
        cases r2
        ·have HW1:Hid ((st2,false)=R):=hid (by have h0:=HW.out; simpa using h0)
         clear HW HGD
         go_wp2_with fail
         have hwr:IntKind.i64.wrap (d + 1)=d + 1:=IntWalk.i64_in _ (by omega)
         go_region_held3 (fun w'=>w'.cell? ⟨Bv,0,none⟩=some (.func (.func 178) #[] #[.pointer (some ⟨Bs,0,none⟩),.pointer (some ⟨Bv,0,none⟩)])∧w'.cell? ⟨b,o + 4,none⟩=some (.slice (some ⟨b',off',none⟩) t.ts.length h.tc))
          (go_keep)
          ((go_at_call 178; (with_reducible refine (HZ.out _ ?_).mono ?_); exact (Below.refl _ _).drew; rintro e w3 ⟨rfl,i3,g3⟩; have q1:=(g3.cell (p:=⟨Bv,0,none⟩) z1 hv).trans hbv0; have q2:=(g3.cell (p:=⟨b,o + 4,none⟩) z2 z3).trans c4))
         have HI3:=hid i3
         have HR3:=hid (HR'.out.trans ((Ran.of_below (Below.refl _ _).drew).trans g3))
         clear i3 g3 q1 q2 hwr
         go_wp2_with fail
         go_ret
         exact walk_fin HW1.out HI3.out HR3.out
        ·have HW1:Hid (walkL see t.k (t.ts.drop (k + 1)) (k + 1) st2 (d + 1) (u')=R):=hid (by have h0:=HW.out; simpa using h0)
         have HG2:=hid (HGD.out rfl)
         clear HW HGD
         go_wp2_with fail
         have hwr:IntKind.i64.wrap (d + 1)=d + 1:=IntWalk.i64_in _ (by omega)
         go_region_held3 (fun w'=>w'.cell? ⟨Bv,0,none⟩=some (.func (.func 178) #[] #[.pointer (some ⟨Bs,0,none⟩),.pointer (some ⟨Bv,0,none⟩)])∧w'.cell? ⟨b,o + 4,none⟩=some (.slice (some ⟨b',off',none⟩) t.ts.length h.tc))
          (go_keep)
          ((go_at_call 178; (with_reducible refine (HZ.out _ ?_).mono ?_); exact (Below.refl _ _).drew; rintro e w3 ⟨rfl,i3,g3⟩; have q1:=(g3.cell (p:=⟨Bv,0,none⟩) z1 hv).trans hbv0; have q2:=(g3.cell (p:=⟨b,o + 4,none⟩) z2 z3).trans c4))
         have HI3:=hid i3
         have HR3:=hid (HR'.out.trans ((Ran.of_below (Below.refl _ _).drew).trans g3))
         have HA3:=hid (((Ran.of_below (Below.refl _ _).drew).trans g3).keep HAX.out hAm)
         clear i3 g3 q1 q2 hwr
         go_wp2_with fail
         go_roundw
         case rel=>exact ⟨k + 1,st2,u',by go_num,rfl,by omega,HU.out,HW1.out,HG2.out,HI3.out,HR3.out,HA3.out⟩
         case measure=>simp [intOf]; omega
     ·have HE:Hid ((st',true)=R):=hid (by
       have h0:=HGk.out
       rw [List.drop_eq_nil_of_le (by omega),walkL] at h0
       exact h0)
      go_wp2_with fail
      go_ret
      exact walk_fin HE.out HI'.out HR'.out
end Go.Proofs.YtmngddomnaaedaaGreat
