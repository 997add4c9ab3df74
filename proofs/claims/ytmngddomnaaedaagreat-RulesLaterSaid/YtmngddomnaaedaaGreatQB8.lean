/-
 env.numbersMay,termsOf.
-/
import Derived.Lib.Hide
import Derived.Test.YtmngddomnaaedaaGreatQB5
import Derived.Test.YtmngddomnaaedaaGreatQB7
import Derived.Deep.RegionHeld3
import Derived.Deep.WholeRow
import Derived.Maps.OwnSet
import Derived.StringKeys
open Go.Lib (hid)
set_option maxRecDepth 100000
set_option maxHeartbeats 32000000
namespace Go.Proofs.YtmngddomnaaedaaGreat
open Go.RowKit Go.Shelf Lvl Trm Env
namespace Env
theorem infoInt:(Tryz.prog.info? 3).map (fun i=>(i.zero,i.size,i.bytes))=some (some (.int .i64 0),1,8):=by kernel_rfl
theorem r_box {w:World} {b:Nat} {r:Rl} {hd:Hd} (h:w.heap[b]?=some (.cells (r.vals hd).toArray 64)):w.cell? ⟨b,0,none⟩=some (.string r.ctor)∧w.cell? ⟨b,1,none⟩=some (.int .i64 r.fields)∧TCells w b 2 r.body hd:=by
 have h1:∀ j,w.cell? ⟨b,j,none⟩=(r.vals hd)[j]?:=fun j=>by
  unfold World.cell?
  simp [h]
 exact ⟨h1 0,h1 1,⟨h1 2,h1 3,h1 4,h1 5,h1 6⟩⟩
theorem row_slice {w:World} {base:Nat} {e:TypeId} {size:Nat} {v:Value} {n:Nat} {xs:List Value} (h:w.ownsRow base e size v n xs):∃ ao cp,v=.slice ao n cp:=by
 rcases h.2 with ⟨hv,h0⟩ | ⟨g,cap,cur,hv,_⟩
 ·exact ⟨none,0,by rw [hv,h0]⟩
 ·exact ⟨_,cap,hv⟩
theorem row_same {w w':World} {base:Nat} {e:TypeId} {size:Nat} {v:Value} {n:Nat} {xs:List Value} (h:w.ownsRow base e size v n xs) (hb:∀ q,v.ownBlock=some q→w'.heap[q]?=w.heap[q]?):w'.ownsRow base e size v n xs:=by
 refine ⟨h.1,?_⟩
 rcases h.2 with h0 | ⟨g,cap,cur,hv,h1,hg,rest⟩
 ·exact .inl h0
 ·exact .inr ⟨g,cap,cur,hv,h1,(hb g (by rw [hv]; rfl)).trans hg,rest⟩
theorem row_keep {w w':World} {base e size n:Nat} {v:Value} {xs:List Value} (h:w.ownsRow base e size v n xs) (b:Below w.heap.size w w'):w'.ownsRow base e size v n xs:=row_same h fun q hq=>b.block q (h.lt q hq).2
def Rl.zero:Array Value:=#[.string ⟨#[]⟩,.int .i64 0,.int .u8 0,.int .i64 0,.string ⟨#[]⟩,.slice none 0 0,.slice none 0 0]
theorem infoRl:(Tryz.prog.info? 64).map (·.size)=some 7:=by kernel_rfl
theorem less_step {n k:Nat} {z:Int} (hz:z=(k:Int) + 1) (h:k < n):n - (intOf (.int .i64 z)).toNat < n - (intOf (.int .i64 (k:Int))).toNat:=by
 subst hz
 simp [intOf]; omega
theorem nums7 (x:Inf):x.nums=(x.ns).all numOk:=rfl
def first7 (x:Inf):List Int:=[x.fixed,x.index,x.no,x.fields,x.motives,x.minors,x.ctors]
def NsRel (w:World) (x:Inf) (v i:Value) (wr:World):Prop :=
 ∃ k n:Nat,i=.int .i64 k∧n=7 + k∧k≤x.rules.length∧wr.ownsRow w.heap.size 3 1 v n (zs (first7 x ++ (x.rules.take k).map Rl.fields))∧Below w.heap.size w wr
theorem ns_step (x:Inf) {k:Nat} (hk:k < x.rules.length):zs (first7 x ++ (x.rules.take k).map Rl.fields) ++ [.int .i64 x.rules[k].fields]=zs (first7 x ++ (x.rules.take (k + 1)).map Rl.fields):=by
 rw [zs_snoc,List.append_assoc,List.take_succ_eq_append_getElem hk,List.map_append]
 rfl
theorem below_grown {B:Nat} {w wr w3 w6:World} {v:Value} {o:Obj} {e size n:Nat} {xs:List Value} (hb:Below B w wr) (h3:Below wr.heap.size wr w3) (hg:(w3.alloc o).grownBy w6 v.ownBlock) (hrow:wr.ownsRow B e size v n xs) (hB:B≤wr.heap.size):Below B w w6:=by
 have hs3:=h3.size
 have hs6:=hg.size
 rw [World.size_alloc] at hs6
 refine Below.trans (Below.trans hb (h3.mono hB)) (Below.trans ((below_one w3 o).mono (by omega)) ⟨hg.os,hg.tape,hg.output,hg.size,fun q hq=>hg.block q (by rw [World.size_alloc]; omega) (fun e=>by have:=(hrow.lt q e.symm).1; omega)⟩)
end Env
theorem numbersMay_any {w:World} {b:Nat} {x:Inf} {h:IHd} (hb:IBox w b x h) (hr:RRow w.heap.size w h.ro x.rules) (hn:x.rules.length≤1000):Calls Tryz.prog 99 #[.pointer (some ⟨b,0,none⟩)] w fun e w'=>e=.returned (.bool x.nums)∧Below w.heap.size w w':=by
 have HB:=hid hb
 have HR:=hid hr
 have HN:=hid hn
 have HKR:=hid infoRl
 have c16:w.cell? ⟨b,16,none⟩=some (.int .i64 x.fixed):=hb.cell 16
 have c17:w.cell? ⟨b,17,none⟩=some (.int .i64 x.index):=hb.cell 17
 have c18:w.cell? ⟨b,18,none⟩=some (.int .i64 x.no):=hb.cell 18
 have c19:w.cell? ⟨b,19,none⟩=some (.int .i64 x.fields):=hb.cell 19
 have c20:w.cell? ⟨b,20,none⟩=some (.int .i64 x.motives):=hb.cell 20
 have c21:w.cell? ⟨b,21,none⟩=some (.int .i64 x.minors):=hb.cell 21
 have c23:w.cell? ⟨b,23,none⟩=some (.int .i64 x.ctors):=hb.cell 23
 have HROW0:=hid (fun (W:World) (hW:w.heap.size≤W.heap.size)=>World.ownsRow_lit (base:=w.heap.size) (e:=3) (size:=1) W #[.int .i64 x.fixed,.int .i64 x.index,.int .i64 x.no,.int .i64 x.fields,.int .i64 x.motives,.int .i64 x.minors,.int .i64 x.ctors] 7 hW (by decide) rfl)
 obtain ⟨i0,hi,hz0,hz1,hz2⟩:=info_parts infoInt
 obtain ⟨G,hG⟩:∃ G,G=x.nums:=⟨_,rfl⟩
 rw [← hG]
 have HG:=hid hG
 clear hb hr hn hG
 go_enter Tryz.func99,Tryz.ntmps99
 go_upto_region 1 with fail
 go_region_held3 (fun w'=>w'.cell? ⟨b,16,none⟩=some (.int .i64 x.fixed)∧w'.cell? ⟨b,17,none⟩=some (.int .i64 x.index)∧w'.cell? ⟨b,18,none⟩=some (.int .i64 x.no)∧w'.cell? ⟨b,19,none⟩=some (.int .i64 x.fields)∧w'.cell? ⟨b,20,none⟩=some (.int .i64 x.motives)∧w'.cell? ⟨b,21,none⟩=some (.int .i64 x.minors)∧w'.cell? ⟨b,23,none⟩=some (.int .i64 x.ctors)) (go_keep) (fail)
 obtain ⟨W1,hW1⟩:∃ W1,W1=(w.alloc (.cells #[.int .i64 x.fixed,.int .i64 x.index,.int .i64 x.no,.int .i64 x.fields,.int .i64 x.motives,.int .i64 x.minors,.int .i64 x.ctors] 3)).drew:=⟨_,rfl⟩
 have B1:=hid (show Below w.heap.size w W1 from hW1 ▸ (below_one w _).trans (Below.refl _ _).drew)
 have HW1:Hid (NsRel w x (.slice (some ⟨w.heap.size,0,none⟩) 7 7) (.int .i64 (0:Nat)) W1):=hid ⟨0,7,rfl,rfl,by omega,by rw [hW1]; exact (HROW0.out w (Nat.le_refl _)).drew,B1.out⟩
 rw [← hW1]
 have c22:W1.cell? ⟨b,22,none⟩=some (.slice h.ro x.rules.length h.rc):=(HB.out.keep B1.out).cell 22
 clear hW1 HROW0 c16 c17 c18 c19 c20 c21 c23
 go_wp2_with fail
 clear c22
 go_loopw [3,40] (fun v i wr=>NsRel w x v i wr) (fun _ i _=>x.rules.length - (intOf i).toNat)
 case atStart=>exact HW1.out
 case round =>
  obtain ⟨k,n,rfl,hnk,hk,hrow,hbel⟩:=hrel
  have HNK:=hid hnk
  have HROW:=hid hrow
  have HBEL:=hid hbel
  clear hrow hbel HW1 hnk
  by_cases hlt:k < x.rules.length
  ·obtain ⟨b2,off,hd,hro,hb2,hrg,_⟩:=(HR.out.below HBEL.out).place k hlt
   have HST:=hid (ns_step x hlt)
   obtain ⟨r,hre⟩:∃ r,r=x.rules[k]:=⟨_,rfl⟩
   rw [← hre] at hrg HST
   have HLT:=hid hlt
   have HRG:=hid hrg
   obtain ⟨W2,hW2⟩:∃ W2,W2=wr.alloc (.cells (r.vals hd).toArray 64):=⟨_,rfl⟩
   have B2:=hid (show Below wr.heap.size wr W2 from hW2 ▸ below_one _ _)
   have HX2:=hid (show W2.heap[wr.heap.size]?=some (.cells (r.vals hd).toArray 64) from hW2 ▸ World.alloc_heap_new _ _)
   have HROW2:=hid (row_keep HROW.out B2.out)
   have hz2:W2.heap.size=wr.heap.size + 1:=by rw [hW2]; simp
   have HZ2:=hid hz2
   obtain ⟨ao6,cp6,hu6⟩:=row_slice HROW.out
   subst hu6
   rw [hro]
   clear hre hrg hz2
   go_upto_region 5 with (first
    | (refine wpList_load_mid rfl 64 (.tmp 42) rfl b2 (off + k * 7) rfl (r.vals hd) _ HRG.out Tryz.underlying64 rfl HKR.out ?_)
    | (refine wpList_store_row rfl 64 (.tmp 5) (.tmp 43) rfl wr.heap.size (r.vals hd).toArray rfl rfl 64 Rl.zero (World.alloc_heap_new wr _) HKR.out rfl (by kernel_rfl) ?_))
   rw [World.setRow_alloc_new,← hW2]
   clear hW2
   obtain ⟨_,d1,_⟩:=r_box HX2.out
   have hq1:Hid (n + 1≤maxLen):=hid (by unfold maxLen; have:=HN.out; have:=HNK.out; omega)
   have hq2:Hid ((n + 1) * 8≤140737488355328):=hid (by have:=HN.out; have:=HNK.out; omega)
   go_wp2_with (at_builtin; refine wpList_append_lies _ rfl _ _ _ rfl w.heap.size 3 i0 _ 1 8 Tryz.underlying178 hi hz0 hz1 hz2 rfl (by decide) _ n _ rfl (HROW2.out.alloc _) ⟨W2.heap.size,0,none⟩ 1 1 [.int .i64 r.fields] rfl rfl (World.news_of_block (cs:=#[.int .i64 r.fields]) (t:=3) (fr:=(0,0)) (World.alloc_heap_new W2 _)) (by simp [Value.oneCell']) Nat.one_pos hq1.out hq2.out (by rw [World.size_alloc]; have:=HBEL.out.size; have:=HZ2.out; omega) (W2.heap.size + 1) (World.size_alloc _ _) ?_; intro g1 cap1 w6 hown6 hg6 hat6 hlt6)
   rw [HST.out] at hown6
   have HNX:Hid (∀ z:Int,z=((k + 1:Nat):Int)→NsRel w x (.slice (some ⟨g1,0,none⟩) (n + 1) cap1) (.int .i64 z) w6):=hid fun z hz=>⟨k + 1,n + 1,by rw [hz],by have:=HNK.out; omega,HLT.out,hown6,below_grown HBEL.out B2.out hg6 HROW.out HBEL.out.size⟩
   have hwk:wrap64 ((k:Int) + 1)=(k:Int) + 1:=IntWalk.wrap64_in _ (by have:=HN.out; have:=HLT.out; omega)
   clear hown6 hg6 hat6 hlt6 d1
   go_wp2_with fail
   go_roundw
   case rel=>exact HNX.out _ (by go_num)
   case measure=>exact less_step hwk HLT.out
  ·have hke:k=x.rules.length:=by omega
   subst hke
   have hrow:=HROW.out
   rw [List.take_length] at hrow
   have hns:(first7 x ++ x.rules.map Rl.fields)=x.ns:=rfl
   rw [hns] at hrow
   obtain ⟨ao',cp',hu,hzr⟩:=zrow_of (by unfold Inf.ns; simp; have:=HNK.out; omega) hrow
   subst hu
   have hlen:x.ns.length≤1000000:=by unfold Inf.ns; simp; have:=HN.out; omega
   have HC:=hid (ContainsFunc_any x.ns ao' cp' wr hzr hlen)
   rw [← nums7,← HG.out] at HC
   clear hrow hns hzr hlen HG
   go_wp2_with fail
   refine HC.out.mono ?_
   rintro e w' ⟨rfl,rfl⟩
   cases G
   all_goals
    go_wp2_with fail
    go_ret
    exact ⟨rfl,HBEL.out⟩
end Go.Proofs.YtmngddomnaaedaaGreat
namespace Go.Proofs.YtmngddomnaaedaaGreat
open Go.RowKit Go.Shelf Go.Maps Lvl Trm Env
namespace Env
abbrev Ent:=Nat × Inf × IHd
def key (s:ByteArray):List UInt8:=s.data.toList
def ekey (p:Ent):List UInt8:=key p.2.1.name
def lookE (L:List Ent) (k:List UInt8):Option Ent:=L.find? fun p=>ekey p == k
def ptrV (o:Option Ent):Value:=match o with
 | none=>.pointer none
 | some p=>.pointer (some ⟨p.1,0,none⟩)
def ptrElem (v:Value):Option (DataW Unit × List MemPlace):=match v with
 | .pointer none=>some (.lit (.int .i64 (-1)),[])
 | .pointer (some ⟨b,0,none⟩)=>some (.lit (.int .i64 b),[])
 | _=>none
theorem ptrElem_inv {v:Value} {z:Int} {ps:List MemPlace} (h:ptrElem v=some (.lit (.int .i64 z),ps)):(z=-1∧v=.pointer none)∨∃ b:Nat,z=b∧v=.pointer (some ⟨b,0,none⟩):=by
 unfold ptrElem at h
 split at h
 ·simp at h; exact Or.inl ⟨h.1.symm,rfl⟩
 ·rename_i b
  simp at h; exact Or.inr ⟨b,h.1.symm,rfl⟩
 ·cases h
structure TiedE (D:DataW Unit) (L:List Ent):Prop where
 isMap:IsMap D
 has:∀ k:List UInt8,Maps.has D (.string k)=true ↔ ∃ p ∈ L,ekey p=k
 at_:∀ p ∈ L,∀ z,D.atKey (.string (ekey p)) z=.lit (.int .i64 (p.1:Nat))
def MapE (w:World) (mo:Option Nat) (L:List Ent):Prop:=(mo=none∧L=[])∨∃ m D,mo=some m∧w.ownsMap Tryz.prog 9 ptrElem m L.length D∧TiedE D L
theorem lookE_some {L:List Ent} {k:List UInt8} {p:Ent} (h:lookE L k=some p):p ∈ L∧ekey p=k:=by
 unfold lookE at h
 exact ⟨List.mem_of_find?_eq_some h,by simpa using List.find?_some h⟩
theorem lookE_none {L:List Ent} {k:List UInt8} (h:lookE L k=none):∀ p ∈ L,ekey p ≠ k:=by
 unfold lookE at h
 rw [List.find?_eq_none] at h
 intro p hp he
 exact h p hp (by simp [he])
theorem map_nil (s:ByteArray) (w:World):(Instr.lookup 108 (.map none) (.string s) false).run Tryz.prog w=.ok (.pointer none) w:=by
 kernel_rfl
theorem zeroPtr (w:World):(zeroValue 105).run Tryz.prog w=.ok (.pointer none) w:=by kernel_rfl
theorem map_look {w:World} {mo:Option Nat} {L:List Ent} (h:MapE w mo L) {s:ByteArray} (hs:s.size≤maxLen):(Instr.lookup 108 (.map mo) (.string s) false).run Tryz.prog w=.ok (ptrV (lookE L (key s))) w:=by
 rcases h with ⟨rfl,rfl⟩ | ⟨m,D,rfl,hown,ht⟩
 ·exact map_nil s w
 ·obtain ⟨v,ps,hrun,hv⟩:=hown.lookup (string_keyed Tryz.underlying9) Tryz.underlying108 (zeroPtr w) (zd:=.lit (.int .i64 (-1))) (zp:=[]) rfl (WideMaps.keyOf_string_mk Tryz.underlying9 hs)
  rw [hrun]
  cases hl:lookE L (key s) with
  | none =>
    have hno:Maps.has D (.string (key s))=false:=by
     rw [← Bool.not_eq_true,ht.has]
     rintro ⟨p,hp,he⟩
     exact lookE_none hl p hp he
    rw [show s.data.toList=key s from rfl,atKey_of_not_has hno] at hv
    rcases ptrElem_inv hv with ⟨_,rfl⟩ | ⟨b,hb,_⟩
    ·rfl
    ·omega
  | some p =>
    obtain ⟨hp,he⟩:=lookE_some hl
    rw [show s.data.toList=ekey p from he.symm,ht.at_ p hp] at hv
    rcases ptrElem_inv hv with ⟨hb,_⟩ | ⟨b,hb,rfl⟩
    ·omega
    ·have e:b=p.1:=by omega
     rw [e]; rfl
def ownE (e:Nat) (v:Value) (mo:Option Nat) (q:Nat):Prop:=q=e∨v.ownBlock=some q∨mo=some q
theorem ran_goE {P P':Nat→Prop} {w w' w2:World} (hr:RanS P w w') (hr2:RanS P' w' w2) (hP:∀ q,P' q→P q∨w.heap.size≤q):RanS P w w2 :=
 ⟨hr2.os.trans hr.os,hr2.tape.trans hr.tape,hr2.output.trans hr.output,Nat.le_trans hr.size hr2.size,fun k hk hn=>(hr2.block k (Nat.lt_of_lt_of_le hk hr.size) (fun hp=>by rcases hP k hp with h | h; exact hn h; omega)).trans (hr.block k hk hn)⟩
theorem firm_turnE {P P':Nat→Prop} {w w':World} {t:Tm} {h:Hd} (g:FirmS P w t h) (hr:RanS P w w') (hP:∀ q,P' q→P q∨w.heap.size≤q):FirmS P' w' t h:=fun _ hr2=>g _ (ran_goE hr hr2 hP)
theorem range_ran {P:Nat→Prop} {w w':World} {b o:Nat} {cs:List Value} (h:w.rangeAt b o cs) (hr:RanS P w w') (hb:b < w.heap.size) (hn:¬ P b):w'.rangeAt b o cs:=fun j v hv=>(hr.cell (p:=⟨b,o + j,none⟩) hb hn).trans (h j v hv)
structure FirmR (P:Nat→Prop) (w:World) (ro:Option Addr) (rs:List Rl):Prop where
 place:∀ k (hk:k < rs.length),∃ b off hd,ro=some ⟨b,off,none⟩∧b < w.heap.size∧¬ P b∧w.rangeAt b (off + k * 7) (rs[k].vals hd)∧FirmS P w rs[k].body hd
theorem FirmR.turn {P P':Nat→Prop} {w w':World} {ro:Option Addr} {rs:List Rl} (h:FirmR P w ro rs) (hr:RanS P w w') (hP:∀ q,P' q→P q∨w.heap.size≤q):FirmR P' w' ro rs:=⟨fun k hk=>by
 obtain ⟨b,off,hd,h1,h2,h3,h4,h5⟩:=h.place k hk
 exact ⟨b,off,hd,h1,Nat.lt_of_lt_of_le h2 hr.size,fun hp=>by rcases hP b hp with e | e; exact h3 e; omega,range_ran h4 hr h2 h3,firm_turnE h5 hr hP⟩⟩
theorem FirmR.here {P:Nat→Prop} {w:World} {ro:Option Addr} {rs:List Rl} (h:FirmR P w ro rs):RRow w.heap.size w ro rs:=⟨fun k hk=>by
 obtain ⟨b,off,hd,h1,h2,_,h4,h5⟩:=h.place k hk
 exact ⟨b,off,hd,h1,h2,h4,h5.here⟩⟩
theorem FirmR.of {P:Nat→Prop} {B:Nat} {w:World} {ro:Option Addr} {rs:List Rl} (h:RRow B w ro rs) (hm:∀ k,P k→B≤k) (hB:B≤w.heap.size):FirmR P w ro rs:=⟨fun k hk=>by
 obtain ⟨b,off,hd,h1,h2,h4,h5⟩:=h.place k hk
 exact ⟨b,off,hd,h1,by omega,fun hp=>by have:=hm b hp; omega,h4,FirmS.of h5 hm hB⟩⟩
structure FirmI (P:Nat→Prop) (w:World) (x:Inf) (h:IHd):Prop where
 fit:x.Fit
 ty:FirmS P w x.ty h.ty
 va:FirmS P w x.va h.va
 rules:FirmR P w h.ro x.rules
theorem FirmI.here {P:Nat→Prop} {w:World} {x:Inf} {h:IHd} (f:FirmI P w x h):x.In w.heap.size w h:=⟨f.fit,f.ty.here,f.va.here,f.rules.here⟩
theorem FirmI.turn {P P':Nat→Prop} {w w':World} {x:Inf} {h:IHd} (f:FirmI P w x h) (hr:RanS P w w') (hP:∀ q,P' q→P q∨w.heap.size≤q):FirmI P' w' x h:=⟨f.fit,firm_turnE f.ty hr hP,firm_turnE f.va hr hP,f.rules.turn hr hP⟩
theorem FirmI.step {P:Nat→Prop} {w w':World} {x:Inf} {h:IHd} (f:FirmI P w x h) (r:RanS P w w'):FirmI P w' x h:=f.turn r (fun _ hq=>Or.inl hq)
theorem FirmI.of {P:Nat→Prop} {B:Nat} {w:World} {x:Inf} {h:IHd} (i:x.In B w h) (hm:∀ k,P k→B≤k) (hB:B≤w.heap.size):FirmI P w x h:=⟨i.fit,FirmS.of i.ty hm hB,FirmS.of i.va hm hB,FirmR.of i.rules hm hB⟩
structure EnvB (B:Nat) (w:World) (e:Nat) (L:List Ent) (mo:Option Nat) (v:Value):Prop where
 box:w.heap[e]?=some (.cells #[.map mo,v] 110)
 row:w.ownsRow B 9 1 v L.length (L.map fun p=>.string p.2.1.name)
 map:MapE w mo L
 info:∀ p ∈ L,IBox w p.1 p.2.1 p.2.2∧¬ ownE e v mo p.1
 firm:∀ p ∈ L,FirmI (ownE e v mo) w p.2.1 p.2.2
 nodup:(L.map ekey).Nodup
 apart:v.ownBlock ≠ some e∧mo ≠ some e∧∀ q,v.ownBlock=some q→mo ≠ some q
 eB:B≤e
 hgt:∀ p ∈ L,0≤p.2.1.height∧p.2.1.height≤(L.length:Int)
 few:L.length≤4096
end Env
theorem at_nil (s:ByteArray) (w:World):Calls Tryz.prog 57 #[.pointer none,.string s] w fun e w'=>e=.returned (.pointer none)∧w=w':=by
 go_enter Tryz.func57,Tryz.ntmps57
 go_wp2_with fail
 go_ret
 exact ⟨rfl,rfl⟩
theorem at_any {B:Nat} {w:World} {e:Nat} {L:List Ent} {mo:Option Nat} {v:Value} (h:EnvB B w e L mo v) (s:ByteArray) (hs:s.size≤maxLen):Calls Tryz.prog 57 #[.pointer (some ⟨e,0,none⟩),.string s] w fun x w'=>x=.returned (ptrV (lookE L (key s)))∧w=w':=by
 have hrun:=map_look h.map hs
 have hb:=h.box
 have c0:w.cell? ⟨e,0,none⟩=some (.map mo):=by simp [World.cell?,hb]
 generalize ptrV (lookE L (key s))=V at hrun ⊢
 clear hb h
 go_enter Tryz.func57,Tryz.ntmps57
 go_wp2_with fail
 go_ret
 exact ⟨rfl,rfl⟩
end Go.Proofs.YtmngddomnaaedaaGreat
namespace Go.Proofs.YtmngddomnaaedaaGreat
open Go.RowKit Go.Shelf Lvl Trm Env
namespace Env
theorem vals_one5 (y:Tm) (hy:Hd):∀ q ∈ (y.vals hy).toList,q.oneCell'=true:=fun q hq=>by
 simp [Tm.vals] at hq
 rcases hq with rfl | rfl | rfl | rfl | rfl <;> rfl
structure RowB (B b0:Nat) (w:World) (ao:Option Addr) (L:List Tm):Prop where
 place:∀ k (hk:k < L.length),∃ b off hd,ao=some ⟨b,off,none⟩∧b0≤b∧b < w.heap.size∧TCells w b (off + k * 5) L[k] hd∧L[k].In B w hd
theorem RowB.rowIn {B b0:Nat} {w:World} {ao:Option Addr} {L:List Tm} (h:RowB B b0 w ao L) (hB:B≤w.heap.size):RowIn w.heap.size w ao 0 L:=RowIn.mk fun k hk=>by
 obtain ⟨b,off,hd,h1,_,h3,h4,h5⟩:=h.place k hk
 exact ⟨b,off,h1,h3,hd,by rw [Nat.zero_add]; exact h4,Tm.In.mono hB _ _ h5⟩
theorem RowB.ran {P:Nat→Prop} {B b0:Nat} {w w':World} {ao:Option Addr} {L:List Tm} (h:RowB B b0 w ao L) (hr:RanS P w w') (hP:∀ q,P q→B≤q∧q < b0) (hB:B≤w.heap.size):RowB B b0 w' ao L:=⟨fun k hk=>by
 obtain ⟨b,off,hd,h1,h2,h3,h4,h5⟩:=h.place k hk
 have hnb:¬ P b:=fun hp=>by have:=hP b hp; omega
 have key:∀ o,w'.cell? ⟨b,o,none⟩=w.cell? ⟨b,o,none⟩:=fun o=>hr.cell (p:=⟨b,o,none⟩) h3 hnb
 exact ⟨b,off,hd,h1,h2,Nat.lt_of_lt_of_le h3 hr.size,⟨(key _).trans h4.c0,(key _).trans h4.c1,(key _).trans h4.c2,(key _).trans h4.c3,(key _).trans h4.c4⟩,Tm.In.below (hr.below (fun q hq=>(hP q hq).1) hB) _ _ h5⟩⟩
def TRow (B b0:Nat) (w:World) (L:List Tm) (n:Nat) (v:Value):Prop:=∃ ps:List (Tm × Hd),n=ps.length∧w.ownsRow b0 25 5 v n (flat ps)∧ps.map (·.1)=L∧∀ p ∈ ps,p.1.In B w p.2
theorem TRow.len {B b0:Nat} {w:World} {L:List Tm} {n:Nat} {v:Value} (h:TRow B b0 w L n v):n=L.length:=by
 obtain ⟨ps,h1,_,h3,_⟩:=h
 rw [h1,← h3,List.length_map]
theorem TRow.rowB {B b0:Nat} {w:World} {L:List Tm} {n:Nat} {v:Value} (h:TRow B b0 w L n v):∃ ao cp,v=.slice ao L.length cp∧RowB B b0 w ao L:=by
 obtain ⟨ps,rfl,h2,h3,h4⟩:=h
 have hl:ps.length=L.length:=by rw [← h3,List.length_map]
 rcases h2.2 with ⟨hv,h0⟩ | ⟨g,cap,cur,rfl,hb,hg,rest⟩
 ·have hL:L=[]:=List.length_eq_zero_iff.1 (by omega)
  exact ⟨none,0,by rw [hv,hL]; rfl,⟨fun k hk=>by rw [hL] at hk; simp at hk⟩⟩
 ·refine ⟨_,cap,by rw [hl],⟨fun k hk=>?_⟩⟩
  have hk2:k < ps.length:=by omega
  have hgl:g < w.heap.size:=(Array.getElem?_eq_some_iff.1 hg).1
  have key:∀ j u,j < 5→((ps[k].1.vals ps[k].2).toList)[j]?=some u→w.cell? ⟨g,0 + k * 5 + j,none⟩=some u:=fun j u hj hu=>by
   have h1:=h2.cells (g:=g) rfl (k * 5 + j) u (by rw [flat_at ps k hk2 j hj]; simpa using hu)
   rw [Addr.add_mid] at h1
   rw [show 0 + k * 5 + j=0 + (k * 5 + j) by omega]
   exact h1
  have he:ps[k].1=L[k]:=by
   have h5:(ps.map (·.1))[k]'(by rw [List.length_map]; exact hk2)=ps[k].1:=List.getElem_map _
   rw [← h5]
   simp only [h3]
  refine ⟨g,0,ps[k].2,rfl,hb,hgl,?_,he ▸ h4 _ (List.getElem_mem hk2)⟩
  rw [← he]
  exact ⟨key 0 _ (by omega) rfl,key 1 _ (by omega) rfl,key 2 _ (by omega) rfl,key 3 _ (by omega) rfl,key 4 _ (by omega) rfl⟩
theorem TRow.grow {B b0:Nat} {w w3 w6:World} {L:List Tm} {n g1 cap1:Nat} {v:Value} {o:Obj} {ps:List (Tm × Hd)} (hbb:B≤b0) (hn:n=ps.length) (hrow:w.ownsRow b0 25 5 v n (flat ps)) (hmap:ps.map (·.1)=L) (hlie:∀ p ∈ ps,p.1.In B w p.2) {t:Tm} {h:Hd} (hin:t.In B w h) (h3:Below w.heap.size w w3)
 (hown:w6.ownsRow b0 25 5 (.slice (some ⟨g1,0,none⟩) (n + 1) cap1) (n + 1) (flat ps ++ (t.vals h).toList)) (hg:(w3.alloc o).grownBy w6 v.ownBlock) (hB:b0≤w.heap.size):TRow B b0 w6 (L ++ [t]) (n + 1) (.slice (some ⟨g1,0,none⟩) (n + 1) cap1):=by
 have hbl:=(below_grown (Below.refl b0 w) h3 hg hrow hB).mono hbb
 refine ⟨ps ++ [(t,h)],by simp [hn],?_,by simp [hmap],fun p hp=>?_⟩
 ·rw [show flat (ps ++ [(t,h)])=flat ps ++ (t.vals h).toList by simp [flat]]
  exact hown
 ·rcases List.mem_append.1 hp with hp | hp
  ·exact Tm.In.below hbl _ _ (hlie p hp)
  ·simp at hp
   subst hp
   exact Tm.In.below hbl _ _ hin
theorem TRow.one {B:Nat} {w:World} (t:Tm) (h:Hd) (hin:t.In B w h) (hB:B≤w.heap.size):TRow B w.heap.size (w.alloc (.cells (t.vals h) 25)) [t] 1 (.slice (some ⟨w.heap.size,0,none⟩) 1 1) :=
 ⟨[(t,h)],rfl,by rw [show flat [(t,h)]=(t.vals h).toList by simp [flat]]; exact World.ownsRow_lit w (t.vals h) 1 (Nat.le_refl _) (by decide) rfl,rfl,fun p hp=>by simp at hp; subst hp; exact Tm.In.below ((below_one w _).mono hB) _ _ hin⟩
def TsRel (B:Nat) (w:World) (x:Inf) (pre:List Tm) (v i:Value) (wr:World):Prop :=
 ∃ k n:Nat,i=.int .i64 k∧k≤x.rules.length∧TRow B w.heap.size wr (pre ++ (x.rules.take k).map Rl.body) n v∧Below w.heap.size w wr
def TermsPost (B:Nat) (x:Inf) (w:World) (e:Ending) (w':World):Prop:=∃ ao cp,e=.returned (.slice ao x.terms.length cp)∧RowB B w.heap.size w' ao x.terms∧Below w.heap.size w w'
theorem ts_step (x:Inf) (pre:List Tm) {k:Nat} (hk:k < x.rules.length):(pre ++ (x.rules.take k).map Rl.body) ++ [x.rules[k].body]=pre ++ (x.rules.take (k + 1)).map Rl.body:=by
 rw [List.append_assoc,List.take_succ_eq_append_getElem hk,List.map_append]
 rfl
theorem t_cells (t:Tm) (h:Hd) {w:World} {b o:Nat} (c:TCells w b o t h):w.cell? ⟨b,o,none⟩=some (.int .u8 t.k)∧w.cell? ⟨b,o + 1,none⟩=some (.int .i64 t.n)∧w.cell? ⟨b,o + 2,none⟩=some (.string t.s)∧w.cell? ⟨b,o + 3,none⟩=some (.slice h.lo t.ls.length h.lc)∧w.cell? ⟨b,o + 4,none⟩=some (.slice h.to t.ts.length h.tc):=⟨c.c0,c.c1,c.c2,c.c3,c.c4⟩
end Env
theorem termsOf_any {B:Nat} {w:World} {b:Nat} {x:Inf} {h:IHd} (hb:IBox w b x h) (hin:x.In B w h) (hB:B≤w.heap.size) (hn:x.rules.length≤1000):Calls Tryz.prog 141 #[.pointer (some ⟨b,0,none⟩)] w (TermsPost B x w):=by
 have HB:=hid hb
 have HIN:=hid hin
 have HN:=hid hn
 have HBB:=hid hB
 have HKR:=hid infoRl
 obtain ⟨i0,hi,hz0,hz1,hz2⟩:=info_parts infoT
 obtain ⟨c3,c4,c5,c6,c7⟩:w.cell? ⟨b,3,none⟩=some (.int .u8 x.ty.k)∧w.cell? ⟨b,4,none⟩=some (.int .i64 x.ty.n)∧w.cell? ⟨b,5,none⟩=some (.string x.ty.s)∧w.cell? ⟨b,6,none⟩=some (.slice h.ty.lo x.ty.ls.length h.ty.lc)∧w.cell? ⟨b,7,none⟩=some (.slice h.ty.to x.ty.ts.length h.ty.tc):=t_cells x.ty h.ty hb.ty
 obtain ⟨W1,hW1⟩:∃ W1,W1=w.alloc (.cells (x.ty.vals h.ty) 25):=⟨_,rfl⟩
 have B1:=hid (show Below w.heap.size w W1 from hW1 ▸ below_one _ _)
 have HT1:=hid (show TRow B w.heap.size W1 [x.ty] 1 (.slice (some ⟨w.heap.size,0,none⟩) 1 1) from hW1 ▸ TRow.one x.ty h.ty hin.ty hB)
 have HHV:=hid (hasValue_any (hb.keep B1.out))
 have HPO:Hid (∀ (ao:Option Addr) (cp:Nat) (w':World) (L:List Tm),L=x.terms→RowB B w.heap.size w' ao L→Below w.heap.size w w'→TermsPost B x w (.returned (.slice ao L.length cp)) w'):=hid fun ao cp w' L hL hr hbl=>by subst hL; exact ⟨ao,cp,rfl,hr,hbl⟩
 have HTE:Hid (∀ v:Bool,v=x.hv→[x.ty] ++ (if v=true then [x.va] else []) ++ x.rules.map Rl.body=x.terms):=hid fun v hv=>by rw [hv]; rfl
 obtain ⟨V,hV⟩:∃ V,V=x.hv:=⟨_,rfl⟩
 rw [← hV] at HHV
 have HV:=hid hV
 unfold Tm.vals at hW1
 clear hb hin hn hB hV
 go_enter Tryz.func141,Tryz.ntmps141
 go_upto_region 2 with fail
 rw [← hW1]
 clear hW1 c3 c4 c5 c6 c7
 go_wp2_with fail
 refine HHV.out.mono ?_
 rintro e w' ⟨rfl,rfl⟩
 clear HHV
 have hs1:=B1.out.size
 cases V
 ·have B3:=B1
  have HT3:=HT1
  obtain ⟨W3,hW3⟩:∃ x:World,x=W1:=⟨_,rfl⟩
  subst hW3
  have c22:W3.cell? ⟨b,22,none⟩=some (.slice h.ro x.rules.length h.rc):=(HB.out.keep B3.out).cell 22
  go_wp2_with fail
  clear c22
  go_loopw [3,25] (fun v i wr=>TsRel B w x ([x.ty] ++ (if false=true then [x.va] else [])) v i wr) (fun _ i _=>x.rules.length - (intOf i).toNat)
  case atStart=>exact ⟨0,_,rfl,by omega,by rw [List.take_zero,List.map_nil,List.append_nil]; exact HT3.out,B3.out⟩
  case round =>
   obtain ⟨k,n,rfl,hk,hrow,hbel⟩:=hrel
   have HNL:=hid (hrow.len)
   obtain ⟨ps,hnp,hown,hmap,hlie⟩:=id hrow
   have HTR:=hid hrow
   have HOWN:=hid hown
   have HMAP:=hid hmap
   have HLIE:=hid hlie
   have HNP:=hid hnp
   have HBEL:=hid hbel
   clear hrow hown hmap hlie hnp hbel HT3
   by_cases hlt:k < x.rules.length
   ·obtain ⟨b2,off,hd,hro,hb2,hrg,hbin⟩:=(HIN.out.rules.below (HBEL.out.mono HBB.out)).place k hlt
    have HST:=hid (ts_step x ([x.ty] ++ (if false=true then [x.va] else [])) hlt)
    obtain ⟨r,hre⟩:∃ r,r=x.rules[k]:=⟨_,rfl⟩
    rw [← hre] at hrg HST hbin
    have HLT:=hid hlt
    have HRG:=hid hrg
    have HBI:=hid hbin
    obtain ⟨W2,hW2⟩:∃ W2,W2=wr.alloc (.cells (r.vals hd).toArray 64):=⟨_,rfl⟩
    have B2:=hid (show Below wr.heap.size wr W2 from hW2 ▸ below_one _ _)
    have HX2:=hid (show W2.heap[wr.heap.size]?=some (.cells (r.vals hd).toArray 64) from hW2 ▸ World.alloc_heap_new _ _)
    have HOWN2:=hid (row_keep HOWN.out B2.out)
    have hz9:W2.heap.size=wr.heap.size + 1:=by rw [hW2]; simp
    have HZ2:=hid hz9
    obtain ⟨ao6,cp6,hu6⟩:=row_slice HOWN.out
    subst hu6
    rw [hro]
    clear hre hrg hz9 hbin
    go_upto_region 7 with (first
     | (refine wpList_load_mid rfl 64 (.tmp 27) rfl b2 (off + k * 7) rfl (r.vals hd) _ HRG.out Tryz.underlying64 rfl HKR.out ?_)
     | (refine wpList_store_row rfl 64 (.tmp 5) (.tmp 28) rfl wr.heap.size (r.vals hd).toArray rfl rfl 64 Rl.zero (World.alloc_heap_new wr _) HKR.out rfl (by kernel_rfl) ?_))
    rw [World.setRow_alloc_new,← hW2]
    clear hW2
    obtain ⟨d2,d3,d4,d5,d6⟩:W2.cell? ⟨wr.heap.size,2,none⟩=some (.int .u8 r.body.k)∧W2.cell? ⟨wr.heap.size,3,none⟩=some (.int .i64 r.body.n)∧W2.cell? ⟨wr.heap.size,4,none⟩=some (.string r.body.s)∧W2.cell? ⟨wr.heap.size,5,none⟩=some (.slice hd.lo r.body.ls.length hd.lc)∧W2.cell? ⟨wr.heap.size,6,none⟩=some (.slice hd.to r.body.ts.length hd.tc):=t_cells r.body hd (r_box HX2.out).2.2
    have hnn:n≤2000:=by have h1:=HNL.out; simp at h1; have:=HN.out; omega
    have hq1:Hid (n + 1≤maxLen):=hid (by unfold maxLen; omega)
    have hq2:Hid ((n + 1) * 80≤140737488355328):=hid (by omega)
    clear hnn
    go_wp2_with (at_builtin; refine wpList_append_lies _ rfl _ _ _ rfl w.heap.size 25 i0 _ 5 80 Tryz.underlying23 hi hz0 hz1 hz2 rfl (by decide) _ n _ rfl (HOWN2.out.alloc _) ⟨W2.heap.size,0,none⟩ 1 1 (r.body.vals hd).toList rfl rfl (World.news_of_block (cs:=r.body.vals hd) (t:=25) (fr:=(0,0)) (World.alloc_heap_new W2 _)) (vals_one5 r.body hd) Nat.one_pos hq1.out hq2.out (by rw [World.size_alloc]; have:=HBEL.out.size; have:=HZ2.out; omega) (W2.heap.size + 1) (World.size_alloc _ _) ?_; intro g1 cap1 w6 hown6 hg6 hat6 hlt6)
    have htr6:=TRow.grow HBB.out HNP.out HOWN.out HMAP.out HLIE.out HBI.out B2.out hown6 hg6 HBEL.out.size
    rw [HST.out] at htr6
    have HNX:Hid (∀ z:Int,z=(k:Int) + 1→TsRel B w x ([x.ty] ++ (if false=true then [x.va] else [])) (.slice (some ⟨g1,0,none⟩) (n + 1) cap1) (.int .i64 z) w6):=hid fun z hz=>⟨k + 1,n + 1,by rw [hz]; rfl,HLT.out,htr6,below_grown HBEL.out B2.out hg6 HOWN.out HBEL.out.size⟩
    have hwk:wrap64 ((k:Int) + 1)=(k:Int) + 1:=IntWalk.wrap64_in _ (by have:=HN.out; have:=HLT.out; omega)
    clear hown6 hg6 hat6 hlt6 htr6 d2 d3 d4 d5 d6
    go_wp2_with fail
    go_roundw
    case rel=>exact HNX.out _ hwk
    case measure=>exact less_step hwk HLT.out
   ·have hke:k=x.rules.length:=by omega
    subst hke
    have htr:=HTR.out
    rw [List.take_length] at htr
    obtain ⟨ao',cp',hu,hri⟩:=htr.rowB
    have hpp:=HPO.out ao' cp' wr _ (HTE.out _ HV.out) hri HBEL.out
    obtain ⟨m,hm⟩:∃ m:Nat,m=(([x.ty] ++ (if false=true then [x.va] else [])) ++ x.rules.map Rl.body).length:=⟨_,rfl⟩
    rw [← hm] at hu hpp
    subst hu
    have HPP:=hid hpp
    clear htr hri hm hpp
    go_wp2_with fail
    go_ret
    exact HPP.out
 ·obtain ⟨c8,c9,c10,c11,c12⟩:W1.cell? ⟨b,8,none⟩=some (.int .u8 x.va.k)∧W1.cell? ⟨b,9,none⟩=some (.int .i64 x.va.n)∧W1.cell? ⟨b,10,none⟩=some (.string x.va.s)∧W1.cell? ⟨b,11,none⟩=some (.slice h.va.lo x.va.ls.length h.va.lc)∧W1.cell? ⟨b,12,none⟩=some (.slice h.va.to x.va.ts.length h.va.tc):=t_cells x.va h.va (HB.out.keep B1.out).va
  have hq1:Hid (1 + 1≤maxLen):=hid (by unfold maxLen; omega)
  have hq2:Hid ((1 + 1) * 80≤140737488355328):=hid (by omega)
  obtain ⟨ps0,hn0,hown0,hmap0,hlie0⟩:=id HT1.out
  have HOWN0:=hid hown0
  have HN0:=hid hn0
  have HMAP0:=hid hmap0
  have HLIE0:=hid hlie0
  clear hn0 hmap0 hlie0 hown0
  go_upto_region 4 with (at_builtin; refine wpList_append_lies _ rfl _ _ _ rfl w.heap.size 25 i0 _ 5 80 Tryz.underlying23 hi hz0 hz1 hz2 rfl (by decide) _ 1 _ rfl (HOWN0.out.alloc _) ⟨W1.heap.size,0,none⟩ 1 1 (x.va.vals h.va).toList rfl rfl (World.news_of_block (cs:=x.va.vals h.va) (t:=25) (fr:=(0,0)) (World.alloc_heap_new W1 _)) (vals_one5 x.va h.va) Nat.one_pos hq1.out hq2.out (by rw [World.size_alloc]; have:=B1.out.size; omega) (W1.heap.size + 1) (World.size_alloc _ _) ?_; intro g3 cap3 W3 hown3 hg3 hat3 hlt3)
  have HT3:=hid (TRow.grow HBB.out HN0.out HOWN0.out HMAP0.out HLIE0.out (Tm.In.below (B1.out.mono HBB.out) _ _ HIN.out.va) (Below.refl _ _) hown3 hg3 B1.out.size)
  have B3:=hid (below_grown B1.out (Below.refl _ _) hg3 HOWN0.out B1.out.size)
  clear hown3 hg3 hat3 hlt3 c8 c9 c10 c11 c12 HOWN0 HN0 HMAP0 HLIE0
  have c22:W3.cell? ⟨b,22,none⟩=some (.slice h.ro x.rules.length h.rc):=(HB.out.keep B3.out).cell 22
  go_wp2_with fail
  clear c22
  go_loopw [3,25] (fun v i wr=>TsRel B w x ([x.ty] ++ (if true=true then [x.va] else [])) v i wr) (fun _ i _=>x.rules.length - (intOf i).toNat)
  case atStart=>exact ⟨0,_,rfl,by omega,by rw [List.take_zero,List.map_nil,List.append_nil]; exact HT3.out,B3.out⟩
  case round =>
   obtain ⟨k,n,rfl,hk,hrow,hbel⟩:=hrel
   have HNL:=hid (hrow.len)
   obtain ⟨ps,hnp,hown,hmap,hlie⟩:=id hrow
   have HTR:=hid hrow
   have HOWN:=hid hown
   have HMAP:=hid hmap
   have HLIE:=hid hlie
   have HNP:=hid hnp
   have HBEL:=hid hbel
   clear hrow hown hmap hlie hnp hbel HT3
   by_cases hlt:k < x.rules.length
   ·obtain ⟨b2,off,hd,hro,hb2,hrg,hbin⟩:=(HIN.out.rules.below (HBEL.out.mono HBB.out)).place k hlt
    have HST:=hid (ts_step x ([x.ty] ++ (if true=true then [x.va] else [])) hlt)
    obtain ⟨r,hre⟩:∃ r,r=x.rules[k]:=⟨_,rfl⟩
    rw [← hre] at hrg HST hbin
    have HLT:=hid hlt
    have HRG:=hid hrg
    have HBI:=hid hbin
    obtain ⟨W2,hW2⟩:∃ W2,W2=wr.alloc (.cells (r.vals hd).toArray 64):=⟨_,rfl⟩
    have B2:=hid (show Below wr.heap.size wr W2 from hW2 ▸ below_one _ _)
    have HX2:=hid (show W2.heap[wr.heap.size]?=some (.cells (r.vals hd).toArray 64) from hW2 ▸ World.alloc_heap_new _ _)
    have HOWN2:=hid (row_keep HOWN.out B2.out)
    have hz9:W2.heap.size=wr.heap.size + 1:=by rw [hW2]; simp
    have HZ2:=hid hz9
    obtain ⟨ao6,cp6,hu6⟩:=row_slice HOWN.out
    subst hu6
    rw [hro]
    clear hre hrg hz9 hbin
    go_upto_region 7 with (first
     | (refine wpList_load_mid rfl 64 (.tmp 27) rfl b2 (off + k * 7) rfl (r.vals hd) _ HRG.out Tryz.underlying64 rfl HKR.out ?_)
     | (refine wpList_store_row rfl 64 (.tmp 5) (.tmp 28) rfl wr.heap.size (r.vals hd).toArray rfl rfl 64 Rl.zero (World.alloc_heap_new wr _) HKR.out rfl (by kernel_rfl) ?_))
    rw [World.setRow_alloc_new,← hW2]
    clear hW2
    obtain ⟨d2,d3,d4,d5,d6⟩:W2.cell? ⟨wr.heap.size,2,none⟩=some (.int .u8 r.body.k)∧W2.cell? ⟨wr.heap.size,3,none⟩=some (.int .i64 r.body.n)∧W2.cell? ⟨wr.heap.size,4,none⟩=some (.string r.body.s)∧W2.cell? ⟨wr.heap.size,5,none⟩=some (.slice hd.lo r.body.ls.length hd.lc)∧W2.cell? ⟨wr.heap.size,6,none⟩=some (.slice hd.to r.body.ts.length hd.tc):=t_cells r.body hd (r_box HX2.out).2.2
    have hnn:n≤2000:=by have h1:=HNL.out; simp at h1; have:=HN.out; omega
    have hq1:Hid (n + 1≤maxLen):=hid (by unfold maxLen; omega)
    have hq2:Hid ((n + 1) * 80≤140737488355328):=hid (by omega)
    clear hnn
    go_wp2_with (at_builtin; refine wpList_append_lies _ rfl _ _ _ rfl w.heap.size 25 i0 _ 5 80 Tryz.underlying23 hi hz0 hz1 hz2 rfl (by decide) _ n _ rfl (HOWN2.out.alloc _) ⟨W2.heap.size,0,none⟩ 1 1 (r.body.vals hd).toList rfl rfl (World.news_of_block (cs:=r.body.vals hd) (t:=25) (fr:=(0,0)) (World.alloc_heap_new W2 _)) (vals_one5 r.body hd) Nat.one_pos hq1.out hq2.out (by rw [World.size_alloc]; have:=HBEL.out.size; have:=HZ2.out; omega) (W2.heap.size + 1) (World.size_alloc _ _) ?_; intro g1 cap1 w6 hown6 hg6 hat6 hlt6)
    have htr6:=TRow.grow HBB.out HNP.out HOWN.out HMAP.out HLIE.out HBI.out B2.out hown6 hg6 HBEL.out.size
    rw [HST.out] at htr6
    have HNX:Hid (∀ z:Int,z=(k:Int) + 1→TsRel B w x ([x.ty] ++ (if true=true then [x.va] else [])) (.slice (some ⟨g1,0,none⟩) (n + 1) cap1) (.int .i64 z) w6):=hid fun z hz=>⟨k + 1,n + 1,by rw [hz]; rfl,HLT.out,htr6,below_grown HBEL.out B2.out hg6 HOWN.out HBEL.out.size⟩
    have hwk:wrap64 ((k:Int) + 1)=(k:Int) + 1:=IntWalk.wrap64_in _ (by have:=HN.out; have:=HLT.out; omega)
    clear hown6 hg6 hat6 hlt6 htr6 d2 d3 d4 d5 d6
    go_wp2_with fail
    go_roundw
    case rel=>exact HNX.out _ hwk
    case measure=>exact less_step hwk HLT.out
   ·have hke:k=x.rules.length:=by omega
    subst hke
    have htr:=HTR.out
    rw [List.take_length] at htr
    obtain ⟨ao',cp',hu,hri⟩:=htr.rowB
    have hpp:=HPO.out ao' cp' wr _ (HTE.out _ HV.out) hri HBEL.out
    obtain ⟨m,hm⟩:∃ m:Nat,m=(([x.ty] ++ (if true=true then [x.va] else [])) ++ x.rules.map Rl.body).length:=⟨_,rfl⟩
    rw [← hm] at hu hpp
    subst hu
    have HPP:=hid hpp
    clear htr hri hm hpp
    go_wp2_with fail
    go_ret
    exact HPP.out
end Go.Proofs.YtmngddomnaaedaaGreat
