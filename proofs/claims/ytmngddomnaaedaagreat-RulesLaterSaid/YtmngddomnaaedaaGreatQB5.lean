/-
 Terms that the statements make: S,V,A,L,P,C,App.
-/
import Derived.Lib.Hide
import Derived.Test.YtmngddomnaaedaaGreatQB3
import Derived.Test.YtmngddomnaaedaaGreatQB4
import Derived.Deep.MidRow
import Derived.Test.YtmngddomnaaedaaGreatQB2
import Derived.Shelf.RegionOpen
import Derived.Deep.AppendLies
import Derived.Laws.OwnMore
import Derived.Deep.LoopGhost
open Go.Lib (hid)
set_option maxRecDepth 100000
set_option maxHeartbeats 32000000
namespace Go.Proofs.YtmngddomnaaedaaGreat
open Go.RowKit Go.Shelf Lvl Trm
def Trm.Made (t:Tm) (w:World) (e:Ending) (w':World):Prop:=∃ h,e=.returned (t.val h)∧t.In w'.heap.size w' h∧Below w.heap.size w w'
def Trm.Firm (m:Nat) (w:World) (t:Tm) (h:Hd):Prop:=∀ w',Ran m w w'→t.In w'.heap.size w' h
theorem Trm.Firm.here {m:Nat} {w:World} {t:Tm} {h:Hd} (g:Firm m w t h):t.In w.heap.size w h:=g w (Ran.refl _ _)
theorem Trm.Firm.step {m:Nat} {w w1:World} {t:Tm} {h:Hd} (g:Firm m w t h) (r:Ran m w w1):Firm m w1 t h:=fun w' hr=>g w' (r.trans hr)
theorem Trm.Firm.of {m B:Nat} {w:World} {t:Tm} {h:Hd} (g:t.In B w h) (hm:B≤m) (hB:B≤w.heap.size):Firm m w t h:=fun w' hr=>Tm.In.mono (by have:=hr.size; omega) _ _ (Tm.In.below (hr.below hm hB) _ _ g)
def Trm.no:ByteArray:=⟨#[]⟩
def Trm.tV (n:Int):Tm:=.mk 2 n no [] []
def Trm.t2 (k:Int) (f x:Tm):Tm:=.mk k 0 no [] [f,x]
theorem Trm.five_cells {w:World} {b:Nat} {v0 v1 v2 v3 v4:Value} {ty:TypeId} {fr:Nat × Nat} (h:w.heap[b]?=some (.cells #[v0,v1,v2,v3,v4] ty fr)) :
 w.cell? ⟨b,0,none⟩=some v0∧w.cell? ⟨b,1,none⟩=some v1∧w.cell? ⟨b,2,none⟩=some v2∧w.cell? ⟨b,3,none⟩=some v3∧w.cell? ⟨b,4,none⟩=some v4:=by
 refine ⟨?_,?_,?_,?_,?_⟩ <;> (simp [World.cell?,h])
theorem Trm.five_free {w:World} {b:Nat} {v0 v1 v2 v3 v4:Value} {ty:TypeId} (h:w.heap[b]?=some (.cells #[v0,v1,v2,v3,v4] ty)) :
 w.frozen? ⟨b,0,none⟩=false∧w.frozen? ⟨b,1,none⟩=false∧w.frozen? ⟨b,2,none⟩=false∧w.frozen? ⟨b,3,none⟩=false∧w.frozen? ⟨b,4,none⟩=false:=by
 refine ⟨?_,?_,?_,?_,?_⟩ <;> (simp [World.frozen?,h])
def Trm.putT (w:World) (b:Nat) (v0 v1 v2 v3 v4:Value):World:=((((w.setCell ⟨b,0,none⟩ v0).setCell ⟨b,1,none⟩ v1).setCell ⟨b,2,none⟩ v2).setCell ⟨b,3,none⟩ v3).setCell ⟨b,4,none⟩ v4
theorem Trm.putT_self {w:World} {b:Nat} {u0 u1 u2 u3 u4:Value} {ty:TypeId} {fr:Nat × Nat} (h:w.heap[b]?=some (.cells #[u0,u1,u2,u3,u4] ty fr)) (v0 v1 v2 v3 v4:Value):(putT w b v0 v1 v2 v3 v4).heap[b]?=some (.cells #[v0,v1,v2,v3,v4] ty fr):=by
 simp [putT,World.setCell,Array.getElem?_modify,h]
theorem Trm.putT_other {w:World} {k:Nat} {o:Obj} (h:w.heap[k]?=some o) (v0 v1 v2 v3 v4:Value) {b:Nat} (hb:b ≠ k):(putT w b v0 v1 v2 v3 v4).heap[k]?=some o :=
 cells_other (cells_other (cells_other (cells_other (cells_other h _ hb) _ hb) _ hb) _ hb) _ hb
theorem Trm.putT_below {w W:World} (h:Below w.heap.size w W) {B:Nat} (hB:w.heap.size≤B) (v0 v1 v2 v3 v4:Value):Below w.heap.size w (putT W B v0 v1 v2 v3 v4):=below_all h hB _ _ _ _ _
theorem Trm.putT_size (w:World) (b:Nat) (v0 v1 v2 v3 v4:Value):(putT w b v0 v1 v2 v3 v4).heap.size=w.heap.size:=by simp [putT,World.setCell]
theorem Trm.t2_in {B:Nat} {w:World} {k:Int} {f x:Tm} {hf hx:Hd} {g:Nat} {ty:TypeId} {fr:Nat × Nat} (hk0:0≤k) (hk1:k≤255) (hg:w.heap[g]?=some (.cells (f.vals hf ++ x.vals hx) ty fr)) (hB:g < B) (h1:f.In B w hf) (h2:x.In B w hx) :
 (t2 k f x).In B w ⟨none,0,some ⟨g,0,none⟩,2⟩:=by
 refine Tm.In_iff.2 ⟨⟨hk0,hk1,by simp [t2,Tm.n],by simp [t2,Tm.n],by simp [t2,Tm.s,no,ByteArray.size],by simp [t2,Tm.ls],by simp [t2,Tm.ts]⟩,⟨fun k hk=>by simp [t2,Tm.ls] at hk⟩,fun hn=>by simp [t2,Tm.ls] at hn,?_,by simp [t2,Tm.ls]⟩
 refine RowIn.mk fun i hi=>?_
 have hi2:i=0∨i=1:=by simp [t2,Tm.ts] at hi; omega
 rcases hi2 with rfl | rfl
 ·refine ⟨g,0,rfl,hB,hf,⟨?_,?_,?_,?_,?_⟩,h1⟩ <;> (simp [World.cell?,hg,Tm.vals,t2,Tm.ts])
 ·refine ⟨g,0,rfl,hB,hx,⟨?_,?_,?_,?_,?_⟩,h2⟩ <;> (simp [World.cell?,hg,Tm.vals,t2,Tm.ts])
theorem Trm.leaf_in {B:Nat} {w:World} {k n:Int} {s:ByteArray} {lc tc:Nat} (hk0:0≤k) (hk1:k≤255) (hn0:-9223372036854775808≤n) (hn1:n≤9223372036854775807) (hs:s.size≤9223372036854775807):(Tm.mk k n s [] []).In B w ⟨none,lc,none,tc⟩ :=
 Tm.In_iff.2 ⟨⟨hk0,hk1,hn0,hn1,hs,by simp [Tm.ls],by simp [Tm.ts]⟩,⟨fun k hk=>by simp [Tm.ls] at hk⟩,fun hn=>by simp [Tm.ls] at hn,RowIn.mk fun i hi=>by simp [Tm.ts] at hi,by simp [Tm.ls]⟩
theorem Trm.below_four (w:World) (o1 o2 o3 o4:Obj):Below w.heap.size w ((((w.alloc o1).alloc o2).alloc o3).alloc o4) :=
 ((((Below.refl _ _).alloc (Nat.le_refl _) _).alloc (by simp) _).alloc (by simp; omega) _).alloc (by simp; omega) _
theorem RefZero_any (w:World):Calls Tryz.prog 44 #[] w fun e w'=>e=.returned (number 0).val∧Below w.heap.size w w':=by
 unfold number Lv.val
 go_enter Tryz.func44,Tryz.ntmps44
 go_wp2_with fail
 exact bodyPost_ret (v:=.agg #[.int .i64 0,.int .i64 (-1),.int .i64 (-1),.int .i64 (-1),.int .i64 (-1)]) (by simp [results,Tryz.results44,go_sem]) rfl ⟨rfl,below_one _ _⟩
end Go.Proofs.YtmngddomnaaedaaGreat
namespace Go.Proofs.YtmngddomnaaedaaGreat
open Go.RowKit Go.Shelf Lvl Trm
theorem Trm.RowIn.below {B:Nat} {w w1:World} {ao:Option Addr} {ts:List Tm} (h:RowIn B w ao 0 ts) (g:Below B w w1):RowIn B w1 ao 0 ts :=
 RowIn.mk fun k hk=>by
  obtain ⟨b,off,hao,hat⟩:=h.place k hk
  exact ⟨b,off,hao,hat.below g⟩
theorem Trm.RowIn.mono {B B':Nat} {w:World} {ao:Option Addr} {ts:List Tm} (h:RowIn B w ao 0 ts) (hB:B≤B'):RowIn B' w ao 0 ts :=
 RowIn.mk fun k hk=>by
  obtain ⟨b,off,hao,hat⟩:=h.place k hk
  exact ⟨b,off,hao,hat.mono hB⟩
theorem Trm.carryRow {w w':World} {ao:Option Addr} {ts:List Tm} (h:RowIn w.heap.size w ao 0 ts) (b:Below w.heap.size w w'):RowIn w'.heap.size w' ao 0 ts:=(h.below b).mono b.size
structure Trm.RanS (P:Nat→Prop) (w w':World):Prop where
 os:w'.os=w.os
 tape:w'.tape=w.tape
 output:w'.output=w.output
 size:w.heap.size≤w'.heap.size
 block:∀ k,k < w.heap.size→¬ P k→w'.heap[k]?=w.heap[k]?
theorem Trm.RanS.refl (P:Nat→Prop) (w:World):RanS P w w:=⟨rfl,rfl,rfl,Nat.le_refl _,fun _ _ _=>rfl⟩
theorem Trm.RanS.trans {P:Nat→Prop} {a b c:World} (h:RanS P a b) (k:RanS P b c):RanS P a c :=
 ⟨k.os.trans h.os,k.tape.trans h.tape,k.output.trans h.output,Nat.le_trans h.size k.size,fun i hi hm=>(k.block i (Nat.lt_of_lt_of_le hi h.size) hm).trans (h.block i hi hm)⟩
theorem Trm.RanS.of_below {P:Nat→Prop} {w w':World} (h:Below w.heap.size w w'):RanS P w w':=⟨h.os,h.tape,h.output,h.size,fun k hk _=>h.block k hk⟩
theorem Trm.RanS.of_ran {P:Nat→Prop} {m:Nat} {w w':World} (h:Ran m w w') (hm:P m):RanS P w w':=⟨h.os,h.tape,h.output,h.size,fun k hk hn=>h.block k hk (fun e=>hn (e ▸ hm))⟩
theorem Trm.RanS.below {P:Nat→Prop} {B:Nat} {w w':World} (h:RanS P w w') (hm:∀ k,P k→B≤k) (hB:B≤w.heap.size):Below B w w' :=
 ⟨h.os,h.tape,h.output,h.size,fun k hk=>h.block k (by omega) (fun hp=>by have:=hm k hp; omega)⟩
theorem Trm.RanS.keep {P:Nat→Prop} {w w':World} (h:RanS P w w') {k:Nat} {o:Obj} (hk:w.heap[k]?=some o) (hm:¬ P k):w'.heap[k]?=some o:=by
 rw [h.block k (Array.getElem?_eq_some_iff.1 hk).1 hm]; exact hk
def Trm.FirmS (P:Nat→Prop) (w:World) (t:Tm) (h:Hd):Prop:=∀ w',RanS P w w'→t.In w'.heap.size w' h
theorem Trm.FirmS.here {P:Nat→Prop} {w:World} {t:Tm} {h:Hd} (g:FirmS P w t h):t.In w.heap.size w h:=g w (RanS.refl _ _)
theorem Trm.FirmS.step {P:Nat→Prop} {w w1:World} {t:Tm} {h:Hd} (g:FirmS P w t h) (r:RanS P w w1):FirmS P w1 t h:=fun w' hr=>g w' (r.trans hr)
theorem Trm.FirmS.of {P:Nat→Prop} {B:Nat} {w:World} {t:Tm} {h:Hd} (g:t.In B w h) (hm:∀ k,P k→B≤k) (hB:B≤w.heap.size):FirmS P w t h:=fun w' hr=>Tm.In.mono (by have:=hr.size; omega) _ _ (Tm.In.below (hr.below hm hB) _ _ g)
theorem Trm.FirmS.t2 {P:Nat→Prop} {w:World} {k:Int} {f x:Tm} {hf hx:Hd} {g:Nat} {ty:TypeId} {fr:Nat × Nat} (hk0:0≤k) (hk1:k≤255) (hg:w.heap[g]?=some (.cells (f.vals hf ++ x.vals hx) ty fr)) (hn:¬ P g) (h1:FirmS P w f hf) (h2:FirmS P w x hx) :
 FirmS P w (t2 k f x) ⟨none,0,some ⟨g,0,none⟩,2⟩:=fun w' hr=>t2_in hk0 hk1 (hr.keep hg hn) (by have:=(Array.getElem?_eq_some_iff.1 hg).1; have:=hr.size; omega) (h1 w' hr) (h2 w' hr)
def Trm.MadeP (t:Tm) (w:World) (C:(Nat→Prop)→Prop) (e:Ending) (w':World):Prop:=∃ h,e=.returned (t.val h)∧Below w.heap.size w w'∧∀ P:Nat→Prop,(∀ k,P k→k < w.heap.size)→C P→FirmS P w' t h
end Go.Proofs.YtmngddomnaaedaaGreat
namespace Go.Proofs.YtmngddomnaaedaaGreat
open Go.RowKit Go.Shelf Lvl Trm
namespace Env
structure Rl where
 ctor:ByteArray
 fields:Int
 body:Tm
structure Inf where
 kind:Int
 name:ByteArray
 params:Int
 ty:Tm
 va:Tm
 height:Int
 block:ByteArray
 of_:ByteArray
 fixed:Int
 index:Int
 no:Int
 fields:Int
 motives:Int
 minors:Int
 rules:List Rl
 ctors:Int
 record:Bool
structure IHd where
 ty:Hd
 va:Hd
 ro:Option Addr
 rc:Nat
def five (t:Tm) (h:Hd):List Value:=[.int .u8 t.k,.int .i64 t.n,.string t.s,.slice h.lo t.ls.length h.lc,.slice h.to t.ts.length h.tc]
def Rl.vals (r:Rl) (h:Hd):List Value:=[.string r.ctor,.int .i64 r.fields] ++ five r.body h
def Inf.vals (x:Inf) (h:IHd):List Value :=
 [.int .u8 x.kind,.string x.name,.int .i64 x.params] ++ five x.ty h.ty ++ five x.va h.va ++ [.int .i64 x.height,.string x.block,.string x.of_,.int .i64 x.fixed,.int .i64 x.index,.int .i64 x.no,.int .i64 x.fields,.int .i64 x.motives,.int .i64 x.minors,.slice h.ro x.rules.length h.rc,.int .i64 x.ctors,.bool x.record]
theorem Rl.len (r:Rl) (h:Hd):(r.vals h).length=7:=rfl
theorem Inf.len (x:Inf) (h:IHd):(x.vals h).length=25:=rfl
structure Inf.Fit (x:Inf):Prop where
 k0:0≤x.kind
 k1:x.kind≤255
 name:x.name.size≤9223372036854775807
 rules:x.rules.length≤9223372036854775807
structure RRow (B:Nat) (w:World) (ro:Option Addr) (rs:List Rl):Prop where
 place:∀ k (hk:k < rs.length),∃ b off hd,ro=some ⟨b,off,none⟩∧b < B∧w.rangeAt b (off + k * 7) (rs[k].vals hd)∧rs[k].body.In B w hd
structure Inf.In (B:Nat) (w:World) (x:Inf) (h:IHd):Prop where
 fit:x.Fit
 ty:x.ty.In B w h.ty
 va:x.va.In B w h.va
 rules:RRow B w h.ro x.rules
structure InfRow (B:Nat) (w:World) (lo:Option Addr) (l:List Inf):Prop where
 place:∀ k (hk:k < l.length),∃ b off hd,lo=some ⟨b,off,none⟩∧b < B∧w.rangeAt b (off + k * 25) (l[k].vals hd)∧l[k].In B w hd
theorem range_below {B:Nat} {w w':World} {b o:Nat} {cs:List Value} (h:w.rangeAt b o cs) (g:Below B w w') (hb:b < B):w'.rangeAt b o cs:=fun j v hv=>(g.cell (p:=⟨b,o + j,none⟩) hb).trans (h j v hv)
theorem RRow.below {B:Nat} {w w':World} {ro:Option Addr} {rs:List Rl} (h:RRow B w ro rs) (g:Below B w w'):RRow B w' ro rs :=
 ⟨fun k hk=>by
  obtain ⟨b,off,hd,h1,h2,h3,h4⟩:=h.place k hk
  exact ⟨b,off,hd,h1,h2,range_below h3 g h2,Tm.In.below g _ _ h4⟩⟩
theorem RRow.mono {B B':Nat} {w:World} {ro:Option Addr} {rs:List Rl} (h:RRow B w ro rs) (hB:B≤B'):RRow B' w ro rs :=
 ⟨fun k hk=>by
  obtain ⟨b,off,hd,h1,h2,h3,h4⟩:=h.place k hk
  exact ⟨b,off,hd,h1,by omega,h3,Tm.In.mono hB _ _ h4⟩⟩
theorem Inf.In.below {B:Nat} {w w':World} {x:Inf} {h:IHd} (i:x.In B w h) (g:Below B w w'):x.In B w' h:=⟨i.fit,Tm.In.below g _ _ i.ty,Tm.In.below g _ _ i.va,i.rules.below g⟩
theorem Inf.In.mono {B B':Nat} {w:World} {x:Inf} {h:IHd} (i:x.In B w h) (hB:B≤B'):x.In B' w h:=⟨i.fit,Tm.In.mono hB _ _ i.ty,Tm.In.mono hB _ _ i.va,i.rules.mono hB⟩
theorem Inf.carry {w w':World} {x:Inf} {h:IHd} (i:x.In w.heap.size w h) (g:Below w.heap.size w w'):x.In w'.heap.size w' h:=(i.below g).mono g.size
theorem InfRow.below {B:Nat} {w w':World} {lo:Option Addr} {l:List Inf} (h:InfRow B w lo l) (g:Below B w w'):InfRow B w' lo l :=
 ⟨fun k hk=>by
  obtain ⟨b,off,hd,h1,h2,h3,h4⟩:=h.place k hk
  exact ⟨b,off,hd,h1,h2,range_below h3 g h2,h4.below g⟩⟩
theorem InfRow.mono {B B':Nat} {w:World} {lo:Option Addr} {l:List Inf} (h:InfRow B w lo l) (hB:B≤B'):InfRow B' w lo l :=
 ⟨fun k hk=>by
  obtain ⟨b,off,hd,h1,h2,h3,h4⟩:=h.place k hk
  exact ⟨b,off,hd,h1,by omega,h3,h4.mono hB⟩⟩
theorem InfRow.carry {w w':World} {lo:Option Addr} {l:List Inf} (i:InfRow w.heap.size w lo l) (g:Below w.heap.size w w'):InfRow w'.heap.size w' lo l:=(i.below g).mono g.size
def IBox (w:World) (b:Nat) (x:Inf) (h:IHd):Prop:=w.heap[b]?=some (.cells (x.vals h).toArray 53)
theorem IBox.cell {w:World} {b:Nat} {x:Inf} {h:IHd} (i:IBox w b x h) (j:Nat):w.cell? ⟨b,j,none⟩=(x.vals h)[j]?:=by
 have i2:w.heap[b]?=some (.cells (x.vals h).toArray 53):=i
 unfold World.cell?
 simp [i2]
theorem IBox.range {w:World} {b:Nat} {x:Inf} {h:IHd} (i:IBox w b x h):w.rangeAt b 0 (x.vals h):=fun j v hv=>by rw [Nat.zero_add,i.cell]; exact hv
theorem IBox.ty {w:World} {b:Nat} {x:Inf} {h:IHd} (i:IBox w b x h):TCells w b 3 x.ty h.ty:=⟨i.cell 3,i.cell 4,i.cell 5,i.cell 6,i.cell 7⟩
theorem IBox.va {w:World} {b:Nat} {x:Inf} {h:IHd} (i:IBox w b x h):TCells w b 8 x.va h.va:=⟨i.cell 8,i.cell 9,i.cell 10,i.cell 11,i.cell 12⟩
theorem IBox.keep {w w':World} {b:Nat} {x:Inf} {h:IHd} (i:IBox w b x h) (g:Below w.heap.size w w'):IBox w' b x h:=(g.block b (Array.getElem?_eq_some_iff.1 i).1).trans i
theorem IBox.lt {w:World} {b:Nat} {x:Inf} {h:IHd} (i:IBox w b x h):b < w.heap.size:=(Array.getElem?_eq_some_iff.1 i).1
def Inf.hv (x:Inf):Bool:=decide (x.kind=2) || decide (x.kind=3)
def numOk (n:Int):Bool:=!(decide (n < 0) || decide (1000 < n))
def Inf.ns (x:Inf):List Int:=[x.fixed,x.index,x.no,x.fields,x.motives,x.minors,x.ctors] ++ x.rules.map Rl.fields
def Inf.nums (x:Inf):Bool:=x.ns.all numOk
def Inf.isKind (x:Inf):Bool:=decide (1≤x.kind) && decide (x.kind≤6)
def Inf.terms (x:Inf):List Tm:=[x.ty] ++ (if x.hv=true then [x.va] else []) ++ x.rules.map Rl.body
end Env
end Go.Proofs.YtmngddomnaaedaaGreat
namespace Go.Proofs.YtmngddomnaaedaaGreat
open Go.RowKit Go.Shelf Lvl Trm Env
theorem isKind_any (k:Int) (w:World):Calls Tryz.prog 98 #[.int .u8 k] w fun e w'=>e=.returned (.bool (decide (1≤k) && decide (k≤6)))∧w=w':=by
 by_cases h1:1≤k
 ·by_cases h2:k≤6
  ·rw [decide_eq_true h1,decide_eq_true h2]
   go_enter Tryz.func98,Tryz.ntmps98
   go_wp2_with fail
   go_ret
   exact ⟨rfl,rfl⟩
  ·rw [decide_eq_true h1,decide_eq_false h2]
   have h3:6 < k:=by omega
   go_enter Tryz.func98,Tryz.ntmps98
   go_wp2_with fail
   go_ret
   exact ⟨rfl,rfl⟩
 ·rw [decide_eq_false h1]
  have h3:k < 1:=by omega
  go_enter Tryz.func98,Tryz.ntmps98
  go_wp2_with fail
  go_ret
  exact ⟨rfl,rfl⟩
theorem hasValue_any {w:World} {b:Nat} {x:Inf} {h:IHd} (hb:IBox w b x h):Calls Tryz.prog 101 #[.pointer (some ⟨b,0,none⟩)] w fun e w'=>e=.returned (.bool x.hv)∧w=w':=by
 have c0:w.cell? ⟨b,0,none⟩=some (.int .u8 x.kind):=hb.cell 0
 clear hb
 unfold Inf.hv
 by_cases h1:x.kind=2
 ·rw [decide_eq_true h1]
  rw [h1] at c0
  clear h1
  go_enter Tryz.func101,Tryz.ntmps101
  go_wp2_with fail
  go_ret
  exact ⟨rfl,rfl⟩
 ·rw [decide_eq_false h1]
  have h3:(x.kind == 2)=false:=by simpa using h1
  generalize x.kind=kd at *
  by_cases h2:kd=3
  ·rw [decide_eq_true h2]
   subst h2
   go_enter Tryz.func101,Tryz.ntmps101
   go_wp2_with fail
   go_ret
   exact ⟨rfl,rfl⟩
  ·rw [decide_eq_false h2]
   have h4:(kd == 3)=false:=by simpa using h2
   go_enter Tryz.func101,Tryz.ntmps101
   go_wp2_with fail
   go_ret
   exact ⟨rfl,rfl⟩
theorem numberNot_any (n:Int) (w:World):Calls Tryz.prog 140 #[.int .i64 n] w fun e w'=>e=.returned (.bool (!(numOk n)))∧w=w':=by
 unfold numOk
 by_cases h1:n < 0
 ·rw [decide_eq_true h1]
  go_enter Tryz.func140,Tryz.ntmps140
  go_wp2_with fail
  go_ret
  exact ⟨rfl,rfl⟩
 ·rw [decide_eq_false h1]
  have h0:0≤n:=by omega
  by_cases h2:1000 < n
  ·rw [decide_eq_true h2]
   go_enter Tryz.func140,Tryz.ntmps140
   go_wp2_with fail
   go_ret
   exact ⟨rfl,rfl⟩
  ·rw [decide_eq_false h2]
   have h3:n≤1000:=by omega
   go_enter Tryz.func140,Tryz.ntmps140
   go_wp2_with fail
   go_ret
   exact ⟨rfl,rfl⟩
namespace Env
structure ZRow (w:World) (ao:Option Addr) (ns:List Int):Prop where
 place:∀ k (h:k < ns.length),∃ b off,ao=some ⟨b,off,none⟩∧w.cell? ⟨b,off + k,none⟩=some (.int .i64 ns[k])
def zs (ns:List Int):List Value:=ns.map fun n=>.int .i64 n
theorem zs_snoc (a:List Int) (n:Int):zs a ++ [.int .i64 n]=zs (a ++ [n]):=by simp [zs]
theorem zrow_of {w:World} {base n:Nat} {v:Value} {ns:List Int} (hn:n=ns.length) (h:w.ownsRow base 3 1 v n (zs ns)):∃ ao cp,v=.slice ao ns.length cp∧ZRow w ao ns:=by
 subst hn
 rcases h.2 with ⟨hv,h0⟩ | ⟨g,cap,cur,hv,hb,hg,_⟩
 ·exact ⟨none,0,by rw [hv,h0],⟨fun k hk=>by omega⟩⟩
 ·refine ⟨_,cap,hv,⟨fun k hk=>⟨g,0,rfl,?_⟩⟩⟩
  have h1:=h.cells (g:=g) (by rw [hv]; rfl) k (.int .i64 ns[k]) (by unfold zs; rw [List.getElem?_map,List.getElem?_eq_getElem hk]; rfl)
  rw [Addr.add_mid] at h1
  exact h1
def IxRel (w:World) (ns:List Int) (i:Value) (wr:World):Prop:=∃ k:Nat,i=.int .i64 k∧k≤ns.length∧(∀ j (h:j < ns.length),j < k→numOk ns[j]=true)∧w=wr
end Env
theorem IndexFunc_any (ns:List Int) (ao:Option Addr) (cp:Nat) (w:World) (hr:ZRow w ao ns) (hlen:ns.length≤1000000):Calls Tryz.prog 172 #[.slice ao ns.length cp,.func (.func 140) #[] #[]] w fun e w'=>(∃ z:Int,e=.returned (.int .i64 z)∧(0≤z ↔ ns.all numOk=false))∧w=w':=by
 have HR:=hid hr
 have HLEN:=hid hlen
 clear hr hlen
 go_enter Tryz.func172,Tryz.ntmps172
 go_wp2_with fail
 go_loopw [8] (fun i wr=>IxRel w ns i wr) (fun i _=>ns.length - (intOf i).toNat)
 case atStart=>exact ⟨0,rfl,by omega,fun j _ h=>by omega,rfl⟩
 case round =>
  obtain ⟨k,rfl,hk,hall,rfl⟩:=hrel
  have HALL:=hid hall
  clear hall
  by_cases hlt:k < ns.length
  ·obtain ⟨b,off,hao,hc⟩:=HR.out.place k hlt
   subst hao
   have hwk:IntKind.i64.wrap ((k:Int) + 1)=(k:Int) + 1:=IntWalk.i64_in _ (by have:=HLEN.out; omega)
   have HC:=hid (numberNot_any ns[k] w)
   have HNO:Hid (numOk ns[k]=false→ns.all numOk=false):=hid (fun h=>by
    rw [← Bool.not_eq_true,List.all_eq_true]
    intro ha
    have:=ha _ (List.getElem_mem hlt)
    rw [h] at this; cases this)
   have HYE:Hid (numOk ns[k]=true→∀ j (h:j < ns.length),j < k + 1→numOk ns[j]=true):=hid (fun h j hj hjk=>by
    by_cases e:j=k
    ·subst e; exact h
    ·exact HALL.out j hj (by omega))
   obtain ⟨z,hz⟩:∃ z,z=numOk ns[k]:=⟨_,rfl⟩
   rw [← hz] at HC HNO HYE
   clear hz
   generalize ns[k]=y at hc HC
   cases z
   ·go_wp2_with fail
    refine HC.out.mono ?_
    rintro e w' ⟨rfl,rfl⟩
    have HE:=hid (HNO.out trivial)
    go_wp2_with fail
    go_ret
    exact ⟨⟨_,rfl,fun _=>HE.out,fun _=>by omega⟩,rfl⟩
   ·go_wp2_with fail
    refine HC.out.mono ?_
    rintro e w' ⟨rfl,rfl⟩
    have HE:=hid (HYE.out trivial)
    go_wp2_with fail
    go_roundw
    case rel=>exact ⟨k + 1,by go_num,by omega,HE.out,rfl⟩
    case measure=>simp [intOf]; omega
  ·have HE:Hid (ns.all numOk=true):=hid (by
    rw [List.all_eq_true]
    intro x hx
    obtain ⟨j,hj,rfl⟩:=List.getElem_of_mem hx
    exact HALL.out j hj (by omega))
   go_wp2_with fail
   go_ret
   exact ⟨⟨_,rfl,fun h=>by omega,fun h=>by rw [HE.out] at h; cases h⟩,rfl⟩
theorem ContainsFunc_any (ns:List Int) (ao:Option Addr) (cp:Nat) (w:World) (hr:ZRow w ao ns) (hlen:ns.length≤1000000):Calls Tryz.prog 139 #[.slice ao ns.length cp,.func (.func 140) #[] #[]] w fun e w'=>e=.returned (.bool (!(ns.all numOk)))∧w=w':=by
 have HI:=hid (IndexFunc_any ns ao cp w hr hlen)
 obtain ⟨A,hA⟩:∃ A,A=ns.all numOk:=⟨_,rfl⟩
 rw [← hA] at HI ⊢
 clear hr hlen hA
 go_enter Tryz.func139,Tryz.ntmps139
 go_wp2_with fail
 refine HI.out.mono ?_
 rintro e w' ⟨⟨z,rfl,hz⟩,rfl⟩
 cases A
 ·have hz2:decide (0≤z)=true:=decide_eq_true (hz.2 rfl)
  clear hz
  go_wp2_with fail
  go_ret
  exact ⟨rfl,rfl⟩
 ·have hz2:decide (0≤z)=false:=decide_eq_false (fun h=>by cases hz.1 h)
  clear hz
  go_wp2_with fail
  go_ret
  exact ⟨rfl,rfl⟩
end Go.Proofs.YtmngddomnaaedaaGreat
namespace Go.Proofs.YtmngddomnaaedaaGreat
open Go.RowKit Go.Shelf Lvl Trm
structure Trm.TBlock (w:World) (g S:Nat) (ps:List (Tm × Hd)):Prop where
 ex:∃ cur:Array Value,w.heap[g]?=some (.cells cur 25 (0,0))∧cur.size=S∧ps.length * 5≤S∧∀ k (hk:k < ps.length) q,q < 5→cur[k * 5 + q]?=(ps[k].1.vals ps[k].2)[q]?
def Trm.putO (w:World) (b o:Nat) (v0 v1 v2 v3 v4:Value):World:=((((w.setCell ⟨b,o,none⟩ v0).setCell ⟨b,o + 1,none⟩ v1).setCell ⟨b,o + 2,none⟩ v2).setCell ⟨b,o + 3,none⟩ v3).setCell ⟨b,o + 4,none⟩ v4
theorem Trm.TBlock.cells {w:World} {g S:Nat} {ps:List (Tm × Hd)} (h:TBlock w g S ps) (k:Nat) (hk:k < ps.length):TCells w g (k * 5) ps[k].1 ps[k].2:=by
 obtain ⟨cur,hg,_,_,hc⟩:=h
 have h0:=hc k hk 0 (by omega)
 have h1:=hc k hk 1 (by omega)
 have h2:=hc k hk 2 (by omega)
 have h3:=hc k hk 3 (by omega)
 have h4:=hc k hk 4 (by omega)
 refine ⟨?_,?_,?_,?_,?_⟩ <;> (simp only [World.cell?,hg]; simp [Tm.vals] at h0 h1 h2 h3 h4 ⊢; assumption)
theorem Trm.TBlock.free {w:World} {g S:Nat} {ps:List (Tm × Hd)} (h:TBlock w g S ps) (o:Nat):w.frozen? ⟨g,o,none⟩=false:=by
 obtain ⟨cur,hg,_⟩:=h
 simp [World.frozen?,hg]
theorem Trm.TBlock.lt {w:World} {g S:Nat} {ps:List (Tm × Hd)} (h:TBlock w g S ps):g < w.heap.size:=by
 obtain ⟨cur,hg,_⟩:=h
 exact (Array.getElem?_eq_some_iff.1 hg).1
def Trm.five (cur:Array Value) (o:Nat) (v0 v1 v2 v3 v4:Value):Array Value:=((((cur.setIfInBounds o v0).setIfInBounds (o + 1) v1).setIfInBounds (o + 2) v2).setIfInBounds (o + 3) v3).setIfInBounds (o + 4) v4
theorem Trm.five_size (cur:Array Value) (o:Nat) (v0 v1 v2 v3 v4:Value):(five cur o v0 v1 v2 v3 v4).size=cur.size:=by simp [five]
theorem Trm.five_far (cur:Array Value) (o:Nat) (v0 v1 v2 v3 v4:Value) (x:Nat) (h:x < o∨o + 4 < x):(five cur o v0 v1 v2 v3 v4)[x]?=cur[x]?:=by
 unfold five
 simp only [Array.getElem?_setIfInBounds]
 rw [if_neg (by omega),if_neg (by omega),if_neg (by omega),if_neg (by omega),if_neg (by omega)]
theorem Trm.five_at (cur:Array Value) (o:Nat) (v0 v1 v2 v3 v4:Value) (h:o + 4 < cur.size) :
 (five cur o v0 v1 v2 v3 v4)[o]?=some v0∧(five cur o v0 v1 v2 v3 v4)[o + 1]?=some v1∧(five cur o v0 v1 v2 v3 v4)[o + 2]?=some v2∧(five cur o v0 v1 v2 v3 v4)[o + 3]?=some v3∧(five cur o v0 v1 v2 v3 v4)[o + 4]?=some v4:=by
 unfold five
 simp only [Array.getElem?_setIfInBounds,Array.size_setIfInBounds]
 refine ⟨?_,?_,?_,?_,?_⟩
 ·rw [if_neg (by omega),if_neg (by omega),if_neg (by omega),if_neg (by omega),if_pos trivial,if_pos (by omega)]
 ·rw [if_neg (by omega),if_neg (by omega),if_neg (by omega),if_pos trivial,if_pos (by omega)]
 ·rw [if_neg (by omega),if_neg (by omega),if_pos trivial,if_pos (by omega)]
 ·rw [if_neg (by omega),if_pos trivial,if_pos (by omega)]
 ·rw [if_pos trivial,if_pos (by omega)]
theorem Trm.TBlock.put {w:World} {g S:Nat} {ps:List (Tm × Hd)} (h:TBlock w g S ps) (i:Nat) (hi:i < ps.length) (p:Tm × Hd) :
 TBlock (putO w g (i * 5) (.int .u8 p.1.k) (.int .i64 p.1.n) (.string p.1.s) (.slice p.2.lo p.1.ls.length p.2.lc) (.slice p.2.to p.1.ts.length p.2.tc)) g S (ps.set i p):=by
 obtain ⟨cur,hg,hs,hl,hc⟩:=h
 refine ⟨five cur (i * 5) (.int .u8 p.1.k) (.int .i64 p.1.n) (.string p.1.s) (.slice p.2.lo p.1.ls.length p.2.lc) (.slice p.2.to p.1.ts.length p.2.tc),?_,?_,?_,?_⟩
 ·simp [putO,five,World.setCell,Array.getElem?_modify,hg]
 ·rw [five_size,hs]
 ·simpa using hl
 ·intro k hk q hq
  simp only [List.length_set] at hk
  by_cases hki:i=k
  ·subst hki
   rw [List.getElem_set_self]
   obtain ⟨f0,f1,f2,f3,f4⟩:=five_at cur (i * 5) (.int .u8 p.1.k) (.int .i64 p.1.n) (.string p.1.s) (.slice p.2.lo p.1.ls.length p.2.lc) (.slice p.2.to p.1.ts.length p.2.tc) (by omega)
   have h5:q=0∨q=1∨q=2∨q=3∨q=4:=by omega
   rcases h5 with rfl | rfl | rfl | rfl | rfl
   ·exact f0
   ·exact f1
   ·exact f2
   ·exact f3
   ·exact f4
  ·rw [five_far _ _ _ _ _ _ _ _ (by omega),List.getElem_set_ne hki]
   exact hc k hk q hq
theorem Trm.Ran.set (w:World) (g o:Nat) (v:Value):Ran g w (w.setCell ⟨g,o,none⟩ v):=⟨rfl,rfl,rfl,by simp [World.setCell],fun k _ hk=>Below.heap_setCell _ _ _ _ hk⟩
theorem Trm.putO_ran (w:World) (g o:Nat) (v0 v1 v2 v3 v4:Value):Ran g w (putO w g o v0 v1 v2 v3 v4) :=
 ((((Ran.set w g o v0).trans (Ran.set _ g (o + 1) v1)).trans (Ran.set _ g (o + 2) v2)).trans (Ran.set _ g (o + 3) v3)).trans (Ran.set _ g (o + 4) v4)
theorem Trm.TBlock.drew {w:World} {g S:Nat} {ps:List (Tm × Hd)} (h:TBlock w g S ps):TBlock w.drew g S ps:=by
 obtain ⟨cur,h⟩:=h
 exact ⟨⟨cur,h⟩⟩
theorem Trm.RevStep.mk {ps cur:List (Tm × Hd)} {a b:Nat} (han:a < ps.length) (hbn:b < ps.length) (hb:b=ps.length - 1 - a) (hlt:2 * a + 1 < ps.length)
 (h:∀ k (h1:k < cur.length) (h2:k < ps.length) (h3:ps.length - 1 - k < ps.length),(k < a∨ps.length≤k + a→cur[k]=ps[ps.length - 1 - k])∧(¬ (k < a∨ps.length≤k + a)→cur[k]=ps[k])) :
 ∀ k (h1:k < ((cur.set a ps[b]).set b ps[a]).length) (h2:k < ps.length) (h3:ps.length - 1 - k < ps.length),(k < a + 1∨ps.length≤k + (a + 1)→((cur.set a ps[b]).set b ps[a])[k]=ps[ps.length - 1 - k])∧(¬ (k < a + 1∨ps.length≤k + (a + 1))→((cur.set a ps[b]).set b ps[a])[k]=ps[k]):=by
 intro k h1 h2 h3
 simp only [List.length_set] at h1
 rw [List.getElem_set]
 split
 ·rename_i e
  subst e
  refine ⟨fun _=>?_,fun hn=>by omega⟩
  congr 1
  omega
 ·rw [List.getElem_set]
  split
  ·rename_i e
   subst e
   refine ⟨fun _=>?_,fun hn=>by omega⟩
   subst hb
   rfl
  ·have:=h k h1 h2 h3
   exact ⟨fun hk=>this.1 (by omega),fun hk=>this.2 (by omega)⟩
def Trm.RevRel (w:World) (g S n:Nat) (i j:Value) (ps:List (Tm × Hd)) (wr:World):Prop :=
 ∃ (a:Nat) (cur:List (Tm × Hd)),i=.int .i64 a∧j=.int .i64 ((n:Int) - 1 - a)∧2 * a≤n + 1∧cur.length=n∧(∀ k (h1:k < cur.length) (h2:k < ps.length) (h3:n - 1 - k < ps.length),(k < a∨n≤k + a→cur[k]=ps[n - 1 - k])∧(¬ (k < a∨n≤k + a)→cur[k]=ps[k]))∧TBlock wr g S cur∧Ran g w wr
theorem Reverse_any (g S cap:Nat) (ps:List (Tm × Hd)) (w:World) (hb:TBlock w g S ps) (hn:ps.length≤1000000000) :
 Calls Tryz.prog 128 #[.slice (some ⟨g,0,none⟩) ps.length cap] w fun e w'=>e=.returned (.tuple #[])∧TBlock w' g S ps.reverse∧Ran g w w':=by
 have HB:=hid hb
 clear hb
 go_enter Tryz.func128,Tryz.ntmps128
 go_wp2_with fail
 go_loopw [2,3] (fun i j wr=>RevRel w g S ps.length i j ps wr) (fun i _ _=>ps.length - (intOf i).toNat)
 case atStart=>exact ⟨0,ps,rfl,by simp,by omega,rfl,fun k h1 h2 h3=>⟨fun h=>by omega,fun _=>rfl⟩,HB.out,Ran.refl _ _⟩
 case round =>
  obtain ⟨a,cur,rfl,rfl,ha,hcl,hcur,htb,hran⟩:=hrel
  have HT:=hid htb
  have HR:=hid hran
  have HCU:=hid hcur
  have HCL:=hid hcl
  by_cases hlt:2 * a + 1 < ps.length
  ·obtain ⟨b,hb⟩:∃ b:Nat,b=ps.length - 1 - a:=⟨_,rfl⟩
   have hab:a < b:=by omega
   have hj:(ps.length:Int) - 1 - a=(b:Int):=by omega
   rw [hj]
   have hai:a < cur.length:=by omega
   have haj:b < cur.length:=by omega
   obtain ⟨c0,c1,c2,c3,c4⟩:=htb.cells a hai
   obtain ⟨d0,d1,d2,d3,d4⟩:=htb.cells b haj
   have hfr:=fun o=>htb.free o
   have HJ:=hid hj
   have HBB:=hid hb
   have hbn:b < ps.length:=by omega
   have han:a < ps.length:=by omega
   have hlt2:=htb.lt
   have hxa:cur[a]=ps[a]:=(hcur a hai han (by omega)).2 (by omega)
   have hyb:cur[b]=ps[b]:=(hcur b haj hbn (by omega)).2 (by omega)
   rw [hxa] at c0 c1 c2 c3 c4
   rw [hyb] at d0 d1 d2 d3 d4
   have HP:=hid ((htb.put a hai ps[b]).put b (by simpa using haj) ps[a])
   have HQ:=hid (RevStep.mk han hbn (by omega:b=ps.length - 1 - a) hlt hcur)
   clear htb hran hcur hcl hj hb hxa hyb
   generalize ps[a]=x at c0 c1 c2 c3 c4 HP HQ
   generalize ps[b]=y at d0 d1 d2 d3 d4 HP HQ
   obtain ⟨tx,hx⟩:=x
   obtain ⟨ty,hy'⟩:=y
   dsimp only at c0 c1 c2 c3 c4 d0 d1 d2 d3 d4 HP
   go_wp2_with fail
   go_region
   go_wp2_with fail
   go_roundw
   case rel =>
    have hq:=HQ.out
    exact ⟨a + 1,_,by go_num,by have:=HBB.out; simp; omega,by omega,by simp; exact HCL.out,HQ.out,TBlock.drew HP.out,HR.out.trans (((putO_ran _ _ _ _ _ _ _ _).trans (putO_ran _ _ _ _ _ _ _ _)).trans (Ran.of_below (Below.refl _ _).drew))⟩
   case measure=>simp [intOf]; omega
  ·have HF:Hid (cur=ps.reverse):=hid (by
    refine List.ext_getElem (by simp; omega) fun k h1 h2=>?_
    rw [List.getElem_reverse]
    have hk:=hcur k h1 (by omega) (by omega)
    by_cases hc:k < a∨ps.length≤k + a
    ·exact hk.1 hc
    ·rw [hk.2 hc]
     have:ps.length - 1 - k=k:=by omega
     congr 1
     omega)
   clear htb hran hcur hcl
   go_wp2_with fail
   go_end0
   exact ⟨rfl,by rw [← HF.out]; exact HT.out,HR.out⟩
end Go.Proofs.YtmngddomnaaedaaGreat
namespace Go.Proofs.YtmngddomnaaedaaGreat
namespace Lvl
def stepC (c p:Int):Int:=if p=-1 then c else if c≤p then 0 else c
theorem stepC_or (c p:Int) (h:-1≤p):(stepC c p=c∧(p=-1∨p < c))∨(stepC c p=0∧0≤p∧c≤p):=by
 unfold stepC
 by_cases h1:p=-1
 ·rw [if_pos h1]; exact .inl ⟨rfl,.inl h1⟩
 ·rw [if_neg h1]
  by_cases h2:c≤p
  ·rw [if_pos h2]; exact .inr ⟨rfl,by omega,h2⟩
  ·rw [if_neg h2]; exact .inl ⟨rfl,.inr (by omega)⟩
theorem formC_one (c i p:Int) (r:List (Int × Int)):formC c (one i p ++ r)=formC (stepC c p) r:=by
 unfold one stepC formC
 by_cases h:p=-1
 ·rw [if_pos h,if_pos h]; rfl
 ·rw [if_neg h,if_neg h]; rfl
theorem form_c_eq (l:Lv):l.form.c=stepC (stepC (stepC (stepC l.c l.p0) l.p1) l.p2) l.p3:=by
 have h:l.ps=one 0 l.p0 ++ (one 1 l.p1 ++ (one 2 l.p2 ++ (one 3 l.p3 ++ []))):=by simp [Lv.ps]
 show formC l.c l.ps=_
 rw [h,formC_one,formC_one,formC_one,formC_one]
 rfl
def Lv.fine (l:Lv):Prop:=0≤l.c∧-1≤l.p0∧-1≤l.p1∧-1≤l.p2∧-1≤l.p3
def Lv.formed (l:Lv) (c:Int):Prop :=
 (c=l.c∧(l.p0=-1∨l.p0 < l.c)∧(l.p1=-1∨l.p1 < l.c)∧(l.p2=-1∨l.p2 < l.c)∧(l.p3=-1∨l.p3 < l.c)) ∨
 (c=0∧((0≤l.p0∧l.c≤l.p0)∨(0≤l.p1∧l.c≤l.p1)∨(0≤l.p2∧l.c≤l.p2)∨(0≤l.p3∧l.c≤l.p3)))
theorem form_formed (l:Lv) (h:l.fine):l.formed l.form.c:=by
 obtain ⟨hc,h0,h1,h2,h3⟩:=h
 rw [form_c_eq]
 unfold Lv.formed
 have a0:=stepC_or l.c l.p0 h0
 generalize stepC l.c l.p0=x0 at *
 have a1:=stepC_or x0 l.p1 h1
 generalize stepC x0 l.p1=x1 at *
 have a2:=stepC_or x1 l.p2 h2
 generalize stepC x1 l.p2=x2 at *
 have a3:=stepC_or x2 l.p3 h3
 generalize stepC x2 l.p3=x3 at *
 rcases a0 with a0 | a0 <;> rcases a1 with a1 | a1 <;> rcases a2 with a2 | a2 <;> rcases a3 with a3 | a3 <;> omega
def top:Int:=1099511627776
def Lv.ok (l:Lv):Prop:=(0≤l.c∧l.c≤1099511627776)∧(-1≤l.p0∧l.p0≤1099511627776)∧(-1≤l.p1∧l.p1≤1099511627776)∧(-1≤l.p2∧l.p2≤1099511627776)∧(-1≤l.p3∧l.p3≤1099511627776) ∧
 (l.c=0∨((l.p0=-1∨l.p0 < l.c)∧(l.p1=-1∨l.p1 < l.c)∧(l.p2=-1∨l.p2 < l.c)∧(l.p3=-1∨l.p3 < l.c)))
theorem within_iff (l:Lv):l.within=true ↔ (0≤l.c∧l.c≤1099511627776)∧(-1≤l.p0∧l.p0≤1099511627776)∧(-1≤l.p1∧l.p1≤1099511627776)∧(-1≤l.p2∧l.p2≤1099511627776)∧(-1≤l.p3∧l.p3≤1099511627776):=by
 simp only [Lv.within,decide_eq_true_eq]
 omega
theorem may_iff (l:Lv):l.may=true ↔ l.ok:=by
 unfold Lv.may Lv.ok
 rw [Bool.and_eq_true,beq_iff_eq,within_iff]
 constructor
 ·rintro ⟨⟨hc,h0,h1,h2,h3⟩,hf⟩
  have:=form_formed l ⟨hc.1,h0.1,h1.1,h2.1,h3.1⟩
  unfold Lv.formed at this
  rw [← hf] at this
  omega
 ·rintro ⟨hc,h0,h1,h2,h3,h⟩
  have:=form_formed l ⟨hc.1,h0.1,h1.1,h2.1,h3.1⟩
  unfold Lv.formed at this
  refine ⟨⟨hc,h0,h1,h2,h3⟩,?_⟩
  omega
theorem form_p (l:Lv):l.form.p0=l.p0∧l.form.p1=l.p1∧l.form.p2=l.p2∧l.form.p3=l.p3:=⟨rfl,rfl,rfl,rfl⟩
def Leq (a b:Lv):Prop:=a.p0≤b.p0∧a.p1≤b.p1∧a.p2≤b.p2∧a.p3≤b.p3∧(a.c≤b.c∨(0≤b.p0∧a.c≤b.p0)∨(0≤b.p1∧a.c≤b.p1)∨(0≤b.p2∧a.c≤b.p2)∨(0≤b.p3∧a.c≤b.p3))
theorem form_ext {a b:Lv} (ha:a.fine) (hb:b.fine) (h0:a.p0=b.p0) (h1:a.p1=b.p1) (h2:a.p2=b.p2) (h3:a.p3=b.p3) (hc:∀ x y,a.formed x→b.formed y→x=y):a.form=b.form :=
 Lv.ext_all (hc _ _ (form_formed a ha) (form_formed b hb)) h0 h1 h2 h3
theorem Lv.ok.fine {l:Lv} (h:l.ok):l.fine:=by unfold Lv.ok at h; unfold Lv.fine; omega
theorem join_fine {a b:Lv} (ha:a.fine) (hb:b.fine):(a.join b).fine:=by
 unfold Lv.fine at *; simp only [Lv.join]; omega
theorem ok_formed {l:Lv} (h:l.ok):l.form=l:=by
 refine Lv.ext_all ?_ rfl rfl rfl rfl
 have hf:=form_formed l h.fine
 unfold Lv.formed at hf
 unfold Lv.ok at h
 omega
/-! What a level is at numbers. -/
def stepM (m p a:Int):Int:=if p=-1 then m else max m (a + p)
theorem stepM_le (m p a x:Int):stepM m p a≤x ↔ m≤x∧(p=-1∨a + p≤x):=by
 unfold stepM
 by_cases h:p=-1
 ·rw [if_pos h]; omega
 ·rw [if_neg h]; omega
def ev (l:Lv) (n:Four):Int:=stepM (stepM (stepM (stepM l.c l.p0 n.a0) l.p1 n.a1) l.p2 n.a2) l.p3 n.a3
theorem ev_le (l:Lv) (n:Four) (x:Int):ev l n≤x ↔ l.c≤x∧(l.p0=-1∨n.a0 + l.p0≤x)∧(l.p1=-1∨n.a1 + l.p1≤x)∧(l.p2=-1∨n.a2 + l.p2≤x)∧(l.p3=-1∨n.a3 + l.p3≤x):=by
 unfold ev
 rw [stepM_le,stepM_le,stepM_le,stepM_le]
 constructor
 ·rintro ⟨⟨⟨⟨h,h0⟩,h1⟩,h2⟩,h3⟩; exact ⟨h,h0,h1,h2,h3⟩
 ·rintro ⟨h,h0,h1,h2,h3⟩; exact ⟨⟨⟨⟨h,h0⟩,h1⟩,h2⟩,h3⟩
theorem ev_eq {l k:Lv} {n m:Four} (h:∀ x,ev l n≤x ↔ ev k m≤x):ev l n=ev k m :=
 Int.le_antisymm ((h _).2 (Int.le_refl _)) ((h _).1 (Int.le_refl _))
def Four.pos (n:Four):Prop:=0≤n.a0∧0≤n.a1∧0≤n.a2∧0≤n.a3
theorem ev_form {l:Lv} (hl:l.fine) {n:Four} (hn:n.pos):ev l.form n=ev l n:=by
 refine ev_eq fun x=>?_
 have hf:=form_formed l hl
 obtain ⟨e0,e1,e2,e3⟩:=form_p l
 rw [ev_le,ev_le,e0,e1,e2,e3]
 unfold Lv.formed at hf
 unfold Four.pos at hn
 unfold Lv.fine at hl
 generalize l.form.c=z at *
 rcases hf with ⟨rfl,_⟩ | ⟨rfl,hf⟩
 ·exact Iff.rfl
 ·constructor
  ·rintro ⟨h,g⟩
   refine ⟨?_,g⟩
   rcases hf with hf | hf | hf | hf <;> omega
  ·rintro ⟨h,g⟩
   exact ⟨by omega,g⟩
theorem stepM_max (m k p q a:Int) (hp:-1≤p) (hq:-1≤q):stepM (max m k) (max p q) a=max (stepM m p a) (stepM k q a):=by
 unfold stepM
 by_cases h:p=-1 <;> by_cases h':q=-1
 ·rw [if_pos (by omega),if_pos h,if_pos h']
 ·rw [if_neg (by omega),if_pos h,if_neg h']; omega
 ·rw [if_neg (by omega),if_neg h,if_pos h']; omega
 ·rw [if_neg (by omega),if_neg h,if_neg h']; omega
theorem ev_join {a b:Lv} (ha:a.fine) (hb:b.fine) (n:Four):ev (a.join b) n=max (ev a n) (ev b n):=by
 obtain ⟨_,a0,a1,a2,a3⟩:=ha
 obtain ⟨_,b0,b1,b2,b3⟩:=hb
 simp only [ev,Lv.join]
 rw [stepM_max _ _ _ _ _ a0 b0,stepM_max _ _ _ _ _ a1 b1,stepM_max _ _ _ _ _ a2 b2,stepM_max _ _ _ _ _ a3 b3]
theorem stepM_up (m p a n:Int) (hp:-1≤p) (hn:0≤n):stepM (m + n) (up p n) a=stepM m p a + n:=by
 unfold stepM up
 by_cases h:p=-1
 ·rw [if_pos h,if_pos h,if_pos rfl]
 ·rw [if_neg h,if_neg h,if_neg (by omega)]; omega
theorem ev_plus {a:Lv} (ha:a.fine) (k:Int) (hk:0≤k) (n:Four):ev (a.plus k) n=ev a n + k:=by
 obtain ⟨_,a0,a1,a2,a3⟩:=ha
 simp only [ev,Lv.plus]
 rw [stepM_up _ _ _ _ a0 hk,stepM_up _ _ _ _ a1 hk,stepM_up _ _ _ _ a2 hk,stepM_up _ _ _ _ a3 hk]
theorem plus_fine {a:Lv} (ha:a.fine) (k:Int) (hk:0≤k):(a.plus k).fine:=by
 unfold Lv.fine Lv.plus up at *
 simp only
 refine ⟨by omega,?_,?_,?_,?_⟩ <;> (split <;> omega)
theorem form_fine {l:Lv} (h:l.fine):l.form.fine:=by
 have hf:=form_formed l h
 unfold Lv.formed at hf
 unfold Lv.fine at *
 obtain ⟨e0,e1,e2,e3⟩:=form_p l
 rw [e0,e1,e2,e3]
 omega
def great:Int:=2199023255552
def Four.zero:Four:=⟨0,0,0,0⟩
end Lvl
end Go.Proofs.YtmngddomnaaedaaGreat
