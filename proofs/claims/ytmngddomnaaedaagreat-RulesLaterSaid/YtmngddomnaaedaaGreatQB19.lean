/-
 The contracts of slices.Sorted(maps.Keys(m)) at this program: each is one application of a contract of the library.
-/
import Derived.Lib.Hide
import Derived.Shelf.SlIter.Nil
import Derived.Shelf.SortM.Plain
import Derived.Shelf.SortM.SortNone
import Derived.Ground.GgzProg
import Derived.Ground.SlgmProg
import Derived.Test.YtmngddomnaaedaaGreatProg
import Derived.Test.YtmngddomnaaedaaGreatQB15
import Derived.Test.YtmngddomnaaedaaGreatQB11
import Derived.Test.YtmngddomnaaedaaGreatQB10
import Derived.BigQuiet
import Derived.Test.YtmngddomnaaedaaGreatQB8
import Derived.Test.YtmngddomnaaedaaGreatQB14
open Go.Lib (hid)
set_option maxRecDepth 100000
set_option maxHeartbeats 32000000
namespace Go.Proofs.YtmngddomnaaedaaGreat
open Go.RowKit Go.Maps Go.Sort Go.Shelf
def Tryz.keys177_ren:Go.Shelf.Ren:=⟨fun | 7=>177 | 10=>197 | n=>n,fun | 23=>205 | 26=>9 | 3=>4 | 28=>208 | 0=>0 | 27=>207 | 33=>151 | 4=>4 | n=>n,fun | n=>n⟩
theorem Tryz.keys177:Go.Proofs.SlLaysZ.n7 Tryz.prog Tryz.keys177_ren:={
 mixed:=by kernel_rfl
 f7:=⟨Tryz.f177.name,by decide,Tryz.func177.trans (congrArg some (by kernel_rfl))⟩
 f10:=⟨Tryz.f197.name,by decide,Tryz.func197.trans (congrArg some (by kernel_rfl))⟩
 t0:=Tryz.underlying0
 a0:=Tryz.isAgg0
 z0:=Tryz.sizeOf0
 v0:=Tryz.zeroValue0
 t4:=Tryz.underlying4
 a4:=Tryz.isAgg4
 z4:=Tryz.sizeOf4
 v4:=Tryz.zeroValue4
 t23:=Tryz.underlying205
 a23:=Tryz.isAgg205
 z23:=Tryz.sizeOf205
 v23:=Tryz.zeroValue205
 t26:=Tryz.underlying9
 a26:=Tryz.isAgg9
 z26:=Tryz.sizeOf9
 v26:=Tryz.zeroValue9
 t27:=Tryz.underlying207
 a27:=Tryz.isAgg207
 z27:=Tryz.sizeOf207
 v27:=Tryz.zeroValue207
 t28:=Tryz.underlying208
 a28:=Tryz.isAgg208
 z28:=Tryz.sizeOf208
 v28:=Tryz.zeroValue208
 t33:=Tryz.underlying151
 a33:=Tryz.isAgg151
 z33:=Tryz.sizeOf151
 v33:=Tryz.zeroValue151 }
def Tryz.sorted176_ren:Go.Shelf.Ren:=⟨fun | 6=>176 | 8=>195 | 9=>196 | 11=>202 | 13=>204 | 12=>203 | 23=>214 | 24=>215 | 14=>205 | 15=>206 | 16=>207 | 17=>208 | 18=>209 | 19=>210 | 20=>211 | 21=>212 | 22=>213 | 25=>216 | 26=>217 | 27=>218 | 28=>219 | 29=>220 | 30=>221 | 31=>222 | n=>n,fun | 26=>9 | 28=>208 | 24=>60 | 0=>0 | 3=>3 | 37=>225 | 48=>235 | 50=>237 | 4=>4 | 40=>228 | 39=>227 | 45=>47 | 5=>5 | 9=>9 | 51=>238 | 55=>242 | 57=>244 | 58=>245 | 33=>151 | n=>n,fun | n=>n⟩
theorem Tryz.sorted176:Go.Proofs.SlLaysZ.n6 Tryz.prog Tryz.sorted176_ren:={
 mixed:=by kernel_rfl
 f6:=⟨Tryz.f176.name,by decide,Tryz.func176.trans (congrArg some (by kernel_rfl))⟩
 f8:=⟨Tryz.f195.name,by decide,Tryz.func195.trans (congrArg some (by kernel_rfl))⟩
 f11:=⟨Tryz.f202.name,by decide,Tryz.func202.trans (congrArg some (by kernel_rfl))⟩
 t0:=Tryz.underlying0
 a0:=Tryz.isAgg0
 z0:=Tryz.sizeOf0
 v0:=Tryz.zeroValue0
 t24:=Tryz.underlying60
 a24:=Tryz.isAgg60
 z24:=Tryz.sizeOf60
 v24:=Tryz.zeroValue60
 t26:=Tryz.underlying9
 a26:=Tryz.isAgg9
 z26:=Tryz.sizeOf9
 v26:=Tryz.zeroValue9
 t28:=Tryz.underlying208
 a28:=Tryz.isAgg208
 z28:=Tryz.sizeOf208
 v28:=Tryz.zeroValue208
 i26:=by kernel_rfl }
def Tryz.sort196_ren:Go.Shelf.Ren:=⟨fun | 6=>196 | 8=>204 | 9=>203 | 19=>214 | 20=>215 | 21=>205 | 22=>206 | 23=>207 | 24=>208 | 25=>209 | 26=>210 | 27=>211 | 28=>212 | 29=>213 | 36=>216 | 31=>217 | 32=>218 | 37=>219 | 38=>220 | 39=>221 | 41=>222 | n=>n,fun | 27=>60 | 29=>9 | 3=>3 | 32=>225 | 26=>60 | 0=>0 | 44=>235 | 46=>237 | 4=>4 | 36=>228 | 35=>227 | 41=>47 | 5=>5 | 9=>9 | 53=>238 | 57=>242 | 63=>244 | 64=>245 | n=>n,fun | n=>n⟩
theorem Tryz.sort196:Go.Proofs.SlLaysM.n6 Tryz.prog Tryz.sort196_ren:={
 mixed:=by kernel_rfl
 f6:=⟨Tryz.f196.name,by decide,Tryz.func196.trans (congrArg some (by kernel_rfl))⟩
 f8:=Tryz.func204.trans (congrArg some (by kernel_rfl))
 f9:=⟨Tryz.f203.name,by decide,Tryz.func203.trans (congrArg some (by kernel_rfl))⟩
 f19:=Tryz.func214.trans (congrArg some (by kernel_rfl))
 f20:=Tryz.func215.trans (congrArg some (by kernel_rfl))
 f21:=⟨Tryz.f205.name,by decide,Tryz.func205.trans (congrArg some (by kernel_rfl))⟩
 f22:=⟨Tryz.f206.name,by decide,Tryz.func206.trans (congrArg some (by kernel_rfl))⟩
 f23:=⟨Tryz.f207.name,by decide,Tryz.func207.trans (congrArg some (by kernel_rfl))⟩
 f24:=⟨Tryz.f208.name,by decide,Tryz.func208.trans (congrArg some (by kernel_rfl))⟩
 f25:=⟨Tryz.f209.name,by decide,Tryz.func209.trans (congrArg some (by kernel_rfl))⟩
 f26:=⟨Tryz.f210.name,by decide,Tryz.func210.trans (congrArg some (by kernel_rfl))⟩
 f27:=⟨Tryz.f211.name,by decide,Tryz.func211.trans (congrArg some (by kernel_rfl))⟩
 f28:=⟨Tryz.f212.name,by decide,Tryz.func212.trans (congrArg some (by kernel_rfl))⟩
 f29:=⟨Tryz.f213.name,by decide,Tryz.func213.trans (congrArg some (by kernel_rfl))⟩
 f31:=Tryz.func217.trans (congrArg some (by kernel_rfl))
 f32:=Tryz.func218.trans (congrArg some (by kernel_rfl))
 f36:=⟨Tryz.f216.name,by decide,Tryz.func216.trans (congrArg some (by kernel_rfl))⟩
 f37:=⟨Tryz.f219.name,by decide,Tryz.func219.trans (congrArg some (by kernel_rfl))⟩
 f38:=⟨Tryz.f220.name,by decide,Tryz.func220.trans (congrArg some (by kernel_rfl))⟩
 f39:=⟨Tryz.f221.name,by decide,Tryz.func221.trans (congrArg some (by kernel_rfl))⟩
 f41:=⟨Tryz.f222.name,by decide,Tryz.func222.trans (congrArg some (by kernel_rfl))⟩
 t0:=Tryz.underlying0
 a0:=Tryz.isAgg0
 z0:=Tryz.sizeOf0
 v0:=Tryz.zeroValue0
 t3:=Tryz.underlying3
 a3:=Tryz.isAgg3
 z3:=Tryz.sizeOf3
 v3:=Tryz.zeroValue3
 t4:=Tryz.underlying4
 a4:=Tryz.isAgg4
 z4:=Tryz.sizeOf4
 v4:=Tryz.zeroValue4
 t5:=Tryz.underlying5
 a5:=Tryz.isAgg5
 z5:=Tryz.sizeOf5
 v5:=Tryz.zeroValue5
 t9:=Tryz.underlying9
 a9:=Tryz.isAgg9
 z9:=Tryz.sizeOf9
 v9:=Tryz.zeroValue9
 t26:=Tryz.underlying60
 a26:=Tryz.isAgg60
 z26:=Tryz.sizeOf60
 v26:=Tryz.zeroValue60
 t27:=Tryz.underlying60
 a27:=Tryz.isAgg60
 z27:=Tryz.sizeOf60
 v27:=Tryz.zeroValue60
 t29:=Tryz.underlying9
 a29:=Tryz.isAgg9
 z29:=Tryz.sizeOf9
 v29:=Tryz.zeroValue9
 t32:=Tryz.underlying225
 a32:=Tryz.isAgg225
 z32:=Tryz.sizeOf225
 v32:=Tryz.zeroValue225
 t35:=Tryz.underlying227
 a35:=Tryz.isAgg227
 z35:=Tryz.sizeOf227
 v35:=Tryz.zeroValue227
 t36:=Tryz.underlying228
 a36:=Tryz.isAgg228
 z36:=Tryz.sizeOf228
 v36:=Tryz.zeroValue228
 t41:=Tryz.underlying47
 a41:=Tryz.isAgg47
 z41:=Tryz.sizeOf47
 v41:=Tryz.zeroValue47
 t44:=Tryz.underlying235
 a44:=Tryz.isAgg235
 z44:=Tryz.sizeOf235
 v44:=Tryz.zeroValue235
 t46:=Tryz.underlying237
 a46:=Tryz.isAgg237
 z46:=Tryz.sizeOf237
 v46:=Tryz.zeroValue237
 t53:=Tryz.underlying238
 a53:=Tryz.isAgg238
 z53:=Tryz.sizeOf238
 v53:=Tryz.zeroValue238
 t57:=Tryz.underlying242
 a57:=Tryz.isAgg242
 z57:=Tryz.sizeOf242
 v57:=Tryz.zeroValue242
 t63:=Tryz.underlying244
 a63:=Tryz.isAgg244
 z63:=Tryz.sizeOf244
 v63:=Tryz.zeroValue244
 t64:=Tryz.underlying245
 a64:=Tryz.isAgg245
 z64:=Tryz.sizeOf245
 v64:=Tryz.zeroValue245 }
theorem Tryz.sorts176 (m:Nat):AnyZ.SortsIn Tryz.prog Tryz.sorted176_ren Fence.wide m :=
 ⟨fun blk off cap ss W hH hblk hsz=>callsIn_wide.2 (AnyM.slices_Sort_string Tryz.sort196 blk off cap ss W hH hblk hsz),
  fun p cap W=>callsIn_wide.2 (AnyM.slices_Sort_string_none Tryz.sort196 p cap W)⟩
theorem Tryz.maps_Keys_177 (mb:Option Nat) (W:World):CallsIn Fence.wide 5 Tryz.prog 177 #[.map mb] W fun e w'=>e=.returned (.func (.func 197) #[] #[.pointer (some ⟨W.heap.size,0,none⟩)])∧w'=W.alloc (.cells #[.map mb] 205) :=
 AnyZ.keys_in Tryz.keys177 Fence.wide 5 trivial rfl mb W
theorem Tryz.slices_Sorted_keys_176_177 {H:Type} (b nn:Nat) (D0:DataW H) (R:Value→Option (DataW H × List MemPlace)) (w:World) (hown:w.ownsMap Tryz.prog 9 R b nn D0) (hmax:Maps.size D0≤maxLen) (hbytes:Maps.size D0 * 16≤140737488355328) :
 CallsIn Fence.wide 5 Tryz.prog 176 #[.func (.func 197) #[] #[.pointer (some ⟨w.heap.size,0,none⟩)]] (w.alloc (.cells #[.map (some b)] 205)) fun e w'=>∃ (v:Value) (ss:List (List UInt8)),e=.returned v∧ss.Perm (strKeys D0) ∧
  w'.ownsRow (w.alloc (.cells #[.map (some b)] 205)).heap.size 9 1 v ss.length ((ss.mergeSort (fun x y=>decide (x≤y))).map encStr)∧(v=.slice none 0 0 ↔ ss=[])∧Below (w.alloc (.cells #[.map (some b)] 205)).heap.size (w.alloc (.cells #[.map (some b)] 205)) w':=by
 have hbl:=hown.lt
 have hseq:SeqGives Fence.wide 2 Tryz.prog 197 #[.pointer (some ⟨w.heap.size,0,none⟩)] encStr (fun ss=>ss.Perm (strKeys D0)) (Maps.size D0) (w.alloc (.cells #[.map (some b)] 205)) :=
  AnyZ.keys_gives (ρ:=Tryz.keys177_ren) { Tryz.keys177 with } Fence.wide _ trivial rfl (by omega) w.heap.size b nn D0 _ (by simp) (by simp) (by
   obtain ⟨es,clock,hb,Ft,hs,hD⟩:=hown
   exact ⟨es,clock,(Below.heap_alloc _ _ b hbl).trans hb,Ft,hs,hD⟩)
 exact AnyZ.sorted_in Tryz.sorted176 Fence.wide 5 trivial trivial trivial trivial rfl (by omega) (Tryz.sorts176 _) (enters_of Tryz.func196 (by kernel_rfl) rfl) 197 #[.pointer (some ⟨w.heap.size,0,none⟩)] trivial (enters_of Tryz.func197 (by kernel_rfl) rfl) _ _ hmax hbytes _ hseq
end Go.Proofs.YtmngddomnaaedaaGreat
namespace Go.Proofs.YtmngddomnaaedaaGreat
open Go.RowKit Go.Shelf Go.Maps Go.Sort Lvl Trm
namespace Trm
abbrev Rises (l:List (List UInt8)):Prop:=l.Pairwise (· < ·)
theorem rises_sort {l:List (List UInt8)} (hn:l.Nodup):Rises (l.mergeSort leB):=by
 have tr:∀ a b c:List UInt8,leB a b=true→leB b c=true→leB a c=true:=fun a b c h1 h2=>by simp only [leB,decide_eq_true_eq] at *; exact List.le_trans h1 h2
 have tq0:∀ a b:List UInt8,(leB a b || leB b a)=true:=fun a b=>by simp only [leB,Bool.or_eq_true,decide_eq_true_eq]; exact List.le_total a b
 have h1:=List.pairwise_mergeSort tr tq0 l
 have h2:(l.mergeSort leB).Nodup:=(List.mergeSort_perm l leB).nodup_iff.2 hn
 refine (h1.and h2).imp ?_
 rintro a b ⟨h3,h4⟩
 simp only [leB,decide_eq_true_eq] at h3
 by_cases h:a < b
 ·exact h
 ·exact absurd (List.le_antisymm h3 (List.not_lt.1 h)) h4
structure SRow (B:Nat) (w:World) (ao:Option Addr) (l:List (List UInt8)):Prop where
 place:∀ k (h:k < l.length),∃ b off,ao=some ⟨b,off,none⟩∧b < B∧w.cell? ⟨b,off + k,none⟩=some (.string ⟨l[k].toArray⟩)
theorem SRow.below {B:Nat} {w w':World} {ao:Option Addr} {l:List (List UInt8)} (h:SRow B w ao l) (b:Below B w w'):SRow B w' ao l :=
 ⟨fun k hk=>by
  obtain ⟨c,off,hao,hc,hx⟩:=h.place k hk
  exact ⟨c,off,hao,hc,(b.cell (p:=⟨c,_,none⟩) hc).trans hx⟩⟩
theorem SRow.mono {B B':Nat} {w:World} {ao:Option Addr} {l:List (List UInt8)} (h:SRow B w ao l) (hB:B≤B'):SRow B' w ao l :=
 ⟨fun k hk=>by
  obtain ⟨c,off,hao,hc,hx⟩:=h.place k hk
  exact ⟨c,off,hao,by omega,hx⟩⟩
theorem SRow.carry {w w':World} {ao:Option Addr} {l:List (List UInt8)} (h:SRow w.heap.size w ao l) (b:Below w.heap.size w w'):SRow w'.heap.size w' ao l:=(h.below b).mono b.size
theorem row_strs {w:World} {base n:Nat} {v:Value} {l:List (List UInt8)} (hn:n=l.length) (h:w.ownsRow base 9 1 v n (l.map encStr)):∃ ao cap,v=.slice ao l.length cap∧SRow w.heap.size w ao l:=by
 subst hn
 have h0:=h
 obtain ⟨hl,⟨hv,hn0⟩ | ⟨g,cap,cur,rfl,hb,hg,hm,hmx,hs,ht⟩⟩:=h
 ·have e:l.length=0:=hn0
  exact ⟨none,0,by rw [hv,e],⟨fun k hk=>by omega⟩⟩
 ·have hgl:g < w.heap.size:=(Array.getElem?_eq_some_iff.1 hg).1
  refine ⟨some ⟨g,0,none⟩,cap,rfl,⟨fun k hk=>⟨g,0,rfl,hgl,?_⟩⟩⟩
  rw [Nat.zero_add,h0.cellAt k (by omega),List.getElem?_map,List.getElem?_eq_getElem hk]
  rfl
def NamesPost (t:Tm) (w:World) (e:Ending) (w':World):Prop:=∃ ao cap l,e=.returned (.slice ao l.length cap)∧SRow w'.heap.size w' ao l∧Rises l∧(∀ x,x ∈ l ↔ x ∈ t.nms)∧Below w.heap.size w w'
end Trm
theorem Names_yes (t:Tm) (h:Hd) (w:World) (hin:t.In w.heap.size w h) (hmay:t.may=true) :
 Calls Tryz.prog 148 #[t.val h] w (NamesPost t w):=by
 have HM:=hid (fun (W:World) (hW:Below w.heap.size w W)=>(show Calls Tryz.prog 61 #[t.val h] W fun e w'=>e=.returned (.bool true)∧Below W.heap.size W w' from hmay ▸ PMay_any t h W (Tm.In.mono hW.size _ _ (Tm.In.below hW _ _ hin))))
 have HIN:=hid hin
 have HX0:=hid (World.alloc_heap_new w (t.box h))
 have hsz:t.nms.length≤65536:=by have h1:=nms_size t; have h2:=count_ge t; unfold Tm.count at h2; rw [if_pos hmay] at h2; omega
 have HW:=hid (fun (W:World) (m:Nat) (hm:w.heap.size < m) (hm2:m < W.heap.size) (hb:Below (w.heap.size + 1) (w.alloc (t.box h)) W) (hown:W.ownsMap Tryz.prog 9 (plainElem Tryz.prog 4) m 0 (DN [])) (hC:W.heap[m + 1]?=some (.cells #[.map (some m)] 205)) =>
  (show Calls Tryz.prog 150 #[.pointer (some ⟨w.heap.size,0,none⟩),.func (.func 175) #[] #[.pointer (some ⟨m + 1,0,none⟩)]] W (fun e w'=>e=.returned (.bool true)∧NInv m (m + 1) t.nms w'∧Ran m W w') from by
    have hbx:W.heap[w.heap.size]?=some (t.box h):=(hb.block _ (by omega)).trans (World.alloc_heap_new w _)
    have h1:=walk_any (sees_names t.nms hsz (B:=w.heap.size + 1) (m:=m) (C:=m + 1) (by omega) (by omega)) t [] w.heap.size 0 W (fun x hx=>by cases hx) ⟨by exact own_exact hown,hC⟩ ⟨OkMay.start hmay,fun x hx=>hx⟩ ⟨by omega,by omega,h,Tm.cells hbx,Tm.In.mono (by omega) _ _ (Tm.In.below ((below_one w (t.box h)).trans (hb.mono (by omega))) _ _ hin)⟩ (by omega) hm2
    rw [Tm.walk_names] at h1
    exact h1))
 have hmm:=@run_makeMap Tryz.prog
 unfold Tm.val at HM ⊢
 unfold Tm.box at HW HX0
 dsimp only [Tm.vals] at HM HW HX0 ⊢
 clear hin hmay
 go_enter Tryz.func148,Tryz.ntmps148
 go_wp2_with fail
 refine (HM.out _ (below_one w _)).mono ?_
 rintro e w1 ⟨rfl,b1⟩
 have HB1:=hid b1
 have hz1:=b1.size
 clear b1
 go_wp2_with fail
 have hown0:((w1.alloc (.map #[] 0)).alloc (.cells #[.map (some w1.heap.size)] 205)).ownsMap Tryz.prog 9 (plainElem Tryz.prog 4) w1.heap.size 0 (DN []):=(World.ownsMap_made w1 Tryz.prog _ _).alloc _
 have hC0:((w1.alloc (.map #[] 0)).alloc (.cells #[.map (some w1.heap.size)] 205)).heap[w1.heap.size + 1]?=some (.cells #[.map (some w1.heap.size)] 205):=new2 w1 (.map #[] 0) _
 have hb2:=below_two w1 (.map #[] 0) (.cells #[.map (some w1.heap.size)] 205)
 have hbA:Below (w.heap.size + 1) _ w1:=HB1.out.mono (by simp)
 have HB2:=hid (hb2.mono (B':=w.heap.size) (by simp at hz1; omega))
 refine (HW.out _ w1.heap.size (by simp at hz1; omega) (by simp; omega) (hbA.trans (hb2.mono (by simp at hz1; omega))) hown0 hC0).mono ?_
 clear hown0 hC0 hb2
 rintro e w3 ⟨rfl,hinv,hran⟩
 obtain ⟨hown3,hC3⟩:=hinv
 have hm1:w.heap.size < w1.heap.size:=by simp at hz1; omega
 have HB3:=hid (show Below w.heap.size w w3 from ((below_one w _).trans (HB1.out.mono (by simp))).trans (HB2.out.trans (hran.below (by omega) (by simp; omega))))
 generalize w1.heap.size=m at hown3 hC3 hm1 hran HW ⊢
 have hc3:=Lvl.one_cell hC3
 have HS:=hid ((callsIn_wide (n:=5)).1 (Tryz.slices_Sorted_keys_176_177 m _ (DN t.nms) (plainElem Tryz.prog 4) w3 hown3 (by have:=DN_size (st:=t.nms) (Ns:=t.nms) (fun x h=>h); unfold maxLen; omega) (by have:=DN_size (st:=t.nms) (Ns:=t.nms) (fun x h=>h); omega)))
 have HK:=hid ((callsIn_wide (n:=5)).1 (Tryz.maps_Keys_177 (some m) w3))
 clear hown3 hran hC3 HW
 go_wp2_with fail
 refine HK.out.mono ?_
 rintro e w4 ⟨rfl,rfl⟩
 go_wp2_with fail
 refine HS.out.mono ?_
 rintro e w5 ⟨v,ss,rfl,hperm,hrow,_,hb5⟩
 have hlen:ss.length=(ss.mergeSort leB).length:=(List.mergeSort_perm ss leB).length_eq.symm
 obtain ⟨ao,cap,rfl,hsr⟩:=row_strs hlen hrow
 have HSR:=hid hsr
 have HB5:=hid (show Below w.heap.size w w5 from HB3.out.trans ((below_one w3 _).mono HB3.out.size |>.trans (hb5.mono (by have:=HB3.out.size; simp; omega))))
 have HRI:=hid (show Rises (ss.mergeSort leB) from rises_sort (hperm.nodup_iff.2 (DN_nodup _)))
 have HME:=hid (show ∀ x,x ∈ ss.mergeSort leB ↔ x ∈ t.nms from fun x=>by rw [(List.mergeSort_perm ss leB).mem_iff,hperm.mem_iff,DN_strKeys])
 clear hrow hperm hb5 hsr hlen
 generalize ss.mergeSort leB=l at HSR HRI HME ⊢
 go_wp2_with fail
 go_ret
 exact ⟨ao,cap,_,rfl,HSR.out,HRI.out,HME.out,HB5.out⟩
end Go.Proofs.YtmngddomnaaedaaGreat
namespace Go.Proofs.YtmngddomnaaedaaGreat
open Go.RowKit Go.Shelf Go.Maps Go.Sort Lvl Trm
namespace Trm
theorem names_ok {x:List UInt8} {t:Tm}:∀ {d:Int},OkMay t d→x ∈ t.nms→nameOk ⟨x.toArray⟩=true:=by
 induction t using Tm.ind with
 | h t ih =>
   intro d ho hx
   rw [Tm.nms_eq] at hx
   rcases List.mem_append.1 hx with hx | hx
   ·unfold oneN at hx
    split at hx
    ·cases hx
    ·rename_i hs
     simp at hx
     subst hx
     have h0:=ho.node.1
     unfold Tm.node at h0
     simp only [Bool.and_eq_true] at h0
     have h4:=h0.1.1.2
     split at h4
     ·exact h4
     ·exact absurd (of_decide_eq_true h4) hs
   ·have key:∀ ts:List Tm,(∀ y ∈ ts,y ∈ t.ts)→x ∈ nmsL ts→nameOk ⟨x.toArray⟩=true:=by
     intro ts
     induction ts with
     | nil=>intro _ h; rw [nmsL] at h; cases h
     | cons y r ihr =>
       intro hm h
       rw [nmsL] at h
       rcases List.mem_append.1 h with h | h
       ·exact ih y (hm y (by simp)) (ho.down y (hm y (by simp))) h
       ·exact ihr (fun z hz=>hm z (by simp [hz])) h
    exact key t.ts (fun y hy=>hy) hx
theorem nms_t2 (k:Int) (f x:Tm):(t2 k f x).nms=f.nms ++ x.nms:=by
 unfold t2
 rw [Tm.nms,nmsL,nmsL,nmsL,List.append_nil]
 rfl
theorem rises_nodup {l:List (List UInt8)} (h:Rises l):l.Nodup :=
 (List.Pairwise.imp (fun {a b} (hab:a < b) (e:a=b)=>by subst e; exact List.lt_irrefl _ hab) h:l.Pairwise (· ≠ ·))
theorem names_few {t:Tm} (hm:t.may=true) {l:List (List UInt8)} (hr:Rises l) (h:∀ x,x ∈ l ↔ x ∈ t.nms):l.length≤65536:=by
 have h1:=nodup_le l t.nms (rises_nodup hr) (fun x hx=>(h x).1 hx)
 have h2:=nms_size t
 have h3:=count_ge t
 unfold Tm.count at h3
 rw [if_pos hm] at h3
 omega
end Trm
end Go.Proofs.YtmngddomnaaedaaGreat
namespace Go.Proofs.YtmngddomnaaedaaGreat
open Go.RowKit Go.Shelf Go.Maps Lvl Trm Env
namespace Env
structure TiedP (D:DataW Unit) (ks:List (List UInt8)):Prop where
 isMap:IsMap D
 has:∀ k:List UInt8,Maps.has D (.string k)=true ↔ k ∈ ks
 at_:∀ k ∈ ks,∀ z,D.atKey (.string k) z=.lit (.int .i64 (ks.idxOf k:Nat))
theorem zeroI (w:World):(zeroValue 3).run Tryz.prog w=.ok (.int .i64 0) w:=by kernel_rfl
theorem places_ok {w:World} {m n:Nat} {D:DataW Unit} {ks:List (List UInt8)} (hown:w.ownsMap Tryz.prog 9 (plainElem Tryz.prog 3) m n D) (ht:TiedP D ks) {s:ByteArray} (hs:s.size≤maxLen) :
 (Instr.lookup 148 (.map (some m)) (.string s) true).run Tryz.prog w=.ok (.tuple #[.int .i64 ((if key s ∈ ks then ks.idxOf (key s) else 0:Nat):Int),.bool (decide (key s ∈ ks))]) w:=by
 obtain ⟨x,ps,hrun,hx⟩:=hown.look_ok (string_keyed Tryz.underlying9) Tryz.underlying148 (zeroI w) (plainElem_int Tryz.underlying3 (q:=.i64) (a:=0) (by decide)) (WideMaps.keyOf_string_mk Tryz.underlying9 hs)
 obtain ⟨c,rfl,hc,_⟩:=plainElem_int_inv Tryz.underlying3 hx
 rw [hrun]
 have hc1:D.atKey (.string (key s)) (.lit (.int .i64 0))=.lit (.int .i64 c):=congrArg Prod.fst hc
 have hhas:=ht.has (key s)
 by_cases hin:key s ∈ ks
 ·rw [show Maps.has D (.string s.data.toList)=true from hhas.2 hin,if_pos hin,decide_eq_true hin]
  rw [ht.at_ _ hin] at hc1
  injection hc1 with h1
  injection h1 with _ h1
  rw [h1]
 ·have hn:Maps.has D (.string (key s))=false:=by
   cases hb:Maps.has D (.string (key s))
   ·rfl
   ·exact absurd (hhas.1 hb) hin
  rw [show Maps.has D (.string s.data.toList)=false from hn,if_neg hin,decide_eq_false hin]
  rw [atKey_of_not_has hn] at hc1
  injection hc1 with h1
  injection h1 with _ h1
  rw [← h1]; rfl
def known (L:List Ent) (ks:List (List UInt8)) (i:Nat) (hv:Bool) (k:List UInt8):Bool:=(lookE L k).isSome || (decide (k ∈ ks) && (decide (ks.idxOf k < i) || !hv))
def fnK (P E I X:Nat):Value:=.func (.func 100) #[] #[.pointer (some ⟨P,0,none⟩),.pointer (some ⟨E,0,none⟩),.pointer (some ⟨I,0,none⟩),.pointer (some ⟨X,0,none⟩)]
structure KCtx (B:Nat) (w:World) (P E I X:Nat) (e:Nat) (L:List Ent) (ks:List (List UInt8)) (i:Nat) (x:Inf):Prop where
 places:∃ m n D,w.heap[P]?=some (.cells #[.map (some m)] 148)∧w.ownsMap Tryz.prog 9 (plainElem Tryz.prog 3) m n D∧TiedP D ks
 env:w.heap[E]?=some (.cells #[.pointer (some ⟨e,0,none⟩)] 26)
 at_:w.heap[I]?=some (.cells #[.int .i64 i] 3)
 info:∃ h,IBox w X x h
 ent:∃ mo v,EnvB B w e L mo v
theorem MapE.below {w w':World} {mo:Option Nat} {L:List Ent} (h:MapE w mo L) (b:Below w.heap.size w w'):MapE w' mo L:=by
 rcases h with h | ⟨m,D,hm,hown,ht⟩
 ·exact Or.inl h
 ·exact Or.inr ⟨m,D,hm,⟨hown.choose,hown.choose_spec.choose,(b.block m hown.lt).trans hown.choose_spec.choose_spec.1,hown.choose_spec.choose_spec.2⟩,ht⟩
theorem EnvB.below {B:Nat} {w w':World} {e:Nat} {L:List Ent} {mo:Option Nat} {v:Value} (h:EnvB B w e L mo v) (b:Below w.heap.size w w'):EnvB B w' e L mo v :=
 ⟨(b.block e (Array.getElem?_eq_some_iff.1 h.box).1).trans h.box,row_keep h.row b,h.map.below b,fun p hp=>⟨(h.info p hp).1.keep b,(h.info p hp).2⟩,fun p hp=>(h.firm p hp).step (RanS.of_below b),h.nodup,h.apart,h.eB,h.hgt,h.few⟩
theorem KCtx.below {B:Nat} {w w':World} {P E I X e i:Nat} {L:List Ent} {ks:List (List UInt8)} {x:Inf} (h:KCtx B w P E I X e L ks i x) (b:Below w.heap.size w w'):KCtx B w' P E I X e L ks i x:=by
 obtain ⟨⟨m,n,D,h1,h2,h3⟩,h4,h5,⟨hd,h6⟩,mo,v,h7⟩:=h
 have key:∀ {q:Nat} {o:Obj},w.heap[q]?=some o→w'.heap[q]?=some o:=fun hq=>(b.block _ (Array.getElem?_eq_some_iff.1 hq).1).trans hq
 exact ⟨⟨m,n,D,key h1,⟨h2.choose,h2.choose_spec.choose,(b.block m h2.lt).trans h2.choose_spec.choose_spec.1,h2.choose_spec.choose_spec.2⟩,h3⟩,key h4,key h5,⟨hd,h6.keep b⟩,mo,v,h7.below b⟩
theorem one_cellE {w:World} {b:Nat} {u:Value} {ty:TypeId} (h:w.heap[b]?=some (.cells #[u] ty)):w.cell? ⟨b,0,none⟩=some u:=by simp [World.cell?,h]
end Env
theorem known_any {B:Nat} {w:World} {P E I X e i:Nat} {L:List Ent} {ks:List (List UInt8)} {x:Inf} (h:KCtx B w P E I X e L ks i x) (hk:ks.length≤1000000) (s:ByteArray) (hs:s.size≤maxLen) :
 Calls Tryz.prog 100 #[.string s,.pointer (some ⟨P,0,none⟩),.pointer (some ⟨E,0,none⟩),.pointer (some ⟨I,0,none⟩),.pointer (some ⟨X,0,none⟩)] w fun y w'=>y=.returned (.bool (known L ks i x.hv (key s)))∧w=w':=by
 obtain ⟨⟨m,n,D,h1,h2,h3⟩,h4,h5,⟨hd,h6⟩,mo,v,h7⟩:=h
 have hrun:=places_ok h2 h3 hs
 have HA:=hid (at_any h7 s hs)
 have HV:=hid (hasValue_any h6)
 have cP:=one_cellE h1
 have cE:=one_cellE h4
 have cI:=one_cellE h5
 obtain ⟨G,hG⟩:∃ G,G=known L ks i x.hv (key s):=⟨_,rfl⟩
 rw [← hG]
 unfold known at hG
 obtain ⟨N,hN⟩:∃ N:Nat,N=(if key s ∈ ks then ks.idxOf (key s) else 0):=⟨_,rfl⟩
 have hNle:N≤1000000:=by
  rw [hN]; split
  ·have:=List.idxOf_le_length (a:=key s) (l:=ks); omega
  ·omega
 have hNe:key s ∈ ks→ks.idxOf (key s)=N:=fun hm=>by rw [hN,if_pos hm]
 rw [← hN] at hrun
 obtain ⟨Z,hZ⟩:∃ Z:Bool,Z=decide (key s ∈ ks):=⟨_,rfl⟩
 rw [← hZ] at hrun hG
 have hZN:Z=true→decide (ks.idxOf (key s) < i)=decide (N < i):=fun hz=>by
  rw [hZ] at hz
  rw [hNe (of_decide_eq_true hz)]
 obtain ⟨V,hV⟩:∃ V,V=x.hv:=⟨_,rfl⟩
 rw [← hV] at HV hG
 obtain ⟨O,hO⟩:∃ O,O=lookE L (key s):=⟨_,rfl⟩
 rw [← hO] at HA hG
 have HG:=hid hG
 have HZN:=hid hZN
 have hNi:((N:Int) < (i:Int)) ↔ N < i:=by omega
 have HNI:=hid hNi
 clear h1 h2 h3 h4 h5 h6 h7 hG hN hNle hNe hZ hZN hV hO hNi
 cases O with
 | some p =>
   have HE:Hid (true=G):=hid (by rw [HG.out]; rfl)
   unfold ptrV at HA
   clear HG
   go_enter Tryz.func100,Tryz.ntmps100
   go_wp2_with fail
   refine HA.out.mono ?_
   rintro y w' ⟨rfl,rfl⟩
   go_wp2_with fail
   go_ret
   exact ⟨by rw [← HE.out]; rfl,rfl⟩
 | none =>
   unfold ptrV at HA
   cases Z
   ·have HE:Hid (false=G):=hid (by rw [HG.out]; rfl)
    clear HG
    go_enter Tryz.func100,Tryz.ntmps100
    go_wp2_with fail
    refine HA.out.mono ?_
    rintro y w' ⟨rfl,rfl⟩
    go_wp2_with fail
    go_ret
    exact ⟨by rw [← HE.out]; rfl,rfl⟩
   ·by_cases hlt:N < i
    ·have HE:Hid (true=G):=hid (by rw [HG.out,HZN.out rfl,decide_eq_true hlt]; rfl)
     have hd1:decide ((N:Int) < (i:Int))=true:=decide_eq_true (by omega)
     clear HG HZN
     go_enter Tryz.func100,Tryz.ntmps100
     go_wp2_with fail
     refine HA.out.mono ?_
     rintro y w' ⟨rfl,rfl⟩
     go_wp2_with fail
     go_ret
     exact ⟨by rw [← HE.out]; rfl,rfl⟩
    ·have HE:Hid ((!V)=G):=hid (by rw [HG.out,HZN.out rfl,decide_eq_false hlt]; rfl)
     have hd1:decide ((N:Int) < (i:Int))=false:=decide_eq_false (by omega)
     clear HG HZN
     go_enter Tryz.func100,Tryz.ntmps100
     go_wp2_with fail
     refine HA.out.mono ?_
     rintro y w' ⟨rfl,rfl⟩
     go_wp2_with fail
     refine HV.out.mono ?_
     rintro y w' ⟨rfl,rfl⟩
     cases V
     all_goals
      go_wp2_with fail
      go_ret
      exact ⟨by rw [← HE.out]; rfl,rfl⟩
end Go.Proofs.YtmngddomnaaedaaGreat
