/-
 battenref07.Same: an info is the same as itself,wherever it lies.
-/
import Derived.Lib.Hide
import Derived.Test.YtmngddomnaaedaaGreatQB1
import Derived.Test.YtmngddomnaaedaaGreatQB8
import Derived.Test.YtmngddomnaaedaaGreatQB10
import Derived.Test.YtmngddomnaaedaaGreatQB3
import Derived.OpenShut
import Derived.ChangeArms
import Derived.DataReads
open Go.Lib (hid)
set_option maxRecDepth 100000
set_option maxHeartbeats 32000000
namespace Go.Proofs.YtmngddomnaaedaaGreat
open Go.RowKit Go.Shelf Go.Maps Lvl Trm Env
namespace Env
theorem boxes (w:World) (cs ds:Array Value) (t:TypeId) (j:Nat):((w.alloc (.cells cs t)).alloc (.cells ds t)).cell? ⟨w.heap.size,j,none⟩=cs[j]?∧((w.alloc (.cells cs t)).alloc (.cells ds t)).cell? ⟨w.heap.size + 1,j,none⟩=ds[j]?:=by
 have h1:=new1of2 w (.cells cs t) (.cells ds t)
 have h2:=new2 w (.cells cs t) (.cells ds t)
 unfold World.cell?
 constructor
 ·show (match ((w.alloc (.cells cs t)).alloc (.cells ds t)).heap[w.heap.size]? with | some (.cells c _ _)=>c[j]? | _=>none)=_
  rw [h1]
 ·show (match ((w.alloc (.cells cs t)).alloc (.cells ds t)).heap[w.heap.size + 1]? with | some (.cells c _ _)=>c[j]? | _=>none)=_
  rw [h2]
end Env
theorem same7_any (x:Inf) (h g:IHd) (w:World) (h1:x.In w.heap.size w h) (h2:x.In w.heap.size w g) (hr:x.rules.length≤1000) :
 Calls Tryz.prog 31 #[.agg (x.vals h).toArray,.agg (x.vals g).toArray] w fun e w'=>e=.returned (.bool true)∧Below w.heap.size w w':=by
 obtain ⟨cs,hcs⟩:∃ cs,cs=(x.vals h).toArray:=⟨_,rfl⟩
 obtain ⟨ds,hds⟩:∃ ds,ds=(x.vals g).toArray:=⟨_,rfl⟩
 obtain ⟨WA,hWA⟩:∃ WA,WA=(w.alloc (.cells cs 53)).alloc (.cells ds 53):=⟨_,rfl⟩
 have HBA:=hid (show Below w.heap.size w WA from hWA ▸ below_two _ _ _)
 have HX:=hid (show IBox WA w.heap.size x h from by rw [hWA,hcs]; exact new1of2 _ _ _)
 have HY:=hid (show IBox WA (w.heap.size + 1) x g from by rw [hWA,hds]; exact new2 _ _ _)
 have HI1:=hid (Inf.carry h1 HBA.out)
 have HI2:=hid (Inf.carry h2 HBA.out)
 have HR:=hid hr
 rw [← hcs,← hds]
 have HC1:∀ j,((w.alloc (.cells cs 53)).alloc (.cells ds 53)).cell? ⟨w.heap.size,j,none⟩=(x.vals h)[j]?:=fun j=>by rw [(boxes w cs ds _ j).1,hcs]; simp
 have HC2:∀ j,((w.alloc (.cells cs 53)).alloc (.cells ds 53)).cell? ⟨w.heap.size + 1,j,none⟩=(x.vals g)[j]?:=fun j=>by rw [(boxes w cs ds _ j).2,hds]; simp
 have c0:((w.alloc (.cells cs 53)).alloc (.cells ds 53)).cell? ⟨w.heap.size,0,none⟩=some (.int .u8 x.kind):=HC1 0
 have d0:((w.alloc (.cells cs 53)).alloc (.cells ds 53)).cell? ⟨w.heap.size + 1,0,none⟩=some (.int .u8 x.kind):=HC2 0
 have c1:((w.alloc (.cells cs 53)).alloc (.cells ds 53)).cell? ⟨w.heap.size,1,none⟩=some (.string x.name):=HC1 1
 have d1:((w.alloc (.cells cs 53)).alloc (.cells ds 53)).cell? ⟨w.heap.size + 1,1,none⟩=some (.string x.name):=HC2 1
 have c2:((w.alloc (.cells cs 53)).alloc (.cells ds 53)).cell? ⟨w.heap.size,2,none⟩=some (.int .i64 x.params):=HC1 2
 have d2:((w.alloc (.cells cs 53)).alloc (.cells ds 53)).cell? ⟨w.heap.size + 1,2,none⟩=some (.int .i64 x.params):=HC2 2
 have c13:((w.alloc (.cells cs 53)).alloc (.cells ds 53)).cell? ⟨w.heap.size,13,none⟩=some (.int .i64 x.height):=HC1 13
 have d13:((w.alloc (.cells cs 53)).alloc (.cells ds 53)).cell? ⟨w.heap.size + 1,13,none⟩=some (.int .i64 x.height):=HC2 13
 have c14:((w.alloc (.cells cs 53)).alloc (.cells ds 53)).cell? ⟨w.heap.size,14,none⟩=some (.string x.block):=HC1 14
 have d14:((w.alloc (.cells cs 53)).alloc (.cells ds 53)).cell? ⟨w.heap.size + 1,14,none⟩=some (.string x.block):=HC2 14
 have c15:((w.alloc (.cells cs 53)).alloc (.cells ds 53)).cell? ⟨w.heap.size,15,none⟩=some (.string x.of_):=HC1 15
 have d15:((w.alloc (.cells cs 53)).alloc (.cells ds 53)).cell? ⟨w.heap.size + 1,15,none⟩=some (.string x.of_):=HC2 15
 have c16:((w.alloc (.cells cs 53)).alloc (.cells ds 53)).cell? ⟨w.heap.size,16,none⟩=some (.int .i64 x.fixed):=HC1 16
 have d16:((w.alloc (.cells cs 53)).alloc (.cells ds 53)).cell? ⟨w.heap.size + 1,16,none⟩=some (.int .i64 x.fixed):=HC2 16
 have c17:((w.alloc (.cells cs 53)).alloc (.cells ds 53)).cell? ⟨w.heap.size,17,none⟩=some (.int .i64 x.index):=HC1 17
 have d17:((w.alloc (.cells cs 53)).alloc (.cells ds 53)).cell? ⟨w.heap.size + 1,17,none⟩=some (.int .i64 x.index):=HC2 17
 have c18:((w.alloc (.cells cs 53)).alloc (.cells ds 53)).cell? ⟨w.heap.size,18,none⟩=some (.int .i64 x.no):=HC1 18
 have d18:((w.alloc (.cells cs 53)).alloc (.cells ds 53)).cell? ⟨w.heap.size + 1,18,none⟩=some (.int .i64 x.no):=HC2 18
 have c19:((w.alloc (.cells cs 53)).alloc (.cells ds 53)).cell? ⟨w.heap.size,19,none⟩=some (.int .i64 x.fields):=HC1 19
 have d19:((w.alloc (.cells cs 53)).alloc (.cells ds 53)).cell? ⟨w.heap.size + 1,19,none⟩=some (.int .i64 x.fields):=HC2 19
 have c20:((w.alloc (.cells cs 53)).alloc (.cells ds 53)).cell? ⟨w.heap.size,20,none⟩=some (.int .i64 x.motives):=HC1 20
 have d20:((w.alloc (.cells cs 53)).alloc (.cells ds 53)).cell? ⟨w.heap.size + 1,20,none⟩=some (.int .i64 x.motives):=HC2 20
 have c21:((w.alloc (.cells cs 53)).alloc (.cells ds 53)).cell? ⟨w.heap.size,21,none⟩=some (.int .i64 x.minors):=HC1 21
 have d21:((w.alloc (.cells cs 53)).alloc (.cells ds 53)).cell? ⟨w.heap.size + 1,21,none⟩=some (.int .i64 x.minors):=HC2 21
 have c22:((w.alloc (.cells cs 53)).alloc (.cells ds 53)).cell? ⟨w.heap.size,22,none⟩=some (.slice h.ro x.rules.length h.rc):=HC1 22
 have d22:((w.alloc (.cells cs 53)).alloc (.cells ds 53)).cell? ⟨w.heap.size + 1,22,none⟩=some (.slice g.ro x.rules.length g.rc):=HC2 22
 have c23:((w.alloc (.cells cs 53)).alloc (.cells ds 53)).cell? ⟨w.heap.size,23,none⟩=some (.int .i64 x.ctors):=HC1 23
 have d23:((w.alloc (.cells cs 53)).alloc (.cells ds 53)).cell? ⟨w.heap.size + 1,23,none⟩=some (.int .i64 x.ctors):=HC2 23
 have c24:((w.alloc (.cells cs 53)).alloc (.cells ds 53)).cell? ⟨w.heap.size,24,none⟩=some (.bool x.record):=HC1 24
 have d24:((w.alloc (.cells cs 53)).alloc (.cells ds 53)).cell? ⟨w.heap.size + 1,24,none⟩=some (.bool x.record):=HC2 24
 clear HC1 HC2 h1 h2 hr hcs hds
 go_enter Tryz.func31,Tryz.ntmps31
 go_upto_region 3 with fail
 rw [← hWA]
 clear hWA c0 d0 c1 d1 c2 d2 c13 d13 c14 d14 c15 d15 c16 d16 c17 d17 c18 d18 c19 d19 c20 d20 c21 d21 c22 d22 c23 d23 c24 d24
 have c22:WA.cell? ⟨w.heap.size,22,none⟩=some (.slice h.ro x.rules.length h.rc):=HX.out.cell 22
 have d22:WA.cell? ⟨w.heap.size + 1,22,none⟩=some (.slice g.ro x.rules.length g.rc):=HY.out.cell 22
 go_upto_region 4 with fail
 go_loopw [5] (fun i wr=>∃ k:Nat,i=.int .i64 k∧k≤x.rules.length∧Below WA.heap.size WA wr) (fun i _=>x.rules.length - (intOf i).toNat)
 case atStart=>exact ⟨0,rfl,by omega,Below.refl _ _⟩
 case round =>
  obtain ⟨k,rfl,hk,hbel⟩:=hrel
  have HB:=hid hbel
  have c22:wr.cell? ⟨w.heap.size,22,none⟩=some (.slice h.ro x.rules.length h.rc):=(HX.out.keep hbel).cell 22
  have d22:wr.cell? ⟨w.heap.size + 1,22,none⟩=some (.slice g.ro x.rules.length g.rc):=(HY.out.keep hbel).cell 22
  clear hbel
  by_cases hlt:k < x.rules.length
  ·obtain ⟨b,off,hd,hlo,hb,hrg,hin⟩:=HI1.out.rules.place k hlt
   obtain ⟨b',off',hd',hlo',hb',hrg',hin'⟩:=HI2.out.rules.place k hlt
   obtain ⟨r,hr⟩:∃ r,r=x.rules[k]:=⟨_,rfl⟩
   rw [← hr] at hrg hrg' hin hin'
   have HP:=hid (fun (W:World) (hW:Below WA.heap.size WA W) (j:Nat) (v:Value) (hv:(r.vals hd)[j]?=some v)=>(range_below hrg hW hb j v hv:W.cell? ⟨b,off + k * 7 + j,none⟩=some v))
   have HP':=hid (fun (W:World) (hW:Below WA.heap.size WA W) (j:Nat) (v:Value) (hv:(r.vals hd')[j]?=some v)=>(range_below hrg' hW hb' j v hv:W.cell? ⟨b',off' + k * 7 + j,none⟩=some v))
   have HSM:=hid (fun (W:World) (hW:Below WA.heap.size WA W)=>(same_iff.2 rfl:same r.body r.body=true) ▸ RefSame_any r.body r.body hd hd' W (carry hin hW) (carry hin' hW))
   have HSX:=hid (fun (W:World) (hW:Below WA.heap.size WA W)=>(⟨(HX.out.keep hW).cell 22,(HY.out.keep hW).cell 22⟩:W.cell? ⟨w.heap.size,22,none⟩=some (.slice h.ro x.rules.length h.rc)∧W.cell? ⟨w.heap.size + 1,22,none⟩=some (.slice g.ro x.rules.length g.rc)))
   have hwk:wrap64 ((k:Int) + 1)=(k:Int) + 1:=IntWalk.wrap64_in _ (by have:=HR.out; omega)
   have hwk2:IntKind.i64.wrap ((k:Int) + 1)=(k:Int) + 1:=IntWalk.i64_in _ (by have:=HR.out; omega)
   rw [hlo] at c22 HSX
   rw [hlo'] at d22 HSX
   have HLT:=hid hlt
   clear hrg hrg' hin hin' hr hlo hlo' hb hb'
   unfold Tm.val Tm.vals at HSM
   go_upto_region 6 with fail
   refine wp_region_held_drew (S:=fun w'=>w'.cell? ⟨w.heap.size,22,none⟩=some (.slice (some ⟨b,off,none⟩) x.rules.length h.rc)∧w'.cell? ⟨w.heap.size + 1,22,none⟩=some (.slice (some ⟨b',off',none⟩) x.rules.length g.rc)∧w'.cell? ⟨b,off + k * 7,none⟩=some (.string r.ctor)∧w'.cell? ⟨b,off + k * 7 + 1,none⟩=some (.int .i64 r.fields)∧w'.cell? ⟨b,off + k * 7 + 2,none⟩=some (.int .u8 r.body.k)∧w'.cell? ⟨b,off + k * 7 + 3,none⟩=some (.int .i64 r.body.n)∧w'.cell? ⟨b,off + k * 7 + 4,none⟩=some (.string r.body.s)∧w'.cell? ⟨b,off + k * 7 + 5,none⟩=some (.slice hd.lo r.body.ls.length hd.lc)∧w'.cell? ⟨b,off + k * 7 + 6,none⟩=some (.slice hd.to r.body.ts.length hd.tc)∧w'.cell? ⟨b',off' + k * 7,none⟩=some (.string r.ctor)∧w'.cell? ⟨b',off' + k * 7 + 1,none⟩=some (.int .i64 r.fields)∧w'.cell? ⟨b',off' + k * 7 + 2,none⟩=some (.int .u8 r.body.k)∧w'.cell? ⟨b',off' + k * 7 + 3,none⟩=some (.int .i64 r.body.n)∧w'.cell? ⟨b',off' + k * 7 + 4,none⟩=some (.string r.body.s)∧w'.cell? ⟨b',off' + k * 7 + 5,none⟩=some (.slice hd'.lo r.body.ls.length hd'.lc)∧w'.cell? ⟨b',off' + k * 7 + 6,none⟩=some (.slice hd'.to r.body.ts.length hd'.tc)) (by kernel_rfl) (⟨(HSX.out wr.drew HB.out.drew).1,(HSX.out wr.drew HB.out.drew).2,HP.out wr.drew HB.out.drew 0 _ rfl,HP.out wr.drew HB.out.drew 1 _ rfl,HP.out wr.drew HB.out.drew 2 _ rfl,HP.out wr.drew HB.out.drew 3 _ rfl,HP.out wr.drew HB.out.drew 4 _ rfl,HP.out wr.drew HB.out.drew 5 _ rfl,HP.out wr.drew HB.out.drew 6 _ rfl,HP'.out wr.drew HB.out.drew 0 _ rfl,HP'.out wr.drew HB.out.drew 1 _ rfl,HP'.out wr.drew HB.out.drew 2 _ rfl,HP'.out wr.drew HB.out.drew 3 _ rfl,HP'.out wr.drew HB.out.drew 4 _ rfl,HP'.out wr.drew HB.out.drew 5 _ rfl,HP'.out wr.drew HB.out.drew 6 _ rfl⟩) (fun hHeld=>?_)
   refine wpAnyH_take (i:=0) (v:=?vsm0) rfl (by kernel_rfl) (by kernel_rfl) (by kernel_rfl) (fun _ _ _ h=>h) (Or.inl ⟨by rfl,?hysm0⟩) (by assumption) ?restsm0
   case hysm0=>(intro w hSw; (try dsimp only at hSw); go_simp <;> with_reducible rfl)
   try simp only [zqT,zqZ,Act.put,zqB,zq0,zq1]
   refine wpAnyH_take (i:=1) (v:=?vsm1) rfl (by kernel_rfl) (by kernel_rfl) (by kernel_rfl) (fun _ _ _ h=>h) (Or.inl ⟨by rfl,?hysm1⟩) (by assumption) ?restsm1
   case hysm1=>(intro w hSw; (try dsimp only at hSw); go_simp <;> with_reducible rfl)
   try simp only [zqT,zqS,zqZ,Act.put,zqB,zq0,zq1]
   refine wpAnyH_take (i:=2) (v:=?vsm2) rfl (by kernel_rfl) (by kernel_rfl) (by kernel_rfl) (fun _ _ _ h=>h) (Or.inl ⟨by rfl,?hysm2⟩) (by assumption) ?restsm2
   case hysm2=>(intro w hSw; (try dsimp only at hSw); go_simp <;> with_reducible rfl)
   try simp only [zqT,zqS,zqZ,Act.put,zqB,zq0,zq1]
   refine wpAnyH_take (i:=3) (v:=?vsm3) rfl (by kernel_rfl) (by kernel_rfl) (by kernel_rfl) (fun _ _ _ h=>h) (Or.inl ⟨by rfl,?hysm3⟩) (by assumption) ?restsm3
   case hysm3=>(intro w hSw; (try dsimp only at hSw); go_simp <;> with_reducible rfl)
   try simp only [zqT,zqS,zqZ,Act.put,zqB,zq0,zq1]
   refine wpAnyH_take (i:=4) (v:=?vsm4) rfl (by kernel_rfl) (by kernel_rfl) (by kernel_rfl) (fun _ _ _ h=>h) (Or.inl ⟨by rfl,?hysm4⟩) (by assumption) ?restsm4
   case hysm4=>(intro w hSw; (try dsimp only at hSw); go_simp <;> with_reducible rfl)
   try simp only [zqT,zqS,zqZ,Act.put,zqB,zq0,zq1]
   refine wpAnyH_take (i:=5) (v:=?vsm5) rfl (by kernel_rfl) (by kernel_rfl) (by kernel_rfl) (fun _ _ _ h=>h) (Or.inl ⟨by rfl,?hysm5⟩) (by assumption) ?restsm5
   case hysm5=>(intro w hSw; (try dsimp only at hSw); go_simp <;> with_reducible rfl)
   try simp only [zqT,zqS,zqZ,Act.put,zqB,zq0,zq1]
   refine wpAnyH_take (i:=6) (v:=?vsm6) rfl (by kernel_rfl) (by kernel_rfl) (by kernel_rfl) (fun _ _ _ h=>h) (Or.inl ⟨by rfl,?hysm6⟩) (by assumption) ?restsm6
   case hysm6=>(intro w hSw; (try dsimp only at hSw); go_simp <;> with_reducible rfl)
   try simp only [zqT,zqS,zqZ,Act.put,zqB,zq0,zq1]
   refine wpAnyH_take (i:=7) (v:=?vsm7) rfl (by kernel_rfl) (by kernel_rfl) (by kernel_rfl) (fun _ _ _ h=>h) (Or.inl ⟨by rfl,?hysm7⟩) (by assumption) ?restsm7
   case hysm7=>(intro w hSw; (try dsimp only at hSw); go_simp <;> with_reducible rfl)
   try simp only [zqT,zqS,zqZ,Act.put,zqB,zq0,zq1]
   refine wpAnyH_take (i:=8) (v:=?vsm8) rfl (by kernel_rfl) (by kernel_rfl) (by kernel_rfl) (fun _ _ _ h=>h) (Or.inl ⟨by rfl,?hysm8⟩) (by assumption) ?restsm8
   case hysm8=>(intro w hSw; (try dsimp only at hSw); go_simp <;> with_reducible rfl)
   try simp only [zqT,zqS,zqZ,Act.put,zqB,zq0,zq1]
   refine wpAnyH_take (i:=9) (v:=?vsm9) rfl (by kernel_rfl) (by kernel_rfl) (by kernel_rfl) (fun _ _ _ h=>h) (Or.inl ⟨by rfl,?hysm9⟩) (by assumption) ?restsm9
   case hysm9=>(intro w hSw; (try dsimp only at hSw); go_simp <;> with_reducible rfl)
   try simp only [zqT,zqS,zqZ,Act.put,zqB,zq0,zq1]
   refine wpAnyH_take (i:=10) (v:=?vsm10) rfl (by kernel_rfl) (by kernel_rfl) (by kernel_rfl) (fun _ _ _ h=>h) (Or.inl ⟨by rfl,?hysm10⟩) (by assumption) ?restsm10
   case hysm10=>(intro w hSw; (try dsimp only at hSw); go_simp <;> with_reducible rfl)
   try simp only [zqT,zqS,zqZ,Act.put,zqB,zq0,zq1]
   refine wpAnyH_take (i:=11) (v:=?vsm11) rfl (by kernel_rfl) (by kernel_rfl) (by kernel_rfl) (fun _ _ _ h=>h) (Or.inl ⟨by rfl,?hysm11⟩) (by assumption) ?restsm11
   case hysm11=>(intro w hSw; (try dsimp only at hSw); go_simp <;> with_reducible rfl)
   try simp only [zqT,zqS,zqZ,Act.put,zqB,zq0,zq1]
   refine wpAnyH_take (i:=12) (v:=?vsm12) rfl (by kernel_rfl) (by kernel_rfl) (by kernel_rfl) (fun _ _ _ h=>h) (Or.inl ⟨by rfl,?hysm12⟩) (by assumption) ?restsm12
   case hysm12=>(intro w hSw; (try dsimp only at hSw); go_simp <;> with_reducible rfl)
   try simp only [zqT,zqS,zqZ,Act.put,zqB,zq0,zq1]
   refine wpAnyH_take (i:=13) (v:=?vsm13) rfl (by kernel_rfl) (by kernel_rfl) (by kernel_rfl) (fun _ _ _ h=>h) (Or.inl ⟨by rfl,?hysm13⟩) (by assumption) ?restsm13
   case hysm13=>(intro w hSw; (try dsimp only at hSw); go_simp <;> with_reducible rfl)
   try simp only [zqT,zqS,zqZ,Act.put,zqB,zq0,zq1]
   refine wpAnyH_take (i:=14) (v:=?vsm14) rfl (by kernel_rfl) (by kernel_rfl) (by kernel_rfl) (fun _ _ _ h=>h) (Or.inl ⟨by rfl,?hysm14⟩) (by assumption) ?restsm14
   case hysm14=>(intro w hSw; (try dsimp only at hSw); go_simp <;> with_reducible rfl)
   try simp only [zqT,zqS,zqZ,Act.put,zqB,zq0,zq1]
   refine wpAnyH_take (i:=15) (v:=?vsm15) rfl (by kernel_rfl) (by kernel_rfl) (by kernel_rfl) (fun _ _ _ h=>h) (Or.inl ⟨by rfl,?hysm15⟩) (by assumption) ?restsm15
   case hysm15=>(intro w hSw; (try dsimp only at hSw); go_simp <;> with_reducible rfl)
   try simp only [zqT,zqS,zqZ,Act.put,zqB,zq0,zq1]
   refine wpAnyH_take (i:=16) (v:=?vsm16) rfl (by kernel_rfl) (by kernel_rfl) (by kernel_rfl) (fun _ _ _ h=>h) (Or.inl ⟨by rfl,?hysm16⟩) (by assumption) ?restsm16
   case hysm16=>(intro w hSw; (try dsimp only at hSw); go_simp <;> with_reducible rfl)
   try simp only [zqT,zqS,zqZ,Act.put,zqB,zq0,zq1]
   refine wpAnyH_take (i:=17) (v:=?vsm17) rfl (by kernel_rfl) (by kernel_rfl) (by kernel_rfl) (fun _ _ _ h=>h) (Or.inl ⟨by rfl,?hysm17⟩) (by assumption) ?restsm17
   case hysm17=>(intro w hSw; (try dsimp only at hSw); go_simp <;> with_reducible rfl)
   try simp only [zqT,zqS,zqZ,Act.put,zqB,zq0,zq1]
   refine wpAnyH_take (i:=18) (v:=?vsm18) rfl (by kernel_rfl) (by kernel_rfl) (by kernel_rfl) (fun _ _ _ h=>h) (Or.inl ⟨by rfl,?hysm18⟩) (by assumption) ?restsm18
   case hysm18=>(intro w hSw; (try dsimp only at hSw); go_simp <;> with_reducible rfl)
   try simp only [zqT,zqS,zqZ,Act.put,zqB,zq0,zq1]
   refine wpAnyH_take (i:=19) (v:=?vsm19) rfl (by kernel_rfl) (by kernel_rfl) (by kernel_rfl) (fun _ _ _ h=>h) (Or.inl ⟨by rfl,?hysm19⟩) (by assumption) ?restsm19
   case hysm19=>(intro w hSw; (try dsimp only at hSw); go_simp <;> with_reducible rfl)
   try simp only [zqT,zqS,zqZ,Act.put,zqB,zq0,zq1]
   refine wpAnyH_take (i:=20) (v:=?vsm20) rfl (by kernel_rfl) (by kernel_rfl) (by kernel_rfl) (fun _ _ _ h=>h) (Or.inl ⟨by rfl,?hysm20⟩) (by assumption) ?restsm20
   case hysm20=>(intro w hSw; (try dsimp only at hSw); go_simp <;> with_reducible rfl)
   try simp only [zqT,zqS,zqZ,Act.put,zqB,zq0,zq1]
   refine wpAnyH_take (i:=21) (v:=?vsm21) rfl (by kernel_rfl) (by kernel_rfl) (by kernel_rfl) (fun _ _ _ h=>h) (Or.inl ⟨by rfl,?hysm21⟩) (by assumption) ?restsm21
   case hysm21=>(intro w hSw; (try dsimp only at hSw); go_simp <;> with_reducible rfl)
   try simp only [zqT,zqS,zqZ,Act.put,zqB,zq0,zq1]
   refine wpAnyH_take (i:=22) (v:=?vsm22) rfl (by kernel_rfl) (by kernel_rfl) (by kernel_rfl) (fun _ _ _ h=>h) (Or.inl ⟨by rfl,?hysm22⟩) (by assumption) ?restsm22
   case hysm22=>(intro w hSw; (try dsimp only at hSw); go_simp <;> with_reducible rfl)
   try simp only [zqT,zqS,zqZ,Act.put,zqB,zq0,zq1]
   refine wpAnyH_take (i:=23) (v:=?vsm23) rfl (by kernel_rfl) (by kernel_rfl) (by kernel_rfl) (fun _ _ _ h=>h) (Or.inl ⟨by rfl,?hysm23⟩) (by assumption) ?restsm23
   case hysm23=>(intro w hSw; (try dsimp only at hSw); go_simp <;> with_reducible rfl)
   try simp only [zqT,zqS,zqZ,Act.put,zqB,zq0,zq1]
   refine wpAnyH_take (i:=24) (v:=?vsm24) rfl (by kernel_rfl) (by kernel_rfl) (by kernel_rfl) (fun _ _ _ h=>h) (Or.inl ⟨by rfl,?hysm24⟩) (by assumption) ?restsm24
   case hysm24=>(intro w hSw; (try dsimp only at hSw); go_simp <;> with_reducible rfl)
   try simp only [zqT,zqS,zqZ,Act.put,zqB,zq0,zq1]
   refine wpAnyH_take (i:=25) (v:=?vsm25) rfl (by kernel_rfl) (by kernel_rfl) (by kernel_rfl) (fun _ _ _ h=>h) (Or.inl ⟨by rfl,?hysm25⟩) (by assumption) ?restsm25
   case hysm25=>(intro w hSw; (try dsimp only at hSw); go_simp <;> with_reducible rfl)
   try simp only [zqT,zqS,zqZ,Act.put,zqB,zq0,zq1]
   refine wpAnyH_take (i:=26) (v:=?vsm26) rfl (by kernel_rfl) (by kernel_rfl) (by kernel_rfl) (fun _ _ _ h=>h) (Or.inl ⟨by rfl,?hysm26⟩) (by assumption) ?restsm26
   case hysm26=>(intro w hSw; (try dsimp only at hSw); go_simp <;> with_reducible rfl)
   try simp only [zqT,zqS,zqZ,Act.put,zqB,zq0,zq1]
   refine wpAnyH_take (i:=27) (v:=?vsm27) rfl (by kernel_rfl) (by kernel_rfl) (by kernel_rfl) (fun _ _ _ h=>h) (Or.inl ⟨by rfl,?hysm27⟩) (by assumption) ?restsm27
   case hysm27=>(intro w hSw; (try dsimp only at hSw); go_simp <;> with_reducible rfl)
   try simp only [zqT,zqS,zqZ,Act.put,zqB,zq0,zq1]
   refine wpAnyH_take (i:=28) (v:=?vsm28) rfl (by kernel_rfl) (by kernel_rfl) (by kernel_rfl) (fun _ _ _ h=>h) (Or.inl ⟨by rfl,?hysm28⟩) (by assumption) ?restsm28
   case hysm28=>(intro w hSw; (try dsimp only at hSw); go_simp <;> with_reducible rfl)
   try simp only [zqT,zqS,zqZ,Act.put,zqB,zq0,zq1]
   refine wpAnyH_take (i:=29) (v:=?vsm29) rfl (by kernel_rfl) (by kernel_rfl) (by kernel_rfl) (fun _ _ _ h=>h) (Or.inl ⟨by rfl,?hysm29⟩) (by assumption) ?restsm29
   case hysm29=>(intro w hSw; (try dsimp only at hSw); go_simp <;> with_reducible rfl)
   try simp only [zqT,zqS,zqZ,Act.put,zqB,zq0,zq1]
   refine wpAnyH_take (i:=30) (v:=?vsm30) rfl (by kernel_rfl) (by kernel_rfl) (by kernel_rfl) (fun _ _ _ h=>h) (Or.inl ⟨by rfl,?hysm30⟩) (by assumption) ?restsm30
   case hysm30=>(intro w hSw; (try dsimp only at hSw); go_simp <;> with_reducible rfl)
   try simp only [zqT,zqS,zqZ,Act.put,zqB,zq0,zq1]
   refine wpAnyH_take (i:=31) (v:=?vsm31) rfl (by kernel_rfl) (by kernel_rfl) (by kernel_rfl) (fun _ _ _ h=>h) (Or.inl ⟨by rfl,?hysm31⟩) (by assumption) ?restsm31
   case hysm31=>(intro w hSw; (try dsimp only at hSw); go_simp <;> with_reducible rfl)
   try simp only [zqT,zqS,zqZ,Act.put,zqB,zq0,zq1]
   refine wpAnyH_take (i:=32) (v:=?vsm32) rfl (by kernel_rfl) (by kernel_rfl) (by kernel_rfl) (fun _ _ _ h=>h) (Or.inl ⟨by rfl,?hysm32⟩) (by assumption) ?restsm32
   case hysm32=>(intro w hSw; (try dsimp only at hSw); go_simp <;> with_reducible rfl)
   try simp only [zqT,zqS,zqZ,Act.put,zqB,zq0,zq1]
   refine wpAnyH_take (i:=33) (v:=?vsm33) rfl (by kernel_rfl) (by kernel_rfl) (by kernel_rfl) (fun _ _ _ h=>h) (Or.inl ⟨by rfl,?hysm33⟩) (by assumption) ?restsm33
   case hysm33=>(intro w hSw; (try dsimp only at hSw); go_simp <;> with_reducible rfl)
   try simp only [zqT,zqS,zqZ,Act.put,zqB,zq0,zq1]
   refine wpAnyH_take (i:=34) (v:=?vsm34) rfl (by kernel_rfl) (by kernel_rfl) (by kernel_rfl) (fun _ _ _ h=>h) (Or.inl ⟨by rfl,?hysm34⟩) (by assumption) ?restsm34
   case hysm34=>(intro w hSw; (try dsimp only at hSw); go_simp <;> with_reducible rfl)
   try simp only [zqT,zqS,zqZ,Act.put,zqB,zq0,zq1]
   refine wpAnyH_take (i:=35) (v:=?vsm35) rfl (by kernel_rfl) (by kernel_rfl) (by kernel_rfl) (fun _ _ _ h=>h) (Or.inl ⟨by rfl,?hysm35⟩) (by assumption) ?restsm35
   case hysm35=>(intro w hSw; (try dsimp only at hSw); go_simp <;> with_reducible rfl)
   try simp only [zqT,zqS,zqZ,Act.put,zqB,zq0,zq1]
   refine wpAnyH_take (i:=36) (v:=?vsm36) rfl (by kernel_rfl) (by kernel_rfl) (by kernel_rfl) (fun _ _ _ h=>h) (Or.inl ⟨by rfl,?hysm36⟩) (by assumption) ?restsm36
   case hysm36=>(intro w hSw; (try dsimp only at hSw); go_simp <;> with_reducible rfl)
   try simp only [zqT,zqS,zqZ,Act.put,zqB,zq0,zq1]
   refine wpAnyH_take (i:=37) (v:=?vsm37) rfl (by kernel_rfl) (by kernel_rfl) (by kernel_rfl) (fun _ _ _ h=>h) (Or.inl ⟨by rfl,?hysm37⟩) (by assumption) ?restsm37
   case hysm37=>(intro w hSw; (try dsimp only at hSw); go_simp <;> with_reducible rfl)
   try simp only [zqT,zqS,zqZ,Act.put,zqB,zq0,zq1]
   refine wpAnyH_take (i:=38) (v:=?vsm38) rfl (by kernel_rfl) (by kernel_rfl) (by kernel_rfl) (fun _ _ _ h=>h) (Or.inl ⟨by rfl,?hysm38⟩) (by assumption) ?restsm38
   case hysm38=>(intro w hSw; (try dsimp only at hSw); go_simp <;> with_reducible rfl)
   try simp only [zqT,zqS,zqZ,Act.put,zqB,zq0,zq1]
   refine wpAnyH_take (i:=39) (v:=?vsm39) rfl (by kernel_rfl) (by kernel_rfl) (by kernel_rfl) (fun _ _ _ h=>h) (Or.inl ⟨by rfl,?hysm39⟩) (by assumption) ?restsm39
   case hysm39=>(intro w hSw; (try dsimp only at hSw); go_simp <;> with_reducible rfl)
   try simp only [zqT,zqS,zqZ,Act.put,zqB,zq0,zq1]
   refine wpAnyH_take (i:=40) (v:=?vsm40) rfl (by kernel_rfl) (by kernel_rfl) (by kernel_rfl) (fun _ _ _ h=>h) (Or.inl ⟨by rfl,?hysm40⟩) (by assumption) ?restsm40
   case hysm40=>(intro w hSw; (try dsimp only at hSw); go_simp <;> with_reducible rfl)
   try simp only [zqT,zqS,zqZ,Act.put,zqB,zq0,zq1]
   refine wpAnyH_ready (rs:=[41]) (by kernel_rfl) (by simp) ?_
   refine AllReadyH.cons rfl (fun K hK=>?_) AllReadyH.nil
   go_simp
   refine (HSM.out _ HB.out.drew).mono ?_
   rintro y w2 ⟨rfl,b2⟩
   have HB2:=hid (Trm.go HB.out.drew b2)
   clear b2
   refine hK.out _ _ (⟨(HSX.out w2 HB2.out).1,(HSX.out w2 HB2.out).2,HP.out w2 HB2.out 0 _ rfl,HP.out w2 HB2.out 1 _ rfl,HP.out w2 HB2.out 2 _ rfl,HP.out w2 HB2.out 3 _ rfl,HP.out w2 HB2.out 4 _ rfl,HP.out w2 HB2.out 5 _ rfl,HP.out w2 HB2.out 6 _ rfl,HP'.out w2 HB2.out 0 _ rfl,HP'.out w2 HB2.out 1 _ rfl,HP'.out w2 HB2.out 2 _ rfl,HP'.out w2 HB2.out 3 _ rfl,HP'.out w2 HB2.out 4 _ rfl,HP'.out w2 HB2.out 5 _ rfl,HP'.out w2 HB2.out 6 _ rfl⟩) (fun hHeld=>?_)
   clear hK K
   try simp only [zqT,zqS,zqZ,Act.put,zqB,zq0,zq1]
   refine wpAnyH_take (i:=42) (v:=?vsm42) rfl (by kernel_rfl) (by kernel_rfl) (by kernel_rfl) (fun _ _ _ h=>h) (Or.inl ⟨by rfl,?hysm42⟩) (by assumption) ?restsm42
   case hysm42=>(intro w hSw; (try dsimp only at hSw); go_simp <;> with_reducible rfl)
   try simp only [zqT,zqS,zqZ,Act.put,zqB,zq0,zq1]
   refine wpAnyH_take (i:=43) (v:=?vsm43) rfl (by kernel_rfl) (by kernel_rfl) (by kernel_rfl) (fun _ _ _ h=>h) (Or.inl ⟨by rfl,?hysm43⟩) (by assumption) ?restsm43
   case hysm43=>(intro w hSw; (try dsimp only at hSw); go_simp <;> with_reducible rfl)
   try simp only [zqT,zqS,zqZ,Act.put,zqB,zq0,zq1]
   refine wpAnyH_done (by kernel_rfl) ?_ _
   go_wp2_with fail
   go_roundw
   case rel=>exact ⟨k + 1,rfl,HLT.out,HB2.out⟩
   case measure=>exact less_step rfl HLT.out
  ·have hke:k=x.rules.length:=by omega
   subst hke
   go_upto_region 8 with fail
   obtain ⟨t0,t1,t2,t3,t4⟩:=(HX.out.keep HB.out).ty
   obtain ⟨u0,u1,u2,u3,u4⟩:=(HY.out.keep HB.out).ty
   have HS1:=hid ((same_iff.2 rfl:same x.ty x.ty=true) ▸ RefSame_any x.ty x.ty h.ty g.ty wr (carry HI1.out.ty HB.out) (carry HI2.out.ty HB.out))
   unfold Tm.val Tm.vals at HS1
   go_wp2_with fail
   refine HS1.out.mono ?_
   rintro y w2 ⟨rfl,b2⟩
   have HB2:=hid (Trm.go HB.out b2)
   clear b2 t0 t1 t2 t3 t4 u0 u1 u2 u3 u4
   obtain ⟨t0,t1,t2,t3,t4⟩:=(HX.out.keep HB2.out).va
   obtain ⟨u0,u1,u2,u3,u4⟩:=(HY.out.keep HB2.out).va
   have HS2:=hid ((same_iff.2 rfl:same x.va x.va=true) ▸ RefSame_any x.va x.va h.va g.va w2 (carry HI1.out.va HB2.out) (carry HI2.out.va HB2.out))
   unfold Tm.val Tm.vals at HS2
   go_wp2_with fail
   refine HS2.out.mono ?_
   rintro y w3 ⟨rfl,b3⟩
   have HB3:=hid (Trm.go HB2.out b3)
   clear b3
   go_wp2_with fail
   go_ret
   exact ⟨rfl,Trm.go HBA.out HB3.out⟩
end Go.Proofs.YtmngddomnaaedaaGreat
namespace Go.Proofs.YtmngddomnaaedaaGreat
open Go.RowKit Go.Shelf Lvl Trm
section
variable {H:Type} {enc:TypeId × Value→H} {w:World} {base:Nat} {sp:Nat→Bool} {hd:Bool}
theorem Trm.open_level {fuel:Nat} {cs:List Value} {x:DataW H × List MemPlace} (h:DataW.trod enc Tryz.prog w base sp hd fuel 35 cs=some x) :
 ∃ l:Lv,cs=[.int .i64 l.c,.int .i64 l.p0,.int .i64 l.p1,.int .i64 l.p2,.int .i64 l.p3]:=by
 have hC:Tryz.prog.cellsOf 35=5:=by kernel_rfl
 have hI:Tryz.prog.cellsOf 3=1:=by kernel_rfl
 have hA:Tryz.prog.cellsOf 33=4:=by kernel_rfl
 obtain ⟨xs,n,_,_,hl,hxs,hf⟩:=DataW.trod_struct Tryz.underlying35 h
 rw [hC] at hl
 match cs,hl with
 | [v0,v1,v2,v3,v4],_ =>
   have g0:DataW.trod enc Tryz.prog w base sp hd n 3 (([v0,v1,v2,v3,v4].drop 0).take (Tryz.prog.cellsOf 3))=xs[0]?:=hf 0 _ rfl
   have g1:DataW.trod enc Tryz.prog w base sp hd n 33 (([v0,v1,v2,v3,v4].drop 1).take (Tryz.prog.cellsOf 33))=xs[1]?:=hf 1 _ rfl
   rw [hI] at g0
   rw [hA] at g1
   rw [List.getElem?_eq_getElem (by rw [hxs]; decide)] at g0 g1
   obtain ⟨z,hz,_,_⟩:=DataW.trod_int Tryz.underlying3 g0
   obtain ⟨ys,m,_,_,_,hys,ha⟩:=DataW.trod_array Tryz.underlying33 g1
   have a0:=ha 0 (by omega)
   have a1:=ha 1 (by omega)
   have a2:=ha 2 (by omega)
   have a3:=ha 3 (by omega)
   rw [hI] at a0 a1 a2 a3
   rw [List.getElem?_eq_getElem (by omega)] at a0 a1 a2 a3
   obtain ⟨z0,h0,_,_⟩:=DataW.trod_int Tryz.underlying3 a0
   obtain ⟨z1,h1,_,_⟩:=DataW.trod_int Tryz.underlying3 a1
   obtain ⟨z2,h2,_,_⟩:=DataW.trod_int Tryz.underlying3 a2
   obtain ⟨z3,h3,_,_⟩:=DataW.trod_int Tryz.underlying3 a3
   simp at hz h0 h1 h2 h3
   subst hz h0 h1 h2 h3
   exact ⟨⟨z,z0,z1,z2,z3⟩,rfl⟩
theorem Trm.add_none (b o i:Nat):(⟨b,o,none⟩:Addr).add i=⟨b,o + i,none⟩:=by
 unfold Addr.add
 split
 ·rename_i h; rw [h]; rfl
 ·rfl
theorem Trm.add_zero (a:Addr):a.add 0=a:=by simp [Addr.add]
theorem Trm.open_levels {fuel:Nat} {cs:List Value} {x:DataW H × List MemPlace} (h:DataW.trod enc Tryz.prog w base sp hd fuel 22 cs=some x) :
 ∃ (lo:Option Addr) (lc:Nat) (ls:List Lv),cs=[.slice lo ls.length lc]∧LRow w lo ls∧Low w.heap.size lo ls.length∧ls.length≤9223372036854775807∧ls.length≤lc:=by
 have hC:Tryz.prog.cellsOf 35=5:=by kernel_rfl
 rcases DataW.trod_slice Tryz.underlying22 h with ⟨rfl,_⟩ | ⟨a,len,cap,elems,rest,n,_,rfl,_,_,hlc,hcm,hel,hall,_⟩
 ·exact ⟨none,0,[],rfl,⟨fun k hk=>by simp at hk⟩,fun hn=>by simp at hn,by simp,by simp⟩
 ·rw [hC] at hall
  have hnone:0 < len→a.spot=none:=fun h0=>by
   have hi':=hall 0 h0
   rw [List.getElem?_eq_getElem (by omega)] at hi'
   obtain ⟨cs,hcs,ht⟩:=Option.bind_eq_some_iff.1 hi'
   obtain ⟨_,_,hcell⟩:=World.cells?_some hcs
   obtain ⟨l,rfl⟩:=open_level ht
   have h0:=hcell 0 (by omega)
   rw [Nat.zero_mul,add_zero,add_zero] at h0
   exact World.cell?_spot (show w.cell? a=some (.int .i64 l.c) from h0)
  have key:∀ i,i < len→∃ l:Lv,∃ b off,a=⟨b,off,none⟩∧LAt w b (off + i * 5) l:=fun i hi=>by
   have hi':=hall i hi
   rw [List.getElem?_eq_getElem (by omega)] at hi'
   obtain ⟨cs,hcs,ht⟩:=Option.bind_eq_some_iff.1 hi'
   obtain ⟨_,_,hcell⟩:=World.cells?_some hcs
   obtain ⟨l,rfl⟩:=open_level ht
   have hs:=hnone (by omega)
   obtain ⟨b,off,spot⟩:=a
   dsimp only at hs
   subst hs
   simp only [add_none] at hcell
   exact ⟨l,b,off,rfl,hcell 0 (by omega),hcell 1 (by omega),hcell 2 (by omega),hcell 3 (by omega),hcell 4 (by omega)⟩
  have key2:∃ ls:List Lv,ls.length=len∧∀ k (hk:k < ls.length),∃ b off,a=⟨b,off,none⟩∧LAt w b (off + k * 5) ls[k]:=by
   refine ⟨(List.range len).pmap (fun i hi=>Classical.choose (key i hi)) (fun i hi=>by simpa using hi),by simp,fun k hk=>?_⟩
   have hk':k < len:=by simpa using hk
   obtain ⟨b,off,ha,hl⟩:=Classical.choose_spec (key k hk')
   exact ⟨b,off,ha,by simpa using hl⟩
  obtain ⟨ls,rfl,hls⟩:=key2
  refine ⟨some a,cap,ls,rfl,⟨fun k hk=>?_⟩,fun hn a' ha'=>?_,?_,hlc⟩
  ·obtain ⟨b,off,rfl,hl⟩:=hls k hk
   exact ⟨b,off,rfl,hl⟩
  ·obtain ⟨b,off,rfl,hl⟩:=hls 0 hn
   cases ha'
   exact World.block_lt_of_cell? w _ hl.1
  ·have:maxLen=9223372036854775807:=rfl
   omega
theorem Trm.open_term:∀ (fuel:Nat) (cs:List Value) (x:DataW H × List MemPlace),DataW.trod enc Tryz.prog w base sp hd fuel 25 cs=some x →
 ∃ (t:Tm) (h:Hd),cs=(t.vals h).toList∧t.In w.heap.size w h:=by
 have hC:Tryz.prog.cellsOf 25=5:=by kernel_rfl
 have hI:Tryz.prog.cellsOf 3=1:=by kernel_rfl
 have hU:Tryz.prog.cellsOf 5=1:=by kernel_rfl
 have hS:Tryz.prog.cellsOf 9=1:=by kernel_rfl
 have hL:Tryz.prog.cellsOf 22=1:=by kernel_rfl
 have hT:Tryz.prog.cellsOf 23=1:=by kernel_rfl
 intro fuel
 induction fuel using Nat.strongRecOn with
 | _ fuel ih =>
   intro cs x h
   obtain ⟨xs,n,hfu,_,hl,hxs,hf⟩:=DataW.trod_struct Tryz.underlying25 h
   rw [hC] at hl
   match cs,hl with
   | [v0,v1,v2,v3,v4],_ =>
     have g0:DataW.trod enc Tryz.prog w base sp hd n 5 (([v0,v1,v2,v3,v4].drop 0).take (Tryz.prog.cellsOf 5))=xs[0]?:=hf 0 _ rfl
     rw [hU] at g0
     have g1:DataW.trod enc Tryz.prog w base sp hd n 3 (([v0,v1,v2,v3,v4].drop 1).take (Tryz.prog.cellsOf 3))=xs[1]?:=hf 1 _ rfl
     rw [hI] at g1
     have g2:DataW.trod enc Tryz.prog w base sp hd n 9 (([v0,v1,v2,v3,v4].drop 2).take (Tryz.prog.cellsOf 9))=xs[2]?:=hf 2 _ rfl
     rw [hS] at g2
     have g3:DataW.trod enc Tryz.prog w base sp hd n 22 (([v0,v1,v2,v3,v4].drop 3).take (Tryz.prog.cellsOf 22))=xs[3]?:=hf 3 _ rfl
     rw [hL] at g3
     have g4:DataW.trod enc Tryz.prog w base sp hd n 23 (([v0,v1,v2,v3,v4].drop 4).take (Tryz.prog.cellsOf 23))=xs[4]?:=hf 4 _ rfl
     rw [hT] at g4
     have hx5:xs.length=5:=hxs
     rw [List.getElem?_eq_getElem (by omega)] at g0 g1 g2 g3 g4
     obtain ⟨k,hk,_,wk⟩:=DataW.trod_int Tryz.underlying5 g0
     obtain ⟨m,hm,_,wm⟩:=DataW.trod_int Tryz.underlying3 g1
     obtain ⟨s,hs,_,hss⟩:=DataW.trod_string Tryz.underlying9 g2
     obtain ⟨lo,lc,ls,hls,hrow,hlow,hlen,hroom⟩:=open_levels g3
     have hts:∃ (tq0:Option Addr) (tc:Nat) (ts:List Tm),[v4]=[.slice tq0 ts.length tc]∧RowIn w.heap.size w tq0 0 ts∧ts.length≤9223372036854775807:=by
      rcases DataW.trod_slice Tryz.underlying23 g4 with ⟨he,_⟩ | ⟨a,len,cap,elems,rest,n',hn',he,_,_,hlc,hcm,hel,hall,_⟩
      ·exact ⟨none,0,[],he,by rw [RowIn]; trivial,by simp⟩
      ·rw [hC] at hall
       have hnone:0 < len→a.spot=none:=fun h0=>by
        have hi':=hall 0 h0
        rw [List.getElem?_eq_getElem (by omega)] at hi'
        obtain ⟨cs,hcs,ht⟩:=Option.bind_eq_some_iff.1 hi'
        obtain ⟨_,_,hcell⟩:=World.cells?_some hcs
        obtain ⟨t,h',rfl,hin⟩:=ih n' (by omega) cs _ ht
        have h0:=hcell 0 (by omega)
        rw [Nat.zero_mul,add_zero,add_zero] at h0
        exact World.cell?_spot (show w.cell? a=some (.int .u8 t.k) from h0)
       have key:∀ i,i < len→∃ t:Tm,∃ b off,a=⟨b,off,none⟩∧TAt w.heap.size w b (off + i * 5) t:=fun i hi=>by
        have hi':=hall i hi
        rw [List.getElem?_eq_getElem (by omega)] at hi'
        obtain ⟨cs,hcs,ht⟩:=Option.bind_eq_some_iff.1 hi'
        obtain ⟨_,_,hcell⟩:=World.cells?_some hcs
        obtain ⟨t,h',rfl,hin⟩:=ih n' (by omega) cs _ ht
        have hs:=hnone (by omega)
        obtain ⟨b,off,spot⟩:=a
        dsimp only at hs
        subst hs
        simp only [add_none] at hcell
        have h0:w.cell? ⟨b,off + i * 5,none⟩=some (.int .u8 t.k):=hcell 0 (by omega)
        exact ⟨t,b,off,rfl,World.block_lt_of_cell? w _ h0,h',⟨h0,hcell 1 (by omega),hcell 2 (by omega),hcell 3 (by omega),hcell 4 (by omega)⟩,hin⟩
       have key2:∃ ts:List Tm,ts.length=len∧∀ k (hk:k < ts.length),∃ b off,a=⟨b,off,none⟩∧TAt w.heap.size w b (off + k * 5) ts[k]:=by
        refine ⟨(List.range len).pmap (fun i hi=>Classical.choose (key i hi)) (fun i hi=>by simpa using hi),by simp,fun k hk=>?_⟩
        have hk':k < len:=by simpa using hk
        obtain ⟨b,off,ha,hl⟩:=Classical.choose_spec (key k hk')
        exact ⟨b,off,ha,by simpa using hl⟩
       obtain ⟨ts,rfl,hts⟩:=key2
       refine ⟨some a,cap,ts,he,RowIn.mk fun k hk=>?_,?_⟩
       ·obtain ⟨b,off,rfl,hl⟩:=hts k hk
        exact ⟨b,off,rfl,by simpa using hl⟩
       ·have:maxLen=9223372036854775807:=rfl
        omega
     obtain ⟨tq0,tc,ts,ht4,hrin,htl⟩:=hts
     simp at hk hm hs hls ht4
     subst hk hm hs hls ht4
     refine ⟨.mk k m s ls ts,⟨lo,lc,tq0,tc⟩,rfl,Tm.In_iff.2 ⟨⟨?_,?_,?_,?_,?_,hlen,htl⟩,hrow,hlow,hrin,hroom⟩⟩
     ·simp [Lit.wf,IntKind.min,IntKind.max,IntKind.signed,IntKind.bits] at wk; exact wk.1
     ·simp [Lit.wf,IntKind.min,IntKind.max,IntKind.signed,IntKind.bits] at wk; exact wk.2
     ·simp [Lit.wf,IntKind.min,IntKind.max,IntKind.signed,IntKind.bits] at wm; exact wm.1
     ·simp [Lit.wf,IntKind.min,IntKind.max,IntKind.signed,IntKind.bits] at wm; exact wm.2
     ·exact hss
end
theorem Trm.open_arg {H:Type} {enc:TypeId × Value→H} {w:World} {base:Nat} {sp:Nat→Bool} {hd:Bool} {v:Value} {d:DataW H} {p:List MemPlace} (h:DataW.Trod enc Tryz.prog w base sp hd 25 v d p) :
 ∃ (t:Tm) (h:Hd),v=t.val h∧t.In w.heap.size w h:=by
 obtain ⟨fuel,hf⟩:=h
 obtain ⟨t,h,hc,hin⟩:=open_term _ _ _ hf
 refine ⟨t,h,?_,hin⟩
 have hl:v.cells.toList.length=5:=by rw [hc]; simp [Tm.vals]
 cases v with
 | agg cs =>
   have:cs=t.vals h:=by
    have hcs:cs.toList=(t.vals h).toList:=hc
    exact Array.toList_inj.1 hcs
   rw [this]; rfl
 | _=>simp [Value.cells] at hl
end Go.Proofs.YtmngddomnaaedaaGreat
