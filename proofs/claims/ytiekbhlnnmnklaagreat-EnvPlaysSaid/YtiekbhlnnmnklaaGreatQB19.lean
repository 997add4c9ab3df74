/-
 battenref07.Same: an info is the same as itself,wherever it lies.
-/
import Derived.Lib.Hide
import Derived.Test.YtiekbhlnnmnklaaGreatQB1
import Derived.Test.YtiekbhlnnmnklaaGreatQB7
import Derived.Test.YtiekbhlnnmnklaaGreatQB9
import Derived.Test.YtiekbhlnnmnklaaGreatQB6
open Go.Lib (hid)
set_option maxRecDepth 100000
set_option maxHeartbeats 32000000
namespace Go.Proofs.YtiekbhlnnmnklaaGreat
open Go.RowKit Go.Shelf Go.Maps Lvl Trm Env
namespace Env
theorem boxes (w : World) (cs ds : Array Value) (t : TypeId) (j : Nat) : ((w.alloc (.cells cs t)).alloc (.cells ds t)).cell? ⟨w.heap.size,j,none⟩ = cs[j]? ∧ ((w.alloc (.cells cs t)).alloc (.cells ds t)).cell? ⟨w.heap.size + 1,j,none⟩ = ds[j]? := by
 have h1 := new1of2 w (.cells cs t) (.cells ds t)
 have h2 := new2 w (.cells cs t) (.cells ds t)
 unfold World.cell?
 constructor
 ·show (match ((w.alloc (.cells cs t)).alloc (.cells ds t)).heap[w.heap.size]? with | some (.cells c _ _) => c[j]? | _ => none) = _
  rw [h1]
 ·show (match ((w.alloc (.cells cs t)).alloc (.cells ds t)).heap[w.heap.size + 1]? with | some (.cells c _ _) => c[j]? | _ => none) = _
  rw [h2]
def rl7 (r : Rl) (hd : Hd) : List Value := [.string r.ctor,.int .i64 r.fields,.int .u8 r.body.k,.int .i64 r.body.n,.string r.body.s,.slice hd.lo r.body.ls.length hd.lc,.slice hd.to r.body.ts.length hd.tc]
end Env
theorem same7_any (x : Inf) (h g : IHd) (w : World) (h1 : x.In w.heap.size w h) (h2 : x.In w.heap.size w g) (hr : x.rules.length ≤ 1000) :
 Calls Tryz.prog 24 #[.agg (x.vals h).toArray,.agg (x.vals g).toArray] w fun e w' => e = .returned (.bool true) ∧ Below w.heap.size w w' := by
 obtain ⟨cs,hcs⟩ : ∃ cs,cs = (x.vals h).toArray := ⟨_,rfl⟩
 obtain ⟨ds,hds⟩ : ∃ ds,ds = (x.vals g).toArray := ⟨_,rfl⟩
 obtain ⟨WA,hWA⟩ : ∃ WA,WA = (w.alloc (.cells cs 46)).alloc (.cells ds 46) := ⟨_,rfl⟩
 have HBA := hid (show Below w.heap.size w WA from hWA ▸ below_two _ _ _)
 have HX := hid (show IBox WA w.heap.size x h from by rw [hWA,hcs]; exact new1of2 _ _ _)
 have HY := hid (show IBox WA (w.heap.size + 1) x g from by rw [hWA,hds]; exact new2 _ _ _)
 have HI1 := hid (Inf.carry h1 HBA.out)
 have HI2 := hid (Inf.carry h2 HBA.out)
 have HR := hid hr
 rw [← hcs,← hds]
 have HC1 : ∀ j,((w.alloc (.cells cs 46)).alloc (.cells ds 46)).cell? ⟨w.heap.size,j,none⟩ = (x.vals h)[j]? := fun j => by rw [(boxes w cs ds _ j).1,hcs]; simp
 have HC2 : ∀ j,((w.alloc (.cells cs 46)).alloc (.cells ds 46)).cell? ⟨w.heap.size + 1,j,none⟩ = (x.vals g)[j]? := fun j => by rw [(boxes w cs ds _ j).2,hds]; simp
 have c0 : ((w.alloc (.cells cs 46)).alloc (.cells ds 46)).cell? ⟨w.heap.size,0,none⟩ = some (.int .u8 x.kind) := HC1 0
 have d0 : ((w.alloc (.cells cs 46)).alloc (.cells ds 46)).cell? ⟨w.heap.size + 1,0,none⟩ = some (.int .u8 x.kind) := HC2 0
 have c1 : ((w.alloc (.cells cs 46)).alloc (.cells ds 46)).cell? ⟨w.heap.size,1,none⟩ = some (.string x.name) := HC1 1
 have d1 : ((w.alloc (.cells cs 46)).alloc (.cells ds 46)).cell? ⟨w.heap.size + 1,1,none⟩ = some (.string x.name) := HC2 1
 have c2 : ((w.alloc (.cells cs 46)).alloc (.cells ds 46)).cell? ⟨w.heap.size,2,none⟩ = some (.int .i64 x.params) := HC1 2
 have d2 : ((w.alloc (.cells cs 46)).alloc (.cells ds 46)).cell? ⟨w.heap.size + 1,2,none⟩ = some (.int .i64 x.params) := HC2 2
 have c13 : ((w.alloc (.cells cs 46)).alloc (.cells ds 46)).cell? ⟨w.heap.size,13,none⟩ = some (.int .i64 x.height) := HC1 13
 have d13 : ((w.alloc (.cells cs 46)).alloc (.cells ds 46)).cell? ⟨w.heap.size + 1,13,none⟩ = some (.int .i64 x.height) := HC2 13
 have c14 : ((w.alloc (.cells cs 46)).alloc (.cells ds 46)).cell? ⟨w.heap.size,14,none⟩ = some (.string x.block) := HC1 14
 have d14 : ((w.alloc (.cells cs 46)).alloc (.cells ds 46)).cell? ⟨w.heap.size + 1,14,none⟩ = some (.string x.block) := HC2 14
 have c15 : ((w.alloc (.cells cs 46)).alloc (.cells ds 46)).cell? ⟨w.heap.size,15,none⟩ = some (.string x.of_) := HC1 15
 have d15 : ((w.alloc (.cells cs 46)).alloc (.cells ds 46)).cell? ⟨w.heap.size + 1,15,none⟩ = some (.string x.of_) := HC2 15
 have c16 : ((w.alloc (.cells cs 46)).alloc (.cells ds 46)).cell? ⟨w.heap.size,16,none⟩ = some (.int .i64 x.fixed) := HC1 16
 have d16 : ((w.alloc (.cells cs 46)).alloc (.cells ds 46)).cell? ⟨w.heap.size + 1,16,none⟩ = some (.int .i64 x.fixed) := HC2 16
 have c17 : ((w.alloc (.cells cs 46)).alloc (.cells ds 46)).cell? ⟨w.heap.size,17,none⟩ = some (.int .i64 x.index) := HC1 17
 have d17 : ((w.alloc (.cells cs 46)).alloc (.cells ds 46)).cell? ⟨w.heap.size + 1,17,none⟩ = some (.int .i64 x.index) := HC2 17
 have c18 : ((w.alloc (.cells cs 46)).alloc (.cells ds 46)).cell? ⟨w.heap.size,18,none⟩ = some (.int .i64 x.no) := HC1 18
 have d18 : ((w.alloc (.cells cs 46)).alloc (.cells ds 46)).cell? ⟨w.heap.size + 1,18,none⟩ = some (.int .i64 x.no) := HC2 18
 have c19 : ((w.alloc (.cells cs 46)).alloc (.cells ds 46)).cell? ⟨w.heap.size,19,none⟩ = some (.int .i64 x.fields) := HC1 19
 have d19 : ((w.alloc (.cells cs 46)).alloc (.cells ds 46)).cell? ⟨w.heap.size + 1,19,none⟩ = some (.int .i64 x.fields) := HC2 19
 have c20 : ((w.alloc (.cells cs 46)).alloc (.cells ds 46)).cell? ⟨w.heap.size,20,none⟩ = some (.int .i64 x.motives) := HC1 20
 have d20 : ((w.alloc (.cells cs 46)).alloc (.cells ds 46)).cell? ⟨w.heap.size + 1,20,none⟩ = some (.int .i64 x.motives) := HC2 20
 have c21 : ((w.alloc (.cells cs 46)).alloc (.cells ds 46)).cell? ⟨w.heap.size,21,none⟩ = some (.int .i64 x.minors) := HC1 21
 have d21 : ((w.alloc (.cells cs 46)).alloc (.cells ds 46)).cell? ⟨w.heap.size + 1,21,none⟩ = some (.int .i64 x.minors) := HC2 21
 have c22 : ((w.alloc (.cells cs 46)).alloc (.cells ds 46)).cell? ⟨w.heap.size,22,none⟩ = some (.slice h.ro x.rules.length h.rc) := HC1 22
 have d22 : ((w.alloc (.cells cs 46)).alloc (.cells ds 46)).cell? ⟨w.heap.size + 1,22,none⟩ = some (.slice g.ro x.rules.length g.rc) := HC2 22
 have c23 : ((w.alloc (.cells cs 46)).alloc (.cells ds 46)).cell? ⟨w.heap.size,23,none⟩ = some (.int .i64 x.ctors) := HC1 23
 have d23 : ((w.alloc (.cells cs 46)).alloc (.cells ds 46)).cell? ⟨w.heap.size + 1,23,none⟩ = some (.int .i64 x.ctors) := HC2 23
 have c24 : ((w.alloc (.cells cs 46)).alloc (.cells ds 46)).cell? ⟨w.heap.size,24,none⟩ = some (.bool x.record) := HC1 24
 have d24 : ((w.alloc (.cells cs 46)).alloc (.cells ds 46)).cell? ⟨w.heap.size + 1,24,none⟩ = some (.bool x.record) := HC2 24
 clear HC1 HC2 h1 h2 hr hcs hds
 go_enter Tryz.func24,Tryz.ntmps24
 go_upto_region 3 with fail
 rw [← hWA]
 clear hWA c0 d0 c1 d1 c2 d2 c13 d13 c14 d14 c15 d15 c16 d16 c17 d17 c18 d18 c19 d19 c20 d20 c21 d21 c22 d22 c23 d23 c24 d24
 have c22 : WA.cell? ⟨w.heap.size,22,none⟩ = some (.slice h.ro x.rules.length h.rc) := HX.out.cell 22
 have d22 : WA.cell? ⟨w.heap.size + 1,22,none⟩ = some (.slice g.ro x.rules.length g.rc) := HY.out.cell 22
 go_upto_region 4 with fail
 go_loopw [5] (fun i wr => ∃ k : Nat,i = .int .i64 k ∧ k ≤ x.rules.length ∧ Below WA.heap.size WA wr) (fun i _ => x.rules.length - (intOf i).toNat)
 case atStart => exact ⟨0,rfl,by omega,Below.refl _ _⟩
 case round =>
  obtain ⟨k,rfl,hk,hbel⟩ := hrel
  have HB := hid hbel
  have c22 : wr.cell? ⟨w.heap.size,22,none⟩ = some (.slice h.ro x.rules.length h.rc) := (HX.out.keep hbel).cell 22
  have d22 : wr.cell? ⟨w.heap.size + 1,22,none⟩ = some (.slice g.ro x.rules.length g.rc) := (HY.out.keep hbel).cell 22
  clear hbel
  by_cases hlt : k < x.rules.length
  ·obtain ⟨b,off,hd,hlo,hb,hrg,hin⟩ := HI1.out.rules.place k hlt
   obtain ⟨b',off',hd',hlo',hb',hrg',hin'⟩ := HI2.out.rules.place k hlt
   obtain ⟨r,hr⟩ : ∃ r,r = x.rules[k] := ⟨_,rfl⟩
   rw [← hr] at hrg hrg' hin hin'
   have HP := hid (fun (W : World) (hW : Below WA.heap.size WA W) (j : Nat) (v : Value) (hv : (r.vals hd)[j]? = some v) => (range_below hrg hW hb j v hv : W.cell? ⟨b,off + k * 7 + j,none⟩ = some v))
   have HP' := hid (fun (W : World) (hW : Below WA.heap.size WA W) (j : Nat) (v : Value) (hv : (r.vals hd')[j]? = some v) => (range_below hrg' hW hb' j v hv : W.cell? ⟨b',off' + k * 7 + j,none⟩ = some v))
   have HSM := hid (fun (W : World) (hW : Below WA.heap.size WA W) => (same_iff.2 rfl : same r.body r.body = true) ▸ RefSame_any r.body r.body hd hd' W (carry hin hW) (carry hin' hW))
   have HSX := hid (fun (W : World) (hW : Below WA.heap.size WA W) => (⟨(HX.out.keep hW).cell 22,(HY.out.keep hW).cell 22⟩ : W.cell? ⟨w.heap.size,22,none⟩ = some (.slice h.ro x.rules.length h.rc) ∧ W.cell? ⟨w.heap.size + 1,22,none⟩ = some (.slice g.ro x.rules.length g.rc)))
   have hwk : wrap64 ((k : Int) + 1) = (k : Int) + 1 := IntWalk.wrap64_in _ (by have := HR.out; omega)
   have hwk2 : IntKind.i64.wrap ((k : Int) + 1) = (k : Int) + 1 := IntWalk.i64_in _ (by have := HR.out; omega)
   rw [hlo] at c22 HSX
   rw [hlo'] at d22 HSX
   have HLT := hid hlt
   clear hrg hrg' hin hin' hr hlo hlo' hb hb'
   unfold Tm.val Tm.vals at HSM
   go_upto_region 6 with fail
   refine wp_region_held_drew (S := fun w' => w'.cell? ⟨w.heap.size,22,none⟩ = some (.slice (some ⟨b,off,none⟩) x.rules.length h.rc) ∧ w'.cell? ⟨w.heap.size + 1,22,none⟩ = some (.slice (some ⟨b',off',none⟩) x.rules.length g.rc) ∧ w'.cell? ⟨b,off + k * 7,none⟩ = some (.string r.ctor) ∧ w'.cell? ⟨b,off + k * 7 + 1,none⟩ = some (.int .i64 r.fields) ∧ w'.cell? ⟨b,off + k * 7 + 2,none⟩ = some (.int .u8 r.body.k) ∧ w'.cell? ⟨b,off + k * 7 + 3,none⟩ = some (.int .i64 r.body.n) ∧ w'.cell? ⟨b,off + k * 7 + 4,none⟩ = some (.string r.body.s) ∧ w'.cell? ⟨b,off + k * 7 + 5,none⟩ = some (.slice hd.lo r.body.ls.length hd.lc) ∧ w'.cell? ⟨b,off + k * 7 + 6,none⟩ = some (.slice hd.to r.body.ts.length hd.tc) ∧ w'.cell? ⟨b',off' + k * 7,none⟩ = some (.string r.ctor) ∧ w'.cell? ⟨b',off' + k * 7 + 1,none⟩ = some (.int .i64 r.fields) ∧ w'.cell? ⟨b',off' + k * 7 + 2,none⟩ = some (.int .u8 r.body.k) ∧ w'.cell? ⟨b',off' + k * 7 + 3,none⟩ = some (.int .i64 r.body.n) ∧ w'.cell? ⟨b',off' + k * 7 + 4,none⟩ = some (.string r.body.s) ∧ w'.cell? ⟨b',off' + k * 7 + 5,none⟩ = some (.slice hd'.lo r.body.ls.length hd'.lc) ∧ w'.cell? ⟨b',off' + k * 7 + 6,none⟩ = some (.slice hd'.to r.body.ts.length hd'.tc)) (by kernel_rfl) (⟨(HSX.out wr.drew HB.out.drew).1,(HSX.out wr.drew HB.out.drew).2,HP.out wr.drew HB.out.drew 0 _ rfl,HP.out wr.drew HB.out.drew 1 _ rfl,HP.out wr.drew HB.out.drew 2 _ rfl,HP.out wr.drew HB.out.drew 3 _ rfl,HP.out wr.drew HB.out.drew 4 _ rfl,HP.out wr.drew HB.out.drew 5 _ rfl,HP.out wr.drew HB.out.drew 6 _ rfl,HP'.out wr.drew HB.out.drew 0 _ rfl,HP'.out wr.drew HB.out.drew 1 _ rfl,HP'.out wr.drew HB.out.drew 2 _ rfl,HP'.out wr.drew HB.out.drew 3 _ rfl,HP'.out wr.drew HB.out.drew 4 _ rfl,HP'.out wr.drew HB.out.drew 5 _ rfl,HP'.out wr.drew HB.out.drew 6 _ rfl⟩) (fun hHeld => ?_)
   refine wpAnyH_take (i := 0) (v := ?vsm0) rfl (by kernel_rfl) (by kernel_rfl) (by kernel_rfl) (fun _ _ _ h => h) (Or.inl ⟨by rfl,?hysm0⟩) (by assumption) ?restsm0
   case hysm0 => (intro w hSw; (try dsimp only at hSw); go_simp <;> with_reducible rfl)
   try simp only [zqT,zqZ,Act.put,zqB,zq0,zq1]
   refine wpAnyH_take (i := 1) (v := ?vsm1) rfl (by kernel_rfl) (by kernel_rfl) (by kernel_rfl) (fun _ _ _ h => h) (Or.inl ⟨by rfl,?hysm1⟩) (by assumption) ?restsm1
   case hysm1 => (intro w hSw; (try dsimp only at hSw); go_simp <;> with_reducible rfl)
   try simp only [zqT,zqS,zqZ,Act.put,zqB,zq0,zq1]
   refine wpAnyH_take (i := 2) (v := ?vsm2) rfl (by kernel_rfl) (by kernel_rfl) (by kernel_rfl) (fun _ _ _ h => h) (Or.inl ⟨by rfl,?hysm2⟩) (by assumption) ?restsm2
   case hysm2 => (intro w hSw; (try dsimp only at hSw); go_simp <;> with_reducible rfl)
   try simp only [zqT,zqS,zqZ,Act.put,zqB,zq0,zq1]
   refine wpAnyH_take (i := 3) (v := ?vsm3) rfl (by kernel_rfl) (by kernel_rfl) (by kernel_rfl) (fun _ _ _ h => h) (Or.inl ⟨by rfl,?hysm3⟩) (by assumption) ?restsm3
   case hysm3 => (intro w hSw; (try dsimp only at hSw); go_simp <;> with_reducible rfl)
   try simp only [zqT,zqS,zqZ,Act.put,zqB,zq0,zq1]
   refine wpAnyH_take (i := 4) (v := ?vsm4) rfl (by kernel_rfl) (by kernel_rfl) (by kernel_rfl) (fun _ _ _ h => h) (Or.inl ⟨by rfl,?hysm4⟩) (by assumption) ?restsm4
   case hysm4 => (intro w hSw; (try dsimp only at hSw); go_simp <;> with_reducible rfl)
   try simp only [zqT,zqS,zqZ,Act.put,zqB,zq0,zq1]
   refine wpAnyH_take (i := 5) (v := ?vsm5) rfl (by kernel_rfl) (by kernel_rfl) (by kernel_rfl) (fun _ _ _ h => h) (Or.inl ⟨by rfl,?hysm5⟩) (by assumption) ?restsm5
   case hysm5 => (intro w hSw; (try dsimp only at hSw); go_simp <;> with_reducible rfl)
   try simp only [zqT,zqS,zqZ,Act.put,zqB,zq0,zq1]
   refine wpAnyH_take (i := 6) (v := ?vsm6) rfl (by kernel_rfl) (by kernel_rfl) (by kernel_rfl) (fun _ _ _ h => h) (Or.inl ⟨by rfl,?hysm6⟩) (by assumption) ?restsm6
   case hysm6 => (intro w hSw; (try dsimp only at hSw); go_simp <;> with_reducible rfl)
   try simp only [zqT,zqS,zqZ,Act.put,zqB,zq0,zq1]
   refine wpAnyH_take (i := 7) (v := ?vsm7) rfl (by kernel_rfl) (by kernel_rfl) (by kernel_rfl) (fun _ _ _ h => h) (Or.inl ⟨by rfl,?hysm7⟩) (by assumption) ?restsm7
   case hysm7 => (intro w hSw; (try dsimp only at hSw); go_simp <;> with_reducible rfl)
   try simp only [zqT,zqS,zqZ,Act.put,zqB,zq0,zq1]
   refine wpAnyH_take (i := 8) (v := ?vsm8) rfl (by kernel_rfl) (by kernel_rfl) (by kernel_rfl) (fun _ _ _ h => h) (Or.inl ⟨by rfl,?hysm8⟩) (by assumption) ?restsm8
   case hysm8 => (intro w hSw; (try dsimp only at hSw); go_simp <;> with_reducible rfl)
   try simp only [zqT,zqS,zqZ,Act.put,zqB,zq0,zq1]
   refine wpAnyH_take (i := 9) (v := ?vsm9) rfl (by kernel_rfl) (by kernel_rfl) (by kernel_rfl) (fun _ _ _ h => h) (Or.inl ⟨by rfl,?hysm9⟩) (by assumption) ?restsm9
   case hysm9 => (intro w hSw; (try dsimp only at hSw); go_simp <;> with_reducible rfl)
   try simp only [zqT,zqS,zqZ,Act.put,zqB,zq0,zq1]
   refine wpAnyH_take (i := 10) (v := ?vsm10) rfl (by kernel_rfl) (by kernel_rfl) (by kernel_rfl) (fun _ _ _ h => h) (Or.inl ⟨by rfl,?hysm10⟩) (by assumption) ?restsm10
   case hysm10 => (intro w hSw; (try dsimp only at hSw); go_simp <;> with_reducible rfl)
   try simp only [zqT,zqS,zqZ,Act.put,zqB,zq0,zq1]
   refine wpAnyH_take (i := 11) (v := ?vsm11) rfl (by kernel_rfl) (by kernel_rfl) (by kernel_rfl) (fun _ _ _ h => h) (Or.inl ⟨by rfl,?hysm11⟩) (by assumption) ?restsm11
   case hysm11 => (intro w hSw; (try dsimp only at hSw); go_simp <;> with_reducible rfl)
   try simp only [zqT,zqS,zqZ,Act.put,zqB,zq0,zq1]
   refine wpAnyH_take (i := 12) (v := ?vsm12) rfl (by kernel_rfl) (by kernel_rfl) (by kernel_rfl) (fun _ _ _ h => h) (Or.inl ⟨by rfl,?hysm12⟩) (by assumption) ?restsm12
   case hysm12 => (intro w hSw; (try dsimp only at hSw); go_simp <;> with_reducible rfl)
   try simp only [zqT,zqS,zqZ,Act.put,zqB,zq0,zq1]
   refine wpAnyH_take (i := 13) (v := ?vsm13) rfl (by kernel_rfl) (by kernel_rfl) (by kernel_rfl) (fun _ _ _ h => h) (Or.inl ⟨by rfl,?hysm13⟩) (by assumption) ?restsm13
   case hysm13 => (intro w hSw; (try dsimp only at hSw); go_simp <;> with_reducible rfl)
   try simp only [zqT,zqS,zqZ,Act.put,zqB,zq0,zq1]
   refine wpAnyH_take (i := 14) (v := ?vsm14) rfl (by kernel_rfl) (by kernel_rfl) (by kernel_rfl) (fun _ _ _ h => h) (Or.inl ⟨by rfl,?hysm14⟩) (by assumption) ?restsm14
   case hysm14 => (intro w hSw; (try dsimp only at hSw); go_simp <;> with_reducible rfl)
   try simp only [zqT,zqS,zqZ,Act.put,zqB,zq0,zq1]
   refine wpAnyH_take (i := 15) (v := ?vsm15) rfl (by kernel_rfl) (by kernel_rfl) (by kernel_rfl) (fun _ _ _ h => h) (Or.inl ⟨by rfl,?hysm15⟩) (by assumption) ?restsm15
   case hysm15 => (intro w hSw; (try dsimp only at hSw); go_simp <;> with_reducible rfl)
   try simp only [zqT,zqS,zqZ,Act.put,zqB,zq0,zq1]
   refine wpAnyH_take (i := 16) (v := ?vsm16) rfl (by kernel_rfl) (by kernel_rfl) (by kernel_rfl) (fun _ _ _ h => h) (Or.inl ⟨by rfl,?hysm16⟩) (by assumption) ?restsm16
   case hysm16 => (intro w hSw; (try dsimp only at hSw); go_simp <;> with_reducible rfl)
   try simp only [zqT,zqS,zqZ,Act.put,zqB,zq0,zq1]
   refine wpAnyH_take (i := 17) (v := ?vsm17) rfl (by kernel_rfl) (by kernel_rfl) (by kernel_rfl) (fun _ _ _ h => h) (Or.inl ⟨by rfl,?hysm17⟩) (by assumption) ?restsm17
   case hysm17 => (intro w hSw; (try dsimp only at hSw); go_simp <;> with_reducible rfl)
   try simp only [zqT,zqS,zqZ,Act.put,zqB,zq0,zq1]
   refine wpAnyH_take (i := 18) (v := ?vsm18) rfl (by kernel_rfl) (by kernel_rfl) (by kernel_rfl) (fun _ _ _ h => h) (Or.inl ⟨by rfl,?hysm18⟩) (by assumption) ?restsm18
   case hysm18 => (intro w hSw; (try dsimp only at hSw); go_simp <;> with_reducible rfl)
   try simp only [zqT,zqS,zqZ,Act.put,zqB,zq0,zq1]
   refine wpAnyH_take (i := 19) (v := ?vsm19) rfl (by kernel_rfl) (by kernel_rfl) (by kernel_rfl) (fun _ _ _ h => h) (Or.inl ⟨by rfl,?hysm19⟩) (by assumption) ?restsm19
   case hysm19 => (intro w hSw; (try dsimp only at hSw); go_simp <;> with_reducible rfl)
   try simp only [zqT,zqS,zqZ,Act.put,zqB,zq0,zq1]
   refine wpAnyH_take (i := 20) (v := ?vsm20) rfl (by kernel_rfl) (by kernel_rfl) (by kernel_rfl) (fun _ _ _ h => h) (Or.inl ⟨by rfl,?hysm20⟩) (by assumption) ?restsm20
   case hysm20 => (intro w hSw; (try dsimp only at hSw); go_simp <;> with_reducible rfl)
   try simp only [zqT,zqS,zqZ,Act.put,zqB,zq0,zq1]
   refine wpAnyH_take (i := 21) (v := ?vsm21) rfl (by kernel_rfl) (by kernel_rfl) (by kernel_rfl) (fun _ _ _ h => h) (Or.inl ⟨by rfl,?hysm21⟩) (by assumption) ?restsm21
   case hysm21 => (intro w hSw; (try dsimp only at hSw); go_simp <;> with_reducible rfl)
   try simp only [zqT,zqS,zqZ,Act.put,zqB,zq0,zq1]
   refine wpAnyH_take (i := 22) (v := ?vsm22) rfl (by kernel_rfl) (by kernel_rfl) (by kernel_rfl) (fun _ _ _ h => h) (Or.inl ⟨by rfl,?hysm22⟩) (by assumption) ?restsm22
   case hysm22 => (intro w hSw; (try dsimp only at hSw); go_simp <;> with_reducible rfl)
   try simp only [zqT,zqS,zqZ,Act.put,zqB,zq0,zq1]
   refine wpAnyH_take (i := 23) (v := ?vsm23) rfl (by kernel_rfl) (by kernel_rfl) (by kernel_rfl) (fun _ _ _ h => h) (Or.inl ⟨by rfl,?hysm23⟩) (by assumption) ?restsm23
   case hysm23 => (intro w hSw; (try dsimp only at hSw); go_simp <;> with_reducible rfl)
   try simp only [zqT,zqS,zqZ,Act.put,zqB,zq0,zq1]
   refine wpAnyH_take (i := 24) (v := ?vsm24) rfl (by kernel_rfl) (by kernel_rfl) (by kernel_rfl) (fun _ _ _ h => h) (Or.inl ⟨by rfl,?hysm24⟩) (by assumption) ?restsm24
   case hysm24 => (intro w hSw; (try dsimp only at hSw); go_simp <;> with_reducible rfl)
   try simp only [zqT,zqS,zqZ,Act.put,zqB,zq0,zq1]
   refine wpAnyH_take (i := 25) (v := ?vsm25) rfl (by kernel_rfl) (by kernel_rfl) (by kernel_rfl) (fun _ _ _ h => h) (Or.inl ⟨by rfl,?hysm25⟩) (by assumption) ?restsm25
   case hysm25 => (intro w hSw; (try dsimp only at hSw); go_simp <;> with_reducible rfl)
   try simp only [zqT,zqS,zqZ,Act.put,zqB,zq0,zq1]
   refine wpAnyH_take (i := 26) (v := ?vsm26) rfl (by kernel_rfl) (by kernel_rfl) (by kernel_rfl) (fun _ _ _ h => h) (Or.inl ⟨by rfl,?hysm26⟩) (by assumption) ?restsm26
   case hysm26 => (intro w hSw; (try dsimp only at hSw); go_simp <;> with_reducible rfl)
   try simp only [zqT,zqS,zqZ,Act.put,zqB,zq0,zq1]
   refine wpAnyH_take (i := 27) (v := ?vsm27) rfl (by kernel_rfl) (by kernel_rfl) (by kernel_rfl) (fun _ _ _ h => h) (Or.inl ⟨by rfl,?hysm27⟩) (by assumption) ?restsm27
   case hysm27 => (intro w hSw; (try dsimp only at hSw); go_simp <;> with_reducible rfl)
   try simp only [zqT,zqS,zqZ,Act.put,zqB,zq0,zq1]
   refine wpAnyH_take (i := 28) (v := ?vsm28) rfl (by kernel_rfl) (by kernel_rfl) (by kernel_rfl) (fun _ _ _ h => h) (Or.inl ⟨by rfl,?hysm28⟩) (by assumption) ?restsm28
   case hysm28 => (intro w hSw; (try dsimp only at hSw); go_simp <;> with_reducible rfl)
   try simp only [zqT,zqS,zqZ,Act.put,zqB,zq0,zq1]
   refine wpAnyH_take (i := 29) (v := ?vsm29) rfl (by kernel_rfl) (by kernel_rfl) (by kernel_rfl) (fun _ _ _ h => h) (Or.inl ⟨by rfl,?hysm29⟩) (by assumption) ?restsm29
   case hysm29 => (intro w hSw; (try dsimp only at hSw); go_simp <;> with_reducible rfl)
   try simp only [zqT,zqS,zqZ,Act.put,zqB,zq0,zq1]
   refine wpAnyH_take (i := 30) (v := ?vsm30) rfl (by kernel_rfl) (by kernel_rfl) (by kernel_rfl) (fun _ _ _ h => h) (Or.inl ⟨by rfl,?hysm30⟩) (by assumption) ?restsm30
   case hysm30 => (intro w hSw; (try dsimp only at hSw); go_simp <;> with_reducible rfl)
   try simp only [zqT,zqS,zqZ,Act.put,zqB,zq0,zq1]
   refine wpAnyH_take (i := 31) (v := ?vsm31) rfl (by kernel_rfl) (by kernel_rfl) (by kernel_rfl) (fun _ _ _ h => h) (Or.inl ⟨by rfl,?hysm31⟩) (by assumption) ?restsm31
   case hysm31 => (intro w hSw; (try dsimp only at hSw); go_simp <;> with_reducible rfl)
   try simp only [zqT,zqS,zqZ,Act.put,zqB,zq0,zq1]
   refine wpAnyH_take (i := 32) (v := ?vsm32) rfl (by kernel_rfl) (by kernel_rfl) (by kernel_rfl) (fun _ _ _ h => h) (Or.inl ⟨by rfl,?hysm32⟩) (by assumption) ?restsm32
   case hysm32 => (intro w hSw; (try dsimp only at hSw); go_simp <;> with_reducible rfl)
   try simp only [zqT,zqS,zqZ,Act.put,zqB,zq0,zq1]
   refine wpAnyH_take (i := 33) (v := ?vsm33) rfl (by kernel_rfl) (by kernel_rfl) (by kernel_rfl) (fun _ _ _ h => h) (Or.inl ⟨by rfl,?hysm33⟩) (by assumption) ?restsm33
   case hysm33 => (intro w hSw; (try dsimp only at hSw); go_simp <;> with_reducible rfl)
   try simp only [zqT,zqS,zqZ,Act.put,zqB,zq0,zq1]
   refine wpAnyH_take (i := 34) (v := ?vsm34) rfl (by kernel_rfl) (by kernel_rfl) (by kernel_rfl) (fun _ _ _ h => h) (Or.inl ⟨by rfl,?hysm34⟩) (by assumption) ?restsm34
   case hysm34 => (intro w hSw; (try dsimp only at hSw); go_simp <;> with_reducible rfl)
   try simp only [zqT,zqS,zqZ,Act.put,zqB,zq0,zq1]
   refine wpAnyH_take (i := 35) (v := ?vsm35) rfl (by kernel_rfl) (by kernel_rfl) (by kernel_rfl) (fun _ _ _ h => h) (Or.inl ⟨by rfl,?hysm35⟩) (by assumption) ?restsm35
   case hysm35 => (intro w hSw; (try dsimp only at hSw); go_simp <;> with_reducible rfl)
   try simp only [zqT,zqS,zqZ,Act.put,zqB,zq0,zq1]
   refine wpAnyH_take (i := 36) (v := ?vsm36) rfl (by kernel_rfl) (by kernel_rfl) (by kernel_rfl) (fun _ _ _ h => h) (Or.inl ⟨by rfl,?hysm36⟩) (by assumption) ?restsm36
   case hysm36 => (intro w hSw; (try dsimp only at hSw); go_simp <;> with_reducible rfl)
   try simp only [zqT,zqS,zqZ,Act.put,zqB,zq0,zq1]
   refine wpAnyH_take (i := 37) (v := ?vsm37) rfl (by kernel_rfl) (by kernel_rfl) (by kernel_rfl) (fun _ _ _ h => h) (Or.inl ⟨by rfl,?hysm37⟩) (by assumption) ?restsm37
   case hysm37 => (intro w hSw; (try dsimp only at hSw); go_simp <;> with_reducible rfl)
   try simp only [zqT,zqS,zqZ,Act.put,zqB,zq0,zq1]
   refine wpAnyH_take (i := 38) (v := ?vsm38) rfl (by kernel_rfl) (by kernel_rfl) (by kernel_rfl) (fun _ _ _ h => h) (Or.inl ⟨by rfl,?hysm38⟩) (by assumption) ?restsm38
   case hysm38 => (intro w hSw; (try dsimp only at hSw); go_simp <;> with_reducible rfl)
   try simp only [zqT,zqS,zqZ,Act.put,zqB,zq0,zq1]
   refine wpAnyH_take (i := 39) (v := ?vsm39) rfl (by kernel_rfl) (by kernel_rfl) (by kernel_rfl) (fun _ _ _ h => h) (Or.inl ⟨by rfl,?hysm39⟩) (by assumption) ?restsm39
   case hysm39 => (intro w hSw; (try dsimp only at hSw); go_simp <;> with_reducible rfl)
   try simp only [zqT,zqS,zqZ,Act.put,zqB,zq0,zq1]
   refine wpAnyH_take (i := 40) (v := ?vsm40) rfl (by kernel_rfl) (by kernel_rfl) (by kernel_rfl) (fun _ _ _ h => h) (Or.inl ⟨by rfl,?hysm40⟩) (by assumption) ?restsm40
   case hysm40 => (intro w hSw; (try dsimp only at hSw); go_simp <;> with_reducible rfl)
   try simp only [zqT,zqS,zqZ,Act.put,zqB,zq0,zq1]
   refine wpAnyH_ready (rs := [41]) (by kernel_rfl) (by simp) ?_
   refine AllReadyH.cons rfl (fun K hK => ?_) AllReadyH.nil
   go_simp
   refine (HSM.out _ HB.out.drew).mono ?_
   rintro y w2 ⟨rfl,b2⟩
   have HB2 := hid (Trm.go HB.out.drew b2)
   clear b2
   refine hK.out _ _ (⟨(HSX.out w2 HB2.out).1,(HSX.out w2 HB2.out).2,HP.out w2 HB2.out 0 _ rfl,HP.out w2 HB2.out 1 _ rfl,HP.out w2 HB2.out 2 _ rfl,HP.out w2 HB2.out 3 _ rfl,HP.out w2 HB2.out 4 _ rfl,HP.out w2 HB2.out 5 _ rfl,HP.out w2 HB2.out 6 _ rfl,HP'.out w2 HB2.out 0 _ rfl,HP'.out w2 HB2.out 1 _ rfl,HP'.out w2 HB2.out 2 _ rfl,HP'.out w2 HB2.out 3 _ rfl,HP'.out w2 HB2.out 4 _ rfl,HP'.out w2 HB2.out 5 _ rfl,HP'.out w2 HB2.out 6 _ rfl⟩) (fun hHeld => ?_)
   clear hK K
   try simp only [zqT,zqS,zqZ,Act.put,zqB,zq0,zq1]
   refine wpAnyH_take (i := 42) (v := ?vsm42) rfl (by kernel_rfl) (by kernel_rfl) (by kernel_rfl) (fun _ _ _ h => h) (Or.inl ⟨by rfl,?hysm42⟩) (by assumption) ?restsm42
   case hysm42 => (intro w hSw; (try dsimp only at hSw); go_simp <;> with_reducible rfl)
   try simp only [zqT,zqS,zqZ,Act.put,zqB,zq0,zq1]
   refine wpAnyH_take (i := 43) (v := ?vsm43) rfl (by kernel_rfl) (by kernel_rfl) (by kernel_rfl) (fun _ _ _ h => h) (Or.inl ⟨by rfl,?hysm43⟩) (by assumption) ?restsm43
   case hysm43 => (intro w hSw; (try dsimp only at hSw); go_simp <;> with_reducible rfl)
   try simp only [zqT,zqS,zqZ,Act.put,zqB,zq0,zq1]
   refine wpAnyH_done (by kernel_rfl) ?_ _
   go_wp2_with fail
   go_roundw
   case rel => exact ⟨k + 1,rfl,HLT.out,HB2.out⟩
   case measure => exact less_step rfl HLT.out
  ·have hke : k = x.rules.length := by omega
   subst hke
   go_upto_region 8 with fail
   obtain ⟨t0,t1,t2,t3,t4⟩ := (HX.out.keep HB.out).ty
   obtain ⟨u0,u1,u2,u3,u4⟩ := (HY.out.keep HB.out).ty
   have HS1 := hid ((same_iff.2 rfl : same x.ty x.ty = true) ▸ RefSame_any x.ty x.ty h.ty g.ty wr (carry HI1.out.ty HB.out) (carry HI2.out.ty HB.out))
   unfold Tm.val Tm.vals at HS1
   go_wp2_with fail
   refine HS1.out.mono ?_
   rintro y w2 ⟨rfl,b2⟩
   have HB2 := hid (Trm.go HB.out b2)
   clear b2 t0 t1 t2 t3 t4 u0 u1 u2 u3 u4
   obtain ⟨t0,t1,t2,t3,t4⟩ := (HX.out.keep HB2.out).va
   obtain ⟨u0,u1,u2,u3,u4⟩ := (HY.out.keep HB2.out).va
   have HS2 := hid ((same_iff.2 rfl : same x.va x.va = true) ▸ RefSame_any x.va x.va h.va g.va w2 (carry HI1.out.va HB2.out) (carry HI2.out.va HB2.out))
   unfold Tm.val Tm.vals at HS2
   go_wp2_with fail
   refine HS2.out.mono ?_
   rintro y w3 ⟨rfl,b3⟩
   have HB3 := hid (Trm.go HB2.out b3)
   clear b3
   go_wp2_with fail
   go_ret
   exact ⟨rfl,Trm.go HBA.out HB3.out⟩
end Go.Proofs.YtiekbhlnnmnklaaGreat
namespace Go.Proofs.YtiekbhlnnmnklaaGreat
open Go.RowKit Go.Shelf Lvl Trm
namespace Trm
theorem zero_cell {w : World} {X o : Nat} {v : Value} (hX : w.heap[X]? = some (.cells #[.int .u8 0,.int .i64 0,.string no,.slice none 0 0,.slice none 0 0] 27)) (h : w.cell? ⟨X,o,none⟩ = some v) :
 (o = 0 ∧ v = .int .u8 0) ∨ (o = 1 ∧ v = .int .i64 0) ∨ (o = 2 ∧ v = .string no) ∨ v = .slice none 0 0 := by
 simp only [World.cell?,hX] at h
 match o,h with
 | 0,h => left; simp at h; exact ⟨rfl,h.symm⟩
 | 1,h => right; left; simp at h; exact ⟨rfl,h.symm⟩
 | 2,h => right; right; left; simp at h; exact ⟨rfl,h.symm⟩
 | 3,h => right; right; right; simp at h; exact h.symm
 | 4,h => right; right; right; simp at h; exact h.symm
 | o + 5,h => simp at h
theorem zero_firm {B X : Nat} {w : World} (hX : w.heap[X]? = some (.cells #[.int .u8 0,.int .i64 0,.string no,.slice none 0 0,.slice none 0 0] 27)) (hB : B ≤ w.heap.size) {w' : World} (hr : Ran X w w') (t : Tm) : ∀ (h : Hd) (d : Int),OkMay t d → t.In B w h → t.In B w' h := by
 induction t using Tm.ind with
 | h t ih =>
   intro h d ho hi
   obtain ⟨h1,h2,h3,h4⟩ := Tm.In_iff.1 hi
   refine Tm.In_iff.2 ⟨h1,⟨fun k hk => ?_⟩,h3,RowIn.mk fun k hk => ?_⟩
   ·obtain ⟨b,off,hao,ha⟩ := h2.place k hk
    have hb : b < w.heap.size := Nat.lt_of_lt_of_le (h3 (by omega) _ hao) hB
    have hbX : b ≠ X := by
     rintro rfl
     have e0 := zero_cell hX ha.1
     have e1 := zero_cell hX ha.2.1
     rcases e0 with ⟨ho0,e⟩ | ⟨ho1,e⟩ | ⟨_,e⟩ | e
     ·cases e
     ·rcases e1 with ⟨hq,e'⟩ | ⟨hq,e'⟩ | ⟨_,e'⟩ | e'
      ·cases e'
      ·omega
      ·cases e'
      ·cases e'
     ·cases e
     ·cases e
    exact ⟨b,off,hao,(hr.cell (p := ⟨b,_,none⟩) hb hbX).trans ha.1,(hr.cell (p := ⟨b,_,none⟩) hb hbX).trans ha.2.1,(hr.cell (p := ⟨b,_,none⟩) hb hbX).trans ha.2.2.1,(hr.cell (p := ⟨b,_,none⟩) hb hbX).trans ha.2.2.2.1,(hr.cell (p := ⟨b,_,none⟩) hb hbX).trans ha.2.2.2.2⟩
   ·obtain ⟨b,off,hao,hb,h',hc,hin⟩ := h4.place k hk
    have hok := ho.down _ (List.getElem_mem hk)
    have hk1 := (node_few hok.node.1).2.2.1
    have hbX : b ≠ X := by
     rintro rfl
     rcases zero_cell hX hc.c0 with ⟨_,e⟩ | ⟨_,e⟩ | ⟨_,e⟩ | e
     ·injection e with _ e2
      omega
     ·cases e
     ·cases e
     ·cases e
    exact ⟨b,off,hao,hb,h',hc.ran hr (by omega) hbX,ih _ (List.getElem_mem hk) h' (d + 1) hok hin⟩
end Trm
end Go.Proofs.YtiekbhlnnmnklaaGreat
