/-
 What a parameter of layer 3's laws is: a term.
-/
import Derived.Lib.Hide
import Derived.Test.YtiekbhlnnmnklaaGreatQB2
import Derived.OpenShut
import Derived.ChangeArms
import Derived.DataReads
import Derived.Test.YtiekbhlnnmnklaaGreatQB7
import Derived.Test.YtiekbhlnnmnklaaGreatQB3
import Derived.Test.YtiekbhlnnmnklaaGreatQB9
open Go.Lib (hid)
set_option maxRecDepth 100000
set_option maxHeartbeats 32000000
namespace Go.Proofs.YtiekbhlnnmnklaaGreat
open Go.RowKit Go.Shelf Lvl Trm
section
variable {H : Type} {enc : TypeId × Value → H} {w : World} {base : Nat} {sp : Nat → Bool} {hd : Bool}
theorem Trm.open_level {fuel : Nat} {cs : List Value} {x : DataW H × List MemPlace} (h : DataW.trod enc Tryz.prog w base sp hd fuel 61 cs = some x) :
 ∃ l : Lv,cs = [.int .i64 l.c,.int .i64 l.p0,.int .i64 l.p1,.int .i64 l.p2,.int .i64 l.p3] := by
 have hC : Tryz.prog.cellsOf 61 = 5 := by kernel_rfl
 have hI : Tryz.prog.cellsOf 3 = 1 := by kernel_rfl
 have hA : Tryz.prog.cellsOf 59 = 4 := by kernel_rfl
 obtain ⟨xs,n,_,_,hl,hxs,hf⟩ := DataW.trod_struct Tryz.underlying61 h
 rw [hC] at hl
 match cs,hl with
 | [v0,v1,v2,v3,v4],_ =>
   have g0 : DataW.trod enc Tryz.prog w base sp hd n 3 (([v0,v1,v2,v3,v4].drop 0).take (Tryz.prog.cellsOf 3)) = xs[0]? := hf 0 _ rfl
   have g1 : DataW.trod enc Tryz.prog w base sp hd n 59 (([v0,v1,v2,v3,v4].drop 1).take (Tryz.prog.cellsOf 59)) = xs[1]? := hf 1 _ rfl
   rw [hI] at g0
   rw [hA] at g1
   rw [List.getElem?_eq_getElem (by rw [hxs]; decide)] at g0 g1
   obtain ⟨z,hz,_,_⟩ := DataW.trod_int Tryz.underlying3 g0
   obtain ⟨ys,m,_,_,_,hys,ha⟩ := DataW.trod_array Tryz.underlying59 g1
   have a0 := ha 0 (by omega)
   have a1 := ha 1 (by omega)
   have a2 := ha 2 (by omega)
   have a3 := ha 3 (by omega)
   rw [hI] at a0 a1 a2 a3
   rw [List.getElem?_eq_getElem (by omega)] at a0 a1 a2 a3
   obtain ⟨z0,h0,_,_⟩ := DataW.trod_int Tryz.underlying3 a0
   obtain ⟨z1,h1,_,_⟩ := DataW.trod_int Tryz.underlying3 a1
   obtain ⟨z2,h2,_,_⟩ := DataW.trod_int Tryz.underlying3 a2
   obtain ⟨z3,h3,_,_⟩ := DataW.trod_int Tryz.underlying3 a3
   simp at hz h0 h1 h2 h3
   subst hz h0 h1 h2 h3
   exact ⟨⟨z,z0,z1,z2,z3⟩,rfl⟩
theorem Trm.add_none (b o i : Nat) : (⟨b,o,none⟩ : Addr).add i = ⟨b,o + i,none⟩ := by
 unfold Addr.add
 split
 ·rename_i h; rw [h]; rfl
 ·rfl
theorem Trm.add_zero (a : Addr) : a.add 0 = a := by simp [Addr.add]
theorem Trm.open_levels {fuel : Nat} {cs : List Value} {x : DataW H × List MemPlace} (h : DataW.trod enc Tryz.prog w base sp hd fuel 24 cs = some x) :
 ∃ (lo : Option Addr) (lc : Nat) (ls : List Lv),cs = [.slice lo ls.length lc] ∧ LRow w lo ls ∧ Low w.heap.size lo ls.length ∧ ls.length ≤ 9223372036854775807 := by
 have hC : Tryz.prog.cellsOf 61 = 5 := by kernel_rfl
 rcases DataW.trod_slice Tryz.underlying24 h with ⟨rfl,_⟩ | ⟨a,len,cap,elems,rest,n,_,rfl,_,_,hlc,hcm,hel,hall,_⟩
 ·exact ⟨none,0,[],rfl,⟨fun k hk => by simp at hk⟩,fun hn => by simp at hn,by simp⟩
 ·rw [hC] at hall
  have hnone : 0 < len → a.spot = none := fun h0 => by
   have hi' := hall 0 h0
   rw [List.getElem?_eq_getElem (by omega)] at hi'
   obtain ⟨cs,hcs,ht⟩ := Option.bind_eq_some_iff.1 hi'
   obtain ⟨_,_,hcell⟩ := World.cells?_some hcs
   obtain ⟨l,rfl⟩ := open_level ht
   have h0 := hcell 0 (by omega)
   rw [Nat.zero_mul,add_zero,add_zero] at h0
   exact World.cell?_spot (show w.cell? a = some (.int .i64 l.c) from h0)
  have key : ∀ i,i < len → ∃ l : Lv,∃ b off,a = ⟨b,off,none⟩ ∧ LAt w b (off + i * 5) l := fun i hi => by
   have hi' := hall i hi
   rw [List.getElem?_eq_getElem (by omega)] at hi'
   obtain ⟨cs,hcs,ht⟩ := Option.bind_eq_some_iff.1 hi'
   obtain ⟨_,_,hcell⟩ := World.cells?_some hcs
   obtain ⟨l,rfl⟩ := open_level ht
   have hs := hnone (by omega)
   obtain ⟨b,off,spot⟩ := a
   dsimp only at hs
   subst hs
   simp only [add_none] at hcell
   exact ⟨l,b,off,rfl,hcell 0 (by omega),hcell 1 (by omega),hcell 2 (by omega),hcell 3 (by omega),hcell 4 (by omega)⟩
  have key2 : ∃ ls : List Lv,ls.length = len ∧ ∀ k (hk : k < ls.length),∃ b off,a = ⟨b,off,none⟩ ∧ LAt w b (off + k * 5) ls[k] := by
   refine ⟨(List.range len).pmap (fun i hi => Classical.choose (key i hi)) (fun i hi => by simpa using hi),by simp,fun k hk => ?_⟩
   have hk' : k < len := by simpa using hk
   obtain ⟨b,off,ha,hl⟩ := Classical.choose_spec (key k hk')
   exact ⟨b,off,ha,by simpa using hl⟩
  obtain ⟨ls,rfl,hls⟩ := key2
  refine ⟨some a,cap,ls,rfl,⟨fun k hk => ?_⟩,fun hn a' ha' => ?_,?_⟩
  ·obtain ⟨b,off,rfl,hl⟩ := hls k hk
   exact ⟨b,off,rfl,hl⟩
  ·obtain ⟨b,off,rfl,hl⟩ := hls 0 hn
   cases ha'
   exact World.block_lt_of_cell? w _ hl.1
  ·have : maxLen = 9223372036854775807 := rfl
   omega
theorem Trm.open_term : ∀ (fuel : Nat) (cs : List Value) (x : DataW H × List MemPlace),DataW.trod enc Tryz.prog w base sp hd fuel 27 cs = some x →
 ∃ (t : Tm) (h : Hd),cs = (t.vals h).toList ∧ t.In w.heap.size w h := by
 have hC : Tryz.prog.cellsOf 27 = 5 := by kernel_rfl
 have hI : Tryz.prog.cellsOf 3 = 1 := by kernel_rfl
 have hU : Tryz.prog.cellsOf 5 = 1 := by kernel_rfl
 have hS : Tryz.prog.cellsOf 9 = 1 := by kernel_rfl
 have hL : Tryz.prog.cellsOf 24 = 1 := by kernel_rfl
 have hT : Tryz.prog.cellsOf 25 = 1 := by kernel_rfl
 intro fuel
 induction fuel using Nat.strongRecOn with
 | _ fuel ih =>
   intro cs x h
   obtain ⟨xs,n,hfu,_,hl,hxs,hf⟩ := DataW.trod_struct Tryz.underlying27 h
   rw [hC] at hl
   match cs,hl with
   | [v0,v1,v2,v3,v4],_ =>
     have g0 : DataW.trod enc Tryz.prog w base sp hd n 5 (([v0,v1,v2,v3,v4].drop 0).take (Tryz.prog.cellsOf 5)) = xs[0]? := hf 0 _ rfl
     rw [hU] at g0
     have g1 : DataW.trod enc Tryz.prog w base sp hd n 3 (([v0,v1,v2,v3,v4].drop 1).take (Tryz.prog.cellsOf 3)) = xs[1]? := hf 1 _ rfl
     rw [hI] at g1
     have g2 : DataW.trod enc Tryz.prog w base sp hd n 9 (([v0,v1,v2,v3,v4].drop 2).take (Tryz.prog.cellsOf 9)) = xs[2]? := hf 2 _ rfl
     rw [hS] at g2
     have g3 : DataW.trod enc Tryz.prog w base sp hd n 24 (([v0,v1,v2,v3,v4].drop 3).take (Tryz.prog.cellsOf 24)) = xs[3]? := hf 3 _ rfl
     rw [hL] at g3
     have g4 : DataW.trod enc Tryz.prog w base sp hd n 25 (([v0,v1,v2,v3,v4].drop 4).take (Tryz.prog.cellsOf 25)) = xs[4]? := hf 4 _ rfl
     rw [hT] at g4
     have hx5 : xs.length = 5 := hxs
     rw [List.getElem?_eq_getElem (by omega)] at g0 g1 g2 g3 g4
     obtain ⟨k,hk,_,wk⟩ := DataW.trod_int Tryz.underlying5 g0
     obtain ⟨m,hm,_,wm⟩ := DataW.trod_int Tryz.underlying3 g1
     obtain ⟨s,hs,_,hss⟩ := DataW.trod_string Tryz.underlying9 g2
     obtain ⟨lo,lc,ls,hls,hrow,hlow,hlen⟩ := open_levels g3
     have hts : ∃ (to : Option Addr) (tc : Nat) (ts : List Tm),[v4] = [.slice to ts.length tc] ∧ RowIn w.heap.size w to 0 ts ∧ ts.length ≤ 9223372036854775807 := by
      rcases DataW.trod_slice Tryz.underlying25 g4 with ⟨he,_⟩ | ⟨a,len,cap,elems,rest,n',hn',he,_,_,hlc,hcm,hel,hall,_⟩
      ·exact ⟨none,0,[],he,by rw [RowIn]; trivial,by simp⟩
      ·rw [hC] at hall
       have hnone : 0 < len → a.spot = none := fun h0 => by
        have hi' := hall 0 h0
        rw [List.getElem?_eq_getElem (by omega)] at hi'
        obtain ⟨cs,hcs,ht⟩ := Option.bind_eq_some_iff.1 hi'
        obtain ⟨_,_,hcell⟩ := World.cells?_some hcs
        obtain ⟨t,h',rfl,hin⟩ := ih n' (by omega) cs _ ht
        have h0 := hcell 0 (by omega)
        rw [Nat.zero_mul,add_zero,add_zero] at h0
        exact World.cell?_spot (show w.cell? a = some (.int .u8 t.k) from h0)
       have key : ∀ i,i < len → ∃ t : Tm,∃ b off,a = ⟨b,off,none⟩ ∧ TAt w.heap.size w b (off + i * 5) t := fun i hi => by
        have hi' := hall i hi
        rw [List.getElem?_eq_getElem (by omega)] at hi'
        obtain ⟨cs,hcs,ht⟩ := Option.bind_eq_some_iff.1 hi'
        obtain ⟨_,_,hcell⟩ := World.cells?_some hcs
        obtain ⟨t,h',rfl,hin⟩ := ih n' (by omega) cs _ ht
        have hs := hnone (by omega)
        obtain ⟨b,off,spot⟩ := a
        dsimp only at hs
        subst hs
        simp only [add_none] at hcell
        have h0 : w.cell? ⟨b,off + i * 5,none⟩ = some (.int .u8 t.k) := hcell 0 (by omega)
        exact ⟨t,b,off,rfl,World.block_lt_of_cell? w _ h0,h',⟨h0,hcell 1 (by omega),hcell 2 (by omega),hcell 3 (by omega),hcell 4 (by omega)⟩,hin⟩
       have key2 : ∃ ts : List Tm,ts.length = len ∧ ∀ k (hk : k < ts.length),∃ b off,a = ⟨b,off,none⟩ ∧ TAt w.heap.size w b (off + k * 5) ts[k] := by
        refine ⟨(List.range len).pmap (fun i hi => Classical.choose (key i hi)) (fun i hi => by simpa using hi),by simp,fun k hk => ?_⟩
        have hk' : k < len := by simpa using hk
        obtain ⟨b,off,ha,hl⟩ := Classical.choose_spec (key k hk')
        exact ⟨b,off,ha,by simpa using hl⟩
       obtain ⟨ts,rfl,hts⟩ := key2
       refine ⟨some a,cap,ts,he,RowIn.mk fun k hk => ?_,?_⟩
       ·obtain ⟨b,off,rfl,hl⟩ := hts k hk
        exact ⟨b,off,rfl,by simpa using hl⟩
       ·have : maxLen = 9223372036854775807 := rfl
        omega
     obtain ⟨to,tc,ts,ht4,hrin,htl⟩ := hts
     simp at hk hm hs hls ht4
     subst hk hm hs hls ht4
     refine ⟨.mk k m s ls ts,⟨lo,lc,to,tc⟩,rfl,Tm.In_iff.2 ⟨⟨?_,?_,?_,?_,?_,hlen,htl⟩,hrow,hlow,hrin⟩⟩
     ·simp [Lit.wf,IntKind.min,IntKind.max,IntKind.signed,IntKind.bits] at wk; exact wk.1
     ·simp [Lit.wf,IntKind.min,IntKind.max,IntKind.signed,IntKind.bits] at wk; exact wk.2
     ·simp [Lit.wf,IntKind.min,IntKind.max,IntKind.signed,IntKind.bits] at wm; exact wm.1
     ·simp [Lit.wf,IntKind.min,IntKind.max,IntKind.signed,IntKind.bits] at wm; exact wm.2
     ·exact hss
end
theorem Trm.open_arg {H : Type} {enc : TypeId × Value → H} {w : World} {base : Nat} {sp : Nat → Bool} {hd : Bool} {v : Value} {d : DataW H} {p : List MemPlace} (h : DataW.Trod enc Tryz.prog w base sp hd 27 v d p) :
 ∃ (t : Tm) (h : Hd),v = t.val h ∧ t.In w.heap.size w h := by
 obtain ⟨fuel,hf⟩ := h
 obtain ⟨t,h,hc,hin⟩ := open_term _ _ _ hf
 refine ⟨t,h,?_,hin⟩
 have hl : v.cells.toList.length = 5 := by rw [hc]; simp [Tm.vals]
 cases v with
 | agg cs =>
   have : cs = t.vals h := by
    have hcs : cs.toList = (t.vals h).toList := hc
    exact Array.toList_inj.1 hcs
   rw [this]; rfl
 | _ => simp [Value.cells] at hl
end Go.Proofs.YtiekbhlnnmnklaaGreat
namespace Go.Proofs.YtiekbhlnnmnklaaGreat
open Go.RowKit Go.Shelf Go.Maps Lvl Trm Env
namespace Env
def FewP (l : List Inf) : Prop := l.length ≤ 40 ∧ ∀ x ∈ l,x.rules.length ≤ 20 ∧ x.ty.deep = false ∧ x.va.deep = false ∧ x.name.size ≤ 100 ∧ ∀ r ∈ x.rules,r.body.deep = false
def FewX (x : Inf) : Prop := x.rules.length ≤ 20 ∧ x.ty.deep = false ∧ x.va.deep = false ∧ x.name.size ≤ 100 ∧ ∀ r ∈ x.rules,r.body.deep = false
def FewPost (l : List Inf) (w : World) (e : Ending) (w' : World) : Prop := ∃ b,e = .returned (.bool b) ∧ (b = true → FewP l) ∧ Below w.heap.size w w'
theorem FewPost.no {l : List Inf} {w w' : World} (h : Below w.heap.size w w') : FewPost l w (.returned (.bool false)) w' := ⟨false,rfl,fun h => by (cases h),h⟩
def FRel (w : World) (l : List Inf) (i : Value) (wr : World) : Prop := ∃ k : Nat,i = .int .i64 k ∧ k ≤ l.length ∧ (∀ j (h : j < l.length),j < k → FewX l[j]) ∧ Below w.heap.size w wr
def FRel2 (w : World) (x : Inf) (i : Value) (wr : World) : Prop := ∃ k : Nat,i = .int .i64 k ∧ k ≤ x.rules.length ∧ (∀ j (h : j < x.rules.length),j < k → x.rules[j].body.deep = false) ∧ Below w.heap.size w wr
end Env
theorem few_any (l : List Inf) (lo : Option Addr) (lc : Nat) (w : World) (h : InfRow w.heap.size w lo l) :
 Calls Tryz.prog 14 #[.slice lo l.length lc] w (FewPost l w) := by
 have HR := hid h
 have HNO := hid (fun (W : World) (hW : Below w.heap.size w W) => FewPost.no (l := l) hW)
 obtain ⟨Q,hQ⟩ : ∃ Q,Q = FewPost l w := ⟨_,rfl⟩
 rw [← hQ] at HNO ⊢
 have HQ := hid hQ
 clear h hQ
 by_cases hmany : (40 : Int) < l.length
 ·have hd : decide ((40 : Int) < l.length) = true := by simpa using hmany
  clear hmany
  go_enter Tryz.func14,Tryz.ntmps14
  go_wp2_with fail
  exact HNO.out w (Below.refl _ _)
 ·have hd : decide ((40 : Int) < l.length) = false := by simpa using hmany
  have HL : Hid (l.length ≤ 40) := hid (by omega)
  clear hmany
  go_enter Tryz.func14,Tryz.ntmps14
  go_upto_region 4 with fail
  go_loopw [3] (fun i wr => FRel w l i wr) (fun i _ => l.length - (intOf i).toNat)
  case atStart => exact ⟨0,rfl,by omega,fun j _ hj => by omega,Below.refl _ _⟩
  case round =>
   obtain ⟨k,rfl,hk,hall,hbel⟩ := hrel
   have HALL := hid hall
   have HB := hid hbel
   clear hall hbel hd
   by_cases hlt : k < l.length
   ·obtain ⟨b,off,hd,hlo,hb,hrg,hin⟩ := HR.out.place k hlt
    subst hlo
    obtain ⟨x,hx⟩ : ∃ x,x = l[k] := ⟨_,rfl⟩
    rw [← hx] at hrg hin
    have HP := hid (fun (W : World) (hW : Below w.heap.size w W) (j : Nat) (v : Value) (hv : (x.vals hd)[j]? = some v) => (range_below hrg hW hb j v hv : W.cell? ⟨b,off + k * 25 + j,none⟩ = some v))
    have HIN := hid (fun (W : World) (hW : Below w.heap.size w W) => Inf.carry hin hW)
    have HD1 := hid (fun (W : World) (hW : Below w.heap.size w W) => Deep_any x.ty hd.ty W (HIN.out W hW).ty)
    have HD2 := hid (fun (W : World) (hW : Below w.heap.size w W) => Deep_any x.va hd.va W (HIN.out W hW).va)
    unfold Tm.val Tm.vals at HD1 HD2
    have HCS := hid (fun (W : World) (hW : Below w.heap.size w W) => (⟨HP.out W hW 1 _ rfl,HP.out W hW 3 _ rfl,HP.out W hW 4 _ rfl,HP.out W hW 5 _ rfl,HP.out W hW 6 _ rfl,HP.out W hW 7 _ rfl,HP.out W hW 8 _ rfl,HP.out W hW 9 _ rfl,HP.out W hW 10 _ rfl,HP.out W hW 11 _ rfl,HP.out W hW 12 _ rfl,HP.out W hW 22 _ rfl⟩ :
     W.cell? ⟨b,off + k * 25 + 1,none⟩ = some (.string x.name) ∧
     W.cell? ⟨b,off + k * 25 + 3,none⟩ = some (.int .u8 x.ty.k) ∧ W.cell? ⟨b,off + k * 25 + 4,none⟩ = some (.int .i64 x.ty.n) ∧ W.cell? ⟨b,off + k * 25 + 5,none⟩ = some (.string x.ty.s) ∧ W.cell? ⟨b,off + k * 25 + 6,none⟩ = some (.slice hd.ty.lo x.ty.ls.length hd.ty.lc) ∧ W.cell? ⟨b,off + k * 25 + 7,none⟩ = some (.slice hd.ty.to x.ty.ts.length hd.ty.tc) ∧
     W.cell? ⟨b,off + k * 25 + 8,none⟩ = some (.int .u8 x.va.k) ∧ W.cell? ⟨b,off + k * 25 + 9,none⟩ = some (.int .i64 x.va.n) ∧ W.cell? ⟨b,off + k * 25 + 10,none⟩ = some (.string x.va.s) ∧ W.cell? ⟨b,off + k * 25 + 11,none⟩ = some (.slice hd.va.lo x.va.ls.length hd.va.lc) ∧ W.cell? ⟨b,off + k * 25 + 12,none⟩ = some (.slice hd.va.to x.va.ts.length hd.va.tc) ∧
     W.cell? ⟨b,off + k * 25 + 22,none⟩ = some (.slice hd.ro x.rules.length hd.rc)))
    have HX := hid hx
    have HLT := hid hlt
    have hwk : wrap64 ((k : Int) + 1) = (k : Int) + 1 := IntWalk.wrap64_in _ (by have := HL.out; omega)
    have hwk2 : IntKind.i64.wrap ((k : Int) + 1) = (k : Int) + 1 := IntWalk.i64_in _ (by have := HL.out; omega)
    clear hrg hin hx hb
    obtain ⟨d1,d3,d4,d5,d6,d7,_,_,_,_,_,d22⟩ := HCS.out wr HB.out
    by_cases h1 : (20 : Int) < x.rules.length
    ·have hd1 : decide ((20 : Int) < x.rules.length) = true := by simpa using h1
     go_wp2_with fail
     exact HNO.out wr HB.out
    ·have hd1 : decide ((20 : Int) < x.rules.length) = false := by simpa using h1
     have H20 : Hid (x.rules.length ≤ 20) := hid (by omega)
     clear h1
     go_wp2_with fail
     refine (HD1.out wr HB.out).mono ?_
     rintro y w2 ⟨rfl,b2⟩
     have HB2 := hid (Trm.go HB.out b2)
     clear d1 d3 d4 d5 d6 d7 d22 b2
     cases ht : x.ty.deep
     ·obtain ⟨d1,_,_,_,_,_,d3,d4,d5,d6,d7,d22⟩ := HCS.out w2 HB2.out
      have HT := hid ht
      clear ht
      go_wp2_with fail
      refine (HD2.out w2 HB2.out).mono ?_
      rintro y w3 ⟨rfl,b3⟩
      have HB3 := hid (Trm.go HB2.out b3)
      clear d1 d3 d4 d5 d6 d7 d22 b3
      cases hv : x.va.deep
      ·obtain ⟨d1,_,_,_,_,_,_,_,_,_,_,d22⟩ := HCS.out w3 HB3.out
       have HV := hid hv
       clear hv
       by_cases h2 : (100 : Int) < x.name.size
       ·have hd2 : decide ((100 : Int) < x.name.size) = true := by simpa using h2
        go_wp2_with fail
        exact HNO.out w3 HB3.out
       ·have hd2 : decide ((100 : Int) < x.name.size) = false := by simpa using h2
        have H100 : Hid (x.name.size ≤ 100) := hid (by omega)
        clear h2
        go_upto_region 9 with fail
        clear d1 d22
        obtain ⟨wA,hwA⟩ : ∃ wA : World,wA = wr := ⟨_,rfl⟩
        rw [← hwA] at HB
        clear hwA
        go_loopw [4] (fun i wr => FRel2 w x i wr) (fun i _ => x.rules.length - (intOf i).toNat)
        case atStart => exact ⟨0,rfl,by omega,fun j _ hj => by omega,HB3.out⟩
        case round =>
         obtain ⟨q,rfl,hq,hall2,hbel2⟩ := hrel
         have HALL2 := hid hall2
         have HB4 := hid hbel2
         obtain ⟨_,_,_,_,_,_,_,_,_,_,_,d22⟩ := HCS.out wr hbel2
         clear hall2 hbel2
         by_cases hlt2 : q < x.rules.length
         ·obtain ⟨b',off',hd',hlo',hb',hrg',hin'⟩ := (HIN.out wr HB4.out).rules.place q hlt2
          rw [hlo'] at d22
          obtain ⟨r,hr⟩ : ∃ r,r = x.rules[q] := ⟨_,rfl⟩
          rw [← hr] at hrg' hin'
          have HRR := hid hr
          have e2 : wr.cell? ⟨b',off' + q * 7 + 2,none⟩ = some (.int .u8 r.body.k) := hrg' 2 _ rfl
          have e3 : wr.cell? ⟨b',off' + q * 7 + 3,none⟩ = some (.int .i64 r.body.n) := hrg' 3 _ rfl
          have e4 : wr.cell? ⟨b',off' + q * 7 + 4,none⟩ = some (.string r.body.s) := hrg' 4 _ rfl
          have e5 : wr.cell? ⟨b',off' + q * 7 + 5,none⟩ = some (.slice hd'.lo r.body.ls.length hd'.lc) := hrg' 5 _ rfl
          have e6 : wr.cell? ⟨b',off' + q * 7 + 6,none⟩ = some (.slice hd'.to r.body.ts.length hd'.tc) := hrg' 6 _ rfl
          have HD3 := hid (Deep_any r.body hd' wr hin')
          unfold Tm.val Tm.vals at HD3
          have hwq : wrap64 ((q : Int) + 1) = (q : Int) + 1 := IntWalk.wrap64_in _ (by have := H20.out; omega)
          have hwq2 : IntKind.i64.wrap ((q : Int) + 1) = (q : Int) + 1 := IntWalk.i64_in _ (by have := H20.out; omega)
          clear hrg' hin' hr hb' hlo'
          have HLT2 := hid hlt2
          go_wp2_with fail
          refine HD3.out.mono ?_
          rintro y w5 ⟨rfl,b5⟩
          have HB5 := hid (Trm.go HB4.out b5)
          clear d22 e2 e3 e4 e5 e6 b5
          cases hdp : r.body.deep
          ·have HNX : Hid (∀ j (h : j < x.rules.length),j < q + 1 → x.rules[j].body.deep = false) := hid (fun j hj hjq => by
            by_cases e : j = q
            ·subst e; rw [← HRR.out]; exact hdp
            ·exact HALL2.out j hj (by omega))
           clear hdp
           go_wp2_with fail
           go_roundw
           case rel => exact ⟨q + 1,by first | rfl | (rw [hwq]; rfl),HLT2.out,HNX.out,HB5.out⟩
           case measure => first | exact less_step rfl HLT2.out | exact less_step hwq HLT2.out
          ·clear hdp
           go_wp2_with fail
           exact HNO.out w5 HB5.out
         ·have hqe : q = x.rules.length := by omega
          subst hqe
          have HNX : Hid (∀ j (h : j < l.length),j < k + 1 → FewX l[j]) := hid (fun j hj hjk => by
           by_cases e : j = k
           ·subst e
            rw [← HX.out]
            refine ⟨H20.out,HT.out,HV.out,H100.out,fun r hr => ?_⟩
            obtain ⟨i,hi,rfl⟩ := List.mem_iff_getElem.1 hr
            exact HALL2.out i hi hi
           ·exact HALL.out j hj (by omega))
          go_wp2_with fail
          go_roundw
          case rel => exact ⟨k + 1,by first | rfl | (rw [hwk]; rfl),HLT.out,HNX.out,HB4.out⟩
          case measure => first | exact less_step rfl HLT.out | exact less_step hwk HLT.out
      ·clear hv
       obtain ⟨d1,_,_,_,_,_,_,_,_,_,_,d22⟩ := HCS.out w3 HB3.out
       go_wp2_with fail
       exact HNO.out w3 HB3.out
     ·clear ht
      obtain ⟨d1,_,_,_,_,_,d3,d4,d5,d6,d7,d22⟩ := HCS.out w2 HB2.out
      go_wp2_with fail
      exact HNO.out w2 HB2.out
   ·have hke : k = l.length := by omega
    subst hke
    have HYES : Hid (Q (.returned (.bool true)) wr) := hid (by
     rw [HQ.out]
     refine ⟨true,rfl,fun _ => ⟨HL.out,fun x hx => ?_⟩,HB.out⟩
     obtain ⟨i,hi,rfl⟩ := List.mem_iff_getElem.1 hx
     exact HALL.out i hi hi)
    go_wp2_with fail
    exact HYES.out
end Go.Proofs.YtiekbhlnnmnklaaGreat
namespace Go.Proofs.YtiekbhlnnmnklaaGreat
open Go.RowKit Go.Shelf Lvl Trm Env
section
variable {H : Type} {enc : TypeId × Value → H} {w : World} {base : Nat} {sp : Nat → Bool} {hd : Bool}
theorem Env.open_rule {fuel : Nat} {cs : List Value} {x : DataW H × List MemPlace} (h : DataW.trod enc Tryz.prog w base sp hd fuel 80 cs = some x) :
 ∃ (r : Rl) (e : Hd),cs = r.vals e ∧ r.body.In w.heap.size w e := by
 have hT : Tryz.prog.cellsOf 27 = 5 := by kernel_rfl
 have hI : Tryz.prog.cellsOf 3 = 1 := by kernel_rfl
 have hS : Tryz.prog.cellsOf 9 = 1 := by kernel_rfl
 have hC : Tryz.prog.cellsOf 80 = 7 := by kernel_rfl
 obtain ⟨xs,n,_,_,hl,hxs,hf⟩ := DataW.trod_struct Tryz.underlying80 h
 rw [hC] at hl
 match cs,hl with
 | [v0,v1,v2,v3,v4,v5,v6],_ =>
   have hx5 : xs.length = 3 := hxs
   have g0 : DataW.trod enc Tryz.prog w base sp hd n 9 (([v0,v1,v2,v3,v4,v5,v6].drop 0).take (Tryz.prog.cellsOf 9)) = xs[0]? := hf 0 _ rfl
   rw [hS] at g0
   simp only [List.drop_zero,List.take_succ_cons,List.take_zero] at g0
   rw [List.getElem?_eq_getElem (by omega)] at g0
   have g1 : DataW.trod enc Tryz.prog w base sp hd n 3 (([v0,v1,v2,v3,v4,v5,v6].drop 1).take (Tryz.prog.cellsOf 3)) = xs[1]? := hf 1 _ rfl
   rw [hI] at g1
   simp only [List.drop_zero,List.drop_succ_cons,List.take_succ_cons,List.take_zero] at g1
   rw [List.getElem?_eq_getElem (by omega)] at g1
   have g2 : DataW.trod enc Tryz.prog w base sp hd n 27 (([v0,v1,v2,v3,v4,v5,v6].drop 2).take (Tryz.prog.cellsOf 27)) = xs[2]? := hf 2 _ rfl
   rw [hT] at g2
   simp only [List.drop_zero,List.drop_succ_cons,List.take_succ_cons,List.take_zero] at g2
   rw [List.getElem?_eq_getElem (by omega)] at g2
   obtain ⟨s0,q0,_,l0⟩ := DataW.trod_string Tryz.underlying9 g0
   obtain rfl : v0 = _ := List.singleton_inj.1 q0
   obtain ⟨z1,q1,_,w1⟩ := DataW.trod_int Tryz.underlying3 g1
   obtain rfl : v1 = _ := List.singleton_inj.1 q1
   obtain ⟨t2,e2,q2,i2⟩ := open_term _ _ _ g2
   have q2' : [v2,v3,v4,v5,v6] = five t2 e2 := q2
   simp only [five,List.cons.injEq,and_true] at q2'
   obtain ⟨rfl,rfl,rfl,rfl,rfl⟩ := q2'
   exact ⟨⟨s0,z1,t2⟩,e2,rfl,i2⟩
theorem Env.open_rules {fuel : Nat} {cs : List Value} {x : DataW H × List MemPlace} (h : DataW.trod enc Tryz.prog w base sp hd fuel 44 cs = some x) :
 ∃ (lo : Option Addr) (lc : Nat) (rs : List Rl),cs = [.slice lo rs.length lc] ∧ RRow w.heap.size w lo rs ∧ rs.length ≤ 9223372036854775807 := by
 have hC : Tryz.prog.cellsOf 80 = 7 := by kernel_rfl
 rcases DataW.trod_slice Tryz.underlying44 h with ⟨rfl,_⟩ | ⟨a,len,cap,elems,rest,n,_,rfl,_,_,hlc,hcm,hel,hall,_⟩
 ·exact ⟨none,0,[],rfl,⟨fun k hk => by simp at hk⟩,by simp⟩
 ·rw [hC] at hall
  have open1 : ∀ i,i < len → ∃ (r : Rl) (e : Hd),(∀ j v,(r.vals e)[j]? = some v → w.cell? ((a.add (i * 7)).add j) = some v) ∧ r.body.In w.heap.size w e := fun i hi => by
   have hi' := hall i hi
   rw [List.getElem?_eq_getElem (by omega)] at hi'
   obtain ⟨cs,hcs,ht⟩ := Option.bind_eq_some_iff.1 hi'
   obtain ⟨_,hcl,hcell⟩ := World.cells?_some hcs
   obtain ⟨r,e,rfl,hin⟩ := open_rule ht
   exact ⟨r,e,fun j v hj => (hcell j (by rw [← hcl]; exact (List.getElem?_eq_some_iff.1 hj).1)).trans hj,hin⟩
  have hnone : 0 < len → a.spot = none := fun h0 => by
   obtain ⟨r,e,hcell,_⟩ := open1 0 h0
   have h0 := hcell 0 _ rfl
   rw [Nat.zero_mul,add_zero,add_zero] at h0
   exact World.cell?_spot h0
  have key : ∀ i,i < len → ∃ r : Rl,∃ b off e,a = ⟨b,off,none⟩ ∧ b < w.heap.size ∧ w.rangeAt b (off + i * 7) (r.vals e) ∧ r.body.In w.heap.size w e := fun i hi => by
   obtain ⟨r,e,hcell,hin⟩ := open1 i hi
   have hs := hnone (by omega)
   obtain ⟨b,off,spot⟩ := a
   dsimp only at hs
   subst hs
   simp only [add_none] at hcell
   exact ⟨r,b,off,e,rfl,World.block_lt_of_cell? w _ (hcell 0 _ rfl),fun j v hj => hcell j v hj,hin⟩
  have key2 : ∃ rs : List Rl,rs.length = len ∧ ∀ k (hk : k < rs.length),∃ b off e,a = ⟨b,off,none⟩ ∧ b < w.heap.size ∧ w.rangeAt b (off + k * 7) (rs[k].vals e) ∧ rs[k].body.In w.heap.size w e := by
   refine ⟨(List.range len).pmap (fun i hi => Classical.choose (key i hi)) (fun i hi => by simpa using hi),by simp,fun k hk => ?_⟩
   have hk' : k < len := by simpa using hk
   obtain ⟨b,off,e,h1,h2,h3,h4⟩ := Classical.choose_spec (key k hk')
   exact ⟨b,off,e,h1,h2,by simpa using h3,by simpa using h4⟩
  obtain ⟨rs,rfl,hrs⟩ := key2
  refine ⟨some a,cap,rs,rfl,⟨fun k hk => ?_⟩,?_⟩
  ·obtain ⟨b,off,e,rfl,h2,h3,h4⟩ := hrs k hk
   exact ⟨b,off,e,rfl,h2,h3,h4⟩
  ·have : maxLen = 9223372036854775807 := rfl
   omega
theorem Env.open_info {fuel : Nat} {cs : List Value} {x : DataW H × List MemPlace} (h : DataW.trod enc Tryz.prog w base sp hd fuel 46 cs = some x) :
 ∃ (r : Inf) (e : IHd),cs = r.vals e ∧ r.In w.heap.size w e := by
 have hRu : Tryz.prog.cellsOf 44 = 1 := by kernel_rfl
 have hT : Tryz.prog.cellsOf 27 = 5 := by kernel_rfl
 have hBo : Tryz.prog.cellsOf 4 = 1 := by kernel_rfl
 have hI : Tryz.prog.cellsOf 3 = 1 := by kernel_rfl
 have hS : Tryz.prog.cellsOf 9 = 1 := by kernel_rfl
 have hU : Tryz.prog.cellsOf 5 = 1 := by kernel_rfl
 have hC : Tryz.prog.cellsOf 46 = 25 := by kernel_rfl
 obtain ⟨xs,n,_,_,hl,hxs,hf⟩ := DataW.trod_struct Tryz.underlying46 h
 rw [hC] at hl
 match cs,hl with
 | [v0,v1,v2,v3,v4,v5,v6,v7,v8,v9,v10,v11,v12,v13,v14,v15,v16,v17,v18,v19,v20,v21,v22,v23,v24],_ =>
   have hx5 : xs.length = 17 := hxs
   have g0 : DataW.trod enc Tryz.prog w base sp hd n 5 (([v0,v1,v2,v3,v4,v5,v6,v7,v8,v9,v10,v11,v12,v13,v14,v15,v16,v17,v18,v19,v20,v21,v22,v23,v24].drop 0).take (Tryz.prog.cellsOf 5)) = xs[0]? := hf 0 _ rfl
   rw [hU] at g0
   simp only [List.drop_zero,List.take_succ_cons,List.take_zero] at g0
   rw [List.getElem?_eq_getElem (by omega)] at g0
   have g1 : DataW.trod enc Tryz.prog w base sp hd n 9 (([v0,v1,v2,v3,v4,v5,v6,v7,v8,v9,v10,v11,v12,v13,v14,v15,v16,v17,v18,v19,v20,v21,v22,v23,v24].drop 1).take (Tryz.prog.cellsOf 9)) = xs[1]? := hf 1 _ rfl
   rw [hS] at g1
   simp only [List.drop_zero,List.drop_succ_cons,List.take_succ_cons,List.take_zero] at g1
   rw [List.getElem?_eq_getElem (by omega)] at g1
   have g2 : DataW.trod enc Tryz.prog w base sp hd n 3 (([v0,v1,v2,v3,v4,v5,v6,v7,v8,v9,v10,v11,v12,v13,v14,v15,v16,v17,v18,v19,v20,v21,v22,v23,v24].drop 2).take (Tryz.prog.cellsOf 3)) = xs[2]? := hf 2 _ rfl
   rw [hI] at g2
   simp only [List.drop_zero,List.drop_succ_cons,List.take_succ_cons,List.take_zero] at g2
   rw [List.getElem?_eq_getElem (by omega)] at g2
   have g3 : DataW.trod enc Tryz.prog w base sp hd n 27 (([v0,v1,v2,v3,v4,v5,v6,v7,v8,v9,v10,v11,v12,v13,v14,v15,v16,v17,v18,v19,v20,v21,v22,v23,v24].drop 3).take (Tryz.prog.cellsOf 27)) = xs[3]? := hf 3 _ rfl
   rw [hT] at g3
   simp only [List.drop_zero,List.drop_succ_cons,List.take_succ_cons,List.take_zero] at g3
   rw [List.getElem?_eq_getElem (by omega)] at g3
   have g4 : DataW.trod enc Tryz.prog w base sp hd n 27 (([v0,v1,v2,v3,v4,v5,v6,v7,v8,v9,v10,v11,v12,v13,v14,v15,v16,v17,v18,v19,v20,v21,v22,v23,v24].drop 8).take (Tryz.prog.cellsOf 27)) = xs[4]? := hf 4 _ rfl
   rw [hT] at g4
   simp only [List.drop_zero,List.drop_succ_cons,List.take_succ_cons,List.take_zero] at g4
   rw [List.getElem?_eq_getElem (by omega)] at g4
   have g5 : DataW.trod enc Tryz.prog w base sp hd n 3 (([v0,v1,v2,v3,v4,v5,v6,v7,v8,v9,v10,v11,v12,v13,v14,v15,v16,v17,v18,v19,v20,v21,v22,v23,v24].drop 13).take (Tryz.prog.cellsOf 3)) = xs[5]? := hf 5 _ rfl
   rw [hI] at g5
   simp only [List.drop_zero,List.drop_succ_cons,List.take_succ_cons,List.take_zero] at g5
   rw [List.getElem?_eq_getElem (by omega)] at g5
   have g6 : DataW.trod enc Tryz.prog w base sp hd n 9 (([v0,v1,v2,v3,v4,v5,v6,v7,v8,v9,v10,v11,v12,v13,v14,v15,v16,v17,v18,v19,v20,v21,v22,v23,v24].drop 14).take (Tryz.prog.cellsOf 9)) = xs[6]? := hf 6 _ rfl
   rw [hS] at g6
   simp only [List.drop_zero,List.drop_succ_cons,List.take_succ_cons,List.take_zero] at g6
   rw [List.getElem?_eq_getElem (by omega)] at g6
   have g7 : DataW.trod enc Tryz.prog w base sp hd n 9 (([v0,v1,v2,v3,v4,v5,v6,v7,v8,v9,v10,v11,v12,v13,v14,v15,v16,v17,v18,v19,v20,v21,v22,v23,v24].drop 15).take (Tryz.prog.cellsOf 9)) = xs[7]? := hf 7 _ rfl
   rw [hS] at g7
   simp only [List.drop_zero,List.drop_succ_cons,List.take_succ_cons,List.take_zero] at g7
   rw [List.getElem?_eq_getElem (by omega)] at g7
   have g8 : DataW.trod enc Tryz.prog w base sp hd n 3 (([v0,v1,v2,v3,v4,v5,v6,v7,v8,v9,v10,v11,v12,v13,v14,v15,v16,v17,v18,v19,v20,v21,v22,v23,v24].drop 16).take (Tryz.prog.cellsOf 3)) = xs[8]? := hf 8 _ rfl
   rw [hI] at g8
   simp only [List.drop_zero,List.drop_succ_cons,List.take_succ_cons,List.take_zero] at g8
   rw [List.getElem?_eq_getElem (by omega)] at g8
   have g9 : DataW.trod enc Tryz.prog w base sp hd n 3 (([v0,v1,v2,v3,v4,v5,v6,v7,v8,v9,v10,v11,v12,v13,v14,v15,v16,v17,v18,v19,v20,v21,v22,v23,v24].drop 17).take (Tryz.prog.cellsOf 3)) = xs[9]? := hf 9 _ rfl
   rw [hI] at g9
   simp only [List.drop_zero,List.drop_succ_cons,List.take_succ_cons,List.take_zero] at g9
   rw [List.getElem?_eq_getElem (by omega)] at g9
   have g10 : DataW.trod enc Tryz.prog w base sp hd n 3 (([v0,v1,v2,v3,v4,v5,v6,v7,v8,v9,v10,v11,v12,v13,v14,v15,v16,v17,v18,v19,v20,v21,v22,v23,v24].drop 18).take (Tryz.prog.cellsOf 3)) = xs[10]? := hf 10 _ rfl
   rw [hI] at g10
   simp only [List.drop_zero,List.drop_succ_cons,List.take_succ_cons,List.take_zero] at g10
   rw [List.getElem?_eq_getElem (by omega)] at g10
   have g11 : DataW.trod enc Tryz.prog w base sp hd n 3 (([v0,v1,v2,v3,v4,v5,v6,v7,v8,v9,v10,v11,v12,v13,v14,v15,v16,v17,v18,v19,v20,v21,v22,v23,v24].drop 19).take (Tryz.prog.cellsOf 3)) = xs[11]? := hf 11 _ rfl
   rw [hI] at g11
   simp only [List.drop_zero,List.drop_succ_cons,List.take_succ_cons,List.take_zero] at g11
   rw [List.getElem?_eq_getElem (by omega)] at g11
   have g12 : DataW.trod enc Tryz.prog w base sp hd n 3 (([v0,v1,v2,v3,v4,v5,v6,v7,v8,v9,v10,v11,v12,v13,v14,v15,v16,v17,v18,v19,v20,v21,v22,v23,v24].drop 20).take (Tryz.prog.cellsOf 3)) = xs[12]? := hf 12 _ rfl
   rw [hI] at g12
   simp only [List.drop_zero,List.drop_succ_cons,List.take_succ_cons,List.take_zero] at g12
   rw [List.getElem?_eq_getElem (by omega)] at g12
   have g13 : DataW.trod enc Tryz.prog w base sp hd n 3 (([v0,v1,v2,v3,v4,v5,v6,v7,v8,v9,v10,v11,v12,v13,v14,v15,v16,v17,v18,v19,v20,v21,v22,v23,v24].drop 21).take (Tryz.prog.cellsOf 3)) = xs[13]? := hf 13 _ rfl
   rw [hI] at g13
   simp only [List.drop_zero,List.drop_succ_cons,List.take_succ_cons,List.take_zero] at g13
   rw [List.getElem?_eq_getElem (by omega)] at g13
   have g14 : DataW.trod enc Tryz.prog w base sp hd n 44 (([v0,v1,v2,v3,v4,v5,v6,v7,v8,v9,v10,v11,v12,v13,v14,v15,v16,v17,v18,v19,v20,v21,v22,v23,v24].drop 22).take (Tryz.prog.cellsOf 44)) = xs[14]? := hf 14 _ rfl
   rw [hRu] at g14
   simp only [List.drop_zero,List.drop_succ_cons,List.take_succ_cons,List.take_zero] at g14
   rw [List.getElem?_eq_getElem (by omega)] at g14
   have g15 : DataW.trod enc Tryz.prog w base sp hd n 3 (([v0,v1,v2,v3,v4,v5,v6,v7,v8,v9,v10,v11,v12,v13,v14,v15,v16,v17,v18,v19,v20,v21,v22,v23,v24].drop 23).take (Tryz.prog.cellsOf 3)) = xs[15]? := hf 15 _ rfl
   rw [hI] at g15
   simp only [List.drop_zero,List.drop_succ_cons,List.take_succ_cons,List.take_zero] at g15
   rw [List.getElem?_eq_getElem (by omega)] at g15
   have g16 : DataW.trod enc Tryz.prog w base sp hd n 4 (([v0,v1,v2,v3,v4,v5,v6,v7,v8,v9,v10,v11,v12,v13,v14,v15,v16,v17,v18,v19,v20,v21,v22,v23,v24].drop 24).take (Tryz.prog.cellsOf 4)) = xs[16]? := hf 16 _ rfl
   rw [hBo] at g16
   simp only [List.drop_zero,List.drop_succ_cons,List.take_succ_cons,List.take_zero] at g16
   rw [List.getElem?_eq_getElem (by omega)] at g16
   obtain ⟨z0,q0,_,w0⟩ := DataW.trod_int Tryz.underlying5 g0
   obtain rfl : v0 = _ := List.singleton_inj.1 q0
   obtain ⟨s1,q1,_,l1⟩ := DataW.trod_string Tryz.underlying9 g1
   obtain rfl : v1 = _ := List.singleton_inj.1 q1
   obtain ⟨z2,q2,_,w2⟩ := DataW.trod_int Tryz.underlying3 g2
   obtain rfl : v2 = _ := List.singleton_inj.1 q2
   obtain ⟨t3,e3,q3,i3⟩ := open_term _ _ _ g3
   have q3' : [v3,v4,v5,v6,v7] = five t3 e3 := q3
   simp only [five,List.cons.injEq,and_true] at q3'
   obtain ⟨rfl,rfl,rfl,rfl,rfl⟩ := q3'
   obtain ⟨t4,e4,q4,i4⟩ := open_term _ _ _ g4
   have q4' : [v8,v9,v10,v11,v12] = five t4 e4 := q4
   simp only [five,List.cons.injEq,and_true] at q4'
   obtain ⟨rfl,rfl,rfl,rfl,rfl⟩ := q4'
   obtain ⟨z5,q5,_,w5⟩ := DataW.trod_int Tryz.underlying3 g5
   obtain rfl : v13 = _ := List.singleton_inj.1 q5
   obtain ⟨s6,q6,_,l6⟩ := DataW.trod_string Tryz.underlying9 g6
   obtain rfl : v14 = _ := List.singleton_inj.1 q6
   obtain ⟨s7,q7,_,l7⟩ := DataW.trod_string Tryz.underlying9 g7
   obtain rfl : v15 = _ := List.singleton_inj.1 q7
   obtain ⟨z8,q8,_,w8⟩ := DataW.trod_int Tryz.underlying3 g8
   obtain rfl : v16 = _ := List.singleton_inj.1 q8
   obtain ⟨z9,q9,_,w9⟩ := DataW.trod_int Tryz.underlying3 g9
   obtain rfl : v17 = _ := List.singleton_inj.1 q9
   obtain ⟨z10,q10,_,w10⟩ := DataW.trod_int Tryz.underlying3 g10
   obtain rfl : v18 = _ := List.singleton_inj.1 q10
   obtain ⟨z11,q11,_,w11⟩ := DataW.trod_int Tryz.underlying3 g11
   obtain rfl : v19 = _ := List.singleton_inj.1 q11
   obtain ⟨z12,q12,_,w12⟩ := DataW.trod_int Tryz.underlying3 g12
   obtain rfl : v20 = _ := List.singleton_inj.1 q12
   obtain ⟨z13,q13,_,w13⟩ := DataW.trod_int Tryz.underlying3 g13
   obtain rfl : v21 = _ := List.singleton_inj.1 q13
   obtain ⟨lo14,lc14,r14,q14,i14,l14⟩ := open_rules g14
   obtain rfl : v22 = _ := List.singleton_inj.1 q14
   obtain ⟨z15,q15,_,w15⟩ := DataW.trod_int Tryz.underlying3 g15
   obtain rfl : v23 = _ := List.singleton_inj.1 q15
   obtain ⟨b16,q16,_⟩ := DataW.trod_bool Tryz.underlying4 g16
   obtain rfl : v24 = _ := List.singleton_inj.1 q16
   refine ⟨⟨z0,s1,z2,t3,t4,z5,s6,s7,z8,z9,z10,z11,z12,z13,r14,z15,b16⟩,⟨e3,e4,lo14,lc14⟩,rfl,⟨⟨?_,?_,?_,l14⟩,i3,i4,i14⟩⟩
   ·simp [Lit.wf,IntKind.min,IntKind.max,IntKind.signed,IntKind.bits] at w0; exact w0.1
   ·simp [Lit.wf,IntKind.min,IntKind.max,IntKind.signed,IntKind.bits] at w0; exact w0.2
   ·exact l1
theorem Env.open_infos0 {fuel : Nat} {cs : List Value} {x : DataW H × List MemPlace} (h : DataW.trod enc Tryz.prog w base sp hd fuel 22 cs = some x) :
 ∃ (lo : Option Addr) (lc : Nat) (rs : List Inf),cs = [.slice lo rs.length lc] ∧ InfRow w.heap.size w lo rs ∧ rs.length ≤ 9223372036854775807 := by
 have hC : Tryz.prog.cellsOf 46 = 25 := by kernel_rfl
 rcases DataW.trod_slice Tryz.underlying22 h with ⟨rfl,_⟩ | ⟨a,len,cap,elems,rest,n,_,rfl,_,_,hlc,hcm,hel,hall,_⟩
 ·exact ⟨none,0,[],rfl,⟨fun k hk => by simp at hk⟩,by simp⟩
 ·rw [hC] at hall
  have open1 : ∀ i,i < len → ∃ (r : Inf) (e : IHd),(∀ j v,(r.vals e)[j]? = some v → w.cell? ((a.add (i * 25)).add j) = some v) ∧ r.In w.heap.size w e := fun i hi => by
   have hi' := hall i hi
   rw [List.getElem?_eq_getElem (by omega)] at hi'
   obtain ⟨cs,hcs,ht⟩ := Option.bind_eq_some_iff.1 hi'
   obtain ⟨_,hcl,hcell⟩ := World.cells?_some hcs
   obtain ⟨r,e,rfl,hin⟩ := open_info ht
   exact ⟨r,e,fun j v hj => (hcell j (by rw [← hcl]; exact (List.getElem?_eq_some_iff.1 hj).1)).trans hj,hin⟩
  have hnone : 0 < len → a.spot = none := fun h0 => by
   obtain ⟨r,e,hcell,_⟩ := open1 0 h0
   have h0 := hcell 0 _ rfl
   rw [Nat.zero_mul,add_zero,add_zero] at h0
   exact World.cell?_spot h0
  have key : ∀ i,i < len → ∃ r : Inf,∃ b off e,a = ⟨b,off,none⟩ ∧ b < w.heap.size ∧ w.rangeAt b (off + i * 25) (r.vals e) ∧ r.In w.heap.size w e := fun i hi => by
   obtain ⟨r,e,hcell,hin⟩ := open1 i hi
   have hs := hnone (by omega)
   obtain ⟨b,off,spot⟩ := a
   dsimp only at hs
   subst hs
   simp only [add_none] at hcell
   exact ⟨r,b,off,e,rfl,World.block_lt_of_cell? w _ (hcell 0 _ rfl),fun j v hj => hcell j v hj,hin⟩
  have key2 : ∃ rs : List Inf,rs.length = len ∧ ∀ k (hk : k < rs.length),∃ b off e,a = ⟨b,off,none⟩ ∧ b < w.heap.size ∧ w.rangeAt b (off + k * 25) (rs[k].vals e) ∧ rs[k].In w.heap.size w e := by
   refine ⟨(List.range len).pmap (fun i hi => Classical.choose (key i hi)) (fun i hi => by simpa using hi),by simp,fun k hk => ?_⟩
   have hk' : k < len := by simpa using hk
   obtain ⟨b,off,e,h1,h2,h3,h4⟩ := Classical.choose_spec (key k hk')
   exact ⟨b,off,e,h1,h2,by simpa using h3,by simpa using h4⟩
  obtain ⟨rs,rfl,hrs⟩ := key2
  refine ⟨some a,cap,rs,rfl,⟨fun k hk => ?_⟩,?_⟩
  ·obtain ⟨b,off,e,rfl,h2,h3,h4⟩ := hrs k hk
   exact ⟨b,off,e,rfl,h2,h3,h4⟩
  ·have : maxLen = 9223372036854775807 := rfl
   omega
end
theorem Env.open_infos {H : Type} {enc : TypeId × Value → H} {w : World} {base : Nat} {sp : Nat → Bool} {hd : Bool} {a : Option Addr} {len cap : Nat} {d : DataW H} {p : List MemPlace} (h : DataW.Trod enc Tryz.prog w base sp hd 22 (.slice a len cap) d p) :
 ∃ rs : List Inf,len = rs.length ∧ InfRow w.heap.size w a rs ∧ len ≤ cap := by
 obtain ⟨fuel,hf⟩ := h
 obtain ⟨lo,lc,rs,hcs,hrow,_⟩ := open_infos0 hf
 have hle : len ≤ cap := by
  rcases DataW.trod_slice Tryz.underlying22 hf with ⟨hc2,_⟩ | ⟨a2,len2,cap2,_,_,_,_,hc2,_,_,hlc,_⟩
  ·simp [Value.cells] at hc2; omega
  ·simp [Value.cells] at hc2; omega
 simp [Value.cells] at hcs
 obtain ⟨rfl,rfl,rfl⟩ := hcs
 exact ⟨rs,rfl,hrow,hle⟩
theorem Env.open_infArg {H : Type} {enc : TypeId × Value → H} {w : World} {base : Nat} {sp : Nat → Bool} {hd : Bool} {v : Value} {d : DataW H} {p : List MemPlace} (h : DataW.Trod enc Tryz.prog w base sp hd 46 v d p) :
 ∃ (x : Inf) (e : IHd),v = .agg (x.vals e).toArray ∧ x.In w.heap.size w e := by
 obtain ⟨fuel,hf⟩ := h
 obtain ⟨x,e,hc,hin⟩ := open_info hf
 refine ⟨x,e,?_,hin⟩
 have hl : v.cells.toList.length = 25 := by rw [hc]; rfl
 cases v with
 | agg cs =>
   have : cs = (x.vals e).toArray := by
    have hcs : cs.toList = x.vals e := hc
    rw [← hcs]
   rw [this]
 | _ => simp [Value.cells] at hl
end Go.Proofs.YtiekbhlnnmnklaaGreat
