/-
 battenref07.find: the place of a name among infos.
-/
import Derived.Lib.Hide
import Derived.Test.YtiekbhlnnmnklaaGreatQB7
import Derived.Test.YtiekbhlnnmnklaaGreatQB6
import Derived.Test.YtiekbhlnnmnklaaGreatQB4
open Go.Lib (hid)
set_option maxRecDepth 100000
set_option maxHeartbeats 32000000
namespace Go.Proofs.YtiekbhlnnmnklaaGreat
open Go.RowKit Go.Shelf Go.Maps Lvl Trm Env
namespace Env
def findZ (l : List Inf) (s : ByteArray) : Int := match l.findIdx? (fun x => decide (x.name = s)) with
 | some k => (k : Int)
 | none => -1
theorem findZ_at {l : List Inf} {s : ByteArray} {k : Nat} (hk : k < l.length) (h : l[k].name = s) (hall : ∀ j (hj : j < l.length),j < k → l[j].name ≠ s) : findZ l s = k := by
 have e : l.findIdx? (fun x => decide (x.name = s)) = some k := by
  rw [List.findIdx?_eq_some_iff_getElem]
  exact ⟨hk,by simpa using h,fun j hj => by simpa using hall j (by omega) hj⟩
 unfold findZ
 rw [e]
theorem findZ_none {l : List Inf} {s : ByteArray} (hall : ∀ j (hj : j < l.length),l[j].name ≠ s) : findZ l s = -1 := by
 have e : l.findIdx? (fun x => decide (x.name = s)) = none := by
  rw [List.findIdx?_eq_none_iff]
  intro x hx
  obtain ⟨j,hj,rfl⟩ := List.getElem_of_mem hx
  simpa using hall j hj
 unfold findZ
 rw [e]
theorem findZ_cases (l : List Inf) (s : ByteArray) : (findZ l s = -1 ∧ ∀ j (hj : j < l.length),l[j].name ≠ s) ∨ ∃ k,∃ hk : k < l.length,findZ l s = (k : Int) ∧ l[k].name = s ∧ ∀ j (hj : j < l.length),j < k → l[j].name ≠ s := by
 cases e : l.findIdx? (fun x => decide (x.name = s)) with
 | none =>
   refine Or.inl ⟨by unfold findZ; rw [e],fun j hj => ?_⟩
   have := (List.findIdx?_eq_none_iff.1 e) _ (List.getElem_mem hj)
   simpa using this
 | some k =>
   obtain ⟨hk,h1,h2⟩ := List.findIdx?_eq_some_iff_getElem.1 e
   refine Or.inr ⟨k,hk,by unfold findZ; rw [e],by simpa using h1,fun j hj hjk => by simpa using h2 j hjk⟩
theorem key_eq {a b : ByteArray} (h : key a = key b) : a = b := by
 cases a with | mk x => cases b with | mk y =>
 unfold key at h
 have h2 : x.toList = y.toList := h
 rw [Array.toList_inj.1 h2]
theorem findZ_look (L : List Ent) (s : ByteArray) : (findZ (L.map (·.2.1)) s = -1 ∧ lookE L (key s) = none) ∨ ∃ k,∃ hk : k < L.length,findZ (L.map (·.2.1)) s = (k : Int) ∧ lookE L (key s) = some L[k] ∧ L[k].2.1.name = s := by
 rcases findZ_cases (L.map (·.2.1)) s with ⟨h1,h2⟩ | ⟨k,hk,h1,h2,h3⟩
 ·refine Or.inl ⟨h1,?_⟩
  unfold lookE
  rw [List.find?_eq_none]
  intro p hp hq
  obtain ⟨j,hj,rfl⟩ := List.getElem_of_mem hp
  have h4 := h2 j (by simpa using hj)
  rw [List.getElem_map] at h4
  exact h4 (key_eq (by simpa [ekey] using hq))
 ·have hk2 : k < L.length := by simpa using hk
  rw [List.getElem_map] at h2
  refine Or.inr ⟨k,hk2,h1,?_,h2⟩
  unfold lookE
  rw [List.find?_eq_some_iff_getElem]
  refine ⟨by simp [ekey,h2],k,hk2,rfl,fun j hj => ?_⟩
  have h4 := h3 j (by simpa using (by omega : j < L.length)) hj
  rw [List.getElem_map] at h4
  have h5 : ¬ ekey (L[j]'(by omega)) = key s := fun h => h4 (key_eq h)
  simpa using h5
structure NmRow (w : World) (lo : Option Addr) (l : List Inf) : Prop where
 place : ∀ k (hk : k < l.length),∃ b off,lo = some ⟨b,off,none⟩ ∧ w.cell? ⟨b,off + k * 25 + 1,none⟩ = some (.string l[k].name)
theorem InfRow.nm {B : Nat} {w : World} {lo : Option Addr} {l : List Inf} (h : InfRow B w lo l) : NmRow w lo l := ⟨fun k hk => by
 obtain ⟨b,off,hd,h1,h2,h3,h4⟩ := h.place k hk
 exact ⟨b,off,h1,h3 1 _ rfl⟩⟩
theorem NmRow.take {w : World} {lo : Option Addr} {l : List Inf} (h : NmRow w lo l) (n : Nat) : NmRow w lo (l.take n) := ⟨fun k hk => by
 have hk2 : k < l.length := by rw [List.length_take] at hk; omega
 obtain ⟨b,off,h1,h2⟩ := h.place k hk2
 exact ⟨b,off,h1,by rw [List.getElem_take]; exact h2⟩⟩
theorem wk_two {k : Nat} (h : k < 1000000) : wrap64 ((k : Int) + 1) = (k : Int) + 1 ∧ IntKind.i64.wrap ((k : Int) + 1) = (k : Int) + 1 := ⟨IntWalk.wrap64_in _ (by omega),IntWalk.i64_in _ (by omega)⟩
def FzRel (w : World) (l : List Inf) (s : ByteArray) (i : Value) (wr : World) : Prop := ∃ k : Nat,i = .int .i64 k ∧ k ≤ l.length ∧ (∀ j (h : j < l.length),j < k → l[j].name ≠ s) ∧ w = wr
end Env
theorem find7_any (l : List Inf) (lo : Option Addr) (lc : Nat) (s : ByteArray) (w : World) (hr : NmRow w lo l) (hl : l.length ≤ 1000000) :
 Calls Tryz.prog 69 #[.slice lo l.length lc,.string s] w fun e w' => e = .returned (.int .i64 (findZ l s)) ∧ w = w' := by
 have HR := hid hr
 have HL := hid hl
 clear hr hl
 obtain ⟨G,hG⟩ : ∃ G,G = findZ l s := ⟨_,rfl⟩
 rw [← hG]
 have HG := hid hG
 clear hG
 go_enter Tryz.func69,Tryz.ntmps69
 go_wp2_with fail
 go_loopw [5] (fun i wr => FzRel w l s i wr) (fun i _ => l.length - (intOf i).toNat)
 case atStart => exact ⟨0,rfl,by omega,fun j _ h => by omega,rfl⟩
 case round =>
  obtain ⟨k,rfl,hk,hall,rfl⟩ := hrel
  have HALL := hid hall
  clear hall
  by_cases hlt : k < l.length
  ·obtain ⟨b,off,hao,hc⟩ := HR.out.place k hlt
   subst hao
   have HYES : Hid (l[k].name = s → (k : Int) = G) := hid (fun hn => by rw [HG.out]; exact (findZ_at hlt hn HALL.out).symm)
   have HNO : Hid (l[k].name ≠ s → ∀ j (h : j < l.length),j < k + 1 → l[j].name ≠ s) := hid (fun hn j hj hjk => by
    by_cases e : j = k
    ·subst e; exact hn
    ·exact HALL.out j hj (by omega))
   obtain ⟨y,hy⟩ : ∃ y,y = l[k].name := ⟨_,rfl⟩
   rw [← hy] at hc HYES HNO
   clear hy
   have HLT := hid hlt
   have hwk : wrap64 ((k : Int) + 1) = (k : Int) + 1 := IntWalk.wrap64_in _ (by have := HL.out; omega)
   have hwk2 : IntKind.i64.wrap ((k : Int) + 1) = (k : Int) + 1 := IntWalk.i64_in _ (by have := HL.out; omega)
   by_cases hn : y = s
   ·have HE := hid (HYES.out hn)
    subst hn
    go_wp2_with fail
    go_ret
    exact ⟨by rw [← HE.out]; rfl,rfl⟩
   ·have HYE := hid (HNO.out hn)
    have q2 : (y.toList == s.toList) = false := by
     rw [beq_eq_false_iff_ne]
     exact fun e => hn (key_eq (by rwa [ByteArray.toList_eq,ByteArray.toList_eq] at e))
    clear hn
    go_wp2_with fail
    go_roundw
    case rel => exact ⟨k + 1,by first | rfl | (rw [hwk]; rfl),HLT.out,HYE.out,rfl⟩
    case measure => first | exact less_step rfl HLT.out | exact less_step hwk HLT.out
  ·have HE : Hid ((-1 : Int) = G) := hid (by rw [HG.out]; exact (findZ_none fun j hj => HALL.out j hj (by omega)).symm)
   go_wp2_with fail
   go_ret
   exact ⟨by rw [← HE.out]; rfl,rfl⟩
end Go.Proofs.YtiekbhlnnmnklaaGreat
namespace Go.Proofs.YtiekbhlnnmnklaaGreat
open Go.RowKit Go.Shelf Lvl Trm Env
namespace Env
theorem RowB.base {B b0 b1 : Nat} {w : World} {ao : Option Addr} {L : List Tm} (h : RowB B b0 w ao L) (hb : b1 ≤ b0) : RowB B b1 w ao L := ⟨fun k hk => by
 obtain ⟨b,off,hd,h1,h2,h3⟩ := h.place k hk
 exact ⟨b,off,hd,h1,Nat.le_trans hb h2,h3⟩⟩
end Env
theorem terms7_any {B : Nat} {w0 : World} {x : Inf} {h : IHd} (hin0 : x.In B w0 h) (hB0 : B ≤ w0.heap.size) (hn : x.rules.length ≤ 1000) : Calls Tryz.prog 109 #[.agg (x.vals h).toArray] w0 (TermsPost B x w0) := by
 obtain ⟨cs,hcs⟩ : ∃ cs,cs = (x.vals h).toArray := ⟨_,rfl⟩
 obtain ⟨w,hw⟩ : ∃ w,w = w0.alloc (.cells cs 46) := ⟨_,rfl⟩
 obtain ⟨b,hbs⟩ : ∃ b,b = w0.heap.size := ⟨_,rfl⟩
 have B0 := hid (show Below w0.heap.size w0 w from hw ▸ below_one _ _)
 have hb : IBox w b x h := by rw [hw,hcs,hbs]; exact World.alloc_heap_new _ _
 have hin : x.In B w h := hin0.below (B0.out.mono hB0)
 have hB : B ≤ w.heap.size := Nat.le_trans hB0 B0.out.size
 have HTR0 : Hid (∀ (e : Ending) (w' : World),TermsPost B x w e w' → TermsPost B x w0 e w') := hid (fun e w' hh => by
  obtain ⟨ao,cp,h1,h2,h3⟩ := hh
  exact ⟨ao,cp,h1,h2.base B0.out.size,B0.out.trans (h3.mono B0.out.size)⟩)
 have HB := hid hb
 have HIN := hid hin
 have HN := hid hn
 have HBB := hid hB
 obtain ⟨i0,hi,hz0,hz1,hz2⟩ := info_parts infoT
 obtain ⟨c3,c4,c5,c6,c7⟩ : w.cell? ⟨b,3,none⟩ = some (.int .u8 x.ty.k) ∧ w.cell? ⟨b,4,none⟩ = some (.int .i64 x.ty.n) ∧ w.cell? ⟨b,5,none⟩ = some (.string x.ty.s) ∧ w.cell? ⟨b,6,none⟩ = some (.slice h.ty.lo x.ty.ls.length h.ty.lc) ∧ w.cell? ⟨b,7,none⟩ = some (.slice h.ty.to x.ty.ts.length h.ty.tc) := t_cells x.ty h.ty hb.ty
 obtain ⟨W1,hW1⟩ : ∃ W1,W1 = w.alloc (.cells (x.ty.vals h.ty) 27) := ⟨_,rfl⟩
 have B1 := hid (show Below w.heap.size w W1 from hW1 ▸ below_one _ _)
 have HT1 := hid (show TRow B w.heap.size W1 [x.ty] 1 (.slice (some ⟨w.heap.size,0,none⟩) 1 1) from hW1 ▸ TRow.one x.ty h.ty hin.ty hB)
 have HPO : Hid (∀ (ao : Option Addr) (cp : Nat) (w' : World) (L : List Tm),L = x.terms → RowB B w.heap.size w' ao L → Below w.heap.size w w' → TermsPost B x w0 (.returned (.slice ao L.length cp)) w') := hid fun ao cp w' L hL hr hbl => HTR0.out _ _ (by subst hL; exact ⟨ao,cp,rfl,hr,hbl⟩)
 have HTE : Hid (∀ v : Bool,v = x.hv → [x.ty] ++ (if v = true then [x.va] else []) ++ x.rules.map Rl.body = x.terms) := hid fun v hv => by rw [hv]; rfl
 have k1 : W1.cell? ⟨b,0,none⟩ = some (.int .u8 x.kind) := (HB.out.keep B1.out).cell 0
 unfold Tm.vals at hW1
 clear hb hin hn hB hin0 hB0
 rw [← hcs]
 have HW := hid hw
 have HBS := hid hbs
 clear hw hcs hbs
 go_enter Tryz.func109,Tryz.ntmps109
 go_upto_region 1 with fail
 rw [← HW.out,← HBS.out]
 clear HW HBS
 go_upto_region 2 with fail
 rw [← hW1]
 clear hW1 c3 c4 c5 c6 c7
 have hs1 := B1.out.size
 obtain ⟨kd,hkd⟩ : ∃ kd,kd = x.kind := ⟨_,rfl⟩
 rw [← hkd] at k1
 by_cases h2 : kd = 2
 ·subst h2
  have HV : Hid (true = x.hv) := hid (by unfold Inf.hv; rw [← hkd]; rfl)
  clear hkd
  obtain ⟨c8,c9,c10,c11,c12⟩ : W1.cell? ⟨b,8,none⟩ = some (.int .u8 x.va.k) ∧ W1.cell? ⟨b,9,none⟩ = some (.int .i64 x.va.n) ∧ W1.cell? ⟨b,10,none⟩ = some (.string x.va.s) ∧ W1.cell? ⟨b,11,none⟩ = some (.slice h.va.lo x.va.ls.length h.va.lc) ∧ W1.cell? ⟨b,12,none⟩ = some (.slice h.va.to x.va.ts.length h.va.tc) := t_cells x.va h.va (HB.out.keep B1.out).va
  have hq1 : Hid (1 + 1 ≤ maxLen) := hid (by unfold maxLen; omega)
  have hq2 : Hid ((1 + 1) * 80 ≤ 140737488355328) := hid (by omega)
  obtain ⟨ps0,hn0,hown0,hmap0,hlie0⟩ := id HT1.out
  have HOWN0 := hid hown0
  have HN0 := hid hn0
  have HMAP0 := hid hmap0
  have HLIE0 := hid hlie0
  clear hn0 hmap0 hlie0 hown0
  go_upto_region 4 with (at_builtin; refine wpList_append_lies _ rfl _ _ _ rfl w.heap.size 27 i0 _ 5 80 Tryz.underlying25 hi hz0 hz1 hz2 rfl (by decide) _ 1 _ rfl (HOWN0.out.alloc _) ⟨W1.heap.size,0,none⟩ 1 1 (x.va.vals h.va).toList rfl rfl (World.news_of_block (cs := x.va.vals h.va) (t := 27) (fr := (0,0)) (World.alloc_heap_new W1 _)) (vals_one5 x.va h.va) Nat.one_pos hq1.out hq2.out (by rw [World.size_alloc]; have := B1.out.size; omega) (W1.heap.size + 1) (World.size_alloc _ _) ?_; intro g3 cap3 W3 hown3 hg3 hat3 hlt3)
  have HT3 := hid (TRow.grow HBB.out HN0.out HOWN0.out HMAP0.out HLIE0.out (Tm.In.below (B1.out.mono HBB.out) _ _ HIN.out.va) (Below.refl _ _) hown3 hg3 B1.out.size)
  have B3 := hid (below_grown B1.out (Below.refl _ _) hg3 HOWN0.out B1.out.size)
  clear hown3 hg3 hat3 hlt3 c8 c9 c10 c11 c12 HOWN0 HN0 HMAP0 HLIE0
  go_upto_region 5 with fail
  clear k1
  go_loopw [3,4] (fun v i wr => TsRel B w x ([x.ty] ++ (if true = true then [x.va] else [])) v i wr) (fun _ i _ => x.rules.length - (intOf i).toNat)
  case atStart => exact ⟨0,_,rfl,by omega,by rw [List.take_zero,List.map_nil,List.append_nil]; exact HT3.out,B3.out⟩
  case round =>
   obtain ⟨k,n,rfl,hk,hrow,hbel⟩ := hrel
   have HNL := hid (hrow.len)
   obtain ⟨ps,hnp,hown,hmap,hlie⟩ := id hrow
   have HTR := hid hrow
   have HOWN := hid hown
   have HMAP := hid hmap
   have HLIE := hid hlie
   have HNP := hid hnp
   have HBEL := hid hbel
   have c22 : wr.cell? ⟨b,22,none⟩ = some (.slice h.ro x.rules.length h.rc) := (HB.out.keep HBEL.out).cell 22
   clear hrow hown hmap hlie hnp hbel HT3
   by_cases hlt : k < x.rules.length
   ·obtain ⟨b2,off,hd,hro,hb2,hrg,hbin⟩ := (HIN.out.rules.below (HBEL.out.mono HBB.out)).place k hlt
    have HST := hid (ts_step x ([x.ty] ++ (if true = true then [x.va] else [])) hlt)
    obtain ⟨r,hre⟩ : ∃ r,r = x.rules[k] := ⟨_,rfl⟩
    rw [← hre] at hrg HST hbin
    have HLT := hid hlt
    have HBI := hid hbin
    obtain ⟨ao6,cp6,hu6⟩ := row_slice HOWN.out
    subst hu6
    rw [hro] at c22
    have d2 : wr.cell? ⟨b2,off + k * 7 + 2,none⟩ = some (.int .u8 r.body.k) := hrg 2 _ rfl
    have d3 : wr.cell? ⟨b2,off + k * 7 + 3,none⟩ = some (.int .i64 r.body.n) := hrg 3 _ rfl
    have d4 : wr.cell? ⟨b2,off + k * 7 + 4,none⟩ = some (.string r.body.s) := hrg 4 _ rfl
    have d5 : wr.cell? ⟨b2,off + k * 7 + 5,none⟩ = some (.slice hd.lo r.body.ls.length hd.lc) := hrg 5 _ rfl
    have d6 : wr.cell? ⟨b2,off + k * 7 + 6,none⟩ = some (.slice hd.to r.body.ts.length hd.tc) := hrg 6 _ rfl
    clear hre hrg hbin
    have hnn : n ≤ 2000 := by have h1 := HNL.out; simp at h1; have := HN.out; omega
    have hq1 : Hid (n + 1 ≤ maxLen) := hid (by unfold maxLen; omega)
    have hq2 : Hid ((n + 1) * 80 ≤ 140737488355328) := hid (by omega)
    clear hnn
    go_wp2_with (at_builtin; refine wpList_append_lies _ rfl _ _ _ rfl w.heap.size 27 i0 _ 5 80 Tryz.underlying25 hi hz0 hz1 hz2 rfl (by decide) _ n _ rfl (HOWN.out.alloc _) ⟨wr.heap.size,0,none⟩ 1 1 (r.body.vals hd).toList rfl rfl (World.news_of_block (cs := r.body.vals hd) (t := 27) (fr := (0,0)) (World.alloc_heap_new wr _)) (vals_one5 r.body hd) Nat.one_pos hq1.out hq2.out (by rw [World.size_alloc]; have := HBEL.out.size; omega) (wr.heap.size + 1) (World.size_alloc _ _) ?_; intro g1 cap1 w6 hown6 hg6 hat6 hlt6)
    have htr6 := TRow.grow HBB.out HNP.out HOWN.out HMAP.out HLIE.out HBI.out (Below.refl _ _) hown6 hg6 HBEL.out.size
    rw [HST.out] at htr6
    have HNX : Hid (∀ z : Int,z = (k : Int) + 1 → TsRel B w x ([x.ty] ++ (if true = true then [x.va] else [])) (.slice (some ⟨g1,0,none⟩) (n + 1) cap1) (.int .i64 z) w6) := hid fun z hz => ⟨k + 1,n + 1,by rw [hz]; rfl,HLT.out,htr6,below_grown HBEL.out (Below.refl _ _) hg6 HOWN.out HBEL.out.size⟩
    have hkb : k < 1000000 := by have := HN.out; have := HLT.out; omega
    have hwk := (wk_two hkb).1
    have hwk2 := (wk_two hkb).2
    clear hkb
    clear hown6 hg6 hat6 hlt6 htr6 d2 d3 d4 d5 d6 c22
    go_wp2_with fail
    go_roundw
    case rel => first | exact HNX.out _ rfl | exact HNX.out _ hwk
    case measure => first | exact less_step rfl HLT.out | exact less_step hwk HLT.out
   ·have hke : k = x.rules.length := by omega
    subst hke
    have htr := HTR.out
    rw [List.take_length] at htr
    obtain ⟨ao',cp',hu,hri⟩ := htr.rowB
    have hpp := HPO.out ao' cp' wr _ (HTE.out _ HV.out) hri HBEL.out
    obtain ⟨m,hm⟩ : ∃ m : Nat,m = (([x.ty] ++ (if true = true then [x.va] else [])) ++ x.rules.map Rl.body).length := ⟨_,rfl⟩
    rw [← hm] at hu hpp
    subst hu
    have HPP := hid hpp
    clear htr hri hm hpp
    go_wp2_with fail
    go_ret
    exact HPP.out
 ·have e2 : (kd == 2) = false := by simpa using h2
  by_cases h3 : kd = 3
  ·subst h3
   have HV : Hid (true = x.hv) := hid (by unfold Inf.hv; rw [← hkd]; rfl)
   clear hkd
   obtain ⟨c8,c9,c10,c11,c12⟩ : W1.cell? ⟨b,8,none⟩ = some (.int .u8 x.va.k) ∧ W1.cell? ⟨b,9,none⟩ = some (.int .i64 x.va.n) ∧ W1.cell? ⟨b,10,none⟩ = some (.string x.va.s) ∧ W1.cell? ⟨b,11,none⟩ = some (.slice h.va.lo x.va.ls.length h.va.lc) ∧ W1.cell? ⟨b,12,none⟩ = some (.slice h.va.to x.va.ts.length h.va.tc) := t_cells x.va h.va (HB.out.keep B1.out).va
   have hq1 : Hid (1 + 1 ≤ maxLen) := hid (by unfold maxLen; omega)
   have hq2 : Hid ((1 + 1) * 80 ≤ 140737488355328) := hid (by omega)
   obtain ⟨ps0,hn0,hown0,hmap0,hlie0⟩ := id HT1.out
   have HOWN0 := hid hown0
   have HN0 := hid hn0
   have HMAP0 := hid hmap0
   have HLIE0 := hid hlie0
   clear hn0 hmap0 hlie0 hown0
   go_upto_region 4 with (at_builtin; refine wpList_append_lies _ rfl _ _ _ rfl w.heap.size 27 i0 _ 5 80 Tryz.underlying25 hi hz0 hz1 hz2 rfl (by decide) _ 1 _ rfl (HOWN0.out.alloc _) ⟨W1.heap.size,0,none⟩ 1 1 (x.va.vals h.va).toList rfl rfl (World.news_of_block (cs := x.va.vals h.va) (t := 27) (fr := (0,0)) (World.alloc_heap_new W1 _)) (vals_one5 x.va h.va) Nat.one_pos hq1.out hq2.out (by rw [World.size_alloc]; have := B1.out.size; omega) (W1.heap.size + 1) (World.size_alloc _ _) ?_; intro g3 cap3 W3 hown3 hg3 hat3 hlt3)
   have HT3 := hid (TRow.grow HBB.out HN0.out HOWN0.out HMAP0.out HLIE0.out (Tm.In.below (B1.out.mono HBB.out) _ _ HIN.out.va) (Below.refl _ _) hown3 hg3 B1.out.size)
   have B3 := hid (below_grown B1.out (Below.refl _ _) hg3 HOWN0.out B1.out.size)
   clear hown3 hg3 hat3 hlt3 c8 c9 c10 c11 c12 HOWN0 HN0 HMAP0 HLIE0
   go_upto_region 5 with fail
   clear k1
   go_loopw [3,4] (fun v i wr => TsRel B w x ([x.ty] ++ (if true = true then [x.va] else [])) v i wr) (fun _ i _ => x.rules.length - (intOf i).toNat)
   case atStart => exact ⟨0,_,rfl,by omega,by rw [List.take_zero,List.map_nil,List.append_nil]; exact HT3.out,B3.out⟩
   case round =>
    obtain ⟨k,n,rfl,hk,hrow,hbel⟩ := hrel
    have HNL := hid (hrow.len)
    obtain ⟨ps,hnp,hown,hmap,hlie⟩ := id hrow
    have HTR := hid hrow
    have HOWN := hid hown
    have HMAP := hid hmap
    have HLIE := hid hlie
    have HNP := hid hnp
    have HBEL := hid hbel
    have c22 : wr.cell? ⟨b,22,none⟩ = some (.slice h.ro x.rules.length h.rc) := (HB.out.keep HBEL.out).cell 22
    clear hrow hown hmap hlie hnp hbel HT3
    by_cases hlt : k < x.rules.length
    ·obtain ⟨b2,off,hd,hro,hb2,hrg,hbin⟩ := (HIN.out.rules.below (HBEL.out.mono HBB.out)).place k hlt
     have HST := hid (ts_step x ([x.ty] ++ (if true = true then [x.va] else [])) hlt)
     obtain ⟨r,hre⟩ : ∃ r,r = x.rules[k] := ⟨_,rfl⟩
     rw [← hre] at hrg HST hbin
     have HLT := hid hlt
     have HBI := hid hbin
     obtain ⟨ao6,cp6,hu6⟩ := row_slice HOWN.out
     subst hu6
     rw [hro] at c22
     have d2 : wr.cell? ⟨b2,off + k * 7 + 2,none⟩ = some (.int .u8 r.body.k) := hrg 2 _ rfl
     have d3 : wr.cell? ⟨b2,off + k * 7 + 3,none⟩ = some (.int .i64 r.body.n) := hrg 3 _ rfl
     have d4 : wr.cell? ⟨b2,off + k * 7 + 4,none⟩ = some (.string r.body.s) := hrg 4 _ rfl
     have d5 : wr.cell? ⟨b2,off + k * 7 + 5,none⟩ = some (.slice hd.lo r.body.ls.length hd.lc) := hrg 5 _ rfl
     have d6 : wr.cell? ⟨b2,off + k * 7 + 6,none⟩ = some (.slice hd.to r.body.ts.length hd.tc) := hrg 6 _ rfl
     clear hre hrg hbin
     have hnn : n ≤ 2000 := by have h1 := HNL.out; simp at h1; have := HN.out; omega
     have hq1 : Hid (n + 1 ≤ maxLen) := hid (by unfold maxLen; omega)
     have hq2 : Hid ((n + 1) * 80 ≤ 140737488355328) := hid (by omega)
     clear hnn
     go_wp2_with (at_builtin; refine wpList_append_lies _ rfl _ _ _ rfl w.heap.size 27 i0 _ 5 80 Tryz.underlying25 hi hz0 hz1 hz2 rfl (by decide) _ n _ rfl (HOWN.out.alloc _) ⟨wr.heap.size,0,none⟩ 1 1 (r.body.vals hd).toList rfl rfl (World.news_of_block (cs := r.body.vals hd) (t := 27) (fr := (0,0)) (World.alloc_heap_new wr _)) (vals_one5 r.body hd) Nat.one_pos hq1.out hq2.out (by rw [World.size_alloc]; have := HBEL.out.size; omega) (wr.heap.size + 1) (World.size_alloc _ _) ?_; intro g1 cap1 w6 hown6 hg6 hat6 hlt6)
     have htr6 := TRow.grow HBB.out HNP.out HOWN.out HMAP.out HLIE.out HBI.out (Below.refl _ _) hown6 hg6 HBEL.out.size
     rw [HST.out] at htr6
     have HNX : Hid (∀ z : Int,z = (k : Int) + 1 → TsRel B w x ([x.ty] ++ (if true = true then [x.va] else [])) (.slice (some ⟨g1,0,none⟩) (n + 1) cap1) (.int .i64 z) w6) := hid fun z hz => ⟨k + 1,n + 1,by rw [hz]; rfl,HLT.out,htr6,below_grown HBEL.out (Below.refl _ _) hg6 HOWN.out HBEL.out.size⟩
     have hkb : k < 1000000 := by have := HN.out; have := HLT.out; omega
     have hwk := (wk_two hkb).1
     have hwk2 := (wk_two hkb).2
     clear hkb
     clear hown6 hg6 hat6 hlt6 htr6 d2 d3 d4 d5 d6 c22
     go_wp2_with fail
     go_roundw
     case rel => first | exact HNX.out _ rfl | exact HNX.out _ hwk
     case measure => first | exact less_step rfl HLT.out | exact less_step hwk HLT.out
    ·have hke : k = x.rules.length := by omega
     subst hke
     have htr := HTR.out
     rw [List.take_length] at htr
     obtain ⟨ao',cp',hu,hri⟩ := htr.rowB
     have hpp := HPO.out ao' cp' wr _ (HTE.out _ HV.out) hri HBEL.out
     obtain ⟨m,hm⟩ : ∃ m : Nat,m = (([x.ty] ++ (if true = true then [x.va] else [])) ++ x.rules.map Rl.body).length := ⟨_,rfl⟩
     rw [← hm] at hu hpp
     subst hu
     have HPP := hid hpp
     clear htr hri hm hpp
     go_wp2_with fail
     go_ret
     exact HPP.out
  ·have e3 : (kd == 3) = false := by simpa using h3
   have HV : Hid (false = x.hv) := hid (by unfold Inf.hv; rw [← hkd,decide_eq_false h2,decide_eq_false h3]; rfl)
   have B3 := B1
   have HT3 := HT1
   obtain ⟨W3,hW3⟩ : ∃ x : World,x = W1 := ⟨_,rfl⟩
   subst hW3
   clear hkd h2 h3
   go_upto_region 5 with fail
   clear k1
   go_loopw [3,4] (fun v i wr => TsRel B w x ([x.ty] ++ (if false = true then [x.va] else [])) v i wr) (fun _ i _ => x.rules.length - (intOf i).toNat)
   case atStart => exact ⟨0,_,rfl,by omega,by rw [List.take_zero,List.map_nil,List.append_nil]; exact HT3.out,B3.out⟩
   case round =>
    obtain ⟨k,n,rfl,hk,hrow,hbel⟩ := hrel
    have HNL := hid (hrow.len)
    obtain ⟨ps,hnp,hown,hmap,hlie⟩ := id hrow
    have HTR := hid hrow
    have HOWN := hid hown
    have HMAP := hid hmap
    have HLIE := hid hlie
    have HNP := hid hnp
    have HBEL := hid hbel
    have c22 : wr.cell? ⟨b,22,none⟩ = some (.slice h.ro x.rules.length h.rc) := (HB.out.keep HBEL.out).cell 22
    clear hrow hown hmap hlie hnp hbel HT3
    by_cases hlt : k < x.rules.length
    ·obtain ⟨b2,off,hd,hro,hb2,hrg,hbin⟩ := (HIN.out.rules.below (HBEL.out.mono HBB.out)).place k hlt
     have HST := hid (ts_step x ([x.ty] ++ (if false = true then [x.va] else [])) hlt)
     obtain ⟨r,hre⟩ : ∃ r,r = x.rules[k] := ⟨_,rfl⟩
     rw [← hre] at hrg HST hbin
     have HLT := hid hlt
     have HBI := hid hbin
     obtain ⟨ao6,cp6,hu6⟩ := row_slice HOWN.out
     subst hu6
     rw [hro] at c22
     have d2 : wr.cell? ⟨b2,off + k * 7 + 2,none⟩ = some (.int .u8 r.body.k) := hrg 2 _ rfl
     have d3 : wr.cell? ⟨b2,off + k * 7 + 3,none⟩ = some (.int .i64 r.body.n) := hrg 3 _ rfl
     have d4 : wr.cell? ⟨b2,off + k * 7 + 4,none⟩ = some (.string r.body.s) := hrg 4 _ rfl
     have d5 : wr.cell? ⟨b2,off + k * 7 + 5,none⟩ = some (.slice hd.lo r.body.ls.length hd.lc) := hrg 5 _ rfl
     have d6 : wr.cell? ⟨b2,off + k * 7 + 6,none⟩ = some (.slice hd.to r.body.ts.length hd.tc) := hrg 6 _ rfl
     clear hre hrg hbin
     have hnn : n ≤ 2000 := by have h1 := HNL.out; simp at h1; have := HN.out; omega
     have hq1 : Hid (n + 1 ≤ maxLen) := hid (by unfold maxLen; omega)
     have hq2 : Hid ((n + 1) * 80 ≤ 140737488355328) := hid (by omega)
     clear hnn
     go_wp2_with (at_builtin; refine wpList_append_lies _ rfl _ _ _ rfl w.heap.size 27 i0 _ 5 80 Tryz.underlying25 hi hz0 hz1 hz2 rfl (by decide) _ n _ rfl (HOWN.out.alloc _) ⟨wr.heap.size,0,none⟩ 1 1 (r.body.vals hd).toList rfl rfl (World.news_of_block (cs := r.body.vals hd) (t := 27) (fr := (0,0)) (World.alloc_heap_new wr _)) (vals_one5 r.body hd) Nat.one_pos hq1.out hq2.out (by rw [World.size_alloc]; have := HBEL.out.size; omega) (wr.heap.size + 1) (World.size_alloc _ _) ?_; intro g1 cap1 w6 hown6 hg6 hat6 hlt6)
     have htr6 := TRow.grow HBB.out HNP.out HOWN.out HMAP.out HLIE.out HBI.out (Below.refl _ _) hown6 hg6 HBEL.out.size
     rw [HST.out] at htr6
     have HNX : Hid (∀ z : Int,z = (k : Int) + 1 → TsRel B w x ([x.ty] ++ (if false = true then [x.va] else [])) (.slice (some ⟨g1,0,none⟩) (n + 1) cap1) (.int .i64 z) w6) := hid fun z hz => ⟨k + 1,n + 1,by rw [hz]; rfl,HLT.out,htr6,below_grown HBEL.out (Below.refl _ _) hg6 HOWN.out HBEL.out.size⟩
     have hkb : k < 1000000 := by have := HN.out; have := HLT.out; omega
     have hwk := (wk_two hkb).1
     have hwk2 := (wk_two hkb).2
     clear hkb
     clear hown6 hg6 hat6 hlt6 htr6 d2 d3 d4 d5 d6 c22
     go_wp2_with fail
     go_roundw
     case rel => first | exact HNX.out _ rfl | exact HNX.out _ hwk
     case measure => first | exact less_step rfl HLT.out | exact less_step hwk HLT.out
    ·have hke : k = x.rules.length := by omega
     subst hke
     have htr := HTR.out
     rw [List.take_length] at htr
     obtain ⟨ao',cp',hu,hri⟩ := htr.rowB
     have hpp := HPO.out ao' cp' wr _ (HTE.out _ HV.out) hri HBEL.out
     obtain ⟨m,hm⟩ : ∃ m : Nat,m = (([x.ty] ++ (if false = true then [x.va] else [])) ++ x.rules.map Rl.body).length := ⟨_,rfl⟩
     rw [← hm] at hu hpp
     subst hu
     have HPP := hid hpp
     clear htr hri hm hpp
     go_wp2_with fail
     go_ret
     exact HPP.out
namespace Env
def Ix7 (w : World) (ns : List Int) (i : Value) (wr : World) : Prop := ∃ k : Nat,i = .int .i64 k ∧ k ≤ ns.length ∧ (∀ j (h : j < ns.length),j < k → numOk ns[j] = true) ∧ w = wr
end Env
theorem numbers7_any {w0 : World} {x : Inf} {h : IHd} (hr0 : RRow w0.heap.size w0 h.ro x.rules) (hn : x.rules.length ≤ 1000) : Calls Tryz.prog 108 #[.agg (x.vals h).toArray] w0 fun e w' => e = .returned (.bool x.nums) ∧ Below w0.heap.size w0 w' := by
 obtain ⟨cs,hcs⟩ : ∃ cs,cs = (x.vals h).toArray := ⟨_,rfl⟩
 obtain ⟨w,hw⟩ : ∃ w,w = w0.alloc (.cells cs 46) := ⟨_,rfl⟩
 obtain ⟨b,hbs⟩ : ∃ b,b = w0.heap.size := ⟨_,rfl⟩
 have B0 := hid (show Below w0.heap.size w0 w from hw ▸ below_one _ _)
 have hb : IBox w b x h := by rw [hw,hcs,hbs]; exact World.alloc_heap_new _ _
 have hr : RRow w.heap.size w h.ro x.rules := (hr0.below B0.out).mono B0.out.size
 have HB := hid hb
 have HR := hid hr
 have HN := hid hn
 have c16 : w.cell? ⟨b,16,none⟩ = some (.int .i64 x.fixed) := hb.cell 16
 have c17 : w.cell? ⟨b,17,none⟩ = some (.int .i64 x.index) := hb.cell 17
 have c18 : w.cell? ⟨b,18,none⟩ = some (.int .i64 x.no) := hb.cell 18
 have c19 : w.cell? ⟨b,19,none⟩ = some (.int .i64 x.fields) := hb.cell 19
 have c20 : w.cell? ⟨b,20,none⟩ = some (.int .i64 x.motives) := hb.cell 20
 have c21 : w.cell? ⟨b,21,none⟩ = some (.int .i64 x.minors) := hb.cell 21
 have c23 : w.cell? ⟨b,23,none⟩ = some (.int .i64 x.ctors) := hb.cell 23
 have HROW0 := hid (fun (W : World) (hW : w.heap.size ≤ W.heap.size) => World.ownsRow_lit (base := w.heap.size) (e := 3) (size := 1) W #[.int .i64 x.fixed,.int .i64 x.index,.int .i64 x.no,.int .i64 x.fields,.int .i64 x.motives,.int .i64 x.minors,.int .i64 x.ctors] 7 hW (by decide) rfl)
 obtain ⟨i0,hi,hz0,hz1,hz2⟩ := info_parts infoInt
 obtain ⟨G,hG⟩ : ∃ G,G = x.nums := ⟨_,rfl⟩
 rw [← hG]
 have HG := hid hG
 clear hb hr hn hG hr0
 rw [← hcs]
 have HW := hid hw
 have HBS := hid hbs
 clear hw hcs hbs
 go_enter Tryz.func108,Tryz.ntmps108
 go_upto_region 1 with fail
 rw [← HW.out,← HBS.out]
 clear HW HBS
 go_upto_region 2 with fail
 obtain ⟨W1,hW1⟩ : ∃ W1,W1 = w.alloc (.cells #[.int .i64 x.fixed,.int .i64 x.index,.int .i64 x.no,.int .i64 x.fields,.int .i64 x.motives,.int .i64 x.minors,.int .i64 x.ctors] 3) := ⟨_,rfl⟩
 have B1 := hid (show Below w.heap.size w W1 from hW1 ▸ below_one w _)
 have HW1 : Hid (NsRel w x (.slice (some ⟨w.heap.size,0,none⟩) 7 7) (.int .i64 (0 : Nat)) W1) := hid ⟨0,7,rfl,rfl,by omega,by rw [hW1]; exact HROW0.out w (Nat.le_refl _),B1.out⟩
 rw [← hW1]
 clear hW1 HROW0 c16 c17 c18 c19 c20 c21 c23
 go_upto_region 3 with fail
 go_loopw [3,4] (fun v i wr => NsRel w x v i wr) (fun _ i _ => x.rules.length - (intOf i).toNat)
 case atStart => exact HW1.out
 case round =>
  obtain ⟨k,n,rfl,hnk,hk,hrow,hbel⟩ := hrel
  have HNK := hid hnk
  have HROW := hid hrow
  have HBEL := hid hbel
  have c22 : wr.cell? ⟨b,22,none⟩ = some (.slice h.ro x.rules.length h.rc) := (HB.out.keep HBEL.out).cell 22
  clear hrow hbel HW1 hnk
  by_cases hlt : k < x.rules.length
  ·obtain ⟨b2,off,hd,hro,hb2,hrg,_⟩ := (HR.out.below HBEL.out).place k hlt
   have HST := hid (ns_step x hlt)
   obtain ⟨r,hre⟩ : ∃ r,r = x.rules[k] := ⟨_,rfl⟩
   rw [← hre] at hrg HST
   have HLT := hid hlt
   obtain ⟨ao6,cp6,hu6⟩ := row_slice HROW.out
   subst hu6
   rw [hro] at c22
   have d1 : wr.cell? ⟨b2,off + k * 7 + 1,none⟩ = some (.int .i64 r.fields) := hrg 1 _ rfl
   clear hre hrg
   have hq1 : Hid (n + 1 ≤ maxLen) := hid (by unfold maxLen; have := HN.out; have := HNK.out; omega)
   have hq2 : Hid ((n + 1) * 8 ≤ 140737488355328) := hid (by have := HN.out; have := HNK.out; omega)
   go_wp2_with (at_builtin; refine wpList_append_lies _ rfl _ _ _ rfl w.heap.size 3 i0 _ 1 8 Tryz.underlying186 hi hz0 hz1 hz2 rfl (by decide) _ n _ rfl (HROW.out.alloc _) ⟨wr.heap.size,0,none⟩ 1 1 [.int .i64 r.fields] rfl rfl (World.news_of_block (cs := #[.int .i64 r.fields]) (t := 3) (fr := (0,0)) (World.alloc_heap_new wr _)) (by simp [Value.oneCell']) Nat.one_pos hq1.out hq2.out (by rw [World.size_alloc]; have := HBEL.out.size; omega) (wr.heap.size + 1) (World.size_alloc _ _) ?_; intro g1 cap1 w6 hown6 hg6 hat6 hlt6)
   rw [HST.out] at hown6
   have HNX : Hid (∀ z : Int,z = ((k + 1 : Nat) : Int) → NsRel w x (.slice (some ⟨g1,0,none⟩) (n + 1) cap1) (.int .i64 z) w6) := hid fun z hz => ⟨k + 1,n + 1,by rw [hz],by have := HNK.out; omega,HLT.out,hown6,below_grown HBEL.out (Below.refl _ _) hg6 HROW.out HBEL.out.size⟩
   have hkb : k < 1000000 := by have := HN.out; have := HLT.out; omega
   have hwk := (wk_two hkb).1
   have hwk2 := (wk_two hkb).2
   clear hkb
   clear hown6 hg6 hat6 hlt6 d1 c22
   go_wp2_with fail
   go_roundw
   case rel => first | exact HNX.out _ rfl | exact HNX.out _ (by go_num)
   case measure => first | exact less_step rfl HLT.out | exact less_step hwk HLT.out
  ·have hke : k = x.rules.length := by omega
   subst hke
   have hrow := HROW.out
   rw [List.take_length] at hrow
   have hns : (first7 x ++ x.rules.map Rl.fields) = x.ns := rfl
   rw [hns] at hrow
   obtain ⟨ao',cp',hu,hzr⟩ := zrow_of (by unfold Inf.ns; simp; have := HNK.out; omega) hrow
   subst hu
   have HZR := hid hzr
   have HLEN : Hid (x.ns.length ≤ 1000000) := hid (by unfold Inf.ns; simp; have := HN.out; omega)
   have HBF := hid (show Below w0.heap.size w0 wr from B0.out.trans (HBEL.out.mono B0.out.size))
   obtain ⟨ns,hnsx⟩ : ∃ q,q = x.ns := ⟨_,rfl⟩
   have HG2 : Hid (G = ns.all numOk) := hid (by rw [HG.out,nums7,hnsx])
   rw [← hnsx] at HZR HLEN ⊢
   clear hrow hns hzr HG hnsx
   go_upto_region 7 with fail
   clear c22
   go_loopw [5] (fun i wr' => Ix7 wr ns i wr') (fun i _ => ns.length - (intOf i).toNat)
   case atStart => exact ⟨0,rfl,by omega,fun j _ hj => by omega,rfl⟩
   case round =>
    obtain ⟨k,rfl,hk,hall,rfl⟩ := hrel
    have HALL := hid hall
    clear hall
    by_cases hlt : k < ns.length
    ·obtain ⟨b,off,hao,hc⟩ := HZR.out.place k hlt
     subst hao
     have hwk : wrap64 ((k : Int) + 1) = (k : Int) + 1 := IntWalk.wrap64_in _ (by have := HLEN.out; omega)
     have hwk2 : IntKind.i64.wrap ((k : Int) + 1) = (k : Int) + 1 := IntWalk.i64_in _ (by have := HLEN.out; omega)
     have HNO : Hid (numOk ns[k] = false → false = G) := hid (fun h => by
      rw [HG2.out,eq_comm,List.all_eq_false]
      exact ⟨_,List.getElem_mem hlt,by rw [h]; simp⟩)
     have HYE : Hid (numOk ns[k] = true → ∀ j (h : j < ns.length),j < k + 1 → numOk ns[j] = true) := hid (fun h j hj hjk => by
      by_cases e : j = k
      ·subst e; exact h
      ·exact HALL.out j hj (by omega))
     generalize ns[k] = y at hc HNO HYE
     have HLT := hid hlt
     by_cases h1 : y < 0
     ·have HE := hid (HNO.out (by unfold numOk; simp [h1]))
      go_wp2_with fail
      go_ret
      exact ⟨ret_bool HE.out,HBF.out⟩
     ·by_cases h2 : 1000 < y
      ·have HE := hid (HNO.out (by unfold numOk; simp [h2]))
       go_wp2_with fail
       go_ret
       exact ⟨ret_bool HE.out,HBF.out⟩
      ·have HE := hid (HYE.out (by unfold numOk; simp [h1,h2]))
       have h1b : 0 ≤ y := by omega
       have h2b : y ≤ 1000 := by omega
       go_wp2_with fail
       go_roundw
       case rel => exact ⟨k + 1,by first | rfl | (rw [hwk]; rfl),HLT.out,HE.out,rfl⟩
       case measure => first | exact less_step rfl HLT.out | exact less_step hwk HLT.out
    ·have HE : Hid (true = G) := hid (by
      rw [HG2.out,eq_comm,List.all_eq_true]
      intro x hx
      obtain ⟨j,hj,rfl⟩ := List.getElem_of_mem hx
      exact HALL.out j hj (by omega))
     go_wp2_with fail
     go_ret
     exact ⟨ret_bool HE.out,HBF.out⟩
end Go.Proofs.YtiekbhlnnmnklaaGreat
namespace Go.Proofs.YtiekbhlnnmnklaaGreat
open Go.RowKit Go.Shelf Lvl Trm
def Trm.Tm.free (t : Tm) : Int := if t.may = true then (t.vs 0).foldl (fun n v => max n (v + 1)) 0 else 0
def Trm.Tm.has (t : Tm) (k : Int) : Bool := t.may && (t.vs 0).any (· == k)
theorem vars_free (n : Int) (t : Tm) (h : Hd) (B m : Nat) (w : World) (hin : t.In B w h) (hB : B ≤ m) (hm : w.heap[m]? = some (.cells #[.int .i64 n] 3)) :
 Calls Tryz.prog 210 #[t.val h,.func (.func 211) #[] #[.pointer (some ⟨m,0,none⟩)]] w fun e w' => e = .returned (.tuple #[]) ∧ w'.heap[m]? = some (.cells #[.int .i64 (if t.may = true then (t.vs 0).foldl (fun n v => max n (v + 1)) n else n)] 3) ∧ Ran m w w' := by
 have hml := (Array.getElem?_eq_some_iff.1 hm).1
 have HMAY := hid (fun (W : World) (hW : Below w.heap.size w W) => PMay_any t h W (Tm.In.mono (by have := hW.size; omega) _ _ (Tm.In.below (hW.mono (by omega)) _ _ hin)))
 have HW := hid (fun (hmay : t.may = true) (W : World) (h1 : Below w.heap.size w W) (h0 : W.heap[w.heap.size]? = some (t.box h)) (h2 : W.heap[w.heap.size + 1]? = some (.cells #[.func (.func 211) #[] #[.pointer (some ⟨m,0,none⟩)]] 188)) =>
  walk_any (sees_free hB (C := w.heap.size + 1) (by omega)) t n w.heap.size 0 W trivial ⟨Lvl.keep h1 hm,h2⟩ (OkMay.start hmay) ⟨by omega,(Array.getElem?_eq_some_iff.1 h0).1,h,Tm.cells h0,Tm.In.below (h1.mono (by omega)) _ _ hin⟩ (by have := h1.size; omega) (by have := h1.size; omega))
 simp only [Tm.walk_free] at HW
 have HM := hid hm
 clear hin hm
 unfold Tm.box at HW
 unfold Tm.val at HMAY ⊢
 dsimp only [Tm.vals] at HMAY HW ⊢
 cases hmay : t.may
 ·rw [hmay] at HMAY HW
  simp only [Bool.false_eq_true,if_false]
  clear HW hmay
  go_enter Tryz.func210,Tryz.ntmps210
  go_wp2_with fail
  refine (HMAY.out _ (below_two w _ _)).mono ?_
  rintro e w1 ⟨rfl,b1⟩
  have HB := hid ((below_two w _ _).trans (b1.mono (by simp; omega)))
  clear b1
  go_wp2_with fail
  refine bodyPost_ret (results_none rfl _ _ _) rfl ?_
  exact ⟨rfl,Lvl.keep HB.out HM.out,Ran.of_below HB.out⟩
 ·rw [hmay] at HMAY
  have HW' := hid (HW.out hmay)
  simp only [if_true]
  clear hmay HW
  generalize (t.vs 0).foldl (fun n v => max n (v + 1)) n = R at HW' ⊢
  go_enter Tryz.func210,Tryz.ntmps210
  go_wp2_with fail
  refine (HMAY.out _ (below_two w _ _)).mono ?_
  rintro e w1 ⟨rfl,b1⟩
  have HB := hid ((below_two w _ _).trans (b1.mono (by simp; omega)))
  have HX := hid (HW'.out w1 HB.out (Lvl.keep b1 (new1of2 w _ _)) (Lvl.keep b1 (new2 w _ _)))
  have hc0 := (Tm.cells (t := t) (h := h) (Lvl.keep b1 (new1of2 w _ _)))
  clear b1
  go_wp2_with fail
  refine HX.out.mono ?_
  rintro e w2 ⟨rfl,i2,g2⟩
  have HI := hid i2.1
  have HR := hid ((Ran.of_below HB.out).trans g2)
  clear i2 g2
  go_wp2_with fail
  go_end0
  exact ⟨rfl,HI.out,HR.out⟩
theorem PFree_any (t : Tm) (h : Hd) (w : World) (hin : t.In w.heap.size w h) :
 Calls Tryz.prog 189 #[t.val h] w fun e w' => e = .returned (.int .i64 t.free) ∧ Below w.heap.size w w' := by
 have HX := hid (vars_free 0 t h w.heap.size (w.heap.size + 1) ((w.alloc (t.box h)).alloc (.cells #[.int .i64 0] 3)) (Tm.In.below (below_two w _ _) _ _ hin) (by omega) (new2 _ _ _))
 unfold Tm.free
 generalize (if t.may = true then (t.vs 0).foldl (fun n v => max n (v + 1)) 0 else 0) = R at HX ⊢
 clear hin
 unfold Tm.box at HX
 unfold Tm.val at HX ⊢
 dsimp only [Tm.vals] at HX ⊢
 go_enter Tryz.func189,Tryz.ntmps189
 go_wp2_with fail
 refine HX.out.mono ?_
 rintro e w1 ⟨rfl,i1,g1⟩
 have HB := hid ((below_two w _ _).trans (g1.below (B := w.heap.size) (by omega) (by simp; omega)))
 have hc := one_cell i1
 clear i1 g1
 go_wp2_with fail
 go_ret
 exact ⟨rfl,HB.out⟩
end Go.Proofs.YtiekbhlnnmnklaaGreat
namespace Go.Proofs.YtiekbhlnnmnklaaGreat
open Lvl Trm
namespace Trm
def top (l : List Int) : Int := l.foldl (fun n v => max n (v + 1)) 0
theorem fold_ge (l : List Int) : ∀ n : Int,n ≤ l.foldl (fun n v => max n (v + 1)) n ∧ ∀ v ∈ l,v < l.foldl (fun n v => max n (v + 1)) n := by
 induction l with
 | nil => intro n; exact ⟨Int.le_refl _,fun v hv => by cases hv⟩
 | cons a r ih =>
   intro n
   obtain ⟨h1,h2⟩ := ih (max n (a + 1))
   refine ⟨by simp only [List.foldl_cons]; omega,fun v hv => ?_⟩
   simp only [List.foldl_cons]
   rcases List.mem_cons.1 hv with rfl | hr
   ·omega
   ·exact h2 v hr
theorem top_ge (l : List Int) : 0 ≤ top l := (fold_ge l 0).1
end Trm
end Go.Proofs.YtiekbhlnnmnklaaGreat
namespace Go.Proofs.YtiekbhlnnmnklaaGreat
open Lvl Trm
namespace Trm
mutual
def Tm.put (g : Int → Int → Tm) : Tm → Int → Tm
 | .mk k n s ls ts,u => if k = 2 ∧ u ≤ n then g (n - u) u else .mk k n s ls (putL g k ts 0 u)
def putL (g : Int → Int → Tm) (k : Int) : List Tm → Nat → Int → List Tm
 | [],_,_ => []
 | t :: r,i,u => t.put g (under k i u) :: putL g k r (i + 1) (under k i u)
end
theorem node_var {t : Tm} (h : t.node = true) (hk : t.k = 2) : t = tV t.n := by
 unfold Tm.node at h
 simp only [hk,Bool.and_eq_true,decide_eq_true_eq] at h
 obtain ⟨⟨⟨⟨⟨_,hl⟩,_⟩,hs⟩,hn⟩,hv⟩ := h
 simp [kids] at hl hs hn hv
 obtain ⟨k,n,s,ls,ts⟩ := t
 simp only [Tm.k,Tm.ts,Tm.s,Tm.n,Tm.ls] at hk hl hs hn hv ⊢
 subst hk hl hv
 have hs' : s = no := by
  first
   | exact hs
   | (cases s with
      | mk d => simp [ByteArray.size] at hs; subst hs; rfl)
 rw [hs']; rfl
theorem under_le (k : Int) (i : Nat) (u : Int) : u ≤ under k i u ∧ under k i u ≤ u + 1 := by unfold under; split <;> omega
def ren (r : Int → Int) : Int → Int → Tm := fun v u => tV (r v + u)
end Trm
end Go.Proofs.YtiekbhlnnmnklaaGreat
