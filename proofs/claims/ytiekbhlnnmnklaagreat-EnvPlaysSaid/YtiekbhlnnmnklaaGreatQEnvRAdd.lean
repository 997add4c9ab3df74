/-
 battenref07.Add: infos are looked at,one behind the other,and then added.
-/
import Derived.Lib.Hide
import Derived.Test.YtiekbhlnnmnklaaGreatQB1
import Derived.Test.YtiekbhlnnmnklaaGreatQEnvRAddM
import Derived.Test.YtiekbhlnnmnklaaGreatQEnvRHgt
open Go.Lib (hid)
set_option maxRecDepth 100000
set_option maxHeartbeats 32000000
namespace Go.Proofs.YtiekbhlnnmnklaaGreat
open Go.RowKit Go.Shelf Go.Maps Lvl Trm Env
theorem step_bslice7 {P : Program} {ops : Array Oper} {o : Oper} {a : Act} {w : World} {K : Act → World → Prop} {Q : Exit → Act → World → Prop} {E : Prop} (hw : Region.wanted o (yielded ops a.tmps) = true) (t e : TypeId) (len : Nat) (parts : Array (Nat × Operand)) (ho : o.op = .buildSlice t len parts) (dst : Option Tmp) (hdst : o.dst = dst)
 (cells : Array Value) (hu : P.underlying t = some (.slice e)) (hf : P.builtSlice e len (parts.map fun (i,x) => (i,a.eval x)).toList = some cells)
 (h : K (a.put dst (.slice (some ⟨w.heap.size,0,none⟩) len len)) (w.alloc (.cells cells e))) : if Region.wanted o (yielded ops a.tmps) = true then Oper.wp P o a w K Q else E := by
 rw [if_pos hw]
 exact wp_bslice t e len parts ho dst hdst cells hu hf h
namespace Env
def Add7 (P : Nat → Prop) (B : Nat) (r : Nat) (v : Value) (ps : List (Inf × IHd)) (w : World) (l : List Inf) (y : Ending) (W : World) : Prop :=
 y = .returned (.int .i64 (addA (entI (infR ps)) l)) ∧ ∃ v' ps' P',REnv P' B W r v' ps' ∧ infR ps' = (if addA (entI (infR ps)) l = 0 then addL (infR ps) l else infR ps) ∧ RanS (ownR r v) w W ∧ (∀ q,ownR r v' q → ownR r v q ∨ w.heap.size ≤ q) ∧ (∀ q,P' q → P q ∨ w.heap.size ≤ q) ∧ (∀ q,P q → P' q)
theorem REnv.stay {P : Nat → Prop} {B : Nat} {w W : World} {r : Nat} {v : Value} {ps : List (Inf × IHd)} {l : List Inf} {z : Int} (h : REnv P B w r v ps) (hz : z = addA (entI (infR ps)) l) (hne : z ≠ 0) (b : Below w.heap.size w W) : Add7 P B r v ps w l (.returned (.int .i64 z)) W :=
 ⟨by rw [hz],v,ps,P,h.below b,by rw [if_neg (by rw [← hz]; exact hne)],RanS.of_below b,fun _ a => Or.inl a,fun _ a => Or.inl a,fun _ a => a⟩
def A1Rel (w : World) (M : List Ent) (l : List Inf) (i : Value) (wr : World) : Prop := ∃ k : Nat,i = .int .i64 k ∧ k ≤ l.length ∧ (∀ j (h : j < l.length),j < k → wrongIB M (names l) j l[j] = 0) ∧ Below w.heap.size w wr
def A2Rel (P : Nat → Prop) (B : Nat) (r : Nat) (v : Value) (L : List Inf) (w : World) (l : List Inf) (i : Value) (wr : World) : Prop := ∃ (k : Nat) (v' : Value) (ps' : List (Inf × IHd)) (P' : Nat → Prop),i = .int .i64 k ∧ k ≤ l.length ∧ REnv P' B wr r v' ps' ∧ infR ps' = addL L (l.take k) ∧ RanS (ownR r v) w wr ∧ (∀ q,ownR r v' q → ownR r v q ∨ w.heap.size ≤ q) ∧ (∀ q,P' q → P q ∨ w.heap.size ≤ q) ∧ (∀ q,P q → P' q)
theorem A2Rel.next {P P' : Nat → Prop} {B : Nat} {r : Nat} {v v' v2 : Value} {L : List Inf} {w wr W : World} {l : List Inf} {ps' : List (Inf × IHd)} {k : Nat} {y : Inf} {h3 : IHd} (hk : k < l.length) (hl : infR ps' = addL L (l.take k)) (hy : y = fixI (entI (infR ps')) l[k]) (hr : RanS (ownR r v) w wr) (ho : ∀ q,ownR r v' q → ownR r v q ∨ w.heap.size ≤ q) (hP : ∀ q,P' q → P q ∨ w.heap.size ≤ q) (hw : ∀ q,P q → P' q)
 (h : RPush P' B wr r v' ps' y h3 v2 W) : A2Rel P B r v L w l (.int .i64 ((k : Int) + 1)) W := by
 obtain ⟨P3,h1,h2,h4,h5,h6⟩ := h
 refine ⟨k + 1,v2,_,P3,rfl,hk,h1,?_,ran_goE hr h2 ho,fun q hq => ?_,fun q hq => ?_,fun q hq => h6 q (hw q hq)⟩
 ·rw [infR_snoc,addL_take L hk,← hl,hy]
 ·rcases h4 q hq with a | a
  ·exact ho q a
  ·exact Or.inr (Nat.le_trans hr.size a)
 ·rcases h5 q hq with a | a
  ·exact hP q a
  ·exact Or.inr (Nat.le_trans hr.size a)
end Env
theorem add7_any {P : Nat → Prop} {B : Nat} {w : World} {r : Nat} {v : Value} {ps : List (Inf × IHd)} (h : REnv P B w r v ps) (l : List Inf) (lo : Option Addr) (lc : Nat) (hr : InfFirm P w lo l) (hlc : l.length ≤ lc) (hl : l.length ≤ 1000) (hrs : ∀ x ∈ l,x.rules.length ≤ 1000) :
 Calls Tryz.prog 21 #[.pointer (some ⟨r,0,none⟩),.slice lo l.length lc] w (Add7 P B r v ps w l) := by
 have HENV := hid h
 have HFI := hid hr
 have HRS := hid hrs
 have HLC : Hid (l.length ≤ lc ∧ l.length ≤ 1000) := hid ⟨hlc,hl⟩
 have HRL : Hid ((infR ps).length = ps.length ∧ (entI (infR ps)).length = ps.length) := hid ⟨by unfold infR; simp,by rw [entI_len]; unfold infR; simp⟩
 obtain ⟨av,cv,hv⟩ := h.inr.form
 have HV := hid hv
 have hb := h.box
 rw [hv] at hb
 have cr : w.cell? ⟨r,0,none⟩ = some (.slice av ps.length cv) := by simp [World.cell?,hb]
 have HCR := hid cr
 have HPF := hid h.few
 have HRLT : Hid (r < w.heap.size) := hid (h.lt r h.own)
 obtain ⟨Q,hQ⟩ : ∃ Q,Q = Add7 P B r v ps w l := ⟨_,rfl⟩
 rw [← hQ]
 have HQQ := hid hQ
 have hs1 : IntKind.i64.wrap ((ps.length : Int) + (l.length : Int)) = (ps.length : Int) + (l.length : Int) := IntWalk.i64_in _ (by have := h.few; omega)
 have hs2 : wrap64 ((ps.length : Int) + (l.length : Int)) = (ps.length : Int) + (l.length : Int) := IntWalk.wrap64_in _ (by have := h.few; omega)
 clear h hr hrs hlc hl hv hb hQ
 have HKR : ∀ {x : Inf} {h : IHd},Hid ((Tryz.prog.info? 46).map (·.size) = some (x.vals h).toArray.size) := fun {x h} => hid infoInf
 have HKL : ∀ {x : Inf} {h : IHd},Hid ((Tryz.prog.info? 46).map (·.size) = some (x.vals h).length) := fun {x h} => hid infoInf
 have HKZ : Hid (∀ (x : Inf) (h : IHd),Inf.zeros.size = (x.vals h).toArray.size) := hid (fun _ _ => rfl)
 have HKO : Hid (∀ (x : Inf) (h : IHd),(x.vals h).toArray.all (·.oneCell') = true) := hid (fun x h => vals_one x h)
 have HKS : Hid (∀ (x : Inf) (h : IHd),∀ u ∈ x.vals h,u.oneCell' = true) := hid (fun x h u hu => by have := vals_one x h; rw [List.all_toArray,List.all_eq_true] at this; exact this u hu)
 go_enter Tryz.func21,Tryz.ntmps21
 by_cases hmany : 4096 < ps.length + l.length
 ·have hd : decide ((4096 : Int) < (ps.length : Int) + (l.length : Int)) = true := decide_eq_true (by omega)
  have HE := hid (HENV.out.stay (l := l) (z := 4) (W := w) (by unfold addA; rw [HRL.out.2,if_pos hmany]) (by decide) (Below.refl _ _))
  rw [← HQQ.out] at HE
  clear hmany
  go_wp2_with fail
  exact HE.out
 ·have hd : decide ((4096 : Int) < (ps.length : Int) + (l.length : Int)) = false := decide_eq_false (by omega)
  have HFEW : Hid (ps.length + l.length ≤ 4096) := hid (by omega)
  have HAW : Hid (addA (entI (infR ps)) l = wrongLB (entI (infR ps)) l) := hid (by unfold addA; rw [HRL.out.2,if_neg hmany,wrongL_is])
  clear hmany
  go_upto_region 4 with fail
  clear hs1 hs2 hd
  go_loopw [5] (fun i wr => A1Rel w (entI (infR ps)) l i wr) (fun i _ => l.length - (intOf i).toNat)
  case atStart => exact ⟨0,rfl,by omega,fun j _ hj => by omega,Below.refl _ _⟩
  case round =>
   obtain ⟨k,rfl,hk,hall,hbel⟩ := hrel
   have HALL := hid hall
   have HBEL := hid hbel
   clear hall hbel
   by_cases hlt : k < l.length
   ·have HCK := hid (check7_any (M := entI (infR ps)) (infs_entI _) (HENV.out.ctx.below HBEL.out) (HFI.out.here.carry HBEL.out) HLC.out.1 HLC.out.2 hlt (HRS.out _ (List.getElem_mem hlt)))
    have HNO : Hid (wrongIB (entI (infR ps)) (names l) k l[k] ≠ 0 → wrongIB (entI (infR ps)) (names l) k l[k] = addA (entI (infR ps)) l) := hid (fun hh => by rw [HAW.out,wrongLB_at hlt HALL.out hh])
    have HYE : Hid (wrongIB (entI (infR ps)) (names l) k l[k] = 0 → ∀ j (h : j < l.length),j < k + 1 → wrongIB (entI (infR ps)) (names l) j l[j] = 0) := hid (fun hh j hj hjk => by
     by_cases e : j = k
     ·subst e; exact hh
     ·exact HALL.out j hj (by omega))
    obtain ⟨z,hz⟩ : ∃ z,z = wrongIB (entI (infR ps)) (names l) k l[k] := ⟨_,rfl⟩
    rw [← hz] at HCK HNO HYE
    have hkb : k < 1000000 := by have := HLC.out.2; omega
    have HLT := hid hlt
    clear hz cr
    go_wp2_with fail
    refine HCK.out.mono ?_
    rintro y w5 ⟨rfl,b5⟩
    have HB5 := hid (Trm.go HBEL.out b5)
    have hwk := (wk_two hkb).1
    have hwk2 := (wk_two hkb).2
    clear hkb b5
    by_cases hz0 : z = 0
    ·subst hz0
     have HE := hid (HYE.out rfl)
     go_wp2_with fail
     go_roundw
     case rel => exact ⟨k + 1,by first | rfl | (rw [hwk]; rfl),HLT.out,HE.out,HB5.out⟩
     case measure => first | exact less_step rfl HLT.out | exact less_step hwk HLT.out
    ·have hz1 : (z == 0) = false := by simpa using hz0
     have hz2 : (z != 0) = true := by simpa using hz0
     have HE := hid (HENV.out.stay (l := l) (z := z) (W := w5) (HNO.out hz0) hz0 HB5.out)
     rw [← HQQ.out] at HE
     go_wp2_with fail
     exact HE.out
   ·have HWZ : Hid (addA (entI (infR ps)) l = 0) := hid (by rw [HAW.out]; exact wrongLB_zero fun j hj => HALL.out j hj (by omega))
    have HMAY : Hid (∀ j (h : j < l.length),l[j].kind = 2 → l[j].va.may = true) := hid (fun j hj hk2 => wrongIB_may (HALL.out j hj (by omega)) hk2)
    have H0 : Hid (A2Rel P B r v (infR ps) w l (.int .i64 (0 : Nat)) wr) := hid ⟨0,v,ps,P,rfl,by omega,HENV.out.below HBEL.out,by rw [List.take_zero]; rfl,RanS.of_below HBEL.out,fun _ a => Or.inl a,fun _ a => Or.inl a,fun _ a => a⟩
    clear HALL cr HCR
    go_upto_region 10 with fail
    go_loopw [7] (fun i wr => A2Rel P B r v (infR ps) w l i wr) (fun i _ => l.length - (intOf i).toNat)
    case atStart => exact H0.out
    case round =>
     clear H0 HBEL
     obtain ⟨k,v2,ps2,P1,rfl,hk,henv2,hinf,hran,hown,hP1,hPw⟩ := hrel
     have HE2 := hid henv2
     have HI2 := hid hinf
     have HR2 := hid hran
     have HO2 := hid hown
     have HP1 := hid hP1
     have HPW := hid hPw
     clear henv2 hinf hran hown hP1 hPw
     by_cases hlt : k < l.length
     ·obtain ⟨b,off,hd,hlo,hb,hnb,hrg,hfx⟩ := (HFI.out.turn (HR2.out.wide HENV.out.ownP) HP1.out).place k hlt
      have HPL : Hid (ps2.length = ps.length + k) := hid (by
       have h0 := congrArg List.length HI2.out
       rw [addL_len] at h0
       unfold infR at h0
       simp at h0
       omega)
      have hkb : k < 1000000 := by have := HLC.out.2; omega
      have HMK := hid (HMAY.out k hlt)
      have HRX := hid (HRS.out _ (List.getElem_mem hlt))
      have HNX := hid (fun (y : Inf) (h3 : IHd) (v3 : Value) (W : World) (hy : y = fixI (entI (infR ps2)) l[k]) (hp : RPush P1 B wr r v2 ps2 y h3 v3 W) => A2Rel.next hlt HI2.out hy HR2.out HO2.out HP1.out HPW.out hp)
      obtain ⟨x,hx⟩ : ∃ x,x = l[k] := ⟨_,rfl⟩
      rw [← hx] at hrg hfx HMK HRX HNX
      have hsl : k < l.length := hlt
      have HLT := hid hlt
      subst hlo
      have HFX := hid (show FirmI (fun q => P1 q ∨ q = wr.heap.size) wr x hd from hfx.turn (RanS.refl _ _) (fun q hq => hq.imp id (fun a => by omega)))
      have hr0 := hrg
      clear hrg hfx hx
      go_upto_region 13 with (first
       | (refine wpList_load_mid rfl 46 (.tmp 39) rfl b (off + k * 25) rfl (x.vals hd) _ hr0 Tryz.underlying46 rfl HKL.out ?_)
       | (refine wpList_store_row rfl 46 (.tmp 8) (.tmp 40) rfl wr.heap.size _ rfl rfl 46 Inf.zeros (World.alloc_heap_new _ _) HKR.out (HKZ.out _ _) (HKO.out _ _) ?_))
      rw [World.setRow_alloc_new]
      obtain ⟨W3,hW3⟩ : ∃ W,W = wr.alloc (.cells (x.vals hd).toArray 46) := ⟨_,rfl⟩
      have HM3 := hid (show Mid (fun q => P1 q ∨ q = wr.heap.size) wr W3 x hd from ⟨hW3 ▸ World.alloc_heap_new _ _,HFX.out.step (RanS.of_below (hW3 ▸ below_one _ _)),hW3 ▸ below_one _ _⟩)
      rw [← hW3]
      clear hW3 hr0 hb hnb HFX hsl
      have c13 : W3.cell? ⟨wr.heap.size,13,none⟩ = some (.int .i64 x.height) := HM3.out.box.cell 13
      have f13 := HM3.out.box.free 13
      obtain ⟨W4,hW4⟩ : ∃ W4,W4 = W3.setCell ⟨wr.heap.size,13,none⟩ (.int .i64 0) := ⟨_,rfl⟩
      have HM4 := hid (show Mid (fun q => P1 q ∨ q = wr.heap.size) wr W4 { x with height := 0 } hd from ⟨by rw [hW4]; exact HM3.out.box.set13 0,by rw [hW4]; exact (HM3.out.firm.step (set_ranE _ _ _ _ (Or.inr rfl))).height 0,by rw [hW4]; exact HM3.out.bel.trans ((set_ranE (P := fun q => q = wr.heap.size) _ _ _ _ rfl).below (fun q hq => by omega) HM3.out.bel.size)⟩)
      go_upto_region 14 with fail
      rw [← hW4]
      clear hW4 c13 f13 HM3
      have c0 : W4.cell? ⟨wr.heap.size,0,none⟩ = some (.int .u8 x.kind) := HM4.out.box.cell 0
      have HHG := hid (fix_hgt2 (L := infR ps2) (fun y hy => by
       obtain ⟨p,hp,rfl⟩ := List.mem_map.1 hy
       have h0 := HE2.out.hgt p hp
       unfold infR
       rw [List.length_map]
       exact h0) x)
      have HML := hid (show ∀ y ∈ infR ps2,0 ≤ y.height ∧ y.height ≤ 4096 from fun y hy => by
       obtain ⟨p,hp,rfl⟩ := List.mem_map.1 hy
       have h0 := HE2.out.hgt p hp
       have h1 := HE2.out.few
       omega)
      have HL2 : Hid ((infR ps2).length = ps2.length) := hid (by unfold infR; simp)
      have HPF2 : Hid (ps2.length < 4096) := hid (by have := HPL.out; have := HFEW.out; have := HLT.out; omega)
      by_cases hk2 : x.kind = 2
      ·have hkb2 : (x.kind == 2) = true := by simp [hk2]
       obtain ⟨c8,c9,c10,c11,c12⟩ : W4.cell? ⟨wr.heap.size,8,none⟩ = some (.int .u8 x.va.k) ∧ W4.cell? ⟨wr.heap.size,9,none⟩ = some (.int .i64 x.va.n) ∧ W4.cell? ⟨wr.heap.size,10,none⟩ = some (.string x.va.s) ∧ W4.cell? ⟨wr.heap.size,11,none⟩ = some (.slice hd.va.lo x.va.ls.length hd.va.lc) ∧ W4.cell? ⟨wr.heap.size,12,none⟩ = some (.slice hd.va.to x.va.ts.length hd.va.tc) := t_cells x.va hd.va HM4.out.box.va
       have hh := height7_any (M := entI (infR ps2)) (infs_entI _) (HE2.out.ctx.below HM4.out.bel) HML.out x.va hd.va HM4.out.firm.va.here (HMK.out hk2)
       have HMX := hid (maxH_le (L := entI (infR ps2)) (l := x.va.nms) (M := 4096) (by omega) (fun p hp => by
        obtain ⟨y,hy,rfl⟩ := List.mem_map.1 hp
        exact (HML.out y hy).2))
       obtain ⟨Mx,hMx⟩ : ∃ M,M = maxH (entI (infR ps2)) x.va.nms := ⟨_,rfl⟩
       rw [← hMx] at hh HMX
       have HMM := hid hMx
       have HH := hid hh
       unfold Tm.val Tm.vals at HH
       clear hh hMx
       have HK := hid hk2
       rw [hk2] at c0
       clear hk2 hkb2
       go_wp2_with fail
       refine HH.out.mono ?_
       rintro y w5 ⟨rfl,b5⟩
       have HM5 := hid (show Mid (fun q => P1 q ∨ q = wr.heap.size) wr w5 { x with height := 0 } hd from ⟨HM4.out.box.keep b5,HM4.out.firm.step (RanS.of_below b5),HM4.out.bel.trans (b5.mono HM4.out.bel.size)⟩)
       have c13 : w5.cell? ⟨wr.heap.size,13,none⟩ = some (.int .i64 0) := HM5.out.box.cell 13
       have f13 := HM5.out.box.free 13
       have hwM : wrap64 (1 + Mx) = 1 + Mx := IntWalk.wrap64_in _ (by have := HMX.out; omega)
       have hwM2 : IntKind.i64.wrap (1 + Mx) = 1 + Mx := IntWalk.i64_in _ (by have := HMX.out; omega)
       obtain ⟨W,hW⟩ : ∃ W,W = w5.setCell ⟨wr.heap.size,13,none⟩ (.int .i64 (1 + Mx)) := ⟨_,rfl⟩
       have HMW0 := hid (show Mid (fun q => P1 q ∨ q = wr.heap.size) wr W (fixI (entI (infR ps2)) x) hd from by
        have he : ({ ({ x with height := 0 } : Inf) with height := 1 + Mx } : Inf) = fixI (entI (infR ps2)) x := by unfold fixI; rw [if_pos HK.out,if_pos (show x.hv = true from by unfold Inf.hv; rw [HK.out]; rfl),← HMM.out,Int.add_comm]
        rw [← he,hW]
        exact ⟨HM5.out.box.set13 _,(HM5.out.firm.step (set_ranE _ _ _ _ (Or.inr rfl))).height _,HM5.out.bel.trans ((set_ranE (P := fun q => q = wr.heap.size) _ _ _ _ rfl).below (fun q hq => by omega) HM5.out.bel.size)⟩)
       obtain ⟨y,hy⟩ : ∃ y,y = fixI (entI (infR ps2)) x := ⟨_,rfl⟩
       have hyk : y.kind = 2 := by rw [hy]; exact HK.out
       obtain ⟨h3,hh3⟩ : ∃ h3,h3 = hd := ⟨_,rfl⟩
       have HMW := HMW0
       rw [← hy,← hh3] at HMW
       have HY := hid hy
       have c0' : W.cell? ⟨wr.heap.size,0,none⟩ = some (.int .u8 2) := by rw [← hyk]; exact HMW.out.box.cell 0
       clear b5 hh3 hy hyk c0 c8 c9 c10 c11 c12 HMW0
       go_upto_region 16 with fail
       rw [← hW]
       clear hW c13 f13 hwM hwM2
       go_upto_region 18 with fail
       clear HM4 HM5 c0' HH HMX
       have HHG2 := hid (show 0 ≤ y.height ∧ y.height ≤ ((infR ps2).length : Int) + 1 from HY.out ▸ HHG.out)
       clear HHG
       obtain ⟨av2,cv2,hv2⟩ := HE2.out.inr.form
       obtain ⟨bX,hbX⟩ : ∃ b,b = wr.heap.size := ⟨_,rfl⟩
       have HIR := hid (show IBox W bX y h3 from hbX ▸ HMW.out.box)
       have HXR : Hid (bX ≠ r) := hid (fun a => by have := HE2.out.lt r HE2.out.own; omega)
       have HBW := hid (HE2.out.below HMW.out.bel)
       have hbe : W.heap[r]? = some (.cells #[.slice av2 ps2.length cv2] 35) := by rw [← hv2]; exact HBW.out.box
       have HBE := hid hbe
       have HROW := hid (show W.ownsRow B 46 25 (.slice av2 ps2.length cv2) ps2.length (flatI ps2) from by have h0 := HBW.out.inr.row; rw [hv2] at h0; exact h0)
       have HXV : Hid ((Value.slice av2 ps2.length cv2).ownBlock ≠ some bX) := hid (fun a => by rw [← hv2] at a; have := HE2.out.lt _ (HE2.out.inr.own _ a); omega)
       have HRV : Hid ((Value.slice av2 ps2.length cv2).ownBlock ≠ some r) := hid (by rw [← hv2]; exact HE2.out.apart)
       have HV2 := hid hv2
       have cr : W.cell? ⟨r,0,none⟩ = some (.slice av2 ps2.length cv2) := by simp [World.cell?,hbe]
       have hrl : r < W.heap.size := (Array.getElem?_eq_some_iff.1 hbe).1
       have HRLW := hid hrl
       have HBB : Hid (B ≤ W.heap.size) := hid (by have := HE2.out.base r HE2.out.own; omega)
       obtain ⟨i0,hi,hz0,hz1,hz2⟩ := info_parts infoInf3
       have HNEWS := hid (World.news_of_block (cs := (y.vals h3).toArray) (t := 46) (fr := (0,0)) (World.alloc_heap_new W.drew _))
       rw [← hbX]
       clear hv2 hbX hbe
       refine wp_region_held_drew (S := fun w' => w'.rangeAt bX 0 (y.vals h3)) (by kernel_rfl) (HIR.out.range) (fun hHeld => ?_)
       refine wpAnyH_take (i := 0) (v := ?vad1a0) rfl (by kernel_rfl) (by kernel_rfl) (by kernel_rfl) (fun _ _ _ h => h) (Or.inl ⟨by rfl,?hyad1a0⟩) (by assumption) ?restad1a0
       case hyad1a0 => (intro w' hSw; (try dsimp only at hSw); go_simp <;> with_reducible rfl)
       try simp only [zqT,zqZ,Act.put,zqB,zq0,zq1]
       refine wpAnyH_take (i := 1) (v := ?vad1a1) rfl (by kernel_rfl) (by kernel_rfl) (by kernel_rfl) (fun _ _ _ h => h) (Or.inl ⟨by rfl,?hyad1a1⟩) (by assumption) ?restad1a1
       case hyad1a1 => (intro w' hSw; (try dsimp only at hSw); go_simp <;> with_reducible rfl)
       try simp only [zqT,zqS,zqZ,Act.put,zqB,zq0,zq1]
       refine wpAnyH_take (i := 2) (v := ?vad1a2) rfl (by kernel_rfl) (by kernel_rfl) (by kernel_rfl) (fun _ _ _ h => h) (Or.inl ⟨by rfl,?hyad1a2⟩) (by assumption) ?restad1a2
       case hyad1a2 => (intro w' hSw; (try dsimp only at hSw); go_simp <;> with_reducible rfl)
       try simp only [zqT,zqS,zqZ,Act.put,zqB,zq0,zq1]
       refine wpAnyH_take (i := 3) (v := ?vad1a3) rfl (by kernel_rfl) (by kernel_rfl) (by kernel_rfl) (fun _ _ _ h => h) (Or.inl ⟨by rfl,?hyad1a3⟩) (by assumption) ?restad1a3
       case hyad1a3 => (intro w' hSw; (try dsimp only at hSw); go_simp <;> with_reducible rfl)
       try simp only [zqT,zqS,zqZ,Act.put,zqB,zq0,zq1]
       refine wpAnyH_take (i := 5) (v := .agg (y.vals h3).toArray) rfl (by kernel_rfl) (by kernel_rfl) (by kernel_rfl) (fun _ _ _ h => h) (yieldsIf_load_mid rfl 46 (.tmp 8) rfl bX 0 rfl (y.vals h3) _ (fun _ h => h) Tryz.underlying46 rfl HKL.out) (by assumption) ?_
       try simp only [zqT,zqS,zqZ,Act.put,zqB,zq0,zq1]
       refine wpAnyH_ready (rs := [4,6]) (by kernel_rfl) (by simp) ?_
       refine AllReadyH.cons rfl (fun K hK => ?_) (AllReadyH.cons rfl (fun K hK => ?_) AllReadyH.nil)
       ·go_simp
        refine hK.out _ _ (show World.rangeAt _ bX 0 (y.vals h3) from HIR.out.range) (fun hHeld => ?_)
        clear hK K
        try simp only [zqT,zqS,zqZ,Act.put,zqB,zq0,zq1]
        refine wpAnyH_ready (rs := [6]) (by kernel_rfl) (by simp) ?_
        refine AllReadyH.cons rfl (fun K hK => ?_) AllReadyH.nil
        refine step_bslice7 rfl 22 46 1 _ rfl (some 67) rfl (y.vals h3).toArray Tryz.underlying22 (by kernel_rfl) ?_
        refine hK.out _ _ (show World.rangeAt _ bX 0 (y.vals h3) from (range_below (w := W.drew) HIR.out.range (below_one W.drew (.cells (y.vals h3).toArray 46)) HIR.out.lt)) (fun hHeld => ?_)
        clear hK K
        try simp only [Act.put,zqB,zq0,zq1]
        refine wpAnyH_ready (rs := [7]) (by kernel_rfl) (by simp) ?_
        refine AllReadyH.cons rfl (fun K hK => ?_) AllReadyH.nil
        refine step_append_lies _ (by rfl) _ _ _ (by rfl) B 46 i0 _ 25 320 Tryz.underlying22 hi hz0 hz1 hz2 rfl (by decide) _ ps2.length (flatI ps2) (by rfl) ((show W.drew.ownsRow B 46 25 (.slice av2 ps2.length cv2) ps2.length (flatI ps2) from HROW.out).alloc _) ⟨W.heap.size,0,none⟩ 1 1 (y.vals h3) (by rfl) (by rfl) HNEWS.out (HKS.out _ _) Nat.one_pos (by unfold maxLen; have := HPF2.out; omega) (by have := HPF2.out; omega) (by first | (rw [World.size_alloc]; have := HBB.out; show B ≤ W.heap.size + 1; omega) | (show B ≤ (W.alloc _).heap.size; rw [World.size_alloc]; have := HBB.out; omega)) (W.heap.size + 1) (by first | rfl | (show (W.alloc (.cells (y.vals h3).toArray 46)).heap.size = _; rw [World.size_alloc])) ?_
        intro g1 cap1 w10 hown10 hg10 hat10 hlt10
        have HO10 := hid hown10
        have HG10 := hid (show (W.drew.alloc (.cells (y.vals h3).toArray 46)).grownBy w10 (Value.slice av2 ps2.length cv2).ownBlock from hg10)
        have HAT10 := hid hat10
        have HLT10 := hid hlt10
        clear hown10 hg10 hat10 hlt10
        have HX10 := hid (show IBox w10 bX y h3 from (HG10.out.block bX (by rw [World.size_alloc]; show bX < W.heap.size + 1; have := HIR.out.lt; omega) (fun a => HXV.out a.symm)).trans (((below_one W.drew (.cells (y.vals h3).toArray 46)).block bX (show bX < W.heap.size from HIR.out.lt)).trans HIR.out))
        have hb10 := (HG10.out.block r (by rw [World.size_alloc]; show r < W.heap.size + 1; have := HRLW.out; omega) (fun a => HRV.out a.symm)).trans (((below_one W.drew (.cells (y.vals h3).toArray 46)).block r (show r < W.heap.size from HRLW.out)).trans HBE.out)
        have cx : w10.cell? ⟨r,0,none⟩ = some (.slice av2 ps2.length cv2) := by simp [World.cell?,hb10]
        have fx : w10.frozen? ⟨r,0,none⟩ = false := by simp [World.frozen?,hb10]
        clear hb10
        refine hK.out _ _ (HX10.out.range) (fun hHeld => ?_)
        clear hK K
        try simp only [Act.put,zqB]
        refine wpAnyH_take (i := 8) (v := ?vad1b8) rfl (by kernel_rfl) (by kernel_rfl) (by kernel_rfl) (fun _ _ _ h => h) (Or.inl ⟨by rfl,?hyad1b8⟩) (by assumption) ?restad1b8
        case hyad1b8 => (intro w' hSw; (try dsimp only at hSw); go_simp <;> with_reducible rfl)
        try simp only [zqT,zqS,zqZ,Act.put,zqB,zq0,zq1]
        refine wpAnyH_take (i := 9) (v := ?vad1b9) rfl (by kernel_rfl) (by kernel_rfl) (by kernel_rfl) (fun _ _ _ h => h) (Or.inl ⟨by rfl,?hyad1b9⟩) (by assumption) ?restad1b9
        case hyad1b9 => (intro w' hSw; (try dsimp only at hSw); go_simp <;> with_reducible rfl)
        try simp only [zqT,zqS,zqZ,Act.put,zqB,zq0,zq1]
        refine wpAnyH_ready (rs := [10]) (by kernel_rfl) (by simp) ?_
        refine AllReadyH.cons rfl (fun K hK => ?_) AllReadyH.nil
        go_simp
        refine hK.out _ _ (show World.rangeAt _ bX 0 (y.vals h3) from (show IBox (w10.setCell ⟨r,0,none⟩ (.slice (some ⟨g1,0,none⟩) (ps2.length + 1) cap1)) bX y h3 from (RowKit.Below.heap_setCell _ ⟨r,0,none⟩ _ _ (show bX ≠ (⟨r,0,none⟩ : Addr).block from HXR.out)).trans HX10.out).range) (fun hHeld => ?_)
        clear hK K
        try simp only [zqT,zqS,zqZ,Act.put,zqB,zq0,zq1]
        refine wpAnyH_done (by kernel_rfl) ?_ _
        have HPU := hid (HE2.out.push HMW.out (by rw [← HL2.out] at *; exact HO10.out) (by rw [HV2.out]; exact HG10.out) (by rw [HV2.out]; exact HAT10.out) HLT10.out HPF2.out (by have := HHG2.out; have := HL2.out; omega))
        have HEND := hid (HNX.out _ _ _ _ HY.out HPU.out)
        have hwk := (wk_two hkb).1
        have hwk2 := (wk_two hkb).2
        clear cx fx cr hrl
        go_wp2_with fail
        go_roundw
        case rel => first | exact HEND.out | (rw [hwk]; exact HEND.out)
        case measure => first | exact less_step rfl HLT.out | exact less_step hwk HLT.out
       ·refine step_bslice7 rfl 22 46 1 _ rfl (some 67) rfl (y.vals h3).toArray Tryz.underlying22 (by kernel_rfl) ?_
        refine hK.out _ _ (show World.rangeAt _ bX 0 (y.vals h3) from (range_below (w := W.drew) HIR.out.range (below_one W.drew (.cells (y.vals h3).toArray 46)) HIR.out.lt)) (fun hHeld => ?_)
        clear hK K
        try simp only [Act.put,zqB,zq0,zq1]
        refine wpAnyH_ready (rs := [4]) (by kernel_rfl) (by simp) ?_
        refine AllReadyH.cons rfl (fun K hK => ?_) AllReadyH.nil
        have cr9 : (W.alloc (.cells (y.vals h3).toArray 46)).cell? ⟨r,0,none⟩ = some (.slice av2 ps2.length cv2) := ((below_one W (.cells (y.vals h3).toArray 46)).cell (p := ⟨r,0,none⟩) hrl).trans cr
        have cr8 : (W.drew.alloc (.cells (y.vals h3).toArray 46)).cell? ⟨r,0,none⟩ = some (.slice av2 ps2.length cv2) := ((below_one W.drew (.cells (y.vals h3).toArray 46)).cell (p := ⟨r,0,none⟩) hrl).trans cr
        go_simp
        refine hK.out _ _ (show World.rangeAt _ bX 0 (y.vals h3) from (range_below (w := W.drew) HIR.out.range (below_one W.drew (.cells (y.vals h3).toArray 46)) HIR.out.lt)) (fun hHeld => ?_)
        clear hK K cr9 cr8
        try simp only [zqT,zqS,zqZ,Act.put,zqB,zq0,zq1]
        refine wpAnyH_ready (rs := [7]) (by kernel_rfl) (by simp) ?_
        refine AllReadyH.cons rfl (fun K hK => ?_) AllReadyH.nil
        refine step_append_lies _ (by rfl) _ _ _ (by rfl) B 46 i0 _ 25 320 Tryz.underlying22 hi hz0 hz1 hz2 rfl (by decide) _ ps2.length (flatI ps2) (by rfl) ((show W.drew.ownsRow B 46 25 (.slice av2 ps2.length cv2) ps2.length (flatI ps2) from HROW.out).alloc _) ⟨W.heap.size,0,none⟩ 1 1 (y.vals h3) (by rfl) (by rfl) HNEWS.out (HKS.out _ _) Nat.one_pos (by unfold maxLen; have := HPF2.out; omega) (by have := HPF2.out; omega) (by first | (rw [World.size_alloc]; have := HBB.out; show B ≤ W.heap.size + 1; omega) | (show B ≤ (W.alloc _).heap.size; rw [World.size_alloc]; have := HBB.out; omega)) (W.heap.size + 1) (by first | rfl | (show (W.alloc (.cells (y.vals h3).toArray 46)).heap.size = _; rw [World.size_alloc])) ?_
        intro g1 cap1 w10 hown10 hg10 hat10 hlt10
        have HO10 := hid hown10
        have HG10 := hid (show (W.drew.alloc (.cells (y.vals h3).toArray 46)).grownBy w10 (Value.slice av2 ps2.length cv2).ownBlock from hg10)
        have HAT10 := hid hat10
        have HLT10 := hid hlt10
        clear hown10 hg10 hat10 hlt10
        have HX10 := hid (show IBox w10 bX y h3 from (HG10.out.block bX (by rw [World.size_alloc]; show bX < W.heap.size + 1; have := HIR.out.lt; omega) (fun a => HXV.out a.symm)).trans (((below_one W.drew (.cells (y.vals h3).toArray 46)).block bX (show bX < W.heap.size from HIR.out.lt)).trans HIR.out))
        have hb10 := (HG10.out.block r (by rw [World.size_alloc]; show r < W.heap.size + 1; have := HRLW.out; omega) (fun a => HRV.out a.symm)).trans (((below_one W.drew (.cells (y.vals h3).toArray 46)).block r (show r < W.heap.size from HRLW.out)).trans HBE.out)
        have cx : w10.cell? ⟨r,0,none⟩ = some (.slice av2 ps2.length cv2) := by simp [World.cell?,hb10]
        have fx : w10.frozen? ⟨r,0,none⟩ = false := by simp [World.frozen?,hb10]
        clear hb10
        refine hK.out _ _ (HX10.out.range) (fun hHeld => ?_)
        clear hK K
        try simp only [Act.put,zqB]
        refine wpAnyH_take (i := 8) (v := ?vad1c8) rfl (by kernel_rfl) (by kernel_rfl) (by kernel_rfl) (fun _ _ _ h => h) (Or.inl ⟨by rfl,?hyad1c8⟩) (by assumption) ?restad1c8
        case hyad1c8 => (intro w' hSw; (try dsimp only at hSw); go_simp <;> with_reducible rfl)
        try simp only [zqT,zqS,zqZ,Act.put,zqB,zq0,zq1]
        refine wpAnyH_take (i := 9) (v := ?vad1c9) rfl (by kernel_rfl) (by kernel_rfl) (by kernel_rfl) (fun _ _ _ h => h) (Or.inl ⟨by rfl,?hyad1c9⟩) (by assumption) ?restad1c9
        case hyad1c9 => (intro w' hSw; (try dsimp only at hSw); go_simp <;> with_reducible rfl)
        try simp only [zqT,zqS,zqZ,Act.put,zqB,zq0,zq1]
        refine wpAnyH_ready (rs := [10]) (by kernel_rfl) (by simp) ?_
        refine AllReadyH.cons rfl (fun K hK => ?_) AllReadyH.nil
        go_simp
        refine hK.out _ _ (show World.rangeAt _ bX 0 (y.vals h3) from (show IBox (w10.setCell ⟨r,0,none⟩ (.slice (some ⟨g1,0,none⟩) (ps2.length + 1) cap1)) bX y h3 from (RowKit.Below.heap_setCell _ ⟨r,0,none⟩ _ _ (show bX ≠ (⟨r,0,none⟩ : Addr).block from HXR.out)).trans HX10.out).range) (fun hHeld => ?_)
        clear hK K
        try simp only [zqT,zqS,zqZ,Act.put,zqB,zq0,zq1]
        refine wpAnyH_done (by kernel_rfl) ?_ _
        have HPU := hid (HE2.out.push HMW.out (by rw [← HL2.out] at *; exact HO10.out) (by rw [HV2.out]; exact HG10.out) (by rw [HV2.out]; exact HAT10.out) HLT10.out HPF2.out (by have := HHG2.out; have := HL2.out; omega))
        have HEND := hid (HNX.out _ _ _ _ HY.out HPU.out)
        have hwk := (wk_two hkb).1
        have hwk2 := (wk_two hkb).2
        clear cx fx cr hrl
        go_wp2_with fail
        go_roundw
        case rel => first | exact HEND.out | (rw [hwk]; exact HEND.out)
        case measure => first | exact less_step rfl HLT.out | exact less_step hwk HLT.out
      ·have e2 : (x.kind == 2) = false := by simpa using hk2
       have e2n : (x.kind != 2) = true := by simp [hk2]
       obtain ⟨kd,hkd⟩ : ∃ q,q = x.kind := ⟨_,rfl⟩
       rw [← hkd] at c0 e2 e2n
       by_cases hk3 : kd = 3
       ·have HMW0 := hid (show Mid (fun q => P1 q ∨ q = wr.heap.size) wr W4 (fixI (entI (infR ps2)) x) hd from by
         have he : ({ x with height := 0 } : Inf) = fixI (entI (infR ps2)) x := by unfold fixI; rw [if_neg hk2,if_pos (show x.hv = true from by unfold Inf.hv; rw [← hkd,hk3]; rfl)]
         rw [← he]
         exact HM4.out)
        obtain ⟨y,hy⟩ : ∃ y,y = fixI (entI (infR ps2)) x := ⟨_,rfl⟩
        obtain ⟨h3,hh3⟩ : ∃ h3,h3 = hd := ⟨_,rfl⟩
        obtain ⟨W,hW⟩ : ∃ W,W = W4 := ⟨_,rfl⟩
        have HMW := HMW0
        rw [← hy,← hh3,← hW] at HMW
        have HY := hid hy
        have e3 : (kd == 3) = true := by simp [hk3]
        have e3n : (kd != 3) = false := by simp [hk3]
        rw [← hW] at c0 ⊢
        clear hy hh3 hW hkd hk2 hk3 HMW0 HM4
        go_upto_region 18 with fail
        clear c0 e2 e2n e3 e3n
        have HHG2 := hid (show 0 ≤ y.height ∧ y.height ≤ ((infR ps2).length : Int) + 1 from HY.out ▸ HHG.out)
        clear HHG
        obtain ⟨av2,cv2,hv2⟩ := HE2.out.inr.form
        obtain ⟨bX,hbX⟩ : ∃ b,b = wr.heap.size := ⟨_,rfl⟩
        have HIR := hid (show IBox W bX y h3 from hbX ▸ HMW.out.box)
        have HXR : Hid (bX ≠ r) := hid (fun a => by have := HE2.out.lt r HE2.out.own; omega)
        have HBW := hid (HE2.out.below HMW.out.bel)
        have hbe : W.heap[r]? = some (.cells #[.slice av2 ps2.length cv2] 35) := by rw [← hv2]; exact HBW.out.box
        have HBE := hid hbe
        have HROW := hid (show W.ownsRow B 46 25 (.slice av2 ps2.length cv2) ps2.length (flatI ps2) from by have h0 := HBW.out.inr.row; rw [hv2] at h0; exact h0)
        have HXV : Hid ((Value.slice av2 ps2.length cv2).ownBlock ≠ some bX) := hid (fun a => by rw [← hv2] at a; have := HE2.out.lt _ (HE2.out.inr.own _ a); omega)
        have HRV : Hid ((Value.slice av2 ps2.length cv2).ownBlock ≠ some r) := hid (by rw [← hv2]; exact HE2.out.apart)
        have HV2 := hid hv2
        have cr : W.cell? ⟨r,0,none⟩ = some (.slice av2 ps2.length cv2) := by simp [World.cell?,hbe]
        have hrl : r < W.heap.size := (Array.getElem?_eq_some_iff.1 hbe).1
        have HRLW := hid hrl
        have HBB : Hid (B ≤ W.heap.size) := hid (by have := HE2.out.base r HE2.out.own; omega)
        obtain ⟨i0,hi,hz0,hz1,hz2⟩ := info_parts infoInf3
        have HNEWS := hid (World.news_of_block (cs := (y.vals h3).toArray) (t := 46) (fr := (0,0)) (World.alloc_heap_new W.drew _))
        rw [← hbX]
        clear hv2 hbX hbe
        refine wp_region_held_drew (S := fun w' => w'.rangeAt bX 0 (y.vals h3)) (by kernel_rfl) (HIR.out.range) (fun hHeld => ?_)
        refine wpAnyH_take (i := 0) (v := ?vad2a0) rfl (by kernel_rfl) (by kernel_rfl) (by kernel_rfl) (fun _ _ _ h => h) (Or.inl ⟨by rfl,?hyad2a0⟩) (by assumption) ?restad2a0
        case hyad2a0 => (intro w' hSw; (try dsimp only at hSw); go_simp <;> with_reducible rfl)
        try simp only [zqT,zqZ,Act.put,zqB,zq0,zq1]
        refine wpAnyH_take (i := 1) (v := ?vad2a1) rfl (by kernel_rfl) (by kernel_rfl) (by kernel_rfl) (fun _ _ _ h => h) (Or.inl ⟨by rfl,?hyad2a1⟩) (by assumption) ?restad2a1
        case hyad2a1 => (intro w' hSw; (try dsimp only at hSw); go_simp <;> with_reducible rfl)
        try simp only [zqT,zqS,zqZ,Act.put,zqB,zq0,zq1]
        refine wpAnyH_take (i := 2) (v := ?vad2a2) rfl (by kernel_rfl) (by kernel_rfl) (by kernel_rfl) (fun _ _ _ h => h) (Or.inl ⟨by rfl,?hyad2a2⟩) (by assumption) ?restad2a2
        case hyad2a2 => (intro w' hSw; (try dsimp only at hSw); go_simp <;> with_reducible rfl)
        try simp only [zqT,zqS,zqZ,Act.put,zqB,zq0,zq1]
        refine wpAnyH_take (i := 3) (v := ?vad2a3) rfl (by kernel_rfl) (by kernel_rfl) (by kernel_rfl) (fun _ _ _ h => h) (Or.inl ⟨by rfl,?hyad2a3⟩) (by assumption) ?restad2a3
        case hyad2a3 => (intro w' hSw; (try dsimp only at hSw); go_simp <;> with_reducible rfl)
        try simp only [zqT,zqS,zqZ,Act.put,zqB,zq0,zq1]
        refine wpAnyH_take (i := 5) (v := .agg (y.vals h3).toArray) rfl (by kernel_rfl) (by kernel_rfl) (by kernel_rfl) (fun _ _ _ h => h) (yieldsIf_load_mid rfl 46 (.tmp 8) rfl bX 0 rfl (y.vals h3) _ (fun _ h => h) Tryz.underlying46 rfl HKL.out) (by assumption) ?_
        try simp only [zqT,zqS,zqZ,Act.put,zqB,zq0,zq1]
        refine wpAnyH_ready (rs := [4,6]) (by kernel_rfl) (by simp) ?_
        refine AllReadyH.cons rfl (fun K hK => ?_) (AllReadyH.cons rfl (fun K hK => ?_) AllReadyH.nil)
        ·go_simp
         refine hK.out _ _ (show World.rangeAt _ bX 0 (y.vals h3) from HIR.out.range) (fun hHeld => ?_)
         clear hK K
         try simp only [zqT,zqS,zqZ,Act.put,zqB,zq0,zq1]
         refine wpAnyH_ready (rs := [6]) (by kernel_rfl) (by simp) ?_
         refine AllReadyH.cons rfl (fun K hK => ?_) AllReadyH.nil
         refine step_bslice7 rfl 22 46 1 _ rfl (some 67) rfl (y.vals h3).toArray Tryz.underlying22 (by kernel_rfl) ?_
         refine hK.out _ _ (show World.rangeAt _ bX 0 (y.vals h3) from (range_below (w := W.drew) HIR.out.range (below_one W.drew (.cells (y.vals h3).toArray 46)) HIR.out.lt)) (fun hHeld => ?_)
         clear hK K
         try simp only [Act.put,zqB,zq0,zq1]
         refine wpAnyH_ready (rs := [7]) (by kernel_rfl) (by simp) ?_
         refine AllReadyH.cons rfl (fun K hK => ?_) AllReadyH.nil
         refine step_append_lies _ (by rfl) _ _ _ (by rfl) B 46 i0 _ 25 320 Tryz.underlying22 hi hz0 hz1 hz2 rfl (by decide) _ ps2.length (flatI ps2) (by rfl) ((show W.drew.ownsRow B 46 25 (.slice av2 ps2.length cv2) ps2.length (flatI ps2) from HROW.out).alloc _) ⟨W.heap.size,0,none⟩ 1 1 (y.vals h3) (by rfl) (by rfl) HNEWS.out (HKS.out _ _) Nat.one_pos (by unfold maxLen; have := HPF2.out; omega) (by have := HPF2.out; omega) (by first | (rw [World.size_alloc]; have := HBB.out; show B ≤ W.heap.size + 1; omega) | (show B ≤ (W.alloc _).heap.size; rw [World.size_alloc]; have := HBB.out; omega)) (W.heap.size + 1) (by first | rfl | (show (W.alloc (.cells (y.vals h3).toArray 46)).heap.size = _; rw [World.size_alloc])) ?_
         intro g1 cap1 w10 hown10 hg10 hat10 hlt10
         have HO10 := hid hown10
         have HG10 := hid (show (W.drew.alloc (.cells (y.vals h3).toArray 46)).grownBy w10 (Value.slice av2 ps2.length cv2).ownBlock from hg10)
         have HAT10 := hid hat10
         have HLT10 := hid hlt10
         clear hown10 hg10 hat10 hlt10
         have HX10 := hid (show IBox w10 bX y h3 from (HG10.out.block bX (by rw [World.size_alloc]; show bX < W.heap.size + 1; have := HIR.out.lt; omega) (fun a => HXV.out a.symm)).trans (((below_one W.drew (.cells (y.vals h3).toArray 46)).block bX (show bX < W.heap.size from HIR.out.lt)).trans HIR.out))
         have hb10 := (HG10.out.block r (by rw [World.size_alloc]; show r < W.heap.size + 1; have := HRLW.out; omega) (fun a => HRV.out a.symm)).trans (((below_one W.drew (.cells (y.vals h3).toArray 46)).block r (show r < W.heap.size from HRLW.out)).trans HBE.out)
         have cx : w10.cell? ⟨r,0,none⟩ = some (.slice av2 ps2.length cv2) := by simp [World.cell?,hb10]
         have fx : w10.frozen? ⟨r,0,none⟩ = false := by simp [World.frozen?,hb10]
         clear hb10
         refine hK.out _ _ (HX10.out.range) (fun hHeld => ?_)
         clear hK K
         try simp only [Act.put,zqB]
         refine wpAnyH_take (i := 8) (v := ?vad2b8) rfl (by kernel_rfl) (by kernel_rfl) (by kernel_rfl) (fun _ _ _ h => h) (Or.inl ⟨by rfl,?hyad2b8⟩) (by assumption) ?restad2b8
         case hyad2b8 => (intro w' hSw; (try dsimp only at hSw); go_simp <;> with_reducible rfl)
         try simp only [zqT,zqS,zqZ,Act.put,zqB,zq0,zq1]
         refine wpAnyH_take (i := 9) (v := ?vad2b9) rfl (by kernel_rfl) (by kernel_rfl) (by kernel_rfl) (fun _ _ _ h => h) (Or.inl ⟨by rfl,?hyad2b9⟩) (by assumption) ?restad2b9
         case hyad2b9 => (intro w' hSw; (try dsimp only at hSw); go_simp <;> with_reducible rfl)
         try simp only [zqT,zqS,zqZ,Act.put,zqB,zq0,zq1]
         refine wpAnyH_ready (rs := [10]) (by kernel_rfl) (by simp) ?_
         refine AllReadyH.cons rfl (fun K hK => ?_) AllReadyH.nil
         go_simp
         refine hK.out _ _ (show World.rangeAt _ bX 0 (y.vals h3) from (show IBox (w10.setCell ⟨r,0,none⟩ (.slice (some ⟨g1,0,none⟩) (ps2.length + 1) cap1)) bX y h3 from (RowKit.Below.heap_setCell _ ⟨r,0,none⟩ _ _ (show bX ≠ (⟨r,0,none⟩ : Addr).block from HXR.out)).trans HX10.out).range) (fun hHeld => ?_)
         clear hK K
         try simp only [zqT,zqS,zqZ,Act.put,zqB,zq0,zq1]
         refine wpAnyH_done (by kernel_rfl) ?_ _
         have HPU := hid (HE2.out.push HMW.out (by rw [← HL2.out] at *; exact HO10.out) (by rw [HV2.out]; exact HG10.out) (by rw [HV2.out]; exact HAT10.out) HLT10.out HPF2.out (by have := HHG2.out; have := HL2.out; omega))
         have HEND := hid (HNX.out _ _ _ _ HY.out HPU.out)
         have hwk := (wk_two hkb).1
         have hwk2 := (wk_two hkb).2
         clear cx fx cr hrl
         go_wp2_with fail
         go_roundw
         case rel => first | exact HEND.out | (rw [hwk]; exact HEND.out)
         case measure => first | exact less_step rfl HLT.out | exact less_step hwk HLT.out
        ·refine step_bslice7 rfl 22 46 1 _ rfl (some 67) rfl (y.vals h3).toArray Tryz.underlying22 (by kernel_rfl) ?_
         refine hK.out _ _ (show World.rangeAt _ bX 0 (y.vals h3) from (range_below (w := W.drew) HIR.out.range (below_one W.drew (.cells (y.vals h3).toArray 46)) HIR.out.lt)) (fun hHeld => ?_)
         clear hK K
         try simp only [Act.put,zqB,zq0,zq1]
         refine wpAnyH_ready (rs := [4]) (by kernel_rfl) (by simp) ?_
         refine AllReadyH.cons rfl (fun K hK => ?_) AllReadyH.nil
         have cr9 : (W.alloc (.cells (y.vals h3).toArray 46)).cell? ⟨r,0,none⟩ = some (.slice av2 ps2.length cv2) := ((below_one W (.cells (y.vals h3).toArray 46)).cell (p := ⟨r,0,none⟩) hrl).trans cr
         have cr8 : (W.drew.alloc (.cells (y.vals h3).toArray 46)).cell? ⟨r,0,none⟩ = some (.slice av2 ps2.length cv2) := ((below_one W.drew (.cells (y.vals h3).toArray 46)).cell (p := ⟨r,0,none⟩) hrl).trans cr
         go_simp
         refine hK.out _ _ (show World.rangeAt _ bX 0 (y.vals h3) from (range_below (w := W.drew) HIR.out.range (below_one W.drew (.cells (y.vals h3).toArray 46)) HIR.out.lt)) (fun hHeld => ?_)
         clear hK K cr9 cr8
         try simp only [zqT,zqS,zqZ,Act.put,zqB,zq0,zq1]
         refine wpAnyH_ready (rs := [7]) (by kernel_rfl) (by simp) ?_
         refine AllReadyH.cons rfl (fun K hK => ?_) AllReadyH.nil
         refine step_append_lies _ (by rfl) _ _ _ (by rfl) B 46 i0 _ 25 320 Tryz.underlying22 hi hz0 hz1 hz2 rfl (by decide) _ ps2.length (flatI ps2) (by rfl) ((show W.drew.ownsRow B 46 25 (.slice av2 ps2.length cv2) ps2.length (flatI ps2) from HROW.out).alloc _) ⟨W.heap.size,0,none⟩ 1 1 (y.vals h3) (by rfl) (by rfl) HNEWS.out (HKS.out _ _) Nat.one_pos (by unfold maxLen; have := HPF2.out; omega) (by have := HPF2.out; omega) (by first | (rw [World.size_alloc]; have := HBB.out; show B ≤ W.heap.size + 1; omega) | (show B ≤ (W.alloc _).heap.size; rw [World.size_alloc]; have := HBB.out; omega)) (W.heap.size + 1) (by first | rfl | (show (W.alloc (.cells (y.vals h3).toArray 46)).heap.size = _; rw [World.size_alloc])) ?_
         intro g1 cap1 w10 hown10 hg10 hat10 hlt10
         have HO10 := hid hown10
         have HG10 := hid (show (W.drew.alloc (.cells (y.vals h3).toArray 46)).grownBy w10 (Value.slice av2 ps2.length cv2).ownBlock from hg10)
         have HAT10 := hid hat10
         have HLT10 := hid hlt10
         clear hown10 hg10 hat10 hlt10
         have HX10 := hid (show IBox w10 bX y h3 from (HG10.out.block bX (by rw [World.size_alloc]; show bX < W.heap.size + 1; have := HIR.out.lt; omega) (fun a => HXV.out a.symm)).trans (((below_one W.drew (.cells (y.vals h3).toArray 46)).block bX (show bX < W.heap.size from HIR.out.lt)).trans HIR.out))
         have hb10 := (HG10.out.block r (by rw [World.size_alloc]; show r < W.heap.size + 1; have := HRLW.out; omega) (fun a => HRV.out a.symm)).trans (((below_one W.drew (.cells (y.vals h3).toArray 46)).block r (show r < W.heap.size from HRLW.out)).trans HBE.out)
         have cx : w10.cell? ⟨r,0,none⟩ = some (.slice av2 ps2.length cv2) := by simp [World.cell?,hb10]
         have fx : w10.frozen? ⟨r,0,none⟩ = false := by simp [World.frozen?,hb10]
         clear hb10
         refine hK.out _ _ (HX10.out.range) (fun hHeld => ?_)
         clear hK K
         try simp only [Act.put,zqB]
         refine wpAnyH_take (i := 8) (v := ?vad2c8) rfl (by kernel_rfl) (by kernel_rfl) (by kernel_rfl) (fun _ _ _ h => h) (Or.inl ⟨by rfl,?hyad2c8⟩) (by assumption) ?restad2c8
         case hyad2c8 => (intro w' hSw; (try dsimp only at hSw); go_simp <;> with_reducible rfl)
         try simp only [zqT,zqS,zqZ,Act.put,zqB,zq0,zq1]
         refine wpAnyH_take (i := 9) (v := ?vad2c9) rfl (by kernel_rfl) (by kernel_rfl) (by kernel_rfl) (fun _ _ _ h => h) (Or.inl ⟨by rfl,?hyad2c9⟩) (by assumption) ?restad2c9
         case hyad2c9 => (intro w' hSw; (try dsimp only at hSw); go_simp <;> with_reducible rfl)
         try simp only [zqT,zqS,zqZ,Act.put,zqB,zq0,zq1]
         refine wpAnyH_ready (rs := [10]) (by kernel_rfl) (by simp) ?_
         refine AllReadyH.cons rfl (fun K hK => ?_) AllReadyH.nil
         go_simp
         refine hK.out _ _ (show World.rangeAt _ bX 0 (y.vals h3) from (show IBox (w10.setCell ⟨r,0,none⟩ (.slice (some ⟨g1,0,none⟩) (ps2.length + 1) cap1)) bX y h3 from (RowKit.Below.heap_setCell _ ⟨r,0,none⟩ _ _ (show bX ≠ (⟨r,0,none⟩ : Addr).block from HXR.out)).trans HX10.out).range) (fun hHeld => ?_)
         clear hK K
         try simp only [zqT,zqS,zqZ,Act.put,zqB,zq0,zq1]
         refine wpAnyH_done (by kernel_rfl) ?_ _
         have HPU := hid (HE2.out.push HMW.out (by rw [← HL2.out] at *; exact HO10.out) (by rw [HV2.out]; exact HG10.out) (by rw [HV2.out]; exact HAT10.out) HLT10.out HPF2.out (by have := HHG2.out; have := HL2.out; omega))
         have HEND := hid (HNX.out _ _ _ _ HY.out HPU.out)
         have hwk := (wk_two hkb).1
         have hwk2 := (wk_two hkb).2
         clear cx fx cr hrl
         go_wp2_with fail
         go_roundw
         case rel => first | exact HEND.out | (rw [hwk]; exact HEND.out)
         case measure => first | exact less_step rfl HLT.out | exact less_step hwk HLT.out
       ·have e3 : (kd == 3) = false := by simpa using hk3
        have e3n : (kd != 3) = true := by simp [hk3]
        obtain ⟨c8,c9,c10,c11,c12⟩ : W4.cell? ⟨wr.heap.size,8,none⟩ = some (.int .u8 x.va.k) ∧ W4.cell? ⟨wr.heap.size,9,none⟩ = some (.int .i64 x.va.n) ∧ W4.cell? ⟨wr.heap.size,10,none⟩ = some (.string x.va.s) ∧ W4.cell? ⟨wr.heap.size,11,none⟩ = some (.slice hd.va.lo x.va.ls.length hd.va.lc) ∧ W4.cell? ⟨wr.heap.size,12,none⟩ = some (.slice hd.va.to x.va.ts.length hd.va.tc) := t_cells x.va hd.va HM4.out.box.va
        have f8 := HM4.out.box.free 8
        have f9 := HM4.out.box.free 9
        have f10 := HM4.out.box.free 10
        have f11 := HM4.out.box.free 11
        have f12 := HM4.out.box.free 12
        obtain ⟨W,hW⟩ : ∃ W,W = putO W4 wr.heap.size 8 (.int .u8 0) (.int .i64 0) (.string ⟨#[]⟩) (.slice none 0 0) (.slice none 0 0) := ⟨_,rfl⟩
        have HMW0 := hid (show Mid (fun q => P1 q ∨ q = wr.heap.size) wr W (fixI (entI (infR ps2)) x) { hd with va := zHd } from by
         have he : ({ ({ x with height := 0 } : Inf) with va := zeroT } : Inf) = fixI (entI (infR ps2)) x := by unfold fixI; rw [if_neg hk2,if_neg (show ¬ x.hv = true from by unfold Inf.hv; rw [← hkd,decide_eq_false (show ¬ kd = 2 from hkd ▸ hk2),decide_eq_false hk3]; simp)]
         have hr := RanS.of_ran (P := fun q => q = wr.heap.size) (putO_ran W4 wr.heap.size 8 (.int .u8 0) (.int .i64 0) (.string ⟨#[]⟩) (.slice none 0 0) (.slice none 0 0)) rfl
         rw [← he,hW]
         exact ⟨HM4.out.box.setVa,(HM4.out.firm.step (hr.wide (fun q hq => Or.inr hq))).noVa,HM4.out.bel.trans (hr.below (fun q hq => by omega) HM4.out.bel.size)⟩)
        obtain ⟨y,hy⟩ : ∃ y,y = fixI (entI (infR ps2)) x := ⟨_,rfl⟩
        obtain ⟨h3,hh3⟩ : ∃ h3 : IHd,h3 = { hd with va := zHd } := ⟨_,rfl⟩
        have HMW := HMW0
        rw [← hy,← hh3] at HMW
        have HY := hid hy
        unfold putO at hW
        clear hy hh3 hkd hk2 hk3 HMW0
        go_upto_region 18 with fail
        rw [← hW]
        clear hW c8 c9 c10 c11 c12 f8 f9 f10 f11 f12 c0 e2 e2n e3 e3n HM4
        have HHG2 := hid (show 0 ≤ y.height ∧ y.height ≤ ((infR ps2).length : Int) + 1 from HY.out ▸ HHG.out)
        clear HHG
        obtain ⟨av2,cv2,hv2⟩ := HE2.out.inr.form
        obtain ⟨bX,hbX⟩ : ∃ b,b = wr.heap.size := ⟨_,rfl⟩
        have HIR := hid (show IBox W bX y h3 from hbX ▸ HMW.out.box)
        have HXR : Hid (bX ≠ r) := hid (fun a => by have := HE2.out.lt r HE2.out.own; omega)
        have HBW := hid (HE2.out.below HMW.out.bel)
        have hbe : W.heap[r]? = some (.cells #[.slice av2 ps2.length cv2] 35) := by rw [← hv2]; exact HBW.out.box
        have HBE := hid hbe
        have HROW := hid (show W.ownsRow B 46 25 (.slice av2 ps2.length cv2) ps2.length (flatI ps2) from by have h0 := HBW.out.inr.row; rw [hv2] at h0; exact h0)
        have HXV : Hid ((Value.slice av2 ps2.length cv2).ownBlock ≠ some bX) := hid (fun a => by rw [← hv2] at a; have := HE2.out.lt _ (HE2.out.inr.own _ a); omega)
        have HRV : Hid ((Value.slice av2 ps2.length cv2).ownBlock ≠ some r) := hid (by rw [← hv2]; exact HE2.out.apart)
        have HV2 := hid hv2
        have cr : W.cell? ⟨r,0,none⟩ = some (.slice av2 ps2.length cv2) := by simp [World.cell?,hbe]
        have hrl : r < W.heap.size := (Array.getElem?_eq_some_iff.1 hbe).1
        have HRLW := hid hrl
        have HBB : Hid (B ≤ W.heap.size) := hid (by have := HE2.out.base r HE2.out.own; omega)
        obtain ⟨i0,hi,hz0,hz1,hz2⟩ := info_parts infoInf3
        have HNEWS := hid (World.news_of_block (cs := (y.vals h3).toArray) (t := 46) (fr := (0,0)) (World.alloc_heap_new W.drew _))
        rw [← hbX]
        clear hv2 hbX hbe
        refine wp_region_held_drew (S := fun w' => w'.rangeAt bX 0 (y.vals h3)) (by kernel_rfl) (HIR.out.range) (fun hHeld => ?_)
        refine wpAnyH_take (i := 0) (v := ?vad3a0) rfl (by kernel_rfl) (by kernel_rfl) (by kernel_rfl) (fun _ _ _ h => h) (Or.inl ⟨by rfl,?hyad3a0⟩) (by assumption) ?restad3a0
        case hyad3a0 => (intro w' hSw; (try dsimp only at hSw); go_simp <;> with_reducible rfl)
        try simp only [zqT,zqZ,Act.put,zqB,zq0,zq1]
        refine wpAnyH_take (i := 1) (v := ?vad3a1) rfl (by kernel_rfl) (by kernel_rfl) (by kernel_rfl) (fun _ _ _ h => h) (Or.inl ⟨by rfl,?hyad3a1⟩) (by assumption) ?restad3a1
        case hyad3a1 => (intro w' hSw; (try dsimp only at hSw); go_simp <;> with_reducible rfl)
        try simp only [zqT,zqS,zqZ,Act.put,zqB,zq0,zq1]
        refine wpAnyH_take (i := 2) (v := ?vad3a2) rfl (by kernel_rfl) (by kernel_rfl) (by kernel_rfl) (fun _ _ _ h => h) (Or.inl ⟨by rfl,?hyad3a2⟩) (by assumption) ?restad3a2
        case hyad3a2 => (intro w' hSw; (try dsimp only at hSw); go_simp <;> with_reducible rfl)
        try simp only [zqT,zqS,zqZ,Act.put,zqB,zq0,zq1]
        refine wpAnyH_take (i := 3) (v := ?vad3a3) rfl (by kernel_rfl) (by kernel_rfl) (by kernel_rfl) (fun _ _ _ h => h) (Or.inl ⟨by rfl,?hyad3a3⟩) (by assumption) ?restad3a3
        case hyad3a3 => (intro w' hSw; (try dsimp only at hSw); go_simp <;> with_reducible rfl)
        try simp only [zqT,zqS,zqZ,Act.put,zqB,zq0,zq1]
        refine wpAnyH_take (i := 5) (v := .agg (y.vals h3).toArray) rfl (by kernel_rfl) (by kernel_rfl) (by kernel_rfl) (fun _ _ _ h => h) (yieldsIf_load_mid rfl 46 (.tmp 8) rfl bX 0 rfl (y.vals h3) _ (fun _ h => h) Tryz.underlying46 rfl HKL.out) (by assumption) ?_
        try simp only [zqT,zqS,zqZ,Act.put,zqB,zq0,zq1]
        refine wpAnyH_ready (rs := [4,6]) (by kernel_rfl) (by simp) ?_
        refine AllReadyH.cons rfl (fun K hK => ?_) (AllReadyH.cons rfl (fun K hK => ?_) AllReadyH.nil)
        ·go_simp
         refine hK.out _ _ (show World.rangeAt _ bX 0 (y.vals h3) from HIR.out.range) (fun hHeld => ?_)
         clear hK K
         try simp only [zqT,zqS,zqZ,Act.put,zqB,zq0,zq1]
         refine wpAnyH_ready (rs := [6]) (by kernel_rfl) (by simp) ?_
         refine AllReadyH.cons rfl (fun K hK => ?_) AllReadyH.nil
         refine step_bslice7 rfl 22 46 1 _ rfl (some 67) rfl (y.vals h3).toArray Tryz.underlying22 (by kernel_rfl) ?_
         refine hK.out _ _ (show World.rangeAt _ bX 0 (y.vals h3) from (range_below (w := W.drew) HIR.out.range (below_one W.drew (.cells (y.vals h3).toArray 46)) HIR.out.lt)) (fun hHeld => ?_)
         clear hK K
         try simp only [Act.put,zqB,zq0,zq1]
         refine wpAnyH_ready (rs := [7]) (by kernel_rfl) (by simp) ?_
         refine AllReadyH.cons rfl (fun K hK => ?_) AllReadyH.nil
         refine step_append_lies _ (by rfl) _ _ _ (by rfl) B 46 i0 _ 25 320 Tryz.underlying22 hi hz0 hz1 hz2 rfl (by decide) _ ps2.length (flatI ps2) (by rfl) ((show W.drew.ownsRow B 46 25 (.slice av2 ps2.length cv2) ps2.length (flatI ps2) from HROW.out).alloc _) ⟨W.heap.size,0,none⟩ 1 1 (y.vals h3) (by rfl) (by rfl) HNEWS.out (HKS.out _ _) Nat.one_pos (by unfold maxLen; have := HPF2.out; omega) (by have := HPF2.out; omega) (by first | (rw [World.size_alloc]; have := HBB.out; show B ≤ W.heap.size + 1; omega) | (show B ≤ (W.alloc _).heap.size; rw [World.size_alloc]; have := HBB.out; omega)) (W.heap.size + 1) (by first | rfl | (show (W.alloc (.cells (y.vals h3).toArray 46)).heap.size = _; rw [World.size_alloc])) ?_
         intro g1 cap1 w10 hown10 hg10 hat10 hlt10
         have HO10 := hid hown10
         have HG10 := hid (show (W.drew.alloc (.cells (y.vals h3).toArray 46)).grownBy w10 (Value.slice av2 ps2.length cv2).ownBlock from hg10)
         have HAT10 := hid hat10
         have HLT10 := hid hlt10
         clear hown10 hg10 hat10 hlt10
         have HX10 := hid (show IBox w10 bX y h3 from (HG10.out.block bX (by rw [World.size_alloc]; show bX < W.heap.size + 1; have := HIR.out.lt; omega) (fun a => HXV.out a.symm)).trans (((below_one W.drew (.cells (y.vals h3).toArray 46)).block bX (show bX < W.heap.size from HIR.out.lt)).trans HIR.out))
         have hb10 := (HG10.out.block r (by rw [World.size_alloc]; show r < W.heap.size + 1; have := HRLW.out; omega) (fun a => HRV.out a.symm)).trans (((below_one W.drew (.cells (y.vals h3).toArray 46)).block r (show r < W.heap.size from HRLW.out)).trans HBE.out)
         have cx : w10.cell? ⟨r,0,none⟩ = some (.slice av2 ps2.length cv2) := by simp [World.cell?,hb10]
         have fx : w10.frozen? ⟨r,0,none⟩ = false := by simp [World.frozen?,hb10]
         clear hb10
         refine hK.out _ _ (HX10.out.range) (fun hHeld => ?_)
         clear hK K
         try simp only [Act.put,zqB]
         refine wpAnyH_take (i := 8) (v := ?vad3b8) rfl (by kernel_rfl) (by kernel_rfl) (by kernel_rfl) (fun _ _ _ h => h) (Or.inl ⟨by rfl,?hyad3b8⟩) (by assumption) ?restad3b8
         case hyad3b8 => (intro w' hSw; (try dsimp only at hSw); go_simp <;> with_reducible rfl)
         try simp only [zqT,zqS,zqZ,Act.put,zqB,zq0,zq1]
         refine wpAnyH_take (i := 9) (v := ?vad3b9) rfl (by kernel_rfl) (by kernel_rfl) (by kernel_rfl) (fun _ _ _ h => h) (Or.inl ⟨by rfl,?hyad3b9⟩) (by assumption) ?restad3b9
         case hyad3b9 => (intro w' hSw; (try dsimp only at hSw); go_simp <;> with_reducible rfl)
         try simp only [zqT,zqS,zqZ,Act.put,zqB,zq0,zq1]
         refine wpAnyH_ready (rs := [10]) (by kernel_rfl) (by simp) ?_
         refine AllReadyH.cons rfl (fun K hK => ?_) AllReadyH.nil
         go_simp
         refine hK.out _ _ (show World.rangeAt _ bX 0 (y.vals h3) from (show IBox (w10.setCell ⟨r,0,none⟩ (.slice (some ⟨g1,0,none⟩) (ps2.length + 1) cap1)) bX y h3 from (RowKit.Below.heap_setCell _ ⟨r,0,none⟩ _ _ (show bX ≠ (⟨r,0,none⟩ : Addr).block from HXR.out)).trans HX10.out).range) (fun hHeld => ?_)
         clear hK K
         try simp only [zqT,zqS,zqZ,Act.put,zqB,zq0,zq1]
         refine wpAnyH_done (by kernel_rfl) ?_ _
         have HPU := hid (HE2.out.push HMW.out (by rw [← HL2.out] at *; exact HO10.out) (by rw [HV2.out]; exact HG10.out) (by rw [HV2.out]; exact HAT10.out) HLT10.out HPF2.out (by have := HHG2.out; have := HL2.out; omega))
         have HEND := hid (HNX.out _ _ _ _ HY.out HPU.out)
         have hwk := (wk_two hkb).1
         have hwk2 := (wk_two hkb).2
         clear cx fx cr hrl
         go_wp2_with fail
         go_roundw
         case rel => first | exact HEND.out | (rw [hwk]; exact HEND.out)
         case measure => first | exact less_step rfl HLT.out | exact less_step hwk HLT.out
        ·refine step_bslice7 rfl 22 46 1 _ rfl (some 67) rfl (y.vals h3).toArray Tryz.underlying22 (by kernel_rfl) ?_
         refine hK.out _ _ (show World.rangeAt _ bX 0 (y.vals h3) from (range_below (w := W.drew) HIR.out.range (below_one W.drew (.cells (y.vals h3).toArray 46)) HIR.out.lt)) (fun hHeld => ?_)
         clear hK K
         try simp only [Act.put,zqB,zq0,zq1]
         refine wpAnyH_ready (rs := [4]) (by kernel_rfl) (by simp) ?_
         refine AllReadyH.cons rfl (fun K hK => ?_) AllReadyH.nil
         have cr9 : (W.alloc (.cells (y.vals h3).toArray 46)).cell? ⟨r,0,none⟩ = some (.slice av2 ps2.length cv2) := ((below_one W (.cells (y.vals h3).toArray 46)).cell (p := ⟨r,0,none⟩) hrl).trans cr
         have cr8 : (W.drew.alloc (.cells (y.vals h3).toArray 46)).cell? ⟨r,0,none⟩ = some (.slice av2 ps2.length cv2) := ((below_one W.drew (.cells (y.vals h3).toArray 46)).cell (p := ⟨r,0,none⟩) hrl).trans cr
         go_simp
         refine hK.out _ _ (show World.rangeAt _ bX 0 (y.vals h3) from (range_below (w := W.drew) HIR.out.range (below_one W.drew (.cells (y.vals h3).toArray 46)) HIR.out.lt)) (fun hHeld => ?_)
         clear hK K cr9 cr8
         try simp only [zqT,zqS,zqZ,Act.put,zqB,zq0,zq1]
         refine wpAnyH_ready (rs := [7]) (by kernel_rfl) (by simp) ?_
         refine AllReadyH.cons rfl (fun K hK => ?_) AllReadyH.nil
         refine step_append_lies _ (by rfl) _ _ _ (by rfl) B 46 i0 _ 25 320 Tryz.underlying22 hi hz0 hz1 hz2 rfl (by decide) _ ps2.length (flatI ps2) (by rfl) ((show W.drew.ownsRow B 46 25 (.slice av2 ps2.length cv2) ps2.length (flatI ps2) from HROW.out).alloc _) ⟨W.heap.size,0,none⟩ 1 1 (y.vals h3) (by rfl) (by rfl) HNEWS.out (HKS.out _ _) Nat.one_pos (by unfold maxLen; have := HPF2.out; omega) (by have := HPF2.out; omega) (by first | (rw [World.size_alloc]; have := HBB.out; show B ≤ W.heap.size + 1; omega) | (show B ≤ (W.alloc _).heap.size; rw [World.size_alloc]; have := HBB.out; omega)) (W.heap.size + 1) (by first | rfl | (show (W.alloc (.cells (y.vals h3).toArray 46)).heap.size = _; rw [World.size_alloc])) ?_
         intro g1 cap1 w10 hown10 hg10 hat10 hlt10
         have HO10 := hid hown10
         have HG10 := hid (show (W.drew.alloc (.cells (y.vals h3).toArray 46)).grownBy w10 (Value.slice av2 ps2.length cv2).ownBlock from hg10)
         have HAT10 := hid hat10
         have HLT10 := hid hlt10
         clear hown10 hg10 hat10 hlt10
         have HX10 := hid (show IBox w10 bX y h3 from (HG10.out.block bX (by rw [World.size_alloc]; show bX < W.heap.size + 1; have := HIR.out.lt; omega) (fun a => HXV.out a.symm)).trans (((below_one W.drew (.cells (y.vals h3).toArray 46)).block bX (show bX < W.heap.size from HIR.out.lt)).trans HIR.out))
         have hb10 := (HG10.out.block r (by rw [World.size_alloc]; show r < W.heap.size + 1; have := HRLW.out; omega) (fun a => HRV.out a.symm)).trans (((below_one W.drew (.cells (y.vals h3).toArray 46)).block r (show r < W.heap.size from HRLW.out)).trans HBE.out)
         have cx : w10.cell? ⟨r,0,none⟩ = some (.slice av2 ps2.length cv2) := by simp [World.cell?,hb10]
         have fx : w10.frozen? ⟨r,0,none⟩ = false := by simp [World.frozen?,hb10]
         clear hb10
         refine hK.out _ _ (HX10.out.range) (fun hHeld => ?_)
         clear hK K
         try simp only [Act.put,zqB]
         refine wpAnyH_take (i := 8) (v := ?vad3c8) rfl (by kernel_rfl) (by kernel_rfl) (by kernel_rfl) (fun _ _ _ h => h) (Or.inl ⟨by rfl,?hyad3c8⟩) (by assumption) ?restad3c8
         case hyad3c8 => (intro w' hSw; (try dsimp only at hSw); go_simp <;> with_reducible rfl)
         try simp only [zqT,zqS,zqZ,Act.put,zqB,zq0,zq1]
         refine wpAnyH_take (i := 9) (v := ?vad3c9) rfl (by kernel_rfl) (by kernel_rfl) (by kernel_rfl) (fun _ _ _ h => h) (Or.inl ⟨by rfl,?hyad3c9⟩) (by assumption) ?restad3c9
         case hyad3c9 => (intro w' hSw; (try dsimp only at hSw); go_simp <;> with_reducible rfl)
         try simp only [zqT,zqS,zqZ,Act.put,zqB,zq0,zq1]
         refine wpAnyH_ready (rs := [10]) (by kernel_rfl) (by simp) ?_
         refine AllReadyH.cons rfl (fun K hK => ?_) AllReadyH.nil
         go_simp
         refine hK.out _ _ (show World.rangeAt _ bX 0 (y.vals h3) from (show IBox (w10.setCell ⟨r,0,none⟩ (.slice (some ⟨g1,0,none⟩) (ps2.length + 1) cap1)) bX y h3 from (RowKit.Below.heap_setCell _ ⟨r,0,none⟩ _ _ (show bX ≠ (⟨r,0,none⟩ : Addr).block from HXR.out)).trans HX10.out).range) (fun hHeld => ?_)
         clear hK K
         try simp only [zqT,zqS,zqZ,Act.put,zqB,zq0,zq1]
         refine wpAnyH_done (by kernel_rfl) ?_ _
         have HPU := hid (HE2.out.push HMW.out (by rw [← HL2.out] at *; exact HO10.out) (by rw [HV2.out]; exact HG10.out) (by rw [HV2.out]; exact HAT10.out) HLT10.out HPF2.out (by have := HHG2.out; have := HL2.out; omega))
         have HEND := hid (HNX.out _ _ _ _ HY.out HPU.out)
         have hwk := (wk_two hkb).1
         have hwk2 := (wk_two hkb).2
         clear cx fx cr hrl
         go_wp2_with fail
         go_roundw
         case rel => first | exact HEND.out | (rw [hwk]; exact HEND.out)
         case measure => first | exact less_step rfl HLT.out | exact less_step hwk HLT.out
     ·have hke : k = l.length := by omega
      subst hke
      have HE : Hid (Q (.returned (.int .i64 0)) wr) := hid (by
       rw [HQQ.out]
       refine ⟨by rw [HWZ.out],v2,ps2,P1,HE2.out,?_,HR2.out,HO2.out,HP1.out,HPW.out⟩
       rw [if_pos HWZ.out,HI2.out,List.take_length])
      go_wp2_with fail
      exact HE.out
end Go.Proofs.YtiekbhlnnmnklaaGreat
