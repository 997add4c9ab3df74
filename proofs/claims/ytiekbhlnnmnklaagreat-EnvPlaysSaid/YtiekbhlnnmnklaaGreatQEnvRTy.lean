/-
 battenref07.told,Type,Value.
-/
import Derived.Lib.Hide
import Derived.Test.YtiekbhlnnmnklaaGreatQEnvRGet
import Derived.Test.YtiekbhlnnmnklaaGreatQB29
import Derived.Test.YtiekbhlnnmnklaaGreatQB28
import Derived.Test.YtiekbhlnnmnklaaGreatQB17
open Go.Lib (hid)
set_option maxRecDepth 100000
set_option maxHeartbeats 32000000
namespace Go.Proofs.YtiekbhlnnmnklaaGreat
open Go.RowKit Go.Shelf Go.Maps Lvl Trm Env
theorem told7_any {B : Nat} (t : Tm) (h : Hd) (L : List Lv) (bo : Option Addr) (bc : Nat) (w : World) (hL : L.length ≤ 1000000) (ht : t.may = true) (hin : t.In B w h) (hrow : LRow w bo L) (hlo : Low B bo L.length) (hB : B ≤ w.heap.size) :
 Calls Tryz.prog 66 #[t.val h,.slice bo L.length bc] w (LevPost B w (levB L t)) := by
 obtain ⟨WB,hWB⟩ : ∃ WB,WB = (w.alloc (t.box h)).alloc (.cells #[.int .u8 0,.int .i64 0,.string no,.slice none 0 0,.slice none 0 0] 27) := ⟨_,rfl⟩
 have HBB := hid (show Below w.heap.size w WB from hWB ▸ below_two _ _ _)
 have HBX := hid (show WB.heap[w.heap.size]? = some (t.box h) from hWB ▸ new1of2 _ _ _)
 have HBA := hid (show WB.heap[w.heap.size + 1]? = some (.cells #[.int .u8 0,.int .i64 0,.string no,.slice none 0 0,.slice none 0 0] 27) from hWB ▸ new2 _ _ _)
 have HX := hid (RefLevels_any L bo bc hL B t h 1 WB (OkMay.start ht) (hin.below (HBB.out.mono hB)) (hrow.below HBB.out) hlo (Nat.le_trans hB HBB.out.size))
 have HHB := hid hB
 have HWS : Hid (WB.heap.size = w.heap.size + 2) := hid (by rw [hWB]; simp)
 obtain ⟨a,ha⟩ : ∃ a,a = levB L t := ⟨_,rfl⟩
 rw [← ha] at HX ⊢
 clear ha hin hrow hlo ht hL
 obtain ⟨a1,a2⟩ := a
 obtain ⟨x0,x1,x2,x3,x4⟩ := Tm.cells HBX.out
 unfold Tm.val Tm.vals at *
 go_enter Tryz.func66,Tryz.ntmps66
 unfold Tm.box Tm.vals no at hWB
 go_upto_region 1 with fail
 rw [← hWB]
 clear hWB
 go_wp2_with fail
 refine HX.out.mono ?_
 rintro y w2 ⟨h',rfl,hf2,b2⟩
 have HF2 : Hid (FirmS (fun q => B ≤ q ∧ q < WB.heap.size) w2 a1 h') := hid hf2
 have HB2 := hid (Trm.go HBB.out b2)
 have HA2 := hid (Lvl.keep b2 HBA.out)
 obtain ⟨q0,q1,q2,q3,q4⟩ := five_cells HA2.out
 obtain ⟨f0,f1,f2,f3,f4⟩ := five_free HA2.out
 clear hf2 b2 x0 x1 x2 x3 x4
 dsimp only [Tm.val,Tm.vals]
 go_wp2_with fail
 have h5 := putT_self HA2.out (.int .u8 a1.k) (.int .i64 a1.n) (.string a1.s) (.slice h'.lo a1.ls.length h'.lc) (.slice h'.to a1.ts.length h'.tc)
 have b5 := putT_below HB2.out (by omega : w.heap.size ≤ w.heap.size + 1) (.int .u8 a1.k) (.int .i64 a1.n) (.string a1.s) (.slice h'.lo a1.ls.length h'.lc) (.slice h'.to a1.ts.length h'.tc)
 have r5 := putT_ran w2 (w.heap.size + 1) (.int .u8 a1.k) (.int .i64 a1.n) (.string a1.s) (.slice h'.lo a1.ls.length h'.lc) (.slice h'.to a1.ts.length h'.tc)
 have i5 := firm_turnE (P' := fun q => B ≤ q ∧ q < w.heap.size) HF2.out (RanS.of_ran (P := fun q => B ≤ q ∧ q < WB.heap.size) r5 ⟨by have := HHB.out; omega,by rw [HWS.out]; omega⟩) (fun q hq => Or.inl ⟨hq.1,by have := hq.2; rw [HWS.out]; omega⟩)
 unfold putT at h5 b5 i5
 clear r5
 generalize hW : ((((w2.setCell ⟨w.heap.size + 1,0,none⟩ (.int .u8 a1.k)).setCell ⟨w.heap.size + 1,1,none⟩ (.int .i64 a1.n)).setCell ⟨w.heap.size + 1,2,none⟩ (.string a1.s)).setCell ⟨w.heap.size + 1,3,none⟩ (.slice h'.lo a1.ls.length h'.lc)).setCell ⟨w.heap.size + 1,4,none⟩ (.slice h'.to a1.ts.length h'.tc) = W4 at h5 b5 i5 ⊢
 obtain ⟨e0,e1,e2,e3,e4⟩ := five_cells h5
 have HI5 := hid i5
 clear hW i5 q0 q1 q2 q3 q4 f0 f1 f2 f3 f4
 exact bodyPost_ret (v := .tuple #[a1.val h',.int .i64 a2]) (by simp [results,Tryz.results66,go_sem,e0,e1,e2,e3,e4,Tm.val,Tm.vals]) rfl ⟨h',rfl,HI5.out,b5⟩
theorem type7_any {w : World} {r : Nat} {L : List Inf} {M : List Ent} (hM : infs M = L) (hc : RCtx w r L) (hmay : ∀ p ∈ M,p.2.1.ty.may = true) (t : Tm) (ht : Hd) (hin : t.In w.heap.size w ht) (hl : t.ls.length ≤ 1000000) :
 Calls Tryz.prog 26 #[.pointer (some ⟨r,0,none⟩),t.val ht] w (TAns (tyAns M t) w) := by
 obtain ⟨WB,hWB⟩ : ∃ WB,WB = (w.alloc (t.box ht)).alloc (.cells #[.int .u8 0,.int .i64 0,.string no,.slice none 0 0,.slice none 0 0] 27) := ⟨_,rfl⟩
 have HBB := hid (show Below w.heap.size w WB from hWB ▸ below_two _ _ _)
 have HBX := hid (show WB.heap[w.heap.size]? = some (t.box ht) from hWB ▸ new1of2 _ _ _)
 have HBA := hid (show WB.heap[w.heap.size + 1]? = some (.cells #[.int .u8 0,.int .i64 0,.string no,.slice none 0 0,.slice none 0 0] 27) from hWB ▸ new2 _ _ _)
 have HWS : Hid (WB.heap.size = w.heap.size + 2) := hid (by rw [hWB]; simp)
 have HAT := hid (at7_any hM (hc.b.below HBB.out) t ht (carry hin HBB.out))
 have HMY := hid hmay
 have HIN := hid hin
 have HLL := hid hl
 have HAN0 : Hid (ofE M t ≠ 0 → tyAns M t = (zeroT,ofE M t)) := hid (fun h => by unfold tyAns; rw [ofO_none h])
 have HAN1 : Hid (∀ p,ofO M t = some p → tyAns M t = levelsAns p.2.1.ty t.ls) := hid (fun p h => by unfold tyAns; rw [h])
 obtain ⟨a,ha⟩ : ∃ a,a = tyAns M t := ⟨_,rfl⟩
 rw [← ha] at HAN0 HAN1 ⊢
 obtain ⟨oe,hoe⟩ : ∃ q,q = ofE M t := ⟨_,rfl⟩
 have HOE := hid hoe
 clear ha hM hc hmay hin hl
 obtain ⟨a1,a2⟩ := a
 obtain ⟨x0,x1,x2,x3,x4⟩ := Tm.cells HBX.out
 have HKR : ∀ {x : Inf} {h : IHd},Hid ((Tryz.prog.info? 46).map (·.size) = some (x.vals h).toArray.size) := fun {x h} => hid infoInf
 have HKL : ∀ {x : Inf} {h : IHd},Hid ((Tryz.prog.info? 46).map (·.size) = some (x.vals h).length) := fun {x h} => hid infoInf
 have HKZ : Hid (∀ (x : Inf) (h : IHd),Inf.zeros.size = (x.vals h).toArray.size) := hid (fun _ _ => rfl)
 have HKO : Hid (∀ (x : Inf) (h : IHd),(x.vals h).toArray.all (·.oneCell') = true) := hid (fun x h => vals_one x h)
 have HKS : Hid (∀ (x : Inf) (h : IHd),∀ u ∈ x.vals h,u.oneCell' = true) := hid (fun x h u hu => by have := vals_one x h; rw [List.all_toArray,List.all_eq_true] at this; exact this u hu)
 unfold Tm.val Tm.vals at *
 go_enter Tryz.func26,Tryz.ntmps26
 unfold Tm.box Tm.vals no at hWB
 go_upto_region 1 with fail
 rw [← hWB]
 clear hWB
 go_wp2_with fail
 refine HAT.out.mono ?_
 rintro y w1 ⟨b1,z,hz,rfl,hok⟩
 rw [← hoe] at hok ⊢
 have HOK := hid hok
 have HB1 := hid (Trm.go HBB.out b1)
 have HA1 := hid (Lvl.keep b1 HBA.out)
 have HX1 := hid (Lvl.keep b1 HBX.out)
 have HS1 := hid b1.size
 rw [← hoe] at HAN0
 clear hok b1 x0 x1 x2 x3 x4 hoe
 dsimp only
 go_upto_region 2 with (refine wpList_store_row rfl 46 (.tmp 6) (.tmp 12) rfl w1.heap.size _ rfl rfl 46 Inf.zeros (World.alloc_heap_new _ _) HKR.out (HKZ.out _ _) (HKO.out _ _) ?_)
 rw [World.setRow_alloc_new]
 obtain ⟨W3,hW3⟩ : ∃ W,W = w1.alloc (.cells (z.vals hz).toArray 46) := ⟨_,rfl⟩
 have hb3 : Below w1.heap.size w1 W3 := hW3 ▸ below_one _ _
 have HB3 := hid (Trm.go HB1.out hb3)
 have HA3 := hid (Lvl.keep hb3 HA1.out)
 have HX3 := hid (Lvl.keep hb3 HX1.out)
 have HY3 := hid (show IBox W3 w1.heap.size z hz from hW3 ▸ World.alloc_heap_new _ _)
 have HZ3 := hid (fun (hi : z.In w.heap.size w1 hz) => (show z.In w.heap.size W3 hz from hi.below (hb3.mono HB1.out.size)))
 have HS3 := hid (Nat.le_trans HS1.out hb3.size)
 obtain ⟨bY,hbY⟩ : ∃ b,b = w1.heap.size := ⟨_,rfl⟩
 rw [← hbY] at HY3
 rw [← hW3,← hbY]
 clear hW3 hbY hb3
 by_cases h0 : oe = 0
 ·obtain ⟨p,hlk,hO,hzp,hzi⟩ := HOK.out h0
  have HP := hid (HMY.out p (lookE_some hlk).1)
  have HZI := hid (HZ3.out hzi)
  have HAN := hid (HAN1.out p hO)
  rw [← hzp] at HP HAN
  subst h0
  clear hlk hO hzp hzi HOK
  obtain ⟨x0,x1,x2,x3,x4⟩ := Tm.cells HX3.out
  have c3 : W3.cell? ⟨bY,3,none⟩ = some (.int .u8 z.ty.k) := HY3.out.cell 3
  have c4 : W3.cell? ⟨bY,4,none⟩ = some (.int .i64 z.ty.n) := HY3.out.cell 4
  have c5 : W3.cell? ⟨bY,5,none⟩ = some (.string z.ty.s) := HY3.out.cell 5
  have c6 : W3.cell? ⟨bY,6,none⟩ = some (.slice hz.ty.lo z.ty.ls.length hz.ty.lc) := HY3.out.cell 6
  have c7 : W3.cell? ⟨bY,7,none⟩ = some (.slice hz.ty.to z.ty.ts.length hz.ty.tc) := HY3.out.cell 7
  have HTO := hid (told7_any (B := w.heap.size) z.ty hz.ty t.ls ht.lo ht.lc W3 HLL.out HP.out HZI.out.ty ((Tm.In_iff.1 HIN.out).2.1.below HB3.out) (Tm.In_iff.1 HIN.out).2.2.1 HB3.out.size)
  rw [← lev_same HP.out,← HAN.out] at HTO
  unfold Tm.val Tm.vals at HTO
  go_wp2_with fail
  refine HTO.out.mono ?_
  rintro y w2 ⟨h',rfl,hf2,b2⟩
  have HF2 : Hid (FirmS (fun q => w.heap.size ≤ q ∧ q < W3.heap.size) w2 a1 h') := hid hf2
  have HB2 := hid (Trm.go HB3.out b2)
  have HA2 := hid (Lvl.keep b2 HA3.out)
  obtain ⟨q0,q1,q2,q3,q4⟩ := five_cells HA2.out
  obtain ⟨f0,f1,f2,f3,f4⟩ := five_free HA2.out
  clear hf2 b2 x0 x1 x2 x3 x4 c3 c4 c5 c6 c7
  dsimp only [Tm.val,Tm.vals]
  go_wp2_with fail
  have h5 := putT_self HA2.out (.int .u8 a1.k) (.int .i64 a1.n) (.string a1.s) (.slice h'.lo a1.ls.length h'.lc) (.slice h'.to a1.ts.length h'.tc)
  have b5 := putT_below HB2.out (by omega : w.heap.size ≤ w.heap.size + 1) (.int .u8 a1.k) (.int .i64 a1.n) (.string a1.s) (.slice h'.lo a1.ls.length h'.lc) (.slice h'.to a1.ts.length h'.tc)
  have r5 := putT_ran w2 (w.heap.size + 1) (.int .u8 a1.k) (.int .i64 a1.n) (.string a1.s) (.slice h'.lo a1.ls.length h'.lc) (.slice h'.to a1.ts.length h'.tc)
  have i5 := (HF2.out.step (RanS.of_ran (P := fun q => w.heap.size ≤ q ∧ q < W3.heap.size) r5 ⟨by omega,by have := HS3.out; rw [HWS.out] at this; omega⟩)).here
  unfold putT at h5 b5 i5
  clear r5
  generalize hW : ((((w2.setCell ⟨w.heap.size + 1,0,none⟩ (.int .u8 a1.k)).setCell ⟨w.heap.size + 1,1,none⟩ (.int .i64 a1.n)).setCell ⟨w.heap.size + 1,2,none⟩ (.string a1.s)).setCell ⟨w.heap.size + 1,3,none⟩ (.slice h'.lo a1.ls.length h'.lc)).setCell ⟨w.heap.size + 1,4,none⟩ (.slice h'.to a1.ts.length h'.tc) = W4 at h5 b5 i5 ⊢
  obtain ⟨e0,e1,e2,e3,e4⟩ := five_cells h5
  have HI5 := hid i5
  clear hW i5 q0 q1 q2 q3 q4 f0 f1 f2 f3 f4
  exact bodyPost_ret (v := .tuple #[a1.val h',.int .i64 a2]) (by simp [results,Tryz.results26,go_sem,e0,e1,e2,e3,e4,Tm.val,Tm.vals]) rfl ⟨h',rfl,HI5.out,b5⟩
 ·have hz1 : (oe == 0) = false := by simpa using h0
  have hz2 : (oe != 0) = true := by simpa using h0
  have HAN := hid (HAN0.out h0)
  clear h0
  obtain ⟨a0,a1',a2',a3,a4⟩ := five_cells HA3.out
  obtain ⟨f0,f1,f2,f3,f4⟩ := five_free HA3.out
  obtain ⟨ha1,ha2⟩ := Prod.mk.inj HAN.out
  subst ha1 ha2
  go_wp2_with fail
  have h5 := putT_self HA3.out (.int .u8 0) (.int .i64 0) (.string no) (.slice none 0 0) (.slice none 0 0)
  have b5 := putT_below HB3.out (by omega : w.heap.size ≤ w.heap.size + 1) (.int .u8 0) (.int .i64 0) (.string no) (.slice none 0 0) (.slice none 0 0)
  unfold putT no at h5 b5
  generalize hW : ((((W3.setCell ⟨w.heap.size + 1,0,none⟩ (.int .u8 0)).setCell ⟨w.heap.size + 1,1,none⟩ (.int .i64 0)).setCell ⟨w.heap.size + 1,2,none⟩ (.string ⟨#[]⟩)).setCell ⟨w.heap.size + 1,3,none⟩ (.slice none 0 0)).setCell ⟨w.heap.size + 1,4,none⟩ (.slice none 0 0) = W4 at h5 b5 ⊢
  obtain ⟨e0,e1,e2,e3,e4⟩ := five_cells h5
  clear hW
  exact bodyPost_ret (v := .tuple #[zeroT.val ⟨none,0,none,0⟩,.int .i64 a2]) (by simp [results,Tryz.results26,go_sem,e0,e1,e2,e3,e4,zeroT,Tm.val,Tm.vals,Tm.k,Tm.n,Tm.s,Tm.ls,Tm.ts,no]) rfl ⟨⟨none,0,none,0⟩,rfl,leaf_in (by decide) (by decide) (by decide) (by decide) (by decide),b5⟩
theorem value7_any {w : World} {r : Nat} {L : List Inf} {M : List Ent} (hM : infs M = L) (hc : RCtx w r L) (hmay : ∀ p ∈ M,p.2.1.kind = 2 → p.2.1.va.may = true) (t : Tm) (ht : Hd) (hin : t.In w.heap.size w ht) (hl : t.ls.length ≤ 1000000) :
 Calls Tryz.prog 28 #[.pointer (some ⟨r,0,none⟩),t.val ht] w (TAns (vaAns M t) w) := by
 obtain ⟨WB,hWB⟩ : ∃ WB,WB = (w.alloc (t.box ht)).alloc (.cells #[.int .u8 0,.int .i64 0,.string no,.slice none 0 0,.slice none 0 0] 27) := ⟨_,rfl⟩
 have HBB := hid (show Below w.heap.size w WB from hWB ▸ below_two _ _ _)
 have HBX := hid (show WB.heap[w.heap.size]? = some (t.box ht) from hWB ▸ new1of2 _ _ _)
 have HBA := hid (show WB.heap[w.heap.size + 1]? = some (.cells #[.int .u8 0,.int .i64 0,.string no,.slice none 0 0,.slice none 0 0] 27) from hWB ▸ new2 _ _ _)
 have HWS : Hid (WB.heap.size = w.heap.size + 2) := hid (by rw [hWB]; simp)
 have HAT := hid (at7_any hM (hc.b.below HBB.out) t ht (carry hin HBB.out))
 have HMY := hid hmay
 have HIN := hid hin
 have HLL := hid hl
 have HAN0 : Hid (ofE M t ≠ 0 → vaAns M t = (zeroT,ofE M t)) := hid (fun h => by unfold vaAns; rw [ofO_none h])
 have HAN1 : Hid (∀ p,ofO M t = some p → vaAns M t = (if p.2.1.kind = 2 then levelsAns p.2.1.va t.ls else (zeroT,6))) := hid (fun p h => by unfold vaAns; rw [h])
 obtain ⟨a,ha⟩ : ∃ a,a = vaAns M t := ⟨_,rfl⟩
 rw [← ha] at HAN0 HAN1 ⊢
 obtain ⟨oe,hoe⟩ : ∃ q,q = ofE M t := ⟨_,rfl⟩
 have HOE := hid hoe
 clear ha hM hc hmay hin hl
 obtain ⟨a1,a2⟩ := a
 obtain ⟨x0,x1,x2,x3,x4⟩ := Tm.cells HBX.out
 have HKR : ∀ {x : Inf} {h : IHd},Hid ((Tryz.prog.info? 46).map (·.size) = some (x.vals h).toArray.size) := fun {x h} => hid infoInf
 have HKL : ∀ {x : Inf} {h : IHd},Hid ((Tryz.prog.info? 46).map (·.size) = some (x.vals h).length) := fun {x h} => hid infoInf
 have HKZ : Hid (∀ (x : Inf) (h : IHd),Inf.zeros.size = (x.vals h).toArray.size) := hid (fun _ _ => rfl)
 have HKO : Hid (∀ (x : Inf) (h : IHd),(x.vals h).toArray.all (·.oneCell') = true) := hid (fun x h => vals_one x h)
 have HKS : Hid (∀ (x : Inf) (h : IHd),∀ u ∈ x.vals h,u.oneCell' = true) := hid (fun x h u hu => by have := vals_one x h; rw [List.all_toArray,List.all_eq_true] at this; exact this u hu)
 unfold Tm.val Tm.vals at *
 go_enter Tryz.func28,Tryz.ntmps28
 unfold Tm.box Tm.vals no at hWB
 go_upto_region 1 with fail
 rw [← hWB]
 clear hWB
 go_wp2_with fail
 refine HAT.out.mono ?_
 rintro y w1 ⟨b1,z,hz,rfl,hok⟩
 rw [← hoe] at hok ⊢
 have HOK := hid hok
 have HB1 := hid (Trm.go HBB.out b1)
 have HA1 := hid (Lvl.keep b1 HBA.out)
 have HX1 := hid (Lvl.keep b1 HBX.out)
 have HS1 := hid b1.size
 rw [← hoe] at HAN0
 clear hok b1 x0 x1 x2 x3 x4 hoe
 dsimp only
 go_upto_region 2 with (refine wpList_store_row rfl 46 (.tmp 6) (.tmp 12) rfl w1.heap.size _ rfl rfl 46 Inf.zeros (World.alloc_heap_new _ _) HKR.out (HKZ.out _ _) (HKO.out _ _) ?_)
 rw [World.setRow_alloc_new]
 obtain ⟨W3,hW3⟩ : ∃ W,W = w1.alloc (.cells (z.vals hz).toArray 46) := ⟨_,rfl⟩
 have hb3 : Below w1.heap.size w1 W3 := hW3 ▸ below_one _ _
 have HB3 := hid (Trm.go HB1.out hb3)
 have HA3 := hid (Lvl.keep hb3 HA1.out)
 have HX3 := hid (Lvl.keep hb3 HX1.out)
 have HY3 := hid (show IBox W3 w1.heap.size z hz from hW3 ▸ World.alloc_heap_new _ _)
 have HZ3 := hid (fun (hi : z.In w.heap.size w1 hz) => (show z.In w.heap.size W3 hz from hi.below (hb3.mono HB1.out.size)))
 have HS3 := hid (Nat.le_trans HS1.out hb3.size)
 obtain ⟨bY,hbY⟩ : ∃ b,b = w1.heap.size := ⟨_,rfl⟩
 rw [← hbY] at HY3
 rw [← hW3,← hbY]
 clear hW3 hbY hb3
 by_cases h0 : oe = 0
 ·obtain ⟨p,hlk,hO,hzp,hzi⟩ := HOK.out h0
  have HP := hid (HMY.out p (lookE_some hlk).1)
  have HZI := hid (HZ3.out hzi)
  have HAN := hid (HAN1.out p hO)
  rw [← hzp] at HP HAN
  subst h0
  clear hlk hO hzp hzi HOK
  have k0 : W3.cell? ⟨bY,0,none⟩ = some (.int .u8 z.kind) := HY3.out.cell 0
  obtain ⟨kd,hkd⟩ : ∃ q,q = z.kind := ⟨_,rfl⟩
  rw [← hkd] at k0 HP HAN
  by_cases hk : kd = 2
  ·have hkb : (kd != 2) = false := by simp [hk]
   have HPV := hid (HP.out hk)
   rw [if_pos hk] at HAN
   subst hk
   clear hkd
   obtain ⟨x0,x1,x2,x3,x4⟩ := Tm.cells HX3.out
   have c3 : W3.cell? ⟨bY,8,none⟩ = some (.int .u8 z.va.k) := HY3.out.cell 8
   have c4 : W3.cell? ⟨bY,9,none⟩ = some (.int .i64 z.va.n) := HY3.out.cell 9
   have c5 : W3.cell? ⟨bY,10,none⟩ = some (.string z.va.s) := HY3.out.cell 10
   have c6 : W3.cell? ⟨bY,11,none⟩ = some (.slice hz.va.lo z.va.ls.length hz.va.lc) := HY3.out.cell 11
   have c7 : W3.cell? ⟨bY,12,none⟩ = some (.slice hz.va.to z.va.ts.length hz.va.tc) := HY3.out.cell 12
   have HTO := hid (told7_any (B := w.heap.size) z.va hz.va t.ls ht.lo ht.lc W3 HLL.out HPV.out HZI.out.va ((Tm.In_iff.1 HIN.out).2.1.below HB3.out) (Tm.In_iff.1 HIN.out).2.2.1 HB3.out.size)
   rw [← lev_same HPV.out,← HAN.out] at HTO
   unfold Tm.val Tm.vals at HTO
   go_wp2_with fail
   refine HTO.out.mono ?_
   rintro y w2 ⟨h',rfl,hf2,b2⟩
   have HF2 : Hid (FirmS (fun q => w.heap.size ≤ q ∧ q < W3.heap.size) w2 a1 h') := hid hf2
   have HB2 := hid (Trm.go HB3.out b2)
   have HA2 := hid (Lvl.keep b2 HA3.out)
   obtain ⟨q0,q1,q2,q3,q4⟩ := five_cells HA2.out
   obtain ⟨f0,f1,f2,f3,f4⟩ := five_free HA2.out
   clear hf2 b2 x0 x1 x2 x3 x4 c3 c4 c5 c6 c7
   dsimp only [Tm.val,Tm.vals]
   go_wp2_with fail
   have h5 := putT_self HA2.out (.int .u8 a1.k) (.int .i64 a1.n) (.string a1.s) (.slice h'.lo a1.ls.length h'.lc) (.slice h'.to a1.ts.length h'.tc)
   have b5 := putT_below HB2.out (by omega : w.heap.size ≤ w.heap.size + 1) (.int .u8 a1.k) (.int .i64 a1.n) (.string a1.s) (.slice h'.lo a1.ls.length h'.lc) (.slice h'.to a1.ts.length h'.tc)
   have r5 := putT_ran w2 (w.heap.size + 1) (.int .u8 a1.k) (.int .i64 a1.n) (.string a1.s) (.slice h'.lo a1.ls.length h'.lc) (.slice h'.to a1.ts.length h'.tc)
   have i5 := (HF2.out.step (RanS.of_ran (P := fun q => w.heap.size ≤ q ∧ q < W3.heap.size) r5 ⟨by omega,by have := HS3.out; rw [HWS.out] at this; omega⟩)).here
   unfold putT at h5 b5 i5
   clear r5
   generalize hW : ((((w2.setCell ⟨w.heap.size + 1,0,none⟩ (.int .u8 a1.k)).setCell ⟨w.heap.size + 1,1,none⟩ (.int .i64 a1.n)).setCell ⟨w.heap.size + 1,2,none⟩ (.string a1.s)).setCell ⟨w.heap.size + 1,3,none⟩ (.slice h'.lo a1.ls.length h'.lc)).setCell ⟨w.heap.size + 1,4,none⟩ (.slice h'.to a1.ts.length h'.tc) = W4 at h5 b5 i5 ⊢
   obtain ⟨e0,e1,e2,e3,e4⟩ := five_cells h5
   have HI5 := hid i5
   clear hW i5 q0 q1 q2 q3 q4 f0 f1 f2 f3 f4
   exact bodyPost_ret (v := .tuple #[a1.val h',.int .i64 a2]) (by simp [results,Tryz.results28,go_sem,e0,e1,e2,e3,e4,Tm.val,Tm.vals]) rfl ⟨h',rfl,HI5.out,b5⟩
  ·have hkb : (kd != 2) = true := by simp [hk]
   rw [if_neg hk] at HAN
   clear hkd hk
   obtain ⟨a0,a1',a2',a3,a4⟩ := five_cells HA3.out
   obtain ⟨f0,f1,f2,f3,f4⟩ := five_free HA3.out
   obtain ⟨ha1,ha2⟩ := Prod.mk.inj HAN.out
   subst ha1 ha2
   go_wp2_with fail
   have h5 := putT_self HA3.out (.int .u8 0) (.int .i64 0) (.string no) (.slice none 0 0) (.slice none 0 0)
   have b5 := putT_below HB3.out (by omega : w.heap.size ≤ w.heap.size + 1) (.int .u8 0) (.int .i64 0) (.string no) (.slice none 0 0) (.slice none 0 0)
   unfold putT no at h5 b5
   generalize hW : ((((W3.setCell ⟨w.heap.size + 1,0,none⟩ (.int .u8 0)).setCell ⟨w.heap.size + 1,1,none⟩ (.int .i64 0)).setCell ⟨w.heap.size + 1,2,none⟩ (.string ⟨#[]⟩)).setCell ⟨w.heap.size + 1,3,none⟩ (.slice none 0 0)).setCell ⟨w.heap.size + 1,4,none⟩ (.slice none 0 0) = W4 at h5 b5 ⊢
   obtain ⟨e0,e1,e2,e3,e4⟩ := five_cells h5
   clear hW
   exact bodyPost_ret (v := .tuple #[zeroT.val ⟨none,0,none,0⟩,.int .i64 6]) (by simp [results,Tryz.results28,go_sem,e0,e1,e2,e3,e4,zeroT,Tm.val,Tm.vals,Tm.k,Tm.n,Tm.s,Tm.ls,Tm.ts,no]) rfl ⟨⟨none,0,none,0⟩,rfl,leaf_in (by decide) (by decide) (by decide) (by decide) (by decide),b5⟩
 ·have hz1 : (oe == 0) = false := by simpa using h0
  have hz2 : (oe != 0) = true := by simpa using h0
  have HAN := hid (HAN0.out h0)
  clear h0
  obtain ⟨a0,a1',a2',a3,a4⟩ := five_cells HA3.out
  obtain ⟨f0,f1,f2,f3,f4⟩ := five_free HA3.out
  obtain ⟨ha1,ha2⟩ := Prod.mk.inj HAN.out
  subst ha1 ha2
  go_wp2_with fail
  have h5 := putT_self HA3.out (.int .u8 0) (.int .i64 0) (.string no) (.slice none 0 0) (.slice none 0 0)
  have b5 := putT_below HB3.out (by omega : w.heap.size ≤ w.heap.size + 1) (.int .u8 0) (.int .i64 0) (.string no) (.slice none 0 0) (.slice none 0 0)
  unfold putT no at h5 b5
  generalize hW : ((((W3.setCell ⟨w.heap.size + 1,0,none⟩ (.int .u8 0)).setCell ⟨w.heap.size + 1,1,none⟩ (.int .i64 0)).setCell ⟨w.heap.size + 1,2,none⟩ (.string ⟨#[]⟩)).setCell ⟨w.heap.size + 1,3,none⟩ (.slice none 0 0)).setCell ⟨w.heap.size + 1,4,none⟩ (.slice none 0 0) = W4 at h5 b5 ⊢
  obtain ⟨e0,e1,e2,e3,e4⟩ := five_cells h5
  clear hW
  exact bodyPost_ret (v := .tuple #[zeroT.val ⟨none,0,none,0⟩,.int .i64 a2]) (by simp [results,Tryz.results28,go_sem,e0,e1,e2,e3,e4,zeroT,Tm.val,Tm.vals,Tm.k,Tm.n,Tm.s,Tm.ls,Tm.ts,no]) rfl ⟨⟨none,0,none,0⟩,rfl,leaf_in (by decide) (by decide) (by decide) (by decide) (by decide),b5⟩
end Go.Proofs.YtiekbhlnnmnklaaGreat
