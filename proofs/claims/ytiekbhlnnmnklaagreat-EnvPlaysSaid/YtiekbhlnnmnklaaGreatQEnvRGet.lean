/-
 battenref07.Find,at.
-/
import Derived.Lib.Hide
import Derived.Test.YtiekbhlnnmnklaaGreatQEnvRCheck
import Derived.Test.YtiekbhlnnmnklaaGreatQB27
import Derived.Test.YtiekbhlnnmnklaaGreatQB29
open Go.Lib (hid)
set_option maxRecDepth 100000
set_option maxHeartbeats 32000000
namespace Go.Proofs.YtiekbhlnnmnklaaGreat
open Go.RowKit Go.Shelf Go.Maps Lvl Trm Env
namespace Env
structure RCtxB (B : Nat) (w : World) (r : Nat) (L : List Inf) : Prop where
 row : ∃ a c,w.cell? ⟨r,0,none⟩ = some (.slice a L.length c) ∧ InfRow B w a L
 few : L.length ≤ 4096
 hB : B ≤ w.heap.size
theorem RCtx.b {w : World} {r : Nat} {L : List Inf} (h : RCtx w r L) : RCtxB w.heap.size w r L := ⟨h.row,h.few,Nat.le_refl _⟩
theorem RCtxB.below {B : Nat} {w w' : World} {r : Nat} {L : List Inf} (h : RCtxB B w r L) (g : Below w.heap.size w w') : RCtxB B w' r L := by
 obtain ⟨a,c,h1,h2⟩ := h.row
 exact ⟨⟨a,c,(g.cell (p := ⟨r,0,none⟩) (World.block_lt_of_cell? w _ h1)).trans h1,h2.below (g.mono h.hB)⟩,h.few,Nat.le_trans h.hB g.size⟩
def Fd7 (B : Nat) (M : List Ent) (k : List UInt8) (w : World) (y : Ending) (w' : World) : Prop :=
 Below w.heap.size w w' ∧ ((lookE M k = none ∧ y = .returned (.tuple #[zInfo,.bool false])) ∨ ∃ p h,lookE M k = some p ∧ y = .returned (.tuple #[.agg (p.2.1.vals h).toArray,.bool true]) ∧ p.2.1.In B w' h)
def At7 (B : Nat) (M : List Ent) (t : Tm) (w : World) (y : Ending) (w' : World) : Prop :=
 Below w.heap.size w w' ∧ ∃ x h,y = .returned (.tuple #[.agg (x.vals h).toArray,.int .i64 (ofE M t)]) ∧ (ofE M t = 0 → ∃ p,lookE M (key t.s) = some p ∧ ofO M t = some p ∧ x = p.2.1 ∧ x.In B w' h)
theorem Fd7.two {B : Nat} {M : List Ent} {k : List UInt8} {w w' : World} {y : Ending} (a : Fd7 B M k w y w') : ∃ (z : Inf) (hz : IHd) (b : Bool),y = .returned (.tuple #[.agg (z.vals hz).toArray,.bool b]) ∧ Below w.heap.size w w' ∧ ((b = false ∧ lookE M k = none) ∨ (b = true ∧ ∃ p,lookE M k = some p ∧ z = p.2.1 ∧ z.In B w' hz)) := by
 obtain ⟨b,⟨h0,h1⟩ | ⟨p,h,h0,h1,h2⟩⟩ := a
 ·exact ⟨zI,zIHd,false,h1,b,Or.inl ⟨rfl,h0⟩⟩
 ·exact ⟨_,h,true,h1,b,Or.inr ⟨rfl,p,h0,rfl,h2⟩⟩
end Env
theorem find7E_any {B : Nat} {w : World} {r : Nat} {L : List Inf} {M : List Ent} (hM : infs M = L) (hc : RCtxB B w r L) (s : ByteArray) :
 Calls Tryz.prog 118 #[.pointer (some ⟨r,0,none⟩),.string s] w (Fd7 B M (key s) w) := by
 obtain ⟨WA,hWA⟩ : ∃ WA,WA = w.alloc (.cells Inf.zeros 46) := ⟨_,rfl⟩
 have HBA := hid (show Below w.heap.size w WA from hWA ▸ below_one _ _)
 have HZ := hid (show WA.heap[w.heap.size]? = some (.cells Inf.zeros 46) from hWA ▸ World.alloc_heap_new w _)
 have HKI : Hid ((Tryz.prog.info? 46).map (·.size) = some 25) := hid infoInf
 have hlook := findZ_look M s
 have hfm : findZ (M.map (·.2.1)) s = findZ L s := by rw [← hM]; rfl
 rw [hfm] at hlook
 obtain ⟨aL0,cL0,hcL0,hrL0⟩ := hc.row
 have HCL : Hid (WA.cell? ⟨r,0,none⟩ = some (.slice aL0 L.length cL0)) := hid ((HBA.out.cell (p := ⟨r,0,none⟩) (World.block_lt_of_cell? w _ hcL0)).trans hcL0)
 have HIR0 := hid hrL0
 have HHB := hid hc.hB
 have HIR := hid (show InfRow B WA aL0 L from hrL0.below (HBA.out.mono hc.hB))
 have HF := hid (find7_any L aL0 cL0 s WA HIR.out.nm (by have := hc.few; omega))
 have HLM := hid hM
 have HPO : Hid (∀ (y : Ending) (w' : World),Below w.heap.size w w' → ((lookE M (key s) = none ∧ y = .returned (.tuple #[zInfo,.bool false])) ∨ ∃ p h,lookE M (key s) = some p ∧ y = .returned (.tuple #[.agg (p.2.1.vals h).toArray,.bool true]) ∧ p.2.1.In B w' h) → Fd7 B M (key s) w y w') := hid (fun y w' h1 h2 => ⟨h1,h2⟩)
 obtain ⟨Q,hQ⟩ : ∃ Q,Q = Fd7 B M (key s) w := ⟨_,rfl⟩
 rw [← hQ] at HPO ⊢
 have cr := HCL.out
 unfold Inf.zeros at hWA
 clear hQ hM hc hfm hcL0 hrL0
 rcases hlook with ⟨hz,hlk⟩ | ⟨j,hj,hz,hlk,_⟩
 ·rw [hz] at HF
  have HC25 : Hid ((Tryz.prog.info? 46).map (·.size) = some Inf.zeros.size) := hid HKI.out
  have HONE : Hid (Inf.zeros.all (·.oneCell') = true) := hid (by kernel_rfl)
  have HEND := hid (HPO.out (.returned (.tuple #[zInfo,.bool false])) (WA.setRow w.heap.size Inf.zeros) (below_setRow HBA.out (Nat.le_refl _) _) (Or.inl ⟨hlk,rfl⟩))
  clear hz hlk
  go_enter Tryz.func118,Tryz.ntmps118
  go_upto_region 1 with fail
  rw [← hWA]
  clear hWA
  go_wp2_with fail
  refine HF.out.mono ?_
  rintro y w' ⟨rfl,rfl⟩
  go_wp2_with (first
   | (refine wpList_buildTo rfl 46 _ rfl (some 15) rfl Inf.zeros (by kernel_rfl) ?_)
   | (refine wpList_store_row rfl 46 (.tmp 4) (.tmp 15) rfl w.heap.size Inf.zeros rfl rfl 46 Inf.zeros HZ.out HC25.out rfl HONE.out ?_))
  exact bodyPost_ret_by (results_two rfl _ _ w.heap.size _ (.bool false) rfl rfl (run_loadVar_row _ _ _ _ _ _ _ (setRow_heap WA _ _ _ _ _ HZ.out) Tryz.underlying46 rfl HC25.out)) rfl HEND.out
 ·rw [hz] at HF
  have hjL : j < L.length := by rw [← HLM.out]; simpa [infs] using hj
  have hje : M[j].2.1 = L[j] := by
   have e : (infs M)[j]? = some M[j].2.1 := by unfold infs; rw [List.getElem?_map,List.getElem?_eq_getElem hj]; rfl
   rw [HLM.out,List.getElem?_eq_getElem hjL] at e
   injection e with e
   exact e.symm
  obtain ⟨b9,off9,hd9,hao9,hb9,hrg9,hin9⟩ := HIR0.out.place j hjL
  have HRG0 := hid (range_below hrg9 HBA.out (Nat.lt_of_lt_of_le hb9 HHB.out))
  obtain ⟨cs,hcs⟩ : ∃ cs,cs = (L[j].vals hd9) := ⟨_,rfl⟩
  have hsz : cs.length = 25 := by rw [hcs]; rfl
  have hone : cs.toArray.all (·.oneCell') = true := by rw [hcs]; exact vals_one _ _
  have HRG := hid (show WA.rangeAt b9 (off9 + j * 25) cs from by rw [hcs]; exact HRG0.out)
  have HCL2 : Hid ((Tryz.prog.info? 46).map (·.size) = some cs.length) := hid (by rw [HKI.out,hsz])
  have HCA : Hid ((Tryz.prog.info? 46).map (·.size) = some cs.toArray.size) := hid (by rw [HKI.out,List.size_toArray,hsz])
  have HC25 : Hid (Inf.zeros.size = cs.toArray.size) := hid (by rw [show cs.toArray.size = 25 from by rw [List.size_toArray,hsz]]; rfl)
  have HONE := hid hone
  have HEND := hid (HPO.out (.returned (.tuple #[.agg cs.toArray,.bool true])) (WA.setRow w.heap.size cs.toArray) (below_setRow HBA.out (Nat.le_refl _) _) (Or.inr ⟨M[j],hd9,hlk,by rw [hcs,hje],by
   have hb := below_setRow HBA.out (Nat.le_refl _) cs.toArray
   rw [hje]
   exact hin9.below (hb.mono HHB.out)⟩))
  have hj0 : (0 : Int) ≤ (j : Int) := by omega
  have hjn : ((j : Int) < 0) = False := eq_false (by omega)
  subst hao9
  have hr0 := HRG.out
  clear hz hlk hje hrg9 hin9 hcs hsz hone HRG0
  go_enter Tryz.func118,Tryz.ntmps118
  go_upto_region 1 with fail
  rw [← hWA]
  clear hWA
  go_wp2_with fail
  refine HF.out.mono ?_
  rintro y w' ⟨rfl,rfl⟩
  go_wp2_with (first
   | (refine wpList_load_mid rfl 46 (.tmp 21) rfl b9 (off9 + j * 25) rfl cs _ hr0 Tryz.underlying46 rfl HCL2.out ?_)
   | (refine wpList_store_row rfl 46 (.tmp 4) (.tmp 22) rfl w.heap.size cs.toArray rfl rfl 46 Inf.zeros HZ.out HCA.out HC25.out HONE.out ?_))
  exact bodyPost_ret_by (results_two rfl _ _ w.heap.size _ (.bool true) rfl rfl (run_loadVar_row _ _ _ _ _ _ _ (setRow_heap WA _ _ _ _ _ HZ.out) Tryz.underlying46 rfl HCA.out)) rfl HEND.out
theorem at7_any {B : Nat} {w : World} {r : Nat} {L : List Inf} {M : List Ent} (hM : infs M = L) (hc : RCtxB B w r L) (t : Tm) (ht : Hd) (hin : t.In w.heap.size w ht) :
 Calls Tryz.prog 65 #[.pointer (some ⟨r,0,none⟩),t.val ht] w (At7 B M t w) := by
 obtain ⟨WB,hWB⟩ : ∃ WB,WB = (w.alloc (t.box ht)).alloc (.cells Inf.zeros 46) := ⟨_,rfl⟩
 have HBB := hid (show Below w.heap.size w WB from hWB ▸ below_two _ _ _)
 have HBX := hid (show WB.heap[w.heap.size]? = some (t.box ht) from hWB ▸ new1of2 _ _ _)
 have HZ := hid (show WB.heap[w.heap.size + 1]? = some (.cells Inf.zeros 46) from hWB ▸ new2 _ _ _)
 have HMAY := hid (RefTMay_any t ht WB (carry hin HBB.out))
 have HFD := hid (fun (W : World) (hW : Below WB.heap.size WB W) => find7E_any hM ((hc.below HBB.out).below hW) t.s)
 have HPO : Hid (∀ (x : Inf) (h : IHd) (e : Int) (w' : World),Below w.heap.size w w' → e = ofE M t → (e = 0 → ∃ p,lookE M (key t.s) = some p ∧ ofO M t = some p ∧ x = p.2.1 ∧ x.In B w' h) → At7 B M t w (.returned (.tuple #[.agg (x.vals h).toArray,.int .i64 e])) w') := hid (fun x h e w' h1 h2 h3 => ⟨h1,x,h,by rw [h2],fun h0 => h3 (h2.trans h0)⟩)
 have HE1 : Hid (¬ (t.k = 3 ∧ t.may = true) → (1 : Int) = ofE M t) := hid (fun h => by unfold ofE; rw [if_neg h])
 have HE6 : Hid ((t.k = 3 ∧ t.may = true) → lookE M (key t.s) = none → (6 : Int) = ofE M t) := hid (fun h h0 => by unfold ofE; rw [if_pos h,h0])
 have HE8 : Hid ((t.k = 3 ∧ t.may = true) → ∀ p,lookE M (key t.s) = some p → (t.ls.length : Int) ≠ p.2.1.params → (8 : Int) = ofE M t) := hid (fun h p h0 hn => by unfold ofE; rw [if_pos h,h0]; simp only; rw [if_neg hn])
 have HE0 : Hid ((t.k = 3 ∧ t.may = true) → ∀ p,lookE M (key t.s) = some p → (t.ls.length : Int) = p.2.1.params → (0 : Int) = ofE M t) := hid (fun h p h0 hn => by unfold ofE; rw [if_pos h,h0]; simp only; rw [if_pos hn])
 have HOO : Hid (0 = ofE M t → ofO M t = lookE M (key t.s)) := hid (fun h => by unfold ofO; rw [if_pos h.symm])
 obtain ⟨Q,hQ⟩ : ∃ Q,Q = At7 B M t w := ⟨_,rfl⟩
 rw [← hQ] at HPO ⊢
 have HHB := hid hc.hB
 obtain ⟨x0,x1,x2,x3,x4⟩ := Tm.cells HBX.out
 clear hQ hM hc hin
 have HKR : ∀ {x : Inf} {h : IHd},Hid ((Tryz.prog.info? 46).map (·.size) = some (x.vals h).toArray.size) := fun {x h} => hid infoInf
 have HKL : ∀ {x : Inf} {h : IHd},Hid ((Tryz.prog.info? 46).map (·.size) = some (x.vals h).length) := fun {x h} => hid infoInf
 have HKZ : Hid (∀ (x : Inf) (h : IHd),Inf.zeros.size = (x.vals h).toArray.size) := hid (fun _ _ => rfl)
 have HKO : Hid (∀ (x : Inf) (h : IHd),(x.vals h).toArray.all (·.oneCell') = true) := hid (fun x h => vals_one x h)
 have HKS : Hid (∀ (x : Inf) (h : IHd),∀ u ∈ x.vals h,u.oneCell' = true) := hid (fun x h u hu => by have := vals_one x h; rw [List.all_toArray,List.all_eq_true] at this; exact this u hu)
 unfold Tm.val Tm.vals at *
 go_enter Tryz.func65,Tryz.ntmps65
 unfold Tm.box Tm.vals Inf.zeros at hWB
 go_upto_region 1 with fail
 rw [← hWB]
 clear hWB
 obtain ⟨tk,htk⟩ : ∃ q,q = t.k := ⟨_,rfl⟩
 rw [← htk] at HE1 HE6 HE8 HE0
 by_cases hk3 : tk = 3
 ·subst hk3
  have e3 : (t.k != 3) = false := by rw [← htk]; rfl
  have e4 : (t.k == 3) = true := by rw [← htk]; rfl
  have HTK := hid htk
  clear htk
  cases hmay : t.may
  ·rw [hmay] at HMAY
   have HE := hid (HE1.out (fun h => by rw [hmay] at h; exact absurd h.2 (by decide)))
   go_wp2_with fail
   refine HMAY.out.mono ?_
   rintro y w1 ⟨rfl,b1⟩
   have HZ1 := hid (Lvl.keep b1 HZ.out)
   have HB1 := hid (Trm.go HBB.out b1)
   clear b1
   have HEND := hid (HPO.out zI zIHd 1 (w1.setRow (w.heap.size + 1) (zI.vals zIHd).toArray) (below_setRow HB1.out (by omega) _) HE.out (fun h => by cases h))
   go_wp2_with (first
    | (refine wpList_buildTo rfl 46 _ rfl (some 16) rfl (zI.vals zIHd).toArray (by kernel_rfl) ?_)
    | (refine wpList_store_row rfl 46 (.tmp 4) (.tmp 16) rfl (w.heap.size + 1) (zI.vals zIHd).toArray rfl rfl 46 Inf.zeros HZ1.out HKR.out (HKZ.out _ _) (HKO.out _ _) ?_))
   exact bodyPost_ret_by (results_two rfl _ _ (w.heap.size + 1) _ (.int .i64 1) rfl rfl (run_loadVar_row _ _ _ _ _ _ _ (setRow_heap w1 _ _ _ _ _ HZ1.out) Tryz.underlying46 rfl HKR.out)) rfl HEND.out
  ·rw [hmay] at HMAY
   have HKM : Hid ((3 : Int) = 3 ∧ t.may = true) := hid ⟨rfl,hmay⟩
   go_wp2_with fail
   refine HMAY.out.mono ?_
   rintro y w1 ⟨rfl,b1⟩
   have HZ1 := hid (Lvl.keep b1 HZ.out)
   have HB1 := hid (Trm.go HBB.out b1)
   have HX1 := hid (Lvl.keep b1 HBX.out)
   have HFD1 := hid (HFD.out w1 b1)
   clear b1 x0 x1 x2 x3 x4
   obtain ⟨x0,x1,x2,x3,x4⟩ := Tm.cells HX1.out
   go_wp2_with fail
   refine HFD1.out.mono ?_
   intro y w2 hfd
   obtain ⟨z,hz,bz,rfl,b2,hor⟩ := hfd.two
   have HB2 := hid (Trm.go HB1.out b2)
   have HZ2 := hid (Lvl.keep b2 HZ1.out)
   have HX2 := hid (Lvl.keep b2 HX1.out)
   have HOR := hid hor
   clear hfd b2 x0 x1 x2 x3 x4 hor
   dsimp only
   go_upto_region 4 with (refine wpList_store_row rfl 46 (.tmp 6) (.tmp 22) rfl w2.heap.size _ rfl rfl 46 Inf.zeros (World.alloc_heap_new _ _) HKR.out (HKZ.out _ _) (HKO.out _ _) ?_)
   rw [World.setRow_alloc_new]
   obtain ⟨W3,hW3⟩ : ∃ W,W = w2.alloc (.cells (z.vals hz).toArray 46) := ⟨_,rfl⟩
   have hb3 : Below w2.heap.size w2 W3 := hW3 ▸ below_one _ _
   have HB3 := hid (Trm.go HB2.out hb3)
   have HZ3 := hid (Lvl.keep hb3 HZ2.out)
   have HX3 := hid (Lvl.keep hb3 HX2.out)
   have HY3 := hid (show IBox W3 w2.heap.size z hz from hW3 ▸ World.alloc_heap_new _ _)
   have HIB := hid (fun (hi : z.In B w2 hz) => (show z.In B (W3.setRow (w.heap.size + 1) (z.vals hz).toArray) hz from by
    have h1 : z.In B W3 hz := hi.below (hb3.mono (Nat.le_trans HHB.out (by have := HB2.out.size; exact this)))
    exact h1.below ((below_setRow (Below.refl w.heap.size W3) (by omega) _).mono HHB.out)))
   obtain ⟨bY,hbY⟩ : ∃ b,b = w2.heap.size := ⟨_,rfl⟩
   rw [← hbY] at HY3
   rw [← hW3,← hbY]
   clear hW3 hbY hb3
   have hrow3 : W3.heap[bY]? = some (.cells (z.vals hz).toArray 46) := HY3.out
   rcases HOR.out with ⟨rfl,hlk⟩ | ⟨rfl,p,hlk,hzp,hzi⟩
   ·have HEND := hid (HPO.out z hz 6 (W3.setRow (w.heap.size + 1) (z.vals hz).toArray) (below_setRow HB3.out (by omega) _) (HE6.out HKM.out hlk) (fun h => by cases h))
    clear hlk
    go_wp2_with (first
     | (refine wpList_load_row rfl 46 (.tmp 6) rfl bY rfl 46 _ (0,0) _ hrow3 Tryz.underlying46 rfl HKR.out ?_)
     | (refine wpList_store_row rfl 46 (.tmp 4) (.tmp 26) rfl (w.heap.size + 1) (z.vals hz).toArray rfl rfl 46 Inf.zeros HZ3.out HKR.out (HKZ.out _ _) (HKO.out _ _) ?_))
    exact bodyPost_ret_by (results_two rfl _ _ (w.heap.size + 1) _ (.int .i64 6) rfl rfl (run_loadVar_row _ _ _ _ _ _ _ (setRow_heap W3 _ _ _ _ _ HZ3.out) Tryz.underlying46 rfl HKR.out)) rfl HEND.out
   ·obtain ⟨x0,x1,x2,x3,x4⟩ := Tm.cells HX3.out
    have c2 : W3.cell? ⟨bY,2,none⟩ = some (.int .i64 z.params) := HY3.out.cell 2
    by_cases hp : (t.ls.length : Int) = z.params
    ·have HEZ := hid (HE0.out HKM.out p hlk (hzp ▸ hp))
     have HEND := hid (HPO.out z hz 0 (W3.setRow (w.heap.size + 1) (z.vals hz).toArray) (below_setRow HB3.out (by omega) _) HEZ.out (fun _ => ⟨p,hlk,by rw [HOO.out HEZ.out,hlk],hzp,HIB.out hzi⟩))
     have hpb : ((t.ls.length : Int) != z.params) = false := by simp [hp]
     clear hlk hzp hzi hp
     go_wp2_with (first
      | (refine wpList_load_row rfl 46 (.tmp 6) rfl bY rfl 46 _ (0,0) _ hrow3 Tryz.underlying46 rfl HKR.out ?_)
      | (refine wpList_store_row rfl 46 (.tmp 4) (.tmp 34) rfl (w.heap.size + 1) (z.vals hz).toArray rfl rfl 46 Inf.zeros HZ3.out HKR.out (HKZ.out _ _) (HKO.out _ _) ?_))
     exact bodyPost_ret_by (results_two rfl _ _ (w.heap.size + 1) _ (.int .i64 0) rfl rfl (run_loadVar_row _ _ _ _ _ _ _ (setRow_heap W3 _ _ _ _ _ HZ3.out) Tryz.underlying46 rfl HKR.out)) rfl HEND.out
    ·have HEND := hid (HPO.out z hz 8 (W3.setRow (w.heap.size + 1) (z.vals hz).toArray) (below_setRow HB3.out (by omega) _) (HE8.out HKM.out p hlk (hzp ▸ hp)) (fun h => by cases h))
     have hpb : ((t.ls.length : Int) != z.params) = true := by simp [hp]
     clear hlk hzp hzi hp
     go_wp2_with (first
      | (refine wpList_load_row rfl 46 (.tmp 6) rfl bY rfl 46 _ (0,0) _ hrow3 Tryz.underlying46 rfl HKR.out ?_)
      | (refine wpList_store_row rfl 46 (.tmp 4) (.tmp 33) rfl (w.heap.size + 1) (z.vals hz).toArray rfl rfl 46 Inf.zeros HZ3.out HKR.out (HKZ.out _ _) (HKO.out _ _) ?_))
     exact bodyPost_ret_by (results_two rfl _ _ (w.heap.size + 1) _ (.int .i64 8) rfl rfl (run_loadVar_row _ _ _ _ _ _ _ (setRow_heap W3 _ _ _ _ _ HZ3.out) Tryz.underlying46 rfl HKR.out)) rfl HEND.out
 ·have e3 : (tk != 3) = true := by simp [hk3]
  have HE := hid (HE1.out (fun h => hk3 h.1))
  rw [← htk] at x0
  have HEND := hid (HPO.out zI zIHd 1 (WB.setRow (w.heap.size + 1) (zI.vals zIHd).toArray) (below_setRow HBB.out (by omega) _) HE.out (fun h => by cases h))
  go_wp2_with (first
   | (refine wpList_buildTo rfl 46 _ rfl (some 16) rfl (zI.vals zIHd).toArray (by kernel_rfl) ?_)
   | (refine wpList_store_row rfl 46 (.tmp 4) (.tmp 16) rfl (w.heap.size + 1) (zI.vals zIHd).toArray rfl rfl 46 Inf.zeros HZ.out HKR.out (HKZ.out _ _) (HKO.out _ _) ?_))
  exact bodyPost_ret_by (results_two rfl _ _ (w.heap.size + 1) _ (.int .i64 1) rfl rfl (run_loadVar_row _ _ _ _ _ _ _ (setRow_heap WB _ _ _ _ _ HZ.out) Tryz.underlying46 rfl HKR.out)) rfl HEND.out
end Go.Proofs.YtiekbhlnnmnklaaGreat
