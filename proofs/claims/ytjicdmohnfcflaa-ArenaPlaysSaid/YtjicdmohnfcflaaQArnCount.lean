/-
  arena.absent, counted: the node of a key.
-/
import Derived.Test.YtjicdmohnfcflaaQArnKeyOf
import Derived.Great.BuildSlice
namespace Go.Proofs.Ytjicdmohnfcflaa
open Go.RowKit Go.Shelf Go.Maps Lvl Trm Arn

set_option maxRecDepth 100000 in
theorem absent_any (ks : Array Value) (w : World) : Calls Try.prog 35 #[.agg ks] w fun e w' => e = .returned (.tuple #[.int .i64 0, .bool false]) ∧ Below w.heap.size w w' := by
  go_enter Try.func35, Try.ntmps35
  go_wp2_with fail
  exact bodyPost_ret (v := .tuple #[.int .i64 0, .bool false]) (by simp [results, Try.results35, go_sem]) rfl ⟨rfl, below_one _ _⟩

namespace Arn
/-- A node's cells: its key, and what is counted. -/
def nodeC (K : List Value) (s d f : Int) : Array Value := (K ++ [Value.int .i64 s, Value.int .i64 d, Value.int .i64 f]).toArray
theorem nodeC_size {K : List Value} (h : K.length = 28) (s d f : Int) : (nodeC K s d f).size = 31 := by simp [nodeC, h]
theorem nodeC_set28 {K : List Value} (h : K.length = 28) (s d f x : Int) : (nodeC K s d f).setIfInBounds 28 (.int .i64 x) = nodeC K x d f := by
  unfold nodeC
  simp only [List.setIfInBounds_toArray]
  rw [List.set_append_right _ _ (by omega), show 28 - K.length = 0 by omega]
  rfl
theorem nodeC_set29 {K : List Value} (h : K.length = 28) (s d f x : Int) : (nodeC K s d f).setIfInBounds 29 (.int .i64 x) = nodeC K s x f := by
  unfold nodeC
  simp only [List.setIfInBounds_toArray]
  rw [List.set_append_right _ _ (by omega), show 29 - K.length = 1 by omega]
  rfl
theorem nodeC_set30 {K : List Value} (h : K.length = 28) (s d f x : Int) : (nodeC K s d f).setIfInBounds 30 (.int .i64 x) = nodeC K s d x := by
  unfold nodeC
  simp only [List.setIfInBounds_toArray]
  rw [List.set_append_right _ _ (by omega), show 30 - K.length = 2 by omega]
  rfl
theorem cells_set {w : World} {b i : Nat} {C : Array Value} {ty : TypeId} {fr : Nat × Nat} (h : w.heap[b]? = some (.cells C ty fr)) (v : Value) : (w.setCell ⟨b, i, none⟩ v).heap[b]? = some (.cells (C.setIfInBounds i v) ty fr) := by
  simp [World.setCell, Array.getElem?_modify, h]
theorem nodeC_cells {w : World} {b : Nat} {K : List Value} (hK : K.length = 28) {s d f : Int} {ty : TypeId} {fr : Nat × Nat} (h : w.heap[b]? = some (.cells (nodeC K s d f) ty fr)) :
    (∀ j v, K[j]? = some v → w.cell? ⟨b, j, none⟩ = some v) ∧ w.cell? ⟨b, 28, none⟩ = some (.int .i64 s) ∧ w.cell? ⟨b, 29, none⟩ = some (.int .i64 d) ∧ w.cell? ⟨b, 30, none⟩ = some (.int .i64 f) := by
  refine ⟨fun j v hv => ?_, ?_, ?_, ?_⟩
  · have hj := (List.getElem?_eq_some_iff.1 hv).1
    rw [cell_of_row w b j _ ty fr h]
    unfold nodeC
    simp only [List.getElem?_toArray]
    rw [List.getElem?_append_left hj, hv]
  all_goals
    rw [cell_of_row w b _ _ ty fr h]
    unfold nodeC
    simp only [List.getElem?_toArray]
    rw [List.getElem?_append_right (by omega), hK]
    rfl
theorem nodeC_free {w : World} {b : Nat} {C : Array Value} {ty : TypeId} (h : w.heap[b]? = some (.cells C ty)) (i : Nat) : w.frozen? ⟨b, i, none⟩ = false := by
  simp [World.frozen?, h]
def KZ : Array Value := nodeC (keyL ⟨#[]⟩ 0 0 0 zeroLv zeroLv zeroLv zeroLv 0 0 0 0) 0 0 0
-- counted by gen_ArnCount.py
/-- What stays, and the node so far. -/
structure CSt (w : World) (X : Nat) (K : List Value) (S D F : Int) (W : World) : Prop where
  bel : Below w.heap.size w W
  node : W.heap[X]? = some (.cells (nodeC K S D F) 75)
  key : W.heap[w.heap.size]? = some (.cells K.toArray 73)
  res : W.heap[w.heap.size + 1]? = some (.cells KZ 75)
theorem CSt.drew {w W : World} {X : Nat} {K : List Value} {S D F : Int} (h : CSt w X K S D F W) : CSt w X K S D F W.drew := ⟨h.bel.drew, h.node, h.key, h.res⟩
theorem CSt.below {w W W' : World} {X : Nat} {K : List Value} {S D F : Int} (h : CSt w X K S D F W) (b : Below W.heap.size W W') : CSt w X K S D F W' := ⟨Trm.go h.bel b, Lvl.keep b h.node, Lvl.keep b h.key, Lvl.keep b h.res⟩
theorem CSt.set28 {w W : World} {X : Nat} {K : List Value} {S D F : Int} (h : CSt w X K S D F W) (hK : K.length = 28) (hX : w.heap.size + 2 ≤ X) (x : Int) : CSt w X K x D F (W.setCell ⟨X, 28, none⟩ (.int .i64 x)) :=
  ⟨h.bel.setCell (by show w.heap.size ≤ X; omega) _, by rw [← nodeC_set28 hK S D F x]; exact cells_set h.node _, cells_other h.key _ (by omega), cells_other h.res _ (by omega)⟩
theorem CSt.set29 {w W : World} {X : Nat} {K : List Value} {S D F : Int} (h : CSt w X K S D F W) (hK : K.length = 28) (hX : w.heap.size + 2 ≤ X) (x : Int) : CSt w X K S x F (W.setCell ⟨X, 29, none⟩ (.int .i64 x)) :=
  ⟨h.bel.setCell (by show w.heap.size ≤ X; omega) _, by rw [← nodeC_set29 hK S D F x]; exact cells_set h.node _, cells_other h.key _ (by omega), cells_other h.res _ (by omega)⟩
theorem CSt.set30 {w W : World} {X : Nat} {K : List Value} {S D F : Int} (h : CSt w X K S D F W) (hK : K.length = 28) (hX : w.heap.size + 2 ≤ X) (x : Int) : CSt w X K S D x (W.setCell ⟨X, 30, none⟩ (.int .i64 x)) :=
  ⟨h.bel.setCell (by show w.heap.size ≤ X; omega) _, by rw [← nodeC_set30 hK S D F x]; exact cells_set h.node _, cells_other h.key _ (by omega), cells_other h.res _ (by omega)⟩
/-- The loop over the parts. -/
def CRel (w : World) (X : Nat) (L : List Tm) (t : Tm) (i : Value) (wr : World) : Prop :=
  ∃ (j : Nat) (S D F : Int), i = .int .i64 j ∧ j ≤ t.ts.length ∧ S + sizeL (t.ts.drop j) = t.size ∧ max D (htL (t.ts.drop j)) = htL t.ts ∧ max F (frK t.k (t.ts.drop j) j) = t.free ∧ 1 ≤ S ∧ 0 ≤ D ∧ 0 ≤ F ∧ F ≤ 1048577 ∧ CSt w X (keyT L t) S D F wr
theorem part_at {L : List Tm} {t : Tm} {j : Nat} (h3 : t.ts.length ≤ 3) (hj : j < t.ts.length) : (keyT L t)[25 + j]? = some (.int .i64 (num L t.ts[j])) := by
  have key : arr (nums L t) j = num L t.ts[j] := by
    unfold arr nums
    rw [List.getD_eq_getElem?_getD, List.getElem?_map, List.getElem?_eq_getElem hj]
    rfl
  rw [← key]
  rcases (show j = 0 ∨ j = 1 ∨ j = 2 by omega) with rfl | rfl | rfl <;> rfl
theorem bnd_last {t : Tm} (h : t.node = true) (j : Nat) : bnd t.k j = if j + 1 = t.ts.length ∧ bindsB t.k = true then 1 else 0 := by
  have hk := node_kids h
  unfold bnd bindsB
  by_cases h5 : t.k = 5
  · rw [h5] at hk ⊢; simp [kids] at hk; simp; congr 1; apply propext; omega
  · by_cases h6 : t.k = 6
    · rw [h6] at hk ⊢; simp [kids] at hk; simp; congr 1; apply propext; omega
    · by_cases h7 : t.k = 7
      · rw [h7] at hk ⊢; simp [kids] at hk; simp; congr 1; apply propext; omega
      · simp [h5, h6, h7]
end Arn
set_option maxRecDepth 100000 in
set_option maxHeartbeats 8000000 in
theorem counted_any {w : World} {A : Nat} {L : List Tm} {v : Value} {mo : Option Nat} (h : ArB w A L v mo) (t : Tm) (hm : t.may = true) (hp : ∀ y ∈ t.ts, y ∈ L) :
    Calls Try.prog 42 #[.pointer (some ⟨A, 0, none⟩), .agg (keyT L t).toArray] w fun e w' => e = .returned (.agg (nodeT L t).toArray) ∧ Below w.heap.size w w' := by
  have HA := Lib.hid h
  have HM := Lib.hid hm
  have HP := Lib.hid hp
  have HK : Hid ((keyT L t).length = 28) := Lib.hid rfl
  clear h hm hp
  have hk2 := (show (Try.prog.info? 73).map (·.size) = some 28 by kernel_rfl)
  have hn2 := (show (Try.prog.info? 75).map (·.size) = some 31 by kernel_rfl)
  go_enter Try.func42, Try.ntmps42
  go_upto_region 1 with fail
  obtain ⟨W0, hW0⟩ : ∃ W0, W0 = (w.alloc (.cells (keyT L t).toArray 73)).alloc (.cells KZ 75) := ⟨_, rfl⟩
  have B0 := Lib.hid (show Below w.heap.size w W0 from hW0 ▸ below_two _ _ _)
  have hp := Lib.hid (show W0.heap[w.heap.size]? = some (.cells (keyT L t).toArray 73) from hW0 ▸ new1of2 _ _ _)
  have hr := Lib.hid (show W0.heap[w.heap.size + 1]? = some (.cells KZ 75) from hW0 ▸ new2 _ _ _)
  have hz0 : W0.heap.size = w.heap.size + 2 := by rw [hW0]; simp
  rw [show (w.alloc (.cells (keyT L t).toArray 73)).alloc (.cells #[.string ⟨#[]⟩, .int .u8 0, .int .i64 0, .int .i64 0, .int .i64 0, .int .i64 0, .int .i64 0, .int .i64 0, .int .i64 0, .int .i64 0, .int .i64 0, .int .i64 0, .int .i64 0, .int .i64 0, .int .i64 0, .int .i64 0, .int .i64 0, .int .i64 0, .int .i64 0, .int .i64 0, .int .i64 0, .int .i64 0, .int .i64 0, .int .i64 0, .int .i64 0, .int .i64 0, .int .i64 0, .int .i64 0, .int .i64 0, .int .i64 0, .int .i64 0] 75) = W0 from hW0.symm]
  clear hW0
  have HZ := Lib.hid hz0
  clear hz0
  go_upto_region 2 with (first
    | (refine wpList_load_row rfl 73 (.tmp 3) rfl w.heap.size rfl 73 _ (0, 0) _ hp.out Try.underlying73 rfl hk2 ?_)
    | (refine wpList_buildTo rfl 75 _ rfl (some 11) rfl (nodeC (keyT L t) 1 0 0) (by kernel_rfl) ?_)
    | (refine wpList_store_row rfl 75 (.tmp 5) (.tmp 11) rfl W0.heap.size (nodeC (keyT L t) 1 0 0) rfl rfl 75 KZ (World.alloc_heap_new W0 _) hn2 rfl (by kernel_rfl) ?_))
  obtain ⟨W1, hW1⟩ : ∃ W1, W1 = (W0.alloc (.cells #[.string ⟨#[]⟩, .int .u8 0, .int .i64 0, .int .i64 0, .int .i64 0, .int .i64 0, .int .i64 0, .int .i64 0, .int .i64 0, .int .i64 0, .int .i64 0, .int .i64 0, .int .i64 0, .int .i64 0, .int .i64 0, .int .i64 0, .int .i64 0, .int .i64 0, .int .i64 0, .int .i64 0, .int .i64 0, .int .i64 0, .int .i64 0, .int .i64 0, .int .i64 0, .int .i64 0, .int .i64 0, .int .i64 0, .int .i64 0, .int .i64 0, .int .i64 0] 75)).setRow W0.heap.size (nodeC (keyT L t) 1 0 0) := ⟨_, rfl⟩
  have B1 := Lib.hid (show Below W0.heap.size W0 W1 from hW1 ▸ below_setRow (below_one _ _) (Nat.le_refl _) _)
  have HX := Lib.hid (show W1.heap[W0.heap.size]? = some (.cells (nodeC (keyT L t) 1 0 0) 75) from hW1 ▸ setRow_heap _ _ _ _ _ _ (World.alloc_heap_new W0 _))
  have HP1 := Lib.hid (Lvl.keep B1.out hp.out)
  have HR1 := Lib.hid (Lvl.keep B1.out hr.out)
  have hX1 : W0.heap.size < W1.heap.size := (Array.getElem?_eq_some_iff.1 HX.out).1
  rw [← hW1]
  clear hW1 hp hr
  have BW1 := Lib.hid (Trm.go B0.out B1.out)
  have hl3 : t.ts.length ≤ 3 := (node_few (may_node HM.out)).2.1
  have hkc : W1.cell? ⟨w.heap.size, 1, none⟩ = some (.int .u8 t.k) := by rw [cell_of_row W1 _ 1 _ _ _ HP1.out]; rfl
  have hnc : W1.cell? ⟨w.heap.size, 2, none⟩ = some (.int .i64 t.n) := by rw [cell_of_row W1 _ 2 _ _ _ HP1.out]; rfl
  have hwl : w.heap.size < W1.heap.size := by have := BW1.out.size; have := HZ.out; have := B1.out.size; omega
  dsimp only [Act.put]
  by_cases hk2' : t.k = 2
  · have hts0 : t.ts = [] := by
      have := node_kids (may_node HM.out)
      rw [hk2'] at this
      simp [kids] at this
      exact this
    have hnn := node_num (may_node HM.out)
    have hF2 : t.n + 1 = t.free := by rw [free_eq HM.out, if_pos hk2', hts0, frK]; omega
    have HT0 := Lib.hid hts0
    have HF2 := Lib.hid hF2
    clear hts0 hF2
    have hkb : (t.k == 2) = true := by simpa using hk2'
    have hwn : IntKind.i64.wrap (t.n + 1) = t.n + 1 := IntWalk.i64_in _ (by omega)
    have HXS : Hid (w.heap.size + 2 = W0.heap.size) := Lib.hid HZ.out.symm
    have HST1 := Lib.hid (show CSt w W0.heap.size (keyT L t) 1 0 0 W1 from ⟨BW1.out, HX.out, HP1.out, HR1.out⟩)
    obtain ⟨_, s28, s29, s30⟩ := nodeC_cells HK.out HST1.out.node
    have f30 := nodeC_free HST1.out.node 30
    clear BW1 HX HP1 HR1 hk2' B0 B1 HZ
    go_upto_region 4 with fail
    obtain ⟨W2, hW2⟩ : ∃ W2, W2 = W1.setCell ⟨W0.heap.size, 30, none⟩ (.int .i64 (t.n + 1)) := ⟨_, rfl⟩
    rw [← hW2]
    have HST2 := Lib.hid (show CSt w W0.heap.size (keyT L t) 1 0 (t.n + 1) W2 from hW2 ▸ HST1.out.set30 HK.out (Nat.le_of_eq HXS.out) _)
    clear hW2 s28 s29 s30 f30
    have hpc : W2.cell? ⟨W0.heap.size, 0 + 24, none⟩ = some (.int .i64 t.ts.length) := (nodeC_cells HK.out HST2.out.node).1 24 _ rfl
    have HKC := Lib.hid (kidsA_any hpc (by omega))
    rw [HT0.out] at HKC
    clear hpc hkc hnc hkb
    go_wp2_with fail
    refine HKC.out.mono ?_
    rintro e W3 ⟨ao, cp, rfl, _, b2⟩
    have HST3 := Lib.hid (HST2.out.below b2)
    clear b2 hwl hX1 HKC
    go_wp2_with fail
    go_loopw [21] (fun i wr => i = .int .i64 0 ∧ CSt w W0.heap.size (keyT L t) 1 0 (t.n + 1) wr) (fun i _ => 0)
    case atStart => exact ⟨rfl, HST3.out⟩
    case round =>
      obtain ⟨rfl, hst⟩ := hrel
      have HST := Lib.hid hst
      clear hst
      obtain ⟨_, s28, s29, s30⟩ := nodeC_cells HK.out HST.out.node
      have f29 := nodeC_free HST.out.node 29
      skip
      go_upto_region 16 with fail
      obtain ⟨W7, hW7⟩ : ∃ W7, W7 = wr.setCell ⟨W0.heap.size, 29, none⟩ (.int .i64 (1)) := ⟨_, rfl⟩
      rw [← hW7]
      have HST7 := Lib.hid (show CSt w W0.heap.size (keyT L t) (1) (1) (t.n + 1) W7 from hW7 ▸ HST.out.set29 HK.out (Nat.le_of_eq HXS.out) _)
      clear hW7 s28 s29 s30 f29
      have HNT : Hid (nodeC (keyT L t) (1) (1) (t.n + 1) = (nodeT L t).toArray) := Lib.hid (by unfold nodeC nodeT; rw [ht_eq t]; rw [HT0.out, htL, Tm.size_eq, HT0.out, sizeL, HF2.out]; simp)
      go_wp2_with (first
        | (refine wpList_load_row rfl 75 (.tmp 5) rfl W0.heap.size rfl 75 _ (0, 0) _ HST7.out.node Try.underlying75 rfl hn2 ?_)
        | (refine wpList_store_row rfl 75 (.tmp 4) (.tmp 74) rfl (w.heap.size + 1) (nodeC (keyT L t) (1) (1) (t.n + 1)) rfl rfl 75 KZ HST7.out.res hn2 rfl (by kernel_rfl) ?_))
      refine bodyPost_ret_by (results_cell_row rfl _ _ (w.heap.size + 1) 75 _ (0, 0) _ rfl (setRow_heap W7 _ _ _ _ _ HST7.out.res) Try.underlying75 rfl hn2) rfl ⟨?_, below_setRow HST7.out.bel (by omega) _⟩
      rw [HNT.out]
  · have hkb : (t.k == 2) = false := by simpa using hk2'
    have HKB := Lib.hid hk2'
    clear hk2'
    go_upto_region 4 with fail
    have hpc : W1.cell? ⟨W0.heap.size, 0 + 24, none⟩ = some (.int .i64 t.ts.length) := (nodeC_cells HK.out HX.out).1 24 _ rfl
    have HKC := Lib.hid (kidsA_any hpc (by omega))
    clear hpc hkc hnc hkb
    go_wp2_with fail
    refine HKC.out.mono ?_
    rintro e W2 ⟨ao, cp, rfl, hao, b2⟩
    have BW2 := Lib.hid (Trm.go BW1.out b2)
    have HX2 := Lib.hid (Lvl.keep b2 HX.out)
    have HP2 := Lib.hid (Lvl.keep b2 HP1.out)
    have HR2 := Lib.hid (Lvl.keep b2 HR1.out)
    have HAO : Hid (0 < t.ts.length → ao = some ⟨W0.heap.size, 25, none⟩) := Lib.hid (by simpa using hao)
    have HXS : Hid (w.heap.size + 2 = W0.heap.size) := Lib.hid HZ.out.symm
    clear b2 hao hwl hX1 HZ B0 B1 BW1 HX HP1 HR1 HKC
    go_wp2_with fail
    go_loopw [21] (fun i wr => CRel w W0.heap.size L t i wr) (fun i _ => t.ts.length - (intOf i).toNat)
    case atStart => exact ⟨0, 1, 0, 0, rfl, by omega, by rw [List.drop_zero, Tm.size_eq t], by rw [List.drop_zero]; have := htL_ge t.ts; omega, by rw [List.drop_zero, free_eq HM.out, if_neg HKB.out], by omega, by omega, by omega, by omega, BW2.out, HX2.out, HP2.out, HR2.out⟩
    case round =>
      obtain ⟨j, S, D, F, rfl, hj, h1, h2, h3, hS, hD, hF0, hF1, hst⟩ := hrel
      have HS := Lib.hid h1
      have HD := Lib.hid h2
      have HF := Lib.hid h3
      have HST := Lib.hid hst
      clear h1 h2 h3 hst
      by_cases hlt : j < t.ts.length
      · have hy := HP.out _ (List.getElem_mem hlt)
        obtain ⟨g, cap, hv, hg, _, hcell⟩ := HA.out.node (num_lt hy)
        rw [num_get hy] at hcell
        have hq : num L t.ts[j] < L.length := num_lt hy
        have HPA := Lib.hid (part_at (L := L) (by omega) hlt)
        have HBL := Lib.hid (bnd_last (may_node HM.out) j)
        have hym := may_part HM.out (List.getElem_mem hlt)
        have HSN : Hid (S + t.ts[j].size + sizeL (t.ts.drop (j + 1)) = t.size) := Lib.hid (by have := HS.out; rw [sizeL_drop hlt] at this; omega)
        have HDN : Hid (max (max D t.ts[j].ht) (htL (t.ts.drop (j + 1))) = htL t.ts) := Lib.hid (by have := HD.out; rw [drop_get hlt, htL] at this; omega)
        have HFN : Hid (max (max F (t.ts[j].free - bnd t.k j)) (frK t.k (t.ts.drop (j + 1)) (j + 1)) = t.free) := Lib.hid (by have := HF.out; rw [drop_get hlt, frK] at this; omega)
        have hyz := may_size' hym
        have hyp := t.ts[j].size_pos
        have hyh := (may_sound hym).2
        have hyh0 := ht_pos t.ts[j]
        have hyf0 := free_nonneg hym
        have hyf1 := free_most hym
        have hSz : S ≤ 65536 := by have := HS.out; have := may_size' HM.out; have := sizeL_ge (t.ts.drop j); omega
        have HNC := Lib.hid (fun (W : World) (hW : Below w.heap.size w W) (k : Nat) (x : Value) (hx : (nodeT L t.ts[j])[k]? = some x) => (hW.cell (p := ⟨g, num L t.ts[j] * 31 + k, none⟩) hg).trans (hcell k x hx))
        obtain ⟨a0, a1⟩ := two_cells (HA.out.below HST.out.bel (Nat.le_refl _)).box
        rw [hv] at a0
        have hpc : wr.cell? ⟨W0.heap.size, 25 + j, none⟩ = some (.int .i64 (num L t.ts[j])) := (nodeC_cells HK.out HST.out.node).1 _ _ HPA.out
        have m24 : wr.cell? ⟨w.heap.size, 24, none⟩ = some (.int .i64 t.ts.length) := by rw [cell_of_row wr _ 24 _ _ _ HST.out.key]; rfl
        have m1 : wr.cell? ⟨w.heap.size, 1, none⟩ = some (.int .u8 t.k) := by rw [cell_of_row wr _ 1 _ _ _ HST.out.key]; rfl
        have HN2 := Lib.hid (fun (W : World) (hW : Below w.heap.size w W) => (show W.cell? ⟨g, num L t.ts[j] * 31 + 28, none⟩ = some (.int .i64 t.ts[j].size) ∧ W.cell? ⟨g, num L t.ts[j] * 31 + 29, none⟩ = some (.int .i64 t.ts[j].ht) ∧ W.cell? ⟨g, num L t.ts[j] * 31 + 30, none⟩ = some (.int .i64 t.ts[j].free) from ⟨HNC.out W hW 28 _ rfl, HNC.out W hW 29 _ rfl, HNC.out W hW 30 _ rfl⟩))
        clear HNC hcell hy HPA HS HD HF hym
        generalize hqe : num L t.ts[j] = q at hq hpc HN2
        generalize hye : t.ts[j] = y at hyz hyp hyh hyh0 hyf0 hyf1 HSN HDN HFN HN2
        clear hqe hye hv
        rw [HAO.out (by omega)]
        have hwr : IntKind.i64.wrap ((t.ts.length : Int) - 1) = (t.ts.length : Int) - 1 := IntWalk.i64_in _ (by omega)
        obtain ⟨n28, n29, n30⟩ := HN2.out wr HST.out.bel
        by_cases hlast : j + 1 = t.ts.length
        · have d1 : ((j : Int) == (t.ts.length : Int) - 1) = true := by simp; omega
          go_wp2_with fail
          refine (binds5_any _ _).mono ?_
          rintro e wb ⟨rfl, bb⟩
          have HSTb := Lib.hid (HST.out.below bb)
          clear bb a0 a1 hpc m24 m1
          cases hbb : bindsB t.k
          · have hb0 : bnd t.k j = 0 := by rw [HBL.out, hbb]; simp
            have HFZ : Hid (max (max F y.free) (frK t.k (t.ts.drop (j + 1)) (j + 1)) = t.free) := Lib.hid (by have := HFN.out; rw [hb0, Int.sub_zero] at this; exact this)
            clear hb0 hbb
            clear n28 n29 n30
            go_upto_region 11 with fail
            obtain ⟨n28, n29, n30⟩ := HN2.out wb HSTb.out.bel
            obtain ⟨_, s28, s29, s30⟩ := nodeC_cells HK.out HSTb.out.node
            have f28 := nodeC_free HSTb.out.node 28
            have hw5 : IntKind.i64.wrap (S + y.size) = S + y.size := IntWalk.i64_in _ (by omega)
            go_region
            obtain ⟨W5, hW5⟩ : ∃ W5, W5 = (wb.setCell ⟨W0.heap.size, 28, none⟩ (.int .i64 (S + y.size))).drew := ⟨_, rfl⟩
            rw [← hW5]
            have HST5 := Lib.hid (show CSt w W0.heap.size (keyT L t) (S + y.size) D F W5 from hW5 ▸ (HSTb.out.set28 HK.out (Nat.le_of_eq HXS.out) _).drew)
            clear hW5 n28 n29 n30 s28 s29 s30 f28
            go_upto_region 12 with fail
            obtain ⟨n28, n29, n30⟩ := HN2.out W5 HST5.out.bel
            obtain ⟨_, s28, s29, s30⟩ := nodeC_cells HK.out HST5.out.node
            have f29 := nodeC_free HST5.out.node 29
            have hmax := run_max
            go_region
            obtain ⟨W6, hW6⟩ : ∃ W6, W6 = (W5.setCell ⟨W0.heap.size, 29, none⟩ (.int .i64 (max D y.ht))).drew := ⟨_, rfl⟩
            rw [← hW6]
            have HST6 := Lib.hid (show CSt w W0.heap.size (keyT L t) (S + y.size) (max D y.ht) F W6 from hW6 ▸ (HST5.out.set29 HK.out (Nat.le_of_eq HXS.out) _).drew)
            clear hW6 n28 n29 n30 s28 s29 s30 f29
            go_upto_region 13 with fail
            obtain ⟨_, s28, s29, s30⟩ := nodeC_cells HK.out HST6.out.node
            have f30 := nodeC_free HST6.out.node 30
            have hwj : IntKind.i64.wrap ((j : Int) + 1) = (j : Int) + 1 := IntWalk.i64_in _ (by omega)
            go_wp2_with fail
            go_roundw
            case rel => exact ⟨j + 1, S + y.size, max D y.ht, max F (y.free), by go_num, by omega, HSN.out, HDN.out, HFZ.out, by omega, by omega, by omega, by omega, HST6.out.set30 HK.out (Nat.le_of_eq HXS.out) _⟩
            case measure => simp [intOf]; omega
          · have hb0 : bnd t.k j = 1 := by rw [HBL.out, hbb, if_pos ⟨hlast, rfl⟩]
            have HFZ : Hid (max (max F (y.free - 1)) (frK t.k (t.ts.drop (j + 1)) (j + 1)) = t.free) := Lib.hid (by have := HFN.out; rw [hb0] at this; exact this)
            have hwf : IntKind.i64.wrap (y.free - 1) = y.free - 1 := IntWalk.i64_in _ (by omega)
            clear hb0 hbb
            clear n28 n29 n30
            go_upto_region 11 with fail
            obtain ⟨n28, n29, n30⟩ := HN2.out wb HSTb.out.bel
            obtain ⟨_, s28, s29, s30⟩ := nodeC_cells HK.out HSTb.out.node
            have f28 := nodeC_free HSTb.out.node 28
            have hw5 : IntKind.i64.wrap (S + y.size) = S + y.size := IntWalk.i64_in _ (by omega)
            go_region
            obtain ⟨W5, hW5⟩ : ∃ W5, W5 = (wb.setCell ⟨W0.heap.size, 28, none⟩ (.int .i64 (S + y.size))).drew := ⟨_, rfl⟩
            rw [← hW5]
            have HST5 := Lib.hid (show CSt w W0.heap.size (keyT L t) (S + y.size) D F W5 from hW5 ▸ (HSTb.out.set28 HK.out (Nat.le_of_eq HXS.out) _).drew)
            clear hW5 n28 n29 n30 s28 s29 s30 f28
            go_upto_region 12 with fail
            obtain ⟨n28, n29, n30⟩ := HN2.out W5 HST5.out.bel
            obtain ⟨_, s28, s29, s30⟩ := nodeC_cells HK.out HST5.out.node
            have f29 := nodeC_free HST5.out.node 29
            have hmax := run_max
            go_region
            obtain ⟨W6, hW6⟩ : ∃ W6, W6 = (W5.setCell ⟨W0.heap.size, 29, none⟩ (.int .i64 (max D y.ht))).drew := ⟨_, rfl⟩
            rw [← hW6]
            have HST6 := Lib.hid (show CSt w W0.heap.size (keyT L t) (S + y.size) (max D y.ht) F W6 from hW6 ▸ (HST5.out.set29 HK.out (Nat.le_of_eq HXS.out) _).drew)
            clear hW6 n28 n29 n30 s28 s29 s30 f29
            go_upto_region 13 with fail
            obtain ⟨_, s28, s29, s30⟩ := nodeC_cells HK.out HST6.out.node
            have f30 := nodeC_free HST6.out.node 30
            have hwj : IntKind.i64.wrap ((j : Int) + 1) = (j : Int) + 1 := IntWalk.i64_in _ (by omega)
            go_wp2_with fail
            go_roundw
            case rel => exact ⟨j + 1, S + y.size, max D y.ht, max F (y.free - 1), by go_num, by omega, HSN.out, HDN.out, HFZ.out, by omega, by omega, by omega, by omega, HST6.out.set30 HK.out (Nat.le_of_eq HXS.out) _⟩
            case measure => simp [intOf]; omega
        · have d1 : ((j : Int) == (t.ts.length : Int) - 1) = false := by simp; omega
          have hb0 : bnd t.k j = 0 := by rw [HBL.out, if_neg (fun h => hlast h.1)]
          have HFZ : Hid (max (max F y.free) (frK t.k (t.ts.drop (j + 1)) (j + 1)) = t.free) := Lib.hid (by have := HFN.out; rw [hb0, Int.sub_zero] at this; exact this)
          clear hb0
          go_upto_region 9 with fail
          clear n28 n29 n30
          go_upto_region 11 with fail
          obtain ⟨n28, n29, n30⟩ := HN2.out wr HST.out.bel
          obtain ⟨_, s28, s29, s30⟩ := nodeC_cells HK.out HST.out.node
          have f28 := nodeC_free HST.out.node 28
          have hw5 : IntKind.i64.wrap (S + y.size) = S + y.size := IntWalk.i64_in _ (by omega)
          go_region
          obtain ⟨W5, hW5⟩ : ∃ W5, W5 = (wr.setCell ⟨W0.heap.size, 28, none⟩ (.int .i64 (S + y.size))).drew := ⟨_, rfl⟩
          rw [← hW5]
          have HST5 := Lib.hid (show CSt w W0.heap.size (keyT L t) (S + y.size) D F W5 from hW5 ▸ (HST.out.set28 HK.out (Nat.le_of_eq HXS.out) _).drew)
          clear hW5 n28 n29 n30 s28 s29 s30 f28
          go_upto_region 12 with fail
          obtain ⟨n28, n29, n30⟩ := HN2.out W5 HST5.out.bel
          obtain ⟨_, s28, s29, s30⟩ := nodeC_cells HK.out HST5.out.node
          have f29 := nodeC_free HST5.out.node 29
          have hmax := run_max
          go_region
          obtain ⟨W6, hW6⟩ : ∃ W6, W6 = (W5.setCell ⟨W0.heap.size, 29, none⟩ (.int .i64 (max D y.ht))).drew := ⟨_, rfl⟩
          rw [← hW6]
          have HST6 := Lib.hid (show CSt w W0.heap.size (keyT L t) (S + y.size) (max D y.ht) F W6 from hW6 ▸ (HST5.out.set29 HK.out (Nat.le_of_eq HXS.out) _).drew)
          clear hW6 n28 n29 n30 s28 s29 s30 f29
          go_upto_region 13 with fail
          obtain ⟨_, s28, s29, s30⟩ := nodeC_cells HK.out HST6.out.node
          have f30 := nodeC_free HST6.out.node 30
          have hwj : IntKind.i64.wrap ((j : Int) + 1) = (j : Int) + 1 := IntWalk.i64_in _ (by omega)
          go_wp2_with fail
          go_roundw
          case rel => exact ⟨j + 1, S + y.size, max D y.ht, max F (y.free), by go_num, by omega, HSN.out, HDN.out, HFZ.out, by omega, by omega, by omega, by omega, HST6.out.set30 HK.out (Nat.le_of_eq HXS.out) _⟩
          case measure => simp [intOf]; omega
      · have hS2 : S = t.size := by have := HS.out; rw [List.drop_eq_nil_of_le (by omega), sizeL] at this; omega
        have hD2 : D = htL t.ts := by have := HD.out; rw [List.drop_eq_nil_of_le (by omega), htL] at this; omega
        have hF2 : F = t.free := by have := HF.out; rw [List.drop_eq_nil_of_le (by omega), frK] at this; omega
        have hD3 : D ≤ 4096 := by have := (may_sound HM.out).2; rw [ht_eq] at this; omega
        have HE := Lib.hid (And.intro hS2 (And.intro hD2 hF2))
        clear hS2 hD2 hF2 HS HD HF
        obtain ⟨_, s28, s29, s30⟩ := nodeC_cells HK.out HST.out.node
        have f29 := nodeC_free HST.out.node 29
        have hwd : IntKind.i64.wrap (D + 1) = D + 1 := IntWalk.i64_in _ (by omega)
        go_upto_region 16 with fail
        obtain ⟨W7, hW7⟩ : ∃ W7, W7 = wr.setCell ⟨W0.heap.size, 29, none⟩ (.int .i64 (D + 1)) := ⟨_, rfl⟩
        rw [← hW7]
        have HST7 := Lib.hid (show CSt w W0.heap.size (keyT L t) (S) (D + 1) (F) W7 from hW7 ▸ HST.out.set29 HK.out (Nat.le_of_eq HXS.out) _)
        clear hW7 s28 s29 s30 f29
        have HNT : Hid (nodeC (keyT L t) (S) (D + 1) (F) = (nodeT L t).toArray) := Lib.hid (by unfold nodeC nodeT; rw [ht_eq t]; rw [HE.out.1, HE.out.2.1, HE.out.2.2, Int.add_comm])
        go_wp2_with (first
          | (refine wpList_load_row rfl 75 (.tmp 5) rfl W0.heap.size rfl 75 _ (0, 0) _ HST7.out.node Try.underlying75 rfl hn2 ?_)
          | (refine wpList_store_row rfl 75 (.tmp 4) (.tmp 74) rfl (w.heap.size + 1) (nodeC (keyT L t) (S) (D + 1) (F)) rfl rfl 75 KZ HST7.out.res hn2 rfl (by kernel_rfl) ?_))
        refine bodyPost_ret_by (results_cell_row rfl _ _ (w.heap.size + 1) 75 _ (0, 0) _ rfl (setRow_heap W7 _ _ _ _ _ HST7.out.res) Try.underlying75 rfl hn2) rfl ⟨?_, below_setRow HST7.out.bel (by omega) _⟩
        rw [HNT.out]

end Go.Proofs.Ytjicdmohnfcflaa

