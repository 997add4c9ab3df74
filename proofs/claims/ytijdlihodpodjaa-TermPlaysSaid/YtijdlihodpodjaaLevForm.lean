/-
  level.inForm, level.plus, level.join: loops over the parameters of a level.
-/
import Derived.Test.YtijdlihodpodjaaLevNum
namespace Go.Proofs.Ytijdlihodpodjaa
open Go.RowKit Go.Shelf Lvl
attribute [local go_sem] Oper.semAt_some

/-- The level of a variable that is not set. -/
def Lvl.zero : Lv := ⟨0, 0, 0, 0, 0⟩
/-- C behind some parameters: it says nothing where one is as great. -/
def Lvl.formC (c : Int) (pre : List (Int × Int)) : Int := pre.foldl (fun c x => if c ≤ x.2 then 0 else c) c
theorem Lvl.formC_snoc (c : Int) (pre : List (Int × Int)) (x : Int × Int) : formC c (pre ++ [x]) = if formC c pre ≤ x.2 then 0 else formC c pre := by
  unfold formC; rw [List.foldl_append]; rfl
def Lvl.Lv.form (l : Lv) : Lv := { l with c := formC l.c l.ps }

/-- A block of cells stays as it is where blocks of other kinds are turned. -/
theorem Lvl.block_kept {l : Lv} {W W' : World} {row : Option Nat} {B : Nat} (h : W.heap[B]? = some l.box) (hg : W.grownBy W' row) (hr : ∀ r, row = some r → ∃ o : Obj, W.heap[r]? = some o ∧ o.isCells = false) : W'.heap[B]? = some l.box := by
  rw [grownBy_keeps_cells hg hr h rfl]; exact h

/-- A store into the cell i of a level's block. -/
theorem Lvl.set_c {l : Lv} {W : World} {B : Nat} (h : W.heap[B]? = some l.box) (n : Int) : (W.setCell ⟨B, 0, none⟩ (.int .i64 n)).heap[B]? = some ({ l with c := n } : Lv).box := by
  simp [World.setCell, Array.getElem?_modify, h, Lv.box]
theorem Lvl.block_other {l : Lv} {W : World} {B : Nat} (h : W.heap[B]? = some l.box) {b o : Nat} (v : Value) (hb : b ≠ B) : (W.setCell ⟨b, o, none⟩ v).heap[B]? = some l.box := by
  simp [World.setCell, Array.getElem?_modify, h, hb]
theorem Lvl.cells_other {W : World} {B : Nat} {x : Obj} (h : W.heap[B]? = some x) {b o : Nat} (v : Value) (hb : b ≠ B) : (W.setCell ⟨b, o, none⟩ v).heap[B]? = some x := by
  simp [World.setCell, Array.getElem?_modify, h, hb]
theorem Lvl.one_cell {W : World} {B t : Nat} {v : Value} (h : W.heap[B]? = some (.cells #[v] t)) : W.cell? ⟨B, 0, none⟩ = some v := by
  simp [World.cell?, h]
theorem Lvl.block_alloc {l : Lv} {W : World} {B : Nat} (h : W.heap[B]? = some l.box) (o : Obj) : (W.alloc o).heap[B]? = some l.box := by
  rw [Below.heap_alloc _ _ _ (Array.getElem?_eq_some_iff.1 h).1]; exact h
theorem Lvl.block_put {l : Lv} {W : World} {B D : Nat} {o : Obj} (h : W.heap[B]? = some l.box) (hD : W.heap[D]? = some o) (ho : o.isCells = false) (o' : Obj) : (W.putObj D o').heap[B]? = some l.box :=
  block_kept h (grownBy_putObj' W D o') (fun r e => by cases e; exact ⟨_, hD, ho⟩)

/-- Five stores: a level into a block of its kind. -/
theorem Lvl.set_all {l : Lv} {W : World} {B : Nat} (h : W.heap[B]? = some l.box) (c p0 p1 p2 p3 : Int) :
    (((((W.setCell ⟨B, 0, none⟩ (.int .i64 c)).setCell ⟨B, 1, none⟩ (.int .i64 p0)).setCell ⟨B, 2, none⟩ (.int .i64 p1)).setCell ⟨B, 3, none⟩ (.int .i64 p2)).setCell ⟨B, 4, none⟩ (.int .i64 p3)).heap[B]? = some (⟨c, p0, p1, p2, p3⟩ : Lv).box := by
  simp [World.setCell, Array.getElem?_modify, h, Lv.box]
theorem Lvl.below_all {w W : World} (h : Below w.heap.size w W) {B : Nat} (hB : w.heap.size ≤ B) (c p0 p1 p2 p3 : Value) :
    Below w.heap.size w (((((W.setCell ⟨B, 0, none⟩ c).setCell ⟨B, 1, none⟩ p0).setCell ⟨B, 2, none⟩ p1).setCell ⟨B, 3, none⟩ p2).setCell ⟨B, 4, none⟩ p3) :=
  ((((h.setCell (p := ⟨B, 0, none⟩) hB _).setCell (p := ⟨B, 1, none⟩) hB _).setCell (p := ⟨B, 2, none⟩) hB _).setCell (p := ⟨B, 3, none⟩) hB _).setCell (p := ⟨B, 4, none⟩) hB _
theorem Lvl.keeps_all (W : World) (B : Nat) (c p0 p1 p2 p3 : Value) :
    KeepsOthers W (((((W.setCell ⟨B, 0, none⟩ c).setCell ⟨B, 1, none⟩ p0).setCell ⟨B, 2, none⟩ p1).setCell ⟨B, 3, none⟩ p2).setCell ⟨B, 4, none⟩ p3) :=
  ((((KeepsOthers.setCell _ _ _).trans (KeepsOthers.setCell _ _ _)).trans (KeepsOthers.setCell _ _ _)).trans (KeepsOthers.setCell _ _ _)).trans (KeepsOthers.setCell _ _ _)

/-- The cells of a result where a loop over an iterator is left behind. -/
theorem Lvl.leave {l : Lv} {W : World} {B D : Nat} (h : W.heap[B]? = some l.box) (hK : W.heap[D]? = some (.deferred (some []))) :
    (W.putObj D (.deferred none)).cell? ⟨B, 0, none⟩ = some (.int .i64 l.c) ∧ (W.putObj D (.deferred none)).cell? ⟨B, 1, none⟩ = some (.int .i64 l.p0) ∧ (W.putObj D (.deferred none)).cell? ⟨B, 2, none⟩ = some (.int .i64 l.p1) ∧ (W.putObj D (.deferred none)).cell? ⟨B, 3, none⟩ = some (.int .i64 l.p2) ∧ (W.putObj D (.deferred none)).cell? ⟨B, 4, none⟩ = some (.int .i64 l.p3) :=
  Lv.cells (block_put h hK rfl _)

theorem Lvl.new3 (w : World) (o1 o2 o3 : Obj) : (((w.alloc o1).alloc o2).alloc o3).heap[w.heap.size + 1 + 1]? = some o3 := by
  have h := World.alloc_heap_new ((w.alloc o1).alloc o2) o3
  rwa [World.size_alloc, World.size_alloc] at h
theorem Lvl.new2 (w : World) (o1 o2 : Obj) : ((w.alloc o1).alloc o2).heap[w.heap.size + 1]? = some o2 := by
  have h := World.alloc_heap_new (w.alloc o1) o2
  rwa [World.size_alloc] at h
theorem Lvl.new2of3 (w : World) (o1 o2 o3 : Obj) : (((w.alloc o1).alloc o2).alloc o3).heap[w.heap.size + 1]? = some o2 := by
  rw [Below.heap_alloc _ _ _ (by simp)]; exact new2 w o1 o2
theorem Lvl.new1of3 (w : World) (o1 o2 o3 : Obj) : (((w.alloc o1).alloc o2).alloc o3).heap[w.heap.size]? = some o1 := by
  rw [Below.heap_alloc _ _ _ (by simp; omega), Below.heap_alloc _ _ _ (by simp)]; exact World.alloc_heap_new w o1

set_option maxRecDepth 100000 in
set_option maxHeartbeats 2000000 in
theorem inForm_any (l : Lv) (w : World) :
    Calls Try.prog 138 #[l.val] w fun e w' => e = .returned l.form.val ∧ Below w.heap.size w w' := by
  obtain ⟨G, hG⟩ : ∃ G, G = l.form := ⟨_, rfl⟩
  rw [← hG]
  have HG := Lib.hid hG
  clear hG
  refine (callsIn_wide (n := 3)).1 ?_
  refine callsIn_of_wp_marks Try.func138 rfl trivial ?_ rfl
  unfold Lv.val
  simp only [Try.ntmps138, List.size_toArray, List.length_cons, List.length_nil, Nat.reduceAdd, Nat.reduceSub, Array.replicate_succ, Array.replicate_zero, List.push_toArray, List.append_toArray, List.nil_append, List.cons_append]
  gi_wp2_with (refine ⟨trivial, ?_⟩; gi_at_call 124; refine (callsIn_wide.2 (params_any _ _)).mono ?_; rintro e w' ⟨rfl, rfl⟩)
  have hB0 : Below w.heap.size w (((w.alloc l.box).alloc zero.box).alloc l.box) := (((Below.refl _ w).alloc (Nat.le_refl _) _).alloc (by simp) _).alloc (by simp; omega) _
  refine wpIn_rangeFunc_ownF rfl (by omega) (gf := 144) (lb := #[.pointer (some ⟨w.heap.size + 1 + 1, 0, none⟩)]) rfl trivial (enters_of Try.func144 (by kernel_rfl) rfl)
    (params_stops Fence.wide 2 trivial rfl (by omega) (w.heap.size + 1 + 1) l _ (new3 w _ _ _)) (fun _ _ => trivial) (fun _ _ _ _ _ _ _ _ => trivial) (Below.refl _ _) (fun _ => rfl)
    (fun pre W => (W.heap[w.heap.size]? = some ({ l with c := formC l.c (pre.map (·.1)) } : Lv).box ∧ W.heap[w.heap.size + 1]? = some zero.box) ∧ Below w.heap.size w W)
    (fun _ _ _ => False)
    (OwnFrom.and (Own.from (fun s A B row hs hg hr => ⟨block_kept hs.1 hg hr, block_kept hs.2 hg hr⟩) _) (ownFrom_below (Nat.le_refl _) (by simp; omega)))
    (fun _ _ _ _ _ hs _ _ => hs)
    ⟨⟨?h1, ?h2⟩, hB0⟩
    (fun x => { tmps := #[l.val, .pointer (some ⟨w.heap.size, 0, none⟩), .pointer (some ⟨w.heap.size + 1, 0, none⟩), undef, .int .i64 x.1.2, l.val, .func (.func 144) #[] #[.pointer (some ⟨w.heap.size + 1 + 1, 0, none⟩)], .int .i64 x.1.1, .int .i64 x.1.2, undef, undef, undef, undef, undef, undef], defers := [] }) ?assign ?body ?done ?stop
  case h1 => exact new1of3 w _ _ _
  case h2 => exact new2of3 w _ _ _
  case assign =>
    intro lo x W K hK
    unfold Lv.val at hK
    gi_wp2
    exact hK
  case body =>
    rintro lo pre x W ⟨⟨h0, h1⟩, hB⟩ _
    obtain ⟨c0, _⟩ := Lv.cells h0
    have f0 := Lv.free h0 0
    have H0 := Lib.hid h0
    have H1 := Lib.hid h1
    clear h0 h1
    gi_wp2
    · have hx : formC l.c (pre.map (·.1)) ≤ x.1.2 := by assumption
      exact ⟨KeepsOthers.setCell _ _ _, trivial, ⟨by rw [List.map_append, List.map_singleton, formC_snoc, if_pos hx]; exact set_c H0.out 0, block_other H1.out _ (by omega)⟩, hB.setCell (p := ⟨w.heap.size, 0, none⟩) (Nat.le_refl _) _⟩
    · have hx : x.1.2 < formC l.c (pre.map (·.1)) := by assumption
      exact ⟨KeepsOthers.refl _, trivial, ⟨by rw [List.map_append, List.map_singleton, formC_snoc, if_neg (by omega)]; exact H0.out, H1.out⟩, hB⟩
  case done =>
    rintro D ys W hD hys ⟨⟨h0, h1⟩, hB⟩ hK
    obtain ⟨c0, c1, c2, c3, c4⟩ := Lv.cells h0
    obtain ⟨d0, d1, d2, d3, d4⟩ := Lv.cells h1
    have f0 := Lv.free h1 0
    have f1 := Lv.free h1 1
    have f2 := Lv.free h1 2
    have f3 := Lv.free h1 3
    have f4 := Lv.free h1 4
    have H0 := Lib.hid h0
    have H1 := Lib.hid h1
    have HK := Lib.hid hK
    have HY := Lib.hid hys
    clear h0 h1 hK hys
    gi_wp2
    have h5 := set_all H1.out (formC l.c (ys.map (·.1))) l.p0 l.p1 l.p2 l.p3
    have k5 := keeps_all W (w.heap.size + 1) (.int .i64 (formC l.c (ys.map (·.1)))) (.int .i64 l.p0) (.int .i64 l.p1) (.int .i64 l.p2) (.int .i64 l.p3)
    have b5 := below_all hB (B := w.heap.size + 1) (by omega) (.int .i64 (formC l.c (ys.map (·.1)))) (.int .i64 l.p0) (.int .i64 l.p1) (.int .i64 l.p2) (.int .i64 l.p3)
    generalize hW5 : (((((W.setCell ⟨w.heap.size + 1, 0, none⟩ (.int .i64 (formC l.c (ys.map (·.1))))).setCell ⟨w.heap.size + 1, 1, none⟩ (.int .i64 l.p0)).setCell ⟨w.heap.size + 1, 2, none⟩ (.int .i64 l.p1)).setCell ⟨w.heap.size + 1, 3, none⟩ (.int .i64 l.p2)).setCell ⟨w.heap.size + 1, 4, none⟩ (.int .i64 l.p3)) = W5 at h5 k5 b5 ⊢
    have K5 := k5.same D _ HK.out rfl
    obtain ⟨e0, e1, e2, e3, e4⟩ := leave h5 K5
    refine ⟨by simp, .inl ⟨_, _, rfl, run_takeDeferred K5, ?_⟩⟩
    refine ⟨.agg #[.int .i64 (formC l.c (ys.map (·.1))), .int .i64 l.p0, .int .i64 l.p1, .int .i64 l.p2, .int .i64 l.p3], by simp [results, Try.results138, go_sem, e0, e1, e2, e3, e4], ?_, ?_⟩
    · rw [HG.out, Lv.form, HY.out]
    · exact b5.trans (belowK_b (w := w) (Nat.le_refl _) _ D _ _ (by simp at hD; omega) K5 rfl rfl)
  case stop =>
    rintro D c pre W _ _ h _
    exact h.elim

/-- A level with another number at the parameter i. -/
def Lvl.Lv.put (o : Lv) (i n : Int) : Lv := if i = 0 then { o with p0 := n } else if i = 1 then { o with p1 := n } else if i = 2 then { o with p2 := n } else { o with p3 := n }
theorem Lvl.mem_one {i n : Int} {x : Int × Int} (h : x ∈ one i n) : x = (i, n) ∧ n ≠ -1 := by
  unfold one at h
  split at h
  · simp at h
  · simp at h; exact ⟨h, by assumption⟩
theorem Lvl.mem_ps {l : Lv} {x : Int × Int} (h : x ∈ l.ps) : (x = (0, l.p0) ∧ l.p0 ≠ -1) ∨ (x = (1, l.p1) ∧ l.p1 ≠ -1) ∨ (x = (2, l.p2) ∧ l.p2 ≠ -1) ∨ (x = (3, l.p3) ∧ l.p3 ≠ -1) := by
  unfold Lv.ps at h
  simp only [List.mem_append] at h
  rcases h with ((h | h) | h) | h
  · exact .inl (mem_one h)
  · exact .inr (.inl (mem_one h))
  · exact .inr (.inr (.inl (mem_one h)))
  · exact .inr (.inr (.inr (mem_one h)))
def Lvl.up (p n : Int) : Int := if p = -1 then -1 else p + n
/-- n more than a level, perhaps not in its form. -/
def Lvl.Lv.plus (l : Lv) (n : Int) : Lv := ⟨l.c + n, up l.p0 n, up l.p1 n, up l.p2 n, up l.p3 n⟩
def Lvl.plusAll (n : Int) (o : Lv) (pre : List (Int × Int)) : Lv := pre.foldl (fun o x => o.put x.1 (x.2 + n)) o
theorem Lvl.plusAll_snoc (n : Int) (o : Lv) (pre : List (Int × Int)) (x : Int × Int) : plusAll n o (pre ++ [x]) = (plusAll n o pre).put x.1 (x.2 + n) := by
  unfold plusAll; rw [List.foldl_append]; rfl
theorem Lvl.plusAll_all (l : Lv) (n : Int) : plusAll n (number (l.c + n)) l.ps = l.plus n := by
  unfold plusAll Lv.ps one Lv.plus up number
  by_cases h0 : l.p0 = -1 <;> by_cases h1 : l.p1 = -1 <;> by_cases h2 : l.p2 = -1 <;> by_cases h3 : l.p3 = -1 <;> simp [h0, h1, h2, h3, Lv.put]

theorem Lvl.set_p0 {l : Lv} {W : World} {B : Nat} (h : W.heap[B]? = some l.box) (n : Int) : (W.setCell ⟨B, 1, none⟩ (.int .i64 n)).heap[B]? = some (l.put 0 n).box := by
  simp [World.setCell, Array.getElem?_modify, h, Lv.box, Lv.put]
theorem Lvl.set_p1 {l : Lv} {W : World} {B : Nat} (h : W.heap[B]? = some l.box) (n : Int) : (W.setCell ⟨B, 2, none⟩ (.int .i64 n)).heap[B]? = some (l.put 1 n).box := by
  simp [World.setCell, Array.getElem?_modify, h, Lv.box, Lv.put]
theorem Lvl.set_p2 {l : Lv} {W : World} {B : Nat} (h : W.heap[B]? = some l.box) (n : Int) : (W.setCell ⟨B, 3, none⟩ (.int .i64 n)).heap[B]? = some (l.put 2 n).box := by
  simp [World.setCell, Array.getElem?_modify, h, Lv.box, Lv.put]
theorem Lvl.set_p3 {l : Lv} {W : World} {B : Nat} (h : W.heap[B]? = some l.box) (n : Int) : (W.setCell ⟨B, 4, none⟩ (.int .i64 n)).heap[B]? = some (l.put 3 n).box := by
  simp [World.setCell, Array.getElem?_modify, h, Lv.box, Lv.put]

theorem Lvl.bcell {W w1 : World} (hb : Below W.heap.size W w1) : (∀ b o, b < W.heap.size → w1.cell? ⟨b, o, none⟩ = W.cell? ⟨b, o, none⟩) ∧ (∀ b o, b < W.heap.size → w1.frozen? ⟨b, o, none⟩ = W.frozen? ⟨b, o, none⟩) :=
  ⟨fun b o h => hb.cell (p := ⟨b, o, none⟩) h, fun b o h => hb.frozen (p := ⟨b, o, none⟩) h⟩

set_option maxRecDepth 100000 in
set_option maxHeartbeats 2000000 in
theorem plus_any (l : Lv) (n : Int) (w : World) (hl : l.within = true) (hn : 0 ≤ n ∧ n ≤ 1099511627776) :
    Calls Try.prog 126 #[l.val, .int .i64 n] w fun e w' => e = .returned (l.plus n).val ∧ Below w.heap.size w w' := by
  obtain ⟨G, hG⟩ : ∃ G, G = l.plus n := ⟨_, rfl⟩
  rw [← hG]
  have HG := Lib.hid hG
  clear hG
  simp only [Lv.within, decide_eq_true_eq] at hl
  obtain ⟨⟩ := hl
  refine (callsIn_wide (n := 3)).1 ?_
  refine callsIn_of_wp_marks Try.func126 rfl trivial ?_ rfl
  unfold Lv.val
  simp only [Try.ntmps126, List.size_toArray, List.length_cons, List.length_nil, Nat.reduceAdd, Nat.reduceSub, Array.replicate_succ, Array.replicate_zero, List.push_toArray, List.append_toArray, List.nil_append, List.cons_append]
  gi_wp2_with fail
  refine ⟨trivial, ?_⟩; refine (callsIn_wide.2 (number_any _ _)).mono ?_; rintro e w1 ⟨rfl, b1⟩; obtain ⟨hc1, hf1⟩ := bcell b1
  have hz := b1.size
  simp at hz
  have hz0 : w.heap.size < w1.heap.size := by omega
  have hz1 : w.heap.size + 1 < w1.heap.size := by omega
  have hz2 : w.heap.size + 1 + 1 < w1.heap.size := by omega
  clear hz; dsimp only [number, Lv.val]
  gi_wp2_with (refine ⟨trivial, ?_⟩; gi_at_call 124; refine (callsIn_wide.2 (params_any _ _)).mono ?_; rintro e w' ⟨rfl, rfl⟩)
  have hold : ∀ k (hk : k < w.heap.size + 1 + 1 + 1) (o : Obj), (((w.alloc l.box).alloc (.cells #[.int .i64 n] 3)).alloc zero.box).heap[k]? = some o → ((w1.alloc (number (l.c + n)).box).alloc l.box).heap[k]? = some o := fun k hk o h => by
    rw [Below.heap_alloc _ _ _ (by simp; omega), Below.heap_alloc _ _ _ (by omega)]
    have e := b1.block k (by simp; omega)
    rw [e]; exact h
  have hn1 := hold (w.heap.size + 1) (by omega) _ (new2of3 w _ _ _)
  have hB0 : Below w.heap.size w ((w1.alloc (number (l.c + n)).box).alloc l.box) :=
    (((((Below.refl _ w).alloc (Nat.le_refl _) _).alloc (by simp) _).alloc (by simp; omega) _).trans (b1.mono (by simp; omega))).alloc (by omega) _ |>.alloc (by simp; omega) _
  refine wpIn_rangeFunc_ownF rfl (by omega) (gf := 144) (lb := #[.pointer (some ⟨w1.heap.size + 1, 0, none⟩)]) rfl trivial (enters_of Try.func144 (by kernel_rfl) rfl)
    (params_stops Fence.wide 2 trivial rfl (by omega) (w1.heap.size + 1) l _ (new2 w1 _ _)) (fun _ _ => trivial) (fun _ _ _ _ _ _ _ _ => trivial) (Below.refl _ _) (fun _ => rfl)
    (fun pre W => (W.heap[w1.heap.size]? = some (plusAll n (number (l.c + n)) (pre.map (·.1))).box ∧ W.heap[w.heap.size + 1 + 1]? = some zero.box ∧ W.heap[w.heap.size + 1]? = some (.cells #[.int .i64 n] 3)) ∧ Below w.heap.size w W)
    (fun _ _ _ => False)
    (OwnFrom.and (Own.from (fun s A B row hs hg hr => ⟨block_kept hs.1 hg hr, block_kept hs.2.1 hg hr, (grownBy_keeps_cells hg hr hs.2.2 rfl).trans hs.2.2⟩) _) (ownFrom_below (Nat.le_refl _) (by simp; omega)))
    (fun _ _ _ _ _ hs _ _ => hs)
    ⟨⟨?h1, ?h2, hn1⟩, hB0⟩
    (fun x => { tmps := #[.agg #[.int .i64 l.c, .int .i64 l.p0, .int .i64 l.p1, .int .i64 l.p2, .int .i64 l.p3], .int .i64 n, .pointer (some ⟨w.heap.size, 0, none⟩), .pointer (some ⟨w.heap.size + 1, 0, none⟩), .pointer (some ⟨w.heap.size + 1 + 1, 0, none⟩), .pointer (some ⟨w1.heap.size, 0, none⟩), .int .i64 x.1.1, .int .i64 x.1.2, .pointer (some ⟨w.heap.size, 0, none⟩), .int .i64 l.c, .int .i64 n, .int .i64 (l.c + n), .agg #[.int .i64 (l.c + n), .int .i64 (-1), .int .i64 (-1), .int .i64 (-1), .int .i64 (-1)], .agg #[.int .i64 l.c, .int .i64 l.p0, .int .i64 l.p1, .int .i64 l.p2, .int .i64 l.p3], .func (.func 144) #[] #[.pointer (some ⟨w1.heap.size + 1, 0, none⟩)], .int .i64 x.1.1, .int .i64 x.1.2, undef, undef, undef, undef, undef, undef, undef], defers := [] }) ?assign ?body ?done ?stop
  case h1 =>
    rw [Below.heap_alloc _ _ _ (by simp)]; exact World.alloc_heap_new w1 _
  case h2 => exact hold _ (by omega) _ (new3 w _ _ _)
  case assign =>
    intro lo x W K hK
    gi_wp2
    exact hK
  case body =>
    clear hc1 hf1 hold hn1
    rintro lo pre ⟨x, hx⟩ W ⟨⟨h0, h1, h2⟩, hB⟩ _
    obtain ⟨c0, c1, c2, c3, c4⟩ := Lv.cells h0
    have f1 := Lv.free h0 1
    have f2 := Lv.free h0 2
    have f3 := Lv.free h0 3
    have f4 := Lv.free h0 4
    have H0 := Lib.hid h0
    have H1 := Lib.hid h1
    clear h0 h1
    have c5 := one_cell h2
    have H2 := Lib.hid h2
    clear h2
    dsimp only
    rcases mem_ps hx with ⟨rfl, hp⟩ | ⟨rfl, hp⟩ | ⟨rfl, hp⟩ | ⟨rfl, hp⟩
    · have HP := Lib.hid hp
      clear hp
      gi_wp2
      exact ⟨KeepsOthers.setCell _ _ _, trivial, ⟨by rw [List.map_append, List.map_singleton, plusAll_snoc]; exact set_p0 H0.out _, block_other H1.out _ (by omega), cells_other H2.out _ (by omega)⟩, hB.setCell (p := ⟨w1.heap.size, 1, none⟩) (show w.heap.size ≤ w1.heap.size by omega) _⟩
    · have HP := Lib.hid hp
      clear hp
      gi_wp2
      exact ⟨KeepsOthers.setCell _ _ _, trivial, ⟨by rw [List.map_append, List.map_singleton, plusAll_snoc]; exact set_p1 H0.out _, block_other H1.out _ (by omega), cells_other H2.out _ (by omega)⟩, hB.setCell (p := ⟨w1.heap.size, 2, none⟩) (show w.heap.size ≤ w1.heap.size by omega) _⟩
    · have HP := Lib.hid hp
      clear hp
      gi_wp2
      exact ⟨KeepsOthers.setCell _ _ _, trivial, ⟨by rw [List.map_append, List.map_singleton, plusAll_snoc]; exact set_p2 H0.out _, block_other H1.out _ (by omega), cells_other H2.out _ (by omega)⟩, hB.setCell (p := ⟨w1.heap.size, 3, none⟩) (show w.heap.size ≤ w1.heap.size by omega) _⟩
    · have HP := Lib.hid hp
      clear hp
      gi_wp2
      exact ⟨KeepsOthers.setCell _ _ _, trivial, ⟨by rw [List.map_append, List.map_singleton, plusAll_snoc]; exact set_p3 H0.out _, block_other H1.out _ (by omega), cells_other H2.out _ (by omega)⟩, hB.setCell (p := ⟨w1.heap.size, 4, none⟩) (show w.heap.size ≤ w1.heap.size by omega) _⟩
  case done =>
    clear hc1 hf1 hold hn1
    rintro D ys W hD hys ⟨⟨h0, h1, h2⟩, hB⟩ hK
    obtain ⟨o, ho⟩ : ∃ o, o = plusAll n (number (l.c + n)) (ys.map (·.1)) := ⟨_, rfl⟩
    rw [← ho] at h0
    obtain ⟨c0, c1, c2, c3, c4⟩ := Lv.cells h0
    obtain ⟨d0, d1, d2, d3, d4⟩ := Lv.cells h1
    have f0 := Lv.free h1 0
    have f1 := Lv.free h1 1
    have f2 := Lv.free h1 2
    have f3 := Lv.free h1 3
    have f4 := Lv.free h1 4
    have H0 := Lib.hid h0
    have H1 := Lib.hid h1
    have HK := Lib.hid hK
    have HY := Lib.hid hys
    have HO := Lib.hid ho
    clear h0 h1 hK hys h2 ho
    gi_wp2
    have h5 := set_all H1.out o.c o.p0 o.p1 o.p2 o.p3
    have k5 := keeps_all W (w.heap.size + 1 + 1) (.int .i64 o.c) (.int .i64 o.p0) (.int .i64 o.p1) (.int .i64 o.p2) (.int .i64 o.p3)
    have b5 := below_all hB (B := w.heap.size + 1 + 1) (by omega) (.int .i64 o.c) (.int .i64 o.p0) (.int .i64 o.p1) (.int .i64 o.p2) (.int .i64 o.p3)
    generalize hW5 : (((((W.setCell ⟨w.heap.size + 1 + 1, 0, none⟩ (.int .i64 o.c)).setCell ⟨w.heap.size + 1 + 1, 1, none⟩ (.int .i64 o.p0)).setCell ⟨w.heap.size + 1 + 1, 2, none⟩ (.int .i64 o.p1)).setCell ⟨w.heap.size + 1 + 1, 3, none⟩ (.int .i64 o.p2)).setCell ⟨w.heap.size + 1 + 1, 4, none⟩ (.int .i64 o.p3)) = W5 at h5 k5 b5 ⊢
    have K5 := k5.same D _ HK.out rfl
    obtain ⟨e0, e1, e2, e3, e4⟩ := leave h5 K5
    refine ⟨by simp, .inl ⟨_, _, rfl, run_takeDeferred K5, ?_⟩⟩
    refine ⟨.agg #[.int .i64 o.c, .int .i64 o.p0, .int .i64 o.p1, .int .i64 o.p2, .int .i64 o.p3], by simp [results, Try.results126, go_sem, e0, e1, e2, e3, e4], ?_, ?_⟩
    · have e : o = G := by rw [HO.out, HY.out, plusAll_all, HG.out]
      rw [e]
    · exact b5.trans (belowK_b (w := w) (Nat.le_refl _) _ D _ _ (by simp at hD; omega) K5 rfl rfl)
  case stop =>
    rintro D c pre W _ _ h _
    exact h.elim
end Go.Proofs.Ytijdlihodpodjaa
