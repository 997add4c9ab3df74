/-
  level.join: the greater one of two levels.
-/
import Derived.Test.YtijdlihodpodjaaLevForm
import Derived.WalkLawsBesides
namespace Go.Proofs.Ytijdlihodpodjaa
open Go.RowKit Go.Shelf Lvl
attribute [local go_sem] Oper.semAt_some

/-- A level with a number that is greater, perhaps, at the parameter i. -/
def Lvl.Lv.lift (o : Lv) (i n : Int) : Lv := if i = 0 then { o with p0 := max o.p0 n } else if i = 1 then { o with p1 := max o.p1 n } else if i = 2 then { o with p2 := max o.p2 n } else { o with p3 := max o.p3 n }
def Lvl.joinAll (o : Lv) (pre : List (Int × Int)) : Lv := pre.foldl (fun o x => o.lift x.1 x.2) o
theorem Lvl.joinAll_snoc (o : Lv) (pre : List (Int × Int)) (x : Int × Int) : joinAll o (pre ++ [x]) = (joinAll o pre).lift x.1 x.2 := by
  unfold joinAll; rw [List.foldl_append]; rfl
/-- The greater one of two levels, perhaps not in its form. -/
def Lvl.Lv.join (a b : Lv) : Lv := ⟨max a.c b.c, max a.p0 b.p0, max a.p1 b.p1, max a.p2 b.p2, max a.p3 b.p3⟩
theorem Lvl.joinAll_all (a b : Lv) (h0 : -1 ≤ a.p0) (h1 : -1 ≤ a.p1) (h2 : -1 ≤ a.p2) (h3 : -1 ≤ a.p3) : joinAll { a with c := max a.c b.c } b.ps = a.join b := by
  unfold joinAll Lv.ps one Lv.join
  by_cases e0 : b.p0 = -1 <;> by_cases e1 : b.p1 = -1 <;> by_cases e2 : b.p2 = -1 <;> by_cases e3 : b.p3 = -1 <;> simp [e0, e1, e2, e3, Lv.lift, Int.max_eq_left h0, Int.max_eq_left h1, Int.max_eq_left h2, Int.max_eq_left h3]

theorem Lvl.new4 (w : World) (o1 o2 o3 o4 : Obj) : ((((w.alloc o1).alloc o2).alloc o3).alloc o4).heap[w.heap.size + 1 + 1 + 1]? = some o4 := by
  have h := World.alloc_heap_new (((w.alloc o1).alloc o2).alloc o3) o4
  rwa [World.size_alloc, World.size_alloc, World.size_alloc] at h
theorem Lvl.run_max (x y : Int) (ats : Array TypeId) (ty : TypeId) (w : World) : (Builtin.max_ ats ty #[.int .i64 x, .int .i64 y]).run Try.prog w = .ok (.int .i64 (max x y)) w := by
  by_cases h : x < y
  · have e : max x y = y := by omega
    rw [e]
    simp [Builtin.max_, Builtin.max2, go_sem, h]
  · have e : max x y = x := by omega
    rw [e]
    simp [Builtin.max_, Builtin.max2, go_sem, h]

set_option maxRecDepth 100000 in
set_option maxHeartbeats 2000000 in
theorem join_any (a b : Lv) (w : World) (h0' : -1 ≤ a.p0) (h1' : -1 ≤ a.p1) (h2' : -1 ≤ a.p2) (h3' : -1 ≤ a.p3) :
    Calls Try.prog 125 #[a.val, b.val] w fun e w' => e = .returned (a.join b).val ∧ Below w.heap.size w w' := by
  obtain ⟨G, hG⟩ : ∃ G, G = a.join b := ⟨_, rfl⟩
  rw [← hG]
  have HG := Lib.hid hG
  clear hG
  refine (callsIn_wide (n := 3)).1 ?_
  refine callsIn_of_wp_marks Try.func125 rfl trivial ?_ rfl
  unfold Lv.val
  have hmax := run_max
  simp only [Try.ntmps125, List.size_toArray, List.length_cons, List.length_nil, Nat.reduceAdd, Nat.reduceSub, Array.replicate_succ, Array.replicate_zero, List.push_toArray, List.append_toArray, List.nil_append, List.cons_append]
  gi_wp2_with (refine ⟨trivial, ?_⟩; gi_at_call 124; refine (callsIn_wide.2 (params_any _ _)).mono ?_; rintro e w' ⟨rfl, rfl⟩)
  have hB0 : Below w.heap.size w ((((w.alloc ({ a with c := max a.c b.c } : Lv).box).alloc b.box).alloc zero.box).alloc b.box) :=
    ((((Below.refl _ w).alloc (Nat.le_refl _) _).alloc (by simp) _).alloc (by simp; omega) _).alloc (by simp; omega) _
  refine wpIn_rangeFunc_ownF rfl (by omega) (gf := 144) (lb := #[.pointer (some ⟨w.heap.size + 1 + 1 + 1, 0, none⟩)]) rfl trivial (enters_of Try.func144 (by kernel_rfl) rfl)
    (params_stops Fence.wide 2 trivial rfl (by omega) (w.heap.size + 1 + 1 + 1) b _ (new4 w _ _ _ _)) (fun _ _ => trivial) (fun _ _ _ _ _ _ _ _ => trivial) (Below.refl _ _) (fun _ => rfl)
    (fun pre W => (W.heap[w.heap.size]? = some (joinAll { a with c := max a.c b.c } (pre.map (·.1))).box ∧ W.heap[w.heap.size + 1 + 1]? = some zero.box) ∧ Below w.heap.size w W)
    (fun _ _ _ => False)
    (OwnFrom.and (Own.from (fun s A B row hs hg hr => ⟨block_kept hs.1 hg hr, block_kept hs.2 hg hr⟩) _) (ownFrom_below (Nat.le_refl _) (by simp; omega)))
    (fun _ _ _ _ _ hs _ _ => hs)
    ⟨⟨?h1, ?h2⟩, hB0⟩
    (fun x => { tmps := #[.agg #[.int .i64 a.c, .int .i64 a.p0, .int .i64 a.p1, .int .i64 a.p2, .int .i64 a.p3], .agg #[.int .i64 b.c, .int .i64 b.p0, .int .i64 b.p1, .int .i64 b.p2, .int .i64 b.p3], .pointer (some ⟨w.heap.size, 0, none⟩), .pointer (some ⟨w.heap.size + 1, 0, none⟩), .pointer (some ⟨w.heap.size + 1 + 1, 0, none⟩), .int .i64 x.1.1, .int .i64 x.1.2, .pointer (some ⟨w.heap.size, 0, none⟩), .int .i64 a.c, .pointer (some ⟨w.heap.size + 1, 0, none⟩), .int .i64 b.c, .int .i64 (max a.c b.c), .pointer (some ⟨w.heap.size, 0, none⟩), .agg #[.int .i64 b.c, .int .i64 b.p0, .int .i64 b.p1, .int .i64 b.p2, .int .i64 b.p3], .func (.func 144) #[] #[.pointer (some ⟨w.heap.size + 1 + 1 + 1, 0, none⟩)], .int .i64 x.1.1, .int .i64 x.1.2, undef, undef, undef, undef, undef, undef, undef, undef, undef, undef], defers := [] }) ?assign ?body ?done ?stop
  case h1 =>
    rw [Below.heap_alloc _ _ _ (by simp; omega)]; exact new1of3 w _ _ _
  case h2 =>
    rw [Below.heap_alloc _ _ _ (by simp)]; exact new3 w _ _ _
  case assign =>
    intro lo x W K hK
    gi_wp2
    exact hK
  case body =>
    rintro lo pre ⟨x, hx⟩ W ⟨⟨h0, h1⟩, hB⟩ _
    obtain ⟨o, ho⟩ : ∃ o, o = joinAll { a with c := max a.c b.c } (pre.map (·.1)) := ⟨_, rfl⟩
    rw [← ho] at h0
    obtain ⟨c0, c1, c2, c3, c4⟩ := Lv.cells h0
    have f1 := Lv.free h0 1
    have f2 := Lv.free h0 2
    have f3 := Lv.free h0 3
    have f4 := Lv.free h0 4
    have H0 := Lib.hid h0
    have H1 := Lib.hid h1
    have HO := Lib.hid ho
    clear h0 h1 ho
    dsimp only
    rcases mem_ps hx with ⟨rfl, hp⟩ | ⟨rfl, hp⟩ | ⟨rfl, hp⟩ | ⟨rfl, hp⟩
    · have HP := Lib.hid hp
      clear hp
      gi_wp2
      exact ⟨KeepsOthers.setCell _ _ _, trivial, ⟨by rw [List.map_append, List.map_singleton, joinAll_snoc, ← HO.out]; exact set_p0 H0.out _, block_other H1.out _ (by omega)⟩, hB.setCell (p := ⟨w.heap.size, 1, none⟩) (Nat.le_refl _) _⟩
    · have HP := Lib.hid hp
      clear hp
      gi_wp2
      exact ⟨KeepsOthers.setCell _ _ _, trivial, ⟨by rw [List.map_append, List.map_singleton, joinAll_snoc, ← HO.out]; exact set_p1 H0.out _, block_other H1.out _ (by omega)⟩, hB.setCell (p := ⟨w.heap.size, 2, none⟩) (Nat.le_refl _) _⟩
    · have HP := Lib.hid hp
      clear hp
      gi_wp2
      exact ⟨KeepsOthers.setCell _ _ _, trivial, ⟨by rw [List.map_append, List.map_singleton, joinAll_snoc, ← HO.out]; exact set_p2 H0.out _, block_other H1.out _ (by omega)⟩, hB.setCell (p := ⟨w.heap.size, 3, none⟩) (Nat.le_refl _) _⟩
    · have HP := Lib.hid hp
      clear hp
      gi_wp2
      exact ⟨KeepsOthers.setCell _ _ _, trivial, ⟨by rw [List.map_append, List.map_singleton, joinAll_snoc, ← HO.out]; exact set_p3 H0.out _, block_other H1.out _ (by omega)⟩, hB.setCell (p := ⟨w.heap.size, 4, none⟩) (Nat.le_refl _) _⟩
  case done =>
    rintro D ys W hD hys ⟨⟨h0, h1⟩, hB⟩ hK
    obtain ⟨o, ho⟩ : ∃ o, o = joinAll { a with c := max a.c b.c } (ys.map (·.1)) := ⟨_, rfl⟩
    rw [← ho] at h0
    obtain ⟨c0, c1, c2, c3, c4⟩ := Lv.cells h0
    obtain ⟨d0, d1, d2, d3, d4⟩ := Lv.cells h1
    have f0 := Lv.free h1 0
    have f1 := Lv.free h1 1
    have f2 := Lv.free h1 2
    have f3 := Lv.free h1 3
    have f4 := Lv.free h1 4
    have H0 := Lib.hid h0
    have H1 := Lib.hid h1
    have HK := Lib.hid hK
    have HY := Lib.hid hys
    have HO := Lib.hid ho
    clear h0 h1 hK hys ho
    gi_wp2
    have h5 := set_all H1.out o.c o.p0 o.p1 o.p2 o.p3
    have k5 := keeps_all W (w.heap.size + 1 + 1) (.int .i64 o.c) (.int .i64 o.p0) (.int .i64 o.p1) (.int .i64 o.p2) (.int .i64 o.p3)
    have b5 := below_all hB (B := w.heap.size + 1 + 1) (by omega) (.int .i64 o.c) (.int .i64 o.p0) (.int .i64 o.p1) (.int .i64 o.p2) (.int .i64 o.p3)
    generalize hW5 : (((((W.setCell ⟨w.heap.size + 1 + 1, 0, none⟩ (.int .i64 o.c)).setCell ⟨w.heap.size + 1 + 1, 1, none⟩ (.int .i64 o.p0)).setCell ⟨w.heap.size + 1 + 1, 2, none⟩ (.int .i64 o.p1)).setCell ⟨w.heap.size + 1 + 1, 3, none⟩ (.int .i64 o.p2)).setCell ⟨w.heap.size + 1 + 1, 4, none⟩ (.int .i64 o.p3)) = W5 at h5 k5 b5 ⊢
    have K5 := k5.same D _ HK.out rfl
    obtain ⟨e0, e1, e2, e3, e4⟩ := leave h5 K5
    refine ⟨by simp, .inl ⟨_, _, rfl, run_takeDeferred K5, ?_⟩⟩
    refine ⟨.agg #[.int .i64 o.c, .int .i64 o.p0, .int .i64 o.p1, .int .i64 o.p2, .int .i64 o.p3], by simp [results, Try.results125, go_sem, e0, e1, e2, e3, e4], ?_, ?_⟩
    · have e : o = G := by rw [HO.out, HY.out, joinAll_all a b h0' h1' h2' h3', HG.out]
      rw [e]
    · exact b5.trans (belowK_b (w := w) (Nat.le_refl _) _ D _ _ (by simp at hD; omega) K5 rfl rfl)
  case stop =>
    rintro D c pre W _ _ h _
    exact h.elim
end Go.Proofs.Ytijdlihodpodjaa
