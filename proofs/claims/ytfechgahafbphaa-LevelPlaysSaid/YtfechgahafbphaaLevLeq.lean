/-
  level.Leq, level.Param.
-/
import Derived.Test.YtfechgahafbphaaLevOps
namespace Go.Proofs.Ytfechgahafbphaa
open Go.RowKit Go.Shelf Lvl

def Lvl.eqP (a b : Lv) : Bool := a.p0 == b.p0 && a.p1 == b.p1 && a.p2 == b.p2 && a.p3 == b.p3
/-- Is a at most b? -/
def Lvl.leq (a b : Lv) : Bool := ((maxi a b).2 == 0) && (((maxi a b).1.c == b.c) && eqP (maxi a b).1 b)
def Lvl.param (i : Int) : Lv × Int := if 0 ≤ i ∧ i < 4 then ((number 0).put i 0, 0) else (zero, 1)

theorem Lvl.keepA {W : World} {k : Nat} {o : Obj} (h : W.heap[k]? = some o) (x : Obj) : (W.alloc x).heap[k]? = some o := by
  rw [Below.heap_alloc _ _ _ (Array.getElem?_eq_some_iff.1 h).1]; exact h

set_option maxRecDepth 100000 in
set_option maxHeartbeats 1000000 in
theorem leq_any (a b : Lv) (w : World) :
    Calls Try.prog 40 #[a.val, b.val] w fun e w' => e = .returned (.bool (leq a b)) ∧ Below w.heap.size w w' := by
  have hmax := fun w => max_any a b w
  unfold leq
  obtain ⟨x, hx⟩ : ∃ x, x = maxi a b := ⟨_, rfl⟩
  rw [← hx] at hmax ⊢
  obtain ⟨⟨ac, a0, a1, a2, a3⟩, q⟩ := x
  dsimp only at hmax
  obtain ⟨r, hr⟩ : ∃ r, r = eqP ⟨ac, a0, a1, a2, a3⟩ b := ⟨_, rfl⟩
  dsimp only
  rw [← hr]
  have harr : ∀ w, (Op.equalIn 9999 42 (.agg #[.int .i64 a0, .int .i64 a1, .int .i64 a2, .int .i64 a3]) (.agg #[.int .i64 b.p0, .int .i64 b.p1, .int .i64 b.p2, .int .i64 b.p3])).run Try.prog w = .ok r w := by
    intro w
    rw [hr]
    exact eq_arr 9997 _ _ _ _ _ _ _ _ w
  have HM := Lib.hid hmax
  have HB := Lib.hid (new2 w a.box b.box)
  clear hmax hr hx
  unfold Lv.val
  go_enter Try.func40, Try.ntmps40
  go_wp2_with fail
  refine (HM.out _).mono ?_
  rintro e w1 ⟨rfl, b1⟩
  have HB1 := Lib.hid (keep b1 HB.out)
  have B1 := Lib.hid (((below_two w a.box b.box).trans (b1.mono (by simp; omega))).alloc (by have := b1.size; simp at this; omega) (Lv.box ⟨ac, a0, a1, a2, a3⟩))
  obtain ⟨d0, d1, d2, d3, d4⟩ := Lv.cells HB1.out
  have hz : w.heap.size + 1 < w1.heap.size := by have := b1.size; simp at this; omega
  clear b1
  dsimp only [Lv.val]
  by_cases hq : q = 0
  · subst hq
    by_cases hc : ac = b.c
    · subst hc
      cases r
      all_goals
        go_wp2_with fail
        go_ret
        exact ⟨by simp, B1.out⟩
    · have hcb : (ac == b.c) = false := by simp [hc]
      have HC := Lib.hid hcb
      clear hcb
      go_wp2_with fail
      go_ret
      exact ⟨by rw [HC.out]; simp, B1.out⟩
  · have hqb : (q == 0) = false := by simp [hq]
    go_wp2_with fail
    go_ret
    exact ⟨by rw [hqb]; simp, B1.out⟩

set_option maxRecDepth 100000 in
set_option maxHeartbeats 1000000 in
theorem param_no (i : Int) (w : World) (h : ¬ (0 ≤ i ∧ i < 4)) :
    Calls Try.prog 36 #[.int .i64 i] w fun e w' => e = .returned (.tuple #[zero.val, .int .i64 1]) ∧ Below w.heap.size w w' := by
  have h' : i < 0 ∨ (0 ≤ i ∧ 4 ≤ i) := by omega
  clear h
  rcases h' with h | ⟨h0, h⟩
  all_goals
    go_enter Try.func36, Try.ntmps36
    go_wp2_with fail
    exact bodyPost_ret (v := .tuple #[.agg #[.int .i64 0, .int .i64 0, .int .i64 0, .int .i64 0, .int .i64 0], .int .i64 1]) (by simp [results, Try.results36, go_sem]) rfl ⟨rfl, below_one _ _⟩

set_option maxRecDepth 100000 in
set_option maxHeartbeats 1000000 in
theorem param0 (w : World) :
    Calls Try.prog 36 #[.int .i64 0] w fun e w' => e = .returned (.tuple #[.agg #[.int .i64 0, .int .i64 0, .int .i64 (-1), .int .i64 (-1), .int .i64 (-1)], .int .i64 0]) ∧ Below w.heap.size w w' := by
  have HZ := Lib.hid (World.alloc_heap_new w zero.box)
  go_enter Try.func36, Try.ntmps36
  go_wp2_with fail
  refine (zero_any _).mono ?_
  rintro e w1 ⟨rfl, b1⟩
  have HR := Lib.hid (keep b1 HZ.out)
  have B1 := Lib.hid ((below_one w zero.box).trans (b1.mono (by simp)))
  obtain ⟨d0, d1, d2, d3, d4⟩ := Lv.cells HR.out
  obtain ⟨f0, f1, f2, f3, f4⟩ := Lv.frees HR.out
  have hz0 : w.heap.size < w1.heap.size := by have := b1.size; simp at this; omega
  clear b1
  dsimp only [number, Lv.val]
  go_wp2_with fail
  have h5 := keepA (put5_self HR.out ⟨0, 0, -1, -1, -1⟩) (Lv.box ⟨0, 0, -1, -1, -1⟩)
  have b5 := (put5_below B1.out (B := w.heap.size) (Nat.le_refl _) ⟨0, 0, -1, -1, -1⟩).alloc (by simp [put5]; omega) (Lv.box ⟨0, 0, -1, -1, -1⟩)
  generalize hW : (((((w1.setCell ⟨w.heap.size, 0, none⟩ (.int .i64 0)).setCell ⟨w.heap.size, 1, none⟩ (.int .i64 0)).setCell ⟨w.heap.size, 2, none⟩ (.int .i64 (-1))).setCell ⟨w.heap.size, 3, none⟩ (.int .i64 (-1))).setCell ⟨w.heap.size, 4, none⟩ (.int .i64 (-1))).alloc (.cells #[.int .i64 0, .int .i64 0, .int .i64 (-1), .int .i64 (-1), .int .i64 (-1)] 44) = W4
  rw [show (put5 w1 w.heap.size ⟨0, 0, -1, -1, -1⟩).alloc (Lv.box ⟨0, 0, -1, -1, -1⟩) = W4 from hW] at h5 b5
  obtain ⟨e0, e1, e2, e3, e4⟩ := Lv.cells h5
  exact bodyPost_ret (v := .tuple #[.agg #[.int .i64 0, .int .i64 0, .int .i64 (-1), .int .i64 (-1), .int .i64 (-1)], .int .i64 0]) (by simp [results, Try.results36, go_sem, e0, e1, e2, e3, e4]) rfl ⟨rfl, b5⟩

set_option maxRecDepth 100000 in
set_option maxHeartbeats 1000000 in
theorem param1 (w : World) :
    Calls Try.prog 36 #[.int .i64 1] w fun e w' => e = .returned (.tuple #[.agg #[.int .i64 0, .int .i64 (-1), .int .i64 0, .int .i64 (-1), .int .i64 (-1)], .int .i64 0]) ∧ Below w.heap.size w w' := by
  have HZ := Lib.hid (World.alloc_heap_new w zero.box)
  go_enter Try.func36, Try.ntmps36
  go_wp2_with fail
  refine (zero_any _).mono ?_
  rintro e w1 ⟨rfl, b1⟩
  have HR := Lib.hid (keep b1 HZ.out)
  have B1 := Lib.hid ((below_one w zero.box).trans (b1.mono (by simp)))
  obtain ⟨d0, d1, d2, d3, d4⟩ := Lv.cells HR.out
  obtain ⟨f0, f1, f2, f3, f4⟩ := Lv.frees HR.out
  have hz0 : w.heap.size < w1.heap.size := by have := b1.size; simp at this; omega
  clear b1
  dsimp only [number, Lv.val]
  go_wp2_with fail
  have h5 := keepA (put5_self HR.out ⟨0, -1, 0, -1, -1⟩) (Lv.box ⟨0, -1, 0, -1, -1⟩)
  have b5 := (put5_below B1.out (B := w.heap.size) (Nat.le_refl _) ⟨0, -1, 0, -1, -1⟩).alloc (by simp [put5]; omega) (Lv.box ⟨0, -1, 0, -1, -1⟩)
  generalize hW : (((((w1.setCell ⟨w.heap.size, 0, none⟩ (.int .i64 0)).setCell ⟨w.heap.size, 1, none⟩ (.int .i64 (-1))).setCell ⟨w.heap.size, 2, none⟩ (.int .i64 0)).setCell ⟨w.heap.size, 3, none⟩ (.int .i64 (-1))).setCell ⟨w.heap.size, 4, none⟩ (.int .i64 (-1))).alloc (.cells #[.int .i64 0, .int .i64 (-1), .int .i64 0, .int .i64 (-1), .int .i64 (-1)] 44) = W4
  rw [show (put5 w1 w.heap.size ⟨0, -1, 0, -1, -1⟩).alloc (Lv.box ⟨0, -1, 0, -1, -1⟩) = W4 from hW] at h5 b5
  obtain ⟨e0, e1, e2, e3, e4⟩ := Lv.cells h5
  exact bodyPost_ret (v := .tuple #[.agg #[.int .i64 0, .int .i64 (-1), .int .i64 0, .int .i64 (-1), .int .i64 (-1)], .int .i64 0]) (by simp [results, Try.results36, go_sem, e0, e1, e2, e3, e4]) rfl ⟨rfl, b5⟩

set_option maxRecDepth 100000 in
set_option maxHeartbeats 1000000 in
theorem param2 (w : World) :
    Calls Try.prog 36 #[.int .i64 2] w fun e w' => e = .returned (.tuple #[.agg #[.int .i64 0, .int .i64 (-1), .int .i64 (-1), .int .i64 0, .int .i64 (-1)], .int .i64 0]) ∧ Below w.heap.size w w' := by
  have HZ := Lib.hid (World.alloc_heap_new w zero.box)
  go_enter Try.func36, Try.ntmps36
  go_wp2_with fail
  refine (zero_any _).mono ?_
  rintro e w1 ⟨rfl, b1⟩
  have HR := Lib.hid (keep b1 HZ.out)
  have B1 := Lib.hid ((below_one w zero.box).trans (b1.mono (by simp)))
  obtain ⟨d0, d1, d2, d3, d4⟩ := Lv.cells HR.out
  obtain ⟨f0, f1, f2, f3, f4⟩ := Lv.frees HR.out
  have hz0 : w.heap.size < w1.heap.size := by have := b1.size; simp at this; omega
  clear b1
  dsimp only [number, Lv.val]
  go_wp2_with fail
  have h5 := keepA (put5_self HR.out ⟨0, -1, -1, 0, -1⟩) (Lv.box ⟨0, -1, -1, 0, -1⟩)
  have b5 := (put5_below B1.out (B := w.heap.size) (Nat.le_refl _) ⟨0, -1, -1, 0, -1⟩).alloc (by simp [put5]; omega) (Lv.box ⟨0, -1, -1, 0, -1⟩)
  generalize hW : (((((w1.setCell ⟨w.heap.size, 0, none⟩ (.int .i64 0)).setCell ⟨w.heap.size, 1, none⟩ (.int .i64 (-1))).setCell ⟨w.heap.size, 2, none⟩ (.int .i64 (-1))).setCell ⟨w.heap.size, 3, none⟩ (.int .i64 0)).setCell ⟨w.heap.size, 4, none⟩ (.int .i64 (-1))).alloc (.cells #[.int .i64 0, .int .i64 (-1), .int .i64 (-1), .int .i64 0, .int .i64 (-1)] 44) = W4
  rw [show (put5 w1 w.heap.size ⟨0, -1, -1, 0, -1⟩).alloc (Lv.box ⟨0, -1, -1, 0, -1⟩) = W4 from hW] at h5 b5
  obtain ⟨e0, e1, e2, e3, e4⟩ := Lv.cells h5
  exact bodyPost_ret (v := .tuple #[.agg #[.int .i64 0, .int .i64 (-1), .int .i64 (-1), .int .i64 0, .int .i64 (-1)], .int .i64 0]) (by simp [results, Try.results36, go_sem, e0, e1, e2, e3, e4]) rfl ⟨rfl, b5⟩

set_option maxRecDepth 100000 in
set_option maxHeartbeats 1000000 in
theorem param3 (w : World) :
    Calls Try.prog 36 #[.int .i64 3] w fun e w' => e = .returned (.tuple #[.agg #[.int .i64 0, .int .i64 (-1), .int .i64 (-1), .int .i64 (-1), .int .i64 0], .int .i64 0]) ∧ Below w.heap.size w w' := by
  have HZ := Lib.hid (World.alloc_heap_new w zero.box)
  go_enter Try.func36, Try.ntmps36
  go_wp2_with fail
  refine (zero_any _).mono ?_
  rintro e w1 ⟨rfl, b1⟩
  have HR := Lib.hid (keep b1 HZ.out)
  have B1 := Lib.hid ((below_one w zero.box).trans (b1.mono (by simp)))
  obtain ⟨d0, d1, d2, d3, d4⟩ := Lv.cells HR.out
  obtain ⟨f0, f1, f2, f3, f4⟩ := Lv.frees HR.out
  have hz0 : w.heap.size < w1.heap.size := by have := b1.size; simp at this; omega
  clear b1
  dsimp only [number, Lv.val]
  go_wp2_with fail
  have h5 := keepA (put5_self HR.out ⟨0, -1, -1, -1, 0⟩) (Lv.box ⟨0, -1, -1, -1, 0⟩)
  have b5 := (put5_below B1.out (B := w.heap.size) (Nat.le_refl _) ⟨0, -1, -1, -1, 0⟩).alloc (by simp [put5]; omega) (Lv.box ⟨0, -1, -1, -1, 0⟩)
  generalize hW : (((((w1.setCell ⟨w.heap.size, 0, none⟩ (.int .i64 0)).setCell ⟨w.heap.size, 1, none⟩ (.int .i64 (-1))).setCell ⟨w.heap.size, 2, none⟩ (.int .i64 (-1))).setCell ⟨w.heap.size, 3, none⟩ (.int .i64 (-1))).setCell ⟨w.heap.size, 4, none⟩ (.int .i64 0)).alloc (.cells #[.int .i64 0, .int .i64 (-1), .int .i64 (-1), .int .i64 (-1), .int .i64 0] 44) = W4
  rw [show (put5 w1 w.heap.size ⟨0, -1, -1, -1, 0⟩).alloc (Lv.box ⟨0, -1, -1, -1, 0⟩) = W4 from hW] at h5 b5
  obtain ⟨e0, e1, e2, e3, e4⟩ := Lv.cells h5
  exact bodyPost_ret (v := .tuple #[.agg #[.int .i64 0, .int .i64 (-1), .int .i64 (-1), .int .i64 (-1), .int .i64 0], .int .i64 0]) (by simp [results, Try.results36, go_sem, e0, e1, e2, e3, e4]) rfl ⟨rfl, b5⟩

theorem param_any (i : Int) (w : World) :
    Calls Try.prog 36 #[.int .i64 i] w fun e w' => e = .returned (.tuple #[(param i).1.val, .int .i64 (param i).2]) ∧ Below w.heap.size w w' := by
  unfold param
  by_cases h : 0 ≤ i ∧ i < 4
  · rw [if_pos h]
    have hk : i = 0 ∨ i = 1 ∨ i = 2 ∨ i = 3 := by omega
    rcases hk with rfl | rfl | rfl | rfl
    · exact param0 w
    · exact param1 w
    · exact param2 w
    · exact param3 w
  · rw [if_neg h]
    exact param_no i w h
end Go.Proofs.Ytfechgahafbphaa
