/-
  term.Free, Has.
-/
import Derived.Test.YtijdlihodpodjaaTrmVars
namespace Go.Proofs.Ytijdlihodpodjaa
open Go.RowKit Go.Shelf Lvl Trm

/-- One more than the greatest free variable; of a term that may not be 0. -/
def Trm.Tm.free (t : Tm) : Int := if t.may = true then (t.vs 0).foldl (fun n v => max n (v + 1)) 0 else 0
def Trm.Tm.has (t : Tm) (k : Int) : Bool := t.may && (t.vs 0).any (· == k)

set_option maxRecDepth 100000 in
set_option maxHeartbeats 1000000 in
theorem vars_free (n : Int) (t : Tm) (h : Hd) (B m : Nat) (w : World) (hin : t.In B w h) (hB : B ≤ m) (hm : w.heap[m]? = some (.cells #[.int .i64 n] 3)) :
    Calls Try.prog 73 #[t.val h, .func (.func 74) #[] #[.pointer (some ⟨m, 0, none⟩)]] w fun e w' => e = .returned (.tuple #[]) ∧ w'.heap[m]? = some (.cells #[.int .i64 (if t.may = true then (t.vs 0).foldl (fun n v => max n (v + 1)) n else n)] 3) ∧ Ran m w w' := by
  have hml := (Array.getElem?_eq_some_iff.1 hm).1
  have HMAY := Lib.hid (fun (W : World) (hW : Below w.heap.size w W) => PMay_any t h W (Tm.In.mono (by have := hW.size; omega) _ _ (Tm.In.below (hW.mono (by omega)) _ _ hin)))
  have HW := Lib.hid (fun (hmay : t.may = true) (W : World) (h1 : Below w.heap.size w W) (h0 : W.heap[w.heap.size]? = some (t.box h)) (h2 : W.heap[w.heap.size + 1]? = some (.cells #[.func (.func 74) #[] #[.pointer (some ⟨m, 0, none⟩)]] 88)) =>
    walk_any (sees_free hB (C := w.heap.size + 1) (by omega)) t n w.heap.size 0 W trivial ⟨Lvl.keep h1 hm, h2⟩ (OkMay.start hmay) ⟨by omega, (Array.getElem?_eq_some_iff.1 h0).1, h, Tm.cells h0, Tm.In.below (h1.mono (by omega)) _ _ hin⟩ (by have := h1.size; omega) (by have := h1.size; omega))
  simp only [Tm.walk_free] at HW
  have HM := Lib.hid hm
  clear hin hm
  unfold Tm.box at HW
  unfold Tm.val at HMAY ⊢
  dsimp only [Tm.vals] at HMAY HW ⊢
  cases hmay : t.may
  · rw [hmay] at HMAY HW
    simp only [Bool.false_eq_true, if_false]
    clear HW hmay
    go_enter Try.func73, Try.ntmps73
    go_wp2_with fail
    refine (HMAY.out _ (below_two w _ _)).mono ?_
    rintro e w1 ⟨rfl, b1⟩
    have HB := Lib.hid ((below_two w _ _).trans (b1.mono (by simp; omega)))
    clear b1
    go_wp2_with fail
    refine bodyPost_ret (results_none rfl _ _ _) rfl ?_
    exact ⟨rfl, Lvl.keep HB.out HM.out, Ran.of_below HB.out⟩
  · rw [hmay] at HMAY
    have HW' := Lib.hid (HW.out hmay)
    simp only [if_true]
    clear hmay HW
    generalize (t.vs 0).foldl (fun n v => max n (v + 1)) n = R at HW' ⊢
    go_enter Try.func73, Try.ntmps73
    go_wp2_with fail
    refine (HMAY.out _ (below_two w _ _)).mono ?_
    rintro e w1 ⟨rfl, b1⟩
    have HB := Lib.hid ((below_two w _ _).trans (b1.mono (by simp; omega)))
    have HX := Lib.hid (HW'.out w1 HB.out (Lvl.keep b1 (new1of2 w _ _)) (Lvl.keep b1 (new2 w _ _)))
    have hc0 := (Tm.cells (t := t) (h := h) (Lvl.keep b1 (new1of2 w _ _)))
    clear b1
    go_wp2_with fail
    refine HX.out.mono ?_
    rintro e w2 ⟨rfl, i2, g2⟩
    have HI := Lib.hid i2.1
    have HR := Lib.hid ((Ran.of_below HB.out).trans g2)
    clear i2 g2
    go_wp2_with fail
    go_end0
    exact ⟨rfl, HI.out, HR.out⟩

set_option maxRecDepth 100000 in
set_option maxHeartbeats 1000000 in
theorem vars_has (q : Int) (t : Tm) (h : Hd) (B m K : Nat) (w : World) (hin : t.In B w h) (hB : B ≤ m) (hm : w.heap[m]? = some (.cells #[.bool false] 4)) (hKm : K ≠ m) (hk : w.heap[K]? = some (.cells #[.int .i64 q] 3)) :
    Calls Try.prog 73 #[t.val h, .func (.func 75) #[] #[.pointer (some ⟨K, 0, none⟩), .pointer (some ⟨m, 0, none⟩)]] w fun e w' => e = .returned (.tuple #[]) ∧ w'.heap[m]? = some (.cells #[.bool (t.may && (t.vs 0).any (· == q))] 4) ∧ Ran m w w' := by
  have hml := (Array.getElem?_eq_some_iff.1 hm).1
  have HMAY := Lib.hid (fun (W : World) (hW : Below w.heap.size w W) => PMay_any t h W (Tm.In.mono (by have := hW.size; omega) _ _ (Tm.In.below (hW.mono (by omega)) _ _ hin)))
  have HW := Lib.hid (fun (hmay : t.may = true) (W : World) (h1 : Below w.heap.size w W) (h0 : W.heap[w.heap.size]? = some (t.box h)) (h2 : W.heap[w.heap.size + 1]? = some (.cells #[.func (.func 75) #[] #[.pointer (some ⟨K, 0, none⟩), .pointer (some ⟨m, 0, none⟩)]] 88)) =>
    walk_any (sees_has q hB (C := w.heap.size + 1) (by omega) hKm) t false w.heap.size 0 W rfl ⟨Lvl.keep h1 hm, h2, Lvl.keep h1 hk⟩ (OkMay.start hmay) ⟨by omega, (Array.getElem?_eq_some_iff.1 h0).1, h, Tm.cells h0, Tm.In.below (h1.mono (by omega)) _ _ hin⟩ (by have := h1.size; omega) (by have := h1.size; omega))
  simp only [Tm.walk_has] at HW
  have HM := Lib.hid hm
  clear hin hm hk
  unfold Tm.box at HW
  unfold Tm.val at HMAY ⊢
  dsimp only [Tm.vals] at HMAY HW ⊢
  cases hmay : t.may
  · rw [hmay] at HMAY HW
    simp only [Bool.false_and]
    clear HW hmay
    go_enter Try.func73, Try.ntmps73
    go_wp2_with fail
    refine (HMAY.out _ (below_two w _ _)).mono ?_
    rintro e w1 ⟨rfl, b1⟩
    have HB := Lib.hid ((below_two w _ _).trans (b1.mono (by simp; omega)))
    clear b1
    go_wp2_with fail
    refine bodyPost_ret (results_none rfl _ _ _) rfl ?_
    exact ⟨rfl, Lvl.keep HB.out HM.out, Ran.of_below HB.out⟩
  · rw [hmay] at HMAY
    have HW' := Lib.hid (HW.out hmay)
    simp only [Bool.true_and]
    clear hmay HW
    generalize (t.vs 0).any (· == q) = R at HW' ⊢
    go_enter Try.func73, Try.ntmps73
    go_wp2_with fail
    refine (HMAY.out _ (below_two w _ _)).mono ?_
    rintro e w1 ⟨rfl, b1⟩
    have HB := Lib.hid ((below_two w _ _).trans (b1.mono (by simp; omega)))
    have HX := Lib.hid (HW'.out w1 HB.out (Lvl.keep b1 (new1of2 w _ _)) (Lvl.keep b1 (new2 w _ _)))
    have hc0 := (Tm.cells (t := t) (h := h) (Lvl.keep b1 (new1of2 w _ _)))
    clear b1
    go_wp2_with fail
    refine HX.out.mono ?_
    rintro e w2 ⟨rfl, i2, g2⟩
    have HI := Lib.hid i2.1
    have HR := Lib.hid ((Ran.of_below HB.out).trans g2)
    clear i2 g2
    go_wp2_with fail
    go_end0
    exact ⟨rfl, HI.out, HR.out⟩

set_option maxRecDepth 100000 in
set_option maxHeartbeats 1000000 in
theorem PFree_any (t : Tm) (h : Hd) (w : World) (hin : t.In w.heap.size w h) :
    Calls Try.prog 20 #[t.val h] w fun e w' => e = .returned (.int .i64 t.free) ∧ Below w.heap.size w w' := by
  have HX := Lib.hid (vars_free 0 t h w.heap.size (w.heap.size + 1) ((w.alloc (t.box h)).alloc (.cells #[.int .i64 0] 3)) (Tm.In.below (below_two w _ _) _ _ hin) (by omega) (new2 _ _ _))
  unfold Tm.free
  generalize (if t.may = true then (t.vs 0).foldl (fun n v => max n (v + 1)) 0 else 0) = R at HX ⊢
  clear hin
  unfold Tm.box at HX
  unfold Tm.val at HX ⊢
  dsimp only [Tm.vals] at HX ⊢
  go_enter Try.func20, Try.ntmps20
  go_wp2_with fail
  refine HX.out.mono ?_
  rintro e w1 ⟨rfl, i1, g1⟩
  have HB := Lib.hid ((below_two w _ _).trans (g1.below (B := w.heap.size) (by omega) (by simp; omega)))
  have hc := one_cell i1
  clear i1 g1
  go_wp2_with fail
  go_ret
  exact ⟨rfl, HB.out⟩

set_option maxRecDepth 100000 in
set_option maxHeartbeats 1000000 in
theorem PHas_any (t : Tm) (h : Hd) (q : Int) (w : World) (hin : t.In w.heap.size w h) :
    Calls Try.prog 21 #[t.val h, .int .i64 q] w fun e w' => e = .returned (.bool (t.has q)) ∧ Below w.heap.size w w' := by
  have HX := Lib.hid (vars_has q t h w.heap.size (w.heap.size + 1 + 1) (w.heap.size + 1) (((w.alloc (t.box h)).alloc (.cells #[.int .i64 q] 3)).alloc (.cells #[.bool false] 4)) (Tm.In.below ((below_two w _ _).trans (Below.mono (below_one _ _) (by simp; omega))) _ _ hin) (by omega) (new3 _ _ _ _) (by omega) (new2of3 _ _ _ _))
  unfold Tm.has
  generalize (t.may && (t.vs 0).any (· == q)) = R at HX ⊢
  clear hin
  unfold Tm.box at HX
  unfold Tm.val at HX ⊢
  dsimp only [Tm.vals] at HX ⊢
  go_enter Try.func21, Try.ntmps21
  go_wp2_with fail
  refine HX.out.mono ?_
  rintro e w1 ⟨rfl, i1, g1⟩
  have HB := Lib.hid (((below_two w _ _).trans (Below.mono (below_one _ _) (by simp; omega))).trans (g1.below (B := w.heap.size) (by omega) (by simp; omega)))
  have hc := one_cell i1
  clear i1 g1
  go_wp2_with fail
  go_ret
  exact ⟨rfl, HB.out⟩
end Go.Proofs.Ytijdlihodpodjaa
