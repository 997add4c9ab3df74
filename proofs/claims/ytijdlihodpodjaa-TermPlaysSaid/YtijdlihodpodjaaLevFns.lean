/-
  level.answer, May, Zero, Param, Succ, Max, Leq.
-/
import Derived.Test.YtijdlihodpodjaaLevJoin
namespace Go.Proofs.Ytijdlihodpodjaa
open Go.RowKit Go.Shelf Lvl

/-- What was made of levels that may be, in its form, or ErrMany. -/
def Lvl.ans (l : Lv) : Lv × Int := if l.form.within = true then (l.form, 0) else (zero, 4)

theorem Lvl.Lv.frees {l : Lv} {b : Nat} {w : World} (h : w.heap[b]? = some l.box) :
    w.frozen? ⟨b, 0, none⟩ = false ∧ w.frozen? ⟨b, 1, none⟩ = false ∧ w.frozen? ⟨b, 2, none⟩ = false ∧ w.frozen? ⟨b, 3, none⟩ = false ∧ w.frozen? ⟨b, 4, none⟩ = false :=
  ⟨Lv.free h 0, Lv.free h 1, Lv.free h 2, Lv.free h 3, Lv.free h 4⟩
theorem Lvl.new1of2 (w : World) (o1 o2 : Obj) : ((w.alloc o1).alloc o2).heap[w.heap.size]? = some o1 := by
  rw [Below.heap_alloc _ _ _ (by simp)]; exact World.alloc_heap_new w o1
/-- A level, stored into a block of its kind. -/
def Lvl.put5 (W : World) (B : Nat) (l : Lv) : World := (((((W.setCell ⟨B, 0, none⟩ (.int .i64 l.c)).setCell ⟨B, 1, none⟩ (.int .i64 l.p0)).setCell ⟨B, 2, none⟩ (.int .i64 l.p1)).setCell ⟨B, 3, none⟩ (.int .i64 l.p2)).setCell ⟨B, 4, none⟩ (.int .i64 l.p3))
theorem Lvl.put5_self {l : Lv} {W : World} {B : Nat} (h : W.heap[B]? = some l.box) (G : Lv) : (put5 W B G).heap[B]? = some G.box := set_all h _ _ _ _ _
theorem Lvl.put5_other {W : World} {B : Nat} {o : Obj} (h : W.heap[B]? = some o) (G : Lv) {b : Nat} (hb : b ≠ B) : (put5 W b G).heap[B]? = some o :=
  cells_other (cells_other (cells_other (cells_other (cells_other h _ hb) _ hb) _ hb) _ hb) _ hb
theorem Lvl.put5_below {w W : World} (h : Below w.heap.size w W) {B : Nat} (hB : w.heap.size ≤ B) (G : Lv) : Below w.heap.size w (put5 W B G) := below_all h hB _ _ _ _ _
/-- What lay is there still. -/
theorem Lvl.keep {W w1 : World} (h : Below W.heap.size W w1) {k : Nat} {o : Obj} (hk : W.heap[k]? = some o) : w1.heap[k]? = some o := by
  rw [h.block k (Array.getElem?_eq_some_iff.1 hk).1]; exact hk

set_option maxRecDepth 100000 in
set_option maxHeartbeats 1000000 in
theorem answer_any (l : Lv) (w : World) :
    Calls Try.prog 127 #[l.val] w fun e w' => e = .returned (.tuple #[(ans l).1.val, .int .i64 (ans l).2]) ∧ Below w.heap.size w w' := by
  obtain ⟨F, hF⟩ : ∃ F, F = l.form := ⟨_, rfl⟩
  have hform := fun w => inForm_any l w
  have hwith := fun w => within_any F w
  unfold ans
  rw [← hF] at hform ⊢
  have HF := Lib.hid hform
  obtain ⟨x, hx⟩ : ∃ x, x = F.within := ⟨_, rfl⟩
  rw [← hx] at hwith ⊢
  have HW := Lib.hid hwith
  have HX := Lib.hid hx
  clear hF hform hwith hx
  unfold Lv.val
  go_enter Try.func127, Try.ntmps127
  go_wp2_with fail
  refine (HF.out _).mono ?_
  rintro e w1 ⟨rfl, b1⟩
  have hl := keep b1 (new1of2 w l.box zero.box)
  have hr := keep b1 (new2 w l.box zero.box)
  obtain ⟨c0, c1, c2, c3, c4⟩ := Lv.cells hl
  obtain ⟨f0, f1, f2, f3, f4⟩ := Lv.frees hl
  have B1 := Lib.hid ((below_two w l.box zero.box).trans (b1.mono (by simp; omega)))
  have HL := Lib.hid hl
  have HR := Lib.hid hr
  clear hl hr b1
  dsimp only [Lv.val]
  go_wp2_with fail
  have h2 := put5_self HL.out F
  have r2 := put5_other HR.out F (b := w.heap.size) (by omega)
  have b2 := put5_below B1.out (Nat.le_refl _) F
  show Calls Try.prog _ _ (put5 w1 w.heap.size F) _
  generalize put5 w1 w.heap.size F = W2 at h2 r2 b2 ⊢
  refine (HW.out _).mono ?_
  clear c0 c1 c2 c3 c4 f0 f1 f2 f3 f4 HL HR B1
  rintro e w3 ⟨rfl, b3⟩
  obtain ⟨c0, c1, c2, c3, c4⟩ := Lv.cells (keep b3 h2)
  obtain ⟨d0, d1, d2, d3, d4⟩ := Lv.cells (keep b3 r2)
  obtain ⟨f0, f1, f2, f3, f4⟩ := Lv.frees (keep b3 r2)
  have HR := Lib.hid (keep b3 r2)
  have HB := Lib.hid (b2.trans (b3.mono b2.size))
  clear h2 r2 b2 b3
  cases x
  · go_wp2_with fail
    have h5 := put5_self HR.out zero
    have b5 := put5_below HB.out (B := w.heap.size + 1) (by omega) zero
    generalize hW : (((((w3.setCell ⟨w.heap.size + 1, 0, none⟩ (.int .i64 0)).setCell ⟨w.heap.size + 1, 1, none⟩ (.int .i64 0)).setCell ⟨w.heap.size + 1, 2, none⟩ (.int .i64 0)).setCell ⟨w.heap.size + 1, 3, none⟩ (.int .i64 0)).setCell ⟨w.heap.size + 1, 4, none⟩ (.int .i64 0)) = W4
    rw [show put5 w3 (w.heap.size + 1) zero = W4 from hW] at h5 b5
    obtain ⟨e0, e1, e2, e3, e4⟩ := Lv.cells h5
    exact bodyPost_ret (v := .tuple #[.agg #[.int .i64 0, .int .i64 0, .int .i64 0, .int .i64 0, .int .i64 0], .int .i64 4]) (by simp [results, Try.results127, go_sem, e0, e1, e2, e3, e4, zero]) rfl ⟨rfl, b5⟩
  · go_wp2_with fail
    have h5 := put5_self HR.out F
    have b5 := put5_below HB.out (B := w.heap.size + 1) (by omega) F
    generalize hW : (((((w3.setCell ⟨w.heap.size + 1, 0, none⟩ (.int .i64 F.c)).setCell ⟨w.heap.size + 1, 1, none⟩ (.int .i64 F.p0)).setCell ⟨w.heap.size + 1, 2, none⟩ (.int .i64 F.p1)).setCell ⟨w.heap.size + 1, 3, none⟩ (.int .i64 F.p2)).setCell ⟨w.heap.size + 1, 4, none⟩ (.int .i64 F.p3)) = W4
    rw [show put5 w3 (w.heap.size + 1) F = W4 from hW] at h5 b5
    obtain ⟨e0, e1, e2, e3, e4⟩ := Lv.cells h5
    exact bodyPost_ret (v := .tuple #[.agg #[.int .i64 F.c, .int .i64 F.p0, .int .i64 F.p1, .int .i64 F.p2, .int .i64 F.p3], .int .i64 0]) (by simp [results, Try.results127, go_sem, e0, e1, e2, e3, e4]) rfl ⟨rfl, b5⟩
end Go.Proofs.Ytijdlihodpodjaa
