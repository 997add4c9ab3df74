/-
  level.Succ, Max, Leq, Zero, Param.
-/
import Derived.Test.YtfechgahafbphaaLevMay
namespace Go.Proofs.Ytfechgahafbphaa
open Go.RowKit Go.Shelf Lvl

def Lvl.succ (l : Lv) : Lv × Int := if l.may = true then ans (l.plus 1) else (zero, 1)
def Lvl.maxi (a b : Lv) : Lv × Int := if a.may = true ∧ b.may = true then ans (a.join b) else (zero, 1)

theorem Lvl.may_within {l : Lv} (h : l.may = true) : l.within = true := by
  unfold Lv.may at h; simp at h; exact h.1

set_option maxRecDepth 100000 in
set_option maxHeartbeats 1000000 in
theorem succ_any (l : Lv) (w : World) :
    Calls Try.prog 30 #[l.val] w fun e w' => e = .returned (.tuple #[(succ l).1.val, .int .i64 (succ l).2]) ∧ Below w.heap.size w w' := by
  have hmay := fun w => may_any l w
  unfold succ
  have HL := Lib.hid (new1of2 w l.box zero.box)
  have HZ := Lib.hid (new2 w l.box zero.box)
  cases hm : l.may
  · rw [if_neg (by simp)]
    rw [hm] at hmay
    have HM := Lib.hid hmay
    clear hmay hm
    unfold Lv.val
    go_enter Try.func30, Try.ntmps30
    go_wp2_with fail
    refine (HM.out _).mono ?_
    rintro e w1 ⟨rfl, b1⟩
    have HR := Lib.hid (keep b1 HZ.out)
    have B1 := Lib.hid ((below_two w l.box zero.box).trans (b1.mono (by simp; omega)))
    obtain ⟨d0, d1, d2, d3, d4⟩ := Lv.cells HR.out
    obtain ⟨f0, f1, f2, f3, f4⟩ := Lv.frees HR.out
    clear b1
    go_wp2_with fail
    have h5 := put5_self HR.out zero
    have b5 := put5_below B1.out (B := w.heap.size + 1) (by omega) zero
    generalize hW : (((((w1.setCell ⟨w.heap.size + 1, 0, none⟩ (.int .i64 0)).setCell ⟨w.heap.size + 1, 1, none⟩ (.int .i64 0)).setCell ⟨w.heap.size + 1, 2, none⟩ (.int .i64 0)).setCell ⟨w.heap.size + 1, 3, none⟩ (.int .i64 0)).setCell ⟨w.heap.size + 1, 4, none⟩ (.int .i64 0)) = W4
    rw [show put5 w1 (w.heap.size + 1) zero = W4 from hW] at h5 b5
    obtain ⟨e0, e1, e2, e3, e4⟩ := Lv.cells h5
    exact bodyPost_ret (v := .tuple #[.agg #[.int .i64 0, .int .i64 0, .int .i64 0, .int .i64 0, .int .i64 0], .int .i64 1]) (by simp [results, Try.results30, go_sem, e0, e1, e2, e3, e4, zero]) rfl ⟨rfl, b5⟩
  · rw [if_pos rfl]
    rw [hm] at hmay
    have hplus := fun w => plus_any l 1 w (may_within hm) (by omega)
    have hans := fun w => answer_any (l.plus 1) w
    obtain ⟨G, hG⟩ : ∃ G, G = l.plus 1 := ⟨_, rfl⟩
    rw [← hG] at hplus hans ⊢
    obtain ⟨x, hx⟩ : ∃ x, x = ans G := ⟨_, rfl⟩
    rw [← hx] at hans ⊢
    obtain ⟨A, q⟩ := x
    dsimp only at hans
    have HM := Lib.hid hmay
    have HP := Lib.hid hplus
    have HA := Lib.hid hans
    clear hmay hm hplus hans hG hx
    unfold Lv.val
    go_enter Try.func30, Try.ntmps30
    go_wp2_with fail
    refine (HM.out _).mono ?_
    rintro e w1 ⟨rfl, b1⟩
    have HL1 := Lib.hid (keep b1 HL.out)
    have HR1 := Lib.hid (keep b1 HZ.out)
    have B1 := Lib.hid ((below_two w l.box zero.box).trans (b1.mono (by simp; omega)))
    obtain ⟨c0, c1, c2, c3, c4⟩ := Lv.cells HL1.out
    clear b1
    go_wp2_with fail
    refine (HP.out _).mono ?_
    rintro e w2 ⟨rfl, b2⟩
    have HR2 := Lib.hid (keep b2 HR1.out)
    have B2 := Lib.hid (B1.out.trans (b2.mono B1.out.size))
    clear b2
    dsimp only [Lv.val]
    go_wp2_with fail
    refine (HA.out _).mono ?_
    rintro e w3 ⟨rfl, b3⟩
    have HR := Lib.hid (keep b3 HR2.out)
    have B3 := Lib.hid (B2.out.trans (b3.mono B2.out.size))
    clear b3
    obtain ⟨d0, d1, d2, d3, d4⟩ := Lv.cells HR.out
    obtain ⟨f0, f1, f2, f3, f4⟩ := Lv.frees HR.out
    dsimp only [Lv.val]
    go_wp2_with fail
    have h5 := put5_self HR.out A
    have b5 := put5_below B3.out (B := w.heap.size + 1) (by omega) A
    generalize hW : (((((w3.setCell ⟨w.heap.size + 1, 0, none⟩ (.int .i64 A.c)).setCell ⟨w.heap.size + 1, 1, none⟩ (.int .i64 A.p0)).setCell ⟨w.heap.size + 1, 2, none⟩ (.int .i64 A.p1)).setCell ⟨w.heap.size + 1, 3, none⟩ (.int .i64 A.p2)).setCell ⟨w.heap.size + 1, 4, none⟩ (.int .i64 A.p3)) = W4
    rw [show put5 w3 (w.heap.size + 1) A = W4 from hW] at h5 b5
    obtain ⟨e0, e1, e2, e3, e4⟩ := Lv.cells h5
    exact bodyPost_ret (v := .tuple #[.agg #[.int .i64 A.c, .int .i64 A.p0, .int .i64 A.p1, .int .i64 A.p2, .int .i64 A.p3], .int .i64 q]) (by simp [results, Try.results30, go_sem, e0, e1, e2, e3, e4]) rfl ⟨rfl, b5⟩

theorem Lvl.below_three (w : World) (o o' o'' : Obj) : Below w.heap.size w (((w.alloc o).alloc o').alloc o'') := ((below_two w o o').alloc (by simp; omega) _)

set_option maxRecDepth 100000 in
set_option maxHeartbeats 1000000 in
theorem max_any (a b : Lv) (w : World) :
    Calls Try.prog 32 #[a.val, b.val] w fun e w' => e = .returned (.tuple #[(maxi a b).1.val, .int .i64 (maxi a b).2]) ∧ Below w.heap.size w w' := by
  have hma := fun w => may_any a w
  have hmb := fun w => may_any b w
  unfold maxi
  have HA0 := Lib.hid (new1of3 w a.box b.box zero.box)
  have HB0 := Lib.hid (new2of3 w a.box b.box zero.box)
  have HZ0 := Lib.hid (new3 w a.box b.box zero.box)
  cases ha : a.may
  · rw [if_neg (by simp)]
    rw [ha] at hma
    have HM := Lib.hid hma
    clear hma hmb ha
    unfold Lv.val
    go_enter Try.func32, Try.ntmps32
    go_wp2_with fail
    refine (HM.out _).mono ?_
    rintro e w1 ⟨rfl, b1⟩
    have HR := Lib.hid (keep b1 HZ0.out)
    have B1 := Lib.hid ((below_three w a.box b.box zero.box).trans (b1.mono (by simp; omega)))
    obtain ⟨d0, d1, d2, d3, d4⟩ := Lv.cells HR.out
    obtain ⟨f0, f1, f2, f3, f4⟩ := Lv.frees HR.out
    clear b1
    go_wp2_with fail
    have h5 := put5_self HR.out zero
    have b5 := put5_below B1.out (B := w.heap.size + 1 + 1) (by omega) zero
    generalize hW : (((((w1.setCell ⟨w.heap.size + 1 + 1, 0, none⟩ (.int .i64 0)).setCell ⟨w.heap.size + 1 + 1, 1, none⟩ (.int .i64 0)).setCell ⟨w.heap.size + 1 + 1, 2, none⟩ (.int .i64 0)).setCell ⟨w.heap.size + 1 + 1, 3, none⟩ (.int .i64 0)).setCell ⟨w.heap.size + 1 + 1, 4, none⟩ (.int .i64 0)) = W4
    rw [show put5 w1 (w.heap.size + 1 + 1) zero = W4 from hW] at h5 b5
    obtain ⟨e0, e1, e2, e3, e4⟩ := Lv.cells h5
    exact bodyPost_ret (v := .tuple #[.agg #[.int .i64 0, .int .i64 0, .int .i64 0, .int .i64 0, .int .i64 0], .int .i64 1]) (by simp [results, Try.results32, go_sem, e0, e1, e2, e3, e4, zero]) rfl ⟨rfl, b5⟩
  · cases hb : b.may
    · rw [if_neg (by simp)]
      rw [ha] at hma
      rw [hb] at hmb
      have HM := Lib.hid hma
      have HN := Lib.hid hmb
      clear hma hmb ha hb
      unfold Lv.val
      go_enter Try.func32, Try.ntmps32
      go_wp2_with fail
      refine (HM.out _).mono ?_
      rintro e w1 ⟨rfl, b1⟩
      have HB1 := Lib.hid (keep b1 HB0.out)
      have HZ1 := Lib.hid (keep b1 HZ0.out)
      have B1 := Lib.hid ((below_three w a.box b.box zero.box).trans (b1.mono (by simp; omega)))
      obtain ⟨c0, c1, c2, c3, c4⟩ := Lv.cells HB1.out
      clear b1
      go_wp2_with fail
      refine (HN.out _).mono ?_
      rintro e w2 ⟨rfl, b2⟩
      have HR := Lib.hid (keep b2 HZ1.out)
      have B2 := Lib.hid (B1.out.trans (b2.mono B1.out.size))
      obtain ⟨d0, d1, d2, d3, d4⟩ := Lv.cells HR.out
      obtain ⟨f0, f1, f2, f3, f4⟩ := Lv.frees HR.out
      clear b2
      go_wp2_with fail
      have h5 := put5_self HR.out zero
      have b5 := put5_below B2.out (B := w.heap.size + 1 + 1) (by omega) zero
      generalize hW : (((((w2.setCell ⟨w.heap.size + 1 + 1, 0, none⟩ (.int .i64 0)).setCell ⟨w.heap.size + 1 + 1, 1, none⟩ (.int .i64 0)).setCell ⟨w.heap.size + 1 + 1, 2, none⟩ (.int .i64 0)).setCell ⟨w.heap.size + 1 + 1, 3, none⟩ (.int .i64 0)).setCell ⟨w.heap.size + 1 + 1, 4, none⟩ (.int .i64 0)) = W4
      rw [show put5 w2 (w.heap.size + 1 + 1) zero = W4 from hW] at h5 b5
      obtain ⟨e0, e1, e2, e3, e4⟩ := Lv.cells h5
      exact bodyPost_ret (v := .tuple #[.agg #[.int .i64 0, .int .i64 0, .int .i64 0, .int .i64 0, .int .i64 0], .int .i64 1]) (by simp [results, Try.results32, go_sem, e0, e1, e2, e3, e4, zero]) rfl ⟨rfl, b5⟩
    · rw [if_pos ⟨rfl, rfl⟩]
      rw [ha] at hma
      rw [hb] at hmb
      have hw := may_within ha
      simp only [Lv.within, decide_eq_true_eq] at hw
      obtain ⟨_, _, ⟨h0, _⟩, ⟨h1, _⟩, ⟨h2, _⟩, ⟨h3, _⟩⟩ := hw
      have hjoin := fun w => join_any a b w h0 h1 h2 h3
      have hans := fun w => answer_any (a.join b) w
      obtain ⟨G, hG⟩ : ∃ G, G = a.join b := ⟨_, rfl⟩
      rw [← hG] at hjoin hans ⊢
      obtain ⟨x, hx⟩ : ∃ x, x = ans G := ⟨_, rfl⟩
      rw [← hx] at hans ⊢
      obtain ⟨A, q⟩ := x
      dsimp only at hans
      have HM := Lib.hid hma
      have HN := Lib.hid hmb
      have HJ := Lib.hid hjoin
      have HA := Lib.hid hans
      clear hma hmb ha hb hjoin hans hG hx h0 h1 h2 h3
      unfold Lv.val
      go_enter Try.func32, Try.ntmps32
      go_wp2_with fail
      refine (HM.out _).mono ?_
      rintro e w1 ⟨rfl, b1⟩
      have HA1 := Lib.hid (keep b1 HA0.out)
      have HB1 := Lib.hid (keep b1 HB0.out)
      have HZ1 := Lib.hid (keep b1 HZ0.out)
      have B1 := Lib.hid ((below_three w a.box b.box zero.box).trans (b1.mono (by simp; omega)))
      obtain ⟨c0, c1, c2, c3, c4⟩ := Lv.cells HB1.out
      clear b1
      go_wp2_with fail
      refine (HN.out _).mono ?_
      rintro e w2 ⟨rfl, b2⟩
      have HA2 := Lib.hid (keep b2 HA1.out)
      have HB2 := Lib.hid (keep b2 HB1.out)
      have HZ2 := Lib.hid (keep b2 HZ1.out)
      have B2 := Lib.hid (B1.out.trans (b2.mono B1.out.size))
      clear b2 c0 c1 c2 c3 c4
      obtain ⟨c0, c1, c2, c3, c4⟩ := Lv.cells HB2.out
      obtain ⟨g0, g1, g2, g3, g4⟩ := Lv.cells HA2.out
      go_wp2_with fail
      refine (HJ.out _).mono ?_
      rintro e w3 ⟨rfl, b3⟩
      have HZ3 := Lib.hid (keep b3 HZ2.out)
      have B3 := Lib.hid (B2.out.trans (b3.mono B2.out.size))
      clear b3
      dsimp only [Lv.val]
      go_wp2_with fail
      refine (HA.out _).mono ?_
      rintro e w4 ⟨rfl, b4⟩
      have HR := Lib.hid (keep b4 HZ3.out)
      have B4 := Lib.hid (B3.out.trans (b4.mono B3.out.size))
      clear b4
      obtain ⟨d0, d1, d2, d3, d4⟩ := Lv.cells HR.out
      obtain ⟨f0, f1, f2, f3, f4⟩ := Lv.frees HR.out
      dsimp only [Lv.val]
      go_wp2_with fail
      have h5 := put5_self HR.out A
      have b5 := put5_below B4.out (B := w.heap.size + 1 + 1) (by omega) A
      generalize hW : (((((w4.setCell ⟨w.heap.size + 1 + 1, 0, none⟩ (.int .i64 A.c)).setCell ⟨w.heap.size + 1 + 1, 1, none⟩ (.int .i64 A.p0)).setCell ⟨w.heap.size + 1 + 1, 2, none⟩ (.int .i64 A.p1)).setCell ⟨w.heap.size + 1 + 1, 3, none⟩ (.int .i64 A.p2)).setCell ⟨w.heap.size + 1 + 1, 4, none⟩ (.int .i64 A.p3)) = W5
      rw [show put5 w4 (w.heap.size + 1 + 1) A = W5 from hW] at h5 b5
      obtain ⟨e0, e1, e2, e3, e4⟩ := Lv.cells h5
      exact bodyPost_ret (v := .tuple #[.agg #[.int .i64 A.c, .int .i64 A.p0, .int .i64 A.p1, .int .i64 A.p2, .int .i64 A.p3], .int .i64 q]) (by simp [results, Try.results32, go_sem, e0, e1, e2, e3, e4]) rfl ⟨rfl, b5⟩

set_option maxRecDepth 100000 in
set_option maxHeartbeats 1000000 in
theorem zero_any (w : World) : Calls Try.prog 44 #[] w fun e w' => e = .returned (number 0).val ∧ Below w.heap.size w w' := by
  have HZ := Lib.hid (World.alloc_heap_new w zero.box)
  go_enter Try.func44, Try.ntmps44
  go_wp2_with fail
  refine (number_any _ _).mono ?_
  rintro e w1 ⟨rfl, b1⟩
  have HR := Lib.hid (keep b1 HZ.out)
  have B1 := Lib.hid ((below_one w zero.box).trans (b1.mono (by simp)))
  obtain ⟨d0, d1, d2, d3, d4⟩ := Lv.cells HR.out
  obtain ⟨f0, f1, f2, f3, f4⟩ := Lv.frees HR.out
  clear b1
  dsimp only [number, Lv.val]
  go_wp2_with fail
  have h5 := put5_self HR.out (number 0)
  have b5 := put5_below B1.out (B := w.heap.size) (by omega) (number 0)
  generalize hW : (((((w1.setCell ⟨w.heap.size, 0, none⟩ (.int .i64 0)).setCell ⟨w.heap.size, 1, none⟩ (.int .i64 (-1))).setCell ⟨w.heap.size, 2, none⟩ (.int .i64 (-1))).setCell ⟨w.heap.size, 3, none⟩ (.int .i64 (-1))).setCell ⟨w.heap.size, 4, none⟩ (.int .i64 (-1))) = W4
  rw [show put5 w1 (w.heap.size) (number 0) = W4 from hW] at h5 b5
  obtain ⟨e0, e1, e2, e3, e4⟩ := Lv.cells h5
  exact bodyPost_ret (v := .agg #[.int .i64 0, .int .i64 (-1), .int .i64 (-1), .int .i64 (-1), .int .i64 (-1)]) (by simp [results, Try.results44, go_sem, e0, e1, e2, e3, e4, number]) rfl ⟨rfl, b5⟩
end Go.Proofs.Ytfechgahafbphaa
