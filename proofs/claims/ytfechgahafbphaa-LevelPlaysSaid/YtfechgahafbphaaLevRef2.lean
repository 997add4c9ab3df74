/-
  battenref02: whole, Succ, Max, Zero.
-/
import Derived.Test.YtfechgahafbphaaLevRef
import Derived.Test.YtfechgahafbphaaLevLeq
import Derived.Test.YtfechgahafbphaaLevMath3
namespace Go.Proofs.Ytfechgahafbphaa
open Go.RowKit Go.Shelf Lvl Trm

namespace Lvl
theorem form_form {l : Lv} (h : l.fine) : l.form.form = l.form := same_form (form_fine h) h (fun _ hn => ev_form h hn)
theorem form_may {l : Lv} (h : l.fine) : l.form.may = l.form.within := by
  cases hw : l.form.within
  · unfold Lv.may; rw [hw]; rfl
  · exact (may_iff _).2 (formed_ok h hw)
end Lvl

set_option maxRecDepth 100000 in
set_option maxHeartbeats 4000000 in
theorem RefWhole_any (l : Lv) (w : World) (hl : l.fine) :
    Calls Try.prog 93 #[l.val] w fun e w' => e = .returned (.tuple #[(ans l).1.val, .int .i64 (ans l).2]) ∧ Below w.heap.size w w' := by
  have HF := Lib.hid (fun W => RefForm_any l W (fine_low1 hl))
  have HM := Lib.hid (fun W => RefMay_any l.form W)
  rw [form_may hl] at HM
  unfold ans
  obtain ⟨F, hF⟩ : ∃ F, F = l.form := ⟨_, rfl⟩
  rw [← hF] at HF HM ⊢
  have HL := Lib.hid (new1of2 w l.box zero.box)
  have HZ := Lib.hid (new2 w l.box zero.box)
  clear hF hl
  unfold Lv.val at HF HM ⊢
  cases hw : F.within
  all_goals
    rw [hw] at HM
    first | rw [if_pos rfl] | rw [if_neg (by simp)]
    clear hw
    go_enter Try.func93, Try.ntmps93
    go_wp2_with fail
    refine (HF.out _).mono ?_
    rintro e w1 ⟨rfl, b1⟩
    have HL1 := Lib.hid (Lvl.keep b1 HL.out)
    have HZ1 := Lib.hid (Lvl.keep b1 HZ.out)
    have B1 := Lib.hid ((below_two w l.box zero.box).trans (b1.mono (by simp; omega)))
    obtain ⟨c0, c1, c2, c3, c4⟩ := Lv.cells HL1.out
    obtain ⟨f0, f1, f2, f3, f4⟩ := Lv.frees HL1.out
    clear b1
    go_wp2_with fail
    have h5 := put5_self HL1.out F
    have z5 := put5_other HZ1.out F (b := w.heap.size) (by omega)
    have b5 := put5_below B1.out (B := w.heap.size) (Nat.le_refl _) F
    unfold put5 at h5 z5 b5
    generalize hW : ((((w1.setCell ⟨w.heap.size, 0, none⟩ (.int .i64 F.c)).setCell ⟨w.heap.size, 1, none⟩ (.int .i64 F.p0)).setCell ⟨w.heap.size, 2, none⟩ (.int .i64 F.p1)).setCell ⟨w.heap.size, 3, none⟩ (.int .i64 F.p2)).setCell ⟨w.heap.size, 4, none⟩ (.int .i64 F.p3) = W4 at h5 z5 b5 ⊢
    have X4 := Lib.hid h5
    have Z4 := Lib.hid z5
    have B4 := Lib.hid b5
    clear hW h5 z5 b5 c0 c1 c2 c3 c4 f0 f1 f2 f3 f4
    refine (HM.out _).mono ?_
    rintro e w2 ⟨rfl, b2⟩
    have X2 := Lib.hid (Lvl.keep b2 X4.out)
    have Z2 := Lib.hid (Lvl.keep b2 Z4.out)
    have B2 := Lib.hid (B4.out.trans (b2.mono B4.out.size))
    clear b2
    obtain ⟨c0, c1, c2, c3, c4⟩ := Lv.cells X2.out
    obtain ⟨d0, d1, d2, d3, d4⟩ := Lv.cells Z2.out
    obtain ⟨f0, f1, f2, f3, f4⟩ := Lv.frees Z2.out
  ·
    go_wp2_with fail
    have h5 := put5_self Z2.out zero
    have b5 := put5_below B2.out (B := w.heap.size + 1) (by omega) zero
    generalize hW : (((((w2.setCell ⟨w.heap.size + 1, 0, none⟩ (.int .i64 0)).setCell ⟨w.heap.size + 1, 1, none⟩ (.int .i64 0)).setCell ⟨w.heap.size + 1, 2, none⟩ (.int .i64 0)).setCell ⟨w.heap.size + 1, 3, none⟩ (.int .i64 0)).setCell ⟨w.heap.size + 1, 4, none⟩ (.int .i64 0)) = W4
    rw [show put5 w2 (w.heap.size + 1) zero = W4 from hW] at h5 b5
    obtain ⟨e0, e1, e2, e3, e4⟩ := Lv.cells h5
    exact bodyPost_ret (v := .tuple #[.agg #[.int .i64 0, .int .i64 0, .int .i64 0, .int .i64 0, .int .i64 0], .int .i64 4]) (by simp [results, Try.results93, go_sem, e0, e1, e2, e3, e4, zero]) rfl ⟨rfl, b5⟩
  ·
    go_wp2_with fail
    have h5 := put5_self Z2.out F
    have b5 := put5_below B2.out (B := w.heap.size + 1) (by omega) F
    generalize hW : (((((w2.setCell ⟨w.heap.size + 1, 0, none⟩ (.int .i64 F.c)).setCell ⟨w.heap.size + 1, 1, none⟩ (.int .i64 F.p0)).setCell ⟨w.heap.size + 1, 2, none⟩ (.int .i64 F.p1)).setCell ⟨w.heap.size + 1, 3, none⟩ (.int .i64 F.p2)).setCell ⟨w.heap.size + 1, 4, none⟩ (.int .i64 F.p3)) = W4
    rw [show put5 w2 (w.heap.size + 1) F = W4 from hW] at h5 b5
    obtain ⟨e0, e1, e2, e3, e4⟩ := Lv.cells h5
    exact bodyPost_ret (v := .tuple #[.agg #[.int .i64 F.c, .int .i64 F.p0, .int .i64 F.p1, .int .i64 F.p2, .int .i64 F.p3], .int .i64 0]) (by simp [results, Try.results93, go_sem, e0, e1, e2, e3, e4]) rfl ⟨rfl, b5⟩
theorem RefWhole_form (x : Lv) (w : World) (hx : x.fine) :
    Calls Try.prog 93 #[x.form.val] w fun e w' => e = .returned (.tuple #[(ans x).1.val, .int .i64 (ans x).2]) ∧ Below w.heap.size w w' := by
  have := RefWhole_any x.form w (form_fine hx)
  rwa [ans_form (form_form hx)] at this

set_option maxRecDepth 100000 in
set_option maxHeartbeats 1000000 in
theorem RefSucc_any (l : Lv) (w : World) :
    Calls Try.prog 31 #[l.val] w fun e w' => e = .returned (.tuple #[(succ l).1.val, .int .i64 (succ l).2]) ∧ Below w.heap.size w w' := by
  have hmay := fun w => RefMay_any l w
  unfold succ
  have HL := Lib.hid (new1of2 w l.box zero.box)
  have HZ := Lib.hid (new2 w l.box zero.box)
  cases hm : l.may
  · rw [if_neg (by simp)]
    rw [hm] at hmay
    have HM := Lib.hid hmay
    clear hmay hm
    unfold Lv.val
    go_enter Try.func31, Try.ntmps31
    go_wp2_with fail
    refine (HM.out _).mono ?_
    rintro e w1 ⟨rfl, b1⟩
    have HR := Lib.hid (keep b1 HZ.out)
    have B1 := Lib.hid ((below_two w l.box zero.box).trans (b1.mono (by simp; omega)))
    obtain ⟨d0, d1, d2, d3, d4⟩ := Lv.cells HR.out
    obtain ⟨f0, f1, f2, f3, f4⟩ := Lv.frees HR.out
    clear b1
    go_wp2_with fail
    have h5 := put5_self HR.out zero
    have b5 := put5_below B1.out (B := w.heap.size + 1) (by omega) zero
    generalize hW : (((((w1.setCell ⟨w.heap.size + 1, 0, none⟩ (.int .i64 0)).setCell ⟨w.heap.size + 1, 1, none⟩ (.int .i64 0)).setCell ⟨w.heap.size + 1, 2, none⟩ (.int .i64 0)).setCell ⟨w.heap.size + 1, 3, none⟩ (.int .i64 0)).setCell ⟨w.heap.size + 1, 4, none⟩ (.int .i64 0)) = W4
    rw [show put5 w1 (w.heap.size + 1) zero = W4 from hW] at h5 b5
    obtain ⟨e0, e1, e2, e3, e4⟩ := Lv.cells h5
    exact bodyPost_ret (v := .tuple #[.agg #[.int .i64 0, .int .i64 0, .int .i64 0, .int .i64 0, .int .i64 0], .int .i64 1]) (by simp [results, Try.results31, go_sem, e0, e1, e2, e3, e4, zero]) rfl ⟨rfl, b5⟩
  · rw [if_pos rfl]
    rw [hm] at hmay
    have hplus := fun w => RefMore_any l 1 w (may_within hm) (by omega)
    have hans := fun w => RefWhole_form (l.plus 1) w (plus_fine ((may_iff l).1 hm).fine 1 (by omega))
    obtain ⟨x, hx⟩ : ∃ x, x = ans (l.plus 1) := ⟨_, rfl⟩
    rw [← hx] at hans ⊢
    obtain ⟨G, hG⟩ : ∃ G, G = (l.plus 1).form := ⟨_, rfl⟩
    rw [← hG] at hplus hans
    obtain ⟨A, q⟩ := x
    dsimp only at hans
    have HM := Lib.hid hmay
    have HP := Lib.hid hplus
    have HA := Lib.hid hans
    clear hmay hm hplus hans hG hx
    unfold Lv.val
    go_enter Try.func31, Try.ntmps31
    go_wp2_with fail
    refine (HM.out _).mono ?_
    rintro e w1 ⟨rfl, b1⟩
    have HL1 := Lib.hid (keep b1 HL.out)
    have HR1 := Lib.hid (keep b1 HZ.out)
    have B1 := Lib.hid ((below_two w l.box zero.box).trans (b1.mono (by simp; omega)))
    obtain ⟨c0, c1, c2, c3, c4⟩ := Lv.cells HL1.out
    clear b1
    go_wp2_with fail
    refine (HP.out _).mono ?_
    rintro e w2 ⟨rfl, b2⟩
    have HR2 := Lib.hid (keep b2 HR1.out)
    have B2 := Lib.hid (B1.out.trans (b2.mono B1.out.size))
    clear b2
    dsimp only [Lv.val]
    go_wp2_with fail
    refine (HA.out _).mono ?_
    rintro e w3 ⟨rfl, b3⟩
    have HR := Lib.hid (keep b3 HR2.out)
    have B3 := Lib.hid (B2.out.trans (b3.mono B2.out.size))
    clear b3
    obtain ⟨d0, d1, d2, d3, d4⟩ := Lv.cells HR.out
    obtain ⟨f0, f1, f2, f3, f4⟩ := Lv.frees HR.out
    dsimp only [Lv.val]
    go_wp2_with fail
    have h5 := put5_self HR.out A
    have b5 := put5_below B3.out (B := w.heap.size + 1) (by omega) A
    generalize hW : (((((w3.setCell ⟨w.heap.size + 1, 0, none⟩ (.int .i64 A.c)).setCell ⟨w.heap.size + 1, 1, none⟩ (.int .i64 A.p0)).setCell ⟨w.heap.size + 1, 2, none⟩ (.int .i64 A.p1)).setCell ⟨w.heap.size + 1, 3, none⟩ (.int .i64 A.p2)).setCell ⟨w.heap.size + 1, 4, none⟩ (.int .i64 A.p3)) = W4
    rw [show put5 w3 (w.heap.size + 1) A = W4 from hW] at h5 b5
    obtain ⟨e0, e1, e2, e3, e4⟩ := Lv.cells h5
    exact bodyPost_ret (v := .tuple #[.agg #[.int .i64 A.c, .int .i64 A.p0, .int .i64 A.p1, .int .i64 A.p2, .int .i64 A.p3], .int .i64 q]) (by simp [results, Try.results31, go_sem, e0, e1, e2, e3, e4]) rfl ⟨rfl, b5⟩

set_option maxRecDepth 100000 in
set_option maxHeartbeats 1000000 in
theorem RefMax_any (a b : Lv) (w : World) :
    Calls Try.prog 33 #[a.val, b.val] w fun e w' => e = .returned (.tuple #[(maxi a b).1.val, .int .i64 (maxi a b).2]) ∧ Below w.heap.size w w' := by
  have hma := fun w => RefMay_any a w
  have hmb := fun w => RefMay_any b w
  unfold maxi
  have HA0 := Lib.hid (new1of3 w a.box b.box zero.box)
  have HB0 := Lib.hid (new2of3 w a.box b.box zero.box)
  have HZ0 := Lib.hid (new3 w a.box b.box zero.box)
  cases ha : a.may
  · rw [if_neg (by simp)]
    rw [ha] at hma
    have HM := Lib.hid hma
    clear hma hmb ha
    unfold Lv.val
    go_enter Try.func33, Try.ntmps33
    go_wp2_with fail
    refine (HM.out _).mono ?_
    rintro e w1 ⟨rfl, b1⟩
    have HR := Lib.hid (keep b1 HZ0.out)
    have B1 := Lib.hid ((below_three w a.box b.box zero.box).trans (b1.mono (by simp; omega)))
    obtain ⟨d0, d1, d2, d3, d4⟩ := Lv.cells HR.out
    obtain ⟨f0, f1, f2, f3, f4⟩ := Lv.frees HR.out
    clear b1
    go_wp2_with fail
    have h5 := put5_self HR.out zero
    have b5 := put5_below B1.out (B := w.heap.size + 1 + 1) (by omega) zero
    generalize hW : (((((w1.setCell ⟨w.heap.size + 1 + 1, 0, none⟩ (.int .i64 0)).setCell ⟨w.heap.size + 1 + 1, 1, none⟩ (.int .i64 0)).setCell ⟨w.heap.size + 1 + 1, 2, none⟩ (.int .i64 0)).setCell ⟨w.heap.size + 1 + 1, 3, none⟩ (.int .i64 0)).setCell ⟨w.heap.size + 1 + 1, 4, none⟩ (.int .i64 0)) = W4
    rw [show put5 w1 (w.heap.size + 1 + 1) zero = W4 from hW] at h5 b5
    obtain ⟨e0, e1, e2, e3, e4⟩ := Lv.cells h5
    exact bodyPost_ret (v := .tuple #[.agg #[.int .i64 0, .int .i64 0, .int .i64 0, .int .i64 0, .int .i64 0], .int .i64 1]) (by simp [results, Try.results33, go_sem, e0, e1, e2, e3, e4, zero]) rfl ⟨rfl, b5⟩
  · cases hb : b.may
    · rw [if_neg (by simp)]
      rw [ha] at hma
      rw [hb] at hmb
      have HM := Lib.hid hma
      have HN := Lib.hid hmb
      clear hma hmb ha hb
      unfold Lv.val
      go_enter Try.func33, Try.ntmps33
      go_wp2_with fail
      refine (HM.out _).mono ?_
      rintro e w1 ⟨rfl, b1⟩
      have HB1 := Lib.hid (keep b1 HB0.out)
      have HZ1 := Lib.hid (keep b1 HZ0.out)
      have B1 := Lib.hid ((below_three w a.box b.box zero.box).trans (b1.mono (by simp; omega)))
      obtain ⟨c0, c1, c2, c3, c4⟩ := Lv.cells HB1.out
      clear b1
      go_wp2_with fail
      refine (HN.out _).mono ?_
      rintro e w2 ⟨rfl, b2⟩
      have HR := Lib.hid (keep b2 HZ1.out)
      have B2 := Lib.hid (B1.out.trans (b2.mono B1.out.size))
      obtain ⟨d0, d1, d2, d3, d4⟩ := Lv.cells HR.out
      obtain ⟨f0, f1, f2, f3, f4⟩ := Lv.frees HR.out
      clear b2
      go_wp2_with fail
      have h5 := put5_self HR.out zero
      have b5 := put5_below B2.out (B := w.heap.size + 1 + 1) (by omega) zero
      generalize hW : (((((w2.setCell ⟨w.heap.size + 1 + 1, 0, none⟩ (.int .i64 0)).setCell ⟨w.heap.size + 1 + 1, 1, none⟩ (.int .i64 0)).setCell ⟨w.heap.size + 1 + 1, 2, none⟩ (.int .i64 0)).setCell ⟨w.heap.size + 1 + 1, 3, none⟩ (.int .i64 0)).setCell ⟨w.heap.size + 1 + 1, 4, none⟩ (.int .i64 0)) = W4
      rw [show put5 w2 (w.heap.size + 1 + 1) zero = W4 from hW] at h5 b5
      obtain ⟨e0, e1, e2, e3, e4⟩ := Lv.cells h5
      exact bodyPost_ret (v := .tuple #[.agg #[.int .i64 0, .int .i64 0, .int .i64 0, .int .i64 0, .int .i64 0], .int .i64 1]) (by simp [results, Try.results33, go_sem, e0, e1, e2, e3, e4, zero]) rfl ⟨rfl, b5⟩
    · rw [if_pos ⟨rfl, rfl⟩]
      rw [ha] at hma
      rw [hb] at hmb
      have hw := may_within ha
      simp only [Lv.within, decide_eq_true_eq] at hw
      obtain ⟨_, _, ⟨h0, _⟩, ⟨h1, _⟩, ⟨h2, _⟩, ⟨h3, _⟩⟩ := hw
      have hjoin := fun w => RefBoth_any a b w (fine_low1 ((may_iff a).1 ha).fine)
      have hans := fun w => RefWhole_form (a.join b) w (join_fine ((may_iff a).1 ha).fine ((may_iff b).1 hb).fine)
      obtain ⟨x, hx⟩ : ∃ x, x = ans (a.join b) := ⟨_, rfl⟩
      rw [← hx] at hans ⊢
      obtain ⟨G, hG⟩ : ∃ G, G = (a.join b).form := ⟨_, rfl⟩
      rw [← hG] at hjoin hans
      obtain ⟨A, q⟩ := x
      dsimp only at hans
      have HM := Lib.hid hma
      have HN := Lib.hid hmb
      have HJ := Lib.hid hjoin
      have HA := Lib.hid hans
      clear hma hmb ha hb hjoin hans hG hx h0 h1 h2 h3
      unfold Lv.val
      go_enter Try.func33, Try.ntmps33
      go_wp2_with fail
      refine (HM.out _).mono ?_
      rintro e w1 ⟨rfl, b1⟩
      have HA1 := Lib.hid (keep b1 HA0.out)
      have HB1 := Lib.hid (keep b1 HB0.out)
      have HZ1 := Lib.hid (keep b1 HZ0.out)
      have B1 := Lib.hid ((below_three w a.box b.box zero.box).trans (b1.mono (by simp; omega)))
      obtain ⟨c0, c1, c2, c3, c4⟩ := Lv.cells HB1.out
      clear b1
      go_wp2_with fail
      refine (HN.out _).mono ?_
      rintro e w2 ⟨rfl, b2⟩
      have HA2 := Lib.hid (keep b2 HA1.out)
      have HB2 := Lib.hid (keep b2 HB1.out)
      have HZ2 := Lib.hid (keep b2 HZ1.out)
      have B2 := Lib.hid (B1.out.trans (b2.mono B1.out.size))
      clear b2 c0 c1 c2 c3 c4
      obtain ⟨c0, c1, c2, c3, c4⟩ := Lv.cells HB2.out
      obtain ⟨g0, g1, g2, g3, g4⟩ := Lv.cells HA2.out
      go_wp2_with fail
      refine (HJ.out _).mono ?_
      rintro e w3 ⟨rfl, b3⟩
      have HZ3 := Lib.hid (keep b3 HZ2.out)
      have B3 := Lib.hid (B2.out.trans (b3.mono B2.out.size))
      clear b3
      dsimp only [Lv.val]
      go_wp2_with fail
      refine (HA.out _).mono ?_
      rintro e w4 ⟨rfl, b4⟩
      have HR := Lib.hid (keep b4 HZ3.out)
      have B4 := Lib.hid (B3.out.trans (b4.mono B3.out.size))
      clear b4
      obtain ⟨d0, d1, d2, d3, d4⟩ := Lv.cells HR.out
      obtain ⟨f0, f1, f2, f3, f4⟩ := Lv.frees HR.out
      dsimp only [Lv.val]
      go_wp2_with fail
      have h5 := put5_self HR.out A
      have b5 := put5_below B4.out (B := w.heap.size + 1 + 1) (by omega) A
      generalize hW : (((((w4.setCell ⟨w.heap.size + 1 + 1, 0, none⟩ (.int .i64 A.c)).setCell ⟨w.heap.size + 1 + 1, 1, none⟩ (.int .i64 A.p0)).setCell ⟨w.heap.size + 1 + 1, 2, none⟩ (.int .i64 A.p1)).setCell ⟨w.heap.size + 1 + 1, 3, none⟩ (.int .i64 A.p2)).setCell ⟨w.heap.size + 1 + 1, 4, none⟩ (.int .i64 A.p3)) = W5
      rw [show put5 w4 (w.heap.size + 1 + 1) A = W5 from hW] at h5 b5
      obtain ⟨e0, e1, e2, e3, e4⟩ := Lv.cells h5
      exact bodyPost_ret (v := .tuple #[.agg #[.int .i64 A.c, .int .i64 A.p0, .int .i64 A.p1, .int .i64 A.p2, .int .i64 A.p3], .int .i64 q]) (by simp [results, Try.results33, go_sem, e0, e1, e2, e3, e4]) rfl ⟨rfl, b5⟩

set_option maxRecDepth 100000 in
set_option maxHeartbeats 1000000 in
theorem RefZero_any (w : World) : Calls Try.prog 45 #[] w fun e w' => e = .returned (number 0).val ∧ Below w.heap.size w w' := by
  have h5 := World.alloc_heap_new w (.cells #[.int .i64 0, .int .i64 (-1), .int .i64 (-1), .int .i64 (-1), .int .i64 (-1)] 44)
  have b5 := below_one w (.cells #[.int .i64 0, .int .i64 (-1), .int .i64 (-1), .int .i64 (-1), .int .i64 (-1)] 44)
  obtain ⟨e0, e1, e2, e3, e4⟩ := Lv.cells (l := number 0) h5
  clear h5
  go_enter Try.func45, Try.ntmps45
  go_wp2_with fail
  generalize hW : w.alloc (.cells #[.int .i64 0, .int .i64 (-1), .int .i64 (-1), .int .i64 (-1), .int .i64 (-1)] 44) = W4 at e0 e1 e2 e3 e4 b5 ⊢
  exact bodyPost_ret (v := .agg #[.int .i64 0, .int .i64 (-1), .int .i64 (-1), .int .i64 (-1), .int .i64 (-1)]) (by simp [results, Try.results45, go_sem, e0, e1, e2, e3, e4, number]) rfl ⟨rfl, b5⟩

set_option maxRecDepth 100000 in
set_option maxHeartbeats 1000000 in
theorem Refparam_no (i : Int) (w : World) (h : ¬ (0 ≤ i ∧ i < 4)) :
    Calls Try.prog 37 #[.int .i64 i] w fun e w' => e = .returned (.tuple #[zero.val, .int .i64 1]) ∧ Below w.heap.size w w' := by
  have h' : i < 0 ∨ (0 ≤ i ∧ 4 ≤ i) := by omega
  clear h
  rcases h' with h | ⟨h0, h⟩
  all_goals
    go_enter Try.func37, Try.ntmps37
    go_wp2_with fail
    exact bodyPost_ret (v := .tuple #[.agg #[.int .i64 0, .int .i64 0, .int .i64 0, .int .i64 0, .int .i64 0], .int .i64 1]) (by simp [results, Try.results37, go_sem]) rfl ⟨rfl, below_one _ _⟩

set_option maxRecDepth 100000 in
set_option maxHeartbeats 1000000 in
theorem Refparam0 (w : World) :
    Calls Try.prog 37 #[.int .i64 0] w fun e w' => e = .returned (.tuple #[.agg #[.int .i64 0, .int .i64 0, .int .i64 (-1), .int .i64 (-1), .int .i64 (-1)], .int .i64 0]) ∧ Below w.heap.size w w' := by
  have HZ := Lib.hid (World.alloc_heap_new w zero.box)
  go_enter Try.func37, Try.ntmps37
  go_wp2_with fail
  refine (RefZero_any _).mono ?_
  rintro e w1 ⟨rfl, b1⟩
  have HR := Lib.hid (keep b1 HZ.out)
  have B1 := Lib.hid ((below_one w zero.box).trans (b1.mono (by simp)))
  obtain ⟨d0, d1, d2, d3, d4⟩ := Lv.cells HR.out
  obtain ⟨f0, f1, f2, f3, f4⟩ := Lv.frees HR.out
  have hz0 : w.heap.size < w1.heap.size := by have := b1.size; simp at this; omega
  clear b1
  dsimp only [number, Lv.val]
  go_wp2_with fail
  have h5 := keepA (put5_self HR.out ⟨0, 0, -1, -1, -1⟩) (Lv.box ⟨0, 0, -1, -1, -1⟩)
  have b5 := (put5_below B1.out (B := w.heap.size) (Nat.le_refl _) ⟨0, 0, -1, -1, -1⟩).alloc (by simp [put5]; omega) (Lv.box ⟨0, 0, -1, -1, -1⟩)
  generalize hW : (((((w1.setCell ⟨w.heap.size, 0, none⟩ (.int .i64 0)).setCell ⟨w.heap.size, 1, none⟩ (.int .i64 0)).setCell ⟨w.heap.size, 2, none⟩ (.int .i64 (-1))).setCell ⟨w.heap.size, 3, none⟩ (.int .i64 (-1))).setCell ⟨w.heap.size, 4, none⟩ (.int .i64 (-1))).alloc (.cells #[.int .i64 0, .int .i64 0, .int .i64 (-1), .int .i64 (-1), .int .i64 (-1)] 44) = W4
  rw [show (put5 w1 w.heap.size ⟨0, 0, -1, -1, -1⟩).alloc (Lv.box ⟨0, 0, -1, -1, -1⟩) = W4 from hW] at h5 b5
  obtain ⟨e0, e1, e2, e3, e4⟩ := Lv.cells h5
  exact bodyPost_ret (v := .tuple #[.agg #[.int .i64 0, .int .i64 0, .int .i64 (-1), .int .i64 (-1), .int .i64 (-1)], .int .i64 0]) (by simp [results, Try.results37, go_sem, e0, e1, e2, e3, e4]) rfl ⟨rfl, b5⟩

set_option maxRecDepth 100000 in
set_option maxHeartbeats 1000000 in
theorem Refparam1 (w : World) :
    Calls Try.prog 37 #[.int .i64 1] w fun e w' => e = .returned (.tuple #[.agg #[.int .i64 0, .int .i64 (-1), .int .i64 0, .int .i64 (-1), .int .i64 (-1)], .int .i64 0]) ∧ Below w.heap.size w w' := by
  have HZ := Lib.hid (World.alloc_heap_new w zero.box)
  go_enter Try.func37, Try.ntmps37
  go_wp2_with fail
  refine (RefZero_any _).mono ?_
  rintro e w1 ⟨rfl, b1⟩
  have HR := Lib.hid (keep b1 HZ.out)
  have B1 := Lib.hid ((below_one w zero.box).trans (b1.mono (by simp)))
  obtain ⟨d0, d1, d2, d3, d4⟩ := Lv.cells HR.out
  obtain ⟨f0, f1, f2, f3, f4⟩ := Lv.frees HR.out
  have hz0 : w.heap.size < w1.heap.size := by have := b1.size; simp at this; omega
  clear b1
  dsimp only [number, Lv.val]
  go_wp2_with fail
  have h5 := keepA (put5_self HR.out ⟨0, -1, 0, -1, -1⟩) (Lv.box ⟨0, -1, 0, -1, -1⟩)
  have b5 := (put5_below B1.out (B := w.heap.size) (Nat.le_refl _) ⟨0, -1, 0, -1, -1⟩).alloc (by simp [put5]; omega) (Lv.box ⟨0, -1, 0, -1, -1⟩)
  generalize hW : (((((w1.setCell ⟨w.heap.size, 0, none⟩ (.int .i64 0)).setCell ⟨w.heap.size, 1, none⟩ (.int .i64 (-1))).setCell ⟨w.heap.size, 2, none⟩ (.int .i64 0)).setCell ⟨w.heap.size, 3, none⟩ (.int .i64 (-1))).setCell ⟨w.heap.size, 4, none⟩ (.int .i64 (-1))).alloc (.cells #[.int .i64 0, .int .i64 (-1), .int .i64 0, .int .i64 (-1), .int .i64 (-1)] 44) = W4
  rw [show (put5 w1 w.heap.size ⟨0, -1, 0, -1, -1⟩).alloc (Lv.box ⟨0, -1, 0, -1, -1⟩) = W4 from hW] at h5 b5
  obtain ⟨e0, e1, e2, e3, e4⟩ := Lv.cells h5
  exact bodyPost_ret (v := .tuple #[.agg #[.int .i64 0, .int .i64 (-1), .int .i64 0, .int .i64 (-1), .int .i64 (-1)], .int .i64 0]) (by simp [results, Try.results37, go_sem, e0, e1, e2, e3, e4]) rfl ⟨rfl, b5⟩

set_option maxRecDepth 100000 in
set_option maxHeartbeats 1000000 in
theorem Refparam2 (w : World) :
    Calls Try.prog 37 #[.int .i64 2] w fun e w' => e = .returned (.tuple #[.agg #[.int .i64 0, .int .i64 (-1), .int .i64 (-1), .int .i64 0, .int .i64 (-1)], .int .i64 0]) ∧ Below w.heap.size w w' := by
  have HZ := Lib.hid (World.alloc_heap_new w zero.box)
  go_enter Try.func37, Try.ntmps37
  go_wp2_with fail
  refine (RefZero_any _).mono ?_
  rintro e w1 ⟨rfl, b1⟩
  have HR := Lib.hid (keep b1 HZ.out)
  have B1 := Lib.hid ((below_one w zero.box).trans (b1.mono (by simp)))
  obtain ⟨d0, d1, d2, d3, d4⟩ := Lv.cells HR.out
  obtain ⟨f0, f1, f2, f3, f4⟩ := Lv.frees HR.out
  have hz0 : w.heap.size < w1.heap.size := by have := b1.size; simp at this; omega
  clear b1
  dsimp only [number, Lv.val]
  go_wp2_with fail
  have h5 := keepA (put5_self HR.out ⟨0, -1, -1, 0, -1⟩) (Lv.box ⟨0, -1, -1, 0, -1⟩)
  have b5 := (put5_below B1.out (B := w.heap.size) (Nat.le_refl _) ⟨0, -1, -1, 0, -1⟩).alloc (by simp [put5]; omega) (Lv.box ⟨0, -1, -1, 0, -1⟩)
  generalize hW : (((((w1.setCell ⟨w.heap.size, 0, none⟩ (.int .i64 0)).setCell ⟨w.heap.size, 1, none⟩ (.int .i64 (-1))).setCell ⟨w.heap.size, 2, none⟩ (.int .i64 (-1))).setCell ⟨w.heap.size, 3, none⟩ (.int .i64 0)).setCell ⟨w.heap.size, 4, none⟩ (.int .i64 (-1))).alloc (.cells #[.int .i64 0, .int .i64 (-1), .int .i64 (-1), .int .i64 0, .int .i64 (-1)] 44) = W4
  rw [show (put5 w1 w.heap.size ⟨0, -1, -1, 0, -1⟩).alloc (Lv.box ⟨0, -1, -1, 0, -1⟩) = W4 from hW] at h5 b5
  obtain ⟨e0, e1, e2, e3, e4⟩ := Lv.cells h5
  exact bodyPost_ret (v := .tuple #[.agg #[.int .i64 0, .int .i64 (-1), .int .i64 (-1), .int .i64 0, .int .i64 (-1)], .int .i64 0]) (by simp [results, Try.results37, go_sem, e0, e1, e2, e3, e4]) rfl ⟨rfl, b5⟩

set_option maxRecDepth 100000 in
set_option maxHeartbeats 1000000 in
theorem Refparam3 (w : World) :
    Calls Try.prog 37 #[.int .i64 3] w fun e w' => e = .returned (.tuple #[.agg #[.int .i64 0, .int .i64 (-1), .int .i64 (-1), .int .i64 (-1), .int .i64 0], .int .i64 0]) ∧ Below w.heap.size w w' := by
  have HZ := Lib.hid (World.alloc_heap_new w zero.box)
  go_enter Try.func37, Try.ntmps37
  go_wp2_with fail
  refine (RefZero_any _).mono ?_
  rintro e w1 ⟨rfl, b1⟩
  have HR := Lib.hid (keep b1 HZ.out)
  have B1 := Lib.hid ((below_one w zero.box).trans (b1.mono (by simp)))
  obtain ⟨d0, d1, d2, d3, d4⟩ := Lv.cells HR.out
  obtain ⟨f0, f1, f2, f3, f4⟩ := Lv.frees HR.out
  have hz0 : w.heap.size < w1.heap.size := by have := b1.size; simp at this; omega
  clear b1
  dsimp only [number, Lv.val]
  go_wp2_with fail
  have h5 := keepA (put5_self HR.out ⟨0, -1, -1, -1, 0⟩) (Lv.box ⟨0, -1, -1, -1, 0⟩)
  have b5 := (put5_below B1.out (B := w.heap.size) (Nat.le_refl _) ⟨0, -1, -1, -1, 0⟩).alloc (by simp [put5]; omega) (Lv.box ⟨0, -1, -1, -1, 0⟩)
  generalize hW : (((((w1.setCell ⟨w.heap.size, 0, none⟩ (.int .i64 0)).setCell ⟨w.heap.size, 1, none⟩ (.int .i64 (-1))).setCell ⟨w.heap.size, 2, none⟩ (.int .i64 (-1))).setCell ⟨w.heap.size, 3, none⟩ (.int .i64 (-1))).setCell ⟨w.heap.size, 4, none⟩ (.int .i64 0)).alloc (.cells #[.int .i64 0, .int .i64 (-1), .int .i64 (-1), .int .i64 (-1), .int .i64 0] 44) = W4
  rw [show (put5 w1 w.heap.size ⟨0, -1, -1, -1, 0⟩).alloc (Lv.box ⟨0, -1, -1, -1, 0⟩) = W4 from hW] at h5 b5
  obtain ⟨e0, e1, e2, e3, e4⟩ := Lv.cells h5
  exact bodyPost_ret (v := .tuple #[.agg #[.int .i64 0, .int .i64 (-1), .int .i64 (-1), .int .i64 (-1), .int .i64 0], .int .i64 0]) (by simp [results, Try.results37, go_sem, e0, e1, e2, e3, e4]) rfl ⟨rfl, b5⟩

theorem RefParam_any (i : Int) (w : World) :
    Calls Try.prog 37 #[.int .i64 i] w fun e w' => e = .returned (.tuple #[(param i).1.val, .int .i64 (param i).2]) ∧ Below w.heap.size w w' := by
  unfold param
  by_cases h : 0 ≤ i ∧ i < 4
  · rw [if_pos h]
    have hk : i = 0 ∨ i = 1 ∨ i = 2 ∨ i = 3 := by omega
    rcases hk with rfl | rfl | rfl | rfl
    · exact Refparam0 w
    · exact Refparam1 w
    · exact Refparam2 w
    · exact Refparam3 w
  · rw [if_neg h]
    exact Refparam_no i w h
end Go.Proofs.Ytfechgahafbphaa
