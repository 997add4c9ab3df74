/-
  subst.Lift.
-/
import Derived.Test.YtfechgahafbphaaSubTurn
namespace Go.Proofs.Ytfechgahafbphaa
open Go.RowKit Go.Shelf Lvl Trm

/-- What Lift answers. -/
def Trm.liftAns (t : Tm) (fr by_ : Int) : Tm × Int := if fr < 0 ∨ t.may = false then (zeroT, 1) else if t.sinks fr (min by_ 2097152) = true then (zeroT, 7) else if (t.put (gLift fr (min by_ 2097152)) 0).may = true then (t.put (gLift fr (min by_ 2097152)) 0, 0) else (zeroT, 4)
theorem Lift_ans {t : Tm} {fr by_ : Int} (hmay : t.may = true) (hfr : ¬ fr < 0) : ansT (tAns t (t.thr (lfFree (toLift fr (min by_ 2097152))) () 0)) (t.thr (lfFree (toLift fr (min by_ 2097152))) () 0).2.1 = liftAns t fr by_ := by
  obtain ⟨h1, h2⟩ := thr_lift hmay fr (min by_ 2097152)
  unfold liftAns
  rw [if_neg (by rw [hmay]; simp; omega), h1]
  cases hs : t.sinks fr (min by_ 2097152)
  · unfold tAns ansT
    rw [h1, hs]
    simp only [Bool.false_eq_true, if_false, if_true]
    rw [h2 hs]
    simp
  · unfold ansT
    simp

set_option maxRecDepth 100000 in
set_option maxHeartbeats 4000000 in
theorem Lift_any (t : Tm) (h : Hd) (fr by_ : Int) (w : World) (hin : t.In w.heap.size w h) (hb0 : -9223372036854775808 ≤ by_) :
    Calls Try.prog 70 #[t.val h, .int .i64 fr, .int .i64 by_] w fun e w' => ∃ h', e = .returned (.tuple #[(liftAns t fr by_).1.val h', .int .i64 (liftAns t fr by_).2]) ∧ (liftAns t fr by_).1.In w'.heap.size w' h' ∧ Below w.heap.size w w' := by
  have HM := Lib.hid (fun (W : World) (hW : Below w.heap.size w W) => PMay_any t h W (Tm.In.mono hW.size _ _ (Tm.In.below hW _ _ hin)))
  have HB0 := Lib.hid (below_two w (t.box h) (.cells #[.int .u8 0, .int .i64 0, .string no, .slice none 0 0, .slice none 0 0] 60))
  have HX0 := Lib.hid (new1of2 w (t.box h) (.cells #[.int .u8 0, .int .i64 0, .string no, .slice none 0 0, .slice none 0 0] 60))
  have HA0 := Lib.hid (new2 w (t.box h) (.cells #[.int .u8 0, .int .i64 0, .string no, .slice none 0 0, .slice none 0 0] 60))
  have HIN := Lib.hid hin
  clear hin
  by_cases hfr : fr < 0
  · have hs : liftAns t fr by_ = (zeroT, 1) := if_pos (Or.inl hfr)
    rw [hs]
    have d1 : decide (fr < 0) = true := by simpa using hfr
    unfold Tm.val
    dsimp only [Tm.vals]
    clear hs hfr HM HIN
    go_enter Try.func70, Try.ntmps70
    go_wp2_with fail
    have h5 := HA0.out
    have b5 := HB0.out
    unfold no Tm.box at h5 b5
    dsimp only [Tm.vals] at h5 b5
    generalize hW : (w.alloc (.cells #[.int .u8 t.k, .int .i64 t.n, .string t.s, .slice h.lo t.ls.length h.lc, .slice h.to t.ts.length h.tc] 60)).alloc (.cells #[.int .u8 0, .int .i64 0, .string ⟨#[]⟩, .slice none 0 0, .slice none 0 0] 60) = W4 at h5 b5 ⊢
    obtain ⟨e0, e1, e2, e3, e4⟩ := five_cells h5
    clear hW
    exact bodyPost_ret (v := .tuple #[zeroT.val ⟨none, 0, none, 0⟩, .int .i64 1]) (by simp [results, Try.results70, go_sem, e0, e1, e2, e3, e4, zeroT, Tm.val, Tm.vals, Tm.k, Tm.n, Tm.s, Tm.ls, Tm.ts, no]) rfl ⟨⟨none, 0, none, 0⟩, rfl, leaf_in (by decide) (by decide) (by decide) (by decide) (by decide), b5⟩
  · have d1 : decide (fr < 0) = false := by simpa using hfr
    cases hmay : t.may
    · have hs : liftAns t fr by_ = (zeroT, 1) := if_pos (Or.inr hmay)
      rw [hs]
      rw [hmay] at HM
      unfold Tm.val at HM ⊢
      dsimp only [Tm.vals] at HM ⊢
      clear hs hfr hmay
      go_enter Try.func70, Try.ntmps70
      go_wp2_with fail
      refine (HM.out _ HB0.out).mono ?_
      rintro e w1 ⟨rfl, b1⟩
      have hA1 := Lvl.keep b1 HA0.out
      have HB1 := Lib.hid (Trm.go HB0.out b1)
      obtain ⟨a0, a1, a2, a3, a4⟩ := five_cells hA1
      obtain ⟨f0, f1, f2, f3, f4⟩ := five_free hA1
      have HA1 := Lib.hid hA1
      clear hA1 b1
      go_wp2_with fail
      have h5 := putT_self HA1.out (.int .u8 0) (.int .i64 0) (.string no) (.slice none 0 0) (.slice none 0 0)
      have b5 := putT_below HB1.out (by omega : w.heap.size ≤ w.heap.size + 1) (.int .u8 0) (.int .i64 0) (.string no) (.slice none 0 0) (.slice none 0 0)
      unfold putT no at h5 b5
      generalize hW : ((((w1.setCell ⟨w.heap.size + 1, 0, none⟩ (.int .u8 0)).setCell ⟨w.heap.size + 1, 1, none⟩ (.int .i64 0)).setCell ⟨w.heap.size + 1, 2, none⟩ (.string ⟨#[]⟩)).setCell ⟨w.heap.size + 1, 3, none⟩ (.slice none 0 0)).setCell ⟨w.heap.size + 1, 4, none⟩ (.slice none 0 0) = W4 at h5 b5 ⊢
      obtain ⟨e0, e1, e2, e3, e4⟩ := five_cells h5
      clear hW
      exact bodyPost_ret (v := .tuple #[zeroT.val ⟨none, 0, none, 0⟩, .int .i64 1]) (by simp [results, Try.results70, go_sem, e0, e1, e2, e3, e4, zeroT, Tm.val, Tm.vals, Tm.k, Tm.n, Tm.s, Tm.ls, Tm.ts, no]) rfl ⟨⟨none, 0, none, 0⟩, rfl, leaf_in (by decide) (by decide) (by decide) (by decide) (by decide), b5⟩
    · obtain ⟨a, ha⟩ : ∃ a, a = liftAns t fr by_ := ⟨_, rfl⟩
      obtain ⟨y, hy⟩ : ∃ y, y = tAns t (t.thr (lfFree (toLift fr (min by_ 2097152))) () 0) := ⟨_, rfl⟩
      obtain ⟨z, hz⟩ : ∃ z, z = (t.thr (lfFree (toLift fr (min by_ 2097152))) () 0).2.1 := ⟨_, rfl⟩
      have hya : ansT y z = a := by
        rw [ha, hy, hz]
        exact Lift_ans hmay hfr
      rw [← ha]
      rw [hmay] at HM
      have HTU := Lib.hid (fun (W : World) (C F Y : Nat) (hW : Below w.heap.size w W) (hL : LiftInv fr (min by_ 2097152) C F Y () W) (hC : C < W.heap.size) (hF : F < W.heap.size) (hY : Y < W.heap.size) => show Calls Try.prog 121 #[t.val h, fnv 149 C] W (fun e w' => ∃ h', e = .returned (.tuple #[y.val h', .int .i64 z]) ∧ FirmS (fun q => w.heap.size ≤ q ∧ q < W.heap.size) w' y h' ∧ Below W.heap.size W w') from by
        have := turned_any (leaf_lift fr (min by_ 2097152) (B := w.heap.size) hC hF hY (by omega) (by omega)) t h () W hmay trivial hL (Tm.In.below hW _ _ HIN.out) hW.size (Nat.le_refl _) (fun q hq => hq.elim)
        rw [← hy, ← hz] at this
        exact this.mono (fun _ _ ⟨h', he, hf, _, hr⟩ => ⟨h', he, hf, hr.none_below⟩))
      have HAN := Lib.hid (fun (W : World) (h' : Hd) (hi : y.In W.heap.size W h') => by
        have := sub_answer_any y h' z W hi
        rw [hya] at this
        exact this)
      clear ha hy hz hya hmay hfr
      obtain ⟨a1, a2⟩ := a
      unfold Tm.val at HM HTU HAN ⊢
      dsimp only [Tm.vals] at HM HTU HAN ⊢
      go_enter Try.func70, Try.ntmps70
      go_wp2_with fail
      refine (HM.out _ HB0.out).mono ?_
      rintro e w1 ⟨rfl, b1⟩
      have HB1 := Lib.hid (Trm.go HB0.out b1)
      have HA1 := Lib.hid (Lvl.keep b1 HA0.out)
      have HX1 := Lib.hid (Lvl.keep b1 HX0.out)

      obtain ⟨x0, x1, x2, x3, x4⟩ := five_cells (show w1.heap[w.heap.size]? = some (.cells #[.int .u8 t.k, .int .i64 t.n, .string t.s, .slice h.lo t.ls.length h.lc, .slice h.to t.ts.length h.tc] 60) from HX1.out)
      clear b1
      go_wp2_with fail
      go_region_with (first
        | (go_at_call 122; refine (lifting_any fr by_ _).mono ?_; rintro e wl ⟨C, F, Y, rfl, hLI, hC, hF, hY, bl⟩
           have bl0 := Lvl.undrew bl
           have HBl := Lib.hid (Trm.go HB1.out bl0)
           have HAl := Lib.hid (Lvl.keep bl0 HA1.out)
           have hXl := Lvl.keep bl0 HX1.out
           obtain ⟨x0, x1, x2, x3, x4⟩ := five_cells (show wl.heap[w.heap.size]? = some (.cells #[.int .u8 t.k, .int .i64 t.n, .string t.s, .slice h.lo t.ls.length h.lc, .slice h.to t.ts.length h.tc] 60) from hXl)
           have HLl := Lib.hid hLI
           clear hLI
           clear bl bl0 hXl)
        | (go_at_call 121; refine (HTU.out _ C F Y HBl.out HLl.out hC hF hY).mono ?_; rintro e wt ⟨ht, rfl, iT, bt⟩
           have HBt := Lib.hid (Trm.go HBl.out bt)
           have HAt := Lib.hid (Lvl.keep bt HAl.out)
           have HIt := Lib.hid iT
           clear bt iT)
        | (go_at_call 120; refine (HAN.out _ _ HIt.out.here).mono ?_; rintro e wa ⟨ha, rfl, iA, ba⟩
           have HBa := Lib.hid (Trm.go HBt.out ba)
           have hAa := Lvl.keep ba HAt.out
           obtain ⟨q0, q1, q2, q3, q4⟩ := five_cells hAa
           obtain ⟨f0, f1, f2, f3, f4⟩ := five_free hAa
           have HAa := Lib.hid hAa
           have HIa := Lib.hid (iA _ HIt.out)
           have hla := (Array.getElem?_eq_some_iff.1 HAl.out).1
           clear ba iA hAa))
      all_goals
        go_wp2_with fail
        have h5 := putT_self HAa.out (.int .u8 a1.k) (.int .i64 a1.n) (.string a1.s) (.slice ha.lo a1.ls.length ha.lc) (.slice ha.to a1.ts.length ha.tc)
        have b5 := putT_below HBa.out (by omega : w.heap.size ≤ w.heap.size + 1) (.int .u8 a1.k) (.int .i64 a1.n) (.string a1.s) (.slice ha.lo a1.ls.length ha.lc) (.slice ha.to a1.ts.length ha.tc)
        have r5 := putT_ran wa (w.heap.size + 1) (.int .u8 a1.k) (.int .i64 a1.n) (.string a1.s) (.slice ha.lo a1.ls.length ha.lc) (.slice ha.to a1.ts.length ha.tc)
        unfold putT at h5 b5 r5
        generalize hW : ((((wa.setCell ⟨w.heap.size + 1, 0, none⟩ (.int .u8 a1.k)).setCell ⟨w.heap.size + 1, 1, none⟩ (.int .i64 a1.n)).setCell ⟨w.heap.size + 1, 2, none⟩ (.string a1.s)).setCell ⟨w.heap.size + 1, 3, none⟩ (.slice ha.lo a1.ls.length ha.lc)).setCell ⟨w.heap.size + 1, 4, none⟩ (.slice ha.to a1.ts.length ha.tc) = W4 at h5 b5 r5 ⊢
        obtain ⟨e0, e1, e2, e3, e4⟩ := five_cells h5
        clear hW
        refine bodyPost_ret (v := .tuple #[a1.val ha, .int .i64 a2]) (by simp [results, Try.results70, go_sem, e0, e1, e2, e3, e4, Tm.val, Tm.vals]) rfl ⟨ha, rfl, ?_, b5⟩
        exact (HIa.out.step (RanS.of_ran r5 ⟨by omega, hla⟩)).here
end Go.Proofs.Ytfechgahafbphaa
