/-
  battenlaw04.lifts.
-/
import Derived.Test.YtijdlihodpodjaaQSubB
import Derived.Test.YtijdlihodpodjaaQTrmB
import Derived.Test.YtijdlihodpodjaaQTrmE
import Derived.Test.YtijdlihodpodjaaQTrmF
import Derived.Test.YtijdlihodpodjaaQTrmWorks
import Derived.Test.YtijdlihodpodjaaQSubC
import Derived.Test.YtijdlihodpodjaaQSubCloseFn
import Derived.Test.YtijdlihodpodjaaQSubFew
import Derived.Test.YtijdlihodpodjaaQSubWorks
import Derived.Deep.RegionHeld3
import Derived.Deep.AppendLies
namespace Go.Proofs.Ytijdlihodpodjaa
open Go.RowKit Go.Shelf Lvl Trm

namespace Trm
/-- What the document's Lift answers, and its error. -/
def liftsB (t : Tm) (fr by_ : Int) : Tm × Int := if t.may = false ∨ fr < 0 then (zeroT, 1) else if by_ < 0 ∧ (t.vps 0).any (isBt fr (fr - by_)) = true then (zeroT, 7) else (t.put (gLift fr by_) 0, 0)
end Trm

set_option maxRecDepth 100000 in
set_option maxHeartbeats 4000000 in
theorem lifts_any (t : Tm) (h : Hd) (fr by_ : Int) (w : World) (hin : t.In w.heap.size w h) (hfr1 : fr ≤ 1073741824) (hb0 : -1073741824 ≤ by_) (hb1 : by_ ≤ 1073741824) :
    Calls Try.prog 34 #[t.val h, .int .i64 fr, .int .i64 by_] w fun e w' => ∃ h', e = .returned (.tuple #[(liftsB t fr by_).1.val h', .int .i64 (liftsB t fr by_).2]) ∧ (liftsB t fr by_).1.In w'.heap.size w' h' ∧ Below w.heap.size w w' := by
  have HM := Lib.hid (fun (W : World) (hW : Below w.heap.size w W) => RefTMay_any t h W (carry hin hW))
  have HIN := Lib.hid hin
  have HB0 := Lib.hid (below_two w (t.box h) (.cells #[.int .u8 0, .int .i64 0, .string ⟨#[]⟩, .slice none 0 0, .slice none 0 0] 25))
  have HX0 := Lib.hid (new1of2 w (t.box h) (.cells #[.int .u8 0, .int .i64 0, .string ⟨#[]⟩, .slice none 0 0, .slice none 0 0] 25))
  have HR0 := Lib.hid (new2 w (t.box h) (.cells #[.int .u8 0, .int .i64 0, .string ⟨#[]⟩, .slice none 0 0, .slice none 0 0] 25))
  unfold Tm.box at HB0 HX0 HR0
  dsimp only [Tm.vals] at HB0 HX0 HR0
  clear hin
  cases hm : t.may
  · rw [hm] at HM
    rw [show liftsB t fr by_ = (zeroT, 1) from if_pos (Or.inl hm)]
    unfold Tm.val at HM ⊢
    dsimp only [Tm.vals] at HM ⊢
    clear hm HIN
    go_enter Try.func34, Try.ntmps34
    go_wp2_with fail
    refine (HM.out _ HB0.out).mono ?_
    rintro x w1 ⟨rfl, b1⟩
    have HB1 := Lib.hid (Trm.go HB0.out b1)
    have HX1 := Lib.hid (Lvl.keep b1 HX0.out)
    have HR1 := Lib.hid (Lvl.keep b1 HR0.out)
    obtain ⟨x0, x1, x2, x3, x4⟩ := five_cells HX1.out
    obtain ⟨r0, r1, r2, r3, r4⟩ := five_cells HR1.out
    obtain ⟨f0, f1, f2, f3, f4⟩ := five_free HR1.out
    have hl1 : w.heap.size + 1 < w1.heap.size := (Array.getElem?_eq_some_iff.1 HR1.out).1
    clear b1
    go_wp2_with fail
    have h5 := putT_self HR1.out (.int .u8 0) (.int .i64 0) (.string ⟨#[]⟩) (.slice none 0 0) (.slice none 0 0)
    have b5 := putT_below HB1.out (by omega : w.heap.size ≤ w.heap.size + 1) (.int .u8 0) (.int .i64 0) (.string ⟨#[]⟩) (.slice none 0 0) (.slice none 0 0)
    have r5 := putT_ran w1 (w.heap.size + 1) (.int .u8 0) (.int .i64 0) (.string ⟨#[]⟩) (.slice none 0 0) (.slice none 0 0)
    unfold putT at h5 b5 r5
    generalize hW : (((((w1.setCell ⟨w.heap.size + 1, 0, none⟩ (.int .u8 0)).setCell ⟨w.heap.size + 1, 1, none⟩ (.int .i64 0)).setCell ⟨w.heap.size + 1, 2, none⟩ (.string ⟨#[]⟩)).setCell ⟨w.heap.size + 1, 3, none⟩ (.slice none 0 0)).setCell ⟨w.heap.size + 1, 4, none⟩ (.slice none 0 0)) = W4 at h5 b5 r5 ⊢
    obtain ⟨e0, e1, e2, e3, e4⟩ := five_cells h5
    clear hW
    exact bodyPost_ret (v := .tuple #[zeroT.val ⟨none, 0, none, 0⟩, .int .i64 1]) (by simp [results, Try.results34, go_sem, e0, e1, e2, e3, e4, zeroT, Tm.val, Tm.vals, Tm.k, Tm.n, Tm.s, Tm.ls, Tm.ts, no]) rfl ⟨⟨none, 0, none, 0⟩, rfl, leaf_in (by decide) (by decide) (by decide) (by decide) (by decide), b5⟩
  · rw [hm] at HM
    by_cases hfr : fr < 0
    · rw [show liftsB t fr by_ = (zeroT, 1) from if_pos (Or.inr hfr)]
      have d1 : decide (fr < 0) = true := by simpa using hfr
      unfold Tm.val at HM ⊢
      dsimp only [Tm.vals] at HM ⊢
      clear hm HIN hfr
      go_enter Try.func34, Try.ntmps34
      go_wp2_with fail
      refine (HM.out _ HB0.out).mono ?_
      rintro x w1 ⟨rfl, b1⟩
      have HB1 := Lib.hid (Trm.go HB0.out b1)
      have HX1 := Lib.hid (Lvl.keep b1 HX0.out)
      have HR1 := Lib.hid (Lvl.keep b1 HR0.out)
      obtain ⟨x0, x1, x2, x3, x4⟩ := five_cells HX1.out
      obtain ⟨r0, r1, r2, r3, r4⟩ := five_cells HR1.out
      obtain ⟨f0, f1, f2, f3, f4⟩ := five_free HR1.out
      have hl1 : w.heap.size + 1 < w1.heap.size := (Array.getElem?_eq_some_iff.1 HR1.out).1
      clear b1
      go_wp2_with fail
      have h5 := putT_self HR1.out (.int .u8 0) (.int .i64 0) (.string ⟨#[]⟩) (.slice none 0 0) (.slice none 0 0)
      have b5 := putT_below HB1.out (by omega : w.heap.size ≤ w.heap.size + 1) (.int .u8 0) (.int .i64 0) (.string ⟨#[]⟩) (.slice none 0 0) (.slice none 0 0)
      have r5 := putT_ran w1 (w.heap.size + 1) (.int .u8 0) (.int .i64 0) (.string ⟨#[]⟩) (.slice none 0 0) (.slice none 0 0)
      unfold putT at h5 b5 r5
      generalize hW : (((((w1.setCell ⟨w.heap.size + 1, 0, none⟩ (.int .u8 0)).setCell ⟨w.heap.size + 1, 1, none⟩ (.int .i64 0)).setCell ⟨w.heap.size + 1, 2, none⟩ (.string ⟨#[]⟩)).setCell ⟨w.heap.size + 1, 3, none⟩ (.slice none 0 0)).setCell ⟨w.heap.size + 1, 4, none⟩ (.slice none 0 0)) = W4 at h5 b5 r5 ⊢
      obtain ⟨e0, e1, e2, e3, e4⟩ := five_cells h5
      clear hW
      exact bodyPost_ret (v := .tuple #[zeroT.val ⟨none, 0, none, 0⟩, .int .i64 1]) (by simp [results, Try.results34, go_sem, e0, e1, e2, e3, e4, zeroT, Tm.val, Tm.vals, Tm.k, Tm.n, Tm.s, Tm.ls, Tm.ts, no]) rfl ⟨⟨none, 0, none, 0⟩, rfl, leaf_in (by decide) (by decide) (by decide) (by decide) (by decide), b5⟩
    · have d1 : decide (fr < 0) = false := by simpa using hfr
      have hnn : ¬ (t.may = false ∨ fr < 0) := by rw [hm]; simp; omega
      have HL := Lib.hid (fun (W : World) (hW : Below w.heap.size w W) => RefLift_any by_ hb0 hb1 fr (by omega) hfr1 w.heap.size t h 1 0 fr W (OkMay.start hm) (Int.le_refl _) (by decide) (by omega) (Tm.In.below hW _ _ HIN.out) hW.size)
      by_cases hby : by_ < 0
      · have d2 : decide (by_ < 0) = true := by simpa using hby
        have hws : IntKind.i64.wrap (fr - by_) = fr - by_ := IntWalk.i64_in _ (by omega)
        have HT := Lib.hid (fun (W : World) (hW : Below w.heap.size w W) => between_any fr (fr - by_) (by omega) hfr1 (by omega) (by omega) t h 1 0 fr (fr - by_) W (OkMay.start hm) (Int.le_refl _) (by decide) (by omega) (by omega) (carry HIN.out hW))
        cases hs : (t.vps 0).any (isBt fr (fr - by_))
        · rw [hs] at HT
          rw [show liftsB t fr by_ = (t.put (gLift fr by_) 0, 0) by unfold liftsB; rw [if_neg hnn, if_neg (by rw [hs]; simp)]]
          generalize t.put (gLift fr by_) 0 = y at HL ⊢
          unfold Tm.val at HM HL HT ⊢
          dsimp only [Tm.vals] at HM HL HT ⊢
          clear hm HIN hfr hnn hby hs
          go_enter Try.func34, Try.ntmps34
          go_wp2_with fail
          refine (HM.out _ HB0.out).mono ?_
          rintro x w1 ⟨rfl, b1⟩
          have HB1 := Lib.hid (Trm.go HB0.out b1)
          have HX1 := Lib.hid (Lvl.keep b1 HX0.out)
          have HR1 := Lib.hid (Lvl.keep b1 HR0.out)
          obtain ⟨x0, x1, x2, x3, x4⟩ := five_cells HX1.out
          obtain ⟨r0, r1, r2, r3, r4⟩ := five_cells HR1.out
          obtain ⟨f0, f1, f2, f3, f4⟩ := five_free HR1.out
          have hl1 : w.heap.size + 1 < w1.heap.size := (Array.getElem?_eq_some_iff.1 HR1.out).1
          clear b1
          go_wp2_with fail
          refine (HT.out _ HB1.out).mono ?_
          rintro x w2 ⟨rfl, b2⟩
          have HB2 := Lib.hid (Trm.go HB1.out b2)
          have HX2 := Lib.hid (Lvl.keep b2 HX1.out)
          have HR2 := Lib.hid (Lvl.keep b2 HR1.out)
          obtain ⟨x0, x1, x2, x3, x4⟩ := five_cells HX2.out
          obtain ⟨r0, r1, r2, r3, r4⟩ := five_cells HR2.out
          obtain ⟨f0, f1, f2, f3, f4⟩ := five_free HR2.out
          have hl2 : w.heap.size + 1 < w2.heap.size := (Array.getElem?_eq_some_iff.1 HR2.out).1
          clear b2
          go_wp2_with fail
          refine (HL.out _ HB2.out).mono ?_
          rintro x w3 ⟨hy, rfl, fY, b3⟩
          have HB3 := Lib.hid (Trm.go HB2.out b3)
          have HX3 := Lib.hid (Lvl.keep b3 HX2.out)
          have HR3 := Lib.hid (Lvl.keep b3 HR2.out)
          have HFY := Lib.hid fY
          have hz3 := b3.size
          obtain ⟨x0, x1, x2, x3, x4⟩ := five_cells HX3.out
          obtain ⟨r0, r1, r2, r3, r4⟩ := five_cells HR3.out
          obtain ⟨f0, f1, f2, f3, f4⟩ := five_free HR3.out
          have hl3 : w.heap.size + 1 < w3.heap.size := (Array.getElem?_eq_some_iff.1 HR3.out).1
          have hl2 : w.heap.size + 1 < w2.heap.size := (Array.getElem?_eq_some_iff.1 HR2.out).1
          clear b3 fY
          dsimp only [Tm.val, Tm.vals]
          go_wp2_with fail
          have h5 := putT_self HR3.out (.int .u8 y.k) (.int .i64 y.n) (.string y.s) (.slice hy.lo y.ls.length hy.lc) (.slice hy.to y.ts.length hy.tc)
          have b5 := putT_below HB3.out (by omega : w.heap.size ≤ w.heap.size + 1) (.int .u8 y.k) (.int .i64 y.n) (.string y.s) (.slice hy.lo y.ls.length hy.lc) (.slice hy.to y.ts.length hy.tc)
          have r5 := putT_ran w3 (w.heap.size + 1) (.int .u8 y.k) (.int .i64 y.n) (.string y.s) (.slice hy.lo y.ls.length hy.lc) (.slice hy.to y.ts.length hy.tc)
          unfold putT at h5 b5 r5
          generalize hW : (((((w3.setCell ⟨w.heap.size + 1, 0, none⟩ (.int .u8 y.k)).setCell ⟨w.heap.size + 1, 1, none⟩ (.int .i64 y.n)).setCell ⟨w.heap.size + 1, 2, none⟩ (.string y.s)).setCell ⟨w.heap.size + 1, 3, none⟩ (.slice hy.lo y.ls.length hy.lc)).setCell ⟨w.heap.size + 1, 4, none⟩ (.slice hy.to y.ts.length hy.tc)) = W4 at h5 b5 r5 ⊢
          obtain ⟨e0, e1, e2, e3, e4⟩ := five_cells h5
          clear hW
          exact bodyPost_ret (v := .tuple #[y.val hy, .int .i64 0]) (by simp [results, Try.results34, go_sem, e0, e1, e2, e3, e4, Tm.val, Tm.vals]) rfl ⟨hy, rfl, (HFY.out.step (RanS.of_ran r5 ⟨by omega, by omega⟩)).here, b5⟩
        · rw [hs] at HT
          rw [show liftsB t fr by_ = (zeroT, 7) by unfold liftsB; rw [if_neg hnn, if_pos ⟨hby, hs⟩]]
          unfold Tm.val at HM HT ⊢
          dsimp only [Tm.vals] at HM HT ⊢
          clear hm HIN hfr hnn hby hs HL
          go_enter Try.func34, Try.ntmps34
          go_wp2_with fail
          refine (HM.out _ HB0.out).mono ?_
          rintro x w1 ⟨rfl, b1⟩
          have HB1 := Lib.hid (Trm.go HB0.out b1)
          have HX1 := Lib.hid (Lvl.keep b1 HX0.out)
          have HR1 := Lib.hid (Lvl.keep b1 HR0.out)
          obtain ⟨x0, x1, x2, x3, x4⟩ := five_cells HX1.out
          obtain ⟨r0, r1, r2, r3, r4⟩ := five_cells HR1.out
          obtain ⟨f0, f1, f2, f3, f4⟩ := five_free HR1.out
          have hl1 : w.heap.size + 1 < w1.heap.size := (Array.getElem?_eq_some_iff.1 HR1.out).1
          clear b1
          go_wp2_with fail
          refine (HT.out _ HB1.out).mono ?_
          rintro x w2 ⟨rfl, b2⟩
          have HB2 := Lib.hid (Trm.go HB1.out b2)
          have HX2 := Lib.hid (Lvl.keep b2 HX1.out)
          have HR2 := Lib.hid (Lvl.keep b2 HR1.out)
          obtain ⟨x0, x1, x2, x3, x4⟩ := five_cells HX2.out
          obtain ⟨r0, r1, r2, r3, r4⟩ := five_cells HR2.out
          obtain ⟨f0, f1, f2, f3, f4⟩ := five_free HR2.out
          have hl2 : w.heap.size + 1 < w2.heap.size := (Array.getElem?_eq_some_iff.1 HR2.out).1
          clear b2
          go_wp2_with fail
          have h5 := putT_self HR2.out (.int .u8 0) (.int .i64 0) (.string ⟨#[]⟩) (.slice none 0 0) (.slice none 0 0)
          have b5 := putT_below HB2.out (by omega : w.heap.size ≤ w.heap.size + 1) (.int .u8 0) (.int .i64 0) (.string ⟨#[]⟩) (.slice none 0 0) (.slice none 0 0)
          have r5 := putT_ran w2 (w.heap.size + 1) (.int .u8 0) (.int .i64 0) (.string ⟨#[]⟩) (.slice none 0 0) (.slice none 0 0)
          unfold putT at h5 b5 r5
          generalize hW : (((((w2.setCell ⟨w.heap.size + 1, 0, none⟩ (.int .u8 0)).setCell ⟨w.heap.size + 1, 1, none⟩ (.int .i64 0)).setCell ⟨w.heap.size + 1, 2, none⟩ (.string ⟨#[]⟩)).setCell ⟨w.heap.size + 1, 3, none⟩ (.slice none 0 0)).setCell ⟨w.heap.size + 1, 4, none⟩ (.slice none 0 0)) = W4 at h5 b5 r5 ⊢
          obtain ⟨e0, e1, e2, e3, e4⟩ := five_cells h5
          clear hW
          exact bodyPost_ret (v := .tuple #[zeroT.val ⟨none, 0, none, 0⟩, .int .i64 7]) (by simp [results, Try.results34, go_sem, e0, e1, e2, e3, e4, zeroT, Tm.val, Tm.vals, Tm.k, Tm.n, Tm.s, Tm.ls, Tm.ts, no]) rfl ⟨⟨none, 0, none, 0⟩, rfl, leaf_in (by decide) (by decide) (by decide) (by decide) (by decide), b5⟩
      · have d2 : decide (by_ < 0) = false := by simpa using hby
        rw [show liftsB t fr by_ = (t.put (gLift fr by_) 0, 0) by unfold liftsB; rw [if_neg hnn, if_neg (fun hh => hby hh.1)]]
        generalize t.put (gLift fr by_) 0 = y at HL ⊢
        unfold Tm.val at HM HL ⊢
        dsimp only [Tm.vals] at HM HL ⊢
        clear hm HIN hfr hnn hby
        go_enter Try.func34, Try.ntmps34
        go_wp2_with fail
        refine (HM.out _ HB0.out).mono ?_
        rintro x w1 ⟨rfl, b1⟩
        have HB1 := Lib.hid (Trm.go HB0.out b1)
        have HX1 := Lib.hid (Lvl.keep b1 HX0.out)
        have HR1 := Lib.hid (Lvl.keep b1 HR0.out)
        obtain ⟨x0, x1, x2, x3, x4⟩ := five_cells HX1.out
        obtain ⟨r0, r1, r2, r3, r4⟩ := five_cells HR1.out
        obtain ⟨f0, f1, f2, f3, f4⟩ := five_free HR1.out
        have hl1 : w.heap.size + 1 < w1.heap.size := (Array.getElem?_eq_some_iff.1 HR1.out).1
        clear b1
        go_wp2_with fail
        refine (HL.out _ HB1.out).mono ?_
        rintro x w2 ⟨hy, rfl, fY, b2⟩
        have HB2 := Lib.hid (Trm.go HB1.out b2)
        have HX2 := Lib.hid (Lvl.keep b2 HX1.out)
        have HR2 := Lib.hid (Lvl.keep b2 HR1.out)
        have HFY := Lib.hid fY
        have hz2 := b2.size
        obtain ⟨x0, x1, x2, x3, x4⟩ := five_cells HX2.out
        obtain ⟨r0, r1, r2, r3, r4⟩ := five_cells HR2.out
        obtain ⟨f0, f1, f2, f3, f4⟩ := five_free HR2.out
        have hl2 : w.heap.size + 1 < w2.heap.size := (Array.getElem?_eq_some_iff.1 HR2.out).1
        have hl1 : w.heap.size + 1 < w1.heap.size := (Array.getElem?_eq_some_iff.1 HR1.out).1
        clear b2 fY
        dsimp only [Tm.val, Tm.vals]
        go_wp2_with fail
        have h5 := putT_self HR2.out (.int .u8 y.k) (.int .i64 y.n) (.string y.s) (.slice hy.lo y.ls.length hy.lc) (.slice hy.to y.ts.length hy.tc)
        have b5 := putT_below HB2.out (by omega : w.heap.size ≤ w.heap.size + 1) (.int .u8 y.k) (.int .i64 y.n) (.string y.s) (.slice hy.lo y.ls.length hy.lc) (.slice hy.to y.ts.length hy.tc)
        have r5 := putT_ran w2 (w.heap.size + 1) (.int .u8 y.k) (.int .i64 y.n) (.string y.s) (.slice hy.lo y.ls.length hy.lc) (.slice hy.to y.ts.length hy.tc)
        unfold putT at h5 b5 r5
        generalize hW : (((((w2.setCell ⟨w.heap.size + 1, 0, none⟩ (.int .u8 y.k)).setCell ⟨w.heap.size + 1, 1, none⟩ (.int .i64 y.n)).setCell ⟨w.heap.size + 1, 2, none⟩ (.string y.s)).setCell ⟨w.heap.size + 1, 3, none⟩ (.slice hy.lo y.ls.length hy.lc)).setCell ⟨w.heap.size + 1, 4, none⟩ (.slice hy.to y.ts.length hy.tc)) = W4 at h5 b5 r5 ⊢
        obtain ⟨e0, e1, e2, e3, e4⟩ := five_cells h5
        clear hW
        exact bodyPost_ret (v := .tuple #[y.val hy, .int .i64 0]) (by simp [results, Try.results34, go_sem, e0, e1, e2, e3, e4, Tm.val, Tm.vals]) rfl ⟨hy, rfl, (HFY.out.step (RanS.of_ran r5 ⟨by omega, by omega⟩)).here, b5⟩
end Go.Proofs.Ytijdlihodpodjaa

/-
  battenlaw04.told.
-/
namespace Go.Proofs.Ytijdlihodpodjaa
open Go.RowKit Go.Shelf Lvl Trm

namespace Trm
/-- The error that is asked for: what is too great is ErrMany. -/
def firstE (b : Tm) (f : Int) : Int := if f = 0 ∧ (b.deep = true ∨ b.may = false) then 4 else f
/-- Is what is answered what is wanted? -/
noncomputable def toldB (a : Tm) (e : Int) (b : Tm) (f : Int) : Bool := if firstE b f = 0 then e == 0 && same a b else e == firstE b f && same a zeroT
end Trm

set_option maxRecDepth 100000 in
set_option maxHeartbeats 4000000 in
theorem told_any (a b : Tm) (ha hb : Hd) (e f : Int) (w : World) (hia : a.In w.heap.size w ha) (hib : b.In w.heap.size w hb) :
    Calls Try.prog 37 #[a.val ha, .int .i64 e, b.val hb, .int .i64 f] w fun x w' => x = .returned (.bool (toldB a e b f)) ∧ Below w.heap.size w w' := by
  have HD := Lib.hid (fun (W : World) (hW : Below w.heap.size w W) => Deep_any b hb W (carry hib hW))
  have HM := Lib.hid (fun (W : World) (hW : Below w.heap.size w W) => RefTMay_any b hb W (carry hib hW))
  have HS := Lib.hid (fun (W : World) (hW : Below w.heap.size w W) => RefSame_any a b ha hb W (carry hia hW) (carry hib hW))
  have HZ := Lib.hid (fun (W : World) (hW : Below w.heap.size w W) => (show Calls Try.prog 18 #[a.val ha, .agg #[.int .u8 0, .int .i64 0, .string ⟨#[]⟩, .slice none 0 0, .slice none 0 0]] W fun x w' => x = .returned (.bool (same a zeroT)) ∧ Below W.heap.size W w' from RefSame_any a zeroT ha ⟨none, 0, none, 0⟩ W (carry hia hW) (leaf_in (by decide) (by decide) (by decide) (by decide) (by decide))))
  have HB0 := Lib.hid (below_two w (a.box ha) (b.box hb))
  have HA0 := Lib.hid (new1of2 w (a.box ha) (b.box hb))
  have HX0 := Lib.hid (new2 w (a.box ha) (b.box hb))
  obtain ⟨G, hG⟩ : ∃ G, G = toldB a e b f := ⟨_, rfl⟩
  rw [← hG]
  generalize hs1 : same a b = S1 at HS
  generalize hs2 : same a zeroT = S2 at HZ
  unfold toldB firstE at hG
  rw [hs1, hs2] at hG
  have HG := Lib.hid hG
  unfold Tm.val at HD HM HS HZ ⊢
  dsimp only [Tm.vals] at HD HM HS HZ ⊢
  clear hia hib hG hs1 hs2
  unfold Tm.box at HA0 HX0 HB0
  dsimp only [Tm.vals] at HA0 HX0 HB0
  by_cases hf : f = 0
  · subst hf
    cases hd : b.deep
    · rw [hd] at HD HG
      cases hm : b.may
      · rw [hm] at HM HG
        go_enter Try.func37, Try.ntmps37
        go_wp2_with fail
        refine (HD.out _ HB0.out).mono ?_
        rintro x w1 ⟨rfl, b1⟩
        have HB1 := Lib.hid (Trm.go HB0.out b1)
        obtain ⟨a0, a1, a2, a3, a4⟩ := five_cells (Lvl.keep b1 (HA0.out))
        obtain ⟨x0, x1, x2, x3, x4⟩ := five_cells (Lvl.keep b1 (HX0.out))
        have HA1 := Lib.hid (Lvl.keep b1 HA0.out)
        have HX1 := Lib.hid (Lvl.keep b1 HX0.out)
        clear b1
        go_wp2_with fail
        refine (HM.out _ HB1.out).mono ?_
        rintro x w2 ⟨rfl, b2⟩
        have HB2 := Lib.hid (Trm.go HB1.out b2)
        obtain ⟨a0, a1, a2, a3, a4⟩ := five_cells (Lvl.keep b2 (HA1.out))
        obtain ⟨x0, x1, x2, x3, x4⟩ := five_cells (Lvl.keep b2 (HX1.out))
        have HA2 := Lib.hid (Lvl.keep b2 HA1.out)
        have HX2 := Lib.hid (Lvl.keep b2 HX1.out)
        clear b2
        by_cases he : e = 4
        · have d9 : (e == 4) = true := by simpa using he
          have HE : Hid (G = S2) := Lib.hid (by have h0 := HG.out; simp_all)
          clear he
          go_wp2_with fail
          refine (HZ.out _ HB2.out).mono ?_
          rintro x w9 ⟨rfl, b9⟩
          have HB9 := Lib.hid (Trm.go HB2.out b9)
          clear b9
          go_wp2_with fail
          go_ret
          exact ⟨ret_bool HE.out.symm, HB9.out⟩
        · have d9 : (e == 4) = false := by simpa using he
          have HE : Hid (G = false) := Lib.hid (by have h0 := HG.out; simp_all)
          clear he
          go_wp2_with fail
          go_ret
          exact ⟨ret_bool HE.out.symm, HB2.out⟩
      · rw [hm] at HM HG
        go_enter Try.func37, Try.ntmps37
        go_wp2_with fail
        refine (HD.out _ HB0.out).mono ?_
        rintro x w1 ⟨rfl, b1⟩
        have HB1 := Lib.hid (Trm.go HB0.out b1)
        obtain ⟨a0, a1, a2, a3, a4⟩ := five_cells (Lvl.keep b1 (HA0.out))
        obtain ⟨x0, x1, x2, x3, x4⟩ := five_cells (Lvl.keep b1 (HX0.out))
        have HA1 := Lib.hid (Lvl.keep b1 HA0.out)
        have HX1 := Lib.hid (Lvl.keep b1 HX0.out)
        clear b1
        go_wp2_with fail
        refine (HM.out _ HB1.out).mono ?_
        rintro x w2 ⟨rfl, b2⟩
        have HB2 := Lib.hid (Trm.go HB1.out b2)
        obtain ⟨a0, a1, a2, a3, a4⟩ := five_cells (Lvl.keep b2 (HA1.out))
        obtain ⟨x0, x1, x2, x3, x4⟩ := five_cells (Lvl.keep b2 (HX1.out))
        have HA2 := Lib.hid (Lvl.keep b2 HA1.out)
        have HX2 := Lib.hid (Lvl.keep b2 HX1.out)
        clear b2
        by_cases he : e = 0
        · have d9 : (e == 0) = true := by simpa using he
          have HE : Hid (G = S1) := Lib.hid (by have h0 := HG.out; simp_all)
          clear he
          go_wp2_with fail
          refine (HS.out _ HB2.out).mono ?_
          rintro x w9 ⟨rfl, b9⟩
          have HB9 := Lib.hid (Trm.go HB2.out b9)
          clear b9
          go_wp2_with fail
          go_ret
          exact ⟨ret_bool HE.out.symm, HB9.out⟩
        · have d9 : (e == 0) = false := by simpa using he
          have HE : Hid (G = false) := Lib.hid (by have h0 := HG.out; simp_all)
          clear he
          go_wp2_with fail
          go_ret
          exact ⟨ret_bool HE.out.symm, HB2.out⟩
    · rw [hd] at HD HG
      go_enter Try.func37, Try.ntmps37
      go_wp2_with fail
      refine (HD.out _ HB0.out).mono ?_
      rintro x w1 ⟨rfl, b1⟩
      have HB1 := Lib.hid (Trm.go HB0.out b1)
      obtain ⟨a0, a1, a2, a3, a4⟩ := five_cells (Lvl.keep b1 (HA0.out))
      obtain ⟨x0, x1, x2, x3, x4⟩ := five_cells (Lvl.keep b1 (HX0.out))
      have HA1 := Lib.hid (Lvl.keep b1 HA0.out)
      have HX1 := Lib.hid (Lvl.keep b1 HX0.out)
      clear b1
      by_cases he : e = 4
      · have d9 : (e == 4) = true := by simpa using he
        have HE : Hid (G = S2) := Lib.hid (by have h0 := HG.out; simp_all)
        clear he
        go_wp2_with fail
        refine (HZ.out _ HB1.out).mono ?_
        rintro x w9 ⟨rfl, b9⟩
        have HB9 := Lib.hid (Trm.go HB1.out b9)
        clear b9
        go_wp2_with fail
        go_ret
        exact ⟨ret_bool HE.out.symm, HB9.out⟩
      · have d9 : (e == 4) = false := by simpa using he
        have HE : Hid (G = false) := Lib.hid (by have h0 := HG.out; simp_all)
        clear he
        go_wp2_with fail
        go_ret
        exact ⟨ret_bool HE.out.symm, HB1.out⟩
  · have d1 : (f == 0) = false := by simpa using hf
    have HF := Lib.hid hf
    have HG2 : Hid (G = (e == f && S2)) := Lib.hid (by have h0 := HG.out; simp_all)
    clear hf HG
    have HG := HG2
    go_enter Try.func37, Try.ntmps37
    by_cases he : e = f
    · have d9 : (e == f) = true := by simpa using he
      have HE : Hid (G = S2) := Lib.hid (by have h0 := HG.out; simp_all)
      clear he
      go_wp2_with fail
      refine (HZ.out _ HB0.out).mono ?_
      rintro x w9 ⟨rfl, b9⟩
      have HB9 := Lib.hid (Trm.go HB0.out b9)
      clear b9
      go_wp2_with fail
      go_ret
      exact ⟨ret_bool HE.out.symm, HB9.out⟩
    · have d9 : (e == f) = false := by simpa using he
      have HE : Hid (G = false) := Lib.hid (by have h0 := HG.out; simp_all)
      clear he
      go_wp2_with fail
      go_ret
      exact ⟨ret_bool HE.out.symm, HB0.out⟩
end Go.Proofs.Ytijdlihodpodjaa

/-
  The mathematics of SubstLifts: what Lift and Close answer is what is asked for.
-/
namespace Go.Proofs.Ytijdlihodpodjaa
open Lvl Trm

namespace Trm
theorem told_may {y : Tm} (h : y.may = true) : toldB y 0 y 0 = true := by
  have h1 : firstE y 0 = 0 := by unfold firstE; rw [if_neg]; rintro ⟨_, h2 | h2⟩; rw [may_not_deep h] at h2; cases h2; rw [h] at h2; cases h2
  unfold toldB
  rw [if_pos h1, same_iff.2 rfl]
  rfl
theorem told_great {y : Tm} (h : y.may = false) : toldB zeroT 4 y 0 = true := by
  have h1 : firstE y 0 = 4 := by unfold firstE; rw [if_pos ⟨rfl, Or.inr h⟩]
  unfold toldB
  rw [if_neg (by rw [h1]; decide), h1, same_iff.2 rfl]
  rfl
theorem told_err {e : Int} {z : Tm} (h : e ≠ 0) : toldB zeroT e z e = true := by
  have h1 : firstE z e = e := by unfold firstE; rw [if_neg (fun hh => h hh.1)]
  unfold toldB
  rw [if_neg (by rw [h1]; exact h), h1, same_iff.2 rfl]
  simp
/-- What is put, or too great. -/
theorem told_put {y : Tm} : toldB (if y.may = true then (y, (0 : Int)) else (zeroT, 4)).1 (if y.may = true then (y, (0 : Int)) else (zeroT, 4)).2 y 0 = true := by
  cases h : y.may
  · rw [if_neg (by simp)]; exact told_great h
  · rw [if_pos rfl]; exact told_may h

theorem gLift_eq (fr by_ v u : Int) : gLift fr by_ v u = tV ((if v < fr then v else v + by_) + u) := rfl
/-- A term in which a variable has a number that none may have may not be. -/
theorem left_far {g : Int → Int → Tm} (hg : ∀ v u, badMay (g v u) = true ∨ g v u = tV (v + u)) : ∀ (t : Tm) (u d l e : Int), OkMay t d → 0 ≤ (t.put g u).left badMay l e → ∀ p ∈ t.vps u, g p.1 p.2 = tV (p.1 + p.2) := by
  intro t
  induction t using Tm.ind with
  | h t ih =>
    intro u d l e ho h p hp
    by_cases h2 : t.k = 2
    · have hv := node_var ho.node.1 h2
      obtain ⟨n, rfl⟩ : ∃ n, t = tV n := ⟨_, hv⟩
      rw [vps_tV] at hp
      split at hp
      · rename_i hu
        simp at hp
        subst hp
        rcases hg (n - u) u with hb | hb
        · exfalso
          have e1 : (tV n).put g u = g (n - u) u := by unfold tV; rw [Tm.put, if_pos ⟨rfl, hu⟩]
          rw [e1, Tm.left_eq, if_pos (Or.inr (Or.inr hb))] at h
          omega
        · exact hb
      · cases hp
    · rw [vps_node h2] at hp
      rw [put_node g u h2, Tm.left] at h
      split at h
      · omega
      · have key : ∀ (ts : List Tm) (i : Nat) (u l e : Int), (∀ x ∈ ts, x ∈ t.ts) → 0 ≤ leftL badMay (putL g t.k ts i u) l e → ∀ p ∈ vpsL t.k ts i u, g p.1 p.2 = tV (p.1 + p.2) := by
          intro ts
          induction ts with
          | nil => intro i u l e _ _ p hp; rw [vpsL] at hp; cases hp
          | cons x r ihr =>
            intro i u l e hm h p hp
            rw [vpsL] at hp
            rw [putL, leftL] at h
            split at h
            · omega
            · rcases List.mem_append.1 hp with hp | hp
              · exact ih x (hm x (by simp)) _ (d + 1) l e (ho.down x (hm x (by simp))) (by omega) p hp
              · exact ihr (i + 1) _ _ e (fun y hy => hm y (by simp [hy])) h p hp
        exact key t.ts 0 u _ _ (fun x hx => hx) h p hp
theorem bad_tV {n : Int} (h : 1048576 < n) : badMay (tV n) = true := by
  unfold badMay
  cases hn : (tV n).node
  · rfl
  · have h1 : n ≤ 1048576 := (node_num hn).2
    omega

/-- Beyond 2^21 it is the same how many there are: no such variable may be. -/
theorem lift_far' {t : Tm} (hmay : t.may = true) {fr by_ : Int} (by' : Int) (hby : 2097152 ≤ by_) (h : (t.put (gLift fr by_) 0).may = true) : t.put (gLift fr by') 0 = t.put (gLift fr by_) 0 := by
  have hp := vps_bound t 0 1 (by omega) (by omega) (OkMay.start hmay)
  have h0 : 0 ≤ (t.put (gLift fr by_) 0).left badMay 65536 4096 := may_left.1 h
  refine put_congr t 0 (fun p hpp => ?_)
  have h2 : t.put (gLift fr by_) 0 = t.put (fun v u => if v < 0 ∨ u < 0 then tV (v + u) else gLift fr by_ v u) 0 := put_congr t 0 (fun p hpp => by
    have := hp p hpp
    rw [if_neg (by omega)])
  rw [h2] at h0
  have hk := left_far (g := fun v u => if v < 0 ∨ u < 0 then tV (v + u) else gLift fr by_ v u) (fun v u => by
    by_cases hn : v < 0 ∨ u < 0
    · exact Or.inr (if_pos hn)
    · rw [if_neg hn]
      by_cases hv : v < fr
      · right; rw [gLift_eq, if_pos hv]
      · left
        rw [gLift_eq, if_neg hv]
        exact bad_tV (by omega)) t 0 1 _ _ (OkMay.start hmay) h0 p hpp
  have hb := hp p hpp
  rw [if_neg (by omega)] at hk
  rw [gLift_eq] at hk
  rw [gLift_eq, gLift_eq]
  by_cases hv : p.1 < fr
  · rw [if_pos hv, if_pos hv]
  · rw [if_neg hv] at hk
    unfold tV at hk
    injection hk with _ hk2
    omega

theorem sinks_bt (t : Tm) (fr by_ : Int) : t.sinks fr by_ = (t.vps 0).any (isBt fr (fr - by_)) := by
  unfold Tm.sinks
  congr 1
  funext p
  unfold isBt
  rw [Bool.eq_iff_iff]
  simp
  omega
theorem sinks_up {t : Tm} {fr by_ : Int} (h : 0 ≤ by_) : t.sinks fr by_ = false := by
  unfold Tm.sinks
  rw [List.any_eq_false]
  intro p _
  simp
  omega

/-- Lift is the document's. -/
theorem lifts_told (t : Tm) (fr by_ : Int) : toldB (liftAns t fr by_).1 (liftAns t fr by_).2 (liftsB t fr by_).1 (liftsB t fr by_).2 = true := by
  unfold liftAns liftsB
  by_cases h1 : fr < 0 ∨ t.may = false
  · rw [if_pos h1, if_pos (Or.comm.1 h1)]
    exact told_err (by decide)
  · have h1' : ¬ (t.may = false ∨ fr < 0) := fun hh => h1 (Or.comm.1 hh)
    rw [if_neg h1, if_neg h1']
    have hmay : t.may = true := by cases h : t.may with | true => rfl | false => exact absurd (Or.inr h) h1
    have hfr : 0 ≤ fr := Int.not_lt.1 (fun hh => h1 (Or.inl hh))
    by_cases hby : by_ < 0
    · rw [show min by_ 2097152 = by_ by omega, sinks_bt]
      by_cases hs : (t.vps 0).any (isBt fr (fr - by_)) = true
      · rw [if_pos hs, if_pos ⟨hby, hs⟩]
        exact told_err (by decide)
      · rw [if_neg hs, if_neg (fun hh : by_ < 0 ∧ _ => hs hh.2)]
        exact told_put
    · rw [if_neg (fun hh : by_ < 0 ∧ _ => hby hh.1)]
      rw [sinks_up (by omega), if_neg (by simp)]
      by_cases hbig : by_ ≤ 2097152
      · rw [show min by_ 2097152 = by_ by omega]
        exact told_put
      · rw [show min by_ 2097152 = 2097152 by omega]
        cases hm : (t.put (gLift fr by_) 0).may
        · have hm2 : (t.put (gLift fr 2097152) 0).may = false := by
            cases hm2 : (t.put (gLift fr 2097152) 0).may
            · rfl
            · rw [lift_far' hmay by_ (by omega : (2097152 : Int) ≤ 2097152) hm2] at hm
              rw [hm2] at hm; cases hm
          rw [hm2, if_neg (by simp)]
          exact told_great hm
        · rw [lift_far' hmay 2097152 (by omega : 2097152 ≤ by_) hm, hm, if_pos rfl]
          exact told_may hm

/-- What the document's Close answers, and its error. -/
def closeB (t : Tm) (q : Int) : Tm × Int := if t.may = false ∨ q < 0 then (zeroT, 1) else (t.put (gClose (min q 2097152)) 0, 0)
/-- Close is the document's. -/
theorem close_told (t : Tm) (q : Int) : toldB (closeAns t q).1 (closeAns t q).2 (closeB t q).1 (closeB t q).2 = true := by
  unfold closeAns closeB
  by_cases h1 : q < 0 ∨ t.may = false
  · rw [if_pos h1, if_pos (Or.comm.1 h1)]
    exact told_err (by decide)
  · have h1' : ¬ (t.may = false ∨ q < 0) := fun hh => h1 (Or.comm.1 hh)
    rw [if_neg h1, if_neg h1']
    have hmay : t.may = true := by cases h : t.may with | true => rfl | false => exact absurd (Or.inr h) h1
    have hp := vps_bound t 0 1 (by omega) (by omega) (OkMay.start hmay)
    have e : t.put (gClose q) 0 = t.put (gClose (min q 2097152)) 0 := put_congr t 0 (fun p hpp => by
      have := hp p hpp
      unfold gClose ren
      dsimp only
      congr 1
      by_cases hbig : q ≤ 2097152
      · rw [show min q 2097152 = q by omega]
      · rw [show min q 2097152 = 2097152 by omega, if_pos (by omega), if_pos (by omega)])
    rw [e]
    exact told_put
end Trm
end Go.Proofs.Ytijdlihodpodjaa

/-
  battenref04.Close, of a term that may be.
-/
namespace Go.Proofs.Ytijdlihodpodjaa
open Go.RowKit Go.Shelf Lvl Trm

namespace Trm
theorem put_close_var (q n u : Int) (hq : 0 ≤ q) : (tV n).put (gClose q) u = tV (if n = q + u then u else if u ≤ n ∧ n < q + u then n + 1 else n) := by
  unfold tV
  rw [Tm.put]
  by_cases h1 : u ≤ n
  · rw [if_pos ⟨rfl, h1⟩]
    unfold gClose ren tV
    congr 1
    by_cases h2 : n = q + u
    · rw [if_pos h2]; show (if n - u < q then n - u + 1 else if n - u = q then 0 else n - u) + u = _; rw [if_neg (by omega), if_pos (by omega)]; omega
    · rw [if_neg h2]
      show (if n - u < q then n - u + 1 else if n - u = q then 0 else n - u) + u = _
      by_cases h3 : n < q + u
      · rw [if_pos (by omega), if_pos ⟨h1, h3⟩]; omega
      · rw [if_neg (by omega), if_neg (by omega), if_neg (fun hh => h3 hh.2)]; omega
  · rw [if_neg (fun hh => h1 hh.2), putL, if_neg (by omega), if_neg (fun hh => h1 hh.1)]
end Trm

set_option maxRecDepth 100000 in
set_option maxHeartbeats 8000000 in
theorem RefClose_any (q : Int) (hc0 : 0 ≤ q) (hc1 : q ≤ 2097152) (B : Nat) (t : Tm) : ∀ (h : Hd) (d u : Int) (w : World), OkMay t d → 0 ≤ u → u ≤ d → t.In B w h → B ≤ w.heap.size →
    Calls Try.prog 36 #[t.val h, .int .i64 q, .int .i64 u] w (RefPost B w (t.put (gClose q) u)) := by
  induction t using Tm.ind with
  | h t ih =>
    intro h d u w hok hu0 hud hin hBw
    have HIN := Lib.hid hin
    have HIH := Lib.hid ih
    have HOK := Lib.hid hok
    have hd1 := hok.node.2
    have hts := hin.fit.ts
    have hfew := (node_few hok.node.1).1
    have hf3 := (node_few hok.node.1).2.1
    by_cases h2 : t.k = 2
    · have hv := node_var hok.node.1 h2
      have hnum := node_num hok.node.1
      obtain ⟨n, rfl⟩ : ∃ n, t = tV n := ⟨_, hv⟩
      change 0 ≤ n ∧ n ≤ 1048576 at hnum
      rw [put_close_var q n u hc0]
      clear HIH HOK HIN ih hok hin hv h2 hfew hf3 hts
      show Calls Try.prog 36 #[.agg #[.int .u8 2, .int .i64 n, .string ⟨#[]⟩, .slice h.lo 0 h.lc, .slice h.to 0 h.tc], .int .i64 q, .int .i64 u] w _
      obtain ⟨Q, hQ⟩ : ∃ Q, Q = q + u := ⟨_, rfl⟩
      have hw0 : IntKind.i64.wrap (q + u) = Q := by rw [hQ]; exact IntWalk.i64_in _ (by omega)
      rw [← hQ]
      by_cases hge : n = Q
      · rw [if_pos hge]
        have hm : -9223372036854775808 ≤ u ∧ u ≤ 9223372036854775807 := by omega
        have d1 : (n == Q) = true := by simpa using hge
        clear hge hQ
        go_enter Try.func36, Try.ntmps36
        go_wp2_with fail
        exact bodyPost_ret (v := .agg #[.int .u8 2, .int .i64 (u), .string ⟨#[]⟩, .slice h.lo 0 h.lc, .slice h.to 0 h.tc]) (by simp [results, Try.results36, go_sem]) rfl ⟨h, rfl, firm_leaf (by decide) (by decide) hm.1 hm.2 (by decide), below_two _ _ _⟩
      · rw [if_neg hge]
        have d1 : (n == Q) = false := by simpa using hge
        by_cases h3 : u ≤ n
        · have d2 : decide (u ≤ n) = true := by simpa using h3
          by_cases h4 : n < Q
          · rw [if_pos ⟨h3, h4⟩]
            have d3 : decide (n < Q) = true := by simpa using h4
            have hw1 : IntKind.i64.wrap (n + 1) = n + 1 := IntWalk.i64_in _ (by omega)
            have hm : -9223372036854775808 ≤ n + 1 ∧ n + 1 ≤ 9223372036854775807 := by omega
            clear hge hQ h3 h4
            go_enter Try.func36, Try.ntmps36
            go_wp2_with fail
            exact bodyPost_ret (v := .agg #[.int .u8 2, .int .i64 (n + 1), .string ⟨#[]⟩, .slice h.lo 0 h.lc, .slice h.to 0 h.tc]) (by simp [results, Try.results36, go_sem]) rfl ⟨h, rfl, firm_leaf (by decide) (by decide) hm.1 hm.2 (by decide), below_two _ _ _⟩
          · rw [if_neg (fun hh => h4 hh.2)]
            have d3 : decide (n < Q) = false := by simpa using h4
            have hm : -9223372036854775808 ≤ n ∧ n ≤ 9223372036854775807 := by omega
            clear hge hQ h3 h4
            go_enter Try.func36, Try.ntmps36
            go_wp2_with fail
            exact bodyPost_ret (v := .agg #[.int .u8 2, .int .i64 (n), .string ⟨#[]⟩, .slice h.lo 0 h.lc, .slice h.to 0 h.tc]) (by simp [results, Try.results36, go_sem]) rfl ⟨h, rfl, firm_leaf (by decide) (by decide) hm.1 hm.2 (by decide), below_two _ _ _⟩
        · rw [if_neg (fun hh => h3 hh.1)]
          have d2 : decide (u ≤ n) = false := by simpa using h3
          have hm : -9223372036854775808 ≤ n ∧ n ≤ 9223372036854775807 := by omega
          clear hge hQ h3
          go_enter Try.func36, Try.ntmps36
          go_wp2_with fail
          exact bodyPost_ret (v := .agg #[.int .u8 2, .int .i64 (n), .string ⟨#[]⟩, .slice h.lo 0 h.lc, .slice h.to 0 h.tc]) (by simp [results, Try.results36, go_sem]) rfl ⟨h, rfl, firm_leaf (by decide) (by decide) hm.1 hm.2 (by decide), below_two _ _ _⟩
    · have hk2 : (t.k == 2) = false := by simpa using h2
      obtain ⟨Y, hY⟩ : ∃ Y, Y = t.put (gClose q) u := ⟨_, rfl⟩
      obtain ⟨R, hR⟩ : ∃ R, R = putL (gClose q) t.k t.ts 0 u := ⟨_, rfl⟩
      have HYR : Hid (Y = .mk t.k t.n t.s t.ls R) := Lib.hid (by rw [hY, hR]; exact put_node _ _ h2)
      have hRl : R.length = t.ts.length := by rw [hR]; exact putL_length _ _ _ _ _
      have HRJ : Hid (∀ j (hj : j < t.ts.length), R[j]? = some (t.ts[j].put (gClose q) (under t.k j u))) := Lib.hid (fun j hj => by
        subst hR
        rw [List.getElem?_eq_getElem (by rw [putL_length]; exact hj), putL_at _ _ _ _ _ (by omega) j hj, Nat.zero_add])
      rw [← hY]
      have HRL := Lib.hid hRl
      clear hY hR hRl ih hok hin
      obtain ⟨i0, hi, hz0, hz1, hz2⟩ := info_parts infoT
      unfold Tm.val Tm.vals
      go_enter Try.func36, Try.ntmps36
      go_wp2_with fail
      go_loopw [7, 8] (fun v i wr => RowRel B w (t.box h) R v i wr) (fun _ i _ => t.ts.length - (intOf i).toNat)
      case atStart => exact ⟨0, [], rfl, by omega, rfl, rfl, below_two _ _ _, new1of2 _ _ _, new2 _ _ _, ⟨rfl, Or.inl ⟨rfl, rfl⟩⟩, fun p hp => by simp at hp⟩
      case round =>
        obtain ⟨j, ps, rfl, hj, hpl, hmap, hbel, hbx, hbr, hown, hf⟩ := hrel
        have HMAP := Lib.hid hmap
        have HBEL := Lib.hid hbel
        have HBX := Lib.hid hbx
        have HBR := Lib.hid hbr
        have HOW := Lib.hid hown
        have HF := Lib.hid hf
        have HPL := Lib.hid hpl
        have hzr := hbel.size
        have hlt1 : w.heap.size + 1 < wr.heap.size := (Array.getElem?_eq_some_iff.1 hbr).1
        rw [HRL.out] at hj
        clear hmap hbel hbr hown hf
        obtain ⟨c0, c1, c2, c3, c4⟩ := Tm.cells hbx
        by_cases hlt : j < t.ts.length
        · obtain ⟨b, off, hao, hat⟩ := HIN.out.kid j hlt
          obtain ⟨hb, hd', hcx, hin'⟩ := hat.below (HBEL.out.mono hBw)
          rw [hao] at c4
          have HAO := Lib.hid hao
          have HI := Lib.hid hin'
          have hun := bnd_under (K := t.k) (i := j) u
          have hul := under_le t.k j u

          have HX := Lib.hid (fun (W : World) (hW : Below wr.heap.size wr W) => HIH.out _ (List.getElem_mem hlt) hd' (d + 1) (under t.k j u) W (HOK.out.down _ (List.getElem_mem hlt)) (by omega) (by omega) (Tm.In.below (hW.mono (by omega)) _ _ HI.out) (by have := hW.size; omega))
          have HB := Lib.hid (fun (W : World) => RefBinds_any t.k t.n t.s h.lo (some ⟨b, off, none⟩) t.ls.length h.lc t.ts.length h.tc j W)
          have hwr : IntKind.i64.wrap (u + bnd t.k j) = under t.k j u := by rw [hun]; exact IntWalk.i64_in _ (by omega)
          have hwr2 : IntKind.i64.wrap (under t.k j u) = under t.k j u := IntWalk.i64_in _ (by omega)
          have HCX := Lib.hid hcx
          obtain ⟨k0, k1, k2, k3, k4⟩ := hcx
          have HRX := Lib.hid (HRJ.out j hlt)
          clear hat hin' hao hbx hpl
          generalize hyq : t.ts[j].put (gClose q) (under t.k j u) = y at HX HRX
          generalize t.ts[j] = x at k0 k1 k2 k3 k4 HX HI HCX hyq
          unfold Tm.val Tm.vals at HX
          clear hyq
          have hbz : b < wr.heap.size := by omega
          have hbz2 : b < w.heap.size + 2 := by omega
          have five_pos : Hid (0 < 5) := Lib.hid (by decide)
          have hpm : ps.length ≤ 1000000 := by have := HPL.out; omega
          have hq1 : Hid (ps.length + 1 ≤ maxLen) := Lib.hid (by unfold maxLen; omega)
          have hq2 : Hid ((ps.length + 1) * 80 ≤ 140737488355328) := Lib.hid (by omega)
          have hq3 : Hid (w.heap.size + 2 ≤ wr.heap.size) := Lib.hid (by omega)
          have hone : ∀ hy : Hd, ∀ q ∈ (y.vals hy).toList, q.oneCell' = true := fun hy q hq => by
            simp [Tm.vals] at hq
            rcases hq with rfl | rfl | rfl | rfl | rfl <;> rfl
          have HF3 := Lib.hid hf3
          clear hun hul hfew hf3 hts hd1 hu0 hud hc0 hc1
          go_wp2_with fail
          go_region_held3 (fun w' => w'.cell? ⟨w.heap.size, 0, none⟩ = some (.int .u8 t.k) ∧ w'.cell? ⟨w.heap.size, 1, none⟩ = some (.int .i64 t.n) ∧ w'.cell? ⟨w.heap.size, 2, none⟩ = some (.string t.s) ∧ w'.cell? ⟨w.heap.size, 3, none⟩ = some (.slice h.lo t.ls.length h.lc) ∧ w'.cell? ⟨w.heap.size, 4, none⟩ = some (.slice (some ⟨b, off, none⟩) t.ts.length h.tc) ∧ w'.cell? ⟨b, off + j * 5, none⟩ = some (.int .u8 x.k) ∧ w'.cell? ⟨b, off + j * 5 + 1, none⟩ = some (.int .i64 x.n) ∧ w'.cell? ⟨b, off + j * 5 + 2, none⟩ = some (.string x.s) ∧ w'.cell? ⟨b, off + j * 5 + 3, none⟩ = some (.slice hd'.lo x.ls.length hd'.lc) ∧ w'.cell? ⟨b, off + j * 5 + 4, none⟩ = some (.slice hd'.to x.ts.length hd'.tc))
            (first
              | go_keep
              | (have hb6 := row_below HB4.out HOW.out hgrow hq3.out
                 obtain ⟨c0, c1, c2, c3, c4⟩ := five_cells (show w5.heap[w.heap.size]? = some (.cells #[_, _, _, _, _] 25) from (hb6.block _ (Nat.lt_succ_of_lt (Nat.lt_succ_self _))).trans HBX.out)
                 rw [HAO.out] at c4
                 obtain ⟨k0, k1, k2, k3, k4⟩ := HCX.out.below hb6 hbz2
                 exact ⟨c0, c1, c2, c3, c4, k0, k1, k2, k3, k4⟩))
            (first
              | (go_at_call 79; (with_reducible refine (HB.out _).mono ?_); rintro e w3 ⟨rfl, bw⟩; have HB3 := Lib.hid (show Below wr.heap.size wr w3 from Lvl.undrew bw); clear bw; obtain ⟨c0, c1, c2, c3, c4⟩ := Tm.cells (Lvl.keep HB3.out HBX.out); rw [HAO.out] at c4; obtain ⟨k0, k1, k2, k3, k4⟩ := HCX.out.below HB3.out hbz)
              | (go_at_call 36; (with_reducible refine (HX.out _ HB3.out).mono ?_); rintro e w4 ⟨hy, rfl, fY, bw⟩; have HB4 := Lib.hid (Trm.go HB3.out bw); have HFY := Lib.hid (show FirmS (fun q => B ≤ q ∧ q < wr.heap.size) w4 y hy from fY.less (fun q _ hq => ⟨hq.1, Nat.lt_of_lt_of_le hq.2 HB3.out.size⟩)); clear bw fY; have hz4 := HB4.out.size; obtain ⟨c0, c1, c2, c3, c4⟩ := Tm.cells (Lvl.keep HB4.out HBX.out); rw [HAO.out] at c4; obtain ⟨k0, k1, k2, k3, k4⟩ := HCX.out.below HB4.out hbz; dsimp only [Tm.val, Tm.vals])
              | ((refine step_append_lies _ (by rfl) _ _ _ (by rfl) (w.heap.size + 2) 25 i0 _ 5 80 Try.underlying23 hi hz0 hz1 hz2 rfl five_pos.out _ _ _ (by rfl) (own_below HOW.out (HB4.out.alloc HB4.out.size (.cells #[.int .u8 y.k, .int .i64 y.n, .string y.s, .slice hy.lo y.ls.length hy.lc, .slice hy.to y.ts.length hy.tc] 25))) ⟨w4.heap.size, 0, none⟩ 1 1 (y.vals hy).toList (by rfl) (by rfl) (World.news_of_block (cs := y.vals hy) (t := 25) (fr := (0, 0)) (World.alloc_heap_new w4 _)) (hone _) Nat.one_pos hq1.out hq2.out (by rw [World.size_alloc]; exact Nat.le_trans hq3.out (Nat.le_succ_of_le hz4)) (w4.heap.size + 1) (World.size_alloc _ _) ?_); intro g cap w5 hown5 hgrow hat5 hlt5))
          have hf3 := HF3.out
          go_wp2_with fail
          go_roundw
          case rel => exact RowRel.step HRL.out HRX.out hlt HPL.out HMAP.out HBEL.out HBX.out HBR.out HOW.out HF.out HB4.out HFY.out (by omega) (by omega) rfl hown5 hgrow hat5 (by clear hwr hwr2; go_num)
          case measure => clear hwr hwr2; simp [intOf]; omega
        · have hje : j = t.ts.length := by omega
          have hfit := HIN.out.fit
          have HLR := Lib.hid (LRow.low HIN.out.levels (Tm.In_iff.1 HIN.out).2.2.1 (HBEL.out.mono hBw))
          obtain ⟨to, tc, rfl, hfn⟩ := firm_node (P := fun q => B ≤ q ∧ q < w.heap.size + 2) (Q := fun q => B ≤ q ∧ (q < w.heap.size + 2 ∨ u7.ownBlock = some q)) (B := B) (k := t.k) (n := t.n) (s := t.s) (ls := t.ls) (lc := h.lc) HOW.out hfit.k0 hfit.k1 hfit.n0 hfit.n1 hfit.s hfit.ls HLR.out (Tm.In_iff.1 HIN.out).2.2.1 (by omega) (fun q hq => hq.1) (fun q hq => by have := hq.2; omega) (fun q hq => ⟨hq.1, Or.inl (by have := hq.2; omega)⟩) HF.out (by have := HPL.out; omega)
          have hps : ps.map (·.1) = R := by rw [HMAP.out]; exact List.take_of_length_le (by have := HRL.out; omega)
          rw [hps, ← HYR.out] at hfn
          have HFN := Lib.hid hfn
          have hyl : ps.length = Y.ts.length := by rw [HYR.out]; show _ = R.length; rw [HRL.out, HPL.out, hje]
          rw [hyl]
          have HYE : Hid (Value.agg #[.int .u8 t.k, .int .i64 t.n, .string t.s, .slice h.lo t.ls.length h.lc, .slice to Y.ts.length tc] = Y.val ⟨h.lo, h.lc, to, tc⟩) := Lib.hid (by rw [HYR.out]; rfl)
          clear hfit hfn hps hpl hyl
          go_wp2_with fail
          refine (with_any _ _ _ _ _ _ _ _ _ _ _ _ _).mono ?_
          rintro e w6 ⟨rfl, b6⟩
          have HB6 := Lib.hid (Trm.go HBEL.out b6)
          have HR6 := Lib.hid (Lvl.keep b6 HBR.out)
          have HF6 := Lib.hid (HFN.out.step (RanS.of_below b6))
          obtain ⟨a0, a1, a2, a3, a4⟩ := five_cells HR6.out
          obtain ⟨f0, f1, f2, f3, f4⟩ := five_free HR6.out
          have hz6 := b6.size
          clear b6 c0 c1 c2 c3 c4
          go_wp2_with fail
          have h5 := putT_self HR6.out (.int .u8 t.k) (.int .i64 t.n) (.string t.s) (.slice h.lo t.ls.length h.lc) (.slice to Y.ts.length tc)
          have b5 := putT_below HB6.out (by omega : w.heap.size ≤ w.heap.size + 1) (.int .u8 t.k) (.int .i64 t.n) (.string t.s) (.slice h.lo t.ls.length h.lc) (.slice to Y.ts.length tc)
          have r5 := putT_ran w6 (w.heap.size + 1) (.int .u8 t.k) (.int .i64 t.n) (.string t.s) (.slice h.lo t.ls.length h.lc) (.slice to Y.ts.length tc)
          unfold putT at h5 b5 r5
          generalize hW : ((((w6.setCell ⟨w.heap.size + 1, 0, none⟩ (.int .u8 t.k)).setCell ⟨w.heap.size + 1, 1, none⟩ (.int .i64 t.n)).setCell ⟨w.heap.size + 1, 2, none⟩ (.string t.s)).setCell ⟨w.heap.size + 1, 3, none⟩ (.slice h.lo t.ls.length h.lc)).setCell ⟨w.heap.size + 1, 4, none⟩ (.slice to Y.ts.length tc) = W4 at h5 b5 r5 ⊢
          obtain ⟨e0, e1, e2, e3, e4⟩ := five_cells h5
          clear hW
          refine bodyPost_ret (v := .agg #[.int .u8 t.k, .int .i64 t.n, .string t.s, .slice h.lo t.ls.length h.lc, .slice to Y.ts.length tc]) (by simp [results, Try.results36, go_sem, e0, e1, e2, e3, e4]) rfl ⟨_, by rw [HYE.out], (HF6.out.step (RanS.of_ran r5 ⟨by omega, by omega⟩)).less (fun q _ hq => ⟨hq.1, by have := hq.2; omega⟩), b5⟩
end Go.Proofs.Ytijdlihodpodjaa

/-
  battenlaw04.SubstLifts: the walk.
-/
namespace Go.Proofs.Ytijdlihodpodjaa
open Go.RowKit Go.Shelf Lvl Trm

set_option maxRecDepth 100000 in
set_option maxHeartbeats 40000000 in
theorem law_subst_lifts (t : Tm) (ht : Hd) (fr by_ k : Int) (w : World) (hin : t.In w.heap.size w ht) (hb0 : -9223372036854775808 ≤ by_) (hk0 : -9223372036854775808 ≤ k) (hk1 : k ≤ 9223372036854775807) :
    Calls Try.prog 5 #[t.val ht, .int .i64 fr, .int .i64 by_, .int .i64 k] w fun e w' => e = .returned (.bool true) ∧ Below w.heap.size w w' := by
  have HIN := Lib.hid hin
  have hmin := run_min
  have HF := Lib.hid (fun (W : World) (hW : Below w.heap.size w W) => show Calls Try.prog 31 #[.agg #[.int .u8 t.k, .int .i64 t.n, .string t.s, .slice ht.lo t.ls.length ht.lc, .slice ht.to t.ts.length ht.tc], .slice none 0 0] W (fun e w' => e = .returned (.bool (fewB t [])) ∧ Below W.heap.size W w') from few_any t ht [] none 0 W (carry hin hW) (RowIn.mk fun k hk => by simp at hk) (by simp))
  have HM := Lib.hid (fun (W : World) (hW : Below w.heap.size w W) => RefTMay_any t ht W (carry hin hW))
  clear hin
  unfold Tm.val at HM ⊢
  dsimp only [Tm.vals] at HM ⊢
  generalize fewB t [] = F at HF
  have HB_0 := Lib.hid (below_one w (.cells (t.vals ht) 25))
  have XT_0 := Lib.hid (World.alloc_heap_new w (.cells (t.vals ht) 25))
  go_enter Try.func5, Try.ntmps5
  go_wp2_with fail
  refine (HF.out _ HB_0.out).mono ?_
  rintro e v1 ⟨rfl, b1⟩
  have HB_1 := Lib.hid (Trm.go HB_0.out b1)
  have XT_1 := Lib.hid (Lvl.keep b1 XT_0.out)
  clear b1
  clear HB_0 XT_0
  obtain ⟨cT0, cT1, cT2, cT3, cT4⟩ := five_cells (show v1.heap[w.heap.size]? = some (.cells #[.int .u8 t.k, .int .i64 t.n, .string t.s, .slice ht.lo t.ls.length ht.lc, .slice ht.to t.ts.length ht.tc] 25) from XT_1.out)
  have lT : w.heap.size < v1.heap.size := (Array.getElem?_eq_some_iff.1 XT_1.out).1
  cases F
  · go_wp2_with fail
    refine (sub_works_any _).mono ?_
    rintro e v2 ⟨rfl, b2⟩
    clear cT0 cT1 cT2 cT3 cT4 lT
    have HB_2 := Lib.hid (Trm.go HB_1.out b2)
    have XT_2 := Lib.hid (Lvl.keep b2 XT_1.out)
    clear b2
    clear HB_1 XT_1
    go_wp2_with fail
    go_ret
    exact ⟨rfl, HB_2.out⟩
  · by_cases h1 : 1073741824 < by_
    · have d1 : decide (1073741824 < by_) = true := by simpa using h1
      clear h1
      go_wp2_with fail
      refine (sub_works_any _).mono ?_
      rintro e v2 ⟨rfl, b2⟩
      clear cT0 cT1 cT2 cT3 cT4 lT
      have HB_2 := Lib.hid (Trm.go HB_1.out b2)
      have XT_2 := Lib.hid (Lvl.keep b2 XT_1.out)
      clear b2
      clear HB_1 XT_1
      go_wp2_with fail
      go_ret
      exact ⟨rfl, HB_2.out⟩
    · have d1 : decide (1073741824 < by_) = false := by simpa using h1
      by_cases h2 : by_ < -1073741824
      · have d2 : decide (by_ < -1073741824) = true := by simpa using h2
        clear h1 h2
        go_wp2_with fail
        refine (sub_works_any _).mono ?_
        rintro e v2 ⟨rfl, b2⟩
        clear cT0 cT1 cT2 cT3 cT4 lT
        have HB_2 := Lib.hid (Trm.go HB_1.out b2)
        have XT_2 := Lib.hid (Lvl.keep b2 XT_1.out)
        clear b2
        clear HB_1 XT_1
        go_wp2_with fail
        go_ret
        exact ⟨rfl, HB_2.out⟩
      · have d2 : decide (by_ < -1073741824) = false := by simpa using h2
        by_cases h3 : 1073741824 < fr
        · have d3 : decide (1073741824 < fr) = true := by simpa using h3
          clear h1 h2 h3
          go_wp2_with fail
          refine (sub_works_any _).mono ?_
          rintro e v2 ⟨rfl, b2⟩
          clear cT0 cT1 cT2 cT3 cT4 lT
          have HB_2 := Lib.hid (Trm.go HB_1.out b2)
          have XT_2 := Lib.hid (Lvl.keep b2 XT_1.out)
          clear b2
          clear HB_1 XT_1
          go_wp2_with fail
          go_ret
          exact ⟨rfl, HB_2.out⟩
        · have d3 : decide (1073741824 < fr) = false := by simpa using h3
          obtain ⟨a, ea, qa⟩ : ∃ a ea, liftAns t fr by_ = (a, ea) := ⟨_, _, rfl⟩
          obtain ⟨b, eb, qb⟩ : ∃ b eb, liftsB t fr by_ = (b, eb) := ⟨_, _, rfl⟩
          obtain ⟨c, ec, qc⟩ : ∃ c ec, closeAns t k = (c, ec) := ⟨_, _, rfl⟩
          obtain ⟨d, ed, qd⟩ : ∃ d ed, closeB t k = (d, ed) := ⟨_, _, rfl⟩
          have hT1 : toldB a ea b eb = true := by
            have := lifts_told t fr by_
            rw [qa, qb] at this
            exact this
          have hT2 : toldB c ec d ed = true := by
            have := close_told t k
            rw [qc, qd] at this
            exact this
          have HA := Lib.hid (fun (W : World) (hW : Below w.heap.size w W) => show Calls Try.prog 33 #[.agg #[.int .u8 t.k, .int .i64 t.n, .string t.s, .slice ht.lo t.ls.length ht.lc, .slice ht.to t.ts.length ht.tc], .int .i64 fr, .int .i64 by_] W (fun e w' => ∃ h', e = .returned (.tuple #[a.val h', .int .i64 ea]) ∧ a.In w'.heap.size w' h' ∧ Below W.heap.size W w') from by
            have := Lift_any t ht fr by_ W (carry HIN.out hW) hb0
            rw [qa] at this
            exact this)
          have HBL := Lib.hid (fun (W : World) (hW : Below w.heap.size w W) => show Calls Try.prog 34 #[.agg #[.int .u8 t.k, .int .i64 t.n, .string t.s, .slice ht.lo t.ls.length ht.lc, .slice ht.to t.ts.length ht.tc], .int .i64 fr, .int .i64 by_] W (fun e w' => ∃ h', e = .returned (.tuple #[b.val h', .int .i64 eb]) ∧ b.In w'.heap.size w' h' ∧ Below W.heap.size W w') from by
            have := lifts_any t ht fr by_ W (carry HIN.out hW) (by omega) (by omega) (by omega)
            rw [qb] at this
            exact this)
          have HC := Lib.hid (fun (W : World) (hW : Below w.heap.size w W) => show Calls Try.prog 35 #[.agg #[.int .u8 t.k, .int .i64 t.n, .string t.s, .slice ht.lo t.ls.length ht.lc, .slice ht.to t.ts.length ht.tc], .int .i64 k] W (fun e w' => ∃ h', e = .returned (.tuple #[c.val h', .int .i64 ec]) ∧ c.In w'.heap.size w' h' ∧ Below W.heap.size W w') from by
            have := Close_any t ht k W (carry HIN.out hW)
            rw [qc] at this
            exact this)
          have HT1 := Lib.hid (fun (W : World) (h h' : Hd) (hi : a.In W.heap.size W h) (hi' : b.In W.heap.size W h') => show Calls Try.prog 37 #[.agg #[.int .u8 a.k, .int .i64 a.n, .string a.s, .slice h.lo a.ls.length h.lc, .slice h.to a.ts.length h.tc], .int .i64 ea, .agg #[.int .u8 b.k, .int .i64 b.n, .string b.s, .slice h'.lo b.ls.length h'.lc, .slice h'.to b.ts.length h'.tc], .int .i64 eb] W (fun e w' => e = .returned (.bool true) ∧ Below W.heap.size W w') from hT1 ▸ told_any a b h h' ea eb W hi hi')
          have HT2 := Lib.hid (fun (W : World) (h h' : Hd) (hi : c.In W.heap.size W h) (hi' : d.In W.heap.size W h') => show Calls Try.prog 37 #[.agg #[.int .u8 c.k, .int .i64 c.n, .string c.s, .slice h.lo c.ls.length h.lc, .slice h.to c.ts.length h.tc], .int .i64 ec, .agg #[.int .u8 d.k, .int .i64 d.n, .string d.s, .slice h'.lo d.ls.length h'.lc, .slice h'.to d.ts.length h'.tc], .int .i64 ed] W (fun e w' => e = .returned (.bool true) ∧ Below W.heap.size W w') from hT2 ▸ told_any c d h h' ec ed W hi hi')
          have HQD := Lib.hid qd
          clear qa qb qc qd hT1 hT2 HF h1 h2 h3
          go_wp2_with fail
          refine (HA.out _ HB_1.out).mono ?_
          rintro e v2 ⟨h2, rfl, i2, b2⟩
          clear cT0 cT1 cT2 cT3 cT4 lT
          have HB_2 := Lib.hid (Trm.go HB_1.out b2)
          have XT_2 := Lib.hid (Lvl.keep b2 XT_1.out)
          have IA_2 := Lib.hid i2
          clear b2 i2
          clear HB_1 XT_1
          dsimp only [Tm.val, Tm.vals]
          have e3 := below_one v2 (.cells (a.vals h2) 25)
          have HB_3 := Lib.hid (Trm.go HB_2.out e3)
          have XT_3 := Lib.hid (Lvl.keep e3 XT_2.out)
          have IA_3 := Lib.hid (carry IA_2.out e3)
          have XA_3 := Lib.hid (World.alloc_heap_new v2 (.cells (a.vals h2) 25))
          clear e3
          obtain ⟨cT0, cT1, cT2, cT3, cT4⟩ := five_cells (show v2.heap[w.heap.size]? = some (.cells #[.int .u8 t.k, .int .i64 t.n, .string t.s, .slice ht.lo t.ls.length ht.lc, .slice ht.to t.ts.length ht.tc] 25) from XT_2.out)
          have lT : w.heap.size < v2.heap.size := (Array.getElem?_eq_some_iff.1 XT_2.out).1
          clear HB_2 XT_2 IA_2
          go_wp2_with fail
          refine (HBL.out _ HB_3.out).mono ?_
          rintro e v4 ⟨h4, rfl, i4, b4⟩
          clear cT0 cT1 cT2 cT3 cT4 lT
          have HB_4 := Lib.hid (Trm.go HB_3.out b4)
          have XT_4 := Lib.hid (Lvl.keep b4 XT_3.out)
          have XA_4 := Lib.hid (Lvl.keep b4 XA_3.out)
          have IA_4 := Lib.hid (carry IA_3.out b4)
          have IB_4 := Lib.hid i4
          clear b4 i4
          clear HB_3 XT_3 XA_3 IA_3
          dsimp only [Tm.val, Tm.vals]
          have e5 := below_one v4 (.cells (b.vals h4) 25)
          have HB_5 := Lib.hid (Trm.go HB_4.out e5)
          have XT_5 := Lib.hid (Lvl.keep e5 XT_4.out)
          have XA_5 := Lib.hid (Lvl.keep e5 XA_4.out)
          have IA_5 := Lib.hid (carry IA_4.out e5)
          have IB_5 := Lib.hid (carry IB_4.out e5)
          have XB_5 := Lib.hid (World.alloc_heap_new v4 (.cells (b.vals h4) 25))
          clear e5
          obtain ⟨cT0, cT1, cT2, cT3, cT4⟩ := five_cells (show v4.heap[w.heap.size]? = some (.cells #[.int .u8 t.k, .int .i64 t.n, .string t.s, .slice ht.lo t.ls.length ht.lc, .slice ht.to t.ts.length ht.tc] 25) from XT_4.out)
          have lT : w.heap.size < v4.heap.size := (Array.getElem?_eq_some_iff.1 XT_4.out).1
          clear HB_4 XT_4 XA_4 IA_4 IB_4
          go_wp2_with fail
          refine (HC.out _ HB_5.out).mono ?_
          rintro e v6 ⟨h6, rfl, i6, b6⟩
          clear cT0 cT1 cT2 cT3 cT4 lT
          have HB_6 := Lib.hid (Trm.go HB_5.out b6)
          have XT_6 := Lib.hid (Lvl.keep b6 XT_5.out)
          have XA_6 := Lib.hid (Lvl.keep b6 XA_5.out)
          have XB_6 := Lib.hid (Lvl.keep b6 XB_5.out)
          have IA_6 := Lib.hid (carry IA_5.out b6)
          have IB_6 := Lib.hid (carry IB_5.out b6)
          have IC_6 := Lib.hid i6
          clear b6 i6
          clear HB_5 XT_5 XA_5 XB_5 IA_5 IB_5
          dsimp only [Tm.val, Tm.vals]
          have e7 := below_one v6 (.cells (c.vals h6) 25)
          have HB_7 := Lib.hid (Trm.go HB_6.out e7)
          have XT_7 := Lib.hid (Lvl.keep e7 XT_6.out)
          have XA_7 := Lib.hid (Lvl.keep e7 XA_6.out)
          have XB_7 := Lib.hid (Lvl.keep e7 XB_6.out)
          have IA_7 := Lib.hid (carry IA_6.out e7)
          have IB_7 := Lib.hid (carry IB_6.out e7)
          have IC_7 := Lib.hid (carry IC_6.out e7)
          have XC_7 := Lib.hid (World.alloc_heap_new v6 (.cells (c.vals h6) 25))
          clear e7
          obtain ⟨cT0, cT1, cT2, cT3, cT4⟩ := five_cells (show v6.heap[w.heap.size]? = some (.cells #[.int .u8 t.k, .int .i64 t.n, .string t.s, .slice ht.lo t.ls.length ht.lc, .slice ht.to t.ts.length ht.tc] 25) from XT_6.out)
          have lT : w.heap.size < v6.heap.size := (Array.getElem?_eq_some_iff.1 XT_6.out).1
          clear HB_6 XT_6 XA_6 XB_6 IA_6 IB_6 IC_6
          have HBW := Lib.hid HB_7.out
          have KT := Lib.hid XT_7.out
          have KA := Lib.hid XA_7.out
          have KB := Lib.hid XB_7.out
          have KC := Lib.hid XC_7.out
          have JA := Lib.hid IA_7.out
          have JB := Lib.hid IB_7.out
          have JC := Lib.hid IC_7.out
          have eZ := below_one (v6.alloc (.cells (c.vals h6) 25)) (.cells #[.int .u8 0, .int .i64 0, .string ⟨#[]⟩, .slice none 0 0, .slice none 0 0] 25)
          have HB_8 := Lib.hid (Trm.go HB_7.out eZ)
          have XT_8 := Lib.hid (Lvl.keep eZ XT_7.out)
          have XA_8 := Lib.hid (Lvl.keep eZ XA_7.out)
          have XB_8 := Lib.hid (Lvl.keep eZ XB_7.out)
          have XC_8 := Lib.hid (Lvl.keep eZ XC_7.out)
          have IA_8 := Lib.hid (carry IA_7.out eZ)
          have IB_8 := Lib.hid (carry IB_7.out eZ)
          have IC_8 := Lib.hid (carry IC_7.out eZ)
          have XZ_8 := Lib.hid (World.alloc_heap_new (v6.alloc (.cells (c.vals h6) 25)) (.cells #[.int .u8 0, .int .i64 0, .string ⟨#[]⟩, .slice none 0 0, .slice none 0 0] 25))
          have hzn : w.heap.size ≤ (v6.alloc (.cells (c.vals h6) 25)).heap.size := HBW.out.size
          clear eZ
          clear HB_7 XT_7 XA_7 XB_7 XC_7 IA_7 IB_7 IC_7
          go_wp2_with fail
          refine (HM.out _ HB_8.out).mono ?_
          rintro e v9 ⟨rfl, b9⟩
          have HBN := Lib.hid (show Below (v6.alloc (.cells (c.vals h6) 25)).heap.size (v6.alloc (.cells (c.vals h6) 25)) v9 from Trm.go (below_one _ _) b9)
          clear cT0 cT1 cT2 cT3 cT4 lT
          have HB_9 := Lib.hid (Trm.go HB_8.out b9)
          have XT_9 := Lib.hid (Lvl.keep b9 XT_8.out)
          have XA_9 := Lib.hid (Lvl.keep b9 XA_8.out)
          have XB_9 := Lib.hid (Lvl.keep b9 XB_8.out)
          have XC_9 := Lib.hid (Lvl.keep b9 XC_8.out)
          have XZ_9 := Lib.hid (Lvl.keep b9 XZ_8.out)
          have IA_9 := Lib.hid (carry IA_8.out b9)
          have IB_9 := Lib.hid (carry IB_8.out b9)
          have IC_9 := Lib.hid (carry IC_8.out b9)
          clear b9
          clear HB_8 XT_8 XA_8 XB_8 XC_8 XZ_8 IA_8 IB_8 IC_8
          obtain ⟨wn, hwn⟩ : ∃ wn, wn = (v6.alloc (.cells (c.vals h6) 25)) := ⟨_, rfl⟩
          rw [← hwn] at HBW HBN hzn XZ_9 KT KA KB KC JA JB JC
          have hsz : v6.heap.size + 1 = wn.heap.size := by rw [hwn, World.size_alloc]
          rw [hsz]
          clear hwn
          obtain ⟨cT0, cT1, cT2, cT3, cT4⟩ := five_cells (show v9.heap[w.heap.size]? = some (.cells #[.int .u8 t.k, .int .i64 t.n, .string t.s, .slice ht.lo t.ls.length ht.lc, .slice ht.to t.ts.length ht.tc] 25) from XT_9.out)
          have lT : w.heap.size < v9.heap.size := (Array.getElem?_eq_some_iff.1 XT_9.out).1
          cases hm : t.may
          · have hq := HQD.out
            rw [show closeB t k = (zeroT, 1) from if_pos (Or.inl hm)] at hq
            obtain ⟨rfl, rfl⟩ : zeroT = d ∧ (1 : Int) = ed := Prod.mk.inj hq
            have HT3 := Lib.hid (fun (W : World) (h : Hd) (hi : c.In W.heap.size W h) => show Calls Try.prog 37 #[.agg #[.int .u8 c.k, .int .i64 c.n, .string c.s, .slice h.lo c.ls.length h.lc, .slice h.to c.ts.length h.tc], .int .i64 ec, .agg #[.int .u8 0, .int .i64 0, .string ⟨#[]⟩, .slice none 0 0, .slice none 0 0], .int .i64 1] W (fun e w' => e = .returned (.bool true) ∧ Below W.heap.size W w') from HT2.out W h ⟨none, 0, none, 0⟩ hi (leaf_in (by decide) (by decide) (by decide) (by decide) (by decide)))
            clear hq HQD HT2
            clear cT0 cT1 cT2 cT3 cT4 lT
            obtain ⟨cA0, cA1, cA2, cA3, cA4⟩ := five_cells (show v9.heap[v2.heap.size]? = some (.cells #[.int .u8 a.k, .int .i64 a.n, .string a.s, .slice h2.lo a.ls.length h2.lc, .slice h2.to a.ts.length h2.tc] 25) from XA_9.out)
            have lA : v2.heap.size < v9.heap.size := (Array.getElem?_eq_some_iff.1 XA_9.out).1
            obtain ⟨cB0, cB1, cB2, cB3, cB4⟩ := five_cells (show v9.heap[v4.heap.size]? = some (.cells #[.int .u8 b.k, .int .i64 b.n, .string b.s, .slice h4.lo b.ls.length h4.lc, .slice h4.to b.ts.length h4.tc] 25) from XB_9.out)
            have lB : v4.heap.size < v9.heap.size := (Array.getElem?_eq_some_iff.1 XB_9.out).1
            clear hm
            go_wp2_with fail
            refine (HT1.out _ h2 h4 IA_9.out IB_9.out).mono ?_
            rintro e v10 ⟨rfl, b10⟩
            clear cA0 cA1 cA2 cA3 cA4 cB0 cB1 cB2 cB3 cB4 lA lB
            have HB_10 := Lib.hid (Trm.go HB_9.out b10)
            have XT_10 := Lib.hid (Lvl.keep b10 XT_9.out)
            have XA_10 := Lib.hid (Lvl.keep b10 XA_9.out)
            have XB_10 := Lib.hid (Lvl.keep b10 XB_9.out)
            have XC_10 := Lib.hid (Lvl.keep b10 XC_9.out)
            have IA_10 := Lib.hid (carry IA_9.out b10)
            have IB_10 := Lib.hid (carry IB_9.out b10)
            have IC_10 := Lib.hid (carry IC_9.out b10)
            have XZ_10 := Lib.hid (Lvl.keep b10 XZ_9.out)
            clear b10
            clear HB_9 XT_9 XA_9 XB_9 XC_9 IA_9 IB_9 IC_9
            obtain ⟨cC0, cC1, cC2, cC3, cC4⟩ := five_cells (show v10.heap[v6.heap.size]? = some (.cells #[.int .u8 c.k, .int .i64 c.n, .string c.s, .slice h6.lo c.ls.length h6.lc, .slice h6.to c.ts.length h6.tc] 25) from XC_10.out)
            have lC : v6.heap.size < v10.heap.size := (Array.getElem?_eq_some_iff.1 XC_10.out).1
            obtain ⟨cZ0, cZ1, cZ2, cZ3, cZ4⟩ := five_cells XZ_10.out
            have lZ : wn.heap.size < v10.heap.size := (Array.getElem?_eq_some_iff.1 XZ_10.out).1
            go_wp2_with fail
            refine (HT3.out _ h6 IC_10.out).mono ?_
            rintro e v11 ⟨rfl, b11⟩
            clear cC0 cC1 cC2 cC3 cC4 lC
            have HB_11 := Lib.hid (Trm.go HB_10.out b11)
            have XT_11 := Lib.hid (Lvl.keep b11 XT_10.out)
            have XA_11 := Lib.hid (Lvl.keep b11 XA_10.out)
            have XB_11 := Lib.hid (Lvl.keep b11 XB_10.out)
            have XC_11 := Lib.hid (Lvl.keep b11 XC_10.out)
            have IA_11 := Lib.hid (carry IA_10.out b11)
            have IB_11 := Lib.hid (carry IB_10.out b11)
            have IC_11 := Lib.hid (carry IC_10.out b11)
            have XZ_11 := Lib.hid (Lvl.keep b11 XZ_10.out)
            clear b11
            clear HB_10 XT_10 XA_10 XB_10 XC_10 IA_10 IB_10 IC_10
            clear cZ0 cZ1 cZ2 cZ3 cZ4 lZ
            go_wp2_with fail
            refine (sub_works_any _).mono ?_
            rintro e v12 ⟨rfl, b12⟩
            have HB_12 := Lib.hid (Trm.go HB_11.out b12)
            have XT_12 := Lib.hid (Lvl.keep b12 XT_11.out)
            have XA_12 := Lib.hid (Lvl.keep b12 XA_11.out)
            have XB_12 := Lib.hid (Lvl.keep b12 XB_11.out)
            have XC_12 := Lib.hid (Lvl.keep b12 XC_11.out)
            have IA_12 := Lib.hid (carry IA_11.out b12)
            have IB_12 := Lib.hid (carry IB_11.out b12)
            have IC_12 := Lib.hid (carry IC_11.out b12)
            clear b12
            clear HB_11 XT_11 XA_11 XB_11 XC_11 IA_11 IB_11 IC_11
            go_wp2_with fail
            go_ret
            exact ⟨rfl, HB_12.out⟩
          · by_cases hk : k < 0
            · have d4 : decide (k < 0) = true := by simpa using hk
              have hq := HQD.out
              rw [show closeB t k = (zeroT, 1) from if_pos (Or.inr hk)] at hq
              obtain ⟨rfl, rfl⟩ : zeroT = d ∧ (1 : Int) = ed := Prod.mk.inj hq
              have HT3 := Lib.hid (fun (W : World) (h : Hd) (hi : c.In W.heap.size W h) => show Calls Try.prog 37 #[.agg #[.int .u8 c.k, .int .i64 c.n, .string c.s, .slice h.lo c.ls.length h.lc, .slice h.to c.ts.length h.tc], .int .i64 ec, .agg #[.int .u8 0, .int .i64 0, .string ⟨#[]⟩, .slice none 0 0, .slice none 0 0], .int .i64 1] W (fun e w' => e = .returned (.bool true) ∧ Below W.heap.size W w') from HT2.out W h ⟨none, 0, none, 0⟩ hi (leaf_in (by decide) (by decide) (by decide) (by decide) (by decide)))
              clear hq HQD HT2
              clear cT0 cT1 cT2 cT3 cT4 lT
              obtain ⟨cA0, cA1, cA2, cA3, cA4⟩ := five_cells (show v9.heap[v2.heap.size]? = some (.cells #[.int .u8 a.k, .int .i64 a.n, .string a.s, .slice h2.lo a.ls.length h2.lc, .slice h2.to a.ts.length h2.tc] 25) from XA_9.out)
              have lA : v2.heap.size < v9.heap.size := (Array.getElem?_eq_some_iff.1 XA_9.out).1
              obtain ⟨cB0, cB1, cB2, cB3, cB4⟩ := five_cells (show v9.heap[v4.heap.size]? = some (.cells #[.int .u8 b.k, .int .i64 b.n, .string b.s, .slice h4.lo b.ls.length h4.lc, .slice h4.to b.ts.length h4.tc] 25) from XB_9.out)
              have lB : v4.heap.size < v9.heap.size := (Array.getElem?_eq_some_iff.1 XB_9.out).1
              clear hm hk
              go_wp2_with fail
              refine (HT1.out _ h2 h4 IA_9.out IB_9.out).mono ?_
              rintro e v10 ⟨rfl, b10⟩
              clear cA0 cA1 cA2 cA3 cA4 cB0 cB1 cB2 cB3 cB4 lA lB
              have HB_10 := Lib.hid (Trm.go HB_9.out b10)
              have XT_10 := Lib.hid (Lvl.keep b10 XT_9.out)
              have XA_10 := Lib.hid (Lvl.keep b10 XA_9.out)
              have XB_10 := Lib.hid (Lvl.keep b10 XB_9.out)
              have XC_10 := Lib.hid (Lvl.keep b10 XC_9.out)
              have IA_10 := Lib.hid (carry IA_9.out b10)
              have IB_10 := Lib.hid (carry IB_9.out b10)
              have IC_10 := Lib.hid (carry IC_9.out b10)
              have XZ_10 := Lib.hid (Lvl.keep b10 XZ_9.out)
              clear b10
              clear HB_9 XT_9 XA_9 XB_9 XC_9 IA_9 IB_9 IC_9
              obtain ⟨cC0, cC1, cC2, cC3, cC4⟩ := five_cells (show v10.heap[v6.heap.size]? = some (.cells #[.int .u8 c.k, .int .i64 c.n, .string c.s, .slice h6.lo c.ls.length h6.lc, .slice h6.to c.ts.length h6.tc] 25) from XC_10.out)
              have lC : v6.heap.size < v10.heap.size := (Array.getElem?_eq_some_iff.1 XC_10.out).1
              obtain ⟨cZ0, cZ1, cZ2, cZ3, cZ4⟩ := five_cells XZ_10.out
              have lZ : wn.heap.size < v10.heap.size := (Array.getElem?_eq_some_iff.1 XZ_10.out).1
              go_wp2_with fail
              refine (HT3.out _ h6 IC_10.out).mono ?_
              rintro e v11 ⟨rfl, b11⟩
              clear cC0 cC1 cC2 cC3 cC4 lC
              have HB_11 := Lib.hid (Trm.go HB_10.out b11)
              have XT_11 := Lib.hid (Lvl.keep b11 XT_10.out)
              have XA_11 := Lib.hid (Lvl.keep b11 XA_10.out)
              have XB_11 := Lib.hid (Lvl.keep b11 XB_10.out)
              have XC_11 := Lib.hid (Lvl.keep b11 XC_10.out)
              have IA_11 := Lib.hid (carry IA_10.out b11)
              have IB_11 := Lib.hid (carry IB_10.out b11)
              have IC_11 := Lib.hid (carry IC_10.out b11)
              have XZ_11 := Lib.hid (Lvl.keep b11 XZ_10.out)
              clear b11
              clear HB_10 XT_10 XA_10 XB_10 XC_10 IA_10 IB_10 IC_10
              clear cZ0 cZ1 cZ2 cZ3 cZ4 lZ
              go_wp2_with fail
              refine (sub_works_any _).mono ?_
              rintro e v12 ⟨rfl, b12⟩
              have HB_12 := Lib.hid (Trm.go HB_11.out b12)
              have XT_12 := Lib.hid (Lvl.keep b12 XT_11.out)
              have XA_12 := Lib.hid (Lvl.keep b12 XA_11.out)
              have XB_12 := Lib.hid (Lvl.keep b12 XB_11.out)
              have XC_12 := Lib.hid (Lvl.keep b12 XC_11.out)
              have IA_12 := Lib.hid (carry IA_11.out b12)
              have IB_12 := Lib.hid (carry IB_11.out b12)
              have IC_12 := Lib.hid (carry IC_11.out b12)
              clear b12
              clear HB_11 XT_11 XA_11 XB_11 XC_11 IA_11 IB_11 IC_11
              go_wp2_with fail
              go_ret
              exact ⟨rfl, HB_12.out⟩
            · have d4 : decide (k < 0) = false := by simpa using hk
              have hq := HQD.out
              rw [show closeB t k = (t.put (gClose (min k 2097152)) 0, 0) from if_neg (by rw [hm]; simp; omega)] at hq
              obtain ⟨rfl, rfl⟩ : t.put (gClose (min k 2097152)) 0 = d ∧ (0 : Int) = ed := Prod.mk.inj hq
              have HR := Lib.hid (fun (W : World) (hW : Below w.heap.size w W) => RefClose_any (min k 2097152) (by omega) (by omega) w.heap.size t ht 1 0 W (OkMay.start hm) (Int.le_refl _) (by decide) (Tm.In.below hW _ _ HIN.out) hW.size)
              generalize t.put (gClose (min k 2097152)) 0 = d at HR HT2
              unfold Tm.val at HR
              dsimp only [Tm.vals] at HR
              clear hq HQD hm hk
              go_wp2_with fail
              refine (HR.out _ HB_9.out).mono ?_
              rintro e vr ⟨hd, rfl, fD, br⟩
              have HBNr := Lib.hid (show Below wn.heap.size wn vr from Trm.go HBN.out br)
              have HBr := Lib.hid (Trm.go HB_9.out br)
              have XZr := Lib.hid (Lvl.keep br XZ_9.out)
              have hzm : wn.heap.size < v9.heap.size := (Array.getElem?_eq_some_iff.1 XZ_9.out).1
              have hzr : wn.heap.size < vr.heap.size := (Array.getElem?_eq_some_iff.1 XZr.out).1
              have HFD := Lib.hid fD
              clear cT0 cT1 cT2 cT3 cT4 lT
              obtain ⟨z0, z1, z2, z3, z4⟩ := five_cells XZr.out
              obtain ⟨f0, f1, f2, f3, f4⟩ := five_free XZr.out
              clear br fD
              dsimp only [Tm.val, Tm.vals]
              go_upto_region 11 with fail
              have h5 := putT_self XZr.out (.int .u8 d.k) (.int .i64 d.n) (.string d.s) (.slice hd.lo d.ls.length hd.lc) (.slice hd.to d.ts.length hd.tc)
              have r5 := putT_ran vr wn.heap.size (.int .u8 d.k) (.int .i64 d.n) (.string d.s) (.slice hd.lo d.ls.length hd.lc) (.slice hd.to d.ts.length hd.tc)
              have bN5 := HBNr.out.trans (r5.below (Nat.le_refl _) (Nat.le_of_lt hzr))
              have b5 := putT_below HBr.out hzn (.int .u8 d.k) (.int .i64 d.n) (.string d.s) (.slice hd.lo d.ls.length hd.lc) (.slice hd.to d.ts.length hd.tc)
              unfold putT at h5 r5 bN5 b5
              generalize hW : (((((vr.setCell ⟨wn.heap.size, 0, none⟩ (.int .u8 d.k)).setCell ⟨wn.heap.size, 1, none⟩ (.int .i64 d.n)).setCell ⟨wn.heap.size, 2, none⟩ (.string d.s)).setCell ⟨wn.heap.size, 3, none⟩ (.slice hd.lo d.ls.length hd.lc)).setCell ⟨wn.heap.size, 4, none⟩ (.slice hd.to d.ts.length hd.tc)) = W4 at h5 r5 bN5 b5 ⊢
              have HB_109 := Lib.hid b5
              have XT_109 := Lib.hid ((bN5.block _ (Array.getElem?_eq_some_iff.1 KT.out).1).trans KT.out)
              have XA_109 := Lib.hid ((bN5.block _ (Array.getElem?_eq_some_iff.1 KA.out).1).trans KA.out)
              have XB_109 := Lib.hid ((bN5.block _ (Array.getElem?_eq_some_iff.1 KB.out).1).trans KB.out)
              have XC_109 := Lib.hid ((bN5.block _ (Array.getElem?_eq_some_iff.1 KC.out).1).trans KC.out)
              have IA_109 := Lib.hid (carry JA.out bN5)
              have IB_109 := Lib.hid (carry JB.out bN5)
              have IC_109 := Lib.hid (carry JC.out bN5)
              have XD_109 := Lib.hid h5
              have ID_109 := Lib.hid (HFD.out.step (RanS.of_ran r5 ⟨hzn, hzm⟩)).here
              clear hW h5 r5 bN5 b5 z0 z1 z2 z3 z4 f0 f1 f2 f3 f4
              obtain ⟨cA0, cA1, cA2, cA3, cA4⟩ := five_cells (show W4.heap[v2.heap.size]? = some (.cells #[.int .u8 a.k, .int .i64 a.n, .string a.s, .slice h2.lo a.ls.length h2.lc, .slice h2.to a.ts.length h2.tc] 25) from XA_109.out)
              have lA : v2.heap.size < W4.heap.size := (Array.getElem?_eq_some_iff.1 XA_109.out).1
              obtain ⟨cB0, cB1, cB2, cB3, cB4⟩ := five_cells (show W4.heap[v4.heap.size]? = some (.cells #[.int .u8 b.k, .int .i64 b.n, .string b.s, .slice h4.lo b.ls.length h4.lc, .slice h4.to b.ts.length h4.tc] 25) from XB_109.out)
              have lB : v4.heap.size < W4.heap.size := (Array.getElem?_eq_some_iff.1 XB_109.out).1
              go_wp2_with fail
              refine (HT1.out _ h2 h4 IA_109.out IB_109.out).mono ?_
              rintro e v110 ⟨rfl, b110⟩
              clear cA0 cA1 cA2 cA3 cA4 cB0 cB1 cB2 cB3 cB4 lA lB
              have HB_110 := Lib.hid (Trm.go HB_109.out b110)
              have XT_110 := Lib.hid (Lvl.keep b110 XT_109.out)
              have XA_110 := Lib.hid (Lvl.keep b110 XA_109.out)
              have XB_110 := Lib.hid (Lvl.keep b110 XB_109.out)
              have XC_110 := Lib.hid (Lvl.keep b110 XC_109.out)
              have XD_110 := Lib.hid (Lvl.keep b110 XD_109.out)
              have IA_110 := Lib.hid (carry IA_109.out b110)
              have IB_110 := Lib.hid (carry IB_109.out b110)
              have IC_110 := Lib.hid (carry IC_109.out b110)
              have ID_110 := Lib.hid (carry ID_109.out b110)
              clear b110
              clear HB_109 XT_109 XA_109 XB_109 XC_109 XD_109 IA_109 IB_109 IC_109 ID_109
              obtain ⟨cC0, cC1, cC2, cC3, cC4⟩ := five_cells (show v110.heap[v6.heap.size]? = some (.cells #[.int .u8 c.k, .int .i64 c.n, .string c.s, .slice h6.lo c.ls.length h6.lc, .slice h6.to c.ts.length h6.tc] 25) from XC_110.out)
              have lC : v6.heap.size < v110.heap.size := (Array.getElem?_eq_some_iff.1 XC_110.out).1
              obtain ⟨cD0, cD1, cD2, cD3, cD4⟩ := five_cells (show v110.heap[wn.heap.size]? = some (.cells #[.int .u8 d.k, .int .i64 d.n, .string d.s, .slice hd.lo d.ls.length hd.lc, .slice hd.to d.ts.length hd.tc] 25) from XD_110.out)
              have lD : wn.heap.size < v110.heap.size := (Array.getElem?_eq_some_iff.1 XD_110.out).1
              go_wp2_with fail
              refine (HT2.out _ h6 hd IC_110.out ID_110.out).mono ?_
              rintro e v111 ⟨rfl, b111⟩
              clear cC0 cC1 cC2 cC3 cC4 cD0 cD1 cD2 cD3 cD4 lC lD
              have HB_111 := Lib.hid (Trm.go HB_110.out b111)
              have XT_111 := Lib.hid (Lvl.keep b111 XT_110.out)
              have XA_111 := Lib.hid (Lvl.keep b111 XA_110.out)
              have XB_111 := Lib.hid (Lvl.keep b111 XB_110.out)
              have XC_111 := Lib.hid (Lvl.keep b111 XC_110.out)
              have XD_111 := Lib.hid (Lvl.keep b111 XD_110.out)
              have IA_111 := Lib.hid (carry IA_110.out b111)
              have IB_111 := Lib.hid (carry IB_110.out b111)
              have IC_111 := Lib.hid (carry IC_110.out b111)
              have ID_111 := Lib.hid (carry ID_110.out b111)
              clear b111
              clear HB_110 XT_110 XA_110 XB_110 XC_110 XD_110 IA_110 IB_110 IC_110 ID_110
              go_wp2_with fail
              refine (sub_works_any _).mono ?_
              rintro e v112 ⟨rfl, b112⟩
              have HB_112 := Lib.hid (Trm.go HB_111.out b112)
              have XT_112 := Lib.hid (Lvl.keep b112 XT_111.out)
              have XA_112 := Lib.hid (Lvl.keep b112 XA_111.out)
              have XB_112 := Lib.hid (Lvl.keep b112 XB_111.out)
              have XC_112 := Lib.hid (Lvl.keep b112 XC_111.out)
              have XD_112 := Lib.hid (Lvl.keep b112 XD_111.out)
              have IA_112 := Lib.hid (carry IA_111.out b112)
              have IB_112 := Lib.hid (carry IB_111.out b112)
              have IC_112 := Lib.hid (carry IC_111.out b112)
              have ID_112 := Lib.hid (carry ID_111.out b112)
              clear b112
              clear HB_111 XT_111 XA_111 XB_111 XC_111 XD_111 IA_111 IB_111 IC_111 ID_111
              go_wp2_with fail
              go_ret
              exact ⟨rfl, HB_112.out⟩
end Go.Proofs.Ytijdlihodpodjaa
