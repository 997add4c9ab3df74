/-
  subst.turned, answer, Lift.
-/
import Derived.Test.YtfechgahafbphaaSubThr
import Derived.Test.YtfechgahafbphaaSubLift
namespace Go.Proofs.Ytfechgahafbphaa
open Go.RowKit Go.Shelf Lvl Trm

namespace Trm
/-- What turned answers. -/
def tAns {σ : Type} (t : Tm) (R : σ × Int × Option Tm) : Tm := if R.2.1 = 0 then R.2.2.getD t else R.2.2.getD zeroT
/-- What answer answers. -/
def ansT (t : Tm) (e : Int) : Tm × Int := if e ≠ 0 then (zeroT, e) else if t.may = true then (t, 0) else (zeroT, 4)
end Trm

set_option maxRecDepth 100000 in
set_option maxHeartbeats 2000000 in
theorem turned_any {σ : Type} {B N C : Nat} {P : Nat → Prop} {f : FuncId} {lf : Lf σ} {Inv : σ → World → Prop} {Good : σ → Prop} (S : Leaf B N P C f lf Inv Good) (t : Tm) (h : Hd) (st : σ) (w : World)
    (hmay : t.may = true) (hg : Good st) (hi : Inv st w) (hin : t.In B w h) (hB : B ≤ w.heap.size) (hN : N ≤ w.heap.size) (hPw : ∀ q, P q → q < w.heap.size) :
    Calls Try.prog 121 #[t.val h, fnv f C] w fun e w' => ∃ h', e = .returned (.tuple #[(tAns t (t.thr lf st 0)).val h', .int .i64 (t.thr lf st 0).2.1]) ∧ FirmS (fun q => B ≤ q ∧ q < w.heap.size) w' (tAns t (t.thr lf st 0)) h' ∧ Inv (t.thr lf st 0).1 w' ∧ RanS P w w' := by
  have hAP : ¬ P (w.heap.size + 1) := fun hp => by have := hPw _ hp; omega
  have hTP : ¬ P w.heap.size := fun hp => by have := hPw _ hp; omega
  have HT := Lib.hid (fun (W : World) (hW : Below w.heap.size w W) (hX : W.heap[w.heap.size]? = some (t.box h)) =>
    through_any S t st w.heap.size 0 1 0 W hg (S.keep _ _ _ hi (hW.mono hN)) (OkMay.start hmay) (by omega) (by omega) ⟨hTP, (Array.getElem?_eq_some_iff.1 hX).1, h, Tm.cells hX, Tm.In.below (hW.mono hB) _ _ hin⟩ (by have := hW.size; omega) (by have := hW.size; omega) (fun q hq => by have := hPw q hq; have := hW.size; omega))
  have HK := Lib.hid (fun y hy => Tm.thr_kind (st := st) (u := 0) S.kind (OkMay.start hmay) (y := y) hy)
  have HKEEP := Lib.hid S.keep
  have HIN := Lib.hid hin
  have HPW := Lib.hid hPw
  generalize t.thr lf st 0 = R at HT HK ⊢
  obtain ⟨R1, R2, R3⟩ := R
  have HB2 := Lib.hid (below_two w (t.box h) (.cells #[.int .u8 0, .int .i64 0, .string no, .slice none 0 0, .slice none 0 0] 60))
  have HX0 := Lib.hid (new1of2 w (t.box h) (.cells #[.int .u8 0, .int .i64 0, .string no, .slice none 0 0, .slice none 0 0] 60))
  have HA0 := Lib.hid (new2 w (t.box h) (.cells #[.int .u8 0, .int .i64 0, .string no, .slice none 0 0, .slice none 0 0] 60))
  delta ThrPost at HT
  unfold tAns
  dsimp only at HT HK ⊢
  have HTH := Lib.hid (HT.out _ HB2.out HX0.out)
  clear HT hmay hg hi hin hPw
  by_cases he : R2 = 0
  · subst he
    cases R3 with
    | none =>
      dsimp only [Option.getD] at HTH ⊢
      rw [if_pos rfl]
      have hyk : (zeroT.k == 0) = true := rfl
      generalize zeroT = y at HTH hyk
      unfold Tm.val at HTH ⊢
      dsimp only [Tm.vals] at HTH ⊢
      go_enter Try.func121, Try.ntmps121
      go_wp2_with fail
      refine HTH.out.mono ?_
      rintro e w3 ⟨hy, rfl, fY, iY, rY⟩
      have hz3 := rY.size
      simp only [World.size_alloc] at hz3
      have hA3 := rY.keep HA0.out hAP
      have hX3 := rY.keep HX0.out hTP
      obtain ⟨wy, hwy⟩ : ∃ wy, wy = w3.alloc (y.box hy) := ⟨_, rfl⟩
      have hby : Below w3.heap.size w3 wy := hwy ▸ below_one _ _
      have hyb := hwy ▸ World.alloc_heap_new w3 (y.box hy)
      have hzy := hby.size
      have HR4 := Lib.hid ((RanS.of_below (P := P) HB2.out).trans (rY.trans (RanS.of_below hby)))
      have HI4 := Lib.hid (HKEEP.out _ _ _ iY (hby.mono (by omega)))
      have HA4 := Lib.hid (Lvl.keep hby hA3)
      obtain ⟨y0, y1, y2, y3, y4⟩ := five_cells (show wy.heap[w3.heap.size]? = some (.cells #[.int .u8 y.k, .int .i64 y.n, .string y.s, .slice hy.lo y.ls.length hy.lc, .slice hy.to y.ts.length hy.tc] 60) from hyb)
      obtain ⟨a0, a1, a2, a3, a4⟩ := five_cells HA4.out
      obtain ⟨f0, f1, f2, f3, f4⟩ := five_free HA4.out
      obtain ⟨x0, x1, x2, x3, x4⟩ := five_cells (show wy.heap[w.heap.size]? = some (.cells #[.int .u8 t.k, .int .i64 t.n, .string t.s, .slice h.lo t.ls.length h.lc, .slice h.to t.ts.length h.tc] 60) from Lvl.keep hby hX3)
      clear hA3 hX3 fY iY rY hby hyb
      have ew : w3.alloc (.cells #[.int .u8 y.k, .int .i64 y.n, .string y.s, .slice hy.lo y.ls.length hy.lc, .slice hy.to y.ts.length hy.tc] 60) = wy := hwy.symm
      go_upto_region 2 with fail
      first | rw [ew] | rw [← hwy]
      clear ew hwy
      go_wp2_with fail
      have h5 := putT_self HA4.out (.int .u8 t.k) (.int .i64 t.n) (.string t.s) (.slice h.lo t.ls.length h.lc) (.slice h.to t.ts.length h.tc)
      have r5 := putT_ran wy (w.heap.size + 1) (.int .u8 t.k) (.int .i64 t.n) (.string t.s) (.slice h.lo t.ls.length h.lc) (.slice h.to t.ts.length h.tc)
      have s5 := RanS.put HR4.out (by omega : w.heap.size ≤ w.heap.size + 1) (.int .u8 t.k) (.int .i64 t.n) (.string t.s) (.slice h.lo t.ls.length h.lc) (.slice h.to t.ts.length h.tc)
      unfold putT at h5 r5 s5
      generalize hW : ((((wy.setCell ⟨w.heap.size + 1, 0, none⟩ (.int .u8 t.k)).setCell ⟨w.heap.size + 1, 1, none⟩ (.int .i64 t.n)).setCell ⟨w.heap.size + 1, 2, none⟩ (.string t.s)).setCell ⟨w.heap.size + 1, 3, none⟩ (.slice h.lo t.ls.length h.lc)).setCell ⟨w.heap.size + 1, 4, none⟩ (.slice h.to t.ts.length h.tc) = W4 at h5 r5 s5 ⊢
      obtain ⟨e0, e1, e2, e3, e4⟩ := five_cells h5
      clear hW
      exact bodyPost_ret (v := .tuple #[t.val h, .int .i64 0]) (by simp [results, Try.results121, go_sem, e0, e1, e2, e3, e4, Tm.val, Tm.vals]) rfl
        ⟨h, rfl, (FirmS.of HIN.out (fun q hq => hq.1) hB).step (s5.wide (fun q hq => ⟨S.low q hq, HPW.out q hq⟩)), HKEEP.out _ _ _ HI4.out (r5.below (by omega) (by omega)), s5⟩
    | some y =>
      dsimp only [Option.getD] at HTH ⊢
      rw [if_pos rfl]
      have hyk : (y.k == 0) = false := by have := HK.out y rfl; simpa using this
      unfold Tm.val at HTH ⊢
      dsimp only [Tm.vals] at HTH ⊢
      go_enter Try.func121, Try.ntmps121
      go_wp2_with fail
      refine HTH.out.mono ?_
      rintro e w3 ⟨hy, rfl, fY, iY, rY⟩
      have hz3 := rY.size
      simp only [World.size_alloc] at hz3
      have hA3 := rY.keep HA0.out hAP
      obtain ⟨wy, hwy⟩ : ∃ wy, wy = w3.alloc (y.box hy) := ⟨_, rfl⟩
      have hby : Below w3.heap.size w3 wy := hwy ▸ below_one _ _
      have hyb := hwy ▸ World.alloc_heap_new w3 (y.box hy)
      have hzy := hby.size
      have HR4 := Lib.hid ((RanS.of_below (P := P) HB2.out).trans (rY.trans (RanS.of_below hby)))
      have HI4 := Lib.hid (HKEEP.out _ _ _ iY (hby.mono (by omega)))
      have HA4 := Lib.hid (Lvl.keep hby hA3)
      have HF4 := Lib.hid (fY.step (RanS.of_below hby))
      obtain ⟨y0, y1, y2, y3, y4⟩ := five_cells (show wy.heap[w3.heap.size]? = some (.cells #[.int .u8 y.k, .int .i64 y.n, .string y.s, .slice hy.lo y.ls.length hy.lc, .slice hy.to y.ts.length hy.tc] 60) from hyb)
      obtain ⟨a0, a1, a2, a3, a4⟩ := five_cells HA4.out
      obtain ⟨f0, f1, f2, f3, f4⟩ := five_free HA4.out
      clear hA3 fY iY rY hby hyb
      have ew : w3.alloc (.cells #[.int .u8 y.k, .int .i64 y.n, .string y.s, .slice hy.lo y.ls.length hy.lc, .slice hy.to y.ts.length hy.tc] 60) = wy := hwy.symm
      go_upto_region 2 with fail
      first | rw [ew] | rw [← hwy]
      clear ew hwy
      go_wp2_with fail
      have h5 := putT_self HA4.out (.int .u8 y.k) (.int .i64 y.n) (.string y.s) (.slice hy.lo y.ls.length hy.lc) (.slice hy.to y.ts.length hy.tc)
      have r5 := putT_ran wy (w.heap.size + 1) (.int .u8 y.k) (.int .i64 y.n) (.string y.s) (.slice hy.lo y.ls.length hy.lc) (.slice hy.to y.ts.length hy.tc)
      have s5 := RanS.put HR4.out (by omega : w.heap.size ≤ w.heap.size + 1) (.int .u8 y.k) (.int .i64 y.n) (.string y.s) (.slice hy.lo y.ls.length hy.lc) (.slice hy.to y.ts.length hy.tc)
      unfold putT at h5 r5 s5
      generalize hW : ((((wy.setCell ⟨w.heap.size + 1, 0, none⟩ (.int .u8 y.k)).setCell ⟨w.heap.size + 1, 1, none⟩ (.int .i64 y.n)).setCell ⟨w.heap.size + 1, 2, none⟩ (.string y.s)).setCell ⟨w.heap.size + 1, 3, none⟩ (.slice hy.lo y.ls.length hy.lc)).setCell ⟨w.heap.size + 1, 4, none⟩ (.slice hy.to y.ts.length hy.tc) = W4 at h5 r5 s5 ⊢
      obtain ⟨e0, e1, e2, e3, e4⟩ := five_cells h5
      clear hW
      exact bodyPost_ret (v := .tuple #[y.val hy, .int .i64 0]) (by simp [results, Try.results121, go_sem, e0, e1, e2, e3, e4, Tm.val, Tm.vals]) rfl
        ⟨hy, rfl, (HF4.out.step (RanS.of_ran r5 ⟨by omega, by simp⟩)).less (fun q _ hq => ⟨hq.1, by simp; omega⟩), HKEEP.out _ _ _ HI4.out (r5.below (by omega) (by omega)), s5⟩
  · rw [if_neg he]
    have he2 : (R2 == 0) = false := by simpa using he
    generalize R3.getD zeroT = y at HTH ⊢
    clear HK he
    unfold Tm.val at HTH ⊢
    dsimp only [Tm.vals] at HTH ⊢
    go_enter Try.func121, Try.ntmps121
    go_wp2_with fail
    refine HTH.out.mono ?_
    rintro e w3 ⟨hy, rfl, fY, iY, rY⟩
    have hz3 := rY.size
    simp only [World.size_alloc] at hz3
    have hA3 := rY.keep HA0.out hAP
    obtain ⟨wy, hwy⟩ : ∃ wy, wy = w3.alloc (y.box hy) := ⟨_, rfl⟩
    have hby : Below w3.heap.size w3 wy := hwy ▸ below_one _ _
    have hyb := hwy ▸ World.alloc_heap_new w3 (y.box hy)
    have hzy := hby.size
    have HR4 := Lib.hid ((RanS.of_below (P := P) HB2.out).trans (rY.trans (RanS.of_below hby)))
    have HI4 := Lib.hid (HKEEP.out _ _ _ iY (hby.mono (by omega)))
    have HA4 := Lib.hid (Lvl.keep hby hA3)
    have HF4 := Lib.hid (fY.step (RanS.of_below hby))
    obtain ⟨y0, y1, y2, y3, y4⟩ := five_cells (show wy.heap[w3.heap.size]? = some (.cells #[.int .u8 y.k, .int .i64 y.n, .string y.s, .slice hy.lo y.ls.length hy.lc, .slice hy.to y.ts.length hy.tc] 60) from hyb)
    obtain ⟨a0, a1, a2, a3, a4⟩ := five_cells HA4.out
    obtain ⟨f0, f1, f2, f3, f4⟩ := five_free HA4.out
    clear hA3 fY iY rY hby hyb
    have ew : w3.alloc (.cells #[.int .u8 y.k, .int .i64 y.n, .string y.s, .slice hy.lo y.ls.length hy.lc, .slice hy.to y.ts.length hy.tc] 60) = wy := hwy.symm
    go_upto_region 2 with fail
    first | rw [ew] | rw [← hwy]
    clear ew hwy
    go_wp2_with fail
    have h5 := putT_self HA4.out (.int .u8 y.k) (.int .i64 y.n) (.string y.s) (.slice hy.lo y.ls.length hy.lc) (.slice hy.to y.ts.length hy.tc)
    have r5 := putT_ran wy (w.heap.size + 1) (.int .u8 y.k) (.int .i64 y.n) (.string y.s) (.slice hy.lo y.ls.length hy.lc) (.slice hy.to y.ts.length hy.tc)
    have s5 := RanS.put HR4.out (by omega : w.heap.size ≤ w.heap.size + 1) (.int .u8 y.k) (.int .i64 y.n) (.string y.s) (.slice hy.lo y.ls.length hy.lc) (.slice hy.to y.ts.length hy.tc)
    unfold putT at h5 r5 s5
    generalize hW : ((((wy.setCell ⟨w.heap.size + 1, 0, none⟩ (.int .u8 y.k)).setCell ⟨w.heap.size + 1, 1, none⟩ (.int .i64 y.n)).setCell ⟨w.heap.size + 1, 2, none⟩ (.string y.s)).setCell ⟨w.heap.size + 1, 3, none⟩ (.slice hy.lo y.ls.length hy.lc)).setCell ⟨w.heap.size + 1, 4, none⟩ (.slice hy.to y.ts.length hy.tc) = W4 at h5 r5 s5 ⊢
    obtain ⟨e0, e1, e2, e3, e4⟩ := five_cells h5
    clear hW
    exact bodyPost_ret (v := .tuple #[y.val hy, .int .i64 R2]) (by simp [results, Try.results121, go_sem, e0, e1, e2, e3, e4, Tm.val, Tm.vals]) rfl
      ⟨hy, rfl, (HF4.out.step (RanS.of_ran r5 ⟨by omega, by simp⟩)).less (fun q _ hq => ⟨hq.1, by simp; omega⟩), HKEEP.out _ _ _ HI4.out (r5.below (by omega) (by omega)), s5⟩

set_option maxRecDepth 100000 in
set_option maxHeartbeats 1000000 in
theorem sub_answer_any (t : Tm) (h : Hd) (e0 : Int) (w : World) (hin : t.In w.heap.size w h) :
    Calls Try.prog 120 #[t.val h, .int .i64 e0] w fun e w' => ∃ h', e = .returned (.tuple #[(ansT t e0).1.val h', .int .i64 (ansT t e0).2]) ∧ (∀ P, FirmS P w t h → FirmS P w' (ansT t e0).1 h') ∧ Below w.heap.size w w' := by
  have HM := Lib.hid (fun (W : World) (hW : Below w.heap.size w W) => PMay_any t h W (Tm.In.mono hW.size _ _ (Tm.In.below hW _ _ hin)))
  have HB2 := Lib.hid (below_two w (t.box h) (.cells #[.int .u8 0, .int .i64 0, .string no, .slice none 0 0, .slice none 0 0] 60))
  have HX0 := Lib.hid (new1of2 w (t.box h) (.cells #[.int .u8 0, .int .i64 0, .string no, .slice none 0 0, .slice none 0 0] 60))
  have HA0 := Lib.hid (new2 w (t.box h) (.cells #[.int .u8 0, .int .i64 0, .string no, .slice none 0 0, .slice none 0 0] 60))
  clear hin
  by_cases he : e0 ≠ 0
  · have hs : ansT t e0 = (zeroT, e0) := if_pos he
    rw [hs]
    have he2 : (e0 != 0) = true := by simpa using he
    unfold Tm.val
    dsimp only [Tm.vals]
    clear hs he
    go_enter Try.func120, Try.ntmps120
    go_wp2_with fail
    have h5 := HA0.out
    have b5 := HB2.out
    unfold no Tm.box at h5 b5
    dsimp only [Tm.vals] at h5 b5
    generalize hW : (w.alloc (.cells #[.int .u8 t.k, .int .i64 t.n, .string t.s, .slice h.lo t.ls.length h.lc, .slice h.to t.ts.length h.tc] 60)).alloc (.cells #[.int .u8 0, .int .i64 0, .string ⟨#[]⟩, .slice none 0 0, .slice none 0 0] 60) = W4 at h5 b5 ⊢
    obtain ⟨e0', e1, e2, e3, e4⟩ := five_cells h5
    clear hW
    exact bodyPost_ret (v := .tuple #[zeroT.val ⟨none, 0, none, 0⟩, .int .i64 e0]) (by simp [results, Try.results120, go_sem, e0', e1, e2, e3, e4, zeroT, Tm.val, Tm.vals, Tm.k, Tm.n, Tm.s, Tm.ls, Tm.ts, no]) rfl ⟨⟨none, 0, none, 0⟩, rfl, fun _ _ => firm_zero, b5⟩
  · have h0 : e0 = 0 := by omega
    subst h0
    cases hmay : t.may
    · have hs : ansT t 0 = (zeroT, 4) := by unfold ansT; rw [if_neg (by decide), if_neg (by simp [hmay])]
      rw [hs]
      rw [hmay] at HM
      unfold Tm.val at HM ⊢
      dsimp only [Tm.vals] at HM ⊢
      clear hs he hmay
      go_enter Try.func120, Try.ntmps120
      go_wp2_with fail
      refine (HM.out _ HB2.out).mono ?_
      rintro e w3 ⟨rfl, b3⟩
      have hA3 := Lvl.keep b3 HA0.out
      have HB3 := Lib.hid (Trm.go HB2.out b3)
      obtain ⟨a0, a1, a2, a3, a4⟩ := five_cells hA3
      obtain ⟨f0, f1, f2, f3, f4⟩ := five_free hA3
      have HA3 := Lib.hid hA3
      clear hA3 b3
      go_wp2_with fail
      have h5 := putT_self HA3.out (.int .u8 0) (.int .i64 0) (.string no) (.slice none 0 0) (.slice none 0 0)
      have b5 := putT_below HB3.out (by omega : w.heap.size ≤ w.heap.size + 1) (.int .u8 0) (.int .i64 0) (.string no) (.slice none 0 0) (.slice none 0 0)
      unfold putT no at h5 b5
      generalize hW : ((((w3.setCell ⟨w.heap.size + 1, 0, none⟩ (.int .u8 0)).setCell ⟨w.heap.size + 1, 1, none⟩ (.int .i64 0)).setCell ⟨w.heap.size + 1, 2, none⟩ (.string ⟨#[]⟩)).setCell ⟨w.heap.size + 1, 3, none⟩ (.slice none 0 0)).setCell ⟨w.heap.size + 1, 4, none⟩ (.slice none 0 0) = W4 at h5 b5 ⊢
      obtain ⟨e0', e1, e2, e3, e4⟩ := five_cells h5
      clear hW
      exact bodyPost_ret (v := .tuple #[zeroT.val ⟨none, 0, none, 0⟩, .int .i64 4]) (by simp [results, Try.results120, go_sem, e0', e1, e2, e3, e4, zeroT, Tm.val, Tm.vals, Tm.k, Tm.n, Tm.s, Tm.ls, Tm.ts, no]) rfl ⟨⟨none, 0, none, 0⟩, rfl, fun _ _ => firm_zero, b5⟩
    · have hs : ansT t 0 = (t, 0) := by unfold ansT; rw [if_neg (by decide), if_pos hmay]
      rw [hs]
      rw [hmay] at HM
      unfold Tm.val at HM ⊢
      dsimp only [Tm.vals] at HM ⊢
      clear hs he hmay
      go_enter Try.func120, Try.ntmps120
      go_wp2_with fail
      refine (HM.out _ HB2.out).mono ?_
      rintro e w3 ⟨rfl, b3⟩
      have hA3 := Lvl.keep b3 HA0.out
      have HB3 := Lib.hid (Trm.go HB2.out b3)
      obtain ⟨a0, a1, a2, a3, a4⟩ := five_cells hA3
      obtain ⟨f0, f1, f2, f3, f4⟩ := five_free hA3
      obtain ⟨x0, x1, x2, x3, x4⟩ := five_cells (show w3.heap[w.heap.size]? = some (.cells #[.int .u8 t.k, .int .i64 t.n, .string t.s, .slice h.lo t.ls.length h.lc, .slice h.to t.ts.length h.tc] 60) from Lvl.keep b3 HX0.out)
      have HA3 := Lib.hid hA3
      clear hA3 b3
      go_wp2_with fail
      have h5 := putT_self HA3.out (.int .u8 t.k) (.int .i64 t.n) (.string t.s) (.slice h.lo t.ls.length h.lc) (.slice h.to t.ts.length h.tc)
      have b5 := putT_below HB3.out (by omega : w.heap.size ≤ w.heap.size + 1) (.int .u8 t.k) (.int .i64 t.n) (.string t.s) (.slice h.lo t.ls.length h.lc) (.slice h.to t.ts.length h.tc)
      unfold putT at h5 b5
      generalize hW : ((((w3.setCell ⟨w.heap.size + 1, 0, none⟩ (.int .u8 t.k)).setCell ⟨w.heap.size + 1, 1, none⟩ (.int .i64 t.n)).setCell ⟨w.heap.size + 1, 2, none⟩ (.string t.s)).setCell ⟨w.heap.size + 1, 3, none⟩ (.slice h.lo t.ls.length h.lc)).setCell ⟨w.heap.size + 1, 4, none⟩ (.slice h.to t.ts.length h.tc) = W4 at h5 b5 ⊢
      obtain ⟨e0', e1, e2, e3, e4⟩ := five_cells h5
      clear hW
      exact bodyPost_ret (v := .tuple #[t.val h, .int .i64 0]) (by simp [results, Try.results120, go_sem, e0', e1, e2, e3, e4, Tm.val, Tm.vals]) rfl ⟨h, rfl, fun _ g => g.step (RanS.of_below b5), b5⟩
end Go.Proofs.Ytfechgahafbphaa
