/-
  battenlaw04.told.
-/
import Derived.Test.YtijdlihodpodjaaQTrmE
import Derived.Test.YtijdlihodpodjaaQTrmF
import Derived.Test.YtijdlihodpodjaaQTrmWorks
import Derived.Test.YtijdlihodpodjaaQTrmB
namespace Go.Proofs.Ytijdlihodpodjaa
open Go.RowKit Go.Shelf Lvl Trm

namespace Trm
/-- The error that is asked for: what is too great is ErrMany. -/
def firstE (b : Tm) (f : Int) : Int := if f = 0 ∧ (b.deep = true ∨ b.may = false) then 4 else f
/-- Is what is answered what is wanted? -/
noncomputable def toldB (a : Tm) (e : Int) (b : Tm) (f : Int) : Bool := if firstE b f = 0 then e == 0 && same a b else e == firstE b f && same a zeroT
end Trm

set_option maxRecDepth 100000 in
set_option maxHeartbeats 4000000 in
theorem told_any (a b : Tm) (ha hb : Hd) (e f : Int) (w : World) (hia : a.In w.heap.size w ha) (hib : b.In w.heap.size w hb) :
    Calls Try.prog 37 #[a.val ha, .int .i64 e, b.val hb, .int .i64 f] w fun x w' => x = .returned (.bool (toldB a e b f)) ∧ Below w.heap.size w w' := by
  have HD := Lib.hid (fun (W : World) (hW : Below w.heap.size w W) => Deep_any b hb W (carry hib hW))
  have HM := Lib.hid (fun (W : World) (hW : Below w.heap.size w W) => RefTMay_any b hb W (carry hib hW))
  have HS := Lib.hid (fun (W : World) (hW : Below w.heap.size w W) => RefSame_any a b ha hb W (carry hia hW) (carry hib hW))
  have HZ := Lib.hid (fun (W : World) (hW : Below w.heap.size w W) => (show Calls Try.prog 18 #[a.val ha, .agg #[.int .u8 0, .int .i64 0, .string ⟨#[]⟩, .slice none 0 0, .slice none 0 0]] W fun x w' => x = .returned (.bool (same a zeroT)) ∧ Below W.heap.size W w' from RefSame_any a zeroT ha ⟨none, 0, none, 0⟩ W (carry hia hW) (leaf_in (by decide) (by decide) (by decide) (by decide) (by decide))))
  have HB0 := Lib.hid (below_two w (a.box ha) (b.box hb))
  have HA0 := Lib.hid (new1of2 w (a.box ha) (b.box hb))
  have HX0 := Lib.hid (new2 w (a.box ha) (b.box hb))
  obtain ⟨G, hG⟩ : ∃ G, G = toldB a e b f := ⟨_, rfl⟩
  rw [← hG]
  generalize hs1 : same a b = S1 at HS
  generalize hs2 : same a zeroT = S2 at HZ
  unfold toldB firstE at hG
  rw [hs1, hs2] at hG
  have HG := Lib.hid hG
  unfold Tm.val at HD HM HS HZ ⊢
  dsimp only [Tm.vals] at HD HM HS HZ ⊢
  clear hia hib hG hs1 hs2
  unfold Tm.box at HA0 HX0 HB0
  dsimp only [Tm.vals] at HA0 HX0 HB0
  by_cases hf : f = 0
  · subst hf
    cases hd : b.deep
    · rw [hd] at HD HG
      cases hm : b.may
      · rw [hm] at HM HG
        go_enter Try.func37, Try.ntmps37
        go_wp2_with fail
        refine (HD.out _ HB0.out).mono ?_
        rintro x w1 ⟨rfl, b1⟩
        have HB1 := Lib.hid (Trm.go HB0.out b1)
        obtain ⟨a0, a1, a2, a3, a4⟩ := five_cells (Lvl.keep b1 (HA0.out))
        obtain ⟨x0, x1, x2, x3, x4⟩ := five_cells (Lvl.keep b1 (HX0.out))
        have HA1 := Lib.hid (Lvl.keep b1 HA0.out)
        have HX1 := Lib.hid (Lvl.keep b1 HX0.out)
        clear b1
        go_wp2_with fail
        refine (HM.out _ HB1.out).mono ?_
        rintro x w2 ⟨rfl, b2⟩
        have HB2 := Lib.hid (Trm.go HB1.out b2)
        obtain ⟨a0, a1, a2, a3, a4⟩ := five_cells (Lvl.keep b2 (HA1.out))
        obtain ⟨x0, x1, x2, x3, x4⟩ := five_cells (Lvl.keep b2 (HX1.out))
        have HA2 := Lib.hid (Lvl.keep b2 HA1.out)
        have HX2 := Lib.hid (Lvl.keep b2 HX1.out)
        clear b2
        by_cases he : e = 4
        · have d9 : (e == 4) = true := by simpa using he
          have HE : Hid (G = S2) := Lib.hid (by have h0 := HG.out; simp_all)
          clear he
          go_wp2_with fail
          refine (HZ.out _ HB2.out).mono ?_
          rintro x w9 ⟨rfl, b9⟩
          have HB9 := Lib.hid (Trm.go HB2.out b9)
          clear b9
          go_wp2_with fail
          go_ret
          exact ⟨ret_bool HE.out.symm, HB9.out⟩
        · have d9 : (e == 4) = false := by simpa using he
          have HE : Hid (G = false) := Lib.hid (by have h0 := HG.out; simp_all)
          clear he
          go_wp2_with fail
          go_ret
          exact ⟨ret_bool HE.out.symm, HB2.out⟩
      · rw [hm] at HM HG
        go_enter Try.func37, Try.ntmps37
        go_wp2_with fail
        refine (HD.out _ HB0.out).mono ?_
        rintro x w1 ⟨rfl, b1⟩
        have HB1 := Lib.hid (Trm.go HB0.out b1)
        obtain ⟨a0, a1, a2, a3, a4⟩ := five_cells (Lvl.keep b1 (HA0.out))
        obtain ⟨x0, x1, x2, x3, x4⟩ := five_cells (Lvl.keep b1 (HX0.out))
        have HA1 := Lib.hid (Lvl.keep b1 HA0.out)
        have HX1 := Lib.hid (Lvl.keep b1 HX0.out)
        clear b1
        go_wp2_with fail
        refine (HM.out _ HB1.out).mono ?_
        rintro x w2 ⟨rfl, b2⟩
        have HB2 := Lib.hid (Trm.go HB1.out b2)
        obtain ⟨a0, a1, a2, a3, a4⟩ := five_cells (Lvl.keep b2 (HA1.out))
        obtain ⟨x0, x1, x2, x3, x4⟩ := five_cells (Lvl.keep b2 (HX1.out))
        have HA2 := Lib.hid (Lvl.keep b2 HA1.out)
        have HX2 := Lib.hid (Lvl.keep b2 HX1.out)
        clear b2
        by_cases he : e = 0
        · have d9 : (e == 0) = true := by simpa using he
          have HE : Hid (G = S1) := Lib.hid (by have h0 := HG.out; simp_all)
          clear he
          go_wp2_with fail
          refine (HS.out _ HB2.out).mono ?_
          rintro x w9 ⟨rfl, b9⟩
          have HB9 := Lib.hid (Trm.go HB2.out b9)
          clear b9
          go_wp2_with fail
          go_ret
          exact ⟨ret_bool HE.out.symm, HB9.out⟩
        · have d9 : (e == 0) = false := by simpa using he
          have HE : Hid (G = false) := Lib.hid (by have h0 := HG.out; simp_all)
          clear he
          go_wp2_with fail
          go_ret
          exact ⟨ret_bool HE.out.symm, HB2.out⟩
    · rw [hd] at HD HG
      go_enter Try.func37, Try.ntmps37
      go_wp2_with fail
      refine (HD.out _ HB0.out).mono ?_
      rintro x w1 ⟨rfl, b1⟩
      have HB1 := Lib.hid (Trm.go HB0.out b1)
      obtain ⟨a0, a1, a2, a3, a4⟩ := five_cells (Lvl.keep b1 (HA0.out))
      obtain ⟨x0, x1, x2, x3, x4⟩ := five_cells (Lvl.keep b1 (HX0.out))
      have HA1 := Lib.hid (Lvl.keep b1 HA0.out)
      have HX1 := Lib.hid (Lvl.keep b1 HX0.out)
      clear b1
      by_cases he : e = 4
      · have d9 : (e == 4) = true := by simpa using he
        have HE : Hid (G = S2) := Lib.hid (by have h0 := HG.out; simp_all)
        clear he
        go_wp2_with fail
        refine (HZ.out _ HB1.out).mono ?_
        rintro x w9 ⟨rfl, b9⟩
        have HB9 := Lib.hid (Trm.go HB1.out b9)
        clear b9
        go_wp2_with fail
        go_ret
        exact ⟨ret_bool HE.out.symm, HB9.out⟩
      · have d9 : (e == 4) = false := by simpa using he
        have HE : Hid (G = false) := Lib.hid (by have h0 := HG.out; simp_all)
        clear he
        go_wp2_with fail
        go_ret
        exact ⟨ret_bool HE.out.symm, HB1.out⟩
  · have d1 : (f == 0) = false := by simpa using hf
    have HF := Lib.hid hf
    have HG2 : Hid (G = (e == f && S2)) := Lib.hid (by have h0 := HG.out; simp_all)
    clear hf HG
    have HG := HG2
    go_enter Try.func37, Try.ntmps37
    by_cases he : e = f
    · have d9 : (e == f) = true := by simpa using he
      have HE : Hid (G = S2) := Lib.hid (by have h0 := HG.out; simp_all)
      clear he
      go_wp2_with fail
      refine (HZ.out _ HB0.out).mono ?_
      rintro x w9 ⟨rfl, b9⟩
      have HB9 := Lib.hid (Trm.go HB0.out b9)
      clear b9
      go_wp2_with fail
      go_ret
      exact ⟨ret_bool HE.out.symm, HB9.out⟩
    · have d9 : (e == f) = false := by simpa using he
      have HE : Hid (G = false) := Lib.hid (by have h0 := HG.out; simp_all)
      clear he
      go_wp2_with fail
      go_ret
      exact ⟨ret_bool HE.out.symm, HB0.out⟩
end Go.Proofs.Ytijdlihodpodjaa

/-
  When told says yes.
-/
namespace Go.Proofs.Ytijdlihodpodjaa
open Lvl Trm

namespace Trm
theorem told_may {y : Tm} (h : y.may = true) : toldB y 0 y 0 = true := by
  have h1 : firstE y 0 = 0 := by unfold firstE; rw [if_neg]; rintro ⟨_, h2 | h2⟩; rw [may_not_deep h] at h2; cases h2; rw [h] at h2; cases h2
  unfold toldB
  rw [if_pos h1, same_iff.2 rfl]
  rfl
theorem told_great {y : Tm} (h : y.may = false) : toldB zeroT 4 y 0 = true := by
  have h1 : firstE y 0 = 4 := by unfold firstE; rw [if_pos ⟨rfl, Or.inr h⟩]
  unfold toldB
  rw [if_neg (by rw [h1]; decide), h1, same_iff.2 rfl]
  rfl
theorem told_err {e : Int} {z : Tm} (h : e ≠ 0) : toldB zeroT e z e = true := by
  have h1 : firstE z e = e := by unfold firstE; rw [if_neg (fun hh => h hh.1)]
  unfold toldB
  rw [if_neg (by rw [h1]; exact h), h1, same_iff.2 rfl]
  simp
/-- What is put, or too great. -/
theorem told_put {y : Tm} : toldB (if y.may = true then (y, (0 : Int)) else (zeroT, 4)).1 (if y.may = true then (y, (0 : Int)) else (zeroT, 4)).2 y 0 = true := by
  cases h : y.may
  · rw [if_neg (by simp)]; exact told_great h
  · rw [if_pos rfl]; exact told_may h
end Trm
end Go.Proofs.Ytijdlihodpodjaa
