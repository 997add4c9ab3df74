/-
  battenref02.May.
-/
import Derived.Test.YtijdlihodpodjaaTrmDeep
import Derived.Test.YtijdlihodpodjaaLevMath
import Derived.BigQuiet
import Derived.Deep.QuietTactic
namespace Go.Proofs.Ytijdlihodpodjaa
open Go.RowKit Go.Shelf Lvl Trm

/-- Is a number of a parameter such as may be beside C? -/
def Trm.good (c p : Int) : Prop := -1 ≤ p ∧ p ≤ 1099511627776 ∧ (c ≤ p → 0 ≤ p → c ≤ 0)
theorem Trm.good_of_may {l : Lv} (h : l.may = true) (k : Nat) (hk : k < 4) : good l.c (l.at_ k) := by
  have := (may_iff l).1 h
  unfold Lv.ok at this
  have h4 : k = 0 ∨ k = 1 ∨ k = 2 ∨ k = 3 := by omega
  rcases h4 with rfl | rfl | rfl | rfl <;> (unfold good; simp only [Lv.at_]; omega)
theorem Trm.may_of_good {l : Lv} (h0 : 0 ≤ l.c) (h1 : l.c ≤ 1099511627776) (h : ∀ j, j < 4 → good l.c (l.at_ j)) : l.may = true := by
  have g0 := h 0 (by omega)
  have g1 := h 1 (by omega)
  have g2 := h 2 (by omega)
  have g3 := h 3 (by omega)
  simp only [good, Lv.at_] at g0 g1 g2 g3
  rw [may_iff]
  unfold Lv.ok
  omega
def Trm.GoodRel (w : World) (l : Lv) (i : Value) (wr : World) : Prop := ∃ k : Nat, i = .int .i64 k ∧ k ≤ 4 ∧ (∀ j, j < k → good l.c (l.at_ j)) ∧ Kept w wr l.box

theorem Trm.at_cell {l : Lv} {b : Nat} {w : World} (h : w.heap[b]? = some l.box) (k : Nat) (hk : k < 4) : w.cell? ⟨b, 1 + k, none⟩ = some (.int .i64 (l.at_ k)) := by
  obtain ⟨_, c1, c2, c3, c4⟩ := Lv.cells h
  have h4 : k = 0 ∨ k = 1 ∨ k = 2 ∨ k = 3 := by omega
  rcases h4 with rfl | rfl | rfl | rfl
  · exact c1
  · exact c2
  · exact c3
  · exact c4

theorem Trm.Kept.drewN {w wr : World} {o : Obj} (h : Kept w wr o) (n : Nat) : Kept w (wr.drewN n) o := by
  refine h.step ⟨?_, ?_, ?_, ?_, ?_⟩ <;> simp [World.drewN]

set_option maxRecDepth 100000 in
set_option maxHeartbeats 2000000 in
theorem RefMay_any (l : Lv) (w : World) :
    Calls Try.prog 128 #[l.val] w fun e w' => e = .returned (.bool l.may) ∧ Below w.heap.size w w' := by
  obtain ⟨G, hG⟩ : ∃ G, G = l.may := ⟨_, rfl⟩
  rw [← hG]
  have HG := Lib.hid hG
  clear hG
  by_cases hc : 0 ≤ l.c ∧ l.c ≤ 1099511627776
  · obtain ⟨hc0, hc1⟩ := hc
    unfold Lv.val
    go_enter Try.func128, Try.ntmps128
    go_wp2_with fail
    go_loopw [3] (fun i wr => GoodRel w l i wr) (fun i _ => 4 - (intOf i).toNat)
    case atStart => exact ⟨0, rfl, by omega, fun j hj => absurd hj (by omega), Kept.start _ _⟩
    case round =>
      obtain ⟨k, rfl, hk, hgood, hkept⟩ := hrel
      have HK := Lib.hid hkept
      have HA := Lib.hid hgood
      clear hkept hgood
      obtain ⟨c0, _⟩ := Lv.cells HK.out.box
      by_cases hlt : k < 4
      · have c1 := at_cell HK.out.box k hlt
        have HN : Hid (¬ good l.c (l.at_ k) → false = G) := Lib.hid (fun hn => by
          rw [HG.out]
          refine (Bool.eq_false_iff.2 fun h => hn ?_).symm
          exact good_of_may h k hlt)
        have HY : Hid (good l.c (l.at_ k) → ∀ j, j < k + 1 → good l.c (l.at_ j)) := Lib.hid (fun hy j hj => by
          rcases (show j < k ∨ j = k by omega) with h | rfl
          · exact HA.out j h
          · exact hy)
        generalize l.at_ k = p at c1 HN HY
        by_cases hA : p < -1
        · have dA : decide (p < -1) = true := by simpa using hA
          have HF := Lib.hid (HN.out (by unfold good; omega))
          clear hA
          go_wp2_with fail
          go_quiet (fail)
          go_wp2_with fail
          go_ret
          exact ⟨ret_bool HF.out, (HK.out.drewN _).bel⟩
        · have dA : decide (p < -1) = false := by simpa using hA
          by_cases hB : 1099511627776 < p
          · have dB : decide (1099511627776 < p) = true := by simpa using hB
            have HF := Lib.hid (HN.out (by unfold good; omega))
            clear hA hB
            go_wp2_with fail
            go_quiet (fail)
            go_wp2_with fail
            go_ret
            exact ⟨ret_bool HF.out, (HK.out.drewN _).bel⟩
          · have dB : decide (1099511627776 < p) = false := by simpa using hB
            by_cases hC : l.c ≤ p
            · have dC : decide (l.c ≤ p) = true := by simpa using hC
              have dD : decide (0 ≤ p) = true := by simp; omega
              by_cases hE : 0 < l.c
              · have dE : decide (0 < l.c) = true := by simpa using hE
                have HF := Lib.hid (HN.out (by unfold good; omega))
                clear hA hB hC hE
                go_wp2_with fail
                go_quiet (fail)
                go_wp2_with fail
                go_ret
                exact ⟨ret_bool HF.out, (HK.out.drewN _).bel⟩
              · have dE : decide (0 < l.c) = false := by simpa using hE
                have HF := Lib.hid (HY.out (by unfold good; omega))
                clear hA hB hC hE
                go_wp2_with fail
                go_quiet (fail)
                go_wp2_with fail
                go_roundw
                case rel => exact ⟨k + 1, by go_num, by omega, HF.out, HK.out.drewN _⟩
                case measure => simp [intOf]; omega
            · have dC : decide (l.c ≤ p) = false := by simpa using hC
              have HF := Lib.hid (HY.out (by unfold good; omega))
              clear hA hB hC
              go_wp2_with fail
              go_quiet (fail)
              go_wp2_with fail
              go_roundw
              case rel => exact ⟨k + 1, by go_num, by omega, HF.out, HK.out.drewN _⟩
              case measure => simp [intOf]; omega
      · have HF : Hid (true = G) := by
          have hg := HA.out
          exact Lib.hid (by rw [HG.out]; exact (may_of_good hc0 hc1 fun j hj => hg j (by omega)).symm)
        go_wp2_with fail
        go_ret
        exact ⟨ret_bool HF.out, HK.out.bel⟩
  · have HF : Hid (false = G) := Lib.hid (by
      rw [HG.out]
      refine (Bool.eq_false_iff.2 fun h => ?_).symm
      have := (may_iff l).1 h
      unfold Lv.ok at this
      omega)
    have hc' : l.c < 0 ∨ (0 ≤ l.c ∧ 1099511627776 < l.c) := by omega
    clear hc
    rcases hc' with hc | ⟨hc0, hc⟩
    all_goals
      unfold Lv.val
      go_enter Try.func128, Try.ntmps128
      go_wp2_with fail
      go_ret
      exact ⟨ret_bool HF.out, below_one _ _⟩
end Go.Proofs.Ytijdlihodpodjaa
