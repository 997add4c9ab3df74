/-
  battenref02: At.
-/
import Derived.Test.YtfechgahafbphaaLevRef
import Derived.Test.YtfechgahafbphaaLevAt
import Derived.Test.YtfechgahafbphaaLevMath2
namespace Go.Proofs.Ytfechgahafbphaa
open Go.RowKit Go.Shelf Lvl Trm

namespace Lvl
def Four.in1 (n : Four) (k : Nat) : Prop := 0 ≤ n.at_ k ∧ n.at_ k ≤ 2199023255552
theorem fits_iff (n : Four) : n.fits = true ↔ ∀ k, k < 4 → n.in1 k := by
  unfold Four.fits
  rw [decide_eq_true_iff]
  constructor
  · intro h k hk
    match k, hk with
    | 0, _ => exact h.1
    | 1, _ => exact h.2.1
    | 2, _ => exact h.2.2.1
    | 3, _ => exact h.2.2.2
  · intro h
    exact ⟨h 0 (by omega), h 1 (by omega), h 2 (by omega), h 3 (by omega)⟩
theorem four_cell {n : Four} {b : Nat} {w : World} (h : w.heap[b]? = some n.box) (k : Nat) (hk : k < 4) : w.cell? ⟨b, k, none⟩ = some (.int .i64 (n.at_ k)) := by
  obtain ⟨c0, c1, c2, c3⟩ := Four.cells h
  match k, hk with
  | 0, _ => exact c0
  | 1, _ => exact c1
  | 2, _ => exact c2
  | 3, _ => exact c3
def ARel (w : World) (l : Lv) (n : Four) (o i : Value) (wr : World) : Prop := ∃ k : Nat, i = .int .i64 k ∧ k ≤ 4 ∧ o = .int .i64 (atAll n l.c (l.upto k)) ∧ (∀ j, j < k → n.in1 j) ∧ wr.heap[w.heap.size]? = some l.box ∧ wr.heap[w.heap.size + 1]? = some n.box ∧ Below w.heap.size w wr
theorem ret_i64 {a b : Int} (h : a = b) : Ending.returned (.int .i64 a) = .returned (.int .i64 b) := by rw [h]
theorem atAll_yes (l : Lv) (n : Four) {k : Nat} (hk : k < 4) (hn : l.at_ k ≠ -1) : atAll n l.c (l.upto (k + 1)) = max (atAll n l.c (l.upto k)) (n.at_ k + l.at_ k) := by
  rw [(l.upto_mem k hk hn).2.2, atAll_snoc]
end Lvl

set_option maxRecDepth 100000 in
set_option maxHeartbeats 4000000 in
theorem RefAt_any (l : Lv) (n : Four) (w : World) :
    Calls Try.prog 43 #[l.val, n.val] w fun e w' => e = .returned (.int .i64 (l.num n)) ∧ Below w.heap.size w w' := by
  have HM := Lib.hid (fun W => RefMay_any l W)
  have hmax := run_max
  obtain ⟨G, hG⟩ : ∃ G, G = l.num n := ⟨_, rfl⟩
  rw [← hG]
  have HG := Lib.hid hG
  have HN : Hid (∀ k, k < 4 → ¬ n.in1 k → G = 0) := Lib.hid (fun k hk h => by
    rw [hG]
    unfold Lv.num
    rw [if_neg (fun hf => h ((fits_iff n).1 hf k hk))]
    split <;> rfl)
  have H0 := Lib.hid (new1of2 w l.box n.box)
  have H1 := Lib.hid (new2 w l.box n.box)
  have HB := Lib.hid (below_two w l.box n.box)
  clear hG
  cases hm : l.may
  · have HZ : Hid (0 = G) := Lib.hid (by rw [HG.out]; unfold Lv.num; rw [hm]; rfl)
    rw [hm] at HM
    clear hm HG HN
    unfold Lv.val at HM ⊢
    unfold Four.val
    go_enter Try.func43, Try.ntmps43
    go_wp2_with fail
    go_loopw [5, 6] (fun o i wr => i = .int .i64 ((0 : Nat) : Int) ∧ ARel w l n o i wr) (fun _ i _ => 4 - (intOf i).toNat)
    case atStart => exact ⟨rfl, 0, rfl, by omega, rfl, fun j hj => absurd hj (by omega), H0.out, H1.out, HB.out⟩
    case round =>
      clear H0 H1 HB
      obtain ⟨hk0, k, rfl, hk, rfl, hin, h0, h1, hb⟩ := hrel
      obtain rfl : k = 0 := by injection hk0 with _ e; omega
      have X0 := Lib.hid h0
      have XB := Lib.hid hb
      obtain ⟨c0, c1, c2, c3, c4⟩ := Lv.cells h0
      clear h0 h1 hb hin
      by_cases hlt : 0 < 4
      · go_wp2_with fail
        refine (HM.out _).mono ?_
        rintro e w2 ⟨rfl, b2⟩
        have B2 := Lib.hid (XB.out.trans (b2.mono XB.out.size))
        clear b2 c0 c1 c2 c3 c4
        go_wp2_with fail
        go_ret
        exact ⟨ret_i64 HZ.out, B2.out⟩
      · exact absurd hlt (by omega)
  · rw [hm] at HM
    have HE : Hid ((∀ k, k < 4 → n.in1 k) → atAll n l.c (l.upto 4) = G) := Lib.hid (fun h => by
      rw [HG.out]
      unfold Lv.num
      rw [if_pos hm, if_pos ((fits_iff n).2 h)]
      rfl)
    have hwi := (Lvl.within_iff l).1 (may_within hm)
    have HWP : Hid (∀ k, k < 4 → -1 ≤ l.at_ k ∧ l.at_ k ≤ 1099511627776) := Lib.hid (fun k hk => by
      match k, hk with
      | 0, _ => exact hwi.2.1
      | 1, _ => exact hwi.2.2.1
      | 2, _ => exact hwi.2.2.2.1
      | 3, _ => exact hwi.2.2.2.2)
    clear hm HG hwi
    unfold Lv.val at HM ⊢
    unfold Four.val
    go_enter Try.func43, Try.ntmps43
    go_wp2_with fail
    go_loopw [5, 6] (fun o i wr => ARel w l n o i wr) (fun _ i _ => 4 - (intOf i).toNat)
    case atStart => exact ⟨0, rfl, by omega, rfl, fun j hj => absurd hj (by omega), H0.out, H1.out, HB.out⟩
    case round =>
      clear H0 H1 HB
      obtain ⟨k, rfl, hk, rfl, hin, h0, h1, hb⟩ := hrel
      have X0 := Lib.hid h0
      have X1 := Lib.hid h1
      have XB := Lib.hid hb
      have HIN := Lib.hid hin
      obtain ⟨c0, c1, c2, c3, c4⟩ := Lv.cells h0
      clear h0 h1 hb hin
      by_cases hlt : k < 4
      · have N1 := Lib.hid (fun h => atAll_yes l n hlt h)
        have N2 := Lib.hid (fun h => congrArg (atAll n l.c) (l.upto_skip k hlt h))
        have hp1 := HWP.out k hlt
        have N3 := Lib.hid (HN.out k hlt)
        have N4 := Lib.hid (show n.in1 k → ∀ j, j < k + 1 → n.in1 j from fun h j hj => by
          rcases (show j < k ∨ j = k by omega) with h' | rfl
          · exact HIN.out j h'
          · exact h)
        go_wp2_with fail
        refine (HM.out _).mono ?_
        rintro e w2 ⟨rfl, b2⟩
        have X2 := Lib.hid (Lvl.keep b2 X0.out)
        have Y2 := Lib.hid (Lvl.keep b2 X1.out)
        have B2 := Lib.hid (XB.out.trans (b2.mono XB.out.size))
        clear b2 c0 c1 c2 c3 c4
        have c1 := at_cell X2.out k hlt
        have d1 := four_cell Y2.out k hlt
        unfold Four.in1 at N3 N4
        obtain ⟨p, hp⟩ : ∃ p, p = l.at_ k := ⟨_, rfl⟩
        obtain ⟨a, ha⟩ : ∃ a, a = n.at_ k := ⟨_, rfl⟩
        obtain ⟨o, ho⟩ : ∃ o, o = atAll n l.c (l.upto k) := ⟨_, rfl⟩
        rw [← hp] at c1 N1 N2 hp1
        rw [← ha] at d1 N1 N3 N4
        rw [← ho] at N1 N2 ⊢
        clear hp ha ho
        by_cases hA : a < 0
        · have dA : decide (a < 0) = true := by simpa using hA
          have HZ := Lib.hid (N3.out (by omega)).symm
          clear hA
          go_wp2_with fail
          go_ret
          exact ⟨ret_i64 HZ.out, B2.out⟩
        · have dA : decide (a < 0) = false := by simpa using hA
          by_cases hC : 2199023255552 < a
          · have dC : decide (2199023255552 < a) = true := by simpa using hC
            have HZ := Lib.hid (N3.out (by omega)).symm
            clear hA hC
            go_wp2_with fail
            go_ret
            exact ⟨ret_i64 HZ.out, B2.out⟩
          · have dC : decide (2199023255552 < a) = false := by simpa using hC
            have HI := Lib.hid (N4.out (by omega))
            have hwr : IntKind.i64.wrap (a + p) = a + p := IntWalk.i64_in _ (by omega)
            by_cases hP : 0 ≤ p
            · have dP : decide (0 ≤ p) = true := by simpa using hP
              have HO := Lib.hid (N1.out (by omega))
              clear hA hC hP hp1
              go_wp2_with fail
              go_region
              go_wp2_with fail
              go_roundw
              case rel => exact ⟨k + 1, by go_num, by omega, by rw [HO.out], HI.out, Lvl.keep (drewN_below _ _ 1) X2.out, Lvl.keep (drewN_below _ _ 1) Y2.out, B2.out.trans (drewN_below _ _ 1)⟩
              case measure => simp [intOf]; omega
            · have dP : decide (0 ≤ p) = false := by simpa using hP
              have HO := Lib.hid (N2.out (by omega))
              clear hA hC hP hp1
              go_wp2_with fail
              go_roundw
              case rel => exact ⟨k + 1, by go_num, by omega, by rw [HO.out], HI.out, X2.out, Y2.out, B2.out⟩
              case measure => simp [intOf]; omega
      · obtain rfl : k = 4 := by omega
        have HO := Lib.hid (HE.out HIN.out)
        go_wp2_with fail
        go_ret
        exact ⟨ret_i64 HO.out, XB.out⟩
end Go.Proofs.Ytfechgahafbphaa
