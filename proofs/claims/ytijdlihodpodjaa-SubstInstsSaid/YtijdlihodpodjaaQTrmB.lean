/-
  battenref02.May.
-/
import Derived.Test.YtijdlihodpodjaaQTrmA
import Derived.Test.YtijdlihodpodjaaQLevB
import Derived.BigQuiet
import Derived.Deep.QuietTactic
namespace Go.Proofs.Ytijdlihodpodjaa
open Go.RowKit Go.Shelf Lvl Trm

/-- Is a number of a parameter such as may be beside C? -/
def Trm.good (c p : Int) : Prop := -1 ≤ p ∧ p ≤ 1099511627776 ∧ (c ≤ p → 0 ≤ p → c ≤ 0)
theorem Trm.good_of_may {l : Lv} (h : l.may = true) (k : Nat) (hk : k < 4) : good l.c (l.at_ k) := by
  have := (may_iff l).1 h
  unfold Lv.ok at this
  have h4 : k = 0 ∨ k = 1 ∨ k = 2 ∨ k = 3 := by omega
  rcases h4 with rfl | rfl | rfl | rfl <;> (unfold good; simp only [Lv.at_]; omega)
theorem Trm.may_of_good {l : Lv} (h0 : 0 ≤ l.c) (h1 : l.c ≤ 1099511627776) (h : ∀ j, j < 4 → good l.c (l.at_ j)) : l.may = true := by
  have g0 := h 0 (by omega)
  have g1 := h 1 (by omega)
  have g2 := h 2 (by omega)
  have g3 := h 3 (by omega)
  simp only [good, Lv.at_] at g0 g1 g2 g3
  rw [may_iff]
  unfold Lv.ok
  omega
def Trm.GoodRel (w : World) (l : Lv) (i : Value) (wr : World) : Prop := ∃ k : Nat, i = .int .i64 k ∧ k ≤ 4 ∧ (∀ j, j < k → good l.c (l.at_ j)) ∧ Kept w wr l.box

theorem Trm.at_cell {l : Lv} {b : Nat} {w : World} (h : w.heap[b]? = some l.box) (k : Nat) (hk : k < 4) : w.cell? ⟨b, 1 + k, none⟩ = some (.int .i64 (l.at_ k)) := by
  obtain ⟨_, c1, c2, c3, c4⟩ := Lv.cells h
  have h4 : k = 0 ∨ k = 1 ∨ k = 2 ∨ k = 3 := by omega
  rcases h4 with rfl | rfl | rfl | rfl
  · exact c1
  · exact c2
  · exact c3
  · exact c4

theorem Trm.Kept.drewN {w wr : World} {o : Obj} (h : Kept w wr o) (n : Nat) : Kept w (wr.drewN n) o := by
  refine h.step ⟨?_, ?_, ?_, ?_, ?_⟩ <;> simp [World.drewN]

set_option maxRecDepth 100000 in
set_option maxHeartbeats 2000000 in
theorem RefMay_any (l : Lv) (w : World) :
    Calls Try.prog 128 #[l.val] w fun e w' => e = .returned (.bool l.may) ∧ Below w.heap.size w w' := by
  obtain ⟨G, hG⟩ : ∃ G, G = l.may := ⟨_, rfl⟩
  rw [← hG]
  have HG := Lib.hid hG
  clear hG
  by_cases hc : 0 ≤ l.c ∧ l.c ≤ 1099511627776
  · obtain ⟨hc0, hc1⟩ := hc
    unfold Lv.val
    go_enter Try.func128, Try.ntmps128
    go_wp2_with fail
    go_loopw [3] (fun i wr => GoodRel w l i wr) (fun i _ => 4 - (intOf i).toNat)
    case atStart => exact ⟨0, rfl, by omega, fun j hj => absurd hj (by omega), Kept.start _ _⟩
    case round =>
      obtain ⟨k, rfl, hk, hgood, hkept⟩ := hrel
      have HK := Lib.hid hkept
      have HA := Lib.hid hgood
      clear hkept hgood
      obtain ⟨c0, _⟩ := Lv.cells HK.out.box
      by_cases hlt : k < 4
      · have c1 := at_cell HK.out.box k hlt
        have HN : Hid (¬ good l.c (l.at_ k) → false = G) := Lib.hid (fun hn => by
          rw [HG.out]
          refine (Bool.eq_false_iff.2 fun h => hn ?_).symm
          exact good_of_may h k hlt)
        have HY : Hid (good l.c (l.at_ k) → ∀ j, j < k + 1 → good l.c (l.at_ j)) := Lib.hid (fun hy j hj => by
          rcases (show j < k ∨ j = k by omega) with h | rfl
          · exact HA.out j h
          · exact hy)
        generalize l.at_ k = p at c1 HN HY
        by_cases hA : p < -1
        · have dA : decide (p < -1) = true := by simpa using hA
          have HF := Lib.hid (HN.out (by unfold good; omega))
          clear hA
          go_wp2_with fail
          go_quiet (fail)
          go_wp2_with fail
          go_ret
          exact ⟨ret_bool HF.out, (HK.out.drewN _).bel⟩
        · have dA : decide (p < -1) = false := by simpa using hA
          by_cases hB : 1099511627776 < p
          · have dB : decide (1099511627776 < p) = true := by simpa using hB
            have HF := Lib.hid (HN.out (by unfold good; omega))
            clear hA hB
            go_wp2_with fail
            go_quiet (fail)
            go_wp2_with fail
            go_ret
            exact ⟨ret_bool HF.out, (HK.out.drewN _).bel⟩
          · have dB : decide (1099511627776 < p) = false := by simpa using hB
            by_cases hC : l.c ≤ p
            · have dC : decide (l.c ≤ p) = true := by simpa using hC
              have dD : decide (0 ≤ p) = true := by simp; omega
              by_cases hE : 0 < l.c
              · have dE : decide (0 < l.c) = true := by simpa using hE
                have HF := Lib.hid (HN.out (by unfold good; omega))
                clear hA hB hC hE
                go_wp2_with fail
                go_quiet (fail)
                go_wp2_with fail
                go_ret
                exact ⟨ret_bool HF.out, (HK.out.drewN _).bel⟩
              · have dE : decide (0 < l.c) = false := by simpa using hE
                have HF := Lib.hid (HY.out (by unfold good; omega))
                clear hA hB hC hE
                go_wp2_with fail
                go_quiet (fail)
                go_wp2_with fail
                go_roundw
                case rel => exact ⟨k + 1, by go_num, by omega, HF.out, HK.out.drewN _⟩
                case measure => simp [intOf]; omega
            · have dC : decide (l.c ≤ p) = false := by simpa using hC
              have HF := Lib.hid (HY.out (by unfold good; omega))
              clear hA hB hC
              go_wp2_with fail
              go_quiet (fail)
              go_wp2_with fail
              go_roundw
              case rel => exact ⟨k + 1, by go_num, by omega, HF.out, HK.out.drewN _⟩
              case measure => simp [intOf]; omega
      · have HF : Hid (true = G) := by
          have hg := HA.out
          exact Lib.hid (by rw [HG.out]; exact (may_of_good hc0 hc1 fun j hj => hg j (by omega)).symm)
        go_wp2_with fail
        go_ret
        exact ⟨ret_bool HF.out, HK.out.bel⟩
  · have HF : Hid (false = G) := Lib.hid (by
      rw [HG.out]
      refine (Bool.eq_false_iff.2 fun h => ?_).symm
      have := (may_iff l).1 h
      unfold Lv.ok at this
      omega)
    have hc' : l.c < 0 ∨ (0 ≤ l.c ∧ 1099511627776 < l.c) := by omega
    clear hc
    rcases hc' with hc | ⟨hc0, hc⟩
    all_goals
      unfold Lv.val
      go_enter Try.func128, Try.ntmps128
      go_wp2_with fail
      go_ret
      exact ⟨ret_bool HF.out, below_one _ _⟩
end Go.Proofs.Ytijdlihodpodjaa

/-
  battenref03.node.
-/
namespace Go.Proofs.Ytijdlihodpodjaa
open Go.RowKit Go.Shelf Lvl Trm

theorem kids_same (k : Int) (w : World) :
    Calls Try.prog 136 #[.int .u8 k] w fun e w' => e = .returned (.int .i64 (kids k)) ∧ w' = w :=
  (kids_any k w).mono fun _ _ ⟨h, h'⟩ => ⟨h, h'.symm⟩
theorem RefMay_at (a : Lv) (r : Bool) (h : a.may = r) (w : World) :
    Calls Try.prog 128 #[a.val] w fun e w' => e = .returned (.bool r) ∧ Below w.heap.size w w' := by
  have := RefMay_any a w; rwa [h] at this

theorem Trm.empty_iff (s : ByteArray) : s.toList.isEmpty = decide (s.size = 0) := by
  rw [ByteArray.toList_eq]
  show s.data.toList.isEmpty = decide (s.data.size = 0)
  rw [← Array.length_toList]
  cases s.data.toList <;> simp
def Trm.LvsRel (w : World) (o : Obj) (ls : List Lv) (i : Value) (wr : World) : Prop :=
  ∃ k : Nat, i = .int .i64 k ∧ k ≤ ls.length ∧ (ls.take k).all Lv.may = true ∧ Kept w wr o

set_option maxRecDepth 100000 in
set_option maxHeartbeats 4000000 in
theorem node_any (t : Tm) (h : Hd) (w : World) (hin : t.In w.heap.size w h) :
    Calls Try.prog 110 #[t.val h] w fun e w' => e = .returned (.bool t.node) ∧ Below w.heap.size w w' := by
  obtain ⟨G, hG⟩ : ∃ G, G = t.node := ⟨_, rfl⟩
  rw [← hG]
  have HG := Lib.hid hG
  clear hG
  have hfit := hin.fit
  have hls := hfit.ls
  have hts := hfit.ts
  have hss := hfit.s
  clear hfit
  have HIN := Lib.hid hin
  clear hin
  have hk1 := fun w => kids_same t.k w
  have HK1 := Lib.hid hk1
  clear hk1
  by_cases hA : kids t.k < 0
  · have HF : Hid (false = G) := Lib.hid (by rw [HG.out]; simp [Tm.node, show ¬ 0 ≤ kids t.k by omega])
    generalize kids t.k = K at hA HK1
    have dA : decide (K < 0) = true := by simpa using hA
    clear hA
    unfold Tm.val Tm.vals
    go_enter Try.func110, Try.ntmps110
    go_wp2_with fail
    go_quiet ((go_at_call 136; exact Calls.quiet_of_same (HK1.out _)))
    go_wp2_with fail
    go_ret
    exact ⟨ret_bool HF.out, ((Kept.start w (t.box h)).drewN _).bel⟩
  · by_cases hB : (t.ts.length : Int) = kids t.k
    · have h8 : t.k = 1 ∨ t.k = 2 ∨ t.k = 3 ∨ t.k = 4 ∨ t.k = 5 ∨ t.k = 6 ∨ t.k = 7 ∨ t.k = 8 := by
        unfold kids at hA
        split at hA
        · omega
        · split at hA
          · omega
          · split at hA
            · omega
            · split at hA
              · omega
              · omega
      have H8 := Lib.hid h8
      have HB := Lib.hid hB
      have HKK : Hid (0 ≤ kids t.k) := Lib.hid (by omega)
      have hq : ((t.ts.length : Int) != kids t.k) = false := by simpa using hB
      clear h8 hB
      generalize hKe : kids t.k = K at hA HK1 hq
      have HKe := Lib.hid hKe
      clear hKe
      have dA : decide (K < 0) = false := by simpa using hA
      clear hA
      unfold Tm.val Tm.vals
      go_enter Try.func110, Try.ntmps110
      go_wp2_with fail
      go_quiet ((go_at_call 136; exact Calls.quiet_of_same (HK1.out _)))
      have HQ := Lib.hid hq
      clear hq dA
      go_wp2_with fail
      go_loopw [3] (fun i wr => LvsRel w (t.box h) t.ls i wr) (fun i _ => t.ls.length - (intOf i).toNat)
      case atStart => exact ⟨0, rfl, by omega, rfl, (Kept.start w (t.box h)).drewN _⟩
      case round =>
        obtain ⟨k, rfl, hk, hall, hkept⟩ := hrel
        have HK := Lib.hid hkept
        have HA := Lib.hid hall
        clear hkept hall
        obtain ⟨c0, c1, c2, c3, c4⟩ := Tm.cells HK.out.box
        by_cases hlt : k < t.ls.length
        · obtain ⟨b, off, hao, hat⟩ := (Trm.LRow.low HIN.out.levels (Tm.In_iff.1 HIN.out).2.2.1 HK.out.bel).place k hlt
          obtain ⟨l0, l1, l2, l3, l4⟩ := hat
          rw [hao] at c3
          obtain ⟨x, hx⟩ : ∃ x, x = t.ls[k] := ⟨_, rfl⟩
          rw [← hx] at l0 l1 l2 l3 l4
          have hmay := fun w => RefMay_any x w
          have HN : Hid (x.may = false → false = G) := Lib.hid (fun hf => by
            rw [HG.out]
            have : t.ls.all Lv.may = false := Lvl.all_take_no hlt (by rw [← hx]; exact hf)
            simp [Tm.node, this])
          have HY : Hid (x.may = true → (t.ls.take (k + 1)).all Lv.may = true) := Lib.hid (fun hf => Lvl.all_take_yes hlt HA.out (by rw [← hx]; exact hf))
          obtain ⟨r, hr⟩ : ∃ r, r = x.may := ⟨_, rfl⟩
          rw [← hr] at hmay HN HY
          have HM := Lib.hid hmay
          clear hmay hr hx hao
          cases r
          · go_wp2_with fail
            unfold Lv.val at HM
            refine (HM.out _).mono ?_
            rintro e w1 ⟨rfl, b1⟩
            have HK1 := Lib.hid (HK.out.step b1)
            clear b1
            go_wp2_with fail
            go_ret
            exact ⟨ret_bool (HN.out (by trivial)), HK1.out.bel⟩
          · go_wp2_with fail
            unfold Lv.val at HM
            refine (HM.out _).mono ?_
            rintro e w1 ⟨rfl, b1⟩
            have HK1 := Lib.hid (HK.out.step b1)
            clear b1
            go_wp2_with fail
            go_roundw
            case rel => exact ⟨k + 1, by go_num, by omega, HY.out (by trivial), HK1.out⟩
            case measure => simp [intOf]; omega
        · have hall := HA.out
          rw [List.take_of_length_le (by omega)] at hall
          rcases H8.out with hk8 | hk8 | hk8 | hk8 | hk8 | hk8 | hk8 | hk8
          · have HE : Hid ((t.s.toList.isEmpty && (t.n == 0) && ((t.ls.length : Int) == 1)) = G) := Lib.hid (by
              rw [HG.out, Tm.node, hk8, ← hk8, hall, HB.out, hk8, Bool.eq_iff_iff]
              simp [kids, empty_iff]
              try omega)
            have HKF := Lib.hid hk8
            rw [hk8] at c0
            clear hall hk8
            go_wp2_with (fail)
            all_goals
              go_ret
              refine ⟨ret_bool ?_, HK.out.bel⟩
              rw [← HE.out]
              simp [*]
              try (intros; omega)
          · have HE : Hid ((t.s.toList.isEmpty && (decide (0 ≤ t.n) && decide (t.n ≤ 1048576)) && ((t.ls.length : Int) == 0)) = G) := Lib.hid (by
              rw [HG.out, Tm.node, hk8, ← hk8, hall, HB.out, hk8, Bool.eq_iff_iff]
              simp [kids, empty_iff]
              try omega)
            have HKF := Lib.hid hk8
            rw [hk8] at c0
            clear hall hk8
            go_wp2_with (fail)
            all_goals
              go_ret
              refine ⟨ret_bool ?_, HK.out.bel⟩
              rw [← HE.out]
              simp [*]
              try (intros; omega)
          · have HE : Hid ((nameOk t.s && (t.n == 0) && decide ((t.ls.length : Int) ≤ 4)) = G) := Lib.hid (by
              rw [HG.out, Tm.node, hk8, ← hk8, hall, HB.out, hk8, Bool.eq_iff_iff]
              simp [kids]
              try omega)
            have HKF := Lib.hid hk8
            rw [hk8] at c0
            clear hall hk8
            go_wp2_with (go_at_call 16; refine (RefName_any _ _ hss).mono ?_; rintro e w' ⟨rfl, rfl⟩)
            all_goals
              go_ret
              refine ⟨ret_bool ?_, HK.out.bel⟩
              rw [← HE.out]
              simp [*]
              try (intros; omega)
          · have HE : Hid ((t.s.toList.isEmpty && (t.n == 0) && ((t.ls.length : Int) == 0)) = G) := Lib.hid (by
              rw [HG.out, Tm.node, hk8, ← hk8, hall, HB.out, hk8, Bool.eq_iff_iff]
              simp [kids, empty_iff]
              try omega)
            have HKF := Lib.hid hk8
            rw [hk8] at c0
            clear hall hk8
            go_wp2_with (fail)
            all_goals
              go_ret
              refine ⟨ret_bool ?_, HK.out.bel⟩
              rw [← HE.out]
              simp [*]
              try (intros; omega)
          · have HE : Hid ((t.s.toList.isEmpty && (t.n == 0) && ((t.ls.length : Int) == 0)) = G) := Lib.hid (by
              rw [HG.out, Tm.node, hk8, ← hk8, hall, HB.out, hk8, Bool.eq_iff_iff]
              simp [kids, empty_iff]
              try omega)
            have HKF := Lib.hid hk8
            rw [hk8] at c0
            clear hall hk8
            go_wp2_with (fail)
            all_goals
              go_ret
              refine ⟨ret_bool ?_, HK.out.bel⟩
              rw [← HE.out]
              simp [*]
              try (intros; omega)
          · have HE : Hid ((t.s.toList.isEmpty && (t.n == 0) && ((t.ls.length : Int) == 0)) = G) := Lib.hid (by
              rw [HG.out, Tm.node, hk8, ← hk8, hall, HB.out, hk8, Bool.eq_iff_iff]
              simp [kids, empty_iff]
              try omega)
            have HKF := Lib.hid hk8
            rw [hk8] at c0
            clear hall hk8
            go_wp2_with (fail)
            all_goals
              go_ret
              refine ⟨ret_bool ?_, HK.out.bel⟩
              rw [← HE.out]
              simp [*]
              try (intros; omega)
          · have HE : Hid ((t.s.toList.isEmpty && (t.n == 0) && ((t.ls.length : Int) == 0)) = G) := Lib.hid (by
              rw [HG.out, Tm.node, hk8, ← hk8, hall, HB.out, hk8, Bool.eq_iff_iff]
              simp [kids, empty_iff]
              try omega)
            have HKF := Lib.hid hk8
            rw [hk8] at c0
            clear hall hk8
            go_wp2_with (fail)
            all_goals
              go_ret
              refine ⟨ret_bool ?_, HK.out.bel⟩
              rw [← HE.out]
              simp [*]
              try (intros; omega)
          · have HE : Hid ((nameOk t.s && (decide (0 ≤ t.n) && decide (t.n < 12)) && ((t.ls.length : Int) == 0)) = G) := Lib.hid (by
              rw [HG.out, Tm.node, hk8, ← hk8, hall, HB.out, hk8, Bool.eq_iff_iff]
              simp [kids]
              try omega)
            have HKF := Lib.hid hk8
            rw [hk8] at c0
            clear hall hk8
            go_wp2_with (go_at_call 16; refine (RefName_any _ _ hss).mono ?_; rintro e w' ⟨rfl, rfl⟩)
            all_goals
              go_ret
              refine ⟨ret_bool ?_, HK.out.bel⟩
              rw [← HE.out]
              simp [*]
              try (intros; omega)
    · have HF : Hid (false = G) := Lib.hid (by rw [HG.out]; simp [Tm.node, hB])
      have hq : ((t.ts.length : Int) != kids t.k) = true := by simpa using hB
      clear hB
      generalize kids t.k = K at hA HK1 hq
      have dA : decide (K < 0) = false := by simpa using hA
      clear hA
      unfold Tm.val Tm.vals
      go_enter Try.func110, Try.ntmps110
      go_wp2_with fail
      go_quiet ((go_at_call 136; exact Calls.quiet_of_same (HK1.out _)))
      go_wp2_with fail
      go_ret
      exact ⟨ret_bool HF.out, ((Kept.start w (t.box h)).drewN _).bel⟩
end Go.Proofs.Ytijdlihodpodjaa

/-
  battenref03.may, May.
-/
namespace Go.Proofs.Ytijdlihodpodjaa
open Go.RowKit Go.Shelf Lvl Trm

def Trm.badMay (x : Tm) : Bool := !x.node

set_option maxRecDepth 100000 in
set_option maxHeartbeats 1000000 in
theorem may_t_any (t : Tm) : ∀ (h : Hd) (l d : Int) (w : World), 0 ≤ l → l ≤ 65536 → -1 ≤ d → d ≤ 4096 → t.In w.heap.size w h →
    Calls Try.prog 66 #[t.val h, .int .i64 l, .int .i64 d] w fun e w' => e = .returned (.int .i64 (t.left badMay l d)) ∧ Below w.heap.size w w' := by
  induction t using Tm.ind with
  | h t ih =>
    intro h l d w hl0 hl1 hd0 hd1 hin
    have hfit := hin.fit
    have hls := hfit.ls
    have hts := hfit.ts
    clear hfit
    have HIN := Lib.hid hin
    have HIH := Lib.hid ih
    clear hin ih
    unfold Tm.val Tm.vals
    by_cases h1 : l - 1 < 0
    · have hG : t.left badMay l d = -1 := by rw [Tm.left_eq, if_pos (Or.inl h1)]
      rw [hG]
      clear hG
      go_enter Try.func66, Try.ntmps66
      go_wp2_with fail
      go_ret
      exact ⟨rfl, below_one _ _⟩
    · by_cases h2 : d ≤ 0
      · have hG : t.left badMay l d = -1 := by rw [Tm.left_eq, if_pos (Or.inr (Or.inl h2))]
        rw [hG]
        clear hG
        go_enter Try.func66, Try.ntmps66
        go_wp2_with fail
        go_ret
        exact ⟨rfl, below_one _ _⟩
      · have hnode := fun w hin => node_any t h w hin
        have HIA := Lib.hid (Tm.In.mono (B' := (w.alloc (t.box h)).heap.size) (by simp) _ _ (Tm.In.below (below_one w (t.box h)) _ _ HIN.out))
        cases hnd : t.node
        · have hG : t.left badMay l d = -1 := by rw [Tm.left_eq, if_pos (Or.inr (Or.inr (by simp [badMay, hnd])))]
          rw [hG]
          rw [hnd] at hnode
          have HN := Lib.hid hnode
          clear hG hnode hnd
          unfold Tm.val Tm.vals at HN
          go_enter Try.func66, Try.ntmps66
          go_wp2_with fail
          refine (HN.out _ HIA.out).mono ?_
          rintro e w1 ⟨rfl, b1⟩
          have HK := Lib.hid ((Kept.start w (t.box h)).step b1)
          clear b1
          go_wp2_with fail
          go_ret
          exact ⟨rfl, HK.out.bel⟩
        · obtain ⟨G, hG⟩ : ∃ G, G = t.left badMay l d := ⟨_, rfl⟩
          rw [← hG]
          have hG' : leftL badMay (t.ts.drop 0) (l - 1) (d - 1) = G := by
            rw [hG, Tm.left_eq, if_neg (by rintro (h | h | h) <;> first | omega | (simp [badMay, hnd] at h))]; rfl
          have HG := Lib.hid hG'
          rw [hnd] at hnode
          have HN := Lib.hid hnode
          clear hG hG' hnode hnd
          unfold Tm.val Tm.vals at HN
          go_enter Try.func66, Try.ntmps66
          go_wp2_with fail
          refine (HN.out _ HIA.out).mono ?_
          rintro e w1 ⟨rfl, b1⟩
          have HK0 := Lib.hid ((Kept.start w (t.box h)).step b1)
          have hc := Tm.cells HK0.out.box
          clear b1
          obtain ⟨c0, c1, c2, c3, c4⟩ := hc
          go_wp2_with fail
          clear c0 c1 c2 c3 c4
          go_loopw [1, 7] (fun v i wr => LeftRel badMay w (t.box h) t.ts (d - 1) G 65536 v i wr) (fun _ i _ => t.ts.length - (intOf i).toNat)
          case atStart => exact ⟨0, l - 1, by go_num, rfl, by omega, by omega, by omega, HG.out, HK0.out⟩
          case round =>
            obtain ⟨k, L, rfl, rfl, hk, hL0, hL1, hGk, hkept⟩ := hrel
            have HK := Lib.hid hkept
            have HGk := Lib.hid hGk
            clear hkept hGk
            obtain ⟨c0, c1, c2, c3, c4⟩ := Tm.cells HK.out.box
            by_cases hlt : k < t.ts.length
            · obtain ⟨b, off, hao, hat⟩ := HIN.out.kid k hlt
              obtain ⟨hb, hd', ⟨k0, k1, k2, k3, k4⟩, hin'⟩ := hat.below HK.out.bel
              rw [hao] at c4
              have HX := Lib.hid (show ∀ W, t.ts[k].In W.heap.size W hd' → Calls Try.prog 66 #[t.ts[k].val hd', .int .i64 L, .int .i64 (d - 1)] W fun e w' => e = .returned (.int .i64 (t.ts[k].left badMay L (d - 1))) ∧ Below W.heap.size W w' from fun W hW => HIH.out _ (List.getElem_mem hlt) hd' L (d - 1) W hL0 hL1 (by omega) (by omega) hW)
              have HI := Lib.hid (Tm.In.mono HK.out.bel.size _ _ hin')
              have HGG : Hid ((if t.ts[k].left badMay L (d - 1) < 0 then -1 else leftL badMay (t.ts.drop (k + 1)) (t.ts[k].left badMay L (d - 1)) (d - 1)) = G) := by
                have := HGk.out
                rw [drop_get hlt, leftL] at this
                exact this
              have HLE := Lib.hid (t.ts[k].left_ge badMay L (d - 1))
              clear hat hin' hao HGk
              generalize t.ts[k] = x at k0 k1 k2 k3 k4 HX HI HGG HLE
              unfold Tm.val Tm.vals at HX
              obtain ⟨X, hX⟩ : ∃ X, X = x.left badMay L (d - 1) := ⟨_, rfl⟩
              rw [← hX] at HX HGG HLE
              clear hX
              go_wp2_with fail
              refine (HX.out _ HI.out).mono ?_
              rintro e w1 ⟨rfl, b1⟩
              have HK1 := Lib.hid (HK.out.step b1)
              have hX2 := HLE.out
              clear b1 HLE k0 k1 k2 k3 k4
              by_cases hneg : X < 0
              · have HE : Hid (-1 = G) := by have := HGG.out; rwa [if_pos hneg] at this
                go_wp2_with fail
                go_ret
                exact ⟨ret_int HE.out, HK1.out.bel⟩
              · have HE : Hid (leftL badMay (t.ts.drop (k + 1)) X (d - 1) = G) := by have := HGG.out; rwa [if_neg hneg] at this
                go_wp2_with fail
                go_roundw
                case rel => exact ⟨k + 1, X, rfl, by go_num, by omega, by omega, by omega, HE.out, HK1.out⟩
                case measure => simp [intOf]; omega
            · have HE : Hid (L = G) := by
                have := HGk.out
                rw [List.drop_eq_nil_of_le (by omega), leftL] at this
                exact this
              go_wp2_with fail
              go_ret
              exact ⟨ret_int HE.out, HK.out.bel⟩

set_option maxRecDepth 100000 in
theorem RefTMay_any (t : Tm) (h : Hd) (w : World) (hin : t.In w.heap.size w h) :
    Calls Try.prog 13 #[t.val h] w fun e w' => e = .returned (.bool t.may) ∧ Below w.heap.size w w' := by
  have HX := Lib.hid (may_t_any t h 65536 4096)
  have HI := Lib.hid (Tm.In.mono (B' := (w.alloc (t.box h)).heap.size) (by simp) _ _ (Tm.In.below (below_one w (t.box h)) _ _ hin))
  have HL := Lib.hid (t.left_ge badMay 65536 4096)
  obtain ⟨X, hX⟩ : ∃ X, X = t.left badMay 65536 4096 := ⟨_, rfl⟩
  have hd : t.may = decide (0 ≤ X) := by rw [hX]; rfl
  rw [← hX] at HX HL
  rw [hd]
  clear hX hd hin
  unfold Tm.val Tm.vals at HX ⊢
  go_enter Try.func13, Try.ntmps13
  go_wp2_with fail
  refine (HX.out _ (by decide) (by decide) (by decide) (by decide) HI.out).mono ?_
  rintro e w1 ⟨rfl, b1⟩
  have HB := Lib.hid ((below_one w (t.box h)).trans (b1.mono (by simp)))
  have hX := HL.out
  clear b1 HL HX HI
  go_wp2_with fail
  go_ret
  exact ⟨rfl, HB.out⟩
end Go.Proofs.Ytijdlihodpodjaa

/-
  With more nodes, and deeper, there are enough; a term that may be is not too deep to be looked at.
-/
namespace Go.Proofs.Ytijdlihodpodjaa
open Lvl Trm

namespace Trm
mutual
/-- With more nodes, and deeper, and fewer that are bad, there are enough. -/
theorem left_mono {bad bad' : Tm → Bool} (hb : ∀ t, bad t = false → bad' t = false) : ∀ (t : Tm) (l d l' d' : Int), 0 ≤ t.left bad l d → l ≤ l' → d ≤ d' → 0 ≤ t.left bad' l' d' ∧ t.left bad l d ≤ t.left bad' l' d'
  | .mk k n s ls ts, l, d, l', d', h, hl, hd => by
    rw [Tm.left] at h
    split at h
    · omega
    · rename_i hc
      have e1 : (Tm.mk k n s ls ts).left bad l d = leftL bad ts (l - 1) (d - 1) := by rw [Tm.left, if_neg hc]
      have e2 : (Tm.mk k n s ls ts).left bad' l' d' = leftL bad' ts (l' - 1) (d' - 1) := by
        rw [Tm.left, if_neg]
        rintro (h1 | h1 | h1)
        · exact hc (Or.inl (by omega))
        · exact hc (Or.inr (Or.inl (by omega)))
        · refine hc (Or.inr (Or.inr ?_))
          cases hbt : bad (.mk k n s ls ts)
          · rw [hb _ hbt] at h1; cases h1
          · rfl
      rw [e1, e2]
      exact leftL_mono hb ts (l - 1) (d - 1) (l' - 1) (d' - 1) h (by omega) (by omega)
theorem leftL_mono {bad bad' : Tm → Bool} (hb : ∀ t, bad t = false → bad' t = false) : ∀ (ts : List Tm) (l d l' d' : Int), 0 ≤ leftL bad ts l d → l ≤ l' → d ≤ d' → 0 ≤ leftL bad' ts l' d' ∧ leftL bad ts l d ≤ leftL bad' ts l' d'
  | [], l, d, l', d', h, hl, hd => by
    have e1 : leftL bad [] l d = l := by rw [leftL]
    have e2 : leftL bad' [] l' d' = l' := by rw [leftL]
    rw [e1, e2]
    rw [e1] at h
    omega
  | t :: r, l, d, l', d', h, hl, hd => by
    rw [leftL] at h
    split at h
    · omega
    · rename_i hc
      have h1 := left_mono hb t l d l' d' (by omega) hl hd
      have e1 : leftL bad (t :: r) l d = leftL bad r (t.left bad l d) d := by rw [leftL, if_neg hc]
      have e2 : leftL bad' (t :: r) l' d' = leftL bad' r (t.left bad' l' d') d' := by rw [leftL, if_neg (by omega)]
      rw [e1, e2]
      exact leftL_mono hb r _ d _ d' h h1.2 hd
end
theorem may_left {t : Tm} : t.may = true ↔ 0 ≤ t.left badMay 65536 4096 := by
  show decide (0 ≤ t.left badMay 65536 4096) = true ↔ _
  simp
theorem node_calm {t : Tm} (h : badMay t = false) : badDeep t = false := by
  have h' : t.node = true := by simpa [badMay] using h
  unfold Tm.node at h'
  simp only [Bool.and_eq_true] at h'
  have h6 := h'.2
  unfold badDeep
  simp only [decide_eq_false_iff_not]
  split at h6
  · simp at h6; omega
  · split at h6
    · simp at h6; omega
    · simp at h6; rw [h6]; simp
theorem may_not_deep {t : Tm} (h : t.may = true) : t.deep = false := by
  have h1 := (left_mono (bad' := badDeep) (fun t => node_calm) t 65536 4096 131072 8192 (may_left.1 h) (by omega) (by omega)).1
  show decide (t.left badDeep 131072 8192 < 0) = false
  simp; omega
theorem deep_size {t : Tm} (h : t.deep = false) : t.size ≤ 131072 := by
  have h1 : 0 ≤ t.left badDeep 131072 8192 := by
    have : decide (t.left badDeep 131072 8192 < 0) = false := h
    simp at this; omega
  have := t.left_size badDeep _ _ h1
  omega
end Trm
end Go.Proofs.Ytijdlihodpodjaa
