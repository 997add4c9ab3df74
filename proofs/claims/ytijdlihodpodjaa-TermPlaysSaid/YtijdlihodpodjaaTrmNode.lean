/-
  battenref03.node.
-/
import Derived.Test.YtijdlihodpodjaaTrmLevMay
import Derived.Test.YtijdlihodpodjaaTrmSize
import Derived.Test.YtijdlihodpodjaaTrmName
namespace Go.Proofs.Ytijdlihodpodjaa
open Go.RowKit Go.Shelf Lvl Trm

theorem kids_same (k : Int) (w : World) :
    Calls Try.prog 136 #[.int .u8 k] w fun e w' => e = .returned (.int .i64 (kids k)) ∧ w' = w :=
  (kids_any k w).mono fun _ _ ⟨h, h'⟩ => ⟨h, h'.symm⟩
theorem RefMay_at (a : Lv) (r : Bool) (h : a.may = r) (w : World) :
    Calls Try.prog 128 #[a.val] w fun e w' => e = .returned (.bool r) ∧ Below w.heap.size w w' := by
  have := RefMay_any a w; rwa [h] at this

theorem Trm.empty_iff (s : ByteArray) : s.toList.isEmpty = decide (s.size = 0) := by
  rw [ByteArray.toList_eq]
  show s.data.toList.isEmpty = decide (s.data.size = 0)
  rw [← Array.length_toList]
  cases s.data.toList <;> simp
def Trm.LvsRel (w : World) (o : Obj) (ls : List Lv) (i : Value) (wr : World) : Prop :=
  ∃ k : Nat, i = .int .i64 k ∧ k ≤ ls.length ∧ (ls.take k).all Lv.may = true ∧ Kept w wr o

set_option maxRecDepth 100000 in
set_option maxHeartbeats 4000000 in
theorem node_any (t : Tm) (h : Hd) (w : World) (hin : t.In w.heap.size w h) :
    Calls Try.prog 110 #[t.val h] w fun e w' => e = .returned (.bool t.node) ∧ Below w.heap.size w w' := by
  obtain ⟨G, hG⟩ : ∃ G, G = t.node := ⟨_, rfl⟩
  rw [← hG]
  have HG := Lib.hid hG
  clear hG
  have hfit := hin.fit
  have hls := hfit.ls
  have hts := hfit.ts
  have hss := hfit.s
  clear hfit
  have HIN := Lib.hid hin
  clear hin
  have hk1 := fun w => kids_same t.k w
  have HK1 := Lib.hid hk1
  clear hk1
  by_cases hA : kids t.k < 0
  · have HF : Hid (false = G) := Lib.hid (by rw [HG.out]; simp [Tm.node, show ¬ 0 ≤ kids t.k by omega])
    generalize kids t.k = K at hA HK1
    have dA : decide (K < 0) = true := by simpa using hA
    clear hA
    unfold Tm.val Tm.vals
    go_enter Try.func110, Try.ntmps110
    go_wp2_with fail
    go_quiet ((go_at_call 136; exact Calls.quiet_of_same (HK1.out _)))
    go_wp2_with fail
    go_ret
    exact ⟨ret_bool HF.out, ((Kept.start w (t.box h)).drewN _).bel⟩
  · by_cases hB : (t.ts.length : Int) = kids t.k
    · have h8 : t.k = 1 ∨ t.k = 2 ∨ t.k = 3 ∨ t.k = 4 ∨ t.k = 5 ∨ t.k = 6 ∨ t.k = 7 ∨ t.k = 8 := by
        unfold kids at hA
        split at hA
        · omega
        · split at hA
          · omega
          · split at hA
            · omega
            · split at hA
              · omega
              · omega
      have H8 := Lib.hid h8
      have HB := Lib.hid hB
      have HKK : Hid (0 ≤ kids t.k) := Lib.hid (by omega)
      have hq : ((t.ts.length : Int) != kids t.k) = false := by simpa using hB
      clear h8 hB
      generalize hKe : kids t.k = K at hA HK1 hq
      have HKe := Lib.hid hKe
      clear hKe
      have dA : decide (K < 0) = false := by simpa using hA
      clear hA
      unfold Tm.val Tm.vals
      go_enter Try.func110, Try.ntmps110
      go_wp2_with fail
      go_quiet ((go_at_call 136; exact Calls.quiet_of_same (HK1.out _)))
      have HQ := Lib.hid hq
      clear hq dA
      go_wp2_with fail
      go_loopw [3] (fun i wr => LvsRel w (t.box h) t.ls i wr) (fun i _ => t.ls.length - (intOf i).toNat)
      case atStart => exact ⟨0, rfl, by omega, rfl, (Kept.start w (t.box h)).drewN _⟩
      case round =>
        obtain ⟨k, rfl, hk, hall, hkept⟩ := hrel
        have HK := Lib.hid hkept
        have HA := Lib.hid hall
        clear hkept hall
        obtain ⟨c0, c1, c2, c3, c4⟩ := Tm.cells HK.out.box
        by_cases hlt : k < t.ls.length
        · obtain ⟨b, off, hao, hat⟩ := (Trm.LRow.low HIN.out.levels (Tm.In_iff.1 HIN.out).2.2.1 HK.out.bel).place k hlt
          obtain ⟨l0, l1, l2, l3, l4⟩ := hat
          rw [hao] at c3
          obtain ⟨x, hx⟩ : ∃ x, x = t.ls[k] := ⟨_, rfl⟩
          rw [← hx] at l0 l1 l2 l3 l4
          have hmay := fun w => RefMay_any x w
          have HN : Hid (x.may = false → false = G) := Lib.hid (fun hf => by
            rw [HG.out]
            have : t.ls.all Lv.may = false := Lvl.all_take_no hlt (by rw [← hx]; exact hf)
            simp [Tm.node, this])
          have HY : Hid (x.may = true → (t.ls.take (k + 1)).all Lv.may = true) := Lib.hid (fun hf => Lvl.all_take_yes hlt HA.out (by rw [← hx]; exact hf))
          obtain ⟨r, hr⟩ : ∃ r, r = x.may := ⟨_, rfl⟩
          rw [← hr] at hmay HN HY
          have HM := Lib.hid hmay
          clear hmay hr hx hao
          cases r
          · go_wp2_with fail
            unfold Lv.val at HM
            refine (HM.out _).mono ?_
            rintro e w1 ⟨rfl, b1⟩
            have HK1 := Lib.hid (HK.out.step b1)
            clear b1
            go_wp2_with fail
            go_ret
            exact ⟨ret_bool (HN.out (by trivial)), HK1.out.bel⟩
          · go_wp2_with fail
            unfold Lv.val at HM
            refine (HM.out _).mono ?_
            rintro e w1 ⟨rfl, b1⟩
            have HK1 := Lib.hid (HK.out.step b1)
            clear b1
            go_wp2_with fail
            go_roundw
            case rel => exact ⟨k + 1, by go_num, by omega, HY.out (by trivial), HK1.out⟩
            case measure => simp [intOf]; omega
        · have hall := HA.out
          rw [List.take_of_length_le (by omega)] at hall
          rcases H8.out with hk8 | hk8 | hk8 | hk8 | hk8 | hk8 | hk8 | hk8
          · have HE : Hid ((t.s.toList.isEmpty && (t.n == 0) && ((t.ls.length : Int) == 1)) = G) := Lib.hid (by
              rw [HG.out, Tm.node, hk8, ← hk8, hall, HB.out, hk8, Bool.eq_iff_iff]
              simp [kids, empty_iff]
              try omega)
            have HKF := Lib.hid hk8
            rw [hk8] at c0
            clear hall hk8
            go_wp2_with (fail)
            all_goals
              go_ret
              refine ⟨ret_bool ?_, HK.out.bel⟩
              rw [← HE.out]
              simp [*]
              try (intros; omega)
          · have HE : Hid ((t.s.toList.isEmpty && (decide (0 ≤ t.n) && decide (t.n ≤ 1048576)) && ((t.ls.length : Int) == 0)) = G) := Lib.hid (by
              rw [HG.out, Tm.node, hk8, ← hk8, hall, HB.out, hk8, Bool.eq_iff_iff]
              simp [kids, empty_iff]
              try omega)
            have HKF := Lib.hid hk8
            rw [hk8] at c0
            clear hall hk8
            go_wp2_with (fail)
            all_goals
              go_ret
              refine ⟨ret_bool ?_, HK.out.bel⟩
              rw [← HE.out]
              simp [*]
              try (intros; omega)
          · have HE : Hid ((nameOk t.s && (t.n == 0) && decide ((t.ls.length : Int) ≤ 4)) = G) := Lib.hid (by
              rw [HG.out, Tm.node, hk8, ← hk8, hall, HB.out, hk8, Bool.eq_iff_iff]
              simp [kids]
              try omega)
            have HKF := Lib.hid hk8
            rw [hk8] at c0
            clear hall hk8
            go_wp2_with (go_at_call 16; refine (RefName_any _ _ hss).mono ?_; rintro e w' ⟨rfl, rfl⟩)
            all_goals
              go_ret
              refine ⟨ret_bool ?_, HK.out.bel⟩
              rw [← HE.out]
              simp [*]
              try (intros; omega)
          · have HE : Hid ((t.s.toList.isEmpty && (t.n == 0) && ((t.ls.length : Int) == 0)) = G) := Lib.hid (by
              rw [HG.out, Tm.node, hk8, ← hk8, hall, HB.out, hk8, Bool.eq_iff_iff]
              simp [kids, empty_iff]
              try omega)
            have HKF := Lib.hid hk8
            rw [hk8] at c0
            clear hall hk8
            go_wp2_with (fail)
            all_goals
              go_ret
              refine ⟨ret_bool ?_, HK.out.bel⟩
              rw [← HE.out]
              simp [*]
              try (intros; omega)
          · have HE : Hid ((t.s.toList.isEmpty && (t.n == 0) && ((t.ls.length : Int) == 0)) = G) := Lib.hid (by
              rw [HG.out, Tm.node, hk8, ← hk8, hall, HB.out, hk8, Bool.eq_iff_iff]
              simp [kids, empty_iff]
              try omega)
            have HKF := Lib.hid hk8
            rw [hk8] at c0
            clear hall hk8
            go_wp2_with (fail)
            all_goals
              go_ret
              refine ⟨ret_bool ?_, HK.out.bel⟩
              rw [← HE.out]
              simp [*]
              try (intros; omega)
          · have HE : Hid ((t.s.toList.isEmpty && (t.n == 0) && ((t.ls.length : Int) == 0)) = G) := Lib.hid (by
              rw [HG.out, Tm.node, hk8, ← hk8, hall, HB.out, hk8, Bool.eq_iff_iff]
              simp [kids, empty_iff]
              try omega)
            have HKF := Lib.hid hk8
            rw [hk8] at c0
            clear hall hk8
            go_wp2_with (fail)
            all_goals
              go_ret
              refine ⟨ret_bool ?_, HK.out.bel⟩
              rw [← HE.out]
              simp [*]
              try (intros; omega)
          · have HE : Hid ((t.s.toList.isEmpty && (t.n == 0) && ((t.ls.length : Int) == 0)) = G) := Lib.hid (by
              rw [HG.out, Tm.node, hk8, ← hk8, hall, HB.out, hk8, Bool.eq_iff_iff]
              simp [kids, empty_iff]
              try omega)
            have HKF := Lib.hid hk8
            rw [hk8] at c0
            clear hall hk8
            go_wp2_with (fail)
            all_goals
              go_ret
              refine ⟨ret_bool ?_, HK.out.bel⟩
              rw [← HE.out]
              simp [*]
              try (intros; omega)
          · have HE : Hid ((nameOk t.s && (decide (0 ≤ t.n) && decide (t.n < 12)) && ((t.ls.length : Int) == 0)) = G) := Lib.hid (by
              rw [HG.out, Tm.node, hk8, ← hk8, hall, HB.out, hk8, Bool.eq_iff_iff]
              simp [kids]
              try omega)
            have HKF := Lib.hid hk8
            rw [hk8] at c0
            clear hall hk8
            go_wp2_with (go_at_call 16; refine (RefName_any _ _ hss).mono ?_; rintro e w' ⟨rfl, rfl⟩)
            all_goals
              go_ret
              refine ⟨ret_bool ?_, HK.out.bel⟩
              rw [← HE.out]
              simp [*]
              try (intros; omega)
    · have HF : Hid (false = G) := Lib.hid (by rw [HG.out]; simp [Tm.node, hB])
      have hq : ((t.ts.length : Int) != kids t.k) = true := by simpa using hB
      clear hB
      generalize kids t.k = K at hA HK1 hq
      have dA : decide (K < 0) = false := by simpa using hA
      clear hA
      unfold Tm.val Tm.vals
      go_enter Try.func110, Try.ntmps110
      go_wp2_with fail
      go_quiet ((go_at_call 136; exact Calls.quiet_of_same (HK1.out _)))
      go_wp2_with fail
      go_ret
      exact ⟨ret_bool HF.out, ((Kept.start w (t.box h)).drewN _).bel⟩
end Go.Proofs.Ytijdlihodpodjaa
