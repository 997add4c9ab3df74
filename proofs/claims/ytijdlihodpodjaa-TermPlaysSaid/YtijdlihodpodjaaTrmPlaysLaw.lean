/-
  battenlaw03.TermPlays: the walk.
-/
import Derived.Test.YtijdlihodpodjaaTrmRefNames
import Derived.Test.YtijdlihodpodjaaTrmRefHas
import Derived.Test.YtijdlihodpodjaaTrmFreeMath
import Derived.Test.YtijdlihodpodjaaTrmWorks
import Derived.Test.YtijdlihodpodjaaTrmPSame
import Derived.Deep.RegionHeld3
namespace Go.Proofs.Ytijdlihodpodjaa
open Go.RowKit Go.Shelf Go.Maps Go.Sort Lvl Trm

namespace Trm
/-- The names, rising. -/
def Tm.row (t : Tm) : List (List UInt8) := addN t.nms []
theorem row_rises (t : Tm) : Rises t.row := addN_rises (by simp)
theorem row_mem (t : Tm) (x : List UInt8) : x ∈ t.row ↔ x ∈ t.nms := by unfold Tm.row; rw [addN_mem]; simp
theorem row_few {t : Tm} (h : t.may = true) : t.row.length ≤ 65536 := by
  have h1 := addN_len t.nms []
  have h2 := nms_few h
  unfold Tm.row
  simp at h1
  omega
def StrPost (R : List (List UInt8)) (w : World) (e : Ending) (w' : World) : Prop := ∃ ao cap, e = .returned (.slice ao R.length cap) ∧ SRow w'.heap.size w' ao R ∧ Below w.heap.size w w'
theorem NR.open {w : World} {v : Value} {l : List (List UInt8)} (h : NR w v l) : ∃ ao cap, v = .slice ao l.length cap ∧ SRow w.heap.size w ao l := by
  rcases h with ⟨rfl, rfl⟩ | ⟨g, cap, rfl, h2, h3, h4, h5⟩
  · exact ⟨none, 0, rfl, ⟨fun k hk => by simp at hk⟩⟩
  · exact ⟨_, cap, rfl, ⟨fun k hk => ⟨g, 0, rfl, h2, by rw [Nat.zero_add]; exact h5 k hk⟩⟩⟩
end Trm

theorem Names_row (t : Tm) (h : Hd) (w : World) (hin : t.In w.heap.size w h) (hmay : t.may = true) :
    Calls Try.prog 22 #[t.val h] w (StrPost t.row w) :=
  (Names_yes t h w hin hmay).mono (by
    rintro e w' ⟨ao, cap, l, he, h1, h2, h3, h4⟩
    have e2 : l = t.row := rises_uniq h2 (row_rises t) (fun x => by rw [h3 x, row_mem])
    subst e2
    exact ⟨ao, cap, he, h1, h4⟩)
theorem RefNames_row (t : Tm) (h : Hd) (w : World) (hin : t.In w.heap.size w h) (hmay : t.may = true) :
    Calls Try.prog 27 #[t.val h] w (StrPost t.row w) :=
  (RefNames_any t h w hmay hin).mono (by
    rintro e w' ⟨v, he, h1, h2⟩
    obtain ⟨ao, cap, rfl, h3⟩ := h1.open
    exact ⟨ao, cap, he, h3, h2⟩)
set_option maxRecDepth 100000 in
set_option maxHeartbeats 1000000 in
theorem Names_none (t : Tm) (h : Hd) (w : World) (hin : t.In w.heap.size w h) (hm : t.may = false) :
    Calls Try.prog 22 #[t.val h] w fun e w' => e = .returned (.slice none 0 0) ∧ Below w.heap.size w w' := by
  have HM := Lib.hid (fun (W : World) (hW : Below w.heap.size w W) => (show Calls Try.prog 14 #[t.val h] W fun e w' => e = .returned (.bool false) ∧ Below W.heap.size W w' from hm ▸ PMay_any t h W (carry hin hW)))
  unfold Tm.val at HM ⊢
  dsimp only [Tm.vals] at HM ⊢
  clear hin hm
  go_enter Try.func22, Try.ntmps22
  go_wp2_with fail
  refine (HM.out _ (below_one w _)).mono ?_
  rintro e w1 ⟨rfl, b1⟩
  have HB1 := Lib.hid (Trm.go (below_one w _) b1)
  clear b1
  go_wp2_with fail
  go_ret
  exact ⟨rfl, HB1.out⟩

set_option maxRecDepth 100000 in
set_option maxHeartbeats 40000000 in
theorem law_term_plays (a b : Tm) (ha hb : Hd) (k : Int) (s : ByteArray) (w : World) (hk0 : -9223372036854775808 ≤ k) (hk1 : k ≤ 9223372036854775807) (hia : a.In w.heap.size w ha) (hib : b.In w.heap.size w hb) :
    Calls Try.prog 3 #[a.val ha, b.val hb, .int .i64 k, .string s] w fun e w' => e = .returned (.bool true) ∧ Below w.heap.size w w' := by
  have HDA := Lib.hid (fun (W : World) (hW : Below w.heap.size w W) => Deep_any a ha W (carry hia hW))
  have HDB := Lib.hid (fun (W : World) (hW : Below w.heap.size w W) => Deep_any b hb W (carry hib hW))
  have HMA := Lib.hid (fun (W : World) (hW : Below w.heap.size w W) => RefTMay_any a ha W (carry hia hW))
  have HMB := Lib.hid (fun (W : World) (hW : Below w.heap.size w W) => RefTMay_any b hb W (carry hib hW))
  have HPM := Lib.hid (fun (W : World) (hW : Below w.heap.size w W) => PMay_any a ha W (carry hia hW))
  have HSA := Lib.hid (fun (W : World) (hW : Below w.heap.size w W) => PSame_any a b ha hb W (carry hia hW) (carry hib hW))
  have HRS := Lib.hid (fun (W : World) (hW : Below w.heap.size w W) => RefSame_any a b ha hb W (carry hia hW) (carry hib hW))
  have HSZ := Lib.hid (fun (W : World) (hW : Below w.heap.size w W) => PSize_any a ha W (carry hia hW))
  have HFR := Lib.hid (fun (W : World) (hW : Below w.heap.size w W) => PFree_any a ha W (carry hia hW))
  have HHS := Lib.hid (fun (W : World) (hW : Below w.heap.size w W) => PHas_any a ha k W (carry hia hW))
  have HRZ := Lib.hid (fun (hd : a.deep = false) (hm : a.may = true) (W : World) (hW : Below w.heap.size w W) => (show Calls Try.prog 24 #[a.val ha] W fun e w' => e = .returned (.int .i64 a.count) ∧ Below W.heap.size W w' from (show a.size = a.count by unfold Tm.count; rw [if_pos hm]) ▸ Size_any a ha W (by have := deep_size hd; omega) (carry hia hW)))
  have HRF := Lib.hid (fun (hm : a.may = true) (W : World) (hW : Below w.heap.size w W) => RefFree_any a ha W hm (carry hia hW))
  have HRH := Lib.hid (fun (hm : a.may = true) (h0 : 0 ≤ k) (W : World) (hW : Below w.heap.size w W) => RefHas_any a ha k W h0 hk1 hm (carry hia hW))
  have HNM := Lib.hid (fun (hm : a.may = true) (W : World) (hW : Below w.heap.size w W) => Names_row a ha W (carry hia hW) hm)
  have HRN := Lib.hid (fun (hm : a.may = true) (W : World) (hW : Below w.heap.size w W) => RefNames_row a ha W (carry hia hW) hm)
  have HN0 := Lib.hid (fun (hm : a.may = false) (W : World) (hW : Below w.heap.size w W) => Names_none a ha W (carry hia hW) hm)
  have HST := Lib.hid (fun (hm : a.may = true) (W : World) (ao ab : Option Addr) (ca cb : Nat) (h1 : SRow W.heap.size W ao a.row) (h2 : SRow W.heap.size W ab a.row) => (show Calls Try.prog 26 #[.slice ao a.row.length ca, .slice ab a.row.length cb] W fun e w' => e = .returned (.bool true) ∧ Below W.heap.size W w' from (beq_self_eq_true a.row) ▸ strings_any a.row a.row ao ab ca cb W h1 h2 (by have := row_few hm; omega)))
  have HNS := Lib.hid (fun (hs : s.size ≤ 100) (W : World) => (Name_any s W (by omega)).mono (R' := fun e w' => e = .returned (.bool (nameOk s)) ∧ Below W.heap.size W w') (fun _ _ h => ⟨h.1, h.2 ▸ Below.refl _ _⟩))
  have HRM := Lib.hid (fun (hs : s.size ≤ 100) (W : World) => (RefName_any s W (by omega)).mono (R' := fun e w' => e = .returned (.bool (nameOk s)) ∧ Below W.heap.size W w') (fun _ _ h => ⟨h.1, h.2 ▸ Below.refl _ _⟩))
  have HAB : Hid (a.may = true → b.may = false → same a b = false) := Lib.hid (fun h1 h2 => by
    rw [Bool.eq_false_iff]
    intro h
    rw [same_iff.1 h, h2] at h1
    cases h1)
  have HCZ : Hid (a.may = false → a.count = 0 ∧ a.free = 0 ∧ a.has k = false) := Lib.hid (fun h => ⟨by unfold Tm.count; rw [if_neg (by rw [h]; simp)], by unfold Tm.free; rw [if_neg (by rw [h]; simp)], by unfold Tm.has; rw [h]; rfl⟩)
  have HNK : Hid (a.may = true → k < 0 → a.has k = false) := Lib.hid (fun h h2 => (free_facts h).2.2.2.2 k h2)
  unfold Tm.val at HDA HDB HMA HMB HPM HSA HRS HSZ HFR HHS HRZ HRF HRH HNM HRN HN0 ⊢
  dsimp only [Tm.vals] at HDA HDB HMA HMB HPM HSA HRS HSZ HFR HHS HRZ HRF HRH HNM HRN HN0 ⊢
  have HB_0 := Lib.hid (below_two w (a.box ha) (b.box hb))
  have XA_0 := Lib.hid (new1of2 w (a.box ha) (b.box hb))
  have XB_0 := Lib.hid (new2 w (a.box ha) (b.box hb))
  unfold Tm.box at HB_0 XA_0 XB_0
  dsimp only [Tm.vals] at HB_0 XA_0 XB_0
  clear hia hib
  go_enter Try.func3, Try.ntmps3
  go_wp2_with fail
  refine (HDA.out _ HB_0.out).mono ?_
  rintro e v1 ⟨rfl, b1⟩
  have HB_1 := Lib.hid (Trm.go HB_0.out b1)
  have XA_1 := Lib.hid (Lvl.keep b1 XA_0.out)
  have XB_1 := Lib.hid (Lvl.keep b1 XB_0.out)
  clear b1 HB_0 XA_0 XB_0
  obtain ⟨cA0, cA1, cA2, cA3, cA4⟩ := five_cells XA_1.out
  obtain ⟨cB0, cB1, cB2, cB3, cB4⟩ := five_cells XB_1.out
  cases hda : a.deep
  case true =>
    go_wp2_with fail
    refine (works_any _).mono ?_
    rintro e vw ⟨rfl, bw⟩
    have HBw := Lib.hid (Trm.go HB_1.out bw)
    clear bw
    go_wp2_with fail
    go_ret
    exact ⟨rfl, HBw.out⟩
  case false =>
    go_wp2_with fail
    refine (HDB.out _ HB_1.out).mono ?_
    rintro e v2 ⟨rfl, b2⟩
    have HB_2 := Lib.hid (Trm.go HB_1.out b2)
    have XA_2 := Lib.hid (Lvl.keep b2 XA_1.out)
    have XB_2 := Lib.hid (Lvl.keep b2 XB_1.out)
    clear b2 HB_1 XA_1 XB_1
    clear cA0 cA1 cA2 cA3 cA4 cB0 cB1 cB2 cB3 cB4
    obtain ⟨cA0, cA1, cA2, cA3, cA4⟩ := five_cells XA_2.out
    obtain ⟨cB0, cB1, cB2, cB3, cB4⟩ := five_cells XB_2.out
    cases hdb : b.deep
    case true =>
      go_wp2_with fail
      refine (works_any _).mono ?_
      rintro e vw ⟨rfl, bw⟩
      have HBw := Lib.hid (Trm.go HB_2.out bw)
      clear bw
      go_wp2_with fail
      go_ret
      exact ⟨rfl, HBw.out⟩
    case false =>
      by_cases hs : s.size ≤ 100
      case neg =>
        have ds : decide (100 < (s.size : Int)) = true := by simp; omega
        go_wp2_with fail
        refine (works_any _).mono ?_
        rintro e vw ⟨rfl, bw⟩
        have HBw := Lib.hid (Trm.go HB_2.out bw)
        clear bw
        go_wp2_with fail
        go_ret
        exact ⟨rfl, HBw.out⟩
      case pos =>
        have ds : decide (100 < (s.size : Int)) = false := by simp; omega
        have HNS1 := Lib.hid (HNS.out hs)
        have HRM1 := Lib.hid (HRM.out hs)
        clear HNS HRM hs
        generalize nameOk s = ns at HNS1 HRM1
        have HRZ1 := Lib.hid (HRZ.out hda)
        clear HDA HDB hda hdb HRZ
        go_wp2_with fail
        refine (HMA.out _ HB_2.out).mono ?_
        rintro e v3 ⟨rfl, b3⟩
        have HB_3 := Lib.hid (Trm.go HB_2.out b3)
        have XA_3 := Lib.hid (Lvl.keep b3 XA_2.out)
        have XB_3 := Lib.hid (Lvl.keep b3 XB_2.out)
        clear b3 HB_2 XA_2 XB_2
        clear cA0 cA1 cA2 cA3 cA4 cB0 cB1 cB2 cB3 cB4
        obtain ⟨cA0, cA1, cA2, cA3, cA4⟩ := five_cells XA_3.out
        obtain ⟨cB0, cB1, cB2, cB3, cB4⟩ := five_cells XB_3.out
        cases hma : a.may
        case false =>
          have hz := HCZ.out hma
          rw [hma] at HPM HSA
          rw [Bool.false_and] at HSA
          rw [hz.1] at HSZ
          rw [hz.2.1] at HFR
          rw [hz.2.2] at HHS
          have HN01 := Lib.hid (HN0.out hma)
          clear hz hma HCZ HRZ1 HRF HRH HNM HRN HST HAB HNK HN0 HRS HMB HMA ds
          go_wp2_with fail
          refine (HPM.out _ HB_3.out).mono ?_
          rintro e v4 ⟨rfl, b4⟩
          have HB_4 := Lib.hid (Trm.go HB_3.out b4)
          have XA_4 := Lib.hid (Lvl.keep b4 XA_3.out)
          have XB_4 := Lib.hid (Lvl.keep b4 XB_3.out)
          clear b4 HB_3 XA_3 XB_3
          clear cA0 cA1 cA2 cA3 cA4 cB0 cB1 cB2 cB3 cB4
          obtain ⟨cA0, cA1, cA2, cA3, cA4⟩ := five_cells XA_4.out
          obtain ⟨cB0, cB1, cB2, cB3, cB4⟩ := five_cells XB_4.out
          go_wp2_with fail
          refine (HNS1.out _).mono ?_
          rintro e v5 ⟨rfl, b5⟩
          have HB_5 := Lib.hid (Trm.go HB_4.out b5)
          have XA_5 := Lib.hid (Lvl.keep b5 XA_4.out)
          have XB_5 := Lib.hid (Lvl.keep b5 XB_4.out)
          clear b5 HB_4 XA_4 XB_4
          clear cA0 cA1 cA2 cA3 cA4 cB0 cB1 cB2 cB3 cB4
          obtain ⟨cA0, cA1, cA2, cA3, cA4⟩ := five_cells XA_5.out
          obtain ⟨cB0, cB1, cB2, cB3, cB4⟩ := five_cells XB_5.out
          go_wp2_with fail
          refine (HRM1.out _).mono ?_
          rintro e v6 ⟨rfl, b6⟩
          have HB_6 := Lib.hid (Trm.go HB_5.out b6)
          have XA_6 := Lib.hid (Lvl.keep b6 XA_5.out)
          have XB_6 := Lib.hid (Lvl.keep b6 XB_5.out)
          clear b6 HB_5 XA_5 XB_5
          clear cA0 cA1 cA2 cA3 cA4 cB0 cB1 cB2 cB3 cB4
          obtain ⟨cA0, cA1, cA2, cA3, cA4⟩ := five_cells XA_6.out
          obtain ⟨cB0, cB1, cB2, cB3, cB4⟩ := five_cells XB_6.out
          go_wp2_with fail
          refine (HSA.out _ HB_6.out).mono ?_
          rintro e v7 ⟨rfl, b7⟩
          have HB_7 := Lib.hid (Trm.go HB_6.out b7)
          have XA_7 := Lib.hid (Lvl.keep b7 XA_6.out)
          have XB_7 := Lib.hid (Lvl.keep b7 XB_6.out)
          clear b7 HB_6 XA_6 XB_6
          clear cA0 cA1 cA2 cA3 cA4 cB0 cB1 cB2 cB3 cB4
          obtain ⟨cA0, cA1, cA2, cA3, cA4⟩ := five_cells XA_7.out
          obtain ⟨cB0, cB1, cB2, cB3, cB4⟩ := five_cells XB_7.out
          go_wp2_with fail
          refine (HSZ.out _ HB_7.out).mono ?_
          rintro e v8 ⟨rfl, b8⟩
          have HB_8 := Lib.hid (Trm.go HB_7.out b8)
          have XA_8 := Lib.hid (Lvl.keep b8 XA_7.out)
          have XB_8 := Lib.hid (Lvl.keep b8 XB_7.out)
          clear b8 HB_7 XA_7 XB_7
          clear cA0 cA1 cA2 cA3 cA4 cB0 cB1 cB2 cB3 cB4
          obtain ⟨cA0, cA1, cA2, cA3, cA4⟩ := five_cells XA_8.out
          obtain ⟨cB0, cB1, cB2, cB3, cB4⟩ := five_cells XB_8.out
          go_wp2_with fail
          refine (HFR.out _ HB_8.out).mono ?_
          rintro e v9 ⟨rfl, b9⟩
          have HB_9 := Lib.hid (Trm.go HB_8.out b9)
          have XA_9 := Lib.hid (Lvl.keep b9 XA_8.out)
          have XB_9 := Lib.hid (Lvl.keep b9 XB_8.out)
          clear b9 HB_8 XA_8 XB_8
          clear cA0 cA1 cA2 cA3 cA4 cB0 cB1 cB2 cB3 cB4
          obtain ⟨cA0, cA1, cA2, cA3, cA4⟩ := five_cells XA_9.out
          obtain ⟨cB0, cB1, cB2, cB3, cB4⟩ := five_cells XB_9.out
          go_wp2_with fail
          refine (HHS.out _ HB_9.out).mono ?_
          rintro e v10 ⟨rfl, b10⟩
          have HB_10 := Lib.hid (Trm.go HB_9.out b10)
          have XA_10 := Lib.hid (Lvl.keep b10 XA_9.out)
          have XB_10 := Lib.hid (Lvl.keep b10 XB_9.out)
          clear b10 HB_9 XA_9 XB_9
          clear cA0 cA1 cA2 cA3 cA4 cB0 cB1 cB2 cB3 cB4
          obtain ⟨cA0, cA1, cA2, cA3, cA4⟩ := five_cells XA_10.out
          obtain ⟨cB0, cB1, cB2, cB3, cB4⟩ := five_cells XB_10.out
          go_wp2_with fail
          refine (HN01.out _ HB_10.out).mono ?_
          rintro e v11 ⟨rfl, b11⟩
          have HB_11 := Lib.hid (Trm.go HB_10.out b11)
          have XA_11 := Lib.hid (Lvl.keep b11 XA_10.out)
          have XB_11 := Lib.hid (Lvl.keep b11 XB_10.out)
          clear b11 HB_10 XA_10 XB_10
          clear cA0 cA1 cA2 cA3 cA4 cB0 cB1 cB2 cB3 cB4
          obtain ⟨cA0, cA1, cA2, cA3, cA4⟩ := five_cells XA_11.out
          obtain ⟨cB0, cB1, cB2, cB3, cB4⟩ := five_cells XB_11.out
          go_wp2_with fail
          refine (works_any _).mono ?_
          rintro e vw ⟨rfl, bw⟩
          have HBw := Lib.hid (Trm.go HB_11.out bw)
          clear bw
          go_wp2_with fail
          go_ret
          exact ⟨rfl, HBw.out⟩
        case true =>
          rw [hma] at HPM HSA
          rw [Bool.true_and] at HSA
          have HRZ2 := Lib.hid (HRZ1.out hma)
          have HRF2 := Lib.hid (HRF.out hma)
          have HRH2 := Lib.hid (HRH.out hma)
          have HNM2 := Lib.hid (HNM.out hma)
          have HRN2 := Lib.hid (HRN.out hma)
          have HST2 := Lib.hid (HST.out hma)
          have HAB2 := Lib.hid (HAB.out hma)
          have HNK2 := Lib.hid (HNK.out hma)
          clear hma HCZ HRZ1 HRF HRH HNM HRN HST HAB HNK HN0 HMA ds
          generalize a.count = N at HSZ HRZ2
          generalize a.free = Fr at HFR HRF2
          generalize a.row = R at HNM2 HRN2 HST2
          go_wp2_with fail
          refine (HPM.out _ HB_3.out).mono ?_
          rintro e v4 ⟨rfl, b4⟩
          have HB_4 := Lib.hid (Trm.go HB_3.out b4)
          have XA_4 := Lib.hid (Lvl.keep b4 XA_3.out)
          have XB_4 := Lib.hid (Lvl.keep b4 XB_3.out)
          clear b4 HB_3 XA_3 XB_3
          clear cA0 cA1 cA2 cA3 cA4 cB0 cB1 cB2 cB3 cB4
          obtain ⟨cA0, cA1, cA2, cA3, cA4⟩ := five_cells XA_4.out
          obtain ⟨cB0, cB1, cB2, cB3, cB4⟩ := five_cells XB_4.out
          go_wp2_with fail
          refine (HNS1.out _).mono ?_
          rintro e v5 ⟨rfl, b5⟩
          have HB_5 := Lib.hid (Trm.go HB_4.out b5)
          have XA_5 := Lib.hid (Lvl.keep b5 XA_4.out)
          have XB_5 := Lib.hid (Lvl.keep b5 XB_4.out)
          clear b5 HB_4 XA_4 XB_4
          clear cA0 cA1 cA2 cA3 cA4 cB0 cB1 cB2 cB3 cB4
          obtain ⟨cA0, cA1, cA2, cA3, cA4⟩ := five_cells XA_5.out
          obtain ⟨cB0, cB1, cB2, cB3, cB4⟩ := five_cells XB_5.out
          go_wp2_with fail
          refine (HRM1.out _).mono ?_
          rintro e v6 ⟨rfl, b6⟩
          have HB_6 := Lib.hid (Trm.go HB_5.out b6)
          have XA_6 := Lib.hid (Lvl.keep b6 XA_5.out)
          have XB_6 := Lib.hid (Lvl.keep b6 XB_5.out)
          clear b6 HB_5 XA_5 XB_5
          clear cA0 cA1 cA2 cA3 cA4 cB0 cB1 cB2 cB3 cB4
          obtain ⟨cA0, cA1, cA2, cA3, cA4⟩ := five_cells XA_6.out
          obtain ⟨cB0, cB1, cB2, cB3, cB4⟩ := five_cells XB_6.out
          clear HPM HNS1 HRM1
          cases hmb : b.may
          case false =>
            rw [hmb] at HMB
            rw [HAB2.out hmb] at HSA
            clear HAB2 hmb HRS
            go_wp2_with fail
            refine (HSA.out _ HB_6.out).mono ?_
            rintro e v7 ⟨rfl, b7⟩
            have HB_7 := Lib.hid (Trm.go HB_6.out b7)
            have XA_7 := Lib.hid (Lvl.keep b7 XA_6.out)
            have XB_7 := Lib.hid (Lvl.keep b7 XB_6.out)
            clear b7 HB_6 XA_6 XB_6
            clear cA0 cA1 cA2 cA3 cA4 cB0 cB1 cB2 cB3 cB4
            obtain ⟨cA0, cA1, cA2, cA3, cA4⟩ := five_cells XA_7.out
            obtain ⟨cB0, cB1, cB2, cB3, cB4⟩ := five_cells XB_7.out
            go_wp2_with fail
            refine (HMB.out _ HB_7.out).mono ?_
            rintro e v8 ⟨rfl, b8⟩
            have HB_8 := Lib.hid (Trm.go HB_7.out b8)
            have XA_8 := Lib.hid (Lvl.keep b8 XA_7.out)
            have XB_8 := Lib.hid (Lvl.keep b8 XB_7.out)
            clear b8 HB_7 XA_7 XB_7
            clear cA0 cA1 cA2 cA3 cA4 cB0 cB1 cB2 cB3 cB4
            obtain ⟨cA0, cA1, cA2, cA3, cA4⟩ := five_cells XA_8.out
            obtain ⟨cB0, cB1, cB2, cB3, cB4⟩ := five_cells XB_8.out
            clear HSA HMB
            by_cases hk : 0 ≤ k
            case pos =>
              have dk : decide (0 ≤ k) = true := decide_eq_true hk
              have HRH3 := Lib.hid (HRH2.out hk)
              clear HNK2 HRH2
              generalize a.has k = hv at HHS HRH3
              go_wp2_with fail
              refine (HRH3.out _ HB_8.out).mono ?_
              rintro e v9 ⟨rfl, b9⟩
              have HB_9 := Lib.hid (Trm.go HB_8.out b9)
              have XA_9 := Lib.hid (Lvl.keep b9 XA_8.out)
              have XB_9 := Lib.hid (Lvl.keep b9 XB_8.out)
              clear b9 HB_8 XA_8 XB_8
              clear cA0 cA1 cA2 cA3 cA4 cB0 cB1 cB2 cB3 cB4
              obtain ⟨cA0, cA1, cA2, cA3, cA4⟩ := five_cells XA_9.out
              obtain ⟨cB0, cB1, cB2, cB3, cB4⟩ := five_cells XB_9.out
              clear HRH3
              go_wp2_with fail
              clear cB0 cB1 cB2 cB3 cB4
              go_region_held3 (fun w' => w'.cell? ⟨w.heap.size, 0, none⟩ = some (.int .u8 a.k) ∧ w'.cell? ⟨w.heap.size, 1, none⟩ = some (.int .i64 a.n) ∧ w'.cell? ⟨w.heap.size, 2, none⟩ = some (.string a.s) ∧ w'.cell? ⟨w.heap.size, 3, none⟩ = some (.slice ha.lo a.ls.length ha.lc) ∧ w'.cell? ⟨w.heap.size, 4, none⟩ = some (.slice ha.to a.ts.length ha.tc))
                (go_keep)
                (first
                  | (go_at_call 19; (with_reducible refine (HSZ.out _ (by first | exact Trm.go HB_9.out (by assumption) | exact Trm.go HB_9.out (Below.refl _ _).drew)).mono ?_); rintro e w9 ⟨rfl, bw⟩; have hz : Below v9.heap.size v9 w9 := (by first | exact Trm.go (by assumption) bw | exact Lvl.undrew bw); obtain ⟨cA0, cA1, cA2, cA3, cA4⟩ := five_cells (Lvl.keep hz XA_9.out))
                  | (go_at_call 24; (with_reducible refine (HRZ2.out _ (by first | exact Trm.go HB_9.out (by assumption) | exact Trm.go HB_9.out (Below.refl _ _).drew)).mono ?_); rintro e w9 ⟨rfl, bw⟩; have hz : Below v9.heap.size v9 w9 := (by first | exact Trm.go (by assumption) bw | exact Lvl.undrew bw); obtain ⟨cA0, cA1, cA2, cA3, cA4⟩ := five_cells (Lvl.keep hz XA_9.out))
                  | (go_at_call 20; (with_reducible refine (HFR.out _ (by first | exact Trm.go HB_9.out (by assumption) | exact Trm.go HB_9.out (Below.refl _ _).drew)).mono ?_); rintro e w9 ⟨rfl, bw⟩; have hz : Below v9.heap.size v9 w9 := (by first | exact Trm.go (by assumption) bw | exact Lvl.undrew bw); obtain ⟨cA0, cA1, cA2, cA3, cA4⟩ := five_cells (Lvl.keep hz XA_9.out))
                  | (go_at_call 25; (with_reducible refine (HRF2.out _ (by first | exact Trm.go HB_9.out (by assumption) | exact Trm.go HB_9.out (Below.refl _ _).drew)).mono ?_); rintro e w9 ⟨rfl, bw⟩; have hz : Below v9.heap.size v9 w9 := (by first | exact Trm.go (by assumption) bw | exact Lvl.undrew bw); obtain ⟨cA0, cA1, cA2, cA3, cA4⟩ := five_cells (Lvl.keep hz XA_9.out))
                  | (go_at_call 21; (with_reducible refine (HHS.out _ (by first | exact Trm.go HB_9.out (by assumption) | exact Trm.go HB_9.out (Below.refl _ _).drew)).mono ?_); rintro e w9 ⟨rfl, bw⟩; have hz : Below v9.heap.size v9 w9 := (by first | exact Trm.go (by assumption) bw | exact Lvl.undrew bw); obtain ⟨cA0, cA1, cA2, cA3, cA4⟩ := five_cells (Lvl.keep hz XA_9.out))
                  | (go_at_call 22; (with_reducible refine (HNM2.out _ (by first | exact Trm.go HB_9.out (by assumption) | exact Trm.go HB_9.out (Below.refl _ _).drew)).mono ?_); rintro e w9 ⟨a1, c1, rfl, r1, bw⟩; have hz : Below v9.heap.size v9 w9 := (by first | exact Trm.go (by assumption) bw | exact Lvl.undrew bw); have R1 := Lib.hid r1; (try have R2 := Lib.hid (SRow.carry R2.out bw)); clear r1; obtain ⟨cA0, cA1, cA2, cA3, cA4⟩ := five_cells (Lvl.keep hz XA_9.out))
                  | (go_at_call 27; (with_reducible refine (HRN2.out _ (by first | exact Trm.go HB_9.out (by assumption) | exact Trm.go HB_9.out (Below.refl _ _).drew)).mono ?_); rintro e w9 ⟨a2, c2, rfl, r2, bw⟩; have hz : Below v9.heap.size v9 w9 := (by first | exact Trm.go (by assumption) bw | exact Lvl.undrew bw); have R2 := Lib.hid r2; (try have R1 := Lib.hid (SRow.carry R1.out bw)); clear r2; obtain ⟨cA0, cA1, cA2, cA3, cA4⟩ := five_cells (Lvl.keep hz XA_9.out))
                  | (go_at_call 26; (with_reducible refine (HST2.out _ _ _ _ _ R1.out R2.out).mono ?_); rintro e w9 ⟨rfl, bw⟩; have hz : Below v9.heap.size v9 w9 := (by first | exact Trm.go (by assumption) bw | exact Lvl.undrew bw); obtain ⟨cA0, cA1, cA2, cA3, cA4⟩ := five_cells (Lvl.keep hz XA_9.out))
                  | (go_at_call 12; (with_reducible refine (works_any _).mono ?_); rintro e w9 ⟨rfl, bw⟩; have hz : Below v9.heap.size v9 w9 := (by first | exact Trm.go (by assumption) bw | exact Lvl.undrew bw); obtain ⟨cA0, cA1, cA2, cA3, cA4⟩ := five_cells (Lvl.keep hz XA_9.out)))
              all_goals
                have HZZ := Lib.hid (Trm.go HB_9.out hz)
                go_wp2_with fail
                go_ret
                exact ⟨rfl, HZZ.out⟩
            case neg =>
              have dk : decide (0 ≤ k) = false := decide_eq_false hk
              rw [HNK2.out (by omega)] at HHS
              clear HNK2 HRH2
              go_wp2_with fail
              clear cB0 cB1 cB2 cB3 cB4
              go_region_held3 (fun w' => w'.cell? ⟨w.heap.size, 0, none⟩ = some (.int .u8 a.k) ∧ w'.cell? ⟨w.heap.size, 1, none⟩ = some (.int .i64 a.n) ∧ w'.cell? ⟨w.heap.size, 2, none⟩ = some (.string a.s) ∧ w'.cell? ⟨w.heap.size, 3, none⟩ = some (.slice ha.lo a.ls.length ha.lc) ∧ w'.cell? ⟨w.heap.size, 4, none⟩ = some (.slice ha.to a.ts.length ha.tc))
                (go_keep)
                (first
                  | (go_at_call 19; (with_reducible refine (HSZ.out _ (by first | exact Trm.go HB_8.out (by assumption) | exact Trm.go HB_8.out (Below.refl _ _).drew)).mono ?_); rintro e w9 ⟨rfl, bw⟩; have hz : Below v8.heap.size v8 w9 := (by first | exact Trm.go (by assumption) bw | exact Lvl.undrew bw); obtain ⟨cA0, cA1, cA2, cA3, cA4⟩ := five_cells (Lvl.keep hz XA_8.out))
                  | (go_at_call 24; (with_reducible refine (HRZ2.out _ (by first | exact Trm.go HB_8.out (by assumption) | exact Trm.go HB_8.out (Below.refl _ _).drew)).mono ?_); rintro e w9 ⟨rfl, bw⟩; have hz : Below v8.heap.size v8 w9 := (by first | exact Trm.go (by assumption) bw | exact Lvl.undrew bw); obtain ⟨cA0, cA1, cA2, cA3, cA4⟩ := five_cells (Lvl.keep hz XA_8.out))
                  | (go_at_call 20; (with_reducible refine (HFR.out _ (by first | exact Trm.go HB_8.out (by assumption) | exact Trm.go HB_8.out (Below.refl _ _).drew)).mono ?_); rintro e w9 ⟨rfl, bw⟩; have hz : Below v8.heap.size v8 w9 := (by first | exact Trm.go (by assumption) bw | exact Lvl.undrew bw); obtain ⟨cA0, cA1, cA2, cA3, cA4⟩ := five_cells (Lvl.keep hz XA_8.out))
                  | (go_at_call 25; (with_reducible refine (HRF2.out _ (by first | exact Trm.go HB_8.out (by assumption) | exact Trm.go HB_8.out (Below.refl _ _).drew)).mono ?_); rintro e w9 ⟨rfl, bw⟩; have hz : Below v8.heap.size v8 w9 := (by first | exact Trm.go (by assumption) bw | exact Lvl.undrew bw); obtain ⟨cA0, cA1, cA2, cA3, cA4⟩ := five_cells (Lvl.keep hz XA_8.out))
                  | (go_at_call 21; (with_reducible refine (HHS.out _ (by first | exact Trm.go HB_8.out (by assumption) | exact Trm.go HB_8.out (Below.refl _ _).drew)).mono ?_); rintro e w9 ⟨rfl, bw⟩; have hz : Below v8.heap.size v8 w9 := (by first | exact Trm.go (by assumption) bw | exact Lvl.undrew bw); obtain ⟨cA0, cA1, cA2, cA3, cA4⟩ := five_cells (Lvl.keep hz XA_8.out))
                  | (go_at_call 22; (with_reducible refine (HNM2.out _ (by first | exact Trm.go HB_8.out (by assumption) | exact Trm.go HB_8.out (Below.refl _ _).drew)).mono ?_); rintro e w9 ⟨a1, c1, rfl, r1, bw⟩; have hz : Below v8.heap.size v8 w9 := (by first | exact Trm.go (by assumption) bw | exact Lvl.undrew bw); have R1 := Lib.hid r1; (try have R2 := Lib.hid (SRow.carry R2.out bw)); clear r1; obtain ⟨cA0, cA1, cA2, cA3, cA4⟩ := five_cells (Lvl.keep hz XA_8.out))
                  | (go_at_call 27; (with_reducible refine (HRN2.out _ (by first | exact Trm.go HB_8.out (by assumption) | exact Trm.go HB_8.out (Below.refl _ _).drew)).mono ?_); rintro e w9 ⟨a2, c2, rfl, r2, bw⟩; have hz : Below v8.heap.size v8 w9 := (by first | exact Trm.go (by assumption) bw | exact Lvl.undrew bw); have R2 := Lib.hid r2; (try have R1 := Lib.hid (SRow.carry R1.out bw)); clear r2; obtain ⟨cA0, cA1, cA2, cA3, cA4⟩ := five_cells (Lvl.keep hz XA_8.out))
                  | (go_at_call 26; (with_reducible refine (HST2.out _ _ _ _ _ R1.out R2.out).mono ?_); rintro e w9 ⟨rfl, bw⟩; have hz : Below v8.heap.size v8 w9 := (by first | exact Trm.go (by assumption) bw | exact Lvl.undrew bw); obtain ⟨cA0, cA1, cA2, cA3, cA4⟩ := five_cells (Lvl.keep hz XA_8.out))
                  | (go_at_call 12; (with_reducible refine (works_any _).mono ?_); rintro e w9 ⟨rfl, bw⟩; have hz : Below v8.heap.size v8 w9 := (by first | exact Trm.go (by assumption) bw | exact Lvl.undrew bw); obtain ⟨cA0, cA1, cA2, cA3, cA4⟩ := five_cells (Lvl.keep hz XA_8.out)))
              all_goals
                have HZZ := Lib.hid (Trm.go HB_8.out hz)
                go_wp2_with fail
                go_ret
                exact ⟨rfl, HZZ.out⟩
          case true =>
            rw [hmb] at HMB
            clear HAB2 hmb
            generalize same a b = sm at HSA HRS
            go_wp2_with fail
            refine (HSA.out _ HB_6.out).mono ?_
            rintro e v7 ⟨rfl, b7⟩
            have HB_7 := Lib.hid (Trm.go HB_6.out b7)
            have XA_7 := Lib.hid (Lvl.keep b7 XA_6.out)
            have XB_7 := Lib.hid (Lvl.keep b7 XB_6.out)
            clear b7 HB_6 XA_6 XB_6
            clear cA0 cA1 cA2 cA3 cA4 cB0 cB1 cB2 cB3 cB4
            obtain ⟨cA0, cA1, cA2, cA3, cA4⟩ := five_cells XA_7.out
            obtain ⟨cB0, cB1, cB2, cB3, cB4⟩ := five_cells XB_7.out
            go_wp2_with fail
            refine (HMB.out _ HB_7.out).mono ?_
            rintro e v8 ⟨rfl, b8⟩
            have HB_8 := Lib.hid (Trm.go HB_7.out b8)
            have XA_8 := Lib.hid (Lvl.keep b8 XA_7.out)
            have XB_8 := Lib.hid (Lvl.keep b8 XB_7.out)
            clear b8 HB_7 XA_7 XB_7
            clear cA0 cA1 cA2 cA3 cA4 cB0 cB1 cB2 cB3 cB4
            obtain ⟨cA0, cA1, cA2, cA3, cA4⟩ := five_cells XA_8.out
            obtain ⟨cB0, cB1, cB2, cB3, cB4⟩ := five_cells XB_8.out
            go_wp2_with fail
            refine (HRS.out _ HB_8.out).mono ?_
            rintro e v9 ⟨rfl, b9⟩
            have HB_9 := Lib.hid (Trm.go HB_8.out b9)
            have XA_9 := Lib.hid (Lvl.keep b9 XA_8.out)
            have XB_9 := Lib.hid (Lvl.keep b9 XB_8.out)
            clear b9 HB_8 XA_8 XB_8
            clear cA0 cA1 cA2 cA3 cA4 cB0 cB1 cB2 cB3 cB4
            obtain ⟨cA0, cA1, cA2, cA3, cA4⟩ := five_cells XA_9.out
            obtain ⟨cB0, cB1, cB2, cB3, cB4⟩ := five_cells XB_9.out
            clear HSA HMB HRS
            by_cases hk : 0 ≤ k
            case pos =>
              have dk : decide (0 ≤ k) = true := decide_eq_true hk
              have HRH3 := Lib.hid (HRH2.out hk)
              clear HNK2 HRH2
              generalize a.has k = hv at HHS HRH3
              go_wp2_with fail
              refine (HRH3.out _ HB_9.out).mono ?_
              rintro e v10 ⟨rfl, b10⟩
              have HB_10 := Lib.hid (Trm.go HB_9.out b10)
              have XA_10 := Lib.hid (Lvl.keep b10 XA_9.out)
              have XB_10 := Lib.hid (Lvl.keep b10 XB_9.out)
              clear b10 HB_9 XA_9 XB_9
              clear cA0 cA1 cA2 cA3 cA4 cB0 cB1 cB2 cB3 cB4
              obtain ⟨cA0, cA1, cA2, cA3, cA4⟩ := five_cells XA_10.out
              obtain ⟨cB0, cB1, cB2, cB3, cB4⟩ := five_cells XB_10.out
              clear HRH3
              go_wp2_with fail
              clear cB0 cB1 cB2 cB3 cB4
              go_region_held3 (fun w' => w'.cell? ⟨w.heap.size, 0, none⟩ = some (.int .u8 a.k) ∧ w'.cell? ⟨w.heap.size, 1, none⟩ = some (.int .i64 a.n) ∧ w'.cell? ⟨w.heap.size, 2, none⟩ = some (.string a.s) ∧ w'.cell? ⟨w.heap.size, 3, none⟩ = some (.slice ha.lo a.ls.length ha.lc) ∧ w'.cell? ⟨w.heap.size, 4, none⟩ = some (.slice ha.to a.ts.length ha.tc))
                (go_keep)
                (first
                  | (go_at_call 19; (with_reducible refine (HSZ.out _ (by first | exact Trm.go HB_10.out (by assumption) | exact Trm.go HB_10.out (Below.refl _ _).drew)).mono ?_); rintro e w9 ⟨rfl, bw⟩; have hz : Below v10.heap.size v10 w9 := (by first | exact Trm.go (by assumption) bw | exact Lvl.undrew bw); obtain ⟨cA0, cA1, cA2, cA3, cA4⟩ := five_cells (Lvl.keep hz XA_10.out))
                  | (go_at_call 24; (with_reducible refine (HRZ2.out _ (by first | exact Trm.go HB_10.out (by assumption) | exact Trm.go HB_10.out (Below.refl _ _).drew)).mono ?_); rintro e w9 ⟨rfl, bw⟩; have hz : Below v10.heap.size v10 w9 := (by first | exact Trm.go (by assumption) bw | exact Lvl.undrew bw); obtain ⟨cA0, cA1, cA2, cA3, cA4⟩ := five_cells (Lvl.keep hz XA_10.out))
                  | (go_at_call 20; (with_reducible refine (HFR.out _ (by first | exact Trm.go HB_10.out (by assumption) | exact Trm.go HB_10.out (Below.refl _ _).drew)).mono ?_); rintro e w9 ⟨rfl, bw⟩; have hz : Below v10.heap.size v10 w9 := (by first | exact Trm.go (by assumption) bw | exact Lvl.undrew bw); obtain ⟨cA0, cA1, cA2, cA3, cA4⟩ := five_cells (Lvl.keep hz XA_10.out))
                  | (go_at_call 25; (with_reducible refine (HRF2.out _ (by first | exact Trm.go HB_10.out (by assumption) | exact Trm.go HB_10.out (Below.refl _ _).drew)).mono ?_); rintro e w9 ⟨rfl, bw⟩; have hz : Below v10.heap.size v10 w9 := (by first | exact Trm.go (by assumption) bw | exact Lvl.undrew bw); obtain ⟨cA0, cA1, cA2, cA3, cA4⟩ := five_cells (Lvl.keep hz XA_10.out))
                  | (go_at_call 21; (with_reducible refine (HHS.out _ (by first | exact Trm.go HB_10.out (by assumption) | exact Trm.go HB_10.out (Below.refl _ _).drew)).mono ?_); rintro e w9 ⟨rfl, bw⟩; have hz : Below v10.heap.size v10 w9 := (by first | exact Trm.go (by assumption) bw | exact Lvl.undrew bw); obtain ⟨cA0, cA1, cA2, cA3, cA4⟩ := five_cells (Lvl.keep hz XA_10.out))
                  | (go_at_call 22; (with_reducible refine (HNM2.out _ (by first | exact Trm.go HB_10.out (by assumption) | exact Trm.go HB_10.out (Below.refl _ _).drew)).mono ?_); rintro e w9 ⟨a1, c1, rfl, r1, bw⟩; have hz : Below v10.heap.size v10 w9 := (by first | exact Trm.go (by assumption) bw | exact Lvl.undrew bw); have R1 := Lib.hid r1; (try have R2 := Lib.hid (SRow.carry R2.out bw)); clear r1; obtain ⟨cA0, cA1, cA2, cA3, cA4⟩ := five_cells (Lvl.keep hz XA_10.out))
                  | (go_at_call 27; (with_reducible refine (HRN2.out _ (by first | exact Trm.go HB_10.out (by assumption) | exact Trm.go HB_10.out (Below.refl _ _).drew)).mono ?_); rintro e w9 ⟨a2, c2, rfl, r2, bw⟩; have hz : Below v10.heap.size v10 w9 := (by first | exact Trm.go (by assumption) bw | exact Lvl.undrew bw); have R2 := Lib.hid r2; (try have R1 := Lib.hid (SRow.carry R1.out bw)); clear r2; obtain ⟨cA0, cA1, cA2, cA3, cA4⟩ := five_cells (Lvl.keep hz XA_10.out))
                  | (go_at_call 26; (with_reducible refine (HST2.out _ _ _ _ _ R1.out R2.out).mono ?_); rintro e w9 ⟨rfl, bw⟩; have hz : Below v10.heap.size v10 w9 := (by first | exact Trm.go (by assumption) bw | exact Lvl.undrew bw); obtain ⟨cA0, cA1, cA2, cA3, cA4⟩ := five_cells (Lvl.keep hz XA_10.out))
                  | (go_at_call 12; (with_reducible refine (works_any _).mono ?_); rintro e w9 ⟨rfl, bw⟩; have hz : Below v10.heap.size v10 w9 := (by first | exact Trm.go (by assumption) bw | exact Lvl.undrew bw); obtain ⟨cA0, cA1, cA2, cA3, cA4⟩ := five_cells (Lvl.keep hz XA_10.out)))
              all_goals
                have HZZ := Lib.hid (Trm.go HB_10.out hz)
                go_wp2_with fail
                go_ret
                exact ⟨rfl, HZZ.out⟩
            case neg =>
              have dk : decide (0 ≤ k) = false := decide_eq_false hk
              rw [HNK2.out (by omega)] at HHS
              clear HNK2 HRH2
              go_wp2_with fail
              clear cB0 cB1 cB2 cB3 cB4
              go_region_held3 (fun w' => w'.cell? ⟨w.heap.size, 0, none⟩ = some (.int .u8 a.k) ∧ w'.cell? ⟨w.heap.size, 1, none⟩ = some (.int .i64 a.n) ∧ w'.cell? ⟨w.heap.size, 2, none⟩ = some (.string a.s) ∧ w'.cell? ⟨w.heap.size, 3, none⟩ = some (.slice ha.lo a.ls.length ha.lc) ∧ w'.cell? ⟨w.heap.size, 4, none⟩ = some (.slice ha.to a.ts.length ha.tc))
                (go_keep)
                (first
                  | (go_at_call 19; (with_reducible refine (HSZ.out _ (by first | exact Trm.go HB_9.out (by assumption) | exact Trm.go HB_9.out (Below.refl _ _).drew)).mono ?_); rintro e w9 ⟨rfl, bw⟩; have hz : Below v9.heap.size v9 w9 := (by first | exact Trm.go (by assumption) bw | exact Lvl.undrew bw); obtain ⟨cA0, cA1, cA2, cA3, cA4⟩ := five_cells (Lvl.keep hz XA_9.out))
                  | (go_at_call 24; (with_reducible refine (HRZ2.out _ (by first | exact Trm.go HB_9.out (by assumption) | exact Trm.go HB_9.out (Below.refl _ _).drew)).mono ?_); rintro e w9 ⟨rfl, bw⟩; have hz : Below v9.heap.size v9 w9 := (by first | exact Trm.go (by assumption) bw | exact Lvl.undrew bw); obtain ⟨cA0, cA1, cA2, cA3, cA4⟩ := five_cells (Lvl.keep hz XA_9.out))
                  | (go_at_call 20; (with_reducible refine (HFR.out _ (by first | exact Trm.go HB_9.out (by assumption) | exact Trm.go HB_9.out (Below.refl _ _).drew)).mono ?_); rintro e w9 ⟨rfl, bw⟩; have hz : Below v9.heap.size v9 w9 := (by first | exact Trm.go (by assumption) bw | exact Lvl.undrew bw); obtain ⟨cA0, cA1, cA2, cA3, cA4⟩ := five_cells (Lvl.keep hz XA_9.out))
                  | (go_at_call 25; (with_reducible refine (HRF2.out _ (by first | exact Trm.go HB_9.out (by assumption) | exact Trm.go HB_9.out (Below.refl _ _).drew)).mono ?_); rintro e w9 ⟨rfl, bw⟩; have hz : Below v9.heap.size v9 w9 := (by first | exact Trm.go (by assumption) bw | exact Lvl.undrew bw); obtain ⟨cA0, cA1, cA2, cA3, cA4⟩ := five_cells (Lvl.keep hz XA_9.out))
                  | (go_at_call 21; (with_reducible refine (HHS.out _ (by first | exact Trm.go HB_9.out (by assumption) | exact Trm.go HB_9.out (Below.refl _ _).drew)).mono ?_); rintro e w9 ⟨rfl, bw⟩; have hz : Below v9.heap.size v9 w9 := (by first | exact Trm.go (by assumption) bw | exact Lvl.undrew bw); obtain ⟨cA0, cA1, cA2, cA3, cA4⟩ := five_cells (Lvl.keep hz XA_9.out))
                  | (go_at_call 22; (with_reducible refine (HNM2.out _ (by first | exact Trm.go HB_9.out (by assumption) | exact Trm.go HB_9.out (Below.refl _ _).drew)).mono ?_); rintro e w9 ⟨a1, c1, rfl, r1, bw⟩; have hz : Below v9.heap.size v9 w9 := (by first | exact Trm.go (by assumption) bw | exact Lvl.undrew bw); have R1 := Lib.hid r1; (try have R2 := Lib.hid (SRow.carry R2.out bw)); clear r1; obtain ⟨cA0, cA1, cA2, cA3, cA4⟩ := five_cells (Lvl.keep hz XA_9.out))
                  | (go_at_call 27; (with_reducible refine (HRN2.out _ (by first | exact Trm.go HB_9.out (by assumption) | exact Trm.go HB_9.out (Below.refl _ _).drew)).mono ?_); rintro e w9 ⟨a2, c2, rfl, r2, bw⟩; have hz : Below v9.heap.size v9 w9 := (by first | exact Trm.go (by assumption) bw | exact Lvl.undrew bw); have R2 := Lib.hid r2; (try have R1 := Lib.hid (SRow.carry R1.out bw)); clear r2; obtain ⟨cA0, cA1, cA2, cA3, cA4⟩ := five_cells (Lvl.keep hz XA_9.out))
                  | (go_at_call 26; (with_reducible refine (HST2.out _ _ _ _ _ R1.out R2.out).mono ?_); rintro e w9 ⟨rfl, bw⟩; have hz : Below v9.heap.size v9 w9 := (by first | exact Trm.go (by assumption) bw | exact Lvl.undrew bw); obtain ⟨cA0, cA1, cA2, cA3, cA4⟩ := five_cells (Lvl.keep hz XA_9.out))
                  | (go_at_call 12; (with_reducible refine (works_any _).mono ?_); rintro e w9 ⟨rfl, bw⟩; have hz : Below v9.heap.size v9 w9 := (by first | exact Trm.go (by assumption) bw | exact Lvl.undrew bw); obtain ⟨cA0, cA1, cA2, cA3, cA4⟩ := five_cells (Lvl.keep hz XA_9.out)))
              all_goals
                have HZZ := Lib.hid (Trm.go HB_9.out hz)
                go_wp2_with fail
                go_ret
                exact ⟨rfl, HZZ.out⟩
end Go.Proofs.Ytijdlihodpodjaa
