/-
  The walk of the statement LevelInsts.
-/
import Derived.Test.YtfechgahafbphaaLevInsB
import Derived.Deep.DeepCutAuto
import Derived.Deep.RegionHeld3
namespace Go.Proofs.Ytfechgahafbphaa
open Go.RowKit Go.Shelf Lvl

set_option maxRecDepth 100000 in
set_option maxHeartbeats 80000000 in
theorem law_insts (l : Lv) (one two : Row4) (w : World) :
    Calls Try.prog 5 #[l.val, one.val, two.val] w fun e w' => e = .returned (.bool true) ∧ Below w.heap.size w w' := by
  obtain ⟨n1, n2, n3, n4, nb⟩ := four_new w l.box one.box two.box (own.upTo 0).box
  have N1 := Lib.hid n1
  have N2 := Lib.hid n2
  have N3 := Lib.hid n3
  have N4 := Lib.hid n4
  have NB := Lib.hid nb
  have hsame := eq_same
  clear n1 n2 n3 n4 nb
  unfold Lv.val Row4.val Row4.vals
  go_enter Try.func5, Try.ntmps5
  go_wp2_with fail
  go_loopw [8] (fun i wr => InsRel1 w l one two i wr) (fun i _ => 4 - (intOf i).toNat)
  case atStart => exact ⟨0, rfl, by omega, N1.out, N2.out, N3.out, N4.out, NB.out, fun j hj => by omega⟩
  case round =>
    clear N1 N2 N3 N4 NB
    obtain ⟨k, rfl, hk4, h1, h2, h3, h4, hb, hm⟩ := hrel
    have XL0 := Lib.hid h1
    have XA0 := Lib.hid h2
    have XT0 := Lib.hid h3
    have XO0 := Lib.hid h4
    have B0 := Lib.hid hb
    have HM := Lib.hid hm
    clear h1 h2 h3 h4 hb hm
    by_cases hlt : k < 4
    · obtain ⟨P, hP⟩ : ∃ P, own.get k = P := ⟨_, rfl⟩
      go_wp2_with fail
      refine (param_at k hlt _).mono ?_
      rintro e w1 ⟨rfl, b1⟩
      rw [hP]
      have HP := Lib.hid hP
      clear hP
      have B1 := Lib.hid (thru B0.out b1)
      have XL1 := Lib.hid (Lvl.keep b1 XL0.out)
      have XA1 := Lib.hid (Lvl.keep b1 XA0.out)
      have XT1 := Lib.hid (Lvl.keep b1 XT0.out)
      have XO1 := Lib.hid (Lvl.keep b1 XO0.out)
      clear B0 XL0 XA0 XT0 XO0
      clear b1
      dsimp only [Lv.val]
      have fO : ∀ i, w1.frozen? ⟨w.heap.size + 1 + 1 + 1, i, none⟩ = false := fun i => Row4.free XO1.out i
      have lO := lt_of XO1.out
      obtain ⟨o0, o1, o2, o3, o4⟩ := row_get XO1.out hlt
      have hx : k * 5 < 20 := by omega
      go_upto_region 9 with fail
      clear o0 o1 o2 o3 o4
      have h1 := row_other XL1.out P (b := w.heap.size + 1 + 1 + 1) (o := k * 5) (by omega)
      have h2 := row_other XA1.out P (b := w.heap.size + 1 + 1 + 1) (o := k * 5) (by omega)
      have h3 := row_other XT1.out P (b := w.heap.size + 1 + 1 + 1) (o := k * 5) (by omega)
      have h4 := row_set XO1.out P hlt
      have h5 := row_below B1.out (B := w.heap.size + 1 + 1 + 1) (by omega) (k * 5) P
      rw [← HP.out, Row4.upTo_step own hlt, HP.out] at h4
      unfold put5o at h1 h2 h3 h4 h5
      generalize hW : ((((w1.setCell ⟨w.heap.size + 1 + 1 + 1, k * 5, none⟩ (.int .i64 P.c)).setCell ⟨w.heap.size + 1 + 1 + 1, k * 5 + 1, none⟩ (.int .i64 P.p0)).setCell ⟨w.heap.size + 1 + 1 + 1, k * 5 + 2, none⟩ (.int .i64 P.p1)).setCell ⟨w.heap.size + 1 + 1 + 1, k * 5 + 3, none⟩ (.int .i64 P.p2)).setCell ⟨w.heap.size + 1 + 1 + 1, k * 5 + 4, none⟩ (.int .i64 P.p3) = W4 at h1 h2 h3 h4 h5 ⊢
      have XL2 := Lib.hid h1
      have XA2 := Lib.hid h2
      have XT2 := Lib.hid h3
      have XO2 := Lib.hid h4
      have B2 := Lib.hid h5
      clear hW h1 h2 h3 h4 h5 fO lO XL1 XA1 XT1 XO1 B1
      obtain ⟨a0, a1, a2, a3, a4⟩ := row_get XA2.out hlt
      have la := lt_of XA2.out
      go_wp2_with fail
      cases hmo : (one.get k).may
      · refine (may_at (one.get k) false hmo _).mono ?_
        rintro e w2 ⟨rfl, b2⟩
        clear a0 a1 a2 a3 a4 la
        have B3 := Lib.hid (thru B2.out (thru (below_one _ _) b2))
        have XL3 := Lib.hid (Lvl.keep (thru (below_one _ _) b2) XL2.out)
        have XA3 := Lib.hid (Lvl.keep (thru (below_one _ _) b2) XA2.out)
        have XT3 := Lib.hid (Lvl.keep (thru (below_one _ _) b2) XT2.out)
        have XO3 := Lib.hid (Lvl.keep (thru (below_one _ _) b2) XO2.out)
        clear B2 XL2 XA2 XT2 XO2
        clear b2
        go_wp2_with fail
        refine (works_any _).mono ?_
        rintro e wz ⟨rfl, bz⟩
        have BZ := Lib.hid (thru B3.out bz)
        clear bz
        go_wp2_with fail
        go_ret
        exact ⟨rfl, BZ.out⟩
      · refine (may_at (one.get k) true hmo _).mono ?_
        rintro e w2 ⟨rfl, b2⟩
        clear a0 a1 a2 a3 a4 la
        have B3 := Lib.hid (thru B2.out (thru (below_one _ _) b2))
        have XL3 := Lib.hid (Lvl.keep (thru (below_one _ _) b2) XL2.out)
        have XA3 := Lib.hid (Lvl.keep (thru (below_one _ _) b2) XA2.out)
        have XT3 := Lib.hid (Lvl.keep (thru (below_one _ _) b2) XT2.out)
        have XO3 := Lib.hid (Lvl.keep (thru (below_one _ _) b2) XO2.out)
        clear B2 XL2 XA2 XT2 XO2
        clear b2
        obtain ⟨a0, a1, a2, a3, a4⟩ := row_get XT3.out hlt
        have la := lt_of XT3.out
        go_wp2_with fail
        cases hmt : (two.get k).may
        · refine (may_at (two.get k) false hmt _).mono ?_
          rintro e w3 ⟨rfl, b3⟩
          clear a0 a1 a2 a3 a4 la
          have B4 := Lib.hid (thru B3.out b3)
          have XL4 := Lib.hid (Lvl.keep b3 XL3.out)
          have XA4 := Lib.hid (Lvl.keep b3 XA3.out)
          have XT4 := Lib.hid (Lvl.keep b3 XT3.out)
          have XO4 := Lib.hid (Lvl.keep b3 XO3.out)
          clear B3 XL3 XA3 XT3 XO3
          clear b3
          go_wp2_with fail
          refine (works_any _).mono ?_
          rintro e wz ⟨rfl, bz⟩
          have BZ := Lib.hid (thru B4.out bz)
          clear bz
          go_wp2_with fail
          go_ret
          exact ⟨rfl, BZ.out⟩
        · refine (may_at (two.get k) true hmt _).mono ?_
          rintro e w3 ⟨rfl, b3⟩
          clear a0 a1 a2 a3 a4 la
          have B4 := Lib.hid (thru B3.out b3)
          have XL4 := Lib.hid (Lvl.keep b3 XL3.out)
          have XA4 := Lib.hid (Lvl.keep b3 XA3.out)
          have XT4 := Lib.hid (Lvl.keep b3 XT3.out)
          have XO4 := Lib.hid (Lvl.keep b3 XO3.out)
          clear B3 XL3 XA3 XT3 XO3
          clear b3
          go_wp2_with fail
          go_roundw
          case rel => exact ⟨k + 1, by go_num, by omega, XL4.out, XA4.out, XT4.out, XO4.out, B4.out, fun j hj => by
            by_cases hjk : j = k
            · subst hjk; exact ⟨hmo, hmt⟩
            · exact HM.out j (by omega)⟩
          case measure => simp [intOf]; omega
    · obtain rfl : k = 4 := by omega
      clear hlt hk4
      have HA := Lib.hid (okAll_of (r := one) fun j hj => (HM.out j hj).1)
      have HT := Lib.hid (okAll_of (r := two) fun j hj => (HM.out j hj).2)
      clear HM
      obtain ⟨cL0, cL1, cL2, cL3, cL4⟩ := Lv.cells XL0.out
      have lL := lt_of XL0.out
      go_wp2_with fail
      cases hml : l.may
      · refine (may_at l false hml _).mono ?_
        rintro e w1 ⟨rfl, b1⟩
        clear cL0 cL1 cL2 cL3 cL4 lL
        have B1 := Lib.hid (thru B0.out b1)
        have XL1 := Lib.hid (Lvl.keep b1 XL0.out)
        have XA1 := Lib.hid (Lvl.keep b1 XA0.out)
        have XT1 := Lib.hid (Lvl.keep b1 XT0.out)
        have XO1 := Lib.hid (Lvl.keep b1 XO0.out)
        clear B0 XL0 XA0 XT0 XO0
        clear b1
        go_wp2_with fail
        refine (works_any _).mono ?_
        rintro e wz ⟨rfl, bz⟩
        have BZ := Lib.hid (thru B1.out bz)
        clear bz
        go_wp2_with fail
        go_ret
        exact ⟨rfl, BZ.out⟩
      · refine (may_at l true hml _).mono ?_
        rintro e w1 ⟨rfl, b1⟩
        clear cL0 cL1 cL2 cL3 cL4 lL
        have B1 := Lib.hid (thru B0.out b1)
        have XL1 := Lib.hid (Lvl.keep b1 XL0.out)
        have XA1 := Lib.hid (Lvl.keep b1 XA0.out)
        have XT1 := Lib.hid (Lvl.keep b1 XT0.out)
        have XO1 := Lib.hid (Lvl.keep b1 XO0.out)
        clear B0 XL0 XA0 XT0 XO0
        clear b1
        have HL := Lib.hid ((may_iff l).1 hml)
        have HE1 := Lib.hid (inst_own HL.out)
        clear hml
        obtain ⟨cL0, cL1, cL2, cL3, cL4⟩ := Lv.cells XL1.out
        have lL := lt_of XL1.out
        go_wp2_with fail
        have HSQ := Lib.hid (fun (W : World) (hbq : Below w1.heap.size w1 W) => show Below w1.heap.size w1 W ∧ W.cell? ⟨w.heap.size, 0, none⟩ = some (.int .i64 l.c) ∧ W.cell? ⟨w.heap.size, 1, none⟩ = some (.int .i64 l.p0) ∧ W.cell? ⟨w.heap.size, 2, none⟩ = some (.int .i64 l.p1) ∧ W.cell? ⟨w.heap.size, 3, none⟩ = some (.int .i64 l.p2) ∧ W.cell? ⟨w.heap.size, 4, none⟩ = some (.int .i64 l.p3) from ⟨hbq, (Lv.cells (Lvl.keep hbq XL1.out)).1, (Lv.cells (Lvl.keep hbq XL1.out)).2.1, (Lv.cells (Lvl.keep hbq XL1.out)).2.2.1, (Lv.cells (Lvl.keep hbq XL1.out)).2.2.2.1, (Lv.cells (Lvl.keep hbq XL1.out)).2.2.2.2⟩)
        have HCI := Lib.hid (fun (W : World) (hbq : Below w1.heap.size w1 W) => (show Calls Try.prog 34 #[.agg #[.int .i64 l.c, .int .i64 l.p0, .int .i64 l.p1, .int .i64 l.p2, .int .i64 l.p3], .slice (some ⟨w.heap.size + 1 + 1 + 1, 0, none⟩) 4 4] W (fun e w' => e = .returned (.tuple #[.agg #[.int .i64 l.c, .int .i64 l.p0, .int .i64 l.p1, .int .i64 l.p2, .int .i64 l.p3], .int .i64 0]) ∧ Below W.heap.size W w') from inst_row_at l own (w.heap.size + 1 + 1 + 1) l 0 HE1.out W (Lvl.keep hbq XO1.out)))
        go_cut [11, 12] (fun s1 s2 wx => CutL w1 l 0 s1 s2 wx)
        case first => as_aux_lemma =>
          go_region_held3 (fun w' => Below w1.heap.size w1 w' ∧ w'.cell? ⟨w.heap.size, 0, none⟩ = some (.int .i64 l.c) ∧ w'.cell? ⟨w.heap.size, 1, none⟩ = some (.int .i64 l.p0) ∧ w'.cell? ⟨w.heap.size, 2, none⟩ = some (.int .i64 l.p1) ∧ w'.cell? ⟨w.heap.size, 3, none⟩ = some (.int .i64 l.p2) ∧ w'.cell? ⟨w.heap.size, 4, none⟩ = some (.int .i64 l.p3)) (first | (have _q := HZ0.out; first | (with_reducible exact HSQ.out _ HBq0.out) | exact HSQ.out _ (put5_below HBq0.out (Nat.le_refl _) l)) | (with_reducible exact HSQ.out _ (Below.refl _ _).drew) | (with_reducible exact HSQ.out _ (below_one _ _).drew) | (with_reducible exact HSQ.out _ HBq0.out) | (with_reducible exact HSQ.out _ (thru HBq0.out (below_one _ _))))
            (first
            | (go_at_call 34; have hC := HCI.out (w1.drew) (Below.refl _ _).drew; (with_reducible refine hC.mono ?_); clear hC; rintro e wi ⟨rfl, bi⟩
               have bi0 : Below w1.heap.size w1 wi := undrew bi
               have HBq0 := Lib.hid bi0
               clear bi bi0)
            | (go_at_call 34; have hC := HCI.out ((w1.alloc (.cells #[.int .i64 0, .int .i64 0, .int .i64 0, .int .i64 0, .int .i64 0] 44)).drew) (below_one _ _).drew; (with_reducible refine hC.mono ?_); clear hC; rintro e wi ⟨rfl, bi⟩
               have bi0 : Below (w1.alloc (.cells #[.int .i64 0, .int .i64 0, .int .i64 0, .int .i64 0, .int .i64 0] 44)).heap.size (w1.alloc (.cells #[.int .i64 0, .int .i64 0, .int .i64 0, .int .i64 0, .int .i64 0] 44)) wi := undrew bi
               have HBq0 := Lib.hid (thru (below_one w1 (.cells #[.int .i64 0, .int .i64 0, .int .i64 0, .int .i64 0, .int .i64 0] 44)) bi0)
               have hz := Lvl.keep bi0 (World.alloc_heap_new w1 (.cells #[.int .i64 0, .int .i64 0, .int .i64 0, .int .i64 0, .int .i64 0] 44))
               have HZ0 := Lib.hid hz
               obtain ⟨p0, p1, p2, p3, p4⟩ := Lv.cells (l := zero) hz
               obtain ⟨f0, f1, f2, f3, f4⟩ := Lv.frees (l := zero) hz
               have lx := lt_of hz
               clear bi bi0 hz))
          all_goals
            go_wp2_with fail
            go_meet
            first
              | (have _q := HZ0.out; exact cutl_early HZ0.out (Nat.le_refl _) HBq0.out)
              | exact cutl_late HBq0.out
        case rest => as_aux_lemma =>
          clear HSQ HCI
          obtain ⟨X13, rfl, rfl, hX, hbc⟩ := hcut
          obtain ⟨w13, rfl⟩ : ∃ v, v = wc := ⟨_, rfl⟩
          clear cL0 cL1 cL2 cL3 cL4 lL
          have B2 := Lib.hid (thru B1.out hbc)
          have XL2 := Lib.hid (Lvl.keep hbc XL1.out)
          have XA2 := Lib.hid (Lvl.keep hbc XA1.out)
          have XT2 := Lib.hid (Lvl.keep hbc XT1.out)
          have XO2 := Lib.hid (Lvl.keep hbc XO1.out)
          clear B1 XL1 XA1 XT1 XO1
          have XS2 := Lib.hid hX
          clear hX hbc
          obtain ⟨cS0, cS1, cS2, cS3, cS4⟩ := Lv.cells XS2.out
          have lS := lt_of XS2.out
          obtain ⟨cL0, cL1, cL2, cL3, cL4⟩ := Lv.cells XL2.out
          have lL := lt_of XL2.out
          go_wp2_with fail
          rcases inst_ok HL.out HA.out with ⟨a, ea, hao, hae, hav⟩ | ea
          · have HE2 := Lib.hid ea
            have HAO := Lib.hid hao
            clear ea hao hae hav
            have HSQ := Lib.hid (fun (W : World) (hbq : Below w13.heap.size w13 W) => show Below w13.heap.size w13 W ∧ W.cell? ⟨w.heap.size, 0, none⟩ = some (.int .i64 l.c) ∧ W.cell? ⟨w.heap.size, 1, none⟩ = some (.int .i64 l.p0) ∧ W.cell? ⟨w.heap.size, 2, none⟩ = some (.int .i64 l.p1) ∧ W.cell? ⟨w.heap.size, 3, none⟩ = some (.int .i64 l.p2) ∧ W.cell? ⟨w.heap.size, 4, none⟩ = some (.int .i64 l.p3) from ⟨hbq, (Lv.cells (Lvl.keep hbq XL2.out)).1, (Lv.cells (Lvl.keep hbq XL2.out)).2.1, (Lv.cells (Lvl.keep hbq XL2.out)).2.2.1, (Lv.cells (Lvl.keep hbq XL2.out)).2.2.2.1, (Lv.cells (Lvl.keep hbq XL2.out)).2.2.2.2⟩)
            have HCI := Lib.hid (fun (W : World) (hbq : Below w13.heap.size w13 W) => (show Calls Try.prog 34 #[.agg #[.int .i64 l.c, .int .i64 l.p0, .int .i64 l.p1, .int .i64 l.p2, .int .i64 l.p3], .slice (some ⟨w.heap.size + 1, 0, none⟩) 4 4] W (fun e w' => e = .returned (.tuple #[.agg #[.int .i64 a.c, .int .i64 a.p0, .int .i64 a.p1, .int .i64 a.p2, .int .i64 a.p3], .int .i64 0]) ∧ Below W.heap.size W w') from inst_row_at l one (w.heap.size + 1) a 0 HE2.out W (Lvl.keep hbq XA2.out)))
            go_cut [13, 12] (fun s1 s2 wx => CutL w13 a 0 s1 s2 wx)
            case first => as_aux_lemma =>
              go_region_held3 (fun w' => Below w13.heap.size w13 w' ∧ w'.cell? ⟨w.heap.size, 0, none⟩ = some (.int .i64 l.c) ∧ w'.cell? ⟨w.heap.size, 1, none⟩ = some (.int .i64 l.p0) ∧ w'.cell? ⟨w.heap.size, 2, none⟩ = some (.int .i64 l.p1) ∧ w'.cell? ⟨w.heap.size, 3, none⟩ = some (.int .i64 l.p2) ∧ w'.cell? ⟨w.heap.size, 4, none⟩ = some (.int .i64 l.p3)) (first | (have _q := HZ0.out; first | (with_reducible exact HSQ.out _ HBq0.out) | exact HSQ.out _ (put5_below HBq0.out (Nat.le_refl _) a)) | (with_reducible exact HSQ.out _ (Below.refl _ _).drew) | (with_reducible exact HSQ.out _ (below_one _ _).drew) | (with_reducible exact HSQ.out _ HBq0.out) | (with_reducible exact HSQ.out _ (thru HBq0.out (below_one _ _))))
                (first
                | (go_at_call 34; have hC := HCI.out (w13.drew) (Below.refl _ _).drew; (with_reducible refine hC.mono ?_); clear hC; rintro e wi ⟨rfl, bi⟩
                   have bi0 : Below w13.heap.size w13 wi := undrew bi
                   have HBq0 := Lib.hid bi0
                   clear bi bi0)
                | (go_at_call 34; have hC := HCI.out ((w13.alloc (.cells #[.int .i64 0, .int .i64 0, .int .i64 0, .int .i64 0, .int .i64 0] 44)).drew) (below_one _ _).drew; (with_reducible refine hC.mono ?_); clear hC; rintro e wi ⟨rfl, bi⟩
                   have bi0 : Below (w13.alloc (.cells #[.int .i64 0, .int .i64 0, .int .i64 0, .int .i64 0, .int .i64 0] 44)).heap.size (w13.alloc (.cells #[.int .i64 0, .int .i64 0, .int .i64 0, .int .i64 0, .int .i64 0] 44)) wi := undrew bi
                   have HBq0 := Lib.hid (thru (below_one w13 (.cells #[.int .i64 0, .int .i64 0, .int .i64 0, .int .i64 0, .int .i64 0] 44)) bi0)
                   have hz := Lvl.keep bi0 (World.alloc_heap_new w13 (.cells #[.int .i64 0, .int .i64 0, .int .i64 0, .int .i64 0, .int .i64 0] 44))
                   have HZ0 := Lib.hid hz
                   obtain ⟨p0, p1, p2, p3, p4⟩ := Lv.cells (l := zero) hz
                   obtain ⟨f0, f1, f2, f3, f4⟩ := Lv.frees (l := zero) hz
                   have lx := lt_of hz
                   clear bi bi0 hz))
              all_goals
                go_wp2_with fail
                go_meet
                first
                  | (have _q := HZ0.out; exact cutl_early HZ0.out (Nat.le_refl _) HBq0.out)
                  | exact cutl_late HBq0.out
            case rest => as_aux_lemma =>
              clear HSQ HCI
              obtain ⟨X16, rfl, rfl, hX, hbc⟩ := hcut
              obtain ⟨w16, rfl⟩ : ∃ v, v = wc := ⟨_, rfl⟩
              have B3 := Lib.hid (thru B2.out hbc)
              have XL3 := Lib.hid (Lvl.keep hbc XL2.out)
              have XA3 := Lib.hid (Lvl.keep hbc XA2.out)
              have XT3 := Lib.hid (Lvl.keep hbc XT2.out)
              clear B2 XL2 XA2 XT2
              have XC3 := Lib.hid hX
              clear hX hbc
              clear cS0 cS1 cS2 cS3 cS4 lS cL0 cL1 cL2 cL3 cL4 lL
              obtain ⟨cC0, cC1, cC2, cC3, cC4⟩ := Lv.cells XC3.out
              have lC := lt_of XC3.out
              go_wp2_with fail
              rcases inst_ok HAO.out HT.out with ⟨b, eb, hbo, hbe, hbv⟩ | eb
              · have HE3 := Lib.hid eb
                have HBO := Lib.hid hbo
                clear eb hbo hbe hbv
                have HSQ := Lib.hid (fun (W : World) (hbq : Below w16.heap.size w16 W) => show Below w16.heap.size w16 W ∧ W.cell? ⟨X16, 0, none⟩ = some (.int .i64 a.c) ∧ W.cell? ⟨X16, 1, none⟩ = some (.int .i64 a.p0) ∧ W.cell? ⟨X16, 2, none⟩ = some (.int .i64 a.p1) ∧ W.cell? ⟨X16, 3, none⟩ = some (.int .i64 a.p2) ∧ W.cell? ⟨X16, 4, none⟩ = some (.int .i64 a.p3) from ⟨hbq, (Lv.cells (Lvl.keep hbq XC3.out)).1, (Lv.cells (Lvl.keep hbq XC3.out)).2.1, (Lv.cells (Lvl.keep hbq XC3.out)).2.2.1, (Lv.cells (Lvl.keep hbq XC3.out)).2.2.2.1, (Lv.cells (Lvl.keep hbq XC3.out)).2.2.2.2⟩)
                have HCI := Lib.hid (fun (W : World) (hbq : Below w16.heap.size w16 W) => (show Calls Try.prog 34 #[.agg #[.int .i64 a.c, .int .i64 a.p0, .int .i64 a.p1, .int .i64 a.p2, .int .i64 a.p3], .slice (some ⟨w.heap.size + 1 + 1, 0, none⟩) 4 4] W (fun e w' => e = .returned (.tuple #[.agg #[.int .i64 b.c, .int .i64 b.p0, .int .i64 b.p1, .int .i64 b.p2, .int .i64 b.p3], .int .i64 0]) ∧ Below W.heap.size W w') from inst_row_at a two (w.heap.size + 1 + 1) b 0 HE3.out W (Lvl.keep hbq XT3.out)))
                go_cut [14, 12] (fun s1 s2 wx => CutL w16 b 0 s1 s2 wx)
                case first => as_aux_lemma =>
                  go_region_held3 (fun w' => Below w16.heap.size w16 w' ∧ w'.cell? ⟨X16, 0, none⟩ = some (.int .i64 a.c) ∧ w'.cell? ⟨X16, 1, none⟩ = some (.int .i64 a.p0) ∧ w'.cell? ⟨X16, 2, none⟩ = some (.int .i64 a.p1) ∧ w'.cell? ⟨X16, 3, none⟩ = some (.int .i64 a.p2) ∧ w'.cell? ⟨X16, 4, none⟩ = some (.int .i64 a.p3)) (first | (have _q := HZ0.out; first | (with_reducible exact HSQ.out _ HBq0.out) | exact HSQ.out _ (put5_below HBq0.out (Nat.le_refl _) b)) | (with_reducible exact HSQ.out _ (Below.refl _ _).drew) | (with_reducible exact HSQ.out _ (below_one _ _).drew) | (with_reducible exact HSQ.out _ HBq0.out) | (with_reducible exact HSQ.out _ (thru HBq0.out (below_one _ _))))
                    (first
                    | (go_at_call 34; have hC := HCI.out (w16.drew) (Below.refl _ _).drew; (with_reducible refine hC.mono ?_); clear hC; rintro e wi ⟨rfl, bi⟩
                       have bi0 : Below w16.heap.size w16 wi := undrew bi
                       have HBq0 := Lib.hid bi0
                       clear bi bi0)
                    | (go_at_call 34; have hC := HCI.out ((w16.alloc (.cells #[.int .i64 0, .int .i64 0, .int .i64 0, .int .i64 0, .int .i64 0] 44)).drew) (below_one _ _).drew; (with_reducible refine hC.mono ?_); clear hC; rintro e wi ⟨rfl, bi⟩
                       have bi0 : Below (w16.alloc (.cells #[.int .i64 0, .int .i64 0, .int .i64 0, .int .i64 0, .int .i64 0] 44)).heap.size (w16.alloc (.cells #[.int .i64 0, .int .i64 0, .int .i64 0, .int .i64 0, .int .i64 0] 44)) wi := undrew bi
                       have HBq0 := Lib.hid (thru (below_one w16 (.cells #[.int .i64 0, .int .i64 0, .int .i64 0, .int .i64 0, .int .i64 0] 44)) bi0)
                       have hz := Lvl.keep bi0 (World.alloc_heap_new w16 (.cells #[.int .i64 0, .int .i64 0, .int .i64 0, .int .i64 0, .int .i64 0] 44))
                       have HZ0 := Lib.hid hz
                       obtain ⟨p0, p1, p2, p3, p4⟩ := Lv.cells (l := zero) hz
                       obtain ⟨f0, f1, f2, f3, f4⟩ := Lv.frees (l := zero) hz
                       have lx := lt_of hz
                       clear bi bi0 hz))
                  all_goals
                    go_wp2_with fail
                    go_meet
                    first
                      | (have _q := HZ0.out; exact cutl_early HZ0.out (Nat.le_refl _) HBq0.out)
                      | exact cutl_late HBq0.out
                case rest => as_aux_lemma =>
                  clear HSQ HCI
                  obtain ⟨X19, rfl, rfl, hX, hbc⟩ := hcut
                  obtain ⟨w19, rfl⟩ : ∃ v, v = wc := ⟨_, rfl⟩
                  have B4 := Lib.hid (thru B3.out hbc)
                  have XL4 := Lib.hid (Lvl.keep hbc XL3.out)
                  have XA4 := Lib.hid (Lvl.keep hbc XA3.out)
                  have XT4 := Lib.hid (Lvl.keep hbc XT3.out)
                  have XC4 := Lib.hid (Lvl.keep hbc XC3.out)
                  clear B3 XL3 XA3 XT3 XC3
                  have XD4 := Lib.hid hX
                  clear hX hbc
                  clear cC0 cC1 cC2 cC3 cC4 lC
                  obtain ⟨both, hboth⟩ : ∃ r, r = bothOf one two := ⟨_, rfl⟩
                  have HBE := Lib.hid hboth
                  have HBW : Hid (w.heap.size ≤ w19.heap.size) := Lib.hid B4.out.size
                  have HXA : Hid (w.heap.size + 1 < w19.heap.size) := Lib.hid (lt_of XA4.out)
                  have HXT : Hid (w.heap.size + 1 + 1 < w19.heap.size) := Lib.hid (lt_of XT4.out)
                  have HXD : Hid (X19 < w19.heap.size) := Lib.hid (lt_of XD4.out)
                  have M1 := Lib.hid (keepA XL4.out (both.upTo 0).box)
                  have M2 := Lib.hid (keepA XA4.out (both.upTo 0).box)
                  have M3 := Lib.hid (keepA XT4.out (both.upTo 0).box)
                  have M4 := Lib.hid (keepA XD4.out (both.upTo 0).box)
                  have M5 := Lib.hid (World.alloc_heap_new w19 (both.upTo 0).box)
                  have M6 := Lib.hid (below_a B4.out (both.upTo 0).box)
                  clear hboth
                  go_wp2_with fail
                  go_loopw [16] (fun i wr => InsRel2 w l b one two both X19 w19.heap.size i wr) (fun i _ => 4 - (intOf i).toNat)
                  case atStart => exact ⟨0, rfl, by omega, M1.out, M2.out, M3.out, M4.out, M5.out, M6.out, fun j hj => by omega⟩
                  case round =>
                    clear M1 M2 M3 M4 M5 M6 B4 XL4 XA4 XT4 XD4
                    obtain ⟨k, rfl, hk4, h1, h2, h3, h4, h5, hb, hm⟩ := hrel
                    have XL0 := Lib.hid h1
                    have XA0 := Lib.hid h2
                    have XT0 := Lib.hid h3
                    have XD0 := Lib.hid h4
                    have XO0 := Lib.hid h5
                    have B0 := Lib.hid hb
                    have HM := Lib.hid hm
                    clear h1 h2 h3 h4 h5 hb hm
                    obtain ⟨w22, rfl⟩ : ∃ v, v = wr := ⟨_, rfl⟩
                    by_cases hlt : k < 4
                    · obtain ⟨y, hy⟩ : ∃ y, both.get k = y := ⟨_, rfl⟩
                      have HY := Lib.hid hy
                      have hboth := both_one HA.out HT.out k
                      rw [← HBE.out, hy] at hboth
                      clear hy
                      have hx : k * 5 < 20 := by omega
                      go_wp2_with fail
                      rcases hboth with ey | ey
                      · have HE4 := Lib.hid ey
                        clear ey
                        have HSQ := Lib.hid (fun (W : World) (hbq : Below w22.heap.size w22 W) => show Below w22.heap.size w22 W ∧ W.cell? ⟨w.heap.size + 1, k * 5, none⟩ = some (.int .i64 (one.get k).c) ∧ W.cell? ⟨w.heap.size + 1, k * 5 + 1, none⟩ = some (.int .i64 (one.get k).p0) ∧ W.cell? ⟨w.heap.size + 1, k * 5 + 2, none⟩ = some (.int .i64 (one.get k).p1) ∧ W.cell? ⟨w.heap.size + 1, k * 5 + 3, none⟩ = some (.int .i64 (one.get k).p2) ∧ W.cell? ⟨w.heap.size + 1, k * 5 + 4, none⟩ = some (.int .i64 (one.get k).p3) from ⟨hbq, (row_get (Lvl.keep hbq XA0.out) hlt).1, (row_get (Lvl.keep hbq XA0.out) hlt).2.1, (row_get (Lvl.keep hbq XA0.out) hlt).2.2.1, (row_get (Lvl.keep hbq XA0.out) hlt).2.2.2.1, (row_get (Lvl.keep hbq XA0.out) hlt).2.2.2.2⟩)
                        have HCI := Lib.hid (fun (W : World) (hbq : Below w22.heap.size w22 W) => (show Calls Try.prog 34 #[.agg #[.int .i64 (one.get k).c, .int .i64 (one.get k).p0, .int .i64 (one.get k).p1, .int .i64 (one.get k).p2, .int .i64 (one.get k).p3], .slice (some ⟨w.heap.size + 1 + 1, 0, none⟩) 4 4] W (fun e w' => e = .returned (.tuple #[.agg #[.int .i64 y.c, .int .i64 y.p0, .int .i64 y.p1, .int .i64 y.p2, .int .i64 y.p3], .int .i64 0]) ∧ Below W.heap.size W w') from inst_row_at (one.get k) two (w.heap.size + 1 + 1) y 0 HE4.out W (Lvl.keep hbq XT0.out)))
                        go_cut [17, 18] (fun s1 s2 wx => CutL w22 y 0 s1 s2 wx)
                        case first => as_aux_lemma =>
                          go_region_held3 (fun w' => Below w22.heap.size w22 w' ∧ w'.cell? ⟨w.heap.size + 1, k * 5, none⟩ = some (.int .i64 (one.get k).c) ∧ w'.cell? ⟨w.heap.size + 1, k * 5 + 1, none⟩ = some (.int .i64 (one.get k).p0) ∧ w'.cell? ⟨w.heap.size + 1, k * 5 + 2, none⟩ = some (.int .i64 (one.get k).p1) ∧ w'.cell? ⟨w.heap.size + 1, k * 5 + 3, none⟩ = some (.int .i64 (one.get k).p2) ∧ w'.cell? ⟨w.heap.size + 1, k * 5 + 4, none⟩ = some (.int .i64 (one.get k).p3)) (first | (have _q := HZ0.out; first | (with_reducible exact HSQ.out _ HBq0.out) | exact HSQ.out _ (put5_below HBq0.out (Nat.le_refl _) y)) | (with_reducible exact HSQ.out _ (Below.refl _ _).drew) | (with_reducible exact HSQ.out _ (below_one _ _).drew) | (with_reducible exact HSQ.out _ HBq0.out) | (with_reducible exact HSQ.out _ (thru HBq0.out (below_one _ _))))
                            (first
                            | (go_at_call 34; have hC := HCI.out (w22.drew) (Below.refl _ _).drew; (with_reducible refine hC.mono ?_); clear hC; rintro e wi ⟨rfl, bi⟩
                               have bi0 : Below w22.heap.size w22 wi := undrew bi
                               have HBq0 := Lib.hid bi0
                               clear bi bi0)
                            | (go_at_call 34; have hC := HCI.out ((w22.alloc (.cells #[.int .i64 0, .int .i64 0, .int .i64 0, .int .i64 0, .int .i64 0] 44)).drew) (below_one _ _).drew; (with_reducible refine hC.mono ?_); clear hC; rintro e wi ⟨rfl, bi⟩
                               have bi0 : Below (w22.alloc (.cells #[.int .i64 0, .int .i64 0, .int .i64 0, .int .i64 0, .int .i64 0] 44)).heap.size (w22.alloc (.cells #[.int .i64 0, .int .i64 0, .int .i64 0, .int .i64 0, .int .i64 0] 44)) wi := undrew bi
                               have HBq0 := Lib.hid (thru (below_one w22 (.cells #[.int .i64 0, .int .i64 0, .int .i64 0, .int .i64 0, .int .i64 0] 44)) bi0)
                               have hz := Lvl.keep bi0 (World.alloc_heap_new w22 (.cells #[.int .i64 0, .int .i64 0, .int .i64 0, .int .i64 0, .int .i64 0] 44))
                               have HZ0 := Lib.hid hz
                               obtain ⟨p0, p1, p2, p3, p4⟩ := Lv.cells (l := zero) hz
                               obtain ⟨f0, f1, f2, f3, f4⟩ := Lv.frees (l := zero) hz
                               have lx := lt_of hz
                               clear bi bi0 hz))
                          all_goals
                            go_wp2_with fail
                            go_meet
                            first
                              | (have _q := HZ0.out; exact cutl_early HZ0.out (Nat.le_refl _) HBq0.out)
                              | exact cutl_late HBq0.out
                        case rest => as_aux_lemma =>
                          clear HSQ HCI
                          obtain ⟨X26, rfl, rfl, hX, hbc⟩ := hcut
                          obtain ⟨w26, rfl⟩ : ∃ v, v = wc := ⟨_, rfl⟩
                          have B1 := Lib.hid (thru B0.out hbc)
                          have XL1 := Lib.hid (Lvl.keep hbc XL0.out)
                          have XA1 := Lib.hid (Lvl.keep hbc XA0.out)
                          have XT1 := Lib.hid (Lvl.keep hbc XT0.out)
                          have XD1 := Lib.hid (Lvl.keep hbc XD0.out)
                          have XO1 := Lib.hid (Lvl.keep hbc XO0.out)
                          clear B0 XL0 XA0 XT0 XD0 XO0
                          have XY1 := Lib.hid hX
                          clear hX hbc
                          obtain ⟨cY0, cY1, cY2, cY3, cY4⟩ := Lv.cells XY1.out
                          have lY := lt_of XY1.out
                          have fO : ∀ i, w26.frozen? ⟨w19.heap.size, i, none⟩ = false := fun i => Row4.free XO1.out i
                          have lO := lt_of XO1.out
                          obtain ⟨o0, o1, o2, o3, o4⟩ := row_get XO1.out hlt
                          have h1 := row_other XL1.out y (b := w19.heap.size) (o := k * 5) (by have := HBW.out; have := HXA.out; omega)
                          have h2 := row_other XA1.out y (b := w19.heap.size) (o := k * 5) (by have := HXA.out; omega)
                          have h3 := row_other XT1.out y (b := w19.heap.size) (o := k * 5) (by have := HXT.out; omega)
                          have h4 := row_other XD1.out y (b := w19.heap.size) (o := k * 5) (by have := HXD.out; omega)
                          have h5 := row_set XO1.out y hlt
                          have h6 := row_below B1.out (B := w19.heap.size) HBW.out (k * 5) y
                          rw [← HY.out, Row4.upTo_step both hlt, HY.out] at h5
                          have G1 := Lib.hid h1
                          have G2 := Lib.hid h2
                          have G3 := Lib.hid h3
                          have G4 := Lib.hid h4
                          have G5 := Lib.hid h5
                          have G6 := Lib.hid h6
                          clear h1 h2 h3 h4 h5 h6
                          go_wp2_with fail
                          go_roundw
                          case rel => exact ⟨k + 1, by go_num, by omega, G1.out, G2.out, G3.out, G4.out, G5.out, G6.out, fun j hj => by
                            by_cases hjk : j = k
                            · subst hjk; rw [HY.out]; exact HE4.out
                            · exact HM.out j (by omega)⟩
                          case measure => simp [intOf]; omega
                      · obtain ⟨z, hz⟩ : ∃ z, z = zero := ⟨_, rfl⟩
                        rw [← hz] at ey
                        clear hz
                        have HSQ := Lib.hid (fun (W : World) (hbq : Below w22.heap.size w22 W) => show Below w22.heap.size w22 W ∧ W.cell? ⟨w.heap.size + 1, k * 5, none⟩ = some (.int .i64 (one.get k).c) ∧ W.cell? ⟨w.heap.size + 1, k * 5 + 1, none⟩ = some (.int .i64 (one.get k).p0) ∧ W.cell? ⟨w.heap.size + 1, k * 5 + 2, none⟩ = some (.int .i64 (one.get k).p1) ∧ W.cell? ⟨w.heap.size + 1, k * 5 + 3, none⟩ = some (.int .i64 (one.get k).p2) ∧ W.cell? ⟨w.heap.size + 1, k * 5 + 4, none⟩ = some (.int .i64 (one.get k).p3) from ⟨hbq, (row_get (Lvl.keep hbq XA0.out) hlt).1, (row_get (Lvl.keep hbq XA0.out) hlt).2.1, (row_get (Lvl.keep hbq XA0.out) hlt).2.2.1, (row_get (Lvl.keep hbq XA0.out) hlt).2.2.2.1, (row_get (Lvl.keep hbq XA0.out) hlt).2.2.2.2⟩)
                        have HCI := Lib.hid (fun (W : World) (hbq : Below w22.heap.size w22 W) => (show Calls Try.prog 34 #[.agg #[.int .i64 (one.get k).c, .int .i64 (one.get k).p0, .int .i64 (one.get k).p1, .int .i64 (one.get k).p2, .int .i64 (one.get k).p3], .slice (some ⟨w.heap.size + 1 + 1, 0, none⟩) 4 4] W (fun e w' => e = .returned (.tuple #[.agg #[.int .i64 z.c, .int .i64 z.p0, .int .i64 z.p1, .int .i64 z.p2, .int .i64 z.p3], .int .i64 4]) ∧ Below W.heap.size W w') from inst_row_at (one.get k) two (w.heap.size + 1 + 1) z 4 ey W (Lvl.keep hbq XT0.out)))
                        go_cut [17, 18] (fun s1 s2 wx => CutL w22 z 4 s1 s2 wx)
                        case first => as_aux_lemma =>
                          go_region_held3 (fun w' => Below w22.heap.size w22 w' ∧ w'.cell? ⟨w.heap.size + 1, k * 5, none⟩ = some (.int .i64 (one.get k).c) ∧ w'.cell? ⟨w.heap.size + 1, k * 5 + 1, none⟩ = some (.int .i64 (one.get k).p0) ∧ w'.cell? ⟨w.heap.size + 1, k * 5 + 2, none⟩ = some (.int .i64 (one.get k).p1) ∧ w'.cell? ⟨w.heap.size + 1, k * 5 + 3, none⟩ = some (.int .i64 (one.get k).p2) ∧ w'.cell? ⟨w.heap.size + 1, k * 5 + 4, none⟩ = some (.int .i64 (one.get k).p3)) (first | (have _q := HZ0.out; first | (with_reducible exact HSQ.out _ HBq0.out) | exact HSQ.out _ (put5_below HBq0.out (Nat.le_refl _) z)) | (with_reducible exact HSQ.out _ (Below.refl _ _).drew) | (with_reducible exact HSQ.out _ (below_one _ _).drew) | (with_reducible exact HSQ.out _ HBq0.out) | (with_reducible exact HSQ.out _ (thru HBq0.out (below_one _ _))))
                            (first
                            | (go_at_call 34; have hC := HCI.out (w22.drew) (Below.refl _ _).drew; (with_reducible refine hC.mono ?_); clear hC; rintro e wi ⟨rfl, bi⟩
                               have bi0 : Below w22.heap.size w22 wi := undrew bi
                               have HBq0 := Lib.hid bi0
                               clear bi bi0)
                            | (go_at_call 34; have hC := HCI.out ((w22.alloc (.cells #[.int .i64 0, .int .i64 0, .int .i64 0, .int .i64 0, .int .i64 0] 44)).drew) (below_one _ _).drew; (with_reducible refine hC.mono ?_); clear hC; rintro e wi ⟨rfl, bi⟩
                               have bi0 : Below (w22.alloc (.cells #[.int .i64 0, .int .i64 0, .int .i64 0, .int .i64 0, .int .i64 0] 44)).heap.size (w22.alloc (.cells #[.int .i64 0, .int .i64 0, .int .i64 0, .int .i64 0, .int .i64 0] 44)) wi := undrew bi
                               have HBq0 := Lib.hid (thru (below_one w22 (.cells #[.int .i64 0, .int .i64 0, .int .i64 0, .int .i64 0, .int .i64 0] 44)) bi0)
                               have hz := Lvl.keep bi0 (World.alloc_heap_new w22 (.cells #[.int .i64 0, .int .i64 0, .int .i64 0, .int .i64 0, .int .i64 0] 44))
                               have HZ0 := Lib.hid hz
                               obtain ⟨p0, p1, p2, p3, p4⟩ := Lv.cells (l := zero) hz
                               obtain ⟨f0, f1, f2, f3, f4⟩ := Lv.frees (l := zero) hz
                               have lx := lt_of hz
                               clear bi bi0 hz))
                          all_goals
                            go_wp2_with fail
                            go_meet
                            first
                              | (have _q := HZ0.out; exact cutl_early HZ0.out (Nat.le_refl _) HBq0.out)
                              | exact cutl_late HBq0.out
                        case rest => as_aux_lemma =>
                          clear HSQ HCI
                          obtain ⟨X26, rfl, rfl, hX, hbc⟩ := hcut
                          obtain ⟨w26, rfl⟩ : ∃ v, v = wc := ⟨_, rfl⟩
                          have B1 := Lib.hid (thru B0.out hbc)
                          have XL1 := Lib.hid (Lvl.keep hbc XL0.out)
                          have XA1 := Lib.hid (Lvl.keep hbc XA0.out)
                          have XT1 := Lib.hid (Lvl.keep hbc XT0.out)
                          have XD1 := Lib.hid (Lvl.keep hbc XD0.out)
                          have XO1 := Lib.hid (Lvl.keep hbc XO0.out)
                          clear B0 XL0 XA0 XT0 XD0 XO0
                          clear hX hbc
                          go_wp2_with fail
                          refine (works_any _).mono ?_
                          rintro e wz ⟨rfl, bz⟩
                          have BZ := Lib.hid (thru B1.out bz)
                          clear bz
                          go_wp2_with fail
                          go_ret
                          exact ⟨rfl, BZ.out⟩
                    · obtain rfl : k = 4 := by omega
                      clear hlt hk4
                      obtain ⟨hbok, htw⟩ := inst_twice HL.out HA.out HT.out HE2.out (HM.out 0 (by omega)) (HM.out 1 (by omega)) (HM.out 2 (by omega)) (HM.out 3 (by omega))
                      rw [HE3.out] at htw
                      have HE5 := Lib.hid htw
                      have HBK := Lib.hid hbok
                      have HE9 := Lib.hid (HM.out 0 (by omega))
                      obtain ⟨m, hm1, hmo⟩ : ∃ m, maxi l one.b0 = (m, 0) ∧ m.ok := ⟨_, (max_ok HL.out HA.out.1).1, (max_ok HL.out HA.out.1).2⟩
                      obtain ⟨nn, qn, hn1⟩ : ∃ nn qn, inst m two.list = (nn, qn) := ⟨_, _, rfl⟩
                      obtain ⟨p, qp, hp1⟩ : ∃ p qp, inst l two.list = (p, qp) := ⟨_, _, rfl⟩
                      have HE6 := Lib.hid hm1
                      have HE7 := Lib.hid hn1
                      have HE8 := Lib.hid hp1
                      have HMO := Lib.hid hmo
                      clear hbok htw hm1 hmo hn1 hp1 HM
                      go_wp2_with fail
                      have HSQ := Lib.hid (fun (W : World) (hbq : Below w22.heap.size w22 W) => show Below w22.heap.size w22 W ∧ W.cell? ⟨w.heap.size, 0, none⟩ = some (.int .i64 l.c) ∧ W.cell? ⟨w.heap.size, 1, none⟩ = some (.int .i64 l.p0) ∧ W.cell? ⟨w.heap.size, 2, none⟩ = some (.int .i64 l.p1) ∧ W.cell? ⟨w.heap.size, 3, none⟩ = some (.int .i64 l.p2) ∧ W.cell? ⟨w.heap.size, 4, none⟩ = some (.int .i64 l.p3) from ⟨hbq, (Lv.cells (Lvl.keep hbq XL0.out)).1, (Lv.cells (Lvl.keep hbq XL0.out)).2.1, (Lv.cells (Lvl.keep hbq XL0.out)).2.2.1, (Lv.cells (Lvl.keep hbq XL0.out)).2.2.2.1, (Lv.cells (Lvl.keep hbq XL0.out)).2.2.2.2⟩)
                      have HCI := Lib.hid (fun (W : World) (hbq : Below w22.heap.size w22 W) => (show Calls Try.prog 34 #[.agg #[.int .i64 l.c, .int .i64 l.p0, .int .i64 l.p1, .int .i64 l.p2, .int .i64 l.p3], .slice (some ⟨w19.heap.size, 0, none⟩) 4 4] W (fun e w' => e = .returned (.tuple #[.agg #[.int .i64 b.c, .int .i64 b.p0, .int .i64 b.p1, .int .i64 b.p2, .int .i64 b.p3], .int .i64 0]) ∧ Below W.heap.size W w') from inst_row_at l both (w19.heap.size) b 0 HE5.out W (Lvl.keep hbq XO0.out)))
                      go_cut [19, 20] (fun s1 s2 wx => CutL w22 b 0 s1 s2 wx)
                      case first => as_aux_lemma =>
                        go_region_held3 (fun w' => Below w22.heap.size w22 w' ∧ w'.cell? ⟨w.heap.size, 0, none⟩ = some (.int .i64 l.c) ∧ w'.cell? ⟨w.heap.size, 1, none⟩ = some (.int .i64 l.p0) ∧ w'.cell? ⟨w.heap.size, 2, none⟩ = some (.int .i64 l.p1) ∧ w'.cell? ⟨w.heap.size, 3, none⟩ = some (.int .i64 l.p2) ∧ w'.cell? ⟨w.heap.size, 4, none⟩ = some (.int .i64 l.p3)) (first | (have _q := HZ0.out; first | (with_reducible exact HSQ.out _ HBq0.out) | exact HSQ.out _ (put5_below HBq0.out (Nat.le_refl _) b)) | (with_reducible exact HSQ.out _ (Below.refl _ _).drew) | (with_reducible exact HSQ.out _ (below_one _ _).drew) | (with_reducible exact HSQ.out _ HBq0.out) | (with_reducible exact HSQ.out _ (thru HBq0.out (below_one _ _))))
                          (first
                          | (go_at_call 34; have hC := HCI.out (w22.drew) (Below.refl _ _).drew; (with_reducible refine hC.mono ?_); clear hC; rintro e wi ⟨rfl, bi⟩
                             have bi0 : Below w22.heap.size w22 wi := undrew bi
                             have HBq0 := Lib.hid bi0
                             clear bi bi0)
                          | (go_at_call 34; have hC := HCI.out ((w22.alloc (.cells #[.int .i64 0, .int .i64 0, .int .i64 0, .int .i64 0, .int .i64 0] 44)).drew) (below_one _ _).drew; (with_reducible refine hC.mono ?_); clear hC; rintro e wi ⟨rfl, bi⟩
                             have bi0 : Below (w22.alloc (.cells #[.int .i64 0, .int .i64 0, .int .i64 0, .int .i64 0, .int .i64 0] 44)).heap.size (w22.alloc (.cells #[.int .i64 0, .int .i64 0, .int .i64 0, .int .i64 0, .int .i64 0] 44)) wi := undrew bi
                             have HBq0 := Lib.hid (thru (below_one w22 (.cells #[.int .i64 0, .int .i64 0, .int .i64 0, .int .i64 0, .int .i64 0] 44)) bi0)
                             have hz := Lvl.keep bi0 (World.alloc_heap_new w22 (.cells #[.int .i64 0, .int .i64 0, .int .i64 0, .int .i64 0, .int .i64 0] 44))
                             have HZ0 := Lib.hid hz
                             obtain ⟨p0, p1, p2, p3, p4⟩ := Lv.cells (l := zero) hz
                             obtain ⟨f0, f1, f2, f3, f4⟩ := Lv.frees (l := zero) hz
                             have lx := lt_of hz
                             clear bi bi0 hz))
                        all_goals
                          go_wp2_with fail
                          go_meet
                          first
                            | (have _q := HZ0.out; exact cutl_early HZ0.out (Nat.le_refl _) HBq0.out)
                            | exact cutl_late HBq0.out
                      case rest => as_aux_lemma =>
                        clear HSQ HCI
                        obtain ⟨X30, rfl, rfl, hX, hbc⟩ := hcut
                        obtain ⟨w30, rfl⟩ : ∃ v, v = wc := ⟨_, rfl⟩
                        have B1 := Lib.hid (thru B0.out hbc)
                        have XL1 := Lib.hid (Lvl.keep hbc XL0.out)
                        have XA1 := Lib.hid (Lvl.keep hbc XA0.out)
                        have XT1 := Lib.hid (Lvl.keep hbc XT0.out)
                        have XD1 := Lib.hid (Lvl.keep hbc XD0.out)
                        have XO1 := Lib.hid (Lvl.keep hbc XO0.out)
                        clear B0 XL0 XA0 XT0 XD0 XO0
                        have XE1 := Lib.hid hX
                        clear hX hbc
                        obtain ⟨cL0, cL1, cL2, cL3, cL4⟩ := Lv.cells XL1.out
                        have lL := lt_of XL1.out
                        obtain ⟨a0, a1, a2, a3, a4⟩ := row_get XA1.out (k := 0) (by omega)
                        have la := lt_of XA1.out
                        go_wp2_with fail
                        refine (max_at l one.b0 m 0 HE6.out _).mono ?_
                        rintro e w31 ⟨rfl, b31⟩
                        clear cL0 cL1 cL2 cL3 cL4 lL
                        clear a0 a1 a2 a3 a4 la
                        have B2 := Lib.hid (thru B1.out b31)
                        have XL2 := Lib.hid (Lvl.keep b31 XL1.out)
                        have XA2 := Lib.hid (Lvl.keep b31 XA1.out)
                        have XT2 := Lib.hid (Lvl.keep b31 XT1.out)
                        have XD2 := Lib.hid (Lvl.keep b31 XD1.out)
                        have XO2 := Lib.hid (Lvl.keep b31 XO1.out)
                        have XE2 := Lib.hid (Lvl.keep b31 XE1.out)
                        clear B1 XL1 XA1 XT1 XD1 XO1 XE1
                        clear b31
                        dsimp only [Lv.val]
                        go_upto_region 32 with fail
                        have bq := below_one w31 m.box
                        have B3 := Lib.hid (thru B2.out bq)
                        have XL3 := Lib.hid (Lvl.keep bq XL2.out)
                        have XA3 := Lib.hid (Lvl.keep bq XA2.out)
                        have XT3 := Lib.hid (Lvl.keep bq XT2.out)
                        have XD3 := Lib.hid (Lvl.keep bq XD2.out)
                        have XO3 := Lib.hid (Lvl.keep bq XO2.out)
                        have XE3 := Lib.hid (Lvl.keep bq XE2.out)
                        have XM3 := Lib.hid (World.alloc_heap_new w31 m.box)
                        clear bq B2 XL2 XA2 XT2 XD2 XO2 XE2
                        obtain ⟨v32, hv⟩ : ∃ v, v = w31.alloc (.cells #[.int .i64 m.c, .int .i64 m.p0, .int .i64 m.p1, .int .i64 m.p2, .int .i64 m.p3] 44) := ⟨_, rfl⟩
                        rw [← hv]
                        have hv2 : w31.alloc m.box = v32 := hv.symm
                        rw [hv2] at B3 XL3 XA3 XT3 XD3 XO3 XE3 XM3
                        clear hv hv2
                        have HSQ := Lib.hid (fun (W : World) (hbq : Below v32.heap.size v32 W) => show Below v32.heap.size v32 W ∧ W.cell? ⟨w31.heap.size, 0, none⟩ = some (.int .i64 m.c) ∧ W.cell? ⟨w31.heap.size, 1, none⟩ = some (.int .i64 m.p0) ∧ W.cell? ⟨w31.heap.size, 2, none⟩ = some (.int .i64 m.p1) ∧ W.cell? ⟨w31.heap.size, 3, none⟩ = some (.int .i64 m.p2) ∧ W.cell? ⟨w31.heap.size, 4, none⟩ = some (.int .i64 m.p3) from ⟨hbq, (Lv.cells (Lvl.keep hbq XM3.out)).1, (Lv.cells (Lvl.keep hbq XM3.out)).2.1, (Lv.cells (Lvl.keep hbq XM3.out)).2.2.1, (Lv.cells (Lvl.keep hbq XM3.out)).2.2.2.1, (Lv.cells (Lvl.keep hbq XM3.out)).2.2.2.2⟩)
                        have HCI := Lib.hid (fun (W : World) (hbq : Below v32.heap.size v32 W) => (show Calls Try.prog 34 #[.agg #[.int .i64 m.c, .int .i64 m.p0, .int .i64 m.p1, .int .i64 m.p2, .int .i64 m.p3], .slice (some ⟨w.heap.size + 1 + 1, 0, none⟩) 4 4] W (fun e w' => e = .returned (.tuple #[.agg #[.int .i64 nn.c, .int .i64 nn.p0, .int .i64 nn.p1, .int .i64 nn.p2, .int .i64 nn.p3], .int .i64 qn]) ∧ Below W.heap.size W w') from inst_row_at m two (w.heap.size + 1 + 1) nn qn HE7.out W (Lvl.keep hbq XT3.out)))
                        go_cut [23, 24] (fun s1 s2 wx => CutL v32 nn qn s1 s2 wx)
                        case first => as_aux_lemma =>
                          go_region_held3 (fun w' => Below v32.heap.size v32 w' ∧ w'.cell? ⟨w31.heap.size, 0, none⟩ = some (.int .i64 m.c) ∧ w'.cell? ⟨w31.heap.size, 1, none⟩ = some (.int .i64 m.p0) ∧ w'.cell? ⟨w31.heap.size, 2, none⟩ = some (.int .i64 m.p1) ∧ w'.cell? ⟨w31.heap.size, 3, none⟩ = some (.int .i64 m.p2) ∧ w'.cell? ⟨w31.heap.size, 4, none⟩ = some (.int .i64 m.p3)) (first | (have _q := HZ0.out; first | (with_reducible exact HSQ.out _ HBq0.out) | exact HSQ.out _ (put5_below HBq0.out (Nat.le_refl _) nn)) | (with_reducible exact HSQ.out _ (Below.refl _ _).drew) | (with_reducible exact HSQ.out _ (below_one _ _).drew) | (with_reducible exact HSQ.out _ HBq0.out) | (with_reducible exact HSQ.out _ (thru HBq0.out (below_one _ _))))
                            (first
                            | (go_at_call 34; have hC := HCI.out (v32.drew) (Below.refl _ _).drew; (with_reducible refine hC.mono ?_); clear hC; rintro e wi ⟨rfl, bi⟩
                               have bi0 : Below v32.heap.size v32 wi := undrew bi
                               have HBq0 := Lib.hid bi0
                               clear bi bi0)
                            | (go_at_call 34; have hC := HCI.out ((v32.alloc (.cells #[.int .i64 0, .int .i64 0, .int .i64 0, .int .i64 0, .int .i64 0] 44)).drew) (below_one _ _).drew; (with_reducible refine hC.mono ?_); clear hC; rintro e wi ⟨rfl, bi⟩
                               have bi0 : Below (v32.alloc (.cells #[.int .i64 0, .int .i64 0, .int .i64 0, .int .i64 0, .int .i64 0] 44)).heap.size (v32.alloc (.cells #[.int .i64 0, .int .i64 0, .int .i64 0, .int .i64 0, .int .i64 0] 44)) wi := undrew bi
                               have HBq0 := Lib.hid (thru (below_one v32 (.cells #[.int .i64 0, .int .i64 0, .int .i64 0, .int .i64 0, .int .i64 0] 44)) bi0)
                               have hz := Lvl.keep bi0 (World.alloc_heap_new v32 (.cells #[.int .i64 0, .int .i64 0, .int .i64 0, .int .i64 0, .int .i64 0] 44))
                               have HZ0 := Lib.hid hz
                               obtain ⟨p0, p1, p2, p3, p4⟩ := Lv.cells (l := zero) hz
                               obtain ⟨f0, f1, f2, f3, f4⟩ := Lv.frees (l := zero) hz
                               have lx := lt_of hz
                               clear bi bi0 hz))
                          all_goals
                            go_wp2_with fail
                            go_meet
                            first
                              | (have _q := HZ0.out; exact cutl_early HZ0.out (Nat.le_refl _) HBq0.out)
                              | exact cutl_late HBq0.out
                        case rest => as_aux_lemma =>
                          clear HSQ HCI
                          obtain ⟨X32, rfl, rfl, hX, hbc⟩ := hcut
                          obtain ⟨w32, rfl⟩ : ∃ v, v = wc := ⟨_, rfl⟩
                          have B4 := Lib.hid (thru B3.out hbc)
                          have XL4 := Lib.hid (Lvl.keep hbc XL3.out)
                          have XA4 := Lib.hid (Lvl.keep hbc XA3.out)
                          have XT4 := Lib.hid (Lvl.keep hbc XT3.out)
                          have XD4 := Lib.hid (Lvl.keep hbc XD3.out)
                          have XO4 := Lib.hid (Lvl.keep hbc XO3.out)
                          have XE4 := Lib.hid (Lvl.keep hbc XE3.out)
                          have XM4 := Lib.hid (Lvl.keep hbc XM3.out)
                          clear B3 XL3 XA3 XT3 XD3 XO3 XE3 XM3
                          have XN4 := Lib.hid hX
                          clear hX hbc
                          go_wp2_with fail
                          have HSQ := Lib.hid (fun (W : World) (hbq : Below w32.heap.size w32 W) => show Below w32.heap.size w32 W ∧ W.cell? ⟨w.heap.size, 0, none⟩ = some (.int .i64 l.c) ∧ W.cell? ⟨w.heap.size, 1, none⟩ = some (.int .i64 l.p0) ∧ W.cell? ⟨w.heap.size, 2, none⟩ = some (.int .i64 l.p1) ∧ W.cell? ⟨w.heap.size, 3, none⟩ = some (.int .i64 l.p2) ∧ W.cell? ⟨w.heap.size, 4, none⟩ = some (.int .i64 l.p3) from ⟨hbq, (Lv.cells (Lvl.keep hbq XL4.out)).1, (Lv.cells (Lvl.keep hbq XL4.out)).2.1, (Lv.cells (Lvl.keep hbq XL4.out)).2.2.1, (Lv.cells (Lvl.keep hbq XL4.out)).2.2.2.1, (Lv.cells (Lvl.keep hbq XL4.out)).2.2.2.2⟩)
                          have HCI := Lib.hid (fun (W : World) (hbq : Below w32.heap.size w32 W) => (show Calls Try.prog 34 #[.agg #[.int .i64 l.c, .int .i64 l.p0, .int .i64 l.p1, .int .i64 l.p2, .int .i64 l.p3], .slice (some ⟨w.heap.size + 1 + 1, 0, none⟩) 4 4] W (fun e w' => e = .returned (.tuple #[.agg #[.int .i64 p.c, .int .i64 p.p0, .int .i64 p.p1, .int .i64 p.p2, .int .i64 p.p3], .int .i64 qp]) ∧ Below W.heap.size W w') from inst_row_at l two (w.heap.size + 1 + 1) p qp HE8.out W (Lvl.keep hbq XT4.out)))
                          go_cut [25, 26] (fun s1 s2 wx => CutL w32 p qp s1 s2 wx)
                          case first => as_aux_lemma =>
                            go_region_held3 (fun w' => Below w32.heap.size w32 w' ∧ w'.cell? ⟨w.heap.size, 0, none⟩ = some (.int .i64 l.c) ∧ w'.cell? ⟨w.heap.size, 1, none⟩ = some (.int .i64 l.p0) ∧ w'.cell? ⟨w.heap.size, 2, none⟩ = some (.int .i64 l.p1) ∧ w'.cell? ⟨w.heap.size, 3, none⟩ = some (.int .i64 l.p2) ∧ w'.cell? ⟨w.heap.size, 4, none⟩ = some (.int .i64 l.p3)) (first | (have _q := HZ0.out; first | (with_reducible exact HSQ.out _ HBq0.out) | exact HSQ.out _ (put5_below HBq0.out (Nat.le_refl _) p)) | (with_reducible exact HSQ.out _ (Below.refl _ _).drew) | (with_reducible exact HSQ.out _ (below_one _ _).drew) | (with_reducible exact HSQ.out _ HBq0.out) | (with_reducible exact HSQ.out _ (thru HBq0.out (below_one _ _))))
                              (first
                              | (go_at_call 34; have hC := HCI.out (w32.drew) (Below.refl _ _).drew; (with_reducible refine hC.mono ?_); clear hC; rintro e wi ⟨rfl, bi⟩
                                 have bi0 : Below w32.heap.size w32 wi := undrew bi
                                 have HBq0 := Lib.hid bi0
                                 clear bi bi0)
                              | (go_at_call 34; have hC := HCI.out ((w32.alloc (.cells #[.int .i64 0, .int .i64 0, .int .i64 0, .int .i64 0, .int .i64 0] 44)).drew) (below_one _ _).drew; (with_reducible refine hC.mono ?_); clear hC; rintro e wi ⟨rfl, bi⟩
                                 have bi0 : Below (w32.alloc (.cells #[.int .i64 0, .int .i64 0, .int .i64 0, .int .i64 0, .int .i64 0] 44)).heap.size (w32.alloc (.cells #[.int .i64 0, .int .i64 0, .int .i64 0, .int .i64 0, .int .i64 0] 44)) wi := undrew bi
                                 have HBq0 := Lib.hid (thru (below_one w32 (.cells #[.int .i64 0, .int .i64 0, .int .i64 0, .int .i64 0, .int .i64 0] 44)) bi0)
                                 have hz := Lvl.keep bi0 (World.alloc_heap_new w32 (.cells #[.int .i64 0, .int .i64 0, .int .i64 0, .int .i64 0, .int .i64 0] 44))
                                 have HZ0 := Lib.hid hz
                                 obtain ⟨p0, p1, p2, p3, p4⟩ := Lv.cells (l := zero) hz
                                 obtain ⟨f0, f1, f2, f3, f4⟩ := Lv.frees (l := zero) hz
                                 have lx := lt_of hz
                                 clear bi bi0 hz))
                            all_goals
                              go_wp2_with fail
                              go_meet
                              first
                                | (have _q := HZ0.out; exact cutl_early HZ0.out (Nat.le_refl _) HBq0.out)
                                | exact cutl_late HBq0.out
                          case rest => as_aux_lemma =>
                            clear HSQ HCI
                            obtain ⟨X33, rfl, rfl, hX, hbc⟩ := hcut
                            obtain ⟨w33, rfl⟩ : ∃ v, v = wc := ⟨_, rfl⟩
                            have B5 := Lib.hid (thru B4.out hbc)
                            have XL5 := Lib.hid (Lvl.keep hbc XL4.out)
                            have XA5 := Lib.hid (Lvl.keep hbc XA4.out)
                            have XT5 := Lib.hid (Lvl.keep hbc XT4.out)
                            have XD5 := Lib.hid (Lvl.keep hbc XD4.out)
                            have XO5 := Lib.hid (Lvl.keep hbc XO4.out)
                            have XE5 := Lib.hid (Lvl.keep hbc XE4.out)
                            have XN5 := Lib.hid (Lvl.keep hbc XN4.out)
                            clear B4 XL4 XA4 XT4 XD4 XO4 XE4 XN4
                            have XP5 := Lib.hid hX
                            clear hX hbc
                            obtain ⟨cE0, cE1, cE2, cE3, cE4⟩ := Lv.cells XE5.out
                            have lE := lt_of XE5.out
                            obtain ⟨cD0, cD1, cD2, cD3, cD4⟩ := Lv.cells XD5.out
                            have lD := lt_of XD5.out
                            by_cases hqn : qn = 0

                            · subst hqn
                              by_cases hqp : qp = 0
                              · subst hqp
                                obtain ⟨cP0, cP1, cP2, cP3, cP4⟩ := Lv.cells XP5.out
                                have lP := lt_of XP5.out
                                obtain ⟨a0, a1, a2, a3, a4⟩ := row_get XO5.out (k := 0) (by omega)
                                have la := lt_of XO5.out
                                have HE10 := Lib.hid (inst_max HL.out HA.out.1 HT.out HE6.out HE7.out HE8.out HE9.out)
                                go_wp2_with fail
                                refine (max_at p both.b0 nn 0 HE10.out _).mono ?_
                                rintro e w37 ⟨rfl, b37⟩
                                clear cE0 cE1 cE2 cE3 cE4 cD0 cD1 cD2 cD3 cD4 cP0 cP1 cP2 cP3 cP4 lE lD lP
                                clear a0 a1 a2 a3 a4 la
                                have B6 := Lib.hid (thru B5.out b37)
                                have XL6 := Lib.hid (Lvl.keep b37 XL5.out)
                                have XA6 := Lib.hid (Lvl.keep b37 XA5.out)
                                have XT6 := Lib.hid (Lvl.keep b37 XT5.out)
                                have XD6 := Lib.hid (Lvl.keep b37 XD5.out)
                                have XO6 := Lib.hid (Lvl.keep b37 XO5.out)
                                have XE6 := Lib.hid (Lvl.keep b37 XE5.out)
                                have XN6 := Lib.hid (Lvl.keep b37 XN5.out)
                                have XP6 := Lib.hid (Lvl.keep b37 XP5.out)
                                clear B5 XL5 XA5 XT5 XD5 XO5 XE5 XN5 XP5
                                clear b37
                                dsimp only [Lv.val]
                                obtain ⟨cN0, cN1, cN2, cN3, cN4⟩ := Lv.cells XN6.out
                                have lN := lt_of XN6.out
                                go_wp2_with fail
                                refine (works_any _).mono ?_
                                rintro e wz ⟨rfl, bz⟩
                                have BZ := Lib.hid (thru (below_a B6.out _) bz)
                                clear bz
                                go_wp2_with fail
                                go_ret
                                exact ⟨rfl, BZ.out⟩
                              · have d2 : (qp == 0) = false := by simpa using hqp
                                go_wp2_with fail
                                refine (works_any _).mono ?_
                                rintro e wz ⟨rfl, bz⟩
                                have BZ := Lib.hid (thru B5.out bz)
                                clear bz
                                go_wp2_with fail
                                go_ret
                                exact ⟨rfl, BZ.out⟩
                            · have d1 : (qn == 0) = false := by simpa using hqn
                              go_wp2_with fail
                              refine (works_any _).mono ?_
                              rintro e wz ⟨rfl, bz⟩
                              have BZ := Lib.hid (thru B5.out bz)
                              clear bz
                              go_wp2_with fail
                              go_ret
                              exact ⟨rfl, BZ.out⟩
              · obtain ⟨z, hz⟩ : ∃ z, z = zero := ⟨_, rfl⟩
                rw [← hz] at eb
                clear hz
                have HSQ := Lib.hid (fun (W : World) (hbq : Below w16.heap.size w16 W) => show Below w16.heap.size w16 W ∧ W.cell? ⟨X16, 0, none⟩ = some (.int .i64 a.c) ∧ W.cell? ⟨X16, 1, none⟩ = some (.int .i64 a.p0) ∧ W.cell? ⟨X16, 2, none⟩ = some (.int .i64 a.p1) ∧ W.cell? ⟨X16, 3, none⟩ = some (.int .i64 a.p2) ∧ W.cell? ⟨X16, 4, none⟩ = some (.int .i64 a.p3) from ⟨hbq, (Lv.cells (Lvl.keep hbq XC3.out)).1, (Lv.cells (Lvl.keep hbq XC3.out)).2.1, (Lv.cells (Lvl.keep hbq XC3.out)).2.2.1, (Lv.cells (Lvl.keep hbq XC3.out)).2.2.2.1, (Lv.cells (Lvl.keep hbq XC3.out)).2.2.2.2⟩)
                have HCI := Lib.hid (fun (W : World) (hbq : Below w16.heap.size w16 W) => (show Calls Try.prog 34 #[.agg #[.int .i64 a.c, .int .i64 a.p0, .int .i64 a.p1, .int .i64 a.p2, .int .i64 a.p3], .slice (some ⟨w.heap.size + 1 + 1, 0, none⟩) 4 4] W (fun e w' => e = .returned (.tuple #[.agg #[.int .i64 z.c, .int .i64 z.p0, .int .i64 z.p1, .int .i64 z.p2, .int .i64 z.p3], .int .i64 4]) ∧ Below W.heap.size W w') from inst_row_at a two (w.heap.size + 1 + 1) z 4 eb W (Lvl.keep hbq XT3.out)))
                go_cut [14, 12] (fun s1 s2 wx => CutL w16 z 4 s1 s2 wx)
                case first => as_aux_lemma =>
                  go_region_held3 (fun w' => Below w16.heap.size w16 w' ∧ w'.cell? ⟨X16, 0, none⟩ = some (.int .i64 a.c) ∧ w'.cell? ⟨X16, 1, none⟩ = some (.int .i64 a.p0) ∧ w'.cell? ⟨X16, 2, none⟩ = some (.int .i64 a.p1) ∧ w'.cell? ⟨X16, 3, none⟩ = some (.int .i64 a.p2) ∧ w'.cell? ⟨X16, 4, none⟩ = some (.int .i64 a.p3)) (first | (have _q := HZ0.out; first | (with_reducible exact HSQ.out _ HBq0.out) | exact HSQ.out _ (put5_below HBq0.out (Nat.le_refl _) z)) | (with_reducible exact HSQ.out _ (Below.refl _ _).drew) | (with_reducible exact HSQ.out _ (below_one _ _).drew) | (with_reducible exact HSQ.out _ HBq0.out) | (with_reducible exact HSQ.out _ (thru HBq0.out (below_one _ _))))
                    (first
                    | (go_at_call 34; have hC := HCI.out (w16.drew) (Below.refl _ _).drew; (with_reducible refine hC.mono ?_); clear hC; rintro e wi ⟨rfl, bi⟩
                       have bi0 : Below w16.heap.size w16 wi := undrew bi
                       have HBq0 := Lib.hid bi0
                       clear bi bi0)
                    | (go_at_call 34; have hC := HCI.out ((w16.alloc (.cells #[.int .i64 0, .int .i64 0, .int .i64 0, .int .i64 0, .int .i64 0] 44)).drew) (below_one _ _).drew; (with_reducible refine hC.mono ?_); clear hC; rintro e wi ⟨rfl, bi⟩
                       have bi0 : Below (w16.alloc (.cells #[.int .i64 0, .int .i64 0, .int .i64 0, .int .i64 0, .int .i64 0] 44)).heap.size (w16.alloc (.cells #[.int .i64 0, .int .i64 0, .int .i64 0, .int .i64 0, .int .i64 0] 44)) wi := undrew bi
                       have HBq0 := Lib.hid (thru (below_one w16 (.cells #[.int .i64 0, .int .i64 0, .int .i64 0, .int .i64 0, .int .i64 0] 44)) bi0)
                       have hz := Lvl.keep bi0 (World.alloc_heap_new w16 (.cells #[.int .i64 0, .int .i64 0, .int .i64 0, .int .i64 0, .int .i64 0] 44))
                       have HZ0 := Lib.hid hz
                       obtain ⟨p0, p1, p2, p3, p4⟩ := Lv.cells (l := zero) hz
                       obtain ⟨f0, f1, f2, f3, f4⟩ := Lv.frees (l := zero) hz
                       have lx := lt_of hz
                       clear bi bi0 hz))
                  all_goals
                    go_wp2_with fail
                    go_meet
                    first
                      | (have _q := HZ0.out; exact cutl_early HZ0.out (Nat.le_refl _) HBq0.out)
                      | exact cutl_late HBq0.out
                case rest => as_aux_lemma =>
                  clear HSQ HCI
                  obtain ⟨X19, rfl, rfl, hX, hbc⟩ := hcut
                  obtain ⟨w19, rfl⟩ : ∃ v, v = wc := ⟨_, rfl⟩
                  have B4 := Lib.hid (thru B3.out hbc)
                  have XL4 := Lib.hid (Lvl.keep hbc XL3.out)
                  have XA4 := Lib.hid (Lvl.keep hbc XA3.out)
                  have XT4 := Lib.hid (Lvl.keep hbc XT3.out)
                  have XC4 := Lib.hid (Lvl.keep hbc XC3.out)
                  clear B3 XL3 XA3 XT3 XC3
                  clear hX hbc
                  go_wp2_with fail
                  refine (works_any _).mono ?_
                  rintro e wz ⟨rfl, bz⟩
                  have BZ := Lib.hid (thru B4.out bz)
                  clear bz
                  go_wp2_with fail
                  go_ret
                  exact ⟨rfl, BZ.out⟩
          · obtain ⟨z, hz⟩ : ∃ z, z = zero := ⟨_, rfl⟩
            rw [← hz] at ea
            clear hz
            have HSQ := Lib.hid (fun (W : World) (hbq : Below w13.heap.size w13 W) => show Below w13.heap.size w13 W ∧ W.cell? ⟨w.heap.size, 0, none⟩ = some (.int .i64 l.c) ∧ W.cell? ⟨w.heap.size, 1, none⟩ = some (.int .i64 l.p0) ∧ W.cell? ⟨w.heap.size, 2, none⟩ = some (.int .i64 l.p1) ∧ W.cell? ⟨w.heap.size, 3, none⟩ = some (.int .i64 l.p2) ∧ W.cell? ⟨w.heap.size, 4, none⟩ = some (.int .i64 l.p3) from ⟨hbq, (Lv.cells (Lvl.keep hbq XL2.out)).1, (Lv.cells (Lvl.keep hbq XL2.out)).2.1, (Lv.cells (Lvl.keep hbq XL2.out)).2.2.1, (Lv.cells (Lvl.keep hbq XL2.out)).2.2.2.1, (Lv.cells (Lvl.keep hbq XL2.out)).2.2.2.2⟩)
            have HCI := Lib.hid (fun (W : World) (hbq : Below w13.heap.size w13 W) => (show Calls Try.prog 34 #[.agg #[.int .i64 l.c, .int .i64 l.p0, .int .i64 l.p1, .int .i64 l.p2, .int .i64 l.p3], .slice (some ⟨w.heap.size + 1, 0, none⟩) 4 4] W (fun e w' => e = .returned (.tuple #[.agg #[.int .i64 z.c, .int .i64 z.p0, .int .i64 z.p1, .int .i64 z.p2, .int .i64 z.p3], .int .i64 4]) ∧ Below W.heap.size W w') from inst_row_at l one (w.heap.size + 1) z 4 ea W (Lvl.keep hbq XA2.out)))
            go_cut [13, 12] (fun s1 s2 wx => CutL w13 z 4 s1 s2 wx)
            case first => as_aux_lemma =>
              go_region_held3 (fun w' => Below w13.heap.size w13 w' ∧ w'.cell? ⟨w.heap.size, 0, none⟩ = some (.int .i64 l.c) ∧ w'.cell? ⟨w.heap.size, 1, none⟩ = some (.int .i64 l.p0) ∧ w'.cell? ⟨w.heap.size, 2, none⟩ = some (.int .i64 l.p1) ∧ w'.cell? ⟨w.heap.size, 3, none⟩ = some (.int .i64 l.p2) ∧ w'.cell? ⟨w.heap.size, 4, none⟩ = some (.int .i64 l.p3)) (first | (have _q := HZ0.out; first | (with_reducible exact HSQ.out _ HBq0.out) | exact HSQ.out _ (put5_below HBq0.out (Nat.le_refl _) z)) | (with_reducible exact HSQ.out _ (Below.refl _ _).drew) | (with_reducible exact HSQ.out _ (below_one _ _).drew) | (with_reducible exact HSQ.out _ HBq0.out) | (with_reducible exact HSQ.out _ (thru HBq0.out (below_one _ _))))
                (first
                | (go_at_call 34; have hC := HCI.out (w13.drew) (Below.refl _ _).drew; (with_reducible refine hC.mono ?_); clear hC; rintro e wi ⟨rfl, bi⟩
                   have bi0 : Below w13.heap.size w13 wi := undrew bi
                   have HBq0 := Lib.hid bi0
                   clear bi bi0)
                | (go_at_call 34; have hC := HCI.out ((w13.alloc (.cells #[.int .i64 0, .int .i64 0, .int .i64 0, .int .i64 0, .int .i64 0] 44)).drew) (below_one _ _).drew; (with_reducible refine hC.mono ?_); clear hC; rintro e wi ⟨rfl, bi⟩
                   have bi0 : Below (w13.alloc (.cells #[.int .i64 0, .int .i64 0, .int .i64 0, .int .i64 0, .int .i64 0] 44)).heap.size (w13.alloc (.cells #[.int .i64 0, .int .i64 0, .int .i64 0, .int .i64 0, .int .i64 0] 44)) wi := undrew bi
                   have HBq0 := Lib.hid (thru (below_one w13 (.cells #[.int .i64 0, .int .i64 0, .int .i64 0, .int .i64 0, .int .i64 0] 44)) bi0)
                   have hz := Lvl.keep bi0 (World.alloc_heap_new w13 (.cells #[.int .i64 0, .int .i64 0, .int .i64 0, .int .i64 0, .int .i64 0] 44))
                   have HZ0 := Lib.hid hz
                   obtain ⟨p0, p1, p2, p3, p4⟩ := Lv.cells (l := zero) hz
                   obtain ⟨f0, f1, f2, f3, f4⟩ := Lv.frees (l := zero) hz
                   have lx := lt_of hz
                   clear bi bi0 hz))
              all_goals
                go_wp2_with fail
                go_meet
                first
                  | (have _q := HZ0.out; exact cutl_early HZ0.out (Nat.le_refl _) HBq0.out)
                  | exact cutl_late HBq0.out
            case rest => as_aux_lemma =>
              clear HSQ HCI
              obtain ⟨X16, rfl, rfl, hX, hbc⟩ := hcut
              obtain ⟨w16, rfl⟩ : ∃ v, v = wc := ⟨_, rfl⟩
              have B3 := Lib.hid (thru B2.out hbc)
              have XL3 := Lib.hid (Lvl.keep hbc XL2.out)
              have XA3 := Lib.hid (Lvl.keep hbc XA2.out)
              have XT3 := Lib.hid (Lvl.keep hbc XT2.out)
              clear B2 XL2 XA2 XT2
              clear hX hbc
              go_wp2_with fail
              refine (works_any _).mono ?_
              rintro e wz ⟨rfl, bz⟩
              have BZ := Lib.hid (thru B3.out bz)
              clear bz
              go_wp2_with fail
              go_ret
              exact ⟨rfl, BZ.out⟩
end Go.Proofs.Ytfechgahafbphaa
