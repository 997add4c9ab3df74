/-
  The walk of the statement LevelOrder.
-/
import Derived.Test.YtbkmnlebnjoklaaLevWorks
import Derived.Test.YtbkmnlebnjoklaaLevMath
import Derived.BigQuiet
import Derived.Deep.QuietTactic
import Derived.Deep.RegionHeld3
import Derived.Deep.DeepCutAuto
namespace Go.Proofs.Ytbkmnlebnjoklaa
open Go.RowKit Go.Shelf Lvl

/-- The blocks hold these objects, and what lay when the call began lies as it lay. -/
def Lvl.Kept (w : World) (l : List (Nat × Obj)) (W : World) : Prop := Boxes l W ∧ Below w.heap.size w W
theorem Lvl.box3 (w : World) (a b c : Obj) : Boxes [(w.heap.size, a), (w.heap.size + 1, b), (w.heap.size + 1 + 1, c)] (((w.alloc a).alloc b).alloc c) := ⟨new1of3 w a b c, new2of3 w a b c, new3 w a b c, trivial⟩

set_option maxRecDepth 100000 in
set_option maxHeartbeats 2000000 in
theorem order_noa (a b c : Lv) (w : World) (ha : a.may = false) :
    Calls Try.prog 5 #[a.val, b.val, c.val] w fun e w' => e = .returned (.bool true) ∧ Below w.heap.size w w' := by
  have Ha := Lib.hid ha
  clear ha
  have X0 := Lib.hid (box3 w a.box b.box c.box)
  have B0 := Lib.hid (below_three w a.box b.box c.box)
  unfold Lv.val
  go_enter Try.func5, Try.ntmps5
  go_wp2_with fail
  refine (may_at a false Ha.out _).mono ?_
  rintro e w1 ⟨rfl, b⟩
  have X1 := Lib.hid (Boxes.keep b X0.out)
  have B1 := Lib.hid (thru B0.out b)
  clear b X0 B0
  go_wp2_with fail
  refine (works_any _).mono ?_
  rintro e w2 ⟨rfl, b⟩
  have X2 := Lib.hid (Boxes.keep b X1.out)
  have B2 := Lib.hid (thru B1.out b)
  clear b X1 B1
  go_wp2_with fail
  go_ret
  exact ⟨rfl, B2.out⟩

set_option maxRecDepth 100000 in
set_option maxHeartbeats 2000000 in
theorem order_nob (a b c : Lv) (w : World) (ha : a.may = true) (hb : b.may = false) :
    Calls Try.prog 5 #[a.val, b.val, c.val] w fun e w' => e = .returned (.bool true) ∧ Below w.heap.size w w' := by
  have Ha := Lib.hid ha
  clear ha
  have Hb := Lib.hid hb
  clear hb
  have X0 := Lib.hid (box3 w a.box b.box c.box)
  have B0 := Lib.hid (below_three w a.box b.box c.box)
  unfold Lv.val
  go_enter Try.func5, Try.ntmps5
  go_wp2_with fail
  refine (may_at a true Ha.out _).mono ?_
  rintro e w1 ⟨rfl, b⟩
  have X1 := Lib.hid (Boxes.keep b X0.out)
  have B1 := Lib.hid (thru B0.out b)
  clear b X0 B0
  obtain ⟨b1_0, b1_1, b1_2, b1_3, b1_4⟩ := Lv.cells (X1.out.2.1)
  have b1z := lt_of (X1.out.2.1)
  go_wp2_with fail
  refine (may_at b false Hb.out _).mono ?_
  rintro e w2 ⟨rfl, b⟩
  have X2 := Lib.hid (Boxes.keep b X1.out)
  have B2 := Lib.hid (thru B1.out b)
  clear b X1 B1
  go_wp2_with fail
  refine (works_any _).mono ?_
  rintro e w3 ⟨rfl, b⟩
  have X3 := Lib.hid (Boxes.keep b X2.out)
  have B3 := Lib.hid (thru B2.out b)
  clear b X2 B2
  go_wp2_with fail
  go_ret
  exact ⟨rfl, B3.out⟩

set_option maxRecDepth 100000 in
set_option maxHeartbeats 2000000 in
theorem order_noc (a b c : Lv) (w : World) (ha : a.may = true) (hb : b.may = true) (hc : c.may = false) :
    Calls Try.prog 5 #[a.val, b.val, c.val] w fun e w' => e = .returned (.bool true) ∧ Below w.heap.size w w' := by
  have Ha := Lib.hid ha
  clear ha
  have Hb := Lib.hid hb
  clear hb
  have Hc := Lib.hid hc
  clear hc
  have X0 := Lib.hid (box3 w a.box b.box c.box)
  have B0 := Lib.hid (below_three w a.box b.box c.box)
  unfold Lv.val
  go_enter Try.func5, Try.ntmps5
  go_wp2_with fail
  refine (may_at a true Ha.out _).mono ?_
  rintro e w1 ⟨rfl, b⟩
  have X1 := Lib.hid (Boxes.keep b X0.out)
  have B1 := Lib.hid (thru B0.out b)
  clear b X0 B0
  obtain ⟨b1_0, b1_1, b1_2, b1_3, b1_4⟩ := Lv.cells (X1.out.2.1)
  have b1z := lt_of (X1.out.2.1)
  go_wp2_with fail
  refine (may_at b true Hb.out _).mono ?_
  rintro e w2 ⟨rfl, b⟩
  have X2 := Lib.hid (Boxes.keep b X1.out)
  have B2 := Lib.hid (thru B1.out b)
  clear b X1 B1
  obtain ⟨c2_0, c2_1, c2_2, c2_3, c2_4⟩ := Lv.cells (X2.out.2.2.1)
  have c2z := lt_of (X2.out.2.2.1)
  go_wp2_with fail
  refine (may_at c false Hc.out _).mono ?_
  rintro e w3 ⟨rfl, b⟩
  have X3 := Lib.hid (Boxes.keep b X2.out)
  have B3 := Lib.hid (thru B2.out b)
  clear b X2 B2
  go_wp2_with fail
  refine (works_any _).mono ?_
  rintro e w4 ⟨rfl, b⟩
  have X4 := Lib.hid (Boxes.keep b X3.out)
  have B4 := Lib.hid (thru B3.out b)
  clear b X3 B3
  go_wp2_with fail
  go_ret
  exact ⟨rfl, B4.out⟩

set_option maxRecDepth 100000 in
set_option maxHeartbeats 16000000 in
theorem order_yes (a b c : Lv) (w : World) (ha : a.ok) (hb : b.ok) (hc : c.ok) :
    Calls Try.prog 5 #[a.val, b.val, c.val] w fun e w' => e = .returned (.bool true) ∧ Below w.heap.size w w' := by
  obtain ⟨ab, bc, x, hab, hbc, m1, m2, m3, m4, m5, m6, l1, l2, l3⟩ := order_max ha hb hc
  have Ha := Lib.hid ha
  have Hb := Lib.hid hb
  have Hc := Lib.hid hc
  have Hab := Lib.hid hab
  have HL := Lib.hid (And.intro l1 (And.intro l2 l3))
  have Ma := Lib.hid ((may_iff a).2 ha)
  have Mb := Lib.hid ((may_iff b).2 hb)
  have Mc := Lib.hid ((may_iff c).2 hc)
  have K1 := Lib.hid m1
  have K2 := Lib.hid m2
  have K3 := Lib.hid m3
  have K4 := Lib.hid m4
  have K5 := Lib.hid m5
  have K6 := Lib.hid m6
  clear ha hb hc hab hbc m1 m2 m3 m4 m5 m6 l1 l2 l3
  have hsame := eq_same
  have X0 := Lib.hid (box3 w a.box b.box c.box)
  have B0 := Lib.hid (below_three w a.box b.box c.box)
  unfold Lv.val
  go_enter Try.func5, Try.ntmps5
  go_wp2_with fail
  refine (may_at a true Ma.out _).mono ?_
  rintro e w1 ⟨rfl, b⟩
  have X1 := Lib.hid (Boxes.keep b X0.out)
  have B1 := Lib.hid (thru B0.out b)
  clear b X0 B0
  obtain ⟨b1_0, b1_1, b1_2, b1_3, b1_4⟩ := Lv.cells (X1.out.2.1)
  have b1z := lt_of (X1.out.2.1)
  go_wp2_with fail
  refine (may_at b true Mb.out _).mono ?_
  rintro e w2 ⟨rfl, b⟩
  have X2 := Lib.hid (Boxes.keep b X1.out)
  have B2 := Lib.hid (thru B1.out b)
  clear b X1 B1
  obtain ⟨c2_0, c2_1, c2_2, c2_3, c2_4⟩ := Lv.cells (X2.out.2.2.1)
  have c2z := lt_of (X2.out.2.2.1)
  go_wp2_with fail
  refine (may_at c true Mc.out _).mono ?_
  rintro e w3 ⟨rfl, b⟩
  have X3 := Lib.hid (Boxes.keep b X2.out)
  have B3 := Lib.hid (thru B2.out b)
  clear b X2 B2
  obtain ⟨a3_0, a3_1, a3_2, a3_3, a3_4⟩ := Lv.cells (X3.out.1)
  obtain ⟨b3_0, b3_1, b3_2, b3_3, b3_4⟩ := Lv.cells (X3.out.2.1)
  have a3z := lt_of (X3.out.1)
  have b3z := lt_of (X3.out.2.1)
  go_wp2_with fail
  refine (max_at a b ab 0 K1.out _).mono ?_
  rintro e w4 ⟨rfl, b⟩
  have X4 := Lib.hid (Boxes.keep b X3.out)
  have B4 := Lib.hid (thru B3.out b)
  clear b X3 B3
  obtain ⟨b4_0, b4_1, b4_2, b4_3, b4_4⟩ := Lv.cells (X4.out.2.1)
  obtain ⟨a4_0, a4_1, a4_2, a4_3, a4_4⟩ := Lv.cells (X4.out.1)
  have b4z := lt_of (X4.out.2.1)
  have a4z := lt_of (X4.out.1)
  dsimp only [Lv.val]
  go_wp2_with fail
  refine (max_at b a ab 0 K2.out _).mono ?_
  rintro e w5 ⟨rfl, b⟩
  have X5 := Lib.hid (Boxes.keep b (Boxes.add X4.out ab.box))
  have B5 := Lib.hid (thru (below_a B4.out _) b)
  clear b X4 B4
  obtain ⟨b5_0, b5_1, b5_2, b5_3, b5_4⟩ := Lv.cells (X5.out.2.2.1)
  obtain ⟨c5_0, c5_1, c5_2, c5_3, c5_4⟩ := Lv.cells (X5.out.2.2.2.1)
  have b5z := lt_of (X5.out.2.2.1)
  have c5z := lt_of (X5.out.2.2.2.1)
  dsimp only [Lv.val]
  go_wp2_with fail
  refine (max_at b c bc 0 K3.out _).mono ?_
  rintro e w6 ⟨rfl, b⟩
  have X6 := Lib.hid (Boxes.keep b (Boxes.add X5.out ab.box))
  have B6 := Lib.hid (thru (below_a B5.out _) b)
  clear b X5 B5
  obtain ⟨ab6_0, ab6_1, ab6_2, ab6_3, ab6_4⟩ := Lv.cells (X6.out.2.1)
  obtain ⟨c6_0, c6_1, c6_2, c6_3, c6_4⟩ := Lv.cells (X6.out.2.2.2.2.1)
  have ab6z := lt_of (X6.out.2.1)
  have c6z := lt_of (X6.out.2.2.2.2.1)
  dsimp only [Lv.val]
  go_wp2_with fail
  refine (max_at ab c x 0 K4.out _).mono ?_
  rintro e w7 ⟨rfl, b⟩
  have X7 := Lib.hid (Boxes.keep b (Boxes.add X6.out bc.box))
  have B7 := Lib.hid (thru (below_a B6.out _) b)
  clear b X6 B6
  obtain ⟨a7_0, a7_1, a7_2, a7_3, a7_4⟩ := Lv.cells (X7.out.2.2.2.1)
  obtain ⟨bc7_0, bc7_1, bc7_2, bc7_3, bc7_4⟩ := Lv.cells (X7.out.1)
  have a7z := lt_of (X7.out.2.2.2.1)
  have bc7z := lt_of (X7.out.1)
  dsimp only [Lv.val]
  go_wp2_with fail
  refine (max_at a bc x 0 K5.out _).mono ?_
  rintro e w8 ⟨rfl, b⟩
  have X8 := Lib.hid (Boxes.keep b (Boxes.add X7.out x.box))
  have B8 := Lib.hid (thru (below_a B7.out _) b)
  clear b X7 B7
  obtain ⟨a8_0, a8_1, a8_2, a8_3, a8_4⟩ := Lv.cells (X8.out.2.2.2.2.1)
  have a8z := lt_of (X8.out.2.2.2.2.1)
  dsimp only [Lv.val]
  go_wp2_with fail
  refine (max_at a a a 0 K6.out _).mono ?_
  rintro e w9 ⟨rfl, b⟩
  have X9 := Lib.hid (Boxes.keep b (Boxes.add X8.out x.box))
  have B9 := Lib.hid (thru (below_a B8.out _) b)
  clear b X8 B8
  obtain ⟨ab9_0, ab9_1, ab9_2, ab9_3, ab9_4⟩ := Lv.cells (X9.out.2.2.2.2.1)
  obtain ⟨ba9_0, ba9_1, ba9_2, ba9_3, ba9_4⟩ := Lv.cells (X9.out.2.2.2.1)
  obtain ⟨x9_0, x9_1, x9_2, x9_3, x9_4⟩ := Lv.cells (X9.out.2.1)
  obtain ⟨y9_0, y9_1, y9_2, y9_3, y9_4⟩ := Lv.cells (X9.out.1)
  obtain ⟨a9_0, a9_1, a9_2, a9_3, a9_4⟩ := Lv.cells (X9.out.2.2.2.2.2.1)
  have ab9z := lt_of (X9.out.2.2.2.2.1)
  have ba9z := lt_of (X9.out.2.2.2.1)
  have x9z := lt_of (X9.out.2.1)
  have y9z := lt_of (X9.out.1)
  have a9z := lt_of (X9.out.2.2.2.2.2.1)
  dsimp only [Lv.val]
  go_upto_region 11 with fail
  go_cut [141] (fun s wx => s = .bool false ∧ Kept w [(w9.heap.size, a.box), (w8.heap.size, x.box), (w7.heap.size, x.box), (w6.heap.size, bc.box), (w5.heap.size, ab.box), (w4.heap.size, ab.box), (w.heap.size, a.box), (w.heap.size + 1, b.box), (w.heap.size + 1 + 1, c.box)] wx)
  case first =>
    have Y0 := Lib.hid (Boxes.drew (Boxes.add X9.out a.box))
    have C0 := Lib.hid (below_a B9.out a.box).drew
    clear X9 B9
    obtain ⟨r1, h1⟩ : ∃ r, leq a b = r := ⟨_, rfl⟩
    obtain ⟨r2, h2⟩ : ∃ r, leq b c = r := ⟨_, rfl⟩
    have h3 : r1 = true → r2 = true → leq a c = true := fun e1 e2 => (leq_iff Ha.out Hc.out).2 (leq_trans ((leq_iff Ha.out Hb.out).1 (h1.trans e1)) ((leq_iff Hb.out Hc.out).1 (h2.trans e2)))
    have R1 := Lib.hid h1
    have R2 := Lib.hid h2
    have R3 := Lib.hid h3
    have R4 := Lib.hid ((leq_iff zero_ok Ha.out).2 (leq_zero Ha.out))
    have R5 := Lib.hid ((leq_iff Ha.out Hab.out).2 HL.out.1)
    have R6 := Lib.hid ((leq_iff Hb.out Hab.out).2 HL.out.2.1)
    clear h1 h2 h3
    cases r1
    · clear R2 R3
      refine wp_region_held_drew (S := (fun w' => (w'.cell? ⟨w.heap.size, 0, none⟩ = some (.int .i64 a.c) ∧ w'.cell? ⟨w.heap.size, 1, none⟩ = some (.int .i64 a.p0) ∧ w'.cell? ⟨w.heap.size, 2, none⟩ = some (.int .i64 a.p1) ∧ w'.cell? ⟨w.heap.size, 3, none⟩ = some (.int .i64 a.p2) ∧ w'.cell? ⟨w.heap.size, 4, none⟩ = some (.int .i64 a.p3)) ∧ (w'.cell? ⟨w.heap.size + 1, 0, none⟩ = some (.int .i64 b.c) ∧ w'.cell? ⟨w.heap.size + 1, 1, none⟩ = some (.int .i64 b.p0) ∧ w'.cell? ⟨w.heap.size + 1, 2, none⟩ = some (.int .i64 b.p1) ∧ w'.cell? ⟨w.heap.size + 1, 3, none⟩ = some (.int .i64 b.p2) ∧ w'.cell? ⟨w.heap.size + 1, 4, none⟩ = some (.int .i64 b.p3)) ∧ (w'.cell? ⟨w.heap.size + 1 + 1, 0, none⟩ = some (.int .i64 c.c) ∧ w'.cell? ⟨w.heap.size + 1 + 1, 1, none⟩ = some (.int .i64 c.p0) ∧ w'.cell? ⟨w.heap.size + 1 + 1, 2, none⟩ = some (.int .i64 c.p1) ∧ w'.cell? ⟨w.heap.size + 1 + 1, 3, none⟩ = some (.int .i64 c.p2) ∧ w'.cell? ⟨w.heap.size + 1 + 1, 4, none⟩ = some (.int .i64 c.p3)) ∧ (w'.cell? ⟨w4.heap.size, 0, none⟩ = some (.int .i64 ab.c) ∧ w'.cell? ⟨w4.heap.size, 1, none⟩ = some (.int .i64 ab.p0) ∧ w'.cell? ⟨w4.heap.size, 2, none⟩ = some (.int .i64 ab.p1) ∧ w'.cell? ⟨w4.heap.size, 3, none⟩ = some (.int .i64 ab.p2) ∧ w'.cell? ⟨w4.heap.size, 4, none⟩ = some (.int .i64 ab.p3)))) (by kernel_rfl) (⟨Lv.cells Y0.out.2.2.2.2.2.2.1, Lv.cells Y0.out.2.2.2.2.2.2.2.1, Lv.cells Y0.out.2.2.2.2.2.2.2.2.1, Lv.cells Y0.out.2.2.2.2.2.1⟩) (fun hHeld => ?_)
      refine wpAnyH_take (i := 0) (v := ?vp0) rfl (by kernel_rfl) (by kernel_rfl) (by kernel_rfl) (fun _ _ _ h => h) (Or.inl ⟨by rfl, ?hyp0⟩) (by assumption) ?restp0
      case hyp0 => (intro w hSw; (try dsimp only at hSw); go_simp <;> with_reducible rfl)
      try simp only [List.getElem_toArray, List.getElem_cons_zero, Act.put, List.setIfInBounds_toArray, List.set_cons_zero, List.set_cons_succ]
      refine wpAnyH_take (i := 1) (v := ?vp1) rfl (by kernel_rfl) (by kernel_rfl) (by kernel_rfl) (fun _ _ _ h => h) (Or.inl ⟨by rfl, ?hyp1⟩) (by assumption) ?restp1
      case hyp1 => (intro w hSw; (try dsimp only at hSw); go_simp <;> with_reducible rfl)
      try simp only [List.getElem_toArray, List.getElem_cons_succ, List.getElem_cons_zero, Act.put, List.setIfInBounds_toArray, List.set_cons_zero, List.set_cons_succ]
      refine wpAnyH_ready (rs := [2]) (by kernel_rfl) (by simp) ?_
      refine AllReadyH.cons rfl (fun K hK => ?_) AllReadyH.nil
      go_simp
      refine (leq_at a b false R1.out _).mono ?_
      rintro e v1 ⟨rfl, b⟩
      have Y1 := Lib.hid (Boxes.keep b Y0.out)
      have C1 := Lib.hid (thru C0.out b)
      clear b Y0 C0
      refine hK.out _ _ (⟨Lv.cells Y1.out.2.2.2.2.2.2.1, Lv.cells Y1.out.2.2.2.2.2.2.2.1, Lv.cells Y1.out.2.2.2.2.2.2.2.2.1, Lv.cells Y1.out.2.2.2.2.2.1⟩) (fun hHeld => ?_)
      clear hK K
      try simp only [List.getElem_toArray, List.getElem_cons_succ, List.getElem_cons_zero, Act.put, List.setIfInBounds_toArray, List.set_cons_zero, List.set_cons_succ]
      refine wpAnyH_take (i := 3) (v := ?vp3) rfl (by kernel_rfl) (by kernel_rfl) (by kernel_rfl) (fun _ _ _ h => h) (Or.inl ⟨by rfl, ?hyp3⟩) (by assumption) ?restp3
      case hyp3 => (intro w hSw; (try dsimp only at hSw); go_simp <;> with_reducible rfl)
      try simp only [List.getElem_toArray, List.getElem_cons_succ, List.getElem_cons_zero, Act.put, List.setIfInBounds_toArray, List.set_cons_zero, List.set_cons_succ]
      refine wpAnyH_take (i := 4) (v := undef) rfl (by kernel_rfl) (by kernel_rfl) (by kernel_rfl) (fun _ _ _ h => h) (Or.inr ⟨by rfl, rfl⟩) (by assumption) ?_
      try simp only [List.getElem_toArray, List.getElem_cons_succ, List.getElem_cons_zero, Act.put, List.setIfInBounds_toArray, List.set_cons_zero, List.set_cons_succ]
      refine wpAnyH_take (i := 5) (v := undef) rfl (by kernel_rfl) (by kernel_rfl) (by kernel_rfl) (fun _ _ _ h => h) (Or.inr ⟨by rfl, rfl⟩) (by assumption) ?_
      try simp only [List.getElem_toArray, List.getElem_cons_succ, List.getElem_cons_zero, Act.put, List.setIfInBounds_toArray, List.set_cons_zero, List.set_cons_succ]
      refine wpAnyH_take (i := 6) (v := undef) rfl (by kernel_rfl) (by kernel_rfl) (by kernel_rfl) (fun _ _ _ h => h) (Or.inr ⟨by rfl, rfl⟩) (by assumption) ?_
      try simp only [List.getElem_toArray, List.getElem_cons_succ, List.getElem_cons_zero, Act.put, List.setIfInBounds_toArray, List.set_cons_zero, List.set_cons_succ]
      refine wpAnyH_take (i := 7) (v := ?vp7) rfl (by kernel_rfl) (by kernel_rfl) (by kernel_rfl) (fun _ _ _ h => h) (Or.inl ⟨by rfl, ?hyp7⟩) (by assumption) ?restp7
      case hyp7 => (intro w hSw; (try dsimp only at hSw); go_simp <;> with_reducible rfl)
      try simp only [List.getElem_toArray, List.getElem_cons_succ, List.getElem_cons_zero, Act.put, List.setIfInBounds_toArray, List.set_cons_zero, List.set_cons_succ]
      refine wpAnyH_take (i := 8) (v := ?vp8) rfl (by kernel_rfl) (by kernel_rfl) (by kernel_rfl) (fun _ _ _ h => h) (Or.inl ⟨by rfl, ?hyp8⟩) (by assumption) ?restp8
      case hyp8 => (intro w hSw; (try dsimp only at hSw); go_simp <;> with_reducible rfl)
      try simp only [List.getElem_toArray, List.getElem_cons_succ, List.getElem_cons_zero, Act.put, List.setIfInBounds_toArray, List.set_cons_zero, List.set_cons_succ]
      refine wpAnyH_take (i := 9) (v := undef) rfl (by kernel_rfl) (by kernel_rfl) (by kernel_rfl) (fun _ _ _ h => h) (Or.inr ⟨by rfl, rfl⟩) (by assumption) ?_
      try simp only [List.getElem_toArray, List.getElem_cons_succ, List.getElem_cons_zero, Act.put, List.setIfInBounds_toArray, List.set_cons_zero, List.set_cons_succ]
      refine wpAnyH_take (i := 10) (v := undef) rfl (by kernel_rfl) (by kernel_rfl) (by kernel_rfl) (fun _ _ _ h => h) (Or.inr ⟨by rfl, rfl⟩) (by assumption) ?_
      try simp only [List.getElem_toArray, List.getElem_cons_succ, List.getElem_cons_zero, Act.put, List.setIfInBounds_toArray, List.set_cons_zero, List.set_cons_succ]
      refine wpAnyH_take (i := 11) (v := undef) rfl (by kernel_rfl) (by kernel_rfl) (by kernel_rfl) (fun _ _ _ h => h) (Or.inr ⟨by rfl, rfl⟩) (by assumption) ?_
      try simp only [List.getElem_toArray, List.getElem_cons_succ, List.getElem_cons_zero, Act.put, List.setIfInBounds_toArray, List.set_cons_zero, List.set_cons_succ]
      refine wpAnyH_take (i := 12) (v := undef) rfl (by kernel_rfl) (by kernel_rfl) (by kernel_rfl) (fun _ _ _ h => h) (Or.inr ⟨by rfl, rfl⟩) (by assumption) ?_
      try simp only [List.getElem_toArray, List.getElem_cons_succ, List.getElem_cons_zero, Act.put, List.setIfInBounds_toArray, List.set_cons_zero, List.set_cons_succ]
      refine wpAnyH_take (i := 13) (v := ?vp13) rfl (by kernel_rfl) (by kernel_rfl) (by kernel_rfl) (fun _ _ _ h => h) (Or.inl ⟨by rfl, ?hyp13⟩) (by assumption) ?restp13
      case hyp13 => (intro w hSw; (try dsimp only at hSw); go_simp <;> with_reducible rfl)
      try simp only [List.getElem_toArray, List.getElem_cons_succ, List.getElem_cons_zero, Act.put, List.setIfInBounds_toArray, List.set_cons_zero, List.set_cons_succ]
      refine wpAnyH_take (i := 14) (v := ?vp14) rfl (by kernel_rfl) (by kernel_rfl) (by kernel_rfl) (fun _ _ _ h => h) (Or.inl ⟨by rfl, ?hyp14⟩) (by assumption) ?restp14
      case hyp14 => (intro w hSw; (try dsimp only at hSw); go_simp <;> with_reducible rfl)
      try simp only [List.getElem_toArray, List.getElem_cons_succ, List.getElem_cons_zero, Act.put, List.setIfInBounds_toArray, List.set_cons_zero, List.set_cons_succ]
      refine wpAnyH_take (i := 16) (v := ?vp16) rfl (by kernel_rfl) (by kernel_rfl) (by kernel_rfl) (fun _ _ _ h => h) (Or.inl ⟨by rfl, ?hyp16⟩) (by assumption) ?restp16
      case hyp16 => (intro w hSw; (try dsimp only at hSw); go_simp <;> with_reducible rfl)
      try simp only [List.getElem_toArray, List.getElem_cons_succ, List.getElem_cons_zero, Act.put, List.setIfInBounds_toArray, List.set_cons_zero, List.set_cons_succ]
      refine wpAnyH_ready (rs := [15]) (by kernel_rfl) (by simp) ?_
      refine AllReadyH.cons rfl (fun K hK => ?_) AllReadyH.nil
      go_simp
      refine (zero_any _).mono ?_
      rintro e v2 ⟨rfl, b⟩
      have Y2 := Lib.hid (Boxes.keep b Y1.out)
      have C2 := Lib.hid (thru C1.out b)
      clear b Y1 C1
      dsimp only [number, Lv.val]
      refine hK.out _ _ (⟨Lv.cells Y2.out.2.2.2.2.2.2.1, Lv.cells Y2.out.2.2.2.2.2.2.2.1, Lv.cells Y2.out.2.2.2.2.2.2.2.2.1, Lv.cells Y2.out.2.2.2.2.2.1⟩) (fun hHeld => ?_)
      clear hK K
      try simp only [List.getElem_toArray, List.getElem_cons_succ, List.getElem_cons_zero, Act.put, List.setIfInBounds_toArray, List.set_cons_zero, List.set_cons_succ]
      refine wpAnyH_ready (rs := [17]) (by kernel_rfl) (by simp) ?_
      refine AllReadyH.cons rfl (fun K hK => ?_) AllReadyH.nil
      go_simp
      refine (leq_at (number 0) a true R4.out _).mono ?_
      rintro e v3 ⟨rfl, b⟩
      have Y3 := Lib.hid (Boxes.keep b Y2.out)
      have C3 := Lib.hid (thru C2.out b)
      clear b Y2 C2
      refine hK.out _ _ (⟨Lv.cells Y3.out.2.2.2.2.2.2.1, Lv.cells Y3.out.2.2.2.2.2.2.2.1, Lv.cells Y3.out.2.2.2.2.2.2.2.2.1, Lv.cells Y3.out.2.2.2.2.2.1⟩) (fun hHeld => ?_)
      clear hK K
      try simp only [List.getElem_toArray, List.getElem_cons_succ, List.getElem_cons_zero, Act.put, List.setIfInBounds_toArray, List.set_cons_zero, List.set_cons_succ]
      refine wpAnyH_take (i := 18) (v := ?vp18) rfl (by kernel_rfl) (by kernel_rfl) (by kernel_rfl) (fun _ _ _ h => h) (Or.inl ⟨by rfl, ?hyp18⟩) (by assumption) ?restp18
      case hyp18 => (intro w hSw; (try dsimp only at hSw); go_simp <;> with_reducible rfl)
      try simp only [List.getElem_toArray, List.getElem_cons_succ, List.getElem_cons_zero, Act.put, List.setIfInBounds_toArray, List.set_cons_zero, List.set_cons_succ]
      refine wpAnyH_take (i := 19) (v := ?vp19) rfl (by kernel_rfl) (by kernel_rfl) (by kernel_rfl) (fun _ _ _ h => h) (Or.inl ⟨by rfl, ?hyp19⟩) (by assumption) ?restp19
      case hyp19 => (intro w hSw; (try dsimp only at hSw); go_simp <;> with_reducible rfl)
      try simp only [List.getElem_toArray, List.getElem_cons_succ, List.getElem_cons_zero, Act.put, List.setIfInBounds_toArray, List.set_cons_zero, List.set_cons_succ]
      refine wpAnyH_take (i := 20) (v := ?vp20) rfl (by kernel_rfl) (by kernel_rfl) (by kernel_rfl) (fun _ _ _ h => h) (Or.inl ⟨by rfl, ?hyp20⟩) (by assumption) ?restp20
      case hyp20 => (intro w hSw; (try dsimp only at hSw); go_simp <;> with_reducible rfl)
      try simp only [List.getElem_toArray, List.getElem_cons_succ, List.getElem_cons_zero, Act.put, List.setIfInBounds_toArray, List.set_cons_zero, List.set_cons_succ]
      refine wpAnyH_take (i := 21) (v := ?vp21) rfl (by kernel_rfl) (by kernel_rfl) (by kernel_rfl) (fun _ _ _ h => h) (Or.inl ⟨by rfl, ?hyp21⟩) (by assumption) ?restp21
      case hyp21 => (intro w hSw; (try dsimp only at hSw); go_simp <;> with_reducible rfl)
      try simp only [List.getElem_toArray, List.getElem_cons_succ, List.getElem_cons_zero, Act.put, List.setIfInBounds_toArray, List.set_cons_zero, List.set_cons_succ]
      refine wpAnyH_take (i := 22) (v := ?vp22) rfl (by kernel_rfl) (by kernel_rfl) (by kernel_rfl) (fun _ _ _ h => h) (Or.inl ⟨by rfl, ?hyp22⟩) (by assumption) ?restp22
      case hyp22 => (intro w hSw; (try dsimp only at hSw); go_simp <;> with_reducible rfl)
      try simp only [List.getElem_toArray, List.getElem_cons_succ, List.getElem_cons_zero, Act.put, List.setIfInBounds_toArray, List.set_cons_zero, List.set_cons_succ]
      refine wpAnyH_ready (rs := [23]) (by kernel_rfl) (by simp) ?_
      refine AllReadyH.cons rfl (fun K hK => ?_) AllReadyH.nil
      go_simp
      refine (leq_at a ab true R5.out _).mono ?_
      rintro e v4 ⟨rfl, b⟩
      have Y4 := Lib.hid (Boxes.keep b Y3.out)
      have C4 := Lib.hid (thru C3.out b)
      clear b Y3 C3
      refine hK.out _ _ (⟨Lv.cells Y4.out.2.2.2.2.2.2.1, Lv.cells Y4.out.2.2.2.2.2.2.2.1, Lv.cells Y4.out.2.2.2.2.2.2.2.2.1, Lv.cells Y4.out.2.2.2.2.2.1⟩) (fun hHeld => ?_)
      clear hK K
      try simp only [List.getElem_toArray, List.getElem_cons_succ, List.getElem_cons_zero, Act.put, List.setIfInBounds_toArray, List.set_cons_zero, List.set_cons_succ]
      refine wpAnyH_take (i := 24) (v := ?vp24) rfl (by kernel_rfl) (by kernel_rfl) (by kernel_rfl) (fun _ _ _ h => h) (Or.inl ⟨by rfl, ?hyp24⟩) (by assumption) ?restp24
      case hyp24 => (intro w hSw; (try dsimp only at hSw); go_simp <;> with_reducible rfl)
      try simp only [List.getElem_toArray, List.getElem_cons_succ, List.getElem_cons_zero, Act.put, List.setIfInBounds_toArray, List.set_cons_zero, List.set_cons_succ]
      refine wpAnyH_take (i := 25) (v := ?vp25) rfl (by kernel_rfl) (by kernel_rfl) (by kernel_rfl) (fun _ _ _ h => h) (Or.inl ⟨by rfl, ?hyp25⟩) (by assumption) ?restp25
      case hyp25 => (intro w hSw; (try dsimp only at hSw); go_simp <;> with_reducible rfl)
      try simp only [List.getElem_toArray, List.getElem_cons_succ, List.getElem_cons_zero, Act.put, List.setIfInBounds_toArray, List.set_cons_zero, List.set_cons_succ]
      refine wpAnyH_take (i := 26) (v := ?vp26) rfl (by kernel_rfl) (by kernel_rfl) (by kernel_rfl) (fun _ _ _ h => h) (Or.inl ⟨by rfl, ?hyp26⟩) (by assumption) ?restp26
      case hyp26 => (intro w hSw; (try dsimp only at hSw); go_simp <;> with_reducible rfl)
      try simp only [List.getElem_toArray, List.getElem_cons_succ, List.getElem_cons_zero, Act.put, List.setIfInBounds_toArray, List.set_cons_zero, List.set_cons_succ]
      refine wpAnyH_take (i := 27) (v := ?vp27) rfl (by kernel_rfl) (by kernel_rfl) (by kernel_rfl) (fun _ _ _ h => h) (Or.inl ⟨by rfl, ?hyp27⟩) (by assumption) ?restp27
      case hyp27 => (intro w hSw; (try dsimp only at hSw); go_simp <;> with_reducible rfl)
      try simp only [List.getElem_toArray, List.getElem_cons_succ, List.getElem_cons_zero, Act.put, List.setIfInBounds_toArray, List.set_cons_zero, List.set_cons_succ]
      refine wpAnyH_take (i := 28) (v := ?vp28) rfl (by kernel_rfl) (by kernel_rfl) (by kernel_rfl) (fun _ _ _ h => h) (Or.inl ⟨by rfl, ?hyp28⟩) (by assumption) ?restp28
      case hyp28 => (intro w hSw; (try dsimp only at hSw); go_simp <;> with_reducible rfl)
      try simp only [List.getElem_toArray, List.getElem_cons_succ, List.getElem_cons_zero, Act.put, List.setIfInBounds_toArray, List.set_cons_zero, List.set_cons_succ]
      refine wpAnyH_ready (rs := [29]) (by kernel_rfl) (by simp) ?_
      refine AllReadyH.cons rfl (fun K hK => ?_) AllReadyH.nil
      go_simp
      refine (leq_at b ab true R6.out _).mono ?_
      rintro e v5 ⟨rfl, b⟩
      have Y5 := Lib.hid (Boxes.keep b Y4.out)
      have C5 := Lib.hid (thru C4.out b)
      clear b Y4 C4
      refine hK.out _ _ (⟨Lv.cells Y5.out.2.2.2.2.2.2.1, Lv.cells Y5.out.2.2.2.2.2.2.2.1, Lv.cells Y5.out.2.2.2.2.2.2.2.2.1, Lv.cells Y5.out.2.2.2.2.2.1⟩) (fun hHeld => ?_)
      clear hK K
      try simp only [List.getElem_toArray, List.getElem_cons_succ, List.getElem_cons_zero, Act.put, List.setIfInBounds_toArray, List.set_cons_zero, List.set_cons_succ]
      refine wpAnyH_take (i := 30) (v := ?vp30) rfl (by kernel_rfl) (by kernel_rfl) (by kernel_rfl) (fun _ _ _ h => h) (Or.inl ⟨by rfl, ?hyp30⟩) (by assumption) ?restp30
      case hyp30 => (intro w hSw; (try dsimp only at hSw); go_simp <;> with_reducible rfl)
      try simp only [List.getElem_toArray, List.getElem_cons_succ, List.getElem_cons_zero, Act.put, List.setIfInBounds_toArray, List.set_cons_zero, List.set_cons_succ]
      refine wpAnyH_take (i := 31) (v := ?vp31) rfl (by kernel_rfl) (by kernel_rfl) (by kernel_rfl) (fun _ _ _ h => h) (Or.inl ⟨by rfl, ?hyp31⟩) (by assumption) ?restp31
      case hyp31 => (intro w hSw; (try dsimp only at hSw); go_simp <;> with_reducible rfl)
      try simp only [List.getElem_toArray, List.getElem_cons_succ, List.getElem_cons_zero, Act.put, List.setIfInBounds_toArray, List.set_cons_zero, List.set_cons_succ]
      refine wpAnyH_done (by kernel_rfl) ?_ _
      go_wp2_with fail
      go_meet
      exact ⟨rfl, Y5.out, C5.out⟩
    · cases r2
      · clear R3
        refine wp_region_held_drew (S := (fun w' => (w'.cell? ⟨w.heap.size, 0, none⟩ = some (.int .i64 a.c) ∧ w'.cell? ⟨w.heap.size, 1, none⟩ = some (.int .i64 a.p0) ∧ w'.cell? ⟨w.heap.size, 2, none⟩ = some (.int .i64 a.p1) ∧ w'.cell? ⟨w.heap.size, 3, none⟩ = some (.int .i64 a.p2) ∧ w'.cell? ⟨w.heap.size, 4, none⟩ = some (.int .i64 a.p3)) ∧ (w'.cell? ⟨w.heap.size + 1, 0, none⟩ = some (.int .i64 b.c) ∧ w'.cell? ⟨w.heap.size + 1, 1, none⟩ = some (.int .i64 b.p0) ∧ w'.cell? ⟨w.heap.size + 1, 2, none⟩ = some (.int .i64 b.p1) ∧ w'.cell? ⟨w.heap.size + 1, 3, none⟩ = some (.int .i64 b.p2) ∧ w'.cell? ⟨w.heap.size + 1, 4, none⟩ = some (.int .i64 b.p3)) ∧ (w'.cell? ⟨w.heap.size + 1 + 1, 0, none⟩ = some (.int .i64 c.c) ∧ w'.cell? ⟨w.heap.size + 1 + 1, 1, none⟩ = some (.int .i64 c.p0) ∧ w'.cell? ⟨w.heap.size + 1 + 1, 2, none⟩ = some (.int .i64 c.p1) ∧ w'.cell? ⟨w.heap.size + 1 + 1, 3, none⟩ = some (.int .i64 c.p2) ∧ w'.cell? ⟨w.heap.size + 1 + 1, 4, none⟩ = some (.int .i64 c.p3)) ∧ (w'.cell? ⟨w4.heap.size, 0, none⟩ = some (.int .i64 ab.c) ∧ w'.cell? ⟨w4.heap.size, 1, none⟩ = some (.int .i64 ab.p0) ∧ w'.cell? ⟨w4.heap.size, 2, none⟩ = some (.int .i64 ab.p1) ∧ w'.cell? ⟨w4.heap.size, 3, none⟩ = some (.int .i64 ab.p2) ∧ w'.cell? ⟨w4.heap.size, 4, none⟩ = some (.int .i64 ab.p3)))) (by kernel_rfl) (⟨Lv.cells Y0.out.2.2.2.2.2.2.1, Lv.cells Y0.out.2.2.2.2.2.2.2.1, Lv.cells Y0.out.2.2.2.2.2.2.2.2.1, Lv.cells Y0.out.2.2.2.2.2.1⟩) (fun hHeld => ?_)
        refine wpAnyH_take (i := 0) (v := ?vq0) rfl (by kernel_rfl) (by kernel_rfl) (by kernel_rfl) (fun _ _ _ h => h) (Or.inl ⟨by rfl, ?hyq0⟩) (by assumption) ?restq0
        case hyq0 => (intro w hSw; (try dsimp only at hSw); go_simp <;> with_reducible rfl)
        try simp only [List.getElem_toArray, List.getElem_cons_zero, Act.put, List.setIfInBounds_toArray, List.set_cons_zero, List.set_cons_succ]
        refine wpAnyH_take (i := 1) (v := ?vq1) rfl (by kernel_rfl) (by kernel_rfl) (by kernel_rfl) (fun _ _ _ h => h) (Or.inl ⟨by rfl, ?hyq1⟩) (by assumption) ?restq1
        case hyq1 => (intro w hSw; (try dsimp only at hSw); go_simp <;> with_reducible rfl)
        try simp only [List.getElem_toArray, List.getElem_cons_succ, List.getElem_cons_zero, Act.put, List.setIfInBounds_toArray, List.set_cons_zero, List.set_cons_succ]
        refine wpAnyH_ready (rs := [2]) (by kernel_rfl) (by simp) ?_
        refine AllReadyH.cons rfl (fun K hK => ?_) AllReadyH.nil
        go_simp
        refine (leq_at a b true R1.out _).mono ?_
        rintro e v1 ⟨rfl, b⟩
        have Y1 := Lib.hid (Boxes.keep b Y0.out)
        have C1 := Lib.hid (thru C0.out b)
        clear b Y0 C0
        refine hK.out _ _ (⟨Lv.cells Y1.out.2.2.2.2.2.2.1, Lv.cells Y1.out.2.2.2.2.2.2.2.1, Lv.cells Y1.out.2.2.2.2.2.2.2.2.1, Lv.cells Y1.out.2.2.2.2.2.1⟩) (fun hHeld => ?_)
        clear hK K
        try simp only [List.getElem_toArray, List.getElem_cons_succ, List.getElem_cons_zero, Act.put, List.setIfInBounds_toArray, List.set_cons_zero, List.set_cons_succ]
        refine wpAnyH_take (i := 3) (v := ?vq3) rfl (by kernel_rfl) (by kernel_rfl) (by kernel_rfl) (fun _ _ _ h => h) (Or.inl ⟨by rfl, ?hyq3⟩) (by assumption) ?restq3
        case hyq3 => (intro w hSw; (try dsimp only at hSw); go_simp <;> with_reducible rfl)
        try simp only [List.getElem_toArray, List.getElem_cons_succ, List.getElem_cons_zero, Act.put, List.setIfInBounds_toArray, List.set_cons_zero, List.set_cons_succ]
        refine wpAnyH_take (i := 4) (v := ?vq4) rfl (by kernel_rfl) (by kernel_rfl) (by kernel_rfl) (fun _ _ _ h => h) (Or.inl ⟨by rfl, ?hyq4⟩) (by assumption) ?restq4
        case hyq4 => (intro w hSw; (try dsimp only at hSw); go_simp <;> with_reducible rfl)
        try simp only [List.getElem_toArray, List.getElem_cons_succ, List.getElem_cons_zero, Act.put, List.setIfInBounds_toArray, List.set_cons_zero, List.set_cons_succ]
        refine wpAnyH_take (i := 5) (v := ?vq5) rfl (by kernel_rfl) (by kernel_rfl) (by kernel_rfl) (fun _ _ _ h => h) (Or.inl ⟨by rfl, ?hyq5⟩) (by assumption) ?restq5
        case hyq5 => (intro w hSw; (try dsimp only at hSw); go_simp <;> with_reducible rfl)
        try simp only [List.getElem_toArray, List.getElem_cons_succ, List.getElem_cons_zero, Act.put, List.setIfInBounds_toArray, List.set_cons_zero, List.set_cons_succ]
        refine wpAnyH_ready (rs := [6]) (by kernel_rfl) (by simp) ?_
        refine AllReadyH.cons rfl (fun K hK => ?_) AllReadyH.nil
        go_simp
        refine (leq_at b c false R2.out _).mono ?_
        rintro e v2 ⟨rfl, b⟩
        have Y2 := Lib.hid (Boxes.keep b Y1.out)
        have C2 := Lib.hid (thru C1.out b)
        clear b Y1 C1
        refine hK.out _ _ (⟨Lv.cells Y2.out.2.2.2.2.2.2.1, Lv.cells Y2.out.2.2.2.2.2.2.2.1, Lv.cells Y2.out.2.2.2.2.2.2.2.2.1, Lv.cells Y2.out.2.2.2.2.2.1⟩) (fun hHeld => ?_)
        clear hK K
        try simp only [List.getElem_toArray, List.getElem_cons_succ, List.getElem_cons_zero, Act.put, List.setIfInBounds_toArray, List.set_cons_zero, List.set_cons_succ]
        refine wpAnyH_take (i := 7) (v := ?vq7) rfl (by kernel_rfl) (by kernel_rfl) (by kernel_rfl) (fun _ _ _ h => h) (Or.inl ⟨by rfl, ?hyq7⟩) (by assumption) ?restq7
        case hyq7 => (intro w hSw; (try dsimp only at hSw); go_simp <;> with_reducible rfl)
        try simp only [List.getElem_toArray, List.getElem_cons_succ, List.getElem_cons_zero, Act.put, List.setIfInBounds_toArray, List.set_cons_zero, List.set_cons_succ]
        refine wpAnyH_take (i := 8) (v := ?vq8) rfl (by kernel_rfl) (by kernel_rfl) (by kernel_rfl) (fun _ _ _ h => h) (Or.inl ⟨by rfl, ?hyq8⟩) (by assumption) ?restq8
        case hyq8 => (intro w hSw; (try dsimp only at hSw); go_simp <;> with_reducible rfl)
        try simp only [List.getElem_toArray, List.getElem_cons_succ, List.getElem_cons_zero, Act.put, List.setIfInBounds_toArray, List.set_cons_zero, List.set_cons_succ]
        refine wpAnyH_take (i := 9) (v := undef) rfl (by kernel_rfl) (by kernel_rfl) (by kernel_rfl) (fun _ _ _ h => h) (Or.inr ⟨by rfl, rfl⟩) (by assumption) ?_
        try simp only [List.getElem_toArray, List.getElem_cons_succ, List.getElem_cons_zero, Act.put, List.setIfInBounds_toArray, List.set_cons_zero, List.set_cons_succ]
        refine wpAnyH_take (i := 10) (v := undef) rfl (by kernel_rfl) (by kernel_rfl) (by kernel_rfl) (fun _ _ _ h => h) (Or.inr ⟨by rfl, rfl⟩) (by assumption) ?_
        try simp only [List.getElem_toArray, List.getElem_cons_succ, List.getElem_cons_zero, Act.put, List.setIfInBounds_toArray, List.set_cons_zero, List.set_cons_succ]
        refine wpAnyH_take (i := 11) (v := undef) rfl (by kernel_rfl) (by kernel_rfl) (by kernel_rfl) (fun _ _ _ h => h) (Or.inr ⟨by rfl, rfl⟩) (by assumption) ?_
        try simp only [List.getElem_toArray, List.getElem_cons_succ, List.getElem_cons_zero, Act.put, List.setIfInBounds_toArray, List.set_cons_zero, List.set_cons_succ]
        refine wpAnyH_take (i := 12) (v := undef) rfl (by kernel_rfl) (by kernel_rfl) (by kernel_rfl) (fun _ _ _ h => h) (Or.inr ⟨by rfl, rfl⟩) (by assumption) ?_
        try simp only [List.getElem_toArray, List.getElem_cons_succ, List.getElem_cons_zero, Act.put, List.setIfInBounds_toArray, List.set_cons_zero, List.set_cons_succ]
        refine wpAnyH_take (i := 13) (v := ?vq13) rfl (by kernel_rfl) (by kernel_rfl) (by kernel_rfl) (fun _ _ _ h => h) (Or.inl ⟨by rfl, ?hyq13⟩) (by assumption) ?restq13
        case hyq13 => (intro w hSw; (try dsimp only at hSw); go_simp <;> with_reducible rfl)
        try simp only [List.getElem_toArray, List.getElem_cons_succ, List.getElem_cons_zero, Act.put, List.setIfInBounds_toArray, List.set_cons_zero, List.set_cons_succ]
        refine wpAnyH_take (i := 14) (v := ?vq14) rfl (by kernel_rfl) (by kernel_rfl) (by kernel_rfl) (fun _ _ _ h => h) (Or.inl ⟨by rfl, ?hyq14⟩) (by assumption) ?restq14
        case hyq14 => (intro w hSw; (try dsimp only at hSw); go_simp <;> with_reducible rfl)
        try simp only [List.getElem_toArray, List.getElem_cons_succ, List.getElem_cons_zero, Act.put, List.setIfInBounds_toArray, List.set_cons_zero, List.set_cons_succ]
        refine wpAnyH_take (i := 16) (v := ?vq16) rfl (by kernel_rfl) (by kernel_rfl) (by kernel_rfl) (fun _ _ _ h => h) (Or.inl ⟨by rfl, ?hyq16⟩) (by assumption) ?restq16
        case hyq16 => (intro w hSw; (try dsimp only at hSw); go_simp <;> with_reducible rfl)
        try simp only [List.getElem_toArray, List.getElem_cons_succ, List.getElem_cons_zero, Act.put, List.setIfInBounds_toArray, List.set_cons_zero, List.set_cons_succ]
        refine wpAnyH_ready (rs := [15]) (by kernel_rfl) (by simp) ?_
        refine AllReadyH.cons rfl (fun K hK => ?_) AllReadyH.nil
        go_simp
        refine (zero_any _).mono ?_
        rintro e v3 ⟨rfl, b⟩
        have Y3 := Lib.hid (Boxes.keep b Y2.out)
        have C3 := Lib.hid (thru C2.out b)
        clear b Y2 C2
        dsimp only [number, Lv.val]
        refine hK.out _ _ (⟨Lv.cells Y3.out.2.2.2.2.2.2.1, Lv.cells Y3.out.2.2.2.2.2.2.2.1, Lv.cells Y3.out.2.2.2.2.2.2.2.2.1, Lv.cells Y3.out.2.2.2.2.2.1⟩) (fun hHeld => ?_)
        clear hK K
        try simp only [List.getElem_toArray, List.getElem_cons_succ, List.getElem_cons_zero, Act.put, List.setIfInBounds_toArray, List.set_cons_zero, List.set_cons_succ]
        refine wpAnyH_ready (rs := [17]) (by kernel_rfl) (by simp) ?_
        refine AllReadyH.cons rfl (fun K hK => ?_) AllReadyH.nil
        go_simp
        refine (leq_at (number 0) a true R4.out _).mono ?_
        rintro e v4 ⟨rfl, b⟩
        have Y4 := Lib.hid (Boxes.keep b Y3.out)
        have C4 := Lib.hid (thru C3.out b)
        clear b Y3 C3
        refine hK.out _ _ (⟨Lv.cells Y4.out.2.2.2.2.2.2.1, Lv.cells Y4.out.2.2.2.2.2.2.2.1, Lv.cells Y4.out.2.2.2.2.2.2.2.2.1, Lv.cells Y4.out.2.2.2.2.2.1⟩) (fun hHeld => ?_)
        clear hK K
        try simp only [List.getElem_toArray, List.getElem_cons_succ, List.getElem_cons_zero, Act.put, List.setIfInBounds_toArray, List.set_cons_zero, List.set_cons_succ]
        refine wpAnyH_take (i := 18) (v := ?vq18) rfl (by kernel_rfl) (by kernel_rfl) (by kernel_rfl) (fun _ _ _ h => h) (Or.inl ⟨by rfl, ?hyq18⟩) (by assumption) ?restq18
        case hyq18 => (intro w hSw; (try dsimp only at hSw); go_simp <;> with_reducible rfl)
        try simp only [List.getElem_toArray, List.getElem_cons_succ, List.getElem_cons_zero, Act.put, List.setIfInBounds_toArray, List.set_cons_zero, List.set_cons_succ]
        refine wpAnyH_take (i := 19) (v := ?vq19) rfl (by kernel_rfl) (by kernel_rfl) (by kernel_rfl) (fun _ _ _ h => h) (Or.inl ⟨by rfl, ?hyq19⟩) (by assumption) ?restq19
        case hyq19 => (intro w hSw; (try dsimp only at hSw); go_simp <;> with_reducible rfl)
        try simp only [List.getElem_toArray, List.getElem_cons_succ, List.getElem_cons_zero, Act.put, List.setIfInBounds_toArray, List.set_cons_zero, List.set_cons_succ]
        refine wpAnyH_take (i := 20) (v := ?vq20) rfl (by kernel_rfl) (by kernel_rfl) (by kernel_rfl) (fun _ _ _ h => h) (Or.inl ⟨by rfl, ?hyq20⟩) (by assumption) ?restq20
        case hyq20 => (intro w hSw; (try dsimp only at hSw); go_simp <;> with_reducible rfl)
        try simp only [List.getElem_toArray, List.getElem_cons_succ, List.getElem_cons_zero, Act.put, List.setIfInBounds_toArray, List.set_cons_zero, List.set_cons_succ]
        refine wpAnyH_take (i := 21) (v := ?vq21) rfl (by kernel_rfl) (by kernel_rfl) (by kernel_rfl) (fun _ _ _ h => h) (Or.inl ⟨by rfl, ?hyq21⟩) (by assumption) ?restq21
        case hyq21 => (intro w hSw; (try dsimp only at hSw); go_simp <;> with_reducible rfl)
        try simp only [List.getElem_toArray, List.getElem_cons_succ, List.getElem_cons_zero, Act.put, List.setIfInBounds_toArray, List.set_cons_zero, List.set_cons_succ]
        refine wpAnyH_take (i := 22) (v := ?vq22) rfl (by kernel_rfl) (by kernel_rfl) (by kernel_rfl) (fun _ _ _ h => h) (Or.inl ⟨by rfl, ?hyq22⟩) (by assumption) ?restq22
        case hyq22 => (intro w hSw; (try dsimp only at hSw); go_simp <;> with_reducible rfl)
        try simp only [List.getElem_toArray, List.getElem_cons_succ, List.getElem_cons_zero, Act.put, List.setIfInBounds_toArray, List.set_cons_zero, List.set_cons_succ]
        refine wpAnyH_ready (rs := [23]) (by kernel_rfl) (by simp) ?_
        refine AllReadyH.cons rfl (fun K hK => ?_) AllReadyH.nil
        go_simp
        refine (leq_at a ab true R5.out _).mono ?_
        rintro e v5 ⟨rfl, b⟩
        have Y5 := Lib.hid (Boxes.keep b Y4.out)
        have C5 := Lib.hid (thru C4.out b)
        clear b Y4 C4
        refine hK.out _ _ (⟨Lv.cells Y5.out.2.2.2.2.2.2.1, Lv.cells Y5.out.2.2.2.2.2.2.2.1, Lv.cells Y5.out.2.2.2.2.2.2.2.2.1, Lv.cells Y5.out.2.2.2.2.2.1⟩) (fun hHeld => ?_)
        clear hK K
        try simp only [List.getElem_toArray, List.getElem_cons_succ, List.getElem_cons_zero, Act.put, List.setIfInBounds_toArray, List.set_cons_zero, List.set_cons_succ]
        refine wpAnyH_take (i := 24) (v := ?vq24) rfl (by kernel_rfl) (by kernel_rfl) (by kernel_rfl) (fun _ _ _ h => h) (Or.inl ⟨by rfl, ?hyq24⟩) (by assumption) ?restq24
        case hyq24 => (intro w hSw; (try dsimp only at hSw); go_simp <;> with_reducible rfl)
        try simp only [List.getElem_toArray, List.getElem_cons_succ, List.getElem_cons_zero, Act.put, List.setIfInBounds_toArray, List.set_cons_zero, List.set_cons_succ]
        refine wpAnyH_take (i := 25) (v := ?vq25) rfl (by kernel_rfl) (by kernel_rfl) (by kernel_rfl) (fun _ _ _ h => h) (Or.inl ⟨by rfl, ?hyq25⟩) (by assumption) ?restq25
        case hyq25 => (intro w hSw; (try dsimp only at hSw); go_simp <;> with_reducible rfl)
        try simp only [List.getElem_toArray, List.getElem_cons_succ, List.getElem_cons_zero, Act.put, List.setIfInBounds_toArray, List.set_cons_zero, List.set_cons_succ]
        refine wpAnyH_take (i := 26) (v := ?vq26) rfl (by kernel_rfl) (by kernel_rfl) (by kernel_rfl) (fun _ _ _ h => h) (Or.inl ⟨by rfl, ?hyq26⟩) (by assumption) ?restq26
        case hyq26 => (intro w hSw; (try dsimp only at hSw); go_simp <;> with_reducible rfl)
        try simp only [List.getElem_toArray, List.getElem_cons_succ, List.getElem_cons_zero, Act.put, List.setIfInBounds_toArray, List.set_cons_zero, List.set_cons_succ]
        refine wpAnyH_take (i := 27) (v := ?vq27) rfl (by kernel_rfl) (by kernel_rfl) (by kernel_rfl) (fun _ _ _ h => h) (Or.inl ⟨by rfl, ?hyq27⟩) (by assumption) ?restq27
        case hyq27 => (intro w hSw; (try dsimp only at hSw); go_simp <;> with_reducible rfl)
        try simp only [List.getElem_toArray, List.getElem_cons_succ, List.getElem_cons_zero, Act.put, List.setIfInBounds_toArray, List.set_cons_zero, List.set_cons_succ]
        refine wpAnyH_take (i := 28) (v := ?vq28) rfl (by kernel_rfl) (by kernel_rfl) (by kernel_rfl) (fun _ _ _ h => h) (Or.inl ⟨by rfl, ?hyq28⟩) (by assumption) ?restq28
        case hyq28 => (intro w hSw; (try dsimp only at hSw); go_simp <;> with_reducible rfl)
        try simp only [List.getElem_toArray, List.getElem_cons_succ, List.getElem_cons_zero, Act.put, List.setIfInBounds_toArray, List.set_cons_zero, List.set_cons_succ]
        refine wpAnyH_ready (rs := [29]) (by kernel_rfl) (by simp) ?_
        refine AllReadyH.cons rfl (fun K hK => ?_) AllReadyH.nil
        go_simp
        refine (leq_at b ab true R6.out _).mono ?_
        rintro e v6 ⟨rfl, b⟩
        have Y6 := Lib.hid (Boxes.keep b Y5.out)
        have C6 := Lib.hid (thru C5.out b)
        clear b Y5 C5
        refine hK.out _ _ (⟨Lv.cells Y6.out.2.2.2.2.2.2.1, Lv.cells Y6.out.2.2.2.2.2.2.2.1, Lv.cells Y6.out.2.2.2.2.2.2.2.2.1, Lv.cells Y6.out.2.2.2.2.2.1⟩) (fun hHeld => ?_)
        clear hK K
        try simp only [List.getElem_toArray, List.getElem_cons_succ, List.getElem_cons_zero, Act.put, List.setIfInBounds_toArray, List.set_cons_zero, List.set_cons_succ]
        refine wpAnyH_take (i := 30) (v := ?vq30) rfl (by kernel_rfl) (by kernel_rfl) (by kernel_rfl) (fun _ _ _ h => h) (Or.inl ⟨by rfl, ?hyq30⟩) (by assumption) ?restq30
        case hyq30 => (intro w hSw; (try dsimp only at hSw); go_simp <;> with_reducible rfl)
        try simp only [List.getElem_toArray, List.getElem_cons_succ, List.getElem_cons_zero, Act.put, List.setIfInBounds_toArray, List.set_cons_zero, List.set_cons_succ]
        refine wpAnyH_take (i := 31) (v := ?vq31) rfl (by kernel_rfl) (by kernel_rfl) (by kernel_rfl) (fun _ _ _ h => h) (Or.inl ⟨by rfl, ?hyq31⟩) (by assumption) ?restq31
        case hyq31 => (intro w hSw; (try dsimp only at hSw); go_simp <;> with_reducible rfl)
        try simp only [List.getElem_toArray, List.getElem_cons_succ, List.getElem_cons_zero, Act.put, List.setIfInBounds_toArray, List.set_cons_zero, List.set_cons_succ]
        refine wpAnyH_done (by kernel_rfl) ?_ _
        go_wp2_with fail
        go_meet
        exact ⟨rfl, Y6.out, C6.out⟩
      ·
        refine wp_region_held_drew (S := (fun w' => (w'.cell? ⟨w.heap.size, 0, none⟩ = some (.int .i64 a.c) ∧ w'.cell? ⟨w.heap.size, 1, none⟩ = some (.int .i64 a.p0) ∧ w'.cell? ⟨w.heap.size, 2, none⟩ = some (.int .i64 a.p1) ∧ w'.cell? ⟨w.heap.size, 3, none⟩ = some (.int .i64 a.p2) ∧ w'.cell? ⟨w.heap.size, 4, none⟩ = some (.int .i64 a.p3)) ∧ (w'.cell? ⟨w.heap.size + 1, 0, none⟩ = some (.int .i64 b.c) ∧ w'.cell? ⟨w.heap.size + 1, 1, none⟩ = some (.int .i64 b.p0) ∧ w'.cell? ⟨w.heap.size + 1, 2, none⟩ = some (.int .i64 b.p1) ∧ w'.cell? ⟨w.heap.size + 1, 3, none⟩ = some (.int .i64 b.p2) ∧ w'.cell? ⟨w.heap.size + 1, 4, none⟩ = some (.int .i64 b.p3)) ∧ (w'.cell? ⟨w.heap.size + 1 + 1, 0, none⟩ = some (.int .i64 c.c) ∧ w'.cell? ⟨w.heap.size + 1 + 1, 1, none⟩ = some (.int .i64 c.p0) ∧ w'.cell? ⟨w.heap.size + 1 + 1, 2, none⟩ = some (.int .i64 c.p1) ∧ w'.cell? ⟨w.heap.size + 1 + 1, 3, none⟩ = some (.int .i64 c.p2) ∧ w'.cell? ⟨w.heap.size + 1 + 1, 4, none⟩ = some (.int .i64 c.p3)) ∧ (w'.cell? ⟨w4.heap.size, 0, none⟩ = some (.int .i64 ab.c) ∧ w'.cell? ⟨w4.heap.size, 1, none⟩ = some (.int .i64 ab.p0) ∧ w'.cell? ⟨w4.heap.size, 2, none⟩ = some (.int .i64 ab.p1) ∧ w'.cell? ⟨w4.heap.size, 3, none⟩ = some (.int .i64 ab.p2) ∧ w'.cell? ⟨w4.heap.size, 4, none⟩ = some (.int .i64 ab.p3)))) (by kernel_rfl) (⟨Lv.cells Y0.out.2.2.2.2.2.2.1, Lv.cells Y0.out.2.2.2.2.2.2.2.1, Lv.cells Y0.out.2.2.2.2.2.2.2.2.1, Lv.cells Y0.out.2.2.2.2.2.1⟩) (fun hHeld => ?_)
        refine wpAnyH_take (i := 0) (v := ?vr0) rfl (by kernel_rfl) (by kernel_rfl) (by kernel_rfl) (fun _ _ _ h => h) (Or.inl ⟨by rfl, ?hyr0⟩) (by assumption) ?restr0
        case hyr0 => (intro w hSw; (try dsimp only at hSw); go_simp <;> with_reducible rfl)
        try simp only [List.getElem_toArray, List.getElem_cons_zero, Act.put, List.setIfInBounds_toArray, List.set_cons_zero, List.set_cons_succ]
        refine wpAnyH_take (i := 1) (v := ?vr1) rfl (by kernel_rfl) (by kernel_rfl) (by kernel_rfl) (fun _ _ _ h => h) (Or.inl ⟨by rfl, ?hyr1⟩) (by assumption) ?restr1
        case hyr1 => (intro w hSw; (try dsimp only at hSw); go_simp <;> with_reducible rfl)
        try simp only [List.getElem_toArray, List.getElem_cons_succ, List.getElem_cons_zero, Act.put, List.setIfInBounds_toArray, List.set_cons_zero, List.set_cons_succ]
        refine wpAnyH_ready (rs := [2]) (by kernel_rfl) (by simp) ?_
        refine AllReadyH.cons rfl (fun K hK => ?_) AllReadyH.nil
        go_simp
        refine (leq_at a b true R1.out _).mono ?_
        rintro e v1 ⟨rfl, b⟩
        have Y1 := Lib.hid (Boxes.keep b Y0.out)
        have C1 := Lib.hid (thru C0.out b)
        clear b Y0 C0
        refine hK.out _ _ (⟨Lv.cells Y1.out.2.2.2.2.2.2.1, Lv.cells Y1.out.2.2.2.2.2.2.2.1, Lv.cells Y1.out.2.2.2.2.2.2.2.2.1, Lv.cells Y1.out.2.2.2.2.2.1⟩) (fun hHeld => ?_)
        clear hK K
        try simp only [List.getElem_toArray, List.getElem_cons_succ, List.getElem_cons_zero, Act.put, List.setIfInBounds_toArray, List.set_cons_zero, List.set_cons_succ]
        refine wpAnyH_take (i := 3) (v := ?vr3) rfl (by kernel_rfl) (by kernel_rfl) (by kernel_rfl) (fun _ _ _ h => h) (Or.inl ⟨by rfl, ?hyr3⟩) (by assumption) ?restr3
        case hyr3 => (intro w hSw; (try dsimp only at hSw); go_simp <;> with_reducible rfl)
        try simp only [List.getElem_toArray, List.getElem_cons_succ, List.getElem_cons_zero, Act.put, List.setIfInBounds_toArray, List.set_cons_zero, List.set_cons_succ]
        refine wpAnyH_take (i := 4) (v := ?vr4) rfl (by kernel_rfl) (by kernel_rfl) (by kernel_rfl) (fun _ _ _ h => h) (Or.inl ⟨by rfl, ?hyr4⟩) (by assumption) ?restr4
        case hyr4 => (intro w hSw; (try dsimp only at hSw); go_simp <;> with_reducible rfl)
        try simp only [List.getElem_toArray, List.getElem_cons_succ, List.getElem_cons_zero, Act.put, List.setIfInBounds_toArray, List.set_cons_zero, List.set_cons_succ]
        refine wpAnyH_take (i := 5) (v := ?vr5) rfl (by kernel_rfl) (by kernel_rfl) (by kernel_rfl) (fun _ _ _ h => h) (Or.inl ⟨by rfl, ?hyr5⟩) (by assumption) ?restr5
        case hyr5 => (intro w hSw; (try dsimp only at hSw); go_simp <;> with_reducible rfl)
        try simp only [List.getElem_toArray, List.getElem_cons_succ, List.getElem_cons_zero, Act.put, List.setIfInBounds_toArray, List.set_cons_zero, List.set_cons_succ]
        refine wpAnyH_ready (rs := [6]) (by kernel_rfl) (by simp) ?_
        refine AllReadyH.cons rfl (fun K hK => ?_) AllReadyH.nil
        go_simp
        refine (leq_at b c true R2.out _).mono ?_
        rintro e v2 ⟨rfl, b⟩
        have Y2 := Lib.hid (Boxes.keep b Y1.out)
        have C2 := Lib.hid (thru C1.out b)
        clear b Y1 C1
        refine hK.out _ _ (⟨Lv.cells Y2.out.2.2.2.2.2.2.1, Lv.cells Y2.out.2.2.2.2.2.2.2.1, Lv.cells Y2.out.2.2.2.2.2.2.2.2.1, Lv.cells Y2.out.2.2.2.2.2.1⟩) (fun hHeld => ?_)
        clear hK K
        try simp only [List.getElem_toArray, List.getElem_cons_succ, List.getElem_cons_zero, Act.put, List.setIfInBounds_toArray, List.set_cons_zero, List.set_cons_succ]
        refine wpAnyH_take (i := 7) (v := ?vr7) rfl (by kernel_rfl) (by kernel_rfl) (by kernel_rfl) (fun _ _ _ h => h) (Or.inl ⟨by rfl, ?hyr7⟩) (by assumption) ?restr7
        case hyr7 => (intro w hSw; (try dsimp only at hSw); go_simp <;> with_reducible rfl)
        try simp only [List.getElem_toArray, List.getElem_cons_succ, List.getElem_cons_zero, Act.put, List.setIfInBounds_toArray, List.set_cons_zero, List.set_cons_succ]
        refine wpAnyH_take (i := 8) (v := ?vr8) rfl (by kernel_rfl) (by kernel_rfl) (by kernel_rfl) (fun _ _ _ h => h) (Or.inl ⟨by rfl, ?hyr8⟩) (by assumption) ?restr8
        case hyr8 => (intro w hSw; (try dsimp only at hSw); go_simp <;> with_reducible rfl)
        try simp only [List.getElem_toArray, List.getElem_cons_succ, List.getElem_cons_zero, Act.put, List.setIfInBounds_toArray, List.set_cons_zero, List.set_cons_succ]
        refine wpAnyH_take (i := 9) (v := ?vr9) rfl (by kernel_rfl) (by kernel_rfl) (by kernel_rfl) (fun _ _ _ h => h) (Or.inl ⟨by rfl, ?hyr9⟩) (by assumption) ?restr9
        case hyr9 => (intro w hSw; (try dsimp only at hSw); go_simp <;> with_reducible rfl)
        try simp only [List.getElem_toArray, List.getElem_cons_succ, List.getElem_cons_zero, Act.put, List.setIfInBounds_toArray, List.set_cons_zero, List.set_cons_succ]
        refine wpAnyH_take (i := 10) (v := ?vr10) rfl (by kernel_rfl) (by kernel_rfl) (by kernel_rfl) (fun _ _ _ h => h) (Or.inl ⟨by rfl, ?hyr10⟩) (by assumption) ?restr10
        case hyr10 => (intro w hSw; (try dsimp only at hSw); go_simp <;> with_reducible rfl)
        try simp only [List.getElem_toArray, List.getElem_cons_succ, List.getElem_cons_zero, Act.put, List.setIfInBounds_toArray, List.set_cons_zero, List.set_cons_succ]
        refine wpAnyH_ready (rs := [11]) (by kernel_rfl) (by simp) ?_
        refine AllReadyH.cons rfl (fun K hK => ?_) AllReadyH.nil
        go_simp
        refine (leq_at a c true (R3.out rfl rfl) _).mono ?_
        rintro e v3 ⟨rfl, b⟩
        have Y3 := Lib.hid (Boxes.keep b Y2.out)
        have C3 := Lib.hid (thru C2.out b)
        clear b Y2 C2
        refine hK.out _ _ (⟨Lv.cells Y3.out.2.2.2.2.2.2.1, Lv.cells Y3.out.2.2.2.2.2.2.2.1, Lv.cells Y3.out.2.2.2.2.2.2.2.2.1, Lv.cells Y3.out.2.2.2.2.2.1⟩) (fun hHeld => ?_)
        clear hK K
        try simp only [List.getElem_toArray, List.getElem_cons_succ, List.getElem_cons_zero, Act.put, List.setIfInBounds_toArray, List.set_cons_zero, List.set_cons_succ]
        refine wpAnyH_take (i := 12) (v := ?vr12) rfl (by kernel_rfl) (by kernel_rfl) (by kernel_rfl) (fun _ _ _ h => h) (Or.inl ⟨by rfl, ?hyr12⟩) (by assumption) ?restr12
        case hyr12 => (intro w hSw; (try dsimp only at hSw); go_simp <;> with_reducible rfl)
        try simp only [List.getElem_toArray, List.getElem_cons_succ, List.getElem_cons_zero, Act.put, List.setIfInBounds_toArray, List.set_cons_zero, List.set_cons_succ]
        refine wpAnyH_take (i := 13) (v := ?vr13) rfl (by kernel_rfl) (by kernel_rfl) (by kernel_rfl) (fun _ _ _ h => h) (Or.inl ⟨by rfl, ?hyr13⟩) (by assumption) ?restr13
        case hyr13 => (intro w hSw; (try dsimp only at hSw); go_simp <;> with_reducible rfl)
        try simp only [List.getElem_toArray, List.getElem_cons_succ, List.getElem_cons_zero, Act.put, List.setIfInBounds_toArray, List.set_cons_zero, List.set_cons_succ]
        refine wpAnyH_take (i := 14) (v := ?vr14) rfl (by kernel_rfl) (by kernel_rfl) (by kernel_rfl) (fun _ _ _ h => h) (Or.inl ⟨by rfl, ?hyr14⟩) (by assumption) ?restr14
        case hyr14 => (intro w hSw; (try dsimp only at hSw); go_simp <;> with_reducible rfl)
        try simp only [List.getElem_toArray, List.getElem_cons_succ, List.getElem_cons_zero, Act.put, List.setIfInBounds_toArray, List.set_cons_zero, List.set_cons_succ]
        refine wpAnyH_take (i := 16) (v := ?vr16) rfl (by kernel_rfl) (by kernel_rfl) (by kernel_rfl) (fun _ _ _ h => h) (Or.inl ⟨by rfl, ?hyr16⟩) (by assumption) ?restr16
        case hyr16 => (intro w hSw; (try dsimp only at hSw); go_simp <;> with_reducible rfl)
        try simp only [List.getElem_toArray, List.getElem_cons_succ, List.getElem_cons_zero, Act.put, List.setIfInBounds_toArray, List.set_cons_zero, List.set_cons_succ]
        refine wpAnyH_ready (rs := [15]) (by kernel_rfl) (by simp) ?_
        refine AllReadyH.cons rfl (fun K hK => ?_) AllReadyH.nil
        go_simp
        refine (zero_any _).mono ?_
        rintro e v4 ⟨rfl, b⟩
        have Y4 := Lib.hid (Boxes.keep b Y3.out)
        have C4 := Lib.hid (thru C3.out b)
        clear b Y3 C3
        dsimp only [number, Lv.val]
        refine hK.out _ _ (⟨Lv.cells Y4.out.2.2.2.2.2.2.1, Lv.cells Y4.out.2.2.2.2.2.2.2.1, Lv.cells Y4.out.2.2.2.2.2.2.2.2.1, Lv.cells Y4.out.2.2.2.2.2.1⟩) (fun hHeld => ?_)
        clear hK K
        try simp only [List.getElem_toArray, List.getElem_cons_succ, List.getElem_cons_zero, Act.put, List.setIfInBounds_toArray, List.set_cons_zero, List.set_cons_succ]
        refine wpAnyH_ready (rs := [17]) (by kernel_rfl) (by simp) ?_
        refine AllReadyH.cons rfl (fun K hK => ?_) AllReadyH.nil
        go_simp
        refine (leq_at (number 0) a true R4.out _).mono ?_
        rintro e v5 ⟨rfl, b⟩
        have Y5 := Lib.hid (Boxes.keep b Y4.out)
        have C5 := Lib.hid (thru C4.out b)
        clear b Y4 C4
        refine hK.out _ _ (⟨Lv.cells Y5.out.2.2.2.2.2.2.1, Lv.cells Y5.out.2.2.2.2.2.2.2.1, Lv.cells Y5.out.2.2.2.2.2.2.2.2.1, Lv.cells Y5.out.2.2.2.2.2.1⟩) (fun hHeld => ?_)
        clear hK K
        try simp only [List.getElem_toArray, List.getElem_cons_succ, List.getElem_cons_zero, Act.put, List.setIfInBounds_toArray, List.set_cons_zero, List.set_cons_succ]
        refine wpAnyH_take (i := 18) (v := ?vr18) rfl (by kernel_rfl) (by kernel_rfl) (by kernel_rfl) (fun _ _ _ h => h) (Or.inl ⟨by rfl, ?hyr18⟩) (by assumption) ?restr18
        case hyr18 => (intro w hSw; (try dsimp only at hSw); go_simp <;> with_reducible rfl)
        try simp only [List.getElem_toArray, List.getElem_cons_succ, List.getElem_cons_zero, Act.put, List.setIfInBounds_toArray, List.set_cons_zero, List.set_cons_succ]
        refine wpAnyH_take (i := 19) (v := ?vr19) rfl (by kernel_rfl) (by kernel_rfl) (by kernel_rfl) (fun _ _ _ h => h) (Or.inl ⟨by rfl, ?hyr19⟩) (by assumption) ?restr19
        case hyr19 => (intro w hSw; (try dsimp only at hSw); go_simp <;> with_reducible rfl)
        try simp only [List.getElem_toArray, List.getElem_cons_succ, List.getElem_cons_zero, Act.put, List.setIfInBounds_toArray, List.set_cons_zero, List.set_cons_succ]
        refine wpAnyH_take (i := 20) (v := ?vr20) rfl (by kernel_rfl) (by kernel_rfl) (by kernel_rfl) (fun _ _ _ h => h) (Or.inl ⟨by rfl, ?hyr20⟩) (by assumption) ?restr20
        case hyr20 => (intro w hSw; (try dsimp only at hSw); go_simp <;> with_reducible rfl)
        try simp only [List.getElem_toArray, List.getElem_cons_succ, List.getElem_cons_zero, Act.put, List.setIfInBounds_toArray, List.set_cons_zero, List.set_cons_succ]
        refine wpAnyH_take (i := 21) (v := ?vr21) rfl (by kernel_rfl) (by kernel_rfl) (by kernel_rfl) (fun _ _ _ h => h) (Or.inl ⟨by rfl, ?hyr21⟩) (by assumption) ?restr21
        case hyr21 => (intro w hSw; (try dsimp only at hSw); go_simp <;> with_reducible rfl)
        try simp only [List.getElem_toArray, List.getElem_cons_succ, List.getElem_cons_zero, Act.put, List.setIfInBounds_toArray, List.set_cons_zero, List.set_cons_succ]
        refine wpAnyH_take (i := 22) (v := ?vr22) rfl (by kernel_rfl) (by kernel_rfl) (by kernel_rfl) (fun _ _ _ h => h) (Or.inl ⟨by rfl, ?hyr22⟩) (by assumption) ?restr22
        case hyr22 => (intro w hSw; (try dsimp only at hSw); go_simp <;> with_reducible rfl)
        try simp only [List.getElem_toArray, List.getElem_cons_succ, List.getElem_cons_zero, Act.put, List.setIfInBounds_toArray, List.set_cons_zero, List.set_cons_succ]
        refine wpAnyH_ready (rs := [23]) (by kernel_rfl) (by simp) ?_
        refine AllReadyH.cons rfl (fun K hK => ?_) AllReadyH.nil
        go_simp
        refine (leq_at a ab true R5.out _).mono ?_
        rintro e v6 ⟨rfl, b⟩
        have Y6 := Lib.hid (Boxes.keep b Y5.out)
        have C6 := Lib.hid (thru C5.out b)
        clear b Y5 C5
        refine hK.out _ _ (⟨Lv.cells Y6.out.2.2.2.2.2.2.1, Lv.cells Y6.out.2.2.2.2.2.2.2.1, Lv.cells Y6.out.2.2.2.2.2.2.2.2.1, Lv.cells Y6.out.2.2.2.2.2.1⟩) (fun hHeld => ?_)
        clear hK K
        try simp only [List.getElem_toArray, List.getElem_cons_succ, List.getElem_cons_zero, Act.put, List.setIfInBounds_toArray, List.set_cons_zero, List.set_cons_succ]
        refine wpAnyH_take (i := 24) (v := ?vr24) rfl (by kernel_rfl) (by kernel_rfl) (by kernel_rfl) (fun _ _ _ h => h) (Or.inl ⟨by rfl, ?hyr24⟩) (by assumption) ?restr24
        case hyr24 => (intro w hSw; (try dsimp only at hSw); go_simp <;> with_reducible rfl)
        try simp only [List.getElem_toArray, List.getElem_cons_succ, List.getElem_cons_zero, Act.put, List.setIfInBounds_toArray, List.set_cons_zero, List.set_cons_succ]
        refine wpAnyH_take (i := 25) (v := ?vr25) rfl (by kernel_rfl) (by kernel_rfl) (by kernel_rfl) (fun _ _ _ h => h) (Or.inl ⟨by rfl, ?hyr25⟩) (by assumption) ?restr25
        case hyr25 => (intro w hSw; (try dsimp only at hSw); go_simp <;> with_reducible rfl)
        try simp only [List.getElem_toArray, List.getElem_cons_succ, List.getElem_cons_zero, Act.put, List.setIfInBounds_toArray, List.set_cons_zero, List.set_cons_succ]
        refine wpAnyH_take (i := 26) (v := ?vr26) rfl (by kernel_rfl) (by kernel_rfl) (by kernel_rfl) (fun _ _ _ h => h) (Or.inl ⟨by rfl, ?hyr26⟩) (by assumption) ?restr26
        case hyr26 => (intro w hSw; (try dsimp only at hSw); go_simp <;> with_reducible rfl)
        try simp only [List.getElem_toArray, List.getElem_cons_succ, List.getElem_cons_zero, Act.put, List.setIfInBounds_toArray, List.set_cons_zero, List.set_cons_succ]
        refine wpAnyH_take (i := 27) (v := ?vr27) rfl (by kernel_rfl) (by kernel_rfl) (by kernel_rfl) (fun _ _ _ h => h) (Or.inl ⟨by rfl, ?hyr27⟩) (by assumption) ?restr27
        case hyr27 => (intro w hSw; (try dsimp only at hSw); go_simp <;> with_reducible rfl)
        try simp only [List.getElem_toArray, List.getElem_cons_succ, List.getElem_cons_zero, Act.put, List.setIfInBounds_toArray, List.set_cons_zero, List.set_cons_succ]
        refine wpAnyH_take (i := 28) (v := ?vr28) rfl (by kernel_rfl) (by kernel_rfl) (by kernel_rfl) (fun _ _ _ h => h) (Or.inl ⟨by rfl, ?hyr28⟩) (by assumption) ?restr28
        case hyr28 => (intro w hSw; (try dsimp only at hSw); go_simp <;> with_reducible rfl)
        try simp only [List.getElem_toArray, List.getElem_cons_succ, List.getElem_cons_zero, Act.put, List.setIfInBounds_toArray, List.set_cons_zero, List.set_cons_succ]
        refine wpAnyH_ready (rs := [29]) (by kernel_rfl) (by simp) ?_
        refine AllReadyH.cons rfl (fun K hK => ?_) AllReadyH.nil
        go_simp
        refine (leq_at b ab true R6.out _).mono ?_
        rintro e v7 ⟨rfl, b⟩
        have Y7 := Lib.hid (Boxes.keep b Y6.out)
        have C7 := Lib.hid (thru C6.out b)
        clear b Y6 C6
        refine hK.out _ _ (⟨Lv.cells Y7.out.2.2.2.2.2.2.1, Lv.cells Y7.out.2.2.2.2.2.2.2.1, Lv.cells Y7.out.2.2.2.2.2.2.2.2.1, Lv.cells Y7.out.2.2.2.2.2.1⟩) (fun hHeld => ?_)
        clear hK K
        try simp only [List.getElem_toArray, List.getElem_cons_succ, List.getElem_cons_zero, Act.put, List.setIfInBounds_toArray, List.set_cons_zero, List.set_cons_succ]
        refine wpAnyH_take (i := 30) (v := ?vr30) rfl (by kernel_rfl) (by kernel_rfl) (by kernel_rfl) (fun _ _ _ h => h) (Or.inl ⟨by rfl, ?hyr30⟩) (by assumption) ?restr30
        case hyr30 => (intro w hSw; (try dsimp only at hSw); go_simp <;> with_reducible rfl)
        try simp only [List.getElem_toArray, List.getElem_cons_succ, List.getElem_cons_zero, Act.put, List.setIfInBounds_toArray, List.set_cons_zero, List.set_cons_succ]
        refine wpAnyH_take (i := 31) (v := ?vr31) rfl (by kernel_rfl) (by kernel_rfl) (by kernel_rfl) (fun _ _ _ h => h) (Or.inl ⟨by rfl, ?hyr31⟩) (by assumption) ?restr31
        case hyr31 => (intro w hSw; (try dsimp only at hSw); go_simp <;> with_reducible rfl)
        try simp only [List.getElem_toArray, List.getElem_cons_succ, List.getElem_cons_zero, Act.put, List.setIfInBounds_toArray, List.set_cons_zero, List.set_cons_succ]
        refine wpAnyH_done (by kernel_rfl) ?_ _
        go_wp2_with fail
        go_meet
        exact ⟨rfl, Y7.out, C7.out⟩
  case rest =>
    obtain ⟨rfl, hX, hB⟩ := hcut
    obtain ⟨w10, rfl⟩ : ∃ v : World, v = wc := ⟨_, rfl⟩
    have X10 := Lib.hid hX
    have B10 := Lib.hid hB
    clear hX hB
    go_upto_region 13 with fail
    go_cut [153] (fun s wx => s = .bool false ∧ Kept w [(w9.heap.size, a.box), (w8.heap.size, x.box), (w7.heap.size, x.box), (w6.heap.size, bc.box), (w5.heap.size, ab.box), (w4.heap.size, ab.box), (w.heap.size, a.box), (w.heap.size + 1, b.box), (w.heap.size + 1 + 1, c.box)] wx)
    case first =>
      have Y0 := Lib.hid (Boxes.drew X10.out)
      have C0 := Lib.hid B10.out.drew
      clear X10 B10
      obtain ⟨r3, h3⟩ : ∃ r, leq a c = r := ⟨_, rfl⟩
      obtain ⟨r2, h2⟩ : ∃ r, leq b c = r := ⟨_, rfl⟩
      have h4 : r3 = true → leq ab c = r2 := fun e => by rw [← h2, Bool.eq_iff_iff, leq_iff Hab.out Hc.out, leq_iff Hb.out Hc.out]; exact (HL.out.2.2 ((leq_iff Ha.out Hc.out).1 (h3.trans e))).symm
      have R2 := Lib.hid h2
      have R3 := Lib.hid h3
      have R4 := Lib.hid h4
      clear h2 h3 h4
      cases r3
      · clear R2 R4
        refine wp_region_held_drew (S := (fun w' => (w'.cell? ⟨w.heap.size, 0, none⟩ = some (.int .i64 a.c) ∧ w'.cell? ⟨w.heap.size, 1, none⟩ = some (.int .i64 a.p0) ∧ w'.cell? ⟨w.heap.size, 2, none⟩ = some (.int .i64 a.p1) ∧ w'.cell? ⟨w.heap.size, 3, none⟩ = some (.int .i64 a.p2) ∧ w'.cell? ⟨w.heap.size, 4, none⟩ = some (.int .i64 a.p3)) ∧ (w'.cell? ⟨w.heap.size + 1, 0, none⟩ = some (.int .i64 b.c) ∧ w'.cell? ⟨w.heap.size + 1, 1, none⟩ = some (.int .i64 b.p0) ∧ w'.cell? ⟨w.heap.size + 1, 2, none⟩ = some (.int .i64 b.p1) ∧ w'.cell? ⟨w.heap.size + 1, 3, none⟩ = some (.int .i64 b.p2) ∧ w'.cell? ⟨w.heap.size + 1, 4, none⟩ = some (.int .i64 b.p3)) ∧ (w'.cell? ⟨w.heap.size + 1 + 1, 0, none⟩ = some (.int .i64 c.c) ∧ w'.cell? ⟨w.heap.size + 1 + 1, 1, none⟩ = some (.int .i64 c.p0) ∧ w'.cell? ⟨w.heap.size + 1 + 1, 2, none⟩ = some (.int .i64 c.p1) ∧ w'.cell? ⟨w.heap.size + 1 + 1, 3, none⟩ = some (.int .i64 c.p2) ∧ w'.cell? ⟨w.heap.size + 1 + 1, 4, none⟩ = some (.int .i64 c.p3)) ∧ (w'.cell? ⟨w4.heap.size, 0, none⟩ = some (.int .i64 ab.c) ∧ w'.cell? ⟨w4.heap.size, 1, none⟩ = some (.int .i64 ab.p0) ∧ w'.cell? ⟨w4.heap.size, 2, none⟩ = some (.int .i64 ab.p1) ∧ w'.cell? ⟨w4.heap.size, 3, none⟩ = some (.int .i64 ab.p2) ∧ w'.cell? ⟨w4.heap.size, 4, none⟩ = some (.int .i64 ab.p3)))) (by kernel_rfl) (⟨Lv.cells Y0.out.2.2.2.2.2.2.1, Lv.cells Y0.out.2.2.2.2.2.2.2.1, Lv.cells Y0.out.2.2.2.2.2.2.2.2.1, Lv.cells Y0.out.2.2.2.2.2.1⟩) (fun hHeld => ?_)
        refine wpAnyH_take (i := 0) (v := ?vs0) rfl (by kernel_rfl) (by kernel_rfl) (by kernel_rfl) (fun _ _ _ h => h) (Or.inl ⟨by rfl, ?hys0⟩) (by assumption) ?rests0
        case hys0 => (intro w hSw; (try dsimp only at hSw); go_simp <;> with_reducible rfl)
        try simp only [List.getElem_toArray, List.getElem_cons_zero, Act.put, List.setIfInBounds_toArray, List.set_cons_zero, List.set_cons_succ]
        refine wpAnyH_take (i := 1) (v := ?vs1) rfl (by kernel_rfl) (by kernel_rfl) (by kernel_rfl) (fun _ _ _ h => h) (Or.inl ⟨by rfl, ?hys1⟩) (by assumption) ?rests1
        case hys1 => (intro w hSw; (try dsimp only at hSw); go_simp <;> with_reducible rfl)
        try simp only [List.getElem_toArray, List.getElem_cons_succ, List.getElem_cons_zero, Act.put, List.setIfInBounds_toArray, List.set_cons_zero, List.set_cons_succ]
        refine wpAnyH_ready (rs := [2]) (by kernel_rfl) (by simp) ?_
        refine AllReadyH.cons rfl (fun K hK => ?_) AllReadyH.nil
        go_simp
        refine (leq_at a c false R3.out _).mono ?_
        rintro e v1 ⟨rfl, b⟩
        have Y1 := Lib.hid (Boxes.keep b Y0.out)
        have C1 := Lib.hid (thru C0.out b)
        clear b Y0 C0
        refine hK.out _ _ (⟨Lv.cells Y1.out.2.2.2.2.2.2.1, Lv.cells Y1.out.2.2.2.2.2.2.2.1, Lv.cells Y1.out.2.2.2.2.2.2.2.2.1, Lv.cells Y1.out.2.2.2.2.2.1⟩) (fun hHeld => ?_)
        clear hK K
        try simp only [List.getElem_toArray, List.getElem_cons_succ, List.getElem_cons_zero, Act.put, List.setIfInBounds_toArray, List.set_cons_zero, List.set_cons_succ]
        refine wpAnyH_take (i := 3) (v := ?vs3) rfl (by kernel_rfl) (by kernel_rfl) (by kernel_rfl) (fun _ _ _ h => h) (Or.inl ⟨by rfl, ?hys3⟩) (by assumption) ?rests3
        case hys3 => (intro w hSw; (try dsimp only at hSw); go_simp <;> with_reducible rfl)
        try simp only [List.getElem_toArray, List.getElem_cons_succ, List.getElem_cons_zero, Act.put, List.setIfInBounds_toArray, List.set_cons_zero, List.set_cons_succ]
        refine wpAnyH_take (i := 4) (v := undef) rfl (by kernel_rfl) (by kernel_rfl) (by kernel_rfl) (fun _ _ _ h => h) (Or.inr ⟨by rfl, rfl⟩) (by assumption) ?_
        try simp only [List.getElem_toArray, List.getElem_cons_succ, List.getElem_cons_zero, Act.put, List.setIfInBounds_toArray, List.set_cons_zero, List.set_cons_succ]
        refine wpAnyH_take (i := 5) (v := undef) rfl (by kernel_rfl) (by kernel_rfl) (by kernel_rfl) (fun _ _ _ h => h) (Or.inr ⟨by rfl, rfl⟩) (by assumption) ?_
        try simp only [List.getElem_toArray, List.getElem_cons_succ, List.getElem_cons_zero, Act.put, List.setIfInBounds_toArray, List.set_cons_zero, List.set_cons_succ]
        refine wpAnyH_take (i := 7) (v := undef) rfl (by kernel_rfl) (by kernel_rfl) (by kernel_rfl) (fun _ _ _ h => h) (Or.inr ⟨by rfl, rfl⟩) (by assumption) ?_
        try simp only [List.getElem_toArray, List.getElem_cons_succ, List.getElem_cons_zero, Act.put, List.setIfInBounds_toArray, List.set_cons_zero, List.set_cons_succ]
        refine wpAnyH_take (i := 8) (v := undef) rfl (by kernel_rfl) (by kernel_rfl) (by kernel_rfl) (fun _ _ _ h => h) (Or.inr ⟨by rfl, rfl⟩) (by assumption) ?_
        try simp only [List.getElem_toArray, List.getElem_cons_succ, List.getElem_cons_zero, Act.put, List.setIfInBounds_toArray, List.set_cons_zero, List.set_cons_succ]
        refine wpAnyH_take (i := 6) (v := undef) rfl (by kernel_rfl) (by kernel_rfl) (by kernel_rfl) (fun _ _ _ h => h) (Or.inr ⟨by rfl, rfl⟩) (by assumption) ?_
        try simp only [List.getElem_toArray, List.getElem_cons_succ, List.getElem_cons_zero, Act.put, List.setIfInBounds_toArray, List.set_cons_zero, List.set_cons_succ]
        refine wpAnyH_take (i := 9) (v := undef) rfl (by kernel_rfl) (by kernel_rfl) (by kernel_rfl) (fun _ _ _ h => h) (Or.inr ⟨by rfl, rfl⟩) (by assumption) ?_
        try simp only [List.getElem_toArray, List.getElem_cons_succ, List.getElem_cons_zero, Act.put, List.setIfInBounds_toArray, List.set_cons_zero, List.set_cons_succ]
        refine wpAnyH_take (i := 10) (v := undef) rfl (by kernel_rfl) (by kernel_rfl) (by kernel_rfl) (fun _ _ _ h => h) (Or.inr ⟨by rfl, rfl⟩) (by assumption) ?_
        try simp only [List.getElem_toArray, List.getElem_cons_succ, List.getElem_cons_zero, Act.put, List.setIfInBounds_toArray, List.set_cons_zero, List.set_cons_succ]
        refine wpAnyH_take (i := 11) (v := ?vs11) rfl (by kernel_rfl) (by kernel_rfl) (by kernel_rfl) (fun _ _ _ h => h) (Or.inl ⟨by rfl, ?hys11⟩) (by assumption) ?rests11
        case hys11 => (intro w hSw; (try dsimp only at hSw); go_simp <;> with_reducible rfl)
        try simp only [List.getElem_toArray, List.getElem_cons_succ, List.getElem_cons_zero, Act.put, List.setIfInBounds_toArray, List.set_cons_zero, List.set_cons_succ]
        refine wpAnyH_done (by kernel_rfl) ?_ _
        go_wp2_with fail
        go_meet
        exact ⟨rfl, Y1.out, C1.out⟩
      ·
        refine wp_region_held_drew (S := (fun w' => (w'.cell? ⟨w.heap.size, 0, none⟩ = some (.int .i64 a.c) ∧ w'.cell? ⟨w.heap.size, 1, none⟩ = some (.int .i64 a.p0) ∧ w'.cell? ⟨w.heap.size, 2, none⟩ = some (.int .i64 a.p1) ∧ w'.cell? ⟨w.heap.size, 3, none⟩ = some (.int .i64 a.p2) ∧ w'.cell? ⟨w.heap.size, 4, none⟩ = some (.int .i64 a.p3)) ∧ (w'.cell? ⟨w.heap.size + 1, 0, none⟩ = some (.int .i64 b.c) ∧ w'.cell? ⟨w.heap.size + 1, 1, none⟩ = some (.int .i64 b.p0) ∧ w'.cell? ⟨w.heap.size + 1, 2, none⟩ = some (.int .i64 b.p1) ∧ w'.cell? ⟨w.heap.size + 1, 3, none⟩ = some (.int .i64 b.p2) ∧ w'.cell? ⟨w.heap.size + 1, 4, none⟩ = some (.int .i64 b.p3)) ∧ (w'.cell? ⟨w.heap.size + 1 + 1, 0, none⟩ = some (.int .i64 c.c) ∧ w'.cell? ⟨w.heap.size + 1 + 1, 1, none⟩ = some (.int .i64 c.p0) ∧ w'.cell? ⟨w.heap.size + 1 + 1, 2, none⟩ = some (.int .i64 c.p1) ∧ w'.cell? ⟨w.heap.size + 1 + 1, 3, none⟩ = some (.int .i64 c.p2) ∧ w'.cell? ⟨w.heap.size + 1 + 1, 4, none⟩ = some (.int .i64 c.p3)) ∧ (w'.cell? ⟨w4.heap.size, 0, none⟩ = some (.int .i64 ab.c) ∧ w'.cell? ⟨w4.heap.size, 1, none⟩ = some (.int .i64 ab.p0) ∧ w'.cell? ⟨w4.heap.size, 2, none⟩ = some (.int .i64 ab.p1) ∧ w'.cell? ⟨w4.heap.size, 3, none⟩ = some (.int .i64 ab.p2) ∧ w'.cell? ⟨w4.heap.size, 4, none⟩ = some (.int .i64 ab.p3)))) (by kernel_rfl) (⟨Lv.cells Y0.out.2.2.2.2.2.2.1, Lv.cells Y0.out.2.2.2.2.2.2.2.1, Lv.cells Y0.out.2.2.2.2.2.2.2.2.1, Lv.cells Y0.out.2.2.2.2.2.1⟩) (fun hHeld => ?_)
        refine wpAnyH_take (i := 0) (v := ?vt0) rfl (by kernel_rfl) (by kernel_rfl) (by kernel_rfl) (fun _ _ _ h => h) (Or.inl ⟨by rfl, ?hyt0⟩) (by assumption) ?restt0
        case hyt0 => (intro w hSw; (try dsimp only at hSw); go_simp <;> with_reducible rfl)
        try simp only [List.getElem_toArray, List.getElem_cons_zero, Act.put, List.setIfInBounds_toArray, List.set_cons_zero, List.set_cons_succ]
        refine wpAnyH_take (i := 1) (v := ?vt1) rfl (by kernel_rfl) (by kernel_rfl) (by kernel_rfl) (fun _ _ _ h => h) (Or.inl ⟨by rfl, ?hyt1⟩) (by assumption) ?restt1
        case hyt1 => (intro w hSw; (try dsimp only at hSw); go_simp <;> with_reducible rfl)
        try simp only [List.getElem_toArray, List.getElem_cons_succ, List.getElem_cons_zero, Act.put, List.setIfInBounds_toArray, List.set_cons_zero, List.set_cons_succ]
        refine wpAnyH_ready (rs := [2]) (by kernel_rfl) (by simp) ?_
        refine AllReadyH.cons rfl (fun K hK => ?_) AllReadyH.nil
        go_simp
        refine (leq_at a c true R3.out _).mono ?_
        rintro e v1 ⟨rfl, b⟩
        have Y1 := Lib.hid (Boxes.keep b Y0.out)
        have C1 := Lib.hid (thru C0.out b)
        clear b Y0 C0
        refine hK.out _ _ (⟨Lv.cells Y1.out.2.2.2.2.2.2.1, Lv.cells Y1.out.2.2.2.2.2.2.2.1, Lv.cells Y1.out.2.2.2.2.2.2.2.2.1, Lv.cells Y1.out.2.2.2.2.2.1⟩) (fun hHeld => ?_)
        clear hK K
        try simp only [List.getElem_toArray, List.getElem_cons_succ, List.getElem_cons_zero, Act.put, List.setIfInBounds_toArray, List.set_cons_zero, List.set_cons_succ]
        refine wpAnyH_take (i := 3) (v := ?vt3) rfl (by kernel_rfl) (by kernel_rfl) (by kernel_rfl) (fun _ _ _ h => h) (Or.inl ⟨by rfl, ?hyt3⟩) (by assumption) ?restt3
        case hyt3 => (intro w hSw; (try dsimp only at hSw); go_simp <;> with_reducible rfl)
        try simp only [List.getElem_toArray, List.getElem_cons_succ, List.getElem_cons_zero, Act.put, List.setIfInBounds_toArray, List.set_cons_zero, List.set_cons_succ]
        refine wpAnyH_take (i := 4) (v := ?vt4) rfl (by kernel_rfl) (by kernel_rfl) (by kernel_rfl) (fun _ _ _ h => h) (Or.inl ⟨by rfl, ?hyt4⟩) (by assumption) ?restt4
        case hyt4 => (intro w hSw; (try dsimp only at hSw); go_simp <;> with_reducible rfl)
        try simp only [List.getElem_toArray, List.getElem_cons_succ, List.getElem_cons_zero, Act.put, List.setIfInBounds_toArray, List.set_cons_zero, List.set_cons_succ]
        refine wpAnyH_take (i := 5) (v := ?vt5) rfl (by kernel_rfl) (by kernel_rfl) (by kernel_rfl) (fun _ _ _ h => h) (Or.inl ⟨by rfl, ?hyt5⟩) (by assumption) ?restt5
        case hyt5 => (intro w hSw; (try dsimp only at hSw); go_simp <;> with_reducible rfl)
        try simp only [List.getElem_toArray, List.getElem_cons_succ, List.getElem_cons_zero, Act.put, List.setIfInBounds_toArray, List.set_cons_zero, List.set_cons_succ]
        refine wpAnyH_take (i := 7) (v := ?vt7) rfl (by kernel_rfl) (by kernel_rfl) (by kernel_rfl) (fun _ _ _ h => h) (Or.inl ⟨by rfl, ?hyt7⟩) (by assumption) ?restt7
        case hyt7 => (intro w hSw; (try dsimp only at hSw); go_simp <;> with_reducible rfl)
        try simp only [List.getElem_toArray, List.getElem_cons_succ, List.getElem_cons_zero, Act.put, List.setIfInBounds_toArray, List.set_cons_zero, List.set_cons_succ]
        refine wpAnyH_take (i := 8) (v := ?vt8) rfl (by kernel_rfl) (by kernel_rfl) (by kernel_rfl) (fun _ _ _ h => h) (Or.inl ⟨by rfl, ?hyt8⟩) (by assumption) ?restt8
        case hyt8 => (intro w hSw; (try dsimp only at hSw); go_simp <;> with_reducible rfl)
        try simp only [List.getElem_toArray, List.getElem_cons_succ, List.getElem_cons_zero, Act.put, List.setIfInBounds_toArray, List.set_cons_zero, List.set_cons_succ]
        refine wpAnyH_ready (rs := [6]) (by kernel_rfl) (by simp) ?_
        refine AllReadyH.cons rfl (fun K hK => ?_) AllReadyH.nil
        go_simp
        refine (leq_at b c r2 R2.out _).mono ?_
        rintro e v2 ⟨rfl, b⟩
        have Y2 := Lib.hid (Boxes.keep b Y1.out)
        have C2 := Lib.hid (thru C1.out b)
        clear b Y1 C1
        refine hK.out _ _ (⟨Lv.cells Y2.out.2.2.2.2.2.2.1, Lv.cells Y2.out.2.2.2.2.2.2.2.1, Lv.cells Y2.out.2.2.2.2.2.2.2.2.1, Lv.cells Y2.out.2.2.2.2.2.1⟩) (fun hHeld => ?_)
        clear hK K
        try simp only [List.getElem_toArray, List.getElem_cons_succ, List.getElem_cons_zero, Act.put, List.setIfInBounds_toArray, List.set_cons_zero, List.set_cons_succ]
        refine wpAnyH_ready (rs := [9]) (by kernel_rfl) (by simp) ?_
        refine AllReadyH.cons rfl (fun K hK => ?_) AllReadyH.nil
        go_simp
        refine (leq_at ab c r2 (R4.out rfl) _).mono ?_
        rintro e v3 ⟨rfl, b⟩
        have Y3 := Lib.hid (Boxes.keep b Y2.out)
        have C3 := Lib.hid (thru C2.out b)
        clear b Y2 C2
        refine hK.out _ _ (⟨Lv.cells Y3.out.2.2.2.2.2.2.1, Lv.cells Y3.out.2.2.2.2.2.2.2.1, Lv.cells Y3.out.2.2.2.2.2.2.2.2.1, Lv.cells Y3.out.2.2.2.2.2.1⟩) (fun hHeld => ?_)
        clear hK K
        try simp only [List.getElem_toArray, List.getElem_cons_succ, List.getElem_cons_zero, Act.put, List.setIfInBounds_toArray, List.set_cons_zero, List.set_cons_succ]
        refine wpAnyH_take (i := 10) (v := ?vt10) rfl (by kernel_rfl) (by kernel_rfl) (by kernel_rfl) (fun _ _ _ h => h) (Or.inl ⟨by rfl, ?hyt10⟩) (by assumption) ?restt10
        case hyt10 => (intro w hSw; (try dsimp only at hSw); go_simp <;> with_reducible rfl)
        try simp only [List.getElem_toArray, List.getElem_cons_succ, List.getElem_cons_zero, Act.put, List.setIfInBounds_toArray, List.set_cons_zero, List.set_cons_succ]
        refine wpAnyH_take (i := 11) (v := ?vt11) rfl (by kernel_rfl) (by kernel_rfl) (by kernel_rfl) (fun _ _ _ h => h) (Or.inl ⟨by rfl, ?hyt11⟩) (by assumption) ?restt11
        case hyt11 => (intro w hSw; (try dsimp only at hSw); go_simp <;> with_reducible rfl)
        try simp only [List.getElem_toArray, List.getElem_cons_succ, List.getElem_cons_zero, Act.put, List.setIfInBounds_toArray, List.set_cons_zero, List.set_cons_succ]
        refine wpAnyH_done (by kernel_rfl) ?_ _
        go_wp2_with fail
        go_meet
        exact ⟨by simp, Y3.out, C3.out⟩
    case rest =>
      obtain ⟨rfl, hX, hB⟩ := hcut
      obtain ⟨w11, rfl⟩ : ∃ v : World, v = wc := ⟨_, rfl⟩
      have X11 := Lib.hid hX
      have B11 := Lib.hid hB
      clear hX hB
      obtain ⟨a11_0, a11_1, a11_2, a11_3, a11_4⟩ := Lv.cells (X11.out.2.2.2.2.2.2.1)
      have a11z := lt_of (X11.out.2.2.2.2.2.2.1)
      go_wp2_with fail
      rcases succ_ok Ha.out with ⟨sa, hs, hsa, esa⟩ | hs
      ·
        have HS := Lib.hid hs
        have HSA := Lib.hid hsa
        have HES := Lib.hid esa
        have HM := Lib.hid (succ_more Ha.out hsa esa)
        clear hs hsa esa
        have Q1 := Lib.hid ((leq_iff Ha.out HSA.out).2 HM.out.1)
        have Q2 : Hid (leq sa a = false) := Lib.hid (by rw [Bool.eq_false_iff]; exact fun h => HM.out.2 ((leq_iff HSA.out Ha.out).1 h))
        refine (succ_at a sa 0 HS.out _).mono ?_
        rintro e w12 ⟨rfl, b⟩
        have X12 := Lib.hid (Boxes.keep b X11.out)
        have B12 := Lib.hid (thru B11.out b)
        clear b X11 B11
        obtain ⟨b12_0, b12_1, b12_2, b12_3, b12_4⟩ := Lv.cells (X12.out.2.2.2.2.2.2.2.1)
        have b12z := lt_of (X12.out.2.2.2.2.2.2.2.1)
        dsimp only [Lv.val]
        go_wp2_with fail
        rcases succ_ok Hb.out with ⟨sb, ht, hsb, esb⟩ | ht
        ·
          have HT := Lib.hid ht
          obtain ⟨r, hr⟩ : ∃ r, leq a b = r := ⟨_, rfl⟩
          have R1 := Lib.hid hr
          have R2 : Hid (leq sa sb = r) := Lib.hid (by rw [← hr, Bool.eq_iff_iff, leq_iff HSA.out hsb, leq_iff Ha.out Hb.out]; exact (succ_leq Ha.out Hb.out HSA.out hsb HES.out esb).symm)
          clear ht hr hsb esb
          refine (succ_at b sb 0 HT.out _).mono ?_
          rintro e w13 ⟨rfl, b⟩
          have X13 := Lib.hid (Boxes.keep b (Boxes.add X12.out sa.box))
          have B13 := Lib.hid (thru (below_a B12.out _) b)
          clear b X12 B12
          obtain ⟨a13_0, a13_1, a13_2, a13_3, a13_4⟩ := Lv.cells (X13.out.2.2.2.2.2.2.2.1)
          obtain ⟨s13_0, s13_1, s13_2, s13_3, s13_4⟩ := Lv.cells (X13.out.1)
          have a13z := lt_of (X13.out.2.2.2.2.2.2.2.1)
          have s13z := lt_of (X13.out.1)
          dsimp only [Lv.val]
          go_wp2_with fail
          refine (leq_at a sa true Q1.out _).mono ?_
          rintro e w14 ⟨rfl, b⟩
          have X14 := Lib.hid (Boxes.keep b (Boxes.add X13.out sb.box))
          have B14 := Lib.hid (thru (below_a B13.out _) b)
          clear b X13 B13
          obtain ⟨a14_0, a14_1, a14_2, a14_3, a14_4⟩ := Lv.cells (X14.out.2.2.2.2.2.2.2.2.1)
          obtain ⟨s14_0, s14_1, s14_2, s14_3, s14_4⟩ := Lv.cells (X14.out.2.1)
          have a14z := lt_of (X14.out.2.2.2.2.2.2.2.2.1)
          have s14z := lt_of (X14.out.2.1)
          go_wp2_with fail
          refine (leq_at sa a false Q2.out _).mono ?_
          rintro e w15 ⟨rfl, b⟩
          have X15 := Lib.hid (Boxes.keep b X14.out)
          have B15 := Lib.hid (thru B14.out b)
          clear b X14 B14
          go_wp2_with fail
          have Y0 := Lib.hid (Boxes.drew X15.out)
          have C0 := Lib.hid (B15.out).drew
          clear X15 B15
          refine wp_region_held_drew (S := (fun w' => (w'.cell? ⟨w.heap.size, 0, none⟩ = some (.int .i64 a.c) ∧ w'.cell? ⟨w.heap.size, 1, none⟩ = some (.int .i64 a.p0) ∧ w'.cell? ⟨w.heap.size, 2, none⟩ = some (.int .i64 a.p1) ∧ w'.cell? ⟨w.heap.size, 3, none⟩ = some (.int .i64 a.p2) ∧ w'.cell? ⟨w.heap.size, 4, none⟩ = some (.int .i64 a.p3)) ∧ (w'.cell? ⟨w.heap.size + 1, 0, none⟩ = some (.int .i64 b.c) ∧ w'.cell? ⟨w.heap.size + 1, 1, none⟩ = some (.int .i64 b.p0) ∧ w'.cell? ⟨w.heap.size + 1, 2, none⟩ = some (.int .i64 b.p1) ∧ w'.cell? ⟨w.heap.size + 1, 3, none⟩ = some (.int .i64 b.p2) ∧ w'.cell? ⟨w.heap.size + 1, 4, none⟩ = some (.int .i64 b.p3)) ∧ (w'.cell? ⟨w12.heap.size, 0, none⟩ = some (.int .i64 sa.c) ∧ w'.cell? ⟨w12.heap.size, 1, none⟩ = some (.int .i64 sa.p0) ∧ w'.cell? ⟨w12.heap.size, 2, none⟩ = some (.int .i64 sa.p1) ∧ w'.cell? ⟨w12.heap.size, 3, none⟩ = some (.int .i64 sa.p2) ∧ w'.cell? ⟨w12.heap.size, 4, none⟩ = some (.int .i64 sa.p3)) ∧ (w'.cell? ⟨w13.heap.size, 0, none⟩ = some (.int .i64 sb.c) ∧ w'.cell? ⟨w13.heap.size, 1, none⟩ = some (.int .i64 sb.p0) ∧ w'.cell? ⟨w13.heap.size, 2, none⟩ = some (.int .i64 sb.p1) ∧ w'.cell? ⟨w13.heap.size, 3, none⟩ = some (.int .i64 sb.p2) ∧ w'.cell? ⟨w13.heap.size, 4, none⟩ = some (.int .i64 sb.p3)))) (by kernel_rfl) (⟨Lv.cells Y0.out.2.2.2.2.2.2.2.2.1, Lv.cells Y0.out.2.2.2.2.2.2.2.2.2.1, Lv.cells Y0.out.2.1, Lv.cells Y0.out.1⟩) (fun hHeld => ?_)
          refine wpAnyH_take (i := 0) (v := ?vu0) rfl (by kernel_rfl) (by kernel_rfl) (by kernel_rfl) (fun _ _ _ h => h) (Or.inl ⟨by rfl, ?hyu0⟩) (by assumption) ?restu0
          case hyu0 => (intro w hSw; (try dsimp only at hSw); go_simp <;> with_reducible rfl)
          try simp only [List.getElem_toArray, List.getElem_cons_zero, Act.put, List.setIfInBounds_toArray, List.set_cons_zero, List.set_cons_succ]
          refine wpAnyH_take (i := 1) (v := ?vu1) rfl (by kernel_rfl) (by kernel_rfl) (by kernel_rfl) (fun _ _ _ h => h) (Or.inl ⟨by rfl, ?hyu1⟩) (by assumption) ?restu1
          case hyu1 => (intro w hSw; (try dsimp only at hSw); go_simp <;> with_reducible rfl)
          try simp only [List.getElem_toArray, List.getElem_cons_succ, List.getElem_cons_zero, Act.put, List.setIfInBounds_toArray, List.set_cons_zero, List.set_cons_succ]
          refine wpAnyH_take (i := 2) (v := ?vu2) rfl (by kernel_rfl) (by kernel_rfl) (by kernel_rfl) (fun _ _ _ h => h) (Or.inl ⟨by rfl, ?hyu2⟩) (by assumption) ?restu2
          case hyu2 => (intro w hSw; (try dsimp only at hSw); go_simp <;> with_reducible rfl)
          try simp only [List.getElem_toArray, List.getElem_cons_succ, List.getElem_cons_zero, Act.put, List.setIfInBounds_toArray, List.set_cons_zero, List.set_cons_succ]
          refine wpAnyH_take (i := 3) (v := ?vu3) rfl (by kernel_rfl) (by kernel_rfl) (by kernel_rfl) (fun _ _ _ h => h) (Or.inl ⟨by rfl, ?hyu3⟩) (by assumption) ?restu3
          case hyu3 => (intro w hSw; (try dsimp only at hSw); go_simp <;> with_reducible rfl)
          try simp only [List.getElem_toArray, List.getElem_cons_succ, List.getElem_cons_zero, Act.put, List.setIfInBounds_toArray, List.set_cons_zero, List.set_cons_succ]
          refine wpAnyH_take (i := 4) (v := ?vu4) rfl (by kernel_rfl) (by kernel_rfl) (by kernel_rfl) (fun _ _ _ h => h) (Or.inl ⟨by rfl, ?hyu4⟩) (by assumption) ?restu4
          case hyu4 => (intro w hSw; (try dsimp only at hSw); go_simp <;> with_reducible rfl)
          try simp only [List.getElem_toArray, List.getElem_cons_succ, List.getElem_cons_zero, Act.put, List.setIfInBounds_toArray, List.set_cons_zero, List.set_cons_succ]
          refine wpAnyH_take (i := 5) (v := ?vu5) rfl (by kernel_rfl) (by kernel_rfl) (by kernel_rfl) (fun _ _ _ h => h) (Or.inl ⟨by rfl, ?hyu5⟩) (by assumption) ?restu5
          case hyu5 => (intro w hSw; (try dsimp only at hSw); go_simp <;> with_reducible rfl)
          try simp only [List.getElem_toArray, List.getElem_cons_succ, List.getElem_cons_zero, Act.put, List.setIfInBounds_toArray, List.set_cons_zero, List.set_cons_succ]
          refine wpAnyH_take (i := 6) (v := ?vu6) rfl (by kernel_rfl) (by kernel_rfl) (by kernel_rfl) (fun _ _ _ h => h) (Or.inl ⟨by rfl, ?hyu6⟩) (by assumption) ?restu6
          case hyu6 => (intro w hSw; (try dsimp only at hSw); go_simp <;> with_reducible rfl)
          try simp only [List.getElem_toArray, List.getElem_cons_succ, List.getElem_cons_zero, Act.put, List.setIfInBounds_toArray, List.set_cons_zero, List.set_cons_succ]
          refine wpAnyH_take (i := 7) (v := ?vu7) rfl (by kernel_rfl) (by kernel_rfl) (by kernel_rfl) (fun _ _ _ h => h) (Or.inl ⟨by rfl, ?hyu7⟩) (by assumption) ?restu7
          case hyu7 => (intro w hSw; (try dsimp only at hSw); go_simp <;> with_reducible rfl)
          try simp only [List.getElem_toArray, List.getElem_cons_succ, List.getElem_cons_zero, Act.put, List.setIfInBounds_toArray, List.set_cons_zero, List.set_cons_succ]
          refine wpAnyH_take (i := 8) (v := ?vu8) rfl (by kernel_rfl) (by kernel_rfl) (by kernel_rfl) (fun _ _ _ h => h) (Or.inl ⟨by rfl, ?hyu8⟩) (by assumption) ?restu8
          case hyu8 => (intro w hSw; (try dsimp only at hSw); go_simp <;> with_reducible rfl)
          try simp only [List.getElem_toArray, List.getElem_cons_succ, List.getElem_cons_zero, Act.put, List.setIfInBounds_toArray, List.set_cons_zero, List.set_cons_succ]
          refine wpAnyH_take (i := 10) (v := ?vu10) rfl (by kernel_rfl) (by kernel_rfl) (by kernel_rfl) (fun _ _ _ h => h) (Or.inl ⟨by rfl, ?hyu10⟩) (by assumption) ?restu10
          case hyu10 => (intro w hSw; (try dsimp only at hSw); go_simp <;> with_reducible rfl)
          try simp only [List.getElem_toArray, List.getElem_cons_succ, List.getElem_cons_zero, Act.put, List.setIfInBounds_toArray, List.set_cons_zero, List.set_cons_succ]
          refine wpAnyH_take (i := 11) (v := ?vu11) rfl (by kernel_rfl) (by kernel_rfl) (by kernel_rfl) (fun _ _ _ h => h) (Or.inl ⟨by rfl, ?hyu11⟩) (by assumption) ?restu11
          case hyu11 => (intro w hSw; (try dsimp only at hSw); go_simp <;> with_reducible rfl)
          try simp only [List.getElem_toArray, List.getElem_cons_succ, List.getElem_cons_zero, Act.put, List.setIfInBounds_toArray, List.set_cons_zero, List.set_cons_succ]
          refine wpAnyH_ready (rs := [9]) (by kernel_rfl) (by simp) ?_
          refine AllReadyH.cons rfl (fun K hK => ?_) AllReadyH.nil
          go_simp
          refine (leq_at a b r R1.out _).mono ?_
          rintro e v1 ⟨rfl, b⟩
          have Y1 := Lib.hid (Boxes.keep b Y0.out)
          have C1 := Lib.hid (thru C0.out b)
          clear b Y0 C0
          refine hK.out _ _ (⟨Lv.cells Y1.out.2.2.2.2.2.2.2.2.1, Lv.cells Y1.out.2.2.2.2.2.2.2.2.2.1, Lv.cells Y1.out.2.1, Lv.cells Y1.out.1⟩) (fun hHeld => ?_)
          clear hK K
          try simp only [List.getElem_toArray, List.getElem_cons_succ, List.getElem_cons_zero, Act.put, List.setIfInBounds_toArray, List.set_cons_zero, List.set_cons_succ]
          refine wpAnyH_ready (rs := [12]) (by kernel_rfl) (by simp) ?_
          refine AllReadyH.cons rfl (fun K hK => ?_) AllReadyH.nil
          go_simp
          refine (leq_at sa sb r R2.out _).mono ?_
          rintro e v2 ⟨rfl, b⟩
          have Y2 := Lib.hid (Boxes.keep b Y1.out)
          have C2 := Lib.hid (thru C1.out b)
          clear b Y1 C1
          refine hK.out _ _ (⟨Lv.cells Y2.out.2.2.2.2.2.2.2.2.1, Lv.cells Y2.out.2.2.2.2.2.2.2.2.2.1, Lv.cells Y2.out.2.1, Lv.cells Y2.out.1⟩) (fun hHeld => ?_)
          clear hK K
          try simp only [List.getElem_toArray, List.getElem_cons_succ, List.getElem_cons_zero, Act.put, List.setIfInBounds_toArray, List.set_cons_zero, List.set_cons_succ]
          refine wpAnyH_take (i := 13) (v := ?vu13) rfl (by kernel_rfl) (by kernel_rfl) (by kernel_rfl) (fun _ _ _ h => h) (Or.inl ⟨by rfl, ?hyu13⟩) (by assumption) ?restu13
          case hyu13 => (intro w hSw; (try dsimp only at hSw); go_simp <;> with_reducible rfl)
          try simp only [List.getElem_toArray, List.getElem_cons_succ, List.getElem_cons_zero, Act.put, List.setIfInBounds_toArray, List.set_cons_zero, List.set_cons_succ]
          refine wpAnyH_take (i := 14) (v := ?vu14) rfl (by kernel_rfl) (by kernel_rfl) (by kernel_rfl) (fun _ _ _ h => h) (Or.inl ⟨by rfl, ?hyu14⟩) (by assumption) ?restu14
          case hyu14 => (intro w hSw; (try dsimp only at hSw); go_simp <;> with_reducible rfl)
          try simp only [List.getElem_toArray, List.getElem_cons_succ, List.getElem_cons_zero, Act.put, List.setIfInBounds_toArray, List.set_cons_zero, List.set_cons_succ]
          refine wpAnyH_take (i := 15) (v := ?vu15) rfl (by kernel_rfl) (by kernel_rfl) (by kernel_rfl) (fun _ _ _ h => h) (Or.inl ⟨by rfl, ?hyu15⟩) (by assumption) ?restu15
          case hyu15 => (intro w hSw; (try dsimp only at hSw); go_simp <;> with_reducible rfl)
          try simp only [List.getElem_toArray, List.getElem_cons_succ, List.getElem_cons_zero, Act.put, List.setIfInBounds_toArray, List.set_cons_zero, List.set_cons_succ]
          refine wpAnyH_ready (rs := [16]) (by kernel_rfl) (by simp) ?_
          refine AllReadyH.cons rfl (fun K hK => ?_) AllReadyH.nil
          go_simp
          refine (works_any _).mono ?_
          rintro e v3 ⟨rfl, b⟩
          have Y3 := Lib.hid (Boxes.keep b Y2.out)
          have C3 := Lib.hid (thru C2.out b)
          clear b Y2 C2
          refine hK.out _ _ (⟨Lv.cells Y3.out.2.2.2.2.2.2.2.2.1, Lv.cells Y3.out.2.2.2.2.2.2.2.2.2.1, Lv.cells Y3.out.2.1, Lv.cells Y3.out.1⟩) (fun hHeld => ?_)
          clear hK K
          try simp only [List.getElem_toArray, List.getElem_cons_succ, List.getElem_cons_zero, Act.put, List.setIfInBounds_toArray, List.set_cons_zero, List.set_cons_succ]
          refine wpAnyH_take (i := 17) (v := ?vu17) rfl (by kernel_rfl) (by kernel_rfl) (by kernel_rfl) (fun _ _ _ h => h) (Or.inl ⟨by rfl, ?hyu17⟩) (by assumption) ?restu17
          case hyu17 => (intro w hSw; (try dsimp only at hSw); go_simp <;> with_reducible rfl)
          try simp only [List.getElem_toArray, List.getElem_cons_succ, List.getElem_cons_zero, Act.put, List.setIfInBounds_toArray, List.set_cons_zero, List.set_cons_succ]
          refine wpAnyH_take (i := 18) (v := ?vu18) rfl (by kernel_rfl) (by kernel_rfl) (by kernel_rfl) (fun _ _ _ h => h) (Or.inl ⟨by rfl, ?hyu18⟩) (by assumption) ?restu18
          case hyu18 => (intro w hSw; (try dsimp only at hSw); go_simp <;> with_reducible rfl)
          try simp only [List.getElem_toArray, List.getElem_cons_succ, List.getElem_cons_zero, Act.put, List.setIfInBounds_toArray, List.set_cons_zero, List.set_cons_succ]
          refine wpAnyH_done (by kernel_rfl) ?_ _
          go_wp2_with fail
          go_ret
          exact ⟨by simp, C3.out⟩
        ·
          have HT := Lib.hid ht
          clear ht
          refine (succ_at b zero 4 HT.out _).mono ?_
          rintro e w13 ⟨rfl, b⟩
          have X13 := Lib.hid (Boxes.keep b (Boxes.add X12.out sa.box))
          have B13 := Lib.hid (thru (below_a B12.out _) b)
          clear b X12 B12
          obtain ⟨a13_0, a13_1, a13_2, a13_3, a13_4⟩ := Lv.cells (X13.out.2.2.2.2.2.2.2.1)
          obtain ⟨s13_0, s13_1, s13_2, s13_3, s13_4⟩ := Lv.cells (X13.out.1)
          have a13z := lt_of (X13.out.2.2.2.2.2.2.2.1)
          have s13z := lt_of (X13.out.1)
          dsimp only [Lv.val]
          go_wp2_with fail
          refine (leq_at a sa true Q1.out _).mono ?_
          rintro e w14 ⟨rfl, b⟩
          have X14 := Lib.hid (Boxes.keep b (Boxes.add X13.out zero.box))
          have B14 := Lib.hid (thru (below_a B13.out _) b)
          clear b X13 B13
          obtain ⟨a14_0, a14_1, a14_2, a14_3, a14_4⟩ := Lv.cells (X14.out.2.2.2.2.2.2.2.2.1)
          obtain ⟨s14_0, s14_1, s14_2, s14_3, s14_4⟩ := Lv.cells (X14.out.2.1)
          have a14z := lt_of (X14.out.2.2.2.2.2.2.2.2.1)
          have s14z := lt_of (X14.out.2.1)
          go_wp2_with fail
          refine (leq_at sa a false Q2.out _).mono ?_
          rintro e w15 ⟨rfl, b⟩
          have X15 := Lib.hid (Boxes.keep b X14.out)
          have B15 := Lib.hid (thru B14.out b)
          clear b X14 B14
          go_wp2_with fail
          have Y0 := Lib.hid (Boxes.drew X15.out)
          have C0 := Lib.hid (B15.out).drew
          clear X15 B15
          refine wp_region_held_drew (S := (fun w' => (w'.cell? ⟨w.heap.size, 0, none⟩ = some (.int .i64 a.c) ∧ w'.cell? ⟨w.heap.size, 1, none⟩ = some (.int .i64 a.p0) ∧ w'.cell? ⟨w.heap.size, 2, none⟩ = some (.int .i64 a.p1) ∧ w'.cell? ⟨w.heap.size, 3, none⟩ = some (.int .i64 a.p2) ∧ w'.cell? ⟨w.heap.size, 4, none⟩ = some (.int .i64 a.p3)))) (by kernel_rfl) (Lv.cells Y0.out.2.2.2.2.2.2.2.2.1) (fun hHeld => ?_)
          refine wpAnyH_take (i := 0) (v := ?vv0) rfl (by kernel_rfl) (by kernel_rfl) (by kernel_rfl) (fun _ _ _ h => h) (Or.inl ⟨by rfl, ?hyv0⟩) (by assumption) ?restv0
          case hyv0 => (intro w hSw; (try dsimp only at hSw); go_simp <;> with_reducible rfl)
          try simp only [List.getElem_toArray, List.getElem_cons_zero, Act.put, List.setIfInBounds_toArray, List.set_cons_zero, List.set_cons_succ]
          refine wpAnyH_take (i := 1) (v := ?vv1) rfl (by kernel_rfl) (by kernel_rfl) (by kernel_rfl) (fun _ _ _ h => h) (Or.inl ⟨by rfl, ?hyv1⟩) (by assumption) ?restv1
          case hyv1 => (intro w hSw; (try dsimp only at hSw); go_simp <;> with_reducible rfl)
          try simp only [List.getElem_toArray, List.getElem_cons_succ, List.getElem_cons_zero, Act.put, List.setIfInBounds_toArray, List.set_cons_zero, List.set_cons_succ]
          refine wpAnyH_take (i := 2) (v := ?vv2) rfl (by kernel_rfl) (by kernel_rfl) (by kernel_rfl) (fun _ _ _ h => h) (Or.inl ⟨by rfl, ?hyv2⟩) (by assumption) ?restv2
          case hyv2 => (intro w hSw; (try dsimp only at hSw); go_simp <;> with_reducible rfl)
          try simp only [List.getElem_toArray, List.getElem_cons_succ, List.getElem_cons_zero, Act.put, List.setIfInBounds_toArray, List.set_cons_zero, List.set_cons_succ]
          refine wpAnyH_take (i := 3) (v := ?vv3) rfl (by kernel_rfl) (by kernel_rfl) (by kernel_rfl) (fun _ _ _ h => h) (Or.inl ⟨by rfl, ?hyv3⟩) (by assumption) ?restv3
          case hyv3 => (intro w hSw; (try dsimp only at hSw); go_simp <;> with_reducible rfl)
          try simp only [List.getElem_toArray, List.getElem_cons_succ, List.getElem_cons_zero, Act.put, List.setIfInBounds_toArray, List.set_cons_zero, List.set_cons_succ]
          refine wpAnyH_take (i := 4) (v := ?vv4) rfl (by kernel_rfl) (by kernel_rfl) (by kernel_rfl) (fun _ _ _ h => h) (Or.inl ⟨by rfl, ?hyv4⟩) (by assumption) ?restv4
          case hyv4 => (intro w hSw; (try dsimp only at hSw); go_simp <;> with_reducible rfl)
          try simp only [List.getElem_toArray, List.getElem_cons_succ, List.getElem_cons_zero, Act.put, List.setIfInBounds_toArray, List.set_cons_zero, List.set_cons_succ]
          refine wpAnyH_take (i := 5) (v := ?vv5) rfl (by kernel_rfl) (by kernel_rfl) (by kernel_rfl) (fun _ _ _ h => h) (Or.inl ⟨by rfl, ?hyv5⟩) (by assumption) ?restv5
          case hyv5 => (intro w hSw; (try dsimp only at hSw); go_simp <;> with_reducible rfl)
          try simp only [List.getElem_toArray, List.getElem_cons_succ, List.getElem_cons_zero, Act.put, List.setIfInBounds_toArray, List.set_cons_zero, List.set_cons_succ]
          refine wpAnyH_take (i := 6) (v := ?vv6) rfl (by kernel_rfl) (by kernel_rfl) (by kernel_rfl) (fun _ _ _ h => h) (Or.inl ⟨by rfl, ?hyv6⟩) (by assumption) ?restv6
          case hyv6 => (intro w hSw; (try dsimp only at hSw); go_simp <;> with_reducible rfl)
          try simp only [List.getElem_toArray, List.getElem_cons_succ, List.getElem_cons_zero, Act.put, List.setIfInBounds_toArray, List.set_cons_zero, List.set_cons_succ]
          refine wpAnyH_take (i := 7) (v := undef) rfl (by kernel_rfl) (by kernel_rfl) (by kernel_rfl) (fun _ _ _ h => h) (Or.inr ⟨by rfl, rfl⟩) (by assumption) ?_
          try simp only [List.getElem_toArray, List.getElem_cons_succ, List.getElem_cons_zero, Act.put, List.setIfInBounds_toArray, List.set_cons_zero, List.set_cons_succ]
          refine wpAnyH_take (i := 8) (v := undef) rfl (by kernel_rfl) (by kernel_rfl) (by kernel_rfl) (fun _ _ _ h => h) (Or.inr ⟨by rfl, rfl⟩) (by assumption) ?_
          try simp only [List.getElem_toArray, List.getElem_cons_succ, List.getElem_cons_zero, Act.put, List.setIfInBounds_toArray, List.set_cons_zero, List.set_cons_succ]
          refine wpAnyH_take (i := 10) (v := undef) rfl (by kernel_rfl) (by kernel_rfl) (by kernel_rfl) (fun _ _ _ h => h) (Or.inr ⟨by rfl, rfl⟩) (by assumption) ?_
          try simp only [List.getElem_toArray, List.getElem_cons_succ, List.getElem_cons_zero, Act.put, List.setIfInBounds_toArray, List.set_cons_zero, List.set_cons_succ]
          refine wpAnyH_take (i := 11) (v := undef) rfl (by kernel_rfl) (by kernel_rfl) (by kernel_rfl) (fun _ _ _ h => h) (Or.inr ⟨by rfl, rfl⟩) (by assumption) ?_
          try simp only [List.getElem_toArray, List.getElem_cons_succ, List.getElem_cons_zero, Act.put, List.setIfInBounds_toArray, List.set_cons_zero, List.set_cons_succ]
          refine wpAnyH_take (i := 9) (v := undef) rfl (by kernel_rfl) (by kernel_rfl) (by kernel_rfl) (fun _ _ _ h => h) (Or.inr ⟨by rfl, rfl⟩) (by assumption) ?_
          try simp only [List.getElem_toArray, List.getElem_cons_succ, List.getElem_cons_zero, Act.put, List.setIfInBounds_toArray, List.set_cons_zero, List.set_cons_succ]
          refine wpAnyH_take (i := 12) (v := undef) rfl (by kernel_rfl) (by kernel_rfl) (by kernel_rfl) (fun _ _ _ h => h) (Or.inr ⟨by rfl, rfl⟩) (by assumption) ?_
          try simp only [List.getElem_toArray, List.getElem_cons_succ, List.getElem_cons_zero, Act.put, List.setIfInBounds_toArray, List.set_cons_zero, List.set_cons_succ]
          refine wpAnyH_take (i := 13) (v := undef) rfl (by kernel_rfl) (by kernel_rfl) (by kernel_rfl) (fun _ _ _ h => h) (Or.inr ⟨by rfl, rfl⟩) (by assumption) ?_
          try simp only [List.getElem_toArray, List.getElem_cons_succ, List.getElem_cons_zero, Act.put, List.setIfInBounds_toArray, List.set_cons_zero, List.set_cons_succ]
          refine wpAnyH_take (i := 14) (v := ?vv14) rfl (by kernel_rfl) (by kernel_rfl) (by kernel_rfl) (fun _ _ _ h => h) (Or.inl ⟨by rfl, ?hyv14⟩) (by assumption) ?restv14
          case hyv14 => (intro w hSw; (try dsimp only at hSw); go_simp <;> with_reducible rfl)
          try simp only [List.getElem_toArray, List.getElem_cons_succ, List.getElem_cons_zero, Act.put, List.setIfInBounds_toArray, List.set_cons_zero, List.set_cons_succ]
          refine wpAnyH_take (i := 15) (v := ?vv15) rfl (by kernel_rfl) (by kernel_rfl) (by kernel_rfl) (fun _ _ _ h => h) (Or.inl ⟨by rfl, ?hyv15⟩) (by assumption) ?restv15
          case hyv15 => (intro w hSw; (try dsimp only at hSw); go_simp <;> with_reducible rfl)
          try simp only [List.getElem_toArray, List.getElem_cons_succ, List.getElem_cons_zero, Act.put, List.setIfInBounds_toArray, List.set_cons_zero, List.set_cons_succ]
          refine wpAnyH_ready (rs := [16]) (by kernel_rfl) (by simp) ?_
          refine AllReadyH.cons rfl (fun K hK => ?_) AllReadyH.nil
          go_simp
          refine (works_any _).mono ?_
          rintro e v1 ⟨rfl, b⟩
          have Y1 := Lib.hid (Boxes.keep b Y0.out)
          have C1 := Lib.hid (thru C0.out b)
          clear b Y0 C0
          refine hK.out _ _ (Lv.cells Y1.out.2.2.2.2.2.2.2.2.1) (fun hHeld => ?_)
          clear hK K
          try simp only [List.getElem_toArray, List.getElem_cons_succ, List.getElem_cons_zero, Act.put, List.setIfInBounds_toArray, List.set_cons_zero, List.set_cons_succ]
          refine wpAnyH_take (i := 17) (v := ?vv17) rfl (by kernel_rfl) (by kernel_rfl) (by kernel_rfl) (fun _ _ _ h => h) (Or.inl ⟨by rfl, ?hyv17⟩) (by assumption) ?restv17
          case hyv17 => (intro w hSw; (try dsimp only at hSw); go_simp <;> with_reducible rfl)
          try simp only [List.getElem_toArray, List.getElem_cons_succ, List.getElem_cons_zero, Act.put, List.setIfInBounds_toArray, List.set_cons_zero, List.set_cons_succ]
          refine wpAnyH_take (i := 18) (v := ?vv18) rfl (by kernel_rfl) (by kernel_rfl) (by kernel_rfl) (fun _ _ _ h => h) (Or.inl ⟨by rfl, ?hyv18⟩) (by assumption) ?restv18
          case hyv18 => (intro w hSw; (try dsimp only at hSw); go_simp <;> with_reducible rfl)
          try simp only [List.getElem_toArray, List.getElem_cons_succ, List.getElem_cons_zero, Act.put, List.setIfInBounds_toArray, List.set_cons_zero, List.set_cons_succ]
          refine wpAnyH_done (by kernel_rfl) ?_ _
          go_wp2_with fail
          go_ret
          exact ⟨rfl, C1.out⟩
      ·
        have HS := Lib.hid hs
        clear hs
        obtain ⟨⟨sb, q⟩, ht⟩ : ∃ y, succ b = y := ⟨_, rfl⟩
        have HT := Lib.hid ht
        clear ht
        refine (succ_at a zero 4 HS.out _).mono ?_
        rintro e w12 ⟨rfl, b⟩
        have X12 := Lib.hid (Boxes.keep b X11.out)
        have B12 := Lib.hid (thru B11.out b)
        clear b X11 B11
        obtain ⟨b12_0, b12_1, b12_2, b12_3, b12_4⟩ := Lv.cells (X12.out.2.2.2.2.2.2.2.1)
        have b12z := lt_of (X12.out.2.2.2.2.2.2.2.1)
        dsimp only [Lv.val]
        go_wp2_with fail
        refine (succ_at b sb q HT.out _).mono ?_
        rintro e w13 ⟨rfl, b⟩
        have X13 := Lib.hid (Boxes.keep b (Boxes.add X12.out zero.box))
        have B13 := Lib.hid (thru (below_a B12.out _) b)
        clear b X12 B12
        obtain ⟨a13_0, a13_1, a13_2, a13_3, a13_4⟩ := Lv.cells (X13.out.2.2.2.2.2.2.2.1)
        have a13z := lt_of (X13.out.2.2.2.2.2.2.2.1)
        dsimp only [Lv.val]
        go_wp2_with fail
        have Y0 := Lib.hid (Boxes.drew (Boxes.add X13.out sb.box))
        have C0 := Lib.hid (below_a B13.out sb.box).drew
        clear X13 B13
        refine wp_region_held_drew (S := (fun w' => (w'.cell? ⟨w.heap.size, 0, none⟩ = some (.int .i64 a.c) ∧ w'.cell? ⟨w.heap.size, 1, none⟩ = some (.int .i64 a.p0) ∧ w'.cell? ⟨w.heap.size, 2, none⟩ = some (.int .i64 a.p1) ∧ w'.cell? ⟨w.heap.size, 3, none⟩ = some (.int .i64 a.p2) ∧ w'.cell? ⟨w.heap.size, 4, none⟩ = some (.int .i64 a.p3)))) (by kernel_rfl) (Lv.cells Y0.out.2.2.2.2.2.2.2.2.1) (fun hHeld => ?_)
        refine wpAnyH_take (i := 0) (v := ?vx0) rfl (by kernel_rfl) (by kernel_rfl) (by kernel_rfl) (fun _ _ _ h => h) (Or.inl ⟨by rfl, ?hyx0⟩) (by assumption) ?restx0
        case hyx0 => (intro w hSw; (try dsimp only at hSw); go_simp <;> with_reducible rfl)
        try simp only [List.getElem_toArray, List.getElem_cons_zero, Act.put, List.setIfInBounds_toArray, List.set_cons_zero, List.set_cons_succ]
        refine wpAnyH_take (i := 1) (v := ?vx1) rfl (by kernel_rfl) (by kernel_rfl) (by kernel_rfl) (fun _ _ _ h => h) (Or.inl ⟨by rfl, ?hyx1⟩) (by assumption) ?restx1
        case hyx1 => (intro w hSw; (try dsimp only at hSw); go_simp <;> with_reducible rfl)
        try simp only [List.getElem_toArray, List.getElem_cons_succ, List.getElem_cons_zero, Act.put, List.setIfInBounds_toArray, List.set_cons_zero, List.set_cons_succ]
        refine wpAnyH_take (i := 2) (v := ?vx2) rfl (by kernel_rfl) (by kernel_rfl) (by kernel_rfl) (fun _ _ _ h => h) (Or.inl ⟨by rfl, ?hyx2⟩) (by assumption) ?restx2
        case hyx2 => (intro w hSw; (try dsimp only at hSw); go_simp <;> with_reducible rfl)
        try simp only [List.getElem_toArray, List.getElem_cons_succ, List.getElem_cons_zero, Act.put, List.setIfInBounds_toArray, List.set_cons_zero, List.set_cons_succ]
        refine wpAnyH_take (i := 3) (v := undef) rfl (by kernel_rfl) (by kernel_rfl) (by kernel_rfl) (fun _ _ _ h => h) (Or.inr ⟨by rfl, rfl⟩) (by assumption) ?_
        try simp only [List.getElem_toArray, List.getElem_cons_succ, List.getElem_cons_zero, Act.put, List.setIfInBounds_toArray, List.set_cons_zero, List.set_cons_succ]
        refine wpAnyH_take (i := 4) (v := undef) rfl (by kernel_rfl) (by kernel_rfl) (by kernel_rfl) (fun _ _ _ h => h) (Or.inr ⟨by rfl, rfl⟩) (by assumption) ?_
        try simp only [List.getElem_toArray, List.getElem_cons_succ, List.getElem_cons_zero, Act.put, List.setIfInBounds_toArray, List.set_cons_zero, List.set_cons_succ]
        refine wpAnyH_take (i := 5) (v := ?vx5) rfl (by kernel_rfl) (by kernel_rfl) (by kernel_rfl) (fun _ _ _ h => h) (Or.inl ⟨by rfl, ?hyx5⟩) (by assumption) ?restx5
        case hyx5 => (intro w hSw; (try dsimp only at hSw); go_simp <;> with_reducible rfl)
        try simp only [List.getElem_toArray, List.getElem_cons_succ, List.getElem_cons_zero, Act.put, List.setIfInBounds_toArray, List.set_cons_zero, List.set_cons_succ]
        refine wpAnyH_take (i := 6) (v := ?vx6) rfl (by kernel_rfl) (by kernel_rfl) (by kernel_rfl) (fun _ _ _ h => h) (Or.inl ⟨by rfl, ?hyx6⟩) (by assumption) ?restx6
        case hyx6 => (intro w hSw; (try dsimp only at hSw); go_simp <;> with_reducible rfl)
        try simp only [List.getElem_toArray, List.getElem_cons_succ, List.getElem_cons_zero, Act.put, List.setIfInBounds_toArray, List.set_cons_zero, List.set_cons_succ]
        refine wpAnyH_take (i := 7) (v := undef) rfl (by kernel_rfl) (by kernel_rfl) (by kernel_rfl) (fun _ _ _ h => h) (Or.inr ⟨by rfl, rfl⟩) (by assumption) ?_
        try simp only [List.getElem_toArray, List.getElem_cons_succ, List.getElem_cons_zero, Act.put, List.setIfInBounds_toArray, List.set_cons_zero, List.set_cons_succ]
        refine wpAnyH_take (i := 8) (v := undef) rfl (by kernel_rfl) (by kernel_rfl) (by kernel_rfl) (fun _ _ _ h => h) (Or.inr ⟨by rfl, rfl⟩) (by assumption) ?_
        try simp only [List.getElem_toArray, List.getElem_cons_succ, List.getElem_cons_zero, Act.put, List.setIfInBounds_toArray, List.set_cons_zero, List.set_cons_succ]
        refine wpAnyH_take (i := 10) (v := undef) rfl (by kernel_rfl) (by kernel_rfl) (by kernel_rfl) (fun _ _ _ h => h) (Or.inr ⟨by rfl, rfl⟩) (by assumption) ?_
        try simp only [List.getElem_toArray, List.getElem_cons_succ, List.getElem_cons_zero, Act.put, List.setIfInBounds_toArray, List.set_cons_zero, List.set_cons_succ]
        refine wpAnyH_take (i := 11) (v := undef) rfl (by kernel_rfl) (by kernel_rfl) (by kernel_rfl) (fun _ _ _ h => h) (Or.inr ⟨by rfl, rfl⟩) (by assumption) ?_
        try simp only [List.getElem_toArray, List.getElem_cons_succ, List.getElem_cons_zero, Act.put, List.setIfInBounds_toArray, List.set_cons_zero, List.set_cons_succ]
        refine wpAnyH_take (i := 9) (v := undef) rfl (by kernel_rfl) (by kernel_rfl) (by kernel_rfl) (fun _ _ _ h => h) (Or.inr ⟨by rfl, rfl⟩) (by assumption) ?_
        try simp only [List.getElem_toArray, List.getElem_cons_succ, List.getElem_cons_zero, Act.put, List.setIfInBounds_toArray, List.set_cons_zero, List.set_cons_succ]
        refine wpAnyH_take (i := 12) (v := undef) rfl (by kernel_rfl) (by kernel_rfl) (by kernel_rfl) (fun _ _ _ h => h) (Or.inr ⟨by rfl, rfl⟩) (by assumption) ?_
        try simp only [List.getElem_toArray, List.getElem_cons_succ, List.getElem_cons_zero, Act.put, List.setIfInBounds_toArray, List.set_cons_zero, List.set_cons_succ]
        refine wpAnyH_take (i := 13) (v := undef) rfl (by kernel_rfl) (by kernel_rfl) (by kernel_rfl) (fun _ _ _ h => h) (Or.inr ⟨by rfl, rfl⟩) (by assumption) ?_
        try simp only [List.getElem_toArray, List.getElem_cons_succ, List.getElem_cons_zero, Act.put, List.setIfInBounds_toArray, List.set_cons_zero, List.set_cons_succ]
        refine wpAnyH_take (i := 14) (v := ?vx14) rfl (by kernel_rfl) (by kernel_rfl) (by kernel_rfl) (fun _ _ _ h => h) (Or.inl ⟨by rfl, ?hyx14⟩) (by assumption) ?restx14
        case hyx14 => (intro w hSw; (try dsimp only at hSw); go_simp <;> with_reducible rfl)
        try simp only [List.getElem_toArray, List.getElem_cons_succ, List.getElem_cons_zero, Act.put, List.setIfInBounds_toArray, List.set_cons_zero, List.set_cons_succ]
        refine wpAnyH_take (i := 15) (v := ?vx15) rfl (by kernel_rfl) (by kernel_rfl) (by kernel_rfl) (fun _ _ _ h => h) (Or.inl ⟨by rfl, ?hyx15⟩) (by assumption) ?restx15
        case hyx15 => (intro w hSw; (try dsimp only at hSw); go_simp <;> with_reducible rfl)
        try simp only [List.getElem_toArray, List.getElem_cons_succ, List.getElem_cons_zero, Act.put, List.setIfInBounds_toArray, List.set_cons_zero, List.set_cons_succ]
        refine wpAnyH_ready (rs := [16]) (by kernel_rfl) (by simp) ?_
        refine AllReadyH.cons rfl (fun K hK => ?_) AllReadyH.nil
        go_simp
        refine (works_any _).mono ?_
        rintro e v1 ⟨rfl, b⟩
        have Y1 := Lib.hid (Boxes.keep b Y0.out)
        have C1 := Lib.hid (thru C0.out b)
        clear b Y0 C0
        refine hK.out _ _ (Lv.cells Y1.out.2.2.2.2.2.2.2.2.1) (fun hHeld => ?_)
        clear hK K
        try simp only [List.getElem_toArray, List.getElem_cons_succ, List.getElem_cons_zero, Act.put, List.setIfInBounds_toArray, List.set_cons_zero, List.set_cons_succ]
        refine wpAnyH_take (i := 17) (v := ?vx17) rfl (by kernel_rfl) (by kernel_rfl) (by kernel_rfl) (fun _ _ _ h => h) (Or.inl ⟨by rfl, ?hyx17⟩) (by assumption) ?restx17
        case hyx17 => (intro w hSw; (try dsimp only at hSw); go_simp <;> with_reducible rfl)
        try simp only [List.getElem_toArray, List.getElem_cons_succ, List.getElem_cons_zero, Act.put, List.setIfInBounds_toArray, List.set_cons_zero, List.set_cons_succ]
        refine wpAnyH_take (i := 18) (v := ?vx18) rfl (by kernel_rfl) (by kernel_rfl) (by kernel_rfl) (fun _ _ _ h => h) (Or.inl ⟨by rfl, ?hyx18⟩) (by assumption) ?restx18
        case hyx18 => (intro w hSw; (try dsimp only at hSw); go_simp <;> with_reducible rfl)
        try simp only [List.getElem_toArray, List.getElem_cons_succ, List.getElem_cons_zero, Act.put, List.setIfInBounds_toArray, List.set_cons_zero, List.set_cons_succ]
        refine wpAnyH_done (by kernel_rfl) ?_ _
        go_wp2_with fail
        go_ret
        exact ⟨rfl, C1.out⟩

theorem law_order (a b c : Lv) (w : World) :
    Calls Try.prog 5 #[a.val, b.val, c.val] w fun e w' => e = .returned (.bool true) ∧ Below w.heap.size w w' := by
  cases ha : a.may
  · exact order_noa a b c w ha
  · cases hb : b.may
    · exact order_nob a b c w ha hb
    · cases hc : c.may
      · exact order_noc a b c w ha hb hc
      · exact order_yes a b c w ((may_iff a).1 ha) ((may_iff b).1 hb) ((may_iff c).1 hc)
end Go.Proofs.Ytbkmnlebnjoklaa
