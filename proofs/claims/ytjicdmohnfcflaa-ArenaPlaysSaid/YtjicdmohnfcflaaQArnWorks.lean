/-
  battenlaw05.works: the chapter's examples.
-/
import Derived.Test.YtjicdmohnfcflaaQArnGet
namespace Go.Proofs.Ytjicdmohnfcflaa
open Go.RowKit Go.Shelf Go.Maps Lvl Trm Arn

theorem Arn.firm_leaf5 {P : Nat → Prop} {w : World} {k n : Int} {s : ByteArray} {lc tc : Nat} (hk0 : 0 ≤ k) (hk1 : k ≤ 255) (hn0 : -9223372036854775808 ≤ n) (hn1 : n ≤ 9223372036854775807) (hs : s.size ≤ 9223372036854775807) : FirmS P w (.mk k n s [] []) ⟨none, lc, none, tc⟩ :=
  fun _ _ => leaf_in hk0 hk1 hn0 hn1 hs
set_option maxRecDepth 100000 in
theorem v5_any (w : World) : Calls Try.prog 26 #[] w fun e w' => e = .returned ((tV 0).val ⟨none, 0, none, 0⟩) ∧ Below w.heap.size w w' := by
  go_enter Try.func26, Try.ntmps26
  go_wp2_with fail
  exact bodyPost_ret (v := (tV 0).val ⟨none, 0, none, 0⟩) (by simp [results, Try.results26, go_sem, tV, Tm.val, Tm.vals, Tm.k, Tm.n, Tm.s, Tm.ls, Tm.ts, no]) rfl ⟨rfl, below_one _ _⟩
theorem Arn.v_firm {P : Nat → Prop} {w : World} : FirmS P w (tV 0) ⟨none, 0, none, 0⟩ := firm_leaf5 (by decide) (by decide) (by decide) (by decide) (by decide)

set_option maxRecDepth 100000 in
theorem AppP_any (P : Nat → Prop) (f x : Tm) (hf hx : Hd) (w : World) (hP : ∀ q, P q → q < w.heap.size) (h1 : FirmS P w f hf) (h2 : FirmS P w x hx) :
    Calls Try.prog 25 #[f.val hf, x.val hx] w fun e w' => ∃ h, e = .returned ((t2 4 f x).val h) ∧ FirmS P w' (t2 4 f x) h ∧ Below w.heap.size w w' := by
  have H1 := Lib.hid h1
  have H2 := Lib.hid h2
  clear h1 h2
  unfold Tm.val Tm.vals
  go_enter Try.func25, Try.ntmps25
  go_wp2_with fail
  have hb := below_four w (f.box hf) (x.box hx) (.cells #[.int .u8 4, .int .i64 0, .string no, .slice none 0 0, .slice (some ⟨w.heap.size + 1 + 1 + 1, 0, none⟩) 2 2] 26) (.cells (f.vals hf ++ x.vals hx) 26)
  refine bodyPost_ret (v := (t2 4 f x).val ⟨none, 0, some ⟨w.heap.size + 1 + 1 + 1, 0, none⟩, 2⟩) (by simp [results, Try.results25, go_sem, t2, Tm.val, Tm.vals, Tm.k, Tm.n, Tm.s, Tm.ls, Tm.ts, no]) rfl ⟨_, rfl, ?_, below_four _ _ _ _ _⟩
  exact FirmS.t2 (by decide) (by decide) (g := w.heap.size + 1 + 1 + 1) (ty := 26) (fr := (0, 0)) (new4 _ _ _ _ _) (fun hp => by have := hP _ hp; omega) (H1.out.step (RanS.of_below hb)) (H2.out.step (RanS.of_below hb))

namespace Arn
def a1 : Tm := t2 4 (tV 0) (tV 0)
def l1 : Tm := t2 5 (tV 0) a1
theorem v_ne : tV 0 ≠ a1 := fun e => by have := congrArg Tm.k e; simp [tV, a1, t2, Tm.k] at this
theorem v_nl : tV 0 ≠ l1 := fun e => by have := congrArg Tm.k e; simp [tV, l1, t2, Tm.k] at this
theorem a_nl : a1 ≠ l1 := fun e => by have := congrArg Tm.k e; simp [a1, l1, t2, Tm.k] at this
theorem ins_v (L : List Tm) : Tm.ins (tV 0) L = if tV 0 ∈ L then L else L ++ [tV 0] := by rw [ins_eq, show (tV 0).ts = [] from rfl, insL]
theorem ins_a : Tm.ins a1 [] = [tV 0, a1] := by
  have e : insL a1.ts [] = [tV 0] := by
    have e0 : Tm.ins (tV 0) [] = [tV 0] := by rw [ins_v, if_neg (by simp)]; rfl
    have e1 : Tm.ins (tV 0) [tV 0] = [tV 0] := by rw [ins_v, if_pos (by simp)]
    rw [show a1.ts = [tV 0, tV 0] from rfl, insL, insL, insL, e0, e1]
  rw [ins_eq, e, if_neg (by simp [v_ne.symm])]
  rfl
theorem ok_a : OkL [tV 0, a1] := ins_a ▸ ins_ok a1 [] OkL.nil (by kernel_rfl)
theorem ins_l : Tm.ins l1 [tV 0, a1] = [tV 0, a1, l1] := by
  have e : insL l1.ts [tV 0, a1] = [tV 0, a1] := insL_same ok_a (fun x hx => by
    rw [show l1.ts = [tV 0, a1] from rfl] at hx; exact hx)
  rw [ins_eq, e, if_neg (by simp [v_nl.symm, a_nl.symm])]
  rfl
theorem ins_v3 : Tm.ins (tV 0) [tV 0, a1, l1] = [tV 0, a1, l1] := by rw [ins_v, if_pos (by simp)]
theorem num_v (r : List Tm) : num (tV 0 :: r) (tV 0) = 0 := by unfold num; rw [List.idxOf_cons]; simp
theorem num_a (r : List Tm) : num (tV 0 :: a1 :: r) a1 = 1 := by
  have e1 : (tV 0 == a1) = false := beq_eq_false_iff_ne.2 v_ne
  unfold num
  rw [List.idxOf_cons, List.idxOf_cons, e1]
  simp
theorem num_l : num [tV 0, a1, l1] l1 = 2 := by
  have e1 : (tV 0 == l1) = false := beq_eq_false_iff_ne.2 v_nl
  have e2 : (a1 == l1) = false := beq_eq_false_iff_ne.2 a_nl
  unfold num
  rw [List.idxOf_cons, List.idxOf_cons, List.idxOf_cons, e1, e2]
  simp
/-- What a call has made of an arena that works made. -/
def WS (w W : World) (A : Nat) (L : List Tm) (v : Value) (mo : Option Nat) : Prop := Ar W A L v mo ∧ (∀ q, own A v mo q → w.heap.size ≤ q) ∧ Below w.heap.size w W
theorem WS.below {w W W' : World} {A : Nat} {L : List Tm} {v : Value} {mo : Option Nat} (h : WS w W A L v mo) (b : Below W.heap.size W W') : WS w W' A L v mo := ⟨h.1.below b (Nat.le_refl _), h.2.1, Trm.go h.2.2 b⟩
theorem WS.moved {w W W' : World} {A : Nat} {L L' : List Tm} {v : Value} {mo : Option Nat} (h : WS w W A L v mo) (m : Moved A v mo L' W W') : ∃ v' mo', WS w W' A L' v' mo' := by
  obtain ⟨v', mo', har, ho, hr⟩ := m
  have hs := h.2.2.size
  refine ⟨v', mo', har, fun q hq => ?_, h.2.2.trans (hr.below (fun q hq => h.2.1 q hq) hs)⟩
  rcases ho q hq with h1 | h1
  · exact h.2.1 q h1
  · omega
/-- .. and a row of numbers that is none of its blocks. -/
def RS (W : World) (A : Nat) (v : Value) (mo : Option Nat) (ao : Option Addr) (ns : List Nat) : Prop := IRow W ao ns ∧ ∀ x, ao = some x → ¬ own A v mo x.block ∧ x.block < W.heap.size
theorem RS.below {W W' : World} {A : Nat} {v : Value} {mo : Option Nat} {ao : Option Addr} {ns : List Nat} (h : RS W A v mo ao ns) (b : Below W.heap.size W W') : RS W' A v mo ao ns := ⟨h.1.below b, fun x hx => ⟨(h.2 x hx).1, Nat.lt_of_lt_of_le (h.2 x hx).2 b.size⟩⟩
theorem WS.moved2 {w W W' : World} {A : Nat} {L L' : List Tm} {v : Value} {mo : Option Nat} {ao : Option Addr} {ns : List Nat} (h : WS w W A L v mo) (hr : RS W A v mo ao ns) (m : Moved A v mo L' W W') : ∃ v' mo', WS w W' A L' v' mo' ∧ RS W' A v' mo' ao ns := by
  obtain ⟨v', mo', har, ho, hran⟩ := m
  have hs := h.2.2.size
  have hs2 := hran.size
  refine ⟨v', mo', ⟨har, fun q hq => ?_, h.2.2.trans (hran.below (fun q hq => h.2.1 q hq) hs)⟩, ⟨fun k hk => ?_⟩, fun x hx => ⟨fun hq => ?_, Nat.lt_of_lt_of_le (hr.2 x hx).2 hs2⟩⟩
  · rcases ho q hq with h1 | h1
    · exact h.2.1 q h1
    · omega
  · obtain ⟨b, off, hao, hc⟩ := hr.1.place k hk
    exact ⟨b, off, hao, (hran.cell (p := ⟨b, off + k, none⟩) (hr.2 _ hao).2 (hr.2 _ hao).1).trans hc⟩
  · rcases ho _ hq with h1 | h1
    · exact (hr.2 x hx).1 h1
    · have := (hr.2 x hx).2; omega
end Arn

set_option maxRecDepth 100000 in
set_option maxHeartbeats 8000000 in
theorem works5_any (w : World) : Calls Try.prog 5 #[] w fun e w' => e = .returned (.bool true) ∧ Below w.heap.size w w' := by
  go_enter Try.func5, Try.ntmps5
  go_wp2_with fail
  refine (New_any _).mono ?_
  rintro e w1 ⟨rfl, hw1⟩
  obtain ⟨A, hA⟩ : ∃ A, A = w.heap.size := ⟨_, rfl⟩
  have H1 : Hid (WS w w1 A [] (.slice none 0 0) none) := Lib.hid (by
    rw [hw1, hA]
    refine ⟨made w, ?_, below_one _ _⟩
    rintro q (rfl | hq | hq)
    · exact Nat.le_refl _
    · simp [Value.ownBlock] at hq
    · cases hq)
  rw [← hA]
  clear hw1 hA
  go_wp2_with fail
  refine (v5_any _).mono ?_
  rintro e w2 ⟨rfl, b2⟩
  have H2 := Lib.hid (H1.out.below b2)
  clear b2 H1
  go_wp2_with fail
  refine (v5_any _).mono ?_
  rintro e w3 ⟨rfl, b3⟩
  have H3 := Lib.hid (H2.out.below b3)
  clear b3 H2
  go_wp2_with fail
  refine (AppP_any (own A (.slice none 0 0) none) _ _ _ _ w3 (fun q hq => H3.out.1.lt q hq) v_firm v_firm).mono ?_
  rintro e w4 ⟨h4, rfl, f4, b4⟩
  have H4 := Lib.hid (H3.out.below b4)
  have F4 := Lib.hid (show FirmS _ _ a1 _ from f4)
  clear b4 f4 H3
  go_wp2_with fail
  refine (Put_any H4.out.1 a1 h4 F4.out (by decide)).mono ?_
  rintro e w5 ⟨hy, _⟩
  obtain ⟨rfl, m5⟩ := hy (by kernel_rfl)
  rw [ins_a] at m5 ⊢
  rw [num_a]
  obtain ⟨v5, mo5, h5⟩ := H4.out.moved m5
  have H5 := Lib.hid h5
  clear m5 hy h5 H4 F4
  go_wp2_with fail
  refine (AKids_some H5.out.1 (i := 1) (by simp)).mono ?_
  rintro e w6 ⟨ao, cp, rfl, hrow, hao6, b6⟩
  have H6 := Lib.hid (H5.out.below b6)
  have hrow2 : IRow w6 ao [0, 0] := by
    have e : nums [tV 0, a1] ([tV 0, a1][1]) = [0, 0] := by
      show [num [tV 0, a1] (tV 0), num [tV 0, a1] (tV 0)] = [0, 0]
      rw [num_v]
    rw [← e]; exact hrow
  have HR : Hid (RS w6 A v5 mo5 ao [0, 0]) := Lib.hid ⟨hrow2, fun x hx => ⟨fun hq => by have := H5.out.1.lt _ hq; have := hao6 x hx; omega, by
    obtain ⟨b, off, e, hc⟩ := hrow2.place 0 (by simp)
    rw [hx] at e
    injection e with e
    subst e
    exact World.block_lt_of_cell? w6 _ hc⟩⟩
  clear b6 hrow hrow2 hao6 H5
  go_wp2_with fail
  refine (Len_any H6.out.1).mono ?_
  rintro e w7 ⟨rfl, b7⟩
  rw [show (([tV 0, a1] : List Tm).length : Int) = 2 from rfl]
  have H7 := Lib.hid (H6.out.below b7)
  have R7 := Lib.hid (HR.out.below b7)
  clear b7 H6 HR
  go_wp2_with fail
  refine (v5_any _).mono ?_
  rintro e w8 ⟨rfl, b8⟩
  have H8 := Lib.hid (H7.out.below b8)
  have R8 := Lib.hid (R7.out.below b8)
  clear b8 H7 R7
  go_wp2_with fail
  refine (v5_any _).mono ?_
  rintro e w9 ⟨rfl, b9⟩
  have H9 := Lib.hid (H8.out.below b9)
  have R9 := Lib.hid (R8.out.below b9)
  clear b9 H8 R8
  go_wp2_with fail
  refine (v5_any _).mono ?_
  rintro e w10 ⟨rfl, b10⟩
  have H10 := Lib.hid (H9.out.below b10)
  have R10 := Lib.hid (R9.out.below b10)
  clear b10 H9 R9
  go_wp2_with fail
  refine (AppP_any (own A v5 mo5) _ _ _ _ w10 (fun q hq => H10.out.1.lt q hq) v_firm v_firm).mono ?_
  rintro e w11 ⟨h11, rfl, f11, b11⟩
  have H11 := Lib.hid (H10.out.below b11)
  have R11 := Lib.hid (R10.out.below b11)
  have F11 := Lib.hid (show FirmS _ _ a1 _ from f11)
  have hN11 : Hid (¬ own A v5 mo5 w11.heap.size) := Lib.hid (fun hq => by have := H11.out.1.lt _ hq; omega)
  clear b11 f11 H10 R10
  have HPUT := Lib.hid (show Calls Try.prog 8 #[.pointer (some ⟨A, 0, none⟩), .agg #[.int .u8 5, .int .i64 0, .string ⟨#[]⟩, .slice none 0 0, .slice (some ⟨w11.heap.size, 0, none⟩) 2 2]] (w11.alloc (.cells #[.int .u8 2, .int .i64 0, .string ⟨#[]⟩, .slice none 0 0, .slice none 0 0, .int .u8 4, .int .i64 0, .string ⟨#[]⟩, .slice h11.lo 0 h11.lc, .slice h11.to 2 h11.tc] 26)) _ from
    Put_any (H11.out.below (below_one w11 _)).1 l1 ⟨none, 0, some ⟨w11.heap.size, 0, none⟩, 2⟩ (FirmS.t2 (f := tV 0) (x := a1) (hf := ⟨none, 0, none, 0⟩) (hx := h11) (by decide) (by decide) (ty := 26) (fr := (0, 0)) (World.alloc_heap_new w11 _) hN11.out v_firm (F11.out.step (RanS.of_below (below_one _ _)))) (by decide))
  rw [show (tV 0).val ⟨none, 0, none, 0⟩ = .agg #[.int .u8 2, .int .i64 0, .string ⟨#[]⟩, .slice none 0 0, .slice none 0 0] from rfl, show (t2 4 (tV 0) (tV 0)).val h11 = .agg #[.int .u8 4, .int .i64 0, .string ⟨#[]⟩, .slice h11.lo 0 h11.lc, .slice h11.to 2 h11.tc] from rfl]
  have H12 := Lib.hid (H11.out.below (below_one w11 (.cells #[.int .u8 2, .int .i64 0, .string ⟨#[]⟩, .slice none 0 0, .slice none 0 0, .int .u8 4, .int .i64 0, .string ⟨#[]⟩, .slice h11.lo 0 h11.lc, .slice h11.to 2 h11.tc] 26)))
  have R12 := Lib.hid (R11.out.below (below_one w11 (.cells #[.int .u8 2, .int .i64 0, .string ⟨#[]⟩, .slice none 0 0, .slice none 0 0, .int .u8 4, .int .i64 0, .string ⟨#[]⟩, .slice h11.lo 0 h11.lc, .slice h11.to 2 h11.tc] 26)))
  clear H11 R11 F11 hN11
  go_wp2_with fail
  refine HPUT.out.mono ?_
  rintro e w13 ⟨hy, _⟩
  obtain ⟨rfl, m13⟩ := hy (by kernel_rfl)
  rw [ins_l] at m13 ⊢
  rw [num_l]
  obtain ⟨v13, mo13, h13, r13⟩ := H12.out.moved2 R12.out m13
  have H13 := Lib.hid h13
  have R13 := Lib.hid r13
  clear m13 hy h13 r13 H12 R12 HPUT
  go_wp2_with fail
  refine (v5_any _).mono ?_
  rintro e w14 ⟨rfl, b14⟩
  have H14 := Lib.hid (H13.out.below b14)
  have R14 := Lib.hid (R13.out.below b14)
  clear b14 H13 R13
  go_wp2_with fail
  refine (Put_any H14.out.1 (tV 0) _ v_firm (by decide)).mono ?_
  rintro e w15 ⟨hy, _⟩
  obtain ⟨rfl, m15⟩ := hy (by kernel_rfl)
  rw [ins_v3] at m15 ⊢
  rw [num_v]
  obtain ⟨v15, mo15, h15, r15⟩ := H14.out.moved2 R14.out m15
  have H15 := Lib.hid h15
  have R15 := Lib.hid r15
  clear m15 hy h15 r15 H14 R14
  go_wp2_with fail
  refine (AGet_none H15.out.1 3 (Or.inr (by decide))).mono ?_
  rintro e w16 ⟨rfl, b16⟩
  have H16 := Lib.hid (H15.out.below b16)
  have R16 := Lib.hid (R15.out.below b16)
  clear b16 H15 R15
  unfold zeroVal
  have HZP := Lib.hid (fun (W : World) (hW : Below w16.heap.size w16 W) => (show Calls Try.prog 8 #[.pointer (some ⟨A, 0, none⟩), .agg #[.int .u8 0, .int .i64 0, .string ⟨#[]⟩, .slice none 0 0, .slice none 0 0]] W _ from Put_any (H16.out.below hW).1 zeroT ⟨none, 0, none, 0⟩ firm_zero (by decide)))
  go_wp2_with fail
  refine (HZP.out _ (below_one _ _)).mono ?_
  rintro e w17 ⟨_, hn⟩
  obtain ⟨rfl, m17⟩ := hn (by kernel_rfl)
  obtain ⟨v17, mo17, h17, r17⟩ := (H16.out.below (below_one _ _)).moved2 (R16.out.below (below_one _ _)) m17
  have H17 := Lib.hid h17
  obtain ⟨b, off, rfl, q0⟩ := r17.1.place 0 (by simp)
  obtain ⟨b2, off2, e2, q1⟩ := r17.1.place 1 (by simp)
  injection e2 with e2
  injection e2 with e3 e4
  subst e3 e4
  rw [Nat.add_zero] at q0
  change w17.cell? ⟨b, off, none⟩ = some (.int .i64 0) at q0
  change w17.cell? ⟨b, off + 1, none⟩ = some (.int .i64 0) at q1
  clear m17 hn h17 r17 H16 R16 HZP
  go_wp2_with fail
  go_ret
  exact ⟨rfl, H17.out.2.2⟩
end Go.Proofs.Ytjicdmohnfcflaa

