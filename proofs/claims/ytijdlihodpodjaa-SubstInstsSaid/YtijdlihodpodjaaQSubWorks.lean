/-
  battenlaw04.works: the chapter's examples.
-/
import Derived.Test.YtijdlihodpodjaaQSubC
import Derived.Test.YtijdlihodpodjaaQSubInstFn
import Derived.Test.YtijdlihodpodjaaQTrmWorks
import Derived.Test.YtijdlihodpodjaaQTrmF
namespace Go.Proofs.Ytijdlihodpodjaa
open Go.RowKit Go.Shelf Lvl Trm

def Trm.sc : ByteArray := ⟨#[99]⟩
def Trm.x1 : Tm := t2 4 (tC sc) (tV 0)
def Trm.x2 : Tm := t2 5 tS (t2 4 (tV 0) (tV 3))

set_option maxRecDepth 100000 in
set_option maxHeartbeats 8000000 in
theorem sub_works_any (w : World) :
    Calls Try.prog 32 #[] w fun e w' => e = .returned (.bool true) ∧ Below w.heap.size w w' := by
  have q1 : instAns (t2 4 (tV 0) (tV 1)) [tC sc] = (x1, 0) := by kernel_rfl
  have q2 : liftAns (t2 5 tS (t2 4 (tV 0) (tV 1))) 0 2 = (x2, 0) := by kernel_rfl
  have q3 : liftAns (tV 0) 0 (-1) = (zeroT, 7) := by kernel_rfl
  have HI1 := Lib.hid (fun (W : World) (h : Hd) (hc : Hd) (g : Nat) (hi : (t2 4 (tV 0) (tV 1)).In W.heap.size W h) (hi2 : (tC sc).In W.heap.size W hc) (hg : W.heap[g]? = some (.cells ((tC sc).vals hc) 25)) => show Calls Try.prog 41 #[(t2 4 (tV 0) (tV 1)).val h, .slice (some ⟨g, 0, none⟩) 1 1] W (fun e w' => ∃ h', e = .returned (.tuple #[x1.val h', .int .i64 0]) ∧ x1.In w'.heap.size w' h' ∧ Below W.heap.size W w') from by
    have hrow : RowIn W.heap.size W (some ⟨g, 0, none⟩) 0 [tC sc] := RowIn.mk fun k hk => by
      have hk0 : k = 0 := by simp at hk; omega
      subst hk0
      exact ⟨g, 0, rfl, (Array.getElem?_eq_some_iff.1 hg).1, hc, Tm.cells hg, hi2⟩
    have := Inst_any _ h [tC sc] _ 1 W hi hrow (by decide)
    rw [q1] at this
    exact this)
  have HL2 := Lib.hid (fun (W : World) (h : Hd) (hi : (t2 5 tS (t2 4 (tV 0) (tV 1))).In W.heap.size W h) => show Calls Try.prog 33 #[(t2 5 tS (t2 4 (tV 0) (tV 1))).val h, .int .i64 0, .int .i64 2] W (fun e w' => ∃ h', e = .returned (.tuple #[x2.val h', .int .i64 0]) ∧ x2.In w'.heap.size w' h' ∧ Below W.heap.size W w') from by
    have := Lift_any _ h 0 2 W hi (by decide)
    rw [q2] at this
    exact this)
  have HL3 := Lib.hid (fun (W : World) (h : Hd) (hi : (tV 0).In W.heap.size W h) => show Calls Try.prog 33 #[(tV 0).val h, .int .i64 0, .int .i64 (-1)] W (fun e w' => ∃ h', e = .returned (.tuple #[zeroT.val h', .int .i64 7]) ∧ zeroT.In w'.heap.size w' h' ∧ Below W.heap.size W w') from by
    have := Lift_any _ h 0 (-1) W hi (by decide)
    rw [q3] at this
    exact this)
  clear q1 q2 q3
  have HB0 : Hid (Below w.heap.size w w) := Lib.hid (Below.refl _ _)
  go_enter Try.func32, Try.ntmps32
  go_wp2_with fail
  refine (V_any 0 _ (by decide) (by decide)).mono ?_
  rintro e w1 ⟨h1, rfl, i1, b1⟩
  have HB1 := Lib.hid (Trm.go HB0.out b1)
  have I1 := Lib.hid i1
  clear b1 i1
  go_wp2_with fail
  refine (V_any 1 _ (by decide) (by decide)).mono ?_
  rintro e w2 ⟨h2, rfl, i2, b2⟩
  have HB2 := Lib.hid (Trm.go HB1.out b2)
  have I12 := Lib.hid (carry I1.out b2)
  have I22 := Lib.hid i2
  clear b2 i2
  go_wp2_with fail
  refine (A_any _ _ _ _ _ I12.out I22.out).mono ?_
  rintro e w3 ⟨h3, rfl, i3, b3⟩
  have HB3 := Lib.hid (Trm.go HB2.out b3)
  have I3 := Lib.hid i3
  clear b3 i3
  go_wp2_with fail
  refine (C_any sc _ (by decide)).mono ?_
  rintro e w4 ⟨h4, rfl, i4, b4⟩
  have HB4 := Lib.hid (Trm.go HB3.out (Trm.go b4 (below_one w4 (.cells ((tC sc).vals h4) 25))))
  have I3b := Lib.hid (carry (carry I3.out b4) (below_one w4 (.cells ((tC sc).vals h4) 25)))
  have I4 := Lib.hid (carry i4 (below_one w4 (.cells ((tC sc).vals h4) 25)))
  have G4 := Lib.hid (World.alloc_heap_new w4 (.cells ((tC sc).vals h4) 25))
  clear b4 i4
  have e4 : (tC sc).val h4 = .agg #[.int .u8 (tC sc).k, .int .i64 (tC sc).n, .string (tC sc).s, .slice h4.lo (tC sc).ls.length h4.lc, .slice h4.to (tC sc).ts.length h4.tc] := rfl
  rw [e4]
  clear e4
  go_wp2_with fail
  refine (HI1.out _ h3 h4 w4.heap.size I3b.out I4.out G4.out).mono ?_
  rintro e w5 ⟨h5, rfl, i5, b5⟩
  have HB5 := Lib.hid (Trm.go HB4.out (Trm.go b5 (below_one w5 (x1.box h5))))
  have X5 := Lib.hid (World.alloc_heap_new w5 (x1.box h5))
  have I5 := Lib.hid (carry i5 (below_one w5 (x1.box h5)))
  clear b5 i5 I1 I12 I22 I3 I3b I4 G4 HI1
  dsimp only [Tm.val, Tm.vals]
  go_wp2_with fail
  refine (S_any _).mono ?_
  rintro e w6 ⟨h6, rfl, i6, b6⟩
  have HB6 := Lib.hid (Trm.go HB5.out b6)
  have X6 := Lib.hid (Lvl.keep b6 X5.out)
  have I56 := Lib.hid (carry I5.out b6)
  have I6 := Lib.hid i6
  clear b6 i6
  go_wp2_with fail
  refine (V_any 0 _ (by decide) (by decide)).mono ?_
  rintro e w7 ⟨h7, rfl, i7, b7⟩
  have HB7 := Lib.hid (Trm.go HB6.out b7)
  have X7 := Lib.hid (Lvl.keep b7 X6.out)
  have I57 := Lib.hid (carry I56.out b7)
  have I67 := Lib.hid (carry I6.out b7)
  have I7 := Lib.hid i7
  clear b7 i7
  go_wp2_with fail
  refine (V_any 1 _ (by decide) (by decide)).mono ?_
  rintro e w8 ⟨h8, rfl, i8, b8⟩
  have HB8 := Lib.hid (Trm.go HB7.out b8)
  have X8 := Lib.hid (Lvl.keep b8 X7.out)
  have I58 := Lib.hid (carry I57.out b8)
  have I68 := Lib.hid (carry I67.out b8)
  have I78 := Lib.hid (carry I7.out b8)
  have I8 := Lib.hid i8
  clear b8 i8
  go_wp2_with fail
  refine (A_any _ _ _ _ _ I78.out I8.out).mono ?_
  rintro e w9 ⟨h9, rfl, i9, b9⟩
  have HB9 := Lib.hid (Trm.go HB8.out b9)
  have X9 := Lib.hid (Lvl.keep b9 X8.out)
  have I59 := Lib.hid (carry I58.out b9)
  have I69 := Lib.hid (carry I68.out b9)
  have I9 := Lib.hid i9
  clear b9 i9
  go_wp2_with fail
  refine (L_any _ _ _ _ _ I69.out I9.out).mono ?_
  rintro e w10 ⟨h10, rfl, i10, b10⟩
  have HB10 := Lib.hid (Trm.go HB9.out b10)
  have X10 := Lib.hid (Lvl.keep b10 X9.out)
  have I510 := Lib.hid (carry I59.out b10)
  have I10 := Lib.hid i10
  clear b10 i10
  go_wp2_with fail
  refine (HL2.out _ h10 I10.out).mono ?_
  rintro e w11 ⟨h11, rfl, i11, b11⟩
  have HB11 := Lib.hid (Trm.go HB10.out (Trm.go b11 (below_one w11 (x2.box h11))))
  have X11 := Lib.hid (Lvl.keep (Trm.go b11 (below_one w11 (x2.box h11))) X10.out)
  have I511 := Lib.hid (carry I510.out (Trm.go b11 (below_one w11 (x2.box h11))))
  have Y11 := Lib.hid (World.alloc_heap_new w11 (x2.box h11))
  have I11 := Lib.hid (carry i11 (below_one w11 (x2.box h11)))
  clear b11 i11 I5 I56 I6 I57 I67 I7 I58 I68 I78 I8 I59 I69 I9 I510 I10 HL2
  dsimp only [Tm.val, Tm.vals]
  go_wp2_with fail
  refine (V_any 0 _ (by decide) (by decide)).mono ?_
  rintro e w12 ⟨h12, rfl, i12, b12⟩
  have HB12 := Lib.hid (Trm.go HB11.out b12)
  have X12 := Lib.hid (Lvl.keep b12 X11.out)
  have Y12 := Lib.hid (Lvl.keep b12 Y11.out)
  have I512 := Lib.hid (carry I511.out b12)
  have I112 := Lib.hid (carry I11.out b12)
  have I12 := Lib.hid i12
  clear b12 i12
  go_wp2_with fail
  refine (HL3.out _ h12 I12.out).mono ?_
  rintro e w13 ⟨h13, rfl, i13, b13⟩
  clear i13
  obtain ⟨w0, hw0⟩ : ∃ w0, w0 = w13.alloc (zeroT.box h13) := ⟨_, rfl⟩
  have hb0 : Below w13.heap.size w13 w0 := hw0 ▸ below_one _ _
  have HB13 := Lib.hid (Trm.go HB12.out (Trm.go b13 hb0))
  have XA := Lib.hid (Lvl.keep (Trm.go b13 hb0) X12.out)
  have XB := Lib.hid (Lvl.keep (Trm.go b13 hb0) Y12.out)
  have JA := Lib.hid (carry I512.out (Trm.go b13 hb0))
  have JB := Lib.hid (carry I112.out (Trm.go b13 hb0))
  clear b13 hb0 I511 I11 I512 I112 I12 HL3 X5 X6 X7 X8 X9 X10 X11 X12 Y11 Y12
  dsimp only [Tm.val, Tm.vals]
  go_wp2_with fail
  obtain ⟨x0, y1, y2, y3, y4⟩ := five_cells XA.out
  obtain ⟨z0, z1, z2, z3, z4⟩ := five_cells XB.out
  have HC := Lib.hid (fun (W : World) => (show Calls Try.prog 65 #[.string ⟨#[99]⟩] W (Made (tC sc) W) from C_any sc W (by decide)))
  have HV0 := Lib.hid (fun W => V_any 0 W (by decide) (by decide))
  have HV3 := Lib.hid (fun W => V_any 3 W (by decide) (by decide))
  have hbz : Below w0.heap.size w0 w0.drew := (Below.refl _ _).drew
  have HSM1 := Lib.hid (fun (W : World) (hf : Hd) (hW : Below w0.heap.size w0 W) (hi : (t2 4 (tC sc) (tV 0)).In W.heap.size W hf) => (show Calls Try.prog 18 #[.agg #[.int .u8 x1.k, .int .i64 x1.n, .string x1.s, .slice h5.lo x1.ls.length h5.lc, .slice h5.to x1.ts.length h5.tc], (t2 4 (tC sc) (tV 0)).val hf] W fun e w' => e = .returned (.bool true) ∧ Below W.heap.size W w' from
    (show same x1 (t2 4 (tC sc) (tV 0)) = true from same_iff.2 rfl) ▸ RefSame_any x1 (t2 4 (tC sc) (tV 0)) h5 hf W (carry JA.out hW) hi))
  have HSM2 := Lib.hid (fun (W : World) (hf : Hd) (hW : Below w0.heap.size w0 W) (hi : (t2 5 tS (t2 4 (tV 0) (tV 3))).In W.heap.size W hf) => (show Calls Try.prog 18 #[.agg #[.int .u8 x2.k, .int .i64 x2.n, .string x2.s, .slice h11.lo x2.ls.length h11.lc, .slice h11.to x2.ts.length h11.tc], (t2 5 tS (t2 4 (tV 0) (tV 3))).val hf] W fun e w' => e = .returned (.bool true) ∧ Below W.heap.size W w' from
    (show same x2 (t2 5 tS (t2 4 (tV 0) (tV 3))) = true from same_iff.2 rfl) ▸ RefSame_any x2 (t2 5 tS (t2 4 (tV 0) (tV 3))) h11 hf W (carry JB.out hW) hi))
  have ew : w13.alloc (.cells #[.int .u8 zeroT.k, .int .i64 zeroT.n, .string zeroT.s, .slice h13.lo zeroT.ls.length h13.lc, .slice h13.to zeroT.ts.length h13.tc] 25) = w0 := hw0.symm
  first | rw [ew] | rw [← hw0]
  clear hw0 ew
  go_region_held3 (fun w' => Below w0.heap.size w0 w' ∧ w'.cell? ⟨w5.heap.size, 0, none⟩ = some (.int .u8 x1.k) ∧ w'.cell? ⟨w5.heap.size, 1, none⟩ = some (.int .i64 x1.n) ∧ w'.cell? ⟨w5.heap.size, 2, none⟩ = some (.string x1.s) ∧ w'.cell? ⟨w5.heap.size, 3, none⟩ = some (.slice h5.lo x1.ls.length h5.lc) ∧ w'.cell? ⟨w5.heap.size, 4, none⟩ = some (.slice h5.to x1.ts.length h5.tc) ∧ w'.cell? ⟨w11.heap.size, 0, none⟩ = some (.int .u8 x2.k) ∧ w'.cell? ⟨w11.heap.size, 1, none⟩ = some (.int .i64 x2.n) ∧ w'.cell? ⟨w11.heap.size, 2, none⟩ = some (.string x2.s) ∧ w'.cell? ⟨w11.heap.size, 3, none⟩ = some (.slice h11.lo x2.ls.length h11.lc) ∧ w'.cell? ⟨w11.heap.size, 4, none⟩ = some (.slice h11.to x2.ts.length h11.tc))
    (go_keep)
    (first
      | (go_at_call 65; (with_reducible refine (HC.out _).mono ?_); rintro e w3 ⟨hC, rfl, iC1, bw⟩; have iC := carry iC1 (Below.refl _ _); clear iC1; (try replace iv := carry iv bw); (try replace iw := carry iw bw); (try replace iS := carry iS bw); (try replace iA := carry iA bw); have hb3 : Below w0.heap.size w0 w3 := Trm.go (by first | assumption | exact (Below.refl _ _).drew) bw; obtain ⟨x0, y1, y2, y3, y4⟩ := five_cells (Lvl.keep hb3 XA.out); obtain ⟨z0, z1, z2, z3, z4⟩ := five_cells (Lvl.keep hb3 XB.out))
      | (go_at_call 63; (with_reducible refine (HV0.out _).mono ?_); rintro e w3 ⟨hv, rfl, iv, bw⟩; (try replace iC := carry iC bw); (try replace iw := carry iw bw); (try replace iS := carry iS bw); (try replace iA := carry iA bw); have hb3 : Below w0.heap.size w0 w3 := Trm.go (by first | assumption | exact (Below.refl _ _).drew) bw; obtain ⟨x0, y1, y2, y3, y4⟩ := five_cells (Lvl.keep hb3 XA.out); obtain ⟨z0, z1, z2, z3, z4⟩ := five_cells (Lvl.keep hb3 XB.out))
      | (go_at_call 63; (with_reducible refine (HV3.out _).mono ?_); rintro e w3 ⟨hw, rfl, iw, bw⟩; (try replace iC := carry iC bw); (try replace iv := carry iv bw); (try replace iS := carry iS bw); (try replace iA := carry iA bw); have hb3 : Below w0.heap.size w0 w3 := Trm.go (by first | assumption | exact (Below.refl _ _).drew) bw; obtain ⟨x0, y1, y2, y3, y4⟩ := five_cells (Lvl.keep hb3 XA.out); obtain ⟨z0, z1, z2, z3, z4⟩ := five_cells (Lvl.keep hb3 XB.out))
      | (go_at_call 62; (with_reducible refine (S_any _).mono ?_); rintro e w3 ⟨hS, rfl, iS, bw⟩; (try replace iC := carry iC bw); (try replace iv := carry iv bw); (try replace iw := carry iw bw); (try replace iA := carry iA bw); have hb3 : Below w0.heap.size w0 w3 := Trm.go (by first | assumption | exact (Below.refl _ _).drew) bw; obtain ⟨x0, y1, y2, y3, y4⟩ := five_cells (Lvl.keep hb3 XA.out); obtain ⟨z0, z1, z2, z3, z4⟩ := five_cells (Lvl.keep hb3 XB.out))
      | (go_at_call 28; (with_reducible refine (A_any (tC sc) (tV 0) hC hv _ iC iv).mono ?_); rintro e w3 ⟨hA, rfl, iA, bw⟩; (try replace iC := carry iC bw); (try replace iv := carry iv bw); (try replace iw := carry iw bw); (try replace iS := carry iS bw); have hb3 : Below w0.heap.size w0 w3 := Trm.go (by first | assumption | exact (Below.refl _ _).drew) bw; obtain ⟨x0, y1, y2, y3, y4⟩ := five_cells (Lvl.keep hb3 XA.out); obtain ⟨z0, z1, z2, z3, z4⟩ := five_cells (Lvl.keep hb3 XB.out))
      | (go_at_call 28; (with_reducible refine (A_any (tV 0) (tV 3) hv hw _ iv iw).mono ?_); rintro e w3 ⟨hA, rfl, iA, bw⟩; (try replace iC := carry iC bw); (try replace iv := carry iv bw); (try replace iw := carry iw bw); (try replace iS := carry iS bw); have hb3 : Below w0.heap.size w0 w3 := Trm.go (by first | assumption | exact (Below.refl _ _).drew) bw; obtain ⟨x0, y1, y2, y3, y4⟩ := five_cells (Lvl.keep hb3 XA.out); obtain ⟨z0, z1, z2, z3, z4⟩ := five_cells (Lvl.keep hb3 XB.out))
      | (go_at_call 30; (with_reducible refine (L_any tS (t2 4 (tV 0) (tV 3)) hS hA _ iS iA).mono ?_); rintro e w3 ⟨hA, rfl, iA2, bw⟩; (try replace iC := carry iC bw); (try replace iv := carry iv bw); (try replace iw := carry iw bw); (try replace iS := carry iS bw); (have iA := iA2); have hb3 : Below w0.heap.size w0 w3 := Trm.go (by first | assumption | exact (Below.refl _ _).drew) bw; obtain ⟨x0, y1, y2, y3, y4⟩ := five_cells (Lvl.keep hb3 XA.out); obtain ⟨z0, z1, z2, z3, z4⟩ := five_cells (Lvl.keep hb3 XB.out))
      | (go_at_call 18; (with_reducible refine (HSM1.out _ _ ?_ ?_).mono ?_); (first | assumption | exact (Below.refl _ _).drew); (exact iA); rintro e w3 ⟨rfl, bw⟩; have hb3 : Below w0.heap.size w0 w3 := Trm.go (by first | assumption | exact (Below.refl _ _).drew) bw; obtain ⟨x0, y1, y2, y3, y4⟩ := five_cells (Lvl.keep hb3 XA.out); obtain ⟨z0, z1, z2, z3, z4⟩ := five_cells (Lvl.keep hb3 XB.out))
      | (go_at_call 18; (with_reducible refine (HSM2.out _ _ ?_ ?_).mono ?_); (first | assumption | exact (Below.refl _ _).drew); (exact iA); rintro e w3 ⟨rfl, bw⟩; have hb3 : Below w0.heap.size w0 w3 := Trm.go (by first | assumption | exact (Below.refl _ _).drew) bw; obtain ⟨x0, y1, y2, y3, y4⟩ := five_cells (Lvl.keep hb3 XA.out); obtain ⟨z0, z1, z2, z3, z4⟩ := five_cells (Lvl.keep hb3 XB.out)))
  go_wp2_with fail
  go_ret
  exact ⟨rfl, Trm.go HB13.out (by assumption)⟩
end Go.Proofs.Ytijdlihodpodjaa
