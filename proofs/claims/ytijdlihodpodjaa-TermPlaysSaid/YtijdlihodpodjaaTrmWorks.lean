/-
  battenlaw03.works: the chapter's example.
-/
import Derived.Test.YtijdlihodpodjaaTrmSpine
import Derived.Test.YtijdlihodpodjaaTrmPSame
import Derived.Test.YtijdlihodpodjaaTrmFree
namespace Go.Proofs.Ytijdlihodpodjaa
open Go.RowKit Go.Shelf Lvl Trm

theorem Trm.carry {t : Tm} {h : Hd} {w w' : World} (hi : t.In w.heap.size w h) (b : Below w.heap.size w w') : t.In w'.heap.size w' h := Tm.In.mono b.size _ _ (Tm.In.below b _ _ hi)
theorem Trm.go {w W w1 : World} (h : Below w.heap.size w W) (b : Below W.heap.size W w1) : Below w.heap.size w w1 := h.trans (b.mono h.size)

theorem Trm.appl_snoc (g : Tm) (m : List Tm) (x : Tm) : appl g (m ++ [x]) = t2 4 (appl g m) x := by simp [appl]
theorem Trm.t2_inj {f x f' x' : Tm} (h : t2 4 f x = t2 4 f' x') : f = f' ∧ x = x' := by
  unfold t2 at h
  injection h with _ _ _ _ h5
  injection h5 with h6 h7
  injection h7 with h8
  exact ⟨h6, h8⟩
theorem Trm.appl_uniq {g g' : Tm} (hg : g.k ≠ 4) (hg' : g'.k ≠ 4) : ∀ (r r' : List Tm), appl g r.reverse = appl g' r'.reverse → g = g' ∧ r = r'
  | [], [], h => ⟨h, rfl⟩
  | [], x :: r', h => by
    rw [List.reverse_cons, appl_snoc] at h
    exact absurd (show g.k = 4 by rw [show g = _ from h]; rfl) hg
  | x :: r, [], h => by
    rw [List.reverse_cons, appl_snoc] at h
    exact absurd (show g'.k = 4 by rw [← show _ = g' from h]; rfl) hg'
  | x :: r, y :: r', h => by
    rw [List.reverse_cons, List.reverse_cons, appl_snoc, appl_snoc] at h
    obtain ⟨h1, h2⟩ := t2_inj h
    obtain ⟨h3, h4⟩ := Trm.appl_uniq hg hg' r r' h1
    exact ⟨h3, by rw [h2, h4]⟩
theorem Trm.appl_same {g g' : Tm} {m m' : List Tm} (hg : g.k ≠ 4) (hg' : g'.k ≠ 4) (h : appl g m = appl g' m') : g = g' ∧ m = m' := by
  have := appl_uniq hg hg' m.reverse m'.reverse (by simpa using h)
  exact ⟨this.1, List.reverse_inj.1 this.2⟩

def Trm.sf : ByteArray := ⟨#[102]⟩
def Trm.w1t : Tm := t2 5 tS (t2 4 (tV 0) (tV 1))
def Trm.w2t : Tm := t2 4 (t2 4 (tC sf) (tV 0)) (tV 1)
def Trm.zeroTm : Tm := .mk 0 0 no [] []

theorem Trm.w2_spine {g : Tm} {m : List Tm} (h : w2t = appl g m) (hg : g.k ≠ 4) : g = tC sf ∧ m = [tV 0, tV 1] :=
  appl_same hg (by decide) (h.symm.trans rfl)

set_option maxRecDepth 100000 in
set_option maxHeartbeats 8000000 in
theorem works_any (w : World) :
    Calls Try.prog 12 #[] w fun e w' => e = .returned (.bool true) ∧ Below w.heap.size w w' := by
  go_enter Try.func12, Try.ntmps12
  go_wp2_with fail
  refine (S_any _).mono ?_
  rintro e w1 ⟨hS, rfl, iS, b1⟩
  have B1 := Lib.hid b1
  have I1 := Lib.hid iS
  clear b1 iS
  go_wp2_with fail
  refine (V_any 0 _ (by decide) (by decide)).mono ?_
  rintro e w2 ⟨h0, rfl, i0, b2⟩
  have B2 := Lib.hid (go B1.out b2)
  have I2 := Lib.hid (carry I1.out b2)
  have J2 := Lib.hid i0
  clear b2 i0 B1 I1
  go_wp2_with fail
  refine (V_any 1 _ (by decide) (by decide)).mono ?_
  rintro e w3 ⟨h1, rfl, i1, b3⟩
  have B3 := Lib.hid (go B2.out b3)
  have I3 := Lib.hid (carry I2.out b3)
  have J3 := Lib.hid (carry J2.out b3)
  have K3 := Lib.hid i1
  clear b3 i1 B2 I2 J2
  go_wp2_with fail
  refine (A_any _ _ _ _ _ J3.out K3.out).mono ?_
  rintro e w4 ⟨h4, rfl, i4, b4⟩
  have B4 := Lib.hid (go B3.out b4)
  have I4 := Lib.hid (carry I3.out b4)
  have J4 := Lib.hid i4
  clear b4 i4 B3 I3 J3 K3
  go_wp2_with fail
  refine (L_any _ _ _ _ _ I4.out J4.out).mono ?_
  rintro e w5 ⟨h5, rfl, i5, b5⟩
  have B5 := Lib.hid (go (go B4.out b5) (below_one w5 (w1t.box h5)))
  have I5 := Lib.hid (show w1t.In _ _ _ from carry i5 (below_one w5 (w1t.box h5)))
  have X5 := Lib.hid (World.alloc_heap_new w5 (w1t.box h5))
  clear b5 i5 B4 I4 J4
  change Hid (Below w.heap.size w (w5.alloc (w1t.box h5))) at B5
  have e5 : (t2 5 tS (t2 4 (tV 0) (tV 1))).val h5 = .agg #[.int .u8 w1t.k, .int .i64 w1t.n, .string w1t.s, .slice h5.lo w1t.ls.length h5.lc, .slice h5.to w1t.ts.length h5.tc] := rfl
  rw [e5]
  clear e5
  go_wp2_with fail
  refine (C_any sf _ (by decide)).mono ?_
  rintro e w6 ⟨hf, rfl, i6, b6⟩
  have B6 := Lib.hid (go B5.out b6)
  have I6 := Lib.hid (carry I5.out b6)
  have X6 := Lib.hid (Lvl.keep b6 X5.out)
  have J6 := Lib.hid i6
  clear b6 i6 B5 I5 X5
  go_wp2_with fail
  refine (V_any 0 _ (by decide) (by decide)).mono ?_
  rintro e w7 ⟨h6, rfl, i7, b7⟩
  have B7 := Lib.hid (go B6.out b7)
  have I7 := Lib.hid (carry I6.out b7)
  have X7 := Lib.hid (Lvl.keep b7 X6.out)
  have J7 := Lib.hid (carry J6.out b7)
  have K7 := Lib.hid i7
  clear b7 i7 B6 I6 X6 J6
  go_wp2_with fail
  refine (A_any _ _ _ _ _ J7.out K7.out).mono ?_
  rintro e w8 ⟨h7, rfl, i8, b8⟩
  have B8 := Lib.hid (go B7.out b8)
  have I8 := Lib.hid (carry I7.out b8)
  have X8 := Lib.hid (Lvl.keep b8 X7.out)
  have J8 := Lib.hid i8
  clear b8 i8 B7 I7 X7 J7 K7
  go_wp2_with fail
  refine (V_any 1 _ (by decide) (by decide)).mono ?_
  rintro e w9 ⟨h8, rfl, i9, b9⟩
  have B9 := Lib.hid (go B8.out b9)
  have I9 := Lib.hid (carry I8.out b9)
  have X9 := Lib.hid (Lvl.keep b9 X8.out)
  have J9 := Lib.hid (carry J8.out b9)
  have K9 := Lib.hid i9
  clear b9 i9 B8 I8 X8 J8
  go_wp2_with fail
  refine (A_any _ _ _ _ _ J9.out K9.out).mono ?_
  rintro e w10 ⟨h9, rfl, i10, b10⟩
  have B10 := Lib.hid (go B9.out b10)
  have I10 := Lib.hid (carry I9.out b10)
  have X10 := Lib.hid (Lvl.keep b10 X9.out)
  have J10 := Lib.hid i10
  clear b10 i10 B9 I9 X9 J9 K9
  go_wp2_with fail
  refine (Spine_yes w2t h9 _ J10.out (by kernel_rfl)).mono ?_
  rintro e w11 ⟨g, hg, m, ao, cap, rfl, hap, hgk, iG, iR, hml, b11⟩
  obtain ⟨rfl, rfl⟩ := w2_spine hap hgk
  have B11 := Lib.hid (go B10.out b11)
  have I11 := Lib.hid (carry I10.out b11)
  have X11 := Lib.hid (Lvl.keep b11 X10.out)
  have J11 := Lib.hid iG
  have R11 := Lib.hid iR
  clear b11 iG iR hap hgk hml B10 I10 X10 J10
  have e11 : (tC sf).val hg = .agg #[.int .u8 (tC sf).k, .int .i64 (tC sf).n, .string (tC sf).s, .slice hg.lo (tC sf).ls.length hg.lc, .slice hg.to (tC sf).ts.length hg.tc] := rfl
  rw [e11]
  clear e11
  go_wp2_with fail
  obtain ⟨w0, hw0⟩ : ∃ w0, w0 = w11.alloc ((tC sf).box hg) := ⟨_, rfl⟩
  have hba : Below w11.heap.size w11 w0 := hw0 ▸ below_one _ _
  have B12 := Lib.hid (go B11.out hba)
  have I12 := Lib.hid (carry I11.out hba)
  have XA := Lib.hid (Lvl.keep hba X11.out)
  have XB := Lib.hid (show w0.heap[w11.heap.size]? = some ((tC sf).box hg) from hw0 ▸ World.alloc_heap_new w11 _)
  have J12 := Lib.hid (carry J11.out hba)
  obtain ⟨bl, ol, rfl, hal⟩ := R11.out.place 1 (by simp)
  obtain ⟨hbl', hl, hcl', _⟩ := hal
  have hcl : w0.cell? ⟨bl, ol + 5 + 1, none⟩ = some (.int .i64 1) := by
    have h1 := (hba.cell (p := ⟨bl, ol + (0 + 1) * 5 + 1, none⟩) hbl').trans hcl'.c1
    simpa [tV, Tm.n] using h1
  have hbl : bl < w0.heap.size := Nat.lt_of_lt_of_le hbl' hba.size
  clear hba hcl' hbl' B11 I11 X11 J11 R11
  have HM1 := Lib.hid (fun (W : World) (hW : Below w0.heap.size w0 W) => (show Calls Try.prog 14 #[.agg #[.int .u8 w1t.k, .int .i64 w1t.n, .string w1t.s, .slice h5.lo w1t.ls.length h5.lc, .slice h5.to w1t.ts.length h5.tc]] W fun e w' => e = .returned (.bool true) ∧ Below W.heap.size W w' from (show w1t.may = true by kernel_rfl) ▸ PMay_any w1t h5 W (carry I12.out hW)))
  have HSZ := Lib.hid (fun (W : World) (hW : Below w0.heap.size w0 W) => (show Calls Try.prog 19 #[.agg #[.int .u8 w1t.k, .int .i64 w1t.n, .string w1t.s, .slice h5.lo w1t.ls.length h5.lc, .slice h5.to w1t.ts.length h5.tc]] W fun e w' => e = .returned (.int .i64 5) ∧ Below W.heap.size W w' from (show w1t.count = 5 by kernel_rfl) ▸ PSize_any w1t h5 W (carry I12.out hW)))
  have HFR := Lib.hid (fun (W : World) (hW : Below w0.heap.size w0 W) => (show Calls Try.prog 20 #[.agg #[.int .u8 w1t.k, .int .i64 w1t.n, .string w1t.s, .slice h5.lo w1t.ls.length h5.lc, .slice h5.to w1t.ts.length h5.tc]] W fun e w' => e = .returned (.int .i64 1) ∧ Below W.heap.size W w' from (show w1t.free = 1 by kernel_rfl) ▸ PFree_any w1t h5 W (carry I12.out hW)))
  have HH0 := Lib.hid (fun (W : World) (hW : Below w0.heap.size w0 W) => (show Calls Try.prog 21 #[.agg #[.int .u8 w1t.k, .int .i64 w1t.n, .string w1t.s, .slice h5.lo w1t.ls.length h5.lc, .slice h5.to w1t.ts.length h5.tc], .int .i64 0] W fun e w' => e = .returned (.bool true) ∧ Below W.heap.size W w' from (show w1t.has 0 = true by kernel_rfl) ▸ PHas_any w1t h5 0 W (carry I12.out hW)))
  have HH1 := Lib.hid (fun (W : World) (hW : Below w0.heap.size w0 W) => (show Calls Try.prog 21 #[.agg #[.int .u8 w1t.k, .int .i64 w1t.n, .string w1t.s, .slice h5.lo w1t.ls.length h5.lc, .slice h5.to w1t.ts.length h5.tc], .int .i64 1] W fun e w' => e = .returned (.bool false) ∧ Below W.heap.size W w' from (show w1t.has 1 = false by kernel_rfl) ▸ PHas_any w1t h5 1 W (carry I12.out hW)))
  have HMZ := Lib.hid (fun (W : World) (hW : Below w0.heap.size w0 W) => (show Calls Try.prog 14 #[.agg #[.int .u8 0, .int .i64 0, .string ⟨#[]⟩, .slice none 0 0, .slice none 0 0]] W fun e w' => e = .returned (.bool false) ∧ Below W.heap.size W w' from (show zeroTm.may = false by kernel_rfl) ▸ PMay_any zeroTm ⟨none, 0, none, 0⟩ W (leaf_in (by decide) (by decide) (by decide) (by decide) (by decide))))
  have HC := Lib.hid (fun (W : World) (_ : Below w0.heap.size w0 W) => (show Calls Try.prog 65 #[.string ⟨#[102]⟩] W (Made (tC sf) W) from C_any sf W (by decide)))
  have HSM := Lib.hid (fun (W : World) (hf : Hd) (hW : Below w0.heap.size w0 W) (hi : (tC sf).In W.heap.size W hf) => (show Calls Try.prog 17 #[.agg #[.int .u8 (tC sf).k, .int .i64 (tC sf).n, .string (tC sf).s, .slice hg.lo (tC sf).ls.length hg.lc, .slice hg.to (tC sf).ts.length hg.tc], (tC sf).val hf] W fun e w' => e = .returned (.bool true) ∧ Below W.heap.size W w' from
    (show ((tC sf).may && same (tC sf) (tC sf)) = true by rw [show (tC sf).may = true by kernel_rfl, same_iff.2 rfl]; rfl) ▸ PSame_any (tC sf) (tC sf) hg hf W (carry J12.out hW) hi))
  obtain ⟨x0, x1, x2, x3, x4⟩ := five_cells XA.out
  obtain ⟨y0, y1, y2, y3, y4⟩ := five_cells XB.out
  have hbz : Below w0.heap.size w0 w0.drew := (Below.refl _ _).drew
  have ew : w11.alloc (.cells #[.int .u8 (tC sf).k, .int .i64 (tC sf).n, .string (tC sf).s, .slice hg.lo (tC sf).ls.length hg.lc, .slice hg.to (tC sf).ts.length hg.tc] 25) = w0 := hw0.symm
  rw [ew]
  clear hw0 ew
  go_region_held3 (fun w' => Below w0.heap.size w0 w' ∧ w'.cell? ⟨w5.heap.size, 0, none⟩ = some (.int .u8 w1t.k) ∧ w'.cell? ⟨w5.heap.size, 1, none⟩ = some (.int .i64 w1t.n) ∧ w'.cell? ⟨w5.heap.size, 2, none⟩ = some (.string w1t.s) ∧ w'.cell? ⟨w5.heap.size, 3, none⟩ = some (.slice h5.lo w1t.ls.length h5.lc) ∧ w'.cell? ⟨w5.heap.size, 4, none⟩ = some (.slice h5.to w1t.ts.length h5.tc) ∧ w'.cell? ⟨w11.heap.size, 0, none⟩ = some (.int .u8 (tC sf).k) ∧ w'.cell? ⟨w11.heap.size, 1, none⟩ = some (.int .i64 (tC sf).n) ∧ w'.cell? ⟨w11.heap.size, 2, none⟩ = some (.string (tC sf).s) ∧ w'.cell? ⟨w11.heap.size, 3, none⟩ = some (.slice hg.lo (tC sf).ls.length hg.lc) ∧ w'.cell? ⟨w11.heap.size, 4, none⟩ = some (.slice hg.to (tC sf).ts.length hg.tc) ∧ w'.cell? ⟨bl, ol + 5 + 1, none⟩ = some (.int .i64 1))
    (go_keep)
    (first
      | (go_at_call 14; (with_reducible refine (HM1.out _ ?_).mono ?_); (first | assumption | exact (Below.refl _ _).drew); rintro e w3 ⟨rfl, bw⟩; have hb3 : Below w0.heap.size w0 w3 := go (by first | assumption | exact (Below.refl _ _).drew) bw; obtain ⟨x0, x1, x2, x3, x4⟩ := five_cells (Lvl.keep hb3 XA.out); obtain ⟨y0, y1, y2, y3, y4⟩ := five_cells (Lvl.keep hb3 XB.out); have z1 := (hb3.cell (p := ⟨bl, ol + 5 + 1, none⟩) hbl).trans hcl)
      | (go_at_call 19; (with_reducible refine (HSZ.out _ ?_).mono ?_); (first | assumption | exact (Below.refl _ _).drew); rintro e w3 ⟨rfl, bw⟩; have hb3 : Below w0.heap.size w0 w3 := go (by first | assumption | exact (Below.refl _ _).drew) bw; obtain ⟨x0, x1, x2, x3, x4⟩ := five_cells (Lvl.keep hb3 XA.out); obtain ⟨y0, y1, y2, y3, y4⟩ := five_cells (Lvl.keep hb3 XB.out); have z1 := (hb3.cell (p := ⟨bl, ol + 5 + 1, none⟩) hbl).trans hcl)
      | (go_at_call 20; (with_reducible refine (HFR.out _ ?_).mono ?_); (first | assumption | exact (Below.refl _ _).drew); rintro e w3 ⟨rfl, bw⟩; have hb3 : Below w0.heap.size w0 w3 := go (by first | assumption | exact (Below.refl _ _).drew) bw; obtain ⟨x0, x1, x2, x3, x4⟩ := five_cells (Lvl.keep hb3 XA.out); obtain ⟨y0, y1, y2, y3, y4⟩ := five_cells (Lvl.keep hb3 XB.out); have z1 := (hb3.cell (p := ⟨bl, ol + 5 + 1, none⟩) hbl).trans hcl)
      | (go_at_call 21; (with_reducible refine (HH0.out _ ?_).mono ?_); (first | assumption | exact (Below.refl _ _).drew); rintro e w3 ⟨rfl, bw⟩; have hb3 : Below w0.heap.size w0 w3 := go (by first | assumption | exact (Below.refl _ _).drew) bw; obtain ⟨x0, x1, x2, x3, x4⟩ := five_cells (Lvl.keep hb3 XA.out); obtain ⟨y0, y1, y2, y3, y4⟩ := five_cells (Lvl.keep hb3 XB.out); have z1 := (hb3.cell (p := ⟨bl, ol + 5 + 1, none⟩) hbl).trans hcl)
      | (go_at_call 21; (with_reducible refine (HH1.out _ ?_).mono ?_); (first | assumption | exact (Below.refl _ _).drew); rintro e w3 ⟨rfl, bw⟩; have hb3 : Below w0.heap.size w0 w3 := go (by first | assumption | exact (Below.refl _ _).drew) bw; obtain ⟨x0, x1, x2, x3, x4⟩ := five_cells (Lvl.keep hb3 XA.out); obtain ⟨y0, y1, y2, y3, y4⟩ := five_cells (Lvl.keep hb3 XB.out); have z1 := (hb3.cell (p := ⟨bl, ol + 5 + 1, none⟩) hbl).trans hcl)
      | (go_at_call 14; (with_reducible refine (HMZ.out _ ?_).mono ?_); (first | assumption | exact (Below.refl _ _).drew); rintro e w3 ⟨rfl, bw⟩; have hb3 : Below w0.heap.size w0 w3 := go (by first | assumption | exact (Below.refl _ _).drew) bw; obtain ⟨x0, x1, x2, x3, x4⟩ := five_cells (Lvl.keep hb3 XA.out); obtain ⟨y0, y1, y2, y3, y4⟩ := five_cells (Lvl.keep hb3 XB.out); have z1 := (hb3.cell (p := ⟨bl, ol + 5 + 1, none⟩) hbl).trans hcl)
      | (go_at_call 65; (with_reducible refine (HC.out _ ?_).mono ?_); (first | assumption | exact (Below.refl _ _).drew); rintro e w3 ⟨hf, rfl, iF, bw⟩; have hb3 : Below w0.heap.size w0 w3 := go (by first | assumption | exact (Below.refl _ _).drew) bw; obtain ⟨x0, x1, x2, x3, x4⟩ := five_cells (Lvl.keep hb3 XA.out); obtain ⟨y0, y1, y2, y3, y4⟩ := five_cells (Lvl.keep hb3 XB.out); have z1 := (hb3.cell (p := ⟨bl, ol + 5 + 1, none⟩) hbl).trans hcl)
      | (go_at_call 17; (with_reducible refine (HSM.out _ _ ?_ ?_).mono ?_); (first | assumption | exact (Below.refl _ _).drew); (exact iF); rintro e w3 ⟨rfl, bw⟩; have hb3 : Below w0.heap.size w0 w3 := go (by first | assumption | exact (Below.refl _ _).drew) bw; obtain ⟨x0, x1, x2, x3, x4⟩ := five_cells (Lvl.keep hb3 XA.out); obtain ⟨y0, y1, y2, y3, y4⟩ := five_cells (Lvl.keep hb3 XB.out); have z1 := (hb3.cell (p := ⟨bl, ol + 5 + 1, none⟩) hbl).trans hcl))
  go_wp2_with fail
  go_ret
  exact ⟨rfl, go B12.out (by assumption)⟩
end Go.Proofs.Ytijdlihodpodjaa
