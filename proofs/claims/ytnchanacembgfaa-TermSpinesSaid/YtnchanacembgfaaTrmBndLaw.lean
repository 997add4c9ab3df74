/-
  battenlaw03.TermBounds: the walk.
-/
import Derived.Test.YtnchanacembgfaaTrmWorks
import Derived.Test.YtnchanacembgfaaTrmBndMath
import Derived.Deep.DeepCutAuto
namespace Go.Proofs.Ytnchanacembgfaa
open Go.RowKit Go.Shelf Lvl Trm

/-- A variable of its own holds a term, whatever is written into it. -/
structure Trm.Var (w wr : World) (b : Nat) (t : Tm) (h : Hd) : Prop where
  bel : Below w.heap.size w wr
  box : wr.heap[b]? = some (t.box h)
  firm : Firm b wr t h
theorem Trm.Var.step {w wr w1 : World} {b : Nat} {t : Tm} {h : Hd} (v : Var w wr b t h) (g : Below wr.heap.size wr w1) : Var w w1 b t h :=
  ⟨Trm.go v.bel g, Lvl.keep g v.box, v.firm.step (Ran.of_below g)⟩
theorem Trm.Var.put {w wr : World} {b : Nat} {t u : Tm} {h hu : Hd} (v : Var w wr b t h) (hb : w.heap.size ≤ b) (f : Firm b wr u hu) :
    Var w (putT wr b (.int .u8 u.k) (.int .i64 u.n) (.string u.s) (.slice hu.lo u.ls.length hu.lc) (.slice hu.to u.ts.length hu.tc)) b u hu :=
  ⟨putT_below v.bel hb _ _ _ _ _, putT_self v.box _ _ _ _ _, f.step (putT_ran _ _ _ _ _ _ _)⟩
theorem Trm.Var.lt {w wr : World} {b : Nat} {t : Tm} {h : Hd} (v : Var w wr b t h) : b < wr.heap.size := (Array.getElem?_eq_some_iff.1 v.box).1

def Trm.LamRel (w : World) (b : Nat) (top : Int) (i : Value) (wr : World) : Prop :=
  ∃ (k : Nat) (h : Hd), i = .int .i64 ((k : Int) + 1) ∧ (k : Int) + 1 ≤ top ∧ Var w wr b (lam k) h

set_option maxRecDepth 100000 in
set_option maxHeartbeats 8000000 in
theorem law_bounds_deep (over : Int) (w : World) (h0 : -128 ≤ over) (h1 : over ≤ 127) :
    Calls Try.prog 9 #[.int .i8 over, .bool false] w fun e w' => e = .returned (.bool true) ∧ Below w.heap.size w w' := by
  go_enter Try.func9, Try.ntmps9
  go_wp2_with fail
  refine (S_safe _).mono ?_
  rintro e w1 ⟨hS, rfl, iS, b1, _⟩
  have hv : Var w (w1.alloc (tS.box hS)) w1.heap.size (lam 0) hS := ⟨b1.trans (Below.mono (below_one _ _) b1.size), World.alloc_heap_new _ _, Firm.of (Tm.In.below (below_one _ _) _ _ iS) (Nat.le_refl _) (by simp)⟩
  have HV0 := Lib.hid hv
  have hz1 := b1.size
  have e1 : tS.val hS = .agg #[.int .u8 tS.k, .int .i64 tS.n, .string tS.s, .slice hS.lo tS.ls.length hS.lc, .slice hS.to tS.ts.length hS.tc] := rfl
  rw [e1]
  clear e1 hv b1 iS
  go_wp2_with fail
  go_loopw [6] (fun i wr => LamRel w w1.heap.size (4096 + over) i wr) (fun i _ => (4096 + over - intOf i).toNat)
  case atStart => exact ⟨0, hS, rfl, by omega, HV0.out⟩
  case round =>
    obtain ⟨k, h, rfl, hk, hvar⟩ := hrel
    have HV := Lib.hid hvar
    obtain ⟨c0, c1, c2, c3, c4⟩ := five_cells (show wr.heap[w1.heap.size]? = some (.cells #[_, _, _, _, _] 42) from hvar.box)
    have hlw := hvar.lt
    clear hvar
    by_cases hlt : (k : Int) + 1 < 4096 + over
    · have HLL := Lib.hid (fun (W : World) (hS : Hd) (h1 : tS.In W.heap.size W hS) (h2 : (lam k).In W.heap.size W h) => (show Calls Try.prog 47 #[tS.val hS, .agg #[.int .u8 (lam k).k, .int .i64 (lam k).n, .string (lam k).s, .slice h.lo (lam k).ls.length h.lc, .slice h.to (lam k).ts.length h.tc]] W (MadeS (lam (k + 1)) W (fun m => Firm m W tS hS ∧ Firm m W (lam k) h)) from L_safe tS (lam k) hS h W h1 h2))
      have HNX : Hid (∀ wr' h', Var w wr' w1.heap.size (lam (k + 1)) h' → LamRel w w1.heap.size (4096 + over) (.int .i64 ((k : Int) + 1 + 1)) wr') := Lib.hid (fun wr' h' hv => ⟨k + 1, h', by go_num, by omega, hv⟩)
      generalize lam k = x at HV c0 c1 c2 c3 c4 HLL
      generalize lam (k + 1) = y at HLL HNX
      go_wp2_with fail
      go_region_with (first
        | (go_at_call 48; refine (S_safe _).mono ?_; rintro e w8 ⟨hS8, rfl, iS, b8, fS⟩
           have HV8 := Lib.hid (HV.out.step (undrew b8))
           have HS8 := Lib.hid iS
           have HF8 := Lib.hid (fS w1.heap.size hlw trivial)
           have hlw8 : w1.heap.size < w8.heap.size := HV8.out.lt
           obtain ⟨d0, d1, d2, d3, d4⟩ := five_cells (show w8.heap[w1.heap.size]? = some (.cells #[_, _, _, _, _] 42) from HV8.out.box)
           clear iS b8 fS)
        | (go_at_call 47; refine (HLL.out _ hS8 HS8.out HV8.out.firm.here).mono ?_; rintro e w9 ⟨h9, rfl, iU, b9, fU⟩
           have HV9 := Lib.hid (HV8.out.step b9)
           have HF9 := Lib.hid (fU w1.heap.size hlw8 ⟨HF8.out, HV8.out.firm⟩)
           have hlw9 : w1.heap.size < w9.heap.size := HV9.out.lt
           obtain ⟨d0, d1, d2, d3, d4⟩ := five_cells (show w9.heap[w1.heap.size]? = some (.cells #[_, _, _, _, _] 42) from HV9.out.box)
           obtain ⟨g0, g1, g2, g3, g4⟩ := five_free (show w9.heap[w1.heap.size]? = some (.cells #[_, _, _, _, _] 42) from HV9.out.box)
           clear iU b9 fU
           dsimp only [Tm.val, Tm.vals]))
      all_goals
        go_wp2_with fail
        go_roundw
        case rel => exact HNX.out _ h9 (HV9.out.put hz1 HF9.out)
        case measure => simp [intOf]; omega
    · have hm := lam_may k (by omega)
      have HM := Lib.hid (PMay_any (lam k) h wr HV.out.firm.here)
      have hr : (lam k).may = decide (over ≤ 0) := by rw [hm, Bool.eq_iff_iff]; simp; omega
      rw [hr] at HM
      unfold Tm.val at HM
      dsimp only [Tm.vals] at HM
      clear hm hr
      generalize lam k = x at HV c0 c1 c2 c3 c4 HM
      go_wp2_with fail
      refine HM.out.mono ?_
      rintro e w2 ⟨rfl, b2⟩
      have HB := Lib.hid (Trm.go HV.out.bel b2)
      clear b2 c0 c1 c2 c3 c4
      go_wp2_with fail
      refine (works_any _).mono ?_
      rintro e w3 ⟨rfl, b3⟩
      have HB3 := Lib.hid (Trm.go HB.out b3)
      clear b3
      go_wp2_with fail
      go_ret
      exact ⟨rfl, HB3.out⟩

def Trm.BtRel (w : World) (b : Nat) (i : Value) (wr : World) : Prop := ∃ (k : Nat) (h : Hd), i = .int .i64 k ∧ k ≤ 14 ∧ Var w wr b (bt k) h
def Trm.PjRel (w : World) (b : Nat) (q : Int) (i v : Value) (wr : World) : Prop :=
  ∃ (j : Nat) (h : Hd), i = .int .i64 j ∧ v = .int .i64 (65535 + (j : Int)) ∧ (j : Int) ≤ 3 + q ∧ Var w wr b (pj (bt 15) j) h

theorem Trm.t1_in {B : Nat} {w : World} {x : Tm} {hx : Hd} {g : Nat} {ty : TypeId} {fr : Nat × Nat} (hg : w.heap[g]? = some (.cells (x.vals hx) ty fr)) (hB : g < B) (h1 : x.In B w hx) :
    (Tm.mk 8 0 ss [] [x]).In B w ⟨none, 0, some ⟨g, 0, none⟩, 1⟩ := by
  refine Tm.In_iff.2 ⟨⟨by simp [Tm.k], by simp [Tm.k], by simp [Tm.n], by simp [Tm.n], by simp [Tm.s, ss, ByteArray.size], by simp [Tm.ls], by simp [Tm.ts]⟩, ⟨fun k hk => by simp [Tm.ls] at hk⟩, fun hn => by simp [Tm.ls] at hn, ?_⟩
  refine RowIn.mk fun i hi => ?_
  have hi0 : i = 0 := by simp [Tm.ts] at hi; omega
  subst hi0
  refine ⟨g, 0, rfl, hB, hx, ⟨?_, ?_, ?_, ?_, ?_⟩, h1⟩ <;> (simp [World.cell?, hg, Tm.vals, Tm.ts])
theorem Trm.Var.proj {w wr : World} {b : Nat} {x : Tm} {h : Hd} (v : Var w wr b x h) (hb : w.heap.size ≤ b) :
    Var w ((putT wr b (.int .u8 8) (.int .i64 0) (.string ss) (.slice none 0 0) (.slice (some ⟨wr.heap.size, 0, none⟩) 1 1)).alloc (.cells (x.vals h) 42)) b (.mk 8 0 ss [] [x]) ⟨none, 0, some ⟨wr.heap.size, 0, none⟩, 1⟩ := by
  have hz := putT_size wr b (.int .u8 8) (.int .i64 0) (.string ss) (.slice none 0 0) (.slice (some ⟨wr.heap.size, 0, none⟩) 1 1)
  have hl := v.lt
  have hn := World.alloc_heap_new (putT wr b (.int .u8 8) (.int .i64 0) (.string ss) (.slice none 0 0) (.slice (some ⟨wr.heap.size, 0, none⟩) 1 1)) (.cells (x.vals h) 42)
  rw [hz] at hn
  refine ⟨(putT_below v.bel hb _ _ _ _ _).alloc (putT_below v.bel hb _ _ _ _ _).size _, keepA (putT_self v.box _ _ _ _ _) _, fun w' hr => ?_⟩
  have hs := hr.size
  rw [World.size_alloc, hz] at hs
  exact t1_in (hr.keep hn (by omega)) (by omega) (v.firm w' (((putT_ran _ _ _ _ _ _ _).trans (Ran.of_below (below_one _ _))).trans hr))

set_option maxRecDepth 100000 in
set_option maxHeartbeats 8000000 in
theorem law_bounds_wide (over : Int) (w : World) (h0 : -128 ≤ over) (h1 : over ≤ 127) :
    Calls Try.prog 9 #[.int .i8 over, .bool true] w fun e w' => e = .returned (.bool true) ∧ Below w.heap.size w w' := by
  have hq0 : -3 ≤ over.tmod 4 := by have := Int.lt_tmod_of_pos over (show (0 : Int) < 4 by decide); omega
  have hq1 : over.tmod 4 ≤ 3 := by have := Int.tmod_lt_of_pos over (show (0 : Int) < 4 by decide); omega
  go_enter Try.func9, Try.ntmps9
  go_wp2_with fail
  refine (V_any 0 _ (by decide) (by decide)).mono ?_
  rintro e w1 ⟨hS, rfl, iS, b1⟩
  have hv : Var w (w1.alloc ((tV 0).box hS)) w1.heap.size (bt 0) hS := ⟨b1.trans (Below.mono (below_one _ _) b1.size), World.alloc_heap_new _ _, Firm.of (Tm.In.below (below_one _ _) _ _ iS) (Nat.le_refl _) (by simp)⟩
  have HV0 := Lib.hid hv
  have hz1 := b1.size
  have e1 : (tV 0).val hS = .agg #[.int .u8 (tV 0).k, .int .i64 (tV 0).n, .string (tV 0).s, .slice hS.lo (tV 0).ls.length hS.lc, .slice hS.to (tV 0).ts.length hS.tc] := rfl
  rw [e1]
  clear e1 hv b1 iS
  go_wp2_with fail
  go_loopw [8] (fun i wr => BtRel w w1.heap.size i wr) (fun i _ => 14 - (intOf i).toNat)
  case atStart => exact ⟨0, hS, rfl, by omega, HV0.out⟩
  case round =>
    obtain ⟨k, h, rfl, hk, hvar⟩ := hrel
    have HV := Lib.hid hvar
    obtain ⟨c0, c1, c2, c3, c4⟩ := five_cells (show wr.heap[w1.heap.size]? = some (.cells #[_, _, _, _, _] 42) from hvar.box)
    have hlw := hvar.lt
    clear hvar
    by_cases hlt : k < 14
    · have HLL := Lib.hid (fun (W : World) (h1 : (bt k).In W.heap.size W h) => (show Calls Try.prog 49 #[.agg #[.int .u8 (bt k).k, .int .i64 (bt k).n, .string (bt k).s, .slice h.lo (bt k).ls.length h.lc, .slice h.to (bt k).ts.length h.tc], .agg #[.int .u8 (bt k).k, .int .i64 (bt k).n, .string (bt k).s, .slice h.lo (bt k).ls.length h.lc, .slice h.to (bt k).ts.length h.tc]] W (MadeS (bt (k + 1)) W (fun m => Firm m W (bt k) h ∧ Firm m W (bt k) h)) from A_safe (bt k) (bt k) h h W h1 h1))
      have HNX : Hid (∀ wr' h', Var w wr' w1.heap.size (bt (k + 1)) h' → BtRel w w1.heap.size (.int .i64 ((k : Int) + 1)) wr') := Lib.hid (fun wr' h' hv => ⟨k + 1, h', by go_num, by omega, hv⟩)
      generalize bt k = x at HV c0 c1 c2 c3 c4 HLL
      generalize bt (k + 1) = y at HLL HNX
      go_wp2_with fail
      refine (HLL.out _ HV.out.firm.here).mono ?_
      rintro e w9 ⟨h9, rfl, iU, b9, fU⟩
      have HV9 := Lib.hid (HV.out.step b9)
      have HF9 := Lib.hid (fU w1.heap.size hlw ⟨HV.out.firm, HV.out.firm⟩)
      have hlw9 : w1.heap.size < w9.heap.size := HV9.out.lt
      clear c0 c1 c2 c3 c4
      obtain ⟨d0, d1, d2, d3, d4⟩ := five_cells (show w9.heap[w1.heap.size]? = some (.cells #[_, _, _, _, _] 42) from HV9.out.box)
      obtain ⟨g0, g1, g2, g3, g4⟩ := five_free (show w9.heap[w1.heap.size]? = some (.cells #[_, _, _, _, _] 42) from HV9.out.box)
      clear iU b9 fU
      dsimp only [Tm.val, Tm.vals]
      go_wp2_with fail
      go_roundw
      case rel => exact HNX.out _ h9 (HV9.out.put hz1 HF9.out)
      case measure => simp [intOf]; omega
    · obtain rfl : k = 14 := by omega
      clear hlt hk
      have HSZ := Lib.hid (fun (W : World) (hi : (bt 14).In W.heap.size W h) => (show Calls Try.prog 40 #[.agg #[.int .u8 (bt 14).k, .int .i64 (bt 14).n, .string (bt 14).s, .slice h.lo (bt 14).ls.length h.lc, .slice h.to (bt 14).ts.length h.tc]] W fun e w' => e = .returned (.int .i64 32767) ∧ Below W.heap.size W w' from bt_14 ▸ Size_any (bt 14) h W (by rw [bt_14]; omega) hi))
      have HLL := Lib.hid (fun (W : World) (h1 : (bt 14).In W.heap.size W h) => (show Calls Try.prog 49 #[.agg #[.int .u8 (bt 14).k, .int .i64 (bt 14).n, .string (bt 14).s, .slice h.lo (bt 14).ls.length h.lc, .slice h.to (bt 14).ts.length h.tc], .agg #[.int .u8 (bt 14).k, .int .i64 (bt 14).n, .string (bt 14).s, .slice h.lo (bt 14).ls.length h.lc, .slice h.to (bt 14).ts.length h.tc]] W (MadeS (pj (bt 15) 0) W (fun m => Firm m W (bt 14) h ∧ Firm m W (bt 14) h)) from A_safe (bt 14) (bt 14) h h W h1 h1))
      have HPM := Lib.hid pj_may
      generalize bt 14 = x at HV c0 c1 c2 c3 c4 HLL HSZ
      have HPJ : Hid (∀ n, pj (bt 15) (n + 1) = .mk 8 0 ss [] [pj (bt 15) n]) := Lib.hid (fun n => rfl)
      have HRL : Hid (∀ (q : Int) (b : Nat) (i v : Value) (wr : World), (∃ (j : Nat) (h : Hd), i = .int .i64 j ∧ v = .int .i64 (65535 + (j : Int)) ∧ (j : Int) ≤ 3 + q ∧ Var w wr b (pj (bt 15) j) h) → PjRel w b q i v wr) := Lib.hid (fun _ _ _ _ _ h => h)
      go_wp2_with fail
      refine (HSZ.out _ HV.out.firm.here).mono ?_
      rintro e w2 ⟨rfl, b2⟩
      have HV2 := Lib.hid (HV.out.step b2)
      clear c0 c1 c2 c3 c4 b2
      obtain ⟨c0, c1, c2, c3, c4⟩ := five_cells (show w2.heap[w1.heap.size]? = some (.cells #[_, _, _, _, _] 42) from HV2.out.box)
      go_wp2_with fail
      refine (HLL.out _ HV2.out.firm.here).mono ?_
      rintro e w3 ⟨h3, rfl, i3, b3, _⟩
      have hz3 : w.heap.size ≤ w3.heap.size := Nat.le_trans HV2.out.bel.size b3.size
      have HU := Lib.hid (show Var w (w3.alloc ((pj (bt 15) 0).box h3)) w3.heap.size (pj (bt 15) 0) h3 from ⟨(Trm.go HV2.out.bel b3).trans (Below.mono (below_one _ _) hz3), World.alloc_heap_new _ _, Firm.of (Tm.In.below (below_one _ _) _ _ i3) (Nat.le_refl _) (by simp)⟩)
      clear b3 i3 c0 c1 c2 c3 c4
      generalize hp0 : pj (bt 15) 0 = u0 at HU
      have e3 : u0.val h3 = .agg #[.int .u8 u0.k, .int .i64 u0.n, .string u0.s, .slice h3.lo u0.ls.length h3.lc, .slice h3.to u0.ts.length h3.tc] := rfl
      rw [e3]
      clear e3
      have HU0 := Lib.hid (show Var w (w3.alloc (u0.box h3)) w3.heap.size (pj (bt 15) 0) h3 by rw [hp0]; exact HU.out)
      clear hp0
      go_wp2_with fail
      go_loopw [12, 11] (fun i v wr => PjRel w w3.heap.size (over.tmod 4) i v wr) (fun i _ _ => 10 - (intOf i).toNat)
      case atStart => exact ⟨0, h3, rfl, by go_num, by omega, HU0.out⟩
      case round =>
        clear HV HV2 HU HU0 HLL HSZ
        obtain ⟨j, h, rfl, rfl, hj, hvar⟩ := hrel
        have HV := Lib.hid hvar
        obtain ⟨c0, c1, c2, c3, c4⟩ := five_cells (show wr.heap[w3.heap.size]? = some (.cells #[_, _, _, _, _] 42) from hvar.box)
        obtain ⟨g0, g1, g2, g3, g4⟩ := five_free (show wr.heap[w3.heap.size]? = some (.cells #[_, _, _, _, _] 42) from hvar.box)
        have hlw := hvar.lt
        clear hvar
        by_cases hlt : (j : Int) < 3 + over.tmod 4
        · have HNX : Hid (∀ wr' h', Var w wr' w3.heap.size (.mk 8 0 ss [] [pj (bt 15) j]) h' → PjRel w w3.heap.size (over.tmod 4) (.int .i64 ((j : Int) + 1)) (.int .i64 (65535 + (j : Int) + 1)) wr') := Lib.hid (fun wr' h' hv => ⟨j + 1, h', by go_num, by go_num, by omega, hv⟩)
          generalize pj (bt 15) j = x at HV c0 c1 c2 c3 c4 HNX
          go_wp2_with fail
          go_roundw
          case rel => exact HNX.out _ _ (HV.out.proj hz3)
          case measure => simp [intOf]; omega
        · have hm := HPM.out j (by omega)
          have HM := Lib.hid (PMay_any (pj (bt 15) j) h wr HV.out.firm.here)
          rw [hm] at HM
          unfold Tm.val at HM
          dsimp only [Tm.vals] at HM
          clear hm
          generalize pj (bt 15) j = x at HV c0 c1 c2 c3 c4 HM
          go_wp2_with fail
          refine HM.out.mono ?_
          rintro e w4 ⟨rfl, b4⟩
          have HB := Lib.hid (Trm.go HV.out.bel b4)
          clear b4 c0 c1 c2 c3 c4
          go_wp2_with fail
          refine (works_any _).mono ?_
          rintro e w5 ⟨rfl, b5⟩
          have HB3 := Lib.hid (Trm.go HB.out b5)
          clear b5
          go_wp2_with fail
          go_ret
          exact ⟨rfl, HB3.out⟩
end Go.Proofs.Ytnchanacembgfaa
