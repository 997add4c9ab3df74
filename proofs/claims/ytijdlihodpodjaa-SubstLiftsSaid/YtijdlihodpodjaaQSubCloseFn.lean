/-
  subst.Close.
-/
import Derived.Test.YtijdlihodpodjaaQSubC
namespace Go.Proofs.Ytijdlihodpodjaa
open Go.RowKit Go.Shelf Lvl Trm

/-- What Close answers. -/
def Trm.closeAns (t : Tm) (q : Int) : Tm × Int := if q < 0 ∨ t.may = false then (zeroT, 1) else if (t.put (gClose q) 0).may = true then (t.put (gClose q) 0, 0) else (zeroT, 4)
theorem Close_ans {t : Tm} {q : Int} (hmay : t.may = true) (hfr : ¬ q < 0) : ansT (tAns t (t.thr (lfFree (toClose q)) () 0)) (t.thr (lfFree (toClose q)) () 0).2.1 = closeAns t q := by
  obtain ⟨h1, h2⟩ := thr_close hmay q
  unfold closeAns
  rw [if_neg (by rw [hmay]; simp; omega)]
  unfold tAns ansT
  rw [h1, h2]
  simp
/-- Where the closure of Close and what it holds lie. -/
def Trm.CloseInv (q : Int) (C K : Nat) (_ : Unit) (w : World) : Prop := w.heap[C]? = some (.cells #[.func (.func 88) #[] #[.pointer (some ⟨K, 0, none⟩)]] 103) ∧ w.heap[K]? = some (.cells #[.int .i64 q] 3)
theorem Trm.CloseInv.keep {q : Int} {C K N : Nat} (hC : C < N) (hK : K < N) (st : Unit) (w w' : World) (h : CloseInv q C K st w) (b : Below N w w') : CloseInv q C K st w' :=
  ⟨(b.block _ hC).trans h.1, (b.block _ hK).trans h.2⟩

set_option maxRecDepth 100000 in
set_option maxHeartbeats 1000000 in
theorem close1_any (q : Int) {B N C K : Nat} (hC : C < N) (hK : K < N) (st : Unit) (v u : Int) (w : World) (hi : CloseInv q C K st w) (hv0 : 0 ≤ v) (hu0 : 0 ≤ u) (hu1 : u ≤ 4096) (hvu : v + u ≤ 1048576) (hN : N ≤ w.heap.size) :
    Calls Try.prog 88 #[.int .i64 v, .int .i64 u, .pointer (some ⟨K, 0, none⟩)] w (ThrPost B (fun _ => False) (toClose q st v u) (CloseInv q C K) w) := by
  have HI := Lib.hid hi
  obtain ⟨hC0, hK0⟩ := hi
  have c0 := one_cell hK0
  clear hC0 hK0
  have z1 : K < w.heap.size := by omega
  have HA := Lib.hid (World.alloc_heap_new w (.cells #[.int .u8 0, .int .i64 0, .string no, .slice none 0 0, .slice none 0 0] 25))
  have HB := Lib.hid (below_one w (.cells #[.int .u8 0, .int .i64 0, .string no, .slice none 0 0, .slice none 0 0] 25))
  have HK := Lib.hid (fun (w' : World) (b : Below w.heap.size w w') => CloseInv.keep hC hK st _ _ HI.out (b.mono hN))
  by_cases h1 : v < q
  · have hs : toClose q st v u = ((), 0, some (tV (v + 1 + u))) := by unfold toClose; rw [if_pos h1]
    rw [hs]
    delta ThrPost
    dsimp only [Option.getD]
    have d1 : decide (v < q) = true := by simpa using h1
    have hw1 : IntKind.i64.wrap (v + 1) = v + 1 := IntWalk.i64_in _ (by omega)
    have hw2 : IntKind.i64.wrap (v + 1 + u) = v + 1 + u := IntWalk.i64_in _ (by omega)
    have hr0 : -9223372036854775808 ≤ v + 1 + u ∧ v + 1 + u ≤ 9223372036854775807 := by omega
    have HV := Lib.hid (fun W => variable_any (v + 1 + u) W)
    clear hs h1
    go_enter Try.func88, Try.ntmps88
    go_wp2_with fail
    refine (HV.out _).mono ?_
    rintro e w3 ⟨rfl, b3⟩
    have hA3 := Lvl.keep b3 HA.out
    obtain ⟨a0, a1, a2, a3, a4⟩ := five_cells hA3
    obtain ⟨f0, f1, f2, f3, f4⟩ := five_free hA3
    have HA3 := Lib.hid hA3
    have HB3 := Lib.hid (Trm.go HB.out b3)
    clear hA3 b3
    generalize hyd : (⟨none, 0, none, 0⟩ : Hd) = hy
    have hfm : ∀ (Q : Nat → Prop) (W : World), FirmS Q W (tV (v + 1 + u)) hy := fun Q W => hyd ▸ firm_tV hr0.1 hr0.2
    have HFM := Lib.hid hfm
    clear hfm
    generalize hyv : tV (v + 1 + u) = y at HFM ⊢
    clear hyd
    dsimp only [Tm.val, Tm.vals]
    go_wp2_with fail
    have h5 := putT_self HA3.out (.int .u8 y.k) (.int .i64 y.n) (.string y.s) (.slice hy.lo y.ls.length hy.lc) (.slice hy.to y.ts.length hy.tc)
    have b5 := putT_below HB3.out (Nat.le_refl w.heap.size) (.int .u8 y.k) (.int .i64 y.n) (.string y.s) (.slice hy.lo y.ls.length hy.lc) (.slice hy.to y.ts.length hy.tc)
    unfold putT at h5 b5
    generalize hW : ((((w3.setCell ⟨w.heap.size, 0, none⟩ (.int .u8 y.k)).setCell ⟨w.heap.size, 1, none⟩ (.int .i64 y.n)).setCell ⟨w.heap.size, 2, none⟩ (.string y.s)).setCell ⟨w.heap.size, 3, none⟩ (.slice hy.lo y.ls.length hy.lc)).setCell ⟨w.heap.size, 4, none⟩ (.slice hy.to y.ts.length hy.tc) = W4 at h5 b5 ⊢
    obtain ⟨e0, e1, e2, e3, e4⟩ := five_cells h5
    clear hW
    subst hyv
    exact bodyPost_ret (v := .tuple #[(tV (v + 1 + u)).val hy, .int .i64 0]) (by simp [results, Try.results88, go_sem, e0, e1, e2, e3, e4, Tm.val, Tm.vals]) rfl ⟨hy, rfl, HFM.out _ _, HK.out _ b5, RanS.of_below b5⟩
  · have d1 : decide (v < q) = false := by simpa using h1
    by_cases h2 : v = q
    · have hs : toClose q st v u = ((), 0, some (tV u)) := by unfold toClose; rw [if_neg h1, if_pos h2]
      rw [hs]
      delta ThrPost
      dsimp only [Option.getD]
      have hr0 : -9223372036854775808 ≤ u ∧ u ≤ 9223372036854775807 := by omega
      have HV := Lib.hid (fun W => variable_any u W)
      have d2 : (v == q) = true := by simpa using h2
      clear hs h1 h2
      go_enter Try.func88, Try.ntmps88
      go_wp2_with fail
      refine (HV.out _).mono ?_
      rintro e w3 ⟨rfl, b3⟩
      have hA3 := Lvl.keep b3 HA.out
      obtain ⟨a0, a1, a2, a3, a4⟩ := five_cells hA3
      obtain ⟨f0, f1, f2, f3, f4⟩ := five_free hA3
      have HA3 := Lib.hid hA3
      have HB3 := Lib.hid (Trm.go HB.out b3)
      clear hA3 b3
      generalize hyd : (⟨none, 0, none, 0⟩ : Hd) = hy
      have hfm : ∀ (Q : Nat → Prop) (W : World), FirmS Q W (tV u) hy := fun Q W => hyd ▸ firm_tV hr0.1 hr0.2
      have HFM := Lib.hid hfm
      clear hfm
      generalize hyv : tV u = y at HFM ⊢
      clear hyd
      dsimp only [Tm.val, Tm.vals]
      go_wp2_with fail
      have h5 := putT_self HA3.out (.int .u8 y.k) (.int .i64 y.n) (.string y.s) (.slice hy.lo y.ls.length hy.lc) (.slice hy.to y.ts.length hy.tc)
      have b5 := putT_below HB3.out (Nat.le_refl w.heap.size) (.int .u8 y.k) (.int .i64 y.n) (.string y.s) (.slice hy.lo y.ls.length hy.lc) (.slice hy.to y.ts.length hy.tc)
      unfold putT at h5 b5
      generalize hW : ((((w3.setCell ⟨w.heap.size, 0, none⟩ (.int .u8 y.k)).setCell ⟨w.heap.size, 1, none⟩ (.int .i64 y.n)).setCell ⟨w.heap.size, 2, none⟩ (.string y.s)).setCell ⟨w.heap.size, 3, none⟩ (.slice hy.lo y.ls.length hy.lc)).setCell ⟨w.heap.size, 4, none⟩ (.slice hy.to y.ts.length hy.tc) = W4 at h5 b5 ⊢
      obtain ⟨e0, e1, e2, e3, e4⟩ := five_cells h5
      clear hW
      subst hyv
      exact bodyPost_ret (v := .tuple #[(tV u).val hy, .int .i64 0]) (by simp [results, Try.results88, go_sem, e0, e1, e2, e3, e4, Tm.val, Tm.vals]) rfl ⟨hy, rfl, HFM.out _ _, HK.out _ b5, RanS.of_below b5⟩
    · have hs : toClose q st v u = ((), 0, none) := by unfold toClose; rw [if_neg h1, if_neg h2]
      rw [hs]
      delta ThrPost
      dsimp only
      have d2 : (v == q) = false := by simpa using h2
      clear hs h1 h2
      go_enter Try.func88, Try.ntmps88
      go_wp2_with fail
      have h5 := HA.out
      have b5 := HB.out
      unfold no at h5 b5
      generalize hW : w.alloc (.cells #[.int .u8 0, .int .i64 0, .string ⟨#[]⟩, .slice none 0 0, .slice none 0 0] 25) = W4 at h5 b5 ⊢
      obtain ⟨e0, e1, e2, e3, e4⟩ := five_cells h5
      clear hW
      exact bodyPost_ret (v := .tuple #[zeroT.val ⟨none, 0, none, 0⟩, .int .i64 0]) (by simp [results, Try.results88, go_sem, e0, e1, e2, e3, e4, zeroT, Tm.val, Tm.vals, Tm.k, Tm.n, Tm.s, Tm.ls, Tm.ts, no]) rfl ⟨⟨none, 0, none, 0⟩, rfl, firm_zero, HK.out _ b5, RanS.of_below b5⟩

set_option maxRecDepth 100000 in
set_option maxHeartbeats 2000000 in
theorem free1_close {σ : Type} {B N C K : Nat} {P : Nat → Prop} {to : σ → Int → Int → σ × Int × Option Tm} {Inv : σ → World → Prop} {Good : σ → Prop}
    (HD : ∀ (st : σ) (v u : Int) (w : World), Good st → Inv st w → 0 ≤ v → 0 ≤ u → u ≤ 4096 → v + u ≤ 1048576 → B ≤ w.heap.size → N ≤ w.heap.size → (∀ q, P q → q < w.heap.size) →
      Calls Try.prog 88 #[.int .i64 v, .int .i64 u, .pointer (some ⟨K, 0, none⟩)] w (ThrPost B P (to st v u) Inv w))
    (hC : ∀ st w, Inv st w → w.heap[C]? = some (.cells #[.func (.func 88) #[] #[.pointer (some ⟨K, 0, none⟩)]] 103))
    (hkeep : ∀ st w w', Inv st w → Below N w w' → Inv st w')
    (st : σ) (t : Tm) (b o : Nat) (u : Int) (w : World) (hg : Good st) (hi : Inv st w) (hn : t.node = true) (hu0 : 0 ≤ u) (hu1 : u ≤ 4096) (hat : SAt B P w b o t) (hB : B ≤ w.heap.size) (hN : N ≤ w.heap.size) (hPw : ∀ q, P q → q < w.heap.size) :
    Calls Try.prog 121 #[.pointer (some ⟨b, o, none⟩), .int .i64 u, .pointer (some ⟨C, 0, none⟩)] w (ThrPost B P (lfFree to st t u) Inv w) := by
  obtain ⟨hn0, hn1⟩ := node_num hn
  obtain ⟨hbP, hb, h, ⟨c0, c1, c2, c3, c4⟩, hin⟩ := hat
  have hCc := one_cell (hC st w hi)
  have z1 : C < w.heap.size := World.block_lt_of_cell? w _ hCc
  have hAP : ¬ P w.heap.size := fun hp => by have := hPw _ hp; omega
  have HI := Lib.hid hi
  have HPW := Lib.hid hPw
  clear hin hi hn hPw
  by_cases hc : t.k = 2 ∧ u ≤ t.n
  · have hs : lfFree to st t u = to st (t.n - u) u := if_pos hc
    rw [hs]
    have HX := Lib.hid (fun (W : World) (hW : Below w.heap.size w W) => HD st (t.n - u) u W hg (hkeep _ _ _ HI.out (hW.mono hN)) (by omega) hu0 hu1 (by omega) (by have := hW.size; omega) (by have := hW.size; omega) (fun q hq => by have := HPW.out q hq; have := hW.size; omega))
    generalize to st (t.n - u) u = R at HX ⊢
    obtain ⟨R1, R2, R3⟩ := R
    delta ThrPost at HX ⊢
    dsimp only at HX ⊢
    generalize hy : R3.getD zeroT = y at HX ⊢
    clear hy
    have hwr : IntKind.i64.wrap (t.n - u) = t.n - u := IntWalk.i64_in _ (by omega)
    have h1 := hc.1
    rw [h1] at c0
    have d2 : decide (t.n < u) = false := by simpa using hc.2
    clear hs hc HD h1 hC
    go_enter Try.func121, Try.ntmps121
    go_wp2_with fail
    go_region_with (go_at_call 88; refine (HX.out _ (below_one _ _).drew).mono ?_; rintro e w3 ⟨hy, rfl, fY, iY, rY⟩
                    have rY0 : RanS P (w.alloc (.cells #[.int .u8 0, .int .i64 0, .string no, .slice none 0 0, .slice none 0 0] 25)) w3 := (RanS.of_below (Below.refl _ _).drew).trans rY
                    have hA3 := rY0.keep (World.alloc_heap_new w _) hAP
                    obtain ⟨a0, a1, a2, a3, a4⟩ := five_cells hA3
                    obtain ⟨f0, f1, f2, f3, f4⟩ := five_free hA3
                    have HA3 := Lib.hid hA3
                    have HF := Lib.hid fY
                    have HI3 := Lib.hid iY
                    have HR3 := Lib.hid ((RanS.of_below (below_one w _)).trans rY0)
                    clear fY iY rY rY0 hA3
                    dsimp only [Tm.val, Tm.vals])
    all_goals
      go_wp2_with fail
      have h5 := putT_self HA3.out (.int .u8 y.k) (.int .i64 y.n) (.string y.s) (.slice hy.lo y.ls.length hy.lc) (.slice hy.to y.ts.length hy.tc)
      have r5 := putT_ran w3 w.heap.size (.int .u8 y.k) (.int .i64 y.n) (.string y.s) (.slice hy.lo y.ls.length hy.lc) (.slice hy.to y.ts.length hy.tc)
      have s5 := RanS.put HR3.out (Nat.le_refl w.heap.size) (.int .u8 y.k) (.int .i64 y.n) (.string y.s) (.slice hy.lo y.ls.length hy.lc) (.slice hy.to y.ts.length hy.tc)
      have z5 : w.heap.size < w3.heap.size := (Array.getElem?_eq_some_iff.1 HA3.out).1
      unfold putT at h5 r5 s5
      generalize hW : ((((w3.setCell ⟨w.heap.size, 0, none⟩ (.int .u8 y.k)).setCell ⟨w.heap.size, 1, none⟩ (.int .i64 y.n)).setCell ⟨w.heap.size, 2, none⟩ (.string y.s)).setCell ⟨w.heap.size, 3, none⟩ (.slice hy.lo y.ls.length hy.lc)).setCell ⟨w.heap.size, 4, none⟩ (.slice hy.to y.ts.length hy.tc) = W4 at h5 r5 s5 ⊢
      obtain ⟨e0, e1, e2, e3, e4⟩ := five_cells h5
      clear hW
      refine bodyPost_ret (v := .tuple #[y.val hy, .int .i64 R2]) (by simp [results, Try.results121, go_sem, e0, e1, e2, e3, e4, Tm.val, Tm.vals]) rfl ⟨hy, rfl, ?_, ?_, s5⟩
      · exact (HF.out.step (RanS.of_ran r5 ⟨hB, by simp [World.drew]⟩)).less (fun q _ hq => ⟨hq.1, by simp [World.drew]; omega⟩)
      · exact hkeep _ _ _ HI3.out (r5.below hN (by omega))
  · have hs : lfFree to st t u = (st, 0, none) := if_neg hc
    rw [hs]
    delta ThrPost
    dsimp only
    have HB := Lib.hid (below_one w (.cells #[.int .u8 0, .int .i64 0, .string no, .slice none 0 0, .slice none 0 0] 25))
    have HA := Lib.hid (World.alloc_heap_new w (.cells #[.int .u8 0, .int .i64 0, .string no, .slice none 0 0, .slice none 0 0] 25))
    by_cases h1 : t.k = 2
    · have d2 : decide (t.n < u) = true := by simp; omega
      rw [h1] at c0
      clear hs hc HD h1 hC
      go_enter Try.func121, Try.ntmps121
      go_wp2_with fail
      have h5 := HA.out
      have b5 := HB.out
      unfold no at h5 b5
      generalize hW : w.alloc (.cells #[.int .u8 0, .int .i64 0, .string ⟨#[]⟩, .slice none 0 0, .slice none 0 0] 25) = W4 at h5 b5 ⊢
      obtain ⟨e0, e1, e2, e3, e4⟩ := five_cells h5
      clear hW
      exact bodyPost_ret (v := .tuple #[zeroT.val ⟨none, 0, none, 0⟩, .int .i64 0]) (by simp [results, Try.results121, go_sem, e0, e1, e2, e3, e4, zeroT, Tm.val, Tm.vals, Tm.k, Tm.n, Tm.s, Tm.ls, Tm.ts, no]) rfl ⟨⟨none, 0, none, 0⟩, rfl, firm_zero, hkeep _ _ _ HI.out (b5.mono hN), RanS.of_below b5⟩
    · have d1 : (t.k != 2) = true := by simpa using h1
      clear hs hc HD h1 hC
      go_enter Try.func121, Try.ntmps121
      go_wp2_with fail
      have h5 := HA.out
      have b5 := HB.out
      unfold no at h5 b5
      generalize hW : w.alloc (.cells #[.int .u8 0, .int .i64 0, .string ⟨#[]⟩, .slice none 0 0, .slice none 0 0] 25) = W4 at h5 b5 ⊢
      obtain ⟨e0, e1, e2, e3, e4⟩ := five_cells h5
      clear hW
      exact bodyPost_ret (v := .tuple #[zeroT.val ⟨none, 0, none, 0⟩, .int .i64 0]) (by simp [results, Try.results121, go_sem, e0, e1, e2, e3, e4, zeroT, Tm.val, Tm.vals, Tm.k, Tm.n, Tm.s, Tm.ls, Tm.ts, no]) rfl ⟨⟨none, 0, none, 0⟩, rfl, firm_zero, hkeep _ _ _ HI.out (b5.mono hN), RanS.of_below b5⟩

theorem Trm.leaf_close (q : Int) {B N C K : Nat} (hC : C < N) (hK : K < N) : Leaf B N (fun _ => False) C 121 (lfFree (toClose q)) (CloseInv q C K) (fun _ => True) where
  calls st t b o u w hg hi hn hts hu0 hu1 hat hB hN hPw := free1_close (Good := fun _ => True) (fun st v u w _ hi h0 h1 h2 h3 _ hN _ => close1_any q hC hK st v u w hi h0 h1 h2 h3 hN) (fun st w h => h.1) (CloseInv.keep hC hK) st t b o u w hg hi hn hu0 hu1 hat hB hN hPw
  good _ _ _ _ _ _ _ := trivial
  kind st t u y hn hts h := by
    unfold lfFree toClose at h
    split at h
    · split at h
      · cases h; exact (by decide : (2 : Int) ≠ 0)
      · split at h
        · cases h; exact (by decide : (2 : Int) ≠ 0)
        · cases h
    · cases h
  keep := CloseInv.keep hC hK
  low _ h := h.elim
  enter args w := by kernel_rfl

set_option maxRecDepth 100000 in
set_option maxHeartbeats 4000000 in
theorem Close_any (t : Tm) (h : Hd) (q : Int) (w : World) (hin : t.In w.heap.size w h) :
    Calls Try.prog 35 #[t.val h, .int .i64 q] w fun e w' => ∃ h', e = .returned (.tuple #[(closeAns t q).1.val h', .int .i64 (closeAns t q).2]) ∧ (closeAns t q).1.In w'.heap.size w' h' ∧ Below w.heap.size w w' := by
  have HM := Lib.hid (fun (W : World) (hW : Below w.heap.size w W) => PMay_any t h W (Tm.In.mono hW.size _ _ (Tm.In.below hW _ _ hin)))
  have HB0 := Lib.hid ((below_two w (t.box h) (.cells #[.int .i64 q] 3)).alloc (by simp; omega) (.cells #[.int .u8 0, .int .i64 0, .string no, .slice none 0 0, .slice none 0 0] 25))
  have HX0 := Lib.hid (keepA (new1of2 w (t.box h) (.cells #[.int .i64 q] 3)) (.cells #[.int .u8 0, .int .i64 0, .string no, .slice none 0 0, .slice none 0 0] 25))
  have HK0 := Lib.hid (keepA (new2 w (t.box h) (.cells #[.int .i64 q] 3)) (.cells #[.int .u8 0, .int .i64 0, .string no, .slice none 0 0, .slice none 0 0] 25))
  have HA0 := Lib.hid (new3 w (t.box h) (.cells #[.int .i64 q] 3) (.cells #[.int .u8 0, .int .i64 0, .string no, .slice none 0 0, .slice none 0 0] 25))
  have HIN := Lib.hid hin
  clear hin
  by_cases hfr : q < 0
  · have hs : closeAns t q = (zeroT, 1) := if_pos (Or.inl hfr)
    rw [hs]
    have d1 : decide (q < 0) = true := by simpa using hfr
    unfold Tm.val
    dsimp only [Tm.vals]
    clear hs hfr HM HIN
    go_enter Try.func35, Try.ntmps35
    go_wp2_with fail
    have h5 := HA0.out
    have b5 := HB0.out
    unfold no Tm.box at h5 b5
    dsimp only [Tm.vals] at h5 b5
    generalize hW : ((w.alloc (.cells #[.int .u8 t.k, .int .i64 t.n, .string t.s, .slice h.lo t.ls.length h.lc, .slice h.to t.ts.length h.tc] 25)).alloc (.cells #[.int .i64 q] 3)).alloc (.cells #[.int .u8 0, .int .i64 0, .string ⟨#[]⟩, .slice none 0 0, .slice none 0 0] 25) = W4 at h5 b5 ⊢
    obtain ⟨e0, e1, e2, e3, e4⟩ := five_cells h5
    clear hW
    exact bodyPost_ret (v := .tuple #[zeroT.val ⟨none, 0, none, 0⟩, .int .i64 1]) (by simp [results, Try.results35, go_sem, e0, e1, e2, e3, e4, zeroT, Tm.val, Tm.vals, Tm.k, Tm.n, Tm.s, Tm.ls, Tm.ts, no]) rfl ⟨⟨none, 0, none, 0⟩, rfl, leaf_in (by decide) (by decide) (by decide) (by decide) (by decide), b5⟩
  · have d1 : decide (q < 0) = false := by simpa using hfr
    cases hmay : t.may
    · have hs : closeAns t q = (zeroT, 1) := if_pos (Or.inr hmay)
      rw [hs]
      rw [hmay] at HM
      unfold Tm.val at HM ⊢
      dsimp only [Tm.vals] at HM ⊢
      clear hs hfr hmay
      go_enter Try.func35, Try.ntmps35
      go_wp2_with fail
      refine (HM.out _ HB0.out).mono ?_
      rintro e w1 ⟨rfl, b1⟩
      have hA1 := Lvl.keep b1 HA0.out
      have HB1 := Lib.hid (Trm.go HB0.out b1)
      obtain ⟨a0, a1, a2, a3, a4⟩ := five_cells hA1
      obtain ⟨f0, f1, f2, f3, f4⟩ := five_free hA1
      have HA1 := Lib.hid hA1
      clear hA1 b1
      go_wp2_with fail
      have h5 := putT_self HA1.out (.int .u8 0) (.int .i64 0) (.string no) (.slice none 0 0) (.slice none 0 0)
      have b5 := putT_below HB1.out (by omega : w.heap.size ≤ w.heap.size + 1 + 1) (.int .u8 0) (.int .i64 0) (.string no) (.slice none 0 0) (.slice none 0 0)
      unfold putT no at h5 b5
      generalize hW : ((((w1.setCell ⟨w.heap.size + 1 + 1, 0, none⟩ (.int .u8 0)).setCell ⟨w.heap.size + 1 + 1, 1, none⟩ (.int .i64 0)).setCell ⟨w.heap.size + 1 + 1, 2, none⟩ (.string ⟨#[]⟩)).setCell ⟨w.heap.size + 1 + 1, 3, none⟩ (.slice none 0 0)).setCell ⟨w.heap.size + 1 + 1, 4, none⟩ (.slice none 0 0) = W4 at h5 b5 ⊢
      obtain ⟨e0, e1, e2, e3, e4⟩ := five_cells h5
      clear hW
      exact bodyPost_ret (v := .tuple #[zeroT.val ⟨none, 0, none, 0⟩, .int .i64 1]) (by simp [results, Try.results35, go_sem, e0, e1, e2, e3, e4, zeroT, Tm.val, Tm.vals, Tm.k, Tm.n, Tm.s, Tm.ls, Tm.ts, no]) rfl ⟨⟨none, 0, none, 0⟩, rfl, leaf_in (by decide) (by decide) (by decide) (by decide) (by decide), b5⟩
    · obtain ⟨a, ha⟩ : ∃ a, a = closeAns t q := ⟨_, rfl⟩
      obtain ⟨y, hy⟩ : ∃ y, y = tAns t (t.thr (lfFree (toClose q)) () 0) := ⟨_, rfl⟩
      obtain ⟨z, hz⟩ : ∃ z, z = (t.thr (lfFree (toClose q)) () 0).2.1 := ⟨_, rfl⟩
      have hya : ansT y z = a := by
        rw [ha, hy, hz]
        exact Close_ans hmay hfr
      rw [← ha]
      rw [hmay] at HM
      have HTU := Lib.hid (fun (W : World) (C K : Nat) (hW : Below w.heap.size w W) (hL : CloseInv q C K () W) (hC : C < W.heap.size) (hK : K < W.heap.size) => show Calls Try.prog 83 #[t.val h, fnv 121 C] W (fun e w' => ∃ h', e = .returned (.tuple #[y.val h', .int .i64 z]) ∧ FirmS (fun q => w.heap.size ≤ q ∧ q < W.heap.size) w' y h' ∧ Below W.heap.size W w') from by
        have := turned_any (leaf_close q (B := w.heap.size) hC hK) t h () W hmay trivial hL (Tm.In.below hW _ _ HIN.out) hW.size (Nat.le_refl _) (fun q hq => hq.elim)
        rw [← hy, ← hz] at this
        exact this.mono (fun _ _ ⟨h', he, hf, _, hr⟩ => ⟨h', he, hf, hr.none_below⟩))
      have HAN := Lib.hid (fun (W : World) (h' : Hd) (hi : y.In W.heap.size W h') => by
        have := sub_answer_any y h' z W hi
        rw [hya] at this
        exact this)
      clear ha hy hz hya hmay hfr
      obtain ⟨a1, a2⟩ := a
      unfold Tm.val at HM HTU HAN ⊢
      dsimp only [Tm.vals] at HM HTU HAN ⊢
      go_enter Try.func35, Try.ntmps35
      go_wp2_with fail
      refine (HM.out _ HB0.out).mono ?_
      rintro e w1 ⟨rfl, b1⟩
      have HB1 := Lib.hid (Trm.go HB0.out b1)
      have HA1 := Lib.hid (Lvl.keep b1 HA0.out)
      have HX1 := Lib.hid (Lvl.keep b1 HX0.out)
      have HK1 := Lib.hid (Lvl.keep b1 HK0.out)
      obtain ⟨x0, x1, x2, x3, x4⟩ := five_cells (show w1.heap[w.heap.size]? = some (.cells #[.int .u8 t.k, .int .i64 t.n, .string t.s, .slice h.lo t.ls.length h.lc, .slice h.to t.ts.length h.tc] 25) from HX1.out)
      clear b1
      go_wp2_with fail
      go_region_with (first
        | (go_at_call 87; refine (free_any _ _ _).mono ?_; rintro e wl ⟨rfl, hC, bl⟩
           have bl0 := Lvl.undrew bl
           have HBl := Lib.hid (Trm.go HB1.out bl0)
           have HAl := Lib.hid (Lvl.keep bl0 HA1.out)
           have hXl := Lvl.keep bl0 HX1.out
           obtain ⟨x0, x1, x2, x3, x4⟩ := five_cells (show wl.heap[w.heap.size]? = some (.cells #[.int .u8 t.k, .int .i64 t.n, .string t.s, .slice h.lo t.ls.length h.lc, .slice h.to t.ts.length h.tc] 25) from hXl)
           have hKl := Lvl.keep bl0 HK1.out
           have hlC := (Array.getElem?_eq_some_iff.1 hC).1
           have HLl := Lib.hid (show CloseInv q _ _ () wl from ⟨hC, hKl⟩)
           clear hC
           clear bl bl0 hXl)
        | (go_at_call 83; refine (HTU.out _ _ _ HBl.out HLl.out hlC (by have := HBl.out.size; have := (Array.getElem?_eq_some_iff.1 hKl).1; omega)).mono ?_; rintro e wt ⟨ht, rfl, iT, bt⟩
           have HBt := Lib.hid (Trm.go HBl.out bt)
           have HAt := Lib.hid (Lvl.keep bt HAl.out)
           have HIt := Lib.hid iT
           clear bt iT)
        | (go_at_call 82; refine (HAN.out _ _ HIt.out.here).mono ?_; rintro e wa ⟨ha, rfl, iA, ba⟩
           have HBa := Lib.hid (Trm.go HBt.out ba)
           have hAa := Lvl.keep ba HAt.out
           obtain ⟨q0, q1, q2, q3, q4⟩ := five_cells hAa
           obtain ⟨f0, f1, f2, f3, f4⟩ := five_free hAa
           have HAa := Lib.hid hAa
           have HIa := Lib.hid (iA _ HIt.out)
           have hla := (Array.getElem?_eq_some_iff.1 HAl.out).1
           clear ba iA hAa))
      all_goals
        go_wp2_with fail
        have h5 := putT_self HAa.out (.int .u8 a1.k) (.int .i64 a1.n) (.string a1.s) (.slice ha.lo a1.ls.length ha.lc) (.slice ha.to a1.ts.length ha.tc)
        have b5 := putT_below HBa.out (by omega : w.heap.size ≤ w.heap.size + 1 + 1) (.int .u8 a1.k) (.int .i64 a1.n) (.string a1.s) (.slice ha.lo a1.ls.length ha.lc) (.slice ha.to a1.ts.length ha.tc)
        have r5 := putT_ran wa (w.heap.size + 1 + 1) (.int .u8 a1.k) (.int .i64 a1.n) (.string a1.s) (.slice ha.lo a1.ls.length ha.lc) (.slice ha.to a1.ts.length ha.tc)
        unfold putT at h5 b5 r5
        generalize hW : ((((wa.setCell ⟨w.heap.size + 1 + 1, 0, none⟩ (.int .u8 a1.k)).setCell ⟨w.heap.size + 1 + 1, 1, none⟩ (.int .i64 a1.n)).setCell ⟨w.heap.size + 1 + 1, 2, none⟩ (.string a1.s)).setCell ⟨w.heap.size + 1 + 1, 3, none⟩ (.slice ha.lo a1.ls.length ha.lc)).setCell ⟨w.heap.size + 1 + 1, 4, none⟩ (.slice ha.to a1.ts.length ha.tc) = W4 at h5 b5 r5 ⊢
        obtain ⟨e0, e1, e2, e3, e4⟩ := five_cells h5
        clear hW
        refine bodyPost_ret (v := .tuple #[a1.val ha, .int .i64 a2]) (by simp [results, Try.results35, go_sem, e0, e1, e2, e3, e4, Tm.val, Tm.vals]) rfl ⟨ha, rfl, ?_, b5⟩
        exact (HIa.out.step (RanS.of_ran r5 ⟨by omega, hla⟩)).here
end Go.Proofs.Ytijdlihodpodjaa
