/-
  subst.variable, lifting, free.
-/
import Derived.Test.YtfechgahafbphaaSubBase
import Derived.Test.YtfechgahafbphaaSubFree
import Derived.Test.YtfechgahafbphaaTrmWorks
namespace Go.Proofs.Ytfechgahafbphaa
open Go.RowKit Go.Shelf Lvl Trm

theorem Trm.firm_tV {P : Nat → Prop} {w : World} {n : Int} {lc tc : Nat} (h0 : -9223372036854775808 ≤ n) (h1 : n ≤ 9223372036854775807) : FirmS P w (tV n) ⟨none, lc, none, tc⟩ := fun _ _ => leaf_in (by decide) (by decide) h0 h1 (by decide)
theorem Trm.RanS.none_below {w w' : World} (h : RanS (fun _ => False) w w') : Below w.heap.size w w' := ⟨h.os, h.tape, h.output, h.size, fun k hk => h.block k hk (fun hf => hf)⟩

set_option maxRecDepth 100000 in
theorem variable_any (n : Int) (w : World) :
    Calls Try.prog 127 #[.int .i64 n] w fun e w' => e = .returned ((tV n).val ⟨none, 0, none, 0⟩) ∧ Below w.heap.size w w' := by
  go_enter Try.func127, Try.ntmps127
  go_wp2_with fail
  exact bodyPost_ret (v := (tV n).val ⟨none, 0, none, 0⟩) (by simp [results, Try.results127, go_sem, tV, Tm.val, Tm.vals, Tm.k, Tm.n, Tm.s, Tm.ls, Tm.ts, no]) rfl ⟨rfl, below_one _ _⟩

/-- Where the closure of lifting and what it holds lie. -/
def Trm.LiftInv (fr by_ : Int) (C F Y : Nat) (_ : Unit) (w : World) : Prop := w.heap[C]? = some (.cells #[.func (.func 148) #[] #[.pointer (some ⟨F, 0, none⟩), .pointer (some ⟨Y, 0, none⟩)]] 137) ∧ w.heap[F]? = some (.cells #[.int .i64 fr] 3) ∧ w.heap[Y]? = some (.cells #[.int .i64 by_] 3)
theorem Trm.LiftInv.keep {fr by_ : Int} {C F Y N : Nat} (hC : C < N) (hF : F < N) (hY : Y < N) (st : Unit) (w w' : World) (h : LiftInv fr by_ C F Y st w) (b : Below N w w') : LiftInv fr by_ C F Y st w' :=
  ⟨(b.block _ hC).trans h.1, (b.block _ hF).trans h.2.1, (b.block _ hY).trans h.2.2⟩

set_option maxRecDepth 100000 in
set_option maxHeartbeats 1000000 in
theorem lifting1_any (fr by_ : Int) {B N C F Y : Nat} (hC : C < N) (hF : F < N) (hY : Y < N) (hb0 : -9223372036854775808 ≤ by_) (hb1 : by_ ≤ 2097152) (st : Unit) (v u : Int) (w : World) (hi : LiftInv fr by_ C F Y st w) (hv0 : 0 ≤ v) (hu0 : 0 ≤ u) (hu1 : u ≤ 4096) (hvu : v + u ≤ 1048576) (hN : N ≤ w.heap.size) :
    Calls Try.prog 148 #[.int .i64 v, .int .i64 u, .pointer (some ⟨F, 0, none⟩), .pointer (some ⟨Y, 0, none⟩)] w (ThrPost B (fun _ => False) (toLift fr by_ st v u) (LiftInv fr by_ C F Y) w) := by
  have HI := Lib.hid hi
  obtain ⟨hC0, hF0, hY0⟩ := hi
  have c0 := one_cell hF0
  have c1 := one_cell hY0
  clear hC0 hF0 hY0
  have z1 : F < w.heap.size := by omega
  have z2 : Y < w.heap.size := by omega
  have HA := Lib.hid (World.alloc_heap_new w (.cells #[.int .u8 0, .int .i64 0, .string no, .slice none 0 0, .slice none 0 0] 60))
  have HB := Lib.hid (below_one w (.cells #[.int .u8 0, .int .i64 0, .string no, .slice none 0 0, .slice none 0 0] 60))
  have HK := Lib.hid (fun (w' : World) (b : Below w.heap.size w w') => LiftInv.keep hC hF hY st _ _ HI.out (b.mono hN))
  by_cases h1 : v < fr ∨ by_ = 0
  · have hs : toLift fr by_ st v u = ((), 0, none) := by unfold toLift; rw [if_pos h1]
    rw [hs]
    delta ThrPost
    dsimp only
    clear hs
    by_cases h2 : v < fr
    · have d1 : decide (v < fr) = true := by simpa using h2
      clear h1 h2
      go_enter Try.func148, Try.ntmps148
      go_wp2_with fail
      have h5 := HA.out
      have b5 := HB.out
      unfold no at h5 b5
      generalize hW : w.alloc (.cells #[.int .u8 0, .int .i64 0, .string ⟨#[]⟩, .slice none 0 0, .slice none 0 0] 60) = W4 at h5 b5 ⊢
      obtain ⟨e0, e1, e2, e3, e4⟩ := five_cells h5
      clear hW
      exact bodyPost_ret (v := .tuple #[zeroT.val ⟨none, 0, none, 0⟩, .int .i64 0]) (by simp [results, Try.results148, go_sem, e0, e1, e2, e3, e4, zeroT, Tm.val, Tm.vals, Tm.k, Tm.n, Tm.s, Tm.ls, Tm.ts, no]) rfl ⟨⟨none, 0, none, 0⟩, rfl, firm_zero, HK.out _ b5, RanS.of_below b5⟩
    · have h3 : by_ = 0 := by omega
      subst h3
      have d1 : decide (v < fr) = false := by simpa using h2
      clear h1 h2
      go_enter Try.func148, Try.ntmps148
      go_wp2_with fail
      have h5 := HA.out
      have b5 := HB.out
      unfold no at h5 b5
      generalize hW : w.alloc (.cells #[.int .u8 0, .int .i64 0, .string ⟨#[]⟩, .slice none 0 0, .slice none 0 0] 60) = W4 at h5 b5 ⊢
      obtain ⟨e0, e1, e2, e3, e4⟩ := five_cells h5
      clear hW
      exact bodyPost_ret (v := .tuple #[zeroT.val ⟨none, 0, none, 0⟩, .int .i64 0]) (by simp [results, Try.results148, go_sem, e0, e1, e2, e3, e4, zeroT, Tm.val, Tm.vals, Tm.k, Tm.n, Tm.s, Tm.ls, Tm.ts, no]) rfl ⟨⟨none, 0, none, 0⟩, rfl, firm_zero, HK.out _ b5, RanS.of_below b5⟩
  · have d1 : decide (v < fr) = false := by simp; omega
    have d0 : (by_ == 0) = false := by simp; omega
    have hw1 : IntKind.i64.wrap (v + by_) = v + by_ := IntWalk.i64_in _ (by omega)
    by_cases h2 : v + by_ < fr
    · have hs : toLift fr by_ st v u = ((), 7, none) := by unfold toLift; rw [if_neg h1, if_pos h2]
      rw [hs]
      delta ThrPost
      dsimp only
      have d2 : decide (v + by_ < fr) = true := by simpa using h2
      clear hs h1 h2
      go_enter Try.func148, Try.ntmps148
      go_wp2_with fail
      have h5 := HA.out
      have b5 := HB.out
      unfold no at h5 b5
      generalize hW : w.alloc (.cells #[.int .u8 0, .int .i64 0, .string ⟨#[]⟩, .slice none 0 0, .slice none 0 0] 60) = W4 at h5 b5 ⊢
      obtain ⟨e0, e1, e2, e3, e4⟩ := five_cells h5
      clear hW
      exact bodyPost_ret (v := .tuple #[zeroT.val ⟨none, 0, none, 0⟩, .int .i64 7]) (by simp [results, Try.results148, go_sem, e0, e1, e2, e3, e4, zeroT, Tm.val, Tm.vals, Tm.k, Tm.n, Tm.s, Tm.ls, Tm.ts, no]) rfl ⟨⟨none, 0, none, 0⟩, rfl, firm_zero, HK.out _ b5, RanS.of_below b5⟩
    · have hs : toLift fr by_ st v u = ((), 0, some (tV (v + by_ + u))) := by unfold toLift; rw [if_neg h1, if_neg h2]
      rw [hs]
      delta ThrPost
      dsimp only [Option.getD]
      have d2 : decide (v + by_ < fr) = false := by simpa using h2
      have hw2 : IntKind.i64.wrap (v + by_ + u) = v + by_ + u := IntWalk.i64_in _ (by omega)
      have hr0 : -9223372036854775808 ≤ v + by_ + u ∧ v + by_ + u ≤ 9223372036854775807 := by omega
      have HV := Lib.hid (fun W => variable_any (v + by_ + u) W)
      clear hs h1 h2
      go_enter Try.func148, Try.ntmps148
      go_wp2_with fail
      refine (HV.out _).mono ?_
      rintro e w3 ⟨rfl, b3⟩
      have hA3 := Lvl.keep b3 HA.out
      obtain ⟨a0, a1, a2, a3, a4⟩ := five_cells hA3
      obtain ⟨f0, f1, f2, f3, f4⟩ := five_free hA3
      have HA3 := Lib.hid hA3
      have HB3 := Lib.hid (Trm.go HB.out b3)
      clear hA3 b3
      generalize hyd : (⟨none, 0, none, 0⟩ : Hd) = hy
      have hfm : ∀ (Q : Nat → Prop) (W : World), FirmS Q W (tV (v + by_ + u)) hy := fun Q W => hyd ▸ firm_tV hr0.1 hr0.2
      have HFM := Lib.hid hfm
      clear hfm
      generalize hyv : tV (v + by_ + u) = y at HFM ⊢
      clear hyd
      dsimp only [Tm.val, Tm.vals]
      go_wp2_with fail
      have h5 := putT_self HA3.out (.int .u8 y.k) (.int .i64 y.n) (.string y.s) (.slice hy.lo y.ls.length hy.lc) (.slice hy.to y.ts.length hy.tc)
      have b5 := putT_below HB3.out (Nat.le_refl w.heap.size) (.int .u8 y.k) (.int .i64 y.n) (.string y.s) (.slice hy.lo y.ls.length hy.lc) (.slice hy.to y.ts.length hy.tc)
      unfold putT at h5 b5
      generalize hW : ((((w3.setCell ⟨w.heap.size, 0, none⟩ (.int .u8 y.k)).setCell ⟨w.heap.size, 1, none⟩ (.int .i64 y.n)).setCell ⟨w.heap.size, 2, none⟩ (.string y.s)).setCell ⟨w.heap.size, 3, none⟩ (.slice hy.lo y.ls.length hy.lc)).setCell ⟨w.heap.size, 4, none⟩ (.slice hy.to y.ts.length hy.tc) = W4 at h5 b5 ⊢
      obtain ⟨e0, e1, e2, e3, e4⟩ := five_cells h5
      clear hW
      subst hyv
      exact bodyPost_ret (v := .tuple #[(tV (v + by_ + u)).val hy, .int .i64 0]) (by simp [results, Try.results148, go_sem, e0, e1, e2, e3, e4, Tm.val, Tm.vals]) rfl ⟨hy, rfl, HFM.out _ _, HK.out _ b5, RanS.of_below b5⟩

set_option maxRecDepth 100000 in
set_option maxHeartbeats 2000000 in
theorem free1_lift {σ : Type} {B N C F Y : Nat} {P : Nat → Prop} {to : σ → Int → Int → σ × Int × Option Tm} {Inv : σ → World → Prop} {Good : σ → Prop}
    (HD : ∀ (st : σ) (v u : Int) (w : World), Good st → Inv st w → 0 ≤ v → 0 ≤ u → u ≤ 4096 → v + u ≤ 1048576 → B ≤ w.heap.size → N ≤ w.heap.size → (∀ q, P q → q < w.heap.size) →
      Calls Try.prog 148 #[.int .i64 v, .int .i64 u, .pointer (some ⟨F, 0, none⟩), .pointer (some ⟨Y, 0, none⟩)] w (ThrPost B P (to st v u) Inv w))
    (hC : ∀ st w, Inv st w → w.heap[C]? = some (.cells #[.func (.func 148) #[] #[.pointer (some ⟨F, 0, none⟩), .pointer (some ⟨Y, 0, none⟩)]] 137))
    (hkeep : ∀ st w w', Inv st w → Below N w w' → Inv st w')
    (st : σ) (t : Tm) (b o : Nat) (u : Int) (w : World) (hg : Good st) (hi : Inv st w) (hn : t.node = true) (hu0 : 0 ≤ u) (hu1 : u ≤ 4096) (hat : SAt B P w b o t) (hB : B ≤ w.heap.size) (hN : N ≤ w.heap.size) (hPw : ∀ q, P q → q < w.heap.size) :
    Calls Try.prog 149 #[.pointer (some ⟨b, o, none⟩), .int .i64 u, .pointer (some ⟨C, 0, none⟩)] w (ThrPost B P (lfFree to st t u) Inv w) := by
  obtain ⟨hn0, hn1⟩ := node_num hn
  obtain ⟨hbP, hb, h, ⟨c0, c1, c2, c3, c4⟩, hin⟩ := hat
  have hCc := one_cell (hC st w hi)
  have z1 : C < w.heap.size := World.block_lt_of_cell? w _ hCc
  have hAP : ¬ P w.heap.size := fun hp => by have := hPw _ hp; omega
  have HI := Lib.hid hi
  have HPW := Lib.hid hPw
  clear hin hi hn hPw
  by_cases hc : t.k = 2 ∧ u ≤ t.n
  · have hs : lfFree to st t u = to st (t.n - u) u := if_pos hc
    rw [hs]
    have HX := Lib.hid (fun (W : World) (hW : Below w.heap.size w W) => HD st (t.n - u) u W hg (hkeep _ _ _ HI.out (hW.mono hN)) (by omega) hu0 hu1 (by omega) (by have := hW.size; omega) (by have := hW.size; omega) (fun q hq => by have := HPW.out q hq; have := hW.size; omega))
    generalize to st (t.n - u) u = R at HX ⊢
    obtain ⟨R1, R2, R3⟩ := R
    delta ThrPost at HX ⊢
    dsimp only at HX ⊢
    generalize hy : R3.getD zeroT = y at HX ⊢
    clear hy
    have hwr : IntKind.i64.wrap (t.n - u) = t.n - u := IntWalk.i64_in _ (by omega)
    have h1 := hc.1
    rw [h1] at c0
    have d2 : decide (t.n < u) = false := by simpa using hc.2
    clear hs hc HD h1 hC
    go_enter Try.func149, Try.ntmps149
    go_wp2_with fail
    go_region_with (go_at_call 148; refine (HX.out _ (below_one _ _).drew).mono ?_; rintro e w3 ⟨hy, rfl, fY, iY, rY⟩
                    have rY0 : RanS P (w.alloc (.cells #[.int .u8 0, .int .i64 0, .string no, .slice none 0 0, .slice none 0 0] 60)) w3 := (RanS.of_below (Below.refl _ _).drew).trans rY
                    have hA3 := rY0.keep (World.alloc_heap_new w _) hAP
                    obtain ⟨a0, a1, a2, a3, a4⟩ := five_cells hA3
                    obtain ⟨f0, f1, f2, f3, f4⟩ := five_free hA3
                    have HA3 := Lib.hid hA3
                    have HF := Lib.hid fY
                    have HI3 := Lib.hid iY
                    have HR3 := Lib.hid ((RanS.of_below (below_one w _)).trans rY0)
                    clear fY iY rY rY0 hA3
                    dsimp only [Tm.val, Tm.vals])
    all_goals
      go_wp2_with fail
      have h5 := putT_self HA3.out (.int .u8 y.k) (.int .i64 y.n) (.string y.s) (.slice hy.lo y.ls.length hy.lc) (.slice hy.to y.ts.length hy.tc)
      have r5 := putT_ran w3 w.heap.size (.int .u8 y.k) (.int .i64 y.n) (.string y.s) (.slice hy.lo y.ls.length hy.lc) (.slice hy.to y.ts.length hy.tc)
      have s5 := RanS.put HR3.out (Nat.le_refl w.heap.size) (.int .u8 y.k) (.int .i64 y.n) (.string y.s) (.slice hy.lo y.ls.length hy.lc) (.slice hy.to y.ts.length hy.tc)
      have z5 : w.heap.size < w3.heap.size := (Array.getElem?_eq_some_iff.1 HA3.out).1
      unfold putT at h5 r5 s5
      generalize hW : ((((w3.setCell ⟨w.heap.size, 0, none⟩ (.int .u8 y.k)).setCell ⟨w.heap.size, 1, none⟩ (.int .i64 y.n)).setCell ⟨w.heap.size, 2, none⟩ (.string y.s)).setCell ⟨w.heap.size, 3, none⟩ (.slice hy.lo y.ls.length hy.lc)).setCell ⟨w.heap.size, 4, none⟩ (.slice hy.to y.ts.length hy.tc) = W4 at h5 r5 s5 ⊢
      obtain ⟨e0, e1, e2, e3, e4⟩ := five_cells h5
      clear hW
      refine bodyPost_ret (v := .tuple #[y.val hy, .int .i64 R2]) (by simp [results, Try.results149, go_sem, e0, e1, e2, e3, e4, Tm.val, Tm.vals]) rfl ⟨hy, rfl, ?_, ?_, s5⟩
      · exact (HF.out.step (RanS.of_ran r5 ⟨hB, by simp [World.drew]⟩)).less (fun q _ hq => ⟨hq.1, by simp [World.drew]; omega⟩)
      · exact hkeep _ _ _ HI3.out (r5.below hN (by omega))
  · have hs : lfFree to st t u = (st, 0, none) := if_neg hc
    rw [hs]
    delta ThrPost
    dsimp only
    have HB := Lib.hid (below_one w (.cells #[.int .u8 0, .int .i64 0, .string no, .slice none 0 0, .slice none 0 0] 60))
    have HA := Lib.hid (World.alloc_heap_new w (.cells #[.int .u8 0, .int .i64 0, .string no, .slice none 0 0, .slice none 0 0] 60))
    by_cases h1 : t.k = 2
    · have d2 : decide (t.n < u) = true := by simp; omega
      rw [h1] at c0
      clear hs hc HD h1 hC
      go_enter Try.func149, Try.ntmps149
      go_wp2_with fail
      have h5 := HA.out
      have b5 := HB.out
      unfold no at h5 b5
      generalize hW : w.alloc (.cells #[.int .u8 0, .int .i64 0, .string ⟨#[]⟩, .slice none 0 0, .slice none 0 0] 60) = W4 at h5 b5 ⊢
      obtain ⟨e0, e1, e2, e3, e4⟩ := five_cells h5
      clear hW
      exact bodyPost_ret (v := .tuple #[zeroT.val ⟨none, 0, none, 0⟩, .int .i64 0]) (by simp [results, Try.results149, go_sem, e0, e1, e2, e3, e4, zeroT, Tm.val, Tm.vals, Tm.k, Tm.n, Tm.s, Tm.ls, Tm.ts, no]) rfl ⟨⟨none, 0, none, 0⟩, rfl, firm_zero, hkeep _ _ _ HI.out (b5.mono hN), RanS.of_below b5⟩
    · have d1 : (t.k != 2) = true := by simpa using h1
      clear hs hc HD h1 hC
      go_enter Try.func149, Try.ntmps149
      go_wp2_with fail
      have h5 := HA.out
      have b5 := HB.out
      unfold no at h5 b5
      generalize hW : w.alloc (.cells #[.int .u8 0, .int .i64 0, .string ⟨#[]⟩, .slice none 0 0, .slice none 0 0] 60) = W4 at h5 b5 ⊢
      obtain ⟨e0, e1, e2, e3, e4⟩ := five_cells h5
      clear hW
      exact bodyPost_ret (v := .tuple #[zeroT.val ⟨none, 0, none, 0⟩, .int .i64 0]) (by simp [results, Try.results149, go_sem, e0, e1, e2, e3, e4, zeroT, Tm.val, Tm.vals, Tm.k, Tm.n, Tm.s, Tm.ls, Tm.ts, no]) rfl ⟨⟨none, 0, none, 0⟩, rfl, firm_zero, hkeep _ _ _ HI.out (b5.mono hN), RanS.of_below b5⟩

theorem Trm.leaf_lift (fr by_ : Int) {B N C F Y : Nat} (hC : C < N) (hF : F < N) (hY : Y < N) (hb0 : -9223372036854775808 ≤ by_) (hb1 : by_ ≤ 2097152) : Leaf B N (fun _ => False) C 149 (lfFree (toLift fr by_)) (LiftInv fr by_ C F Y) (fun _ => True) where
  calls st t b o u w hg hi hn hts hu0 hu1 hat hB hN hPw := free1_lift (Good := fun _ => True) (fun st v u w _ hi h0 h1 h2 h3 _ hN _ => lifting1_any fr by_ hC hF hY hb0 hb1 st v u w hi h0 h1 h2 h3 hN) (fun st w h => h.1) (LiftInv.keep hC hF hY) st t b o u w hg hi hn hu0 hu1 hat hB hN hPw
  good _ _ _ _ _ _ _ := trivial
  kind st t u y hn hts h := by
    unfold lfFree toLift at h
    split at h
    · split at h
      · cases h
      · split at h
        · cases h
        · cases h; exact (by decide : (2 : Int) ≠ 0)
    · cases h
  keep := LiftInv.keep hC hF hY
  low _ h := h.elim
  enter args w := by kernel_rfl

theorem Trm.run_min (x y : Int) (ats : Array TypeId) (ty : TypeId) (w : World) : (Builtin.min_ ats ty #[.int .i64 x, .int .i64 y]).run Try.prog w = .ok (.int .i64 (min x y)) w := by
  by_cases h : y < x
  · have e : min x y = y := by omega
    rw [e]
    simp [Builtin.min_, Builtin.min2, go_sem, h]
  · have e : min x y = x := by omega
    rw [e]
    simp [Builtin.min_, Builtin.min2, go_sem, h]

set_option maxRecDepth 100000 in
theorem free_any (f : FuncId) (caps : Array Value) (w : World) :
    Calls Try.prog 125 #[.func (.func f) #[] caps] w fun e w' => e = .returned (fnv 149 w.heap.size) ∧ w'.heap[w.heap.size]? = some (.cells #[.func (.func f) #[] caps] 137) ∧ Below w.heap.size w w' := by
  go_enter Try.func125, Try.ntmps125
  go_wp2_with fail
  go_ret
  exact ⟨rfl, World.alloc_heap_new _ _, below_one _ _⟩

set_option maxRecDepth 100000 in
set_option maxHeartbeats 1000000 in
theorem lifting_any (fr by_ : Int) (w : World) :
    Calls Try.prog 122 #[.int .i64 fr, .int .i64 by_] w fun e w' => ∃ C F Y, e = .returned (fnv 149 C) ∧ LiftInv fr (min by_ 2097152) C F Y () w' ∧ C < w'.heap.size ∧ F < w'.heap.size ∧ Y < w'.heap.size ∧ Below w.heap.size w w' := by
  have hmin := run_min
  go_enter Try.func122, Try.ntmps122
  go_wp2_with fail
  refine (free_any _ _ _).mono ?_
  rintro e w3 ⟨rfl, hC3, b3⟩
  have h1 := new1of2 w (.cells #[.int .i64 fr] 3) (.cells #[.int .i64 (min by_ 2097152)] 3)
  have h2 := new2 w (.cells #[.int .i64 fr] 3) (.cells #[.int .i64 (min by_ 2097152)] 3)
  have hl := (Array.getElem?_eq_some_iff.1 hC3).1
  have hz := b3.size
  simp only [World.size_alloc] at hz hl hC3
  have HH := Lib.hid (show LiftInv fr (min by_ 2097152) _ _ _ () w3 from ⟨hC3, Lvl.keep b3 h1, Lvl.keep b3 h2⟩)
  have HB := Lib.hid (Trm.go (below_two w _ _) b3)
  clear hC3 b3 h1 h2
  go_wp2_with fail
  go_ret
  exact ⟨_, _, _, rfl, HH.out, hl, by omega, by omega, HB.out⟩
end Go.Proofs.Ytfechgahafbphaa
