/-
  subst.variable, lifting, free.
-/
import Derived.Test.YtijdlihodpodjaaQTrmE
import Derived.Test.YtijdlihodpodjaaQTrmWorks
import Derived.Test.YtijdlihodpodjaaQSubThr
namespace Go.Proofs.Ytijdlihodpodjaa
open Go.RowKit Go.Shelf Lvl Trm

theorem Trm.firm_tV {P : Nat → Prop} {w : World} {n : Int} {lc tc : Nat} (h0 : -9223372036854775808 ≤ n) (h1 : n ≤ 9223372036854775807) : FirmS P w (tV n) ⟨none, lc, none, tc⟩ := fun _ _ => leaf_in (by decide) (by decide) h0 h1 (by decide)
theorem Trm.RanS.none_below {w w' : World} (h : RanS (fun _ => False) w w') : Below w.heap.size w w' := ⟨h.os, h.tape, h.output, h.size, fun k hk => h.block k hk (fun hf => hf)⟩

set_option maxRecDepth 100000 in
theorem variable_any (n : Int) (w : World) :
    Calls Try.prog 89 #[.int .i64 n] w fun e w' => e = .returned ((tV n).val ⟨none, 0, none, 0⟩) ∧ Below w.heap.size w w' := by
  go_enter Try.func89, Try.ntmps89
  go_wp2_with fail
  exact bodyPost_ret (v := (tV n).val ⟨none, 0, none, 0⟩) (by simp [results, Try.results89, go_sem, tV, Tm.val, Tm.vals, Tm.k, Tm.n, Tm.s, Tm.ls, Tm.ts, no]) rfl ⟨rfl, below_one _ _⟩

/-- Where the closure of lifting and what it holds lie. -/
def Trm.LiftInv (fr by_ : Int) (C F Y : Nat) (_ : Unit) (w : World) : Prop := w.heap[C]? = some (.cells #[.func (.func 120) #[] #[.pointer (some ⟨F, 0, none⟩), .pointer (some ⟨Y, 0, none⟩)]] 103) ∧ w.heap[F]? = some (.cells #[.int .i64 fr] 3) ∧ w.heap[Y]? = some (.cells #[.int .i64 by_] 3)
theorem Trm.LiftInv.keep {fr by_ : Int} {C F Y N : Nat} (hC : C < N) (hF : F < N) (hY : Y < N) (st : Unit) (w w' : World) (h : LiftInv fr by_ C F Y st w) (b : Below N w w') : LiftInv fr by_ C F Y st w' :=
  ⟨(b.block _ hC).trans h.1, (b.block _ hF).trans h.2.1, (b.block _ hY).trans h.2.2⟩

set_option maxRecDepth 100000 in
set_option maxHeartbeats 1000000 in
theorem lifting1_any (fr by_ : Int) {B N C F Y : Nat} (hC : C < N) (hF : F < N) (hY : Y < N) (hb0 : -9223372036854775808 ≤ by_) (hb1 : by_ ≤ 2097152) (st : Unit) (v u : Int) (w : World) (hi : LiftInv fr by_ C F Y st w) (hv0 : 0 ≤ v) (hu0 : 0 ≤ u) (hu1 : u ≤ 4096) (hvu : v + u ≤ 1048576) (hN : N ≤ w.heap.size) :
    Calls Try.prog 120 #[.int .i64 v, .int .i64 u, .pointer (some ⟨F, 0, none⟩), .pointer (some ⟨Y, 0, none⟩)] w (ThrPost B (fun _ => False) (toLift fr by_ st v u) (LiftInv fr by_ C F Y) w) := by
  have HI := Lib.hid hi
  obtain ⟨hC0, hF0, hY0⟩ := hi
  have c0 := one_cell hF0
  have c1 := one_cell hY0
  clear hC0 hF0 hY0
  have z1 : F < w.heap.size := by omega
  have z2 : Y < w.heap.size := by omega
  have HA := Lib.hid (World.alloc_heap_new w (.cells #[.int .u8 0, .int .i64 0, .string no, .slice none 0 0, .slice none 0 0] 25))
  have HB := Lib.hid (below_one w (.cells #[.int .u8 0, .int .i64 0, .string no, .slice none 0 0, .slice none 0 0] 25))
  have HK := Lib.hid (fun (w' : World) (b : Below w.heap.size w w') => LiftInv.keep hC hF hY st _ _ HI.out (b.mono hN))
  by_cases h1 : v < fr ∨ by_ = 0
  · have hs : toLift fr by_ st v u = ((), 0, none) := by unfold toLift; rw [if_pos h1]
    rw [hs]
    delta ThrPost
    dsimp only
    clear hs
    by_cases h2 : v < fr
    · have d1 : decide (v < fr) = true := by simpa using h2
      clear h1 h2
      go_enter Try.func120, Try.ntmps120
      go_wp2_with fail
      have h5 := HA.out
      have b5 := HB.out
      unfold no at h5 b5
      generalize hW : w.alloc (.cells #[.int .u8 0, .int .i64 0, .string ⟨#[]⟩, .slice none 0 0, .slice none 0 0] 25) = W4 at h5 b5 ⊢
      obtain ⟨e0, e1, e2, e3, e4⟩ := five_cells h5
      clear hW
      exact bodyPost_ret (v := .tuple #[zeroT.val ⟨none, 0, none, 0⟩, .int .i64 0]) (by simp [results, Try.results120, go_sem, e0, e1, e2, e3, e4, zeroT, Tm.val, Tm.vals, Tm.k, Tm.n, Tm.s, Tm.ls, Tm.ts, no]) rfl ⟨⟨none, 0, none, 0⟩, rfl, firm_zero, HK.out _ b5, RanS.of_below b5⟩
    · have h3 : by_ = 0 := by omega
      subst h3
      have d1 : decide (v < fr) = false := by simpa using h2
      clear h1 h2
      go_enter Try.func120, Try.ntmps120
      go_wp2_with fail
      have h5 := HA.out
      have b5 := HB.out
      unfold no at h5 b5
      generalize hW : w.alloc (.cells #[.int .u8 0, .int .i64 0, .string ⟨#[]⟩, .slice none 0 0, .slice none 0 0] 25) = W4 at h5 b5 ⊢
      obtain ⟨e0, e1, e2, e3, e4⟩ := five_cells h5
      clear hW
      exact bodyPost_ret (v := .tuple #[zeroT.val ⟨none, 0, none, 0⟩, .int .i64 0]) (by simp [results, Try.results120, go_sem, e0, e1, e2, e3, e4, zeroT, Tm.val, Tm.vals, Tm.k, Tm.n, Tm.s, Tm.ls, Tm.ts, no]) rfl ⟨⟨none, 0, none, 0⟩, rfl, firm_zero, HK.out _ b5, RanS.of_below b5⟩
  · have d1 : decide (v < fr) = false := by simp; omega
    have d0 : (by_ == 0) = false := by simp; omega
    have hw1 : IntKind.i64.wrap (v + by_) = v + by_ := IntWalk.i64_in _ (by omega)
    by_cases h2 : v + by_ < fr
    · have hs : toLift fr by_ st v u = ((), 7, none) := by unfold toLift; rw [if_neg h1, if_pos h2]
      rw [hs]
      delta ThrPost
      dsimp only
      have d2 : decide (v + by_ < fr) = true := by simpa using h2
      clear hs h1 h2
      go_enter Try.func120, Try.ntmps120
      go_wp2_with fail
      have h5 := HA.out
      have b5 := HB.out
      unfold no at h5 b5
      generalize hW : w.alloc (.cells #[.int .u8 0, .int .i64 0, .string ⟨#[]⟩, .slice none 0 0, .slice none 0 0] 25) = W4 at h5 b5 ⊢
      obtain ⟨e0, e1, e2, e3, e4⟩ := five_cells h5
      clear hW
      exact bodyPost_ret (v := .tuple #[zeroT.val ⟨none, 0, none, 0⟩, .int .i64 7]) (by simp [results, Try.results120, go_sem, e0, e1, e2, e3, e4, zeroT, Tm.val, Tm.vals, Tm.k, Tm.n, Tm.s, Tm.ls, Tm.ts, no]) rfl ⟨⟨none, 0, none, 0⟩, rfl, firm_zero, HK.out _ b5, RanS.of_below b5⟩
    · have hs : toLift fr by_ st v u = ((), 0, some (tV (v + by_ + u))) := by unfold toLift; rw [if_neg h1, if_neg h2]
      rw [hs]
      delta ThrPost
      dsimp only [Option.getD]
      have d2 : decide (v + by_ < fr) = false := by simpa using h2
      have hw2 : IntKind.i64.wrap (v + by_ + u) = v + by_ + u := IntWalk.i64_in _ (by omega)
      have hr0 : -9223372036854775808 ≤ v + by_ + u ∧ v + by_ + u ≤ 9223372036854775807 := by omega
      have HV := Lib.hid (fun W => variable_any (v + by_ + u) W)
      clear hs h1 h2
      go_enter Try.func120, Try.ntmps120
      go_wp2_with fail
      refine (HV.out _).mono ?_
      rintro e w3 ⟨rfl, b3⟩
      have hA3 := Lvl.keep b3 HA.out
      obtain ⟨a0, a1, a2, a3, a4⟩ := five_cells hA3
      obtain ⟨f0, f1, f2, f3, f4⟩ := five_free hA3
      have HA3 := Lib.hid hA3
      have HB3 := Lib.hid (Trm.go HB.out b3)
      clear hA3 b3
      generalize hyd : (⟨none, 0, none, 0⟩ : Hd) = hy
      have hfm : ∀ (Q : Nat → Prop) (W : World), FirmS Q W (tV (v + by_ + u)) hy := fun Q W => hyd ▸ firm_tV hr0.1 hr0.2
      have HFM := Lib.hid hfm
      clear hfm
      generalize hyv : tV (v + by_ + u) = y at HFM ⊢
      clear hyd
      dsimp only [Tm.val, Tm.vals]
      go_wp2_with fail
      have h5 := putT_self HA3.out (.int .u8 y.k) (.int .i64 y.n) (.string y.s) (.slice hy.lo y.ls.length hy.lc) (.slice hy.to y.ts.length hy.tc)
      have b5 := putT_below HB3.out (Nat.le_refl w.heap.size) (.int .u8 y.k) (.int .i64 y.n) (.string y.s) (.slice hy.lo y.ls.length hy.lc) (.slice hy.to y.ts.length hy.tc)
      unfold putT at h5 b5
      generalize hW : ((((w3.setCell ⟨w.heap.size, 0, none⟩ (.int .u8 y.k)).setCell ⟨w.heap.size, 1, none⟩ (.int .i64 y.n)).setCell ⟨w.heap.size, 2, none⟩ (.string y.s)).setCell ⟨w.heap.size, 3, none⟩ (.slice hy.lo y.ls.length hy.lc)).setCell ⟨w.heap.size, 4, none⟩ (.slice hy.to y.ts.length hy.tc) = W4 at h5 b5 ⊢
      obtain ⟨e0, e1, e2, e3, e4⟩ := five_cells h5
      clear hW
      subst hyv
      exact bodyPost_ret (v := .tuple #[(tV (v + by_ + u)).val hy, .int .i64 0]) (by simp [results, Try.results120, go_sem, e0, e1, e2, e3, e4, Tm.val, Tm.vals]) rfl ⟨hy, rfl, HFM.out _ _, HK.out _ b5, RanS.of_below b5⟩

set_option maxRecDepth 100000 in
set_option maxHeartbeats 2000000 in
theorem free1_lift {σ : Type} {B N C F Y : Nat} {P : Nat → Prop} {to : σ → Int → Int → σ × Int × Option Tm} {Inv : σ → World → Prop} {Good : σ → Prop}
    (HD : ∀ (st : σ) (v u : Int) (w : World), Good st → Inv st w → 0 ≤ v → 0 ≤ u → u ≤ 4096 → v + u ≤ 1048576 → B ≤ w.heap.size → N ≤ w.heap.size → (∀ q, P q → q < w.heap.size) →
      Calls Try.prog 120 #[.int .i64 v, .int .i64 u, .pointer (some ⟨F, 0, none⟩), .pointer (some ⟨Y, 0, none⟩)] w (ThrPost B P (to st v u) Inv w))
    (hC : ∀ st w, Inv st w → w.heap[C]? = some (.cells #[.func (.func 120) #[] #[.pointer (some ⟨F, 0, none⟩), .pointer (some ⟨Y, 0, none⟩)]] 103))
    (hkeep : ∀ st w w', Inv st w → Below N w w' → Inv st w')
    (st : σ) (t : Tm) (b o : Nat) (u : Int) (w : World) (hg : Good st) (hi : Inv st w) (hn : t.node = true) (hu0 : 0 ≤ u) (hu1 : u ≤ 4096) (hat : SAt B P w b o t) (hB : B ≤ w.heap.size) (hN : N ≤ w.heap.size) (hPw : ∀ q, P q → q < w.heap.size) :
    Calls Try.prog 121 #[.pointer (some ⟨b, o, none⟩), .int .i64 u, .pointer (some ⟨C, 0, none⟩)] w (ThrPost B P (lfFree to st t u) Inv w) := by
  obtain ⟨hn0, hn1⟩ := node_num hn
  obtain ⟨hbP, hb, h, ⟨c0, c1, c2, c3, c4⟩, hin⟩ := hat
  have hCc := one_cell (hC st w hi)
  have z1 : C < w.heap.size := World.block_lt_of_cell? w _ hCc
  have hAP : ¬ P w.heap.size := fun hp => by have := hPw _ hp; omega
  have HI := Lib.hid hi
  have HPW := Lib.hid hPw
  clear hin hi hn hPw
  by_cases hc : t.k = 2 ∧ u ≤ t.n
  · have hs : lfFree to st t u = to st (t.n - u) u := if_pos hc
    rw [hs]
    have HX := Lib.hid (fun (W : World) (hW : Below w.heap.size w W) => HD st (t.n - u) u W hg (hkeep _ _ _ HI.out (hW.mono hN)) (by omega) hu0 hu1 (by omega) (by have := hW.size; omega) (by have := hW.size; omega) (fun q hq => by have := HPW.out q hq; have := hW.size; omega))
    generalize to st (t.n - u) u = R at HX ⊢
    obtain ⟨R1, R2, R3⟩ := R
    delta ThrPost at HX ⊢
    dsimp only at HX ⊢
    generalize hy : R3.getD zeroT = y at HX ⊢
    clear hy
    have hwr : IntKind.i64.wrap (t.n - u) = t.n - u := IntWalk.i64_in _ (by omega)
    have h1 := hc.1
    rw [h1] at c0
    have d2 : decide (t.n < u) = false := by simpa using hc.2
    clear hs hc HD h1 hC
    go_enter Try.func121, Try.ntmps121
    go_wp2_with fail
    go_region_with (go_at_call 120; refine (HX.out _ (below_one _ _).drew).mono ?_; rintro e w3 ⟨hy, rfl, fY, iY, rY⟩
                    have rY0 : RanS P (w.alloc (.cells #[.int .u8 0, .int .i64 0, .string no, .slice none 0 0, .slice none 0 0] 25)) w3 := (RanS.of_below (Below.refl _ _).drew).trans rY
                    have hA3 := rY0.keep (World.alloc_heap_new w _) hAP
                    obtain ⟨a0, a1, a2, a3, a4⟩ := five_cells hA3
                    obtain ⟨f0, f1, f2, f3, f4⟩ := five_free hA3
                    have HA3 := Lib.hid hA3
                    have HF := Lib.hid fY
                    have HI3 := Lib.hid iY
                    have HR3 := Lib.hid ((RanS.of_below (below_one w _)).trans rY0)
                    clear fY iY rY rY0 hA3
                    dsimp only [Tm.val, Tm.vals])
    all_goals
      go_wp2_with fail
      have h5 := putT_self HA3.out (.int .u8 y.k) (.int .i64 y.n) (.string y.s) (.slice hy.lo y.ls.length hy.lc) (.slice hy.to y.ts.length hy.tc)
      have r5 := putT_ran w3 w.heap.size (.int .u8 y.k) (.int .i64 y.n) (.string y.s) (.slice hy.lo y.ls.length hy.lc) (.slice hy.to y.ts.length hy.tc)
      have s5 := RanS.put HR3.out (Nat.le_refl w.heap.size) (.int .u8 y.k) (.int .i64 y.n) (.string y.s) (.slice hy.lo y.ls.length hy.lc) (.slice hy.to y.ts.length hy.tc)
      have z5 : w.heap.size < w3.heap.size := (Array.getElem?_eq_some_iff.1 HA3.out).1
      unfold putT at h5 r5 s5
      generalize hW : ((((w3.setCell ⟨w.heap.size, 0, none⟩ (.int .u8 y.k)).setCell ⟨w.heap.size, 1, none⟩ (.int .i64 y.n)).setCell ⟨w.heap.size, 2, none⟩ (.string y.s)).setCell ⟨w.heap.size, 3, none⟩ (.slice hy.lo y.ls.length hy.lc)).setCell ⟨w.heap.size, 4, none⟩ (.slice hy.to y.ts.length hy.tc) = W4 at h5 r5 s5 ⊢
      obtain ⟨e0, e1, e2, e3, e4⟩ := five_cells h5
      clear hW
      refine bodyPost_ret (v := .tuple #[y.val hy, .int .i64 R2]) (by simp [results, Try.results121, go_sem, e0, e1, e2, e3, e4, Tm.val, Tm.vals]) rfl ⟨hy, rfl, ?_, ?_, s5⟩
      · exact (HF.out.step (RanS.of_ran r5 ⟨hB, by simp [World.drew]⟩)).less (fun q _ hq => ⟨hq.1, by simp [World.drew]; omega⟩)
      · exact hkeep _ _ _ HI3.out (r5.below hN (by omega))
  · have hs : lfFree to st t u = (st, 0, none) := if_neg hc
    rw [hs]
    delta ThrPost
    dsimp only
    have HB := Lib.hid (below_one w (.cells #[.int .u8 0, .int .i64 0, .string no, .slice none 0 0, .slice none 0 0] 25))
    have HA := Lib.hid (World.alloc_heap_new w (.cells #[.int .u8 0, .int .i64 0, .string no, .slice none 0 0, .slice none 0 0] 25))
    by_cases h1 : t.k = 2
    · have d2 : decide (t.n < u) = true := by simp; omega
      rw [h1] at c0
      clear hs hc HD h1 hC
      go_enter Try.func121, Try.ntmps121
      go_wp2_with fail
      have h5 := HA.out
      have b5 := HB.out
      unfold no at h5 b5
      generalize hW : w.alloc (.cells #[.int .u8 0, .int .i64 0, .string ⟨#[]⟩, .slice none 0 0, .slice none 0 0] 25) = W4 at h5 b5 ⊢
      obtain ⟨e0, e1, e2, e3, e4⟩ := five_cells h5
      clear hW
      exact bodyPost_ret (v := .tuple #[zeroT.val ⟨none, 0, none, 0⟩, .int .i64 0]) (by simp [results, Try.results121, go_sem, e0, e1, e2, e3, e4, zeroT, Tm.val, Tm.vals, Tm.k, Tm.n, Tm.s, Tm.ls, Tm.ts, no]) rfl ⟨⟨none, 0, none, 0⟩, rfl, firm_zero, hkeep _ _ _ HI.out (b5.mono hN), RanS.of_below b5⟩
    · have d1 : (t.k != 2) = true := by simpa using h1
      clear hs hc HD h1 hC
      go_enter Try.func121, Try.ntmps121
      go_wp2_with fail
      have h5 := HA.out
      have b5 := HB.out
      unfold no at h5 b5
      generalize hW : w.alloc (.cells #[.int .u8 0, .int .i64 0, .string ⟨#[]⟩, .slice none 0 0, .slice none 0 0] 25) = W4 at h5 b5 ⊢
      obtain ⟨e0, e1, e2, e3, e4⟩ := five_cells h5
      clear hW
      exact bodyPost_ret (v := .tuple #[zeroT.val ⟨none, 0, none, 0⟩, .int .i64 0]) (by simp [results, Try.results121, go_sem, e0, e1, e2, e3, e4, zeroT, Tm.val, Tm.vals, Tm.k, Tm.n, Tm.s, Tm.ls, Tm.ts, no]) rfl ⟨⟨none, 0, none, 0⟩, rfl, firm_zero, hkeep _ _ _ HI.out (b5.mono hN), RanS.of_below b5⟩

theorem Trm.leaf_lift (fr by_ : Int) {B N C F Y : Nat} (hC : C < N) (hF : F < N) (hY : Y < N) (hb0 : -9223372036854775808 ≤ by_) (hb1 : by_ ≤ 2097152) : Leaf B N (fun _ => False) C 121 (lfFree (toLift fr by_)) (LiftInv fr by_ C F Y) (fun _ => True) where
  calls st t b o u w hg hi hn hts hu0 hu1 hat hB hN hPw := free1_lift (Good := fun _ => True) (fun st v u w _ hi h0 h1 h2 h3 _ hN _ => lifting1_any fr by_ hC hF hY hb0 hb1 st v u w hi h0 h1 h2 h3 hN) (fun st w h => h.1) (LiftInv.keep hC hF hY) st t b o u w hg hi hn hu0 hu1 hat hB hN hPw
  good _ _ _ _ _ _ _ := trivial
  kind st t u y hn hts h := by
    unfold lfFree toLift at h
    split at h
    · split at h
      · cases h
      · split at h
        · cases h
        · cases h; exact (by decide : (2 : Int) ≠ 0)
    · cases h
  keep := LiftInv.keep hC hF hY
  low _ h := h.elim
  enter args w := by kernel_rfl

theorem Trm.run_min (x y : Int) (ats : Array TypeId) (ty : TypeId) (w : World) : (Builtin.min_ ats ty #[.int .i64 x, .int .i64 y]).run Try.prog w = .ok (.int .i64 (min x y)) w := by
  by_cases h : y < x
  · have e : min x y = y := by omega
    rw [e]
    simp [Builtin.min_, Builtin.min2, go_sem, h]
  · have e : min x y = x := by omega
    rw [e]
    simp [Builtin.min_, Builtin.min2, go_sem, h]

set_option maxRecDepth 100000 in
theorem free_any (f : FuncId) (caps : Array Value) (w : World) :
    Calls Try.prog 87 #[.func (.func f) #[] caps] w fun e w' => e = .returned (fnv 121 w.heap.size) ∧ w'.heap[w.heap.size]? = some (.cells #[.func (.func f) #[] caps] 103) ∧ Below w.heap.size w w' := by
  go_enter Try.func87, Try.ntmps87
  go_wp2_with fail
  go_ret
  exact ⟨rfl, World.alloc_heap_new _ _, below_one _ _⟩

set_option maxRecDepth 100000 in
set_option maxHeartbeats 1000000 in
theorem lifting_any (fr by_ : Int) (w : World) :
    Calls Try.prog 84 #[.int .i64 fr, .int .i64 by_] w fun e w' => ∃ C F Y, e = .returned (fnv 121 C) ∧ LiftInv fr (min by_ 2097152) C F Y () w' ∧ C < w'.heap.size ∧ F < w'.heap.size ∧ Y < w'.heap.size ∧ Below w.heap.size w w' := by
  have hmin := run_min
  go_enter Try.func84, Try.ntmps84
  go_wp2_with fail
  refine (free_any _ _ _).mono ?_
  rintro e w3 ⟨rfl, hC3, b3⟩
  have h1 := new1of2 w (.cells #[.int .i64 fr] 3) (.cells #[.int .i64 (min by_ 2097152)] 3)
  have h2 := new2 w (.cells #[.int .i64 fr] 3) (.cells #[.int .i64 (min by_ 2097152)] 3)
  have hl := (Array.getElem?_eq_some_iff.1 hC3).1
  have hz := b3.size
  simp only [World.size_alloc] at hz hl hC3
  have HH := Lib.hid (show LiftInv fr (min by_ 2097152) _ _ _ () w3 from ⟨hC3, Lvl.keep b3 h1, Lvl.keep b3 h2⟩)
  have HB := Lib.hid (Trm.go (below_two w _ _) b3)
  clear hC3 b3 h1 h2
  go_wp2_with fail
  go_ret
  exact ⟨_, _, _, rfl, HH.out, hl, by omega, by omega, HB.out⟩
end Go.Proofs.Ytijdlihodpodjaa

/-
  subst.turned, answer, Lift.
-/
namespace Go.Proofs.Ytijdlihodpodjaa
open Go.RowKit Go.Shelf Lvl Trm

namespace Trm
/-- What turned answers. -/
def tAns {σ : Type} (t : Tm) (R : σ × Int × Option Tm) : Tm := if R.2.1 = 0 then R.2.2.getD t else R.2.2.getD zeroT
/-- What answer answers. -/
def ansT (t : Tm) (e : Int) : Tm × Int := if e ≠ 0 then (zeroT, e) else if t.may = true then (t, 0) else (zeroT, 4)
end Trm

set_option maxRecDepth 100000 in
set_option maxHeartbeats 2000000 in
theorem turned_any {σ : Type} {B N C : Nat} {P : Nat → Prop} {f : FuncId} {lf : Lf σ} {Inv : σ → World → Prop} {Good : σ → Prop} (S : Leaf B N P C f lf Inv Good) (t : Tm) (h : Hd) (st : σ) (w : World)
    (hmay : t.may = true) (hg : Good st) (hi : Inv st w) (hin : t.In B w h) (hB : B ≤ w.heap.size) (hN : N ≤ w.heap.size) (hPw : ∀ q, P q → q < w.heap.size) :
    Calls Try.prog 83 #[t.val h, fnv f C] w fun e w' => ∃ h', e = .returned (.tuple #[(tAns t (t.thr lf st 0)).val h', .int .i64 (t.thr lf st 0).2.1]) ∧ FirmS (fun q => B ≤ q ∧ q < w.heap.size) w' (tAns t (t.thr lf st 0)) h' ∧ Inv (t.thr lf st 0).1 w' ∧ RanS P w w' := by
  have hAP : ¬ P (w.heap.size + 1) := fun hp => by have := hPw _ hp; omega
  have hTP : ¬ P w.heap.size := fun hp => by have := hPw _ hp; omega
  have HT := Lib.hid (fun (W : World) (hW : Below w.heap.size w W) (hX : W.heap[w.heap.size]? = some (t.box h)) =>
    through_any S t st w.heap.size 0 1 0 W hg (S.keep _ _ _ hi (hW.mono hN)) (OkMay.start hmay) (by omega) (by omega) ⟨hTP, (Array.getElem?_eq_some_iff.1 hX).1, h, Tm.cells hX, Tm.In.below (hW.mono hB) _ _ hin⟩ (by have := hW.size; omega) (by have := hW.size; omega) (fun q hq => by have := hPw q hq; have := hW.size; omega))
  have HK := Lib.hid (fun y hy => Tm.thr_kind (st := st) (u := 0) S.kind (OkMay.start hmay) (y := y) hy)
  have HKEEP := Lib.hid S.keep
  have HIN := Lib.hid hin
  have HPW := Lib.hid hPw
  generalize t.thr lf st 0 = R at HT HK ⊢
  obtain ⟨R1, R2, R3⟩ := R
  have HB2 := Lib.hid (below_two w (t.box h) (.cells #[.int .u8 0, .int .i64 0, .string no, .slice none 0 0, .slice none 0 0] 25))
  have HX0 := Lib.hid (new1of2 w (t.box h) (.cells #[.int .u8 0, .int .i64 0, .string no, .slice none 0 0, .slice none 0 0] 25))
  have HA0 := Lib.hid (new2 w (t.box h) (.cells #[.int .u8 0, .int .i64 0, .string no, .slice none 0 0, .slice none 0 0] 25))
  delta ThrPost at HT
  unfold tAns
  dsimp only at HT HK ⊢
  have HTH := Lib.hid (HT.out _ HB2.out HX0.out)
  clear HT hmay hg hi hin hPw
  by_cases he : R2 = 0
  · subst he
    cases R3 with
    | none =>
      dsimp only [Option.getD] at HTH ⊢
      rw [if_pos rfl]
      have hyk : (zeroT.k == 0) = true := rfl
      generalize zeroT = y at HTH hyk
      unfold Tm.val at HTH ⊢
      dsimp only [Tm.vals] at HTH ⊢
      go_enter Try.func83, Try.ntmps83
      go_wp2_with fail
      refine HTH.out.mono ?_
      rintro e w3 ⟨hy, rfl, fY, iY, rY⟩
      have hz3 := rY.size
      simp only [World.size_alloc] at hz3
      have hA3 := rY.keep HA0.out hAP
      have hX3 := rY.keep HX0.out hTP
      obtain ⟨wy, hwy⟩ : ∃ wy, wy = w3.alloc (y.box hy) := ⟨_, rfl⟩
      have hby : Below w3.heap.size w3 wy := hwy ▸ below_one _ _
      have hyb := hwy ▸ World.alloc_heap_new w3 (y.box hy)
      have hzy := hby.size
      have HR4 := Lib.hid ((RanS.of_below (P := P) HB2.out).trans (rY.trans (RanS.of_below hby)))
      have HI4 := Lib.hid (HKEEP.out _ _ _ iY (hby.mono (by omega)))
      have HA4 := Lib.hid (Lvl.keep hby hA3)
      obtain ⟨y0, y1, y2, y3, y4⟩ := five_cells (show wy.heap[w3.heap.size]? = some (.cells #[.int .u8 y.k, .int .i64 y.n, .string y.s, .slice hy.lo y.ls.length hy.lc, .slice hy.to y.ts.length hy.tc] 25) from hyb)
      obtain ⟨a0, a1, a2, a3, a4⟩ := five_cells HA4.out
      obtain ⟨f0, f1, f2, f3, f4⟩ := five_free HA4.out
      obtain ⟨x0, x1, x2, x3, x4⟩ := five_cells (show wy.heap[w.heap.size]? = some (.cells #[.int .u8 t.k, .int .i64 t.n, .string t.s, .slice h.lo t.ls.length h.lc, .slice h.to t.ts.length h.tc] 25) from Lvl.keep hby hX3)
      clear hA3 hX3 fY iY rY hby hyb
      have ew : w3.alloc (.cells #[.int .u8 y.k, .int .i64 y.n, .string y.s, .slice hy.lo y.ls.length hy.lc, .slice hy.to y.ts.length hy.tc] 25) = wy := hwy.symm
      go_upto_region 2 with fail
      first | rw [ew] | rw [← hwy]
      clear ew hwy
      go_wp2_with fail
      have h5 := putT_self HA4.out (.int .u8 t.k) (.int .i64 t.n) (.string t.s) (.slice h.lo t.ls.length h.lc) (.slice h.to t.ts.length h.tc)
      have r5 := putT_ran wy (w.heap.size + 1) (.int .u8 t.k) (.int .i64 t.n) (.string t.s) (.slice h.lo t.ls.length h.lc) (.slice h.to t.ts.length h.tc)
      have s5 := RanS.put HR4.out (by omega : w.heap.size ≤ w.heap.size + 1) (.int .u8 t.k) (.int .i64 t.n) (.string t.s) (.slice h.lo t.ls.length h.lc) (.slice h.to t.ts.length h.tc)
      unfold putT at h5 r5 s5
      generalize hW : ((((wy.setCell ⟨w.heap.size + 1, 0, none⟩ (.int .u8 t.k)).setCell ⟨w.heap.size + 1, 1, none⟩ (.int .i64 t.n)).setCell ⟨w.heap.size + 1, 2, none⟩ (.string t.s)).setCell ⟨w.heap.size + 1, 3, none⟩ (.slice h.lo t.ls.length h.lc)).setCell ⟨w.heap.size + 1, 4, none⟩ (.slice h.to t.ts.length h.tc) = W4 at h5 r5 s5 ⊢
      obtain ⟨e0, e1, e2, e3, e4⟩ := five_cells h5
      clear hW
      exact bodyPost_ret (v := .tuple #[t.val h, .int .i64 0]) (by simp [results, Try.results83, go_sem, e0, e1, e2, e3, e4, Tm.val, Tm.vals]) rfl
        ⟨h, rfl, (FirmS.of HIN.out (fun q hq => hq.1) hB).step (s5.wide (fun q hq => ⟨S.low q hq, HPW.out q hq⟩)), HKEEP.out _ _ _ HI4.out (r5.below (by omega) (by omega)), s5⟩
    | some y =>
      dsimp only [Option.getD] at HTH ⊢
      rw [if_pos rfl]
      have hyk : (y.k == 0) = false := by have := HK.out y rfl; simpa using this
      unfold Tm.val at HTH ⊢
      dsimp only [Tm.vals] at HTH ⊢
      go_enter Try.func83, Try.ntmps83
      go_wp2_with fail
      refine HTH.out.mono ?_
      rintro e w3 ⟨hy, rfl, fY, iY, rY⟩
      have hz3 := rY.size
      simp only [World.size_alloc] at hz3
      have hA3 := rY.keep HA0.out hAP
      obtain ⟨wy, hwy⟩ : ∃ wy, wy = w3.alloc (y.box hy) := ⟨_, rfl⟩
      have hby : Below w3.heap.size w3 wy := hwy ▸ below_one _ _
      have hyb := hwy ▸ World.alloc_heap_new w3 (y.box hy)
      have hzy := hby.size
      have HR4 := Lib.hid ((RanS.of_below (P := P) HB2.out).trans (rY.trans (RanS.of_below hby)))
      have HI4 := Lib.hid (HKEEP.out _ _ _ iY (hby.mono (by omega)))
      have HA4 := Lib.hid (Lvl.keep hby hA3)
      have HF4 := Lib.hid (fY.step (RanS.of_below hby))
      obtain ⟨y0, y1, y2, y3, y4⟩ := five_cells (show wy.heap[w3.heap.size]? = some (.cells #[.int .u8 y.k, .int .i64 y.n, .string y.s, .slice hy.lo y.ls.length hy.lc, .slice hy.to y.ts.length hy.tc] 25) from hyb)
      obtain ⟨a0, a1, a2, a3, a4⟩ := five_cells HA4.out
      obtain ⟨f0, f1, f2, f3, f4⟩ := five_free HA4.out
      clear hA3 fY iY rY hby hyb
      have ew : w3.alloc (.cells #[.int .u8 y.k, .int .i64 y.n, .string y.s, .slice hy.lo y.ls.length hy.lc, .slice hy.to y.ts.length hy.tc] 25) = wy := hwy.symm
      go_upto_region 2 with fail
      first | rw [ew] | rw [← hwy]
      clear ew hwy
      go_wp2_with fail
      have h5 := putT_self HA4.out (.int .u8 y.k) (.int .i64 y.n) (.string y.s) (.slice hy.lo y.ls.length hy.lc) (.slice hy.to y.ts.length hy.tc)
      have r5 := putT_ran wy (w.heap.size + 1) (.int .u8 y.k) (.int .i64 y.n) (.string y.s) (.slice hy.lo y.ls.length hy.lc) (.slice hy.to y.ts.length hy.tc)
      have s5 := RanS.put HR4.out (by omega : w.heap.size ≤ w.heap.size + 1) (.int .u8 y.k) (.int .i64 y.n) (.string y.s) (.slice hy.lo y.ls.length hy.lc) (.slice hy.to y.ts.length hy.tc)
      unfold putT at h5 r5 s5
      generalize hW : ((((wy.setCell ⟨w.heap.size + 1, 0, none⟩ (.int .u8 y.k)).setCell ⟨w.heap.size + 1, 1, none⟩ (.int .i64 y.n)).setCell ⟨w.heap.size + 1, 2, none⟩ (.string y.s)).setCell ⟨w.heap.size + 1, 3, none⟩ (.slice hy.lo y.ls.length hy.lc)).setCell ⟨w.heap.size + 1, 4, none⟩ (.slice hy.to y.ts.length hy.tc) = W4 at h5 r5 s5 ⊢
      obtain ⟨e0, e1, e2, e3, e4⟩ := five_cells h5
      clear hW
      exact bodyPost_ret (v := .tuple #[y.val hy, .int .i64 0]) (by simp [results, Try.results83, go_sem, e0, e1, e2, e3, e4, Tm.val, Tm.vals]) rfl
        ⟨hy, rfl, (HF4.out.step (RanS.of_ran r5 ⟨by omega, by simp⟩)).less (fun q _ hq => ⟨hq.1, by simp; omega⟩), HKEEP.out _ _ _ HI4.out (r5.below (by omega) (by omega)), s5⟩
  · rw [if_neg he]
    have he2 : (R2 == 0) = false := by simpa using he
    generalize R3.getD zeroT = y at HTH ⊢
    clear HK he
    unfold Tm.val at HTH ⊢
    dsimp only [Tm.vals] at HTH ⊢
    go_enter Try.func83, Try.ntmps83
    go_wp2_with fail
    refine HTH.out.mono ?_
    rintro e w3 ⟨hy, rfl, fY, iY, rY⟩
    have hz3 := rY.size
    simp only [World.size_alloc] at hz3
    have hA3 := rY.keep HA0.out hAP
    obtain ⟨wy, hwy⟩ : ∃ wy, wy = w3.alloc (y.box hy) := ⟨_, rfl⟩
    have hby : Below w3.heap.size w3 wy := hwy ▸ below_one _ _
    have hyb := hwy ▸ World.alloc_heap_new w3 (y.box hy)
    have hzy := hby.size
    have HR4 := Lib.hid ((RanS.of_below (P := P) HB2.out).trans (rY.trans (RanS.of_below hby)))
    have HI4 := Lib.hid (HKEEP.out _ _ _ iY (hby.mono (by omega)))
    have HA4 := Lib.hid (Lvl.keep hby hA3)
    have HF4 := Lib.hid (fY.step (RanS.of_below hby))
    obtain ⟨y0, y1, y2, y3, y4⟩ := five_cells (show wy.heap[w3.heap.size]? = some (.cells #[.int .u8 y.k, .int .i64 y.n, .string y.s, .slice hy.lo y.ls.length hy.lc, .slice hy.to y.ts.length hy.tc] 25) from hyb)
    obtain ⟨a0, a1, a2, a3, a4⟩ := five_cells HA4.out
    obtain ⟨f0, f1, f2, f3, f4⟩ := five_free HA4.out
    clear hA3 fY iY rY hby hyb
    have ew : w3.alloc (.cells #[.int .u8 y.k, .int .i64 y.n, .string y.s, .slice hy.lo y.ls.length hy.lc, .slice hy.to y.ts.length hy.tc] 25) = wy := hwy.symm
    go_upto_region 2 with fail
    first | rw [ew] | rw [← hwy]
    clear ew hwy
    go_wp2_with fail
    have h5 := putT_self HA4.out (.int .u8 y.k) (.int .i64 y.n) (.string y.s) (.slice hy.lo y.ls.length hy.lc) (.slice hy.to y.ts.length hy.tc)
    have r5 := putT_ran wy (w.heap.size + 1) (.int .u8 y.k) (.int .i64 y.n) (.string y.s) (.slice hy.lo y.ls.length hy.lc) (.slice hy.to y.ts.length hy.tc)
    have s5 := RanS.put HR4.out (by omega : w.heap.size ≤ w.heap.size + 1) (.int .u8 y.k) (.int .i64 y.n) (.string y.s) (.slice hy.lo y.ls.length hy.lc) (.slice hy.to y.ts.length hy.tc)
    unfold putT at h5 r5 s5
    generalize hW : ((((wy.setCell ⟨w.heap.size + 1, 0, none⟩ (.int .u8 y.k)).setCell ⟨w.heap.size + 1, 1, none⟩ (.int .i64 y.n)).setCell ⟨w.heap.size + 1, 2, none⟩ (.string y.s)).setCell ⟨w.heap.size + 1, 3, none⟩ (.slice hy.lo y.ls.length hy.lc)).setCell ⟨w.heap.size + 1, 4, none⟩ (.slice hy.to y.ts.length hy.tc) = W4 at h5 r5 s5 ⊢
    obtain ⟨e0, e1, e2, e3, e4⟩ := five_cells h5
    clear hW
    exact bodyPost_ret (v := .tuple #[y.val hy, .int .i64 R2]) (by simp [results, Try.results83, go_sem, e0, e1, e2, e3, e4, Tm.val, Tm.vals]) rfl
      ⟨hy, rfl, (HF4.out.step (RanS.of_ran r5 ⟨by omega, by simp⟩)).less (fun q _ hq => ⟨hq.1, by simp; omega⟩), HKEEP.out _ _ _ HI4.out (r5.below (by omega) (by omega)), s5⟩

set_option maxRecDepth 100000 in
set_option maxHeartbeats 1000000 in
theorem sub_answer_any (t : Tm) (h : Hd) (e0 : Int) (w : World) (hin : t.In w.heap.size w h) :
    Calls Try.prog 82 #[t.val h, .int .i64 e0] w fun e w' => ∃ h', e = .returned (.tuple #[(ansT t e0).1.val h', .int .i64 (ansT t e0).2]) ∧ (∀ P, FirmS P w t h → FirmS P w' (ansT t e0).1 h') ∧ Below w.heap.size w w' := by
  have HM := Lib.hid (fun (W : World) (hW : Below w.heap.size w W) => PMay_any t h W (Tm.In.mono hW.size _ _ (Tm.In.below hW _ _ hin)))
  have HB2 := Lib.hid (below_two w (t.box h) (.cells #[.int .u8 0, .int .i64 0, .string no, .slice none 0 0, .slice none 0 0] 25))
  have HX0 := Lib.hid (new1of2 w (t.box h) (.cells #[.int .u8 0, .int .i64 0, .string no, .slice none 0 0, .slice none 0 0] 25))
  have HA0 := Lib.hid (new2 w (t.box h) (.cells #[.int .u8 0, .int .i64 0, .string no, .slice none 0 0, .slice none 0 0] 25))
  clear hin
  by_cases he : e0 ≠ 0
  · have hs : ansT t e0 = (zeroT, e0) := if_pos he
    rw [hs]
    have he2 : (e0 != 0) = true := by simpa using he
    unfold Tm.val
    dsimp only [Tm.vals]
    clear hs he
    go_enter Try.func82, Try.ntmps82
    go_wp2_with fail
    have h5 := HA0.out
    have b5 := HB2.out
    unfold no Tm.box at h5 b5
    dsimp only [Tm.vals] at h5 b5
    generalize hW : (w.alloc (.cells #[.int .u8 t.k, .int .i64 t.n, .string t.s, .slice h.lo t.ls.length h.lc, .slice h.to t.ts.length h.tc] 25)).alloc (.cells #[.int .u8 0, .int .i64 0, .string ⟨#[]⟩, .slice none 0 0, .slice none 0 0] 25) = W4 at h5 b5 ⊢
    obtain ⟨e0', e1, e2, e3, e4⟩ := five_cells h5
    clear hW
    exact bodyPost_ret (v := .tuple #[zeroT.val ⟨none, 0, none, 0⟩, .int .i64 e0]) (by simp [results, Try.results82, go_sem, e0', e1, e2, e3, e4, zeroT, Tm.val, Tm.vals, Tm.k, Tm.n, Tm.s, Tm.ls, Tm.ts, no]) rfl ⟨⟨none, 0, none, 0⟩, rfl, fun _ _ => firm_zero, b5⟩
  · have h0 : e0 = 0 := by omega
    subst h0
    cases hmay : t.may
    · have hs : ansT t 0 = (zeroT, 4) := by unfold ansT; rw [if_neg (by decide), if_neg (by simp [hmay])]
      rw [hs]
      rw [hmay] at HM
      unfold Tm.val at HM ⊢
      dsimp only [Tm.vals] at HM ⊢
      clear hs he hmay
      go_enter Try.func82, Try.ntmps82
      go_wp2_with fail
      refine (HM.out _ HB2.out).mono ?_
      rintro e w3 ⟨rfl, b3⟩
      have hA3 := Lvl.keep b3 HA0.out
      have HB3 := Lib.hid (Trm.go HB2.out b3)
      obtain ⟨a0, a1, a2, a3, a4⟩ := five_cells hA3
      obtain ⟨f0, f1, f2, f3, f4⟩ := five_free hA3
      have HA3 := Lib.hid hA3
      clear hA3 b3
      go_wp2_with fail
      have h5 := putT_self HA3.out (.int .u8 0) (.int .i64 0) (.string no) (.slice none 0 0) (.slice none 0 0)
      have b5 := putT_below HB3.out (by omega : w.heap.size ≤ w.heap.size + 1) (.int .u8 0) (.int .i64 0) (.string no) (.slice none 0 0) (.slice none 0 0)
      unfold putT no at h5 b5
      generalize hW : ((((w3.setCell ⟨w.heap.size + 1, 0, none⟩ (.int .u8 0)).setCell ⟨w.heap.size + 1, 1, none⟩ (.int .i64 0)).setCell ⟨w.heap.size + 1, 2, none⟩ (.string ⟨#[]⟩)).setCell ⟨w.heap.size + 1, 3, none⟩ (.slice none 0 0)).setCell ⟨w.heap.size + 1, 4, none⟩ (.slice none 0 0) = W4 at h5 b5 ⊢
      obtain ⟨e0', e1, e2, e3, e4⟩ := five_cells h5
      clear hW
      exact bodyPost_ret (v := .tuple #[zeroT.val ⟨none, 0, none, 0⟩, .int .i64 4]) (by simp [results, Try.results82, go_sem, e0', e1, e2, e3, e4, zeroT, Tm.val, Tm.vals, Tm.k, Tm.n, Tm.s, Tm.ls, Tm.ts, no]) rfl ⟨⟨none, 0, none, 0⟩, rfl, fun _ _ => firm_zero, b5⟩
    · have hs : ansT t 0 = (t, 0) := by unfold ansT; rw [if_neg (by decide), if_pos hmay]
      rw [hs]
      rw [hmay] at HM
      unfold Tm.val at HM ⊢
      dsimp only [Tm.vals] at HM ⊢
      clear hs he hmay
      go_enter Try.func82, Try.ntmps82
      go_wp2_with fail
      refine (HM.out _ HB2.out).mono ?_
      rintro e w3 ⟨rfl, b3⟩
      have hA3 := Lvl.keep b3 HA0.out
      have HB3 := Lib.hid (Trm.go HB2.out b3)
      obtain ⟨a0, a1, a2, a3, a4⟩ := five_cells hA3
      obtain ⟨f0, f1, f2, f3, f4⟩ := five_free hA3
      obtain ⟨x0, x1, x2, x3, x4⟩ := five_cells (show w3.heap[w.heap.size]? = some (.cells #[.int .u8 t.k, .int .i64 t.n, .string t.s, .slice h.lo t.ls.length h.lc, .slice h.to t.ts.length h.tc] 25) from Lvl.keep b3 HX0.out)
      have HA3 := Lib.hid hA3
      clear hA3 b3
      go_wp2_with fail
      have h5 := putT_self HA3.out (.int .u8 t.k) (.int .i64 t.n) (.string t.s) (.slice h.lo t.ls.length h.lc) (.slice h.to t.ts.length h.tc)
      have b5 := putT_below HB3.out (by omega : w.heap.size ≤ w.heap.size + 1) (.int .u8 t.k) (.int .i64 t.n) (.string t.s) (.slice h.lo t.ls.length h.lc) (.slice h.to t.ts.length h.tc)
      unfold putT at h5 b5
      generalize hW : ((((w3.setCell ⟨w.heap.size + 1, 0, none⟩ (.int .u8 t.k)).setCell ⟨w.heap.size + 1, 1, none⟩ (.int .i64 t.n)).setCell ⟨w.heap.size + 1, 2, none⟩ (.string t.s)).setCell ⟨w.heap.size + 1, 3, none⟩ (.slice h.lo t.ls.length h.lc)).setCell ⟨w.heap.size + 1, 4, none⟩ (.slice h.to t.ts.length h.tc) = W4 at h5 b5 ⊢
      obtain ⟨e0', e1, e2, e3, e4⟩ := five_cells h5
      clear hW
      exact bodyPost_ret (v := .tuple #[t.val h, .int .i64 0]) (by simp [results, Try.results82, go_sem, e0', e1, e2, e3, e4, Tm.val, Tm.vals]) rfl ⟨h, rfl, fun _ g => g.step (RanS.of_below b5), b5⟩
end Go.Proofs.Ytijdlihodpodjaa

/-
  subst.Lift.
-/
namespace Go.Proofs.Ytijdlihodpodjaa
open Go.RowKit Go.Shelf Lvl Trm

/-- What Lift answers. -/
def Trm.liftAns (t : Tm) (fr by_ : Int) : Tm × Int := if fr < 0 ∨ t.may = false then (zeroT, 1) else if t.sinks fr (min by_ 2097152) = true then (zeroT, 7) else if (t.put (gLift fr (min by_ 2097152)) 0).may = true then (t.put (gLift fr (min by_ 2097152)) 0, 0) else (zeroT, 4)
theorem Lift_ans {t : Tm} {fr by_ : Int} (hmay : t.may = true) (hfr : ¬ fr < 0) : ansT (tAns t (t.thr (lfFree (toLift fr (min by_ 2097152))) () 0)) (t.thr (lfFree (toLift fr (min by_ 2097152))) () 0).2.1 = liftAns t fr by_ := by
  obtain ⟨h1, h2⟩ := thr_lift hmay fr (min by_ 2097152)
  unfold liftAns
  rw [if_neg (by rw [hmay]; simp; omega), h1]
  cases hs : t.sinks fr (min by_ 2097152)
  · unfold tAns ansT
    rw [h1, hs]
    simp only [Bool.false_eq_true, if_false, if_true]
    rw [h2 hs]
    simp
  · unfold ansT
    simp

set_option maxRecDepth 100000 in
set_option maxHeartbeats 4000000 in
theorem Lift_any (t : Tm) (h : Hd) (fr by_ : Int) (w : World) (hin : t.In w.heap.size w h) (hb0 : -9223372036854775808 ≤ by_) :
    Calls Try.prog 33 #[t.val h, .int .i64 fr, .int .i64 by_] w fun e w' => ∃ h', e = .returned (.tuple #[(liftAns t fr by_).1.val h', .int .i64 (liftAns t fr by_).2]) ∧ (liftAns t fr by_).1.In w'.heap.size w' h' ∧ Below w.heap.size w w' := by
  have HM := Lib.hid (fun (W : World) (hW : Below w.heap.size w W) => PMay_any t h W (Tm.In.mono hW.size _ _ (Tm.In.below hW _ _ hin)))
  have HB0 := Lib.hid (below_two w (t.box h) (.cells #[.int .u8 0, .int .i64 0, .string no, .slice none 0 0, .slice none 0 0] 25))
  have HX0 := Lib.hid (new1of2 w (t.box h) (.cells #[.int .u8 0, .int .i64 0, .string no, .slice none 0 0, .slice none 0 0] 25))
  have HA0 := Lib.hid (new2 w (t.box h) (.cells #[.int .u8 0, .int .i64 0, .string no, .slice none 0 0, .slice none 0 0] 25))
  have HIN := Lib.hid hin
  clear hin
  by_cases hfr : fr < 0
  · have hs : liftAns t fr by_ = (zeroT, 1) := if_pos (Or.inl hfr)
    rw [hs]
    have d1 : decide (fr < 0) = true := by simpa using hfr
    unfold Tm.val
    dsimp only [Tm.vals]
    clear hs hfr HM HIN
    go_enter Try.func33, Try.ntmps33
    go_wp2_with fail
    have h5 := HA0.out
    have b5 := HB0.out
    unfold no Tm.box at h5 b5
    dsimp only [Tm.vals] at h5 b5
    generalize hW : (w.alloc (.cells #[.int .u8 t.k, .int .i64 t.n, .string t.s, .slice h.lo t.ls.length h.lc, .slice h.to t.ts.length h.tc] 25)).alloc (.cells #[.int .u8 0, .int .i64 0, .string ⟨#[]⟩, .slice none 0 0, .slice none 0 0] 25) = W4 at h5 b5 ⊢
    obtain ⟨e0, e1, e2, e3, e4⟩ := five_cells h5
    clear hW
    exact bodyPost_ret (v := .tuple #[zeroT.val ⟨none, 0, none, 0⟩, .int .i64 1]) (by simp [results, Try.results33, go_sem, e0, e1, e2, e3, e4, zeroT, Tm.val, Tm.vals, Tm.k, Tm.n, Tm.s, Tm.ls, Tm.ts, no]) rfl ⟨⟨none, 0, none, 0⟩, rfl, leaf_in (by decide) (by decide) (by decide) (by decide) (by decide), b5⟩
  · have d1 : decide (fr < 0) = false := by simpa using hfr
    cases hmay : t.may
    · have hs : liftAns t fr by_ = (zeroT, 1) := if_pos (Or.inr hmay)
      rw [hs]
      rw [hmay] at HM
      unfold Tm.val at HM ⊢
      dsimp only [Tm.vals] at HM ⊢
      clear hs hfr hmay
      go_enter Try.func33, Try.ntmps33
      go_wp2_with fail
      refine (HM.out _ HB0.out).mono ?_
      rintro e w1 ⟨rfl, b1⟩
      have hA1 := Lvl.keep b1 HA0.out
      have HB1 := Lib.hid (Trm.go HB0.out b1)
      obtain ⟨a0, a1, a2, a3, a4⟩ := five_cells hA1
      obtain ⟨f0, f1, f2, f3, f4⟩ := five_free hA1
      have HA1 := Lib.hid hA1
      clear hA1 b1
      go_wp2_with fail
      have h5 := putT_self HA1.out (.int .u8 0) (.int .i64 0) (.string no) (.slice none 0 0) (.slice none 0 0)
      have b5 := putT_below HB1.out (by omega : w.heap.size ≤ w.heap.size + 1) (.int .u8 0) (.int .i64 0) (.string no) (.slice none 0 0) (.slice none 0 0)
      unfold putT no at h5 b5
      generalize hW : ((((w1.setCell ⟨w.heap.size + 1, 0, none⟩ (.int .u8 0)).setCell ⟨w.heap.size + 1, 1, none⟩ (.int .i64 0)).setCell ⟨w.heap.size + 1, 2, none⟩ (.string ⟨#[]⟩)).setCell ⟨w.heap.size + 1, 3, none⟩ (.slice none 0 0)).setCell ⟨w.heap.size + 1, 4, none⟩ (.slice none 0 0) = W4 at h5 b5 ⊢
      obtain ⟨e0, e1, e2, e3, e4⟩ := five_cells h5
      clear hW
      exact bodyPost_ret (v := .tuple #[zeroT.val ⟨none, 0, none, 0⟩, .int .i64 1]) (by simp [results, Try.results33, go_sem, e0, e1, e2, e3, e4, zeroT, Tm.val, Tm.vals, Tm.k, Tm.n, Tm.s, Tm.ls, Tm.ts, no]) rfl ⟨⟨none, 0, none, 0⟩, rfl, leaf_in (by decide) (by decide) (by decide) (by decide) (by decide), b5⟩
    · obtain ⟨a, ha⟩ : ∃ a, a = liftAns t fr by_ := ⟨_, rfl⟩
      obtain ⟨y, hy⟩ : ∃ y, y = tAns t (t.thr (lfFree (toLift fr (min by_ 2097152))) () 0) := ⟨_, rfl⟩
      obtain ⟨z, hz⟩ : ∃ z, z = (t.thr (lfFree (toLift fr (min by_ 2097152))) () 0).2.1 := ⟨_, rfl⟩
      have hya : ansT y z = a := by
        rw [ha, hy, hz]
        exact Lift_ans hmay hfr
      rw [← ha]
      rw [hmay] at HM
      have HTU := Lib.hid (fun (W : World) (C F Y : Nat) (hW : Below w.heap.size w W) (hL : LiftInv fr (min by_ 2097152) C F Y () W) (hC : C < W.heap.size) (hF : F < W.heap.size) (hY : Y < W.heap.size) => show Calls Try.prog 83 #[t.val h, fnv 121 C] W (fun e w' => ∃ h', e = .returned (.tuple #[y.val h', .int .i64 z]) ∧ FirmS (fun q => w.heap.size ≤ q ∧ q < W.heap.size) w' y h' ∧ Below W.heap.size W w') from by
        have := turned_any (leaf_lift fr (min by_ 2097152) (B := w.heap.size) hC hF hY (by omega) (by omega)) t h () W hmay trivial hL (Tm.In.below hW _ _ HIN.out) hW.size (Nat.le_refl _) (fun q hq => hq.elim)
        rw [← hy, ← hz] at this
        exact this.mono (fun _ _ ⟨h', he, hf, _, hr⟩ => ⟨h', he, hf, hr.none_below⟩))
      have HAN := Lib.hid (fun (W : World) (h' : Hd) (hi : y.In W.heap.size W h') => by
        have := sub_answer_any y h' z W hi
        rw [hya] at this
        exact this)
      clear ha hy hz hya hmay hfr
      obtain ⟨a1, a2⟩ := a
      unfold Tm.val at HM HTU HAN ⊢
      dsimp only [Tm.vals] at HM HTU HAN ⊢
      go_enter Try.func33, Try.ntmps33
      go_wp2_with fail
      refine (HM.out _ HB0.out).mono ?_
      rintro e w1 ⟨rfl, b1⟩
      have HB1 := Lib.hid (Trm.go HB0.out b1)
      have HA1 := Lib.hid (Lvl.keep b1 HA0.out)
      have HX1 := Lib.hid (Lvl.keep b1 HX0.out)

      obtain ⟨x0, x1, x2, x3, x4⟩ := five_cells (show w1.heap[w.heap.size]? = some (.cells #[.int .u8 t.k, .int .i64 t.n, .string t.s, .slice h.lo t.ls.length h.lc, .slice h.to t.ts.length h.tc] 25) from HX1.out)
      clear b1
      go_wp2_with fail
      go_region_with (first
        | (go_at_call 84; refine (lifting_any fr by_ _).mono ?_; rintro e wl ⟨C, F, Y, rfl, hLI, hC, hF, hY, bl⟩
           have bl0 := Lvl.undrew bl
           have HBl := Lib.hid (Trm.go HB1.out bl0)
           have HAl := Lib.hid (Lvl.keep bl0 HA1.out)
           have hXl := Lvl.keep bl0 HX1.out
           obtain ⟨x0, x1, x2, x3, x4⟩ := five_cells (show wl.heap[w.heap.size]? = some (.cells #[.int .u8 t.k, .int .i64 t.n, .string t.s, .slice h.lo t.ls.length h.lc, .slice h.to t.ts.length h.tc] 25) from hXl)
           have HLl := Lib.hid hLI
           clear hLI
           clear bl bl0 hXl)
        | (go_at_call 83; refine (HTU.out _ C F Y HBl.out HLl.out hC hF hY).mono ?_; rintro e wt ⟨ht, rfl, iT, bt⟩
           have HBt := Lib.hid (Trm.go HBl.out bt)
           have HAt := Lib.hid (Lvl.keep bt HAl.out)
           have HIt := Lib.hid iT
           clear bt iT)
        | (go_at_call 82; refine (HAN.out _ _ HIt.out.here).mono ?_; rintro e wa ⟨ha, rfl, iA, ba⟩
           have HBa := Lib.hid (Trm.go HBt.out ba)
           have hAa := Lvl.keep ba HAt.out
           obtain ⟨q0, q1, q2, q3, q4⟩ := five_cells hAa
           obtain ⟨f0, f1, f2, f3, f4⟩ := five_free hAa
           have HAa := Lib.hid hAa
           have HIa := Lib.hid (iA _ HIt.out)
           have hla := (Array.getElem?_eq_some_iff.1 HAl.out).1
           clear ba iA hAa))
      all_goals
        go_wp2_with fail
        have h5 := putT_self HAa.out (.int .u8 a1.k) (.int .i64 a1.n) (.string a1.s) (.slice ha.lo a1.ls.length ha.lc) (.slice ha.to a1.ts.length ha.tc)
        have b5 := putT_below HBa.out (by omega : w.heap.size ≤ w.heap.size + 1) (.int .u8 a1.k) (.int .i64 a1.n) (.string a1.s) (.slice ha.lo a1.ls.length ha.lc) (.slice ha.to a1.ts.length ha.tc)
        have r5 := putT_ran wa (w.heap.size + 1) (.int .u8 a1.k) (.int .i64 a1.n) (.string a1.s) (.slice ha.lo a1.ls.length ha.lc) (.slice ha.to a1.ts.length ha.tc)
        unfold putT at h5 b5 r5
        generalize hW : ((((wa.setCell ⟨w.heap.size + 1, 0, none⟩ (.int .u8 a1.k)).setCell ⟨w.heap.size + 1, 1, none⟩ (.int .i64 a1.n)).setCell ⟨w.heap.size + 1, 2, none⟩ (.string a1.s)).setCell ⟨w.heap.size + 1, 3, none⟩ (.slice ha.lo a1.ls.length ha.lc)).setCell ⟨w.heap.size + 1, 4, none⟩ (.slice ha.to a1.ts.length ha.tc) = W4 at h5 b5 r5 ⊢
        obtain ⟨e0, e1, e2, e3, e4⟩ := five_cells h5
        clear hW
        refine bodyPost_ret (v := .tuple #[a1.val ha, .int .i64 a2]) (by simp [results, Try.results33, go_sem, e0, e1, e2, e3, e4, Tm.val, Tm.vals]) rfl ⟨ha, rfl, ?_, b5⟩
        exact (HIa.out.step (RanS.of_ran r5 ⟨by omega, hla⟩)).here
end Go.Proofs.Ytijdlihodpodjaa
