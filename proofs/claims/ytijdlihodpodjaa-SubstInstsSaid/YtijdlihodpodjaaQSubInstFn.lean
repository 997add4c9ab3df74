/-
  subst.Inst.
-/
import Derived.Test.YtijdlihodpodjaaQSubInst1
namespace Go.Proofs.Ytijdlihodpodjaa
open Go.RowKit Go.Shelf Lvl Trm

set_option maxRecDepth 100000 in
set_option maxHeartbeats 2000000 in
theorem free1_inst {σ : Type} {B N C KL M KS : Nat} {P : Nat → Prop} {to : σ → Int → Int → σ × Int × Option Tm} {Inv : σ → World → Prop} {Good : σ → Prop}
    (HD : ∀ (st : σ) (v u : Int) (w : World), Good st → Inv st w → 0 ≤ v → 0 ≤ u → u ≤ 4096 → v + u ≤ 1048576 → B ≤ w.heap.size → N ≤ w.heap.size → (∀ q, P q → q < w.heap.size) →
      Calls Try.prog 95 #[.int .i64 v, .int .i64 u, .pointer (some ⟨KL, 0, none⟩), .pointer (some ⟨M, 0, none⟩), .pointer (some ⟨KS, 0, none⟩)] w (ThrPost B P (to st v u) Inv w))
    (hC : ∀ st w, Inv st w → w.heap[C]? = some (.cells #[.func (.func 95) #[] #[.pointer (some ⟨KL, 0, none⟩), .pointer (some ⟨M, 0, none⟩), .pointer (some ⟨KS, 0, none⟩)]] 103))
    (hkeep : ∀ st w w', Inv st w → Below N w w' → Inv st w')
    (st : σ) (t : Tm) (b o : Nat) (u : Int) (w : World) (hg : Good st) (hi : Inv st w) (hn : t.node = true) (hu0 : 0 ≤ u) (hu1 : u ≤ 4096) (hat : SAt B P w b o t) (hB : B ≤ w.heap.size) (hN : N ≤ w.heap.size) (hPw : ∀ q, P q → q < w.heap.size) :
    Calls Try.prog 121 #[.pointer (some ⟨b, o, none⟩), .int .i64 u, .pointer (some ⟨C, 0, none⟩)] w (ThrPost B P (lfFree to st t u) Inv w) := by
  obtain ⟨hn0, hn1⟩ := node_num hn
  obtain ⟨hbP, hb, h, ⟨c0, c1, c2, c3, c4⟩, hin⟩ := hat
  have hCc := one_cell (hC st w hi)
  have z1 : C < w.heap.size := World.block_lt_of_cell? w _ hCc
  have hAP : ¬ P w.heap.size := fun hp => by have := hPw _ hp; omega
  have HI := Lib.hid hi
  have HPW := Lib.hid hPw
  clear hin hi hn hPw
  by_cases hc : t.k = 2 ∧ u ≤ t.n
  · have hs : lfFree to st t u = to st (t.n - u) u := if_pos hc
    rw [hs]
    have HX := Lib.hid (fun (W : World) (hW : Below w.heap.size w W) => HD st (t.n - u) u W hg (hkeep _ _ _ HI.out (hW.mono hN)) (by omega) hu0 hu1 (by omega) (by have := hW.size; omega) (by have := hW.size; omega) (fun q hq => by have := HPW.out q hq; have := hW.size; omega))
    generalize to st (t.n - u) u = R at HX ⊢
    obtain ⟨R1, R2, R3⟩ := R
    delta ThrPost at HX ⊢
    dsimp only at HX ⊢
    generalize hy : R3.getD zeroT = y at HX ⊢
    clear hy
    have hwr : IntKind.i64.wrap (t.n - u) = t.n - u := IntWalk.i64_in _ (by omega)
    have h1 := hc.1
    rw [h1] at c0
    have d2 : decide (t.n < u) = false := by simpa using hc.2
    clear hs hc HD h1 hC
    go_enter Try.func121, Try.ntmps121
    go_wp2_with fail
    go_region_with (go_at_call 95; refine (HX.out _ (below_one _ _).drew).mono ?_; rintro e w3 ⟨hy, rfl, fY, iY, rY⟩
                    have rY0 : RanS P (w.alloc (.cells #[.int .u8 0, .int .i64 0, .string no, .slice none 0 0, .slice none 0 0] 25)) w3 := (RanS.of_below (Below.refl _ _).drew).trans rY
                    have hA3 := rY0.keep (World.alloc_heap_new w _) hAP
                    obtain ⟨a0, a1, a2, a3, a4⟩ := five_cells hA3
                    obtain ⟨f0, f1, f2, f3, f4⟩ := five_free hA3
                    have HA3 := Lib.hid hA3
                    have HF := Lib.hid fY
                    have HI3 := Lib.hid iY
                    have HR3 := Lib.hid ((RanS.of_below (below_one w _)).trans rY0)
                    clear fY iY rY rY0 hA3
                    dsimp only [Tm.val, Tm.vals])
    all_goals
      go_wp2_with fail
      have h5 := putT_self HA3.out (.int .u8 y.k) (.int .i64 y.n) (.string y.s) (.slice hy.lo y.ls.length hy.lc) (.slice hy.to y.ts.length hy.tc)
      have r5 := putT_ran w3 w.heap.size (.int .u8 y.k) (.int .i64 y.n) (.string y.s) (.slice hy.lo y.ls.length hy.lc) (.slice hy.to y.ts.length hy.tc)
      have s5 := RanS.put HR3.out (Nat.le_refl w.heap.size) (.int .u8 y.k) (.int .i64 y.n) (.string y.s) (.slice hy.lo y.ls.length hy.lc) (.slice hy.to y.ts.length hy.tc)
      have z5 : w.heap.size < w3.heap.size := (Array.getElem?_eq_some_iff.1 HA3.out).1
      unfold putT at h5 r5 s5
      generalize hW : ((((w3.setCell ⟨w.heap.size, 0, none⟩ (.int .u8 y.k)).setCell ⟨w.heap.size, 1, none⟩ (.int .i64 y.n)).setCell ⟨w.heap.size, 2, none⟩ (.string y.s)).setCell ⟨w.heap.size, 3, none⟩ (.slice hy.lo y.ls.length hy.lc)).setCell ⟨w.heap.size, 4, none⟩ (.slice hy.to y.ts.length hy.tc) = W4 at h5 r5 s5 ⊢
      obtain ⟨e0, e1, e2, e3, e4⟩ := five_cells h5
      clear hW
      refine bodyPost_ret (v := .tuple #[y.val hy, .int .i64 R2]) (by simp [results, Try.results121, go_sem, e0, e1, e2, e3, e4, Tm.val, Tm.vals]) rfl ⟨hy, rfl, ?_, ?_, s5⟩
      · exact (HF.out.step (RanS.of_ran r5 ⟨hB, by simp [World.drew]⟩)).less (fun q _ hq => ⟨hq.1, by simp [World.drew]; omega⟩)
      · exact hkeep _ _ _ HI3.out (r5.below hN (by omega))
  · have hs : lfFree to st t u = (st, 0, none) := if_neg hc
    rw [hs]
    delta ThrPost
    dsimp only
    have HB := Lib.hid (below_one w (.cells #[.int .u8 0, .int .i64 0, .string no, .slice none 0 0, .slice none 0 0] 25))
    have HA := Lib.hid (World.alloc_heap_new w (.cells #[.int .u8 0, .int .i64 0, .string no, .slice none 0 0, .slice none 0 0] 25))
    by_cases h1 : t.k = 2
    · have d2 : decide (t.n < u) = true := by simp; omega
      rw [h1] at c0
      clear hs hc HD h1 hC
      go_enter Try.func121, Try.ntmps121
      go_wp2_with fail
      have h5 := HA.out
      have b5 := HB.out
      unfold no at h5 b5
      generalize hW : w.alloc (.cells #[.int .u8 0, .int .i64 0, .string ⟨#[]⟩, .slice none 0 0, .slice none 0 0] 25) = W4 at h5 b5 ⊢
      obtain ⟨e0, e1, e2, e3, e4⟩ := five_cells h5
      clear hW
      exact bodyPost_ret (v := .tuple #[zeroT.val ⟨none, 0, none, 0⟩, .int .i64 0]) (by simp [results, Try.results121, go_sem, e0, e1, e2, e3, e4, zeroT, Tm.val, Tm.vals, Tm.k, Tm.n, Tm.s, Tm.ls, Tm.ts, no]) rfl ⟨⟨none, 0, none, 0⟩, rfl, firm_zero, hkeep _ _ _ HI.out (b5.mono hN), RanS.of_below b5⟩
    · have d1 : (t.k != 2) = true := by simpa using h1
      clear hs hc HD h1 hC
      go_enter Try.func121, Try.ntmps121
      go_wp2_with fail
      have h5 := HA.out
      have b5 := HB.out
      unfold no at h5 b5
      generalize hW : w.alloc (.cells #[.int .u8 0, .int .i64 0, .string ⟨#[]⟩, .slice none 0 0, .slice none 0 0] 25) = W4 at h5 b5 ⊢
      obtain ⟨e0, e1, e2, e3, e4⟩ := five_cells h5
      clear hW
      exact bodyPost_ret (v := .tuple #[zeroT.val ⟨none, 0, none, 0⟩, .int .i64 0]) (by simp [results, Try.results121, go_sem, e0, e1, e2, e3, e4, zeroT, Tm.val, Tm.vals, Tm.k, Tm.n, Tm.s, Tm.ls, Tm.ts, no]) rfl ⟨⟨none, 0, none, 0⟩, rfl, firm_zero, hkeep _ _ _ HI.out (b5.mono hN), RanS.of_below b5⟩

theorem Trm.put_k {g : Int → Int → Tm} (hg : ∀ v u, (g v u).k ≠ 0) {t : Tm} {u : Int} (h : t.k ≠ 0) : (t.put g u).k ≠ 0 := by
  cases t with
  | mk k n s ls ts =>
    rw [Tm.put]
    split
    · exact hg _ _
    · exact h
theorem Trm.gInst_k {l : List Tm} (hlm : ∀ x ∈ l, x.may = true) (v u : Int) : (gInst l v u).k ≠ 0 := by
  unfold gInst
  split
  · refine put_k (g := gLift 0 u) (fun v' u' => show (2 : Int) ≠ 0 by decide) ?_
    have := (node_few (OkMay.start (hlm _ (List.getElem_mem (by omega : l.length - 1 - v.toNat < l.length)))).node.1).2.2
    omega
  · exact (by decide : (2 : Int) ≠ 0)
theorem Trm.leaf_inst {l : List Tm} {lo : Option Addr} {lc N B C KL M KS G : Nat} (H : InstBl N B C KL M KS G) (hlm : ∀ x ∈ l, x.may = true) (hln : l.length ≤ 1000000) : Leaf B N (fun q => q = M) C 121 (lfFree (toInst l)) (InstInv l lo lc B C KL M KS G) (fun n => 0 ≤ n ∧ n ≤ 65536) where
  calls st t b o u w hg hi hn hts hu0 hu1 hat hB hN hPw := free1_inst (Good := fun n : Int => 0 ≤ n ∧ n ≤ 65536) (fun st v u w hg hi h0 h1 h2 h3 _ hN _ => inst1_any l lo H hlm hln st v u w hg hi h0 h1 h2 h3 hN) (fun st w h => h.c) (InstInv.keep H) st t b o u w hg hi hn hu0 hu1 hat hB hN hPw
  good st t u hg hn hts h := by
    unfold lfFree toInst at h ⊢
    split
    · rename_i h1
      rw [if_pos h1] at h
      split
      · rename_i h2
        rw [dif_pos h2] at h
        split
        · rename_i h3
          rw [if_pos h3] at h
          exact absurd h (show ¬ ((4 : Int) = 0) by decide)
        · have := (l[l.length - 1 - (t.n - u).toNat]'(by omega)).size_pos
          dsimp only
          omega
      · exact hg
    · exact hg
  kind st t u y hn hts h := by
    unfold lfFree toInst at h
    split at h
    · split at h
      · split at h
        · cases h
        · cases h; exact gInst_k hlm _ _
      · cases h; exact gInst_k hlm _ _
    · cases h
  keep := InstInv.keep H
  low q hq := by subst hq; exact H.b
  enter args w := by kernel_rfl

theorem Inst_ans {t : Tm} {l : List Tm} (hmay : t.may = true) (hall : l.all Tm.may = true) : ansT (tAns t (t.thr (lfFree (toInst l)) t.size 0)) (t.thr (lfFree (toInst l)) t.size 0).2.1 = instAns t l := by
  have hlm : ∀ x ∈ l, x.may = true := List.all_eq_true.1 hall
  unfold instAns
  rw [if_pos ⟨hmay, hall⟩]
  rcases thr_inst hmay hlm with ⟨h1, h2⟩ | ⟨h1, h2⟩
  · unfold tAns ansT
    rw [h1, h2]
    simp
  · unfold ansT
    rw [h1, h2]
    simp

set_option maxRecDepth 100000 in
set_option maxHeartbeats 40000000 in
theorem Inst_any (t : Tm) (h : Hd) (l : List Tm) (lo : Option Addr) (lc : Nat) (w : World) (hin : t.In w.heap.size w h) (hl : RowIn w.heap.size w lo 0 l) (hln : l.length ≤ 1000000) :
    Calls Try.prog 41 #[t.val h, .slice lo l.length lc] w fun e w' => ∃ h', e = .returned (.tuple #[(instAns t l).1.val h', .int .i64 (instAns t l).2]) ∧ (instAns t l).1.In w'.heap.size w' h' ∧ Below w.heap.size w w' := by
  have HS := Lib.hid (fun (W : World) (hW : Below w.heap.size w W) => PSize_any t h W (Tm.In.mono hW.size _ _ (Tm.In.below hW _ _ hin)))
  have HSZ := Lib.hid (fun (W : World) (hW : Below w.heap.size w W) => sizesOf_any l lo lc W (carryRow hl hW) hln)
  have HB0 := Lib.hid ((below_two w (t.box h) (.cells #[.slice lo l.length lc] 23)).alloc (by simp; omega) (.cells #[.int .u8 0, .int .i64 0, .string no, .slice none 0 0, .slice none 0 0] 25))
  have HX0 := Lib.hid (keepA (new1of2 w (t.box h) (.cells #[.slice lo l.length lc] 23)) (.cells #[.int .u8 0, .int .i64 0, .string no, .slice none 0 0, .slice none 0 0] 25))
  have HKL0 := Lib.hid (keepA (new2 w (t.box h) (.cells #[.slice lo l.length lc] 23)) (.cells #[.int .u8 0, .int .i64 0, .string no, .slice none 0 0, .slice none 0 0] 25))
  have HA0 := Lib.hid (new3 w (t.box h) (.cells #[.slice lo l.length lc] 23) (.cells #[.int .u8 0, .int .i64 0, .string no, .slice none 0 0, .slice none 0 0] 25))
  have HIN := Lib.hid hin
  have HLL := Lib.hid hl
  have HCT : Hid (t.count = if t.may = true then t.size else 0) := Lib.hid rfl
  have hpos := t.size_pos
  obtain ⟨a, ha⟩ : ∃ a, a = instAns t l := ⟨_, rfl⟩
  rw [← ha]
  have HANS := Lib.hid ha
  have HZR : Hid (¬ (t.may = true ∧ l.all Tm.may = true) → a = (zeroT, 1)) := Lib.hid (fun hh => by rw [ha]; exact if_neg hh)
  obtain ⟨y, hy⟩ : ∃ y, y = tAns t (t.thr (lfFree (toInst l)) t.size 0) := ⟨_, rfl⟩
  obtain ⟨z, hz⟩ : ∃ z, z = (t.thr (lfFree (toInst l)) t.size 0).2.1 := ⟨_, rfl⟩
  have HTU := Lib.hid (fun (W : World) (C KL M KS G : Nat) (hmay : t.may = true) (hall : l.all Tm.may = true) (hW : Below w.heap.size w W) (hI : InstInv l lo lc w.heap.size C KL M KS G t.size W) (H : InstBl W.heap.size w.heap.size C KL M KS G) => show Calls Try.prog 83 #[t.val h, fnv 121 C] W (fun e w' => ∃ h', e = .returned (.tuple #[y.val h', .int .i64 z]) ∧ FirmS (fun q => w.heap.size ≤ q ∧ q < W.heap.size) w' y h' ∧ RanS (fun q => q = M) W w') from by
    have := turned_any (leaf_inst H (List.all_eq_true.1 hall) hln) t h t.size W hmay ⟨by omega, may_size' hmay⟩ hI (Tm.In.below hW _ _ hin) hW.size (Nat.le_refl _) (fun q hq => by subst hq; exact H.m)
    rw [← hy, ← hz] at this
    exact this.mono (fun _ _ ⟨h', he, hf, _, hr⟩ => ⟨h', he, hf, hr⟩))
  have HAN := Lib.hid (fun (W : World) (h' : Hd) (hmay : t.may = true) (hall : l.all Tm.may = true) (hi : y.In W.heap.size W h') => by
    have := sub_answer_any y h' z W hi
    rw [show ansT y z = a by rw [hy, hz, ha]; exact Inst_ans hmay hall] at this
    exact this)
  clear hin hl ha hy hz
  unfold Tm.val at HS HTU HAN ⊢
  dsimp only [Tm.vals] at HS HTU HAN ⊢
  go_enter Try.func41, Try.ntmps41
  go_wp2_with fail
  refine (HS.out _ HB0.out).mono ?_
  rintro e w1 ⟨rfl, b1⟩
  have hz1 := b1.size
  simp only [World.size_alloc] at hz1
  have hb2 := below_one w1 (.cells #[.int .i64 t.count] 3)
  have HB2 := Lib.hid (Trm.go (Trm.go HB0.out b1) hb2)
  have HX2 := Lib.hid (Lvl.keep hb2 (Lvl.keep b1 HX0.out))
  have HKL2 := Lib.hid (Lvl.keep hb2 (Lvl.keep b1 HKL0.out))
  have HA2 := Lib.hid (Lvl.keep hb2 (Lvl.keep b1 HA0.out))
  have HM2 := Lib.hid (World.alloc_heap_new w1 (.cells #[.int .i64 t.count] 3))
  have k0 := one_cell (Lvl.keep b1 HKL0.out)
  have hq1 : w.heap.size + 1 < w1.heap.size := by omega
  clear b1 hb2
  go_wp2_with fail
  refine (HSZ.out _ HB2.out).mono ?_
  rintro e w3 ⟨b3, hsz⟩
  have hz3 := b3.size
  simp only [World.size_alloc] at hz3
  have HB3 := Lib.hid (Trm.go HB2.out b3)
  have HX3 := Lib.hid (Lvl.keep b3 HX2.out)
  have HKL3 := Lib.hid (Lvl.keep b3 HKL2.out)
  have HA3 := Lib.hid (Lvl.keep b3 HA2.out)
  have HM3 := Lib.hid (Lvl.keep b3 HM2.out)
  have m0 := one_cell HM3.out
  have hq2 : w.heap.size + 1 + 1 < w3.heap.size := by omega
  have hq3 : w1.heap.size < w3.heap.size := by omega
  have hq4 : w.heap.size < w3.heap.size := by omega
  have hq5 : w.heap.size + 1 < w3.heap.size := by omega
  obtain ⟨p0, p1, p2, p3, p4⟩ := five_cells HA3.out
  obtain ⟨f0, f1, f2, f3, f4⟩ := five_free HA3.out
  clear b3 k0
  rcases hsz with ⟨hall, G, rfl, hGl, hgr⟩ | ⟨hall, rfl⟩
  · have HGR := Lib.hid hgr
    have hGl3 := hgr.lt
    rw [World.size_alloc] at hGl
    clear hgr
    cases hm : t.may
    · have hct : t.count = 0 := by rw [HCT.out, hm]; rfl
      rw [hct] at m0
      have haz := HZR.out (by simp [hm])
      subst haz
      clear hm hct
      go_wp2_with fail
      have h5 := putT_self HA3.out (.int .u8 0) (.int .i64 0) (.string no) (.slice none 0 0) (.slice none 0 0)
      have b5 := putT_below HB3.out (by omega : w.heap.size ≤ w.heap.size + 1 + 1) (.int .u8 0) (.int .i64 0) (.string no) (.slice none 0 0) (.slice none 0 0)
      unfold putT no at h5 b5
      generalize hW : ((((w3.setCell ⟨w.heap.size + 1 + 1, 0, none⟩ (.int .u8 0)).setCell ⟨w.heap.size + 1 + 1, 1, none⟩ (.int .i64 0)).setCell ⟨w.heap.size + 1 + 1, 2, none⟩ (.string ⟨#[]⟩)).setCell ⟨w.heap.size + 1 + 1, 3, none⟩ (.slice none 0 0)).setCell ⟨w.heap.size + 1 + 1, 4, none⟩ (.slice none 0 0) = W4 at h5 b5 ⊢
      obtain ⟨e0, e1, e2, e3, e4⟩ := five_cells (keepA h5 (.cells #[.slice (some ⟨G, 0, none⟩) l.length l.length] 50))
      clear hW
      exact bodyPost_ret (v := .tuple #[zeroT.val ⟨none, 0, none, 0⟩, .int .i64 1]) (by simp [results, Try.results41, go_sem, e0, e1, e2, e3, e4, zeroT, Tm.val, Tm.vals, Tm.k, Tm.n, Tm.s, Tm.ls, Tm.ts, no]) rfl ⟨⟨none, 0, none, 0⟩, rfl, leaf_in (by decide) (by decide) (by decide) (by decide) (by decide), b5.alloc b5.size _⟩
    · have hct : t.count = t.size := by rw [HCT.out, hm]; rfl
      have hne : (t.size == 0) = false := by simp; omega
      rw [hct] at m0
      have HMS : Hid (w3.heap[w1.heap.size]? = some (.cells #[.int .i64 t.size] 3)) := Lib.hid (hct ▸ HM3.out)
      have HTM := Lib.hid hm
      have HAL := Lib.hid hall
      clear hm hct hall HZR
      obtain ⟨a1, a2⟩ := a
      dsimp only at HAN
      go_wp2_with fail
      obtain ⟨w4, hw4⟩ : ∃ w4, w4 = w3.alloc (.cells #[.slice (some ⟨G, 0, none⟩) l.length l.length] 50) := ⟨_, rfl⟩
      rw [← hw4]
      have hb4 : Below w3.heap.size w3 w4 := hw4 ▸ below_one _ _
      have HKS4 := Lib.hid (show w4.heap[w3.heap.size]? = some (.cells #[.slice (some ⟨G, 0, none⟩) l.length l.length] 50) from hw4 ▸ World.alloc_heap_new w3 _)
      have HB4 := Lib.hid (Trm.go HB3.out hb4)
      have HX4 := Lib.hid (Lvl.keep hb4 HX3.out)
      have HKL4 := Lib.hid (Lvl.keep hb4 HKL3.out)
      have HA4 := Lib.hid (Lvl.keep hb4 HA3.out)
      have HM5 := Lib.hid (Lvl.keep hb4 HMS.out)
      have hl4 : w3.heap.size < w4.heap.size := (Array.getElem?_eq_some_iff.1 HKS4.out).1
      have hGlt := HGR.out.lt
      have HG4 := Lib.hid (HGR.out.of_block (hb4.block _ hGlt))
      clear hw4 hb4 m0 p0 p1 p2 p3 p4 f0 f1 f2 f3 f4
      obtain ⟨x0, x1, x2, x3, x4⟩ := five_cells (show w4.heap[w.heap.size]? = some (.cells #[.int .u8 t.k, .int .i64 t.n, .string t.s, .slice h.lo t.ls.length h.lc, .slice h.to t.ts.length h.tc] 25) from HX4.out)
      go_region_with (first
        | (go_at_call 87; refine (free_any _ _ _).mono ?_; rintro e wl ⟨rfl, hC, bl⟩
           have bl0 : Below w4.heap.size w4 wl := Lvl.undrew bl
           have HBl := Lib.hid (Trm.go HB4.out bl0)
           have HAl := Lib.hid (Lvl.keep bl0 HA4.out)
           have hXl := Lvl.keep bl0 HX4.out
           obtain ⟨x0, x1, x2, x3, x4⟩ := five_cells (show wl.heap[w.heap.size]? = some (.cells #[.int .u8 t.k, .int .i64 t.n, .string t.s, .slice h.lo t.ls.length h.lc, .slice h.to t.ts.length h.tc] 25) from hXl)
           have hlC : w4.heap.size < wl.heap.size := (Array.getElem?_eq_some_iff.1 hC).1
           have HIl := Lib.hid (show InstInv l lo lc w.heap.size w4.heap.size (w.heap.size + 1) w1.heap.size w3.heap.size G t.size wl from ⟨hC, Lvl.keep bl0 HKL4.out, Lvl.keep bl0 HM5.out, Lvl.keep bl0 HKS4.out, HG4.out.of_block (bl0.block _ HG4.out.lt), HLL.out.below HBl.out⟩)
           have HHl := Lib.hid (show InstBl wl.heap.size w.heap.size w4.heap.size (w.heap.size + 1) w1.heap.size w3.heap.size G from ⟨by omega, by omega, by omega, by omega, by omega, by omega, by omega, by omega, by omega, by omega⟩)
           clear hC bl bl0 hXl)
        | (go_at_call 83; refine (HTU.out _ _ _ _ _ _ HTM.out HAL.out HBl.out HIl.out HHl.out).mono ?_; rintro e wt ⟨ht, rfl, fT, rT⟩
           have HBt := Lib.hid (HBl.out.trans (rT.below (fun k hk => by subst hk; omega) HBl.out.size))
           have HAt := Lib.hid (rT.keep HAl.out (by omega))
           have HFt := Lib.hid fT
           clear rT fT)
        | (go_at_call 82; refine (HAN.out _ _ HTM.out HAL.out HFt.out.here).mono ?_; rintro e wa ⟨ha, rfl, iA, ba⟩
           have HBa := Lib.hid (Trm.go HBt.out ba)
           have hAa := Lvl.keep ba HAt.out
           obtain ⟨q0, q1, q2, q3, q4⟩ := five_cells hAa
           obtain ⟨f0, f1, f2, f3, f4⟩ := five_free hAa
           have HAa := Lib.hid hAa
           have HIa := Lib.hid (iA _ HFt.out)
           have hla := (Array.getElem?_eq_some_iff.1 HAl.out).1
           clear ba iA hAa))
      all_goals
        go_wp2_with fail
        have h5 := putT_self HAa.out (.int .u8 a1.k) (.int .i64 a1.n) (.string a1.s) (.slice ha.lo a1.ls.length ha.lc) (.slice ha.to a1.ts.length ha.tc)
        have b5 := putT_below HBa.out (by omega : w.heap.size ≤ w.heap.size + 1 + 1) (.int .u8 a1.k) (.int .i64 a1.n) (.string a1.s) (.slice ha.lo a1.ls.length ha.lc) (.slice ha.to a1.ts.length ha.tc)
        have r5 := putT_ran wa (w.heap.size + 1 + 1) (.int .u8 a1.k) (.int .i64 a1.n) (.string a1.s) (.slice ha.lo a1.ls.length ha.lc) (.slice ha.to a1.ts.length ha.tc)
        unfold putT at h5 b5 r5
        generalize hW : ((((wa.setCell ⟨w.heap.size + 1 + 1, 0, none⟩ (.int .u8 a1.k)).setCell ⟨w.heap.size + 1 + 1, 1, none⟩ (.int .i64 a1.n)).setCell ⟨w.heap.size + 1 + 1, 2, none⟩ (.string a1.s)).setCell ⟨w.heap.size + 1 + 1, 3, none⟩ (.slice ha.lo a1.ls.length ha.lc)).setCell ⟨w.heap.size + 1 + 1, 4, none⟩ (.slice ha.to a1.ts.length ha.tc) = W4 at h5 b5 r5 ⊢
        obtain ⟨e0, e1, e2, e3, e4⟩ := five_cells h5
        clear hW
        refine bodyPost_ret (v := .tuple #[a1.val ha, .int .i64 a2]) (by simp [results, Try.results41, go_sem, e0, e1, e2, e3, e4, Tm.val, Tm.vals]) rfl ⟨ha, rfl, ?_, b5⟩
        exact (HIa.out.step (RanS.of_ran r5 ⟨by omega, hla⟩)).here
  · have haz := HZR.out (by simp [hall])
    subst haz
    cases hm : t.may
    · have hct : t.count = 0 := by rw [HCT.out, hm]; rfl
      rw [hct] at m0
      clear hm hct
      go_wp2_with fail
      have h5 := putT_self HA3.out (.int .u8 0) (.int .i64 0) (.string no) (.slice none 0 0) (.slice none 0 0)
      have b5 := putT_below HB3.out (by omega : w.heap.size ≤ w.heap.size + 1 + 1) (.int .u8 0) (.int .i64 0) (.string no) (.slice none 0 0) (.slice none 0 0)
      unfold putT no at h5 b5
      generalize hW : ((((w3.setCell ⟨w.heap.size + 1 + 1, 0, none⟩ (.int .u8 0)).setCell ⟨w.heap.size + 1 + 1, 1, none⟩ (.int .i64 0)).setCell ⟨w.heap.size + 1 + 1, 2, none⟩ (.string ⟨#[]⟩)).setCell ⟨w.heap.size + 1 + 1, 3, none⟩ (.slice none 0 0)).setCell ⟨w.heap.size + 1 + 1, 4, none⟩ (.slice none 0 0) = W4 at h5 b5 ⊢
      obtain ⟨e0, e1, e2, e3, e4⟩ := five_cells (keepA h5 (.cells #[.slice none 0 0] 50))
      clear hW
      exact bodyPost_ret (v := .tuple #[zeroT.val ⟨none, 0, none, 0⟩, .int .i64 1]) (by simp [results, Try.results41, go_sem, e0, e1, e2, e3, e4, zeroT, Tm.val, Tm.vals, Tm.k, Tm.n, Tm.s, Tm.ls, Tm.ts, no]) rfl ⟨⟨none, 0, none, 0⟩, rfl, leaf_in (by decide) (by decide) (by decide) (by decide) (by decide), b5.alloc b5.size _⟩
    · have hct : t.count = t.size := by rw [HCT.out, hm]; rfl
      have hne : (t.size == 0) = false := by simp; omega
      rw [hct] at m0
      clear hm hct
      go_wp2_with fail
      have h5 := putT_self HA3.out (.int .u8 0) (.int .i64 0) (.string no) (.slice none 0 0) (.slice none 0 0)
      have b5 := putT_below HB3.out (by omega : w.heap.size ≤ w.heap.size + 1 + 1) (.int .u8 0) (.int .i64 0) (.string no) (.slice none 0 0) (.slice none 0 0)
      unfold putT no at h5 b5
      generalize hW : ((((w3.setCell ⟨w.heap.size + 1 + 1, 0, none⟩ (.int .u8 0)).setCell ⟨w.heap.size + 1 + 1, 1, none⟩ (.int .i64 0)).setCell ⟨w.heap.size + 1 + 1, 2, none⟩ (.string ⟨#[]⟩)).setCell ⟨w.heap.size + 1 + 1, 3, none⟩ (.slice none 0 0)).setCell ⟨w.heap.size + 1 + 1, 4, none⟩ (.slice none 0 0) = W4 at h5 b5 ⊢
      obtain ⟨e0, e1, e2, e3, e4⟩ := five_cells (keepA h5 (.cells #[.slice none 0 0] 50))
      clear hW
      exact bodyPost_ret (v := .tuple #[zeroT.val ⟨none, 0, none, 0⟩, .int .i64 1]) (by simp [results, Try.results41, go_sem, e0, e1, e2, e3, e4, zeroT, Tm.val, Tm.vals, Tm.k, Tm.n, Tm.s, Tm.ls, Tm.ts, no]) rfl ⟨⟨none, 0, none, 0⟩, rfl, leaf_in (by decide) (by decide) (by decide) (by decide) (by decide), b5.alloc b5.size _⟩
end Go.Proofs.Ytijdlihodpodjaa
