/-
  Inst's function, and where what it holds lies.
-/
import Derived.Test.YtijdlihodpodjaaQSubC
import Derived.Test.YtijdlihodpodjaaQSubA
import Derived.Test.YtijdlihodpodjaaQLevInst
namespace Go.Proofs.Ytijdlihodpodjaa
open Go.RowKit Go.Shelf Lvl Trm

/-- Where the closure of Inst and what it holds lie. -/
structure Trm.InstInv (l : List Tm) (lo : Option Addr) (lc B C KL M KS G : Nat) (n : Int) (w : World) : Prop where
  c : w.heap[C]? = some (.cells #[.func (.func 95) #[] #[.pointer (some ⟨KL, 0, none⟩), .pointer (some ⟨M, 0, none⟩), .pointer (some ⟨KS, 0, none⟩)]] 103)
  kl : w.heap[KL]? = some (.cells #[.slice lo l.length lc] 23)
  m : w.heap[M]? = some (.cells #[.int .i64 n] 3)
  ks : w.heap[KS]? = some (.cells #[.slice (some ⟨G, 0, none⟩) l.length l.length] 50)
  g : w.rowIs G 3 l.length (sizeAt l)
  row : RowIn B w lo 0 l
/-- The blocks of Inst's function. -/
structure Trm.InstBl (N B C KL M KS G : Nat) : Prop where
  c : C < N
  kl : KL < N
  m : M < N
  ks : KS < N
  g : G < N
  b : B ≤ M
  mc : C ≠ M
  mkl : KL ≠ M
  mks : KS ≠ M
  mg : G ≠ M
theorem Trm.InstInv.keep {l : List Tm} {lo : Option Addr} {lc N B C KL M KS G : Nat} (H : InstBl N B C KL M KS G) (st : Int) (w w' : World) (h : InstInv l lo lc B C KL M KS G st w) (b : Below N w w') : InstInv l lo lc B C KL M KS G st w' :=
  ⟨(b.block _ H.c).trans h.c, (b.block _ H.kl).trans h.kl, (b.block _ H.m).trans h.m, (b.block _ H.ks).trans h.ks, h.g.of_block (b.block _ H.g), h.row.below (b.mono (by have := H.b; have := H.m; omega))⟩
theorem Trm.InstInv.set {l : List Tm} {lo : Option Addr} {lc N B C KL M KS G : Nat} (H : InstBl N B C KL M KS G) {st : Int} {w : World} (h : InstInv l lo lc B C KL M KS G st w) (hN : N ≤ w.heap.size) (n : Int) : InstInv l lo lc B C KL M KS G n (w.setCell ⟨M, 0, none⟩ (.int .i64 n)) := by
  have r := Ran.set w M 0 (.int .i64 n)
  exact ⟨(r.block _ (by have := H.c; omega) H.mc).trans h.c, (r.block _ (by have := H.kl; omega) H.mkl).trans h.kl, Lvl.put_one h.m _, (r.block _ (by have := H.ks; omega) H.mks).trans h.ks, h.g.of_block (r.block _ (by have := H.g; omega) H.mg), h.row.below (r.below H.b (by have := H.b; have := H.m; omega))⟩

set_option maxRecDepth 100000 in
set_option maxHeartbeats 4000000 in
theorem inst1_any (l : List Tm) (lo : Option Addr) {lc N B C KL M KS G : Nat} (H : InstBl N B C KL M KS G) (hlm : ∀ x ∈ l, x.may = true) (hln : l.length ≤ 1000000) (st : Int) (v u : Int) (w : World) (hg : 0 ≤ st ∧ st ≤ 65536) (hi : InstInv l lo lc B C KL M KS G st w)
    (hv0 : 0 ≤ v) (hu0 : 0 ≤ u) (hu1 : u ≤ 4096) (hvu : v + u ≤ 1048576) (hN : N ≤ w.heap.size) :
    Calls Try.prog 95 #[.int .i64 v, .int .i64 u, .pointer (some ⟨KL, 0, none⟩), .pointer (some ⟨M, 0, none⟩), .pointer (some ⟨KS, 0, none⟩)] w (ThrPost B (fun q => q = M) (toInst l st v u) (InstInv l lo lc B C KL M KS G) w) := by
  have HI := Lib.hid hi
  have c0 := one_cell hi.kl
  have c1 := one_cell hi.m
  have c2 := one_cell hi.ks
  clear hi
  have z1 : KL < w.heap.size := by have := H.kl; omega
  have z2 : M < w.heap.size := by have := H.m; omega
  have z3 : KS < w.heap.size := by have := H.ks; omega
  have z4 : G < w.heap.size := by have := H.g; omega
  have hBs : B ≤ w.heap.size := by have := H.b; omega
  have HA := Lib.hid (World.alloc_heap_new w (.cells #[.int .u8 0, .int .i64 0, .string no, .slice none 0 0, .slice none 0 0] 25))
  have HB := Lib.hid (below_one w (.cells #[.int .u8 0, .int .i64 0, .string no, .slice none 0 0, .slice none 0 0] 25))
  have HK := Lib.hid (fun (w' : World) (b : Below w.heap.size w w') => InstInv.keep H st _ _ HI.out (b.mono hN))
  have hw0 : IntKind.i64.wrap ((l.length : Int) - 1) = (l.length : Int) - 1 := IntWalk.i64_in _ (by omega)
  by_cases h1 : v < l.length
  · obtain ⟨i, hi⟩ : ∃ i : Nat, i = l.length - 1 - v.toNat := ⟨_, rfl⟩
    have hil : i < l.length := by omega
    have hx0 : gInst l v u = (l[i]).put (gLift 0 u) 0 := by
      subst hi
      exact dif_pos ⟨hv0, h1⟩
    have hwi : IntKind.i64.wrap ((l.length : Int) - 1 - v) = (i : Int) := by
      rw [IntWalk.i64_in _ (by omega)]; omega
    have hto : toInst l st v u = if st + (l[i].size - 1) > 65536 then (st + (l[i].size - 1), 4, none) else (st + (l[i].size - 1), 0, some (gInst l v u)) := by
      subst hi
      exact dif_pos ⟨hv0, h1⟩
    rw [hto, hx0]
    have hxm := hlm l[i] (List.getElem_mem hil)
    have hpos := l[i].size_pos
    have hsz := may_size' hxm
    have d0 : decide ((i : Int) < 0) = false := by simp
    have g0 : w.cell? ⟨G, i, none⟩ = some (.int .i64 l[i].size) := by
      have := HI.out.g.cell hil
      rw [this]
      simp [sizeAt, List.getD, hil]
    obtain ⟨b, off, hlo, hat⟩ := HI.out.row.place i hil
    rw [Nat.zero_add] at hat
    have HAT := Lib.hid hat
    generalize l[i] = x at hxm hpos hsz g0 HAT ⊢
    have hb := HAT.out.1
    have hf := Lvl.free_one HI.out.m
    have hlo2 := Lib.hid hlo
    rw [hlo] at c0
    clear hto hx0 hlo hat hlm hi
    have hwn : IntKind.i64.wrap (x.size - 1) = x.size - 1 := IntWalk.i64_in _ (by omega)
    have hwn2 : IntKind.i64.wrap (st + (x.size - 1)) = st + (x.size - 1) := IntWalk.i64_in _ (by omega)
    have hmM : M ≠ w.heap.size := by omega
    obtain ⟨W4, hW4⟩ : ∃ W4, W4 = ((w.setCell ⟨M, 0, none⟩ (.int .i64 (st + (x.size - 1)))).alloc (.cells #[.int .u8 0, .int .i64 0, .string no, .slice none 0 0, .slice none 0 0] 25)).drew := ⟨_, rfl⟩
    have hr1 := Ran.set w M 0 (.int .i64 (st + (x.size - 1)))
    have hs1 : (w.setCell ⟨M, 0, none⟩ (.int .i64 (st + (x.size - 1)))).heap.size = w.heap.size := by simp [World.setCell]
    have hb4 : Below (w.setCell ⟨M, 0, none⟩ (.int .i64 (st + (x.size - 1)))).heap.size (w.setCell ⟨M, 0, none⟩ (.int .i64 (st + (x.size - 1)))) W4 := hW4 ▸ (below_one _ _).drew
    have HI4 := Lib.hid (InstInv.keep H _ _ _ (InstInv.set H HI.out hN (st + (x.size - 1))) (hb4.mono (by omega)))
    have HA4 : Hid (W4.heap[w.heap.size]? = some (.cells #[.int .u8 0, .int .i64 0, .string no, .slice none 0 0, .slice none 0 0] 25)) := Lib.hid (by
      rw [hW4, ← hs1]
      exact World.alloc_heap_new _ _)
    have HR4 : Hid (RanS (fun q => q = M) w W4) := Lib.hid ((RanS.of_ran (P := fun q => q = M) hr1 rfl).trans (RanS.of_below hb4))
    have HT4 := Lib.hid ((HAT.out.below (hr1.below H.b hBs)).below (hb4.mono (by omega)))
    have hlW : w.heap.size < W4.heap.size := (Array.getElem?_eq_some_iff.1 HA4.out).1
    have hb5 : Below B (w.setCell ⟨M, 0, none⟩ (.int .i64 (st + (x.size - 1)))) W4 := hb4.mono (by omega)
    have hr0 := hr1
    clear hb4
    have hKM := H.mkl
    have hSM := H.mks
    have hGM := H.mg
    have hbM : b ≠ M := by have := H.b; omega
    by_cases hbig : st + (x.size - 1) > 65536
    · rw [if_pos hbig]
      delta ThrPost
      dsimp only [Option.getD]
      have d1 : decide (65536 < st + (x.size - 1)) = true := by simpa using hbig
      go_enter Try.func95, Try.ntmps95
      go_wp2_with fail
      go_region
      go_wp2_with fail
      obtain ⟨e0, e1, e2, e3, e4⟩ := five_cells HA4.out
      unfold no at hW4 e2
      rw [← hW4]
      exact bodyPost_ret (v := .tuple #[zeroT.val ⟨none, 0, none, 0⟩, .int .i64 4]) (by simp [results, Try.results95, go_sem, e0, e1, e2, e3, e4, zeroT, Tm.val, Tm.vals, Tm.k, Tm.n, Tm.s, Tm.ls, Tm.ts, no]) rfl ⟨⟨none, 0, none, 0⟩, rfl, firm_zero, HI4.out, HR4.out⟩
    · rw [if_neg hbig]
      delta ThrPost
      dsimp only [Option.getD]
      have d1 : decide (65536 < st + (x.size - 1)) = false := by simpa using hbig
      obtain ⟨hbB, hx, hcx, hix⟩ := HAT.out
      obtain ⟨y, hy⟩ : ∃ y, y = x.put (gLift 0 u) 0 := ⟨_, rfl⟩
      rw [← hy]
      have hmn : min u 2097152 = u := by omega
      have HTU := Lib.hid (fun (W : World) (C2 F2 Y2 : Nat) (hW : Below W4.heap.size W4 W) (hL : LiftInv 0 u C2 F2 Y2 () W) (hC : C2 < W.heap.size) (hF : F2 < W.heap.size) (hY : Y2 < W.heap.size) => show Calls Try.prog 83 #[x.val hx, fnv 121 C2] W (fun e w' => ∃ h', e = .returned (.tuple #[y.val h', .int .i64 0]) ∧ FirmS (fun q => B ≤ q ∧ q < W.heap.size) w' y h' ∧ Below W.heap.size W w') from by
        have hixW : x.In B W hx := by
          have h1 := Tm.In.below (hr0.below H.b hBs) _ _ hix
          exact Tm.In.below (hW.mono (by omega)) _ _ (Tm.In.below hb5 _ _ h1)
        have := turned_any (leaf_lift 0 u (B := B) hC hF hY (by omega) (by omega)) x hx () W hxm trivial hL hixW (by have := hW.size; omega) (Nat.le_refl _) (fun q hq => hq.elim)
        obtain ⟨h1, h2⟩ := thr_lift hxm 0 u
        have hs : x.sinks 0 u = false := by
          unfold Tm.sinks
          rw [List.any_eq_false]
          intro p hp
          simp
          omega
        rw [hs] at h1
        have h3 := h2 hs
        have h4 : tAns x (x.thr (lfFree (toLift 0 u)) () 0) = y := by
          unfold tAns
          rw [h1, h3, hy]; rfl
        rw [h4, h1] at this
        exact this.mono (fun _ _ ⟨h', he, hf, _, hr⟩ => ⟨h', he, hf, hr.none_below⟩))
      unfold Tm.val at HTU
      dsimp only [Tm.vals] at HTU
      have hcx0 := hcx
      obtain ⟨x0, x1, x2, x3, x4⟩ := hcx
      clear hy hix
      go_enter Try.func95, Try.ntmps95
      go_wp2_with fail
      go_region
      go_wp2_with fail
      have hc4 := (hcx0.below (hr0.below H.b hBs) hbB).below hb5 hbB
      have HC4 := Lib.hid hc4
      unfold no at hW4
      rw [← hW4]
      clear hW4 x0 x1 x2 x3 x4 c0 c1 c2 g0
      obtain ⟨x0, x1, x2, x3, x4⟩ := hc4
      have c0 := one_cell HI4.out.kl
      rw [hlo2.out] at c0
      have hbW : b < W4.heap.size := by omega
      have hBW : B ≤ W4.heap.size := by omega
      have hNW : N ≤ W4.heap.size := by omega
      go_region_with (first
        | (go_at_call 84; refine (lifting_any 0 u _).mono ?_; rintro e wl ⟨C2, F2, Y2, rfl, hLI, hC2, hF2, hY2, bl⟩
           have bl0 : Below W4.heap.size W4 wl := Lvl.undrew bl
           rw [hmn] at hLI
           have HLl := Lib.hid hLI
           have HBl := Lib.hid bl0
           have HAl := Lib.hid (Lvl.keep bl0 HA4.out)
           have hil := InstInv.keep H _ _ _ HI4.out (bl0.mono hNW)
           have c0 := one_cell hil.kl
           rw [hlo2.out] at c0
           obtain ⟨x0, x1, x2, x3, x4⟩ := HC4.out.below (bl0.mono hBW) hbB
           clear hLI bl bl0 hil)
        | (go_at_call 83; refine (HTU.out _ C2 F2 Y2 HBl.out HLl.out hC2 hF2 hY2).mono ?_; rintro e wt ⟨ht, rfl, fT, bt⟩
           have HBt := Lib.hid (Trm.go HBl.out bt)
           have hAt := Lvl.keep bt HAl.out
           obtain ⟨q0, q1, q2, q3, q4⟩ := five_cells hAt
           obtain ⟨f0, f1, f2, f3, f4⟩ := five_free hAt
           have HAt := Lib.hid hAt
           have HFt := Lib.hid fT
           have hla := (Array.getElem?_eq_some_iff.1 HAl.out).1
           clear bt hAt fT))
      all_goals
        go_wp2_with fail
        have hbt := HBt.out.size
        have h5 := putT_self HAt.out (.int .u8 y.k) (.int .i64 y.n) (.string y.s) (.slice ht.lo y.ls.length ht.lc) (.slice ht.to y.ts.length ht.tc)
        have r5 := putT_ran wt w.heap.size (.int .u8 y.k) (.int .i64 y.n) (.string y.s) (.slice ht.lo y.ls.length ht.lc) (.slice ht.to y.ts.length ht.tc)
        have s5 := RanS.put (HR4.out.trans (RanS.of_below HBt.out)) (Nat.le_refl w.heap.size) (.int .u8 y.k) (.int .i64 y.n) (.string y.s) (.slice ht.lo y.ls.length ht.lc) (.slice ht.to y.ts.length ht.tc)
        unfold putT at h5 r5 s5
        generalize hW : ((((wt.setCell ⟨w.heap.size, 0, none⟩ (.int .u8 y.k)).setCell ⟨w.heap.size, 1, none⟩ (.int .i64 y.n)).setCell ⟨w.heap.size, 2, none⟩ (.string y.s)).setCell ⟨w.heap.size, 3, none⟩ (.slice ht.lo y.ls.length ht.lc)).setCell ⟨w.heap.size, 4, none⟩ (.slice ht.to y.ts.length ht.tc) = W5 at h5 r5 s5 ⊢
        obtain ⟨e0, e1, e2, e3, e4⟩ := five_cells h5
        clear hW
        exact bodyPost_ret (v := .tuple #[y.val ht, .int .i64 0]) (by simp [results, Try.results95, go_sem, e0, e1, e2, e3, e4, Tm.val, Tm.vals]) rfl
          ⟨ht, rfl, (HFt.out.step (RanS.of_ran r5 ⟨hBs, hla⟩)).less (fun q _ hq => ⟨hq.1, by omega⟩), InstInv.keep H _ _ _ HI4.out ((HBt.out.mono hNW).trans (r5.below hN (by omega))), s5⟩
  · have hs : toInst l st v u = (st, 0, some (tV (v - l.length + u))) := by
      unfold toInst
      rw [dif_neg (by omega)]
      unfold gInst
      rw [dif_neg (by omega)]
    rw [hs]
    delta ThrPost
    dsimp only [Option.getD]
    have hwi : IntKind.i64.wrap ((l.length : Int) - 1 - v) = (l.length : Int) - 1 - v := IntWalk.i64_in _ (by omega)
    have d0 : decide ((l.length : Int) - 1 - v < 0) = true := by simp; omega
    have hw1 : IntKind.i64.wrap (v - (l.length : Int)) = v - (l.length : Int) := IntWalk.i64_in _ (by omega)
    have hw2 : IntKind.i64.wrap (v - (l.length : Int) + u) = v - (l.length : Int) + u := IntWalk.i64_in _ (by omega)
    have hr0 : -9223372036854775808 ≤ v - (l.length : Int) + u ∧ v - (l.length : Int) + u ≤ 9223372036854775807 := by omega
    have HV := Lib.hid (fun W => variable_any (v - (l.length : Int) + u) W)
    clear hs h1
    go_enter Try.func95, Try.ntmps95
    go_wp2_with fail
    refine (HV.out _).mono ?_
    rintro e w3 ⟨rfl, b3⟩
    have hA3 := Lvl.keep b3 HA.out
    obtain ⟨a0, a1, a2, a3, a4⟩ := five_cells hA3
    obtain ⟨f0, f1, f2, f3, f4⟩ := five_free hA3
    have HA3 := Lib.hid hA3
    have HB3 := Lib.hid (Trm.go HB.out b3)
    clear hA3 b3
    generalize hyd : (⟨none, 0, none, 0⟩ : Hd) = hy
    have hfm : ∀ (Q : Nat → Prop) (W : World), FirmS Q W (tV (v - (l.length : Int) + u)) hy := fun Q W => hyd ▸ firm_tV hr0.1 hr0.2
    have HFM := Lib.hid hfm
    clear hfm
    generalize hyv : tV (v - (l.length : Int) + u) = y at HFM ⊢
    clear hyd
    dsimp only [Tm.val, Tm.vals]
    go_wp2_with fail
    have h5 := putT_self HA3.out (.int .u8 y.k) (.int .i64 y.n) (.string y.s) (.slice hy.lo y.ls.length hy.lc) (.slice hy.to y.ts.length hy.tc)
    have b5 := putT_below HB3.out (Nat.le_refl w.heap.size) (.int .u8 y.k) (.int .i64 y.n) (.string y.s) (.slice hy.lo y.ls.length hy.lc) (.slice hy.to y.ts.length hy.tc)
    unfold putT at h5 b5
    generalize hW : ((((w3.setCell ⟨w.heap.size, 0, none⟩ (.int .u8 y.k)).setCell ⟨w.heap.size, 1, none⟩ (.int .i64 y.n)).setCell ⟨w.heap.size, 2, none⟩ (.string y.s)).setCell ⟨w.heap.size, 3, none⟩ (.slice hy.lo y.ls.length hy.lc)).setCell ⟨w.heap.size, 4, none⟩ (.slice hy.to y.ts.length hy.tc) = W4 at h5 b5 ⊢
    obtain ⟨e0, e1, e2, e3, e4⟩ := five_cells h5
    clear hW
    subst hyv
    exact bodyPost_ret (v := .tuple #[(tV (v - (l.length : Int) + u)).val hy, .int .i64 0]) (by simp [results, Try.results95, go_sem, e0, e1, e2, e3, e4, Tm.val, Tm.vals]) rfl ⟨hy, rfl, HFM.out _ _, HK.out _ b5, RanS.of_below b5⟩
end Go.Proofs.Ytijdlihodpodjaa
