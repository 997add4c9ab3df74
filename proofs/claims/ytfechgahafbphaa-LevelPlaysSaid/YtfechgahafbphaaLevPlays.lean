/-
  battenlaw02.LevelPlays: the walk.
-/
import Derived.Test.YtfechgahafbphaaLevRef2
import Derived.Test.YtfechgahafbphaaLevRef4
import Derived.Test.YtfechgahafbphaaLevRef5
import Derived.Test.YtfechgahafbphaaLevOwn
import Derived.Test.YtfechgahafbphaaLevWorks
import Derived.Deep.DeepCutAuto
import Derived.Deep.RegionHeld3
namespace Go.Proofs.Ytfechgahafbphaa
open Go.RowKit Go.Shelf Lvl Trm

theorem rsucc_at (l A : Lv) (q : Int) (h : succ l = (A, q)) (w : World) : Calls Try.prog 31 #[l.val] w fun e w' => e = .returned (.tuple #[A.val, .int .i64 q]) ∧ Below w.heap.size w w' := by
  have := RefSucc_any l w; rwa [h] at this
theorem rmax_at (a b A : Lv) (q : Int) (h : maxi a b = (A, q)) (w : World) : Calls Try.prog 33 #[a.val, b.val] w fun e w' => e = .returned (.tuple #[A.val, .int .i64 q]) ∧ Below w.heap.size w w' := by
  have := RefMax_any a b w; rwa [h] at this
theorem rparam_at (i : Int) (A : Lv) (q : Int) (h : param i = (A, q)) (w : World) : Calls Try.prog 37 #[.int .i64 i] w fun e w' => e = .returned (.tuple #[A.val, .int .i64 q]) ∧ Below w.heap.size w w' := by
  have := RefParam_any i w; rwa [h] at this
theorem pparam_at (i : Int) (A : Lv) (q : Int) (h : param i = (A, q)) (w : World) : Calls Try.prog 36 #[.int .i64 i] w fun e w' => e = .returned (.tuple #[A.val, .int .i64 q]) ∧ Below w.heap.size w w' := by
  have := param_any i w; rwa [h] at this
theorem rinst_at (l : Lv) (ao : Option Addr) (cap : Nat) (ls : List Lv) (A : Lv) (q : Int) (h : inst l ls = (A, q)) (w : World) (hr : LRow w ao ls) (hlow : ∀ a, ao = some a → 0 < ls.length → a.block < w.heap.size) (hn : ls.length ≤ 1000000) :
    Calls Try.prog 35 #[l.val, .slice ao ls.length cap] w fun e w' => e = .returned (.tuple #[A.val, .int .i64 q]) ∧ Below w.heap.size w w' := by
  have := RefInst_any l ao cap ls w hr hlow hn; rwa [h] at this
def Lvl.PlRel (w w1 : World) (a b : Lv) (p : Four) (ls : List Lv) (t : Value) (wr : World) : Prop := ∃ k : Nat, t = .int .i64 k ∧ k ≤ ls.length ∧ Boxes [(w.heap.size, a.box), (w.heap.size + 1, b.box), (w.heap.size + 1 + 1, p.box)] wr ∧ Below w.heap.size w wr ∧ Below w1.heap.size w1 wr
theorem Lvl.box3p (w : World) (a b c : Obj) : Boxes [(w.heap.size, a), (w.heap.size + 1, b), (w.heap.size + 1 + 1, c)] (((w.alloc a).alloc b).alloc c) := ⟨new1of3 w a b c, new2of3 w a b c, new3 w a b c, trivial⟩
theorem Lvl.LRow.thru {w W : World} {ao : Option Addr} {ls : List Lv} (hr : LRow w ao ls) (hlow : ∀ a, ao = some a → 0 < ls.length → a.block < w.heap.size) (hW : Below w.heap.size w W) : LRow W ao ls := ⟨fun k hk => by
  obtain ⟨b, off, hao, a0, a1, a2, a3, a4⟩ := hr.place k hk
  have hb : b < w.heap.size := hlow _ hao (by omega)
  exact ⟨b, off, hao, (hW.cell (p := ⟨b, _, none⟩) hb).trans a0, (hW.cell (p := ⟨b, _, none⟩) hb).trans a1, (hW.cell (p := ⟨b, _, none⟩) hb).trans a2, (hW.cell (p := ⟨b, _, none⟩) hb).trans a3, (hW.cell (p := ⟨b, _, none⟩) hb).trans a4⟩⟩

set_option maxRecDepth 100000 in
set_option maxHeartbeats 16000000 in
theorem law_plays (a b : Lv) (ls : List Lv) (ao : Option Addr) (cap : Nat) (i : Int) (p : Four) (w : World) (hr : LRow w ao ls) (hlow : ∀ x, ao = some x → 0 < ls.length → x.block < w.heap.size) (hten : ls.length ≤ 10) (hcap : ao = none → cap = 0) :
    Calls Try.prog 4 #[a.val, b.val, .slice ao ls.length cap, .int .i64 i, p.val] w fun e w' => e = .returned (.bool true) ∧ Below w.heap.size w w' := by
  have d1 : decide ((10 : Int) < (ls.length : Int)) = false := by simp; omega
  have HRB := Lib.hid (fun (W : World) (hW : Below w.heap.size w W) => Lvl.LRow.thru hr hlow hW)
  have HLB := Lib.hid (fun (W : World) (hW : Below w.heap.size w W) (x : Addr) (hx : ao = some x) (h0 : 0 < ls.length) => Nat.lt_of_lt_of_le (hlow x hx h0) hW.size)
  have HTEN := Lib.hid hten
  have HCAP := Lib.hid hcap
  obtain ⟨S, qs, hs⟩ : ∃ A q, succ a = (A, q) := ⟨_, _, rfl⟩
  obtain ⟨M, qm, hm⟩ : ∃ A q, maxi a b = (A, q) := ⟨_, _, rfl⟩
  obtain ⟨U, qu, hu⟩ : ∃ A q, inst a ls = (A, q) := ⟨_, _, rfl⟩
  obtain ⟨Q, qq, hq⟩ : ∃ A q, param i = (A, q) := ⟨_, _, rfl⟩
  have Ks := Lib.hid hs
  have Km := Lib.hid hm
  have Ku := Lib.hid hu
  have Kq := Lib.hid hq
  have X0 := Lib.hid (box3p w a.box b.box p.box)
  have B0 := Lib.hid (below_three w a.box b.box p.box)
  clear hr hlow hten hcap hs hm hu hq
  have hsame := eq_same
  unfold Lv.val Four.val
  go_enter Try.func4, Try.ntmps4
  go_wp2_with (at_builtin; refine wpList_append_levels (w0 := ((w.alloc (.cells #[.int .i64 a.c, .int .i64 a.p0, .int .i64 a.p1, .int .i64 a.p2, .int .i64 a.p3] 44)).alloc (.cells #[.int .i64 b.c, .int .i64 b.p0, .int .i64 b.p1, .int .i64 b.p2, .int .i64 b.p3] 44)).alloc (.cells #[.int .i64 p.a0, .int .i64 p.a1, .int .i64 p.a2, .int .i64 p.a3] 42)) rfl _ _ rfl (by simp [go_sem]) ao cap ls rfl (by have := HTEN.out; omega) HCAP.out (HRB.out _ (B0.out.alloc B0.out.size _)) ?_)
  intro v1 w1 hpost bz
  have hz3 : (((w.alloc a.box).alloc b.box).alloc p.box).heap.size = w.heap.size + 1 + 1 + 1 := by simp
  have bb : Below (((w.alloc a.box).alloc b.box).alloc p.box).heap.size (((w.alloc a.box).alloc b.box).alloc p.box) w1 := by rw [hz3]; exact bz
  obtain ⟨ao', cap', rfl, hrow, hlw⟩ := hpost
  have X1 := Lib.hid (Boxes.keep bb X0.out)
  have B1 := Lib.hid (thru B0.out bb)
  have HRO := Lib.hid (fun (W : World) (hW : Below w1.heap.size w1 W) => Lvl.LRow.thru hrow (fun x hx _ => (hlw x hx).2) hW)
  have O1 := Lib.hid (Below.refl w1.heap.size w1)
  clear bb bz hz3 X0 B0 hrow hlw
  obtain ⟨a1_0, a1_1, a1_2, a1_3, a1_4⟩ := Lv.cells (X1.out.1)
  have a1z := lt_of (X1.out.1)
  go_wp2_with fail
  refine (succ_at a S qs Ks.out _).mono ?_
  rintro e w2 ⟨rfl, b⟩
  have X2 := Lib.hid (Boxes.keep b X1.out)
  have B2 := Lib.hid (thru B1.out b)
  have O2 := Lib.hid (thru O1.out b)
  clear b X1 B1 O1
  obtain ⟨a2_0, a2_1, a2_2, a2_3, a2_4⟩ := Lv.cells (X2.out.1)
  have a2z := lt_of (X2.out.1)
  dsimp only [Lv.val]
  go_wp2_with fail
  refine (rsucc_at a S qs Ks.out _).mono ?_
  rintro e w3 ⟨rfl, b⟩
  have X3 := Lib.hid (Boxes.keep b (Boxes.add X2.out S.box))
  have B3 := Lib.hid (thru (below_a B2.out _) b)
  have O3 := Lib.hid (thru (below_a O2.out _) b)
  clear b X2 B2 O2
  obtain ⟨a3_0, a3_1, a3_2, a3_3, a3_4⟩ := Lv.cells (X3.out.2.1)
  obtain ⟨b3_0, b3_1, b3_2, b3_3, b3_4⟩ := Lv.cells (X3.out.2.2.1)
  have a3z := lt_of (X3.out.2.1)
  have b3z := lt_of (X3.out.2.2.1)
  dsimp only [Lv.val]
  go_wp2_with fail
  refine (max_at a b M qm Km.out _).mono ?_
  rintro e w4 ⟨rfl, b⟩
  have X4 := Lib.hid (Boxes.keep b (Boxes.add X3.out S.box))
  have B4 := Lib.hid (thru (below_a B3.out _) b)
  have O4 := Lib.hid (thru (below_a O3.out _) b)
  clear b X3 B3 O3
  obtain ⟨a4_0, a4_1, a4_2, a4_3, a4_4⟩ := Lv.cells (X4.out.2.2.1)
  obtain ⟨b4_0, b4_1, b4_2, b4_3, b4_4⟩ := Lv.cells (X4.out.2.2.2.1)
  have a4z := lt_of (X4.out.2.2.1)
  have b4z := lt_of (X4.out.2.2.2.1)
  dsimp only [Lv.val]
  go_wp2_with fail
  refine (rmax_at a b M qm Km.out _).mono ?_
  rintro e w5 ⟨rfl, b⟩
  have X5 := Lib.hid (Boxes.keep b (Boxes.add X4.out M.box))
  have B5 := Lib.hid (thru (below_a B4.out _) b)
  have O5 := Lib.hid (thru (below_a O4.out _) b)
  clear b X4 B4 O4
  obtain ⟨a5_0, a5_1, a5_2, a5_3, a5_4⟩ := Lv.cells (X5.out.2.2.2.1)
  have a5z := lt_of (X5.out.2.2.2.1)
  dsimp only [Lv.val]
  go_wp2_with fail
  refine (inst_at a ao' cap' ls U qu Ku.out _ (HRO.out _ (below_a O5.out _)) (by have := HTEN.out; omega)).mono ?_
  rintro e w6 ⟨rfl, b⟩
  have X6 := Lib.hid (Boxes.keep b (Boxes.add X5.out M.box))
  have B6 := Lib.hid (thru (below_a B5.out _) b)
  have O6 := Lib.hid (thru (below_a O5.out _) b)
  clear b X5 B5 O5
  obtain ⟨a6_0, a6_1, a6_2, a6_3, a6_4⟩ := Lv.cells (X6.out.2.2.2.2.1)
  have a6z := lt_of (X6.out.2.2.2.2.1)
  dsimp only [Lv.val]
  go_wp2_with fail
  refine (rinst_at a ao cap ls U qu Ku.out _ (HRB.out _ (below_a B6.out _)) (HLB.out _ (below_a B6.out _)) (by have := HTEN.out; omega)).mono ?_
  rintro e w7 ⟨rfl, b⟩
  have X7 := Lib.hid (Boxes.keep b (Boxes.add X6.out U.box))
  have B7 := Lib.hid (thru (below_a B6.out _) b)
  have O7 := Lib.hid (thru (below_a O6.out _) b)
  clear b X6 B6 O6
  dsimp only [Lv.val]
  go_wp2_with fail
  refine (pparam_at i Q qq Kq.out _).mono ?_
  rintro e w8 ⟨rfl, b⟩
  have X8 := Lib.hid (Boxes.keep b (Boxes.add X7.out U.box))
  have B8 := Lib.hid (thru (below_a B7.out _) b)
  have O8 := Lib.hid (thru (below_a O7.out _) b)
  clear b X7 B7 O7
  dsimp only [Lv.val]
  go_wp2_with fail
  refine (rparam_at i Q qq Kq.out _).mono ?_
  rintro e w9 ⟨rfl, b⟩
  have X9 := Lib.hid (Boxes.keep b (Boxes.add X8.out Q.box))
  have B9 := Lib.hid (thru (below_a B8.out _) b)
  have O9 := Lib.hid (thru (below_a O8.out _) b)
  clear b X8 B8 O8
  obtain ⟨x9_0, x9_1, x9_2, x9_3, x9_4⟩ := Lv.cells (X9.out.2.2.2.2.2.2.1)
  obtain ⟨y9_0, y9_1, y9_2, y9_3, y9_4⟩ := Lv.cells (X9.out.2.2.2.2.2.1)
  obtain ⟨m9_0, m9_1, m9_2, m9_3, m9_4⟩ := Lv.cells (X9.out.2.2.2.2.1)
  obtain ⟨n9_0, n9_1, n9_2, n9_3, n9_4⟩ := Lv.cells (X9.out.2.2.2.1)
  obtain ⟨u9_0, u9_1, u9_2, u9_3, u9_4⟩ := Lv.cells (X9.out.2.2.1)
  obtain ⟨v9_0, v9_1, v9_2, v9_3, v9_4⟩ := Lv.cells (X9.out.2.1)
  obtain ⟨q9_0, q9_1, q9_2, q9_3, q9_4⟩ := Lv.cells (X9.out.1)
  have x9z := lt_of (X9.out.2.2.2.2.2.2.1)
  have y9z := lt_of (X9.out.2.2.2.2.2.1)
  have m9z := lt_of (X9.out.2.2.2.2.1)
  have n9z := lt_of (X9.out.2.2.2.1)
  have u9z := lt_of (X9.out.2.2.1)
  have v9z := lt_of (X9.out.2.1)
  have q9z := lt_of (X9.out.1)
  dsimp only [Lv.val]
  go_wp2_with fail
  have XE := Lib.hid (show Boxes [(w.heap.size, a.box), (w.heap.size + 1, b.box), (w.heap.size + 1 + 1, p.box)] (w9.alloc Q.box) from ⟨keepA (X9.out.2.2.2.2.2.2.2.1) _, keepA (X9.out.2.2.2.2.2.2.2.2.1) _, keepA (X9.out.2.2.2.2.2.2.2.2.2.1) _, trivial⟩)
  have BE := Lib.hid (below_a B9.out Q.box)
  have OE := Lib.hid (below_a O9.out Q.box)
  clear x9_0 x9_1 x9_2 x9_3 x9_4 y9_0 y9_1 y9_2 y9_3 y9_4 m9_0 m9_1 m9_2 m9_3 m9_4 n9_0 n9_1 n9_2 n9_3 n9_4 u9_0 u9_1 u9_2 u9_3 u9_4 v9_0 v9_1 v9_2 v9_3 v9_4 q9_0 q9_1 q9_2 q9_3 q9_4 x9z y9z m9z n9z u9z v9z q9z X9 B9 O9
  go_loopw [28] (fun t wr => PlRel w w1 a b p ls t wr) (fun t _ => ls.length - (intOf t).toNat)
  case atStart => exact ⟨0, rfl, by omega, XE.out, BE.out, OE.out⟩
  case round =>
    clear XE BE OE
    obtain ⟨k, rfl, hk, hx, hb, ho⟩ := hrel
    have XE := Lib.hid hx
    have BE := Lib.hid hb
    have OE := Lib.hid ho
    clear hx hb ho
    have hl10 : ls.length ≤ 10 := HTEN.out
    by_cases hlt : k < ls.length
    · obtain ⟨b1, o1, hao1, l0, l1, l2, l3, l4⟩ := (HRO.out wr OE.out).place k hlt
      obtain ⟨b2, o2, hao2, m0, m1, m2, m3, m4⟩ := (HRB.out wr BE.out).place k hlt
      subst hao1 hao2
      generalize ls[k] = z at l0 l1 l2 l3 l4 m0 m1 m2 m3 m4
      have lb1 : b1 < wr.heap.size := World.block_lt_of_cell? wr _ l0
      have lb2 : b2 < wr.heap.size := World.block_lt_of_cell? wr _ m0
      go_wp2_with fail
      go_quiet (fail)
      go_wp2_with fail
      go_roundw
      case rel => exact ⟨k + 1, by go_num, by omega, Boxes.keep (Lvl.drewN_below _ _ _) XE.out, BE.out.trans (Lvl.drewN_below _ _ _), OE.out.trans (Lvl.drewN_below _ _ _)⟩
      case measure => simp [intOf]; omega
    · obtain rfl : k = ls.length := by omega
      obtain ⟨r1, h1⟩ : ∃ r, a.may = r := ⟨_, rfl⟩
      obtain ⟨r2, h2⟩ : ∃ r, leq a b = r := ⟨_, rfl⟩
      obtain ⟨r3, h3⟩ : ∃ r, a.num p = r := ⟨_, rfl⟩
      have CM := Lib.hid (fun (W : World) (_ : Below wr.heap.size wr W) => (show Calls Try.prog 38 #[.agg #[.int .i64 a.c, .int .i64 a.p0, .int .i64 a.p1, .int .i64 a.p2, .int .i64 a.p3]] W (fun e w' => e = .returned (.bool r1) ∧ Below W.heap.size W w') from (by have := may_any a W; rwa [h1] at this)))
      have CMR := Lib.hid (fun (W : World) (_ : Below wr.heap.size wr W) => (show Calls Try.prog 39 #[.agg #[.int .i64 a.c, .int .i64 a.p0, .int .i64 a.p1, .int .i64 a.p2, .int .i64 a.p3]] W (fun e w' => e = .returned (.bool r1) ∧ Below W.heap.size W w') from (by have := RefMay_any a W; rwa [h1] at this)))
      have CL := Lib.hid (fun (W : World) (_ : Below wr.heap.size wr W) => (show Calls Try.prog 40 #[.agg #[.int .i64 a.c, .int .i64 a.p0, .int .i64 a.p1, .int .i64 a.p2, .int .i64 a.p3], .agg #[.int .i64 b.c, .int .i64 b.p0, .int .i64 b.p1, .int .i64 b.p2, .int .i64 b.p3]] W (fun e w' => e = .returned (.bool r2) ∧ Below W.heap.size W w') from (by have := leq_any a b W; rwa [h2] at this)))
      have CLR := Lib.hid (fun (W : World) (_ : Below wr.heap.size wr W) => (show Calls Try.prog 41 #[.agg #[.int .i64 a.c, .int .i64 a.p0, .int .i64 a.p1, .int .i64 a.p2, .int .i64 a.p3], .agg #[.int .i64 b.c, .int .i64 b.p0, .int .i64 b.p1, .int .i64 b.p2, .int .i64 b.p3]] W (fun e w' => e = .returned (.bool r2) ∧ Below W.heap.size W w') from (by have := RefLeq_any a b W; rwa [h2] at this)))
      have CA := Lib.hid (fun (W : World) (_ : Below wr.heap.size wr W) => (show Calls Try.prog 42 #[.agg #[.int .i64 a.c, .int .i64 a.p0, .int .i64 a.p1, .int .i64 a.p2, .int .i64 a.p3], .agg #[.int .i64 p.a0, .int .i64 p.a1, .int .i64 p.a2, .int .i64 p.a3]] W (fun e w' => e = .returned (.int .i64 r3) ∧ Below W.heap.size W w') from (by have := at_any a p W; rwa [h3] at this)))
      have CAR := Lib.hid (fun (W : World) (_ : Below wr.heap.size wr W) => (show Calls Try.prog 43 #[.agg #[.int .i64 a.c, .int .i64 a.p0, .int .i64 a.p1, .int .i64 a.p2, .int .i64 a.p3], .agg #[.int .i64 p.a0, .int .i64 p.a1, .int .i64 p.a2, .int .i64 p.a3]] W (fun e w' => e = .returned (.int .i64 r3) ∧ Below W.heap.size W w') from (by have := RefAt_any a p W; rwa [h3] at this)))
      have CZ := Lib.hid (fun (W : World) (_ : Below wr.heap.size wr W) => (show Calls Try.prog 44 #[] W (fun e w' => e = .returned (.agg #[.int .i64 0, .int .i64 (-1), .int .i64 (-1), .int .i64 (-1), .int .i64 (-1)]) ∧ Below W.heap.size W w') from zero_any W))
      have CZR := Lib.hid (fun (W : World) (_ : Below wr.heap.size wr W) => (show Calls Try.prog 45 #[] W (fun e w' => e = .returned (.agg #[.int .i64 0, .int .i64 (-1), .int .i64 (-1), .int .i64 (-1), .int .i64 (-1)]) ∧ Below W.heap.size W w') from RefZero_any W))
      have CW := Lib.hid (fun (W : World) (_ : Below wr.heap.size wr W) => (show Calls Try.prog 29 #[] W (fun e w' => e = .returned (.bool true) ∧ Below W.heap.size W w') from works_any W))
      clear h1 h2 h3
      obtain ⟨c0, c1, c2, c3, c4⟩ := Lv.cells XE.out.1
      obtain ⟨d0, d1, d2, d3, d4⟩ := Lv.cells XE.out.2.1
      obtain ⟨p0, p1, p2, p3⟩ := Four.cells XE.out.2.2.1
      have hbz : Below wr.heap.size wr wr.drew := (Below.refl _ _).drew
      have HRW := Lib.hid (Below.refl wr.heap.size wr)
      go_wp2_with fail
      go_region_held3 (fun w' => Below wr.heap.size wr w' ∧ w'.cell? ⟨w.heap.size, 0, none⟩ = some (.int .i64 a.c) ∧ w'.cell? ⟨w.heap.size, 1, none⟩ = some (.int .i64 a.p0) ∧ w'.cell? ⟨w.heap.size, 2, none⟩ = some (.int .i64 a.p1) ∧ w'.cell? ⟨w.heap.size, 3, none⟩ = some (.int .i64 a.p2) ∧ w'.cell? ⟨w.heap.size, 4, none⟩ = some (.int .i64 a.p3) ∧ w'.cell? ⟨w.heap.size + 1, 0, none⟩ = some (.int .i64 b.c) ∧ w'.cell? ⟨w.heap.size + 1, 1, none⟩ = some (.int .i64 b.p0) ∧ w'.cell? ⟨w.heap.size + 1, 2, none⟩ = some (.int .i64 b.p1) ∧ w'.cell? ⟨w.heap.size + 1, 3, none⟩ = some (.int .i64 b.p2) ∧ w'.cell? ⟨w.heap.size + 1, 4, none⟩ = some (.int .i64 b.p3) ∧ w'.cell? ⟨w.heap.size + 1 + 1, 0, none⟩ = some (.int .i64 p.a0) ∧ w'.cell? ⟨w.heap.size + 1 + 1, 1, none⟩ = some (.int .i64 p.a1) ∧ w'.cell? ⟨w.heap.size + 1 + 1, 2, none⟩ = some (.int .i64 p.a2) ∧ w'.cell? ⟨w.heap.size + 1 + 1, 3, none⟩ = some (.int .i64 p.a3))
        (go_keep)
        (first
        | (go_at_call 38; (with_reducible refine (CM.out _ ?_).mono ?_); (first | assumption | exact (Below.refl _ _).drew); rintro e wx ⟨rfl, bw⟩; have hbx : Below wr.heap.size wr wx := Lvl.go1 (by first | assumption | exact (Below.refl _ _).drew) bw; obtain ⟨c0, c1, c2, c3, c4⟩ := Lv.cells (Lvl.keep hbx XE.out.1); obtain ⟨d0, d1, d2, d3, d4⟩ := Lv.cells (Lvl.keep hbx XE.out.2.1); obtain ⟨p0, p1, p2, p3⟩ := Four.cells (Lvl.keep hbx XE.out.2.2.1))
        | (go_at_call 39; (with_reducible refine (CMR.out _ ?_).mono ?_); (first | assumption | exact (Below.refl _ _).drew); rintro e wx ⟨rfl, bw⟩; have hbx : Below wr.heap.size wr wx := Lvl.go1 (by first | assumption | exact (Below.refl _ _).drew) bw; obtain ⟨c0, c1, c2, c3, c4⟩ := Lv.cells (Lvl.keep hbx XE.out.1); obtain ⟨d0, d1, d2, d3, d4⟩ := Lv.cells (Lvl.keep hbx XE.out.2.1); obtain ⟨p0, p1, p2, p3⟩ := Four.cells (Lvl.keep hbx XE.out.2.2.1))
        | (go_at_call 40; (with_reducible refine (CL.out _ ?_).mono ?_); (first | assumption | exact (Below.refl _ _).drew); rintro e wx ⟨rfl, bw⟩; have hbx : Below wr.heap.size wr wx := Lvl.go1 (by first | assumption | exact (Below.refl _ _).drew) bw; obtain ⟨c0, c1, c2, c3, c4⟩ := Lv.cells (Lvl.keep hbx XE.out.1); obtain ⟨d0, d1, d2, d3, d4⟩ := Lv.cells (Lvl.keep hbx XE.out.2.1); obtain ⟨p0, p1, p2, p3⟩ := Four.cells (Lvl.keep hbx XE.out.2.2.1))
        | (go_at_call 41; (with_reducible refine (CLR.out _ ?_).mono ?_); (first | assumption | exact (Below.refl _ _).drew); rintro e wx ⟨rfl, bw⟩; have hbx : Below wr.heap.size wr wx := Lvl.go1 (by first | assumption | exact (Below.refl _ _).drew) bw; obtain ⟨c0, c1, c2, c3, c4⟩ := Lv.cells (Lvl.keep hbx XE.out.1); obtain ⟨d0, d1, d2, d3, d4⟩ := Lv.cells (Lvl.keep hbx XE.out.2.1); obtain ⟨p0, p1, p2, p3⟩ := Four.cells (Lvl.keep hbx XE.out.2.2.1))
        | (go_at_call 42; (with_reducible refine (CA.out _ ?_).mono ?_); (first | assumption | exact (Below.refl _ _).drew); rintro e wx ⟨rfl, bw⟩; have hbx : Below wr.heap.size wr wx := Lvl.go1 (by first | assumption | exact (Below.refl _ _).drew) bw; obtain ⟨c0, c1, c2, c3, c4⟩ := Lv.cells (Lvl.keep hbx XE.out.1); obtain ⟨d0, d1, d2, d3, d4⟩ := Lv.cells (Lvl.keep hbx XE.out.2.1); obtain ⟨p0, p1, p2, p3⟩ := Four.cells (Lvl.keep hbx XE.out.2.2.1))
        | (go_at_call 43; (with_reducible refine (CAR.out _ ?_).mono ?_); (first | assumption | exact (Below.refl _ _).drew); rintro e wx ⟨rfl, bw⟩; have hbx : Below wr.heap.size wr wx := Lvl.go1 (by first | assumption | exact (Below.refl _ _).drew) bw; obtain ⟨c0, c1, c2, c3, c4⟩ := Lv.cells (Lvl.keep hbx XE.out.1); obtain ⟨d0, d1, d2, d3, d4⟩ := Lv.cells (Lvl.keep hbx XE.out.2.1); obtain ⟨p0, p1, p2, p3⟩ := Four.cells (Lvl.keep hbx XE.out.2.2.1))
        | (go_at_call 44; (with_reducible refine (CZ.out _ ?_).mono ?_); (first | assumption | exact (Below.refl _ _).drew); rintro e wx ⟨rfl, bw⟩; have hbx : Below wr.heap.size wr wx := Lvl.go1 (by first | assumption | exact (Below.refl _ _).drew) bw; obtain ⟨c0, c1, c2, c3, c4⟩ := Lv.cells (Lvl.keep hbx XE.out.1); obtain ⟨d0, d1, d2, d3, d4⟩ := Lv.cells (Lvl.keep hbx XE.out.2.1); obtain ⟨p0, p1, p2, p3⟩ := Four.cells (Lvl.keep hbx XE.out.2.2.1))
        | (go_at_call 45; (with_reducible refine (CZR.out _ ?_).mono ?_); (first | assumption | exact (Below.refl _ _).drew); rintro e wx ⟨rfl, bw⟩; have hbx : Below wr.heap.size wr wx := Lvl.go1 (by first | assumption | exact (Below.refl _ _).drew) bw; obtain ⟨c0, c1, c2, c3, c4⟩ := Lv.cells (Lvl.keep hbx XE.out.1); obtain ⟨d0, d1, d2, d3, d4⟩ := Lv.cells (Lvl.keep hbx XE.out.2.1); obtain ⟨p0, p1, p2, p3⟩ := Four.cells (Lvl.keep hbx XE.out.2.2.1))
        | (go_at_call 29; (with_reducible refine (CW.out _ ?_).mono ?_); (first | assumption | exact (Below.refl _ _).drew); rintro e wx ⟨rfl, bw⟩; have hbx : Below wr.heap.size wr wx := Lvl.go1 (by first | assumption | exact (Below.refl _ _).drew) bw; obtain ⟨c0, c1, c2, c3, c4⟩ := Lv.cells (Lvl.keep hbx XE.out.1); obtain ⟨d0, d1, d2, d3, d4⟩ := Lv.cells (Lvl.keep hbx XE.out.2.1); obtain ⟨p0, p1, p2, p3⟩ := Four.cells (Lvl.keep hbx XE.out.2.2.1)))
      go_wp2_with fail
      go_ret
      exact ⟨rfl, Lvl.go1 BE.out hbx⟩

set_option maxRecDepth 100000 in
set_option maxHeartbeats 1000000 in
theorem law_plays_many (a b : Lv) (ls : List Lv) (ao : Option Addr) (cap : Nat) (i : Int) (p : Four) (w : World) (hten : ¬ ls.length ≤ 10) :
    Calls Try.prog 4 #[a.val, b.val, .slice ao ls.length cap, .int .i64 i, p.val] w fun e w' => e = .returned (.bool true) ∧ Below w.heap.size w w' := by
  have d1 : decide ((10 : Int) < (ls.length : Int)) = true := by simp; omega
  have B0 := Lib.hid (below_three w a.box b.box p.box)
  unfold Lv.val Four.val
  go_enter Try.func4, Try.ntmps4
  go_wp2_with fail
  refine (works_any _).mono ?_
  rintro e w1 ⟨rfl, bz⟩
  have B1 := Lib.hid (thru B0.out bz)
  clear bz
  go_wp2_with fail
  go_ret
  exact ⟨rfl, B1.out⟩
theorem law_plays_all (a b : Lv) (ls : List Lv) (ao : Option Addr) (cap : Nat) (i : Int) (p : Four) (w : World) (hr : LRow w ao ls) (hlow : ∀ x, ao = some x → 0 < ls.length → x.block < w.heap.size) (_ : ls.length ≤ 9223372036854775807) (hcap : ao = none → cap = 0) :
    Calls Try.prog 4 #[a.val, b.val, .slice ao ls.length cap, .int .i64 i, p.val] w fun e w' => e = .returned (.bool true) ∧ Below w.heap.size w w' := by
  by_cases hten : ls.length ≤ 10
  · exact law_plays a b ls ao cap i p w hr hlow hten hcap
  · exact law_plays_many a b ls ao cap i p w hten
end Go.Proofs.Ytfechgahafbphaa
