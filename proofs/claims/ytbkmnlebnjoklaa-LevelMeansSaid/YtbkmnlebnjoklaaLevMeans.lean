/-
  The walk of the statement LevelMeans.
-/
import Derived.Test.YtbkmnlebnjoklaaLevApart
import Derived.Deep.DeepCutAuto
import Derived.Handy
namespace Go.Proofs.Ytbkmnlebnjoklaa
open Go.RowKit Go.Shelf Lvl

/-- Four numbers. -/
structure Lvl.Nums where
  z0 : Nat
  z1 : Nat
  z2 : Nat
  z3 : Nat
def Lvl.Nums.val (p : Nums) : Value := .agg #[.int .u32 p.z0, .int .u32 p.z1, .int .u32 p.z2, .int .u32 p.z3]
def Lvl.Nums.box (p : Nums) : Obj := .cells #[.int .u32 p.z0, .int .u32 p.z1, .int .u32 p.z2, .int .u32 p.z3] 40
/-- The numbers at which the law looks. -/
def Lvl.Nums.four (p : Nums) : Four := ⟨(p.z0 : Int) % 1073741824, (p.z1 : Int) % 1073741824, (p.z2 : Int) % 1073741824, (p.z3 : Int) % 1073741824⟩
theorem Lvl.Nums.pos (p : Nums) : p.four.pos := by unfold Four.pos Nums.four; simp only; omega
theorem Lvl.Nums.fits (p : Nums) : p.four.fits = true := by
  unfold Four.fits Nums.four
  exact decide_eq_true (by simp only; omega)
theorem Lvl.ev_bound {l : Lv} (hl : l.ok) (p : Nums) : 0 ≤ ev l p.four ∧ ev l p.four ≤ 2199023255552 := by
  refine ⟨ev_nonneg hl.fine _, ?_⟩
  rw [ev_le]
  unfold Lv.ok at hl
  simp only [Nums.four]
  omega
theorem Lvl.row_fits {r : Row4} (hr : r.okAll) (p : Nums) : (r.ev p.four).fits = true := by
  obtain ⟨h0, h1, h2, h3⟩ := hr
  unfold Four.fits Row4.ev
  exact decide_eq_true ⟨ev_bound h0 p, ev_bound h1 p, ev_bound h2 p, ev_bound h3 p⟩
theorem Lvl.leq_eq {a b m : Lv} (hm : maxi a b = (m, 0)) (h : leq a b = true) : m = b := by
  unfold leq eqP at h
  rw [hm] at h
  simp only [Bool.and_eq_true, beq_iff_eq] at h
  obtain ⟨_, hc, ⟨⟨h0, h1⟩, h2⟩, h3⟩ := h
  exact Lv.ext_all hc h0 h1 h2 h3
theorem Lvl.leq_ne {a b m : Lv} (hm : maxi a b = (m, 0)) (h : leq a b = false) (hc : m.c = b.c) : eqP m b = false := by
  unfold leq at h
  rw [hm] at h
  simpa [hc] using h
theorem Lvl.leq_not {a b : Lv} (h : ¬ (a.may = true ∧ b.may = true)) : leq a b = false := by
  unfold leq maxi
  rw [if_neg h]
  rfl
theorem apart_at (a b : Lv) (w : World) (ha : a.ok) (hb : b.ok) (h : found a b 4 = true) :
    Calls Try.prog 24 #[a.val, b.val] w fun e w' => e = .returned (.bool true) ∧ Below w.heap.size w w' := by
  have := apart_any a b w ha hb; rwa [h] at this
theorem Lvl.Boxes.put {W W' : World} {n : Nat} {A : Lv} (hn : W.heap.size ≤ n) : ∀ {l : List (Nat × Obj)}, Boxes l W → Boxes l W' → Boxes l (put5 W' n A)
  | [], _, _ => trivial
  | _ :: _, h, h' => ⟨put5_other h'.1 A (Nat.ne_of_gt (Nat.lt_of_lt_of_le (lt_of h.1) hn)), Boxes.put hn h.2 h'.2⟩
theorem Lvl.box_m (w : World) (a b r p n : Obj) : Boxes [(w.heap.size, a), (w.heap.size + 1, b), (w.heap.size + 1 + 1, r), (w.heap.size + 1 + 1 + 1 + 1, n)] (((((w.alloc a).alloc b).alloc r).alloc p).alloc n) :=
  ⟨keepA (keepA (new1of3 w a b r) p) n, keepA (keepA (new2of3 w a b r) p) n, keepA (keepA (new3 w a b r) p) n, new5 w a b r p n, trivial⟩
theorem Lvl.below_m (w : World) (a b r p n : Obj) : Below w.heap.size w (((((w.alloc a).alloc b).alloc r).alloc p).alloc n) := below_a (below_a (below_three w a b r) p) n

set_option maxRecDepth 100000 in
set_option maxHeartbeats 4000000 in
theorem means_noa (a b : Lv) (r : Row4) (p : Nums) (w : World) (ha : a.may = false) :
    Calls Try.prog 4 #[a.val, b.val, r.val, p.val] w fun e w' => e = .returned (.bool true) ∧ Below w.heap.size w w' := by
  have HL := Lib.hid (leq_not (a := a) (b := b) (by simp [ha]))
  have Ha := Lib.hid ha
  clear ha
  have X0 := Lib.hid (box_m w a.box b.box r.box p.box p.four.box)
  have B0 := Lib.hid (below_m w a.box b.box r.box p.box p.four.box)
  unfold Lv.val Row4.val Row4.vals Nums.val
  go_enter Try.func4, Try.ntmps4
  go_wp2_with fail
  refine wp_loop_rounds 5 ?_
  repeat any_goals (rw [rounds_succ]; go_wp2_with fail)
  refine (may_at a false Ha.out _).mono ?_
  rintro e w1 ⟨rfl, b⟩
  have X1 := Lib.hid (Boxes.keep b X0.out)
  have B1 := Lib.hid (thru B0.out b)
  clear b X0 B0
  obtain ⟨a1_0, a1_1, a1_2, a1_3, a1_4⟩ := Lv.cells (X1.out.1)
  obtain ⟨b1_0, b1_1, b1_2, b1_3, b1_4⟩ := Lv.cells (X1.out.2.1)
  have a1z := lt_of (X1.out.1)
  have b1z := lt_of (X1.out.2.1)
  go_wp2_with fail
  refine (leq_at a b false HL.out _).mono ?_
  rintro e w2 ⟨rfl, b⟩
  have X2 := Lib.hid (Boxes.keep b X1.out)
  have B2 := Lib.hid (thru B1.out b)
  clear b X1 B1
  go_wp2_with fail
  refine (works_any _).mono ?_
  rintro e w3 ⟨rfl, b⟩
  have X3 := Lib.hid (Boxes.keep b X2.out)
  have B3 := Lib.hid (thru B2.out b)
  clear b X2 B2
  go_wp2_with fail
  go_ret
  exact ⟨rfl, B3.out⟩

set_option maxRecDepth 100000 in
set_option maxHeartbeats 4000000 in
theorem means_nob (a b : Lv) (r : Row4) (p : Nums) (w : World) (ha : a.may = true) (hb : b.may = false) :
    Calls Try.prog 4 #[a.val, b.val, r.val, p.val] w fun e w' => e = .returned (.bool true) ∧ Below w.heap.size w w' := by
  have HL := Lib.hid (leq_not (a := a) (b := b) (by simp [hb]))
  have Ha := Lib.hid ha
  clear ha
  have Hb := Lib.hid hb
  clear hb
  have X0 := Lib.hid (box_m w a.box b.box r.box p.box p.four.box)
  have B0 := Lib.hid (below_m w a.box b.box r.box p.box p.four.box)
  unfold Lv.val Row4.val Row4.vals Nums.val
  go_enter Try.func4, Try.ntmps4
  go_wp2_with fail
  refine wp_loop_rounds 5 ?_
  repeat any_goals (rw [rounds_succ]; go_wp2_with fail)
  refine (may_at a true Ha.out _).mono ?_
  rintro e w1 ⟨rfl, b⟩
  have X1 := Lib.hid (Boxes.keep b X0.out)
  have B1 := Lib.hid (thru B0.out b)
  clear b X0 B0
  obtain ⟨b1_0, b1_1, b1_2, b1_3, b1_4⟩ := Lv.cells (X1.out.2.1)
  have b1z := lt_of (X1.out.2.1)
  go_wp2_with fail
  refine (may_at b false Hb.out _).mono ?_
  rintro e w2 ⟨rfl, b⟩
  have X2 := Lib.hid (Boxes.keep b X1.out)
  have B2 := Lib.hid (thru B1.out b)
  clear b X1 B1
  obtain ⟨a2_0, a2_1, a2_2, a2_3, a2_4⟩ := Lv.cells (X2.out.1)
  obtain ⟨b2_0, b2_1, b2_2, b2_3, b2_4⟩ := Lv.cells (X2.out.2.1)
  have a2z := lt_of (X2.out.1)
  have b2z := lt_of (X2.out.2.1)
  go_wp2_with fail
  refine (leq_at a b false HL.out _).mono ?_
  rintro e w3 ⟨rfl, b⟩
  have X3 := Lib.hid (Boxes.keep b X2.out)
  have B3 := Lib.hid (thru B2.out b)
  clear b X2 B2
  go_wp2_with fail
  refine (works_any _).mono ?_
  rintro e w4 ⟨rfl, b⟩
  have X4 := Lib.hid (Boxes.keep b X3.out)
  have B4 := Lib.hid (thru B3.out b)
  clear b X3 B3
  go_wp2_with fail
  go_ret
  exact ⟨rfl, B4.out⟩

set_option maxRecDepth 100000 in
set_option maxHeartbeats 32000000 in
theorem means_yes (a b : Lv) (r : Row4) (p : Nums) (w : World) (ha : a.ok) (hb : b.ok) :
    Calls Try.prog 4 #[a.val, b.val, r.val, p.val] w fun e w' => e = .returned (.bool true) ∧ Below w.heap.size w w' := by
  obtain ⟨hm, hmo⟩ := max_ok ha hb
  obtain ⟨m, hmm⟩ : ∃ m, (a.join b).form = m := ⟨_, rfl⟩
  have hme : ev m p.four = max (ev a p.four) (ev b p.four) := by rw [← hmm]; exact ev_max ha hb p.pos
  rw [hmm] at hm hmo
  clear hmm
  obtain ⟨x, hx⟩ : ∃ x, ev a p.four = x := ⟨_, rfl⟩
  obtain ⟨y, hy⟩ : ∃ y, ev b p.four = y := ⟨_, rfl⟩
  rw [hx, hy] at hme
  obtain ⟨hx0, hx1⟩ : 0 ≤ x ∧ x ≤ 2199023255552 := by rw [← hx]; exact ev_bound ha p
  obtain ⟨less, hless⟩ : ∃ q, leq a b = q := ⟨_, rfl⟩
  obtain ⟨⟨s, k⟩, hs⟩ : ∃ q, succ a = q := ⟨_, rfl⟩
  have Ha := Lib.hid ha
  have Hb := Lib.hid hb
  have HM := Lib.hid hm
  have HMO := Lib.hid hmo
  have HME := Lib.hid hme
  have HX := Lib.hid hx
  have HY := Lib.hid hy
  have HL := Lib.hid hless
  have HS := Lib.hid hs
  have Ma := Lib.hid ((may_iff a).2 ha)
  have Mb := Lib.hid ((may_iff b).2 hb)
  clear ha hb hm hmo hme hx hy hless hs
  have hmax := run_max
  have X0 := Lib.hid (box_m w a.box b.box r.box p.box p.four.box)
  have B0 := Lib.hid (below_m w a.box b.box r.box p.box p.four.box)
  unfold Lv.val Row4.val Row4.vals Nums.val
  go_enter Try.func4, Try.ntmps4
  go_wp2_with fail
  refine wp_loop_rounds 5 ?_
  repeat any_goals (rw [rounds_succ]; go_wp2_with fail)
  refine (may_at a true Ma.out _).mono ?_
  rintro e w1 ⟨rfl, b⟩
  have X1 := Lib.hid (Boxes.keep b X0.out)
  have B1 := Lib.hid (thru B0.out b)
  clear b X0 B0
  obtain ⟨b1_0, b1_1, b1_2, b1_3, b1_4⟩ := Lv.cells (X1.out.2.1)
  have b1z := lt_of (X1.out.2.1)
  go_wp2_with fail
  refine (may_at b true Mb.out _).mono ?_
  rintro e w2 ⟨rfl, b⟩
  have X2 := Lib.hid (Boxes.keep b X1.out)
  have B2 := Lib.hid (thru B1.out b)
  clear b X1 B1
  obtain ⟨a2_0, a2_1, a2_2, a2_3, a2_4⟩ := Lv.cells (X2.out.1)
  obtain ⟨n2_0, n2_1, n2_2, n2_3⟩ := Four.cells (X2.out.2.2.2.1)
  have a2z := lt_of (X2.out.1)
  have n2z := lt_of (X2.out.2.2.2.1)
  go_wp2_with fail
  refine (at_ev a p.four _ Ha.out p.fits x HX.out).mono ?_
  rintro e w3 ⟨rfl, b⟩
  have X3 := Lib.hid (Boxes.keep b X2.out)
  have B3 := Lib.hid (thru B2.out b)
  clear b X2 B2
  obtain ⟨b3_0, b3_1, b3_2, b3_3, b3_4⟩ := Lv.cells (X3.out.2.1)
  obtain ⟨n3_0, n3_1, n3_2, n3_3⟩ := Four.cells (X3.out.2.2.2.1)
  have b3z := lt_of (X3.out.2.1)
  have n3z := lt_of (X3.out.2.2.2.1)
  go_wp2_with fail
  refine (at_ev b p.four _ Hb.out p.fits y HY.out).mono ?_
  rintro e w4 ⟨rfl, b⟩
  have X4 := Lib.hid (Boxes.keep b X3.out)
  have B4 := Lib.hid (thru B3.out b)
  clear b X3 B3
  obtain ⟨a4_0, a4_1, a4_2, a4_3, a4_4⟩ := Lv.cells (X4.out.1)
  have a4z := lt_of (X4.out.1)
  go_wp2_with fail
  refine (succ_at a s k HS.out _).mono ?_
  rintro e w5 ⟨rfl, b⟩
  have X5 := Lib.hid (Boxes.keep b X4.out)
  have B5 := Lib.hid (thru B4.out b)
  clear b X4 B4
  obtain ⟨a5_0, a5_1, a5_2, a5_3, a5_4⟩ := Lv.cells (X5.out.1)
  obtain ⟨b5_0, b5_1, b5_2, b5_3, b5_4⟩ := Lv.cells (X5.out.2.1)
  have a5z := lt_of (X5.out.1)
  have b5z := lt_of (X5.out.2.1)
  dsimp only [Lv.val]
  go_wp2_with fail
  refine (max_at a b m 0 HM.out _).mono ?_
  rintro e w6 ⟨rfl, b⟩
  have X6 := Lib.hid (Boxes.keep b (Boxes.add X5.out s.box))
  have B6 := Lib.hid (thru (below_a B5.out _) b)
  clear b X5 B5
  dsimp only [Lv.val]
  go_upto_region 12 with fail
  go_cut [95] (fun sx wx => sx = .bool false ∧ Kept w [(w6.heap.size, m.box), (w5.heap.size, s.box), (w.heap.size, a.box), (w.heap.size + 1, b.box), (w.heap.size + 1 + 1, r.box), (w.heap.size + 1 + 1 + 1 + 1, p.four.box)] wx)
  case first =>
    rcases succ_ok Ha.out with ⟨s', e, ho, he⟩ | e
    ·
      obtain ⟨rfl, rfl⟩ : s = s' ∧ k = 0 := by have := HS.out.symm.trans e; simpa using this
      have HSE := Lib.hid (he p.four p.pos)
      have HSO := Lib.hid ho
      clear e ho he
      obtain ⟨s6_0, s6_1, s6_2, s6_3, s6_4⟩ := Lv.cells (X6.out.1)
      obtain ⟨n6_0, n6_1, n6_2, n6_3⟩ := Four.cells (X6.out.2.2.2.2.1)
      have s6z := lt_of (X6.out.1)
      have n6z := lt_of (X6.out.2.2.2.2.1)
      go_wp2_with fail
      refine (at_ev s p.four _ HSO.out p.fits (x + 1) (HSE.out.trans (by rw [HX.out]))).mono ?_
      rintro e w7 ⟨rfl, b⟩
      have X7 := Lib.hid (Boxes.keep b (Boxes.add X6.out m.box))
      have B7 := Lib.hid (thru (below_a B6.out _) b)
      clear b X6 B6
      obtain ⟨m7_0, m7_1, m7_2, m7_3, m7_4⟩ := Lv.cells (X7.out.1)
      obtain ⟨n7_0, n7_1, n7_2, n7_3⟩ := Four.cells (X7.out.2.2.2.2.2.1)
      have m7z := lt_of (X7.out.1)
      have n7z := lt_of (X7.out.2.2.2.2.2.1)
      go_wp2_with fail
      refine (at_ev m p.four _ HMO.out p.fits (max x y) HME.out).mono ?_
      rintro e w8 ⟨rfl, b⟩
      have X8 := Lib.hid (Boxes.keep b X7.out)
      have B8 := Lib.hid (thru B7.out b)
      clear b X7 B7
      go_wp2_with fail
      go_meet
      exact ⟨rfl, X8.out, B8.out⟩
    ·
      obtain ⟨rfl, rfl⟩ : s = zero ∧ k = 4 := by have := HS.out.symm.trans e; simpa using this
      clear e
      obtain ⟨n6_0, n6_1, n6_2, n6_3⟩ := Four.cells (X6.out.2.2.2.2.1)
      have n6z := lt_of (X6.out.2.2.2.2.1)
      go_wp2_with fail
      refine (at_ev m p.four _ HMO.out p.fits (max x y) HME.out).mono ?_
      rintro e w7 ⟨rfl, b⟩
      have X7 := Lib.hid (Boxes.keep b (Boxes.add X6.out m.box))
      have B7 := Lib.hid (thru (below_a B6.out _) b)
      clear b X6 B6
      go_wp2_with fail
      go_meet
      exact ⟨rfl, X7.out, B7.out⟩
  case rest =>
    obtain ⟨rfl, hX, hB⟩ := hcut
    obtain ⟨w20, rfl⟩ : ∃ v : World, v = wc := ⟨_, rfl⟩
    have X20 := Lib.hid hX
    have B20 := Lib.hid hB
    clear hX hB
    obtain ⟨a20_0, a20_1, a20_2, a20_3, a20_4⟩ := Lv.cells (X20.out.2.2.1)
    obtain ⟨b20_0, b20_1, b20_2, b20_3, b20_4⟩ := Lv.cells (X20.out.2.2.2.1)
    have a20z := lt_of (X20.out.2.2.1)
    have b20z := lt_of (X20.out.2.2.2.1)
    go_wp2_with fail
    refine (leq_at a b less HL.out _).mono ?_
    rintro e w21 ⟨rfl, b⟩
    have X21 := Lib.hid (Boxes.keep b X20.out)
    have B21 := Lib.hid (thru B20.out b)
    clear b X20 B20
    go_upto_region 15 with fail
    go_cut [124] (fun sx wx => sx = .bool false ∧ Kept w [(w6.heap.size, m.box), (w5.heap.size, s.box), (w.heap.size, a.box), (w.heap.size + 1, b.box), (w.heap.size + 1 + 1, r.box), (w.heap.size + 1 + 1 + 1 + 1, p.four.box)] wx)
    case first =>
      cases less
      ·
        have hn := fun h => leq_ne HM.out HL.out h
        obtain ⟨mc, m0, m1, m2, m3⟩ := m
        obtain ⟨f, hf⟩ : ∃ f, eqP ⟨mc, m0, m1, m2, m3⟩ b = f := ⟨_, rfl⟩
        rw [hf] at hn
        have harr : ∀ w, (Op.equalIn 9999 22 (.agg #[.int .i64 m0, .int .i64 m1, .int .i64 m2, .int .i64 m3]) (.agg #[.int .i64 b.p0, .int .i64 b.p1, .int .i64 b.p2, .int .i64 b.p3])).run Try.prog w = .ok f w := by
          intro w; rw [← hf]; exact eq_arr 9997 _ _ _ _ _ _ _ _ w
        clear hf
        obtain ⟨m21_0, m21_1, m21_2, m21_3, m21_4⟩ := Lv.cells (X21.out.1)
        obtain ⟨b21_0, b21_1, b21_2, b21_3, b21_4⟩ := Lv.cells (X21.out.2.2.2.1)
        have m21z := lt_of (X21.out.1)
        have b21z := lt_of (X21.out.2.2.2.1)
        by_cases hc : mc = b.c
        · obtain rfl : f = false := hn hc
          clear hn
          subst hc
          go_wp2_with fail
          go_meet
          exact ⟨rfl, X21.out, B21.out⟩
        · clear hn
          go_wp2_with fail
          all_goals
            go_meet
            exact ⟨rfl, X21.out, B21.out⟩
      ·
        have hle := leq_ev Ha.out Hb.out ((leq_iff Ha.out Hb.out).1 HL.out) p.pos
        rw [HX.out, HY.out] at hle
        obtain rfl : m = b := leq_eq HM.out HL.out
        have hsame := eq_same
        obtain ⟨q, hq⟩ : ∃ q, leq m a = q := ⟨_, rfl⟩
        have HQ := Lib.hid hq
        clear hq
        cases q
        ·
          obtain ⟨m21_0, m21_1, m21_2, m21_3, m21_4⟩ := Lv.cells (X21.out.1)
          obtain ⟨b21_0, b21_1, b21_2, b21_3, b21_4⟩ := Lv.cells (X21.out.2.2.2.1)
          obtain ⟨a21_0, a21_1, a21_2, a21_3, a21_4⟩ := Lv.cells (X21.out.2.2.1)
          have m21z := lt_of (X21.out.1)
          have b21z := lt_of (X21.out.2.2.2.1)
          have a21z := lt_of (X21.out.2.2.1)
          go_wp2_with fail
          refine (leq_at m a false HQ.out _).mono ?_
          rintro e w22 ⟨rfl, b⟩
          have X22 := Lib.hid (Boxes.keep b X21.out)
          have B22 := Lib.hid (thru B21.out b)
          clear b X21 B21
          go_wp2_with fail
          go_meet
          exact ⟨by simp; omega, X22.out, B22.out⟩
        ·
          obtain rfl : a = m := leq_both Ha.out Hb.out ((leq_iff Ha.out Hb.out).1 HL.out) ((leq_iff Hb.out Ha.out).1 HQ.out)
          obtain ⟨m21_0, m21_1, m21_2, m21_3, m21_4⟩ := Lv.cells (X21.out.1)
          obtain ⟨b21_0, b21_1, b21_2, b21_3, b21_4⟩ := Lv.cells (X21.out.2.2.2.1)
          obtain ⟨a21_0, a21_1, a21_2, a21_3, a21_4⟩ := Lv.cells (X21.out.2.2.1)
          have m21z := lt_of (X21.out.1)
          have b21z := lt_of (X21.out.2.2.2.1)
          have a21z := lt_of (X21.out.2.2.1)
          go_wp2_with fail
          refine (leq_at a a true HQ.out _).mono ?_
          rintro e w22 ⟨rfl, b⟩
          have X22 := Lib.hid (Boxes.keep b X21.out)
          have B22 := Lib.hid (thru B21.out b)
          clear b X21 B21
          obtain ⟨a22_0, a22_1, a22_2, a22_3, a22_4⟩ := Lv.cells (X22.out.2.2.1)
          obtain ⟨b22_0, b22_1, b22_2, b22_3, b22_4⟩ := Lv.cells (X22.out.2.2.2.1)
          have a22z := lt_of (X22.out.2.2.1)
          have b22z := lt_of (X22.out.2.2.2.1)
          go_wp2_with fail
          go_meet
          exact ⟨by simp; omega, X22.out, B22.out⟩
    case rest =>
      obtain ⟨rfl, hX, hB⟩ := hcut
      obtain ⟨w30, rfl⟩ : ∃ v : World, v = wc := ⟨_, rfl⟩
      have X30 := Lib.hid hX
      have B30 := Lib.hid hB
      clear hX hB
      go_upto_region 17 with fail
      go_cut [132] (fun sx wx => sx = .bool false ∧ Kept w [(w6.heap.size, m.box), (w5.heap.size, s.box), (w.heap.size, a.box), (w.heap.size + 1, b.box), (w.heap.size + 1 + 1, r.box), (w.heap.size + 1 + 1 + 1 + 1, p.four.box)] wx)
      case first =>
        cases less
        ·
          obtain ⟨a30_0, a30_1, a30_2, a30_3, a30_4⟩ := Lv.cells (X30.out.2.2.1)
          obtain ⟨b30_0, b30_1, b30_2, b30_3, b30_4⟩ := Lv.cells (X30.out.2.2.2.1)
          have a30z := lt_of (X30.out.2.2.1)
          have b30z := lt_of (X30.out.2.2.2.1)
          have hap := apart_yes Ha.out Hb.out HL.out
          have HAP := Lib.hid hap
          clear hap
          go_wp2_with fail
          refine (apart_at a b _ Ha.out Hb.out HAP.out).mono ?_
          rintro e w31 ⟨rfl, b⟩
          have X31 := Lib.hid (Boxes.keep b X30.out)
          have B31 := Lib.hid (thru B30.out b)
          clear b X30 B30
          go_wp2_with fail
          go_meet
          exact ⟨rfl, X31.out, B31.out⟩
        ·
          go_wp2_with fail
          go_meet
          exact ⟨rfl, X30.out, B30.out⟩
      case rest =>
        obtain ⟨rfl, hX, hB⟩ := hcut
        obtain ⟨w40, rfl⟩ : ∃ v : World, v = wc := ⟨_, rfl⟩
        have X40 := Lib.hid hX
        have B40 := Lib.hid hB
        clear hX hB
        have TLE := Lib.hid B40.out.size
        have NE := Lib.hid (And.intro (Nat.ne_of_gt (lt_of (X40.out.1))) (And.intro (Nat.ne_of_gt (lt_of (X40.out.2.1))) (And.intro (Nat.ne_of_gt (lt_of (X40.out.2.2.1))) (And.intro (Nat.ne_of_gt (lt_of (X40.out.2.2.2.1))) (And.intro (Nat.ne_of_gt (lt_of (X40.out.2.2.2.2.1))) (And.intro (Nat.ne_of_gt (lt_of (X40.out.2.2.2.2.2.1))) trivial))))))
        go_wp2_with fail
        refine wp_loop_rounds 5 ?_
        clear HL HS HM HMO HME hx0 hx1 HY Mb
        rw [rounds_succ]
        obtain ⟨r40_0, r40_1, r40_2, r40_3, r40_4⟩ := Row4.at0 (X40.out.2.2.2.2.1)
        have rz40 := lt_of (X40.out.2.2.2.2.1)
        go_wp2_with fail
        cases hm0 : r.b0.may
        ·
          have HN := Lib.hid hm0
          clear hm0
          refine (may_at r.b0 false HN.out _).mono ?_
          rintro e w41 ⟨rfl, b⟩
          have X41 := Lib.hid (Boxes.keep b (Boxes.add X40.out (Four.box ⟨0, 0, 0, 0⟩)))
          have B41 := Lib.hid (thru (below_a B40.out _) b)
          clear b X40 B40
          go_wp2_with fail
          refine (works_any _).mono ?_
          rintro e w42 ⟨rfl, b⟩
          have X42 := Lib.hid (Boxes.keep b X41.out)
          have B42 := Lib.hid (thru B41.out b)
          clear b X41 B41
          go_wp2_with fail
          go_ret
          exact ⟨rfl, B42.out⟩
        have hr0 := (may_iff _).1 hm0
        have HM0 := Lib.hid hm0
        have HR0 := Lib.hid hr0
        obtain ⟨u0, hu0⟩ : ∃ u, ev r.b0 p.four = u := ⟨_, rfl⟩
        have HU0 := Lib.hid hu0
        clear hm0 hr0 hu0
        refine (may_at r.b0 true HM0.out _).mono ?_
        rintro e w41 ⟨rfl, b⟩
        have X41 := Lib.hid (Boxes.keep b (Boxes.add X40.out (Four.box ⟨0, 0, 0, 0⟩)))
        have B41 := Lib.hid (thru (below_a B40.out _) b)
        clear b X40 B40
        go_wp2_with fail
        have Y0 := Lib.hid (Boxes.drew X41.out)
        have C0 := Lib.hid B41.out.drew
        clear X41 B41
        refine wp_region_held_drew (S := (fun w' => (w'.cell? ⟨w.heap.size + 1 + 1, 0, none⟩ = some (.int .i64 r.b0.c) ∧ w'.cell? ⟨w.heap.size + 1 + 1, 1, none⟩ = some (.int .i64 r.b0.p0) ∧ w'.cell? ⟨w.heap.size + 1 + 1, 2, none⟩ = some (.int .i64 r.b0.p1) ∧ w'.cell? ⟨w.heap.size + 1 + 1, 3, none⟩ = some (.int .i64 r.b0.p2) ∧ w'.cell? ⟨w.heap.size + 1 + 1, 4, none⟩ = some (.int .i64 r.b0.p3)) ∧ (w'.cell? ⟨w.heap.size + 1 + 1 + 1 + 1, 0, none⟩ = some (.int .i64 p.four.a0) ∧ w'.cell? ⟨w.heap.size + 1 + 1 + 1 + 1, 1, none⟩ = some (.int .i64 p.four.a1) ∧ w'.cell? ⟨w.heap.size + 1 + 1 + 1 + 1, 2, none⟩ = some (.int .i64 p.four.a2) ∧ w'.cell? ⟨w.heap.size + 1 + 1 + 1 + 1, 3, none⟩ = some (.int .i64 p.four.a3)))) (by kernel_rfl) (⟨Row4.at0 (Y0.out.2.2.2.2.2.1), Four.cells (Y0.out.2.2.2.2.2.2.1)⟩) (fun hHeld => ?_)
        refine wpAnyH_take (i := 0) (v := ?vf00) rfl (by kernel_rfl) (by kernel_rfl) (by kernel_rfl) (fun _ _ _ h => h) (Or.inl ⟨by rfl, ?hyf00⟩) (by assumption) ?restf00
        case hyf00 => (intro w hSw; (try dsimp only at hSw); go_simp <;> with_reducible rfl)
        try simp only [List.getElem_toArray, List.getElem_cons_zero, Act.put, List.setIfInBounds_toArray, List.set_cons_zero, List.set_cons_succ]
        refine wpAnyH_take (i := 1) (v := ?vf01) rfl (by kernel_rfl) (by kernel_rfl) (by kernel_rfl) (fun _ _ _ h => h) (Or.inl ⟨by rfl, ?hyf01⟩) (by assumption) ?restf01
        case hyf01 => (intro w hSw; (try dsimp only at hSw); go_simp <;> with_reducible rfl)
        try simp only [List.getElem_toArray, List.getElem_cons_succ, List.getElem_cons_zero, Act.put, List.setIfInBounds_toArray, List.set_cons_zero, List.set_cons_succ]
        refine wpAnyH_take (i := 2) (v := ?vf02) rfl (by kernel_rfl) (by kernel_rfl) (by kernel_rfl) (fun _ _ _ h => h) (Or.inl ⟨by rfl, ?hyf02⟩) (by assumption) ?restf02
        case hyf02 => (intro w hSw; (try dsimp only at hSw); go_simp <;> with_reducible rfl)
        try simp only [List.getElem_toArray, List.getElem_cons_succ, List.getElem_cons_zero, Act.put, List.setIfInBounds_toArray, List.set_cons_zero, List.set_cons_succ]
        refine wpAnyH_take (i := 3) (v := ?vf03) rfl (by kernel_rfl) (by kernel_rfl) (by kernel_rfl) (fun _ _ _ h => h) (Or.inl ⟨by rfl, ?hyf03⟩) (by assumption) ?restf03
        case hyf03 => (intro w hSw; (try dsimp only at hSw); go_simp <;> with_reducible rfl)
        try simp only [List.getElem_toArray, List.getElem_cons_succ, List.getElem_cons_zero, Act.put, List.setIfInBounds_toArray, List.set_cons_zero, List.set_cons_succ]
        refine wpAnyH_take (i := 4) (v := ?vf04) rfl (by kernel_rfl) (by kernel_rfl) (by kernel_rfl) (fun _ _ _ h => h) (Or.inl ⟨by rfl, ?hyf04⟩) (by assumption) ?restf04
        case hyf04 => (intro w hSw; (try dsimp only at hSw); go_simp <;> with_reducible rfl)
        try simp only [List.getElem_toArray, List.getElem_cons_succ, List.getElem_cons_zero, Act.put, List.setIfInBounds_toArray, List.set_cons_zero, List.set_cons_succ]
        refine wpAnyH_ready (rs := [5]) (by kernel_rfl) (by simp) ?_
        refine AllReadyH.cons rfl (fun K hK => ?_) AllReadyH.nil
        go_simp
        refine (at_ev r.b0 p.four _ HR0.out p.fits u0 HU0.out).mono ?_
        rintro e v1 ⟨rfl, b⟩
        have Y1 := Lib.hid (Boxes.keep b Y0.out)
        have C1 := Lib.hid (thru C0.out b)
        clear b Y0 C0
        refine hK.out _ _ (⟨Row4.at0 (Y1.out.2.2.2.2.2.1), Four.cells (Y1.out.2.2.2.2.2.2.1)⟩) (fun hHeld => ?_)
        clear hK K
        try simp only [List.getElem_toArray, List.getElem_cons_succ, List.getElem_cons_zero, Act.put, List.setIfInBounds_toArray, List.set_cons_zero, List.set_cons_succ]
        refine wpAnyH_take (i := 6) (v := ?vf06) rfl (by kernel_rfl) (by kernel_rfl) (by kernel_rfl) (fun _ _ _ h => h) (Or.inl ⟨by rfl, ?hyf06⟩) (by assumption) ?restf06
        case hyf06 => (intro w hSw; (try dsimp only at hSw); go_simp <;> with_reducible rfl)
        try simp only [List.getElem_toArray, List.getElem_cons_succ, List.getElem_cons_zero, Act.put, List.setIfInBounds_toArray, List.set_cons_zero, List.set_cons_succ]
        refine wpAnyH_ready (rs := [7]) (by kernel_rfl) (by simp) ?_
        refine AllReadyH.cons rfl (fun K hK => ?_) AllReadyH.nil
        obtain ⟨t0, t1, t2, t3⟩ := Four.cells (Y1.out.1)
        have g := Four.free (Y1.out.1) 0
        go_simp
        have Y2 : Hid (Boxes [(w40.heap.size, (Four.box ⟨u0, 0, 0, 0⟩)), (w6.heap.size, m.box), (w5.heap.size, s.box), (w.heap.size, a.box), (w.heap.size + 1, b.box), (w.heap.size + 1 + 1, r.box), (w.heap.size + 1 + 1 + 1 + 1, p.four.box)] (v1.setCell ⟨w40.heap.size, 0, none⟩ (.int .i64 u0))) := Lib.hid (⟨four_set0 (l := ⟨0, 0, 0, 0⟩) (Y1.out.1) _, cells_other (Y1.out.2.1) _ NE.out.1, cells_other (Y1.out.2.2.1) _ NE.out.2.1, cells_other (Y1.out.2.2.2.1) _ NE.out.2.2.1, cells_other (Y1.out.2.2.2.2.1) _ NE.out.2.2.2.1, cells_other (Y1.out.2.2.2.2.2.1) _ NE.out.2.2.2.2.1, cells_other (Y1.out.2.2.2.2.2.2.1) _ NE.out.2.2.2.2.2.1, trivial⟩)
        have C2 := Lib.hid (C1.out.setCell (p := ⟨w40.heap.size, 0, none⟩) (show w.heap.size ≤ w40.heap.size from TLE.out) (.int .i64 u0))
        clear t0 t1 t2 t3 g Y1 C1
        refine hK.out _ _ (⟨Row4.at0 (Y2.out.2.2.2.2.2.1), Four.cells (Y2.out.2.2.2.2.2.2.1)⟩) (fun hHeld => ?_)
        clear hK K
        try simp only [List.getElem_toArray, List.getElem_cons_succ, List.getElem_cons_zero, Act.put, List.setIfInBounds_toArray, List.set_cons_zero, List.set_cons_succ]
        refine wpAnyH_done (by kernel_rfl) ?_ _
        obtain ⟨w42, hw42⟩ : ∃ v, v1.setCell ⟨w40.heap.size, 0, none⟩ (.int .i64 u0) = v := ⟨_, rfl⟩
        rw [hw42] at Y2 C2 ⊢
        have X42 := Lib.hid Y2.out
        have B42 := Lib.hid C2.out
        clear hw42 Y2 C2
        go_wp2_with fail
        rw [rounds_succ]
        obtain ⟨r42_0, r42_1, r42_2, r42_3, r42_4⟩ := Row4.at1 (X42.out.2.2.2.2.2.1)
        go_wp2_with fail
        cases hm1 : r.b1.may
        ·
          have HN := Lib.hid hm1
          clear hm1
          refine (may_at r.b1 false HN.out _).mono ?_
          rintro e w43 ⟨rfl, b⟩
          have X43 := Lib.hid (Boxes.keep b X42.out)
          have B43 := Lib.hid (thru B42.out b)
          clear b X42 B42
          go_wp2_with fail
          refine (works_any _).mono ?_
          rintro e w44 ⟨rfl, b⟩
          have X44 := Lib.hid (Boxes.keep b X43.out)
          have B44 := Lib.hid (thru B43.out b)
          clear b X43 B43
          go_wp2_with fail
          go_ret
          exact ⟨rfl, B44.out⟩
        have hr1 := (may_iff _).1 hm1
        have HM1 := Lib.hid hm1
        have HR1 := Lib.hid hr1
        obtain ⟨u1, hu1⟩ : ∃ u, ev r.b1 p.four = u := ⟨_, rfl⟩
        have HU1 := Lib.hid hu1
        clear hm1 hr1 hu1
        refine (may_at r.b1 true HM1.out _).mono ?_
        rintro e w43 ⟨rfl, b⟩
        have X43 := Lib.hid (Boxes.keep b X42.out)
        have B43 := Lib.hid (thru B42.out b)
        clear b X42 B42
        go_wp2_with fail
        have Y0 := Lib.hid (Boxes.drew X43.out)
        have C0 := Lib.hid B43.out.drew
        clear X43 B43
        refine wp_region_held_drew (S := (fun w' => (w'.cell? ⟨w.heap.size + 1 + 1, 5, none⟩ = some (.int .i64 r.b1.c) ∧ w'.cell? ⟨w.heap.size + 1 + 1, 6, none⟩ = some (.int .i64 r.b1.p0) ∧ w'.cell? ⟨w.heap.size + 1 + 1, 7, none⟩ = some (.int .i64 r.b1.p1) ∧ w'.cell? ⟨w.heap.size + 1 + 1, 8, none⟩ = some (.int .i64 r.b1.p2) ∧ w'.cell? ⟨w.heap.size + 1 + 1, 9, none⟩ = some (.int .i64 r.b1.p3)) ∧ (w'.cell? ⟨w.heap.size + 1 + 1 + 1 + 1, 0, none⟩ = some (.int .i64 p.four.a0) ∧ w'.cell? ⟨w.heap.size + 1 + 1 + 1 + 1, 1, none⟩ = some (.int .i64 p.four.a1) ∧ w'.cell? ⟨w.heap.size + 1 + 1 + 1 + 1, 2, none⟩ = some (.int .i64 p.four.a2) ∧ w'.cell? ⟨w.heap.size + 1 + 1 + 1 + 1, 3, none⟩ = some (.int .i64 p.four.a3)))) (by kernel_rfl) (⟨Row4.at1 (Y0.out.2.2.2.2.2.1), Four.cells (Y0.out.2.2.2.2.2.2.1)⟩) (fun hHeld => ?_)
        refine wpAnyH_take (i := 0) (v := ?vf10) rfl (by kernel_rfl) (by kernel_rfl) (by kernel_rfl) (fun _ _ _ h => h) (Or.inl ⟨by rfl, ?hyf10⟩) (by assumption) ?restf10
        case hyf10 => (intro w hSw; (try dsimp only at hSw); go_simp <;> with_reducible rfl)
        try simp only [List.getElem_toArray, List.getElem_cons_zero, Act.put, List.setIfInBounds_toArray, List.set_cons_zero, List.set_cons_succ]
        refine wpAnyH_take (i := 1) (v := ?vf11) rfl (by kernel_rfl) (by kernel_rfl) (by kernel_rfl) (fun _ _ _ h => h) (Or.inl ⟨by rfl, ?hyf11⟩) (by assumption) ?restf11
        case hyf11 => (intro w hSw; (try dsimp only at hSw); go_simp <;> with_reducible rfl)
        try simp only [List.getElem_toArray, List.getElem_cons_succ, List.getElem_cons_zero, Act.put, List.setIfInBounds_toArray, List.set_cons_zero, List.set_cons_succ]
        refine wpAnyH_take (i := 2) (v := ?vf12) rfl (by kernel_rfl) (by kernel_rfl) (by kernel_rfl) (fun _ _ _ h => h) (Or.inl ⟨by rfl, ?hyf12⟩) (by assumption) ?restf12
        case hyf12 => (intro w hSw; (try dsimp only at hSw); go_simp <;> with_reducible rfl)
        try simp only [List.getElem_toArray, List.getElem_cons_succ, List.getElem_cons_zero, Act.put, List.setIfInBounds_toArray, List.set_cons_zero, List.set_cons_succ]
        refine wpAnyH_take (i := 3) (v := ?vf13) rfl (by kernel_rfl) (by kernel_rfl) (by kernel_rfl) (fun _ _ _ h => h) (Or.inl ⟨by rfl, ?hyf13⟩) (by assumption) ?restf13
        case hyf13 => (intro w hSw; (try dsimp only at hSw); go_simp <;> with_reducible rfl)
        try simp only [List.getElem_toArray, List.getElem_cons_succ, List.getElem_cons_zero, Act.put, List.setIfInBounds_toArray, List.set_cons_zero, List.set_cons_succ]
        refine wpAnyH_take (i := 4) (v := ?vf14) rfl (by kernel_rfl) (by kernel_rfl) (by kernel_rfl) (fun _ _ _ h => h) (Or.inl ⟨by rfl, ?hyf14⟩) (by assumption) ?restf14
        case hyf14 => (intro w hSw; (try dsimp only at hSw); go_simp <;> with_reducible rfl)
        try simp only [List.getElem_toArray, List.getElem_cons_succ, List.getElem_cons_zero, Act.put, List.setIfInBounds_toArray, List.set_cons_zero, List.set_cons_succ]
        refine wpAnyH_ready (rs := [5]) (by kernel_rfl) (by simp) ?_
        refine AllReadyH.cons rfl (fun K hK => ?_) AllReadyH.nil
        go_simp
        refine (at_ev r.b1 p.four _ HR1.out p.fits u1 HU1.out).mono ?_
        rintro e v1 ⟨rfl, b⟩
        have Y1 := Lib.hid (Boxes.keep b Y0.out)
        have C1 := Lib.hid (thru C0.out b)
        clear b Y0 C0
        refine hK.out _ _ (⟨Row4.at1 (Y1.out.2.2.2.2.2.1), Four.cells (Y1.out.2.2.2.2.2.2.1)⟩) (fun hHeld => ?_)
        clear hK K
        try simp only [List.getElem_toArray, List.getElem_cons_succ, List.getElem_cons_zero, Act.put, List.setIfInBounds_toArray, List.set_cons_zero, List.set_cons_succ]
        refine wpAnyH_take (i := 6) (v := ?vf16) rfl (by kernel_rfl) (by kernel_rfl) (by kernel_rfl) (fun _ _ _ h => h) (Or.inl ⟨by rfl, ?hyf16⟩) (by assumption) ?restf16
        case hyf16 => (intro w hSw; (try dsimp only at hSw); go_simp <;> with_reducible rfl)
        try simp only [List.getElem_toArray, List.getElem_cons_succ, List.getElem_cons_zero, Act.put, List.setIfInBounds_toArray, List.set_cons_zero, List.set_cons_succ]
        refine wpAnyH_ready (rs := [7]) (by kernel_rfl) (by simp) ?_
        refine AllReadyH.cons rfl (fun K hK => ?_) AllReadyH.nil
        obtain ⟨t0, t1, t2, t3⟩ := Four.cells (Y1.out.1)
        have g := Four.free (Y1.out.1) 1
        go_simp
        have Y2 : Hid (Boxes [(w40.heap.size, (Four.box ⟨u0, u1, 0, 0⟩)), (w6.heap.size, m.box), (w5.heap.size, s.box), (w.heap.size, a.box), (w.heap.size + 1, b.box), (w.heap.size + 1 + 1, r.box), (w.heap.size + 1 + 1 + 1 + 1, p.four.box)] (v1.setCell ⟨w40.heap.size, 1, none⟩ (.int .i64 u1))) := Lib.hid (⟨four_set1 (l := ⟨u0, 0, 0, 0⟩) (Y1.out.1) _, cells_other (Y1.out.2.1) _ NE.out.1, cells_other (Y1.out.2.2.1) _ NE.out.2.1, cells_other (Y1.out.2.2.2.1) _ NE.out.2.2.1, cells_other (Y1.out.2.2.2.2.1) _ NE.out.2.2.2.1, cells_other (Y1.out.2.2.2.2.2.1) _ NE.out.2.2.2.2.1, cells_other (Y1.out.2.2.2.2.2.2.1) _ NE.out.2.2.2.2.2.1, trivial⟩)
        have C2 := Lib.hid (C1.out.setCell (p := ⟨w40.heap.size, 1, none⟩) (show w.heap.size ≤ w40.heap.size from TLE.out) (.int .i64 u1))
        clear t0 t1 t2 t3 g Y1 C1
        refine hK.out _ _ (⟨Row4.at1 (Y2.out.2.2.2.2.2.1), Four.cells (Y2.out.2.2.2.2.2.2.1)⟩) (fun hHeld => ?_)
        clear hK K
        try simp only [List.getElem_toArray, List.getElem_cons_succ, List.getElem_cons_zero, Act.put, List.setIfInBounds_toArray, List.set_cons_zero, List.set_cons_succ]
        refine wpAnyH_done (by kernel_rfl) ?_ _
        obtain ⟨w44, hw44⟩ : ∃ v, v1.setCell ⟨w40.heap.size, 1, none⟩ (.int .i64 u1) = v := ⟨_, rfl⟩
        rw [hw44] at Y2 C2 ⊢
        have X44 := Lib.hid Y2.out
        have B44 := Lib.hid C2.out
        clear hw44 Y2 C2
        go_wp2_with fail
        rw [rounds_succ]
        obtain ⟨r44_0, r44_1, r44_2, r44_3, r44_4⟩ := Row4.at2 (X44.out.2.2.2.2.2.1)
        go_wp2_with fail
        cases hm2 : r.b2.may
        ·
          have HN := Lib.hid hm2
          clear hm2
          refine (may_at r.b2 false HN.out _).mono ?_
          rintro e w45 ⟨rfl, b⟩
          have X45 := Lib.hid (Boxes.keep b X44.out)
          have B45 := Lib.hid (thru B44.out b)
          clear b X44 B44
          go_wp2_with fail
          refine (works_any _).mono ?_
          rintro e w46 ⟨rfl, b⟩
          have X46 := Lib.hid (Boxes.keep b X45.out)
          have B46 := Lib.hid (thru B45.out b)
          clear b X45 B45
          go_wp2_with fail
          go_ret
          exact ⟨rfl, B46.out⟩
        have hr2 := (may_iff _).1 hm2
        have HM2 := Lib.hid hm2
        have HR2 := Lib.hid hr2
        obtain ⟨u2, hu2⟩ : ∃ u, ev r.b2 p.four = u := ⟨_, rfl⟩
        have HU2 := Lib.hid hu2
        clear hm2 hr2 hu2
        refine (may_at r.b2 true HM2.out _).mono ?_
        rintro e w45 ⟨rfl, b⟩
        have X45 := Lib.hid (Boxes.keep b X44.out)
        have B45 := Lib.hid (thru B44.out b)
        clear b X44 B44
        go_wp2_with fail
        have Y0 := Lib.hid (Boxes.drew X45.out)
        have C0 := Lib.hid B45.out.drew
        clear X45 B45
        refine wp_region_held_drew (S := (fun w' => (w'.cell? ⟨w.heap.size + 1 + 1, 10, none⟩ = some (.int .i64 r.b2.c) ∧ w'.cell? ⟨w.heap.size + 1 + 1, 11, none⟩ = some (.int .i64 r.b2.p0) ∧ w'.cell? ⟨w.heap.size + 1 + 1, 12, none⟩ = some (.int .i64 r.b2.p1) ∧ w'.cell? ⟨w.heap.size + 1 + 1, 13, none⟩ = some (.int .i64 r.b2.p2) ∧ w'.cell? ⟨w.heap.size + 1 + 1, 14, none⟩ = some (.int .i64 r.b2.p3)) ∧ (w'.cell? ⟨w.heap.size + 1 + 1 + 1 + 1, 0, none⟩ = some (.int .i64 p.four.a0) ∧ w'.cell? ⟨w.heap.size + 1 + 1 + 1 + 1, 1, none⟩ = some (.int .i64 p.four.a1) ∧ w'.cell? ⟨w.heap.size + 1 + 1 + 1 + 1, 2, none⟩ = some (.int .i64 p.four.a2) ∧ w'.cell? ⟨w.heap.size + 1 + 1 + 1 + 1, 3, none⟩ = some (.int .i64 p.four.a3)))) (by kernel_rfl) (⟨Row4.at2 (Y0.out.2.2.2.2.2.1), Four.cells (Y0.out.2.2.2.2.2.2.1)⟩) (fun hHeld => ?_)
        refine wpAnyH_take (i := 0) (v := ?vf20) rfl (by kernel_rfl) (by kernel_rfl) (by kernel_rfl) (fun _ _ _ h => h) (Or.inl ⟨by rfl, ?hyf20⟩) (by assumption) ?restf20
        case hyf20 => (intro w hSw; (try dsimp only at hSw); go_simp <;> with_reducible rfl)
        try simp only [List.getElem_toArray, List.getElem_cons_zero, Act.put, List.setIfInBounds_toArray, List.set_cons_zero, List.set_cons_succ]
        refine wpAnyH_take (i := 1) (v := ?vf21) rfl (by kernel_rfl) (by kernel_rfl) (by kernel_rfl) (fun _ _ _ h => h) (Or.inl ⟨by rfl, ?hyf21⟩) (by assumption) ?restf21
        case hyf21 => (intro w hSw; (try dsimp only at hSw); go_simp <;> with_reducible rfl)
        try simp only [List.getElem_toArray, List.getElem_cons_succ, List.getElem_cons_zero, Act.put, List.setIfInBounds_toArray, List.set_cons_zero, List.set_cons_succ]
        refine wpAnyH_take (i := 2) (v := ?vf22) rfl (by kernel_rfl) (by kernel_rfl) (by kernel_rfl) (fun _ _ _ h => h) (Or.inl ⟨by rfl, ?hyf22⟩) (by assumption) ?restf22
        case hyf22 => (intro w hSw; (try dsimp only at hSw); go_simp <;> with_reducible rfl)
        try simp only [List.getElem_toArray, List.getElem_cons_succ, List.getElem_cons_zero, Act.put, List.setIfInBounds_toArray, List.set_cons_zero, List.set_cons_succ]
        refine wpAnyH_take (i := 3) (v := ?vf23) rfl (by kernel_rfl) (by kernel_rfl) (by kernel_rfl) (fun _ _ _ h => h) (Or.inl ⟨by rfl, ?hyf23⟩) (by assumption) ?restf23
        case hyf23 => (intro w hSw; (try dsimp only at hSw); go_simp <;> with_reducible rfl)
        try simp only [List.getElem_toArray, List.getElem_cons_succ, List.getElem_cons_zero, Act.put, List.setIfInBounds_toArray, List.set_cons_zero, List.set_cons_succ]
        refine wpAnyH_take (i := 4) (v := ?vf24) rfl (by kernel_rfl) (by kernel_rfl) (by kernel_rfl) (fun _ _ _ h => h) (Or.inl ⟨by rfl, ?hyf24⟩) (by assumption) ?restf24
        case hyf24 => (intro w hSw; (try dsimp only at hSw); go_simp <;> with_reducible rfl)
        try simp only [List.getElem_toArray, List.getElem_cons_succ, List.getElem_cons_zero, Act.put, List.setIfInBounds_toArray, List.set_cons_zero, List.set_cons_succ]
        refine wpAnyH_ready (rs := [5]) (by kernel_rfl) (by simp) ?_
        refine AllReadyH.cons rfl (fun K hK => ?_) AllReadyH.nil
        go_simp
        refine (at_ev r.b2 p.four _ HR2.out p.fits u2 HU2.out).mono ?_
        rintro e v1 ⟨rfl, b⟩
        have Y1 := Lib.hid (Boxes.keep b Y0.out)
        have C1 := Lib.hid (thru C0.out b)
        clear b Y0 C0
        refine hK.out _ _ (⟨Row4.at2 (Y1.out.2.2.2.2.2.1), Four.cells (Y1.out.2.2.2.2.2.2.1)⟩) (fun hHeld => ?_)
        clear hK K
        try simp only [List.getElem_toArray, List.getElem_cons_succ, List.getElem_cons_zero, Act.put, List.setIfInBounds_toArray, List.set_cons_zero, List.set_cons_succ]
        refine wpAnyH_take (i := 6) (v := ?vf26) rfl (by kernel_rfl) (by kernel_rfl) (by kernel_rfl) (fun _ _ _ h => h) (Or.inl ⟨by rfl, ?hyf26⟩) (by assumption) ?restf26
        case hyf26 => (intro w hSw; (try dsimp only at hSw); go_simp <;> with_reducible rfl)
        try simp only [List.getElem_toArray, List.getElem_cons_succ, List.getElem_cons_zero, Act.put, List.setIfInBounds_toArray, List.set_cons_zero, List.set_cons_succ]
        refine wpAnyH_ready (rs := [7]) (by kernel_rfl) (by simp) ?_
        refine AllReadyH.cons rfl (fun K hK => ?_) AllReadyH.nil
        obtain ⟨t0, t1, t2, t3⟩ := Four.cells (Y1.out.1)
        have g := Four.free (Y1.out.1) 2
        go_simp
        have Y2 : Hid (Boxes [(w40.heap.size, (Four.box ⟨u0, u1, u2, 0⟩)), (w6.heap.size, m.box), (w5.heap.size, s.box), (w.heap.size, a.box), (w.heap.size + 1, b.box), (w.heap.size + 1 + 1, r.box), (w.heap.size + 1 + 1 + 1 + 1, p.four.box)] (v1.setCell ⟨w40.heap.size, 2, none⟩ (.int .i64 u2))) := Lib.hid (⟨four_set2 (l := ⟨u0, u1, 0, 0⟩) (Y1.out.1) _, cells_other (Y1.out.2.1) _ NE.out.1, cells_other (Y1.out.2.2.1) _ NE.out.2.1, cells_other (Y1.out.2.2.2.1) _ NE.out.2.2.1, cells_other (Y1.out.2.2.2.2.1) _ NE.out.2.2.2.1, cells_other (Y1.out.2.2.2.2.2.1) _ NE.out.2.2.2.2.1, cells_other (Y1.out.2.2.2.2.2.2.1) _ NE.out.2.2.2.2.2.1, trivial⟩)
        have C2 := Lib.hid (C1.out.setCell (p := ⟨w40.heap.size, 2, none⟩) (show w.heap.size ≤ w40.heap.size from TLE.out) (.int .i64 u2))
        clear t0 t1 t2 t3 g Y1 C1
        refine hK.out _ _ (⟨Row4.at2 (Y2.out.2.2.2.2.2.1), Four.cells (Y2.out.2.2.2.2.2.2.1)⟩) (fun hHeld => ?_)
        clear hK K
        try simp only [List.getElem_toArray, List.getElem_cons_succ, List.getElem_cons_zero, Act.put, List.setIfInBounds_toArray, List.set_cons_zero, List.set_cons_succ]
        refine wpAnyH_done (by kernel_rfl) ?_ _
        obtain ⟨w46, hw46⟩ : ∃ v, v1.setCell ⟨w40.heap.size, 2, none⟩ (.int .i64 u2) = v := ⟨_, rfl⟩
        rw [hw46] at Y2 C2 ⊢
        have X46 := Lib.hid Y2.out
        have B46 := Lib.hid C2.out
        clear hw46 Y2 C2
        go_wp2_with fail
        rw [rounds_succ]
        obtain ⟨r46_0, r46_1, r46_2, r46_3, r46_4⟩ := Row4.at3 (X46.out.2.2.2.2.2.1)
        go_wp2_with fail
        cases hm3 : r.b3.may
        ·
          have HN := Lib.hid hm3
          clear hm3
          refine (may_at r.b3 false HN.out _).mono ?_
          rintro e w47 ⟨rfl, b⟩
          have X47 := Lib.hid (Boxes.keep b X46.out)
          have B47 := Lib.hid (thru B46.out b)
          clear b X46 B46
          go_wp2_with fail
          refine (works_any _).mono ?_
          rintro e w48 ⟨rfl, b⟩
          have X48 := Lib.hid (Boxes.keep b X47.out)
          have B48 := Lib.hid (thru B47.out b)
          clear b X47 B47
          go_wp2_with fail
          go_ret
          exact ⟨rfl, B48.out⟩
        have hr3 := (may_iff _).1 hm3
        have HM3 := Lib.hid hm3
        have HR3 := Lib.hid hr3
        obtain ⟨u3, hu3⟩ : ∃ u, ev r.b3 p.four = u := ⟨_, rfl⟩
        have HU3 := Lib.hid hu3
        clear hm3 hr3 hu3
        refine (may_at r.b3 true HM3.out _).mono ?_
        rintro e w47 ⟨rfl, b⟩
        have X47 := Lib.hid (Boxes.keep b X46.out)
        have B47 := Lib.hid (thru B46.out b)
        clear b X46 B46
        go_wp2_with fail
        have Y0 := Lib.hid (Boxes.drew X47.out)
        have C0 := Lib.hid B47.out.drew
        clear X47 B47
        refine wp_region_held_drew (S := (fun w' => (w'.cell? ⟨w.heap.size + 1 + 1, 15, none⟩ = some (.int .i64 r.b3.c) ∧ w'.cell? ⟨w.heap.size + 1 + 1, 16, none⟩ = some (.int .i64 r.b3.p0) ∧ w'.cell? ⟨w.heap.size + 1 + 1, 17, none⟩ = some (.int .i64 r.b3.p1) ∧ w'.cell? ⟨w.heap.size + 1 + 1, 18, none⟩ = some (.int .i64 r.b3.p2) ∧ w'.cell? ⟨w.heap.size + 1 + 1, 19, none⟩ = some (.int .i64 r.b3.p3)) ∧ (w'.cell? ⟨w.heap.size + 1 + 1 + 1 + 1, 0, none⟩ = some (.int .i64 p.four.a0) ∧ w'.cell? ⟨w.heap.size + 1 + 1 + 1 + 1, 1, none⟩ = some (.int .i64 p.four.a1) ∧ w'.cell? ⟨w.heap.size + 1 + 1 + 1 + 1, 2, none⟩ = some (.int .i64 p.four.a2) ∧ w'.cell? ⟨w.heap.size + 1 + 1 + 1 + 1, 3, none⟩ = some (.int .i64 p.four.a3)))) (by kernel_rfl) (⟨Row4.at3 (Y0.out.2.2.2.2.2.1), Four.cells (Y0.out.2.2.2.2.2.2.1)⟩) (fun hHeld => ?_)
        refine wpAnyH_take (i := 0) (v := ?vf30) rfl (by kernel_rfl) (by kernel_rfl) (by kernel_rfl) (fun _ _ _ h => h) (Or.inl ⟨by rfl, ?hyf30⟩) (by assumption) ?restf30
        case hyf30 => (intro w hSw; (try dsimp only at hSw); go_simp <;> with_reducible rfl)
        try simp only [List.getElem_toArray, List.getElem_cons_zero, Act.put, List.setIfInBounds_toArray, List.set_cons_zero, List.set_cons_succ]
        refine wpAnyH_take (i := 1) (v := ?vf31) rfl (by kernel_rfl) (by kernel_rfl) (by kernel_rfl) (fun _ _ _ h => h) (Or.inl ⟨by rfl, ?hyf31⟩) (by assumption) ?restf31
        case hyf31 => (intro w hSw; (try dsimp only at hSw); go_simp <;> with_reducible rfl)
        try simp only [List.getElem_toArray, List.getElem_cons_succ, List.getElem_cons_zero, Act.put, List.setIfInBounds_toArray, List.set_cons_zero, List.set_cons_succ]
        refine wpAnyH_take (i := 2) (v := ?vf32) rfl (by kernel_rfl) (by kernel_rfl) (by kernel_rfl) (fun _ _ _ h => h) (Or.inl ⟨by rfl, ?hyf32⟩) (by assumption) ?restf32
        case hyf32 => (intro w hSw; (try dsimp only at hSw); go_simp <;> with_reducible rfl)
        try simp only [List.getElem_toArray, List.getElem_cons_succ, List.getElem_cons_zero, Act.put, List.setIfInBounds_toArray, List.set_cons_zero, List.set_cons_succ]
        refine wpAnyH_take (i := 3) (v := ?vf33) rfl (by kernel_rfl) (by kernel_rfl) (by kernel_rfl) (fun _ _ _ h => h) (Or.inl ⟨by rfl, ?hyf33⟩) (by assumption) ?restf33
        case hyf33 => (intro w hSw; (try dsimp only at hSw); go_simp <;> with_reducible rfl)
        try simp only [List.getElem_toArray, List.getElem_cons_succ, List.getElem_cons_zero, Act.put, List.setIfInBounds_toArray, List.set_cons_zero, List.set_cons_succ]
        refine wpAnyH_take (i := 4) (v := ?vf34) rfl (by kernel_rfl) (by kernel_rfl) (by kernel_rfl) (fun _ _ _ h => h) (Or.inl ⟨by rfl, ?hyf34⟩) (by assumption) ?restf34
        case hyf34 => (intro w hSw; (try dsimp only at hSw); go_simp <;> with_reducible rfl)
        try simp only [List.getElem_toArray, List.getElem_cons_succ, List.getElem_cons_zero, Act.put, List.setIfInBounds_toArray, List.set_cons_zero, List.set_cons_succ]
        refine wpAnyH_ready (rs := [5]) (by kernel_rfl) (by simp) ?_
        refine AllReadyH.cons rfl (fun K hK => ?_) AllReadyH.nil
        go_simp
        refine (at_ev r.b3 p.four _ HR3.out p.fits u3 HU3.out).mono ?_
        rintro e v1 ⟨rfl, b⟩
        have Y1 := Lib.hid (Boxes.keep b Y0.out)
        have C1 := Lib.hid (thru C0.out b)
        clear b Y0 C0
        refine hK.out _ _ (⟨Row4.at3 (Y1.out.2.2.2.2.2.1), Four.cells (Y1.out.2.2.2.2.2.2.1)⟩) (fun hHeld => ?_)
        clear hK K
        try simp only [List.getElem_toArray, List.getElem_cons_succ, List.getElem_cons_zero, Act.put, List.setIfInBounds_toArray, List.set_cons_zero, List.set_cons_succ]
        refine wpAnyH_take (i := 6) (v := ?vf36) rfl (by kernel_rfl) (by kernel_rfl) (by kernel_rfl) (fun _ _ _ h => h) (Or.inl ⟨by rfl, ?hyf36⟩) (by assumption) ?restf36
        case hyf36 => (intro w hSw; (try dsimp only at hSw); go_simp <;> with_reducible rfl)
        try simp only [List.getElem_toArray, List.getElem_cons_succ, List.getElem_cons_zero, Act.put, List.setIfInBounds_toArray, List.set_cons_zero, List.set_cons_succ]
        refine wpAnyH_ready (rs := [7]) (by kernel_rfl) (by simp) ?_
        refine AllReadyH.cons rfl (fun K hK => ?_) AllReadyH.nil
        obtain ⟨t0, t1, t2, t3⟩ := Four.cells (Y1.out.1)
        have g := Four.free (Y1.out.1) 3
        go_simp
        have Y2 : Hid (Boxes [(w40.heap.size, (Four.box ⟨u0, u1, u2, u3⟩)), (w6.heap.size, m.box), (w5.heap.size, s.box), (w.heap.size, a.box), (w.heap.size + 1, b.box), (w.heap.size + 1 + 1, r.box), (w.heap.size + 1 + 1 + 1 + 1, p.four.box)] (v1.setCell ⟨w40.heap.size, 3, none⟩ (.int .i64 u3))) := Lib.hid (⟨four_set3 (l := ⟨u0, u1, u2, 0⟩) (Y1.out.1) _, cells_other (Y1.out.2.1) _ NE.out.1, cells_other (Y1.out.2.2.1) _ NE.out.2.1, cells_other (Y1.out.2.2.2.1) _ NE.out.2.2.1, cells_other (Y1.out.2.2.2.2.1) _ NE.out.2.2.2.1, cells_other (Y1.out.2.2.2.2.2.1) _ NE.out.2.2.2.2.1, cells_other (Y1.out.2.2.2.2.2.2.1) _ NE.out.2.2.2.2.2.1, trivial⟩)
        have C2 := Lib.hid (C1.out.setCell (p := ⟨w40.heap.size, 3, none⟩) (show w.heap.size ≤ w40.heap.size from TLE.out) (.int .i64 u3))
        clear t0 t1 t2 t3 g Y1 C1
        refine hK.out _ _ (⟨Row4.at3 (Y2.out.2.2.2.2.2.1), Four.cells (Y2.out.2.2.2.2.2.2.1)⟩) (fun hHeld => ?_)
        clear hK K
        try simp only [List.getElem_toArray, List.getElem_cons_succ, List.getElem_cons_zero, Act.put, List.setIfInBounds_toArray, List.set_cons_zero, List.set_cons_succ]
        refine wpAnyH_done (by kernel_rfl) ?_ _
        obtain ⟨w48, hw48⟩ : ∃ v, v1.setCell ⟨w40.heap.size, 3, none⟩ (.int .i64 u3) = v := ⟨_, rfl⟩
        rw [hw48] at Y2 C2 ⊢
        have X48 := Lib.hid Y2.out
        have B48 := Lib.hid C2.out
        clear hw48 Y2 C2
        go_wp2_with fail
        rw [rounds_succ]
        go_wp2_with fail
        obtain ⟨⟨z, q⟩, hz⟩ : ∃ y, inst a r.list = y := ⟨_, rfl⟩
        have HZ := Lib.hid hz
        clear hz
        have HRO : Hid r.okAll := Lib.hid ⟨HR0.out, HR1.out, HR2.out, HR3.out⟩
        go_cut [20, 21] (fun s20 s21 wx => ∃ gz, s20 = .pointer (some ⟨gz, 0, none⟩) ∧ s21 = .int .i64 q ∧ Kept w ((gz, z.box) :: [(w40.heap.size, (Four.box ⟨u0, u1, u2, u3⟩)), (w6.heap.size, m.box), (w5.heap.size, s.box), (w.heap.size, a.box), (w.heap.size + 1, b.box), (w.heap.size + 1 + 1, r.box), (w.heap.size + 1 + 1 + 1 + 1, p.four.box)]) wx)
        case first =>
          have Y0 := Lib.hid (Boxes.drew X48.out)
          have C0 := Lib.hid B48.out.drew
          clear X48 B48
          refine wp_region_held_drew (S := (fun w' => w'.cell? ⟨w.heap.size, 0, none⟩ = some (.int .i64 a.c) ∧ w'.cell? ⟨w.heap.size, 1, none⟩ = some (.int .i64 a.p0) ∧ w'.cell? ⟨w.heap.size, 2, none⟩ = some (.int .i64 a.p1) ∧ w'.cell? ⟨w.heap.size, 3, none⟩ = some (.int .i64 a.p2) ∧ w'.cell? ⟨w.heap.size, 4, none⟩ = some (.int .i64 a.p3))) (by kernel_rfl) (Lv.cells (Y0.out.2.2.2.1)) (fun hHeld => ?_)
          refine wpAnyH_take (i := 0) (v := ?vi0) rfl (by kernel_rfl) (by kernel_rfl) (by kernel_rfl) (fun _ _ _ h => h) (Or.inl ⟨by rfl, ?hyi0⟩) (by assumption) ?resti0
          case hyi0 => (intro w hSw; (try dsimp only at hSw); go_simp <;> with_reducible rfl)
          try simp only [List.getElem_toArray, List.getElem_cons_zero, Act.put, List.setIfInBounds_toArray, List.set_cons_zero, List.set_cons_succ]
          refine wpAnyH_take (i := 1) (v := ?vi1) rfl (by kernel_rfl) (by kernel_rfl) (by kernel_rfl) (fun _ _ _ h => h) (Or.inl ⟨by rfl, ?hyi1⟩) (by assumption) ?resti1
          case hyi1 => (intro w hSw; (try dsimp only at hSw); go_simp <;> with_reducible rfl)
          try simp only [List.getElem_toArray, List.getElem_cons_succ, List.getElem_cons_zero, Act.put, List.setIfInBounds_toArray, List.set_cons_zero, List.set_cons_succ]
          refine wpAnyH_ready (rs := [2, 6]) (by kernel_rfl) (by simp) ?_
          refine AllReadyH.cons rfl (fun K hK => ?_) (AllReadyH.cons rfl (fun K hK => ?_) AllReadyH.nil)
          ·
            go_simp
            refine (inst_row_at a r _ z q HZ.out _ (Y0.out.2.2.2.2.2.1)).mono ?_
            rintro e v1 ⟨rfl, b⟩
            have Y1 := Lib.hid (Boxes.keep b Y0.out)
            have C1 := Lib.hid (thru C0.out b)
            clear b Y0 C0
            dsimp only [Lv.val]
            refine hK.out _ _ (Lv.cells (Y1.out.2.2.2.1)) (fun hHeld => ?_)
            clear hK K
            try simp only [List.getElem_toArray, List.getElem_cons_succ, List.getElem_cons_zero, Act.put, List.setIfInBounds_toArray, List.set_cons_zero, List.set_cons_succ]
            refine wpAnyH_take (i := 3) (v := ?via3) rfl (by kernel_rfl) (by kernel_rfl) (by kernel_rfl) (fun _ _ _ h => h) (Or.inl ⟨by rfl, ?hyia3⟩) (by assumption) ?restia3
            case hyia3 => (intro w hSw; (try dsimp only at hSw); go_simp <;> with_reducible rfl)
            try simp only [List.getElem_toArray, List.getElem_cons_succ, List.getElem_cons_zero, Act.put, List.setIfInBounds_toArray, List.set_cons_zero, List.set_cons_succ]
            refine wpAnyH_take (i := 4) (v := ?via4) rfl (by kernel_rfl) (by kernel_rfl) (by kernel_rfl) (fun _ _ _ h => h) (Or.inl ⟨by rfl, ?hyia4⟩) (by assumption) ?restia4
            case hyia4 => (intro w hSw; (try dsimp only at hSw); go_simp <;> with_reducible rfl)
            try simp only [List.getElem_toArray, List.getElem_cons_succ, List.getElem_cons_zero, Act.put, List.setIfInBounds_toArray, List.set_cons_zero, List.set_cons_succ]
            refine wpAnyH_take (i := 5) (v := ?via5) rfl (by kernel_rfl) (by kernel_rfl) (by kernel_rfl) (fun _ _ _ h => h) (Or.inl ⟨by rfl, ?hyia5⟩) (by assumption) ?restia5
            case hyia5 => (intro w hSw; (try dsimp only at hSw); go_simp <;> with_reducible rfl)
            try simp only [List.getElem_toArray, List.getElem_cons_succ, List.getElem_cons_zero, Act.put, List.setIfInBounds_toArray, List.set_cons_zero, List.set_cons_succ]
            refine wpAnyH_ready (rs := [6]) (by kernel_rfl) (by simp) ?_
            refine AllReadyH.cons rfl (fun K hK => ?_) AllReadyH.nil
            go_simp
            refine hK.out _ _ (Lv.cells (keepA (Y1.out.2.2.2.1) zero.box)) (fun hHeld => ?_)
            clear hK K
            try simp only [List.getElem_toArray, List.getElem_cons_succ, List.getElem_cons_zero, Act.put, List.setIfInBounds_toArray, List.set_cons_zero, List.set_cons_succ]
            refine wpAnyH_ready (rs := [7]) (by kernel_rfl) (by simp) ?_
            refine AllReadyH.cons rfl (fun K hK => ?_) AllReadyH.nil
            go_simp
            refine hK.out _ _ (Lv.cells (keepA (Y1.out.2.2.2.1) (Lv.box z))) (fun hHeld => ?_)
            clear hK K
            try simp only [List.getElem_toArray, List.getElem_cons_succ, List.getElem_cons_zero, Act.put, List.setIfInBounds_toArray, List.set_cons_zero, List.set_cons_succ]
            refine wpAnyH_take (i := 8) (v := ?via8) rfl (by kernel_rfl) (by kernel_rfl) (by kernel_rfl) (fun _ _ _ h => h) (Or.inl ⟨by rfl, ?hyia8⟩) (by assumption) ?restia8
            case hyia8 => (intro w hSw; (try dsimp only at hSw); go_simp <;> with_reducible rfl)
            try simp only [List.getElem_toArray, List.getElem_cons_succ, List.getElem_cons_zero, Act.put, List.setIfInBounds_toArray, List.set_cons_zero, List.set_cons_succ]
            refine wpAnyH_done (by kernel_rfl) ?_ _
            go_wp2_with fail
            go_meet
            exact ⟨_, rfl, rfl, Boxes.add Y1.out (Lv.box z), below_a C1.out _⟩
          ·
            go_simp
            refine hK.out _ _ (Lv.cells (keepA (Y0.out.2.2.2.1) zero.box)) (fun hHeld => ?_)
            clear hK K
            try simp only [List.getElem_toArray, List.getElem_cons_succ, List.getElem_cons_zero, Act.put, List.setIfInBounds_toArray, List.set_cons_zero, List.set_cons_succ]
            refine wpAnyH_ready (rs := [2]) (by kernel_rfl) (by simp) ?_
            refine AllReadyH.cons rfl (fun K hK => ?_) AllReadyH.nil
            go_simp
            refine (inst_row_at a r _ z q HZ.out _ ((Boxes.alloc zero.box Y0.out).2.2.2.2.2.1)).mono ?_
            rintro e v1 ⟨rfl, b⟩
            have Y1 := Lib.hid (Boxes.keep b (Boxes.add Y0.out zero.box))
            have C1 := Lib.hid (thru (below_a C0.out _) b)
            clear b
            dsimp only [Lv.val]
            refine hK.out _ _ (Lv.cells (Y1.out.2.2.2.2.1)) (fun hHeld => ?_)
            clear hK K
            try simp only [List.getElem_toArray, List.getElem_cons_succ, List.getElem_cons_zero, Act.put, List.setIfInBounds_toArray, List.set_cons_zero, List.set_cons_succ]
            refine wpAnyH_take (i := 3) (v := ?vib3) rfl (by kernel_rfl) (by kernel_rfl) (by kernel_rfl) (fun _ _ _ h => h) (Or.inl ⟨by rfl, ?hyib3⟩) (by assumption) ?restib3
            case hyib3 => (intro w hSw; (try dsimp only at hSw); go_simp <;> with_reducible rfl)
            try simp only [List.getElem_toArray, List.getElem_cons_succ, List.getElem_cons_zero, Act.put, List.setIfInBounds_toArray, List.set_cons_zero, List.set_cons_succ]
            refine wpAnyH_take (i := 4) (v := ?vib4) rfl (by kernel_rfl) (by kernel_rfl) (by kernel_rfl) (fun _ _ _ h => h) (Or.inl ⟨by rfl, ?hyib4⟩) (by assumption) ?restib4
            case hyib4 => (intro w hSw; (try dsimp only at hSw); go_simp <;> with_reducible rfl)
            try simp only [List.getElem_toArray, List.getElem_cons_succ, List.getElem_cons_zero, Act.put, List.setIfInBounds_toArray, List.set_cons_zero, List.set_cons_succ]
            refine wpAnyH_take (i := 5) (v := ?vib5) rfl (by kernel_rfl) (by kernel_rfl) (by kernel_rfl) (fun _ _ _ h => h) (Or.inl ⟨by rfl, ?hyib5⟩) (by assumption) ?restib5
            case hyib5 => (intro w hSw; (try dsimp only at hSw); go_simp <;> with_reducible rfl)
            try simp only [List.getElem_toArray, List.getElem_cons_succ, List.getElem_cons_zero, Act.put, List.setIfInBounds_toArray, List.set_cons_zero, List.set_cons_succ]
            have Z1 : Hid (v1.heap[w48.heap.size]? = some zero.box) := Lib.hid Y1.out.1
            obtain ⟨z0, z1, z2, z3, z4⟩ := Lv.cells Z1.out
            obtain ⟨f0, f1, f2, f3, f4⟩ := Lv.frees Z1.out
            have Y2 := Lib.hid (Boxes.put (A := z) (n := w48.heap.size) (Nat.le_refl _) Y0.out Y1.out.2)
            refine wpAnyH_ready (rs := [7]) (by kernel_rfl) (by simp) ?_
            refine AllReadyH.cons rfl (fun K hK => ?_) AllReadyH.nil
            go_simp
            refine hK.out _ _ (Lv.cells (Y2.out.2.2.2.1)) (fun hHeld => ?_)
            clear hK K
            try simp only [List.getElem_toArray, List.getElem_cons_succ, List.getElem_cons_zero, Act.put, List.setIfInBounds_toArray, List.set_cons_zero, List.set_cons_succ]
            refine wpAnyH_take (i := 8) (v := ?vib8) rfl (by kernel_rfl) (by kernel_rfl) (by kernel_rfl) (fun _ _ _ h => h) (Or.inl ⟨by rfl, ?hyib8⟩) (by assumption) ?restib8
            case hyib8 => (intro w hSw; (try dsimp only at hSw); go_simp <;> with_reducible rfl)
            try simp only [List.getElem_toArray, List.getElem_cons_succ, List.getElem_cons_zero, Act.put, List.setIfInBounds_toArray, List.set_cons_zero, List.set_cons_succ]
            refine wpAnyH_done (by kernel_rfl) ?_ _
            go_wp2_with fail
            go_meet
            exact ⟨w48.heap.size, rfl, rfl, ⟨put5_self Z1.out _, Y2.out⟩, put5_below C1.out C0.out.size _⟩
        case rest =>
          obtain ⟨gz, rfl, rfl, hX, hB⟩ := hcut
          obtain ⟨w60, rfl⟩ : ∃ v : World, v = wc := ⟨_, rfl⟩
          have X60 := Lib.hid hX
          have B60 := Lib.hid hB
          clear hX hB
          rcases inst_ok Ha.out HRO.out with ⟨z', e, ho, hzz, he⟩ | e
          ·
            obtain ⟨rfl, rfl⟩ : z = z' ∧ q = 0 := by have := HZ.out.symm.trans e; simpa using this
            have HZO := Lib.hid ho
            have HZE := Lib.hid (he p.four p.pos)
            clear ho he e hzz
            have HTO := Lib.hid (show r.ev p.four = ⟨u0, u1, u2, u3⟩ by rw [Row4.ev, HU0.out, HU1.out, HU2.out, HU3.out])
            have HFT := Lib.hid (row_fits HRO.out p)
            rw [HTO.out] at HZE HFT
            obtain ⟨v, hv⟩ : ∃ v, ev z p.four = v := ⟨_, rfl⟩
            have HV := Lib.hid hv
            have HV2 := Lib.hid (HZE.out.symm.trans hv)
            clear hv
            go_wp2_with fail
            have Y0 := Lib.hid (Boxes.drew X60.out)
            have C0 := Lib.hid B60.out.drew
            clear X60 B60
            refine wp_region_held_drew (S := (fun w' => (w'.cell? ⟨gz, 0, none⟩ = some (.int .i64 z.c) ∧ w'.cell? ⟨gz, 1, none⟩ = some (.int .i64 z.p0) ∧ w'.cell? ⟨gz, 2, none⟩ = some (.int .i64 z.p1) ∧ w'.cell? ⟨gz, 3, none⟩ = some (.int .i64 z.p2) ∧ w'.cell? ⟨gz, 4, none⟩ = some (.int .i64 z.p3)) ∧ (w'.cell? ⟨w.heap.size, 0, none⟩ = some (.int .i64 a.c) ∧ w'.cell? ⟨w.heap.size, 1, none⟩ = some (.int .i64 a.p0) ∧ w'.cell? ⟨w.heap.size, 2, none⟩ = some (.int .i64 a.p1) ∧ w'.cell? ⟨w.heap.size, 3, none⟩ = some (.int .i64 a.p2) ∧ w'.cell? ⟨w.heap.size, 4, none⟩ = some (.int .i64 a.p3)) ∧ (w'.cell? ⟨w.heap.size + 1 + 1 + 1 + 1, 0, none⟩ = some (.int .i64 p.four.a0) ∧ w'.cell? ⟨w.heap.size + 1 + 1 + 1 + 1, 1, none⟩ = some (.int .i64 p.four.a1) ∧ w'.cell? ⟨w.heap.size + 1 + 1 + 1 + 1, 2, none⟩ = some (.int .i64 p.four.a2) ∧ w'.cell? ⟨w.heap.size + 1 + 1 + 1 + 1, 3, none⟩ = some (.int .i64 p.four.a3)) ∧ (w'.cell? ⟨w40.heap.size, 0, none⟩ = some (.int .i64 u0) ∧ w'.cell? ⟨w40.heap.size, 1, none⟩ = some (.int .i64 u1) ∧ w'.cell? ⟨w40.heap.size, 2, none⟩ = some (.int .i64 u2) ∧ w'.cell? ⟨w40.heap.size, 3, none⟩ = some (.int .i64 u3)))) (by kernel_rfl) (⟨Lv.cells (Y0.out.1), Lv.cells (Y0.out.2.2.2.2.1), Four.cells (Y0.out.2.2.2.2.2.2.2.1), Four.cells (Y0.out.2.1)⟩) (fun hHeld => ?_)
            refine wpAnyH_take (i := 0) (v := ?ve0) rfl (by kernel_rfl) (by kernel_rfl) (by kernel_rfl) (fun _ _ _ h => h) (Or.inl ⟨by rfl, ?hye0⟩) (by assumption) ?reste0
            case hye0 => (intro w hSw; (try dsimp only at hSw); go_simp <;> with_reducible rfl)
            try simp only [List.getElem_toArray, List.getElem_cons_zero, Act.put, List.setIfInBounds_toArray, List.set_cons_zero, List.set_cons_succ]
            refine wpAnyH_take (i := 1) (v := ?ve1) rfl (by kernel_rfl) (by kernel_rfl) (by kernel_rfl) (fun _ _ _ h => h) (Or.inl ⟨by rfl, ?hye1⟩) (by assumption) ?reste1
            case hye1 => (intro w hSw; (try dsimp only at hSw); go_simp <;> with_reducible rfl)
            try simp only [List.getElem_toArray, List.getElem_cons_succ, List.getElem_cons_zero, Act.put, List.setIfInBounds_toArray, List.set_cons_zero, List.set_cons_succ]
            refine wpAnyH_take (i := 3) (v := ?ve3) rfl (by kernel_rfl) (by kernel_rfl) (by kernel_rfl) (fun _ _ _ h => h) (Or.inl ⟨by rfl, ?hye3⟩) (by assumption) ?reste3
            case hye3 => (intro w hSw; (try dsimp only at hSw); go_simp <;> with_reducible rfl)
            try simp only [List.getElem_toArray, List.getElem_cons_succ, List.getElem_cons_zero, Act.put, List.setIfInBounds_toArray, List.set_cons_zero, List.set_cons_succ]
            refine wpAnyH_take (i := 4) (v := ?ve4) rfl (by kernel_rfl) (by kernel_rfl) (by kernel_rfl) (fun _ _ _ h => h) (Or.inl ⟨by rfl, ?hye4⟩) (by assumption) ?reste4
            case hye4 => (intro w hSw; (try dsimp only at hSw); go_simp <;> with_reducible rfl)
            try simp only [List.getElem_toArray, List.getElem_cons_succ, List.getElem_cons_zero, Act.put, List.setIfInBounds_toArray, List.set_cons_zero, List.set_cons_succ]
            refine wpAnyH_ready (rs := [2]) (by kernel_rfl) (by simp) ?_
            refine AllReadyH.cons rfl (fun K hK => ?_) AllReadyH.nil
            go_simp
            refine (at_ev z p.four _ HZO.out p.fits v HV.out).mono ?_
            rintro e v1 ⟨rfl, b⟩
            have Y1 := Lib.hid (Boxes.keep b Y0.out)
            have C1 := Lib.hid (thru C0.out b)
            clear b Y0 C0
            refine hK.out _ _ (⟨Lv.cells (Y1.out.1), Lv.cells (Y1.out.2.2.2.2.1), Four.cells (Y1.out.2.2.2.2.2.2.2.1), Four.cells (Y1.out.2.1)⟩) (fun hHeld => ?_)
            clear hK K
            try simp only [List.getElem_toArray, List.getElem_cons_succ, List.getElem_cons_zero, Act.put, List.setIfInBounds_toArray, List.set_cons_zero, List.set_cons_succ]
            refine wpAnyH_ready (rs := [5]) (by kernel_rfl) (by simp) ?_
            refine AllReadyH.cons rfl (fun K hK => ?_) AllReadyH.nil
            go_simp
            refine (at_ev a ⟨u0, u1, u2, u3⟩ _ Ha.out HFT.out v HV2.out).mono ?_
            rintro e v2 ⟨rfl, b⟩
            have Y2 := Lib.hid (Boxes.keep b Y1.out)
            have C2 := Lib.hid (thru C1.out b)
            clear b Y1 C1
            refine hK.out _ _ (⟨Lv.cells (Y2.out.1), Lv.cells (Y2.out.2.2.2.2.1), Four.cells (Y2.out.2.2.2.2.2.2.2.1), Four.cells (Y2.out.2.1)⟩) (fun hHeld => ?_)
            clear hK K
            try simp only [List.getElem_toArray, List.getElem_cons_succ, List.getElem_cons_zero, Act.put, List.setIfInBounds_toArray, List.set_cons_zero, List.set_cons_succ]
            refine wpAnyH_take (i := 6) (v := ?ve6) rfl (by kernel_rfl) (by kernel_rfl) (by kernel_rfl) (fun _ _ _ h => h) (Or.inl ⟨by rfl, ?hye6⟩) (by assumption) ?reste6
            case hye6 => (intro w hSw; (try dsimp only at hSw); go_simp <;> with_reducible rfl)
            try simp only [List.getElem_toArray, List.getElem_cons_succ, List.getElem_cons_zero, Act.put, List.setIfInBounds_toArray, List.set_cons_zero, List.set_cons_succ]
            refine wpAnyH_take (i := 7) (v := ?ve7) rfl (by kernel_rfl) (by kernel_rfl) (by kernel_rfl) (fun _ _ _ h => h) (Or.inl ⟨by rfl, ?hye7⟩) (by assumption) ?reste7
            case hye7 => (intro w hSw; (try dsimp only at hSw); go_simp <;> with_reducible rfl)
            try simp only [List.getElem_toArray, List.getElem_cons_succ, List.getElem_cons_zero, Act.put, List.setIfInBounds_toArray, List.set_cons_zero, List.set_cons_succ]
            refine wpAnyH_ready (rs := [8]) (by kernel_rfl) (by simp) ?_
            refine AllReadyH.cons rfl (fun K hK => ?_) AllReadyH.nil
            go_simp
            refine (works_any _).mono ?_
            rintro e v3 ⟨rfl, b⟩
            have Y3 := Lib.hid (Boxes.keep b Y2.out)
            have C3 := Lib.hid (thru C2.out b)
            clear b Y2 C2
            refine hK.out _ _ (⟨Lv.cells (Y3.out.1), Lv.cells (Y3.out.2.2.2.2.1), Four.cells (Y3.out.2.2.2.2.2.2.2.1), Four.cells (Y3.out.2.1)⟩) (fun hHeld => ?_)
            clear hK K
            try simp only [List.getElem_toArray, List.getElem_cons_succ, List.getElem_cons_zero, Act.put, List.setIfInBounds_toArray, List.set_cons_zero, List.set_cons_succ]
            refine wpAnyH_take (i := 9) (v := ?ve9) rfl (by kernel_rfl) (by kernel_rfl) (by kernel_rfl) (fun _ _ _ h => h) (Or.inl ⟨by rfl, ?hye9⟩) (by assumption) ?reste9
            case hye9 => (intro w hSw; (try dsimp only at hSw); go_simp <;> with_reducible rfl)
            try simp only [List.getElem_toArray, List.getElem_cons_succ, List.getElem_cons_zero, Act.put, List.setIfInBounds_toArray, List.set_cons_zero, List.set_cons_succ]
            refine wpAnyH_take (i := 10) (v := ?ve10) rfl (by kernel_rfl) (by kernel_rfl) (by kernel_rfl) (fun _ _ _ h => h) (Or.inl ⟨by rfl, ?hye10⟩) (by assumption) ?reste10
            case hye10 => (intro w hSw; (try dsimp only at hSw); go_simp <;> with_reducible rfl)
            try simp only [List.getElem_toArray, List.getElem_cons_succ, List.getElem_cons_zero, Act.put, List.setIfInBounds_toArray, List.set_cons_zero, List.set_cons_succ]
            refine wpAnyH_done (by kernel_rfl) ?_ _
            go_wp2_with fail
            go_ret
            exact ⟨by simp, C3.out⟩
          ·
            obtain ⟨rfl, rfl⟩ : z = zero ∧ q = 4 := by have := HZ.out.symm.trans e; simpa using this
            clear e
            go_wp2_with fail
            refine (works_any _).mono ?_
            rintro e w61 ⟨rfl, b⟩
            have X61 := Lib.hid (Boxes.keep b X60.out)
            have B61 := Lib.hid (thru B60.out b)
            clear b X60 B60
            go_wp2_with fail
            go_ret
            exact ⟨rfl, B61.out⟩

theorem law_means (a b : Lv) (r : Row4) (p : Nums) (w : World) :
    Calls Try.prog 4 #[a.val, b.val, r.val, p.val] w fun e w' => e = .returned (.bool true) ∧ Below w.heap.size w w' := by
  cases ha : a.may
  · exact means_noa a b r p w ha
  · cases hb : b.may
    · exact means_nob a b r p w ha hb
    · exact means_yes a b r p w ((may_iff a).1 ha) ((may_iff b).1 hb)
end Go.Proofs.Ytbkmnlebnjoklaa
