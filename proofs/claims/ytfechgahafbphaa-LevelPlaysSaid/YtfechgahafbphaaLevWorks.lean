/-
  battenlaw02.works: the chapter's examples.
-/
import Derived.Test.YtfechgahafbphaaLevInst
import Derived.Test.YtfechgahafbphaaLevAt
namespace Go.Proofs.Ytfechgahafbphaa
open Go.RowKit Go.Shelf Lvl

theorem Lvl.below_a {w W : World} (h : Below w.heap.size w W) (o : Obj) : Below w.heap.size w (W.alloc o) := h.alloc h.size _
theorem Lvl.thru {w W w1 : World} (h : Below w.heap.size w W) (b : Below W.heap.size W w1) : Below w.heap.size w w1 := h.trans (b.mono h.size)
theorem Lvl.lt_of {W : World} {k : Nat} {o : Obj} (h : W.heap[k]? = some o) : k < W.heap.size := (Array.getElem?_eq_some_iff.1 h).1
/-- These blocks hold these objects. -/
def Lvl.Boxes : List (Nat × Obj) → World → Prop
  | [], _ => True
  | x :: r, W => W.heap[x.1]? = some x.2 ∧ Boxes r W
theorem Lvl.Boxes.keep {W w1 : World} (b : Below W.heap.size W w1) : ∀ {l : List (Nat × Obj)}, Boxes l W → Boxes l w1
  | [], _ => trivial
  | _ :: _, h => ⟨Lvl.keep b h.1, Boxes.keep b h.2⟩
theorem Lvl.Boxes.alloc {W : World} (x : Obj) : ∀ {l : List (Nat × Obj)}, Boxes l W → Boxes l (W.alloc x)
  | [], _ => trivial
  | _ :: _, h => ⟨keepA h.1 x, Boxes.alloc x h.2⟩
theorem Lvl.Boxes.add {W : World} {l : List (Nat × Obj)} (h : Boxes l W) (x : Obj) : Boxes ((W.heap.size, x) :: l) (W.alloc x) := ⟨World.alloc_heap_new W x, h.alloc x⟩
theorem Lvl.Boxes.drew {W : World} : ∀ {l : List (Nat × Obj)}, Boxes l W → Boxes l W.drew
  | [], _ => trivial
  | _ :: _, h => ⟨h.1, Boxes.drew h.2⟩
theorem Lvl.new5 (w : World) (o1 o2 o3 o4 o5 : Obj) : (((((w.alloc o1).alloc o2).alloc o3).alloc o4).alloc o5).heap[w.heap.size + 1 + 1 + 1 + 1]? = some o5 := by
  have h := World.alloc_heap_new ((((w.alloc o1).alloc o2).alloc o3).alloc o4) o5
  rwa [World.size_alloc, World.size_alloc, World.size_alloc, World.size_alloc] at h

theorem succ_at (l A : Lv) (q : Int) (h : succ l = (A, q)) (w : World) :
    Calls Try.prog 30 #[l.val] w fun e w' => e = .returned (.tuple #[A.val, .int .i64 q]) ∧ Below w.heap.size w w' := by
  have := succ_any l w; rwa [h] at this
theorem max_at (a b A : Lv) (q : Int) (h : maxi a b = (A, q)) (w : World) :
    Calls Try.prog 32 #[a.val, b.val] w fun e w' => e = .returned (.tuple #[A.val, .int .i64 q]) ∧ Below w.heap.size w w' := by
  have := max_any a b w; rwa [h] at this
theorem leq_at (a b : Lv) (r : Bool) (h : leq a b = r) (w : World) :
    Calls Try.prog 40 #[a.val, b.val] w fun e w' => e = .returned (.bool r) ∧ Below w.heap.size w w' := by
  have := leq_any a b w; rwa [h] at this
theorem may_at (a : Lv) (r : Bool) (h : a.may = r) (w : World) :
    Calls Try.prog 38 #[a.val] w fun e w' => e = .returned (.bool r) ∧ Below w.heap.size w w' := by
  have := may_any a w; rwa [h] at this
theorem num_at (a : Lv) (n : Four) (x : Int) (h : a.num n = x) (w : World) :
    Calls Try.prog 42 #[a.val, n.val] w fun e w' => e = .returned (.int .i64 x) ∧ Below w.heap.size w w' := by
  have := at_any a n w; rwa [h] at this
theorem inst_at (l : Lv) (ao : Option Addr) (cap : Nat) (ls : List Lv) (A : Lv) (q : Int) (h : inst l ls = (A, q)) (w : World) (hr : LRow w ao ls) (hn : ls.length ≤ 9000000000000000000) :
    Calls Try.prog 34 #[l.val, .slice ao ls.length cap] w fun e w' => e = .returned (.tuple #[A.val, .int .i64 q]) ∧ Below w.heap.size w w' := by
  have := inst_any l ao cap ls w hr hn; rwa [h] at this

theorem Lvl.one_row (w : World) (q : Lv) : LRow (w.alloc q.box) (some ⟨w.heap.size, 0, none⟩) [q] := by
  refine ⟨fun k hk => ?_⟩
  simp at hk
  subst hk
  exact ⟨w.heap.size, 0, rfl, by simpa [LAt] using Lv.cells (World.alloc_heap_new w q.box)⟩

theorem Lvl.eq_same (a0 a1 a2 a3 : Int) (w : World) : (Op.equalIn 9999 42 (.agg #[.int .i64 a0, .int .i64 a1, .int .i64 a2, .int .i64 a3]) (.agg #[.int .i64 a0, .int .i64 a1, .int .i64 a2, .int .i64 a3])).run Try.prog w = .ok true w := by
  refine (eq_arr 9997 _ _ _ _ _ _ _ _ w).trans ?_
  simp
theorem Lvl.one_row2 (w : World) (m : Obj) (q : Lv) : LRow ((w.alloc m).alloc q.box) (some ⟨w.heap.size + 1, 0, none⟩) [q] := by
  have h := one_row (w.alloc m) q
  rwa [World.size_alloc] at h

set_option maxRecDepth 100000 in
set_option maxHeartbeats 8000000 in
theorem works_any (w : World) :
    Calls Try.prog 29 #[] w fun e w' => e = .returned (.bool true) ∧ Below w.heap.size w w' := by
  go_enter Try.func29, Try.ntmps29
  have hsame := eq_same
  have X0 : Hid (Boxes [] w) := Lib.hid trivial
  have B0 := Lib.hid (Below.refl w.heap.size w)
  go_wp2_with fail
  refine (param0 _).mono ?_
  rintro e w1 ⟨rfl, b⟩
  have X1 := Lib.hid (Boxes.keep b X0.out)
  have B1 := Lib.hid (thru B0.out b)
  clear b X0 B0
  dsimp only [Lv.val]
  go_wp2_with fail
  refine (param1 _).mono ?_
  rintro e w2 ⟨rfl, b⟩
  have X2 := Lib.hid (Boxes.keep b (Boxes.add X1.out (Lv.box ⟨0, 0, -1, -1, -1⟩)))
  have B2 := Lib.hid (thru (below_a B1.out _) b)
  clear b X1 B1
  dsimp only [Lv.val]
  go_wp2_with fail
  refine (zero_any _).mono ?_
  rintro e w3 ⟨rfl, b⟩
  have X3 := Lib.hid (Boxes.keep b (Boxes.add X2.out (Lv.box ⟨0, -1, 0, -1, -1⟩)))
  have B3 := Lib.hid (thru (below_a B2.out _) b)
  clear b X2 B2
  dsimp only [number, Lv.val]
  go_wp2_with fail
  refine (succ_at ⟨0, -1, -1, -1, -1⟩ ⟨1, -1, -1, -1, -1⟩ 0 (by kernel_rfl) _).mono ?_
  rintro e w4 ⟨rfl, b⟩
  have X4 := Lib.hid (Boxes.keep b X3.out)
  have B4 := Lib.hid (thru B3.out b)
  clear b X3 B3
  dsimp only [Lv.val]
  go_wp2_with fail
  refine (succ_at ⟨1, -1, -1, -1, -1⟩ ⟨2, -1, -1, -1, -1⟩ 0 (by kernel_rfl) _).mono ?_
  rintro e w5 ⟨rfl, b⟩
  have X5 := Lib.hid (Boxes.keep b (Boxes.add X4.out (Lv.box ⟨1, -1, -1, -1, -1⟩)))
  have B5 := Lib.hid (thru (below_a B4.out _) b)
  clear b X4 B4
  obtain ⟨p5_0, p5_1, p5_2, p5_3, p5_4⟩ := Lv.cells (X5.out.2.2.1)
  have p5z := lt_of (X5.out.2.2.1)
  dsimp only [Lv.val]
  go_wp2_with fail
  refine (succ_at ⟨0, 0, -1, -1, -1⟩ ⟨0, 1, -1, -1, -1⟩ 0 (by kernel_rfl) _).mono ?_
  rintro e w6 ⟨rfl, b⟩
  have X6 := Lib.hid (Boxes.keep b (Boxes.add X5.out (Lv.box ⟨2, -1, -1, -1, -1⟩)))
  have B6 := Lib.hid (thru (below_a B5.out _) b)
  clear b X5 B5
  dsimp only [Lv.val]
  go_wp2_with fail
  refine (succ_at ⟨0, 1, -1, -1, -1⟩ ⟨0, 2, -1, -1, -1⟩ 0 (by kernel_rfl) _).mono ?_
  rintro e w7 ⟨rfl, b⟩
  have X7 := Lib.hid (Boxes.keep b (Boxes.add X6.out (Lv.box ⟨0, 1, -1, -1, -1⟩)))
  have B7 := Lib.hid (thru (below_a B6.out _) b)
  clear b X6 B6
  obtain ⟨two7_0, two7_1, two7_2, two7_3, two7_4⟩ := Lv.cells (X7.out.2.1)
  have two7z := lt_of (X7.out.2.1)
  dsimp only [Lv.val]
  go_wp2_with fail
  refine (max_at ⟨2, -1, -1, -1, -1⟩ ⟨0, 2, -1, -1, -1⟩ ⟨0, 2, -1, -1, -1⟩ 0 (by kernel_rfl) _).mono ?_
  rintro e w8 ⟨rfl, b⟩
  have X8 := Lib.hid (Boxes.keep b (Boxes.add X7.out (Lv.box ⟨0, 2, -1, -1, -1⟩)))
  have B8 := Lib.hid (thru (below_a B7.out _) b)
  clear b X7 B7
  obtain ⟨a8_0, a8_1, a8_2, a8_3, a8_4⟩ := Lv.cells (X8.out.2.1)
  obtain ⟨q8_0, q8_1, q8_2, q8_3, q8_4⟩ := Lv.cells (X8.out.2.2.2.2.1)
  have a8z := lt_of (X8.out.2.1)
  have q8z := lt_of (X8.out.2.2.2.2.1)
  dsimp only [Lv.val]
  go_wp2_with fail
  refine (inst_at ⟨0, 1, -1, -1, -1⟩ (some ⟨w8.heap.size + 1, 0, none⟩) 1 [⟨0, -1, 0, -1, -1⟩] ⟨0, -1, 1, -1, -1⟩ 0 (by kernel_rfl) _ (one_row2 w8 (Lv.box ⟨0, 2, -1, -1, -1⟩) ⟨0, -1, 0, -1, -1⟩) (by simp)).mono ?_
  rintro e w9 ⟨rfl, b⟩
  have X9 := Lib.hid (Boxes.keep b (Boxes.alloc (Lv.box ⟨0, -1, 0, -1, -1⟩) (Boxes.add X8.out (Lv.box ⟨0, 2, -1, -1, -1⟩))))
  have B9 := Lib.hid (thru (below_a (below_a B8.out _) _) b)
  clear b X8 B8
  obtain ⟨q9_0, q9_1, q9_2, q9_3, q9_4⟩ := Lv.cells (X9.out.2.2.2.2.2.1)
  have q9z := lt_of (X9.out.2.2.2.2.2.1)
  dsimp only [Lv.val]
  go_wp2_with fail
  refine (succ_at ⟨0, -1, 0, -1, -1⟩ ⟨0, -1, 1, -1, -1⟩ 0 (by kernel_rfl) _).mono ?_
  rintro e w10 ⟨rfl, b⟩
  have X10 := Lib.hid (Boxes.keep b (Boxes.add X9.out (Lv.box ⟨0, -1, 1, -1, -1⟩)))
  have B10 := Lib.hid (thru (below_a B9.out _) b)
  clear b X9 B9
  obtain ⟨m10_0, m10_1, m10_2, m10_3, m10_4⟩ := Lv.cells (X10.out.2.1)
  obtain ⟨b10_0, b10_1, b10_2, b10_3, b10_4⟩ := Lv.cells (X10.out.2.2.1)
  obtain ⟨n10_0, n10_1, n10_2, n10_3, n10_4⟩ := Lv.cells (X10.out.1)
  obtain ⟨one10_0, one10_1, one10_2, one10_3, one10_4⟩ := Lv.cells (X10.out.2.2.2.2.2.1)
  obtain ⟨a10_0, a10_1, a10_2, a10_3, a10_4⟩ := Lv.cells (X10.out.2.2.2.1)
  have m10z := lt_of (X10.out.2.1)
  have b10z := lt_of (X10.out.2.2.1)
  have n10z := lt_of (X10.out.1)
  have one10z := lt_of (X10.out.2.2.2.2.2.1)
  have a10z := lt_of (X10.out.2.2.2.1)
  dsimp only [Lv.val]
  go_wp2_with fail
  refine (leq_at ⟨1, -1, -1, -1, -1⟩ ⟨0, 1, -1, -1, -1⟩ true (by kernel_rfl) _).mono ?_
  rintro e w11 ⟨rfl, b⟩
  have X11 := Lib.hid (Boxes.keep b (Boxes.add X10.out (Lv.box ⟨0, -1, 1, -1, -1⟩)))
  have B11 := Lib.hid (thru (below_a B10.out _) b)
  clear b X10 B10
  obtain ⟨two11_0, two11_1, two11_2, two11_3, two11_4⟩ := Lv.cells (X11.out.2.2.2.2.2.1)
  obtain ⟨a11_0, a11_1, a11_2, a11_3, a11_4⟩ := Lv.cells (X11.out.2.2.2.2.1)
  have two11z := lt_of (X11.out.2.2.2.2.2.1)
  have a11z := lt_of (X11.out.2.2.2.2.1)
  go_wp2_with fail
  refine (leq_at ⟨2, -1, -1, -1, -1⟩ ⟨0, 1, -1, -1, -1⟩ false (by kernel_rfl) _).mono ?_
  rintro e w12 ⟨rfl, b⟩
  have X12 := Lib.hid (Boxes.keep b X11.out)
  have B12 := Lib.hid (thru B11.out b)
  clear b X11 B11
  obtain ⟨m12_0, m12_1, m12_2, m12_3, m12_4⟩ := Lv.cells (X12.out.2.2.1)
  have m12z := lt_of (X12.out.2.2.1)
  go_wp2_with fail
  refine (may_at ⟨0, 2, -1, -1, -1⟩ true (by kernel_rfl) _).mono ?_
  rintro e w13 ⟨rfl, b⟩
  have X13 := Lib.hid (Boxes.keep b X12.out)
  have B13 := Lib.hid (thru B12.out b)
  clear b X12 B12
  obtain ⟨b13_0, b13_1, b13_2, b13_3, b13_4⟩ := Lv.cells (X13.out.2.2.2.1)
  have b13z := lt_of (X13.out.2.2.2.1)
  go_wp2_with fail
  refine (num_at ⟨0, 2, -1, -1, -1⟩ ⟨5, 0, 0, 0⟩ 7 (by kernel_rfl) _).mono ?_
  rintro e w14 ⟨rfl, b⟩
  have X14 := Lib.hid (Boxes.keep b X13.out)
  have B14 := Lib.hid (thru B13.out b)
  clear b X13 B13
  go_wp2_with fail
  go_ret
  exact ⟨rfl, B14.out⟩
end Go.Proofs.Ytfechgahafbphaa
