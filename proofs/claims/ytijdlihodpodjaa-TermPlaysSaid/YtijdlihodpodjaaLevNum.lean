/-
  level.number and level.within.
-/
import Derived.Test.YtijdlihodpodjaaLevSeq
import Derived.Handy
namespace Go.Proofs.Ytijdlihodpodjaa
open Go.RowKit Go.Shelf Lvl

/-- The level that is n at all parameters, perhaps not one that may be. -/
def Lvl.number (n : Int) : Lv := ⟨n, -1, -1, -1, -1⟩
/-- Are all numbers of a level such as may be? -/
def Lvl.Lv.within (l : Lv) : Bool := decide (0 ≤ l.c ∧ l.c ≤ 1099511627776 ∧ (-1 ≤ l.p0 ∧ l.p0 ≤ 1099511627776) ∧ (-1 ≤ l.p1 ∧ l.p1 ≤ 1099511627776) ∧ (-1 ≤ l.p2 ∧ l.p2 ≤ 1099511627776) ∧ (-1 ≤ l.p3 ∧ l.p3 ≤ 1099511627776))


theorem Lvl.i0 (l : Lv) : ∀ w, (Instr.index 81 (.agg #[.int .i64 l.p0, .int .i64 l.p1, .int .i64 l.p2, .int .i64 l.p3]) (.int .i64 0)).run Try.prog w = .ok (.int .i64 l.p0) w := fun _ => by kernel_rfl
theorem Lvl.i1 (l : Lv) : ∀ w, (Instr.index 81 (.agg #[.int .i64 l.p0, .int .i64 l.p1, .int .i64 l.p2, .int .i64 l.p3]) (.int .i64 1)).run Try.prog w = .ok (.int .i64 l.p1) w := fun _ => by kernel_rfl
theorem Lvl.i2 (l : Lv) : ∀ w, (Instr.index 81 (.agg #[.int .i64 l.p0, .int .i64 l.p1, .int .i64 l.p2, .int .i64 l.p3]) (.int .i64 2)).run Try.prog w = .ok (.int .i64 l.p2) w := fun _ => by kernel_rfl
theorem Lvl.i3 (l : Lv) : ∀ w, (Instr.index 81 (.agg #[.int .i64 l.p0, .int .i64 l.p1, .int .i64 l.p2, .int .i64 l.p3]) (.int .i64 3)).run Try.prog w = .ok (.int .i64 l.p3) w := fun _ => by kernel_rfl

theorem Lvl.ret_bool {a b : Bool} (h : a = b) : Ending.returned (.bool a) = .returned (.bool b) := by rw [h]
theorem Lvl.below_two (w : World) (o o' : Obj) : Below w.heap.size w ((w.alloc o).alloc o') := ((Below.refl _ _).alloc (Nat.le_refl _) _).alloc (by simp) _
theorem Lvl.below_one (w : World) (o : Obj) : Below w.heap.size w (w.alloc o) := (Below.refl _ _).alloc (Nat.le_refl _) _

set_option maxRecDepth 100000 in
theorem number_any (n : Int) (w : World) :
    Calls Try.prog 123 #[.int .i64 n] w fun e w' => e = .returned (number n).val ∧ Below w.heap.size w w' := by
  unfold number Lv.val
  go_enter Try.func123, Try.ntmps123
  go_wp2
  go_rounds 5
  exact bodyPost_ret (v := .agg #[.int .i64 n, .int .i64 (-1), .int .i64 (-1), .int .i64 (-1), .int .i64 (-1)]) (by simp [results, Try.results123, go_sem]) rfl ⟨rfl, below_two _ _ _⟩

set_option maxRecDepth 100000 in
set_option maxHeartbeats 1000000 in
theorem within_any (l : Lv) (w : World) :
    Calls Try.prog 137 #[l.val] w fun e w' => e = .returned (.bool l.within) ∧ Below w.heap.size w w' := by
  have i0 := i0 l
  have i1 := i1 l
  have i2 := i2 l
  have i3 := i3 l
  by_cases hc : 0 ≤ l.c ∧ l.c ≤ 1099511627776
  · obtain ⟨hc1, hc2⟩ := hc
    unfold Lv.val
    go_enter Try.func137, Try.ntmps137
    go_wp2
    go_rounds 5
    all_goals
      go_ret
      exact ⟨ret_bool (by unfold Lv.within; simp; omega), below_one _ _⟩
  · have hc' : l.c < 0 ∨ (0 ≤ l.c ∧ 1099511627776 < l.c) := by omega
    have hf : l.within = false := by unfold Lv.within; simp; omega
    rw [hf]
    clear hf hc i0 i1 i2 i3
    rcases hc' with hc | ⟨hc0, hc⟩
    all_goals
      unfold Lv.val
      go_enter Try.func137, Try.ntmps137
      go_wp2
      go_ret
      exact ⟨rfl, below_one _ _⟩
end Go.Proofs.Ytijdlihodpodjaa
