/-
  The walk of the statement OctetNil.
-/
import Derived.Test.YtjnafoiijcdpfaaOctWorks
namespace Go.Proofs.Ytjnafoiijcdpfaa
open Go.RowKit Oct

set_option maxRecDepth 100000 in
set_option maxHeartbeats 2000000 in
theorem law_nil (n k e : Int) (w : World) :
    Calls Try.prog 6 #[.int .u64 n, .int .i64 k, .int .i64 e] w fun e w' => e = .returned (.bool true) ∧ Below w.heap.size w w' := by
  go_enter Try.func6, Try.ntmps6
  go_wp2_with (first
    | (go_at_call 25; refine (fail_nil _ _ _).mono ?_; rintro x w' ⟨rfl, rfl⟩)
    | (go_at_call 27; refine (bad_nil _).mono ?_; rintro x w' ⟨rfl, rfl⟩)
    | (go_at_call 19; refine (number_nil _ _).mono ?_; rintro x w' ⟨rfl, rfl⟩)
    | (go_at_call 21; refine (byte_nil _).mono ?_; rintro x w' ⟨rfl, rfl⟩)
    | (go_at_call 23; refine (rname_nil _).mono ?_; rintro x w' ⟨rfl, rfl⟩)
    | (go_at_call 29; refine (left_nil _).mono ?_; rintro x w' ⟨rfl, rfl⟩)
    | (go_at_call 28; refine (at_nil _).mono ?_; rintro x w' ⟨rfl, rfl⟩)
    | (go_at_call 9; refine (works_any _).mono ?_; rintro x w1 ⟨rfl, b1⟩))
  go_ret
  exact ⟨rfl, b1⟩
end Go.Proofs.Ytjnafoiijcdpfaa
