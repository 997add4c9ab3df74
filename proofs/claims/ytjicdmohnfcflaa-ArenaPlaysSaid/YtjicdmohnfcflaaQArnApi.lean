/-
  arena: Put, Find, at, Size, Deep, Free.
-/
import Derived.Test.YtjicdmohnfcflaaQArnNum
import Derived.Test.YtjicdmohnfcflaaQB3
import Derived.Test.YtjicdmohnfcflaaQB7
namespace Go.Proofs.Ytjicdmohnfcflaa
open Go.RowKit Go.Shelf Go.Maps Lvl Trm Arn

set_option maxRecDepth 100000 in
theorem Put_nil (t : Tm) (h : Hd) (w : World) : Calls Try.prog 8 #[.pointer none, t.val h] w fun e w' => e = .returned (.tuple #[.int .i64 0, .int .i64 2]) ∧ Below w.heap.size w w' := by
  unfold Tm.val Tm.vals
  go_enter Try.func8, Try.ntmps8
  go_wp2_with fail
  exact bodyPost_ret (v := .tuple #[.int .i64 0, .int .i64 2]) (by simp [results, Try.results8, go_sem]) rfl ⟨rfl, below_one _ _⟩
set_option maxRecDepth 100000 in
theorem Find_nil (t : Tm) (h : Hd) (w : World) : Calls Try.prog 14 #[.pointer none, t.val h] w fun e w' => e = .returned (.tuple #[.int .i64 0, .bool false]) ∧ Below w.heap.size w w' := by
  unfold Tm.val Tm.vals
  go_enter Try.func14, Try.ntmps14
  go_wp2_with fail
  exact bodyPost_ret (v := .tuple #[.int .i64 0, .bool false]) (by simp [results, Try.results14, go_sem]) rfl ⟨rfl, below_one _ _⟩
/-- An empty node lies at an address. -/
def Arn.Zero (w : World) (b : Nat) : Prop := w.heap[b]? = some (.cells KZ 75)
set_option maxRecDepth 100000 in
theorem at_nil (n : Int) (w : World) : Calls Try.prog 33 #[.pointer none, .int .i64 n] w fun e w' => ∃ b, e = .returned (.tuple #[.pointer (some ⟨b, 0, none⟩), .int .i64 2]) ∧ Zero w' b ∧ Below w.heap.size w w' := by
  go_enter Try.func33, Try.ntmps33
  go_wp2_with fail
  exact bodyPost_ret (v := .tuple #[.pointer (some ⟨w.heap.size, 0, none⟩), .int .i64 2]) (by simp [results, Try.results33, go_sem]) rfl ⟨_, rfl, World.alloc_heap_new w _, below_one _ _⟩
set_option maxRecDepth 100000 in
theorem at_none {w : World} {A : Nat} {L : List Tm} {v : Value} {mo : Option Nat} (h : Ar w A L v mo) (n : Int) (hn : n < 0 ∨ (L.length : Int) ≤ n) : Calls Try.prog 33 #[.pointer (some ⟨A, 0, none⟩), .int .i64 n] w fun e w' => ∃ b, e = .returned (.tuple #[.pointer (some ⟨b, 0, none⟩), .int .i64 6]) ∧ Zero w' b ∧ Below w.heap.size w w' := by
  obtain ⟨ao, cap, rfl⟩ := h.slice
  obtain ⟨c0, c1⟩ := two_cells h.box
  clear h
  by_cases h0 : n < 0
  · have d0 : decide (n < 0) = true := decide_eq_true h0
    clear hn
    go_enter Try.func33, Try.ntmps33
    go_wp2_with fail
    exact bodyPost_ret (v := .tuple #[.pointer (some ⟨w.heap.size, 0, none⟩), .int .i64 6]) (by simp [results, Try.results33, go_sem]) rfl ⟨_, rfl, World.alloc_heap_new w _, below_one _ _⟩
  · have d0 : decide (n < 0) = false := decide_eq_false h0
    have d1 : decide ((L.length : Int) ≤ n) = true := decide_eq_true (by omega)
    clear hn
    go_enter Try.func33, Try.ntmps33
    go_wp2_with fail
    exact bodyPost_ret (v := .tuple #[.pointer (some ⟨w.heap.size, 0, none⟩), .int .i64 6]) (by simp [results, Try.results33, go_sem]) rfl ⟨_, rfl, World.alloc_heap_new w _, below_one _ _⟩
set_option maxRecDepth 100000 in
theorem at_some {w : World} {A : Nat} {L : List Tm} {v : Value} {mo : Option Nat} (h : Ar w A L v mo) {i : Nat} (hi : i < L.length) : Calls Try.prog 33 #[.pointer (some ⟨A, 0, none⟩), .int .i64 i] w fun e w' => ∃ g, e = .returned (.tuple #[.pointer (some ⟨g, i * 31, none⟩), .int .i64 0]) ∧ own A v mo g ∧ (∀ j x, (nodeT L L[i])[j]? = some x → w.cell? ⟨g, i * 31 + j, none⟩ = some x) ∧ g < w.heap.size ∧ Below w.heap.size w w' := by
  obtain ⟨g, cap, rfl, hg, hown, hcell⟩ := h.node hi
  obtain ⟨c0, c1⟩ := two_cells h.box
  have HC := Lib.hid hcell
  have HO := Lib.hid hown
  have d0 : decide ((i : Int) < 0) = false := decide_eq_false (by omega)
  have d1 : decide ((L.length : Int) ≤ (i : Int)) = false := decide_eq_false (by omega)
  clear h hcell hown
  go_enter Try.func33, Try.ntmps33
  go_wp2_with fail
  exact bodyPost_ret (v := .tuple #[.pointer (some ⟨g, i * 31, none⟩), .int .i64 0]) (by simp [results, Try.results33, go_sem]) rfl ⟨g, rfl, HO.out, HC.out, hg, Below.refl _ _⟩
end Go.Proofs.Ytjicdmohnfcflaa

