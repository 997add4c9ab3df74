/-
  arena: New, Len, binds, absent, kids.
-/
import Derived.Test.YtjicdmohnfcflaaQArnMem
import Derived.Deep.RegionHeld3
namespace Go.Proofs.Ytjicdmohnfcflaa
open Go.RowKit Go.Shelf Go.Maps Lvl Trm Arn

set_option maxRecDepth 100000 in
theorem New_any (w : World) : Calls Try.prog 6 #[] w fun e w' => e = .returned (.pointer (some ⟨w.heap.size, 0, none⟩)) ∧ w' = w.alloc (.cells #[.slice none 0 0, .map none] 56) := by
  go_enter Try.func6, Try.ntmps6
  go_wp2_with fail
  go_ret
  exact ⟨rfl, rfl⟩
theorem Arn.made (w : World) : Ar (w.alloc (.cells #[.slice none 0 0, .map none] 56)) w.heap.size [] (.slice none 0 0) none where
  box := World.alloc_heap_new w _
  row := World.ownsRow_nil _ _ _ _
  map := Or.inl ⟨rfl, rfl⟩
  apart := by simp [Value.ownBlock]
  ok := OkL.nil

set_option maxRecDepth 100000 in
theorem Len_nil (w : World) : Calls Try.prog 10 #[.pointer none] w fun e w' => e = .returned (.int .i64 0) ∧ Below w.heap.size w w' := by
  go_enter Try.func10, Try.ntmps10
  go_wp2_with fail
  go_ret
  exact ⟨rfl, Below.refl _ _⟩
theorem Arn.two_cells {w : World} {b : Nat} {v0 v1 : Value} {ty : TypeId} {fr : Nat × Nat} (h : w.heap[b]? = some (.cells #[v0, v1] ty fr)) : w.cell? ⟨b, 0, none⟩ = some v0 ∧ w.cell? ⟨b, 1, none⟩ = some v1 := by
  refine ⟨?_, ?_⟩ <;> simp [World.cell?, h]
theorem Arn.two_free {w : World} {b : Nat} {v0 v1 : Value} {ty : TypeId} (h : w.heap[b]? = some (.cells #[v0, v1] ty)) : w.frozen? ⟨b, 0, none⟩ = false ∧ w.frozen? ⟨b, 1, none⟩ = false := by
  refine ⟨?_, ?_⟩ <;> simp [World.frozen?, h]
set_option maxRecDepth 100000 in
theorem Len_any {w : World} {A : Nat} {L : List Tm} {v : Value} {mo : Option Nat} (h : Ar w A L v mo) : Calls Try.prog 10 #[.pointer (some ⟨A, 0, none⟩)] w fun e w' => e = .returned (.int .i64 L.length) ∧ Below w.heap.size w w' := by
  obtain ⟨ao, cap, rfl⟩ := h.slice
  obtain ⟨c0, c1⟩ := two_cells h.box
  clear h
  go_enter Try.func10, Try.ntmps10
  go_wp2_with fail
  go_ret
  exact ⟨rfl, Below.refl _ _⟩

def Arn.bindsB (k : Int) : Bool := decide (k = 5 ∨ k = 6 ∨ k = 7)
set_option maxRecDepth 100000 in
theorem binds5_any (k : Int) (w : World) : Calls Try.prog 50 #[.int .u8 k] w fun e w' => e = .returned (.bool (bindsB k)) ∧ Below w.heap.size w w' := by
  by_cases h5 : k = 5
  · subst h5
    go_enter Try.func50, Try.ntmps50
    go_wp2_with fail
    go_ret
    exact ⟨rfl, Below.refl _ _⟩
  · by_cases h6 : k = 6
    · subst h6
      go_enter Try.func50, Try.ntmps50
      go_wp2_with fail
      go_ret
      exact ⟨rfl, Below.refl _ _⟩
    · by_cases h7 : k = 7
      · subst h7
        go_enter Try.func50, Try.ntmps50
        go_wp2_with fail
        go_ret
        exact ⟨rfl, Below.refl _ _⟩
      · rw [show bindsB k = false by unfold bindsB; simp [h5, h6, h7]]
        have d5 : (k == 5) = false := by simpa using h5
        have d6 : (k == 6) = false := by simpa using h6
        have d7 : (k == 7) = false := by simpa using h7
        clear h5 h6 h7
        go_enter Try.func50, Try.ntmps50
        go_wp2_with fail
        go_ret
        exact ⟨rfl, Below.refl _ _⟩

set_option maxRecDepth 100000 in
theorem kids_none {g o : Nat} {w : World} (c : w.cell? ⟨g, o + 24, none⟩ = some (.int .i64 0)) : Calls Try.prog 37 #[.pointer (some ⟨g, o, none⟩)] w fun e w' => e = .returned (.slice none 0 0) ∧ Below w.heap.size w w' := by
  go_enter Try.func37, Try.ntmps37
  go_wp2_with fail
  go_ret
  exact ⟨rfl, Below.refl _ _⟩
set_option maxRecDepth 100000 in
set_option maxHeartbeats 1000000 in
theorem kids_some {g o n : Nat} {w : World} (c : w.cell? ⟨g, o + 24, none⟩ = some (.int .i64 n)) (h0 : n ≠ 0) (h3 : n ≤ 3) : Calls Try.prog 37 #[.pointer (some ⟨g, o, none⟩)] w fun e w' => e = .returned (.slice (some ⟨g, o + 25, none⟩) n 3) ∧ Below w.heap.size w w' := by
  rcases (show n = 1 ∨ n = 2 ∨ n = 3 by omega) with rfl | rfl | rfl
  all_goals
    go_enter Try.func37, Try.ntmps37
    go_wp2_with fail
    go_region
    go_wp2_with fail
    go_ret
    exact ⟨rfl, (Below.refl _ _).drew⟩
theorem kidsA_any {g o n : Nat} {w : World} (c : w.cell? ⟨g, o + 24, none⟩ = some (.int .i64 n)) (h3 : n ≤ 3) :
    Calls Try.prog 37 #[.pointer (some ⟨g, o, none⟩)] w fun e w' => ∃ ao cp, e = .returned (.slice ao n cp) ∧ (0 < n → ao = some ⟨g, o + 25, none⟩) ∧ Below w.heap.size w w' := by
  by_cases h0 : n = 0
  · subst h0
    exact (kids_none c).mono fun e w' ⟨h1, h2⟩ => ⟨none, 0, h1, fun h => absurd h (by omega), h2⟩
  · exact (kids_some c h0 h3).mono fun e w' ⟨h1, h2⟩ => ⟨_, 3, h1, fun _ => rfl, h2⟩
end Go.Proofs.Ytjicdmohnfcflaa

