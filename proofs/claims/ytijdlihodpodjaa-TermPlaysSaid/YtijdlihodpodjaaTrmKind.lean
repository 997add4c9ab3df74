/-
  term.kindOf.
-/
import Derived.Test.YtijdlihodpodjaaTrmName
namespace Go.Proofs.Ytijdlihodpodjaa
open Go.RowKit Go.Shelf Lvl Trm

/-- What is asked of the fields of a node. -/
structure Trm.Kd where
  least : Int
  most : Int
  named : Bool
  top : Int
  terms : Int
  binds : Bool
def Trm.Kd.vals (a : Kd) : Array Value := #[.int .i64 a.least, .int .i64 a.most, .bool a.named, .int .i64 a.top, .int .i64 a.terms, .bool a.binds]
def Trm.Kd.val (a : Kd) : Value := .agg a.vals
def Trm.Kd.box (a : Kd) : Obj := .cells a.vals 130
def Trm.kd (k : Int) : Kd :=
  if k = 1 then ⟨1, 1, false, 0, 0, false⟩ else if k = 2 then ⟨0, 0, false, 1048576, 0, false⟩ else if k = 3 then ⟨0, 4, true, 0, 0, false⟩
  else if k = 4 then ⟨0, 0, false, 0, 2, false⟩ else if k = 5 ∨ k = 6 then ⟨0, 0, false, 0, 2, true⟩ else if k = 7 then ⟨0, 0, false, 0, 3, true⟩
  else if k = 8 then ⟨0, 0, true, 11, 1, false⟩ else ⟨0, 0, false, 0, 0, false⟩
def Trm.isKind (k : Int) : Bool := decide (1 ≤ k ∧ k ≤ 8)

theorem Trm.Kd.cells {a : Kd} {b : Nat} {w : World} (h : w.heap[b]? = some a.box) :
    w.cell? ⟨b, 0, none⟩ = some (.int .i64 a.least) ∧ w.cell? ⟨b, 1, none⟩ = some (.int .i64 a.most) ∧ w.cell? ⟨b, 2, none⟩ = some (.bool a.named) ∧ w.cell? ⟨b, 3, none⟩ = some (.int .i64 a.top) ∧ w.cell? ⟨b, 4, none⟩ = some (.int .i64 a.terms) ∧ w.cell? ⟨b, 5, none⟩ = some (.bool a.binds) := by
  refine ⟨?_, ?_, ?_, ?_, ?_, ?_⟩ <;> (simp [World.cell?, h, Kd.box, Kd.vals])

set_option maxRecDepth 100000 in
set_option maxHeartbeats 2000000 in
theorem kindOf_any (k : Int) (w : World) :
    Calls Try.prog 112 #[.int .u8 k] w fun e w' => e = .returned (.tuple #[(kd k).val, .bool (isKind k)]) ∧ Below w.heap.size w w' := by
  by_cases h : k = 1 ∨ k = 2 ∨ k = 3 ∨ k = 4 ∨ k = 5 ∨ k = 6 ∨ k = 7 ∨ k = 8
  · rcases h with rfl | rfl | rfl | rfl | rfl | rfl | rfl | rfl
    all_goals
      go_enter Try.func112, Try.ntmps112
      go_wp2_with fail
      exact bodyPost_ret (v := .tuple #[(kd _).val, .bool (isKind _)]) (by simp [results, Try.results112, go_sem, kd, Kd.val, Kd.vals, isKind]; try rfl) rfl ⟨rfl, below_one _ _⟩
  · have h1 : k ≠ 1 := fun e => h (by omega)
    have h2 : k ≠ 2 := fun e => h (by omega)
    have h3 : k ≠ 3 := fun e => h (by omega)
    have h4 : k ≠ 4 := fun e => h (by omega)
    have h5 : k ≠ 5 := fun e => h (by omega)
    have h6 : k ≠ 6 := fun e => h (by omega)
    have h7 : k ≠ 7 := fun e => h (by omega)
    have h8 : k ≠ 8 := fun e => h (by omega)
    have hk : kd k = ⟨0, 0, false, 0, 0, false⟩ := by unfold kd; simp [h1, h2, h3, h4, h5, h6, h7, h8]
    have hi : isKind k = false := by unfold isKind; simp; omega
    rw [hk, hi]
    clear hk hi h
    go_enter Try.func112, Try.ntmps112
    go_wp2_with fail
    exact bodyPost_ret (v := .tuple #[(⟨0, 0, false, 0, 0, false⟩ : Kd).val, .bool false]) (by simp [results, Try.results112, go_sem, Kd.val, Kd.vals]; try rfl) rfl ⟨rfl, below_one _ _⟩
end Go.Proofs.Ytijdlihodpodjaa
