/-
  What Succ, Max, Leq, Param, At are, plainly (their contracts stand in LevOps, LevLeq, LevAt); small laws of blocks.
-/
import Derived.Test.YtijdlihodpodjaaLevMay
import Derived.IntWalk
namespace Go.Proofs.Ytijdlihodpodjaa
open Go.RowKit Go.Shelf Lvl
attribute [local go_sem] Oper.semAt_some

def Lvl.succ (l : Lv) : Lv × Int := if l.may = true then ans (l.plus 1) else (zero, 1)
def Lvl.maxi (a b : Lv) : Lv × Int := if a.may = true ∧ b.may = true then ans (a.join b) else (zero, 1)

theorem Lvl.may_within {l : Lv} (h : l.may = true) : l.within = true := by
  unfold Lv.may at h; simp at h; exact h.1

theorem Lvl.below_three (w : World) (o o' o'' : Obj) : Below w.heap.size w (((w.alloc o).alloc o').alloc o'') := ((below_two w o o').alloc (by simp; omega) _)

def Lvl.eqP (a b : Lv) : Bool := a.p0 == b.p0 && a.p1 == b.p1 && a.p2 == b.p2 && a.p3 == b.p3
/-- Is a at most b? -/
def Lvl.leq (a b : Lv) : Bool := ((maxi a b).2 == 0) && (((maxi a b).1.c == b.c) && eqP (maxi a b).1 b)
def Lvl.param (i : Int) : Lv × Int := if 0 ≤ i ∧ i < 4 then ((number 0).put i 0, 0) else (zero, 1)

theorem Lvl.keepA {W : World} {k : Nat} {o : Obj} (h : W.heap[k]? = some o) (x : Obj) : (W.alloc x).heap[k]? = some o := by
  rw [Below.heap_alloc _ _ _ (Array.getElem?_eq_some_iff.1 h).1]; exact h

/-- Numbers for the parameters. -/
structure Lvl.Four where
  a0 : Int
  a1 : Int
  a2 : Int
  a3 : Int
def Lvl.Four.val (n : Four) : Value := .agg #[.int .i64 n.a0, .int .i64 n.a1, .int .i64 n.a2, .int .i64 n.a3]
def Lvl.Four.box (n : Four) : Obj := .cells #[.int .i64 n.a0, .int .i64 n.a1, .int .i64 n.a2, .int .i64 n.a3] 81
def Lvl.Four.at_ (n : Four) (i : Int) : Int := if i = 0 then n.a0 else if i = 1 then n.a1 else if i = 2 then n.a2 else n.a3
def Lvl.Four.fits (n : Four) : Bool := decide ((0 ≤ n.a0 ∧ n.a0 ≤ 2199023255552) ∧ (0 ≤ n.a1 ∧ n.a1 ≤ 2199023255552) ∧ (0 ≤ n.a2 ∧ n.a2 ≤ 2199023255552) ∧ (0 ≤ n.a3 ∧ n.a3 ≤ 2199023255552))
def Lvl.atAll (n : Four) (o : Int) (pre : List (Int × Int)) : Int := pre.foldl (fun o x => max o (n.at_ x.1 + x.2)) o
theorem Lvl.atAll_snoc (n : Four) (o : Int) (pre : List (Int × Int)) (x : Int × Int) : atAll n o (pre ++ [x]) = max (atAll n o pre) (n.at_ x.1 + x.2) := by
  unfold atAll; rw [List.foldl_append]; rfl
/-- What a level is at numbers. -/
def Lvl.Lv.num (l : Lv) (n : Four) : Int := if l.may = true then if n.fits = true then atAll n l.c l.ps else 0 else 0

theorem Lvl.j0 (l : Four) : ∀ w, (Instr.index 81 (.agg #[.int .i64 l.a0, .int .i64 l.a1, .int .i64 l.a2, .int .i64 l.a3]) (.int .i64 0)).run Try.prog w = .ok (.int .i64 l.a0) w := fun _ => by kernel_rfl
theorem Lvl.j1 (l : Four) : ∀ w, (Instr.index 81 (.agg #[.int .i64 l.a0, .int .i64 l.a1, .int .i64 l.a2, .int .i64 l.a3]) (.int .i64 1)).run Try.prog w = .ok (.int .i64 l.a1) w := fun _ => by kernel_rfl
theorem Lvl.j2 (l : Four) : ∀ w, (Instr.index 81 (.agg #[.int .i64 l.a0, .int .i64 l.a1, .int .i64 l.a2, .int .i64 l.a3]) (.int .i64 2)).run Try.prog w = .ok (.int .i64 l.a2) w := fun _ => by kernel_rfl
theorem Lvl.j3 (l : Four) : ∀ w, (Instr.index 81 (.agg #[.int .i64 l.a0, .int .i64 l.a1, .int .i64 l.a2, .int .i64 l.a3]) (.int .i64 3)).run Try.prog w = .ok (.int .i64 l.a3) w := fun _ => by kernel_rfl

theorem Lvl.Four.cells {l : Four} {b : Nat} {w : World} (h : w.heap[b]? = some l.box) :
    w.cell? ⟨b, 0, none⟩ = some (.int .i64 l.a0) ∧ w.cell? ⟨b, 1, none⟩ = some (.int .i64 l.a1) ∧ w.cell? ⟨b, 2, none⟩ = some (.int .i64 l.a2) ∧ w.cell? ⟨b, 3, none⟩ = some (.int .i64 l.a3) := by
  refine ⟨?_, ?_, ?_, ?_⟩ <;> (simp [World.cell?, h, Four.box])

theorem Lvl.set_one {W : World} {B t : Nat} {v : Value} (h : W.heap[B]? = some (.cells #[v] t)) (u : Value) : (W.setCell ⟨B, 0, none⟩ u).heap[B]? = some (.cells #[u] t) := by
  simp [World.setCell, Array.getElem?_modify, h]
theorem Lvl.one_free {W : World} {B t : Nat} {v : Value} (h : W.heap[B]? = some (.cells #[v] t)) : W.frozen? ⟨B, 0, none⟩ = false := by
  simp [World.frozen?, h]
end Go.Proofs.Ytijdlihodpodjaa
