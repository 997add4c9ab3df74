/-
  Plain mathematics of layer 2 (level): a level as five numbers, and what the package makes of it. Nothing of the program is named here.
-/
import Derived.WalkKit
namespace Go.Proofs.Ytijdlihodpodjaa
namespace Lvl

/-- A level's numbers. -/
structure Lv where
  c : Int
  p0 : Int
  p1 : Int
  p2 : Int
  p3 : Int

theorem Lv.ext_all {a b : Lv} (h : a.c = b.c) (h0 : a.p0 = b.p0) (h1 : a.p1 = b.p1) (h2 : a.p2 = b.p2) (h3 : a.p3 = b.p3) : a = b := by
  cases a; cases b; simp_all

/-- The parameters that a level has, and what is added to each. -/
def one (i n : Int) : List (Int × Int) := if n = -1 then [] else [(i, n)]
def Lv.ps (l : Lv) : List (Int × Int) := one 0 l.p0 ++ one 1 l.p1 ++ one 2 l.p2 ++ one 3 l.p3
/-- The first k of them. -/
def Lv.upto (l : Lv) : Nat → List (Int × Int)
  | 0 => []
  | 1 => one 0 l.p0
  | 2 => one 0 l.p0 ++ one 1 l.p1
  | 3 => one 0 l.p0 ++ one 1 l.p1 ++ one 2 l.p2
  | _ => l.ps
def Lv.at_ (l : Lv) : Nat → Int
  | 0 => l.p0
  | 1 => l.p1
  | 2 => l.p2
  | _ => l.p3
theorem Lv.upto_succ (l : Lv) (k : Nat) (h : k < 4) : l.upto (k + 1) = l.upto k ++ one k (l.at_ k) := by
  match k, h with
  | 0, _ => rfl
  | 1, _ => rfl
  | 2, _ => rfl
  | 3, _ => rfl
theorem Lv.upto_prefix (l : Lv) (k : Nat) : l.upto k <+: l.ps := by
  match k with
  | 0 => exact List.nil_prefix
  | 1 => exact ⟨one 1 l.p1 ++ one 2 l.p2 ++ one 3 l.p3, by simp [upto, ps]⟩
  | 2 => exact ⟨one 2 l.p2 ++ one 3 l.p3, by simp [upto, ps]⟩
  | 3 => exact ⟨one 3 l.p3, by simp [upto, ps]⟩
  | k + 4 => exact List.prefix_rfl
theorem Lv.upto_mem (l : Lv) (k : Nat) (h : k < 4) (hn : l.at_ k ≠ -1) : ((k : Int), l.at_ k) ∈ l.ps ∧ (l.upto k).length < l.ps.length ∧ l.upto (k + 1) = l.upto k ++ [((k : Int), l.at_ k)] := by
  have e := l.upto_succ k h
  rw [one, if_neg hn] at e
  have hp := l.upto_prefix (k + 1)
  rw [e] at hp
  refine ⟨hp.subset (by simp), ?_, e⟩
  have := hp.length_le
  simp at this
  omega
theorem Lv.upto_skip (l : Lv) (k : Nat) (h : k < 4) (hn : l.at_ k = -1) : l.upto (k + 1) = l.upto k := by
  rw [l.upto_succ k h, one, if_pos hn, List.append_nil]
end Lvl
end Go.Proofs.Ytijdlihodpodjaa
