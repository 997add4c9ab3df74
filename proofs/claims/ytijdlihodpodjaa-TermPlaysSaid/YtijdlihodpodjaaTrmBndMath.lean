/-
  The mathematics of TermBounds: rows of lambdas, and halves in one another.
-/
import Derived.Test.YtijdlihodpodjaaTrmPSize
import Derived.Test.YtijdlihodpodjaaTrmMake
namespace Go.Proofs.Ytijdlihodpodjaa
open Lvl Trm

namespace Trm
/-- n lambdas in one another. -/
def lam : Nat → Tm
  | 0 => tS
  | n + 1 => t2 5 tS (lam n)
/-- A term, applied to itself, so often. -/
def bt : Nat → Tm
  | 0 => tV 0
  | n + 1 => t2 4 (bt n) (bt n)
def ss : ByteArray := ⟨#[115]⟩
def pj (u : Tm) : Nat → Tm
  | 0 => u
  | n + 1 => .mk 8 0 ss [] [pj u n]

theorem node_t2 (k : Int) (hk : k = 4 ∨ k = 5 ∨ k = 6) (f x : Tm) : badMay (t2 k f x) = false := by
  unfold badMay t2 Tm.node
  rcases hk with rfl | rfl | rfl <;> simp [Tm.k, Tm.ts, Tm.ls, Tm.s, Tm.n, kids, no, ByteArray.size]
theorem node_pj (x : Tm) : badMay (.mk 8 0 ss [] [x]) = false := by
  unfold badMay Tm.node
  have h : nameOk ss = true := by decide
  simp [Tm.k, Tm.ts, Tm.ls, Tm.s, Tm.n, kids, h]
theorem left_tS (l d : Int) : tS.left badMay l d = if l - 1 < 0 ∨ d ≤ 0 then -1 else l - 1 := by
  have h : badMay tS = false := by decide
  rw [Tm.left_eq, h]
  simp [tS, Tm.ts, leftL]
theorem left_tV (l d : Int) : (tV 0).left badMay l d = if l - 1 < 0 ∨ d ≤ 0 then -1 else l - 1 := by
  have h : badMay (tV 0) = false := by decide
  rw [Tm.left_eq, h]
  simp [tV, Tm.ts, leftL]
theorem left_t2 (k : Int) (hk : k = 4 ∨ k = 5 ∨ k = 6) (f x : Tm) (l d : Int) : (t2 k f x).left badMay l d =
    if l - 1 < 0 ∨ d ≤ 0 then -1 else if f.left badMay (l - 1) (d - 1) < 0 then -1 else if x.left badMay (f.left badMay (l - 1) (d - 1)) (d - 1) < 0 then -1 else x.left badMay (f.left badMay (l - 1) (d - 1)) (d - 1) := by
  rw [Tm.left_eq, node_t2 k hk]
  simp [t2, Tm.ts, leftL]
theorem left_lam : ∀ (n : Nat) (l d : Int), 2 * n + 1 ≤ l → (lam n).left badMay l d = if (n : Int) + 1 ≤ d then l - (2 * n + 1) else -1
  | 0, l, d, hl => by
    show tS.left badMay l d = _
    rw [left_tS]
    by_cases h : d ≤ 0
    · rw [if_pos (Or.inr h), if_neg (by omega)]
    · rw [if_neg (by omega), if_pos (by omega)]; omega
  | n + 1, l, d, hl => by
    show (t2 5 tS (lam n)).left badMay l d = _
    rw [left_t2 5 (by omega)]
    by_cases h : d ≤ 0
    · rw [if_pos (Or.inr h), if_neg (by omega)]
    · rw [if_neg (by omega)]
      by_cases h2 : d - 1 ≤ 0
      · have e : tS.left badMay (l - 1) (d - 1) = -1 := by rw [left_tS, if_pos (Or.inr h2)]
        rw [e, if_pos (by omega), if_neg (by omega)]
      · have e : tS.left badMay (l - 1) (d - 1) = l - 1 - 1 := by rw [left_tS, if_neg (by omega)]
        have e2 := left_lam n (l - 1 - 1) (d - 1) (by omega)
        rw [e, if_neg (by omega), e2]
        by_cases h3 : (n : Int) + 1 ≤ d - 1
        · rw [if_pos h3, if_neg (by omega), if_pos (by omega)]; omega
        · rw [if_neg h3, if_pos (by omega), if_neg (by omega)]
theorem lam_may (n : Nat) (h : n ≤ 5000) : (lam n).may = decide ((n : Int) + 1 ≤ 4096) := by
  show decide (0 ≤ (lam n).left badMay 65536 4096) = _
  rw [left_lam n _ _ (by omega)]
  by_cases h3 : (n : Int) + 1 ≤ 4096
  · rw [if_pos h3]; simp; omega
  · rw [if_neg h3]; simp; omega

theorem bt_succ (n : Nat) : (bt (n + 1)).size = 1 + (bt n).size + (bt n).size := by
  show (t2 4 (bt n) (bt n)).size = _
  unfold t2; rw [Tm.size, sizeL, sizeL, sizeL]; omega
theorem bt_14 : (bt 14).size = 32767 := by
  have h0 : (bt 0).size = 1 := by decide
  have h1 := bt_succ 0; have h2 := bt_succ 1; have h3 := bt_succ 2; have h4 := bt_succ 3; have h5 := bt_succ 4; have h6 := bt_succ 5; have h7 := bt_succ 6
  have h8 := bt_succ 7; have h9 := bt_succ 8; have h10 := bt_succ 9; have h11 := bt_succ 10; have h12 := bt_succ 11; have h13 := bt_succ 12; have h14 := bt_succ 13
  simp only [Nat.zero_add, Nat.reduceAdd] at *
  omega
theorem bt_15 : (bt 15).size = 65535 := by
  have h : (bt 15).size = 1 + (bt 14).size + (bt 14).size := bt_succ 14
  have h2 := bt_14
  omega
theorem left_bt : ∀ (n : Nat) (l d : Int), (n : Int) + 1 ≤ d → (bt n).left badMay l d = if (bt n).size ≤ l then l - (bt n).size else -1
  | 0, l, d, hd => by
    show (tV 0).left badMay l d = _
    have hs : (bt 0).size = 1 := by decide
    rw [left_tV, hs]
    by_cases h : l - 1 < 0
    · rw [if_pos (Or.inl h), if_neg (by omega)]
    · rw [if_neg (by omega), if_pos (by omega)]
  | n + 1, l, d, hd => by
    have hs : (bt (n + 1)).size = 1 + (bt n).size + (bt n).size := by
      show (t2 4 (bt n) (bt n)).size = _
      unfold t2; rw [Tm.size, sizeL, sizeL, sizeL]; omega
    have hp := (bt n).size_pos
    show (t2 4 (bt n) (bt n)).left badMay l d = _
    rw [left_t2 4 (by omega), hs]
    by_cases h : l - 1 < 0
    · rw [if_pos (Or.inl h), if_neg (by omega)]
    · rw [if_neg (by omega), left_bt n _ _ (by omega)]
      by_cases h1 : (bt n).size ≤ l - 1
      · rw [if_pos h1, if_neg (by omega), left_bt n _ _ (by omega)]
        by_cases h2 : (bt n).size ≤ l - 1 - (bt n).size
        · rw [if_pos h2, if_neg (by omega), if_pos (by omega)]; omega
        · rw [if_neg h2, if_pos (by omega), if_neg (by omega)]
      · rw [if_neg h1, if_pos (by omega), if_neg (by omega)]
theorem left_pj (u : Tm) : ∀ (n : Nat) (l d : Int), (n : Int) < d → (n : Int) ≤ l → (pj u n).left badMay l d = u.left badMay (l - n) (d - n)
  | 0, l, d, hd, hl => by
    show u.left badMay l d = _
    rw [show l - ((0 : Nat) : Int) = l by omega, show d - ((0 : Nat) : Int) = d by omega]
  | n + 1, l, d, hd, hl => by
    show (Tm.mk 8 0 ss [] [pj u n]).left badMay l d = _
    rw [Tm.left_eq, node_pj]
    rw [if_neg (by rintro (h | h | h) <;> first | omega | cases h)]
    show leftL badMay [pj u n] (l - 1) (d - 1) = _
    have e := left_pj u n (l - 1) (d - 1) (by omega) (by omega)
    rw [leftL, leftL, e, show l - 1 - (n : Int) = l - ((n + 1 : Nat) : Int) by omega, show d - 1 - (n : Int) = d - ((n + 1 : Nat) : Int) by omega]
    have hg := u.left_ge badMay (l - ((n + 1 : Nat) : Int)) (d - ((n + 1 : Nat) : Int))
    split
    · omega
    · rfl
theorem pj_may (n : Nat) (h : n ≤ 10) : (pj (bt 15) n).may = decide (65535 + (n : Int) ≤ 65536) := by
  show decide (0 ≤ (pj (bt 15) n).left badMay 65536 4096) = _
  rw [left_pj _ n _ _ (by omega) (by omega), left_bt 15 _ _ (by omega), bt_15]
  by_cases h3 : 65535 + (n : Int) ≤ 65536
  · rw [if_pos (by omega)]; simp; omega
  · rw [if_neg (by omega)]; simp; omega
end Trm
end Go.Proofs.Ytijdlihodpodjaa
