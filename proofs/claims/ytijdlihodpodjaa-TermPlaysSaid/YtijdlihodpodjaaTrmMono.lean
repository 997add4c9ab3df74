/-
  With more nodes, and deeper, there are enough; a term that may be is not too deep to be looked at.
-/
import Derived.Test.YtijdlihodpodjaaTrmMay
import Derived.Test.YtijdlihodpodjaaTrmDeep
namespace Go.Proofs.Ytijdlihodpodjaa
open Lvl Trm

namespace Trm
mutual
/-- With more nodes, and deeper, and fewer that are bad, there are enough. -/
theorem left_mono {bad bad' : Tm → Bool} (hb : ∀ t, bad t = false → bad' t = false) : ∀ (t : Tm) (l d l' d' : Int), 0 ≤ t.left bad l d → l ≤ l' → d ≤ d' → 0 ≤ t.left bad' l' d' ∧ t.left bad l d ≤ t.left bad' l' d'
  | .mk k n s ls ts, l, d, l', d', h, hl, hd => by
    rw [Tm.left] at h
    split at h
    · omega
    · rename_i hc
      have e1 : (Tm.mk k n s ls ts).left bad l d = leftL bad ts (l - 1) (d - 1) := by rw [Tm.left, if_neg hc]
      have e2 : (Tm.mk k n s ls ts).left bad' l' d' = leftL bad' ts (l' - 1) (d' - 1) := by
        rw [Tm.left, if_neg]
        rintro (h1 | h1 | h1)
        · exact hc (Or.inl (by omega))
        · exact hc (Or.inr (Or.inl (by omega)))
        · refine hc (Or.inr (Or.inr ?_))
          cases hbt : bad (.mk k n s ls ts)
          · rw [hb _ hbt] at h1; cases h1
          · rfl
      rw [e1, e2]
      exact leftL_mono hb ts (l - 1) (d - 1) (l' - 1) (d' - 1) h (by omega) (by omega)
theorem leftL_mono {bad bad' : Tm → Bool} (hb : ∀ t, bad t = false → bad' t = false) : ∀ (ts : List Tm) (l d l' d' : Int), 0 ≤ leftL bad ts l d → l ≤ l' → d ≤ d' → 0 ≤ leftL bad' ts l' d' ∧ leftL bad ts l d ≤ leftL bad' ts l' d'
  | [], l, d, l', d', h, hl, hd => by
    have e1 : leftL bad [] l d = l := by rw [leftL]
    have e2 : leftL bad' [] l' d' = l' := by rw [leftL]
    rw [e1, e2]
    rw [e1] at h
    omega
  | t :: r, l, d, l', d', h, hl, hd => by
    rw [leftL] at h
    split at h
    · omega
    · rename_i hc
      have h1 := left_mono hb t l d l' d' (by omega) hl hd
      have e1 : leftL bad (t :: r) l d = leftL bad r (t.left bad l d) d := by rw [leftL, if_neg hc]
      have e2 : leftL bad' (t :: r) l' d' = leftL bad' r (t.left bad' l' d') d' := by rw [leftL, if_neg (by omega)]
      rw [e1, e2]
      exact leftL_mono hb r _ d _ d' h h1.2 hd
end
theorem may_left {t : Tm} : t.may = true ↔ 0 ≤ t.left badMay 65536 4096 := by
  show decide (0 ≤ t.left badMay 65536 4096) = true ↔ _
  simp
theorem node_calm {t : Tm} (h : badMay t = false) : badDeep t = false := by
  have h' : t.node = true := by simpa [badMay] using h
  unfold Tm.node at h'
  simp only [Bool.and_eq_true] at h'
  have h6 := h'.2
  unfold badDeep
  simp only [decide_eq_false_iff_not]
  split at h6
  · simp at h6; omega
  · split at h6
    · simp at h6; omega
    · simp at h6; rw [h6]; simp
theorem may_not_deep {t : Tm} (h : t.may = true) : t.deep = false := by
  have h1 := (left_mono (bad' := badDeep) (fun t => node_calm) t 65536 4096 131072 8192 (may_left.1 h) (by omega) (by omega)).1
  show decide (t.left badDeep 131072 8192 < 0) = false
  simp; omega
theorem deep_size {t : Tm} (h : t.deep = false) : t.size ≤ 131072 := by
  have h1 : 0 ≤ t.left badDeep 131072 8192 := by
    have : decide (t.left badDeep 131072 8192 < 0) = false := h
    simp at this; omega
  have := t.left_size badDeep _ _ h1
  omega
end Trm
end Go.Proofs.Ytijdlihodpodjaa
