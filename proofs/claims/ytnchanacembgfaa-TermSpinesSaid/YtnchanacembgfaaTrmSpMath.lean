/-
  The mathematics of TermSpines.
-/
import Derived.Test.YtnchanacembgfaaTrmApply
namespace Go.Proofs.Ytnchanacembgfaa
open Lvl Trm

namespace Trm
mutual
/-- With more nodes, and deeper, and fewer that are bad, there are enough. -/
theorem left_mono {bad bad' : Tm → Bool} (hb : ∀ t, bad t = false → bad' t = false) : ∀ (t : Tm) (l d l' d' : Int), 0 ≤ t.left bad l d → l ≤ l' → d ≤ d' → 0 ≤ t.left bad' l' d' ∧ t.left bad l d ≤ t.left bad' l' d'
  | .mk k n s ls ts, l, d, l', d', h, hl, hd => by
    rw [Tm.left] at h
    split at h
    · omega
    · rename_i hc
      have e1 : (Tm.mk k n s ls ts).left bad l d = leftL bad ts (l - 1) (d - 1) := by rw [Tm.left, if_neg hc]
      have e2 : (Tm.mk k n s ls ts).left bad' l' d' = leftL bad' ts (l' - 1) (d' - 1) := by
        rw [Tm.left, if_neg]
        rintro (h1 | h1 | h1)
        · exact hc (Or.inl (by omega))
        · exact hc (Or.inr (Or.inl (by omega)))
        · refine hc (Or.inr (Or.inr ?_))
          cases hbt : bad (.mk k n s ls ts)
          · rw [hb _ hbt] at h1; cases h1
          · rfl
      rw [e1, e2]
      exact leftL_mono hb ts (l - 1) (d - 1) (l' - 1) (d' - 1) h (by omega) (by omega)
theorem leftL_mono {bad bad' : Tm → Bool} (hb : ∀ t, bad t = false → bad' t = false) : ∀ (ts : List Tm) (l d l' d' : Int), 0 ≤ leftL bad ts l d → l ≤ l' → d ≤ d' → 0 ≤ leftL bad' ts l' d' ∧ leftL bad ts l d ≤ leftL bad' ts l' d'
  | [], l, d, l', d', h, hl, hd => by
    have e1 : leftL bad [] l d = l := by rw [leftL]
    have e2 : leftL bad' [] l' d' = l' := by rw [leftL]
    rw [e1, e2]
    rw [e1] at h
    omega
  | t :: r, l, d, l', d', h, hl, hd => by
    rw [leftL] at h
    split at h
    · omega
    · rename_i hc
      have h1 := left_mono hb t l d l' d' (by omega) hl hd
      have e1 : leftL bad (t :: r) l d = leftL bad r (t.left bad l d) d := by rw [leftL, if_neg hc]
      have e2 : leftL bad' (t :: r) l' d' = leftL bad' r (t.left bad' l' d') d' := by rw [leftL, if_neg (by omega)]
      rw [e1, e2]
      exact leftL_mono hb r _ d _ d' h h1.2 hd
end
theorem may_left {t : Tm} : t.may = true ↔ 0 ≤ t.left badMay 65536 4096 := by
  show decide (0 ≤ t.left badMay 65536 4096) = true ↔ _
  simp
theorem node_few {t : Tm} (h : badMay t = false) : badDeep t = false := by
  have h' : t.node = true := by simpa [badMay] using h
  unfold Tm.node at h'
  simp only [Bool.and_eq_true] at h'
  have h6 := h'.2
  unfold badDeep
  simp only [decide_eq_false_iff_not]
  split at h6
  · simp at h6; omega
  · split at h6
    · simp at h6; omega
    · simp at h6; rw [h6]; simp
theorem may_not_deep {t : Tm} (h : t.may = true) : t.deep = false := by
  have h1 := (left_mono (bad' := badDeep) (fun t => node_few) t 65536 4096 131072 8192 (may_left.1 h) (by omega) (by omega)).1
  show decide (t.left badDeep 131072 8192 < 0) = false
  simp; omega
theorem deep_size {t : Tm} (h : t.deep = false) : t.size ≤ 131072 := by
  have h1 : 0 ≤ t.left badDeep 131072 8192 := by
    have : decide (t.left badDeep 131072 8192 < 0) = false := h
    simp at this; omega
  have := t.left_size badDeep _ _ h1
  omega
theorem appl_left (f : Tm) : ∀ (r : List Tm) (l d : Int), 0 ≤ (appl f r.reverse).left badMay l d → (r.length : Int) < d ∧ ∃ l', l' ≤ l ∧ 0 ≤ f.left badMay l' (d - r.length)
  | [], l, d, h => by
    have h0 : 0 ≤ f.left badMay l d := h
    refine ⟨?_, l, by omega, by simpa using h0⟩
    rw [Tm.left_eq] at h0
    split at h0
    · omega
    · simp; omega
  | x :: r, l, d, h => by
    rw [List.reverse_cons, appl_snoc, left_t2 4 (by omega)] at h
    split at h
    · omega
    · split at h
      · omega
      · rename_i h1 h2
        obtain ⟨h3, l', h4, h5⟩ := appl_left f r (l - 1) (d - 1) (by omega)
        refine ⟨by simp; omega, l', by omega, ?_⟩
        rwa [show d - ((x :: r).length : Int) = d - 1 - r.length by simp; omega]
theorem appl_facts {f : Tm} {l : List Tm} (h : (appl f l).may = true) : l.length < 4096 ∧ f.may = true := by
  have h1 := appl_left f l.reverse 65536 4096 (by rw [List.reverse_reverse]; exact may_left.1 h)
  obtain ⟨h2, l', h3, h4⟩ := h1
  rw [List.length_reverse] at h2 h4
  exact ⟨by omega, may_left.2 (left_mono (fun t h => h) f l' _ 65536 4096 h4 h3 (by omega)).1⟩
theorem appl_app (f : Tm) (l m : List Tm) : appl f (l ++ m) = appl (appl f l) m := by simp [appl]
theorem spine_facts {f g h : Tm} {l m k : List Tm} (h1 : appl f l = appl g m) (hg : g.k ≠ 4) (h2 : f = appl h k) (hh : h.k ≠ 4) : g = h ∧ m = k ++ l :=
  appl_same hg hh (by rw [← h1, appl_app, ← h2])
end Trm
end Go.Proofs.Ytnchanacembgfaa
