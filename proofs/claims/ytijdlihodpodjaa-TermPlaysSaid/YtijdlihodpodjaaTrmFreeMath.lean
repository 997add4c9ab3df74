/-
  The mathematics of TermFree: the free variables of a term, and of a lambda of it.
-/
import Derived.Test.YtijdlihodpodjaaTrmFree
import Derived.Test.YtijdlihodpodjaaTrmMake
namespace Go.Proofs.Ytijdlihodpodjaa
open Lvl Trm

namespace Trm
def top (l : List Int) : Int := l.foldl (fun n v => max n (v + 1)) 0
theorem fold_ge (l : List Int) : ∀ n : Int, n ≤ l.foldl (fun n v => max n (v + 1)) n ∧ ∀ v ∈ l, v < l.foldl (fun n v => max n (v + 1)) n := by
  induction l with
  | nil => intro n; exact ⟨Int.le_refl _, fun v hv => by cases hv⟩
  | cons a r ih =>
    intro n
    obtain ⟨h1, h2⟩ := ih (max n (a + 1))
    refine ⟨by simp only [List.foldl_cons]; omega, fun v hv => ?_⟩
    simp only [List.foldl_cons]
    rcases List.mem_cons.1 hv with rfl | hr
    · omega
    · exact h2 v hr
theorem fold_mem (l : List Int) : ∀ n : Int, l.foldl (fun n v => max n (v + 1)) n = n ∨ l.foldl (fun n v => max n (v + 1)) n - 1 ∈ l := by
  induction l with
  | nil => intro n; exact Or.inl rfl
  | cons a r ih =>
    intro n
    simp only [List.foldl_cons]
    rcases ih (max n (a + 1)) with h | h
    · rw [h]
      by_cases hc : a + 1 ≤ n
      · left; omega
      · right
        rw [show max n (a + 1) - 1 = a by omega]
        simp
    · exact Or.inr (List.mem_cons_of_mem _ h)
theorem top_ge (l : List Int) : 0 ≤ top l := (fold_ge l 0).1
theorem top_lt (l : List Int) : ∀ v ∈ l, v < top l := (fold_ge l 0).2
theorem top_mem (l : List Int) (h : 0 < top l) : top l - 1 ∈ l := by
  rcases fold_mem l 0 with h1 | h1
  · unfold top at h; omega
  · exact h1
theorem top_shift (l : List Int) : top ((l.filter (fun v => decide (1 ≤ v))).map (· - 1)) = max 0 (top l - 1) := by
  have hm : ∀ w, w ∈ (l.filter (fun v => decide (1 ≤ v))).map (· - 1) ↔ w + 1 ∈ l ∧ 0 ≤ w := by
    intro w
    simp only [List.mem_map, List.mem_filter, decide_eq_true_eq]
    constructor
    · rintro ⟨v, ⟨hv, h1⟩, rfl⟩
      rw [show v - 1 + 1 = v by omega]
      exact ⟨hv, by omega⟩
    · rintro ⟨hv, h1⟩
      exact ⟨w + 1, ⟨hv, by omega⟩, by omega⟩
  generalize hM : (l.filter (fun v => decide (1 ≤ v))).map (· - 1) = M at hm
  have a1 := top_ge M
  have a2 := top_ge l
  by_cases h1 : 1 < top l
  · have h2 := top_mem l (by omega)
    have h3 : top l - 2 ∈ M := (hm _).2 ⟨by rw [show top l - 2 + 1 = top l - 1 by omega]; exact h2, by omega⟩
    have h4 := top_lt M _ h3
    have h5 : 0 < top M := by omega
    have h6 := top_lt l _ ((hm _).1 (top_mem M h5)).1
    omega
  · by_cases h5 : 0 < top M
    · have h6 := top_lt l _ ((hm _).1 (top_mem M h5)).1
      have h7 := ((hm _).1 (top_mem M h5)).2
      omega
    · omega

mutual
theorem vs_bound : ∀ (t : Tm) (u d : Int), 0 ≤ u → OkMay t d → ∀ v ∈ t.vs u, 0 ≤ v ∧ v ≤ 1048576
  | .mk k n s ls ts, u, d, hu, ho, v, hv => by
    rw [Tm.vs] at hv
    rcases List.mem_append.1 hv with h | h
    · split at h
      · simp at h
        have := node_num ho.node.1
        simp only [Tm.n] at this
        omega
      · cases h
    · exact vsL_bound k ts 0 u (d + 1) hu (fun x hx => ho.down x hx) v h
theorem vsL_bound (k : Int) : ∀ (ts : List Tm) (i : Nat) (u d : Int), 0 ≤ u → (∀ x ∈ ts, OkMay x d) → ∀ v ∈ vsL k ts i u, 0 ≤ v ∧ v ≤ 1048576
  | [], i, u, d, _, _, v, hv => by rw [vsL] at hv; cases hv
  | t :: r, i, u, d, hu, ho, v, hv => by
    rw [vsL] at hv
    have hu' : 0 ≤ under k i u := by unfold under; split <;> omega
    rcases List.mem_append.1 hv with h | h
    · exact vs_bound t _ d hu' (ho t (by simp)) v h
    · exact vsL_bound k r (i + 1) _ d hu' (fun x hx => ho x (by simp [hx])) v h
end

mutual
theorem vs_shift : ∀ (t : Tm) (u : Int), t.vs (u + 1) = ((t.vs u).filter (fun v => decide (1 ≤ v))).map (· - 1)
  | .mk k n s ls ts, u => by
    rw [Tm.vs, Tm.vs, List.filter_append, List.map_append, vsL_shift k ts 0 u]
    congr 1
    by_cases hk : k = 2
    · by_cases h1 : u + 1 ≤ n
      · rw [if_pos ⟨hk, h1⟩, if_pos ⟨hk, by omega⟩]
        have : decide (1 ≤ n - u) = true := by simp; omega
        simp [this]; omega
      · rw [if_neg (fun h => h1 h.2)]
        by_cases h2 : u ≤ n
        · rw [if_pos ⟨hk, h2⟩]
          have : decide (1 ≤ n - u) = false := by simp; omega
          simp [this]
        · rw [if_neg (fun h => h2 h.2)]; rfl
    · rw [if_neg (fun h => hk h.1), if_neg (fun h => hk h.1)]; rfl
theorem vsL_shift (k : Int) : ∀ (ts : List Tm) (i : Nat) (u : Int), vsL k ts i (u + 1) = ((vsL k ts i u).filter (fun v => decide (1 ≤ v))).map (· - 1)
  | [], i, u => by rw [vsL, vsL]; rfl
  | t :: r, i, u => by
    have hu : under k i (u + 1) = under k i u + 1 := by unfold under; split <;> rfl
    rw [vsL, vsL, List.filter_append, List.map_append, hu, vs_shift t, vsL_shift k r]
end

theorem lam_vs (t : Tm) : (t2 5 tS t).vs 0 = ((t.vs 0).filter (fun v => decide (1 ≤ v))).map (· - 1) := by
  rw [← vs_shift t 0]
  unfold t2
  rw [Tm.vs, vsL, vsL, vsL]
  have h0 : under 5 0 0 = 0 := by decide
  have h1 : under 5 (0 + 1) 0 = 1 := by decide
  rw [h0, h1]
  have hs : tS.vs 0 = [] := by unfold tS; rw [Tm.vs, vsL]; rfl
  rw [hs]
  simp

/-- What TermFree asks of a term that may be, and of its lambda. -/
theorem free_facts {t : Tm} (h : t.may = true) : 0 ≤ t.free ∧ t.free ≤ 1048577 ∧ (0 < t.free → t.has (t.free - 1) = true) ∧ (∀ k : Int, 0 ≤ k → t.has (t.free + k) = false) ∧ (∀ k : Int, k < 0 → t.has k = false) := by
  have hb := vs_bound t 0 1 (by omega) (OkMay.start h)
  have hf : t.free = top (t.vs 0) := by unfold Tm.free; rw [if_pos h]; rfl
  have hh : ∀ k, t.has k = (t.vs 0).any (· == k) := fun k => by unfold Tm.has; rw [h, Bool.true_and]
  rw [hf]
  refine ⟨top_ge _, ?_, fun hp => ?_, fun k hk => ?_, fun k hk => ?_⟩
  · by_cases hp : 0 < top (t.vs 0)
    · have := (hb _ (top_mem _ hp)).2; omega
    · omega
  · rw [hh, List.any_eq_true]
    exact ⟨_, top_mem _ hp, by simp⟩
  · rw [hh, List.any_eq_false]
    intro v hv
    have := top_lt _ v hv
    simp; omega
  · rw [hh, List.any_eq_false]
    intro v hv
    have := (hb v hv).1
    simp; omega
theorem lam_facts {t : Tm} (h : t.may = true) (hu : (t2 5 tS t).may = true) : (t2 5 tS t).free = max 0 (t.free - 1) ∧ (∀ k : Int, 0 ≤ k → (t2 5 tS t).has k = t.has (k + 1)) ∧ (t2 5 tS t).count = t.count + 2 := by
  have hb := vs_bound t 0 1 (by omega) (OkMay.start h)
  have hf : t.free = top (t.vs 0) := by unfold Tm.free; rw [if_pos h]; rfl
  have hf' : (t2 5 tS t).free = top ((t2 5 tS t).vs 0) := by unfold Tm.free; rw [if_pos hu]; rfl
  refine ⟨?_, fun k hk => ?_, ?_⟩
  · rw [hf, hf', lam_vs]
    exact top_shift _
  · unfold Tm.has
    rw [h, hu, Bool.true_and, Bool.true_and, lam_vs, Bool.eq_iff_iff]
    simp only [List.any_eq_true, List.mem_map, List.mem_filter, decide_eq_true_eq, beq_iff_eq]
    constructor
    · rintro ⟨_, ⟨v, ⟨hv, h1⟩, rfl⟩, h2⟩
      exact ⟨v, hv, by omega⟩
    · rintro ⟨v, hv, rfl⟩
      exact ⟨k, ⟨k + 1, ⟨hv, by omega⟩, by omega⟩, rfl⟩
  · unfold Tm.count
    rw [if_pos h, if_pos hu]
    unfold t2 tS
    rw [Tm.size, sizeL, sizeL, sizeL, Tm.size, sizeL]
    omega
end Trm
end Go.Proofs.Ytijdlihodpodjaa
