/-
  Four numbers below 2^32, as a value.
-/
import Derived.Test.YtbkmnlebnjoklaaLevMeans
namespace Go.Proofs.Ytbkmnlebnjoklaa
open Go.RowKit Go.WideShapes Lvl

theorem Lvl.cell_u32 {W : World} {base : Nat} {v : Value} (h : Cell.okWide Try.prog W .any base 39 v) : ∃ z : Nat, v = .int .u32 z := by
  simp only [Cell.okWide, Try.underlying39] at h
  cases v <;> simp_all [Cell.ok]
  rename_i k n
  obtain ⟨rfl, h⟩ := h
  refine ⟨n.toNat, ?_⟩
  have h0 : 0 ≤ n := h.1
  omega

theorem Lvl.okWide_nums {W : World} {base : Nat} {v : Value} (h : Value.okWide Try.prog W .any base 40 v) : ∃ p : Nums, v = p.val := by
  simp only [Value.okWide, Try.underlying40] at h
  obtain ⟨cs, rfl, hs, ts, ht, _, hc⟩ := h
  have hts : Try.prog.cellTypes Try.prog.depth 40 = some [39, 39, 39, 39] := by kernel_rfl
  have hsz : Try.prog.cellsOf 40 = 4 := by kernel_rfl
  rw [hts] at ht
  cases ht
  rw [hsz] at hs
  have key : ∀ i (hi : i < 4), ∃ z : Nat, cs[i]'(by omega) = .int .u32 z := fun i hi => by
    obtain ⟨u, hu, hw⟩ := hc i (cs[i]'(by omega)) (Array.getElem?_eq_getElem (by omega))
    have e : u = 39 := by
      have h5 : i = 0 ∨ i = 1 ∨ i = 2 ∨ i = 3 := by omega
      rcases h5 with rfl | rfl | rfl | rfl <;> (simp at hu; exact hu.symm)
    subst e
    exact cell_u32 hw
  obtain ⟨z0, h0⟩ := key 0 (by omega)
  obtain ⟨z1, h1⟩ := key 1 (by omega)
  obtain ⟨z2, h2⟩ := key 2 (by omega)
  obtain ⟨z3, h3⟩ := key 3 (by omega)
  refine ⟨⟨z0, z1, z2, z3⟩, ?_⟩
  unfold Nums.val
  congr 1
  refine Array.ext (by simp [hs]) fun i hi hj => ?_
  have h5 : i = 0 ∨ i = 1 ∨ i = 2 ∨ i = 3 := by omega
  rcases h5 with rfl | rfl | rfl | rfl
  · exact h0
  · exact h1
  · exact h2
  · exact h3
end Go.Proofs.Ytbkmnlebnjoklaa
