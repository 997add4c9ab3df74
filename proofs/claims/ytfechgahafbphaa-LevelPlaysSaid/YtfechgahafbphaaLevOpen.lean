/-
  What a parameter of layer 2's laws is: a level, an array of levels, an array of numbers, as values.
-/
import Derived.Test.YtfechgahafbphaaLevAt
import Derived.WideShapes
import Derived.ProofKit
import Derived.OpenShut
namespace Go.Proofs.Ytfechgahafbphaa
open Go.RowKit Go.WideShapes Lvl

set_option maxRecDepth 100000 in
theorem Lvl.cell_int {W : World} {base : Nat} {v : Value} (h : Cell.okWide Try.prog W .any base 3 v) : ∃ z, v = .int .i64 z := by
  simp only [Cell.okWide, Try.underlying3] at h
  cases v <;> simp_all [Cell.ok]

set_option maxRecDepth 100000 in
theorem Lvl.okWide_level {W : World} {base : Nat} {v : Value} (h : Value.okWide Try.prog W .any base 44 v) : ∃ l : Lv, v = l.val := by
  simp only [Value.okWide, Try.underlying44] at h
  obtain ⟨cs, rfl, hs, ts, ht, _, hc⟩ := h
  have hts : Try.prog.cellTypes Try.prog.depth 44 = some [3, 3, 3, 3, 3] := by kernel_rfl
  have hsz : Try.prog.cellsOf 44 = 5 := by kernel_rfl
  rw [hts] at ht
  cases ht
  rw [hsz] at hs
  have key : ∀ i (hi : i < 5), ∃ z, cs[i]'(by omega) = .int .i64 z := fun i hi => by
    obtain ⟨u, hu, hw⟩ := hc i (cs[i]'(by omega)) (Array.getElem?_eq_getElem (by omega))
    have e : u = 3 := by
      have h5 : i = 0 ∨ i = 1 ∨ i = 2 ∨ i = 3 ∨ i = 4 := by omega
      rcases h5 with rfl | rfl | rfl | rfl | rfl <;> (simp at hu; exact hu.symm)
    subst e
    exact cell_int hw
  obtain ⟨z0, h0⟩ := key 0 (by omega)
  obtain ⟨z1, h1⟩ := key 1 (by omega)
  obtain ⟨z2, h2⟩ := key 2 (by omega)
  obtain ⟨z3, h3⟩ := key 3 (by omega)
  obtain ⟨z4, h4⟩ := key 4 (by omega)
  refine ⟨⟨z0, z1, z2, z3, z4⟩, ?_⟩
  unfold Lv.val
  congr 1
  refine Array.ext (by simp [hs]) fun i hi hj => ?_
  have h5 : i = 0 ∨ i = 1 ∨ i = 2 ∨ i = 3 ∨ i = 4 := by omega
  rcases h5 with rfl | rfl | rfl | rfl | rfl
  · exact h0
  · exact h1
  · exact h2
  · exact h3
  · exact h4
end Go.Proofs.Ytfechgahafbphaa
