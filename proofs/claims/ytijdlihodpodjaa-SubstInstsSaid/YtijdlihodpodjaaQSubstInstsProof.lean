/-
  The statement on SubstInsts, for every input: the call returns true, and each argument reads behind it as before.
-/
import Derived.Test.YtijdlihodpodjaaRows
import Derived.Test.YtijdlihodpodjaaQSubInstsLaw
import Derived.Test.YtijdlihodpodjaaQTrmA
import Derived.WalkKit
import Derived.ProofKit
import Derived.OpenShut
import Derived.ChangeOld
import Derived.Below
namespace Go.Proofs.Ytijdlihodpodjaa.substInsts
open Go.ChangeShapes Go.WideShapes Go.ChangeAt Go.RowKit Lvl Trm
set_option linter.unusedVariables false

theorem own : ownKnob Try.prog.godebug = none := by kernel_rfl
theorem laidOut : laidOutB Try.prog = true := by kernel_rfl

set_option maxRecDepth 100000 in
theorem lifted (os : Os) (started : os.Started) (H : Type) (enc : TypeId × Value → H) :
    ReturnsInHanded {} Try.checked os 6 .any (Rows.substInstsSpec.pre6 enc Try.prog Try.f6 Rows.substInstsRow.domain false) (Rows.substInstsSpec.post enc Try.prog Try.f6 false true false false) := by
  refine returnsInHanded_of_change (C := Try.checked) own started (by kernel_rfl) Try.func6
    (ChangeSpec.witness6 (enc := enc) (C := Try.checked) false ⟨#[], #[.agg #[.int .u8 0, .int .i64 0, .string ⟨#[]⟩, .slice none 0 0, .slice none 0 0], .slice none 0 0, .slice none 0 0], []⟩ 8 (by kernel_rfl) (by kernel_rfl) (by kernel_rfl) (by kernel_rfl)) ?_
  intro W base args ds gs before hval0 hW hcnd _
  have hval : ∀ (j : Nat) t v, Try.f6.params[j]? = some t → args[j]? = some v → Value.okWide Try.prog W .any base t v := hval0
  have hW' := hW
  obtain ⟨p, q, hA0, hV, rfl, hfz, hnd⟩ := hW
  have hA : DataW.TrodAll enc Try.prog W 0 (fun _ => true) true Try.f6.params.toList args.toList ds p := hA0
  rw [Try.params6] at hA hval
  obtain ⟨v0, vs0, d0, ds0, p0, q0, hargs, rfl, rfl, h0, r0⟩ := trodAll_cons hA
  obtain ⟨v1, vs1, d1, ds1, p1, q1, rfl, rfl, rfl, h1, r1⟩ := trodAll_cons r0
  obtain ⟨v2, vs2, d2, ds2, p2, q2, rfl, rfl, rfl, h2, r2⟩ := trodAll_cons r1
  obtain ⟨rfl, rfl, rfl⟩ := trodAll_nil r2
  obtain rfl : args = #[v0, v1, v2] := by cases args; simp_all
  obtain ⟨rfl, rfl⟩ := trodVars_none hV
  have k0 := h0
  have lt0 : ∀ x ∈ p0, x.block < W.heap.size := by obtain ⟨m, hm⟩ := k0; exact DataW.trod_lt m _ _ _ hm
  have k1 := h1
  have lt1 : ∀ x ∈ p1, x.block < W.heap.size := by obtain ⟨m, hm⟩ := k1; exact DataW.trod_lt m _ _ _ hm
  have k2 := h2
  have lt2 : ∀ x ∈ p2, x.block < W.heap.size := by obtain ⟨m, hm⟩ := k2; exact DataW.trod_lt m _ _ _ hm
  obtain ⟨t0, e0, rfl, i0⟩ := Trm.open_arg h0
  obtain ⟨a1, len1, c1, rfl⟩ := okWide_slice Try.underlying23 (hval 1 23 v1 rfl rfl)
  obtain ⟨l1, rfl, i1⟩ := Trm.open_terms h1
  obtain ⟨a2, len2, c2, rfl⟩ := okWide_slice Try.underlying22 (hval 2 22 v2 rfl rfl)
  obtain ⟨l2, rfl, i2, g2, n2⟩ : ∃ l : List Lvl.Lv, len2 = l.length ∧ LRow W a2 l ∧ Low W.heap.size a2 l.length ∧ l.length ≤ c2 := by
    obtain ⟨fuel, hf⟩ := h2
    have hf2 := hf
    obtain ⟨lo, lc, ls, hcs, hr, hlo, _⟩ := Trm.open_levels hf
    rcases DataW.trod_slice Try.underlying22 hf2 with ⟨hc2, _⟩ | ⟨a, len, cap, elems, rest, n, _, hc2, _, _, hlc, _⟩
    · simp [Value.cells] at hcs hc2
      obtain ⟨rfl, rfl, rfl⟩ := hcs
      obtain ⟨_, q2, q3⟩ := hc2
      exact ⟨ls, rfl, hr, hlo, by simp [q2]⟩
    · simp [Value.cells] at hcs hc2
      obtain ⟨rfl, rfl, rfl⟩ := hcs
      obtain ⟨_, q2, q3⟩ := hc2
      exact ⟨ls, rfl, hr, hlo, by omega⟩
  clear hA0 hval0
  refine (law_subst_insts t0 e0 l1 a1 c1 l2 a2 c2 W i0 i1 i2 g2 n2).mono fun e W' ⟨he, bel⟩ => ?_
  subst he
  exact ⟨_, rfl, _, _, _, [], _, [], hW', trodAll_mk1 (shut_bool Try.underlying4 _), (trodAll_cons_mk (Below.trod laidOut (by kernel_rfl) (of_decide_eq_true (by kernel_rfl)) k0 bel lt0) (trodAll_cons_mk (Below.trod laidOut (by kernel_rfl) (of_decide_eq_true (by kernel_rfl)) k1 bel lt1) (trodAll_cons_mk (Below.trod laidOut (by kernel_rfl) (of_decide_eq_true (by kernel_rfl)) k2 bel lt2) trodAll_mk0))), rfl, bel.frame _, fun h => by cases h⟩

theorem over : Rows.substInstsRow.holds Try.pinned (OpenSpec.ofChange Rows.substInstsSpec) :=
  OpenClaim.holds_of_wide 6 Try.f6 rfl rfl rfl rfl rfl rfl rfl ⟨rfl, rfl, rfl, rfl, rfl⟩ rfl rfl rfl rfl rfl (by kernel_rfl) Try.func6 (by kernel_rfl)
    (of_decide_eq_true (by kernel_rfl)) (by unfold Func.isWrapper; first | (rw [if_pos (by decide +kernel)]; kernel_rfl) | (rw [if_neg (by decide +kernel)]; exact ⟨rfl, rfl⟩))
    (fun os started H enc _ => lifted os started H enc)

/-- The statement. -/
theorem proved : Rows.SubstInstsSaid := over
#print axioms proved
end Go.Proofs.Ytijdlihodpodjaa.substInsts
