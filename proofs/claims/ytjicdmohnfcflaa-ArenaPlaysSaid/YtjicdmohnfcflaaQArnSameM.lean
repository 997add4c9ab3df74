/-
  battenlaw05.ArenaSame: what its walk wants to know.
-/
import Derived.Test.YtjicdmohnfcflaaQArnCountsLaw
import Derived.Test.YtjicdmohnfcflaaQArnCopy
namespace Go.Proofs.Ytjicdmohnfcflaa
open Go.RowKit Go.Shelf Go.Maps Lvl Trm Arn

namespace Arn
/-- What stands in the slice of numbers for a term. -/
noncomputable def ent (M : List Tm) (t : Tm) : Int := if t.may = true then (num M t : Nat) else -1
noncomputable def entV (M : List Tm) (l : List Tm) : List Value := l.map fun t => .int .i64 (ent M t)
theorem entV_len (M l : List Tm) : (entV M l).length = l.length := by unfold entV; rw [List.length_map]
theorem entV_snoc {M l : List Tm} {k : Nat} (h : k < l.length) : entV M (l.take (k + 1)) = entV M (l.take k) ++ [.int .i64 (ent M l[k])] := by
  unfold entV
  rw [List.take_succ_eq_append_getElem h, List.map_append]
  rfl
theorem step_prefix (L : List Tm) (t : Tm) : L <+: stepL L t := by
  unfold stepL
  split
  · exact ins_prefix t L
  · exact List.prefix_refl L
theorem foldl_prefix : ∀ (ts L : List Tm), L <+: ts.foldl stepL L
  | [], L => List.prefix_refl L
  | t :: r, L => (step_prefix L t).trans (foldl_prefix r (stepL L t))
theorem puts_pre (l : List Tm) (k : Nat) : puts (l.take k) <+: puts l := by
  have h : puts l = (l.drop k).foldl stepL (puts (l.take k)) := by
    unfold puts
    rw [← List.foldl_append, List.take_append_drop]
  rw [h]
  exact foldl_prefix _ _
theorem puts_mem_at {l : List Tm} {k : Nat} (h : k < l.length) (hm : l[k].may = true) : l[k] ∈ puts (l.take (k + 1)) := by
  rw [puts_take h]
  unfold stepL
  rw [if_pos hm]
  exact ins_mem _ _
theorem puts_mem {l : List Tm} {k : Nat} (h : k < l.length) (hm : l[k].may = true) : l[k] ∈ puts l := (puts_pre l (k + 1)).subset (puts_mem_at h hm)
theorem num_puts {l : List Tm} {k : Nat} (h : k < l.length) (hm : l[k].may = true) : num (Tm.ins l[k] (puts (l.take k))) l[k] = num (puts l) l[k] := by
  have h1 := puts_mem_at h hm
  have h2 : Tm.ins l[k] (puts (l.take k)) = puts (l.take (k + 1)) := by
    rw [puts_take h]
    unfold stepL
    rw [if_pos hm]
  rw [h2]
  exact (num_prefix (puts_pre l (k + 1)) h1).symm
theorem any_deep {l : List Tm} (h : l.any Tm.deep = false) {k : Nat} (hk : k < l.length) : l[k].deep = false := by
  rw [List.any_eq_false] at h
  simpa using h _ (List.getElem_mem hk)
/-- An arena, and a slice of the call's own, of integers. -/
structure SS (w W : World) (A : Nat) (L : List Tm) (v : Value) (n : Nat) (xs : List Value) (va : Value) (mo : Option Nat) : Prop where
  ar : Ar W A L va mo
  high : ∀ q, own A va mo q → w.heap.size ≤ q
  row : W.ownsRow w.heap.size 3 1 v n xs
  apart : ∀ q, v.ownBlock = some q → ¬ own A va mo q
  bel : Below w.heap.size w W
theorem SS.below {w W W' : World} {A : Nat} {L : List Tm} {v : Value} {n : Nat} {xs : List Value} {va : Value} {mo : Option Nat} (h : SS w W A L v n xs va mo) (b : Below W.heap.size W W') : SS w W' A L v n xs va mo :=
  ⟨h.ar.below b (Nat.le_refl _), h.high, own_below5 h.row b, h.apart, Trm.go h.bel b⟩
theorem SS.slice {w W : World} {A : Nat} {L : List Tm} {v : Value} {n : Nat} {xs : List Value} {va : Value} {mo : Option Nat} (h : SS w W A L v n xs va mo) : ∃ ao cp, v = .slice ao n cp := by
  rcases h.row.2 with ⟨hv, h0⟩ | ⟨g, cap, cur, hv, _⟩
  · exact ⟨none, 0, by rw [hv, h0]⟩
  · exact ⟨_, cap, hv⟩
theorem SS.put {w W W1 : World} {A : Nat} {L L' : List Tm} {v : Value} {n : Nat} {xs : List Value} {va : Value} {mo : Option Nat} (h : SS w W A L v n xs va mo) (m : Moved A va mo L' W W1) :
    ∃ va' mo', SS w W1 A L' v n xs va' mo' ∧ Below w.heap.size W W1 := by
  obtain ⟨v', mo', har, ho, hr⟩ := m
  have hs := h.bel.size
  have hb1 : Below w.heap.size W W1 := hr.below (fun q hq => h.high q hq) hs
  refine ⟨v', mo', ⟨har, fun q hq => ?_, ownsRow_same h.row fun q hq => hr.block q (h.row.lt q hq).2 (h.apart q hq), fun q hq h2 => ?_, h.bel.trans hb1⟩, hb1⟩
  · rcases ho q hq with h1 | h1
    · exact h.high q h1
    · omega
  · rcases ho q h2 with h1 | h1
    · exact h.apart q hq h1
    · have := (h.row.lt q hq).2; omega
theorem SS.grow {w W w5 : World} {A : Nat} {L : List Tm} {v : Value} {n n' : Nat} {xs xs' : List Value} {va : Value} {mo : Option Nat} {g cap : Nat} {o : Obj} (h : SS w W A L v n xs va mo) (hrow : w5.ownsRow w.heap.size 3 1 (.slice (some ⟨g, 0, none⟩) n' cap) n' xs') (hg : (W.alloc o).grownBy w5 v.ownBlock) (hat : v.ownBlock = some g ∨ g = W.heap.size + 1) :
    SS w w5 A L (.slice (some ⟨g, 0, none⟩) n' cap) n' xs' va mo where
  ar := h.ar.same fun q hq => by
    have hl := h.ar.lt q hq
    rw [hg.block q (by rw [World.size_alloc]; omega) (fun e => h.apart q e.symm hq), (below_one W o).block q hl]
  high := h.high
  row := hrow
  apart q hq h2 := by
    injection hq with hq
    have hq2 : g = q := hq
    subst hq2
    rcases hat with e | e
    · exact h.apart g e h2
    · have := h.ar.lt g h2; omega
  bel := by
    have hs := h.bel.size
    refine Below.trans (Below.trans h.bel ((below_one W o).mono hs)) ⟨hg.os, hg.tape, hg.output, hg.size, fun q hq => hg.block q (by rw [World.size_alloc]; omega) (fun e => by have := (h.row.lt q e.symm).1; omega)⟩
/-- A cell of it. -/
theorem SS.cell {w W : World} {A : Nat} {L : List Tm} {g n cp : Nat} {xs : List Value} {va : Value} {mo : Option Nat} (h : SS w W A L (.slice (some ⟨g, 0, none⟩) n cp) n xs va mo) {j : Nat} {u : Value} (hu : xs[j]? = some u) : W.cell? ⟨g, j, none⟩ = some u ∧ g < W.heap.size := by
  obtain ⟨_, ⟨hv, h0⟩ | ⟨g', cap, cur, hv, hb, hg, hm, hmx, hs, ht⟩⟩ := h.row
  · cases hv
  · injection hv with e1 e2 e3
    injection e1 with e1
    injection e1 with e1
    subst e1
    have hgl : g < W.heap.size := (Array.getElem?_eq_some_iff.1 hg).1
    refine ⟨?_, hgl⟩
    rw [← ht, List.getElem?_take] at hu
    split at hu
    · rw [Array.getElem?_toList] at hu
      simp [World.cell?, hg, hu]
    · cases hu
end Arn
end Go.Proofs.Ytjicdmohnfcflaa

