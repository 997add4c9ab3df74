/-
  battenlaw05.within: all terms that a term is made of, and itself, behind others, each once.
-/
import Derived.Test.YtjicdmohnfcflaaQArnTree1
import Derived.Test.YtjicdmohnfcflaaQB5
import Derived.Deep.AppendLies
namespace Go.Proofs.Ytjicdmohnfcflaa
open Go.RowKit Go.Shelf Go.Maps Lvl Trm Arn

namespace Arn
theorem own_row_cells {w : World} {base n : Nat} {v : Value} {ps : List (Tm × Hd)} (hn : n = ps.length) (h : w.ownsRow base 26 5 v n (flat ps)) {i : Nat} (hi : i < ps.length) : ∃ g cap, v = .slice (some ⟨g, 0, none⟩) ps.length cap ∧ TCells w g (i * 5) ps[i].1 ps[i].2 ∧ g < w.heap.size := by
  subst hn
  rcases h.2 with ⟨_, h0⟩ | ⟨g, cap, cur, rfl, hb, hg, _⟩
  · omega
  · refine ⟨g, cap, rfl, ?_, (Array.getElem?_eq_some_iff.1 hg).1⟩
    have key : ∀ j u, j < 5 → ((ps[i].1.vals ps[i].2).toList)[j]? = some u → w.cell? ⟨g, i * 5 + j, none⟩ = some u := fun j u hj hu => by
      have h1 := h.cells (g := g) rfl (i * 5 + j) u (by rw [flat_at ps i hi j hj]; simpa using hu)
      rw [Addr.add_mid] at h1
      simpa using h1
    exact ⟨key 0 _ (by omega) rfl, key 1 _ (by omega) rfl, key 2 _ (by omega) rfl, key 3 _ (by omega) rfl, key 4 _ (by omega) rfl⟩
theorem grown_ran5 {P : Nat → Prop} {w w' : World} {row : Option Nat} (h : w.grownBy w' row) (hP : ∀ q, row = some q → P q) : RanS P w w' :=
  ⟨h.os, h.tape, h.output, h.size, fun k hk hn => h.block k hk (fun e => hn (hP k e.symm))⟩
/-- A slice of the call's own, of terms that were there when it began. -/
structure WRow (B b0 : Nat) (w : World) (L : List Tm) (v : Value) (ps : List (Tm × Hd)) : Prop where
  row : w.ownsRow b0 26 5 v ps.length (flat ps)
  map : ps.map (·.1) = L
  lie : ∀ p ∈ ps, p.1.In B w p.2
  le : B ≤ b0
  b0le : b0 ≤ w.heap.size
theorem WRow.len {B b0 : Nat} {w : World} {L : List Tm} {v : Value} {ps : List (Tm × Hd)} (h : WRow B b0 w L v ps) : ps.length = L.length := by rw [← h.map, List.length_map]
theorem WRow.ran {B b0 : Nat} {w w' : World} {L : List Tm} {v : Value} {ps : List (Tm × Hd)} (h : WRow B b0 w L v ps) (hb : Below B w w') (hv : ∀ q, v.ownBlock = some q → w'.heap[q]? = w.heap[q]?) : WRow B b0 w' L v ps :=
  ⟨ownsRow_same h.row hv, h.map, fun p hp => Tm.In.below hb _ _ (h.lie p hp), h.le, Nat.le_trans h.b0le hb.size⟩
theorem WRow.below {B b0 : Nat} {w w' : World} {L : List Tm} {v : Value} {ps : List (Tm × Hd)} (h : WRow B b0 w L v ps) (b : Below w.heap.size w w') : WRow B b0 w' L v ps :=
  h.ran (b.mono (by have := h.le; have := h.b0le; omega)) fun q hq => b.block q (h.row.lt q hq).2
/-- What within makes of a slice. -/
def WPost (B b0 : Nat) (w : World) (L : List Tm) (v : Value) (e : Ending) (w' : World) : Prop :=
  ∃ v' ps', e = .returned v' ∧ WRow B b0 w' L v' ps' ∧ (∀ q, v'.ownBlock = some q → v.ownBlock = some q ∨ w.heap.size ≤ q) ∧ RanS (fun q => v.ownBlock = some q) w w'
theorem ran_low {B b0 : Nat} {w w' : World} {L : List Tm} {v : Value} {ps : List (Tm × Hd)} (h : WRow B b0 w L v ps) (hr : RanS (fun q => v.ownBlock = some q) w w') : Below B w w' :=
  hr.below (fun q hq => by have := (h.row.lt q hq).1; have := h.le; omega) (by have := h.le; have := h.b0le; omega)
/-- Behind some of the parts. -/
def WRel (B b0 : Nat) (w : World) (o : Obj) (t : Tm) (L : List Tm) (v0 : Value) (v i : Value) (wr : World) : Prop :=
  ∃ (k : Nat) (ps : List (Tm × Hd)), i = .int .i64 k ∧ k ≤ t.ts.length ∧ WRow B b0 wr (insL (t.ts.take k) L) v ps ∧ (∀ q, v.ownBlock = some q → v0.ownBlock = some q ∨ w.heap.size < q) ∧ RanS (fun q => v0.ownBlock = some q) w wr ∧ wr.heap[w.heap.size]? = some o
/-- None of the first ones is it. -/
def WRel2 (w2 : World) (t : Tm) (ps : List (Tm × Hd)) (i : Value) (wr : World) : Prop :=
  ∃ k : Nat, i = .int .i64 k ∧ k ≤ ps.length ∧ (∀ j (h : j < ps.length), j < k → ps[j].1 ≠ t) ∧ Below w2.heap.size w2 wr
theorem vals_one5 (y : Tm) (hy : Hd) : ∀ q ∈ (y.vals hy).toList, q.oneCell' = true := fun q hq => by
  simp [Tm.vals] at hq
  rcases hq with rfl | rfl | rfl | rfl | rfl <;> rfl
theorem WPost.add {B b0 : Nat} {w wr w2 w5 : World} {L M : List Tm} {t : Tm} {h : Hd} {v u : Value} {ps pk : List (Tm × Hd)} {o : Obj} {g1 cap1 : Nat} (hrow : WRow B b0 w L v ps) (hin : t.In B w h) (hM : M = insL t.ts L) (hn : t ∉ M) (hran : RanS (fun q => v.ownBlock = some q) w wr)
    (hov : ∀ q, u.ownBlock = some q → v.ownBlock = some q ∨ w.heap.size < q) (hrw : WRow B b0 wr M u pk) (hb2 : Below wr.heap.size wr w2) (h5 : w5.ownsRow b0 26 5 (.slice (some ⟨g1, 0, none⟩) (pk.length + 1) cap1) (pk.length + 1) (flat pk ++ (t.vals h).toList))
    (g5 : (w2.alloc o).grownBy w5 u.ownBlock) (hat : u.ownBlock = some g1 ∨ g1 = w2.heap.size + 1) : WPost B b0 w (Tm.ins t L) v (.returned (.slice (some ⟨g1, 0, none⟩) (pk.length + 1) cap1)) w5 := by
  have s1 := hran.size
  have s2 := hb2.size
  have r5 : RanS (fun q => u.ownBlock = some q) wr w5 := ((RanS.of_below hb2).trans (RanS.of_below (below_one _ _))).trans (grown_ran5 g5 (fun q e => e))
  have rall := ranS_go hran r5 (fun q hq => (hov q hq).imp id (fun h => by omega))
  have hbl := ran_low hrow rall
  have hbl2 := ran_low hrw r5
  refine ⟨_, pk ++ [(t, h)], rfl, ⟨?_, ?_, ?_, hrow.le, Nat.le_trans hrow.b0le rall.size⟩, ?_, rall⟩
  · rw [List.length_append, List.length_singleton, show flat (pk ++ [(t, h)]) = flat pk ++ (t.vals h).toList by simp [flat]]
    exact h5
  · rw [List.map_append, hrw.map, ins_eq, ← hM, if_neg hn]
    rfl
  · intro p hp
    rcases List.mem_append.1 hp with hp | hp
    · exact Tm.In.below hbl2 _ _ (hrw.lie p hp)
    · simp at hp
      subst hp
      exact Tm.In.below hbl _ _ hin
  · intro q hq
    injection hq with hq
    have hq2 : g1 = q := hq
    subst hq2
    rcases hat with e | e
    · exact (hov _ e).imp id (fun h => by omega)
    · exact Or.inr (by omega)
end Arn

end Go.Proofs.Ytjicdmohnfcflaa

