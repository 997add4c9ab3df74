/-
  battenlaw05.ArenaCounts: the walk.
-/
import Derived.Test.YtjicdmohnfcflaaQArnWorks
import Derived.Test.YtjicdmohnfcflaaQArnVast
import Derived.Test.YtjicdmohnfcflaaQArnWithin
import Derived.Test.YtjicdmohnfcflaaQArnGet2
namespace Go.Proofs.Ytjicdmohnfcflaa
open Go.RowKit Go.Shelf Go.Maps Lvl Trm Arn

namespace Arn
noncomputable def stepL (L : List Tm) (t : Tm) : List Tm := if t.may = true then Tm.ins t L else L
noncomputable def puts (ts : List Tm) : List Tm := ts.foldl stepL []
theorem puts_take {l : List Tm} {k : Nat} (h : k < l.length) : puts (l.take (k + 1)) = stepL (puts (l.take k)) l[k] := by
  unfold puts
  rw [List.take_succ_eq_append_getElem h, List.foldl_append]
  rfl
theorem foldl_len (ts : List Tm) : ∀ L : List Tm, ((ts.foldl stepL L).length : Int) ≤ L.length + sizeL ts := by
  induction ts with
  | nil => intro L; rw [List.foldl_nil, sizeL]; omega
  | cons t r ih =>
    intro L
    rw [List.foldl_cons, sizeL]
    have h1 := ih (stepL L t)
    have h2 : ((stepL L t).length : Int) ≤ L.length + t.size := by
      unfold stepL
      split
      · exact ins_len t L
      · have := t.size_pos; omega
    omega
theorem puts_len (l : List Tm) (k : Nat) : ((puts (l.take k)).length : Int) ≤ sizeL l := by
  have h1 := foldl_len (l.take k) []
  have h2 : sizeL (l.take k) ≤ sizeL l := by
    have key : ∀ (a b : List Tm), sizeL (a ++ b) = sizeL a + sizeL b := by
      intro a b
      induction a with
      | nil => rw [List.nil_append, sizeL]; omega
      | cons x r ih => rw [List.cons_append, sizeL, sizeL, ih]; omega
    have h3 := key (l.take k) (l.drop k)
    rw [List.take_append_drop] at h3
    have := sizeL_ge (l.drop k)
    omega
  unfold puts
  simp at h1
  omega
/-- What a call has made: an arena, and a slice of terms that were there, none of its blocks. -/
structure CS (w W : World) (A : Nat) (L : List Tm) (v : Value) (ps : List (Tm × Hd)) (va : Value) (mo : Option Nat) : Prop where
  ar : Ar W A L va mo
  high : ∀ q, own A va mo q → w.heap.size ≤ q
  row : WRow w.heap.size w.heap.size W L v ps
  apart : ∀ q, v.ownBlock = some q → ¬ own A va mo q
  bel : Below w.heap.size w W
theorem CS.below {w W W' : World} {A : Nat} {L : List Tm} {v : Value} {ps : List (Tm × Hd)} {va : Value} {mo : Option Nat} (h : CS w W A L v ps va mo) (b : Below W.heap.size W W') : CS w W' A L v ps va mo :=
  ⟨h.ar.below b (Nat.le_refl _), h.high, h.row.below b, h.apart, Trm.go h.bel b⟩
theorem CS.slice {w W : World} {A : Nat} {L : List Tm} {v : Value} {ps : List (Tm × Hd)} {va : Value} {mo : Option Nat} (h : CS w W A L v ps va mo) : ∃ ao cp, v = .slice ao L.length cp := by
  rcases h.row.row.2 with ⟨hv, h0⟩ | ⟨g, cap, cur, hv, _⟩
  · exact ⟨none, 0, by rw [hv, ← h.row.len, h0]⟩
  · exact ⟨_, cap, by rw [hv, h.row.len]⟩
/-- Behind a Put the slice is as it was, of the terms from before. -/
theorem CS.put {w W W1 : World} {A : Nat} {L L' : List Tm} {v : Value} {ps : List (Tm × Hd)} {va : Value} {mo : Option Nat} (h : CS w W A L v ps va mo) (m : Moved A va mo L' W W1) :
    ∃ va' mo', Ar W1 A L' va' mo' ∧ (∀ q, own A va' mo' q → w.heap.size ≤ q) ∧ WRow w.heap.size w.heap.size W1 L v ps ∧ (∀ q, v.ownBlock = some q → ¬ own A va' mo' q) ∧ Below w.heap.size w W1 ∧ Below w.heap.size W W1 := by
  obtain ⟨v', mo', har, ho, hr⟩ := m
  have hs := h.bel.size
  have hb1 : Below w.heap.size W W1 := hr.below (fun q hq => h.high q hq) hs
  refine ⟨v', mo', har, fun q hq => ?_, h.row.ran hb1 fun q hq => hr.block q (h.row.row.lt q hq).2 (h.apart q hq), fun q hq h2 => ?_, h.bel.trans hb1, hb1⟩
  · rcases ho q hq with h1 | h1
    · exact h.high q h1
    · omega
  · rcases ho q h2 with h1 | h1
    · exact h.apart q hq h1
    · have := (h.row.row.lt q hq).2; omega
theorem CS.again {w W W1 : World} {A : Nat} {L : List Tm} {v : Value} {ps : List (Tm × Hd)} {va : Value} {mo : Option Nat} (h : CS w W A L v ps va mo) (m : Moved A va mo L W W1) : ∃ va' mo', CS w W1 A L v ps va' mo' := by
  obtain ⟨va', mo', h1, h2, h3, h4, h5, _⟩ := h.put m
  exact ⟨va', mo', ⟨h1, h2, h3, h4, h5⟩⟩
/-- .. and behind within it has the terms of the arena. -/
theorem CS.within {w W1 W2 : World} {A : Nat} {L L' : List Tm} {v v' : Value} {ps ps' : List (Tm × Hd)} {va : Value} {mo : Option Nat} (har : Ar W1 A L' va mo) (hh : ∀ q, own A va mo q → w.heap.size ≤ q) (hrow : WRow w.heap.size w.heap.size W1 L v ps) (hap : ∀ q, v.ownBlock = some q → ¬ own A va mo q) (hb : Below w.heap.size w W1)
    (hrow' : WRow w.heap.size w.heap.size W2 L' v' ps') (hv : ∀ q, v'.ownBlock = some q → v.ownBlock = some q ∨ W1.heap.size ≤ q) (hr : RanS (fun q => v.ownBlock = some q) W1 W2) : CS w W2 A L' v' ps' va mo where
  ar := har.step hr fun q hq h2 => hap q h2 hq
  high := hh
  row := hrow'
  apart q hq h2 := by
    rcases hv q hq with h1 | h1
    · exact hap q h1 h2
    · have := har.lt q h2; omega
  bel := hb.trans (ran_low hrow hr)
theorem tcells_block5 {w w' : World} {b o : Nat} {t : Tm} {h : Hd} (c : TCells w b o t h) (e : w'.heap[b]? = w.heap[b]?) : TCells w' b o t h := by
  have k : ∀ i, w'.cell? ⟨b, i, none⟩ = w.cell? ⟨b, i, none⟩ := fun i => World.cell?_of_block e
  exact ⟨(k _).trans c.c0, (k _).trans c.c1, (k _).trans c.c2, (k _).trans c.c3, (k _).trans c.c4⟩
def CRel1 (w : World) (A : Nat) (l : List Tm) (v i : Value) (wr : World) : Prop := ∃ (k : Nat) (ps : List (Tm × Hd)) (va : Value) (mo : Option Nat), i = .int .i64 k ∧ k ≤ l.length ∧ CS w wr A (puts (l.take k)) v ps va mo
def CRel2 (w : World) (A : Nat) (M : List Tm) (v : Value) (ps : List (Tm × Hd)) (i : Value) (wr : World) : Prop := ∃ (k : Nat) (va : Value) (mo : Option Nat), i = .int .i64 k ∧ k ≤ M.length ∧ CS w wr A M v ps va mo
end Arn

end Go.Proofs.Ytjicdmohnfcflaa

