/-
  Some environments that the call has made, side by side.
-/
import Derived.Test.YtiekbhlnnmnklaaGreatQB13
import Derived.Test.YtiekbhlnnmnklaaGreatQEnvAlike
namespace Go.Proofs.YtiekbhlnnmnklaaGreat
open Go.RowKit Go.Shelf Go.Maps Lvl Trm Env

namespace Env
structure EnvR where
  e : Nat
  L : List Ent
  mo : Option Nat
  v : Value
def EnvR.own (x : EnvR) : Nat → Prop := ownE x.e x.v x.mo
structure Many (w0 W : World) (P : Nat → Prop) (X : List EnvR) : Prop where
  env : ∀ x ∈ X, EnvP P w0.heap.size W x.e x.L x.mo x.v
  sep : ∀ i j (hi : i < X.length) (hj : j < X.length), i ≠ j → ∀ q, X[i].own q → ¬ X[j].own q
  base : ∀ q, P q → w0.heap.size ≤ q
  lt : ∀ q, P q → q < W.heap.size
  bel : Below w0.heap.size w0 W
theorem Many.start (w : World) : Many w w (fun _ => False) [] := ⟨fun x hx => by simp at hx, fun i j hi => by simp at hi, fun _ a => a.elim, fun _ a => a.elim, Below.refl _ _⟩
theorem Many.below {w0 W W' : World} {P : Nat → Prop} {X : List EnvR} (h : Many w0 W P X) (b : Below W.heap.size W W') : Many w0 W' P X :=
  ⟨fun x hx => (h.env x hx).below b, h.sep, h.base, fun q a => Nat.lt_of_lt_of_le (h.lt q a) b.size, Trm.go h.bel b⟩
/-- One of them is written; the others stay. -/
theorem Many.turn {w0 W W' : World} {P P' : Nat → Prop} {X : List EnvR} (h : Many w0 W P X) {i : Nat} (hi : i < X.length) {M : List Ent} {mo' : Option Nat} {v' : Value} (k : EnvP P' w0.heap.size W' X[i].e M mo' v') (s : Step P P' W W') (hran : RanS X[i].own W W') (hown : ∀ q, ownE X[i].e v' mo' q → X[i].own q ∨ W.heap.size ≤ q) : Many w0 W' P' (X.set i ⟨X[i].e, M, mo', v'⟩) := by
  have hltP : ∀ q, P' q → q < W'.heap.size := k.lt
  have hinv : ∀ j (hj : j < X.length), ∀ q, X[j].own q → q < W.heap.size := fun j hj q a => (h.env _ (List.getElem_mem hj)).env.own_lt q a
  refine ⟨fun x hx => ?_, fun a b ha hb hab q h1 h2 => ?_, fun q hq => ?_, hltP, h.bel.trans (s.ran.below h.base h.bel.size)⟩
  · obtain ⟨j, hj, rfl⟩ := List.mem_iff_getElem.1 hx
    have hj2 : j < X.length := by simpa using hj
    by_cases e : i = j
    · subst e
      rw [List.getElem_set_self]
      exact k
    · rw [List.getElem_set_ne e]
      exact (h.env _ (List.getElem_mem hj2)).other hran (fun q a => (h.env _ (List.getElem_mem hi)).own q a) (fun q a b => h.sep j i hj2 hi (Ne.symm e) q a b) s.own s.wide hltP
  · have ha2 : a < X.length := by simpa using ha
    have hb2 : b < X.length := by simpa using hb
    by_cases ea : i = a
    · subst ea
      rw [List.getElem_set_self] at h1
      rw [List.getElem_set_ne hab] at h2
      rcases hown q h1 with c | c
      · exact h.sep i b ha2 hb2 hab q c h2
      · have := hinv b hb2 q h2; omega
    · rw [List.getElem_set_ne ea] at h1
      by_cases eb : i = b
      · subst eb
        rw [List.getElem_set_self] at h2
        rcases hown q h2 with c | c
        · exact h.sep a i ha2 hb2 hab q h1 c
        · have := hinv a ha2 q h1; omega
      · rw [List.getElem_set_ne eb] at h2
        exact h.sep a b ha2 hb2 hab q h1 h2
  · rcases s.own q hq with c | c
    · exact h.base q c
    · exact Nat.le_trans h.bel.size c
/-- What Add of one of them leaves. -/
def ManyAdd (w0 : World) (P : Nat → Prop) (X : List EnvR) (i : Nat) (x : EnvR) (l : List Inf) (W : World) (y : Ending) (W' : World) : Prop :=
  y = .returned (.int .i64 (addA x.L l)) ∧ ∃ M mo' v' P', AddTo x.L l M ∧ Many w0 W' P' (X.set i ⟨x.e, M, mo', v'⟩) ∧ Step P P' W W'
theorem Many.add {w0 W : World} {P : Nat → Prop} {X : List EnvR} (h : Many w0 W P X) {i : Nat} (hi : i < X.length) (l : List Inf) (lo : Option Addr) (lc : Nat) (hr : InfFirm P W lo l) (hl : l.length ≤ 1000000) (hrs : ∀ x ∈ l, x.rules.length ≤ 1000) :
    Calls Tryz.prog 20 #[.pointer (some ⟨X[i].e, 0, none⟩), .slice lo l.length lc] W (ManyAdd w0 P X i X[i] l W) :=
  (addP_any (h.env _ (List.getElem_mem hi)) l lo lc hr hl hrs).mono fun _ _ ⟨hy, M, mo', v', P', h1, h2, h3, h4, h5, _⟩ => ⟨hy, M, mo', v', P', h1, h.turn hi h2 h3 h4 h5, h3⟩
/-- Add of one info that stands in a new block. -/
theorem Many.addOne {w0 W : World} {P : Nat → Prop} {X : List EnvR} (h : Many w0 W P X) {i : Nat} (hi : i < X.length) {x : Inf} {hx : IHd} (f : FirmI P W x hx) (hr : x.rules.length ≤ 1000) :
    Calls Tryz.prog 20 #[.pointer (some ⟨X[i].e, 0, none⟩), .slice (some ⟨W.heap.size, 0, none⟩) 1 1] (W.alloc (.cells (x.vals hx).toArray 46)) (ManyAdd w0 P X i X[i] [x] W) := by
  have hb : Below W.heap.size W (W.alloc (.cells (x.vals hx).toArray 46)) := below_one _ _
  refine ((h.below hb).add hi [x] (some ⟨W.heap.size, 0, none⟩) 1 (one_row f h.lt _) (by simp) (fun y hy => by simp at hy; subst hy; exact hr)).mono ?_
  rintro y W' ⟨hy, M, mo', v', P', h1, h2, h3⟩
  exact ⟨hy, M, mo', v', P', h1, h2, (Step.of_below hb).trans h3⟩
theorem EnvB.base {B B' : Nat} {w : World} {e : Nat} {L : List Ent} {mo : Option Nat} {v : Value} (h : EnvB B w e L mo v) (hB : B' ≤ B) : EnvB B' w e L mo v :=
  ⟨h.box, row_base h.row hB, h.map, h.info, h.firm, h.nodup, h.apart, Nat.le_trans hB h.eB, h.hgt, h.few⟩
/-- A new one. -/
theorem Many.push {w0 W W' : World} {P : Nat → Prop} {X : List EnvR} (h : Many w0 W P X) (b : Below W.heap.size W W') {e : Nat} {M : List Ent} {mo : Option Nat} {v : Value} (k : EnvB W.heap.size W' e M mo v) (hown : ∀ q, ownE e v mo q → W.heap.size ≤ q)
    (hent : ∀ p ∈ M, (∃ x ∈ X, p ∈ x.L) ∨ (W.heap.size ≤ p.1 ∧ FirmI (fun q => P q ∨ ownE e v mo q) W' p.2.1 p.2.2)) : Many w0 W' (fun q => P q ∨ ownE e v mo q) (X ++ [⟨e, M, mo, v⟩]) := by
  have hP : ∀ q, (P q ∨ ownE e v mo q) → P q ∨ W.heap.size ≤ q := fun q hq => hq.imp id (hown q)
  have hl : ∀ q, (P q ∨ ownE e v mo q) → q < W'.heap.size := fun q hq => by
    rcases hq with a | a
    · exact Nat.lt_of_lt_of_le (h.lt q a) b.size
    · exact k.own_lt q a
  have hold : ∀ j (hj : j < X.length), ∀ q, X[j].own q → q < W.heap.size := fun j hj q a => (h.env _ (List.getElem_mem hj)).env.own_lt q a
  have hran : RanS (fun _ => False) W W' := RanS.of_below b
  refine ⟨fun x hx => ?_, fun i j hi hj hij q h1 h2 => ?_, fun q hq => ?_, hl, Trm.go h.bel b⟩
  · rcases List.mem_append.1 hx with hx | hx
    · exact (h.env x hx).other hran (fun _ a => a.elim) (fun _ _ a => a) hP (fun q a => Or.inl a) hl
    · simp at hx
      subst hx
      refine ⟨k.base h.bel.size, fun q a => Or.inr a, hl, fun p hp => ?_⟩
      rcases hent p hp with ⟨x, hx, hpx⟩ | ⟨hp1, hp2⟩
      · obtain ⟨h1, h2⟩ := (h.env x hx).ent p hpx
        have hlt := ((h.env x hx).env.info p hpx).1.lt
        refine ⟨fun a => ?_, h2.turn (RanS.of_below b) hP⟩
        rcases a with a | a
        · exact h1 a
        · have := hown _ a; omega
      · refine ⟨fun a => ?_, hp2⟩
        rcases a with a | a
        · have := h.lt _ a; omega
        · exact (k.info p hp).2 a
  · rw [List.length_append, List.length_singleton] at hi hj
    by_cases e1 : i < X.length
    · rw [List.getElem_append_left e1] at h1
      by_cases e2 : j < X.length
      · rw [List.getElem_append_left e2] at h2
        exact h.sep i j e1 e2 hij q h1 h2
      · rw [List.getElem_append_right (by omega)] at h2
        simp at h2
        have := hold i e1 q h1
        have := hown q h2
        omega
    · rw [List.getElem_append_right (by omega)] at h1
      simp at h1
      by_cases e2 : j < X.length
      · rw [List.getElem_append_left e2] at h2
        have := hold j e2 q h2
        have := hown q h1
        omega
      · omega
  · rcases hP q hq with a | a
    · exact h.base q a
    · exact Nat.le_trans h.bel.size a
theorem Many.new {w0 W : World} {P : Nat → Prop} {X : List EnvR} (h : Many w0 W P X) : Many w0 (W.alloc (.cells #[.map none, .slice none 0 0] 99)) (fun q => P q ∨ ownE W.heap.size (.slice none 0 0) none q) (X ++ [⟨W.heap.size, [], none, .slice none 0 0⟩]) :=
  h.push (below_one _ _) (EnvB.start (Nat.le_refl _)) (fun q hq => by
    rcases hq with a | a | a
    · omega
    · simp [Value.ownBlock] at a
    · cases a) (fun p hp => by simp at hp)
/-- With of one of them. -/
def ManyWith (w0 : World) (P : Nat → Prop) (X : List EnvR) (x : EnvR) (l : List Inf) (W : World) (y : Ending) (W' : World) : Prop :=
  (addA x.L l ≠ 0 ∧ y = .returned (.tuple #[.pointer none, .int .i64 (addA x.L l)]) ∧ Many w0 W' P X ∧ Below W.heap.size W W') ∨
  (addA x.L l = 0 ∧ ∃ e' M mo' v' P', y = .returned (.tuple #[.pointer (some ⟨e', 0, none⟩), .int .i64 0]) ∧ Added x.L l M ∧ Many w0 W' P' (X ++ [⟨e', M, mo', v'⟩]) ∧ Below W.heap.size W W' ∧ (∀ q, P q → P' q) ∧ (∀ q, P' q → P q ∨ W.heap.size ≤ q))
theorem Many.with_ {w0 W : World} {P : Nat → Prop} {X : List EnvR} (h : Many w0 W P X) {i : Nat} (hi : i < X.length) (l : List Inf) (lo : Option Addr) (lc : Nat) (hr : InfFirm P W lo l) (hl : l.length ≤ 1000000) (hrs : ∀ x ∈ l, x.rules.length ≤ 1000) :
    Calls Tryz.prog 19 #[.pointer (some ⟨X[i].e, 0, none⟩), .slice lo l.length lc] W (ManyWith w0 P X X[i] l W) := by
  refine (withE_any (h.env _ (List.getElem_mem hi)).env l lo lc h.lt hr hl hrs).mono ?_
  rintro y W' ⟨b, ⟨f, rfl, hf⟩ | ⟨h1, h2, e', M, mo', v', rfl, h3, h4, h5, h6⟩⟩
  · have hA : addA X[i].L l = f ∧ f ≠ 0 := by
      unfold addA
      rcases hf with ⟨a, rfl⟩ | ⟨a, c, rfl⟩
      · exact ⟨if_pos a, by decide⟩
      · exact ⟨if_neg (by omega), c⟩
    exact Or.inl ⟨by rw [hA.1]; exact hA.2, by rw [hA.1], h.below b, b⟩
  · have hA : addA X[i].L l = 0 := by unfold addA; rw [if_neg (by omega), h2]
    refine Or.inr ⟨hA, e', M, mo', v', _, rfl, h3, h.push b h4 h5 (fun p hp => (h6 p hp).imp (fun a => ⟨_, List.getElem_mem hi, a⟩) id), b, fun q a => Or.inl a, fun q a => a.imp id (h5 q)⟩
end Env
end Go.Proofs.YtiekbhlnnmnklaaGreat


