/-
  An arena lies in the world: its two cells, the row of its nodes, its map; and terms that lie there whatever is written into its blocks.
-/
import Derived.Test.YtjicdmohnfcflaaQArnKey
import Derived.Test.YtjicdmohnfcflaaQB4
namespace Go.Proofs.Ytjicdmohnfcflaa
open Go.RowKit Go.Shelf Go.Maps Lvl Trm
namespace Arn
/-- The blocks of an arena. -/
def own (A : Nat) (v : Value) (mo : Option Nat) (q : Nat) : Prop := q = A ∨ v.ownBlock = some q ∨ mo = some q
/-- In w block A is an arena with these terms, but for its map; v: the slice of its nodes; mo: the block of its map. -/
structure ArB (w : World) (A : Nat) (L : List Tm) (v : Value) (mo : Option Nat) : Prop where
  box : w.heap[A]? = some (.cells #[v, .map mo] 56)
  row : w.ownsRow 0 75 31 v L.length (L.flatMap (nodeT L))
  apart : v.ownBlock ≠ some A
  ok : OkL L
/-- What its map holds. -/
def MapOf (w : World) (L : List Tm) (mo : Option Nat) : Prop := (mo = none ∧ L = []) ∨ ∃ m D, mo = some m ∧ w.ownsMap Try.prog 73 (plainElem Try.prog 3) m L.length D ∧ Tied D (L.map (kl L))
/-- An arena. -/
structure Ar (w : World) (A : Nat) (L : List Tm) (v : Value) (mo : Option Nat) : Prop extends ArB w A L v mo where
  map : MapOf w L mo
theorem Ar.lt {w : World} {A : Nat} {L : List Tm} {v : Value} {mo : Option Nat} (h : Ar w A L v mo) : ∀ q, own A v mo q → q < w.heap.size := by
  rintro q (rfl | hq | hq)
  · exact (Array.getElem?_eq_some_iff.1 h.box).1
  · exact (h.row.lt q hq).2
  · rcases h.map with ⟨hm, _⟩ | ⟨m, D, hm, hown, _⟩
    · rw [hm] at hq; cases hq
    · rw [hm] at hq; injection hq with e; subst e; exact hown.lt
theorem ownsRow_same {w w' : World} {base : Nat} {e : TypeId} {size : Nat} {v : Value} {n : Nat} {xs : List Value} (h : w.ownsRow base e size v n xs) (hb : ∀ q, v.ownBlock = some q → w'.heap[q]? = w.heap[q]?) : w'.ownsRow base e size v n xs := by
  refine ⟨h.1, ?_⟩
  rcases h.2 with hn | ⟨g, cap, cur, rfl, hbg, hgg, rest⟩
  · exact .inl hn
  · exact .inr ⟨g, cap, cur, rfl, hbg, (hb g rfl).trans hgg, rest⟩
theorem ownsMap_same {w w' : World} {k : TypeId} {R : Value → Option (DataW Unit × List MemPlace)} {b n : Nat} {D : DataW Unit} (h : w.ownsMap Try.prog k R b n D) (hb : w'.heap[b]? = w.heap[b]?) : w'.ownsMap Try.prog k R b n D := by
  obtain ⟨es, clock, h1, h2⟩ := h
  exact ⟨es, clock, hb.trans h1, h2⟩
/-- Another world, in which its blocks are as they were. -/
theorem Ar.same {w w' : World} {A : Nat} {L : List Tm} {v : Value} {mo : Option Nat} (h : Ar w A L v mo) (hb : ∀ q, own A v mo q → w'.heap[q]? = w.heap[q]?) : Ar w' A L v mo where
  box := (hb A (Or.inl rfl)).trans h.box
  row := ownsRow_same h.row fun q hq => hb q (Or.inr (Or.inl hq))
  map := h.map.imp id fun ⟨m, D, hm, hown, ht⟩ => ⟨m, D, hm, ownsMap_same hown (hb m (Or.inr (Or.inr hm))), ht⟩
  apart := h.apart
  ok := h.ok
theorem Ar.step {P : Nat → Prop} {w w' : World} {A : Nat} {L : List Tm} {v : Value} {mo : Option Nat} (h : Ar w A L v mo) (hr : RanS P w w') (hP : ∀ q, own A v mo q → ¬ P q) : Ar w' A L v mo :=
  h.same fun q hq => hr.block q (h.lt q hq) (hP q hq)
theorem Ar.below {B : Nat} {w w' : World} {A : Nat} {L : List Tm} {v : Value} {mo : Option Nat} (h : Ar w A L v mo) (hr : Below B w w') (hB : w.heap.size ≤ B) : Ar w' A L v mo :=
  h.same fun q hq => hr.block q (Nat.lt_of_lt_of_le (h.lt q hq) hB)
theorem Ar.alloc {w : World} {A : Nat} {L : List Tm} {v : Value} {mo : Option Nat} (h : Ar w A L v mo) (o : Obj) : Ar (w.alloc o) A L v mo := h.below (below_one _ _) (Nat.le_refl _)

theorem ArB.same {w w' : World} {A : Nat} {L : List Tm} {v : Value} {mo : Option Nat} (h : ArB w A L v mo) (hA : w'.heap[A]? = w.heap[A]?) (hb : ∀ q, v.ownBlock = some q → w'.heap[q]? = w.heap[q]?) : ArB w' A L v mo := ⟨hA.trans h.box, ownsRow_same h.row hb, h.apart, h.ok⟩
theorem ArB.below {B : Nat} {w w' : World} {A : Nat} {L : List Tm} {v : Value} {mo : Option Nat} (h : ArB w A L v mo) (hr : Below B w w') (hB : w.heap.size ≤ B) : ArB w' A L v mo :=
  h.same (hr.block A (Nat.lt_of_lt_of_le (Array.getElem?_eq_some_iff.1 h.box).1 hB)) fun q hq => hr.block q (Nat.lt_of_lt_of_le (h.row.lt q hq).2 hB)
theorem flat_get {α β : Type} {f : α → List β} {n : Nat} (hf : ∀ x, (f x).length = n) : ∀ (L : List α) (i j : Nat) (h : i < L.length), j < n → (L.flatMap f)[i * n + j]? = (f L[i])[j]?
  | x :: r, 0, j, _, hj => by
    simp only [List.flatMap_cons, Nat.zero_mul, Nat.zero_add, List.getElem_cons_zero]
    rw [List.getElem?_append_left (by rw [hf]; exact hj)]
  | x :: r, i + 1, j, h, hj => by
    simp only [List.flatMap_cons, List.getElem_cons_succ]
    rw [List.getElem?_append_right (by rw [hf]; rw [Nat.add_mul]; omega), hf, show (i + 1) * n + j - n = i * n + j by rw [Nat.add_mul]; omega]
    exact flat_get hf r i j (by simpa using h) hj
/-- A node's cells. -/
theorem ArB.node {w : World} {A : Nat} {L : List Tm} {v : Value} {mo : Option Nat} (h : ArB w A L v mo) {i : Nat} (hi : i < L.length) :
    ∃ g cap, v = .slice (some ⟨g, 0, none⟩) L.length cap ∧ g < w.heap.size ∧ own A v mo g ∧ ∀ j x, (nodeT L L[i])[j]? = some x → w.cell? ⟨g, i * 31 + j, none⟩ = some x := by
  rcases h.row.2 with ⟨_, h0⟩ | ⟨g, cap, cur, hv, _, hg, _, _, hsz, htk⟩
  · omega
  · refine ⟨g, cap, hv, (Array.getElem?_eq_some_iff.1 hg).1, Or.inr (Or.inl (by rw [hv]; rfl)), fun j x hx => ?_⟩
    have hj : j < 31 := by
      have := (List.getElem?_eq_some_iff.1 hx).1
      rwa [nodeT_len] at this
    have h1 := flat_get (f := nodeT L) (n := 31) (nodeT_len L) L i j hi hj
    rw [hx] at h1
    have h2 := h.row.cells (g := g) (by rw [hv]; rfl) _ _ h1
    have hadd : (⟨g, 0, none⟩ : Addr).add (i * 31 + j) = ⟨g, i * 31 + j, none⟩ := by unfold Addr.add; split <;> simp_all
    rwa [hadd] at h2
theorem ArB.slice {w : World} {A : Nat} {L : List Tm} {v : Value} {mo : Option Nat} (h : ArB w A L v mo) : ∃ ao cap, v = .slice ao L.length cap := by
  rcases h.row.2 with ⟨hv, h0⟩ | ⟨g, cap, cur, hv, _⟩
  · exact ⟨none, 0, by rw [hv, h0]⟩
  · exact ⟨_, cap, hv⟩

/-! terms that lie whatever is written into some blocks -/
theorem FirmS.kid {P : Nat → Prop} {w : World} {t : Tm} {h : Hd} (g : FirmS P w t h) {k : Nat} (hk : k < t.ts.length) :
    ∃ b off hd, h.to = some ⟨b, off, none⟩ ∧ b < w.heap.size ∧ ¬ P b ∧ TCells w b (off + k * 5) t.ts[k] hd ∧ FirmS P w t.ts[k] hd := by
  obtain ⟨b, off, hao, hb, hd, hc, hin⟩ := g.here.kid k hk
  have hnP : ¬ P b := by
    intro hp
    let w2 : World := { w with heap := w.heap.setIfInBounds b (.map #[] 0) }
    have hr : RanS P w w2 := ⟨rfl, rfl, rfl, by simp [w2], fun q hq hn => by
      have hqb : b ≠ q := fun e => hn (e ▸ hp)
      simp [w2, Array.getElem?_setIfInBounds_ne hqb]⟩
    obtain ⟨b2, off2, hao2, _, hd2, hc2, _⟩ := (g w2 hr).kid k hk
    rw [hao] at hao2
    injection hao2 with e
    injection e with e1 e2
    subst e1
    have h2 := hc2.c0
    have h3 : w2.heap[b]? = some (.map #[] 0) := by simp [w2, hb]
    simp [World.cell?, h3] at h2
  refine ⟨b, off, hd, hao, hb, hnP, hc, fun w' hr => ?_⟩
  obtain ⟨b2, off2, hao2, _, hd2, hc2, hin2⟩ := (g w' hr).kid k hk
  rw [hao] at hao2
  injection hao2 with e
  injection e with e1 e2
  subst e1 e2
  have hc3 := hc.ranS hr hb hnP
  have e3 := hc3.c3.symm.trans hc2.c3
  have e4 := hc3.c4.symm.trans hc2.c4
  simp only [Option.some.injEq, Value.slice.injEq, true_and] at e3 e4
  have e5 : hd = hd2 := by
    cases hd; cases hd2
    simp only at e3 e4
    simp [e3.1, e3.2, e4.1, e4.2]
  rw [e5]; exact hin2
theorem FirmS.turn {P P' : Nat → Prop} {w w' : World} {t : Tm} {h : Hd} (g : FirmS P w t h) (hr : RanS P w w') (hP : ∀ q, P' q → P q ∨ w.heap.size ≤ q) : FirmS P' w' t h := fun w2 hr2 =>
  g w2 ⟨hr2.os.trans hr.os, hr2.tape.trans hr.tape, hr2.output.trans hr.output, Nat.le_trans hr.size hr2.size, fun q hq hn => (hr2.block q (Nat.lt_of_lt_of_le hq hr.size) (fun hp => (hP q hp).elim hn (by omega))).trans (hr.block q hq hn)⟩
/-- Changes of what was owned, one behind the other. -/
theorem ranS_go {P P' : Nat → Prop} {w w' w2 : World} (hr : RanS P w w') (hr2 : RanS P' w' w2) (hP : ∀ q, P' q → P q ∨ w.heap.size ≤ q) : RanS P w w2 :=
  ⟨hr2.os.trans hr.os, hr2.tape.trans hr.tape, hr2.output.trans hr.output, Nat.le_trans hr.size hr2.size, fun q hq hn => (hr2.block q (Nat.lt_of_lt_of_le hq hr.size) (fun hp => (hP q hp).elim hn (by omega))).trans (hr.block q hq hn)⟩
/-- A term lies at an address, whatever is written into the blocks of P. -/
def FAt (P : Nat → Prop) (w : World) (b o : Nat) (t : Tm) : Prop := b < w.heap.size ∧ ¬ P b ∧ ∃ h, TCells w b o t h ∧ FirmS P w t h
theorem FAt.turn {P P' : Nat → Prop} {w w' : World} {b o : Nat} {t : Tm} (g : FAt P w b o t) (hr : RanS P w w') (hP : ∀ q, P' q → P q ∨ w.heap.size ≤ q) : FAt P' w' b o t := by
  obtain ⟨hb, hn, h, hc, hf⟩ := g
  exact ⟨Nat.lt_of_lt_of_le hb hr.size, fun hp => (hP b hp).elim hn (by omega), h, hc.ranS hr hb hn, FirmS.turn hf hr hP⟩
/-- What a call may do to an arena: it has these terms then; nothing else that was there is turned; its blocks are old ones of its own, or new. -/
def Moved (A : Nat) (v : Value) (mo : Option Nat) (L' : List Tm) (w w' : World) : Prop :=
  ∃ v' mo', Ar w' A L' v' mo' ∧ (∀ q, own A v' mo' q → own A v mo q ∨ (w.heap.size ≤ q ∧ q < w'.heap.size)) ∧ RanS (own A v mo) w w'
theorem Moved.refl {w : World} {A : Nat} {L : List Tm} {v : Value} {mo : Option Nat} (h : Ar w A L v mo) : Moved A v mo L w w := ⟨v, mo, h, fun _ hq => Or.inl hq, RanS.refl _ _⟩
theorem Moved.below {w w' : World} {A : Nat} {L : List Tm} {v : Value} {mo : Option Nat} (h : Ar w A L v mo) (hb : Below w.heap.size w w') : Moved A v mo L w w' := ⟨v, mo, h.below hb (Nat.le_refl _), fun _ hq => Or.inl hq, RanS.of_below hb⟩
end Arn
end Go.Proofs.Ytjicdmohnfcflaa

