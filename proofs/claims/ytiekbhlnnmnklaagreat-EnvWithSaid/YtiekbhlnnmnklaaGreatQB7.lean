/-
  Plain mathematics of levels: levels in the place of parameters. No walk here.
-/
import Derived.Test.YtiekbhlnnmnklaaGreatQB2
import Derived.Test.YtiekbhlnnmnklaaGreatQB5
import Derived.Test.YtiekbhlnnmnklaaGreatQB3
import Derived.Laws.AppendOwnNone
import Derived.Test.YtiekbhlnnmnklaaGreatQB6
import Derived.Deep.RegionHeld3
import Derived.Test.YtiekbhlnnmnklaaGreatQB1
import Derived.Test.YtiekbhlnnmnklaaGreatProg
import Derived.Great.Walk
import Derived.Laws.Rows
import Derived.OpenShut
import Derived.ChangeArms
import Derived.DataReads
namespace Go.Proofs.YtiekbhlnnmnklaaGreat
namespace Lvl

def stepI (o b : Lv) (p : Int) : Lv := if p = -1 then o else o.join (b.plus p)
theorem stepI_fine {o b : Lv} {p : Int} (ho : o.fine) (hb : b.fine) (hp : -1 ≤ p) : (stepI o b p).fine := by
  unfold stepI
  by_cases h : p = -1
  · rw [if_pos h]; exact ho
  · rw [if_neg h]; exact join_fine ho (plus_fine hb p (by omega))
theorem ev_stepI {o b : Lv} {p : Int} (ho : o.fine) (hb : b.fine) (hp : -1 ≤ p) (n : Four) : ev (stepI o b p) n = stepM (ev o n) p (ev b n) := by
  unfold stepI stepM
  by_cases h : p = -1
  · rw [if_pos h, if_pos h]
  · rw [if_neg h, if_neg h, ev_join ho (plus_fine hb p (by omega)), ev_plus hb p (by omega)]
theorem inst_one {ls : List Lv} (o b : Lv) (k : Nat) (p : Int) (r : List (Int × Int)) (hk : ls[k]? = some b) : (one k p ++ r).foldl (instStep ls) (some o) = r.foldl (instStep ls) (some (stepI o b p)) := by
  obtain ⟨hl, hb⟩ := List.getElem?_eq_some_iff.1 hk
  unfold one stepI
  by_cases h : p = -1
  · rw [if_pos h, if_pos h]; rfl
  · rw [if_neg h, if_neg h]
    simp [instStep, hl, hb]
theorem ev_number (c : Int) (n : Four) : ev (number c) n = c := by simp [ev, number, stepM]
/-- Levels, one for each parameter. -/
structure Row4 where
  b0 : Lv
  b1 : Lv
  b2 : Lv
  b3 : Lv
def Row4.list (r : Row4) : List Lv := [r.b0, r.b1, r.b2, r.b3]
def Row4.okAll (r : Row4) : Prop := r.b0.ok ∧ r.b1.ok ∧ r.b2.ok ∧ r.b3.ok
def Row4.ev (r : Row4) (n : Four) : Four := ⟨Lvl.ev r.b0 n, Lvl.ev r.b1 n, Lvl.ev r.b2 n, Lvl.ev r.b3 n⟩
def instO (l : Lv) (r : Row4) : Lv := stepI (stepI (stepI (stepI (number l.c) r.b0 l.p0) r.b1 l.p1) r.b2 l.p2) r.b3 l.p3
theorem inst_row {l : Lv} {r : Row4} (hl : l.ok) (hr : r.okAll) : inst l r.list = ans (instO l r) := by
  have ha : r.list.all Lv.may = true := by
    obtain ⟨h0, h1, h2, h3⟩ := hr
    simp [Row4.list, (may_iff _).2 h0, (may_iff _).2 h1, (may_iff _).2 h2, (may_iff _).2 h3]
  rw [inst, if_pos ⟨(may_iff l).2 hl, ha⟩]
  have h : l.ps = one ((0 : Nat) : Int) l.p0 ++ (one ((1 : Nat) : Int) l.p1 ++ (one ((2 : Nat) : Int) l.p2 ++ (one ((3 : Nat) : Int) l.p3 ++ []))) := by simp [Lv.ps]
  have e : instAll r.list (number l.c) l.ps = some (instO l r) := by
    unfold instAll
    rw [h, inst_one _ r.b0 0 _ _ rfl, inst_one _ r.b1 1 _ _ rfl, inst_one _ r.b2 2 _ _ rfl, inst_one _ r.b3 3 _ _ rfl]
    rfl
  rw [e]
theorem number_fine {c : Int} (h : 0 ≤ c) : (number c).fine := by unfold Lv.fine number; simp [h]
theorem instO_fine {l : Lv} {r : Row4} (hl : l.ok) (hr : r.okAll) : (instO l r).fine := by
  obtain ⟨h0, h1, h2, h3⟩ := hr
  have hf := hl.fine
  obtain ⟨c, p0, p1, p2, p3⟩ := hf
  exact stepI_fine (stepI_fine (stepI_fine (stepI_fine (number_fine c) h0.fine p0) h1.fine p1) h2.fine p2) h3.fine p3
theorem ev_instO {l : Lv} {r : Row4} (hl : l.ok) (hr : r.okAll) (n : Four) : ev (instO l r) n = ev l (r.ev n) := by
  obtain ⟨h0, h1, h2, h3⟩ := hr
  have hf := hl.fine
  obtain ⟨c, p0, p1, p2, p3⟩ := hf
  have f0 := stepI_fine (number_fine c) h0.fine p0
  have f1 := stepI_fine f0 h1.fine p1
  have f2 := stepI_fine f1 h2.fine p2
  unfold instO
  rw [ev_stepI f2 h3.fine p3, ev_stepI f1 h2.fine p2, ev_stepI f0 h1.fine p1, ev_stepI (number_fine c) h0.fine p0, ev_number]
  rfl
/-- Levels that are the same at all numbers have one form. -/
theorem fine_p {a b : Lv} (hb : b.fine) (h : ∀ n : Four, n.pos → ev a n ≤ ev b n) : a.p0 ≤ b.p0 ∧ a.p1 ≤ b.p1 ∧ a.p2 ≤ b.p2 ∧ a.p3 ≤ b.p3 := by
  have lo (n : Four) := (ev_le a n (ev a n)).1 (Int.le_refl _)
  have hi (n : Four) (x : Int) (h : ¬ ev b n ≤ x) : ¬ _ := fun k => h ((ev_le b n x).2 k)
  unfold Lv.fine at hb
  obtain ⟨g, hg⟩ : ∃ g : Int, g = b.c + (b.p0 + 1) + (b.p1 + 1) + (b.p2 + 1) + (b.p3 + 1) + 1 := ⟨_, rfl⟩
  refine ⟨?_, ?_, ?_, ?_⟩
  · have l := lo ⟨g, 0, 0, 0⟩
    have k := h ⟨g, 0, 0, 0⟩ (by unfold Four.pos; simp only; omega)
    by_cases e : a.p0 ≤ b.p0
    · exact e
    · exact absurd k (fun k => hi ⟨g, 0, 0, 0⟩ (g + a.p0 - 1) (by simp only at l; omega) (by simp only at *; omega))
  · have l := lo ⟨0, g, 0, 0⟩
    have k := h ⟨0, g, 0, 0⟩ (by unfold Four.pos; simp only; omega)
    by_cases e : a.p1 ≤ b.p1
    · exact e
    · exact absurd k (fun k => hi ⟨0, g, 0, 0⟩ (g + a.p1 - 1) (by simp only at l; omega) (by simp only at *; omega))
  · have l := lo ⟨0, 0, g, 0⟩
    have k := h ⟨0, 0, g, 0⟩ (by unfold Four.pos; simp only; omega)
    by_cases e : a.p2 ≤ b.p2
    · exact e
    · exact absurd k (fun k => hi ⟨0, 0, g, 0⟩ (g + a.p2 - 1) (by simp only at l; omega) (by simp only at *; omega))
  · have l := lo ⟨0, 0, 0, g⟩
    have k := h ⟨0, 0, 0, g⟩ (by unfold Four.pos; simp only; omega)
    by_cases e : a.p3 ≤ b.p3
    · exact e
    · exact absurd k (fun k => hi ⟨0, 0, 0, g⟩ (g + a.p3 - 1) (by simp only at l; omega) (by simp only at *; omega))
theorem same_form {a b : Lv} (ha : a.fine) (hb : b.fine) (h : ∀ n : Four, n.pos → ev a n = ev b n) : a.form = b.form := by
  obtain ⟨x0, x1, x2, x3⟩ := fine_p hb (fun n hn => Int.le_of_eq (h n hn))
  obtain ⟨y0, y1, y2, y3⟩ := fine_p ha (fun n hn => Int.le_of_eq (h n hn).symm)
  have e0 : a.p0 = b.p0 := by omega
  have e1 : a.p1 = b.p1 := by omega
  have e2 : a.p2 = b.p2 := by omega
  have e3 : a.p3 = b.p3 := by omega
  refine form_ext ha hb e0 e1 e2 e3 ?_
  intro x y hx hy
  have hz := h ⟨0, 0, 0, 0⟩ (by simp [Four.pos])
  unfold Lv.formed at hx hy
  unfold Lv.fine at ha hb
  rw [e0, e1, e2, e3] at hx
  rcases hx with ⟨rfl, hx'⟩ | ⟨rfl, hx'⟩ <;> rcases hy with ⟨rfl, hy'⟩ | ⟨rfl, hy'⟩
  · have ua : ev a ⟨0, 0, 0, 0⟩ ≤ a.c := (ev_le _ _ _).2 (by rw [e0, e1, e2, e3]; simp only; omega)
    have ub : ev b ⟨0, 0, 0, 0⟩ ≤ b.c := (ev_le _ _ _).2 (by simp only; omega)
    have la := ((ev_le a ⟨0, 0, 0, 0⟩ _).1 (Int.le_refl _)).1
    have lb := ((ev_le b ⟨0, 0, 0, 0⟩ _).1 (Int.le_refl _)).1
    omega
  · exfalso
    have la := ((ev_le a ⟨0, 0, 0, 0⟩ _).1 (Int.le_refl _)).1
    have ub : ev b ⟨0, 0, 0, 0⟩ ≤ a.c - 1 := (ev_le _ _ _).2 (by
      simp only
      refine ⟨?_, by omega, by omega, by omega, by omega⟩
      rcases hy' with hy' | hy' | hy' | hy' <;> omega)
    omega
  · exfalso
    have lb := ((ev_le b ⟨0, 0, 0, 0⟩ _).1 (Int.le_refl _)).1
    have ua : ev a ⟨0, 0, 0, 0⟩ ≤ b.c - 1 := (ev_le _ _ _).2 (by
      rw [e0, e1, e2, e3]
      simp only
      refine ⟨?_, by omega, by omega, by omega, by omega⟩
      rcases hx' with hx' | hx' | hx' | hx' <;> omega)
    omega
  · rfl
/-- The parameters themselves. -/
def own : Row4 := ⟨⟨0, 0, -1, -1, -1⟩, ⟨0, -1, 0, -1, -1⟩, ⟨0, -1, -1, 0, -1⟩, ⟨0, -1, -1, -1, 0⟩⟩
theorem own_ok : own.okAll := by simp [Row4.okAll, own, Lv.ok]
theorem ev_own {n : Four} (hn : n.pos) : own.ev n = n := by
  obtain ⟨h0, h1, h2, h3⟩ := hn
  have e (x : Int) (h : 0 ≤ x) : max 0 x = x := by omega
  cases n
  simp only [Row4.ev, own, ev, stepM] at *
  simp [e, h0, h1, h2, h3]
end Lvl
end Go.Proofs.YtiekbhlnnmnklaaGreat



namespace Go.Proofs.YtiekbhlnnmnklaaGreat
open Go.RowKit Go.Shelf Lvl Trm

namespace Lvl
def Lv.list5 (l : Lv) : List Value := [.int .i64 l.c, .int .i64 l.p0, .int .i64 l.p1, .int .i64 l.p2, .int .i64 l.p3]
def flatL (ls : List Lv) : List Value := ls.flatMap Lv.list5
end Lvl
end Go.Proofs.YtiekbhlnnmnklaaGreat



namespace Go.Proofs.YtiekbhlnnmnklaaGreat
open Go.RowKit Go.Shelf Lvl Trm

namespace Trm
theorem LRow.ranS {P : Nat → Prop} {w w' : World} {ao : Option Addr} {ls : List Lv} (h : LRow w ao ls) (hr : RanS P w w') (hb : ∀ x, ao = some x → x.block < w.heap.size ∧ ¬ P x.block) : LRow w' ao ls := by
  refine ⟨fun k hk => ?_⟩
  obtain ⟨b, off, hao, ha⟩ := h.place k hk
  obtain ⟨hb1, hb2⟩ : b < w.heap.size ∧ ¬ P b := hb _ hao
  exact ⟨b, off, hao, (hr.cell (p := ⟨b, _, none⟩) hb1 hb2).trans ha.1, (hr.cell (p := ⟨b, _, none⟩) hb1 hb2).trans ha.2.1, (hr.cell (p := ⟨b, _, none⟩) hb1 hb2).trans ha.2.2.1, (hr.cell (p := ⟨b, _, none⟩) hb1 hb2).trans ha.2.2.2.1, (hr.cell (p := ⟨b, _, none⟩) hb1 hb2).trans ha.2.2.2.2⟩

/-- Behind some rounds: what is to come is R; the list is a row of the call's own, of blocks from w1's size on, and none of its terms minds what is written into that row, or into the blocks from B on that were there. -/
def RowG (B : Nat) (w1 : World) (R : List Tm) (v i : Value) (wr : World) : Prop :=
  ∃ (j : Nat) (ps : List (Tm × Hd)), i = .int .i64 j ∧ j ≤ R.length ∧ ps.length = j ∧ ps.map (·.1) = R.take j ∧ Below w1.heap.size w1 wr ∧ wr.ownsRow w1.heap.size 27 5 v ps.length (flat ps) ∧
    ∀ p ∈ ps, FirmS (fun q => B ≤ q ∧ (q < w1.heap.size ∨ v.ownBlock = some q)) wr p.1 p.2
theorem RowG.start (B : Nat) (w1 : World) (R : List Tm) : RowG B w1 R (.slice none 0 0) (.int .i64 0) w1 :=
  ⟨0, [], rfl, by omega, rfl, rfl, Below.refl _ _, ⟨rfl, Or.inl ⟨rfl, rfl⟩⟩, fun p hp => by simp at hp⟩

theorem RowG.step {B : Nat} {w1 : World} {R : List Tm} {v i' : Value} {wr w4 w5 : World} {j g cap n' : Nat} {ps : List (Tm × Hd)} {y : Tm} {hy : Hd} {ob : Obj} {L : Nat} (hRl : R.length = L) (hRy : R[j]? = some y) (hlt : j < L) (hpl : ps.length = j) (hmap : ps.map (·.1) = R.take j)
    (hbel : Below w1.heap.size w1 wr) (hown : wr.ownsRow w1.heap.size 27 5 v ps.length (flat ps))
    (hf : ∀ p ∈ ps, FirmS (fun q => B ≤ q ∧ (q < w1.heap.size ∨ v.ownBlock = some q)) wr p.1 p.2) (hb4 : Below wr.heap.size wr w4) (hfy : FirmS (fun q => B ≤ q ∧ q < wr.heap.size) w4 y hy) (hBw : B ≤ w1.heap.size)
    (hn' : n' = ps.length + 1) (hown5 : w5.ownsRow w1.heap.size 27 5 (.slice (some ⟨g, 0, none⟩) n' cap) n' (flat ps ++ (y.vals hy).toList)) (hgrow : (w4.alloc ob).grownBy w5 v.ownBlock) (hat : v.ownBlock = some g ∨ g = w4.heap.size + 1) (hi : i' = .int .i64 ((j + 1 : Nat) : Int)) :
    RowG B w1 R (.slice (some ⟨g, 0, none⟩) n' cap) i' w5 := by
  subst hn'
  have h1 := hb4.alloc hb4.size ob
  have hz0 := hbel.size
  have hz1 : wr.heap.size ≤ w4.heap.size := hb4.size
  have hz5 : w4.heap.size + 1 ≤ w5.heap.size := by have := hgrow.size; simpa using this
  have h6 : Below w1.heap.size wr w5 := by
    refine ⟨hgrow.os.trans h1.os, hgrow.tape.trans h1.tape, hgrow.output.trans h1.output, Nat.le_trans h1.size hgrow.size, fun k hk => ?_⟩
    have hk2 : k < wr.heap.size := by omega
    rw [hgrow.block k (Nat.lt_of_lt_of_le hk2 h1.size) (fun he => by have := own_low hown he.symm; omega), h1.block k hk2]
  refine ⟨j + 1, ps ++ [(y, hy)], hi, by omega, by simp [hpl], ?_, hbel.trans h6, by rw [flat_snoc, List.length_append]; exact hown5, ?_⟩
  · rw [List.map_append, hmap, List.take_add_one, hRy]; rfl
  · intro p hp w' hr
    rcases List.mem_append.1 hp with hp | hp
    · refine hf p hp w' ⟨hr.os.trans (h6.os), hr.tape.trans h6.tape, hr.output.trans h6.output, Nat.le_trans h6.size hr.size, fun k hk hn => ?_⟩
      have hn5 : w5.heap[k]? = wr.heap[k]? := by
        rw [hgrow.block k (by simp; omega) (fun he => hn ⟨by have := own_low hown he.symm; omega, Or.inr he.symm⟩), h1.block k hk]
      rw [← hn5]
      refine hr.block k (Nat.lt_of_lt_of_le hk h6.size) ?_
      rintro ⟨hq1, hq2 | hq2⟩
      · exact hn ⟨hq1, Or.inl hq2⟩
      · have hkg : g = k := by simpa [Value.ownBlock] using hq2
        subst hkg
        rcases hat with hat | hat
        · exact hn ⟨hq1, Or.inr hat⟩
        · omega
    · simp at hp
      subst hp
      refine hfy w' ⟨hr.os.trans (hgrow.os), hr.tape.trans hgrow.tape, hr.output.trans hgrow.output, Nat.le_trans (by omega) hr.size, fun k hk hn => ?_⟩
      have hn5 : w5.heap[k]? = w4.heap[k]? := by
        rw [hgrow.block k (by simp; omega) (fun he => by have := own_low hown he.symm; exact hn ⟨by omega, by omega⟩)]
        exact (below_one w4 ob).block k hk
      rw [← hn5]
      refine hr.block k (by omega) ?_
      rintro ⟨hq1, hq2 | hq2⟩
      · exact hn ⟨hq1, by omega⟩
      · have hkg : g = k := by simpa [Value.ownBlock] using hq2
        subst hkg
        rcases hat with hat | hat
        · have := own_low hown hat
          exact hn ⟨hq1, by omega⟩
        · omega
/-- In w5 the row's own blocks alone are others. -/
theorem RowG.below {w1 wr w4 w5 : World} {n : Nat} {v : Value} {xs : List Value} {o : Obj} (hb4 : Below wr.heap.size wr w4) (hown : wr.ownsRow w1.heap.size 27 5 v n xs) (hg : (w4.alloc o).grownBy w5 v.ownBlock) (h2 : w1.heap.size ≤ wr.heap.size) : Below w1.heap.size wr w5 := by
  have h1 := hb4.alloc hb4.size o
  refine ⟨hg.os.trans h1.os, hg.tape.trans h1.tape, hg.output.trans h1.output, Nat.le_trans h1.size hg.size, fun k hk => ?_⟩
  have hk2 : k < wr.heap.size := by omega
  rw [hg.block k (Nat.lt_of_lt_of_le hk2 h1.size) (fun he => by have := own_low hown he.symm; omega), h1.block k hk2]

/-- Behind some rounds over levels: a row of levels of the call's own, in which R's first ones stand. -/
def RowL (w1 : World) (R : List Lv) (v i : Value) (wr : World) : Prop :=
  ∃ j : Nat, i = .int .i64 j ∧ j ≤ R.length ∧ Below w1.heap.size w1 wr ∧ wr.ownsRow w1.heap.size 61 5 v j (flatL (R.take j))
theorem RowL.start (w1 : World) (R : List Lv) : RowL w1 R (.slice none 0 0) (.int .i64 0) w1 := ⟨0, rfl, by omega, Below.refl _ _, ⟨rfl, Or.inl ⟨rfl, rfl⟩⟩⟩
theorem flatL_snoc (ls : List Lv) (x : Lv) : flatL (ls ++ [x]) = flatL ls ++ x.list5 := by simp [flatL]
theorem RowL.step {w1 : World} {R : List Lv} {v i' : Value} {wr w4 w5 : World} {j g cap n' : Nat} {y : Lv} {ob : Obj} (hRy : R[j]? = some y) (hlt : j < R.length) (hbel : Below w1.heap.size w1 wr) (hown : wr.ownsRow w1.heap.size 61 5 v j (flatL (R.take j)))
    (hb4 : Below wr.heap.size wr w4) (hn' : n' = j + 1) (hown5 : w5.ownsRow w1.heap.size 61 5 (.slice (some ⟨g, 0, none⟩) n' cap) n' (flatL (R.take j) ++ y.list5)) (hgrow : (w4.alloc ob).grownBy w5 v.ownBlock) (hi : i' = .int .i64 ((j + 1 : Nat) : Int)) :
    RowL w1 R (.slice (some ⟨g, 0, none⟩) n' cap) i' w5 := by
  subst hn'
  have h1 := hb4.alloc hb4.size ob
  have hz0 := hbel.size
  refine ⟨j + 1, hi, by omega, hbel.trans ⟨hgrow.os.trans h1.os, hgrow.tape.trans h1.tape, hgrow.output.trans h1.output, Nat.le_trans h1.size hgrow.size, fun k hk => ?_⟩, by rw [List.take_add_one, hRy]; exact (flatL_snoc _ _) ▸ hown5⟩
  have hk2 : k < wr.heap.size := by omega
  rw [hgrow.block k (Nat.lt_of_lt_of_le hk2 h1.size) (fun he => by have := own_low hown he.symm; omega), h1.block k hk2]
end Trm
end Go.Proofs.YtiekbhlnnmnklaaGreat



namespace Go.Proofs.YtiekbhlnnmnklaaGreat
open Go.RowKit Go.Shelf Lvl Trm

namespace Lvl
end Lvl

end Go.Proofs.YtiekbhlnnmnklaaGreat



namespace Go.Proofs.YtiekbhlnnmnklaaGreat
namespace Lvl

theorem ans_form {a b : Lv} (h : a.form = b.form) : ans a = ans b := by
  unfold ans; rw [h]
/-- With the parameters themselves nothing is turned. -/
theorem inst_own {l : Lv} (hl : l.ok) : inst l own.list = (l, 0) := by
  have e : (instO l own).form = l.form := same_form (instO_fine hl own_ok) hl.fine fun n hn => by rw [ev_instO hl own_ok, ev_own hn]
  rw [inst_row hl own_ok, ans, e, ok_formed hl, if_pos ((within_iff l).2 ⟨hl.1, hl.2.1, hl.2.2.1, hl.2.2.2.1, hl.2.2.2.2.1⟩)]
end Lvl
end Go.Proofs.YtiekbhlnnmnklaaGreat



namespace Go.Proofs.YtiekbhlnnmnklaaGreat
open Go.RowKit Go.Shelf Lvl Trm

namespace Lvl
end Lvl

end Go.Proofs.YtiekbhlnnmnklaaGreat



namespace Go.Proofs.YtiekbhlnnmnklaaGreat
open Go.RowKit Go.Shelf Lvl Trm

namespace Lvl
/-- What the document's loop has made of the first k parameters says what ours has. -/
def ISt (ls : List Lv) (l : Lv) (k : Nat) (out : Lv) : Prop := ∃ o, instAll ls (number l.c) (l.upto k) = some o ∧ o.fine ∧ out.fine ∧ ∀ n : Four, n.pos → ev out n = ev o n
theorem ISt.start (ls : List Lv) {l : Lv} (hl : l.ok) : ISt ls l 0 (number l.c) :=
  ⟨number l.c, rfl, number_fine hl.1.1, number_fine hl.1.1, fun _ _ => rfl⟩
theorem ISt.skip {ls : List Lv} {l out : Lv} {k : Nat} (h : ISt ls l k out) (hk : k < 4) (hp : l.at_ k = -1) : ISt ls l (k + 1) out := by
  obtain ⟨o, h1, h2⟩ := h
  exact ⟨o, by rw [l.upto_skip k hk hp]; exact h1, h2⟩
theorem ISt.step {ls : List Lv} {l out : Lv} {k : Nat} (h : ISt ls l k out) (hk : k < 4) (hp : 0 ≤ l.at_ k) (hlt : k < ls.length) (hb : (ls[k]).fine) : ISt ls l (k + 1) (out.join ((ls[k]).plus (l.at_ k)).form).form := by
  obtain ⟨o, h1, h2, h3, h4⟩ := h
  have f1 := plus_fine hb (l.at_ k) hp
  have f2 := join_fine h3 (form_fine f1)
  refine ⟨o.join ((ls[k]).plus (l.at_ k)), ?_, join_fine h2 f1, form_fine f2, fun n hn => ?_⟩
  · rw [(l.upto_mem k hk (by omega)).2.2, instAll_snoc, h1]
    unfold instStep
    dsimp only
    rw [dif_pos (by simpa using hlt)]
    simp
  · rw [ev_form f2 hn, ev_join h3 (form_fine f1), ev_form f1 hn, ev_join h2 f1, h4 n hn]
theorem ISt.done {ls : List Lv} {l out : Lv} (h : ISt ls l 4 out) (hm : l.may = true) (ha : ls.all Lv.may = true) : inst l ls = ans out ∧ out.fine := by
  obtain ⟨o, h1, h2, h3, h4⟩ := h
  have h5 : instAll ls (number l.c) l.ps = some o := h1
  refine ⟨?_, h3⟩
  unfold inst
  rw [if_pos ⟨hm, ha⟩, h5]
  exact (ans_form (same_form h3 h2 h4)).symm
end Lvl

end Go.Proofs.YtiekbhlnnmnklaaGreat



namespace Go.Proofs.YtiekbhlnnmnklaaGreat
open Go.RowKit Go.Shelf Lvl Trm

namespace Trm
/-- The first error of levels. -/
def errL (L : List Lv) : List Lv → Int
  | [] => 0
  | l :: r => if (inst l L).2 = 0 then errL L r else (inst l L).2
mutual
/-- The first error of a term's levels. -/
def Tm.lerr (L : List Lv) : Tm → Int
  | .mk _ _ _ ls ts => if errL L ls = 0 then lerrL L ts else errL L ls
def lerrL (L : List Lv) : List Tm → Int
  | [] => 0
  | t :: r => if t.lerr L = 0 then lerrL L r else t.lerr L
end
end Trm

end Go.Proofs.YtiekbhlnnmnklaaGreat



namespace Go.Proofs.YtiekbhlnnmnklaaGreat
open Go.RowKit Go.Shelf Lvl Trm

namespace Trm
mutual
theorem thr_err {L : List Lv} : ∀ (t : Tm) (y : List Lv) (d u : Int), OkMay t d → LGood L y → (t.thr lfLev y u).2.1 = t.lerr L
  | .mk k n s ls ts, y, d, u, ho, hy => by
    rw [Tm.thr, Tm.lerr]
    by_cases hts : ts.isEmpty = true
    · rw [if_pos hts]
      have h0 : ts = [] := List.isEmpty_iff.1 hts
      subst h0
      show (levL ls y).2.1 = _
      rw [levL_err ls y hy, lerrL]
      split
      · assumption
      · rfl
    · rw [if_neg hts]
      have hls : ls = [] := node_inner ho.node.1 (show ts ≠ [] by simpa using hts)
      subst hls
      rw [if_pos (show errL L [] = 0 from rfl)]
      unfold fin
      exact thrL_err k ts y (d + 1) u (fun x hx => ho.down x hx) hy
theorem thrL_err {L : List Lv} (k : Int) : ∀ (ts : List Tm) (y : List Lv) (d u : Int), (∀ x ∈ ts, OkMay x d) → LGood L y → (thrL lfLev k ts y u).2.1 = lerrL L ts
  | [], y, d, u, _, hy => by rw [thrL, lerrL]
  | t :: r, y, d, u, ho, hy => by
    have h1 := thr_err (L := L) t y d (und k r.isEmpty u) (ho t (by simp)) hy
    rw [thrL, lerrL]
    by_cases he : (t.thr lfLev y (und k r.isEmpty u)).2.1 = 0
    · rw [if_pos he, if_pos (by rw [← h1]; exact he)]
      exact thrL_err k r _ d _ (fun x hx => ho x (by simp [hx])) (((thr_lev (L := L) t y d (und k r.isEmpty u) (ho t (by simp)) hy).2 he).1)
    · rw [if_neg he, if_neg (by rw [← h1]; exact he)]
      exact h1
theorem levL_err {L : List Lv} : ∀ (ls y : List Lv), LGood L y → (levL ls y).2.1 = errL L ls
  | [], y, _ => by rw [levL]; rfl
  | l :: r, y, hy => by
    rw [levL, errL]
    have e := hy.inst l
    by_cases ho : (inst l y).2 = 0
    · rw [if_pos ho, if_pos (by rw [← e]; exact ho)]
      exact levL_err r _ (hy.next ho)
    · rw [if_neg ho, if_neg (by rw [← e]; exact ho), e]
end
end Trm
end Go.Proofs.YtiekbhlnnmnklaaGreat


namespace Go.Proofs.YtiekbhlnnmnklaaGreat
open Go.RowKit Go.Shelf Go.Maps Lvl Trm Env

namespace Env
/-- What Few says, if it says yes. -/
def FewP (l : List Inf) : Prop := l.length ≤ 40 ∧ ∀ x ∈ l, x.rules.length ≤ 20 ∧ x.ty.deep = false ∧ x.va.deep = false ∧ x.name.size ≤ 100 ∧ ∀ r ∈ x.rules, r.body.deep = false
def FewX (x : Inf) : Prop := x.rules.length ≤ 20 ∧ x.ty.deep = false ∧ x.va.deep = false ∧ x.name.size ≤ 100 ∧ ∀ r ∈ x.rules, r.body.deep = false
def FewPost (l : List Inf) (w : World) (e : Ending) (w' : World) : Prop := ∃ b, e = .returned (.bool b) ∧ (b = true → FewP l) ∧ Below w.heap.size w w'
theorem FewPost.no {l : List Inf} {w w' : World} (h : Below w.heap.size w w') : FewPost l w (.returned (.bool false)) w' := ⟨false, rfl, fun h => by (cases h), h⟩
def FRel (w : World) (l : List Inf) (i : Value) (wr : World) : Prop := ∃ k : Nat, i = .int .i64 k ∧ k ≤ l.length ∧ (∀ j (h : j < l.length), j < k → FewX l[j]) ∧ Below w.heap.size w wr
def FRel2 (w : World) (x : Inf) (i : Value) (wr : World) : Prop := ∃ k : Nat, i = .int .i64 k ∧ k ≤ x.rules.length ∧ (∀ j (h : j < x.rules.length), j < k → x.rules[j].body.deep = false) ∧ Below w.heap.size w wr
end Env

set_option maxRecDepth 100000 in
set_option maxHeartbeats 8000000 in
theorem few_any (l : List Inf) (lo : Option Addr) (lc : Nat) (w : World) (h : InfRow w.heap.size w lo l) :
    Calls Tryz.prog 14 #[.slice lo l.length lc] w (FewPost l w) := by
  have HR := Lib.hid h
  have HNO := Lib.hid (fun (W : World) (hW : Below w.heap.size w W) => FewPost.no (l := l) hW)
  obtain ⟨Q, hQ⟩ : ∃ Q, Q = FewPost l w := ⟨_, rfl⟩
  rw [← hQ] at HNO ⊢
  have HQ := Lib.hid hQ
  clear h hQ
  by_cases hmany : (40 : Int) < l.length
  · have hd : decide ((40 : Int) < l.length) = true := by simpa using hmany
    clear hmany
    go_enter Tryz.func14, Tryz.ntmps14
    go_wp2_with fail
    exact HNO.out w (Below.refl _ _)
  · have hd : decide ((40 : Int) < l.length) = false := by simpa using hmany
    have HL : Hid (l.length ≤ 40) := Lib.hid (by omega)
    clear hmany
    go_enter Tryz.func14, Tryz.ntmps14
    go_upto_region 4 with fail
    go_loopw [3] (fun i wr => FRel w l i wr) (fun i _ => l.length - (intOf i).toNat)
    case atStart => exact ⟨0, rfl, by omega, fun j _ hj => by omega, Below.refl _ _⟩
    case round =>
      obtain ⟨k, rfl, hk, hall, hbel⟩ := hrel
      have HALL := Lib.hid hall
      have HB := Lib.hid hbel
      clear hall hbel hd
      by_cases hlt : k < l.length
      · obtain ⟨b, off, hd, hlo, hb, hrg, hin⟩ := HR.out.place k hlt
        subst hlo
        obtain ⟨x, hx⟩ : ∃ x, x = l[k] := ⟨_, rfl⟩
        rw [← hx] at hrg hin
        have HP := Lib.hid (fun (W : World) (hW : Below w.heap.size w W) (j : Nat) (v : Value) (hv : (x.vals hd)[j]? = some v) => (range_below hrg hW hb j v hv : W.cell? ⟨b, off + k * 25 + j, none⟩ = some v))
        have HIN := Lib.hid (fun (W : World) (hW : Below w.heap.size w W) => Inf.carry hin hW)
        have HD1 := Lib.hid (fun (W : World) (hW : Below w.heap.size w W) => Deep_any x.ty hd.ty W (HIN.out W hW).ty)
        have HD2 := Lib.hid (fun (W : World) (hW : Below w.heap.size w W) => Deep_any x.va hd.va W (HIN.out W hW).va)
        unfold Tm.val Tm.vals at HD1 HD2
        have HCS := Lib.hid (fun (W : World) (hW : Below w.heap.size w W) => (⟨HP.out W hW 1 _ rfl, HP.out W hW 3 _ rfl, HP.out W hW 4 _ rfl, HP.out W hW 5 _ rfl, HP.out W hW 6 _ rfl, HP.out W hW 7 _ rfl, HP.out W hW 8 _ rfl, HP.out W hW 9 _ rfl, HP.out W hW 10 _ rfl, HP.out W hW 11 _ rfl, HP.out W hW 12 _ rfl, HP.out W hW 22 _ rfl⟩ :
          W.cell? ⟨b, off + k * 25 + 1, none⟩ = some (.string x.name) ∧
          W.cell? ⟨b, off + k * 25 + 3, none⟩ = some (.int .u8 x.ty.k) ∧ W.cell? ⟨b, off + k * 25 + 4, none⟩ = some (.int .i64 x.ty.n) ∧ W.cell? ⟨b, off + k * 25 + 5, none⟩ = some (.string x.ty.s) ∧ W.cell? ⟨b, off + k * 25 + 6, none⟩ = some (.slice hd.ty.lo x.ty.ls.length hd.ty.lc) ∧ W.cell? ⟨b, off + k * 25 + 7, none⟩ = some (.slice hd.ty.to x.ty.ts.length hd.ty.tc) ∧
          W.cell? ⟨b, off + k * 25 + 8, none⟩ = some (.int .u8 x.va.k) ∧ W.cell? ⟨b, off + k * 25 + 9, none⟩ = some (.int .i64 x.va.n) ∧ W.cell? ⟨b, off + k * 25 + 10, none⟩ = some (.string x.va.s) ∧ W.cell? ⟨b, off + k * 25 + 11, none⟩ = some (.slice hd.va.lo x.va.ls.length hd.va.lc) ∧ W.cell? ⟨b, off + k * 25 + 12, none⟩ = some (.slice hd.va.to x.va.ts.length hd.va.tc) ∧
          W.cell? ⟨b, off + k * 25 + 22, none⟩ = some (.slice hd.ro x.rules.length hd.rc)))
        have HX := Lib.hid hx
        have HLT := Lib.hid hlt
        have hwk : wrap64 ((k : Int) + 1) = (k : Int) + 1 := IntWalk.wrap64_in _ (by have := HL.out; omega)
        have hwk2 : IntKind.i64.wrap ((k : Int) + 1) = (k : Int) + 1 := IntWalk.i64_in _ (by have := HL.out; omega)
        clear hrg hin hx hb
        obtain ⟨d1, d3, d4, d5, d6, d7, _, _, _, _, _, d22⟩ := HCS.out wr HB.out
        by_cases h1 : (20 : Int) < x.rules.length
        · have hd1 : decide ((20 : Int) < x.rules.length) = true := by simpa using h1
          go_wp2_with fail
          exact HNO.out wr HB.out
        · have hd1 : decide ((20 : Int) < x.rules.length) = false := by simpa using h1
          have H20 : Hid (x.rules.length ≤ 20) := Lib.hid (by omega)
          clear h1
          go_wp2_with fail
          refine (HD1.out wr HB.out).mono ?_
          rintro y w2 ⟨rfl, b2⟩
          have HB2 := Lib.hid (Trm.go HB.out b2)
          clear d1 d3 d4 d5 d6 d7 d22 b2
          cases ht : x.ty.deep
          · obtain ⟨d1, _, _, _, _, _, d3, d4, d5, d6, d7, d22⟩ := HCS.out w2 HB2.out
            have HT := Lib.hid ht
            clear ht
            go_wp2_with fail
            refine (HD2.out w2 HB2.out).mono ?_
            rintro y w3 ⟨rfl, b3⟩
            have HB3 := Lib.hid (Trm.go HB2.out b3)
            clear d1 d3 d4 d5 d6 d7 d22 b3
            cases hv : x.va.deep
            · obtain ⟨d1, _, _, _, _, _, _, _, _, _, _, d22⟩ := HCS.out w3 HB3.out
              have HV := Lib.hid hv
              clear hv
              by_cases h2 : (100 : Int) < x.name.size
              · have hd2 : decide ((100 : Int) < x.name.size) = true := by simpa using h2
                go_wp2_with fail
                exact HNO.out w3 HB3.out
              · have hd2 : decide ((100 : Int) < x.name.size) = false := by simpa using h2
                have H100 : Hid (x.name.size ≤ 100) := Lib.hid (by omega)
                clear h2
                go_upto_region 9 with fail
                clear d1 d22
                obtain ⟨wA, hwA⟩ : ∃ wA : World, wA = wr := ⟨_, rfl⟩
                rw [← hwA] at HB
                clear hwA
                go_loopw [4] (fun i wr => FRel2 w x i wr) (fun i _ => x.rules.length - (intOf i).toNat)
                case atStart => exact ⟨0, rfl, by omega, fun j _ hj => by omega, HB3.out⟩
                case round =>
                  obtain ⟨q, rfl, hq, hall2, hbel2⟩ := hrel
                  have HALL2 := Lib.hid hall2
                  have HB4 := Lib.hid hbel2
                  obtain ⟨_, _, _, _, _, _, _, _, _, _, _, d22⟩ := HCS.out wr hbel2
                  clear hall2 hbel2
                  by_cases hlt2 : q < x.rules.length
                  · obtain ⟨b', off', hd', hlo', hb', hrg', hin'⟩ := (HIN.out wr HB4.out).rules.place q hlt2
                    rw [hlo'] at d22
                    obtain ⟨r, hr⟩ : ∃ r, r = x.rules[q] := ⟨_, rfl⟩
                    rw [← hr] at hrg' hin'
                    have HRR := Lib.hid hr
                    have e2 : wr.cell? ⟨b', off' + q * 7 + 2, none⟩ = some (.int .u8 r.body.k) := hrg' 2 _ rfl
                    have e3 : wr.cell? ⟨b', off' + q * 7 + 3, none⟩ = some (.int .i64 r.body.n) := hrg' 3 _ rfl
                    have e4 : wr.cell? ⟨b', off' + q * 7 + 4, none⟩ = some (.string r.body.s) := hrg' 4 _ rfl
                    have e5 : wr.cell? ⟨b', off' + q * 7 + 5, none⟩ = some (.slice hd'.lo r.body.ls.length hd'.lc) := hrg' 5 _ rfl
                    have e6 : wr.cell? ⟨b', off' + q * 7 + 6, none⟩ = some (.slice hd'.to r.body.ts.length hd'.tc) := hrg' 6 _ rfl
                    have HD3 := Lib.hid (Deep_any r.body hd' wr hin')
                    unfold Tm.val Tm.vals at HD3
                    have hwq : wrap64 ((q : Int) + 1) = (q : Int) + 1 := IntWalk.wrap64_in _ (by have := H20.out; omega)
                    have hwq2 : IntKind.i64.wrap ((q : Int) + 1) = (q : Int) + 1 := IntWalk.i64_in _ (by have := H20.out; omega)
                    clear hrg' hin' hr hb' hlo'
                    have HLT2 := Lib.hid hlt2
                    go_wp2_with fail
                    refine HD3.out.mono ?_
                    rintro y w5 ⟨rfl, b5⟩
                    have HB5 := Lib.hid (Trm.go HB4.out b5)
                    clear d22 e2 e3 e4 e5 e6 b5
                    cases hdp : r.body.deep
                    · have HNX : Hid (∀ j (h : j < x.rules.length), j < q + 1 → x.rules[j].body.deep = false) := Lib.hid (fun j hj hjq => by
                        by_cases e : j = q
                        · subst e; rw [← HRR.out]; exact hdp
                        · exact HALL2.out j hj (by omega))
                      clear hdp
                      go_wp2_with fail
                      go_roundw
                      case rel => exact ⟨q + 1, by first | rfl | (rw [hwq]; rfl), HLT2.out, HNX.out, HB5.out⟩
                      case measure => first | exact less_step rfl HLT2.out | exact less_step hwq HLT2.out
                    · clear hdp
                      go_wp2_with fail
                      exact HNO.out w5 HB5.out
                  · have hqe : q = x.rules.length := by omega
                    subst hqe
                    have HNX : Hid (∀ j (h : j < l.length), j < k + 1 → FewX l[j]) := Lib.hid (fun j hj hjk => by
                      by_cases e : j = k
                      · subst e
                        rw [← HX.out]
                        refine ⟨H20.out, HT.out, HV.out, H100.out, fun r hr => ?_⟩
                        obtain ⟨i, hi, rfl⟩ := List.mem_iff_getElem.1 hr
                        exact HALL2.out i hi hi
                      · exact HALL.out j hj (by omega))
                    go_wp2_with fail
                    go_roundw
                    case rel => exact ⟨k + 1, by first | rfl | (rw [hwk]; rfl), HLT.out, HNX.out, HB4.out⟩
                    case measure => first | exact less_step rfl HLT.out | exact less_step hwk HLT.out
            · clear hv
              obtain ⟨d1, _, _, _, _, _, _, _, _, _, _, d22⟩ := HCS.out w3 HB3.out
              go_wp2_with fail
              exact HNO.out w3 HB3.out
          · clear ht
            obtain ⟨d1, _, _, _, _, _, d3, d4, d5, d6, d7, d22⟩ := HCS.out w2 HB2.out
            go_wp2_with fail
            exact HNO.out w2 HB2.out
      · have hke : k = l.length := by omega
        subst hke
        have HYES : Hid (Q (.returned (.bool true)) wr) := Lib.hid (by
          rw [HQ.out]
          refine ⟨true, rfl, fun _ => ⟨HL.out, fun x hx => ?_⟩, HB.out⟩
          obtain ⟨i, hi, rfl⟩ := List.mem_iff_getElem.1 hx
          exact HALL.out i hi hi)
        go_wp2_with fail
        exact HYES.out
end Go.Proofs.YtiekbhlnnmnklaaGreat


namespace Go.Proofs.YtiekbhlnnmnklaaGreat
open Go.RowKit Go.Shelf Go.Maps Lvl Trm Env

namespace Env
/-- Two boxes of infos. -/
theorem boxes (w : World) (cs ds : Array Value) (t : TypeId) (j : Nat) : ((w.alloc (.cells cs t)).alloc (.cells ds t)).cell? ⟨w.heap.size, j, none⟩ = cs[j]? ∧ ((w.alloc (.cells cs t)).alloc (.cells ds t)).cell? ⟨w.heap.size + 1, j, none⟩ = ds[j]? := by
  have h1 := new1of2 w (.cells cs t) (.cells ds t)
  have h2 := new2 w (.cells cs t) (.cells ds t)
  unfold World.cell?
  constructor
  · show (match ((w.alloc (.cells cs t)).alloc (.cells ds t)).heap[w.heap.size]? with | some (.cells c _ _) => c[j]? | _ => none) = _
    rw [h1]
  · show (match ((w.alloc (.cells cs t)).alloc (.cells ds t)).heap[w.heap.size + 1]? with | some (.cells c _ _) => c[j]? | _ => none) = _
    rw [h2]
def rl7 (r : Rl) (hd : Hd) : List Value := [.string r.ctor, .int .i64 r.fields, .int .u8 r.body.k, .int .i64 r.body.n, .string r.body.s, .slice hd.lo r.body.ls.length hd.lc, .slice hd.to r.body.ts.length hd.tc]
end Env

set_option maxRecDepth 100000 in
set_option maxHeartbeats 8000000 in
theorem same7_any (x : Inf) (h g : IHd) (w : World) (h1 : x.In w.heap.size w h) (h2 : x.In w.heap.size w g) (hr : x.rules.length ≤ 1000) :
    Calls Tryz.prog 24 #[.agg (x.vals h).toArray, .agg (x.vals g).toArray] w fun e w' => e = .returned (.bool true) ∧ Below w.heap.size w w' := by
  obtain ⟨cs, hcs⟩ : ∃ cs, cs = (x.vals h).toArray := ⟨_, rfl⟩
  obtain ⟨ds, hds⟩ : ∃ ds, ds = (x.vals g).toArray := ⟨_, rfl⟩
  obtain ⟨WA, hWA⟩ : ∃ WA, WA = (w.alloc (.cells cs 46)).alloc (.cells ds 46) := ⟨_, rfl⟩
  have HBA := Lib.hid (show Below w.heap.size w WA from hWA ▸ below_two _ _ _)
  have HX := Lib.hid (show IBox WA w.heap.size x h from by rw [hWA, hcs]; exact new1of2 _ _ _)
  have HY := Lib.hid (show IBox WA (w.heap.size + 1) x g from by rw [hWA, hds]; exact new2 _ _ _)
  have HI1 := Lib.hid (Inf.carry h1 HBA.out)
  have HI2 := Lib.hid (Inf.carry h2 HBA.out)
  have HR := Lib.hid hr
  rw [← hcs, ← hds]
  have HC1 : ∀ j, ((w.alloc (.cells cs 46)).alloc (.cells ds 46)).cell? ⟨w.heap.size, j, none⟩ = (x.vals h)[j]? := fun j => by rw [(boxes w cs ds _ j).1, hcs]; simp
  have HC2 : ∀ j, ((w.alloc (.cells cs 46)).alloc (.cells ds 46)).cell? ⟨w.heap.size + 1, j, none⟩ = (x.vals g)[j]? := fun j => by rw [(boxes w cs ds _ j).2, hds]; simp
  have c0 : ((w.alloc (.cells cs 46)).alloc (.cells ds 46)).cell? ⟨w.heap.size, 0, none⟩ = some (.int .u8 x.kind) := HC1 0
  have d0 : ((w.alloc (.cells cs 46)).alloc (.cells ds 46)).cell? ⟨w.heap.size + 1, 0, none⟩ = some (.int .u8 x.kind) := HC2 0
  have c1 : ((w.alloc (.cells cs 46)).alloc (.cells ds 46)).cell? ⟨w.heap.size, 1, none⟩ = some (.string x.name) := HC1 1
  have d1 : ((w.alloc (.cells cs 46)).alloc (.cells ds 46)).cell? ⟨w.heap.size + 1, 1, none⟩ = some (.string x.name) := HC2 1
  have c2 : ((w.alloc (.cells cs 46)).alloc (.cells ds 46)).cell? ⟨w.heap.size, 2, none⟩ = some (.int .i64 x.params) := HC1 2
  have d2 : ((w.alloc (.cells cs 46)).alloc (.cells ds 46)).cell? ⟨w.heap.size + 1, 2, none⟩ = some (.int .i64 x.params) := HC2 2
  have c13 : ((w.alloc (.cells cs 46)).alloc (.cells ds 46)).cell? ⟨w.heap.size, 13, none⟩ = some (.int .i64 x.height) := HC1 13
  have d13 : ((w.alloc (.cells cs 46)).alloc (.cells ds 46)).cell? ⟨w.heap.size + 1, 13, none⟩ = some (.int .i64 x.height) := HC2 13
  have c14 : ((w.alloc (.cells cs 46)).alloc (.cells ds 46)).cell? ⟨w.heap.size, 14, none⟩ = some (.string x.block) := HC1 14
  have d14 : ((w.alloc (.cells cs 46)).alloc (.cells ds 46)).cell? ⟨w.heap.size + 1, 14, none⟩ = some (.string x.block) := HC2 14
  have c15 : ((w.alloc (.cells cs 46)).alloc (.cells ds 46)).cell? ⟨w.heap.size, 15, none⟩ = some (.string x.of_) := HC1 15
  have d15 : ((w.alloc (.cells cs 46)).alloc (.cells ds 46)).cell? ⟨w.heap.size + 1, 15, none⟩ = some (.string x.of_) := HC2 15
  have c16 : ((w.alloc (.cells cs 46)).alloc (.cells ds 46)).cell? ⟨w.heap.size, 16, none⟩ = some (.int .i64 x.fixed) := HC1 16
  have d16 : ((w.alloc (.cells cs 46)).alloc (.cells ds 46)).cell? ⟨w.heap.size + 1, 16, none⟩ = some (.int .i64 x.fixed) := HC2 16
  have c17 : ((w.alloc (.cells cs 46)).alloc (.cells ds 46)).cell? ⟨w.heap.size, 17, none⟩ = some (.int .i64 x.index) := HC1 17
  have d17 : ((w.alloc (.cells cs 46)).alloc (.cells ds 46)).cell? ⟨w.heap.size + 1, 17, none⟩ = some (.int .i64 x.index) := HC2 17
  have c18 : ((w.alloc (.cells cs 46)).alloc (.cells ds 46)).cell? ⟨w.heap.size, 18, none⟩ = some (.int .i64 x.no) := HC1 18
  have d18 : ((w.alloc (.cells cs 46)).alloc (.cells ds 46)).cell? ⟨w.heap.size + 1, 18, none⟩ = some (.int .i64 x.no) := HC2 18
  have c19 : ((w.alloc (.cells cs 46)).alloc (.cells ds 46)).cell? ⟨w.heap.size, 19, none⟩ = some (.int .i64 x.fields) := HC1 19
  have d19 : ((w.alloc (.cells cs 46)).alloc (.cells ds 46)).cell? ⟨w.heap.size + 1, 19, none⟩ = some (.int .i64 x.fields) := HC2 19
  have c20 : ((w.alloc (.cells cs 46)).alloc (.cells ds 46)).cell? ⟨w.heap.size, 20, none⟩ = some (.int .i64 x.motives) := HC1 20
  have d20 : ((w.alloc (.cells cs 46)).alloc (.cells ds 46)).cell? ⟨w.heap.size + 1, 20, none⟩ = some (.int .i64 x.motives) := HC2 20
  have c21 : ((w.alloc (.cells cs 46)).alloc (.cells ds 46)).cell? ⟨w.heap.size, 21, none⟩ = some (.int .i64 x.minors) := HC1 21
  have d21 : ((w.alloc (.cells cs 46)).alloc (.cells ds 46)).cell? ⟨w.heap.size + 1, 21, none⟩ = some (.int .i64 x.minors) := HC2 21
  have c22 : ((w.alloc (.cells cs 46)).alloc (.cells ds 46)).cell? ⟨w.heap.size, 22, none⟩ = some (.slice h.ro x.rules.length h.rc) := HC1 22
  have d22 : ((w.alloc (.cells cs 46)).alloc (.cells ds 46)).cell? ⟨w.heap.size + 1, 22, none⟩ = some (.slice g.ro x.rules.length g.rc) := HC2 22
  have c23 : ((w.alloc (.cells cs 46)).alloc (.cells ds 46)).cell? ⟨w.heap.size, 23, none⟩ = some (.int .i64 x.ctors) := HC1 23
  have d23 : ((w.alloc (.cells cs 46)).alloc (.cells ds 46)).cell? ⟨w.heap.size + 1, 23, none⟩ = some (.int .i64 x.ctors) := HC2 23
  have c24 : ((w.alloc (.cells cs 46)).alloc (.cells ds 46)).cell? ⟨w.heap.size, 24, none⟩ = some (.bool x.record) := HC1 24
  have d24 : ((w.alloc (.cells cs 46)).alloc (.cells ds 46)).cell? ⟨w.heap.size + 1, 24, none⟩ = some (.bool x.record) := HC2 24
  clear HC1 HC2 h1 h2 hr hcs hds
  go_enter Tryz.func24, Tryz.ntmps24
  go_upto_region 3 with fail
  rw [← hWA]
  clear hWA c0 d0 c1 d1 c2 d2 c13 d13 c14 d14 c15 d15 c16 d16 c17 d17 c18 d18 c19 d19 c20 d20 c21 d21 c22 d22 c23 d23 c24 d24
  have c22 : WA.cell? ⟨w.heap.size, 22, none⟩ = some (.slice h.ro x.rules.length h.rc) := HX.out.cell 22
  have d22 : WA.cell? ⟨w.heap.size + 1, 22, none⟩ = some (.slice g.ro x.rules.length g.rc) := HY.out.cell 22
  go_upto_region 4 with fail
  go_loopw [5] (fun i wr => ∃ k : Nat, i = .int .i64 k ∧ k ≤ x.rules.length ∧ Below WA.heap.size WA wr) (fun i _ => x.rules.length - (intOf i).toNat)
  case atStart => exact ⟨0, rfl, by omega, Below.refl _ _⟩
  case round =>
    obtain ⟨k, rfl, hk, hbel⟩ := hrel
    have HB := Lib.hid hbel
    have c22 : wr.cell? ⟨w.heap.size, 22, none⟩ = some (.slice h.ro x.rules.length h.rc) := (HX.out.keep hbel).cell 22
    have d22 : wr.cell? ⟨w.heap.size + 1, 22, none⟩ = some (.slice g.ro x.rules.length g.rc) := (HY.out.keep hbel).cell 22
    clear hbel
    by_cases hlt : k < x.rules.length
    · obtain ⟨b, off, hd, hlo, hb, hrg, hin⟩ := HI1.out.rules.place k hlt
      obtain ⟨b', off', hd', hlo', hb', hrg', hin'⟩ := HI2.out.rules.place k hlt
      obtain ⟨r, hr⟩ : ∃ r, r = x.rules[k] := ⟨_, rfl⟩
      rw [← hr] at hrg hrg' hin hin'
      have HP := Lib.hid (fun (W : World) (hW : Below WA.heap.size WA W) (j : Nat) (v : Value) (hv : (r.vals hd)[j]? = some v) => (range_below hrg hW hb j v hv : W.cell? ⟨b, off + k * 7 + j, none⟩ = some v))
      have HP' := Lib.hid (fun (W : World) (hW : Below WA.heap.size WA W) (j : Nat) (v : Value) (hv : (r.vals hd')[j]? = some v) => (range_below hrg' hW hb' j v hv : W.cell? ⟨b', off' + k * 7 + j, none⟩ = some v))
      have HSM := Lib.hid (fun (W : World) (hW : Below WA.heap.size WA W) => (same_iff.2 rfl : same r.body r.body = true) ▸ RefSame_any r.body r.body hd hd' W (carry hin hW) (carry hin' hW))
      have HSX := Lib.hid (fun (W : World) (hW : Below WA.heap.size WA W) => (⟨(HX.out.keep hW).cell 22, (HY.out.keep hW).cell 22⟩ : W.cell? ⟨w.heap.size, 22, none⟩ = some (.slice h.ro x.rules.length h.rc) ∧ W.cell? ⟨w.heap.size + 1, 22, none⟩ = some (.slice g.ro x.rules.length g.rc)))
      have hwk : wrap64 ((k : Int) + 1) = (k : Int) + 1 := IntWalk.wrap64_in _ (by have := HR.out; omega)
      have hwk2 : IntKind.i64.wrap ((k : Int) + 1) = (k : Int) + 1 := IntWalk.i64_in _ (by have := HR.out; omega)
      rw [hlo] at c22 HSX
      rw [hlo'] at d22 HSX
      have HLT := Lib.hid hlt
      clear hrg hrg' hin hin' hr hlo hlo' hb hb'
      unfold Tm.val Tm.vals at HSM
      go_upto_region 6 with fail
      refine wp_region_held_drew (S := fun w' => w'.cell? ⟨w.heap.size, 22, none⟩ = some (.slice (some ⟨b, off, none⟩) x.rules.length h.rc) ∧ w'.cell? ⟨w.heap.size + 1, 22, none⟩ = some (.slice (some ⟨b', off', none⟩) x.rules.length g.rc) ∧ w'.cell? ⟨b, off + k * 7, none⟩ = some (.string r.ctor) ∧ w'.cell? ⟨b, off + k * 7 + 1, none⟩ = some (.int .i64 r.fields) ∧ w'.cell? ⟨b, off + k * 7 + 2, none⟩ = some (.int .u8 r.body.k) ∧ w'.cell? ⟨b, off + k * 7 + 3, none⟩ = some (.int .i64 r.body.n) ∧ w'.cell? ⟨b, off + k * 7 + 4, none⟩ = some (.string r.body.s) ∧ w'.cell? ⟨b, off + k * 7 + 5, none⟩ = some (.slice hd.lo r.body.ls.length hd.lc) ∧ w'.cell? ⟨b, off + k * 7 + 6, none⟩ = some (.slice hd.to r.body.ts.length hd.tc) ∧ w'.cell? ⟨b', off' + k * 7, none⟩ = some (.string r.ctor) ∧ w'.cell? ⟨b', off' + k * 7 + 1, none⟩ = some (.int .i64 r.fields) ∧ w'.cell? ⟨b', off' + k * 7 + 2, none⟩ = some (.int .u8 r.body.k) ∧ w'.cell? ⟨b', off' + k * 7 + 3, none⟩ = some (.int .i64 r.body.n) ∧ w'.cell? ⟨b', off' + k * 7 + 4, none⟩ = some (.string r.body.s) ∧ w'.cell? ⟨b', off' + k * 7 + 5, none⟩ = some (.slice hd'.lo r.body.ls.length hd'.lc) ∧ w'.cell? ⟨b', off' + k * 7 + 6, none⟩ = some (.slice hd'.to r.body.ts.length hd'.tc)) (by kernel_rfl) (⟨(HSX.out wr.drew HB.out.drew).1, (HSX.out wr.drew HB.out.drew).2, HP.out wr.drew HB.out.drew 0 _ rfl, HP.out wr.drew HB.out.drew 1 _ rfl, HP.out wr.drew HB.out.drew 2 _ rfl, HP.out wr.drew HB.out.drew 3 _ rfl, HP.out wr.drew HB.out.drew 4 _ rfl, HP.out wr.drew HB.out.drew 5 _ rfl, HP.out wr.drew HB.out.drew 6 _ rfl, HP'.out wr.drew HB.out.drew 0 _ rfl, HP'.out wr.drew HB.out.drew 1 _ rfl, HP'.out wr.drew HB.out.drew 2 _ rfl, HP'.out wr.drew HB.out.drew 3 _ rfl, HP'.out wr.drew HB.out.drew 4 _ rfl, HP'.out wr.drew HB.out.drew 5 _ rfl, HP'.out wr.drew HB.out.drew 6 _ rfl⟩) (fun hHeld => ?_)
      refine wpAnyH_take (i := 0) (v := ?vsm0) rfl (by kernel_rfl) (by kernel_rfl) (by kernel_rfl) (fun _ _ _ h => h) (Or.inl ⟨by rfl, ?hysm0⟩) (by assumption) ?restsm0
      case hysm0 => (intro w hSw; (try dsimp only at hSw); go_simp <;> with_reducible rfl)
      try simp only [List.getElem_toArray, List.getElem_cons_zero, Act.put, List.setIfInBounds_toArray, List.set_cons_zero, List.set_cons_succ]
      refine wpAnyH_take (i := 1) (v := ?vsm1) rfl (by kernel_rfl) (by kernel_rfl) (by kernel_rfl) (fun _ _ _ h => h) (Or.inl ⟨by rfl, ?hysm1⟩) (by assumption) ?restsm1
      case hysm1 => (intro w hSw; (try dsimp only at hSw); go_simp <;> with_reducible rfl)
      try simp only [List.getElem_toArray, List.getElem_cons_succ, List.getElem_cons_zero, Act.put, List.setIfInBounds_toArray, List.set_cons_zero, List.set_cons_succ]
      refine wpAnyH_take (i := 2) (v := ?vsm2) rfl (by kernel_rfl) (by kernel_rfl) (by kernel_rfl) (fun _ _ _ h => h) (Or.inl ⟨by rfl, ?hysm2⟩) (by assumption) ?restsm2
      case hysm2 => (intro w hSw; (try dsimp only at hSw); go_simp <;> with_reducible rfl)
      try simp only [List.getElem_toArray, List.getElem_cons_succ, List.getElem_cons_zero, Act.put, List.setIfInBounds_toArray, List.set_cons_zero, List.set_cons_succ]
      refine wpAnyH_take (i := 3) (v := ?vsm3) rfl (by kernel_rfl) (by kernel_rfl) (by kernel_rfl) (fun _ _ _ h => h) (Or.inl ⟨by rfl, ?hysm3⟩) (by assumption) ?restsm3
      case hysm3 => (intro w hSw; (try dsimp only at hSw); go_simp <;> with_reducible rfl)
      try simp only [List.getElem_toArray, List.getElem_cons_succ, List.getElem_cons_zero, Act.put, List.setIfInBounds_toArray, List.set_cons_zero, List.set_cons_succ]
      refine wpAnyH_take (i := 4) (v := ?vsm4) rfl (by kernel_rfl) (by kernel_rfl) (by kernel_rfl) (fun _ _ _ h => h) (Or.inl ⟨by rfl, ?hysm4⟩) (by assumption) ?restsm4
      case hysm4 => (intro w hSw; (try dsimp only at hSw); go_simp <;> with_reducible rfl)
      try simp only [List.getElem_toArray, List.getElem_cons_succ, List.getElem_cons_zero, Act.put, List.setIfInBounds_toArray, List.set_cons_zero, List.set_cons_succ]
      refine wpAnyH_take (i := 5) (v := ?vsm5) rfl (by kernel_rfl) (by kernel_rfl) (by kernel_rfl) (fun _ _ _ h => h) (Or.inl ⟨by rfl, ?hysm5⟩) (by assumption) ?restsm5
      case hysm5 => (intro w hSw; (try dsimp only at hSw); go_simp <;> with_reducible rfl)
      try simp only [List.getElem_toArray, List.getElem_cons_succ, List.getElem_cons_zero, Act.put, List.setIfInBounds_toArray, List.set_cons_zero, List.set_cons_succ]
      refine wpAnyH_take (i := 6) (v := ?vsm6) rfl (by kernel_rfl) (by kernel_rfl) (by kernel_rfl) (fun _ _ _ h => h) (Or.inl ⟨by rfl, ?hysm6⟩) (by assumption) ?restsm6
      case hysm6 => (intro w hSw; (try dsimp only at hSw); go_simp <;> with_reducible rfl)
      try simp only [List.getElem_toArray, List.getElem_cons_succ, List.getElem_cons_zero, Act.put, List.setIfInBounds_toArray, List.set_cons_zero, List.set_cons_succ]
      refine wpAnyH_take (i := 7) (v := ?vsm7) rfl (by kernel_rfl) (by kernel_rfl) (by kernel_rfl) (fun _ _ _ h => h) (Or.inl ⟨by rfl, ?hysm7⟩) (by assumption) ?restsm7
      case hysm7 => (intro w hSw; (try dsimp only at hSw); go_simp <;> with_reducible rfl)
      try simp only [List.getElem_toArray, List.getElem_cons_succ, List.getElem_cons_zero, Act.put, List.setIfInBounds_toArray, List.set_cons_zero, List.set_cons_succ]
      refine wpAnyH_take (i := 8) (v := ?vsm8) rfl (by kernel_rfl) (by kernel_rfl) (by kernel_rfl) (fun _ _ _ h => h) (Or.inl ⟨by rfl, ?hysm8⟩) (by assumption) ?restsm8
      case hysm8 => (intro w hSw; (try dsimp only at hSw); go_simp <;> with_reducible rfl)
      try simp only [List.getElem_toArray, List.getElem_cons_succ, List.getElem_cons_zero, Act.put, List.setIfInBounds_toArray, List.set_cons_zero, List.set_cons_succ]
      refine wpAnyH_take (i := 9) (v := ?vsm9) rfl (by kernel_rfl) (by kernel_rfl) (by kernel_rfl) (fun _ _ _ h => h) (Or.inl ⟨by rfl, ?hysm9⟩) (by assumption) ?restsm9
      case hysm9 => (intro w hSw; (try dsimp only at hSw); go_simp <;> with_reducible rfl)
      try simp only [List.getElem_toArray, List.getElem_cons_succ, List.getElem_cons_zero, Act.put, List.setIfInBounds_toArray, List.set_cons_zero, List.set_cons_succ]
      refine wpAnyH_take (i := 10) (v := ?vsm10) rfl (by kernel_rfl) (by kernel_rfl) (by kernel_rfl) (fun _ _ _ h => h) (Or.inl ⟨by rfl, ?hysm10⟩) (by assumption) ?restsm10
      case hysm10 => (intro w hSw; (try dsimp only at hSw); go_simp <;> with_reducible rfl)
      try simp only [List.getElem_toArray, List.getElem_cons_succ, List.getElem_cons_zero, Act.put, List.setIfInBounds_toArray, List.set_cons_zero, List.set_cons_succ]
      refine wpAnyH_take (i := 11) (v := ?vsm11) rfl (by kernel_rfl) (by kernel_rfl) (by kernel_rfl) (fun _ _ _ h => h) (Or.inl ⟨by rfl, ?hysm11⟩) (by assumption) ?restsm11
      case hysm11 => (intro w hSw; (try dsimp only at hSw); go_simp <;> with_reducible rfl)
      try simp only [List.getElem_toArray, List.getElem_cons_succ, List.getElem_cons_zero, Act.put, List.setIfInBounds_toArray, List.set_cons_zero, List.set_cons_succ]
      refine wpAnyH_take (i := 12) (v := ?vsm12) rfl (by kernel_rfl) (by kernel_rfl) (by kernel_rfl) (fun _ _ _ h => h) (Or.inl ⟨by rfl, ?hysm12⟩) (by assumption) ?restsm12
      case hysm12 => (intro w hSw; (try dsimp only at hSw); go_simp <;> with_reducible rfl)
      try simp only [List.getElem_toArray, List.getElem_cons_succ, List.getElem_cons_zero, Act.put, List.setIfInBounds_toArray, List.set_cons_zero, List.set_cons_succ]
      refine wpAnyH_take (i := 13) (v := ?vsm13) rfl (by kernel_rfl) (by kernel_rfl) (by kernel_rfl) (fun _ _ _ h => h) (Or.inl ⟨by rfl, ?hysm13⟩) (by assumption) ?restsm13
      case hysm13 => (intro w hSw; (try dsimp only at hSw); go_simp <;> with_reducible rfl)
      try simp only [List.getElem_toArray, List.getElem_cons_succ, List.getElem_cons_zero, Act.put, List.setIfInBounds_toArray, List.set_cons_zero, List.set_cons_succ]
      refine wpAnyH_take (i := 14) (v := ?vsm14) rfl (by kernel_rfl) (by kernel_rfl) (by kernel_rfl) (fun _ _ _ h => h) (Or.inl ⟨by rfl, ?hysm14⟩) (by assumption) ?restsm14
      case hysm14 => (intro w hSw; (try dsimp only at hSw); go_simp <;> with_reducible rfl)
      try simp only [List.getElem_toArray, List.getElem_cons_succ, List.getElem_cons_zero, Act.put, List.setIfInBounds_toArray, List.set_cons_zero, List.set_cons_succ]
      refine wpAnyH_take (i := 15) (v := ?vsm15) rfl (by kernel_rfl) (by kernel_rfl) (by kernel_rfl) (fun _ _ _ h => h) (Or.inl ⟨by rfl, ?hysm15⟩) (by assumption) ?restsm15
      case hysm15 => (intro w hSw; (try dsimp only at hSw); go_simp <;> with_reducible rfl)
      try simp only [List.getElem_toArray, List.getElem_cons_succ, List.getElem_cons_zero, Act.put, List.setIfInBounds_toArray, List.set_cons_zero, List.set_cons_succ]
      refine wpAnyH_take (i := 16) (v := ?vsm16) rfl (by kernel_rfl) (by kernel_rfl) (by kernel_rfl) (fun _ _ _ h => h) (Or.inl ⟨by rfl, ?hysm16⟩) (by assumption) ?restsm16
      case hysm16 => (intro w hSw; (try dsimp only at hSw); go_simp <;> with_reducible rfl)
      try simp only [List.getElem_toArray, List.getElem_cons_succ, List.getElem_cons_zero, Act.put, List.setIfInBounds_toArray, List.set_cons_zero, List.set_cons_succ]
      refine wpAnyH_take (i := 17) (v := ?vsm17) rfl (by kernel_rfl) (by kernel_rfl) (by kernel_rfl) (fun _ _ _ h => h) (Or.inl ⟨by rfl, ?hysm17⟩) (by assumption) ?restsm17
      case hysm17 => (intro w hSw; (try dsimp only at hSw); go_simp <;> with_reducible rfl)
      try simp only [List.getElem_toArray, List.getElem_cons_succ, List.getElem_cons_zero, Act.put, List.setIfInBounds_toArray, List.set_cons_zero, List.set_cons_succ]
      refine wpAnyH_take (i := 18) (v := ?vsm18) rfl (by kernel_rfl) (by kernel_rfl) (by kernel_rfl) (fun _ _ _ h => h) (Or.inl ⟨by rfl, ?hysm18⟩) (by assumption) ?restsm18
      case hysm18 => (intro w hSw; (try dsimp only at hSw); go_simp <;> with_reducible rfl)
      try simp only [List.getElem_toArray, List.getElem_cons_succ, List.getElem_cons_zero, Act.put, List.setIfInBounds_toArray, List.set_cons_zero, List.set_cons_succ]
      refine wpAnyH_take (i := 19) (v := ?vsm19) rfl (by kernel_rfl) (by kernel_rfl) (by kernel_rfl) (fun _ _ _ h => h) (Or.inl ⟨by rfl, ?hysm19⟩) (by assumption) ?restsm19
      case hysm19 => (intro w hSw; (try dsimp only at hSw); go_simp <;> with_reducible rfl)
      try simp only [List.getElem_toArray, List.getElem_cons_succ, List.getElem_cons_zero, Act.put, List.setIfInBounds_toArray, List.set_cons_zero, List.set_cons_succ]
      refine wpAnyH_take (i := 20) (v := ?vsm20) rfl (by kernel_rfl) (by kernel_rfl) (by kernel_rfl) (fun _ _ _ h => h) (Or.inl ⟨by rfl, ?hysm20⟩) (by assumption) ?restsm20
      case hysm20 => (intro w hSw; (try dsimp only at hSw); go_simp <;> with_reducible rfl)
      try simp only [List.getElem_toArray, List.getElem_cons_succ, List.getElem_cons_zero, Act.put, List.setIfInBounds_toArray, List.set_cons_zero, List.set_cons_succ]
      refine wpAnyH_take (i := 21) (v := ?vsm21) rfl (by kernel_rfl) (by kernel_rfl) (by kernel_rfl) (fun _ _ _ h => h) (Or.inl ⟨by rfl, ?hysm21⟩) (by assumption) ?restsm21
      case hysm21 => (intro w hSw; (try dsimp only at hSw); go_simp <;> with_reducible rfl)
      try simp only [List.getElem_toArray, List.getElem_cons_succ, List.getElem_cons_zero, Act.put, List.setIfInBounds_toArray, List.set_cons_zero, List.set_cons_succ]
      refine wpAnyH_take (i := 22) (v := ?vsm22) rfl (by kernel_rfl) (by kernel_rfl) (by kernel_rfl) (fun _ _ _ h => h) (Or.inl ⟨by rfl, ?hysm22⟩) (by assumption) ?restsm22
      case hysm22 => (intro w hSw; (try dsimp only at hSw); go_simp <;> with_reducible rfl)
      try simp only [List.getElem_toArray, List.getElem_cons_succ, List.getElem_cons_zero, Act.put, List.setIfInBounds_toArray, List.set_cons_zero, List.set_cons_succ]
      refine wpAnyH_take (i := 23) (v := ?vsm23) rfl (by kernel_rfl) (by kernel_rfl) (by kernel_rfl) (fun _ _ _ h => h) (Or.inl ⟨by rfl, ?hysm23⟩) (by assumption) ?restsm23
      case hysm23 => (intro w hSw; (try dsimp only at hSw); go_simp <;> with_reducible rfl)
      try simp only [List.getElem_toArray, List.getElem_cons_succ, List.getElem_cons_zero, Act.put, List.setIfInBounds_toArray, List.set_cons_zero, List.set_cons_succ]
      refine wpAnyH_take (i := 24) (v := ?vsm24) rfl (by kernel_rfl) (by kernel_rfl) (by kernel_rfl) (fun _ _ _ h => h) (Or.inl ⟨by rfl, ?hysm24⟩) (by assumption) ?restsm24
      case hysm24 => (intro w hSw; (try dsimp only at hSw); go_simp <;> with_reducible rfl)
      try simp only [List.getElem_toArray, List.getElem_cons_succ, List.getElem_cons_zero, Act.put, List.setIfInBounds_toArray, List.set_cons_zero, List.set_cons_succ]
      refine wpAnyH_take (i := 25) (v := ?vsm25) rfl (by kernel_rfl) (by kernel_rfl) (by kernel_rfl) (fun _ _ _ h => h) (Or.inl ⟨by rfl, ?hysm25⟩) (by assumption) ?restsm25
      case hysm25 => (intro w hSw; (try dsimp only at hSw); go_simp <;> with_reducible rfl)
      try simp only [List.getElem_toArray, List.getElem_cons_succ, List.getElem_cons_zero, Act.put, List.setIfInBounds_toArray, List.set_cons_zero, List.set_cons_succ]
      refine wpAnyH_take (i := 26) (v := ?vsm26) rfl (by kernel_rfl) (by kernel_rfl) (by kernel_rfl) (fun _ _ _ h => h) (Or.inl ⟨by rfl, ?hysm26⟩) (by assumption) ?restsm26
      case hysm26 => (intro w hSw; (try dsimp only at hSw); go_simp <;> with_reducible rfl)
      try simp only [List.getElem_toArray, List.getElem_cons_succ, List.getElem_cons_zero, Act.put, List.setIfInBounds_toArray, List.set_cons_zero, List.set_cons_succ]
      refine wpAnyH_take (i := 27) (v := ?vsm27) rfl (by kernel_rfl) (by kernel_rfl) (by kernel_rfl) (fun _ _ _ h => h) (Or.inl ⟨by rfl, ?hysm27⟩) (by assumption) ?restsm27
      case hysm27 => (intro w hSw; (try dsimp only at hSw); go_simp <;> with_reducible rfl)
      try simp only [List.getElem_toArray, List.getElem_cons_succ, List.getElem_cons_zero, Act.put, List.setIfInBounds_toArray, List.set_cons_zero, List.set_cons_succ]
      refine wpAnyH_take (i := 28) (v := ?vsm28) rfl (by kernel_rfl) (by kernel_rfl) (by kernel_rfl) (fun _ _ _ h => h) (Or.inl ⟨by rfl, ?hysm28⟩) (by assumption) ?restsm28
      case hysm28 => (intro w hSw; (try dsimp only at hSw); go_simp <;> with_reducible rfl)
      try simp only [List.getElem_toArray, List.getElem_cons_succ, List.getElem_cons_zero, Act.put, List.setIfInBounds_toArray, List.set_cons_zero, List.set_cons_succ]
      refine wpAnyH_take (i := 29) (v := ?vsm29) rfl (by kernel_rfl) (by kernel_rfl) (by kernel_rfl) (fun _ _ _ h => h) (Or.inl ⟨by rfl, ?hysm29⟩) (by assumption) ?restsm29
      case hysm29 => (intro w hSw; (try dsimp only at hSw); go_simp <;> with_reducible rfl)
      try simp only [List.getElem_toArray, List.getElem_cons_succ, List.getElem_cons_zero, Act.put, List.setIfInBounds_toArray, List.set_cons_zero, List.set_cons_succ]
      refine wpAnyH_take (i := 30) (v := ?vsm30) rfl (by kernel_rfl) (by kernel_rfl) (by kernel_rfl) (fun _ _ _ h => h) (Or.inl ⟨by rfl, ?hysm30⟩) (by assumption) ?restsm30
      case hysm30 => (intro w hSw; (try dsimp only at hSw); go_simp <;> with_reducible rfl)
      try simp only [List.getElem_toArray, List.getElem_cons_succ, List.getElem_cons_zero, Act.put, List.setIfInBounds_toArray, List.set_cons_zero, List.set_cons_succ]
      refine wpAnyH_take (i := 31) (v := ?vsm31) rfl (by kernel_rfl) (by kernel_rfl) (by kernel_rfl) (fun _ _ _ h => h) (Or.inl ⟨by rfl, ?hysm31⟩) (by assumption) ?restsm31
      case hysm31 => (intro w hSw; (try dsimp only at hSw); go_simp <;> with_reducible rfl)
      try simp only [List.getElem_toArray, List.getElem_cons_succ, List.getElem_cons_zero, Act.put, List.setIfInBounds_toArray, List.set_cons_zero, List.set_cons_succ]
      refine wpAnyH_take (i := 32) (v := ?vsm32) rfl (by kernel_rfl) (by kernel_rfl) (by kernel_rfl) (fun _ _ _ h => h) (Or.inl ⟨by rfl, ?hysm32⟩) (by assumption) ?restsm32
      case hysm32 => (intro w hSw; (try dsimp only at hSw); go_simp <;> with_reducible rfl)
      try simp only [List.getElem_toArray, List.getElem_cons_succ, List.getElem_cons_zero, Act.put, List.setIfInBounds_toArray, List.set_cons_zero, List.set_cons_succ]
      refine wpAnyH_take (i := 33) (v := ?vsm33) rfl (by kernel_rfl) (by kernel_rfl) (by kernel_rfl) (fun _ _ _ h => h) (Or.inl ⟨by rfl, ?hysm33⟩) (by assumption) ?restsm33
      case hysm33 => (intro w hSw; (try dsimp only at hSw); go_simp <;> with_reducible rfl)
      try simp only [List.getElem_toArray, List.getElem_cons_succ, List.getElem_cons_zero, Act.put, List.setIfInBounds_toArray, List.set_cons_zero, List.set_cons_succ]
      refine wpAnyH_take (i := 34) (v := ?vsm34) rfl (by kernel_rfl) (by kernel_rfl) (by kernel_rfl) (fun _ _ _ h => h) (Or.inl ⟨by rfl, ?hysm34⟩) (by assumption) ?restsm34
      case hysm34 => (intro w hSw; (try dsimp only at hSw); go_simp <;> with_reducible rfl)
      try simp only [List.getElem_toArray, List.getElem_cons_succ, List.getElem_cons_zero, Act.put, List.setIfInBounds_toArray, List.set_cons_zero, List.set_cons_succ]
      refine wpAnyH_take (i := 35) (v := ?vsm35) rfl (by kernel_rfl) (by kernel_rfl) (by kernel_rfl) (fun _ _ _ h => h) (Or.inl ⟨by rfl, ?hysm35⟩) (by assumption) ?restsm35
      case hysm35 => (intro w hSw; (try dsimp only at hSw); go_simp <;> with_reducible rfl)
      try simp only [List.getElem_toArray, List.getElem_cons_succ, List.getElem_cons_zero, Act.put, List.setIfInBounds_toArray, List.set_cons_zero, List.set_cons_succ]
      refine wpAnyH_take (i := 36) (v := ?vsm36) rfl (by kernel_rfl) (by kernel_rfl) (by kernel_rfl) (fun _ _ _ h => h) (Or.inl ⟨by rfl, ?hysm36⟩) (by assumption) ?restsm36
      case hysm36 => (intro w hSw; (try dsimp only at hSw); go_simp <;> with_reducible rfl)
      try simp only [List.getElem_toArray, List.getElem_cons_succ, List.getElem_cons_zero, Act.put, List.setIfInBounds_toArray, List.set_cons_zero, List.set_cons_succ]
      refine wpAnyH_take (i := 37) (v := ?vsm37) rfl (by kernel_rfl) (by kernel_rfl) (by kernel_rfl) (fun _ _ _ h => h) (Or.inl ⟨by rfl, ?hysm37⟩) (by assumption) ?restsm37
      case hysm37 => (intro w hSw; (try dsimp only at hSw); go_simp <;> with_reducible rfl)
      try simp only [List.getElem_toArray, List.getElem_cons_succ, List.getElem_cons_zero, Act.put, List.setIfInBounds_toArray, List.set_cons_zero, List.set_cons_succ]
      refine wpAnyH_take (i := 38) (v := ?vsm38) rfl (by kernel_rfl) (by kernel_rfl) (by kernel_rfl) (fun _ _ _ h => h) (Or.inl ⟨by rfl, ?hysm38⟩) (by assumption) ?restsm38
      case hysm38 => (intro w hSw; (try dsimp only at hSw); go_simp <;> with_reducible rfl)
      try simp only [List.getElem_toArray, List.getElem_cons_succ, List.getElem_cons_zero, Act.put, List.setIfInBounds_toArray, List.set_cons_zero, List.set_cons_succ]
      refine wpAnyH_take (i := 39) (v := ?vsm39) rfl (by kernel_rfl) (by kernel_rfl) (by kernel_rfl) (fun _ _ _ h => h) (Or.inl ⟨by rfl, ?hysm39⟩) (by assumption) ?restsm39
      case hysm39 => (intro w hSw; (try dsimp only at hSw); go_simp <;> with_reducible rfl)
      try simp only [List.getElem_toArray, List.getElem_cons_succ, List.getElem_cons_zero, Act.put, List.setIfInBounds_toArray, List.set_cons_zero, List.set_cons_succ]
      refine wpAnyH_take (i := 40) (v := ?vsm40) rfl (by kernel_rfl) (by kernel_rfl) (by kernel_rfl) (fun _ _ _ h => h) (Or.inl ⟨by rfl, ?hysm40⟩) (by assumption) ?restsm40
      case hysm40 => (intro w hSw; (try dsimp only at hSw); go_simp <;> with_reducible rfl)
      try simp only [List.getElem_toArray, List.getElem_cons_succ, List.getElem_cons_zero, Act.put, List.setIfInBounds_toArray, List.set_cons_zero, List.set_cons_succ]
      refine wpAnyH_ready (rs := [41]) (by kernel_rfl) (by simp) ?_
      refine AllReadyH.cons rfl (fun K hK => ?_) AllReadyH.nil
      go_simp
      refine (HSM.out _ HB.out.drew).mono ?_
      rintro y w2 ⟨rfl, b2⟩
      have HB2 := Lib.hid (Trm.go HB.out.drew b2)
      clear b2
      refine hK.out _ _ (⟨(HSX.out w2 HB2.out).1, (HSX.out w2 HB2.out).2, HP.out w2 HB2.out 0 _ rfl, HP.out w2 HB2.out 1 _ rfl, HP.out w2 HB2.out 2 _ rfl, HP.out w2 HB2.out 3 _ rfl, HP.out w2 HB2.out 4 _ rfl, HP.out w2 HB2.out 5 _ rfl, HP.out w2 HB2.out 6 _ rfl, HP'.out w2 HB2.out 0 _ rfl, HP'.out w2 HB2.out 1 _ rfl, HP'.out w2 HB2.out 2 _ rfl, HP'.out w2 HB2.out 3 _ rfl, HP'.out w2 HB2.out 4 _ rfl, HP'.out w2 HB2.out 5 _ rfl, HP'.out w2 HB2.out 6 _ rfl⟩) (fun hHeld => ?_)
      clear hK K
      try simp only [List.getElem_toArray, List.getElem_cons_succ, List.getElem_cons_zero, Act.put, List.setIfInBounds_toArray, List.set_cons_zero, List.set_cons_succ]
      refine wpAnyH_take (i := 42) (v := ?vsm42) rfl (by kernel_rfl) (by kernel_rfl) (by kernel_rfl) (fun _ _ _ h => h) (Or.inl ⟨by rfl, ?hysm42⟩) (by assumption) ?restsm42
      case hysm42 => (intro w hSw; (try dsimp only at hSw); go_simp <;> with_reducible rfl)
      try simp only [List.getElem_toArray, List.getElem_cons_succ, List.getElem_cons_zero, Act.put, List.setIfInBounds_toArray, List.set_cons_zero, List.set_cons_succ]
      refine wpAnyH_take (i := 43) (v := ?vsm43) rfl (by kernel_rfl) (by kernel_rfl) (by kernel_rfl) (fun _ _ _ h => h) (Or.inl ⟨by rfl, ?hysm43⟩) (by assumption) ?restsm43
      case hysm43 => (intro w hSw; (try dsimp only at hSw); go_simp <;> with_reducible rfl)
      try simp only [List.getElem_toArray, List.getElem_cons_succ, List.getElem_cons_zero, Act.put, List.setIfInBounds_toArray, List.set_cons_zero, List.set_cons_succ]
      refine wpAnyH_done (by kernel_rfl) ?_ _
      go_wp2_with fail
      go_roundw
      case rel => exact ⟨k + 1, rfl, HLT.out, HB2.out⟩
      case measure => exact less_step rfl HLT.out
    · have hke : k = x.rules.length := by omega
      subst hke
      go_upto_region 8 with fail
      obtain ⟨t0, t1, t2, t3, t4⟩ := (HX.out.keep HB.out).ty
      obtain ⟨u0, u1, u2, u3, u4⟩ := (HY.out.keep HB.out).ty
      have HS1 := Lib.hid ((same_iff.2 rfl : same x.ty x.ty = true) ▸ RefSame_any x.ty x.ty h.ty g.ty wr (carry HI1.out.ty HB.out) (carry HI2.out.ty HB.out))
      unfold Tm.val Tm.vals at HS1
      go_wp2_with fail
      refine HS1.out.mono ?_
      rintro y w2 ⟨rfl, b2⟩
      have HB2 := Lib.hid (Trm.go HB.out b2)
      clear b2 t0 t1 t2 t3 t4 u0 u1 u2 u3 u4
      obtain ⟨t0, t1, t2, t3, t4⟩ := (HX.out.keep HB2.out).va
      obtain ⟨u0, u1, u2, u3, u4⟩ := (HY.out.keep HB2.out).va
      have HS2 := Lib.hid ((same_iff.2 rfl : same x.va x.va = true) ▸ RefSame_any x.va x.va h.va g.va w2 (carry HI1.out.va HB2.out) (carry HI2.out.va HB2.out))
      unfold Tm.val Tm.vals at HS2
      go_wp2_with fail
      refine HS2.out.mono ?_
      rintro y w3 ⟨rfl, b3⟩
      have HB3 := Lib.hid (Trm.go HB2.out b3)
      clear b3
      go_wp2_with fail
      go_ret
      exact ⟨rfl, Trm.go HBA.out HB3.out⟩
end Go.Proofs.YtiekbhlnnmnklaaGreat


namespace Go.Proofs.YtiekbhlnnmnklaaGreat
open Go.Great
variable {P : Program}

theorem wp_bslice {o : Oper} {a : Act} {w : World} {K : Act → World → Prop} {Q : Exit → Act → World → Prop} (t e : TypeId) (len : Nat) (parts : Array (Nat × Operand)) (ho : o.op = .buildSlice t len parts) (dst : Option Tmp) (hdst : o.dst = dst)
    (cells : Array Value) (hu : P.underlying t = some (.slice e)) (hf : P.builtSlice e len (parts.map fun (i, x) => (i, a.eval x)).toList = some cells)
    (h : K (a.put dst (.slice (some ⟨w.heap.size, 0, none⟩) len len)) (w.alloc (.cells cells e))) : o.wp P a w K Q := by
  subst hdst
  unfold Program.builtSlice at hf
  split at hf
  · rename_i ie hie
    split at hf
    · rename_i z hz
      split at hf
      · cases hf
      · rename_i hc
        exact wp_buildSlice t e len parts ho cells ie z hu hie hz (fun h' => hc (Or.inl h')) (fun h' => hc (Or.inr h')) hf h
    · cases hf
  · cases hf
theorem wp_buildT {o : Oper} {a : Act} {w : World} {K : Act → World → Prop} {Q : Exit → Act → World → Prop} (t : TypeId) (parts : Array (Nat × Operand)) (ho : o.op = .build t parts) (dst : Option Tmp) (hdst : o.dst = dst)
    (cells : Array Value) (hf : P.built t (parts.map fun (i, x) => (i, a.eval x)).toList = some cells)
    (h : K (a.put dst (.agg cells)) w) : o.wp P a w K Q := by
  subst hdst
  refine wp_build t parts ho (by rw [hf]; rfl) ?_
  rw [hf]
  exact h
theorem wp_load_rowT {o : Oper} {a : Act} {w : World} {K : Act → World → Prop} {Q : Exit → Act → World → Prop} (ty : TypeId) (x : Operand) (ho : o.op = .load ty x) (dst : Option Tmp) (hdst : o.dst = dst)
    (g : Nat) (hx : a.eval x = .pointer (some ⟨g, 0, none⟩)) (t : TypeId) (cs : Array Value) (fr : Nat × Nat) (d : TypeDesc) (hg : w.heap[g]? = some (.cells cs t fr))
    (hu : P.underlying ty = some d) (hd : (match d with | .struct _ | .array _ _ => true | _ => false) = true) (hi : (P.info? ty).map (·.size) = some cs.size)
    (h : K (a.put dst (.agg cs)) w) : o.wp P a w K Q := by
  subst hdst
  exact wp_load_row ty x ho g hx t cs fr d hg hu hd hi h
/-- An operation whose guard says yes. -/
theorem wpList_yes {ops : Array Oper} {rest : List Oper} {o : Oper} {a : Act} {w : World} {Q : Exit → Act → World → Prop} (hw : Region.wanted o (yielded ops a.tmps) = true)
    (h : ∀ K : Act → World → Prop, (∀ a w, wpList P ops Q rest a w → K a w) → o.wp P a w K Q) : wpList P ops Q (o :: rest) a w :=
  wpList_step fun K hK => by rw [if_pos hw]; exact h K hK
theorem wpList_bsliceG {ops : Array Oper} {rest : List Oper} {o : Oper} {a : Act} {w : World} {Q : Exit → Act → World → Prop} (hw : Region.wanted o (yielded ops a.tmps) = true) (t e : TypeId) (len : Nat) (parts : Array (Nat × Operand)) (ho : o.op = .buildSlice t len parts) (dst : Option Tmp) (hdst : o.dst = dst)
    (cells : Array Value) (hu : P.underlying t = some (.slice e)) (hf : P.builtSlice e len (parts.map fun (i, x) => (i, a.eval x)).toList = some cells)
    (h : wpList P ops Q rest (a.put dst (.slice (some ⟨w.heap.size, 0, none⟩) len len)) (w.alloc (.cells cells e))) : wpList P ops Q (o :: rest) a w :=
  wpList_yes hw fun _ hK => wp_bslice t e len parts ho dst hdst cells hu hf (hK _ _ h)
theorem wpList_buildG {ops : Array Oper} {rest : List Oper} {o : Oper} {a : Act} {w : World} {Q : Exit → Act → World → Prop} (hw : Region.wanted o (yielded ops a.tmps) = true) (t : TypeId) (parts : Array (Nat × Operand)) (ho : o.op = .build t parts) (dst : Option Tmp) (hdst : o.dst = dst)
    (cells : Array Value) (hf : P.built t (parts.map fun (i, x) => (i, a.eval x)).toList = some cells)
    (h : wpList P ops Q rest (a.put dst (.agg cells)) w) : wpList P ops Q (o :: rest) a w :=
  wpList_yes hw fun _ hK => wp_buildT t parts ho dst hdst cells hf (hK _ _ h)
theorem wpList_load_rowG {ops : Array Oper} {rest : List Oper} {o : Oper} {a : Act} {w : World} {Q : Exit → Act → World → Prop} (hw : Region.wanted o (yielded ops a.tmps) = true) (ty : TypeId) (x : Operand) (ho : o.op = .load ty x) (dst : Option Tmp) (hdst : o.dst = dst)
    (g : Nat) (hx : a.eval x = .pointer (some ⟨g, 0, none⟩)) (t : TypeId) (cs : Array Value) (fr : Nat × Nat) (d : TypeDesc) (hg : w.heap[g]? = some (.cells cs t fr))
    (hu : P.underlying ty = some d) (hd : (match d with | .struct _ | .array _ _ => true | _ => false) = true) (hi : (P.info? ty).map (·.size) = some cs.size)
    (h : wpList P ops Q rest (a.put dst (.agg cs)) w) : wpList P ops Q (o :: rest) a w :=
  wpList_yes hw fun _ hK => wp_load_rowT ty x ho dst hdst g hx t cs fr d hg hu hd hi (hK _ _ h)
end Go.Proofs.YtiekbhlnnmnklaaGreat


namespace Go.Proofs.YtiekbhlnnmnklaaGreat
open Go.RowKit Go.Shelf Lvl Trm

section
variable {H : Type} {enc : TypeId × Value → H} {w : World} {base : Nat} {sp : Nat → Bool} {hd : Bool}

set_option maxRecDepth 100000 in
/-- Cells that read as a level. -/
theorem Trm.open_level {fuel : Nat} {cs : List Value} {x : DataW H × List MemPlace} (h : DataW.trod enc Tryz.prog w base sp hd fuel 61 cs = some x) :
    ∃ l : Lv, cs = [.int .i64 l.c, .int .i64 l.p0, .int .i64 l.p1, .int .i64 l.p2, .int .i64 l.p3] := by
  have hC : Tryz.prog.cellsOf 61 = 5 := by kernel_rfl
  have hI : Tryz.prog.cellsOf 3 = 1 := by kernel_rfl
  have hA : Tryz.prog.cellsOf 59 = 4 := by kernel_rfl
  obtain ⟨xs, n, _, _, hl, hxs, hf⟩ := DataW.trod_struct Tryz.underlying61 h
  rw [hC] at hl
  match cs, hl with
  | [v0, v1, v2, v3, v4], _ =>
    have g0 : DataW.trod enc Tryz.prog w base sp hd n 3 (([v0, v1, v2, v3, v4].drop 0).take (Tryz.prog.cellsOf 3)) = xs[0]? := hf 0 _ rfl
    have g1 : DataW.trod enc Tryz.prog w base sp hd n 59 (([v0, v1, v2, v3, v4].drop 1).take (Tryz.prog.cellsOf 59)) = xs[1]? := hf 1 _ rfl
    rw [hI] at g0
    rw [hA] at g1
    rw [List.getElem?_eq_getElem (by rw [hxs]; decide)] at g0 g1
    obtain ⟨z, hz, _, _⟩ := DataW.trod_int Tryz.underlying3 g0
    obtain ⟨ys, m, _, _, _, hys, ha⟩ := DataW.trod_array Tryz.underlying59 g1
    have a0 := ha 0 (by omega)
    have a1 := ha 1 (by omega)
    have a2 := ha 2 (by omega)
    have a3 := ha 3 (by omega)
    rw [hI] at a0 a1 a2 a3
    rw [List.getElem?_eq_getElem (by omega)] at a0 a1 a2 a3
    obtain ⟨z0, h0, _, _⟩ := DataW.trod_int Tryz.underlying3 a0
    obtain ⟨z1, h1, _, _⟩ := DataW.trod_int Tryz.underlying3 a1
    obtain ⟨z2, h2, _, _⟩ := DataW.trod_int Tryz.underlying3 a2
    obtain ⟨z3, h3, _, _⟩ := DataW.trod_int Tryz.underlying3 a3
    simp at hz h0 h1 h2 h3
    subst hz h0 h1 h2 h3
    exact ⟨⟨z, z0, z1, z2, z3⟩, rfl⟩

theorem Trm.add_none (b o i : Nat) : (⟨b, o, none⟩ : Addr).add i = ⟨b, o + i, none⟩ := by
  unfold Addr.add
  split
  · rename_i h; rw [h]; rfl
  · rfl
theorem Trm.add_zero (a : Addr) : a.add 0 = a := by simp [Addr.add]

set_option maxRecDepth 100000 in
/-- A slice that reads as levels. -/
theorem Trm.open_levels {fuel : Nat} {cs : List Value} {x : DataW H × List MemPlace} (h : DataW.trod enc Tryz.prog w base sp hd fuel 24 cs = some x) :
    ∃ (lo : Option Addr) (lc : Nat) (ls : List Lv), cs = [.slice lo ls.length lc] ∧ LRow w lo ls ∧ Low w.heap.size lo ls.length ∧ ls.length ≤ 9223372036854775807 := by
  have hC : Tryz.prog.cellsOf 61 = 5 := by kernel_rfl
  rcases DataW.trod_slice Tryz.underlying24 h with ⟨rfl, _⟩ | ⟨a, len, cap, elems, rest, n, _, rfl, _, _, hlc, hcm, hel, hall, _⟩
  · exact ⟨none, 0, [], rfl, ⟨fun k hk => by simp at hk⟩, fun hn => by simp at hn, by simp⟩
  · rw [hC] at hall
    have hnone : 0 < len → a.spot = none := fun h0 => by
      have hi' := hall 0 h0
      rw [List.getElem?_eq_getElem (by omega)] at hi'
      obtain ⟨cs, hcs, ht⟩ := Option.bind_eq_some_iff.1 hi'
      obtain ⟨_, _, hcell⟩ := World.cells?_some hcs
      obtain ⟨l, rfl⟩ := open_level ht
      have h0 := hcell 0 (by omega)
      rw [Nat.zero_mul, add_zero, add_zero] at h0
      exact World.cell?_spot (show w.cell? a = some (.int .i64 l.c) from h0)
    have key : ∀ i, i < len → ∃ l : Lv, ∃ b off, a = ⟨b, off, none⟩ ∧ LAt w b (off + i * 5) l := fun i hi => by
      have hi' := hall i hi
      rw [List.getElem?_eq_getElem (by omega)] at hi'
      obtain ⟨cs, hcs, ht⟩ := Option.bind_eq_some_iff.1 hi'
      obtain ⟨_, _, hcell⟩ := World.cells?_some hcs
      obtain ⟨l, rfl⟩ := open_level ht
      have hs := hnone (by omega)
      obtain ⟨b, off, spot⟩ := a
      dsimp only at hs
      subst hs
      simp only [add_none] at hcell
      exact ⟨l, b, off, rfl, hcell 0 (by omega), hcell 1 (by omega), hcell 2 (by omega), hcell 3 (by omega), hcell 4 (by omega)⟩
    have key2 : ∃ ls : List Lv, ls.length = len ∧ ∀ k (hk : k < ls.length), ∃ b off, a = ⟨b, off, none⟩ ∧ LAt w b (off + k * 5) ls[k] := by
      refine ⟨(List.range len).pmap (fun i hi => Classical.choose (key i hi)) (fun i hi => by simpa using hi), by simp, fun k hk => ?_⟩
      have hk' : k < len := by simpa using hk
      obtain ⟨b, off, ha, hl⟩ := Classical.choose_spec (key k hk')
      exact ⟨b, off, ha, by simpa using hl⟩
    obtain ⟨ls, rfl, hls⟩ := key2
    refine ⟨some a, cap, ls, rfl, ⟨fun k hk => ?_⟩, fun hn a' ha' => ?_, ?_⟩
    · obtain ⟨b, off, rfl, hl⟩ := hls k hk
      exact ⟨b, off, rfl, hl⟩
    · obtain ⟨b, off, rfl, hl⟩ := hls 0 hn
      cases ha'
      exact World.block_lt_of_cell? w _ hl.1
    · have : maxLen = 9223372036854775807 := rfl
      omega

set_option maxRecDepth 100000 in
/-- Cells that read as a term. -/
theorem Trm.open_term : ∀ (fuel : Nat) (cs : List Value) (x : DataW H × List MemPlace), DataW.trod enc Tryz.prog w base sp hd fuel 27 cs = some x →
    ∃ (t : Tm) (h : Hd), cs = (t.vals h).toList ∧ t.In w.heap.size w h := by
  have hC : Tryz.prog.cellsOf 27 = 5 := by kernel_rfl
  have hI : Tryz.prog.cellsOf 3 = 1 := by kernel_rfl
  have hU : Tryz.prog.cellsOf 5 = 1 := by kernel_rfl
  have hS : Tryz.prog.cellsOf 9 = 1 := by kernel_rfl
  have hL : Tryz.prog.cellsOf 24 = 1 := by kernel_rfl
  have hT : Tryz.prog.cellsOf 25 = 1 := by kernel_rfl
  intro fuel
  induction fuel using Nat.strongRecOn with
  | _ fuel ih =>
    intro cs x h
    obtain ⟨xs, n, hfu, _, hl, hxs, hf⟩ := DataW.trod_struct Tryz.underlying27 h
    rw [hC] at hl
    match cs, hl with
    | [v0, v1, v2, v3, v4], _ =>
      have g0 : DataW.trod enc Tryz.prog w base sp hd n 5 (([v0, v1, v2, v3, v4].drop 0).take (Tryz.prog.cellsOf 5)) = xs[0]? := hf 0 _ rfl
      rw [hU] at g0
      have g1 : DataW.trod enc Tryz.prog w base sp hd n 3 (([v0, v1, v2, v3, v4].drop 1).take (Tryz.prog.cellsOf 3)) = xs[1]? := hf 1 _ rfl
      rw [hI] at g1
      have g2 : DataW.trod enc Tryz.prog w base sp hd n 9 (([v0, v1, v2, v3, v4].drop 2).take (Tryz.prog.cellsOf 9)) = xs[2]? := hf 2 _ rfl
      rw [hS] at g2
      have g3 : DataW.trod enc Tryz.prog w base sp hd n 24 (([v0, v1, v2, v3, v4].drop 3).take (Tryz.prog.cellsOf 24)) = xs[3]? := hf 3 _ rfl
      rw [hL] at g3
      have g4 : DataW.trod enc Tryz.prog w base sp hd n 25 (([v0, v1, v2, v3, v4].drop 4).take (Tryz.prog.cellsOf 25)) = xs[4]? := hf 4 _ rfl
      rw [hT] at g4
      have hx5 : xs.length = 5 := hxs
      rw [List.getElem?_eq_getElem (by omega)] at g0 g1 g2 g3 g4
      obtain ⟨k, hk, _, wk⟩ := DataW.trod_int Tryz.underlying5 g0
      obtain ⟨m, hm, _, wm⟩ := DataW.trod_int Tryz.underlying3 g1
      obtain ⟨s, hs, _, hss⟩ := DataW.trod_string Tryz.underlying9 g2
      obtain ⟨lo, lc, ls, hls, hrow, hlow, hlen⟩ := open_levels g3
      have hts : ∃ (to : Option Addr) (tc : Nat) (ts : List Tm), [v4] = [.slice to ts.length tc] ∧ RowIn w.heap.size w to 0 ts ∧ ts.length ≤ 9223372036854775807 := by
        rcases DataW.trod_slice Tryz.underlying25 g4 with ⟨he, _⟩ | ⟨a, len, cap, elems, rest, n', hn', he, _, _, hlc, hcm, hel, hall, _⟩
        · exact ⟨none, 0, [], he, by rw [RowIn]; trivial, by simp⟩
        · rw [hC] at hall
          have hnone : 0 < len → a.spot = none := fun h0 => by
            have hi' := hall 0 h0
            rw [List.getElem?_eq_getElem (by omega)] at hi'
            obtain ⟨cs, hcs, ht⟩ := Option.bind_eq_some_iff.1 hi'
            obtain ⟨_, _, hcell⟩ := World.cells?_some hcs
            obtain ⟨t, h', rfl, hin⟩ := ih n' (by omega) cs _ ht
            have h0 := hcell 0 (by omega)
            rw [Nat.zero_mul, add_zero, add_zero] at h0
            exact World.cell?_spot (show w.cell? a = some (.int .u8 t.k) from h0)
          have key : ∀ i, i < len → ∃ t : Tm, ∃ b off, a = ⟨b, off, none⟩ ∧ TAt w.heap.size w b (off + i * 5) t := fun i hi => by
            have hi' := hall i hi
            rw [List.getElem?_eq_getElem (by omega)] at hi'
            obtain ⟨cs, hcs, ht⟩ := Option.bind_eq_some_iff.1 hi'
            obtain ⟨_, _, hcell⟩ := World.cells?_some hcs
            obtain ⟨t, h', rfl, hin⟩ := ih n' (by omega) cs _ ht
            have hs := hnone (by omega)
            obtain ⟨b, off, spot⟩ := a
            dsimp only at hs
            subst hs
            simp only [add_none] at hcell
            have h0 : w.cell? ⟨b, off + i * 5, none⟩ = some (.int .u8 t.k) := hcell 0 (by omega)
            exact ⟨t, b, off, rfl, World.block_lt_of_cell? w _ h0, h', ⟨h0, hcell 1 (by omega), hcell 2 (by omega), hcell 3 (by omega), hcell 4 (by omega)⟩, hin⟩
          have key2 : ∃ ts : List Tm, ts.length = len ∧ ∀ k (hk : k < ts.length), ∃ b off, a = ⟨b, off, none⟩ ∧ TAt w.heap.size w b (off + k * 5) ts[k] := by
            refine ⟨(List.range len).pmap (fun i hi => Classical.choose (key i hi)) (fun i hi => by simpa using hi), by simp, fun k hk => ?_⟩
            have hk' : k < len := by simpa using hk
            obtain ⟨b, off, ha, hl⟩ := Classical.choose_spec (key k hk')
            exact ⟨b, off, ha, by simpa using hl⟩
          obtain ⟨ts, rfl, hts⟩ := key2
          refine ⟨some a, cap, ts, he, RowIn.mk fun k hk => ?_, ?_⟩
          · obtain ⟨b, off, rfl, hl⟩ := hts k hk
            exact ⟨b, off, rfl, by simpa using hl⟩
          · have : maxLen = 9223372036854775807 := rfl
            omega
      obtain ⟨to, tc, ts, ht4, hrin, htl⟩ := hts
      simp at hk hm hs hls ht4
      subst hk hm hs hls ht4
      refine ⟨.mk k m s ls ts, ⟨lo, lc, to, tc⟩, rfl, Tm.In_iff.2 ⟨⟨?_, ?_, ?_, ?_, ?_, hlen, htl⟩, hrow, hlow, hrin⟩⟩
      · simp [Lit.wf, IntKind.min, IntKind.max, IntKind.signed, IntKind.bits] at wk; exact wk.1
      · simp [Lit.wf, IntKind.min, IntKind.max, IntKind.signed, IntKind.bits] at wk; exact wk.2
      · simp [Lit.wf, IntKind.min, IntKind.max, IntKind.signed, IntKind.bits] at wm; exact wm.1
      · simp [Lit.wf, IntKind.min, IntKind.max, IntKind.signed, IntKind.bits] at wm; exact wm.2
      · exact hss
end

end Go.Proofs.YtiekbhlnnmnklaaGreat


