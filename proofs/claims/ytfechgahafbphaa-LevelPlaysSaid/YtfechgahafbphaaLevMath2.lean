/-
  Plain mathematics of levels: levels in the place of parameters. No walk here.
-/
import Derived.Test.YtfechgahafbphaaLevMath
import Derived.Test.YtfechgahafbphaaLevInst
namespace Go.Proofs.Ytfechgahafbphaa
namespace Lvl

def stepI (o b : Lv) (p : Int) : Lv := if p = -1 then o else o.join (b.plus p)
theorem stepI_fine {o b : Lv} {p : Int} (ho : o.fine) (hb : b.fine) (hp : -1 ≤ p) : (stepI o b p).fine := by
  unfold stepI
  by_cases h : p = -1
  · rw [if_pos h]; exact ho
  · rw [if_neg h]; exact join_fine ho (plus_fine hb p (by omega))
theorem ev_stepI {o b : Lv} {p : Int} (ho : o.fine) (hb : b.fine) (hp : -1 ≤ p) (n : Four) : ev (stepI o b p) n = stepM (ev o n) p (ev b n) := by
  unfold stepI stepM
  by_cases h : p = -1
  · rw [if_pos h, if_pos h]
  · rw [if_neg h, if_neg h, ev_join ho (plus_fine hb p (by omega)), ev_plus hb p (by omega)]
theorem inst_one {ls : List Lv} (o b : Lv) (k : Nat) (p : Int) (r : List (Int × Int)) (hk : ls[k]? = some b) : (one k p ++ r).foldl (instStep ls) (some o) = r.foldl (instStep ls) (some (stepI o b p)) := by
  obtain ⟨hl, hb⟩ := List.getElem?_eq_some_iff.1 hk
  unfold one stepI
  by_cases h : p = -1
  · rw [if_pos h, if_pos h]; rfl
  · rw [if_neg h, if_neg h]
    simp [instStep, hl, hb]
theorem ev_number (c : Int) (n : Four) : ev (number c) n = c := by simp [ev, number, stepM]
/-- Levels, one for each parameter. -/
structure Row4 where
  b0 : Lv
  b1 : Lv
  b2 : Lv
  b3 : Lv
def Row4.list (r : Row4) : List Lv := [r.b0, r.b1, r.b2, r.b3]
def Row4.okAll (r : Row4) : Prop := r.b0.ok ∧ r.b1.ok ∧ r.b2.ok ∧ r.b3.ok
def Row4.ev (r : Row4) (n : Four) : Four := ⟨Lvl.ev r.b0 n, Lvl.ev r.b1 n, Lvl.ev r.b2 n, Lvl.ev r.b3 n⟩
def instO (l : Lv) (r : Row4) : Lv := stepI (stepI (stepI (stepI (number l.c) r.b0 l.p0) r.b1 l.p1) r.b2 l.p2) r.b3 l.p3
theorem inst_row {l : Lv} {r : Row4} (hl : l.ok) (hr : r.okAll) : inst l r.list = ans (instO l r) := by
  have ha : r.list.all Lv.may = true := by
    obtain ⟨h0, h1, h2, h3⟩ := hr
    simp [Row4.list, (may_iff _).2 h0, (may_iff _).2 h1, (may_iff _).2 h2, (may_iff _).2 h3]
  rw [inst, if_pos ⟨(may_iff l).2 hl, ha⟩]
  have h : l.ps = one ((0 : Nat) : Int) l.p0 ++ (one ((1 : Nat) : Int) l.p1 ++ (one ((2 : Nat) : Int) l.p2 ++ (one ((3 : Nat) : Int) l.p3 ++ []))) := by simp [Lv.ps]
  have e : instAll r.list (number l.c) l.ps = some (instO l r) := by
    unfold instAll
    rw [h, inst_one _ r.b0 0 _ _ rfl, inst_one _ r.b1 1 _ _ rfl, inst_one _ r.b2 2 _ _ rfl, inst_one _ r.b3 3 _ _ rfl]
    rfl
  rw [e]
theorem number_fine {c : Int} (h : 0 ≤ c) : (number c).fine := by unfold Lv.fine number; simp [h]
theorem instO_fine {l : Lv} {r : Row4} (hl : l.ok) (hr : r.okAll) : (instO l r).fine := by
  obtain ⟨h0, h1, h2, h3⟩ := hr
  have hf := hl.fine
  obtain ⟨c, p0, p1, p2, p3⟩ := hf
  exact stepI_fine (stepI_fine (stepI_fine (stepI_fine (number_fine c) h0.fine p0) h1.fine p1) h2.fine p2) h3.fine p3
theorem ev_instO {l : Lv} {r : Row4} (hl : l.ok) (hr : r.okAll) (n : Four) : ev (instO l r) n = ev l (r.ev n) := by
  obtain ⟨h0, h1, h2, h3⟩ := hr
  have hf := hl.fine
  obtain ⟨c, p0, p1, p2, p3⟩ := hf
  have f0 := stepI_fine (number_fine c) h0.fine p0
  have f1 := stepI_fine f0 h1.fine p1
  have f2 := stepI_fine f1 h2.fine p2
  unfold instO
  rw [ev_stepI f2 h3.fine p3, ev_stepI f1 h2.fine p2, ev_stepI f0 h1.fine p1, ev_stepI (number_fine c) h0.fine p0, ev_number]
  rfl
theorem formed_ok {o : Lv} (ho : o.fine) (hw : o.form.within = true) : o.form.ok := by
  have hw := (within_iff _).1 hw
  have hff := form_formed _ ho
  unfold Lv.formed at hff
  obtain ⟨e0, e1, e2, e3⟩ := form_p o
  unfold Lv.ok
  rw [e0, e1, e2, e3] at hw ⊢
  unfold Lv.fine at ho
  generalize o.form.c = z at *
  rcases hff with hff | hff <;> omega
/-- Levels as parameters: a level, or ErrMany. -/
theorem inst_ok {l : Lv} {r : Row4} (hl : l.ok) (hr : r.okAll) : (∃ z : Lv, inst l r.list = (z, 0) ∧ z.ok ∧ z = (instO l r).form ∧ ∀ n : Four, n.pos → ev z n = ev l (r.ev n)) ∨ inst l r.list = (zero, 4) := by
  rw [inst_row hl hr, ans]
  have hf := instO_fine hl hr
  by_cases h : (instO l r).form.within = true
  · left
    rw [if_pos h]
    exact ⟨_, rfl, formed_ok hf h, rfl, fun n hn => by rw [ev_form hf hn, ev_instO hl hr]⟩
  · right; rw [if_neg h]
theorem ev_nonneg {l : Lv} (hl : l.fine) (n : Four) : 0 ≤ ev l n := by
  have := (ev_le l n (ev l n)).1 (Int.le_refl _)
  unfold Lv.fine at hl; omega
theorem row_pos {r : Row4} (hr : r.okAll) (n : Four) : (r.ev n).pos :=
  ⟨ev_nonneg hr.1.fine n, ev_nonneg hr.2.1.fine n, ev_nonneg hr.2.2.1.fine n, ev_nonneg hr.2.2.2.fine n⟩

/-- Levels that are the same at all numbers have one form. -/
theorem fine_p {a b : Lv} (hb : b.fine) (h : ∀ n : Four, n.pos → ev a n ≤ ev b n) : a.p0 ≤ b.p0 ∧ a.p1 ≤ b.p1 ∧ a.p2 ≤ b.p2 ∧ a.p3 ≤ b.p3 := by
  have lo (n : Four) := (ev_le a n (ev a n)).1 (Int.le_refl _)
  have hi (n : Four) (x : Int) (h : ¬ ev b n ≤ x) : ¬ _ := fun k => h ((ev_le b n x).2 k)
  unfold Lv.fine at hb
  obtain ⟨g, hg⟩ : ∃ g : Int, g = b.c + (b.p0 + 1) + (b.p1 + 1) + (b.p2 + 1) + (b.p3 + 1) + 1 := ⟨_, rfl⟩
  refine ⟨?_, ?_, ?_, ?_⟩
  · have l := lo ⟨g, 0, 0, 0⟩
    have k := h ⟨g, 0, 0, 0⟩ (by unfold Four.pos; simp only; omega)
    by_cases e : a.p0 ≤ b.p0
    · exact e
    · exact absurd k (fun k => hi ⟨g, 0, 0, 0⟩ (g + a.p0 - 1) (by simp only at l; omega) (by simp only at *; omega))
  · have l := lo ⟨0, g, 0, 0⟩
    have k := h ⟨0, g, 0, 0⟩ (by unfold Four.pos; simp only; omega)
    by_cases e : a.p1 ≤ b.p1
    · exact e
    · exact absurd k (fun k => hi ⟨0, g, 0, 0⟩ (g + a.p1 - 1) (by simp only at l; omega) (by simp only at *; omega))
  · have l := lo ⟨0, 0, g, 0⟩
    have k := h ⟨0, 0, g, 0⟩ (by unfold Four.pos; simp only; omega)
    by_cases e : a.p2 ≤ b.p2
    · exact e
    · exact absurd k (fun k => hi ⟨0, 0, g, 0⟩ (g + a.p2 - 1) (by simp only at l; omega) (by simp only at *; omega))
  · have l := lo ⟨0, 0, 0, g⟩
    have k := h ⟨0, 0, 0, g⟩ (by unfold Four.pos; simp only; omega)
    by_cases e : a.p3 ≤ b.p3
    · exact e
    · exact absurd k (fun k => hi ⟨0, 0, 0, g⟩ (g + a.p3 - 1) (by simp only at l; omega) (by simp only at *; omega))
theorem same_form {a b : Lv} (ha : a.fine) (hb : b.fine) (h : ∀ n : Four, n.pos → ev a n = ev b n) : a.form = b.form := by
  obtain ⟨x0, x1, x2, x3⟩ := fine_p hb (fun n hn => Int.le_of_eq (h n hn))
  obtain ⟨y0, y1, y2, y3⟩ := fine_p ha (fun n hn => Int.le_of_eq (h n hn).symm)
  have e0 : a.p0 = b.p0 := by omega
  have e1 : a.p1 = b.p1 := by omega
  have e2 : a.p2 = b.p2 := by omega
  have e3 : a.p3 = b.p3 := by omega
  refine form_ext ha hb e0 e1 e2 e3 ?_
  intro x y hx hy
  have hz := h ⟨0, 0, 0, 0⟩ (by simp [Four.pos])
  unfold Lv.formed at hx hy
  unfold Lv.fine at ha hb
  rw [e0, e1, e2, e3] at hx
  rcases hx with ⟨rfl, hx'⟩ | ⟨rfl, hx'⟩ <;> rcases hy with ⟨rfl, hy'⟩ | ⟨rfl, hy'⟩
  · have ua : ev a ⟨0, 0, 0, 0⟩ ≤ a.c := (ev_le _ _ _).2 (by rw [e0, e1, e2, e3]; simp only; omega)
    have ub : ev b ⟨0, 0, 0, 0⟩ ≤ b.c := (ev_le _ _ _).2 (by simp only; omega)
    have la := ((ev_le a ⟨0, 0, 0, 0⟩ _).1 (Int.le_refl _)).1
    have lb := ((ev_le b ⟨0, 0, 0, 0⟩ _).1 (Int.le_refl _)).1
    omega
  · exfalso
    have la := ((ev_le a ⟨0, 0, 0, 0⟩ _).1 (Int.le_refl _)).1
    have ub : ev b ⟨0, 0, 0, 0⟩ ≤ a.c - 1 := (ev_le _ _ _).2 (by
      simp only
      refine ⟨?_, by omega, by omega, by omega, by omega⟩
      rcases hy' with hy' | hy' | hy' | hy' <;> omega)
    omega
  · exfalso
    have lb := ((ev_le b ⟨0, 0, 0, 0⟩ _).1 (Int.le_refl _)).1
    have ua : ev a ⟨0, 0, 0, 0⟩ ≤ b.c - 1 := (ev_le _ _ _).2 (by
      rw [e0, e1, e2, e3]
      simp only
      refine ⟨?_, by omega, by omega, by omega, by omega⟩
      rcases hx' with hx' | hx' | hx' | hx' <;> omega)
    omega
  · rfl
/-- The parameters themselves. -/
def own : Row4 := ⟨⟨0, 0, -1, -1, -1⟩, ⟨0, -1, 0, -1, -1⟩, ⟨0, -1, -1, 0, -1⟩, ⟨0, -1, -1, -1, 0⟩⟩
theorem own_ok : own.okAll := by simp [Row4.okAll, own, Lv.ok]
theorem ev_own {n : Four} (hn : n.pos) : own.ev n = n := by
  obtain ⟨h0, h1, h2, h3⟩ := hn
  have e (x : Int) (h : 0 ≤ x) : max 0 x = x := by omega
  cases n
  simp only [Row4.ev, own, ev, stepM] at *
  simp [e, h0, h1, h2, h3]
end Lvl
end Go.Proofs.Ytfechgahafbphaa
