/-
  Plain mathematics of LevelInsts: levels in the place of parameters, and others in theirs. No walk here.
-/
import Derived.Test.YtfechgahafbphaaLevMath2
namespace Go.Proofs.Ytfechgahafbphaa
namespace Lvl

theorem ans_form {a b : Lv} (h : a.form = b.form) : ans a = ans b := by
  unfold ans; rw [h]
/-- With the parameters themselves nothing is turned. -/
theorem inst_own {l : Lv} (hl : l.ok) : inst l own.list = (l, 0) := by
  have e : (instO l own).form = l.form := same_form (instO_fine hl own_ok) hl.fine fun n hn => by rw [ev_instO hl own_ok, ev_own hn]
  rw [inst_row hl own_ok, ans, e, ok_formed hl, if_pos ((within_iff l).2 ⟨hl.1, hl.2.1, hl.2.2.1, hl.2.2.2.1, hl.2.2.2.2.1⟩)]
/-- Levels in the place of parameters, and others in theirs, are the others in all places at once. -/
theorem inst_twice {l a : Lv} {one two both : Row4} (hl : l.ok) (h1 : one.okAll) (h2 : two.okAll) (ha : inst l one.list = (a, 0))
    (x0 : inst one.b0 two.list = (both.b0, 0)) (x1 : inst one.b1 two.list = (both.b1, 0)) (x2 : inst one.b2 two.list = (both.b2, 0)) (x3 : inst one.b3 two.list = (both.b3, 0)) :
    both.okAll ∧ inst l both.list = inst a two.list := by
  have get {k z : Lv} (hk : k.ok) (e : inst k two.list = (z, 0)) : z.ok ∧ ∀ n : Four, n.pos → ev z n = ev k (two.ev n) := by
    rcases inst_ok hk h2 with ⟨z', e', ho, _, he⟩ | e'
    · rw [e] at e'
      obtain rfl : z = z' := by simpa using e'
      exact ⟨ho, he⟩
    · rw [e] at e'; simp at e'
  have g0 := get h1.1 x0
  have g1 := get h1.2.1 x1
  have g2 := get h1.2.2.1 x2
  have g3 := get h1.2.2.2 x3
  have hb : both.okAll := ⟨g0.1, g1.1, g2.1, g3.1⟩
  refine ⟨hb, ?_⟩
  rcases inst_ok hl h1 with ⟨a', e', ho, _, he⟩ | e'
  · rw [ha] at e'
    obtain rfl : a = a' := by simpa using e'
    rw [inst_row hl hb, inst_row ho h2]
    refine ans_form (same_form (instO_fine hl hb) (instO_fine ho h2) fun n hn => ?_)
    rw [ev_instO hl hb, ev_instO ho h2, he _ (row_pos h2 n)]
    congr 1
    simp only [Row4.ev]
    rw [g0.2 n hn, g1.2 n hn, g2.2 n hn, g3.2 n hn]
    rfl
  · rw [ha] at e'; simp at e'
/-- The greater one goes through. -/
theorem inst_max {l k m n p x : Lv} {two : Row4} (hl : l.ok) (hk : k.ok) (h2 : two.okAll) (hm : maxi l k = (m, 0)) (hn : inst m two.list = (n, 0)) (hp : inst l two.list = (p, 0)) (hx : inst k two.list = (x, 0)) :
    maxi p x = (n, 0) := by
  have get {k z : Lv} (hk : k.ok) (e : inst k two.list = (z, 0)) : z.ok ∧ ∀ n : Four, n.pos → ev z n = ev k (two.ev n) := by
    rcases inst_ok hk h2 with ⟨z', e', ho, _, he⟩ | e'
    · rw [e] at e'
      obtain rfl : z = z' := by simpa using e'
      exact ⟨ho, he⟩
    · rw [e] at e'; simp at e'
  obtain ⟨e1, k1⟩ := max_ok hl hk
  rw [hm] at e1
  obtain rfl : m = (l.join k).form := by simpa using e1
  have gn := get k1 hn
  have gp := get hl hp
  have gx := get hk hx
  obtain ⟨e2, k2⟩ := max_ok gp.1 gx.1
  rw [e2]
  refine Prod.ext (same_ev k2 gn.1 fun v hv => ?_) rfl
  rw [ev_max gp.1 gx.1 hv, gn.2 v hv, gp.2 v hv, gx.2 v hv, ev_max hl hk (row_pos h2 v)]
end Lvl
end Go.Proofs.Ytfechgahafbphaa
