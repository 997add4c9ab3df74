/-
  Plain mathematics of levels: which may be, what they are at numbers, which is at most which. No walk here.
-/
import Derived.Test.YtjicdmohnfcflaaQB2
import Derived.BigQuiet
import Derived.Deep.QuietTactic
namespace Go.Proofs.Ytjicdmohnfcflaa
namespace Lvl

def stepC (c p : Int) : Int := if p = -1 then c else if c ≤ p then 0 else c
theorem stepC_or (c p : Int) (h : -1 ≤ p) : (stepC c p = c ∧ (p = -1 ∨ p < c)) ∨ (stepC c p = 0 ∧ 0 ≤ p ∧ c ≤ p) := by
  unfold stepC
  by_cases h1 : p = -1
  · rw [if_pos h1]; exact .inl ⟨rfl, .inl h1⟩
  · rw [if_neg h1]
    by_cases h2 : c ≤ p
    · rw [if_pos h2]; exact .inr ⟨rfl, by omega, h2⟩
    · rw [if_neg h2]; exact .inl ⟨rfl, .inr (by omega)⟩
theorem formC_one (c i p : Int) (r : List (Int × Int)) : formC c (one i p ++ r) = formC (stepC c p) r := by
  unfold one stepC formC
  by_cases h : p = -1
  · rw [if_pos h, if_pos h]; rfl
  · rw [if_neg h, if_neg h]; rfl
theorem form_c_eq (l : Lv) : l.form.c = stepC (stepC (stepC (stepC l.c l.p0) l.p1) l.p2) l.p3 := by
  have h : l.ps = one 0 l.p0 ++ (one 1 l.p1 ++ (one 2 l.p2 ++ (one 3 l.p3 ++ []))) := by simp [Lv.ps]
  show formC l.c l.ps = _
  rw [h, formC_one, formC_one, formC_one, formC_one]
  rfl

/-- A level whose numbers are from -1 on. -/
def Lv.fine (l : Lv) : Prop := 0 ≤ l.c ∧ -1 ≤ l.p0 ∧ -1 ≤ l.p1 ∧ -1 ≤ l.p2 ∧ -1 ≤ l.p3
/-- C in the one form. -/
def Lv.formed (l : Lv) (c : Int) : Prop :=
  (c = l.c ∧ (l.p0 = -1 ∨ l.p0 < l.c) ∧ (l.p1 = -1 ∨ l.p1 < l.c) ∧ (l.p2 = -1 ∨ l.p2 < l.c) ∧ (l.p3 = -1 ∨ l.p3 < l.c)) ∨
  (c = 0 ∧ ((0 ≤ l.p0 ∧ l.c ≤ l.p0) ∨ (0 ≤ l.p1 ∧ l.c ≤ l.p1) ∨ (0 ≤ l.p2 ∧ l.c ≤ l.p2) ∨ (0 ≤ l.p3 ∧ l.c ≤ l.p3)))
theorem form_formed (l : Lv) (h : l.fine) : l.formed l.form.c := by
  obtain ⟨hc, h0, h1, h2, h3⟩ := h
  rw [form_c_eq]
  unfold Lv.formed
  have a0 := stepC_or l.c l.p0 h0
  generalize stepC l.c l.p0 = x0 at *
  have a1 := stepC_or x0 l.p1 h1
  generalize stepC x0 l.p1 = x1 at *
  have a2 := stepC_or x1 l.p2 h2
  generalize stepC x1 l.p2 = x2 at *
  have a3 := stepC_or x2 l.p3 h3
  generalize stepC x2 l.p3 = x3 at *
  rcases a0 with a0 | a0 <;> rcases a1 with a1 | a1 <;> rcases a2 with a2 | a2 <;> rcases a3 with a3 | a3 <;> omega

def top : Int := 1099511627776
/-- What it says that a level may be. -/
def Lv.ok (l : Lv) : Prop := (0 ≤ l.c ∧ l.c ≤ 1099511627776) ∧ (-1 ≤ l.p0 ∧ l.p0 ≤ 1099511627776) ∧ (-1 ≤ l.p1 ∧ l.p1 ≤ 1099511627776) ∧ (-1 ≤ l.p2 ∧ l.p2 ≤ 1099511627776) ∧ (-1 ≤ l.p3 ∧ l.p3 ≤ 1099511627776) ∧
  (l.c = 0 ∨ ((l.p0 = -1 ∨ l.p0 < l.c) ∧ (l.p1 = -1 ∨ l.p1 < l.c) ∧ (l.p2 = -1 ∨ l.p2 < l.c) ∧ (l.p3 = -1 ∨ l.p3 < l.c)))
theorem within_iff (l : Lv) : l.within = true ↔ (0 ≤ l.c ∧ l.c ≤ 1099511627776) ∧ (-1 ≤ l.p0 ∧ l.p0 ≤ 1099511627776) ∧ (-1 ≤ l.p1 ∧ l.p1 ≤ 1099511627776) ∧ (-1 ≤ l.p2 ∧ l.p2 ≤ 1099511627776) ∧ (-1 ≤ l.p3 ∧ l.p3 ≤ 1099511627776) := by
  simp only [Lv.within, decide_eq_true_eq]
  omega
theorem may_iff (l : Lv) : l.may = true ↔ l.ok := by
  unfold Lv.may Lv.ok
  rw [Bool.and_eq_true, beq_iff_eq, within_iff]
  constructor
  · rintro ⟨⟨hc, h0, h1, h2, h3⟩, hf⟩
    have := form_formed l ⟨hc.1, h0.1, h1.1, h2.1, h3.1⟩
    unfold Lv.formed at this
    rw [← hf] at this
    omega
  · rintro ⟨hc, h0, h1, h2, h3, h⟩
    have := form_formed l ⟨hc.1, h0.1, h1.1, h2.1, h3.1⟩
    unfold Lv.formed at this
    refine ⟨⟨hc, h0, h1, h2, h3⟩, ?_⟩
    omega

/-- The one form of a level. -/
theorem form_p (l : Lv) : l.form.p0 = l.p0 ∧ l.form.p1 = l.p1 ∧ l.form.p2 = l.p2 ∧ l.form.p3 = l.p3 := ⟨rfl, rfl, rfl, rfl⟩
theorem max_ok {a b : Lv} (ha : a.ok) (hb : b.ok) : maxi a b = ((a.join b).form, 0) ∧ (a.join b).form.ok := by
  have h : (a.join b).form.within = true ∧ (a.join b).form.ok := by
    rw [within_iff]
    unfold Lv.ok at *
    have hf := form_formed (a.join b) (by unfold Lv.fine Lv.join; simp only; omega)
    unfold Lv.formed at hf
    obtain ⟨e0, e1, e2, e3⟩ := form_p (a.join b)
    rw [e0, e1, e2, e3]
    generalize (a.join b).form.c = x at *
    simp only [Lv.join] at *
    omega
  refine ⟨?_, h.2⟩
  rw [maxi, if_pos ⟨(may_iff a).2 ha, (may_iff b).2 hb⟩, ans, if_pos h.1]

/-- Is a at most b, at all numbers? -/
def Leq (a b : Lv) : Prop := a.p0 ≤ b.p0 ∧ a.p1 ≤ b.p1 ∧ a.p2 ≤ b.p2 ∧ a.p3 ≤ b.p3 ∧ (a.c ≤ b.c ∨ (0 ≤ b.p0 ∧ a.c ≤ b.p0) ∨ (0 ≤ b.p1 ∧ a.c ≤ b.p1) ∨ (0 ≤ b.p2 ∧ a.c ≤ b.p2) ∨ (0 ≤ b.p3 ∧ a.c ≤ b.p3))
theorem leq_iff {a b : Lv} (ha : a.ok) (hb : b.ok) : leq a b = true ↔ Leq a b := by
  obtain ⟨h1, h2⟩ := max_ok ha hb
  have hf := form_formed (a.join b) (by unfold Lv.ok at *; unfold Lv.fine Lv.join; simp only; omega)
  unfold leq eqP Leq
  rw [h1]
  simp only [Bool.and_eq_true, beq_iff_eq]
  obtain ⟨e0, e1, e2, e3⟩ := form_p (a.join b)
  rw [e0, e1, e2, e3]
  unfold Lv.formed at hf
  unfold Lv.ok at ha hb
  clear h1 h2 e0 e1 e2 e3
  generalize (a.join b).form.c = x at *
  simp only [Lv.join] at *
  constructor
  · intro h; omega
  · rintro ⟨g0, g1, g2, g3, g⟩
    have m0 : max a.p0 b.p0 = b.p0 := by omega
    have m1 : max a.p1 b.p1 = b.p1 := by omega
    have m2 : max a.p2 b.p2 = b.p2 := by omega
    have m3 : max a.p3 b.p3 = b.p3 := by omega
    rw [m0, m1, m2, m3] at hf
    refine ⟨trivial, ?_, ⟨⟨m0, m1⟩, m2⟩, m3⟩
    rcases hf with hf | hf <;> rcases g with g | g | g | g | g <;> omega

theorem form_ext {a b : Lv} (ha : a.fine) (hb : b.fine) (h0 : a.p0 = b.p0) (h1 : a.p1 = b.p1) (h2 : a.p2 = b.p2) (h3 : a.p3 = b.p3) (hc : ∀ x y, a.formed x → b.formed y → x = y) : a.form = b.form :=
  Lv.ext_all (hc _ _ (form_formed a ha) (form_formed b hb)) h0 h1 h2 h3
theorem Lv.ok.fine {l : Lv} (h : l.ok) : l.fine := by unfold Lv.ok at h; unfold Lv.fine; omega
theorem join_fine {a b : Lv} (ha : a.fine) (hb : b.fine) : (a.join b).fine := by
  unfold Lv.fine at *; simp only [Lv.join]; omega
theorem ok_formed {l : Lv} (h : l.ok) : l.form = l := by
  refine Lv.ext_all ?_ rfl rfl rfl rfl
  have hf := form_formed l h.fine
  unfold Lv.formed at hf
  unfold Lv.ok at h
  omega
theorem join_comm (a b : Lv) : a.join b = b.join a := by
  refine Lv.ext_all ?_ ?_ ?_ ?_ ?_ <;> (simp only [Lv.join]; omega)
theorem join_self (a : Lv) : a.join a = a := by
  refine Lv.ext_all ?_ ?_ ?_ ?_ ?_ <;> (simp only [Lv.join]; omega)

/-! What a level is at numbers. -/
def stepM (m p a : Int) : Int := if p = -1 then m else max m (a + p)
theorem stepM_le (m p a x : Int) : stepM m p a ≤ x ↔ m ≤ x ∧ (p = -1 ∨ a + p ≤ x) := by
  unfold stepM
  by_cases h : p = -1
  · rw [if_pos h]; omega
  · rw [if_neg h]; omega
def ev (l : Lv) (n : Four) : Int := stepM (stepM (stepM (stepM l.c l.p0 n.a0) l.p1 n.a1) l.p2 n.a2) l.p3 n.a3
theorem ev_le (l : Lv) (n : Four) (x : Int) : ev l n ≤ x ↔ l.c ≤ x ∧ (l.p0 = -1 ∨ n.a0 + l.p0 ≤ x) ∧ (l.p1 = -1 ∨ n.a1 + l.p1 ≤ x) ∧ (l.p2 = -1 ∨ n.a2 + l.p2 ≤ x) ∧ (l.p3 = -1 ∨ n.a3 + l.p3 ≤ x) := by
  unfold ev
  rw [stepM_le, stepM_le, stepM_le, stepM_le]
  constructor
  · rintro ⟨⟨⟨⟨h, h0⟩, h1⟩, h2⟩, h3⟩; exact ⟨h, h0, h1, h2, h3⟩
  · rintro ⟨h, h0, h1, h2, h3⟩; exact ⟨⟨⟨⟨h, h0⟩, h1⟩, h2⟩, h3⟩
theorem ev_eq {l k : Lv} {n m : Four} (h : ∀ x, ev l n ≤ x ↔ ev k m ≤ x) : ev l n = ev k m :=
  Int.le_antisymm ((h _).2 (Int.le_refl _)) ((h _).1 (Int.le_refl _))
theorem atAll_one {x : Int} (n : Four) (o p i : Int) (r : List (Int × Int)) (hi : n.at_ i = x) : atAll n o (one i p ++ r) = atAll n (stepM o p x) r := by
  unfold one stepM atAll
  by_cases h : p = -1
  · rw [if_pos h, if_pos h]; rfl
  · rw [if_neg h, if_neg h, ← hi]; rfl
theorem num_eq (l : Lv) (n : Four) : atAll n l.c l.ps = ev l n := by
  have h : l.ps = one 0 l.p0 ++ (one 1 l.p1 ++ (one 2 l.p2 ++ (one 3 l.p3 ++ []))) := by simp [Lv.ps]
  rw [h, atAll_one n _ _ 0 _ (x := n.a0) (by simp [Four.at_]), atAll_one n _ _ 1 _ (x := n.a1) (by simp [Four.at_]), atAll_one n _ _ 2 _ (x := n.a2) (by simp [Four.at_]), atAll_one n _ _ 3 _ (x := n.a3) (by simp [Four.at_])]
  rfl
def Four.pos (n : Four) : Prop := 0 ≤ n.a0 ∧ 0 ≤ n.a1 ∧ 0 ≤ n.a2 ∧ 0 ≤ n.a3
theorem ev_form {l : Lv} (hl : l.fine) {n : Four} (hn : n.pos) : ev l.form n = ev l n := by
  refine ev_eq fun x => ?_
  have hf := form_formed l hl
  obtain ⟨e0, e1, e2, e3⟩ := form_p l
  rw [ev_le, ev_le, e0, e1, e2, e3]
  unfold Lv.formed at hf
  unfold Four.pos at hn
  unfold Lv.fine at hl
  generalize l.form.c = z at *
  rcases hf with ⟨rfl, _⟩ | ⟨rfl, hf⟩
  · exact Iff.rfl
  · constructor
    · rintro ⟨h, g⟩
      refine ⟨?_, g⟩
      rcases hf with hf | hf | hf | hf <;> omega
    · rintro ⟨h, g⟩
      exact ⟨by omega, g⟩
theorem stepM_max (m k p q a : Int) (hp : -1 ≤ p) (hq : -1 ≤ q) : stepM (max m k) (max p q) a = max (stepM m p a) (stepM k q a) := by
  unfold stepM
  by_cases h : p = -1 <;> by_cases h' : q = -1
  · rw [if_pos (by omega), if_pos h, if_pos h']
  · rw [if_neg (by omega), if_pos h, if_neg h']; omega
  · rw [if_neg (by omega), if_neg h, if_pos h']; omega
  · rw [if_neg (by omega), if_neg h, if_neg h']; omega
theorem ev_join {a b : Lv} (ha : a.fine) (hb : b.fine) (n : Four) : ev (a.join b) n = max (ev a n) (ev b n) := by
  obtain ⟨_, a0, a1, a2, a3⟩ := ha
  obtain ⟨_, b0, b1, b2, b3⟩ := hb
  simp only [ev, Lv.join]
  rw [stepM_max _ _ _ _ _ a0 b0, stepM_max _ _ _ _ _ a1 b1, stepM_max _ _ _ _ _ a2 b2, stepM_max _ _ _ _ _ a3 b3]
theorem stepM_up (m p a n : Int) (hp : -1 ≤ p) (hn : 0 ≤ n) : stepM (m + n) (up p n) a = stepM m p a + n := by
  unfold stepM up
  by_cases h : p = -1
  · rw [if_pos h, if_pos h, if_pos rfl]
  · rw [if_neg h, if_neg h, if_neg (by omega)]; omega
theorem ev_plus {a : Lv} (ha : a.fine) (k : Int) (hk : 0 ≤ k) (n : Four) : ev (a.plus k) n = ev a n + k := by
  obtain ⟨_, a0, a1, a2, a3⟩ := ha
  simp only [ev, Lv.plus]
  rw [stepM_up _ _ _ _ a0 hk, stepM_up _ _ _ _ a1 hk, stepM_up _ _ _ _ a2 hk, stepM_up _ _ _ _ a3 hk]
theorem plus_fine {a : Lv} (ha : a.fine) (k : Int) (hk : 0 ≤ k) : (a.plus k).fine := by
  unfold Lv.fine Lv.plus up at *
  simp only
  refine ⟨by omega, ?_, ?_, ?_, ?_⟩ <;> (split <;> omega)
theorem form_fine {l : Lv} (h : l.fine) : l.form.fine := by
  have hf := form_formed l h
  unfold Lv.formed at hf
  unfold Lv.fine at *
  obtain ⟨e0, e1, e2, e3⟩ := form_p l
  rw [e0, e1, e2, e3]
  omega

/-- At numbers that are 0, and at each of which one is great. -/
def great : Int := 2199023255552
def Four.zero : Four := ⟨0, 0, 0, 0⟩
theorem leq_ev {a b : Lv} (ha : a.ok) (hb : b.ok) (h : Leq a b) {n : Four} (hn : n.pos) : ev a n ≤ ev b n := by
  have hx := (ev_le b n (ev b n)).1 (Int.le_refl _)
  rw [ev_le]
  generalize ev b n = x at *
  unfold Leq at h
  unfold Lv.ok at ha hb
  unfold Four.pos at hn
  obtain ⟨g0, g1, g2, g3, g⟩ := h
  refine ⟨?_, ?_, ?_, ?_, ?_⟩
  · rcases g with g | g | g | g | g <;> omega
  all_goals omega
theorem ev_leq {a b : Lv} (ha : a.ok) (hb : b.ok) (hz : ev a ⟨0, 0, 0, 0⟩ ≤ ev b ⟨0, 0, 0, 0⟩) (h0 : ev a ⟨great, 0, 0, 0⟩ ≤ ev b ⟨great, 0, 0, 0⟩) (h1 : ev a ⟨0, great, 0, 0⟩ ≤ ev b ⟨0, great, 0, 0⟩)
    (h2 : ev a ⟨0, 0, great, 0⟩ ≤ ev b ⟨0, 0, great, 0⟩) (h3 : ev a ⟨0, 0, 0, great⟩ ≤ ev b ⟨0, 0, 0, great⟩) : Leq a b := by
  have lo (n : Four) := (ev_le a n (ev a n)).1 (Int.le_refl _)
  have hi (n : Four) (x : Int) (h : ¬ ev b n ≤ x) : ¬ _ := fun k => h ((ev_le b n x).2 k)
  unfold Lv.ok at ha hb
  refine ⟨?_, ?_, ?_, ?_, ?_⟩
  · have l := lo ⟨great, 0, 0, 0⟩
    by_cases e : a.p0 ≤ b.p0
    · exact e
    · exact absurd h0 (fun k => hi ⟨great, 0, 0, 0⟩ (great + a.p0 - 1) (by simp only at l; omega) (by simp only [great] at *; omega))
  · have l := lo ⟨0, great, 0, 0⟩
    by_cases e : a.p1 ≤ b.p1
    · exact e
    · exact absurd h1 (fun k => hi ⟨0, great, 0, 0⟩ (great + a.p1 - 1) (by simp only at l; omega) (by simp only [great] at *; omega))
  · have l := lo ⟨0, 0, great, 0⟩
    by_cases e : a.p2 ≤ b.p2
    · exact e
    · exact absurd h2 (fun k => hi ⟨0, 0, great, 0⟩ (great + a.p2 - 1) (by simp only at l; omega) (by simp only [great] at *; omega))
  · have l := lo ⟨0, 0, 0, great⟩
    by_cases e : a.p3 ≤ b.p3
    · exact e
    · exact absurd h3 (fun k => hi ⟨0, 0, 0, great⟩ (great + a.p3 - 1) (by simp only at l; omega) (by simp only [great] at *; omega))
  · have l := lo ⟨0, 0, 0, 0⟩
    have k := hi ⟨0, 0, 0, 0⟩ (a.c - 1) (by simp only at l; omega)
    simp only at l k
    omega
theorem leq_all {a b : Lv} (ha : a.ok) (hb : b.ok) (h : ∀ n : Four, n.pos → ev a n ≤ ev b n) : Leq a b :=
  ev_leq ha hb (h _ (by simp [Four.pos])) (h _ (by simp [Four.pos, great])) (h _ (by simp [Four.pos, great])) (h _ (by simp [Four.pos, great])) (h _ (by simp [Four.pos, great]))
theorem leq_both {a b : Lv} (ha : a.ok) (hb : b.ok) (h : Leq a b) (k : Leq b a) : a = b := by
  unfold Leq Lv.ok at *
  refine Lv.ext_all ?_ (by omega) (by omega) (by omega) (by omega)
  obtain ⟨h0, h1, h2, h3, h⟩ := h
  obtain ⟨k0, k1, k2, k3, k⟩ := k
  have e0 : a.p0 = b.p0 := by omega
  have e1 : a.p1 = b.p1 := by omega
  have e2 : a.p2 = b.p2 := by omega
  have e3 : a.p3 = b.p3 := by omega
  rcases h with h | h | h | h | h <;> rcases k with k | k | k | k | k <;> omega
theorem same_ev {a b : Lv} (ha : a.ok) (hb : b.ok) (h : ∀ n : Four, n.pos → ev a n = ev b n) : a = b :=
  leq_both ha hb (leq_all ha hb fun n hn => by rw [h n hn]; exact Int.le_refl _) (leq_all hb ha fun n hn => by rw [h n hn]; exact Int.le_refl _)
theorem ev_max {a b : Lv} (ha : a.ok) (hb : b.ok) {n : Four} (hn : n.pos) : ev (a.join b).form n = max (ev a n) (ev b n) := by
  rw [ev_form (join_fine ha.fine hb.fine) hn, ev_join ha.fine hb.fine]

/-- What LevelOrder says of three levels that may be. -/
theorem order_max {a b c : Lv} (ha : a.ok) (hb : b.ok) (hc : c.ok) :
    ∃ ab bc x : Lv, ab.ok ∧ bc.ok ∧ maxi a b = (ab, 0) ∧ maxi b a = (ab, 0) ∧ maxi b c = (bc, 0) ∧ maxi ab c = (x, 0) ∧ maxi a bc = (x, 0) ∧ maxi a a = (a, 0) ∧
      Leq a ab ∧ Leq b ab ∧ (Leq a c → (Leq b c ↔ Leq ab c)) := by
  obtain ⟨h1, k1⟩ := max_ok ha hb
  obtain ⟨h2, k2⟩ := max_ok hb hc
  obtain ⟨h3, k3⟩ := max_ok k1 hc
  obtain ⟨h4, k4⟩ := max_ok ha k2
  obtain ⟨h5, _⟩ := max_ok hb ha
  obtain ⟨h6, _⟩ := max_ok ha ha
  refine ⟨_, _, _, k1, k2, h1, by rw [h5, join_comm], h2, h3, ?_, by rw [h6, join_self, ok_formed ha], ?_, ?_, ?_⟩
  · rw [h4]
    refine Prod.ext (same_ev k4 k3 fun n hn => ?_) rfl
    rw [ev_max ha k2 hn, ev_max hb hc hn, ev_max k1 hc hn, ev_max ha hb hn]
    omega
  · exact leq_all ha k1 fun n hn => by rw [ev_max ha hb hn]; omega
  · exact leq_all hb k1 fun n hn => by rw [ev_max ha hb hn]; omega
  · intro hac
    constructor
    · intro hbc
      refine leq_all k1 hc fun n hn => ?_
      have := leq_ev ha hc hac hn
      have := leq_ev hb hc hbc hn
      rw [ev_max ha hb hn]; omega
    · intro hbc
      refine leq_all hb hc fun n hn => ?_
      have := leq_ev k1 hc hbc hn
      rw [ev_max ha hb hn] at this; omega
theorem leq_trans {a b c : Lv} (h : Leq a b) (k : Leq b c) : Leq a c := by
  unfold Leq at *; omega
theorem zero_ok : (number 0).ok := by unfold Lv.ok number; simp
theorem leq_zero {a : Lv} (ha : a.ok) : Leq (number 0) a := by
  unfold Leq Lv.ok number at *; simp only; omega
/-- One more: a level, or ErrMany. -/
theorem succ_ok {a : Lv} (ha : a.ok) : (∃ s : Lv, succ a = (s, 0) ∧ s.ok ∧ ∀ n : Four, n.pos → ev s n = ev a n + 1) ∨ succ a = (zero, 4) := by
  rw [succ, if_pos ((may_iff a).2 ha), ans]
  have hf := plus_fine ha.fine 1 (by omega)
  by_cases h : (a.plus 1).form.within = true
  · left
    rw [if_pos h]
    refine ⟨_, rfl, ?_, fun n hn => by rw [ev_form hf hn, ev_plus ha.fine 1 (by omega)]⟩
    have hw := (within_iff _).1 h
    have hff := form_formed _ hf
    unfold Lv.formed at hff
    obtain ⟨e0, e1, e2, e3⟩ := form_p (a.plus 1)
    unfold Lv.ok
    rw [e0, e1, e2, e3] at hw ⊢
    unfold Lv.fine at hf
    generalize (a.plus 1).form.c = z at *
    rcases hff with hff | hff <;> omega
  · right; rw [if_neg h]
theorem succ_leq {a b s t : Lv} (ha : a.ok) (hb : b.ok) (hs : s.ok) (ht : t.ok) (es : ∀ n : Four, n.pos → ev s n = ev a n + 1) (et : ∀ n : Four, n.pos → ev t n = ev b n + 1) : Leq a b ↔ Leq s t :=
  ⟨fun h => leq_all hs ht fun n hn => by have := leq_ev ha hb h hn; rw [es n hn, et n hn]; omega,
   fun h => leq_all ha hb fun n hn => by have := leq_ev hs ht h hn; rw [es n hn, et n hn] at this; omega⟩
theorem succ_more {a s : Lv} (ha : a.ok) (hs : s.ok) (es : ∀ n : Four, n.pos → ev s n = ev a n + 1) : Leq a s ∧ ¬ Leq s a :=
  ⟨leq_all ha hs fun n hn => by rw [es n hn]; omega, fun h => by have := leq_ev hs ha h (n := ⟨0, 0, 0, 0⟩) (by simp [Four.pos]); rw [es _ (by simp [Four.pos])] at this; omega⟩
end Lvl
end Go.Proofs.Ytjicdmohnfcflaa


namespace Go.Proofs.Ytjicdmohnfcflaa
open Go.RowKit Go.Shelf Lvl Trm

/-- Is a number of a parameter such as may be beside C? -/
def Trm.good (c p : Int) : Prop := -1 ≤ p ∧ p ≤ 1099511627776 ∧ (c ≤ p → 0 ≤ p → c ≤ 0)
theorem Trm.good_of_may {l : Lv} (h : l.may = true) (k : Nat) (hk : k < 4) : good l.c (l.at_ k) := by
  have := (may_iff l).1 h
  unfold Lv.ok at this
  have h4 : k = 0 ∨ k = 1 ∨ k = 2 ∨ k = 3 := by omega
  rcases h4 with rfl | rfl | rfl | rfl <;> (unfold good; simp only [Lv.at_]; omega)
theorem Trm.may_of_good {l : Lv} (h0 : 0 ≤ l.c) (h1 : l.c ≤ 1099511627776) (h : ∀ j, j < 4 → good l.c (l.at_ j)) : l.may = true := by
  have g0 := h 0 (by omega)
  have g1 := h 1 (by omega)
  have g2 := h 2 (by omega)
  have g3 := h 3 (by omega)
  simp only [good, Lv.at_] at g0 g1 g2 g3
  rw [may_iff]
  unfold Lv.ok
  omega
def Trm.GoodRel (w : World) (l : Lv) (i : Value) (wr : World) : Prop := ∃ k : Nat, i = .int .i64 k ∧ k ≤ 4 ∧ (∀ j, j < k → good l.c (l.at_ j)) ∧ Kept w wr l.box

theorem Trm.at_cell {l : Lv} {b : Nat} {w : World} (h : w.heap[b]? = some l.box) (k : Nat) (hk : k < 4) : w.cell? ⟨b, 1 + k, none⟩ = some (.int .i64 (l.at_ k)) := by
  obtain ⟨_, c1, c2, c3, c4⟩ := Lv.cells h
  have h4 : k = 0 ∨ k = 1 ∨ k = 2 ∨ k = 3 := by omega
  rcases h4 with rfl | rfl | rfl | rfl
  · exact c1
  · exact c2
  · exact c3
  · exact c4

theorem Trm.Kept.drewN {w wr : World} {o : Obj} (h : Kept w wr o) (n : Nat) : Kept w (wr.drewN n) o := by
  refine h.step ⟨?_, ?_, ?_, ?_, ?_⟩ <;> simp [World.drewN]

set_option maxRecDepth 100000 in
set_option maxHeartbeats 2000000 in
theorem RefMay_any (l : Lv) (w : World) :
    Calls Try.prog 57 #[l.val] w fun e w' => e = .returned (.bool l.may) ∧ Below w.heap.size w w' := by
  obtain ⟨G, hG⟩ : ∃ G, G = l.may := ⟨_, rfl⟩
  rw [← hG]
  have HG := Lib.hid hG
  clear hG
  by_cases hc : 0 ≤ l.c ∧ l.c ≤ 1099511627776
  · obtain ⟨hc0, hc1⟩ := hc
    unfold Lv.val
    go_enter Try.func57, Try.ntmps57
    go_wp2_with fail
    go_loopw [3] (fun i wr => GoodRel w l i wr) (fun i _ => 4 - (intOf i).toNat)
    case atStart => exact ⟨0, rfl, by omega, fun j hj => absurd hj (by omega), Kept.start _ _⟩
    case round =>
      obtain ⟨k, rfl, hk, hgood, hkept⟩ := hrel
      have HK := Lib.hid hkept
      have HA := Lib.hid hgood
      clear hkept hgood
      obtain ⟨c0, _⟩ := Lv.cells HK.out.box
      by_cases hlt : k < 4
      · have c1 := at_cell HK.out.box k hlt
        have HN : Hid (¬ good l.c (l.at_ k) → false = G) := Lib.hid (fun hn => by
          rw [HG.out]
          refine (Bool.eq_false_iff.2 fun h => hn ?_).symm
          exact good_of_may h k hlt)
        have HY : Hid (good l.c (l.at_ k) → ∀ j, j < k + 1 → good l.c (l.at_ j)) := Lib.hid (fun hy j hj => by
          rcases (show j < k ∨ j = k by omega) with h | rfl
          · exact HA.out j h
          · exact hy)
        generalize l.at_ k = p at c1 HN HY
        by_cases hA : p < -1
        · have dA : decide (p < -1) = true := by simpa using hA
          have HF := Lib.hid (HN.out (by unfold good; omega))
          clear hA
          go_wp2_with fail
          go_quiet (fail)
          go_wp2_with fail
          go_ret
          exact ⟨ret_bool HF.out, (HK.out.drewN _).bel⟩
        · have dA : decide (p < -1) = false := by simpa using hA
          by_cases hB : 1099511627776 < p
          · have dB : decide (1099511627776 < p) = true := by simpa using hB
            have HF := Lib.hid (HN.out (by unfold good; omega))
            clear hA hB
            go_wp2_with fail
            go_quiet (fail)
            go_wp2_with fail
            go_ret
            exact ⟨ret_bool HF.out, (HK.out.drewN _).bel⟩
          · have dB : decide (1099511627776 < p) = false := by simpa using hB
            by_cases hC : l.c ≤ p
            · have dC : decide (l.c ≤ p) = true := by simpa using hC
              have dD : decide (0 ≤ p) = true := by simp; omega
              by_cases hE : 0 < l.c
              · have dE : decide (0 < l.c) = true := by simpa using hE
                have HF := Lib.hid (HN.out (by unfold good; omega))
                clear hA hB hC hE
                go_wp2_with fail
                go_quiet (fail)
                go_wp2_with fail
                go_ret
                exact ⟨ret_bool HF.out, (HK.out.drewN _).bel⟩
              · have dE : decide (0 < l.c) = false := by simpa using hE
                have HF := Lib.hid (HY.out (by unfold good; omega))
                clear hA hB hC hE
                go_wp2_with fail
                go_quiet (fail)
                go_wp2_with fail
                go_roundw
                case rel => exact ⟨k + 1, by go_num, by omega, HF.out, HK.out.drewN _⟩
                case measure => simp [intOf]; omega
            · have dC : decide (l.c ≤ p) = false := by simpa using hC
              have HF := Lib.hid (HY.out (by unfold good; omega))
              clear hA hB hC
              go_wp2_with fail
              go_quiet (fail)
              go_wp2_with fail
              go_roundw
              case rel => exact ⟨k + 1, by go_num, by omega, HF.out, HK.out.drewN _⟩
              case measure => simp [intOf]; omega
      · have HF : Hid (true = G) := by
          have hg := HA.out
          exact Lib.hid (by rw [HG.out]; exact (may_of_good hc0 hc1 fun j hj => hg j (by omega)).symm)
        go_wp2_with fail
        go_ret
        exact ⟨ret_bool HF.out, HK.out.bel⟩
  · have HF : Hid (false = G) := Lib.hid (by
      rw [HG.out]
      refine (Bool.eq_false_iff.2 fun h => ?_).symm
      have := (may_iff l).1 h
      unfold Lv.ok at this
      omega)
    have hc' : l.c < 0 ∨ (0 ≤ l.c ∧ 1099511627776 < l.c) := by omega
    clear hc
    rcases hc' with hc | ⟨hc0, hc⟩
    all_goals
      unfold Lv.val
      go_enter Try.func57, Try.ntmps57
      go_wp2_with fail
      go_ret
      exact ⟨ret_bool HF.out, below_one _ _⟩
end Go.Proofs.Ytjicdmohnfcflaa


namespace Go.Proofs.Ytjicdmohnfcflaa
open Go.RowKit Go.Shelf Lvl Trm

theorem kids_same (k : Int) (w : World) :
    Calls Try.prog 56 #[.int .u8 k] w fun e w' => e = .returned (.int .i64 (kids k)) ∧ w' = w :=
  (kids_any k w).mono fun _ _ ⟨h, h'⟩ => ⟨h, h'.symm⟩
theorem RefMay_at (a : Lv) (r : Bool) (h : a.may = r) (w : World) :
    Calls Try.prog 57 #[a.val] w fun e w' => e = .returned (.bool r) ∧ Below w.heap.size w w' := by
  have := RefMay_any a w; rwa [h] at this

theorem Trm.empty_iff (s : ByteArray) : s.toList.isEmpty = decide (s.size = 0) := by
  rw [ByteArray.toList_eq]
  show s.data.toList.isEmpty = decide (s.data.size = 0)
  rw [← Array.length_toList]
  cases s.data.toList <;> simp
def Trm.LvsRel (w : World) (o : Obj) (ls : List Lv) (i : Value) (wr : World) : Prop :=
  ∃ k : Nat, i = .int .i64 k ∧ k ≤ ls.length ∧ (ls.take k).all Lv.may = true ∧ Kept w wr o

set_option maxRecDepth 100000 in
set_option maxHeartbeats 4000000 in
theorem node_any (t : Tm) (h : Hd) (w : World) (hin : t.In w.heap.size w h) :
    Calls Try.prog 51 #[t.val h] w fun e w' => e = .returned (.bool t.node) ∧ Below w.heap.size w w' := by
  obtain ⟨G, hG⟩ : ∃ G, G = t.node := ⟨_, rfl⟩
  rw [← hG]
  have HG := Lib.hid hG
  clear hG
  have hfit := hin.fit
  have hls := hfit.ls
  have hts := hfit.ts
  have hss := hfit.s
  clear hfit
  have HIN := Lib.hid hin
  clear hin
  have hk1 := fun w => kids_same t.k w
  have HK1 := Lib.hid hk1
  clear hk1
  by_cases hA : kids t.k < 0
  · have HF : Hid (false = G) := Lib.hid (by rw [HG.out]; simp [Tm.node, show ¬ 0 ≤ kids t.k by omega])
    generalize kids t.k = K at hA HK1
    have dA : decide (K < 0) = true := by simpa using hA
    clear hA
    unfold Tm.val Tm.vals
    go_enter Try.func51, Try.ntmps51
    go_wp2_with fail
    go_quiet ((go_at_call 56; exact Calls.quiet_of_same (HK1.out _)))
    go_wp2_with fail
    go_ret
    exact ⟨ret_bool HF.out, ((Kept.start w (t.box h)).drewN _).bel⟩
  · by_cases hB : (t.ts.length : Int) = kids t.k
    · have h8 : t.k = 1 ∨ t.k = 2 ∨ t.k = 3 ∨ t.k = 4 ∨ t.k = 5 ∨ t.k = 6 ∨ t.k = 7 ∨ t.k = 8 := by
        unfold kids at hA
        split at hA
        · omega
        · split at hA
          · omega
          · split at hA
            · omega
            · split at hA
              · omega
              · omega
      have H8 := Lib.hid h8
      have HB := Lib.hid hB
      have HKK : Hid (0 ≤ kids t.k) := Lib.hid (by omega)
      have hq : ((t.ts.length : Int) != kids t.k) = false := by simpa using hB
      clear h8 hB
      generalize hKe : kids t.k = K at hA HK1 hq
      have HKe := Lib.hid hKe
      clear hKe
      have dA : decide (K < 0) = false := by simpa using hA
      clear hA
      unfold Tm.val Tm.vals
      go_enter Try.func51, Try.ntmps51
      go_wp2_with fail
      go_quiet ((go_at_call 56; exact Calls.quiet_of_same (HK1.out _)))
      have HQ := Lib.hid hq
      clear hq dA
      go_wp2_with fail
      go_loopw [3] (fun i wr => LvsRel w (t.box h) t.ls i wr) (fun i _ => t.ls.length - (intOf i).toNat)
      case atStart => exact ⟨0, rfl, by omega, rfl, (Kept.start w (t.box h)).drewN _⟩
      case round =>
        obtain ⟨k, rfl, hk, hall, hkept⟩ := hrel
        have HK := Lib.hid hkept
        have HA := Lib.hid hall
        clear hkept hall
        obtain ⟨c0, c1, c2, c3, c4⟩ := Tm.cells HK.out.box
        by_cases hlt : k < t.ls.length
        · obtain ⟨b, off, hao, hat⟩ := (Trm.LRow.low HIN.out.levels (Tm.In_iff.1 HIN.out).2.2.1 HK.out.bel).place k hlt
          obtain ⟨l0, l1, l2, l3, l4⟩ := hat
          rw [hao] at c3
          obtain ⟨x, hx⟩ : ∃ x, x = t.ls[k] := ⟨_, rfl⟩
          rw [← hx] at l0 l1 l2 l3 l4
          have hmay := fun w => RefMay_any x w
          have HN : Hid (x.may = false → false = G) := Lib.hid (fun hf => by
            rw [HG.out]
            have : t.ls.all Lv.may = false := Lvl.all_take_no hlt (by rw [← hx]; exact hf)
            simp [Tm.node, this])
          have HY : Hid (x.may = true → (t.ls.take (k + 1)).all Lv.may = true) := Lib.hid (fun hf => Lvl.all_take_yes hlt HA.out (by rw [← hx]; exact hf))
          obtain ⟨r, hr⟩ : ∃ r, r = x.may := ⟨_, rfl⟩
          rw [← hr] at hmay HN HY
          have HM := Lib.hid hmay
          clear hmay hr hx hao
          cases r
          · go_wp2_with fail
            unfold Lv.val at HM
            refine (HM.out _).mono ?_
            rintro e w1 ⟨rfl, b1⟩
            have HK1 := Lib.hid (HK.out.step b1)
            clear b1
            go_wp2_with fail
            go_ret
            exact ⟨ret_bool (HN.out (by trivial)), HK1.out.bel⟩
          · go_wp2_with fail
            unfold Lv.val at HM
            refine (HM.out _).mono ?_
            rintro e w1 ⟨rfl, b1⟩
            have HK1 := Lib.hid (HK.out.step b1)
            clear b1
            go_wp2_with fail
            go_roundw
            case rel => exact ⟨k + 1, by go_num, by omega, HY.out (by trivial), HK1.out⟩
            case measure => simp [intOf]; omega
        · have hall := HA.out
          rw [List.take_of_length_le (by omega)] at hall
          rcases H8.out with hk8 | hk8 | hk8 | hk8 | hk8 | hk8 | hk8 | hk8
          · have HE : Hid ((t.s.toList.isEmpty && (t.n == 0) && ((t.ls.length : Int) == 1)) = G) := Lib.hid (by
              rw [HG.out, Tm.node, hk8, ← hk8, hall, HB.out, hk8, Bool.eq_iff_iff]
              simp [kids, empty_iff]
              try omega)
            have HKF := Lib.hid hk8
            rw [hk8] at c0
            clear hall hk8
            go_wp2_with (fail)
            all_goals
              go_ret
              refine ⟨ret_bool ?_, HK.out.bel⟩
              rw [← HE.out]
              simp [*]
              try (intros; omega)
          · have HE : Hid ((t.s.toList.isEmpty && (decide (0 ≤ t.n) && decide (t.n ≤ 1048576)) && ((t.ls.length : Int) == 0)) = G) := Lib.hid (by
              rw [HG.out, Tm.node, hk8, ← hk8, hall, HB.out, hk8, Bool.eq_iff_iff]
              simp [kids, empty_iff]
              try omega)
            have HKF := Lib.hid hk8
            rw [hk8] at c0
            clear hall hk8
            go_wp2_with (fail)
            all_goals
              go_ret
              refine ⟨ret_bool ?_, HK.out.bel⟩
              rw [← HE.out]
              simp [*]
              try (intros; omega)
          · have HE : Hid ((nameOk t.s && (t.n == 0) && decide ((t.ls.length : Int) ≤ 4)) = G) := Lib.hid (by
              rw [HG.out, Tm.node, hk8, ← hk8, hall, HB.out, hk8, Bool.eq_iff_iff]
              simp [kids]
              try omega)
            have HKF := Lib.hid hk8
            rw [hk8] at c0
            clear hall hk8
            go_wp2_with (go_at_call 58; refine (RefName_any _ _ hss).mono ?_; rintro e w' ⟨rfl, rfl⟩)
            all_goals
              go_ret
              refine ⟨ret_bool ?_, HK.out.bel⟩
              rw [← HE.out]
              simp [*]
              try (intros; omega)
          · have HE : Hid ((t.s.toList.isEmpty && (t.n == 0) && ((t.ls.length : Int) == 0)) = G) := Lib.hid (by
              rw [HG.out, Tm.node, hk8, ← hk8, hall, HB.out, hk8, Bool.eq_iff_iff]
              simp [kids, empty_iff]
              try omega)
            have HKF := Lib.hid hk8
            rw [hk8] at c0
            clear hall hk8
            go_wp2_with (fail)
            all_goals
              go_ret
              refine ⟨ret_bool ?_, HK.out.bel⟩
              rw [← HE.out]
              simp [*]
              try (intros; omega)
          · have HE : Hid ((t.s.toList.isEmpty && (t.n == 0) && ((t.ls.length : Int) == 0)) = G) := Lib.hid (by
              rw [HG.out, Tm.node, hk8, ← hk8, hall, HB.out, hk8, Bool.eq_iff_iff]
              simp [kids, empty_iff]
              try omega)
            have HKF := Lib.hid hk8
            rw [hk8] at c0
            clear hall hk8
            go_wp2_with (fail)
            all_goals
              go_ret
              refine ⟨ret_bool ?_, HK.out.bel⟩
              rw [← HE.out]
              simp [*]
              try (intros; omega)
          · have HE : Hid ((t.s.toList.isEmpty && (t.n == 0) && ((t.ls.length : Int) == 0)) = G) := Lib.hid (by
              rw [HG.out, Tm.node, hk8, ← hk8, hall, HB.out, hk8, Bool.eq_iff_iff]
              simp [kids, empty_iff]
              try omega)
            have HKF := Lib.hid hk8
            rw [hk8] at c0
            clear hall hk8
            go_wp2_with (fail)
            all_goals
              go_ret
              refine ⟨ret_bool ?_, HK.out.bel⟩
              rw [← HE.out]
              simp [*]
              try (intros; omega)
          · have HE : Hid ((t.s.toList.isEmpty && (t.n == 0) && ((t.ls.length : Int) == 0)) = G) := Lib.hid (by
              rw [HG.out, Tm.node, hk8, ← hk8, hall, HB.out, hk8, Bool.eq_iff_iff]
              simp [kids, empty_iff]
              try omega)
            have HKF := Lib.hid hk8
            rw [hk8] at c0
            clear hall hk8
            go_wp2_with (fail)
            all_goals
              go_ret
              refine ⟨ret_bool ?_, HK.out.bel⟩
              rw [← HE.out]
              simp [*]
              try (intros; omega)
          · have HE : Hid ((nameOk t.s && (decide (0 ≤ t.n) && decide (t.n < 12)) && ((t.ls.length : Int) == 0)) = G) := Lib.hid (by
              rw [HG.out, Tm.node, hk8, ← hk8, hall, HB.out, hk8, Bool.eq_iff_iff]
              simp [kids]
              try omega)
            have HKF := Lib.hid hk8
            rw [hk8] at c0
            clear hall hk8
            go_wp2_with (go_at_call 58; refine (RefName_any _ _ hss).mono ?_; rintro e w' ⟨rfl, rfl⟩)
            all_goals
              go_ret
              refine ⟨ret_bool ?_, HK.out.bel⟩
              rw [← HE.out]
              simp [*]
              try (intros; omega)
    · have HF : Hid (false = G) := Lib.hid (by rw [HG.out]; simp [Tm.node, hB])
      have hq : ((t.ts.length : Int) != kids t.k) = true := by simpa using hB
      clear hB
      generalize kids t.k = K at hA HK1 hq
      have dA : decide (K < 0) = false := by simpa using hA
      clear hA
      unfold Tm.val Tm.vals
      go_enter Try.func51, Try.ntmps51
      go_wp2_with fail
      go_quiet ((go_at_call 56; exact Calls.quiet_of_same (HK1.out _)))
      go_wp2_with fail
      go_ret
      exact ⟨ret_bool HF.out, ((Kept.start w (t.box h)).drewN _).bel⟩
end Go.Proofs.Ytjicdmohnfcflaa


namespace Go.Proofs.Ytjicdmohnfcflaa
open Go.RowKit Go.Shelf Lvl Trm

/-- term.fits in its own words. -/
def Trm.Tm.fits (t : Tm) : Bool :=
  isKind t.k && decide (0 ≤ t.n) && decide (t.n ≤ (kd t.k).top) && decide ((t.ts.length : Int) = (kd t.k).terms) && decide ((kd t.k).least ≤ (t.ls.length : Int)) && decide ((t.ls.length : Int) ≤ (kd t.k).most) &&
  (if (kd t.k).named = true then nameOk t.s else t.s.toList.isEmpty) && t.ls.all Lv.may

theorem Trm.drew_below (B : Nat) (w : World) (n : Nat) : Below B w (w.drewN n) := by
  refine ⟨?_, ?_, ?_, ?_, ?_⟩ <;> simp [World.drewN]
theorem Trm.fits_node (t : Tm) : t.fits = t.node := by
  unfold Tm.fits Tm.node
  by_cases h : t.k = 1 ∨ t.k = 2 ∨ t.k = 3 ∨ t.k = 4 ∨ t.k = 5 ∨ t.k = 6 ∨ t.k = 7 ∨ t.k = 8
  · rw [empty_iff]
    generalize t.ls.all Lv.may = A
    generalize nameOk t.s = B
    rcases h with h | h | h | h | h | h | h | h <;> rw [h, Bool.eq_iff_iff] <;> simp [kd, isKind, kids] <;> constructor <;> (intro hh; (try refine ⟨⟨⟨⟨⟨⟨?_, ?_⟩, ?_⟩, ?_⟩, ?_⟩, ?_⟩, ?_⟩); all_goals first | omega | (simp_all; try omega) | simp_all)
  · have h1 : isKind t.k = false := by unfold isKind; simp; omega
    have h2 : ¬ 0 ≤ kids t.k := by
      unfold kids
      rw [if_neg (by omega), if_neg (by omega), if_neg (by omega), if_neg (by omega)]
      omega
    simp [h1, h2]

def Trm.FitRel (w : World) (ls : List Lv) (i : Value) (wr : World) : Prop :=
  ∃ k : Nat, i = .int .i64 k ∧ k ≤ ls.length ∧ (ls.take k).all Lv.may = true ∧ Below w.heap.size w wr

set_option maxRecDepth 100000 in
set_option maxHeartbeats 8000000 in
theorem fits_any (t : Tm) (b o : Nat) (w : World) (hat : TAt w.heap.size w b o t) :
    Calls Try.prog 49 #[.pointer (some ⟨b, o, none⟩)] w fun e w' => e = .returned (.bool t.node) ∧ Below w.heap.size w w' := by
  rw [← fits_node]
  obtain ⟨G, hG⟩ : ∃ G, G = t.fits := ⟨_, rfl⟩
  rw [← hG]
  have HG := Lib.hid hG
  clear hG
  obtain ⟨hb, h, hc, hin⟩ := hat
  have hfit := hin.fit
  have hls := hfit.ls
  have hts := hfit.ts
  have hss := hfit.s
  clear hfit
  have HIN := Lib.hid hin
  have HC := Lib.hid hc
  clear hin
  obtain ⟨c0, c1, c2, c3, c4⟩ := hc
  have HN : Hid (t.fits = false → false = G) := Lib.hid (fun hh => by rw [HG.out, hh])
  have HF : Hid (t.fits = (isKind t.k && decide (0 ≤ t.n) && decide (t.n ≤ (kd t.k).top) && decide ((t.ts.length : Int) = (kd t.k).terms) && decide ((kd t.k).least ≤ (t.ls.length : Int)) && decide ((t.ls.length : Int) ≤ (kd t.k).most) &&
    (if (kd t.k).named = true then nameOk t.s else t.s.toList.isEmpty) && t.ls.all Lv.may)) := Lib.hid rfl
  have HK := Lib.hid (kindOf_any t.k w)
  unfold Kd.val Kd.vals at HK
  generalize kd t.k = a at HF HK
  generalize isKind t.k = is at HF HK
  have ht : ∀ W, Below w.heap.size w W → TCells W b o t h := fun W hW => HC.out.below hW hb
  have HT := Lib.hid ht
  clear ht
  cases is
  · have HF1 := Lib.hid (HN.out (by rw [HF.out]; simp))
    clear HN HF
    go_enter Try.func49, Try.ntmps49
    go_wp2_with fail
    refine HK.out.mono ?_
    rintro e w1 ⟨rfl, b1⟩
    obtain ⟨d0, d1, d2, d3, d4⟩ := HT.out _ b1
    have hz := b1.size
    have hb2 : b < w1.heap.size := by omega
    have HB := Lib.hid b1
    clear b1 c0 c1 c2 c3 c4
    go_wp2_with fail
    go_quiet (fail)
    go_wp2_with fail
    go_ret
    exact ⟨ret_bool HF1.out, HB.out.trans ((((Below.refl w1.heap.size w1).alloc (Nat.le_refl _) _).trans (drew_below _ _ _)).mono hz)⟩
  · by_cases hq0 : t.n < 0
    · have d0x : decide (t.n < 0) = true := by simpa using hq0
      have HF1 := Lib.hid (HN.out (by rw [HF.out]; simp [show ¬ 0 ≤ t.n by omega]))
      clear hq0 HN HF
      go_enter Try.func49, Try.ntmps49
      go_wp2_with fail
      refine HK.out.mono ?_
      rintro e w1 ⟨rfl, b1⟩
      obtain ⟨d0, d1, d2, d3, d4⟩ := HT.out _ b1
      have hz := b1.size
      have hb2 : b < w1.heap.size := by omega
      have HB := Lib.hid b1
      clear b1 c0 c1 c2 c3 c4
      go_wp2_with fail
      go_quiet (fail)
      go_wp2_with fail
      go_ret
      exact ⟨ret_bool HF1.out, HB.out.trans ((((Below.refl w1.heap.size w1).alloc (Nat.le_refl _) _).trans (drew_below _ _ _)).mono hz)⟩
    · have d0x : decide (t.n < 0) = false := by simpa using hq0
      by_cases hq1 : a.top < t.n
      · have d1x : decide (a.top < t.n) = true := by simpa using hq1
        have HF1 := Lib.hid (HN.out (by rw [HF.out]; simp [show ¬ t.n ≤ a.top by omega]))
        clear hq1 HN HF
        go_enter Try.func49, Try.ntmps49
        go_wp2_with fail
        refine HK.out.mono ?_
        rintro e w1 ⟨rfl, b1⟩
        obtain ⟨d0, d1, d2, d3, d4⟩ := HT.out _ b1
        have hz := b1.size
        have hb2 : b < w1.heap.size := by omega
        have HB := Lib.hid b1
        clear b1 c0 c1 c2 c3 c4
        go_wp2_with fail
        go_quiet (fail)
        go_wp2_with fail
        go_ret
        exact ⟨ret_bool HF1.out, HB.out.trans ((((Below.refl w1.heap.size w1).alloc (Nat.le_refl _) _).trans (drew_below _ _ _)).mono hz)⟩
      · have d1x : decide (a.top < t.n) = false := by simpa using hq1
        by_cases hq2 : ¬ (t.ts.length : Int) = a.terms
        · have d2x : ((t.ts.length : Int) != a.terms) = true := by simpa using hq2
          have HF1 := Lib.hid (HN.out (by rw [HF.out]; simp [hq2]))
          clear hq2 HN HF
          go_enter Try.func49, Try.ntmps49
          go_wp2_with fail
          refine HK.out.mono ?_
          rintro e w1 ⟨rfl, b1⟩
          obtain ⟨d0, d1, d2, d3, d4⟩ := HT.out _ b1
          have hz := b1.size
          have hb2 : b < w1.heap.size := by omega
          have HB := Lib.hid b1
          clear b1 c0 c1 c2 c3 c4
          go_wp2_with fail
          go_quiet (fail)
          go_wp2_with fail
          go_ret
          exact ⟨ret_bool HF1.out, HB.out.trans ((((Below.refl w1.heap.size w1).alloc (Nat.le_refl _) _).trans (drew_below _ _ _)).mono hz)⟩
        · have d2x : ((t.ts.length : Int) != a.terms) = false := by simpa using hq2
          by_cases hq3 : (t.ls.length : Int) < a.least
          · have d3x : decide ((t.ls.length : Int) < a.least) = true := by simpa using hq3
            have HF1 := Lib.hid (HN.out (by rw [HF.out]; simp [show ¬ a.least ≤ (t.ls.length : Int) by omega]))
            clear hq3 HN HF
            go_enter Try.func49, Try.ntmps49
            go_wp2_with fail
            refine HK.out.mono ?_
            rintro e w1 ⟨rfl, b1⟩
            obtain ⟨d0, d1, d2, d3, d4⟩ := HT.out _ b1
            have hz := b1.size
            have hb2 : b < w1.heap.size := by omega
            have HB := Lib.hid b1
            clear b1 c0 c1 c2 c3 c4
            go_wp2_with fail
            go_quiet (fail)
            go_wp2_with fail
            go_ret
            exact ⟨ret_bool HF1.out, HB.out.trans ((((Below.refl w1.heap.size w1).alloc (Nat.le_refl _) _).trans (drew_below _ _ _)).mono hz)⟩
          · have d3x : decide ((t.ls.length : Int) < a.least) = false := by simpa using hq3
            by_cases hq4 : a.most < (t.ls.length : Int)
            · have d4x : decide (a.most < (t.ls.length : Int)) = true := by simpa using hq4
              have HF1 := Lib.hid (HN.out (by rw [HF.out]; simp [show ¬ (t.ls.length : Int) ≤ a.most by omega]))
              clear hq4 HN HF
              go_enter Try.func49, Try.ntmps49
              go_wp2_with fail
              refine HK.out.mono ?_
              rintro e w1 ⟨rfl, b1⟩
              obtain ⟨d0, d1, d2, d3, d4⟩ := HT.out _ b1
              have hz := b1.size
              have hb2 : b < w1.heap.size := by omega
              have HB := Lib.hid b1
              clear b1 c0 c1 c2 c3 c4
              go_wp2_with fail
              go_quiet (fail)
              go_wp2_with fail
              go_ret
              exact ⟨ret_bool HF1.out, HB.out.trans ((((Below.refl w1.heap.size w1).alloc (Nat.le_refl _) _).trans (drew_below _ _ _)).mono hz)⟩
            · have d4x : decide (a.most < (t.ls.length : Int)) = false := by simpa using hq4
              have HR : Hid (t.fits = ((if a.named = true then nameOk t.s else t.s.toList.isEmpty) && t.ls.all Lv.may)) := Lib.hid (by
                rw [HF.out]
                have e2 := Classical.not_not.1 hq2
                simp only [decide_eq_true (show 0 ≤ t.n by omega), decide_eq_true (show t.n ≤ a.top by omega), decide_eq_true e2, decide_eq_true (show a.least ≤ (t.ls.length : Int) by omega), decide_eq_true (show (t.ls.length : Int) ≤ a.most by omega), Bool.true_and])
              clear HF hq0 hq1 hq2 hq3 hq4
              cases hnm : a.named
              · cases hem : t.s.toList.isEmpty
                · rw [hnm] at HR HK
                  clear hnm
                  have hem1 : ¬ t.s.toList = [] := by simpa using hem
                  have HF1 := Lib.hid (HN.out (by rw [HR.out]; simp [hem1]))
                  go_enter Try.func49, Try.ntmps49
                  go_wp2_with fail
                  refine HK.out.mono ?_
                  rintro e w1 ⟨rfl, b1⟩
                  obtain ⟨d0, d1, d2, d3, d4⟩ := HT.out _ b1
                  have hz := b1.size
                  have hb2 : b < w1.heap.size := by omega
                  have HB := Lib.hid b1
                  clear b1 c0 c1 c2 c3 c4
                  go_wp2_with fail
                  go_quiet (fail)
                  go_wp2_with fail
                  go_ret
                  exact ⟨ret_bool HF1.out, HB.out.trans ((((Below.refl w1.heap.size w1).alloc (Nat.le_refl _) _).trans (drew_below _ _ _)).mono hz)⟩
                · rw [hnm] at HR HK
                  clear hnm
                  have hem1 : t.s.toList = [] := by simpa using hem
                  have HS : Hid ((if false = true then nameOk t.s else t.s.toList.isEmpty) = true) := Lib.hid (by simp [hem1])
                  go_enter Try.func49, Try.ntmps49
                  go_wp2_with fail
                  refine HK.out.mono ?_
                  rintro e w1 ⟨rfl, b1⟩
                  obtain ⟨d0, d1, d2, d3, d4⟩ := HT.out _ b1
                  have hz := b1.size
                  have hb2 : b < w1.heap.size := by omega
                  have HB := Lib.hid b1
                  clear b1 c0 c1 c2 c3 c4
                  go_wp2_with fail
                  go_quiet (fail)
                  go_wp2_with fail
                  go_loopw [90] (fun i wr => FitRel w t.ls i wr) (fun i _ => t.ls.length - (intOf i).toNat)
                  case atStart => exact ⟨0, rfl, by omega, rfl, HB.out.trans ((((Below.refl w1.heap.size w1).alloc (Nat.le_refl _) _).trans (drew_below _ _ _)).mono hz)⟩
                  case round =>
                    clear d0 d1 d2 d3 d4
                    obtain ⟨k, rfl, hk, hall, hbel⟩ := hrel
                    have HB2 := Lib.hid hbel
                    have HA := Lib.hid hall
                    clear hbel hall
                    by_cases hlt : k < t.ls.length
                    · obtain ⟨b2, off, hao, l0, l1, l2, l3, l4⟩ := (Trm.LRow.low HIN.out.levels (Tm.In_iff.1 HIN.out).2.2.1 HB2.out).place k hlt
                      have HAO := Lib.hid hao
                      rw [hao]
                      clear hao
                      obtain ⟨x, hx⟩ : ∃ x, x = t.ls[k] := ⟨_, rfl⟩
                      rw [← hx] at l0 l1 l2 l3 l4
                      have hmay := fun w => may_any x w
                      have HNX : Hid (x.may = false → false = G) := Lib.hid (fun hf => HN.out (by
                        have : t.ls.all Lv.may = false := Lvl.all_take_no hlt (by rw [← hx]; exact hf)
                        rw [HR.out, this, Bool.and_false]))
                      have HY : Hid (x.may = true → (t.ls.take (k + 1)).all Lv.may = true) := Lib.hid (fun hf => Lvl.all_take_yes hlt HA.out (by rw [← hx]; exact hf))
                      obtain ⟨r, hr⟩ : ∃ r, r = x.may := ⟨_, rfl⟩
                      rw [← hr] at hmay HNX HY
                      have HM := Lib.hid hmay
                      clear hmay hr hx
                      cases r
                      · go_wp2_with fail
                        unfold Lv.val at HM
                        refine (HM.out _).mono ?_
                        rintro e w3 ⟨rfl, b3⟩
                        have HB3 := Lib.hid ((HB2.out.alloc HB2.out.size x.box).trans (b3.mono (by have := HB2.out.size; simp; omega)))
                        clear b3
                        go_wp2_with fail
                        go_ret
                        exact ⟨ret_bool (HNX.out (by trivial)), HB3.out⟩
                      · go_wp2_with fail
                        unfold Lv.val at HM
                        refine (HM.out _).mono ?_
                        rintro e w3 ⟨rfl, b3⟩
                        have HB3 := Lib.hid ((HB2.out.alloc HB2.out.size x.box).trans (b3.mono (by have := HB2.out.size; simp; omega)))
                        clear b3
                        go_wp2_with fail
                        go_roundw
                        case rel => exact ⟨k + 1, by go_num, by omega, HY.out (by trivial), HB3.out⟩
                        case measure => simp [intOf]; omega
                    · have HE : Hid (true = G) := Lib.hid (by
                        have hall := HA.out
                        rw [List.take_of_length_le (by omega)] at hall
                        rw [HG.out, HR.out, hall, Bool.and_true, HS.out])
                      go_wp2_with fail
                      go_ret
                      exact ⟨ret_bool HE.out, HB2.out⟩
              · cases hem : t.s.toList.isEmpty
                · cases hok : nameOk t.s
                  · rw [hnm] at HR HK
                    clear hnm
                    have HNAME : Hid (∀ w, Calls Try.prog 54 #[.string t.s] w fun e w' => e = .returned (.bool false) ∧ w = w') := Lib.hid (fun w => by rw [← hok]; exact Name_any t.s w hss)
                    have hem1 : ¬ t.s.toList = [] := by simpa using hem
                    have HF1 := Lib.hid (HN.out (by rw [HR.out]; simp [hok]))
                    clear hok
                    go_enter Try.func49, Try.ntmps49
                    go_wp2_with fail
                    refine HK.out.mono ?_
                    rintro e w1 ⟨rfl, b1⟩
                    obtain ⟨d0, d1, d2, d3, d4⟩ := HT.out _ b1
                    have hz := b1.size
                    have hb2 : b < w1.heap.size := by omega
                    have HB := Lib.hid b1
                    clear b1 c0 c1 c2 c3 c4
                    go_wp2_with fail
                    go_quiet (fail)
                    go_wp2_with (go_at_call 54; refine (HNAME.out _).mono ?_; rintro e w' ⟨rfl, rfl⟩)
                    go_ret
                    exact ⟨ret_bool HF1.out, HB.out.trans ((((Below.refl w1.heap.size w1).alloc (Nat.le_refl _) _).trans (drew_below _ _ _)).mono hz)⟩
                  · rw [hnm] at HR HK
                    clear hnm
                    have HNAME : Hid (∀ w, Calls Try.prog 54 #[.string t.s] w fun e w' => e = .returned (.bool true) ∧ w = w') := Lib.hid (fun w => by rw [← hok]; exact Name_any t.s w hss)
                    have hem1 : ¬ t.s.toList = [] := by simpa using hem
                    have HS : Hid ((if true = true then nameOk t.s else t.s.toList.isEmpty) = true) := Lib.hid (by simp [hok])
                    clear hok
                    go_enter Try.func49, Try.ntmps49
                    go_wp2_with fail
                    refine HK.out.mono ?_
                    rintro e w1 ⟨rfl, b1⟩
                    obtain ⟨d0, d1, d2, d3, d4⟩ := HT.out _ b1
                    have hz := b1.size
                    have hb2 : b < w1.heap.size := by omega
                    have HB := Lib.hid b1
                    clear b1 c0 c1 c2 c3 c4
                    go_wp2_with fail
                    go_quiet (fail)
                    go_wp2_with (go_at_call 54; refine (HNAME.out _).mono ?_; rintro e w' ⟨rfl, rfl⟩)
                    go_loopw [90] (fun i wr => FitRel w t.ls i wr) (fun i _ => t.ls.length - (intOf i).toNat)
                    case atStart => exact ⟨0, rfl, by omega, rfl, HB.out.trans ((((Below.refl w1.heap.size w1).alloc (Nat.le_refl _) _).trans (drew_below _ _ _)).mono hz)⟩
                    case round =>
                      clear d0 d1 d2 d3 d4
                      obtain ⟨k, rfl, hk, hall, hbel⟩ := hrel
                      have HB2 := Lib.hid hbel
                      have HA := Lib.hid hall
                      clear hbel hall
                      by_cases hlt : k < t.ls.length
                      · obtain ⟨b2, off, hao, l0, l1, l2, l3, l4⟩ := (Trm.LRow.low HIN.out.levels (Tm.In_iff.1 HIN.out).2.2.1 HB2.out).place k hlt
                        have HAO := Lib.hid hao
                        rw [hao]
                        clear hao
                        obtain ⟨x, hx⟩ : ∃ x, x = t.ls[k] := ⟨_, rfl⟩
                        rw [← hx] at l0 l1 l2 l3 l4
                        have hmay := fun w => may_any x w
                        have HNX : Hid (x.may = false → false = G) := Lib.hid (fun hf => HN.out (by
                          have : t.ls.all Lv.may = false := Lvl.all_take_no hlt (by rw [← hx]; exact hf)
                          rw [HR.out, this, Bool.and_false]))
                        have HY : Hid (x.may = true → (t.ls.take (k + 1)).all Lv.may = true) := Lib.hid (fun hf => Lvl.all_take_yes hlt HA.out (by rw [← hx]; exact hf))
                        obtain ⟨r, hr⟩ : ∃ r, r = x.may := ⟨_, rfl⟩
                        rw [← hr] at hmay HNX HY
                        have HM := Lib.hid hmay
                        clear hmay hr hx
                        cases r
                        · go_wp2_with fail
                          unfold Lv.val at HM
                          refine (HM.out _).mono ?_
                          rintro e w3 ⟨rfl, b3⟩
                          have HB3 := Lib.hid ((HB2.out.alloc HB2.out.size x.box).trans (b3.mono (by have := HB2.out.size; simp; omega)))
                          clear b3
                          go_wp2_with fail
                          go_ret
                          exact ⟨ret_bool (HNX.out (by trivial)), HB3.out⟩
                        · go_wp2_with fail
                          unfold Lv.val at HM
                          refine (HM.out _).mono ?_
                          rintro e w3 ⟨rfl, b3⟩
                          have HB3 := Lib.hid ((HB2.out.alloc HB2.out.size x.box).trans (b3.mono (by have := HB2.out.size; simp; omega)))
                          clear b3
                          go_wp2_with fail
                          go_roundw
                          case rel => exact ⟨k + 1, by go_num, by omega, HY.out (by trivial), HB3.out⟩
                          case measure => simp [intOf]; omega
                      · have HE : Hid (true = G) := Lib.hid (by
                          have hall := HA.out
                          rw [List.take_of_length_le (by omega)] at hall
                          rw [HG.out, HR.out, hall, Bool.and_true, HS.out])
                        go_wp2_with fail
                        go_ret
                        exact ⟨ret_bool HE.out, HB2.out⟩
                · rw [hnm] at HR HK
                  clear hnm
                  have HNAME : Hid (∀ w, Calls Try.prog 54 #[.string t.s] w fun e w' => e = .returned (.bool false) ∧ w = w') := Lib.hid (fun w => by rw [← nameOk_no (Or.inl (by have := hem; rw [empty_iff] at this; simpa using this))]; exact Name_any t.s w hss)
                  have hem1 : t.s.toList = [] := by simpa using hem
                  have hok : nameOk t.s = false := nameOk_no (Or.inl (by have := hem; rw [empty_iff] at this; simpa using this))
                  have HF1 := Lib.hid (HN.out (by rw [HR.out]; simp [hok]))
                  clear hok
                  go_enter Try.func49, Try.ntmps49
                  go_wp2_with fail
                  refine HK.out.mono ?_
                  rintro e w1 ⟨rfl, b1⟩
                  obtain ⟨d0, d1, d2, d3, d4⟩ := HT.out _ b1
                  have hz := b1.size
                  have hb2 : b < w1.heap.size := by omega
                  have HB := Lib.hid b1
                  clear b1 c0 c1 c2 c3 c4
                  go_wp2_with fail
                  go_quiet (fail)
                  go_wp2_with (go_at_call 54; refine (HNAME.out _).mono ?_; rintro e w' ⟨rfl, rfl⟩)
                  go_ret
                  exact ⟨ret_bool HF1.out, HB.out.trans ((((Below.refl w1.heap.size w1).alloc (Nat.le_refl _) _).trans (drew_below _ _ _)).mono hz)⟩
end Go.Proofs.Ytjicdmohnfcflaa

