/-
  Plain mathematics of layer 4 (subst): a term is gone through from the left, and something comes in the place of its leaves. Nothing of the program is named here.
-/
import Derived.Test.YtijdlihodpodjaaTrmVars
namespace Go.Proofs.Ytijdlihodpodjaa
open Lvl
namespace Trm

/-- What a leaf becomes: the state, the error, another term (none: it stays). -/
abbrev Lf (σ : Type) := σ → Tm → Int → σ × Int × Option Tm

/-- The binders around a term of a kind: the last one is bound in. -/
def und (k : Int) (last : Bool) (u : Int) : Int := if binds k = true ∧ last = true then u + 1 else u

/-- What comes of a node of whose terms some have been gone through, c: whether one of them is another one. -/
def fin {σ : Type} (k n : Int) (s : ByteArray) (c : Bool) (dn : List Tm) (z : σ × Int × Bool × List Tm) : σ × Int × Option Tm :=
  (z.1, z.2.1, if z.2.1 = 0 ∧ (c || z.2.2.1) = true then some (.mk k n s [] (dn ++ z.2.2.2)) else none)

mutual
def Tm.thr {σ : Type} (lf : Lf σ) : Tm → σ → Int → σ × Int × Option Tm
  | .mk k n s ls ts, st, u => if ts.isEmpty = true then lf st (.mk k n s ls ts) u else fin k n s false [] (thrL lf k ts st u)
def thrL {σ : Type} (lf : Lf σ) (k : Int) : List Tm → σ → Int → σ × Int × Bool × List Tm
  | [], st, _ => (st, 0, false, [])
  | t :: r, st, u =>
    if (t.thr lf st (und k r.isEmpty u)).2.1 = 0 then
      ((thrL lf k r (t.thr lf st (und k r.isEmpty u)).1 (und k r.isEmpty u)).1, (thrL lf k r (t.thr lf st (und k r.isEmpty u)).1 (und k r.isEmpty u)).2.1,
        (t.thr lf st (und k r.isEmpty u)).2.2.isSome || (thrL lf k r (t.thr lf st (und k r.isEmpty u)).1 (und k r.isEmpty u)).2.2.1,
        (t.thr lf st (und k r.isEmpty u)).2.2.getD t :: (thrL lf k r (t.thr lf st (und k r.isEmpty u)).1 (und k r.isEmpty u)).2.2.2)
    else ((t.thr lf st (und k r.isEmpty u)).1, (t.thr lf st (und k r.isEmpty u)).2.1, false, [])
end

theorem Tm.thr_leaf {σ : Type} (lf : Lf σ) {t : Tm} (h : t.ts = []) (st : σ) (u : Int) : t.thr lf st u = lf st t u := by
  cases t with
  | mk k n s ls ts =>
    have h' : ts = [] := h
    subst h'
    rw [Tm.thr]; rfl
theorem Tm.thr_node {σ : Type} (lf : Lf σ) {t : Tm} (h : t.ts ≠ []) (st : σ) (u : Int) : t.thr lf st u = fin t.k t.n t.s false [] (thrL lf t.k t.ts st u) := by
  cases t with
  | mk k n s ls ts =>
    have h' : ts ≠ [] := h
    rw [Tm.thr, if_neg (by simpa using h')]; rfl

theorem fin_bad {σ : Type} (lf : Lf σ) {k n : Int} {s : ByteArray} {c : Bool} {dn : List Tm} {t : Tm} {r : List Tm} {st : σ} {u : Int} {Y : σ × Int × Option Tm} (hY : t.thr lf st (und k r.isEmpty u) = Y) (he : Y.2.1 ≠ 0) :
    fin k n s c dn (thrL lf k (t :: r) st u) = (Y.1, Y.2.1, none) := by
  rw [thrL, hY, if_neg he]
  simp [fin, he]
theorem fin_ok {σ : Type} (lf : Lf σ) {k n : Int} {s : ByteArray} {c : Bool} {dn : List Tm} {t : Tm} {r : List Tm} {st : σ} {u : Int} {Y : σ × Int × Option Tm} (hY : t.thr lf st (und k r.isEmpty u) = Y) (he : Y.2.1 = 0) :
    fin k n s c dn (thrL lf k (t :: r) st u) = fin k n s (c || Y.2.2.isSome) (dn ++ [Y.2.2.getD t]) (thrL lf k r Y.1 (und k r.isEmpty u)) := by
  rw [thrL, hY, if_pos he]
  simp [fin, Bool.or_assoc]
theorem fin_nil {σ : Type} (lf : Lf σ) {k n : Int} {s : ByteArray} {c : Bool} {dn : List Tm} {st : σ} {u : Int} :
    fin k n s c dn (thrL lf k [] st u) = (st, 0, if c = true then some (.mk k n s [] dn) else none) := by
  rw [thrL]
  simp [fin]

theorem node_few {t : Tm} (h : t.node = true) : (t.ts.length : Int) = kids t.k ∧ t.ts.length ≤ 3 ∧ 1 ≤ t.k ∧ t.k ≤ 8 := by
  unfold Tm.node at h
  simp only [Bool.and_eq_true, decide_eq_true_eq] at h
  obtain ⟨⟨⟨⟨⟨h0, h1⟩, _⟩, _⟩, _⟩, _⟩ := h
  refine ⟨h1, ?_, ?_, ?_⟩ <;>
  · unfold kids at h0 h1
    repeat' split at h0
    all_goals (first | omega | (simp_all; done) | (simp_all; omega))
theorem node_inner {t : Tm} (h : t.node = true) (hts : t.ts ≠ []) : t.ls = [] := by
  have hf := node_few h
  have hl : t.ts.length ≠ 0 := fun h0 => hts (List.eq_nil_of_length_eq_zero h0)
  have h1 := hf.1
  unfold Tm.node at h
  simp only [Bool.and_eq_true] at h
  obtain ⟨_, h6⟩ := h
  have hk : t.k ≠ 1 ∧ t.k ≠ 3 := by
    refine ⟨?_, ?_⟩ <;>
    · intro hk
      rw [hk] at h1
      simp [kids] at h1
      exact hts h1
  rw [if_neg hk.1, if_neg hk.2] at h6
  exact List.eq_nil_of_length_eq_zero (of_decide_eq_true h6)

mutual
theorem Tm.thr_good {σ : Type} {lf : Lf σ} {Good : σ → Prop} (hg : ∀ st t u, Good st → t.node = true → t.ts = [] → (lf st t u).2.1 = 0 → Good (lf st t u).1) :
    ∀ (t : Tm) (st : σ) (d u : Int), OkMay t d → Good st → (t.thr lf st u).2.1 = 0 → Good (t.thr lf st u).1
  | .mk k n s ls ts, st, d, u, ho, g, h => by
    rw [Tm.thr] at h ⊢
    split at h
    · rename_i hs
      rw [if_pos hs]
      exact hg st _ u g ho.node.1 (show ts = [] by simpa using hs) h
    · rename_i hs
      rw [if_neg hs]
      exact thrL_good hg k ts st (d + 1) u (fun x hx => ho.down x hx) g h
theorem thrL_good {σ : Type} {lf : Lf σ} {Good : σ → Prop} (hg : ∀ st t u, Good st → t.node = true → t.ts = [] → (lf st t u).2.1 = 0 → Good (lf st t u).1) (k : Int) :
    ∀ (ts : List Tm) (st : σ) (d u : Int), (∀ x ∈ ts, OkMay x d) → Good st → (thrL lf k ts st u).2.1 = 0 → Good (thrL lf k ts st u).1
  | [], st, d, u, _, g, _ => by rw [thrL]; exact g
  | t :: r, st, d, u, ho, g, h => by
    rw [thrL] at h ⊢
    split at h
    · rename_i he
      rw [if_pos he]
      exact thrL_good hg k r _ d _ (fun x hx => ho x (by simp [hx])) (Tm.thr_good hg t st d _ (ho t (by simp)) g he) h
    · rename_i he
      exact absurd h he
end

theorem Tm.thr_kind {σ : Type} {lf : Lf σ} (hk : ∀ st t u y, t.node = true → t.ts = [] → (lf st t u).2.2 = some y → y.k ≠ 0) {t : Tm} {st : σ} {d u : Int} (ho : OkMay t d) {y : Tm} (h : (t.thr lf st u).2.2 = some y) : y.k ≠ 0 := by
  by_cases hts : t.ts = []
  · rw [Tm.thr_leaf lf hts] at h
    exact hk st t u y ho.node.1 hts h
  · rw [Tm.thr_node lf hts] at h
    have := (node_few ho.node.1).2.2
    unfold fin at h
    dsimp only at h
    split at h
    · cases h
      show t.k ≠ 0
      omega
    · cases h
end Trm
end Go.Proofs.Ytijdlihodpodjaa
