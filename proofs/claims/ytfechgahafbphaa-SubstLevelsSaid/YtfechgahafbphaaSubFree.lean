/-
  The mathematics of layer 4: what is done with free variables, from the left, and what comes of it.
-/
import Derived.Test.YtfechgahafbphaaSubMath
namespace Go.Proofs.Ytfechgahafbphaa
open Lvl Trm

namespace Trm
/-- A leaf that does something with free variables; all else stays. -/
def lfFree {σ : Type} (to : σ → Int → Int → σ × Int × Option Tm) : Lf σ := fun st x u => if x.k = 2 ∧ u ≤ x.n then to st (x.n - u) u else (st, 0, none)

/-- The free variables, one behind the other, until an error. -/
def runs {σ : Type} (to : σ → Int → Int → σ × Int × Option Tm) : σ → List (Int × Int) → σ × Int
  | st, [] => (st, 0)
  | st, p :: r => if (to st p.1 p.2).2.1 = 0 then runs to (to st p.1 p.2).1 r else ((to st p.1 p.2).1, (to st p.1 p.2).2.1)

theorem runs_append {σ : Type} (to : σ → Int → Int → σ × Int × Option Tm) : ∀ (l r : List (Int × Int)) (st : σ), runs to st (l ++ r) = if (runs to st l).2 = 0 then runs to (runs to st l).1 r else runs to st l
  | [], r, st => by simp [runs]
  | p :: l, r, st => by
    rw [List.cons_append, runs, runs]
    by_cases h : (to st p.1 p.2).2.1 = 0
    · rw [if_pos h, if_pos h, runs_append to l r]
    · rw [if_neg h, if_neg h, if_neg h]

theorem und_under {k : Int} {i : Nat} {r : List Tm} (u : Int) (h : (i : Int) + r.length + 1 = kids k) : und k r.isEmpty u = under k i u := by
  unfold und under
  have : (r.isEmpty = true) ↔ ((i : Int) = kids k - 1) := by
    rw [List.isEmpty_iff, ← List.length_eq_zero_iff]
    omega
  simp only [this]

mutual
theorem thr_runs {σ : Type} (to : σ → Int → Int → σ × Int × Option Tm) : ∀ (t : Tm) (st : σ) (d u : Int), OkMay t d → ((t.thr (lfFree to) st u).1, (t.thr (lfFree to) st u).2.1) = runs to st (t.vps u)
  | .mk k n s ls ts, st, d, u, ho => by
    rw [Tm.thr, Tm.vps]
    by_cases hts : ts.isEmpty = true
    · rw [if_pos hts]
      have h0 : ts = [] := List.isEmpty_iff.1 hts
      subst h0
      rw [vpsL, List.append_nil]
      by_cases hc : k = 2 ∧ u ≤ n
      · rw [if_pos hc, show lfFree to st (.mk k n s ls []) u = to st (n - u) u from if_pos hc]
        simp only [runs]
        by_cases h : (to st (n - u) u).2.1 = 0
        · rw [if_pos h, h]
        · rw [if_neg h]
      · rw [if_neg hc, show lfFree to st (.mk k n s ls []) u = (st, 0, none) from if_neg hc]
        rfl
    · rw [if_neg hts]
      have hf := node_few ho.node.1
      have hk : ¬ (k = 2 ∧ u ≤ n) := by
        rintro ⟨rfl, _⟩
        have h1 := hf.1
        simp only [Tm.ts, Tm.k, kids] at h1
        exact hts (by simpa using h1)
      rw [if_neg hk, List.nil_append]
      have := thrL_runs to k ts 0 st (d + 1) u (by simpa [Tm.ts, Tm.k] using hf.1) (fun x hx => ho.down x hx)
      rw [← this]
      rfl
theorem thrL_runs {σ : Type} (to : σ → Int → Int → σ × Int × Option Tm) (k : Int) : ∀ (ts : List Tm) (i : Nat) (st : σ) (d u : Int), (i : Int) + ts.length = kids k → (∀ x ∈ ts, OkMay x d) → ((thrL (lfFree to) k ts st u).1, (thrL (lfFree to) k ts st u).2.1) = runs to st (vpsL k ts i u)
  | [], i, st, d, u, _, _ => by rw [thrL, vpsL]; rfl
  | t :: r, i, st, d, u, hk, ho => by
    have hu := und_under (k := k) (i := i) (r := r) u (by simp at hk; omega)
    have h1 := thr_runs to t st d (under k i u) (ho t (by simp))
    rw [thrL, vpsL, hu, runs_append, ← h1]
    by_cases he : (t.thr (lfFree to) st (under k i u)).2.1 = 0
    · rw [if_pos he, if_pos he]
      exact thrL_runs to k r (i + 1) _ d _ (by simp at hk; push_cast; omega) (fun x hx => ho x (by simp [hx]))
    · rw [if_neg he, if_neg he]
end

mutual
theorem thr_put {σ : Type} {to : σ → Int → Int → σ × Int × Option Tm} {g : Int → Int → Tm} (hto : ∀ st v u, (to st v u).2.1 = 0 → (to st v u).2.2.getD (tV (v + u)) = g v u) :
    ∀ (t : Tm) (st : σ) (d u : Int), OkMay t d → (t.thr (lfFree to) st u).2.1 = 0 → (t.thr (lfFree to) st u).2.2.getD t = t.put g u
  | .mk k n s ls ts, st, d, u, ho, h => by
    rw [Tm.thr] at h ⊢
    rw [Tm.put]
    by_cases hts : ts.isEmpty = true
    · rw [if_pos hts] at h ⊢
      have h0 : ts = [] := List.isEmpty_iff.1 hts
      by_cases hc : k = 2 ∧ u ≤ n
      · rw [if_pos hc]
        have hv := node_var ho.node.1 hc.1
        unfold lfFree at h ⊢
        rw [if_pos (show (Tm.mk k n s ls ts).k = 2 ∧ u ≤ (Tm.mk k n s ls ts).n from hc)] at h ⊢
        have h2 := hto st (n - u) u h
        rw [Int.sub_add_cancel] at h2
        rw [hv]
        exact h2
      · rw [if_neg hc]
        unfold lfFree
        rw [if_neg (show ¬ ((Tm.mk k n s ls ts).k = 2 ∧ u ≤ (Tm.mk k n s ls ts).n) from hc)]
        subst h0
        rw [putL]; rfl
    · rw [if_neg hts] at h ⊢
      have hf := node_few ho.node.1
      have hk : ¬ (k = 2 ∧ u ≤ n) := by
        rintro ⟨rfl, _⟩
        have h1 := hf.1
        simp only [Tm.ts, Tm.k, kids] at h1
        exact hts (by simpa using h1)
      have hls : ls = [] := node_inner ho.node.1 (show ts ≠ [] by simpa using hts)
      subst hls
      rw [if_neg hk]
      obtain ⟨h1, h2⟩ := thrL_put hto k ts 0 st (d + 1) u (by simpa [Tm.ts, Tm.k] using hf.1) (fun x hx => ho.down x hx) h
      unfold fin
      have h' : (thrL (lfFree to) k ts st u).2.1 = 0 := h
      cases hcc : (thrL (lfFree to) k ts st u).2.2.1
      · rw [if_neg (by simp)]
        rw [← h1, h2 hcc]
        rfl
      · rw [if_pos (by simp [h'])]
        rw [← h1]
        rfl
theorem thrL_put {σ : Type} {to : σ → Int → Int → σ × Int × Option Tm} {g : Int → Int → Tm} (hto : ∀ st v u, (to st v u).2.1 = 0 → (to st v u).2.2.getD (tV (v + u)) = g v u) (k : Int) :
    ∀ (ts : List Tm) (i : Nat) (st : σ) (d u : Int), (i : Int) + ts.length = kids k → (∀ x ∈ ts, OkMay x d) → (thrL (lfFree to) k ts st u).2.1 = 0 → (thrL (lfFree to) k ts st u).2.2.2 = putL g k ts i u ∧ ((thrL (lfFree to) k ts st u).2.2.1 = false → (thrL (lfFree to) k ts st u).2.2.2 = ts)
  | [], i, st, d, u, _, _, _ => by rw [thrL, putL]; exact ⟨rfl, fun _ => rfl⟩
  | t :: r, i, st, d, u, hk, ho, h => by
    have hu := und_under (k := k) (i := i) (r := r) u (by simp at hk; omega)
    rw [thrL, hu] at h ⊢
    by_cases he : (t.thr (lfFree to) st (under k i u)).2.1 = 0
    · rw [if_pos he] at h ⊢
      obtain ⟨h1, h2⟩ := thrL_put hto k r (i + 1) _ d _ (by simp at hk; push_cast; omega) (fun x hx => ho x (by simp [hx])) h
      have h3 := thr_put hto t st d (under k i u) (ho t (by simp)) he
      rw [putL]
      refine ⟨by rw [← h1, ← h3], fun hc => ?_⟩
      simp only [Bool.or_eq_false_iff] at hc
      have h4 : (t.thr (lfFree to) st (under k i u)).2.2 = none := by simpa using hc.1
      rw [h2 hc.2, h4]; rfl
    · rw [if_neg he] at h
      exact absurd h he
end

/-! Lift. -/
def toLift (fr by_ : Int) : Unit → Int → Int → Unit × Int × Option Tm := fun _ v u =>
  if v < fr ∨ by_ = 0 then ((), 0, none) else if v + by_ < fr then ((), 7, none) else ((), 0, some (tV (v + by_ + u)))
def gLift (fr by_ : Int) : Int → Int → Tm := ren (fun v => if v < fr then v else v + by_)
theorem toLift_g (fr by_ : Int) (st : Unit) (v u : Int) (h : (toLift fr by_ st v u).2.1 = 0) : (toLift fr by_ st v u).2.2.getD (tV (v + u)) = gLift fr by_ v u := by
  unfold toLift at h ⊢
  unfold gLift ren
  by_cases h1 : v < fr ∨ by_ = 0
  · rw [if_pos h1]
    by_cases h2 : v < fr
    · simp only [if_pos h2]; rfl
    · simp only [if_neg h2]
      have : by_ = 0 := by omega
      rw [this, Int.add_zero]; rfl
  · rw [if_neg h1] at h ⊢
    by_cases h2 : v + by_ < fr
    · rw [if_pos h2] at h
      exact absurd h (by decide)
    · rw [if_neg h2]
      simp only [if_neg (show ¬ v < fr by omega)]; rfl
theorem runs_lift (fr by_ : Int) : ∀ (l : List (Int × Int)), runs (toLift fr by_) () l = ((), if (l.any fun p => decide (fr ≤ p.1 ∧ p.1 + by_ < fr)) = true then 7 else 0)
  | [] => rfl
  | p :: l => by
    rw [runs, List.any_cons]
    by_cases h1 : p.1 < fr ∨ by_ = 0
    · have hto : toLift fr by_ () p.1 p.2 = ((), 0, none) := by unfold toLift; rw [if_pos h1]
      have hd : decide (fr ≤ p.1 ∧ p.1 + by_ < fr) = false := by simp; omega
      rw [hto, if_pos rfl, runs_lift fr by_ l, hd, Bool.false_or]
    · by_cases h2 : p.1 + by_ < fr
      · have hto : toLift fr by_ () p.1 p.2 = ((), 7, none) := by unfold toLift; rw [if_neg h1, if_pos h2]
        have hd : decide (fr ≤ p.1 ∧ p.1 + by_ < fr) = true := by simp; omega
        rw [hto, if_neg (by decide), hd, Bool.true_or, if_pos rfl]
      · have hto : toLift fr by_ () p.1 p.2 = ((), 0, some (tV (p.1 + by_ + p.2))) := by unfold toLift; rw [if_neg h1, if_neg h2]
        have hd : decide (fr ≤ p.1 ∧ p.1 + by_ < fr) = false := by simp; omega
        rw [hto, if_pos rfl, runs_lift fr by_ l, hd, Bool.false_or]
/-- Would a free variable be lifted below from? -/
def Tm.sinks (t : Tm) (fr by_ : Int) : Bool := (t.vps 0).any fun p => decide (fr ≤ p.1 ∧ p.1 + by_ < fr)

/-- What Lift's going through a term that may be tells. -/
theorem thr_lift {t : Tm} (h : t.may = true) (fr by_ : Int) : (t.thr (lfFree (toLift fr by_)) () 0).2.1 = (if t.sinks fr by_ = true then 7 else 0) ∧ (t.sinks fr by_ = false → (t.thr (lfFree (toLift fr by_)) () 0).2.2.getD t = t.put (gLift fr by_) 0) := by
  have h1 := thr_runs (toLift fr by_) t () 1 0 (OkMay.start h)
  rw [runs_lift] at h1
  have h2 := congrArg Prod.snd h1
  dsimp only at h2
  refine ⟨h2, fun hs => thr_put (fun st v u => toLift_g fr by_ st v u) t () 1 0 (OkMay.start h) ?_⟩
  rw [h2]
  unfold Tm.sinks at hs
  rw [hs]; rfl

/-! Close. -/
def toClose (q : Int) : Unit → Int → Int → Unit × Int × Option Tm := fun _ v u =>
  if v < q then ((), 0, some (tV (v + 1 + u))) else if v = q then ((), 0, some (tV u)) else ((), 0, none)
def gClose (q : Int) : Int → Int → Tm := ren (fun v => if v < q then v + 1 else if v = q then 0 else v)
theorem toClose_g (q : Int) (st : Unit) (v u : Int) : (toClose q st v u).2.1 = 0 ∧ (toClose q st v u).2.2.getD (tV (v + u)) = gClose q v u := by
  unfold toClose gClose ren
  by_cases h1 : v < q
  · simp [if_pos h1]
  · by_cases h2 : v = q
    · simp [if_neg h1, if_pos h2]
    · simp [if_neg h1, if_neg h2]
theorem runs_close (q : Int) : ∀ (l : List (Int × Int)), runs (toClose q) () l = ((), 0)
  | [] => rfl
  | p :: l => by rw [runs, if_pos (toClose_g q () p.1 p.2).1]; exact runs_close q l
theorem thr_close {t : Tm} (h : t.may = true) (q : Int) : (t.thr (lfFree (toClose q)) () 0).2.1 = 0 ∧ (t.thr (lfFree (toClose q)) () 0).2.2.getD t = t.put (gClose q) 0 := by
  have h1 := thr_runs (toClose q) t () 1 0 (OkMay.start h)
  rw [runs_close] at h1
  have h2 := congrArg Prod.snd h1
  dsimp only at h2
  exact ⟨h2, thr_put (fun st v u _ => (toClose_g q st v u).2) t () 1 0 (OkMay.start h) h2⟩
end Trm
end Go.Proofs.Ytfechgahafbphaa
