/-
  Plain mathematics of layer 3 (term): a term as a tree, which may be, and what it has. Nothing of the program is named here.
-/
import Derived.Test.YtijdlihodpodjaaLevMay
namespace Go.Proofs.Ytijdlihodpodjaa
open Lvl
namespace Trm

/-- A term. -/
inductive Tm where
  | mk (k n : Int) (s : ByteArray) (ls : List Lv) (ts : List Tm)
def Tm.k : Tm → Int | .mk k _ _ _ _ => k
def Tm.n : Tm → Int | .mk _ n _ _ _ => n
def Tm.s : Tm → ByteArray | .mk _ _ s _ _ => s
def Tm.ls : Tm → List Lv | .mk _ _ _ ls _ => ls
def Tm.ts : Tm → List Tm | .mk _ _ _ _ ts => ts
theorem Tm.eta (t : Tm) : t = .mk t.k t.n t.s t.ls t.ts := by cases t; rfl

theorem Tm.ind {P : Tm → Prop} (h : ∀ t : Tm, (∀ x ∈ t.ts, P x) → P t) : ∀ t, P t := by
  intro t
  induction hn : SizeOf.sizeOf t using Nat.strongRecOn generalizing t with
  | _ n ih =>
    refine h t fun x hx => ih (SizeOf.sizeOf x) ?_ x rfl
    cases t with
    | mk k m s ls ts =>
      have := List.sizeOf_lt_of_mem (show x ∈ ts from hx)
      subst hn
      simp
      omega

mutual
/-- How many nodes. -/
def Tm.size : Tm → Int
  | .mk _ _ _ _ ts => 1 + sizeL ts
def sizeL : List Tm → Int
  | [] => 0
  | t :: r => t.size + sizeL r
end

mutual
/-- So many nodes are left behind the term, none of which is bad; below 0: there are not so many, or not so deep. -/
def Tm.left (bad : Tm → Bool) : Tm → Int → Int → Int
  | .mk k n s ls ts, l, d => if l - 1 < 0 ∨ d ≤ 0 ∨ bad (.mk k n s ls ts) = true then -1 else leftL bad ts (l - 1) (d - 1)
def leftL (bad : Tm → Bool) : List Tm → Int → Int → Int
  | [], l, _ => l
  | t :: r, l, d => if t.left bad l d < 0 then -1 else leftL bad r (t.left bad l d) d
end

/-- How many terms a kind has; -1: it is none. -/
def kids (k : Int) : Int := if k = 1 ∨ k = 2 ∨ k = 3 then 0 else if k = 4 ∨ k = 5 ∨ k = 6 then 2 else if k = 7 then 3 else if k = 8 then 1 else -1

/-- May a byte stand in a name? -/
def inNameI (x : Int) : Bool := decide ((97 ≤ x ∧ x ≤ 122) ∨ (65 ≤ x ∧ x ≤ 90) ∨ (48 ≤ x ∧ x ≤ 57) ∨ x = 95 ∨ x = 46 ∨ x = 39)
def inName (c : UInt8) : Bool := inNameI c.toNat
def nameOk (s : ByteArray) : Bool := decide (1 ≤ s.size) && decide (s.size ≤ 32) && s.data.toList.all inName

/-- Has a node the fields of its kind? -/
def Tm.node (t : Tm) : Bool :=
  decide (0 ≤ kids t.k) && decide ((t.ts.length : Int) = kids t.k) && t.ls.all Lv.may &&
  (if t.k = 3 ∨ t.k = 8 then nameOk t.s else decide (t.s.size = 0)) &&
  (if t.k = 2 then decide (0 ≤ t.n ∧ t.n ≤ 1048576) else if t.k = 8 then decide (0 ≤ t.n ∧ t.n < 12) else decide (t.n = 0)) &&
  (if t.k = 1 then decide (t.ls.length = 1) else if t.k = 3 then decide (t.ls.length ≤ 4) else decide (t.ls.length = 0))

def Tm.may (t : Tm) : Bool := decide (0 ≤ t.left (fun x => !x.node) 65536 4096)
def Tm.deep (t : Tm) : Bool := decide (t.left (fun x => decide (20 < x.ls.length)) 131072 8192 < 0)

/-- Does a kind bind a variable in its last term? -/
def binds (k : Int) : Bool := decide (k = 5 ∨ k = 6 ∨ k = 7)

/-- The binders around the i-th term of a kind. -/
def under (k : Int) (i : Nat) (u : Int) : Int := if binds k = true ∧ (i : Int) = kids k - 1 then u + 1 else u

mutual
/-- A term is gone through, each node ahead of its terms, until see says no. -/
def Tm.walk {σ : Type} (see : σ → Tm → Int → Int → σ × Bool) : Tm → σ → Int → Int → σ × Bool
  | .mk k n s ls ts, st, d, u =>
    if (see st (.mk k n s ls ts) d u).2 = true then walkL see k ts 0 (see st (.mk k n s ls ts) d u).1 (d + 1) u else ((see st (.mk k n s ls ts) d u).1, false)
def walkL {σ : Type} (see : σ → Tm → Int → Int → σ × Bool) (k : Int) : List Tm → Nat → σ → Int → Int → σ × Bool
  | [], _, st, _, _ => (st, true)
  | t :: r, i, st, d, u =>
    if (t.walk see st d (under k i u)).2 = true then walkL see k r (i + 1) (t.walk see st d (under k i u)).1 d (under k i u) else ((t.walk see st d (under k i u)).1, false)
end

theorem Tm.walk_eq {σ : Type} (see : σ → Tm → Int → Int → σ × Bool) (t : Tm) (st : σ) (d u : Int) :
    t.walk see st d u = if (see st t d u).2 = true then walkL see t.k t.ts 0 (see st t d u).1 (d + 1) u else ((see st t d u).1, false) := by
  cases t; rw [Tm.walk]; rfl

theorem Tm.left_eq (bad : Tm → Bool) (t : Tm) (l d : Int) : t.left bad l d = if l - 1 < 0 ∨ d ≤ 0 ∨ bad t = true then -1 else leftL bad t.ts (l - 1) (d - 1) := by
  cases t; rw [Tm.left]; rfl

theorem Tm.left_ge (bad : Tm → Bool) (t : Tm) : ∀ l d, -1 ≤ t.left bad l d ∧ t.left bad l d < max l 0 := by
  induction t using Tm.ind with
  | h t ih =>
    intro l d
    rw [Tm.left_eq]
    split
    · omega
    · rename_i hc
      have key : ∀ ts : List Tm, (∀ x ∈ ts, ∀ l d, -1 ≤ x.left bad l d ∧ x.left bad l d < max l 0) → ∀ l d, 0 ≤ l → -1 ≤ leftL bad ts l d ∧ leftL bad ts l d ≤ l := by
        intro ts
        induction ts with
        | nil => intro _ l d hl; rw [leftL]; omega
        | cons t r ihr =>
          intro hx l d hl
          rw [leftL]
          have h1 := hx t (by simp) l d
          split
          · omega
          · have := ihr (fun x hx' => hx x (by simp [hx'])) (t.left bad l d) d (by omega)
            omega
      have := key t.ts ih (l - 1) (d - 1) (by omega)
      omega

theorem Tm.left_lt (bad : Tm → Bool) (t : Tm) (l d : Int) (h : 0 ≤ t.left bad l d) : t.left bad l d < l := by
  have := t.left_ge bad l d
  omega

theorem leftL_ge (bad : Tm → Bool) : ∀ (ts : List Tm) (l d : Int), 0 ≤ l → -1 ≤ leftL bad ts l d ∧ leftL bad ts l d ≤ l
  | [], l, d, hl => by rw [leftL]; omega
  | t :: r, l, d, hl => by
    rw [leftL]
    have h1 := t.left_ge bad l d
    split
    · omega
    · have := leftL_ge bad r (t.left bad l d) d (by omega)
      omega

/-- As far as the nodes suffice they are counted. -/
theorem Tm.left_size (bad : Tm → Bool) (t : Tm) : ∀ l d, 0 ≤ t.left bad l d → t.left bad l d = l - t.size := by
  induction t using Tm.ind with
  | h t ih =>
    intro l d h
    have key : ∀ ts : List Tm, (∀ x ∈ ts, ∀ l d, 0 ≤ x.left bad l d → x.left bad l d = l - x.size) → ∀ l d, 0 ≤ leftL bad ts l d → leftL bad ts l d = l - sizeL ts := by
      intro ts
      induction ts with
      | nil => intro _ l d _; rw [leftL, sizeL]; omega
      | cons t r ihr =>
        intro hx l d hl
        rw [leftL] at hl ⊢
        rw [sizeL]
        split at hl
        · omega
        · rename_i hc
          rw [if_neg hc]
          have h1 := hx t (by simp) l d (by omega)
          have := ihr (fun x hx' => hx x (by simp [hx'])) _ d hl
          omega
    rw [Tm.left_eq] at h ⊢
    split at h
    · omega
    · rename_i hc
      rw [if_neg hc]
      have := key t.ts ih _ _ h
      have e : t.size = 1 + sizeL t.ts := by cases t; rw [Tm.size]; rfl
      omega
end Trm
end Go.Proofs.Ytijdlihodpodjaa
