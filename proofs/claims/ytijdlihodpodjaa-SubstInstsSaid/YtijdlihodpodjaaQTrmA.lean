/-
  Plain mathematics of layer 3 (term): a term as a tree, which may be, and what it has. Nothing of the program is named here.
-/
import Derived.Test.YtijdlihodpodjaaQLevA
import Derived.Deep.Slices
import Derived.LoopTactic
import Derived.BigQuiet
import Derived.Deep.QuietTactic
import Derived.OpenShut
import Derived.ChangeArms
import Derived.DataReads
namespace Go.Proofs.Ytijdlihodpodjaa
open Lvl
namespace Trm

/-- A term. -/
inductive Tm where
  | mk (k n : Int) (s : ByteArray) (ls : List Lv) (ts : List Tm)
def Tm.k : Tm → Int | .mk k _ _ _ _ => k
def Tm.n : Tm → Int | .mk _ n _ _ _ => n
def Tm.s : Tm → ByteArray | .mk _ _ s _ _ => s
def Tm.ls : Tm → List Lv | .mk _ _ _ ls _ => ls
def Tm.ts : Tm → List Tm | .mk _ _ _ _ ts => ts
theorem Tm.eta (t : Tm) : t = .mk t.k t.n t.s t.ls t.ts := by cases t; rfl

theorem Tm.ind {P : Tm → Prop} (h : ∀ t : Tm, (∀ x ∈ t.ts, P x) → P t) : ∀ t, P t := by
  intro t
  induction hn : SizeOf.sizeOf t using Nat.strongRecOn generalizing t with
  | _ n ih =>
    refine h t fun x hx => ih (SizeOf.sizeOf x) ?_ x rfl
    cases t with
    | mk k m s ls ts =>
      have := List.sizeOf_lt_of_mem (show x ∈ ts from hx)
      subst hn
      simp
      omega

mutual
/-- How many nodes. -/
def Tm.size : Tm → Int
  | .mk _ _ _ _ ts => 1 + sizeL ts
def sizeL : List Tm → Int
  | [] => 0
  | t :: r => t.size + sizeL r
end

mutual
/-- So many nodes are left behind the term, none of which is bad; below 0: there are not so many, or not so deep. -/
def Tm.left (bad : Tm → Bool) : Tm → Int → Int → Int
  | .mk k n s ls ts, l, d => if l - 1 < 0 ∨ d ≤ 0 ∨ bad (.mk k n s ls ts) = true then -1 else leftL bad ts (l - 1) (d - 1)
def leftL (bad : Tm → Bool) : List Tm → Int → Int → Int
  | [], l, _ => l
  | t :: r, l, d => if t.left bad l d < 0 then -1 else leftL bad r (t.left bad l d) d
end

/-- How many terms a kind has; -1: it is none. -/
def kids (k : Int) : Int := if k = 1 ∨ k = 2 ∨ k = 3 then 0 else if k = 4 ∨ k = 5 ∨ k = 6 then 2 else if k = 7 then 3 else if k = 8 then 1 else -1

/-- May a byte stand in a name? -/
def inNameI (x : Int) : Bool := decide ((97 ≤ x ∧ x ≤ 122) ∨ (65 ≤ x ∧ x ≤ 90) ∨ (48 ≤ x ∧ x ≤ 57) ∨ x = 95 ∨ x = 46 ∨ x = 39)
def inName (c : UInt8) : Bool := inNameI c.toNat
def nameOk (s : ByteArray) : Bool := decide (1 ≤ s.size) && decide (s.size ≤ 32) && s.data.toList.all inName

/-- Has a node the fields of its kind? -/
def Tm.node (t : Tm) : Bool :=
  decide (0 ≤ kids t.k) && decide ((t.ts.length : Int) = kids t.k) && t.ls.all Lv.may &&
  (if t.k = 3 ∨ t.k = 8 then nameOk t.s else decide (t.s.size = 0)) &&
  (if t.k = 2 then decide (0 ≤ t.n ∧ t.n ≤ 1048576) else if t.k = 8 then decide (0 ≤ t.n ∧ t.n < 12) else decide (t.n = 0)) &&
  (if t.k = 1 then decide (t.ls.length = 1) else if t.k = 3 then decide (t.ls.length ≤ 4) else decide (t.ls.length = 0))

def Tm.may (t : Tm) : Bool := decide (0 ≤ t.left (fun x => !x.node) 65536 4096)
def Tm.deep (t : Tm) : Bool := decide (t.left (fun x => decide (20 < x.ls.length)) 131072 8192 < 0)

/-- Does a kind bind a variable in its last term? -/
def binds (k : Int) : Bool := decide (k = 5 ∨ k = 6 ∨ k = 7)

/-- The binders around the i-th term of a kind. -/
def under (k : Int) (i : Nat) (u : Int) : Int := if binds k = true ∧ (i : Int) = kids k - 1 then u + 1 else u

mutual
/-- A term is gone through, each node ahead of its terms, until see says no. -/
def Tm.walk {σ : Type} (see : σ → Tm → Int → Int → σ × Bool) : Tm → σ → Int → Int → σ × Bool
  | .mk k n s ls ts, st, d, u =>
    if (see st (.mk k n s ls ts) d u).2 = true then walkL see k ts 0 (see st (.mk k n s ls ts) d u).1 (d + 1) u else ((see st (.mk k n s ls ts) d u).1, false)
def walkL {σ : Type} (see : σ → Tm → Int → Int → σ × Bool) (k : Int) : List Tm → Nat → σ → Int → Int → σ × Bool
  | [], _, st, _, _ => (st, true)
  | t :: r, i, st, d, u =>
    if (t.walk see st d (under k i u)).2 = true then walkL see k r (i + 1) (t.walk see st d (under k i u)).1 d (under k i u) else ((t.walk see st d (under k i u)).1, false)
end

theorem Tm.walk_eq {σ : Type} (see : σ → Tm → Int → Int → σ × Bool) (t : Tm) (st : σ) (d u : Int) :
    t.walk see st d u = if (see st t d u).2 = true then walkL see t.k t.ts 0 (see st t d u).1 (d + 1) u else ((see st t d u).1, false) := by
  cases t; rw [Tm.walk]; rfl

theorem Tm.left_eq (bad : Tm → Bool) (t : Tm) (l d : Int) : t.left bad l d = if l - 1 < 0 ∨ d ≤ 0 ∨ bad t = true then -1 else leftL bad t.ts (l - 1) (d - 1) := by
  cases t; rw [Tm.left]; rfl

theorem Tm.left_ge (bad : Tm → Bool) (t : Tm) : ∀ l d, -1 ≤ t.left bad l d ∧ t.left bad l d < max l 0 := by
  induction t using Tm.ind with
  | h t ih =>
    intro l d
    rw [Tm.left_eq]
    split
    · omega
    · rename_i hc
      have key : ∀ ts : List Tm, (∀ x ∈ ts, ∀ l d, -1 ≤ x.left bad l d ∧ x.left bad l d < max l 0) → ∀ l d, 0 ≤ l → -1 ≤ leftL bad ts l d ∧ leftL bad ts l d ≤ l := by
        intro ts
        induction ts with
        | nil => intro _ l d hl; rw [leftL]; omega
        | cons t r ihr =>
          intro hx l d hl
          rw [leftL]
          have h1 := hx t (by simp) l d
          split
          · omega
          · have := ihr (fun x hx' => hx x (by simp [hx'])) (t.left bad l d) d (by omega)
            omega
      have := key t.ts ih (l - 1) (d - 1) (by omega)
      omega

theorem Tm.left_lt (bad : Tm → Bool) (t : Tm) (l d : Int) (h : 0 ≤ t.left bad l d) : t.left bad l d < l := by
  have := t.left_ge bad l d
  omega

theorem leftL_ge (bad : Tm → Bool) : ∀ (ts : List Tm) (l d : Int), 0 ≤ l → -1 ≤ leftL bad ts l d ∧ leftL bad ts l d ≤ l
  | [], l, d, hl => by rw [leftL]; omega
  | t :: r, l, d, hl => by
    rw [leftL]
    have h1 := t.left_ge bad l d
    split
    · omega
    · have := leftL_ge bad r (t.left bad l d) d (by omega)
      omega

/-- As far as the nodes suffice they are counted. -/
theorem Tm.left_size (bad : Tm → Bool) (t : Tm) : ∀ l d, 0 ≤ t.left bad l d → t.left bad l d = l - t.size := by
  induction t using Tm.ind with
  | h t ih =>
    intro l d h
    have key : ∀ ts : List Tm, (∀ x ∈ ts, ∀ l d, 0 ≤ x.left bad l d → x.left bad l d = l - x.size) → ∀ l d, 0 ≤ leftL bad ts l d → leftL bad ts l d = l - sizeL ts := by
      intro ts
      induction ts with
      | nil => intro _ l d _; rw [leftL, sizeL]; omega
      | cons t r ihr =>
        intro hx l d hl
        rw [leftL] at hl ⊢
        rw [sizeL]
        split at hl
        · omega
        · rename_i hc
          rw [if_neg hc]
          have h1 := hx t (by simp) l d (by omega)
          have := ihr (fun x hx' => hx x (by simp [hx'])) _ d hl
          omega
    rw [Tm.left_eq] at h ⊢
    split at h
    · omega
    · rename_i hc
      rw [if_neg hc]
      have := key t.ts ih _ _ h
      have e : t.size = 1 + sizeL t.ts := by cases t; rw [Tm.size]; rfl
      omega
end Trm
end Go.Proofs.Ytijdlihodpodjaa

/-
  A term lies in the world: its slices' places, and what lies there.
-/
namespace Go.Proofs.Ytijdlihodpodjaa
open Go.RowKit Go.Shelf Lvl

namespace Trm
/-- Where a term's slices lie. -/
structure Hd where
  lo : Option Addr
  lc : Nat
  to : Option Addr
  tc : Nat

def Tm.vals (t : Tm) (h : Hd) : Array Value := #[.int .u8 t.k, .int .i64 t.n, .string t.s, .slice h.lo t.ls.length h.lc, .slice h.to t.ts.length h.tc]
def Tm.val (t : Tm) (h : Hd) : Value := .agg (t.vals h)
def Tm.box (t : Tm) (h : Hd) : Obj := .cells (t.vals h) 25

/-- Its numbers are such as these fields hold. -/
structure Tm.Fit (t : Tm) : Prop where
  k0 : 0 ≤ t.k
  k1 : t.k ≤ 255
  n0 : -9223372036854775808 ≤ t.n
  n1 : t.n ≤ 9223372036854775807
  s : t.s.size ≤ 9223372036854775807
  ls : t.ls.length ≤ 9223372036854775807
  ts : t.ts.length ≤ 9223372036854775807

/-- The header of a term lies at an address. -/
structure TCells (w : World) (b o : Nat) (t : Tm) (h : Hd) : Prop where
  c0 : w.cell? ⟨b, o, none⟩ = some (.int .u8 t.k)
  c1 : w.cell? ⟨b, o + 1, none⟩ = some (.int .i64 t.n)
  c2 : w.cell? ⟨b, o + 2, none⟩ = some (.string t.s)
  c3 : w.cell? ⟨b, o + 3, none⟩ = some (.slice h.lo t.ls.length h.lc)
  c4 : w.cell? ⟨b, o + 4, none⟩ = some (.slice h.to t.ts.length h.tc)

/-- The block of a slice that is not empty is below B. -/
def Low (B : Nat) (ao : Option Addr) (n : Nat) : Prop := 0 < n → ∀ a, ao = some a → a.block < B

mutual
/-- A term with these slices lies in w, below block B. -/
def Tm.In (B : Nat) (w : World) : Tm → Hd → Prop
  | .mk k n s ls ts, h => Tm.Fit (.mk k n s ls ts) ∧ LRow w h.lo ls ∧ Low B h.lo ls.length ∧ RowIn B w h.to 0 ts
def RowIn (B : Nat) (w : World) (ao : Option Addr) : Nat → List Tm → Prop
  | _, [] => True
  | i, t :: r => (∃ b off h, ao = some ⟨b, off, none⟩ ∧ b < B ∧ TCells w b (off + i * 5) t h ∧ Tm.In B w t h) ∧ RowIn B w ao (i + 1) r
end

/-- A term lies at an address. -/
def TAt (B : Nat) (w : World) (b o : Nat) (t : Tm) : Prop := b < B ∧ ∃ h, TCells w b o t h ∧ t.In B w h

theorem Tm.In_iff {B : Nat} {w : World} {t : Tm} {h : Hd} : t.In B w h ↔ t.Fit ∧ LRow w h.lo t.ls ∧ Low B h.lo t.ls.length ∧ RowIn B w h.to 0 t.ts := by
  cases t; rw [Tm.In]; exact Iff.rfl
theorem Tm.In.fit {B : Nat} {w : World} {t : Tm} {h : Hd} (g : t.In B w h) : t.Fit := (Tm.In_iff.1 g).1
theorem Tm.In.levels {B : Nat} {w : World} {t : Tm} {h : Hd} (g : t.In B w h) : LRow w h.lo t.ls := (Tm.In_iff.1 g).2.1

theorem RowIn.place {B : Nat} {w : World} {ao : Option Addr} : ∀ {ts : List Tm} {i : Nat}, RowIn B w ao i ts → ∀ k (hk : k < ts.length), ∃ b off, ao = some ⟨b, off, none⟩ ∧ TAt B w b (off + (i + k) * 5) ts[k]
  | [], _, _, k, hk => absurd hk (by simp)
  | t :: r, i, g, 0, _ => by
    rw [RowIn] at g
    obtain ⟨⟨b, off, h, hao, hb, hc, hi⟩, _⟩ := g
    exact ⟨b, off, hao, hb, h, hc, hi⟩
  | t :: r, i, g, k + 1, hk => by
    rw [RowIn] at g
    obtain ⟨b, off, hao, hat⟩ := RowIn.place g.2 k (by simpa using hk)
    refine ⟨b, off, hao, ?_⟩
    rwa [show i + 1 + k = i + (k + 1) by omega] at hat

theorem RowIn.mk {B : Nat} {w : World} {ao : Option Addr} : ∀ {ts : List Tm} {i : Nat}, (∀ k (hk : k < ts.length), ∃ b off, ao = some ⟨b, off, none⟩ ∧ TAt B w b (off + (i + k) * 5) ts[k]) → RowIn B w ao i ts
  | [], _, _ => by rw [RowIn]; trivial
  | t :: r, i, g => by
    rw [RowIn]
    refine ⟨?_, RowIn.mk fun k hk => ?_⟩
    · obtain ⟨b, off, hao, hb, h, hc, hi⟩ := g 0 (by simp)
      exact ⟨b, off, h, hao, hb, hc, hi⟩
    · obtain ⟨b, off, hao, hat⟩ := g (k + 1) (by simpa using hk)
      refine ⟨b, off, hao, ?_⟩
      rwa [show i + 1 + k = i + (k + 1) by omega]

theorem Tm.In.kid {B : Nat} {w : World} {t : Tm} {h : Hd} (g : t.In B w h) (k : Nat) (hk : k < t.ts.length) : ∃ b off, h.to = some ⟨b, off, none⟩ ∧ TAt B w b (off + k * 5) t.ts[k] := by
  obtain ⟨b, off, hao, hat⟩ := (Tm.In_iff.1 g).2.2.2.place k hk
  exact ⟨b, off, hao, by simpa using hat⟩

theorem TCells.below {B : Nat} {w w1 : World} {b o : Nat} {t : Tm} {h : Hd} (c : TCells w b o t h) (g : Below B w w1) (hb : b < B) : TCells w1 b o t h :=
  ⟨(g.cell (p := ⟨b, _, none⟩) hb).trans c.c0, (g.cell (p := ⟨b, _, none⟩) hb).trans c.c1, (g.cell (p := ⟨b, _, none⟩) hb).trans c.c2, (g.cell (p := ⟨b, _, none⟩) hb).trans c.c3, (g.cell (p := ⟨b, _, none⟩) hb).trans c.c4⟩

theorem LRow.low {B : Nat} {w0 w1 : World} {ao : Option Addr} {ls : List Lv} (h : LRow w0 ao ls) (hl : Low B ao ls.length) (g : Below B w0 w1) : LRow w1 ao ls := by
  refine ⟨fun k hk => ?_⟩
  obtain ⟨b, off, hao, ha⟩ := h.place k hk
  exact ⟨b, off, hao, ha.below g (hl (by omega) _ hao)⟩

theorem Tm.In.below {B : Nat} {w w1 : World} (g : Below B w w1) (t : Tm) : ∀ h, t.In B w h → t.In B w1 h := by
  induction t using Tm.ind with
  | h t ih =>
    intro h hi
    obtain ⟨h1, h2, h3, h4⟩ := Tm.In_iff.1 hi
    refine Tm.In_iff.2 ⟨h1, LRow.low h2 h3 g, h3, RowIn.mk fun k hk => ?_⟩
    obtain ⟨b, off, hao, hb, h', hc, hin⟩ := h4.place k hk
    exact ⟨b, off, hao, hb, h', hc.below g hb, ih _ (List.getElem_mem hk) h' hin⟩

theorem Low.mono {B B' : Nat} {ao : Option Addr} {n : Nat} (h : Low B ao n) (hB : B ≤ B') : Low B' ao n := fun hn a ha => Nat.lt_of_lt_of_le (h hn a ha) hB

theorem Tm.In.mono {B B' : Nat} {w : World} (hB : B ≤ B') (t : Tm) : ∀ h, t.In B w h → t.In B' w h := by
  induction t using Tm.ind with
  | h t ih =>
    intro h hi
    obtain ⟨h1, h2, h3, h4⟩ := Tm.In_iff.1 hi
    refine Tm.In_iff.2 ⟨h1, h2, h3.mono hB, RowIn.mk fun k hk => ?_⟩
    obtain ⟨b, off, hao, hb, h', hc, hin⟩ := h4.place k hk
    exact ⟨b, off, hao, by omega, h', hc, ih _ (List.getElem_mem hk) h' hin⟩

theorem TAt.below {B : Nat} {w w1 : World} {b o : Nat} {t : Tm} (h : TAt B w b o t) (g : Below B w w1) : TAt B w1 b o t := by
  obtain ⟨hb, hd, hc, hi⟩ := h
  exact ⟨hb, hd, hc.below g hb, Tm.In.below g t hd hi⟩
theorem TAt.mono {B B' : Nat} {w : World} {b o : Nat} {t : Tm} (h : TAt B w b o t) (hB : B ≤ B') : TAt B' w b o t := by
  obtain ⟨hb, hd, hc, hi⟩ := h
  exact ⟨by omega, hd, hc, Tm.In.mono hB t hd hi⟩

theorem Tm.cells {t : Tm} {h : Hd} {b : Nat} {w : World} (g : w.heap[b]? = some (t.box h)) : TCells w b 0 t h := by
  refine ⟨?_, ?_, ?_, ?_, ?_⟩ <;> (simp [World.cell?, g, Tm.box, Tm.vals])
end Trm
end Go.Proofs.Ytijdlihodpodjaa

/-
  battenref03.deep, Deep, Size: functions that go down a term.
-/
namespace Go.Proofs.Ytijdlihodpodjaa
open Go.RowKit Go.Shelf Lvl Trm

theorem Trm.ret_int {a b : Int} (h : a = b) : Ending.returned (.int .i64 a) = .returned (.int .i64 b) := by rw [h]
theorem Trm.drop_get {α : Type} {l : List α} {k : Nat} (h : k < l.length) : l.drop k = l[k] :: l.drop (k + 1) := List.drop_eq_getElem_cons h

/-- What is carried through a loop over a term's terms. -/
structure Trm.Kept (w wr : World) (o : Obj) : Prop where
  bel : Below w.heap.size w wr
  box : wr.heap[w.heap.size]? = some o
theorem Trm.Kept.start (w : World) (o : Obj) : Kept w (w.alloc o) o := ⟨below_one _ _, World.alloc_heap_new w o⟩
theorem Trm.Kept.step {w wr w1 : World} {o : Obj} (h : Kept w wr o) (b : Below wr.heap.size wr w1) : Kept w w1 o := ⟨h.bel.trans (b.mono h.bel.size), keep b h.box⟩
theorem Trm.Kept.more {w wr : World} {o : Obj} (h : Kept w wr o) (x : Obj) : Kept w (wr.alloc x) o := h.step (below_one _ _)

def Trm.badDeep (x : Tm) : Bool := decide (20 < x.ls.length)
def Trm.LeftRel (bad : Tm → Bool) (w : World) (o : Obj) (ts : List Tm) (d G top : Int) (v i : Value) (wr : World) : Prop :=
  ∃ (k : Nat) (L : Int), v = .int .i64 L ∧ i = .int .i64 k ∧ k ≤ ts.length ∧ 0 ≤ L ∧ L ≤ top ∧ leftL bad (ts.drop k) L d = G ∧ Kept w wr o

set_option maxRecDepth 100000 in
set_option maxHeartbeats 1000000 in
theorem deep_any (t : Tm) : ∀ (h : Hd) (l d : Int) (w : World), 0 ≤ l → l ≤ 131072 → -1 ≤ d → d ≤ 8192 → t.In w.heap.size w h →
    Calls Try.prog 61 #[t.val h, .int .i64 l, .int .i64 d] w fun e w' => e = .returned (.int .i64 (t.left badDeep l d)) ∧ Below w.heap.size w w' := by
  induction t using Tm.ind with
  | h t ih =>
    intro h l d w hl0 hl1 hd0 hd1 hin
    have hfit := hin.fit
    have hls := hfit.ls
    have hts := hfit.ts
    clear hfit
    have HIN := Lib.hid hin
    have HIH := Lib.hid ih
    clear hin ih
    unfold Tm.val Tm.vals
    by_cases h1 : l - 1 < 0
    · have hG : t.left badDeep l d = -1 := by rw [Tm.left_eq, if_pos (Or.inl h1)]
      rw [hG]
      clear hG
      go_enter Try.func61, Try.ntmps61
      go_wp2_with fail
      go_ret
      exact ⟨rfl, below_one _ _⟩
    · by_cases h2 : d ≤ 0
      · have hG : t.left badDeep l d = -1 := by rw [Tm.left_eq, if_pos (Or.inr (Or.inl h2))]
        rw [hG]
        clear hG
        go_enter Try.func61, Try.ntmps61
        go_wp2_with fail
        go_ret
        exact ⟨rfl, below_one _ _⟩
      · by_cases h3 : 20 < t.ls.length
        · have hG : t.left badDeep l d = -1 := by rw [Tm.left_eq, if_pos (Or.inr (Or.inr (by simpa [badDeep] using h3)))]
          rw [hG]
          clear hG
          go_enter Try.func61, Try.ntmps61
          go_wp2_with fail
          go_ret
          exact ⟨rfl, below_one _ _⟩
        · obtain ⟨G, hG⟩ : ∃ G, G = t.left badDeep l d := ⟨_, rfl⟩
          rw [← hG]
          have hG' : leftL badDeep (t.ts.drop 0) (l - 1) (d - 1) = G := by
            rw [hG, Tm.left_eq, if_neg (by rintro (h | h | h) <;> first | omega | (simp [badDeep] at h; omega))]; rfl
          have HG := Lib.hid hG'
          clear hG hG'
          go_enter Try.func61, Try.ntmps61
          go_wp2_with fail
          go_loopw [1, 7] (fun v i wr => LeftRel badDeep w (t.box h) t.ts (d - 1) G 131072 v i wr) (fun _ i _ => t.ts.length - (intOf i).toNat)
          case atStart => exact ⟨0, l - 1, by go_num, rfl, by omega, by omega, by omega, HG.out, Kept.start _ _⟩
          case round =>
            obtain ⟨k, L, rfl, rfl, hk, hL0, hL1, hGk, hkept⟩ := hrel
            have HK := Lib.hid hkept
            have HGk := Lib.hid hGk
            clear hkept hGk
            obtain ⟨c0, c1, c2, c3, c4⟩ := Tm.cells HK.out.box
            by_cases hlt : k < t.ts.length
            · obtain ⟨b, off, hao, hat⟩ := HIN.out.kid k hlt
              obtain ⟨hb, hd', ⟨k0, k1, k2, k3, k4⟩, hin'⟩ := hat.below HK.out.bel
              rw [hao] at c4
              have HX := Lib.hid (show ∀ W, t.ts[k].In W.heap.size W hd' → Calls Try.prog 61 #[t.ts[k].val hd', .int .i64 L, .int .i64 (d - 1)] W fun e w' => e = .returned (.int .i64 (t.ts[k].left badDeep L (d - 1))) ∧ Below W.heap.size W w' from fun W hW => HIH.out _ (List.getElem_mem hlt) hd' L (d - 1) W hL0 hL1 (by omega) (by omega) hW)
              have HI := Lib.hid (Tm.In.mono HK.out.bel.size _ _ hin')
              have HGG : Hid ((if t.ts[k].left badDeep L (d - 1) < 0 then -1 else leftL badDeep (t.ts.drop (k + 1)) (t.ts[k].left badDeep L (d - 1)) (d - 1)) = G) := by
                have := HGk.out
                rw [drop_get hlt, leftL] at this
                exact this
              have HLE := Lib.hid (t.ts[k].left_ge badDeep L (d - 1))
              clear hat hin' hao HGk
              generalize t.ts[k] = x at k0 k1 k2 k3 k4 HX HI HGG HLE
              unfold Tm.val Tm.vals at HX
              obtain ⟨X, hX⟩ : ∃ X, X = x.left badDeep L (d - 1) := ⟨_, rfl⟩
              rw [← hX] at HX HGG HLE
              clear hX
              go_wp2_with fail
              refine (HX.out _ HI.out).mono ?_
              rintro e w1 ⟨rfl, b1⟩
              have HK1 := Lib.hid (HK.out.step b1)
              have hX2 := HLE.out
              clear b1 HLE k0 k1 k2 k3 k4
              by_cases hneg : X < 0
              · have HE : Hid (-1 = G) := by have := HGG.out; rwa [if_pos hneg] at this
                go_wp2_with fail
                go_ret
                exact ⟨ret_int HE.out, HK1.out.bel⟩
              · have HE : Hid (leftL badDeep (t.ts.drop (k + 1)) X (d - 1) = G) := by have := HGG.out; rwa [if_neg hneg] at this
                go_wp2_with fail
                go_roundw
                case rel => exact ⟨k + 1, X, rfl, by go_num, by omega, by omega, by omega, HE.out, HK1.out⟩
                case measure => simp [intOf]; omega
            · have HE : Hid (L = G) := by
                have := HGk.out
                rw [List.drop_eq_nil_of_le (by omega), leftL] at this
                exact this
              go_wp2_with fail
              go_ret
              exact ⟨ret_int HE.out, HK.out.bel⟩
end Go.Proofs.Ytijdlihodpodjaa

/-
  term.Name, battenref03.Name.
-/
namespace Go.Proofs.Ytijdlihodpodjaa
open Go.RowKit Go.Shelf Lvl Trm

set_option maxRecDepth 100000 in
set_option maxHeartbeats 1000000 in
theorem inName_any (x : Int) (w : World) :
    Calls Try.prog 67 #[.int .u8 x] w fun e w' => e = .returned (.bool (inNameI x)) ∧ w = w' := by
  go_enter Try.func67, Try.ntmps67
  go_wp2_with fail
  all_goals
    go_ret
    refine ⟨ret_bool ?_, rfl⟩
    unfold inNameI
    rw [Bool.eq_iff_iff]
    simp
    try omega

theorem Trm.nameOk_no {s : ByteArray} (h : s.size = 0 ∨ 32 < s.size) : nameOk s = false := by
  unfold nameOk
  rcases h with h | h <;> simp [h]
  omega
theorem Trm.all_take_no {l : List UInt8} {k : Nat} (hk : k < l.length) (h : inName l[k] = false) : l.all inName = false := by
  rw [List.all_eq_false]
  exact ⟨l[k], List.getElem_mem hk, by simp [h]⟩
theorem Trm.all_take_yes {l : List UInt8} {k : Nat} (hk : k < l.length) (ht : (l.take k).all inName = true) (h : inName l[k] = true) : (l.take (k + 1)).all inName = true := by
  rw [List.take_succ_eq_append_getElem hk, List.all_append, ht]
  simp [h]
def Trm.NameRel (s : ByteArray) (i : Value) : Prop := ∃ k : Nat, i = .int .i64 k ∧ k ≤ s.size ∧ (s.data.toList.take k).all inName = true

set_option maxRecDepth 100000 in
set_option maxHeartbeats 1000000 in
theorem Name_any (s : ByteArray) (w : World) (hs : s.size ≤ 9223372036854775807) :
    Calls Try.prog 15 #[.string s] w fun e w' => e = .returned (.bool (nameOk s)) ∧ w = w' := by
  by_cases h0 : s.size = 0
  · rw [nameOk_no (Or.inl h0)]
    go_enter Try.func15, Try.ntmps15
    go_wp2
    go_ret
    exact ⟨rfl, rfl⟩
  · by_cases h1 : 32 < s.size
    · rw [nameOk_no (Or.inr h1)]
      go_enter Try.func15, Try.ntmps15
      go_wp2
      go_ret
      exact ⟨rfl, rfl⟩
    · have hok : nameOk s = s.data.toList.all inName := by unfold nameOk; simp [show 1 ≤ s.size by omega, show s.size ≤ 32 by omega]
      rw [hok]
      obtain ⟨G, hG⟩ : ∃ G, G = s.data.toList.all inName := ⟨_, rfl⟩
      rw [← hG]
      have HG := Lib.hid hG
      clear hok hG
      have h0' : ((s.size : Int) == 0) = false := by simpa using h0
      have h1' : (s.size : Int) ≤ 32 := by omega
      go_enter Try.func15, Try.ntmps15
      go_wp2
      go_loop [14] (fun i => NameRel s i) (fun i => s.size - (intOf i).toNat)
      case atStart => exact ⟨0, rfl, by omega, by simp⟩
      case round =>
        obtain ⟨k, rfl, hk, hall⟩ := hrel
        have HA := Lib.hid hall
        clear hall
        by_cases hlt : k < s.size
        · have hl : k < s.data.toList.length := by simpa using hlt
          have hget : s.data.toList[k] = s[k] := rfl
          cases hin : inName s[k]
          · have HF : Hid (false = G) := by rw [HG.out, all_take_no hl (by rw [hget]; exact hin)]; rfl
            have hin' : inNameI (s[k].toNat : Int) = false := hin
            have HC : Hid (∀ w, Calls Try.prog 67 #[.int .u8 (s[k].toNat : Int)] w fun e w' => e = .returned (.bool false) ∧ w = w') := fun w => by rw [← hin']; exact inName_any _ w
            clear hin hin' hget
            go_wp2_with fail
            refine (HC.out _).mono ?_
            rintro e w1 ⟨rfl, rfl⟩
            go_wp2_with fail
            go_ret
            exact ⟨ret_bool HF.out, rfl⟩
          · have HF := Lib.hid (all_take_yes hl HA.out (by rw [hget]; exact hin))
            have hin' : inNameI (s[k].toNat : Int) = true := hin
            have HC : Hid (∀ w, Calls Try.prog 67 #[.int .u8 (s[k].toNat : Int)] w fun e w' => e = .returned (.bool true) ∧ w = w') := fun w => by rw [← hin']; exact inName_any _ w
            clear hin hin' hget
            go_wp2_with fail
            refine (HC.out _).mono ?_
            rintro e w1 ⟨rfl, rfl⟩
            go_wp2_with fail
            go_round
            case rel => exact ⟨k + 1, by go_num, by omega, HF.out⟩
            case measure => simp [intOf]; omega
        · have HE : Hid (true = G) := by
            have := HA.out
            rw [List.take_of_length_le (by simp; omega)] at this
            rw [HG.out, this]; rfl
          go_wp2_with fail
          go_ret
          exact ⟨ret_bool HE.out, rfl⟩

theorem Trm.inNameI_no {x : Int} (h : ¬ ((97 ≤ x ∧ x ≤ 122) ∨ (65 ≤ x ∧ x ≤ 90) ∨ (48 ≤ x ∧ x ≤ 57) ∨ x = 95 ∨ x = 46 ∨ x = 39)) : inNameI x = false := decide_eq_false h
theorem Trm.inNameI_yes {x : Int} (h : (97 ≤ x ∧ x ≤ 122) ∨ (65 ≤ x ∧ x ≤ 90) ∨ (48 ≤ x ∧ x ≤ 57) ∨ x = 95 ∨ x = 46 ∨ x = 39) : inNameI x = true := decide_eq_true h
def Trm.RefRel (s : ByteArray) (i : Value) : Prop := ∃ k : Nat, i = .int .i64 k ∧ k ≤ s.size ∧ (s.data.toList.take k).all inName = true

set_option maxRecDepth 100000 in
set_option maxHeartbeats 2000000 in
theorem RefName_any (s : ByteArray) (w : World) (hs : s.size ≤ 9223372036854775807) :
    Calls Try.prog 16 #[.string s] w fun e w' => e = .returned (.bool (nameOk s)) ∧ w = w' := by
  obtain ⟨G, hG⟩ : ∃ G, G = nameOk s := ⟨_, rfl⟩
  rw [← hG]
  have HG := Lib.hid hG
  clear hG
  go_enter Try.func16, Try.ntmps16
  go_wp2
  go_loop [3] (fun i => RefRel s i) (fun i => s.size - (intOf i).toNat)
  case atStart => exact ⟨0, rfl, by omega, by simp⟩
  case round =>
    obtain ⟨k, rfl, hk, hall⟩ := hrel
    have HA := Lib.hid hall
    clear hall
    by_cases hlt : k < s.size
    · have hl : k < s.data.toList.length := by simpa using hlt
      have hget : s.data.toList[k] = s[k] := rfl
      have HY : Hid (inNameI (s[k].toNat : Int) = true → (s.data.toList.take (k + 1)).all inName = true) := Lib.hid (fun hin => all_take_yes hl HA.out (by rw [hget]; exact hin))
      have HN : Hid (inNameI (s[k].toNat : Int) = false → false = G) := Lib.hid (fun hin => by rw [HG.out, nameOk, all_take_no hl (by rw [hget]; exact hin)]; simp)
      clear hget
      go_wp2_with fail
      all_goals (try simp only [Bool.not_eq_true', Bool.not_eq_false', decide_eq_true_eq, decide_eq_false_iff_not, beq_iff_eq, beq_eq_false_iff_ne, ne_eq] at *)
      all_goals first
        | (have hno : ¬ ((97 ≤ (s[k].toNat : Int) ∧ (s[k].toNat : Int) ≤ 122) ∨ (65 ≤ (s[k].toNat : Int) ∧ (s[k].toNat : Int) ≤ 90) ∨ (48 ≤ (s[k].toNat : Int) ∧ (s[k].toNat : Int) ≤ 57) ∨ (s[k].toNat : Int) = 95 ∨ (s[k].toNat : Int) = 46 ∨ (s[k].toNat : Int) = 39) := by omega
           go_ret
           exact ⟨ret_bool (HN.out (inNameI_no hno)), rfl⟩)
        | (have hyes : ((97 ≤ (s[k].toNat : Int) ∧ (s[k].toNat : Int) ≤ 122) ∨ (65 ≤ (s[k].toNat : Int) ∧ (s[k].toNat : Int) ≤ 90) ∨ (48 ≤ (s[k].toNat : Int) ∧ (s[k].toNat : Int) ≤ 57) ∨ (s[k].toNat : Int) = 95 ∨ (s[k].toNat : Int) = 46 ∨ (s[k].toNat : Int) = 39) := by omega
           go_round
           case rel => exact ⟨k + 1, by go_num, by omega, HY.out (inNameI_yes hyes)⟩
           case measure => simp [intOf]; omega)
    · have HE : Hid (G = (decide (1 ≤ s.size) && decide (s.size ≤ 32))) := by
        have := HA.out
        rw [List.take_of_length_le (by simp; omega)] at this
        show _ = _
        rw [HG.out, nameOk, this, Bool.and_true]
      go_wp2_with fail
      all_goals
        go_ret
        refine ⟨ret_bool ?_, rfl⟩
        rw [HE.out, Bool.eq_iff_iff]
        simp
        try omega
end Go.Proofs.Ytijdlihodpodjaa

/-
  term.kindOf.
-/
namespace Go.Proofs.Ytijdlihodpodjaa
open Go.RowKit Go.Shelf Lvl Trm

/-- What is asked of the fields of a node. -/
structure Trm.Kd where
  least : Int
  most : Int
  named : Bool
  top : Int
  terms : Int
  binds : Bool
def Trm.Kd.vals (a : Kd) : Array Value := #[.int .i64 a.least, .int .i64 a.most, .bool a.named, .int .i64 a.top, .int .i64 a.terms, .bool a.binds]
def Trm.Kd.val (a : Kd) : Value := .agg a.vals
def Trm.Kd.box (a : Kd) : Obj := .cells a.vals 130
def Trm.kd (k : Int) : Kd :=
  if k = 1 then ⟨1, 1, false, 0, 0, false⟩ else if k = 2 then ⟨0, 0, false, 1048576, 0, false⟩ else if k = 3 then ⟨0, 4, true, 0, 0, false⟩
  else if k = 4 then ⟨0, 0, false, 0, 2, false⟩ else if k = 5 ∨ k = 6 then ⟨0, 0, false, 0, 2, true⟩ else if k = 7 then ⟨0, 0, false, 0, 3, true⟩
  else if k = 8 then ⟨0, 0, true, 11, 1, false⟩ else ⟨0, 0, false, 0, 0, false⟩
def Trm.isKind (k : Int) : Bool := decide (1 ≤ k ∧ k ≤ 8)

theorem Trm.Kd.cells {a : Kd} {b : Nat} {w : World} (h : w.heap[b]? = some a.box) :
    w.cell? ⟨b, 0, none⟩ = some (.int .i64 a.least) ∧ w.cell? ⟨b, 1, none⟩ = some (.int .i64 a.most) ∧ w.cell? ⟨b, 2, none⟩ = some (.bool a.named) ∧ w.cell? ⟨b, 3, none⟩ = some (.int .i64 a.top) ∧ w.cell? ⟨b, 4, none⟩ = some (.int .i64 a.terms) ∧ w.cell? ⟨b, 5, none⟩ = some (.bool a.binds) := by
  refine ⟨?_, ?_, ?_, ?_, ?_, ?_⟩ <;> (simp [World.cell?, h, Kd.box, Kd.vals])

set_option maxRecDepth 100000 in
set_option maxHeartbeats 2000000 in
theorem kindOf_any (k : Int) (w : World) :
    Calls Try.prog 112 #[.int .u8 k] w fun e w' => e = .returned (.tuple #[(kd k).val, .bool (isKind k)]) ∧ Below w.heap.size w w' := by
  by_cases h : k = 1 ∨ k = 2 ∨ k = 3 ∨ k = 4 ∨ k = 5 ∨ k = 6 ∨ k = 7 ∨ k = 8
  · rcases h with rfl | rfl | rfl | rfl | rfl | rfl | rfl | rfl
    all_goals
      go_enter Try.func112, Try.ntmps112
      go_wp2_with fail
      exact bodyPost_ret (v := .tuple #[(kd _).val, .bool (isKind _)]) (by simp [results, Try.results112, go_sem, kd, Kd.val, Kd.vals, isKind]; try rfl) rfl ⟨rfl, below_one _ _⟩
  · have h1 : k ≠ 1 := fun e => h (by omega)
    have h2 : k ≠ 2 := fun e => h (by omega)
    have h3 : k ≠ 3 := fun e => h (by omega)
    have h4 : k ≠ 4 := fun e => h (by omega)
    have h5 : k ≠ 5 := fun e => h (by omega)
    have h6 : k ≠ 6 := fun e => h (by omega)
    have h7 : k ≠ 7 := fun e => h (by omega)
    have h8 : k ≠ 8 := fun e => h (by omega)
    have hk : kd k = ⟨0, 0, false, 0, 0, false⟩ := by unfold kd; simp [h1, h2, h3, h4, h5, h6, h7, h8]
    have hi : isKind k = false := by unfold isKind; simp; omega
    rw [hk, hi]
    clear hk hi h
    go_enter Try.func112, Try.ntmps112
    go_wp2_with fail
    exact bodyPost_ret (v := .tuple #[(⟨0, 0, false, 0, 0, false⟩ : Kd).val, .bool false]) (by simp [results, Try.results112, go_sem, Kd.val, Kd.vals]; try rfl) rfl ⟨rfl, below_one _ _⟩
end Go.Proofs.Ytijdlihodpodjaa

/-
  battenref03.Deep, Size, kids, Binds.
-/
namespace Go.Proofs.Ytijdlihodpodjaa
open Go.RowKit Go.Shelf Lvl Trm

set_option maxRecDepth 100000 in
theorem Deep_any (t : Tm) (h : Hd) (w : World) (hin : t.In w.heap.size w h) :
    Calls Try.prog 11 #[t.val h] w fun e w' => e = .returned (.bool t.deep) ∧ Below w.heap.size w w' := by
  have HX := Lib.hid (deep_any t h 131072 8192)
  have HI := Lib.hid (Tm.In.mono (B' := (w.alloc (t.box h)).heap.size) (by simp) _ _ (Tm.In.below (below_one w (t.box h)) _ _ hin))
  have HL := Lib.hid (t.left_ge badDeep 131072 8192)
  obtain ⟨X, hX⟩ : ∃ X, X = t.left badDeep 131072 8192 := ⟨_, rfl⟩
  have hd : t.deep = decide (X < 0) := by rw [hX]; rfl
  rw [← hX] at HX HL
  rw [hd]
  clear hX hd hin
  unfold Tm.val Tm.vals at HX ⊢
  go_enter Try.func11, Try.ntmps11
  go_wp2_with fail
  refine (HX.out _ (by decide) (by decide) (by decide) (by decide) HI.out).mono ?_
  rintro e w1 ⟨rfl, b1⟩
  have HB := Lib.hid ((below_one w (t.box h)).trans (b1.mono (by simp)))
  have hX := HL.out
  clear b1 HL HX HI
  go_wp2_with fail
  go_ret
  exact ⟨rfl, HB.out⟩

set_option maxRecDepth 100000 in
theorem kids_any (k : Int) (w : World) :
    Calls Try.prog 136 #[.int .u8 k] w fun e w' => e = .returned (.int .i64 (kids k)) ∧ w = w' := by
  by_cases h : k = 1 ∨ k = 2 ∨ k = 3 ∨ k = 4 ∨ k = 5 ∨ k = 6 ∨ k = 7 ∨ k = 8
  · rcases h with rfl | rfl | rfl | rfl | rfl | rfl | rfl | rfl
    all_goals
      go_enter Try.func136, Try.ntmps136
      go_wp2
      go_ret
      exact ⟨rfl, rfl⟩
  · have h1 : k ≠ 1 := fun e => h (by omega)
    have h2 : k ≠ 2 := fun e => h (by omega)
    have h3 : k ≠ 3 := fun e => h (by omega)
    have h4 : k ≠ 4 := fun e => h (by omega)
    have h5 : k ≠ 5 := fun e => h (by omega)
    have h6 : k ≠ 6 := fun e => h (by omega)
    have h7 : k ≠ 7 := fun e => h (by omega)
    have h8 : k ≠ 8 := fun e => h (by omega)
    have hk : kids k = -1 := by unfold kids; simp [h1, h2, h3, h4, h5, h6, h7, h8]
    rw [hk]
    clear hk h
    go_enter Try.func136, Try.ntmps136
    go_wp2
    go_ret
    exact ⟨rfl, rfl⟩

theorem Trm.Tm.size_eq (t : Tm) : t.size = 1 + sizeL t.ts := by cases t; rw [Tm.size]; rfl
theorem Trm.sizeL_pos : ∀ ts : List Tm, (∀ x ∈ ts, 1 ≤ x.size) → (ts.length : Int) ≤ sizeL ts
  | [], _ => by rw [sizeL]; simp
  | t :: r, h => by
    have h1 := h t (by simp)
    have h2 := sizeL_pos r (fun x hx => h x (by simp [hx]))
    rw [sizeL]
    simp
    omega
theorem Trm.Tm.size_pos (t : Tm) : 1 ≤ t.size := by
  induction t using Tm.ind with
  | h t ih => have := sizeL_pos t.ts ih; rw [Tm.size_eq]; omega
theorem Trm.sizeL_ge (ts : List Tm) : 0 ≤ sizeL ts := by have := sizeL_pos ts (fun x _ => x.size_pos); omega
theorem Trm.sizeL_drop {ts : List Tm} {k : Nat} (h : k < ts.length) : sizeL (ts.drop k) = ts[k].size + sizeL (ts.drop (k + 1)) := by
  rw [drop_get h, sizeL]

def Trm.SizeRel (w : World) (o : Obj) (ts : List Tm) (G : Int) (v i : Value) (wr : World) : Prop :=
  ∃ (k : Nat) (L : Int), v = .int .i64 L ∧ i = .int .i64 k ∧ k ≤ ts.length ∧ 1 ≤ L ∧ L + sizeL (ts.drop k) = G ∧ Kept w wr o

set_option maxRecDepth 100000 in
set_option maxHeartbeats 1000000 in
theorem Size_any (t : Tm) : ∀ (h : Hd) (w : World), t.size ≤ 1000000000000 → t.In w.heap.size w h →
    Calls Try.prog 24 #[t.val h] w fun e w' => e = .returned (.int .i64 t.size) ∧ Below w.heap.size w w' := by
  induction t using Tm.ind with
  | h t ih =>
    intro h w hsz hin
    have hfit := hin.fit
    have hts := hfit.ts
    clear hfit
    have HIN := Lib.hid hin
    have HIH := Lib.hid ih
    clear hin ih
    obtain ⟨G, hG⟩ : ∃ G, G = t.size := ⟨_, rfl⟩
    rw [← hG] at hsz ⊢
    have HG : Hid (1 + sizeL (t.ts.drop 0) = G) := by rw [hG, Tm.size_eq]; rfl
    clear hG
    unfold Tm.val Tm.vals
    go_enter Try.func24, Try.ntmps24
    go_wp2_with fail
    go_loopw [3, 4] (fun v i wr => SizeRel w (t.box h) t.ts G v i wr) (fun _ i _ => t.ts.length - (intOf i).toNat)
    case atStart => exact ⟨0, 1, rfl, rfl, by omega, by omega, HG.out, Kept.start _ _⟩
    case round =>
      obtain ⟨k, L, rfl, rfl, hk, hL0, hGk, hkept⟩ := hrel
      have HK := Lib.hid hkept
      have HGk := Lib.hid hGk
      clear hkept hGk
      obtain ⟨c0, c1, c2, c3, c4⟩ := Tm.cells HK.out.box
      by_cases hlt : k < t.ts.length
      · obtain ⟨b, off, hao, hat⟩ := HIN.out.kid k hlt
        obtain ⟨hb, hd', ⟨k0, k1, k2, k3, k4⟩, hin'⟩ := hat.below HK.out.bel
        rw [hao] at c4
        have hd := sizeL_drop hlt
        have hr := sizeL_ge (t.ts.drop (k + 1))
        have hp := t.ts[k].size_pos
        have hGk' := HGk.out
        have HX := Lib.hid (HIH.out _ (List.getElem_mem hlt) hd')
        have HI := Lib.hid (Tm.In.mono HK.out.bel.size _ _ hin')
        have HGG : Hid (L + t.ts[k].size + sizeL (t.ts.drop (k + 1)) = G) := by show _ = _; omega
        have hX1 : t.ts[k].size ≤ 1000000000000 := by omega
        have hLX : L + t.ts[k].size ≤ 1000000000000 := by omega
        clear hat hin' hao HGk hGk' hd hr
        generalize t.ts[k] = x at k0 k1 k2 k3 k4 HX HI HGG hX1 hLX hp
        unfold Tm.val Tm.vals at HX
        obtain ⟨X, hX⟩ : ∃ X, X = x.size := ⟨_, rfl⟩
        rw [← hX] at HX HGG hX1 hLX hp
        clear hX
        go_wp2_with fail
        refine (HX.out _ hX1 HI.out).mono ?_
        rintro e w1 ⟨rfl, b1⟩
        have HK1 := Lib.hid (HK.out.step b1)
        clear b1 k0 k1 k2 k3 k4
        go_wp2_with fail
        go_roundw
        case rel => exact ⟨k + 1, L + X, rfl, by go_num, by omega, by omega, HGG.out, HK1.out⟩
        case measure => simp [intOf]; omega
      · have HE : Hid (L = G) := by
          have := HGk.out
          rw [List.drop_eq_nil_of_le (by omega), sizeL] at this
          show _ = _
          omega
        go_wp2_with fail
        go_ret
        exact ⟨ret_int HE.out, HK.out.bel⟩
end Go.Proofs.Ytijdlihodpodjaa

/-
  What a parameter of layer 3's laws is: a term.
-/
namespace Go.Proofs.Ytijdlihodpodjaa
open Go.RowKit Go.Shelf Lvl Trm

section
variable {H : Type} {enc : TypeId × Value → H} {w : World} {base : Nat} {sp : Nat → Bool} {hd : Bool}

set_option maxRecDepth 100000 in
/-- Cells that read as a level. -/
theorem Trm.open_level {fuel : Nat} {cs : List Value} {x : DataW H × List MemPlace} (h : DataW.trod enc Try.prog w base sp hd fuel 83 cs = some x) :
    ∃ l : Lv, cs = [.int .i64 l.c, .int .i64 l.p0, .int .i64 l.p1, .int .i64 l.p2, .int .i64 l.p3] := by
  have hC : Try.prog.cellsOf 83 = 5 := by kernel_rfl
  have hI : Try.prog.cellsOf 3 = 1 := by kernel_rfl
  have hA : Try.prog.cellsOf 81 = 4 := by kernel_rfl
  obtain ⟨xs, n, _, _, hl, hxs, hf⟩ := DataW.trod_struct Try.underlying83 h
  rw [hC] at hl
  match cs, hl with
  | [v0, v1, v2, v3, v4], _ =>
    have g0 : DataW.trod enc Try.prog w base sp hd n 3 (([v0, v1, v2, v3, v4].drop 0).take (Try.prog.cellsOf 3)) = xs[0]? := hf 0 _ rfl
    have g1 : DataW.trod enc Try.prog w base sp hd n 81 (([v0, v1, v2, v3, v4].drop 1).take (Try.prog.cellsOf 81)) = xs[1]? := hf 1 _ rfl
    rw [hI] at g0
    rw [hA] at g1
    rw [List.getElem?_eq_getElem (by rw [hxs]; decide)] at g0 g1
    obtain ⟨z, hz, _, _⟩ := DataW.trod_int Try.underlying3 g0
    obtain ⟨ys, m, _, _, _, hys, ha⟩ := DataW.trod_array Try.underlying81 g1
    have a0 := ha 0 (by omega)
    have a1 := ha 1 (by omega)
    have a2 := ha 2 (by omega)
    have a3 := ha 3 (by omega)
    rw [hI] at a0 a1 a2 a3
    rw [List.getElem?_eq_getElem (by omega)] at a0 a1 a2 a3
    obtain ⟨z0, h0, _, _⟩ := DataW.trod_int Try.underlying3 a0
    obtain ⟨z1, h1, _, _⟩ := DataW.trod_int Try.underlying3 a1
    obtain ⟨z2, h2, _, _⟩ := DataW.trod_int Try.underlying3 a2
    obtain ⟨z3, h3, _, _⟩ := DataW.trod_int Try.underlying3 a3
    simp at hz h0 h1 h2 h3
    subst hz h0 h1 h2 h3
    exact ⟨⟨z, z0, z1, z2, z3⟩, rfl⟩

theorem Trm.add_none (b o i : Nat) : (⟨b, o, none⟩ : Addr).add i = ⟨b, o + i, none⟩ := by
  unfold Addr.add
  split
  · rename_i h; rw [h]; rfl
  · rfl
theorem Trm.add_zero (a : Addr) : a.add 0 = a := by simp [Addr.add]

set_option maxRecDepth 100000 in
/-- A slice that reads as levels. -/
theorem Trm.open_levels {fuel : Nat} {cs : List Value} {x : DataW H × List MemPlace} (h : DataW.trod enc Try.prog w base sp hd fuel 22 cs = some x) :
    ∃ (lo : Option Addr) (lc : Nat) (ls : List Lv), cs = [.slice lo ls.length lc] ∧ LRow w lo ls ∧ Low w.heap.size lo ls.length ∧ ls.length ≤ 9223372036854775807 := by
  have hC : Try.prog.cellsOf 83 = 5 := by kernel_rfl
  rcases DataW.trod_slice Try.underlying22 h with ⟨rfl, _⟩ | ⟨a, len, cap, elems, rest, n, _, rfl, _, _, hlc, hcm, hel, hall, _⟩
  · exact ⟨none, 0, [], rfl, ⟨fun k hk => by simp at hk⟩, fun hn => by simp at hn, by simp⟩
  · rw [hC] at hall
    have hnone : 0 < len → a.spot = none := fun h0 => by
      have hi' := hall 0 h0
      rw [List.getElem?_eq_getElem (by omega)] at hi'
      obtain ⟨cs, hcs, ht⟩ := Option.bind_eq_some_iff.1 hi'
      obtain ⟨_, _, hcell⟩ := World.cells?_some hcs
      obtain ⟨l, rfl⟩ := open_level ht
      have h0 := hcell 0 (by omega)
      rw [Nat.zero_mul, add_zero, add_zero] at h0
      exact World.cell?_spot (show w.cell? a = some (.int .i64 l.c) from h0)
    have key : ∀ i, i < len → ∃ l : Lv, ∃ b off, a = ⟨b, off, none⟩ ∧ LAt w b (off + i * 5) l := fun i hi => by
      have hi' := hall i hi
      rw [List.getElem?_eq_getElem (by omega)] at hi'
      obtain ⟨cs, hcs, ht⟩ := Option.bind_eq_some_iff.1 hi'
      obtain ⟨_, _, hcell⟩ := World.cells?_some hcs
      obtain ⟨l, rfl⟩ := open_level ht
      have hs := hnone (by omega)
      obtain ⟨b, off, spot⟩ := a
      dsimp only at hs
      subst hs
      simp only [add_none] at hcell
      exact ⟨l, b, off, rfl, hcell 0 (by omega), hcell 1 (by omega), hcell 2 (by omega), hcell 3 (by omega), hcell 4 (by omega)⟩
    have key2 : ∃ ls : List Lv, ls.length = len ∧ ∀ k (hk : k < ls.length), ∃ b off, a = ⟨b, off, none⟩ ∧ LAt w b (off + k * 5) ls[k] := by
      refine ⟨(List.range len).pmap (fun i hi => Classical.choose (key i hi)) (fun i hi => by simpa using hi), by simp, fun k hk => ?_⟩
      have hk' : k < len := by simpa using hk
      obtain ⟨b, off, ha, hl⟩ := Classical.choose_spec (key k hk')
      exact ⟨b, off, ha, by simpa using hl⟩
    obtain ⟨ls, rfl, hls⟩ := key2
    refine ⟨some a, cap, ls, rfl, ⟨fun k hk => ?_⟩, fun hn a' ha' => ?_, ?_⟩
    · obtain ⟨b, off, rfl, hl⟩ := hls k hk
      exact ⟨b, off, rfl, hl⟩
    · obtain ⟨b, off, rfl, hl⟩ := hls 0 hn
      cases ha'
      exact World.block_lt_of_cell? w _ hl.1
    · have : maxLen = 9223372036854775807 := rfl
      omega

set_option maxRecDepth 100000 in
/-- Cells that read as a term. -/
theorem Trm.open_term : ∀ (fuel : Nat) (cs : List Value) (x : DataW H × List MemPlace), DataW.trod enc Try.prog w base sp hd fuel 25 cs = some x →
    ∃ (t : Tm) (h : Hd), cs = (t.vals h).toList ∧ t.In w.heap.size w h := by
  have hC : Try.prog.cellsOf 25 = 5 := by kernel_rfl
  have hI : Try.prog.cellsOf 3 = 1 := by kernel_rfl
  have hU : Try.prog.cellsOf 5 = 1 := by kernel_rfl
  have hS : Try.prog.cellsOf 9 = 1 := by kernel_rfl
  have hL : Try.prog.cellsOf 22 = 1 := by kernel_rfl
  have hT : Try.prog.cellsOf 23 = 1 := by kernel_rfl
  intro fuel
  induction fuel using Nat.strongRecOn with
  | _ fuel ih =>
    intro cs x h
    obtain ⟨xs, n, hfu, _, hl, hxs, hf⟩ := DataW.trod_struct Try.underlying25 h
    rw [hC] at hl
    match cs, hl with
    | [v0, v1, v2, v3, v4], _ =>
      have g0 : DataW.trod enc Try.prog w base sp hd n 5 (([v0, v1, v2, v3, v4].drop 0).take (Try.prog.cellsOf 5)) = xs[0]? := hf 0 _ rfl
      rw [hU] at g0
      have g1 : DataW.trod enc Try.prog w base sp hd n 3 (([v0, v1, v2, v3, v4].drop 1).take (Try.prog.cellsOf 3)) = xs[1]? := hf 1 _ rfl
      rw [hI] at g1
      have g2 : DataW.trod enc Try.prog w base sp hd n 9 (([v0, v1, v2, v3, v4].drop 2).take (Try.prog.cellsOf 9)) = xs[2]? := hf 2 _ rfl
      rw [hS] at g2
      have g3 : DataW.trod enc Try.prog w base sp hd n 22 (([v0, v1, v2, v3, v4].drop 3).take (Try.prog.cellsOf 22)) = xs[3]? := hf 3 _ rfl
      rw [hL] at g3
      have g4 : DataW.trod enc Try.prog w base sp hd n 23 (([v0, v1, v2, v3, v4].drop 4).take (Try.prog.cellsOf 23)) = xs[4]? := hf 4 _ rfl
      rw [hT] at g4
      have hx5 : xs.length = 5 := hxs
      rw [List.getElem?_eq_getElem (by omega)] at g0 g1 g2 g3 g4
      obtain ⟨k, hk, _, wk⟩ := DataW.trod_int Try.underlying5 g0
      obtain ⟨m, hm, _, wm⟩ := DataW.trod_int Try.underlying3 g1
      obtain ⟨s, hs, _, hss⟩ := DataW.trod_string Try.underlying9 g2
      obtain ⟨lo, lc, ls, hls, hrow, hlow, hlen⟩ := open_levels g3
      have hts : ∃ (to : Option Addr) (tc : Nat) (ts : List Tm), [v4] = [.slice to ts.length tc] ∧ RowIn w.heap.size w to 0 ts ∧ ts.length ≤ 9223372036854775807 := by
        rcases DataW.trod_slice Try.underlying23 g4 with ⟨he, _⟩ | ⟨a, len, cap, elems, rest, n', hn', he, _, _, hlc, hcm, hel, hall, _⟩
        · exact ⟨none, 0, [], he, by rw [RowIn]; trivial, by simp⟩
        · rw [hC] at hall
          have hnone : 0 < len → a.spot = none := fun h0 => by
            have hi' := hall 0 h0
            rw [List.getElem?_eq_getElem (by omega)] at hi'
            obtain ⟨cs, hcs, ht⟩ := Option.bind_eq_some_iff.1 hi'
            obtain ⟨_, _, hcell⟩ := World.cells?_some hcs
            obtain ⟨t, h', rfl, hin⟩ := ih n' (by omega) cs _ ht
            have h0 := hcell 0 (by omega)
            rw [Nat.zero_mul, add_zero, add_zero] at h0
            exact World.cell?_spot (show w.cell? a = some (.int .u8 t.k) from h0)
          have key : ∀ i, i < len → ∃ t : Tm, ∃ b off, a = ⟨b, off, none⟩ ∧ TAt w.heap.size w b (off + i * 5) t := fun i hi => by
            have hi' := hall i hi
            rw [List.getElem?_eq_getElem (by omega)] at hi'
            obtain ⟨cs, hcs, ht⟩ := Option.bind_eq_some_iff.1 hi'
            obtain ⟨_, _, hcell⟩ := World.cells?_some hcs
            obtain ⟨t, h', rfl, hin⟩ := ih n' (by omega) cs _ ht
            have hs := hnone (by omega)
            obtain ⟨b, off, spot⟩ := a
            dsimp only at hs
            subst hs
            simp only [add_none] at hcell
            have h0 : w.cell? ⟨b, off + i * 5, none⟩ = some (.int .u8 t.k) := hcell 0 (by omega)
            exact ⟨t, b, off, rfl, World.block_lt_of_cell? w _ h0, h', ⟨h0, hcell 1 (by omega), hcell 2 (by omega), hcell 3 (by omega), hcell 4 (by omega)⟩, hin⟩
          have key2 : ∃ ts : List Tm, ts.length = len ∧ ∀ k (hk : k < ts.length), ∃ b off, a = ⟨b, off, none⟩ ∧ TAt w.heap.size w b (off + k * 5) ts[k] := by
            refine ⟨(List.range len).pmap (fun i hi => Classical.choose (key i hi)) (fun i hi => by simpa using hi), by simp, fun k hk => ?_⟩
            have hk' : k < len := by simpa using hk
            obtain ⟨b, off, ha, hl⟩ := Classical.choose_spec (key k hk')
            exact ⟨b, off, ha, by simpa using hl⟩
          obtain ⟨ts, rfl, hts⟩ := key2
          refine ⟨some a, cap, ts, he, RowIn.mk fun k hk => ?_, ?_⟩
          · obtain ⟨b, off, rfl, hl⟩ := hts k hk
            exact ⟨b, off, rfl, by simpa using hl⟩
          · have : maxLen = 9223372036854775807 := rfl
            omega
      obtain ⟨to, tc, ts, ht4, hrin, htl⟩ := hts
      simp at hk hm hs hls ht4
      subst hk hm hs hls ht4
      refine ⟨.mk k m s ls ts, ⟨lo, lc, to, tc⟩, rfl, Tm.In_iff.2 ⟨⟨?_, ?_, ?_, ?_, ?_, hlen, htl⟩, hrow, hlow, hrin⟩⟩
      · simp [Lit.wf, IntKind.min, IntKind.max, IntKind.signed, IntKind.bits] at wk; exact wk.1
      · simp [Lit.wf, IntKind.min, IntKind.max, IntKind.signed, IntKind.bits] at wk; exact wk.2
      · simp [Lit.wf, IntKind.min, IntKind.max, IntKind.signed, IntKind.bits] at wm; exact wm.1
      · simp [Lit.wf, IntKind.min, IntKind.max, IntKind.signed, IntKind.bits] at wm; exact wm.2
      · exact hss
end

/-- A slice that reads as terms. -/
theorem Trm.open_terms {H : Type} {enc : TypeId × Value → H} {w : World} {base : Nat} {sp : Nat → Bool} {hd : Bool} {a : Option Addr} {len cap : Nat} {d : DataW H} {p : List MemPlace} (h : DataW.Trod enc Try.prog w base sp hd 23 (.slice a len cap) d p) :
    ∃ ts : List Tm, len = ts.length ∧ RowIn w.heap.size w a 0 ts := by
  have hC : Try.prog.cellsOf 25 = 5 := by kernel_rfl
  obtain ⟨fuel, hf⟩ := h
  rcases DataW.trod_slice Try.underlying23 hf with ⟨he, _⟩ | ⟨a', len', cap', elems, rest, n', hn', he, _, _, hlc, hcm, hel, hall, _⟩
  · simp [Value.cells] at he
    obtain ⟨rfl, rfl, rfl⟩ := he
    exact ⟨[], rfl, by rw [RowIn]; trivial⟩
  · simp [Value.cells] at he
    obtain ⟨rfl, rfl, rfl⟩ := he
    rw [hC] at hall
    have hnone : 0 < len → a'.spot = none := fun h0 => by
      have hi' := hall 0 h0
      rw [List.getElem?_eq_getElem (by omega)] at hi'
      obtain ⟨cs, hcs, ht⟩ := Option.bind_eq_some_iff.1 hi'
      obtain ⟨_, _, hcell⟩ := World.cells?_some hcs
      obtain ⟨t, h', rfl, hin⟩ := open_term _ cs _ ht
      have h0 := hcell 0 (by omega)
      rw [Nat.zero_mul, add_zero, add_zero] at h0
      exact World.cell?_spot (show w.cell? a' = some (.int .u8 t.k) from h0)
    have key : ∀ i, i < len → ∃ t : Tm, ∃ b off, a' = ⟨b, off, none⟩ ∧ TAt w.heap.size w b (off + i * 5) t := fun i hi => by
      have hi' := hall i hi
      rw [List.getElem?_eq_getElem (by omega)] at hi'
      obtain ⟨cs, hcs, ht⟩ := Option.bind_eq_some_iff.1 hi'
      obtain ⟨_, _, hcell⟩ := World.cells?_some hcs
      obtain ⟨t, h', rfl, hin⟩ := open_term _ cs _ ht
      have hs := hnone (by omega)
      obtain ⟨b, off, spot⟩ := a'
      dsimp only at hs
      subst hs
      simp only [add_none] at hcell
      have h0 : w.cell? ⟨b, off + i * 5, none⟩ = some (.int .u8 t.k) := hcell 0 (by omega)
      exact ⟨t, b, off, rfl, World.block_lt_of_cell? w _ h0, h', ⟨h0, hcell 1 (by omega), hcell 2 (by omega), hcell 3 (by omega), hcell 4 (by omega)⟩, hin⟩
    have key2 : ∃ ts : List Tm, ts.length = len ∧ ∀ k (hk : k < ts.length), ∃ b off, a' = ⟨b, off, none⟩ ∧ TAt w.heap.size w b (off + k * 5) ts[k] := by
      refine ⟨(List.range len).pmap (fun i hi => Classical.choose (key i hi)) (fun i hi => by simpa using hi), by simp, fun k hk => ?_⟩
      have hk' : k < len := by simpa using hk
      obtain ⟨b, off, ha, hl⟩ := Classical.choose_spec (key k hk')
      exact ⟨b, off, ha, by simpa using hl⟩
    obtain ⟨ts, hts0, hts⟩ := key2
    refine ⟨ts, hts0.symm, RowIn.mk fun k hk => ?_⟩
    obtain ⟨b, off, rfl, hl⟩ := hts k hk
    exact ⟨b, off, rfl, by simpa using hl⟩

/-- An argument's term. -/
theorem Trm.open_arg {H : Type} {enc : TypeId × Value → H} {w : World} {base : Nat} {sp : Nat → Bool} {hd : Bool} {v : Value} {d : DataW H} {p : List MemPlace} (h : DataW.Trod enc Try.prog w base sp hd 25 v d p) :
    ∃ (t : Tm) (h : Hd), v = t.val h ∧ t.In w.heap.size w h := by
  obtain ⟨fuel, hf⟩ := h
  obtain ⟨t, h, hc, hin⟩ := open_term _ _ _ hf
  refine ⟨t, h, ?_, hin⟩
  have hl : v.cells.toList.length = 5 := by rw [hc]; simp [Tm.vals]
  cases v with
  | agg cs =>
    have : cs = t.vals h := by
      have hcs : cs.toList = (t.vals h).toList := hc
      exact Array.toList_inj.1 hcs
    rw [this]; rfl
  | _ => simp [Value.cells] at hl
end Go.Proofs.Ytijdlihodpodjaa
