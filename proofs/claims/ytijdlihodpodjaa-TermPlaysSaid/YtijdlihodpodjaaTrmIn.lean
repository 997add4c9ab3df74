/-
  A term lies in the world: its slices' places, and what lies there.
-/
import Derived.Test.YtijdlihodpodjaaTrmPlain
import Derived.Test.YtijdlihodpodjaaLevRow
import Derived.Deep.Slices
namespace Go.Proofs.Ytijdlihodpodjaa
open Go.RowKit Go.Shelf Lvl

namespace Trm
/-- Where a term's slices lie. -/
structure Hd where
  lo : Option Addr
  lc : Nat
  to : Option Addr
  tc : Nat

def Tm.vals (t : Tm) (h : Hd) : Array Value := #[.int .u8 t.k, .int .i64 t.n, .string t.s, .slice h.lo t.ls.length h.lc, .slice h.to t.ts.length h.tc]
def Tm.val (t : Tm) (h : Hd) : Value := .agg (t.vals h)
def Tm.box (t : Tm) (h : Hd) : Obj := .cells (t.vals h) 25

/-- Its numbers are such as these fields hold. -/
structure Tm.Fit (t : Tm) : Prop where
  k0 : 0 ≤ t.k
  k1 : t.k ≤ 255
  n0 : -9223372036854775808 ≤ t.n
  n1 : t.n ≤ 9223372036854775807
  s : t.s.size ≤ 9223372036854775807
  ls : t.ls.length ≤ 9223372036854775807
  ts : t.ts.length ≤ 9223372036854775807

/-- The header of a term lies at an address. -/
structure TCells (w : World) (b o : Nat) (t : Tm) (h : Hd) : Prop where
  c0 : w.cell? ⟨b, o, none⟩ = some (.int .u8 t.k)
  c1 : w.cell? ⟨b, o + 1, none⟩ = some (.int .i64 t.n)
  c2 : w.cell? ⟨b, o + 2, none⟩ = some (.string t.s)
  c3 : w.cell? ⟨b, o + 3, none⟩ = some (.slice h.lo t.ls.length h.lc)
  c4 : w.cell? ⟨b, o + 4, none⟩ = some (.slice h.to t.ts.length h.tc)

/-- The block of a slice that is not empty is below B. -/
def Low (B : Nat) (ao : Option Addr) (n : Nat) : Prop := 0 < n → ∀ a, ao = some a → a.block < B

mutual
/-- A term with these slices lies in w, below block B. -/
def Tm.In (B : Nat) (w : World) : Tm → Hd → Prop
  | .mk k n s ls ts, h => Tm.Fit (.mk k n s ls ts) ∧ LRow w h.lo ls ∧ Low B h.lo ls.length ∧ RowIn B w h.to 0 ts
def RowIn (B : Nat) (w : World) (ao : Option Addr) : Nat → List Tm → Prop
  | _, [] => True
  | i, t :: r => (∃ b off h, ao = some ⟨b, off, none⟩ ∧ b < B ∧ TCells w b (off + i * 5) t h ∧ Tm.In B w t h) ∧ RowIn B w ao (i + 1) r
end

/-- A term lies at an address. -/
def TAt (B : Nat) (w : World) (b o : Nat) (t : Tm) : Prop := b < B ∧ ∃ h, TCells w b o t h ∧ t.In B w h

theorem Tm.In_iff {B : Nat} {w : World} {t : Tm} {h : Hd} : t.In B w h ↔ t.Fit ∧ LRow w h.lo t.ls ∧ Low B h.lo t.ls.length ∧ RowIn B w h.to 0 t.ts := by
  cases t; rw [Tm.In]; exact Iff.rfl
theorem Tm.In.fit {B : Nat} {w : World} {t : Tm} {h : Hd} (g : t.In B w h) : t.Fit := (Tm.In_iff.1 g).1
theorem Tm.In.levels {B : Nat} {w : World} {t : Tm} {h : Hd} (g : t.In B w h) : LRow w h.lo t.ls := (Tm.In_iff.1 g).2.1

theorem RowIn.place {B : Nat} {w : World} {ao : Option Addr} : ∀ {ts : List Tm} {i : Nat}, RowIn B w ao i ts → ∀ k (hk : k < ts.length), ∃ b off, ao = some ⟨b, off, none⟩ ∧ TAt B w b (off + (i + k) * 5) ts[k]
  | [], _, _, k, hk => absurd hk (by simp)
  | t :: r, i, g, 0, _ => by
    rw [RowIn] at g
    obtain ⟨⟨b, off, h, hao, hb, hc, hi⟩, _⟩ := g
    exact ⟨b, off, hao, hb, h, hc, hi⟩
  | t :: r, i, g, k + 1, hk => by
    rw [RowIn] at g
    obtain ⟨b, off, hao, hat⟩ := RowIn.place g.2 k (by simpa using hk)
    refine ⟨b, off, hao, ?_⟩
    rwa [show i + 1 + k = i + (k + 1) by omega] at hat

theorem RowIn.mk {B : Nat} {w : World} {ao : Option Addr} : ∀ {ts : List Tm} {i : Nat}, (∀ k (hk : k < ts.length), ∃ b off, ao = some ⟨b, off, none⟩ ∧ TAt B w b (off + (i + k) * 5) ts[k]) → RowIn B w ao i ts
  | [], _, _ => by rw [RowIn]; trivial
  | t :: r, i, g => by
    rw [RowIn]
    refine ⟨?_, RowIn.mk fun k hk => ?_⟩
    · obtain ⟨b, off, hao, hb, h, hc, hi⟩ := g 0 (by simp)
      exact ⟨b, off, h, hao, hb, hc, hi⟩
    · obtain ⟨b, off, hao, hat⟩ := g (k + 1) (by simpa using hk)
      refine ⟨b, off, hao, ?_⟩
      rwa [show i + 1 + k = i + (k + 1) by omega]

theorem Tm.In.kid {B : Nat} {w : World} {t : Tm} {h : Hd} (g : t.In B w h) (k : Nat) (hk : k < t.ts.length) : ∃ b off, h.to = some ⟨b, off, none⟩ ∧ TAt B w b (off + k * 5) t.ts[k] := by
  obtain ⟨b, off, hao, hat⟩ := (Tm.In_iff.1 g).2.2.2.place k hk
  exact ⟨b, off, hao, by simpa using hat⟩

theorem TCells.below {B : Nat} {w w1 : World} {b o : Nat} {t : Tm} {h : Hd} (c : TCells w b o t h) (g : Below B w w1) (hb : b < B) : TCells w1 b o t h :=
  ⟨(g.cell (p := ⟨b, _, none⟩) hb).trans c.c0, (g.cell (p := ⟨b, _, none⟩) hb).trans c.c1, (g.cell (p := ⟨b, _, none⟩) hb).trans c.c2, (g.cell (p := ⟨b, _, none⟩) hb).trans c.c3, (g.cell (p := ⟨b, _, none⟩) hb).trans c.c4⟩

theorem LRow.low {B : Nat} {w0 w1 : World} {ao : Option Addr} {ls : List Lv} (h : LRow w0 ao ls) (hl : Low B ao ls.length) (g : Below B w0 w1) : LRow w1 ao ls := by
  refine ⟨fun k hk => ?_⟩
  obtain ⟨b, off, hao, ha⟩ := h.place k hk
  exact ⟨b, off, hao, ha.below g (hl (by omega) _ hao)⟩

theorem Tm.In.below {B : Nat} {w w1 : World} (g : Below B w w1) (t : Tm) : ∀ h, t.In B w h → t.In B w1 h := by
  induction t using Tm.ind with
  | h t ih =>
    intro h hi
    obtain ⟨h1, h2, h3, h4⟩ := Tm.In_iff.1 hi
    refine Tm.In_iff.2 ⟨h1, LRow.low h2 h3 g, h3, RowIn.mk fun k hk => ?_⟩
    obtain ⟨b, off, hao, hb, h', hc, hin⟩ := h4.place k hk
    exact ⟨b, off, hao, hb, h', hc.below g hb, ih _ (List.getElem_mem hk) h' hin⟩

theorem Low.mono {B B' : Nat} {ao : Option Addr} {n : Nat} (h : Low B ao n) (hB : B ≤ B') : Low B' ao n := fun hn a ha => Nat.lt_of_lt_of_le (h hn a ha) hB

theorem Tm.In.mono {B B' : Nat} {w : World} (hB : B ≤ B') (t : Tm) : ∀ h, t.In B w h → t.In B' w h := by
  induction t using Tm.ind with
  | h t ih =>
    intro h hi
    obtain ⟨h1, h2, h3, h4⟩ := Tm.In_iff.1 hi
    refine Tm.In_iff.2 ⟨h1, h2, h3.mono hB, RowIn.mk fun k hk => ?_⟩
    obtain ⟨b, off, hao, hb, h', hc, hin⟩ := h4.place k hk
    exact ⟨b, off, hao, by omega, h', hc, ih _ (List.getElem_mem hk) h' hin⟩

theorem TAt.below {B : Nat} {w w1 : World} {b o : Nat} {t : Tm} (h : TAt B w b o t) (g : Below B w w1) : TAt B w1 b o t := by
  obtain ⟨hb, hd, hc, hi⟩ := h
  exact ⟨hb, hd, hc.below g hb, Tm.In.below g t hd hi⟩
theorem TAt.mono {B B' : Nat} {w : World} {b o : Nat} {t : Tm} (h : TAt B w b o t) (hB : B ≤ B') : TAt B' w b o t := by
  obtain ⟨hb, hd, hc, hi⟩ := h
  exact ⟨by omega, hd, hc, Tm.In.mono hB t hd hi⟩

theorem Tm.cells {t : Tm} {h : Hd} {b : Nat} {w : World} (g : w.heap[b]? = some (t.box h)) : TCells w b 0 t h := by
  refine ⟨?_, ?_, ?_, ?_, ?_⟩ <;> (simp [World.cell?, g, Tm.box, Tm.vals])
end Trm
end Go.Proofs.Ytijdlihodpodjaa
