/-
  A term in memory of its own: no part of it has a block of another one, and all may be written.
-/
import Derived.Test.YtjicdmohnfcflaaQArnTree1
namespace Go.Proofs.Ytjicdmohnfcflaa
open Go.RowKit Go.Shelf Go.Maps Lvl Trm Arn

namespace Lvl
theorem Room.same {w w' : World} {x : Addr} {n : Nat} (h : Room w x n) (hb : w'.heap[x.block]? = w.heap[x.block]?) : Room w' x n := by
  obtain ⟨h1, cs, ty, h2, h3⟩ := h
  exact ⟨h1, cs, ty, hb.trans h2, h3⟩
theorem Room.lt {w : World} {x : Addr} {n : Nat} (h : Room w x n) : x.block < w.heap.size := by
  obtain ⟨_, cs, ty, h2, _⟩ := h
  exact (Array.getElem?_eq_some_iff.1 h2).1
theorem Room.free {w : World} {x : Addr} {n : Nat} (h : Room w x n) (o : Nat) : w.frozen? ⟨x.block, o, none⟩ = false := by
  obtain ⟨_, cs, ty, h2, _⟩ := h
  simp [World.frozen?, h2]
theorem Room.there {w : World} {x : Addr} {n : Nat} (h : Room w x n) {o : Nat} (ho : o < n) : ∃ v, w.cell? ⟨x.block, o, none⟩ = some v := by
  obtain ⟨_, cs, ty, h2, h3⟩ := h
  exact ⟨cs[o], by simp [World.cell?, h2]⟩
theorem Room.set {w : World} {x : Addr} {n : Nat} (h : Room w x n) (b o : Nat) (v : Value) : Room (w.setCell ⟨b, o, none⟩ v) x n := by
  by_cases e : x.block = b
  · obtain ⟨h1, cs, ty, h2, h3⟩ := h
    refine ⟨h1, cs.setIfInBounds o v, ty, ?_, by simpa using h3⟩
    subst e
    have := cells_set (i := o) h2 v
    simpa using this
  · exact h.same (RowKit.Below.heap_setCell _ _ _ _ e)
end Lvl

namespace Trm
/-- The levels' slice. -/
def LoSp (w : World) (lo : Option Addr) (a b n : Nat) : Prop := (0 < n → ∃ x, lo = some x) ∧ ∀ x, lo = some x → a ≤ x.block ∧ x.block < b ∧ Room w x (n * 5)
mutual
/-- All its blocks lie from a on, below b. -/
def Tm.Sp (w : World) : Tm → Nat → Nat → Hd → Prop
  | .mk _ _ _ ls ts, a, b, h => LoSp w h.lo a b ls.length ∧ ∃ f g : Nat → Nat, SpRow w h.lo h.to f g a b 0 ts
def SpRow (w : World) (lo to : Option Addr) (f g : Nat → Nat) (a b : Nat) : Nat → List Tm → Prop
  | _, [] => True
  | i, t :: r => (∃ q h, to = some ⟨q, 0, none⟩ ∧ a ≤ q ∧ q < b ∧ Room w ⟨q, 0, none⟩ ((i + 1) * 5) ∧ TCells w q (i * 5) t h ∧ a ≤ f i ∧ g i ≤ b ∧ ¬ (f i ≤ q ∧ q < g i) ∧ (∀ x, lo = some x → x.block ≠ q ∧ ¬ (f i ≤ x.block ∧ x.block < g i)) ∧ (∀ j, j < i → g j ≤ f i) ∧ Tm.Sp w t (f i) (g i) h) ∧ SpRow w lo to f g a b (i + 1) r
end
/-- A part of it. -/
def KidSp (w : World) (lo to : Option Addr) (f g : Nat → Nat) (a b i : Nat) (t : Tm) : Prop :=
  ∃ q h, to = some ⟨q, 0, none⟩ ∧ a ≤ q ∧ q < b ∧ Room w ⟨q, 0, none⟩ ((i + 1) * 5) ∧ TCells w q (i * 5) t h ∧ a ≤ f i ∧ g i ≤ b ∧ ¬ (f i ≤ q ∧ q < g i) ∧ (∀ x, lo = some x → x.block ≠ q ∧ ¬ (f i ≤ x.block ∧ x.block < g i)) ∧ (∀ j, j < i → g j ≤ f i) ∧ Tm.Sp w t (f i) (g i) h
theorem SpRow.place {w : World} {lo to : Option Addr} {f g : Nat → Nat} {a b : Nat} : ∀ {ts : List Tm} {i : Nat}, SpRow w lo to f g a b i ts → ∀ k (hk : k < ts.length), KidSp w lo to f g a b (i + k) ts[k]
  | [], _, _, k, hk => absurd hk (by simp)
  | t :: r, i, h, 0, _ => by rw [SpRow] at h; exact h.1
  | t :: r, i, h, k + 1, hk => by
    rw [SpRow] at h
    have := SpRow.place h.2 k (by simpa using hk)
    rwa [show i + 1 + k = i + (k + 1) by omega] at this
theorem SpRow.mk {w : World} {lo to : Option Addr} {f g : Nat → Nat} {a b : Nat} : ∀ {ts : List Tm} {i : Nat}, (∀ k (hk : k < ts.length), KidSp w lo to f g a b (i + k) ts[k]) → SpRow w lo to f g a b i ts
  | [], _, _ => by rw [SpRow]; trivial
  | t :: r, i, h => by
    rw [SpRow]
    refine ⟨h 0 (by simp), SpRow.mk fun k hk => ?_⟩
    have := h (k + 1) (by simpa using hk)
    rwa [show i + (k + 1) = i + 1 + k by omega] at this
theorem Tm.Sp_iff {w : World} {t : Tm} {a b : Nat} {h : Hd} : t.Sp w a b h ↔ LoSp w h.lo a b t.ls.length ∧ ∃ f g : Nat → Nat, ∀ i (hi : i < t.ts.length), KidSp w h.lo h.to f g a b i t.ts[i] := by
  cases t
  rw [Tm.Sp]
  constructor
  · rintro ⟨h1, f, g, h2⟩
    exact ⟨h1, f, g, fun i hi => by have := h2.place i hi; rwa [Nat.zero_add] at this⟩
  · rintro ⟨h1, f, g, h2⟩
    exact ⟨h1, f, g, SpRow.mk fun k hk => by rw [Nat.zero_add]; exact h2 k hk⟩
theorem Tm.Sp.ran {P : Nat → Prop} {w w' : World} (hr : RanS P w w') (t : Tm) : ∀ a b h, t.Sp w a b h → (∀ q, P q → ¬ (a ≤ q ∧ q < b)) → t.Sp w' a b h := by
  induction t using Tm.ind with
  | h t ih =>
    intro a b h hs hP
    obtain ⟨h1, f, g, h2⟩ := Tm.Sp_iff.1 hs
    refine Tm.Sp_iff.2 ⟨⟨h1.1, fun x hx => ?_⟩, f, g, fun i hi => ?_⟩
    · obtain ⟨l1, l2, l3⟩ := h1.2 x hx
      exact ⟨l1, l2, l3.same (hr.block _ l3.lt (fun hp => hP _ hp ⟨l1, l2⟩))⟩
    · obtain ⟨q, hd, k1, k2, k3, k4, k5, k6, k7, k8, k9, k10, k11⟩ := h2 i hi
      have hq : ¬ P q := fun hp => hP q hp ⟨k2, k3⟩
      exact ⟨q, hd, k1, k2, k3, k4.same (hr.block q k4.lt hq), k5.ranS hr k4.lt hq, k6, k7, k8, k9, k10, ih _ (List.getElem_mem hi) _ _ _ k11 (fun p hp hh => hP p hp ⟨by omega, by omega⟩)⟩
theorem Tm.Sp.below {w w' : World} (hb : Below w.heap.size w w') {t : Tm} {a b : Nat} {h : Hd} (hs : t.Sp w a b h) : t.Sp w' a b h :=
  Tm.Sp.ran (RanS.of_below (P := fun _ => False) hb) t a b h hs (fun _ hp => hp.elim)
theorem Tm.Sp.mono {w : World} {t : Tm} {a b a' b' : Nat} {h : Hd} (hs : t.Sp w a b h) (ha : a' ≤ a) (hb : b ≤ b') : t.Sp w a' b' h := by
  obtain ⟨h1, f, g, h2⟩ := Tm.Sp_iff.1 hs
  refine Tm.Sp_iff.2 ⟨⟨h1.1, fun x hx => ⟨by have := (h1.2 x hx).1; omega, by have := (h1.2 x hx).2.1; omega, (h1.2 x hx).2.2⟩⟩, f, g, fun i hi => ?_⟩
  obtain ⟨q, hd, k1, k2, k3, k4, k5, k6, k7, rest⟩ := h2 i hi
  exact ⟨q, hd, k1, by omega, by omega, k4, k5, by omega, by omega, rest⟩
/-- Terms of a row, each in memory of its own. -/
def Sep (w : World) (b0 : Nat) (row : Option Nat) (ps : List (Tm × Hd)) : Prop :=
  ∃ f g : Nat → Nat, ∀ i (h : i < ps.length), b0 ≤ f i ∧ g i ≤ w.heap.size ∧ (∀ q, row = some q → ¬ (f i ≤ q ∧ q < g i)) ∧ (∀ j, j < i → g j ≤ f i) ∧ ps[i].1.Sp w (f i) (g i) ps[i].2
theorem Sep.nil {w : World} {b0 : Nat} {row : Option Nat} : Sep w b0 row [] := ⟨id, id, fun i h => by simp at h⟩
theorem Sep.ran {P : Nat → Prop} {w w' : World} {b0 : Nat} {row : Option Nat} {ps : List (Tm × Hd)} (h : Sep w b0 row ps) (hr : RanS P w w') (hP : ∀ q, P q → q < b0 ∨ row = some q ∨ w.heap.size ≤ q) : Sep w' b0 row ps := by
  obtain ⟨f, g, hi⟩ := h
  refine ⟨f, g, fun i hl => ?_⟩
  obtain ⟨h1, h2, h3, h4, h5⟩ := hi i hl
  refine ⟨h1, Nat.le_trans h2 hr.size, h3, h4, Tm.Sp.ran hr _ _ _ _ h5 fun q hq hh => ?_⟩
  rcases hP q hq with h | h | h
  · omega
  · exact h3 q h hh
  · omega
theorem Sep.snoc {P : Nat → Prop} {wr w4 w5 : World} {b0 g1 : Nat} {row : Option Nat} {ps : List (Tm × Hd)} {y : Tm} {hy : Hd} (h : Sep wr b0 row ps) (b4 : Below wr.heap.size wr w4) (fy : y.Sp w4 wr.heap.size w4.heap.size hy) (hb0 : b0 ≤ wr.heap.size)
    (hrow : ∀ q, row = some q → q < wr.heap.size) (hr : RanS P w4 w5) (hP : ∀ q, P q → q < b0 ∨ row = some q) (hat : row = some g1 ∨ w4.heap.size ≤ g1) : Sep w5 b0 (some g1) (ps ++ [(y, hy)]) := by
  obtain ⟨f, g, hi⟩ := h
  have s4 := b4.size
  have s5 := hr.size
  refine ⟨fun i => if i < ps.length then f i else wr.heap.size, fun i => if i < ps.length then g i else w4.heap.size, fun i hl => ?_⟩
  by_cases hlt : i < ps.length
  · obtain ⟨h1, h2, h3, h4, h5⟩ := hi i hlt
    simp only [if_pos hlt, List.getElem_append_left hlt]
    refine ⟨h1, by omega, fun q hq => ?_, fun j hj => by rw [if_pos (by omega)]; exact h4 j hj, Tm.Sp.ran hr _ _ _ _ (h5.below b4) fun q hq hh => ?_⟩
    · injection hq with hq
      subst hq
      rcases hat with e | e
      · exact h3 _ e
      · omega
    · rcases hP q hq with e | e
      · omega
      · exact h3 q e hh
  · have hie : i = ps.length := by simp at hl; omega
    subst hie
    simp only [Nat.lt_irrefl, if_false, List.getElem_concat_length]
    refine ⟨hb0, s5, fun q hq => ?_, fun j hj => by rw [if_pos hj]; exact (hi j hj).2.1, Tm.Sp.ran hr _ _ _ _ fy fun q hq hh => ?_⟩
    · injection hq with hq
      subst hq
      rcases hat with e | e
      · have := hrow _ e; omega
      · omega
    · rcases hP q hq with e | e
      · omega
      · have := hrow q e; omega
/-- A term in memory that is no older than B. -/
def OwnT (B : Nat) (w : World) (t : Tm) (h : Hd) : Prop := FirmS (fun z => z < B) w t h ∧ t.Sp w B w.heap.size h
end Trm
namespace Arn
/-- A node over a row of its own, in memory of its own. -/
theorem sp_own {w : World} {a b0 : Nat} {v : Value} {ps : List (Tm × Hd)} {k n : Int} {s : ByteArray} {ls : List Lv} {lo to : Option Addr} {lc tc m : Nat}
    (hown : w.ownsRow b0 26 5 v ps.length (flat ps)) (hv : v = .slice to m tc) (hab : a ≤ b0) (hsep : Sep w b0 v.ownBlock ps) (hlo : ∀ x, lo = some x → a ≤ x.block ∧ x.block < b0) (hsoft : ∀ x, lo = some x → Room w x (ls.length * 5)) (hlr : LRow w lo ls) :
    (Tm.mk k n s ls (ps.map (·.1))).Sp w a w.heap.size ⟨lo, lc, to, tc⟩ := by
  obtain ⟨f, g, hi⟩ := hsep
  refine Tm.Sp_iff.2 ⟨⟨fun h0 => by obtain ⟨q, o, e, _⟩ := hlr.place 0 h0; exact ⟨_, e⟩, fun x hx => ⟨(hlo x hx).1, (hsoft x hx).lt, hsoft x hx⟩⟩, f, g, fun i hl => ?_⟩
  have hl2 : i < ps.length := by simpa [Tm.ts] using hl
  have e : (Tm.mk k n s ls (ps.map (·.1))).ts[i]'hl = ps[i].1 := by simp [Tm.ts]
  rw [e]
  obtain ⟨h1, h2, h3, h4, h5⟩ := hi i hl2
  rcases hown.2 with ⟨_, h0⟩ | ⟨q, cap, cur, hv2, hbq, hg, hm, _, hs, _⟩
  · omega
  · have hown2 : w.ownsRow b0 26 5 (.slice (some ⟨q, 0, none⟩) ps.length cap) ps.length (flat ps) := hv2 ▸ hown
    obtain ⟨_, _, htb⟩ := block_of_own hown2
    rw [hv] at hv2
    injection hv2 with e1 e2 e3
    have hvb : v.ownBlock = some q := by rw [hv, e1]; rfl
    have hql := (Array.getElem?_eq_some_iff.1 hg).1
    refine ⟨q, ps[i].2, e1, by omega, hql, ⟨rfl, cur, _, hg, ?_⟩, htb.cells i hl2, by omega, h2, h3 q hvb, fun x hx => ⟨by have := hlo x hx; omega, by have := hlo x hx; omega⟩, h4, h5⟩
    rw [hs]
    exact Nat.mul_le_mul_right 5 (by omega)
end Arn
end Go.Proofs.Ytjicdmohnfcflaa

