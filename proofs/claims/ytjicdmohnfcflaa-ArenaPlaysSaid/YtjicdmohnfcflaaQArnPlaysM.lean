/-
  battenlaw05.ArenaPlays: what its walk wants to know.
-/
import Derived.Test.YtjicdmohnfcflaaQArnSameM
import Derived.Test.YtjicdmohnfcflaaQArnSpoil
import Derived.Test.YtjicdmohnfcflaaQArnRefKids
namespace Go.Proofs.Ytjicdmohnfcflaa
open Go.RowKit Go.Shelf Go.Maps Lvl Trm Arn

namespace Arn
/-- A term of the call's own between two blocks. -/
structure OT (a b : Nat) (W : World) (t : Tm) (h : Hd) : Prop where
  firm : FirmS (fun q => q < a ∨ b ≤ q) W t h
  sp : t.Sp W a b h
  le : b ≤ W.heap.size
theorem OT.of {a : Nat} {W : World} {t : Tm} {h : Hd} (o : OwnT a W t h) : OT a W.heap.size W t h := ⟨o.1.less fun q hq hp => by rcases hp with e | e <;> omega, o.2, Nat.le_refl _⟩
theorem OT.ran {P : Nat → Prop} {a b : Nat} {W W' : World} {t : Tm} {h : Hd} (o : OT a b W t h) (hr : RanS P W W') (hP : ∀ q, P q → q < a ∨ b ≤ q) : OT a b W' t h :=
  ⟨FirmS.turn o.firm (hr.wide hP) (fun _ hq => Or.inl hq), Tm.Sp.ran hr _ _ _ _ o.sp fun q hq hh => by rcases hP q hq with e | e <;> omega, Nat.le_trans o.le hr.size⟩
theorem OT.below {a b : Nat} {W W' : World} {t : Tm} {h : Hd} (o : OT a b W t h) (g : Below W.heap.size W W') : OT a b W' t h := o.ran (P := fun _ => False) (RanS.of_below g) (fun _ hp => hp.elim)
theorem OT.here {a b : Nat} {W : World} {t : Tm} {h : Hd} (o : OT a b W t h) : t.In W.heap.size W h := o.firm.here
/-- The program's arena and the document's; the blocks from a on, below b, are neither's. -/
structure PS (w W : World) (A bb : Nat) (La Lb : List Tm) (va : Value) (mo : Option Nat) (v : Value) (ps : List (Tm × Hd)) (a b : Nat) : Prop where
  ar : Ar W A La va mo
  high : ∀ q, own A va mo q → w.heap.size ≤ q
  rb : RB w.heap.size w.heap.size W bb Lb v ps
  noBox : ¬ own A va mo bb
  apart : ∀ q, v.ownBlock = some q → ¬ own A va mo q
  bel : Below w.heap.size w W
  lo : w.heap.size ≤ a
  hi : b ≤ W.heap.size
  clear : ∀ q, (own A va mo q ∨ q = bb ∨ v.ownBlock = some q) → q < a ∨ b ≤ q
theorem PS.bbl {w W : World} {A bb : Nat} {La Lb : List Tm} {va v : Value} {mo : Option Nat} {ps : List (Tm × Hd)} {a b : Nat} (h : PS w W A bb La Lb va mo v ps a b) : bb < W.heap.size := (Array.getElem?_eq_some_iff.1 h.rb.box).1
theorem PS.vl {w W : World} {A bb : Nat} {La Lb : List Tm} {va v : Value} {mo : Option Nat} {ps : List (Tm × Hd)} {a b : Nat} (h : PS w W A bb La Lb va mo v ps a b) : ∀ q, v.ownBlock = some q → q < W.heap.size := fun q hq => (h.rb.row.row.lt q hq).2
theorem PS.below {w W W' : World} {A bb : Nat} {La Lb : List Tm} {va v : Value} {mo : Option Nat} {ps : List (Tm × Hd)} {a b : Nat} (h : PS w W A bb La Lb va mo v ps a b) (g : Below W.heap.size W W') : PS w W' A bb La Lb va mo v ps a b :=
  ⟨h.ar.below g (Nat.le_refl _), h.high, h.rb.below g, h.noBox, h.apart, Trm.go h.bel g, h.lo, Nat.le_trans h.hi g.size, h.clear⟩
/-- What has come in between is neither's. -/
theorem PS.window {w W W' : World} {A bb : Nat} {La Lb : List Tm} {va v : Value} {mo : Option Nat} {ps : List (Tm × Hd)} {a b : Nat} (h : PS w W A bb La Lb va mo v ps a b) (g : Below W.heap.size W W') : PS w W' A bb La Lb va mo v ps W.heap.size W'.heap.size :=
  { h.below g with
    lo := h.bel.size
    hi := Nat.le_refl _
    clear := by
      rintro q (hq | hq | hq)
      · exact Or.inl (h.ar.lt q hq)
      · exact Or.inl (hq ▸ h.bbl)
      · exact Or.inl (h.vl q hq) }
theorem PS.part {w W : World} {A bb : Nat} {La Lb : List Tm} {va v : Value} {mo : Option Nat} {ps : List (Tm × Hd)} {a b a' b' : Nat} (h : PS w W A bb La Lb va mo v ps a b) (ha : a ≤ a') (hb : b' ≤ b) : PS w W A bb La Lb va mo v ps a' b' :=
  { h with
    lo := Nat.le_trans h.lo ha
    hi := Nat.le_trans hb h.hi
    clear := fun q hq => by rcases h.clear q hq with e | e <;> omega }
theorem PS.flat {w W : World} {A bb : Nat} {La Lb : List Tm} {va v : Value} {mo : Option Nat} {ps : List (Tm × Hd)} {a b : Nat} (h : PS w W A bb La Lb va mo v ps a b) : PS w W A bb La Lb va mo v ps w.heap.size w.heap.size :=
  { h with
    lo := Nat.le_refl _
    hi := h.bel.size
    clear := fun q _ => by omega }
theorem PS.putA {w W W1 : World} {A bb : Nat} {La Lb L' : List Tm} {va v : Value} {mo : Option Nat} {ps : List (Tm × Hd)} {a b : Nat} (h : PS w W A bb La Lb va mo v ps a b) (m : Moved A va mo L' W W1) :
    ∃ va' mo', PS w W1 A bb L' Lb va' mo' v ps a b ∧ Below w.heap.size W W1 ∧ RanS (own A va mo) W W1 := by
  obtain ⟨v', mo', har, ho, hr⟩ := m
  have hs := h.bel.size
  have hhi := h.hi
  have hb1 : Below w.heap.size W W1 := hr.below (fun q hq => h.high q hq) hs
  have hbb := h.bbl
  refine ⟨v', mo', ⟨har, fun q hq => ?_, ⟨(hr.block bb hbb h.noBox).trans h.rb.box, h.rb.row.ran hb1 (fun q hq => hr.block q (h.vl q hq) (h.apart q hq)), h.rb.bbB, h.rb.apart⟩, fun hq => ?_, fun q hq h2 => ?_, h.bel.trans hb1, h.lo, Nat.le_trans h.hi hr.size, ?_⟩, hb1, hr⟩
  · rcases ho q hq with h1 | h1
    · exact h.high q h1
    · omega
  · rcases ho bb hq with h1 | h1
    · exact h.noBox h1
    · omega
  · rcases ho q h2 with h1 | h1
    · exact h.apart q hq h1
    · have := h.vl q hq; omega
  · rintro q (hq | hq | hq)
    · rcases ho q hq with h1 | h1
      · exact h.clear q (Or.inl h1)
      · exact Or.inr (by omega)
    · exact h.clear q (Or.inr (Or.inl hq))
    · exact h.clear q (Or.inr (Or.inr hq))
theorem PS.putB {w W W1 : World} {A bb : Nat} {La Lb L' : List Tm} {va v : Value} {mo : Option Nat} {ps : List (Tm × Hd)} {a b : Nat} (h : PS w W A bb La Lb va mo v ps a b) (m : RMoved w.heap.size w.heap.size bb v L' W W1) :
    ∃ v' ps', PS w W1 A bb La L' va mo v' ps' a b ∧ Below w.heap.size W W1 ∧ RanS (fun q => q = bb ∨ v.ownBlock = some q) W W1 := by
  obtain ⟨v', ps', hrb, ho, hr⟩ := m
  have hs := h.bel.size
  have hhi := h.hi
  have hb1 : Below w.heap.size W W1 := hr.below (fun q hq => by
    rcases hq with e | e
    · exact e ▸ h.rb.bbB
    · exact (h.rb.row.row.lt q e).1) hs
  have hn : ∀ q, own A va mo q → ¬ (q = bb ∨ v.ownBlock = some q) := by
    rintro q hq (e | e)
    · exact h.noBox (e ▸ hq)
    · exact h.apart q e hq
  refine ⟨v', ps', ⟨h.ar.step hr hn, h.high, hrb, h.noBox, fun q hq h2 => ?_, h.bel.trans hb1, h.lo, Nat.le_trans h.hi hr.size, ?_⟩, hb1, hr⟩
  · rcases ho q hq with h1 | h1
    · exact h.apart q h1 h2
    · have := h.ar.lt q h2; omega
  · rintro q (hq | hq | hq)
    · exact h.clear q (Or.inl hq)
    · exact h.clear q (Or.inr (Or.inl hq))
    · rcases ho q hq with h1 | h1
      · exact h.clear q (Or.inr (Or.inr h1))
      · exact Or.inr (by omega)
theorem PS.spoil {w W W1 : World} {A bb : Nat} {La Lb : List Tm} {va v : Value} {mo : Option Nat} {ps : List (Tm × Hd)} {a b : Nat} (h : PS w W A bb La Lb va mo v ps a b) (hr : RanS (fun q => a ≤ q ∧ q < b) W W1) : PS w W1 A bb La Lb va mo v ps a b ∧ Below w.heap.size W W1 := by
  have hs := h.bel.size
  have hb1 : Below w.heap.size W W1 := hr.below (fun q hq => Nat.le_trans h.lo hq.1) hs
  have hc : ∀ q, (own A va mo q ∨ q = bb ∨ v.ownBlock = some q) → ¬ (a ≤ q ∧ q < b) := fun q hq hh => by
    rcases h.clear q hq with e | e <;> omega
  exact ⟨⟨h.ar.step hr fun q hq => hc q (Or.inl hq), h.high, ⟨(hr.block bb h.bbl (hc bb (Or.inr (Or.inl rfl)))).trans h.rb.box, h.rb.row.ran hb1 (fun q hq => hr.block q (h.vl q hq) (hc q (Or.inr (Or.inr hq)))), h.rb.bbB, h.rb.apart⟩, h.noBox, h.apart, h.bel.trans hb1, h.lo, Nat.le_trans h.hi hr.size, h.clear⟩, hb1⟩
/-- A block between a and b is as it was. -/
theorem PS.keepA {w W W1 : World} {A bb : Nat} {La Lb : List Tm} {va v : Value} {mo : Option Nat} {ps : List (Tm × Hd)} {a b : Nat} (h : PS w W A bb La Lb va mo v ps a b) (hr : RanS (own A va mo) W W1) {x : Nat} {o : Obj} (hx : a ≤ x ∧ x < b) (he : W.heap[x]? = some o) : W1.heap[x]? = some o :=
  hr.keep he fun hq => by rcases h.clear x (Or.inl hq) with e | e <;> omega
theorem PS.keepB {w W W1 : World} {A bb : Nat} {La Lb : List Tm} {va v : Value} {mo : Option Nat} {ps : List (Tm × Hd)} {a b : Nat} (h : PS w W A bb La Lb va mo v ps a b) (hr : RanS (fun q => q = bb ∨ v.ownBlock = some q) W W1) {x : Nat} {o : Obj} (hx : a ≤ x ∧ x < b) (he : W.heap[x]? = some o) : W1.heap[x]? = some o :=
  hr.keep he fun hq => by
    have := h.clear x (Or.inr hq)
    omega
theorem PS.firm {w W : World} {A bb : Nat} {La Lb : List Tm} {va v : Value} {mo : Option Nat} {ps : List (Tm × Hd)} {a b x y : Nat} {t : Tm} {hd : Hd} (h : PS w W A bb La Lb va mo v ps a b) (o : OT x y W t hd) (ha : a ≤ x) (hb : y ≤ b) : FirmS (own A va mo) W t hd :=
  o.firm.less fun q _ hq => by rcases h.clear q (Or.inl hq) with e | e <;> omega
theorem PS.otA {w W W1 : World} {A bb : Nat} {La Lb : List Tm} {va v : Value} {mo : Option Nat} {ps : List (Tm × Hd)} {a b x y : Nat} {t : Tm} {hd : Hd} (h : PS w W A bb La Lb va mo v ps a b) (hr : RanS (own A va mo) W W1) (o : OT x y W t hd) (ha : a ≤ x) (hb : y ≤ b) : OT x y W1 t hd :=
  o.ran hr fun q hq => by rcases h.clear q (Or.inl hq) with e | e <;> omega
theorem PS.otB {w W W1 : World} {A bb : Nat} {La Lb : List Tm} {va v : Value} {mo : Option Nat} {ps : List (Tm × Hd)} {a b x y : Nat} {t : Tm} {hd : Hd} (h : PS w W A bb La Lb va mo v ps a b) (hr : RanS (fun q => q = bb ∨ v.ownBlock = some q) W W1) (o : OT x y W t hd) (ha : a ≤ x) (hb : y ≤ b) : OT x y W1 t hd :=
  o.ran hr fun q hq => by rcases h.clear q (Or.inr hq) with e | e <;> omega
theorem PS.slice {w W : World} {A bb : Nat} {La Lb : List Tm} {va v : Value} {mo : Option Nat} {ps : List (Tm × Hd)} {a b : Nat} (h : PS w W A bb La Lb va mo v ps a b) : ∃ ao cp, v = .slice ao Lb.length cp := by
  obtain ⟨ao, cp, e⟩ := ownRow_slice h.rb.row.row
  exact ⟨ao, cp, by rw [e, h.rb.row.len]⟩
/-- A slice of integers that was handed in. -/
def IAt (B : Nat) (w : World) (ao : Option Addr) (zs : List Int) : Prop := ∀ k (h : k < zs.length), ∃ b off, ao = some ⟨b, off, none⟩ ∧ b < B ∧ w.cell? ⟨b, off + k, none⟩ = some (.int .i64 zs[k])
theorem IAt.below {B : Nat} {w W : World} {ao : Option Addr} {zs : List Int} (h : IAt B w ao zs) (g : Below B w W) : IAt B W ao zs := fun k hk => by
  obtain ⟨b, off, e, hb, hc⟩ := h k hk
  exact ⟨b, off, e, hb, (World.cell?_of_block (g.block b hb)).trans hc⟩
theorem iat_of {W : World} {x : Addr} {n c : Nat} {zs : List Int} (hl : n ≤ c) (hz : zs.length = c) (hcell : ∀ i, i < zs.length → W.cell? (x.add i) = some (.int .i64 (zs.getD i 0))) : ∃ l : List Int, n = l.length ∧ IAt W.heap.size W (some x) l := by
  refine ⟨zs.take n, by simp; omega, fun k hk => ?_⟩
  have hk2 : k < n := by simp at hk; omega
  have hk3 : k < zs.length := by omega
  have h1 := hcell k hk3
  have hlt := World.block_lt_of_cell? W _ h1
  obtain ⟨b, off, sp⟩ := x
  cases sp with
  | some s =>
    exfalso
    have h0 := hcell 0 (by omega)
    simp only [Addr.add, if_pos, World.cell?] at h0
    split at h0 <;> simp_all
  | none =>
    have hadd : (⟨b, off, none⟩ : Addr).add k = ⟨b, off + k, none⟩ := by unfold Addr.add; split <;> simp_all
    rw [hadd] at h1 hlt
    exact ⟨b, off, rfl, hlt, by rw [h1]; simp [List.getD_eq_getElem?_getD, hk3]⟩
/-- Both arenas hold the first terms. -/
def LRel1 (w : World) (A bb : Nat) (l : List Tm) (i : Value) (wr : World) : Prop := ∃ (k : Nat) (va v : Value) (mo : Option Nat) (ps : List (Tm × Hd)), i = .int .i64 k ∧ k ≤ l.length ∧ PS w wr A bb (puts (l.take k)) (puts (l.take k)) va mo v ps w.heap.size w.heap.size
/-- Behind both, nothing is written but in new blocks. -/
def LRel2 (wX : World) (n : Nat) (i : Value) (wr : World) : Prop := ∃ k : Nat, i = .int .i64 k ∧ k ≤ n ∧ Below wX.heap.size wX wr
theorem PS.start {w W : World} (h : Below w.heap.size w W) : PS w (W.alloc (.cells #[.slice none 0 0, .map none] 56) |>.alloc (.cells #[.slice none 0 0] 33)) W.heap.size (W.heap.size + 1) [] [] (.slice none 0 0) none (.slice none 0 0) [] w.heap.size w.heap.size := by
  have hs := h.size
  have h1 : Below W.heap.size W (W.alloc (.cells #[.slice none 0 0, .map none] 56)) := below_one _ _
  have hz : (W.alloc (.cells #[.slice none 0 0, .map none] 56)).heap.size = W.heap.size + 1 := World.size_alloc _ _
  have hown : ∀ q, own W.heap.size (.slice none 0 0) none q → q = W.heap.size := by
    rintro q (e | e | e)
    · exact e
    · simp [Value.ownBlock] at e
    · cases e
  refine ⟨(made W).alloc _, fun q hq => by rw [hown q hq]; exact hs, ⟨hz ▸ World.alloc_heap_new _ _, ⟨World.ownsRow_nil _ _ _ _, rfl, fun p hp => by simp at hp, Nat.le_refl _, by rw [World.size_alloc, hz]; omega⟩, by omega, fun e => by simp [Value.ownBlock] at e⟩, fun hq => by have := hown _ hq; omega, fun q hq => by simp [Value.ownBlock] at hq, Trm.go (Trm.go h h1) (below_one _ _), Nat.le_refl _, by rw [World.size_alloc, hz]; omega, fun q hq => Or.inr ?_⟩
  rcases hq with e | e | e
  · rw [hown q e]; exact hs
  · omega
  · simp [Value.ownBlock] at e
end Arn
end Go.Proofs.Ytjicdmohnfcflaa

