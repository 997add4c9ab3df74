/-
  A row of terms in another world; a term that lies there whatever is written into the blocks of P.
-/
import Derived.Test.YtfechgahafbphaaTrmMake
namespace Go.Proofs.Ytfechgahafbphaa
open Go.RowKit Go.Shelf Lvl Trm

theorem Trm.RowIn.below {B : Nat} {w w1 : World} {ao : Option Addr} {ts : List Tm} (h : RowIn B w ao 0 ts) (g : Below B w w1) : RowIn B w1 ao 0 ts :=
  RowIn.mk fun k hk => by
    obtain ⟨b, off, hao, hat⟩ := h.place k hk
    exact ⟨b, off, hao, hat.below g⟩
theorem Trm.RowIn.mono {B B' : Nat} {w : World} {ao : Option Addr} {ts : List Tm} (h : RowIn B w ao 0 ts) (hB : B ≤ B') : RowIn B' w ao 0 ts :=
  RowIn.mk fun k hk => by
    obtain ⟨b, off, hao, hat⟩ := h.place k hk
    exact ⟨b, off, hao, hat.mono hB⟩
theorem Trm.carryRow {w w' : World} {ao : Option Addr} {ts : List Tm} (h : RowIn w.heap.size w ao 0 ts) (b : Below w.heap.size w w') : RowIn w'.heap.size w' ao 0 ts := (h.below b).mono b.size

/-- w' is w with new blocks, and perhaps other things in the blocks of P. -/
structure Trm.RanS (P : Nat → Prop) (w w' : World) : Prop where
  os : w'.os = w.os
  tape : w'.tape = w.tape
  output : w'.output = w.output
  size : w.heap.size ≤ w'.heap.size
  block : ∀ k, k < w.heap.size → ¬ P k → w'.heap[k]? = w.heap[k]?
theorem Trm.RanS.refl (P : Nat → Prop) (w : World) : RanS P w w := ⟨rfl, rfl, rfl, Nat.le_refl _, fun _ _ _ => rfl⟩
theorem Trm.RanS.trans {P : Nat → Prop} {a b c : World} (h : RanS P a b) (k : RanS P b c) : RanS P a c :=
  ⟨k.os.trans h.os, k.tape.trans h.tape, k.output.trans h.output, Nat.le_trans h.size k.size, fun i hi hm => (k.block i (Nat.lt_of_lt_of_le hi h.size) hm).trans (h.block i hi hm)⟩
theorem Trm.RanS.of_below {P : Nat → Prop} {w w' : World} (h : Below w.heap.size w w') : RanS P w w' := ⟨h.os, h.tape, h.output, h.size, fun k hk _ => h.block k hk⟩
theorem Trm.RanS.of_ran {P : Nat → Prop} {m : Nat} {w w' : World} (h : Ran m w w') (hm : P m) : RanS P w w' := ⟨h.os, h.tape, h.output, h.size, fun k hk hn => h.block k hk (fun e => hn (e ▸ hm))⟩
theorem Trm.RanS.below {P : Nat → Prop} {B : Nat} {w w' : World} (h : RanS P w w') (hm : ∀ k, P k → B ≤ k) (hB : B ≤ w.heap.size) : Below B w w' :=
  ⟨h.os, h.tape, h.output, h.size, fun k hk => h.block k (by omega) (fun hp => by have := hm k hp; omega)⟩
theorem Trm.RanS.keep {P : Nat → Prop} {w w' : World} (h : RanS P w w') {k : Nat} {o : Obj} (hk : w.heap[k]? = some o) (hm : ¬ P k) : w'.heap[k]? = some o := by
  rw [h.block k (Array.getElem?_eq_some_iff.1 hk).1 hm]; exact hk
/-- A term lies there whatever is written into the blocks of P. -/
def Trm.FirmS (P : Nat → Prop) (w : World) (t : Tm) (h : Hd) : Prop := ∀ w', RanS P w w' → t.In w'.heap.size w' h
theorem Trm.FirmS.here {P : Nat → Prop} {w : World} {t : Tm} {h : Hd} (g : FirmS P w t h) : t.In w.heap.size w h := g w (RanS.refl _ _)
theorem Trm.FirmS.step {P : Nat → Prop} {w w1 : World} {t : Tm} {h : Hd} (g : FirmS P w t h) (r : RanS P w w1) : FirmS P w1 t h := fun w' hr => g w' (r.trans hr)
theorem Trm.FirmS.of {P : Nat → Prop} {B : Nat} {w : World} {t : Tm} {h : Hd} (g : t.In B w h) (hm : ∀ k, P k → B ≤ k) (hB : B ≤ w.heap.size) : FirmS P w t h := fun w' hr => Tm.In.mono (by have := hr.size; omega) _ _ (Tm.In.below (hr.below hm hB) _ _ g)
/-- Two terms, applied: in a new row g. -/
theorem Trm.FirmS.t2 {P : Nat → Prop} {w : World} {k : Int} {f x : Tm} {hf hx : Hd} {g : Nat} {ty : TypeId} {fr : Nat × Nat} (hk0 : 0 ≤ k) (hk1 : k ≤ 255) (hg : w.heap[g]? = some (.cells (f.vals hf ++ x.vals hx) ty fr)) (hn : ¬ P g) (h1 : FirmS P w f hf) (h2 : FirmS P w x hx) :
    FirmS P w (t2 k f x) ⟨none, 0, some ⟨g, 0, none⟩, 2⟩ := fun w' hr => t2_in hk0 hk1 (hr.keep hg hn) (by have := (Array.getElem?_eq_some_iff.1 hg).1; have := hr.size; omega) (h1 w' hr) (h2 w' hr)

/-- As Made; and where its parts lie whatever is written into old blocks, it does. -/
def Trm.MadeP (t : Tm) (w : World) (C : (Nat → Prop) → Prop) (e : Ending) (w' : World) : Prop := ∃ h, e = .returned (t.val h) ∧ Below w.heap.size w w' ∧ ∀ P : Nat → Prop, (∀ k, P k → k < w.heap.size) → C P → FirmS P w' t h

end Go.Proofs.Ytfechgahafbphaa
