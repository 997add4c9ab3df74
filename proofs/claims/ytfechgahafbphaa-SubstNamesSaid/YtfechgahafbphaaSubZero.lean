/-
  A term that may be does not touch a block of a zero term.
-/
import Derived.Test.YtfechgahafbphaaSubBase
namespace Go.Proofs.Ytfechgahafbphaa
open Go.RowKit Go.Shelf Lvl Trm

namespace Trm
theorem zero_cell {w : World} {X o : Nat} {v : Value} (hX : w.heap[X]? = some (.cells #[.int .u8 0, .int .i64 0, .string no, .slice none 0 0, .slice none 0 0] 60)) (h : w.cell? ⟨X, o, none⟩ = some v) :
    (o = 0 ∧ v = .int .u8 0) ∨ (o = 1 ∧ v = .int .i64 0) ∨ (o = 2 ∧ v = .string no) ∨ v = .slice none 0 0 := by
  simp only [World.cell?, hX] at h
  match o, h with
  | 0, h => left; simp at h; exact ⟨rfl, h.symm⟩
  | 1, h => right; left; simp at h; exact ⟨rfl, h.symm⟩
  | 2, h => right; right; left; simp at h; exact ⟨rfl, h.symm⟩
  | 3, h => right; right; right; simp at h; exact h.symm
  | 4, h => right; right; right; simp at h; exact h.symm
  | o + 5, h => simp at h
theorem zero_firm {B X : Nat} {w : World} (hX : w.heap[X]? = some (.cells #[.int .u8 0, .int .i64 0, .string no, .slice none 0 0, .slice none 0 0] 60)) (hB : B ≤ w.heap.size) {w' : World} (hr : Ran X w w') (t : Tm) : ∀ (h : Hd) (d : Int), OkMay t d → t.In B w h → t.In B w' h := by
  induction t using Tm.ind with
  | h t ih =>
    intro h d ho hi
    obtain ⟨h1, h2, h3, h4⟩ := Tm.In_iff.1 hi
    refine Tm.In_iff.2 ⟨h1, ⟨fun k hk => ?_⟩, h3, RowIn.mk fun k hk => ?_⟩
    · obtain ⟨b, off, hao, ha⟩ := h2.place k hk
      have hb : b < w.heap.size := Nat.lt_of_lt_of_le (h3 (by omega) _ hao) hB
      have hbX : b ≠ X := by
        rintro rfl
        have e0 := zero_cell hX ha.1
        have e1 := zero_cell hX ha.2.1
        rcases e0 with ⟨ho0, e⟩ | ⟨ho1, e⟩ | ⟨_, e⟩ | e
        · cases e
        · rcases e1 with ⟨hq, e'⟩ | ⟨hq, e'⟩ | ⟨_, e'⟩ | e'
          · cases e'
          · omega
          · cases e'
          · cases e'
        · cases e
        · cases e
      exact ⟨b, off, hao, (hr.cell (p := ⟨b, _, none⟩) hb hbX).trans ha.1, (hr.cell (p := ⟨b, _, none⟩) hb hbX).trans ha.2.1, (hr.cell (p := ⟨b, _, none⟩) hb hbX).trans ha.2.2.1, (hr.cell (p := ⟨b, _, none⟩) hb hbX).trans ha.2.2.2.1, (hr.cell (p := ⟨b, _, none⟩) hb hbX).trans ha.2.2.2.2⟩
    · obtain ⟨b, off, hao, hb, h', hc, hin⟩ := h4.place k hk
      have hok := ho.down _ (List.getElem_mem hk)
      have hk1 := (node_few hok.node.1).2.2.1
      have hbX : b ≠ X := by
        rintro rfl
        rcases zero_cell hX hc.c0 with ⟨_, e⟩ | ⟨_, e⟩ | ⟨_, e⟩ | e
        · injection e with _ e2
          omega
        · cases e
        · cases e
        · cases e
      exact ⟨b, off, hao, hb, h', hc.ran hr (by omega) hbX, ih _ (List.getElem_mem hk) h' (d + 1) hok hin⟩
end Trm
end Go.Proofs.Ytfechgahafbphaa
