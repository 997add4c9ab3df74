/-
  A level, stored into an array of four.
-/
import Derived.Test.YtfechgahafbphaaLevArr
namespace Go.Proofs.Ytfechgahafbphaa
open Go.RowKit Lvl

/-- A level, stored at an offset of a block. -/
def Lvl.put5o (W : World) (B o : Nat) (l : Lv) : World := (((((W.setCell ⟨B, o, none⟩ (.int .i64 l.c)).setCell ⟨B, o + 1, none⟩ (.int .i64 l.p0)).setCell ⟨B, o + 2, none⟩ (.int .i64 l.p1)).setCell ⟨B, o + 3, none⟩ (.int .i64 l.p2)).setCell ⟨B, o + 4, none⟩ (.int .i64 l.p3))
theorem Lvl.row_put0 {r : Row4} {W : World} {B : Nat} (h : W.heap[B]? = some r.box) (l : Lv) : (put5o W B 0 l).heap[B]? = some ({ r with b0 := l } : Row4).box := by
  simp [put5o, World.setCell, Array.getElem?_modify, h, Row4.box, Row4.vals]
theorem Lvl.row_put1 {r : Row4} {W : World} {B : Nat} (h : W.heap[B]? = some r.box) (l : Lv) : (put5o W B 5 l).heap[B]? = some ({ r with b1 := l } : Row4).box := by
  simp [put5o, World.setCell, Array.getElem?_modify, h, Row4.box, Row4.vals]
theorem Lvl.row_put2 {r : Row4} {W : World} {B : Nat} (h : W.heap[B]? = some r.box) (l : Lv) : (put5o W B 10 l).heap[B]? = some ({ r with b2 := l } : Row4).box := by
  simp [put5o, World.setCell, Array.getElem?_modify, h, Row4.box, Row4.vals]
theorem Lvl.row_put3 {r : Row4} {W : World} {B : Nat} (h : W.heap[B]? = some r.box) (l : Lv) : (put5o W B 15 l).heap[B]? = some ({ r with b3 := l } : Row4).box := by
  simp [put5o, World.setCell, Array.getElem?_modify, h, Row4.box, Row4.vals]
theorem Lvl.row_other {W : World} {B : Nat} {x : Obj} (h : W.heap[B]? = some x) (l : Lv) {b o : Nat} (hb : b ≠ B) : (put5o W b o l).heap[B]? = some x :=
  cells_other (cells_other (cells_other (cells_other (cells_other h _ hb) _ hb) _ hb) _ hb) _ hb
theorem Lvl.row_below {w W : World} (h : Below w.heap.size w W) {B : Nat} (hB : w.heap.size ≤ B) (o : Nat) (l : Lv) : Below w.heap.size w (put5o W B o l) :=
  ((((h.setCell (p := ⟨B, _, none⟩) hB _).setCell (p := ⟨B, _, none⟩) hB _).setCell (p := ⟨B, _, none⟩) hB _).setCell (p := ⟨B, _, none⟩) hB _).setCell (p := ⟨B, _, none⟩) hB _
theorem Lvl.Row4.free {r : Row4} {b : Nat} {w : World} (h : w.heap[b]? = some r.box) (i : Nat) : w.frozen? ⟨b, i, none⟩ = false := by
  simp [World.frozen?, h, Row4.box]
end Go.Proofs.Ytfechgahafbphaa
