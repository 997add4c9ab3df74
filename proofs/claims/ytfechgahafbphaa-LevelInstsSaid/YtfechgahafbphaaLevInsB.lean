/-
  Rows of four levels, filled place by place; what the walk of LevelInsts is told.
-/
import Derived.Test.YtfechgahafbphaaLevArr2
import Derived.Test.YtfechgahafbphaaLevMath3
namespace Go.Proofs.Ytfechgahafbphaa
open Go.RowKit Lvl

namespace Lvl
def Row4.get (r : Row4) : Nat → Lv
  | 0 => r.b0
  | 1 => r.b1
  | 2 => r.b2
  | _ => r.b3
def Row4.set (r : Row4) (x : Lv) : Nat → Row4
  | 0 => { r with b0 := x }
  | 1 => { r with b1 := x }
  | 2 => { r with b2 := x }
  | _ => { r with b3 := x }
/-- The first k places of a row, the others as they are made. -/
def Row4.upTo (r : Row4) : Nat → Row4
  | 0 => ⟨zero, zero, zero, zero⟩
  | 1 => ⟨r.b0, zero, zero, zero⟩
  | 2 => ⟨r.b0, r.b1, zero, zero⟩
  | 3 => ⟨r.b0, r.b1, r.b2, zero⟩
  | _ => r
theorem four_cases {k : Nat} (h : k < 4) : k = 0 ∨ k = 1 ∨ k = 2 ∨ k = 3 := by omega
theorem Row4.upTo_step (r : Row4) {k : Nat} (h : k < 4) : (r.upTo k).set (r.get k) k = r.upTo (k + 1) := by
  rcases four_cases h with rfl | rfl | rfl | rfl <;> rfl
theorem Row4.upTo_all (r : Row4) : r.upTo 4 = r := rfl
theorem row_get {r : Row4} {b : Nat} {w : World} (h : w.heap[b]? = some r.box) {k : Nat} (hk : k < 4) : LAt w b (k * 5) (r.get k) := by
  rcases four_cases hk with rfl | rfl | rfl | rfl
  · exact Row4.at0 h
  · exact Row4.at1 h
  · exact Row4.at2 h
  · exact Row4.at3 h
theorem row_set {r : Row4} {W : World} {B : Nat} (h : W.heap[B]? = some r.box) (l : Lv) {k : Nat} (hk : k < 4) : (put5o W B (k * 5) l).heap[B]? = some (r.set l k).box := by
  rcases four_cases hk with rfl | rfl | rfl | rfl
  · exact row_put0 h l
  · exact row_put1 h l
  · exact row_put2 h l
  · exact row_put3 h l
theorem param_at (k : Nat) (hk : k < 4) (w : World) : Calls Try.prog 36 #[.int .i64 k] w fun e w' => e = .returned (.tuple #[(own.get k).val, .int .i64 0]) ∧ Below w.heap.size w w' := by
  have h := param_any (k : Int) w
  rcases four_cases hk with rfl | rfl | rfl | rfl <;> exact h
theorem okAll_get {r : Row4} (h : r.okAll) (k : Nat) : (r.get k).ok := by
  match k with
  | 0 => exact h.1
  | 1 => exact h.2.1
  | 2 => exact h.2.2.1
  | k + 3 => exact h.2.2.2
theorem okAll_of {r : Row4} (h : ∀ j, j < 4 → (r.get j).may = true) : r.okAll :=
  ⟨(may_iff _).1 (h 0 (by omega)), (may_iff _).1 (h 1 (by omega)), (may_iff _).1 (h 2 (by omega)), (may_iff _).1 (h 3 (by omega))⟩
/-- Four blocks. -/
theorem four_new (w : World) (a b c d : Obj) : ((((w.alloc a).alloc b).alloc c).alloc d).heap[w.heap.size]? = some a ∧ ((((w.alloc a).alloc b).alloc c).alloc d).heap[w.heap.size + 1]? = some b ∧ ((((w.alloc a).alloc b).alloc c).alloc d).heap[w.heap.size + 1 + 1]? = some c ∧ ((((w.alloc a).alloc b).alloc c).alloc d).heap[w.heap.size + 1 + 1 + 1]? = some d ∧ Below w.heap.size w ((((w.alloc a).alloc b).alloc c).alloc d) :=
  ⟨keepA (new1of3 w a b c) d, keepA (new2of3 w a b c) d, keepA (new3 w a b c) d, new4 w a b c d, below_a (below_three w a b c) d⟩
/-- A variable that a drawn region makes and fills. -/
def CutL (wc : World) (A : Lv) (q : Int) (p e : Value) (wx : World) : Prop :=
  ∃ X, p = .pointer (some ⟨X, 0, none⟩) ∧ e = .int .i64 q ∧ wx.heap[X]? = some A.box ∧ Below wc.heap.size wc wx
theorem cutl_late {wq wi : World} {A : Lv} {q : Int} (hb : Below wq.heap.size wq wi) : CutL wq A q (.pointer (some ⟨wi.heap.size, 0, none⟩)) (.int .i64 q) (wi.alloc A.box) :=
  ⟨wi.heap.size, rfl, rfl, World.alloc_heap_new wi A.box, below_a hb _⟩
theorem cutl_early {wq wi : World} {A : Lv} {q : Int} {X : Nat} (hx : wi.heap[X]? = some zero.box) (hX : wq.heap.size ≤ X) (hb : Below wq.heap.size wq wi) : CutL wq A q (.pointer (some ⟨X, 0, none⟩)) (.int .i64 q) (put5 wi X A) :=
  ⟨X, rfl, rfl, put5_self hx A, put5_below hb hX A⟩
/-- What the first loop has seen. -/
def InsRel1 (w : World) (l : Lv) (one two : Row4) (i : Value) (wr : World) : Prop :=
  ∃ k : Nat, i = .int .i64 k ∧ k ≤ 4 ∧ wr.heap[w.heap.size]? = some l.box ∧ wr.heap[w.heap.size + 1]? = some one.box ∧ wr.heap[w.heap.size + 1 + 1]? = some two.box ∧ wr.heap[w.heap.size + 1 + 1 + 1]? = some (own.upTo k).box ∧ Below w.heap.size w wr ∧ ∀ j, j < k → (one.get j).may = true ∧ (two.get j).may = true
/-- What the second loop has made: both, of which k places are filled. -/
def InsRel2 (w : World) (l b : Lv) (one two both : Row4) (XB BB : Nat) (i : Value) (wr : World) : Prop :=
  ∃ k : Nat, i = .int .i64 k ∧ k ≤ 4 ∧ wr.heap[w.heap.size]? = some l.box ∧ wr.heap[w.heap.size + 1]? = some one.box ∧ wr.heap[w.heap.size + 1 + 1]? = some two.box ∧ wr.heap[XB]? = some b.box ∧ wr.heap[BB]? = some (both.upTo k).box ∧ Below w.heap.size w wr ∧ ∀ j, j < k → inst (one.get j) two.list = (both.get j, 0)
def bothOf (one two : Row4) : Row4 := ⟨(inst one.b0 two.list).1, (inst one.b1 two.list).1, (inst one.b2 two.list).1, (inst one.b3 two.list).1⟩
theorem bothOf_get (one two : Row4) (k : Nat) : (bothOf one two).get k = (inst (one.get k) two.list).1 := by
  match k with
  | 0 => rfl
  | 1 => rfl
  | 2 => rfl
  | k + 3 => rfl
theorem both_one {one two : Row4} (h1 : one.okAll) (h2 : two.okAll) (k : Nat) : inst (one.get k) two.list = ((bothOf one two).get k, 0) ∨ inst (one.get k) two.list = (zero, 4) := by
  rw [bothOf_get]
  rcases inst_ok (okAll_get h1 k) h2 with ⟨z, e, _⟩ | e
  · left; rw [e]
  · right; exact e
end Lvl
end Go.Proofs.Ytfechgahafbphaa
