/-
  Four levels as an array; what parameters of layer 2's laws are.
-/
import Derived.Test.YtfechgahafbphaaLevOpen
import Derived.Test.YtfechgahafbphaaLevMath2
import Derived.Test.YtfechgahafbphaaLevWorks
namespace Go.Proofs.Ytfechgahafbphaa
open Go.RowKit Go.WideShapes Lvl

def Lvl.Lv.ints (l : Lv) : List Int := [l.c, l.p0, l.p1, l.p2, l.p3]
def Lvl.Row4.ints (r : Row4) : List Int := r.b0.ints ++ r.b1.ints ++ r.b2.ints ++ r.b3.ints
def Lvl.Row4.vals (r : Row4) : Array Value := #[.int .i64 r.b0.c, .int .i64 r.b0.p0, .int .i64 r.b0.p1, .int .i64 r.b0.p2, .int .i64 r.b0.p3, .int .i64 r.b1.c, .int .i64 r.b1.p0, .int .i64 r.b1.p1, .int .i64 r.b1.p2, .int .i64 r.b1.p3,
  .int .i64 r.b2.c, .int .i64 r.b2.p0, .int .i64 r.b2.p1, .int .i64 r.b2.p2, .int .i64 r.b2.p3, .int .i64 r.b3.c, .int .i64 r.b3.p0, .int .i64 r.b3.p1, .int .i64 r.b3.p2, .int .i64 r.b3.p3]
def Lvl.Row4.val (r : Row4) : Value := .agg r.vals
def Lvl.Row4.box (r : Row4) : Obj := .cells r.vals 56

theorem Lvl.Row4.at0 {r : Row4} {b : Nat} {w : World} (h : w.heap[b]? = some r.box) : LAt w b 0 r.b0 := by
  refine ⟨?_, ?_, ?_, ?_, ?_⟩ <;> (simp [World.cell?, h, Row4.box, Row4.vals])
theorem Lvl.Row4.at1 {r : Row4} {b : Nat} {w : World} (h : w.heap[b]? = some r.box) : LAt w b 5 r.b1 := by
  refine ⟨?_, ?_, ?_, ?_, ?_⟩ <;> (simp [World.cell?, h, Row4.box, Row4.vals])
theorem Lvl.Row4.at2 {r : Row4} {b : Nat} {w : World} (h : w.heap[b]? = some r.box) : LAt w b 10 r.b2 := by
  refine ⟨?_, ?_, ?_, ?_, ?_⟩ <;> (simp [World.cell?, h, Row4.box, Row4.vals])
theorem Lvl.Row4.at3 {r : Row4} {b : Nat} {w : World} (h : w.heap[b]? = some r.box) : LAt w b 15 r.b3 := by
  refine ⟨?_, ?_, ?_, ?_, ?_⟩ <;> (simp [World.cell?, h, Row4.box, Row4.vals])
theorem Lvl.Row4.row {r : Row4} {b : Nat} {w : World} (h : w.heap[b]? = some r.box) : LRow w (some ⟨b, 0, none⟩) r.list := by
  refine ⟨fun k hk => ?_⟩
  have hk4 : k < 4 := hk
  have h4 : k = 0 ∨ k = 1 ∨ k = 2 ∨ k = 3 := by omega
  rcases h4 with rfl | rfl | rfl | rfl
  · exact ⟨b, 0, rfl, Row4.at0 h⟩
  · exact ⟨b, 0, rfl, Row4.at1 h⟩
  · exact ⟨b, 0, rfl, Row4.at2 h⟩
  · exact ⟨b, 0, rfl, Row4.at3 h⟩

/-- Levels as parameters, handed in as an array. -/
theorem inst_row_at (l : Lv) (r : Row4) (b : Nat) (A : Lv) (q : Int) (h : inst l r.list = (A, q)) (w : World) (hr : w.heap[b]? = some r.box) :
    Calls Try.prog 34 #[l.val, .slice (some ⟨b, 0, none⟩) 4 4] w fun e w' => e = .returned (.tuple #[A.val, .int .i64 q]) ∧ Below w.heap.size w w' :=
  inst_at l (some ⟨b, 0, none⟩) 4 r.list A q h w (Row4.row hr) (by simp [Row4.list])

set_option maxRecDepth 100000 in
/-- A row of integers as a value. -/
theorem Lvl.okWide_ints {W : World} {base : Nat} {v : Value} {t : TypeId} {n : Nat} (hu : (∃ fs, Try.prog.underlying t = some (.struct fs)) ∨ (∃ m e, Try.prog.underlying t = some (.array m e)))
    (hts : Try.prog.cellTypes Try.prog.depth t = some (List.replicate n 3)) (hsz : Try.prog.cellsOf t = n) (h : Value.okWide Try.prog W .any base t v) :
    ∃ zs : List Int, zs.length = n ∧ v = .agg (zs.map (Value.int .i64)).toArray := by
  have h' : ∃ cs, v = .agg cs ∧ cs.size = Try.prog.cellsOf t ∧ Row.okWide Try.prog W .any base t cs := by
    rcases hu with ⟨fs, hu⟩ | ⟨m, e, hu⟩ <;> (simp only [Value.okWide, hu] at h; exact h)
  obtain ⟨cs, rfl, hs, ts, ht, _, hc⟩ := h'
  rw [hts] at ht
  cases ht
  rw [hsz] at hs
  have key : ∀ x ∈ cs.toList, ∃ z, x = .int .i64 z := fun x hx => by
    obtain ⟨i, hi, rfl⟩ := List.getElem_of_mem hx
    have hi' : i < cs.size := by simpa using hi
    obtain ⟨u, hu, hw⟩ := hc i cs[i] (Array.getElem?_eq_getElem hi')
    rw [List.length_replicate, Nat.mod_eq_of_lt (by omega)] at hu
    obtain ⟨_, hu⟩ := List.getElem?_eq_some_iff.1 hu
    rw [List.getElem_replicate] at hu
    subst hu
    exact cell_int hw
  obtain ⟨zs, hz⟩ : ∃ zs : List Int, cs.toList = zs.map (Value.int .i64) := by
    generalize cs.toList = l at key
    induction l with
    | nil => exact ⟨[], rfl⟩
    | cons x r ih =>
      obtain ⟨z, rfl⟩ := key x (by simp)
      obtain ⟨zs, rfl⟩ := ih (fun y hy => key y (List.mem_cons_of_mem _ hy))
      exact ⟨z :: zs, rfl⟩
  refine ⟨zs, ?_, ?_⟩
  · have := congrArg List.length hz; simp at this; omega
  · rw [← hz]

set_option maxRecDepth 100000 in
theorem Lvl.okWide_four {W : World} {base : Nat} {v : Value} (h : Value.okWide Try.prog W .any base 42 v) : ∃ n : Four, v = n.val := by
  obtain ⟨zs, hl, rfl⟩ := okWide_ints (n := 4) (.inr ⟨_, _, Try.underlying42⟩) (by kernel_rfl) (by kernel_rfl) h
  match zs, hl with
  | [z0, z1, z2, z3], _ => exact ⟨⟨z0, z1, z2, z3⟩, rfl⟩
set_option maxRecDepth 100000 in
theorem Lvl.okWide_row4 {W : World} {base : Nat} {v : Value} (h : Value.okWide Try.prog W .any base 56 v) : ∃ r : Row4, v = r.val := by
  obtain ⟨zs, hl, rfl⟩ := okWide_ints (n := 20) (.inr ⟨_, _, Try.underlying56⟩) (by kernel_rfl) (by kernel_rfl) h
  match zs, hl with
  | [a0, a1, a2, a3, a4, b0, b1, b2, b3, b4, c0, c1, c2, c3, c4, d0, d1, d2, d3, d4], _ => exact ⟨⟨⟨a0, a1, a2, a3, a4⟩, ⟨b0, b1, b2, b3, b4⟩, ⟨c0, c1, c2, c3, c4⟩, ⟨d0, d1, d2, d3, d4⟩⟩, rfl⟩
end Go.Proofs.Ytfechgahafbphaa
