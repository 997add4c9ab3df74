/-
  battenlaw03.S: where its level lies; V; infos in a row of two.
-/
import Derived.Test.YtkbamiheclakmaaGreatQB13
import Derived.Test.YtkbamiheclakmaaGreatQEnvStaysM
namespace Go.Proofs.YtkbamiheclakmaaGreat
open Go.RowKit Go.Shelf Go.Maps Lvl Trm Env

def Env.MadeX (w : World) (e : Ending) (w' : World) : Prop := ∃ g, e = .returned (tS.val ⟨some ⟨g, 0, none⟩, 1, none, 0⟩) ∧ w'.heap[g]? = some (.cells #[.int .i64 0, .int .i64 (-1), .int .i64 (-1), .int .i64 (-1), .int .i64 (-1)] 61) ∧ w.heap.size ≤ g ∧ Below w.heap.size w w'
set_option maxRecDepth 100000 in
set_option maxHeartbeats 1000000 in
theorem SX_any (w : World) : Calls Tryz.prog 21 #[] w (MadeX w) := by
  go_enter Tryz.func21, Tryz.ntmps21
  go_wp2_with fail
  refine (RefZero_any _).mono ?_
  rintro e w1 ⟨rfl, b1⟩
  have hk := Lvl.keep b1 (World.alloc_heap_new w _)
  have hz := b1.size
  simp only [World.size_alloc] at hz
  have HB := Lib.hid ((below_one w _).trans (b1.mono (B' := w.heap.size) (by simp)))
  clear b1
  have hlt : w.heap.size < w1.heap.size := by omega
  obtain ⟨c0, c1, c2, c3, c4⟩ := five_cells hk
  obtain ⟨f0, f1, f2, f3, f4⟩ := five_free hk
  have HK := Lib.hid hk
  clear hk
  dsimp only [Lv.val, number]
  go_wp2_with fail
  have h5 := putT_self HK.out (.int .u8 1) (.int .i64 0) (.string no) (.slice (some ⟨w1.heap.size, 0, none⟩) 1 1) (.slice none 0 0)
  have b5 := putT_below HB.out (B := w.heap.size) (Nat.le_refl _) (.int .u8 1) (.int .i64 0) (.string no) (.slice (some ⟨w1.heap.size, 0, none⟩) 1 1) (.slice none 0 0)
  have z5 := putT_size w1 w.heap.size (.int .u8 1) (.int .i64 0) (.string no) (.slice (some ⟨w1.heap.size, 0, none⟩) 1 1) (.slice none 0 0)
  unfold putT no at h5 b5 z5
  generalize hW : ((((w1.setCell ⟨w.heap.size, 0, none⟩ (.int .u8 1)).setCell ⟨w.heap.size, 1, none⟩ (.int .i64 0)).setCell ⟨w.heap.size, 2, none⟩ (.string ⟨#[]⟩)).setCell ⟨w.heap.size, 3, none⟩ (.slice (some ⟨w1.heap.size, 0, none⟩) 1 1)).setCell ⟨w.heap.size, 4, none⟩ (.slice none 0 0) = W4 at h5 b5 z5 ⊢
  have l5 := World.alloc_heap_new W4 (.cells #[.int .i64 0, .int .i64 (-1), .int .i64 (-1), .int .i64 (-1), .int .i64 (-1)] 61)
  rw [z5] at l5
  obtain ⟨e0, e1, e2, e3, e4⟩ := five_cells (keepA h5 (.cells #[.int .i64 0, .int .i64 (-1), .int .i64 (-1), .int .i64 (-1), .int .i64 (-1)] 61))
  clear hW
  exact bodyPost_ret (v := tS.val ⟨some ⟨w1.heap.size, 0, none⟩, 1, none, 0⟩) (by simp [results, Tryz.results21, go_sem, e0, e1, e2, e3, e4, tS, Tm.val, Tm.vals, Tm.k, Tm.n, Tm.s, Tm.ls, Tm.ts, no]) rfl ⟨w1.heap.size, rfl, l5, by omega, b5.alloc b5.size _⟩

set_option maxRecDepth 100000 in
theorem VE_any (w : World) : Calls Tryz.prog 33 #[.int .i64 0] w (fun e w' => e = .returned ((tV 0).val zHd) ∧ Below w.heap.size w w') := by
  go_enter Tryz.func33, Tryz.ntmps33
  go_wp2_with fail
  exact bodyPost_ret (v := (tV 0).val zHd) (by simp [results, Tryz.results33, go_sem, tV, Tm.val, Tm.vals, Tm.k, Tm.n, Tm.s, Tm.ls, Tm.ts, no, zHd]) rfl ⟨rfl, below_one _ _⟩

namespace Env
/-- A row of two infos, in a block of its own. -/
theorem two_row {P : Nat → Prop} {W : World} {x y : Inf} {h g : IHd} (f : FirmI P W x h) (k : FirmI P W y g) (hP : ∀ q, P q → q < W.heap.size) (ty : TypeId) : InfFirm P (W.alloc (.cells ((x.vals h) ++ (y.vals g)).toArray ty)) (some ⟨W.heap.size, 0, none⟩) [x, y] := ⟨fun i hi => by
  have hn := World.alloc_heap_new W (.cells ((x.vals h) ++ (y.vals g)).toArray ty)
  have hcell : ∀ j, (W.alloc (.cells ((x.vals h) ++ (y.vals g)).toArray ty)).cell? ⟨W.heap.size, j, none⟩ = ((x.vals h) ++ (y.vals g))[j]? := fun j => by
    unfold World.cell?
    show (match (W.alloc (.cells ((x.vals h) ++ (y.vals g)).toArray ty)).heap[W.heap.size]? with | some (.cells c _ _) => c[j]? | _ => none) = _
    rw [hn]
    simp
  have hlt : W.heap.size < (W.alloc (.cells ((x.vals h) ++ (y.vals g)).toArray ty)).heap.size := by rw [World.size_alloc]; omega
  have hi2 : i = 0 ∨ i = 1 := by simp at hi; omega
  rcases hi2 with rfl | rfl
  · refine ⟨W.heap.size, 0, h, rfl, hlt, fun a => by have := hP _ a; omega, fun j v hv => ?_, f.step (RanS.of_below (below_one _ _))⟩
    have hv2 : (x.vals h)[j]? = some v := hv
    rw [show 0 + 0 * 25 + j = j by omega, hcell, List.getElem?_append_left (List.getElem?_eq_some_iff.1 hv2).1]
    exact hv2
  · refine ⟨W.heap.size, 0, g, rfl, hlt, fun a => by have := hP _ a; omega, fun j v hv => ?_, k.step (RanS.of_below (below_one _ _))⟩
    have hv2 : (y.vals g)[j]? = some v := hv
    rw [hcell, List.getElem?_append_right (by rw [Inf.len]; omega), Inf.len, show 0 + 1 * 25 + j - 25 = j by omega]
    exact hv2⟩
theorem WS.addTwo {w W : World} {P : Nat → Prop} {e : Nat} {L : List Ent} {mo : Option Nat} {v : Value} {x z : Inf} {hx hz : IHd} (h : WS w W P e L mo v) (f : FirmI P W x hx) (k : FirmI P W z hz) (hr : x.rules.length ≤ 1000) (hr2 : z.rules.length ≤ 1000) :
    Calls Tryz.prog 19 #[.pointer (some ⟨e, 0, none⟩), .slice (some ⟨W.heap.size, 0, none⟩) 2 2] (W.alloc (.cells ((x.vals hx) ++ (z.vals hz)).toArray 46)) fun y W' =>
      y = .returned (.int .i64 (addA L [x, z])) ∧ ∃ M mo' v' P', AddTo L [x, z] M ∧ WS w W' P' e M mo' v' ∧ Step P P' W W' := by
  have hb : Below W.heap.size W (W.alloc (.cells ((x.vals hx) ++ (z.vals hz)).toArray 46)) := below_one _ _
  have h2 := h.below hb
  refine (addP_any h2.env [x, z] (some ⟨W.heap.size, 0, none⟩) 2 (two_row f k h.env.lt _) (by simp) (fun y hy => by simp at hy; rcases hy with rfl | rfl; exact hr; exact hr2)).mono ?_
  intro y W' a
  obtain ⟨hy, M, mo', v', P', h3, h4, h5⟩ := h2.add a
  exact ⟨hy, M, mo', v', P', h3, h4, (Step.of_below hb).trans h5⟩
theorem FdPost.two {P : Nat → Prop} {L : List Ent} {k : List UInt8} {w w' : World} {y : Ending} (a : FdPost P L k w y w') : ∃ (z : Inf) (hz : IHd) (b : Bool), y = .returned (.tuple #[.agg (z.vals hz).toArray, .bool b]) ∧ Below w.heap.size w w' ∧ (b = true ↔ (lookE L k).isSome = true) ∧ FirmI P w' z hz := by
  obtain ⟨b, ⟨h0, h1⟩ | ⟨q, hd, h0, h2, h3⟩⟩ := a
  · exact ⟨zI, zIHd, false, h1, b, by rw [h0]; simp, zI_firm⟩
  · exact ⟨_, hd, true, h2, b, by rw [h0]; simp, h3⟩
end Env
end Go.Proofs.YtkbamiheclakmaaGreat


