/-
  battenlaw02.apart: are there numbers at which one level is above the other one?
-/
import Derived.Test.YtbkmnlebnjoklaaLevArr
import Derived.BigQuiet
import Derived.Deep.QuietTactic
import Derived.Deep.RegionHeld3
namespace Go.Proofs.Ytbkmnlebnjoklaa
open Go.RowKit Go.Shelf Lvl

/-- The blocks hold these objects, and what lay when the call began lies as it lay. -/
def Lvl.Kept (w : World) (l : List (Nat × Obj)) (W : World) : Prop := Boxes l W ∧ Below w.heap.size w W
theorem Lvl.num_ev {l : Lv} {n : Four} (hl : l.ok) (hn : n.fits = true) : l.num n = ev l n := by
  rw [Lv.num, if_pos ((may_iff l).2 hl), if_pos hn, num_eq]
/-- The five places that apart looks at. -/
def Lvl.spot : Nat → Four
  | 0 => ⟨0, 0, 0, 0⟩
  | 1 => ⟨2199023255552, 0, 0, 0⟩
  | 2 => ⟨0, 2199023255552, 0, 0⟩
  | 3 => ⟨0, 0, 2199023255552, 0⟩
  | _ => ⟨0, 0, 0, 2199023255552⟩
def Lvl.above (a b : Lv) (n : Four) : Bool := decide (ev b n < ev a n)
/-- What apart has found behind k rounds. -/
def Lvl.found (a b : Lv) : Nat → Bool
  | 0 => above a b (spot 0)
  | k + 1 => found a b k || above a b (spot (k + 1))
theorem Lvl.apart_yes {a b : Lv} (ha : a.ok) (hb : b.ok) (h : leq a b = false) : found a b 4 = true := by
  have hn : ¬ Leq a b := fun k => by have := (leq_iff ha hb).2 k; rw [this] at h; cases h
  cases hf : found a b 4
  · exfalso
    apply hn
    simp only [found, Bool.or_eq_false_iff, above, decide_eq_false_iff_not, spot] at hf
    exact ev_leq ha hb (by omega) (by simp only [great]; omega) (by simp only [great]; omega) (by simp only [great]; omega) (by simp only [great]; omega)
  · rfl
theorem Lvl.spot_fits (k : Nat) : (spot k).fits = true := by
  match k with
  | 0 => rfl
  | 1 => rfl
  | 2 => rfl
  | 3 => rfl
  | k + 4 => rfl
theorem Lvl.Four.free {l : Four} {b : Nat} {w : World} (h : w.heap[b]? = some l.box) (i : Nat) : w.frozen? ⟨b, i, none⟩ = false := by
  simp [World.frozen?, h, Four.box]
theorem at_ev (l : Lv) (n : Four) (w : World) (hl : l.ok) (hn : n.fits = true) (x : Int) (h : ev l n = x) :
    Calls Try.prog 20 #[l.val, n.val] w fun e w' => e = .returned (.int .i64 x) ∧ Below w.heap.size w w' :=
  num_at l n x (by rw [num_ev hl hn, h]) w
theorem Lvl.box_a (w : World) (a b n : Obj) : Boxes [(w.heap.size, a), (w.heap.size + 1, b), (w.heap.size + 1 + 1, n)] (((w.alloc a).alloc b).alloc n) := ⟨new1of3 w a b n, new2of3 w a b n, new3 w a b n, trivial⟩
theorem Lvl.four_set0 {l : Four} {W : World} {B : Nat} (h : W.heap[B]? = some l.box) (n : Int) : (W.setCell ⟨B, 0, none⟩ (.int .i64 n)).heap[B]? = some ({ l with a0 := n } : Four).box := by
  simp [World.setCell, Array.getElem?_modify, h, Four.box]
theorem Lvl.four_set1 {l : Four} {W : World} {B : Nat} (h : W.heap[B]? = some l.box) (n : Int) : (W.setCell ⟨B, 1, none⟩ (.int .i64 n)).heap[B]? = some ({ l with a1 := n } : Four).box := by
  simp [World.setCell, Array.getElem?_modify, h, Four.box]
theorem Lvl.four_set2 {l : Four} {W : World} {B : Nat} (h : W.heap[B]? = some l.box) (n : Int) : (W.setCell ⟨B, 2, none⟩ (.int .i64 n)).heap[B]? = some ({ l with a2 := n } : Four).box := by
  simp [World.setCell, Array.getElem?_modify, h, Four.box]
theorem Lvl.four_set3 {l : Four} {W : World} {B : Nat} (h : W.heap[B]? = some l.box) (n : Int) : (W.setCell ⟨B, 3, none⟩ (.int .i64 n)).heap[B]? = some ({ l with a3 := n } : Four).box := by
  simp [World.setCell, Array.getElem?_modify, h, Four.box]

def Lvl.ApRel (w : World) (a b : Lv) (s i : Value) (wr : World) : Prop :=
  ∃ k : Nat, k ≤ 4 ∧ i = .int .i64 k ∧ s = .bool (found a b k) ∧ Kept w [(w.heap.size, a.box), (w.heap.size + 1, b.box), (w.heap.size + 1 + 1, (spot 0).box)] wr

set_option maxRecDepth 100000 in
set_option maxHeartbeats 8000000 in
theorem apart_any (a b : Lv) (w : World) (ha : a.ok) (hb : b.ok) :
    Calls Try.prog 24 #[a.val, b.val] w fun e w' => e = .returned (.bool (found a b 4)) ∧ Below w.heap.size w w' := by
  have Ha := Lib.hid ha
  have Hb := Lib.hid hb
  have X0 := Lib.hid (box_a w a.box b.box (spot 0).box)
  have B0 := Lib.hid (below_three w a.box b.box (spot 0).box)
  clear ha hb
  unfold Lv.val
  go_enter Try.func24, Try.ntmps24
  go_wp2_with fail
  obtain ⟨xa, ea⟩ : ∃ x, ev a (spot 0) = x := ⟨_, rfl⟩
  obtain ⟨xb, eb⟩ : ∃ x, ev b (spot 0) = x := ⟨_, rfl⟩
  have Ea := Lib.hid ea
  have Eb := Lib.hid eb
  clear ea eb
  have Y0 := Lib.hid (Boxes.drew X0.out)
  have C0 := Lib.hid B0.out.drew
  clear X0 B0
  refine wp_region_held_drew (S := (fun w' => (w'.cell? ⟨w.heap.size, 0, none⟩ = some (.int .i64 a.c) ∧ w'.cell? ⟨w.heap.size, 1, none⟩ = some (.int .i64 a.p0) ∧ w'.cell? ⟨w.heap.size, 2, none⟩ = some (.int .i64 a.p1) ∧ w'.cell? ⟨w.heap.size, 3, none⟩ = some (.int .i64 a.p2) ∧ w'.cell? ⟨w.heap.size, 4, none⟩ = some (.int .i64 a.p3)) ∧ (w'.cell? ⟨w.heap.size + 1, 0, none⟩ = some (.int .i64 b.c) ∧ w'.cell? ⟨w.heap.size + 1, 1, none⟩ = some (.int .i64 b.p0) ∧ w'.cell? ⟨w.heap.size + 1, 2, none⟩ = some (.int .i64 b.p1) ∧ w'.cell? ⟨w.heap.size + 1, 3, none⟩ = some (.int .i64 b.p2) ∧ w'.cell? ⟨w.heap.size + 1, 4, none⟩ = some (.int .i64 b.p3)) ∧ (w'.cell? ⟨w.heap.size + 1 + 1, 0, none⟩ = some (.int .i64 0) ∧ w'.cell? ⟨w.heap.size + 1 + 1, 1, none⟩ = some (.int .i64 0) ∧ w'.cell? ⟨w.heap.size + 1 + 1, 2, none⟩ = some (.int .i64 0) ∧ w'.cell? ⟨w.heap.size + 1 + 1, 3, none⟩ = some (.int .i64 0)))) (by kernel_rfl) (⟨Lv.cells Y0.out.1, Lv.cells Y0.out.2.1, Four.cells Y0.out.2.2.1⟩) (fun hHeld => ?_)
  refine wpAnyH_take (i := 0) (v := ?vz0) rfl (by kernel_rfl) (by kernel_rfl) (by kernel_rfl) (fun _ _ _ h => h) (Or.inl ⟨by rfl, ?hyz0⟩) (by assumption) ?restz0
  case hyz0 => (intro w hSw; (try dsimp only at hSw); go_simp <;> with_reducible rfl)
  try simp only [List.getElem_toArray, List.getElem_cons_zero, Act.put, List.setIfInBounds_toArray, List.set_cons_zero, List.set_cons_succ]
  refine wpAnyH_take (i := 1) (v := ?vz1) rfl (by kernel_rfl) (by kernel_rfl) (by kernel_rfl) (fun _ _ _ h => h) (Or.inl ⟨by rfl, ?hyz1⟩) (by assumption) ?restz1
  case hyz1 => (intro w hSw; (try dsimp only at hSw); go_simp <;> with_reducible rfl)
  try simp only [List.getElem_toArray, List.getElem_cons_succ, List.getElem_cons_zero, Act.put, List.setIfInBounds_toArray, List.set_cons_zero, List.set_cons_succ]
  refine wpAnyH_take (i := 3) (v := ?vz3) rfl (by kernel_rfl) (by kernel_rfl) (by kernel_rfl) (fun _ _ _ h => h) (Or.inl ⟨by rfl, ?hyz3⟩) (by assumption) ?restz3
  case hyz3 => (intro w hSw; (try dsimp only at hSw); go_simp <;> with_reducible rfl)
  try simp only [List.getElem_toArray, List.getElem_cons_succ, List.getElem_cons_zero, Act.put, List.setIfInBounds_toArray, List.set_cons_zero, List.set_cons_succ]
  refine wpAnyH_take (i := 4) (v := ?vz4) rfl (by kernel_rfl) (by kernel_rfl) (by kernel_rfl) (fun _ _ _ h => h) (Or.inl ⟨by rfl, ?hyz4⟩) (by assumption) ?restz4
  case hyz4 => (intro w hSw; (try dsimp only at hSw); go_simp <;> with_reducible rfl)
  try simp only [List.getElem_toArray, List.getElem_cons_succ, List.getElem_cons_zero, Act.put, List.setIfInBounds_toArray, List.set_cons_zero, List.set_cons_succ]
  refine wpAnyH_ready (rs := [2]) (by kernel_rfl) (by simp) ?_
  refine AllReadyH.cons rfl (fun K hK => ?_) AllReadyH.nil
  go_simp
  refine (at_ev a (spot 0) _ Ha.out (spot_fits 0) _ Ea.out).mono ?_
  rintro e v1 ⟨rfl, b⟩
  have Y1 := Lib.hid (Boxes.keep b Y0.out)
  have C1 := Lib.hid (thru C0.out b)
  clear b Y0 C0
  refine hK.out _ _ (⟨Lv.cells Y1.out.1, Lv.cells Y1.out.2.1, Four.cells Y1.out.2.2.1⟩) (fun hHeld => ?_)
  clear hK K
  try simp only [List.getElem_toArray, List.getElem_cons_succ, List.getElem_cons_zero, Act.put, List.setIfInBounds_toArray, List.set_cons_zero, List.set_cons_succ]
  refine wpAnyH_ready (rs := [5]) (by kernel_rfl) (by simp) ?_
  refine AllReadyH.cons rfl (fun K hK => ?_) AllReadyH.nil
  go_simp
  refine (at_ev b (spot 0) _ Hb.out (spot_fits 0) _ Eb.out).mono ?_
  rintro e v2 ⟨rfl, b⟩
  have Y2 := Lib.hid (Boxes.keep b Y1.out)
  have C2 := Lib.hid (thru C1.out b)
  clear b Y1 C1
  refine hK.out _ _ (⟨Lv.cells Y2.out.1, Lv.cells Y2.out.2.1, Four.cells Y2.out.2.2.1⟩) (fun hHeld => ?_)
  clear hK K
  try simp only [List.getElem_toArray, List.getElem_cons_succ, List.getElem_cons_zero, Act.put, List.setIfInBounds_toArray, List.set_cons_zero, List.set_cons_succ]
  refine wpAnyH_take (i := 6) (v := ?vz6) rfl (by kernel_rfl) (by kernel_rfl) (by kernel_rfl) (fun _ _ _ h => h) (Or.inl ⟨by rfl, ?hyz6⟩) (by assumption) ?restz6
  case hyz6 => (intro w hSw; (try dsimp only at hSw); go_simp <;> with_reducible rfl)
  try simp only [List.getElem_toArray, List.getElem_cons_succ, List.getElem_cons_zero, Act.put, List.setIfInBounds_toArray, List.set_cons_zero, List.set_cons_succ]
  refine wpAnyH_take (i := 7) (v := ?vz7) rfl (by kernel_rfl) (by kernel_rfl) (by kernel_rfl) (fun _ _ _ h => h) (Or.inl ⟨by rfl, ?hyz7⟩) (by assumption) ?restz7
  case hyz7 => (intro w hSw; (try dsimp only at hSw); go_simp <;> with_reducible rfl)
  try simp only [List.getElem_toArray, List.getElem_cons_succ, List.getElem_cons_zero, Act.put, List.setIfInBounds_toArray, List.set_cons_zero, List.set_cons_succ]
  refine wpAnyH_done (by kernel_rfl) ?_ _
  go_wp2_with fail
  go_loopw [6, 7] (fun s i wr => ApRel w a b s i wr) (fun _ i _ => 4 - (intOf i).toNat)
  case atStart => exact ⟨0, by omega, rfl, by rw [found, above, Ea.out, Eb.out], Y2.out, C2.out⟩
  case round =>
    obtain ⟨k, hk, rfl, rfl, hX, hB⟩ := hrel
    clear Y2 C2 Ea Eb
    have X := Lib.hid hX
    have B := Lib.hid hB
    clear hX hB
    have hk5 : k = 0 ∨ k = 1 ∨ k = 2 ∨ k = 3 ∨ k = 4 := by omega
    rcases hk5 with rfl | rfl | rfl | rfl | rfl
    · obtain ⟨f, hf⟩ : ∃ f, found a b 0 = f := ⟨_, rfl⟩
      rw [hf]
      have HF := Lib.hid hf
      clear hf
      obtain ⟨n0, n1, n2, n3⟩ := Four.cells X.out.2.2.1
      have g := Four.free X.out.2.2.1 0
      obtain ⟨xa, ea⟩ : ∃ x, ev a (spot 1) = x := ⟨_, rfl⟩
      obtain ⟨xb, eb⟩ : ∃ x, ev b (spot 1) = x := ⟨_, rfl⟩
      have Ea := Lib.hid ea
      have Eb := Lib.hid eb
      clear ea eb
      have Z0 : Hid (Boxes [(w.heap.size, a.box), (w.heap.size + 1, b.box), (w.heap.size + 1 + 1, (spot 1).box)] (wr.setCell ⟨w.heap.size + 1 + 1, 0, none⟩ (.int .i64 2199023255552))) := Lib.hid ⟨cells_other X.out.1 _ (by omega), cells_other X.out.2.1 _ (by omega), four_set0 X.out.2.2.1 _, trivial⟩
      have D0 := Lib.hid (B.out.setCell (p := ⟨w.heap.size + 1 + 1, 0, none⟩) (show w.heap.size ≤ w.heap.size + 1 + 1 by omega) (.int .i64 2199023255552))
      go_wp2_with fail
      generalize (wr.setCell ⟨w.heap.size + 1 + 1, 0, none⟩ (.int .i64 2199023255552)) = W1 at Z0 D0 ⊢
      clear n0 n1 n2 n3 g X B
      have Y0 := Lib.hid (Boxes.drew Z0.out)
      have C0 := Lib.hid D0.out.drew
      clear Z0 D0
      cases f
      ·
        refine wp_region_held_drew (S := (fun w' => (w'.cell? ⟨w.heap.size, 0, none⟩ = some (.int .i64 a.c) ∧ w'.cell? ⟨w.heap.size, 1, none⟩ = some (.int .i64 a.p0) ∧ w'.cell? ⟨w.heap.size, 2, none⟩ = some (.int .i64 a.p1) ∧ w'.cell? ⟨w.heap.size, 3, none⟩ = some (.int .i64 a.p2) ∧ w'.cell? ⟨w.heap.size, 4, none⟩ = some (.int .i64 a.p3)) ∧ (w'.cell? ⟨w.heap.size + 1, 0, none⟩ = some (.int .i64 b.c) ∧ w'.cell? ⟨w.heap.size + 1, 1, none⟩ = some (.int .i64 b.p0) ∧ w'.cell? ⟨w.heap.size + 1, 2, none⟩ = some (.int .i64 b.p1) ∧ w'.cell? ⟨w.heap.size + 1, 3, none⟩ = some (.int .i64 b.p2) ∧ w'.cell? ⟨w.heap.size + 1, 4, none⟩ = some (.int .i64 b.p3)) ∧ (w'.cell? ⟨w.heap.size + 1 + 1, 0, none⟩ = some (.int .i64 2199023255552) ∧ w'.cell? ⟨w.heap.size + 1 + 1, 1, none⟩ = some (.int .i64 0) ∧ w'.cell? ⟨w.heap.size + 1 + 1, 2, none⟩ = some (.int .i64 0) ∧ w'.cell? ⟨w.heap.size + 1 + 1, 3, none⟩ = some (.int .i64 0)))) (by kernel_rfl) (⟨Lv.cells Y0.out.1, Lv.cells Y0.out.2.1, Four.cells Y0.out.2.2.1⟩) (fun hHeld => ?_)
        refine wpAnyH_take (i := 0) (v := ?vl0f0) rfl (by kernel_rfl) (by kernel_rfl) (by kernel_rfl) (fun _ _ _ h => h) (Or.inl ⟨by rfl, ?hyl0f0⟩) (by assumption) ?restl0f0
        case hyl0f0 => (intro w hSw; (try dsimp only at hSw); go_simp <;> with_reducible rfl)
        try simp only [List.getElem_toArray, List.getElem_cons_zero, Act.put, List.setIfInBounds_toArray, List.set_cons_zero, List.set_cons_succ]
        refine wpAnyH_take (i := 1) (v := ?vl0f1) rfl (by kernel_rfl) (by kernel_rfl) (by kernel_rfl) (fun _ _ _ h => h) (Or.inl ⟨by rfl, ?hyl0f1⟩) (by assumption) ?restl0f1
        case hyl0f1 => (intro w hSw; (try dsimp only at hSw); go_simp <;> with_reducible rfl)
        try simp only [List.getElem_toArray, List.getElem_cons_succ, List.getElem_cons_zero, Act.put, List.setIfInBounds_toArray, List.set_cons_zero, List.set_cons_succ]
        refine wpAnyH_take (i := 2) (v := ?vl0f2) rfl (by kernel_rfl) (by kernel_rfl) (by kernel_rfl) (fun _ _ _ h => h) (Or.inl ⟨by rfl, ?hyl0f2⟩) (by assumption) ?restl0f2
        case hyl0f2 => (intro w hSw; (try dsimp only at hSw); go_simp <;> with_reducible rfl)
        try simp only [List.getElem_toArray, List.getElem_cons_succ, List.getElem_cons_zero, Act.put, List.setIfInBounds_toArray, List.set_cons_zero, List.set_cons_succ]
        refine wpAnyH_take (i := 3) (v := ?vl0f3) rfl (by kernel_rfl) (by kernel_rfl) (by kernel_rfl) (fun _ _ _ h => h) (Or.inl ⟨by rfl, ?hyl0f3⟩) (by assumption) ?restl0f3
        case hyl0f3 => (intro w hSw; (try dsimp only at hSw); go_simp <;> with_reducible rfl)
        try simp only [List.getElem_toArray, List.getElem_cons_succ, List.getElem_cons_zero, Act.put, List.setIfInBounds_toArray, List.set_cons_zero, List.set_cons_succ]
        refine wpAnyH_take (i := 5) (v := ?vl0f5) rfl (by kernel_rfl) (by kernel_rfl) (by kernel_rfl) (fun _ _ _ h => h) (Or.inl ⟨by rfl, ?hyl0f5⟩) (by assumption) ?restl0f5
        case hyl0f5 => (intro w hSw; (try dsimp only at hSw); go_simp <;> with_reducible rfl)
        try simp only [List.getElem_toArray, List.getElem_cons_succ, List.getElem_cons_zero, Act.put, List.setIfInBounds_toArray, List.set_cons_zero, List.set_cons_succ]
        refine wpAnyH_take (i := 6) (v := ?vl0f6) rfl (by kernel_rfl) (by kernel_rfl) (by kernel_rfl) (fun _ _ _ h => h) (Or.inl ⟨by rfl, ?hyl0f6⟩) (by assumption) ?restl0f6
        case hyl0f6 => (intro w hSw; (try dsimp only at hSw); go_simp <;> with_reducible rfl)
        try simp only [List.getElem_toArray, List.getElem_cons_succ, List.getElem_cons_zero, Act.put, List.setIfInBounds_toArray, List.set_cons_zero, List.set_cons_succ]
        refine wpAnyH_ready (rs := [4]) (by kernel_rfl) (by simp) ?_
        refine AllReadyH.cons rfl (fun K hK => ?_) AllReadyH.nil
        go_simp
        refine (at_ev a (spot 1) _ Ha.out (spot_fits 1) _ Ea.out).mono ?_
        rintro e v1 ⟨rfl, b⟩
        have Y1 := Lib.hid (Boxes.keep b Y0.out)
        have C1 := Lib.hid (thru C0.out b)
        clear b Y0 C0
        refine hK.out _ _ (⟨Lv.cells Y1.out.1, Lv.cells Y1.out.2.1, Four.cells Y1.out.2.2.1⟩) (fun hHeld => ?_)
        clear hK K
        try simp only [List.getElem_toArray, List.getElem_cons_succ, List.getElem_cons_zero, Act.put, List.setIfInBounds_toArray, List.set_cons_zero, List.set_cons_succ]
        refine wpAnyH_ready (rs := [7]) (by kernel_rfl) (by simp) ?_
        refine AllReadyH.cons rfl (fun K hK => ?_) AllReadyH.nil
        go_simp
        refine (at_ev b (spot 1) _ Hb.out (spot_fits 1) _ Eb.out).mono ?_
        rintro e v2 ⟨rfl, b⟩
        have Y2 := Lib.hid (Boxes.keep b Y1.out)
        have C2 := Lib.hid (thru C1.out b)
        clear b Y1 C1
        refine hK.out _ _ (⟨Lv.cells Y2.out.1, Lv.cells Y2.out.2.1, Four.cells Y2.out.2.2.1⟩) (fun hHeld => ?_)
        clear hK K
        try simp only [List.getElem_toArray, List.getElem_cons_succ, List.getElem_cons_zero, Act.put, List.setIfInBounds_toArray, List.set_cons_zero, List.set_cons_succ]
        refine wpAnyH_take (i := 8) (v := ?vl0f8) rfl (by kernel_rfl) (by kernel_rfl) (by kernel_rfl) (fun _ _ _ h => h) (Or.inl ⟨by rfl, ?hyl0f8⟩) (by assumption) ?restl0f8
        case hyl0f8 => (intro w hSw; (try dsimp only at hSw); go_simp <;> with_reducible rfl)
        try simp only [List.getElem_toArray, List.getElem_cons_succ, List.getElem_cons_zero, Act.put, List.setIfInBounds_toArray, List.set_cons_zero, List.set_cons_succ]
        refine wpAnyH_take (i := 9) (v := ?vl0f9) rfl (by kernel_rfl) (by kernel_rfl) (by kernel_rfl) (fun _ _ _ h => h) (Or.inl ⟨by rfl, ?hyl0f9⟩) (by assumption) ?restl0f9
        case hyl0f9 => (intro w hSw; (try dsimp only at hSw); go_simp <;> with_reducible rfl)
        try simp only [List.getElem_toArray, List.getElem_cons_succ, List.getElem_cons_zero, Act.put, List.setIfInBounds_toArray, List.set_cons_zero, List.set_cons_succ]
        refine wpAnyH_take (i := 10) (v := ?vl0f10) rfl (by kernel_rfl) (by kernel_rfl) (by kernel_rfl) (fun _ _ _ h => h) (Or.inl ⟨by rfl, ?hyl0f10⟩) (by assumption) ?restl0f10
        case hyl0f10 => (intro w hSw; (try dsimp only at hSw); go_simp <;> with_reducible rfl)
        try simp only [List.getElem_toArray, List.getElem_cons_succ, List.getElem_cons_zero, Act.put, List.setIfInBounds_toArray, List.set_cons_zero, List.set_cons_succ]
        refine wpAnyH_done (by kernel_rfl) ?_ _
        obtain ⟨n0, n1, n2, n3⟩ := Four.cells Y2.out.2.2.1
        have g := Four.free Y2.out.2.2.1 0
        go_wp2_with fail
        go_roundw
        case rel => exact ⟨1, by omega, rfl, by rw [found, HF.out, above, Ea.out, Eb.out]; simp, ⟨cells_other Y2.out.1 _ (by omega), cells_other Y2.out.2.1 _ (by omega), four_set0 Y2.out.2.2.1 _, trivial⟩, C2.out.setCell (p := ⟨w.heap.size + 1 + 1, 0, none⟩) (show w.heap.size ≤ w.heap.size + 1 + 1 by omega) _⟩
        case measure => simp [intOf]
      ·
        refine wp_region_held_drew (S := (fun w' => (w'.cell? ⟨w.heap.size, 0, none⟩ = some (.int .i64 a.c) ∧ w'.cell? ⟨w.heap.size, 1, none⟩ = some (.int .i64 a.p0) ∧ w'.cell? ⟨w.heap.size, 2, none⟩ = some (.int .i64 a.p1) ∧ w'.cell? ⟨w.heap.size, 3, none⟩ = some (.int .i64 a.p2) ∧ w'.cell? ⟨w.heap.size, 4, none⟩ = some (.int .i64 a.p3)) ∧ (w'.cell? ⟨w.heap.size + 1, 0, none⟩ = some (.int .i64 b.c) ∧ w'.cell? ⟨w.heap.size + 1, 1, none⟩ = some (.int .i64 b.p0) ∧ w'.cell? ⟨w.heap.size + 1, 2, none⟩ = some (.int .i64 b.p1) ∧ w'.cell? ⟨w.heap.size + 1, 3, none⟩ = some (.int .i64 b.p2) ∧ w'.cell? ⟨w.heap.size + 1, 4, none⟩ = some (.int .i64 b.p3)) ∧ (w'.cell? ⟨w.heap.size + 1 + 1, 0, none⟩ = some (.int .i64 2199023255552) ∧ w'.cell? ⟨w.heap.size + 1 + 1, 1, none⟩ = some (.int .i64 0) ∧ w'.cell? ⟨w.heap.size + 1 + 1, 2, none⟩ = some (.int .i64 0) ∧ w'.cell? ⟨w.heap.size + 1 + 1, 3, none⟩ = some (.int .i64 0)))) (by kernel_rfl) (⟨Lv.cells Y0.out.1, Lv.cells Y0.out.2.1, Four.cells Y0.out.2.2.1⟩) (fun hHeld => ?_)
        refine wpAnyH_take (i := 0) (v := ?vl0t0) rfl (by kernel_rfl) (by kernel_rfl) (by kernel_rfl) (fun _ _ _ h => h) (Or.inl ⟨by rfl, ?hyl0t0⟩) (by assumption) ?restl0t0
        case hyl0t0 => (intro w hSw; (try dsimp only at hSw); go_simp <;> with_reducible rfl)
        try simp only [List.getElem_toArray, List.getElem_cons_zero, Act.put, List.setIfInBounds_toArray, List.set_cons_zero, List.set_cons_succ]
        refine wpAnyH_take (i := 1) (v := ?vl0t1) rfl (by kernel_rfl) (by kernel_rfl) (by kernel_rfl) (fun _ _ _ h => h) (Or.inl ⟨by rfl, ?hyl0t1⟩) (by assumption) ?restl0t1
        case hyl0t1 => (intro w hSw; (try dsimp only at hSw); go_simp <;> with_reducible rfl)
        try simp only [List.getElem_toArray, List.getElem_cons_succ, List.getElem_cons_zero, Act.put, List.setIfInBounds_toArray, List.set_cons_zero, List.set_cons_succ]
        refine wpAnyH_take (i := 2) (v := undef) rfl (by kernel_rfl) (by kernel_rfl) (by kernel_rfl) (fun _ _ _ h => h) (Or.inr ⟨by rfl, rfl⟩) (by assumption) ?_
        try simp only [List.getElem_toArray, List.getElem_cons_succ, List.getElem_cons_zero, Act.put, List.setIfInBounds_toArray, List.set_cons_zero, List.set_cons_succ]
        refine wpAnyH_take (i := 3) (v := undef) rfl (by kernel_rfl) (by kernel_rfl) (by kernel_rfl) (fun _ _ _ h => h) (Or.inr ⟨by rfl, rfl⟩) (by assumption) ?_
        try simp only [List.getElem_toArray, List.getElem_cons_succ, List.getElem_cons_zero, Act.put, List.setIfInBounds_toArray, List.set_cons_zero, List.set_cons_succ]
        refine wpAnyH_take (i := 5) (v := undef) rfl (by kernel_rfl) (by kernel_rfl) (by kernel_rfl) (fun _ _ _ h => h) (Or.inr ⟨by rfl, rfl⟩) (by assumption) ?_
        try simp only [List.getElem_toArray, List.getElem_cons_succ, List.getElem_cons_zero, Act.put, List.setIfInBounds_toArray, List.set_cons_zero, List.set_cons_succ]
        refine wpAnyH_take (i := 6) (v := undef) rfl (by kernel_rfl) (by kernel_rfl) (by kernel_rfl) (fun _ _ _ h => h) (Or.inr ⟨by rfl, rfl⟩) (by assumption) ?_
        try simp only [List.getElem_toArray, List.getElem_cons_succ, List.getElem_cons_zero, Act.put, List.setIfInBounds_toArray, List.set_cons_zero, List.set_cons_succ]
        refine wpAnyH_take (i := 4) (v := undef) rfl (by kernel_rfl) (by kernel_rfl) (by kernel_rfl) (fun _ _ _ h => h) (Or.inr ⟨by rfl, rfl⟩) (by assumption) ?_
        try simp only [List.getElem_toArray, List.getElem_cons_succ, List.getElem_cons_zero, Act.put, List.setIfInBounds_toArray, List.set_cons_zero, List.set_cons_succ]
        refine wpAnyH_take (i := 7) (v := undef) rfl (by kernel_rfl) (by kernel_rfl) (by kernel_rfl) (fun _ _ _ h => h) (Or.inr ⟨by rfl, rfl⟩) (by assumption) ?_
        try simp only [List.getElem_toArray, List.getElem_cons_succ, List.getElem_cons_zero, Act.put, List.setIfInBounds_toArray, List.set_cons_zero, List.set_cons_succ]
        refine wpAnyH_take (i := 8) (v := undef) rfl (by kernel_rfl) (by kernel_rfl) (by kernel_rfl) (fun _ _ _ h => h) (Or.inr ⟨by rfl, rfl⟩) (by assumption) ?_
        try simp only [List.getElem_toArray, List.getElem_cons_succ, List.getElem_cons_zero, Act.put, List.setIfInBounds_toArray, List.set_cons_zero, List.set_cons_succ]
        refine wpAnyH_take (i := 9) (v := ?vl0t9) rfl (by kernel_rfl) (by kernel_rfl) (by kernel_rfl) (fun _ _ _ h => h) (Or.inl ⟨by rfl, ?hyl0t9⟩) (by assumption) ?restl0t9
        case hyl0t9 => (intro w hSw; (try dsimp only at hSw); go_simp <;> with_reducible rfl)
        try simp only [List.getElem_toArray, List.getElem_cons_succ, List.getElem_cons_zero, Act.put, List.setIfInBounds_toArray, List.set_cons_zero, List.set_cons_succ]
        refine wpAnyH_take (i := 10) (v := ?vl0t10) rfl (by kernel_rfl) (by kernel_rfl) (by kernel_rfl) (fun _ _ _ h => h) (Or.inl ⟨by rfl, ?hyl0t10⟩) (by assumption) ?restl0t10
        case hyl0t10 => (intro w hSw; (try dsimp only at hSw); go_simp <;> with_reducible rfl)
        try simp only [List.getElem_toArray, List.getElem_cons_succ, List.getElem_cons_zero, Act.put, List.setIfInBounds_toArray, List.set_cons_zero, List.set_cons_succ]
        refine wpAnyH_done (by kernel_rfl) ?_ _
        obtain ⟨n0, n1, n2, n3⟩ := Four.cells Y0.out.2.2.1
        have g := Four.free Y0.out.2.2.1 0
        go_wp2_with fail
        go_roundw
        case rel => exact ⟨1, by omega, rfl, by rw [found, HF.out, above, Ea.out, Eb.out]; simp, ⟨cells_other Y0.out.1 _ (by omega), cells_other Y0.out.2.1 _ (by omega), four_set0 Y0.out.2.2.1 _, trivial⟩, C0.out.setCell (p := ⟨w.heap.size + 1 + 1, 0, none⟩) (show w.heap.size ≤ w.heap.size + 1 + 1 by omega) _⟩
        case measure => simp [intOf]
    · obtain ⟨f, hf⟩ : ∃ f, found a b 1 = f := ⟨_, rfl⟩
      rw [hf]
      have HF := Lib.hid hf
      clear hf
      obtain ⟨n0, n1, n2, n3⟩ := Four.cells X.out.2.2.1
      have g := Four.free X.out.2.2.1 1
      obtain ⟨xa, ea⟩ : ∃ x, ev a (spot 2) = x := ⟨_, rfl⟩
      obtain ⟨xb, eb⟩ : ∃ x, ev b (spot 2) = x := ⟨_, rfl⟩
      have Ea := Lib.hid ea
      have Eb := Lib.hid eb
      clear ea eb
      have Z0 : Hid (Boxes [(w.heap.size, a.box), (w.heap.size + 1, b.box), (w.heap.size + 1 + 1, (spot 2).box)] (wr.setCell ⟨w.heap.size + 1 + 1, 1, none⟩ (.int .i64 2199023255552))) := Lib.hid ⟨cells_other X.out.1 _ (by omega), cells_other X.out.2.1 _ (by omega), four_set1 X.out.2.2.1 _, trivial⟩
      have D0 := Lib.hid (B.out.setCell (p := ⟨w.heap.size + 1 + 1, 1, none⟩) (show w.heap.size ≤ w.heap.size + 1 + 1 by omega) (.int .i64 2199023255552))
      go_wp2_with fail
      generalize (wr.setCell ⟨w.heap.size + 1 + 1, 1, none⟩ (.int .i64 2199023255552)) = W1 at Z0 D0 ⊢
      clear n0 n1 n2 n3 g X B
      have Y0 := Lib.hid (Boxes.drew Z0.out)
      have C0 := Lib.hid D0.out.drew
      clear Z0 D0
      cases f
      ·
        refine wp_region_held_drew (S := (fun w' => (w'.cell? ⟨w.heap.size, 0, none⟩ = some (.int .i64 a.c) ∧ w'.cell? ⟨w.heap.size, 1, none⟩ = some (.int .i64 a.p0) ∧ w'.cell? ⟨w.heap.size, 2, none⟩ = some (.int .i64 a.p1) ∧ w'.cell? ⟨w.heap.size, 3, none⟩ = some (.int .i64 a.p2) ∧ w'.cell? ⟨w.heap.size, 4, none⟩ = some (.int .i64 a.p3)) ∧ (w'.cell? ⟨w.heap.size + 1, 0, none⟩ = some (.int .i64 b.c) ∧ w'.cell? ⟨w.heap.size + 1, 1, none⟩ = some (.int .i64 b.p0) ∧ w'.cell? ⟨w.heap.size + 1, 2, none⟩ = some (.int .i64 b.p1) ∧ w'.cell? ⟨w.heap.size + 1, 3, none⟩ = some (.int .i64 b.p2) ∧ w'.cell? ⟨w.heap.size + 1, 4, none⟩ = some (.int .i64 b.p3)) ∧ (w'.cell? ⟨w.heap.size + 1 + 1, 0, none⟩ = some (.int .i64 0) ∧ w'.cell? ⟨w.heap.size + 1 + 1, 1, none⟩ = some (.int .i64 2199023255552) ∧ w'.cell? ⟨w.heap.size + 1 + 1, 2, none⟩ = some (.int .i64 0) ∧ w'.cell? ⟨w.heap.size + 1 + 1, 3, none⟩ = some (.int .i64 0)))) (by kernel_rfl) (⟨Lv.cells Y0.out.1, Lv.cells Y0.out.2.1, Four.cells Y0.out.2.2.1⟩) (fun hHeld => ?_)
        refine wpAnyH_take (i := 0) (v := ?vl1f0) rfl (by kernel_rfl) (by kernel_rfl) (by kernel_rfl) (fun _ _ _ h => h) (Or.inl ⟨by rfl, ?hyl1f0⟩) (by assumption) ?restl1f0
        case hyl1f0 => (intro w hSw; (try dsimp only at hSw); go_simp <;> with_reducible rfl)
        try simp only [List.getElem_toArray, List.getElem_cons_zero, Act.put, List.setIfInBounds_toArray, List.set_cons_zero, List.set_cons_succ]
        refine wpAnyH_take (i := 1) (v := ?vl1f1) rfl (by kernel_rfl) (by kernel_rfl) (by kernel_rfl) (fun _ _ _ h => h) (Or.inl ⟨by rfl, ?hyl1f1⟩) (by assumption) ?restl1f1
        case hyl1f1 => (intro w hSw; (try dsimp only at hSw); go_simp <;> with_reducible rfl)
        try simp only [List.getElem_toArray, List.getElem_cons_succ, List.getElem_cons_zero, Act.put, List.setIfInBounds_toArray, List.set_cons_zero, List.set_cons_succ]
        refine wpAnyH_take (i := 2) (v := ?vl1f2) rfl (by kernel_rfl) (by kernel_rfl) (by kernel_rfl) (fun _ _ _ h => h) (Or.inl ⟨by rfl, ?hyl1f2⟩) (by assumption) ?restl1f2
        case hyl1f2 => (intro w hSw; (try dsimp only at hSw); go_simp <;> with_reducible rfl)
        try simp only [List.getElem_toArray, List.getElem_cons_succ, List.getElem_cons_zero, Act.put, List.setIfInBounds_toArray, List.set_cons_zero, List.set_cons_succ]
        refine wpAnyH_take (i := 3) (v := ?vl1f3) rfl (by kernel_rfl) (by kernel_rfl) (by kernel_rfl) (fun _ _ _ h => h) (Or.inl ⟨by rfl, ?hyl1f3⟩) (by assumption) ?restl1f3
        case hyl1f3 => (intro w hSw; (try dsimp only at hSw); go_simp <;> with_reducible rfl)
        try simp only [List.getElem_toArray, List.getElem_cons_succ, List.getElem_cons_zero, Act.put, List.setIfInBounds_toArray, List.set_cons_zero, List.set_cons_succ]
        refine wpAnyH_take (i := 5) (v := ?vl1f5) rfl (by kernel_rfl) (by kernel_rfl) (by kernel_rfl) (fun _ _ _ h => h) (Or.inl ⟨by rfl, ?hyl1f5⟩) (by assumption) ?restl1f5
        case hyl1f5 => (intro w hSw; (try dsimp only at hSw); go_simp <;> with_reducible rfl)
        try simp only [List.getElem_toArray, List.getElem_cons_succ, List.getElem_cons_zero, Act.put, List.setIfInBounds_toArray, List.set_cons_zero, List.set_cons_succ]
        refine wpAnyH_take (i := 6) (v := ?vl1f6) rfl (by kernel_rfl) (by kernel_rfl) (by kernel_rfl) (fun _ _ _ h => h) (Or.inl ⟨by rfl, ?hyl1f6⟩) (by assumption) ?restl1f6
        case hyl1f6 => (intro w hSw; (try dsimp only at hSw); go_simp <;> with_reducible rfl)
        try simp only [List.getElem_toArray, List.getElem_cons_succ, List.getElem_cons_zero, Act.put, List.setIfInBounds_toArray, List.set_cons_zero, List.set_cons_succ]
        refine wpAnyH_ready (rs := [4]) (by kernel_rfl) (by simp) ?_
        refine AllReadyH.cons rfl (fun K hK => ?_) AllReadyH.nil
        go_simp
        refine (at_ev a (spot 2) _ Ha.out (spot_fits 2) _ Ea.out).mono ?_
        rintro e v1 ⟨rfl, b⟩
        have Y1 := Lib.hid (Boxes.keep b Y0.out)
        have C1 := Lib.hid (thru C0.out b)
        clear b Y0 C0
        refine hK.out _ _ (⟨Lv.cells Y1.out.1, Lv.cells Y1.out.2.1, Four.cells Y1.out.2.2.1⟩) (fun hHeld => ?_)
        clear hK K
        try simp only [List.getElem_toArray, List.getElem_cons_succ, List.getElem_cons_zero, Act.put, List.setIfInBounds_toArray, List.set_cons_zero, List.set_cons_succ]
        refine wpAnyH_ready (rs := [7]) (by kernel_rfl) (by simp) ?_
        refine AllReadyH.cons rfl (fun K hK => ?_) AllReadyH.nil
        go_simp
        refine (at_ev b (spot 2) _ Hb.out (spot_fits 2) _ Eb.out).mono ?_
        rintro e v2 ⟨rfl, b⟩
        have Y2 := Lib.hid (Boxes.keep b Y1.out)
        have C2 := Lib.hid (thru C1.out b)
        clear b Y1 C1
        refine hK.out _ _ (⟨Lv.cells Y2.out.1, Lv.cells Y2.out.2.1, Four.cells Y2.out.2.2.1⟩) (fun hHeld => ?_)
        clear hK K
        try simp only [List.getElem_toArray, List.getElem_cons_succ, List.getElem_cons_zero, Act.put, List.setIfInBounds_toArray, List.set_cons_zero, List.set_cons_succ]
        refine wpAnyH_take (i := 8) (v := ?vl1f8) rfl (by kernel_rfl) (by kernel_rfl) (by kernel_rfl) (fun _ _ _ h => h) (Or.inl ⟨by rfl, ?hyl1f8⟩) (by assumption) ?restl1f8
        case hyl1f8 => (intro w hSw; (try dsimp only at hSw); go_simp <;> with_reducible rfl)
        try simp only [List.getElem_toArray, List.getElem_cons_succ, List.getElem_cons_zero, Act.put, List.setIfInBounds_toArray, List.set_cons_zero, List.set_cons_succ]
        refine wpAnyH_take (i := 9) (v := ?vl1f9) rfl (by kernel_rfl) (by kernel_rfl) (by kernel_rfl) (fun _ _ _ h => h) (Or.inl ⟨by rfl, ?hyl1f9⟩) (by assumption) ?restl1f9
        case hyl1f9 => (intro w hSw; (try dsimp only at hSw); go_simp <;> with_reducible rfl)
        try simp only [List.getElem_toArray, List.getElem_cons_succ, List.getElem_cons_zero, Act.put, List.setIfInBounds_toArray, List.set_cons_zero, List.set_cons_succ]
        refine wpAnyH_take (i := 10) (v := ?vl1f10) rfl (by kernel_rfl) (by kernel_rfl) (by kernel_rfl) (fun _ _ _ h => h) (Or.inl ⟨by rfl, ?hyl1f10⟩) (by assumption) ?restl1f10
        case hyl1f10 => (intro w hSw; (try dsimp only at hSw); go_simp <;> with_reducible rfl)
        try simp only [List.getElem_toArray, List.getElem_cons_succ, List.getElem_cons_zero, Act.put, List.setIfInBounds_toArray, List.set_cons_zero, List.set_cons_succ]
        refine wpAnyH_done (by kernel_rfl) ?_ _
        obtain ⟨n0, n1, n2, n3⟩ := Four.cells Y2.out.2.2.1
        have g := Four.free Y2.out.2.2.1 1
        go_wp2_with fail
        go_roundw
        case rel => exact ⟨2, by omega, rfl, by rw [found, HF.out, above, Ea.out, Eb.out]; simp, ⟨cells_other Y2.out.1 _ (by omega), cells_other Y2.out.2.1 _ (by omega), four_set1 Y2.out.2.2.1 _, trivial⟩, C2.out.setCell (p := ⟨w.heap.size + 1 + 1, 1, none⟩) (show w.heap.size ≤ w.heap.size + 1 + 1 by omega) _⟩
        case measure => simp [intOf]
      ·
        refine wp_region_held_drew (S := (fun w' => (w'.cell? ⟨w.heap.size, 0, none⟩ = some (.int .i64 a.c) ∧ w'.cell? ⟨w.heap.size, 1, none⟩ = some (.int .i64 a.p0) ∧ w'.cell? ⟨w.heap.size, 2, none⟩ = some (.int .i64 a.p1) ∧ w'.cell? ⟨w.heap.size, 3, none⟩ = some (.int .i64 a.p2) ∧ w'.cell? ⟨w.heap.size, 4, none⟩ = some (.int .i64 a.p3)) ∧ (w'.cell? ⟨w.heap.size + 1, 0, none⟩ = some (.int .i64 b.c) ∧ w'.cell? ⟨w.heap.size + 1, 1, none⟩ = some (.int .i64 b.p0) ∧ w'.cell? ⟨w.heap.size + 1, 2, none⟩ = some (.int .i64 b.p1) ∧ w'.cell? ⟨w.heap.size + 1, 3, none⟩ = some (.int .i64 b.p2) ∧ w'.cell? ⟨w.heap.size + 1, 4, none⟩ = some (.int .i64 b.p3)) ∧ (w'.cell? ⟨w.heap.size + 1 + 1, 0, none⟩ = some (.int .i64 0) ∧ w'.cell? ⟨w.heap.size + 1 + 1, 1, none⟩ = some (.int .i64 2199023255552) ∧ w'.cell? ⟨w.heap.size + 1 + 1, 2, none⟩ = some (.int .i64 0) ∧ w'.cell? ⟨w.heap.size + 1 + 1, 3, none⟩ = some (.int .i64 0)))) (by kernel_rfl) (⟨Lv.cells Y0.out.1, Lv.cells Y0.out.2.1, Four.cells Y0.out.2.2.1⟩) (fun hHeld => ?_)
        refine wpAnyH_take (i := 0) (v := ?vl1t0) rfl (by kernel_rfl) (by kernel_rfl) (by kernel_rfl) (fun _ _ _ h => h) (Or.inl ⟨by rfl, ?hyl1t0⟩) (by assumption) ?restl1t0
        case hyl1t0 => (intro w hSw; (try dsimp only at hSw); go_simp <;> with_reducible rfl)
        try simp only [List.getElem_toArray, List.getElem_cons_zero, Act.put, List.setIfInBounds_toArray, List.set_cons_zero, List.set_cons_succ]
        refine wpAnyH_take (i := 1) (v := ?vl1t1) rfl (by kernel_rfl) (by kernel_rfl) (by kernel_rfl) (fun _ _ _ h => h) (Or.inl ⟨by rfl, ?hyl1t1⟩) (by assumption) ?restl1t1
        case hyl1t1 => (intro w hSw; (try dsimp only at hSw); go_simp <;> with_reducible rfl)
        try simp only [List.getElem_toArray, List.getElem_cons_succ, List.getElem_cons_zero, Act.put, List.setIfInBounds_toArray, List.set_cons_zero, List.set_cons_succ]
        refine wpAnyH_take (i := 2) (v := undef) rfl (by kernel_rfl) (by kernel_rfl) (by kernel_rfl) (fun _ _ _ h => h) (Or.inr ⟨by rfl, rfl⟩) (by assumption) ?_
        try simp only [List.getElem_toArray, List.getElem_cons_succ, List.getElem_cons_zero, Act.put, List.setIfInBounds_toArray, List.set_cons_zero, List.set_cons_succ]
        refine wpAnyH_take (i := 3) (v := undef) rfl (by kernel_rfl) (by kernel_rfl) (by kernel_rfl) (fun _ _ _ h => h) (Or.inr ⟨by rfl, rfl⟩) (by assumption) ?_
        try simp only [List.getElem_toArray, List.getElem_cons_succ, List.getElem_cons_zero, Act.put, List.setIfInBounds_toArray, List.set_cons_zero, List.set_cons_succ]
        refine wpAnyH_take (i := 5) (v := undef) rfl (by kernel_rfl) (by kernel_rfl) (by kernel_rfl) (fun _ _ _ h => h) (Or.inr ⟨by rfl, rfl⟩) (by assumption) ?_
        try simp only [List.getElem_toArray, List.getElem_cons_succ, List.getElem_cons_zero, Act.put, List.setIfInBounds_toArray, List.set_cons_zero, List.set_cons_succ]
        refine wpAnyH_take (i := 6) (v := undef) rfl (by kernel_rfl) (by kernel_rfl) (by kernel_rfl) (fun _ _ _ h => h) (Or.inr ⟨by rfl, rfl⟩) (by assumption) ?_
        try simp only [List.getElem_toArray, List.getElem_cons_succ, List.getElem_cons_zero, Act.put, List.setIfInBounds_toArray, List.set_cons_zero, List.set_cons_succ]
        refine wpAnyH_take (i := 4) (v := undef) rfl (by kernel_rfl) (by kernel_rfl) (by kernel_rfl) (fun _ _ _ h => h) (Or.inr ⟨by rfl, rfl⟩) (by assumption) ?_
        try simp only [List.getElem_toArray, List.getElem_cons_succ, List.getElem_cons_zero, Act.put, List.setIfInBounds_toArray, List.set_cons_zero, List.set_cons_succ]
        refine wpAnyH_take (i := 7) (v := undef) rfl (by kernel_rfl) (by kernel_rfl) (by kernel_rfl) (fun _ _ _ h => h) (Or.inr ⟨by rfl, rfl⟩) (by assumption) ?_
        try simp only [List.getElem_toArray, List.getElem_cons_succ, List.getElem_cons_zero, Act.put, List.setIfInBounds_toArray, List.set_cons_zero, List.set_cons_succ]
        refine wpAnyH_take (i := 8) (v := undef) rfl (by kernel_rfl) (by kernel_rfl) (by kernel_rfl) (fun _ _ _ h => h) (Or.inr ⟨by rfl, rfl⟩) (by assumption) ?_
        try simp only [List.getElem_toArray, List.getElem_cons_succ, List.getElem_cons_zero, Act.put, List.setIfInBounds_toArray, List.set_cons_zero, List.set_cons_succ]
        refine wpAnyH_take (i := 9) (v := ?vl1t9) rfl (by kernel_rfl) (by kernel_rfl) (by kernel_rfl) (fun _ _ _ h => h) (Or.inl ⟨by rfl, ?hyl1t9⟩) (by assumption) ?restl1t9
        case hyl1t9 => (intro w hSw; (try dsimp only at hSw); go_simp <;> with_reducible rfl)
        try simp only [List.getElem_toArray, List.getElem_cons_succ, List.getElem_cons_zero, Act.put, List.setIfInBounds_toArray, List.set_cons_zero, List.set_cons_succ]
        refine wpAnyH_take (i := 10) (v := ?vl1t10) rfl (by kernel_rfl) (by kernel_rfl) (by kernel_rfl) (fun _ _ _ h => h) (Or.inl ⟨by rfl, ?hyl1t10⟩) (by assumption) ?restl1t10
        case hyl1t10 => (intro w hSw; (try dsimp only at hSw); go_simp <;> with_reducible rfl)
        try simp only [List.getElem_toArray, List.getElem_cons_succ, List.getElem_cons_zero, Act.put, List.setIfInBounds_toArray, List.set_cons_zero, List.set_cons_succ]
        refine wpAnyH_done (by kernel_rfl) ?_ _
        obtain ⟨n0, n1, n2, n3⟩ := Four.cells Y0.out.2.2.1
        have g := Four.free Y0.out.2.2.1 1
        go_wp2_with fail
        go_roundw
        case rel => exact ⟨2, by omega, rfl, by rw [found, HF.out, above, Ea.out, Eb.out]; simp, ⟨cells_other Y0.out.1 _ (by omega), cells_other Y0.out.2.1 _ (by omega), four_set1 Y0.out.2.2.1 _, trivial⟩, C0.out.setCell (p := ⟨w.heap.size + 1 + 1, 1, none⟩) (show w.heap.size ≤ w.heap.size + 1 + 1 by omega) _⟩
        case measure => simp [intOf]
    · obtain ⟨f, hf⟩ : ∃ f, found a b 2 = f := ⟨_, rfl⟩
      rw [hf]
      have HF := Lib.hid hf
      clear hf
      obtain ⟨n0, n1, n2, n3⟩ := Four.cells X.out.2.2.1
      have g := Four.free X.out.2.2.1 2
      obtain ⟨xa, ea⟩ : ∃ x, ev a (spot 3) = x := ⟨_, rfl⟩
      obtain ⟨xb, eb⟩ : ∃ x, ev b (spot 3) = x := ⟨_, rfl⟩
      have Ea := Lib.hid ea
      have Eb := Lib.hid eb
      clear ea eb
      have Z0 : Hid (Boxes [(w.heap.size, a.box), (w.heap.size + 1, b.box), (w.heap.size + 1 + 1, (spot 3).box)] (wr.setCell ⟨w.heap.size + 1 + 1, 2, none⟩ (.int .i64 2199023255552))) := Lib.hid ⟨cells_other X.out.1 _ (by omega), cells_other X.out.2.1 _ (by omega), four_set2 X.out.2.2.1 _, trivial⟩
      have D0 := Lib.hid (B.out.setCell (p := ⟨w.heap.size + 1 + 1, 2, none⟩) (show w.heap.size ≤ w.heap.size + 1 + 1 by omega) (.int .i64 2199023255552))
      go_wp2_with fail
      generalize (wr.setCell ⟨w.heap.size + 1 + 1, 2, none⟩ (.int .i64 2199023255552)) = W1 at Z0 D0 ⊢
      clear n0 n1 n2 n3 g X B
      have Y0 := Lib.hid (Boxes.drew Z0.out)
      have C0 := Lib.hid D0.out.drew
      clear Z0 D0
      cases f
      ·
        refine wp_region_held_drew (S := (fun w' => (w'.cell? ⟨w.heap.size, 0, none⟩ = some (.int .i64 a.c) ∧ w'.cell? ⟨w.heap.size, 1, none⟩ = some (.int .i64 a.p0) ∧ w'.cell? ⟨w.heap.size, 2, none⟩ = some (.int .i64 a.p1) ∧ w'.cell? ⟨w.heap.size, 3, none⟩ = some (.int .i64 a.p2) ∧ w'.cell? ⟨w.heap.size, 4, none⟩ = some (.int .i64 a.p3)) ∧ (w'.cell? ⟨w.heap.size + 1, 0, none⟩ = some (.int .i64 b.c) ∧ w'.cell? ⟨w.heap.size + 1, 1, none⟩ = some (.int .i64 b.p0) ∧ w'.cell? ⟨w.heap.size + 1, 2, none⟩ = some (.int .i64 b.p1) ∧ w'.cell? ⟨w.heap.size + 1, 3, none⟩ = some (.int .i64 b.p2) ∧ w'.cell? ⟨w.heap.size + 1, 4, none⟩ = some (.int .i64 b.p3)) ∧ (w'.cell? ⟨w.heap.size + 1 + 1, 0, none⟩ = some (.int .i64 0) ∧ w'.cell? ⟨w.heap.size + 1 + 1, 1, none⟩ = some (.int .i64 0) ∧ w'.cell? ⟨w.heap.size + 1 + 1, 2, none⟩ = some (.int .i64 2199023255552) ∧ w'.cell? ⟨w.heap.size + 1 + 1, 3, none⟩ = some (.int .i64 0)))) (by kernel_rfl) (⟨Lv.cells Y0.out.1, Lv.cells Y0.out.2.1, Four.cells Y0.out.2.2.1⟩) (fun hHeld => ?_)
        refine wpAnyH_take (i := 0) (v := ?vl2f0) rfl (by kernel_rfl) (by kernel_rfl) (by kernel_rfl) (fun _ _ _ h => h) (Or.inl ⟨by rfl, ?hyl2f0⟩) (by assumption) ?restl2f0
        case hyl2f0 => (intro w hSw; (try dsimp only at hSw); go_simp <;> with_reducible rfl)
        try simp only [List.getElem_toArray, List.getElem_cons_zero, Act.put, List.setIfInBounds_toArray, List.set_cons_zero, List.set_cons_succ]
        refine wpAnyH_take (i := 1) (v := ?vl2f1) rfl (by kernel_rfl) (by kernel_rfl) (by kernel_rfl) (fun _ _ _ h => h) (Or.inl ⟨by rfl, ?hyl2f1⟩) (by assumption) ?restl2f1
        case hyl2f1 => (intro w hSw; (try dsimp only at hSw); go_simp <;> with_reducible rfl)
        try simp only [List.getElem_toArray, List.getElem_cons_succ, List.getElem_cons_zero, Act.put, List.setIfInBounds_toArray, List.set_cons_zero, List.set_cons_succ]
        refine wpAnyH_take (i := 2) (v := ?vl2f2) rfl (by kernel_rfl) (by kernel_rfl) (by kernel_rfl) (fun _ _ _ h => h) (Or.inl ⟨by rfl, ?hyl2f2⟩) (by assumption) ?restl2f2
        case hyl2f2 => (intro w hSw; (try dsimp only at hSw); go_simp <;> with_reducible rfl)
        try simp only [List.getElem_toArray, List.getElem_cons_succ, List.getElem_cons_zero, Act.put, List.setIfInBounds_toArray, List.set_cons_zero, List.set_cons_succ]
        refine wpAnyH_take (i := 3) (v := ?vl2f3) rfl (by kernel_rfl) (by kernel_rfl) (by kernel_rfl) (fun _ _ _ h => h) (Or.inl ⟨by rfl, ?hyl2f3⟩) (by assumption) ?restl2f3
        case hyl2f3 => (intro w hSw; (try dsimp only at hSw); go_simp <;> with_reducible rfl)
        try simp only [List.getElem_toArray, List.getElem_cons_succ, List.getElem_cons_zero, Act.put, List.setIfInBounds_toArray, List.set_cons_zero, List.set_cons_succ]
        refine wpAnyH_take (i := 5) (v := ?vl2f5) rfl (by kernel_rfl) (by kernel_rfl) (by kernel_rfl) (fun _ _ _ h => h) (Or.inl ⟨by rfl, ?hyl2f5⟩) (by assumption) ?restl2f5
        case hyl2f5 => (intro w hSw; (try dsimp only at hSw); go_simp <;> with_reducible rfl)
        try simp only [List.getElem_toArray, List.getElem_cons_succ, List.getElem_cons_zero, Act.put, List.setIfInBounds_toArray, List.set_cons_zero, List.set_cons_succ]
        refine wpAnyH_take (i := 6) (v := ?vl2f6) rfl (by kernel_rfl) (by kernel_rfl) (by kernel_rfl) (fun _ _ _ h => h) (Or.inl ⟨by rfl, ?hyl2f6⟩) (by assumption) ?restl2f6
        case hyl2f6 => (intro w hSw; (try dsimp only at hSw); go_simp <;> with_reducible rfl)
        try simp only [List.getElem_toArray, List.getElem_cons_succ, List.getElem_cons_zero, Act.put, List.setIfInBounds_toArray, List.set_cons_zero, List.set_cons_succ]
        refine wpAnyH_ready (rs := [4]) (by kernel_rfl) (by simp) ?_
        refine AllReadyH.cons rfl (fun K hK => ?_) AllReadyH.nil
        go_simp
        refine (at_ev a (spot 3) _ Ha.out (spot_fits 3) _ Ea.out).mono ?_
        rintro e v1 ⟨rfl, b⟩
        have Y1 := Lib.hid (Boxes.keep b Y0.out)
        have C1 := Lib.hid (thru C0.out b)
        clear b Y0 C0
        refine hK.out _ _ (⟨Lv.cells Y1.out.1, Lv.cells Y1.out.2.1, Four.cells Y1.out.2.2.1⟩) (fun hHeld => ?_)
        clear hK K
        try simp only [List.getElem_toArray, List.getElem_cons_succ, List.getElem_cons_zero, Act.put, List.setIfInBounds_toArray, List.set_cons_zero, List.set_cons_succ]
        refine wpAnyH_ready (rs := [7]) (by kernel_rfl) (by simp) ?_
        refine AllReadyH.cons rfl (fun K hK => ?_) AllReadyH.nil
        go_simp
        refine (at_ev b (spot 3) _ Hb.out (spot_fits 3) _ Eb.out).mono ?_
        rintro e v2 ⟨rfl, b⟩
        have Y2 := Lib.hid (Boxes.keep b Y1.out)
        have C2 := Lib.hid (thru C1.out b)
        clear b Y1 C1
        refine hK.out _ _ (⟨Lv.cells Y2.out.1, Lv.cells Y2.out.2.1, Four.cells Y2.out.2.2.1⟩) (fun hHeld => ?_)
        clear hK K
        try simp only [List.getElem_toArray, List.getElem_cons_succ, List.getElem_cons_zero, Act.put, List.setIfInBounds_toArray, List.set_cons_zero, List.set_cons_succ]
        refine wpAnyH_take (i := 8) (v := ?vl2f8) rfl (by kernel_rfl) (by kernel_rfl) (by kernel_rfl) (fun _ _ _ h => h) (Or.inl ⟨by rfl, ?hyl2f8⟩) (by assumption) ?restl2f8
        case hyl2f8 => (intro w hSw; (try dsimp only at hSw); go_simp <;> with_reducible rfl)
        try simp only [List.getElem_toArray, List.getElem_cons_succ, List.getElem_cons_zero, Act.put, List.setIfInBounds_toArray, List.set_cons_zero, List.set_cons_succ]
        refine wpAnyH_take (i := 9) (v := ?vl2f9) rfl (by kernel_rfl) (by kernel_rfl) (by kernel_rfl) (fun _ _ _ h => h) (Or.inl ⟨by rfl, ?hyl2f9⟩) (by assumption) ?restl2f9
        case hyl2f9 => (intro w hSw; (try dsimp only at hSw); go_simp <;> with_reducible rfl)
        try simp only [List.getElem_toArray, List.getElem_cons_succ, List.getElem_cons_zero, Act.put, List.setIfInBounds_toArray, List.set_cons_zero, List.set_cons_succ]
        refine wpAnyH_take (i := 10) (v := ?vl2f10) rfl (by kernel_rfl) (by kernel_rfl) (by kernel_rfl) (fun _ _ _ h => h) (Or.inl ⟨by rfl, ?hyl2f10⟩) (by assumption) ?restl2f10
        case hyl2f10 => (intro w hSw; (try dsimp only at hSw); go_simp <;> with_reducible rfl)
        try simp only [List.getElem_toArray, List.getElem_cons_succ, List.getElem_cons_zero, Act.put, List.setIfInBounds_toArray, List.set_cons_zero, List.set_cons_succ]
        refine wpAnyH_done (by kernel_rfl) ?_ _
        obtain ⟨n0, n1, n2, n3⟩ := Four.cells Y2.out.2.2.1
        have g := Four.free Y2.out.2.2.1 2
        go_wp2_with fail
        go_roundw
        case rel => exact ⟨3, by omega, rfl, by rw [found, HF.out, above, Ea.out, Eb.out]; simp, ⟨cells_other Y2.out.1 _ (by omega), cells_other Y2.out.2.1 _ (by omega), four_set2 Y2.out.2.2.1 _, trivial⟩, C2.out.setCell (p := ⟨w.heap.size + 1 + 1, 2, none⟩) (show w.heap.size ≤ w.heap.size + 1 + 1 by omega) _⟩
        case measure => simp [intOf]
      ·
        refine wp_region_held_drew (S := (fun w' => (w'.cell? ⟨w.heap.size, 0, none⟩ = some (.int .i64 a.c) ∧ w'.cell? ⟨w.heap.size, 1, none⟩ = some (.int .i64 a.p0) ∧ w'.cell? ⟨w.heap.size, 2, none⟩ = some (.int .i64 a.p1) ∧ w'.cell? ⟨w.heap.size, 3, none⟩ = some (.int .i64 a.p2) ∧ w'.cell? ⟨w.heap.size, 4, none⟩ = some (.int .i64 a.p3)) ∧ (w'.cell? ⟨w.heap.size + 1, 0, none⟩ = some (.int .i64 b.c) ∧ w'.cell? ⟨w.heap.size + 1, 1, none⟩ = some (.int .i64 b.p0) ∧ w'.cell? ⟨w.heap.size + 1, 2, none⟩ = some (.int .i64 b.p1) ∧ w'.cell? ⟨w.heap.size + 1, 3, none⟩ = some (.int .i64 b.p2) ∧ w'.cell? ⟨w.heap.size + 1, 4, none⟩ = some (.int .i64 b.p3)) ∧ (w'.cell? ⟨w.heap.size + 1 + 1, 0, none⟩ = some (.int .i64 0) ∧ w'.cell? ⟨w.heap.size + 1 + 1, 1, none⟩ = some (.int .i64 0) ∧ w'.cell? ⟨w.heap.size + 1 + 1, 2, none⟩ = some (.int .i64 2199023255552) ∧ w'.cell? ⟨w.heap.size + 1 + 1, 3, none⟩ = some (.int .i64 0)))) (by kernel_rfl) (⟨Lv.cells Y0.out.1, Lv.cells Y0.out.2.1, Four.cells Y0.out.2.2.1⟩) (fun hHeld => ?_)
        refine wpAnyH_take (i := 0) (v := ?vl2t0) rfl (by kernel_rfl) (by kernel_rfl) (by kernel_rfl) (fun _ _ _ h => h) (Or.inl ⟨by rfl, ?hyl2t0⟩) (by assumption) ?restl2t0
        case hyl2t0 => (intro w hSw; (try dsimp only at hSw); go_simp <;> with_reducible rfl)
        try simp only [List.getElem_toArray, List.getElem_cons_zero, Act.put, List.setIfInBounds_toArray, List.set_cons_zero, List.set_cons_succ]
        refine wpAnyH_take (i := 1) (v := ?vl2t1) rfl (by kernel_rfl) (by kernel_rfl) (by kernel_rfl) (fun _ _ _ h => h) (Or.inl ⟨by rfl, ?hyl2t1⟩) (by assumption) ?restl2t1
        case hyl2t1 => (intro w hSw; (try dsimp only at hSw); go_simp <;> with_reducible rfl)
        try simp only [List.getElem_toArray, List.getElem_cons_succ, List.getElem_cons_zero, Act.put, List.setIfInBounds_toArray, List.set_cons_zero, List.set_cons_succ]
        refine wpAnyH_take (i := 2) (v := undef) rfl (by kernel_rfl) (by kernel_rfl) (by kernel_rfl) (fun _ _ _ h => h) (Or.inr ⟨by rfl, rfl⟩) (by assumption) ?_
        try simp only [List.getElem_toArray, List.getElem_cons_succ, List.getElem_cons_zero, Act.put, List.setIfInBounds_toArray, List.set_cons_zero, List.set_cons_succ]
        refine wpAnyH_take (i := 3) (v := undef) rfl (by kernel_rfl) (by kernel_rfl) (by kernel_rfl) (fun _ _ _ h => h) (Or.inr ⟨by rfl, rfl⟩) (by assumption) ?_
        try simp only [List.getElem_toArray, List.getElem_cons_succ, List.getElem_cons_zero, Act.put, List.setIfInBounds_toArray, List.set_cons_zero, List.set_cons_succ]
        refine wpAnyH_take (i := 5) (v := undef) rfl (by kernel_rfl) (by kernel_rfl) (by kernel_rfl) (fun _ _ _ h => h) (Or.inr ⟨by rfl, rfl⟩) (by assumption) ?_
        try simp only [List.getElem_toArray, List.getElem_cons_succ, List.getElem_cons_zero, Act.put, List.setIfInBounds_toArray, List.set_cons_zero, List.set_cons_succ]
        refine wpAnyH_take (i := 6) (v := undef) rfl (by kernel_rfl) (by kernel_rfl) (by kernel_rfl) (fun _ _ _ h => h) (Or.inr ⟨by rfl, rfl⟩) (by assumption) ?_
        try simp only [List.getElem_toArray, List.getElem_cons_succ, List.getElem_cons_zero, Act.put, List.setIfInBounds_toArray, List.set_cons_zero, List.set_cons_succ]
        refine wpAnyH_take (i := 4) (v := undef) rfl (by kernel_rfl) (by kernel_rfl) (by kernel_rfl) (fun _ _ _ h => h) (Or.inr ⟨by rfl, rfl⟩) (by assumption) ?_
        try simp only [List.getElem_toArray, List.getElem_cons_succ, List.getElem_cons_zero, Act.put, List.setIfInBounds_toArray, List.set_cons_zero, List.set_cons_succ]
        refine wpAnyH_take (i := 7) (v := undef) rfl (by kernel_rfl) (by kernel_rfl) (by kernel_rfl) (fun _ _ _ h => h) (Or.inr ⟨by rfl, rfl⟩) (by assumption) ?_
        try simp only [List.getElem_toArray, List.getElem_cons_succ, List.getElem_cons_zero, Act.put, List.setIfInBounds_toArray, List.set_cons_zero, List.set_cons_succ]
        refine wpAnyH_take (i := 8) (v := undef) rfl (by kernel_rfl) (by kernel_rfl) (by kernel_rfl) (fun _ _ _ h => h) (Or.inr ⟨by rfl, rfl⟩) (by assumption) ?_
        try simp only [List.getElem_toArray, List.getElem_cons_succ, List.getElem_cons_zero, Act.put, List.setIfInBounds_toArray, List.set_cons_zero, List.set_cons_succ]
        refine wpAnyH_take (i := 9) (v := ?vl2t9) rfl (by kernel_rfl) (by kernel_rfl) (by kernel_rfl) (fun _ _ _ h => h) (Or.inl ⟨by rfl, ?hyl2t9⟩) (by assumption) ?restl2t9
        case hyl2t9 => (intro w hSw; (try dsimp only at hSw); go_simp <;> with_reducible rfl)
        try simp only [List.getElem_toArray, List.getElem_cons_succ, List.getElem_cons_zero, Act.put, List.setIfInBounds_toArray, List.set_cons_zero, List.set_cons_succ]
        refine wpAnyH_take (i := 10) (v := ?vl2t10) rfl (by kernel_rfl) (by kernel_rfl) (by kernel_rfl) (fun _ _ _ h => h) (Or.inl ⟨by rfl, ?hyl2t10⟩) (by assumption) ?restl2t10
        case hyl2t10 => (intro w hSw; (try dsimp only at hSw); go_simp <;> with_reducible rfl)
        try simp only [List.getElem_toArray, List.getElem_cons_succ, List.getElem_cons_zero, Act.put, List.setIfInBounds_toArray, List.set_cons_zero, List.set_cons_succ]
        refine wpAnyH_done (by kernel_rfl) ?_ _
        obtain ⟨n0, n1, n2, n3⟩ := Four.cells Y0.out.2.2.1
        have g := Four.free Y0.out.2.2.1 2
        go_wp2_with fail
        go_roundw
        case rel => exact ⟨3, by omega, rfl, by rw [found, HF.out, above, Ea.out, Eb.out]; simp, ⟨cells_other Y0.out.1 _ (by omega), cells_other Y0.out.2.1 _ (by omega), four_set2 Y0.out.2.2.1 _, trivial⟩, C0.out.setCell (p := ⟨w.heap.size + 1 + 1, 2, none⟩) (show w.heap.size ≤ w.heap.size + 1 + 1 by omega) _⟩
        case measure => simp [intOf]
    · obtain ⟨f, hf⟩ : ∃ f, found a b 3 = f := ⟨_, rfl⟩
      rw [hf]
      have HF := Lib.hid hf
      clear hf
      obtain ⟨n0, n1, n2, n3⟩ := Four.cells X.out.2.2.1
      have g := Four.free X.out.2.2.1 3
      obtain ⟨xa, ea⟩ : ∃ x, ev a (spot 4) = x := ⟨_, rfl⟩
      obtain ⟨xb, eb⟩ : ∃ x, ev b (spot 4) = x := ⟨_, rfl⟩
      have Ea := Lib.hid ea
      have Eb := Lib.hid eb
      clear ea eb
      have Z0 : Hid (Boxes [(w.heap.size, a.box), (w.heap.size + 1, b.box), (w.heap.size + 1 + 1, (spot 4).box)] (wr.setCell ⟨w.heap.size + 1 + 1, 3, none⟩ (.int .i64 2199023255552))) := Lib.hid ⟨cells_other X.out.1 _ (by omega), cells_other X.out.2.1 _ (by omega), four_set3 X.out.2.2.1 _, trivial⟩
      have D0 := Lib.hid (B.out.setCell (p := ⟨w.heap.size + 1 + 1, 3, none⟩) (show w.heap.size ≤ w.heap.size + 1 + 1 by omega) (.int .i64 2199023255552))
      go_wp2_with fail
      generalize (wr.setCell ⟨w.heap.size + 1 + 1, 3, none⟩ (.int .i64 2199023255552)) = W1 at Z0 D0 ⊢
      clear n0 n1 n2 n3 g X B
      have Y0 := Lib.hid (Boxes.drew Z0.out)
      have C0 := Lib.hid D0.out.drew
      clear Z0 D0
      cases f
      ·
        refine wp_region_held_drew (S := (fun w' => (w'.cell? ⟨w.heap.size, 0, none⟩ = some (.int .i64 a.c) ∧ w'.cell? ⟨w.heap.size, 1, none⟩ = some (.int .i64 a.p0) ∧ w'.cell? ⟨w.heap.size, 2, none⟩ = some (.int .i64 a.p1) ∧ w'.cell? ⟨w.heap.size, 3, none⟩ = some (.int .i64 a.p2) ∧ w'.cell? ⟨w.heap.size, 4, none⟩ = some (.int .i64 a.p3)) ∧ (w'.cell? ⟨w.heap.size + 1, 0, none⟩ = some (.int .i64 b.c) ∧ w'.cell? ⟨w.heap.size + 1, 1, none⟩ = some (.int .i64 b.p0) ∧ w'.cell? ⟨w.heap.size + 1, 2, none⟩ = some (.int .i64 b.p1) ∧ w'.cell? ⟨w.heap.size + 1, 3, none⟩ = some (.int .i64 b.p2) ∧ w'.cell? ⟨w.heap.size + 1, 4, none⟩ = some (.int .i64 b.p3)) ∧ (w'.cell? ⟨w.heap.size + 1 + 1, 0, none⟩ = some (.int .i64 0) ∧ w'.cell? ⟨w.heap.size + 1 + 1, 1, none⟩ = some (.int .i64 0) ∧ w'.cell? ⟨w.heap.size + 1 + 1, 2, none⟩ = some (.int .i64 0) ∧ w'.cell? ⟨w.heap.size + 1 + 1, 3, none⟩ = some (.int .i64 2199023255552)))) (by kernel_rfl) (⟨Lv.cells Y0.out.1, Lv.cells Y0.out.2.1, Four.cells Y0.out.2.2.1⟩) (fun hHeld => ?_)
        refine wpAnyH_take (i := 0) (v := ?vl3f0) rfl (by kernel_rfl) (by kernel_rfl) (by kernel_rfl) (fun _ _ _ h => h) (Or.inl ⟨by rfl, ?hyl3f0⟩) (by assumption) ?restl3f0
        case hyl3f0 => (intro w hSw; (try dsimp only at hSw); go_simp <;> with_reducible rfl)
        try simp only [List.getElem_toArray, List.getElem_cons_zero, Act.put, List.setIfInBounds_toArray, List.set_cons_zero, List.set_cons_succ]
        refine wpAnyH_take (i := 1) (v := ?vl3f1) rfl (by kernel_rfl) (by kernel_rfl) (by kernel_rfl) (fun _ _ _ h => h) (Or.inl ⟨by rfl, ?hyl3f1⟩) (by assumption) ?restl3f1
        case hyl3f1 => (intro w hSw; (try dsimp only at hSw); go_simp <;> with_reducible rfl)
        try simp only [List.getElem_toArray, List.getElem_cons_succ, List.getElem_cons_zero, Act.put, List.setIfInBounds_toArray, List.set_cons_zero, List.set_cons_succ]
        refine wpAnyH_take (i := 2) (v := ?vl3f2) rfl (by kernel_rfl) (by kernel_rfl) (by kernel_rfl) (fun _ _ _ h => h) (Or.inl ⟨by rfl, ?hyl3f2⟩) (by assumption) ?restl3f2
        case hyl3f2 => (intro w hSw; (try dsimp only at hSw); go_simp <;> with_reducible rfl)
        try simp only [List.getElem_toArray, List.getElem_cons_succ, List.getElem_cons_zero, Act.put, List.setIfInBounds_toArray, List.set_cons_zero, List.set_cons_succ]
        refine wpAnyH_take (i := 3) (v := ?vl3f3) rfl (by kernel_rfl) (by kernel_rfl) (by kernel_rfl) (fun _ _ _ h => h) (Or.inl ⟨by rfl, ?hyl3f3⟩) (by assumption) ?restl3f3
        case hyl3f3 => (intro w hSw; (try dsimp only at hSw); go_simp <;> with_reducible rfl)
        try simp only [List.getElem_toArray, List.getElem_cons_succ, List.getElem_cons_zero, Act.put, List.setIfInBounds_toArray, List.set_cons_zero, List.set_cons_succ]
        refine wpAnyH_take (i := 5) (v := ?vl3f5) rfl (by kernel_rfl) (by kernel_rfl) (by kernel_rfl) (fun _ _ _ h => h) (Or.inl ⟨by rfl, ?hyl3f5⟩) (by assumption) ?restl3f5
        case hyl3f5 => (intro w hSw; (try dsimp only at hSw); go_simp <;> with_reducible rfl)
        try simp only [List.getElem_toArray, List.getElem_cons_succ, List.getElem_cons_zero, Act.put, List.setIfInBounds_toArray, List.set_cons_zero, List.set_cons_succ]
        refine wpAnyH_take (i := 6) (v := ?vl3f6) rfl (by kernel_rfl) (by kernel_rfl) (by kernel_rfl) (fun _ _ _ h => h) (Or.inl ⟨by rfl, ?hyl3f6⟩) (by assumption) ?restl3f6
        case hyl3f6 => (intro w hSw; (try dsimp only at hSw); go_simp <;> with_reducible rfl)
        try simp only [List.getElem_toArray, List.getElem_cons_succ, List.getElem_cons_zero, Act.put, List.setIfInBounds_toArray, List.set_cons_zero, List.set_cons_succ]
        refine wpAnyH_ready (rs := [4]) (by kernel_rfl) (by simp) ?_
        refine AllReadyH.cons rfl (fun K hK => ?_) AllReadyH.nil
        go_simp
        refine (at_ev a (spot 4) _ Ha.out (spot_fits 4) _ Ea.out).mono ?_
        rintro e v1 ⟨rfl, b⟩
        have Y1 := Lib.hid (Boxes.keep b Y0.out)
        have C1 := Lib.hid (thru C0.out b)
        clear b Y0 C0
        refine hK.out _ _ (⟨Lv.cells Y1.out.1, Lv.cells Y1.out.2.1, Four.cells Y1.out.2.2.1⟩) (fun hHeld => ?_)
        clear hK K
        try simp only [List.getElem_toArray, List.getElem_cons_succ, List.getElem_cons_zero, Act.put, List.setIfInBounds_toArray, List.set_cons_zero, List.set_cons_succ]
        refine wpAnyH_ready (rs := [7]) (by kernel_rfl) (by simp) ?_
        refine AllReadyH.cons rfl (fun K hK => ?_) AllReadyH.nil
        go_simp
        refine (at_ev b (spot 4) _ Hb.out (spot_fits 4) _ Eb.out).mono ?_
        rintro e v2 ⟨rfl, b⟩
        have Y2 := Lib.hid (Boxes.keep b Y1.out)
        have C2 := Lib.hid (thru C1.out b)
        clear b Y1 C1
        refine hK.out _ _ (⟨Lv.cells Y2.out.1, Lv.cells Y2.out.2.1, Four.cells Y2.out.2.2.1⟩) (fun hHeld => ?_)
        clear hK K
        try simp only [List.getElem_toArray, List.getElem_cons_succ, List.getElem_cons_zero, Act.put, List.setIfInBounds_toArray, List.set_cons_zero, List.set_cons_succ]
        refine wpAnyH_take (i := 8) (v := ?vl3f8) rfl (by kernel_rfl) (by kernel_rfl) (by kernel_rfl) (fun _ _ _ h => h) (Or.inl ⟨by rfl, ?hyl3f8⟩) (by assumption) ?restl3f8
        case hyl3f8 => (intro w hSw; (try dsimp only at hSw); go_simp <;> with_reducible rfl)
        try simp only [List.getElem_toArray, List.getElem_cons_succ, List.getElem_cons_zero, Act.put, List.setIfInBounds_toArray, List.set_cons_zero, List.set_cons_succ]
        refine wpAnyH_take (i := 9) (v := ?vl3f9) rfl (by kernel_rfl) (by kernel_rfl) (by kernel_rfl) (fun _ _ _ h => h) (Or.inl ⟨by rfl, ?hyl3f9⟩) (by assumption) ?restl3f9
        case hyl3f9 => (intro w hSw; (try dsimp only at hSw); go_simp <;> with_reducible rfl)
        try simp only [List.getElem_toArray, List.getElem_cons_succ, List.getElem_cons_zero, Act.put, List.setIfInBounds_toArray, List.set_cons_zero, List.set_cons_succ]
        refine wpAnyH_take (i := 10) (v := ?vl3f10) rfl (by kernel_rfl) (by kernel_rfl) (by kernel_rfl) (fun _ _ _ h => h) (Or.inl ⟨by rfl, ?hyl3f10⟩) (by assumption) ?restl3f10
        case hyl3f10 => (intro w hSw; (try dsimp only at hSw); go_simp <;> with_reducible rfl)
        try simp only [List.getElem_toArray, List.getElem_cons_succ, List.getElem_cons_zero, Act.put, List.setIfInBounds_toArray, List.set_cons_zero, List.set_cons_succ]
        refine wpAnyH_done (by kernel_rfl) ?_ _
        obtain ⟨n0, n1, n2, n3⟩ := Four.cells Y2.out.2.2.1
        have g := Four.free Y2.out.2.2.1 3
        go_wp2_with fail
        go_roundw
        case rel => exact ⟨4, by omega, rfl, by rw [found, HF.out, above, Ea.out, Eb.out]; simp, ⟨cells_other Y2.out.1 _ (by omega), cells_other Y2.out.2.1 _ (by omega), four_set3 Y2.out.2.2.1 _, trivial⟩, C2.out.setCell (p := ⟨w.heap.size + 1 + 1, 3, none⟩) (show w.heap.size ≤ w.heap.size + 1 + 1 by omega) _⟩
        case measure => simp [intOf]
      ·
        refine wp_region_held_drew (S := (fun w' => (w'.cell? ⟨w.heap.size, 0, none⟩ = some (.int .i64 a.c) ∧ w'.cell? ⟨w.heap.size, 1, none⟩ = some (.int .i64 a.p0) ∧ w'.cell? ⟨w.heap.size, 2, none⟩ = some (.int .i64 a.p1) ∧ w'.cell? ⟨w.heap.size, 3, none⟩ = some (.int .i64 a.p2) ∧ w'.cell? ⟨w.heap.size, 4, none⟩ = some (.int .i64 a.p3)) ∧ (w'.cell? ⟨w.heap.size + 1, 0, none⟩ = some (.int .i64 b.c) ∧ w'.cell? ⟨w.heap.size + 1, 1, none⟩ = some (.int .i64 b.p0) ∧ w'.cell? ⟨w.heap.size + 1, 2, none⟩ = some (.int .i64 b.p1) ∧ w'.cell? ⟨w.heap.size + 1, 3, none⟩ = some (.int .i64 b.p2) ∧ w'.cell? ⟨w.heap.size + 1, 4, none⟩ = some (.int .i64 b.p3)) ∧ (w'.cell? ⟨w.heap.size + 1 + 1, 0, none⟩ = some (.int .i64 0) ∧ w'.cell? ⟨w.heap.size + 1 + 1, 1, none⟩ = some (.int .i64 0) ∧ w'.cell? ⟨w.heap.size + 1 + 1, 2, none⟩ = some (.int .i64 0) ∧ w'.cell? ⟨w.heap.size + 1 + 1, 3, none⟩ = some (.int .i64 2199023255552)))) (by kernel_rfl) (⟨Lv.cells Y0.out.1, Lv.cells Y0.out.2.1, Four.cells Y0.out.2.2.1⟩) (fun hHeld => ?_)
        refine wpAnyH_take (i := 0) (v := ?vl3t0) rfl (by kernel_rfl) (by kernel_rfl) (by kernel_rfl) (fun _ _ _ h => h) (Or.inl ⟨by rfl, ?hyl3t0⟩) (by assumption) ?restl3t0
        case hyl3t0 => (intro w hSw; (try dsimp only at hSw); go_simp <;> with_reducible rfl)
        try simp only [List.getElem_toArray, List.getElem_cons_zero, Act.put, List.setIfInBounds_toArray, List.set_cons_zero, List.set_cons_succ]
        refine wpAnyH_take (i := 1) (v := ?vl3t1) rfl (by kernel_rfl) (by kernel_rfl) (by kernel_rfl) (fun _ _ _ h => h) (Or.inl ⟨by rfl, ?hyl3t1⟩) (by assumption) ?restl3t1
        case hyl3t1 => (intro w hSw; (try dsimp only at hSw); go_simp <;> with_reducible rfl)
        try simp only [List.getElem_toArray, List.getElem_cons_succ, List.getElem_cons_zero, Act.put, List.setIfInBounds_toArray, List.set_cons_zero, List.set_cons_succ]
        refine wpAnyH_take (i := 2) (v := undef) rfl (by kernel_rfl) (by kernel_rfl) (by kernel_rfl) (fun _ _ _ h => h) (Or.inr ⟨by rfl, rfl⟩) (by assumption) ?_
        try simp only [List.getElem_toArray, List.getElem_cons_succ, List.getElem_cons_zero, Act.put, List.setIfInBounds_toArray, List.set_cons_zero, List.set_cons_succ]
        refine wpAnyH_take (i := 3) (v := undef) rfl (by kernel_rfl) (by kernel_rfl) (by kernel_rfl) (fun _ _ _ h => h) (Or.inr ⟨by rfl, rfl⟩) (by assumption) ?_
        try simp only [List.getElem_toArray, List.getElem_cons_succ, List.getElem_cons_zero, Act.put, List.setIfInBounds_toArray, List.set_cons_zero, List.set_cons_succ]
        refine wpAnyH_take (i := 5) (v := undef) rfl (by kernel_rfl) (by kernel_rfl) (by kernel_rfl) (fun _ _ _ h => h) (Or.inr ⟨by rfl, rfl⟩) (by assumption) ?_
        try simp only [List.getElem_toArray, List.getElem_cons_succ, List.getElem_cons_zero, Act.put, List.setIfInBounds_toArray, List.set_cons_zero, List.set_cons_succ]
        refine wpAnyH_take (i := 6) (v := undef) rfl (by kernel_rfl) (by kernel_rfl) (by kernel_rfl) (fun _ _ _ h => h) (Or.inr ⟨by rfl, rfl⟩) (by assumption) ?_
        try simp only [List.getElem_toArray, List.getElem_cons_succ, List.getElem_cons_zero, Act.put, List.setIfInBounds_toArray, List.set_cons_zero, List.set_cons_succ]
        refine wpAnyH_take (i := 4) (v := undef) rfl (by kernel_rfl) (by kernel_rfl) (by kernel_rfl) (fun _ _ _ h => h) (Or.inr ⟨by rfl, rfl⟩) (by assumption) ?_
        try simp only [List.getElem_toArray, List.getElem_cons_succ, List.getElem_cons_zero, Act.put, List.setIfInBounds_toArray, List.set_cons_zero, List.set_cons_succ]
        refine wpAnyH_take (i := 7) (v := undef) rfl (by kernel_rfl) (by kernel_rfl) (by kernel_rfl) (fun _ _ _ h => h) (Or.inr ⟨by rfl, rfl⟩) (by assumption) ?_
        try simp only [List.getElem_toArray, List.getElem_cons_succ, List.getElem_cons_zero, Act.put, List.setIfInBounds_toArray, List.set_cons_zero, List.set_cons_succ]
        refine wpAnyH_take (i := 8) (v := undef) rfl (by kernel_rfl) (by kernel_rfl) (by kernel_rfl) (fun _ _ _ h => h) (Or.inr ⟨by rfl, rfl⟩) (by assumption) ?_
        try simp only [List.getElem_toArray, List.getElem_cons_succ, List.getElem_cons_zero, Act.put, List.setIfInBounds_toArray, List.set_cons_zero, List.set_cons_succ]
        refine wpAnyH_take (i := 9) (v := ?vl3t9) rfl (by kernel_rfl) (by kernel_rfl) (by kernel_rfl) (fun _ _ _ h => h) (Or.inl ⟨by rfl, ?hyl3t9⟩) (by assumption) ?restl3t9
        case hyl3t9 => (intro w hSw; (try dsimp only at hSw); go_simp <;> with_reducible rfl)
        try simp only [List.getElem_toArray, List.getElem_cons_succ, List.getElem_cons_zero, Act.put, List.setIfInBounds_toArray, List.set_cons_zero, List.set_cons_succ]
        refine wpAnyH_take (i := 10) (v := ?vl3t10) rfl (by kernel_rfl) (by kernel_rfl) (by kernel_rfl) (fun _ _ _ h => h) (Or.inl ⟨by rfl, ?hyl3t10⟩) (by assumption) ?restl3t10
        case hyl3t10 => (intro w hSw; (try dsimp only at hSw); go_simp <;> with_reducible rfl)
        try simp only [List.getElem_toArray, List.getElem_cons_succ, List.getElem_cons_zero, Act.put, List.setIfInBounds_toArray, List.set_cons_zero, List.set_cons_succ]
        refine wpAnyH_done (by kernel_rfl) ?_ _
        obtain ⟨n0, n1, n2, n3⟩ := Four.cells Y0.out.2.2.1
        have g := Four.free Y0.out.2.2.1 3
        go_wp2_with fail
        go_roundw
        case rel => exact ⟨4, by omega, rfl, by rw [found, HF.out, above, Ea.out, Eb.out]; simp, ⟨cells_other Y0.out.1 _ (by omega), cells_other Y0.out.2.1 _ (by omega), four_set3 Y0.out.2.2.1 _, trivial⟩, C0.out.setCell (p := ⟨w.heap.size + 1 + 1, 3, none⟩) (show w.heap.size ≤ w.heap.size + 1 + 1 by omega) _⟩
        case measure => simp [intOf]
    · have HF := Lib.hid (rfl : found a b 4 = found a b 4)
      go_wp2_with fail
      go_ret
      exact ⟨rfl, B.out⟩
end Go.Proofs.Ytbkmnlebnjoklaa
