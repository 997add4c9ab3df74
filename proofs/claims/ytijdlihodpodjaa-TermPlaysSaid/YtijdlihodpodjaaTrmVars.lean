/-
  term.vars, Free, Has.
-/
import Derived.Test.YtijdlihodpodjaaTrmPSize
import Derived.Test.YtijdlihodpodjaaLevJoin
namespace Go.Proofs.Ytijdlihodpodjaa
open Go.RowKit Go.Shelf Lvl Trm

namespace Trm
mutual
/-- The numbers of the free variables, with u binders around. -/
def Tm.vs : Tm → Int → List Int
  | .mk k n _ _ ts, u => (if k = 2 ∧ u ≤ n then [n - u] else []) ++ vsL k ts 0 u
def vsL (k : Int) : List Tm → Nat → Int → List Int
  | [], _, _ => []
  | t :: r, i, u => t.vs (under k i u) ++ vsL k r (i + 1) (under k i u)
end
def seeFree (n : Int) (t : Tm) (_d u : Int) : Int × Bool := if t.k = 2 ∧ u ≤ t.n then (max n (t.n - u + 1), true) else (n, true)
def seeHas (k : Int) (h : Bool) (t : Tm) (_d u : Int) : Bool × Bool := if t.k = 2 ∧ u ≤ t.n then (t.n - u == k, !(t.n - u == k)) else (h, true)

mutual
theorem Tm.walk_free : ∀ (t : Tm) (n d u : Int), t.walk seeFree n d u = ((t.vs u).foldl (fun n v => max n (v + 1)) n, true)
  | .mk k m s ls ts, n, d, u => by
    rw [Tm.walk, Tm.vs, List.foldl_append]
    by_cases h : k = 2 ∧ u ≤ m
    · have hs : seeFree n (.mk k m s ls ts) d u = (max n (m - u + 1), true) := if_pos h
      rw [hs, if_pos rfl, if_pos h, walkL_free]; rfl
    · have hs : seeFree n (.mk k m s ls ts) d u = (n, true) := if_neg h
      rw [hs, if_pos rfl, if_neg h, walkL_free]; rfl
theorem walkL_free (k : Int) : ∀ (ts : List Tm) (i : Nat) (n d u : Int), walkL seeFree k ts i n d u = ((vsL k ts i u).foldl (fun n v => max n (v + 1)) n, true)
  | [], i, n, d, u => by rw [walkL, vsL]; rfl
  | t :: r, i, n, d, u => by rw [walkL, vsL, List.foldl_append, Tm.walk_free, if_pos rfl, walkL_free]
end
mutual
theorem Tm.walk_has (q : Int) : ∀ (t : Tm) (d u : Int), t.walk (seeHas q) false d u = ((t.vs u).any (· == q), !(t.vs u).any (· == q))
  | .mk k m s ls ts, d, u => by
    rw [Tm.walk, Tm.vs, List.any_append]
    by_cases h : k = 2 ∧ u ≤ m
    · have hs : seeHas q false (.mk k m s ls ts) d u = (m - u == q, !(m - u == q)) := if_pos h
      rw [hs, if_pos h]
      cases hq : m - u == q
      · rw [if_pos (by simp), walkL_has]; simp [hq]
      · rw [if_neg (by simp)]; simp [hq]
    · have hs : seeHas q false (.mk k m s ls ts) d u = (false, true) := if_neg h
      rw [hs, if_pos rfl, if_neg h, walkL_has]; simp
theorem walkL_has (q : Int) (k : Int) : ∀ (ts : List Tm) (i : Nat) (d u : Int), walkL (seeHas q) k ts i false d u = ((vsL k ts i u).any (· == q), !(vsL k ts i u).any (· == q))
  | [], i, d, u => by rw [walkL, vsL]; rfl
  | t :: r, i, d, u => by
    rw [walkL, vsL, List.any_append, Tm.walk_has]
    cases (t.vs (under k i u)).any (· == q)
    · rw [if_pos (by simp), walkL_has]; simp
    · rw [if_neg (by simp)]; simp
end

/-- So deep a term may be. -/
def OkMay (t : Tm) (d : Int) : Prop := 0 ≤ d ∧ ∃ l, 0 ≤ t.left badMay l (4097 - d)
theorem OkMay.start {t : Tm} (h : t.may = true) : OkMay t 1 := ⟨by omega, 65536, of_decide_eq_true (show decide (0 ≤ t.left badMay 65536 4096) = true from h)⟩
theorem leftL_mem (bad : Tm → Bool) : ∀ (ts : List Tm) (l d : Int), 0 ≤ leftL bad ts l d → ∀ x ∈ ts, ∃ l', 0 ≤ x.left bad l' d
  | [], _, _, _, x, hx => by cases hx
  | t :: r, l, d, h, x, hx => by
    rw [leftL] at h
    split at h
    · omega
    · rcases List.mem_cons.1 hx with rfl | hr
      · exact ⟨l, by omega⟩
      · exact leftL_mem bad r _ d h x hr
theorem OkMay.node {t : Tm} {d : Int} (h : OkMay t d) : t.node = true ∧ d ≤ 4096 := by
  obtain ⟨_, l, hl⟩ := h
  rw [Tm.left_eq] at hl
  split at hl
  · omega
  · rename_i hc
    refine ⟨?_, by omega⟩
    cases hn : t.node
    · exact absurd (Or.inr (Or.inr (by simp [badMay, hn]))) hc
    · rfl
theorem OkMay.down {t : Tm} {d : Int} (h : OkMay t d) : ∀ x ∈ t.ts, OkMay x (d + 1) := fun x hx => by
  obtain ⟨h0, l, hl⟩ := h
  rw [Tm.left_eq] at hl
  split at hl
  · omega
  · obtain ⟨l', hl'⟩ := leftL_mem badMay _ _ _ hl x hx
    exact ⟨by omega, l', by rwa [show 4097 - (d + 1) = 4097 - d - 1 by omega]⟩
theorem node_num {t : Tm} (h : t.node = true) : 0 ≤ t.n ∧ t.n ≤ 1048576 := by
  unfold Tm.node at h
  simp only [Bool.and_eq_true] at h
  obtain ⟨⟨_, h⟩, _⟩ := h
  split at h
  · simpa using h
  · split at h
    · simp at h; omega
    · simp at h; omega
end Trm

set_option maxRecDepth 100000 in
theorem free1_any (v n : Int) (m : Nat) (w : World) (hv0 : 0 ≤ v) (hv1 : v ≤ 1048576) (hm : w.heap[m]? = some (.cells #[.int .i64 n] 3)) :
    Calls Try.prog 74 #[.int .i64 v, .pointer (some ⟨m, 0, none⟩)] w fun e w' => e = .returned (.bool true) ∧ w'.heap[m]? = some (.cells #[.int .i64 (max n (v + 1))] 3) ∧ Ran m w w' := by
  have hc := one_cell hm
  have hfr : w.frozen? ⟨m, 0, none⟩ = false := by simp [World.frozen?, hm]
  have hM := fun x : Int => (show (w.setCell ⟨m, 0, none⟩ (.int .i64 x)).heap[m]? = some (.cells #[.int .i64 x] 3) by simp [World.setCell, Array.getElem?_modify, hm])
  have hR := fun x : Int => (show Ran m w (w.setCell ⟨m, 0, none⟩ (.int .i64 x)) from ⟨rfl, rfl, rfl, by simp [World.setCell], fun k _ hk => Below.heap_setCell _ _ _ _ hk⟩)
  have HM := Lib.hid hM
  have HR := Lib.hid hR
  clear hM hR hm
  have hmax := run_max
  go_enter Try.func74, Try.ntmps74
  go_wp2_with fail
  go_ret
  exact ⟨rfl, HM.out _, HR.out _⟩

set_option maxRecDepth 100000 in
set_option maxHeartbeats 2000000 in
theorem vars1_free {B m C : Nat} (hCm : C ≠ m) (st : Int) (t : Tm) (b o : Nat) (d u : Int) (w : World) (hg : (fun _ => True) st) (hi : (fun n w => w.heap[m]? = some (.cells #[.int .i64 n] 3) ∧ w.heap[C]? = some (.cells #[.func (.func 74) #[] #[.pointer (some ⟨m, 0, none⟩)]] 88)) st w) (hok : OkMay t d) (hu : 0 ≤ u) (hat : RAt B m w b o t) :
    Calls Try.prog 114 #[.pointer (some ⟨b, o, none⟩), .int .i64 d, .int .i64 u, .pointer (some ⟨C, 0, none⟩)] w fun e w' => e = .returned (.bool (seeFree st t d u).2) ∧ (fun n w => w.heap[m]? = some (.cells #[.int .i64 n] 3) ∧ w.heap[C]? = some (.cells #[.func (.func 74) #[] #[.pointer (some ⟨m, 0, none⟩)]] 88)) (seeFree st t d u).1 w' ∧ Ran m w w' := by
  obtain ⟨hn0, hn1⟩ := node_num hok.node.1
  have HI := Lib.hid hi
  obtain ⟨hm, hC⟩ := hi
  try dsimp only at hg
  have hCc := one_cell hC
  have z1 : C < w.heap.size := World.block_lt_of_cell? w _ hCc
  obtain ⟨z3, z2, h, ⟨c0, c1, c2, c3, c4⟩, hin⟩ := hat
  have HIN := Lib.hid hin
  have HC := Lib.hid hC
  have HM := Lib.hid hm
  clear hin hC hm
  by_cases h1 : t.k = 2
  · by_cases h2 : u ≤ t.n
    · have hs : seeFree st t d u = (max st (t.n - u + 1), true) := if_pos ⟨h1, h2⟩
      rw [hs]
      clear hs
      have HX := Lib.hid (fun (W : World) (hW : Below w.heap.size w W) => free1_any (t.n - u) st m W (by omega) (by omega) (Lvl.keep hW HM.out))
      have hwr : IntKind.i64.wrap (t.n - u) = t.n - u := IntWalk.i64_in _ (by omega)
      rw [h1] at c0
      have d2 : decide (t.n < u) = false := by simpa using h2
      have H1 := Lib.hid h1
      have H2 := Lib.hid h2
      have HG := Lib.hid hg
      clear h1 h2 hg
      
      go_enter Try.func114, Try.ntmps114
      go_wp2_with fail
      go_region_held3 (fun w' => w'.cell? ⟨C, 0, none⟩ = some (.func (.func 74) #[] #[.pointer (some ⟨m, 0, none⟩)]) ∧ w'.cell? ⟨b, o, none⟩ = some (.int .u8 2) ∧ w'.cell? ⟨b, o + 1, none⟩ = some (.int .i64 t.n))
        (go_keep)
        ((go_at_call 74; (with_reducible refine (HX.out _ ?_).mono ?_); exact (Below.refl _ _).drew; rintro e w3 ⟨rfl, i3, g3⟩; have q1 := (g3.cell (p := ⟨C, 0, none⟩) z1 hCm).trans hCc; have q2 := (g3.cell (p := ⟨b, o, none⟩) z2 z3).trans c0; have q3 := (g3.cell (p := ⟨b, o + 1, none⟩) z2 z3).trans c1))
      have HI3 := Lib.hid i3
      have HR3 := Lib.hid ((Ran.of_below (Below.refl _ _).drew).trans g3)
      clear i3 g3 q1 q2 q3 hwr
      go_wp2_with fail
      go_ret
      exact ⟨rfl, ⟨HI3.out, HR3.out.keep HC.out hCm⟩, HR3.out⟩
    · have hs : seeFree st t d u = (st, true) := if_neg (fun hh => h2 hh.2)
      rw [hs]
      rw [h1] at c0
      have d2 : decide (t.n < u) = true := by simp; omega
      clear hs h1 h2
      go_enter Try.func114, Try.ntmps114
      go_wp2_with fail
      go_quiet (fail)
      go_wp2_with fail
      go_ret
      exact ⟨rfl, ⟨Lvl.keep (drew_below _ w _) HI.out.1, Lvl.keep (drew_below _ w _) HC.out⟩, Ran.of_below (drew_below _ w _)⟩
  · have hs : seeFree st t d u = (st, true) := if_neg (fun hh => h1 hh.1)
    rw [hs]
    have d1 : (t.k != 2) = true := by simpa using h1
    clear hs h1
    go_enter Try.func114, Try.ntmps114
    go_wp2_with fail
    go_quiet (fail)
    go_wp2_with fail
    go_ret
    exact ⟨rfl, ⟨Lvl.keep (drew_below _ w _) HI.out.1, Lvl.keep (drew_below _ w _) HC.out⟩, Ran.of_below (drew_below _ w _)⟩

theorem Trm.sees_free {B m C : Nat} (hBm : B ≤ m) (hCm : C ≠ m) : Sees B m C 114 (seeFree) (fun n w => w.heap[m]? = some (.cells #[.int .i64 n] 3) ∧ w.heap[C]? = some (.cells #[.func (.func 74) #[] #[.pointer (some ⟨m, 0, none⟩)]] 88)) OkMay (fun _ => True) where
  calls st t b o d u w hg hi ho hu0 hud hat hB := vars1_free hCm st t b o d u w hg hi ho hu0 hat
  good st t d u hg ho hr := by
    trivial
  bound t d ho := by have := ho.node; have := ho.1; omega
  down st t d u ho hr x hx := ho.down x hx
  keep st w w' hi hb := ⟨Lvl.keep hb hi.1, Lvl.keep hb hi.2⟩
  low := hBm
  enter args w := by kernel_rfl

set_option maxRecDepth 100000 in
theorem has1_any (v q : Int) (h : Bool) (K m : Nat) (w : World) (hm : w.heap[m]? = some (.cells #[.bool h] 4)) (hK : w.heap[K]? = some (.cells #[.int .i64 q] 3)) :
    Calls Try.prog 75 #[.int .i64 v, .pointer (some ⟨K, 0, none⟩), .pointer (some ⟨m, 0, none⟩)] w fun e w' => e = .returned (.bool !(v == q)) ∧ w'.heap[m]? = some (.cells #[.bool (v == q)] 4) ∧ Ran m w w' := by
  have hc := one_cell hm
  have hk := one_cell hK
  have hfr : w.frozen? ⟨m, 0, none⟩ = false := by simp [World.frozen?, hm]
  have hM := fun x : Bool => (show (w.setCell ⟨m, 0, none⟩ (.bool x)).heap[m]? = some (.cells #[.bool x] 4) by simp [World.setCell, Array.getElem?_modify, hm])
  have hR := fun x : Bool => (show Ran m w (w.setCell ⟨m, 0, none⟩ (.bool x)) from ⟨rfl, rfl, rfl, by simp [World.setCell], fun k _ hk => Below.heap_setCell _ _ _ _ hk⟩)
  have hC := fun x : Bool => one_cell (hM x)
  have HM := Lib.hid hM
  have HR := Lib.hid hR
  clear hM hR hm hK
  cases hq : v == q
  all_goals
    have hc2 := hC (v == q)
    rw [hq] at hc2
    have HM1 := Lib.hid (HM.out (v == q))
    have HR1 := Lib.hid (HR.out (v == q))
    rw [hq] at HM1 HR1
    clear hC HM HR
    go_enter Try.func75, Try.ntmps75
    go_wp2_with fail
    go_ret
    exact ⟨rfl, HM1.out, HR1.out⟩

set_option maxRecDepth 100000 in
set_option maxHeartbeats 2000000 in
theorem vars1_has (q : Int) {B m C K : Nat} (hCm : C ≠ m) (hKm : K ≠ m) (st : Bool) (t : Tm) (b o : Nat) (d u : Int) (w : World) (hg : (fun h => h = false) st) (hi : (fun h w => w.heap[m]? = some (.cells #[.bool h] 4) ∧ w.heap[C]? = some (.cells #[.func (.func 75) #[] #[.pointer (some ⟨K, 0, none⟩), .pointer (some ⟨m, 0, none⟩)]] 88) ∧ w.heap[K]? = some (.cells #[.int .i64 q] 3)) st w) (hok : OkMay t d) (hu : 0 ≤ u) (hat : RAt B m w b o t) :
    Calls Try.prog 114 #[.pointer (some ⟨b, o, none⟩), .int .i64 d, .int .i64 u, .pointer (some ⟨C, 0, none⟩)] w fun e w' => e = .returned (.bool (seeHas q st t d u).2) ∧ (fun h w => w.heap[m]? = some (.cells #[.bool h] 4) ∧ w.heap[C]? = some (.cells #[.func (.func 75) #[] #[.pointer (some ⟨K, 0, none⟩), .pointer (some ⟨m, 0, none⟩)]] 88) ∧ w.heap[K]? = some (.cells #[.int .i64 q] 3)) (seeHas q st t d u).1 w' ∧ Ran m w w' := by
  obtain ⟨hn0, hn1⟩ := node_num hok.node.1
  have HI := Lib.hid hi
  obtain ⟨hm, hC, hK⟩ := hi
  try dsimp only at hg
  have hCc := one_cell hC
  have z1 : C < w.heap.size := World.block_lt_of_cell? w _ hCc
  obtain ⟨z3, z2, h, ⟨c0, c1, c2, c3, c4⟩, hin⟩ := hat
  have HIN := Lib.hid hin
  have HC := Lib.hid hC
  have HK := Lib.hid hK
  have HM := Lib.hid hm
  clear hin hC hm hK
  by_cases h1 : t.k = 2
  · by_cases h2 : u ≤ t.n
    · have hs : seeHas q st t d u = (t.n - u == q, !(t.n - u == q)) := if_pos ⟨h1, h2⟩
      rw [hs]
      clear hs
      have HX := Lib.hid (fun (W : World) (hW : Below w.heap.size w W) => has1_any (t.n - u) q st K m W (Lvl.keep hW HM.out) (Lvl.keep hW HK.out))
      have hwr : IntKind.i64.wrap (t.n - u) = t.n - u := IntWalk.i64_in _ (by omega)
      rw [h1] at c0
      have d2 : decide (t.n < u) = false := by simpa using h2
      have H1 := Lib.hid h1
      have H2 := Lib.hid h2
      have HG := Lib.hid hg
      clear h1 h2 hg
      generalize hqq : (t.n - u == q) = r at HX ⊢
      clear hqq
      go_enter Try.func114, Try.ntmps114
      go_wp2_with fail
      go_region_held3 (fun w' => w'.cell? ⟨C, 0, none⟩ = some (.func (.func 75) #[] #[.pointer (some ⟨K, 0, none⟩), .pointer (some ⟨m, 0, none⟩)]) ∧ w'.cell? ⟨b, o, none⟩ = some (.int .u8 2) ∧ w'.cell? ⟨b, o + 1, none⟩ = some (.int .i64 t.n))
        (go_keep)
        ((go_at_call 75; (with_reducible refine (HX.out _ ?_).mono ?_); exact (Below.refl _ _).drew; rintro e w3 ⟨rfl, i3, g3⟩; have q1 := (g3.cell (p := ⟨C, 0, none⟩) z1 hCm).trans hCc; have q2 := (g3.cell (p := ⟨b, o, none⟩) z2 z3).trans c0; have q3 := (g3.cell (p := ⟨b, o + 1, none⟩) z2 z3).trans c1))
      have HI3 := Lib.hid i3
      have HR3 := Lib.hid ((Ran.of_below (Below.refl _ _).drew).trans g3)
      clear i3 g3 q1 q2 q3 hwr
      go_wp2_with fail
      go_ret
      exact ⟨rfl, ⟨HI3.out, HR3.out.keep HC.out hCm, HR3.out.keep HK.out hKm⟩, HR3.out⟩
    · have hs : seeHas q st t d u = (st, true) := if_neg (fun hh => h2 hh.2)
      rw [hs]
      rw [h1] at c0
      have d2 : decide (t.n < u) = true := by simp; omega
      clear hs h1 h2
      go_enter Try.func114, Try.ntmps114
      go_wp2_with fail
      go_quiet (fail)
      go_wp2_with fail
      go_ret
      exact ⟨rfl, ⟨Lvl.keep (drew_below _ w _) HI.out.1, Lvl.keep (drew_below _ w _) HC.out, Lvl.keep (drew_below _ w _) HK.out⟩, Ran.of_below (drew_below _ w _)⟩
  · have hs : seeHas q st t d u = (st, true) := if_neg (fun hh => h1 hh.1)
    rw [hs]
    have d1 : (t.k != 2) = true := by simpa using h1
    clear hs h1
    go_enter Try.func114, Try.ntmps114
    go_wp2_with fail
    go_quiet (fail)
    go_wp2_with fail
    go_ret
    exact ⟨rfl, ⟨Lvl.keep (drew_below _ w _) HI.out.1, Lvl.keep (drew_below _ w _) HC.out, Lvl.keep (drew_below _ w _) HK.out⟩, Ran.of_below (drew_below _ w _)⟩

theorem Trm.sees_has (q : Int) {B m C K : Nat} (hBm : B ≤ m) (hCm : C ≠ m) (hKm : K ≠ m) : Sees B m C 114 (seeHas q) (fun h w => w.heap[m]? = some (.cells #[.bool h] 4) ∧ w.heap[C]? = some (.cells #[.func (.func 75) #[] #[.pointer (some ⟨K, 0, none⟩), .pointer (some ⟨m, 0, none⟩)]] 88) ∧ w.heap[K]? = some (.cells #[.int .i64 q] 3)) OkMay (fun h => h = false) where
  calls st t b o d u w hg hi ho hu0 hud hat hB := vars1_has q hCm hKm st t b o d u w hg hi ho hu0 hat
  good st t d u hg ho hr := by
    try dsimp only at hg ⊢
    unfold seeHas at hr ⊢
    split at hr
    · rename_i hh
      rw [if_pos hh]
      simpa using hr
    · rename_i hh
      rw [if_neg hh]
      exact hg
  bound t d ho := by have := ho.node; have := ho.1; omega
  down st t d u ho hr x hx := ho.down x hx
  keep st w w' hi hb := ⟨Lvl.keep hb hi.1, Lvl.keep hb hi.2.1, Lvl.keep hb hi.2.2⟩
  low := hBm
  enter args w := by kernel_rfl
end Go.Proofs.Ytijdlihodpodjaa
