/-
  subst.Levels: levels in the place of parameters.
-/
import Derived.Test.YtijdlihodpodjaaQSubC
import Derived.Test.YtijdlihodpodjaaQSubP
import Derived.Test.YtijdlihodpodjaaQTrmF
import Derived.Test.YtijdlihodpodjaaQLevInst
import Derived.Test.YtijdlihodpodjaaQSubInstFn
import Derived.Lib.MinMax
namespace Go.Proofs.Ytijdlihodpodjaa
open Go.RowKit Go.Shelf Lvl Trm

namespace Trm
/-- Levels, one behind the other, with levels in the place of their parameters: what is left of these, the first error, what comes. -/
def levL : List Lv → List Lv → List Lv × Int × List Lv
  | [], y => (y, 0, [])
  | l :: r, y => if (inst l y).2 = 0 then ((levL r (y.take 4)).1, (levL r (y.take 4)).2.1, (inst l y).1 :: (levL r (y.take 4)).2.2) else (y, (inst l y).2, [])
noncomputable def lfLev : Lf (List Lv) := fun y x _ => ((levL x.ls y).1, (levL x.ls y).2.1, if (levL x.ls y).2.1 = 0 ∧ sameL (levL x.ls y).2.2 x.ls = false then some (.mk x.k 0 x.s (levL x.ls y).2.2 []) else none)

/-- Five places of an array. -/
def lev5 (c : Array Value) (p : Nat) (v0 v1 v2 v3 v4 : Value) : Array Value := ((((c.setIfInBounds p v0).setIfInBounds (p + 1) v1).setIfInBounds (p + 2) v2).setIfInBounds (p + 3) v3).setIfInBounds (p + 4) v4
theorem lev5_size (c : Array Value) (p : Nat) (v0 v1 v2 v3 v4 : Value) : (lev5 c p v0 v1 v2 v3 v4).size = c.size := by simp [lev5]
theorem lev5_other {c : Array Value} {p q : Nat} (v0 v1 v2 v3 v4 : Value) (h : q < p) : (lev5 c p v0 v1 v2 v3 v4)[q]? = c[q]? := by
  unfold lev5
  rw [Array.getElem?_setIfInBounds_ne (by omega), Array.getElem?_setIfInBounds_ne (by omega), Array.getElem?_setIfInBounds_ne (by omega), Array.getElem?_setIfInBounds_ne (by omega), Array.getElem?_setIfInBounds_ne (by omega)]
theorem lev5_at {c : Array Value} {p : Nat} (v0 v1 v2 v3 v4 : Value) (h : p + 4 < c.size) : (lev5 c p v0 v1 v2 v3 v4)[p]? = some v0 ∧ (lev5 c p v0 v1 v2 v3 v4)[p + 1]? = some v1 ∧ (lev5 c p v0 v1 v2 v3 v4)[p + 2]? = some v2 ∧ (lev5 c p v0 v1 v2 v3 v4)[p + 3]? = some v3 ∧ (lev5 c p v0 v1 v2 v3 v4)[p + 4]? = some v4 := by
  unfold lev5
  refine ⟨?_, ?_, ?_, ?_, ?_⟩
  · rw [Array.getElem?_setIfInBounds_ne (by omega), Array.getElem?_setIfInBounds_ne (by omega), Array.getElem?_setIfInBounds_ne (by omega), Array.getElem?_setIfInBounds_ne (by omega), Array.getElem?_setIfInBounds_self_of_lt (by omega)]
  · rw [Array.getElem?_setIfInBounds_ne (by omega), Array.getElem?_setIfInBounds_ne (by omega), Array.getElem?_setIfInBounds_ne (by omega), Array.getElem?_setIfInBounds_self_of_lt (by simp; omega)]
  · rw [Array.getElem?_setIfInBounds_ne (by omega), Array.getElem?_setIfInBounds_ne (by omega), Array.getElem?_setIfInBounds_self_of_lt (by simp; omega)]
  · rw [Array.getElem?_setIfInBounds_ne (by omega), Array.getElem?_setIfInBounds_self_of_lt (by simp; omega)]
  · rw [Array.getElem?_setIfInBounds_self_of_lt (by simp; omega)]

/-- Block G has room for n levels, the first of which are o. -/
def LBlk (w : World) (G n : Nat) (o : List Lv) : Prop := ∃ c : Array Value, w.heap[G]? = some (.cells c 83 (0, 0)) ∧ c.size = n * 5 ∧ ∀ j (h : j < o.length), c[j * 5]? = some (.int .i64 (o[j]).c) ∧ c[j * 5 + 1]? = some (.int .i64 (o[j]).p0) ∧ c[j * 5 + 2]? = some (.int .i64 (o[j]).p1) ∧ c[j * 5 + 3]? = some (.int .i64 (o[j]).p2) ∧ c[j * 5 + 4]? = some (.int .i64 (o[j]).p3)
theorem LBlk.row {w : World} {G n : Nat} {o : List Lv} (h : LBlk w G n o) : LRow w (some ⟨G, 0, none⟩) o := by
  obtain ⟨c, h1, _, h3⟩ := h
  refine ⟨fun k hk => ⟨G, 0, rfl, ?_⟩⟩
  obtain ⟨e0, e1, e2, e3, e4⟩ := h3 k hk
  rw [Nat.zero_add]
  refine ⟨?_, ?_, ?_, ?_, ?_⟩ <;> (simp [World.cell?, h1, e0, e1, e2, e3, e4])
theorem LBlk.of_block {w w' : World} {G n : Nat} {o : List Lv} (h : LBlk w G n o) (e : w'.heap[G]? = w.heap[G]?) : LBlk w' G n o := by
  obtain ⟨c, h1, h2⟩ := h
  exact ⟨c, e.trans h1, h2⟩
theorem LBlk.lt {w : World} {G n : Nat} {o : List Lv} (h : LBlk w G n o) : G < w.heap.size := by
  obtain ⟨c, h1, _⟩ := h
  exact (Array.getElem?_eq_some_iff.1 h1).1
theorem LBlk.free {w : World} {G n : Nat} {o : List Lv} (h : LBlk w G n o) (i : Nat) : w.frozen? ⟨G, i, none⟩ = false := by
  obtain ⟨c, h1, _⟩ := h
  simp [World.frozen?, h1]
theorem LBlk.has {w : World} {G n : Nat} {o : List Lv} (h : LBlk w G n o) {i : Nat} (hi : i < n * 5) : ∃ v, w.cell? ⟨G, i, none⟩ = some v := by
  obtain ⟨c, h1, h2, _⟩ := h
  exact ⟨c[i]'(by omega), by simp [World.cell?, h1, show i < c.size by omega]⟩
theorem LBlk.put {w : World} {G n : Nat} {o : List Lv} (h : LBlk w G n o) (ho : o.length < n) (x : Lv) : LBlk (((((w.setCell ⟨G, o.length * 5, none⟩ (.int .i64 x.c)).setCell ⟨G, o.length * 5 + 1, none⟩ (.int .i64 x.p0)).setCell ⟨G, o.length * 5 + 2, none⟩ (.int .i64 x.p1)).setCell ⟨G, o.length * 5 + 3, none⟩ (.int .i64 x.p2)).setCell ⟨G, o.length * 5 + 4, none⟩ (.int .i64 x.p3)) G n (o ++ [x]) := by
  obtain ⟨c, h1, h2, h3⟩ := h
  refine ⟨lev5 c (o.length * 5) (.int .i64 x.c) (.int .i64 x.p0) (.int .i64 x.p1) (.int .i64 x.p2) (.int .i64 x.p3), by simp [World.setCell, Array.getElem?_modify, h1, lev5], by rw [lev5_size, h2], fun j hj => ?_⟩
  by_cases hjo : j < o.length
  · rw [List.getElem_append_left hjo, lev5_other _ _ _ _ _ (by omega), lev5_other _ _ _ _ _ (by omega), lev5_other _ _ _ _ _ (by omega), lev5_other _ _ _ _ _ (by omega), lev5_other _ _ _ _ _ (by omega)]
    exact h3 j hjo
  · have : j = o.length := by rw [List.length_append, List.length_singleton] at hj; omega
    subst this
    rw [List.getElem_append_right (by omega)]
    simp only [Nat.sub_self, List.getElem_cons_zero]
    exact lev5_at _ _ _ _ _ (by omega)
/-- Zero levels, as they are made. -/
def zeros (n : Nat) : Obj := .cells (Array.replicate (n * 5) (.int .i64 0)) 83
theorem LBlk.made (w : World) (n : Nat) : LBlk (w.alloc (zeros n)) w.heap.size n [] :=
  ⟨_, World.alloc_heap_new w (zeros n), by simp, fun j h => by simp at h⟩
theorem make_0 (w : World) : (Instr.makeSlice 22 (.int .i64 ((0 : Nat) : Int)) (.int .i64 ((0 : Nat) : Int))).run Try.prog w = .ok (.slice (some ⟨w.heap.size, 0, none⟩) 0 0) (w.alloc (zeros 0)) := by kernel_rfl
theorem make_1 (w : World) : (Instr.makeSlice 22 (.int .i64 ((1 : Nat) : Int)) (.int .i64 ((1 : Nat) : Int))).run Try.prog w = .ok (.slice (some ⟨w.heap.size, 0, none⟩) 1 1) (w.alloc (zeros 1)) := by kernel_rfl
theorem make_2 (w : World) : (Instr.makeSlice 22 (.int .i64 ((2 : Nat) : Int)) (.int .i64 ((2 : Nat) : Int))).run Try.prog w = .ok (.slice (some ⟨w.heap.size, 0, none⟩) 2 2) (w.alloc (zeros 2)) := by kernel_rfl
theorem make_3 (w : World) : (Instr.makeSlice 22 (.int .i64 ((3 : Nat) : Int)) (.int .i64 ((3 : Nat) : Int))).run Try.prog w = .ok (.slice (some ⟨w.heap.size, 0, none⟩) 3 3) (w.alloc (zeros 3)) := by kernel_rfl
theorem make_4 (w : World) : (Instr.makeSlice 22 (.int .i64 ((4 : Nat) : Int)) (.int .i64 ((4 : Nat) : Int))).run Try.prog w = .ok (.slice (some ⟨w.heap.size, 0, none⟩) 4 4) (w.alloc (zeros 4)) := by kernel_rfl
theorem make_levels (n : Nat) (hn : n ≤ 4) (w : World) : (Instr.makeSlice 22 (.int .i64 (n : Int)) (.int .i64 (n : Int))).run Try.prog w = .ok (.slice (some ⟨w.heap.size, 0, none⟩) n n) (w.alloc (zeros n)) := by
  have h : n = 0 ∨ n = 1 ∨ n = 2 ∨ n = 3 ∨ n = 4 := by omega
  rcases h with rfl | rfl | rfl | rfl | rfl
  · exact make_0 w
  · exact make_1 w
  · exact make_2 w
  · exact make_3 w
  · exact make_4 w
theorem cut_levels (ao : Option Addr) (n cap k : Nat) (hk : k ≤ cap) (wx : World) :
    (Instr.slice 22 (.slice ao n cap) none (some (.int .i64 (k : Int))) none).run Try.prog wx = .ok (.slice ao k cap) wx := by
  have he : Try.prog.elem 22 = 83 := by simp [Program.elem, Try.underlying22]
  have hz : (Go.sizeOf 83).run Try.prog wx = .ok 5 wx := by kernel_rfl
  rw [run_slice_h wx 22 _ _ _ (by rw [he]; exact Try.underlying22) .i64 _ (by omega) (by omega), he, hz]
  cases ao <;> simp [Result.andThen, sliced, Addr.add]
theorem lrow_take {w : World} {ao : Option Addr} {ls : List Lv} (h : LRow w ao ls) (n : Nat) : LRow w ao (ls.take n) := by
  refine ⟨fun k hk => ?_⟩
  rw [List.length_take] at hk
  obtain ⟨b, off, hao, ha⟩ := h.place k (by omega)
  exact ⟨b, off, hao, by rw [List.getElem_take]; exact ha⟩
theorem node_ls {t : Tm} (h : t.node = true) : t.ls.length ≤ 4 := by
  unfold Tm.node at h
  simp only [Bool.and_eq_true] at h
  have h6 := h.2
  split at h6
  · simp at h6; omega
  · split at h6
    · simpa using h6
    · simp at h6; rw [h6]; simp

/-- Where the levels that are put in lie: block K has their slice, cut or not. -/
def LevInv (bo : Option Addr) (bc : Nat) (y0 : List Lv) (B K : Nat) (y : List Lv) (w : World) : Prop :=
  w.heap[K]? = some (.cells #[.slice bo y.length bc] 22) ∧ (y = y0 ∨ y = y0.take 4) ∧ LRow w bo y0 ∧ Low B bo y0.length
theorem LevInv.keep {bo : Option Addr} {bc : Nat} {y0 : List Lv} {B K N : Nat} (hK : K < N) (hB : B ≤ N) (y : List Lv) (w w' : World) (h : LevInv bo bc y0 B K y w) (b : Below N w w') : LevInv bo bc y0 B K y w' :=
  ⟨(b.block _ hK).trans h.1, h.2.1, LRow.low h.2.2.1 h.2.2.2 (b.mono hB), h.2.2.2⟩
theorem LevInv.levels {bo : Option Addr} {bc : Nat} {y0 y : List Lv} {B K : Nat} {w : World} (h : LevInv bo bc y0 B K y w) : LRow w bo y := by
  rcases h.2.1 with e | e
  · rw [e]; exact h.2.2.1
  · rw [e]; exact lrow_take h.2.2.1 4
theorem LevInv.len {bo : Option Addr} {bc : Nat} {y0 y : List Lv} {B K : Nat} {w : World} (h : LevInv bo bc y0 B K y w) : y.length ≤ y0.length := by
  rcases h.2.1 with e | e
  · rw [e]; exact Nat.le_refl _
  · rw [e, List.length_take]; omega

def LvRel (w : World) (ls : List Lv) (bo : Option Addr) (bc : Nat) (y0 : List Lv) (K n : Nat) (R : List Lv × Int × List Lv) (i : Value) (wr : World) : Prop :=
  ∃ (k : Nat) (y out : List Lv), i = .int .i64 k ∧ k ≤ n ∧ out.length = k ∧ (levL (ls.drop k) y).1 = R.1 ∧ (levL (ls.drop k) y).2.1 = R.2.1 ∧ (R.2.1 = 0 → R.2.2 = out ++ (levL (ls.drop k) y).2.2) ∧
    wr.heap[K]? = some (.cells #[.slice bo y.length bc] 22) ∧ (y = y0 ∨ y = y0.take 4) ∧ LBlk wr (w.heap.size + 1) n out ∧ wr.heap[w.heap.size]? = some (.cells #[.int .u8 0, .int .i64 0, .string no, .slice none 0 0, .slice none 0 0] 25) ∧ RanS (fun q => q = K) w wr
end Trm

set_option maxRecDepth 100000 in
set_option maxHeartbeats 16000000 in
theorem levels1_any {B N K : Nat} (hKN : K < N) (hBK : B ≤ K) (bo : Option Addr) (bc : Nat) (y0 : List Lv) (hy0 : y0.length ≤ 1000000) (hbc : y0.length ≤ bc) (y : List Lv) (t : Tm) (b o : Nat) (u : Int) (w : World) (hi : LevInv bo bc y0 B K y w) (hn : t.node = true) (hat : SAt B (fun q => q = K) w b o t) (hB : B ≤ w.heap.size) (hN : N ≤ w.heap.size) :
    Calls Try.prog 91 #[.pointer (some ⟨b, o, none⟩), .int .i64 u, .pointer (some ⟨K, 0, none⟩)] w (ThrPost B (fun q => q = K) (lfLev y t u) (LevInv bo bc y0 B K) w) := by
  have hK : K < w.heap.size := Nat.lt_of_lt_of_le hKN hN
  obtain ⟨hbP, hb, ⟨lo, lc, to, tc⟩, ⟨c0, c1, c2, c3, c4⟩, hin⟩ := hat
  have hn4 := node_ls hn
  have hk8 := (node_few hn).2.2
  obtain ⟨hfit, hrow, hlow, _⟩ := Tm.In_iff.1 hin
  dsimp only at c3 c4 hrow hlow
  obtain ⟨R, hR⟩ : ∃ R, R = levL t.ls y := ⟨_, rfl⟩
  obtain ⟨n, hnl⟩ : ∃ n, n = t.ls.length := ⟨_, rfl⟩
  obtain ⟨Q, hQ⟩ : ∃ Q, Q = ThrPost B (fun q => q = K) (lfLev y t u) (LevInv bo bc y0 B K) w := ⟨_, rfl⟩
  have HQZ : Hid (∀ w', (R.2.1 ≠ 0 ∨ sameL R.2.2 t.ls = true) → LevInv bo bc y0 B K R.1 w' → RanS (fun q => q = K) w w' → Q (.returned (.tuple #[zeroT.val ⟨none, 0, none, 0⟩, .int .i64 R.2.1])) w') := Lib.hid (fun w' hc h1 h2 => by
    have e : lfLev y t u = (R.1, R.2.1, none) := by
      rw [hR] at hc ⊢
      unfold lfLev
      rw [if_neg]
      rintro ⟨x1, x2⟩
      rcases hc with hc | hc
      · exact hc x1
      · rw [hc] at x2; cases x2
    rw [hQ, e]
    exact ⟨⟨none, 0, none, 0⟩, rfl, firm_zero, h1, h2⟩)
  have HQY : Hid (∀ w' h', R.2.1 = 0 → sameL R.2.2 t.ls = false → FirmS (fun q => B ≤ q ∧ q < w.heap.size) w' (.mk t.k 0 t.s R.2.2 []) h' → LevInv bo bc y0 B K R.1 w' → RanS (fun q => q = K) w w' → Q (.returned (.tuple #[(Tm.mk t.k 0 t.s R.2.2 []).val h', .int .i64 0])) w') := Lib.hid (fun w' h' hc hs h0 h1 h2 => by
    have e : lfLev y t u = (R.1, R.2.1, some (.mk t.k 0 t.s R.2.2 [])) := by
      rw [hR] at hc hs ⊢
      unfold lfLev
      rw [if_pos ⟨hc, hs⟩]
    rw [hQ, e, hc]
    exact ⟨h', rfl, h0, h1, h2⟩)
  rw [← hQ]
  rw [← hnl] at c3 hn4
  have hmk := fun W => make_levels n hn4 W
  have HR := Lib.hid hR
  have HNL := Lib.hid hnl
  have HROW := Lib.hid hrow
  have HLOW := Lib.hid hlow
  have HI := Lib.hid hi
  have HFIT := Lib.hid hfit
  have HW0 := Lib.hid (show LBlk ((w.alloc (.cells #[.int .u8 0, .int .i64 0, .string no, .slice none 0 0, .slice none 0 0] 25)).alloc (zeros n)) (w.heap.size + 1) n [] from by
    have := LBlk.made (w.alloc (.cells #[.int .u8 0, .int .i64 0, .string no, .slice none 0 0, .slice none 0 0] 25)) n
    rwa [World.size_alloc] at this)
  have HZ0 := Lib.hid (new1of2 w (.cells #[.int .u8 0, .int .i64 0, .string no, .slice none 0 0, .slice none 0 0] 25) (zeros n))
  have HB0 := Lib.hid (below_two w (.cells #[.int .u8 0, .int .i64 0, .string no, .slice none 0 0, .slice none 0 0] 25) (zeros n))
  have HC0 := Lib.hid c0
  have HC2 := Lib.hid c2
  have HC3 := Lib.hid c3
  clear hQ hR hnl hin hrow hlow hi hn hfit c0 c1 c2 c4
  go_enter Try.func91, Try.ntmps91
  go_wp2_with fail
  go_loopw [23] (fun i wr => LvRel w t.ls bo bc y0 K n R i wr) (fun i _ => n - (intOf i).toNat)
  case atStart => exact ⟨0, y, [], rfl, by omega, rfl, by rw [HR.out]; rfl, by rw [HR.out]; rfl, fun _ => by rw [HR.out]; rfl, Lvl.keep HB0.out HI.out.1, HI.out.2.1, HW0.out, HZ0.out, RanS.of_below HB0.out⟩
  case round =>
    clear HW0 HZ0 HB0 hmk c3
    obtain ⟨k, y', out, rfl, hk, hol, h1, h2, h3, hKc, hyy, hblk, hz, hran⟩ := hrel
    subst hol
    have hszr := hran.size
    have hbel : Below B w wr := hran.below (fun q hq => by omega) hB
    have hinv : LevInv bo bc y0 B K y' wr := ⟨hKc, hyy, LRow.low HI.out.2.2.1 HI.out.2.2.2 hbel, HI.out.2.2.2⟩
    have hy'l := hinv.len
    have HINV := Lib.hid hinv
    have HKC := Lib.hid hKc
    have HBLK := Lib.hid hblk
    have HZ := Lib.hid hz
    have HRAN := Lib.hid hran
    have HBEL := Lib.hid hbel
    have HLI := Lib.hid (fun (W : World) (x : List Lv) (hk : W.heap[K]? = some (.cells #[.slice bo x.length bc] 22)) (hx : x = y0 ∨ x = y0.take 4) (hr : RanS (fun q => q = K) w W) => (show LevInv bo bc y0 B K x W from ⟨hk, hx, LRow.low HI.out.2.2.1 HI.out.2.2.2 (hr.below (fun q hq => by omega) hB), HI.out.2.2.2⟩))
    have lK : K < wr.heap.size := by omega
    have lG : w.heap.size + 1 < wr.heap.size := hblk.lt
    have hKG : K ≠ w.heap.size + 1 := by omega
    have cK := one_cell hKc
    by_cases hlt : out.length < n
    · have hltl : out.length < t.ls.length := by rw [← HNL.out]; exact hlt
      obtain ⟨b2, off2, hlo, l0, l1, l2, l3, l4⟩ := (LRow.low HROW.out HLOW.out hbel).place out.length hltl
      subst hlo
      rw [List.drop_eq_getElem_cons hltl] at h1 h2 h3
      generalize t.ls[out.length] = l at l0 l1 l2 l3 l4 h1 h2 h3
      have lb2 : b2 < wr.heap.size := World.block_lt_of_cell? wr _ l0
      obtain ⟨A, q, hA⟩ : ∃ A q, inst l y' = (A, q) := ⟨_, _, rfl⟩
      have HIN := Lib.hid (fun (W : World) (hW : Below wr.heap.size wr W) => (show Calls Try.prog 92 #[.agg #[.int .i64 l.c, .int .i64 l.p0, .int .i64 l.p1, .int .i64 l.p2, .int .i64 l.p3], .slice bo y'.length bc] W (fun e w' => e = .returned (.tuple #[.agg #[.int .i64 A.c, .int .i64 A.p0, .int .i64 A.p1, .int .i64 A.p2, .int .i64 A.p3], .int .i64 q]) ∧ Below W.heap.size W w') from by
        have := inst_any l bo bc y' W (LRow.low HINV.out.levels (fun hp a ha => HINV.out.2.2.2 (by omega) a ha) (hW.mono (by omega))) (by omega)
        rw [hA] at this
        exact this))
      unfold levL at h1 h2 h3
      rw [hA] at h1 h2 h3
      dsimp only at h1 h2 h3
      have H1 := Lib.hid h1
      have H2 := Lib.hid h2
      have H3 := Lib.hid h3
      clear h1 h2 h3 hA hKc hblk hz hran hbel hinv
      go_wp2_with fail
      refine (HIN.out _ (below_one _ _)).mono ?_
      rintro e w2 ⟨rfl, bb⟩
      have hb2 : Below wr.heap.size wr w2 := Trm.go (below_one wr _) bb
      have HB2 := Lib.hid hb2
      have HK2 := Lib.hid (Lvl.keep hb2 HKC.out)
      have hZ2 := Lvl.keep hb2 HZ.out
      have HZ2 := Lib.hid hZ2
      have hL2 := HBLK.out.of_block (hb2.block _ lG)
      have HL2 := Lib.hid hL2
      have HRAN2 := Lib.hid (HRAN.out.trans (RanS.of_below hb2))
      have lK2 : K < w2.heap.size := by have := hb2.size; omega
      have lG2 : w.heap.size + 1 < w2.heap.size := hL2.lt
      have lA2 : w.heap.size < w2.heap.size := by omega
      clear bb hb2 l0 l1 l2 l3 l4 lb2 cK
      have cK := one_cell HK2.out
      by_cases hq : q = 0
      · subst hq
        obtain ⟨v0, g0⟩ := hL2.has (i := out.length * 5) (by omega)
        obtain ⟨v1, g1⟩ := hL2.has (i := out.length * 5 + 1) (by omega)
        obtain ⟨v2, g2⟩ := hL2.has (i := out.length * 5 + 2) (by omega)
        obtain ⟨v3, g3⟩ := hL2.has (i := out.length * 5 + 3) (by omega)
        obtain ⟨v4, g4⟩ := hL2.has (i := out.length * 5 + 4) (by omega)
        have fG : ∀ i, w2.frozen? ⟨w.heap.size + 1, i, none⟩ = false := fun i => hL2.free i
        have fK : w2.frozen? ⟨K, 0, none⟩ = false := free_one HK2.out
        obtain ⟨M, hM⟩ : ∃ M, M = (y'.take 4).length := ⟨_, rfl⟩
        have hMm : min (y'.length : Int) 4 = (M : Int) := by rw [hM, List.length_take]; omega
        have hMc : M ≤ bc := by rw [hM, List.length_take]; omega
        have hcut := fun W => cut_levels bo y'.length bc M hMc W
        have HM := Lib.hid hM
        clear hL2 hM hZ2
        go_wp2_with fail
        have h5 := HL2.out.put hlt A
        have r5 := RanS.putO HRAN2.out (by omega : w.heap.size ≤ w.heap.size + 1) (out.length * 5) (.int .i64 A.c) (.int .i64 A.p0) (.int .i64 A.p1) (.int .i64 A.p2) (.int .i64 A.p3)
        have k5 := ((putO_ran w2 (w.heap.size + 1) (out.length * 5) (.int .i64 A.c) (.int .i64 A.p0) (.int .i64 A.p1) (.int .i64 A.p2) (.int .i64 A.p3)).block K lK2 hKG).trans HK2.out
        have z5 := ((putO_ran w2 (w.heap.size + 1) (out.length * 5) (.int .i64 A.c) (.int .i64 A.p0) (.int .i64 A.p1) (.int .i64 A.p2) (.int .i64 A.p3)).block w.heap.size lA2 (by omega)).trans HZ2.out
        unfold putO at r5 k5 z5
        generalize hW : ((((w2.setCell ⟨w.heap.size + 1, out.length * 5, none⟩ (.int .i64 A.c)).setCell ⟨w.heap.size + 1, out.length * 5 + 1, none⟩ (.int .i64 A.p0)).setCell ⟨w.heap.size + 1, out.length * 5 + 2, none⟩ (.int .i64 A.p1)).setCell ⟨w.heap.size + 1, out.length * 5 + 3, none⟩ (.int .i64 A.p2)).setCell ⟨w.heap.size + 1, out.length * 5 + 4, none⟩ (.int .i64 A.p3) = W5 at h5 r5 k5 z5 ⊢
        have h6 := h5.of_block ((Ran.set W5 K 0 (.slice bo M bc)).block _ h5.lt (Ne.symm hKG))
        have k6 := Lvl.put_one k5 (.slice bo M bc)
        have z6 := Lvl.cells_other z5 (o := 0) (.slice bo M bc) (show K ≠ w.heap.size by omega)
        have r6 : RanS (fun q => q = K) w (W5.setCell ⟨K, 0, none⟩ (.slice bo M bc)) := r5.trans (RanS.of_ran (P := fun q => q = K) (Ran.set W5 K 0 (.slice bo M bc)) rfl)
        clear hW h5 r5 k5 z5
        generalize hW : W5.setCell ⟨K, 0, none⟩ (.slice bo M bc) = W6 at h6 k6 z6 r6 ⊢
        have h7 := h6.of_block ((below_one W6 (.cells #[.int .i64 A.c, .int .i64 A.p0, .int .i64 A.p1, .int .i64 A.p2, .int .i64 A.p3] 83)).block _ h6.lt)
        have k7 := keepA k6 (.cells #[.int .i64 A.c, .int .i64 A.p0, .int .i64 A.p1, .int .i64 A.p2, .int .i64 A.p3] 83)
        have z7 := keepA z6 (.cells #[.int .i64 A.c, .int .i64 A.p0, .int .i64 A.p1, .int .i64 A.p2, .int .i64 A.p3] 83)
        have r7 := r6.more (.cells #[.int .i64 A.c, .int .i64 A.p0, .int .i64 A.p1, .int .i64 A.p2, .int .i64 A.p3] 83)
        rw [HM.out] at k7
        clear hW
        go_roundw
        case rel => exact ⟨out.length + 1, y'.take 4, out ++ [A], by go_num, by omega, by simp, by have := H1.out; rwa [if_pos trivial] at this, by have := H2.out; rwa [if_pos trivial] at this, fun hr => by have := H3.out hr; rw [if_pos trivial] at this; rw [this, List.append_assoc]; rfl, k7, by rcases hyy with e | e <;> (rw [e]; right; simp [List.take_take]), h7, z7, r7⟩
        case measure => simp [intOf]; omega
      · have hdq : (q != 0) = true := by simpa using hq
        obtain ⟨a0, a1, a2, a3, a4⟩ := five_cells hZ2
        obtain ⟨f0, f1, f2, f3, f4⟩ := five_free hZ2
        have H1' := Lib.hid (show y' = R.1 by have := H1.out; rwa [if_neg hq] at this)
        have H2' := Lib.hid (show q = R.2.1 by have := H2.out; rwa [if_neg hq] at this)
        have HNE := Lib.hid hq
        clear hq hL2 H1 H2 H3
        go_wp2_with fail
        have h5 := putT_self HZ2.out (.int .u8 0) (.int .i64 0) (.string no) (.slice none 0 0) (.slice none 0 0)
        have s5 := RanS.put HRAN2.out (Nat.le_refl w.heap.size) (.int .u8 0) (.int .i64 0) (.string no) (.slice none 0 0) (.slice none 0 0)
        have k5 := ((putT_ran w2 w.heap.size (.int .u8 0) (.int .i64 0) (.string no) (.slice none 0 0) (.slice none 0 0)).block K lK2 (by omega)).trans HK2.out
        unfold putT no at h5 s5 k5
        generalize hW : ((((w2.setCell ⟨w.heap.size, 0, none⟩ (.int .u8 0)).setCell ⟨w.heap.size, 1, none⟩ (.int .i64 0)).setCell ⟨w.heap.size, 2, none⟩ (.string ⟨#[]⟩)).setCell ⟨w.heap.size, 3, none⟩ (.slice none 0 0)).setCell ⟨w.heap.size, 4, none⟩ (.slice none 0 0) = W4 at h5 s5 k5 ⊢
        have h6 := keepA h5 (.cells #[.int .i64 A.c, .int .i64 A.p0, .int .i64 A.p1, .int .i64 A.p2, .int .i64 A.p3] 83)
        have s6 := s5.more (.cells #[.int .i64 A.c, .int .i64 A.p0, .int .i64 A.p1, .int .i64 A.p2, .int .i64 A.p3] 83)
        have k6 := keepA k5 (.cells #[.int .i64 A.c, .int .i64 A.p0, .int .i64 A.p1, .int .i64 A.p2, .int .i64 A.p3] 83)
        clear hW
        generalize hW : W4.alloc (.cells #[.int .i64 A.c, .int .i64 A.p0, .int .i64 A.p1, .int .i64 A.p2, .int .i64 A.p3] 83) = W5 at h6 s6 k6 ⊢
        obtain ⟨e0, e1, e2, e3, e4⟩ := five_cells h6
        clear hW
        exact bodyPost_ret (v := .tuple #[zeroT.val ⟨none, 0, none, 0⟩, .int .i64 q]) (by simp [results, Try.results91, go_sem, e0, e1, e2, e3, e4, zeroT, Tm.val, Tm.vals, Tm.k, Tm.n, Tm.s, Tm.ls, Tm.ts, no]) rfl (by
          have := HQZ.out W5 (Or.inl (by rw [← H2'.out]; exact HNE.out)) (HLI.out W5 R.1 (by rw [← H1'.out]; exact k6) (by rw [← H1'.out]; exact hyy) s6) s6
          rwa [← H2'.out] at this)
    · have hnk : out.length = n := by omega
      have hdn : t.ls.drop out.length = [] := by rw [hnk, HNL.out]; exact List.drop_length
      rw [hdn] at h1 h2 h3
      unfold levL at h1 h2 h3
      dsimp only at h1 h2 h3
      rw [List.append_nil] at h3
      have H1 := Lib.hid h1
      have H2 := Lib.hid h2
      have H3 := Lib.hid (h3 h2.symm)
      have hKI : LevInv bo bc y0 B K R.1 wr := h1 ▸ hinv
      have HKI := Lib.hid hKI
      have HEQ : Hid (Calls Try.prog 69 #[.slice (some ⟨w.heap.size + 1, 0, none⟩) n n, .slice lo n lc] wr (fun e w' => e = .returned (.bool (sameL out t.ls)) ∧ Drawn wr w')) := Lib.hid (by
        have := Equal_any (some ⟨w.heap.size + 1, 0, none⟩) lo n lc out t.ls wr hblk.row (LRow.low HROW.out HLOW.out hbel) (by omega)
        rwa [hnk, ← HNL.out] at this)
      have x3 := (hran.cell (p := ⟨b, o + 3, none⟩) hb hbP).trans HC3.out
      have X0 := Lib.hid ((hran.cell (p := ⟨b, o, none⟩) hb hbP).trans HC0.out)
      have X2 := Lib.hid ((hran.cell (p := ⟨b, o + 2, none⟩) hb hbP).trans HC2.out)
      have lb : b < wr.heap.size := by omega
      have lA : w.heap.size < wr.heap.size := by omega
      clear h1 h2 h3 hinv hKI hKc hblk hz hran hbel hdn
      go_wp2_with fail
      refine HEQ.out.mono ?_
      rintro e w3 ⟨rfl, hdr⟩
      have HDR := Lib.hid hdr
      have hZ3 : w3.heap[w.heap.size]? = _ := (congrArg (fun h => h[w.heap.size]?) hdr.heap).trans HZ.out
      have HZ3 := Lib.hid hZ3
      have HR3 := Lib.hid (HRAN.out.trans (RanS.of_below (hdr.below wr.heap.size)))
      have HK3 := Lib.hid (LevInv.keep (N := wr.heap.size) (by omega) (by omega) _ _ _ HKI.out (hdr.below wr.heap.size))
      have HL3 := Lib.hid (HBLK.out.of_block (congrArg (fun h => h[w.heap.size + 1]?) hdr.heap))
      have x0 := (Trm.cell_heap hdr.heap ⟨b, o, none⟩).trans X0.out
      have x2 := (Trm.cell_heap hdr.heap ⟨b, o + 2, none⟩).trans X2.out
      have lb3 : b < w3.heap.size := by rw [hdr.heap]; exact lb
      have lA3 : w.heap.size < w3.heap.size := by rw [hdr.heap]; exact lA
      obtain ⟨a0, a1, a2, a3, a4⟩ := five_cells hZ3
      obtain ⟨f0, f1, f2, f3, f4⟩ := five_free hZ3
      clear x3 cK hdr hZ3
      cases hsm : sameL out t.ls
      · have HSM := Lib.hid hsm
        clear hsm
        go_wp2_with fail
        go_region
        go_wp2_with fail
        have h5 := putT_self HZ3.out (.int .u8 t.k) (.int .i64 0) (.string t.s) (.slice (some ⟨w.heap.size + 1, 0, none⟩) n n) (.slice none 0 0)
        have s5 := RanS.put HR3.out (Nat.le_refl w.heap.size) (.int .u8 t.k) (.int .i64 0) (.string t.s) (.slice (some ⟨w.heap.size + 1, 0, none⟩) n n) (.slice none 0 0)
        have k5 := LevInv.keep (N := w.heap.size) (by omega) (by omega) _ _ _ HK3.out ((putT_ran w3 w.heap.size (.int .u8 t.k) (.int .i64 0) (.string t.s) (.slice (some ⟨w.heap.size + 1, 0, none⟩) n n) (.slice none 0 0)).below (Nat.le_refl _) (by omega))
        have l5 := HL3.out.of_block ((putT_ran w3 w.heap.size (.int .u8 t.k) (.int .i64 0) (.string t.s) (.slice (some ⟨w.heap.size + 1, 0, none⟩) n n) (.slice none 0 0)).block _ HL3.out.lt (by omega))
        unfold putT at h5 s5 k5 l5
        generalize hW : ((((w3.setCell ⟨w.heap.size, 0, none⟩ (.int .u8 t.k)).setCell ⟨w.heap.size, 1, none⟩ (.int .i64 0)).setCell ⟨w.heap.size, 2, none⟩ (.string t.s)).setCell ⟨w.heap.size, 3, none⟩ (.slice (some ⟨w.heap.size + 1, 0, none⟩) n n)).setCell ⟨w.heap.size, 4, none⟩ (.slice none 0 0) = W4 at h5 s5 k5 l5 ⊢
        have hW4 : w.heap.size < W4.heap.size := (Array.getElem?_eq_some_iff.1 h5).1
        have hwW : w.heap.size ≤ W4.heap.size := by omega
        have h6 := Lvl.keep (Below.refl W4.heap.size W4).drew h5
        have s6 := s5.trans (RanS.of_below (Below.refl W4.heap.size W4).drew)
        have k6 := LevInv.keep (N := w.heap.size) (by omega) (by omega) _ _ _ k5 ((Below.refl W4.heap.size W4).drew.mono hwW)
        have l6 := l5.of_block ((Below.refl W4.heap.size W4).drew.block _ l5.lt)
        clear hW h5 s5 k5 l5
        generalize hW : W4.drew = W5 at h6 s6 k6 l6 ⊢
        clear hW hW4 hwW
        obtain ⟨e0, e1, e2, e3, e4⟩ := five_cells h6
        have hRn : R.2.2.length = n := by rw [H3.out]; exact hnk
        have hfm : FirmS (fun q => B ≤ q ∧ q < w.heap.size) W5 (.mk t.k 0 t.s R.2.2 []) ⟨some ⟨w.heap.size + 1, 0, none⟩, n, none, 0⟩ := fun w' hr => by
          have l7 := l6.of_block (hr.block _ l6.lt (by omega))
          have h7 := l7.row
          rw [← H3.out] at h7
          exact Tm.In_iff.2 ⟨⟨HFIT.out.k0, HFIT.out.k1, by simp [Tm.n], by simp [Tm.n], HFIT.out.s, by simp only [Tm.ls]; omega, by simp [Tm.ts]⟩, h7, fun _ a ha => by
            cases ha
            exact l7.lt, RowIn.mk fun i hi => by simp [Tm.ts] at hi⟩
        exact bodyPost_ret (v := .tuple #[(Tm.mk t.k 0 t.s R.2.2 []).val ⟨some ⟨w.heap.size + 1, 0, none⟩, n, none, 0⟩, .int .i64 0]) (by simp [results, Try.results91, go_sem, e0, e1, e2, e3, e4, hRn, Tm.val, Tm.vals, Tm.k, Tm.n, Tm.s, Tm.ls, Tm.ts]) rfl (HQY.out W5 _ H2.out.symm (by rw [H3.out]; exact HSM.out) hfm k6 s6)
      · have HSM := Lib.hid hsm
        clear hsm
        go_wp2_with fail
        have h5 := putT_self HZ3.out (.int .u8 0) (.int .i64 0) (.string no) (.slice none 0 0) (.slice none 0 0)
        have s5 := RanS.put HR3.out (Nat.le_refl w.heap.size) (.int .u8 0) (.int .i64 0) (.string no) (.slice none 0 0) (.slice none 0 0)
        have k5 := LevInv.keep (N := w.heap.size) (by omega) (by omega) _ _ _ HK3.out ((putT_ran w3 w.heap.size (.int .u8 0) (.int .i64 0) (.string no) (.slice none 0 0) (.slice none 0 0)).below (Nat.le_refl _) (by omega))
        unfold putT no at h5 s5 k5
        generalize hW : ((((w3.setCell ⟨w.heap.size, 0, none⟩ (.int .u8 0)).setCell ⟨w.heap.size, 1, none⟩ (.int .i64 0)).setCell ⟨w.heap.size, 2, none⟩ (.string ⟨#[]⟩)).setCell ⟨w.heap.size, 3, none⟩ (.slice none 0 0)).setCell ⟨w.heap.size, 4, none⟩ (.slice none 0 0) = W4 at h5 s5 k5 ⊢
        obtain ⟨e0, e1, e2, e3, e4⟩ := five_cells h5
        clear hW
        exact bodyPost_ret (v := .tuple #[zeroT.val ⟨none, 0, none, 0⟩, .int .i64 0]) (by simp [results, Try.results91, go_sem, e0, e1, e2, e3, e4, zeroT, Tm.val, Tm.vals, Tm.k, Tm.n, Tm.s, Tm.ls, Tm.ts, no]) rfl (by
          have := HQZ.out W4 (Or.inr (by rw [H3.out]; exact HSM.out)) k5 s5
          rwa [← H2.out] at this)
end Go.Proofs.Ytijdlihodpodjaa

/-
  subst.Levels: the mathematics, the function.
-/
namespace Go.Proofs.Ytijdlihodpodjaa
open Go.RowKit Go.Shelf Lvl Trm

namespace Trm
theorem instFold_take (L : List Lv) : ∀ (p : List (Int × Int)) (o : Option Lv), (∀ x ∈ p, x.1.toNat < 4) → p.foldl (instStep (L.take 4)) o = p.foldl (instStep L) o
  | [], o, _ => rfl
  | x :: p, o, h => by
    rw [List.foldl_cons, List.foldl_cons]
    have h0 := h x (by simp)
    have e : instStep (L.take 4) o x = instStep L o x := by
      cases o with
      | none => rfl
      | some o =>
        unfold instStep
        dsimp only
        by_cases hx : x.1.toNat < L.length
        · rw [dif_pos hx, dif_pos (by rw [List.length_take]; omega), List.getElem_take]
        · rw [dif_neg hx, dif_neg (by rw [List.length_take]; omega)]
    rw [e]
    exact instFold_take L p _ (fun y hy => h y (by simp [hy]))
theorem inst_take {L : List Lv} (h : L.all Lv.may = true) (l : Lv) : inst l (L.take 4) = inst l L := by
  have h4 : (L.take 4).all Lv.may = true := by
    rw [List.all_eq_true] at h ⊢
    exact fun x hx => h x (List.mem_of_mem_take hx)
  have e : instAll (L.take 4) (number l.c) l.ps = instAll L (number l.c) l.ps := instFold_take L l.ps _ (fun x hx => by
    obtain ⟨k, hk, rfl, _⟩ := mem_ps_k hx
    simpa using hk)
  unfold inst
  rw [h, h4, e]
theorem inst_all {L : List Lv} {l : Lv} (h : (inst l L).2 = 0) : L.all Lv.may = true := by
  unfold inst at h
  by_cases hc : l.may = true ∧ L.all Lv.may = true
  · exact hc.2
  · rw [if_neg hc] at h
    cases h
/-- What of the levels is left at any time: all of them, or the first four of such as may be. -/
def LGood (L y : List Lv) : Prop := y = L ∨ (y = L.take 4 ∧ L.all Lv.may = true)
theorem LGood.inst {L y : List Lv} (h : LGood L y) (l : Lv) : inst l y = inst l L := by
  rcases h with rfl | ⟨rfl, ha⟩
  · rfl
  · exact inst_take ha l
theorem LGood.next {L y : List Lv} (h : LGood L y) {l : Lv} (ho : (Lvl.inst l y).2 = 0) : LGood L (y.take 4) := by
  rcases h with rfl | ⟨rfl, ha⟩
  · exact .inr ⟨rfl, inst_all ho⟩
  · exact .inr ⟨by simp [List.take_take], ha⟩
def fL (L : List Lv) (l : Lv) : Lv := (inst l L).1
def okL (L : List Lv) (l : Lv) : Prop := (inst l L).2 = 0
theorem levL_spec {L : List Lv} : ∀ (ls y : List Lv), LGood L y → ((levL ls y).2.1 = 0 ↔ ∀ l ∈ ls, okL L l) ∧ ((levL ls y).2.1 = 0 → LGood L (levL ls y).1 ∧ (levL ls y).2.2 = ls.map (fL L))
  | [], y, h => by rw [levL]; exact ⟨⟨fun _ l hl => (by cases hl), fun _ => rfl⟩, fun _ => ⟨h, rfl⟩⟩
  | l :: r, y, h => by
    rw [levL]
    by_cases ho : (inst l y).2 = 0
    · rw [if_pos ho]
      have e := h.inst l
      obtain ⟨h1, h2⟩ := levL_spec r (y.take 4) (h.next ho)
      have ho2 : okL L l := by unfold okL; rw [← e]; exact ho
      refine ⟨⟨fun hh x hx => ?_, fun hh => h1.2 (fun x hx => hh x (by simp [hx]))⟩, fun hh => ⟨(h2 hh).1, ?_⟩⟩
      · rcases List.mem_cons.1 hx with rfl | hx
        · exact ho2
        · exact h1.1 hh x hx
      · show (inst l y).1 :: _ = _
        rw [(h2 hh).2, e]; rfl
    · rw [if_neg ho]
      refine ⟨⟨fun hh => absurd hh ho, fun hh => ?_⟩, fun hh => absurd hh ho⟩
      have := hh l (by simp)
      unfold okL at this
      rw [← h.inst l] at this
      exact absurd this ho

mutual
/-- Other levels. -/
def Tm.lmap (f : Lv → Lv) : Tm → Tm
  | .mk k n s ls ts => .mk k n s (ls.map f) (lmapL f ts)
def lmapL (f : Lv → Lv) : List Tm → List Tm
  | [] => []
  | t :: r => t.lmap f :: lmapL f r
end
mutual
/-- Of all levels. -/
def Tm.allL (p : Lv → Prop) : Tm → Prop
  | .mk _ _ _ ls ts => (∀ l ∈ ls, p l) ∧ allLL p ts
def allLL (p : Lv → Prop) : List Tm → Prop
  | [] => True
  | t :: r => t.allL p ∧ allLL p r
end
theorem lmap_tV (f : Lv → Lv) (n : Int) : (tV n).lmap f = tV n := by
  unfold tV
  rw [Tm.lmap, lmapL]; rfl
mutual
theorem put_lmap {f : Lv → Lv} {g g' : Int → Int → Tm} (hg : ∀ v u, g' v u = (g v u).lmap f) : ∀ (t : Tm) (u : Int), (t.lmap f).put g' u = (t.put g u).lmap f
  | .mk k n s ls ts, u => by
    rw [Tm.lmap, Tm.put, Tm.put]
    by_cases hc : k = 2 ∧ u ≤ n
    · rw [if_pos hc, if_pos hc]
      exact hg _ _
    · rw [if_neg hc, if_neg hc, Tm.lmap, putL_lmap hg k ts 0 u]
theorem putL_lmap {f : Lv → Lv} {g g' : Int → Int → Tm} (hg : ∀ v u, g' v u = (g v u).lmap f) (k : Int) : ∀ (ts : List Tm) (i : Nat) (u : Int), putL g' k (lmapL f ts) i u = lmapL f (putL g k ts i u)
  | [], i, u => by rw [lmapL, putL, putL, lmapL]
  | t :: r, i, u => by rw [lmapL, putL, putL, lmapL, put_lmap hg t, putL_lmap hg k r]
end
theorem lift_lmap (f : Lv → Lv) (a b : Int) (t : Tm) (u : Int) : (t.lmap f).put (gLift a b) u = (t.put (gLift a b) u).lmap f :=
  put_lmap (fun v u => by unfold gLift ren; rw [lmap_tV]) t u
theorem inst_lmap (f : Lv → Lv) (x t : Tm) (u : Int) : (t.lmap f).put (gInst [x.lmap f]) u = (t.put (gInst [x]) u).lmap f :=
  put_lmap (fun v u => by
    by_cases hv : 0 ≤ v ∧ v < (1 : Nat)
    · obtain rfl : v = 0 := by omega
      have e : ∀ y : Tm, gInst [y] 0 u = y.put (gLift 0 u) 0 := fun y => gInst_last [] u
      rw [e, e, lift_lmap]
    · rw [gInst_no (l := [x]) hv, gInst_no (l := [x.lmap f]) hv, lmap_tV]
      rfl) t u
mutual
theorem allL_put {p : Lv → Prop} {g : Int → Int → Tm} (hg : ∀ v u, (g v u).allL p) : ∀ (t : Tm) (u : Int), t.allL p → (t.put g u).allL p
  | .mk k n s ls ts, u, h => by
    rw [Tm.allL] at h
    rw [Tm.put]
    by_cases hc : k = 2 ∧ u ≤ n
    · rw [if_pos hc]
      exact hg _ _
    · rw [if_neg hc, Tm.allL]
      exact ⟨h.1, allLL_put hg k ts 0 u h.2⟩
theorem allLL_put {p : Lv → Prop} {g : Int → Int → Tm} (hg : ∀ v u, (g v u).allL p) (k : Int) : ∀ (ts : List Tm) (i : Nat) (u : Int), allLL p ts → allLL p (putL g k ts i u)
  | [], i, u, _ => by rw [putL, allLL]; trivial
  | t :: r, i, u, h => by
    rw [allLL] at h
    rw [putL, allLL]
    exact ⟨allL_put hg t _ h.1, allLL_put hg k r _ _ h.2⟩
end
theorem allL_tV (p : Lv → Prop) (n : Int) : (tV n).allL p := by
  unfold tV
  rw [Tm.allL, allLL]
  exact ⟨fun l hl => (by cases hl), trivial⟩
theorem allL_lift {p : Lv → Prop} {t : Tm} (h : t.allL p) (a b u : Int) : (t.put (gLift a b) u).allL p := allL_put (fun _ _ => allL_tV p _) t u h
theorem allL_inst {p : Lv → Prop} {t x : Tm} (h : t.allL p) (hx : x.allL p) (u : Int) : (t.put (gInst [x]) u).allL p := allL_put (fun v u => by
  by_cases hv : 0 ≤ v ∧ v < (1 : Nat)
  · obtain rfl : v = 0 := by omega
    rw [show gInst [x] 0 u = x.put (gLift 0 u) 0 from gInst_last [] u]
    exact allL_lift hx _ _ _
  · rw [gInst_no (l := [x]) hv]
    exact allL_tV p _) t u h
mutual
theorem lmap_size (f : Lv → Lv) : ∀ t : Tm, (t.lmap f).size = t.size
  | .mk k n s ls ts => by rw [Tm.lmap, Tm.size, Tm.size, lmapL_size f ts]
theorem lmapL_size (f : Lv → Lv) : ∀ ts : List Tm, sizeL (lmapL f ts) = sizeL ts
  | [] => by rw [lmapL]
  | t :: r => by rw [lmapL, sizeL, sizeL, lmap_size f t, lmapL_size f r]
end
mutual
theorem lmap_vs (f : Lv → Lv) : ∀ (t : Tm) (u : Int), (t.lmap f).vs u = t.vs u
  | .mk k n s ls ts, u => by rw [Tm.lmap, Tm.vs, Tm.vs, lmapL_vs f k ts 0 u]
theorem lmapL_vs (f : Lv → Lv) (k : Int) : ∀ (ts : List Tm) (i : Nat) (u : Int), vsL k (lmapL f ts) i u = vsL k ts i u
  | [], i, u => by rw [lmapL]
  | t :: r, i, u => by rw [lmapL, vsL, vsL, lmap_vs f t, lmapL_vs f k r]
end
theorem lmap_free {f : Lv → Lv} {t : Tm} (h : t.may = true) (h2 : (t.lmap f).may = true) : (t.lmap f).free = t.free := by
  rw [free_top h, free_top h2, lmap_vs]

theorem node_ls0 {t : Tm} (h : t.node = true) (hl : t.ls ≠ []) : t.n = 0 := by
  unfold Tm.node at h
  simp only [Bool.and_eq_true] at h
  obtain ⟨⟨_, h5⟩, h6⟩ := h
  have hk : t.k = 1 ∨ t.k = 3 := by
    by_cases h1 : t.k = 1
    · exact .inl h1
    · by_cases h3 : t.k = 3
      · exact .inr h3
      · rw [if_neg h1, if_neg h3] at h6
        exact absurd (List.eq_nil_of_length_eq_zero (of_decide_eq_true h6)) hl
  rw [if_neg (by omega), if_neg (by omega)] at h5
  exact of_decide_eq_true h5

mutual
theorem thr_lev {L : List Lv} : ∀ (t : Tm) (y : List Lv) (d u : Int), OkMay t d → LGood L y → ((t.thr lfLev y u).2.1 = 0 ↔ t.allL (okL L)) ∧ ((t.thr lfLev y u).2.1 = 0 → LGood L (t.thr lfLev y u).1 ∧ (t.thr lfLev y u).2.2.getD t = t.lmap (fL L))
  | .mk k n s ls ts, y, d, u, ho, hy => by
    rw [Tm.thr, Tm.allL, Tm.lmap]
    by_cases hts : ts.isEmpty = true
    · rw [if_pos hts]
      have h0 : ts = [] := List.isEmpty_iff.1 hts
      subst h0
      obtain ⟨h1, h2⟩ := levL_spec (L := L) ls y hy
      rw [allLL, lmapL]
      show ((levL ls y).2.1 = 0 ↔ _) ∧ ((levL ls y).2.1 = 0 → LGood L (levL ls y).1 ∧ (if (levL ls y).2.1 = 0 ∧ sameL (levL ls y).2.2 ls = false then some (Tm.mk k 0 s (levL ls y).2.2 []) else none).getD (Tm.mk k n s ls []) = _)
      refine ⟨⟨fun h => ⟨h1.1 h, trivial⟩, fun h => h1.2 h.1⟩, fun h => ⟨(h2 h).1, ?_⟩⟩
      have e := (h2 h).2
      cases hs : sameL (levL ls y).2.2 ls
      · rw [if_pos ⟨h, rfl⟩, e]
        have hn : n = 0 := node_ls0 ho.node.1 (fun hl => by
          have hl' : ls = [] := hl
          subst hl'
          rw [e] at hs
          have : sameL ([] : List Lv) [] = true := sameL_iff.2 rfl
          rw [List.map_nil, this] at hs
          cases hs)
        rw [hn]; rfl
      · rw [if_neg (by simp), ← e, sameL_iff.1 hs]; rfl
    · rw [if_neg hts]
      have hls : ls = [] := node_inner ho.node.1 (show ts ≠ [] by simpa using hts)
      subst hls
      obtain ⟨h1, h2⟩ := thrL_lev (L := L) k ts y (d + 1) u (fun x hx => ho.down x hx) hy
      unfold fin
      refine ⟨⟨fun h => ⟨fun l hl => (by cases hl), h1.1 h⟩, fun h => h1.2 h.2⟩, fun h => ?_⟩
      have h' : (thrL lfLev k ts y u).2.1 = 0 := h
      obtain ⟨h3, h4, h5⟩ := h2 h'
      refine ⟨h3, ?_⟩
      cases hcc : (thrL lfLev k ts y u).2.2.1
      · rw [if_neg (by simp), ← h4, h5 hcc]
        rfl
      · rw [if_pos (by simp [h']), ← h4]
        rfl
theorem thrL_lev {L : List Lv} (k : Int) : ∀ (ts : List Tm) (y : List Lv) (d u : Int), (∀ x ∈ ts, OkMay x d) → LGood L y → ((thrL lfLev k ts y u).2.1 = 0 ↔ allLL (okL L) ts) ∧ ((thrL lfLev k ts y u).2.1 = 0 → LGood L (thrL lfLev k ts y u).1 ∧ (thrL lfLev k ts y u).2.2.2 = lmapL (fL L) ts ∧ ((thrL lfLev k ts y u).2.2.1 = false → (thrL lfLev k ts y u).2.2.2 = ts))
  | [], y, d, u, _, hy => by rw [thrL, allLL, lmapL]; exact ⟨⟨fun _ => trivial, fun _ => rfl⟩, fun _ => ⟨hy, rfl, fun _ => rfl⟩⟩
  | t :: r, y, d, u, ho, hy => by
    obtain ⟨h1, h2⟩ := thr_lev (L := L) t y d (und k r.isEmpty u) (ho t (by simp)) hy
    rw [thrL, allLL, lmapL]
    by_cases he : (t.thr lfLev y (und k r.isEmpty u)).2.1 = 0
    · rw [if_pos he]
      obtain ⟨g1, e1⟩ := h2 he
      obtain ⟨h3, h4⟩ := thrL_lev (L := L) k r (t.thr lfLev y (und k r.isEmpty u)).1 d (und k r.isEmpty u) (fun x hx => ho x (by simp [hx])) g1
      refine ⟨⟨fun h => ⟨h1.1 he, h3.1 h⟩, fun h => h3.2 h.2⟩, fun h => ?_⟩
      obtain ⟨h5, h6, h7⟩ := h4 h
      refine ⟨h5, by rw [← h6, ← e1], fun hc => ?_⟩
      simp only [Bool.or_eq_false_iff] at hc
      have h8 : (t.thr lfLev y (und k r.isEmpty u)).2.2 = none := by simpa using hc.1
      rw [h7 hc.2, h8]; rfl
    · rw [if_neg he]
      exact ⟨⟨fun h => absurd h he, fun h => absurd (h1.2 h.1) he⟩, fun h => absurd h he⟩
end

/-- What Levels answers. -/
noncomputable def levelsAns (t : Tm) (L : List Lv) : Tm × Int := if t.may = false then (zeroT, 1) else ansT (tAns t (t.thr lfLev L 0)) (t.thr lfLev L 0).2.1
theorem levels_is {t : Tm} {L : List Lv} (ht : t.may = true) (ha : t.allL (okL L)) {x : Tm} (hx : t.lmap (fL L) = x) (hm : x.may = true) : levelsAns t L = (x, 0) := by
  obtain ⟨h1, h2⟩ := thr_lev (L := L) t L 1 0 (OkMay.start ht) (.inl rfl)
  have h0 := h1.2 ha
  unfold levelsAns tAns ansT
  rw [if_neg (by rw [ht]; simp), if_pos h0, (h2 h0).2, if_neg (by simp [h0]), hx, if_pos hm]
theorem levels_out {t : Tm} {L : List Lv} (ht : t.may = true) (h : (levelsAns t L).2 = 0) : t.allL (okL L) ∧ (t.lmap (fL L)).may = true := by
  obtain ⟨h1, h2⟩ := thr_lev (L := L) t L 1 0 (OkMay.start ht) (.inl rfl)
  unfold levelsAns tAns ansT at h
  rw [if_neg (by rw [ht]; simp)] at h
  by_cases h0 : (t.thr lfLev L 0).2.1 = 0
  · rw [if_pos h0, (h2 h0).2, if_neg (by simp [h0])] at h
    refine ⟨h1.1 h0, ?_⟩
    cases hm : (t.lmap (fL L)).may
    · rw [hm] at h
      simp at h
    · rfl
  · rw [if_pos h0] at h
    exact absurd h h0
theorem lift_three {x : Tm} (hx : x.may = true) (hf : x.free ≤ 1000) : liftAns x 0 3 = (x.put (gLift 0 3) 0, 0) ∧ (x.put (gLift 0 3) 0).may = true :=
  lift_ok hx (x := 3) (by omega) (by omega) (fun p h => by have := vps_free hx p h; omega)
/-- What SubstLevels asks. -/
theorem levels_facts {t u : Tm} {L : List Lv} (ht : t.may = true) (hu : u.may = true) (zt : t.size ≤ 30) (zu : u.size ≤ 30) (ft : t.free ≤ 1000) (fu : u.free ≤ 1000) (h1 : (levelsAns t L).2 = 0) (h2 : (levelsAns u L).2 = 0) :
    ∃ x y a b up d, levelsAns t L = (x, 0) ∧ levelsAns u L = (y, 0) ∧ instAns x [y] = (a, 0) ∧ instAns t [u] = (b, 0) ∧ levelsAns b L = (a, 0) ∧ liftAns t 0 3 = (up, 0) ∧ levelsAns up L = (d, 0) ∧ liftAns x 0 3 = (d, 0) := by
  obtain ⟨at', mt⟩ := levels_out ht h1
  obtain ⟨au, mu⟩ := levels_out hu h2
  have st := lmap_size (fL L) t
  have su := lmap_size (fL L) u
  have ft2 := lmap_free ht mt
  have fu2 := lmap_free hu mu
  have e1 := ht_size t
  have e2 := ht_size u
  have e3 := ht_size (t.lmap (fL L))
  have e4 := ht_size (u.lmap (fL L))
  have lu : ∀ x ∈ [u], x.may = true := by simp [hu]
  have ly : ∀ x ∈ [u.lmap (fL L)], x.may = true := by simp [mu]
  obtain ⟨a1, a2, _, _⟩ := inst_ok mt ly 30 30 30 30 (by omega) (by omega) (by omega) (by omega) (fun x hx => by
    simp at hx; subst hx; exact ⟨by omega, by omega, by omega⟩) (by omega) (by omega)
  obtain ⟨b1, b2, _, _⟩ := inst_ok ht lu 30 30 30 30 zt (by omega) (by omega) (by omega) (fun x hx => by
    simp at hx; subst hx; exact ⟨by omega, by omega, by omega⟩) (by omega) (by omega)
  obtain ⟨c1, c2⟩ := lift_three ht ft
  obtain ⟨d1, d2⟩ := lift_three mt (by omega)
  exact ⟨_, _, _, _, _, _, levels_is ht at' rfl mt, levels_is hu au rfl mu, a1, b1, levels_is b2 (allL_inst at' au 0) (inst_lmap (fL L) u t 0).symm a2, c1, levels_is c2 (allL_lift at' 0 3 0) (lift_lmap (fL L) 0 3 t 0).symm d2, d1⟩
end Trm

theorem Trm.leaf_levels {B N K : Nat} (hKN : K < N) (hBK : B ≤ K) (bo : Option Addr) (bc : Nat) (y0 : List Lv) (hy0 : y0.length ≤ 1000000) (hbc : y0.length ≤ bc) : Leaf B N (fun q => q = K) K 91 lfLev (LevInv bo bc y0 B K) (fun _ => True) where
  calls st t b o u w _ hi hn _ _ _ hat hB hN _ := levels1_any hKN hBK bo bc y0 hy0 hbc st t b o u w hi hn hat hB hN
  good _ _ _ _ _ _ _ := trivial
  kind st t u y hn _ h := by
    unfold lfLev at h
    dsimp only at h
    split at h
    · cases h
      have := (node_few hn).2.2.1
      show t.k ≠ 0
      omega
    · cases h
  keep := LevInv.keep hKN (by omega)
  low q hq := by subst hq; exact hBK
  enter args w := by kernel_rfl

set_option maxRecDepth 100000 in
set_option maxHeartbeats 4000000 in
theorem Levels_any (t : Tm) (h : Hd) (L : List Lv) (bo : Option Addr) (bc : Nat) (w : World) (hin : t.In w.heap.size w h) (hr : LRow w bo L) (hlo : Low w.heap.size bo L.length) (hL : L.length ≤ 1000000) (hbc : L.length ≤ bc) :
    Calls Try.prog 39 #[t.val h, .slice bo L.length bc] w fun e w' => ∃ h', e = .returned (.tuple #[(levelsAns t L).1.val h', .int .i64 (levelsAns t L).2]) ∧ (levelsAns t L).1.In w'.heap.size w' h' ∧ Below w.heap.size w w' := by
  have HM := Lib.hid (fun (W : World) (hW : Below w.heap.size w W) => PMay_any t h W (Tm.In.mono hW.size _ _ (Tm.In.below hW _ _ hin)))
  have HB0 := Lib.hid ((below_two w (t.box h) (.cells #[.slice bo L.length bc] 22)).alloc (by simp; omega) (.cells #[.int .u8 0, .int .i64 0, .string no, .slice none 0 0, .slice none 0 0] 25))
  have HX0 := Lib.hid (keepA (new1of2 w (t.box h) (.cells #[.slice bo L.length bc] 22)) (.cells #[.int .u8 0, .int .i64 0, .string no, .slice none 0 0, .slice none 0 0] 25))
  have HK0 := Lib.hid (keepA (new2 w (t.box h) (.cells #[.slice bo L.length bc] 22)) (.cells #[.int .u8 0, .int .i64 0, .string no, .slice none 0 0, .slice none 0 0] 25))
  have HA0 := Lib.hid (new3 w (t.box h) (.cells #[.slice bo L.length bc] 22) (.cells #[.int .u8 0, .int .i64 0, .string no, .slice none 0 0, .slice none 0 0] 25))
  have HIN := Lib.hid hin
  have HR := Lib.hid hr
  have HLO := Lib.hid hlo
  clear hin hr hlo
  cases hmay : t.may
  · have hs : levelsAns t L = (zeroT, 1) := if_pos hmay
    rw [hs]
    rw [hmay] at HM
    unfold Tm.val at HM ⊢
    dsimp only [Tm.vals] at HM ⊢
    clear hs hmay
    go_enter Try.func39, Try.ntmps39
    go_wp2_with fail
    refine (HM.out _ HB0.out).mono ?_
    rintro e w1 ⟨rfl, b1⟩
    have hA1 := Lvl.keep b1 HA0.out
    have HB1 := Lib.hid (Trm.go HB0.out b1)
    obtain ⟨a0, a1, a2, a3, a4⟩ := five_cells hA1
    obtain ⟨f0, f1, f2, f3, f4⟩ := five_free hA1
    have HA1 := Lib.hid hA1
    clear hA1 b1
    go_wp2_with fail
    have h5 := putT_self HA1.out (.int .u8 0) (.int .i64 0) (.string no) (.slice none 0 0) (.slice none 0 0)
    have b5 := putT_below HB1.out (by omega : w.heap.size ≤ w.heap.size + 1 + 1) (.int .u8 0) (.int .i64 0) (.string no) (.slice none 0 0) (.slice none 0 0)
    unfold putT no at h5 b5
    generalize hW : ((((w1.setCell ⟨w.heap.size + 1 + 1, 0, none⟩ (.int .u8 0)).setCell ⟨w.heap.size + 1 + 1, 1, none⟩ (.int .i64 0)).setCell ⟨w.heap.size + 1 + 1, 2, none⟩ (.string ⟨#[]⟩)).setCell ⟨w.heap.size + 1 + 1, 3, none⟩ (.slice none 0 0)).setCell ⟨w.heap.size + 1 + 1, 4, none⟩ (.slice none 0 0) = W4 at h5 b5 ⊢
    obtain ⟨e0, e1, e2, e3, e4⟩ := five_cells h5
    clear hW
    exact bodyPost_ret (v := .tuple #[zeroT.val ⟨none, 0, none, 0⟩, .int .i64 1]) (by simp [results, Try.results39, go_sem, e0, e1, e2, e3, e4, zeroT, Tm.val, Tm.vals, Tm.k, Tm.n, Tm.s, Tm.ls, Tm.ts, no]) rfl ⟨⟨none, 0, none, 0⟩, rfl, leaf_in (by decide) (by decide) (by decide) (by decide) (by decide), b5⟩
  · obtain ⟨a, ha⟩ : ∃ a, a = levelsAns t L := ⟨_, rfl⟩
    obtain ⟨y, hy⟩ : ∃ y, y = tAns t (t.thr lfLev L 0) := ⟨_, rfl⟩
    obtain ⟨z, hz⟩ : ∃ z, z = (t.thr lfLev L 0).2.1 := ⟨_, rfl⟩
    have hya : ansT y z = a := by
      rw [ha, hy, hz]
      unfold levelsAns
      rw [if_neg (by rw [hmay]; simp)]
    rw [← ha]
    rw [hmay] at HM
    have HTU := Lib.hid (fun (W : World) (hW : Below w.heap.size w W) (hK : W.heap[w.heap.size + 1]? = some (.cells #[.slice bo L.length bc] 22)) => show Calls Try.prog 83 #[t.val h, fnv 91 (w.heap.size + 1)] W (fun e w' => ∃ h', e = .returned (.tuple #[y.val h', .int .i64 z]) ∧ FirmS (fun q => w.heap.size ≤ q ∧ q < W.heap.size) w' y h' ∧ RanS (fun q => q = w.heap.size + 1) W w') from by
      have hKl := (Array.getElem?_eq_some_iff.1 hK).1
      have := turned_any (leaf_levels (B := w.heap.size) (N := W.heap.size) hKl (by omega) bo bc L hL hbc) t h L W hmay trivial ⟨hK, Or.inl rfl, LRow.low HR.out HLO.out hW, HLO.out⟩ (Tm.In.below hW _ _ HIN.out) hW.size (Nat.le_refl _) (fun q hq => by subst hq; exact hKl)
      rw [← hy, ← hz] at this
      exact this.mono (fun _ _ ⟨h', he, hf, _, hr⟩ => ⟨h', he, hf, hr⟩))
    have HAN := Lib.hid (fun (W : World) (h' : Hd) (hi : y.In W.heap.size W h') => by
      have := sub_answer_any y h' z W hi
      rw [hya] at this
      exact this)
    clear ha hy hz hya hmay
    obtain ⟨a1, a2⟩ := a
    unfold Tm.val at HM HTU HAN ⊢
    dsimp only [Tm.vals] at HM HTU HAN ⊢
    go_enter Try.func39, Try.ntmps39
    go_wp2_with fail
    refine (HM.out _ HB0.out).mono ?_
    rintro e w1 ⟨rfl, b1⟩
    have HB1 := Lib.hid (Trm.go HB0.out b1)
    have HA1 := Lib.hid (Lvl.keep b1 HA0.out)
    have hX1 := Lvl.keep b1 HX0.out
    have HK1 := Lib.hid (Lvl.keep b1 HK0.out)
    obtain ⟨x0, x1, x2, x3, x4⟩ := five_cells (show w1.heap[w.heap.size]? = some (.cells #[.int .u8 t.k, .int .i64 t.n, .string t.s, .slice h.lo t.ls.length h.lc, .slice h.to t.ts.length h.tc] 25) from hX1)
    have lX := (Array.getElem?_eq_some_iff.1 hX1).1
    clear b1 hX1
    go_wp2_with fail
    refine (HTU.out _ HB1.out HK1.out).mono ?_
    rintro e wt ⟨ht, rfl, iT, rT⟩
    have HBt := Lib.hid ((HB1.out).trans (rT.below (fun q hq => by subst hq; omega) HB1.out.size))
    have HAt := Lib.hid (rT.keep HA1.out (by omega))
    have HIt := Lib.hid iT
    have hlw1 := (Array.getElem?_eq_some_iff.1 HA1.out).1
    clear iT rT x0 x1 x2 x3 x4 lX
    go_wp2_with fail
    refine (HAN.out _ _ HIt.out.here).mono ?_
    rintro e wa ⟨ha, rfl, iA, ba⟩
    have HBa := Lib.hid (Trm.go HBt.out ba)
    have hAa := Lvl.keep ba HAt.out
    obtain ⟨q0, q1, q2, q3, q4⟩ := five_cells hAa
    obtain ⟨f0, f1, f2, f3, f4⟩ := five_free hAa
    have HAa := Lib.hid hAa
    have HIa := Lib.hid (iA _ HIt.out)
    clear ba iA hAa
    go_wp2_with fail
    have h5 := putT_self HAa.out (.int .u8 a1.k) (.int .i64 a1.n) (.string a1.s) (.slice ha.lo a1.ls.length ha.lc) (.slice ha.to a1.ts.length ha.tc)
    have b5 := putT_below HBa.out (by omega : w.heap.size ≤ w.heap.size + 1 + 1) (.int .u8 a1.k) (.int .i64 a1.n) (.string a1.s) (.slice ha.lo a1.ls.length ha.lc) (.slice ha.to a1.ts.length ha.tc)
    have r5 := putT_ran wa (w.heap.size + 1 + 1) (.int .u8 a1.k) (.int .i64 a1.n) (.string a1.s) (.slice ha.lo a1.ls.length ha.lc) (.slice ha.to a1.ts.length ha.tc)
    unfold putT at h5 b5 r5
    generalize hW : ((((wa.setCell ⟨w.heap.size + 1 + 1, 0, none⟩ (.int .u8 a1.k)).setCell ⟨w.heap.size + 1 + 1, 1, none⟩ (.int .i64 a1.n)).setCell ⟨w.heap.size + 1 + 1, 2, none⟩ (.string a1.s)).setCell ⟨w.heap.size + 1 + 1, 3, none⟩ (.slice ha.lo a1.ls.length ha.lc)).setCell ⟨w.heap.size + 1 + 1, 4, none⟩ (.slice ha.to a1.ts.length ha.tc) = W4 at h5 b5 r5 ⊢
    obtain ⟨e0, e1, e2, e3, e4⟩ := five_cells h5
    clear hW
    refine bodyPost_ret (v := .tuple #[a1.val ha, .int .i64 a2]) (by simp [results, Try.results39, go_sem, e0, e1, e2, e3, e4, Tm.val, Tm.vals]) rfl ⟨ha, rfl, ?_, b5⟩
    exact (HIa.out.step (RanS.of_ran r5 ⟨by omega, hlw1⟩)).here
end Go.Proofs.Ytijdlihodpodjaa
