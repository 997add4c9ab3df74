/-
  subst.Levels: levels in the place of parameters.
-/
import Derived.Test.YtiekbhlnnmnklaaGreatQB5
import Derived.Lib.MinMax
import Derived.Deep.OwnRows
import Derived.Test.YtiekbhlnnmnklaaGreatQB1
import Derived.Test.YtiekbhlnnmnklaaGreatQB4
import Derived.Test.YtiekbhlnnmnklaaGreatQB3
import Derived.Maps.OwnSet
import Derived.Sort.KeysCollected
import Derived.Deep.RegionHeld3
import Derived.Deep.AppendLies
namespace Go.Proofs.YtiekbhlnnmnklaaGreat
open Go.RowKit Go.Shelf Lvl Trm

namespace Trm
/-- Levels, one behind the other, with levels in the place of their parameters: what is left of these, the first error, what comes. -/
def levL : List Lv → List Lv → List Lv × Int × List Lv
  | [], y => (y, 0, [])
  | l :: r, y => if (inst l y).2 = 0 then ((levL r (y.take 4)).1, (levL r (y.take 4)).2.1, (inst l y).1 :: (levL r (y.take 4)).2.2) else (y, (inst l y).2, [])
noncomputable def lfLev : Lf (List Lv) := fun y x _ => ((levL x.ls y).1, (levL x.ls y).2.1, if (levL x.ls y).2.1 = 0 ∧ sameL (levL x.ls y).2.2 x.ls = false then some (.mk x.k 0 x.s (levL x.ls y).2.2 []) else none)

/-- Five places of an array. -/
def lev5 (c : Array Value) (p : Nat) (v0 v1 v2 v3 v4 : Value) : Array Value := ((((c.setIfInBounds p v0).setIfInBounds (p + 1) v1).setIfInBounds (p + 2) v2).setIfInBounds (p + 3) v3).setIfInBounds (p + 4) v4
theorem lev5_size (c : Array Value) (p : Nat) (v0 v1 v2 v3 v4 : Value) : (lev5 c p v0 v1 v2 v3 v4).size = c.size := by simp [lev5]
theorem lev5_other {c : Array Value} {p q : Nat} (v0 v1 v2 v3 v4 : Value) (h : q < p) : (lev5 c p v0 v1 v2 v3 v4)[q]? = c[q]? := by
  unfold lev5
  rw [Array.getElem?_setIfInBounds_ne (by omega), Array.getElem?_setIfInBounds_ne (by omega), Array.getElem?_setIfInBounds_ne (by omega), Array.getElem?_setIfInBounds_ne (by omega), Array.getElem?_setIfInBounds_ne (by omega)]
theorem lev5_at {c : Array Value} {p : Nat} (v0 v1 v2 v3 v4 : Value) (h : p + 4 < c.size) : (lev5 c p v0 v1 v2 v3 v4)[p]? = some v0 ∧ (lev5 c p v0 v1 v2 v3 v4)[p + 1]? = some v1 ∧ (lev5 c p v0 v1 v2 v3 v4)[p + 2]? = some v2 ∧ (lev5 c p v0 v1 v2 v3 v4)[p + 3]? = some v3 ∧ (lev5 c p v0 v1 v2 v3 v4)[p + 4]? = some v4 := by
  unfold lev5
  refine ⟨?_, ?_, ?_, ?_, ?_⟩
  · rw [Array.getElem?_setIfInBounds_ne (by omega), Array.getElem?_setIfInBounds_ne (by omega), Array.getElem?_setIfInBounds_ne (by omega), Array.getElem?_setIfInBounds_ne (by omega), Array.getElem?_setIfInBounds_self_of_lt (by omega)]
  · rw [Array.getElem?_setIfInBounds_ne (by omega), Array.getElem?_setIfInBounds_ne (by omega), Array.getElem?_setIfInBounds_ne (by omega), Array.getElem?_setIfInBounds_self_of_lt (by simp; omega)]
  · rw [Array.getElem?_setIfInBounds_ne (by omega), Array.getElem?_setIfInBounds_ne (by omega), Array.getElem?_setIfInBounds_self_of_lt (by simp; omega)]
  · rw [Array.getElem?_setIfInBounds_ne (by omega), Array.getElem?_setIfInBounds_self_of_lt (by simp; omega)]
  · rw [Array.getElem?_setIfInBounds_self_of_lt (by simp; omega)]

/-- Block G has room for n levels, the first of which are o. -/
def LBlk (w : World) (G n : Nat) (o : List Lv) : Prop := ∃ c : Array Value, w.heap[G]? = some (.cells c 61 (0, 0)) ∧ c.size = n * 5 ∧ ∀ j (h : j < o.length), c[j * 5]? = some (.int .i64 (o[j]).c) ∧ c[j * 5 + 1]? = some (.int .i64 (o[j]).p0) ∧ c[j * 5 + 2]? = some (.int .i64 (o[j]).p1) ∧ c[j * 5 + 3]? = some (.int .i64 (o[j]).p2) ∧ c[j * 5 + 4]? = some (.int .i64 (o[j]).p3)
theorem LBlk.row {w : World} {G n : Nat} {o : List Lv} (h : LBlk w G n o) : LRow w (some ⟨G, 0, none⟩) o := by
  obtain ⟨c, h1, _, h3⟩ := h
  refine ⟨fun k hk => ⟨G, 0, rfl, ?_⟩⟩
  obtain ⟨e0, e1, e2, e3, e4⟩ := h3 k hk
  rw [Nat.zero_add]
  refine ⟨?_, ?_, ?_, ?_, ?_⟩ <;> (simp [World.cell?, h1, e0, e1, e2, e3, e4])
theorem LBlk.of_block {w w' : World} {G n : Nat} {o : List Lv} (h : LBlk w G n o) (e : w'.heap[G]? = w.heap[G]?) : LBlk w' G n o := by
  obtain ⟨c, h1, h2⟩ := h
  exact ⟨c, e.trans h1, h2⟩
theorem LBlk.lt {w : World} {G n : Nat} {o : List Lv} (h : LBlk w G n o) : G < w.heap.size := by
  obtain ⟨c, h1, _⟩ := h
  exact (Array.getElem?_eq_some_iff.1 h1).1
theorem LBlk.free {w : World} {G n : Nat} {o : List Lv} (h : LBlk w G n o) (i : Nat) : w.frozen? ⟨G, i, none⟩ = false := by
  obtain ⟨c, h1, _⟩ := h
  simp [World.frozen?, h1]
theorem LBlk.has {w : World} {G n : Nat} {o : List Lv} (h : LBlk w G n o) {i : Nat} (hi : i < n * 5) : ∃ v, w.cell? ⟨G, i, none⟩ = some v := by
  obtain ⟨c, h1, h2, _⟩ := h
  exact ⟨c[i]'(by omega), by simp [World.cell?, h1, show i < c.size by omega]⟩
theorem LBlk.put {w : World} {G n : Nat} {o : List Lv} (h : LBlk w G n o) (ho : o.length < n) (x : Lv) : LBlk (((((w.setCell ⟨G, o.length * 5, none⟩ (.int .i64 x.c)).setCell ⟨G, o.length * 5 + 1, none⟩ (.int .i64 x.p0)).setCell ⟨G, o.length * 5 + 2, none⟩ (.int .i64 x.p1)).setCell ⟨G, o.length * 5 + 3, none⟩ (.int .i64 x.p2)).setCell ⟨G, o.length * 5 + 4, none⟩ (.int .i64 x.p3)) G n (o ++ [x]) := by
  obtain ⟨c, h1, h2, h3⟩ := h
  refine ⟨lev5 c (o.length * 5) (.int .i64 x.c) (.int .i64 x.p0) (.int .i64 x.p1) (.int .i64 x.p2) (.int .i64 x.p3), by simp [World.setCell, Array.getElem?_modify, h1, lev5], by rw [lev5_size, h2], fun j hj => ?_⟩
  by_cases hjo : j < o.length
  · rw [List.getElem_append_left hjo, lev5_other _ _ _ _ _ (by omega), lev5_other _ _ _ _ _ (by omega), lev5_other _ _ _ _ _ (by omega), lev5_other _ _ _ _ _ (by omega), lev5_other _ _ _ _ _ (by omega)]
    exact h3 j hjo
  · have : j = o.length := by rw [List.length_append, List.length_singleton] at hj; omega
    subst this
    rw [List.getElem_append_right (by omega)]
    simp only [Nat.sub_self, List.getElem_cons_zero]
    exact lev5_at _ _ _ _ _ (by omega)
/-- Zero levels, as they are made. -/
def zeros (n : Nat) : Obj := .cells (Array.replicate (n * 5) (.int .i64 0)) 61
theorem LBlk.made (w : World) (n : Nat) : LBlk (w.alloc (zeros n)) w.heap.size n [] :=
  ⟨_, World.alloc_heap_new w (zeros n), by simp, fun j h => by simp at h⟩
theorem make_0 (w : World) : (Instr.makeSlice 24 (.int .i64 ((0 : Nat) : Int)) (.int .i64 ((0 : Nat) : Int))).run Tryz.prog w = .ok (.slice (some ⟨w.heap.size, 0, none⟩) 0 0) (w.alloc (zeros 0)) := by kernel_rfl
theorem make_1 (w : World) : (Instr.makeSlice 24 (.int .i64 ((1 : Nat) : Int)) (.int .i64 ((1 : Nat) : Int))).run Tryz.prog w = .ok (.slice (some ⟨w.heap.size, 0, none⟩) 1 1) (w.alloc (zeros 1)) := by kernel_rfl
theorem make_2 (w : World) : (Instr.makeSlice 24 (.int .i64 ((2 : Nat) : Int)) (.int .i64 ((2 : Nat) : Int))).run Tryz.prog w = .ok (.slice (some ⟨w.heap.size, 0, none⟩) 2 2) (w.alloc (zeros 2)) := by kernel_rfl
theorem make_3 (w : World) : (Instr.makeSlice 24 (.int .i64 ((3 : Nat) : Int)) (.int .i64 ((3 : Nat) : Int))).run Tryz.prog w = .ok (.slice (some ⟨w.heap.size, 0, none⟩) 3 3) (w.alloc (zeros 3)) := by kernel_rfl
theorem make_4 (w : World) : (Instr.makeSlice 24 (.int .i64 ((4 : Nat) : Int)) (.int .i64 ((4 : Nat) : Int))).run Tryz.prog w = .ok (.slice (some ⟨w.heap.size, 0, none⟩) 4 4) (w.alloc (zeros 4)) := by kernel_rfl
theorem make_levels (n : Nat) (hn : n ≤ 4) (w : World) : (Instr.makeSlice 24 (.int .i64 (n : Int)) (.int .i64 (n : Int))).run Tryz.prog w = .ok (.slice (some ⟨w.heap.size, 0, none⟩) n n) (w.alloc (zeros n)) := by
  have h : n = 0 ∨ n = 1 ∨ n = 2 ∨ n = 3 ∨ n = 4 := by omega
  rcases h with rfl | rfl | rfl | rfl | rfl
  · exact make_0 w
  · exact make_1 w
  · exact make_2 w
  · exact make_3 w
  · exact make_4 w
theorem cut_levels (ao : Option Addr) (n cap k : Nat) (hk : k ≤ cap) (wx : World) :
    (Instr.slice 24 (.slice ao n cap) none (some (.int .i64 (k : Int))) none).run Tryz.prog wx = .ok (.slice ao k cap) wx := by
  have he : Tryz.prog.elem 24 = 61 := by simp [Program.elem, Tryz.underlying24]
  have hz : (Go.sizeOf 61).run Tryz.prog wx = .ok 5 wx := by kernel_rfl
  rw [run_slice_h wx 24 _ _ _ (by rw [he]; exact Tryz.underlying24) .i64 _ (by omega) (by omega), he, hz]
  cases ao <;> simp [Result.andThen, sliced, Addr.add]
theorem lrow_take {w : World} {ao : Option Addr} {ls : List Lv} (h : LRow w ao ls) (n : Nat) : LRow w ao (ls.take n) := by
  refine ⟨fun k hk => ?_⟩
  rw [List.length_take] at hk
  obtain ⟨b, off, hao, ha⟩ := h.place k (by omega)
  exact ⟨b, off, hao, by rw [List.getElem_take]; exact ha⟩
theorem node_ls {t : Tm} (h : t.node = true) : t.ls.length ≤ 4 := by
  unfold Tm.node at h
  simp only [Bool.and_eq_true] at h
  have h6 := h.2
  split at h6
  · simp at h6; omega
  · split at h6
    · simpa using h6
    · simp at h6; rw [h6]; simp

/-- Where the levels that are put in lie: block K has their slice, cut or not. -/
def LevInv (bo : Option Addr) (bc : Nat) (y0 : List Lv) (B K : Nat) (y : List Lv) (w : World) : Prop :=
  w.heap[K]? = some (.cells #[.slice bo y.length bc] 24) ∧ (y = y0 ∨ y = y0.take 4) ∧ LRow w bo y0 ∧ Low B bo y0.length
theorem LevInv.keep {bo : Option Addr} {bc : Nat} {y0 : List Lv} {B K N : Nat} (hK : K < N) (hB : B ≤ N) (y : List Lv) (w w' : World) (h : LevInv bo bc y0 B K y w) (b : Below N w w') : LevInv bo bc y0 B K y w' :=
  ⟨(b.block _ hK).trans h.1, h.2.1, LRow.low h.2.2.1 h.2.2.2 (b.mono hB), h.2.2.2⟩
theorem LevInv.levels {bo : Option Addr} {bc : Nat} {y0 y : List Lv} {B K : Nat} {w : World} (h : LevInv bo bc y0 B K y w) : LRow w bo y := by
  rcases h.2.1 with e | e
  · rw [e]; exact h.2.2.1
  · rw [e]; exact lrow_take h.2.2.1 4
theorem LevInv.len {bo : Option Addr} {bc : Nat} {y0 y : List Lv} {B K : Nat} {w : World} (h : LevInv bo bc y0 B K y w) : y.length ≤ y0.length := by
  rcases h.2.1 with e | e
  · rw [e]; exact Nat.le_refl _
  · rw [e, List.length_take]; omega

def LvRel (w : World) (ls : List Lv) (bo : Option Addr) (bc : Nat) (y0 : List Lv) (K n : Nat) (R : List Lv × Int × List Lv) (i : Value) (wr : World) : Prop :=
  ∃ (k : Nat) (y out : List Lv), i = .int .i64 k ∧ k ≤ n ∧ out.length = k ∧ (levL (ls.drop k) y).1 = R.1 ∧ (levL (ls.drop k) y).2.1 = R.2.1 ∧ (R.2.1 = 0 → R.2.2 = out ++ (levL (ls.drop k) y).2.2) ∧
    wr.heap[K]? = some (.cells #[.slice bo y.length bc] 24) ∧ (y = y0 ∨ y = y0.take 4) ∧ LBlk wr (w.heap.size + 1) n out ∧ wr.heap[w.heap.size]? = some (.cells #[.int .u8 0, .int .i64 0, .string no, .slice none 0 0, .slice none 0 0] 27) ∧ RanS (fun q => q = K) w wr
end Trm

set_option maxRecDepth 100000 in
set_option maxHeartbeats 16000000 in
theorem levels1_any {B N K : Nat} (hKN : K < N) (hBK : B ≤ K) (bo : Option Addr) (bc : Nat) (y0 : List Lv) (hy0 : y0.length ≤ 1000000) (hbc : y0.length ≤ bc) (y : List Lv) (t : Tm) (b o : Nat) (u : Int) (w : World) (hi : LevInv bo bc y0 B K y w) (hn : t.node = true) (hat : SAt B (fun q => q = K) w b o t) (hB : B ≤ w.heap.size) (hN : N ≤ w.heap.size) :
    Calls Tryz.prog 115 #[.pointer (some ⟨b, o, none⟩), .int .i64 u, .pointer (some ⟨K, 0, none⟩)] w (ThrPost B (fun q => q = K) (lfLev y t u) (LevInv bo bc y0 B K) w) := by
  have hK : K < w.heap.size := Nat.lt_of_lt_of_le hKN hN
  obtain ⟨hbP, hb, ⟨lo, lc, to, tc⟩, ⟨c0, c1, c2, c3, c4⟩, hin⟩ := hat
  have hn4 := node_ls hn
  have hk8 := (node_few hn).2.2
  obtain ⟨hfit, hrow, hlow, _⟩ := Tm.In_iff.1 hin
  dsimp only at c3 c4 hrow hlow
  obtain ⟨R, hR⟩ : ∃ R, R = levL t.ls y := ⟨_, rfl⟩
  obtain ⟨n, hnl⟩ : ∃ n, n = t.ls.length := ⟨_, rfl⟩
  obtain ⟨Q, hQ⟩ : ∃ Q, Q = ThrPost B (fun q => q = K) (lfLev y t u) (LevInv bo bc y0 B K) w := ⟨_, rfl⟩
  have HQZ : Hid (∀ w', (R.2.1 ≠ 0 ∨ sameL R.2.2 t.ls = true) → LevInv bo bc y0 B K R.1 w' → RanS (fun q => q = K) w w' → Q (.returned (.tuple #[zeroT.val ⟨none, 0, none, 0⟩, .int .i64 R.2.1])) w') := Lib.hid (fun w' hc h1 h2 => by
    have e : lfLev y t u = (R.1, R.2.1, none) := by
      rw [hR] at hc ⊢
      unfold lfLev
      rw [if_neg]
      rintro ⟨x1, x2⟩
      rcases hc with hc | hc
      · exact hc x1
      · rw [hc] at x2; cases x2
    rw [hQ, e]
    exact ⟨⟨none, 0, none, 0⟩, rfl, firm_zero, h1, h2⟩)
  have HQY : Hid (∀ w' h', R.2.1 = 0 → sameL R.2.2 t.ls = false → FirmS (fun q => B ≤ q ∧ q < w.heap.size) w' (.mk t.k 0 t.s R.2.2 []) h' → LevInv bo bc y0 B K R.1 w' → RanS (fun q => q = K) w w' → Q (.returned (.tuple #[(Tm.mk t.k 0 t.s R.2.2 []).val h', .int .i64 0])) w') := Lib.hid (fun w' h' hc hs h0 h1 h2 => by
    have e : lfLev y t u = (R.1, R.2.1, some (.mk t.k 0 t.s R.2.2 [])) := by
      rw [hR] at hc hs ⊢
      unfold lfLev
      rw [if_pos ⟨hc, hs⟩]
    rw [hQ, e, hc]
    exact ⟨h', rfl, h0, h1, h2⟩)
  rw [← hQ]
  rw [← hnl] at c3 hn4
  have hmk := fun W => make_levels n hn4 W
  have HR := Lib.hid hR
  have HNL := Lib.hid hnl
  have HROW := Lib.hid hrow
  have HLOW := Lib.hid hlow
  have HI := Lib.hid hi
  have HFIT := Lib.hid hfit
  have HW0 := Lib.hid (show LBlk ((w.alloc (.cells #[.int .u8 0, .int .i64 0, .string no, .slice none 0 0, .slice none 0 0] 27)).alloc (zeros n)) (w.heap.size + 1) n [] from by
    have := LBlk.made (w.alloc (.cells #[.int .u8 0, .int .i64 0, .string no, .slice none 0 0, .slice none 0 0] 27)) n
    rwa [World.size_alloc] at this)
  have HZ0 := Lib.hid (new1of2 w (.cells #[.int .u8 0, .int .i64 0, .string no, .slice none 0 0, .slice none 0 0] 27) (zeros n))
  have HB0 := Lib.hid (below_two w (.cells #[.int .u8 0, .int .i64 0, .string no, .slice none 0 0, .slice none 0 0] 27) (zeros n))
  have HC0 := Lib.hid c0
  have HC2 := Lib.hid c2
  have HC3 := Lib.hid c3
  clear hQ hR hnl hin hrow hlow hi hn hfit c0 c1 c2 c4
  go_enter Tryz.func115, Tryz.ntmps115
  go_wp2_with fail
  go_loopw [23] (fun i wr => LvRel w t.ls bo bc y0 K n R i wr) (fun i _ => n - (intOf i).toNat)
  case atStart => exact ⟨0, y, [], rfl, by omega, rfl, by rw [HR.out]; rfl, by rw [HR.out]; rfl, fun _ => by rw [HR.out]; rfl, Lvl.keep HB0.out HI.out.1, HI.out.2.1, HW0.out, HZ0.out, RanS.of_below HB0.out⟩
  case round =>
    clear HW0 HZ0 HB0 hmk c3
    obtain ⟨k, y', out, rfl, hk, hol, h1, h2, h3, hKc, hyy, hblk, hz, hran⟩ := hrel
    subst hol
    have hszr := hran.size
    have hbel : Below B w wr := hran.below (fun q hq => by omega) hB
    have hinv : LevInv bo bc y0 B K y' wr := ⟨hKc, hyy, LRow.low HI.out.2.2.1 HI.out.2.2.2 hbel, HI.out.2.2.2⟩
    have hy'l := hinv.len
    have HINV := Lib.hid hinv
    have HKC := Lib.hid hKc
    have HBLK := Lib.hid hblk
    have HZ := Lib.hid hz
    have HRAN := Lib.hid hran
    have HBEL := Lib.hid hbel
    have HLI := Lib.hid (fun (W : World) (x : List Lv) (hk : W.heap[K]? = some (.cells #[.slice bo x.length bc] 24)) (hx : x = y0 ∨ x = y0.take 4) (hr : RanS (fun q => q = K) w W) => (show LevInv bo bc y0 B K x W from ⟨hk, hx, LRow.low HI.out.2.2.1 HI.out.2.2.2 (hr.below (fun q hq => by omega) hB), HI.out.2.2.2⟩))
    have lK : K < wr.heap.size := by omega
    have lG : w.heap.size + 1 < wr.heap.size := hblk.lt
    have hKG : K ≠ w.heap.size + 1 := by omega
    have cK := one_cell hKc
    by_cases hlt : out.length < n
    · have hltl : out.length < t.ls.length := by rw [← HNL.out]; exact hlt
      obtain ⟨b2, off2, hlo, l0, l1, l2, l3, l4⟩ := (LRow.low HROW.out HLOW.out hbel).place out.length hltl
      subst hlo
      rw [List.drop_eq_getElem_cons hltl] at h1 h2 h3
      generalize t.ls[out.length] = l at l0 l1 l2 l3 l4 h1 h2 h3
      have lb2 : b2 < wr.heap.size := World.block_lt_of_cell? wr _ l0
      obtain ⟨A, q, hA⟩ : ∃ A q, inst l y' = (A, q) := ⟨_, _, rfl⟩
      have HIN := Lib.hid (fun (W : World) (hW : Below wr.heap.size wr W) => (show Calls Tryz.prog 116 #[.agg #[.int .i64 l.c, .int .i64 l.p0, .int .i64 l.p1, .int .i64 l.p2, .int .i64 l.p3], .slice bo y'.length bc] W (fun e w' => e = .returned (.tuple #[.agg #[.int .i64 A.c, .int .i64 A.p0, .int .i64 A.p1, .int .i64 A.p2, .int .i64 A.p3], .int .i64 q]) ∧ Below W.heap.size W w') from by
        have := inst_any l bo bc y' W (LRow.low HINV.out.levels (fun hp a ha => HINV.out.2.2.2 (by omega) a ha) (hW.mono (by omega))) (by omega)
        rw [hA] at this
        exact this))
      unfold levL at h1 h2 h3
      rw [hA] at h1 h2 h3
      dsimp only at h1 h2 h3
      have H1 := Lib.hid h1
      have H2 := Lib.hid h2
      have H3 := Lib.hid h3
      clear h1 h2 h3 hA hKc hblk hz hran hbel hinv
      go_wp2_with fail
      refine (HIN.out _ (below_one _ _)).mono ?_
      rintro e w2 ⟨rfl, bb⟩
      have hb2 : Below wr.heap.size wr w2 := Trm.go (below_one wr _) bb
      have HB2 := Lib.hid hb2
      have HK2 := Lib.hid (Lvl.keep hb2 HKC.out)
      have hZ2 := Lvl.keep hb2 HZ.out
      have HZ2 := Lib.hid hZ2
      have hL2 := HBLK.out.of_block (hb2.block _ lG)
      have HL2 := Lib.hid hL2
      have HRAN2 := Lib.hid (HRAN.out.trans (RanS.of_below hb2))
      have lK2 : K < w2.heap.size := by have := hb2.size; omega
      have lG2 : w.heap.size + 1 < w2.heap.size := hL2.lt
      have lA2 : w.heap.size < w2.heap.size := by omega
      clear bb hb2 l0 l1 l2 l3 l4 lb2 cK
      have cK := one_cell HK2.out
      by_cases hq : q = 0
      · subst hq
        obtain ⟨v0, g0⟩ := hL2.has (i := out.length * 5) (by omega)
        obtain ⟨v1, g1⟩ := hL2.has (i := out.length * 5 + 1) (by omega)
        obtain ⟨v2, g2⟩ := hL2.has (i := out.length * 5 + 2) (by omega)
        obtain ⟨v3, g3⟩ := hL2.has (i := out.length * 5 + 3) (by omega)
        obtain ⟨v4, g4⟩ := hL2.has (i := out.length * 5 + 4) (by omega)
        have fG : ∀ i, w2.frozen? ⟨w.heap.size + 1, i, none⟩ = false := fun i => hL2.free i
        have fK : w2.frozen? ⟨K, 0, none⟩ = false := free_one HK2.out
        obtain ⟨M, hM⟩ : ∃ M, M = (y'.take 4).length := ⟨_, rfl⟩
        have hMm : min (y'.length : Int) 4 = (M : Int) := by rw [hM, List.length_take]; omega
        have hMc : M ≤ bc := by rw [hM, List.length_take]; omega
        have hcut := fun W => cut_levels bo y'.length bc M hMc W
        have HM := Lib.hid hM
        clear hL2 hM hZ2
        go_wp2_with fail
        have h5 := HL2.out.put hlt A
        have r5 := RanS.putO HRAN2.out (by omega : w.heap.size ≤ w.heap.size + 1) (out.length * 5) (.int .i64 A.c) (.int .i64 A.p0) (.int .i64 A.p1) (.int .i64 A.p2) (.int .i64 A.p3)
        have k5 := ((putO_ran w2 (w.heap.size + 1) (out.length * 5) (.int .i64 A.c) (.int .i64 A.p0) (.int .i64 A.p1) (.int .i64 A.p2) (.int .i64 A.p3)).block K lK2 hKG).trans HK2.out
        have z5 := ((putO_ran w2 (w.heap.size + 1) (out.length * 5) (.int .i64 A.c) (.int .i64 A.p0) (.int .i64 A.p1) (.int .i64 A.p2) (.int .i64 A.p3)).block w.heap.size lA2 (by omega)).trans HZ2.out
        unfold putO at r5 k5 z5
        generalize hW : ((((w2.setCell ⟨w.heap.size + 1, out.length * 5, none⟩ (.int .i64 A.c)).setCell ⟨w.heap.size + 1, out.length * 5 + 1, none⟩ (.int .i64 A.p0)).setCell ⟨w.heap.size + 1, out.length * 5 + 2, none⟩ (.int .i64 A.p1)).setCell ⟨w.heap.size + 1, out.length * 5 + 3, none⟩ (.int .i64 A.p2)).setCell ⟨w.heap.size + 1, out.length * 5 + 4, none⟩ (.int .i64 A.p3) = W5 at h5 r5 k5 z5 ⊢
        have h6 := h5.of_block ((Ran.set W5 K 0 (.slice bo M bc)).block _ h5.lt (Ne.symm hKG))
        have k6 := Lvl.put_one k5 (.slice bo M bc)
        have z6 := Lvl.cells_other z5 (o := 0) (.slice bo M bc) (show K ≠ w.heap.size by omega)
        have r6 : RanS (fun q => q = K) w (W5.setCell ⟨K, 0, none⟩ (.slice bo M bc)) := r5.trans (RanS.of_ran (P := fun q => q = K) (Ran.set W5 K 0 (.slice bo M bc)) rfl)
        clear hW h5 r5 k5 z5
        generalize hW : W5.setCell ⟨K, 0, none⟩ (.slice bo M bc) = W6 at h6 k6 z6 r6 ⊢
        have h7 := h6.of_block ((below_one W6 (.cells #[.int .i64 A.c, .int .i64 A.p0, .int .i64 A.p1, .int .i64 A.p2, .int .i64 A.p3] 61)).block _ h6.lt)
        have k7 := keepA k6 (.cells #[.int .i64 A.c, .int .i64 A.p0, .int .i64 A.p1, .int .i64 A.p2, .int .i64 A.p3] 61)
        have z7 := keepA z6 (.cells #[.int .i64 A.c, .int .i64 A.p0, .int .i64 A.p1, .int .i64 A.p2, .int .i64 A.p3] 61)
        have r7 := r6.more (.cells #[.int .i64 A.c, .int .i64 A.p0, .int .i64 A.p1, .int .i64 A.p2, .int .i64 A.p3] 61)
        rw [HM.out] at k7
        clear hW
        go_roundw
        case rel => exact ⟨out.length + 1, y'.take 4, out ++ [A], by go_num, by omega, by simp, by have := H1.out; rwa [if_pos trivial] at this, by have := H2.out; rwa [if_pos trivial] at this, fun hr => by have := H3.out hr; rw [if_pos trivial] at this; rw [this, List.append_assoc]; rfl, k7, by rcases hyy with e | e <;> (rw [e]; right; simp [List.take_take]), h7, z7, r7⟩
        case measure => simp [intOf]; omega
      · have hdq : (q != 0) = true := by simpa using hq
        obtain ⟨a0, a1, a2, a3, a4⟩ := five_cells hZ2
        obtain ⟨f0, f1, f2, f3, f4⟩ := five_free hZ2
        have H1' := Lib.hid (show y' = R.1 by have := H1.out; rwa [if_neg hq] at this)
        have H2' := Lib.hid (show q = R.2.1 by have := H2.out; rwa [if_neg hq] at this)
        have HNE := Lib.hid hq
        clear hq hL2 H1 H2 H3
        go_wp2_with fail
        have h5 := putT_self HZ2.out (.int .u8 0) (.int .i64 0) (.string no) (.slice none 0 0) (.slice none 0 0)
        have s5 := RanS.put HRAN2.out (Nat.le_refl w.heap.size) (.int .u8 0) (.int .i64 0) (.string no) (.slice none 0 0) (.slice none 0 0)
        have k5 := ((putT_ran w2 w.heap.size (.int .u8 0) (.int .i64 0) (.string no) (.slice none 0 0) (.slice none 0 0)).block K lK2 (by omega)).trans HK2.out
        unfold putT no at h5 s5 k5
        generalize hW : ((((w2.setCell ⟨w.heap.size, 0, none⟩ (.int .u8 0)).setCell ⟨w.heap.size, 1, none⟩ (.int .i64 0)).setCell ⟨w.heap.size, 2, none⟩ (.string ⟨#[]⟩)).setCell ⟨w.heap.size, 3, none⟩ (.slice none 0 0)).setCell ⟨w.heap.size, 4, none⟩ (.slice none 0 0) = W4 at h5 s5 k5 ⊢
        have h6 := keepA h5 (.cells #[.int .i64 A.c, .int .i64 A.p0, .int .i64 A.p1, .int .i64 A.p2, .int .i64 A.p3] 61)
        have s6 := s5.more (.cells #[.int .i64 A.c, .int .i64 A.p0, .int .i64 A.p1, .int .i64 A.p2, .int .i64 A.p3] 61)
        have k6 := keepA k5 (.cells #[.int .i64 A.c, .int .i64 A.p0, .int .i64 A.p1, .int .i64 A.p2, .int .i64 A.p3] 61)
        clear hW
        generalize hW : W4.alloc (.cells #[.int .i64 A.c, .int .i64 A.p0, .int .i64 A.p1, .int .i64 A.p2, .int .i64 A.p3] 61) = W5 at h6 s6 k6 ⊢
        obtain ⟨e0, e1, e2, e3, e4⟩ := five_cells h6
        clear hW
        exact bodyPost_ret (v := .tuple #[zeroT.val ⟨none, 0, none, 0⟩, .int .i64 q]) (by simp [results, Tryz.results115, go_sem, e0, e1, e2, e3, e4, zeroT, Tm.val, Tm.vals, Tm.k, Tm.n, Tm.s, Tm.ls, Tm.ts, no]) rfl (by
          have := HQZ.out W5 (Or.inl (by rw [← H2'.out]; exact HNE.out)) (HLI.out W5 R.1 (by rw [← H1'.out]; exact k6) (by rw [← H1'.out]; exact hyy) s6) s6
          rwa [← H2'.out] at this)
    · have hnk : out.length = n := by omega
      have hdn : t.ls.drop out.length = [] := by rw [hnk, HNL.out]; exact List.drop_length
      rw [hdn] at h1 h2 h3
      unfold levL at h1 h2 h3
      dsimp only at h1 h2 h3
      rw [List.append_nil] at h3
      have H1 := Lib.hid h1
      have H2 := Lib.hid h2
      have H3 := Lib.hid (h3 h2.symm)
      have hKI : LevInv bo bc y0 B K R.1 wr := h1 ▸ hinv
      have HKI := Lib.hid hKI
      have HEQ : Hid (Calls Tryz.prog 117 #[.slice (some ⟨w.heap.size + 1, 0, none⟩) n n, .slice lo n lc] wr (fun e w' => e = .returned (.bool (sameL out t.ls)) ∧ Drawn wr w')) := Lib.hid (by
        have := Equal_any (some ⟨w.heap.size + 1, 0, none⟩) lo n lc out t.ls wr hblk.row (LRow.low HROW.out HLOW.out hbel) (by omega)
        rwa [hnk, ← HNL.out] at this)
      have x3 := (hran.cell (p := ⟨b, o + 3, none⟩) hb hbP).trans HC3.out
      have X0 := Lib.hid ((hran.cell (p := ⟨b, o, none⟩) hb hbP).trans HC0.out)
      have X2 := Lib.hid ((hran.cell (p := ⟨b, o + 2, none⟩) hb hbP).trans HC2.out)
      have lb : b < wr.heap.size := by omega
      have lA : w.heap.size < wr.heap.size := by omega
      clear h1 h2 h3 hinv hKI hKc hblk hz hran hbel hdn
      go_wp2_with fail
      refine HEQ.out.mono ?_
      rintro e w3 ⟨rfl, hdr⟩
      have HDR := Lib.hid hdr
      have hZ3 : w3.heap[w.heap.size]? = _ := (congrArg (fun h => h[w.heap.size]?) hdr.heap).trans HZ.out
      have HZ3 := Lib.hid hZ3
      have HR3 := Lib.hid (HRAN.out.trans (RanS.of_below (hdr.below wr.heap.size)))
      have HK3 := Lib.hid (LevInv.keep (N := wr.heap.size) (by omega) (by omega) _ _ _ HKI.out (hdr.below wr.heap.size))
      have HL3 := Lib.hid (HBLK.out.of_block (congrArg (fun h => h[w.heap.size + 1]?) hdr.heap))
      have x0 := (Trm.cell_heap hdr.heap ⟨b, o, none⟩).trans X0.out
      have x2 := (Trm.cell_heap hdr.heap ⟨b, o + 2, none⟩).trans X2.out
      have lb3 : b < w3.heap.size := by rw [hdr.heap]; exact lb
      have lA3 : w.heap.size < w3.heap.size := by rw [hdr.heap]; exact lA
      obtain ⟨a0, a1, a2, a3, a4⟩ := five_cells hZ3
      obtain ⟨f0, f1, f2, f3, f4⟩ := five_free hZ3
      clear x3 cK hdr hZ3
      cases hsm : sameL out t.ls
      · have HSM := Lib.hid hsm
        clear hsm
        go_wp2_with fail
        go_region
        go_wp2_with fail
        have h5 := putT_self HZ3.out (.int .u8 t.k) (.int .i64 0) (.string t.s) (.slice (some ⟨w.heap.size + 1, 0, none⟩) n n) (.slice none 0 0)
        have s5 := RanS.put HR3.out (Nat.le_refl w.heap.size) (.int .u8 t.k) (.int .i64 0) (.string t.s) (.slice (some ⟨w.heap.size + 1, 0, none⟩) n n) (.slice none 0 0)
        have k5 := LevInv.keep (N := w.heap.size) (by omega) (by omega) _ _ _ HK3.out ((putT_ran w3 w.heap.size (.int .u8 t.k) (.int .i64 0) (.string t.s) (.slice (some ⟨w.heap.size + 1, 0, none⟩) n n) (.slice none 0 0)).below (Nat.le_refl _) (by omega))
        have l5 := HL3.out.of_block ((putT_ran w3 w.heap.size (.int .u8 t.k) (.int .i64 0) (.string t.s) (.slice (some ⟨w.heap.size + 1, 0, none⟩) n n) (.slice none 0 0)).block _ HL3.out.lt (by omega))
        unfold putT at h5 s5 k5 l5
        generalize hW : ((((w3.setCell ⟨w.heap.size, 0, none⟩ (.int .u8 t.k)).setCell ⟨w.heap.size, 1, none⟩ (.int .i64 0)).setCell ⟨w.heap.size, 2, none⟩ (.string t.s)).setCell ⟨w.heap.size, 3, none⟩ (.slice (some ⟨w.heap.size + 1, 0, none⟩) n n)).setCell ⟨w.heap.size, 4, none⟩ (.slice none 0 0) = W4 at h5 s5 k5 l5 ⊢
        have hW4 : w.heap.size < W4.heap.size := (Array.getElem?_eq_some_iff.1 h5).1
        have hwW : w.heap.size ≤ W4.heap.size := by omega
        have h6 := Lvl.keep (Below.refl W4.heap.size W4).drew h5
        have s6 := s5.trans (RanS.of_below (Below.refl W4.heap.size W4).drew)
        have k6 := LevInv.keep (N := w.heap.size) (by omega) (by omega) _ _ _ k5 ((Below.refl W4.heap.size W4).drew.mono hwW)
        have l6 := l5.of_block ((Below.refl W4.heap.size W4).drew.block _ l5.lt)
        clear hW h5 s5 k5 l5
        generalize hW : W4.drew = W5 at h6 s6 k6 l6 ⊢
        clear hW hW4 hwW
        obtain ⟨e0, e1, e2, e3, e4⟩ := five_cells h6
        have hRn : R.2.2.length = n := by rw [H3.out]; exact hnk
        have hfm : FirmS (fun q => B ≤ q ∧ q < w.heap.size) W5 (.mk t.k 0 t.s R.2.2 []) ⟨some ⟨w.heap.size + 1, 0, none⟩, n, none, 0⟩ := fun w' hr => by
          have l7 := l6.of_block (hr.block _ l6.lt (by omega))
          have h7 := l7.row
          rw [← H3.out] at h7
          exact Tm.In_iff.2 ⟨⟨HFIT.out.k0, HFIT.out.k1, by simp [Tm.n], by simp [Tm.n], HFIT.out.s, by simp only [Tm.ls]; omega, by simp [Tm.ts]⟩, h7, fun _ a ha => by
            cases ha
            exact l7.lt, RowIn.mk fun i hi => by simp [Tm.ts] at hi⟩
        exact bodyPost_ret (v := .tuple #[(Tm.mk t.k 0 t.s R.2.2 []).val ⟨some ⟨w.heap.size + 1, 0, none⟩, n, none, 0⟩, .int .i64 0]) (by simp [results, Tryz.results115, go_sem, e0, e1, e2, e3, e4, hRn, Tm.val, Tm.vals, Tm.k, Tm.n, Tm.s, Tm.ls, Tm.ts]) rfl (HQY.out W5 _ H2.out.symm (by rw [H3.out]; exact HSM.out) hfm k6 s6)
      · have HSM := Lib.hid hsm
        clear hsm
        go_wp2_with fail
        have h5 := putT_self HZ3.out (.int .u8 0) (.int .i64 0) (.string no) (.slice none 0 0) (.slice none 0 0)
        have s5 := RanS.put HR3.out (Nat.le_refl w.heap.size) (.int .u8 0) (.int .i64 0) (.string no) (.slice none 0 0) (.slice none 0 0)
        have k5 := LevInv.keep (N := w.heap.size) (by omega) (by omega) _ _ _ HK3.out ((putT_ran w3 w.heap.size (.int .u8 0) (.int .i64 0) (.string no) (.slice none 0 0) (.slice none 0 0)).below (Nat.le_refl _) (by omega))
        unfold putT no at h5 s5 k5
        generalize hW : ((((w3.setCell ⟨w.heap.size, 0, none⟩ (.int .u8 0)).setCell ⟨w.heap.size, 1, none⟩ (.int .i64 0)).setCell ⟨w.heap.size, 2, none⟩ (.string ⟨#[]⟩)).setCell ⟨w.heap.size, 3, none⟩ (.slice none 0 0)).setCell ⟨w.heap.size, 4, none⟩ (.slice none 0 0) = W4 at h5 s5 k5 ⊢
        obtain ⟨e0, e1, e2, e3, e4⟩ := five_cells h5
        clear hW
        exact bodyPost_ret (v := .tuple #[zeroT.val ⟨none, 0, none, 0⟩, .int .i64 0]) (by simp [results, Tryz.results115, go_sem, e0, e1, e2, e3, e4, zeroT, Tm.val, Tm.vals, Tm.k, Tm.n, Tm.s, Tm.ls, Tm.ts, no]) rfl (by
          have := HQZ.out W4 (Or.inr (by rw [H3.out]; exact HSM.out)) k5 s5
          rwa [← H2.out] at this)
end Go.Proofs.YtiekbhlnnmnklaaGreat



namespace Go.Proofs.YtiekbhlnnmnklaaGreat
open Go.RowKit Go.Shelf Lvl Trm

/-- The sizes of the terms of a list. -/
def Trm.sizeAt (l : List Tm) (i : Nat) : Value := .int .i64 (l.getD i zeroT).size

end Go.Proofs.YtiekbhlnnmnklaaGreat



namespace Go.Proofs.YtiekbhlnnmnklaaGreat
open Go.RowKit Go.Shelf Lvl Trm

/-- Where the closure of Inst and what it holds lie. -/
structure Trm.InstInv (l : List Tm) (lo : Option Addr) (lc B C KL M KS G : Nat) (n : Int) (w : World) : Prop where
  c : w.heap[C]? = some (.cells #[.func (.func 204) #[] #[.pointer (some ⟨KL, 0, none⟩), .pointer (some ⟨M, 0, none⟩), .pointer (some ⟨KS, 0, none⟩)]] 231)
  kl : w.heap[KL]? = some (.cells #[.slice lo l.length lc] 25)
  m : w.heap[M]? = some (.cells #[.int .i64 n] 3)
  ks : w.heap[KS]? = some (.cells #[.slice (some ⟨G, 0, none⟩) l.length l.length] 186)
  g : w.rowIs G 3 l.length (sizeAt l)
  row : RowIn B w lo 0 l
/-- The blocks of Inst's function. -/
structure Trm.InstBl (N B C KL M KS G : Nat) : Prop where
  c : C < N
  kl : KL < N
  m : M < N
  ks : KS < N
  g : G < N
  b : B ≤ M
  mc : C ≠ M
  mkl : KL ≠ M
  mks : KS ≠ M
  mg : G ≠ M
theorem Trm.InstInv.keep {l : List Tm} {lo : Option Addr} {lc N B C KL M KS G : Nat} (H : InstBl N B C KL M KS G) (st : Int) (w w' : World) (h : InstInv l lo lc B C KL M KS G st w) (b : Below N w w') : InstInv l lo lc B C KL M KS G st w' :=
  ⟨(b.block _ H.c).trans h.c, (b.block _ H.kl).trans h.kl, (b.block _ H.m).trans h.m, (b.block _ H.ks).trans h.ks, h.g.of_block (b.block _ H.g), h.row.below (b.mono (by have := H.b; have := H.m; omega))⟩
theorem Trm.InstInv.set {l : List Tm} {lo : Option Addr} {lc N B C KL M KS G : Nat} (H : InstBl N B C KL M KS G) {st : Int} {w : World} (h : InstInv l lo lc B C KL M KS G st w) (hN : N ≤ w.heap.size) (n : Int) : InstInv l lo lc B C KL M KS G n (w.setCell ⟨M, 0, none⟩ (.int .i64 n)) := by
  have r := Ran.set w M 0 (.int .i64 n)
  exact ⟨(r.block _ (by have := H.c; omega) H.mc).trans h.c, (r.block _ (by have := H.kl; omega) H.mkl).trans h.kl, Lvl.put_one h.m _, (r.block _ (by have := H.ks; omega) H.mks).trans h.ks, h.g.of_block (r.block _ (by have := H.g; omega) H.mg), h.row.below (r.below H.b (by have := H.b; have := H.m; omega))⟩

end Go.Proofs.YtiekbhlnnmnklaaGreat



namespace Go.Proofs.YtiekbhlnnmnklaaGreat
open Go.RowKit Go.Shelf Lvl Trm

end Go.Proofs.YtiekbhlnnmnklaaGreat



namespace Go.Proofs.YtiekbhlnnmnklaaGreat
open Go.RowKit Go.Shelf Lvl Trm

namespace Trm
theorem instFold_take (L : List Lv) : ∀ (p : List (Int × Int)) (o : Option Lv), (∀ x ∈ p, x.1.toNat < 4) → p.foldl (instStep (L.take 4)) o = p.foldl (instStep L) o
  | [], o, _ => rfl
  | x :: p, o, h => by
    rw [List.foldl_cons, List.foldl_cons]
    have h0 := h x (by simp)
    have e : instStep (L.take 4) o x = instStep L o x := by
      cases o with
      | none => rfl
      | some o =>
        unfold instStep
        dsimp only
        by_cases hx : x.1.toNat < L.length
        · rw [dif_pos hx, dif_pos (by rw [List.length_take]; omega), List.getElem_take]
        · rw [dif_neg hx, dif_neg (by rw [List.length_take]; omega)]
    rw [e]
    exact instFold_take L p _ (fun y hy => h y (by simp [hy]))
theorem inst_take {L : List Lv} (h : L.all Lv.may = true) (l : Lv) : inst l (L.take 4) = inst l L := by
  have h4 : (L.take 4).all Lv.may = true := by
    rw [List.all_eq_true] at h ⊢
    exact fun x hx => h x (List.mem_of_mem_take hx)
  have e : instAll (L.take 4) (number l.c) l.ps = instAll L (number l.c) l.ps := instFold_take L l.ps _ (fun x hx => by
    obtain ⟨k, hk, rfl, _⟩ := mem_ps_k hx
    simpa using hk)
  unfold inst
  rw [h, h4, e]
theorem inst_all {L : List Lv} {l : Lv} (h : (inst l L).2 = 0) : L.all Lv.may = true := by
  unfold inst at h
  by_cases hc : l.may = true ∧ L.all Lv.may = true
  · exact hc.2
  · rw [if_neg hc] at h
    cases h
/-- What of the levels is left at any time: all of them, or the first four of such as may be. -/
def LGood (L y : List Lv) : Prop := y = L ∨ (y = L.take 4 ∧ L.all Lv.may = true)
theorem LGood.inst {L y : List Lv} (h : LGood L y) (l : Lv) : inst l y = inst l L := by
  rcases h with rfl | ⟨rfl, ha⟩
  · rfl
  · exact inst_take ha l
theorem LGood.next {L y : List Lv} (h : LGood L y) {l : Lv} (ho : (Lvl.inst l y).2 = 0) : LGood L (y.take 4) := by
  rcases h with rfl | ⟨rfl, ha⟩
  · exact .inr ⟨rfl, inst_all ho⟩
  · exact .inr ⟨by simp [List.take_take], ha⟩
def fL (L : List Lv) (l : Lv) : Lv := (inst l L).1
def okL (L : List Lv) (l : Lv) : Prop := (inst l L).2 = 0
theorem levL_spec {L : List Lv} : ∀ (ls y : List Lv), LGood L y → ((levL ls y).2.1 = 0 ↔ ∀ l ∈ ls, okL L l) ∧ ((levL ls y).2.1 = 0 → LGood L (levL ls y).1 ∧ (levL ls y).2.2 = ls.map (fL L))
  | [], y, h => by rw [levL]; exact ⟨⟨fun _ l hl => (by cases hl), fun _ => rfl⟩, fun _ => ⟨h, rfl⟩⟩
  | l :: r, y, h => by
    rw [levL]
    by_cases ho : (inst l y).2 = 0
    · rw [if_pos ho]
      have e := h.inst l
      obtain ⟨h1, h2⟩ := levL_spec r (y.take 4) (h.next ho)
      have ho2 : okL L l := by unfold okL; rw [← e]; exact ho
      refine ⟨⟨fun hh x hx => ?_, fun hh => h1.2 (fun x hx => hh x (by simp [hx]))⟩, fun hh => ⟨(h2 hh).1, ?_⟩⟩
      · rcases List.mem_cons.1 hx with rfl | hx
        · exact ho2
        · exact h1.1 hh x hx
      · show (inst l y).1 :: _ = _
        rw [(h2 hh).2, e]; rfl
    · rw [if_neg ho]
      refine ⟨⟨fun hh => absurd hh ho, fun hh => ?_⟩, fun hh => absurd hh ho⟩
      have := hh l (by simp)
      unfold okL at this
      rw [← h.inst l] at this
      exact absurd this ho

mutual
/-- Other levels. -/
def Tm.lmap (f : Lv → Lv) : Tm → Tm
  | .mk k n s ls ts => .mk k n s (ls.map f) (lmapL f ts)
def lmapL (f : Lv → Lv) : List Tm → List Tm
  | [] => []
  | t :: r => t.lmap f :: lmapL f r
end
mutual
/-- Of all levels. -/
def Tm.allL (p : Lv → Prop) : Tm → Prop
  | .mk _ _ _ ls ts => (∀ l ∈ ls, p l) ∧ allLL p ts
def allLL (p : Lv → Prop) : List Tm → Prop
  | [] => True
  | t :: r => t.allL p ∧ allLL p r
end
theorem node_ls0 {t : Tm} (h : t.node = true) (hl : t.ls ≠ []) : t.n = 0 := by
  unfold Tm.node at h
  simp only [Bool.and_eq_true] at h
  obtain ⟨⟨_, h5⟩, h6⟩ := h
  have hk : t.k = 1 ∨ t.k = 3 := by
    by_cases h1 : t.k = 1
    · exact .inl h1
    · by_cases h3 : t.k = 3
      · exact .inr h3
      · rw [if_neg h1, if_neg h3] at h6
        exact absurd (List.eq_nil_of_length_eq_zero (of_decide_eq_true h6)) hl
  rw [if_neg (by omega), if_neg (by omega)] at h5
  exact of_decide_eq_true h5

mutual
theorem thr_lev {L : List Lv} : ∀ (t : Tm) (y : List Lv) (d u : Int), OkMay t d → LGood L y → ((t.thr lfLev y u).2.1 = 0 ↔ t.allL (okL L)) ∧ ((t.thr lfLev y u).2.1 = 0 → LGood L (t.thr lfLev y u).1 ∧ (t.thr lfLev y u).2.2.getD t = t.lmap (fL L))
  | .mk k n s ls ts, y, d, u, ho, hy => by
    rw [Tm.thr, Tm.allL, Tm.lmap]
    by_cases hts : ts.isEmpty = true
    · rw [if_pos hts]
      have h0 : ts = [] := List.isEmpty_iff.1 hts
      subst h0
      obtain ⟨h1, h2⟩ := levL_spec (L := L) ls y hy
      rw [allLL, lmapL]
      show ((levL ls y).2.1 = 0 ↔ _) ∧ ((levL ls y).2.1 = 0 → LGood L (levL ls y).1 ∧ (if (levL ls y).2.1 = 0 ∧ sameL (levL ls y).2.2 ls = false then some (Tm.mk k 0 s (levL ls y).2.2 []) else none).getD (Tm.mk k n s ls []) = _)
      refine ⟨⟨fun h => ⟨h1.1 h, trivial⟩, fun h => h1.2 h.1⟩, fun h => ⟨(h2 h).1, ?_⟩⟩
      have e := (h2 h).2
      cases hs : sameL (levL ls y).2.2 ls
      · rw [if_pos ⟨h, rfl⟩, e]
        have hn : n = 0 := node_ls0 ho.node.1 (fun hl => by
          have hl' : ls = [] := hl
          subst hl'
          rw [e] at hs
          have : sameL ([] : List Lv) [] = true := sameL_iff.2 rfl
          rw [List.map_nil, this] at hs
          cases hs)
        rw [hn]; rfl
      · rw [if_neg (by simp), ← e, sameL_iff.1 hs]; rfl
    · rw [if_neg hts]
      have hls : ls = [] := node_inner ho.node.1 (show ts ≠ [] by simpa using hts)
      subst hls
      obtain ⟨h1, h2⟩ := thrL_lev (L := L) k ts y (d + 1) u (fun x hx => ho.down x hx) hy
      unfold fin
      refine ⟨⟨fun h => ⟨fun l hl => (by cases hl), h1.1 h⟩, fun h => h1.2 h.2⟩, fun h => ?_⟩
      have h' : (thrL lfLev k ts y u).2.1 = 0 := h
      obtain ⟨h3, h4, h5⟩ := h2 h'
      refine ⟨h3, ?_⟩
      cases hcc : (thrL lfLev k ts y u).2.2.1
      · rw [if_neg (by simp), ← h4, h5 hcc]
        rfl
      · rw [if_pos (by simp [h']), ← h4]
        rfl
theorem thrL_lev {L : List Lv} (k : Int) : ∀ (ts : List Tm) (y : List Lv) (d u : Int), (∀ x ∈ ts, OkMay x d) → LGood L y → ((thrL lfLev k ts y u).2.1 = 0 ↔ allLL (okL L) ts) ∧ ((thrL lfLev k ts y u).2.1 = 0 → LGood L (thrL lfLev k ts y u).1 ∧ (thrL lfLev k ts y u).2.2.2 = lmapL (fL L) ts ∧ ((thrL lfLev k ts y u).2.2.1 = false → (thrL lfLev k ts y u).2.2.2 = ts))
  | [], y, d, u, _, hy => by rw [thrL, allLL, lmapL]; exact ⟨⟨fun _ => trivial, fun _ => rfl⟩, fun _ => ⟨hy, rfl, fun _ => rfl⟩⟩
  | t :: r, y, d, u, ho, hy => by
    obtain ⟨h1, h2⟩ := thr_lev (L := L) t y d (und k r.isEmpty u) (ho t (by simp)) hy
    rw [thrL, allLL, lmapL]
    by_cases he : (t.thr lfLev y (und k r.isEmpty u)).2.1 = 0
    · rw [if_pos he]
      obtain ⟨g1, e1⟩ := h2 he
      obtain ⟨h3, h4⟩ := thrL_lev (L := L) k r (t.thr lfLev y (und k r.isEmpty u)).1 d (und k r.isEmpty u) (fun x hx => ho x (by simp [hx])) g1
      refine ⟨⟨fun h => ⟨h1.1 he, h3.1 h⟩, fun h => h3.2 h.2⟩, fun h => ?_⟩
      obtain ⟨h5, h6, h7⟩ := h4 h
      refine ⟨h5, by rw [← h6, ← e1], fun hc => ?_⟩
      simp only [Bool.or_eq_false_iff] at hc
      have h8 : (t.thr lfLev y (und k r.isEmpty u)).2.2 = none := by simpa using hc.1
      rw [h7 hc.2, h8]; rfl
    · rw [if_neg he]
      exact ⟨⟨fun h => absurd h he, fun h => absurd (h1.2 h.1) he⟩, fun h => absurd h he⟩
end
/-- What Levels answers. -/
noncomputable def levelsAns (t : Tm) (L : List Lv) : Tm × Int := if t.may = false then (zeroT, 1) else ansT (tAns t (t.thr lfLev L 0)) (t.thr lfLev L 0).2.1
theorem levels_is {t : Tm} {L : List Lv} (ht : t.may = true) (ha : t.allL (okL L)) {x : Tm} (hx : t.lmap (fL L) = x) (hm : x.may = true) : levelsAns t L = (x, 0) := by
  obtain ⟨h1, h2⟩ := thr_lev (L := L) t L 1 0 (OkMay.start ht) (.inl rfl)
  have h0 := h1.2 ha
  unfold levelsAns tAns ansT
  rw [if_neg (by rw [ht]; simp), if_pos h0, (h2 h0).2, if_neg (by simp [h0]), hx, if_pos hm]
end Trm

theorem Trm.leaf_levels {B N K : Nat} (hKN : K < N) (hBK : B ≤ K) (bo : Option Addr) (bc : Nat) (y0 : List Lv) (hy0 : y0.length ≤ 1000000) (hbc : y0.length ≤ bc) : Leaf B N (fun q => q = K) K 115 lfLev (LevInv bo bc y0 B K) (fun _ => True) where
  calls st t b o u w _ hi hn _ _ _ hat hB hN _ := levels1_any hKN hBK bo bc y0 hy0 hbc st t b o u w hi hn hat hB hN
  good _ _ _ _ _ _ _ := trivial
  kind st t u y hn _ h := by
    unfold lfLev at h
    dsimp only at h
    split at h
    · cases h
      have := (node_few hn).2.2.1
      show t.k ≠ 0
      omega
    · cases h
  keep := LevInv.keep hKN (by omega)
  low q hq := by subst hq; exact hBK
  enter args w := by kernel_rfl

set_option maxRecDepth 100000 in
set_option maxHeartbeats 4000000 in
theorem Levels_any (t : Tm) (h : Hd) (L : List Lv) (bo : Option Addr) (bc : Nat) (w : World) (hin : t.In w.heap.size w h) (hr : LRow w bo L) (hlo : Low w.heap.size bo L.length) (hL : L.length ≤ 1000000) (hbc : L.length ≤ bc) :
    Calls Tryz.prog 64 #[t.val h, .slice bo L.length bc] w fun e w' => ∃ h', e = .returned (.tuple #[(levelsAns t L).1.val h', .int .i64 (levelsAns t L).2]) ∧ (levelsAns t L).1.In w'.heap.size w' h' ∧ Below w.heap.size w w' := by
  have HM := Lib.hid (fun (W : World) (hW : Below w.heap.size w W) => PMay_any t h W (Tm.In.mono hW.size _ _ (Tm.In.below hW _ _ hin)))
  have HB0 := Lib.hid ((below_two w (t.box h) (.cells #[.slice bo L.length bc] 24)).alloc (by simp; omega) (.cells #[.int .u8 0, .int .i64 0, .string no, .slice none 0 0, .slice none 0 0] 27))
  have HX0 := Lib.hid (keepA (new1of2 w (t.box h) (.cells #[.slice bo L.length bc] 24)) (.cells #[.int .u8 0, .int .i64 0, .string no, .slice none 0 0, .slice none 0 0] 27))
  have HK0 := Lib.hid (keepA (new2 w (t.box h) (.cells #[.slice bo L.length bc] 24)) (.cells #[.int .u8 0, .int .i64 0, .string no, .slice none 0 0, .slice none 0 0] 27))
  have HA0 := Lib.hid (new3 w (t.box h) (.cells #[.slice bo L.length bc] 24) (.cells #[.int .u8 0, .int .i64 0, .string no, .slice none 0 0, .slice none 0 0] 27))
  have HIN := Lib.hid hin
  have HR := Lib.hid hr
  have HLO := Lib.hid hlo
  clear hin hr hlo
  cases hmay : t.may
  · have hs : levelsAns t L = (zeroT, 1) := if_pos hmay
    rw [hs]
    rw [hmay] at HM
    unfold Tm.val at HM ⊢
    dsimp only [Tm.vals] at HM ⊢
    clear hs hmay
    go_enter Tryz.func64, Tryz.ntmps64
    go_wp2_with fail
    refine (HM.out _ HB0.out).mono ?_
    rintro e w1 ⟨rfl, b1⟩
    have hA1 := Lvl.keep b1 HA0.out
    have HB1 := Lib.hid (Trm.go HB0.out b1)
    obtain ⟨a0, a1, a2, a3, a4⟩ := five_cells hA1
    obtain ⟨f0, f1, f2, f3, f4⟩ := five_free hA1
    have HA1 := Lib.hid hA1
    clear hA1 b1
    go_wp2_with fail
    have h5 := putT_self HA1.out (.int .u8 0) (.int .i64 0) (.string no) (.slice none 0 0) (.slice none 0 0)
    have b5 := putT_below HB1.out (by omega : w.heap.size ≤ w.heap.size + 1 + 1) (.int .u8 0) (.int .i64 0) (.string no) (.slice none 0 0) (.slice none 0 0)
    unfold putT no at h5 b5
    generalize hW : ((((w1.setCell ⟨w.heap.size + 1 + 1, 0, none⟩ (.int .u8 0)).setCell ⟨w.heap.size + 1 + 1, 1, none⟩ (.int .i64 0)).setCell ⟨w.heap.size + 1 + 1, 2, none⟩ (.string ⟨#[]⟩)).setCell ⟨w.heap.size + 1 + 1, 3, none⟩ (.slice none 0 0)).setCell ⟨w.heap.size + 1 + 1, 4, none⟩ (.slice none 0 0) = W4 at h5 b5 ⊢
    obtain ⟨e0, e1, e2, e3, e4⟩ := five_cells h5
    clear hW
    exact bodyPost_ret (v := .tuple #[zeroT.val ⟨none, 0, none, 0⟩, .int .i64 1]) (by simp [results, Tryz.results64, go_sem, e0, e1, e2, e3, e4, zeroT, Tm.val, Tm.vals, Tm.k, Tm.n, Tm.s, Tm.ls, Tm.ts, no]) rfl ⟨⟨none, 0, none, 0⟩, rfl, leaf_in (by decide) (by decide) (by decide) (by decide) (by decide), b5⟩
  · obtain ⟨a, ha⟩ : ∃ a, a = levelsAns t L := ⟨_, rfl⟩
    obtain ⟨y, hy⟩ : ∃ y, y = tAns t (t.thr lfLev L 0) := ⟨_, rfl⟩
    obtain ⟨z, hz⟩ : ∃ z, z = (t.thr lfLev L 0).2.1 := ⟨_, rfl⟩
    have hya : ansT y z = a := by
      rw [ha, hy, hz]
      unfold levelsAns
      rw [if_neg (by rw [hmay]; simp)]
    rw [← ha]
    rw [hmay] at HM
    have HTU := Lib.hid (fun (W : World) (hW : Below w.heap.size w W) (hK : W.heap[w.heap.size + 1]? = some (.cells #[.slice bo L.length bc] 24)) => show Calls Tryz.prog 114 #[t.val h, fnv 115 (w.heap.size + 1)] W (fun e w' => ∃ h', e = .returned (.tuple #[y.val h', .int .i64 z]) ∧ FirmS (fun q => w.heap.size ≤ q ∧ q < W.heap.size) w' y h' ∧ RanS (fun q => q = w.heap.size + 1) W w') from by
      have hKl := (Array.getElem?_eq_some_iff.1 hK).1
      have := turned_any (leaf_levels (B := w.heap.size) (N := W.heap.size) hKl (by omega) bo bc L hL hbc) t h L W hmay trivial ⟨hK, Or.inl rfl, LRow.low HR.out HLO.out hW, HLO.out⟩ (Tm.In.below hW _ _ HIN.out) hW.size (Nat.le_refl _) (fun q hq => by subst hq; exact hKl)
      rw [← hy, ← hz] at this
      exact this.mono (fun _ _ ⟨h', he, hf, _, hr⟩ => ⟨h', he, hf, hr⟩))
    have HAN := Lib.hid (fun (W : World) (h' : Hd) (hi : y.In W.heap.size W h') => by
      have := sub_answer_any y h' z W hi
      rw [hya] at this
      exact this)
    clear ha hy hz hya hmay
    obtain ⟨a1, a2⟩ := a
    unfold Tm.val at HM HTU HAN ⊢
    dsimp only [Tm.vals] at HM HTU HAN ⊢
    go_enter Tryz.func64, Tryz.ntmps64
    go_wp2_with fail
    refine (HM.out _ HB0.out).mono ?_
    rintro e w1 ⟨rfl, b1⟩
    have HB1 := Lib.hid (Trm.go HB0.out b1)
    have HA1 := Lib.hid (Lvl.keep b1 HA0.out)
    have hX1 := Lvl.keep b1 HX0.out
    have HK1 := Lib.hid (Lvl.keep b1 HK0.out)
    obtain ⟨x0, x1, x2, x3, x4⟩ := five_cells (show w1.heap[w.heap.size]? = some (.cells #[.int .u8 t.k, .int .i64 t.n, .string t.s, .slice h.lo t.ls.length h.lc, .slice h.to t.ts.length h.tc] 27) from hX1)
    have lX := (Array.getElem?_eq_some_iff.1 hX1).1
    clear b1 hX1
    go_wp2_with fail
    refine (HTU.out _ HB1.out HK1.out).mono ?_
    rintro e wt ⟨ht, rfl, iT, rT⟩
    have HBt := Lib.hid ((HB1.out).trans (rT.below (fun q hq => by subst hq; omega) HB1.out.size))
    have HAt := Lib.hid (rT.keep HA1.out (by omega))
    have HIt := Lib.hid iT
    have hlw1 := (Array.getElem?_eq_some_iff.1 HA1.out).1
    clear iT rT x0 x1 x2 x3 x4 lX
    go_wp2_with fail
    refine (HAN.out _ _ HIt.out.here).mono ?_
    rintro e wa ⟨ha, rfl, iA, ba⟩
    have HBa := Lib.hid (Trm.go HBt.out ba)
    have hAa := Lvl.keep ba HAt.out
    obtain ⟨q0, q1, q2, q3, q4⟩ := five_cells hAa
    obtain ⟨f0, f1, f2, f3, f4⟩ := five_free hAa
    have HAa := Lib.hid hAa
    have HIa := Lib.hid (iA _ HIt.out)
    clear ba iA hAa
    go_wp2_with fail
    have h5 := putT_self HAa.out (.int .u8 a1.k) (.int .i64 a1.n) (.string a1.s) (.slice ha.lo a1.ls.length ha.lc) (.slice ha.to a1.ts.length ha.tc)
    have b5 := putT_below HBa.out (by omega : w.heap.size ≤ w.heap.size + 1 + 1) (.int .u8 a1.k) (.int .i64 a1.n) (.string a1.s) (.slice ha.lo a1.ls.length ha.lc) (.slice ha.to a1.ts.length ha.tc)
    have r5 := putT_ran wa (w.heap.size + 1 + 1) (.int .u8 a1.k) (.int .i64 a1.n) (.string a1.s) (.slice ha.lo a1.ls.length ha.lc) (.slice ha.to a1.ts.length ha.tc)
    unfold putT at h5 b5 r5
    generalize hW : ((((wa.setCell ⟨w.heap.size + 1 + 1, 0, none⟩ (.int .u8 a1.k)).setCell ⟨w.heap.size + 1 + 1, 1, none⟩ (.int .i64 a1.n)).setCell ⟨w.heap.size + 1 + 1, 2, none⟩ (.string a1.s)).setCell ⟨w.heap.size + 1 + 1, 3, none⟩ (.slice ha.lo a1.ls.length ha.lc)).setCell ⟨w.heap.size + 1 + 1, 4, none⟩ (.slice ha.to a1.ts.length ha.tc) = W4 at h5 b5 r5 ⊢
    obtain ⟨e0, e1, e2, e3, e4⟩ := five_cells h5
    clear hW
    refine bodyPost_ret (v := .tuple #[a1.val ha, .int .i64 a2]) (by simp [results, Tryz.results64, go_sem, e0, e1, e2, e3, e4, Tm.val, Tm.vals]) rfl ⟨ha, rfl, ?_, b5⟩
    exact (HIa.out.step (RanS.of_ran r5 ⟨by omega, hlw1⟩)).here
end Go.Proofs.YtiekbhlnnmnklaaGreat



namespace Go.Proofs.YtiekbhlnnmnklaaGreat
open Go.RowKit Go.Shelf Lvl

set_option maxRecDepth 100000 in
set_option maxHeartbeats 1000000 in
theorem zero_any (w : World) : Calls Tryz.prog 209 #[] w fun e w' => e = .returned (number 0).val ∧ Below w.heap.size w w' := by
  have HZ := Lib.hid (World.alloc_heap_new w zero.box)
  go_enter Tryz.func209, Tryz.ntmps209
  go_wp2_with fail
  refine (number_any _ _).mono ?_
  rintro e w1 ⟨rfl, b1⟩
  have HR := Lib.hid (keep b1 HZ.out)
  have B1 := Lib.hid ((below_one w zero.box).trans (b1.mono (by simp)))
  obtain ⟨d0, d1, d2, d3, d4⟩ := Lv.cells HR.out
  obtain ⟨f0, f1, f2, f3, f4⟩ := Lv.frees HR.out
  clear b1
  dsimp only [number, Lv.val]
  go_wp2_with fail
  have h5 := put5_self HR.out (number 0)
  have b5 := put5_below B1.out (B := w.heap.size) (by omega) (number 0)
  generalize hW : (((((w1.setCell ⟨w.heap.size, 0, none⟩ (.int .i64 0)).setCell ⟨w.heap.size, 1, none⟩ (.int .i64 (-1))).setCell ⟨w.heap.size, 2, none⟩ (.int .i64 (-1))).setCell ⟨w.heap.size, 3, none⟩ (.int .i64 (-1))).setCell ⟨w.heap.size, 4, none⟩ (.int .i64 (-1))) = W4
  rw [show put5 w1 (w.heap.size) (number 0) = W4 from hW] at h5 b5
  obtain ⟨e0, e1, e2, e3, e4⟩ := Lv.cells h5
  exact bodyPost_ret (v := .agg #[.int .i64 0, .int .i64 (-1), .int .i64 (-1), .int .i64 (-1), .int .i64 (-1)]) (by simp [results, Tryz.results209, go_sem, e0, e1, e2, e3, e4, number]) rfl ⟨rfl, b5⟩
end Go.Proofs.YtiekbhlnnmnklaaGreat



namespace Go.Proofs.YtiekbhlnnmnklaaGreat
open Go.RowKit Go.Shelf Lvl

set_option maxRecDepth 100000 in
set_option maxHeartbeats 1000000 in
theorem param_no (i : Int) (w : World) (h : ¬ (0 ≤ i ∧ i < 4)) :
    Calls Tryz.prog 188 #[.int .i64 i] w fun e w' => e = .returned (.tuple #[zero.val, .int .i64 1]) ∧ Below w.heap.size w w' := by
  have h' : i < 0 ∨ (0 ≤ i ∧ 4 ≤ i) := by omega
  clear h
  rcases h' with h | ⟨h0, h⟩
  all_goals
    go_enter Tryz.func188, Tryz.ntmps188
    go_wp2_with fail
    exact bodyPost_ret (v := .tuple #[.agg #[.int .i64 0, .int .i64 0, .int .i64 0, .int .i64 0, .int .i64 0], .int .i64 1]) (by simp [results, Tryz.results188, go_sem]) rfl ⟨rfl, below_one _ _⟩

set_option maxRecDepth 100000 in
set_option maxHeartbeats 1000000 in
theorem param0 (w : World) :
    Calls Tryz.prog 188 #[.int .i64 0] w fun e w' => e = .returned (.tuple #[.agg #[.int .i64 0, .int .i64 0, .int .i64 (-1), .int .i64 (-1), .int .i64 (-1)], .int .i64 0]) ∧ Below w.heap.size w w' := by
  have HZ := Lib.hid (World.alloc_heap_new w zero.box)
  go_enter Tryz.func188, Tryz.ntmps188
  go_wp2_with fail
  refine (zero_any _).mono ?_
  rintro e w1 ⟨rfl, b1⟩
  have HR := Lib.hid (keep b1 HZ.out)
  have B1 := Lib.hid ((below_one w zero.box).trans (b1.mono (by simp)))
  obtain ⟨d0, d1, d2, d3, d4⟩ := Lv.cells HR.out
  obtain ⟨f0, f1, f2, f3, f4⟩ := Lv.frees HR.out
  have hz0 : w.heap.size < w1.heap.size := by have := b1.size; simp at this; omega
  clear b1
  dsimp only [number, Lv.val]
  go_wp2_with fail
  have h5 := keepA (put5_self HR.out ⟨0, 0, -1, -1, -1⟩) (Lv.box ⟨0, 0, -1, -1, -1⟩)
  have b5 := (put5_below B1.out (B := w.heap.size) (Nat.le_refl _) ⟨0, 0, -1, -1, -1⟩).alloc (by simp [put5]; omega) (Lv.box ⟨0, 0, -1, -1, -1⟩)
  generalize hW : (((((w1.setCell ⟨w.heap.size, 0, none⟩ (.int .i64 0)).setCell ⟨w.heap.size, 1, none⟩ (.int .i64 0)).setCell ⟨w.heap.size, 2, none⟩ (.int .i64 (-1))).setCell ⟨w.heap.size, 3, none⟩ (.int .i64 (-1))).setCell ⟨w.heap.size, 4, none⟩ (.int .i64 (-1))).alloc (.cells #[.int .i64 0, .int .i64 0, .int .i64 (-1), .int .i64 (-1), .int .i64 (-1)] 61) = W4
  rw [show (put5 w1 w.heap.size ⟨0, 0, -1, -1, -1⟩).alloc (Lv.box ⟨0, 0, -1, -1, -1⟩) = W4 from hW] at h5 b5
  obtain ⟨e0, e1, e2, e3, e4⟩ := Lv.cells h5
  exact bodyPost_ret (v := .tuple #[.agg #[.int .i64 0, .int .i64 0, .int .i64 (-1), .int .i64 (-1), .int .i64 (-1)], .int .i64 0]) (by simp [results, Tryz.results188, go_sem, e0, e1, e2, e3, e4]) rfl ⟨rfl, b5⟩

set_option maxRecDepth 100000 in
set_option maxHeartbeats 1000000 in
theorem param1 (w : World) :
    Calls Tryz.prog 188 #[.int .i64 1] w fun e w' => e = .returned (.tuple #[.agg #[.int .i64 0, .int .i64 (-1), .int .i64 0, .int .i64 (-1), .int .i64 (-1)], .int .i64 0]) ∧ Below w.heap.size w w' := by
  have HZ := Lib.hid (World.alloc_heap_new w zero.box)
  go_enter Tryz.func188, Tryz.ntmps188
  go_wp2_with fail
  refine (zero_any _).mono ?_
  rintro e w1 ⟨rfl, b1⟩
  have HR := Lib.hid (keep b1 HZ.out)
  have B1 := Lib.hid ((below_one w zero.box).trans (b1.mono (by simp)))
  obtain ⟨d0, d1, d2, d3, d4⟩ := Lv.cells HR.out
  obtain ⟨f0, f1, f2, f3, f4⟩ := Lv.frees HR.out
  have hz0 : w.heap.size < w1.heap.size := by have := b1.size; simp at this; omega
  clear b1
  dsimp only [number, Lv.val]
  go_wp2_with fail
  have h5 := keepA (put5_self HR.out ⟨0, -1, 0, -1, -1⟩) (Lv.box ⟨0, -1, 0, -1, -1⟩)
  have b5 := (put5_below B1.out (B := w.heap.size) (Nat.le_refl _) ⟨0, -1, 0, -1, -1⟩).alloc (by simp [put5]; omega) (Lv.box ⟨0, -1, 0, -1, -1⟩)
  generalize hW : (((((w1.setCell ⟨w.heap.size, 0, none⟩ (.int .i64 0)).setCell ⟨w.heap.size, 1, none⟩ (.int .i64 (-1))).setCell ⟨w.heap.size, 2, none⟩ (.int .i64 0)).setCell ⟨w.heap.size, 3, none⟩ (.int .i64 (-1))).setCell ⟨w.heap.size, 4, none⟩ (.int .i64 (-1))).alloc (.cells #[.int .i64 0, .int .i64 (-1), .int .i64 0, .int .i64 (-1), .int .i64 (-1)] 61) = W4
  rw [show (put5 w1 w.heap.size ⟨0, -1, 0, -1, -1⟩).alloc (Lv.box ⟨0, -1, 0, -1, -1⟩) = W4 from hW] at h5 b5
  obtain ⟨e0, e1, e2, e3, e4⟩ := Lv.cells h5
  exact bodyPost_ret (v := .tuple #[.agg #[.int .i64 0, .int .i64 (-1), .int .i64 0, .int .i64 (-1), .int .i64 (-1)], .int .i64 0]) (by simp [results, Tryz.results188, go_sem, e0, e1, e2, e3, e4]) rfl ⟨rfl, b5⟩

set_option maxRecDepth 100000 in
set_option maxHeartbeats 1000000 in
theorem param2 (w : World) :
    Calls Tryz.prog 188 #[.int .i64 2] w fun e w' => e = .returned (.tuple #[.agg #[.int .i64 0, .int .i64 (-1), .int .i64 (-1), .int .i64 0, .int .i64 (-1)], .int .i64 0]) ∧ Below w.heap.size w w' := by
  have HZ := Lib.hid (World.alloc_heap_new w zero.box)
  go_enter Tryz.func188, Tryz.ntmps188
  go_wp2_with fail
  refine (zero_any _).mono ?_
  rintro e w1 ⟨rfl, b1⟩
  have HR := Lib.hid (keep b1 HZ.out)
  have B1 := Lib.hid ((below_one w zero.box).trans (b1.mono (by simp)))
  obtain ⟨d0, d1, d2, d3, d4⟩ := Lv.cells HR.out
  obtain ⟨f0, f1, f2, f3, f4⟩ := Lv.frees HR.out
  have hz0 : w.heap.size < w1.heap.size := by have := b1.size; simp at this; omega
  clear b1
  dsimp only [number, Lv.val]
  go_wp2_with fail
  have h5 := keepA (put5_self HR.out ⟨0, -1, -1, 0, -1⟩) (Lv.box ⟨0, -1, -1, 0, -1⟩)
  have b5 := (put5_below B1.out (B := w.heap.size) (Nat.le_refl _) ⟨0, -1, -1, 0, -1⟩).alloc (by simp [put5]; omega) (Lv.box ⟨0, -1, -1, 0, -1⟩)
  generalize hW : (((((w1.setCell ⟨w.heap.size, 0, none⟩ (.int .i64 0)).setCell ⟨w.heap.size, 1, none⟩ (.int .i64 (-1))).setCell ⟨w.heap.size, 2, none⟩ (.int .i64 (-1))).setCell ⟨w.heap.size, 3, none⟩ (.int .i64 0)).setCell ⟨w.heap.size, 4, none⟩ (.int .i64 (-1))).alloc (.cells #[.int .i64 0, .int .i64 (-1), .int .i64 (-1), .int .i64 0, .int .i64 (-1)] 61) = W4
  rw [show (put5 w1 w.heap.size ⟨0, -1, -1, 0, -1⟩).alloc (Lv.box ⟨0, -1, -1, 0, -1⟩) = W4 from hW] at h5 b5
  obtain ⟨e0, e1, e2, e3, e4⟩ := Lv.cells h5
  exact bodyPost_ret (v := .tuple #[.agg #[.int .i64 0, .int .i64 (-1), .int .i64 (-1), .int .i64 0, .int .i64 (-1)], .int .i64 0]) (by simp [results, Tryz.results188, go_sem, e0, e1, e2, e3, e4]) rfl ⟨rfl, b5⟩

set_option maxRecDepth 100000 in
set_option maxHeartbeats 1000000 in
theorem param3 (w : World) :
    Calls Tryz.prog 188 #[.int .i64 3] w fun e w' => e = .returned (.tuple #[.agg #[.int .i64 0, .int .i64 (-1), .int .i64 (-1), .int .i64 (-1), .int .i64 0], .int .i64 0]) ∧ Below w.heap.size w w' := by
  have HZ := Lib.hid (World.alloc_heap_new w zero.box)
  go_enter Tryz.func188, Tryz.ntmps188
  go_wp2_with fail
  refine (zero_any _).mono ?_
  rintro e w1 ⟨rfl, b1⟩
  have HR := Lib.hid (keep b1 HZ.out)
  have B1 := Lib.hid ((below_one w zero.box).trans (b1.mono (by simp)))
  obtain ⟨d0, d1, d2, d3, d4⟩ := Lv.cells HR.out
  obtain ⟨f0, f1, f2, f3, f4⟩ := Lv.frees HR.out
  have hz0 : w.heap.size < w1.heap.size := by have := b1.size; simp at this; omega
  clear b1
  dsimp only [number, Lv.val]
  go_wp2_with fail
  have h5 := keepA (put5_self HR.out ⟨0, -1, -1, -1, 0⟩) (Lv.box ⟨0, -1, -1, -1, 0⟩)
  have b5 := (put5_below B1.out (B := w.heap.size) (Nat.le_refl _) ⟨0, -1, -1, -1, 0⟩).alloc (by simp [put5]; omega) (Lv.box ⟨0, -1, -1, -1, 0⟩)
  generalize hW : (((((w1.setCell ⟨w.heap.size, 0, none⟩ (.int .i64 0)).setCell ⟨w.heap.size, 1, none⟩ (.int .i64 (-1))).setCell ⟨w.heap.size, 2, none⟩ (.int .i64 (-1))).setCell ⟨w.heap.size, 3, none⟩ (.int .i64 (-1))).setCell ⟨w.heap.size, 4, none⟩ (.int .i64 0)).alloc (.cells #[.int .i64 0, .int .i64 (-1), .int .i64 (-1), .int .i64 (-1), .int .i64 0] 61) = W4
  rw [show (put5 w1 w.heap.size ⟨0, -1, -1, -1, 0⟩).alloc (Lv.box ⟨0, -1, -1, -1, 0⟩) = W4 from hW] at h5 b5
  obtain ⟨e0, e1, e2, e3, e4⟩ := Lv.cells h5
  exact bodyPost_ret (v := .tuple #[.agg #[.int .i64 0, .int .i64 (-1), .int .i64 (-1), .int .i64 (-1), .int .i64 0], .int .i64 0]) (by simp [results, Tryz.results188, go_sem, e0, e1, e2, e3, e4]) rfl ⟨rfl, b5⟩

theorem param_any (i : Int) (w : World) :
    Calls Tryz.prog 188 #[.int .i64 i] w fun e w' => e = .returned (.tuple #[(param i).1.val, .int .i64 (param i).2]) ∧ Below w.heap.size w w' := by
  unfold param
  by_cases h : 0 ≤ i ∧ i < 4
  · rw [if_pos h]
    have hk : i = 0 ∨ i = 1 ∨ i = 2 ∨ i = 3 := by omega
    rcases hk with rfl | rfl | rfl | rfl
    · exact param0 w
    · exact param1 w
    · exact param2 w
    · exact param3 w
  · rw [if_neg h]
    exact param_no i w h
end Go.Proofs.YtiekbhlnnmnklaaGreat



namespace Go.Proofs.YtiekbhlnnmnklaaGreat
open Go.RowKit Go.Shelf Lvl Trm Env

namespace Env
/-- The first n parameters. -/
def parL (n : Nat) : List Lv := (List.range n).map fun i : Nat => (param (i : Int)).1
theorem parL_len (n : Nat) : (parL n).length = n := by simp [parL]
theorem parL_succ (n : Nat) : parL (n + 1) = parL n ++ [(param (n : Int)).1] := by simp [parL, List.range_succ]
def ParPost (n : Nat) (w : World) (e : Ending) (w' : World) : Prop := ∃ g, e = .returned (.slice (some ⟨g, 0, none⟩) n n) ∧ LRow w' (some ⟨g, 0, none⟩) (parL n) ∧ w.heap.size ≤ g ∧ g < w'.heap.size ∧ Below w.heap.size w w'
def ParRel (w : World) (n : Nat) (i : Value) (wr : World) : Prop := ∃ k : Nat, i = .int .i64 k ∧ k ≤ n ∧ LBlk wr w.heap.size n (parL k) ∧ Below w.heap.size w wr
end Env

set_option maxRecDepth 100000 in
set_option maxHeartbeats 4000000 in
theorem envParams_any (n : Nat) (hn : n ≤ 4) (w : World) : Calls Tryz.prog 153 #[.int .i64 n] w (ParPost n w) := by
  have hmk := fun W => make_levels n hn W
  have HN := Lib.hid hn
  have H0 : Hid (ParRel w n (.int .i64 (0 : Nat)) (w.alloc (zeros n))) := Lib.hid ⟨0, rfl, by omega, LBlk.made w n, below_one _ _⟩
  clear hn
  go_enter Tryz.func153, Tryz.ntmps153
  go_wp2_with fail
  go_loopw [9] (fun i wr => ParRel w n i wr) (fun i _ => n - (intOf i).toNat)
  case atStart => exact H0.out
  case round =>
    obtain ⟨k, rfl, hk, hblk, hbel⟩ := hrel
    have HBLK := Lib.hid hblk
    have HBEL := Lib.hid hbel
    clear hblk hbel H0 hmk
    by_cases hlt : k < n
    · have HLT := Lib.hid hlt
      have HP := Lib.hid (param_any (k : Int) wr)
      have HSU := Lib.hid (parL_succ k)
      obtain ⟨x, hx⟩ : ∃ x, x = (param (k : Int)).1 := ⟨_, rfl⟩
      obtain ⟨q, hq⟩ : ∃ q, q = (param (k : Int)).2 := ⟨_, rfl⟩
      rw [← hx, ← hq] at HP
      rw [← hx] at HSU
      unfold Lv.val at HP
      clear hx hq
      go_wp2_with fail
      refine HP.out.mono ?_
      rintro e w2 ⟨rfl, b2⟩
      have HB2 := Lib.hid b2
      have hL2 := HBLK.out.of_block (b2.block _ HBLK.out.lt)
      have HL2 := Lib.hid hL2
      have hl5 : k * 5 + 4 < n * 5 := by omega
      obtain ⟨v0, g0⟩ := hL2.has (i := k * 5) (by omega)
      obtain ⟨v1, g1⟩ := hL2.has (i := k * 5 + 1) (by omega)
      obtain ⟨v2, g2⟩ := hL2.has (i := k * 5 + 2) (by omega)
      obtain ⟨v3, g3⟩ := hL2.has (i := k * 5 + 3) (by omega)
      obtain ⟨v4, g4⟩ := hL2.has (i := k * 5 + 4) (by omega)
      have f0 := hL2.free (k * 5)
      have f1 := hL2.free (k * 5 + 1)
      have f2 := hL2.free (k * 5 + 2)
      have f3 := hL2.free (k * 5 + 3)
      have f4 := hL2.free (k * 5 + 4)
      have hput := hL2.put (by rw [parL_len]; exact hlt) x
      rw [parL_len, ← HSU.out] at hput
      have hran := RanS.of_ran (P := fun q => q = w.heap.size) (putO_ran w2 w.heap.size (k * 5) (.int .i64 x.c) (.int .i64 x.p0) (.int .i64 x.p1) (.int .i64 x.p2) (.int .i64 x.p3)) rfl
      have hbw : Below w.heap.size w w2 := HBEL.out.trans (b2.mono HBEL.out.size)
      have hbe := hbw.trans (hran.below (fun q e => by omega) hbw.size)
      unfold putO at hbe
      have HNX : Hid (∀ z : Int, z = (k : Int) + 1 → ParRel w n (.int .i64 z) _) := Lib.hid fun z hz => ⟨k + 1, by rw [hz]; rfl, HLT.out, hput, hbe⟩
      have hwk : wrap64 ((k : Int) + 1) = (k : Int) + 1 := IntWalk.wrap64_in _ (by have := HN.out; omega)
      clear b2 hL2 hput hran hbw hbe hl5
      go_wp2_with fail
      go_roundw
      case rel => exact HNX.out _ hwk
      case measure => exact less_step hwk HLT.out
    · have hke : k = n := by omega
      subst hke
      have HPO : Hid (ParPost k w (.returned (.slice (some ⟨w.heap.size, 0, none⟩) k k)) wr) := Lib.hid ⟨_, rfl, HBLK.out.row, Nat.le_refl _, HBLK.out.lt, HBEL.out⟩
      go_wp2_with fail
      go_ret
      exact HPO.out

namespace Env
/-- Why a term is not closed over n levels. -/
noncomputable def openE (t : Tm) (n : Nat) : Int := if t.may = true ∧ t.free ≤ 0 then (levelsAns t (parL n)).2 else 7
end Env

set_option maxRecDepth 100000 in
set_option maxHeartbeats 4000000 in
theorem open_any (t : Tm) (h : Hd) (n : Nat) (bo : Option Addr) (bc : Nat) (w : World) (hin : t.In w.heap.size w h) (hr : LRow w bo (parL n)) (hlo : Low w.heap.size bo n) (hbc : n ≤ bc) (hn : n ≤ 4) :
    Calls Tryz.prog 156 #[t.val h, .slice bo n bc] w fun e w' => e = .returned (.int .i64 (openE t n)) ∧ Below w.heap.size w w' := by
  obtain ⟨G, hG⟩ : ∃ G, G = openE t n := ⟨_, rfl⟩
  rw [← hG]
  have HG1 := Lib.hid (show t.may = true → t.free ≤ 0 → (levelsAns t (parL n)).2 = G from fun h1 h2 => by rw [hG, openE, if_pos ⟨h1, h2⟩])
  have HG2 := Lib.hid (show ¬ (t.may = true ∧ t.free ≤ 0) → 7 = G from fun h1 => by rw [hG, openE, if_neg h1])
  obtain ⟨WA, hWA⟩ : ∃ WA, WA = w.alloc (t.box h) := ⟨_, rfl⟩
  have HBA := Lib.hid (show Below w.heap.size w WA from hWA ▸ below_one _ _)
  have HBX := Lib.hid (show WA.heap[w.heap.size]? = some (t.box h) from hWA ▸ World.alloc_heap_new w _)
  have HM := Lib.hid (PMay_any t h WA (carry hin HBA.out))
  have HF := Lib.hid (fun (W : World) (hW : Below WA.heap.size WA W) => PFree_any t h W (carry (carry hin HBA.out) hW))
  have HL := Lib.hid (fun (W : World) (hW : Below WA.heap.size WA W) => (show Calls Tryz.prog 64 #[t.val h, .slice bo n bc] W fun e w' => ∃ h', e = .returned (.tuple #[(levelsAns t (parL n)).1.val h', .int .i64 (levelsAns t (parL n)).2]) ∧ (levelsAns t (parL n)).1.In w'.heap.size w' h' ∧ Below W.heap.size W w' from by
    have hb : Below w.heap.size w W := Trm.go HBA.out hW
    have h1 := Levels_any t h (parL n) bo bc W (carry hin hb) (hr.below hb) (by rw [parL_len]; exact Low.mono hlo hb.size) (by rw [parL_len]; omega) (by rw [parL_len]; exact hbc)
    rw [parL_len] at h1
    exact h1))
  obtain ⟨y, hy⟩ : ∃ y, y = (levelsAns t (parL n)).1 := ⟨_, rfl⟩
  obtain ⟨q, hq⟩ : ∃ q, q = (levelsAns t (parL n)).2 := ⟨_, rfl⟩
  rw [← hy, ← hq] at HL
  rw [← hq] at HG1
  obtain ⟨F, hF⟩ : ∃ F, F = t.free := ⟨_, rfl⟩
  rw [← hF] at HG1 HG2 HF
  clear hy hq hF hG hin hr hlo hbc hn
  unfold Tm.val Tm.vals at *
  go_enter Tryz.func156, Tryz.ntmps156
  unfold Tm.box Tm.vals at hWA
  go_upto_region 1 with fail
  rw [← hWA]
  clear hWA
  obtain ⟨x0, x1, x2, x3, x4⟩ := Tm.cells HBX.out
  go_wp2_with fail
  refine HM.out.mono ?_
  rintro e w1 ⟨rfl, b1⟩
  have H1 := Lib.hid b1
  clear b1 HM x0 x1 x2 x3 x4
  cases hm : t.may
  · have HE := Lib.hid (HG2.out (fun hh => by rw [hm] at hh; cases hh.1))
    have HB := Lib.hid (Trm.go HBA.out H1.out)
    clear hm
    go_wp2_with fail
    go_ret
    exact ⟨by rw [← HE.out]; rfl, HB.out⟩
  · have HMM := Lib.hid hm
    clear hm
    obtain ⟨x0, x1, x2, x3, x4⟩ := Tm.cells (Lvl.keep H1.out HBX.out)
    go_wp2_with fail
    refine (HF.out _ H1.out).mono ?_
    rintro e w2 ⟨rfl, b2⟩
    have H2 := Lib.hid (Trm.go H1.out b2)
    clear b2 x0 x1 x2 x3 x4
    by_cases hf : 0 < F
    · have HE := Lib.hid (HG2.out (fun hh => by have := hh.2; omega))
      have HB := Lib.hid (Trm.go HBA.out H2.out)
      go_wp2_with fail
      go_ret
      exact ⟨by rw [← HE.out]; rfl, HB.out⟩
    · have HE := Lib.hid (HG1.out HMM.out (by omega))
      have hf2 : F ≤ 0 := by omega
      obtain ⟨x0, x1, x2, x3, x4⟩ := Tm.cells (Lvl.keep H2.out HBX.out)
      go_wp2_with fail
      refine (HL.out _ H2.out).mono ?_
      rintro e w3 ⟨h', rfl, _, b3⟩
      have HB := Lib.hid (Trm.go (Trm.go HBA.out (Trm.go H2.out b3)) (below_one w3 (.cells (y.vals h') 27)))
      unfold Tm.vals at HB
      clear b3 x0 x1 x2 x3 x4
      go_wp2_with fail
      go_ret
      exact ⟨by rw [← HE.out]; rfl, HB.out⟩
end Go.Proofs.YtiekbhlnnmnklaaGreat


namespace Go.Proofs.YtiekbhlnnmnklaaGreat
open Go.RowKit Go.Shelf Go.Maps Go.Sort Lvl Trm

namespace Trm
/-- A name, as bytes; none where it is empty. -/
def oneN (s : ByteArray) : List (List UInt8) := if s.size = 0 then [] else [s.data.toList]
mutual
/-- The names, from the left. -/
def Tm.nms : Tm → List (List UInt8)
  | .mk _ _ s _ ts => oneN s ++ nmsL ts
def nmsL : List Tm → List (List UInt8)
  | [] => []
  | t :: r => t.nms ++ nmsL r
end
theorem Tm.nms_eq (t : Tm) : t.nms = oneN t.s ++ nmsL t.ts := by cases t; rw [Tm.nms]; rfl
theorem nmsL_mem {x : Tm} : ∀ {ts : List Tm}, x ∈ ts → ∀ y ∈ x.nms, y ∈ nmsL ts
  | t :: r, h, y, hy => by
    rw [nmsL]
    rcases List.mem_cons.1 h with rfl | h
    · exact List.mem_append_left _ hy
    · exact List.mem_append_right _ (nmsL_mem h y hy)
mutual
theorem nms_size : ∀ t : Tm, (t.nms.length : Int) ≤ t.size
  | .mk k n s ls ts => by
    rw [Tm.nms, Tm.size, List.length_append]
    have h1 := nmsL_size ts
    have h2 : (oneN s).length ≤ 1 := by unfold oneN; split <;> simp
    omega
theorem nmsL_size : ∀ ts : List Tm, ((nmsL ts).length : Int) ≤ sizeL ts
  | [] => by rw [nmsL, sizeL]; simp
  | t :: r => by
    rw [nmsL, sizeL, List.length_append]
    have h1 := nms_size t
    have h2 := nmsL_size r
    omega
end
def seeNames (st : List (List UInt8)) (t : Tm) (_d _u : Int) : List (List UInt8) × Bool := (st ++ oneN t.s, true)
mutual
theorem Tm.walk_names : ∀ (t : Tm) (st : List (List UInt8)) (d u : Int), t.walk seeNames st d u = (st ++ t.nms, true)
  | .mk k n s ls ts, st, d, u => by
    rw [Tm.walk, Tm.nms]
    rw [if_pos (show (seeNames st (Tm.mk k n s ls ts) d u).2 = true from rfl), walkL_names k ts 0 _ (d + 1) u]
    show (st ++ oneN s ++ nmsL ts, true) = _
    rw [List.append_assoc]
theorem walkL_names (k : Int) : ∀ (ts : List Tm) (i : Nat) (st : List (List UInt8)) (d u : Int), walkL seeNames k ts i st d u = (st ++ nmsL ts, true)
  | [], i, st, d, u => by rw [walkL, nmsL, List.append_nil]
  | t :: r, i, st, d, u => by
    rw [walkL, Tm.walk_names t, nmsL]
    rw [if_pos rfl, walkL_names k r (i + 1) _ d _, List.append_assoc]
end
abbrev tru : DataW Unit := .lit (.bool true)
/-- The set of these names. -/
def DN (st : List (List UInt8)) : DataW Unit := setOf tru (st.map Lit.string)
theorem DN_snoc (st : List (List UInt8)) (x : List UInt8) : DN (st ++ [x]) = (DN st).put (.string x) tru := by
  unfold DN
  rw [List.map_append]
  exact setOf_snoc _ _ _
theorem isKey (st : List (List UInt8)) : ∀ x ∈ st.map Lit.string, WideAt.IsKeyLit x := by
  intro x hx
  obtain ⟨y, _, rfl⟩ := List.mem_map.1 hx
  trivial
theorem DN_tidy (st : List (List UInt8)) : Tidy (DN st) := tidy_setOf _ _ (isKey st)
theorem DN_has (st : List (List UInt8)) (x : List UInt8) : Maps.has (DN st) (.string x) = true ↔ x ∈ st := by
  unfold DN
  rw [has_setOf _ _ _ (isKey st), List.any_eq_true]
  constructor
  · rintro ⟨y, hy, hs⟩
    obtain ⟨z, hz, rfl⟩ := List.mem_map.1 hy
    have := WideAt.sameKey_eq hs
    injection this with h
    rw [← h]; exact hz
  · intro hx
    exact ⟨.string x, List.mem_map.2 ⟨x, hx, rfl⟩, WideAt.sameKey_self trivial⟩
theorem nodup_le {α : Type} [DecidableEq α] : ∀ (l m : List α), l.Nodup → (∀ x ∈ l, x ∈ m) → l.length ≤ m.length
  | [], m, _, _ => by simp
  | x :: r, m, hn, hs => by
    obtain ⟨h1, h2⟩ := List.nodup_cons.1 hn
    have h3 := nodup_le r (m.erase x) h2 (fun y hy => (List.mem_erase_of_ne (fun e => h1 (by rw [← e]; exact hy))).2 (hs y (by simp [hy])))
    have h4 := List.length_erase_of_mem (hs x (by simp))
    have h5 := List.length_pos_of_mem (hs x (by simp))
    simp only [List.length_cons]
    omega
theorem fold_keys (S : List Lit) : ∀ (acc : List Lit) (m : DataW Unit), (∃ es, m = .map es ∧ ∀ p ∈ es, p.1 ∈ S) → (∀ x ∈ acc, x ∈ S) → ∃ es, acc.foldl (fun m x => m.put x tru) m = .map es ∧ ∀ p ∈ es, p.1 ∈ S
  | [], m, h, _ => h
  | x :: r, m, h, hs => by
    rw [List.foldl_cons]
    refine fold_keys S r _ ?_ (fun y hy => hs y (by simp [hy]))
    obtain ⟨es, rfl, he⟩ := h
    refine ⟨_, rfl, fun p hp => ?_⟩
    have hp2 := (WideShapes.insert_perm (x, tru) _).mem_iff.1 hp
    rcases List.mem_cons.1 hp2 with rfl | hp2
    · exact hs x (by simp)
    · exact he p (List.mem_filter.1 hp2).1
theorem DN_keys (st : List (List UInt8)) : ∃ es, DN st = .map es ∧ es.Pairwise (fun p q => p.1 ≠ q.1) ∧ ∀ p ∈ es, ∃ x ∈ st, p.1 = .string x := by
  obtain ⟨es, he, hp⟩ := DN_tidy st
  obtain ⟨es', he', hk⟩ := fold_keys (st.map Lit.string) (st.map Lit.string) (.map []) ⟨[], rfl, fun p hp => by cases hp⟩ (fun x hx => hx)
  have e : es = es' := by
    have h1 : DN st = .map es' := he'
    rw [he] at h1
    injection h1
  subst e
  refine ⟨es, he, hp, fun p hp' => ?_⟩
  obtain ⟨x, hx, hxe⟩ := List.mem_map.1 (hk p hp')
  exact ⟨x, hx, hxe.symm⟩
/-- As many as there are are among these. -/
theorem DN_size {st Ns : List (List UInt8)} (h : ∀ x ∈ st, x ∈ Ns) : Maps.size (DN st) ≤ Ns.length := by
  obtain ⟨es, he, hp, hk⟩ := DN_keys st
  rw [he]
  show es.length ≤ _
  have h1 := nodup_le (es.map (fun p => strOf p.1)) Ns ?_ ?_
  · simpa using h1
  · refine List.pairwise_map.2 (hp.imp_of_mem fun {p q} hp' hq' hne e => hne ?_)
    obtain ⟨a, _, ha⟩ := hk p hp'
    obtain ⟨b, _, hb⟩ := hk q hq'
    rw [ha, hb] at e ⊢
    exact congrArg _ e
  · intro x hx
    obtain ⟨p, hp', rfl⟩ := List.mem_map.1 hx
    obtain ⟨a, ha, hae⟩ := hk p hp'
    rw [hae]
    exact h a ha
/-- Its keys are these. -/
theorem DN_strKeys (st : List (List UInt8)) (x : List UInt8) : x ∈ strKeys (DN st) ↔ x ∈ st := by
  obtain ⟨es, he, hp, hk⟩ := DN_keys st
  rw [← DN_has st x, he]
  show x ∈ es.map (fun p => strOf p.1) ↔ es.any (fun p => p.1.sameKey (.string x)) = true
  rw [List.any_eq_true, List.mem_map]
  constructor
  · rintro ⟨p, hp', rfl⟩
    obtain ⟨a, _, ha⟩ := hk p hp'
    exact ⟨p, hp', by rw [ha]; exact WideAt.sameKey_self trivial⟩
  · rintro ⟨p, hp', hs⟩
    exact ⟨p, hp', by rw [WideAt.sameKey_eq hs]; rfl⟩
theorem DN_nodup (st : List (List UInt8)) : (strKeys (DN st)).Nodup := by
  obtain ⟨es, he, hp, hk⟩ := DN_keys st
  rw [he]
  refine List.pairwise_map.2 (hp.imp_of_mem fun {p q} hp' hq' hne e => hne ?_)
  obtain ⟨a, _, ha⟩ := hk p hp'
  obtain ⟨b, _, hb⟩ := hk q hq'
  rw [ha, hb] at e ⊢
  exact congrArg _ e

/-- The map lies in block m and holds the set; the variable of it in block C. -/
def NInv (m C : Nat) (st : List (List UInt8)) (w : World) : Prop := w.ownsMap Tryz.prog 9 (plainElem Tryz.prog 4) m (Maps.size (DN st)) (DN st) ∧ w.heap[C]? = some (.cells #[.map (some m)] 163)
theorem lawS : Keyed Tryz.prog 9 := string_keyed Tryz.underlying9
theorem own_exact {w : World} {R : Value → Option (DataW Unit × List MemPlace)} {b n : Nat} {D : DataW Unit} (h : w.ownsMap Tryz.prog 9 R b n D) : w.ownsMap Tryz.prog 9 R b (Maps.size D) D := by
  obtain ⟨es, clock, hb, F, hs, rfl⟩ := h
  exact ⟨es, clock, hb, F, by simp [Maps.size, length_sorted], rfl⟩
end Trm

set_option maxRecDepth 100000 in
set_option maxHeartbeats 2000000 in
theorem names1_any (Ns : List (List UInt8)) (hNs : Ns.length ≤ 65536) {B m C : Nat} (hCm : C ≠ m) (st : List (List UInt8)) (t : Tm) (b o : Nat) (d u : Int) (w : World) (hg : ∀ x ∈ st, x ∈ Ns) (hi : NInv m C st w) (hat : RAt B m w b o t) :
    Calls Tryz.prog 122 #[.pointer (some ⟨b, o, none⟩), .int .i64 d, .int .i64 u, .pointer (some ⟨C, 0, none⟩)] w fun e w' => e = .returned (.bool true) ∧ NInv m C (st ++ oneN t.s) w' ∧ Ran m w w' := by
  obtain ⟨hbm, hbl, hd, ⟨c0, c1, c2, c3, c4⟩, hin⟩ := hat
  obtain ⟨hown, hC⟩ := hi
  have hcC := one_cell hC
  have hClt := (Array.getElem?_eq_some_iff.1 hC).1
  by_cases hs : t.s.size = 0
  · have h1 : oneN t.s = [] := if_pos hs
    have hse : t.s = ⟨#[]⟩ := by
      cases hts : t.s with
      | mk a => rw [hts] at hs; simp [ByteArray.size] at hs; rw [hs]
    rw [h1, List.append_nil]
    rw [hse] at c2
    have HO := Lib.hid hown
    have HC := Lib.hid hC
    clear hown hC hin hs hse h1
    go_enter Tryz.func122, Tryz.ntmps122
    go_wp2_with fail
    go_ret
    exact ⟨rfl, ⟨HO.out, HC.out⟩, Ran.refl _ _⟩
  · have h1 : oneN t.s = [t.s.data.toList] := if_neg hs
    have hne : t.s.toList.isEmpty = false := by rw [empty_iff, decide_eq_false hs]
    have hkey : keyOf Tryz.prog 9 (.string t.s) = some (.string t.s.data.toList) := WideMaps.keyOf_string_mk Tryz.underlying9 (by have := hin.fit.s; unfold maxLen; omega)
    obtain ⟨w1, hrun, hown1, hgrow⟩ := (show w.drew.ownsMap Tryz.prog 9 (plainElem Tryz.prog 4) m (Maps.size (DN st)) (DN st) from hown).update lawS Tryz.underlying163 (by have := DN_size hg; unfold maxLen; omega) hkey (plainElem_bool Tryz.underlying4 true)
    have HO1 := Lib.hid (show NInv m C (st ++ oneN t.s) w1 from by
      rw [h1]
      unfold NInv
      rw [DN_snoc]
      exact ⟨own_exact hown1, (hgrow.block C hClt (fun e => hCm (by injection e))).trans hC⟩)
    have HR1 := Lib.hid (show Ran m w w1 from ⟨hgrow.os, hgrow.tape, hgrow.output, hgrow.size, fun k hk hn => hgrow.block k hk (fun e => hn (by injection e))⟩)
    have hc2 : w1.cell? ⟨b, o + 2, none⟩ = some (.string t.s) := (HR1.out.cell (p := ⟨b, o + 2, none⟩) hbl hbm).trans c2
    have hcC1 : w1.cell? ⟨C, 0, none⟩ = some (.map (some m)) := (HR1.out.cell (p := ⟨C, 0, none⟩) hClt hCm).trans hcC
    clear hown hC hin hs h1 hown1 hgrow hkey
    go_enter Tryz.func122, Tryz.ntmps122
    go_wp2_with fail
    go_region_held3 (fun w' => w'.cell? ⟨b, o + 2, none⟩ = some (.string t.s) ∧ w'.cell? ⟨C, 0, none⟩ = some (.map (some m)))
      (first
        | go_keep
        | exact ⟨hc2, hcC1⟩)
      (fail)
    go_wp2_with fail
    go_ret
    exact ⟨rfl, HO1.out, HR1.out⟩

theorem Trm.sees_names (Ns : List (List UInt8)) (hNs : Ns.length ≤ 65536) {B m C : Nat} (hBm : B ≤ m) (hCm : C ≠ m) : Sees B m C 122 seeNames (NInv m C) (fun t d => OkMay t d ∧ ∀ x ∈ t.nms, x ∈ Ns) (fun st => ∀ x ∈ st, x ∈ Ns) where
  calls st t b o d u w hg hi ho hu0 hud hat hB := names1_any Ns hNs hCm st t b o d u w hg hi hat
  good st t d u hg ho hr x hx := by
    rcases List.mem_append.1 hx with hx | hx
    · exact hg x hx
    · exact ho.2 x (by rw [Tm.nms_eq]; exact List.mem_append_left _ hx)
  bound t d ho := by have := ho.1.node.2; have := ho.1.1; omega
  down st t d u ho hr x hx := ⟨ho.1.down x hx, fun y hy => ho.2 y (by rw [Tm.nms_eq]; exact List.mem_append_right _ (nmsL_mem hx y hy))⟩
  keep st w w' hi hb := ⟨by
    obtain ⟨es, clock, hbk, F, hs, hD⟩ := hi.1
    exact ⟨es, clock, Lvl.keep hb hbk, F, hs, hD⟩, Lvl.keep hb hi.2⟩
  low := hBm
  enter args w := by kernel_rfl
end Go.Proofs.YtiekbhlnnmnklaaGreat



namespace Go.Proofs.YtiekbhlnnmnklaaGreat
open Lvl Trm

namespace Trm
end Trm
end Go.Proofs.YtiekbhlnnmnklaaGreat



namespace Go.Proofs.YtiekbhlnnmnklaaGreat
open Lvl Trm
namespace Arn
noncomputable instance decTm : DecidableEq Tm := fun _ _ => Classical.propDecidable _

/-- Terms, each once, all of which may be, parts ahead. -/
structure OkL (L : List Tm) : Prop where
  nodup : L.Nodup
  may : ∀ x ∈ L, x.may = true
  kids : ∀ (i : Nat) (h : i < L.length), ∀ y ∈ (L[i]).ts, y ∈ L.take i
theorem OkL.nil : OkL [] := ⟨List.nodup_nil, fun x h => by simp at h, fun i h => by simp at h⟩
theorem OkL.snoc {L : List Tm} (h : OkL L) {t : Tm} (hm : t.may = true) (hn : t ∉ L) (hp : ∀ y ∈ t.ts, y ∈ L) : OkL (L ++ [t]) where
  nodup := List.nodup_append.2 ⟨h.nodup, by simp, fun a ha b hb e => by simp at hb; subst hb; subst e; exact hn ha⟩
  may x hx := by
    rcases List.mem_append.1 hx with hx | hx
    · exact h.may x hx
    · simp at hx; subst hx; exact hm
  kids i hi y hy := by
    by_cases hl : i < L.length
    · rw [List.getElem_append_left hl] at hy
      rw [List.take_append_of_le_length (by omega)]
      exact h.kids i hl y hy
    · have hi2 : i = L.length := by simp at hi; omega
      subst hi2
      simp at hy
      rw [List.take_append_of_le_length (by omega), List.take_length]
      exact hp y hy

theorem soundL_mem {x : Tm} : ∀ {ts : List Tm}, soundL ts → x ∈ ts → x.sound
  | t :: r, h, hx => by
    rw [soundL] at h
    rcases List.mem_cons.1 hx with rfl | hx
    · exact h.1
    · exact soundL_mem h.2 hx
theorem htL_mem {x : Tm} : ∀ {ts : List Tm}, x ∈ ts → x.ht ≤ htL ts
  | t :: r, hx => by
    rw [htL]
    rcases List.mem_cons.1 hx with rfl | hx
    · omega
    · have := htL_mem hx; omega
theorem sizeL_mem {x : Tm} : ∀ {ts : List Tm}, x ∈ ts → x.size ≤ sizeL ts
  | t :: r, hx => by
    rw [sizeL]
    rcases List.mem_cons.1 hx with rfl | hx
    · have := sizeL_ge r; omega
    · have := sizeL_mem hx; have := t.size_pos; omega
theorem ht_eq (t : Tm) : t.ht = 1 + htL t.ts := by cases t; rw [Tm.ht]; rfl
theorem size_part {t x : Tm} (hx : x ∈ t.ts) : x.size < t.size := by
  have := sizeL_mem hx; rw [Tm.size_eq t]; omega
theorem may_part {t x : Tm} (h : t.may = true) (hx : x ∈ t.ts) : x.may = true := by
  obtain ⟨hs, hh⟩ := may_sound h
  have hz := may_size' h
  refine may_of ?_ (by have := size_part hx; omega) (by have := htL_mem hx; rw [ht_eq] at hh; omega)
  cases t with
  | mk k n s ls ts => rw [Tm.sound] at hs; exact soundL_mem hs.2 hx
theorem may_node {t : Tm} (h : t.may = true) : t.node = true := by
  obtain ⟨hs, hh⟩ := may_sound h
  cases t with
  | mk k n s ls ts => rw [Tm.sound] at hs; exact hs.1
/-! sizes -/
end Arn
end Go.Proofs.YtiekbhlnnmnklaaGreat



namespace Go.Proofs.YtiekbhlnnmnklaaGreat
open Go.RowKit Go.Shelf Lvl Trm

namespace Trm
theorem zero_cell {w : World} {X o : Nat} {v : Value} (hX : w.heap[X]? = some (.cells #[.int .u8 0, .int .i64 0, .string no, .slice none 0 0, .slice none 0 0] 27)) (h : w.cell? ⟨X, o, none⟩ = some v) :
    (o = 0 ∧ v = .int .u8 0) ∨ (o = 1 ∧ v = .int .i64 0) ∨ (o = 2 ∧ v = .string no) ∨ v = .slice none 0 0 := by
  simp only [World.cell?, hX] at h
  match o, h with
  | 0, h => left; simp at h; exact ⟨rfl, h.symm⟩
  | 1, h => right; left; simp at h; exact ⟨rfl, h.symm⟩
  | 2, h => right; right; left; simp at h; exact ⟨rfl, h.symm⟩
  | 3, h => right; right; right; simp at h; exact h.symm
  | 4, h => right; right; right; simp at h; exact h.symm
  | o + 5, h => simp at h
theorem zero_firm {B X : Nat} {w : World} (hX : w.heap[X]? = some (.cells #[.int .u8 0, .int .i64 0, .string no, .slice none 0 0, .slice none 0 0] 27)) (hB : B ≤ w.heap.size) {w' : World} (hr : Ran X w w') (t : Tm) : ∀ (h : Hd) (d : Int), OkMay t d → t.In B w h → t.In B w' h := by
  induction t using Tm.ind with
  | h t ih =>
    intro h d ho hi
    obtain ⟨h1, h2, h3, h4⟩ := Tm.In_iff.1 hi
    refine Tm.In_iff.2 ⟨h1, ⟨fun k hk => ?_⟩, h3, RowIn.mk fun k hk => ?_⟩
    · obtain ⟨b, off, hao, ha⟩ := h2.place k hk
      have hb : b < w.heap.size := Nat.lt_of_lt_of_le (h3 (by omega) _ hao) hB
      have hbX : b ≠ X := by
        rintro rfl
        have e0 := zero_cell hX ha.1
        have e1 := zero_cell hX ha.2.1
        rcases e0 with ⟨ho0, e⟩ | ⟨ho1, e⟩ | ⟨_, e⟩ | e
        · cases e
        · rcases e1 with ⟨hq, e'⟩ | ⟨hq, e'⟩ | ⟨_, e'⟩ | e'
          · cases e'
          · omega
          · cases e'
          · cases e'
        · cases e
        · cases e
      exact ⟨b, off, hao, (hr.cell (p := ⟨b, _, none⟩) hb hbX).trans ha.1, (hr.cell (p := ⟨b, _, none⟩) hb hbX).trans ha.2.1, (hr.cell (p := ⟨b, _, none⟩) hb hbX).trans ha.2.2.1, (hr.cell (p := ⟨b, _, none⟩) hb hbX).trans ha.2.2.2.1, (hr.cell (p := ⟨b, _, none⟩) hb hbX).trans ha.2.2.2.2⟩
    · obtain ⟨b, off, hao, hb, h', hc, hin⟩ := h4.place k hk
      have hok := ho.down _ (List.getElem_mem hk)
      have hk1 := (node_few hok.node.1).2.2.1
      have hbX : b ≠ X := by
        rintro rfl
        rcases zero_cell hX hc.c0 with ⟨_, e⟩ | ⟨_, e⟩ | ⟨_, e⟩ | e
        · injection e with _ e2
          omega
        · cases e
        · cases e
        · cases e
      exact ⟨b, off, hao, hb, h', hc.ran hr (by omega) hbX, ih _ (List.getElem_mem hk) h' (d + 1) hok hin⟩
end Trm
end Go.Proofs.YtiekbhlnnmnklaaGreat


namespace Go.Proofs.YtiekbhlnnmnklaaGreat
open Go.RowKit Go.Shelf Lvl Trm

namespace Trm
/-- A leaf without slices lies anywhere, whatever its slices' places are. -/
theorem firm_leaf {P : Nat → Prop} {w : World} {k n : Int} {s : ByteArray} {h : Hd} (hk0 : 0 ≤ k) (hk1 : k ≤ 255) (hn0 : -9223372036854775808 ≤ n) (hn1 : n ≤ 9223372036854775807) (hs : s.size ≤ 9223372036854775807) : FirmS P w (.mk k n s [] []) h :=
  fun _ _ => Tm.In_iff.2 ⟨⟨hk0, hk1, hn0, hn1, hs, by simp [Tm.ls], by simp [Tm.ts]⟩, ⟨fun k hk => by simp [Tm.ls] at hk⟩, fun hn => by simp [Tm.ls] at hn, RowIn.mk fun i hi => by simp [Tm.ts] at hi⟩

/-! A row of the call's own that is appended to in a loop whose round calls the function itself. -/
theorem own_low {w : World} {base e size n : Nat} {v : Value} {xs : List Value} (h : w.ownsRow base e size v n xs) {k : Nat} (hk : v.ownBlock = some k) : base ≤ k ∧ k < w.heap.size := h.lt k hk
theorem row_below {w wr w4 w5 : World} {e size n : Nat} {v : Value} {xs : List Value} {o : Obj} (hb4 : Below wr.heap.size wr w4) (hown : wr.ownsRow (w.heap.size + 2) e size v n xs) (hg : (w4.alloc o).grownBy w5 v.ownBlock) (h2 : w.heap.size + 2 ≤ wr.heap.size) : Below (w.heap.size + 2) wr w5 := by
  have h1 := hb4.alloc hb4.size o
  refine ⟨hg.os.trans h1.os, hg.tape.trans h1.tape, hg.output.trans h1.output, Nat.le_trans h1.size hg.size, fun k hk => ?_⟩
  have hk2 : k < wr.heap.size := by omega
  rw [hg.block k (Nat.lt_of_lt_of_le hk2 h1.size) (fun he => by have := own_low hown he.symm; omega), h1.block k hk2]

/-- Behind some rounds of the document's loop over a node's terms: what is to come is R; the list is a row of the call's own, and none of its terms minds what is written into that row. -/
def RowRel (B : Nat) (w : World) (o : Obj) (R : List Tm) (v i : Value) (wr : World) : Prop :=
  ∃ (j : Nat) (ps : List (Tm × Hd)), i = .int .i64 j ∧ j ≤ R.length ∧ ps.length = j ∧ ps.map (·.1) = R.take j ∧ Below w.heap.size w wr ∧ wr.heap[w.heap.size]? = some o ∧
    wr.heap[w.heap.size + 1]? = some (.cells #[.int .u8 0, .int .i64 0, .string ⟨#[]⟩, .slice none 0 0, .slice none 0 0] 27) ∧ wr.ownsRow (w.heap.size + 2) 27 5 v ps.length (flat ps) ∧
    ∀ p ∈ ps, FirmS (fun q => B ≤ q ∧ (q < w.heap.size + 2 ∨ v.ownBlock = some q)) wr p.1 p.2

theorem RowRel.step {B : Nat} {w : World} {o : Obj} {R : List Tm} {v i' : Value} {wr w4 w5 : World} {j g cap n' : Nat} {ps : List (Tm × Hd)} {y : Tm} {hy : Hd} {ob : Obj} {L : Nat} (hRl : R.length = L) (hRy : R[j]? = some y) (hlt : j < L) (hpl : ps.length = j) (hmap : ps.map (·.1) = R.take j)
    (hbel : Below w.heap.size w wr) (hbx : wr.heap[w.heap.size]? = some o) (hbr : wr.heap[w.heap.size + 1]? = some (.cells #[.int .u8 0, .int .i64 0, .string ⟨#[]⟩, .slice none 0 0, .slice none 0 0] 27)) (hown : wr.ownsRow (w.heap.size + 2) 27 5 v ps.length (flat ps))
    (hf : ∀ p ∈ ps, FirmS (fun q => B ≤ q ∧ (q < w.heap.size + 2 ∨ v.ownBlock = some q)) wr p.1 p.2) (hb4 : Below wr.heap.size wr w4) (hfy : FirmS (fun q => B ≤ q ∧ q < wr.heap.size) w4 y hy) (hBw : B ≤ w.heap.size) (h2 : w.heap.size + 2 ≤ wr.heap.size)
    (hn' : n' = ps.length + 1) (hown5 : w5.ownsRow (w.heap.size + 2) 27 5 (.slice (some ⟨g, 0, none⟩) n' cap) n' (flat ps ++ (y.vals hy).toList)) (hgrow : (w4.alloc ob).grownBy w5 v.ownBlock) (hat : v.ownBlock = some g ∨ g = w4.heap.size + 1) (hi : i' = .int .i64 ((j + 1 : Nat) : Int)) :
    RowRel B w o R (.slice (some ⟨g, 0, none⟩) n' cap) i' w5 := by
  subst hn'
  have h6 := row_below hb4 hown hgrow h2
  have h1 := hb4.alloc hb4.size ob
  have hz1 : wr.heap.size ≤ w4.heap.size := hb4.size
  have hz5 : w4.heap.size + 1 ≤ w5.heap.size := by have := hgrow.size; simpa using this
  refine ⟨j + 1, ps ++ [(y, hy)], hi, by omega, by simp [hpl], ?_, hbel.trans (h6.mono (by omega)), (h6.block _ (by omega)).trans hbx, (h6.block _ (by omega)).trans hbr, by rw [flat_snoc, List.length_append]; exact hown5, ?_⟩
  · rw [List.map_append, hmap, List.take_add_one, hRy]; rfl
  · intro p hp w' hr
    rcases List.mem_append.1 hp with hp | hp
    · refine hf p hp w' ⟨hr.os.trans (h6.os), hr.tape.trans h6.tape, hr.output.trans h6.output, Nat.le_trans h6.size hr.size, fun k hk hn => ?_⟩
      have hn5 : w5.heap[k]? = wr.heap[k]? := by
        rw [hgrow.block k (by simp; omega) (fun he => hn ⟨by have := own_low hown he.symm; omega, Or.inr he.symm⟩), h1.block k hk]
      rw [← hn5]
      refine hr.block k (Nat.lt_of_lt_of_le hk h6.size) ?_
      rintro ⟨hq1, hq2 | hq2⟩
      · exact hn ⟨hq1, Or.inl hq2⟩
      · have hkg : g = k := by simpa [Value.ownBlock] using hq2
        subst hkg
        rcases hat with hat | hat
        · exact hn ⟨hq1, Or.inr hat⟩
        · omega
    · simp at hp
      subst hp
      refine hfy w' ⟨hr.os.trans (hgrow.os), hr.tape.trans hgrow.tape, hr.output.trans hgrow.output, Nat.le_trans (by omega) hr.size, fun k hk hn => ?_⟩
      have hn5 : w5.heap[k]? = w4.heap[k]? := by
        rw [hgrow.block k (by simp; omega) (fun he => by have := own_low hown he.symm; exact hn ⟨by omega, by omega⟩)]
        exact (below_one w4 ob).block k hk
      rw [← hn5]
      refine hr.block k (by omega) ?_
      rintro ⟨hq1, hq2 | hq2⟩
      · exact hn ⟨hq1, by omega⟩
      · have hkg : g = k := by simpa [Value.ownBlock] using hq2
        subst hkg
        rcases hat with hat | hat
        · have := own_low hown hat
          exact hn ⟨hq1, by omega⟩
        · omega
end Trm

end Go.Proofs.YtiekbhlnnmnklaaGreat


