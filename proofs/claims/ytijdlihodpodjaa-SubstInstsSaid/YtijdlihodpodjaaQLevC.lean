/-
  battenref02: form, more, both.
-/
import Derived.Test.YtijdlihodpodjaaQTrmB
import Derived.Test.YtijdlihodpodjaaQLevB
import Derived.Test.YtijdlihodpodjaaQLevInst
import Derived.Deep.RegionHeld3
namespace Go.Proofs.Ytijdlihodpodjaa
open Go.RowKit Go.Shelf Lvl Trm

namespace Lvl
theorem drewN_below (B : Nat) (w : World) (n : Nat) : Below B w (w.drewN n) := by refine ⟨?_, ?_, ?_, ?_, ?_⟩ <;> simp [World.drewN]
def Lv.setc (l : Lv) (c : Int) : Lv := { l with c := c }
theorem at_setc (l : Lv) (c : Int) (k : Nat) : (l.setc c).at_ k = l.at_ k := by
  match k with
  | 0 => rfl
  | 1 => rfl
  | 2 => rfl
  | k + 3 => rfl
def formTo (l : Lv) (k : Nat) : Lv := l.setc (formC l.c (l.upto k))
def Lv.low1 (l : Lv) : Prop := ∀ k, k < 4 → -1 ≤ l.at_ k
theorem formTo_no (l : Lv) {k : Nat} (hk : k < 4) (h : l.at_ k = -1 ∨ formC l.c (l.upto k) ≤ l.at_ k → False) : formTo l (k + 1) = formTo l k := by
  have hne : l.at_ k ≠ -1 := fun e => h (.inl e)
  unfold formTo
  rw [(l.upto_mem k hk hne).2.2, formC_snoc, if_neg (fun e => h (.inr e))]
theorem formTo_skip (l : Lv) {k : Nat} (hk : k < 4) (h : l.at_ k = -1) : formTo l (k + 1) = formTo l k := by
  unfold formTo
  rw [l.upto_skip k hk h]
theorem formTo_yes (l : Lv) {k : Nat} (hk : k < 4) (hn : l.at_ k ≠ -1) (h : formC l.c (l.upto k) ≤ l.at_ k) : formTo l (k + 1) = l.setc 0 := by
  unfold formTo
  rw [(l.upto_mem k hk hn).2.2, formC_snoc, if_pos h]
/-- Block w.heap.size is the level g k, the next one is a zero level. -/
def RBox (w : World) (g : Nat → Lv) (i : Value) (wr : World) : Prop := ∃ k : Nat, i = .int .i64 k ∧ k ≤ 4 ∧ wr.heap[w.heap.size]? = some (g k).box ∧ wr.heap[w.heap.size + 1]? = some zero.box ∧ Below w.heap.size w wr
/-- A number more, of the first k parameters. -/
def moreTo (l : Lv) (n : Int) (k : Nat) : Lv := ⟨l.c + n, if 0 < k then up l.p0 n else l.p0, if 1 < k then up l.p1 n else l.p1, if 2 < k then up l.p2 n else l.p2, if 3 < k then up l.p3 n else l.p3⟩
theorem moreTo_at (l : Lv) (n : Int) {k : Nat} (hk : k < 4) : (moreTo l n k).at_ k = l.at_ k := by
  match k, hk with
  | 0, _ => rfl
  | 1, _ => rfl
  | 2, _ => rfl
  | 3, _ => rfl
theorem moreTo_next (l : Lv) (n : Int) {k : Nat} (hk : k < 4) : moreTo l n (k + 1) = (moreTo l n k).put k (up (l.at_ k) n) := by
  match k, hk with
  | 0, _ => rfl
  | 1, _ => rfl
  | 2, _ => rfl
  | 3, _ => rfl
theorem moreTo_skip (l : Lv) (n : Int) {k : Nat} (hk : k < 4) (h : l.at_ k = -1) : moreTo l n (k + 1) = moreTo l n k := by
  rw [moreTo_next l n hk, h]
  match k, hk with
  | 0, _ => (have e : l.p0 = -1 := h; simp [moreTo, up, Lv.put, e])
  | 1, _ => (have e : l.p1 = -1 := h; simp [moreTo, up, Lv.put, e])
  | 2, _ => (have e : l.p2 = -1 := h; simp [moreTo, up, Lv.put, e])
  | 3, _ => (have e : l.p3 = -1 := h; simp [moreTo, up, Lv.put, e])
theorem set_pk {l : Lv} {W : World} {B : Nat} (h : W.heap[B]? = some l.box) (n : Int) {k : Nat} (hk : k < 4) : (W.setCell ⟨B, 1 + k, none⟩ (.int .i64 n)).heap[B]? = some (l.put k n).box := by
  match k, hk with
  | 0, _ => exact set_p0 h n
  | 1, _ => exact set_p1 h n
  | 2, _ => exact set_p2 h n
  | 3, _ => exact set_p3 h n
/-- The greater one, of the first k parameters. -/
def bothTo (a b : Lv) (k : Nat) : Lv := ⟨max a.c b.c, if 0 < k then max a.p0 b.p0 else a.p0, if 1 < k then max a.p1 b.p1 else a.p1, if 2 < k then max a.p2 b.p2 else a.p2, if 3 < k then max a.p3 b.p3 else a.p3⟩
theorem bothTo_at (a b : Lv) {k : Nat} (hk : k < 4) : (bothTo a b k).at_ k = a.at_ k := by
  match k, hk with
  | 0, _ => rfl
  | 1, _ => rfl
  | 2, _ => rfl
  | 3, _ => rfl
theorem bothTo_next (a b : Lv) {k : Nat} (hk : k < 4) : bothTo a b (k + 1) = (bothTo a b k).put k (max (a.at_ k) (b.at_ k)) := by
  match k, hk with
  | 0, _ => rfl
  | 1, _ => rfl
  | 2, _ => rfl
  | 3, _ => rfl
theorem low1_of {l : Lv} (h0 : -1 ≤ l.p0) (h1 : -1 ≤ l.p1) (h2 : -1 ≤ l.p2) (h3 : -1 ≤ l.p3) : l.low1 := fun k hk => by
  match k, hk with
  | 0, _ => exact h0
  | 1, _ => exact h1
  | 2, _ => exact h2
  | 3, _ => exact h3
theorem fine_low1 {l : Lv} (h : l.fine) : l.low1 := low1_of h.2.1 h.2.2.1 h.2.2.2.1 h.2.2.2.2
/-- Blocks w.heap.size and the next one are the levels g k and b, the third one is a zero level. -/
def RBox2 (w : World) (g : Nat → Lv) (b : Lv) (i : Value) (wr : World) : Prop := ∃ k : Nat, i = .int .i64 k ∧ k ≤ 4 ∧ wr.heap[w.heap.size]? = some (g k).box ∧ wr.heap[w.heap.size + 1]? = some b.box ∧ wr.heap[w.heap.size + 1 + 1]? = some zero.box ∧ Below w.heap.size w wr
end Lvl

set_option maxRecDepth 100000 in
set_option maxHeartbeats 4000000 in
theorem RefForm_any (l : Lv) (w : World) (hl : l.low1) :
    Calls Try.prog 145 #[l.val] w fun e w' => e = .returned l.form.val ∧ Below w.heap.size w w' := by
  obtain ⟨G, hG⟩ : ∃ G, G = l.form := ⟨_, rfl⟩
  rw [← hG]
  have HG := Lib.hid hG
  have HL := Lib.hid hl
  have H0 := Lib.hid (new1of2 w l.box zero.box)
  have H1 := Lib.hid (new2 w l.box zero.box)
  have HB := Lib.hid (below_two w l.box zero.box)
  clear hG hl
  unfold Lv.val
  go_enter Try.func145, Try.ntmps145
  go_wp2_with fail
  go_loopw [3] (fun i wr => RBox w (formTo l) i wr) (fun i _ => 4 - (intOf i).toNat)
  case atStart => exact ⟨0, rfl, by omega, H0.out, H1.out, HB.out⟩
  case round =>
    clear H0 H1 HB
    obtain ⟨k, rfl, hk, h0, h1, hb⟩ := hrel
    have X0 := Lib.hid h0
    have X1 := Lib.hid h1
    have XB := Lib.hid hb
    have lw : w.heap.size < wr.heap.size := (Array.getElem?_eq_some_iff.1 h0).1
    clear h0 h1 hb
    by_cases hlt : k < 4
    · have c1 := at_cell X0.out k hlt
      obtain ⟨c0, _⟩ := Lv.cells X0.out
      have f0 := Lv.free X0.out 0
      rw [show (formTo l k).at_ k = l.at_ k from at_setc _ _ _] at c1
      rw [show (formTo l k).c = formC l.c (l.upto k) from rfl] at c0
      have hp1 := HL.out k hlt
      have N1 := Lib.hid (formTo_skip l hlt)
      have N2 := Lib.hid (formTo_no l hlt)
      have N3 := Lib.hid (formTo_yes l hlt)
      obtain ⟨p, hp⟩ : ∃ p, p = l.at_ k := ⟨_, rfl⟩
      obtain ⟨c, hc⟩ : ∃ c, c = formC l.c (l.upto k) := ⟨_, rfl⟩
      rw [← hp] at c1 N1 N2 N3 hp1
      rw [← hc] at c0 N2 N3
      clear hp hc
      by_cases hA : 0 ≤ p
      · have dA : decide (0 ≤ p) = true := by simpa using hA
        by_cases hC : c ≤ p
        · have dC : decide (c ≤ p) = true := by simpa using hC
          have HE := Lib.hid (N3.out (by omega) hC)
          clear hA hC hp1
          go_wp2_with fail
          go_quiet (fail)
          go_wp2_with fail
          go_roundw
          case rel => exact ⟨k + 1, by go_num, by omega, by rw [HE.out]; exact set_c (Lvl.keep (Lvl.drewN_below _ _ _) X0.out) 0, block_other (Lvl.keep (Lvl.drewN_below _ _ _) X1.out) _ (by omega), (XB.out.trans (Lvl.drewN_below _ _ _)).setCell (p := ⟨w.heap.size, 0, none⟩) (Nat.le_refl _) _⟩
          case measure => simp [intOf]; omega
        · have dC : decide (c ≤ p) = false := by simpa using hC
          have HE := Lib.hid (N2.out (by omega))
          clear hA hC hp1
          go_wp2_with fail
          go_quiet (fail)
          go_wp2_with fail
          go_roundw
          case rel => exact ⟨k + 1, by go_num, by omega, by rw [HE.out]; exact Lvl.keep (Lvl.drewN_below _ _ _) X0.out, Lvl.keep (Lvl.drewN_below _ _ _) X1.out, XB.out.trans (Lvl.drewN_below _ _ _)⟩
          case measure => simp [intOf]; omega
      · have dA : decide (0 ≤ p) = false := by simpa using hA
        have HE := Lib.hid (N1.out (by omega))
        clear hA hp1
        go_wp2_with fail
        go_quiet (fail)
        go_wp2_with fail
        go_roundw
        case rel => exact ⟨k + 1, by go_num, by omega, by rw [HE.out]; exact Lvl.keep (Lvl.drewN_below _ _ _) X0.out, Lvl.keep (Lvl.drewN_below _ _ _) X1.out, XB.out.trans (Lvl.drewN_below _ _ _)⟩
        case measure => simp [intOf]; omega
    · obtain rfl : k = 4 := by omega
      have hf : formTo l 4 = G := by rw [HG.out]; rfl
      rw [hf] at X0
      obtain ⟨c0, c1, c2, c3, c4⟩ := Lv.cells X0.out
      obtain ⟨d0, d1, d2, d3, d4⟩ := Lv.cells X1.out
      obtain ⟨f0, f1, f2, f3, f4⟩ := Lv.frees X1.out
      clear hf
      go_wp2_with fail
      have h5 := put5_self X1.out G
      have b5 := put5_below XB.out (by omega : w.heap.size ≤ w.heap.size + 1) G
      unfold put5 at h5 b5
      generalize hW : ((((wr.setCell ⟨w.heap.size + 1, 0, none⟩ (.int .i64 G.c)).setCell ⟨w.heap.size + 1, 1, none⟩ (.int .i64 G.p0)).setCell ⟨w.heap.size + 1, 2, none⟩ (.int .i64 G.p1)).setCell ⟨w.heap.size + 1, 3, none⟩ (.int .i64 G.p2)).setCell ⟨w.heap.size + 1, 4, none⟩ (.int .i64 G.p3) = W5 at h5 b5 ⊢
      obtain ⟨e0, e1, e2, e3, e4⟩ := Lv.cells h5
      clear hW
      exact bodyPost_ret (v := .agg #[.int .i64 G.c, .int .i64 G.p0, .int .i64 G.p1, .int .i64 G.p2, .int .i64 G.p3]) (by simp [results, Try.results145, go_sem, e0, e1, e2, e3, e4]) rfl ⟨rfl, b5⟩

set_option maxRecDepth 100000 in
set_option maxHeartbeats 4000000 in
theorem RefMore_any (l : Lv) (n : Int) (w : World) (hl : l.within = true) (hn : 0 ≤ n ∧ n ≤ 1099511627776) :
    Calls Try.prog 130 #[l.val, .int .i64 n] w fun e w' => e = .returned (l.plus n).form.val ∧ Below w.heap.size w w' := by
  have hw := (Lvl.within_iff l).1 hl
  have HF := Lib.hid (fun W => RefForm_any (l.plus n) W (low1_of (by show -1 ≤ up l.p0 n; unfold up; split <;> omega) (by show -1 ≤ up l.p1 n; unfold up; split <;> omega) (by show -1 ≤ up l.p2 n; unfold up; split <;> omega) (by show -1 ≤ up l.p3 n; unfold up; split <;> omega)))
  have hwc : IntKind.i64.wrap (l.c + n) = l.c + n := IntWalk.i64_in _ (by omega)
  have HWP : Hid (∀ k, k < 4 → -1 ≤ l.at_ k ∧ (l.at_ k ≠ -1 → 0 ≤ l.at_ k) ∧ IntKind.i64.wrap (l.at_ k + n) = l.at_ k + n) := Lib.hid (fun k hk => by
    match k, hk with
    | 0, _ => exact ⟨hw.2.1.1, fun h => (by have := hw.2.1.1; show 0 ≤ l.p0; have h' : l.p0 ≠ -1 := h; omega), IntWalk.i64_in _ (by show _ ≤ l.p0 + n ∧ l.p0 + n ≤ _; omega)⟩
    | 1, _ => exact ⟨hw.2.2.1.1, fun h => (by have := hw.2.2.1.1; show 0 ≤ l.p1; have h' : l.p1 ≠ -1 := h; omega), IntWalk.i64_in _ (by show _ ≤ l.p1 + n ∧ l.p1 + n ≤ _; omega)⟩
    | 2, _ => exact ⟨hw.2.2.2.1.1, fun h => (by have := hw.2.2.2.1.1; show 0 ≤ l.p2; have h' : l.p2 ≠ -1 := h; omega), IntWalk.i64_in _ (by show _ ≤ l.p2 + n ∧ l.p2 + n ≤ _; omega)⟩
    | 3, _ => exact ⟨hw.2.2.2.2.1, fun h => (by have := hw.2.2.2.2.1; show 0 ≤ l.p3; have h' : l.p3 ≠ -1 := h; omega), IntWalk.i64_in _ (by show _ ≤ l.p3 + n ∧ l.p3 + n ≤ _; omega)⟩)
  obtain ⟨G, hG⟩ : ∃ G, G = (l.plus n).form := ⟨_, rfl⟩
  rw [← hG] at HF ⊢
  have H0 := Lib.hid (new1of2 w (l.setc (l.c + n)).box zero.box)
  have H1 := Lib.hid (new2 w (l.setc (l.c + n)).box zero.box)
  have HB := Lib.hid (below_two w (l.setc (l.c + n)).box zero.box)
  have HS : Hid (∀ k, k < 4 → l.at_ k = -1 → moreTo l n (k + 1) = moreTo l n k) := Lib.hid (fun k hk => moreTo_skip l n hk)
  have HN : Hid (∀ k, k < 4 → l.at_ k ≠ -1 → moreTo l n (k + 1) = (moreTo l n k).put k (l.at_ k + n)) := Lib.hid (fun k hk h => by rw [moreTo_next l n hk]; unfold up; rw [if_neg h])
  clear hG hw hl hn
  unfold Lv.val at HF ⊢
  go_enter Try.func130, Try.ntmps130
  go_wp2_with fail
  go_loopw [5] (fun i wr => RBox w (moreTo l n) i wr) (fun i _ => 4 - (intOf i).toNat)
  case atStart => exact ⟨0, rfl, by omega, H0.out, H1.out, HB.out⟩
  case round =>
    clear H0 H1 HB hwc
    obtain ⟨k, rfl, hk, h0, h1, hb⟩ := hrel
    have X0 := Lib.hid h0
    have X1 := Lib.hid h1
    have XB := Lib.hid hb
    have lw : w.heap.size < wr.heap.size := (Array.getElem?_eq_some_iff.1 h0).1
    clear h0 h1 hb
    by_cases hlt : k < 4
    · have c1 := at_cell X0.out k hlt
      have f1 : wr.frozen? ⟨w.heap.size, 1 + k, none⟩ = false := Lv.free X0.out _
      rw [moreTo_at l n hlt] at c1
      have hp1 := (HWP.out k hlt).1
      have hwp := (HWP.out k hlt).2.2
      have N1 := Lib.hid (HS.out k hlt)
      have N2 := Lib.hid (HN.out k hlt)
      obtain ⟨p, hp⟩ : ∃ p, p = l.at_ k := ⟨_, rfl⟩
      rw [← hp] at c1 N1 N2 hp1 hwp
      clear hp
      by_cases hA : 0 ≤ p
      · have dA : decide (0 ≤ p) = true := by simpa using hA
        have HE := Lib.hid (N2.out (by omega))
        have Y0 := Lib.hid (set_pk X0.out (p + n) hlt)
        have Y1 := Lib.hid (block_other X1.out (b := w.heap.size) (o := 1 + k) (.int .i64 (p + n)) (by omega))
        have YB := Lib.hid (XB.out.setCell (p := ⟨w.heap.size, 1 + k, none⟩) (Nat.le_refl _) (.int .i64 (p + n)))
        clear hA hp1
        go_wp2_with fail
        go_roundw
        case rel => exact ⟨k + 1, by go_num, by omega, by rw [HE.out]; exact Y0.out, Y1.out, YB.out⟩
        case measure => simp [intOf]; omega
      · have dA : decide (0 ≤ p) = false := by simpa using hA
        have HE := Lib.hid (N1.out (by omega))
        clear hA hp1
        go_wp2_with fail
        go_roundw
        case rel => exact ⟨k + 1, by go_num, by omega, by rw [HE.out]; exact X0.out, X1.out, XB.out⟩
        case measure => simp [intOf]; omega
    · obtain rfl : k = 4 := by omega
      have hf : moreTo l n 4 = l.plus n := rfl
      rw [hf] at X0
      obtain ⟨q, hq⟩ : ∃ q, q = l.plus n := ⟨_, rfl⟩
      rw [← hq] at HF X0
      clear hf hq HS HN HWP
      obtain ⟨c0, c1, c2, c3, c4⟩ := Lv.cells X0.out
      go_wp2_with fail
      refine (HF.out _).mono ?_
      rintro e w1 ⟨rfl, b1⟩
      have X2 := Lib.hid (Lvl.keep b1 X1.out)
      have XB2 := Lib.hid (XB.out.trans (b1.mono XB.out.size))
      obtain ⟨d0, d1, d2, d3, d4⟩ := Lv.cells X2.out
      obtain ⟨f0, f1, f2, f3, f4⟩ := Lv.frees X2.out
      clear b1
      go_wp2_with fail
      have h5 := put5_self X2.out G
      have b5 := put5_below XB2.out (by omega : w.heap.size ≤ w.heap.size + 1) G
      unfold put5 at h5 b5
      generalize hW : ((((w1.setCell ⟨w.heap.size + 1, 0, none⟩ (.int .i64 G.c)).setCell ⟨w.heap.size + 1, 1, none⟩ (.int .i64 G.p0)).setCell ⟨w.heap.size + 1, 2, none⟩ (.int .i64 G.p1)).setCell ⟨w.heap.size + 1, 3, none⟩ (.int .i64 G.p2)).setCell ⟨w.heap.size + 1, 4, none⟩ (.int .i64 G.p3) = W5 at h5 b5 ⊢
      obtain ⟨e0, e1, e2, e3, e4⟩ := Lv.cells h5
      clear hW
      exact bodyPost_ret (v := .agg #[.int .i64 G.c, .int .i64 G.p0, .int .i64 G.p1, .int .i64 G.p2, .int .i64 G.p3]) (by simp [results, Try.results130, go_sem, e0, e1, e2, e3, e4]) rfl ⟨rfl, b5⟩

set_option maxRecDepth 100000 in
set_option maxHeartbeats 4000000 in
theorem RefBoth_any (a b : Lv) (w : World) (ha : a.low1) :
    Calls Try.prog 129 #[a.val, b.val] w fun e w' => e = .returned (a.join b).form.val ∧ Below w.heap.size w w' := by
  have hmax := run_max
  have HF := Lib.hid (fun W => RefForm_any (a.join b) W (low1_of (by have := ha 0 (by omega); show -1 ≤ max a.p0 b.p0; have h : -1 ≤ a.p0 := this; omega) (by have := ha 1 (by omega); show -1 ≤ max a.p1 b.p1; have h : -1 ≤ a.p1 := this; omega) (by have := ha 2 (by omega); show -1 ≤ max a.p2 b.p2; have h : -1 ≤ a.p2 := this; omega) (by have := ha 3 (by omega); show -1 ≤ max a.p3 b.p3; have h : -1 ≤ a.p3 := this; omega)))
  obtain ⟨G, hG⟩ : ∃ G, G = (a.join b).form := ⟨_, rfl⟩
  rw [← hG] at HF ⊢
  obtain ⟨M, hM⟩ : ∃ M, M = max a.c b.c := ⟨_, rfl⟩
  have H0 := Lib.hid (new1of3 w (a.setc M).box b.box zero.box)
  have H1 := Lib.hid (new2of3 w (a.setc M).box b.box zero.box)
  have H2 := Lib.hid (new3 w (a.setc M).box b.box zero.box)
  have HB := Lib.hid (below_three w (a.setc M).box b.box zero.box)
  have HST : Hid (bothTo a b 0 = a.setc M) := Lib.hid (by rw [hM]; rfl)
  clear hG ha
  unfold Lv.val at HF ⊢
  go_enter Try.func129, Try.ntmps129
  go_wp2_with fail
  rw [← hM]
  clear hM
  go_loopw [5] (fun i wr => RBox2 w (bothTo a b) b i wr) (fun i _ => 4 - (intOf i).toNat)
  case atStart => exact ⟨0, rfl, by omega, by rw [HST.out]; exact H0.out, H1.out, H2.out, HB.out⟩
  case round =>
    clear H0 H1 H2 HB
    obtain ⟨k, rfl, hk, h0, h1, h2, hb⟩ := hrel
    have X0 := Lib.hid h0
    have X1 := Lib.hid h1
    have X2 := Lib.hid h2
    have XB := Lib.hid hb
    have lw : w.heap.size < wr.heap.size := (Array.getElem?_eq_some_iff.1 h0).1
    have lw1 : w.heap.size + 1 < wr.heap.size := (Array.getElem?_eq_some_iff.1 h1).1
    clear h0 h1 h2 hb
    by_cases hlt : k < 4
    · have c1 := at_cell X0.out k hlt
      have d1 := at_cell X1.out k hlt
      have f1 : wr.frozen? ⟨w.heap.size, 1 + k, none⟩ = false := Lv.free X0.out _
      rw [bothTo_at a b hlt] at c1
      have HE := Lib.hid (bothTo_next a b hlt)
      obtain ⟨p, hp⟩ : ∃ p, p = a.at_ k := ⟨_, rfl⟩
      obtain ⟨q, hq⟩ : ∃ q, q = b.at_ k := ⟨_, rfl⟩
      rw [← hp] at c1 HE
      rw [← hq] at d1 HE
      clear hp hq
      go_wp2_with fail
      go_region
      go_wp2_with fail
      go_roundw
      case rel => exact ⟨k + 1, by go_num, by omega, by rw [HE.out]; exact set_pk (Lvl.keep (Lvl.drewN_below _ _ _) X0.out) _ hlt, block_other (Lvl.keep (Lvl.drewN_below _ _ _) X1.out) _ (by omega), block_other (Lvl.keep (Lvl.drewN_below _ _ _) X2.out) _ (by omega), (XB.out.trans (Lvl.drewN_below _ _ _)).setCell (p := ⟨w.heap.size, 1 + k, none⟩) (Nat.le_refl _) _⟩
      case measure => simp [intOf]; omega
    · obtain rfl : k = 4 := by omega
      have hf : bothTo a b 4 = a.join b := rfl
      rw [hf] at X0
      obtain ⟨q, hq⟩ : ∃ q, q = a.join b := ⟨_, rfl⟩
      rw [← hq] at HF X0
      clear hf hq
      obtain ⟨c0, c1, c2, c3, c4⟩ := Lv.cells X0.out
      go_wp2_with fail
      refine (HF.out _).mono ?_
      rintro e w1 ⟨rfl, b1⟩
      have X3 := Lib.hid (Lvl.keep b1 X2.out)
      have XB2 := Lib.hid (XB.out.trans (b1.mono XB.out.size))
      obtain ⟨d0, d1, d2, d3, d4⟩ := Lv.cells X3.out
      obtain ⟨f0, f1, f2, f3, f4⟩ := Lv.frees X3.out
      clear b1
      go_wp2_with fail
      have h5 := put5_self X3.out G
      have b5 := put5_below XB2.out (by omega : w.heap.size ≤ w.heap.size + 1 + 1) G
      unfold put5 at h5 b5
      generalize hW : ((((w1.setCell ⟨w.heap.size + 1 + 1, 0, none⟩ (.int .i64 G.c)).setCell ⟨w.heap.size + 1 + 1, 1, none⟩ (.int .i64 G.p0)).setCell ⟨w.heap.size + 1 + 1, 2, none⟩ (.int .i64 G.p1)).setCell ⟨w.heap.size + 1 + 1, 3, none⟩ (.int .i64 G.p2)).setCell ⟨w.heap.size + 1 + 1, 4, none⟩ (.int .i64 G.p3) = W5 at h5 b5 ⊢
      obtain ⟨e0, e1, e2, e3, e4⟩ := Lv.cells h5
      clear hW
      exact bodyPost_ret (v := .agg #[.int .i64 G.c, .int .i64 G.p0, .int .i64 G.p1, .int .i64 G.p2, .int .i64 G.p3]) (by simp [results, Try.results129, go_sem, e0, e1, e2, e3, e4]) rfl ⟨rfl, b5⟩
end Go.Proofs.Ytijdlihodpodjaa

/-
  battenref02: whole, Zero.
-/
namespace Go.Proofs.Ytijdlihodpodjaa
open Go.RowKit Go.Shelf Lvl Trm

namespace Lvl
theorem form_form {l : Lv} (h : l.fine) : l.form.form = l.form := same_form (form_fine h) h (fun _ hn => ev_form h hn)
theorem form_may {l : Lv} (h : l.fine) : l.form.may = l.form.within := by
  cases hw : l.form.within
  · unfold Lv.may; rw [hw]; rfl
  · exact (may_iff _).2 (formed_ok h hw)
end Lvl

set_option maxRecDepth 100000 in
set_option maxHeartbeats 4000000 in
theorem RefWhole_any (l : Lv) (w : World) (hl : l.fine) :
    Calls Try.prog 131 #[l.val] w fun e w' => e = .returned (.tuple #[(ans l).1.val, .int .i64 (ans l).2]) ∧ Below w.heap.size w w' := by
  have HF := Lib.hid (fun W => RefForm_any l W (fine_low1 hl))
  have HM := Lib.hid (fun W => RefMay_any l.form W)
  rw [form_may hl] at HM
  unfold ans
  obtain ⟨F, hF⟩ : ∃ F, F = l.form := ⟨_, rfl⟩
  rw [← hF] at HF HM ⊢
  have HL := Lib.hid (new1of2 w l.box zero.box)
  have HZ := Lib.hid (new2 w l.box zero.box)
  clear hF hl
  unfold Lv.val at HF HM ⊢
  cases hw : F.within
  all_goals
    rw [hw] at HM
    first | rw [if_pos rfl] | rw [if_neg (by simp)]
    clear hw
    go_enter Try.func131, Try.ntmps131
    go_wp2_with fail
    refine (HF.out _).mono ?_
    rintro e w1 ⟨rfl, b1⟩
    have HL1 := Lib.hid (Lvl.keep b1 HL.out)
    have HZ1 := Lib.hid (Lvl.keep b1 HZ.out)
    have B1 := Lib.hid ((below_two w l.box zero.box).trans (b1.mono (by simp; omega)))
    obtain ⟨c0, c1, c2, c3, c4⟩ := Lv.cells HL1.out
    obtain ⟨f0, f1, f2, f3, f4⟩ := Lv.frees HL1.out
    clear b1
    go_wp2_with fail
    have h5 := put5_self HL1.out F
    have z5 := put5_other HZ1.out F (b := w.heap.size) (by omega)
    have b5 := put5_below B1.out (B := w.heap.size) (Nat.le_refl _) F
    unfold put5 at h5 z5 b5
    generalize hW : ((((w1.setCell ⟨w.heap.size, 0, none⟩ (.int .i64 F.c)).setCell ⟨w.heap.size, 1, none⟩ (.int .i64 F.p0)).setCell ⟨w.heap.size, 2, none⟩ (.int .i64 F.p1)).setCell ⟨w.heap.size, 3, none⟩ (.int .i64 F.p2)).setCell ⟨w.heap.size, 4, none⟩ (.int .i64 F.p3) = W4 at h5 z5 b5 ⊢
    have X4 := Lib.hid h5
    have Z4 := Lib.hid z5
    have B4 := Lib.hid b5
    clear hW h5 z5 b5 c0 c1 c2 c3 c4 f0 f1 f2 f3 f4
    refine (HM.out _).mono ?_
    rintro e w2 ⟨rfl, b2⟩
    have X2 := Lib.hid (Lvl.keep b2 X4.out)
    have Z2 := Lib.hid (Lvl.keep b2 Z4.out)
    have B2 := Lib.hid (B4.out.trans (b2.mono B4.out.size))
    clear b2
    obtain ⟨c0, c1, c2, c3, c4⟩ := Lv.cells X2.out
    obtain ⟨d0, d1, d2, d3, d4⟩ := Lv.cells Z2.out
    obtain ⟨f0, f1, f2, f3, f4⟩ := Lv.frees Z2.out
  ·
    go_wp2_with fail
    have h5 := put5_self Z2.out zero
    have b5 := put5_below B2.out (B := w.heap.size + 1) (by omega) zero
    generalize hW : (((((w2.setCell ⟨w.heap.size + 1, 0, none⟩ (.int .i64 0)).setCell ⟨w.heap.size + 1, 1, none⟩ (.int .i64 0)).setCell ⟨w.heap.size + 1, 2, none⟩ (.int .i64 0)).setCell ⟨w.heap.size + 1, 3, none⟩ (.int .i64 0)).setCell ⟨w.heap.size + 1, 4, none⟩ (.int .i64 0)) = W4
    rw [show put5 w2 (w.heap.size + 1) zero = W4 from hW] at h5 b5
    obtain ⟨e0, e1, e2, e3, e4⟩ := Lv.cells h5
    exact bodyPost_ret (v := .tuple #[.agg #[.int .i64 0, .int .i64 0, .int .i64 0, .int .i64 0, .int .i64 0], .int .i64 4]) (by simp [results, Try.results131, go_sem, e0, e1, e2, e3, e4, zero]) rfl ⟨rfl, b5⟩
  ·
    go_wp2_with fail
    have h5 := put5_self Z2.out F
    have b5 := put5_below B2.out (B := w.heap.size + 1) (by omega) F
    generalize hW : (((((w2.setCell ⟨w.heap.size + 1, 0, none⟩ (.int .i64 F.c)).setCell ⟨w.heap.size + 1, 1, none⟩ (.int .i64 F.p0)).setCell ⟨w.heap.size + 1, 2, none⟩ (.int .i64 F.p1)).setCell ⟨w.heap.size + 1, 3, none⟩ (.int .i64 F.p2)).setCell ⟨w.heap.size + 1, 4, none⟩ (.int .i64 F.p3)) = W4
    rw [show put5 w2 (w.heap.size + 1) F = W4 from hW] at h5 b5
    obtain ⟨e0, e1, e2, e3, e4⟩ := Lv.cells h5
    exact bodyPost_ret (v := .tuple #[.agg #[.int .i64 F.c, .int .i64 F.p0, .int .i64 F.p1, .int .i64 F.p2, .int .i64 F.p3], .int .i64 0]) (by simp [results, Try.results131, go_sem, e0, e1, e2, e3, e4]) rfl ⟨rfl, b5⟩
theorem RefWhole_form (x : Lv) (w : World) (hx : x.fine) :
    Calls Try.prog 131 #[x.form.val] w fun e w' => e = .returned (.tuple #[(ans x).1.val, .int .i64 (ans x).2]) ∧ Below w.heap.size w w' := by
  have := RefWhole_any x.form w (form_fine hx)
  rwa [ans_form (form_form hx)] at this

set_option maxRecDepth 100000 in
set_option maxHeartbeats 1000000 in
theorem RefZero_any (w : World) : Calls Try.prog 108 #[] w fun e w' => e = .returned (number 0).val ∧ Below w.heap.size w w' := by
  have h5 := World.alloc_heap_new w (.cells #[.int .i64 0, .int .i64 (-1), .int .i64 (-1), .int .i64 (-1), .int .i64 (-1)] 83)
  have b5 := below_one w (.cells #[.int .i64 0, .int .i64 (-1), .int .i64 (-1), .int .i64 (-1), .int .i64 (-1)] 83)
  obtain ⟨e0, e1, e2, e3, e4⟩ := Lv.cells (l := number 0) h5
  clear h5
  go_enter Try.func108, Try.ntmps108
  go_wp2_with fail
  generalize hW : w.alloc (.cells #[.int .i64 0, .int .i64 (-1), .int .i64 (-1), .int .i64 (-1), .int .i64 (-1)] 83) = W4 at e0 e1 e2 e3 e4 b5 ⊢
  exact bodyPost_ret (v := .agg #[.int .i64 0, .int .i64 (-1), .int .i64 (-1), .int .i64 (-1), .int .i64 (-1)]) (by simp [results, Try.results108, go_sem, e0, e1, e2, e3, e4, number]) rfl ⟨rfl, b5⟩
end Go.Proofs.Ytijdlihodpodjaa

/-
  battenref02: Inst.
-/
namespace Go.Proofs.Ytijdlihodpodjaa
open Go.RowKit Go.Shelf Lvl Trm

namespace Lvl
/-- What the document's loop has made of the first k parameters says what ours has. -/
def ISt (ls : List Lv) (l : Lv) (k : Nat) (out : Lv) : Prop := ∃ o, instAll ls (number l.c) (l.upto k) = some o ∧ o.fine ∧ out.fine ∧ ∀ n : Four, n.pos → ev out n = ev o n
theorem ISt.start (ls : List Lv) {l : Lv} (hl : l.ok) : ISt ls l 0 (number l.c) :=
  ⟨number l.c, rfl, number_fine hl.1.1, number_fine hl.1.1, fun _ _ => rfl⟩
theorem ISt.skip {ls : List Lv} {l out : Lv} {k : Nat} (h : ISt ls l k out) (hk : k < 4) (hp : l.at_ k = -1) : ISt ls l (k + 1) out := by
  obtain ⟨o, h1, h2⟩ := h
  exact ⟨o, by rw [l.upto_skip k hk hp]; exact h1, h2⟩
theorem ISt.step {ls : List Lv} {l out : Lv} {k : Nat} (h : ISt ls l k out) (hk : k < 4) (hp : 0 ≤ l.at_ k) (hlt : k < ls.length) (hb : (ls[k]).fine) : ISt ls l (k + 1) (out.join ((ls[k]).plus (l.at_ k)).form).form := by
  obtain ⟨o, h1, h2, h3, h4⟩ := h
  have f1 := plus_fine hb (l.at_ k) hp
  have f2 := join_fine h3 (form_fine f1)
  refine ⟨o.join ((ls[k]).plus (l.at_ k)), ?_, join_fine h2 f1, form_fine f2, fun n hn => ?_⟩
  · rw [(l.upto_mem k hk (by omega)).2.2, instAll_snoc, h1]
    unfold instStep
    dsimp only
    rw [dif_pos (by simpa using hlt)]
    simp
  · rw [ev_form f2 hn, ev_join h3 (form_fine f1), ev_form f1 hn, ev_join h2 f1, h4 n hn]
theorem ISt.short {ls : List Lv} {l out : Lv} {k : Nat} (h : ISt ls l k out) (hk : k < 4) (hp : 0 ≤ l.at_ k) (hlt : ¬ k < ls.length) (hm : l.may = true) (ha : ls.all Lv.may = true) : inst l ls = (zero, 8) := by
  obtain ⟨o, h1, _⟩ := h
  have h2 : instAll ls (number l.c) (l.upto (k + 1)) = none := by
    rw [(l.upto_mem k hk (by omega)).2.2, instAll_snoc, h1]
    unfold instStep
    dsimp only
    rw [dif_neg (by simpa using hlt)]
  unfold inst
  rw [if_pos ⟨hm, ha⟩, instAll_prefix (l.upto_prefix (k + 1)) h2]
theorem ISt.done {ls : List Lv} {l out : Lv} (h : ISt ls l 4 out) (hm : l.may = true) (ha : ls.all Lv.may = true) : inst l ls = ans out ∧ out.fine := by
  obtain ⟨o, h1, h2, h3, h4⟩ := h
  have h5 : instAll ls (number l.c) l.ps = some o := h1
  refine ⟨?_, h3⟩
  unfold inst
  rw [if_pos ⟨hm, ha⟩, h5]
  exact (ans_form (same_form h3 h2 h4)).symm
def I2Rel (w : World) (l : Lv) (ls : List Lv) (X : Nat) (i : Value) (wr : World) : Prop := ∃ (k : Nat) (out : Lv), i = .int .i64 k ∧ k ≤ 4 ∧ ISt ls l k out ∧ wr.heap[w.heap.size]? = some l.box ∧ wr.heap[w.heap.size + 1]? = some zero.box ∧ wr.heap[X]? = some out.box ∧ Below w.heap.size w wr
theorem go2 {w W w1 : World} (h : Below w.heap.size w W) (b : Below W.heap.size W w1) : Below w.heap.size w w1 := h.trans (b.mono h.size)
def I1Rel (w : World) (l : Lv) (ls : List Lv) (i : Value) (wr : World) : Prop := ∃ k : Nat, i = .int .i64 k ∧ k ≤ ls.length ∧ (∀ j (h : j < ls.length), j < k → (ls[j]).may = true) ∧ wr.heap[w.heap.size]? = some l.box ∧ wr.heap[w.heap.size + 1]? = some zero.box ∧ Below w.heap.size w wr
end Lvl

set_option maxRecDepth 100000 in
set_option maxHeartbeats 8000000 in
theorem RefInst_any (l : Lv) (ao : Option Addr) (cap : Nat) (ls : List Lv) (w : World) (hr : LRow w ao ls) (hlow : ∀ a, ao = some a → 0 < ls.length → a.block < w.heap.size) (hn : ls.length ≤ 1000000) :
    Calls Try.prog 93 #[l.val, .slice ao ls.length cap] w fun e w' => e = .returned (.tuple #[(inst l ls).1.val, .int .i64 (inst l ls).2]) ∧ Below w.heap.size w w' := by
  have HML := Lib.hid (fun W => RefMay_any l W)
  have H0 := Lib.hid (new1of2 w l.box zero.box)
  have H1 := Lib.hid (new2 w l.box zero.box)
  have HB := Lib.hid (below_two w l.box zero.box)
  have HR := Lib.hid (fun (W : World) (hW : Below w.heap.size w W) => (show LRow W ao ls from ⟨fun k hk => by
    obtain ⟨b, off, hao, a0, a1, a2, a3, a4⟩ := hr.place k hk
    have hb : b < w.heap.size := hlow _ hao (by omega)
    exact ⟨b, off, hao, (hW.cell (p := ⟨b, _, none⟩) hb).trans a0, (hW.cell (p := ⟨b, _, none⟩) hb).trans a1, (hW.cell (p := ⟨b, _, none⟩) hb).trans a2, (hW.cell (p := ⟨b, _, none⟩) hb).trans a3, (hW.cell (p := ⟨b, _, none⟩) hb).trans a4⟩⟩))
  clear hr hlow
  cases hm : l.may
  · have hi : inst l ls = (zero, 1) := by unfold inst; rw [if_neg (by rw [hm]; simp)]
    rw [hi]
    rw [hm] at HML
    clear hi hm HR
    unfold Lv.val at HML ⊢
    go_enter Try.func93, Try.ntmps93
    go_wp2_with fail
    refine (HML.out _).mono ?_
    rintro e w1 ⟨rfl, b1⟩
    have XZ := Lib.hid (Lvl.keep b1 H1.out)
    have B1 := Lib.hid (HB.out.trans (b1.mono HB.out.size))
    clear b1
    obtain ⟨d0, d1, d2, d3, d4⟩ := Lv.cells XZ.out
    obtain ⟨f0, f1, f2, f3, f4⟩ := Lv.frees XZ.out
    go_wp2_with fail
    have h5 := put5_self XZ.out zero
    have b5 := put5_below B1.out (B := w.heap.size + 1) (by omega) zero
    generalize hW : (((((w1.setCell ⟨w.heap.size + 1, 0, none⟩ (.int .i64 0)).setCell ⟨w.heap.size + 1, 1, none⟩ (.int .i64 0)).setCell ⟨w.heap.size + 1, 2, none⟩ (.int .i64 0)).setCell ⟨w.heap.size + 1, 3, none⟩ (.int .i64 0)).setCell ⟨w.heap.size + 1, 4, none⟩ (.int .i64 0)) = W4
    rw [show put5 w1 (w.heap.size + 1) zero = W4 from hW] at h5 b5
    obtain ⟨e0, e1, e2, e3, e4⟩ := Lv.cells h5
    exact bodyPost_ret (v := .tuple #[.agg #[.int .i64 0, .int .i64 0, .int .i64 0, .int .i64 0, .int .i64 0], .int .i64 1]) (by simp [results, Try.results93, go_sem, e0, e1, e2, e3, e4, zero]) rfl ⟨rfl, b5⟩
  · have hok := (may_iff l).1 hm
    obtain ⟨G, hG⟩ : ∃ G, G = inst l ls := ⟨_, rfl⟩
    rw [← hG]
    have HZ1 : Hid (∀ k (h : k < ls.length), (ls[k]).may = false → G = (zero, 1)) := Lib.hid (fun k h hk => by
      rw [hG]
      unfold inst
      rw [if_neg]
      rintro ⟨_, ha⟩
      rw [List.all_eq_true] at ha
      rw [ha _ (List.getElem_mem h)] at hk
      cases hk)
    have HOK := Lib.hid hok
    have HMM := Lib.hid hm
    rw [hm] at HML
    have HG := Lib.hid hG
    clear hm hok hG
    unfold Lv.val at HML ⊢
    go_enter Try.func93, Try.ntmps93
    go_wp2_with fail
    refine (HML.out _).mono ?_
    rintro e w1 ⟨rfl, b1⟩
    have XL := Lib.hid (Lvl.keep b1 H0.out)
    have XZ := Lib.hid (Lvl.keep b1 H1.out)
    have B1 := Lib.hid (HB.out.trans (b1.mono HB.out.size))
    clear b1 H0 H1 HB HML
    go_wp2_with fail
    go_loopw [6] (fun i wr => I1Rel w l ls i wr) (fun i _ => ls.length - (intOf i).toNat)
    case atStart => exact ⟨0, rfl, by omega, fun j _ hj => absurd hj (by omega), XL.out, XZ.out, B1.out⟩
    case round =>
      clear XL XZ B1
      obtain ⟨k, rfl, hk, hmay, h0, h1, hb⟩ := hrel
      have XL := Lib.hid h0
      have XZ := Lib.hid h1
      have B1 := Lib.hid hb
      have HMAY := Lib.hid hmay
      clear h0 h1 hb hmay
      by_cases hlt : k < ls.length
      · obtain ⟨b2, off2, hao, l0, l1, l2, l3, l4⟩ := (HR.out wr B1.out).place k hlt
        subst hao
        have N1 := Lib.hid (HZ1.out k hlt)
        have N2 : Hid ((ls[k]).may = true → ∀ j (h : j < ls.length), j < k + 1 → (ls[j]).may = true) := Lib.hid (fun hx j h hj => by
          rcases (show j < k ∨ j = k by omega) with h' | rfl
          · exact HMAY.out j h h'
          · exact hx)
        generalize ls[k] = x at l0 l1 l2 l3 l4 N1 N2
        have lb2 : b2 < wr.heap.size := World.block_lt_of_cell? wr _ l0
        have HMX := Lib.hid (fun W => RefMay_any x W)
        cases hx : x.may
        · rw [hx] at HMX
          have HE := Lib.hid (N1.out hx)
          clear hx N1 N2
          unfold Lv.val at HMX
          go_wp2_with fail
          refine (HMX.out _).mono ?_
          rintro e w2 ⟨rfl, bb⟩
          have YZ := Lib.hid (Lvl.keep bb XZ.out)
          have B2 := Lib.hid (B1.out.trans (bb.mono B1.out.size))
          clear bb l0 l1 l2 l3 l4 lb2
          obtain ⟨d0, d1, d2, d3, d4⟩ := Lv.cells YZ.out
          obtain ⟨f0, f1, f2, f3, f4⟩ := Lv.frees YZ.out
          go_wp2_with fail
          have h5 := put5_self YZ.out zero
          have b5 := put5_below B2.out (B := w.heap.size + 1) (by omega) zero
          generalize hW : (((((w2.setCell ⟨w.heap.size + 1, 0, none⟩ (.int .i64 0)).setCell ⟨w.heap.size + 1, 1, none⟩ (.int .i64 0)).setCell ⟨w.heap.size + 1, 2, none⟩ (.int .i64 0)).setCell ⟨w.heap.size + 1, 3, none⟩ (.int .i64 0)).setCell ⟨w.heap.size + 1, 4, none⟩ (.int .i64 0)) = W4
          rw [show put5 w2 (w.heap.size + 1) zero = W4 from hW] at h5 b5
          obtain ⟨e0, e1, e2, e3, e4⟩ := Lv.cells h5
          exact bodyPost_ret (v := .tuple #[.agg #[.int .i64 0, .int .i64 0, .int .i64 0, .int .i64 0, .int .i64 0], .int .i64 1]) (by simp [results, Try.results93, go_sem, e0, e1, e2, e3, e4, zero]) rfl ⟨by rw [HE.out]; rfl, b5⟩
        · rw [hx] at HMX
          have HY := Lib.hid (N2.out hx)
          clear hx N1 N2
          unfold Lv.val at HMX
          go_wp2_with fail
          refine (HMX.out _).mono ?_
          rintro e w2 ⟨rfl, bb⟩
          have YL := Lib.hid (Lvl.keep bb XL.out)
          have YZ := Lib.hid (Lvl.keep bb XZ.out)
          have B2 := Lib.hid (B1.out.trans (bb.mono B1.out.size))
          clear bb l0 l1 l2 l3 l4 lb2
          go_wp2_with fail
          go_roundw
          case rel => exact ⟨k + 1, by go_num, by omega, HY.out, YL.out, YZ.out, B2.out⟩
          case measure => simp [intOf]; omega
      · obtain rfl : k = ls.length := by omega
        have HALL : Hid (ls.all Lv.may = true) := Lib.hid (by
          rw [List.all_eq_true]
          intro x hx
          obtain ⟨j, hj, rfl⟩ := List.mem_iff_getElem.1 hx
          exact HMAY.out j hj hj)
        clear HMAY HZ1
        go_wp2_with fail
        refine (RefZero_any _).mono ?_
        rintro e w3 ⟨rfl, bb⟩
        have YL := Lib.hid (Lvl.keep bb XL.out)
        have YZ := Lib.hid (Lvl.keep bb XZ.out)
        have B3 := Lib.hid (B1.out.trans (bb.mono B1.out.size))
        obtain ⟨c0, c1, c2, c3, c4⟩ := Lv.cells YL.out
        have lw : w.heap.size < w3.heap.size := (Array.getElem?_eq_some_iff.1 YL.out).1
        clear bb
        dsimp only [number, Lv.val]
        go_wp2_with fail
        have VL := Lib.hid (keepA YL.out (number l.c).box)
        have VZ := Lib.hid (keepA YZ.out (number l.c).box)
        have VX := Lib.hid (World.alloc_heap_new w3 (number l.c).box)
        have VB := Lib.hid (B3.out.alloc B3.out.size (number l.c).box)
        have lX1 : w.heap.size + 1 < w3.heap.size := (Array.getElem?_eq_some_iff.1 YZ.out).1
        obtain ⟨X, hX⟩ : ∃ X, X = w3.heap.size := ⟨_, rfl⟩
        rw [← hX] at VX lX1 ⊢
        have ew : w3.alloc (.cells #[.int .i64 l.c, .int .i64 (-1), .int .i64 (-1), .int .i64 (-1), .int .i64 (-1)] 83) = w3.alloc (number l.c).box := rfl
        rw [ew]
        go_loopw [8] (fun i wr => I2Rel w l ls X i wr) (fun i _ => 4 - (intOf i).toNat)
        case atStart => exact ⟨0, number l.c, rfl, by omega, ISt.start ls HOK.out, VL.out, VZ.out, VX.out, VB.out⟩
        case round =>
          clear VL VZ VX VB c0 c1 c2 c3 c4 YL YZ B3 lw XL XZ B1 ew hX
          obtain ⟨k, out, rfl, hk, hst, h0, h1, h2, hb⟩ := hrel
          have XL := Lib.hid h0
          have XZ := Lib.hid h1
          have XX := Lib.hid h2
          have B1 := Lib.hid hb
          have HST := Lib.hid hst
          have lw : w.heap.size < wr.heap.size := (Array.getElem?_eq_some_iff.1 h0).1
          have lX : X < wr.heap.size := (Array.getElem?_eq_some_iff.1 h2).1
          clear h0 h1 h2 hb hst
          by_cases hlt : k < 4
          · have c1 := at_cell XL.out k hlt
            have hp1 : -1 ≤ l.at_ k ∧ l.at_ k ≤ 1099511627776 := by
              have hw := (Lvl.within_iff l).1 (may_within HMM.out)
              match k, hlt with
              | 0, _ => exact hw.2.1
              | 1, _ => exact hw.2.2.1
              | 2, _ => exact hw.2.2.2.1
              | 3, _ => exact hw.2.2.2.2
            have N1 := Lib.hid (fun h => ISt.skip HST.out hlt h)
            have N2 := Lib.hid (fun h h' => (HG.out.trans (ISt.short HST.out hlt h h' HMM.out HALL.out)))
            have N3 := Lib.hid (fun h h' hf => ISt.step HST.out hlt h h' hf)
            obtain ⟨p, hp⟩ : ∃ p, p = l.at_ k := ⟨_, rfl⟩
            rw [← hp] at c1 N1 N2 N3 hp1
            clear hp
            by_cases hA : p < 0
            · have dA : decide (p < 0) = true := by simpa using hA
              have HN := Lib.hid (N1.out (by omega))
              clear hA hp1 N1 N2 N3
              go_wp2_with fail
              go_roundw
              case rel => exact ⟨k + 1, out, by go_num, by omega, HN.out, XL.out, XZ.out, XX.out, B1.out⟩
              case measure => simp [intOf]; omega
            · have dA : decide (p < 0) = false := by simpa using hA
              by_cases hq : k < ls.length
              · have dq : decide ((ls.length : Int) ≤ (k : Int)) = false := by simp; omega
                obtain ⟨b2, off2, hao, l0, l1, l2, l3, l4⟩ := (HR.out wr B1.out).place k hq
                subst hao
                have hxm : (ls[k]).may = true := by have := HALL.out; rw [List.all_eq_true] at this; exact this _ (List.getElem_mem hq)
                have N4 := Lib.hid (N3.out (by omega) hq ((may_iff _).1 hxm).fine)
                generalize ls[k] = x at l0 l1 l2 l3 l4 hxm N4
                have lb2 : b2 < wr.heap.size := World.block_lt_of_cell? wr _ l0
                have HC1 := Lib.hid c1
                have HL0 := Lib.hid l0
                have HL1 := Lib.hid l1
                have HL2 := Lib.hid l2
                have HL3 := Lib.hid l3
                have HL4 := Lib.hid l4
                obtain ⟨F1, hF1⟩ : ∃ F, F = (x.plus p).form := ⟨_, rfl⟩
                obtain ⟨F2, hF2⟩ : ∃ F, F = (out.join F1).form := ⟨_, rfl⟩
                have hol : out.low1 := by obtain ⟨_, _, _, h, _⟩ := HST.out; exact fine_low1 h
                have CM := Lib.hid (fun (W : World) (_ : Below wr.heap.size wr W) => (show Calls Try.prog 130 #[.agg #[.int .i64 x.c, .int .i64 x.p0, .int .i64 x.p1, .int .i64 x.p2, .int .i64 x.p3], .int .i64 p] W (fun e w' => e = .returned (.agg #[.int .i64 F1.c, .int .i64 F1.p0, .int .i64 F1.p1, .int .i64 F1.p2, .int .i64 F1.p3]) ∧ Below W.heap.size W w') from by
                  have := RefMore_any x p W (may_within hxm) ⟨by omega, hp1.2⟩
                  rwa [← hF1] at this))
                have CB := Lib.hid (fun (W : World) (_ : Below wr.heap.size wr W) => (show Calls Try.prog 129 #[.agg #[.int .i64 out.c, .int .i64 out.p0, .int .i64 out.p1, .int .i64 out.p2, .int .i64 out.p3], .agg #[.int .i64 F1.c, .int .i64 F1.p0, .int .i64 F1.p1, .int .i64 F1.p2, .int .i64 F1.p3]] W (fun e w' => e = .returned (.agg #[.int .i64 F2.c, .int .i64 F2.p0, .int .i64 F2.p1, .int .i64 F2.p2, .int .i64 F2.p3]) ∧ Below W.heap.size W w') from by
                  have := RefBoth_any out F1 W hol
                  rwa [← hF2] at this))
                rw [← hF1, ← hF2] at N4
                clear hF1 hF2 hol hxm hA hp1 N1 N2 N3
                obtain ⟨d0, d1, d2, d3, d4⟩ := Lv.cells XX.out
                have hbz : Below wr.heap.size wr wr.drew := (Below.refl _ _).drew
                go_wp2_with fail
                go_region_with
                  (first
                  | (go_at_call 130; (with_reducible refine (CM.out _ ?_).mono ?_); (first | assumption | exact (Below.refl _ _).drew | exact (Below.refl _ _)); rintro e wx ⟨rfl, bw⟩; have hbx : Below wr.heap.size wr wx := Lvl.go2 (by first | assumption | exact (Below.refl _ _).drew | exact (Below.refl _ _)) bw; obtain ⟨d0, d1, d2, d3, d4⟩ := Lv.cells (Lvl.keep hbx XX.out); obtain ⟨f0, f1, f2, f3, f4⟩ := Lv.frees (Lvl.keep hbx XX.out); have c1 := (hbx.cell (p := ⟨w.heap.size, 1 + k, none⟩) lw).trans HC1.out; have l0 := (hbx.cell (p := ⟨b2, _, none⟩) lb2).trans HL0.out; have l1 := (hbx.cell (p := ⟨b2, _, none⟩) lb2).trans HL1.out; have l2 := (hbx.cell (p := ⟨b2, _, none⟩) lb2).trans HL2.out; have l3 := (hbx.cell (p := ⟨b2, _, none⟩) lb2).trans HL3.out; have l4 := (hbx.cell (p := ⟨b2, _, none⟩) lb2).trans HL4.out; have lXx : X < wx.heap.size := Nat.lt_of_lt_of_le lX hbx.size)
                  | (go_at_call 129; (with_reducible refine (CB.out _ ?_).mono ?_); (first | assumption | exact (Below.refl _ _).drew | exact (Below.refl _ _)); rintro e wx ⟨rfl, bw⟩; have hbx : Below wr.heap.size wr wx := Lvl.go2 (by first | assumption | exact (Below.refl _ _).drew | exact (Below.refl _ _)) bw; obtain ⟨d0, d1, d2, d3, d4⟩ := Lv.cells (Lvl.keep hbx XX.out); obtain ⟨f0, f1, f2, f3, f4⟩ := Lv.frees (Lvl.keep hbx XX.out); have c1 := (hbx.cell (p := ⟨w.heap.size, 1 + k, none⟩) lw).trans HC1.out; have l0 := (hbx.cell (p := ⟨b2, _, none⟩) lb2).trans HL0.out; have l1 := (hbx.cell (p := ⟨b2, _, none⟩) lb2).trans HL1.out; have l2 := (hbx.cell (p := ⟨b2, _, none⟩) lb2).trans HL2.out; have l3 := (hbx.cell (p := ⟨b2, _, none⟩) lb2).trans HL3.out; have l4 := (hbx.cell (p := ⟨b2, _, none⟩) lb2).trans HL4.out; have lXx : X < wx.heap.size := Nat.lt_of_lt_of_le lX hbx.size))
                all_goals
                  go_wp2_with fail
                  have y0 := put5_self (Lvl.keep hbx XX.out) F2
                  have y1 := put5_other (Lvl.keep hbx XL.out) F2 (b := X) (by omega)
                  have y2 := put5_other (Lvl.keep hbx XZ.out) F2 (b := X) (by omega)
                  have y3 := put5_below (Lvl.go2 B1.out hbx) (B := X) (by omega) F2
                  unfold put5 at y0 y1 y2 y3
                  have Y0 := Lib.hid y0
                  have Y1 := Lib.hid y1
                  have Y2 := Lib.hid y2
                  have Y3 := Lib.hid y3
                  clear y0 y1 y2 y3
                  go_roundw
                  case rel => exact ⟨k + 1, F2, by go_num, by omega, N4.out, Y1.out, Y2.out, Y0.out, Y3.out⟩
                  case measure => simp [intOf]; omega
              · have dq : decide ((ls.length : Int) ≤ (k : Int)) = true := by simp; omega
                have HE := Lib.hid (N2.out (by omega) hq)
                clear hA hp1 N1 N2 N3
                obtain ⟨d0, d1, d2, d3, d4⟩ := Lv.cells XZ.out
                obtain ⟨f0, f1, f2, f3, f4⟩ := Lv.frees XZ.out
                go_wp2_with fail
                have h5 := put5_self XZ.out zero
                have b5 := put5_below B1.out (B := w.heap.size + 1) (by omega) zero
                generalize hW : (((((wr.setCell ⟨w.heap.size + 1, 0, none⟩ (.int .i64 0)).setCell ⟨w.heap.size + 1, 1, none⟩ (.int .i64 0)).setCell ⟨w.heap.size + 1, 2, none⟩ (.int .i64 0)).setCell ⟨w.heap.size + 1, 3, none⟩ (.int .i64 0)).setCell ⟨w.heap.size + 1, 4, none⟩ (.int .i64 0)) = W4
                rw [show put5 wr (w.heap.size + 1) zero = W4 from hW] at h5 b5
                obtain ⟨e0, e1, e2, e3, e4⟩ := Lv.cells h5
                exact bodyPost_ret (v := .tuple #[.agg #[.int .i64 0, .int .i64 0, .int .i64 0, .int .i64 0, .int .i64 0], .int .i64 8]) (by simp [results, Try.results93, go_sem, e0, e1, e2, e3, e4, zero]) rfl ⟨by rw [HE.out]; rfl, b5⟩
          · obtain rfl : k = 4 := by omega
            obtain ⟨hd, hf⟩ := ISt.done HST.out HMM.out HALL.out
            obtain ⟨z, hz⟩ : ∃ z, z = ans out := ⟨_, rfl⟩
            have HW := Lib.hid (fun W => RefWhole_any out W hf)
            rw [← hz] at HW hd
            have HE := Lib.hid (HG.out.trans hd)
            obtain ⟨A, q⟩ := z
            clear hd hf hz
            unfold Lv.val at HW
            dsimp only at HW
            obtain ⟨g0, g1, g2, g3, g4⟩ := Lv.cells XX.out
            go_wp2_with fail
            refine (HW.out _).mono ?_
            rintro e w4 ⟨rfl, bb⟩
            have YZ := Lib.hid (Lvl.keep bb XZ.out)
            have B4 := Lib.hid (B1.out.trans (bb.mono B1.out.size))
            clear bb g0 g1 g2 g3 g4
            obtain ⟨d0, d1, d2, d3, d4⟩ := Lv.cells YZ.out
            obtain ⟨f0, f1, f2, f3, f4⟩ := Lv.frees YZ.out
            go_wp2_with fail
            have h5 := put5_self YZ.out A
            have b5 := put5_below B4.out (B := w.heap.size + 1) (by omega) A
            generalize hW : (((((w4.setCell ⟨w.heap.size + 1, 0, none⟩ (.int .i64 A.c)).setCell ⟨w.heap.size + 1, 1, none⟩ (.int .i64 A.p0)).setCell ⟨w.heap.size + 1, 2, none⟩ (.int .i64 A.p1)).setCell ⟨w.heap.size + 1, 3, none⟩ (.int .i64 A.p2)).setCell ⟨w.heap.size + 1, 4, none⟩ (.int .i64 A.p3)) = W4
            rw [show put5 w4 (w.heap.size + 1) A = W4 from hW] at h5 b5
            obtain ⟨e0, e1, e2, e3, e4⟩ := Lv.cells h5
            exact bodyPost_ret (v := .tuple #[.agg #[.int .i64 A.c, .int .i64 A.p0, .int .i64 A.p1, .int .i64 A.p2, .int .i64 A.p3], .int .i64 q]) (by simp [results, Try.results93, go_sem, e0, e1, e2, e3, e4]) rfl ⟨by rw [HE.out], b5⟩
end Go.Proofs.Ytijdlihodpodjaa
