/-
  battenref02: form, more, both.
-/
import Derived.Test.YtfechgahafbphaaTrmLevMay
import Derived.Test.YtfechgahafbphaaLevMath2
namespace Go.Proofs.Ytfechgahafbphaa
open Go.RowKit Go.Shelf Lvl Trm

namespace Lvl
theorem drewN_below (B : Nat) (w : World) (n : Nat) : Below B w (w.drewN n) := by refine ⟨?_, ?_, ?_, ?_, ?_⟩ <;> simp [World.drewN]
def Lv.setc (l : Lv) (c : Int) : Lv := { l with c := c }
theorem at_setc (l : Lv) (c : Int) (k : Nat) : (l.setc c).at_ k = l.at_ k := by
  match k with
  | 0 => rfl
  | 1 => rfl
  | 2 => rfl
  | k + 3 => rfl
def formTo (l : Lv) (k : Nat) : Lv := l.setc (formC l.c (l.upto k))
def Lv.low1 (l : Lv) : Prop := ∀ k, k < 4 → -1 ≤ l.at_ k
theorem formTo_no (l : Lv) {k : Nat} (hk : k < 4) (h : l.at_ k = -1 ∨ formC l.c (l.upto k) ≤ l.at_ k → False) : formTo l (k + 1) = formTo l k := by
  have hne : l.at_ k ≠ -1 := fun e => h (.inl e)
  unfold formTo
  rw [(l.upto_mem k hk hne).2.2, formC_snoc, if_neg (fun e => h (.inr e))]
theorem formTo_skip (l : Lv) {k : Nat} (hk : k < 4) (h : l.at_ k = -1) : formTo l (k + 1) = formTo l k := by
  unfold formTo
  rw [l.upto_skip k hk h]
theorem formTo_yes (l : Lv) {k : Nat} (hk : k < 4) (hn : l.at_ k ≠ -1) (h : formC l.c (l.upto k) ≤ l.at_ k) : formTo l (k + 1) = l.setc 0 := by
  unfold formTo
  rw [(l.upto_mem k hk hn).2.2, formC_snoc, if_pos h]
/-- Block w.heap.size is the level g k, the next one is a zero level. -/
def RBox (w : World) (g : Nat → Lv) (i : Value) (wr : World) : Prop := ∃ k : Nat, i = .int .i64 k ∧ k ≤ 4 ∧ wr.heap[w.heap.size]? = some (g k).box ∧ wr.heap[w.heap.size + 1]? = some zero.box ∧ Below w.heap.size w wr
/-- A number more, of the first k parameters. -/
def moreTo (l : Lv) (n : Int) (k : Nat) : Lv := ⟨l.c + n, if 0 < k then up l.p0 n else l.p0, if 1 < k then up l.p1 n else l.p1, if 2 < k then up l.p2 n else l.p2, if 3 < k then up l.p3 n else l.p3⟩
theorem moreTo_at (l : Lv) (n : Int) {k : Nat} (hk : k < 4) : (moreTo l n k).at_ k = l.at_ k := by
  match k, hk with
  | 0, _ => rfl
  | 1, _ => rfl
  | 2, _ => rfl
  | 3, _ => rfl
theorem moreTo_next (l : Lv) (n : Int) {k : Nat} (hk : k < 4) : moreTo l n (k + 1) = (moreTo l n k).put k (up (l.at_ k) n) := by
  match k, hk with
  | 0, _ => rfl
  | 1, _ => rfl
  | 2, _ => rfl
  | 3, _ => rfl
theorem moreTo_skip (l : Lv) (n : Int) {k : Nat} (hk : k < 4) (h : l.at_ k = -1) : moreTo l n (k + 1) = moreTo l n k := by
  rw [moreTo_next l n hk, h]
  match k, hk with
  | 0, _ => (have e : l.p0 = -1 := h; simp [moreTo, up, Lv.put, e])
  | 1, _ => (have e : l.p1 = -1 := h; simp [moreTo, up, Lv.put, e])
  | 2, _ => (have e : l.p2 = -1 := h; simp [moreTo, up, Lv.put, e])
  | 3, _ => (have e : l.p3 = -1 := h; simp [moreTo, up, Lv.put, e])
theorem set_pk {l : Lv} {W : World} {B : Nat} (h : W.heap[B]? = some l.box) (n : Int) {k : Nat} (hk : k < 4) : (W.setCell ⟨B, 1 + k, none⟩ (.int .i64 n)).heap[B]? = some (l.put k n).box := by
  match k, hk with
  | 0, _ => exact set_p0 h n
  | 1, _ => exact set_p1 h n
  | 2, _ => exact set_p2 h n
  | 3, _ => exact set_p3 h n
/-- The greater one, of the first k parameters. -/
def bothTo (a b : Lv) (k : Nat) : Lv := ⟨max a.c b.c, if 0 < k then max a.p0 b.p0 else a.p0, if 1 < k then max a.p1 b.p1 else a.p1, if 2 < k then max a.p2 b.p2 else a.p2, if 3 < k then max a.p3 b.p3 else a.p3⟩
theorem bothTo_at (a b : Lv) {k : Nat} (hk : k < 4) : (bothTo a b k).at_ k = a.at_ k := by
  match k, hk with
  | 0, _ => rfl
  | 1, _ => rfl
  | 2, _ => rfl
  | 3, _ => rfl
theorem bothTo_next (a b : Lv) {k : Nat} (hk : k < 4) : bothTo a b (k + 1) = (bothTo a b k).put k (max (a.at_ k) (b.at_ k)) := by
  match k, hk with
  | 0, _ => rfl
  | 1, _ => rfl
  | 2, _ => rfl
  | 3, _ => rfl
theorem low1_of {l : Lv} (h0 : -1 ≤ l.p0) (h1 : -1 ≤ l.p1) (h2 : -1 ≤ l.p2) (h3 : -1 ≤ l.p3) : l.low1 := fun k hk => by
  match k, hk with
  | 0, _ => exact h0
  | 1, _ => exact h1
  | 2, _ => exact h2
  | 3, _ => exact h3
theorem fine_low1 {l : Lv} (h : l.fine) : l.low1 := low1_of h.2.1 h.2.2.1 h.2.2.2.1 h.2.2.2.2
/-- Blocks w.heap.size and the next one are the levels g k and b, the third one is a zero level. -/
def RBox2 (w : World) (g : Nat → Lv) (b : Lv) (i : Value) (wr : World) : Prop := ∃ k : Nat, i = .int .i64 k ∧ k ≤ 4 ∧ wr.heap[w.heap.size]? = some (g k).box ∧ wr.heap[w.heap.size + 1]? = some b.box ∧ wr.heap[w.heap.size + 1 + 1]? = some zero.box ∧ Below w.heap.size w wr
end Lvl

set_option maxRecDepth 100000 in
set_option maxHeartbeats 4000000 in
theorem RefForm_any (l : Lv) (w : World) (hl : l.low1) :
    Calls Try.prog 136 #[l.val] w fun e w' => e = .returned l.form.val ∧ Below w.heap.size w w' := by
  obtain ⟨G, hG⟩ : ∃ G, G = l.form := ⟨_, rfl⟩
  rw [← hG]
  have HG := Lib.hid hG
  have HL := Lib.hid hl
  have H0 := Lib.hid (new1of2 w l.box zero.box)
  have H1 := Lib.hid (new2 w l.box zero.box)
  have HB := Lib.hid (below_two w l.box zero.box)
  clear hG hl
  unfold Lv.val
  go_enter Try.func136, Try.ntmps136
  go_wp2_with fail
  go_loopw [3] (fun i wr => RBox w (formTo l) i wr) (fun i _ => 4 - (intOf i).toNat)
  case atStart => exact ⟨0, rfl, by omega, H0.out, H1.out, HB.out⟩
  case round =>
    clear H0 H1 HB
    obtain ⟨k, rfl, hk, h0, h1, hb⟩ := hrel
    have X0 := Lib.hid h0
    have X1 := Lib.hid h1
    have XB := Lib.hid hb
    have lw : w.heap.size < wr.heap.size := (Array.getElem?_eq_some_iff.1 h0).1
    clear h0 h1 hb
    by_cases hlt : k < 4
    · have c1 := at_cell X0.out k hlt
      obtain ⟨c0, _⟩ := Lv.cells X0.out
      have f0 := Lv.free X0.out 0
      rw [show (formTo l k).at_ k = l.at_ k from at_setc _ _ _] at c1
      rw [show (formTo l k).c = formC l.c (l.upto k) from rfl] at c0
      have hp1 := HL.out k hlt
      have N1 := Lib.hid (formTo_skip l hlt)
      have N2 := Lib.hid (formTo_no l hlt)
      have N3 := Lib.hid (formTo_yes l hlt)
      obtain ⟨p, hp⟩ : ∃ p, p = l.at_ k := ⟨_, rfl⟩
      obtain ⟨c, hc⟩ : ∃ c, c = formC l.c (l.upto k) := ⟨_, rfl⟩
      rw [← hp] at c1 N1 N2 N3 hp1
      rw [← hc] at c0 N2 N3
      clear hp hc
      by_cases hA : 0 ≤ p
      · have dA : decide (0 ≤ p) = true := by simpa using hA
        by_cases hC : c ≤ p
        · have dC : decide (c ≤ p) = true := by simpa using hC
          have HE := Lib.hid (N3.out (by omega) hC)
          clear hA hC hp1
          go_wp2_with fail
          go_quiet (fail)
          go_wp2_with fail
          go_roundw
          case rel => exact ⟨k + 1, by go_num, by omega, by rw [HE.out]; exact set_c (Lvl.keep (Lvl.drewN_below _ _ _) X0.out) 0, block_other (Lvl.keep (Lvl.drewN_below _ _ _) X1.out) _ (by omega), (XB.out.trans (Lvl.drewN_below _ _ _)).setCell (p := ⟨w.heap.size, 0, none⟩) (Nat.le_refl _) _⟩
          case measure => simp [intOf]; omega
        · have dC : decide (c ≤ p) = false := by simpa using hC
          have HE := Lib.hid (N2.out (by omega))
          clear hA hC hp1
          go_wp2_with fail
          go_quiet (fail)
          go_wp2_with fail
          go_roundw
          case rel => exact ⟨k + 1, by go_num, by omega, by rw [HE.out]; exact Lvl.keep (Lvl.drewN_below _ _ _) X0.out, Lvl.keep (Lvl.drewN_below _ _ _) X1.out, XB.out.trans (Lvl.drewN_below _ _ _)⟩
          case measure => simp [intOf]; omega
      · have dA : decide (0 ≤ p) = false := by simpa using hA
        have HE := Lib.hid (N1.out (by omega))
        clear hA hp1
        go_wp2_with fail
        go_quiet (fail)
        go_wp2_with fail
        go_roundw
        case rel => exact ⟨k + 1, by go_num, by omega, by rw [HE.out]; exact Lvl.keep (Lvl.drewN_below _ _ _) X0.out, Lvl.keep (Lvl.drewN_below _ _ _) X1.out, XB.out.trans (Lvl.drewN_below _ _ _)⟩
        case measure => simp [intOf]; omega
    · obtain rfl : k = 4 := by omega
      have hf : formTo l 4 = G := by rw [HG.out]; rfl
      rw [hf] at X0
      obtain ⟨c0, c1, c2, c3, c4⟩ := Lv.cells X0.out
      obtain ⟨d0, d1, d2, d3, d4⟩ := Lv.cells X1.out
      obtain ⟨f0, f1, f2, f3, f4⟩ := Lv.frees X1.out
      clear hf
      go_wp2_with fail
      have h5 := put5_self X1.out G
      have b5 := put5_below XB.out (by omega : w.heap.size ≤ w.heap.size + 1) G
      unfold put5 at h5 b5
      generalize hW : ((((wr.setCell ⟨w.heap.size + 1, 0, none⟩ (.int .i64 G.c)).setCell ⟨w.heap.size + 1, 1, none⟩ (.int .i64 G.p0)).setCell ⟨w.heap.size + 1, 2, none⟩ (.int .i64 G.p1)).setCell ⟨w.heap.size + 1, 3, none⟩ (.int .i64 G.p2)).setCell ⟨w.heap.size + 1, 4, none⟩ (.int .i64 G.p3) = W5 at h5 b5 ⊢
      obtain ⟨e0, e1, e2, e3, e4⟩ := Lv.cells h5
      clear hW
      exact bodyPost_ret (v := .agg #[.int .i64 G.c, .int .i64 G.p0, .int .i64 G.p1, .int .i64 G.p2, .int .i64 G.p3]) (by simp [results, Try.results136, go_sem, e0, e1, e2, e3, e4]) rfl ⟨rfl, b5⟩

set_option maxRecDepth 100000 in
set_option maxHeartbeats 4000000 in
theorem RefMore_any (l : Lv) (n : Int) (w : World) (hl : l.within = true) (hn : 0 ≤ n ∧ n ≤ 1099511627776) :
    Calls Try.prog 94 #[l.val, .int .i64 n] w fun e w' => e = .returned (l.plus n).form.val ∧ Below w.heap.size w w' := by
  have hw := (Lvl.within_iff l).1 hl
  have HF := Lib.hid (fun W => RefForm_any (l.plus n) W (low1_of (by show -1 ≤ up l.p0 n; unfold up; split <;> omega) (by show -1 ≤ up l.p1 n; unfold up; split <;> omega) (by show -1 ≤ up l.p2 n; unfold up; split <;> omega) (by show -1 ≤ up l.p3 n; unfold up; split <;> omega)))
  have hwc : IntKind.i64.wrap (l.c + n) = l.c + n := IntWalk.i64_in _ (by omega)
  have HWP : Hid (∀ k, k < 4 → -1 ≤ l.at_ k ∧ (l.at_ k ≠ -1 → 0 ≤ l.at_ k) ∧ IntKind.i64.wrap (l.at_ k + n) = l.at_ k + n) := Lib.hid (fun k hk => by
    match k, hk with
    | 0, _ => exact ⟨hw.2.1.1, fun h => (by have := hw.2.1.1; show 0 ≤ l.p0; have h' : l.p0 ≠ -1 := h; omega), IntWalk.i64_in _ (by show _ ≤ l.p0 + n ∧ l.p0 + n ≤ _; omega)⟩
    | 1, _ => exact ⟨hw.2.2.1.1, fun h => (by have := hw.2.2.1.1; show 0 ≤ l.p1; have h' : l.p1 ≠ -1 := h; omega), IntWalk.i64_in _ (by show _ ≤ l.p1 + n ∧ l.p1 + n ≤ _; omega)⟩
    | 2, _ => exact ⟨hw.2.2.2.1.1, fun h => (by have := hw.2.2.2.1.1; show 0 ≤ l.p2; have h' : l.p2 ≠ -1 := h; omega), IntWalk.i64_in _ (by show _ ≤ l.p2 + n ∧ l.p2 + n ≤ _; omega)⟩
    | 3, _ => exact ⟨hw.2.2.2.2.1, fun h => (by have := hw.2.2.2.2.1; show 0 ≤ l.p3; have h' : l.p3 ≠ -1 := h; omega), IntWalk.i64_in _ (by show _ ≤ l.p3 + n ∧ l.p3 + n ≤ _; omega)⟩)
  obtain ⟨G, hG⟩ : ∃ G, G = (l.plus n).form := ⟨_, rfl⟩
  rw [← hG] at HF ⊢
  have H0 := Lib.hid (new1of2 w (l.setc (l.c + n)).box zero.box)
  have H1 := Lib.hid (new2 w (l.setc (l.c + n)).box zero.box)
  have HB := Lib.hid (below_two w (l.setc (l.c + n)).box zero.box)
  have HS : Hid (∀ k, k < 4 → l.at_ k = -1 → moreTo l n (k + 1) = moreTo l n k) := Lib.hid (fun k hk => moreTo_skip l n hk)
  have HN : Hid (∀ k, k < 4 → l.at_ k ≠ -1 → moreTo l n (k + 1) = (moreTo l n k).put k (l.at_ k + n)) := Lib.hid (fun k hk h => by rw [moreTo_next l n hk]; unfold up; rw [if_neg h])
  clear hG hw hl hn
  unfold Lv.val at HF ⊢
  go_enter Try.func94, Try.ntmps94
  go_wp2_with fail
  go_loopw [5] (fun i wr => RBox w (moreTo l n) i wr) (fun i _ => 4 - (intOf i).toNat)
  case atStart => exact ⟨0, rfl, by omega, H0.out, H1.out, HB.out⟩
  case round =>
    clear H0 H1 HB hwc
    obtain ⟨k, rfl, hk, h0, h1, hb⟩ := hrel
    have X0 := Lib.hid h0
    have X1 := Lib.hid h1
    have XB := Lib.hid hb
    have lw : w.heap.size < wr.heap.size := (Array.getElem?_eq_some_iff.1 h0).1
    clear h0 h1 hb
    by_cases hlt : k < 4
    · have c1 := at_cell X0.out k hlt
      have f1 : wr.frozen? ⟨w.heap.size, 1 + k, none⟩ = false := Lv.free X0.out _
      rw [moreTo_at l n hlt] at c1
      have hp1 := (HWP.out k hlt).1
      have hwp := (HWP.out k hlt).2.2
      have N1 := Lib.hid (HS.out k hlt)
      have N2 := Lib.hid (HN.out k hlt)
      obtain ⟨p, hp⟩ : ∃ p, p = l.at_ k := ⟨_, rfl⟩
      rw [← hp] at c1 N1 N2 hp1 hwp
      clear hp
      by_cases hA : 0 ≤ p
      · have dA : decide (0 ≤ p) = true := by simpa using hA
        have HE := Lib.hid (N2.out (by omega))
        have Y0 := Lib.hid (set_pk X0.out (p + n) hlt)
        have Y1 := Lib.hid (block_other X1.out (b := w.heap.size) (o := 1 + k) (.int .i64 (p + n)) (by omega))
        have YB := Lib.hid (XB.out.setCell (p := ⟨w.heap.size, 1 + k, none⟩) (Nat.le_refl _) (.int .i64 (p + n)))
        clear hA hp1
        go_wp2_with fail
        go_roundw
        case rel => exact ⟨k + 1, by go_num, by omega, by rw [HE.out]; exact Y0.out, Y1.out, YB.out⟩
        case measure => simp [intOf]; omega
      · have dA : decide (0 ≤ p) = false := by simpa using hA
        have HE := Lib.hid (N1.out (by omega))
        clear hA hp1
        go_wp2_with fail
        go_roundw
        case rel => exact ⟨k + 1, by go_num, by omega, by rw [HE.out]; exact X0.out, X1.out, XB.out⟩
        case measure => simp [intOf]; omega
    · obtain rfl : k = 4 := by omega
      have hf : moreTo l n 4 = l.plus n := rfl
      rw [hf] at X0
      obtain ⟨q, hq⟩ : ∃ q, q = l.plus n := ⟨_, rfl⟩
      rw [← hq] at HF X0
      clear hf hq HS HN HWP
      obtain ⟨c0, c1, c2, c3, c4⟩ := Lv.cells X0.out
      go_wp2_with fail
      refine (HF.out _).mono ?_
      rintro e w1 ⟨rfl, b1⟩
      have X2 := Lib.hid (Lvl.keep b1 X1.out)
      have XB2 := Lib.hid (XB.out.trans (b1.mono XB.out.size))
      obtain ⟨d0, d1, d2, d3, d4⟩ := Lv.cells X2.out
      obtain ⟨f0, f1, f2, f3, f4⟩ := Lv.frees X2.out
      clear b1
      go_wp2_with fail
      have h5 := put5_self X2.out G
      have b5 := put5_below XB2.out (by omega : w.heap.size ≤ w.heap.size + 1) G
      unfold put5 at h5 b5
      generalize hW : ((((w1.setCell ⟨w.heap.size + 1, 0, none⟩ (.int .i64 G.c)).setCell ⟨w.heap.size + 1, 1, none⟩ (.int .i64 G.p0)).setCell ⟨w.heap.size + 1, 2, none⟩ (.int .i64 G.p1)).setCell ⟨w.heap.size + 1, 3, none⟩ (.int .i64 G.p2)).setCell ⟨w.heap.size + 1, 4, none⟩ (.int .i64 G.p3) = W5 at h5 b5 ⊢
      obtain ⟨e0, e1, e2, e3, e4⟩ := Lv.cells h5
      clear hW
      exact bodyPost_ret (v := .agg #[.int .i64 G.c, .int .i64 G.p0, .int .i64 G.p1, .int .i64 G.p2, .int .i64 G.p3]) (by simp [results, Try.results94, go_sem, e0, e1, e2, e3, e4]) rfl ⟨rfl, b5⟩

set_option maxRecDepth 100000 in
set_option maxHeartbeats 4000000 in
theorem RefBoth_any (a b : Lv) (w : World) (ha : a.low1) :
    Calls Try.prog 96 #[a.val, b.val] w fun e w' => e = .returned (a.join b).form.val ∧ Below w.heap.size w w' := by
  have hmax := run_max
  have HF := Lib.hid (fun W => RefForm_any (a.join b) W (low1_of (by have := ha 0 (by omega); show -1 ≤ max a.p0 b.p0; have h : -1 ≤ a.p0 := this; omega) (by have := ha 1 (by omega); show -1 ≤ max a.p1 b.p1; have h : -1 ≤ a.p1 := this; omega) (by have := ha 2 (by omega); show -1 ≤ max a.p2 b.p2; have h : -1 ≤ a.p2 := this; omega) (by have := ha 3 (by omega); show -1 ≤ max a.p3 b.p3; have h : -1 ≤ a.p3 := this; omega)))
  obtain ⟨G, hG⟩ : ∃ G, G = (a.join b).form := ⟨_, rfl⟩
  rw [← hG] at HF ⊢
  obtain ⟨M, hM⟩ : ∃ M, M = max a.c b.c := ⟨_, rfl⟩
  have H0 := Lib.hid (new1of3 w (a.setc M).box b.box zero.box)
  have H1 := Lib.hid (new2of3 w (a.setc M).box b.box zero.box)
  have H2 := Lib.hid (new3 w (a.setc M).box b.box zero.box)
  have HB := Lib.hid (below_three w (a.setc M).box b.box zero.box)
  have HST : Hid (bothTo a b 0 = a.setc M) := Lib.hid (by rw [hM]; rfl)
  clear hG ha
  unfold Lv.val at HF ⊢
  go_enter Try.func96, Try.ntmps96
  go_wp2_with fail
  rw [← hM]
  clear hM
  go_loopw [5] (fun i wr => RBox2 w (bothTo a b) b i wr) (fun i _ => 4 - (intOf i).toNat)
  case atStart => exact ⟨0, rfl, by omega, by rw [HST.out]; exact H0.out, H1.out, H2.out, HB.out⟩
  case round =>
    clear H0 H1 H2 HB
    obtain ⟨k, rfl, hk, h0, h1, h2, hb⟩ := hrel
    have X0 := Lib.hid h0
    have X1 := Lib.hid h1
    have X2 := Lib.hid h2
    have XB := Lib.hid hb
    have lw : w.heap.size < wr.heap.size := (Array.getElem?_eq_some_iff.1 h0).1
    have lw1 : w.heap.size + 1 < wr.heap.size := (Array.getElem?_eq_some_iff.1 h1).1
    clear h0 h1 h2 hb
    by_cases hlt : k < 4
    · have c1 := at_cell X0.out k hlt
      have d1 := at_cell X1.out k hlt
      have f1 : wr.frozen? ⟨w.heap.size, 1 + k, none⟩ = false := Lv.free X0.out _
      rw [bothTo_at a b hlt] at c1
      have HE := Lib.hid (bothTo_next a b hlt)
      obtain ⟨p, hp⟩ : ∃ p, p = a.at_ k := ⟨_, rfl⟩
      obtain ⟨q, hq⟩ : ∃ q, q = b.at_ k := ⟨_, rfl⟩
      rw [← hp] at c1 HE
      rw [← hq] at d1 HE
      clear hp hq
      go_wp2_with fail
      go_region
      go_wp2_with fail
      go_roundw
      case rel => exact ⟨k + 1, by go_num, by omega, by rw [HE.out]; exact set_pk (Lvl.keep (Lvl.drewN_below _ _ _) X0.out) _ hlt, block_other (Lvl.keep (Lvl.drewN_below _ _ _) X1.out) _ (by omega), block_other (Lvl.keep (Lvl.drewN_below _ _ _) X2.out) _ (by omega), (XB.out.trans (Lvl.drewN_below _ _ _)).setCell (p := ⟨w.heap.size, 1 + k, none⟩) (Nat.le_refl _) _⟩
      case measure => simp [intOf]; omega
    · obtain rfl : k = 4 := by omega
      have hf : bothTo a b 4 = a.join b := rfl
      rw [hf] at X0
      obtain ⟨q, hq⟩ : ∃ q, q = a.join b := ⟨_, rfl⟩
      rw [← hq] at HF X0
      clear hf hq
      obtain ⟨c0, c1, c2, c3, c4⟩ := Lv.cells X0.out
      go_wp2_with fail
      refine (HF.out _).mono ?_
      rintro e w1 ⟨rfl, b1⟩
      have X3 := Lib.hid (Lvl.keep b1 X2.out)
      have XB2 := Lib.hid (XB.out.trans (b1.mono XB.out.size))
      obtain ⟨d0, d1, d2, d3, d4⟩ := Lv.cells X3.out
      obtain ⟨f0, f1, f2, f3, f4⟩ := Lv.frees X3.out
      clear b1
      go_wp2_with fail
      have h5 := put5_self X3.out G
      have b5 := put5_below XB2.out (by omega : w.heap.size ≤ w.heap.size + 1 + 1) G
      unfold put5 at h5 b5
      generalize hW : ((((w1.setCell ⟨w.heap.size + 1 + 1, 0, none⟩ (.int .i64 G.c)).setCell ⟨w.heap.size + 1 + 1, 1, none⟩ (.int .i64 G.p0)).setCell ⟨w.heap.size + 1 + 1, 2, none⟩ (.int .i64 G.p1)).setCell ⟨w.heap.size + 1 + 1, 3, none⟩ (.int .i64 G.p2)).setCell ⟨w.heap.size + 1 + 1, 4, none⟩ (.int .i64 G.p3) = W5 at h5 b5 ⊢
      obtain ⟨e0, e1, e2, e3, e4⟩ := Lv.cells h5
      clear hW
      exact bodyPost_ret (v := .agg #[.int .i64 G.c, .int .i64 G.p0, .int .i64 G.p1, .int .i64 G.p2, .int .i64 G.p3]) (by simp [results, Try.results96, go_sem, e0, e1, e2, e3, e4]) rfl ⟨rfl, b5⟩
end Go.Proofs.Ytfechgahafbphaa
