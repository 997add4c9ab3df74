/-
  battenref03.deep, Deep, Size: functions that go down a term.
-/
import Derived.Test.YtijdlihodpodjaaTrmIn
import Derived.LoopTactic
namespace Go.Proofs.Ytijdlihodpodjaa
open Go.RowKit Go.Shelf Lvl Trm

theorem Trm.ret_int {a b : Int} (h : a = b) : Ending.returned (.int .i64 a) = .returned (.int .i64 b) := by rw [h]
theorem Trm.drop_get {α : Type} {l : List α} {k : Nat} (h : k < l.length) : l.drop k = l[k] :: l.drop (k + 1) := List.drop_eq_getElem_cons h

/-- What is carried through a loop over a term's terms. -/
structure Trm.Kept (w wr : World) (o : Obj) : Prop where
  bel : Below w.heap.size w wr
  box : wr.heap[w.heap.size]? = some o
theorem Trm.Kept.start (w : World) (o : Obj) : Kept w (w.alloc o) o := ⟨below_one _ _, World.alloc_heap_new w o⟩
theorem Trm.Kept.step {w wr w1 : World} {o : Obj} (h : Kept w wr o) (b : Below wr.heap.size wr w1) : Kept w w1 o := ⟨h.bel.trans (b.mono h.bel.size), keep b h.box⟩
theorem Trm.Kept.more {w wr : World} {o : Obj} (h : Kept w wr o) (x : Obj) : Kept w (wr.alloc x) o := h.step (below_one _ _)

def Trm.badDeep (x : Tm) : Bool := decide (20 < x.ls.length)
def Trm.LeftRel (bad : Tm → Bool) (w : World) (o : Obj) (ts : List Tm) (d G top : Int) (v i : Value) (wr : World) : Prop :=
  ∃ (k : Nat) (L : Int), v = .int .i64 L ∧ i = .int .i64 k ∧ k ≤ ts.length ∧ 0 ≤ L ∧ L ≤ top ∧ leftL bad (ts.drop k) L d = G ∧ Kept w wr o

set_option maxRecDepth 100000 in
set_option maxHeartbeats 1000000 in
theorem deep_any (t : Tm) : ∀ (h : Hd) (l d : Int) (w : World), 0 ≤ l → l ≤ 131072 → -1 ≤ d → d ≤ 8192 → t.In w.heap.size w h →
    Calls Try.prog 61 #[t.val h, .int .i64 l, .int .i64 d] w fun e w' => e = .returned (.int .i64 (t.left badDeep l d)) ∧ Below w.heap.size w w' := by
  induction t using Tm.ind with
  | h t ih =>
    intro h l d w hl0 hl1 hd0 hd1 hin
    have hfit := hin.fit
    have hls := hfit.ls
    have hts := hfit.ts
    clear hfit
    have HIN := Lib.hid hin
    have HIH := Lib.hid ih
    clear hin ih
    unfold Tm.val Tm.vals
    by_cases h1 : l - 1 < 0
    · have hG : t.left badDeep l d = -1 := by rw [Tm.left_eq, if_pos (Or.inl h1)]
      rw [hG]
      clear hG
      go_enter Try.func61, Try.ntmps61
      go_wp2_with fail
      go_ret
      exact ⟨rfl, below_one _ _⟩
    · by_cases h2 : d ≤ 0
      · have hG : t.left badDeep l d = -1 := by rw [Tm.left_eq, if_pos (Or.inr (Or.inl h2))]
        rw [hG]
        clear hG
        go_enter Try.func61, Try.ntmps61
        go_wp2_with fail
        go_ret
        exact ⟨rfl, below_one _ _⟩
      · by_cases h3 : 20 < t.ls.length
        · have hG : t.left badDeep l d = -1 := by rw [Tm.left_eq, if_pos (Or.inr (Or.inr (by simpa [badDeep] using h3)))]
          rw [hG]
          clear hG
          go_enter Try.func61, Try.ntmps61
          go_wp2_with fail
          go_ret
          exact ⟨rfl, below_one _ _⟩
        · obtain ⟨G, hG⟩ : ∃ G, G = t.left badDeep l d := ⟨_, rfl⟩
          rw [← hG]
          have hG' : leftL badDeep (t.ts.drop 0) (l - 1) (d - 1) = G := by
            rw [hG, Tm.left_eq, if_neg (by rintro (h | h | h) <;> first | omega | (simp [badDeep] at h; omega))]; rfl
          have HG := Lib.hid hG'
          clear hG hG'
          go_enter Try.func61, Try.ntmps61
          go_wp2_with fail
          go_loopw [1, 7] (fun v i wr => LeftRel badDeep w (t.box h) t.ts (d - 1) G 131072 v i wr) (fun _ i _ => t.ts.length - (intOf i).toNat)
          case atStart => exact ⟨0, l - 1, by go_num, rfl, by omega, by omega, by omega, HG.out, Kept.start _ _⟩
          case round =>
            obtain ⟨k, L, rfl, rfl, hk, hL0, hL1, hGk, hkept⟩ := hrel
            have HK := Lib.hid hkept
            have HGk := Lib.hid hGk
            clear hkept hGk
            obtain ⟨c0, c1, c2, c3, c4⟩ := Tm.cells HK.out.box
            by_cases hlt : k < t.ts.length
            · obtain ⟨b, off, hao, hat⟩ := HIN.out.kid k hlt
              obtain ⟨hb, hd', ⟨k0, k1, k2, k3, k4⟩, hin'⟩ := hat.below HK.out.bel
              rw [hao] at c4
              have HX := Lib.hid (show ∀ W, t.ts[k].In W.heap.size W hd' → Calls Try.prog 61 #[t.ts[k].val hd', .int .i64 L, .int .i64 (d - 1)] W fun e w' => e = .returned (.int .i64 (t.ts[k].left badDeep L (d - 1))) ∧ Below W.heap.size W w' from fun W hW => HIH.out _ (List.getElem_mem hlt) hd' L (d - 1) W hL0 hL1 (by omega) (by omega) hW)
              have HI := Lib.hid (Tm.In.mono HK.out.bel.size _ _ hin')
              have HGG : Hid ((if t.ts[k].left badDeep L (d - 1) < 0 then -1 else leftL badDeep (t.ts.drop (k + 1)) (t.ts[k].left badDeep L (d - 1)) (d - 1)) = G) := by
                have := HGk.out
                rw [drop_get hlt, leftL] at this
                exact this
              have HLE := Lib.hid (t.ts[k].left_ge badDeep L (d - 1))
              clear hat hin' hao HGk
              generalize t.ts[k] = x at k0 k1 k2 k3 k4 HX HI HGG HLE
              unfold Tm.val Tm.vals at HX
              obtain ⟨X, hX⟩ : ∃ X, X = x.left badDeep L (d - 1) := ⟨_, rfl⟩
              rw [← hX] at HX HGG HLE
              clear hX
              go_wp2_with fail
              refine (HX.out _ HI.out).mono ?_
              rintro e w1 ⟨rfl, b1⟩
              have HK1 := Lib.hid (HK.out.step b1)
              have hX2 := HLE.out
              clear b1 HLE k0 k1 k2 k3 k4
              by_cases hneg : X < 0
              · have HE : Hid (-1 = G) := by have := HGG.out; rwa [if_pos hneg] at this
                go_wp2_with fail
                go_ret
                exact ⟨ret_int HE.out, HK1.out.bel⟩
              · have HE : Hid (leftL badDeep (t.ts.drop (k + 1)) X (d - 1) = G) := by have := HGG.out; rwa [if_neg hneg] at this
                go_wp2_with fail
                go_roundw
                case rel => exact ⟨k + 1, X, rfl, by go_num, by omega, by omega, by omega, HE.out, HK1.out⟩
                case measure => simp [intOf]; omega
            · have HE : Hid (L = G) := by
                have := HGk.out
                rw [List.drop_eq_nil_of_le (by omega), leftL] at this
                exact this
              go_wp2_with fail
              go_ret
              exact ⟨ret_int HE.out, HK.out.bel⟩
end Go.Proofs.Ytijdlihodpodjaa
