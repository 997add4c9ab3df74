/-
  battenref03.may, May.
-/
import Derived.Test.YtijdlihodpodjaaTrmNode
namespace Go.Proofs.Ytijdlihodpodjaa
open Go.RowKit Go.Shelf Lvl Trm

def Trm.badMay (x : Tm) : Bool := !x.node

set_option maxRecDepth 100000 in
set_option maxHeartbeats 1000000 in
theorem may_t_any (t : Tm) : ∀ (h : Hd) (l d : Int) (w : World), 0 ≤ l → l ≤ 65536 → -1 ≤ d → d ≤ 4096 → t.In w.heap.size w h →
    Calls Try.prog 66 #[t.val h, .int .i64 l, .int .i64 d] w fun e w' => e = .returned (.int .i64 (t.left badMay l d)) ∧ Below w.heap.size w w' := by
  induction t using Tm.ind with
  | h t ih =>
    intro h l d w hl0 hl1 hd0 hd1 hin
    have hfit := hin.fit
    have hls := hfit.ls
    have hts := hfit.ts
    clear hfit
    have HIN := Lib.hid hin
    have HIH := Lib.hid ih
    clear hin ih
    unfold Tm.val Tm.vals
    by_cases h1 : l - 1 < 0
    · have hG : t.left badMay l d = -1 := by rw [Tm.left_eq, if_pos (Or.inl h1)]
      rw [hG]
      clear hG
      go_enter Try.func66, Try.ntmps66
      go_wp2_with fail
      go_ret
      exact ⟨rfl, below_one _ _⟩
    · by_cases h2 : d ≤ 0
      · have hG : t.left badMay l d = -1 := by rw [Tm.left_eq, if_pos (Or.inr (Or.inl h2))]
        rw [hG]
        clear hG
        go_enter Try.func66, Try.ntmps66
        go_wp2_with fail
        go_ret
        exact ⟨rfl, below_one _ _⟩
      · have hnode := fun w hin => node_any t h w hin
        have HIA := Lib.hid (Tm.In.mono (B' := (w.alloc (t.box h)).heap.size) (by simp) _ _ (Tm.In.below (below_one w (t.box h)) _ _ HIN.out))
        cases hnd : t.node
        · have hG : t.left badMay l d = -1 := by rw [Tm.left_eq, if_pos (Or.inr (Or.inr (by simp [badMay, hnd])))]
          rw [hG]
          rw [hnd] at hnode
          have HN := Lib.hid hnode
          clear hG hnode hnd
          unfold Tm.val Tm.vals at HN
          go_enter Try.func66, Try.ntmps66
          go_wp2_with fail
          refine (HN.out _ HIA.out).mono ?_
          rintro e w1 ⟨rfl, b1⟩
          have HK := Lib.hid ((Kept.start w (t.box h)).step b1)
          clear b1
          go_wp2_with fail
          go_ret
          exact ⟨rfl, HK.out.bel⟩
        · obtain ⟨G, hG⟩ : ∃ G, G = t.left badMay l d := ⟨_, rfl⟩
          rw [← hG]
          have hG' : leftL badMay (t.ts.drop 0) (l - 1) (d - 1) = G := by
            rw [hG, Tm.left_eq, if_neg (by rintro (h | h | h) <;> first | omega | (simp [badMay, hnd] at h))]; rfl
          have HG := Lib.hid hG'
          rw [hnd] at hnode
          have HN := Lib.hid hnode
          clear hG hG' hnode hnd
          unfold Tm.val Tm.vals at HN
          go_enter Try.func66, Try.ntmps66
          go_wp2_with fail
          refine (HN.out _ HIA.out).mono ?_
          rintro e w1 ⟨rfl, b1⟩
          have HK0 := Lib.hid ((Kept.start w (t.box h)).step b1)
          have hc := Tm.cells HK0.out.box
          clear b1
          obtain ⟨c0, c1, c2, c3, c4⟩ := hc
          go_wp2_with fail
          clear c0 c1 c2 c3 c4
          go_loopw [1, 7] (fun v i wr => LeftRel badMay w (t.box h) t.ts (d - 1) G 65536 v i wr) (fun _ i _ => t.ts.length - (intOf i).toNat)
          case atStart => exact ⟨0, l - 1, by go_num, rfl, by omega, by omega, by omega, HG.out, HK0.out⟩
          case round =>
            obtain ⟨k, L, rfl, rfl, hk, hL0, hL1, hGk, hkept⟩ := hrel
            have HK := Lib.hid hkept
            have HGk := Lib.hid hGk
            clear hkept hGk
            obtain ⟨c0, c1, c2, c3, c4⟩ := Tm.cells HK.out.box
            by_cases hlt : k < t.ts.length
            · obtain ⟨b, off, hao, hat⟩ := HIN.out.kid k hlt
              obtain ⟨hb, hd', ⟨k0, k1, k2, k3, k4⟩, hin'⟩ := hat.below HK.out.bel
              rw [hao] at c4
              have HX := Lib.hid (show ∀ W, t.ts[k].In W.heap.size W hd' → Calls Try.prog 66 #[t.ts[k].val hd', .int .i64 L, .int .i64 (d - 1)] W fun e w' => e = .returned (.int .i64 (t.ts[k].left badMay L (d - 1))) ∧ Below W.heap.size W w' from fun W hW => HIH.out _ (List.getElem_mem hlt) hd' L (d - 1) W hL0 hL1 (by omega) (by omega) hW)
              have HI := Lib.hid (Tm.In.mono HK.out.bel.size _ _ hin')
              have HGG : Hid ((if t.ts[k].left badMay L (d - 1) < 0 then -1 else leftL badMay (t.ts.drop (k + 1)) (t.ts[k].left badMay L (d - 1)) (d - 1)) = G) := by
                have := HGk.out
                rw [drop_get hlt, leftL] at this
                exact this
              have HLE := Lib.hid (t.ts[k].left_ge badMay L (d - 1))
              clear hat hin' hao HGk
              generalize t.ts[k] = x at k0 k1 k2 k3 k4 HX HI HGG HLE
              unfold Tm.val Tm.vals at HX
              obtain ⟨X, hX⟩ : ∃ X, X = x.left badMay L (d - 1) := ⟨_, rfl⟩
              rw [← hX] at HX HGG HLE
              clear hX
              go_wp2_with fail
              refine (HX.out _ HI.out).mono ?_
              rintro e w1 ⟨rfl, b1⟩
              have HK1 := Lib.hid (HK.out.step b1)
              have hX2 := HLE.out
              clear b1 HLE k0 k1 k2 k3 k4
              by_cases hneg : X < 0
              · have HE : Hid (-1 = G) := by have := HGG.out; rwa [if_pos hneg] at this
                go_wp2_with fail
                go_ret
                exact ⟨ret_int HE.out, HK1.out.bel⟩
              · have HE : Hid (leftL badMay (t.ts.drop (k + 1)) X (d - 1) = G) := by have := HGG.out; rwa [if_neg hneg] at this
                go_wp2_with fail
                go_roundw
                case rel => exact ⟨k + 1, X, rfl, by go_num, by omega, by omega, by omega, HE.out, HK1.out⟩
                case measure => simp [intOf]; omega
            · have HE : Hid (L = G) := by
                have := HGk.out
                rw [List.drop_eq_nil_of_le (by omega), leftL] at this
                exact this
              go_wp2_with fail
              go_ret
              exact ⟨ret_int HE.out, HK.out.bel⟩

set_option maxRecDepth 100000 in
theorem RefTMay_any (t : Tm) (h : Hd) (w : World) (hin : t.In w.heap.size w h) :
    Calls Try.prog 13 #[t.val h] w fun e w' => e = .returned (.bool t.may) ∧ Below w.heap.size w w' := by
  have HX := Lib.hid (may_t_any t h 65536 4096)
  have HI := Lib.hid (Tm.In.mono (B' := (w.alloc (t.box h)).heap.size) (by simp) _ _ (Tm.In.below (below_one w (t.box h)) _ _ hin))
  have HL := Lib.hid (t.left_ge badMay 65536 4096)
  obtain ⟨X, hX⟩ : ∃ X, X = t.left badMay 65536 4096 := ⟨_, rfl⟩
  have hd : t.may = decide (0 ≤ X) := by rw [hX]; rfl
  rw [← hX] at HX HL
  rw [hd]
  clear hX hd hin
  unfold Tm.val Tm.vals at HX ⊢
  go_enter Try.func13, Try.ntmps13
  go_wp2_with fail
  refine (HX.out _ (by decide) (by decide) (by decide) (by decide) HI.out).mono ?_
  rintro e w1 ⟨rfl, b1⟩
  have HB := Lib.hid ((below_one w (t.box h)).trans (b1.mono (by simp)))
  have hX := HL.out
  clear b1 HL HX HI
  go_wp2_with fail
  go_ret
  exact ⟨rfl, HB.out⟩
end Go.Proofs.Ytijdlihodpodjaa
