/-
  battenref03.may, May.
-/
import Derived.Test.YtjicdmohnfcflaaQB3
import Derived.Laws.EntriesVeiled
import Derived.Deep.LoopGhost
import Derived.OwnWalk
import Derived.Deep.AppendLies
import Derived.Deep.Cut
namespace Go.Proofs.Ytjicdmohnfcflaa
open Go.RowKit Go.Shelf Lvl Trm

def Trm.badMay (x : Tm) : Bool := !x.node

set_option maxRecDepth 100000 in
set_option maxHeartbeats 1000000 in
theorem may_t_any (t : Tm) : ∀ (h : Hd) (l d : Int) (w : World), 0 ≤ l → l ≤ 65536 → -1 ≤ d → d ≤ 4096 → t.In w.heap.size w h →
    Calls Try.prog 43 #[t.val h, .int .i64 l, .int .i64 d] w fun e w' => e = .returned (.int .i64 (t.left badMay l d)) ∧ Below w.heap.size w w' := by
  induction t using Tm.ind with
  | h t ih =>
    intro h l d w hl0 hl1 hd0 hd1 hin
    have hfit := hin.fit
    have hls := hfit.ls
    have hts := hfit.ts
    clear hfit
    have HIN := Lib.hid hin
    have HIH := Lib.hid ih
    clear hin ih
    unfold Tm.val Tm.vals
    by_cases h1 : l - 1 < 0
    · have hG : t.left badMay l d = -1 := by rw [Tm.left_eq, if_pos (Or.inl h1)]
      rw [hG]
      clear hG
      go_enter Try.func43, Try.ntmps43
      go_wp2_with fail
      go_ret
      exact ⟨rfl, below_one _ _⟩
    · by_cases h2 : d ≤ 0
      · have hG : t.left badMay l d = -1 := by rw [Tm.left_eq, if_pos (Or.inr (Or.inl h2))]
        rw [hG]
        clear hG
        go_enter Try.func43, Try.ntmps43
        go_wp2_with fail
        go_ret
        exact ⟨rfl, below_one _ _⟩
      · have hnode := fun w hin => node_any t h w hin
        have HIA := Lib.hid (Tm.In.mono (B' := (w.alloc (t.box h)).heap.size) (by simp) _ _ (Tm.In.below (below_one w (t.box h)) _ _ HIN.out))
        cases hnd : t.node
        · have hG : t.left badMay l d = -1 := by rw [Tm.left_eq, if_pos (Or.inr (Or.inr (by simp [badMay, hnd])))]
          rw [hG]
          rw [hnd] at hnode
          have HN := Lib.hid hnode
          clear hG hnode hnd
          unfold Tm.val Tm.vals at HN
          go_enter Try.func43, Try.ntmps43
          go_wp2_with fail
          refine (HN.out _ HIA.out).mono ?_
          rintro e w1 ⟨rfl, b1⟩
          have HK := Lib.hid ((Kept.start w (t.box h)).step b1)
          clear b1
          go_wp2_with fail
          go_ret
          exact ⟨rfl, HK.out.bel⟩
        · obtain ⟨G, hG⟩ : ∃ G, G = t.left badMay l d := ⟨_, rfl⟩
          rw [← hG]
          have hG' : leftL badMay (t.ts.drop 0) (l - 1) (d - 1) = G := by
            rw [hG, Tm.left_eq, if_neg (by rintro (h | h | h) <;> first | omega | (simp [badMay, hnd] at h))]; rfl
          have HG := Lib.hid hG'
          rw [hnd] at hnode
          have HN := Lib.hid hnode
          clear hG hG' hnode hnd
          unfold Tm.val Tm.vals at HN
          go_enter Try.func43, Try.ntmps43
          go_wp2_with fail
          refine (HN.out _ HIA.out).mono ?_
          rintro e w1 ⟨rfl, b1⟩
          have HK0 := Lib.hid ((Kept.start w (t.box h)).step b1)
          have hc := Tm.cells HK0.out.box
          clear b1
          obtain ⟨c0, c1, c2, c3, c4⟩ := hc
          go_wp2_with fail
          clear c0 c1 c2 c3 c4
          go_loopw [1, 7] (fun v i wr => LeftRel badMay w (t.box h) t.ts (d - 1) G 65536 v i wr) (fun _ i _ => t.ts.length - (intOf i).toNat)
          case atStart => exact ⟨0, l - 1, by go_num, rfl, by omega, by omega, by omega, HG.out, HK0.out⟩
          case round =>
            obtain ⟨k, L, rfl, rfl, hk, hL0, hL1, hGk, hkept⟩ := hrel
            have HK := Lib.hid hkept
            have HGk := Lib.hid hGk
            clear hkept hGk
            obtain ⟨c0, c1, c2, c3, c4⟩ := Tm.cells HK.out.box
            by_cases hlt : k < t.ts.length
            · obtain ⟨b, off, hao, hat⟩ := HIN.out.kid k hlt
              obtain ⟨hb, hd', ⟨k0, k1, k2, k3, k4⟩, hin'⟩ := hat.below HK.out.bel
              rw [hao] at c4
              have HX := Lib.hid (show ∀ W, t.ts[k].In W.heap.size W hd' → Calls Try.prog 43 #[t.ts[k].val hd', .int .i64 L, .int .i64 (d - 1)] W fun e w' => e = .returned (.int .i64 (t.ts[k].left badMay L (d - 1))) ∧ Below W.heap.size W w' from fun W hW => HIH.out _ (List.getElem_mem hlt) hd' L (d - 1) W hL0 hL1 (by omega) (by omega) hW)
              have HI := Lib.hid (Tm.In.mono HK.out.bel.size _ _ hin')
              have HGG : Hid ((if t.ts[k].left badMay L (d - 1) < 0 then -1 else leftL badMay (t.ts.drop (k + 1)) (t.ts[k].left badMay L (d - 1)) (d - 1)) = G) := by
                have := HGk.out
                rw [drop_get hlt, leftL] at this
                exact this
              have HLE := Lib.hid (t.ts[k].left_ge badMay L (d - 1))
              clear hat hin' hao HGk
              generalize t.ts[k] = x at k0 k1 k2 k3 k4 HX HI HGG HLE
              unfold Tm.val Tm.vals at HX
              obtain ⟨X, hX⟩ : ∃ X, X = x.left badMay L (d - 1) := ⟨_, rfl⟩
              rw [← hX] at HX HGG HLE
              clear hX
              go_wp2_with fail
              refine (HX.out _ HI.out).mono ?_
              rintro e w1 ⟨rfl, b1⟩
              have HK1 := Lib.hid (HK.out.step b1)
              have hX2 := HLE.out
              clear b1 HLE k0 k1 k2 k3 k4
              by_cases hneg : X < 0
              · have HE : Hid (-1 = G) := by have := HGG.out; rwa [if_pos hneg] at this
                go_wp2_with fail
                go_ret
                exact ⟨ret_int HE.out, HK1.out.bel⟩
              · have HE : Hid (leftL badMay (t.ts.drop (k + 1)) X (d - 1) = G) := by have := HGG.out; rwa [if_neg hneg] at this
                go_wp2_with fail
                go_roundw
                case rel => exact ⟨k + 1, X, rfl, by go_num, by omega, by omega, by omega, HE.out, HK1.out⟩
                case measure => simp [intOf]; omega
            · have HE : Hid (L = G) := by
                have := HGk.out
                rw [List.drop_eq_nil_of_le (by omega), leftL] at this
                exact this
              go_wp2_with fail
              go_ret
              exact ⟨ret_int HE.out, HK.out.bel⟩

set_option maxRecDepth 100000 in
theorem RefTMay_any (t : Tm) (h : Hd) (w : World) (hin : t.In w.heap.size w h) :
    Calls Try.prog 31 #[t.val h] w fun e w' => e = .returned (.bool t.may) ∧ Below w.heap.size w w' := by
  have HX := Lib.hid (may_t_any t h 65536 4096)
  have HI := Lib.hid (Tm.In.mono (B' := (w.alloc (t.box h)).heap.size) (by simp) _ _ (Tm.In.below (below_one w (t.box h)) _ _ hin))
  have HL := Lib.hid (t.left_ge badMay 65536 4096)
  obtain ⟨X, hX⟩ : ∃ X, X = t.left badMay 65536 4096 := ⟨_, rfl⟩
  have hd : t.may = decide (0 ≤ X) := by rw [hX]; rfl
  rw [← hX] at HX HL
  rw [hd]
  clear hX hd hin
  unfold Tm.val Tm.vals at HX ⊢
  go_enter Try.func31, Try.ntmps31
  go_wp2_with fail
  refine (HX.out _ (by decide) (by decide) (by decide) (by decide) HI.out).mono ?_
  rintro e w1 ⟨rfl, b1⟩
  have HB := Lib.hid ((below_one w (t.box h)).trans (b1.mono (by simp)))
  have hX := HL.out
  clear b1 HL HX HI
  go_wp2_with fail
  go_ret
  exact ⟨rfl, HB.out⟩
end Go.Proofs.Ytjicdmohnfcflaa


namespace Go.Proofs.Ytjicdmohnfcflaa
open Go.RowKit Go.Shelf Lvl Trm

set_option maxRecDepth 100000 in
set_option maxHeartbeats 1000000 in
theorem walk_any {σ : Type} {B m C : Nat} {f : FuncId} {see : σ → Tm → Int → Int → σ × Bool} {Inv : σ → World → Prop} {Ok : Tm → Int → Prop} {Good : σ → Prop} (S : Sees B m C f see Inv Ok Good) (t : Tm)
    (st : σ) (b o : Nat) (w : World) (hgood : Good st) (hinv : Inv st w) (hok : Ok t 1) (hat : RAt B m w b o t) (hB : B ≤ w.heap.size) (hm : m < w.heap.size) :
      Calls Try.prog 47 #[.pointer (some ⟨b, o, none⟩), fnv f C] w fun e w' => e = .returned (.bool (t.walk see st 1 0).2) ∧ Inv (t.walk see st 1 0).1 w' ∧ Ran m w w' := by
  have HV := Lib.hid (fun (W : World) (h1 : Below w.heap.size w W) (h2 : W.heap[w.heap.size]? = some (.cells #[fnv f C] 84)) (h3 : W.heap[w.heap.size + 1]? = some (.cells #[.func (.func 52) #[] #[.pointer (some ⟨w.heap.size, 0, none⟩), .pointer (some ⟨w.heap.size + 1, 0, none⟩)]] 84)) =>
    visit_any (Bs := w.heap.size) (Bv := w.heap.size + 1) S (by omega) (by omega) t st b o 1 0 W hgood (S.keep _ _ _ hinv h1) hok (by omega) (by omega) (hat.ran (Ran.of_below h1) S.low hB) (by have := h1.size; omega) (by have := h1.size; omega) h2 h3)
  generalize t.walk see st 1 0 = R at HV ⊢
  clear hinv hok hat S hgood
  go_enter Try.func47, Try.ntmps47
  go_wp2_with fail
  refine (HV.out _ ?h1 ?h2 ?h3).mono ?_
  case h1 => exact below_two _ _ _
  case h2 => exact new1of2 _ _ _
  case h3 => exact new2 _ _ _
  rintro e w1 ⟨rfl, i1, g1⟩
  have HI := Lib.hid i1
  have HR := Lib.hid ((Ran.of_below (below_two w _ _)).trans g1)
  clear i1 g1
  go_wp2_with fail
  go_ret
  exact ⟨rfl, HI.out, HR.out⟩

/-- What Size asks of each node: it counts. -/
def Trm.seeSize (n : Int) (t : Tm) (d _u : Int) : Int × Bool := (n + 1, decide (n + 1 ≤ 65536) && decide (d ≤ 4096) && t.node)

set_option maxRecDepth 100000 in
set_option maxHeartbeats 2000000 in
theorem size1_any (t : Tm) (n d u : Int) (b o m : Nat) (w : World) (hn0 : 0 ≤ n) (hn1 : n ≤ 65536) (hm : w.heap[m]? = some (.cells #[.int .i64 n] 3)) (hat : RAt m m w b o t) :
    Calls Try.prog 48 #[.pointer (some ⟨b, o, none⟩), .int .i64 d, .int .i64 u, .pointer (some ⟨m, 0, none⟩)] w fun e w' => e = .returned (.bool (seeSize n t d u).2) ∧ w'.heap[m]? = some (.cells #[.int .i64 (n + 1)] 3) ∧ Ran m w w' := by
  have hc := one_cell hm
  have hfr : w.frozen? ⟨m, 0, none⟩ = false := by simp [World.frozen?, hm]
  have hM : (w.setCell ⟨m, 0, none⟩ (.int .i64 (n + 1))).heap[m]? = some (.cells #[.int .i64 (n + 1)] 3) := by simp [World.setCell, Array.getElem?_modify, hm]
  have hR : Ran m w (w.setCell ⟨m, 0, none⟩ (.int .i64 (n + 1))) := ⟨rfl, rfl, rfl, by simp [World.setCell], fun k _ hk => Below.heap_setCell _ _ _ _ hk⟩
  have hlt := (Array.getElem?_eq_some_iff.1 hm).1
  have HA : Hid (TAt (w.setCell ⟨m, 0, none⟩ (.int .i64 (n + 1))).heap.size (w.setCell ⟨m, 0, none⟩ (.int .i64 (n + 1))) b o t) := Lib.hid (by
    obtain ⟨_, hb1, hd1, hc1, hi1⟩ := hat.ran hR (Nat.le_refl m) (by omega)
    exact ⟨hb1, hd1, hc1, Tm.In.mono (by simp [World.setCell]; omega) _ _ hi1⟩)
  have HM := Lib.hid hM
  have HR := Lib.hid hR
  unfold seeSize
  clear hM hR hat hm
  by_cases h1 : n + 1 ≤ 65536
  · by_cases h2 : d ≤ 4096
    · simp only [decide_eq_true h1, decide_eq_true h2, Bool.true_and]
      have HF := Lib.hid (fits_any t b o _ HA.out)
      generalize t.node = r at HF ⊢
      clear HA
      go_enter Try.func48, Try.ntmps48
      go_wp2_with fail
      refine HF.out.mono ?_
      rintro e w1 ⟨rfl, b1⟩
      have HM1 := Lib.hid (Lvl.keep b1 HM.out)
      have HR1 := Lib.hid (HR.out.trans (Ran.of_below b1))
      clear b1
      go_wp2_with fail
      go_ret
      exact ⟨rfl, HM1.out, HR1.out⟩
    · simp only [decide_eq_true h1, decide_eq_false h2, Bool.true_and, Bool.false_and]
      go_enter Try.func48, Try.ntmps48
      go_wp2_with fail
      go_ret
      exact ⟨rfl, HM.out, HR.out⟩
  · simp only [decide_eq_false h1, Bool.false_and]
    go_enter Try.func48, Try.ntmps48
    go_wp2_with fail
    go_ret
    exact ⟨rfl, HM.out, HR.out⟩

theorem Trm.sees_size {B m : Nat} (h : B ≤ m) : Sees B m m 48 seeSize (fun n w => w.heap[m]? = some (.cells #[.int .i64 n] 3)) (fun _ d => 0 ≤ d ∧ d ≤ 4097) (fun n => 0 ≤ n ∧ n ≤ 65536) where
  calls st t b o d u w hg hi ho hu0 hud hat hB := size1_any t st d u b o m w hg.1 hg.2 hi (by obtain ⟨h1, h2, h3, h4, h5⟩ := hat; exact ⟨h1, h2, h3, h4, Tm.In.mono h _ _ h5⟩)
  good st t d u hg ho hr := by
    simp only [seeSize, Bool.and_eq_true, decide_eq_true_eq] at hr ⊢
    omega
  bound t d ho := by omega
  down st t d u ho hr x hx := by
    simp only [seeSize, Bool.and_eq_true, decide_eq_true_eq] at hr
    omega
  keep st w w' hi hb := Lvl.keep hb hi
  low := h
  enter args w := by kernel_rfl

mutual
/-- The walk that counts says how many nodes are left. -/
theorem Trm.size_left : ∀ (t : Tm) (n d u : Int), ((t.walk seeSize n d u).2 = true → 0 ≤ t.left badMay (65536 - n) (4097 - d) ∧ (t.walk seeSize n d u).1 = 65536 - t.left badMay (65536 - n) (4097 - d)) ∧ ((t.walk seeSize n d u).2 = false → t.left badMay (65536 - n) (4097 - d) = -1)
  | .mk k m s ls ts, n, d, u => by
    rw [Tm.walk, Tm.left]
    by_cases h1 : n + 1 ≤ 65536
    · by_cases h2 : d ≤ 4096
      · cases h3 : (Tm.mk k m s ls ts).node
        · have hs : (seeSize n (.mk k m s ls ts) d u).2 = false := by simp [seeSize, h3]
          rw [hs, if_neg (by simp)]
          rw [if_pos (Or.inr (Or.inr (by simp [badMay, h3])))]
          simp
        · have hs : (seeSize n (.mk k m s ls ts) d u) = (n + 1, true) := by simp [seeSize, h1, h2, h3]
          rw [hs, if_pos rfl, if_neg (by rintro (h | h | h) <;> first | omega | (simp [badMay, h3] at h))]
          have := Trm.sizeL_left k ts 0 (n + 1) (d + 1) u (by omega)
          rwa [show 65536 - (n + 1) = 65536 - n - 1 by omega, show 4097 - (d + 1) = 4097 - d - 1 by omega] at this
      · have hs : (seeSize n (.mk k m s ls ts) d u).2 = false := by simp [seeSize, h2]
        rw [hs, if_neg (by simp), if_pos (Or.inr (Or.inl (by omega)))]
        simp
    · have hs : (seeSize n (.mk k m s ls ts) d u).2 = false := by simp [seeSize, h1]
      rw [hs, if_neg (by simp), if_pos (Or.inl (by omega))]
      simp
theorem Trm.sizeL_left (k : Int) : ∀ (ts : List Tm) (i : Nat) (n d u : Int), n ≤ 65536 → ((walkL seeSize k ts i n d u).2 = true → 0 ≤ leftL badMay ts (65536 - n) (4097 - d) ∧ (walkL seeSize k ts i n d u).1 = 65536 - leftL badMay ts (65536 - n) (4097 - d)) ∧ ((walkL seeSize k ts i n d u).2 = false → leftL badMay ts (65536 - n) (4097 - d) = -1)
  | [], i, n, d, u, hn => by
    rw [walkL, leftL]
    refine ⟨fun _ => ⟨by omega, by omega⟩, fun h => by simp at h⟩
  | t :: r, i, n, d, u, hn => by
    rw [walkL, leftL]
    have h := Trm.size_left t n d (under k i u)
    generalize t.walk seeSize n d (under k i u) = W at h
    obtain ⟨n1, ok⟩ := W
    dsimp only at h ⊢
    cases ok
    · rw [if_neg (by simp), if_pos (by have := h.2 rfl; omega)]
      simp
    · have h1 := h.1 rfl
      rw [if_pos rfl, if_neg (by omega)]
      have := Trm.sizeL_left k r (i + 1) n1 d (under k i u) (by omega)
      rwa [show t.left badMay (65536 - n) (4097 - d) = 65536 - n1 by omega]
end
/-- How many nodes a term that may be has; of no other one any. -/
def Trm.Tm.count (t : Tm) : Int := if t.may = true then t.size else 0
theorem Trm.may_walk (t : Tm) : t.may = (t.walk seeSize 0 1 0).2 := by
  have h := size_left t 0 1 0
  have e : t.may = decide (0 ≤ t.left badMay 65536 4096) := rfl
  rw [e]
  cases hw : (t.walk seeSize 0 1 0).2
  · have := h.2 hw
    simp at this
    simp [this]
  · have := (h.1 hw).1
    simpa using this
theorem Trm.count_walk (t : Tm) : t.count = if (t.walk seeSize 0 1 0).2 = true then (t.walk seeSize 0 1 0).1 else 0 := by
  have h := size_left t 0 1 0
  unfold Tm.count
  rw [may_walk]
  cases hw : (t.walk seeSize 0 1 0).2
  · simp
  · rw [if_pos rfl, if_pos rfl]
    obtain ⟨h1, h2⟩ := h.1 hw
    have := t.left_size badMay _ _ h1
    omega

theorem Trm.Tm.In.atBox {t : Tm} {h : Hd} {w : World} (hin : t.In w.heap.size w h) : TAt (w.heap.size + 1) (w.alloc (t.box h)) w.heap.size 0 t :=
  ⟨by omega, h, Tm.cells (World.alloc_heap_new w (t.box h)), Tm.In.mono (by omega) _ _ (Tm.In.below (below_one w (t.box h)) _ _ hin)⟩

set_option maxRecDepth 100000 in
set_option maxHeartbeats 1000000 in
theorem PSize_any (t : Tm) (h : Hd) (w : World) (hin : t.In w.heap.size w h) :
    Calls Try.prog 40 #[t.val h] w fun e w' => e = .returned (.int .i64 t.count) ∧ Below w.heap.size w w' := by
  rw [count_walk]
  have HW := Lib.hid (walk_any (sees_size (B := w.heap.size + 1) (m := w.heap.size + 1) (Nat.le_refl _)) t 0 w.heap.size 0 ((w.alloc (t.box h)).alloc (.cells #[.int .i64 0] 3)) (by omega) (new2 _ _ _) (by omega)
    (((Tm.In.atBox hin).below (Below.mono (below_one (w.alloc (t.box h)) _) (by simp))).root (Nat.le_refl _) (by simp)) (by simp) (by simp))
  generalize t.walk seeSize 0 1 0 = R at HW ⊢
  obtain ⟨n, r⟩ := R
  dsimp only at HW ⊢
  clear hin
  unfold Tm.box at HW
  unfold Tm.val
  dsimp only [Tm.vals] at HW ⊢
  cases r
  · rw [if_neg (by simp)]
    go_enter Try.func40, Try.ntmps40
    go_wp2_with fail
    refine HW.out.mono ?_
    rintro e w1 ⟨rfl, i1, g1⟩
    have HB := Lib.hid ((below_two w _ _).trans (g1.below (B := w.heap.size) (by omega) (by simp; omega)))
    clear i1 g1
    go_wp2_with fail
    go_ret
    exact ⟨rfl, HB.out⟩
  · rw [if_pos rfl]
    go_enter Try.func40, Try.ntmps40
    go_wp2_with fail
    refine HW.out.mono ?_
    rintro e w1 ⟨rfl, i1, g1⟩
    have HB := Lib.hid ((below_two w _ _).trans (g1.below (B := w.heap.size) (by omega) (by simp; omega)))
    have hc := one_cell i1
    clear i1 g1
    go_wp2_with fail
    go_ret
    exact ⟨rfl, HB.out⟩

theorem Trm.count_ge (t : Tm) : 0 ≤ t.count ∧ t.count ≤ 65536 := by
  have hs := t.size_pos
  unfold Tm.count
  split
  · rename_i hm
    have hm' : 0 ≤ t.left badMay 65536 4096 := of_decide_eq_true (show decide (0 ≤ t.left badMay 65536 4096) = true from hm)
    have := t.left_size badMay _ _ hm'
    omega
  · omega
theorem Trm.may_count (t : Tm) : t.may = decide (0 < t.count) := by
  have hs := t.size_pos
  unfold Tm.count
  cases t.may <;> simp
  omega

set_option maxRecDepth 100000 in
theorem PMay_any (t : Tm) (h : Hd) (w : World) (hin : t.In w.heap.size w h) :
    Calls Try.prog 27 #[t.val h] w fun e w' => e = .returned (.bool t.may) ∧ Below w.heap.size w w' := by
  rw [may_count]
  have HX := Lib.hid (PSize_any t h (w.alloc (t.box h)) (Tm.In.mono (by simp) _ _ (Tm.In.below (below_one w (t.box h)) _ _ hin)))
  have hL := count_ge t
  generalize t.count = X at HX hL ⊢
  clear hin
  unfold Tm.box at HX
  unfold Tm.val at HX ⊢
  dsimp only [Tm.vals] at HX ⊢
  go_enter Try.func27, Try.ntmps27
  go_wp2_with fail
  refine HX.out.mono ?_
  rintro e w1 ⟨rfl, b1⟩
  have HB := Lib.hid ((below_one w _).trans (b1.mono (by simp)))
  clear b1
  go_wp2_with fail
  go_ret
  exact ⟨ret_bool rfl, HB.out⟩
end Go.Proofs.Ytjicdmohnfcflaa


namespace Go.Proofs.Ytjicdmohnfcflaa
open Go.RowKit Go.Shelf Lvl Trm

namespace Trm
mutual
/-- The numbers of the free variables, with u binders around. -/
def Tm.vs : Tm → Int → List Int
  | .mk k n _ _ ts, u => (if k = 2 ∧ u ≤ n then [n - u] else []) ++ vsL k ts 0 u
def vsL (k : Int) : List Tm → Nat → Int → List Int
  | [], _, _ => []
  | t :: r, i, u => t.vs (under k i u) ++ vsL k r (i + 1) (under k i u)
end
def seeFree (n : Int) (t : Tm) (_d u : Int) : Int × Bool := if t.k = 2 ∧ u ≤ t.n then (max n (t.n - u + 1), true) else (n, true)
def seeHas (k : Int) (h : Bool) (t : Tm) (_d u : Int) : Bool × Bool := if t.k = 2 ∧ u ≤ t.n then (t.n - u == k, !(t.n - u == k)) else (h, true)

mutual
theorem Tm.walk_free : ∀ (t : Tm) (n d u : Int), t.walk seeFree n d u = ((t.vs u).foldl (fun n v => max n (v + 1)) n, true)
  | .mk k m s ls ts, n, d, u => by
    rw [Tm.walk, Tm.vs, List.foldl_append]
    by_cases h : k = 2 ∧ u ≤ m
    · have hs : seeFree n (.mk k m s ls ts) d u = (max n (m - u + 1), true) := if_pos h
      rw [hs, if_pos rfl, if_pos h, walkL_free]; rfl
    · have hs : seeFree n (.mk k m s ls ts) d u = (n, true) := if_neg h
      rw [hs, if_pos rfl, if_neg h, walkL_free]; rfl
theorem walkL_free (k : Int) : ∀ (ts : List Tm) (i : Nat) (n d u : Int), walkL seeFree k ts i n d u = ((vsL k ts i u).foldl (fun n v => max n (v + 1)) n, true)
  | [], i, n, d, u => by rw [walkL, vsL]; rfl
  | t :: r, i, n, d, u => by rw [walkL, vsL, List.foldl_append, Tm.walk_free, if_pos rfl, walkL_free]
end
mutual
theorem Tm.walk_has (q : Int) : ∀ (t : Tm) (d u : Int), t.walk (seeHas q) false d u = ((t.vs u).any (· == q), !(t.vs u).any (· == q))
  | .mk k m s ls ts, d, u => by
    rw [Tm.walk, Tm.vs, List.any_append]
    by_cases h : k = 2 ∧ u ≤ m
    · have hs : seeHas q false (.mk k m s ls ts) d u = (m - u == q, !(m - u == q)) := if_pos h
      rw [hs, if_pos h]
      cases hq : m - u == q
      · rw [if_pos (by simp), walkL_has]; simp [hq]
      · rw [if_neg (by simp)]; simp [hq]
    · have hs : seeHas q false (.mk k m s ls ts) d u = (false, true) := if_neg h
      rw [hs, if_pos rfl, if_neg h, walkL_has]; simp
theorem walkL_has (q : Int) (k : Int) : ∀ (ts : List Tm) (i : Nat) (d u : Int), walkL (seeHas q) k ts i false d u = ((vsL k ts i u).any (· == q), !(vsL k ts i u).any (· == q))
  | [], i, d, u => by rw [walkL, vsL]; rfl
  | t :: r, i, d, u => by
    rw [walkL, vsL, List.any_append, Tm.walk_has]
    cases (t.vs (under k i u)).any (· == q)
    · rw [if_pos (by simp), walkL_has]; simp
    · rw [if_neg (by simp)]; simp
end
/-- So deep a term may be. -/
def OkMay (t : Tm) (d : Int) : Prop := 0 ≤ d ∧ ∃ l, 0 ≤ t.left badMay l (4097 - d)
theorem OkMay.start {t : Tm} (h : t.may = true) : OkMay t 1 := ⟨by omega, 65536, of_decide_eq_true (show decide (0 ≤ t.left badMay 65536 4096) = true from h)⟩
theorem leftL_mem (bad : Tm → Bool) : ∀ (ts : List Tm) (l d : Int), 0 ≤ leftL bad ts l d → ∀ x ∈ ts, ∃ l', 0 ≤ x.left bad l' d
  | [], _, _, _, x, hx => by cases hx
  | t :: r, l, d, h, x, hx => by
    rw [leftL] at h
    split at h
    · omega
    · rcases List.mem_cons.1 hx with rfl | hr
      · exact ⟨l, by omega⟩
      · exact leftL_mem bad r _ d h x hr
theorem OkMay.node {t : Tm} {d : Int} (h : OkMay t d) : t.node = true ∧ d ≤ 4096 := by
  obtain ⟨_, l, hl⟩ := h
  rw [Tm.left_eq] at hl
  split at hl
  · omega
  · rename_i hc
    refine ⟨?_, by omega⟩
    cases hn : t.node
    · exact absurd (Or.inr (Or.inr (by simp [badMay, hn]))) hc
    · rfl
theorem OkMay.down {t : Tm} {d : Int} (h : OkMay t d) : ∀ x ∈ t.ts, OkMay x (d + 1) := fun x hx => by
  obtain ⟨h0, l, hl⟩ := h
  rw [Tm.left_eq] at hl
  split at hl
  · omega
  · obtain ⟨l', hl'⟩ := leftL_mem badMay _ _ _ hl x hx
    exact ⟨by omega, l', by rwa [show 4097 - (d + 1) = 4097 - d - 1 by omega]⟩
theorem node_num {t : Tm} (h : t.node = true) : 0 ≤ t.n ∧ t.n ≤ 1048576 := by
  unfold Tm.node at h
  simp only [Bool.and_eq_true] at h
  obtain ⟨⟨_, h⟩, _⟩ := h
  split at h
  · simpa using h
  · split at h
    · simp at h; omega
    · simp at h; omega
end Trm

end Go.Proofs.Ytjicdmohnfcflaa


namespace Go.Proofs.Ytjicdmohnfcflaa
open Lvl
namespace Trm

/-- What a leaf becomes: the state, the error, another term (none: it stays). -/
abbrev Lf (σ : Type) := σ → Tm → Int → σ × Int × Option Tm

/-- The binders around a term of a kind: the last one is bound in. -/
def und (k : Int) (last : Bool) (u : Int) : Int := if binds k = true ∧ last = true then u + 1 else u

/-- What comes of a node of whose terms some have been gone through, c: whether one of them is another one. -/
def fin {σ : Type} (k n : Int) (s : ByteArray) (c : Bool) (dn : List Tm) (z : σ × Int × Bool × List Tm) : σ × Int × Option Tm :=
  (z.1, z.2.1, if z.2.1 = 0 ∧ (c || z.2.2.1) = true then some (.mk k n s [] (dn ++ z.2.2.2)) else none)

mutual
def Tm.thr {σ : Type} (lf : Lf σ) : Tm → σ → Int → σ × Int × Option Tm
  | .mk k n s ls ts, st, u => if ts.isEmpty = true then lf st (.mk k n s ls ts) u else fin k n s false [] (thrL lf k ts st u)
def thrL {σ : Type} (lf : Lf σ) (k : Int) : List Tm → σ → Int → σ × Int × Bool × List Tm
  | [], st, _ => (st, 0, false, [])
  | t :: r, st, u =>
    if (t.thr lf st (und k r.isEmpty u)).2.1 = 0 then
      ((thrL lf k r (t.thr lf st (und k r.isEmpty u)).1 (und k r.isEmpty u)).1, (thrL lf k r (t.thr lf st (und k r.isEmpty u)).1 (und k r.isEmpty u)).2.1,
        (t.thr lf st (und k r.isEmpty u)).2.2.isSome || (thrL lf k r (t.thr lf st (und k r.isEmpty u)).1 (und k r.isEmpty u)).2.2.1,
        (t.thr lf st (und k r.isEmpty u)).2.2.getD t :: (thrL lf k r (t.thr lf st (und k r.isEmpty u)).1 (und k r.isEmpty u)).2.2.2)
    else ((t.thr lf st (und k r.isEmpty u)).1, (t.thr lf st (und k r.isEmpty u)).2.1, false, [])
end
theorem Tm.thr_leaf {σ : Type} (lf : Lf σ) {t : Tm} (h : t.ts = []) (st : σ) (u : Int) : t.thr lf st u = lf st t u := by
  cases t with
  | mk k n s ls ts =>
    have h' : ts = [] := h
    subst h'
    rw [Tm.thr]; rfl
theorem Tm.thr_node {σ : Type} (lf : Lf σ) {t : Tm} (h : t.ts ≠ []) (st : σ) (u : Int) : t.thr lf st u = fin t.k t.n t.s false [] (thrL lf t.k t.ts st u) := by
  cases t with
  | mk k n s ls ts =>
    have h' : ts ≠ [] := h
    rw [Tm.thr, if_neg (by simpa using h')]; rfl

theorem fin_bad {σ : Type} (lf : Lf σ) {k n : Int} {s : ByteArray} {c : Bool} {dn : List Tm} {t : Tm} {r : List Tm} {st : σ} {u : Int} {Y : σ × Int × Option Tm} (hY : t.thr lf st (und k r.isEmpty u) = Y) (he : Y.2.1 ≠ 0) :
    fin k n s c dn (thrL lf k (t :: r) st u) = (Y.1, Y.2.1, none) := by
  rw [thrL, hY, if_neg he]
  simp [fin, he]
theorem fin_ok {σ : Type} (lf : Lf σ) {k n : Int} {s : ByteArray} {c : Bool} {dn : List Tm} {t : Tm} {r : List Tm} {st : σ} {u : Int} {Y : σ × Int × Option Tm} (hY : t.thr lf st (und k r.isEmpty u) = Y) (he : Y.2.1 = 0) :
    fin k n s c dn (thrL lf k (t :: r) st u) = fin k n s (c || Y.2.2.isSome) (dn ++ [Y.2.2.getD t]) (thrL lf k r Y.1 (und k r.isEmpty u)) := by
  rw [thrL, hY, if_pos he]
  simp [fin, Bool.or_assoc]
theorem fin_nil {σ : Type} (lf : Lf σ) {k n : Int} {s : ByteArray} {c : Bool} {dn : List Tm} {st : σ} {u : Int} :
    fin k n s c dn (thrL lf k [] st u) = (st, 0, if c = true then some (.mk k n s [] dn) else none) := by
  rw [thrL]
  simp [fin]

theorem node_few {t : Tm} (h : t.node = true) : (t.ts.length : Int) = kids t.k ∧ t.ts.length ≤ 3 ∧ 1 ≤ t.k ∧ t.k ≤ 8 := by
  unfold Tm.node at h
  simp only [Bool.and_eq_true, decide_eq_true_eq] at h
  obtain ⟨⟨⟨⟨⟨h0, h1⟩, _⟩, _⟩, _⟩, _⟩ := h
  refine ⟨h1, ?_, ?_, ?_⟩ <;>
  · unfold kids at h0 h1
    repeat' split at h0
    all_goals (first | omega | (simp_all; done) | (simp_all; omega))
theorem node_inner {t : Tm} (h : t.node = true) (hts : t.ts ≠ []) : t.ls = [] := by
  have hf := node_few h
  have hl : t.ts.length ≠ 0 := fun h0 => hts (List.eq_nil_of_length_eq_zero h0)
  have h1 := hf.1
  unfold Tm.node at h
  simp only [Bool.and_eq_true] at h
  obtain ⟨_, h6⟩ := h
  have hk : t.k ≠ 1 ∧ t.k ≠ 3 := by
    refine ⟨?_, ?_⟩ <;>
    · intro hk
      rw [hk] at h1
      simp [kids] at h1
      exact hts h1
  rw [if_neg hk.1, if_neg hk.2] at h6
  exact List.eq_nil_of_length_eq_zero (of_decide_eq_true h6)

mutual
theorem Tm.thr_good {σ : Type} {lf : Lf σ} {Good : σ → Prop} (hg : ∀ st t u, Good st → t.node = true → t.ts = [] → (lf st t u).2.1 = 0 → Good (lf st t u).1) :
    ∀ (t : Tm) (st : σ) (d u : Int), OkMay t d → Good st → (t.thr lf st u).2.1 = 0 → Good (t.thr lf st u).1
  | .mk k n s ls ts, st, d, u, ho, g, h => by
    rw [Tm.thr] at h ⊢
    split at h
    · rename_i hs
      rw [if_pos hs]
      exact hg st _ u g ho.node.1 (show ts = [] by simpa using hs) h
    · rename_i hs
      rw [if_neg hs]
      exact thrL_good hg k ts st (d + 1) u (fun x hx => ho.down x hx) g h
theorem thrL_good {σ : Type} {lf : Lf σ} {Good : σ → Prop} (hg : ∀ st t u, Good st → t.node = true → t.ts = [] → (lf st t u).2.1 = 0 → Good (lf st t u).1) (k : Int) :
    ∀ (ts : List Tm) (st : σ) (d u : Int), (∀ x ∈ ts, OkMay x d) → Good st → (thrL lf k ts st u).2.1 = 0 → Good (thrL lf k ts st u).1
  | [], st, d, u, _, g, _ => by rw [thrL]; exact g
  | t :: r, st, d, u, ho, g, h => by
    rw [thrL] at h ⊢
    split at h
    · rename_i he
      rw [if_pos he]
      exact thrL_good hg k r _ d _ (fun x hx => ho x (by simp [hx])) (Tm.thr_good hg t st d _ (ho t (by simp)) g he) h
    · rename_i he
      exact absurd h he
end
theorem Tm.thr_kind {σ : Type} {lf : Lf σ} (hk : ∀ st t u y, t.node = true → t.ts = [] → (lf st t u).2.2 = some y → y.k ≠ 0) {t : Tm} {st : σ} {d u : Int} (ho : OkMay t d) {y : Tm} (h : (t.thr lf st u).2.2 = some y) : y.k ≠ 0 := by
  by_cases hts : t.ts = []
  · rw [Tm.thr_leaf lf hts] at h
    exact hk st t u y ho.node.1 hts h
  · rw [Tm.thr_node lf hts] at h
    have := (node_few ho.node.1).2.2
    unfold fin at h
    dsimp only at h
    split at h
    · cases h
      show t.k ≠ 0
      omega
    · cases h
end Trm
end Go.Proofs.Ytjicdmohnfcflaa


namespace Go.Proofs.Ytjicdmohnfcflaa
open Go.RowKit Go.Shelf Lvl Trm

/-- A term is answered, and lies there. -/
def Trm.Made (t : Tm) (w : World) (e : Ending) (w' : World) : Prop := ∃ h, e = .returned (t.val h) ∧ t.In w'.heap.size w' h ∧ Below w.heap.size w w'

/-- A term lies there whatever is written into block m. -/
def Trm.Firm (m : Nat) (w : World) (t : Tm) (h : Hd) : Prop := ∀ w', Ran m w w' → t.In w'.heap.size w' h
theorem Trm.Firm.here {m : Nat} {w : World} {t : Tm} {h : Hd} (g : Firm m w t h) : t.In w.heap.size w h := g w (Ran.refl _ _)
theorem Trm.Firm.step {m : Nat} {w w1 : World} {t : Tm} {h : Hd} (g : Firm m w t h) (r : Ran m w w1) : Firm m w1 t h := fun w' hr => g w' (r.trans hr)
theorem Trm.Firm.of {m B : Nat} {w : World} {t : Tm} {h : Hd} (g : t.In B w h) (hm : B ≤ m) (hB : B ≤ w.heap.size) : Firm m w t h := fun w' hr => Tm.In.mono (by have := hr.size; omega) _ _ (Tm.In.below (hr.below hm hB) _ _ g)
/-- As Made; and where its parts lie whatever is written into block m, it does. -/
def Trm.MadeS (t : Tm) (w : World) (C : Nat → Prop) (e : Ending) (w' : World) : Prop := ∃ h, e = .returned (t.val h) ∧ t.In w'.heap.size w' h ∧ Below w.heap.size w w' ∧ ∀ m, m < w.heap.size → C m → Firm m w' t h

def Trm.no : ByteArray := ⟨#[]⟩
def Trm.tS : Tm := .mk 1 0 no [number 0] []
def Trm.tV (n : Int) : Tm := .mk 2 n no [] []
def Trm.tC (s : ByteArray) : Tm := .mk 3 0 s [] []
/-- A kind of two terms: App, Lam, Pi. -/
def Trm.t2 (k : Int) (f x : Tm) : Tm := .mk k 0 no [] [f, x]

theorem Trm.five_cells {w : World} {b : Nat} {v0 v1 v2 v3 v4 : Value} {ty : TypeId} {fr : Nat × Nat} (h : w.heap[b]? = some (.cells #[v0, v1, v2, v3, v4] ty fr)) :
    w.cell? ⟨b, 0, none⟩ = some v0 ∧ w.cell? ⟨b, 1, none⟩ = some v1 ∧ w.cell? ⟨b, 2, none⟩ = some v2 ∧ w.cell? ⟨b, 3, none⟩ = some v3 ∧ w.cell? ⟨b, 4, none⟩ = some v4 := by
  refine ⟨?_, ?_, ?_, ?_, ?_⟩ <;> (simp [World.cell?, h])
theorem Trm.five_free {w : World} {b : Nat} {v0 v1 v2 v3 v4 : Value} {ty : TypeId} (h : w.heap[b]? = some (.cells #[v0, v1, v2, v3, v4] ty)) :
    w.frozen? ⟨b, 0, none⟩ = false ∧ w.frozen? ⟨b, 1, none⟩ = false ∧ w.frozen? ⟨b, 2, none⟩ = false ∧ w.frozen? ⟨b, 3, none⟩ = false ∧ w.frozen? ⟨b, 4, none⟩ = false := by
  refine ⟨?_, ?_, ?_, ?_, ?_⟩ <;> (simp [World.frozen?, h])
/-- Five stores into the first cells of a block. -/
def Trm.putT (w : World) (b : Nat) (v0 v1 v2 v3 v4 : Value) : World := ((((w.setCell ⟨b, 0, none⟩ v0).setCell ⟨b, 1, none⟩ v1).setCell ⟨b, 2, none⟩ v2).setCell ⟨b, 3, none⟩ v3).setCell ⟨b, 4, none⟩ v4
theorem Trm.putT_self {w : World} {b : Nat} {u0 u1 u2 u3 u4 : Value} {ty : TypeId} {fr : Nat × Nat} (h : w.heap[b]? = some (.cells #[u0, u1, u2, u3, u4] ty fr)) (v0 v1 v2 v3 v4 : Value) : (putT w b v0 v1 v2 v3 v4).heap[b]? = some (.cells #[v0, v1, v2, v3, v4] ty fr) := by
  simp [putT, World.setCell, Array.getElem?_modify, h]
theorem Trm.putT_other {w : World} {k : Nat} {o : Obj} (h : w.heap[k]? = some o) (v0 v1 v2 v3 v4 : Value) {b : Nat} (hb : b ≠ k) : (putT w b v0 v1 v2 v3 v4).heap[k]? = some o :=
  cells_other (cells_other (cells_other (cells_other (cells_other h _ hb) _ hb) _ hb) _ hb) _ hb
theorem Trm.putT_below {w W : World} (h : Below w.heap.size w W) {B : Nat} (hB : w.heap.size ≤ B) (v0 v1 v2 v3 v4 : Value) : Below w.heap.size w (putT W B v0 v1 v2 v3 v4) := below_all h hB _ _ _ _ _
theorem Trm.putT_size (w : World) (b : Nat) (v0 v1 v2 v3 v4 : Value) : (putT w b v0 v1 v2 v3 v4).heap.size = w.heap.size := by simp [putT, World.setCell]

theorem Trm.t2_in {B : Nat} {w : World} {k : Int} {f x : Tm} {hf hx : Hd} {g : Nat} {ty : TypeId} {fr : Nat × Nat} (hk0 : 0 ≤ k) (hk1 : k ≤ 255) (hg : w.heap[g]? = some (.cells (f.vals hf ++ x.vals hx) ty fr)) (hB : g < B) (h1 : f.In B w hf) (h2 : x.In B w hx) :
    (t2 k f x).In B w ⟨none, 0, some ⟨g, 0, none⟩, 2⟩ := by
  refine Tm.In_iff.2 ⟨⟨hk0, hk1, by simp [t2, Tm.n], by simp [t2, Tm.n], by simp [t2, Tm.s, no, ByteArray.size], by simp [t2, Tm.ls], by simp [t2, Tm.ts]⟩, ⟨fun k hk => by simp [t2, Tm.ls] at hk⟩, fun hn => by simp [t2, Tm.ls] at hn, ?_⟩
  refine RowIn.mk fun i hi => ?_
  have hi2 : i = 0 ∨ i = 1 := by simp [t2, Tm.ts] at hi; omega
  rcases hi2 with rfl | rfl
  · refine ⟨g, 0, rfl, hB, hf, ⟨?_, ?_, ?_, ?_, ?_⟩, h1⟩ <;> (simp [World.cell?, hg, Tm.vals, t2, Tm.ts])
  · refine ⟨g, 0, rfl, hB, hx, ⟨?_, ?_, ?_, ?_, ?_⟩, h2⟩ <;> (simp [World.cell?, hg, Tm.vals, t2, Tm.ts])
theorem Trm.leaf_in {B : Nat} {w : World} {k n : Int} {s : ByteArray} {lc tc : Nat} (hk0 : 0 ≤ k) (hk1 : k ≤ 255) (hn0 : -9223372036854775808 ≤ n) (hn1 : n ≤ 9223372036854775807) (hs : s.size ≤ 9223372036854775807) : (Tm.mk k n s [] []).In B w ⟨none, lc, none, tc⟩ :=
  Tm.In_iff.2 ⟨⟨hk0, hk1, hn0, hn1, hs, by simp [Tm.ls], by simp [Tm.ts]⟩, ⟨fun k hk => by simp [Tm.ls] at hk⟩, fun hn => by simp [Tm.ls] at hn, RowIn.mk fun i hi => by simp [Tm.ts] at hi⟩

theorem Trm.below_four (w : World) (o1 o2 o3 o4 : Obj) : Below w.heap.size w ((((w.alloc o1).alloc o2).alloc o3).alloc o4) :=
  ((((Below.refl _ _).alloc (Nat.le_refl _) _).alloc (by simp) _).alloc (by simp; omega) _).alloc (by simp; omega) _

theorem Trm.tS_in {B : Nat} {w : World} {g : Nat} {fr : Nat × Nat} {ty : TypeId} (hg : w.heap[g]? = some (.cells #[.int .i64 0, .int .i64 (-1), .int .i64 (-1), .int .i64 (-1), .int .i64 (-1)] ty fr)) (hB : g < B) :
    tS.In B w ⟨some ⟨g, 0, none⟩, 1, none, 0⟩ := by
  refine Tm.In_iff.2 ⟨⟨by simp [tS, Tm.k], by simp [tS, Tm.k], by simp [tS, Tm.n], by simp [tS, Tm.n], by simp [tS, Tm.s, no, ByteArray.size], by simp [tS, Tm.ls], by simp [tS, Tm.ts]⟩, ⟨fun k hk => ?_⟩, fun _ a ha => by cases ha; exact hB, RowIn.mk fun i hi => by simp [tS, Tm.ts] at hi⟩
  have hk0 : k = 0 := by simp [tS, Tm.ls] at hk; omega
  subst hk0
  refine ⟨g, 0, rfl, ?_, ?_, ?_, ?_, ?_⟩ <;> (simp [World.cell?, hg, tS, Tm.ls, number])

end Go.Proofs.Ytjicdmohnfcflaa


namespace Go.Proofs.Ytjicdmohnfcflaa
open Go.RowKit Go.Shelf Lvl Trm

theorem Trm.RowIn.below {B : Nat} {w w1 : World} {ao : Option Addr} {ts : List Tm} (h : RowIn B w ao 0 ts) (g : Below B w w1) : RowIn B w1 ao 0 ts :=
  RowIn.mk fun k hk => by
    obtain ⟨b, off, hao, hat⟩ := h.place k hk
    exact ⟨b, off, hao, hat.below g⟩
theorem Trm.RowIn.mono {B B' : Nat} {w : World} {ao : Option Addr} {ts : List Tm} (h : RowIn B w ao 0 ts) (hB : B ≤ B') : RowIn B' w ao 0 ts :=
  RowIn.mk fun k hk => by
    obtain ⟨b, off, hao, hat⟩ := h.place k hk
    exact ⟨b, off, hao, hat.mono hB⟩
theorem Trm.carryRow {w w' : World} {ao : Option Addr} {ts : List Tm} (h : RowIn w.heap.size w ao 0 ts) (b : Below w.heap.size w w') : RowIn w'.heap.size w' ao 0 ts := (h.below b).mono b.size

/-- w' is w with new blocks, and perhaps other things in the blocks of P. -/
structure Trm.RanS (P : Nat → Prop) (w w' : World) : Prop where
  os : w'.os = w.os
  tape : w'.tape = w.tape
  output : w'.output = w.output
  size : w.heap.size ≤ w'.heap.size
  block : ∀ k, k < w.heap.size → ¬ P k → w'.heap[k]? = w.heap[k]?
theorem Trm.RanS.refl (P : Nat → Prop) (w : World) : RanS P w w := ⟨rfl, rfl, rfl, Nat.le_refl _, fun _ _ _ => rfl⟩
theorem Trm.RanS.trans {P : Nat → Prop} {a b c : World} (h : RanS P a b) (k : RanS P b c) : RanS P a c :=
  ⟨k.os.trans h.os, k.tape.trans h.tape, k.output.trans h.output, Nat.le_trans h.size k.size, fun i hi hm => (k.block i (Nat.lt_of_lt_of_le hi h.size) hm).trans (h.block i hi hm)⟩
theorem Trm.RanS.of_below {P : Nat → Prop} {w w' : World} (h : Below w.heap.size w w') : RanS P w w' := ⟨h.os, h.tape, h.output, h.size, fun k hk _ => h.block k hk⟩
theorem Trm.RanS.of_ran {P : Nat → Prop} {m : Nat} {w w' : World} (h : Ran m w w') (hm : P m) : RanS P w w' := ⟨h.os, h.tape, h.output, h.size, fun k hk hn => h.block k hk (fun e => hn (e ▸ hm))⟩
theorem Trm.RanS.below {P : Nat → Prop} {B : Nat} {w w' : World} (h : RanS P w w') (hm : ∀ k, P k → B ≤ k) (hB : B ≤ w.heap.size) : Below B w w' :=
  ⟨h.os, h.tape, h.output, h.size, fun k hk => h.block k (by omega) (fun hp => by have := hm k hp; omega)⟩
theorem Trm.RanS.keep {P : Nat → Prop} {w w' : World} (h : RanS P w w') {k : Nat} {o : Obj} (hk : w.heap[k]? = some o) (hm : ¬ P k) : w'.heap[k]? = some o := by
  rw [h.block k (Array.getElem?_eq_some_iff.1 hk).1 hm]; exact hk
/-- A term lies there whatever is written into the blocks of P. -/
def Trm.FirmS (P : Nat → Prop) (w : World) (t : Tm) (h : Hd) : Prop := ∀ w', RanS P w w' → t.In w'.heap.size w' h
theorem Trm.FirmS.here {P : Nat → Prop} {w : World} {t : Tm} {h : Hd} (g : FirmS P w t h) : t.In w.heap.size w h := g w (RanS.refl _ _)
theorem Trm.FirmS.step {P : Nat → Prop} {w w1 : World} {t : Tm} {h : Hd} (g : FirmS P w t h) (r : RanS P w w1) : FirmS P w1 t h := fun w' hr => g w' (r.trans hr)
theorem Trm.FirmS.of {P : Nat → Prop} {B : Nat} {w : World} {t : Tm} {h : Hd} (g : t.In B w h) (hm : ∀ k, P k → B ≤ k) (hB : B ≤ w.heap.size) : FirmS P w t h := fun w' hr => Tm.In.mono (by have := hr.size; omega) _ _ (Tm.In.below (hr.below hm hB) _ _ g)
/-- Two terms, applied: in a new row g. -/
theorem Trm.FirmS.t2 {P : Nat → Prop} {w : World} {k : Int} {f x : Tm} {hf hx : Hd} {g : Nat} {ty : TypeId} {fr : Nat × Nat} (hk0 : 0 ≤ k) (hk1 : k ≤ 255) (hg : w.heap[g]? = some (.cells (f.vals hf ++ x.vals hx) ty fr)) (hn : ¬ P g) (h1 : FirmS P w f hf) (h2 : FirmS P w x hx) :
    FirmS P w (t2 k f x) ⟨none, 0, some ⟨g, 0, none⟩, 2⟩ := fun w' hr => t2_in hk0 hk1 (hr.keep hg hn) (by have := (Array.getElem?_eq_some_iff.1 hg).1; have := hr.size; omega) (h1 w' hr) (h2 w' hr)

/-- As Made; and where its parts lie whatever is written into old blocks, it does. -/
def Trm.MadeP (t : Tm) (w : World) (C : (Nat → Prop) → Prop) (e : Ending) (w' : World) : Prop := ∃ h, e = .returned (t.val h) ∧ Below w.heap.size w w' ∧ ∀ P : Nat → Prop, (∀ k, P k → k < w.heap.size) → C P → FirmS P w' t h

end Go.Proofs.Ytjicdmohnfcflaa


namespace Go.Proofs.Ytjicdmohnfcflaa
open Go.RowKit Go.Shelf Lvl Trm

/-- A block of terms: those of its first places. -/
structure Trm.TBlock (w : World) (g S : Nat) (ps : List (Tm × Hd)) : Prop where
  ex : ∃ cur : Array Value, w.heap[g]? = some (.cells cur 26 (0, 0)) ∧ cur.size = S ∧ ps.length * 5 ≤ S ∧ ∀ k (hk : k < ps.length) q, q < 5 → cur[k * 5 + q]? = (ps[k].1.vals ps[k].2)[q]?

def Trm.putO (w : World) (b o : Nat) (v0 v1 v2 v3 v4 : Value) : World := ((((w.setCell ⟨b, o, none⟩ v0).setCell ⟨b, o + 1, none⟩ v1).setCell ⟨b, o + 2, none⟩ v2).setCell ⟨b, o + 3, none⟩ v3).setCell ⟨b, o + 4, none⟩ v4

theorem Trm.TBlock.cells {w : World} {g S : Nat} {ps : List (Tm × Hd)} (h : TBlock w g S ps) (k : Nat) (hk : k < ps.length) : TCells w g (k * 5) ps[k].1 ps[k].2 := by
  obtain ⟨cur, hg, _, _, hc⟩ := h
  have h0 := hc k hk 0 (by omega)
  have h1 := hc k hk 1 (by omega)
  have h2 := hc k hk 2 (by omega)
  have h3 := hc k hk 3 (by omega)
  have h4 := hc k hk 4 (by omega)
  refine ⟨?_, ?_, ?_, ?_, ?_⟩ <;> (simp only [World.cell?, hg]; simp [Tm.vals] at h0 h1 h2 h3 h4 ⊢; assumption)
theorem Trm.TBlock.free {w : World} {g S : Nat} {ps : List (Tm × Hd)} (h : TBlock w g S ps) (o : Nat) : w.frozen? ⟨g, o, none⟩ = false := by
  obtain ⟨cur, hg, _⟩ := h
  simp [World.frozen?, hg]
theorem Trm.TBlock.lt {w : World} {g S : Nat} {ps : List (Tm × Hd)} (h : TBlock w g S ps) : g < w.heap.size := by
  obtain ⟨cur, hg, _⟩ := h
  exact (Array.getElem?_eq_some_iff.1 hg).1
def Trm.five (cur : Array Value) (o : Nat) (v0 v1 v2 v3 v4 : Value) : Array Value := ((((cur.setIfInBounds o v0).setIfInBounds (o + 1) v1).setIfInBounds (o + 2) v2).setIfInBounds (o + 3) v3).setIfInBounds (o + 4) v4
theorem Trm.five_size (cur : Array Value) (o : Nat) (v0 v1 v2 v3 v4 : Value) : (five cur o v0 v1 v2 v3 v4).size = cur.size := by simp [five]
theorem Trm.five_far (cur : Array Value) (o : Nat) (v0 v1 v2 v3 v4 : Value) (x : Nat) (h : x < o ∨ o + 4 < x) : (five cur o v0 v1 v2 v3 v4)[x]? = cur[x]? := by
  unfold five
  simp only [Array.getElem?_setIfInBounds]
  rw [if_neg (by omega), if_neg (by omega), if_neg (by omega), if_neg (by omega), if_neg (by omega)]
theorem Trm.five_at (cur : Array Value) (o : Nat) (v0 v1 v2 v3 v4 : Value) (h : o + 4 < cur.size) :
    (five cur o v0 v1 v2 v3 v4)[o]? = some v0 ∧ (five cur o v0 v1 v2 v3 v4)[o + 1]? = some v1 ∧ (five cur o v0 v1 v2 v3 v4)[o + 2]? = some v2 ∧ (five cur o v0 v1 v2 v3 v4)[o + 3]? = some v3 ∧ (five cur o v0 v1 v2 v3 v4)[o + 4]? = some v4 := by
  unfold five
  simp only [Array.getElem?_setIfInBounds, Array.size_setIfInBounds]
  refine ⟨?_, ?_, ?_, ?_, ?_⟩
  · rw [if_neg (by omega), if_neg (by omega), if_neg (by omega), if_neg (by omega), if_pos trivial, if_pos (by omega)]
  · rw [if_neg (by omega), if_neg (by omega), if_neg (by omega), if_pos trivial, if_pos (by omega)]
  · rw [if_neg (by omega), if_neg (by omega), if_pos trivial, if_pos (by omega)]
  · rw [if_neg (by omega), if_pos trivial, if_pos (by omega)]
  · rw [if_pos trivial, if_pos (by omega)]
theorem Trm.TBlock.put {w : World} {g S : Nat} {ps : List (Tm × Hd)} (h : TBlock w g S ps) (i : Nat) (hi : i < ps.length) (p : Tm × Hd) :
    TBlock (putO w g (i * 5) (.int .u8 p.1.k) (.int .i64 p.1.n) (.string p.1.s) (.slice p.2.lo p.1.ls.length p.2.lc) (.slice p.2.to p.1.ts.length p.2.tc)) g S (ps.set i p) := by
  obtain ⟨cur, hg, hs, hl, hc⟩ := h
  refine ⟨five cur (i * 5) (.int .u8 p.1.k) (.int .i64 p.1.n) (.string p.1.s) (.slice p.2.lo p.1.ls.length p.2.lc) (.slice p.2.to p.1.ts.length p.2.tc), ?_, ?_, ?_, ?_⟩
  · simp [putO, five, World.setCell, Array.getElem?_modify, hg]
  · rw [five_size, hs]
  · simpa using hl
  · intro k hk q hq
    simp only [List.length_set] at hk
    by_cases hki : i = k
    · subst hki
      rw [List.getElem_set_self]
      obtain ⟨f0, f1, f2, f3, f4⟩ := five_at cur (i * 5) (.int .u8 p.1.k) (.int .i64 p.1.n) (.string p.1.s) (.slice p.2.lo p.1.ls.length p.2.lc) (.slice p.2.to p.1.ts.length p.2.tc) (by omega)
      have h5 : q = 0 ∨ q = 1 ∨ q = 2 ∨ q = 3 ∨ q = 4 := by omega
      rcases h5 with rfl | rfl | rfl | rfl | rfl
      · exact f0
      · exact f1
      · exact f2
      · exact f3
      · exact f4
    · rw [five_far _ _ _ _ _ _ _ _ (by omega), List.getElem_set_ne hki]
      exact hc k hk q hq
theorem Trm.Ran.set (w : World) (g o : Nat) (v : Value) : Ran g w (w.setCell ⟨g, o, none⟩ v) := ⟨rfl, rfl, rfl, by simp [World.setCell], fun k _ hk => Below.heap_setCell _ _ _ _ hk⟩
theorem Trm.putO_ran (w : World) (g o : Nat) (v0 v1 v2 v3 v4 : Value) : Ran g w (putO w g o v0 v1 v2 v3 v4) :=
  ((((Ran.set w g o v0).trans (Ran.set _ g (o + 1) v1)).trans (Ran.set _ g (o + 2) v2)).trans (Ran.set _ g (o + 3) v3)).trans (Ran.set _ g (o + 4) v4)

theorem Trm.TBlock.drew {w : World} {g S : Nat} {ps : List (Tm × Hd)} (h : TBlock w g S ps) : TBlock w.drew g S ps := by
  obtain ⟨cur, h⟩ := h
  exact ⟨⟨cur, h⟩⟩
theorem Trm.RevStep.mk {ps cur : List (Tm × Hd)} {a b : Nat} (han : a < ps.length) (hbn : b < ps.length) (hb : b = ps.length - 1 - a) (hlt : 2 * a + 1 < ps.length)
    (h : ∀ k (h1 : k < cur.length) (h2 : k < ps.length) (h3 : ps.length - 1 - k < ps.length), (k < a ∨ ps.length ≤ k + a → cur[k] = ps[ps.length - 1 - k]) ∧ (¬ (k < a ∨ ps.length ≤ k + a) → cur[k] = ps[k])) :
    ∀ k (h1 : k < ((cur.set a ps[b]).set b ps[a]).length) (h2 : k < ps.length) (h3 : ps.length - 1 - k < ps.length), (k < a + 1 ∨ ps.length ≤ k + (a + 1) → ((cur.set a ps[b]).set b ps[a])[k] = ps[ps.length - 1 - k]) ∧ (¬ (k < a + 1 ∨ ps.length ≤ k + (a + 1)) → ((cur.set a ps[b]).set b ps[a])[k] = ps[k]) := by
  intro k h1 h2 h3
  simp only [List.length_set] at h1
  rw [List.getElem_set]
  split
  · rename_i e
    subst e
    refine ⟨fun _ => ?_, fun hn => by omega⟩
    congr 1
    omega
  · rw [List.getElem_set]
    split
    · rename_i e
      subst e
      refine ⟨fun _ => ?_, fun hn => by omega⟩
      subst hb
      rfl
    · have := h k h1 h2 h3
      exact ⟨fun hk => this.1 (by omega), fun hk => this.2 (by omega)⟩
def Trm.RevRel (w : World) (g S n : Nat) (i j : Value) (ps : List (Tm × Hd)) (wr : World) : Prop :=
  ∃ (a : Nat) (cur : List (Tm × Hd)), i = .int .i64 a ∧ j = .int .i64 ((n : Int) - 1 - a) ∧ 2 * a ≤ n + 1 ∧ cur.length = n ∧ (∀ k (h1 : k < cur.length) (h2 : k < ps.length) (h3 : n - 1 - k < ps.length), (k < a ∨ n ≤ k + a → cur[k] = ps[n - 1 - k]) ∧ (¬ (k < a ∨ n ≤ k + a) → cur[k] = ps[k])) ∧ TBlock wr g S cur ∧ Ran g w wr

end Go.Proofs.Ytjicdmohnfcflaa


namespace Go.Proofs.Ytjicdmohnfcflaa
open Go.RowKit Go.Shelf Lvl Trm

/-- A term, applied. -/
def Trm.appl (f : Tm) (l : List Tm) : Tm := l.foldl (fun f x => t2 4 f x) f
theorem Trm.appl_cons (f x : Tm) (l : List Tm) : appl f (x :: l) = appl (t2 4 f x) l := rfl

theorem Trm.node_app {t : Tm} (h : t.node = true) (hk : t.k = 4) : ∃ f x, t = t2 4 f x := by
  unfold Tm.node at h
  simp only [hk, Bool.and_eq_true, decide_eq_true_eq] at h
  obtain ⟨⟨⟨⟨⟨_, hl⟩, _⟩, hs⟩, hn⟩, hv⟩ := h
  simp [kids] at hl hs hn hv
  obtain ⟨k, n, s, ls, ts⟩ := t
  simp only [Tm.k, Tm.ts, Tm.s, Tm.n, Tm.ls] at hk hl hs hn hv
  obtain ⟨f, x, rfl⟩ : ∃ f x, ts = [f, x] := by
    match ts, hl with
    | [f, x], _ => exact ⟨f, x, rfl⟩
    | [], hl => simp at hl
    | [_], hl => simp at hl
    | _ :: _ :: _ :: _, hl => simp at hl; omega
  refine ⟨f, x, ?_⟩
  subst hk hn hv
  have hs' : s = no := by
    first
      | exact hs
      | (cases s with
         | mk d => simp [ByteArray.size] at hs; subst hs; rfl)
  rw [hs']; rfl

theorem Trm.infoT : (Try.prog.info? 26).map (fun i => (i.zero, i.size, i.bytes)) = some (some (.agg #[.int .u8 0, .int .i64 0, .string ⟨#[]⟩, .slice none 0 0, .slice none 0 0]), 5, 80) := by kernel_rfl

def Trm.flat (ps : List (Tm × Hd)) : List Value := ps.flatMap fun p => (p.1.vals p.2).toList
theorem Trm.flat_len (ps : List (Tm × Hd)) : (flat ps).length = ps.length * 5 := by
  induction ps with
  | nil => rfl
  | cons p r ih => simp only [flat, List.flatMap_cons, List.length_append, List.length_cons] at ih ⊢; rw [ih]; simp [Tm.vals]; omega
theorem Trm.flat_at (ps : List (Tm × Hd)) : ∀ k (hk : k < ps.length) q, q < 5 → (flat ps)[k * 5 + q]? = (ps[k].1.vals ps[k].2)[q]? := by
  induction ps with
  | nil => intro k hk; simp at hk
  | cons p r ih =>
    intro k hk q hq
    have h5 : (p.1.vals p.2).toList.length = 5 := by simp [Tm.vals]
    match k, hk with
    | 0, _ =>
      show ((p.1.vals p.2).toList ++ flat r)[0 * 5 + q]? = _
      rw [List.getElem?_append_left (by omega)]
      simp
    | k + 1, hk =>
      show ((p.1.vals p.2).toList ++ flat r)[(k + 1) * 5 + q]? = _
      rw [List.getElem?_append_right (by omega), h5, show (k + 1) * 5 + q - 5 = k * 5 + q by omega]
      exact ih k (by simpa using hk) q hq
theorem Trm.flat_snoc (ps : List (Tm × Hd)) (p : Tm × Hd) : flat (ps ++ [p]) = flat ps ++ (p.1.vals p.2).toList := by simp [flat]

/-- A row of the call's own is a block of terms. -/
theorem Trm.block_of_own {w : World} {base g n cap : Nat} {ps : List (Tm × Hd)} (h : w.ownsRow base 26 5 (.slice (some ⟨g, 0, none⟩) n cap) ps.length (flat ps)) : base ≤ g ∧ n = ps.length ∧ TBlock w g (cap * 5) ps := by
  obtain ⟨hl, h | ⟨g', cap', cur, he, hb, hg, hn, hm, hs, ht⟩⟩ := h
  · cases h.1
  · cases he
    refine ⟨hb, rfl, ⟨cur, hg, hs, by omega, fun k hk q hq => ?_⟩⟩
    rw [← flat_at ps k hk q hq, ← ht, List.getElem?_take_of_lt (by omega), Array.getElem?_toList]

theorem Trm.below_own {w w' : World} {base : Nat} {e size n : Nat} {v : Value} {xs : List Value} (h : w.ownsRow base e size v n xs) (hg : w.grownBy w' v.ownBlock) (hb : base ≤ w.heap.size) : Below base w w' := by
  refine Below.grown (Below.refl _ _) hg hb fun k hk => ?_
  obtain ⟨_, h | ⟨g, cap, cur, rfl, hb2, _⟩⟩ := h
  · rw [h.1] at hk; simp [Value.ownBlock] at hk
  · simp [Value.ownBlock] at hk; omega
theorem Trm.TBlock.ran {m : Nat} {w w' : World} {g S : Nat} {ps : List (Tm × Hd)} (h : TBlock w g S ps) (hr : Ran m w w') (hm : g ≠ m) : TBlock w' g S ps := by
  have hl := h.lt
  obtain ⟨cur, hg, h2⟩ := h
  exact ⟨cur, by rw [hr.block g hl hm]; exact hg, h2⟩
theorem Trm.TBlock.row {B : Nat} {w : World} {g S : Nat} {ps : List (Tm × Hd)} (h : TBlock w g S ps) (hg : g < B) (hi : ∀ p ∈ ps, p.1.In B w p.2) : RowIn B w (some ⟨g, 0, none⟩) 0 (ps.map (·.1)) := by
  refine RowIn.mk fun k hk => ?_
  have hk' : k < ps.length := by simpa using hk
  have hc := h.cells k hk'
  refine ⟨g, 0, rfl, hg, ps[k].2, ?_, ?_⟩
  · rw [List.getElem_map]; simpa using hc
  · rw [List.getElem_map]; exact hi _ (List.getElem_mem hk')
theorem Trm.own_put {w : World} {base e size n : Nat} {v : Value} {xs : List Value} (h : w.ownsRow base e size v n xs) {b : Nat} (hb : b < base) (v0 v1 v2 v3 v4 : Value) : (putT w b v0 v1 v2 v3 v4).ownsRow base e size v n xs :=
  ownsRow_setCell_below (ownsRow_setCell_below (ownsRow_setCell_below (ownsRow_setCell_below (ownsRow_setCell_below h (a := ⟨b, 0, none⟩) hb _) (a := ⟨b, 1, none⟩) hb _) (a := ⟨b, 2, none⟩) hb _) (a := ⟨b, 3, none⟩) hb _) (a := ⟨b, 4, none⟩) hb _
theorem Trm.putT_ran (w : World) (g : Nat) (v0 v1 v2 v3 v4 : Value) : Ran g w (putT w g v0 v1 v2 v3 v4) :=
  ((((Ran.set w g 0 v0).trans (Ran.set _ g 1 v1)).trans (Ran.set _ g 2 v2)).trans (Ran.set _ g 3 v3)).trans (Ran.set _ g 4 v4)

/-- What Spine answers of a term that may be. -/
def Trm.Spined (t : Tm) (w : World) (e : Ending) (w' : World) : Prop :=
  ∃ g hg m ao cap, e = .returned (.tuple #[g.val hg, .slice ao m.length cap]) ∧ t = appl g m ∧ g.k ≠ 4 ∧ g.In w'.heap.size w' hg ∧ RowIn w'.heap.size w' ao 0 m ∧ m.length ≤ 65536 ∧ Below w.heap.size w w'

def Trm.SpRel (w : World) (t : Tm) (gk : Nat) (v : Value) (wr : World) : Prop :=
  ∃ (c : Tm) (hc : Hd) (ps : List (Tm × Hd)) (d : Int), gk = c.size.toNat ∧ Below w.heap.size w wr ∧ wr.heap[w.heap.size]? = some (c.box hc) ∧ wr.heap[w.heap.size + 1]? = some (.cells #[.int .u8 0, .int .i64 0, .string ⟨#[]⟩, .slice none 0 0, .slice none 0 0] 26) ∧
    c.In w.heap.size wr hc ∧ (∀ p ∈ ps, p.1.In w.heap.size wr p.2) ∧ t = appl c (ps.reverse.map (·.1)) ∧ OkMay c d ∧ ps.length + c.size ≤ t.size ∧ wr.ownsRow (w.heap.size + 2) 26 5 v ps.length (flat ps)

theorem Trm.t2_size (f x : Tm) : (t2 4 f x).size = 1 + f.size + x.size := by
  unfold t2; rw [Tm.size, sizeL, sizeL, sizeL]; omega
theorem Trm.may_size {t : Tm} (h : t.may = true) : t.size ≤ 65536 := by
  have := count_ge t
  unfold Tm.count at this
  rw [if_pos h] at this
  omega

end Go.Proofs.Ytjicdmohnfcflaa


namespace Go.Proofs.Ytjicdmohnfcflaa
open Go.RowKit Go.Shelf Lvl Trm

namespace Trm
def zeroT : Tm := .mk 0 0 no [] []

theorem RanS.cell {P : Nat → Prop} {w w' : World} (h : RanS P w w') {p : Addr} (hp : p.block < w.heap.size) (hm : ¬ P p.block) : w'.cell? p = w.cell? p := World.cell?_of_block (h.block p.block hp hm)
theorem RanS.more {P : Nat → Prop} {w w' : World} (h : RanS P w w') (o : Obj) : RanS P w (w'.alloc o) := h.trans (RanS.of_below (below_one _ _))
theorem RanS.drewN {P : Nat → Prop} {w w' : World} (h : RanS P w w') (n : Nat) : RanS P w (w'.drewN n) := h.trans (RanS.of_below (by refine ⟨?_, ?_, ?_, ?_, ?_⟩ <;> simp [World.drewN]))
theorem RanS.wide {P Q : Nat → Prop} {w w' : World} (h : RanS P w w') (hpq : ∀ k, P k → Q k) : RanS Q w w' := ⟨h.os, h.tape, h.output, h.size, fun k hk hn => h.block k hk (fun hp => hn (hpq k hp))⟩
theorem RanS.put {P : Nat → Prop} {w w' : World} (h : RanS P w w') {b : Nat} (hb : w.heap.size ≤ b) (v0 v1 v2 v3 v4 : Value) : RanS P w (putT w' b v0 v1 v2 v3 v4) :=
  ⟨(putT_ran w' b v0 v1 v2 v3 v4).os.trans h.os, (putT_ran w' b v0 v1 v2 v3 v4).tape.trans h.tape, (putT_ran w' b v0 v1 v2 v3 v4).output.trans h.output, Nat.le_trans h.size (putT_ran w' b v0 v1 v2 v3 v4).size,
    fun k hk hn => ((putT_ran w' b v0 v1 v2 v3 v4).block k (Nat.lt_of_lt_of_le hk h.size) (by omega)).trans (h.block k hk hn)⟩
theorem RanS.putO {P : Nat → Prop} {w w' : World} (h : RanS P w w') {b : Nat} (hb : w.heap.size ≤ b) (o : Nat) (v0 v1 v2 v3 v4 : Value) : RanS P w (putO w' b o v0 v1 v2 v3 v4) :=
  ⟨(putO_ran w' b o v0 v1 v2 v3 v4).os.trans h.os, (putO_ran w' b o v0 v1 v2 v3 v4).tape.trans h.tape, (putO_ran w' b o v0 v1 v2 v3 v4).output.trans h.output, Nat.le_trans h.size (putO_ran w' b o v0 v1 v2 v3 v4).size,
    fun k hk hn => ((putO_ran w' b o v0 v1 v2 v3 v4).block k (Nat.lt_of_lt_of_le hk h.size) (by omega)).trans (h.block k hk hn)⟩
theorem FirmS.less {P Q : Nat → Prop} {w : World} {t : Tm} {h : Hd} (g : FirmS Q w t h) (hpq : ∀ k, k < w.heap.size → P k → Q k) : FirmS P w t h :=
  fun w' hr => g w' ⟨hr.os, hr.tape, hr.output, hr.size, fun k hk hn => hr.block k hk (fun hp => hn (hpq k hk hp))⟩
theorem TCells.ranS {P : Nat → Prop} {w w1 : World} {b o : Nat} {t : Tm} {h : Hd} (c : TCells w b o t h) (g : RanS P w w1) (hb : b < w.heap.size) (hm : ¬ P b) : TCells w1 b o t h :=
  ⟨(g.cell (p := ⟨b, _, none⟩) hb hm).trans c.c0, (g.cell (p := ⟨b, _, none⟩) hb hm).trans c.c1, (g.cell (p := ⟨b, _, none⟩) hb hm).trans c.c2, (g.cell (p := ⟨b, _, none⟩) hb hm).trans c.c3, (g.cell (p := ⟨b, _, none⟩) hb hm).trans c.c4⟩
theorem TBlock.ranS {P : Nat → Prop} {w w' : World} {g S : Nat} {ps : List (Tm × Hd)} (h : TBlock w g S ps) (hr : RanS P w w') (hm : ¬ P g) : TBlock w' g S ps := by
  have hl := h.lt
  obtain ⟨cur, hg, h2⟩ := h
  exact ⟨cur, by rw [hr.block g hl hm]; exact hg, h2⟩

/-- A term lies at an address outside of the blocks of P, its terms below B. -/
def SAt (B : Nat) (P : Nat → Prop) (w : World) (b o : Nat) (t : Tm) : Prop := ¬ P b ∧ b < w.heap.size ∧ ∃ h, TCells w b o t h ∧ t.In B w h
theorem TAt.sroot {B : Nat} {P : Nat → Prop} {w : World} {b o : Nat} {t : Tm} (h : TAt B w b o t) (hP : ∀ q, P q → B ≤ q) (hB : B ≤ w.heap.size) : SAt B P w b o t := by
  obtain ⟨hb, hd, hc, hi⟩ := h
  exact ⟨fun hp => by have := hP b hp; omega, by omega, hd, hc, hi⟩

/-- What comes of going through a term: the term that is answered lies there whatever is written into the blocks from B on that were there. -/
def ThrPost {σ : Type} (B : Nat) (P : Nat → Prop) (R : σ × Int × Option Tm) (Inv : σ → World → Prop) (w : World) : Ending → World → Prop := fun e w' =>
  ∃ h, e = .returned (.tuple #[(R.2.2.getD zeroT).val h, .int .i64 R.2.1]) ∧ FirmS (fun q => B ≤ q ∧ q < w.heap.size) w' (R.2.2.getD zeroT) h ∧ Inv R.1 w' ∧ RanS P w w'

theorem firm_zero {P : Nat → Prop} {w : World} {lc tc : Nat} : FirmS P w zeroT ⟨none, lc, none, tc⟩ := fun _ _ => leaf_in (by decide) (by decide) (by decide) (by decide) (by decide)

/-- What is asked of a function that sees each leaf. -/
structure Leaf {σ : Type} (B N : Nat) (P : Nat → Prop) (C : Nat) (f : FuncId) (lf : Lf σ) (Inv : σ → World → Prop) (Good : σ → Prop) : Prop where
  calls : ∀ st t b o u w, Good st → Inv st w → t.node = true → t.ts = [] → 0 ≤ u → u ≤ 4096 → SAt B P w b o t → B ≤ w.heap.size → N ≤ w.heap.size → (∀ q, P q → q < w.heap.size) →
    Calls Try.prog f #[.pointer (some ⟨b, o, none⟩), .int .i64 u, .pointer (some ⟨C, 0, none⟩)] w (ThrPost B P (lf st t u) Inv w)
  good : ∀ st t u, Good st → t.node = true → t.ts = [] → (lf st t u).2.1 = 0 → Good (lf st t u).1
  kind : ∀ st t u y, t.node = true → t.ts = [] → (lf st t u).2.2 = some y → y.k ≠ 0
  keep : ∀ st w w', Inv st w → Below N w w' → Inv st w'
  low : ∀ q, P q → B ≤ q
  enter : ∀ (args : Array Value) (w : World), Sem.run Try.prog (callFunc f args) w = .ok (.enter f args) w
end Trm

end Go.Proofs.Ytjicdmohnfcflaa

