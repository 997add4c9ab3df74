/-
  term.walk, Size, May.
-/
import Derived.Test.YtijdlihodpodjaaTrmWalk
import Derived.Test.YtijdlihodpodjaaTrmFits
import Derived.Test.YtijdlihodpodjaaTrmMay
import Derived.Laws.EntriesVeiled
namespace Go.Proofs.Ytijdlihodpodjaa
open Go.RowKit Go.Shelf Lvl Trm

set_option maxRecDepth 100000 in
set_option maxHeartbeats 1000000 in
theorem walk_any {σ : Type} {B m C : Nat} {f : FuncId} {see : σ → Tm → Int → Int → σ × Bool} {Inv : σ → World → Prop} {Ok : Tm → Int → Prop} {Good : σ → Prop} (S : Sees B m C f see Inv Ok Good) (t : Tm)
    (st : σ) (b o : Nat) (w : World) (hgood : Good st) (hinv : Inv st w) (hok : Ok t 1) (hat : RAt B m w b o t) (hB : B ≤ w.heap.size) (hm : m < w.heap.size) :
      Calls Try.prog 70 #[.pointer (some ⟨b, o, none⟩), fnv f C] w fun e w' => e = .returned (.bool (t.walk see st 1 0).2) ∧ Inv (t.walk see st 1 0).1 w' ∧ Ran m w w' := by
  have HV := Lib.hid (fun (W : World) (h1 : Below w.heap.size w W) (h2 : W.heap[w.heap.size]? = some (.cells #[fnv f C] 86)) (h3 : W.heap[w.heap.size + 1]? = some (.cells #[.func (.func 111) #[] #[.pointer (some ⟨w.heap.size, 0, none⟩), .pointer (some ⟨w.heap.size + 1, 0, none⟩)]] 86)) =>
    visit_any (Bs := w.heap.size) (Bv := w.heap.size + 1) S (by omega) (by omega) t st b o 1 0 W hgood (S.keep _ _ _ hinv h1) hok (by omega) (by omega) (hat.ran (Ran.of_below h1) S.low hB) (by have := h1.size; omega) (by have := h1.size; omega) h2 h3)
  generalize t.walk see st 1 0 = R at HV ⊢
  clear hinv hok hat S hgood
  go_enter Try.func70, Try.ntmps70
  go_wp2_with fail
  refine (HV.out _ ?h1 ?h2 ?h3).mono ?_
  case h1 => exact below_two _ _ _
  case h2 => exact new1of2 _ _ _
  case h3 => exact new2 _ _ _
  rintro e w1 ⟨rfl, i1, g1⟩
  have HI := Lib.hid i1
  have HR := Lib.hid ((Ran.of_below (below_two w _ _)).trans g1)
  clear i1 g1
  go_wp2_with fail
  go_ret
  exact ⟨rfl, HI.out, HR.out⟩

/-- What Size asks of each node: it counts. -/
def Trm.seeSize (n : Int) (t : Tm) (d _u : Int) : Int × Bool := (n + 1, decide (n + 1 ≤ 65536) && decide (d ≤ 4096) && t.node)

set_option maxRecDepth 100000 in
set_option maxHeartbeats 2000000 in
theorem size1_any (t : Tm) (n d u : Int) (b o m : Nat) (w : World) (hn0 : 0 ≤ n) (hn1 : n ≤ 65536) (hm : w.heap[m]? = some (.cells #[.int .i64 n] 3)) (hat : RAt m m w b o t) :
    Calls Try.prog 71 #[.pointer (some ⟨b, o, none⟩), .int .i64 d, .int .i64 u, .pointer (some ⟨m, 0, none⟩)] w fun e w' => e = .returned (.bool (seeSize n t d u).2) ∧ w'.heap[m]? = some (.cells #[.int .i64 (n + 1)] 3) ∧ Ran m w w' := by
  have hc := one_cell hm
  have hfr : w.frozen? ⟨m, 0, none⟩ = false := by simp [World.frozen?, hm]
  have hM : (w.setCell ⟨m, 0, none⟩ (.int .i64 (n + 1))).heap[m]? = some (.cells #[.int .i64 (n + 1)] 3) := by simp [World.setCell, Array.getElem?_modify, hm]
  have hR : Ran m w (w.setCell ⟨m, 0, none⟩ (.int .i64 (n + 1))) := ⟨rfl, rfl, rfl, by simp [World.setCell], fun k _ hk => Below.heap_setCell _ _ _ _ hk⟩
  have hlt := (Array.getElem?_eq_some_iff.1 hm).1
  have HA : Hid (TAt (w.setCell ⟨m, 0, none⟩ (.int .i64 (n + 1))).heap.size (w.setCell ⟨m, 0, none⟩ (.int .i64 (n + 1))) b o t) := Lib.hid (by
    obtain ⟨_, hb1, hd1, hc1, hi1⟩ := hat.ran hR (Nat.le_refl m) (by omega)
    exact ⟨hb1, hd1, hc1, Tm.In.mono (by simp [World.setCell]; omega) _ _ hi1⟩)
  have HM := Lib.hid hM
  have HR := Lib.hid hR
  unfold seeSize
  clear hM hR hat hm
  by_cases h1 : n + 1 ≤ 65536
  · by_cases h2 : d ≤ 4096
    · simp only [decide_eq_true h1, decide_eq_true h2, Bool.true_and]
      have HF := Lib.hid (fits_any t b o _ HA.out)
      generalize t.node = r at HF ⊢
      clear HA
      go_enter Try.func71, Try.ntmps71
      go_wp2_with fail
      refine HF.out.mono ?_
      rintro e w1 ⟨rfl, b1⟩
      have HM1 := Lib.hid (Lvl.keep b1 HM.out)
      have HR1 := Lib.hid (HR.out.trans (Ran.of_below b1))
      clear b1
      go_wp2_with fail
      go_ret
      exact ⟨rfl, HM1.out, HR1.out⟩
    · simp only [decide_eq_true h1, decide_eq_false h2, Bool.true_and, Bool.false_and]
      go_enter Try.func71, Try.ntmps71
      go_wp2_with fail
      go_ret
      exact ⟨rfl, HM.out, HR.out⟩
  · simp only [decide_eq_false h1, Bool.false_and]
    go_enter Try.func71, Try.ntmps71
    go_wp2_with fail
    go_ret
    exact ⟨rfl, HM.out, HR.out⟩

theorem Trm.sees_size {B m : Nat} (h : B ≤ m) : Sees B m m 71 seeSize (fun n w => w.heap[m]? = some (.cells #[.int .i64 n] 3)) (fun _ d => 0 ≤ d ∧ d ≤ 4097) (fun n => 0 ≤ n ∧ n ≤ 65536) where
  calls st t b o d u w hg hi ho hu0 hud hat hB := size1_any t st d u b o m w hg.1 hg.2 hi (by obtain ⟨h1, h2, h3, h4, h5⟩ := hat; exact ⟨h1, h2, h3, h4, Tm.In.mono h _ _ h5⟩)
  good st t d u hg ho hr := by
    simp only [seeSize, Bool.and_eq_true, decide_eq_true_eq] at hr ⊢
    omega
  bound t d ho := by omega
  down st t d u ho hr x hx := by
    simp only [seeSize, Bool.and_eq_true, decide_eq_true_eq] at hr
    omega
  keep st w w' hi hb := Lvl.keep hb hi
  low := h
  enter args w := by kernel_rfl

mutual
/-- The walk that counts says how many nodes are left. -/
theorem Trm.size_left : ∀ (t : Tm) (n d u : Int), ((t.walk seeSize n d u).2 = true → 0 ≤ t.left badMay (65536 - n) (4097 - d) ∧ (t.walk seeSize n d u).1 = 65536 - t.left badMay (65536 - n) (4097 - d)) ∧ ((t.walk seeSize n d u).2 = false → t.left badMay (65536 - n) (4097 - d) = -1)
  | .mk k m s ls ts, n, d, u => by
    rw [Tm.walk, Tm.left]
    by_cases h1 : n + 1 ≤ 65536
    · by_cases h2 : d ≤ 4096
      · cases h3 : (Tm.mk k m s ls ts).node
        · have hs : (seeSize n (.mk k m s ls ts) d u).2 = false := by simp [seeSize, h3]
          rw [hs, if_neg (by simp)]
          rw [if_pos (Or.inr (Or.inr (by simp [badMay, h3])))]
          simp
        · have hs : (seeSize n (.mk k m s ls ts) d u) = (n + 1, true) := by simp [seeSize, h1, h2, h3]
          rw [hs, if_pos rfl, if_neg (by rintro (h | h | h) <;> first | omega | (simp [badMay, h3] at h))]
          have := Trm.sizeL_left k ts 0 (n + 1) (d + 1) u (by omega)
          rwa [show 65536 - (n + 1) = 65536 - n - 1 by omega, show 4097 - (d + 1) = 4097 - d - 1 by omega] at this
      · have hs : (seeSize n (.mk k m s ls ts) d u).2 = false := by simp [seeSize, h2]
        rw [hs, if_neg (by simp), if_pos (Or.inr (Or.inl (by omega)))]
        simp
    · have hs : (seeSize n (.mk k m s ls ts) d u).2 = false := by simp [seeSize, h1]
      rw [hs, if_neg (by simp), if_pos (Or.inl (by omega))]
      simp
theorem Trm.sizeL_left (k : Int) : ∀ (ts : List Tm) (i : Nat) (n d u : Int), n ≤ 65536 → ((walkL seeSize k ts i n d u).2 = true → 0 ≤ leftL badMay ts (65536 - n) (4097 - d) ∧ (walkL seeSize k ts i n d u).1 = 65536 - leftL badMay ts (65536 - n) (4097 - d)) ∧ ((walkL seeSize k ts i n d u).2 = false → leftL badMay ts (65536 - n) (4097 - d) = -1)
  | [], i, n, d, u, hn => by
    rw [walkL, leftL]
    refine ⟨fun _ => ⟨by omega, by omega⟩, fun h => by simp at h⟩
  | t :: r, i, n, d, u, hn => by
    rw [walkL, leftL]
    have h := Trm.size_left t n d (under k i u)
    generalize t.walk seeSize n d (under k i u) = W at h
    obtain ⟨n1, ok⟩ := W
    dsimp only at h ⊢
    cases ok
    · rw [if_neg (by simp), if_pos (by have := h.2 rfl; omega)]
      simp
    · have h1 := h.1 rfl
      rw [if_pos rfl, if_neg (by omega)]
      have := Trm.sizeL_left k r (i + 1) n1 d (under k i u) (by omega)
      rwa [show t.left badMay (65536 - n) (4097 - d) = 65536 - n1 by omega]
end

/-- How many nodes a term that may be has; of no other one any. -/
def Trm.Tm.count (t : Tm) : Int := if t.may = true then t.size else 0
theorem Trm.may_walk (t : Tm) : t.may = (t.walk seeSize 0 1 0).2 := by
  have h := size_left t 0 1 0
  have e : t.may = decide (0 ≤ t.left badMay 65536 4096) := rfl
  rw [e]
  cases hw : (t.walk seeSize 0 1 0).2
  · have := h.2 hw
    simp at this
    simp [this]
  · have := (h.1 hw).1
    simpa using this
theorem Trm.count_walk (t : Tm) : t.count = if (t.walk seeSize 0 1 0).2 = true then (t.walk seeSize 0 1 0).1 else 0 := by
  have h := size_left t 0 1 0
  unfold Tm.count
  rw [may_walk]
  cases hw : (t.walk seeSize 0 1 0).2
  · simp
  · rw [if_pos rfl, if_pos rfl]
    obtain ⟨h1, h2⟩ := h.1 hw
    have := t.left_size badMay _ _ h1
    omega

theorem Trm.Tm.In.atBox {t : Tm} {h : Hd} {w : World} (hin : t.In w.heap.size w h) : TAt (w.heap.size + 1) (w.alloc (t.box h)) w.heap.size 0 t :=
  ⟨by omega, h, Tm.cells (World.alloc_heap_new w (t.box h)), Tm.In.mono (by omega) _ _ (Tm.In.below (below_one w (t.box h)) _ _ hin)⟩

set_option maxRecDepth 100000 in
set_option maxHeartbeats 1000000 in
theorem PSize_any (t : Tm) (h : Hd) (w : World) (hin : t.In w.heap.size w h) :
    Calls Try.prog 19 #[t.val h] w fun e w' => e = .returned (.int .i64 t.count) ∧ Below w.heap.size w w' := by
  rw [count_walk]
  have HW := Lib.hid (walk_any (sees_size (B := w.heap.size + 1) (m := w.heap.size + 1) (Nat.le_refl _)) t 0 w.heap.size 0 ((w.alloc (t.box h)).alloc (.cells #[.int .i64 0] 3)) (by omega) (new2 _ _ _) (by omega)
    (((Tm.In.atBox hin).below (Below.mono (below_one (w.alloc (t.box h)) _) (by simp))).root (Nat.le_refl _) (by simp)) (by simp) (by simp))
  generalize t.walk seeSize 0 1 0 = R at HW ⊢
  obtain ⟨n, r⟩ := R
  dsimp only at HW ⊢
  clear hin
  unfold Tm.box at HW
  unfold Tm.val
  dsimp only [Tm.vals] at HW ⊢
  cases r
  · rw [if_neg (by simp)]
    go_enter Try.func19, Try.ntmps19
    go_wp2_with fail
    refine HW.out.mono ?_
    rintro e w1 ⟨rfl, i1, g1⟩
    have HB := Lib.hid ((below_two w _ _).trans (g1.below (B := w.heap.size) (by omega) (by simp; omega)))
    clear i1 g1
    go_wp2_with fail
    go_ret
    exact ⟨rfl, HB.out⟩
  · rw [if_pos rfl]
    go_enter Try.func19, Try.ntmps19
    go_wp2_with fail
    refine HW.out.mono ?_
    rintro e w1 ⟨rfl, i1, g1⟩
    have HB := Lib.hid ((below_two w _ _).trans (g1.below (B := w.heap.size) (by omega) (by simp; omega)))
    have hc := one_cell i1
    clear i1 g1
    go_wp2_with fail
    go_ret
    exact ⟨rfl, HB.out⟩

theorem Trm.count_ge (t : Tm) : 0 ≤ t.count ∧ t.count ≤ 65536 := by
  have hs := t.size_pos
  unfold Tm.count
  split
  · rename_i hm
    have hm' : 0 ≤ t.left badMay 65536 4096 := of_decide_eq_true (show decide (0 ≤ t.left badMay 65536 4096) = true from hm)
    have := t.left_size badMay _ _ hm'
    omega
  · omega
theorem Trm.may_count (t : Tm) : t.may = decide (0 < t.count) := by
  have hs := t.size_pos
  unfold Tm.count
  cases t.may <;> simp
  omega

set_option maxRecDepth 100000 in
theorem PMay_any (t : Tm) (h : Hd) (w : World) (hin : t.In w.heap.size w h) :
    Calls Try.prog 14 #[t.val h] w fun e w' => e = .returned (.bool t.may) ∧ Below w.heap.size w w' := by
  rw [may_count]
  have HX := Lib.hid (PSize_any t h (w.alloc (t.box h)) (Tm.In.mono (by simp) _ _ (Tm.In.below (below_one w (t.box h)) _ _ hin)))
  have hL := count_ge t
  generalize t.count = X at HX hL ⊢
  clear hin
  unfold Tm.box at HX
  unfold Tm.val at HX ⊢
  dsimp only [Tm.vals] at HX ⊢
  go_enter Try.func14, Try.ntmps14
  go_wp2_with fail
  refine HX.out.mono ?_
  rintro e w1 ⟨rfl, b1⟩
  have HB := Lib.hid ((below_one w _).trans (b1.mono (by simp)))
  clear b1
  go_wp2_with fail
  go_ret
  exact ⟨ret_bool rfl, HB.out⟩
end Go.Proofs.Ytijdlihodpodjaa
