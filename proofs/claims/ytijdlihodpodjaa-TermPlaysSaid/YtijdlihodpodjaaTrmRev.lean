/-
  slices.Reverse of terms.
-/
import Derived.Test.YtijdlihodpodjaaTrmMake
import Derived.Test.YtijdlihodpodjaaTrmWalk
import Derived.Deep.LoopGhost
namespace Go.Proofs.Ytijdlihodpodjaa
open Go.RowKit Go.Shelf Lvl Trm

/-- A block of terms: those of its first places. -/
structure Trm.TBlock (w : World) (g S : Nat) (ps : List (Tm × Hd)) : Prop where
  ex : ∃ cur : Array Value, w.heap[g]? = some (.cells cur 25 (0, 0)) ∧ cur.size = S ∧ ps.length * 5 ≤ S ∧ ∀ k (hk : k < ps.length) q, q < 5 → cur[k * 5 + q]? = (ps[k].1.vals ps[k].2)[q]?

def Trm.putO (w : World) (b o : Nat) (v0 v1 v2 v3 v4 : Value) : World := ((((w.setCell ⟨b, o, none⟩ v0).setCell ⟨b, o + 1, none⟩ v1).setCell ⟨b, o + 2, none⟩ v2).setCell ⟨b, o + 3, none⟩ v3).setCell ⟨b, o + 4, none⟩ v4

theorem Trm.TBlock.cells {w : World} {g S : Nat} {ps : List (Tm × Hd)} (h : TBlock w g S ps) (k : Nat) (hk : k < ps.length) : TCells w g (k * 5) ps[k].1 ps[k].2 := by
  obtain ⟨cur, hg, _, _, hc⟩ := h
  have h0 := hc k hk 0 (by omega)
  have h1 := hc k hk 1 (by omega)
  have h2 := hc k hk 2 (by omega)
  have h3 := hc k hk 3 (by omega)
  have h4 := hc k hk 4 (by omega)
  refine ⟨?_, ?_, ?_, ?_, ?_⟩ <;> (simp only [World.cell?, hg]; simp [Tm.vals] at h0 h1 h2 h3 h4 ⊢; assumption)
theorem Trm.TBlock.free {w : World} {g S : Nat} {ps : List (Tm × Hd)} (h : TBlock w g S ps) (o : Nat) : w.frozen? ⟨g, o, none⟩ = false := by
  obtain ⟨cur, hg, _⟩ := h
  simp [World.frozen?, hg]
theorem Trm.TBlock.lt {w : World} {g S : Nat} {ps : List (Tm × Hd)} (h : TBlock w g S ps) : g < w.heap.size := by
  obtain ⟨cur, hg, _⟩ := h
  exact (Array.getElem?_eq_some_iff.1 hg).1
def Trm.five (cur : Array Value) (o : Nat) (v0 v1 v2 v3 v4 : Value) : Array Value := ((((cur.setIfInBounds o v0).setIfInBounds (o + 1) v1).setIfInBounds (o + 2) v2).setIfInBounds (o + 3) v3).setIfInBounds (o + 4) v4
theorem Trm.five_size (cur : Array Value) (o : Nat) (v0 v1 v2 v3 v4 : Value) : (five cur o v0 v1 v2 v3 v4).size = cur.size := by simp [five]
theorem Trm.five_far (cur : Array Value) (o : Nat) (v0 v1 v2 v3 v4 : Value) (x : Nat) (h : x < o ∨ o + 4 < x) : (five cur o v0 v1 v2 v3 v4)[x]? = cur[x]? := by
  unfold five
  simp only [Array.getElem?_setIfInBounds]
  rw [if_neg (by omega), if_neg (by omega), if_neg (by omega), if_neg (by omega), if_neg (by omega)]
theorem Trm.five_at (cur : Array Value) (o : Nat) (v0 v1 v2 v3 v4 : Value) (h : o + 4 < cur.size) :
    (five cur o v0 v1 v2 v3 v4)[o]? = some v0 ∧ (five cur o v0 v1 v2 v3 v4)[o + 1]? = some v1 ∧ (five cur o v0 v1 v2 v3 v4)[o + 2]? = some v2 ∧ (five cur o v0 v1 v2 v3 v4)[o + 3]? = some v3 ∧ (five cur o v0 v1 v2 v3 v4)[o + 4]? = some v4 := by
  unfold five
  simp only [Array.getElem?_setIfInBounds, Array.size_setIfInBounds]
  refine ⟨?_, ?_, ?_, ?_, ?_⟩
  · rw [if_neg (by omega), if_neg (by omega), if_neg (by omega), if_neg (by omega), if_pos trivial, if_pos (by omega)]
  · rw [if_neg (by omega), if_neg (by omega), if_neg (by omega), if_pos trivial, if_pos (by omega)]
  · rw [if_neg (by omega), if_neg (by omega), if_pos trivial, if_pos (by omega)]
  · rw [if_neg (by omega), if_pos trivial, if_pos (by omega)]
  · rw [if_pos trivial, if_pos (by omega)]
theorem Trm.TBlock.put {w : World} {g S : Nat} {ps : List (Tm × Hd)} (h : TBlock w g S ps) (i : Nat) (hi : i < ps.length) (p : Tm × Hd) :
    TBlock (putO w g (i * 5) (.int .u8 p.1.k) (.int .i64 p.1.n) (.string p.1.s) (.slice p.2.lo p.1.ls.length p.2.lc) (.slice p.2.to p.1.ts.length p.2.tc)) g S (ps.set i p) := by
  obtain ⟨cur, hg, hs, hl, hc⟩ := h
  refine ⟨five cur (i * 5) (.int .u8 p.1.k) (.int .i64 p.1.n) (.string p.1.s) (.slice p.2.lo p.1.ls.length p.2.lc) (.slice p.2.to p.1.ts.length p.2.tc), ?_, ?_, ?_, ?_⟩
  · simp [putO, five, World.setCell, Array.getElem?_modify, hg]
  · rw [five_size, hs]
  · simpa using hl
  · intro k hk q hq
    simp only [List.length_set] at hk
    by_cases hki : i = k
    · subst hki
      rw [List.getElem_set_self]
      obtain ⟨f0, f1, f2, f3, f4⟩ := five_at cur (i * 5) (.int .u8 p.1.k) (.int .i64 p.1.n) (.string p.1.s) (.slice p.2.lo p.1.ls.length p.2.lc) (.slice p.2.to p.1.ts.length p.2.tc) (by omega)
      have h5 : q = 0 ∨ q = 1 ∨ q = 2 ∨ q = 3 ∨ q = 4 := by omega
      rcases h5 with rfl | rfl | rfl | rfl | rfl
      · exact f0
      · exact f1
      · exact f2
      · exact f3
      · exact f4
    · rw [five_far _ _ _ _ _ _ _ _ (by omega), List.getElem_set_ne hki]
      exact hc k hk q hq
theorem Trm.Ran.set (w : World) (g o : Nat) (v : Value) : Ran g w (w.setCell ⟨g, o, none⟩ v) := ⟨rfl, rfl, rfl, by simp [World.setCell], fun k _ hk => Below.heap_setCell _ _ _ _ hk⟩
theorem Trm.putO_ran (w : World) (g o : Nat) (v0 v1 v2 v3 v4 : Value) : Ran g w (putO w g o v0 v1 v2 v3 v4) :=
  ((((Ran.set w g o v0).trans (Ran.set _ g (o + 1) v1)).trans (Ran.set _ g (o + 2) v2)).trans (Ran.set _ g (o + 3) v3)).trans (Ran.set _ g (o + 4) v4)

theorem Trm.TBlock.drew {w : World} {g S : Nat} {ps : List (Tm × Hd)} (h : TBlock w g S ps) : TBlock w.drew g S ps := by
  obtain ⟨cur, h⟩ := h
  exact ⟨⟨cur, h⟩⟩
theorem Trm.RevStep.mk {ps cur : List (Tm × Hd)} {a b : Nat} (han : a < ps.length) (hbn : b < ps.length) (hb : b = ps.length - 1 - a) (hlt : 2 * a + 1 < ps.length)
    (h : ∀ k (h1 : k < cur.length) (h2 : k < ps.length) (h3 : ps.length - 1 - k < ps.length), (k < a ∨ ps.length ≤ k + a → cur[k] = ps[ps.length - 1 - k]) ∧ (¬ (k < a ∨ ps.length ≤ k + a) → cur[k] = ps[k])) :
    ∀ k (h1 : k < ((cur.set a ps[b]).set b ps[a]).length) (h2 : k < ps.length) (h3 : ps.length - 1 - k < ps.length), (k < a + 1 ∨ ps.length ≤ k + (a + 1) → ((cur.set a ps[b]).set b ps[a])[k] = ps[ps.length - 1 - k]) ∧ (¬ (k < a + 1 ∨ ps.length ≤ k + (a + 1)) → ((cur.set a ps[b]).set b ps[a])[k] = ps[k]) := by
  intro k h1 h2 h3
  simp only [List.length_set] at h1
  rw [List.getElem_set]
  split
  · rename_i e
    subst e
    refine ⟨fun _ => ?_, fun hn => by omega⟩
    congr 1
    omega
  · rw [List.getElem_set]
    split
    · rename_i e
      subst e
      refine ⟨fun _ => ?_, fun hn => by omega⟩
      subst hb
      rfl
    · have := h k h1 h2 h3
      exact ⟨fun hk => this.1 (by omega), fun hk => this.2 (by omega)⟩
def Trm.RevRel (w : World) (g S n : Nat) (i j : Value) (ps : List (Tm × Hd)) (wr : World) : Prop :=
  ∃ (a : Nat) (cur : List (Tm × Hd)), i = .int .i64 a ∧ j = .int .i64 ((n : Int) - 1 - a) ∧ 2 * a ≤ n + 1 ∧ cur.length = n ∧ (∀ k (h1 : k < cur.length) (h2 : k < ps.length) (h3 : n - 1 - k < ps.length), (k < a ∨ n ≤ k + a → cur[k] = ps[n - 1 - k]) ∧ (¬ (k < a ∨ n ≤ k + a) → cur[k] = ps[k])) ∧ TBlock wr g S cur ∧ Ran g w wr

set_option maxRecDepth 100000 in
set_option maxHeartbeats 4000000 in
theorem Reverse_any (g S cap : Nat) (ps : List (Tm × Hd)) (w : World) (hb : TBlock w g S ps) (hn : ps.length ≤ 1000000000) :
    Calls Try.prog 109 #[.slice (some ⟨g, 0, none⟩) ps.length cap] w fun e w' => e = .returned (.tuple #[]) ∧ TBlock w' g S ps.reverse ∧ Ran g w w' := by
  have HB := Lib.hid hb
  clear hb
  go_enter Try.func109, Try.ntmps109
  go_wp2_with fail
  go_loopw [2, 3] (fun i j wr => RevRel w g S ps.length i j ps wr) (fun i _ _ => ps.length - (intOf i).toNat)
  case atStart => exact ⟨0, ps, rfl, by simp, by omega, rfl, fun k h1 h2 h3 => ⟨fun h => by omega, fun _ => rfl⟩, HB.out, Ran.refl _ _⟩
  case round =>
    obtain ⟨a, cur, rfl, rfl, ha, hcl, hcur, htb, hran⟩ := hrel
    have HT := Lib.hid htb
    have HR := Lib.hid hran
    have HCU := Lib.hid hcur
    have HCL := Lib.hid hcl
    by_cases hlt : 2 * a + 1 < ps.length
    · obtain ⟨b, hb⟩ : ∃ b : Nat, b = ps.length - 1 - a := ⟨_, rfl⟩
      have hab : a < b := by omega
      have hj : (ps.length : Int) - 1 - a = (b : Int) := by omega
      rw [hj]
      have hai : a < cur.length := by omega
      have haj : b < cur.length := by omega
      obtain ⟨c0, c1, c2, c3, c4⟩ := htb.cells a hai
      obtain ⟨d0, d1, d2, d3, d4⟩ := htb.cells b haj
      have hfr := fun o => htb.free o
      have HJ := Lib.hid hj
      have HBB := Lib.hid hb
      have hbn : b < ps.length := by omega
      have han : a < ps.length := by omega
      have hlt2 := htb.lt
      have hxa : cur[a] = ps[a] := (hcur a hai han (by omega)).2 (by omega)
      have hyb : cur[b] = ps[b] := (hcur b haj hbn (by omega)).2 (by omega)
      rw [hxa] at c0 c1 c2 c3 c4
      rw [hyb] at d0 d1 d2 d3 d4
      have HP := Lib.hid ((htb.put a hai ps[b]).put b (by simpa using haj) ps[a])
      have HQ := Lib.hid (RevStep.mk han hbn (by omega : b = ps.length - 1 - a) hlt hcur)
      clear htb hran hcur hcl hj hb hxa hyb
      generalize ps[a] = x at c0 c1 c2 c3 c4 HP HQ
      generalize ps[b] = y at d0 d1 d2 d3 d4 HP HQ
      obtain ⟨tx, hx⟩ := x
      obtain ⟨ty, hy'⟩ := y
      dsimp only at c0 c1 c2 c3 c4 d0 d1 d2 d3 d4 HP
      go_wp2_with fail
      go_region
      go_wp2_with fail
      go_roundw
      case rel =>
        have hq := HQ.out
        exact ⟨a + 1, _, by go_num, by have := HBB.out; simp; omega, by omega, by simp; exact HCL.out, HQ.out, TBlock.drew HP.out, HR.out.trans (((putO_ran _ _ _ _ _ _ _ _).trans (putO_ran _ _ _ _ _ _ _ _)).trans (Ran.of_below (Below.refl _ _).drew))⟩
      case measure => simp [intOf]; omega
    · have HF : Hid (cur = ps.reverse) := Lib.hid (by
        refine List.ext_getElem (by simp; omega) fun k h1 h2 => ?_
        rw [List.getElem_reverse]
        have hk := hcur k h1 (by omega) (by omega)
        by_cases hc : k < a ∨ ps.length ≤ k + a
        · exact hk.1 hc
        · rw [hk.2 hc]
          have : ps.length - 1 - k = k := by omega
          congr 1
          omega)
      clear htb hran hcur hcl
      go_wp2_with fail
      go_end0
      exact ⟨rfl, by rw [← HF.out]; exact HT.out, HR.out⟩
end Go.Proofs.Ytijdlihodpodjaa
