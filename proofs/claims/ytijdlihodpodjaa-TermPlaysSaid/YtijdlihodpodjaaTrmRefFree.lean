/-
  battenref03.Binds, free, Free: of terms that may be.
-/
import Derived.Test.YtijdlihodpodjaaSubMath
import Derived.Test.YtijdlihodpodjaaTrmSize
import Derived.Test.YtijdlihodpodjaaTrmWorks
import Derived.Deep.RegionHeld3
namespace Go.Proofs.Ytijdlihodpodjaa
open Go.RowKit Go.Shelf Lvl Trm

namespace Trm
/-- Is a variable bound in a term of that place? -/
def bnd (K i : Int) : Int := if ((K = 5 ∨ K = 6) ∧ i = 1) ∨ (K = 7 ∧ i = 2) then 1 else 0
theorem bnd_under {K : Int} {i : Nat} (u : Int) : u + bnd K i = under K i u := by
  unfold bnd under binds kids
  by_cases h5 : K = 5
  · subst h5; simp; split <;> omega
  · by_cases h6 : K = 6
    · subst h6; simp; split <;> omega
    · by_cases h7 : K = 7
      · subst h7; simp; split <;> omega
      · simp [h5, h6, h7]
theorem top_from (l : List Int) : ∀ n m : Int, l.foldl (fun n v => max n (v + 1)) (max n m) = max n (l.foldl (fun n v => max n (v + 1)) m) := by
  induction l with
  | nil => intro n m; rfl
  | cons a r ih => intro n m; simp only [List.foldl_cons]; rw [← ih]; congr 1; omega
theorem top_append (a b : List Int) : top (a ++ b) = max (top a) (top b) := by
  have h := top_from b (top a) 0
  unfold top at h ⊢
  rw [List.foldl_append, ← h]
  congr 1
  have := top_ge a
  unfold top at this
  omega
theorem top_tV (n u : Int) : top ((tV n).vs u) = max 0 (n + 1 - u) := by
  unfold tV
  rw [Tm.vs, vsL]
  unfold top
  by_cases hun : u ≤ n
  · rw [if_pos ⟨rfl, hun⟩]; simp; omega
  · rw [if_neg (fun hh => hun hh.2)]; simp; omega
def FrRel (w : World) (o : Obj) (k : Int) (ts : List Tm) (u G : Int) (v i : Value) (wr : World) : Prop :=
  ∃ (j : Nat) (L : Int), v = .int .i64 L ∧ i = .int .i64 j ∧ j ≤ ts.length ∧ 0 ≤ L ∧ max L (top (vsL k (ts.drop j) j u)) = G ∧ Kept w wr o
end Trm

set_option maxRecDepth 100000 in
set_option maxHeartbeats 1000000 in
theorem RefBinds_any (K n : Int) (s : ByteArray) (lo to : Option Addr) (ln lc tn tc : Nat) (i : Int) (w : World) :
    Calls Try.prog 79 #[.agg #[.int .u8 K, .int .i64 n, .string s, .slice lo ln lc, .slice to tn tc], .int .i64 i] w fun e w' => e = .returned (.int .i64 (bnd K i)) ∧ Below w.heap.size w w' := by
  by_cases h5 : K = 5
  · subst h5
    by_cases h1 : i = 1
    · subst h1
      rw [show bnd 5 1 = 1 by decide]
      go_enter Try.func79, Try.ntmps79
      go_wp2_with fail
      go_ret
      exact ⟨rfl, below_one _ _⟩
    · rw [show bnd 5 i = 0 by unfold bnd; rw [if_neg (by omega)]]
      have d1 : (i == 1) = false := by simpa using h1
      go_enter Try.func79, Try.ntmps79
      go_wp2_with fail
      go_ret
      exact ⟨rfl, below_one _ _⟩
  · by_cases h6 : K = 6
    · subst h6
      by_cases h1 : i = 1
      · subst h1
        rw [show bnd 6 1 = 1 by decide]
        go_enter Try.func79, Try.ntmps79
        go_wp2_with fail
        go_ret
        exact ⟨rfl, below_one _ _⟩
      · rw [show bnd 6 i = 0 by unfold bnd; rw [if_neg (by omega)]]
        have d1 : (i == 1) = false := by simpa using h1
        go_enter Try.func79, Try.ntmps79
        go_wp2_with fail
        go_ret
        exact ⟨rfl, below_one _ _⟩
    · by_cases h7 : K = 7
      · subst h7
        by_cases h2 : i = 2
        · subst h2
          rw [show bnd 7 2 = 1 by decide]
          go_enter Try.func79, Try.ntmps79
          go_wp2_with fail
          go_ret
          exact ⟨rfl, below_one _ _⟩
        · rw [show bnd 7 i = 0 by unfold bnd; rw [if_neg (by omega)]]
          have d2 : (i == 2) = false := by simpa using h2
          go_enter Try.func79, Try.ntmps79
          go_wp2_with fail
          go_ret
          exact ⟨rfl, below_one _ _⟩
      · rw [show bnd K i = 0 by unfold bnd; rw [if_neg (by omega)]]
        have d5 : (K == 5) = false := by simpa using h5
        have d6 : (K == 6) = false := by simpa using h6
        have d7 : (K == 7) = false := by simpa using h7
        go_enter Try.func79, Try.ntmps79
        go_wp2_with fail
        go_ret
        exact ⟨rfl, below_one _ _⟩

set_option maxRecDepth 100000 in
set_option maxHeartbeats 2000000 in
theorem free_t_any (t : Tm) : ∀ (h : Hd) (d u : Int) (w : World), OkMay t d → 0 ≤ u → u ≤ d → t.In w.heap.size w h →
    Calls Try.prog 80 #[t.val h, .int .i64 u] w fun e w' => e = .returned (.int .i64 (top (t.vs u))) ∧ Below w.heap.size w w' := by
  induction t using Tm.ind with
  | h t ih =>
    intro h d u w hok hu0 hud hin
    have hfit := hin.fit
    have hts := hfit.ts
    have hd1 := hok.node.2
    have hnum := node_num hok.node.1
    have hfew := (node_few hok.node.1).1
    have hf3 := (node_few hok.node.1).2.1
    clear hfit
    have HIN := Lib.hid hin
    have HIH := Lib.hid ih
    have HOK := Lib.hid hok
    have hmax := run_max
    by_cases h2 : t.k = 2
    · have hv := node_var hok.node.1 h2
      have hG : Trm.top (t.vs u) = max 0 (t.n + 1 - u) := by
        have := top_tV t.n u
        rw [← hv] at this
        exact this
      rw [hG]
      unfold Tm.val Tm.vals
      rw [h2]
      have hw1 : IntKind.i64.wrap (t.n + 1) = t.n + 1 := IntWalk.i64_in _ (by omega)
      have hw2 : IntKind.i64.wrap (t.n + 1 - u) = t.n + 1 - u := IntWalk.i64_in _ (by omega)
      clear hin ih hG hv h2
      go_enter Try.func80, Try.ntmps80
      go_wp2_with fail
      go_ret
      exact ⟨rfl, below_one _ _⟩
    · have hk2 : (t.k == 2) = false := by simpa using h2
      obtain ⟨G, hG⟩ : ∃ G, G = top (t.vs u) := ⟨_, rfl⟩
      rw [← hG]
      have HG : Hid (max 0 (top (vsL t.k (t.ts.drop 0) 0 u)) = G) := by
        rw [hG]
        show max 0 (top (vsL t.k t.ts 0 u)) = top (t.vs u)
        have e : t.vs u = vsL t.k t.ts 0 u := by
          cases t with
          | mk k n s ls ts => rw [Tm.vs, if_neg (fun hh => h2 hh.1)]; rfl
        rw [e]
        have := top_ge (vsL t.k t.ts 0 u)
        omega
      clear hG hin ih hok
      unfold Tm.val Tm.vals
      go_enter Try.func80, Try.ntmps80
      go_wp2_with fail
      go_loopw [5, 6] (fun v i wr => FrRel w (t.box h) t.k t.ts u G v i wr) (fun _ i _ => t.ts.length - (intOf i).toNat)
      case atStart => exact ⟨0, 0, rfl, rfl, by omega, by omega, HG.out, Kept.start _ _⟩
      case round =>
        obtain ⟨j, L, rfl, rfl, hj, hL0, hGk, hkept⟩ := hrel
        have HK := Lib.hid hkept
        have HGk := Lib.hid hGk
        clear hkept hGk
        obtain ⟨c0, c1, c2, c3, c4⟩ := Tm.cells HK.out.box
        by_cases hlt : j < t.ts.length
        · obtain ⟨b, off, hao, hat⟩ := HIN.out.kid j hlt
          obtain ⟨hb, hd', hcx, hin'⟩ := hat.below HK.out.bel
          rw [hao] at c4
          have hbw := HK.out.bel.size
          have HI := Lib.hid (Tm.In.mono HK.out.bel.size _ _ hin')
          have hun := bnd_under (K := t.k) (i := j) u
          have hul := under_le t.k j u
          have HX := Lib.hid (fun (W : World) (hW : Below wr.heap.size wr W) => HIH.out _ (List.getElem_mem hlt) hd' (d + 1) (under t.k j u) W (HOK.out.down _ (List.getElem_mem hlt)) (by omega) (by omega) (carry HI.out hW))
          have HNX : Hid (max (max L (top (t.ts[j].vs (under t.k j u)))) (top (vsL t.k (t.ts.drop (j + 1)) (j + 1) u)) = G) := Lib.hid (by
            have h0 := HGk.out
            rw [drop_get hlt, vsL, top_append] at h0
            by_cases hl : (j : Int) = kids t.k - 1
            · have hn : t.ts.drop (j + 1) = [] := List.drop_eq_nil_of_le (by omega)
              rw [hn, vsL] at h0 ⊢
              rw [← h0]; omega
            · have hun2 : under t.k j u = u := by unfold under; rw [if_neg (fun hh => hl hh.2)]
              rw [hun2] at h0 ⊢
              rw [← h0]; omega)
          have HB := Lib.hid (fun (W : World) => RefBinds_any t.k t.n t.s h.lo (some ⟨b, off, none⟩) t.ls.length h.lc t.ts.length h.tc j W)
          have hwr : IntKind.i64.wrap (u + bnd t.k j) = under t.k j u := by rw [hun]; exact IntWalk.i64_in _ (by omega)
          have hwr2 : IntKind.i64.wrap (under t.k j u) = under t.k j u := IntWalk.i64_in _ (by omega)
          have HCX := Lib.hid hcx
          obtain ⟨k0, k1, k2, k3, k4⟩ := hcx
          have HAO := Lib.hid hao
          clear hat hin' hao
          generalize hq : top (t.ts[j].vs (under t.k j u)) = X at HX HNX
          generalize t.ts[j] = x at k0 k1 k2 k3 k4 HX HI HCX hq
          have hX0 : 0 ≤ X := by rw [← hq]; exact top_ge _
          unfold Tm.val Tm.vals at HX
          clear hq
          have hbz : b < wr.heap.size := by omega
          go_wp2_with fail
          have hbw0 : Below wr.heap.size wr wr.drew := (Below.refl _ _).drew
          go_region_held3 (fun w' => Below wr.heap.size wr w' ∧ w'.cell? ⟨w.heap.size, 0, none⟩ = some (.int .u8 t.k) ∧ w'.cell? ⟨w.heap.size, 1, none⟩ = some (.int .i64 t.n) ∧ w'.cell? ⟨w.heap.size, 2, none⟩ = some (.string t.s) ∧ w'.cell? ⟨w.heap.size, 3, none⟩ = some (.slice h.lo t.ls.length h.lc) ∧ w'.cell? ⟨w.heap.size, 4, none⟩ = some (.slice (some ⟨b, off, none⟩) t.ts.length h.tc) ∧ w'.cell? ⟨b, off + j * 5, none⟩ = some (.int .u8 x.k) ∧ w'.cell? ⟨b, off + j * 5 + 1, none⟩ = some (.int .i64 x.n) ∧ w'.cell? ⟨b, off + j * 5 + 2, none⟩ = some (.string x.s) ∧ w'.cell? ⟨b, off + j * 5 + 3, none⟩ = some (.slice hd'.lo x.ls.length hd'.lc) ∧ w'.cell? ⟨b, off + j * 5 + 4, none⟩ = some (.slice hd'.to x.ts.length hd'.tc))
            (go_keep)
            (first
              | (go_at_call 79; (with_reducible refine (HB.out _).mono ?_); rintro e w3 ⟨rfl, bw⟩; have hb3 : Below wr.heap.size wr w3 := Trm.go (by first | assumption | exact (Below.refl _ _).drew) bw; obtain ⟨c0, c1, c2, c3, c4⟩ := Tm.cells (HK.out.step hb3).box; rw [HAO.out] at c4; obtain ⟨k0, k1, k2, k3, k4⟩ := HCX.out.below hb3 hbz)
              | (go_at_call 80; (with_reducible refine (HX.out _ ?_).mono ?_); (first | assumption | exact (Below.refl _ _).drew); rintro e w3 ⟨rfl, bw⟩; have hb3 : Below wr.heap.size wr w3 := Trm.go (by first | assumption | exact (Below.refl _ _).drew) bw; obtain ⟨c0, c1, c2, c3, c4⟩ := Tm.cells (HK.out.step hb3).box; rw [HAO.out] at c4; obtain ⟨k0, k1, k2, k3, k4⟩ := HCX.out.below hb3 hbz))
          have HKF := Lib.hid (HK.out.step hb3)
          go_wp2_with fail
          go_roundw
          case rel => exact ⟨j + 1, max L X, rfl, by go_num, by omega, by omega, HNX.out, HKF.out⟩
          case measure => simp [intOf]; omega
        · have HE : Hid (L = G) := by
            have := HGk.out
            rw [List.drop_eq_nil_of_le (by omega), vsL] at this
            show _ = _
            rw [← this]
            have : Trm.top [] = 0 := rfl
            omega
          go_wp2_with fail
          go_ret
          exact ⟨ret_int HE.out, HK.out.bel⟩

set_option maxRecDepth 100000 in
theorem RefFree_any (t : Tm) (h : Hd) (w : World) (hmay : t.may = true) (hin : t.In w.heap.size w h) :
    Calls Try.prog 25 #[t.val h] w fun e w' => e = .returned (.int .i64 t.free) ∧ Below w.heap.size w w' := by
  have hf : t.free = top (t.vs 0) := by unfold Tm.free; rw [if_pos hmay]; rfl
  have HX := Lib.hid (free_t_any t h 1 0 _ (OkMay.start hmay) (by omega) (by omega) (carry hin (below_one w (t.box h))))
  rw [hf]
  generalize top (t.vs 0) = R at HX ⊢
  unfold Tm.val at HX ⊢
  unfold Tm.box at HX
  dsimp only [Tm.vals] at HX ⊢
  clear hin hf
  go_enter Try.func25, Try.ntmps25
  go_wp2_with fail
  refine HX.out.mono ?_
  rintro e w1 ⟨rfl, b1⟩
  have HB := Lib.hid (Trm.go (below_one w _) b1)
  clear b1
  go_wp2_with fail
  go_ret
  exact ⟨rfl, HB.out⟩
end Go.Proofs.Ytijdlihodpodjaa
