/-
  battenref03.Has: of terms that may be, at any number that is not below zero.
-/
import Derived.Test.YtijdlihodpodjaaTrmRefFree
import Derived.Deep.RegionHeld3
namespace Go.Proofs.Ytijdlihodpodjaa
open Go.RowKit Go.Shelf Lvl Trm

namespace Trm
theorem wrap_add1 (a b : Int) : IntKind.i64.wrap (IntKind.i64.wrap a + b) = IntKind.i64.wrap (a + b) := by
  rw [IntKind.wrap_i64, IntKind.wrap_i64, IntKind.wrap_i64]; omega
theorem wrap_eq (q u n : Int) (hq0 : 0 ≤ q) (hq1 : q ≤ 9223372036854775807) (hu0 : 0 ≤ u) (hu1 : u ≤ 1000000) (hn0 : 0 ≤ n) (hn1 : n ≤ 9223372036854775807) : n = IntKind.i64.wrap (q + u) ↔ n - u = q := by
  rw [IntKind.wrap_i64]; omega
def HsRel (w : World) (o : Obj) (q k : Int) (ts : List Tm) (u : Int) (G : Bool) (i : Value) (wr : World) : Prop :=
  ∃ j : Nat, i = .int .i64 j ∧ j ≤ ts.length ∧ decide (q ∈ vsL k (ts.drop j) j u) = G ∧ Kept w wr o
end Trm

set_option maxRecDepth 100000 in
set_option maxHeartbeats 2000000 in
theorem has_t_any (q : Int) (hq0 : 0 ≤ q) (hq1 : q ≤ 9223372036854775807) (t : Tm) : ∀ (h : Hd) (d u : Int) (w : World), OkMay t d → 0 ≤ u → u ≤ d → t.In w.heap.size w h →
    Calls Try.prog 23 #[t.val h, .int .i64 (IntKind.i64.wrap (q + u))] w fun e w' => e = .returned (.bool (decide (q ∈ t.vs u))) ∧ Below w.heap.size w w' := by
  induction t using Tm.ind with
  | h t ih =>
    intro h d u w hok hu0 hud hin
    have hfit := hin.fit
    have hts := hfit.ts
    have hd1 := hok.node.2
    have hnum := node_num hok.node.1
    have hfew := (node_few hok.node.1).1
    have hf3 := (node_few hok.node.1).2.1
    clear hfit
    have HIN := Lib.hid hin
    have HIH := Lib.hid ih
    have HOK := Lib.hid hok
    have hmax := run_max
    by_cases h2 : t.k = 2
    · have hv := node_var hok.node.1 h2
      have hG : decide (q ∈ t.vs u) = (t.n == IntKind.i64.wrap (q + u)) := by
        have hl : t.vs u = if u ≤ t.n then [t.n - u] else [] := by
          have : ∀ n : Int, (tV n).vs u = if u ≤ n then [n - u] else [] := by
            intro n
            unfold tV
            rw [Tm.vs, vsL]
            by_cases hun : u ≤ n
            · rw [if_pos ⟨rfl, hun⟩, if_pos hun]; rfl
            · rw [if_neg (fun hh => hun hh.2), if_neg hun]; rfl
          have h0 := this t.n
          rw [← hv] at h0
          exact h0
        have hq := wrap_eq q u t.n hq0 hq1 hu0 (by omega) (by omega) (by omega)
        rw [hl, Bool.eq_iff_iff]
        simp only [decide_eq_true_eq, beq_iff_eq]
        rw [hq]
        by_cases hun : u ≤ t.n
        · rw [if_pos hun, List.mem_singleton]; omega
        · rw [if_neg hun]; simp; omega
      rw [hG]
      generalize IntKind.i64.wrap (q + u) = K
      unfold Tm.val Tm.vals
      rw [h2]
      clear hin ih hG hv h2 HIN HIH HOK hok
      go_enter Try.func23, Try.ntmps23
      go_wp2_with fail
      go_ret
      exact ⟨rfl, below_one _ _⟩
    · have hk2 : (t.k == 2) = false := by simpa using h2
      obtain ⟨G, hG⟩ : ∃ G, G = decide (q ∈ t.vs u) := ⟨_, rfl⟩
      obtain ⟨K, hK⟩ : ∃ K, K = IntKind.i64.wrap (q + u) := ⟨_, rfl⟩
      rw [← hK]
      have HKW := Lib.hid hK
      clear hK
      rw [← hG]
      have HG : Hid (decide (q ∈ vsL t.k (t.ts.drop 0) 0 u) = G) := by
        rw [hG]
        show decide (q ∈ vsL t.k t.ts 0 u) = _
        have e : t.vs u = vsL t.k t.ts 0 u := by
          cases t with
          | mk k n s ls ts => rw [Tm.vs, if_neg (fun hh => h2 hh.1)]; rfl
        rw [e]
      clear hG hin ih hok
      unfold Tm.val Tm.vals
      go_enter Try.func23, Try.ntmps23
      go_wp2_with fail
      go_loopw [5] (fun i wr => HsRel w (t.box h) q t.k t.ts u G i wr) (fun i _ => t.ts.length - (intOf i).toNat)
      case atStart => exact ⟨0, rfl, by omega, HG.out, Kept.start _ _⟩
      case round =>
        obtain ⟨j, rfl, hj, hGk, hkept⟩ := hrel
        have HK := Lib.hid hkept
        have HGk := Lib.hid hGk
        clear hkept hGk
        obtain ⟨c0, c1, c2, c3, c4⟩ := Tm.cells HK.out.box
        by_cases hlt : j < t.ts.length
        · obtain ⟨b, off, hao, hat⟩ := HIN.out.kid j hlt
          obtain ⟨hb, hd', hcx, hin'⟩ := hat.below HK.out.bel
          rw [hao] at c4
          have hbw := HK.out.bel.size
          have HI := Lib.hid (Tm.In.mono HK.out.bel.size _ _ hin')
          have hun := bnd_under (K := t.k) (i := j) u
          have hul := under_le t.k j u
          have HX := Lib.hid (fun (W : World) (hW : Below wr.heap.size wr W) => HIH.out _ (List.getElem_mem hlt) hd' (d + 1) (under t.k j u) W (HOK.out.down _ (List.getElem_mem hlt)) (by omega) (by omega) (carry HI.out hW))
          have HNX : Hid ((decide (q ∈ t.ts[j].vs (under t.k j u)) || decide (q ∈ vsL t.k (t.ts.drop (j + 1)) (j + 1) u)) = G) := Lib.hid (by
            have h0 := HGk.out
            rw [drop_get hlt, vsL] at h0
            rw [← h0, Bool.eq_iff_iff]
            simp only [Bool.or_eq_true, decide_eq_true_eq, List.mem_append]
            by_cases hl : (j : Int) = kids t.k - 1
            · have hn : t.ts.drop (j + 1) = [] := List.drop_eq_nil_of_le (by omega)
              rw [hn, vsL, vsL]
            · have hun2 : under t.k j u = u := by unfold under; rw [if_neg (fun hh => hl hh.2)]
              rw [hun2])
          have HB := Lib.hid (fun (W : World) => RefBinds_any t.k t.n t.s h.lo (some ⟨b, off, none⟩) t.ls.length h.lc t.ts.length h.tc j W)
          obtain ⟨K2, hK2⟩ : ∃ K2, K2 = IntKind.i64.wrap (q + under t.k j u) := ⟨_, rfl⟩
          have hwr : IntKind.i64.wrap (K + bnd t.k j) = K2 := by rw [hK2, HKW.out, wrap_add1, ← hun]; congr 1; omega
          have hwr2 : IntKind.i64.wrap K2 = K2 := by rw [hK2]; have := wrap_add1 (q + under t.k j u) 0; rw [Int.add_zero, Int.add_zero] at this; exact this
          rw [← hK2] at HX
          clear hK2
          have HCX := Lib.hid hcx
          obtain ⟨k0, k1, k2, k3, k4⟩ := hcx
          have HAO := Lib.hid hao
          clear hat hin' hao
          generalize hq : decide (q ∈ t.ts[j].vs (under t.k j u)) = X at HX HNX
          generalize t.ts[j] = x at k0 k1 k2 k3 k4 HX HI HCX hq
          unfold Tm.val Tm.vals at HX
          clear hq
          have hbz : b < wr.heap.size := by omega
          go_wp2_with fail
          have hbw0 : Below wr.heap.size wr wr.drew := (Below.refl _ _).drew
          go_region_held3 (fun w' => Below wr.heap.size wr w' ∧ w'.cell? ⟨w.heap.size, 0, none⟩ = some (.int .u8 t.k) ∧ w'.cell? ⟨w.heap.size, 1, none⟩ = some (.int .i64 t.n) ∧ w'.cell? ⟨w.heap.size, 2, none⟩ = some (.string t.s) ∧ w'.cell? ⟨w.heap.size, 3, none⟩ = some (.slice h.lo t.ls.length h.lc) ∧ w'.cell? ⟨w.heap.size, 4, none⟩ = some (.slice (some ⟨b, off, none⟩) t.ts.length h.tc) ∧ w'.cell? ⟨b, off + j * 5, none⟩ = some (.int .u8 x.k) ∧ w'.cell? ⟨b, off + j * 5 + 1, none⟩ = some (.int .i64 x.n) ∧ w'.cell? ⟨b, off + j * 5 + 2, none⟩ = some (.string x.s) ∧ w'.cell? ⟨b, off + j * 5 + 3, none⟩ = some (.slice hd'.lo x.ls.length hd'.lc) ∧ w'.cell? ⟨b, off + j * 5 + 4, none⟩ = some (.slice hd'.to x.ts.length hd'.tc))
            (go_keep)
            (first
              | (go_at_call 79; (with_reducible refine (HB.out _).mono ?_); rintro e w3 ⟨rfl, bw⟩; have hb3 : Below wr.heap.size wr w3 := Trm.go (by first | assumption | exact (Below.refl _ _).drew) bw; obtain ⟨c0, c1, c2, c3, c4⟩ := Tm.cells (HK.out.step hb3).box; rw [HAO.out] at c4; obtain ⟨k0, k1, k2, k3, k4⟩ := HCX.out.below hb3 hbz)
              | (go_at_call 23; (with_reducible refine (HX.out _ ?_).mono ?_); (first | assumption | exact (Below.refl _ _).drew); rintro e w3 ⟨rfl, bw⟩; have hb3 : Below wr.heap.size wr w3 := Trm.go (by first | assumption | exact (Below.refl _ _).drew) bw; obtain ⟨c0, c1, c2, c3, c4⟩ := Tm.cells (HK.out.step hb3).box; rw [HAO.out] at c4; obtain ⟨k0, k1, k2, k3, k4⟩ := HCX.out.below hb3 hbz))
          have HKF := Lib.hid (HK.out.step hb3)
          cases X
          · have HNY : Hid (decide (q ∈ vsL t.k (t.ts.drop (j + 1)) (j + 1) u) = G) := Lib.hid (by have := HNX.out; rwa [Bool.false_or] at this)
            go_wp2_with fail
            go_roundw
            case rel => exact ⟨j + 1, by go_num, by omega, HNY.out, HKF.out⟩
            case measure => simp [intOf]; omega
          · have HNY : Hid (true = G) := Lib.hid (by have := HNX.out; rwa [Bool.true_or] at this)
            go_wp2_with fail
            go_ret
            exact ⟨ret_bool HNY.out, HKF.out.bel⟩
        · have HE : Hid (false = G) := by
            have := HGk.out
            rw [List.drop_eq_nil_of_le (by omega), vsL] at this
            show _ = _
            rw [← this]
            rfl
          go_wp2_with fail
          go_ret
          exact ⟨ret_bool HE.out, HK.out.bel⟩

set_option maxRecDepth 100000 in
theorem RefHas_any (t : Tm) (h : Hd) (q : Int) (w : World) (hq0 : 0 ≤ q) (hq1 : q ≤ 9223372036854775807) (hmay : t.may = true) (hin : t.In w.heap.size w h) :
    Calls Try.prog 23 #[t.val h, .int .i64 q] w fun e w' => e = .returned (.bool (t.has q)) ∧ Below w.heap.size w w' := by
  have hx := has_t_any q hq0 hq1 t h 1 0 w (OkMay.start hmay) (by omega) (by omega) hin
  rw [show IntKind.i64.wrap (q + 0) = q by rw [Int.add_zero]; exact IntWalk.i64_in _ (by omega)] at hx
  have he : t.has q = decide (q ∈ t.vs 0) := by
    unfold Tm.has
    rw [hmay, Bool.true_and, Bool.eq_iff_iff]
    simp
  rw [he]
  exact hx
end Go.Proofs.Ytijdlihodpodjaa
