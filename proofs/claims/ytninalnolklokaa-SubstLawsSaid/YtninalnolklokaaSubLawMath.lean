/-
  The mathematics of SubstLaws.
-/
import Derived.Test.YtninalnolklokaaSubLiftFn
import Derived.Test.YtninalnolklokaaSubCloseFn
import Derived.Test.YtninalnolklokaaSubInstMath
import Derived.Test.YtninalnolklokaaTrmRefFree
namespace Go.Proofs.Ytninalnolklokaa
open Lvl Trm

namespace Trm
theorem vps_free {t : Tm} (h : t.may = true) : ∀ p ∈ t.vps 0, 0 ≤ p.1 ∧ 0 ≤ p.2 ∧ p.2 ≤ 4096 ∧ p.1 < t.free ∧ p.1 + p.2 ≤ 1048576 := fun p hp => by
  have h1 := vps_bound t 0 1 (by omega) (by omega) (OkMay.start h) p hp
  have hf : t.free = top (t.vs 0) := by unfold Tm.free; rw [if_pos h]; rfl
  have h2 : p.1 ∈ t.vs 0 := by rw [← vps_vs]; exact List.mem_map_of_mem hp
  have h3 := top_lt _ _ h2
  omega
theorem gLift_at (x : Int) {v : Int} (h : 0 ≤ v) (u : Int) : gLift 0 x v u = tV (v + x + u) := by
  unfold gLift ren
  dsimp only
  rw [if_neg (by omega)]
theorem lift_ok {t : Tm} (h : t.may = true) {x : Int} (h0 : 0 ≤ x) (h1 : x ≤ 2097152) (hb : ∀ p ∈ t.vps 0, p.1 + x + p.2 ≤ 1048576) : liftAns t 0 x = (t.put (gLift 0 x) 0, 0) ∧ (t.put (gLift 0 x) 0).may = true := by
  have hp := vps_free h
  have hm : (t.put (gLift 0 x) 0).may = true := may_ren h (fun p hpp => by
    have := hp p hpp
    have := hb p hpp
    rw [if_neg (by omega)]
    omega)
  refine ⟨?_, hm⟩
  unfold liftAns
  have hmn : min x 2097152 = x := by omega
  have hs : t.sinks 0 x = false := by
    unfold Tm.sinks
    rw [List.any_eq_false]
    intro p hpp
    simp
    omega
  rw [hmn, if_neg (by rw [h]; simp), hs, if_neg (by simp), if_pos hm]
theorem put_same {g : Int → Int → Tm} {t : Tm} (h : t.may = true) (hg : ∀ p ∈ t.vps 0, g p.1 p.2 = tV (p.1 + p.2)) : t.put g 0 = t := by
  rw [put_congr (g' := fun v u => tV (v + u)) t 0 hg]
  exact put_id t 0 1 (OkMay.start h)
theorem gInst_one {x : Tm} {v u : Int} (h : 1 ≤ v) : gInst [x] v u = tV (v - 1 + u) := by
  unfold gInst
  rw [dif_neg (by simp; omega)]
  simp
theorem gInst_var {n u : Int} (h : 0 ≤ n) : gInst [tV n] 0 u = tV (n + u) := by
  unfold gInst
  rw [dif_pos (by simp)]
  show (tV n).put (gLift 0 u) 0 = _
  have e : (tV n).put (gLift 0 u) 0 = gLift 0 u (n - 0) 0 := by
    unfold tV
    rw [Tm.put, if_pos ⟨rfl, h⟩]
  rw [e, Int.sub_zero, gLift_at u h, Int.add_zero]

theorem law_facts {t u : Tm} (ht : t.may = true) (hu : u.may = true) (hf : t.free ≤ 524288) {x y n : Int} (x0 : 0 ≤ x) (x1 : x < 1000) (y0 : 0 ≤ y) (y1 : y < 1000) (n0 : 0 ≤ n) (n1 : n < 1000) :
    ∃ o1 o2 o4 o5 o6, liftAns t 0 x = (o1, 0) ∧ liftAns o1 0 y = (o2, 0) ∧ liftAns t 0 (x + y) = (o2, 0) ∧ liftAns t 0 1 = (o4, 0) ∧ instAns o4 [u] = (t, 0) ∧ closeAns t n = (o5, 0) ∧ instAns o5 [tV n] = (o6, 0) ∧ (t.free ≤ n + 1 → o6 = t) ∧ (t.free = 0 → o1 = t ∧ instAns t [u] = (t, 0)) ∧ o6.may = true := by
  have hp := vps_free ht
  obtain ⟨e1, m1⟩ := lift_ok ht x0 (by omega) (fun p h => by have := hp p h; omega)
  obtain ⟨e3, _⟩ := lift_ok ht (x := x + y) (by omega) (by omega) (fun p h => by have := hp p h; omega)
  obtain ⟨e4, m4⟩ := lift_ok ht (x := 1) (by omega) (by omega) (fun p h => by have := hp p h; omega)
  have hv1 : (t.put (gLift 0 x) 0).vps 0 = (t.vps 0).map (fun p => ((if p.1 < 0 then p.1 else p.1 + x), p.2)) := vps_ren t 0 1 (OkMay.start ht) (fun p h => by have := hp p h; split <;> omega)
  obtain ⟨e2, _⟩ := lift_ok m1 (x := y) y0 (by omega) (fun p h => by
    rw [hv1, List.mem_map] at h
    obtain ⟨q, hq, rfl⟩ := h
    have := hp q hq
    dsimp only
    rw [if_neg (by omega)]
    omega)
  have h12 : (t.put (gLift 0 x) 0).put (gLift 0 y) 0 = t.put (gLift 0 (x + y)) 0 := by
    have := put_ren (r := fun v => if v < 0 then v else v + x) (gLift 0 y) t 0 (fun p h => by have := hp p h; split <;> omega)
    unfold gLift at this ⊢
    rw [this]
    refine put_congr t 0 (fun p h => ?_)
    have := hp p h
    unfold ren
    dsimp only
    rw [if_neg (by omega : ¬ p.1 < 0), if_neg (by omega), if_neg (by omega)]
    congr 1
    omega
  rw [h12] at e2
  have hback : (t.put (gLift 0 1) 0).put (gInst [u]) 0 = t := by
    have := put_ren (r := fun v => if v < 0 then v else v + 1) (gInst [u]) t 0 (fun p h => by have := hp p h; split <;> omega)
    unfold gLift
    rw [this]
    refine put_same ht (fun p h => ?_)
    have := hp p h
    rw [if_neg (by omega), gInst_one (by omega)]
    congr 1
    omega
  have e5 : instAns (t.put (gLift 0 1) 0) [u] = (t, 0) := by
    unfold instAns
    rw [if_pos ⟨m4, by simp [hu]⟩, hback, if_pos ht]
  have m5 : (t.put (gClose n) 0).may = true := may_ren ht (fun p h => by
    have := hp p h
    split
    · omega
    · split <;> omega)
  have e6 : closeAns t n = (t.put (gClose n) 0, 0) := by
    unfold closeAns
    rw [if_neg (by rw [ht]; simp; omega), if_pos m5]
  have h6 : (t.put (gClose n) 0).put (gInst [tV n]) 0 = t.put (ren (fun v => if v ≤ n then v else v - 1)) 0 := by
    have := put_ren (r := fun v => if v < n then v + 1 else if v = n then 0 else v) (gInst [tV n]) t 0 (fun p h => by have := hp p h; split <;> (try split) <;> omega)
    unfold gClose
    rw [this]
    refine put_congr t 0 (fun p h => ?_)
    have := hp p h
    unfold ren
    dsimp only
    by_cases h1 : p.1 < n
    · rw [if_pos h1, if_pos (by omega), gInst_one (by omega)]
      congr 1
      omega
    · by_cases h2 : p.1 = n
      · rw [if_neg h1, if_pos h2, if_pos (by omega), gInst_var n0, h2]
      · rw [if_neg h1, if_neg h2, if_neg (by omega), gInst_one (by omega)]
  have m6 : (t.put (ren (fun v => if v ≤ n then v else v - 1)) 0).may = true := may_ren ht (fun p h => by
    have := hp p h
    split <;> omega)
  have mv : (tV n).may = true := by
    have hn := node_tV (n := n) n0 (by omega)
    unfold Tm.may
    have hb : badMay (tV n) = false := by unfold badMay; rw [hn]; rfl
    show decide (0 ≤ (tV n).left badMay 65536 4096) = true
    rw [Tm.left_eq, hb]
    simp [tV, Tm.ts, leftL]
  have e7 : instAns (t.put (gClose n) 0) [tV n] = (t.put (ren (fun v => if v ≤ n then v else v - 1)) 0, 0) := by
    unfold instAns
    rw [if_pos ⟨m5, by simp [mv]⟩, h6, if_pos m6]
  refine ⟨_, _, _, _, _, e1, e2, e3, e4, e5, e6, e7, fun h => ?_, fun h => ⟨?_, ?_⟩, m6⟩
  · refine put_same ht (fun p hpp => ?_)
    have := hp p hpp
    unfold ren
    dsimp only
    rw [if_pos (by omega)]
  · refine put_same ht (fun p hpp => ?_)
    have := hp p hpp
    omega
  · have hz : t.put (gInst [u]) 0 = t := put_same ht (fun p hpp => by have := hp p hpp; omega)
    unfold instAns
    rw [if_pos ⟨ht, by simp [hu]⟩, hz, if_pos ht]
end Trm
end Go.Proofs.Ytninalnolklokaa
