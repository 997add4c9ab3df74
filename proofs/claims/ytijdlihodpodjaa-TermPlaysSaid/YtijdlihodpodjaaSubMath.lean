/-
  The mathematics of layer 4: terms in the place of free variables.
-/
import Derived.Test.YtijdlihodpodjaaSubPlain
import Derived.Test.YtijdlihodpodjaaTrmFreeMath
namespace Go.Proofs.Ytijdlihodpodjaa
open Lvl Trm

namespace Trm
mutual
/-- Terms in the place of the free variables: g says which, of a number and the binders around it. -/
def Tm.put (g : Int → Int → Tm) : Tm → Int → Tm
  | .mk k n s ls ts, u => if k = 2 ∧ u ≤ n then g (n - u) u else .mk k n s ls (putL g k ts 0 u)
def putL (g : Int → Int → Tm) (k : Int) : List Tm → Nat → Int → List Tm
  | [], _, _ => []
  | t :: r, i, u => t.put g (under k i u) :: putL g k r (i + 1) (under k i u)
end
mutual
/-- The free variables, from the left, with the binders around them. -/
def Tm.vps : Tm → Int → List (Int × Int)
  | .mk k n _ _ ts, u => (if k = 2 ∧ u ≤ n then [(n - u, u)] else []) ++ vpsL k ts 0 u
def vpsL (k : Int) : List Tm → Nat → Int → List (Int × Int)
  | [], _, _ => []
  | t :: r, i, u => t.vps (under k i u) ++ vpsL k r (i + 1) (under k i u)
end

mutual
theorem vps_vs : ∀ (t : Tm) (u : Int), (t.vps u).map (·.1) = t.vs u
  | .mk k n s ls ts, u => by
    rw [Tm.vps, Tm.vs, List.map_append, vpsL_vs]
    split <;> rfl
theorem vpsL_vs (k : Int) : ∀ (ts : List Tm) (i : Nat) (u : Int), (vpsL k ts i u).map (·.1) = vsL k ts i u
  | [], i, u => by rw [vpsL, vsL]; rfl
  | t :: r, i, u => by rw [vpsL, vsL, List.map_append, vps_vs, vpsL_vs]
end

theorem node_var {t : Tm} (h : t.node = true) (hk : t.k = 2) : t = tV t.n := by
  unfold Tm.node at h
  simp only [hk, Bool.and_eq_true, decide_eq_true_eq] at h
  obtain ⟨⟨⟨⟨⟨_, hl⟩, _⟩, hs⟩, hn⟩, hv⟩ := h
  simp [kids] at hl hs hn hv
  obtain ⟨k, n, s, ls, ts⟩ := t
  simp only [Tm.k, Tm.ts, Tm.s, Tm.n, Tm.ls] at hk hl hs hn hv ⊢
  subst hk hl hv
  have hs' : s = no := by
    first
      | exact hs
      | (cases s with
         | mk d => simp [ByteArray.size] at hs; subst hs; rfl)
  rw [hs']; rfl
theorem under_le (k : Int) (i : Nat) (u : Int) : u ≤ under k i u ∧ under k i u ≤ u + 1 := by unfold under; split <;> omega

mutual
theorem vps_bound : ∀ (t : Tm) (u d : Int), 0 ≤ u → u ≤ d → OkMay t d → ∀ p ∈ t.vps u, 0 ≤ p.1 ∧ u ≤ p.2 ∧ p.2 ≤ 4096 ∧ p.1 + p.2 ≤ 1048576
  | .mk k n s ls ts, u, d, hu, hd, ho, p, hp => by
    rw [Tm.vps] at hp
    rcases List.mem_append.1 hp with h | h
    · split at h
      · simp at h
        subst h
        have := node_num ho.node.1
        have := ho.node.2
        simp only [Tm.n] at *
        rename_i h1
        refine ⟨?_, ?_, ?_, ?_⟩ <;> omega
      · cases h
    · exact vpsL_bound k ts 0 u d hu (by omega) (Or.inl hd) (fun x hx => ho.down x hx) p h
theorem vpsL_bound (k : Int) : ∀ (ts : List Tm) (i : Nat) (u d : Int), 0 ≤ u → u ≤ d + 1 → (u ≤ d ∨ kids k ≤ i) → (∀ x ∈ ts, OkMay x (d + 1)) → ∀ p ∈ vpsL k ts i u, 0 ≤ p.1 ∧ u ≤ p.2 ∧ p.2 ≤ 4096 ∧ p.1 + p.2 ≤ 1048576
  | [], i, u, d, _, _, _, _, p, hp => by rw [vpsL] at hp; cases hp
  | t :: r, i, u, d, hu, hd, hq, ho, p, hp => by
    rw [vpsL] at hp
    have hl := under_le k i u
    have h1 : under k i u ≤ d + 1 ∧ (under k i u ≤ d ∨ kids k ≤ ((i + 1 : Nat) : Int)) := by
      unfold under
      split
      · rename_i h; omega
      · omega
    rcases List.mem_append.1 hp with h | h
    · have := vps_bound t _ (d + 1) (by omega) h1.1 (ho t (by simp)) p h
      omega
    · have := vpsL_bound k r (i + 1) _ d (by omega) h1.1 h1.2 (fun x hx => ho x (by simp [hx])) p h
      omega
end

mutual
theorem put_congr {g g' : Int → Int → Tm} : ∀ (t : Tm) (u : Int), (∀ p ∈ t.vps u, g p.1 p.2 = g' p.1 p.2) → t.put g u = t.put g' u
  | .mk k n s ls ts, u, h => by
    rw [Tm.vps] at h
    rw [Tm.put, Tm.put]
    by_cases hc : k = 2 ∧ u ≤ n
    · rw [if_pos hc, if_pos hc]
      exact h (n - u, u) (by rw [if_pos hc]; simp)
    · rw [if_neg hc, if_neg hc, putL_congr k ts 0 u (fun p hp => h p (List.mem_append_right _ hp))]
theorem putL_congr {g g' : Int → Int → Tm} (k : Int) : ∀ (ts : List Tm) (i : Nat) (u : Int), (∀ p ∈ vpsL k ts i u, g p.1 p.2 = g' p.1 p.2) → putL g k ts i u = putL g' k ts i u
  | [], i, u, h => by rw [putL, putL]
  | t :: r, i, u, h => by
    rw [vpsL] at h
    rw [putL, putL, put_congr t _ (fun p hp => h p (List.mem_append_left _ hp)), putL_congr k r (i + 1) _ (fun p hp => h p (List.mem_append_right _ hp))]
end
mutual
theorem put_id : ∀ (t : Tm) (u d : Int), OkMay t d → t.put (fun v u => tV (v + u)) u = t
  | .mk k n s ls ts, u, d, ho => by
    rw [Tm.put]
    by_cases hc : k = 2 ∧ u ≤ n
    · rw [if_pos hc, node_var ho.node.1 hc.1]
      show tV (n - u + u) = tV n
      rw [Int.sub_add_cancel]
    · rw [if_neg hc, putL_id k ts 0 u (d + 1) (fun x hx => ho.down x hx)]
theorem putL_id (k : Int) : ∀ (ts : List Tm) (i : Nat) (u d : Int), (∀ x ∈ ts, OkMay x d) → putL (fun v u => tV (v + u)) k ts i u = ts
  | [], i, u, d, _ => by rw [putL]
  | t :: r, i, u, d, ho => by rw [putL, put_id t _ d (ho t (by simp)), putL_id k r (i + 1) _ d (fun x hx => ho x (by simp [hx]))]
end

/-- Other numbers for the free variables. -/
def ren (r : Int → Int) : Int → Int → Tm := fun v u => tV (r v + u)
theorem putL_length (g : Int → Int → Tm) (k : Int) : ∀ (ts : List Tm) (i : Nat) (u : Int), (putL g k ts i u).length = ts.length
  | [], i, u => by rw [putL]
  | t :: r, i, u => by rw [putL, List.length_cons, putL_length g k r, List.length_cons]
mutual
theorem put_ren {r : Int → Int} (g : Int → Int → Tm) : ∀ (t : Tm) (u : Int), (∀ p ∈ t.vps u, 0 ≤ r p.1) → (t.put (ren r) u).put g u = t.put (fun v u => g (r v) u) u
  | .mk k n s ls ts, u, h => by
    rw [Tm.vps] at h
    rw [Tm.put, Tm.put]
    by_cases hc : k = 2 ∧ u ≤ n
    · rw [if_pos hc, if_pos hc]
      have h0 := h (n - u, u) (by rw [if_pos hc]; simp)
      unfold ren tV
      dsimp only at h0
      rw [Tm.put, if_pos ⟨rfl, by omega⟩, Int.add_sub_cancel]
    · rw [if_neg hc, if_neg hc, Tm.put, if_neg hc, putL_ren g k ts 0 u (fun p hp => h p (List.mem_append_right _ hp))]
theorem putL_ren {r : Int → Int} (g : Int → Int → Tm) (k : Int) : ∀ (ts : List Tm) (i : Nat) (u : Int), (∀ p ∈ vpsL k ts i u, 0 ≤ r p.1) → putL g k (putL (ren r) k ts i u) i u = putL (fun v u => g (r v) u) k ts i u
  | [], i, u, h => by rw [putL, putL, putL]
  | t :: rr, i, u, h => by
    rw [vpsL] at h
    rw [putL, putL, putL, put_ren g t _ (fun p hp => h p (List.mem_append_left _ hp)), putL_ren g k rr (i + 1) _ (fun p hp => h p (List.mem_append_right _ hp))]
end
mutual
theorem vps_ren {r : Int → Int} : ∀ (t : Tm) (u d : Int), OkMay t d → (∀ p ∈ t.vps u, 0 ≤ r p.1) → (t.put (ren r) u).vps u = (t.vps u).map (fun p => (r p.1, p.2))
  | .mk k n s ls ts, u, d, ho, h => by
    rw [Tm.vps] at h
    rw [Tm.put]
    by_cases hc : k = 2 ∧ u ≤ n
    · have h0 := h (n - u, u) (by rw [if_pos hc]; simp)
      dsimp only at h0
      have ht := node_var ho.node.1 hc.1
      unfold tV at ht
      injection ht with _ _ _ _ hts
      subst hts
      rw [if_pos hc, Tm.vps, if_pos hc, vpsL]
      unfold ren tV
      rw [Tm.vps, if_pos ⟨rfl, by omega⟩, vpsL, Int.add_sub_cancel]
      rfl
    · rw [if_neg hc, Tm.vps, if_neg hc, Tm.vps, if_neg hc, List.map_append, vpsL_ren k ts 0 u (d + 1) (fun x hx => ho.down x hx) (fun p hp => h p (List.mem_append_right _ hp))]; rfl
theorem vpsL_ren {r : Int → Int} (k : Int) : ∀ (ts : List Tm) (i : Nat) (u d : Int), (∀ x ∈ ts, OkMay x d) → (∀ p ∈ vpsL k ts i u, 0 ≤ r p.1) → vpsL k (putL (ren r) k ts i u) i u = (vpsL k ts i u).map (fun p => (r p.1, p.2))
  | [], i, u, d, _, h => by rw [putL, vpsL]; rfl
  | t :: rr, i, u, d, ho, h => by
    rw [vpsL] at h
    rw [putL, vpsL, vpsL, List.map_append, vps_ren t _ d (ho t (by simp)) (fun p hp => h p (List.mem_append_left _ hp)), vpsL_ren k rr (i + 1) _ d (fun x hx => ho x (by simp [hx])) (fun p hp => h p (List.mem_append_right _ hp))]
end

theorem node_list {k n : Int} {s : ByteArray} {ls : List Lv} {ts ts' : List Tm} (h : ts.length = ts'.length) : (Tm.mk k n s ls ts).node = (Tm.mk k n s ls ts').node := by
  unfold Tm.node
  show (decide (0 ≤ kids k) && decide ((ts.length : Int) = kids k) && _ && _ && _ && _) = (decide (0 ≤ kids k) && decide ((ts'.length : Int) = kids k) && _ && _ && _ && _)
  rw [h]
  rfl
theorem node_tV {n : Int} (h0 : 0 ≤ n) (h1 : n ≤ 1048576) : (tV n).node = true := by
  unfold Tm.node tV
  have e : (decide (0 ≤ n ∧ n ≤ 1048576)) = true := by simp; omega
  simp [Tm.k, Tm.n, Tm.s, Tm.ls, Tm.ts, kids, no, ByteArray.size, h0, h1]
mutual
/-- With other numbers that a variable may have a term may be as it may. -/
theorem left_ren {r : Int → Int} : ∀ (t : Tm) (u d : Int), OkMay t d → (∀ p ∈ t.vps u, 0 ≤ r p.1 + p.2 ∧ r p.1 + p.2 ≤ 1048576) → ∀ l e, (t.put (ren r) u).left badMay l e = t.left badMay l e
  | .mk k n s ls ts, u, d, ho, h, l, e => by
    rw [Tm.vps] at h
    rw [Tm.put]
    by_cases hc : k = 2 ∧ u ≤ n
    · rw [if_pos hc]
      have h0 := h (n - u, u) (by rw [if_pos hc]; simp)
      dsimp only at h0
      rw [node_var ho.node.1 hc.1]
      unfold ren
      have hn := node_num ho.node.1
      have b1 : badMay (tV (r (n - u) + u)) = false := by unfold badMay; rw [node_tV h0.1 h0.2]; rfl
      have b2 : badMay (tV (Tm.mk k n s ls ts).n) = false := by unfold badMay; rw [node_tV hn.1 hn.2]; rfl
      rw [Tm.left_eq, Tm.left_eq, b1, b2]
      rfl
    · rw [if_neg hc, Tm.left, Tm.left, leftL_ren k ts 0 u (d + 1) (fun x hx => ho.down x hx) (fun p hp => h p (List.mem_append_right _ hp))]
      have hb : badMay (.mk k n s ls (putL (ren r) k ts 0 u)) = badMay (.mk k n s ls ts) := by unfold badMay; rw [node_list (putL_length (ren r) k ts 0 u)]
      rw [hb]
theorem leftL_ren {r : Int → Int} (k : Int) : ∀ (ts : List Tm) (i : Nat) (u d : Int), (∀ x ∈ ts, OkMay x d) → (∀ p ∈ vpsL k ts i u, 0 ≤ r p.1 + p.2 ∧ r p.1 + p.2 ≤ 1048576) → ∀ l e, leftL badMay (putL (ren r) k ts i u) l e = leftL badMay ts l e
  | [], i, u, d, _, _, l, e => by rw [putL]
  | t :: rr, i, u, d, ho, h, l, e => by
    rw [vpsL] at h
    rw [putL, leftL, leftL, left_ren t _ d (ho t (by simp)) (fun p hp => h p (List.mem_append_left _ hp))]
    rw [leftL_ren k rr (i + 1) _ d (fun x hx => ho x (by simp [hx])) (fun p hp => h p (List.mem_append_right _ hp))]
end
theorem may_ren {r : Int → Int} {t : Tm} (h : t.may = true) (hr : ∀ p ∈ t.vps 0, 0 ≤ r p.1 + p.2 ∧ r p.1 + p.2 ≤ 1048576) : (t.put (ren r) 0).may = true := by
  have := left_ren t 0 1 (OkMay.start h) hr 65536 4096
  unfold Tm.may at h ⊢
  show decide (0 ≤ (t.put (ren r) 0).left badMay 65536 4096) = true
  rw [this]
  exact h
end Trm
end Go.Proofs.Ytijdlihodpodjaa
