/-
  subst.through: a term is gone through by a function that is handed in.
-/
import Derived.Test.YtjicdmohnfcflaaQB4
import Derived.Deep.RegionHeld3
import Derived.Laws.EntriesVeiled
namespace Go.Proofs.Ytjicdmohnfcflaa
open Go.RowKit Go.Shelf Lvl Trm

namespace Trm
theorem row_pairs {B : Nat} {w : World} {b off : Nat} : ∀ {ts : List Tm} {i : Nat}, RowIn B w (some ⟨b, off, none⟩) i ts → ∃ ps : List (Tm × Hd), ps.map (·.1) = ts ∧ ∀ k (hk : k < ps.length), TCells w b (off + (i + k) * 5) ps[k].1 ps[k].2 ∧ ps[k].1.In B w ps[k].2
  | [], _, _ => ⟨[], rfl, fun k hk => by simp at hk⟩
  | t :: r, i, g => by
    rw [RowIn] at g
    obtain ⟨⟨b', off', h, hao, hb, hc, hi⟩, g2⟩ := g
    cases hao
    obtain ⟨ps, hps, hall⟩ := row_pairs g2
    refine ⟨(t, h) :: ps, by simp [hps], fun k hk => ?_⟩
    match k, hk with
    | 0, _ => exact ⟨hc, hi⟩
    | k + 1, hk =>
      have := hall k (by simpa using hk)
      rw [show i + 1 + k = i + (k + 1) by omega] at this
      exact this
theorem take_more {ps : List (Tm × Hd)} {k : Nat} (hk : k < ps.length) : (ps.take (k + 1)).map (·.1) = (ps.take k).map (·.1) ++ [ps[k].1] := by
  rw [List.take_succ_eq_append_getElem hk, List.map_append]; rfl
theorem take_set {ps : List (Tm × Hd)} {k : Nat} (hk : k < ps.length) (p : Tm × Hd) : ((ps.set k p).take (k + 1)).map (·.1) = (ps.take k).map (·.1) ++ [p.1] := by
  rw [take_more (by simpa using hk), List.getElem_set_self, List.take_set_of_le (Nat.le_refl k)]
theorem drop_more {ps qs : List (Tm × Hd)} {k : Nat} (h : ps.drop k = qs.drop k) : ps.drop (k + 1) = qs.drop (k + 1) := by
  have h1 := congrArg (List.drop 1) h
  simpa [List.drop_drop] using h1
theorem drop_set {ps : List (Tm × Hd)} {k : Nat} (p : Tm × Hd) : (ps.set k p).drop (k + 1) = ps.drop (k + 1) := by
  rw [List.drop_set_of_lt (by omega)]
theorem drop_same {ps qs : List (Tm × Hd)} {k : Nat} (h : ps.drop k = qs.drop k) (h1 : k < ps.length) (h2 : k < qs.length) : ps[k] = qs[k] := by
  rw [List.drop_eq_getElem_cons h1, List.drop_eq_getElem_cons h2] at h
  injection h

/-- Behind some rounds through the terms of a node. -/
def ThrRel {σ : Type} (lf : Lf σ) (B : Nat) (P : Nat → Prop) (Inv : σ → World → Prop) (Good : σ → Prop) (w : World) (t : Tm) (u : Int) (ps0 : List (Tm × Hd)) (R : σ × Int × Option Tm) (vi vu vl : Value) (wr : World) : Prop :=
  ∃ (k : Nat) (st : σ) (u' : Int) (c : Bool) (ps : List (Tm × Hd)), vi = .int .i64 k ∧ vu = .int .i64 u' ∧ k ≤ t.ts.length ∧ (u' = u ∨ (u' = u + 1 ∧ k = t.ts.length)) ∧ ps.length = t.ts.length ∧ ps.drop k = ps0.drop k ∧
    fin t.k t.n t.s c ((ps.take k).map (·.1)) (thrL lf t.k (t.ts.drop k) st u') = R ∧ Good st ∧ Inv st wr ∧ RanS P w wr ∧ wr.heap[w.heap.size]? = some (.cells #[.int .u8 0, .int .i64 0, .string no, .slice none 0 0, .slice none 0 0] 26) ∧
    ((c = false ∧ vl = .slice none 0 0 ∧ ps = ps0) ∨ (c = true ∧ ∃ L S cap, vl = .slice (some ⟨L, 0, none⟩) t.ts.length cap ∧ w.heap.size < L ∧ TBlock wr L S ps ∧ ∀ p ∈ ps, FirmS (fun q => B ≤ q ∧ (q ≤ w.heap.size ∨ q = L)) wr p.1 p.2))

/-- A row of terms that lie there whatever is written: a node of them does. -/
theorem firm_row {P Q : Nat → Prop} {w : World} {L S cap : Nat} {ps : List (Tm × Hd)} {k n : Int} {s : ByteArray} (htb : TBlock w L S ps) (hL : ¬ P L) (hpq : ∀ q, P q → Q q) (hf : ∀ p ∈ ps, FirmS Q w p.1 p.2)
    (hk0 : 0 ≤ k) (hk1 : k ≤ 255) (hn0 : -9223372036854775808 ≤ n) (hn1 : n ≤ 9223372036854775807) (hs : s.size ≤ 9223372036854775807) (hl : ps.length ≤ 1000000) :
    FirmS P w (.mk k n s [] (ps.map (·.1))) ⟨none, 0, some ⟨L, 0, none⟩, cap⟩ := fun w' hr => by
  have hsz := hr.size
  have hlt := htb.lt
  refine Tm.In_iff.2 ⟨⟨hk0, hk1, hn0, hn1, hs, by simp [Tm.ls], by simp [Tm.ts]; omega⟩, ⟨fun k hk => by simp [Tm.ls] at hk⟩, fun hn => by simp [Tm.ls] at hn, ?_⟩
  exact TBlock.row (htb.ranS hr hL) (by omega) (fun p hp => (hf p hp).less (fun q _ => hpq q) w' hr)
end Trm

end Go.Proofs.Ytjicdmohnfcflaa


namespace Go.Proofs.Ytjicdmohnfcflaa
open Go.RowKit Go.Shelf Lvl Trm

/-- One more than the greatest free variable; of a term that may not be 0. -/
def Trm.Tm.free (t : Tm) : Int := if t.may = true then (t.vs 0).foldl (fun n v => max n (v + 1)) 0 else 0
def Trm.Tm.has (t : Tm) (k : Int) : Bool := t.may && (t.vs 0).any (· == k)

end Go.Proofs.Ytjicdmohnfcflaa


namespace Go.Proofs.Ytjicdmohnfcflaa
open Lvl Trm

namespace Trm
def top (l : List Int) : Int := l.foldl (fun n v => max n (v + 1)) 0
theorem fold_ge (l : List Int) : ∀ n : Int, n ≤ l.foldl (fun n v => max n (v + 1)) n ∧ ∀ v ∈ l, v < l.foldl (fun n v => max n (v + 1)) n := by
  induction l with
  | nil => intro n; exact ⟨Int.le_refl _, fun v hv => by cases hv⟩
  | cons a r ih =>
    intro n
    obtain ⟨h1, h2⟩ := ih (max n (a + 1))
    refine ⟨by simp only [List.foldl_cons]; omega, fun v hv => ?_⟩
    simp only [List.foldl_cons]
    rcases List.mem_cons.1 hv with rfl | hr
    · omega
    · exact h2 v hr
theorem fold_mem (l : List Int) : ∀ n : Int, l.foldl (fun n v => max n (v + 1)) n = n ∨ l.foldl (fun n v => max n (v + 1)) n - 1 ∈ l := by
  induction l with
  | nil => intro n; exact Or.inl rfl
  | cons a r ih =>
    intro n
    simp only [List.foldl_cons]
    rcases ih (max n (a + 1)) with h | h
    · rw [h]
      by_cases hc : a + 1 ≤ n
      · left; omega
      · right
        rw [show max n (a + 1) - 1 = a by omega]
        simp
    · exact Or.inr (List.mem_cons_of_mem _ h)
theorem top_ge (l : List Int) : 0 ≤ top l := (fold_ge l 0).1
theorem top_lt (l : List Int) : ∀ v ∈ l, v < top l := (fold_ge l 0).2
theorem top_mem (l : List Int) (h : 0 < top l) : top l - 1 ∈ l := by
  rcases fold_mem l 0 with h1 | h1
  · unfold top at h; omega
  · exact h1
theorem top_shift (l : List Int) : top ((l.filter (fun v => decide (1 ≤ v))).map (· - 1)) = max 0 (top l - 1) := by
  have hm : ∀ w, w ∈ (l.filter (fun v => decide (1 ≤ v))).map (· - 1) ↔ w + 1 ∈ l ∧ 0 ≤ w := by
    intro w
    simp only [List.mem_map, List.mem_filter, decide_eq_true_eq]
    constructor
    · rintro ⟨v, ⟨hv, h1⟩, rfl⟩
      rw [show v - 1 + 1 = v by omega]
      exact ⟨hv, by omega⟩
    · rintro ⟨hv, h1⟩
      exact ⟨w + 1, ⟨hv, by omega⟩, by omega⟩
  generalize hM : (l.filter (fun v => decide (1 ≤ v))).map (· - 1) = M at hm
  have a1 := top_ge M
  have a2 := top_ge l
  by_cases h1 : 1 < top l
  · have h2 := top_mem l (by omega)
    have h3 : top l - 2 ∈ M := (hm _).2 ⟨by rw [show top l - 2 + 1 = top l - 1 by omega]; exact h2, by omega⟩
    have h4 := top_lt M _ h3
    have h5 : 0 < top M := by omega
    have h6 := top_lt l _ ((hm _).1 (top_mem M h5)).1
    omega
  · by_cases h5 : 0 < top M
    · have h6 := top_lt l _ ((hm _).1 (top_mem M h5)).1
      have h7 := ((hm _).1 (top_mem M h5)).2
      omega
    · omega

mutual
theorem vs_bound : ∀ (t : Tm) (u d : Int), 0 ≤ u → OkMay t d → ∀ v ∈ t.vs u, 0 ≤ v ∧ v ≤ 1048576
  | .mk k n s ls ts, u, d, hu, ho, v, hv => by
    rw [Tm.vs] at hv
    rcases List.mem_append.1 hv with h | h
    · split at h
      · simp at h
        have := node_num ho.node.1
        simp only [Tm.n] at this
        omega
      · cases h
    · exact vsL_bound k ts 0 u (d + 1) hu (fun x hx => ho.down x hx) v h
theorem vsL_bound (k : Int) : ∀ (ts : List Tm) (i : Nat) (u d : Int), 0 ≤ u → (∀ x ∈ ts, OkMay x d) → ∀ v ∈ vsL k ts i u, 0 ≤ v ∧ v ≤ 1048576
  | [], i, u, d, _, _, v, hv => by rw [vsL] at hv; cases hv
  | t :: r, i, u, d, hu, ho, v, hv => by
    rw [vsL] at hv
    have hu' : 0 ≤ under k i u := by unfold under; split <;> omega
    rcases List.mem_append.1 hv with h | h
    · exact vs_bound t _ d hu' (ho t (by simp)) v h
    · exact vsL_bound k r (i + 1) _ d hu' (fun x hx => ho x (by simp [hx])) v h
end
mutual
theorem vs_shift : ∀ (t : Tm) (u : Int), t.vs (u + 1) = ((t.vs u).filter (fun v => decide (1 ≤ v))).map (· - 1)
  | .mk k n s ls ts, u => by
    rw [Tm.vs, Tm.vs, List.filter_append, List.map_append, vsL_shift k ts 0 u]
    congr 1
    by_cases hk : k = 2
    · by_cases h1 : u + 1 ≤ n
      · rw [if_pos ⟨hk, h1⟩, if_pos ⟨hk, by omega⟩]
        have : decide (1 ≤ n - u) = true := by simp; omega
        simp [this]; omega
      · rw [if_neg (fun h => h1 h.2)]
        by_cases h2 : u ≤ n
        · rw [if_pos ⟨hk, h2⟩]
          have : decide (1 ≤ n - u) = false := by simp; omega
          simp [this]
        · rw [if_neg (fun h => h2 h.2)]; rfl
    · rw [if_neg (fun h => hk h.1), if_neg (fun h => hk h.1)]; rfl
theorem vsL_shift (k : Int) : ∀ (ts : List Tm) (i : Nat) (u : Int), vsL k ts i (u + 1) = ((vsL k ts i u).filter (fun v => decide (1 ≤ v))).map (· - 1)
  | [], i, u => by rw [vsL, vsL]; rfl
  | t :: r, i, u => by
    have hu : under k i (u + 1) = under k i u + 1 := by unfold under; split <;> rfl
    rw [vsL, vsL, List.filter_append, List.map_append, hu, vs_shift t, vsL_shift k r]
end
theorem lam_vs (t : Tm) : (t2 5 tS t).vs 0 = ((t.vs 0).filter (fun v => decide (1 ≤ v))).map (· - 1) := by
  rw [← vs_shift t 0]
  unfold t2
  rw [Tm.vs, vsL, vsL, vsL]
  have h0 : under 5 0 0 = 0 := by decide
  have h1 : under 5 (0 + 1) 0 = 1 := by decide
  rw [h0, h1]
  have hs : tS.vs 0 = [] := by unfold tS; rw [Tm.vs, vsL]; rfl
  rw [hs]
  simp

/-- What TermFree asks of a term that may be, and of its lambda. -/
theorem free_facts {t : Tm} (h : t.may = true) : 0 ≤ t.free ∧ t.free ≤ 1048577 ∧ (0 < t.free → t.has (t.free - 1) = true) ∧ (∀ k : Int, 0 ≤ k → t.has (t.free + k) = false) ∧ (∀ k : Int, k < 0 → t.has k = false) := by
  have hb := vs_bound t 0 1 (by omega) (OkMay.start h)
  have hf : t.free = top (t.vs 0) := by unfold Tm.free; rw [if_pos h]; rfl
  have hh : ∀ k, t.has k = (t.vs 0).any (· == k) := fun k => by unfold Tm.has; rw [h, Bool.true_and]
  rw [hf]
  refine ⟨top_ge _, ?_, fun hp => ?_, fun k hk => ?_, fun k hk => ?_⟩
  · by_cases hp : 0 < top (t.vs 0)
    · have := (hb _ (top_mem _ hp)).2; omega
    · omega
  · rw [hh, List.any_eq_true]
    exact ⟨_, top_mem _ hp, by simp⟩
  · rw [hh, List.any_eq_false]
    intro v hv
    have := top_lt _ v hv
    simp; omega
  · rw [hh, List.any_eq_false]
    intro v hv
    have := (hb v hv).1
    simp; omega
theorem lam_facts {t : Tm} (h : t.may = true) (hu : (t2 5 tS t).may = true) : (t2 5 tS t).free = max 0 (t.free - 1) ∧ (∀ k : Int, 0 ≤ k → (t2 5 tS t).has k = t.has (k + 1)) ∧ (t2 5 tS t).count = t.count + 2 := by
  have hb := vs_bound t 0 1 (by omega) (OkMay.start h)
  have hf : t.free = top (t.vs 0) := by unfold Tm.free; rw [if_pos h]; rfl
  have hf' : (t2 5 tS t).free = top ((t2 5 tS t).vs 0) := by unfold Tm.free; rw [if_pos hu]; rfl
  refine ⟨?_, fun k hk => ?_, ?_⟩
  · rw [hf, hf', lam_vs]
    exact top_shift _
  · unfold Tm.has
    rw [h, hu, Bool.true_and, Bool.true_and, lam_vs, Bool.eq_iff_iff]
    simp only [List.any_eq_true, List.mem_map, List.mem_filter, decide_eq_true_eq, beq_iff_eq]
    constructor
    · rintro ⟨_, ⟨v, ⟨hv, h1⟩, rfl⟩, h2⟩
      exact ⟨v, hv, by omega⟩
    · rintro ⟨v, hv, rfl⟩
      exact ⟨k, ⟨k + 1, ⟨hv, by omega⟩, by omega⟩, rfl⟩
  · unfold Tm.count
    rw [if_pos h, if_pos hu]
    unfold t2 tS
    rw [Tm.size, sizeL, sizeL, sizeL, Tm.size, sizeL]
    omega
end Trm
end Go.Proofs.Ytjicdmohnfcflaa


namespace Go.Proofs.Ytjicdmohnfcflaa
open Lvl Trm

namespace Trm
mutual
/-- Terms in the place of the free variables: g says which, of a number and the binders around it. -/
def Tm.put (g : Int → Int → Tm) : Tm → Int → Tm
  | .mk k n s ls ts, u => if k = 2 ∧ u ≤ n then g (n - u) u else .mk k n s ls (putL g k ts 0 u)
def putL (g : Int → Int → Tm) (k : Int) : List Tm → Nat → Int → List Tm
  | [], _, _ => []
  | t :: r, i, u => t.put g (under k i u) :: putL g k r (i + 1) (under k i u)
end
mutual
/-- The free variables, from the left, with the binders around them. -/
def Tm.vps : Tm → Int → List (Int × Int)
  | .mk k n _ _ ts, u => (if k = 2 ∧ u ≤ n then [(n - u, u)] else []) ++ vpsL k ts 0 u
def vpsL (k : Int) : List Tm → Nat → Int → List (Int × Int)
  | [], _, _ => []
  | t :: r, i, u => t.vps (under k i u) ++ vpsL k r (i + 1) (under k i u)
end
mutual
theorem vps_vs : ∀ (t : Tm) (u : Int), (t.vps u).map (·.1) = t.vs u
  | .mk k n s ls ts, u => by
    rw [Tm.vps, Tm.vs, List.map_append, vpsL_vs]
    split <;> rfl
theorem vpsL_vs (k : Int) : ∀ (ts : List Tm) (i : Nat) (u : Int), (vpsL k ts i u).map (·.1) = vsL k ts i u
  | [], i, u => by rw [vpsL, vsL]; rfl
  | t :: r, i, u => by rw [vpsL, vsL, List.map_append, vps_vs, vpsL_vs]
end
theorem node_var {t : Tm} (h : t.node = true) (hk : t.k = 2) : t = tV t.n := by
  unfold Tm.node at h
  simp only [hk, Bool.and_eq_true, decide_eq_true_eq] at h
  obtain ⟨⟨⟨⟨⟨_, hl⟩, _⟩, hs⟩, hn⟩, hv⟩ := h
  simp [kids] at hl hs hn hv
  obtain ⟨k, n, s, ls, ts⟩ := t
  simp only [Tm.k, Tm.ts, Tm.s, Tm.n, Tm.ls] at hk hl hs hn hv ⊢
  subst hk hl hv
  have hs' : s = no := by
    first
      | exact hs
      | (cases s with
         | mk d => simp [ByteArray.size] at hs; subst hs; rfl)
  rw [hs']; rfl
theorem under_le (k : Int) (i : Nat) (u : Int) : u ≤ under k i u ∧ under k i u ≤ u + 1 := by unfold under; split <;> omega

mutual
theorem vps_bound : ∀ (t : Tm) (u d : Int), 0 ≤ u → u ≤ d → OkMay t d → ∀ p ∈ t.vps u, 0 ≤ p.1 ∧ u ≤ p.2 ∧ p.2 ≤ 4096 ∧ p.1 + p.2 ≤ 1048576
  | .mk k n s ls ts, u, d, hu, hd, ho, p, hp => by
    rw [Tm.vps] at hp
    rcases List.mem_append.1 hp with h | h
    · split at h
      · simp at h
        subst h
        have := node_num ho.node.1
        have := ho.node.2
        simp only [Tm.n] at *
        rename_i h1
        refine ⟨?_, ?_, ?_, ?_⟩ <;> omega
      · cases h
    · exact vpsL_bound k ts 0 u d hu (by omega) (Or.inl hd) (fun x hx => ho.down x hx) p h
theorem vpsL_bound (k : Int) : ∀ (ts : List Tm) (i : Nat) (u d : Int), 0 ≤ u → u ≤ d + 1 → (u ≤ d ∨ kids k ≤ i) → (∀ x ∈ ts, OkMay x (d + 1)) → ∀ p ∈ vpsL k ts i u, 0 ≤ p.1 ∧ u ≤ p.2 ∧ p.2 ≤ 4096 ∧ p.1 + p.2 ≤ 1048576
  | [], i, u, d, _, _, _, _, p, hp => by rw [vpsL] at hp; cases hp
  | t :: r, i, u, d, hu, hd, hq, ho, p, hp => by
    rw [vpsL] at hp
    have hl := under_le k i u
    have h1 : under k i u ≤ d + 1 ∧ (under k i u ≤ d ∨ kids k ≤ ((i + 1 : Nat) : Int)) := by
      unfold under
      split
      · rename_i h; omega
      · omega
    rcases List.mem_append.1 hp with h | h
    · have := vps_bound t _ (d + 1) (by omega) h1.1 (ho t (by simp)) p h
      omega
    · have := vpsL_bound k r (i + 1) _ d (by omega) h1.1 h1.2 (fun x hx => ho x (by simp [hx])) p h
      omega
end
mutual
theorem put_congr {g g' : Int → Int → Tm} : ∀ (t : Tm) (u : Int), (∀ p ∈ t.vps u, g p.1 p.2 = g' p.1 p.2) → t.put g u = t.put g' u
  | .mk k n s ls ts, u, h => by
    rw [Tm.vps] at h
    rw [Tm.put, Tm.put]
    by_cases hc : k = 2 ∧ u ≤ n
    · rw [if_pos hc, if_pos hc]
      exact h (n - u, u) (by rw [if_pos hc]; simp)
    · rw [if_neg hc, if_neg hc, putL_congr k ts 0 u (fun p hp => h p (List.mem_append_right _ hp))]
theorem putL_congr {g g' : Int → Int → Tm} (k : Int) : ∀ (ts : List Tm) (i : Nat) (u : Int), (∀ p ∈ vpsL k ts i u, g p.1 p.2 = g' p.1 p.2) → putL g k ts i u = putL g' k ts i u
  | [], i, u, h => by rw [putL, putL]
  | t :: r, i, u, h => by
    rw [vpsL] at h
    rw [putL, putL, put_congr t _ (fun p hp => h p (List.mem_append_left _ hp)), putL_congr k r (i + 1) _ (fun p hp => h p (List.mem_append_right _ hp))]
end
mutual
theorem put_id : ∀ (t : Tm) (u d : Int), OkMay t d → t.put (fun v u => tV (v + u)) u = t
  | .mk k n s ls ts, u, d, ho => by
    rw [Tm.put]
    by_cases hc : k = 2 ∧ u ≤ n
    · rw [if_pos hc, node_var ho.node.1 hc.1]
      show tV (n - u + u) = tV n
      rw [Int.sub_add_cancel]
    · rw [if_neg hc, putL_id k ts 0 u (d + 1) (fun x hx => ho.down x hx)]
theorem putL_id (k : Int) : ∀ (ts : List Tm) (i : Nat) (u d : Int), (∀ x ∈ ts, OkMay x d) → putL (fun v u => tV (v + u)) k ts i u = ts
  | [], i, u, d, _ => by rw [putL]
  | t :: r, i, u, d, ho => by rw [putL, put_id t _ d (ho t (by simp)), putL_id k r (i + 1) _ d (fun x hx => ho x (by simp [hx]))]
end
/-- Other numbers for the free variables. -/
def ren (r : Int → Int) : Int → Int → Tm := fun v u => tV (r v + u)
theorem putL_length (g : Int → Int → Tm) (k : Int) : ∀ (ts : List Tm) (i : Nat) (u : Int), (putL g k ts i u).length = ts.length
  | [], i, u => by rw [putL]
  | t :: r, i, u => by rw [putL, List.length_cons, putL_length g k r, List.length_cons]
mutual
theorem put_ren {r : Int → Int} (g : Int → Int → Tm) : ∀ (t : Tm) (u : Int), (∀ p ∈ t.vps u, 0 ≤ r p.1) → (t.put (ren r) u).put g u = t.put (fun v u => g (r v) u) u
  | .mk k n s ls ts, u, h => by
    rw [Tm.vps] at h
    rw [Tm.put, Tm.put]
    by_cases hc : k = 2 ∧ u ≤ n
    · rw [if_pos hc, if_pos hc]
      have h0 := h (n - u, u) (by rw [if_pos hc]; simp)
      unfold ren tV
      dsimp only at h0
      rw [Tm.put, if_pos ⟨rfl, by omega⟩, Int.add_sub_cancel]
    · rw [if_neg hc, if_neg hc, Tm.put, if_neg hc, putL_ren g k ts 0 u (fun p hp => h p (List.mem_append_right _ hp))]
theorem putL_ren {r : Int → Int} (g : Int → Int → Tm) (k : Int) : ∀ (ts : List Tm) (i : Nat) (u : Int), (∀ p ∈ vpsL k ts i u, 0 ≤ r p.1) → putL g k (putL (ren r) k ts i u) i u = putL (fun v u => g (r v) u) k ts i u
  | [], i, u, h => by rw [putL, putL, putL]
  | t :: rr, i, u, h => by
    rw [vpsL] at h
    rw [putL, putL, putL, put_ren g t _ (fun p hp => h p (List.mem_append_left _ hp)), putL_ren g k rr (i + 1) _ (fun p hp => h p (List.mem_append_right _ hp))]
end
mutual
theorem vps_ren {r : Int → Int} : ∀ (t : Tm) (u d : Int), OkMay t d → (∀ p ∈ t.vps u, 0 ≤ r p.1) → (t.put (ren r) u).vps u = (t.vps u).map (fun p => (r p.1, p.2))
  | .mk k n s ls ts, u, d, ho, h => by
    rw [Tm.vps] at h
    rw [Tm.put]
    by_cases hc : k = 2 ∧ u ≤ n
    · have h0 := h (n - u, u) (by rw [if_pos hc]; simp)
      dsimp only at h0
      have ht := node_var ho.node.1 hc.1
      unfold tV at ht
      injection ht with _ _ _ _ hts
      subst hts
      rw [if_pos hc, Tm.vps, if_pos hc, vpsL]
      unfold ren tV
      rw [Tm.vps, if_pos ⟨rfl, by omega⟩, vpsL, Int.add_sub_cancel]
      rfl
    · rw [if_neg hc, Tm.vps, if_neg hc, Tm.vps, if_neg hc, List.map_append, vpsL_ren k ts 0 u (d + 1) (fun x hx => ho.down x hx) (fun p hp => h p (List.mem_append_right _ hp))]; rfl
theorem vpsL_ren {r : Int → Int} (k : Int) : ∀ (ts : List Tm) (i : Nat) (u d : Int), (∀ x ∈ ts, OkMay x d) → (∀ p ∈ vpsL k ts i u, 0 ≤ r p.1) → vpsL k (putL (ren r) k ts i u) i u = (vpsL k ts i u).map (fun p => (r p.1, p.2))
  | [], i, u, d, _, h => by rw [putL, vpsL]; rfl
  | t :: rr, i, u, d, ho, h => by
    rw [vpsL] at h
    rw [putL, vpsL, vpsL, List.map_append, vps_ren t _ d (ho t (by simp)) (fun p hp => h p (List.mem_append_left _ hp)), vpsL_ren k rr (i + 1) _ d (fun x hx => ho x (by simp [hx])) (fun p hp => h p (List.mem_append_right _ hp))]
end
theorem node_list {k n : Int} {s : ByteArray} {ls : List Lv} {ts ts' : List Tm} (h : ts.length = ts'.length) : (Tm.mk k n s ls ts).node = (Tm.mk k n s ls ts').node := by
  unfold Tm.node
  show (decide (0 ≤ kids k) && decide ((ts.length : Int) = kids k) && _ && _ && _ && _) = (decide (0 ≤ kids k) && decide ((ts'.length : Int) = kids k) && _ && _ && _ && _)
  rw [h]
  rfl
theorem node_tV {n : Int} (h0 : 0 ≤ n) (h1 : n ≤ 1048576) : (tV n).node = true := by
  unfold Tm.node tV
  have e : (decide (0 ≤ n ∧ n ≤ 1048576)) = true := by simp; omega
  simp [Tm.k, Tm.n, Tm.s, Tm.ls, Tm.ts, kids, no, ByteArray.size, h0, h1]
mutual
/-- With other numbers that a variable may have a term may be as it may. -/
theorem left_ren {r : Int → Int} : ∀ (t : Tm) (u d : Int), OkMay t d → (∀ p ∈ t.vps u, 0 ≤ r p.1 + p.2 ∧ r p.1 + p.2 ≤ 1048576) → ∀ l e, (t.put (ren r) u).left badMay l e = t.left badMay l e
  | .mk k n s ls ts, u, d, ho, h, l, e => by
    rw [Tm.vps] at h
    rw [Tm.put]
    by_cases hc : k = 2 ∧ u ≤ n
    · rw [if_pos hc]
      have h0 := h (n - u, u) (by rw [if_pos hc]; simp)
      dsimp only at h0
      rw [node_var ho.node.1 hc.1]
      unfold ren
      have hn := node_num ho.node.1
      have b1 : badMay (tV (r (n - u) + u)) = false := by unfold badMay; rw [node_tV h0.1 h0.2]; rfl
      have b2 : badMay (tV (Tm.mk k n s ls ts).n) = false := by unfold badMay; rw [node_tV hn.1 hn.2]; rfl
      rw [Tm.left_eq, Tm.left_eq, b1, b2]
      rfl
    · rw [if_neg hc, Tm.left, Tm.left, leftL_ren k ts 0 u (d + 1) (fun x hx => ho.down x hx) (fun p hp => h p (List.mem_append_right _ hp))]
      have hb : badMay (.mk k n s ls (putL (ren r) k ts 0 u)) = badMay (.mk k n s ls ts) := by unfold badMay; rw [node_list (putL_length (ren r) k ts 0 u)]
      rw [hb]
theorem leftL_ren {r : Int → Int} (k : Int) : ∀ (ts : List Tm) (i : Nat) (u d : Int), (∀ x ∈ ts, OkMay x d) → (∀ p ∈ vpsL k ts i u, 0 ≤ r p.1 + p.2 ∧ r p.1 + p.2 ≤ 1048576) → ∀ l e, leftL badMay (putL (ren r) k ts i u) l e = leftL badMay ts l e
  | [], i, u, d, _, _, l, e => by rw [putL]
  | t :: rr, i, u, d, ho, h, l, e => by
    rw [vpsL] at h
    rw [putL, leftL, leftL, left_ren t _ d (ho t (by simp)) (fun p hp => h p (List.mem_append_left _ hp))]
    rw [leftL_ren k rr (i + 1) _ d (fun x hx => ho x (by simp [hx])) (fun p hp => h p (List.mem_append_right _ hp))]
end
theorem may_ren {r : Int → Int} {t : Tm} (h : t.may = true) (hr : ∀ p ∈ t.vps 0, 0 ≤ r p.1 + p.2 ∧ r p.1 + p.2 ≤ 1048576) : (t.put (ren r) 0).may = true := by
  have := left_ren t 0 1 (OkMay.start h) hr 65536 4096
  unfold Tm.may at h ⊢
  show decide (0 ≤ (t.put (ren r) 0).left badMay 65536 4096) = true
  rw [this]
  exact h
end Trm
end Go.Proofs.Ytjicdmohnfcflaa


namespace Go.Proofs.Ytjicdmohnfcflaa
open Lvl Trm

namespace Trm
/-- A leaf that does something with free variables; all else stays. -/
def lfFree {σ : Type} (to : σ → Int → Int → σ × Int × Option Tm) : Lf σ := fun st x u => if x.k = 2 ∧ u ≤ x.n then to st (x.n - u) u else (st, 0, none)

/-- The free variables, one behind the other, until an error. -/
def runs {σ : Type} (to : σ → Int → Int → σ × Int × Option Tm) : σ → List (Int × Int) → σ × Int
  | st, [] => (st, 0)
  | st, p :: r => if (to st p.1 p.2).2.1 = 0 then runs to (to st p.1 p.2).1 r else ((to st p.1 p.2).1, (to st p.1 p.2).2.1)

theorem runs_append {σ : Type} (to : σ → Int → Int → σ × Int × Option Tm) : ∀ (l r : List (Int × Int)) (st : σ), runs to st (l ++ r) = if (runs to st l).2 = 0 then runs to (runs to st l).1 r else runs to st l
  | [], r, st => by simp [runs]
  | p :: l, r, st => by
    rw [List.cons_append, runs, runs]
    by_cases h : (to st p.1 p.2).2.1 = 0
    · rw [if_pos h, if_pos h, runs_append to l r]
    · rw [if_neg h, if_neg h, if_neg h]

theorem und_under {k : Int} {i : Nat} {r : List Tm} (u : Int) (h : (i : Int) + r.length + 1 = kids k) : und k r.isEmpty u = under k i u := by
  unfold und under
  have : (r.isEmpty = true) ↔ ((i : Int) = kids k - 1) := by
    rw [List.isEmpty_iff, ← List.length_eq_zero_iff]
    omega
  simp only [this]

mutual
theorem thr_runs {σ : Type} (to : σ → Int → Int → σ × Int × Option Tm) : ∀ (t : Tm) (st : σ) (d u : Int), OkMay t d → ((t.thr (lfFree to) st u).1, (t.thr (lfFree to) st u).2.1) = runs to st (t.vps u)
  | .mk k n s ls ts, st, d, u, ho => by
    rw [Tm.thr, Tm.vps]
    by_cases hts : ts.isEmpty = true
    · rw [if_pos hts]
      have h0 : ts = [] := List.isEmpty_iff.1 hts
      subst h0
      rw [vpsL, List.append_nil]
      by_cases hc : k = 2 ∧ u ≤ n
      · rw [if_pos hc, show lfFree to st (.mk k n s ls []) u = to st (n - u) u from if_pos hc]
        simp only [runs]
        by_cases h : (to st (n - u) u).2.1 = 0
        · rw [if_pos h, h]
        · rw [if_neg h]
      · rw [if_neg hc, show lfFree to st (.mk k n s ls []) u = (st, 0, none) from if_neg hc]
        rfl
    · rw [if_neg hts]
      have hf := node_few ho.node.1
      have hk : ¬ (k = 2 ∧ u ≤ n) := by
        rintro ⟨rfl, _⟩
        have h1 := hf.1
        simp only [Tm.ts, Tm.k, kids] at h1
        exact hts (by simpa using h1)
      rw [if_neg hk, List.nil_append]
      have := thrL_runs to k ts 0 st (d + 1) u (by simpa [Tm.ts, Tm.k] using hf.1) (fun x hx => ho.down x hx)
      rw [← this]
      rfl
theorem thrL_runs {σ : Type} (to : σ → Int → Int → σ × Int × Option Tm) (k : Int) : ∀ (ts : List Tm) (i : Nat) (st : σ) (d u : Int), (i : Int) + ts.length = kids k → (∀ x ∈ ts, OkMay x d) → ((thrL (lfFree to) k ts st u).1, (thrL (lfFree to) k ts st u).2.1) = runs to st (vpsL k ts i u)
  | [], i, st, d, u, _, _ => by rw [thrL, vpsL]; rfl
  | t :: r, i, st, d, u, hk, ho => by
    have hu := und_under (k := k) (i := i) (r := r) u (by simp at hk; omega)
    have h1 := thr_runs to t st d (under k i u) (ho t (by simp))
    rw [thrL, vpsL, hu, runs_append, ← h1]
    by_cases he : (t.thr (lfFree to) st (under k i u)).2.1 = 0
    · rw [if_pos he, if_pos he]
      exact thrL_runs to k r (i + 1) _ d _ (by simp at hk; push_cast; omega) (fun x hx => ho x (by simp [hx]))
    · rw [if_neg he, if_neg he]
end
mutual
theorem thr_put {σ : Type} {to : σ → Int → Int → σ × Int × Option Tm} {g : Int → Int → Tm} (hto : ∀ st v u, (to st v u).2.1 = 0 → (to st v u).2.2.getD (tV (v + u)) = g v u) :
    ∀ (t : Tm) (st : σ) (d u : Int), OkMay t d → (t.thr (lfFree to) st u).2.1 = 0 → (t.thr (lfFree to) st u).2.2.getD t = t.put g u
  | .mk k n s ls ts, st, d, u, ho, h => by
    rw [Tm.thr] at h ⊢
    rw [Tm.put]
    by_cases hts : ts.isEmpty = true
    · rw [if_pos hts] at h ⊢
      have h0 : ts = [] := List.isEmpty_iff.1 hts
      by_cases hc : k = 2 ∧ u ≤ n
      · rw [if_pos hc]
        have hv := node_var ho.node.1 hc.1
        unfold lfFree at h ⊢
        rw [if_pos (show (Tm.mk k n s ls ts).k = 2 ∧ u ≤ (Tm.mk k n s ls ts).n from hc)] at h ⊢
        have h2 := hto st (n - u) u h
        rw [Int.sub_add_cancel] at h2
        rw [hv]
        exact h2
      · rw [if_neg hc]
        unfold lfFree
        rw [if_neg (show ¬ ((Tm.mk k n s ls ts).k = 2 ∧ u ≤ (Tm.mk k n s ls ts).n) from hc)]
        subst h0
        rw [putL]; rfl
    · rw [if_neg hts] at h ⊢
      have hf := node_few ho.node.1
      have hk : ¬ (k = 2 ∧ u ≤ n) := by
        rintro ⟨rfl, _⟩
        have h1 := hf.1
        simp only [Tm.ts, Tm.k, kids] at h1
        exact hts (by simpa using h1)
      have hls : ls = [] := node_inner ho.node.1 (show ts ≠ [] by simpa using hts)
      subst hls
      rw [if_neg hk]
      obtain ⟨h1, h2⟩ := thrL_put hto k ts 0 st (d + 1) u (by simpa [Tm.ts, Tm.k] using hf.1) (fun x hx => ho.down x hx) h
      unfold fin
      have h' : (thrL (lfFree to) k ts st u).2.1 = 0 := h
      cases hcc : (thrL (lfFree to) k ts st u).2.2.1
      · rw [if_neg (by simp)]
        rw [← h1, h2 hcc]
        rfl
      · rw [if_pos (by simp [h'])]
        rw [← h1]
        rfl
theorem thrL_put {σ : Type} {to : σ → Int → Int → σ × Int × Option Tm} {g : Int → Int → Tm} (hto : ∀ st v u, (to st v u).2.1 = 0 → (to st v u).2.2.getD (tV (v + u)) = g v u) (k : Int) :
    ∀ (ts : List Tm) (i : Nat) (st : σ) (d u : Int), (i : Int) + ts.length = kids k → (∀ x ∈ ts, OkMay x d) → (thrL (lfFree to) k ts st u).2.1 = 0 → (thrL (lfFree to) k ts st u).2.2.2 = putL g k ts i u ∧ ((thrL (lfFree to) k ts st u).2.2.1 = false → (thrL (lfFree to) k ts st u).2.2.2 = ts)
  | [], i, st, d, u, _, _, _ => by rw [thrL, putL]; exact ⟨rfl, fun _ => rfl⟩
  | t :: r, i, st, d, u, hk, ho, h => by
    have hu := und_under (k := k) (i := i) (r := r) u (by simp at hk; omega)
    rw [thrL, hu] at h ⊢
    by_cases he : (t.thr (lfFree to) st (under k i u)).2.1 = 0
    · rw [if_pos he] at h ⊢
      obtain ⟨h1, h2⟩ := thrL_put hto k r (i + 1) _ d _ (by simp at hk; push_cast; omega) (fun x hx => ho x (by simp [hx])) h
      have h3 := thr_put hto t st d (under k i u) (ho t (by simp)) he
      rw [putL]
      refine ⟨by rw [← h1, ← h3], fun hc => ?_⟩
      simp only [Bool.or_eq_false_iff] at hc
      have h4 : (t.thr (lfFree to) st (under k i u)).2.2 = none := by simpa using hc.1
      rw [h2 hc.2, h4]; rfl
    · rw [if_neg he] at h
      exact absurd h he
end
/-! Lift. -/
def toLift (fr by_ : Int) : Unit → Int → Int → Unit × Int × Option Tm := fun _ v u =>
  if v < fr ∨ by_ = 0 then ((), 0, none) else if v + by_ < fr then ((), 7, none) else ((), 0, some (tV (v + by_ + u)))
def gLift (fr by_ : Int) : Int → Int → Tm := ren (fun v => if v < fr then v else v + by_)
theorem toLift_g (fr by_ : Int) (st : Unit) (v u : Int) (h : (toLift fr by_ st v u).2.1 = 0) : (toLift fr by_ st v u).2.2.getD (tV (v + u)) = gLift fr by_ v u := by
  unfold toLift at h ⊢
  unfold gLift ren
  by_cases h1 : v < fr ∨ by_ = 0
  · rw [if_pos h1]
    by_cases h2 : v < fr
    · simp only [if_pos h2]; rfl
    · simp only [if_neg h2]
      have : by_ = 0 := by omega
      rw [this, Int.add_zero]; rfl
  · rw [if_neg h1] at h ⊢
    by_cases h2 : v + by_ < fr
    · rw [if_pos h2] at h
      exact absurd h (by decide)
    · rw [if_neg h2]
      simp only [if_neg (show ¬ v < fr by omega)]; rfl
theorem runs_lift (fr by_ : Int) : ∀ (l : List (Int × Int)), runs (toLift fr by_) () l = ((), if (l.any fun p => decide (fr ≤ p.1 ∧ p.1 + by_ < fr)) = true then 7 else 0)
  | [] => rfl
  | p :: l => by
    rw [runs, List.any_cons]
    by_cases h1 : p.1 < fr ∨ by_ = 0
    · have hto : toLift fr by_ () p.1 p.2 = ((), 0, none) := by unfold toLift; rw [if_pos h1]
      have hd : decide (fr ≤ p.1 ∧ p.1 + by_ < fr) = false := by simp; omega
      rw [hto, if_pos rfl, runs_lift fr by_ l, hd, Bool.false_or]
    · by_cases h2 : p.1 + by_ < fr
      · have hto : toLift fr by_ () p.1 p.2 = ((), 7, none) := by unfold toLift; rw [if_neg h1, if_pos h2]
        have hd : decide (fr ≤ p.1 ∧ p.1 + by_ < fr) = true := by simp; omega
        rw [hto, if_neg (by decide), hd, Bool.true_or, if_pos rfl]
      · have hto : toLift fr by_ () p.1 p.2 = ((), 0, some (tV (p.1 + by_ + p.2))) := by unfold toLift; rw [if_neg h1, if_neg h2]
        have hd : decide (fr ≤ p.1 ∧ p.1 + by_ < fr) = false := by simp; omega
        rw [hto, if_pos rfl, runs_lift fr by_ l, hd, Bool.false_or]
/-- Would a free variable be lifted below from? -/
def Tm.sinks (t : Tm) (fr by_ : Int) : Bool := (t.vps 0).any fun p => decide (fr ≤ p.1 ∧ p.1 + by_ < fr)

/-- What Lift's going through a term that may be tells. -/
theorem thr_lift {t : Tm} (h : t.may = true) (fr by_ : Int) : (t.thr (lfFree (toLift fr by_)) () 0).2.1 = (if t.sinks fr by_ = true then 7 else 0) ∧ (t.sinks fr by_ = false → (t.thr (lfFree (toLift fr by_)) () 0).2.2.getD t = t.put (gLift fr by_) 0) := by
  have h1 := thr_runs (toLift fr by_) t () 1 0 (OkMay.start h)
  rw [runs_lift] at h1
  have h2 := congrArg Prod.snd h1
  dsimp only at h2
  refine ⟨h2, fun hs => thr_put (fun st v u => toLift_g fr by_ st v u) t () 1 0 (OkMay.start h) ?_⟩
  rw [h2]
  unfold Tm.sinks at hs
  rw [hs]; rfl

/-! Close. -/
def toClose (q : Int) : Unit → Int → Int → Unit × Int × Option Tm := fun _ v u =>
  if v < q then ((), 0, some (tV (v + 1 + u))) else if v = q then ((), 0, some (tV u)) else ((), 0, none)
def gClose (q : Int) : Int → Int → Tm := ren (fun v => if v < q then v + 1 else if v = q then 0 else v)
theorem toClose_g (q : Int) (st : Unit) (v u : Int) : (toClose q st v u).2.1 = 0 ∧ (toClose q st v u).2.2.getD (tV (v + u)) = gClose q v u := by
  unfold toClose gClose ren
  by_cases h1 : v < q
  · simp [if_pos h1]
  · by_cases h2 : v = q
    · simp [if_neg h1, if_pos h2]
    · simp [if_neg h1, if_neg h2]
theorem runs_close (q : Int) : ∀ (l : List (Int × Int)), runs (toClose q) () l = ((), 0)
  | [] => rfl
  | p :: l => by rw [runs, if_pos (toClose_g q () p.1 p.2).1]; exact runs_close q l
theorem thr_close {t : Tm} (h : t.may = true) (q : Int) : (t.thr (lfFree (toClose q)) () 0).2.1 = 0 ∧ (t.thr (lfFree (toClose q)) () 0).2.2.getD t = t.put (gClose q) 0 := by
  have h1 := thr_runs (toClose q) t () 1 0 (OkMay.start h)
  rw [runs_close] at h1
  have h2 := congrArg Prod.snd h1
  dsimp only at h2
  exact ⟨h2, thr_put (fun st v u _ => (toClose_g q st v u).2) t () 1 0 (OkMay.start h) h2⟩
end Trm
end Go.Proofs.Ytjicdmohnfcflaa


namespace Go.Proofs.Ytjicdmohnfcflaa
open Go.RowKit Go.Shelf Lvl Trm

/-- Are two terms the same tree? -/
noncomputable def Trm.same (a b : Tm) : Bool := @decide (a = b) (Classical.propDecidable _)
theorem Trm.same_iff {a b : Tm} : same a b = true ↔ a = b := by unfold same; simp
theorem Trm.same_yes {a b : Tm} (h : a = b) : true = same a b := (same_iff.2 h).symm
theorem Trm.same_no {a b : Tm} (h : ¬ a = b) : false = same a b := by
  cases hs : same a b
  · rfl
  · exact absurd (same_iff.1 hs) h
theorem Trm.Tm.ext {a b : Tm} (hk : a.k = b.k) (hn : a.n = b.n) (hs : a.s = b.s) (hl : a.ls = b.ls) (ht : a.ts = b.ts) : a = b := by
  rw [a.eta, b.eta, hk, hn, hs, hl, ht]

theorem Trm.take_same {α : Type} {l m : List α} {k : Nat} (hl : k < l.length) (hm : k < m.length) (h : l.take k = m.take k) (he : l[k] = m[k]) : l.take (k + 1) = m.take (k + 1) := by
  rw [List.take_succ_eq_append_getElem hl, List.take_succ_eq_append_getElem hm, h, he]
theorem Trm.all_same {α : Type} {l m : List α} {k : Nat} (hlm : l.length = m.length) (hk : l.length ≤ k) (h : l.take k = m.take k) : l = m := by
  rwa [List.take_of_length_le hk, List.take_of_length_le (by omega)] at h

theorem Trm.eq_self (a0 a1 a2 a3 : Int) (w : World) : (Op.equalIn 9999 61 (.agg #[.int .i64 a0, .int .i64 a1, .int .i64 a2, .int .i64 a3]) (.agg #[.int .i64 a0, .int .i64 a1, .int .i64 a2, .int .i64 a3])).run Try.prog w = .ok true w := by
  refine (eq_arr 9997 _ _ _ _ _ _ _ _ w).trans ?_
  simp
structure Trm.Kept2 (w wr : World) (o o' : Obj) : Prop where
  bel : Below w.heap.size w wr
  box : wr.heap[w.heap.size]? = some o
  box' : wr.heap[w.heap.size + 1]? = some o'
theorem Trm.Kept2.start (w : World) (o o' : Obj) : Kept2 w ((w.alloc o).alloc o') o o' := ⟨below_two _ _ _, new1of2 _ _ _, new2 _ _ _⟩
theorem Trm.Kept2.step {w wr w1 : World} {o o' : Obj} (h : Kept2 w wr o o') (b : Below wr.heap.size wr w1) : Kept2 w w1 o o' := ⟨h.bel.trans (b.mono h.bel.size), keep b h.box, keep b h.box'⟩
theorem Trm.Kept2.drewN {w wr : World} {o o' : Obj} (h : Kept2 w wr o o') (n : Nat) : Kept2 w (wr.drewN n) o o' := by
  refine h.step ⟨?_, ?_, ?_, ?_, ?_⟩ <;> simp [World.drewN]

def Trm.LsRel (w : World) (o o' : Obj) (ls ls' : List Lv) (i : Value) (wr : World) : Prop :=
  ∃ k : Nat, i = .int .i64 k ∧ k ≤ ls.length ∧ ls.take k = ls'.take k ∧ Kept2 w wr o o'
def Trm.TsRel (w : World) (o o' : Obj) (ls ls' : List Tm) (i : Value) (wr : World) : Prop :=
  ∃ k : Nat, i = .int .i64 k ∧ k ≤ ls.length ∧ ls.take k = ls'.take k ∧ Kept2 w wr o o'

set_option maxRecDepth 100000 in
set_option maxHeartbeats 4000000 in
theorem RefSame_any (a : Tm) : ∀ (b : Tm) (h h' : Hd) (w : World), a.In w.heap.size w h → b.In w.heap.size w h' →
    Calls Try.prog 11 #[a.val h, b.val h'] w fun e w' => e = .returned (.bool (same a b)) ∧ Below w.heap.size w w' := by
  induction a using Tm.ind with
  | h a ih =>
    intro b h h' w hin hin'
    have HIH := Lib.hid ih
    clear ih
    have hfit := hin.fit
    have hls := hfit.ls
    have hts := hfit.ts
    have hfit' := hin'.fit
    have hls' := hfit'.ls
    have hts' := hfit'.ts
    clear hfit hfit'
    have HIN := Lib.hid hin
    have HIN' := Lib.hid hin'
    clear hin hin'
    obtain ⟨G, hG⟩ : ∃ G, G = same a b := ⟨_, rfl⟩
    rw [← hG]
    have HG := Lib.hid hG
    clear hG
    have HN : Hid (¬ a = b → false = G) := Lib.hid (fun hn => by rw [HG.out]; exact same_no hn)
    by_cases h1 : a.k = b.k
    · by_cases h2 : a.n = b.n
      · by_cases h3 : a.s = b.s
        · by_cases h4 : a.ls.length = b.ls.length
          · by_cases h5 : a.ts.length = b.ts.length
            · unfold Tm.val Tm.vals
              have H1 := Lib.hid h1
              have H2 := Lib.hid h2
              have H3 := Lib.hid h3
              have H4 := Lib.hid h4
              have H5 := Lib.hid h5
              rw [← h1, ← h2, ← h3, ← h4, ← h5]
              have HB : Hid (Tm.box b h' = .cells #[.int .u8 a.k, .int .i64 a.n, .string a.s, .slice h'.lo a.ls.length h'.lc, .slice h'.to a.ts.length h'.tc] 26) := Lib.hid (by rw [Tm.box, Tm.vals, ← h1, ← h2, ← h3, ← h4, ← h5])
              clear h1 h2 h3 h4 h5
              go_enter Try.func11, Try.ntmps11
              go_wp2_with fail
              go_loopw [5] (fun i wr => LsRel w (a.box h) (b.box h') a.ls b.ls i wr) (fun i _ => a.ls.length - (intOf i).toNat)
              case atStart => exact ⟨0, rfl, by omega, rfl, by rw [HB.out]; exact Kept2.start _ _ _⟩
              case round =>
                obtain ⟨k, rfl, hk, htk, hkept⟩ := hrel
                have HK := Lib.hid hkept
                have HT := Lib.hid htk
                clear hkept htk
                obtain ⟨c0, c1, c2, c3, c4⟩ := Tm.cells HK.out.box
                have hbox' := HK.out.box'
                obtain ⟨d0, d1, d2, d3, d4⟩ := Tm.cells hbox'
                rw [← H4.out] at d3
                rw [← H5.out] at d4
                clear hbox' c0 c1 c2 d0 d1 d2
                by_cases hlt : k < a.ls.length
                · have hlt' : k < b.ls.length := by have := H4.out; omega
                  obtain ⟨b1, off1, hao1, l0, l1, l2, l3, l4⟩ := (Trm.LRow.low HIN.out.levels (Tm.In_iff.1 HIN.out).2.2.1 HK.out.bel).place k hlt
                  obtain ⟨b2, off2, hao2, m0, m1, m2, m3, m4⟩ := (Trm.LRow.low HIN'.out.levels (Tm.In_iff.1 HIN'.out).2.2.1 HK.out.bel).place k hlt'
                  rw [hao1] at c3
                  rw [hao2] at d3
                  clear hao1 hao2
                  have HY : Hid (a.ls[k] = b.ls[k] → a.ls.take (k + 1) = b.ls.take (k + 1)) := Lib.hid (take_same hlt hlt' HT.out)
                  have HF : Hid (¬ a.ls[k] = b.ls[k] → false = G) := Lib.hid (fun hn => HN.out fun e => hn (by subst e; rfl))
                  generalize a.ls[k] = x at l0 l1 l2 l3 l4 HY HF
                  generalize b.ls[k] = y at m0 m1 m2 m3 m4 HY HF
                  by_cases hxy : x = y
                  · subst hxy
                    have hsame := eq_self x.p0 x.p1 x.p2 x.p3
                    have HY1 := Lib.hid (HY.out rfl)
                    clear HF HY hlt'
                    go_wp2_with fail
                    go_quiet (fail)
                    go_wp2_with fail
                    go_roundw
                    case rel => exact ⟨k + 1, by go_num, by omega, HY1.out, HK.out.drewN _⟩
                    case measure => simp [intOf]; omega
                  · have HF1 := Lib.hid (HF.out hxy)
                    have hne : ((x.c == y.c) && (x.p0 == y.p0 && x.p1 == y.p1 && x.p2 == y.p2 && x.p3 == y.p3)) = false := by
                      rw [Bool.eq_false_iff]
                      intro hh
                      simp only [Bool.and_eq_true, beq_iff_eq] at hh
                      exact hxy (Lv.ext_all hh.1 hh.2.1.1.1 hh.2.1.1.2 hh.2.1.2 hh.2.2)
                    have harr := eq_arr 9997 x.p0 x.p1 x.p2 x.p3 y.p0 y.p1 y.p2 y.p3
                    generalize (x.p0 == y.p0 && x.p1 == y.p1 && x.p2 == y.p2 && x.p3 == y.p3) = r at hne harr
                    have harr' : ∀ w, (Op.equalIn 9999 61 (.agg #[.int .i64 x.p0, .int .i64 x.p1, .int .i64 x.p2, .int .i64 x.p3]) (.agg #[.int .i64 y.p0, .int .i64 y.p1, .int .i64 y.p2, .int .i64 y.p3])).run Try.prog w = .ok r w := harr
                    clear harr
                    clear HF HY hlt' hxy
                    by_cases hc : x.c = y.c
                    · have hc' : (x.c == y.c) = true := by simpa using hc
                      have hr : r = false := by rw [hc'] at hne; simpa using hne
                      subst hr
                      clear hne hc
                      go_wp2_with fail
                      go_quiet (fail)
                      go_wp2_with fail
                      go_ret
                      exact ⟨ret_bool HF1.out, (HK.out.drewN _).bel⟩
                    · have hc' : (x.c == y.c) = false := by simpa using hc
                      clear hne hc
                      go_wp2_with fail
                      go_quiet (fail)
                      go_wp2_with fail
                      go_ret
                      exact ⟨ret_bool HF1.out, (HK.out.drewN _).bel⟩
                · have HLS : Hid (a.ls = b.ls) := Lib.hid (all_same H4.out (by omega) HT.out)
                  clear d3 HT
                  go_wp2_with fail
                  clear c3 c4 d4
                  go_loopw [6] (fun i wr => TsRel w (a.box h) (b.box h') a.ts b.ts i wr) (fun i _ => a.ts.length - (intOf i).toNat)
                  case atStart => exact ⟨0, rfl, by omega, rfl, HK.out⟩
                  case round =>
                    clear HK hlt hk
                    obtain ⟨k, rfl, hk, htk, hkept⟩ := hrel
                    have HK := Lib.hid hkept
                    have HT := Lib.hid htk
                    clear hkept htk
                    obtain ⟨c0, c1, c2, c3, c4⟩ := Tm.cells HK.out.box
                    have hbox' := HK.out.box'
                    obtain ⟨d0, d1, d2, d3, d4⟩ := Tm.cells hbox'
                    rw [← H5.out] at d4
                    clear hbox' c0 c1 c2 d0 d1 d2 c3 d3
                    by_cases hlt : k < a.ts.length
                    · have hlt' : k < b.ts.length := by have := H5.out; omega
                      obtain ⟨b1, off1, hao1, hb1, e1, ⟨l0, l1, l2, l3, l4⟩, i1⟩ := (HIN.out.below HK.out.bel).kid k hlt
                      obtain ⟨b2, off2, hao2, hb2, e2, ⟨m0, m1, m2, m3, m4⟩, i2⟩ := (HIN'.out.below HK.out.bel).kid k hlt'
                      rw [hao1] at c4
                      rw [hao2] at d4
                      clear hao1 hao2
                      have HY : Hid (a.ts[k] = b.ts[k] → a.ts.take (k + 1) = b.ts.take (k + 1)) := Lib.hid (take_same hlt hlt' HT.out)
                      have HF : Hid (¬ a.ts[k] = b.ts[k] → false = G) := Lib.hid (fun hn => HN.out fun e => hn (by subst e; rfl))
                      have HX := Lib.hid (HIH.out _ (List.getElem_mem hlt) b.ts[k] e1 e2)
                      have HI1 := Lib.hid i1
                      have HI2 := Lib.hid i2
                      clear i1 i2
                      generalize a.ts[k] = x at l0 l1 l2 l3 l4 HY HF HX HI1
                      generalize b.ts[k] = y at m0 m1 m2 m3 m4 HY HF HX HI2
                      have HZ : Hid (∀ W, Below wr.heap.size wr W → Calls Try.prog 11 #[x.val e1, y.val e2] W fun e w' => e = .returned (.bool (same x y)) ∧ Below W.heap.size W w') :=
                        Lib.hid (fun W hW => HX.out W (Tm.In.mono (Nat.le_trans HK.out.bel.size hW.size) _ _ (Tm.In.below (hW.mono HK.out.bel.size) _ _ HI1.out)) (Tm.In.mono (Nat.le_trans HK.out.bel.size hW.size) _ _ (Tm.In.below (hW.mono HK.out.bel.size) _ _ HI2.out)))
                      unfold Tm.val Tm.vals at HZ
                      have z1 : w.heap.size < wr.heap.size := World.block_lt_of_cell? wr _ c4
                      have z2 : w.heap.size + 1 < wr.heap.size := World.block_lt_of_cell? wr _ d4
                      have z3 : b1 < wr.heap.size := World.block_lt_of_cell? wr _ l0
                      have z4 : b2 < wr.heap.size := World.block_lt_of_cell? wr _ m0
                      clear HX HI1 HI2 hlt' hb1 hb2
                      cases hr : same x y
                      · have HF1 := Lib.hid (HF.out (fun e => by rw [same_iff.2 e] at hr; cases hr))
                        rw [hr] at HZ
                        clear hr HF HY
                        go_wp2_with fail
                        go_region_held3 (fun w' => w'.cell? ⟨w.heap.size, 0 + 4, none⟩ = some (.slice (some ⟨b1, off1, none⟩) a.ts.length h.tc) ∧ w'.cell? ⟨w.heap.size + 1, 0 + 4, none⟩ = some (.slice (some ⟨b2, off2, none⟩) a.ts.length h'.tc) ∧ w'.cell? ⟨b1, off1 + k * 5, none⟩ = some (.int .u8 x.k) ∧ w'.cell? ⟨b1, off1 + k * 5 + 1, none⟩ = some (.int .i64 x.n) ∧ w'.cell? ⟨b1, off1 + k * 5 + 2, none⟩ = some (.string x.s) ∧ w'.cell? ⟨b1, off1 + k * 5 + 3, none⟩ = some (.slice e1.lo x.ls.length e1.lc) ∧ w'.cell? ⟨b1, off1 + k * 5 + 4, none⟩ = some (.slice e1.to x.ts.length e1.tc) ∧ w'.cell? ⟨b2, off2 + k * 5, none⟩ = some (.int .u8 y.k) ∧ w'.cell? ⟨b2, off2 + k * 5 + 1, none⟩ = some (.int .i64 y.n) ∧ w'.cell? ⟨b2, off2 + k * 5 + 2, none⟩ = some (.string y.s) ∧ w'.cell? ⟨b2, off2 + k * 5 + 3, none⟩ = some (.slice e2.lo y.ls.length e2.lc) ∧ w'.cell? ⟨b2, off2 + k * 5 + 4, none⟩ = some (.slice e2.to y.ts.length e2.tc))
                          (go_keep)
                          ((go_at_call 11; refine (HZ.out _ ?_).mono ?_; exact (Below.refl _ _).drew; rintro e w1 ⟨rfl, bw⟩; have q1 := (bw.cell (p := ⟨w.heap.size, 0 + 4, none⟩) z1).trans c4; have q2 := (bw.cell (p := ⟨w.heap.size + 1, 0 + 4, none⟩) z2).trans d4; obtain ⟨r0, r1, r2, r3, r4⟩ := TCells.below ⟨l0, l1, l2, l3, l4⟩ (undrew bw) z3; obtain ⟨s0, s1, s2, s3, s4⟩ := TCells.below ⟨m0, m1, m2, m3, m4⟩ (undrew bw) z4))
                        have HK1 := Lib.hid (HK.out.step (undrew bw))
                        clear bw r0 r1 r2 r3 r4 s0 s1 s2 s3 s4 q1 q2 c4 d4 l0 l1 l2 l3 l4 m0 m1 m2 m3 m4
                        go_wp2_with fail
                        go_ret
                        exact ⟨ret_bool HF1.out, HK1.out.bel⟩
                      · have HY1 := Lib.hid (HY.out (same_iff.1 hr))
                        rw [hr] at HZ
                        clear hr HF HY
                        go_wp2_with fail
                        go_region_held3 (fun w' => w'.cell? ⟨w.heap.size, 0 + 4, none⟩ = some (.slice (some ⟨b1, off1, none⟩) a.ts.length h.tc) ∧ w'.cell? ⟨w.heap.size + 1, 0 + 4, none⟩ = some (.slice (some ⟨b2, off2, none⟩) a.ts.length h'.tc) ∧ w'.cell? ⟨b1, off1 + k * 5, none⟩ = some (.int .u8 x.k) ∧ w'.cell? ⟨b1, off1 + k * 5 + 1, none⟩ = some (.int .i64 x.n) ∧ w'.cell? ⟨b1, off1 + k * 5 + 2, none⟩ = some (.string x.s) ∧ w'.cell? ⟨b1, off1 + k * 5 + 3, none⟩ = some (.slice e1.lo x.ls.length e1.lc) ∧ w'.cell? ⟨b1, off1 + k * 5 + 4, none⟩ = some (.slice e1.to x.ts.length e1.tc) ∧ w'.cell? ⟨b2, off2 + k * 5, none⟩ = some (.int .u8 y.k) ∧ w'.cell? ⟨b2, off2 + k * 5 + 1, none⟩ = some (.int .i64 y.n) ∧ w'.cell? ⟨b2, off2 + k * 5 + 2, none⟩ = some (.string y.s) ∧ w'.cell? ⟨b2, off2 + k * 5 + 3, none⟩ = some (.slice e2.lo y.ls.length e2.lc) ∧ w'.cell? ⟨b2, off2 + k * 5 + 4, none⟩ = some (.slice e2.to y.ts.length e2.tc))
                          (go_keep)
                          ((go_at_call 11; refine (HZ.out _ ?_).mono ?_; exact (Below.refl _ _).drew; rintro e w1 ⟨rfl, bw⟩; have q1 := (bw.cell (p := ⟨w.heap.size, 0 + 4, none⟩) z1).trans c4; have q2 := (bw.cell (p := ⟨w.heap.size + 1, 0 + 4, none⟩) z2).trans d4; obtain ⟨r0, r1, r2, r3, r4⟩ := TCells.below ⟨l0, l1, l2, l3, l4⟩ (undrew bw) z3; obtain ⟨s0, s1, s2, s3, s4⟩ := TCells.below ⟨m0, m1, m2, m3, m4⟩ (undrew bw) z4))
                        have HK1 := Lib.hid (HK.out.step (undrew bw))
                        clear bw r0 r1 r2 r3 r4 s0 s1 s2 s3 s4 q1 q2 c4 d4 l0 l1 l2 l3 l4 m0 m1 m2 m3 m4
                        go_wp2_with fail
                        go_roundw
                        case rel => exact ⟨k + 1, by go_num, by omega, HY1.out, HK1.out⟩
                        case measure => simp [intOf]; omega
                    · have HE : Hid (true = G) := Lib.hid (by
                        rw [HG.out]
                        exact same_yes (Tm.ext H1.out H2.out H3.out HLS.out (all_same H5.out (by omega) HT.out)))
                      go_wp2_with fail
                      go_ret
                      exact ⟨ret_bool HE.out, HK.out.bel⟩
            · have HF1 : Hid (false = G) := Lib.hid (HN.out (fun e => h5 (by rw [e])))
              have q : ((a.ts.length : Int) != b.ts.length) = true := by simp; omega
              unfold Tm.val Tm.vals
              rw [← h1, ← h2, ← h3, ← h4]
              clear h5 h1 h2 h3 h4
              go_enter Try.func11, Try.ntmps11
              go_wp2_with fail
              go_ret
              exact ⟨ret_bool HF1.out, below_two _ _ _⟩
          · have HF1 : Hid (false = G) := Lib.hid (HN.out (fun e => h4 (by rw [e])))
            have q : ((a.ls.length : Int) != b.ls.length) = true := by simp; omega
            unfold Tm.val Tm.vals
            rw [← h1, ← h2, ← h3]
            clear h4 h1 h2 h3
            go_enter Try.func11, Try.ntmps11
            go_wp2_with fail
            go_ret
            exact ⟨ret_bool HF1.out, below_two _ _ _⟩
        · have HF1 : Hid (false = G) := Lib.hid (HN.out (fun e => h3 (by rw [e])))
          have q : ¬ a.s.toList = b.s.toList := fun e => h3 (Go.WideShapes.bytes_inj (by rwa [ByteArray.toList_eq, ByteArray.toList_eq] at e))
          unfold Tm.val Tm.vals
          rw [← h1, ← h2]
          clear h3 h1 h2
          go_enter Try.func11, Try.ntmps11
          go_wp2_with fail
          go_ret
          exact ⟨ret_bool HF1.out, below_two _ _ _⟩
      · have HF1 : Hid (false = G) := Lib.hid (HN.out (fun e => h2 (by rw [e])))
        have q : (a.n != b.n) = true := by simpa using h2
        unfold Tm.val Tm.vals
        rw [← h1]
        clear h2 h1
        go_enter Try.func11, Try.ntmps11
        go_wp2_with fail
        go_ret
        exact ⟨ret_bool HF1.out, below_two _ _ _⟩
    · have HF1 : Hid (false = G) := Lib.hid (HN.out (fun e => h1 (by rw [e])))
      have q : (a.k != b.k) = true := by simpa using h1
      unfold Tm.val Tm.vals
      clear h1 
      go_enter Try.func11, Try.ntmps11
      go_wp2_with fail
      go_ret
      exact ⟨ret_bool HF1.out, below_two _ _ _⟩
end Go.Proofs.Ytjicdmohnfcflaa


namespace Go.Proofs.Ytjicdmohnfcflaa
open Go.RowKit Go.Shelf Lvl Trm

/-- wr is w behind some draws. -/
def Trm.Drawn (w wr : World) : Prop := ∃ n, wr = w.drewN n
theorem Trm.Drawn.refl (w : World) : Drawn w w := ⟨0, by simp [World.drewN]⟩
theorem Trm.Drawn.of (w : World) (n : Nat) : Drawn w (w.drewN n) := ⟨n, rfl⟩
theorem Trm.Drawn.more {w wr : World} (h : Drawn w wr) (n : Nat) : Drawn w (wr.drewN n) := by
  obtain ⟨a, rfl⟩ := h
  exact ⟨a + n, by rw [World.drewN_drewN]⟩
theorem Trm.Drawn.heap {w wr : World} (h : Drawn w wr) : wr.heap = w.heap := by
  obtain ⟨a, rfl⟩ := h
  simp [World.drewN]
theorem Trm.Drawn.below {w wr : World} (h : Drawn w wr) (B : Nat) : Below B w wr := by
  obtain ⟨a, rfl⟩ := h
  exact drew_below _ _ _
theorem Trm.cell_heap {w wr : World} (h : wr.heap = w.heap) (p : Addr) : wr.cell? p = w.cell? p := by simp [World.cell?, h]
theorem Trm.LAt.heap {w wr : World} {b o : Nat} {l : Lv} (h : wr.heap = w.heap) (g : LAt w b o l) : LAt wr b o l :=
  ⟨(cell_heap h _).trans g.1, (cell_heap h _).trans g.2.1, (cell_heap h _).trans g.2.2.1, (cell_heap h _).trans g.2.2.2.1, (cell_heap h _).trans g.2.2.2.2⟩
theorem Trm.LRow.heap {w wr : World} {ao : Option Addr} {ls : List Lv} (h : wr.heap = w.heap) (g : LRow w ao ls) : LRow wr ao ls := by
  refine ⟨fun k hk => ?_⟩
  obtain ⟨b, off, hao, ha⟩ := g.place k hk
  exact ⟨b, off, hao, LAt.heap h ha⟩
theorem Trm.TCells.heap {w wr : World} {b o : Nat} {t : Tm} {h : Hd} (e : wr.heap = w.heap) (c : TCells w b o t h) : TCells wr b o t h :=
  ⟨(cell_heap e _).trans c.c0, (cell_heap e _).trans c.c1, (cell_heap e _).trans c.c2, (cell_heap e _).trans c.c3, (cell_heap e _).trans c.c4⟩
theorem Trm.In.heap {B : Nat} {w wr : World} (e : wr.heap = w.heap) (t : Tm) : ∀ h, t.In B w h → t.In B wr h := by
  induction t using Tm.ind with
  | h t ih =>
    intro h hi
    obtain ⟨h1, h2, h3, h4⟩ := Tm.In_iff.1 hi
    refine Tm.In_iff.2 ⟨h1, LRow.heap e h2, h3, RowIn.mk fun k hk => ?_⟩
    obtain ⟨b, off, hao, hb, h', hc, hin⟩ := h4.place k hk
    exact ⟨b, off, hao, hb, h', TCells.heap e hc, ih _ (List.getElem_mem hk) h' hin⟩

noncomputable def Trm.sameL (a b : List Lv) : Bool := @decide (a = b) (Classical.propDecidable _)
theorem Trm.sameL_iff {a b : List Lv} : sameL a b = true ↔ a = b := by unfold sameL; simp
theorem Trm.sameL_yes {a b : List Lv} (h : a = b) : true = sameL a b := (sameL_iff.2 h).symm
theorem Trm.sameL_no {a b : List Lv} (h : ¬ a = b) : false = sameL a b := by
  cases hs : sameL a b
  · rfl
  · exact absurd (sameL_iff.1 hs) h

def Trm.EqRel (w : World) (ls ls' : List Lv) (i : Value) (wr : World) : Prop :=
  ∃ k : Nat, i = .int .i64 k ∧ k ≤ ls.length ∧ ls.take k = ls'.take k ∧ Drawn w wr

def Trm.TsDr (w : World) (ls ls' : List Tm) (i : Value) (wr : World) : Prop :=
  ∃ k : Nat, i = .int .i64 k ∧ k ≤ ls.length ∧ ls.take k = ls'.take k ∧ Drawn w wr

end Go.Proofs.Ytjicdmohnfcflaa


namespace Go.Proofs.Ytjicdmohnfcflaa
open Go.RowKit Go.Shelf Lvl Trm

theorem Trm.carry {t : Tm} {h : Hd} {w w' : World} (hi : t.In w.heap.size w h) (b : Below w.heap.size w w') : t.In w'.heap.size w' h := Tm.In.mono b.size _ _ (Tm.In.below b _ _ hi)
theorem Trm.go {w W w1 : World} (h : Below w.heap.size w W) (b : Below W.heap.size W w1) : Below w.heap.size w w1 := h.trans (b.mono h.size)

theorem Trm.appl_snoc (g : Tm) (m : List Tm) (x : Tm) : appl g (m ++ [x]) = t2 4 (appl g m) x := by simp [appl]
theorem Trm.t2_inj {f x f' x' : Tm} (h : t2 4 f x = t2 4 f' x') : f = f' ∧ x = x' := by
  unfold t2 at h
  injection h with _ _ _ _ h5
  injection h5 with h6 h7
  injection h7 with h8
  exact ⟨h6, h8⟩
theorem Trm.appl_uniq {g g' : Tm} (hg : g.k ≠ 4) (hg' : g'.k ≠ 4) : ∀ (r r' : List Tm), appl g r.reverse = appl g' r'.reverse → g = g' ∧ r = r'
  | [], [], h => ⟨h, rfl⟩
  | [], x :: r', h => by
    rw [List.reverse_cons, appl_snoc] at h
    exact absurd (show g.k = 4 by rw [show g = _ from h]; rfl) hg
  | x :: r, [], h => by
    rw [List.reverse_cons, appl_snoc] at h
    exact absurd (show g'.k = 4 by rw [← show _ = g' from h]; rfl) hg'
  | x :: r, y :: r', h => by
    rw [List.reverse_cons, List.reverse_cons, appl_snoc, appl_snoc] at h
    obtain ⟨h1, h2⟩ := t2_inj h
    obtain ⟨h3, h4⟩ := Trm.appl_uniq hg hg' r r' h1
    exact ⟨h3, by rw [h2, h4]⟩
theorem Trm.appl_same {g g' : Tm} {m m' : List Tm} (hg : g.k ≠ 4) (hg' : g'.k ≠ 4) (h : appl g m = appl g' m') : g = g' ∧ m = m' := by
  have := appl_uniq hg hg' m.reverse m'.reverse (by simpa using h)
  exact ⟨this.1, List.reverse_inj.1 this.2⟩

def Trm.sf : ByteArray := ⟨#[102]⟩
def Trm.w1t : Tm := t2 5 tS (t2 4 (tV 0) (tV 1))
def Trm.w2t : Tm := t2 4 (t2 4 (tC sf) (tV 0)) (tV 1)
def Trm.zeroTm : Tm := .mk 0 0 no [] []

theorem Trm.w2_spine {g : Tm} {m : List Tm} (h : w2t = appl g m) (hg : g.k ≠ 4) : g = tC sf ∧ m = [tV 0, tV 1] :=
  appl_same hg (by decide) (h.symm.trans rfl)

end Go.Proofs.Ytjicdmohnfcflaa


namespace Go.Proofs.Ytjicdmohnfcflaa
open Go.RowKit Go.Shelf Lvl Trm

theorem Trm.firm_tV {P : Nat → Prop} {w : World} {n : Int} {lc tc : Nat} (h0 : -9223372036854775808 ≤ n) (h1 : n ≤ 9223372036854775807) : FirmS P w (tV n) ⟨none, lc, none, tc⟩ := fun _ _ => leaf_in (by decide) (by decide) h0 h1 (by decide)
theorem Trm.RanS.none_below {w w' : World} (h : RanS (fun _ => False) w w') : Below w.heap.size w w' := ⟨h.os, h.tape, h.output, h.size, fun k hk => h.block k hk (fun hf => hf)⟩

theorem Trm.run_min (x y : Int) (ats : Array TypeId) (ty : TypeId) (w : World) : (Builtin.min_ ats ty #[.int .i64 x, .int .i64 y]).run Try.prog w = .ok (.int .i64 (min x y)) w := by
  by_cases h : y < x
  · have e : min x y = y := by omega
    rw [e]
    simp [Builtin.min_, Builtin.min2, go_sem, h]
  · have e : min x y = x := by omega
    rw [e]
    simp [Builtin.min_, Builtin.min2, go_sem, h]

end Go.Proofs.Ytjicdmohnfcflaa


namespace Go.Proofs.Ytjicdmohnfcflaa
open Go.RowKit Go.Shelf Lvl Trm

namespace Trm
/-- What turned answers. -/
def tAns {σ : Type} (t : Tm) (R : σ × Int × Option Tm) : Tm := if R.2.1 = 0 then R.2.2.getD t else R.2.2.getD zeroT
/-- What answer answers. -/
def ansT (t : Tm) (e : Int) : Tm × Int := if e ≠ 0 then (zeroT, e) else if t.may = true then (t, 0) else (zeroT, 4)
end Trm

end Go.Proofs.Ytjicdmohnfcflaa


namespace Go.Proofs.Ytjicdmohnfcflaa
open Go.RowKit Go.Shelf Lvl Trm

/-- What Lift answers. -/
def Trm.liftAns (t : Tm) (fr by_ : Int) : Tm × Int := if fr < 0 ∨ t.may = false then (zeroT, 1) else if t.sinks fr (min by_ 2097152) = true then (zeroT, 7) else if (t.put (gLift fr (min by_ 2097152)) 0).may = true then (t.put (gLift fr (min by_ 2097152)) 0, 0) else (zeroT, 4)
theorem Lift_ans {t : Tm} {fr by_ : Int} (hmay : t.may = true) (hfr : ¬ fr < 0) : ansT (tAns t (t.thr (lfFree (toLift fr (min by_ 2097152))) () 0)) (t.thr (lfFree (toLift fr (min by_ 2097152))) () 0).2.1 = liftAns t fr by_ := by
  obtain ⟨h1, h2⟩ := thr_lift hmay fr (min by_ 2097152)
  unfold liftAns
  rw [if_neg (by rw [hmay]; simp; omega), h1]
  cases hs : t.sinks fr (min by_ 2097152)
  · unfold tAns ansT
    rw [h1, hs]
    simp only [Bool.false_eq_true, if_false, if_true]
    rw [h2 hs]
    simp
  · unfold ansT
    simp

end Go.Proofs.Ytjicdmohnfcflaa

