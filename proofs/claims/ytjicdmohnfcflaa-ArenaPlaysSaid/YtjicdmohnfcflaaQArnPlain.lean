/-
  Plain mathematics of layer 5 (arena): a list of terms, each once, parts ahead of what is made of them; what putting a term makes of it.
-/
import Derived.Test.YtjicdmohnfcflaaQB6
namespace Go.Proofs.Ytjicdmohnfcflaa
open Lvl Trm
namespace Arn
noncomputable instance decTm : DecidableEq Tm := fun _ _ => Classical.propDecidable _

/-- Terms, each once, all of which may be, parts ahead. -/
structure OkL (L : List Tm) : Prop where
  nodup : L.Nodup
  may : ∀ x ∈ L, x.may = true
  kids : ∀ (i : Nat) (h : i < L.length), ∀ y ∈ (L[i]).ts, y ∈ L.take i
theorem OkL.nil : OkL [] := ⟨List.nodup_nil, fun x h => by simp at h, fun i h => by simp at h⟩
theorem OkL.part {L : List Tm} (h : OkL L) {t y : Tm} (ht : t ∈ L) (hy : y ∈ t.ts) : y ∈ L := by
  obtain ⟨i, hi, rfl⟩ := List.getElem_of_mem ht
  exact List.mem_of_mem_take (h.kids i hi y hy)
theorem OkL.snoc {L : List Tm} (h : OkL L) {t : Tm} (hm : t.may = true) (hn : t ∉ L) (hp : ∀ y ∈ t.ts, y ∈ L) : OkL (L ++ [t]) where
  nodup := List.nodup_append.2 ⟨h.nodup, by simp, fun a ha b hb e => by simp at hb; subst hb; subst e; exact hn ha⟩
  may x hx := by
    rcases List.mem_append.1 hx with hx | hx
    · exact h.may x hx
    · simp at hx; subst hx; exact hm
  kids i hi y hy := by
    by_cases hl : i < L.length
    · rw [List.getElem_append_left hl] at hy
      rw [List.take_append_of_le_length (by omega)]
      exact h.kids i hl y hy
    · have hi2 : i = L.length := by simp at hi; omega
      subst hi2
      simp at hy
      rw [List.take_append_of_le_length (by omega), List.take_length]
      exact hp y hy

mutual
/-- A term is put: all its terms first; then, if it is not there, it. -/
noncomputable def Tm.ins : Tm → List Tm → List Tm
  | .mk k n s ls ts, L => if Tm.mk k n s ls ts ∈ insL ts L then insL ts L else insL ts L ++ [.mk k n s ls ts]
noncomputable def insL : List Tm → List Tm → List Tm
  | [], L => L
  | t :: r, L => insL r (Tm.ins t L)
end
theorem ins_eq (t : Tm) (L : List Tm) : Tm.ins t L = if t ∈ insL t.ts L then insL t.ts L else insL t.ts L ++ [t] := by cases t; rw [Tm.ins]; rfl
theorem insL_append : ∀ (a b L : List Tm), insL (a ++ b) L = insL b (insL a L)
  | [], b, L => by rw [List.nil_append, insL]
  | t :: r, b, L => by rw [List.cons_append, insL, insL, insL_append r b]
theorem insL_one (x : Tm) (L : List Tm) : insL [x] L = Tm.ins x L := by rw [insL, insL]
theorem insL_take {ts : List Tm} {k : Nat} (h : k < ts.length) (L : List Tm) : insL (ts.take (k + 1)) L = Tm.ins ts[k] (insL (ts.take k) L) := by
  rw [List.take_succ_eq_append_getElem h, insL_append, insL_one]

mutual
theorem ins_prefix : ∀ (t : Tm) (L : List Tm), L <+: Tm.ins t L
  | .mk k n s ls ts, L => by
    rw [Tm.ins]
    split
    · exact insL_prefix ts L
    · exact (insL_prefix ts L).trans (List.prefix_append _ _)
theorem insL_prefix : ∀ (ts : List Tm) (L : List Tm), L <+: insL ts L
  | [], L => by rw [insL]; exact List.prefix_refl _
  | t :: r, L => by rw [insL]; exact (ins_prefix t L).trans (insL_prefix r _)
end
theorem ins_mem (t : Tm) (L : List Tm) : t ∈ Tm.ins t L := by
  rw [ins_eq]
  split
  · assumption
  · simp
theorem insL_mem : ∀ (ts : List Tm) (L : List Tm), ∀ x ∈ ts, x ∈ insL ts L
  | t :: r, L, x, hx => by
    rw [insL]
    rcases List.mem_cons.1 hx with rfl | hx
    · exact (insL_prefix r _).subset (ins_mem _ L)
    · exact insL_mem r _ x hx
mutual
theorem ins_len : ∀ (t : Tm) (L : List Tm), ((Tm.ins t L).length : Int) ≤ L.length + t.size
  | .mk k n s ls ts, L => by
    rw [Tm.ins, Tm.size]
    have := insL_len ts L
    split
    · omega
    · simp; omega
theorem insL_len : ∀ (ts : List Tm) (L : List Tm), ((insL ts L).length : Int) ≤ L.length + sizeL ts
  | [], L => by rw [insL, sizeL]; omega
  | t :: r, L => by
    rw [insL, sizeL]
    have h1 := ins_len t L
    have h2 := insL_len r (Tm.ins t L)
    omega
end
theorem soundL_mem {x : Tm} : ∀ {ts : List Tm}, soundL ts → x ∈ ts → x.sound
  | t :: r, h, hx => by
    rw [soundL] at h
    rcases List.mem_cons.1 hx with rfl | hx
    · exact h.1
    · exact soundL_mem h.2 hx
theorem htL_mem {x : Tm} : ∀ {ts : List Tm}, x ∈ ts → x.ht ≤ htL ts
  | t :: r, hx => by
    rw [htL]
    rcases List.mem_cons.1 hx with rfl | hx
    · omega
    · have := htL_mem hx; omega
theorem sizeL_mem {x : Tm} : ∀ {ts : List Tm}, x ∈ ts → x.size ≤ sizeL ts
  | t :: r, hx => by
    rw [sizeL]
    rcases List.mem_cons.1 hx with rfl | hx
    · have := sizeL_ge r; omega
    · have := sizeL_mem hx; have := t.size_pos; omega
theorem ht_eq (t : Tm) : t.ht = 1 + htL t.ts := by cases t; rw [Tm.ht]; rfl
theorem size_part {t x : Tm} (hx : x ∈ t.ts) : x.size < t.size := by
  have := sizeL_mem hx; rw [Tm.size_eq t]; omega
theorem may_part {t x : Tm} (h : t.may = true) (hx : x ∈ t.ts) : x.may = true := by
  obtain ⟨hs, hh⟩ := may_sound h
  have hz := may_size' h
  refine may_of ?_ (by have := size_part hx; omega) (by have := htL_mem hx; rw [ht_eq] at hh; omega)
  cases t with
  | mk k n s ls ts => rw [Tm.sound] at hs; exact soundL_mem hs.2 hx
theorem may_node {t : Tm} (h : t.may = true) : t.node = true := by
  obtain ⟨hs, hh⟩ := may_sound h
  cases t with
  | mk k n s ls ts => rw [Tm.sound] at hs; exact hs.1
theorem insL_ok_of {ts : List Tm} (ih : ∀ x ∈ ts, ∀ L, OkL L → x.may = true → OkL (Tm.ins x L)) : ∀ L, OkL L → (∀ x ∈ ts, x.may = true) → OkL (insL ts L) := by
  induction ts with
  | nil => intro L h _; rw [insL]; exact h
  | cons x r ihr =>
    intro L h hm
    rw [insL]
    exact ihr (fun y hy => ih y (by simp [hy])) _ (ih x (by simp) L h (hm x (by simp))) (fun y hy => hm y (by simp [hy]))
theorem ins_ok (t : Tm) : ∀ L, OkL L → t.may = true → OkL (Tm.ins t L) := by
  induction t using Tm.ind with
  | h t ih =>
    intro L h hm
    have h1 := insL_ok_of ih L h (fun x hx => may_part hm hx)
    rw [ins_eq]
    split
    · exact h1
    · rename_i hn
      exact h1.snoc hm hn (insL_mem _ _)
theorem insL_ok {ts : List Tm} {L : List Tm} (h : OkL L) (hm : ∀ x ∈ ts, x.may = true) : OkL (insL ts L) := insL_ok_of (fun x _ => ins_ok x) L h hm
theorem insL_same_of {ts : List Tm} (ih : ∀ x ∈ ts, ∀ L, OkL L → x ∈ L → Tm.ins x L = L) : ∀ L, OkL L → (∀ x ∈ ts, x ∈ L) → insL ts L = L := by
  induction ts with
  | nil => intro L h _; rw [insL]
  | cons x r ihr =>
    intro L h hm
    rw [insL, ih x (by simp) L h (hm x (by simp))]
    exact ihr (fun y hy => ih y (by simp [hy])) L h (fun y hy => hm y (by simp [hy]))
/-- What is there stays the only one. -/
theorem ins_same (t : Tm) : ∀ L, OkL L → t ∈ L → Tm.ins t L = L := by
  induction t using Tm.ind with
  | h t ih =>
    intro L h hm
    rw [ins_eq, insL_same_of ih L h (fun x hx => h.part hm hx), if_pos hm]
theorem insL_same {ts L : List Tm} (h : OkL L) (hm : ∀ x ∈ ts, x ∈ L) : insL ts L = L := insL_same_of (fun x _ => ins_same x) L h hm

/-- What is put is within: only terms that are not greater come to be there. -/
theorem insL_small_of {ts : List Tm} (ih : ∀ x ∈ ts, ∀ L, ∀ y ∈ Tm.ins x L, y ∈ L ∨ y.size ≤ x.size) : ∀ L, ∀ y ∈ insL ts L, y ∈ L ∨ y.size ≤ sizeL ts := by
  induction ts with
  | nil => intro L y hy; rw [insL] at hy; exact Or.inl hy
  | cons x r ihr =>
    intro L y hy
    rw [insL] at hy
    rw [sizeL]
    have hx := x.size_pos
    have hr := sizeL_ge r
    rcases ihr (fun z hz => ih z (by simp [hz])) _ y hy with h | h
    · rcases ih x (by simp) L y h with h | h
      · exact Or.inl h
      · exact Or.inr (by omega)
    · exact Or.inr (by omega)
theorem ins_small (t : Tm) : ∀ L, ∀ y ∈ Tm.ins t L, y ∈ L ∨ y.size ≤ t.size := by
  induction t using Tm.ind with
  | h t ih =>
    intro L y hy
    rw [ins_eq] at hy
    have h1 := insL_small_of ih L
    rw [Tm.size_eq t]
    have key : y ∈ insL t.ts L → y ∈ L ∨ y.size ≤ 1 + sizeL t.ts := fun hy => (h1 y hy).imp id (fun h => by omega)
    split at hy
    · exact key hy
    · rcases List.mem_append.1 hy with hy | hy
      · exact key hy
      · simp at hy; subst hy; exact Or.inr (by rw [Tm.size_eq]; omega)
theorem insL_small (ts L : List Tm) : ∀ y ∈ insL ts L, y ∈ L ∨ y.size ≤ sizeL ts := insL_small_of (fun x _ => ins_small x) L
/-- The document's way: what is not there is not among its parts either. -/
theorem ins_new {t : Tm} {L : List Tm} (h : t ∉ L) : Tm.ins t L = insL t.ts L ++ [t] := by
  rw [ins_eq, if_neg]
  intro hm
  rcases insL_small t.ts L t hm with h1 | h1
  · exact h h1
  · rw [Tm.size_eq t] at h1; omega

/-- The number of a term. -/
noncomputable def num (L : List Tm) (t : Tm) : Nat := L.idxOf t
theorem num_lt {L : List Tm} {t : Tm} (h : t ∈ L) : num L t < L.length := List.idxOf_lt_length_iff.2 h
theorem num_prefix {L M : List Tm} (h : L <+: M) {t : Tm} (ht : t ∈ L) : num M t = num L t := by
  obtain ⟨r, rfl⟩ := h
  unfold num; rw [List.idxOf_append, if_pos ht]
theorem num_get {L : List Tm} {t : Tm} (h : t ∈ L) : L[num L t]'(num_lt h) = t := List.getElem_idxOf _
theorem num_at {L : List Tm} (h : OkL L) {i : Nat} (hi : i < L.length) : num L L[i] = i := h.nodup.idxOf_getElem i hi
theorem num_inj {L : List Tm} {a b : Tm} (ha : a ∈ L) (hb : b ∈ L) (h : num L a = num L b) : a = b := by
  rw [← num_get ha, ← num_get hb]; simp only [h]
theorem num_snoc {L : List Tm} {t : Tm} (h : t ∉ L) : num (L ++ [t]) t = L.length := by
  unfold num; rw [List.idxOf_append, if_neg h]; simp
theorem num_none {L : List Tm} {t : Tm} (h : t ∉ L) : num L t = L.length := List.idxOf_eq_length h

/-! sizes -/
mutual
theorem vs_succ : ∀ (t : Tm) (u : Int), top (t.vs (u + 1)) = max 0 (top (t.vs u) - 1)
  | .mk k n s ls ts, u => by
    rw [Tm.vs, Tm.vs, top_append, top_append, vsL_succ k ts 0 u]
    by_cases hk : k = 2
    · by_cases h1 : u + 1 ≤ n
      · rw [if_pos ⟨hk, h1⟩, if_pos ⟨hk, by omega⟩]; simp [Trm.top]; omega
      · rw [if_neg (fun h => h1 h.2)]
        by_cases h2 : u ≤ n
        · rw [if_pos ⟨hk, h2⟩]; simp [Trm.top]; omega
        · rw [if_neg (fun h => h2 h.2)]; simp [Trm.top]; omega
    · rw [if_neg (fun h => hk h.1), if_neg (fun h => hk h.1)]; simp [Trm.top]; omega
theorem vsL_succ (k : Int) : ∀ (ts : List Tm) (i : Nat) (u : Int), top (vsL k ts i (u + 1)) = max 0 (top (vsL k ts i u) - 1)
  | [], i, u => by rw [vsL, vsL]; simp [Trm.top]; omega
  | t :: r, i, u => by
    have hu : under k i (u + 1) = under k i u + 1 := by unfold under; split <;> omega
    rw [vsL, vsL, top_append, top_append, hu, vs_succ t, vsL_succ k r]
    omega
end
/-- What the terms behind a place have of free variables. -/
def frK (k : Int) : List Tm → Nat → Int
  | [], _ => 0
  | x :: r, i => max (x.free - bnd k i) (frK k r (i + 1))
theorem frK_ge (k : Int) : ∀ (ts : List Tm) (i : Nat), 0 ≤ frK k ts i
  | [], i => by rw [frK]; omega
  | x :: r, i => by rw [frK]; have := frK_ge k r (i + 1); omega
theorem frK_top {k : Int} : ∀ {ts : List Tm} {i : Nat}, (∀ x ∈ ts, x.may = true) → ((i + ts.length : Nat) : Int) = kids k → top (vsL k ts i 0) = frK k ts i
  | [], i, _, _ => by rw [vsL, frK]; rfl
  | [x], i, hm, hk => by
    rw [vsL, vsL, frK, frK, List.append_nil, free_top (hm x (by simp)), ← bnd_under]
    have h0 := top_ge (x.vs 0)
    have hb : bnd k i = 0 ∨ bnd k i = 1 := by unfold bnd; split <;> simp
    rcases hb with hb | hb
    · rw [hb]; simp; omega
    · rw [hb]; have := vs_succ x 0; simp at this ⊢; omega
  | x :: y :: r, i, hm, hk => by
    have hb : bnd k i = 0 := by
      unfold bnd
      rw [if_neg]
      simp only [List.length_cons] at hk
      rintro (⟨h5 | h5, h1⟩ | ⟨h5, h1⟩) <;> (subst h5; simp [kids] at hk; omega)
    have hu : under k i 0 = 0 := by rw [← bnd_under, hb]; rfl
    rw [vsL, frK, hu, top_append, frK_top (ts := y :: r) (fun z hz => hm z (by simp only [List.mem_cons] at hz ⊢; exact Or.inr hz)) (by simp only [List.length_cons] at hk ⊢; omega), free_top (hm x (by simp)), hb]
    omega
theorem node_kids {t : Tm} (h : t.node = true) : (t.ts.length : Int) = kids t.k := by
  unfold Tm.node at h
  simp only [Bool.and_eq_true, decide_eq_true_eq] at h
  exact h.1.1.1.1.2
theorem free_eq {t : Tm} (h : t.may = true) : t.free = max (if t.k = 2 then t.n + 1 else 0) (frK t.k t.ts 0) := by
  have h1 := free_top h
  have hk := node_kids (may_node h)
  have h2 := frK_top (k := t.k) (ts := t.ts) (i := 0) (fun x hx => may_part h hx) (by rw [← hk]; simp)
  have h3 : t.vs 0 = (if t.k = 2 ∧ 0 ≤ t.n then [t.n - 0] else []) ++ vsL t.k t.ts 0 0 := by cases t; rw [Tm.vs]; rfl
  rw [h1, h3, top_append, h2]
  congr 1
  by_cases h4 : t.k = 2
  · have hn : 0 ≤ t.n := (node_num (may_node h)).1
    rw [if_pos ⟨h4, hn⟩, if_pos h4]; simp [Trm.top]; omega
  · rw [if_neg (fun h => h4 h.1), if_neg h4]; simp [Trm.top]
theorem free_nonneg {t : Tm} (h : t.may = true) : 0 ≤ t.free := by rw [free_top h]; exact top_ge _
theorem free_most {t : Tm} (h : t.may = true) : t.free ≤ 1048577 := by
  induction t using Tm.ind with
  | h t ih =>
    rw [free_eq h]
    have hn := (node_num (may_node h)).2
    have key : ∀ (ts : List Tm) (i : Nat), (∀ x ∈ ts, x.free ≤ 1048577) → frK t.k ts i ≤ 1048577 := by
      intro ts
      induction ts with
      | nil => intro i _; rw [frK]; omega
      | cons x r ihr =>
        intro i hx
        rw [frK]
        have h1 := hx x (by simp)
        have h2 := ihr (i + 1) (fun y hy => hx y (by simp [hy]))
        have h3 : 0 ≤ bnd t.k i := by unfold bnd; split <;> omega
        omega
    have := key t.ts 0 (fun x hx => ih x hx (may_part h hx))
    split <;> omega
end Arn
end Go.Proofs.Ytjicdmohnfcflaa

