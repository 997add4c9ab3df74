/-
  'append([]api.Level{}, by...)': levels, copied into a slice of one's own.
-/
import Derived.Test.YtfechgahafbphaaTrmSpine
import Derived.Test.YtfechgahafbphaaLevMath2
import Derived.Laws.AppendOwnNone
namespace Go.Proofs.Ytfechgahafbphaa
open Go.RowKit Go.Shelf Lvl Trm

theorem Lvl.infoL : (Try.prog.info? 44).map (fun i => (i.zero, i.size, i.bytes)) = some (some (.agg #[.int .i64 0, .int .i64 0, .int .i64 0, .int .i64 0, .int .i64 0]), 5, 40) := by kernel_rfl
namespace Lvl
def Lv.list5 (l : Lv) : List Value := [.int .i64 l.c, .int .i64 l.p0, .int .i64 l.p1, .int .i64 l.p2, .int .i64 l.p3]
def flatL (ls : List Lv) : List Value := ls.flatMap Lv.list5
theorem flatL_len (ls : List Lv) : (flatL ls).length = ls.length * 5 := by
  induction ls with
  | nil => rfl
  | cons p r ih => simp only [flatL, List.flatMap_cons, List.length_append, List.length_cons] at ih ⊢; rw [ih]; simp [Lv.list5]; omega
theorem flatL_at (ls : List Lv) : ∀ k (hk : k < ls.length) q, q < 5 → (flatL ls)[k * 5 + q]? = (ls[k]).list5[q]? := by
  induction ls with
  | nil => intro k hk; simp at hk
  | cons p r ih =>
    intro k hk q hq
    have h5 : p.list5.length = 5 := rfl
    match k, hk with
    | 0, _ =>
      show (p.list5 ++ flatL r)[0 * 5 + q]? = _
      rw [List.getElem?_append_left (by omega)]
      simp
    | k + 1, hk =>
      show (p.list5 ++ flatL r)[(k + 1) * 5 + q]? = _
      rw [List.getElem?_append_right (by omega), h5, show (k + 1) * 5 + q - 5 = k * 5 + q by omega]
      exact ih k (by simpa using hk) q hq
theorem flatL_one (ls : List Lv) : ∀ u ∈ flatL ls, u.oneCell' = true := by
  intro u hu
  unfold flatL at hu
  rw [List.mem_flatMap] at hu
  obtain ⟨p, _, hp⟩ := hu
  simp [Lv.list5] at hp
  rcases hp with rfl | rfl | rfl | rfl | rfl <;> rfl
theorem flatL_cell {w : World} {b off : Nat} {ls : List Lv} (h : ∀ k (hk : k < ls.length), LAt w b (off + k * 5) ls[k]) : ∀ j u, (flatL ls)[j]? = some u → w.cell? ⟨b, off + j, none⟩ = some u := fun j u hj => by
  have hjl : j < ls.length * 5 := by rw [← flatL_len]; exact (List.getElem?_eq_some_iff.1 hj).1
  have hk : j / 5 < ls.length := by omega
  have hq : j % 5 < 5 := Nat.mod_lt _ (by omega)
  have e := flatL_at ls (j / 5) hk (j % 5) hq
  rw [show j / 5 * 5 + j % 5 = j by omega, hj] at e
  obtain ⟨c0, c1, c2, c3, c4⟩ := h (j / 5) hk
  have h5 : j % 5 = 0 ∨ j % 5 = 1 ∨ j % 5 = 2 ∨ j % 5 = 3 ∨ j % 5 = 4 := by omega
  rcases h5 with h | h | h | h | h <;> rw [h] at e <;> simp [Lv.list5] at e <;> subst e
  · rw [show off + j = off + j / 5 * 5 by omega]; exact c0
  · rw [show off + j = off + j / 5 * 5 + 1 by omega]; exact c1
  · rw [show off + j = off + j / 5 * 5 + 2 by omega]; exact c2
  · rw [show off + j = off + j / 5 * 5 + 3 by omega]; exact c3
  · rw [show off + j = off + j / 5 * 5 + 4 by omega]; exact c4
/-- What a row of one's own says. -/
theorem row_of_own {w : World} {base n : Nat} {v : Value} {ls : List Lv} (hn : n = ls.length) (h : w.ownsRow base 44 5 v n (flatL ls)) : ∃ ao cap, v = .slice ao ls.length cap ∧ LRow w ao ls ∧ ∀ x, ao = some x → base ≤ x.block ∧ x.block < w.heap.size := by
  subst hn
  obtain ⟨hl, ⟨hv, h0⟩ | ⟨g, cap, cur, rfl, hb, hg, hm, hmx, hs, ht⟩⟩ := h
  · have h0' : ls.length = 0 := h0
    exact ⟨none, 0, by rw [hv, h0'], ⟨fun k hk => absurd hk (by omega)⟩, fun x hx => by cases hx⟩
  · have hgl : g < w.heap.size := (Array.getElem?_eq_some_iff.1 hg).1
    refine ⟨some ⟨g, 0, none⟩, cap, rfl, ⟨fun k hk => ⟨g, 0, rfl, ?_⟩⟩, fun x hx => by cases hx; exact ⟨hb, hgl⟩⟩
    have key : ∀ q, q < 5 → ∀ u, (ls[k]).list5[q]? = some u → w.cell? ⟨g, 0 + k * 5 + q, none⟩ = some u := fun q hq u hu => by
      rw [← flatL_at ls k hk q hq, ← ht, List.getElem?_take_of_lt (by omega), Array.getElem?_toList] at hu
      rw [Nat.zero_add]
      simp [World.cell?, hg, hu]
    exact ⟨key 0 (by omega) _ rfl, key 1 (by omega) _ rfl, key 2 (by omega) _ rfl, key 3 (by omega) _ rfl, key 4 (by omega) _ rfl⟩
/-- What an append of levels to an empty slice answers. -/
def RowPost (w0 : World) (ls : List Lv) (v' : Value) (w' : World) : Prop := ∃ ao' cap', v' = .slice ao' ls.length cap' ∧ LRow w' ao' ls ∧ ∀ x, ao' = some x → w0.heap.size ≤ x.block ∧ x.block < w'.heap.size
theorem wpList_append_levels {w0 : World} {ops : Array Oper} {rest : List Oper} {o : Oper} {a : Act} {Q : Exit → Act → World → Prop} (hgd : o.guard = none) (s x : Operand)
    (ho : o.op = .call { callee := .builtin .append, args := #[s, x], argTypes := #[45, 45] })
    (hs : a.eval s = .slice (some ⟨w0.heap.size, 0, none⟩) 0 0) (ao : Option Addr) (cap : Nat) (ls : List Lv) (hx : a.eval x = .slice ao ls.length cap) (hl : ls.length ≤ 1000) (hcap : ao = none → cap = 0) (hr : LRow (w0.alloc (.cells #[] 44)) ao ls)
    (h : ∀ v' w', RowPost w0 ls v' w' → Below w0.heap.size w0 w' → wpList Try.prog ops Q rest (a.put o.dst v') w') : wpList Try.prog ops Q (o :: rest) a (w0.alloc (.cells #[] 44)) := by
  obtain ⟨i0, hi, hz0, hz1, hz2⟩ := info_parts infoL
  have ho0 : (w0.alloc (.cells #[] 44)).ownsRow w0.heap.size 44 5 (.slice (some ⟨w0.heap.size, 0, none⟩) 0 0) 0 [] := World.ownsRow_made w0 #[] 0 (Nat.le_refl _) (Nat.zero_le _) (by simp)
  have hempty : ao = none → ls = [] := fun e => by
    cases ls with
    | nil => rfl
    | cons y r =>
      obtain ⟨b, off, hao, _⟩ := hr.place 0 (by simp)
      rw [e] at hao
      cases hao
  cases ao with
  | some ad =>
    refine wpList_append_own (w0.alloc (.cells #[] 44)) hgd s x 45 ho w0.heap.size 44 i0 _ 5 40 Try.underlying45 hi hz0 hz1 hz2 rfl (by decide) _ 0 [] hs ho0 ad ls.length cap (flatL ls) hx (flatL_len ls) ?_ (flatL_one ls) (by unfold maxLen; omega) (by omega) (by simp) ?_
    · intro j u hj
      have hjl : j < ls.length * 5 := by rw [← flatL_len]; exact (List.getElem?_eq_some_iff.1 hj).1
      obtain ⟨b, off, hao, _⟩ := hr.place 0 (by omega)
      cases hao
      rw [Addr.add_lit]
      refine flatL_cell (fun k hk => ?_) j u hj
      obtain ⟨b', off', hao', ha⟩ := hr.place k hk
      cases hao'
      exact ha
    · intro v' w' h1 h2 _
      have h3 : w'.ownsRow w0.heap.size 44 5 v' ls.length (flatL ls) := by simpa using h1
      exact h v' w' (row_of_own rfl h3) ((below_one w0 (.cells #[] 44)).trans (below_own ho0 h2 (by simp)))
  | none =>
    obtain rfl := hempty rfl
    obtain rfl := hcap rfl
    refine wpList_append_own_none hgd s x 45 ho w0.heap.size 44 i0 5 Try.underlying45 hi _ 0 [] hs ho0 hx ?_
    exact h _ _ ⟨some ⟨w0.heap.size, 0, none⟩, 0, rfl, ⟨fun k hk => absurd hk (by simp)⟩, fun x hx => by cases hx; exact ⟨Nat.le_refl _, by simp⟩⟩ (below_one _ _)
end Lvl
end Go.Proofs.Ytfechgahafbphaa
