/-
  'append([]api.Level{}, by...)': levels, copied into a slice of one's own.
-/
import Derived.Test.YtijdlihodpodjaaQTrmD
import Derived.Test.YtijdlihodpodjaaQLevB
import Derived.Test.YtijdlihodpodjaaQSubB
import Derived.Laws.AppendOwnNone
namespace Go.Proofs.Ytijdlihodpodjaa
open Go.RowKit Go.Shelf Lvl Trm

theorem Lvl.infoL : (Try.prog.info? 83).map (fun i => (i.zero, i.size, i.bytes)) = some (some (.agg #[.int .i64 0, .int .i64 0, .int .i64 0, .int .i64 0, .int .i64 0]), 5, 40) := by kernel_rfl
namespace Lvl
def Lv.list5 (l : Lv) : List Value := [.int .i64 l.c, .int .i64 l.p0, .int .i64 l.p1, .int .i64 l.p2, .int .i64 l.p3]
def flatL (ls : List Lv) : List Value := ls.flatMap Lv.list5
theorem flatL_len (ls : List Lv) : (flatL ls).length = ls.length * 5 := by
  induction ls with
  | nil => rfl
  | cons p r ih => simp only [flatL, List.flatMap_cons, List.length_append, List.length_cons] at ih ⊢; rw [ih]; simp [Lv.list5]; omega
theorem flatL_at (ls : List Lv) : ∀ k (hk : k < ls.length) q, q < 5 → (flatL ls)[k * 5 + q]? = (ls[k]).list5[q]? := by
  induction ls with
  | nil => intro k hk; simp at hk
  | cons p r ih =>
    intro k hk q hq
    have h5 : p.list5.length = 5 := rfl
    match k, hk with
    | 0, _ =>
      show (p.list5 ++ flatL r)[0 * 5 + q]? = _
      rw [List.getElem?_append_left (by omega)]
      simp
    | k + 1, hk =>
      show (p.list5 ++ flatL r)[(k + 1) * 5 + q]? = _
      rw [List.getElem?_append_right (by omega), h5, show (k + 1) * 5 + q - 5 = k * 5 + q by omega]
      exact ih k (by simpa using hk) q hq
theorem flatL_one (ls : List Lv) : ∀ u ∈ flatL ls, u.oneCell' = true := by
  intro u hu
  unfold flatL at hu
  rw [List.mem_flatMap] at hu
  obtain ⟨p, _, hp⟩ := hu
  simp [Lv.list5] at hp
  rcases hp with rfl | rfl | rfl | rfl | rfl <;> rfl
theorem flatL_cell {w : World} {b off : Nat} {ls : List Lv} (h : ∀ k (hk : k < ls.length), LAt w b (off + k * 5) ls[k]) : ∀ j u, (flatL ls)[j]? = some u → w.cell? ⟨b, off + j, none⟩ = some u := fun j u hj => by
  have hjl : j < ls.length * 5 := by rw [← flatL_len]; exact (List.getElem?_eq_some_iff.1 hj).1
  have hk : j / 5 < ls.length := by omega
  have hq : j % 5 < 5 := Nat.mod_lt _ (by omega)
  have e := flatL_at ls (j / 5) hk (j % 5) hq
  rw [show j / 5 * 5 + j % 5 = j by omega, hj] at e
  obtain ⟨c0, c1, c2, c3, c4⟩ := h (j / 5) hk
  have h5 : j % 5 = 0 ∨ j % 5 = 1 ∨ j % 5 = 2 ∨ j % 5 = 3 ∨ j % 5 = 4 := by omega
  rcases h5 with h | h | h | h | h <;> rw [h] at e <;> simp [Lv.list5] at e <;> subst e
  · rw [show off + j = off + j / 5 * 5 by omega]; exact c0
  · rw [show off + j = off + j / 5 * 5 + 1 by omega]; exact c1
  · rw [show off + j = off + j / 5 * 5 + 2 by omega]; exact c2
  · rw [show off + j = off + j / 5 * 5 + 3 by omega]; exact c3
  · rw [show off + j = off + j / 5 * 5 + 4 by omega]; exact c4
/-- What a row of one's own says. -/
theorem row_of_own {w : World} {base n : Nat} {v : Value} {ls : List Lv} (hn : n = ls.length) (h : w.ownsRow base 83 5 v n (flatL ls)) : ∃ ao cap, v = .slice ao ls.length cap ∧ LRow w ao ls ∧ ∀ x, ao = some x → base ≤ x.block ∧ x.block < w.heap.size := by
  subst hn
  obtain ⟨hl, ⟨hv, h0⟩ | ⟨g, cap, cur, rfl, hb, hg, hm, hmx, hs, ht⟩⟩ := h
  · have h0' : ls.length = 0 := h0
    exact ⟨none, 0, by rw [hv, h0'], ⟨fun k hk => absurd hk (by omega)⟩, fun x hx => by cases hx⟩
  · have hgl : g < w.heap.size := (Array.getElem?_eq_some_iff.1 hg).1
    refine ⟨some ⟨g, 0, none⟩, cap, rfl, ⟨fun k hk => ⟨g, 0, rfl, ?_⟩⟩, fun x hx => by cases hx; exact ⟨hb, hgl⟩⟩
    have key : ∀ q, q < 5 → ∀ u, (ls[k]).list5[q]? = some u → w.cell? ⟨g, 0 + k * 5 + q, none⟩ = some u := fun q hq u hu => by
      rw [← flatL_at ls k hk q hq, ← ht, List.getElem?_take_of_lt (by omega), Array.getElem?_toList] at hu
      rw [Nat.zero_add]
      simp [World.cell?, hg, hu]
    exact ⟨key 0 (by omega) _ rfl, key 1 (by omega) _ rfl, key 2 (by omega) _ rfl, key 3 (by omega) _ rfl, key 4 (by omega) _ rfl⟩
/-- What an append of levels to an empty slice answers. -/
def RowPost (w0 : World) (ls : List Lv) (v' : Value) (w' : World) : Prop := ∃ ao' cap', v' = .slice ao' ls.length cap' ∧ LRow w' ao' ls ∧ ∀ x, ao' = some x → w0.heap.size ≤ x.block ∧ x.block < w'.heap.size
theorem wpList_append_levels {w0 : World} {ops : Array Oper} {rest : List Oper} {o : Oper} {a : Act} {Q : Exit → Act → World → Prop} (hgd : o.guard = none) (s x : Operand)
    (ho : o.op = .call { callee := .builtin .append, args := #[s, x], argTypes := #[22, 22] })
    (hs : a.eval s = .slice (some ⟨w0.heap.size, 0, none⟩) 0 0) (ao : Option Addr) (cap : Nat) (ls : List Lv) (hx : a.eval x = .slice ao ls.length cap) (hl : ls.length ≤ 1000) (hcap : ao = none → cap = 0) (hr : LRow (w0.alloc (.cells #[] 83)) ao ls)
    (h : ∀ v' w', RowPost w0 ls v' w' → Below w0.heap.size w0 w' → wpList Try.prog ops Q rest (a.put o.dst v') w') : wpList Try.prog ops Q (o :: rest) a (w0.alloc (.cells #[] 83)) := by
  obtain ⟨i0, hi, hz0, hz1, hz2⟩ := info_parts infoL
  have ho0 : (w0.alloc (.cells #[] 83)).ownsRow w0.heap.size 83 5 (.slice (some ⟨w0.heap.size, 0, none⟩) 0 0) 0 [] := World.ownsRow_made w0 #[] 0 (Nat.le_refl _) (Nat.zero_le _) (by simp)
  have hempty : ao = none → ls = [] := fun e => by
    cases ls with
    | nil => rfl
    | cons y r =>
      obtain ⟨b, off, hao, _⟩ := hr.place 0 (by simp)
      rw [e] at hao
      cases hao
  cases ao with
  | some ad =>
    refine wpList_append_own (w0.alloc (.cells #[] 83)) hgd s x 22 ho w0.heap.size 83 i0 _ 5 40 Try.underlying22 hi hz0 hz1 hz2 rfl (by decide) _ 0 [] hs ho0 ad ls.length cap (flatL ls) hx (flatL_len ls) ?_ (flatL_one ls) (by unfold maxLen; omega) (by omega) (by simp) ?_
    · intro j u hj
      have hjl : j < ls.length * 5 := by rw [← flatL_len]; exact (List.getElem?_eq_some_iff.1 hj).1
      obtain ⟨b, off, hao, _⟩ := hr.place 0 (by omega)
      cases hao
      rw [Addr.add_lit]
      refine flatL_cell (fun k hk => ?_) j u hj
      obtain ⟨b', off', hao', ha⟩ := hr.place k hk
      cases hao'
      exact ha
    · intro v' w' h1 h2 _
      have h3 : w'.ownsRow w0.heap.size 83 5 v' ls.length (flatL ls) := by simpa using h1
      exact h v' w' (row_of_own rfl h3) ((below_one w0 (.cells #[] 83)).trans (below_own ho0 h2 (by simp)))
  | none =>
    obtain rfl := hempty rfl
    obtain rfl := hcap rfl
    refine wpList_append_own_none hgd s x 22 ho w0.heap.size 83 i0 5 Try.underlying22 hi _ 0 [] hs ho0 hx ?_
    exact h _ _ ⟨some ⟨w0.heap.size, 0, none⟩, 0, rfl, ⟨fun k hk => absurd hk (by simp)⟩, fun x hx => by cases hx; exact ⟨Nat.le_refl _, by simp⟩⟩ (below_one _ _)
end Lvl
end Go.Proofs.Ytijdlihodpodjaa

/-
  A row of terms of the call's own, appended to in a loop whose round calls what makes the terms; a row of levels likewise; a node of both.
-/
namespace Go.Proofs.Ytijdlihodpodjaa
open Go.RowKit Go.Shelf Lvl Trm

namespace Trm
theorem LRow.ranS {P : Nat → Prop} {w w' : World} {ao : Option Addr} {ls : List Lv} (h : LRow w ao ls) (hr : RanS P w w') (hb : ∀ x, ao = some x → x.block < w.heap.size ∧ ¬ P x.block) : LRow w' ao ls := by
  refine ⟨fun k hk => ?_⟩
  obtain ⟨b, off, hao, ha⟩ := h.place k hk
  obtain ⟨hb1, hb2⟩ : b < w.heap.size ∧ ¬ P b := hb _ hao
  exact ⟨b, off, hao, (hr.cell (p := ⟨b, _, none⟩) hb1 hb2).trans ha.1, (hr.cell (p := ⟨b, _, none⟩) hb1 hb2).trans ha.2.1, (hr.cell (p := ⟨b, _, none⟩) hb1 hb2).trans ha.2.2.1, (hr.cell (p := ⟨b, _, none⟩) hb1 hb2).trans ha.2.2.2.1, (hr.cell (p := ⟨b, _, none⟩) hb1 hb2).trans ha.2.2.2.2⟩

/-- Behind some rounds: what is to come is R; the list is a row of the call's own, of blocks from w1's size on, and none of its terms minds what is written into that row, or into the blocks from B on that were there. -/
def RowG (B : Nat) (w1 : World) (R : List Tm) (v i : Value) (wr : World) : Prop :=
  ∃ (j : Nat) (ps : List (Tm × Hd)), i = .int .i64 j ∧ j ≤ R.length ∧ ps.length = j ∧ ps.map (·.1) = R.take j ∧ Below w1.heap.size w1 wr ∧ wr.ownsRow w1.heap.size 25 5 v ps.length (flat ps) ∧
    ∀ p ∈ ps, FirmS (fun q => B ≤ q ∧ (q < w1.heap.size ∨ v.ownBlock = some q)) wr p.1 p.2
theorem RowG.start (B : Nat) (w1 : World) (R : List Tm) : RowG B w1 R (.slice none 0 0) (.int .i64 0) w1 :=
  ⟨0, [], rfl, by omega, rfl, rfl, Below.refl _ _, ⟨rfl, Or.inl ⟨rfl, rfl⟩⟩, fun p hp => by simp at hp⟩

theorem RowG.step {B : Nat} {w1 : World} {R : List Tm} {v i' : Value} {wr w4 w5 : World} {j g cap n' : Nat} {ps : List (Tm × Hd)} {y : Tm} {hy : Hd} {ob : Obj} {L : Nat} (hRl : R.length = L) (hRy : R[j]? = some y) (hlt : j < L) (hpl : ps.length = j) (hmap : ps.map (·.1) = R.take j)
    (hbel : Below w1.heap.size w1 wr) (hown : wr.ownsRow w1.heap.size 25 5 v ps.length (flat ps))
    (hf : ∀ p ∈ ps, FirmS (fun q => B ≤ q ∧ (q < w1.heap.size ∨ v.ownBlock = some q)) wr p.1 p.2) (hb4 : Below wr.heap.size wr w4) (hfy : FirmS (fun q => B ≤ q ∧ q < wr.heap.size) w4 y hy) (hBw : B ≤ w1.heap.size)
    (hn' : n' = ps.length + 1) (hown5 : w5.ownsRow w1.heap.size 25 5 (.slice (some ⟨g, 0, none⟩) n' cap) n' (flat ps ++ (y.vals hy).toList)) (hgrow : (w4.alloc ob).grownBy w5 v.ownBlock) (hat : v.ownBlock = some g ∨ g = w4.heap.size + 1) (hi : i' = .int .i64 ((j + 1 : Nat) : Int)) :
    RowG B w1 R (.slice (some ⟨g, 0, none⟩) n' cap) i' w5 := by
  subst hn'
  have h1 := hb4.alloc hb4.size ob
  have hz0 := hbel.size
  have hz1 : wr.heap.size ≤ w4.heap.size := hb4.size
  have hz5 : w4.heap.size + 1 ≤ w5.heap.size := by have := hgrow.size; simpa using this
  have h6 : Below w1.heap.size wr w5 := by
    refine ⟨hgrow.os.trans h1.os, hgrow.tape.trans h1.tape, hgrow.output.trans h1.output, Nat.le_trans h1.size hgrow.size, fun k hk => ?_⟩
    have hk2 : k < wr.heap.size := by omega
    rw [hgrow.block k (Nat.lt_of_lt_of_le hk2 h1.size) (fun he => by have := own_low hown he.symm; omega), h1.block k hk2]
  refine ⟨j + 1, ps ++ [(y, hy)], hi, by omega, by simp [hpl], ?_, hbel.trans h6, by rw [flat_snoc, List.length_append]; exact hown5, ?_⟩
  · rw [List.map_append, hmap, List.take_add_one, hRy]; rfl
  · intro p hp w' hr
    rcases List.mem_append.1 hp with hp | hp
    · refine hf p hp w' ⟨hr.os.trans (h6.os), hr.tape.trans h6.tape, hr.output.trans h6.output, Nat.le_trans h6.size hr.size, fun k hk hn => ?_⟩
      have hn5 : w5.heap[k]? = wr.heap[k]? := by
        rw [hgrow.block k (by simp; omega) (fun he => hn ⟨by have := own_low hown he.symm; omega, Or.inr he.symm⟩), h1.block k hk]
      rw [← hn5]
      refine hr.block k (Nat.lt_of_lt_of_le hk h6.size) ?_
      rintro ⟨hq1, hq2 | hq2⟩
      · exact hn ⟨hq1, Or.inl hq2⟩
      · have hkg : g = k := by simpa [Value.ownBlock] using hq2
        subst hkg
        rcases hat with hat | hat
        · exact hn ⟨hq1, Or.inr hat⟩
        · omega
    · simp at hp
      subst hp
      refine hfy w' ⟨hr.os.trans (hgrow.os), hr.tape.trans hgrow.tape, hr.output.trans hgrow.output, Nat.le_trans (by omega) hr.size, fun k hk hn => ?_⟩
      have hn5 : w5.heap[k]? = w4.heap[k]? := by
        rw [hgrow.block k (by simp; omega) (fun he => by have := own_low hown he.symm; exact hn ⟨by omega, by omega⟩)]
        exact (below_one w4 ob).block k hk
      rw [← hn5]
      refine hr.block k (by omega) ?_
      rintro ⟨hq1, hq2 | hq2⟩
      · exact hn ⟨hq1, by omega⟩
      · have hkg : g = k := by simpa [Value.ownBlock] using hq2
        subst hkg
        rcases hat with hat | hat
        · have := own_low hown hat
          exact hn ⟨hq1, by omega⟩
        · omega
/-- In w5 the row's own blocks alone are others. -/
theorem RowG.below {w1 wr w4 w5 : World} {n : Nat} {v : Value} {xs : List Value} {o : Obj} (hb4 : Below wr.heap.size wr w4) (hown : wr.ownsRow w1.heap.size 25 5 v n xs) (hg : (w4.alloc o).grownBy w5 v.ownBlock) (h2 : w1.heap.size ≤ wr.heap.size) : Below w1.heap.size wr w5 := by
  have h1 := hb4.alloc hb4.size o
  refine ⟨hg.os.trans h1.os, hg.tape.trans h1.tape, hg.output.trans h1.output, Nat.le_trans h1.size hg.size, fun k hk => ?_⟩
  have hk2 : k < wr.heap.size := by omega
  rw [hg.block k (Nat.lt_of_lt_of_le hk2 h1.size) (fun he => by have := own_low hown he.symm; omega), h1.block k hk2]

/-- A node of a row of the call's own, and of levels that lie wherever these are not written. -/
theorem firm_nodeG {P Q : Nat → Prop} {base : Nat} {w : World} {v : Value} {ps : List (Tm × Hd)} {k n : Int} {s : ByteArray} {ls : List Lv} {lo : Option Addr} {lc : Nat}
    (hown : w.ownsRow base 25 5 v ps.length (flat ps)) (hk0 : 0 ≤ k) (hk1 : k ≤ 255) (hn0 : -9223372036854775808 ≤ n) (hn1 : n ≤ 9223372036854775807) (hs : s.size ≤ 9223372036854775807) (hl : ls.length ≤ 9223372036854775807)
    (hls : LRow w lo ls) (hlow : ∀ x, lo = some x → x.block < w.heap.size ∧ ¬ P x.block) (hPb : ∀ q, P q → q < base) (hPQ : ∀ q, P q → Q q) (hf : ∀ p ∈ ps, FirmS Q w p.1 p.2) (hn : ps.length ≤ 1000000) :
    ∃ to tc, v = .slice to ps.length tc ∧ FirmS P w (.mk k n s ls (ps.map (·.1))) ⟨lo, lc, to, tc⟩ := by
  have hL : ∀ w', RanS P w w' → LRow w' lo ls ∧ Low w'.heap.size lo ls.length := fun w' hr => ⟨LRow.ranS hls hr hlow, fun _ x hx => by have := (hlow x hx).1; have := hr.size; omega⟩
  obtain ⟨hfl, ⟨rfl, hn0'⟩ | ⟨g, cap, cur, rfl, hbg, hgb, _⟩⟩ := hown
  · have hps := List.eq_nil_of_length_eq_zero hn0'
    subst hps
    exact ⟨none, 0, rfl, fun w' hr => Tm.In_iff.2 ⟨⟨hk0, hk1, hn0, hn1, hs, hl, by simp [Tm.ts]⟩, (hL w' hr).1, (hL w' hr).2, RowIn.mk fun i hi => by simp [Tm.ts] at hi⟩⟩
  · have hown : w.ownsRow base 25 5 (.slice (some ⟨g, 0, none⟩) ps.length cap) ps.length (flat ps) := ⟨hfl, Or.inr ⟨g, cap, cur, rfl, hbg, hgb, ‹_›⟩⟩
    obtain ⟨hg2, _, htb⟩ := block_of_own hown
    have hgl := htb.lt
    refine ⟨some ⟨g, 0, none⟩, cap, rfl, fun w' hr => Tm.In_iff.2 ⟨⟨hk0, hk1, hn0, hn1, hs, hl, by simp [Tm.ts]; omega⟩, (hL w' hr).1, (hL w' hr).2, ?_⟩⟩
    exact TBlock.row (htb.ranS hr (fun hp => by have := hPb _ hp; omega)) (by have := hr.size; omega) (fun p hp => (hf p hp).less (fun q _ => hPQ q) w' hr)

/-- Behind some rounds over levels: a row of levels of the call's own, in which R's first ones stand. -/
def RowL (w1 : World) (R : List Lv) (v i : Value) (wr : World) : Prop :=
  ∃ j : Nat, i = .int .i64 j ∧ j ≤ R.length ∧ Below w1.heap.size w1 wr ∧ wr.ownsRow w1.heap.size 83 5 v j (flatL (R.take j))
theorem RowL.start (w1 : World) (R : List Lv) : RowL w1 R (.slice none 0 0) (.int .i64 0) w1 := ⟨0, rfl, by omega, Below.refl _ _, ⟨rfl, Or.inl ⟨rfl, rfl⟩⟩⟩
theorem flatL_snoc (ls : List Lv) (x : Lv) : flatL (ls ++ [x]) = flatL ls ++ x.list5 := by simp [flatL]
theorem RowL.step {w1 : World} {R : List Lv} {v i' : Value} {wr w4 w5 : World} {j g cap n' : Nat} {y : Lv} {ob : Obj} (hRy : R[j]? = some y) (hlt : j < R.length) (hbel : Below w1.heap.size w1 wr) (hown : wr.ownsRow w1.heap.size 83 5 v j (flatL (R.take j)))
    (hb4 : Below wr.heap.size wr w4) (hn' : n' = j + 1) (hown5 : w5.ownsRow w1.heap.size 83 5 (.slice (some ⟨g, 0, none⟩) n' cap) n' (flatL (R.take j) ++ y.list5)) (hgrow : (w4.alloc ob).grownBy w5 v.ownBlock) (hi : i' = .int .i64 ((j + 1 : Nat) : Int)) :
    RowL w1 R (.slice (some ⟨g, 0, none⟩) n' cap) i' w5 := by
  subst hn'
  have h1 := hb4.alloc hb4.size ob
  have hz0 := hbel.size
  refine ⟨j + 1, hi, by omega, hbel.trans ⟨hgrow.os.trans h1.os, hgrow.tape.trans h1.tape, hgrow.output.trans h1.output, Nat.le_trans h1.size hgrow.size, fun k hk => ?_⟩, by rw [List.take_add_one, hRy]; exact (flatL_snoc _ _) ▸ hown5⟩
  have hk2 : k < wr.heap.size := by omega
  rw [hgrow.block k (Nat.lt_of_lt_of_le hk2 h1.size) (fun he => by have := own_low hown he.symm; omega), h1.block k hk2]
end Trm
end Go.Proofs.Ytijdlihodpodjaa
