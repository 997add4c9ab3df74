/-
  level.Inst.
-/
import Derived.Test.YtjicdmohnfcflaaQB6
import Derived.Laws.AppendOwnNone
import Derived.OpenShut
import Derived.ChangeArms
import Derived.DataReads
namespace Go.Proofs.Ytjicdmohnfcflaa
open Go.RowKit Go.Shelf Lvl
attribute [local go_sem] Oper.semAt_some

theorem Lvl.free_one {W : World} {B t : Nat} {v : Value} (h : W.heap[B]? = some (.cells #[v] t)) : W.frozen? ⟨B, 0, none⟩ = false := by
  simp [World.frozen?, h]
theorem Lvl.put_one {W : World} {B t : Nat} {v : Value} (h : W.heap[B]? = some (.cells #[v] t)) (u : Value) : (W.setCell ⟨B, 0, none⟩ u).heap[B]? = some (.cells #[u] t) := by
  simp [World.setCell, Array.getElem?_modify, h]

def Lvl.instStep (ls : List Lv) (o : Option Lv) (x : Int × Int) : Option Lv :=
  match o with
  | none => none
  | some o => if h : x.1.toNat < ls.length then some (o.join ((ls[x.1.toNat]).plus x.2)) else none
def Lvl.instAll (ls : List Lv) (o : Lv) (pre : List (Int × Int)) : Option Lv := pre.foldl (instStep ls) (some o)
theorem Lvl.instAll_snoc (ls : List Lv) (o : Lv) (pre : List (Int × Int)) (x : Int × Int) : instAll ls o (pre ++ [x]) = instStep ls (instAll ls o pre) x := by
  unfold instAll; rw [List.foldl_append]; rfl
theorem Lvl.instFold_none (ls : List Lv) (r : List (Int × Int)) : r.foldl (instStep ls) none = none := by
  induction r with
  | nil => rfl
  | cons x r ih => exact ih
theorem Lvl.instAll_prefix {ls : List Lv} {o : Lv} {pre l : List (Int × Int)} (hp : pre <+: l) (h : instAll ls o pre = none) : instAll ls o l = none := by
  obtain ⟨r, rfl⟩ := hp
  unfold instAll at *
  rw [List.foldl_append, h]
  exact instFold_none ls r
/-- A level with levels as its parameters. -/
def Lvl.inst (l : Lv) (ls : List Lv) : Lv × Int :=
  if l.may = true ∧ ls.all Lv.may = true then
    match instAll ls (number l.c) l.ps with
    | some o => ans o
    | none => (zero, 8)
  else (zero, 1)
theorem Lvl.mem_ps_k {l : Lv} {x : Int × Int} (h : x ∈ l.ps) : ∃ k : Nat, k < 4 ∧ x = ((k : Int), l.at_ k) ∧ l.at_ k ≠ -1 := by
  rcases mem_ps h with ⟨rfl, hp⟩ | ⟨rfl, hp⟩ | ⟨rfl, hp⟩ | ⟨rfl, hp⟩
  · exact ⟨0, by omega, rfl, hp⟩
  · exact ⟨1, by omega, rfl, hp⟩
  · exact ⟨2, by omega, rfl, hp⟩
  · exact ⟨3, by omega, rfl, hp⟩
def Lvl.Lv.low (o : Lv) : Prop := -1 ≤ o.p0 ∧ -1 ≤ o.p1 ∧ -1 ≤ o.p2 ∧ -1 ≤ o.p3
theorem Lvl.Lv.low_join {a b : Lv} (h : a.low) : (a.join b).low := by
  obtain ⟨h0, h1, h2, h3⟩ := h
  unfold Lv.low Lv.join
  simp only
  omega

theorem Lvl.below_b {w W : World} (h : Below w.heap.size w W) (o : Obj) : Below w.heap.size w (W.alloc o) := h.alloc h.size _
theorem Lvl.at_low {l : Lv} (hw : l.within = true) {k : Nat} (hk : k < 4) (hne : l.at_ k ≠ -1) : 0 ≤ l.at_ k ∧ l.at_ k ≤ 1099511627776 := by
  simp only [Lv.within, decide_eq_true_eq] at hw
  have h : k = 0 ∨ k = 1 ∨ k = 2 ∨ k = 3 := by omega
  rcases h with rfl | rfl | rfl | rfl <;> (simp only [Lv.at_] at *; omega)
/-- Between two rounds of Inst's loop. -/
def Lvl.InstI (T Z E S : Nat) (ao : Option Addr) (ls : List Lv) (cap : Nat) (c : Int) (pre : List (Int × Int)) (W : World) : Prop :=
  ∃ o : Lv, instAll ls (number c) pre = some o ∧ o.low ∧ W.heap[T]? = some o.box ∧ W.heap[Z]? = some zero.box ∧ W.heap[E]? = some (.cells #[.int .i64 0] 35) ∧ W.heap[S]? = some (.cells #[.slice ao ls.length cap] 24)
theorem Lvl.InstI.kept {T Z E S : Nat} {ao : Option Addr} {ls : List Lv} {cap : Nat} {c : Int} {pre : List (Int × Int)} {W W' : World} {row : Option Nat} (h : InstI T Z E S ao ls cap c pre W) (hg : W.grownBy W' row) (hr : ∀ r, row = some r → ∃ o : Obj, W.heap[r]? = some o ∧ o.isCells = false) : InstI T Z E S ao ls cap c pre W' := by
  obtain ⟨o, h1, h2, h3, h4, h5, h6⟩ := h
  exact ⟨o, h1, h2, block_kept h3 hg hr, block_kept h4 hg hr, (grownBy_keeps_cells hg hr h5 rfl).trans h5, (grownBy_keeps_cells hg hr h6 rfl).trans h6⟩

theorem Lvl.keepsOthers_of {W v : World} (b : Below W.heap.size W v) : KeepsOthers W v := ⟨b.size, fun _ _ h _ => keep b h⟩
theorem Lvl.keeps_put (W : World) (B : Nat) (l : Lv) : KeepsOthers W (put5 W B l) := keeps_all W B _ _ _ _ _
/-- Behind a round that goes on. -/
theorem Lvl.inst_round {w W v1 v2 : World} {T Z E S : Nat} {ao : Option Addr} {ls : List Lv} {cap : Nat} {c : Int} {pre : List (Int × Int)} {o J : Lv}
    (hB : Below w.heap.size w W) (b1 : Below W.drew.heap.size W.drew v1) (b2 : Below v1.heap.size v1 v2) (hO : v2.heap[T]? = some o.box) (hT : w.heap.size ≤ T)
    (hZ : W.heap[Z]? = some zero.box) (hE : W.heap[E]? = some (.cells #[.int .i64 0] 35)) (hS : W.heap[S]? = some (.cells #[.slice ao ls.length cap] 24))
    (hTZ : T ≠ Z) (hTE : T ≠ E) (hTS : T ≠ S) (hst : instAll ls (number c) pre = some J) (hlow : J.low) :
    KeepsOthers W (put5 v2 T J) ∧ True ∧ (InstI T Z E S ao ls cap c pre (put5 v2 T J) ∧ Below w.heap.size w (put5 v2 T J)) := by
  have b0 : Below W.heap.size W v2 := (undrew b1).trans (b2.mono b1.size)
  refine ⟨(keepsOthers_of b0).trans (keeps_put _ _ _), trivial, ⟨J, hst, hlow, put5_self hO J, put5_other (keep b0 hZ) J hTZ, put5_other (keep b0 hE) J hTE, put5_other (keep b0 hS) J hTS⟩, put5_below (hB.trans (b0.mono hB.size)) hT J⟩
/-- Behind a round that leaves: there are too few levels. -/
theorem Lvl.inst_left {w W : World} {ls : List Lv} {c : Int} {pre : List (Int × Int)}
    (hB : Below w.heap.size w W) (hZ : W.heap[w.heap.size + 1 + 1]? = some zero.box) (hE : W.heap[w.heap.size + 1 + 1 + 1]? = some (.cells #[.int .i64 0] 35))
    (hst : instAll ls (number c) pre = none) :
    KeepsOthers W ((put5 W (w.heap.size + 1 + 1) zero).setCell ⟨w.heap.size + 1 + 1 + 1, 0, none⟩ (.int .i64 8)) ∧ ((Code.ret = Code.ret ∧ instAll ls (number c) pre = none ∧
      ((put5 W (w.heap.size + 1 + 1) zero).setCell ⟨w.heap.size + 1 + 1 + 1, 0, none⟩ (.int .i64 8)).heap[w.heap.size + 1 + 1]? = some zero.box ∧
      ((put5 W (w.heap.size + 1 + 1) zero).setCell ⟨w.heap.size + 1 + 1 + 1, 0, none⟩ (.int .i64 8)).heap[w.heap.size + 1 + 1 + 1]? = some (.cells #[.int .i64 8] 35)) ∧
      Below w.heap.size w ((put5 W (w.heap.size + 1 + 1) zero).setCell ⟨w.heap.size + 1 + 1 + 1, 0, none⟩ (.int .i64 8))) :=
  ⟨(keeps_put _ _ _).trans (KeepsOthers.setCell _ _ _), ⟨rfl, hst, cells_other (put5_self hZ zero) _ (by omega), put_one (put5_other hE zero (by omega)) _⟩,
    (put5_below hB (B := w.heap.size + 1 + 1) (by omega) zero).setCell (p := ⟨w.heap.size + 1 + 1 + 1, 0, none⟩) (show w.heap.size ≤ w.heap.size + 1 + 1 + 1 by omega) _⟩
/-- The end: both results are stored. -/
theorem Lvl.inst_fin {w W : World} {D : Nat} (hB : Below w.heap.size w W) (hZ : W.heap[w.heap.size + 1 + 1]? = some zero.box) (hE : W.heap[w.heap.size + 1 + 1 + 1]? = some (.cells #[.int .i64 0] 35))
    (hK : W.heap[D]? = some (.deferred (some []))) (hD : w.heap.size ≤ D) (A : Lv) (q : Int) :
    ((put5 W (w.heap.size + 1 + 1) A).setCell ⟨w.heap.size + 1 + 1 + 1, 0, none⟩ (.int .i64 q)).heap[D]? = some (.deferred (some [])) ∧
    (((put5 W (w.heap.size + 1 + 1) A).setCell ⟨w.heap.size + 1 + 1 + 1, 0, none⟩ (.int .i64 q)).putObj D (.deferred none)).heap[w.heap.size + 1 + 1]? = some A.box ∧
    (((put5 W (w.heap.size + 1 + 1) A).setCell ⟨w.heap.size + 1 + 1 + 1, 0, none⟩ (.int .i64 q)).putObj D (.deferred none)).heap[w.heap.size + 1 + 1 + 1]? = some (.cells #[.int .i64 q] 35) ∧
    Below w.heap.size w (((put5 W (w.heap.size + 1 + 1) A).setCell ⟨w.heap.size + 1 + 1 + 1, 0, none⟩ (.int .i64 q)).putObj D (.deferred none)) := by
  have hK' := ((keeps_put W (w.heap.size + 1 + 1) A).trans (KeepsOthers.setCell _ ⟨w.heap.size + 1 + 1 + 1, 0, none⟩ (.int .i64 q))).same D _ hK rfl
  have h1 := cells_other (put5_self hZ A) (.int .i64 q) (b := w.heap.size + 1 + 1 + 1) (o := 0) (by omega)
  have h2 := put_one (put5_other hE A (b := w.heap.size + 1 + 1) (by omega)) (.int .i64 q)
  have h3 := (put5_below hB (B := w.heap.size + 1 + 1) (by omega) A).setCell (p := ⟨w.heap.size + 1 + 1 + 1, 0, none⟩) (show w.heap.size ≤ w.heap.size + 1 + 1 + 1 by omega) (.int .i64 q)
  generalize (put5 W (w.heap.size + 1 + 1) A).setCell ⟨w.heap.size + 1 + 1 + 1, 0, none⟩ (.int .i64 q) = V at hK' h1 h2 h3
  exact ⟨hK', block_put h1 hK' rfl _, (grownBy_keeps_cells (grownBy_putObj' V D (.deferred none)) (fun r e => by cases e; exact ⟨_, hK', rfl⟩) h2 rfl).trans h2, h3.trans (belowK_b (w := w) (Nat.le_refl _) V D _ _ hD hK' rfl rfl)⟩

end Go.Proofs.Ytjicdmohnfcflaa


namespace Go.Proofs.Ytjicdmohnfcflaa
namespace Lvl

def stepI (o b : Lv) (p : Int) : Lv := if p = -1 then o else o.join (b.plus p)
theorem stepI_fine {o b : Lv} {p : Int} (ho : o.fine) (hb : b.fine) (hp : -1 ≤ p) : (stepI o b p).fine := by
  unfold stepI
  by_cases h : p = -1
  · rw [if_pos h]; exact ho
  · rw [if_neg h]; exact join_fine ho (plus_fine hb p (by omega))
theorem ev_stepI {o b : Lv} {p : Int} (ho : o.fine) (hb : b.fine) (hp : -1 ≤ p) (n : Four) : ev (stepI o b p) n = stepM (ev o n) p (ev b n) := by
  unfold stepI stepM
  by_cases h : p = -1
  · rw [if_pos h, if_pos h]
  · rw [if_neg h, if_neg h, ev_join ho (plus_fine hb p (by omega)), ev_plus hb p (by omega)]
theorem inst_one {ls : List Lv} (o b : Lv) (k : Nat) (p : Int) (r : List (Int × Int)) (hk : ls[k]? = some b) : (one k p ++ r).foldl (instStep ls) (some o) = r.foldl (instStep ls) (some (stepI o b p)) := by
  obtain ⟨hl, hb⟩ := List.getElem?_eq_some_iff.1 hk
  unfold one stepI
  by_cases h : p = -1
  · rw [if_pos h, if_pos h]; rfl
  · rw [if_neg h, if_neg h]
    simp [instStep, hl, hb]
theorem ev_number (c : Int) (n : Four) : ev (number c) n = c := by simp [ev, number, stepM]
/-- Levels, one for each parameter. -/
structure Row4 where
  b0 : Lv
  b1 : Lv
  b2 : Lv
  b3 : Lv
def Row4.list (r : Row4) : List Lv := [r.b0, r.b1, r.b2, r.b3]
def Row4.okAll (r : Row4) : Prop := r.b0.ok ∧ r.b1.ok ∧ r.b2.ok ∧ r.b3.ok
def Row4.ev (r : Row4) (n : Four) : Four := ⟨Lvl.ev r.b0 n, Lvl.ev r.b1 n, Lvl.ev r.b2 n, Lvl.ev r.b3 n⟩
def instO (l : Lv) (r : Row4) : Lv := stepI (stepI (stepI (stepI (number l.c) r.b0 l.p0) r.b1 l.p1) r.b2 l.p2) r.b3 l.p3
theorem inst_row {l : Lv} {r : Row4} (hl : l.ok) (hr : r.okAll) : inst l r.list = ans (instO l r) := by
  have ha : r.list.all Lv.may = true := by
    obtain ⟨h0, h1, h2, h3⟩ := hr
    simp [Row4.list, (may_iff _).2 h0, (may_iff _).2 h1, (may_iff _).2 h2, (may_iff _).2 h3]
  rw [inst, if_pos ⟨(may_iff l).2 hl, ha⟩]
  have h : l.ps = one ((0 : Nat) : Int) l.p0 ++ (one ((1 : Nat) : Int) l.p1 ++ (one ((2 : Nat) : Int) l.p2 ++ (one ((3 : Nat) : Int) l.p3 ++ []))) := by simp [Lv.ps]
  have e : instAll r.list (number l.c) l.ps = some (instO l r) := by
    unfold instAll
    rw [h, inst_one _ r.b0 0 _ _ rfl, inst_one _ r.b1 1 _ _ rfl, inst_one _ r.b2 2 _ _ rfl, inst_one _ r.b3 3 _ _ rfl]
    rfl
  rw [e]
theorem number_fine {c : Int} (h : 0 ≤ c) : (number c).fine := by unfold Lv.fine number; simp [h]
theorem instO_fine {l : Lv} {r : Row4} (hl : l.ok) (hr : r.okAll) : (instO l r).fine := by
  obtain ⟨h0, h1, h2, h3⟩ := hr
  have hf := hl.fine
  obtain ⟨c, p0, p1, p2, p3⟩ := hf
  exact stepI_fine (stepI_fine (stepI_fine (stepI_fine (number_fine c) h0.fine p0) h1.fine p1) h2.fine p2) h3.fine p3
theorem ev_instO {l : Lv} {r : Row4} (hl : l.ok) (hr : r.okAll) (n : Four) : ev (instO l r) n = ev l (r.ev n) := by
  obtain ⟨h0, h1, h2, h3⟩ := hr
  have hf := hl.fine
  obtain ⟨c, p0, p1, p2, p3⟩ := hf
  have f0 := stepI_fine (number_fine c) h0.fine p0
  have f1 := stepI_fine f0 h1.fine p1
  have f2 := stepI_fine f1 h2.fine p2
  unfold instO
  rw [ev_stepI f2 h3.fine p3, ev_stepI f1 h2.fine p2, ev_stepI f0 h1.fine p1, ev_stepI (number_fine c) h0.fine p0, ev_number]
  rfl
theorem formed_ok {o : Lv} (ho : o.fine) (hw : o.form.within = true) : o.form.ok := by
  have hw := (within_iff _).1 hw
  have hff := form_formed _ ho
  unfold Lv.formed at hff
  obtain ⟨e0, e1, e2, e3⟩ := form_p o
  unfold Lv.ok
  rw [e0, e1, e2, e3] at hw ⊢
  unfold Lv.fine at ho
  generalize o.form.c = z at *
  rcases hff with hff | hff <;> omega
/-- Levels as parameters: a level, or ErrMany. -/
theorem inst_ok {l : Lv} {r : Row4} (hl : l.ok) (hr : r.okAll) : (∃ z : Lv, inst l r.list = (z, 0) ∧ z.ok ∧ z = (instO l r).form ∧ ∀ n : Four, n.pos → ev z n = ev l (r.ev n)) ∨ inst l r.list = (zero, 4) := by
  rw [inst_row hl hr, ans]
  have hf := instO_fine hl hr
  by_cases h : (instO l r).form.within = true
  · left
    rw [if_pos h]
    exact ⟨_, rfl, formed_ok hf h, rfl, fun n hn => by rw [ev_form hf hn, ev_instO hl hr]⟩
  · right; rw [if_neg h]
theorem ev_nonneg {l : Lv} (hl : l.fine) (n : Four) : 0 ≤ ev l n := by
  have := (ev_le l n (ev l n)).1 (Int.le_refl _)
  unfold Lv.fine at hl; omega
theorem row_pos {r : Row4} (hr : r.okAll) (n : Four) : (r.ev n).pos :=
  ⟨ev_nonneg hr.1.fine n, ev_nonneg hr.2.1.fine n, ev_nonneg hr.2.2.1.fine n, ev_nonneg hr.2.2.2.fine n⟩

/-- Levels that are the same at all numbers have one form. -/
theorem fine_p {a b : Lv} (hb : b.fine) (h : ∀ n : Four, n.pos → ev a n ≤ ev b n) : a.p0 ≤ b.p0 ∧ a.p1 ≤ b.p1 ∧ a.p2 ≤ b.p2 ∧ a.p3 ≤ b.p3 := by
  have lo (n : Four) := (ev_le a n (ev a n)).1 (Int.le_refl _)
  have hi (n : Four) (x : Int) (h : ¬ ev b n ≤ x) : ¬ _ := fun k => h ((ev_le b n x).2 k)
  unfold Lv.fine at hb
  obtain ⟨g, hg⟩ : ∃ g : Int, g = b.c + (b.p0 + 1) + (b.p1 + 1) + (b.p2 + 1) + (b.p3 + 1) + 1 := ⟨_, rfl⟩
  refine ⟨?_, ?_, ?_, ?_⟩
  · have l := lo ⟨g, 0, 0, 0⟩
    have k := h ⟨g, 0, 0, 0⟩ (by unfold Four.pos; simp only; omega)
    by_cases e : a.p0 ≤ b.p0
    · exact e
    · exact absurd k (fun k => hi ⟨g, 0, 0, 0⟩ (g + a.p0 - 1) (by simp only at l; omega) (by simp only at *; omega))
  · have l := lo ⟨0, g, 0, 0⟩
    have k := h ⟨0, g, 0, 0⟩ (by unfold Four.pos; simp only; omega)
    by_cases e : a.p1 ≤ b.p1
    · exact e
    · exact absurd k (fun k => hi ⟨0, g, 0, 0⟩ (g + a.p1 - 1) (by simp only at l; omega) (by simp only at *; omega))
  · have l := lo ⟨0, 0, g, 0⟩
    have k := h ⟨0, 0, g, 0⟩ (by unfold Four.pos; simp only; omega)
    by_cases e : a.p2 ≤ b.p2
    · exact e
    · exact absurd k (fun k => hi ⟨0, 0, g, 0⟩ (g + a.p2 - 1) (by simp only at l; omega) (by simp only at *; omega))
  · have l := lo ⟨0, 0, 0, g⟩
    have k := h ⟨0, 0, 0, g⟩ (by unfold Four.pos; simp only; omega)
    by_cases e : a.p3 ≤ b.p3
    · exact e
    · exact absurd k (fun k => hi ⟨0, 0, 0, g⟩ (g + a.p3 - 1) (by simp only at l; omega) (by simp only at *; omega))
theorem same_form {a b : Lv} (ha : a.fine) (hb : b.fine) (h : ∀ n : Four, n.pos → ev a n = ev b n) : a.form = b.form := by
  obtain ⟨x0, x1, x2, x3⟩ := fine_p hb (fun n hn => Int.le_of_eq (h n hn))
  obtain ⟨y0, y1, y2, y3⟩ := fine_p ha (fun n hn => Int.le_of_eq (h n hn).symm)
  have e0 : a.p0 = b.p0 := by omega
  have e1 : a.p1 = b.p1 := by omega
  have e2 : a.p2 = b.p2 := by omega
  have e3 : a.p3 = b.p3 := by omega
  refine form_ext ha hb e0 e1 e2 e3 ?_
  intro x y hx hy
  have hz := h ⟨0, 0, 0, 0⟩ (by simp [Four.pos])
  unfold Lv.formed at hx hy
  unfold Lv.fine at ha hb
  rw [e0, e1, e2, e3] at hx
  rcases hx with ⟨rfl, hx'⟩ | ⟨rfl, hx'⟩ <;> rcases hy with ⟨rfl, hy'⟩ | ⟨rfl, hy'⟩
  · have ua : ev a ⟨0, 0, 0, 0⟩ ≤ a.c := (ev_le _ _ _).2 (by rw [e0, e1, e2, e3]; simp only; omega)
    have ub : ev b ⟨0, 0, 0, 0⟩ ≤ b.c := (ev_le _ _ _).2 (by simp only; omega)
    have la := ((ev_le a ⟨0, 0, 0, 0⟩ _).1 (Int.le_refl _)).1
    have lb := ((ev_le b ⟨0, 0, 0, 0⟩ _).1 (Int.le_refl _)).1
    omega
  · exfalso
    have la := ((ev_le a ⟨0, 0, 0, 0⟩ _).1 (Int.le_refl _)).1
    have ub : ev b ⟨0, 0, 0, 0⟩ ≤ a.c - 1 := (ev_le _ _ _).2 (by
      simp only
      refine ⟨?_, by omega, by omega, by omega, by omega⟩
      rcases hy' with hy' | hy' | hy' | hy' <;> omega)
    omega
  · exfalso
    have lb := ((ev_le b ⟨0, 0, 0, 0⟩ _).1 (Int.le_refl _)).1
    have ua : ev a ⟨0, 0, 0, 0⟩ ≤ b.c - 1 := (ev_le _ _ _).2 (by
      rw [e0, e1, e2, e3]
      simp only
      refine ⟨?_, by omega, by omega, by omega, by omega⟩
      rcases hx' with hx' | hx' | hx' | hx' <;> omega)
    omega
  · rfl
/-- The parameters themselves. -/
def own : Row4 := ⟨⟨0, 0, -1, -1, -1⟩, ⟨0, -1, 0, -1, -1⟩, ⟨0, -1, -1, 0, -1⟩, ⟨0, -1, -1, -1, 0⟩⟩
theorem own_ok : own.okAll := by simp [Row4.okAll, own, Lv.ok]
theorem ev_own {n : Four} (hn : n.pos) : own.ev n = n := by
  obtain ⟨h0, h1, h2, h3⟩ := hn
  have e (x : Int) (h : 0 ≤ x) : max 0 x = x := by omega
  cases n
  simp only [Row4.ev, own, ev, stepM] at *
  simp [e, h0, h1, h2, h3]
end Lvl
end Go.Proofs.Ytjicdmohnfcflaa


namespace Go.Proofs.Ytjicdmohnfcflaa
open Go.RowKit Go.Shelf Lvl Trm

theorem Lvl.infoL : (Try.prog.info? 63).map (fun i => (i.zero, i.size, i.bytes)) = some (some (.agg #[.int .i64 0, .int .i64 0, .int .i64 0, .int .i64 0, .int .i64 0]), 5, 40) := by kernel_rfl
namespace Lvl
def Lv.list5 (l : Lv) : List Value := [.int .i64 l.c, .int .i64 l.p0, .int .i64 l.p1, .int .i64 l.p2, .int .i64 l.p3]
def flatL (ls : List Lv) : List Value := ls.flatMap Lv.list5
theorem flatL_len (ls : List Lv) : (flatL ls).length = ls.length * 5 := by
  induction ls with
  | nil => rfl
  | cons p r ih => simp only [flatL, List.flatMap_cons, List.length_append, List.length_cons] at ih ⊢; rw [ih]; simp [Lv.list5]; omega
theorem flatL_at (ls : List Lv) : ∀ k (hk : k < ls.length) q, q < 5 → (flatL ls)[k * 5 + q]? = (ls[k]).list5[q]? := by
  induction ls with
  | nil => intro k hk; simp at hk
  | cons p r ih =>
    intro k hk q hq
    have h5 : p.list5.length = 5 := rfl
    match k, hk with
    | 0, _ =>
      show (p.list5 ++ flatL r)[0 * 5 + q]? = _
      rw [List.getElem?_append_left (by omega)]
      simp
    | k + 1, hk =>
      show (p.list5 ++ flatL r)[(k + 1) * 5 + q]? = _
      rw [List.getElem?_append_right (by omega), h5, show (k + 1) * 5 + q - 5 = k * 5 + q by omega]
      exact ih k (by simpa using hk) q hq
theorem flatL_one (ls : List Lv) : ∀ u ∈ flatL ls, u.oneCell' = true := by
  intro u hu
  unfold flatL at hu
  rw [List.mem_flatMap] at hu
  obtain ⟨p, _, hp⟩ := hu
  simp [Lv.list5] at hp
  rcases hp with rfl | rfl | rfl | rfl | rfl <;> rfl
theorem flatL_cell {w : World} {b off : Nat} {ls : List Lv} (h : ∀ k (hk : k < ls.length), LAt w b (off + k * 5) ls[k]) : ∀ j u, (flatL ls)[j]? = some u → w.cell? ⟨b, off + j, none⟩ = some u := fun j u hj => by
  have hjl : j < ls.length * 5 := by rw [← flatL_len]; exact (List.getElem?_eq_some_iff.1 hj).1
  have hk : j / 5 < ls.length := by omega
  have hq : j % 5 < 5 := Nat.mod_lt _ (by omega)
  have e := flatL_at ls (j / 5) hk (j % 5) hq
  rw [show j / 5 * 5 + j % 5 = j by omega, hj] at e
  obtain ⟨c0, c1, c2, c3, c4⟩ := h (j / 5) hk
  have h5 : j % 5 = 0 ∨ j % 5 = 1 ∨ j % 5 = 2 ∨ j % 5 = 3 ∨ j % 5 = 4 := by omega
  rcases h5 with h | h | h | h | h <;> rw [h] at e <;> simp [Lv.list5] at e <;> subst e
  · rw [show off + j = off + j / 5 * 5 by omega]; exact c0
  · rw [show off + j = off + j / 5 * 5 + 1 by omega]; exact c1
  · rw [show off + j = off + j / 5 * 5 + 2 by omega]; exact c2
  · rw [show off + j = off + j / 5 * 5 + 3 by omega]; exact c3
  · rw [show off + j = off + j / 5 * 5 + 4 by omega]; exact c4
/-- What a row of one's own says. -/
theorem row_of_own {w : World} {base n : Nat} {v : Value} {ls : List Lv} (hn : n = ls.length) (h : w.ownsRow base 63 5 v n (flatL ls)) : ∃ ao cap, v = .slice ao ls.length cap ∧ LRow w ao ls ∧ ∀ x, ao = some x → base ≤ x.block ∧ x.block < w.heap.size := by
  subst hn
  obtain ⟨hl, ⟨hv, h0⟩ | ⟨g, cap, cur, rfl, hb, hg, hm, hmx, hs, ht⟩⟩ := h
  · have h0' : ls.length = 0 := h0
    exact ⟨none, 0, by rw [hv, h0'], ⟨fun k hk => absurd hk (by omega)⟩, fun x hx => by cases hx⟩
  · have hgl : g < w.heap.size := (Array.getElem?_eq_some_iff.1 hg).1
    refine ⟨some ⟨g, 0, none⟩, cap, rfl, ⟨fun k hk => ⟨g, 0, rfl, ?_⟩⟩, fun x hx => by cases hx; exact ⟨hb, hgl⟩⟩
    have key : ∀ q, q < 5 → ∀ u, (ls[k]).list5[q]? = some u → w.cell? ⟨g, 0 + k * 5 + q, none⟩ = some u := fun q hq u hu => by
      rw [← flatL_at ls k hk q hq, ← ht, List.getElem?_take_of_lt (by omega), Array.getElem?_toList] at hu
      rw [Nat.zero_add]
      simp [World.cell?, hg, hu]
    exact ⟨key 0 (by omega) _ rfl, key 1 (by omega) _ rfl, key 2 (by omega) _ rfl, key 3 (by omega) _ rfl, key 4 (by omega) _ rfl⟩
/-- A block of its own begins there, with so many cells. -/
def Room (w : World) (x : Addr) (n : Nat) : Prop := x = ⟨x.block, 0, none⟩ ∧ ∃ cs ty, w.heap[x.block]? = some (.cells cs ty (0, 0)) ∧ n ≤ cs.size
theorem row_of_own2 {w : World} {base n : Nat} {v : Value} {ls : List Lv} (hn : n = ls.length) (h : w.ownsRow base 63 5 v n (flatL ls)) : ∃ ao cap, v = .slice ao ls.length cap ∧ LRow w ao ls ∧ ∀ x, ao = some x → base ≤ x.block ∧ x.block < w.heap.size ∧ Room w x (ls.length * 5) := by
  obtain ⟨ao, cap, hv, hr, hl⟩ := row_of_own hn h
  refine ⟨ao, cap, hv, hr, fun x hx => ⟨(hl x hx).1, (hl x hx).2, ?_⟩⟩
  subst hn
  rcases h.2 with ⟨hv2, _⟩ | ⟨g, cap2, cur, hv2, _, hg, hm, _, hs, _⟩
  · rw [hv, hx] at hv2; cases hv2
  · rw [hv, hx] at hv2
    injection hv2 with e1 e2 e3
    injection e1 with e1
    subst e1
    exact ⟨rfl, cur, _, hg, by rw [hs]; exact Nat.mul_le_mul_right _ hm⟩
/-- What an append of levels to an empty slice answers. -/
def RowPost (w0 : World) (ls : List Lv) (v' : Value) (w' : World) : Prop := ∃ ao' cap', v' = .slice ao' ls.length cap' ∧ LRow w' ao' ls ∧ ∀ x, ao' = some x → w0.heap.size ≤ x.block ∧ x.block < w'.heap.size ∧ Room w' x (ls.length * 5)
theorem wpList_append_levels {w0 : World} {ops : Array Oper} {rest : List Oper} {o : Oper} {a : Act} {Q : Exit → Act → World → Prop} (hgd : o.guard = none) (s x : Operand)
    (ho : o.op = .call { callee := .builtin .append, args := #[s, x], argTypes := #[24, 24] })
    (hs : a.eval s = .slice (some ⟨w0.heap.size, 0, none⟩) 0 0) (ao : Option Addr) (cap : Nat) (ls : List Lv) (hx : a.eval x = .slice ao ls.length cap) (hl : ls.length ≤ 1000) (hcap : ao = none → cap = 0) (hr : LRow (w0.alloc (.cells #[] 63)) ao ls)
    (h : ∀ v' w', RowPost w0 ls v' w' → Below w0.heap.size w0 w' → wpList Try.prog ops Q rest (a.put o.dst v') w') : wpList Try.prog ops Q (o :: rest) a (w0.alloc (.cells #[] 63)) := by
  obtain ⟨i0, hi, hz0, hz1, hz2⟩ := info_parts infoL
  have ho0 : (w0.alloc (.cells #[] 63)).ownsRow w0.heap.size 63 5 (.slice (some ⟨w0.heap.size, 0, none⟩) 0 0) 0 [] := World.ownsRow_made w0 #[] 0 (Nat.le_refl _) (Nat.zero_le _) (by simp)
  have hempty : ao = none → ls = [] := fun e => by
    cases ls with
    | nil => rfl
    | cons y r =>
      obtain ⟨b, off, hao, _⟩ := hr.place 0 (by simp)
      rw [e] at hao
      cases hao
  cases ao with
  | some ad =>
    refine wpList_append_own (w0.alloc (.cells #[] 63)) hgd s x 24 ho w0.heap.size 63 i0 _ 5 40 Try.underlying24 hi hz0 hz1 hz2 rfl (by decide) _ 0 [] hs ho0 ad ls.length cap (flatL ls) hx (flatL_len ls) ?_ (flatL_one ls) (by unfold maxLen; omega) (by omega) (by simp) ?_
    · intro j u hj
      have hjl : j < ls.length * 5 := by rw [← flatL_len]; exact (List.getElem?_eq_some_iff.1 hj).1
      obtain ⟨b, off, hao, _⟩ := hr.place 0 (by omega)
      cases hao
      rw [Addr.add_lit]
      refine flatL_cell (fun k hk => ?_) j u hj
      obtain ⟨b', off', hao', ha⟩ := hr.place k hk
      cases hao'
      exact ha
    · intro v' w' h1 h2 _
      have h3 : w'.ownsRow w0.heap.size 63 5 v' ls.length (flatL ls) := by simpa using h1
      exact h v' w' (row_of_own2 rfl h3) ((below_one w0 (.cells #[] 63)).trans (below_own ho0 h2 (by simp)))
  | none =>
    obtain rfl := hempty rfl
    obtain rfl := hcap rfl
    refine wpList_append_own_none hgd s x 24 ho w0.heap.size 63 i0 5 Try.underlying24 hi _ 0 [] hs ho0 hx ?_
    exact h _ _ ⟨some ⟨w0.heap.size, 0, none⟩, 0, rfl, ⟨fun k hk => absurd hk (by simp)⟩, fun x hx => by cases hx; exact ⟨Nat.le_refl _, by simp, rfl, _, _, World.alloc_heap_new w0 _, by simp⟩⟩ (below_one _ _)
end Lvl
end Go.Proofs.Ytjicdmohnfcflaa


namespace Go.Proofs.Ytjicdmohnfcflaa
open Go.RowKit Go.Shelf Lvl Trm

def Trm.fewB (t : Tm) (l : List Tm) : Bool := !t.deep && (decide (l.length ≤ 10) && l.all (fun x => !x.deep))
def Trm.FewRel (w : World) (o : Obj) (l : List Tm) (i : Value) (wr : World) : Prop :=
  ∃ k : Nat, i = .int .i64 k ∧ k ≤ l.length ∧ Kept w wr o ∧ ∀ j, ∀ h : j < l.length, j < k → l[j].deep = false

end Go.Proofs.Ytjicdmohnfcflaa


namespace Go.Proofs.Ytjicdmohnfcflaa
open Lvl Trm

namespace Trm
mutual
/-- With more nodes, and deeper, and fewer that are bad, there are enough. -/
theorem left_mono {bad bad' : Tm → Bool} (hb : ∀ t, bad t = false → bad' t = false) : ∀ (t : Tm) (l d l' d' : Int), 0 ≤ t.left bad l d → l ≤ l' → d ≤ d' → 0 ≤ t.left bad' l' d' ∧ t.left bad l d ≤ t.left bad' l' d'
  | .mk k n s ls ts, l, d, l', d', h, hl, hd => by
    rw [Tm.left] at h
    split at h
    · omega
    · rename_i hc
      have e1 : (Tm.mk k n s ls ts).left bad l d = leftL bad ts (l - 1) (d - 1) := by rw [Tm.left, if_neg hc]
      have e2 : (Tm.mk k n s ls ts).left bad' l' d' = leftL bad' ts (l' - 1) (d' - 1) := by
        rw [Tm.left, if_neg]
        rintro (h1 | h1 | h1)
        · exact hc (Or.inl (by omega))
        · exact hc (Or.inr (Or.inl (by omega)))
        · refine hc (Or.inr (Or.inr ?_))
          cases hbt : bad (.mk k n s ls ts)
          · rw [hb _ hbt] at h1; cases h1
          · rfl
      rw [e1, e2]
      exact leftL_mono hb ts (l - 1) (d - 1) (l' - 1) (d' - 1) h (by omega) (by omega)
theorem leftL_mono {bad bad' : Tm → Bool} (hb : ∀ t, bad t = false → bad' t = false) : ∀ (ts : List Tm) (l d l' d' : Int), 0 ≤ leftL bad ts l d → l ≤ l' → d ≤ d' → 0 ≤ leftL bad' ts l' d' ∧ leftL bad ts l d ≤ leftL bad' ts l' d'
  | [], l, d, l', d', h, hl, hd => by
    have e1 : leftL bad [] l d = l := by rw [leftL]
    have e2 : leftL bad' [] l' d' = l' := by rw [leftL]
    rw [e1, e2]
    rw [e1] at h
    omega
  | t :: r, l, d, l', d', h, hl, hd => by
    rw [leftL] at h
    split at h
    · omega
    · rename_i hc
      have h1 := left_mono hb t l d l' d' (by omega) hl hd
      have e1 : leftL bad (t :: r) l d = leftL bad r (t.left bad l d) d := by rw [leftL, if_neg hc]
      have e2 : leftL bad' (t :: r) l' d' = leftL bad' r (t.left bad' l' d') d' := by rw [leftL, if_neg (by omega)]
      rw [e1, e2]
      exact leftL_mono hb r _ d _ d' h h1.2 hd
end
theorem may_left {t : Tm} : t.may = true ↔ 0 ≤ t.left badMay 65536 4096 := by
  show decide (0 ≤ t.left badMay 65536 4096) = true ↔ _
  simp
theorem node_calm {t : Tm} (h : badMay t = false) : badDeep t = false := by
  have h' : t.node = true := by simpa [badMay] using h
  unfold Tm.node at h'
  simp only [Bool.and_eq_true] at h'
  have h6 := h'.2
  unfold badDeep
  simp only [decide_eq_false_iff_not]
  split at h6
  · simp at h6; omega
  · split at h6
    · simp at h6; omega
    · simp at h6; rw [h6]; simp
theorem may_not_deep {t : Tm} (h : t.may = true) : t.deep = false := by
  have h1 := (left_mono (bad' := badDeep) (fun t => node_calm) t 65536 4096 131072 8192 (may_left.1 h) (by omega) (by omega)).1
  show decide (t.left badDeep 131072 8192 < 0) = false
  simp; omega
theorem deep_size {t : Tm} (h : t.deep = false) : t.size ≤ 131072 := by
  have h1 : 0 ≤ t.left badDeep 131072 8192 := by
    have : decide (t.left badDeep 131072 8192 < 0) = false := h
    simp at this; omega
  have := t.left_size badDeep _ _ h1
  omega
end Trm
end Go.Proofs.Ytjicdmohnfcflaa


namespace Go.Proofs.Ytjicdmohnfcflaa
open Go.RowKit Go.Shelf Lvl Trm

section
variable {H : Type} {enc : TypeId × Value → H} {w : World} {base : Nat} {sp : Nat → Bool} {hd : Bool}

set_option maxRecDepth 100000 in
/-- Cells that read as a level. -/
theorem Trm.open_level {fuel : Nat} {cs : List Value} {x : DataW H × List MemPlace} (h : DataW.trod enc Try.prog w base sp hd fuel 63 cs = some x) :
    ∃ l : Lv, cs = [.int .i64 l.c, .int .i64 l.p0, .int .i64 l.p1, .int .i64 l.p2, .int .i64 l.p3] := by
  have hC : Try.prog.cellsOf 63 = 5 := by kernel_rfl
  have hI : Try.prog.cellsOf 3 = 1 := by kernel_rfl
  have hA : Try.prog.cellsOf 61 = 4 := by kernel_rfl
  obtain ⟨xs, n, _, _, hl, hxs, hf⟩ := DataW.trod_struct Try.underlying63 h
  rw [hC] at hl
  match cs, hl with
  | [v0, v1, v2, v3, v4], _ =>
    have g0 : DataW.trod enc Try.prog w base sp hd n 3 (([v0, v1, v2, v3, v4].drop 0).take (Try.prog.cellsOf 3)) = xs[0]? := hf 0 _ rfl
    have g1 : DataW.trod enc Try.prog w base sp hd n 61 (([v0, v1, v2, v3, v4].drop 1).take (Try.prog.cellsOf 61)) = xs[1]? := hf 1 _ rfl
    rw [hI] at g0
    rw [hA] at g1
    rw [List.getElem?_eq_getElem (by rw [hxs]; decide)] at g0 g1
    obtain ⟨z, hz, _, _⟩ := DataW.trod_int Try.underlying3 g0
    obtain ⟨ys, m, _, _, _, hys, ha⟩ := DataW.trod_array Try.underlying61 g1
    have a0 := ha 0 (by omega)
    have a1 := ha 1 (by omega)
    have a2 := ha 2 (by omega)
    have a3 := ha 3 (by omega)
    rw [hI] at a0 a1 a2 a3
    rw [List.getElem?_eq_getElem (by omega)] at a0 a1 a2 a3
    obtain ⟨z0, h0, _, _⟩ := DataW.trod_int Try.underlying3 a0
    obtain ⟨z1, h1, _, _⟩ := DataW.trod_int Try.underlying3 a1
    obtain ⟨z2, h2, _, _⟩ := DataW.trod_int Try.underlying3 a2
    obtain ⟨z3, h3, _, _⟩ := DataW.trod_int Try.underlying3 a3
    simp at hz h0 h1 h2 h3
    subst hz h0 h1 h2 h3
    exact ⟨⟨z, z0, z1, z2, z3⟩, rfl⟩

theorem Trm.add_none (b o i : Nat) : (⟨b, o, none⟩ : Addr).add i = ⟨b, o + i, none⟩ := by
  unfold Addr.add
  split
  · rename_i h; rw [h]; rfl
  · rfl
theorem Trm.add_zero (a : Addr) : a.add 0 = a := by simp [Addr.add]

set_option maxRecDepth 100000 in
/-- A slice that reads as levels. -/
theorem Trm.open_levels {fuel : Nat} {cs : List Value} {x : DataW H × List MemPlace} (h : DataW.trod enc Try.prog w base sp hd fuel 24 cs = some x) :
    ∃ (lo : Option Addr) (lc : Nat) (ls : List Lv), cs = [.slice lo ls.length lc] ∧ LRow w lo ls ∧ Low w.heap.size lo ls.length ∧ ls.length ≤ 9223372036854775807 := by
  have hC : Try.prog.cellsOf 63 = 5 := by kernel_rfl
  rcases DataW.trod_slice Try.underlying24 h with ⟨rfl, _⟩ | ⟨a, len, cap, elems, rest, n, _, rfl, _, _, hlc, hcm, hel, hall, _⟩
  · exact ⟨none, 0, [], rfl, ⟨fun k hk => by simp at hk⟩, fun hn => by simp at hn, by simp⟩
  · rw [hC] at hall
    have hnone : 0 < len → a.spot = none := fun h0 => by
      have hi' := hall 0 h0
      rw [List.getElem?_eq_getElem (by omega)] at hi'
      obtain ⟨cs, hcs, ht⟩ := Option.bind_eq_some_iff.1 hi'
      obtain ⟨_, _, hcell⟩ := World.cells?_some hcs
      obtain ⟨l, rfl⟩ := open_level ht
      have h0 := hcell 0 (by omega)
      rw [Nat.zero_mul, add_zero, add_zero] at h0
      exact World.cell?_spot (show w.cell? a = some (.int .i64 l.c) from h0)
    have key : ∀ i, i < len → ∃ l : Lv, ∃ b off, a = ⟨b, off, none⟩ ∧ LAt w b (off + i * 5) l := fun i hi => by
      have hi' := hall i hi
      rw [List.getElem?_eq_getElem (by omega)] at hi'
      obtain ⟨cs, hcs, ht⟩ := Option.bind_eq_some_iff.1 hi'
      obtain ⟨_, _, hcell⟩ := World.cells?_some hcs
      obtain ⟨l, rfl⟩ := open_level ht
      have hs := hnone (by omega)
      obtain ⟨b, off, spot⟩ := a
      dsimp only at hs
      subst hs
      simp only [add_none] at hcell
      exact ⟨l, b, off, rfl, hcell 0 (by omega), hcell 1 (by omega), hcell 2 (by omega), hcell 3 (by omega), hcell 4 (by omega)⟩
    have key2 : ∃ ls : List Lv, ls.length = len ∧ ∀ k (hk : k < ls.length), ∃ b off, a = ⟨b, off, none⟩ ∧ LAt w b (off + k * 5) ls[k] := by
      refine ⟨(List.range len).pmap (fun i hi => Classical.choose (key i hi)) (fun i hi => by simpa using hi), by simp, fun k hk => ?_⟩
      have hk' : k < len := by simpa using hk
      obtain ⟨b, off, ha, hl⟩ := Classical.choose_spec (key k hk')
      exact ⟨b, off, ha, by simpa using hl⟩
    obtain ⟨ls, rfl, hls⟩ := key2
    refine ⟨some a, cap, ls, rfl, ⟨fun k hk => ?_⟩, fun hn a' ha' => ?_, ?_⟩
    · obtain ⟨b, off, rfl, hl⟩ := hls k hk
      exact ⟨b, off, rfl, hl⟩
    · obtain ⟨b, off, rfl, hl⟩ := hls 0 hn
      cases ha'
      exact World.block_lt_of_cell? w _ hl.1
    · have : maxLen = 9223372036854775807 := rfl
      omega

set_option maxRecDepth 100000 in
/-- Cells that read as a term. -/
theorem Trm.open_term : ∀ (fuel : Nat) (cs : List Value) (x : DataW H × List MemPlace), DataW.trod enc Try.prog w base sp hd fuel 26 cs = some x →
    ∃ (t : Tm) (h : Hd), cs = (t.vals h).toList ∧ t.In w.heap.size w h := by
  have hC : Try.prog.cellsOf 26 = 5 := by kernel_rfl
  have hI : Try.prog.cellsOf 3 = 1 := by kernel_rfl
  have hU : Try.prog.cellsOf 5 = 1 := by kernel_rfl
  have hS : Try.prog.cellsOf 9 = 1 := by kernel_rfl
  have hL : Try.prog.cellsOf 24 = 1 := by kernel_rfl
  have hT : Try.prog.cellsOf 22 = 1 := by kernel_rfl
  intro fuel
  induction fuel using Nat.strongRecOn with
  | _ fuel ih =>
    intro cs x h
    obtain ⟨xs, n, hfu, _, hl, hxs, hf⟩ := DataW.trod_struct Try.underlying26 h
    rw [hC] at hl
    match cs, hl with
    | [v0, v1, v2, v3, v4], _ =>
      have g0 : DataW.trod enc Try.prog w base sp hd n 5 (([v0, v1, v2, v3, v4].drop 0).take (Try.prog.cellsOf 5)) = xs[0]? := hf 0 _ rfl
      rw [hU] at g0
      have g1 : DataW.trod enc Try.prog w base sp hd n 3 (([v0, v1, v2, v3, v4].drop 1).take (Try.prog.cellsOf 3)) = xs[1]? := hf 1 _ rfl
      rw [hI] at g1
      have g2 : DataW.trod enc Try.prog w base sp hd n 9 (([v0, v1, v2, v3, v4].drop 2).take (Try.prog.cellsOf 9)) = xs[2]? := hf 2 _ rfl
      rw [hS] at g2
      have g3 : DataW.trod enc Try.prog w base sp hd n 24 (([v0, v1, v2, v3, v4].drop 3).take (Try.prog.cellsOf 24)) = xs[3]? := hf 3 _ rfl
      rw [hL] at g3
      have g4 : DataW.trod enc Try.prog w base sp hd n 22 (([v0, v1, v2, v3, v4].drop 4).take (Try.prog.cellsOf 22)) = xs[4]? := hf 4 _ rfl
      rw [hT] at g4
      have hx5 : xs.length = 5 := hxs
      rw [List.getElem?_eq_getElem (by omega)] at g0 g1 g2 g3 g4
      obtain ⟨k, hk, _, wk⟩ := DataW.trod_int Try.underlying5 g0
      obtain ⟨m, hm, _, wm⟩ := DataW.trod_int Try.underlying3 g1
      obtain ⟨s, hs, _, hss⟩ := DataW.trod_string Try.underlying9 g2
      obtain ⟨lo, lc, ls, hls, hrow, hlow, hlen⟩ := open_levels g3
      have hts : ∃ (to : Option Addr) (tc : Nat) (ts : List Tm), [v4] = [.slice to ts.length tc] ∧ RowIn w.heap.size w to 0 ts ∧ ts.length ≤ 9223372036854775807 := by
        rcases DataW.trod_slice Try.underlying22 g4 with ⟨he, _⟩ | ⟨a, len, cap, elems, rest, n', hn', he, _, _, hlc, hcm, hel, hall, _⟩
        · exact ⟨none, 0, [], he, by rw [RowIn]; trivial, by simp⟩
        · rw [hC] at hall
          have hnone : 0 < len → a.spot = none := fun h0 => by
            have hi' := hall 0 h0
            rw [List.getElem?_eq_getElem (by omega)] at hi'
            obtain ⟨cs, hcs, ht⟩ := Option.bind_eq_some_iff.1 hi'
            obtain ⟨_, _, hcell⟩ := World.cells?_some hcs
            obtain ⟨t, h', rfl, hin⟩ := ih n' (by omega) cs _ ht
            have h0 := hcell 0 (by omega)
            rw [Nat.zero_mul, add_zero, add_zero] at h0
            exact World.cell?_spot (show w.cell? a = some (.int .u8 t.k) from h0)
          have key : ∀ i, i < len → ∃ t : Tm, ∃ b off, a = ⟨b, off, none⟩ ∧ TAt w.heap.size w b (off + i * 5) t := fun i hi => by
            have hi' := hall i hi
            rw [List.getElem?_eq_getElem (by omega)] at hi'
            obtain ⟨cs, hcs, ht⟩ := Option.bind_eq_some_iff.1 hi'
            obtain ⟨_, _, hcell⟩ := World.cells?_some hcs
            obtain ⟨t, h', rfl, hin⟩ := ih n' (by omega) cs _ ht
            have hs := hnone (by omega)
            obtain ⟨b, off, spot⟩ := a
            dsimp only at hs
            subst hs
            simp only [add_none] at hcell
            have h0 : w.cell? ⟨b, off + i * 5, none⟩ = some (.int .u8 t.k) := hcell 0 (by omega)
            exact ⟨t, b, off, rfl, World.block_lt_of_cell? w _ h0, h', ⟨h0, hcell 1 (by omega), hcell 2 (by omega), hcell 3 (by omega), hcell 4 (by omega)⟩, hin⟩
          have key2 : ∃ ts : List Tm, ts.length = len ∧ ∀ k (hk : k < ts.length), ∃ b off, a = ⟨b, off, none⟩ ∧ TAt w.heap.size w b (off + k * 5) ts[k] := by
            refine ⟨(List.range len).pmap (fun i hi => Classical.choose (key i hi)) (fun i hi => by simpa using hi), by simp, fun k hk => ?_⟩
            have hk' : k < len := by simpa using hk
            obtain ⟨b, off, ha, hl⟩ := Classical.choose_spec (key k hk')
            exact ⟨b, off, ha, by simpa using hl⟩
          obtain ⟨ts, rfl, hts⟩ := key2
          refine ⟨some a, cap, ts, he, RowIn.mk fun k hk => ?_, ?_⟩
          · obtain ⟨b, off, rfl, hl⟩ := hts k hk
            exact ⟨b, off, rfl, by simpa using hl⟩
          · have : maxLen = 9223372036854775807 := rfl
            omega
      obtain ⟨to, tc, ts, ht4, hrin, htl⟩ := hts
      simp at hk hm hs hls ht4
      subst hk hm hs hls ht4
      refine ⟨.mk k m s ls ts, ⟨lo, lc, to, tc⟩, rfl, Tm.In_iff.2 ⟨⟨?_, ?_, ?_, ?_, ?_, hlen, htl⟩, hrow, hlow, hrin⟩⟩
      · simp [Lit.wf, IntKind.min, IntKind.max, IntKind.signed, IntKind.bits] at wk; exact wk.1
      · simp [Lit.wf, IntKind.min, IntKind.max, IntKind.signed, IntKind.bits] at wk; exact wk.2
      · simp [Lit.wf, IntKind.min, IntKind.max, IntKind.signed, IntKind.bits] at wm; exact wm.1
      · simp [Lit.wf, IntKind.min, IntKind.max, IntKind.signed, IntKind.bits] at wm; exact wm.2
      · exact hss
end

/-- A slice that reads as terms. -/
theorem Trm.open_terms {H : Type} {enc : TypeId × Value → H} {w : World} {base : Nat} {sp : Nat → Bool} {hd : Bool} {a : Option Addr} {len cap : Nat} {d : DataW H} {p : List MemPlace} (h : DataW.Trod enc Try.prog w base sp hd 22 (.slice a len cap) d p) :
    ∃ ts : List Tm, len = ts.length ∧ RowIn w.heap.size w a 0 ts := by
  have hC : Try.prog.cellsOf 26 = 5 := by kernel_rfl
  obtain ⟨fuel, hf⟩ := h
  rcases DataW.trod_slice Try.underlying22 hf with ⟨he, _⟩ | ⟨a', len', cap', elems, rest, n', hn', he, _, _, hlc, hcm, hel, hall, _⟩
  · simp [Value.cells] at he
    obtain ⟨rfl, rfl, rfl⟩ := he
    exact ⟨[], rfl, by rw [RowIn]; trivial⟩
  · simp [Value.cells] at he
    obtain ⟨rfl, rfl, rfl⟩ := he
    rw [hC] at hall
    have hnone : 0 < len → a'.spot = none := fun h0 => by
      have hi' := hall 0 h0
      rw [List.getElem?_eq_getElem (by omega)] at hi'
      obtain ⟨cs, hcs, ht⟩ := Option.bind_eq_some_iff.1 hi'
      obtain ⟨_, _, hcell⟩ := World.cells?_some hcs
      obtain ⟨t, h', rfl, hin⟩ := open_term _ cs _ ht
      have h0 := hcell 0 (by omega)
      rw [Nat.zero_mul, add_zero, add_zero] at h0
      exact World.cell?_spot (show w.cell? a' = some (.int .u8 t.k) from h0)
    have key : ∀ i, i < len → ∃ t : Tm, ∃ b off, a' = ⟨b, off, none⟩ ∧ TAt w.heap.size w b (off + i * 5) t := fun i hi => by
      have hi' := hall i hi
      rw [List.getElem?_eq_getElem (by omega)] at hi'
      obtain ⟨cs, hcs, ht⟩ := Option.bind_eq_some_iff.1 hi'
      obtain ⟨_, _, hcell⟩ := World.cells?_some hcs
      obtain ⟨t, h', rfl, hin⟩ := open_term _ cs _ ht
      have hs := hnone (by omega)
      obtain ⟨b, off, spot⟩ := a'
      dsimp only at hs
      subst hs
      simp only [add_none] at hcell
      have h0 : w.cell? ⟨b, off + i * 5, none⟩ = some (.int .u8 t.k) := hcell 0 (by omega)
      exact ⟨t, b, off, rfl, World.block_lt_of_cell? w _ h0, h', ⟨h0, hcell 1 (by omega), hcell 2 (by omega), hcell 3 (by omega), hcell 4 (by omega)⟩, hin⟩
    have key2 : ∃ ts : List Tm, ts.length = len ∧ ∀ k (hk : k < ts.length), ∃ b off, a' = ⟨b, off, none⟩ ∧ TAt w.heap.size w b (off + k * 5) ts[k] := by
      refine ⟨(List.range len).pmap (fun i hi => Classical.choose (key i hi)) (fun i hi => by simpa using hi), by simp, fun k hk => ?_⟩
      have hk' : k < len := by simpa using hk
      obtain ⟨b, off, ha, hl⟩ := Classical.choose_spec (key k hk')
      exact ⟨b, off, ha, by simpa using hl⟩
    obtain ⟨ts, hts0, hts⟩ := key2
    refine ⟨ts, hts0.symm, RowIn.mk fun k hk => ?_⟩
    obtain ⟨b, off, rfl, hl⟩ := hts k hk
    exact ⟨b, off, rfl, by simpa using hl⟩

/-- An argument's term. -/
theorem Trm.open_arg {H : Type} {enc : TypeId × Value → H} {w : World} {base : Nat} {sp : Nat → Bool} {hd : Bool} {v : Value} {d : DataW H} {p : List MemPlace} (h : DataW.Trod enc Try.prog w base sp hd 26 v d p) :
    ∃ (t : Tm) (h : Hd), v = t.val h ∧ t.In w.heap.size w h := by
  obtain ⟨fuel, hf⟩ := h
  obtain ⟨t, h, hc, hin⟩ := open_term _ _ _ hf
  refine ⟨t, h, ?_, hin⟩
  have hl : v.cells.toList.length = 5 := by rw [hc]; simp [Tm.vals]
  cases v with
  | agg cs =>
    have : cs = t.vals h := by
      have hcs : cs.toList = (t.vals h).toList := hc
      exact Array.toList_inj.1 hcs
    rw [this]; rfl
  | _ => simp [Value.cells] at hl
end Go.Proofs.Ytjicdmohnfcflaa

