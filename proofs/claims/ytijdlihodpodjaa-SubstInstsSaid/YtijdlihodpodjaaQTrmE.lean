/-
  Plain mathematics of layer 4 (subst): a term is gone through from the left, and something comes in the place of its leaves. Nothing of the program is named here.
-/
import Derived.Test.YtijdlihodpodjaaQTrmVars
import Derived.Test.YtijdlihodpodjaaQTrmD
import Derived.Deep.Cut
namespace Go.Proofs.Ytijdlihodpodjaa
open Lvl
namespace Trm

/-- What a leaf becomes: the state, the error, another term (none: it stays). -/
abbrev Lf (σ : Type) := σ → Tm → Int → σ × Int × Option Tm

/-- The binders around a term of a kind: the last one is bound in. -/
def und (k : Int) (last : Bool) (u : Int) : Int := if binds k = true ∧ last = true then u + 1 else u

/-- What comes of a node of whose terms some have been gone through, c: whether one of them is another one. -/
def fin {σ : Type} (k n : Int) (s : ByteArray) (c : Bool) (dn : List Tm) (z : σ × Int × Bool × List Tm) : σ × Int × Option Tm :=
  (z.1, z.2.1, if z.2.1 = 0 ∧ (c || z.2.2.1) = true then some (.mk k n s [] (dn ++ z.2.2.2)) else none)

mutual
def Tm.thr {σ : Type} (lf : Lf σ) : Tm → σ → Int → σ × Int × Option Tm
  | .mk k n s ls ts, st, u => if ts.isEmpty = true then lf st (.mk k n s ls ts) u else fin k n s false [] (thrL lf k ts st u)
def thrL {σ : Type} (lf : Lf σ) (k : Int) : List Tm → σ → Int → σ × Int × Bool × List Tm
  | [], st, _ => (st, 0, false, [])
  | t :: r, st, u =>
    if (t.thr lf st (und k r.isEmpty u)).2.1 = 0 then
      ((thrL lf k r (t.thr lf st (und k r.isEmpty u)).1 (und k r.isEmpty u)).1, (thrL lf k r (t.thr lf st (und k r.isEmpty u)).1 (und k r.isEmpty u)).2.1,
        (t.thr lf st (und k r.isEmpty u)).2.2.isSome || (thrL lf k r (t.thr lf st (und k r.isEmpty u)).1 (und k r.isEmpty u)).2.2.1,
        (t.thr lf st (und k r.isEmpty u)).2.2.getD t :: (thrL lf k r (t.thr lf st (und k r.isEmpty u)).1 (und k r.isEmpty u)).2.2.2)
    else ((t.thr lf st (und k r.isEmpty u)).1, (t.thr lf st (und k r.isEmpty u)).2.1, false, [])
end

theorem Tm.thr_leaf {σ : Type} (lf : Lf σ) {t : Tm} (h : t.ts = []) (st : σ) (u : Int) : t.thr lf st u = lf st t u := by
  cases t with
  | mk k n s ls ts =>
    have h' : ts = [] := h
    subst h'
    rw [Tm.thr]; rfl
theorem Tm.thr_node {σ : Type} (lf : Lf σ) {t : Tm} (h : t.ts ≠ []) (st : σ) (u : Int) : t.thr lf st u = fin t.k t.n t.s false [] (thrL lf t.k t.ts st u) := by
  cases t with
  | mk k n s ls ts =>
    have h' : ts ≠ [] := h
    rw [Tm.thr, if_neg (by simpa using h')]; rfl

theorem fin_bad {σ : Type} (lf : Lf σ) {k n : Int} {s : ByteArray} {c : Bool} {dn : List Tm} {t : Tm} {r : List Tm} {st : σ} {u : Int} {Y : σ × Int × Option Tm} (hY : t.thr lf st (und k r.isEmpty u) = Y) (he : Y.2.1 ≠ 0) :
    fin k n s c dn (thrL lf k (t :: r) st u) = (Y.1, Y.2.1, none) := by
  rw [thrL, hY, if_neg he]
  simp [fin, he]
theorem fin_ok {σ : Type} (lf : Lf σ) {k n : Int} {s : ByteArray} {c : Bool} {dn : List Tm} {t : Tm} {r : List Tm} {st : σ} {u : Int} {Y : σ × Int × Option Tm} (hY : t.thr lf st (und k r.isEmpty u) = Y) (he : Y.2.1 = 0) :
    fin k n s c dn (thrL lf k (t :: r) st u) = fin k n s (c || Y.2.2.isSome) (dn ++ [Y.2.2.getD t]) (thrL lf k r Y.1 (und k r.isEmpty u)) := by
  rw [thrL, hY, if_pos he]
  simp [fin, Bool.or_assoc]
theorem fin_nil {σ : Type} (lf : Lf σ) {k n : Int} {s : ByteArray} {c : Bool} {dn : List Tm} {st : σ} {u : Int} :
    fin k n s c dn (thrL lf k [] st u) = (st, 0, if c = true then some (.mk k n s [] dn) else none) := by
  rw [thrL]
  simp [fin]

theorem node_few {t : Tm} (h : t.node = true) : (t.ts.length : Int) = kids t.k ∧ t.ts.length ≤ 3 ∧ 1 ≤ t.k ∧ t.k ≤ 8 := by
  unfold Tm.node at h
  simp only [Bool.and_eq_true, decide_eq_true_eq] at h
  obtain ⟨⟨⟨⟨⟨h0, h1⟩, _⟩, _⟩, _⟩, _⟩ := h
  refine ⟨h1, ?_, ?_, ?_⟩ <;>
  · unfold kids at h0 h1
    repeat' split at h0
    all_goals (first | omega | (simp_all; done) | (simp_all; omega))
theorem node_inner {t : Tm} (h : t.node = true) (hts : t.ts ≠ []) : t.ls = [] := by
  have hf := node_few h
  have hl : t.ts.length ≠ 0 := fun h0 => hts (List.eq_nil_of_length_eq_zero h0)
  have h1 := hf.1
  unfold Tm.node at h
  simp only [Bool.and_eq_true] at h
  obtain ⟨_, h6⟩ := h
  have hk : t.k ≠ 1 ∧ t.k ≠ 3 := by
    refine ⟨?_, ?_⟩ <;>
    · intro hk
      rw [hk] at h1
      simp [kids] at h1
      exact hts h1
  rw [if_neg hk.1, if_neg hk.2] at h6
  exact List.eq_nil_of_length_eq_zero (of_decide_eq_true h6)

mutual
theorem Tm.thr_good {σ : Type} {lf : Lf σ} {Good : σ → Prop} (hg : ∀ st t u, Good st → t.node = true → t.ts = [] → (lf st t u).2.1 = 0 → Good (lf st t u).1) :
    ∀ (t : Tm) (st : σ) (d u : Int), OkMay t d → Good st → (t.thr lf st u).2.1 = 0 → Good (t.thr lf st u).1
  | .mk k n s ls ts, st, d, u, ho, g, h => by
    rw [Tm.thr] at h ⊢
    split at h
    · rename_i hs
      rw [if_pos hs]
      exact hg st _ u g ho.node.1 (show ts = [] by simpa using hs) h
    · rename_i hs
      rw [if_neg hs]
      exact thrL_good hg k ts st (d + 1) u (fun x hx => ho.down x hx) g h
theorem thrL_good {σ : Type} {lf : Lf σ} {Good : σ → Prop} (hg : ∀ st t u, Good st → t.node = true → t.ts = [] → (lf st t u).2.1 = 0 → Good (lf st t u).1) (k : Int) :
    ∀ (ts : List Tm) (st : σ) (d u : Int), (∀ x ∈ ts, OkMay x d) → Good st → (thrL lf k ts st u).2.1 = 0 → Good (thrL lf k ts st u).1
  | [], st, d, u, _, g, _ => by rw [thrL]; exact g
  | t :: r, st, d, u, ho, g, h => by
    rw [thrL] at h ⊢
    split at h
    · rename_i he
      rw [if_pos he]
      exact thrL_good hg k r _ d _ (fun x hx => ho x (by simp [hx])) (Tm.thr_good hg t st d _ (ho t (by simp)) g he) h
    · rename_i he
      exact absurd h he
end

theorem Tm.thr_kind {σ : Type} {lf : Lf σ} (hk : ∀ st t u y, t.node = true → t.ts = [] → (lf st t u).2.2 = some y → y.k ≠ 0) {t : Tm} {st : σ} {d u : Int} (ho : OkMay t d) {y : Tm} (h : (t.thr lf st u).2.2 = some y) : y.k ≠ 0 := by
  by_cases hts : t.ts = []
  · rw [Tm.thr_leaf lf hts] at h
    exact hk st t u y ho.node.1 hts h
  · rw [Tm.thr_node lf hts] at h
    have := (node_few ho.node.1).2.2
    unfold fin at h
    dsimp only at h
    split at h
    · cases h
      show t.k ≠ 0
      omega
    · cases h
end Trm
end Go.Proofs.Ytijdlihodpodjaa

/-
  subst.through: a term is gone through by a function that is handed in.
-/
namespace Go.Proofs.Ytijdlihodpodjaa
open Go.RowKit Go.Shelf Lvl Trm

namespace Trm
def zeroT : Tm := .mk 0 0 no [] []

theorem RanS.cell {P : Nat → Prop} {w w' : World} (h : RanS P w w') {p : Addr} (hp : p.block < w.heap.size) (hm : ¬ P p.block) : w'.cell? p = w.cell? p := World.cell?_of_block (h.block p.block hp hm)
theorem RanS.more {P : Nat → Prop} {w w' : World} (h : RanS P w w') (o : Obj) : RanS P w (w'.alloc o) := h.trans (RanS.of_below (below_one _ _))
theorem RanS.drewN {P : Nat → Prop} {w w' : World} (h : RanS P w w') (n : Nat) : RanS P w (w'.drewN n) := h.trans (RanS.of_below (by refine ⟨?_, ?_, ?_, ?_, ?_⟩ <;> simp [World.drewN]))
theorem RanS.wide {P Q : Nat → Prop} {w w' : World} (h : RanS P w w') (hpq : ∀ k, P k → Q k) : RanS Q w w' := ⟨h.os, h.tape, h.output, h.size, fun k hk hn => h.block k hk (fun hp => hn (hpq k hp))⟩
theorem RanS.put {P : Nat → Prop} {w w' : World} (h : RanS P w w') {b : Nat} (hb : w.heap.size ≤ b) (v0 v1 v2 v3 v4 : Value) : RanS P w (putT w' b v0 v1 v2 v3 v4) :=
  ⟨(putT_ran w' b v0 v1 v2 v3 v4).os.trans h.os, (putT_ran w' b v0 v1 v2 v3 v4).tape.trans h.tape, (putT_ran w' b v0 v1 v2 v3 v4).output.trans h.output, Nat.le_trans h.size (putT_ran w' b v0 v1 v2 v3 v4).size,
    fun k hk hn => ((putT_ran w' b v0 v1 v2 v3 v4).block k (Nat.lt_of_lt_of_le hk h.size) (by omega)).trans (h.block k hk hn)⟩
theorem RanS.putO {P : Nat → Prop} {w w' : World} (h : RanS P w w') {b : Nat} (hb : w.heap.size ≤ b) (o : Nat) (v0 v1 v2 v3 v4 : Value) : RanS P w (putO w' b o v0 v1 v2 v3 v4) :=
  ⟨(putO_ran w' b o v0 v1 v2 v3 v4).os.trans h.os, (putO_ran w' b o v0 v1 v2 v3 v4).tape.trans h.tape, (putO_ran w' b o v0 v1 v2 v3 v4).output.trans h.output, Nat.le_trans h.size (putO_ran w' b o v0 v1 v2 v3 v4).size,
    fun k hk hn => ((putO_ran w' b o v0 v1 v2 v3 v4).block k (Nat.lt_of_lt_of_le hk h.size) (by omega)).trans (h.block k hk hn)⟩
theorem FirmS.less {P Q : Nat → Prop} {w : World} {t : Tm} {h : Hd} (g : FirmS Q w t h) (hpq : ∀ k, k < w.heap.size → P k → Q k) : FirmS P w t h :=
  fun w' hr => g w' ⟨hr.os, hr.tape, hr.output, hr.size, fun k hk hn => hr.block k hk (fun hp => hn (hpq k hk hp))⟩
theorem TCells.ranS {P : Nat → Prop} {w w1 : World} {b o : Nat} {t : Tm} {h : Hd} (c : TCells w b o t h) (g : RanS P w w1) (hb : b < w.heap.size) (hm : ¬ P b) : TCells w1 b o t h :=
  ⟨(g.cell (p := ⟨b, _, none⟩) hb hm).trans c.c0, (g.cell (p := ⟨b, _, none⟩) hb hm).trans c.c1, (g.cell (p := ⟨b, _, none⟩) hb hm).trans c.c2, (g.cell (p := ⟨b, _, none⟩) hb hm).trans c.c3, (g.cell (p := ⟨b, _, none⟩) hb hm).trans c.c4⟩
theorem TBlock.ranS {P : Nat → Prop} {w w' : World} {g S : Nat} {ps : List (Tm × Hd)} (h : TBlock w g S ps) (hr : RanS P w w') (hm : ¬ P g) : TBlock w' g S ps := by
  have hl := h.lt
  obtain ⟨cur, hg, h2⟩ := h
  exact ⟨cur, by rw [hr.block g hl hm]; exact hg, h2⟩

/-- A term lies at an address outside of the blocks of P, its terms below B. -/
def SAt (B : Nat) (P : Nat → Prop) (w : World) (b o : Nat) (t : Tm) : Prop := ¬ P b ∧ b < w.heap.size ∧ ∃ h, TCells w b o t h ∧ t.In B w h
theorem TAt.sroot {B : Nat} {P : Nat → Prop} {w : World} {b o : Nat} {t : Tm} (h : TAt B w b o t) (hP : ∀ q, P q → B ≤ q) (hB : B ≤ w.heap.size) : SAt B P w b o t := by
  obtain ⟨hb, hd, hc, hi⟩ := h
  exact ⟨fun hp => by have := hP b hp; omega, by omega, hd, hc, hi⟩

/-- What comes of going through a term: the term that is answered lies there whatever is written into the blocks from B on that were there. -/
def ThrPost {σ : Type} (B : Nat) (P : Nat → Prop) (R : σ × Int × Option Tm) (Inv : σ → World → Prop) (w : World) : Ending → World → Prop := fun e w' =>
  ∃ h, e = .returned (.tuple #[(R.2.2.getD zeroT).val h, .int .i64 R.2.1]) ∧ FirmS (fun q => B ≤ q ∧ q < w.heap.size) w' (R.2.2.getD zeroT) h ∧ Inv R.1 w' ∧ RanS P w w'

theorem firm_zero {P : Nat → Prop} {w : World} {lc tc : Nat} : FirmS P w zeroT ⟨none, lc, none, tc⟩ := fun _ _ => leaf_in (by decide) (by decide) (by decide) (by decide) (by decide)

/-- What is asked of a function that sees each leaf. -/
structure Leaf {σ : Type} (B N : Nat) (P : Nat → Prop) (C : Nat) (f : FuncId) (lf : Lf σ) (Inv : σ → World → Prop) (Good : σ → Prop) : Prop where
  calls : ∀ st t b o u w, Good st → Inv st w → t.node = true → t.ts = [] → 0 ≤ u → u ≤ 4096 → SAt B P w b o t → B ≤ w.heap.size → N ≤ w.heap.size → (∀ q, P q → q < w.heap.size) →
    Calls Try.prog f #[.pointer (some ⟨b, o, none⟩), .int .i64 u, .pointer (some ⟨C, 0, none⟩)] w (ThrPost B P (lf st t u) Inv w)
  good : ∀ st t u, Good st → t.node = true → t.ts = [] → (lf st t u).2.1 = 0 → Good (lf st t u).1
  kind : ∀ st t u y, t.node = true → t.ts = [] → (lf st t u).2.2 = some y → y.k ≠ 0
  keep : ∀ st w w', Inv st w → Below N w w' → Inv st w'
  low : ∀ q, P q → B ≤ q
  enter : ∀ (args : Array Value) (w : World), Sem.run Try.prog (callFunc f args) w = .ok (.enter f args) w
end Trm

set_option maxRecDepth 100000 in
theorem binds_any (k : Int) (w : World) :
    Calls Try.prog 142 #[.int .u8 k] w fun e w' => e = .returned (.bool (binds k)) ∧ w = w' := by
  have hb : binds k = ((k == 5) || (k == 6) || (k == 7)) := by unfold binds; rw [Bool.eq_iff_iff]; simp; omega
  rw [hb]
  clear hb
  go_enter Try.func142, Try.ntmps142
  cases h5 : k == 5
  · cases h6 : k == 6
    · cases h7 : k == 7
      · go_wp2_with fail
        go_ret
        exact ⟨rfl, rfl⟩
      · go_wp2_with fail
        go_ret
        exact ⟨rfl, rfl⟩
    · go_wp2_with fail
      go_ret
      exact ⟨rfl, rfl⟩
  · go_wp2_with fail
    go_ret
    exact ⟨rfl, rfl⟩

set_option maxRecDepth 100000 in
set_option maxHeartbeats 1000000 in
theorem Clone_any (b off n cap : Nat) (ps : List (Tm × Hd)) (w : World) (hn : ps.length = n) (h3 : n ≤ 1000000) (hc : ∀ k (hk : k < ps.length), TCells w b (off + k * 5) ps[k].1 ps[k].2) (h0 : 0 < n) :
    Calls Try.prog 143 #[.slice (some ⟨b, off, none⟩) n cap] w fun e w' => ∃ L S c, e = .returned (.slice (some ⟨L, 0, none⟩) n c) ∧ w.heap.size ≤ L ∧ L < w'.heap.size ∧ TBlock w' L S ps ∧ Below w.heap.size w w' := by
  obtain ⟨i0, hi, hz0, hz1, hz2⟩ := info_parts infoT
  have HC : Hid (∀ j u, (flat ps)[j]? = some u → w.cell? ⟨b, off + j, none⟩ = some u) := Lib.hid (fun j u hj => by
    have hjl : j < ps.length * 5 := by rw [← flat_len]; exact (List.getElem?_eq_some_iff.1 hj).1
    have hk : j / 5 < ps.length := by omega
    have hq : j % 5 < 5 := Nat.mod_lt _ (by omega)
    have e := flat_at ps (j / 5) hk (j % 5) hq
    rw [show j / 5 * 5 + j % 5 = j by omega, hj] at e
    obtain ⟨c0, c1, c2, c3, c4⟩ := hc (j / 5) hk
    have h5 : j % 5 = 0 ∨ j % 5 = 1 ∨ j % 5 = 2 ∨ j % 5 = 3 ∨ j % 5 = 4 := by omega
    rcases h5 with h | h | h | h | h <;> rw [h] at e <;> simp [Tm.vals] at e <;> subst e
    · rw [show off + j = off + j / 5 * 5 by omega]; exact c0
    · rw [show off + j = off + j / 5 * 5 + 1 by omega]; exact c1
    · rw [show off + j = off + j / 5 * 5 + 2 by omega]; exact c2
    · rw [show off + j = off + j / 5 * 5 + 3 by omega]; exact c3
    · rw [show off + j = off + j / 5 * 5 + 4 by omega]; exact c4)
  have hone : ∀ u ∈ flat ps, u.oneCell' = true := by
    intro u hu
    unfold flat at hu
    rw [List.mem_flatMap] at hu
    obtain ⟨p, _, hp⟩ := hu
    simp [Tm.vals] at hp
    rcases hp with rfl | rfl | rfl | rfl | rfl <;> rfl
  have q22 : ∀ (w : World) (a : Option Addr) (n c n' c' : Nat), (binOp .eql 23 (.slice a n c) (.slice none n' c')).run Try.prog w = .ok (.bool a.isNone) w := fun w a n c n' c' => Lib.run_eql_slice_nil w _ _ a n c n' c' Try.underlying23
  clear hc
  go_enter Try.func143, Try.ntmps143
  go_wp2_with (at_builtin; refine wpList_append_own _ rfl _ _ 23 rfl w.heap.size 25 i0 _ 5 80 Try.underlying23 hi hz0 hz1 hz2 rfl (by decide) _ _ _ rfl (World.ownsRow_made w #[] 0 (Nat.le_refl _) (Nat.zero_le _) (by simp)) ⟨b, off, none⟩ n cap (flat ps) rfl ?c1 ?c2 ?c3 ?c4 ?c5 ?c6 ?_)
  case c1 => rw [flat_len, hn]
  case c2 =>
    intro j u hj
    rw [Addr.add_lit]
    exact Lib.cell?_alloc_some _ (HC.out j u hj)
  case c3 => exact hone
  case c4 => unfold maxLen; omega
  case c5 => omega
  case c6 => simp
  intro v' w1 hown hgrow hnil
  have ho0 : (w.alloc (.cells #[] 25)).ownsRow w.heap.size 25 5 (.slice (some ⟨w.heap.size, 0, none⟩) 0 0) 0 [] := World.ownsRow_made w #[] 0 (Nat.le_refl _) (Nat.zero_le _) (by simp)
  have hbel := Lib.hid ((below_one w (.cells #[] 25)).trans (below_own ho0 hgrow (by simp)))
  subst hn
  have HO := Lib.hid hown
  obtain ⟨hfl, ⟨_, hn0⟩ | ⟨g, c, cur, rfl, hbg, hgb, _⟩⟩ := hown
  · omega
  · obtain ⟨hq1, hq2, hq3⟩ := block_of_own HO.out
    have HQ := Lib.hid hq3
    have hgl := (Array.getElem?_eq_some_iff.1 hgb).1
    clear ho0 hgrow hnil hfl hgb hq3 hq2
    go_wp2_with fail
    go_ret
    exact ⟨g, c * 5, c, rfl, hbg, hgl, HQ.out, hbel.out⟩
end Go.Proofs.Ytijdlihodpodjaa

/-
  term.Free, Has.
-/
namespace Go.Proofs.Ytijdlihodpodjaa
open Go.RowKit Go.Shelf Lvl Trm

/-- One more than the greatest free variable; of a term that may not be 0. -/
def Trm.Tm.free (t : Tm) : Int := if t.may = true then (t.vs 0).foldl (fun n v => max n (v + 1)) 0 else 0
def Trm.Tm.has (t : Tm) (k : Int) : Bool := t.may && (t.vs 0).any (· == k)

set_option maxRecDepth 100000 in
set_option maxHeartbeats 1000000 in
theorem vars_free (n : Int) (t : Tm) (h : Hd) (B m : Nat) (w : World) (hin : t.In B w h) (hB : B ≤ m) (hm : w.heap[m]? = some (.cells #[.int .i64 n] 3)) :
    Calls Try.prog 73 #[t.val h, .func (.func 74) #[] #[.pointer (some ⟨m, 0, none⟩)]] w fun e w' => e = .returned (.tuple #[]) ∧ w'.heap[m]? = some (.cells #[.int .i64 (if t.may = true then (t.vs 0).foldl (fun n v => max n (v + 1)) n else n)] 3) ∧ Ran m w w' := by
  have hml := (Array.getElem?_eq_some_iff.1 hm).1
  have HMAY := Lib.hid (fun (W : World) (hW : Below w.heap.size w W) => PMay_any t h W (Tm.In.mono (by have := hW.size; omega) _ _ (Tm.In.below (hW.mono (by omega)) _ _ hin)))
  have HW := Lib.hid (fun (hmay : t.may = true) (W : World) (h1 : Below w.heap.size w W) (h0 : W.heap[w.heap.size]? = some (t.box h)) (h2 : W.heap[w.heap.size + 1]? = some (.cells #[.func (.func 74) #[] #[.pointer (some ⟨m, 0, none⟩)]] 88)) =>
    walk_any (sees_free hB (C := w.heap.size + 1) (by omega)) t n w.heap.size 0 W trivial ⟨Lvl.keep h1 hm, h2⟩ (OkMay.start hmay) ⟨by omega, (Array.getElem?_eq_some_iff.1 h0).1, h, Tm.cells h0, Tm.In.below (h1.mono (by omega)) _ _ hin⟩ (by have := h1.size; omega) (by have := h1.size; omega))
  simp only [Tm.walk_free] at HW
  have HM := Lib.hid hm
  clear hin hm
  unfold Tm.box at HW
  unfold Tm.val at HMAY ⊢
  dsimp only [Tm.vals] at HMAY HW ⊢
  cases hmay : t.may
  · rw [hmay] at HMAY HW
    simp only [Bool.false_eq_true, if_false]
    clear HW hmay
    go_enter Try.func73, Try.ntmps73
    go_wp2_with fail
    refine (HMAY.out _ (below_two w _ _)).mono ?_
    rintro e w1 ⟨rfl, b1⟩
    have HB := Lib.hid ((below_two w _ _).trans (b1.mono (by simp; omega)))
    clear b1
    go_wp2_with fail
    refine bodyPost_ret (results_none rfl _ _ _) rfl ?_
    exact ⟨rfl, Lvl.keep HB.out HM.out, Ran.of_below HB.out⟩
  · rw [hmay] at HMAY
    have HW' := Lib.hid (HW.out hmay)
    simp only [if_true]
    clear hmay HW
    generalize (t.vs 0).foldl (fun n v => max n (v + 1)) n = R at HW' ⊢
    go_enter Try.func73, Try.ntmps73
    go_wp2_with fail
    refine (HMAY.out _ (below_two w _ _)).mono ?_
    rintro e w1 ⟨rfl, b1⟩
    have HB := Lib.hid ((below_two w _ _).trans (b1.mono (by simp; omega)))
    have HX := Lib.hid (HW'.out w1 HB.out (Lvl.keep b1 (new1of2 w _ _)) (Lvl.keep b1 (new2 w _ _)))
    have hc0 := (Tm.cells (t := t) (h := h) (Lvl.keep b1 (new1of2 w _ _)))
    clear b1
    go_wp2_with fail
    refine HX.out.mono ?_
    rintro e w2 ⟨rfl, i2, g2⟩
    have HI := Lib.hid i2.1
    have HR := Lib.hid ((Ran.of_below HB.out).trans g2)
    clear i2 g2
    go_wp2_with fail
    go_end0
    exact ⟨rfl, HI.out, HR.out⟩

set_option maxRecDepth 100000 in
set_option maxHeartbeats 1000000 in
theorem vars_has (q : Int) (t : Tm) (h : Hd) (B m K : Nat) (w : World) (hin : t.In B w h) (hB : B ≤ m) (hm : w.heap[m]? = some (.cells #[.bool false] 4)) (hKm : K ≠ m) (hk : w.heap[K]? = some (.cells #[.int .i64 q] 3)) :
    Calls Try.prog 73 #[t.val h, .func (.func 75) #[] #[.pointer (some ⟨K, 0, none⟩), .pointer (some ⟨m, 0, none⟩)]] w fun e w' => e = .returned (.tuple #[]) ∧ w'.heap[m]? = some (.cells #[.bool (t.may && (t.vs 0).any (· == q))] 4) ∧ Ran m w w' := by
  have hml := (Array.getElem?_eq_some_iff.1 hm).1
  have HMAY := Lib.hid (fun (W : World) (hW : Below w.heap.size w W) => PMay_any t h W (Tm.In.mono (by have := hW.size; omega) _ _ (Tm.In.below (hW.mono (by omega)) _ _ hin)))
  have HW := Lib.hid (fun (hmay : t.may = true) (W : World) (h1 : Below w.heap.size w W) (h0 : W.heap[w.heap.size]? = some (t.box h)) (h2 : W.heap[w.heap.size + 1]? = some (.cells #[.func (.func 75) #[] #[.pointer (some ⟨K, 0, none⟩), .pointer (some ⟨m, 0, none⟩)]] 88)) =>
    walk_any (sees_has q hB (C := w.heap.size + 1) (by omega) hKm) t false w.heap.size 0 W rfl ⟨Lvl.keep h1 hm, h2, Lvl.keep h1 hk⟩ (OkMay.start hmay) ⟨by omega, (Array.getElem?_eq_some_iff.1 h0).1, h, Tm.cells h0, Tm.In.below (h1.mono (by omega)) _ _ hin⟩ (by have := h1.size; omega) (by have := h1.size; omega))
  simp only [Tm.walk_has] at HW
  have HM := Lib.hid hm
  clear hin hm hk
  unfold Tm.box at HW
  unfold Tm.val at HMAY ⊢
  dsimp only [Tm.vals] at HMAY HW ⊢
  cases hmay : t.may
  · rw [hmay] at HMAY HW
    simp only [Bool.false_and]
    clear HW hmay
    go_enter Try.func73, Try.ntmps73
    go_wp2_with fail
    refine (HMAY.out _ (below_two w _ _)).mono ?_
    rintro e w1 ⟨rfl, b1⟩
    have HB := Lib.hid ((below_two w _ _).trans (b1.mono (by simp; omega)))
    clear b1
    go_wp2_with fail
    refine bodyPost_ret (results_none rfl _ _ _) rfl ?_
    exact ⟨rfl, Lvl.keep HB.out HM.out, Ran.of_below HB.out⟩
  · rw [hmay] at HMAY
    have HW' := Lib.hid (HW.out hmay)
    simp only [Bool.true_and]
    clear hmay HW
    generalize (t.vs 0).any (· == q) = R at HW' ⊢
    go_enter Try.func73, Try.ntmps73
    go_wp2_with fail
    refine (HMAY.out _ (below_two w _ _)).mono ?_
    rintro e w1 ⟨rfl, b1⟩
    have HB := Lib.hid ((below_two w _ _).trans (b1.mono (by simp; omega)))
    have HX := Lib.hid (HW'.out w1 HB.out (Lvl.keep b1 (new1of2 w _ _)) (Lvl.keep b1 (new2 w _ _)))
    have hc0 := (Tm.cells (t := t) (h := h) (Lvl.keep b1 (new1of2 w _ _)))
    clear b1
    go_wp2_with fail
    refine HX.out.mono ?_
    rintro e w2 ⟨rfl, i2, g2⟩
    have HI := Lib.hid i2.1
    have HR := Lib.hid ((Ran.of_below HB.out).trans g2)
    clear i2 g2
    go_wp2_with fail
    go_end0
    exact ⟨rfl, HI.out, HR.out⟩

set_option maxRecDepth 100000 in
set_option maxHeartbeats 1000000 in
theorem PFree_any (t : Tm) (h : Hd) (w : World) (hin : t.In w.heap.size w h) :
    Calls Try.prog 20 #[t.val h] w fun e w' => e = .returned (.int .i64 t.free) ∧ Below w.heap.size w w' := by
  have HX := Lib.hid (vars_free 0 t h w.heap.size (w.heap.size + 1) ((w.alloc (t.box h)).alloc (.cells #[.int .i64 0] 3)) (Tm.In.below (below_two w _ _) _ _ hin) (by omega) (new2 _ _ _))
  unfold Tm.free
  generalize (if t.may = true then (t.vs 0).foldl (fun n v => max n (v + 1)) 0 else 0) = R at HX ⊢
  clear hin
  unfold Tm.box at HX
  unfold Tm.val at HX ⊢
  dsimp only [Tm.vals] at HX ⊢
  go_enter Try.func20, Try.ntmps20
  go_wp2_with fail
  refine HX.out.mono ?_
  rintro e w1 ⟨rfl, i1, g1⟩
  have HB := Lib.hid ((below_two w _ _).trans (g1.below (B := w.heap.size) (by omega) (by simp; omega)))
  have hc := one_cell i1
  clear i1 g1
  go_wp2_with fail
  go_ret
  exact ⟨rfl, HB.out⟩

set_option maxRecDepth 100000 in
set_option maxHeartbeats 1000000 in
theorem PHas_any (t : Tm) (h : Hd) (q : Int) (w : World) (hin : t.In w.heap.size w h) :
    Calls Try.prog 21 #[t.val h, .int .i64 q] w fun e w' => e = .returned (.bool (t.has q)) ∧ Below w.heap.size w w' := by
  have HX := Lib.hid (vars_has q t h w.heap.size (w.heap.size + 1 + 1) (w.heap.size + 1) (((w.alloc (t.box h)).alloc (.cells #[.int .i64 q] 3)).alloc (.cells #[.bool false] 4)) (Tm.In.below ((below_two w _ _).trans (Below.mono (below_one _ _) (by simp; omega))) _ _ hin) (by omega) (new3 _ _ _ _) (by omega) (new2of3 _ _ _ _))
  unfold Tm.has
  generalize (t.may && (t.vs 0).any (· == q)) = R at HX ⊢
  clear hin
  unfold Tm.box at HX
  unfold Tm.val at HX ⊢
  dsimp only [Tm.vals] at HX ⊢
  go_enter Try.func21, Try.ntmps21
  go_wp2_with fail
  refine HX.out.mono ?_
  rintro e w1 ⟨rfl, i1, g1⟩
  have HB := Lib.hid (((below_two w _ _).trans (Below.mono (below_one _ _) (by simp; omega))).trans (g1.below (B := w.heap.size) (by omega) (by simp; omega)))
  have hc := one_cell i1
  clear i1 g1
  go_wp2_with fail
  go_ret
  exact ⟨rfl, HB.out⟩
end Go.Proofs.Ytijdlihodpodjaa

/-
  The mathematics of TermFree: the free variables of a term, and of a lambda of it.
-/
namespace Go.Proofs.Ytijdlihodpodjaa
open Lvl Trm

namespace Trm
def top (l : List Int) : Int := l.foldl (fun n v => max n (v + 1)) 0
theorem fold_ge (l : List Int) : ∀ n : Int, n ≤ l.foldl (fun n v => max n (v + 1)) n ∧ ∀ v ∈ l, v < l.foldl (fun n v => max n (v + 1)) n := by
  induction l with
  | nil => intro n; exact ⟨Int.le_refl _, fun v hv => by cases hv⟩
  | cons a r ih =>
    intro n
    obtain ⟨h1, h2⟩ := ih (max n (a + 1))
    refine ⟨by simp only [List.foldl_cons]; omega, fun v hv => ?_⟩
    simp only [List.foldl_cons]
    rcases List.mem_cons.1 hv with rfl | hr
    · omega
    · exact h2 v hr
theorem fold_mem (l : List Int) : ∀ n : Int, l.foldl (fun n v => max n (v + 1)) n = n ∨ l.foldl (fun n v => max n (v + 1)) n - 1 ∈ l := by
  induction l with
  | nil => intro n; exact Or.inl rfl
  | cons a r ih =>
    intro n
    simp only [List.foldl_cons]
    rcases ih (max n (a + 1)) with h | h
    · rw [h]
      by_cases hc : a + 1 ≤ n
      · left; omega
      · right
        rw [show max n (a + 1) - 1 = a by omega]
        simp
    · exact Or.inr (List.mem_cons_of_mem _ h)
theorem top_ge (l : List Int) : 0 ≤ top l := (fold_ge l 0).1
theorem top_lt (l : List Int) : ∀ v ∈ l, v < top l := (fold_ge l 0).2
theorem top_mem (l : List Int) (h : 0 < top l) : top l - 1 ∈ l := by
  rcases fold_mem l 0 with h1 | h1
  · unfold top at h; omega
  · exact h1
theorem top_shift (l : List Int) : top ((l.filter (fun v => decide (1 ≤ v))).map (· - 1)) = max 0 (top l - 1) := by
  have hm : ∀ w, w ∈ (l.filter (fun v => decide (1 ≤ v))).map (· - 1) ↔ w + 1 ∈ l ∧ 0 ≤ w := by
    intro w
    simp only [List.mem_map, List.mem_filter, decide_eq_true_eq]
    constructor
    · rintro ⟨v, ⟨hv, h1⟩, rfl⟩
      rw [show v - 1 + 1 = v by omega]
      exact ⟨hv, by omega⟩
    · rintro ⟨hv, h1⟩
      exact ⟨w + 1, ⟨hv, by omega⟩, by omega⟩
  generalize hM : (l.filter (fun v => decide (1 ≤ v))).map (· - 1) = M at hm
  have a1 := top_ge M
  have a2 := top_ge l
  by_cases h1 : 1 < top l
  · have h2 := top_mem l (by omega)
    have h3 : top l - 2 ∈ M := (hm _).2 ⟨by rw [show top l - 2 + 1 = top l - 1 by omega]; exact h2, by omega⟩
    have h4 := top_lt M _ h3
    have h5 : 0 < top M := by omega
    have h6 := top_lt l _ ((hm _).1 (top_mem M h5)).1
    omega
  · by_cases h5 : 0 < top M
    · have h6 := top_lt l _ ((hm _).1 (top_mem M h5)).1
      have h7 := ((hm _).1 (top_mem M h5)).2
      omega
    · omega

mutual
theorem vs_bound : ∀ (t : Tm) (u d : Int), 0 ≤ u → OkMay t d → ∀ v ∈ t.vs u, 0 ≤ v ∧ v ≤ 1048576
  | .mk k n s ls ts, u, d, hu, ho, v, hv => by
    rw [Tm.vs] at hv
    rcases List.mem_append.1 hv with h | h
    · split at h
      · simp at h
        have := node_num ho.node.1
        simp only [Tm.n] at this
        omega
      · cases h
    · exact vsL_bound k ts 0 u (d + 1) hu (fun x hx => ho.down x hx) v h
theorem vsL_bound (k : Int) : ∀ (ts : List Tm) (i : Nat) (u d : Int), 0 ≤ u → (∀ x ∈ ts, OkMay x d) → ∀ v ∈ vsL k ts i u, 0 ≤ v ∧ v ≤ 1048576
  | [], i, u, d, _, _, v, hv => by rw [vsL] at hv; cases hv
  | t :: r, i, u, d, hu, ho, v, hv => by
    rw [vsL] at hv
    have hu' : 0 ≤ under k i u := by unfold under; split <;> omega
    rcases List.mem_append.1 hv with h | h
    · exact vs_bound t _ d hu' (ho t (by simp)) v h
    · exact vsL_bound k r (i + 1) _ d hu' (fun x hx => ho x (by simp [hx])) v h
end

mutual
theorem vs_shift : ∀ (t : Tm) (u : Int), t.vs (u + 1) = ((t.vs u).filter (fun v => decide (1 ≤ v))).map (· - 1)
  | .mk k n s ls ts, u => by
    rw [Tm.vs, Tm.vs, List.filter_append, List.map_append, vsL_shift k ts 0 u]
    congr 1
    by_cases hk : k = 2
    · by_cases h1 : u + 1 ≤ n
      · rw [if_pos ⟨hk, h1⟩, if_pos ⟨hk, by omega⟩]
        have : decide (1 ≤ n - u) = true := by simp; omega
        simp [this]; omega
      · rw [if_neg (fun h => h1 h.2)]
        by_cases h2 : u ≤ n
        · rw [if_pos ⟨hk, h2⟩]
          have : decide (1 ≤ n - u) = false := by simp; omega
          simp [this]
        · rw [if_neg (fun h => h2 h.2)]; rfl
    · rw [if_neg (fun h => hk h.1), if_neg (fun h => hk h.1)]; rfl
theorem vsL_shift (k : Int) : ∀ (ts : List Tm) (i : Nat) (u : Int), vsL k ts i (u + 1) = ((vsL k ts i u).filter (fun v => decide (1 ≤ v))).map (· - 1)
  | [], i, u => by rw [vsL, vsL]; rfl
  | t :: r, i, u => by
    have hu : under k i (u + 1) = under k i u + 1 := by unfold under; split <;> rfl
    rw [vsL, vsL, List.filter_append, List.map_append, hu, vs_shift t, vsL_shift k r]
end

theorem lam_vs (t : Tm) : (t2 5 tS t).vs 0 = ((t.vs 0).filter (fun v => decide (1 ≤ v))).map (· - 1) := by
  rw [← vs_shift t 0]
  unfold t2
  rw [Tm.vs, vsL, vsL, vsL]
  have h0 : under 5 0 0 = 0 := by decide
  have h1 : under 5 (0 + 1) 0 = 1 := by decide
  rw [h0, h1]
  have hs : tS.vs 0 = [] := by unfold tS; rw [Tm.vs, vsL]; rfl
  rw [hs]
  simp

/-- What TermFree asks of a term that may be, and of its lambda. -/
theorem free_facts {t : Tm} (h : t.may = true) : 0 ≤ t.free ∧ t.free ≤ 1048577 ∧ (0 < t.free → t.has (t.free - 1) = true) ∧ (∀ k : Int, 0 ≤ k → t.has (t.free + k) = false) ∧ (∀ k : Int, k < 0 → t.has k = false) := by
  have hb := vs_bound t 0 1 (by omega) (OkMay.start h)
  have hf : t.free = top (t.vs 0) := by unfold Tm.free; rw [if_pos h]; rfl
  have hh : ∀ k, t.has k = (t.vs 0).any (· == k) := fun k => by unfold Tm.has; rw [h, Bool.true_and]
  rw [hf]
  refine ⟨top_ge _, ?_, fun hp => ?_, fun k hk => ?_, fun k hk => ?_⟩
  · by_cases hp : 0 < top (t.vs 0)
    · have := (hb _ (top_mem _ hp)).2; omega
    · omega
  · rw [hh, List.any_eq_true]
    exact ⟨_, top_mem _ hp, by simp⟩
  · rw [hh, List.any_eq_false]
    intro v hv
    have := top_lt _ v hv
    simp; omega
  · rw [hh, List.any_eq_false]
    intro v hv
    have := (hb v hv).1
    simp; omega
theorem lam_facts {t : Tm} (h : t.may = true) (hu : (t2 5 tS t).may = true) : (t2 5 tS t).free = max 0 (t.free - 1) ∧ (∀ k : Int, 0 ≤ k → (t2 5 tS t).has k = t.has (k + 1)) ∧ (t2 5 tS t).count = t.count + 2 := by
  have hb := vs_bound t 0 1 (by omega) (OkMay.start h)
  have hf : t.free = top (t.vs 0) := by unfold Tm.free; rw [if_pos h]; rfl
  have hf' : (t2 5 tS t).free = top ((t2 5 tS t).vs 0) := by unfold Tm.free; rw [if_pos hu]; rfl
  refine ⟨?_, fun k hk => ?_, ?_⟩
  · rw [hf, hf', lam_vs]
    exact top_shift _
  · unfold Tm.has
    rw [h, hu, Bool.true_and, Bool.true_and, lam_vs, Bool.eq_iff_iff]
    simp only [List.any_eq_true, List.mem_map, List.mem_filter, decide_eq_true_eq, beq_iff_eq]
    constructor
    · rintro ⟨_, ⟨v, ⟨hv, h1⟩, rfl⟩, h2⟩
      exact ⟨v, hv, by omega⟩
    · rintro ⟨v, hv, rfl⟩
      exact ⟨k, ⟨k + 1, ⟨hv, by omega⟩, by omega⟩, rfl⟩
  · unfold Tm.count
    rw [if_pos h, if_pos hu]
    unfold t2 tS
    rw [Tm.size, sizeL, sizeL, sizeL, Tm.size, sizeL]
    omega
end Trm
end Go.Proofs.Ytijdlihodpodjaa

/-
  The mathematics of layer 4: terms in the place of free variables.
-/
namespace Go.Proofs.Ytijdlihodpodjaa
open Lvl Trm

namespace Trm
mutual
/-- Terms in the place of the free variables: g says which, of a number and the binders around it. -/
def Tm.put (g : Int → Int → Tm) : Tm → Int → Tm
  | .mk k n s ls ts, u => if k = 2 ∧ u ≤ n then g (n - u) u else .mk k n s ls (putL g k ts 0 u)
def putL (g : Int → Int → Tm) (k : Int) : List Tm → Nat → Int → List Tm
  | [], _, _ => []
  | t :: r, i, u => t.put g (under k i u) :: putL g k r (i + 1) (under k i u)
end
mutual
/-- The free variables, from the left, with the binders around them. -/
def Tm.vps : Tm → Int → List (Int × Int)
  | .mk k n _ _ ts, u => (if k = 2 ∧ u ≤ n then [(n - u, u)] else []) ++ vpsL k ts 0 u
def vpsL (k : Int) : List Tm → Nat → Int → List (Int × Int)
  | [], _, _ => []
  | t :: r, i, u => t.vps (under k i u) ++ vpsL k r (i + 1) (under k i u)
end

mutual
theorem vps_vs : ∀ (t : Tm) (u : Int), (t.vps u).map (·.1) = t.vs u
  | .mk k n s ls ts, u => by
    rw [Tm.vps, Tm.vs, List.map_append, vpsL_vs]
    split <;> rfl
theorem vpsL_vs (k : Int) : ∀ (ts : List Tm) (i : Nat) (u : Int), (vpsL k ts i u).map (·.1) = vsL k ts i u
  | [], i, u => by rw [vpsL, vsL]; rfl
  | t :: r, i, u => by rw [vpsL, vsL, List.map_append, vps_vs, vpsL_vs]
end

theorem node_var {t : Tm} (h : t.node = true) (hk : t.k = 2) : t = tV t.n := by
  unfold Tm.node at h
  simp only [hk, Bool.and_eq_true, decide_eq_true_eq] at h
  obtain ⟨⟨⟨⟨⟨_, hl⟩, _⟩, hs⟩, hn⟩, hv⟩ := h
  simp [kids] at hl hs hn hv
  obtain ⟨k, n, s, ls, ts⟩ := t
  simp only [Tm.k, Tm.ts, Tm.s, Tm.n, Tm.ls] at hk hl hs hn hv ⊢
  subst hk hl hv
  have hs' : s = no := by
    first
      | exact hs
      | (cases s with
         | mk d => simp [ByteArray.size] at hs; subst hs; rfl)
  rw [hs']; rfl
theorem under_le (k : Int) (i : Nat) (u : Int) : u ≤ under k i u ∧ under k i u ≤ u + 1 := by unfold under; split <;> omega

mutual
theorem vps_bound : ∀ (t : Tm) (u d : Int), 0 ≤ u → u ≤ d → OkMay t d → ∀ p ∈ t.vps u, 0 ≤ p.1 ∧ u ≤ p.2 ∧ p.2 ≤ 4096 ∧ p.1 + p.2 ≤ 1048576
  | .mk k n s ls ts, u, d, hu, hd, ho, p, hp => by
    rw [Tm.vps] at hp
    rcases List.mem_append.1 hp with h | h
    · split at h
      · simp at h
        subst h
        have := node_num ho.node.1
        have := ho.node.2
        simp only [Tm.n] at *
        rename_i h1
        refine ⟨?_, ?_, ?_, ?_⟩ <;> omega
      · cases h
    · exact vpsL_bound k ts 0 u d hu (by omega) (Or.inl hd) (fun x hx => ho.down x hx) p h
theorem vpsL_bound (k : Int) : ∀ (ts : List Tm) (i : Nat) (u d : Int), 0 ≤ u → u ≤ d + 1 → (u ≤ d ∨ kids k ≤ i) → (∀ x ∈ ts, OkMay x (d + 1)) → ∀ p ∈ vpsL k ts i u, 0 ≤ p.1 ∧ u ≤ p.2 ∧ p.2 ≤ 4096 ∧ p.1 + p.2 ≤ 1048576
  | [], i, u, d, _, _, _, _, p, hp => by rw [vpsL] at hp; cases hp
  | t :: r, i, u, d, hu, hd, hq, ho, p, hp => by
    rw [vpsL] at hp
    have hl := under_le k i u
    have h1 : under k i u ≤ d + 1 ∧ (under k i u ≤ d ∨ kids k ≤ ((i + 1 : Nat) : Int)) := by
      unfold under
      split
      · rename_i h; omega
      · omega
    rcases List.mem_append.1 hp with h | h
    · have := vps_bound t _ (d + 1) (by omega) h1.1 (ho t (by simp)) p h
      omega
    · have := vpsL_bound k r (i + 1) _ d (by omega) h1.1 h1.2 (fun x hx => ho x (by simp [hx])) p h
      omega
end

mutual
theorem put_congr {g g' : Int → Int → Tm} : ∀ (t : Tm) (u : Int), (∀ p ∈ t.vps u, g p.1 p.2 = g' p.1 p.2) → t.put g u = t.put g' u
  | .mk k n s ls ts, u, h => by
    rw [Tm.vps] at h
    rw [Tm.put, Tm.put]
    by_cases hc : k = 2 ∧ u ≤ n
    · rw [if_pos hc, if_pos hc]
      exact h (n - u, u) (by rw [if_pos hc]; simp)
    · rw [if_neg hc, if_neg hc, putL_congr k ts 0 u (fun p hp => h p (List.mem_append_right _ hp))]
theorem putL_congr {g g' : Int → Int → Tm} (k : Int) : ∀ (ts : List Tm) (i : Nat) (u : Int), (∀ p ∈ vpsL k ts i u, g p.1 p.2 = g' p.1 p.2) → putL g k ts i u = putL g' k ts i u
  | [], i, u, h => by rw [putL, putL]
  | t :: r, i, u, h => by
    rw [vpsL] at h
    rw [putL, putL, put_congr t _ (fun p hp => h p (List.mem_append_left _ hp)), putL_congr k r (i + 1) _ (fun p hp => h p (List.mem_append_right _ hp))]
end
mutual
theorem put_id : ∀ (t : Tm) (u d : Int), OkMay t d → t.put (fun v u => tV (v + u)) u = t
  | .mk k n s ls ts, u, d, ho => by
    rw [Tm.put]
    by_cases hc : k = 2 ∧ u ≤ n
    · rw [if_pos hc, node_var ho.node.1 hc.1]
      show tV (n - u + u) = tV n
      rw [Int.sub_add_cancel]
    · rw [if_neg hc, putL_id k ts 0 u (d + 1) (fun x hx => ho.down x hx)]
theorem putL_id (k : Int) : ∀ (ts : List Tm) (i : Nat) (u d : Int), (∀ x ∈ ts, OkMay x d) → putL (fun v u => tV (v + u)) k ts i u = ts
  | [], i, u, d, _ => by rw [putL]
  | t :: r, i, u, d, ho => by rw [putL, put_id t _ d (ho t (by simp)), putL_id k r (i + 1) _ d (fun x hx => ho x (by simp [hx]))]
end

/-- Other numbers for the free variables. -/
def ren (r : Int → Int) : Int → Int → Tm := fun v u => tV (r v + u)
theorem putL_length (g : Int → Int → Tm) (k : Int) : ∀ (ts : List Tm) (i : Nat) (u : Int), (putL g k ts i u).length = ts.length
  | [], i, u => by rw [putL]
  | t :: r, i, u => by rw [putL, List.length_cons, putL_length g k r, List.length_cons]
mutual
theorem put_ren {r : Int → Int} (g : Int → Int → Tm) : ∀ (t : Tm) (u : Int), (∀ p ∈ t.vps u, 0 ≤ r p.1) → (t.put (ren r) u).put g u = t.put (fun v u => g (r v) u) u
  | .mk k n s ls ts, u, h => by
    rw [Tm.vps] at h
    rw [Tm.put, Tm.put]
    by_cases hc : k = 2 ∧ u ≤ n
    · rw [if_pos hc, if_pos hc]
      have h0 := h (n - u, u) (by rw [if_pos hc]; simp)
      unfold ren tV
      dsimp only at h0
      rw [Tm.put, if_pos ⟨rfl, by omega⟩, Int.add_sub_cancel]
    · rw [if_neg hc, if_neg hc, Tm.put, if_neg hc, putL_ren g k ts 0 u (fun p hp => h p (List.mem_append_right _ hp))]
theorem putL_ren {r : Int → Int} (g : Int → Int → Tm) (k : Int) : ∀ (ts : List Tm) (i : Nat) (u : Int), (∀ p ∈ vpsL k ts i u, 0 ≤ r p.1) → putL g k (putL (ren r) k ts i u) i u = putL (fun v u => g (r v) u) k ts i u
  | [], i, u, h => by rw [putL, putL, putL]
  | t :: rr, i, u, h => by
    rw [vpsL] at h
    rw [putL, putL, putL, put_ren g t _ (fun p hp => h p (List.mem_append_left _ hp)), putL_ren g k rr (i + 1) _ (fun p hp => h p (List.mem_append_right _ hp))]
end
mutual
theorem vps_ren {r : Int → Int} : ∀ (t : Tm) (u d : Int), OkMay t d → (∀ p ∈ t.vps u, 0 ≤ r p.1) → (t.put (ren r) u).vps u = (t.vps u).map (fun p => (r p.1, p.2))
  | .mk k n s ls ts, u, d, ho, h => by
    rw [Tm.vps] at h
    rw [Tm.put]
    by_cases hc : k = 2 ∧ u ≤ n
    · have h0 := h (n - u, u) (by rw [if_pos hc]; simp)
      dsimp only at h0
      have ht := node_var ho.node.1 hc.1
      unfold tV at ht
      injection ht with _ _ _ _ hts
      subst hts
      rw [if_pos hc, Tm.vps, if_pos hc, vpsL]
      unfold ren tV
      rw [Tm.vps, if_pos ⟨rfl, by omega⟩, vpsL, Int.add_sub_cancel]
      rfl
    · rw [if_neg hc, Tm.vps, if_neg hc, Tm.vps, if_neg hc, List.map_append, vpsL_ren k ts 0 u (d + 1) (fun x hx => ho.down x hx) (fun p hp => h p (List.mem_append_right _ hp))]; rfl
theorem vpsL_ren {r : Int → Int} (k : Int) : ∀ (ts : List Tm) (i : Nat) (u d : Int), (∀ x ∈ ts, OkMay x d) → (∀ p ∈ vpsL k ts i u, 0 ≤ r p.1) → vpsL k (putL (ren r) k ts i u) i u = (vpsL k ts i u).map (fun p => (r p.1, p.2))
  | [], i, u, d, _, h => by rw [putL, vpsL]; rfl
  | t :: rr, i, u, d, ho, h => by
    rw [vpsL] at h
    rw [putL, vpsL, vpsL, List.map_append, vps_ren t _ d (ho t (by simp)) (fun p hp => h p (List.mem_append_left _ hp)), vpsL_ren k rr (i + 1) _ d (fun x hx => ho x (by simp [hx])) (fun p hp => h p (List.mem_append_right _ hp))]
end

theorem node_list {k n : Int} {s : ByteArray} {ls : List Lv} {ts ts' : List Tm} (h : ts.length = ts'.length) : (Tm.mk k n s ls ts).node = (Tm.mk k n s ls ts').node := by
  unfold Tm.node
  show (decide (0 ≤ kids k) && decide ((ts.length : Int) = kids k) && _ && _ && _ && _) = (decide (0 ≤ kids k) && decide ((ts'.length : Int) = kids k) && _ && _ && _ && _)
  rw [h]
  rfl
theorem node_tV {n : Int} (h0 : 0 ≤ n) (h1 : n ≤ 1048576) : (tV n).node = true := by
  unfold Tm.node tV
  have e : (decide (0 ≤ n ∧ n ≤ 1048576)) = true := by simp; omega
  simp [Tm.k, Tm.n, Tm.s, Tm.ls, Tm.ts, kids, no, ByteArray.size, h0, h1]
mutual
/-- With other numbers that a variable may have a term may be as it may. -/
theorem left_ren {r : Int → Int} : ∀ (t : Tm) (u d : Int), OkMay t d → (∀ p ∈ t.vps u, 0 ≤ r p.1 + p.2 ∧ r p.1 + p.2 ≤ 1048576) → ∀ l e, (t.put (ren r) u).left badMay l e = t.left badMay l e
  | .mk k n s ls ts, u, d, ho, h, l, e => by
    rw [Tm.vps] at h
    rw [Tm.put]
    by_cases hc : k = 2 ∧ u ≤ n
    · rw [if_pos hc]
      have h0 := h (n - u, u) (by rw [if_pos hc]; simp)
      dsimp only at h0
      rw [node_var ho.node.1 hc.1]
      unfold ren
      have hn := node_num ho.node.1
      have b1 : badMay (tV (r (n - u) + u)) = false := by unfold badMay; rw [node_tV h0.1 h0.2]; rfl
      have b2 : badMay (tV (Tm.mk k n s ls ts).n) = false := by unfold badMay; rw [node_tV hn.1 hn.2]; rfl
      rw [Tm.left_eq, Tm.left_eq, b1, b2]
      rfl
    · rw [if_neg hc, Tm.left, Tm.left, leftL_ren k ts 0 u (d + 1) (fun x hx => ho.down x hx) (fun p hp => h p (List.mem_append_right _ hp))]
      have hb : badMay (.mk k n s ls (putL (ren r) k ts 0 u)) = badMay (.mk k n s ls ts) := by unfold badMay; rw [node_list (putL_length (ren r) k ts 0 u)]
      rw [hb]
theorem leftL_ren {r : Int → Int} (k : Int) : ∀ (ts : List Tm) (i : Nat) (u d : Int), (∀ x ∈ ts, OkMay x d) → (∀ p ∈ vpsL k ts i u, 0 ≤ r p.1 + p.2 ∧ r p.1 + p.2 ≤ 1048576) → ∀ l e, leftL badMay (putL (ren r) k ts i u) l e = leftL badMay ts l e
  | [], i, u, d, _, _, l, e => by rw [putL]
  | t :: rr, i, u, d, ho, h, l, e => by
    rw [vpsL] at h
    rw [putL, leftL, leftL, left_ren t _ d (ho t (by simp)) (fun p hp => h p (List.mem_append_left _ hp))]
    rw [leftL_ren k rr (i + 1) _ d (fun x hx => ho x (by simp [hx])) (fun p hp => h p (List.mem_append_right _ hp))]
end
theorem may_ren {r : Int → Int} {t : Tm} (h : t.may = true) (hr : ∀ p ∈ t.vps 0, 0 ≤ r p.1 + p.2 ∧ r p.1 + p.2 ≤ 1048576) : (t.put (ren r) 0).may = true := by
  have := left_ren t 0 1 (OkMay.start h) hr 65536 4096
  unfold Tm.may at h ⊢
  show decide (0 ≤ (t.put (ren r) 0).left badMay 65536 4096) = true
  rw [this]
  exact h
end Trm
end Go.Proofs.Ytijdlihodpodjaa

/-
  The mathematics of layer 4: what is done with free variables, from the left, and what comes of it.
-/
namespace Go.Proofs.Ytijdlihodpodjaa
open Lvl Trm

namespace Trm
/-- A leaf that does something with free variables; all else stays. -/
def lfFree {σ : Type} (to : σ → Int → Int → σ × Int × Option Tm) : Lf σ := fun st x u => if x.k = 2 ∧ u ≤ x.n then to st (x.n - u) u else (st, 0, none)

/-- The free variables, one behind the other, until an error. -/
def runs {σ : Type} (to : σ → Int → Int → σ × Int × Option Tm) : σ → List (Int × Int) → σ × Int
  | st, [] => (st, 0)
  | st, p :: r => if (to st p.1 p.2).2.1 = 0 then runs to (to st p.1 p.2).1 r else ((to st p.1 p.2).1, (to st p.1 p.2).2.1)

theorem runs_append {σ : Type} (to : σ → Int → Int → σ × Int × Option Tm) : ∀ (l r : List (Int × Int)) (st : σ), runs to st (l ++ r) = if (runs to st l).2 = 0 then runs to (runs to st l).1 r else runs to st l
  | [], r, st => by simp [runs]
  | p :: l, r, st => by
    rw [List.cons_append, runs, runs]
    by_cases h : (to st p.1 p.2).2.1 = 0
    · rw [if_pos h, if_pos h, runs_append to l r]
    · rw [if_neg h, if_neg h, if_neg h]

theorem und_under {k : Int} {i : Nat} {r : List Tm} (u : Int) (h : (i : Int) + r.length + 1 = kids k) : und k r.isEmpty u = under k i u := by
  unfold und under
  have : (r.isEmpty = true) ↔ ((i : Int) = kids k - 1) := by
    rw [List.isEmpty_iff, ← List.length_eq_zero_iff]
    omega
  simp only [this]

mutual
theorem thr_runs {σ : Type} (to : σ → Int → Int → σ × Int × Option Tm) : ∀ (t : Tm) (st : σ) (d u : Int), OkMay t d → ((t.thr (lfFree to) st u).1, (t.thr (lfFree to) st u).2.1) = runs to st (t.vps u)
  | .mk k n s ls ts, st, d, u, ho => by
    rw [Tm.thr, Tm.vps]
    by_cases hts : ts.isEmpty = true
    · rw [if_pos hts]
      have h0 : ts = [] := List.isEmpty_iff.1 hts
      subst h0
      rw [vpsL, List.append_nil]
      by_cases hc : k = 2 ∧ u ≤ n
      · rw [if_pos hc, show lfFree to st (.mk k n s ls []) u = to st (n - u) u from if_pos hc]
        simp only [runs]
        by_cases h : (to st (n - u) u).2.1 = 0
        · rw [if_pos h, h]
        · rw [if_neg h]
      · rw [if_neg hc, show lfFree to st (.mk k n s ls []) u = (st, 0, none) from if_neg hc]
        rfl
    · rw [if_neg hts]
      have hf := node_few ho.node.1
      have hk : ¬ (k = 2 ∧ u ≤ n) := by
        rintro ⟨rfl, _⟩
        have h1 := hf.1
        simp only [Tm.ts, Tm.k, kids] at h1
        exact hts (by simpa using h1)
      rw [if_neg hk, List.nil_append]
      have := thrL_runs to k ts 0 st (d + 1) u (by simpa [Tm.ts, Tm.k] using hf.1) (fun x hx => ho.down x hx)
      rw [← this]
      rfl
theorem thrL_runs {σ : Type} (to : σ → Int → Int → σ × Int × Option Tm) (k : Int) : ∀ (ts : List Tm) (i : Nat) (st : σ) (d u : Int), (i : Int) + ts.length = kids k → (∀ x ∈ ts, OkMay x d) → ((thrL (lfFree to) k ts st u).1, (thrL (lfFree to) k ts st u).2.1) = runs to st (vpsL k ts i u)
  | [], i, st, d, u, _, _ => by rw [thrL, vpsL]; rfl
  | t :: r, i, st, d, u, hk, ho => by
    have hu := und_under (k := k) (i := i) (r := r) u (by simp at hk; omega)
    have h1 := thr_runs to t st d (under k i u) (ho t (by simp))
    rw [thrL, vpsL, hu, runs_append, ← h1]
    by_cases he : (t.thr (lfFree to) st (under k i u)).2.1 = 0
    · rw [if_pos he, if_pos he]
      exact thrL_runs to k r (i + 1) _ d _ (by simp at hk; push_cast; omega) (fun x hx => ho x (by simp [hx]))
    · rw [if_neg he, if_neg he]
end

mutual
theorem thr_put {σ : Type} {to : σ → Int → Int → σ × Int × Option Tm} {g : Int → Int → Tm} (hto : ∀ st v u, (to st v u).2.1 = 0 → (to st v u).2.2.getD (tV (v + u)) = g v u) :
    ∀ (t : Tm) (st : σ) (d u : Int), OkMay t d → (t.thr (lfFree to) st u).2.1 = 0 → (t.thr (lfFree to) st u).2.2.getD t = t.put g u
  | .mk k n s ls ts, st, d, u, ho, h => by
    rw [Tm.thr] at h ⊢
    rw [Tm.put]
    by_cases hts : ts.isEmpty = true
    · rw [if_pos hts] at h ⊢
      have h0 : ts = [] := List.isEmpty_iff.1 hts
      by_cases hc : k = 2 ∧ u ≤ n
      · rw [if_pos hc]
        have hv := node_var ho.node.1 hc.1
        unfold lfFree at h ⊢
        rw [if_pos (show (Tm.mk k n s ls ts).k = 2 ∧ u ≤ (Tm.mk k n s ls ts).n from hc)] at h ⊢
        have h2 := hto st (n - u) u h
        rw [Int.sub_add_cancel] at h2
        rw [hv]
        exact h2
      · rw [if_neg hc]
        unfold lfFree
        rw [if_neg (show ¬ ((Tm.mk k n s ls ts).k = 2 ∧ u ≤ (Tm.mk k n s ls ts).n) from hc)]
        subst h0
        rw [putL]; rfl
    · rw [if_neg hts] at h ⊢
      have hf := node_few ho.node.1
      have hk : ¬ (k = 2 ∧ u ≤ n) := by
        rintro ⟨rfl, _⟩
        have h1 := hf.1
        simp only [Tm.ts, Tm.k, kids] at h1
        exact hts (by simpa using h1)
      have hls : ls = [] := node_inner ho.node.1 (show ts ≠ [] by simpa using hts)
      subst hls
      rw [if_neg hk]
      obtain ⟨h1, h2⟩ := thrL_put hto k ts 0 st (d + 1) u (by simpa [Tm.ts, Tm.k] using hf.1) (fun x hx => ho.down x hx) h
      unfold fin
      have h' : (thrL (lfFree to) k ts st u).2.1 = 0 := h
      cases hcc : (thrL (lfFree to) k ts st u).2.2.1
      · rw [if_neg (by simp)]
        rw [← h1, h2 hcc]
        rfl
      · rw [if_pos (by simp [h'])]
        rw [← h1]
        rfl
theorem thrL_put {σ : Type} {to : σ → Int → Int → σ × Int × Option Tm} {g : Int → Int → Tm} (hto : ∀ st v u, (to st v u).2.1 = 0 → (to st v u).2.2.getD (tV (v + u)) = g v u) (k : Int) :
    ∀ (ts : List Tm) (i : Nat) (st : σ) (d u : Int), (i : Int) + ts.length = kids k → (∀ x ∈ ts, OkMay x d) → (thrL (lfFree to) k ts st u).2.1 = 0 → (thrL (lfFree to) k ts st u).2.2.2 = putL g k ts i u ∧ ((thrL (lfFree to) k ts st u).2.2.1 = false → (thrL (lfFree to) k ts st u).2.2.2 = ts)
  | [], i, st, d, u, _, _, _ => by rw [thrL, putL]; exact ⟨rfl, fun _ => rfl⟩
  | t :: r, i, st, d, u, hk, ho, h => by
    have hu := und_under (k := k) (i := i) (r := r) u (by simp at hk; omega)
    rw [thrL, hu] at h ⊢
    by_cases he : (t.thr (lfFree to) st (under k i u)).2.1 = 0
    · rw [if_pos he] at h ⊢
      obtain ⟨h1, h2⟩ := thrL_put hto k r (i + 1) _ d _ (by simp at hk; push_cast; omega) (fun x hx => ho x (by simp [hx])) h
      have h3 := thr_put hto t st d (under k i u) (ho t (by simp)) he
      rw [putL]
      refine ⟨by rw [← h1, ← h3], fun hc => ?_⟩
      simp only [Bool.or_eq_false_iff] at hc
      have h4 : (t.thr (lfFree to) st (under k i u)).2.2 = none := by simpa using hc.1
      rw [h2 hc.2, h4]; rfl
    · rw [if_neg he] at h
      exact absurd h he
end

/-! Lift. -/
def toLift (fr by_ : Int) : Unit → Int → Int → Unit × Int × Option Tm := fun _ v u =>
  if v < fr ∨ by_ = 0 then ((), 0, none) else if v + by_ < fr then ((), 7, none) else ((), 0, some (tV (v + by_ + u)))
def gLift (fr by_ : Int) : Int → Int → Tm := ren (fun v => if v < fr then v else v + by_)
theorem toLift_g (fr by_ : Int) (st : Unit) (v u : Int) (h : (toLift fr by_ st v u).2.1 = 0) : (toLift fr by_ st v u).2.2.getD (tV (v + u)) = gLift fr by_ v u := by
  unfold toLift at h ⊢
  unfold gLift ren
  by_cases h1 : v < fr ∨ by_ = 0
  · rw [if_pos h1]
    by_cases h2 : v < fr
    · simp only [if_pos h2]; rfl
    · simp only [if_neg h2]
      have : by_ = 0 := by omega
      rw [this, Int.add_zero]; rfl
  · rw [if_neg h1] at h ⊢
    by_cases h2 : v + by_ < fr
    · rw [if_pos h2] at h
      exact absurd h (by decide)
    · rw [if_neg h2]
      simp only [if_neg (show ¬ v < fr by omega)]; rfl
theorem runs_lift (fr by_ : Int) : ∀ (l : List (Int × Int)), runs (toLift fr by_) () l = ((), if (l.any fun p => decide (fr ≤ p.1 ∧ p.1 + by_ < fr)) = true then 7 else 0)
  | [] => rfl
  | p :: l => by
    rw [runs, List.any_cons]
    by_cases h1 : p.1 < fr ∨ by_ = 0
    · have hto : toLift fr by_ () p.1 p.2 = ((), 0, none) := by unfold toLift; rw [if_pos h1]
      have hd : decide (fr ≤ p.1 ∧ p.1 + by_ < fr) = false := by simp; omega
      rw [hto, if_pos rfl, runs_lift fr by_ l, hd, Bool.false_or]
    · by_cases h2 : p.1 + by_ < fr
      · have hto : toLift fr by_ () p.1 p.2 = ((), 7, none) := by unfold toLift; rw [if_neg h1, if_pos h2]
        have hd : decide (fr ≤ p.1 ∧ p.1 + by_ < fr) = true := by simp; omega
        rw [hto, if_neg (by decide), hd, Bool.true_or, if_pos rfl]
      · have hto : toLift fr by_ () p.1 p.2 = ((), 0, some (tV (p.1 + by_ + p.2))) := by unfold toLift; rw [if_neg h1, if_neg h2]
        have hd : decide (fr ≤ p.1 ∧ p.1 + by_ < fr) = false := by simp; omega
        rw [hto, if_pos rfl, runs_lift fr by_ l, hd, Bool.false_or]
/-- Would a free variable be lifted below from? -/
def Tm.sinks (t : Tm) (fr by_ : Int) : Bool := (t.vps 0).any fun p => decide (fr ≤ p.1 ∧ p.1 + by_ < fr)

/-- What Lift's going through a term that may be tells. -/
theorem thr_lift {t : Tm} (h : t.may = true) (fr by_ : Int) : (t.thr (lfFree (toLift fr by_)) () 0).2.1 = (if t.sinks fr by_ = true then 7 else 0) ∧ (t.sinks fr by_ = false → (t.thr (lfFree (toLift fr by_)) () 0).2.2.getD t = t.put (gLift fr by_) 0) := by
  have h1 := thr_runs (toLift fr by_) t () 1 0 (OkMay.start h)
  rw [runs_lift] at h1
  have h2 := congrArg Prod.snd h1
  dsimp only at h2
  refine ⟨h2, fun hs => thr_put (fun st v u => toLift_g fr by_ st v u) t () 1 0 (OkMay.start h) ?_⟩
  rw [h2]
  unfold Tm.sinks at hs
  rw [hs]; rfl

/-! Close. -/
def toClose (q : Int) : Unit → Int → Int → Unit × Int × Option Tm := fun _ v u =>
  if v < q then ((), 0, some (tV (v + 1 + u))) else if v = q then ((), 0, some (tV u)) else ((), 0, none)
def gClose (q : Int) : Int → Int → Tm := ren (fun v => if v < q then v + 1 else if v = q then 0 else v)
theorem toClose_g (q : Int) (st : Unit) (v u : Int) : (toClose q st v u).2.1 = 0 ∧ (toClose q st v u).2.2.getD (tV (v + u)) = gClose q v u := by
  unfold toClose gClose ren
  by_cases h1 : v < q
  · simp [if_pos h1]
  · by_cases h2 : v = q
    · simp [if_neg h1, if_pos h2]
    · simp [if_neg h1, if_neg h2]
theorem runs_close (q : Int) : ∀ (l : List (Int × Int)), runs (toClose q) () l = ((), 0)
  | [] => rfl
  | p :: l => by rw [runs, if_pos (toClose_g q () p.1 p.2).1]; exact runs_close q l
theorem thr_close {t : Tm} (h : t.may = true) (q : Int) : (t.thr (lfFree (toClose q)) () 0).2.1 = 0 ∧ (t.thr (lfFree (toClose q)) () 0).2.2.getD t = t.put (gClose q) 0 := by
  have h1 := thr_runs (toClose q) t () 1 0 (OkMay.start h)
  rw [runs_close] at h1
  have h2 := congrArg Prod.snd h1
  dsimp only at h2
  exact ⟨h2, thr_put (fun st v u _ => (toClose_g q st v u).2) t () 1 0 (OkMay.start h) h2⟩
end Trm
end Go.Proofs.Ytijdlihodpodjaa
