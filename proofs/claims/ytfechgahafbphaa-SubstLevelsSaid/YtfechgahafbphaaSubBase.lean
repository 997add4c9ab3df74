/-
  subst.through: a term is gone through by a function that is handed in.
-/
import Derived.Test.YtfechgahafbphaaSubPlain
import Derived.Test.YtfechgahafbphaaTrmFirmS
import Derived.Test.YtfechgahafbphaaTrmSpine
import Derived.Deep.Cut
namespace Go.Proofs.Ytfechgahafbphaa
open Go.RowKit Go.Shelf Lvl Trm

namespace Trm
def zeroT : Tm := .mk 0 0 no [] []

theorem RanS.cell {P : Nat → Prop} {w w' : World} (h : RanS P w w') {p : Addr} (hp : p.block < w.heap.size) (hm : ¬ P p.block) : w'.cell? p = w.cell? p := World.cell?_of_block (h.block p.block hp hm)
theorem RanS.more {P : Nat → Prop} {w w' : World} (h : RanS P w w') (o : Obj) : RanS P w (w'.alloc o) := h.trans (RanS.of_below (below_one _ _))
theorem RanS.drewN {P : Nat → Prop} {w w' : World} (h : RanS P w w') (n : Nat) : RanS P w (w'.drewN n) := h.trans (RanS.of_below (by refine ⟨?_, ?_, ?_, ?_, ?_⟩ <;> simp [World.drewN]))
theorem RanS.wide {P Q : Nat → Prop} {w w' : World} (h : RanS P w w') (hpq : ∀ k, P k → Q k) : RanS Q w w' := ⟨h.os, h.tape, h.output, h.size, fun k hk hn => h.block k hk (fun hp => hn (hpq k hp))⟩
theorem RanS.put {P : Nat → Prop} {w w' : World} (h : RanS P w w') {b : Nat} (hb : w.heap.size ≤ b) (v0 v1 v2 v3 v4 : Value) : RanS P w (putT w' b v0 v1 v2 v3 v4) :=
  ⟨(putT_ran w' b v0 v1 v2 v3 v4).os.trans h.os, (putT_ran w' b v0 v1 v2 v3 v4).tape.trans h.tape, (putT_ran w' b v0 v1 v2 v3 v4).output.trans h.output, Nat.le_trans h.size (putT_ran w' b v0 v1 v2 v3 v4).size,
    fun k hk hn => ((putT_ran w' b v0 v1 v2 v3 v4).block k (Nat.lt_of_lt_of_le hk h.size) (by omega)).trans (h.block k hk hn)⟩
theorem RanS.putO {P : Nat → Prop} {w w' : World} (h : RanS P w w') {b : Nat} (hb : w.heap.size ≤ b) (o : Nat) (v0 v1 v2 v3 v4 : Value) : RanS P w (putO w' b o v0 v1 v2 v3 v4) :=
  ⟨(putO_ran w' b o v0 v1 v2 v3 v4).os.trans h.os, (putO_ran w' b o v0 v1 v2 v3 v4).tape.trans h.tape, (putO_ran w' b o v0 v1 v2 v3 v4).output.trans h.output, Nat.le_trans h.size (putO_ran w' b o v0 v1 v2 v3 v4).size,
    fun k hk hn => ((putO_ran w' b o v0 v1 v2 v3 v4).block k (Nat.lt_of_lt_of_le hk h.size) (by omega)).trans (h.block k hk hn)⟩
theorem FirmS.less {P Q : Nat → Prop} {w : World} {t : Tm} {h : Hd} (g : FirmS Q w t h) (hpq : ∀ k, k < w.heap.size → P k → Q k) : FirmS P w t h :=
  fun w' hr => g w' ⟨hr.os, hr.tape, hr.output, hr.size, fun k hk hn => hr.block k hk (fun hp => hn (hpq k hk hp))⟩
theorem TCells.ranS {P : Nat → Prop} {w w1 : World} {b o : Nat} {t : Tm} {h : Hd} (c : TCells w b o t h) (g : RanS P w w1) (hb : b < w.heap.size) (hm : ¬ P b) : TCells w1 b o t h :=
  ⟨(g.cell (p := ⟨b, _, none⟩) hb hm).trans c.c0, (g.cell (p := ⟨b, _, none⟩) hb hm).trans c.c1, (g.cell (p := ⟨b, _, none⟩) hb hm).trans c.c2, (g.cell (p := ⟨b, _, none⟩) hb hm).trans c.c3, (g.cell (p := ⟨b, _, none⟩) hb hm).trans c.c4⟩
theorem TBlock.ranS {P : Nat → Prop} {w w' : World} {g S : Nat} {ps : List (Tm × Hd)} (h : TBlock w g S ps) (hr : RanS P w w') (hm : ¬ P g) : TBlock w' g S ps := by
  have hl := h.lt
  obtain ⟨cur, hg, h2⟩ := h
  exact ⟨cur, by rw [hr.block g hl hm]; exact hg, h2⟩

/-- A term lies at an address outside of the blocks of P, its terms below B. -/
def SAt (B : Nat) (P : Nat → Prop) (w : World) (b o : Nat) (t : Tm) : Prop := ¬ P b ∧ b < w.heap.size ∧ ∃ h, TCells w b o t h ∧ t.In B w h
theorem TAt.sroot {B : Nat} {P : Nat → Prop} {w : World} {b o : Nat} {t : Tm} (h : TAt B w b o t) (hP : ∀ q, P q → B ≤ q) (hB : B ≤ w.heap.size) : SAt B P w b o t := by
  obtain ⟨hb, hd, hc, hi⟩ := h
  exact ⟨fun hp => by have := hP b hp; omega, by omega, hd, hc, hi⟩

/-- What comes of going through a term: the term that is answered lies there whatever is written into the blocks from B on that were there. -/
def ThrPost {σ : Type} (B : Nat) (P : Nat → Prop) (R : σ × Int × Option Tm) (Inv : σ → World → Prop) (w : World) : Ending → World → Prop := fun e w' =>
  ∃ h, e = .returned (.tuple #[(R.2.2.getD zeroT).val h, .int .i64 R.2.1]) ∧ FirmS (fun q => B ≤ q ∧ q < w.heap.size) w' (R.2.2.getD zeroT) h ∧ Inv R.1 w' ∧ RanS P w w'

theorem firm_zero {P : Nat → Prop} {w : World} {lc tc : Nat} : FirmS P w zeroT ⟨none, lc, none, tc⟩ := fun _ _ => leaf_in (by decide) (by decide) (by decide) (by decide) (by decide)

/-- What is asked of a function that sees each leaf. -/
structure Leaf {σ : Type} (B N : Nat) (P : Nat → Prop) (C : Nat) (f : FuncId) (lf : Lf σ) (Inv : σ → World → Prop) (Good : σ → Prop) : Prop where
  calls : ∀ st t b o u w, Good st → Inv st w → t.node = true → t.ts = [] → 0 ≤ u → u ≤ 4096 → SAt B P w b o t → B ≤ w.heap.size → N ≤ w.heap.size → (∀ q, P q → q < w.heap.size) →
    Calls Try.prog f #[.pointer (some ⟨b, o, none⟩), .int .i64 u, .pointer (some ⟨C, 0, none⟩)] w (ThrPost B P (lf st t u) Inv w)
  good : ∀ st t u, Good st → t.node = true → t.ts = [] → (lf st t u).2.1 = 0 → Good (lf st t u).1
  kind : ∀ st t u y, t.node = true → t.ts = [] → (lf st t u).2.2 = some y → y.k ≠ 0
  keep : ∀ st w w', Inv st w → Below N w w' → Inv st w'
  low : ∀ q, P q → B ≤ q
  enter : ∀ (args : Array Value) (w : World), Sem.run Try.prog (callFunc f args) w = .ok (.enter f args) w
end Trm

set_option maxRecDepth 100000 in
theorem binds_any (k : Int) (w : World) :
    Calls Try.prog 154 #[.int .u8 k] w fun e w' => e = .returned (.bool (binds k)) ∧ w = w' := by
  have hb : binds k = ((k == 5) || (k == 6) || (k == 7)) := by unfold binds; rw [Bool.eq_iff_iff]; simp; omega
  rw [hb]
  clear hb
  go_enter Try.func154, Try.ntmps154
  cases h5 : k == 5
  · cases h6 : k == 6
    · cases h7 : k == 7
      · go_wp2_with fail
        go_ret
        exact ⟨rfl, rfl⟩
      · go_wp2_with fail
        go_ret
        exact ⟨rfl, rfl⟩
    · go_wp2_with fail
      go_ret
      exact ⟨rfl, rfl⟩
  · go_wp2_with fail
    go_ret
    exact ⟨rfl, rfl⟩

set_option maxRecDepth 100000 in
set_option maxHeartbeats 1000000 in
theorem Clone_any (b off n cap : Nat) (ps : List (Tm × Hd)) (w : World) (hn : ps.length = n) (h3 : n ≤ 1000000) (hc : ∀ k (hk : k < ps.length), TCells w b (off + k * 5) ps[k].1 ps[k].2) (h0 : 0 < n) :
    Calls Try.prog 155 #[.slice (some ⟨b, off, none⟩) n cap] w fun e w' => ∃ L S c, e = .returned (.slice (some ⟨L, 0, none⟩) n c) ∧ w.heap.size ≤ L ∧ L < w'.heap.size ∧ TBlock w' L S ps ∧ Below w.heap.size w w' := by
  obtain ⟨i0, hi, hz0, hz1, hz2⟩ := info_parts infoT
  have HC : Hid (∀ j u, (flat ps)[j]? = some u → w.cell? ⟨b, off + j, none⟩ = some u) := Lib.hid (fun j u hj => by
    have hjl : j < ps.length * 5 := by rw [← flat_len]; exact (List.getElem?_eq_some_iff.1 hj).1
    have hk : j / 5 < ps.length := by omega
    have hq : j % 5 < 5 := Nat.mod_lt _ (by omega)
    have e := flat_at ps (j / 5) hk (j % 5) hq
    rw [show j / 5 * 5 + j % 5 = j by omega, hj] at e
    obtain ⟨c0, c1, c2, c3, c4⟩ := hc (j / 5) hk
    have h5 : j % 5 = 0 ∨ j % 5 = 1 ∨ j % 5 = 2 ∨ j % 5 = 3 ∨ j % 5 = 4 := by omega
    rcases h5 with h | h | h | h | h <;> rw [h] at e <;> simp [Tm.vals] at e <;> subst e
    · rw [show off + j = off + j / 5 * 5 by omega]; exact c0
    · rw [show off + j = off + j / 5 * 5 + 1 by omega]; exact c1
    · rw [show off + j = off + j / 5 * 5 + 2 by omega]; exact c2
    · rw [show off + j = off + j / 5 * 5 + 3 by omega]; exact c3
    · rw [show off + j = off + j / 5 * 5 + 4 by omega]; exact c4)
  have hone : ∀ u ∈ flat ps, u.oneCell' = true := by
    intro u hu
    unfold flat at hu
    rw [List.mem_flatMap] at hu
    obtain ⟨p, _, hp⟩ := hu
    simp [Tm.vals] at hp
    rcases hp with rfl | rfl | rfl | rfl | rfl <;> rfl
  have q22 : ∀ (w : World) (a : Option Addr) (n c n' c' : Nat), (binOp .eql 58 (.slice a n c) (.slice none n' c')).run Try.prog w = .ok (.bool a.isNone) w := fun w a n c n' c' => Lib.run_eql_slice_nil w _ _ a n c n' c' Try.underlying58
  clear hc
  go_enter Try.func155, Try.ntmps155
  go_wp2_with (at_builtin; refine wpList_append_own _ rfl _ _ 58 rfl w.heap.size 60 i0 _ 5 80 Try.underlying58 hi hz0 hz1 hz2 rfl (by decide) _ _ _ rfl (World.ownsRow_made w #[] 0 (Nat.le_refl _) (Nat.zero_le _) (by simp)) ⟨b, off, none⟩ n cap (flat ps) rfl ?c1 ?c2 ?c3 ?c4 ?c5 ?c6 ?_)
  case c1 => rw [flat_len, hn]
  case c2 =>
    intro j u hj
    rw [Addr.add_lit]
    exact Lib.cell?_alloc_some _ (HC.out j u hj)
  case c3 => exact hone
  case c4 => unfold maxLen; omega
  case c5 => omega
  case c6 => simp
  intro v' w1 hown hgrow hnil
  have ho0 : (w.alloc (.cells #[] 60)).ownsRow w.heap.size 60 5 (.slice (some ⟨w.heap.size, 0, none⟩) 0 0) 0 [] := World.ownsRow_made w #[] 0 (Nat.le_refl _) (Nat.zero_le _) (by simp)
  have hbel := Lib.hid ((below_one w (.cells #[] 60)).trans (below_own ho0 hgrow (by simp)))
  subst hn
  have HO := Lib.hid hown
  obtain ⟨hfl, ⟨_, hn0⟩ | ⟨g, c, cur, rfl, hbg, hgb, _⟩⟩ := hown
  · omega
  · obtain ⟨hq1, hq2, hq3⟩ := block_of_own HO.out
    have HQ := Lib.hid hq3
    have hgl := (Array.getElem?_eq_some_iff.1 hgb).1
    clear ho0 hgrow hnil hfl hgb hq3 hq2
    go_wp2_with fail
    go_ret
    exact ⟨g, c * 5, c, rfl, hbg, hgl, HQ.out, hbel.out⟩
end Go.Proofs.Ytfechgahafbphaa
