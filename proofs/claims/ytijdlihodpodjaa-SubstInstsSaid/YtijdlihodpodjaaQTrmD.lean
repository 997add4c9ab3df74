/-
  Terms that the statements make: S, V, A, L, P, C, App.
-/
import Derived.Test.YtijdlihodpodjaaQTrmA
import Derived.Test.YtijdlihodpodjaaQLevA
import Derived.Test.YtijdlihodpodjaaQTrmWalk
import Derived.Test.YtijdlihodpodjaaQTrmVars
import Derived.Deep.LoopGhost
import Derived.OwnWalk
import Derived.Deep.AppendLies
namespace Go.Proofs.Ytijdlihodpodjaa
open Go.RowKit Go.Shelf Lvl Trm

/-- A term is answered, and lies there. -/
def Trm.Made (t : Tm) (w : World) (e : Ending) (w' : World) : Prop := ∃ h, e = .returned (t.val h) ∧ t.In w'.heap.size w' h ∧ Below w.heap.size w w'

/-- A term lies there whatever is written into block m. -/
def Trm.Firm (m : Nat) (w : World) (t : Tm) (h : Hd) : Prop := ∀ w', Ran m w w' → t.In w'.heap.size w' h
theorem Trm.Firm.here {m : Nat} {w : World} {t : Tm} {h : Hd} (g : Firm m w t h) : t.In w.heap.size w h := g w (Ran.refl _ _)
theorem Trm.Firm.step {m : Nat} {w w1 : World} {t : Tm} {h : Hd} (g : Firm m w t h) (r : Ran m w w1) : Firm m w1 t h := fun w' hr => g w' (r.trans hr)
theorem Trm.Firm.of {m B : Nat} {w : World} {t : Tm} {h : Hd} (g : t.In B w h) (hm : B ≤ m) (hB : B ≤ w.heap.size) : Firm m w t h := fun w' hr => Tm.In.mono (by have := hr.size; omega) _ _ (Tm.In.below (hr.below hm hB) _ _ g)
/-- As Made; and where its parts lie whatever is written into block m, it does. -/
def Trm.MadeS (t : Tm) (w : World) (C : Nat → Prop) (e : Ending) (w' : World) : Prop := ∃ h, e = .returned (t.val h) ∧ t.In w'.heap.size w' h ∧ Below w.heap.size w w' ∧ ∀ m, m < w.heap.size → C m → Firm m w' t h

def Trm.no : ByteArray := ⟨#[]⟩
def Trm.tS : Tm := .mk 1 0 no [number 0] []
def Trm.tV (n : Int) : Tm := .mk 2 n no [] []
def Trm.tC (s : ByteArray) : Tm := .mk 3 0 s [] []
/-- A kind of two terms: App, Lam, Pi. -/
def Trm.t2 (k : Int) (f x : Tm) : Tm := .mk k 0 no [] [f, x]

theorem Trm.five_cells {w : World} {b : Nat} {v0 v1 v2 v3 v4 : Value} {ty : TypeId} {fr : Nat × Nat} (h : w.heap[b]? = some (.cells #[v0, v1, v2, v3, v4] ty fr)) :
    w.cell? ⟨b, 0, none⟩ = some v0 ∧ w.cell? ⟨b, 1, none⟩ = some v1 ∧ w.cell? ⟨b, 2, none⟩ = some v2 ∧ w.cell? ⟨b, 3, none⟩ = some v3 ∧ w.cell? ⟨b, 4, none⟩ = some v4 := by
  refine ⟨?_, ?_, ?_, ?_, ?_⟩ <;> (simp [World.cell?, h])
theorem Trm.five_free {w : World} {b : Nat} {v0 v1 v2 v3 v4 : Value} {ty : TypeId} (h : w.heap[b]? = some (.cells #[v0, v1, v2, v3, v4] ty)) :
    w.frozen? ⟨b, 0, none⟩ = false ∧ w.frozen? ⟨b, 1, none⟩ = false ∧ w.frozen? ⟨b, 2, none⟩ = false ∧ w.frozen? ⟨b, 3, none⟩ = false ∧ w.frozen? ⟨b, 4, none⟩ = false := by
  refine ⟨?_, ?_, ?_, ?_, ?_⟩ <;> (simp [World.frozen?, h])
/-- Five stores into the first cells of a block. -/
def Trm.putT (w : World) (b : Nat) (v0 v1 v2 v3 v4 : Value) : World := ((((w.setCell ⟨b, 0, none⟩ v0).setCell ⟨b, 1, none⟩ v1).setCell ⟨b, 2, none⟩ v2).setCell ⟨b, 3, none⟩ v3).setCell ⟨b, 4, none⟩ v4
theorem Trm.putT_self {w : World} {b : Nat} {u0 u1 u2 u3 u4 : Value} {ty : TypeId} {fr : Nat × Nat} (h : w.heap[b]? = some (.cells #[u0, u1, u2, u3, u4] ty fr)) (v0 v1 v2 v3 v4 : Value) : (putT w b v0 v1 v2 v3 v4).heap[b]? = some (.cells #[v0, v1, v2, v3, v4] ty fr) := by
  simp [putT, World.setCell, Array.getElem?_modify, h]
theorem Trm.putT_other {w : World} {k : Nat} {o : Obj} (h : w.heap[k]? = some o) (v0 v1 v2 v3 v4 : Value) {b : Nat} (hb : b ≠ k) : (putT w b v0 v1 v2 v3 v4).heap[k]? = some o :=
  cells_other (cells_other (cells_other (cells_other (cells_other h _ hb) _ hb) _ hb) _ hb) _ hb
theorem Trm.putT_below {w W : World} (h : Below w.heap.size w W) {B : Nat} (hB : w.heap.size ≤ B) (v0 v1 v2 v3 v4 : Value) : Below w.heap.size w (putT W B v0 v1 v2 v3 v4) := below_all h hB _ _ _ _ _
theorem Trm.putT_size (w : World) (b : Nat) (v0 v1 v2 v3 v4 : Value) : (putT w b v0 v1 v2 v3 v4).heap.size = w.heap.size := by simp [putT, World.setCell]

theorem Trm.t2_in {B : Nat} {w : World} {k : Int} {f x : Tm} {hf hx : Hd} {g : Nat} {ty : TypeId} {fr : Nat × Nat} (hk0 : 0 ≤ k) (hk1 : k ≤ 255) (hg : w.heap[g]? = some (.cells (f.vals hf ++ x.vals hx) ty fr)) (hB : g < B) (h1 : f.In B w hf) (h2 : x.In B w hx) :
    (t2 k f x).In B w ⟨none, 0, some ⟨g, 0, none⟩, 2⟩ := by
  refine Tm.In_iff.2 ⟨⟨hk0, hk1, by simp [t2, Tm.n], by simp [t2, Tm.n], by simp [t2, Tm.s, no, ByteArray.size], by simp [t2, Tm.ls], by simp [t2, Tm.ts]⟩, ⟨fun k hk => by simp [t2, Tm.ls] at hk⟩, fun hn => by simp [t2, Tm.ls] at hn, ?_⟩
  refine RowIn.mk fun i hi => ?_
  have hi2 : i = 0 ∨ i = 1 := by simp [t2, Tm.ts] at hi; omega
  rcases hi2 with rfl | rfl
  · refine ⟨g, 0, rfl, hB, hf, ⟨?_, ?_, ?_, ?_, ?_⟩, h1⟩ <;> (simp [World.cell?, hg, Tm.vals, t2, Tm.ts])
  · refine ⟨g, 0, rfl, hB, hx, ⟨?_, ?_, ?_, ?_, ?_⟩, h2⟩ <;> (simp [World.cell?, hg, Tm.vals, t2, Tm.ts])
theorem Trm.leaf_in {B : Nat} {w : World} {k n : Int} {s : ByteArray} {lc tc : Nat} (hk0 : 0 ≤ k) (hk1 : k ≤ 255) (hn0 : -9223372036854775808 ≤ n) (hn1 : n ≤ 9223372036854775807) (hs : s.size ≤ 9223372036854775807) : (Tm.mk k n s [] []).In B w ⟨none, lc, none, tc⟩ :=
  Tm.In_iff.2 ⟨⟨hk0, hk1, hn0, hn1, hs, by simp [Tm.ls], by simp [Tm.ts]⟩, ⟨fun k hk => by simp [Tm.ls] at hk⟩, fun hn => by simp [Tm.ls] at hn, RowIn.mk fun i hi => by simp [Tm.ts] at hi⟩

theorem Trm.below_four (w : World) (o1 o2 o3 o4 : Obj) : Below w.heap.size w ((((w.alloc o1).alloc o2).alloc o3).alloc o4) :=
  ((((Below.refl _ _).alloc (Nat.le_refl _) _).alloc (by simp) _).alloc (by simp; omega) _).alloc (by simp; omega) _

set_option maxRecDepth 100000 in
theorem V_any (n : Int) (w : World) (hn0 : -9223372036854775808 ≤ n) (hn1 : n ≤ 9223372036854775807) :
    Calls Try.prog 63 #[.int .i64 n] w (Made (tV n) w) := by
  go_enter Try.func63, Try.ntmps63
  go_wp2_with fail
  exact bodyPost_ret (v := (tV n).val ⟨none, 0, none, 0⟩) (by simp [results, Try.results63, go_sem, tV, Tm.val, Tm.vals, Tm.k, Tm.n, Tm.s, Tm.ls, Tm.ts, no]) rfl ⟨_, rfl, leaf_in (by decide) (by decide) hn0 hn1 (by simp [no, ByteArray.size]), below_one _ _⟩

set_option maxRecDepth 100000 in
theorem C_any (s : ByteArray) (w : World) (hs : s.size ≤ 9223372036854775807) :
    Calls Try.prog 65 #[.string s] w (Made (tC s) w) := by
  go_enter Try.func65, Try.ntmps65
  go_wp2_with fail
  exact bodyPost_ret (v := (tC s).val ⟨none, 0, none, 0⟩) (by simp [results, Try.results65, go_sem, tC, Tm.val, Tm.vals, Tm.k, Tm.n, Tm.s, Tm.ls, Tm.ts]) rfl ⟨_, rfl, leaf_in (by decide) (by decide) (by decide) (by decide) hs, below_one _ _⟩

set_option maxRecDepth 100000 in
theorem A_safe (f x : Tm) (hf hx : Hd) (w : World) (h1 : f.In w.heap.size w hf) (h2 : x.In w.heap.size w hx) :
    Calls Try.prog 28 #[f.val hf, x.val hx] w (MadeS (t2 4 f x) w (fun m => Firm m w f hf ∧ Firm m w x hx)) := by
  have H1 := Lib.hid h1
  have H2 := Lib.hid h2
  clear h1 h2
  unfold Tm.val Tm.vals
  go_enter Try.func28, Try.ntmps28
  go_wp2_with fail
  have hb := below_four w (f.box hf) (x.box hx) (.cells #[.int .u8 4, .int .i64 0, .string no, .slice none 0 0, .slice (some ⟨w.heap.size + 1 + 1 + 1, 0, none⟩) 2 2] 25) (.cells (f.vals hf ++ x.vals hx) 25)
  refine bodyPost_ret (v := (t2 4 f x).val ⟨none, 0, some ⟨w.heap.size + 1 + 1 + 1, 0, none⟩, 2⟩) (by simp [results, Try.results28, go_sem, t2, Tm.val, Tm.vals, Tm.k, Tm.n, Tm.s, Tm.ls, Tm.ts, no]) rfl ⟨_, rfl, ?_, below_four _ _ _ _ _, ?_⟩
  · exact t2_in (by decide) (by decide) (g := w.heap.size + 1 + 1 + 1) (ty := 25) (fr := (0, 0)) (new4 _ _ _ _ _) (by simp) (Tm.In.mono (by simp; omega) _ _ (Tm.In.below hb _ _ H1.out)) (Tm.In.mono (by simp; omega) _ _ (Tm.In.below hb _ _ H2.out))
  · intro m hm hc w2 hr
    have hg := new4 w (f.box hf) (x.box hx) (.cells #[.int .u8 4, .int .i64 0, .string no, .slice none 0 0, .slice (some ⟨w.heap.size + 1 + 1 + 1, 0, none⟩) 2 2] 25) (.cells (f.vals hf ++ x.vals hx) 25)
    exact t2_in (by decide) (by decide) (g := w.heap.size + 1 + 1 + 1) (ty := 25) (fr := (0, 0)) (hr.keep hg (by omega)) (by have := hr.size; simp at this; omega) (hc.1 w2 ((Ran.of_below hb).trans hr)) (hc.2 w2 ((Ran.of_below hb).trans hr))

set_option maxRecDepth 100000 in
theorem L_safe (f x : Tm) (hf hx : Hd) (w : World) (h1 : f.In w.heap.size w hf) (h2 : x.In w.heap.size w hx) :
    Calls Try.prog 30 #[f.val hf, x.val hx] w (MadeS (t2 5 f x) w (fun m => Firm m w f hf ∧ Firm m w x hx)) := by
  have H1 := Lib.hid h1
  have H2 := Lib.hid h2
  clear h1 h2
  unfold Tm.val Tm.vals
  go_enter Try.func30, Try.ntmps30
  go_wp2_with fail
  have hb := below_four w (f.box hf) (x.box hx) (.cells #[.int .u8 5, .int .i64 0, .string no, .slice none 0 0, .slice (some ⟨w.heap.size + 1 + 1 + 1, 0, none⟩) 2 2] 25) (.cells (f.vals hf ++ x.vals hx) 25)
  refine bodyPost_ret (v := (t2 5 f x).val ⟨none, 0, some ⟨w.heap.size + 1 + 1 + 1, 0, none⟩, 2⟩) (by simp [results, Try.results30, go_sem, t2, Tm.val, Tm.vals, Tm.k, Tm.n, Tm.s, Tm.ls, Tm.ts, no]) rfl ⟨_, rfl, ?_, below_four _ _ _ _ _, ?_⟩
  · exact t2_in (by decide) (by decide) (g := w.heap.size + 1 + 1 + 1) (ty := 25) (fr := (0, 0)) (new4 _ _ _ _ _) (by simp) (Tm.In.mono (by simp; omega) _ _ (Tm.In.below hb _ _ H1.out)) (Tm.In.mono (by simp; omega) _ _ (Tm.In.below hb _ _ H2.out))
  · intro m hm hc w2 hr
    have hg := new4 w (f.box hf) (x.box hx) (.cells #[.int .u8 5, .int .i64 0, .string no, .slice none 0 0, .slice (some ⟨w.heap.size + 1 + 1 + 1, 0, none⟩) 2 2] 25) (.cells (f.vals hf ++ x.vals hx) 25)
    exact t2_in (by decide) (by decide) (g := w.heap.size + 1 + 1 + 1) (ty := 25) (fr := (0, 0)) (hr.keep hg (by omega)) (by have := hr.size; simp at this; omega) (hc.1 w2 ((Ran.of_below hb).trans hr)) (hc.2 w2 ((Ran.of_below hb).trans hr))

set_option maxRecDepth 100000 in
theorem P_safe (f x : Tm) (hf hx : Hd) (w : World) (h1 : f.In w.heap.size w hf) (h2 : x.In w.heap.size w hx) :
    Calls Try.prog 29 #[f.val hf, x.val hx] w (MadeS (t2 6 f x) w (fun m => Firm m w f hf ∧ Firm m w x hx)) := by
  have H1 := Lib.hid h1
  have H2 := Lib.hid h2
  clear h1 h2
  unfold Tm.val Tm.vals
  go_enter Try.func29, Try.ntmps29
  go_wp2_with fail
  have hb := below_four w (f.box hf) (x.box hx) (.cells #[.int .u8 6, .int .i64 0, .string no, .slice none 0 0, .slice (some ⟨w.heap.size + 1 + 1 + 1, 0, none⟩) 2 2] 25) (.cells (f.vals hf ++ x.vals hx) 25)
  refine bodyPost_ret (v := (t2 6 f x).val ⟨none, 0, some ⟨w.heap.size + 1 + 1 + 1, 0, none⟩, 2⟩) (by simp [results, Try.results29, go_sem, t2, Tm.val, Tm.vals, Tm.k, Tm.n, Tm.s, Tm.ls, Tm.ts, no]) rfl ⟨_, rfl, ?_, below_four _ _ _ _ _, ?_⟩
  · exact t2_in (by decide) (by decide) (g := w.heap.size + 1 + 1 + 1) (ty := 25) (fr := (0, 0)) (new4 _ _ _ _ _) (by simp) (Tm.In.mono (by simp; omega) _ _ (Tm.In.below hb _ _ H1.out)) (Tm.In.mono (by simp; omega) _ _ (Tm.In.below hb _ _ H2.out))
  · intro m hm hc w2 hr
    have hg := new4 w (f.box hf) (x.box hx) (.cells #[.int .u8 6, .int .i64 0, .string no, .slice none 0 0, .slice (some ⟨w.heap.size + 1 + 1 + 1, 0, none⟩) 2 2] 25) (.cells (f.vals hf ++ x.vals hx) 25)
    exact t2_in (by decide) (by decide) (g := w.heap.size + 1 + 1 + 1) (ty := 25) (fr := (0, 0)) (hr.keep hg (by omega)) (by have := hr.size; simp at this; omega) (hc.1 w2 ((Ran.of_below hb).trans hr)) (hc.2 w2 ((Ran.of_below hb).trans hr))

set_option maxRecDepth 100000 in
theorem A_any (f x : Tm) (hf hx : Hd) (w : World) (h1 : f.In w.heap.size w hf) (h2 : x.In w.heap.size w hx) :
    Calls Try.prog 28 #[f.val hf, x.val hx] w (Made (t2 4 f x) w) :=
  (A_safe f x hf hx w h1 h2).mono fun _ _ ⟨h, he, hi, hb, _⟩ => ⟨h, he, hi, hb⟩
theorem L_any (f x : Tm) (hf hx : Hd) (w : World) (h1 : f.In w.heap.size w hf) (h2 : x.In w.heap.size w hx) :
    Calls Try.prog 30 #[f.val hf, x.val hx] w (Made (t2 5 f x) w) :=
  (L_safe f x hf hx w h1 h2).mono fun _ _ ⟨h, he, hi, hb, _⟩ => ⟨h, he, hi, hb⟩
theorem P_any (f x : Tm) (hf hx : Hd) (w : World) (h1 : f.In w.heap.size w hf) (h2 : x.In w.heap.size w hx) :
    Calls Try.prog 29 #[f.val hf, x.val hx] w (Made (t2 6 f x) w) :=
  (P_safe f x hf hx w h1 h2).mono fun _ _ ⟨h, he, hi, hb, _⟩ => ⟨h, he, hi, hb⟩
theorem RefZero_any (w : World) : Calls Try.prog 108 #[] w fun e w' => e = .returned (number 0).val ∧ Below w.heap.size w w' := by
  unfold number Lv.val
  go_enter Try.func108, Try.ntmps108
  go_wp2_with fail
  exact bodyPost_ret (v := .agg #[.int .i64 0, .int .i64 (-1), .int .i64 (-1), .int .i64 (-1), .int .i64 (-1)]) (by simp [results, Try.results108, go_sem]) rfl ⟨rfl, below_one _ _⟩

theorem Trm.tS_in {B : Nat} {w : World} {g : Nat} {fr : Nat × Nat} {ty : TypeId} (hg : w.heap[g]? = some (.cells #[.int .i64 0, .int .i64 (-1), .int .i64 (-1), .int .i64 (-1), .int .i64 (-1)] ty fr)) (hB : g < B) :
    tS.In B w ⟨some ⟨g, 0, none⟩, 1, none, 0⟩ := by
  refine Tm.In_iff.2 ⟨⟨by simp [tS, Tm.k], by simp [tS, Tm.k], by simp [tS, Tm.n], by simp [tS, Tm.n], by simp [tS, Tm.s, no, ByteArray.size], by simp [tS, Tm.ls], by simp [tS, Tm.ts]⟩, ⟨fun k hk => ?_⟩, fun _ a ha => by cases ha; exact hB, RowIn.mk fun i hi => by simp [tS, Tm.ts] at hi⟩
  have hk0 : k = 0 := by simp [tS, Tm.ls] at hk; omega
  subst hk0
  refine ⟨g, 0, rfl, ?_, ?_, ?_, ?_, ?_⟩ <;> (simp [World.cell?, hg, tS, Tm.ls, number])

set_option maxRecDepth 100000 in
set_option maxHeartbeats 4000000 in
theorem S_safe (w : World) : Calls Try.prog 62 #[] w (MadeS tS w (fun _ => True)) := by
  go_enter Try.func62, Try.ntmps62
  go_wp2_with fail
  refine (RefZero_any _).mono ?_
  rintro e w1 ⟨rfl, b1⟩
  have hk := Lvl.keep b1 (World.alloc_heap_new w _)
  have hz := b1.size
  simp only [World.size_alloc] at hz
  have HB := Lib.hid ((below_one w _).trans (b1.mono (B' := w.heap.size) (by simp)))
  clear b1
  have hlt : w.heap.size < w1.heap.size := by omega
  obtain ⟨c0, c1, c2, c3, c4⟩ := five_cells hk
  obtain ⟨f0, f1, f2, f3, f4⟩ := five_free hk
  have HK := Lib.hid hk
  clear hk
  dsimp only [Lv.val, number]
  go_wp2_with fail
  have h5 := putT_self HK.out (.int .u8 1) (.int .i64 0) (.string no) (.slice (some ⟨w1.heap.size, 0, none⟩) 1 1) (.slice none 0 0)
  have b5 := putT_below HB.out (B := w.heap.size) (Nat.le_refl _) (.int .u8 1) (.int .i64 0) (.string no) (.slice (some ⟨w1.heap.size, 0, none⟩) 1 1) (.slice none 0 0)
  have z5 := putT_size w1 w.heap.size (.int .u8 1) (.int .i64 0) (.string no) (.slice (some ⟨w1.heap.size, 0, none⟩) 1 1) (.slice none 0 0)
  unfold putT no at h5 b5 z5
  generalize hW : ((((w1.setCell ⟨w.heap.size, 0, none⟩ (.int .u8 1)).setCell ⟨w.heap.size, 1, none⟩ (.int .i64 0)).setCell ⟨w.heap.size, 2, none⟩ (.string ⟨#[]⟩)).setCell ⟨w.heap.size, 3, none⟩ (.slice (some ⟨w1.heap.size, 0, none⟩) 1 1)).setCell ⟨w.heap.size, 4, none⟩ (.slice none 0 0) = W4 at h5 b5 z5 ⊢
  have l5 := World.alloc_heap_new W4 (.cells #[.int .i64 0, .int .i64 (-1), .int .i64 (-1), .int .i64 (-1), .int .i64 (-1)] 83)
  rw [z5] at l5
  obtain ⟨e0, e1, e2, e3, e4⟩ := five_cells (keepA h5 (.cells #[.int .i64 0, .int .i64 (-1), .int .i64 (-1), .int .i64 (-1), .int .i64 (-1)] 83))
  clear hW
  exact bodyPost_ret (v := tS.val ⟨some ⟨w1.heap.size, 0, none⟩, 1, none, 0⟩) (by simp [results, Try.results62, go_sem, e0, e1, e2, e3, e4, tS, Tm.val, Tm.vals, Tm.k, Tm.n, Tm.s, Tm.ls, Tm.ts, no]) rfl ⟨_, rfl, tS_in l5 (by rw [World.size_alloc]; omega), b5.alloc b5.size _, fun m hm _ w2 hr => tS_in (hr.keep l5 (by omega)) (by have := hr.size; rw [World.size_alloc] at this; omega)⟩

theorem S_any (w : World) : Calls Try.prog 62 #[] w (Made tS w) :=
  (S_safe w).mono fun _ _ ⟨h, he, hi, hb, _⟩ => ⟨h, he, hi, hb⟩
end Go.Proofs.Ytijdlihodpodjaa

/-
  A row of terms in another world; a term that lies there whatever is written into the blocks of P.
-/
namespace Go.Proofs.Ytijdlihodpodjaa
open Go.RowKit Go.Shelf Lvl Trm

theorem Trm.RowIn.below {B : Nat} {w w1 : World} {ao : Option Addr} {ts : List Tm} (h : RowIn B w ao 0 ts) (g : Below B w w1) : RowIn B w1 ao 0 ts :=
  RowIn.mk fun k hk => by
    obtain ⟨b, off, hao, hat⟩ := h.place k hk
    exact ⟨b, off, hao, hat.below g⟩
theorem Trm.RowIn.mono {B B' : Nat} {w : World} {ao : Option Addr} {ts : List Tm} (h : RowIn B w ao 0 ts) (hB : B ≤ B') : RowIn B' w ao 0 ts :=
  RowIn.mk fun k hk => by
    obtain ⟨b, off, hao, hat⟩ := h.place k hk
    exact ⟨b, off, hao, hat.mono hB⟩
theorem Trm.carryRow {w w' : World} {ao : Option Addr} {ts : List Tm} (h : RowIn w.heap.size w ao 0 ts) (b : Below w.heap.size w w') : RowIn w'.heap.size w' ao 0 ts := (h.below b).mono b.size

/-- w' is w with new blocks, and perhaps other things in the blocks of P. -/
structure Trm.RanS (P : Nat → Prop) (w w' : World) : Prop where
  os : w'.os = w.os
  tape : w'.tape = w.tape
  output : w'.output = w.output
  size : w.heap.size ≤ w'.heap.size
  block : ∀ k, k < w.heap.size → ¬ P k → w'.heap[k]? = w.heap[k]?
theorem Trm.RanS.refl (P : Nat → Prop) (w : World) : RanS P w w := ⟨rfl, rfl, rfl, Nat.le_refl _, fun _ _ _ => rfl⟩
theorem Trm.RanS.trans {P : Nat → Prop} {a b c : World} (h : RanS P a b) (k : RanS P b c) : RanS P a c :=
  ⟨k.os.trans h.os, k.tape.trans h.tape, k.output.trans h.output, Nat.le_trans h.size k.size, fun i hi hm => (k.block i (Nat.lt_of_lt_of_le hi h.size) hm).trans (h.block i hi hm)⟩
theorem Trm.RanS.of_below {P : Nat → Prop} {w w' : World} (h : Below w.heap.size w w') : RanS P w w' := ⟨h.os, h.tape, h.output, h.size, fun k hk _ => h.block k hk⟩
theorem Trm.RanS.of_ran {P : Nat → Prop} {m : Nat} {w w' : World} (h : Ran m w w') (hm : P m) : RanS P w w' := ⟨h.os, h.tape, h.output, h.size, fun k hk hn => h.block k hk (fun e => hn (e ▸ hm))⟩
theorem Trm.RanS.below {P : Nat → Prop} {B : Nat} {w w' : World} (h : RanS P w w') (hm : ∀ k, P k → B ≤ k) (hB : B ≤ w.heap.size) : Below B w w' :=
  ⟨h.os, h.tape, h.output, h.size, fun k hk => h.block k (by omega) (fun hp => by have := hm k hp; omega)⟩
theorem Trm.RanS.keep {P : Nat → Prop} {w w' : World} (h : RanS P w w') {k : Nat} {o : Obj} (hk : w.heap[k]? = some o) (hm : ¬ P k) : w'.heap[k]? = some o := by
  rw [h.block k (Array.getElem?_eq_some_iff.1 hk).1 hm]; exact hk
/-- A term lies there whatever is written into the blocks of P. -/
def Trm.FirmS (P : Nat → Prop) (w : World) (t : Tm) (h : Hd) : Prop := ∀ w', RanS P w w' → t.In w'.heap.size w' h
theorem Trm.FirmS.here {P : Nat → Prop} {w : World} {t : Tm} {h : Hd} (g : FirmS P w t h) : t.In w.heap.size w h := g w (RanS.refl _ _)
theorem Trm.FirmS.step {P : Nat → Prop} {w w1 : World} {t : Tm} {h : Hd} (g : FirmS P w t h) (r : RanS P w w1) : FirmS P w1 t h := fun w' hr => g w' (r.trans hr)
theorem Trm.FirmS.of {P : Nat → Prop} {B : Nat} {w : World} {t : Tm} {h : Hd} (g : t.In B w h) (hm : ∀ k, P k → B ≤ k) (hB : B ≤ w.heap.size) : FirmS P w t h := fun w' hr => Tm.In.mono (by have := hr.size; omega) _ _ (Tm.In.below (hr.below hm hB) _ _ g)
/-- Two terms, applied: in a new row g. -/
theorem Trm.FirmS.t2 {P : Nat → Prop} {w : World} {k : Int} {f x : Tm} {hf hx : Hd} {g : Nat} {ty : TypeId} {fr : Nat × Nat} (hk0 : 0 ≤ k) (hk1 : k ≤ 255) (hg : w.heap[g]? = some (.cells (f.vals hf ++ x.vals hx) ty fr)) (hn : ¬ P g) (h1 : FirmS P w f hf) (h2 : FirmS P w x hx) :
    FirmS P w (t2 k f x) ⟨none, 0, some ⟨g, 0, none⟩, 2⟩ := fun w' hr => t2_in hk0 hk1 (hr.keep hg hn) (by have := (Array.getElem?_eq_some_iff.1 hg).1; have := hr.size; omega) (h1 w' hr) (h2 w' hr)

/-- As Made; and where its parts lie whatever is written into old blocks, it does. -/
def Trm.MadeP (t : Tm) (w : World) (C : (Nat → Prop) → Prop) (e : Ending) (w' : World) : Prop := ∃ h, e = .returned (t.val h) ∧ Below w.heap.size w w' ∧ ∀ P : Nat → Prop, (∀ k, P k → k < w.heap.size) → C P → FirmS P w' t h

end Go.Proofs.Ytijdlihodpodjaa

/-
  slices.Reverse of terms.
-/
namespace Go.Proofs.Ytijdlihodpodjaa
open Go.RowKit Go.Shelf Lvl Trm

/-- A block of terms: those of its first places. -/
structure Trm.TBlock (w : World) (g S : Nat) (ps : List (Tm × Hd)) : Prop where
  ex : ∃ cur : Array Value, w.heap[g]? = some (.cells cur 25 (0, 0)) ∧ cur.size = S ∧ ps.length * 5 ≤ S ∧ ∀ k (hk : k < ps.length) q, q < 5 → cur[k * 5 + q]? = (ps[k].1.vals ps[k].2)[q]?

def Trm.putO (w : World) (b o : Nat) (v0 v1 v2 v3 v4 : Value) : World := ((((w.setCell ⟨b, o, none⟩ v0).setCell ⟨b, o + 1, none⟩ v1).setCell ⟨b, o + 2, none⟩ v2).setCell ⟨b, o + 3, none⟩ v3).setCell ⟨b, o + 4, none⟩ v4

theorem Trm.TBlock.cells {w : World} {g S : Nat} {ps : List (Tm × Hd)} (h : TBlock w g S ps) (k : Nat) (hk : k < ps.length) : TCells w g (k * 5) ps[k].1 ps[k].2 := by
  obtain ⟨cur, hg, _, _, hc⟩ := h
  have h0 := hc k hk 0 (by omega)
  have h1 := hc k hk 1 (by omega)
  have h2 := hc k hk 2 (by omega)
  have h3 := hc k hk 3 (by omega)
  have h4 := hc k hk 4 (by omega)
  refine ⟨?_, ?_, ?_, ?_, ?_⟩ <;> (simp only [World.cell?, hg]; simp [Tm.vals] at h0 h1 h2 h3 h4 ⊢; assumption)
theorem Trm.TBlock.free {w : World} {g S : Nat} {ps : List (Tm × Hd)} (h : TBlock w g S ps) (o : Nat) : w.frozen? ⟨g, o, none⟩ = false := by
  obtain ⟨cur, hg, _⟩ := h
  simp [World.frozen?, hg]
theorem Trm.TBlock.lt {w : World} {g S : Nat} {ps : List (Tm × Hd)} (h : TBlock w g S ps) : g < w.heap.size := by
  obtain ⟨cur, hg, _⟩ := h
  exact (Array.getElem?_eq_some_iff.1 hg).1
def Trm.five (cur : Array Value) (o : Nat) (v0 v1 v2 v3 v4 : Value) : Array Value := ((((cur.setIfInBounds o v0).setIfInBounds (o + 1) v1).setIfInBounds (o + 2) v2).setIfInBounds (o + 3) v3).setIfInBounds (o + 4) v4
theorem Trm.five_size (cur : Array Value) (o : Nat) (v0 v1 v2 v3 v4 : Value) : (five cur o v0 v1 v2 v3 v4).size = cur.size := by simp [five]
theorem Trm.five_far (cur : Array Value) (o : Nat) (v0 v1 v2 v3 v4 : Value) (x : Nat) (h : x < o ∨ o + 4 < x) : (five cur o v0 v1 v2 v3 v4)[x]? = cur[x]? := by
  unfold five
  simp only [Array.getElem?_setIfInBounds]
  rw [if_neg (by omega), if_neg (by omega), if_neg (by omega), if_neg (by omega), if_neg (by omega)]
theorem Trm.five_at (cur : Array Value) (o : Nat) (v0 v1 v2 v3 v4 : Value) (h : o + 4 < cur.size) :
    (five cur o v0 v1 v2 v3 v4)[o]? = some v0 ∧ (five cur o v0 v1 v2 v3 v4)[o + 1]? = some v1 ∧ (five cur o v0 v1 v2 v3 v4)[o + 2]? = some v2 ∧ (five cur o v0 v1 v2 v3 v4)[o + 3]? = some v3 ∧ (five cur o v0 v1 v2 v3 v4)[o + 4]? = some v4 := by
  unfold five
  simp only [Array.getElem?_setIfInBounds, Array.size_setIfInBounds]
  refine ⟨?_, ?_, ?_, ?_, ?_⟩
  · rw [if_neg (by omega), if_neg (by omega), if_neg (by omega), if_neg (by omega), if_pos trivial, if_pos (by omega)]
  · rw [if_neg (by omega), if_neg (by omega), if_neg (by omega), if_pos trivial, if_pos (by omega)]
  · rw [if_neg (by omega), if_neg (by omega), if_pos trivial, if_pos (by omega)]
  · rw [if_neg (by omega), if_pos trivial, if_pos (by omega)]
  · rw [if_pos trivial, if_pos (by omega)]
theorem Trm.TBlock.put {w : World} {g S : Nat} {ps : List (Tm × Hd)} (h : TBlock w g S ps) (i : Nat) (hi : i < ps.length) (p : Tm × Hd) :
    TBlock (putO w g (i * 5) (.int .u8 p.1.k) (.int .i64 p.1.n) (.string p.1.s) (.slice p.2.lo p.1.ls.length p.2.lc) (.slice p.2.to p.1.ts.length p.2.tc)) g S (ps.set i p) := by
  obtain ⟨cur, hg, hs, hl, hc⟩ := h
  refine ⟨five cur (i * 5) (.int .u8 p.1.k) (.int .i64 p.1.n) (.string p.1.s) (.slice p.2.lo p.1.ls.length p.2.lc) (.slice p.2.to p.1.ts.length p.2.tc), ?_, ?_, ?_, ?_⟩
  · simp [putO, five, World.setCell, Array.getElem?_modify, hg]
  · rw [five_size, hs]
  · simpa using hl
  · intro k hk q hq
    simp only [List.length_set] at hk
    by_cases hki : i = k
    · subst hki
      rw [List.getElem_set_self]
      obtain ⟨f0, f1, f2, f3, f4⟩ := five_at cur (i * 5) (.int .u8 p.1.k) (.int .i64 p.1.n) (.string p.1.s) (.slice p.2.lo p.1.ls.length p.2.lc) (.slice p.2.to p.1.ts.length p.2.tc) (by omega)
      have h5 : q = 0 ∨ q = 1 ∨ q = 2 ∨ q = 3 ∨ q = 4 := by omega
      rcases h5 with rfl | rfl | rfl | rfl | rfl
      · exact f0
      · exact f1
      · exact f2
      · exact f3
      · exact f4
    · rw [five_far _ _ _ _ _ _ _ _ (by omega), List.getElem_set_ne hki]
      exact hc k hk q hq
theorem Trm.Ran.set (w : World) (g o : Nat) (v : Value) : Ran g w (w.setCell ⟨g, o, none⟩ v) := ⟨rfl, rfl, rfl, by simp [World.setCell], fun k _ hk => Below.heap_setCell _ _ _ _ hk⟩
theorem Trm.putO_ran (w : World) (g o : Nat) (v0 v1 v2 v3 v4 : Value) : Ran g w (putO w g o v0 v1 v2 v3 v4) :=
  ((((Ran.set w g o v0).trans (Ran.set _ g (o + 1) v1)).trans (Ran.set _ g (o + 2) v2)).trans (Ran.set _ g (o + 3) v3)).trans (Ran.set _ g (o + 4) v4)

theorem Trm.TBlock.drew {w : World} {g S : Nat} {ps : List (Tm × Hd)} (h : TBlock w g S ps) : TBlock w.drew g S ps := by
  obtain ⟨cur, h⟩ := h
  exact ⟨⟨cur, h⟩⟩
theorem Trm.RevStep.mk {ps cur : List (Tm × Hd)} {a b : Nat} (han : a < ps.length) (hbn : b < ps.length) (hb : b = ps.length - 1 - a) (hlt : 2 * a + 1 < ps.length)
    (h : ∀ k (h1 : k < cur.length) (h2 : k < ps.length) (h3 : ps.length - 1 - k < ps.length), (k < a ∨ ps.length ≤ k + a → cur[k] = ps[ps.length - 1 - k]) ∧ (¬ (k < a ∨ ps.length ≤ k + a) → cur[k] = ps[k])) :
    ∀ k (h1 : k < ((cur.set a ps[b]).set b ps[a]).length) (h2 : k < ps.length) (h3 : ps.length - 1 - k < ps.length), (k < a + 1 ∨ ps.length ≤ k + (a + 1) → ((cur.set a ps[b]).set b ps[a])[k] = ps[ps.length - 1 - k]) ∧ (¬ (k < a + 1 ∨ ps.length ≤ k + (a + 1)) → ((cur.set a ps[b]).set b ps[a])[k] = ps[k]) := by
  intro k h1 h2 h3
  simp only [List.length_set] at h1
  rw [List.getElem_set]
  split
  · rename_i e
    subst e
    refine ⟨fun _ => ?_, fun hn => by omega⟩
    congr 1
    omega
  · rw [List.getElem_set]
    split
    · rename_i e
      subst e
      refine ⟨fun _ => ?_, fun hn => by omega⟩
      subst hb
      rfl
    · have := h k h1 h2 h3
      exact ⟨fun hk => this.1 (by omega), fun hk => this.2 (by omega)⟩
def Trm.RevRel (w : World) (g S n : Nat) (i j : Value) (ps : List (Tm × Hd)) (wr : World) : Prop :=
  ∃ (a : Nat) (cur : List (Tm × Hd)), i = .int .i64 a ∧ j = .int .i64 ((n : Int) - 1 - a) ∧ 2 * a ≤ n + 1 ∧ cur.length = n ∧ (∀ k (h1 : k < cur.length) (h2 : k < ps.length) (h3 : n - 1 - k < ps.length), (k < a ∨ n ≤ k + a → cur[k] = ps[n - 1 - k]) ∧ (¬ (k < a ∨ n ≤ k + a) → cur[k] = ps[k])) ∧ TBlock wr g S cur ∧ Ran g w wr

set_option maxRecDepth 100000 in
set_option maxHeartbeats 4000000 in
theorem Reverse_any (g S cap : Nat) (ps : List (Tm × Hd)) (w : World) (hb : TBlock w g S ps) (hn : ps.length ≤ 1000000000) :
    Calls Try.prog 109 #[.slice (some ⟨g, 0, none⟩) ps.length cap] w fun e w' => e = .returned (.tuple #[]) ∧ TBlock w' g S ps.reverse ∧ Ran g w w' := by
  have HB := Lib.hid hb
  clear hb
  go_enter Try.func109, Try.ntmps109
  go_wp2_with fail
  go_loopw [2, 3] (fun i j wr => RevRel w g S ps.length i j ps wr) (fun i _ _ => ps.length - (intOf i).toNat)
  case atStart => exact ⟨0, ps, rfl, by simp, by omega, rfl, fun k h1 h2 h3 => ⟨fun h => by omega, fun _ => rfl⟩, HB.out, Ran.refl _ _⟩
  case round =>
    obtain ⟨a, cur, rfl, rfl, ha, hcl, hcur, htb, hran⟩ := hrel
    have HT := Lib.hid htb
    have HR := Lib.hid hran
    have HCU := Lib.hid hcur
    have HCL := Lib.hid hcl
    by_cases hlt : 2 * a + 1 < ps.length
    · obtain ⟨b, hb⟩ : ∃ b : Nat, b = ps.length - 1 - a := ⟨_, rfl⟩
      have hab : a < b := by omega
      have hj : (ps.length : Int) - 1 - a = (b : Int) := by omega
      rw [hj]
      have hai : a < cur.length := by omega
      have haj : b < cur.length := by omega
      obtain ⟨c0, c1, c2, c3, c4⟩ := htb.cells a hai
      obtain ⟨d0, d1, d2, d3, d4⟩ := htb.cells b haj
      have hfr := fun o => htb.free o
      have HJ := Lib.hid hj
      have HBB := Lib.hid hb
      have hbn : b < ps.length := by omega
      have han : a < ps.length := by omega
      have hlt2 := htb.lt
      have hxa : cur[a] = ps[a] := (hcur a hai han (by omega)).2 (by omega)
      have hyb : cur[b] = ps[b] := (hcur b haj hbn (by omega)).2 (by omega)
      rw [hxa] at c0 c1 c2 c3 c4
      rw [hyb] at d0 d1 d2 d3 d4
      have HP := Lib.hid ((htb.put a hai ps[b]).put b (by simpa using haj) ps[a])
      have HQ := Lib.hid (RevStep.mk han hbn (by omega : b = ps.length - 1 - a) hlt hcur)
      clear htb hran hcur hcl hj hb hxa hyb
      generalize ps[a] = x at c0 c1 c2 c3 c4 HP HQ
      generalize ps[b] = y at d0 d1 d2 d3 d4 HP HQ
      obtain ⟨tx, hx⟩ := x
      obtain ⟨ty, hy'⟩ := y
      dsimp only at c0 c1 c2 c3 c4 d0 d1 d2 d3 d4 HP
      go_wp2_with fail
      go_region
      go_wp2_with fail
      go_roundw
      case rel =>
        have hq := HQ.out
        exact ⟨a + 1, _, by go_num, by have := HBB.out; simp; omega, by omega, by simp; exact HCL.out, HQ.out, TBlock.drew HP.out, HR.out.trans (((putO_ran _ _ _ _ _ _ _ _).trans (putO_ran _ _ _ _ _ _ _ _)).trans (Ran.of_below (Below.refl _ _).drew))⟩
      case measure => simp [intOf]; omega
    · have HF : Hid (cur = ps.reverse) := Lib.hid (by
        refine List.ext_getElem (by simp; omega) fun k h1 h2 => ?_
        rw [List.getElem_reverse]
        have hk := hcur k h1 (by omega) (by omega)
        by_cases hc : k < a ∨ ps.length ≤ k + a
        · exact hk.1 hc
        · rw [hk.2 hc]
          have : ps.length - 1 - k = k := by omega
          congr 1
          omega)
      clear htb hran hcur hcl
      go_wp2_with fail
      go_end0
      exact ⟨rfl, by rw [← HF.out]; exact HT.out, HR.out⟩
end Go.Proofs.Ytijdlihodpodjaa

/-
  term.Spine.
-/
namespace Go.Proofs.Ytijdlihodpodjaa
open Go.RowKit Go.Shelf Lvl Trm

/-- A term, applied. -/
def Trm.appl (f : Tm) (l : List Tm) : Tm := l.foldl (fun f x => t2 4 f x) f
theorem Trm.appl_cons (f x : Tm) (l : List Tm) : appl f (x :: l) = appl (t2 4 f x) l := rfl

theorem Trm.node_app {t : Tm} (h : t.node = true) (hk : t.k = 4) : ∃ f x, t = t2 4 f x := by
  unfold Tm.node at h
  simp only [hk, Bool.and_eq_true, decide_eq_true_eq] at h
  obtain ⟨⟨⟨⟨⟨_, hl⟩, _⟩, hs⟩, hn⟩, hv⟩ := h
  simp [kids] at hl hs hn hv
  obtain ⟨k, n, s, ls, ts⟩ := t
  simp only [Tm.k, Tm.ts, Tm.s, Tm.n, Tm.ls] at hk hl hs hn hv
  obtain ⟨f, x, rfl⟩ : ∃ f x, ts = [f, x] := by
    match ts, hl with
    | [f, x], _ => exact ⟨f, x, rfl⟩
    | [], hl => simp at hl
    | [_], hl => simp at hl
    | _ :: _ :: _ :: _, hl => simp at hl; omega
  refine ⟨f, x, ?_⟩
  subst hk hn hv
  have hs' : s = no := by
    first
      | exact hs
      | (cases s with
         | mk d => simp [ByteArray.size] at hs; subst hs; rfl)
  rw [hs']; rfl

theorem Trm.infoT : (Try.prog.info? 25).map (fun i => (i.zero, i.size, i.bytes)) = some (some (.agg #[.int .u8 0, .int .i64 0, .string ⟨#[]⟩, .slice none 0 0, .slice none 0 0]), 5, 80) := by kernel_rfl

def Trm.flat (ps : List (Tm × Hd)) : List Value := ps.flatMap fun p => (p.1.vals p.2).toList
theorem Trm.flat_len (ps : List (Tm × Hd)) : (flat ps).length = ps.length * 5 := by
  induction ps with
  | nil => rfl
  | cons p r ih => simp only [flat, List.flatMap_cons, List.length_append, List.length_cons] at ih ⊢; rw [ih]; simp [Tm.vals]; omega
theorem Trm.flat_at (ps : List (Tm × Hd)) : ∀ k (hk : k < ps.length) q, q < 5 → (flat ps)[k * 5 + q]? = (ps[k].1.vals ps[k].2)[q]? := by
  induction ps with
  | nil => intro k hk; simp at hk
  | cons p r ih =>
    intro k hk q hq
    have h5 : (p.1.vals p.2).toList.length = 5 := by simp [Tm.vals]
    match k, hk with
    | 0, _ =>
      show ((p.1.vals p.2).toList ++ flat r)[0 * 5 + q]? = _
      rw [List.getElem?_append_left (by omega)]
      simp
    | k + 1, hk =>
      show ((p.1.vals p.2).toList ++ flat r)[(k + 1) * 5 + q]? = _
      rw [List.getElem?_append_right (by omega), h5, show (k + 1) * 5 + q - 5 = k * 5 + q by omega]
      exact ih k (by simpa using hk) q hq
theorem Trm.flat_snoc (ps : List (Tm × Hd)) (p : Tm × Hd) : flat (ps ++ [p]) = flat ps ++ (p.1.vals p.2).toList := by simp [flat]

/-- A row of the call's own is a block of terms. -/
theorem Trm.block_of_own {w : World} {base g n cap : Nat} {ps : List (Tm × Hd)} (h : w.ownsRow base 25 5 (.slice (some ⟨g, 0, none⟩) n cap) ps.length (flat ps)) : base ≤ g ∧ n = ps.length ∧ TBlock w g (cap * 5) ps := by
  obtain ⟨hl, h | ⟨g', cap', cur, he, hb, hg, hn, hm, hs, ht⟩⟩ := h
  · cases h.1
  · cases he
    refine ⟨hb, rfl, ⟨cur, hg, hs, by omega, fun k hk q hq => ?_⟩⟩
    rw [← flat_at ps k hk q hq, ← ht, List.getElem?_take_of_lt (by omega), Array.getElem?_toList]

theorem Trm.below_own {w w' : World} {base : Nat} {e size n : Nat} {v : Value} {xs : List Value} (h : w.ownsRow base e size v n xs) (hg : w.grownBy w' v.ownBlock) (hb : base ≤ w.heap.size) : Below base w w' := by
  refine Below.grown (Below.refl _ _) hg hb fun k hk => ?_
  obtain ⟨_, h | ⟨g, cap, cur, rfl, hb2, _⟩⟩ := h
  · rw [h.1] at hk; simp [Value.ownBlock] at hk
  · simp [Value.ownBlock] at hk; omega
theorem Trm.TBlock.ran {m : Nat} {w w' : World} {g S : Nat} {ps : List (Tm × Hd)} (h : TBlock w g S ps) (hr : Ran m w w') (hm : g ≠ m) : TBlock w' g S ps := by
  have hl := h.lt
  obtain ⟨cur, hg, h2⟩ := h
  exact ⟨cur, by rw [hr.block g hl hm]; exact hg, h2⟩
theorem Trm.TBlock.row {B : Nat} {w : World} {g S : Nat} {ps : List (Tm × Hd)} (h : TBlock w g S ps) (hg : g < B) (hi : ∀ p ∈ ps, p.1.In B w p.2) : RowIn B w (some ⟨g, 0, none⟩) 0 (ps.map (·.1)) := by
  refine RowIn.mk fun k hk => ?_
  have hk' : k < ps.length := by simpa using hk
  have hc := h.cells k hk'
  refine ⟨g, 0, rfl, hg, ps[k].2, ?_, ?_⟩
  · rw [List.getElem_map]; simpa using hc
  · rw [List.getElem_map]; exact hi _ (List.getElem_mem hk')
theorem Trm.own_put {w : World} {base e size n : Nat} {v : Value} {xs : List Value} (h : w.ownsRow base e size v n xs) {b : Nat} (hb : b < base) (v0 v1 v2 v3 v4 : Value) : (putT w b v0 v1 v2 v3 v4).ownsRow base e size v n xs :=
  ownsRow_setCell_below (ownsRow_setCell_below (ownsRow_setCell_below (ownsRow_setCell_below (ownsRow_setCell_below h (a := ⟨b, 0, none⟩) hb _) (a := ⟨b, 1, none⟩) hb _) (a := ⟨b, 2, none⟩) hb _) (a := ⟨b, 3, none⟩) hb _) (a := ⟨b, 4, none⟩) hb _
theorem Trm.putT_ran (w : World) (g : Nat) (v0 v1 v2 v3 v4 : Value) : Ran g w (putT w g v0 v1 v2 v3 v4) :=
  ((((Ran.set w g 0 v0).trans (Ran.set _ g 1 v1)).trans (Ran.set _ g 2 v2)).trans (Ran.set _ g 3 v3)).trans (Ran.set _ g 4 v4)

set_option maxRecDepth 100000 in
theorem Reverse_nil (w : World) : Calls Try.prog 109 #[.slice none 0 0] w fun e w' => e = .returned (.tuple #[]) ∧ w = w' := by
  go_enter Try.func109, Try.ntmps109
  go_wp2_with fail
  go_rounds 1
  go_end0
  exact ⟨rfl, rfl⟩

/-- What Spine answers of a term that may be. -/
def Trm.Spined (t : Tm) (w : World) (e : Ending) (w' : World) : Prop :=
  ∃ g hg m ao cap, e = .returned (.tuple #[g.val hg, .slice ao m.length cap]) ∧ t = appl g m ∧ g.k ≠ 4 ∧ g.In w'.heap.size w' hg ∧ RowIn w'.heap.size w' ao 0 m ∧ m.length ≤ 65536 ∧ Below w.heap.size w w'

def Trm.SpRel (w : World) (t : Tm) (gk : Nat) (v : Value) (wr : World) : Prop :=
  ∃ (c : Tm) (hc : Hd) (ps : List (Tm × Hd)) (d : Int), gk = c.size.toNat ∧ Below w.heap.size w wr ∧ wr.heap[w.heap.size]? = some (c.box hc) ∧ wr.heap[w.heap.size + 1]? = some (.cells #[.int .u8 0, .int .i64 0, .string ⟨#[]⟩, .slice none 0 0, .slice none 0 0] 25) ∧
    c.In w.heap.size wr hc ∧ (∀ p ∈ ps, p.1.In w.heap.size wr p.2) ∧ t = appl c (ps.reverse.map (·.1)) ∧ OkMay c d ∧ ps.length + c.size ≤ t.size ∧ wr.ownsRow (w.heap.size + 2) 25 5 v ps.length (flat ps)

theorem Trm.t2_size (f x : Tm) : (t2 4 f x).size = 1 + f.size + x.size := by
  unfold t2; rw [Tm.size, sizeL, sizeL, sizeL]; omega
theorem Trm.may_size {t : Tm} (h : t.may = true) : t.size ≤ 65536 := by
  have := count_ge t
  unfold Tm.count at this
  rw [if_pos h] at this
  omega

set_option maxRecDepth 100000 in
set_option maxHeartbeats 8000000 in
theorem Spine_yes (t : Tm) (h : Hd) (w : World) (hin : t.In w.heap.size w h) (hmay : t.may = true) :
    Calls Try.prog 64 #[t.val h] w (Spined t w) := by
  have HM := Lib.hid (fun (W : World) (hW : Below w.heap.size w W) => (show Calls Try.prog 14 #[t.val h] W fun e w' => e = .returned (.bool true) ∧ Below W.heap.size W w' from hmay ▸ PMay_any t h W (Tm.In.mono hW.size _ _ (Tm.In.below hW _ _ hin))))
  have HIN := Lib.hid hin
  have HOK := Lib.hid (OkMay.start hmay)
  have HSZ := Lib.hid (may_size hmay)
  clear hin hmay
  obtain ⟨i0, hi, hz0, hz1, hz2⟩ := info_parts infoT
  unfold Tm.val at HM ⊢
  dsimp only [Tm.vals] at HM ⊢
  go_enter Try.func64, Try.ntmps64
  go_wp2_with fail
  refine (HM.out _ (below_two w _ _)).mono ?_
  rintro e w1 ⟨rfl, b1⟩
  have HB := Lib.hid ((below_two w _ _).trans (b1.mono (B' := w.heap.size) (by simp; omega)))
  have HB1 := Lib.hid (Lvl.keep b1 (new1of2 w (t.box h) _))
  have HB2 := Lib.hid (Lvl.keep b1 (new2 w (t.box h) _))
  have HZ := Lib.hid b1.size
  clear b1
  go_wp2_with fail
  go_loopg [4] t.size.toNat (fun gk v wr => SpRel w t gk v wr)
  case atStart => exact ⟨t, h, [], 1, rfl, HB.out, HB1.out, HB2.out, Tm.In.below HB.out _ _ HIN.out, fun p hp => by simp at hp, rfl, HOK.out, by simp, rfl, Or.inl ⟨rfl, rfl⟩⟩
  case round =>
    obtain ⟨c, hc, ps, d, hgk, hbel, hbx, hbr, hcin, hps, hap, hok, hsz, hown⟩ := hrel
    have HGK := Lib.hid hgk
    have HBE := Lib.hid hbel
    have HBX := Lib.hid hbx
    have HBR := Lib.hid hbr
    have HCI := Lib.hid hcin
    have HPS := Lib.hid hps
    have HAP := Lib.hid hap
    have HSC := Lib.hid hsz
    have HOW := Lib.hid hown
    have hzq := HZ.out
    have hzr := hbel.size
    have hlt0 : w.heap.size + 1 < wr.heap.size := (Array.getElem?_eq_some_iff.1 hbr).1
    clear hgk hbel hbr hps hap hsz hown
    by_cases hk4 : c.k = 4
    · obtain ⟨f, x, rfl⟩ := node_app hok.node.1 hk4
      obtain ⟨b, off, hao, hat0⟩ := hcin.kid 0 (by simp [t2, Tm.ts])
      obtain ⟨b', off', hao', hat1⟩ := hcin.kid 1 (by simp [t2, Tm.ts])
      rw [hao] at hao'
      cases hao'
      have hat0' : TAt w.heap.size wr b off f := by simpa [t2, Tm.ts] using hat0
      have hat1' : TAt w.heap.size wr b (off + 5) x := by simpa [t2, Tm.ts] using hat1
      obtain ⟨hb0, h0, hp, hi0⟩ := hat0'
      obtain ⟨_, h1, hq, hi1⟩ := hat1'
      have HP0 := Lib.hid hp
      have HI0 := Lib.hid hi0
      have HI1 := Lib.hid hi1
      have c0 : wr.cell? ⟨w.heap.size, 0, none⟩ = some (.int .u8 4) := (Tm.cells hbx).c0
      have c4 : wr.cell? ⟨w.heap.size, 4, none⟩ = some (.slice (some ⟨b, off, none⟩) 2 hc.tc) := by
        have h4 := (Tm.cells hbx).c4
        rw [hao] at h4
        exact h4
      obtain ⟨q0, q1, q2, q3, q4⟩ := hq
      have HOK2 := Lib.hid (hok.down f (by simp [t2, Tm.ts]))
      have HAO := Lib.hid hao
      have hbz : b < wr.heap.size := by omega
      clear hk4 hat0 hat1 hp hi0 hi1 hbx hcin hok hao
      have hlen : ps.length ≤ 65536 := by have := HSC.out; have := HSZ.out; have := (t2 4 f x).size_pos; omega
      go_wp2_with (at_builtin; refine wpList_append_own _ rfl _ _ 23 rfl (w.heap.size + 2) 25 i0 _ 5 80 Try.underlying23 hi hz0 hz1 hz2 rfl (by decide) _ _ _ rfl (HOW.out.alloc _) ⟨wr.heap.size, 0, none⟩ 1 1 (x.vals h1).toList rfl rfl ?c1 ?c2 ?c3 ?c4 ?c5 ?_)
      case c1 => exact World.news_of_block (cs := x.vals h1) (t := 25) (fr := (0, 0)) (World.alloc_heap_new wr _)
      case c2 => simp [Tm.vals, Value.oneCell']
      case c3 => unfold maxLen; omega
      case c4 => omega
      case c5 => simp; omega
      intro v' w2 hown2 hg2 _
      have hb2 : Below (w.heap.size + 2) wr w2 := Below.trans (Below.mono (below_one wr _) (by omega)) (below_own (HOW.out.alloc _) hg2 (by simp; omega))
      have HB2' := Lib.hid hb2
      have HO2 := Lib.hid hown2
      have hz2' := hb2.size
      clear hown2 hg2 c0 c4 q0 q1 q2 q3 q4
      have hbx2 := (show w2.heap[w.heap.size]? = some ((t2 4 f x).box hc) from (hb2.block _ (by omega)).trans HBX.out)
      have c4 : w2.cell? ⟨w.heap.size, 4, none⟩ = some (.slice (some ⟨b, off, none⟩) 2 hc.tc) := by
        have h4 := (Tm.cells hbx2).c4
        rw [HAO.out] at h4
        exact h4
      obtain ⟨c0, c1, c2, c3, _⟩ := five_cells (show w2.heap[w.heap.size]? = some (.cells #[_, _, _, _, _] 25) from hbx2)
      obtain ⟨f0, f1, f2, f3, f4⟩ := five_free (show w2.heap[w.heap.size]? = some (.cells #[_, _, _, _, _] 25) from hbx2)
      obtain ⟨p0, p1, p2, p3, p4⟩ := HP0.out.below hb2 (by omega : b < w.heap.size + 2)
      have HX2 := Lib.hid hbx2
      have hlt2 : w.heap.size < w2.heap.size := by omega
      clear hb2 hbx2
      go_wp2_with fail
      go_roundg f.size.toNat
      case measure => have h1 := HGK.out; have h2 := t2_size f x; have h3 := f.size_pos; have h4 := x.size_pos; omega
      case rel =>
        have hk := putT_ran w2 w.heap.size (.int .u8 f.k) (.int .i64 f.n) (.string f.s) (.slice h0.lo f.ls.length h0.lc) (.slice h0.to f.ts.length h0.tc)
        have hw := HBE.out.trans ((HB2'.out.mono (by omega)).trans (hk.below (Nat.le_refl _) (by omega)))
        refine ⟨f, h0, ps ++ [(x, h1)], d + 1, rfl, hw, ?_, ?_, ?_, ?_, ?_, HOK2.out, ?_, ?_⟩
        · exact putT_self HX2.out _ _ _ _ _
        · exact putT_other ((HB2'.out.block _ (by omega)).trans HBR.out) _ _ _ _ _ (by omega)
        · exact Tm.In.below ((HB2'.out.mono (by omega)).trans (hk.below (Nat.le_refl _) (by omega))) _ _ HI0.out
        · intro p hp
          rcases List.mem_append.1 hp with hp | hp
          · exact Tm.In.below ((HB2'.out.mono (by omega)).trans (hk.below (Nat.le_refl _) (by omega))) _ _ (HPS.out p hp)
          · simp at hp
            subst hp
            exact Tm.In.below ((HB2'.out.mono (by omega)).trans (hk.below (Nat.le_refl _) (by omega))) _ _ HI1.out
        · rw [HAP.out]
          simp [appl_cons]
        · have h1 := HSC.out
          have h2 := t2_size f x
          have h3 := x.size_pos
          simp
          omega
        · rw [flat_snoc, List.length_append]
          exact own_put HO2.out (by omega) _ _ _ _ _
    · have hq4 : (c.k == 4) = false := by simpa using hk4
      obtain ⟨c0, c1, c2, c3, c4⟩ := Tm.cells hbx
      have HK4 := Lib.hid hk4
      clear hk4 hbx hcin hok
      have hlen : ps.length ≤ 65536 := by have := HSC.out; have := HSZ.out; have := c.size_pos; omega
      have hown := HOW.out
      obtain ⟨hfl, ⟨rfl, hn0⟩ | ⟨g, cap, cur, rfl, hbg, hgb, _⟩⟩ := hown
      · have HPN : Hid (ps = []) := Lib.hid (List.eq_nil_of_length_eq_zero hn0)
        clear hn0 hfl
        go_wp2_with fail
        refine (Reverse_nil _).mono ?_
        rintro e w3 ⟨rfl, rfl⟩
        clear c0 c1 c2 c3 c4
        have hx3 := HBX.out
        have hr3 := HBR.out
        obtain ⟨p0, p1, p2, p3, p4⟩ := five_cells (show wr.heap[w.heap.size]? = some (.cells #[_, _, _, _, _] 25) from hx3)
        obtain ⟨c0, c1, c2, c3, c4⟩ := five_cells (show wr.heap[w.heap.size + 1]? = some (.cells #[_, _, _, _, _] 25) from hr3)
        obtain ⟨f0, f1, f2, f3, f4⟩ := five_free (show wr.heap[w.heap.size + 1]? = some (.cells #[_, _, _, _, _] 25) from hr3)
        have HR3 := Lib.hid hr3
        have hlt3 : w.heap.size + 1 < wr.heap.size := (Array.getElem?_eq_some_iff.1 hr3).1
        clear hx3 hr3
        go_wp2_with fail
        have h5 := putT_self HR3.out (.int .u8 c.k) (.int .i64 c.n) (.string c.s) (.slice hc.lo c.ls.length hc.lc) (.slice hc.to c.ts.length hc.tc)
        have r5 := putT_ran wr (w.heap.size + 1) (.int .u8 c.k) (.int .i64 c.n) (.string c.s) (.slice hc.lo c.ls.length hc.lc) (.slice hc.to c.ts.length hc.tc)
        unfold putT at h5 r5
        generalize hW : ((((wr.setCell ⟨w.heap.size + 1, 0, none⟩ (.int .u8 c.k)).setCell ⟨w.heap.size + 1, 1, none⟩ (.int .i64 c.n)).setCell ⟨w.heap.size + 1, 2, none⟩ (.string c.s)).setCell ⟨w.heap.size + 1, 3, none⟩ (.slice hc.lo c.ls.length hc.lc)).setCell ⟨w.heap.size + 1, 4, none⟩ (.slice hc.to c.ts.length hc.tc) = W4 at h5 r5 ⊢
        obtain ⟨e0, e1, e2, e3, e4⟩ := five_cells h5
        clear hW
        exact bodyPost_ret (v := .tuple #[c.val hc, .slice none (([] : List Tm)).length 0]) (by simp [results, Try.results64, go_sem, e0, e1, e2, e3, e4, Tm.val, Tm.vals]) rfl
          ⟨c, hc, [], none, 0, rfl, by rw [HAP.out, HPN.out]; rfl, HK4.out, Tm.In.mono (by have := r5.size; omega) _ _ (Tm.In.below (r5.below (B := w.heap.size) (by omega) (by omega)) _ _ HCI.out), by rw [RowIn]; trivial, by simp, HBE.out.trans (r5.below (B := w.heap.size) (by omega) (by omega))⟩
      · obtain ⟨hg2, _, htb⟩ := block_of_own HOW.out
        have HG2 := Lib.hid hg2
        have HTB := Lib.hid (Reverse_any g (cap * 5) cap ps wr htb (by omega))
        have hgl := htb.lt
        have HGB := Lib.hid hgb
        clear htb hg2 hfl hbg hgb
        go_wp2_with fail
        refine HTB.out.mono ?_
        rintro e w3 ⟨rfl, tb3, r3⟩
        clear c0 c1 c2 c3 c4
        have HT3 := Lib.hid tb3
        have HR3' := Lib.hid r3
        have hsz3 := r3.size
        have hx3 : w3.heap[w.heap.size]? = some (c.box hc) := r3.keep HBX.out (by have := HG2.out; omega)
        have hr3 := r3.keep HBR.out (by have := HG2.out; omega)
        clear tb3 r3
        obtain ⟨p0, p1, p2, p3, p4⟩ := five_cells (show w3.heap[w.heap.size]? = some (.cells #[_, _, _, _, _] 25) from hx3)
        obtain ⟨c0, c1, c2, c3, c4⟩ := five_cells (show w3.heap[w.heap.size + 1]? = some (.cells #[_, _, _, _, _] 25) from hr3)
        obtain ⟨f0, f1, f2, f3, f4⟩ := five_free (show w3.heap[w.heap.size + 1]? = some (.cells #[_, _, _, _, _] 25) from hr3)
        have HR3 := Lib.hid hr3
        have hlt3 : w.heap.size + 1 < w3.heap.size := (Array.getElem?_eq_some_iff.1 hr3).1
        clear hx3 hr3
        go_wp2_with fail
        have h5 := putT_self HR3.out (.int .u8 c.k) (.int .i64 c.n) (.string c.s) (.slice hc.lo c.ls.length hc.lc) (.slice hc.to c.ts.length hc.tc)
        have r5 := putT_ran w3 (w.heap.size + 1) (.int .u8 c.k) (.int .i64 c.n) (.string c.s) (.slice hc.lo c.ls.length hc.lc) (.slice hc.to c.ts.length hc.tc)
        unfold putT at h5 r5
        generalize hW : ((((w3.setCell ⟨w.heap.size + 1, 0, none⟩ (.int .u8 c.k)).setCell ⟨w.heap.size + 1, 1, none⟩ (.int .i64 c.n)).setCell ⟨w.heap.size + 1, 2, none⟩ (.string c.s)).setCell ⟨w.heap.size + 1, 3, none⟩ (.slice hc.lo c.ls.length hc.lc)).setCell ⟨w.heap.size + 1, 4, none⟩ (.slice hc.to c.ts.length hc.tc) = W4 at h5 r5 ⊢
        obtain ⟨e0, e1, e2, e3, e4⟩ := five_cells h5
        clear hW
        have hg3 := HG2.out
        have hall := (HR3'.out.below (B := w.heap.size) (by omega) (by omega)).trans (r5.below (B := w.heap.size) (by omega) (by omega))
        have hrow := TBlock.row (B := W4.heap.size) (HT3.out.ran r5 (by omega)) (by have := r5.size; omega) (fun p hp => Tm.In.mono (by have := r5.size; omega) _ _ (Tm.In.below hall _ _ (HPS.out p (List.mem_reverse.1 hp))))
        exact bodyPost_ret (v := .tuple #[c.val hc, .slice (some ⟨g, 0, none⟩) (ps.reverse.map (·.1)).length cap]) (by simp [results, Try.results64, go_sem, e0, e1, e2, e3, e4, Tm.val, Tm.vals]) rfl
          ⟨c, hc, ps.reverse.map (·.1), some ⟨g, 0, none⟩, cap, rfl, HAP.out, HK4.out, Tm.In.mono (by have := r5.size; omega) _ _ (Tm.In.below hall _ _ HCI.out), hrow, by simp; omega, HBE.out.trans hall⟩
end Go.Proofs.Ytijdlihodpodjaa
