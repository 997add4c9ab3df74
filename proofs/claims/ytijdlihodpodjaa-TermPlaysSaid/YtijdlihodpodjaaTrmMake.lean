/-
  Terms that the statements make: S, V, A, L, P, C, App.
-/
import Derived.Test.YtijdlihodpodjaaTrmIn
import Derived.Test.YtijdlihodpodjaaTrmDeep
import Derived.Test.YtijdlihodpodjaaLevDefs
import Derived.Test.YtijdlihodpodjaaTrmWalk
namespace Go.Proofs.Ytijdlihodpodjaa
open Go.RowKit Go.Shelf Lvl Trm

/-- A term is answered, and lies there. -/
def Trm.Made (t : Tm) (w : World) (e : Ending) (w' : World) : Prop := ∃ h, e = .returned (t.val h) ∧ t.In w'.heap.size w' h ∧ Below w.heap.size w w'

/-- A term lies there whatever is written into block m. -/
def Trm.Firm (m : Nat) (w : World) (t : Tm) (h : Hd) : Prop := ∀ w', Ran m w w' → t.In w'.heap.size w' h
theorem Trm.Firm.here {m : Nat} {w : World} {t : Tm} {h : Hd} (g : Firm m w t h) : t.In w.heap.size w h := g w (Ran.refl _ _)
theorem Trm.Firm.step {m : Nat} {w w1 : World} {t : Tm} {h : Hd} (g : Firm m w t h) (r : Ran m w w1) : Firm m w1 t h := fun w' hr => g w' (r.trans hr)
theorem Trm.Firm.of {m B : Nat} {w : World} {t : Tm} {h : Hd} (g : t.In B w h) (hm : B ≤ m) (hB : B ≤ w.heap.size) : Firm m w t h := fun w' hr => Tm.In.mono (by have := hr.size; omega) _ _ (Tm.In.below (hr.below hm hB) _ _ g)
/-- As Made; and where its parts lie whatever is written into block m, it does. -/
def Trm.MadeS (t : Tm) (w : World) (C : Nat → Prop) (e : Ending) (w' : World) : Prop := ∃ h, e = .returned (t.val h) ∧ t.In w'.heap.size w' h ∧ Below w.heap.size w w' ∧ ∀ m, m < w.heap.size → C m → Firm m w' t h

def Trm.no : ByteArray := ⟨#[]⟩
def Trm.tS : Tm := .mk 1 0 no [number 0] []
def Trm.tV (n : Int) : Tm := .mk 2 n no [] []
def Trm.tC (s : ByteArray) : Tm := .mk 3 0 s [] []
/-- A kind of two terms: App, Lam, Pi. -/
def Trm.t2 (k : Int) (f x : Tm) : Tm := .mk k 0 no [] [f, x]

theorem Trm.five_cells {w : World} {b : Nat} {v0 v1 v2 v3 v4 : Value} {ty : TypeId} {fr : Nat × Nat} (h : w.heap[b]? = some (.cells #[v0, v1, v2, v3, v4] ty fr)) :
    w.cell? ⟨b, 0, none⟩ = some v0 ∧ w.cell? ⟨b, 1, none⟩ = some v1 ∧ w.cell? ⟨b, 2, none⟩ = some v2 ∧ w.cell? ⟨b, 3, none⟩ = some v3 ∧ w.cell? ⟨b, 4, none⟩ = some v4 := by
  refine ⟨?_, ?_, ?_, ?_, ?_⟩ <;> (simp [World.cell?, h])
theorem Trm.five_free {w : World} {b : Nat} {v0 v1 v2 v3 v4 : Value} {ty : TypeId} (h : w.heap[b]? = some (.cells #[v0, v1, v2, v3, v4] ty)) :
    w.frozen? ⟨b, 0, none⟩ = false ∧ w.frozen? ⟨b, 1, none⟩ = false ∧ w.frozen? ⟨b, 2, none⟩ = false ∧ w.frozen? ⟨b, 3, none⟩ = false ∧ w.frozen? ⟨b, 4, none⟩ = false := by
  refine ⟨?_, ?_, ?_, ?_, ?_⟩ <;> (simp [World.frozen?, h])
/-- Five stores into the first cells of a block. -/
def Trm.putT (w : World) (b : Nat) (v0 v1 v2 v3 v4 : Value) : World := ((((w.setCell ⟨b, 0, none⟩ v0).setCell ⟨b, 1, none⟩ v1).setCell ⟨b, 2, none⟩ v2).setCell ⟨b, 3, none⟩ v3).setCell ⟨b, 4, none⟩ v4
theorem Trm.putT_self {w : World} {b : Nat} {u0 u1 u2 u3 u4 : Value} {ty : TypeId} {fr : Nat × Nat} (h : w.heap[b]? = some (.cells #[u0, u1, u2, u3, u4] ty fr)) (v0 v1 v2 v3 v4 : Value) : (putT w b v0 v1 v2 v3 v4).heap[b]? = some (.cells #[v0, v1, v2, v3, v4] ty fr) := by
  simp [putT, World.setCell, Array.getElem?_modify, h]
theorem Trm.putT_other {w : World} {k : Nat} {o : Obj} (h : w.heap[k]? = some o) (v0 v1 v2 v3 v4 : Value) {b : Nat} (hb : b ≠ k) : (putT w b v0 v1 v2 v3 v4).heap[k]? = some o :=
  cells_other (cells_other (cells_other (cells_other (cells_other h _ hb) _ hb) _ hb) _ hb) _ hb
theorem Trm.putT_below {w W : World} (h : Below w.heap.size w W) {B : Nat} (hB : w.heap.size ≤ B) (v0 v1 v2 v3 v4 : Value) : Below w.heap.size w (putT W B v0 v1 v2 v3 v4) := below_all h hB _ _ _ _ _
theorem Trm.putT_size (w : World) (b : Nat) (v0 v1 v2 v3 v4 : Value) : (putT w b v0 v1 v2 v3 v4).heap.size = w.heap.size := by simp [putT, World.setCell]

theorem Trm.t2_in {B : Nat} {w : World} {k : Int} {f x : Tm} {hf hx : Hd} {g : Nat} {ty : TypeId} {fr : Nat × Nat} (hk0 : 0 ≤ k) (hk1 : k ≤ 255) (hg : w.heap[g]? = some (.cells (f.vals hf ++ x.vals hx) ty fr)) (hB : g < B) (h1 : f.In B w hf) (h2 : x.In B w hx) :
    (t2 k f x).In B w ⟨none, 0, some ⟨g, 0, none⟩, 2⟩ := by
  refine Tm.In_iff.2 ⟨⟨hk0, hk1, by simp [t2, Tm.n], by simp [t2, Tm.n], by simp [t2, Tm.s, no, ByteArray.size], by simp [t2, Tm.ls], by simp [t2, Tm.ts]⟩, ⟨fun k hk => by simp [t2, Tm.ls] at hk⟩, fun hn => by simp [t2, Tm.ls] at hn, ?_⟩
  refine RowIn.mk fun i hi => ?_
  have hi2 : i = 0 ∨ i = 1 := by simp [t2, Tm.ts] at hi; omega
  rcases hi2 with rfl | rfl
  · refine ⟨g, 0, rfl, hB, hf, ⟨?_, ?_, ?_, ?_, ?_⟩, h1⟩ <;> (simp [World.cell?, hg, Tm.vals, t2, Tm.ts])
  · refine ⟨g, 0, rfl, hB, hx, ⟨?_, ?_, ?_, ?_, ?_⟩, h2⟩ <;> (simp [World.cell?, hg, Tm.vals, t2, Tm.ts])
theorem Trm.leaf_in {B : Nat} {w : World} {k n : Int} {s : ByteArray} {lc tc : Nat} (hk0 : 0 ≤ k) (hk1 : k ≤ 255) (hn0 : -9223372036854775808 ≤ n) (hn1 : n ≤ 9223372036854775807) (hs : s.size ≤ 9223372036854775807) : (Tm.mk k n s [] []).In B w ⟨none, lc, none, tc⟩ :=
  Tm.In_iff.2 ⟨⟨hk0, hk1, hn0, hn1, hs, by simp [Tm.ls], by simp [Tm.ts]⟩, ⟨fun k hk => by simp [Tm.ls] at hk⟩, fun hn => by simp [Tm.ls] at hn, RowIn.mk fun i hi => by simp [Tm.ts] at hi⟩

theorem Trm.below_four (w : World) (o1 o2 o3 o4 : Obj) : Below w.heap.size w ((((w.alloc o1).alloc o2).alloc o3).alloc o4) :=
  ((((Below.refl _ _).alloc (Nat.le_refl _) _).alloc (by simp) _).alloc (by simp; omega) _).alloc (by simp; omega) _

set_option maxRecDepth 100000 in
theorem V_any (n : Int) (w : World) (hn0 : -9223372036854775808 ≤ n) (hn1 : n ≤ 9223372036854775807) :
    Calls Try.prog 63 #[.int .i64 n] w (Made (tV n) w) := by
  go_enter Try.func63, Try.ntmps63
  go_wp2_with fail
  exact bodyPost_ret (v := (tV n).val ⟨none, 0, none, 0⟩) (by simp [results, Try.results63, go_sem, tV, Tm.val, Tm.vals, Tm.k, Tm.n, Tm.s, Tm.ls, Tm.ts, no]) rfl ⟨_, rfl, leaf_in (by decide) (by decide) hn0 hn1 (by simp [no, ByteArray.size]), below_one _ _⟩

set_option maxRecDepth 100000 in
theorem C_any (s : ByteArray) (w : World) (hs : s.size ≤ 9223372036854775807) :
    Calls Try.prog 65 #[.string s] w (Made (tC s) w) := by
  go_enter Try.func65, Try.ntmps65
  go_wp2_with fail
  exact bodyPost_ret (v := (tC s).val ⟨none, 0, none, 0⟩) (by simp [results, Try.results65, go_sem, tC, Tm.val, Tm.vals, Tm.k, Tm.n, Tm.s, Tm.ls, Tm.ts]) rfl ⟨_, rfl, leaf_in (by decide) (by decide) (by decide) (by decide) hs, below_one _ _⟩

set_option maxRecDepth 100000 in
theorem A_safe (f x : Tm) (hf hx : Hd) (w : World) (h1 : f.In w.heap.size w hf) (h2 : x.In w.heap.size w hx) :
    Calls Try.prog 28 #[f.val hf, x.val hx] w (MadeS (t2 4 f x) w (fun m => Firm m w f hf ∧ Firm m w x hx)) := by
  have H1 := Lib.hid h1
  have H2 := Lib.hid h2
  clear h1 h2
  unfold Tm.val Tm.vals
  go_enter Try.func28, Try.ntmps28
  go_wp2_with fail
  have hb := below_four w (f.box hf) (x.box hx) (.cells #[.int .u8 4, .int .i64 0, .string no, .slice none 0 0, .slice (some ⟨w.heap.size + 1 + 1 + 1, 0, none⟩) 2 2] 25) (.cells (f.vals hf ++ x.vals hx) 25)
  refine bodyPost_ret (v := (t2 4 f x).val ⟨none, 0, some ⟨w.heap.size + 1 + 1 + 1, 0, none⟩, 2⟩) (by simp [results, Try.results28, go_sem, t2, Tm.val, Tm.vals, Tm.k, Tm.n, Tm.s, Tm.ls, Tm.ts, no]) rfl ⟨_, rfl, ?_, below_four _ _ _ _ _, ?_⟩
  · exact t2_in (by decide) (by decide) (g := w.heap.size + 1 + 1 + 1) (ty := 25) (fr := (0, 0)) (new4 _ _ _ _ _) (by simp) (Tm.In.mono (by simp; omega) _ _ (Tm.In.below hb _ _ H1.out)) (Tm.In.mono (by simp; omega) _ _ (Tm.In.below hb _ _ H2.out))
  · intro m hm hc w2 hr
    have hg := new4 w (f.box hf) (x.box hx) (.cells #[.int .u8 4, .int .i64 0, .string no, .slice none 0 0, .slice (some ⟨w.heap.size + 1 + 1 + 1, 0, none⟩) 2 2] 25) (.cells (f.vals hf ++ x.vals hx) 25)
    exact t2_in (by decide) (by decide) (g := w.heap.size + 1 + 1 + 1) (ty := 25) (fr := (0, 0)) (hr.keep hg (by omega)) (by have := hr.size; simp at this; omega) (hc.1 w2 ((Ran.of_below hb).trans hr)) (hc.2 w2 ((Ran.of_below hb).trans hr))

set_option maxRecDepth 100000 in
theorem L_safe (f x : Tm) (hf hx : Hd) (w : World) (h1 : f.In w.heap.size w hf) (h2 : x.In w.heap.size w hx) :
    Calls Try.prog 30 #[f.val hf, x.val hx] w (MadeS (t2 5 f x) w (fun m => Firm m w f hf ∧ Firm m w x hx)) := by
  have H1 := Lib.hid h1
  have H2 := Lib.hid h2
  clear h1 h2
  unfold Tm.val Tm.vals
  go_enter Try.func30, Try.ntmps30
  go_wp2_with fail
  have hb := below_four w (f.box hf) (x.box hx) (.cells #[.int .u8 5, .int .i64 0, .string no, .slice none 0 0, .slice (some ⟨w.heap.size + 1 + 1 + 1, 0, none⟩) 2 2] 25) (.cells (f.vals hf ++ x.vals hx) 25)
  refine bodyPost_ret (v := (t2 5 f x).val ⟨none, 0, some ⟨w.heap.size + 1 + 1 + 1, 0, none⟩, 2⟩) (by simp [results, Try.results30, go_sem, t2, Tm.val, Tm.vals, Tm.k, Tm.n, Tm.s, Tm.ls, Tm.ts, no]) rfl ⟨_, rfl, ?_, below_four _ _ _ _ _, ?_⟩
  · exact t2_in (by decide) (by decide) (g := w.heap.size + 1 + 1 + 1) (ty := 25) (fr := (0, 0)) (new4 _ _ _ _ _) (by simp) (Tm.In.mono (by simp; omega) _ _ (Tm.In.below hb _ _ H1.out)) (Tm.In.mono (by simp; omega) _ _ (Tm.In.below hb _ _ H2.out))
  · intro m hm hc w2 hr
    have hg := new4 w (f.box hf) (x.box hx) (.cells #[.int .u8 5, .int .i64 0, .string no, .slice none 0 0, .slice (some ⟨w.heap.size + 1 + 1 + 1, 0, none⟩) 2 2] 25) (.cells (f.vals hf ++ x.vals hx) 25)
    exact t2_in (by decide) (by decide) (g := w.heap.size + 1 + 1 + 1) (ty := 25) (fr := (0, 0)) (hr.keep hg (by omega)) (by have := hr.size; simp at this; omega) (hc.1 w2 ((Ran.of_below hb).trans hr)) (hc.2 w2 ((Ran.of_below hb).trans hr))

set_option maxRecDepth 100000 in
theorem P_safe (f x : Tm) (hf hx : Hd) (w : World) (h1 : f.In w.heap.size w hf) (h2 : x.In w.heap.size w hx) :
    Calls Try.prog 29 #[f.val hf, x.val hx] w (MadeS (t2 6 f x) w (fun m => Firm m w f hf ∧ Firm m w x hx)) := by
  have H1 := Lib.hid h1
  have H2 := Lib.hid h2
  clear h1 h2
  unfold Tm.val Tm.vals
  go_enter Try.func29, Try.ntmps29
  go_wp2_with fail
  have hb := below_four w (f.box hf) (x.box hx) (.cells #[.int .u8 6, .int .i64 0, .string no, .slice none 0 0, .slice (some ⟨w.heap.size + 1 + 1 + 1, 0, none⟩) 2 2] 25) (.cells (f.vals hf ++ x.vals hx) 25)
  refine bodyPost_ret (v := (t2 6 f x).val ⟨none, 0, some ⟨w.heap.size + 1 + 1 + 1, 0, none⟩, 2⟩) (by simp [results, Try.results29, go_sem, t2, Tm.val, Tm.vals, Tm.k, Tm.n, Tm.s, Tm.ls, Tm.ts, no]) rfl ⟨_, rfl, ?_, below_four _ _ _ _ _, ?_⟩
  · exact t2_in (by decide) (by decide) (g := w.heap.size + 1 + 1 + 1) (ty := 25) (fr := (0, 0)) (new4 _ _ _ _ _) (by simp) (Tm.In.mono (by simp; omega) _ _ (Tm.In.below hb _ _ H1.out)) (Tm.In.mono (by simp; omega) _ _ (Tm.In.below hb _ _ H2.out))
  · intro m hm hc w2 hr
    have hg := new4 w (f.box hf) (x.box hx) (.cells #[.int .u8 6, .int .i64 0, .string no, .slice none 0 0, .slice (some ⟨w.heap.size + 1 + 1 + 1, 0, none⟩) 2 2] 25) (.cells (f.vals hf ++ x.vals hx) 25)
    exact t2_in (by decide) (by decide) (g := w.heap.size + 1 + 1 + 1) (ty := 25) (fr := (0, 0)) (hr.keep hg (by omega)) (by have := hr.size; simp at this; omega) (hc.1 w2 ((Ran.of_below hb).trans hr)) (hc.2 w2 ((Ran.of_below hb).trans hr))

set_option maxRecDepth 100000 in
theorem A_any (f x : Tm) (hf hx : Hd) (w : World) (h1 : f.In w.heap.size w hf) (h2 : x.In w.heap.size w hx) :
    Calls Try.prog 28 #[f.val hf, x.val hx] w (Made (t2 4 f x) w) :=
  (A_safe f x hf hx w h1 h2).mono fun _ _ ⟨h, he, hi, hb, _⟩ => ⟨h, he, hi, hb⟩
theorem L_any (f x : Tm) (hf hx : Hd) (w : World) (h1 : f.In w.heap.size w hf) (h2 : x.In w.heap.size w hx) :
    Calls Try.prog 30 #[f.val hf, x.val hx] w (Made (t2 5 f x) w) :=
  (L_safe f x hf hx w h1 h2).mono fun _ _ ⟨h, he, hi, hb, _⟩ => ⟨h, he, hi, hb⟩
theorem P_any (f x : Tm) (hf hx : Hd) (w : World) (h1 : f.In w.heap.size w hf) (h2 : x.In w.heap.size w hx) :
    Calls Try.prog 29 #[f.val hf, x.val hx] w (Made (t2 6 f x) w) :=
  (P_safe f x hf hx w h1 h2).mono fun _ _ ⟨h, he, hi, hb, _⟩ => ⟨h, he, hi, hb⟩
theorem RefZero_any (w : World) : Calls Try.prog 108 #[] w fun e w' => e = .returned (number 0).val ∧ Below w.heap.size w w' := by
  unfold number Lv.val
  go_enter Try.func108, Try.ntmps108
  go_wp2_with fail
  exact bodyPost_ret (v := .agg #[.int .i64 0, .int .i64 (-1), .int .i64 (-1), .int .i64 (-1), .int .i64 (-1)]) (by simp [results, Try.results108, go_sem]) rfl ⟨rfl, below_one _ _⟩

theorem Trm.tS_in {B : Nat} {w : World} {g : Nat} {fr : Nat × Nat} {ty : TypeId} (hg : w.heap[g]? = some (.cells #[.int .i64 0, .int .i64 (-1), .int .i64 (-1), .int .i64 (-1), .int .i64 (-1)] ty fr)) (hB : g < B) :
    tS.In B w ⟨some ⟨g, 0, none⟩, 1, none, 0⟩ := by
  refine Tm.In_iff.2 ⟨⟨by simp [tS, Tm.k], by simp [tS, Tm.k], by simp [tS, Tm.n], by simp [tS, Tm.n], by simp [tS, Tm.s, no, ByteArray.size], by simp [tS, Tm.ls], by simp [tS, Tm.ts]⟩, ⟨fun k hk => ?_⟩, fun _ a ha => by cases ha; exact hB, RowIn.mk fun i hi => by simp [tS, Tm.ts] at hi⟩
  have hk0 : k = 0 := by simp [tS, Tm.ls] at hk; omega
  subst hk0
  refine ⟨g, 0, rfl, ?_, ?_, ?_, ?_, ?_⟩ <;> (simp [World.cell?, hg, tS, Tm.ls, number])

set_option maxRecDepth 100000 in
set_option maxHeartbeats 4000000 in
theorem S_safe (w : World) : Calls Try.prog 62 #[] w (MadeS tS w (fun _ => True)) := by
  go_enter Try.func62, Try.ntmps62
  go_wp2_with fail
  refine (RefZero_any _).mono ?_
  rintro e w1 ⟨rfl, b1⟩
  have hk := Lvl.keep b1 (World.alloc_heap_new w _)
  have hz := b1.size
  simp only [World.size_alloc] at hz
  have HB := Lib.hid ((below_one w _).trans (b1.mono (B' := w.heap.size) (by simp)))
  clear b1
  have hlt : w.heap.size < w1.heap.size := by omega
  obtain ⟨c0, c1, c2, c3, c4⟩ := five_cells hk
  obtain ⟨f0, f1, f2, f3, f4⟩ := five_free hk
  have HK := Lib.hid hk
  clear hk
  dsimp only [Lv.val, number]
  go_wp2_with fail
  have h5 := putT_self HK.out (.int .u8 1) (.int .i64 0) (.string no) (.slice (some ⟨w1.heap.size, 0, none⟩) 1 1) (.slice none 0 0)
  have b5 := putT_below HB.out (B := w.heap.size) (Nat.le_refl _) (.int .u8 1) (.int .i64 0) (.string no) (.slice (some ⟨w1.heap.size, 0, none⟩) 1 1) (.slice none 0 0)
  have z5 := putT_size w1 w.heap.size (.int .u8 1) (.int .i64 0) (.string no) (.slice (some ⟨w1.heap.size, 0, none⟩) 1 1) (.slice none 0 0)
  unfold putT no at h5 b5 z5
  generalize hW : ((((w1.setCell ⟨w.heap.size, 0, none⟩ (.int .u8 1)).setCell ⟨w.heap.size, 1, none⟩ (.int .i64 0)).setCell ⟨w.heap.size, 2, none⟩ (.string ⟨#[]⟩)).setCell ⟨w.heap.size, 3, none⟩ (.slice (some ⟨w1.heap.size, 0, none⟩) 1 1)).setCell ⟨w.heap.size, 4, none⟩ (.slice none 0 0) = W4 at h5 b5 z5 ⊢
  have l5 := World.alloc_heap_new W4 (.cells #[.int .i64 0, .int .i64 (-1), .int .i64 (-1), .int .i64 (-1), .int .i64 (-1)] 83)
  rw [z5] at l5
  obtain ⟨e0, e1, e2, e3, e4⟩ := five_cells (keepA h5 (.cells #[.int .i64 0, .int .i64 (-1), .int .i64 (-1), .int .i64 (-1), .int .i64 (-1)] 83))
  clear hW
  exact bodyPost_ret (v := tS.val ⟨some ⟨w1.heap.size, 0, none⟩, 1, none, 0⟩) (by simp [results, Try.results62, go_sem, e0, e1, e2, e3, e4, tS, Tm.val, Tm.vals, Tm.k, Tm.n, Tm.s, Tm.ls, Tm.ts, no]) rfl ⟨_, rfl, tS_in l5 (by rw [World.size_alloc]; omega), b5.alloc b5.size _, fun m hm _ w2 hr => tS_in (hr.keep l5 (by omega)) (by have := hr.size; rw [World.size_alloc] at this; omega)⟩

theorem S_any (w : World) : Calls Try.prog 62 #[] w (Made tS w) :=
  (S_safe w).mono fun _ _ ⟨h, he, hi, hb, _⟩ => ⟨h, he, hi, hb⟩
end Go.Proofs.Ytijdlihodpodjaa
