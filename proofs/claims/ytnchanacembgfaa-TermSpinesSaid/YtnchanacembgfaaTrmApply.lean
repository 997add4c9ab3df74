/-
  battenref03.Apply, term.Apply.
-/
import Derived.Test.YtnchanacembgfaaTrmSpine
import Derived.Test.YtnchanacembgfaaTrmBndLaw
namespace Go.Proofs.Ytnchanacembgfaa
open Go.RowKit Go.Shelf Lvl Trm

theorem Trm.RowIn.below {B : Nat} {w w1 : World} {ao : Option Addr} {ts : List Tm} (h : RowIn B w ao 0 ts) (g : Below B w w1) : RowIn B w1 ao 0 ts :=
  RowIn.mk fun k hk => by
    obtain ⟨b, off, hao, hat⟩ := h.place k hk
    exact ⟨b, off, hao, hat.below g⟩
theorem Trm.RowIn.mono {B B' : Nat} {w : World} {ao : Option Addr} {ts : List Tm} (h : RowIn B w ao 0 ts) (hB : B ≤ B') : RowIn B' w ao 0 ts :=
  RowIn.mk fun k hk => by
    obtain ⟨b, off, hao, hat⟩ := h.place k hk
    exact ⟨b, off, hao, hat.mono hB⟩
theorem Trm.carryRow {w w' : World} {ao : Option Addr} {ts : List Tm} (h : RowIn w.heap.size w ao 0 ts) (b : Below w.heap.size w w') : RowIn w'.heap.size w' ao 0 ts := (h.below b).mono b.size

theorem Trm.take_appl {f : Tm} {l : List Tm} {k : Nat} (h : k < l.length) : appl f (l.take (k + 1)) = t2 4 (appl f (l.take k)) l[k] := by
  rw [List.take_succ_eq_append_getElem h, appl_snoc]

/-- w' is w with new blocks, and perhaps other things in the blocks of P. -/
structure Trm.RanS (P : Nat → Prop) (w w' : World) : Prop where
  os : w'.os = w.os
  tape : w'.tape = w.tape
  output : w'.output = w.output
  size : w.heap.size ≤ w'.heap.size
  block : ∀ k, k < w.heap.size → ¬ P k → w'.heap[k]? = w.heap[k]?
theorem Trm.RanS.refl (P : Nat → Prop) (w : World) : RanS P w w := ⟨rfl, rfl, rfl, Nat.le_refl _, fun _ _ _ => rfl⟩
theorem Trm.RanS.trans {P : Nat → Prop} {a b c : World} (h : RanS P a b) (k : RanS P b c) : RanS P a c :=
  ⟨k.os.trans h.os, k.tape.trans h.tape, k.output.trans h.output, Nat.le_trans h.size k.size, fun i hi hm => (k.block i (Nat.lt_of_lt_of_le hi h.size) hm).trans (h.block i hi hm)⟩
theorem Trm.RanS.of_below {P : Nat → Prop} {w w' : World} (h : Below w.heap.size w w') : RanS P w w' := ⟨h.os, h.tape, h.output, h.size, fun k hk _ => h.block k hk⟩
theorem Trm.RanS.of_ran {P : Nat → Prop} {m : Nat} {w w' : World} (h : Ran m w w') (hm : P m) : RanS P w w' := ⟨h.os, h.tape, h.output, h.size, fun k hk hn => h.block k hk (fun e => hn (e ▸ hm))⟩
theorem Trm.RanS.below {P : Nat → Prop} {B : Nat} {w w' : World} (h : RanS P w w') (hm : ∀ k, P k → B ≤ k) (hB : B ≤ w.heap.size) : Below B w w' :=
  ⟨h.os, h.tape, h.output, h.size, fun k hk => h.block k (by omega) (fun hp => by have := hm k hp; omega)⟩
theorem Trm.RanS.keep {P : Nat → Prop} {w w' : World} (h : RanS P w w') {k : Nat} {o : Obj} (hk : w.heap[k]? = some o) (hm : ¬ P k) : w'.heap[k]? = some o := by
  rw [h.block k (Array.getElem?_eq_some_iff.1 hk).1 hm]; exact hk
/-- A term lies there whatever is written into the blocks of P. -/
def Trm.FirmS (P : Nat → Prop) (w : World) (t : Tm) (h : Hd) : Prop := ∀ w', RanS P w w' → t.In w'.heap.size w' h
theorem Trm.FirmS.here {P : Nat → Prop} {w : World} {t : Tm} {h : Hd} (g : FirmS P w t h) : t.In w.heap.size w h := g w (RanS.refl _ _)
theorem Trm.FirmS.step {P : Nat → Prop} {w w1 : World} {t : Tm} {h : Hd} (g : FirmS P w t h) (r : RanS P w w1) : FirmS P w1 t h := fun w' hr => g w' (r.trans hr)
theorem Trm.FirmS.of {P : Nat → Prop} {B : Nat} {w : World} {t : Tm} {h : Hd} (g : t.In B w h) (hm : ∀ k, P k → B ≤ k) (hB : B ≤ w.heap.size) : FirmS P w t h := fun w' hr => Tm.In.mono (by have := hr.size; omega) _ _ (Tm.In.below (hr.below hm hB) _ _ g)
/-- Two terms, applied: in a new row g. -/
theorem Trm.FirmS.t2 {P : Nat → Prop} {w : World} {k : Int} {f x : Tm} {hf hx : Hd} {g : Nat} {ty : TypeId} {fr : Nat × Nat} (hk0 : 0 ≤ k) (hk1 : k ≤ 255) (hg : w.heap[g]? = some (.cells (f.vals hf ++ x.vals hx) ty fr)) (hn : ¬ P g) (h1 : FirmS P w f hf) (h2 : FirmS P w x hx) :
    FirmS P w (t2 k f x) ⟨none, 0, some ⟨g, 0, none⟩, 2⟩ := fun w' hr => t2_in hk0 hk1 (hr.keep hg hn) (by have := (Array.getElem?_eq_some_iff.1 hg).1; have := hr.size; omega) (h1 w' hr) (h2 w' hr)

/-- As Made; and where its parts lie whatever is written into old blocks, it does. -/
def Trm.MadeP (t : Tm) (w : World) (C : (Nat → Prop) → Prop) (e : Ending) (w' : World) : Prop := ∃ h, e = .returned (t.val h) ∧ Below w.heap.size w w' ∧ ∀ P : Nat → Prop, (∀ k, P k → k < w.heap.size) → C P → FirmS P w' t h

set_option maxRecDepth 100000 in
theorem App_firm (f x : Tm) (hf hx : Hd) (w : World) :
    Calls Try.prog 81 #[f.val hf, x.val hx] w (MadeP (t2 4 f x) w (fun P => FirmS P w f hf ∧ FirmS P w x hx)) := by
  unfold Tm.val Tm.vals
  go_enter Try.func81, Try.ntmps81
  go_wp2_with fail
  have hb := below_four w (f.box hf) (x.box hx) (.cells #[.int .u8 4, .int .i64 0, .string no, .slice none 0 0, .slice (some ⟨w.heap.size + 1 + 1 + 1, 0, none⟩) 2 2] 42) (.cells (f.vals hf ++ x.vals hx) 42)
  refine bodyPost_ret (v := (t2 4 f x).val ⟨none, 0, some ⟨w.heap.size + 1 + 1 + 1, 0, none⟩, 2⟩) (by simp [results, Try.results81, go_sem, t2, Tm.val, Tm.vals, Tm.k, Tm.n, Tm.s, Tm.ls, Tm.ts, no]) rfl ⟨_, rfl, below_four _ _ _ _ _, ?_⟩
  intro P hP hc
  exact FirmS.t2 (by decide) (by decide) (g := w.heap.size + 1 + 1 + 1) (ty := 42) (fr := (0, 0)) (new4 w (f.box hf) (x.box hx) (.cells #[.int .u8 4, .int .i64 0, .string no, .slice none 0 0, .slice (some ⟨w.heap.size + 1 + 1 + 1, 0, none⟩) 2 2] 42) (.cells (f.vals hf ++ x.vals hx) 42)) (fun hp => by have := hP _ hp; omega) (hc.1.step (RanS.of_below hb)) (hc.2.step (RanS.of_below hb))

/-- The box of an argument holds a term that two variables, its own and the result's, may not disturb. -/
structure Trm.Two (w wr : World) (t : Tm) (h : Hd) : Prop where
  bel : Below w.heap.size w wr
  box : wr.heap[w.heap.size]? = some (t.box h)
  res : wr.heap[w.heap.size + 1]? = some (.cells #[.int .u8 0, .int .i64 0, .string ⟨#[]⟩, .slice none 0 0, .slice none 0 0] 42)
  firm : FirmS (fun k => k = w.heap.size ∨ k = w.heap.size + 1) wr t h
theorem Trm.Two.step {w wr w1 : World} {t : Tm} {h : Hd} (v : Two w wr t h) (g : Below wr.heap.size wr w1) : Two w w1 t h :=
  ⟨Trm.go v.bel g, Lvl.keep g v.box, Lvl.keep g v.res, v.firm.step (RanS.of_below g)⟩
theorem Trm.Two.put {w wr : World} {t u : Tm} {h hu : Hd} (v : Two w wr t h) (f : FirmS (fun k => k = w.heap.size ∨ k = w.heap.size + 1) wr u hu) :
    Two w (putT wr w.heap.size (.int .u8 u.k) (.int .i64 u.n) (.string u.s) (.slice hu.lo u.ls.length hu.lc) (.slice hu.to u.ts.length hu.tc)) u hu :=
  ⟨putT_below v.bel (Nat.le_refl _) _ _ _ _ _, putT_self v.box _ _ _ _ _, putT_other v.res _ _ _ _ _ (by omega), f.step (RanS.of_ran (putT_ran _ _ _ _ _ _ _) (Or.inl rfl))⟩
theorem Trm.Two.start {w : World} {t : Tm} {h : Hd} (hin : t.In w.heap.size w h) : Two w ((w.alloc (t.box h)).alloc (.cells #[.int .u8 0, .int .i64 0, .string ⟨#[]⟩, .slice none 0 0, .slice none 0 0] 42)) t h :=
  ⟨below_two _ _ _, new1of2 _ _ _, new2 _ _ _, FirmS.of (Tm.In.below (below_two w _ _) _ _ hin) (fun k hk => by omega) (by simp; omega)⟩

def Trm.ApRel (w : World) (f : Tm) (l : List Tm) (i : Value) (wr : World) : Prop :=
  ∃ (k : Nat) (h : Hd), i = .int .i64 k ∧ k ≤ l.length ∧ Two w wr (appl f (l.take k)) h

set_option maxRecDepth 100000 in
set_option maxHeartbeats 8000000 in
theorem RefApply_any (f : Tm) (hf : Hd) (l : List Tm) (lo : Option Addr) (lc : Nat) (w : World) (hin : f.In w.heap.size w hf) (hl : RowIn w.heap.size w lo 0 l) (hn : l.length ≤ 1000000) :
    Calls Try.prog 44 #[f.val hf, .slice lo l.length lc] w (Made (appl f l) w) := by
  have HL := Lib.hid hl
  have HV0 := Lib.hid (show Two w _ (appl f (l.take 0)) hf from Two.start hin)
  clear hin hl
  unfold Tm.val
  dsimp only [Tm.vals]
  go_enter Try.func44, Try.ntmps44
  go_wp2_with fail
  go_loopw [5] (fun i wr => ApRel w f l i wr) (fun i _ => l.length - (intOf i).toNat)
  case atStart => exact ⟨0, hf, rfl, by omega, HV0.out⟩
  case round =>
    obtain ⟨k, h, rfl, hk, hvar⟩ := hrel
    have HV := Lib.hid hvar
    obtain ⟨c0, c1, c2, c3, c4⟩ := five_cells (show wr.heap[w.heap.size]? = some (.cells #[_, _, _, _, _] 42) from hvar.box)
    have hlw : w.heap.size + 1 < wr.heap.size := (Array.getElem?_eq_some_iff.1 hvar.res).1
    clear hvar
    by_cases hlt : k < l.length
    · obtain ⟨b, off, hao, hb, hx, ⟨p0, p1, p2, p3, p4⟩, hi⟩ := (HL.out.below HV.out.bel).place k hlt
      rw [Nat.zero_add] at p0 p1 p2 p3 p4
      have HLL := Lib.hid (fun (W : World) => (show Calls Try.prog 81 #[.agg #[.int .u8 (appl f (l.take k)).k, .int .i64 (appl f (l.take k)).n, .string (appl f (l.take k)).s, .slice h.lo (appl f (l.take k)).ls.length h.lc, .slice h.to (appl f (l.take k)).ts.length h.tc], .agg #[.int .u8 l[k].k, .int .i64 l[k].n, .string l[k].s, .slice hx.lo l[k].ls.length hx.lc, .slice hx.to l[k].ts.length hx.tc]] W (MadeP (appl f (l.take (k + 1))) W (fun P => FirmS P W (appl f (l.take k)) h ∧ FirmS P W l[k] hx)) from take_appl hlt ▸ App_firm (appl f (l.take k)) l[k] h hx W))
      have HXF := Lib.hid (show FirmS (fun k => k = w.heap.size ∨ k = w.heap.size + 1) wr l[k] hx from FirmS.of hi (fun k hk => by omega) HV.out.bel.size)
      have HNX : Hid (∀ wr' h', Two w wr' (appl f (l.take (k + 1))) h' → ApRel w f l (.int .i64 ((k : Int) + 1)) wr') := Lib.hid (fun wr' h' hv => ⟨k + 1, h', by go_num, by omega, hv⟩)
      have hbz : b < wr.heap.size := by omega
      generalize appl f (l.take k) = x at HV c0 c1 c2 c3 c4 HLL
      generalize appl f (l.take (k + 1)) = y at HLL HNX
      generalize l[k] = z at p0 p1 p2 p3 p4 HLL HXF
      clear hi
      subst hao
      go_wp2_with fail
      go_region_with (go_at_call 81; refine (HLL.out _).mono ?_; rintro e w9 ⟨h9, rfl, b9, fU⟩
                      have HV9 := Lib.hid (HV.out.step (undrew b9))
                      have HF9 := Lib.hid (fU (fun k => k = w.heap.size ∨ k = w.heap.size + 1) (fun k hk => by show k < wr.heap.size; omega) ⟨HV.out.firm.step (RanS.of_below (Below.refl _ _).drew), HXF.out.step (RanS.of_below (Below.refl _ _).drew)⟩)
                      have hlw9 : w.heap.size < w9.heap.size := (Array.getElem?_eq_some_iff.1 HV9.out.box).1
                      obtain ⟨d0, d1, d2, d3, d4⟩ := five_cells (show w9.heap[w.heap.size]? = some (.cells #[_, _, _, _, _] 42) from HV9.out.box)
                      obtain ⟨g0, g1, g2, g3, g4⟩ := five_free (show w9.heap[w.heap.size]? = some (.cells #[_, _, _, _, _] 42) from HV9.out.box)
                      clear b9 fU
                      dsimp only [Tm.val, Tm.vals])
      all_goals
        go_wp2_with fail
        go_roundw
        case rel => exact HNX.out _ h9 (HV9.out.put HF9.out)
        case measure => simp [intOf]; omega
    · have hl2 : l.take k = l := List.take_of_length_le (by omega)
      have HAP : Hid (Two w wr (appl f l) h) := Lib.hid (by have := HV.out; rwa [hl2] at this)
      rw [hl2] at c0 c1 c2 c3 c4
      clear hl2 HV
      obtain ⟨x, hx⟩ : ∃ x, x = appl f l := ⟨_, rfl⟩
      rw [← hx] at c0 c1 c2 c3 c4 HAP
      have HX := Lib.hid hx
      clear hx
      obtain ⟨d0, d1, d2, d3, d4⟩ := five_cells HAP.out.res
      obtain ⟨g0, g1, g2, g3, g4⟩ := five_free HAP.out.res
      go_wp2_with fail
      have h5 := putT_self HAP.out.res (.int .u8 x.k) (.int .i64 x.n) (.string x.s) (.slice h.lo x.ls.length h.lc) (.slice h.to x.ts.length h.tc)
      have r5 := putT_ran wr (w.heap.size + 1) (.int .u8 x.k) (.int .i64 x.n) (.string x.s) (.slice h.lo x.ls.length h.lc) (.slice h.to x.ts.length h.tc)
      unfold putT at h5 r5
      generalize hW : ((((wr.setCell ⟨w.heap.size + 1, 0, none⟩ (.int .u8 x.k)).setCell ⟨w.heap.size + 1, 1, none⟩ (.int .i64 x.n)).setCell ⟨w.heap.size + 1, 2, none⟩ (.string x.s)).setCell ⟨w.heap.size + 1, 3, none⟩ (.slice h.lo x.ls.length h.lc)).setCell ⟨w.heap.size + 1, 4, none⟩ (.slice h.to x.ts.length h.tc) = W4 at h5 r5 ⊢
      obtain ⟨e0, e1, e2, e3, e4⟩ := five_cells h5
      clear hW
      exact bodyPost_ret (v := x.val h) (by simp [results, Try.results44, go_sem, e0, e1, e2, e3, e4, Tm.val, Tm.vals]) rfl ⟨h, by rw [← HX.out], by rw [← HX.out]; exact HAP.out.firm _ (RanS.of_ran r5 (Or.inr rfl)), HAP.out.bel.trans (r5.below (B := w.heap.size) (by omega) (by omega))⟩

/-- What term.Apply answers. -/
def Trm.papp (f : Tm) (l : List Tm) : Tm := if (appl f l).may = true then appl f l else zeroTm

def Trm.PaRel (w : World) (f : Tm) (l : List Tm) (i : Value) (wr : World) : Prop :=
  ∃ (k : Nat) (h : Hd), i = .int .i64 k ∧ k ≤ l.length ∧ Two w wr (appl f (l.take k)) h

/-- The row of a new application behind the copy of its argument. -/
theorem Trm.Two.app {w wr : World} {x z : Tm} {h hz : Hd} (v : Two w wr x h) (hzf : FirmS (fun k => k = w.heap.size ∨ k = w.heap.size + 1) wr z hz) :
    Two w (((putT wr w.heap.size (.int .u8 4) (.int .i64 0) (.string no) (.slice none 0 0) (.slice (some ⟨wr.heap.size + 1, 0, none⟩) 2 2)).alloc (z.box hz)).alloc (.cells (x.vals h ++ z.vals hz) 42)) (t2 4 x z) ⟨none, 0, some ⟨wr.heap.size + 1, 0, none⟩, 2⟩ := by
  have hs := putT_size wr w.heap.size (.int .u8 4) (.int .i64 0) (.string no) (.slice none 0 0) (.slice (some ⟨wr.heap.size + 1, 0, none⟩) 2 2)
  have hl : w.heap.size + 1 < wr.heap.size := (Array.getElem?_eq_some_iff.1 v.res).1
  have hb := putT_below v.bel (B := w.heap.size) (Nat.le_refl _) (.int .u8 4) (.int .i64 0) (.string no) (.slice none 0 0) (.slice (some ⟨wr.heap.size + 1, 0, none⟩) 2 2)
  have hr : RanS (fun k => k = w.heap.size ∨ k = w.heap.size + 1) wr (((putT wr w.heap.size (.int .u8 4) (.int .i64 0) (.string no) (.slice none 0 0) (.slice (some ⟨wr.heap.size + 1, 0, none⟩) 2 2)).alloc (z.box hz)).alloc (.cells (x.vals h ++ z.vals hz) 42)) :=
    (RanS.of_ran (putT_ran _ _ _ _ _ _ _) (Or.inl rfl)).trans (RanS.of_below (below_two _ _ _))
  have hg := new2 (putT wr w.heap.size (.int .u8 4) (.int .i64 0) (.string no) (.slice none 0 0) (.slice (some ⟨wr.heap.size + 1, 0, none⟩) 2 2)) (z.box hz) (.cells (x.vals h ++ z.vals hz) 42)
  rw [hs] at hg
  exact ⟨Trm.go hb (below_two _ _ _), keepA (keepA (putT_self v.box _ _ _ _ _) _) _, keepA (keepA (putT_other v.res _ _ _ _ _ (by omega)) _) _, FirmS.t2 (by decide) (by decide) hg (by omega) (v.firm.step hr) (hzf.step hr)⟩

set_option maxRecDepth 100000 in
set_option maxHeartbeats 8000000 in
theorem PApply_any (f : Tm) (hf : Hd) (l : List Tm) (lo : Option Addr) (lc : Nat) (w : World) (hin : f.In w.heap.size w hf) (hl : RowIn w.heap.size w lo 0 l) (hn : l.length < 4096) :
    Calls Try.prog 45 #[f.val hf, .slice lo l.length lc] w (Made (papp f l) w) := by
  have HL := Lib.hid hl
  have HV0 := Lib.hid (show Two w _ (appl f (l.take 0)) hf from Two.start hin)
  clear hin hl
  unfold Tm.val
  dsimp only [Tm.vals]
  go_enter Try.func45, Try.ntmps45
  go_wp2_with fail
  go_loopw [13] (fun i wr => PaRel w f l i wr) (fun i _ => l.length - (intOf i).toNat)
  case atStart => exact ⟨0, hf, rfl, by omega, HV0.out⟩
  case round =>
    obtain ⟨k, h, rfl, hk, hvar⟩ := hrel
    have HV := Lib.hid hvar
    obtain ⟨c0, c1, c2, c3, c4⟩ := five_cells (show wr.heap[w.heap.size]? = some (.cells #[_, _, _, _, _] 42) from hvar.box)
    have hlw : w.heap.size + 1 < wr.heap.size := (Array.getElem?_eq_some_iff.1 hvar.res).1
    have hlw0 : w.heap.size < wr.heap.size := by omega
    obtain ⟨g0, g1, g2, g3, g4⟩ := five_free (show wr.heap[w.heap.size]? = some (.cells #[_, _, _, _, _] 42) from hvar.box)
    clear hvar
    by_cases hlt : k < l.length
    · obtain ⟨b, off, hao, hb, hx, ⟨p0, p1, p2, p3, p4⟩, hi⟩ := (HL.out.below HV.out.bel).place k hlt
      rw [Nat.zero_add] at p0 p1 p2 p3 p4
      have HXF := Lib.hid (show FirmS (fun k => k = w.heap.size ∨ k = w.heap.size + 1) wr l[k] hx from FirmS.of hi (fun k hk => by omega) HV.out.bel.size)
      have HNX : Hid (∀ wr' h', Two w wr' (t2 4 (appl f (l.take k)) l[k]) h' → PaRel w f l (.int .i64 ((k : Int) + 1)) wr') := Lib.hid (fun wr' h' hv => ⟨k + 1, h', by go_num, by omega, by rw [take_appl hlt]; exact hv⟩)
      have hbz : b < wr.heap.size := by omega
      generalize appl f (l.take k) = x at HV c0 c1 c2 c3 c4 HNX
      generalize l[k] = z at p0 p1 p2 p3 p4 HXF HNX
      clear hi
      subst hao
      go_wp2_with fail
      go_roundw
      case rel => exact HNX.out _ _ (HV.out.app HXF.out)
      case measure => simp [intOf]; omega
    · have hl2 : l.take k = l := List.take_of_length_le (by omega)
      have HAP : Hid (Two w wr (appl f l) h) := Lib.hid (by have := HV.out; rwa [hl2] at this)
      rw [hl2] at c0 c1 c2 c3 c4
      clear hl2 HV g0 g1 g2 g3 g4
      obtain ⟨x, hx⟩ : ∃ x, x = appl f l := ⟨_, rfl⟩
      rw [← hx] at c0 c1 c2 c3 c4 HAP
      have HM := Lib.hid (PMay_any x h wr HAP.out.firm.here)
      have HP : Hid (papp f l = if x.may = true then x else zeroTm) := Lib.hid (by unfold papp; rw [← hx])
      unfold Tm.val at HM
      dsimp only [Tm.vals] at HM
      clear hx
      cases hmay : x.may
      · rw [hmay] at HM HP
        clear hmay
        go_wp2_with fail
        refine HM.out.mono ?_
        rintro e w2 ⟨rfl, b2⟩
        have HT := Lib.hid (HAP.out.step b2)
        clear b2 c0 c1 c2 c3 c4
        obtain ⟨d0, d1, d2, d3, d4⟩ := five_cells HT.out.res
        obtain ⟨g0, g1, g2, g3, g4⟩ := five_free HT.out.res
        have hlw2 : w.heap.size + 1 < w2.heap.size := (Array.getElem?_eq_some_iff.1 HT.out.res).1
        go_wp2_with fail
        have h5 := putT_self HT.out.res (.int .u8 0) (.int .i64 0) (.string ⟨#[]⟩) (.slice none 0 0) (.slice none 0 0)
        have r5 := putT_ran w2 (w.heap.size + 1) (.int .u8 0) (.int .i64 0) (.string ⟨#[]⟩) (.slice none 0 0) (.slice none 0 0)
        unfold putT at h5 r5
        generalize hW : ((((w2.setCell ⟨w.heap.size + 1, 0, none⟩ (.int .u8 0)).setCell ⟨w.heap.size + 1, 1, none⟩ (.int .i64 0)).setCell ⟨w.heap.size + 1, 2, none⟩ (.string ⟨#[]⟩)).setCell ⟨w.heap.size + 1, 3, none⟩ (.slice none 0 0)).setCell ⟨w.heap.size + 1, 4, none⟩ (.slice none 0 0) = W4 at h5 r5 ⊢
        obtain ⟨e0, e1, e2, e3, e4⟩ := five_cells h5
        clear hW
        exact bodyPost_ret (v := zeroTm.val ⟨none, 0, none, 0⟩) (by simp [results, Try.results45, go_sem, e0, e1, e2, e3, e4, Tm.val, Tm.vals, zeroTm, Tm.k, Tm.n, Tm.s, Tm.ls, Tm.ts, no]) rfl ⟨⟨none, 0, none, 0⟩, by rw [HP.out]; rfl, by rw [HP.out]; exact leaf_in (by decide) (by decide) (by decide) (by decide) (by decide), HT.out.bel.trans (r5.below (B := w.heap.size) (by omega) (by omega))⟩
      · rw [hmay] at HM HP
        clear hmay
        go_wp2_with fail
        refine HM.out.mono ?_
        rintro e w2 ⟨rfl, b2⟩
        have HT := Lib.hid (HAP.out.step b2)
        clear b2 c0 c1 c2 c3 c4
        obtain ⟨c0, c1, c2, c3, c4⟩ := five_cells (show w2.heap[w.heap.size]? = some (.cells #[_, _, _, _, _] 42) from HT.out.box)
        obtain ⟨d0, d1, d2, d3, d4⟩ := five_cells HT.out.res
        obtain ⟨g0, g1, g2, g3, g4⟩ := five_free HT.out.res
        have hlw2 : w.heap.size + 1 < w2.heap.size := (Array.getElem?_eq_some_iff.1 HT.out.res).1
        go_wp2_with fail
        have h5 := putT_self HT.out.res (.int .u8 x.k) (.int .i64 x.n) (.string x.s) (.slice h.lo x.ls.length h.lc) (.slice h.to x.ts.length h.tc)
        have r5 := putT_ran w2 (w.heap.size + 1) (.int .u8 x.k) (.int .i64 x.n) (.string x.s) (.slice h.lo x.ls.length h.lc) (.slice h.to x.ts.length h.tc)
        unfold putT at h5 r5
        generalize hW : ((((w2.setCell ⟨w.heap.size + 1, 0, none⟩ (.int .u8 x.k)).setCell ⟨w.heap.size + 1, 1, none⟩ (.int .i64 x.n)).setCell ⟨w.heap.size + 1, 2, none⟩ (.string x.s)).setCell ⟨w.heap.size + 1, 3, none⟩ (.slice h.lo x.ls.length h.lc)).setCell ⟨w.heap.size + 1, 4, none⟩ (.slice h.to x.ts.length h.tc) = W4 at h5 r5 ⊢
        obtain ⟨e0, e1, e2, e3, e4⟩ := five_cells h5
        clear hW
        exact bodyPost_ret (v := x.val h) (by simp [results, Try.results45, go_sem, e0, e1, e2, e3, e4, Tm.val, Tm.vals]) rfl ⟨h, by rw [HP.out]; rfl, by rw [HP.out]; exact HT.out.firm _ (RanS.of_ran r5 (Or.inr rfl)), HT.out.bel.trans (r5.below (B := w.heap.size) (by omega) (by omega))⟩
end Go.Proofs.Ytnchanacembgfaa
