/-
  What a parameter of layer 3's laws is: a term.
-/
import Derived.Test.YtijdlihodpodjaaTrmIn
import Derived.OpenShut
import Derived.ChangeArms
import Derived.DataReads
namespace Go.Proofs.Ytijdlihodpodjaa
open Go.RowKit Go.Shelf Lvl Trm

section
variable {H : Type} {enc : TypeId × Value → H} {w : World} {base : Nat} {sp : Nat → Bool} {hd : Bool}

set_option maxRecDepth 100000 in
/-- Cells that read as a level. -/
theorem Trm.open_level {fuel : Nat} {cs : List Value} {x : DataW H × List MemPlace} (h : DataW.trod enc Try.prog w base sp hd fuel 83 cs = some x) :
    ∃ l : Lv, cs = [.int .i64 l.c, .int .i64 l.p0, .int .i64 l.p1, .int .i64 l.p2, .int .i64 l.p3] := by
  have hC : Try.prog.cellsOf 83 = 5 := by kernel_rfl
  have hI : Try.prog.cellsOf 3 = 1 := by kernel_rfl
  have hA : Try.prog.cellsOf 81 = 4 := by kernel_rfl
  obtain ⟨xs, n, _, _, hl, hxs, hf⟩ := DataW.trod_struct Try.underlying83 h
  rw [hC] at hl
  match cs, hl with
  | [v0, v1, v2, v3, v4], _ =>
    have g0 : DataW.trod enc Try.prog w base sp hd n 3 (([v0, v1, v2, v3, v4].drop 0).take (Try.prog.cellsOf 3)) = xs[0]? := hf 0 _ rfl
    have g1 : DataW.trod enc Try.prog w base sp hd n 81 (([v0, v1, v2, v3, v4].drop 1).take (Try.prog.cellsOf 81)) = xs[1]? := hf 1 _ rfl
    rw [hI] at g0
    rw [hA] at g1
    rw [List.getElem?_eq_getElem (by rw [hxs]; decide)] at g0 g1
    obtain ⟨z, hz, _, _⟩ := DataW.trod_int Try.underlying3 g0
    obtain ⟨ys, m, _, _, _, hys, ha⟩ := DataW.trod_array Try.underlying81 g1
    have a0 := ha 0 (by omega)
    have a1 := ha 1 (by omega)
    have a2 := ha 2 (by omega)
    have a3 := ha 3 (by omega)
    rw [hI] at a0 a1 a2 a3
    rw [List.getElem?_eq_getElem (by omega)] at a0 a1 a2 a3
    obtain ⟨z0, h0, _, _⟩ := DataW.trod_int Try.underlying3 a0
    obtain ⟨z1, h1, _, _⟩ := DataW.trod_int Try.underlying3 a1
    obtain ⟨z2, h2, _, _⟩ := DataW.trod_int Try.underlying3 a2
    obtain ⟨z3, h3, _, _⟩ := DataW.trod_int Try.underlying3 a3
    simp at hz h0 h1 h2 h3
    subst hz h0 h1 h2 h3
    exact ⟨⟨z, z0, z1, z2, z3⟩, rfl⟩

theorem Trm.add_none (b o i : Nat) : (⟨b, o, none⟩ : Addr).add i = ⟨b, o + i, none⟩ := by
  unfold Addr.add
  split
  · rename_i h; rw [h]; rfl
  · rfl
theorem Trm.add_zero (a : Addr) : a.add 0 = a := by simp [Addr.add]

set_option maxRecDepth 100000 in
/-- A slice that reads as levels. -/
theorem Trm.open_levels {fuel : Nat} {cs : List Value} {x : DataW H × List MemPlace} (h : DataW.trod enc Try.prog w base sp hd fuel 22 cs = some x) :
    ∃ (lo : Option Addr) (lc : Nat) (ls : List Lv), cs = [.slice lo ls.length lc] ∧ LRow w lo ls ∧ Low w.heap.size lo ls.length ∧ ls.length ≤ 9223372036854775807 := by
  have hC : Try.prog.cellsOf 83 = 5 := by kernel_rfl
  rcases DataW.trod_slice Try.underlying22 h with ⟨rfl, _⟩ | ⟨a, len, cap, elems, rest, n, _, rfl, _, _, hlc, hcm, hel, hall, _⟩
  · exact ⟨none, 0, [], rfl, ⟨fun k hk => by simp at hk⟩, fun hn => by simp at hn, by simp⟩
  · rw [hC] at hall
    have hnone : 0 < len → a.spot = none := fun h0 => by
      have hi' := hall 0 h0
      rw [List.getElem?_eq_getElem (by omega)] at hi'
      obtain ⟨cs, hcs, ht⟩ := Option.bind_eq_some_iff.1 hi'
      obtain ⟨_, _, hcell⟩ := World.cells?_some hcs
      obtain ⟨l, rfl⟩ := open_level ht
      have h0 := hcell 0 (by omega)
      rw [Nat.zero_mul, add_zero, add_zero] at h0
      exact World.cell?_spot (show w.cell? a = some (.int .i64 l.c) from h0)
    have key : ∀ i, i < len → ∃ l : Lv, ∃ b off, a = ⟨b, off, none⟩ ∧ LAt w b (off + i * 5) l := fun i hi => by
      have hi' := hall i hi
      rw [List.getElem?_eq_getElem (by omega)] at hi'
      obtain ⟨cs, hcs, ht⟩ := Option.bind_eq_some_iff.1 hi'
      obtain ⟨_, _, hcell⟩ := World.cells?_some hcs
      obtain ⟨l, rfl⟩ := open_level ht
      have hs := hnone (by omega)
      obtain ⟨b, off, spot⟩ := a
      dsimp only at hs
      subst hs
      simp only [add_none] at hcell
      exact ⟨l, b, off, rfl, hcell 0 (by omega), hcell 1 (by omega), hcell 2 (by omega), hcell 3 (by omega), hcell 4 (by omega)⟩
    have key2 : ∃ ls : List Lv, ls.length = len ∧ ∀ k (hk : k < ls.length), ∃ b off, a = ⟨b, off, none⟩ ∧ LAt w b (off + k * 5) ls[k] := by
      refine ⟨(List.range len).pmap (fun i hi => Classical.choose (key i hi)) (fun i hi => by simpa using hi), by simp, fun k hk => ?_⟩
      have hk' : k < len := by simpa using hk
      obtain ⟨b, off, ha, hl⟩ := Classical.choose_spec (key k hk')
      exact ⟨b, off, ha, by simpa using hl⟩
    obtain ⟨ls, rfl, hls⟩ := key2
    refine ⟨some a, cap, ls, rfl, ⟨fun k hk => ?_⟩, fun hn a' ha' => ?_, ?_⟩
    · obtain ⟨b, off, rfl, hl⟩ := hls k hk
      exact ⟨b, off, rfl, hl⟩
    · obtain ⟨b, off, rfl, hl⟩ := hls 0 hn
      cases ha'
      exact World.block_lt_of_cell? w _ hl.1
    · have : maxLen = 9223372036854775807 := rfl
      omega

set_option maxRecDepth 100000 in
/-- Cells that read as a term. -/
theorem Trm.open_term : ∀ (fuel : Nat) (cs : List Value) (x : DataW H × List MemPlace), DataW.trod enc Try.prog w base sp hd fuel 25 cs = some x →
    ∃ (t : Tm) (h : Hd), cs = (t.vals h).toList ∧ t.In w.heap.size w h := by
  have hC : Try.prog.cellsOf 25 = 5 := by kernel_rfl
  have hI : Try.prog.cellsOf 3 = 1 := by kernel_rfl
  have hU : Try.prog.cellsOf 5 = 1 := by kernel_rfl
  have hS : Try.prog.cellsOf 9 = 1 := by kernel_rfl
  have hL : Try.prog.cellsOf 22 = 1 := by kernel_rfl
  have hT : Try.prog.cellsOf 23 = 1 := by kernel_rfl
  intro fuel
  induction fuel using Nat.strongRecOn with
  | _ fuel ih =>
    intro cs x h
    obtain ⟨xs, n, hfu, _, hl, hxs, hf⟩ := DataW.trod_struct Try.underlying25 h
    rw [hC] at hl
    match cs, hl with
    | [v0, v1, v2, v3, v4], _ =>
      have g0 : DataW.trod enc Try.prog w base sp hd n 5 (([v0, v1, v2, v3, v4].drop 0).take (Try.prog.cellsOf 5)) = xs[0]? := hf 0 _ rfl
      rw [hU] at g0
      have g1 : DataW.trod enc Try.prog w base sp hd n 3 (([v0, v1, v2, v3, v4].drop 1).take (Try.prog.cellsOf 3)) = xs[1]? := hf 1 _ rfl
      rw [hI] at g1
      have g2 : DataW.trod enc Try.prog w base sp hd n 9 (([v0, v1, v2, v3, v4].drop 2).take (Try.prog.cellsOf 9)) = xs[2]? := hf 2 _ rfl
      rw [hS] at g2
      have g3 : DataW.trod enc Try.prog w base sp hd n 22 (([v0, v1, v2, v3, v4].drop 3).take (Try.prog.cellsOf 22)) = xs[3]? := hf 3 _ rfl
      rw [hL] at g3
      have g4 : DataW.trod enc Try.prog w base sp hd n 23 (([v0, v1, v2, v3, v4].drop 4).take (Try.prog.cellsOf 23)) = xs[4]? := hf 4 _ rfl
      rw [hT] at g4
      have hx5 : xs.length = 5 := hxs
      rw [List.getElem?_eq_getElem (by omega)] at g0 g1 g2 g3 g4
      obtain ⟨k, hk, _, wk⟩ := DataW.trod_int Try.underlying5 g0
      obtain ⟨m, hm, _, wm⟩ := DataW.trod_int Try.underlying3 g1
      obtain ⟨s, hs, _, hss⟩ := DataW.trod_string Try.underlying9 g2
      obtain ⟨lo, lc, ls, hls, hrow, hlow, hlen⟩ := open_levels g3
      have hts : ∃ (to : Option Addr) (tc : Nat) (ts : List Tm), [v4] = [.slice to ts.length tc] ∧ RowIn w.heap.size w to 0 ts ∧ ts.length ≤ 9223372036854775807 := by
        rcases DataW.trod_slice Try.underlying23 g4 with ⟨he, _⟩ | ⟨a, len, cap, elems, rest, n', hn', he, _, _, hlc, hcm, hel, hall, _⟩
        · exact ⟨none, 0, [], he, by rw [RowIn]; trivial, by simp⟩
        · rw [hC] at hall
          have hnone : 0 < len → a.spot = none := fun h0 => by
            have hi' := hall 0 h0
            rw [List.getElem?_eq_getElem (by omega)] at hi'
            obtain ⟨cs, hcs, ht⟩ := Option.bind_eq_some_iff.1 hi'
            obtain ⟨_, _, hcell⟩ := World.cells?_some hcs
            obtain ⟨t, h', rfl, hin⟩ := ih n' (by omega) cs _ ht
            have h0 := hcell 0 (by omega)
            rw [Nat.zero_mul, add_zero, add_zero] at h0
            exact World.cell?_spot (show w.cell? a = some (.int .u8 t.k) from h0)
          have key : ∀ i, i < len → ∃ t : Tm, ∃ b off, a = ⟨b, off, none⟩ ∧ TAt w.heap.size w b (off + i * 5) t := fun i hi => by
            have hi' := hall i hi
            rw [List.getElem?_eq_getElem (by omega)] at hi'
            obtain ⟨cs, hcs, ht⟩ := Option.bind_eq_some_iff.1 hi'
            obtain ⟨_, _, hcell⟩ := World.cells?_some hcs
            obtain ⟨t, h', rfl, hin⟩ := ih n' (by omega) cs _ ht
            have hs := hnone (by omega)
            obtain ⟨b, off, spot⟩ := a
            dsimp only at hs
            subst hs
            simp only [add_none] at hcell
            have h0 : w.cell? ⟨b, off + i * 5, none⟩ = some (.int .u8 t.k) := hcell 0 (by omega)
            exact ⟨t, b, off, rfl, World.block_lt_of_cell? w _ h0, h', ⟨h0, hcell 1 (by omega), hcell 2 (by omega), hcell 3 (by omega), hcell 4 (by omega)⟩, hin⟩
          have key2 : ∃ ts : List Tm, ts.length = len ∧ ∀ k (hk : k < ts.length), ∃ b off, a = ⟨b, off, none⟩ ∧ TAt w.heap.size w b (off + k * 5) ts[k] := by
            refine ⟨(List.range len).pmap (fun i hi => Classical.choose (key i hi)) (fun i hi => by simpa using hi), by simp, fun k hk => ?_⟩
            have hk' : k < len := by simpa using hk
            obtain ⟨b, off, ha, hl⟩ := Classical.choose_spec (key k hk')
            exact ⟨b, off, ha, by simpa using hl⟩
          obtain ⟨ts, rfl, hts⟩ := key2
          refine ⟨some a, cap, ts, he, RowIn.mk fun k hk => ?_, ?_⟩
          · obtain ⟨b, off, rfl, hl⟩ := hts k hk
            exact ⟨b, off, rfl, by simpa using hl⟩
          · have : maxLen = 9223372036854775807 := rfl
            omega
      obtain ⟨to, tc, ts, ht4, hrin, htl⟩ := hts
      simp at hk hm hs hls ht4
      subst hk hm hs hls ht4
      refine ⟨.mk k m s ls ts, ⟨lo, lc, to, tc⟩, rfl, Tm.In_iff.2 ⟨⟨?_, ?_, ?_, ?_, ?_, hlen, htl⟩, hrow, hlow, hrin⟩⟩
      · simp [Lit.wf, IntKind.min, IntKind.max, IntKind.signed, IntKind.bits] at wk; exact wk.1
      · simp [Lit.wf, IntKind.min, IntKind.max, IntKind.signed, IntKind.bits] at wk; exact wk.2
      · simp [Lit.wf, IntKind.min, IntKind.max, IntKind.signed, IntKind.bits] at wm; exact wm.1
      · simp [Lit.wf, IntKind.min, IntKind.max, IntKind.signed, IntKind.bits] at wm; exact wm.2
      · exact hss
end

/-- A slice that reads as terms. -/
theorem Trm.open_terms {H : Type} {enc : TypeId × Value → H} {w : World} {base : Nat} {sp : Nat → Bool} {hd : Bool} {a : Option Addr} {len cap : Nat} {d : DataW H} {p : List MemPlace} (h : DataW.Trod enc Try.prog w base sp hd 23 (.slice a len cap) d p) :
    ∃ ts : List Tm, len = ts.length ∧ RowIn w.heap.size w a 0 ts := by
  have hC : Try.prog.cellsOf 25 = 5 := by kernel_rfl
  obtain ⟨fuel, hf⟩ := h
  rcases DataW.trod_slice Try.underlying23 hf with ⟨he, _⟩ | ⟨a', len', cap', elems, rest, n', hn', he, _, _, hlc, hcm, hel, hall, _⟩
  · simp [Value.cells] at he
    obtain ⟨rfl, rfl, rfl⟩ := he
    exact ⟨[], rfl, by rw [RowIn]; trivial⟩
  · simp [Value.cells] at he
    obtain ⟨rfl, rfl, rfl⟩ := he
    rw [hC] at hall
    have hnone : 0 < len → a'.spot = none := fun h0 => by
      have hi' := hall 0 h0
      rw [List.getElem?_eq_getElem (by omega)] at hi'
      obtain ⟨cs, hcs, ht⟩ := Option.bind_eq_some_iff.1 hi'
      obtain ⟨_, _, hcell⟩ := World.cells?_some hcs
      obtain ⟨t, h', rfl, hin⟩ := open_term _ cs _ ht
      have h0 := hcell 0 (by omega)
      rw [Nat.zero_mul, add_zero, add_zero] at h0
      exact World.cell?_spot (show w.cell? a' = some (.int .u8 t.k) from h0)
    have key : ∀ i, i < len → ∃ t : Tm, ∃ b off, a' = ⟨b, off, none⟩ ∧ TAt w.heap.size w b (off + i * 5) t := fun i hi => by
      have hi' := hall i hi
      rw [List.getElem?_eq_getElem (by omega)] at hi'
      obtain ⟨cs, hcs, ht⟩ := Option.bind_eq_some_iff.1 hi'
      obtain ⟨_, _, hcell⟩ := World.cells?_some hcs
      obtain ⟨t, h', rfl, hin⟩ := open_term _ cs _ ht
      have hs := hnone (by omega)
      obtain ⟨b, off, spot⟩ := a'
      dsimp only at hs
      subst hs
      simp only [add_none] at hcell
      have h0 : w.cell? ⟨b, off + i * 5, none⟩ = some (.int .u8 t.k) := hcell 0 (by omega)
      exact ⟨t, b, off, rfl, World.block_lt_of_cell? w _ h0, h', ⟨h0, hcell 1 (by omega), hcell 2 (by omega), hcell 3 (by omega), hcell 4 (by omega)⟩, hin⟩
    have key2 : ∃ ts : List Tm, ts.length = len ∧ ∀ k (hk : k < ts.length), ∃ b off, a' = ⟨b, off, none⟩ ∧ TAt w.heap.size w b (off + k * 5) ts[k] := by
      refine ⟨(List.range len).pmap (fun i hi => Classical.choose (key i hi)) (fun i hi => by simpa using hi), by simp, fun k hk => ?_⟩
      have hk' : k < len := by simpa using hk
      obtain ⟨b, off, ha, hl⟩ := Classical.choose_spec (key k hk')
      exact ⟨b, off, ha, by simpa using hl⟩
    obtain ⟨ts, hts0, hts⟩ := key2
    refine ⟨ts, hts0.symm, RowIn.mk fun k hk => ?_⟩
    obtain ⟨b, off, rfl, hl⟩ := hts k hk
    exact ⟨b, off, rfl, by simpa using hl⟩

/-- An argument's term. -/
theorem Trm.open_arg {H : Type} {enc : TypeId × Value → H} {w : World} {base : Nat} {sp : Nat → Bool} {hd : Bool} {v : Value} {d : DataW H} {p : List MemPlace} (h : DataW.Trod enc Try.prog w base sp hd 25 v d p) :
    ∃ (t : Tm) (h : Hd), v = t.val h ∧ t.In w.heap.size w h := by
  obtain ⟨fuel, hf⟩ := h
  obtain ⟨t, h, hc, hin⟩ := open_term _ _ _ hf
  refine ⟨t, h, ?_, hin⟩
  have hl : v.cells.toList.length = 5 := by rw [hc]; simp [Tm.vals]
  cases v with
  | agg cs =>
    have : cs = t.vals h := by
      have hcs : cs.toList = (t.vals h).toList := hc
      exact Array.toList_inj.1 hcs
    rw [this]; rfl
  | _ => simp [Value.cells] at hl
end Go.Proofs.Ytijdlihodpodjaa
