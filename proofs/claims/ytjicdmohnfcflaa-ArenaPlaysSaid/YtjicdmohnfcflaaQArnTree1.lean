/-
  slices.Grow of no terms; slices.Clone of levels; a node of terms that stand in a row of one's own.
-/
import Derived.Test.YtjicdmohnfcflaaQArnPut
import Derived.Lib.AppendZeros
namespace Go.Proofs.Ytjicdmohnfcflaa
open Go.RowKit Go.Shelf Go.Maps Lvl Trm Arn

set_option maxRecDepth 100000 in
set_option maxHeartbeats 2000000 in
theorem Grow_any (n : Nat) (hn : n ≤ 3) (w : World) : Calls Try.prog 45 #[.slice none 0 0, .int .i64 n] w fun e w' =>
    ∃ ao cp, e = .returned (.slice ao 0 cp) ∧ w'.ownsRow w.heap.size 26 5 (.slice ao 0 cp) 0 [] ∧ Below w.heap.size w w' := by
  by_cases h0 : n = 0
  · subst h0
    go_enter Try.func45, Try.ntmps45
    go_wp2_with fail
    go_ret
    exact ⟨_, _, rfl, World.ownsRow_nil _ _ _ _, Below.refl _ _⟩
  · obtain ⟨i0, hi, hz0, hz1, hz2⟩ := info_parts infoT
    have hrun := Lib.run_append_nil_zeros (P := Try.prog) w 22 3 22 26 i0 _ .i64 .i64 Try.underlying22 Try.underlying3 hi hz0 n (by omega) (by omega) (by omega) (by rw [hz2]; omega)
    obtain ⟨cap, hcap⟩ : ∃ cap, cap = grownCap w n 0 26 := ⟨_, rfl⟩
    obtain ⟨W1, hW1⟩ : ∃ W1, W1 = w.drew.alloc (.cells (Builtin.zeroCells (Value.agg #[.int .u8 0, .int .i64 0, .string ⟨#[]⟩, .slice none 0 0, .slice none 0 0]).cells n ++ Builtin.zeroCells (Value.agg #[.int .u8 0, .int .i64 0, .string ⟨#[]⟩, .slice none 0 0, .slice none 0 0]).cells (grownCap w n 0 26 - n)) 26) := ⟨_, rfl⟩
    have hrun2 : (Builtin.append_ #[22, 3] 22 #[.slice none 0 0, .int .i64 n]).run Try.prog w = .ok (.slice (some ⟨w.heap.size, 0, none⟩) n cap) W1 := by rw [hrun, hcap, hW1]
    have HR := Lib.hid hrun2
    have HB := Lib.hid (show Below w.heap.size w W1 from hW1 ▸ (Below.refl _ _).drew.alloc (Nat.le_refl _) _)
    have hge : n ≤ cap := hcap ▸ grownCap_ge w n 0 _
    have HO : Hid (W1.ownsRow w.heap.size 26 5 (.slice (some ⟨w.heap.size, 0, none⟩) 0 cap) 0 []) := Lib.hid ⟨rfl, .inr ⟨w.heap.size, cap, _, rfl, Nat.le_refl _, hW1 ▸ World.alloc_heap_new w.drew _, Nat.zero_le _, hcap ▸ grownCap_le_maxLen w n 0 _ (by unfold maxLen; omega), (by
      rw [Array.size_append, size_zeroCells, size_zeroCells, ← hcap]
      show n * 5 + (cap - n) * 5 = cap * 5
      omega), by simp⟩⟩
    have hgi : (n : Int) ≤ (cap : Int) := by omega
    clear hrun hrun2 hW1 hcap
    rcases (show n = 1 ∨ n = 2 ∨ n = 3 by omega) with rfl | rfl | rfl
    all_goals
      go_enter Try.func45, Try.ntmps45
      go_wp2_with (at_builtin; refine Lib.wpList_append_run _ rfl _ _ _ _ rfl _ _ rfl rfl _ _ HR.out ?_)
      go_ret
      exact ⟨_, _, rfl, HO.out, HB.out⟩

set_option maxRecDepth 100000 in
set_option maxHeartbeats 2000000 in
theorem CloneL_any (ls : List Lv) (ad : Addr) (cp : Nat) (w : World) (hr : LRow w (some ad) ls) (h0 : 0 < ls.length) (h3 : ls.length ≤ 4) : Calls Try.prog 44 #[.slice (some ad) ls.length cp] w fun e w' =>
    ∃ ao' cp', e = .returned (.slice ao' ls.length cp') ∧ LRow w' ao' ls ∧ (∀ x, ao' = some x → w.heap.size ≤ x.block ∧ x.block < w'.heap.size ∧ Room w' x (ls.length * 5)) ∧ Below w.heap.size w w' := by
  have q24 : ∀ (w : World) (a : Option Addr) (n c n' c' : Nat), (binOp .eql 24 (.slice a n c) (.slice none n' c')).run Try.prog w = .ok (.bool a.isNone) w := fun w a n c n' c' => Lib.run_eql_slice_nil w _ _ a n c n' c' Try.underlying24
  have HL := Lib.hid (show LRow (w.alloc (.cells #[] 63)) (some ad) ls from hr.below (below_one w _))
  clear hr
  go_enter Try.func44, Try.ntmps44
  go_wp2_with (at_builtin; refine wpList_append_levels rfl _ _ rfl rfl (some ad) cp ls rfl (by omega) (fun e => by cases e) HL.out ?_; intro v' w2 hp2 hb2)
  have HB2 := Lib.hid hb2
  obtain ⟨ao', cap', rfl, hr2, hl2⟩ := hp2
  have HR2 := Lib.hid hr2
  have HL2 := Lib.hid hl2
  clear hb2 hr2 hl2
  go_wp2_with fail
  go_ret
  exact ⟨ao', cap', rfl, HR2.out, HL2.out, HB2.out⟩

/-- A row of one's own, of terms that lie there whatever is written into the blocks of P: a node of them, with levels that are none of P's. -/
theorem Arn.firm_own {P : Nat → Prop} {base : Nat} {w : World} {v : Value} {ps : List (Tm × Hd)} {k n : Int} {s : ByteArray} {ls : List Lv} {lo : Option Addr} {lc : Nat}
    (hown : w.ownsRow base 26 5 v ps.length (flat ps)) (hk0 : 0 ≤ k) (hk1 : k ≤ 255) (hn0 : -9223372036854775808 ≤ n) (hn1 : n ≤ 9223372036854775807) (hs : s.size ≤ 9223372036854775807) (hl : ls.length ≤ 9223372036854775807)
    (hls : LRow w lo ls) (hlo : ∀ a, lo = some a → ¬ P a.block ∧ a.block < w.heap.size) (hPb : ∀ q, P q → q < base) (hf : ∀ p ∈ ps, FirmS P w p.1 p.2) (hn : ps.length ≤ 1000000) :
    ∃ to tc, v = .slice to ps.length tc ∧ FirmS P w (.mk k n s ls (ps.map (·.1))) ⟨lo, lc, to, tc⟩ := by
  have hlr : ∀ w', RanS P w w' → LRow w' lo ls ∧ Low w'.heap.size lo ls.length := fun w' hr => by
    refine ⟨⟨fun j hj => ?_⟩, fun _ a ha => Nat.lt_of_lt_of_le (hlo a ha).2 hr.size⟩
    obtain ⟨b, off, hao, h0, h1, h2, h3, h4⟩ := hls.place j hj
    have hq1 : ¬ P b := (hlo _ hao).1
    have hq2 : b < w.heap.size := (hlo _ hao).2
    exact ⟨b, off, hao, (hr.cell (p := ⟨b, _, none⟩) hq2 hq1).trans h0, (hr.cell (p := ⟨b, _, none⟩) hq2 hq1).trans h1, (hr.cell (p := ⟨b, _, none⟩) hq2 hq1).trans h2, (hr.cell (p := ⟨b, _, none⟩) hq2 hq1).trans h3, (hr.cell (p := ⟨b, _, none⟩) hq2 hq1).trans h4⟩
  obtain ⟨hfl, ⟨rfl, hn0'⟩ | ⟨g, cap, cur, rfl, hbg, hgb, _⟩⟩ := hown
  · have hps := List.eq_nil_of_length_eq_zero hn0'
    subst hps
    exact ⟨none, 0, rfl, fun w' hr => Tm.In_iff.2 ⟨⟨hk0, hk1, hn0, hn1, hs, hl, by simp [Tm.ts]⟩, (hlr w' hr).1, (hlr w' hr).2, RowIn.mk fun i hi => by simp [Tm.ts] at hi⟩⟩
  · have hown : w.ownsRow base 26 5 (.slice (some ⟨g, 0, none⟩) ps.length cap) ps.length (flat ps) := ⟨hfl, Or.inr ⟨g, cap, cur, rfl, hbg, hgb, ‹_›⟩⟩
    obtain ⟨hg2, _, htb⟩ := block_of_own hown
    have hgl := htb.lt
    refine ⟨some ⟨g, 0, none⟩, cap, rfl, fun w' hr => Tm.In_iff.2 ⟨⟨hk0, hk1, hn0, hn1, hs, hl, by simp [Tm.ts]; omega⟩, (hlr w' hr).1, (hlr w' hr).2, ?_⟩⟩
    exact TBlock.row (htb.ranS hr (fun hp => by have := hPb _ hp; omega)) (by have := hr.size; omega) (fun p hp => hf p hp w' hr)
/-- A node's levels, as a row. -/
theorem Arn.node_row {L : List Tm} {t : Tm} {W : World} {g q : Nat} (h4 : t.ls.length ≤ 4) (hc : ∀ (j : Nat) (u : Value), (nodeT L t)[j]? = some u → W.cell? ⟨g, q * 31 + j, none⟩ = some u) : LRow W (some ⟨g, q * 31 + 4, none⟩) t.ls := by
  refine ⟨fun k hk => ⟨g, q * 31 + 4, rfl, ?_⟩⟩
  have key : pad t.ls k = t.ls[k] := by
    unfold pad
    rw [List.getD_eq_getElem?_getD, List.getElem?_eq_getElem hk]
    rfl
  rw [← key]
  have e : ∀ i, q * 31 + 4 + k * 5 + i = q * 31 + (4 + k * 5 + i) := fun i => by omega
  have e0 : q * 31 + 4 + k * 5 = q * 31 + (4 + k * 5) := by omega
  unfold LAt
  rw [e, e, e, e, e0]
  rcases (show k = 0 ∨ k = 1 ∨ k = 2 ∨ k = 3 by omega) with rfl | rfl | rfl | rfl
  · exact ⟨hc 4 _ rfl, hc 5 _ rfl, hc 6 _ rfl, hc 7 _ rfl, hc 8 _ rfl⟩
  · exact ⟨hc 9 _ rfl, hc 10 _ rfl, hc 11 _ rfl, hc 12 _ rfl, hc 13 _ rfl⟩
  · exact ⟨hc 14 _ rfl, hc 15 _ rfl, hc 16 _ rfl, hc 17 _ rfl, hc 18 _ rfl⟩
  · exact ⟨hc 19 _ rfl, hc 20 _ rfl, hc 21 _ rfl, hc 22 _ rfl, hc 23 _ rfl⟩
end Go.Proofs.Ytjicdmohnfcflaa

