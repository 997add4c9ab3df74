/-
  arena: Size, Deep, Free, Kids; Get where there is none.
-/
import Derived.Test.YtjicdmohnfcflaaQArnPut
namespace Go.Proofs.Ytjicdmohnfcflaa
open Go.RowKit Go.Shelf Go.Maps Lvl Trm Arn

theorem Arn.zero_cells {w : World} {b : Nat} (h : Zero w b) : w.cell? ⟨b, 24, none⟩ = some (.int .i64 0) ∧ w.cell? ⟨b, 28, none⟩ = some (.int .i64 0) ∧ w.cell? ⟨b, 29, none⟩ = some (.int .i64 0) ∧ w.cell? ⟨b, 30, none⟩ = some (.int .i64 0) := by
  refine ⟨?_, ?_, ?_, ?_⟩ <;> (rw [cell_of_row w b _ _ _ _ h]; rfl)

set_option maxRecDepth 100000 in
theorem ASize_nil (n : Int) (w : World) : Calls Try.prog 18 #[.pointer none, .int .i64 n] w fun e w' => e = .returned (.int .i64 0) ∧ Below w.heap.size w w' := by
  go_enter Try.func18, Try.ntmps18
  go_wp2_with fail
  refine (at_nil n _).mono ?_
  rintro e w1 ⟨b, rfl, hz, b1⟩
  obtain ⟨_, z28, z29, z30⟩ := zero_cells hz
  have HB := Lib.hid b1
  clear b1 hz
  go_wp2_with fail
  go_ret
  exact ⟨rfl, HB.out⟩
set_option maxRecDepth 100000 in
theorem ASize_none {w : World} {A : Nat} {L : List Tm} {v : Value} {mo : Option Nat} (h : Ar w A L v mo) (n : Int) (hn : n < 0 ∨ (L.length : Int) ≤ n) : Calls Try.prog 18 #[.pointer (some ⟨A, 0, none⟩), .int .i64 n] w fun e w' => e = .returned (.int .i64 0) ∧ Below w.heap.size w w' := by
  have HA := Lib.hid (at_none h n hn)
  clear h hn
  go_enter Try.func18, Try.ntmps18
  go_wp2_with fail
  refine HA.out.mono ?_
  rintro e w1 ⟨b, rfl, hz, b1⟩
  obtain ⟨_, z28, z29, z30⟩ := zero_cells hz
  have HB := Lib.hid b1
  clear b1 hz
  go_wp2_with fail
  go_ret
  exact ⟨rfl, HB.out⟩
set_option maxRecDepth 100000 in
theorem ASize_some {w : World} {A : Nat} {L : List Tm} {v : Value} {mo : Option Nat} (h : Ar w A L v mo) {i : Nat} (hi : i < L.length) : Calls Try.prog 18 #[.pointer (some ⟨A, 0, none⟩), .int .i64 i] w fun e w' => e = .returned (.int .i64 (L[i].size)) ∧ Below w.heap.size w w' := by
  have HA := Lib.hid (at_some h hi)
  obtain ⟨X, hX⟩ : ∃ X, X = L[i].size := ⟨_, rfl⟩
  rw [← hX]
  have HX := Lib.hid hX
  clear h hX
  go_enter Try.func18, Try.ntmps18
  go_wp2_with fail
  refine HA.out.mono ?_
  rintro e w1 ⟨g, rfl, ho, hc, hg, b1⟩
  have c1 : w1.cell? ⟨g, i * 31 + 28, none⟩ = some (.int .i64 X) := (b1.cell (p := ⟨g, i * 31 + 28, none⟩) hg).trans (by rw [hc 28 _ rfl, HX.out])
  have HB := Lib.hid b1
  clear b1 hc ho hg
  go_wp2_with fail
  go_ret
  exact ⟨rfl, HB.out⟩

set_option maxRecDepth 100000 in
theorem ADeep_nil (n : Int) (w : World) : Calls Try.prog 19 #[.pointer none, .int .i64 n] w fun e w' => e = .returned (.int .i64 0) ∧ Below w.heap.size w w' := by
  go_enter Try.func19, Try.ntmps19
  go_wp2_with fail
  refine (at_nil n _).mono ?_
  rintro e w1 ⟨b, rfl, hz, b1⟩
  obtain ⟨_, z28, z29, z30⟩ := zero_cells hz
  have HB := Lib.hid b1
  clear b1 hz
  go_wp2_with fail
  go_ret
  exact ⟨rfl, HB.out⟩
set_option maxRecDepth 100000 in
theorem ADeep_none {w : World} {A : Nat} {L : List Tm} {v : Value} {mo : Option Nat} (h : Ar w A L v mo) (n : Int) (hn : n < 0 ∨ (L.length : Int) ≤ n) : Calls Try.prog 19 #[.pointer (some ⟨A, 0, none⟩), .int .i64 n] w fun e w' => e = .returned (.int .i64 0) ∧ Below w.heap.size w w' := by
  have HA := Lib.hid (at_none h n hn)
  clear h hn
  go_enter Try.func19, Try.ntmps19
  go_wp2_with fail
  refine HA.out.mono ?_
  rintro e w1 ⟨b, rfl, hz, b1⟩
  obtain ⟨_, z28, z29, z30⟩ := zero_cells hz
  have HB := Lib.hid b1
  clear b1 hz
  go_wp2_with fail
  go_ret
  exact ⟨rfl, HB.out⟩
set_option maxRecDepth 100000 in
theorem ADeep_some {w : World} {A : Nat} {L : List Tm} {v : Value} {mo : Option Nat} (h : Ar w A L v mo) {i : Nat} (hi : i < L.length) : Calls Try.prog 19 #[.pointer (some ⟨A, 0, none⟩), .int .i64 i] w fun e w' => e = .returned (.int .i64 (L[i].ht)) ∧ Below w.heap.size w w' := by
  have HA := Lib.hid (at_some h hi)
  obtain ⟨X, hX⟩ : ∃ X, X = L[i].ht := ⟨_, rfl⟩
  rw [← hX]
  have HX := Lib.hid hX
  clear h hX
  go_enter Try.func19, Try.ntmps19
  go_wp2_with fail
  refine HA.out.mono ?_
  rintro e w1 ⟨g, rfl, ho, hc, hg, b1⟩
  have c1 : w1.cell? ⟨g, i * 31 + 29, none⟩ = some (.int .i64 X) := (b1.cell (p := ⟨g, i * 31 + 29, none⟩) hg).trans (by rw [hc 29 _ rfl, HX.out])
  have HB := Lib.hid b1
  clear b1 hc ho hg
  go_wp2_with fail
  go_ret
  exact ⟨rfl, HB.out⟩

set_option maxRecDepth 100000 in
theorem AFree_nil (n : Int) (w : World) : Calls Try.prog 20 #[.pointer none, .int .i64 n] w fun e w' => e = .returned (.int .i64 0) ∧ Below w.heap.size w w' := by
  go_enter Try.func20, Try.ntmps20
  go_wp2_with fail
  refine (at_nil n _).mono ?_
  rintro e w1 ⟨b, rfl, hz, b1⟩
  obtain ⟨_, z28, z29, z30⟩ := zero_cells hz
  have HB := Lib.hid b1
  clear b1 hz
  go_wp2_with fail
  go_ret
  exact ⟨rfl, HB.out⟩
set_option maxRecDepth 100000 in
theorem AFree_none {w : World} {A : Nat} {L : List Tm} {v : Value} {mo : Option Nat} (h : Ar w A L v mo) (n : Int) (hn : n < 0 ∨ (L.length : Int) ≤ n) : Calls Try.prog 20 #[.pointer (some ⟨A, 0, none⟩), .int .i64 n] w fun e w' => e = .returned (.int .i64 0) ∧ Below w.heap.size w w' := by
  have HA := Lib.hid (at_none h n hn)
  clear h hn
  go_enter Try.func20, Try.ntmps20
  go_wp2_with fail
  refine HA.out.mono ?_
  rintro e w1 ⟨b, rfl, hz, b1⟩
  obtain ⟨_, z28, z29, z30⟩ := zero_cells hz
  have HB := Lib.hid b1
  clear b1 hz
  go_wp2_with fail
  go_ret
  exact ⟨rfl, HB.out⟩
set_option maxRecDepth 100000 in
theorem AFree_some {w : World} {A : Nat} {L : List Tm} {v : Value} {mo : Option Nat} (h : Ar w A L v mo) {i : Nat} (hi : i < L.length) : Calls Try.prog 20 #[.pointer (some ⟨A, 0, none⟩), .int .i64 i] w fun e w' => e = .returned (.int .i64 (L[i].free)) ∧ Below w.heap.size w w' := by
  have HA := Lib.hid (at_some h hi)
  obtain ⟨X, hX⟩ : ∃ X, X = L[i].free := ⟨_, rfl⟩
  rw [← hX]
  have HX := Lib.hid hX
  clear h hX
  go_enter Try.func20, Try.ntmps20
  go_wp2_with fail
  refine HA.out.mono ?_
  rintro e w1 ⟨g, rfl, ho, hc, hg, b1⟩
  have c1 : w1.cell? ⟨g, i * 31 + 30, none⟩ = some (.int .i64 X) := (b1.cell (p := ⟨g, i * 31 + 30, none⟩) hg).trans (by rw [hc 30 _ rfl, HX.out])
  have HB := Lib.hid b1
  clear b1 hc ho hg
  go_wp2_with fail
  go_ret
  exact ⟨rfl, HB.out⟩

/-- The slice at this address, as long as ns, reads as ns. -/
structure Arn.IRow (w : World) (ao : Option Addr) (ns : List Nat) : Prop where
  place : ∀ k (h : k < ns.length), ∃ b off, ao = some ⟨b, off, none⟩ ∧ w.cell? ⟨b, off + k, none⟩ = some (.int .i64 (ns[k] : Nat))
theorem infoInt : (Try.prog.info? 3).map (fun i => (i.zero, i.size, i.bytes)) = some (some (.int .i64 0), 1, 8) := by kernel_rfl
def Arn.ints (ns : List Nat) : List Value := ns.map fun n => .int .i64 (n : Nat)
theorem Arn.ints_one (ns : List Nat) : ∀ u ∈ ints ns, u.oneCell' = true := by
  intro u hu
  obtain ⟨n, _, rfl⟩ := List.mem_map.1 hu
  rfl
theorem Arn.IRow.below {w0 w1 : World} {ao : Option Addr} {ns : List Nat} (h : IRow w0 ao ns) (g : Below w0.heap.size w0 w1) : IRow w1 ao ns := by
  refine ⟨fun k hk => ?_⟩
  obtain ⟨b, off, hao, ha⟩ := h.place k hk
  exact ⟨b, off, hao, (g.cell (p := ⟨b, off + k, none⟩) (World.block_lt_of_cell? w0 _ ha)).trans ha⟩
set_option maxRecDepth 100000 in
theorem CloneI_nil (w : World) : Calls Try.prog 36 #[.slice none 0 0] w fun e w' => e = .returned (.slice none 0 0) ∧ Below w.heap.size w w' := by
  have q23 : ∀ (w : World) (a : Option Addr) (n c n' c' : Nat), (binOp .eql 23 (.slice a n c) (.slice none n' c')).run Try.prog w = .ok (.bool a.isNone) w := fun w a n c n' c' => Lib.run_eql_slice_nil w _ _ a n c n' c' Try.underlying23
  go_enter Try.func36, Try.ntmps36
  go_wp2_with fail
  go_ret
  exact ⟨rfl, Below.refl _ _⟩
set_option maxRecDepth 100000 in
set_option maxHeartbeats 2000000 in
theorem CloneI_any (ns : List Nat) (ad : Addr) (cp : Nat) (w : World) (hr : IRow w (some ad) ns) (h0 : 0 < ns.length) (h3 : ns.length ≤ 3) : Calls Try.prog 36 #[.slice (some ad) ns.length cp] w fun e w' => ∃ ao' cp', e = .returned (.slice ao' ns.length cp') ∧ IRow w' ao' ns ∧ (∀ x, ao' = some x → w.heap.size ≤ x.block) ∧ Below w.heap.size w w' := by
  obtain ⟨i0, hi, hz0, hz1, hz2⟩ := info_parts infoInt
  obtain ⟨b, off, hao, _⟩ := hr.place 0 h0
  injection hao with hao
  subst hao
  have HS := Lib.hid (fun (j : Nat) (u : Value) (hu : (ints ns)[j]? = some u) => show (w.alloc (.cells #[] 3)).cell? ((⟨b, off, none⟩ : Addr).add j) = some u from by
    have hj := (List.getElem?_eq_some_iff.1 hu).1
    unfold ints at hj
    rw [List.length_map] at hj
    obtain ⟨b2, off2, hao2, hc⟩ := hr.place j hj
    injection hao2 with hao2
    injection hao2 with e1 e2
    subst e1 e2
    rw [Addr.add_mid, World.cell?_alloc_lt _ _ _ (World.block_lt_of_cell? w _ hc), hc]
    unfold ints at hu
    rw [List.getElem?_map, List.getElem?_eq_getElem hj] at hu
    simpa using hu)
  have hbl : b < w.heap.size := by
    obtain ⟨b2, off2, hao2, hc⟩ := hr.place 0 h0
    injection hao2 with hao2
    injection hao2 with e1 e2
    subst e1
    exact World.block_lt_of_cell? w _ hc
  clear hr
  have q23 : ∀ (w : World) (a : Option Addr) (n c n' c' : Nat), (binOp .eql 23 (.slice a n c) (.slice none n' c')).run Try.prog w = .ok (.bool a.isNone) w := fun w a n c n' c' => Lib.run_eql_slice_nil w _ _ a n c n' c' Try.underlying23
  go_enter Try.func36, Try.ntmps36
  go_wp2_with (at_builtin; refine wpList_append_own _ rfl _ _ 23 rfl w.heap.size 3 i0 _ 1 8 Try.underlying23 hi hz0 hz1 hz2 rfl (by decide) _ 0 [] rfl (World.ownsRow_made w #[] 0 (Nat.le_refl _) (Nat.zero_le _) (by simp)) ⟨b, off, none⟩ ns.length cp (ints ns) rfl (by simp [ints]) HS.out (ints_one ns) (by unfold maxLen; omega) (by omega) (by simp) ?_; intro v' w2 hown2 hgrow2 _)
  have HO2 := Lib.hid hown2
  have HB2 := Lib.hid (show Below w.heap.size w w2 from (below_one w _).trans ⟨hgrow2.os, hgrow2.tape, hgrow2.output, hgrow2.size, fun k hk => hgrow2.block k (by rw [World.size_alloc]; omega) (fun e => by injection e with e; have e2 : k = w.heap.size := e; omega)⟩)
  clear hown2 hgrow2
  rcases HO2.out.2 with ⟨hv, h00⟩ | ⟨g, cap, cur, hv, hbg, hg, hn, hm, hsz, htk⟩
  · omega
  · subst hv
    go_wp2_with fail
    go_ret
    refine ⟨some ⟨g, 0, none⟩, cap, by simp, ⟨fun k hk => ⟨g, 0, rfl, ?_⟩⟩, fun x hx => by cases hx; exact hbg, HB2.out⟩
    have h1 : (ints ns)[k]? = some (.int .i64 (ns[k] : Nat)) := by unfold ints; rw [List.getElem?_map, List.getElem?_eq_getElem hk]; rfl
    have h2 := HO2.out.cells (g := g) rfl k (.int .i64 (ns[k] : Nat)) (by rw [List.nil_append]; exact h1)
    rw [Addr.add_mid] at h2
    exact h2
set_option maxRecDepth 100000 in
theorem AKids_nil (n : Int) (w : World) : Calls Try.prog 16 #[.pointer none, .int .i64 n] w fun e w' => e = .returned (.tuple #[.slice none 0 0, .int .i64 2]) ∧ Below w.heap.size w w' := by
  go_enter Try.func16, Try.ntmps16
  go_wp2_with fail
  refine (at_nil n _).mono ?_
  rintro e w1 ⟨b, rfl, hz, b1⟩
  have HK := Lib.hid (kids_none (g := b) (o := 0) (by rw [Nat.zero_add]; exact (zero_cells hz).1))
  have HB := Lib.hid b1
  clear b1 hz
  go_wp2_with fail
  refine HK.out.mono ?_
  rintro e w2 ⟨rfl, b2⟩
  have HB2 := Lib.hid (Trm.go HB.out b2)
  clear b2
  go_wp2_with fail
  refine (CloneI_nil _).mono ?_
  rintro e w3 ⟨rfl, b3⟩
  have HB3 := Lib.hid (Trm.go HB2.out b3)
  clear b3
  go_wp2_with fail
  exact bodyPost_ret (v := .tuple #[.slice none 0 0, .int .i64 2]) (by simp [results, Try.results16, go_sem]) rfl ⟨rfl, HB3.out⟩
set_option maxRecDepth 100000 in
theorem AKids_none {w : World} {A : Nat} {L : List Tm} {v : Value} {mo : Option Nat} (h : Ar w A L v mo) (n : Int) (hn : n < 0 ∨ (L.length : Int) ≤ n) : Calls Try.prog 16 #[.pointer (some ⟨A, 0, none⟩), .int .i64 n] w fun e w' => e = .returned (.tuple #[.slice none 0 0, .int .i64 6]) ∧ Below w.heap.size w w' := by
  have HA := Lib.hid (at_none h n hn)
  clear h hn
  go_enter Try.func16, Try.ntmps16
  go_wp2_with fail
  refine HA.out.mono ?_
  rintro e w1 ⟨b, rfl, hz, b1⟩
  have HK := Lib.hid (kids_none (g := b) (o := 0) (by rw [Nat.zero_add]; exact (zero_cells hz).1))
  have HB := Lib.hid b1
  clear b1 hz
  go_wp2_with fail
  refine HK.out.mono ?_
  rintro e w2 ⟨rfl, b2⟩
  have HB2 := Lib.hid (Trm.go HB.out b2)
  clear b2
  go_wp2_with fail
  refine (CloneI_nil _).mono ?_
  rintro e w3 ⟨rfl, b3⟩
  have HB3 := Lib.hid (Trm.go HB2.out b3)
  clear b3
  go_wp2_with fail
  exact bodyPost_ret (v := .tuple #[.slice none 0 0, .int .i64 6]) (by simp [results, Try.results16, go_sem]) rfl ⟨rfl, HB3.out⟩
/-- What Kids answers of a number that is there. -/
def Arn.KidsPost (L : List Tm) (x : Tm) (w : World) (e : Ending) (w' : World) : Prop := ∃ ao cp, e = .returned (.tuple #[.slice ao x.ts.length cp, .int .i64 0]) ∧ IRow w' ao (nums L x) ∧ (∀ a, ao = some a → w.heap.size ≤ a.block) ∧ Below w.heap.size w w'
set_option maxRecDepth 100000 in
set_option maxHeartbeats 2000000 in
theorem AKids_some {w : World} {A : Nat} {L : List Tm} {v : Value} {mo : Option Nat} (h : Ar w A L v mo) {i : Nat} (hi : i < L.length) : Calls Try.prog 16 #[.pointer (some ⟨A, 0, none⟩), .int .i64 i] w (KidsPost L L[i] w) := by
  have HA := Lib.hid (at_some h hi)
  have hl3 : L[i].ts.length ≤ 3 := (node_few (may_node (h.ok.may _ (List.getElem_mem hi)))).2.1
  obtain ⟨x, hx⟩ : ∃ x, x = L[i] := ⟨_, rfl⟩
  rw [← hx] at hl3 HA ⊢
  clear h hx
  go_enter Try.func16, Try.ntmps16
  go_wp2_with fail
  refine HA.out.mono ?_
  rintro e w1 ⟨g, rfl, ho, hc, hg, b1⟩
  have hcell := fun (W : World) (hW : Below w.heap.size w W) (j : Nat) (u : Value) (hu : (nodeT L x)[j]? = some u) => (hW.cell (p := ⟨g, i * 31 + j, none⟩) hg).trans (hc j u hu)
  have HCL := Lib.hid hcell
  have HB := Lib.hid b1
  have HP := Lib.hid (fun (j : Nat) (hj : j < x.ts.length) => part_at (L := L) hl3 hj)
  have hlen : (nums L x).length = x.ts.length := by unfold nums; rw [List.length_map]
  have HL := Lib.hid hlen
  clear b1 hc ho hcell hlen
  by_cases h0 : x.ts.length = 0
  · have HK := Lib.hid (kids_none (g := g) (o := i * 31) (w := w1) (by rw [HCL.out w1 HB.out 24 _ rfl, h0]; rfl))
    go_wp2_with fail
    refine HK.out.mono ?_
    rintro e w2 ⟨rfl, b2⟩
    have HB2 := Lib.hid (Trm.go HB.out b2)
    clear b2
    go_wp2_with fail
    refine (CloneI_nil _).mono ?_
    rintro e w3 ⟨rfl, b3⟩
    have HB3 := Lib.hid (Trm.go HB2.out b3)
    clear b3
    have HE : Hid (KidsPost L x w (.returned (.tuple #[.slice none 0 0, .int .i64 0])) w3) := Lib.hid ⟨none, 0, by rw [h0], ⟨fun k hk => by rw [HL.out] at hk; omega⟩, fun a ha => (by cases ha), HB3.out⟩
    go_wp2_with fail
    exact bodyPost_ret (v := .tuple #[.slice none 0 0, .int .i64 0]) (by simp [results, Try.results16, go_sem]) rfl HE.out
  · have HK := Lib.hid (kids_some (g := g) (o := i * 31) (w := w1) (HCL.out w1 HB.out 24 _ rfl) h0 hl3)
    go_wp2_with fail
    refine HK.out.mono ?_
    rintro e w2 ⟨rfl, b2⟩
    have HB2 := Lib.hid (Trm.go HB.out b2)
    clear b2
    have hrow : IRow w2 (some ⟨g, i * 31 + 25, none⟩) (nums L x) := ⟨fun k hk => ⟨g, i * 31 + 25, rfl, by
      rw [HL.out] at hk
      have h1 := HCL.out w2 HB2.out (25 + k) (.int .i64 (num L x.ts[k] : Nat)) (by
        have := HP.out k hk
        unfold nodeT
        rw [List.getElem?_append_left (by rw [show (keyT L x).length = 28 from rfl]; omega)]
        exact this)
      rw [show i * 31 + 25 + k = i * 31 + (25 + k) by omega, h1]
      simp [nums]⟩⟩
    have HCI := Lib.hid (CloneI_any (nums L x) ⟨g, i * 31 + 25, none⟩ 3 w2 hrow (by rw [HL.out]; omega) (by rw [HL.out]; exact hl3))
    rw [HL.out] at HCI
    clear hrow h0
    go_wp2_with fail
    refine HCI.out.mono ?_
    rintro e w3 ⟨ao', cp', rfl, hr3, hao3, b3⟩
    have HE : Hid (KidsPost L x w (.returned (.tuple #[.slice ao' x.ts.length cp', .int .i64 0])) w3) := Lib.hid ⟨ao', cp', rfl, hr3, fun a ha => Nat.le_trans HB2.out.size (hao3 a ha), Trm.go HB2.out b3⟩
    clear b3 hr3 hao3
    go_wp2_with fail
    exact bodyPost_ret (v := .tuple #[.slice ao' x.ts.length cp', .int .i64 0]) (by simp [results, Try.results16, go_sem]) rfl HE.out

def Arn.zeroVal : Value := .agg #[.int .u8 0, .int .i64 0, .string ⟨#[]⟩, .slice none 0 0, .slice none 0 0]
set_option maxRecDepth 100000 in
set_option maxHeartbeats 2000000 in
theorem AGet_nil (n : Int) (w : World) : Calls Try.prog 13 #[.pointer none, .int .i64 n] w fun e w' => e = .returned (.tuple #[zeroVal, .int .i64 2]) ∧ Below w.heap.size w w' := by
  have HN := Lib.hid (fun (W : World) => at_nil n W)
  go_enter Try.func13, Try.ntmps13
  go_wp2_with fail
  refine (HN.out _).mono ?_
  rintro e w1 ⟨b, rfl, hz, b1⟩
  have HK := Lib.hid (Lvl.keep b1 (World.alloc_heap_new w _))
  have HB := Lib.hid (Trm.go (below_one w _) b1)
  obtain ⟨c0, c1, c2, c3, c4⟩ := five_cells HK.out
  obtain ⟨f0, f1, f2, f3, f4⟩ := five_free HK.out
  clear b1 hz HN
  go_wp2_with fail
  have h5 := putT_self HK.out (.int .u8 0) (.int .i64 0) (.string ⟨#[]⟩) (.slice none 0 0) (.slice none 0 0)
  have b5 := putT_below HB.out (Nat.le_refl _) (.int .u8 0) (.int .i64 0) (.string ⟨#[]⟩) (.slice none 0 0) (.slice none 0 0)
  unfold putT at h5 b5
  obtain ⟨e0, e1, e2, e3, e4⟩ := five_cells h5
  exact bodyPost_ret (v := .tuple #[zeroVal, .int .i64 2]) (by simp [results, Try.results13, go_sem, e0, e1, e2, e3, e4, zeroVal]) rfl ⟨rfl, b5⟩
set_option maxRecDepth 100000 in
set_option maxHeartbeats 2000000 in
theorem AGet_none {w : World} {A : Nat} {L : List Tm} {v : Value} {mo : Option Nat} (h : Ar w A L v mo) (n : Int) (hn : n < 0 ∨ (L.length : Int) ≤ n) : Calls Try.prog 13 #[.pointer (some ⟨A, 0, none⟩), .int .i64 n] w fun e w' => e = .returned (.tuple #[zeroVal, .int .i64 6]) ∧ Below w.heap.size w w' := by
  have HN := Lib.hid (fun (o : Obj) => at_none (h.alloc o) n hn)
  clear h hn
  go_enter Try.func13, Try.ntmps13
  go_wp2_with fail
  refine (HN.out _).mono ?_
  rintro e w1 ⟨b, rfl, hz, b1⟩
  have HK := Lib.hid (Lvl.keep b1 (World.alloc_heap_new w _))
  have HB := Lib.hid (Trm.go (below_one w _) b1)
  obtain ⟨c0, c1, c2, c3, c4⟩ := five_cells HK.out
  obtain ⟨f0, f1, f2, f3, f4⟩ := five_free HK.out
  clear b1 hz HN
  go_wp2_with fail
  have h5 := putT_self HK.out (.int .u8 0) (.int .i64 0) (.string ⟨#[]⟩) (.slice none 0 0) (.slice none 0 0)
  have b5 := putT_below HB.out (Nat.le_refl _) (.int .u8 0) (.int .i64 0) (.string ⟨#[]⟩) (.slice none 0 0) (.slice none 0 0)
  unfold putT at h5 b5
  obtain ⟨e0, e1, e2, e3, e4⟩ := five_cells h5
  exact bodyPost_ret (v := .tuple #[zeroVal, .int .i64 6]) (by simp [results, Try.results13, go_sem, e0, e1, e2, e3, e4, zeroVal]) rfl ⟨rfl, b5⟩
end Go.Proofs.Ytjicdmohnfcflaa

