/-
  arena.add: what is missing gets the next number.
-/
import Derived.Test.YtjicdmohnfcflaaQArnAddM
import Derived.Test.YtjicdmohnfcflaaQArnCount
import Derived.Deep.RegionHeld3
namespace Go.Proofs.Ytjicdmohnfcflaa
open Go.RowKit Go.Shelf Go.Maps Lvl Trm Arn

theorem infoNode : (Try.prog.info? 75).map (fun i => (i.zero, i.size, i.bytes)) = some (some (.agg #[.string ⟨#[]⟩, .int .u8 0, .int .i64 0, .int .i64 0, .int .i64 0, .int .i64 0, .int .i64 0, .int .i64 0, .int .i64 0, .int .i64 0, .int .i64 0, .int .i64 0, .int .i64 0, .int .i64 0, .int .i64 0, .int .i64 0, .int .i64 0, .int .i64 0, .int .i64 0, .int .i64 0, .int .i64 0, .int .i64 0, .int .i64 0, .int .i64 0, .int .i64 0, .int .i64 0, .int .i64 0, .int .i64 0, .int .i64 0, .int .i64 0, .int .i64 0]), 31, 256) := by kernel_rfl
theorem eqlSome5 (bm : Nat) (w : World) : (binOp .eql 54 (.map (some bm)) (.map none)).run Try.prog w = .ok (.bool false) w := by kernel_rfl
theorem eqlNil5 (w : World) : (binOp .eql 54 (.map none) (.map none)).run Try.prog w = .ok (.bool true) w := by kernel_rfl
theorem exec_load_row {P : Program} {op : Oper} {a : Act} {w : World} (ty : TypeId) (x : Operand) (ho : op.op = .load ty x) (g : Nat) (hx : a.eval x = .pointer (some ⟨g, 0, none⟩)) (t : TypeId) (cs : Array Value) (fr : Nat × Nat) (d : TypeDesc) (hg : w.heap[g]? = some (.cells cs t fr))
    (hu : P.underlying ty = some d) (hd : (match d with | .struct _ | .array _ _ => true | _ => false) = true) (hi : (P.info? ty).map (·.size) = some cs.size) : (execOp a.eval op).run P w = .ok (Next.value (.agg cs)) w := by
  unfold execOp
  simp only [ho, hx, Instr.loadAt, Instr.sureAddr, Sem.run_bind, Sem.run_pure, Result.andThen_ok, run_loadVar_row w g t ty cs fr d hg hu hd hi]
theorem run_loadAt_row {P : Program} (w : World) (g : Nat) (t ty : TypeId) (cs : Array Value) {fr : Nat × Nat} {d : TypeDesc} (hg : w.heap[g]? = some (.cells cs t fr))
    (hu : P.underlying ty = some d) (hd : (match d with | .struct _ | .array _ _ => true | _ => false) = true) (hi : (P.info? ty).map (·.size) = some cs.size) : (Instr.loadAt ty (.pointer (some ⟨g, 0, none⟩))).run P w = .ok (.agg cs) w := by
  simp only [Instr.loadAt, Instr.sureAddr, Sem.run_bind, Sem.run_pure, Result.andThen_ok, run_loadVar_row w g t ty cs fr d hg hu hd hi]
theorem Arn.nodeT_one (L : List Tm) (t : Tm) : ∀ u ∈ nodeT L t, u.oneCell' = true := by
  intro u hu
  simp [nodeT, keyT, keyN, keyL, lvC] at hu
  rcases hu with rfl | rfl | rfl | rfl | rfl | rfl | rfl | rfl | rfl | rfl | rfl | rfl | rfl | rfl | rfl | rfl | rfl | rfl | rfl | rfl | rfl | rfl | rfl | rfl | rfl | rfl | rfl | rfl | rfl | rfl | rfl <;> rfl

set_option maxRecDepth 100000 in
set_option maxHeartbeats 8000000 in
theorem add_any {w : World} {A : Nat} {L : List Tm} {v : Value} {mo : Option Nat} (h : Ar w A L v mo) (t : Tm) (hm : t.may = true) (hp : ∀ y ∈ t.ts, y ∈ L) (hn : t ∉ L) (hf1 : L.length ≤ 200000) :
    Calls Try.prog 29 #[.pointer (some ⟨A, 0, none⟩), .agg (keyT L t).toArray] w fun e w' => e = .returned (.tuple #[.int .i64 L.length, .bool true]) ∧ Moved A v mo (L ++ [t]) w w' := by
  have HAR := Lib.hid h
  have HM := Lib.hid hm
  have HP := Lib.hid hp
  have HN := Lib.hid hn
  have hf2 : L.length ≤ 1000000 := Nat.le_trans hf1 (by decide)
  have hfi : (L.length : Int) ≤ 200000 := by omega
  have hk2 : Hid ((Try.prog.info? 73).map (·.size) = some (keyT L t).toArray.size) := Lib.hid (by kernel_rfl)
  have hq1 : Hid (L.length + 1 ≤ maxLen) := Lib.hid (by unfold maxLen; omega)
  have hq2 : Hid ((L.length + 1) * 256 ≤ 140737488355328) := Lib.hid (by omega)
  obtain ⟨i0, hi, hz0, hz1, hz2⟩ := info_parts infoNode
  obtain ⟨ao, cap, rfl⟩ := h.slice
  have hAl := h.lt A (Or.inl rfl)
  have HKA : Hid (w.heap.size ≠ A) := Lib.hid (by omega)
  have HKV : Hid (some w.heap.size ≠ (Value.slice ao L.length cap).ownBlock) := Lib.hid (fun e => by have := (h.row.lt _ e.symm).2; omega)
  have hge : decide ((262144 : Int) ≤ (L.length : Int)) = false := decide_eq_false (by omega)
  have HF1 := Lib.hid hf1
  have HF2 := Lib.hid hf2
  have HFI := Lib.hid hfi
  clear hm hp hn hf1 hf2 hfi
  go_enter Try.func29, Try.ntmps29
  go_upto_region 1 with fail
  obtain ⟨W0, hW0⟩ : ∃ W0, W0 = w.alloc (.cells (keyT L t).toArray 73) := ⟨_, rfl⟩
  have B0 := Lib.hid (show Below w.heap.size w W0 from hW0 ▸ below_one _ _)
  have hK4 : W0.heap[w.heap.size]? = some (.cells (keyT L t).toArray 73) := hW0 ▸ World.alloc_heap_new w _
  have hz0' : W0.heap.size = w.heap.size + 1 := by rw [hW0]; simp
  have HZ := Lib.hid hz0'
  rw [show w.alloc (.cells (keyT L t).toArray 73) = W0 from hW0.symm]
  clear hW0 hz0'
  have HA0 := Lib.hid (h.below B0.out (Nat.le_refl _))
  obtain ⟨a0, a1⟩ := two_cells HA0.out.box
  have HMAP := Lib.hid h.map
  clear h
  go_upto_region 4 with fail
  rcases HMAP.out with ⟨rfl, hL⟩ | ⟨m, D, rfl, hown, htied⟩
  · have f1 := (two_free HA0.out.box).2
    have hA0 : A < W0.heap.size := (Array.getElem?_eq_some_iff.1 HA0.out.box).1
    have hmm := @run_makeMap Try.prog
    have hqn := eqlNil5
    have HLN := Lib.hid hL
    clear hL
    go_upto_region 6 with fail
    obtain ⟨m, hm0⟩ : ∃ m, m = W0.heap.size := ⟨_, rfl⟩
    rw [← hm0]
    obtain ⟨W4, hW4⟩ : ∃ W4, W4 = (W0.setCell ⟨A, 1, none⟩ (.map (some m))).alloc (.map #[] 0) := ⟨_, rfl⟩
    rw [← hW4]
    have hAm : A ≠ m := by rw [hm0]; omega
    have hmA : m ≠ A := fun e => hAm e.symm
    have hsz : (W0.setCell ⟨A, 1, none⟩ (.map (some m))).heap.size = W0.heap.size := by simp [World.setCell]
    have hboxa : W4.heap[A]? = some (.cells #[.slice ao L.length cap, .map (some m)] 56) := by
      rw [hW4]
      refine keepA ?_ _
      simp [World.setCell, Array.getElem?_modify, HA0.out.box]
    have hnew : (W0.alloc (.map #[] 0)).heap[m]? = some (.map #[] 0) := hm0 ▸ World.alloc_heap_new W0 _
    have hes : W4.heap[m]? = some (.map #[] 0) := by
      have := World.alloc_heap_new (W0.setCell ⟨A, 1, none⟩ (.map (some m))) (.map #[] 0)
      rw [hsz, ← hm0] at this
      rw [hW4]; exact this
    have hother : ∀ q, q < W0.heap.size → q ≠ A → W4.heap[q]? = W0.heap[q]? := fun q hq hn => by
      rw [hW4]
      exact ((below_one _ _).block q (by rw [hsz]; exact hq)).trans (RowKit.Below.heap_setCell _ _ _ _ hn)
    have hownlt : ∀ q, (Value.slice ao L.length cap).ownBlock = some q → q < w.heap.size := fun q hq => (HAR.out.row.lt q hq).2
    have HB4 : Hid (ArB W4 A L (.slice ao L.length cap) (some m)) := Lib.hid ⟨hboxa, ownsRow_same HA0.out.row (fun q hq => hother q (by have := hownlt q hq; have := HZ.out; omega) (fun e => HA0.out.apart (e ▸ hq))), HA0.out.apart, HA0.out.ok⟩
    have HMP := Lib.hid (ownsMap_same (w' := W4) ((World.ownsMap_made W0 Try.prog 73 (plainElem Try.prog 3)).mono (Nat.zero_le L.length)) (by rw [← hm0, hes, hnew]))
    rw [← hm0] at HMP
    obtain ⟨D, hD⟩ : ∃ D : DataW Unit, D = .map [] := ⟨_, rfl⟩
    rw [← hD] at HMP
    have HTI : Hid (Tied D (L.map (kl L))) := Lib.hid (by rw [hD, HLN.out]; exact Tied.nil)
    have HEM : Hid (∃ es c, W4.heap[m]? = some (.map es c)) := Lib.hid ⟨_, _, hes⟩
    have HMA : Hid (some A ≠ some m) := Lib.hid (fun e => by injection e with e; exact hAm e)
    have HMV : Hid (∀ q, (Value.slice ao L.length cap).ownBlock = some q → some q ≠ some m) := Lib.hid (fun q hq e => by injection e with e; have := hownlt q hq; have := HZ.out; omega)
    have HKM : Hid (some w.heap.size ≠ some m) := Lib.hid (fun e => by injection e with e; have := HZ.out; omega)
    have HM4 : Hid (own A (.slice ao L.length cap) none m ∨ w.heap.size ≤ m) := Lib.hid (Or.inr (by have := HZ.out; omega))
    have HR4 : Hid (RanS (own A (.slice ao L.length cap) none) w W4) := Lib.hid (by rw [hW4]; exact ((RanS.of_below B0.out).trans (set_ran _ _ _ _ (Or.inl rfl))).trans (RanS.of_below (below_one _ _)))
    have hK4' : W4.heap[w.heap.size]? = some (.cells (keyT L t).toArray 73) := (hother w.heap.size (by have := HZ.out; omega) HKA.out).trans hK4
    clear hD hownlt hother hes hnew hboxa hsz hA0 hmA hAm hW4 hm0 HMAP HA0 hK4 f1 hmm hqn a0 a1
    have hK4 := hK4'
    clear hK4'
    have HK4 := Lib.hid hK4
    obtain ⟨W5, hrun, hown5, hgrow⟩ := (show W4.drew.ownsMap Try.prog 73 (plainElem Try.prog 3) m L.length D from HMP.out).update lawK Try.underlying54 (by unfold maxLen; have := HF1.out; omega) (kl_some (may_node HM.out) HF2.out) (plainElem_int Try.underlying3 (wf_i64 (n := (L.length : Int)) (by omega) (by have := HFI.out; omega)))
    have HG5 := Lib.hid (show W4.grownBy W5 (some m) from ⟨hgrow.os, hgrow.tape, hgrow.output, hgrow.size, hgrow.block⟩)
    have HOW5 := Lib.hid hown5
    have HA5 := Lib.hid ((HG5.out.block A (Array.getElem?_eq_some_iff.1 HB4.out.box).1 HMA.out).trans HB4.out.box)
    have HK5 := Lib.hid ((HG5.out.block w.heap.size (Array.getElem?_eq_some_iff.1 HK4.out).1 HKM.out).trans HK4.out)
    have HB5 := Lib.hid (HB4.out.same (HG5.out.block A (Array.getElem?_eq_some_iff.1 HB4.out.box).1 HMA.out) (fun q hq => HG5.out.block q (HB4.out.row.lt q hq).2 (HMV.out q hq)))
    have HAL := Lib.hid (Array.getElem?_eq_some_iff.1 HA5.out).1
    have HKL := Lib.hid (Array.getElem?_eq_some_iff.1 HK5.out).1
    have HCT := Lib.hid (fun (W : World) (hW : Below W5.heap.size W5 W) => counted_any (HB5.out.below hW (Nat.le_refl _)) t HM.out HP.out)
    have HFIN := Lib.hid (fun (wc w6 : World) (g1 cap1 : Nat) bc h6 g6 hat hlt => add_done (W4 := W4) (W5 := W5) (wc := wc) (w6 := w6) (g' := g1) (cap' := cap1) HAR.out HM.out HP.out HN.out HF1.out HB4.out HM4.out HR4.out HTI.out HG5.out HEM.out HOW5.out bc h6 g6 hat hlt)
    clear hown5 hgrow hK4
    obtain ⟨c0, c1⟩ := two_cells HB4.out.box
    have c51 := (two_cells HA5.out).2
    refine wp_region_held_drew (S := fun w' => w'.cell? ⟨A, 1, none⟩ = some (.map (some m)) ∧ w'.heap[w.heap.size]? = some (.cells (keyT L t).toArray 73)) (by kernel_rfl) (⟨c1, HK4.out⟩) (fun hHeld => ?_)
    refine wpAnyH_take (i := 0) (v := ?vu1x0) rfl (by kernel_rfl) (by kernel_rfl) (by kernel_rfl) (fun _ _ _ h => h) (Or.inl ⟨by rfl, ?hyu1x0⟩) (by assumption) ?restu1x0
    case hyu1x0 => (intro w' hSw; (try dsimp only at hSw); go_simp <;> with_reducible rfl)
    try simp only [List.getElem_toArray, List.getElem_cons_zero, Act.put, List.setIfInBounds_toArray, List.set_cons_zero, List.set_cons_succ]
    refine wpAnyH_take (i := 1) (v := ?vu2x1) rfl (by kernel_rfl) (by kernel_rfl) (by kernel_rfl) (fun _ _ _ h => h) (Or.inl ⟨by rfl, ?hyu2x1⟩) (by assumption) ?restu2x1
    case hyu2x1 => (intro w' hSw; (try dsimp only at hSw); go_simp <;> with_reducible rfl)
    try simp only [List.getElem_toArray, List.getElem_cons_succ, List.getElem_cons_zero, Act.put, List.setIfInBounds_toArray, List.set_cons_zero, List.set_cons_succ]
    refine wpAnyH_take (i := 2) (v := ?vu3x2) rfl (by kernel_rfl) (by kernel_rfl) (by kernel_rfl) (fun _ _ _ h => h) (Or.inl ⟨by rfl, ?hyu3x2⟩) (by assumption) ?restu3x2
    case hyu3x2 => (intro w' hSw; (try dsimp only at hSw); go_simp <;> with_reducible rfl)
    try simp only [List.getElem_toArray, List.getElem_cons_succ, List.getElem_cons_zero, Act.put, List.setIfInBounds_toArray, List.set_cons_zero, List.set_cons_succ]
    refine wpAnyH_take (i := 3) (v := ?vu4x3) rfl (by kernel_rfl) (by kernel_rfl) (by kernel_rfl) (fun _ _ _ h => h) (Or.inl ⟨by rfl, ?hyu4x3⟩) (by assumption) ?restu4x3
    case hyu4x3 => (intro w' hSw; (try dsimp only at hSw); go_simp <;> with_reducible rfl)
    try simp only [List.getElem_toArray, List.getElem_cons_succ, List.getElem_cons_zero, Act.put, List.setIfInBounds_toArray, List.set_cons_zero, List.set_cons_succ]
    refine wpAnyH_take (i := 4) (v := Value.agg (keyT L t).toArray) rfl (by kernel_rfl) (by kernel_rfl) (by kernel_rfl) (fun _ _ _ h => h) (Or.inl ⟨by rfl, ?hyu5x4⟩) (by assumption) ?restu5x4
    case hyu5x4 => (intro w' hSw; exact exec_load_row 73 (.tmp 3) rfl w.heap.size rfl 73 _ (0, 0) _ hSw.2 Try.underlying73 rfl hk2.out)
    try simp only [List.getElem_toArray, List.getElem_cons_succ, List.getElem_cons_zero, Act.put, List.setIfInBounds_toArray, List.set_cons_zero, List.set_cons_succ]
    refine wpAnyH_take (i := 5) (v := ?vu6x5) rfl (by kernel_rfl) (by kernel_rfl) (by kernel_rfl) (fun _ _ _ h => h) (Or.inl ⟨by rfl, ?hyu6x5⟩) (by assumption) ?restu6x5
    case hyu6x5 => (intro w' hSw; (try dsimp only at hSw); go_simp <;> with_reducible rfl)
    try simp only [List.getElem_toArray, List.getElem_cons_succ, List.getElem_cons_zero, Act.put, List.setIfInBounds_toArray, List.set_cons_zero, List.set_cons_succ]
    refine wpAnyH_ready (rs := [6]) (by kernel_rfl) (by simp) ?_
    refine AllReadyH.cons rfl (fun K hK => ?_) AllReadyH.nil
    go_simp
    refine hK.out _ _ (⟨c51, HK5.out⟩) (fun hHeld => ?_)
    clear hK K
    try simp only [List.getElem_toArray, List.getElem_cons_succ, List.getElem_cons_zero, Act.put, List.setIfInBounds_toArray, List.set_cons_zero, List.set_cons_succ]
    refine wpAnyH_done (by kernel_rfl) ?_ _
    clear c0 c1 c51 hrun
    go_upto_region 7 with fail
    obtain ⟨c0, c1⟩ := two_cells HA5.out
    refine wp_region_held_drew (S := fun w' => w'.heap[w.heap.size]? = some (.cells (keyT L t).toArray 73)) (by kernel_rfl) (HK5.out) (fun hHeld => ?_)
    refine wpAnyH_take (i := 0) (v := ?vu7x0) rfl (by kernel_rfl) (by kernel_rfl) (by kernel_rfl) (fun _ _ _ h => h) (Or.inl ⟨by rfl, ?hyu7x0⟩) (by assumption) ?restu7x0
    case hyu7x0 => (intro w' hSw; (try dsimp only at hSw); go_simp <;> with_reducible rfl)
    try simp only [List.getElem_toArray, List.getElem_cons_zero, Act.put, List.setIfInBounds_toArray, List.set_cons_zero, List.set_cons_succ]
    refine wpAnyH_take (i := 1) (v := ?vu8x1) rfl (by kernel_rfl) (by kernel_rfl) (by kernel_rfl) (fun _ _ _ h => h) (Or.inl ⟨by rfl, ?hyu8x1⟩) (by assumption) ?restu8x1
    case hyu8x1 => (intro w' hSw; (try dsimp only at hSw); go_simp <;> with_reducible rfl)
    try simp only [List.getElem_toArray, List.getElem_cons_succ, List.getElem_cons_zero, Act.put, List.setIfInBounds_toArray, List.set_cons_zero, List.set_cons_succ]
    refine wpAnyH_take (i := 2) (v := ?vu9x2) rfl (by kernel_rfl) (by kernel_rfl) (by kernel_rfl) (fun _ _ _ h => h) (Or.inl ⟨by rfl, ?hyu9x2⟩) (by assumption) ?restu9x2
    case hyu9x2 => (intro w' hSw; (try dsimp only at hSw); go_simp <;> with_reducible rfl)
    try simp only [List.getElem_toArray, List.getElem_cons_succ, List.getElem_cons_zero, Act.put, List.setIfInBounds_toArray, List.set_cons_zero, List.set_cons_succ]
    refine wpAnyH_take (i := 3) (v := ?vu10x3) rfl (by kernel_rfl) (by kernel_rfl) (by kernel_rfl) (fun _ _ _ h => h) (Or.inl ⟨by rfl, ?hyu10x3⟩) (by assumption) ?restu10x3
    case hyu10x3 => (intro w' hSw; (try dsimp only at hSw); go_simp <;> with_reducible rfl)
    try simp only [List.getElem_toArray, List.getElem_cons_succ, List.getElem_cons_zero, Act.put, List.setIfInBounds_toArray, List.set_cons_zero, List.set_cons_succ]
    refine wpAnyH_take (i := 5) (v := ?vu11x5) rfl (by kernel_rfl) (by kernel_rfl) (by kernel_rfl) (fun _ _ _ h => h) (Or.inl ⟨by rfl, ?hyu11x5⟩) (by assumption) ?restu11x5
    case hyu11x5 => (intro w' hSw; (try dsimp only at hSw); go_simp <;> with_reducible rfl)
    try simp only [List.getElem_toArray, List.getElem_cons_succ, List.getElem_cons_zero, Act.put, List.setIfInBounds_toArray, List.set_cons_zero, List.set_cons_succ]
    refine wpAnyH_take (i := 6) (v := Value.agg (keyT L t).toArray) rfl (by kernel_rfl) (by kernel_rfl) (by kernel_rfl) (fun _ _ _ h => h) (Or.inl ⟨by rfl, ?hyu12x6⟩) (by assumption) ?restu12x6
    case hyu12x6 => (intro w' hSw; exact exec_load_row 73 (.tmp 3) rfl w.heap.size rfl 73 _ (0, 0) _ hSw Try.underlying73 rfl hk2.out)
    try simp only [List.getElem_toArray, List.getElem_cons_succ, List.getElem_cons_zero, Act.put, List.setIfInBounds_toArray, List.set_cons_zero, List.set_cons_succ]
    refine wpAnyH_ready (rs := [4, 7]) (by kernel_rfl) (by simp) ?_
    refine AllReadyH.cons rfl (fun K hK => ?_) (AllReadyH.cons rfl (fun K hK => ?_) AllReadyH.nil)
    · go_simp
      refine hK.out _ _ (hHeld) (fun hHeld => ?_)
      clear hK K
      try simp only [List.getElem_toArray, List.getElem_cons_succ, List.getElem_cons_zero, Act.put, List.setIfInBounds_toArray, List.set_cons_zero, List.set_cons_succ]
      refine wpAnyH_ready (rs := [7]) (by kernel_rfl) (by simp) ?_
      refine AllReadyH.cons rfl (fun K hK => ?_) AllReadyH.nil
      go_simp
      refine (HCT.out _ (Below.refl _ _).drew).mono ?_
      rintro e wc ⟨rfl, bc⟩
      have BC := Lib.hid (show Below W5.heap.size W5 wc from Lvl.undrew bc)
      clear bc
      dsimp only
      have hkc := Lvl.keep BC.out HK5.out
      obtain ⟨c0, c1⟩ := two_cells (Lvl.keep BC.out HA5.out)
      refine hK.out _ _ (hkc) (fun hHeld => ?_)
      clear hK K
      try simp only [List.getElem_toArray, List.getElem_cons_succ, List.getElem_cons_zero, Act.put, List.setIfInBounds_toArray, List.set_cons_zero, List.set_cons_succ]
      refine wpAnyH_ready (rs := [8]) (by kernel_rfl) (by simp) ?_
      refine AllReadyH.cons rfl (fun K hK => ?_) AllReadyH.nil
      rw [if_pos (by kernel_rfl)]
      refine wp_buildSlice 53 75 1 _ rfl (nodeT L t).toArray i0 _ Try.underlying53 hi hz0 (by rw [hz1]; decide) (by rw [hz1]; decide) (by rw [hz1]; kernel_rfl) ?_
      have hka := keepA hkc (.cells (nodeT L t).toArray 75)
      obtain ⟨c0, c1⟩ := two_cells (keepA (Lvl.keep BC.out HA5.out) (.cells (nodeT L t).toArray 75))
      refine hK.out _ _ (hka) (fun hHeld => ?_)
      clear hK K
      try simp only [List.getElem_toArray, List.getElem_cons_succ, List.getElem_cons_zero, Act.put, List.setIfInBounds_toArray, List.set_cons_zero, List.set_cons_succ]
      refine wpAnyH_ready (rs := [9]) (by kernel_rfl) (by simp) ?_
      refine AllReadyH.cons rfl (fun K hK => ?_) AllReadyH.nil
      refine step_append_lies _ rfl _ _ _ rfl 0 75 i0 _ 31 256 Try.underlying53 hi hz0 hz1 hz2 rfl (by decide) _ L.length _ rfl ((HB5.out.below BC.out (Nat.le_refl _)).row.alloc _) ⟨wc.heap.size, 0, none⟩ 1 1 (nodeT L t) rfl rfl (World.news_of_block (cs := (nodeT L t).toArray) (t := 75) (fr := (0, 0)) (World.alloc_heap_new wc _)) (nodeT_one L t) Nat.one_pos hq1.out hq2.out (Nat.zero_le _) (wc.heap.size + 1) (World.size_alloc _ _) ?_
      intro g1 cap1 w6 hown6 g6 hat hlt
      have HO6 := Lib.hid hown6
      have HG6 := Lib.hid g6
      have HAT := Lib.hid hat
      have HLT := Lib.hid hlt
      clear hown6 g6 hat hlt
      have hA6 := (HG6.out.block A (by rw [World.size_alloc]; have := BC.out.size; have := HAL.out; omega) (fun e => HB5.out.apart e.symm)).trans (keepA (Lvl.keep BC.out HA5.out) (.cells (nodeT L t).toArray 75))
      have hk6 := (HG6.out.block w.heap.size (by rw [World.size_alloc]; have := BC.out.size; have := HKL.out; omega) HKV.out).trans hka
      obtain ⟨c0, c1⟩ := two_cells hA6
      have f0 := (two_free hA6).1
      refine hK.out _ _ (hk6) (fun hHeld => ?_)
      clear hK K
      try simp only [List.getElem_toArray, List.getElem_cons_succ, List.getElem_cons_zero, Act.put, List.setIfInBounds_toArray, List.set_cons_zero, List.set_cons_succ]
      refine wpAnyH_take (i := 10) (v := ?vu13x10) rfl (by kernel_rfl) (by kernel_rfl) (by kernel_rfl) (fun _ _ _ h => h) (Or.inl ⟨by rfl, ?hyu13x10⟩) (by assumption) ?restu13x10
      case hyu13x10 => (intro w' hSw; (try dsimp only at hSw); go_simp <;> with_reducible rfl)
      try simp only [List.getElem_toArray, List.getElem_cons_succ, List.getElem_cons_zero, Act.put, List.setIfInBounds_toArray, List.set_cons_zero, List.set_cons_succ]
      refine wpAnyH_take (i := 11) (v := ?vu14x11) rfl (by kernel_rfl) (by kernel_rfl) (by kernel_rfl) (fun _ _ _ h => h) (Or.inl ⟨by rfl, ?hyu14x11⟩) (by assumption) ?restu14x11
      case hyu14x11 => (intro w' hSw; (try dsimp only at hSw); go_simp <;> with_reducible rfl)
      try simp only [List.getElem_toArray, List.getElem_cons_succ, List.getElem_cons_zero, Act.put, List.setIfInBounds_toArray, List.set_cons_zero, List.set_cons_succ]
      refine wpAnyH_ready (rs := [12]) (by kernel_rfl) (by simp) ?_
      refine AllReadyH.cons rfl (fun K hK => ?_) AllReadyH.nil
      go_simp
      have hk7 : (w6.setCell ⟨A, 0, none⟩ (.slice (some ⟨g1, 0, none⟩) (L.length + 1) cap1)).heap[w.heap.size]? = some (.cells (keyT L t).toArray 73) := (RowKit.Below.heap_setCell _ _ _ _ (show (w.heap.size : Nat) ≠ A from HKA.out)).trans hk6
      refine hK.out _ _ (hk7) (fun hHeld => ?_)
      clear hK K
      try simp only [List.getElem_toArray, List.getElem_cons_succ, List.getElem_cons_zero, Act.put, List.setIfInBounds_toArray, List.set_cons_zero, List.set_cons_succ]
      refine wpAnyH_done (by kernel_rfl) ?_ _
      go_wp2_with fail
      exact bodyPost_ret (v := .tuple #[.int .i64 L.length, .bool true]) (by simp [results, Try.results29, go_sem]) rfl ⟨rfl, HFIN.out wc w6 g1 cap1 BC.out HO6.out HG6.out HAT.out HLT.out⟩
    · go_simp
      refine (HCT.out _ (Below.refl _ _).drew).mono ?_
      rintro e wc ⟨rfl, bc⟩
      have BC := Lib.hid (show Below W5.heap.size W5 wc from Lvl.undrew bc)
      clear bc
      dsimp only
      have hkc := Lvl.keep BC.out HK5.out
      obtain ⟨c0, c1⟩ := two_cells (Lvl.keep BC.out HA5.out)
      refine hK.out _ _ (hkc) (fun hHeld => ?_)
      clear hK K
      try simp only [List.getElem_toArray, List.getElem_cons_succ, List.getElem_cons_zero, Act.put, List.setIfInBounds_toArray, List.set_cons_zero, List.set_cons_succ]
      refine wpAnyH_ready (rs := [4, 8]) (by kernel_rfl) (by simp) ?_
      refine AllReadyH.cons rfl (fun K hK => ?_) (AllReadyH.cons rfl (fun K hK => ?_) AllReadyH.nil)
      · go_simp
        refine hK.out _ _ (hHeld) (fun hHeld => ?_)
        clear hK K
        try simp only [List.getElem_toArray, List.getElem_cons_succ, List.getElem_cons_zero, Act.put, List.setIfInBounds_toArray, List.set_cons_zero, List.set_cons_succ]
        refine wpAnyH_ready (rs := [8]) (by kernel_rfl) (by simp) ?_
        refine AllReadyH.cons rfl (fun K hK => ?_) AllReadyH.nil
        rw [if_pos (by kernel_rfl)]
        refine wp_buildSlice 53 75 1 _ rfl (nodeT L t).toArray i0 _ Try.underlying53 hi hz0 (by rw [hz1]; decide) (by rw [hz1]; decide) (by rw [hz1]; kernel_rfl) ?_
        have hka := keepA hkc (.cells (nodeT L t).toArray 75)
        obtain ⟨c0, c1⟩ := two_cells (keepA (Lvl.keep BC.out HA5.out) (.cells (nodeT L t).toArray 75))
        refine hK.out _ _ (hka) (fun hHeld => ?_)
        clear hK K
        try simp only [List.getElem_toArray, List.getElem_cons_succ, List.getElem_cons_zero, Act.put, List.setIfInBounds_toArray, List.set_cons_zero, List.set_cons_succ]
        refine wpAnyH_ready (rs := [9]) (by kernel_rfl) (by simp) ?_
        refine AllReadyH.cons rfl (fun K hK => ?_) AllReadyH.nil
        refine step_append_lies _ rfl _ _ _ rfl 0 75 i0 _ 31 256 Try.underlying53 hi hz0 hz1 hz2 rfl (by decide) _ L.length _ rfl ((HB5.out.below BC.out (Nat.le_refl _)).row.alloc _) ⟨wc.heap.size, 0, none⟩ 1 1 (nodeT L t) rfl rfl (World.news_of_block (cs := (nodeT L t).toArray) (t := 75) (fr := (0, 0)) (World.alloc_heap_new wc _)) (nodeT_one L t) Nat.one_pos hq1.out hq2.out (Nat.zero_le _) (wc.heap.size + 1) (World.size_alloc _ _) ?_
        intro g1 cap1 w6 hown6 g6 hat hlt
        have HO6 := Lib.hid hown6
        have HG6 := Lib.hid g6
        have HAT := Lib.hid hat
        have HLT := Lib.hid hlt
        clear hown6 g6 hat hlt
        have hA6 := (HG6.out.block A (by rw [World.size_alloc]; have := BC.out.size; have := HAL.out; omega) (fun e => HB5.out.apart e.symm)).trans (keepA (Lvl.keep BC.out HA5.out) (.cells (nodeT L t).toArray 75))
        have hk6 := (HG6.out.block w.heap.size (by rw [World.size_alloc]; have := BC.out.size; have := HKL.out; omega) HKV.out).trans hka
        obtain ⟨c0, c1⟩ := two_cells hA6
        have f0 := (two_free hA6).1
        refine hK.out _ _ (hk6) (fun hHeld => ?_)
        clear hK K
        try simp only [List.getElem_toArray, List.getElem_cons_succ, List.getElem_cons_zero, Act.put, List.setIfInBounds_toArray, List.set_cons_zero, List.set_cons_succ]
        refine wpAnyH_take (i := 10) (v := ?vu15x10) rfl (by kernel_rfl) (by kernel_rfl) (by kernel_rfl) (fun _ _ _ h => h) (Or.inl ⟨by rfl, ?hyu15x10⟩) (by assumption) ?restu15x10
        case hyu15x10 => (intro w' hSw; (try dsimp only at hSw); go_simp <;> with_reducible rfl)
        try simp only [List.getElem_toArray, List.getElem_cons_succ, List.getElem_cons_zero, Act.put, List.setIfInBounds_toArray, List.set_cons_zero, List.set_cons_succ]
        refine wpAnyH_take (i := 11) (v := ?vu16x11) rfl (by kernel_rfl) (by kernel_rfl) (by kernel_rfl) (fun _ _ _ h => h) (Or.inl ⟨by rfl, ?hyu16x11⟩) (by assumption) ?restu16x11
        case hyu16x11 => (intro w' hSw; (try dsimp only at hSw); go_simp <;> with_reducible rfl)
        try simp only [List.getElem_toArray, List.getElem_cons_succ, List.getElem_cons_zero, Act.put, List.setIfInBounds_toArray, List.set_cons_zero, List.set_cons_succ]
        refine wpAnyH_ready (rs := [12]) (by kernel_rfl) (by simp) ?_
        refine AllReadyH.cons rfl (fun K hK => ?_) AllReadyH.nil
        go_simp
        have hk7 : (w6.setCell ⟨A, 0, none⟩ (.slice (some ⟨g1, 0, none⟩) (L.length + 1) cap1)).heap[w.heap.size]? = some (.cells (keyT L t).toArray 73) := (RowKit.Below.heap_setCell _ _ _ _ (show (w.heap.size : Nat) ≠ A from HKA.out)).trans hk6
        refine hK.out _ _ (hk7) (fun hHeld => ?_)
        clear hK K
        try simp only [List.getElem_toArray, List.getElem_cons_succ, List.getElem_cons_zero, Act.put, List.setIfInBounds_toArray, List.set_cons_zero, List.set_cons_succ]
        refine wpAnyH_done (by kernel_rfl) ?_ _
        go_wp2_with fail
        exact bodyPost_ret (v := .tuple #[.int .i64 L.length, .bool true]) (by simp [results, Try.results29, go_sem]) rfl ⟨rfl, HFIN.out wc w6 g1 cap1 BC.out HO6.out HG6.out HAT.out HLT.out⟩
      · rw [if_pos (by kernel_rfl)]
        refine wp_buildSlice 53 75 1 _ rfl (nodeT L t).toArray i0 _ Try.underlying53 hi hz0 (by rw [hz1]; decide) (by rw [hz1]; decide) (by rw [hz1]; kernel_rfl) ?_
        have hka := keepA hkc (.cells (nodeT L t).toArray 75)
        obtain ⟨c0, c1⟩ := two_cells (keepA (Lvl.keep BC.out HA5.out) (.cells (nodeT L t).toArray 75))
        refine hK.out _ _ (hka) (fun hHeld => ?_)
        clear hK K
        try simp only [List.getElem_toArray, List.getElem_cons_succ, List.getElem_cons_zero, Act.put, List.setIfInBounds_toArray, List.set_cons_zero, List.set_cons_succ]
        refine wpAnyH_ready (rs := [4]) (by kernel_rfl) (by simp) ?_
        refine AllReadyH.cons rfl (fun K hK => ?_) AllReadyH.nil
        go_simp
        refine hK.out _ _ (hHeld) (fun hHeld => ?_)
        clear hK K
        try simp only [List.getElem_toArray, List.getElem_cons_succ, List.getElem_cons_zero, Act.put, List.setIfInBounds_toArray, List.set_cons_zero, List.set_cons_succ]
        refine wpAnyH_ready (rs := [9]) (by kernel_rfl) (by simp) ?_
        refine AllReadyH.cons rfl (fun K hK => ?_) AllReadyH.nil
        refine step_append_lies _ rfl _ _ _ rfl 0 75 i0 _ 31 256 Try.underlying53 hi hz0 hz1 hz2 rfl (by decide) _ L.length _ rfl ((HB5.out.below BC.out (Nat.le_refl _)).row.alloc _) ⟨wc.heap.size, 0, none⟩ 1 1 (nodeT L t) rfl rfl (World.news_of_block (cs := (nodeT L t).toArray) (t := 75) (fr := (0, 0)) (World.alloc_heap_new wc _)) (nodeT_one L t) Nat.one_pos hq1.out hq2.out (Nat.zero_le _) (wc.heap.size + 1) (World.size_alloc _ _) ?_
        intro g1 cap1 w6 hown6 g6 hat hlt
        have HO6 := Lib.hid hown6
        have HG6 := Lib.hid g6
        have HAT := Lib.hid hat
        have HLT := Lib.hid hlt
        clear hown6 g6 hat hlt
        have hA6 := (HG6.out.block A (by rw [World.size_alloc]; have := BC.out.size; have := HAL.out; omega) (fun e => HB5.out.apart e.symm)).trans (keepA (Lvl.keep BC.out HA5.out) (.cells (nodeT L t).toArray 75))
        have hk6 := (HG6.out.block w.heap.size (by rw [World.size_alloc]; have := BC.out.size; have := HKL.out; omega) HKV.out).trans hka
        obtain ⟨c0, c1⟩ := two_cells hA6
        have f0 := (two_free hA6).1
        refine hK.out _ _ (hk6) (fun hHeld => ?_)
        clear hK K
        try simp only [List.getElem_toArray, List.getElem_cons_succ, List.getElem_cons_zero, Act.put, List.setIfInBounds_toArray, List.set_cons_zero, List.set_cons_succ]
        refine wpAnyH_take (i := 10) (v := ?vu17x10) rfl (by kernel_rfl) (by kernel_rfl) (by kernel_rfl) (fun _ _ _ h => h) (Or.inl ⟨by rfl, ?hyu17x10⟩) (by assumption) ?restu17x10
        case hyu17x10 => (intro w' hSw; (try dsimp only at hSw); go_simp <;> with_reducible rfl)
        try simp only [List.getElem_toArray, List.getElem_cons_succ, List.getElem_cons_zero, Act.put, List.setIfInBounds_toArray, List.set_cons_zero, List.set_cons_succ]
        refine wpAnyH_take (i := 11) (v := ?vu18x11) rfl (by kernel_rfl) (by kernel_rfl) (by kernel_rfl) (fun _ _ _ h => h) (Or.inl ⟨by rfl, ?hyu18x11⟩) (by assumption) ?restu18x11
        case hyu18x11 => (intro w' hSw; (try dsimp only at hSw); go_simp <;> with_reducible rfl)
        try simp only [List.getElem_toArray, List.getElem_cons_succ, List.getElem_cons_zero, Act.put, List.setIfInBounds_toArray, List.set_cons_zero, List.set_cons_succ]
        refine wpAnyH_ready (rs := [12]) (by kernel_rfl) (by simp) ?_
        refine AllReadyH.cons rfl (fun K hK => ?_) AllReadyH.nil
        go_simp
        have hk7 : (w6.setCell ⟨A, 0, none⟩ (.slice (some ⟨g1, 0, none⟩) (L.length + 1) cap1)).heap[w.heap.size]? = some (.cells (keyT L t).toArray 73) := (RowKit.Below.heap_setCell _ _ _ _ (show (w.heap.size : Nat) ≠ A from HKA.out)).trans hk6
        refine hK.out _ _ (hk7) (fun hHeld => ?_)
        clear hK K
        try simp only [List.getElem_toArray, List.getElem_cons_succ, List.getElem_cons_zero, Act.put, List.setIfInBounds_toArray, List.set_cons_zero, List.set_cons_succ]
        refine wpAnyH_done (by kernel_rfl) ?_ _
        go_wp2_with fail
        exact bodyPost_ret (v := .tuple #[.int .i64 L.length, .bool true]) (by simp [results, Try.results29, go_sem]) rfl ⟨rfl, HFIN.out wc w6 g1 cap1 BC.out HO6.out HG6.out HAT.out HLT.out⟩
  · have hmlt := hown.lt
    have HMP := Lib.hid (ownsMap_same hown (B0.out.block m hmlt))
    have HTI := Lib.hid htied
    obtain ⟨es, cl, hes, _⟩ := hown
    have HEM : Hid (∃ es c, W0.heap[m]? = some (.map es c)) := Lib.hid ⟨es, cl, (B0.out.block m hmlt).trans hes⟩
    have HMA : Hid (some A ≠ some m) := Lib.hid (fun e => by injection e with e; subst e; have := HAR.out.box; rw [hes] at this; simp at this)
    have HMV : Hid (∀ q, (Value.slice ao L.length cap).ownBlock = some q → some q ≠ some m) := Lib.hid (fun q hq e => by
      injection e with e
      subst e
      rcases HAR.out.row.2 with ⟨hv, _⟩ | ⟨g, cap', cur, hv, _, hg, _⟩
      · rw [hv] at hq; simp [Value.ownBlock] at hq
      · rw [hv] at hq; simp [Value.ownBlock] at hq; subst hq; rw [hes] at hg; simp at hg)
    have HKM : Hid (some w.heap.size ≠ some m) := Lib.hid (fun e => by injection e; omega)
    have HB4 := Lib.hid HA0.out.toArB
    have HM4 : Hid (own A (.slice ao L.length cap) (some m) m ∨ w.heap.size ≤ m) := Lib.hid (Or.inl (Or.inr (Or.inr rfl)))
    have HR4 : Hid (RanS (own A (.slice ao L.length cap) (some m)) w W0) := Lib.hid (RanS.of_below B0.out)
    clear hmlt htied hes HA0 HMAP
    have hqn := eqlSome5 m
    have HK4 := Lib.hid hK4
    obtain ⟨W5, hrun, hown5, hgrow⟩ := (show W0.drew.ownsMap Try.prog 73 (plainElem Try.prog 3) m L.length D from HMP.out).update lawK Try.underlying54 (by unfold maxLen; have := HF1.out; omega) (kl_some (may_node HM.out) HF2.out) (plainElem_int Try.underlying3 (wf_i64 (n := (L.length : Int)) (by omega) (by have := HFI.out; omega)))
    have HG5 := Lib.hid (show W0.grownBy W5 (some m) from ⟨hgrow.os, hgrow.tape, hgrow.output, hgrow.size, hgrow.block⟩)
    have HOW5 := Lib.hid hown5
    have HA5 := Lib.hid ((HG5.out.block A (Array.getElem?_eq_some_iff.1 HB4.out.box).1 HMA.out).trans HB4.out.box)
    have HK5 := Lib.hid ((HG5.out.block w.heap.size (Array.getElem?_eq_some_iff.1 HK4.out).1 HKM.out).trans HK4.out)
    have HB5 := Lib.hid (HB4.out.same (HG5.out.block A (Array.getElem?_eq_some_iff.1 HB4.out.box).1 HMA.out) (fun q hq => HG5.out.block q (HB4.out.row.lt q hq).2 (HMV.out q hq)))
    have HAL := Lib.hid (Array.getElem?_eq_some_iff.1 HA5.out).1
    have HKL := Lib.hid (Array.getElem?_eq_some_iff.1 HK5.out).1
    have HCT := Lib.hid (fun (W : World) (hW : Below W5.heap.size W5 W) => counted_any (HB5.out.below hW (Nat.le_refl _)) t HM.out HP.out)
    have HFIN := Lib.hid (fun (wc w6 : World) (g1 cap1 : Nat) bc h6 g6 hat hlt => add_done (W4 := W0) (W5 := W5) (wc := wc) (w6 := w6) (g' := g1) (cap' := cap1) HAR.out HM.out HP.out HN.out HF1.out HB4.out HM4.out HR4.out HTI.out HG5.out HEM.out HOW5.out bc h6 g6 hat hlt)
    clear hown5 hgrow hK4
    go_upto_region 6 with fail
    obtain ⟨c0, c1⟩ := two_cells HB4.out.box
    have c51 := (two_cells HA5.out).2
    refine wp_region_held_drew (S := fun w' => w'.cell? ⟨A, 1, none⟩ = some (.map (some m)) ∧ w'.heap[w.heap.size]? = some (.cells (keyT L t).toArray 73)) (by kernel_rfl) (⟨c1, HK4.out⟩) (fun hHeld => ?_)
    refine wpAnyH_take (i := 0) (v := ?vu19x0) rfl (by kernel_rfl) (by kernel_rfl) (by kernel_rfl) (fun _ _ _ h => h) (Or.inl ⟨by rfl, ?hyu19x0⟩) (by assumption) ?restu19x0
    case hyu19x0 => (intro w' hSw; (try dsimp only at hSw); go_simp <;> with_reducible rfl)
    try simp only [List.getElem_toArray, List.getElem_cons_zero, Act.put, List.setIfInBounds_toArray, List.set_cons_zero, List.set_cons_succ]
    refine wpAnyH_take (i := 1) (v := ?vu20x1) rfl (by kernel_rfl) (by kernel_rfl) (by kernel_rfl) (fun _ _ _ h => h) (Or.inl ⟨by rfl, ?hyu20x1⟩) (by assumption) ?restu20x1
    case hyu20x1 => (intro w' hSw; (try dsimp only at hSw); go_simp <;> with_reducible rfl)
    try simp only [List.getElem_toArray, List.getElem_cons_succ, List.getElem_cons_zero, Act.put, List.setIfInBounds_toArray, List.set_cons_zero, List.set_cons_succ]
    refine wpAnyH_take (i := 2) (v := ?vu21x2) rfl (by kernel_rfl) (by kernel_rfl) (by kernel_rfl) (fun _ _ _ h => h) (Or.inl ⟨by rfl, ?hyu21x2⟩) (by assumption) ?restu21x2
    case hyu21x2 => (intro w' hSw; (try dsimp only at hSw); go_simp <;> with_reducible rfl)
    try simp only [List.getElem_toArray, List.getElem_cons_succ, List.getElem_cons_zero, Act.put, List.setIfInBounds_toArray, List.set_cons_zero, List.set_cons_succ]
    refine wpAnyH_take (i := 3) (v := ?vu22x3) rfl (by kernel_rfl) (by kernel_rfl) (by kernel_rfl) (fun _ _ _ h => h) (Or.inl ⟨by rfl, ?hyu22x3⟩) (by assumption) ?restu22x3
    case hyu22x3 => (intro w' hSw; (try dsimp only at hSw); go_simp <;> with_reducible rfl)
    try simp only [List.getElem_toArray, List.getElem_cons_succ, List.getElem_cons_zero, Act.put, List.setIfInBounds_toArray, List.set_cons_zero, List.set_cons_succ]
    refine wpAnyH_take (i := 4) (v := Value.agg (keyT L t).toArray) rfl (by kernel_rfl) (by kernel_rfl) (by kernel_rfl) (fun _ _ _ h => h) (Or.inl ⟨by rfl, ?hyu23x4⟩) (by assumption) ?restu23x4
    case hyu23x4 => (intro w' hSw; exact exec_load_row 73 (.tmp 3) rfl w.heap.size rfl 73 _ (0, 0) _ hSw.2 Try.underlying73 rfl hk2.out)
    try simp only [List.getElem_toArray, List.getElem_cons_succ, List.getElem_cons_zero, Act.put, List.setIfInBounds_toArray, List.set_cons_zero, List.set_cons_succ]
    refine wpAnyH_take (i := 5) (v := ?vu24x5) rfl (by kernel_rfl) (by kernel_rfl) (by kernel_rfl) (fun _ _ _ h => h) (Or.inl ⟨by rfl, ?hyu24x5⟩) (by assumption) ?restu24x5
    case hyu24x5 => (intro w' hSw; (try dsimp only at hSw); go_simp <;> with_reducible rfl)
    try simp only [List.getElem_toArray, List.getElem_cons_succ, List.getElem_cons_zero, Act.put, List.setIfInBounds_toArray, List.set_cons_zero, List.set_cons_succ]
    refine wpAnyH_ready (rs := [6]) (by kernel_rfl) (by simp) ?_
    refine AllReadyH.cons rfl (fun K hK => ?_) AllReadyH.nil
    go_simp
    refine hK.out _ _ (⟨c51, HK5.out⟩) (fun hHeld => ?_)
    clear hK K
    try simp only [List.getElem_toArray, List.getElem_cons_succ, List.getElem_cons_zero, Act.put, List.setIfInBounds_toArray, List.set_cons_zero, List.set_cons_succ]
    refine wpAnyH_done (by kernel_rfl) ?_ _
    clear c0 c1 c51 hrun
    go_upto_region 7 with fail
    obtain ⟨c0, c1⟩ := two_cells HA5.out
    refine wp_region_held_drew (S := fun w' => w'.heap[w.heap.size]? = some (.cells (keyT L t).toArray 73)) (by kernel_rfl) (HK5.out) (fun hHeld => ?_)
    refine wpAnyH_take (i := 0) (v := ?vu25x0) rfl (by kernel_rfl) (by kernel_rfl) (by kernel_rfl) (fun _ _ _ h => h) (Or.inl ⟨by rfl, ?hyu25x0⟩) (by assumption) ?restu25x0
    case hyu25x0 => (intro w' hSw; (try dsimp only at hSw); go_simp <;> with_reducible rfl)
    try simp only [List.getElem_toArray, List.getElem_cons_zero, Act.put, List.setIfInBounds_toArray, List.set_cons_zero, List.set_cons_succ]
    refine wpAnyH_take (i := 1) (v := ?vu26x1) rfl (by kernel_rfl) (by kernel_rfl) (by kernel_rfl) (fun _ _ _ h => h) (Or.inl ⟨by rfl, ?hyu26x1⟩) (by assumption) ?restu26x1
    case hyu26x1 => (intro w' hSw; (try dsimp only at hSw); go_simp <;> with_reducible rfl)
    try simp only [List.getElem_toArray, List.getElem_cons_succ, List.getElem_cons_zero, Act.put, List.setIfInBounds_toArray, List.set_cons_zero, List.set_cons_succ]
    refine wpAnyH_take (i := 2) (v := ?vu27x2) rfl (by kernel_rfl) (by kernel_rfl) (by kernel_rfl) (fun _ _ _ h => h) (Or.inl ⟨by rfl, ?hyu27x2⟩) (by assumption) ?restu27x2
    case hyu27x2 => (intro w' hSw; (try dsimp only at hSw); go_simp <;> with_reducible rfl)
    try simp only [List.getElem_toArray, List.getElem_cons_succ, List.getElem_cons_zero, Act.put, List.setIfInBounds_toArray, List.set_cons_zero, List.set_cons_succ]
    refine wpAnyH_take (i := 3) (v := ?vu28x3) rfl (by kernel_rfl) (by kernel_rfl) (by kernel_rfl) (fun _ _ _ h => h) (Or.inl ⟨by rfl, ?hyu28x3⟩) (by assumption) ?restu28x3
    case hyu28x3 => (intro w' hSw; (try dsimp only at hSw); go_simp <;> with_reducible rfl)
    try simp only [List.getElem_toArray, List.getElem_cons_succ, List.getElem_cons_zero, Act.put, List.setIfInBounds_toArray, List.set_cons_zero, List.set_cons_succ]
    refine wpAnyH_take (i := 5) (v := ?vu29x5) rfl (by kernel_rfl) (by kernel_rfl) (by kernel_rfl) (fun _ _ _ h => h) (Or.inl ⟨by rfl, ?hyu29x5⟩) (by assumption) ?restu29x5
    case hyu29x5 => (intro w' hSw; (try dsimp only at hSw); go_simp <;> with_reducible rfl)
    try simp only [List.getElem_toArray, List.getElem_cons_succ, List.getElem_cons_zero, Act.put, List.setIfInBounds_toArray, List.set_cons_zero, List.set_cons_succ]
    refine wpAnyH_take (i := 6) (v := Value.agg (keyT L t).toArray) rfl (by kernel_rfl) (by kernel_rfl) (by kernel_rfl) (fun _ _ _ h => h) (Or.inl ⟨by rfl, ?hyu30x6⟩) (by assumption) ?restu30x6
    case hyu30x6 => (intro w' hSw; exact exec_load_row 73 (.tmp 3) rfl w.heap.size rfl 73 _ (0, 0) _ hSw Try.underlying73 rfl hk2.out)
    try simp only [List.getElem_toArray, List.getElem_cons_succ, List.getElem_cons_zero, Act.put, List.setIfInBounds_toArray, List.set_cons_zero, List.set_cons_succ]
    refine wpAnyH_ready (rs := [4, 7]) (by kernel_rfl) (by simp) ?_
    refine AllReadyH.cons rfl (fun K hK => ?_) (AllReadyH.cons rfl (fun K hK => ?_) AllReadyH.nil)
    · go_simp
      refine hK.out _ _ (hHeld) (fun hHeld => ?_)
      clear hK K
      try simp only [List.getElem_toArray, List.getElem_cons_succ, List.getElem_cons_zero, Act.put, List.setIfInBounds_toArray, List.set_cons_zero, List.set_cons_succ]
      refine wpAnyH_ready (rs := [7]) (by kernel_rfl) (by simp) ?_
      refine AllReadyH.cons rfl (fun K hK => ?_) AllReadyH.nil
      go_simp
      refine (HCT.out _ (Below.refl _ _).drew).mono ?_
      rintro e wc ⟨rfl, bc⟩
      have BC := Lib.hid (show Below W5.heap.size W5 wc from Lvl.undrew bc)
      clear bc
      dsimp only
      have hkc := Lvl.keep BC.out HK5.out
      obtain ⟨c0, c1⟩ := two_cells (Lvl.keep BC.out HA5.out)
      refine hK.out _ _ (hkc) (fun hHeld => ?_)
      clear hK K
      try simp only [List.getElem_toArray, List.getElem_cons_succ, List.getElem_cons_zero, Act.put, List.setIfInBounds_toArray, List.set_cons_zero, List.set_cons_succ]
      refine wpAnyH_ready (rs := [8]) (by kernel_rfl) (by simp) ?_
      refine AllReadyH.cons rfl (fun K hK => ?_) AllReadyH.nil
      rw [if_pos (by kernel_rfl)]
      refine wp_buildSlice 53 75 1 _ rfl (nodeT L t).toArray i0 _ Try.underlying53 hi hz0 (by rw [hz1]; decide) (by rw [hz1]; decide) (by rw [hz1]; kernel_rfl) ?_
      have hka := keepA hkc (.cells (nodeT L t).toArray 75)
      obtain ⟨c0, c1⟩ := two_cells (keepA (Lvl.keep BC.out HA5.out) (.cells (nodeT L t).toArray 75))
      refine hK.out _ _ (hka) (fun hHeld => ?_)
      clear hK K
      try simp only [List.getElem_toArray, List.getElem_cons_succ, List.getElem_cons_zero, Act.put, List.setIfInBounds_toArray, List.set_cons_zero, List.set_cons_succ]
      refine wpAnyH_ready (rs := [9]) (by kernel_rfl) (by simp) ?_
      refine AllReadyH.cons rfl (fun K hK => ?_) AllReadyH.nil
      refine step_append_lies _ rfl _ _ _ rfl 0 75 i0 _ 31 256 Try.underlying53 hi hz0 hz1 hz2 rfl (by decide) _ L.length _ rfl ((HB5.out.below BC.out (Nat.le_refl _)).row.alloc _) ⟨wc.heap.size, 0, none⟩ 1 1 (nodeT L t) rfl rfl (World.news_of_block (cs := (nodeT L t).toArray) (t := 75) (fr := (0, 0)) (World.alloc_heap_new wc _)) (nodeT_one L t) Nat.one_pos hq1.out hq2.out (Nat.zero_le _) (wc.heap.size + 1) (World.size_alloc _ _) ?_
      intro g1 cap1 w6 hown6 g6 hat hlt
      have HO6 := Lib.hid hown6
      have HG6 := Lib.hid g6
      have HAT := Lib.hid hat
      have HLT := Lib.hid hlt
      clear hown6 g6 hat hlt
      have hA6 := (HG6.out.block A (by rw [World.size_alloc]; have := BC.out.size; have := HAL.out; omega) (fun e => HB5.out.apart e.symm)).trans (keepA (Lvl.keep BC.out HA5.out) (.cells (nodeT L t).toArray 75))
      have hk6 := (HG6.out.block w.heap.size (by rw [World.size_alloc]; have := BC.out.size; have := HKL.out; omega) HKV.out).trans hka
      obtain ⟨c0, c1⟩ := two_cells hA6
      have f0 := (two_free hA6).1
      refine hK.out _ _ (hk6) (fun hHeld => ?_)
      clear hK K
      try simp only [List.getElem_toArray, List.getElem_cons_succ, List.getElem_cons_zero, Act.put, List.setIfInBounds_toArray, List.set_cons_zero, List.set_cons_succ]
      refine wpAnyH_take (i := 10) (v := ?vu31x10) rfl (by kernel_rfl) (by kernel_rfl) (by kernel_rfl) (fun _ _ _ h => h) (Or.inl ⟨by rfl, ?hyu31x10⟩) (by assumption) ?restu31x10
      case hyu31x10 => (intro w' hSw; (try dsimp only at hSw); go_simp <;> with_reducible rfl)
      try simp only [List.getElem_toArray, List.getElem_cons_succ, List.getElem_cons_zero, Act.put, List.setIfInBounds_toArray, List.set_cons_zero, List.set_cons_succ]
      refine wpAnyH_take (i := 11) (v := ?vu32x11) rfl (by kernel_rfl) (by kernel_rfl) (by kernel_rfl) (fun _ _ _ h => h) (Or.inl ⟨by rfl, ?hyu32x11⟩) (by assumption) ?restu32x11
      case hyu32x11 => (intro w' hSw; (try dsimp only at hSw); go_simp <;> with_reducible rfl)
      try simp only [List.getElem_toArray, List.getElem_cons_succ, List.getElem_cons_zero, Act.put, List.setIfInBounds_toArray, List.set_cons_zero, List.set_cons_succ]
      refine wpAnyH_ready (rs := [12]) (by kernel_rfl) (by simp) ?_
      refine AllReadyH.cons rfl (fun K hK => ?_) AllReadyH.nil
      go_simp
      have hk7 : (w6.setCell ⟨A, 0, none⟩ (.slice (some ⟨g1, 0, none⟩) (L.length + 1) cap1)).heap[w.heap.size]? = some (.cells (keyT L t).toArray 73) := (RowKit.Below.heap_setCell _ _ _ _ (show (w.heap.size : Nat) ≠ A from HKA.out)).trans hk6
      refine hK.out _ _ (hk7) (fun hHeld => ?_)
      clear hK K
      try simp only [List.getElem_toArray, List.getElem_cons_succ, List.getElem_cons_zero, Act.put, List.setIfInBounds_toArray, List.set_cons_zero, List.set_cons_succ]
      refine wpAnyH_done (by kernel_rfl) ?_ _
      go_wp2_with fail
      exact bodyPost_ret (v := .tuple #[.int .i64 L.length, .bool true]) (by simp [results, Try.results29, go_sem]) rfl ⟨rfl, HFIN.out wc w6 g1 cap1 BC.out HO6.out HG6.out HAT.out HLT.out⟩
    · go_simp
      refine (HCT.out _ (Below.refl _ _).drew).mono ?_
      rintro e wc ⟨rfl, bc⟩
      have BC := Lib.hid (show Below W5.heap.size W5 wc from Lvl.undrew bc)
      clear bc
      dsimp only
      have hkc := Lvl.keep BC.out HK5.out
      obtain ⟨c0, c1⟩ := two_cells (Lvl.keep BC.out HA5.out)
      refine hK.out _ _ (hkc) (fun hHeld => ?_)
      clear hK K
      try simp only [List.getElem_toArray, List.getElem_cons_succ, List.getElem_cons_zero, Act.put, List.setIfInBounds_toArray, List.set_cons_zero, List.set_cons_succ]
      refine wpAnyH_ready (rs := [4, 8]) (by kernel_rfl) (by simp) ?_
      refine AllReadyH.cons rfl (fun K hK => ?_) (AllReadyH.cons rfl (fun K hK => ?_) AllReadyH.nil)
      · go_simp
        refine hK.out _ _ (hHeld) (fun hHeld => ?_)
        clear hK K
        try simp only [List.getElem_toArray, List.getElem_cons_succ, List.getElem_cons_zero, Act.put, List.setIfInBounds_toArray, List.set_cons_zero, List.set_cons_succ]
        refine wpAnyH_ready (rs := [8]) (by kernel_rfl) (by simp) ?_
        refine AllReadyH.cons rfl (fun K hK => ?_) AllReadyH.nil
        rw [if_pos (by kernel_rfl)]
        refine wp_buildSlice 53 75 1 _ rfl (nodeT L t).toArray i0 _ Try.underlying53 hi hz0 (by rw [hz1]; decide) (by rw [hz1]; decide) (by rw [hz1]; kernel_rfl) ?_
        have hka := keepA hkc (.cells (nodeT L t).toArray 75)
        obtain ⟨c0, c1⟩ := two_cells (keepA (Lvl.keep BC.out HA5.out) (.cells (nodeT L t).toArray 75))
        refine hK.out _ _ (hka) (fun hHeld => ?_)
        clear hK K
        try simp only [List.getElem_toArray, List.getElem_cons_succ, List.getElem_cons_zero, Act.put, List.setIfInBounds_toArray, List.set_cons_zero, List.set_cons_succ]
        refine wpAnyH_ready (rs := [9]) (by kernel_rfl) (by simp) ?_
        refine AllReadyH.cons rfl (fun K hK => ?_) AllReadyH.nil
        refine step_append_lies _ rfl _ _ _ rfl 0 75 i0 _ 31 256 Try.underlying53 hi hz0 hz1 hz2 rfl (by decide) _ L.length _ rfl ((HB5.out.below BC.out (Nat.le_refl _)).row.alloc _) ⟨wc.heap.size, 0, none⟩ 1 1 (nodeT L t) rfl rfl (World.news_of_block (cs := (nodeT L t).toArray) (t := 75) (fr := (0, 0)) (World.alloc_heap_new wc _)) (nodeT_one L t) Nat.one_pos hq1.out hq2.out (Nat.zero_le _) (wc.heap.size + 1) (World.size_alloc _ _) ?_
        intro g1 cap1 w6 hown6 g6 hat hlt
        have HO6 := Lib.hid hown6
        have HG6 := Lib.hid g6
        have HAT := Lib.hid hat
        have HLT := Lib.hid hlt
        clear hown6 g6 hat hlt
        have hA6 := (HG6.out.block A (by rw [World.size_alloc]; have := BC.out.size; have := HAL.out; omega) (fun e => HB5.out.apart e.symm)).trans (keepA (Lvl.keep BC.out HA5.out) (.cells (nodeT L t).toArray 75))
        have hk6 := (HG6.out.block w.heap.size (by rw [World.size_alloc]; have := BC.out.size; have := HKL.out; omega) HKV.out).trans hka
        obtain ⟨c0, c1⟩ := two_cells hA6
        have f0 := (two_free hA6).1
        refine hK.out _ _ (hk6) (fun hHeld => ?_)
        clear hK K
        try simp only [List.getElem_toArray, List.getElem_cons_succ, List.getElem_cons_zero, Act.put, List.setIfInBounds_toArray, List.set_cons_zero, List.set_cons_succ]
        refine wpAnyH_take (i := 10) (v := ?vu33x10) rfl (by kernel_rfl) (by kernel_rfl) (by kernel_rfl) (fun _ _ _ h => h) (Or.inl ⟨by rfl, ?hyu33x10⟩) (by assumption) ?restu33x10
        case hyu33x10 => (intro w' hSw; (try dsimp only at hSw); go_simp <;> with_reducible rfl)
        try simp only [List.getElem_toArray, List.getElem_cons_succ, List.getElem_cons_zero, Act.put, List.setIfInBounds_toArray, List.set_cons_zero, List.set_cons_succ]
        refine wpAnyH_take (i := 11) (v := ?vu34x11) rfl (by kernel_rfl) (by kernel_rfl) (by kernel_rfl) (fun _ _ _ h => h) (Or.inl ⟨by rfl, ?hyu34x11⟩) (by assumption) ?restu34x11
        case hyu34x11 => (intro w' hSw; (try dsimp only at hSw); go_simp <;> with_reducible rfl)
        try simp only [List.getElem_toArray, List.getElem_cons_succ, List.getElem_cons_zero, Act.put, List.setIfInBounds_toArray, List.set_cons_zero, List.set_cons_succ]
        refine wpAnyH_ready (rs := [12]) (by kernel_rfl) (by simp) ?_
        refine AllReadyH.cons rfl (fun K hK => ?_) AllReadyH.nil
        go_simp
        have hk7 : (w6.setCell ⟨A, 0, none⟩ (.slice (some ⟨g1, 0, none⟩) (L.length + 1) cap1)).heap[w.heap.size]? = some (.cells (keyT L t).toArray 73) := (RowKit.Below.heap_setCell _ _ _ _ (show (w.heap.size : Nat) ≠ A from HKA.out)).trans hk6
        refine hK.out _ _ (hk7) (fun hHeld => ?_)
        clear hK K
        try simp only [List.getElem_toArray, List.getElem_cons_succ, List.getElem_cons_zero, Act.put, List.setIfInBounds_toArray, List.set_cons_zero, List.set_cons_succ]
        refine wpAnyH_done (by kernel_rfl) ?_ _
        go_wp2_with fail
        exact bodyPost_ret (v := .tuple #[.int .i64 L.length, .bool true]) (by simp [results, Try.results29, go_sem]) rfl ⟨rfl, HFIN.out wc w6 g1 cap1 BC.out HO6.out HG6.out HAT.out HLT.out⟩
      · rw [if_pos (by kernel_rfl)]
        refine wp_buildSlice 53 75 1 _ rfl (nodeT L t).toArray i0 _ Try.underlying53 hi hz0 (by rw [hz1]; decide) (by rw [hz1]; decide) (by rw [hz1]; kernel_rfl) ?_
        have hka := keepA hkc (.cells (nodeT L t).toArray 75)
        obtain ⟨c0, c1⟩ := two_cells (keepA (Lvl.keep BC.out HA5.out) (.cells (nodeT L t).toArray 75))
        refine hK.out _ _ (hka) (fun hHeld => ?_)
        clear hK K
        try simp only [List.getElem_toArray, List.getElem_cons_succ, List.getElem_cons_zero, Act.put, List.setIfInBounds_toArray, List.set_cons_zero, List.set_cons_succ]
        refine wpAnyH_ready (rs := [4]) (by kernel_rfl) (by simp) ?_
        refine AllReadyH.cons rfl (fun K hK => ?_) AllReadyH.nil
        go_simp
        refine hK.out _ _ (hHeld) (fun hHeld => ?_)
        clear hK K
        try simp only [List.getElem_toArray, List.getElem_cons_succ, List.getElem_cons_zero, Act.put, List.setIfInBounds_toArray, List.set_cons_zero, List.set_cons_succ]
        refine wpAnyH_ready (rs := [9]) (by kernel_rfl) (by simp) ?_
        refine AllReadyH.cons rfl (fun K hK => ?_) AllReadyH.nil
        refine step_append_lies _ rfl _ _ _ rfl 0 75 i0 _ 31 256 Try.underlying53 hi hz0 hz1 hz2 rfl (by decide) _ L.length _ rfl ((HB5.out.below BC.out (Nat.le_refl _)).row.alloc _) ⟨wc.heap.size, 0, none⟩ 1 1 (nodeT L t) rfl rfl (World.news_of_block (cs := (nodeT L t).toArray) (t := 75) (fr := (0, 0)) (World.alloc_heap_new wc _)) (nodeT_one L t) Nat.one_pos hq1.out hq2.out (Nat.zero_le _) (wc.heap.size + 1) (World.size_alloc _ _) ?_
        intro g1 cap1 w6 hown6 g6 hat hlt
        have HO6 := Lib.hid hown6
        have HG6 := Lib.hid g6
        have HAT := Lib.hid hat
        have HLT := Lib.hid hlt
        clear hown6 g6 hat hlt
        have hA6 := (HG6.out.block A (by rw [World.size_alloc]; have := BC.out.size; have := HAL.out; omega) (fun e => HB5.out.apart e.symm)).trans (keepA (Lvl.keep BC.out HA5.out) (.cells (nodeT L t).toArray 75))
        have hk6 := (HG6.out.block w.heap.size (by rw [World.size_alloc]; have := BC.out.size; have := HKL.out; omega) HKV.out).trans hka
        obtain ⟨c0, c1⟩ := two_cells hA6
        have f0 := (two_free hA6).1
        refine hK.out _ _ (hk6) (fun hHeld => ?_)
        clear hK K
        try simp only [List.getElem_toArray, List.getElem_cons_succ, List.getElem_cons_zero, Act.put, List.setIfInBounds_toArray, List.set_cons_zero, List.set_cons_succ]
        refine wpAnyH_take (i := 10) (v := ?vu35x10) rfl (by kernel_rfl) (by kernel_rfl) (by kernel_rfl) (fun _ _ _ h => h) (Or.inl ⟨by rfl, ?hyu35x10⟩) (by assumption) ?restu35x10
        case hyu35x10 => (intro w' hSw; (try dsimp only at hSw); go_simp <;> with_reducible rfl)
        try simp only [List.getElem_toArray, List.getElem_cons_succ, List.getElem_cons_zero, Act.put, List.setIfInBounds_toArray, List.set_cons_zero, List.set_cons_succ]
        refine wpAnyH_take (i := 11) (v := ?vu36x11) rfl (by kernel_rfl) (by kernel_rfl) (by kernel_rfl) (fun _ _ _ h => h) (Or.inl ⟨by rfl, ?hyu36x11⟩) (by assumption) ?restu36x11
        case hyu36x11 => (intro w' hSw; (try dsimp only at hSw); go_simp <;> with_reducible rfl)
        try simp only [List.getElem_toArray, List.getElem_cons_succ, List.getElem_cons_zero, Act.put, List.setIfInBounds_toArray, List.set_cons_zero, List.set_cons_succ]
        refine wpAnyH_ready (rs := [12]) (by kernel_rfl) (by simp) ?_
        refine AllReadyH.cons rfl (fun K hK => ?_) AllReadyH.nil
        go_simp
        have hk7 : (w6.setCell ⟨A, 0, none⟩ (.slice (some ⟨g1, 0, none⟩) (L.length + 1) cap1)).heap[w.heap.size]? = some (.cells (keyT L t).toArray 73) := (RowKit.Below.heap_setCell _ _ _ _ (show (w.heap.size : Nat) ≠ A from HKA.out)).trans hk6
        refine hK.out _ _ (hk7) (fun hHeld => ?_)
        clear hK K
        try simp only [List.getElem_toArray, List.getElem_cons_succ, List.getElem_cons_zero, Act.put, List.setIfInBounds_toArray, List.set_cons_zero, List.set_cons_succ]
        refine wpAnyH_done (by kernel_rfl) ?_ _
        go_wp2_with fail
        exact bodyPost_ret (v := .tuple #[.int .i64 L.length, .bool true]) (by simp [results, Try.results29, go_sem]) rfl ⟨rfl, HFIN.out wc w6 g1 cap1 BC.out HO6.out HG6.out HAT.out HLT.out⟩
end Go.Proofs.Ytjicdmohnfcflaa

