/-
  level.At.
-/
import Derived.Test.YtfechgahafbphaaLevOps
import Derived.IntWalk
namespace Go.Proofs.Ytfechgahafbphaa
open Go.RowKit Go.Shelf Lvl
attribute [local go_sem] Oper.semAt_some

/-- Numbers for the parameters. -/
structure Lvl.Four where
  a0 : Int
  a1 : Int
  a2 : Int
  a3 : Int
def Lvl.Four.val (n : Four) : Value := .agg #[.int .i64 n.a0, .int .i64 n.a1, .int .i64 n.a2, .int .i64 n.a3]
def Lvl.Four.box (n : Four) : Obj := .cells #[.int .i64 n.a0, .int .i64 n.a1, .int .i64 n.a2, .int .i64 n.a3] 42
def Lvl.Four.at_ (n : Four) (i : Int) : Int := if i = 0 then n.a0 else if i = 1 then n.a1 else if i = 2 then n.a2 else n.a3
def Lvl.Four.fits (n : Four) : Bool := decide ((0 ≤ n.a0 ∧ n.a0 ≤ 2199023255552) ∧ (0 ≤ n.a1 ∧ n.a1 ≤ 2199023255552) ∧ (0 ≤ n.a2 ∧ n.a2 ≤ 2199023255552) ∧ (0 ≤ n.a3 ∧ n.a3 ≤ 2199023255552))
def Lvl.atAll (n : Four) (o : Int) (pre : List (Int × Int)) : Int := pre.foldl (fun o x => max o (n.at_ x.1 + x.2)) o
theorem Lvl.atAll_snoc (n : Four) (o : Int) (pre : List (Int × Int)) (x : Int × Int) : atAll n o (pre ++ [x]) = max (atAll n o pre) (n.at_ x.1 + x.2) := by
  unfold atAll; rw [List.foldl_append]; rfl
/-- What a level is at numbers. -/
def Lvl.Lv.num (l : Lv) (n : Four) : Int := if l.may = true then if n.fits = true then atAll n l.c l.ps else 0 else 0

theorem Lvl.j0 (l : Four) : ∀ w, (Instr.index 42 (.agg #[.int .i64 l.a0, .int .i64 l.a1, .int .i64 l.a2, .int .i64 l.a3]) (.int .i64 0)).run Try.prog w = .ok (.int .i64 l.a0) w := fun _ => by kernel_rfl
theorem Lvl.j1 (l : Four) : ∀ w, (Instr.index 42 (.agg #[.int .i64 l.a0, .int .i64 l.a1, .int .i64 l.a2, .int .i64 l.a3]) (.int .i64 1)).run Try.prog w = .ok (.int .i64 l.a1) w := fun _ => by kernel_rfl
theorem Lvl.j2 (l : Four) : ∀ w, (Instr.index 42 (.agg #[.int .i64 l.a0, .int .i64 l.a1, .int .i64 l.a2, .int .i64 l.a3]) (.int .i64 2)).run Try.prog w = .ok (.int .i64 l.a2) w := fun _ => by kernel_rfl
theorem Lvl.j3 (l : Four) : ∀ w, (Instr.index 42 (.agg #[.int .i64 l.a0, .int .i64 l.a1, .int .i64 l.a2, .int .i64 l.a3]) (.int .i64 3)).run Try.prog w = .ok (.int .i64 l.a3) w := fun _ => by kernel_rfl

theorem Lvl.Four.cells {l : Four} {b : Nat} {w : World} (h : w.heap[b]? = some l.box) :
    w.cell? ⟨b, 0, none⟩ = some (.int .i64 l.a0) ∧ w.cell? ⟨b, 1, none⟩ = some (.int .i64 l.a1) ∧ w.cell? ⟨b, 2, none⟩ = some (.int .i64 l.a2) ∧ w.cell? ⟨b, 3, none⟩ = some (.int .i64 l.a3) := by
  refine ⟨?_, ?_, ?_, ?_⟩ <;> (simp [World.cell?, h, Four.box])

set_option maxRecDepth 100000 in
set_option maxHeartbeats 1000000 in
theorem at_no (l : Lv) (n : Four) (w : World) (hl : l.may = false) :
    Calls Try.prog 42 #[l.val, n.val] w fun e w' => e = .returned (.int .i64 0) ∧ Below w.heap.size w w' := by
  have hmay := fun w => may_any l w
  rw [hl] at hmay
  have HM := Lib.hid hmay
  clear hmay hl
  unfold Lv.val Four.val
  go_enter Try.func42, Try.ntmps42
  go_wp2_with fail
  refine (HM.out _).mono ?_
  rintro e w1 ⟨rfl, b1⟩
  go_wp2_with fail
  go_ret
  exact ⟨rfl, (below_two w l.box n.box).trans (b1.mono (by simp; omega))⟩

set_option maxRecDepth 100000 in
set_option maxHeartbeats 1000000 in
theorem at_big (l : Lv) (n : Four) (w : World) (hl : l.may = true) (hn : n.fits = false) :
    Calls Try.prog 42 #[l.val, n.val] w fun e w' => e = .returned (.int .i64 0) ∧ Below w.heap.size w w' := by
  have hmay := fun w => may_any l w
  rw [hl] at hmay
  have HM := Lib.hid hmay
  have HN := Lib.hid (new2 w l.box n.box)
  have HB := Lib.hid hn
  clear hmay hl hn
  have j0 := j0 n
  have j1 := j1 n
  have j2 := j2 n
  have j3 := j3 n
  unfold Lv.val Four.val
  go_enter Try.func42, Try.ntmps42
  go_wp2_with fail
  refine (HM.out _).mono ?_
  rintro e w1 ⟨rfl, b1⟩
  have B1 := Lib.hid ((below_two w l.box n.box).trans (b1.mono (by simp; omega)))
  obtain ⟨c0, c1, c2, c3⟩ := Four.cells (keep b1 HN.out)
  clear b1
  go_wp2_with fail
  go_rounds 5
  all_goals first
    | (go_ret
       exact ⟨rfl, B1.out⟩)
    | (exfalso
       have h := HB.out
       simp [Four.fits] at h
       omega)

theorem Lvl.set_one {W : World} {B t : Nat} {v : Value} (h : W.heap[B]? = some (.cells #[v] t)) (u : Value) : (W.setCell ⟨B, 0, none⟩ u).heap[B]? = some (.cells #[u] t) := by
  simp [World.setCell, Array.getElem?_modify, h]
theorem Lvl.one_free {W : World} {B t : Nat} {v : Value} (h : W.heap[B]? = some (.cells #[v] t)) : W.frozen? ⟨B, 0, none⟩ = false := by
  simp [World.frozen?, h]

set_option maxRecDepth 100000 in
set_option maxHeartbeats 2000000 in
theorem at_yes (l : Lv) (n : Four) (w : World) (hl : l.may = true) (hn : n.fits = true) :
    Calls Try.prog 42 #[l.val, n.val] w fun e w' => e = .returned (.int .i64 (atAll n l.c l.ps)) ∧ Below w.heap.size w w' := by
  have hmay := fun w => may_any l w
  rw [hl] at hmay
  have hw := may_within hl
  simp only [Lv.within, decide_eq_true_eq] at hw
  obtain ⟨hc1, hc2, ⟨hp01, hp02⟩, ⟨hp11, hp12⟩, ⟨hp21, hp22⟩, ⟨hp31, hp32⟩⟩ := hw
  simp only [Four.fits, decide_eq_true_eq] at hn
  obtain ⟨⟨ha01, ha02⟩, ⟨ha11, ha12⟩, ⟨ha21, ha22⟩, ⟨ha31, ha32⟩⟩ := hn
  have HM := Lib.hid hmay
  have HL := Lib.hid (new1of2 w l.box n.box)
  have HN := Lib.hid (new2 w l.box n.box)
  clear hmay hl
  have j0 := j0 n
  have j1 := j1 n
  have j2 := j2 n
  have j3 := j3 n
  have hmax := run_max
  refine (callsIn_wide (n := 3)).1 ?_
  refine callsIn_of_wp_marks Try.func42 rfl trivial ?_ rfl
  unfold Lv.val Four.val
  simp only [Try.ntmps42, List.size_toArray, List.length_cons, List.length_nil, Nat.reduceAdd, Nat.reduceSub, Array.replicate_succ, Array.replicate_zero, List.push_toArray, List.append_toArray, List.nil_append, List.cons_append]
  gi_wp2_with fail
  refine ⟨trivial, ?_⟩
  refine (callsIn_wide.2 (HM.out _)).mono ?_
  rintro e w1 ⟨rfl, b1⟩
  have HL1 := Lib.hid (keep b1 HL.out)
  have HN1 := Lib.hid (keep b1 HN.out)
  have B1 := Lib.hid ((below_two w l.box n.box).trans (b1.mono (by simp; omega)))
  have hz := b1.size
  simp at hz
  have hz0 : w.heap.size < w1.heap.size := by omega
  have hz1 : w.heap.size + 1 < w1.heap.size := by omega
  clear hz b1
  obtain ⟨c0, c1, c2, c3, c4⟩ := Lv.cells HL1.out
  obtain ⟨d0, d1, d2, d3⟩ := Four.cells HN1.out
  gi_wp2_with fail
  refine wpIn_loop_rounds 5 ?_
  repeat any_goals (rw [roundsIn_succ]; gi_wp2_with (refine ⟨trivial, ?_⟩; gi_at_call 99; refine (callsIn_wide.2 (params_any _ _)).mono ?_; rintro e w' ⟨rfl, rfl⟩))
  have hB0 : Below w.heap.size w ((w1.alloc (.cells #[.int .i64 l.c] 3)).alloc l.box) := (B1.out.alloc (by omega) _).alloc (by simp; omega) _
  have hN0 : ((w1.alloc (.cells #[.int .i64 l.c] 3)).alloc l.box).heap[w.heap.size + 1]? = some n.box := by
    rw [Below.heap_alloc _ _ _ (by simp; omega), Below.heap_alloc _ _ _ hz1]; exact HN1.out
  clear c0 c1 c2 c3 c4 d0 d1 d2 d3 j0 j1 j2 j3
  refine wpIn_rangeFunc_ownF rfl (by omega) (gf := 137) (lb := #[.pointer (some ⟨w1.heap.size + 1, 0, none⟩)]) rfl trivial (enters_of Try.func137 (by kernel_rfl) rfl)
    (params_stops Fence.wide 2 trivial rfl (by omega) (w1.heap.size + 1) l _ (new2 w1 _ _)) (fun _ _ => trivial) (fun _ _ _ _ _ _ _ _ => trivial) (Below.refl _ _) (fun _ => rfl)
    (fun pre W => (W.heap[w1.heap.size]? = some (.cells #[.int .i64 (atAll n l.c (pre.map (·.1)))] 3) ∧ W.heap[w.heap.size + 1]? = some n.box) ∧ Below w.heap.size w W)
    (fun _ _ _ => False)
    (OwnFrom.and (Own.from (fun s A B row hs hg hr => ⟨(grownBy_keeps_cells hg hr hs.1 rfl).trans hs.1, (grownBy_keeps_cells hg hr hs.2 rfl).trans hs.2⟩) _) (ownFrom_below (Nat.le_refl _) (by simp; omega)))
    (fun _ _ _ _ _ hs _ _ => hs)
    ⟨⟨?h1, hN0⟩, hB0⟩
    (fun x => { tmps := #[.agg #[.int .i64 l.c, .int .i64 l.p0, .int .i64 l.p1, .int .i64 l.p2, .int .i64 l.p3], .agg #[.int .i64 n.a0, .int .i64 n.a1, .int .i64 n.a2, .int .i64 n.a3], .pointer (some ⟨w.heap.size, 0, none⟩), .pointer (some ⟨w.heap.size + 1, 0, none⟩), .int .i64 0, undef, .int .i64 n.a3, .pointer (some ⟨w1.heap.size, 0, none⟩), .int .i64 x.1.1, .int .i64 x.1.2, .agg #[.int .i64 l.c, .int .i64 l.p0, .int .i64 l.p1, .int .i64 l.p2, .int .i64 l.p3], .bool true, .bool false, .agg #[.int .i64 n.a0, .int .i64 n.a1, .int .i64 n.a2, .int .i64 n.a3], .int .i64 4, .bool false, .int .i64 n.a3, .int .i64 n.a3, .bool (decide (n.a3 < 0)), .bool (decide (n.a3 < 0)), .int .i64 n.a3, .bool (decide (2199023255552 < n.a3)), .bool (decide (n.a3 < 0) || decide (2199023255552 < n.a3)), .int .i64 4, .pointer (some ⟨w.heap.size, 0, none⟩), .int .i64 l.c, .agg #[.int .i64 l.c, .int .i64 l.p0, .int .i64 l.p1, .int .i64 l.p2, .int .i64 l.p3], .func (.func 137) #[] #[.pointer (some ⟨w1.heap.size + 1, 0, none⟩)], .int .i64 x.1.1, .int .i64 x.1.2, undef, undef, undef, undef, undef, undef, undef, undef], defers := [] }) ?assign ?body ?done ?stop
  case h1 => rw [Below.heap_alloc _ _ _ (by simp)]; exact World.alloc_heap_new w1 _
  case assign =>
    intro lo x W K hK
    gi_wp2
    exact hK
  case body =>
    have hmix : Try.prog.follows .mixedOrders = true := by kernel_rfl
    rintro lo pre ⟨x, hx⟩ W ⟨⟨h0, h1⟩, hB⟩ _
    obtain ⟨o, ho⟩ : ∃ o, o = atAll n l.c (pre.map (·.1)) := ⟨_, rfl⟩
    rw [← ho] at h0
    have c0 := one_cell h0
    have f0 := one_free h0
    obtain ⟨d0, d1, d2, d3⟩ := Four.cells h1
    have H0 := Lib.hid h0
    have H1 := Lib.hid h1
    have HO := Lib.hid ho
    clear h0 h1 ho
    dsimp only
    rcases mem_ps hx with ⟨rfl, hp⟩ | ⟨rfl, hp⟩ | ⟨rfl, hp⟩ | ⟨rfl, hp⟩
    · have HP := Lib.hid hp
      have HK := Lib.hid (show n.at_ 0 = n.a0 by simp [Four.at_])
      have HW := Lib.hid (IntWalk.i64_in (n.a0 + l.p0) (by omega))
      clear hp
      gi_wp2
      gi_region_with_o (fail)
      all_goals gi_wp2
      all_goals
        refine ⟨(KeepsOthers.setCell _ _ _).trans (KeepsOthers.drew _), trivial, ⟨(set_one H0.out (.int .i64 (max o (IntKind.i64.wrap (n.a0 + l.p0))))).trans ?_, cells_other H1.out _ (by omega)⟩, (hB.setCell (p := ⟨w1.heap.size, 0, none⟩) (show w.heap.size ≤ w1.heap.size by omega) _).drew⟩
        rw [HW.out, List.map_append, List.map_singleton, atAll_snoc, ← HO.out, HK.out]
    · have HP := Lib.hid hp
      have HK := Lib.hid (show n.at_ 1 = n.a1 by simp [Four.at_])
      have HW := Lib.hid (IntWalk.i64_in (n.a1 + l.p1) (by omega))
      clear hp
      gi_wp2
      gi_region_with_o (fail)
      all_goals gi_wp2
      all_goals
        refine ⟨(KeepsOthers.setCell _ _ _).trans (KeepsOthers.drew _), trivial, ⟨(set_one H0.out (.int .i64 (max o (IntKind.i64.wrap (n.a1 + l.p1))))).trans ?_, cells_other H1.out _ (by omega)⟩, (hB.setCell (p := ⟨w1.heap.size, 0, none⟩) (show w.heap.size ≤ w1.heap.size by omega) _).drew⟩
        rw [HW.out, List.map_append, List.map_singleton, atAll_snoc, ← HO.out, HK.out]
    · have HP := Lib.hid hp
      have HK := Lib.hid (show n.at_ 2 = n.a2 by simp [Four.at_])
      have HW := Lib.hid (IntWalk.i64_in (n.a2 + l.p2) (by omega))
      clear hp
      gi_wp2
      gi_region_with_o (fail)
      all_goals gi_wp2
      all_goals
        refine ⟨(KeepsOthers.setCell _ _ _).trans (KeepsOthers.drew _), trivial, ⟨(set_one H0.out (.int .i64 (max o (IntKind.i64.wrap (n.a2 + l.p2))))).trans ?_, cells_other H1.out _ (by omega)⟩, (hB.setCell (p := ⟨w1.heap.size, 0, none⟩) (show w.heap.size ≤ w1.heap.size by omega) _).drew⟩
        rw [HW.out, List.map_append, List.map_singleton, atAll_snoc, ← HO.out, HK.out]
    · have HP := Lib.hid hp
      have HK := Lib.hid (show n.at_ 3 = n.a3 by simp [Four.at_])
      have HW := Lib.hid (IntWalk.i64_in (n.a3 + l.p3) (by omega))
      clear hp
      gi_wp2
      gi_region_with_o (fail)
      all_goals gi_wp2
      all_goals
        refine ⟨(KeepsOthers.setCell _ _ _).trans (KeepsOthers.drew _), trivial, ⟨(set_one H0.out (.int .i64 (max o (IntKind.i64.wrap (n.a3 + l.p3))))).trans ?_, cells_other H1.out _ (by omega)⟩, (hB.setCell (p := ⟨w1.heap.size, 0, none⟩) (show w.heap.size ≤ w1.heap.size by omega) _).drew⟩
        rw [HW.out, List.map_append, List.map_singleton, atAll_snoc, ← HO.out, HK.out]
  case done =>
    rintro D ys W hD hys ⟨⟨h0, h1⟩, hB⟩ hK
    have c0 := one_cell h0
    have HK := Lib.hid hK
    have HY := Lib.hid hys
    clear h0 h1 hK hys
    gi_wp2
    refine ⟨by simp, .inl ⟨_, _, rfl, run_takeDeferred HK.out, ?_⟩⟩
    exact ⟨_, results_tmp rfl _ _ _, by rw [HY.out]; rfl, hB.trans (belowK_b (w := w) (Nat.le_refl _) W D _ _ (by simp at hD; omega) HK.out rfl rfl)⟩
  case stop =>
    rintro D c pre W _ _ h _
    exact h.elim

theorem at_any (l : Lv) (n : Four) (w : World) :
    Calls Try.prog 42 #[l.val, n.val] w fun e w' => e = .returned (.int .i64 (l.num n)) ∧ Below w.heap.size w w' := by
  unfold Lv.num
  cases hl : l.may
  · exact at_no l n w hl
  · cases hn : n.fits
    · exact at_big l n w hl hn
    · exact at_yes l n w hl hn
end Go.Proofs.Ytfechgahafbphaa
