/-
  level.params: the parameters that a level has, one behind the other.
-/
import Derived.Test.YtijdlihodpodjaaLevPlain
import Derived.Test.YtijdlihodpodjaaRows
import Derived.RangeFuncNested
import Derived.RangeFuncBound
import Derived.RangeFuncCalls
import Derived.RangeFuncLeaves
import Derived.RangeFuncFrom
import Derived.Shelf.Abstract
import Derived.Shelf.RegionOpen
import Derived.WalkKit
import Derived.OwnWalkIn
import Derived.TacticsInMore
import Derived.LoopNIn
import Derived.LoopIn
import Derived.Outline
import Derived.Lib.Hide
namespace Go.Proofs.Ytijdlihodpodjaa
open Go.RowKit Go.Shelf Lvl
attribute [local go_sem] Oper.semAt_some

/-- A level as a value, and in a block of its own. -/
def Lvl.Lv.val (l : Lv) : Value := .agg #[.int .i64 l.c, .int .i64 l.p0, .int .i64 l.p1, .int .i64 l.p2, .int .i64 l.p3]
def Lvl.Lv.box (l : Lv) : Obj := .cells #[.int .i64 l.c, .int .i64 l.p0, .int .i64 l.p1, .int .i64 l.p2, .int .i64 l.p3] 83


set_option maxRecDepth 100000 in
theorem params_any (l : Lv) (w : World) :
    Calls Try.prog 124 #[l.val] w fun e w' => e = .returned (.func (.func 144) #[] #[.pointer (some ⟨w.heap.size, 0, none⟩)]) ∧ w.alloc l.box = w' := by
  unfold Lv.val
  go_enter Try.func124, Try.ntmps124
  go_wp2
  go_ret
  exact ⟨rfl, rfl⟩

abbrev Lvl.Pm (l : Lv) : Type := { x : Int × Int // x ∈ l.ps }
abbrev Lvl.encs (l : Lv) (x : Pm l) : Array Value := #[.int .i64 x.1.1, .int .i64 x.1.2]


theorem Lvl.Lv.cells {l : Lv} {b : Nat} {w : World} (h : w.heap[b]? = some l.box) :
    w.cell? ⟨b, 0, none⟩ = some (.int .i64 l.c) ∧ w.cell? ⟨b, 1, none⟩ = some (.int .i64 l.p0) ∧ w.cell? ⟨b, 2, none⟩ = some (.int .i64 l.p1) ∧ w.cell? ⟨b, 3, none⟩ = some (.int .i64 l.p2) ∧ w.cell? ⟨b, 4, none⟩ = some (.int .i64 l.p3) := by
  refine ⟨?_, ?_, ?_, ?_, ?_⟩ <;> (simp [World.cell?, h, Lv.box])
theorem Lvl.Lv.free {l : Lv} {b : Nat} {w : World} (h : w.heap[b]? = some l.box) (i : Nat) : w.frozen? ⟨b, i, none⟩ = false := by
  simp [World.frozen?, h, Lv.box]

set_option maxRecDepth 100000 in
set_option maxHeartbeats 1000000 in
/-- The parameters of a level come one behind the other. -/
theorem params_stops (F : Fence) (n : Nat) (h37 : F.fn 144) (hro : F.round = none) (hn : 1 ≤ n) (Bn : Nat) (l : Lv) (w : World) (hB : w.heap[Bn]? = some l.box) :
    SeqStopsK F n Try.prog 144 #[.pointer (some ⟨Bn, 0, none⟩)] (encs l) (fun _ _ => True) (fun xs => xs.map (·.1) = l.ps) (fun pre => pre.map (·.1) <+: l.ps) l.ps.length w := fun lo J Jx W hW _ _ hY h0 => by
  have hB' : W.heap[Bn]? = some l.box := by rw [hW.block _ ((Array.getElem?_eq_some_iff.1 hB).1)]; exact hB
  obtain ⟨_, c1, c2, c3, c4⟩ := Lv.cells hB'
  have i0 : ∀ w, (Instr.index 81 (.agg #[.int .i64 l.p0, .int .i64 l.p1, .int .i64 l.p2, .int .i64 l.p3]) (.int .i64 0)).run Try.prog w = .ok (.int .i64 l.p0) w := fun _ => by kernel_rfl
  have i1 : ∀ w, (Instr.index 81 (.agg #[.int .i64 l.p0, .int .i64 l.p1, .int .i64 l.p2, .int .i64 l.p3]) (.int .i64 1)).run Try.prog w = .ok (.int .i64 l.p1) w := fun _ => by kernel_rfl
  have i2 : ∀ w, (Instr.index 81 (.agg #[.int .i64 l.p0, .int .i64 l.p1, .int .i64 l.p2, .int .i64 l.p3]) (.int .i64 2)).run Try.prog w = .ok (.int .i64 l.p2) w := fun _ => by kernel_rfl
  have i3 : ∀ w, (Instr.index 81 (.agg #[.int .i64 l.p0, .int .i64 l.p1, .int .i64 l.p2, .int .i64 l.p3]) (.int .i64 3)).run Try.prog w = .ok (.int .i64 l.p3) w := fun _ => by kernel_rfl
  clear hB hB'
  refine callsIn_of_wp Try.func144 rfl h37 ?_ hro
  simp only [Try.ntmps144, List.size_toArray, List.length_cons, List.length_nil, Nat.reduceAdd, Nat.reduceSub, Array.replicate_succ, Array.replicate_zero, List.push_toArray, List.append_toArray, List.nil_append, List.cons_append]
  gi_wp2
  gi_loopw [7] (fun i wr => ∃ (k : Nat) (pre : List (Pm l)), i = .int .i64 k ∧ k ≤ 4 ∧ pre.map (·.1) = l.upto k ∧ J pre wr) (fun i wr => 4 - (intOf i).toNat)
  case atStart => exact ⟨0, [], rfl, by omega, rfl, h0⟩
  case round =>
    obtain ⟨k, pre, rfl, hk, hpre, hJ⟩ := hrel
    have hk5 : k = 0 ∨ k = 1 ∨ k = 2 ∨ k = 3 ∨ k = 4 := by omega
    rcases hk5 with rfl | rfl | rfl | rfl | rfl
    · by_cases hp : l.p0 = -1
      · have hpb : (l.p0 != -1) = false := by simp [hp]
        have HP := Lib.hid hp
        clear hp
        gi_wp2
        refine ⟨fun _ h => (by cases h), ?_⟩
        gi_wp2
        go_roundw
        case rel => exact ⟨1, pre, rfl, by omega, by rw [hpre, l.upto_skip 0 (by omega) HP.out], hJ⟩
        case measure => simp [intOf]
      · have hpb : (l.p0 != -1) = true := by simp [hp]
        obtain ⟨hm, hlen, hup⟩ := l.upto_mem 0 (by omega) hp
        obtain ⟨fn, tmps, assign, body, hy, hR⟩ := hY pre ⟨(0, l.p0), hm⟩ wr hJ (by rw [← hpre] at hlen; simpa using hlen)
        dsimp only [encs] at hy
        have HP := Lib.hid hp
        have HU := Lib.hid hup
        have HE := Lib.hid hpre
        clear hp hup hpre hlen
        gi_wp2
        refine hR.mono ?_
        rintro e W' (⟨rfl, hJ', _⟩ | ⟨rfl, hJx⟩)
        · gi_wp2
          go_roundw
          case rel => exact ⟨1, pre ++ [⟨(0, l.p0), hm⟩], rfl, by omega, by rw [List.map_append, HE.out]; exact HU.out.symm, hJ'⟩
          case measure => simp [intOf]
        · gi_wp2
          refine bodyPost_ret (results_none rfl _ _ _) rfl ?_
          exact ⟨⟨_, rfl⟩, .inr ⟨_, by rw [List.map_append, HE.out]; exact (show l.upto 0 ++ [((0 : Int), l.p0)] = l.upto 1 from HU.out.symm) ▸ l.upto_prefix 1, hJx⟩⟩
    · by_cases hp : l.p1 = -1
      · have hpb : (l.p1 != -1) = false := by simp [hp]
        have HP := Lib.hid hp
        clear hp
        gi_wp2
        refine ⟨fun _ h => (by cases h), ?_⟩
        gi_wp2
        go_roundw
        case rel => exact ⟨2, pre, rfl, by omega, by rw [hpre, l.upto_skip 1 (by omega) HP.out], hJ⟩
        case measure => simp [intOf]
      · have hpb : (l.p1 != -1) = true := by simp [hp]
        obtain ⟨hm, hlen, hup⟩ := l.upto_mem 1 (by omega) hp
        obtain ⟨fn, tmps, assign, body, hy, hR⟩ := hY pre ⟨(1, l.p1), hm⟩ wr hJ (by rw [← hpre] at hlen; simpa using hlen)
        dsimp only [encs] at hy
        have HP := Lib.hid hp
        have HU := Lib.hid hup
        have HE := Lib.hid hpre
        clear hp hup hpre hlen
        gi_wp2
        refine hR.mono ?_
        rintro e W' (⟨rfl, hJ', _⟩ | ⟨rfl, hJx⟩)
        · gi_wp2
          go_roundw
          case rel => exact ⟨2, pre ++ [⟨(1, l.p1), hm⟩], rfl, by omega, by rw [List.map_append, HE.out]; exact HU.out.symm, hJ'⟩
          case measure => simp [intOf]
        · gi_wp2
          refine bodyPost_ret (results_none rfl _ _ _) rfl ?_
          exact ⟨⟨_, rfl⟩, .inr ⟨_, by rw [List.map_append, HE.out]; exact (show l.upto 1 ++ [((1 : Int), l.p1)] = l.upto 2 from HU.out.symm) ▸ l.upto_prefix 2, hJx⟩⟩
    · by_cases hp : l.p2 = -1
      · have hpb : (l.p2 != -1) = false := by simp [hp]
        have HP := Lib.hid hp
        clear hp
        gi_wp2
        refine ⟨fun _ h => (by cases h), ?_⟩
        gi_wp2
        go_roundw
        case rel => exact ⟨3, pre, rfl, by omega, by rw [hpre, l.upto_skip 2 (by omega) HP.out], hJ⟩
        case measure => simp [intOf]
      · have hpb : (l.p2 != -1) = true := by simp [hp]
        obtain ⟨hm, hlen, hup⟩ := l.upto_mem 2 (by omega) hp
        obtain ⟨fn, tmps, assign, body, hy, hR⟩ := hY pre ⟨(2, l.p2), hm⟩ wr hJ (by rw [← hpre] at hlen; simpa using hlen)
        dsimp only [encs] at hy
        have HP := Lib.hid hp
        have HU := Lib.hid hup
        have HE := Lib.hid hpre
        clear hp hup hpre hlen
        gi_wp2
        refine hR.mono ?_
        rintro e W' (⟨rfl, hJ', _⟩ | ⟨rfl, hJx⟩)
        · gi_wp2
          go_roundw
          case rel => exact ⟨3, pre ++ [⟨(2, l.p2), hm⟩], rfl, by omega, by rw [List.map_append, HE.out]; exact HU.out.symm, hJ'⟩
          case measure => simp [intOf]
        · gi_wp2
          refine bodyPost_ret (results_none rfl _ _ _) rfl ?_
          exact ⟨⟨_, rfl⟩, .inr ⟨_, by rw [List.map_append, HE.out]; exact (show l.upto 2 ++ [((2 : Int), l.p2)] = l.upto 3 from HU.out.symm) ▸ l.upto_prefix 3, hJx⟩⟩
    · by_cases hp : l.p3 = -1
      · have hpb : (l.p3 != -1) = false := by simp [hp]
        have HP := Lib.hid hp
        clear hp
        gi_wp2
        refine ⟨fun _ h => (by cases h), ?_⟩
        gi_wp2
        go_roundw
        case rel => exact ⟨4, pre, rfl, by omega, by rw [hpre, l.upto_skip 3 (by omega) HP.out], hJ⟩
        case measure => simp [intOf]
      · have hpb : (l.p3 != -1) = true := by simp [hp]
        obtain ⟨hm, hlen, hup⟩ := l.upto_mem 3 (by omega) hp
        obtain ⟨fn, tmps, assign, body, hy, hR⟩ := hY pre ⟨(3, l.p3), hm⟩ wr hJ (by rw [← hpre] at hlen; simpa using hlen)
        dsimp only [encs] at hy
        have HP := Lib.hid hp
        have HU := Lib.hid hup
        have HE := Lib.hid hpre
        clear hp hup hpre hlen
        gi_wp2
        refine hR.mono ?_
        rintro e W' (⟨rfl, hJ', _⟩ | ⟨rfl, hJx⟩)
        · gi_wp2
          go_roundw
          case rel => exact ⟨4, pre ++ [⟨(3, l.p3), hm⟩], rfl, by omega, by rw [List.map_append, HE.out]; exact HU.out.symm, hJ'⟩
          case measure => simp [intOf]
        · gi_wp2
          refine bodyPost_ret (results_none rfl _ _ _) rfl ?_
          exact ⟨⟨_, rfl⟩, .inr ⟨_, by rw [List.map_append, HE.out]; exact (show l.upto 3 ++ [((3 : Int), l.p3)] = l.upto 4 from HU.out.symm) ▸ l.upto_prefix 4, hJx⟩⟩
    · gi_wp2
      go_end0
      exact ⟨⟨_, rfl⟩, .inl ⟨pre, hpre, hJ⟩⟩
end Go.Proofs.Ytijdlihodpodjaa
