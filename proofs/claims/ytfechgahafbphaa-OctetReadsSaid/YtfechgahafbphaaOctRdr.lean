/-
  The reader of package octet in memory, and the contracts of its small methods: New, good, Fail, stop, Bad, At, Left.
-/
import Derived.Test.YtfechgahafbphaaOctPutName
import Derived.Laws.AppendOwnNone
import Derived.OneCell
import Derived.BigQuiet
import Derived.Deep.QuietTactic
import Derived.Deep.RegionHeld3
import Derived.WalkLawsBesides
namespace Go.Proofs.Ytfechgahafbphaa
open Go.RowKit Oct

/-- Block R is a reader (its bytes in memory of its own, from block B on) in the state s. -/
structure Oct.Rdr (B : Nat) (w : World) (R : Nat) (v : Value) (s : St) : Prop where
  at_ : s.p ≤ s.bs.length
  small : s.bs.length ≤ 1000000
  low : B ≤ R
  row : w.heap[R]? = some (.cells #[v, .int .i64 s.p, .int .i64 s.bad, .int .i64 s.err] 97 (0, 0)) ∧ w.ownsRow B 5 1 v s.bs.length (cells s.bs)

/-- The reader's pointer. -/
def Oct.ptr (R : Nat) : Value := .pointer (some ⟨R, 0, none⟩)

theorem Oct.four_cells {w : World} {R : Nat} {v : Value} {p bad err : Int} (h : w.heap[R]? = some (.cells #[v, .int .i64 p, .int .i64 bad, .int .i64 err] 97 (0, 0))) :
    w.cell? ⟨R, 0, none⟩ = some v ∧ w.cell? ⟨R, 1, none⟩ = some (.int .i64 p) ∧ w.cell? ⟨R, 2, none⟩ = some (.int .i64 bad) ∧ w.cell? ⟨R, 3, none⟩ = some (.int .i64 err) := by
  refine ⟨?_, ?_, ?_, ?_⟩ <;> (simp [World.cell?, h])
theorem Oct.four_free {w : World} {R : Nat} {v : Value} {p bad err : Int} (h : w.heap[R]? = some (.cells #[v, .int .i64 p, .int .i64 bad, .int .i64 err] 97 (0, 0))) (i : Nat) :
    w.frozen? ⟨R, i, none⟩ = false := by
  simp [World.frozen?, h]

theorem Oct.own_shape {w : World} {B : Nat} {v : Value} {n : Nat} {xs : List Value} (h : w.ownsRow B 5 1 v n xs) : ∃ ao c, v = .slice ao n c := by
  rcases h.2 with ⟨h1, h2⟩ | ⟨g, cap, cur, h1, _⟩
  · exact ⟨_, _, by rw [h1, h2]⟩
  · exact ⟨_, _, h1⟩

/-- A new reader at place 0. -/
def Oct.NewPost (w : World) (bs : List UInt8) (e : Ending) (w' : World) : Prop :=
  ∃ R v, e = .returned (ptr R) ∧ Rdr w.heap.size w' R v ⟨bs, 0, 0, 0⟩ ∧ Below w.heap.size w w'

theorem Oct.new_end {w w1 : World} {bs : List UInt8} {v : Value} (hl : bs.length ≤ 1000000) (own1 : w1.ownsRow w.heap.size 5 1 v bs.length (cells bs)) (b1 : Below w.heap.size w w1) :
    NewPost w bs (.returned (.pointer (some ⟨w1.heap.size, 0, none⟩))) (w1.alloc (.cells #[v, .int .i64 0, .int .i64 0, .int .i64 0] 97)) := by
  refine ⟨w1.heap.size, v, rfl, ⟨Nat.zero_le _, hl, b1.size, heap_alloc_new _ _, own1.alloc _⟩, b1.alloc b1.size _⟩

set_option maxRecDepth 100000 in
set_option maxHeartbeats 1000000 in
theorem new_any (w : World) (ao : Option Addr) (cap : Nat) (bs : List UInt8) (hb : Row w ao cap bs) (hl : bs.length ≤ 1000000) :
    Calls Try.prog 16 #[.slice ao bs.length cap] w (NewPost w bs) := by
  obtain ⟨i0, hi, hz0, hz1, hz2⟩ := info_parts Try.info5
  cases ao with
  | none =>
    obtain ⟨h1, h2⟩ := hb.nil rfl
    obtain rfl : bs = [] := List.eq_nil_of_length_eq_zero h1
    subst h2
    go_enter Try.func16, Try.ntmps16
    go_wp2_with fail
    go_ret
    exact new_end hl (World.ownsRow_nil _ _ _ _) (Below.refl _ _)
  | some a =>
    go_enter Try.func16, Try.ntmps16
    go_wp2_with (at_builtin; refine wpList_append_own _ rfl _ _ 22 rfl w.heap.size 5 i0 (.int .u8 0) 1 1 Try.underlying22 hi hz0 hz1 hz2 rfl (by decide) (.slice none 0 0) 0 [] rfl (World.ownsRow_nil _ _ _ _) a bs.length cap (cells bs) rfl (by simp [cells_length]) (hb.cell a rfl) (cells_one _) (by unfold maxLen; omega) (by omega) (Nat.le_refl _) ?_; intro v' w1 own1 g1 _; obtain ⟨ao', c', rfl⟩ := own_shape own1)
    go_ret
    exact new_end hl (by simpa using own1) ((Below.refl _ _).grown g1 (Nat.le_refl _) (by simp [Value.ownBlock]))


/-- Behind a call that only read: it returned x. -/
def Oct.JustRead (w : World) (x : Value) (e : Ending) (w' : World) : Prop := e = .returned x ∧ ∃ n, w' = w.drewN n
/-- Behind a call that turned the reader at R alone: it returned x, and the reader's state is s. -/
def Oct.Turned (B : Nat) (w : World) (R : Nat) (v x : Value) (s : St) (e : Ending) (w' : World) : Prop := e = .returned x ∧ Rdr B w' R v s ∧ w.grownBy w' (some R)

theorem Oct.Rdr.lt {B : Nat} {w : World} {R : Nat} {v : Value} {s : St} (h : Rdr B w R v s) : R < w.heap.size := by
  obtain ⟨h1, _⟩ := h.row
  exact (Array.getElem?_eq_some_iff.1 h1).1

/-- A reader stays as it is where others are written. -/
theorem Oct.Rdr.kept {B : Nat} {w w' : World} {R : Nat} {v : Value} {s : St} {row : Option Nat} (h : Rdr B w R v s) (g : w.grownBy w' row) (hR : some R ≠ row) (hown : v.ownBlock = none ∨ v.ownBlock ≠ row) : Rdr B w' R v s := by
  obtain ⟨h1, h2⟩ := h.row
  exact ⟨h.at_, h.small, h.low, by rw [g.block R h.lt hR]; exact h1, h2.kept g hown⟩
theorem Oct.Rdr.drewN {B : Nat} {w : World} {R : Nat} {v : Value} {s : St} (h : Rdr B w R v s) (n : Nat) : Rdr B (w.drewN n) R v s := by
  obtain ⟨a, b⟩ := h.row
  exact ⟨h.at_, h.small, h.low, by simpa using a, by simpa [World.ownsRow] using b⟩

set_option maxRecDepth 100000 in
set_option maxHeartbeats 1000000 in
theorem good_any (B : Nat) (w : World) (R : Nat) (v : Value) (s : St) (hr : Rdr B w R v s) :
    Calls Try.prog 85 #[ptr R] w (Says w (s.err == 0)) := by
  obtain ⟨hh, _⟩ := hr.row
  obtain ⟨c0, c1, c2, c3⟩ := four_cells hh
  clear hr hh
  unfold ptr
  go_enter Try.func85, Try.ntmps85
  go_wp2
  go_ret
  exact ⟨rfl, rfl⟩
theorem good_yes (B : Nat) (w : World) (R : Nat) (v : Value) (s : St) (hr : Rdr B w R v s) (he : s.err = 0) :
    Calls Try.prog 85 #[ptr R] w (Says w true) := by
  have h := good_any B w R v s hr
  rwa [show (s.err == 0) = true by simp [he]] at h
theorem good_no (B : Nat) (w : World) (R : Nat) (v : Value) (s : St) (hr : Rdr B w R v s) (he : s.err ≠ 0) :
    Calls Try.prog 85 #[ptr R] w (Says w false) := by
  have h := good_any B w R v s hr
  rwa [show (s.err == 0) = false by simp [he]] at h
theorem good_nil (w : World) : Calls Try.prog 85 #[.pointer none] w (Says w false) := by
  go_enter Try.func85, Try.ntmps85
  go_wp2
  go_ret
  exact ⟨rfl, rfl⟩

theorem Oct.grownBy_self (w : World) (row : Option Nat) : w.grownBy w row := ⟨rfl, rfl, rfl, Nat.le_refl _, fun _ _ _ => rfl⟩

/-- Two stores into the reader: its first error. -/
theorem Oct.Rdr.setErr {B : Nat} {w : World} {R : Nat} {v : Value} {s : St} (h : Rdr B w R v s) (k e : Int) :
    Rdr B ((w.setCell ⟨R, 2, none⟩ (.int .i64 k)).setCell ⟨R, 3, none⟩ (.int .i64 e)) R v { s with bad := k, err := e } ∧ w.grownBy ((w.setCell ⟨R, 2, none⟩ (.int .i64 k)).setCell ⟨R, 3, none⟩ (.int .i64 e)) (some R) := by
  obtain ⟨h1, h2⟩ := h.row
  have hg : w.grownBy ((w.setCell ⟨R, 2, none⟩ (.int .i64 k)).setCell ⟨R, 3, none⟩ (.int .i64 e)) (some R) := by
    refine ⟨rfl, rfl, rfl, by simp [World.setCell], fun j _ hj => ?_⟩
    have hj' : j ≠ R := fun e => hj (by rw [e])
    rw [Below.heap_setCell _ _ _ _ hj', Below.heap_setCell _ _ _ _ hj']
  refine ⟨⟨h.at_, h.small, h.low, ?_, h2.kept hg ?_⟩, hg⟩
  · simp [World.setCell, Array.getElem?_modify, h1]
  · rcases h2.2 with ⟨rfl, _⟩ | ⟨g, cap, cur, rfl, _, hgg, _⟩
    · exact .inl rfl
    · refine .inr ?_
      simp only [Value.ownBlock, ne_eq, Option.some.injEq]
      rintro rfl
      rw [hgg] at h1
      simp at h1

set_option maxRecDepth 100000 in
set_option maxHeartbeats 1000000 in
theorem fail_any (B : Nat) (w : World) (R : Nat) (v : Value) (s : St) (hr : Rdr B w R v s) (k e : Int) :
    Calls Try.prog 23 #[ptr R, .int .i64 k, .int .i64 e] w (Turned B w R v (.tuple #[]) (s.fail k e)) := by
  by_cases h0 : e = 0
  · have hf : s.fail k e = s := by simp [St.fail, h0]
    rw [hf]
    subst h0
    clear hf
    go_enter Try.func23, Try.ntmps23
    go_wp2_with fail
    go_end0
    exact ⟨rfl, hr, grownBy_self _ _⟩
  · have hb : (e == 0) = false := by simp [h0]
    by_cases h1 : s.err = 0
    · have hf : s.fail k e = { s with bad := k, err := e } := by simp [St.fail, h0, h1]
      rw [hf]
      have H1 := Lib.hid h1
      clear hf h1 h0
      obtain ⟨hh, _⟩ := hr.row
      obtain ⟨c0, c1, c2, c3⟩ := four_cells hh
      have f2 := four_free hh 2
      have f3 := four_free hh 3
      go_enter Try.func23, Try.ntmps23
      go_wp2_with (go_at_call 85; refine (good_yes B _ R v s hr H1.out).mono ?_; rintro e w' ⟨rfl, rfl⟩; unfold ptr)
      go_end0
      exact ⟨rfl, hr.setErr k e⟩
    · have hf : s.fail k e = s := by simp [St.fail, h1]
      rw [hf]
      have H1 := Lib.hid h1
      clear hf h1 h0
      go_enter Try.func23, Try.ntmps23
      go_wp2_with (go_at_call 85; refine (good_no B _ R v s hr H1.out).mono ?_; rintro e w' ⟨rfl, rfl⟩)
      go_end0
      exact ⟨rfl, hr, grownBy_self _ _⟩
theorem fail_nil (w : World) (k e : Int) : Calls Try.prog 23 #[.pointer none, .int .i64 k, .int .i64 e] w fun x w' => x = .returned (.tuple #[]) ∧ w = w' := by
  cases hb : (e == 0)
  all_goals
    go_enter Try.func23, Try.ntmps23
    go_wp2_with (go_at_call 85; refine (good_nil _).mono ?_; rintro x w' ⟨rfl, rfl⟩)
    refine bodyPost_ret (results_none rfl _ _ _) rfl ?_
    exact ⟨rfl, rfl⟩

set_option maxRecDepth 100000 in
set_option maxHeartbeats 1000000 in
theorem stop_any (B : Nat) (w : World) (R : Nat) (v : Value) (s : St) (hr : Rdr B w R v s) (e : Int) :
    Calls Try.prog 87 #[ptr R, .int .i64 e] w (Turned B w R v (.tuple #[]) (s.stop e)) := by
  obtain ⟨hh, _⟩ := hr.row
  obtain ⟨c0, c1, c2, c3⟩ := four_cells hh
  have H := Lib.hid hr
  clear hr hh
  unfold ptr
  go_enter Try.func87, Try.ntmps87
  go_wp2_with (go_at_call 23; refine (fail_any B _ R v s H.out s.p e).mono ?_; rintro e w' ⟨rfl, hr', hg⟩)
  go_end0
  exact ⟨rfl, hr', hg⟩

set_option maxRecDepth 100000 in
set_option maxHeartbeats 1000000 in
theorem bad_any (B : Nat) (w : World) (R : Nat) (v : Value) (s : St) (hr : Rdr B w R v s) :
    Calls Try.prog 25 #[ptr R] w (JustRead w (.tuple #[.int .i64 s.bad, .int .i64 s.err])) := by
  obtain ⟨hh, _⟩ := hr.row
  obtain ⟨c0, c1, c2, c3⟩ := four_cells hh
  clear hr hh
  unfold ptr
  go_enter Try.func25, Try.ntmps25
  go_wp2
  go_quiet (fail)
  go_wp2
  go_ret2
  exact ⟨rfl, _, rfl⟩
theorem bad_nil (w : World) : Calls Try.prog 25 #[.pointer none] w fun e w' => e = .returned (.tuple #[.int .i64 0, .int .i64 1]) ∧ w = w' := by
  go_enter Try.func25, Try.ntmps25
  go_wp2
  go_ret2
  exact ⟨rfl, rfl⟩

set_option maxRecDepth 100000 in
set_option maxHeartbeats 1000000 in
theorem at_any (B : Nat) (w : World) (R : Nat) (v : Value) (s : St) (hr : Rdr B w R v s) :
    Calls Try.prog 26 #[ptr R] w fun e w' => e = .returned (.int .i64 s.p) ∧ w = w' := by
  obtain ⟨hh, _⟩ := hr.row
  obtain ⟨c0, c1, c2, c3⟩ := four_cells hh
  clear hr hh
  unfold ptr
  go_enter Try.func26, Try.ntmps26
  go_wp2
  go_ret
  exact ⟨rfl, rfl⟩
theorem at_nil (w : World) : Calls Try.prog 26 #[.pointer none] w fun e w' => e = .returned (.int .i64 0) ∧ w = w' := by
  go_enter Try.func26, Try.ntmps26
  go_wp2
  go_ret
  exact ⟨rfl, rfl⟩

set_option maxRecDepth 100000 in
set_option maxHeartbeats 1000000 in
theorem left_any (B : Nat) (w : World) (R : Nat) (v : Value) (s : St) (hr : Rdr B w R v s) :
    Calls Try.prog 27 #[ptr R] w (JustRead w (.int .i64 ((s.bs.length : Int) - s.p))) := by
  obtain ⟨hh, hown⟩ := hr.row
  obtain ⟨ao, c, hv⟩ := own_shape hown
  subst hv
  obtain ⟨c0, c1, c2, c3⟩ := four_cells hh
  have ha := hr.at_
  have hs := hr.small
  clear hr hh hown
  unfold ptr
  go_enter Try.func27, Try.ntmps27
  go_wp2
  go_quiet (fail)
  go_wp2
  go_ret
  exact ⟨rfl, _, rfl⟩
theorem left_nil (w : World) : Calls Try.prog 27 #[.pointer none] w fun e w' => e = .returned (.int .i64 0) ∧ w = w' := by
  go_enter Try.func27, Try.ntmps27
  go_wp2
  go_ret
  exact ⟨rfl, rfl⟩
theorem number_nil (w : World) (n : Int) : Calls Try.prog 17 #[.pointer none, .int .u64 n] w fun e w' => e = .returned (.int .u64 0) ∧ w = w' := by
  go_enter Try.func17, Try.ntmps17
  go_wp2_with (go_at_call 85; refine (good_nil _).mono ?_; rintro e w' ⟨rfl, rfl⟩)
  go_ret
  exact ⟨rfl, rfl⟩
theorem byte_nil (w : World) : Calls Try.prog 19 #[.pointer none] w fun e w' => e = .returned (.int .u8 0) ∧ w = w' := by
  go_enter Try.func19, Try.ntmps19
  go_wp2_with (go_at_call 85; refine (good_nil _).mono ?_; rintro e w' ⟨rfl, rfl⟩)
  go_ret
  exact ⟨rfl, rfl⟩
theorem rname_nil (w : World) : Calls Try.prog 21 #[.pointer none] w fun e w' => e = .returned (.string ⟨#[]⟩) ∧ w = w' := by
  go_enter Try.func21, Try.ntmps21
  go_wp2_with (go_at_call 85; refine (good_nil _).mono ?_; rintro e w' ⟨rfl, rfl⟩)
  go_ret
  exact ⟨rfl, rfl⟩
end Go.Proofs.Ytfechgahafbphaa
