/-
  Slices of levels; level.allMay.
-/
import Derived.Test.YtijdlihodpodjaaLevMay
namespace Go.Proofs.Ytijdlihodpodjaa
open Go.RowKit Go.Shelf Lvl

/-- A level lies at an address. -/
def Lvl.LAt (w : World) (b o : Nat) (l : Lv) : Prop :=
  w.cell? ⟨b, o, none⟩ = some (.int .i64 l.c) ∧ w.cell? ⟨b, o + 1, none⟩ = some (.int .i64 l.p0) ∧ w.cell? ⟨b, o + 2, none⟩ = some (.int .i64 l.p1) ∧ w.cell? ⟨b, o + 3, none⟩ = some (.int .i64 l.p2) ∧ w.cell? ⟨b, o + 4, none⟩ = some (.int .i64 l.p3)
/-- The slice at this address, as long as ls, reads as ls. -/
structure Lvl.LRow (w : World) (ao : Option Addr) (ls : List Lv) : Prop where
  place : ∀ k (h : k < ls.length), ∃ b off, ao = some ⟨b, off, none⟩ ∧ LAt w b (off + k * 5) ls[k]
theorem Lvl.LAt.below {w0 w1 : World} {b o B : Nat} {l : Lv} (h : LAt w0 b o l) (g : Below B w0 w1) (hb : b < B) : LAt w1 b o l := by
  obtain ⟨h0, h1, h2, h3, h4⟩ := h
  exact ⟨(g.cell (p := ⟨b, _, none⟩) hb).trans h0, (g.cell (p := ⟨b, _, none⟩) hb).trans h1, (g.cell (p := ⟨b, _, none⟩) hb).trans h2, (g.cell (p := ⟨b, _, none⟩) hb).trans h3, (g.cell (p := ⟨b, _, none⟩) hb).trans h4⟩
theorem Lvl.LRow.below {w0 w1 : World} {ao : Option Addr} {ls : List Lv} (h : LRow w0 ao ls) (g : Below w0.heap.size w0 w1) : LRow w1 ao ls := by
  refine ⟨fun k hk => ?_⟩
  obtain ⟨b, off, hao, ha⟩ := h.place k hk
  exact ⟨b, off, hao, ha.below g (World.block_lt_of_cell? w0 _ ha.1)⟩

def Lvl.AllRel (w : World) (ls : List Lv) (i : Value) (wr : World) : Prop :=
  ∃ k : Nat, i = .int .i64 k ∧ k ≤ ls.length ∧ (ls.take k).all Lv.may = true ∧ Below w.heap.size w wr

theorem Lvl.all_take_no {ls : List Lv} {k : Nat} (hk : k < ls.length) (h : (ls[k]).may = false) : ls.all Lv.may = false := by
  rw [List.all_eq_false]
  exact ⟨ls[k], List.getElem_mem hk, by simp [h]⟩
theorem Lvl.all_take_yes {ls : List Lv} {k : Nat} (hk : k < ls.length) (ht : (ls.take k).all Lv.may = true) (h : (ls[k]).may = true) : (ls.take (k + 1)).all Lv.may = true := by
  rw [List.take_succ_eq_append_getElem hk, List.all_append, ht]
  simp [h]

set_option maxRecDepth 100000 in
set_option maxHeartbeats 1000000 in
theorem allMay_any (ao : Option Addr) (cap : Nat) (ls : List Lv) (w : World) (hr : LRow w ao ls) (hn : ls.length ≤ 9000000000000000000) :
    Calls Try.prog 122 #[.slice ao ls.length cap] w fun e w' => e = .returned (.bool (ls.all Lv.may)) ∧ Below w.heap.size w w' := by
  have HR := Lib.hid hr
  clear hr
  go_enter Try.func122, Try.ntmps122
  go_wp2
  go_loopw [7] (fun i wr => AllRel w ls i wr) (fun i _ => ls.length - (intOf i).toNat)
  case atStart => exact ⟨0, rfl, Nat.zero_le _, rfl, Below.refl _ _⟩
  case round =>
    obtain ⟨k, rfl, hk, hall, hbel⟩ := hrel
    have HA := Lib.hid hall
    have HB := Lib.hid hbel
    clear hall hbel
    by_cases hlt : k < ls.length
    · obtain ⟨b, off, hao, c0, c1, c2, c3, c4⟩ := (HR.out.below HB.out).place k hlt
      subst hao
      obtain ⟨x, hx⟩ : ∃ x, x = ls[k] := ⟨_, rfl⟩
      rw [← hx] at c0 c1 c2 c3 c4
      have hmay := fun w => may_any x w
      cases hm : x.may
      · rw [hm] at hmay
        have HM := Lib.hid hmay
        have HF := Lib.hid (all_take_no hlt (by rw [← hx]; exact hm))
        clear hmay hm hx
        go_wp2_with fail
        refine (HM.out _).mono ?_
        rintro e w1 ⟨rfl, b1⟩
        go_wp2_with fail
        go_ret
        exact ⟨by rw [HF.out]; rfl, (HB.out.alloc HB.out.size _).trans (b1.mono (by have := HB.out.size; simp; omega))⟩
      · rw [hm] at hmay
        have HM := Lib.hid hmay
        have HF := Lib.hid (all_take_yes hlt HA.out (by rw [← hx]; exact hm))
        clear hmay hm hx
        go_wp2_with fail
        refine (HM.out _).mono ?_
        rintro e w1 ⟨rfl, b1⟩
        have HB1 := Lib.hid ((HB.out.alloc HB.out.size x.box).trans (b1.mono (by have := HB.out.size; simp; omega)))
        clear b1
        go_wp2_with fail
        go_roundw
        case rel => exact ⟨k + 1, by go_num, by omega, HF.out, HB1.out⟩
        case measure => simp [intOf]; omega
    · obtain rfl : k = ls.length := by omega
      clear hlt
      go_wp2_with fail
      go_ret
      exact ⟨by rw [← HA.out, List.take_length]; rfl, HB.out⟩
end Go.Proofs.Ytijdlihodpodjaa
