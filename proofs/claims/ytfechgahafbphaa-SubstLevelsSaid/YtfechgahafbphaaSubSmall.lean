/-
  battenlaw04.small.
-/
import Derived.Test.YtfechgahafbphaaTrmSize
import Derived.Test.YtfechgahafbphaaTrmFirmS
import Derived.Test.YtfechgahafbphaaTrmWorks
import Derived.Test.YtfechgahafbphaaTrmRefFree
import Derived.Test.YtfechgahafbphaaSubInstMath
namespace Go.Proofs.Ytfechgahafbphaa
open Go.RowKit Go.Shelf Lvl Trm

def Trm.smallT (x : Tm) : Bool := !x.deep && (x.may && (decide (x.size ≤ 30) && decide (x.free ≤ 1000)))
def Trm.SmRel (w : World) (l : List Tm) (i : Value) (wr : World) : Prop :=
  ∃ k : Nat, i = .int .i64 k ∧ k ≤ l.length ∧ Below w.heap.size w wr ∧ ∀ j, ∀ h : j < l.length, j < k → smallT l[j] = true

set_option maxRecDepth 100000 in
set_option maxHeartbeats 8000000 in
theorem small_any (l : List Tm) (lo : Option Addr) (lc : Nat) (w : World) (hl : RowIn w.heap.size w lo 0 l) (hln : l.length ≤ 1000000) :
    Calls Try.prog 80 #[.slice lo l.length lc] w fun e w' => e = .returned (.bool (l.all smallT)) ∧ Below w.heap.size w w' := by
  have HL := Lib.hid hl
  have HB0 := Lib.hid (Below.refl w.heap.size w)
  obtain ⟨G, hG⟩ : ∃ G, G = l.all smallT := ⟨_, rfl⟩
  rw [← hG]
  have HG := Lib.hid hG
  clear hl hG
  go_enter Try.func80, Try.ntmps80
  go_wp2_with fail
  go_loopw [3] (fun i wr => SmRel w l i wr) (fun i _ => l.length - (intOf i).toNat)
  case atStart => exact ⟨0, rfl, by omega, HB0.out, fun j h hj => by omega⟩
  case round =>
    obtain ⟨k, rfl, hk, hbel, hall⟩ := hrel
    have HB := Lib.hid hbel
    have HA := Lib.hid hall
    clear hbel hall
    by_cases hlt : k < l.length
    · obtain ⟨b, off, rfl, hat⟩ := (HL.out.below HB.out).place k hlt
      rw [Nat.zero_add] at hat
      obtain ⟨hb, hx, hc, hi⟩ := hat
      have hbz := HB.out.size
      have hbw : b < wr.heap.size := by omega
      have HC := Lib.hid hc
      have HI := Lib.hid (Tm.In.mono hbz _ _ hi)
      have HBAD : Hid (smallT l[k] = false → G = false) := Lib.hid (fun hh => by
        rw [HG.out, List.all_eq_false]
        exact ⟨_, List.getElem_mem hlt, by simp [hh]⟩)
      obtain ⟨c0, c1, c2, c3, c4⟩ := hc
      generalize hxk : l[k] = x at HC HI HBAD c0 c1 c2 c3 c4
      have HD := Lib.hid (fun (W : World) (hW : Below wr.heap.size wr W) => Deep_any x hx W (carry HI.out hW))
      have HM := Lib.hid (fun (W : World) (hW : Below wr.heap.size wr W) => RefTMay_any x hx W (carry HI.out hW))
      have HZ := Lib.hid (fun (W : World) (hm : x.may = true) (hW : Below wr.heap.size wr W) => Size_any x hx W (by have := may_size' hm; omega) (carry HI.out hW))
      have HF := Lib.hid (fun (W : World) (hm : x.may = true) (hW : Below wr.heap.size wr W) => RefFree_any x hx W hm (carry HI.out hW))
      unfold Tm.val at HD HM HZ HF
      dsimp only [Tm.vals] at HD HM HZ HF
      clear hi
      have HR0 := Lib.hid (Below.refl wr.heap.size wr)
      go_wp2_with fail
      refine (HD.out _ (Below.refl _ _)).mono ?_
      rintro e w1 ⟨rfl, b1⟩
      have HR1 := Lib.hid (Trm.go HR0.out b1)
      clear b1 c0 c1 c2 c3 c4
      cases hd : x.deep
      case true =>
        have HE := Lib.hid (HBAD.out (by unfold smallT; rw [hd]; rfl))
        clear hxk
        go_wp2_with fail
        go_ret
        exact ⟨ret_bool HE.out.symm, HB.out.trans (HR1.out.mono hbz)⟩
      case false =>
        obtain ⟨c0, c1, c2, c3, c4⟩ := HC.out.below HR1.out hbw
        go_wp2_with fail
        refine (HM.out _ HR1.out).mono ?_
        rintro e w2 ⟨rfl, b2⟩
        have HR2 := Lib.hid (Trm.go HR1.out b2)
        clear b2 c0 c1 c2 c3 c4
        cases hm : x.may
        case false =>
          have HE := Lib.hid (HBAD.out (by unfold smallT; rw [hd, hm]; rfl))
          clear hxk
          go_wp2_with fail
          go_ret
          exact ⟨ret_bool HE.out.symm, HB.out.trans (HR2.out.mono hbz)⟩
        case true =>
          obtain ⟨c0, c1, c2, c3, c4⟩ := HC.out.below HR2.out hbw
          go_wp2_with fail
          refine (HZ.out _ hm HR2.out).mono ?_
          rintro e w3 ⟨rfl, b3⟩
          have HR3 := Lib.hid (Trm.go HR2.out b3)
          clear b3 c0 c1 c2 c3 c4
          by_cases hz : x.size ≤ 30
          case neg =>
            have d1 : decide (30 < x.size) = true := by simp; omega
            have HE := Lib.hid (HBAD.out (by unfold smallT; rw [hd, hm, decide_eq_false hz]; rfl))
            clear hxk
            go_wp2_with fail
            go_ret
            exact ⟨ret_bool HE.out.symm, HB.out.trans (HR3.out.mono hbz)⟩
          case pos =>
            have d1 : decide (30 < x.size) = false := by simp; omega
            obtain ⟨c0, c1, c2, c3, c4⟩ := HC.out.below HR3.out hbw
            go_wp2_with fail
            refine (HF.out _ hm HR3.out).mono ?_
            rintro e w4 ⟨rfl, b4⟩
            have HR4 := Lib.hid (Trm.go HR3.out b4)
            clear b4 c0 c1 c2 c3 c4
            by_cases hf : x.free ≤ 1000
            case neg =>
              have d2 : decide (1000 < x.free) = true := by simp; omega
              have HE := Lib.hid (HBAD.out (by unfold smallT; rw [hd, hm, decide_eq_true hz, decide_eq_false hf]; rfl))
              clear hxk
              go_wp2_with fail
              go_ret
              exact ⟨ret_bool HE.out.symm, HB.out.trans (HR4.out.mono hbz)⟩
            case pos =>
              have d2 : decide (1000 < x.free) = false := by simp; omega
              have HSM : Hid (smallT x = true) := Lib.hid (by unfold smallT; rw [hd, hm, decide_eq_true hz, decide_eq_true hf]; rfl)
              clear hd hm hz hf
              go_wp2_with fail
              go_roundw
              case rel => exact ⟨k + 1, by go_num, by omega, HB.out.trans (HR4.out.mono hbz), fun j h hj => by
                by_cases hjk : j = k
                · subst hjk; rw [hxk]; exact HSM.out
                · exact HA.out j h (by omega)⟩
              case measure => simp [intOf]; omega
    · have HE : Hid (G = true) := Lib.hid (by
        rw [HG.out, List.all_eq_true]
        intro y hy
        obtain ⟨i, hi, rfl⟩ := List.getElem_of_mem hy
        exact HA.out i hi (by omega))
      go_wp2_with fail
      go_ret
      exact ⟨ret_bool HE.out.symm, HB.out⟩
namespace Trm
theorem row_one {w : World} {g : Nat} {x : Tm} {h : Hd} (hg : w.heap[g]? = some (.cells #[.int .u8 x.k, .int .i64 x.n, .string x.s, .slice h.lo x.ls.length h.lc, .slice h.to x.ts.length h.tc] 60)) (hi : x.In w.heap.size w h) : RowIn w.heap.size w (some ⟨g, 0, none⟩) 0 [x] := RowIn.mk fun k hk => by
  have hk0 : k = 0 := by simp at hk; omega
  subst hk0
  exact ⟨g, 0, rfl, (Array.getElem?_eq_some_iff.1 hg).1, h, Tm.cells hg, hi⟩
theorem row_two {w : World} {g : Nat} {x y : Tm} {h k : Hd} (hg : w.heap[g]? = some (.cells #[.int .u8 x.k, .int .i64 x.n, .string x.s, .slice h.lo x.ls.length h.lc, .slice h.to x.ts.length h.tc, .int .u8 y.k, .int .i64 y.n, .string y.s, .slice k.lo y.ls.length k.lc, .slice k.to y.ts.length k.tc] 60)) (hi : x.In w.heap.size w h) (hj : y.In w.heap.size w k) : RowIn w.heap.size w (some ⟨g, 0, none⟩) 0 [x, y] := RowIn.mk fun i hk => by
  have hb := (Array.getElem?_eq_some_iff.1 hg).1
  have hk0 : i = 0 ∨ i = 1 := by simp at hk; omega
  rcases hk0 with rfl | rfl
  · exact ⟨g, 0, rfl, hb, h, ⟨by simp [World.cell?, hg], by simp [World.cell?, hg], by simp [World.cell?, hg], by simp [World.cell?, hg], by simp [World.cell?, hg]⟩, hi⟩
  · exact ⟨g, 0, rfl, hb, k, ⟨by simp [World.cell?, hg], by simp [World.cell?, hg], by simp [World.cell?, hg], by simp [World.cell?, hg], by simp [World.cell?, hg]⟩, hj⟩
theorem row_three {w : World} {g : Nat} {x y z : Tm} {h k l : Hd} (hg : w.heap[g]? = some (.cells #[.int .u8 x.k, .int .i64 x.n, .string x.s, .slice h.lo x.ls.length h.lc, .slice h.to x.ts.length h.tc, .int .u8 y.k, .int .i64 y.n, .string y.s, .slice k.lo y.ls.length k.lc, .slice k.to y.ts.length k.tc, .int .u8 z.k, .int .i64 z.n, .string z.s, .slice l.lo z.ls.length l.lc, .slice l.to z.ts.length l.tc] 60)) (hi : x.In w.heap.size w h) (hj : y.In w.heap.size w k) (hl : z.In w.heap.size w l) : RowIn w.heap.size w (some ⟨g, 0, none⟩) 0 [x, y, z] := RowIn.mk fun i hk => by
  have hb := (Array.getElem?_eq_some_iff.1 hg).1
  have hk0 : i = 0 ∨ i = 1 ∨ i = 2 := by simp at hk; omega
  rcases hk0 with rfl | rfl | rfl
  · exact ⟨g, 0, rfl, hb, h, ⟨by simp [World.cell?, hg], by simp [World.cell?, hg], by simp [World.cell?, hg], by simp [World.cell?, hg], by simp [World.cell?, hg]⟩, hi⟩
  · exact ⟨g, 0, rfl, hb, k, ⟨by simp [World.cell?, hg], by simp [World.cell?, hg], by simp [World.cell?, hg], by simp [World.cell?, hg], by simp [World.cell?, hg]⟩, hj⟩
  · exact ⟨g, 0, rfl, hb, l, ⟨by simp [World.cell?, hg], by simp [World.cell?, hg], by simp [World.cell?, hg], by simp [World.cell?, hg], by simp [World.cell?, hg]⟩, hl⟩
theorem small_of {x : Tm} (h : smallT x = true) : x.may = true ∧ x.size ≤ 30 ∧ x.free ≤ 1000 := by
  unfold smallT at h
  simp only [Bool.and_eq_true, decide_eq_true_eq] at h
  exact ⟨h.2.1, h.2.2.1, h.2.2.2⟩
theorem smalls3 {x y z : Tm} (h : [x, y, z].all smallT = true) : (x.may = true ∧ x.size ≤ 30 ∧ x.free ≤ 1000) ∧ (y.may = true ∧ y.size ≤ 30 ∧ y.free ≤ 1000) ∧ z.may = true ∧ z.size ≤ 30 ∧ z.free ≤ 1000 := by
  rw [List.all_eq_true] at h
  exact ⟨small_of (h x (by simp)), small_of (h y (by simp)), small_of (h z (by simp))⟩
theorem smalls2 {x y : Tm} (h : [x, y].all smallT = true) : (x.may = true ∧ x.size ≤ 30 ∧ x.free ≤ 1000) ∧ y.may = true ∧ y.size ≤ 30 ∧ y.free ≤ 1000 := by
  rw [List.all_eq_true] at h
  exact ⟨small_of (h x (by simp)), small_of (h y (by simp))⟩
end Trm
end Go.Proofs.Ytfechgahafbphaa
