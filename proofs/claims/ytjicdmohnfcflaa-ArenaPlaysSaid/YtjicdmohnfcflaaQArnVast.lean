/-
  battenref05.Vast: is there more of terms than a law looks at?
-/
import Derived.Test.YtjicdmohnfcflaaQB7
namespace Go.Proofs.Ytjicdmohnfcflaa
open Go.RowKit Go.Shelf Lvl Trm

namespace Arn
/-- What Vast answers. -/
def vast (l : List Tm) (most nodes : Int) : Bool := decide (most < l.length) || (l.any Tm.deep || decide (nodes < sizeL l))
def VaRel (w : World) (l : List Tm) (n i : Value) (wr : World) : Prop :=
  ∃ (k : Nat) (L : Int), n = .int .i64 L ∧ i = .int .i64 k ∧ k ≤ l.length ∧ 0 ≤ L ∧ L ≤ k * 131072 ∧ L + sizeL (l.drop k) = sizeL l ∧ (∀ j (h : j < l.length), j < k → (l[j]).deep = false) ∧ Below w.heap.size w wr
end Arn
open Arn

set_option maxRecDepth 100000 in
set_option maxHeartbeats 4000000 in
theorem Vast_any (l : List Tm) (lo : Option Addr) (lc : Nat) (most nodes : Int) (w : World) (hl : RowIn w.heap.size w lo 0 l) (hm : most ≤ 1000) :
    Calls Try.prog 4 #[.slice lo l.length lc, .int .i64 most, .int .i64 nodes] w fun e w' => e = .returned (.bool (vast l most nodes)) ∧ Below w.heap.size w w' := by
  obtain ⟨G, hG⟩ : ∃ G, G = vast l most nodes := ⟨_, rfl⟩
  rw [← hG]
  by_cases hlen : most < l.length
  · have hE : true = G := by rw [hG]; unfold vast; rw [decide_eq_true hlen]; rfl
    have d1 : decide (most < (l.length : Int)) = true := decide_eq_true hlen
    subst hE
    clear hG hl
    go_enter Try.func4, Try.ntmps4
    go_wp2_with fail
    go_ret
    exact ⟨rfl, Below.refl _ _⟩
  · have d1 : decide (most < (l.length : Int)) = false := decide_eq_false hlen
    have HL := Lib.hid hl
    have HG : Hid (G = (l.any Tm.deep || decide (nodes < sizeL l))) := Lib.hid (by rw [hG]; unfold vast; rw [d1, Bool.false_or])
    have hlx : (l.length : Int) ≤ 1000 := by omega
    clear hG hl
    go_enter Try.func4, Try.ntmps4
    go_wp2_with fail
    go_loopw [7, 8] (fun n i wr => VaRel w l n i wr) (fun _ i _ => l.length - (intOf i).toNat)
    case atStart => exact ⟨0, 0, rfl, rfl, by omega, by omega, by omega, by rw [List.drop_zero]; omega, fun j _ hj => by omega, Below.refl _ _⟩
    case round =>
      obtain ⟨k, L, rfl, rfl, hk, hL0, hL1, hsum, hall, hbel⟩ := hrel
      have HB := Lib.hid hbel
      have HS := Lib.hid hsum
      have HA := Lib.hid hall
      clear hbel hsum hall
      by_cases hlt : k < l.length
      · obtain ⟨b, off, rfl, hb, hx, ⟨p0, p1, p2, p3, p4⟩, hi⟩ := (HL.out.below HB.out).place k hlt
        rw [Nat.zero_add] at p0 p1 p2 p3 p4
        have HI := Lib.hid (Tm.In.mono HB.out.size _ _ hi)
        have hbz : b < wr.heap.size := by have := HB.out.size; omega
        have HXD := Lib.hid (fun (W : World) (hW : Below wr.heap.size wr W) => Deep_any l[k] hx W (carry HI.out hW))
        have HXS := Lib.hid (fun (hd : l[k].deep = false) (W : World) (hW : Below wr.heap.size wr W) => Size_any l[k] hx W (by have := deep_size hd; omega) (carry HI.out hW))
        have HBAD : Hid (l[k].deep = true → G = true) := Lib.hid (fun hh => by
          rw [HG.out, show l.any Tm.deep = true from List.any_eq_true.2 ⟨_, List.getElem_mem hlt, hh⟩, Bool.true_or])
        have HNX : Hid (L + l[k].size + sizeL (l.drop (k + 1)) = sizeL l) := Lib.hid (by have h1 := HS.out; rw [sizeL_drop hlt] at h1; omega)
        have HXZ := Lib.hid (fun (hd : l[k].deep = false) => (⟨deep_size hd, l[k].size_pos⟩ : l[k].size ≤ 131072 ∧ _))
        have hk0 : (0 : Int) ≤ (k : Int) := Int.natCast_nonneg _
        have hk1 : (k : Int) < (l.length : Int) := by omega
        have HC := Lib.hid (show TCells wr b (off + k * 5) l[k] hx from ⟨p0, p1, p2, p3, p4⟩)
        generalize hxk : l[k] = x at p0 p1 p2 p3 p4 HXD HBAD HXS HNX HXZ HC
        unfold Tm.val at HXD HXS
        dsimp only [Tm.vals] at HXD HXS
        clear hi
        cases hxd : x.deep
        · rw [hxd] at HXD
          have HXS1 := Lib.hid (HXS.out hxd)
          obtain ⟨hz1, hz2⟩ := HXZ.out hxd
          obtain ⟨X, hX⟩ : ∃ X, X = x.size := ⟨_, rfl⟩
          rw [← hX] at HXS1 HNX hz1 hz2
          have hsm : L + X ≤ 1000000000 := by omega
          clear hX HXS HXZ
          go_wp2_with fail
          refine (HXD.out _ (Below.refl _ _)).mono ?_
          rintro e w2 ⟨rfl, b2⟩
          have HB2 := Lib.hid b2
          obtain ⟨q0, q1, q2, q3, q4⟩ := HC.out.below b2 hbz
          clear b2 p0 p1 p2 p3 p4
          go_wp2_with fail
          refine (HXS1.out _ HB2.out).mono ?_
          rintro e w3 ⟨rfl, b3⟩
          have HB3 := Lib.hid (Trm.go HB.out (Trm.go HB2.out b3))
          clear b3 q0 q1 q2 q3 q4
          go_wp2_with fail
          go_roundw
          case rel => exact ⟨k + 1, L + X, by go_num, by go_num, by omega, by omega, by omega, HNX.out, fun j h hj => by
            by_cases hjk : j = k
            · subst hjk; rw [hxk]; exact hxd
            · exact HA.out j h (by omega), HB3.out⟩
          case measure => simp [intOf]; omega
        · rw [hxd] at HXD
          have HE := Lib.hid (HBAD.out hxd)
          go_wp2_with fail
          refine (HXD.out _ (Below.refl _ _)).mono ?_
          rintro e w2 ⟨rfl, b2⟩
          have HB2 := Lib.hid (Trm.go HB.out b2)
          clear b2 p0 p1 p2 p3 p4 hxd
          go_wp2_with fail
          go_ret
          exact ⟨ret_bool HE.out.symm, HB2.out⟩
      · have hE : G = decide (nodes < L) := by
          have h1 := HS.out
          rw [List.drop_eq_nil_of_le (by omega), sizeL] at h1
          rw [HG.out, show l.any Tm.deep = false from List.any_eq_false.2 (fun y hy => by
            obtain ⟨i, hi, rfl⟩ := List.getElem_of_mem hy
            rw [HA.out i hi (by omega)]; simp), Bool.false_or]
          congr 1
          rw [← h1, Int.add_zero]
        have HE := Lib.hid hE
        clear hE
        go_wp2_with fail
        go_ret
        exact ⟨ret_bool HE.out.symm, HB.out⟩
end Go.Proofs.Ytjicdmohnfcflaa

