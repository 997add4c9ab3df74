/-
  battenlaw04.few.
-/
import Derived.Test.YtijdlihodpodjaaQTrmA
import Derived.Test.YtijdlihodpodjaaQTrmD
import Derived.Test.YtijdlihodpodjaaQTrmWorks
namespace Go.Proofs.Ytijdlihodpodjaa
open Go.RowKit Go.Shelf Lvl Trm

def Trm.fewB (t : Tm) (l : List Tm) : Bool := !t.deep && (decide (l.length ≤ 10) && l.all (fun x => !x.deep))
def Trm.FewRel (w : World) (o : Obj) (l : List Tm) (i : Value) (wr : World) : Prop :=
  ∃ k : Nat, i = .int .i64 k ∧ k ≤ l.length ∧ Kept w wr o ∧ ∀ j, ∀ h : j < l.length, j < k → l[j].deep = false

set_option maxRecDepth 100000 in
set_option maxHeartbeats 2000000 in
theorem few_all (t : Tm) (h : Hd) (l : List Tm) (lo : Option Addr) (lc : Nat) (w : World) (hin : t.In w.heap.size w h) (hl : RowIn w.heap.size w lo 0 l) :
    Calls Try.prog 31 #[t.val h, .slice lo l.length lc] w fun e w' => e = .returned (.bool (fewB t l)) ∧ Below w.heap.size w w' := by
  have HD := Lib.hid (fun (W : World) (hW : Below w.heap.size w W) => Deep_any t h W (carry hin hW))
  have HL := Lib.hid hl
  have HB1 := Lib.hid (below_one w (t.box h))
  obtain ⟨G, hG⟩ : ∃ G, G = fewB t l := ⟨_, rfl⟩
  rw [← hG]
  unfold fewB at hG
  unfold Tm.val at HD ⊢
  dsimp only [Tm.vals] at HD ⊢
  clear hin hl
  cases hd : t.deep
  · rw [hd] at HD hG
    by_cases h10 : l.length ≤ 10
    · have HG : Hid (G = l.all (fun x => !x.deep)) := Lib.hid (by rw [hG, decide_eq_true h10]; simp)
      have d1 : decide ((10 : Int) < l.length) = false := by simp; omega
      clear hG hd
      go_enter Try.func31, Try.ntmps31
      go_wp2_with fail
      refine (HD.out _ HB1.out).mono ?_
      rintro e w1 ⟨rfl, b1⟩
      have HK1 := Lib.hid ((Kept.start w (t.box h)).step b1)
      clear b1
      go_wp2_with fail
      go_loopw [5] (fun i wr => FewRel w (t.box h) l i wr) (fun i _ => l.length - (intOf i).toNat)
      case atStart => exact ⟨0, rfl, by omega, HK1.out, fun j h hj => by omega⟩
      case round =>
        obtain ⟨k, rfl, hk, hkept, hall⟩ := hrel
        have HK := Lib.hid hkept
        have HA := Lib.hid hall
        clear hkept hall
        by_cases hlt : k < l.length
        · obtain ⟨b, off, rfl, hb, hx, ⟨p0, p1, p2, p3, p4⟩, hi⟩ := (HL.out.below HK.out.bel).place k hlt
          rw [Nat.zero_add] at p0 p1 p2 p3 p4
          have HI := Lib.hid (Tm.In.mono HK.out.bel.size _ _ hi)
          have HXD := Lib.hid (fun (W : World) (hW : Below wr.heap.size wr W) => Deep_any l[k] hx W (carry HI.out hW))
          have HBAD : Hid (l[k].deep = true → G = false) := Lib.hid (fun hh => by
            rw [HG.out, List.all_eq_false]
            exact ⟨_, List.getElem_mem hlt, by simp [hh]⟩)
          generalize hxk : l[k] = x at p0 p1 p2 p3 p4 HXD HBAD
          unfold Tm.val at HXD
          dsimp only [Tm.vals] at HXD
          clear hi
          cases hxd : x.deep
          · rw [hxd] at HXD
            go_wp2_with fail
            refine (HXD.out _ (Below.refl _ _)).mono ?_
            rintro e w2 ⟨rfl, b2⟩
            have HK2 := Lib.hid (HK.out.step b2)
            clear b2 p0 p1 p2 p3 p4
            go_wp2_with fail
            go_roundw
            case rel => exact ⟨k + 1, by go_num, by omega, HK2.out, fun j h hj => by
              by_cases hjk : j = k
              · subst hjk; rw [hxk]; exact hxd
              · exact HA.out j h (by omega)⟩
            case measure => simp [intOf]; omega
          · rw [hxd] at HXD
            have HE := Lib.hid (HBAD.out hxd)
            go_wp2_with fail
            refine (HXD.out _ (Below.refl _ _)).mono ?_
            rintro e w2 ⟨rfl, b2⟩
            have HK2 := Lib.hid (HK.out.step b2)
            clear b2 p0 p1 p2 p3 p4 hxd
            go_wp2_with fail
            go_ret
            exact ⟨ret_bool HE.out.symm, HK2.out.bel⟩
        · have HE : Hid (G = true) := Lib.hid (by
            rw [HG.out, List.all_eq_true]
            intro y hy
            obtain ⟨i, hi, rfl⟩ := List.getElem_of_mem hy
            rw [HA.out i hi (by omega)]; rfl)
          go_wp2_with fail
          go_ret
          exact ⟨ret_bool HE.out.symm, HK.out.bel⟩
    · have hE : G = false := by rw [hG, decide_eq_false h10]; simp
      have d1 : decide ((10 : Int) < l.length) = true := by simp; omega
      subst hE
      clear hG hd
      go_enter Try.func31, Try.ntmps31
      go_wp2_with fail
      refine (HD.out _ HB1.out).mono ?_
      rintro e w1 ⟨rfl, b1⟩
      have HK1 := Lib.hid ((Kept.start w (t.box h)).step b1)
      clear b1
      go_wp2_with fail
      go_ret
      exact ⟨rfl, HK1.out.bel⟩
  · rw [hd] at HD hG
    have hE : G = false := by rw [hG]; simp
    subst hE
    clear hG hd
    go_enter Try.func31, Try.ntmps31
    go_wp2_with fail
    refine (HD.out _ HB1.out).mono ?_
    rintro e w1 ⟨rfl, b1⟩
    have HK1 := Lib.hid ((Kept.start w (t.box h)).step b1)
    clear b1
    go_wp2_with fail
    go_ret
    exact ⟨rfl, HK1.out.bel⟩
theorem few_any (t : Tm) (h : Hd) (l : List Tm) (lo : Option Addr) (lc : Nat) (w : World) (hin : t.In w.heap.size w h) (hl : RowIn w.heap.size w lo 0 l) (_ : l.length ≤ 1000000) :
    Calls Try.prog 31 #[t.val h, .slice lo l.length lc] w fun e w' => e = .returned (.bool (fewB t l)) ∧ Below w.heap.size w w' := few_all t h l lo lc w hin hl
end Go.Proofs.Ytijdlihodpodjaa
